/- What the exact laws do with queries: sized, copied, compared, marked, looked at. -/
import Derived.Test.YtklamhnecncenaaMkAtom
namespace Go.Proofs.Ytklamhnecncenaa.Qry
open Go Go.RowKit Byt Ints IntsLaw Cd Rows2 Tab SlMath TabSpec Exact TabOpen Atom Mark SlAtom MkAtom

def latomsC : Cd (List A2) := Cd.sl 134 atomC
theorem atoms_rd {w : World} {S : Nat → Prop} {us : List Value} {l : List A2} (h : atomsC.rd w S us l) : latomsC.rd w S us l := h
theorem rd_atoms {w : World} {S : Nat → Prop} {us : List Value} {l : List A2} (h : latomsC.rd w S us l) : atomsC.rd w S us l := h

set_option maxRecDepth 100000 in
theorem sz_q (n : Int) (v : Value) (l : List A2) (S : Nat → Prop) (L : Nat) (w : World) (hr : latomsC.rd w S [v] l) (hL : L ≤ 1048576) :
    Calls Try.prog 61 #[.agg #[.int .i64 n, v], .int .i64 L] w fun e w' => e = .returned (.int .i64 (leftI L (wtS l))) ∧ Below w.heap.size w w' := by
  have HC := Lib.hid (fun w' (hb : Below w.heap.size w w') => sz_s v l S L w' (Cd.later hr hb) hL)
  have HN := Lib.hid (show leftI L (wtS l) < 0 → leftI L (wtS l) = -1 by unfold leftI; split <;> omega)
  clear hr hL
  generalize leftI L (wtS l) = z at *
  go_enter Try.func61, Try.ntmps61
  go_wp2_with fail
  refine (HC.out _ (below_alloc _ _)).mono ?_
  rintro e w1 ⟨rfl, hb1⟩
  have HB := Lib.hid (below_then (below_alloc _ _) hb1)
  clear hb1
  by_cases hz : z < 0
  · go_wp2_with fail
    go_ret
    exact ⟨ret_int (HN.out hz).symm, HB.out⟩
  · go_wp2_with fail
    go_ret
    exact ⟨rfl, HB.out⟩

set_option maxRecDepth 100000 in
set_option maxHeartbeats 800000 in
theorem to_q (n : Int) (v : Value) (l : List A2) (S : Nat → Prop) (w : World) (hr : latomsC.rd w S [v] l) (hl : wtS l ≤ 1048577) :
    Calls Try.prog 63 #[.agg #[.int .i64 n, v]] w fun e w' => ∃ v' fp, e = .returned (.agg #[.int .i64 n, v']) ∧ atomsC.ow w' w.heap.size [v'] l fp ∧ fp.Nodup ∧ Below w.heap.size w w' := by
  have HC := Lib.hid (fun w' (hb : Below w.heap.size w w') => to_s v l S w' (Cd.later hr hb) hl)
  clear hr hl
  go_enter Try.func63, Try.ntmps63
  go_wp2_with fail
  generalize hW : ((w.alloc _).alloc _).alloc _ = W
  obtain ⟨r0, r1, r2, hz, hb0⟩ := start3 w _ _ _ hW
  clear hW
  refine (HC.out _ hb0).mono ?_
  rintro e w1 ⟨u', fp, rfl, how, hnd, hb1⟩
  obtain ⟨a1, c1, rfl⟩ := Cd.ow_slice how
  obtain ⟨d0, d1, e0, e1⟩ := row2 (row_later r2 hb1)
  obtain ⟨p0, p1, q0, q1⟩ := row2 (row_later r1 hb1)
  have HF := Lib.hid (fun b (h : b ∈ fp) => ((Cd.sl _ atomC).ow_lt how b h).1)
  have HOW := Lib.hid (show atomsC.ow w1 W.heap.size _ l fp from how)
  have HND := Lib.hid hnd
  have HB := Lib.hid (below_then hb0 hb1)
  have HZ := Lib.hid hz
  clear how hnd hb1 hb0 r0 r1 r2 hz
  go_wp2_with fail
  obtain ⟨k0, k1⟩ := set2 (w := w1.setCell ⟨w.heap.size + 1 + 1, 1, none⟩ (.slice a1 l.length c1)) (k := w.heap.size + 1) (x := .int .i64 n) (y := .slice a1 l.length c1)
    ((World.cell?_setCell_other _ _ _ _ (by simp)).trans p0) ((World.cell?_setCell_other _ _ _ _ (by simp)).trans p1)
  refine bodyPost_ret (v := .agg #[.int .i64 n, .slice a1 l.length c1]) (by simp [results, Try.results63, go_sem, k0, k1]) rfl ⟨_, fp, rfl, ?_, HND.out, ?_⟩
  · have hn : ∀ k, k < w.heap.size + 3 → k ∉ fp := fun k hk q => by
      have h1 := HF.out k q
      have h2 := HZ.out
      omega
    exact ow_setCell (ow_setCell (ow_setCell (atomsC.ow_base HOW.out (by have := HZ.out; omega)) (hn _ (by show w.heap.size + 1 + 1 < _; omega)) _) (hn _ (by show w.heap.size + 1 < _; omega)) _) (hn _ (by show w.heap.size + 1 < _; omega)) _
  · exact ((HB.out.setCell (by show _ ≤ w.heap.size + 1 + 1; omega) _).setCell (by show _ ≤ w.heap.size + 1; omega) _).setCell (by show _ ≤ w.heap.size + 1; omega) _

set_option maxRecDepth 100000 in
theorem eq_q (n : Int) (u1 u2 : Value) (l : List A2) (S1 S2 : Nat → Prop) (w : World) (h1 : atomsC.rd w S1 [u1] l) (h2 : atomsC.rd w S2 [u2] l) :
    Calls Try.prog 65 #[.agg #[.int .i64 n, u1], .agg #[.int .i64 n, u2]] w fun e w' => e = .returned (.bool true) ∧ Below w.heap.size w w' := by
  have HC := Lib.hid (fun w' (hb : Below w.heap.size w w') => eq_s u1 u2 l S1 S2 w' (Cd.later h1 hb) (Cd.later h2 hb))
  clear h1 h2
  go_enter Try.func65, Try.ntmps65
  go_wp2_with fail
  refine (HC.out _ (below_then (below_alloc _ _) (below_alloc _ _))).mono ?_
  rintro e w1 ⟨rfl, hq⟩
  have HB := Lib.hid (below_then (below_then (below_alloc _ _) (below_alloc _ _)) hq)
  clear hq
  go_wp2_with fail
  go_ret
  exact ⟨rfl, HB.out⟩



/-! What an argument of the laws reads as. -/
open Fits TabOpen in
set_option maxRecDepth 100000 in
theorem fits_q : Fits Try.prog (Cd.pair Cd.int latomsC) 73 :=
  fits_struct Try.underlying73 (fits_more (fits_int Try.underlying3 (by kernel_rfl)) rfl (fits_one fits_atoms rfl)) (by kernel_rfl)
open Fits TabOpen in
set_option maxRecDepth 100000 in
theorem open_q {H : Type} {enc : TypeId × Value → H} {W : World} {base : Nat} {v : Value} {d : DataW H} {ps : List MemPlace}
    (hval : Value.okWide Try.prog W .any base 73 v) (h : DataW.Trod enc Try.prog W 0 (fun _ => true) true 73 v d ps) :
    ∃ (n : Int) (u : Value) (l : List A2), v = .agg #[.int .i64 n, u] ∧ (-9223372036854775808 ≤ n ∧ n ≤ 9223372036854775807) ∧ atomsC.rd W (· < W.heap.size) [u] l := by
  obtain ⟨cs, U, rfl, hU⟩ := open_st Try.underlying73 fits_q hval h
  obtain ⟨u1, u2, hcs, ⟨rfl, h1⟩, h3⟩ := hU
  have hl := latomsC.len h3
  match u2, hl with
  | [u], _ => exact ⟨U.1, u, U.2, by rw [← Array.toArray_toList (xs := cs), hcs]; rfl, h1, rd_atoms h3⟩
end Go.Proofs.Ytklamhnecncenaa.Qry
