/- What the exact laws do with an update: sized, copied, compared, marked, looked at. -/
import Derived.Test.YtdjgaffiildijabExact
import Derived.Test.YtdjgaffiildijabTabOpen
namespace Go.Proofs.Ytdjgaffiildijab.Upd
open Go Go.RowKit Byt Ints IntsLaw Cd Rows2 Tab TabSpec Exact

abbrev U3 := ByteArray × Bool × List Int
def updC : Cd U3 := Cd.pair Cd.str (Cd.pair Cd.bool rowC)
def updWt (nm : ByteArray) (row : List Int) : Nat := nm.size + row.length
def wtU (U : U3) : Nat := updWt U.1 U.2.2
set_option maxRecDepth 100000 in
theorem upd_cells {w : World} {S : Nat → Prop} {cs : List Value} {U : U3} (h : updC.rd w S cs U) :
    ∃ u, cs = [.string U.1, .bool U.2.1, u] ∧ U.1.size ≤ maxLen ∧ rowC.rd w S [u] U.2.2 := by
  obtain ⟨u1, u2, rfl, ⟨rfl, h1⟩, u3, u4, rfl, ⟨rfl, _⟩, h3⟩ := h
  have hl := rowC.len h3
  match u4, hl with
  | [u], _ => exact ⟨u, rfl, h1, h3⟩
theorem upd_rd {w : World} {S : Nat → Prop} {nm : ByteArray} {b : Bool} {u : Value} {row : List Int} (h : rowC.rd w S [u] row) (hs : nm.size ≤ maxLen) : updC.rd w S [.string nm, .bool b, u] (nm, b, row) :=
  ⟨[.string nm], [.bool b, u], rfl, ⟨rfl, hs⟩, [.bool b], [u], rfl, ⟨rfl, trivial⟩, h⟩
theorem upd_ow {w : World} {base : Nat} {nm : ByteArray} {b : Bool} {u : Value} {row : List Int} {fp : List Nat} (h : rowC.ow w base [u] row fp) (hs : nm.size ≤ maxLen) : updC.ow w base [.string nm, .bool b, u] (nm, b, row) fp :=
  ⟨[.string nm], [.bool b, u], [], fp, rfl, by simp, ⟨rfl, hs, rfl⟩, ⟨[.bool b], [u], [], fp, rfl, by simp, ⟨rfl, trivial, rfl⟩, h⟩⟩
theorem row_form {w : World} {S : Nat → Prop} {u : Value} {row : List Int} (h : rowC.rd w S [u] row) : ∃ a c, u = .slice a row.length c ∧ row.length ≤ 9223372036854775807 := by
  obtain ⟨a, c, e, hl, _⟩ := (row_ri h).1
  exact ⟨a, c, e, hl⟩
theorem shape_ow {w : World} {base : Nat} {us : List Value} {U : U3} {fp : List Nat} (h : updC.ow w base us U fp) : ∃ a c, us = [.string U.1, .bool U.2.1, .slice a U.2.2.length c] := by
  obtain ⟨u, rfl, _, h3⟩ := upd_cells (updC.ow_rd h)
  obtain ⟨a, c, rfl, _⟩ := row_form h3
  exact ⟨a, c, rfl⟩
theorem row_of_upd {w : World} {base : Nat} {nm : ByteArray} {b : Bool} {u : Value} {U : U3} {fp : List Nat} (h : updC.ow w base [.string nm, .bool b, u] U fp) : rowC.ow w base [u] U.2.2 fp := by
  obtain ⟨u1, u2, g1, g2, e1, rfl, ⟨_, _, rfl⟩, u3, u4, g3, g4, e2, rfl, ⟨rfl, _, rfl⟩, h3⟩ := h
  simp_all

set_option maxRecDepth 100000 in
theorem sz_upd (nm : ByteArray) (b : Bool) (u : Value) (row : List Int) (S : Nat → Prop) (L : Nat) (w : World) (hs : nm.size ≤ maxLen) (hr : rowC.rd w S [u] row) (hL : L ≤ 1048576) :
    Calls Try.prog 7 #[.agg #[.string nm, .bool b, u], .int .i64 L] w fun e w' => e = .returned (.int .i64 (leftI L (updWt nm row))) ∧ Below w.heap.size w w' := by
  have hsz : nm.size ≤ 9223372036854775807 := by unfold maxLen at hs; omega
  have HR := Lib.hid (row_form hr)
  clear hr hs
  by_cases h0 : nm.size ≤ L
  case neg =>
    have HZ := Lib.hid (show leftI L (updWt nm row) = -1 from left_no (by unfold updWt; omega))
    go_enter Try.func7, Try.ntmps7
    go_wp2
    go_ret
    exact ⟨ret_int HZ.out.symm, below_alloc _ _⟩
  have e1 : ((L - nm.size : Nat) : Int) = (L : Int) - (nm.size : Int) := by omega
  have HC := Lib.hid (fun w' => sz_ints u row (L - nm.size) w' HR.out (by omega))
  rw [e1] at HC
  have HD := Lib.hid h0
  have hge : ¬ ((L : Int) - (nm.size : Int) < 0) := by omega
  have HW := Lib.hid (show leftI (L - nm.size) row.length = leftI L (updWt nm row) by
    unfold leftI updWt
    split <;> split <;> omega)
  rw [HW.out] at HC
  have hbd : -1 ≤ leftI L (updWt nm row) ∧ leftI L (updWt nm row) ≤ 1048576 := by unfold leftI; split <;> omega
  have HN := Lib.hid (show leftI L (updWt nm row) < 0 → leftI L (updWt nm row) = -1 by unfold leftI; split <;> omega)
  clear e1 h0
  generalize leftI L (updWt nm row) = z at *
  go_enter Try.func7, Try.ntmps7
  go_wp2_with fail
  refine (HC.out _).mono ?_
  rintro e w1 ⟨rfl, rfl⟩
  by_cases hz : z < 0
  · go_wp2_with fail
    go_ret
    exact ⟨ret_int (HN.out hz).symm, below_alloc _ _⟩
  · go_wp2_with fail
    go_ret
    exact ⟨rfl, below_alloc _ _⟩

set_option maxRecDepth 100000 in
set_option maxHeartbeats 800000 in
theorem to_upd (nm : ByteArray) (b : Bool) (u : Value) (row : List Int) (S : Nat → Prop) (w : World) (hr : rowC.rd w S [u] row) (hl : row.length ≤ 1048577) :
    Calls Try.prog 10 #[.agg #[.string nm, .bool b, u]] w fun e w' => ∃ u' fp, e = .returned (.agg #[.string nm, .bool b, u']) ∧ rowC.ow w' w.heap.size [u'] row fp ∧ fp.Nodup ∧ Below w.heap.size w w' := by
  have HC := Lib.hid (fun w' (hb : Below w.heap.size w w') => to_i u row S w' (Cd.later hr hb) hl)
  clear hr hl
  go_enter Try.func10, Try.ntmps10
  go_wp2_with fail
  generalize hW : ((w.alloc _).alloc _).alloc _ = W
  obtain ⟨r0, r1, r2, hz, hb0⟩ := start3 w _ _ _ hW
  clear hW
  refine (HC.out _ hb0).mono ?_
  rintro e w1 ⟨u', fp, rfl, how, hnd, hb1⟩
  obtain ⟨a1, c1, rfl⟩ := Cd.ow_slice how
  obtain ⟨d0, d1, d2, e0, e1, e2⟩ := row3 (row_later r2 hb1)
  obtain ⟨p0, p1, p2, q0, q1, q2⟩ := row3 (row_later r1 hb1)
  have HF := Lib.hid (fun b (h : b ∈ fp) => (rowC.ow_lt how b h).1)
  have HOW := Lib.hid how
  have HND := Lib.hid hnd
  have HB := Lib.hid (below_then hb0 hb1)
  have HZ := Lib.hid hz
  clear how hnd hb1 hb0 r0 r1 r2 hz
  go_wp2_with fail
  obtain ⟨k0, k1, k2⟩ := set3 (w := w1.setCell ⟨w.heap.size + 1 + 1, 2, none⟩ (.slice a1 row.length c1)) (k := w.heap.size + 1) (x := .string nm) (y := .bool b) (z := .slice a1 row.length c1)
    ((World.cell?_setCell_other _ _ _ _ (by simp)).trans p0) ((World.cell?_setCell_other _ _ _ _ (by simp)).trans p1) ((World.cell?_setCell_other _ _ _ _ (by simp)).trans p2)
  refine bodyPost_ret (v := .agg #[.string nm, .bool b, .slice a1 row.length c1]) (by simp [results, Try.results10, go_sem, k0, k1, k2]) rfl ⟨_, fp, rfl, ?_, HND.out, ?_⟩
  · have hn : ∀ k, k < w.heap.size + 3 → k ∉ fp := fun k hk q => by
      have h1 := HF.out k q
      have h2 := HZ.out
      omega
    exact ow_setCell (ow_setCell (ow_setCell (ow_setCell (rowC.ow_base HOW.out (by have := HZ.out; omega)) (hn _ (by show w.heap.size + 1 + 1 < _; omega)) _) (hn _ (by show w.heap.size + 1 < _; omega)) _) (hn _ (by show w.heap.size + 1 < _; omega)) _) (hn _ (by show w.heap.size + 1 < _; omega)) _
  · exact (((HB.out.setCell (by show _ ≤ w.heap.size + 1 + 1; omega) _).setCell (by show _ ≤ w.heap.size + 1; omega) _).setCell (by show _ ≤ w.heap.size + 1; omega) _).setCell (by show _ ≤ w.heap.size + 1; omega) _

set_option maxRecDepth 100000 in
theorem eq_upd (nm : ByteArray) (b : Bool) (u1 u2 : Value) (row : List Int) (S1 S2 : Nat → Prop) (w : World) (h1 : rowC.rd w S1 [u1] row) (h2 : rowC.rd w S2 [u2] row) :
    Calls Try.prog 13 #[.agg #[.string nm, .bool b, u1], .agg #[.string nm, .bool b, u2]] w fun e w' => e = .returned (.bool true) ∧ Below w.heap.size w w' := by
  have HC := Lib.hid (fun w' (hb : Below w.heap.size w w') => eq_i u1 u2 row S1 S2 w' (Cd.later h1 hb) (Cd.later h2 hb))
  clear h1 h2
  go_enter Try.func13, Try.ntmps13
  go_wp2_with fail
  have hb0 := below_then (below_alloc w (.cells #[.string nm, .bool b, u1] 35 (0, 0))) (below_alloc _ (.cells #[.string nm, .bool b, u2] 35 (0, 0)))
  refine (HC.out _ hb0).mono ?_
  rintro e w1 ⟨rfl, hq⟩
  have HB := Lib.hid (below_then hb0 hq)
  clear hb0 hq
  go_wp2_with fail
  go_ret
  exact ⟨rfl, HB.out⟩



/-! The element's contracts, said of its cells. -/
theorem sz_elem (us : List Value) (U : U3) (S : Nat → Prop) (L : Nat) (w : World) (hu : updC.rd w S us U) (hL : L ≤ 1048576) :
    Calls Try.prog 7 #[.agg us.toArray, .int .i64 L] w fun e w' => e = .returned (.int .i64 (leftI L (wtU U))) ∧ Below w.heap.size w w' := by
  obtain ⟨u, rfl, h1, h3⟩ := upd_cells hu
  exact sz_upd U.1 U.2.1 u U.2.2 S L w h1 h3 hL
theorem to_elem (us : List Value) (U : U3) (S : Nat → Prop) (w : World) (hu : updC.rd w S us U) (hw : wtU U ≤ 1048577) :
    Calls Try.prog 10 #[.agg us.toArray] w fun e w' => ∃ us' fp, e = .returned (.agg us'.toArray) ∧ updC.ow w' w.heap.size us' U fp ∧ fp.Nodup ∧ Below w.heap.size w w' := by
  obtain ⟨u, rfl, h1, h3⟩ := upd_cells hu
  refine (to_upd U.1 U.2.1 u U.2.2 S w h3 (by unfold wtU updWt at hw; omega)).mono ?_
  rintro e w' ⟨u', fp, rfl, how, hnd, hb⟩
  exact ⟨[.string U.1, .bool U.2.1, u'], fp, rfl, upd_ow how h1, hnd, hb⟩
theorem eq_elem (us vs : List Value) (U : U3) (S S2 : Nat → Prop) (w : World) (hu : updC.rd w S us U) (hv : updC.rd w S2 vs U) :
    Calls Try.prog 13 #[.agg us.toArray, .agg vs.toArray] w fun e w' => e = .returned (.bool true) ∧ Below w.heap.size w w' := by
  obtain ⟨u, rfl, _, h3⟩ := upd_cells hu
  obtain ⟨u2, rfl, _, h4⟩ := upd_cells hv
  exact eq_upd U.1 U.2.1 u u2 U.2.2 S S2 w h3 h4

/-! What an argument of the laws reads as. -/
open Fits TabOpen in
set_option maxRecDepth 100000 in
theorem fits_upd : Fits Try.prog updC 27 :=
  fits_struct Try.underlying27 (fits_more (fits_str Try.underlying9 (by kernel_rfl)) rfl (fits_more (fits_bool Try.underlying4 (by kernel_rfl)) rfl (fits_one fits_row rfl))) (by kernel_rfl)
open Fits TabOpen in
set_option maxRecDepth 100000 in
theorem open_upd {H : Type} {enc : TypeId × Value → H} {W : World} {base : Nat} {v : Value} {d : DataW H} {ps : List MemPlace}
    (hval : Value.okWide Try.prog W .any base 27 v) (h : DataW.Trod enc Try.prog W 0 (fun _ => true) true 27 v d ps) :
    ∃ (n : ByteArray) (b : Bool) (u : Value) (l : List Int), v = .agg #[.string n, .bool b, u] ∧ n.size ≤ maxLen ∧ rowC.rd W (· < W.heap.size) [u] l := by
  obtain ⟨cs, U, rfl, hU⟩ := open_st Try.underlying27 fits_upd hval h
  obtain ⟨u, hcs, h1, h2⟩ := upd_cells hU
  exact ⟨U.1, U.2.1, u, U.2.2, by rw [← Array.toArray_toList (xs := cs), hcs], h1, h2⟩
end Go.Proofs.Ytdjgaffiildijab.Upd
