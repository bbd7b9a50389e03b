/- What the exact laws do with an atom of a query: sized, copied, compared, marked, looked at. -/
import Derived.Test.YtklamhnecncenaaExact
import Derived.Test.YtklamhnecncenaaTabOpen
namespace Go.Proofs.Ytklamhnecncenaa.Atom
open Go Go.RowKit Byt Ints IntsLaw Cd Rows2 Tab TabSpec Exact

abbrev A2 := ByteArray × List Int
/-- The slice's length is at most its capacity. -/
def Room (us : List Value) : Prop := ∀ a n c, us = [.slice a n c] → n ≤ c
theorem room_of {w : World} {base : Nat} {us : List Value} {l : List Int} {fp : List Nat} (h : rowC.ow w base us l fp) : Room us := by
  obtain ⟨v, xss, fps, rfl, hown, _, _⟩ := h
  intro a n c e
  rcases hown.2 with ⟨e1, _⟩ | ⟨g, cap, cur, e1, _, _, hc, _⟩
  · rw [e1] at e
    simp only [List.cons.injEq, Value.slice.injEq, and_true] at e
    omega
  · rw [e1] at e
    simp only [List.cons.injEq, Value.slice.injEq, and_true] at e
    omega
/-- A list of numbers whose slice has room for its length. -/
def rowK : Cd (List Int) where
  n := rowC.n
  rd w S us l := rowC.rd w S us l ∧ Room us
  ow := rowC.ow
  pos := rowC.pos
  len h := rowC.len h.1
  one h := rowC.one h.1
  keep h hk := ⟨rowC.keep h.1 hk, h.2⟩
  mono h hk := ⟨rowC.mono h.1 hk, h.2⟩
  ow_rd h := ⟨rowC.ow_rd h, room_of h⟩
  ow_keep := rowC.ow_keep
  ow_lt := rowC.ow_lt
  ow_base := rowC.ow_base
def atomC : Cd A2 := Cd.pair Cd.str rowK
def atWt (nm : ByteArray) (row : List Int) : Nat := nm.size + row.length
def wtA (U : A2) : Nat := atWt U.1 U.2
set_option maxRecDepth 100000 in
theorem atom_cells {w : World} {S : Nat → Prop} {cs : List Value} {U : A2} (h : atomC.rd w S cs U) :
    ∃ u, cs = [.string U.1, u] ∧ U.1.size ≤ maxLen ∧ rowC.rd w S [u] U.2 := by
  obtain ⟨u1, u4, rfl, ⟨rfl, h1⟩, h3⟩ := h
  have hl := rowK.len h3
  match u4, hl with
  | [u], _ => exact ⟨u, rfl, h1, h3.1⟩
theorem atom_room {w : World} {S : Nat → Prop} {nm : Value} {a : Option Addr} {n c : Nat} {U : A2} (h : atomC.rd w S [nm, .slice a n c] U) : n ≤ c := by
  obtain ⟨u1, u4, e, ⟨rfl, h1⟩, h3⟩ := h
  simp only [List.cons_append, List.nil_append, List.cons.injEq] at e
  obtain ⟨_, rfl⟩ := e
  exact h3.2 a n c rfl
theorem atom_ow {w : World} {base : Nat} {nm : ByteArray} {u : Value} {row : List Int} {fp : List Nat} (h : rowC.ow w base [u] row fp) (hs : nm.size ≤ maxLen) : atomC.ow w base [.string nm, u] (nm, row) fp :=
  ⟨[.string nm], [u], [], fp, rfl, by simp, ⟨rfl, hs, rfl⟩, h⟩
theorem row_form {w : World} {S : Nat → Prop} {u : Value} {row : List Int} (h : rowC.rd w S [u] row) : ∃ a c, u = .slice a row.length c ∧ row.length ≤ 9223372036854775807 := by
  obtain ⟨a, c, e, hl, _⟩ := (row_ri h).1
  exact ⟨a, c, e, hl⟩
theorem shape_ow {w : World} {base : Nat} {us : List Value} {U : A2} {fp : List Nat} (h : atomC.ow w base us U fp) : ∃ a c, us = [.string U.1, .slice a U.2.length c] := by
  obtain ⟨u, rfl, _, h3⟩ := atom_cells (atomC.ow_rd h)
  obtain ⟨a, c, rfl, _⟩ := row_form h3
  exact ⟨a, c, rfl⟩
theorem row_of_atom {w : World} {base : Nat} {nm : ByteArray} {u : Value} {U : A2} {fp : List Nat} (h : atomC.ow w base [.string nm, u] U fp) : rowC.ow w base [u] U.2 fp := by
  obtain ⟨u1, u4, g1, g2, e1, rfl, ⟨_, _, rfl⟩, h3⟩ := h
  have h4 : rowC.ow w base u4 U.2 g2 := h3
  simp_all

theorem row2 {w : World} {k : Nat} {a b : Value} {e : TypeId} (h : w.heap[k]? = some (.cells #[a, b] e (0, 0))) :
    w.cell? ⟨k, 0, none⟩ = some a ∧ w.cell? ⟨k, 1, none⟩ = some b ∧ w.frozen? ⟨k, 0, none⟩ = false ∧ w.frozen? ⟨k, 1, none⟩ = false :=
  ⟨by simp [World.cell?, h], by simp [World.cell?, h], by simp [World.frozen?, h], by simp [World.frozen?, h]⟩
theorem set2 {w : World} {k : Nat} {a b x y : Value} (c0 : w.cell? ⟨k, 0, none⟩ = some a) (c1 : w.cell? ⟨k, 1, none⟩ = some b) :
    ((w.setCell ⟨k, 0, none⟩ x).setCell ⟨k, 1, none⟩ y).cell? ⟨k, 0, none⟩ = some x ∧ ((w.setCell ⟨k, 0, none⟩ x).setCell ⟨k, 1, none⟩ y).cell? ⟨k, 1, none⟩ = some y := by
  have e0 : (w.setCell ⟨k, 0, none⟩ x).cell? ⟨k, 0, none⟩ = some x := World.cell?_setCell_same _ _ _ c0
  have e1 : (w.setCell ⟨k, 0, none⟩ x).cell? ⟨k, 1, none⟩ = some b := by rw [World.cell?_setCell_other _ _ _ _ (by simp)]; exact c1
  exact ⟨by rw [World.cell?_setCell_other _ _ _ _ (by simp)]; exact e0, World.cell?_setCell_same _ _ _ e1⟩
structure Loc2 (w : World) (X : Nat) (a b : Value) : Prop where
  c0 : w.cell? ⟨X, 0, none⟩ = some a
  c1 : w.cell? ⟨X, 1, none⟩ = some b
  f0 : w.frozen? ⟨X, 0, none⟩ = false
  f1 : w.frozen? ⟨X, 1, none⟩ = false
theorem Loc2.of {w : World} {X : Nat} {a b : Value} {e : TypeId} (h : w.heap[X]? = some (.cells #[a, b] e (0, 0))) : Loc2 w X a b := ⟨by simp [World.cell?, h], by simp [World.cell?, h], by simp [World.frozen?, h], by simp [World.frozen?, h]⟩
theorem Loc2.keep {w w' : World} {X : Nat} {a b : Value} (h : Loc2 w X a b) (hk : w'.heap[X]? = w.heap[X]?) : Loc2 w' X a b :=
  ⟨(World.cell?_of_block (w := w) (a := ⟨X, 0, none⟩) hk).trans h.c0, (World.cell?_of_block (w := w) (a := ⟨X, 1, none⟩) hk).trans h.c1, (World.frozen?_of_block (w := w) (a := ⟨X, 0, none⟩) hk).trans h.f0, (World.frozen?_of_block (w := w) (a := ⟨X, 1, none⟩) hk).trans h.f1⟩
theorem Loc2.lt {w : World} {X : Nat} {a b : Value} (h : Loc2 w X a b) : X < w.heap.size := World.block_lt_of_cell? w _ h.c0
theorem Loc2.touched {w w' : World} {X : Nat} {a b : Value} {fp : List Nat} (h : Loc2 w X a b) (ht : Cd.Touch fp w w') (hn : X ∉ fp) : Loc2 w' X a b := h.keep (ht.block X h.lt hn)
theorem Loc2.later {w w' : World} {X : Nat} {a b : Value} (h : Loc2 w X a b) (hb : Below w.heap.size w w') : Loc2 w' X a b := h.keep (hb.block X h.lt)
theorem Loc2.set_far {w : World} {X : Nat} {a b : Value} (h : Loc2 w X a b) {p : Addr} (hp : p.block ≠ X) (v : Value) : Loc2 (w.setCell p v) X a b := h.keep (Below.heap_setCell w p v X (fun q => hp q.symm))
theorem Loc2.drew {w : World} {X : Nat} {a b : Value} (h : Loc2 w X a b) : Loc2 w.drew X a b := ⟨h.c0, h.c1, h.f0, h.f1⟩

set_option maxRecDepth 100000 in
theorem sz_atom (nm : ByteArray) (u : Value) (row : List Int) (S : Nat → Prop) (L : Nat) (w : World) (hs : nm.size ≤ maxLen) (hr : rowC.rd w S [u] row) (hL : L ≤ 1048576) :
    Calls Try.prog 137 #[.agg #[.string nm, u], .int .i64 L] w fun e w' => e = .returned (.int .i64 (leftI L (atWt nm row))) ∧ Below w.heap.size w w' := by
  have hsz : nm.size ≤ 9223372036854775807 := by unfold maxLen at hs; omega
  have HR := Lib.hid (row_form hr)
  clear hr hs
  by_cases h0 : nm.size ≤ L
  case neg =>
    have HZ := Lib.hid (show leftI L (atWt nm row) = -1 from left_no (by unfold atWt; omega))
    go_enter Try.func137, Try.ntmps137
    go_wp2
    go_ret
    exact ⟨ret_int HZ.out.symm, below_alloc _ _⟩
  have e1 : ((L - nm.size : Nat) : Int) = (L : Int) - (nm.size : Int) := by omega
  have HC := Lib.hid (fun w' => sz_ints u row (L - nm.size) w' HR.out (by omega))
  rw [e1] at HC
  have HD := Lib.hid h0
  have hge : ¬ ((L : Int) - (nm.size : Int) < 0) := by omega
  have HW := Lib.hid (show leftI (L - nm.size) row.length = leftI L (atWt nm row) by
    unfold leftI atWt
    split <;> split <;> omega)
  rw [HW.out] at HC
  have hbd : -1 ≤ leftI L (atWt nm row) ∧ leftI L (atWt nm row) ≤ 1048576 := by unfold leftI; split <;> omega
  have HN := Lib.hid (show leftI L (atWt nm row) < 0 → leftI L (atWt nm row) = -1 by unfold leftI; split <;> omega)
  clear e1 h0
  generalize leftI L (atWt nm row) = z at *
  go_enter Try.func137, Try.ntmps137
  go_wp2_with fail
  refine (HC.out _).mono ?_
  rintro e w1 ⟨rfl, rfl⟩
  by_cases hz : z < 0
  · go_wp2_with fail
    go_ret
    exact ⟨ret_int (HN.out hz).symm, below_alloc _ _⟩
  · go_wp2_with fail
    go_ret
    exact ⟨rfl, below_alloc _ _⟩

set_option maxRecDepth 100000 in
set_option maxHeartbeats 800000 in
theorem to_atom (nm : ByteArray) (u : Value) (row : List Int) (S : Nat → Prop) (w : World) (hr : rowC.rd w S [u] row) (hl : row.length ≤ 1048577) :
    Calls Try.prog 138 #[.agg #[.string nm, u]] w fun e w' => ∃ u' fp, e = .returned (.agg #[.string nm, u']) ∧ rowC.ow w' w.heap.size [u'] row fp ∧ fp.Nodup ∧ Below w.heap.size w w' := by
  have HC := Lib.hid (fun w' (hb : Below w.heap.size w w') => to_i u row S w' (Cd.later hr hb) hl)
  clear hr hl
  go_enter Try.func138, Try.ntmps138
  go_wp2_with fail
  generalize hW : ((w.alloc _).alloc _).alloc _ = W
  obtain ⟨r0, r1, r2, hz, hb0⟩ := start3 w _ _ _ hW
  clear hW
  refine (HC.out _ hb0).mono ?_
  rintro e w1 ⟨u', fp, rfl, how, hnd, hb1⟩
  obtain ⟨a1, c1, rfl⟩ := Cd.ow_slice how
  obtain ⟨d0, d1, e0, e1⟩ := row2 (row_later r2 hb1)
  obtain ⟨p0, p1, q0, q1⟩ := row2 (row_later r1 hb1)
  have HF := Lib.hid (fun b (h : b ∈ fp) => (rowC.ow_lt how b h).1)
  have HOW := Lib.hid how
  have HND := Lib.hid hnd
  have HB := Lib.hid (below_then hb0 hb1)
  have HZ := Lib.hid hz
  clear how hnd hb1 hb0 r0 r1 r2 hz
  go_wp2_with fail
  obtain ⟨k0, k1⟩ := set2 (w := w1.setCell ⟨w.heap.size + 1 + 1, 1, none⟩ (.slice a1 row.length c1)) (k := w.heap.size + 1) (x := .string nm) (y := .slice a1 row.length c1)
    ((World.cell?_setCell_other _ _ _ _ (by simp)).trans p0) ((World.cell?_setCell_other _ _ _ _ (by simp)).trans p1)
  refine bodyPost_ret (v := .agg #[.string nm, .slice a1 row.length c1]) (by simp [results, Try.results138, go_sem, k0, k1]) rfl ⟨_, fp, rfl, ?_, HND.out, ?_⟩
  · have hn : ∀ k, k < w.heap.size + 3 → k ∉ fp := fun k hk q => by
      have h1 := HF.out k q
      have h2 := HZ.out
      omega
    exact ow_setCell (ow_setCell (ow_setCell (rowC.ow_base HOW.out (by have := HZ.out; omega)) (hn _ (by show w.heap.size + 1 + 1 < _; omega)) _) (hn _ (by show w.heap.size + 1 < _; omega)) _) (hn _ (by show w.heap.size + 1 < _; omega)) _
  · exact ((HB.out.setCell (by show _ ≤ w.heap.size + 1 + 1; omega) _).setCell (by show _ ≤ w.heap.size + 1; omega) _).setCell (by show _ ≤ w.heap.size + 1; omega) _

set_option maxRecDepth 100000 in
theorem eq_atom (nm : ByteArray) (u1 u2 : Value) (row : List Int) (S1 S2 : Nat → Prop) (w : World) (h1 : rowC.rd w S1 [u1] row) (h2 : rowC.rd w S2 [u2] row) :
    Calls Try.prog 139 #[.agg #[.string nm, u1], .agg #[.string nm, u2]] w fun e w' => e = .returned (.bool true) ∧ Below w.heap.size w w' := by
  have HC := Lib.hid (fun w' (hb : Below w.heap.size w w') => eq_i u1 u2 row S1 S2 w' (Cd.later h1 hb) (Cd.later h2 hb))
  clear h1 h2
  go_enter Try.func139, Try.ntmps139
  go_wp2_with fail
  have hb0 := below_then (below_alloc w (.cells #[.string nm, u1] 130 (0, 0))) (below_alloc _ (.cells #[.string nm, u2] 130 (0, 0)))
  refine (HC.out _ hb0).mono ?_
  rintro e w1 ⟨rfl, hq⟩
  have HB := Lib.hid (below_then hb0 hq)
  clear hb0 hq
  go_wp2_with fail
  go_ret
  exact ⟨rfl, HB.out⟩



/-! The element's contracts, said of its cells. -/
theorem sz_elem (us : List Value) (U : A2) (S : Nat → Prop) (L : Nat) (w : World) (hu : atomC.rd w S us U) (hL : L ≤ 1048576) :
    Calls Try.prog 137 #[.agg us.toArray, .int .i64 L] w fun e w' => e = .returned (.int .i64 (leftI L (wtA U))) ∧ Below w.heap.size w w' := by
  obtain ⟨u, rfl, h1, h3⟩ := atom_cells hu
  exact sz_atom U.1 u U.2 S L w h1 h3 hL
theorem to_elem (us : List Value) (U : A2) (S : Nat → Prop) (w : World) (hu : atomC.rd w S us U) (hw : wtA U ≤ 1048577) :
    Calls Try.prog 138 #[.agg us.toArray] w fun e w' => ∃ us' fp, e = .returned (.agg us'.toArray) ∧ atomC.ow w' w.heap.size us' U fp ∧ fp.Nodup ∧ Below w.heap.size w w' := by
  obtain ⟨u, rfl, h1, h3⟩ := atom_cells hu
  refine (to_atom U.1 u U.2 S w h3 (by unfold wtA atWt at hw; omega)).mono ?_
  rintro e w' ⟨u', fp, rfl, how, hnd, hb⟩
  exact ⟨[.string U.1, u'], fp, rfl, atom_ow how h1, hnd, hb⟩
theorem eq_elem (us vs : List Value) (U : A2) (S S2 : Nat → Prop) (w : World) (hu : atomC.rd w S us U) (hv : atomC.rd w S2 vs U) :
    Calls Try.prog 139 #[.agg us.toArray, .agg vs.toArray] w fun e w' => e = .returned (.bool true) ∧ Below w.heap.size w w' := by
  obtain ⟨u, rfl, _, h3⟩ := atom_cells hu
  obtain ⟨u2, rfl, _, h4⟩ := atom_cells hv
  exact eq_atom U.1 u u2 U.2 S S2 w h3 h4

/-! What an argument of the laws reads as. -/
open Fits TabOpen in
set_option maxRecDepth 100000 in
theorem fits_rowK : Fits Try.prog rowK 24 := by
  refine ⟨fits_row.1, fun enc w fuel cs d ps h => ?_⟩
  obtain ⟨l, hl⟩ := fits_row.2 enc w fuel cs d ps h
  refine ⟨l, hl, fun a n c e => ?_⟩
  rcases Go.Deep.open_slice Try.underlying24 h with ⟨e1, _⟩ | ⟨a', len, cap, m, n', D, Pl, e1, _, hc, _⟩
  · rw [e1] at e
    simp only [List.cons.injEq, Value.slice.injEq, and_true] at e
    omega
  · rw [e1] at e
    simp only [List.cons.injEq, Value.slice.injEq, and_true] at e
    omega
open Fits TabOpen in
set_option maxRecDepth 100000 in
theorem fits_atom : Fits Try.prog atomC 134 :=
  fits_struct Try.underlying134 (fits_more (fits_str Try.underlying9 (by kernel_rfl)) rfl (fits_one fits_rowK rfl)) (by kernel_rfl)
open Fits TabOpen in
set_option maxRecDepth 100000 in
theorem open_atom {H : Type} {enc : TypeId × Value → H} {W : World} {base : Nat} {v : Value} {d : DataW H} {ps : List MemPlace}
    (hval : Value.okWide Try.prog W .any base 134 v) (h : DataW.Trod enc Try.prog W 0 (fun _ => true) true 134 v d ps) :
    ∃ (n : ByteArray) (u : Value) (l : List Int), v = .agg #[.string n, u] ∧ n.size ≤ maxLen ∧ rowC.rd W (· < W.heap.size) [u] l := by
  obtain ⟨cs, U, rfl, hU⟩ := open_st Try.underlying134 fits_atom hval h
  obtain ⟨u, hcs, h1, h2⟩ := atom_cells hU
  exact ⟨U.1, u, U.2, by rw [← Array.toArray_toList (xs := cs), hcs], h1, h2⟩
end Go.Proofs.Ytklamhnecncenaa.Atom
