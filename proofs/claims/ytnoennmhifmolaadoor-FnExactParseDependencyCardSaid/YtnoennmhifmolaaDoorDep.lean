/- What the exact laws do with a dependency: sized, copied, compared, marked, looked at. -/
import Derived.Test.YtnoennmhifmolaaDoorExact
import Derived.Test.YtnoennmhifmolaaDoorTabOpen
namespace Go.Proofs.YtnoennmhifmolaaDoor.Dep
open Go Go.RowKit Byt Ints IntsLaw Cd Rows2 Tab TabSpec Exact

abbrev D3 := ByteArray × List Int × Int
def int64 (x : Int) : Prop := -9223372036854775808 ≤ x ∧ x ≤ 9223372036854775807
def depC : Cd D3 := Cd.pair Cd.str (Cd.pair rowC Cd.int)
def depWt (nm : ByteArray) (row : List Int) : Nat := nm.size + row.length
def wtD (U : D3) : Nat := depWt U.1 U.2.1
set_option maxRecDepth 100000 in
theorem dep_cells {w : World} {S : Nat → Prop} {cs : List Value} {U : D3} (h : depC.rd w S cs U) :
    ∃ u, cs = [.string U.1, u, .int .i64 U.2.2] ∧ U.1.size ≤ maxLen ∧ rowC.rd w S [u] U.2.1 ∧ int64 U.2.2 := by
  obtain ⟨u1, u2, rfl, ⟨rfl, h1⟩, u3, u4, rfl, h3, ⟨rfl, h4⟩⟩ := h
  have hl := rowC.len h3
  match u3, hl with
  | [u], _ => exact ⟨u, rfl, h1, h3, h4⟩
theorem dep_rd {w : World} {S : Nat → Prop} {nm : ByteArray} {t : Int} {u : Value} {row : List Int} (h : rowC.rd w S [u] row) (hs : nm.size ≤ maxLen) (ht : int64 t) : depC.rd w S [.string nm, u, .int .i64 t] (nm, row, t) :=
  ⟨[.string nm], [u, .int .i64 t], rfl, ⟨rfl, hs⟩, [u], [.int .i64 t], rfl, h, ⟨rfl, ht⟩⟩
theorem dep_ow {w : World} {base : Nat} {nm : ByteArray} {t : Int} {u : Value} {row : List Int} {fp : List Nat} (h : rowC.ow w base [u] row fp) (hs : nm.size ≤ maxLen) (ht : int64 t) : depC.ow w base [.string nm, u, .int .i64 t] (nm, row, t) fp :=
  ⟨[.string nm], [u, .int .i64 t], [], fp, rfl, by simp, ⟨rfl, hs, rfl⟩, ⟨[u], [.int .i64 t], fp, [], rfl, by simp, h, ⟨rfl, ht, rfl⟩⟩⟩
theorem row_form {w : World} {S : Nat → Prop} {u : Value} {row : List Int} (h : rowC.rd w S [u] row) : ∃ a c, u = .slice a row.length c ∧ row.length ≤ 9223372036854775807 := by
  obtain ⟨a, c, e, hl, _⟩ := (row_ri h).1
  exact ⟨a, c, e, hl⟩
theorem shape_ow {w : World} {base : Nat} {us : List Value} {U : D3} {fp : List Nat} (h : depC.ow w base us U fp) : ∃ a c, us = [.string U.1, .slice a U.2.1.length c, .int .i64 U.2.2] := by
  obtain ⟨u, rfl, _, h3, _⟩ := dep_cells (depC.ow_rd h)
  obtain ⟨a, c, rfl, _⟩ := row_form h3
  exact ⟨a, c, rfl⟩
theorem row_of_dep {w : World} {base : Nat} {nm : ByteArray} {t : Int} {u : Value} {U : D3} {fp : List Nat} (h : depC.ow w base [.string nm, u, .int .i64 t] U fp) : rowC.ow w base [u] U.2.1 fp := by
  obtain ⟨u1, u2, g1, g2, e1, rfl, ⟨rfl, _, rfl⟩, u3, u4, g3, g4, rfl, rfl, h3, ⟨rfl, _, rfl⟩⟩ := h
  have hl := rowC.len (rowC.ow_rd h3)
  match u3, hl, h3 with
  | [x], _, h3 =>
    simp only [List.cons_append, List.nil_append, List.cons.injEq] at e1
    obtain ⟨_, rfl, _⟩ := e1
    simpa using h3

set_option maxRecDepth 100000 in
theorem sz_dep (nm : ByteArray) (t : Int) (u : Value) (row : List Int) (S : Nat → Prop) (L : Nat) (w : World) (hs : nm.size ≤ maxLen) (hr : rowC.rd w S [u] row) (hL : L ≤ 1048576) :
    Calls Tryd.prog 19 #[.agg #[.string nm, u, .int .i64 t], .int .i64 L] w fun e w' => e = .returned (.int .i64 (leftI L (depWt nm row))) ∧ Below w.heap.size w w' := by
  have hsz : nm.size ≤ 9223372036854775807 := by unfold maxLen at hs; omega
  have HR := Lib.hid (row_form hr)
  clear hr hs
  by_cases h0 : nm.size ≤ L
  case neg =>
    have HZ := Lib.hid (show leftI L (depWt nm row) = -1 from left_no (by unfold depWt; omega))
    go_enter Tryd.func19, Tryd.ntmps19
    go_wp2
    go_ret
    exact ⟨ret_int HZ.out.symm, below_alloc _ _⟩
  have e1 : ((L - nm.size : Nat) : Int) = (L : Int) - (nm.size : Int) := by omega
  have HC := Lib.hid (fun w' => sz_ints u row (L - nm.size) w' HR.out (by omega))
  rw [e1] at HC
  have HD := Lib.hid h0
  have hge : ¬ ((L : Int) - (nm.size : Int) < 0) := by omega
  have HW := Lib.hid (show leftI (L - nm.size) row.length = leftI L (depWt nm row) by
    unfold leftI depWt
    split <;> split <;> omega)
  rw [HW.out] at HC
  have hbd : -1 ≤ leftI L (depWt nm row) ∧ leftI L (depWt nm row) ≤ 1048576 := by unfold leftI; split <;> omega
  have HN := Lib.hid (show leftI L (depWt nm row) < 0 → leftI L (depWt nm row) = -1 by unfold leftI; split <;> omega)
  clear e1 h0
  generalize leftI L (depWt nm row) = z at *
  go_enter Tryd.func19, Tryd.ntmps19
  go_wp2_with fail
  refine (HC.out _).mono ?_
  rintro e w1 ⟨rfl, rfl⟩
  by_cases hz : z < 0
  · go_wp2_with fail
    go_ret
    exact ⟨ret_int (HN.out hz).symm, below_alloc _ _⟩
  · go_wp2_with fail
    go_ret
    exact ⟨rfl, below_alloc _ _⟩

set_option maxRecDepth 100000 in
set_option maxHeartbeats 800000 in
theorem to_dep (nm : ByteArray) (t : Int) (u : Value) (row : List Int) (S : Nat → Prop) (w : World) (hr : rowC.rd w S [u] row) (hl : row.length ≤ 1048577) :
    Calls Tryd.prog 21 #[.agg #[.string nm, u, .int .i64 t]] w fun e w' => ∃ u' fp, e = .returned (.agg #[.string nm, u', .int .i64 t]) ∧ rowC.ow w' w.heap.size [u'] row fp ∧ fp.Nodup ∧ Below w.heap.size w w' := by
  have HC := Lib.hid (fun w' (hb : Below w.heap.size w w') => to_i u row S w' (Cd.later hr hb) hl)
  clear hr hl
  go_enter Tryd.func21, Tryd.ntmps21
  go_wp2_with fail
  generalize hW : ((w.alloc _).alloc _).alloc _ = W
  obtain ⟨r0, r1, r2, hz, hb0⟩ := start3 w _ _ _ hW
  clear hW
  refine (HC.out _ hb0).mono ?_
  rintro e w1 ⟨u', fp, rfl, how, hnd, hb1⟩
  obtain ⟨a1, c1, rfl⟩ := Cd.ow_slice how
  obtain ⟨d0, d1, d2, e0, e1, e2⟩ := row3 (row_later r2 hb1)
  obtain ⟨p0, p1, p2, q0, q1, q2⟩ := row3 (row_later r1 hb1)
  obtain ⟨b0, b1, b2, _, _, _⟩ := row3 (row_later r0 hb1)
  have HF := Lib.hid (fun b (h : b ∈ fp) => (rowC.ow_lt how b h).1)
  have HOW := Lib.hid how
  have HND := Lib.hid hnd
  have HB := Lib.hid (below_then hb0 hb1)
  have HZ := Lib.hid hz
  clear how hnd hb1 hb0 r0 r1 r2 hz
  go_wp2_with fail
  obtain ⟨k0, k1, k2⟩ := set3 (w := (w1.setCell ⟨w.heap.size + 1 + 1, 1, none⟩ (.slice a1 row.length c1)).setCell ⟨w.heap.size + 1 + 1, 2, none⟩ (.int .i64 t)) (k := w.heap.size + 1) (x := .string nm) (y := .slice a1 row.length c1) (z := .int .i64 t)
    ((World.cell?_setCell_other _ _ _ _ (by simp)).trans ((World.cell?_setCell_other _ _ _ _ (by simp)).trans p0)) ((World.cell?_setCell_other _ _ _ _ (by simp)).trans ((World.cell?_setCell_other _ _ _ _ (by simp)).trans p1)) ((World.cell?_setCell_other _ _ _ _ (by simp)).trans ((World.cell?_setCell_other _ _ _ _ (by simp)).trans p2))
  refine bodyPost_ret (v := .agg #[.string nm, .slice a1 row.length c1, .int .i64 t]) (by simp [results, Tryd.results21, go_sem, k0, k1, k2]) rfl ⟨_, fp, rfl, ?_, HND.out, ?_⟩
  · have hn : ∀ k, k < w.heap.size + 3 → k ∉ fp := fun k hk q => by
      have h1 := HF.out k q
      have h2 := HZ.out
      omega
    exact ow_setCell (ow_setCell (ow_setCell (ow_setCell (ow_setCell (rowC.ow_base HOW.out (by have := HZ.out; omega)) (hn _ (by show w.heap.size + 1 + 1 < _; omega)) _) (hn _ (by show w.heap.size + 1 + 1 < _; omega)) _) (hn _ (by show w.heap.size + 1 < _; omega)) _) (hn _ (by show w.heap.size + 1 < _; omega)) _) (hn _ (by show w.heap.size + 1 < _; omega)) _
  · exact ((((HB.out.setCell (by show _ ≤ w.heap.size + 1 + 1; omega) _).setCell (by show _ ≤ w.heap.size + 1 + 1; omega) _).setCell (by show _ ≤ w.heap.size + 1; omega) _).setCell (by show _ ≤ w.heap.size + 1; omega) _).setCell (by show _ ≤ w.heap.size + 1; omega) _

set_option maxRecDepth 100000 in
theorem eq_dep (nm : ByteArray) (t : Int) (u1 u2 : Value) (row : List Int) (S1 S2 : Nat → Prop) (w : World) (h1 : rowC.rd w S1 [u1] row) (h2 : rowC.rd w S2 [u2] row) :
    Calls Tryd.prog 23 #[.agg #[.string nm, u1, .int .i64 t], .agg #[.string nm, u2, .int .i64 t]] w fun e w' => e = .returned (.bool true) ∧ Below w.heap.size w w' := by
  have HC := Lib.hid (fun w' (hb : Below w.heap.size w w') => eq_i u1 u2 row S1 S2 w' (Cd.later h1 hb) (Cd.later h2 hb))
  clear h1 h2
  go_enter Tryd.func23, Tryd.ntmps23
  go_wp2_with fail
  generalize hW : (w.alloc _).alloc _ = W
  obtain ⟨r0, r1, hz, hb0⟩ := start2g w _ _ hW
  clear hW hz
  refine (HC.out _ hb0).mono ?_
  rintro e w1 ⟨rfl, hq⟩
  obtain ⟨p0, p1, p2, _, _, _⟩ := row3 (row_later r0 hq)
  obtain ⟨d0, d1, d2, _, _, _⟩ := row3 (row_later r1 hq)
  have HB := Lib.hid (below_then hb0 hq)
  clear hb0 hq
  go_wp2_with fail
  go_ret
  exact ⟨rfl, HB.out⟩

set_option maxRecDepth 100000 in
theorem mark_dep (nm : ByteArray) (t : Int) (u : Value) (l : List Int) (base k0 : Nat) (fp : List Nat) (w : World) (h : rowC.ow w base [u] l fp) (hl : l.length ≤ 1048577) (hk0 : k0 ≤ 500000000) :
    Calls Tryd.prog 26 #[.agg #[.string nm, u, .int .i64 t], .int .i64 k0] w fun e w' => e = .returned (.int .i64 ((k0 + l.length : Nat) : Int)) ∧ rowC.ow w' base [u] (marks (k0 : Nat) l.length) fp ∧ Cd.Touch fp w w' := by
  have HC := Lib.hid (fun w' (hb : Below w.heap.size w w') => mark_i u l base k0 fp w' (Cd.ow_later h hb) hl hk0)
  clear h hl hk0
  generalize k0 + l.length = q at *
  go_enter Tryd.func26, Tryd.ntmps26
  go_wp2_with fail
  have hb0 := below_alloc w (.cells #[.string nm, u, .int .i64 t] 42 (0, 0))
  refine (HC.out _ hb0).mono ?_
  rintro e w1 ⟨rfl, how, ht⟩
  have HOW := Lib.hid how
  have HT := Lib.hid ((Cd.Touch.of_below hb0).trans ht)
  clear hb0 how ht
  go_wp2_with fail
  go_ret
  exact ⟨rfl, HOW.out, HT.out⟩

set_option maxRecDepth 100000 in
theorem held_dep (nm : ByteArray) (t : Int) (u : Value) (n : Nat) (S : Nat → Prop) (k0 : Nat) (w : World) (h : rowC.rd w S [u] (marks k0 n)) (hl : n ≤ 1048577) (hk0 : k0 ≤ 500000000) :
    Calls Tryd.prog 27 #[.agg #[.string nm, u, .int .i64 t], .int .i64 k0] w fun e w' => e = .returned (.int .i64 ((k0 + n : Nat) : Int)) ∧ Below w.heap.size w w' := by
  have HC := Lib.hid (fun w' (hb : Below w.heap.size w w') => held_i u n S k0 w' (Cd.later h hb) hl hk0)
  have hneg : ¬ (((k0 + n : Nat) : Int) < 0) := by omega
  clear h hl hk0
  generalize k0 + n = q at *
  go_enter Tryd.func27, Tryd.ntmps27
  go_wp2_with fail
  refine (HC.out _ (below_alloc _ _)).mono ?_
  rintro e w1 ⟨rfl, hq⟩
  have HB := Lib.hid (below_then (below_alloc _ _) hq)
  clear hq
  go_wp2_with fail
  go_ret
  exact ⟨rfl, HB.out⟩

/-! The element's contracts, said of its cells. -/
theorem sz_elem (us : List Value) (U : D3) (S : Nat → Prop) (L : Nat) (w : World) (hu : depC.rd w S us U) (hL : L ≤ 1048576) :
    Calls Tryd.prog 19 #[.agg us.toArray, .int .i64 L] w fun e w' => e = .returned (.int .i64 (leftI L (wtD U))) ∧ Below w.heap.size w w' := by
  obtain ⟨u, rfl, h1, h3, _⟩ := dep_cells hu
  exact sz_dep U.1 U.2.2 u U.2.1 S L w h1 h3 hL
theorem to_elem (us : List Value) (U : D3) (S : Nat → Prop) (w : World) (hu : depC.rd w S us U) (hw : wtD U ≤ 1048577) :
    Calls Tryd.prog 21 #[.agg us.toArray] w fun e w' => ∃ us' fp, e = .returned (.agg us'.toArray) ∧ depC.ow w' w.heap.size us' U fp ∧ fp.Nodup ∧ Below w.heap.size w w' := by
  obtain ⟨u, rfl, h1, h3, h4⟩ := dep_cells hu
  refine (to_dep U.1 U.2.2 u U.2.1 S w h3 (by unfold wtD depWt at hw; omega)).mono ?_
  rintro e w' ⟨u', fp, rfl, how, hnd, hb⟩
  exact ⟨[.string U.1, u', .int .i64 U.2.2], fp, rfl, dep_ow how h1 h4, hnd, hb⟩
theorem eq_elem (us vs : List Value) (U : D3) (S S2 : Nat → Prop) (w : World) (hu : depC.rd w S us U) (hv : depC.rd w S2 vs U) :
    Calls Tryd.prog 23 #[.agg us.toArray, .agg vs.toArray] w fun e w' => e = .returned (.bool true) ∧ Below w.heap.size w w' := by
  obtain ⟨u, rfl, _, h3, _⟩ := dep_cells hu
  obtain ⟨u2, rfl, _, h4, _⟩ := dep_cells hv
  exact eq_dep U.1 U.2.2 u u2 U.2.1 S S2 w h3 h4

/-! What an argument of the laws reads as. -/
open Fits TabOpen in
set_option maxRecDepth 100000 in
theorem fits_dep : Fits Tryd.prog depC 39 :=
  fits_struct Tryd.underlying39 (fits_more (fits_str Tryd.underlying9 (by kernel_rfl)) rfl (fits_more fits_row rfl (fits_one (fits_int Tryd.underlying3 (by kernel_rfl)) rfl))) (by kernel_rfl)
open Fits TabOpen in
set_option maxRecDepth 100000 in
theorem open_dep {H : Type} {enc : TypeId × Value → H} {W : World} {base : Nat} {v : Value} {d : DataW H} {ps : List MemPlace}
    (hval : Value.okWide Tryd.prog W .any base 39 v) (h : DataW.Trod enc Tryd.prog W 0 (fun _ => true) true 39 v d ps) :
    ∃ (n : ByteArray) (u : Value) (l : List Int) (t : Int), v = .agg #[.string n, u, .int .i64 t] ∧ n.size ≤ maxLen ∧ rowC.rd W (· < W.heap.size) [u] l ∧ int64 t := by
  obtain ⟨cs, U, rfl, hU⟩ := open_st Tryd.underlying39 fits_dep hval h
  obtain ⟨u, hcs, h1, h2, h3⟩ := dep_cells hU
  exact ⟨U.1, u, U.2.1, U.2.2, by rw [← Array.toArray_toList (xs := cs), hcs], h1, h2, h3⟩
end Go.Proofs.YtnoennmhifmolaaDoor.Dep
