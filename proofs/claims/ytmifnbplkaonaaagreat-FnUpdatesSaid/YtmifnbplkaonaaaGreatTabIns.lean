/- Tables: the model's inserting. -/
import Derived.Test.YtmifnbplkaonaaaGreatTabCopy
namespace Go.Proofs.YtmifnbplkaonaaaGreat.TabSpec
open Go Go.RowKit Byt Ints IntsLaw Cd Rows2 Tab

/-- May row be inserted? -/
def InsP (nm : ByteArray) (ar : Int) (rows : List (List Int)) (row : List Int) : Prop := TabP nm ar rows ∧ rowOk row ar = true ∧ row ∉ rows ∧ rows.length ≠ 8
instance (nm : ByteArray) (ar : Int) (rows : List (List Int)) (row : List Int) : Decidable (InsP nm ar rows row) := by unfold InsP; infer_instance
def insOk (nm : ByteArray) (ar : Int) (rows : List (List Int)) (row : List Int) : Bool := decide (InsP nm ar rows row)
def insR (nm : ByteArray) (ar : Int) (rows : List (List Int)) (row : List Int) : List (List Int) := if insOk nm ar rows row then putR rows row else rows

/-- What stays: the boxed table, the result's cells, the local table x and what it owns. -/
structure Fr (w : World) (X : Nat) (nm : ByteArray) (ar : Int) (tv u' : Value) (z0 z1 z2 : Value) (rows : List (List Int)) (fp : List Nat) (W : World) : Prop where
  b : Below w.heap.size w W
  t : Loc3 W w.heap.size (.string nm) (.int .i64 ar) tv
  r : Loc3 W (w.heap.size + 1) z0 z1 z2
  x : Loc3 W X (.string nm) (.int .i64 ar) u'
  o : rowsC.ow W (w.heap.size + 2) [u'] rows fp
  n : fp.Nodup
  d : X ∉ fp
  g : w.heap.size + 2 ≤ X
theorem Fr.later {w : World} {X : Nat} {nm : ByteArray} {ar : Int} {tv u' z0 z1 z2 : Value} {rows : List (List Int)} {fp : List Nat} {W W' : World} (h : Fr w X nm ar tv u' z0 z1 z2 rows fp W) (hb : Below W.heap.size W W') : Fr w X nm ar tv u' z0 z1 z2 rows fp W' :=
  ⟨below_then h.b hb, h.t.later hb, h.r.later hb, h.x.later hb, Cd.ow_later h.o hb, h.n, h.d, h.g⟩
theorem Fr.not1 {w : World} {X : Nat} {nm : ByteArray} {ar : Int} {tv u' z0 z1 z2 : Value} {rows : List (List Int)} {fp : List Nat} {W : World} (h : Fr w X nm ar tv u' z0 z1 z2 rows fp W) : w.heap.size + 1 ∉ fp := fun q => by
  have := (rowsC.ow_lt h.o _ q).1
  omega

set_option maxRecDepth 100000 in
set_option maxHeartbeats 3200000 in
theorem spec_insert (nm : ByteArray) (ar : Int) (u v : Value) (rows : List (List Int)) (row : List Int) (S S2 : Nat → Prop) (w : World) (hr : rowsC.rd w S [u] rows) (hv : rowC.rd w S2 [v] row) (hrw : rowsWt rows ≤ 1073741824) (hrl : row.length ≤ 1073741824) :
    Calls Tryz.prog 26 #[.agg #[.string nm, .int .i64 ar, u], v] w fun e w' => ∃ u' fp, e = .returned (.tuple #[.agg #[.string nm, .int .i64 ar, u'], .bool (insOk nm ar rows row)]) ∧ rowsC.ow w' w.heap.size [u'] (insR nm ar rows row) fp ∧ fp.Nodup ∧ Below w.heap.size w w' := by
  have HR := Lib.hid (fun w' (hb : Below w.heap.size w w') => Cd.later hr hb)
  have HV := Lib.hid (fun w' (hb : Below w.heap.size w w') => Cd.later hv hb)
  have HWT := Lib.hid hrw
  have HRL := Lib.hid hrl
  obtain ⟨a, cap, rfl, hlm⟩ := rows_form hr
  obtain ⟨av, cv, rfl, _⟩ := (row_ri hv).1
  clear hr hv hrw hrl
  go_enter Tryz.func26, Tryz.ntmps26
  go_wp2_with fail
  generalize hW : (w.alloc _).alloc _ = W
  obtain ⟨r0, r1, hz, hb0⟩ := start2g w _ _ hW
  clear hW
  refine (spec_copy nm ar _ rows S W (HR.out W hb0) HWT.out).mono ?_
  rintro e W1 ⟨u', fp, rfl, how, hnd, hb1⟩
  obtain ⟨ax, cx, rfl⟩ := rows_slice how
  have l0 := (Loc3.of r0).later hb1
  have l1 := (Loc3.of r1).later hb1
  have hs1 := hb1.size
  have HFR := Lib.hid (show Fr w W1.heap.size nm ar (.slice a rows.length cap) (.slice ax rows.length cx) _ _ _ rows fp (W1.alloc (.cells #[.string nm, .int .i64 ar, .slice ax rows.length cx] 51 (0, 0))) from
    ⟨below_then (below_then hb0 hb1) (below_alloc _ _), l0.later (below_alloc _ _), l1.later (below_alloc _ _), Loc3.of (row_alloc _ _), Cd.ow_later (rowsC.ow_base how (by omega)) (below_alloc _ _), hnd, fun q => by have := (rowsC.ow_lt how _ q).2; omega, by omega⟩)
  obtain ⟨d0, d1, d2, _, _, _⟩ := l0
  have hH : w.heap.size < W1.heap.size := by omega
  have HN := Lib.hid (And.intro hH (show w.heap.size + 1 < W1.heap.size by omega))
  clear r0 r1 hz hb0 hb1 how hnd l1 hs1
  go_wp2_with fail
  generalize hW2 : W1.alloc _ = W2 at *
  generalize W1.heap.size = X at *
  clear hW2 d0 d1 d2 hH
  have HV1 := Lib.hid (spec_valid nm ar _ rows S W2 (HR.out W2 HFR.out.b))
  by_cases hok : tabOk nm ar rows = true
  case neg =>
    have hok : tabOk nm ar rows = false := by simpa using hok
    rw [hok] at HV1
    have HWHY := Lib.hid (show insOk nm ar rows row = false from decide_eq_false fun q => of_decide_eq_false hok q.1)
    clear hok
    refine HV1.out.mono ?_
    rintro e W3 ⟨rfl, hb3⟩
    have HF := Lib.hid (HFR.out.later hb3)
    clear hb3
    obtain ⟨y0, y1, y2, _, _, _⟩ := HF.out.x
    obtain ⟨p0, p1, p2, q0, q1, q2⟩ := HF.out.r
    go_wp2_with fail
    obtain ⟨k0, k1, k2⟩ := set3 (w := W3) (k := w.heap.size + 1) (x := .string nm) (y := .int .i64 ar) (z := .slice ax rows.length cx) p0 p1 p2
    refine bodyPost_ret (v := .tuple #[.agg #[.string nm, .int .i64 ar, .slice ax rows.length cx], .bool false]) (by simp [results, Tryz.results26, go_sem, k0, k1, k2]) rfl ⟨_, fp, by rw [HWHY.out], ?_, HF.out.n, ?_⟩
    · rw [insR, HWHY.out]
      exact rowsC.ow_base (ow_setCell (ow_setCell (ow_setCell HF.out.o HF.out.not1 _) HF.out.not1 _) HF.out.not1 _) (by omega)
    · exact ((HF.out.b.setCell (by show _ ≤ w.heap.size + 1; omega) _).setCell (by show _ ≤ w.heap.size + 1; omega) _).setCell (by show _ ≤ w.heap.size + 1; omega) _
  rw [hok] at HV1
  refine HV1.out.mono ?_
  rintro e W3 ⟨rfl, hb3⟩
  have HF3 := Lib.hid (HFR.out.later hb3)
  have HTP := Lib.hid (show TabP nm ar rows from of_decide_eq_true hok)
  clear hb3 hok
  obtain ⟨d0, d1, d2, _, _, _⟩ := HF3.out.t
  have HRW := Lib.hid (spec_row _ row ar _ W3 (row_ri (HV.out W3 HF3.out.b)).1)
  by_cases hrow : rowOk row ar = true
  case neg =>
    have hrow : rowOk row ar = false := by simpa using hrow
    rw [hrow] at HRW
    have HWHY := Lib.hid (show insOk nm ar rows row = false from decide_eq_false fun q => by have := q.2.1; rw [hrow] at this; exact absurd this (by decide))
    clear hrow
    go_wp2_with fail
    refine HRW.out.mono ?_
    rintro e W4 ⟨rfl, rfl⟩
    obtain ⟨y0, y1, y2, _, _, _⟩ := HF3.out.x
    obtain ⟨p0, p1, p2, q0, q1, q2⟩ := HF3.out.r
    go_wp2_with fail
    obtain ⟨k0, k1, k2⟩ := set3 (w := W3) (k := w.heap.size + 1) (x := .string nm) (y := .int .i64 ar) (z := .slice ax rows.length cx) p0 p1 p2
    refine bodyPost_ret (v := .tuple #[.agg #[.string nm, .int .i64 ar, .slice ax rows.length cx], .bool false]) (by simp [results, Tryz.results26, go_sem, k0, k1, k2]) rfl ⟨_, fp, by rw [HWHY.out], ?_, HF3.out.n, ?_⟩
    · rw [insR, HWHY.out]
      exact rowsC.ow_base (ow_setCell (ow_setCell (ow_setCell HF3.out.o HF3.out.not1 _) HF3.out.not1 _) HF3.out.not1 _) (by omega)
    · exact ((HF3.out.b.setCell (by show _ ≤ w.heap.size + 1; omega) _).setCell (by show _ ≤ w.heap.size + 1; omega) _).setCell (by show _ ≤ w.heap.size + 1; omega) _
  rw [hrow] at HRW
  have HROW := Lib.hid hrow
  clear hrow
  go_wp2_with fail
  refine HRW.out.mono ?_
  rintro e W4 ⟨rfl, rfl⟩
  have HCT := Lib.hid (spec_contains nm ar _ _ rows row S S2 W3 (HR.out W3 HF3.out.b) (HV.out W3 HF3.out.b))
  by_cases hin : row ∈ rows
  case pos =>
    have HWHY := Lib.hid (show insOk nm ar rows row = false from decide_eq_false fun q => q.2.2.1 hin)
    rw [show hasR nm ar rows row = true from decide_eq_true ⟨HTP.out, hin⟩] at HCT
    clear hin
    go_wp2_with fail
    refine HCT.out.mono ?_
    rintro e W4 ⟨rfl, hb4⟩
    have HF4 := Lib.hid (HF3.out.later hb4)
    clear hb4 d0 d1 d2
    obtain ⟨y0, y1, y2, _, _, _⟩ := HF4.out.x
    obtain ⟨p0, p1, p2, q0, q1, q2⟩ := HF4.out.r
    go_wp2_with fail
    obtain ⟨k0, k1, k2⟩ := set3 (w := W4) (k := w.heap.size + 1) (x := .string nm) (y := .int .i64 ar) (z := .slice ax rows.length cx) p0 p1 p2
    refine bodyPost_ret (v := .tuple #[.agg #[.string nm, .int .i64 ar, .slice ax rows.length cx], .bool false]) (by simp [results, Tryz.results26, go_sem, k0, k1, k2]) rfl ⟨_, fp, by rw [HWHY.out], ?_, HF4.out.n, ?_⟩
    · rw [insR, HWHY.out]
      exact rowsC.ow_base (ow_setCell (ow_setCell (ow_setCell HF4.out.o HF4.out.not1 _) HF4.out.not1 _) HF4.out.not1 _) (by omega)
    · exact ((HF4.out.b.setCell (by show _ ≤ w.heap.size + 1; omega) _).setCell (by show _ ≤ w.heap.size + 1; omega) _).setCell (by show _ ≤ w.heap.size + 1; omega) _
  rw [show hasR nm ar rows row = false from hasR_no2 hin] at HCT
  have HIN := Lib.hid hin
  clear hin
  go_wp2_with fail
  refine HCT.out.mono ?_
  rintro e W4 ⟨rfl, hb4⟩
  have HF4 := Lib.hid (HF3.out.later hb4)
  clear hb4 d0 d1 d2
  obtain ⟨d0, d1, d2, _, _, _⟩ := HF4.out.t
  by_cases h8 : rows.length = 8
  case pos =>
    have HWHY := Lib.hid (show insOk nm ar rows row = false from decide_eq_false fun q => q.2.2.2 h8)
    have h8a : ((rows.length : Int) == 8) = true := by rw [beq_iff_eq]; omega
    have h8b : decide (rows.length = 8) = true := decide_eq_true h8
    clear h8
    obtain ⟨y0, y1, y2, _, _, _⟩ := HF4.out.x
    obtain ⟨p0, p1, p2, q0, q1, q2⟩ := HF4.out.r
    go_wp2_with fail
    obtain ⟨k0, k1, k2⟩ := set3 (w := W4) (k := w.heap.size + 1) (x := .string nm) (y := .int .i64 ar) (z := .slice ax rows.length cx) p0 p1 p2
    refine bodyPost_ret (v := .tuple #[.agg #[.string nm, .int .i64 ar, .slice ax rows.length cx], .bool false]) (by simp [results, Tryz.results26, go_sem, k0, k1, k2]) rfl ⟨_, fp, by rw [HWHY.out], ?_, HF4.out.n, ?_⟩
    · rw [insR, HWHY.out]
      exact rowsC.ow_base (ow_setCell (ow_setCell (ow_setCell HF4.out.o HF4.out.not1 _) HF4.out.not1 _) HF4.out.not1 _) (by omega)
    · exact ((HF4.out.b.setCell (by show _ ≤ w.heap.size + 1; omega) _).setCell (by show _ ≤ w.heap.size + 1; omega) _).setCell (by show _ ≤ w.heap.size + 1; omega) _
  have HWHY := Lib.hid (show insOk nm ar rows row = true from decide_eq_true ⟨HTP.out, HROW.out, HIN.out, h8⟩)
  have h8i : ¬ (rows.length : Int) = 8 := by omega
  have HPUT := Lib.hid (spec_put _ _ rows row _ S2 W4 (rowsC.ow_rd HF4.out.o) (HV.out W4 HF4.out.b) HWT.out HRL.out)
  obtain ⟨y0, y1, y2, g0, g1, g2⟩ := HF4.out.x
  go_wp2_with fail
  refine HPUT.out.mono ?_
  rintro e W5 ⟨v5, fp5, rfl, ho5, hn5, hb5⟩
  obtain ⟨a5, c5, rfl⟩ := rows_slice ho5
  have hx5 : X < W4.heap.size := HF4.out.x.lt
  have hx2 := Loc3.set2 (HF4.out.x.later hb5) (.slice a5 (putR rows row).length c5)
  have HF5 := Lib.hid (show Fr w X nm ar (.slice a rows.length cap) (.slice a5 (putR rows row).length c5) _ _ _ (putR rows row) fp5 (W5.setCell ⟨X, 2, none⟩ (.slice a5 (putR rows row).length c5)) from
    ⟨(below_then HF4.out.b hb5).setCell (by show _ ≤ X; have := HF4.out.g; omega) _, (HF4.out.t.later hb5).set_far (by show X ≠ _; have := HF4.out.g; omega) _, (HF4.out.r.later hb5).set_far (by show X ≠ _; have := HF4.out.g; omega) _, hx2,
      ow_setCell (rowsC.ow_base ho5 (by have := HF4.out.g; omega)) (fun q => by have := (rowsC.ow_lt ho5 _ q).1; simp at this; omega) _, hn5, fun q => by have := (rowsC.ow_lt ho5 _ q).1; omega, HF4.out.g⟩)
  obtain ⟨z0, z1, z2, j0, j1, j2⟩ := HF4.out.x.later hb5
  clear ho5 hn5 hb5 hx5 hx2 y0 y1 y2 g0 g1 g2 d0 d1 d2
  obtain ⟨y0, y1, y2, _, _, _⟩ := HF5.out.x
  obtain ⟨p0, p1, p2, q0, q1, q2⟩ := HF5.out.r
  go_wp2_with fail
  obtain ⟨k0, k1, k2⟩ := set3 (w := (W5.setCell ⟨X, 2, none⟩ (.slice a5 (putR rows row).length c5))) (k := w.heap.size + 1) (x := .string nm) (y := .int .i64 ar) (z := .slice a5 (putR rows row).length c5) p0 p1 p2
  refine bodyPost_ret (v := .tuple #[.agg #[.string nm, .int .i64 ar, .slice a5 (putR rows row).length c5], .bool true]) (by simp [results, Tryz.results26, go_sem, k0, k1, k2]) rfl ⟨_, fp5, by rw [HWHY.out], ?_, HF5.out.n, ?_⟩
  · rw [insR, HWHY.out]
    exact rowsC.ow_base (ow_setCell (ow_setCell (ow_setCell HF5.out.o HF5.out.not1 _) HF5.out.not1 _) HF5.out.not1 _) (by omega)
  · exact ((HF5.out.b.setCell (by show _ ≤ w.heap.size + 1; omega) _).setCell (by show _ ≤ w.heap.size + 1; omega) _).setCell (by show _ ≤ w.heap.size + 1; omega) _
end Go.Proofs.YtmifnbplkaonaaaGreat.TabSpec
