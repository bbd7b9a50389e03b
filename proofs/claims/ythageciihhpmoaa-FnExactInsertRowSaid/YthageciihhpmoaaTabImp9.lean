/- Tables: inserting: the program's function. -/
import Derived.Test.YthageciihhpmoaaTabImp8
import Derived.Test.YthageciihhpmoaaTabMath
import Derived.Test.YthageciihhpmoaaTabIns
namespace Go.Proofs.Ythageciihhpmoaa.TabImp
open Go Go.RowKit Byt Ints IntsLaw Cd Rows2 Tab TabSpec Exact

set_option maxRecDepth 100000 in
set_option maxHeartbeats 3200000 in
theorem impl_insert (nm : ByteArray) (ar : Int) (u v : Value) (rows : List (List Int)) (row : List Int) (S S2 : Nat → Prop) (w : World) (hr : rowsC.rd w S [u] rows) (hv : rowC.rd w S2 [v] row) (hrw : rowsWt rows ≤ 1048577) (hnm : nm.size ≤ 1048577) (hrl : row.length ≤ 1048577) :
    Calls Try.prog 34 #[.agg #[.string nm, .int .i64 ar, u], v] w fun e w' => ∃ u' fp, e = .returned (.tuple #[.agg #[.string nm, .int .i64 ar, u'], .bool (insOk nm ar rows row)]) ∧ rowsC.ow w' w.heap.size [u'] (insR nm ar rows row) fp ∧ fp.Nodup ∧ Below w.heap.size w w' := by
  have HR := Lib.hid (fun w' (hb : Below w.heap.size w w') => Cd.later hr hb)
  have HV := Lib.hid (fun w' (hb : Below w.heap.size w w') => Cd.later hv hb)
  have HWT := Lib.hid hrw
  have HNM := Lib.hid hnm
  have HRL := Lib.hid hrl
  obtain ⟨a, cap, rfl, hlm⟩ := rows_form hr
  obtain ⟨av, cv, rfl, _⟩ := (row_ri hv).1
  clear hr hv hrw hnm hrl
  go_enter Try.func34, Try.ntmps34
  go_wp2_with fail
  generalize hW : (w.alloc _).alloc _ = W
  obtain ⟨r0, r1, hz, hb0⟩ := start2g w _ _ hW
  clear hW
  refine (copy_table nm ar _ rows S W (HR.out W hb0) HWT.out HNM.out).mono ?_
  rintro e W1 ⟨gx, fp, rfl, how, hnd, hb1⟩
  have l0 := (Loc3.of r0).later hb1
  have l1 := (Loc3.of r1).later hb1
  have hs1 := hb1.size
  have HFR := Lib.hid (show Fr w W1.heap.size nm ar (.slice a rows.length cap) (.slice (some ⟨gx, 0, none⟩) rows.length rows.length) _ _ _ rows fp (W1.alloc (.cells #[.string nm, .int .i64 ar, .slice (some ⟨gx, 0, none⟩) rows.length rows.length] 31 (0, 0))) from
    ⟨below_then (below_then hb0 hb1) (below_alloc _ _), l0.later (below_alloc _ _), l1.later (below_alloc _ _), Loc3.of (row_alloc _ _), Cd.ow_later (rowsC.ow_base how (by omega)) (below_alloc _ _), hnd, fun q => by have := (rowsC.ow_lt how _ q).2; omega, by omega⟩)
  obtain ⟨d0, d1, d2, _, _, _⟩ := l0
  have hH : w.heap.size < W1.heap.size := by omega
  have HN := Lib.hid (And.intro hH (show w.heap.size + 1 < W1.heap.size by omega))
  clear r0 r1 hz hb0 hb1 how hnd l1 hs1
  go_wp2_with fail
  generalize hW2 : W1.alloc _ = W2 at *
  generalize W1.heap.size = X at *
  clear hW2 d0 d1 d2 hH
  have HFD := Lib.hid (find_row nm ar _ _ rows row S S2 W2 (HR.out W2 HFR.out.b) (HV.out W2 HFR.out.b))
  refine HFD.out.mono ?_
  rintro e W3 ⟨i, rfl, hfd, hil, hb3⟩
  have HF := Lib.hid (HFR.out.later hb3)
  have HFP := Lib.hid hfd
  have HIL := Lib.hid hil
  clear hb3 hfd hil
  by_cases hin : hasR nm ar rows row = true
  case pos =>
    have HWHY := Lib.hid (show insOk nm ar rows row = false from decide_eq_false fun q => q.2.2.1 (of_decide_eq_true hin).2)
    rw [hin]
    clear hin
    obtain ⟨y0, y1, y2, _, _, _⟩ := HF.out.x
    obtain ⟨p0, p1, p2, q0, q1, q2⟩ := HF.out.r
    go_wp2_with fail
    obtain ⟨k0, k1, k2⟩ := set3 (w := W3) (k := w.heap.size + 1) (x := .string nm) (y := .int .i64 ar) (z := .slice (some ⟨gx, 0, none⟩) rows.length rows.length) p0 p1 p2
    refine bodyPost_ret (v := .tuple #[.agg #[.string nm, .int .i64 ar, .slice (some ⟨gx, 0, none⟩) rows.length rows.length], .bool false]) (by simp [results, Try.results34, go_sem, k0, k1, k2]) rfl ⟨_, fp, by rw [HWHY.out], ?_, HF.out.n, ?_⟩
    · rw [insR, HWHY.out]
      exact rowsC.ow_base (ow_setCell (ow_setCell (ow_setCell HF.out.o HF.out.not1 _) HF.out.not1 _) HF.out.not1 _) (by omega)
    · exact ((HF.out.b.setCell (by show _ ≤ w.heap.size + 1; omega) _).setCell (by show _ ≤ w.heap.size + 1; omega) _).setCell (by show _ ≤ w.heap.size + 1; omega) _
  have hin : hasR nm ar rows row = false := by simpa using hin
  rw [hin]
  have HV1 := Lib.hid (impl_valid nm ar _ rows S W3 (HR.out W3 HF.out.b))
  obtain ⟨d0, d1, d2, _, _, _⟩ := HF.out.t
  by_cases hok : tabOk nm ar rows = true
  case neg =>
    have hok : tabOk nm ar rows = false := by simpa using hok
    rw [hok] at HV1
    have HWHY := Lib.hid (show insOk nm ar rows row = false from decide_eq_false fun q => of_decide_eq_false hok q.1)
    clear hok hin
    go_wp2_with fail
    refine HV1.out.mono ?_
    rintro e W4 ⟨rfl, hb4⟩
    have HF4 := Lib.hid (HF.out.later hb4)
    clear hb4 d0 d1 d2
    obtain ⟨y0, y1, y2, _, _, _⟩ := HF4.out.x
    obtain ⟨p0, p1, p2, q0, q1, q2⟩ := HF4.out.r
    go_wp2_with fail
    obtain ⟨k0, k1, k2⟩ := set3 (w := W4) (k := w.heap.size + 1) (x := .string nm) (y := .int .i64 ar) (z := .slice (some ⟨gx, 0, none⟩) rows.length rows.length) p0 p1 p2
    refine bodyPost_ret (v := .tuple #[.agg #[.string nm, .int .i64 ar, .slice (some ⟨gx, 0, none⟩) rows.length rows.length], .bool false]) (by simp [results, Try.results34, go_sem, k0, k1, k2]) rfl ⟨_, fp, by rw [HWHY.out], ?_, HF4.out.n, ?_⟩
    · rw [insR, HWHY.out]
      exact rowsC.ow_base (ow_setCell (ow_setCell (ow_setCell HF4.out.o HF4.out.not1 _) HF4.out.not1 _) HF4.out.not1 _) (by omega)
    · exact ((HF4.out.b.setCell (by show _ ≤ w.heap.size + 1; omega) _).setCell (by show _ ≤ w.heap.size + 1; omega) _).setCell (by show _ ≤ w.heap.size + 1; omega) _
  rw [hok] at HV1
  have HTP := Lib.hid (show TabP nm ar rows from of_decide_eq_true hok)
  have HFP2 := Lib.hid (HFP.out hok)
  have HNIN := Lib.hid (show row ∉ rows from fun q => by rw [hasR_yes hok q] at hin; cases hin)
  clear hok hin
  go_wp2_with fail
  refine HV1.out.mono ?_
  rintro e W4 ⟨rfl, hb4⟩
  have HF4 := Lib.hid (HF.out.later hb4)
  clear hb4 d0 d1 d2
  obtain ⟨d0, d1, d2, _, _, _⟩ := HF4.out.t
  have HRW := Lib.hid (is_row _ row ar _ W4 (row_ri (HV.out W4 HF4.out.b)).1)
  by_cases hrow : rowOk row ar = true
  case neg =>
    have hrow : rowOk row ar = false := by simpa using hrow
    rw [hrow] at HRW
    have HWHY := Lib.hid (show insOk nm ar rows row = false from decide_eq_false fun q => by have := q.2.1; rw [hrow] at this; exact absurd this (by decide))
    clear hrow
    go_wp2_with fail
    refine HRW.out.mono ?_
    rintro e W5 ⟨rfl, rfl⟩
    clear d0 d1 d2
    obtain ⟨y0, y1, y2, _, _, _⟩ := HF4.out.x
    obtain ⟨p0, p1, p2, q0, q1, q2⟩ := HF4.out.r
    go_wp2_with fail
    obtain ⟨k0, k1, k2⟩ := set3 (w := W4) (k := w.heap.size + 1) (x := .string nm) (y := .int .i64 ar) (z := .slice (some ⟨gx, 0, none⟩) rows.length rows.length) p0 p1 p2
    refine bodyPost_ret (v := .tuple #[.agg #[.string nm, .int .i64 ar, .slice (some ⟨gx, 0, none⟩) rows.length rows.length], .bool false]) (by simp [results, Try.results34, go_sem, k0, k1, k2]) rfl ⟨_, fp, by rw [HWHY.out], ?_, HF4.out.n, ?_⟩
    · rw [insR, HWHY.out]
      exact rowsC.ow_base (ow_setCell (ow_setCell (ow_setCell HF4.out.o HF4.out.not1 _) HF4.out.not1 _) HF4.out.not1 _) (by omega)
    · exact ((HF4.out.b.setCell (by show _ ≤ w.heap.size + 1; omega) _).setCell (by show _ ≤ w.heap.size + 1; omega) _).setCell (by show _ ≤ w.heap.size + 1; omega) _
  rw [hrow] at HRW
  have HROW := Lib.hid hrow
  clear hrow
  go_wp2_with fail
  refine HRW.out.mono ?_
  rintro e W5 ⟨rfl, rfl⟩
  by_cases h8 : rows.length = 8
  case pos =>
    have HWHY := Lib.hid (show insOk nm ar rows row = false from decide_eq_false fun q => q.2.2.2 h8)
    have h8a : ((rows.length : Int) == 8) = true := by rw [beq_iff_eq]; omega
    have h8b : decide (rows.length = 8) = true := decide_eq_true h8
    clear h8
    obtain ⟨y0, y1, y2, _, _, _⟩ := HF4.out.x
    obtain ⟨p0, p1, p2, q0, q1, q2⟩ := HF4.out.r
    go_wp2_with fail
    obtain ⟨k0, k1, k2⟩ := set3 (w := W4) (k := w.heap.size + 1) (x := .string nm) (y := .int .i64 ar) (z := .slice (some ⟨gx, 0, none⟩) rows.length rows.length) p0 p1 p2
    refine bodyPost_ret (v := .tuple #[.agg #[.string nm, .int .i64 ar, .slice (some ⟨gx, 0, none⟩) rows.length rows.length], .bool false]) (by simp [results, Try.results34, go_sem, k0, k1, k2]) rfl ⟨_, fp, by rw [HWHY.out], ?_, HF4.out.n, ?_⟩
    · rw [insR, HWHY.out]
      exact rowsC.ow_base (ow_setCell (ow_setCell (ow_setCell HF4.out.o HF4.out.not1 _) HF4.out.not1 _) HF4.out.not1 _) (by omega)
    · exact ((HF4.out.b.setCell (by show _ ≤ w.heap.size + 1; omega) _).setCell (by show _ ≤ w.heap.size + 1; omega) _).setCell (by show _ ≤ w.heap.size + 1; omega) _
  have HWHY := Lib.hid (show insOk nm ar rows row = true from decide_eq_true ⟨HTP.out, HROW.out, HNIN.out, h8⟩)
  have h8i : ¬ (rows.length : Int) = 8 := by omega
  have HPUT := Lib.hid (show putR rows row = Cd.ins rows i row by rw [putR_split HTP.out.2.2.2.2.2 HFP2.out, if_neg HNIN.out])
  have HXL := Lib.hid HF4.out.x.lt
  have HCP := Lib.hid (copy_ints _ row S2 W4.drew (rd_drew (HV.out W4 HF4.out.b)) HRL.out)
  have HINS := Lib.hid (fun Wa (hb : Below W4.heap.size W4 Wa) b u f hu (hrow : rowC.ow Wa (w.heap.size + 2) [u] row f) hfd hdis => insert_rows gx rows.length i rows fp (w.heap.size + 2) Wa (HF4.out.later hb).o HF4.out.n rfl HIL.out HTP.out.2.2.2.1 b u row f hu hrow hfd hdis (by have := hb.size; have := HXL.out; have := HF4.out.g; omega))
  obtain ⟨y0, y1, y2, g0, g1, g2⟩ := HF4.out.x
  go_wp2_with fail
  go_region_law (first | (go_simp; go_at_call 79; refine HCP.out.mono ?_; rintro e wq ⟨gr, cr, rfl, hor, hbq⟩; (have hq := undrew hbq); (have hba := below_then hq (below_alloc wq (.cells #[.slice (some ⟨gr, 0, none⟩) row.length cr] 22 (0, 0)))); (have HBA := Lib.hid hba); (have HOR := Lib.hid hor); (have hqz := hq.size); (have k2 := (HF4.out.x.later hq).c2); (have m2 := (HF4.out.x.later hba).c2); clear hbq hq hba hor) | (go_simp; go_at_call 78; refine (HINS.out _ HBA.out wq.heap.size (.slice (some ⟨gr, 0, none⟩) row.length cr) [gr] (World.cell?_alloc_mark _ _ _ _ 0) (rowC.ow_base (Cd.ow_later HOR.out (below_alloc _ _)) (by have := HF4.out.g; have := HXL.out; show _ ≤ W4.heap.size; omega)) (by simp) (fun x hx q => by have h1 := (rowC.ow_lt HOR.out x hx).1; have h2 := (rowsC.ow_lt HF4.out.o x q).2; have h3 : W4.drew.heap.size = W4.heap.size := rfl; omega)).mono ?_; rintro e wp ⟨g5, c5, fp5, rfl, ho5, hn5, hs5, ht5⟩; (have HO5 := Lib.hid ho5); (have HN5 := Lib.hid hn5); (have HS5 := Lib.hid hs5); (have HT5 := Lib.hid ht5); (have hpz := ht5.size); (have j0 := ((HF4.out.x.later HBA.out).touched ht5 HF4.out.d).c0); (have j1 := ((HF4.out.x.later HBA.out).touched ht5 HF4.out.d).c1); (have j2 := ((HF4.out.x.later HBA.out).touched ht5 HF4.out.d).c2); (have l0 := ((HF4.out.x.later HBA.out).touched ht5 HF4.out.d).f0); (have l1 := ((HF4.out.x.later HBA.out).touched ht5 HF4.out.d).f1); (have l2 := ((HF4.out.x.later HBA.out).touched ht5 HF4.out.d).f2); clear ho5 hn5 hs5 ht5))
  all_goals
    have hbw := below_then HF4.out.b HBA.out
    have hT : w.heap.size ∉ fp := fun q => by have := (rowsC.ow_lt HF4.out.o _ q).1; omega
    have hX5 : X ∉ fp5 := fun q => by
      have hx := HXL.out
      have h3 : W4.drew.heap.size = W4.heap.size := rfl
      rcases HS5.out X q with q | q | q
      · exact HF4.out.d q
      · have := (rowC.ow_lt HOR.out X q).1; omega
      · have := HBA.out.size; omega
    have hx2 := Loc3.set2 ((HF4.out.x.later HBA.out).touched HT5.out HF4.out.d) (.slice (some ⟨g5, 0, none⟩) (rows.length + 1) c5)
    have HF5 := Lib.hid (show Fr w X nm ar (.slice a rows.length cap) (.slice (some ⟨g5, 0, none⟩) (rows.length + 1) c5) _ _ _ (Cd.ins rows i row) fp5 (wp.setCell ⟨X, 2, none⟩ (.slice (some ⟨g5, 0, none⟩) (rows.length + 1) c5)) from
      ⟨(HT5.out.below hbw (fun b hb => by have := (rowsC.ow_lt HF4.out.o b hb).1; omega)).setCell (by show _ ≤ X; have := HF4.out.g; omega) _, ((HF4.out.t.later HBA.out).touched HT5.out hT).set_far (by show X ≠ _; have := HF4.out.g; omega) _, ((HF4.out.r.later HBA.out).touched HT5.out HF4.out.not1).set_far (by show X ≠ _; have := HF4.out.g; omega) _, hx2,
        ow_setCell HO5.out hX5 _, HN5.out, hX5, HF4.out.g⟩)
    clear hbw hT hX5 hx2 y0 y1 y2 g0 g1 g2 j0 j1 j2 l0 l1 l2 d0 d1 d2 k2 m2 hpz hqz
    obtain ⟨y0, y1, y2, _, _, _⟩ := HF5.out.x
    obtain ⟨p0, p1, p2, q0, q1, q2⟩ := HF5.out.r
    go_wp2_with fail
    obtain ⟨k0, k1, k2⟩ := set3 (w := (wp.setCell ⟨X, 2, none⟩ (.slice (some ⟨g5, 0, none⟩) (rows.length + 1) c5))) (k := w.heap.size + 1) (x := .string nm) (y := .int .i64 ar) (z := .slice (some ⟨g5, 0, none⟩) (rows.length + 1) c5) p0 p1 p2
    refine bodyPost_ret (v := .tuple #[.agg #[.string nm, .int .i64 ar, .slice (some ⟨g5, 0, none⟩) (rows.length + 1) c5], .bool true]) (by simp [results, Try.results34, go_sem, k0, k1, k2]) rfl ⟨_, fp5, by rw [HWHY.out], ?_, HF5.out.n, ?_⟩
    · rw [insR, HWHY.out, if_pos rfl, HPUT.out]
      exact rowsC.ow_base (ow_setCell (ow_setCell (ow_setCell HF5.out.o HF5.out.not1 _) HF5.out.not1 _) HF5.out.not1 _) (by omega)
    · exact ((HF5.out.b.setCell (by show _ ≤ w.heap.size + 1; omega) _).setCell (by show _ ≤ w.heap.size + 1; omega) _).setCell (by show _ ≤ w.heap.size + 1; omega) _
end Go.Proofs.Ythageciihhpmoaa.TabImp
