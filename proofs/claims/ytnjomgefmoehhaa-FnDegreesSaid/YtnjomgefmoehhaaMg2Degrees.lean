/- Texts that the proof rests on, one behind the other. -/
import Derived.Test.YtnjomgefmoehhaaMg1Degrees
import Derived.Test.YtnjomgefmoehhaaIntsLaw
import Derived.BigQuiet

namespace Go.Proofs.Ytnjomgefmoehhaa.DegWalk
open Go Go.RowKit Byt Ints IntsLaw Draw LocDraw Cd Rows2 Tab TabSpec Exact DegMath DegSpec DegDraw DegImp

theorem reads_up {w w' : World} {v : Value} {l : List UInt8} (h : Reads w v l w.heap.size) (hb : Below w.heap.size w w') : Reads w' v l w'.heap.size := by
  obtain ⟨a, cap, h1, h2, h3⟩ := h.later hb
  refine ⟨a, cap, h1, h2, h3.imp id ?_⟩
  rintro ⟨b, off, e, hq, hc⟩
  exact ⟨b, off, e, Nat.lt_of_lt_of_le hq hb.size, hc⟩
theorem ints_same (v1 v2 : Value) (m : List Int) (S1 S2 : Nat → Prop) (w : World) (h1 : rowC.rd w S1 [v1] m) (h2 : rowC.rd w S2 [v2] m) :
    Calls Try.prog 15 #[v1, v2] w fun e w' => e = .returned (.bool true) ∧ Below w.heap.size w w' :=
  (same_ints v1 v2 m m _ w (row_ri h1).1 (row_ri h2).1 (Nat.le_refl _)).mono fun _ _ h => ⟨by rw [h.1, decide_eq_true rfl], h.2⟩
set_option maxRecDepth 100000 in
set_option maxHeartbeats 12800000 in
theorem walk (v : Value) (l : List UInt8) (w : World) (hr : Reads w v l w.heap.size) :
    Calls Try.prog 3 #[v] w fun e w' => e = .returned (.bool true) ∧ Below w.heap.size w w' := by
  by_cases hbig : 1048576 < l.length
  · go_enter Try.func3, Try.ntmps3
    go_wp2_with fail
    refine (big_any v l w.heap.size w hr).mono ?_
    rintro e w1 ⟨rfl, rfl⟩
    rw [decide_eq_true hbig]
    go_wp2_with fail
    go_ret
    exact ⟨rfl, Below.refl _ _⟩
  have HBIG := Lib.hid (big_any v l w.heap.size w hr)
  rw [decide_eq_false hbig] at HBIG
  have HD1 := Lib.hid (draw_deg v l w hr)
  have HD2 := Lib.hid (fun w' (hb : Below w.heap.size w w') => draw_dom v l w' (reads_up hr hb))
  clear hr hbig
  go_enter Try.func3, Try.ntmps3
  go_wp2_with fail
  refine HBIG.out.mono ?_
  rintro e w1 ⟨rfl, rfl⟩
  go_wp2_with fail
  refine HD1.out.mono ?_
  rintro e w1 ⟨nm, ar, u, rows, f1, u2, cols, f2, rfl, hnm, har, ho1, ho2, hcl, hb1⟩
  obtain ⟨ua, uc, rfl⟩ := rows_slice ho1
  obtain ⟨ca, cc, rfl⟩ := Cd.ow_slice (c := Cd.int) ho2
  have HB1 := Lib.hid hb1
  have HRW := Lib.hid (fun w' (hb : Below w1.heap.size w1 w') => Cd.later (rowsC.ow_rd ho1) hb)
  have HCO := Lib.hid (fun w' (hb : Below w1.heap.size w1 w') => Cd.ow_later ho2 hb)
  have HCL := Lib.hid hcl
  have HRN := Lib.hid (show rows.length ≤ 9223372036854775807 from by obtain ⟨_, _, _, h⟩ := rows_form (rowsC.ow_rd ho1); exact h)
  clear HBIG HD1 hb1 ho1 ho2 hcl hnm har
  have HDG := Lib.hid (fun w' (hb : Below w1.heap.size w1 w') => impl_deg nm ar _ _ rows cols _ _ w' (HRW.out w' hb) (rowC.ow_rd (HCO.out w' hb)))
  have HDS := Lib.hid (fun w' (hb : Below w1.heap.size w1 w') => spec_deg nm ar _ _ rows cols _ _ w' (HRW.out w' hb) (rowC.ow_rd (HCO.out w' hb)))
  have HGC := Lib.hid (fun w' (hb : Below w1.heap.size w1 w') => impl_groups nm ar _ _ rows cols _ _ w' (HRW.out w' hb) (rowC.ow_rd (HCO.out w' hb)))
  have HMXA := Lib.hid (fun w' (hb : Below w1.heap.size w1 w') => impl_max nm ar _ _ rows cols _ _ w' (HRW.out w' hb) (rowC.ow_rd (HCO.out w' hb)))
  have HMXB := Lib.hid (fun w' (hb : Below w1.heap.size w1 w') (x : Value) (S : Nat → Prop) (hx : rowC.rd w' S [x] (cols.take 1)) => impl_max nm ar _ x rows (cols.take 1) _ _ w' (HRW.out w' hb) hx)
  have HSEQ := Lib.hid (deg_seq nm ar rows cols)
  have HDEG := Lib.hid (fun (h : 0 < (degL nm ar rows cols).length) => And.intro (deg_tot h) (max_head h))
  have HTK := Lib.hid (fun (h : 0 < (degL nm ar rows cols).length) => max_take h 1)
  have HLEN := Lib.hid (show (gcV nm ar rows cols).length = (degL nm ar rows cols).length ∧ (gcN nm ar rows cols).length = (degL nm ar rows cols).length from ⟨gc_len.symm.trans deg_len.symm, deg_len.symm⟩)
  have HD8 := Lib.hid (deg_len8 (nm := nm) (ar := ar) (rows := rows) (cols := cols))
  have HMB := Lib.hid (And.intro (max_bd nm ar rows cols) (max_bd nm ar rows (cols.take 1)))
  unfold DegAns at HDG HDS
  unfold GroupAns at HGC
  generalize degL nm ar rows cols = D at *
  generalize gcV nm ar rows cols = gv at *
  generalize gcN nm ar rows cols = gn at *
  generalize maxL nm ar rows cols = mx at *
  generalize maxL nm ar rows (cols.take 1) = m1 at *
  go_wp2_with fail
  have hbX := below_alloc w1 (.cells #[.string nm, .int .i64 ar, .slice ua rows.length uc] 26 (0, 0))
  have HX := Lib.hid (Loc3.of (row_alloc w1 (.cells #[.string nm, .int .i64 ar, .slice ua rows.length uc] 26 (0, 0))))
  have HX0 := Lib.hid (show w1.heap.size < (w1.alloc (.cells #[.string nm, .int .i64 ar, .slice ua rows.length uc] 26 (0, 0))).heap.size by rw [size_alloc]; omega)
  have HB2 := Lib.hid hbX
  clear hbX
  generalize World.alloc w1 _ = w2 at *
  refine (HDG.out w2 HB2.out).mono ?_
  rintro e w3 ⟨ud, fd, rfl, hod, hnd, hb3⟩
  obtain ⟨da, dc, rfl⟩ := Cd.ow_slice (c := Cd.int) hod
  have HOD := Lib.hid hod
  have HB3 := Lib.hid (below_then HB2.out hb3)
  have HX3 := Lib.hid (HX.out.later hb3)
  have d0 := HX3.out.c0
  have d1 := HX3.out.c1
  have d2 := HX3.out.c2
  clear hod hnd hb3
  go_wp2_with fail
  refine (HGC.out w3 HB3.out).mono ?_
  rintro e w4 ⟨ug, un, fg, fn, rfl, hog, hon, hng, hnn, hdi, hb4⟩
  obtain ⟨ga, gc, rfl⟩ := rows_slice hog
  obtain ⟨na, nc, rfl⟩ := Cd.ow_slice (c := Cd.int) hon
  rw [HLEN.out.1, HLEN.out.2]
  have HB4 := Lib.hid (below_then HB3.out hb4)
  have HOD4 := Lib.hid (Cd.ow_later HOD.out hb4)
  have HX4 := Lib.hid (HX3.out.later hb4)
  clear hog hon hng hnn hdi hb4 d0 d1 d2
  have d0 := HX4.out.c0
  have d1 := HX4.out.c1
  have d2 := HX4.out.c2
  go_wp2_with fail
  refine (HDS.out w4 HB4.out).mono ?_
  rintro e w5 ⟨us, fs, rfl, hos, hns, hb5⟩
  obtain ⟨sa, sc, rfl⟩ := Cd.ow_slice (c := Cd.int) hos
  have HB5 := Lib.hid (below_then HB4.out hb5)
  have HOD5 := Lib.hid (Cd.ow_later HOD4.out hb5)
  have HX5 := Lib.hid (HX4.out.later hb5)
  have HSM := Lib.hid (ints_same _ _ D _ _ w5 (rowC.ow_rd HOD5.out) (rowC.ow_rd hos))
  clear hos hns hb5 d0 d1 d2
  go_wp2_with fail
  refine HSM.out.mono ?_
  rintro e w6 ⟨rfl, hb6⟩
  have HB6 := Lib.hid (below_then HB5.out hb6)
  have HOD6 := Lib.hid (Cd.ow_later HOD5.out hb6)
  have HX6 := Lib.hid (HX5.out.later hb6)
  have HIS := Lib.hid (impl_seq _ D _ w6 (row_ri (rowC.ow_rd HOD6.out)).1)
  rw [HSEQ.out] at HIS
  clear hb6
  go_wp2_with fail
  refine HIS.out.mono ?_
  rintro e wx ⟨rfl, rfl⟩
  go_upto_region 8 with fail
  generalize w6 = wk at *
  have hX : w1.heap.size < wk.heap.size := HX6.out.lt
  have HPOST := Lib.hid (show ∀ W, Below wk.heap.size wk W → Below w1.heap.size w1 W from fun W h => below_then HB6.out h)
  have HRM := Lib.hid (room_ow HOD6.out)
  have HTOT := Lib.hid (fun w' (hb : Below wk.heap.size wk w') => impl_total _ D _ w' (row_ri (rowC.ow_rd (Cd.ow_later HOD6.out hb))).1 HRM.out)
  have HMAX := Lib.hid (fun w' (hb : Below wk.heap.size wk w') => HMXA.out w' (HPOST.out w' hb))
  have d0 := HX6.out.c0
  have d1 := HX6.out.c1
  have d2 := HX6.out.c2
  clear HIS HSM HDS HGC HDG
  go_cut [72] (fun s72 wx => s72 = .bool false ∧ Below wk.heap.size wk wx)
  case first =>
    by_cases hD : 0 < D.length
    case neg =>
      have g0 : decide ((0 : Int) < (D.length : Int)) = false := decide_eq_false (by omega)
      have g1 : ¬ (0 : Int) < (D.length : Int) := by omega
      go_quiet (fail)
      go_wp2_with fail
      go_meet
      exact ⟨rfl, ⟨rfl, rfl, rfl, Nat.le_refl _, fun _ _ => rfl⟩⟩
    have g1 : (0 : Int) < (D.length : Int) := by omega
    have HD := Lib.hid (HDEG.out hD)
    rw [HD.out.1] at HTOT
    rw [HD.out.2] at HMAX
    obtain ⟨lb, lo, lc, e1, hlb, c0⟩ := ri_at (row_ri (rowC.ow_rd HOD6.out)).1 hD
    injection e1 with e1 e2 e3
    subst e1 e3
    rw [Nat.add_zero] at c0
    generalize hx0 : D[0] = y at *
    have hS0 : Below wk.heap.size wk wk.drew := ⟨rfl, rfl, rfl, Nat.le_refl _, fun _ _ => rfl⟩
    refine wp_region_held_drew (S := fun wx => Below wk.heap.size wk wx) (by kernel_rfl) (hS0) (fun hHeld => ?_)
    refine RegH.takeH (i := 0) (v := ?_) rfl (by kernel_rfl) (by kernel_rfl) (by kernel_rfl) (fun _ _ _ h => h) (Or.inl ⟨by rfl, ?_⟩) (by assumption) ?_
    rotate_left
    · (intro wS hSw; (try dsimp only at hSw); skip; go_simp; try (with_reducible rfl))
    try simp only [Act.put, List.setIfInBounds_toArray, List.set_cons_zero, List.set_cons_succ]
    refine RegH.takeH (i := 1) (v := ?_) rfl (by kernel_rfl) (by kernel_rfl) (by kernel_rfl) (fun _ _ _ h => h) (Or.inl ⟨by rfl, ?_⟩) (by assumption) ?_
    rotate_left
    · (intro wS hSw; (try dsimp only at hSw); skip; go_simp; try (with_reducible rfl))
    try simp only [Act.put, List.setIfInBounds_toArray, List.set_cons_zero, List.set_cons_succ]
    refine RegH.takeH (i := 2) (v := ?_) rfl (by kernel_rfl) (by kernel_rfl) (by kernel_rfl) (fun _ _ _ h => h) (Or.inl ⟨by rfl, ?_⟩) (by assumption) ?_
    rotate_left
    · (intro wS hSw; (try dsimp only at hSw); skip; go_simp; try (with_reducible rfl))
    try simp only [Act.put, List.setIfInBounds_toArray, List.set_cons_zero, List.set_cons_succ]
    refine RegH.takeH (i := 3) (v := ?_) rfl (by kernel_rfl) (by kernel_rfl) (by kernel_rfl) (fun _ _ _ h => h) (Or.inl ⟨by rfl, ?_⟩) (by assumption) ?_
    rotate_left
    · (intro wS hSw; (try dsimp only at hSw); skip; go_simp; try (with_reducible rfl))
    try simp only [Act.put, List.setIfInBounds_toArray, List.set_cons_zero, List.set_cons_succ]
    refine RegH.takeH (i := 4) (v := ?_) rfl (by kernel_rfl) (by kernel_rfl) (by kernel_rfl) (fun _ _ _ h => h) (Or.inl ⟨by rfl, ?_⟩) (by assumption) ?_
    rotate_left
    · (intro wS hSw; (try dsimp only at hSw); skip; go_simp; try (with_reducible rfl))
    try simp only [Act.put, List.setIfInBounds_toArray, List.set_cons_zero, List.set_cons_succ]
    refine RegH.takeH (i := 6) (v := ?_) rfl (by kernel_rfl) (by kernel_rfl) (by kernel_rfl) (fun _ _ _ h => h) (Or.inl ⟨by rfl, ?_⟩) (by assumption) ?_
    rotate_left
    · (intro wS hSw; (try dsimp only at hSw); skip; go_simp; try (with_reducible rfl))
    try simp only [Act.put, List.setIfInBounds_toArray, List.set_cons_zero, List.set_cons_succ]
    refine RegH.takeH (i := 7) (v := ?_) rfl (by kernel_rfl) (by kernel_rfl) (by kernel_rfl) (fun _ _ _ h => h) (Or.inl ⟨by rfl, ?_⟩) (by assumption) ?_
    rotate_left
    · (intro wS hSw; (try dsimp only at hSw); (have r0 := (Below.cell hSw (p := ⟨w1.heap.size, 0, none⟩) hX).trans d0); (have r1 := (Below.cell hSw (p := ⟨w1.heap.size, 1, none⟩) hX).trans d1); (have r2 := (Below.cell hSw (p := ⟨w1.heap.size, 2, none⟩) hX).trans d2); go_simp; try (with_reducible rfl))
    try simp only [Act.put, List.setIfInBounds_toArray, List.set_cons_zero, List.set_cons_succ]
    refine RegH.takeH (i := 8) (v := ?_) rfl (by kernel_rfl) (by kernel_rfl) (by kernel_rfl) (fun _ _ _ h => h) (Or.inl ⟨by rfl, ?_⟩) (by assumption) ?_
    rotate_left
    · (intro wS hSw; (try dsimp only at hSw); skip; go_simp; try (with_reducible rfl))
    try simp only [Act.put, List.setIfInBounds_toArray, List.set_cons_zero, List.set_cons_succ]
    refine RegH.consH (i := 5) rfl (by kernel_rfl) (fun K hK => ?_)
    go_simp
    go_at_call 18
    refine (HTOT.out _ hHeld).mono ?_
    rintro e wq ⟨rfl, rfl⟩
    refine hK.out _ _ ?_ (fun hHeld => ?_)
    · exact hHeld
    clear hK K
    try simp only [Act.put, List.setIfInBounds_toArray, List.set_cons_zero, List.set_cons_succ]
    refine RegH.takeH (i := 9) (v := ?_) rfl (by kernel_rfl) (by kernel_rfl) (by kernel_rfl) (fun _ _ _ h => h) (Or.inl ⟨by rfl, ?_⟩) (by assumption) ?_
    rotate_left
    · (intro wS hSw; (try dsimp only at hSw); skip; go_simp; try (with_reducible rfl))
    try simp only [Act.put, List.setIfInBounds_toArray, List.set_cons_zero, List.set_cons_succ]
    refine RegH.takeH (i := 10) (v := ?_) rfl (by kernel_rfl) (by kernel_rfl) (by kernel_rfl) (fun _ _ _ h => h) (Or.inl ⟨by rfl, ?_⟩) (by assumption) ?_
    rotate_left
    · (intro wS hSw; (try dsimp only at hSw); skip; go_simp; try (with_reducible rfl))
    try simp only [Act.put, List.setIfInBounds_toArray, List.set_cons_zero, List.set_cons_succ]
    refine RegH.takeH (i := 11) (v := ?_) rfl (by kernel_rfl) (by kernel_rfl) (by kernel_rfl) (fun _ _ _ h => h) (Or.inl ⟨by rfl, ?_⟩) (by assumption) ?_
    rotate_left
    · (intro wS hSw; (try dsimp only at hSw); (have r0 := (Below.cell hSw (p := ⟨w1.heap.size, 0, none⟩) hX).trans d0); (have r1 := (Below.cell hSw (p := ⟨w1.heap.size, 1, none⟩) hX).trans d1); (have r2 := (Below.cell hSw (p := ⟨w1.heap.size, 2, none⟩) hX).trans d2); go_simp; try (with_reducible rfl))
    try simp only [Act.put, List.setIfInBounds_toArray, List.set_cons_zero, List.set_cons_succ]
    refine RegH.takeH (i := 12) (v := ?_) rfl (by kernel_rfl) (by kernel_rfl) (by kernel_rfl) (fun _ _ _ h => h) (Or.inl ⟨by rfl, ?_⟩) (by assumption) ?_
    rotate_left
    · (intro wS hSw; (try dsimp only at hSw); skip; go_simp; try (with_reducible rfl))
    try simp only [Act.put, List.setIfInBounds_toArray, List.set_cons_zero, List.set_cons_succ]
    refine RegH.takeH (i := 14) (v := ?_) rfl (by kernel_rfl) (by kernel_rfl) (by kernel_rfl) (fun _ _ _ h => h) (Or.inl ⟨by rfl, ?_⟩) (by assumption) ?_
    rotate_left
    · (intro wS hSw; (try dsimp only at hSw); skip; go_simp; try (with_reducible rfl))
    try simp only [Act.put, List.setIfInBounds_toArray, List.set_cons_zero, List.set_cons_succ]
    refine RegH.takeH (i := 15) (v := ?_) rfl (by kernel_rfl) (by kernel_rfl) (by kernel_rfl) (fun _ _ _ h => h) (Or.inl ⟨by rfl, ?_⟩) (by assumption) ?_
    rotate_left
    · (intro wS hSw; (try dsimp only at hSw); skip; go_simp; try (with_reducible rfl))
    try simp only [Act.put, List.setIfInBounds_toArray, List.set_cons_zero, List.set_cons_succ]
    refine RegH.takeH (i := 16) (v := ?_) rfl (by kernel_rfl) (by kernel_rfl) (by kernel_rfl) (fun _ _ _ h => h) (Or.inl ⟨by rfl, ?_⟩) (by assumption) ?_
    rotate_left
    · (intro wS hSw; (try dsimp only at hSw); (have r3 := (Below.cell hSw (p := ⟨lb, lo, none⟩) hlb).trans c0); go_simp; try (with_reducible rfl))
    try simp only [Act.put, List.setIfInBounds_toArray, List.set_cons_zero, List.set_cons_succ]
    refine RegH.consH (i := 13) rfl (by kernel_rfl) (fun K hK => ?_)
    go_simp
    go_at_call 19
    refine (HMAX.out _ hHeld).mono ?_
    rintro e wq ⟨rfl, hbq⟩
    have hq := below_then hHeld hbq
    clear hbq
    refine hK.out _ _ ?_ (fun hHeld => ?_)
    · exact hq
    clear hK K
    try simp only [Act.put, List.setIfInBounds_toArray, List.set_cons_zero, List.set_cons_succ]
    refine RegH.takeH (i := 17) (v := ?_) rfl (by kernel_rfl) (by kernel_rfl) (by kernel_rfl) (fun _ _ _ h => h) (Or.inl ⟨by rfl, ?_⟩) (by assumption) ?_
    rotate_left
    · (intro wS hSw; (try dsimp only at hSw); skip; go_simp; try (with_reducible rfl))
    try simp only [Act.put, List.setIfInBounds_toArray, List.set_cons_zero, List.set_cons_succ]
    refine RegH.takeH (i := 18) (v := ?_) rfl (by kernel_rfl) (by kernel_rfl) (by kernel_rfl) (fun _ _ _ h => h) (Or.inl ⟨by rfl, ?_⟩) (by assumption) ?_
    rotate_left
    · (intro wS hSw; (try dsimp only at hSw); skip; go_simp; try (with_reducible rfl))
    try simp only [Act.put, List.setIfInBounds_toArray, List.set_cons_zero, List.set_cons_succ]
    refine RegH.takeH (i := 19) (v := ?_) rfl (by kernel_rfl) (by kernel_rfl) (by kernel_rfl) (fun _ _ _ h => h) (Or.inl ⟨by rfl, ?_⟩) (by assumption) ?_
    rotate_left
    · (intro wS hSw; (try dsimp only at hSw); skip; go_simp; try (with_reducible rfl))
    try simp only [Act.put, List.setIfInBounds_toArray, List.set_cons_zero, List.set_cons_succ]
    refine wpAnyH_done (by kernel_rfl) ?_ _
    go_wp2_with fail
    go_meet
    exact ⟨rfl, hHeld⟩
  case rest =>
  obtain ⟨rfl, hbc⟩ := hcut
  have HBC := Lib.hid (below_then HB6.out hbc)
  have HODc := Lib.hid (Cd.ow_later HOD6.out hbc)
  have HXc := Lib.hid (HX6.out.later hbc)
  clear HTOT HMAX HPOST d0 d1 d2 hX hbc HOD6 HX6 HB6 HOD4 HOD5 HX4 HX5 HB4 HB5 HOD HX3 HB3 HRM
  generalize wc = wk2 at *
  have d0 := HXc.out.c0
  have d1 := HXc.out.c1
  have d2 := HXc.out.c2
  have hX : w1.heap.size < wk2.heap.size := HXc.out.lt
  go_upto_region 10 with fail
  clear HDEG
  go_cut [90] (fun s90 wx => s90 = .bool false ∧ Below wk2.heap.size wk2 wx)
  case first =>
    generalize wk2 = wk at *
    by_cases hc1 : 1 < cols.length
    case neg =>
      have g0 : decide ((1 : Int) < (cols.length : Int)) = false := decide_eq_false (by omega)
      have g1 : ¬ (1 : Int) < (cols.length : Int) := by omega
      go_quiet (fail)
      go_wp2_with fail
      go_meet
      exact ⟨rfl, ⟨rfl, rfl, rfl, Nat.le_refl _, fun _ _ => rfl⟩⟩
    have g1 : (1 : Int) < (cols.length : Int) := by omega
    by_cases hD : 0 < D.length
    case neg =>
      have g2 : decide ((0 : Int) < (D.length : Int)) = false := decide_eq_false (by omega)
      have g3 : ¬ (0 : Int) < (D.length : Int) := by omega
      go_quiet (fail)
      go_wp2_with fail
      go_meet
      exact ⟨rfl, ⟨rfl, rfl, rfl, Nat.le_refl _, fun _ _ => rfl⟩⟩
    have g2 : (0 : Int) < (D.length : Int) := by omega
    have hle := HTK.out hD
    have g3 : ¬ m1 < mx := by omega
    have hoc := HCO.out wk HBC.out
    rcases ow_two hoc with ⟨h1, h2⟩ | ⟨cg, ck, h1⟩
    · rw [h2] at hc1
      simp at hc1
    injection h1 with h1 _ h3
    subst h1 h3
    obtain ⟨_, hlc, hlm, _, _, hpt⟩ := row_parts hoc
    have HPT := Lib.hid (hpt 1 (by omega)).1
    have HIN := Lib.hid (row_own hoc).2.1
    have HMAX := Lib.hid (fun w' (hb : Below wk.heap.size wk w') => HMXA.out w' (below_then HBC.out hb))
    have HMX1 := Lib.hid (fun w' (hb : Below wk.heap.size wk w') => HMXB.out w' (below_then HBC.out hb) _ (fun _ => True) (Cd.rd_of_ri (HPT.out.later hb) hb.size (in_take HIN.out 1) fun _ _ => trivial))
    have k1 : (1 : Int) ≤ (cc : Int) := by omega
    have k2 : 1 ≤ cc := by omega
    clear hoc hpt hlc hlm
    have hS0 : Below wk.heap.size wk wk.drew := ⟨rfl, rfl, rfl, Nat.le_refl _, fun _ _ => rfl⟩
    refine wp_region_held_drew (S := fun wx => Below wk.heap.size wk wx) (by kernel_rfl) (hS0) (fun hHeld => ?_)
    refine RegH.takeH (i := 0) (v := ?_) rfl (by kernel_rfl) (by kernel_rfl) (by kernel_rfl) (fun _ _ _ h => h) (Or.inl ⟨by rfl, ?_⟩) (by assumption) ?_
    rotate_left
    · (intro wS hSw; (try dsimp only at hSw); skip; go_simp; try (with_reducible rfl))
    try simp only [Act.put, List.setIfInBounds_toArray, List.set_cons_zero, List.set_cons_succ]
    refine RegH.takeH (i := 1) (v := ?_) rfl (by kernel_rfl) (by kernel_rfl) (by kernel_rfl) (fun _ _ _ h => h) (Or.inl ⟨by rfl, ?_⟩) (by assumption) ?_
    rotate_left
    · (intro wS hSw; (try dsimp only at hSw); skip; go_simp; try (with_reducible rfl))
    try simp only [Act.put, List.setIfInBounds_toArray, List.set_cons_zero, List.set_cons_succ]
    refine RegH.takeH (i := 2) (v := ?_) rfl (by kernel_rfl) (by kernel_rfl) (by kernel_rfl) (fun _ _ _ h => h) (Or.inl ⟨by rfl, ?_⟩) (by assumption) ?_
    rotate_left
    · (intro wS hSw; (try dsimp only at hSw); skip; go_simp; try (with_reducible rfl))
    try simp only [Act.put, List.setIfInBounds_toArray, List.set_cons_zero, List.set_cons_succ]
    refine RegH.takeH (i := 3) (v := ?_) rfl (by kernel_rfl) (by kernel_rfl) (by kernel_rfl) (fun _ _ _ h => h) (Or.inl ⟨by rfl, ?_⟩) (by assumption) ?_
    rotate_left
    · (intro wS hSw; (try dsimp only at hSw); skip; go_simp; try (with_reducible rfl))
    try simp only [Act.put, List.setIfInBounds_toArray, List.set_cons_zero, List.set_cons_succ]
    refine RegH.takeH (i := 4) (v := ?_) rfl (by kernel_rfl) (by kernel_rfl) (by kernel_rfl) (fun _ _ _ h => h) (Or.inl ⟨by rfl, ?_⟩) (by assumption) ?_
    rotate_left
    · (intro wS hSw; (try dsimp only at hSw); skip; go_simp; try (with_reducible rfl))
    try simp only [Act.put, List.setIfInBounds_toArray, List.set_cons_zero, List.set_cons_succ]
    refine RegH.takeH (i := 5) (v := ?_) rfl (by kernel_rfl) (by kernel_rfl) (by kernel_rfl) (fun _ _ _ h => h) (Or.inl ⟨by rfl, ?_⟩) (by assumption) ?_
    rotate_left
    · (intro wS hSw; (try dsimp only at hSw); skip; go_simp; try (with_reducible rfl))
    try simp only [Act.put, List.setIfInBounds_toArray, List.set_cons_zero, List.set_cons_succ]
    refine RegH.takeH (i := 6) (v := ?_) rfl (by kernel_rfl) (by kernel_rfl) (by kernel_rfl) (fun _ _ _ h => h) (Or.inl ⟨by rfl, ?_⟩) (by assumption) ?_
    rotate_left
    · (intro wS hSw; (try dsimp only at hSw); skip; go_simp; try (with_reducible rfl))
    try simp only [Act.put, List.setIfInBounds_toArray, List.set_cons_zero, List.set_cons_succ]
    refine RegH.takeH (i := 7) (v := ?_) rfl (by kernel_rfl) (by kernel_rfl) (by kernel_rfl) (fun _ _ _ h => h) (Or.inl ⟨by rfl, ?_⟩) (by assumption) ?_
    rotate_left
    · (intro wS hSw; (try dsimp only at hSw); skip; go_simp; try (with_reducible rfl))
    try simp only [Act.put, List.setIfInBounds_toArray, List.set_cons_zero, List.set_cons_succ]
    refine RegH.takeH (i := 8) (v := ?_) rfl (by kernel_rfl) (by kernel_rfl) (by kernel_rfl) (fun _ _ _ h => h) (Or.inl ⟨by rfl, ?_⟩) (by assumption) ?_
    rotate_left
    · (intro wS hSw; (try dsimp only at hSw); skip; go_simp; try (with_reducible rfl))
    try simp only [Act.put, List.setIfInBounds_toArray, List.set_cons_zero, List.set_cons_succ]
    refine RegH.takeH (i := 9) (v := ?_) rfl (by kernel_rfl) (by kernel_rfl) (by kernel_rfl) (fun _ _ _ h => h) (Or.inl ⟨by rfl, ?_⟩) (by assumption) ?_
    rotate_left
    · (intro wS hSw; (try dsimp only at hSw); (have r0 := (Below.cell hSw (p := ⟨w1.heap.size, 0, none⟩) hX).trans d0); (have r1 := (Below.cell hSw (p := ⟨w1.heap.size, 1, none⟩) hX).trans d1); (have r2 := (Below.cell hSw (p := ⟨w1.heap.size, 2, none⟩) hX).trans d2); go_simp; try (with_reducible rfl))
    try simp only [Act.put, List.setIfInBounds_toArray, List.set_cons_zero, List.set_cons_succ]
    refine RegH.takeH (i := 10) (v := ?_) rfl (by kernel_rfl) (by kernel_rfl) (by kernel_rfl) (fun _ _ _ h => h) (Or.inl ⟨by rfl, ?_⟩) (by assumption) ?_
    rotate_left
    · (intro wS hSw; (try dsimp only at hSw); skip; go_simp; try (with_reducible rfl))
    try simp only [Act.put, List.setIfInBounds_toArray, List.set_cons_zero, List.set_cons_succ]
    refine RegH.takeH (i := 12) (v := ?_) rfl (by kernel_rfl) (by kernel_rfl) (by kernel_rfl) (fun _ _ _ h => h) (Or.inl ⟨by rfl, ?_⟩) (by assumption) ?_
    rotate_left
    · (intro wS hSw; (try dsimp only at hSw); (have r0 := (Below.cell hSw (p := ⟨w1.heap.size, 0, none⟩) hX).trans d0); (have r1 := (Below.cell hSw (p := ⟨w1.heap.size, 1, none⟩) hX).trans d1); (have r2 := (Below.cell hSw (p := ⟨w1.heap.size, 2, none⟩) hX).trans d2); go_simp; try (with_reducible rfl))
    try simp only [Act.put, List.setIfInBounds_toArray, List.set_cons_zero, List.set_cons_succ]
    refine RegH.takeH (i := 13) (v := ?_) rfl (by kernel_rfl) (by kernel_rfl) (by kernel_rfl) (fun _ _ _ h => h) (Or.inl ⟨by rfl, ?_⟩) (by assumption) ?_
    rotate_left
    · (intro wS hSw; (try dsimp only at hSw); skip; go_simp; try (with_reducible rfl))
    try simp only [Act.put, List.setIfInBounds_toArray, List.set_cons_zero, List.set_cons_succ]
    refine RegH.takeH (i := 14) (v := ?_) rfl (by kernel_rfl) (by kernel_rfl) (by kernel_rfl) (fun _ _ _ h => h) (Or.inl ⟨by rfl, ?_⟩) (by assumption) ?_
    rotate_left
    · (intro wS hSw; (try dsimp only at hSw); skip; go_simp; try (with_reducible rfl))
    try simp only [Act.put, List.setIfInBounds_toArray, List.set_cons_zero, List.set_cons_succ]
    refine RegH.consH (i := 11) rfl (by kernel_rfl) (fun K hK => ?_)
    go_simp
    go_at_call 19
    refine (HMAX.out _ hHeld).mono ?_
    rintro e wq ⟨rfl, hbq⟩
    have hq := below_then hHeld hbq
    clear hbq
    refine hK.out _ _ ?_ (fun hHeld => ?_)
    · exact hq
    clear hK K
    try simp only [Act.put, List.setIfInBounds_toArray, List.set_cons_zero, List.set_cons_succ]
    refine RegH.consH (i := 15) rfl (by kernel_rfl) (fun K hK => ?_)
    go_simp
    go_at_call 19
    refine (HMX1.out _ hHeld).mono ?_
    rintro e wz ⟨rfl, hbq⟩
    have hz := below_then hHeld hbq
    clear hbq
    refine hK.out _ _ ?_ (fun hHeld => ?_)
    · exact hz
    clear hK K
    try simp only [Act.put, List.setIfInBounds_toArray, List.set_cons_zero, List.set_cons_succ]
    refine RegH.takeH (i := 16) (v := ?_) rfl (by kernel_rfl) (by kernel_rfl) (by kernel_rfl) (fun _ _ _ h => h) (Or.inl ⟨by rfl, ?_⟩) (by assumption) ?_
    rotate_left
    · (intro wS hSw; (try dsimp only at hSw); skip; go_simp; try (with_reducible rfl))
    try simp only [Act.put, List.setIfInBounds_toArray, List.set_cons_zero, List.set_cons_succ]
    refine RegH.takeH (i := 17) (v := ?_) rfl (by kernel_rfl) (by kernel_rfl) (by kernel_rfl) (fun _ _ _ h => h) (Or.inl ⟨by rfl, ?_⟩) (by assumption) ?_
    rotate_left
    · (intro wS hSw; (try dsimp only at hSw); skip; go_simp; try (with_reducible rfl))
    try simp only [Act.put, List.setIfInBounds_toArray, List.set_cons_zero, List.set_cons_succ]
    refine wpAnyH_done (by kernel_rfl) ?_ _
    go_wp2_with fail
    go_meet
    exact ⟨rfl, hHeld⟩
  case rest =>
  obtain ⟨rfl, hbc⟩ := hcut
  have HBD := Lib.hid (below_then HB1.out (below_then HBC.out hbc))
  clear HTK HMXB HMB hX d0 d1 d2 HBC HODc HXc hbc HCO HRW
  generalize wc = w0 at *
  go_wp2_with fail
  refine (HD2.out w0 HBD.out).mono ?_
  rintro e w7 ⟨va, a, fa, vb, b, fb, rfl, hoa, hob, hal, hbl, hb7⟩
  have HB7 := Lib.hid (below_then HBD.out hb7)
  have HRA := Lib.hid (row_ri (rowC.ow_rd hoa)).1
  have HRB := Lib.hid (row_ri (rowC.ow_rd hob)).1
  have HMA := Lib.hid (room_ow hoa)
  have HMB := Lib.hid (room_ow hob)
  have HDI := Lib.hid (impl_dom va vb a b _ _ w7 HRA.out HRB.out HMA.out HMB.out)
  have HDQ := Lib.hid (spec_dom va vb a b _ _ w7 HRA.out HRB.out)
  have HTA := Lib.hid (fun m K => impl_top va a K _ (w7.drewN m) (ri_dn HRA.out m) HMA.out)
  have HTB := Lib.hid (fun m K => impl_top vb b K _ (w7.drewN m) (ri_dn HRB.out m) HMB.out)
  have HTT := Lib.hid (fun m => impl_total va a _ (w7.drewN m) (ri_dn HRA.out m) HMA.out)
  have HTO := Lib.hid (top_tot a)
  have HBDs := Lib.hid (fun k => And.intro (top_bd a k) (top_bd b k))
  have HDL := Lib.hid (fun (h : domL a b = true) (k : Nat) (hk : k < 9) => dom_le h hk)
  obtain ⟨aa, ac, rfl⟩ := Cd.ow_slice (c := Cd.int) hoa
  obtain ⟨ba, bc, rfl⟩ := Cd.ow_slice (c := Cd.int) hob
  clear hoa hob hb7 HD2 HBD hal hbl HMA HMB
  generalize hdom : domL a b = is at *
  clear hdom
  go_wp2_with fail
  refine HDI.out.mono ?_
  rintro e wx ⟨rfl, rfl⟩
  go_wp2_with fail
  refine HDQ.out.mono ?_
  rintro e wx ⟨rfl, m0, rfl⟩
  have hbb : (is != is) = false := by cases is <;> rfl
  go_wp2_with fail
  go_loopw [11] (fun i wr => ∃ k : Nat, k ≤ 9 ∧ i = .int .i64 k ∧ wr = w7.drewN m0) (fun i _ => 9 - (intOf i).toNat)
  case atStart => exact ⟨0, by omega, rfl, rfl⟩
  case round =>
    obtain ⟨k, hk, rfl, rfl⟩ := hrel
    by_cases hlt : k ≤ 8
    · have p1 : (k : Int) ≤ 8 := by omega
      cases is
      · go_wp2_with fail
        go_roundw
        case rel => exact ⟨k + 1, by omega, by go_num, by first | rfl | trivial⟩
        case measure => simp [intOf]; omega
      · have hle := HDL.out rfl k (by omega)
        have HX := Lib.hid (HTA.out m0 (k : Int))
        have HY := Lib.hid (HTB.out m0 (k : Int))
        obtain ⟨⟨b1, b2⟩, b3, b4⟩ := HBDs.out (k : Int)
        generalize topL a (k : Int) = x at *
        generalize topL b (k : Int) = y at *
        have hnl : ¬ x < y := by omega
        go_wp2_with fail
        refine HX.out.mono ?_
        rintro e wx ⟨rfl, rfl⟩
        go_wp2_with fail
        refine HY.out.mono ?_
        rintro e wx ⟨rfl, rfl⟩
        go_wp2_with fail
        go_roundw
        case rel => exact ⟨k + 1, by omega, by go_num, by first | rfl | trivial⟩
        case measure => simp [intOf]; omega
    · have ek : k = 9 := by omega
      subst ek
      have HX := Lib.hid (HTA.out m0 8)
      have HY := Lib.hid (HTT.out m0)
      rw [← HTO.out] at HY
      generalize topL a 8 = x at *
      go_wp2_with fail
      refine HX.out.mono ?_
      rintro e wx ⟨rfl, rfl⟩
      go_wp2_with fail
      refine HY.out.mono ?_
      rintro e wx ⟨rfl, rfl⟩
      go_wp2_with fail
      go_ret
      exact ⟨by first | rfl | simp, HB7.out.trans ⟨rfl, rfl, rfl, Nat.le_refl _, fun _ _ => rfl⟩⟩
end Go.Proofs.Ytnjomgefmoehhaa.DegWalk
