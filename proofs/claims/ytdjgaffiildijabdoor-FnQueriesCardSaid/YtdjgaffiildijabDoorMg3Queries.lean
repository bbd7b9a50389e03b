/- Texts that the proof rests on, one behind the other. -/
import Derived.Test.YtdjgaffiildijabDoorMg2Queries
import Derived.Test.YtdjgaffiildijabDoorQryPar3
import Derived.Test.YtdjgaffiildijabDoorQryFmt2
import Derived.Test.YtdjgaffiildijabDoorQryCols
import Derived.Test.YtdjgaffiildijabDoorMg1Queries
import Derived.Deep.DeepCutAuto
import Derived.Deep.RegionHeld3

namespace Go.Proofs.YtdjgaffiildijabDoor.QryWalk
open Go Go.RowKit Byt Ints IntsLaw Draw Cd Rows2 Tab TabSpec Exact Atom QryMath QrySpec QryImp MkAtom SlMath QryPar QryDraw QryFmt QryEq

theorem fmt_par (n : Int) (L : List A2) : (fmtQ n L).size ≤ 1048576 ∧ pOk (fmtQ n L) = qOk n L ∧ (qOk n L = true → pN (fmtQ n L) = n ∧ pL (fmtQ n L) = L) := by
  cases h : qOk n L
  · rw [fmtQ_no h]
    exact ⟨by decide, by decide +kernel, fun q => by cases q⟩
  · obtain ⟨_, h2, h3, h4⟩ := of_fmt h rfl
    exact ⟨by have := pOk_size h4; omega, h4, fun _ => ⟨h3, h2⟩⟩
theorem vars_in : ∀ a < 16, ∀ x ∈ varsL a, 0 ≤ x ∧ x < 4 := by decide
theorem sh_mem (n : Int) (L : List A2) (a b x : Int) (h : x ∈ varsL (shB n L a b)) : hasI (varsL (mB n L a)) x = true ∧ hasI (varsL (mB n L b)) x = true ∧ 0 ≤ x ∧ x < 4 := by
  have hin := vars_in _ (shB_lt n L a b) x h
  unfold shB at h
  rw [← vars_shared _ (mB_lt n L a) _ (mB_lt n L b)] at h
  obtain ⟨h1, h2⟩ := List.mem_filter.1 h
  exact ⟨by unfold hasI; rw [List.contains_iff_mem]; exact h1, h2, hin⟩
theorem cols_mem (vs ls : List Int) (x : Int) (h : x ∈ colsL vs ls) : ∃ j : Nat, x = (j : Int) ∧ ∃ hj : j < vs.length, hasI ls vs[j] = true := by
  unfold colsL colsTo at h
  obtain ⟨j, hj, rfl⟩ := List.mem_map.1 h
  obtain ⟨h1, h2⟩ := List.mem_filter.1 hj
  have h3 := List.mem_range.1 h1
  refine ⟨j, rfl, h3, ?_⟩
  rwa [List.getD_eq_getElem?_getD, List.getElem?_eq_getElem h3] at h2
theorem name_ne (x : Int) (h : 0 ≤ x ∧ x < 4) : (vnm x).toList.isEmpty = false := by
  have hc : x = 0 ∨ x = 1 ∨ x = 2 ∨ x = 3 := by omega
  rcases hc with rfl | rfl | rfl | rfl <;> decide +kernel
set_option maxRecDepth 100000 in
theorem law_has (v : Value) (l : List Int) (x : Int) (B : Nat) (w : World) (hr : RI w v l B) :
    Calls Tryd.prog 34 #[v, .int .i64 x] w fun e w' => e = .returned (.bool (hasI l x)) ∧ w = w' := by
  have HR := Lib.hid hr
  obtain ⟨a, cap, rfl, hlm, _⟩ := hr
  go_enter Tryd.func34, Tryd.ntmps34
  go_wp2
  go_loop [5] (fun i => ∃ k : Nat, k ≤ l.length ∧ i = .int .i64 k ∧ Hid (∀ y ∈ l.take k, y ≠ x)) (fun i => l.length - (intOf i).toNat)
  case atStart => exact ⟨0, Nat.zero_le _, rfl, Lib.hid (fun x hx => by simp at hx)⟩
  case round =>
    obtain ⟨k, hk, rfl, hl⟩ := hrel
    by_cases hlt : k < l.length
    · obtain ⟨b, off, cap', e1, hbB, hc⟩ := ri_at HR.out hlt
      injection e1 with e1 e2 e3
      subst e1 e3
      have p1 : (0 : Int) ≤ (k : Int) := by omega
      have p2 : (k : Int) < (l.length : Int) := by omega
      by_cases hx : l[k] = x
      · have HZ := Lib.hid (show hasI l x = true by unfold hasI; rw [List.contains_iff_mem, ← hx]; exact List.getElem_mem hlt)
        have t1 : (l[k] == x) = true := beq_iff_eq.2 hx
        clear hx
        go_wp2
        go_ret
        exact ⟨ret_b HZ.out.symm, rfl⟩
      · have hl2 := Lib.hid (show ∀ y ∈ l.take (k + 1), y ≠ x by
          rw [List.take_succ_eq_append_getElem hlt]
          intro y hy
          rcases List.mem_append.1 hy with q | q
          · exact hl.out y q
          · rw [List.mem_singleton.1 q]; exact hx)
        have t1 : (l[k] == x) = false := beq_eq_false_iff_ne.2 hx
        clear hx
        go_wp2
        go_round
        case rel => exact ⟨k + 1, by omega, by go_num, hl2⟩
        case measure => simp [intOf]; omega
    · have ek : k = l.length := by omega
      subst ek
      have HZ := Lib.hid (show hasI l x = false by
        unfold hasI
        have h := hl.out
        rw [List.take_length] at h
        rw [Bool.eq_false_iff]
        intro q
        rw [List.contains_iff_mem] at q
        exact h x q rfl)
      go_wp2
      go_ret
      exact ⟨ret_b HZ.out.symm, rfl⟩
theorem same_rd (v1 v2 : Value) (l : List Int) (S1 S2 : Nat → Prop) (w : World) (h1 : rowC.rd w S1 [v1] l) (h2 : rowC.rd w S2 [v2] l) :
    Calls Tryd.prog 31 #[v1, v2] w fun e w' => e = .returned (.bool true) ∧ Below w.heap.size w w' := by
  refine (same_ints v1 v2 l l _ w (row_ri h1).1 (row_ri h2).1 (Nat.le_refl _)).mono ?_
  rintro e w' ⟨rfl, hb⟩
  exact ⟨by rw [decide_eq_true rfl], hb⟩
theorem has_rd (v : Value) (l : List Int) (x : Int) (S : Nat → Prop) (w : World) (h : rowC.rd w S [v] l) (hx : hasI l x = true) :
    Calls Tryd.prog 34 #[v, .int .i64 x] w fun e w' => e = .returned (.bool true) ∧ w = w' := by
  refine (law_has v l x _ w (row_ri h).1).mono ?_
  rintro e w' ⟨rfl, rfl⟩
  exact ⟨by rw [hx], rfl⟩
theorem vars_len : ∀ a < 16, (varsL a).length ≤ 4 := by decide
theorem par_back {n : Int} {L : List A2} {w w' : World} {e : Ending} (h : QAns (fmtQ n L) w e w') :
    ∃ n' L' u fp, e = .returned (.tuple #[.agg #[.int .i64 n', u], .bool (qOk n L)]) ∧ atomsC.ow w' w.heap.size [u] L' fp ∧ Below w.heap.size w w' ∧ (qOk n L = true → n' = n ∧ L' = L) := by
  obtain ⟨h1, h2, h3⟩ := fmt_par n L
  obtain ⟨u, fp, he, ho, _, hb⟩ := h
  rw [h2] at he ho
  refine ⟨_, _, u, fp, he, ho, hb, fun q => ?_⟩
  rw [q]
  exact h3 q
theorem same_q (n : Int) (L : List A2) : sameQ n n L L = true := decide_eq_true ⟨rfl, rfl⟩
theorem cols_len (vs ls : List Int) : (colsL vs ls).length ≤ vs.length := by
  unfold colsL colsTo
  rw [List.length_map]
  exact Nat.le_trans (List.length_filter_le _ _) (by rw [List.length_range]; exact Nat.le_refl _)

set_option maxRecDepth 100000 in
set_option maxHeartbeats 6400000 in
theorem walk (v : Value) (l : List UInt8) (w : World) (hr : Reads w v l w.heap.size) (hrd : Ready w) :
    Calls Tryd.prog 7 #[v] w fun e w' => e = .returned (.bool true) ∧ Below w.heap.size w w' := by
  by_cases hbig : 1048576 < l.length
  · go_enter Tryd.func7, Tryd.ntmps7
    go_wp2_with fail
    refine (big_any v l w.heap.size w hr).mono ?_
    rintro e w1 ⟨rfl, rfl⟩
    rw [decide_eq_true hbig]
    go_wp2_with fail
    go_ret
    exact ⟨rfl, Below.refl _ _⟩
  have HR := Lib.hid (fun w' (hb : Below w.heap.size w w') => QryPar.reads_mono (hr.later hb) (Below.size hb))
  have HRD := Lib.hid (fun w' (hb : Below w.heap.size w w') => ready_later hrd hb)
  have HBIG := Lib.hid (big_any v l w.heap.size w hr)
  have HD1 := Lib.hid (draw_shared v l w hr)
  clear hr hrd
  go_enter Tryd.func7, Tryd.ntmps7
  go_wp2_with fail
  refine HBIG.out.mono ?_
  rintro e w1 ⟨rfl, rfl⟩
  rw [decide_eq_false hbig]
  clear hbig HBIG
  go_wp2_with fail
  refine HD1.out.mono ?_
  rintro e W1 ⟨n, u, L, a, b, rfl, hdb, hn, hok, ha, hb, hb1⟩
  obtain ⟨ad, cd, rfl, _⟩ := Cd.sl_form hdb
  have HB := Lib.hid hb1
  have HD := Lib.hid hdb
  have HF := Lib.hid (fmt_par n L)
  clear hb1 hdb hn hok ha hb HD1
  go_wp2_with fail
  generalize hg : World.alloc W1 _ = W2
  obtain ⟨rg, zg, hbg⟩ := start1 W1 _ hg
  clear hg
  replace HB := Lib.hid (below_then HB.out hbg)
  replace HD := Lib.hid (Cd.later HD.out hbg)
  have L3 := Lib.hid (Loc2.of rg)
  clear hbg zg rg
  refine (impl_maskvars n a (.slice ad L.length cd) L _ W2 HD.out).mono ?_
  rintro e W3 ⟨vx, f_vx, rfl, hyo, _, hbx⟩
  obtain ⟨a_vx, c_vx, rfl⟩ := Cd.ow_slice hyo
  replace HB := Lib.hid (below_then HB.out hbx)
  replace HD := Lib.hid (Cd.later HD.out hbx)
  replace L3 := Lib.hid (L3.out.later hbx)
  have HX := Lib.hid (Cd.reads hyo)
  clear hyo hbx
  have l30 := L3.out.c0
  have l31 := L3.out.c1
  have l3l := L3.out.lt
  go_wp2_with fail
  clear l30 l31 l3l
  refine (impl_maskvars n b (.slice ad L.length cd) L _ W3 HD.out).mono ?_
  rintro e W4 ⟨vy, f_vy, rfl, hyo, _, hbx⟩
  obtain ⟨a_vy, c_vy, rfl⟩ := Cd.ow_slice hyo
  replace HB := Lib.hid (below_then HB.out hbx)
  replace HD := Lib.hid (Cd.later HD.out hbx)
  replace L3 := Lib.hid (L3.out.later hbx)
  replace HX := Lib.hid (Cd.later HX.out hbx)
  have HY := Lib.hid (Cd.reads hyo)
  clear hyo hbx
  have l30 := L3.out.c0
  have l31 := L3.out.c1
  have l3l := L3.out.lt
  go_wp2_with fail
  clear l30 l31 l3l
  refine (impl_shared n a b (.slice ad L.length cd) L _ W4 HD.out).mono ?_
  rintro e W5 ⟨vz, f_vz, rfl, hyo, _, hbx⟩
  obtain ⟨a_vz, c_vz, rfl⟩ := Cd.ow_slice hyo
  replace HB := Lib.hid (below_then HB.out hbx)
  replace HD := Lib.hid (Cd.later HD.out hbx)
  replace L3 := Lib.hid (L3.out.later hbx)
  replace HX := Lib.hid (Cd.later HX.out hbx)
  replace HY := Lib.hid (Cd.later HY.out hbx)
  have HV := Lib.hid (Cd.reads hyo)
  clear hyo hbx
  have l30 := L3.out.c0
  have l31 := L3.out.c1
  have l3l := L3.out.lt
  go_wp2_with fail
  clear l30 l31 l3l
  refine (spec_maskvars n a (.slice ad L.length cd) L _ W5 HD.out).mono ?_
  rintro e W6 ⟨vs, f_vs, rfl, hyo, _, hbx⟩
  obtain ⟨a_vs, c_vs, rfl⟩ := Cd.ow_slice hyo
  replace HB := Lib.hid (below_then HB.out hbx)
  replace HD := Lib.hid (Cd.later HD.out hbx)
  replace L3 := Lib.hid (L3.out.later hbx)
  replace HX := Lib.hid (Cd.later HX.out hbx)
  replace HY := Lib.hid (Cd.later HY.out hbx)
  replace HV := Lib.hid (Cd.later HV.out hbx)
  have HS := Lib.hid (Cd.reads hyo)
  clear hyo hbx
  have l30 := L3.out.c0
  have l31 := L3.out.c1
  have l3l := L3.out.lt
  go_wp2_with fail
  clear l30 l31 l3l
  refine (same_rd _ _ _ _ _ W6 HX.out HS.out).mono ?_
  rintro e W7 ⟨rfl, hbx⟩
  replace HB := Lib.hid (below_then HB.out hbx)
  replace HD := Lib.hid (Cd.later HD.out hbx)
  replace L3 := Lib.hid (L3.out.later hbx)
  replace HX := Lib.hid (Cd.later HX.out hbx)
  replace HY := Lib.hid (Cd.later HY.out hbx)
  replace HV := Lib.hid (Cd.later HV.out hbx)
  replace HS := Lib.hid (Cd.later HS.out hbx)
  clear hbx
  clear HS
  have l30 := L3.out.c0
  have l31 := L3.out.c1
  have l3l := L3.out.lt
  go_wp2_with fail
  clear l30 l31 l3l
  refine (spec_shared n a b (.slice ad L.length cd) L _ W7 HD.out).mono ?_
  rintro e W8 ⟨vt, f_vt, rfl, hyo, _, hbx⟩
  obtain ⟨a_vt, c_vt, rfl⟩ := Cd.ow_slice hyo
  replace HB := Lib.hid (below_then HB.out hbx)
  replace HD := Lib.hid (Cd.later HD.out hbx)
  replace L3 := Lib.hid (L3.out.later hbx)
  replace HX := Lib.hid (Cd.later HX.out hbx)
  replace HY := Lib.hid (Cd.later HY.out hbx)
  replace HV := Lib.hid (Cd.later HV.out hbx)
  have HS2 := Lib.hid (Cd.reads hyo)
  clear hyo hbx
  have l30 := L3.out.c0
  have l31 := L3.out.c1
  have l3l := L3.out.lt
  go_wp2_with fail
  clear l30 l31 l3l
  refine (same_rd _ _ _ _ _ W8 HV.out HS2.out).mono ?_
  rintro e W9 ⟨rfl, hbx⟩
  replace HB := Lib.hid (below_then HB.out hbx)
  replace HD := Lib.hid (Cd.later HD.out hbx)
  replace L3 := Lib.hid (L3.out.later hbx)
  replace HX := Lib.hid (Cd.later HX.out hbx)
  replace HY := Lib.hid (Cd.later HY.out hbx)
  replace HV := Lib.hid (Cd.later HV.out hbx)
  replace HS2 := Lib.hid (Cd.later HS2.out hbx)
  clear hbx
  clear HS2
  have l30 := L3.out.c0
  have l31 := L3.out.c1
  have l3l := L3.out.lt
  go_wp2_with fail
  clear l30 l31 l3l
  have HZM := Lib.hid (fun x h => sh_mem n L a b x h)
  have HZL := Lib.hid (vars_len _ (shB_lt n L a b))
  generalize varsL (shB n L a b) = Z at *
  generalize varsL (mB n L a) = XL at *
  generalize varsL (mB n L b) = YL at *
  go_loop [9] (fun i => ∃ k : Nat, k ≤ Z.length ∧ i = .int .i64 k) (fun i => Z.length - (intOf i).toNat)
  case atStart => exact ⟨0, Nat.zero_le _, rfl⟩
  case round =>
    obtain ⟨k, hk, rfl⟩ := hrel
    by_cases hlt : k < Z.length
    · obtain ⟨bz, oz, cz, e1, _, hc⟩ := ri_at (row_ri HV.out).1 hlt
      injection e1 with e1 e2 e3
      subst e1 e3
      obtain ⟨m1, m2, m3⟩ := HZM.out _ (List.getElem_mem hlt)
      have M1 := Lib.hid m1
      have M2 := Lib.hid m2
      have t3 := name_ne _ m3
      have HLT := Lib.hid hlt
      have p1 : (0 : Int) ≤ (k : Int) := by omega
      have p2 : (k : Int) < (Z.length : Int) := by omega
      have p3 : (Z.length : Int) ≤ 4 := by have := HZL.out; omega
      clear m1 m2 m3
      generalize Z[k] = x at *
      go_wp2_with fail
      refine (has_rd _ _ x _ W9 HX.out M1.out).mono ?_
      rintro e w' ⟨rfl, rfl⟩
      go_wp2_with fail
      refine (has_rd _ _ x _ W9 HY.out M2.out).mono ?_
      rintro e w' ⟨rfl, rfl⟩
      go_wp2_with fail
      refine (impl_name x W9).mono ?_
      rintro e w' ⟨rfl, rfl⟩
      generalize vnm x = nx at *
      go_wp2_with fail
      go_round
      case rel => exact ⟨k + 1, HLT.out, by go_num⟩
      case measure => have := HLT.out; simp [intOf]; omega
    · have ek : k = Z.length := by omega
      subst ek
      have l30 := L3.out.c0
      have l31 := L3.out.c1
      have l3l := L3.out.lt
      go_wp2_with fail
      clear l30 l31 l3l
      clear HZM HZL HX HY HV
      refine (impl_fmt n (.slice ad L.length cd) L _ W9 HD.out).mono ?_
      rintro e W10 ⟨rfl, hbx⟩
      replace HB := Lib.hid (below_then HB.out hbx)
      replace HD := Lib.hid (Cd.later HD.out hbx)
      replace L3 := Lib.hid (L3.out.later hbx)
      clear hbx
      have HPF := Lib.hid (impl_parse (fmtQ n L) W10 HF.out.1 (HRD.out _ HB.out))
      clear HF
      have l30 := L3.out.c0
      have l31 := L3.out.c1
      have l3l := L3.out.lt
      go_wp2_with fail
      clear l30 l31 l3l
      refine HPF.out.mono ?_
      intro e W11 hqa
      obtain ⟨n2, M, uz, fz, rfl, hyo, hbx, hsame⟩ := par_back hqa
      obtain ⟨a_z, c_z, rfl⟩ := Cd.ow_slice (c := atomC) hyo
      replace HB := Lib.hid (below_then HB.out hbx)
      replace HD := Lib.hid (Cd.later HD.out hbx)
      replace L3 := Lib.hid (L3.out.later hbx)
      have HM := Lib.hid (Cd.reads hyo)
      have HSM := Lib.hid hsame
      clear hqa hyo hbx hsame HPF
      go_upto_region 16 with fail
      generalize hg : World.alloc W11 _ = W12
      obtain ⟨rg, zg, hbg⟩ := start1 W11 _ hg
      clear hg
      replace HB := Lib.hid (below_then HB.out hbg)
      replace HD := Lib.hid (Cd.later HD.out hbg)
      replace L3 := Lib.hid (L3.out.later hbg)
      replace HM := Lib.hid (Cd.later HM.out hbg)
      have L11 := Lib.hid (Loc2.of rg)
      clear hbg zg rg
      have HVS := Lib.hid (fun (w' : World) (hd : atomsC.rd w' (fun x => w.heap.size ≤ x ∧ x < W1.heap.size) [.slice ad L.length cd] L) => QryImp.spec_valid n (.slice ad L.length cd) L _ w' hd)
      have HVI := Lib.hid (fun (w' : World) (hd : atomsC.rd w' (fun x => w.heap.size ≤ x ∧ x < W1.heap.size) [.slice ad L.length cd] L) => QryImp.impl_valid n (.slice ad L.length cd) L _ w' hd)
      generalize qOk n L = qv at *
      generalize fmtQ n L = fs at *
      go_cut [106] (fun s106 wx => s106 = .bool false ∧ Below w.heap.size w wx)
      case first =>
        as_aux_lemma =>
          cases qv
          · have hd0 : Below W12.heap.size W12 W12.drew := ⟨rfl, rfl, rfl, Nat.le_refl _, fun _ _ => rfl⟩
            replace HB := Lib.hid (below_then HB.out hd0)
            replace HD := Lib.hid (Cd.later HD.out hd0)
            replace HM := Lib.hid (Cd.later HM.out hd0)
            replace L3 := Lib.hid (L3.out.later hd0)
            replace L11 := Lib.hid (L11.out.later hd0)
            clear hd0
            refine wp_region_held_drew (S := fun wx => Loc2 wx W1.heap.size (.int .i64 n) (.slice ad L.length cd) ∧ Loc2 wx W11.heap.size (.int .i64 n2) (.slice a_z M.length c_z)) (by kernel_rfl) ⟨L3.out, L11.out⟩ (fun hHeld => ?_)
            refine RegH.takeH (i := 0) (v := ?_) rfl (by kernel_rfl) (by kernel_rfl) (by kernel_rfl) (fun _ _ _ h => h) (Or.inl ⟨by rfl, ?_⟩) (by assumption) ?_
            rotate_left
            · (intro wS hSw; (try dsimp only at hSw); (have r0 := hSw.1.c0); (have r1 := hSw.1.c1); (have r2 := hSw.2.c0); (have r3 := hSw.2.c1); go_simp; try (with_reducible rfl))
            try simp only [Act.put, List.setIfInBounds_toArray, List.set_cons_zero, List.set_cons_succ]
            refine RegH.takeH (i := 1) (v := ?_) rfl (by kernel_rfl) (by kernel_rfl) (by kernel_rfl) (fun _ _ _ h => h) (Or.inl ⟨by rfl, ?_⟩) (by assumption) ?_
            rotate_left
            · (intro wS hSw; (try dsimp only at hSw); (have r0 := hSw.1.c0); (have r1 := hSw.1.c1); (have r2 := hSw.2.c0); (have r3 := hSw.2.c1); go_simp; try (with_reducible rfl))
            try simp only [Act.put, List.setIfInBounds_toArray, List.set_cons_zero, List.set_cons_succ]
            refine RegH.consH (i := 2) rfl (by kernel_rfl) (fun K hK => ?_)
            go_simp
            go_at_call 37
            refine (HVS.out _ HD.out).mono ?_
            rintro e w3 ⟨rfl, hbx⟩
            replace HB := Lib.hid (below_then HB.out hbx)
            replace HD := Lib.hid (Cd.later HD.out hbx)
            replace HM := Lib.hid (Cd.later HM.out hbx)
            replace L3 := Lib.hid (L3.out.later hbx)
            replace L11 := Lib.hid (L11.out.later hbx)
            clear hbx
            refine hK.out _ _ ?_ (fun hHeld => ?_)
            · exact ⟨L3.out, L11.out⟩
            clear hK K
            try simp only [Act.put, List.setIfInBounds_toArray, List.set_cons_zero, List.set_cons_succ]
            refine RegH.takeH (i := 3) (v := ?_) rfl (by kernel_rfl) (by kernel_rfl) (by kernel_rfl) (fun _ _ _ h => h) (Or.inl ⟨by rfl, ?_⟩) (by assumption) ?_
            rotate_left
            · (intro wS hSw; (try dsimp only at hSw); (have r0 := hSw.1.c0); (have r1 := hSw.1.c1); (have r2 := hSw.2.c0); (have r3 := hSw.2.c1); go_simp; try (with_reducible rfl))
            try simp only [Act.put, List.setIfInBounds_toArray, List.set_cons_zero, List.set_cons_succ]
            refine RegH.takeH (i := 4) (v := ?_) rfl (by kernel_rfl) (by kernel_rfl) (by kernel_rfl) (fun _ _ _ h => h) (Or.inl ⟨by rfl, ?_⟩) (by assumption) ?_
            rotate_left
            · (intro wS hSw; (try dsimp only at hSw); (have r0 := hSw.1.c0); (have r1 := hSw.1.c1); (have r2 := hSw.2.c0); (have r3 := hSw.2.c1); go_simp; try (with_reducible rfl))
            try simp only [Act.put, List.setIfInBounds_toArray, List.set_cons_zero, List.set_cons_succ]
            refine RegH.takeH (i := 5) (v := ?_) rfl (by kernel_rfl) (by kernel_rfl) (by kernel_rfl) (fun _ _ _ h => h) (Or.inl ⟨by rfl, ?_⟩) (by assumption) ?_
            rotate_left
            · (intro wS hSw; (try dsimp only at hSw); (have r0 := hSw.1.c0); (have r1 := hSw.1.c1); (have r2 := hSw.2.c0); (have r3 := hSw.2.c1); go_simp; try (with_reducible rfl))
            try simp only [Act.put, List.setIfInBounds_toArray, List.set_cons_zero, List.set_cons_succ]
            refine RegH.takeH (i := 6) (v := ?_) rfl (by kernel_rfl) (by kernel_rfl) (by kernel_rfl) (fun _ _ _ h => h) (Or.inl ⟨by rfl, ?_⟩) (by assumption) ?_
            rotate_left
            · (intro wS hSw; (try dsimp only at hSw); (have r0 := hSw.1.c0); (have r1 := hSw.1.c1); (have r2 := hSw.2.c0); (have r3 := hSw.2.c1); go_simp; try (with_reducible rfl))
            try simp only [Act.put, List.setIfInBounds_toArray, List.set_cons_zero, List.set_cons_succ]
            refine RegH.takeH (i := 7) rfl (by kernel_rfl) (by kernel_rfl) (by kernel_rfl) (fun _ _ _ h => h) (Or.inr ⟨by rfl, rfl⟩) (by assumption) ?_
            try simp only [Act.put, List.setIfInBounds_toArray, List.set_cons_zero, List.set_cons_succ]
            refine RegH.takeH (i := 8) rfl (by kernel_rfl) (by kernel_rfl) (by kernel_rfl) (fun _ _ _ h => h) (Or.inr ⟨by rfl, rfl⟩) (by assumption) ?_
            try simp only [Act.put, List.setIfInBounds_toArray, List.set_cons_zero, List.set_cons_succ]
            refine RegH.takeH (i := 9) rfl (by kernel_rfl) (by kernel_rfl) (by kernel_rfl) (fun _ _ _ h => h) (Or.inr ⟨by rfl, rfl⟩) (by assumption) ?_
            try simp only [Act.put, List.setIfInBounds_toArray, List.set_cons_zero, List.set_cons_succ]
            refine RegH.takeH (i := 10) rfl (by kernel_rfl) (by kernel_rfl) (by kernel_rfl) (fun _ _ _ h => h) (Or.inr ⟨by rfl, rfl⟩) (by assumption) ?_
            try simp only [Act.put, List.setIfInBounds_toArray, List.set_cons_zero, List.set_cons_succ]
            refine RegH.takeH (i := 11) (v := ?_) rfl (by kernel_rfl) (by kernel_rfl) (by kernel_rfl) (fun _ _ _ h => h) (Or.inl ⟨by rfl, ?_⟩) (by assumption) ?_
            rotate_left
            · (intro wS hSw; (try dsimp only at hSw); (have r0 := hSw.1.c0); (have r1 := hSw.1.c1); (have r2 := hSw.2.c0); (have r3 := hSw.2.c1); go_simp; try (with_reducible rfl))
            try simp only [Act.put, List.setIfInBounds_toArray, List.set_cons_zero, List.set_cons_succ]
            refine RegH.takeH (i := 12) (v := ?_) rfl (by kernel_rfl) (by kernel_rfl) (by kernel_rfl) (fun _ _ _ h => h) (Or.inl ⟨by rfl, ?_⟩) (by assumption) ?_
            rotate_left
            · (intro wS hSw; (try dsimp only at hSw); (have r0 := hSw.1.c0); (have r1 := hSw.1.c1); (have r2 := hSw.2.c0); (have r3 := hSw.2.c1); go_simp; try (with_reducible rfl))
            try simp only [Act.put, List.setIfInBounds_toArray, List.set_cons_zero, List.set_cons_succ]
            refine RegH.takeH (i := 13) (v := ?_) rfl (by kernel_rfl) (by kernel_rfl) (by kernel_rfl) (fun _ _ _ h => h) (Or.inl ⟨by rfl, ?_⟩) (by assumption) ?_
            rotate_left
            · (intro wS hSw; (try dsimp only at hSw); (have r0 := hSw.1.c0); (have r1 := hSw.1.c1); (have r2 := hSw.2.c0); (have r3 := hSw.2.c1); go_simp; try (with_reducible rfl))
            try simp only [Act.put, List.setIfInBounds_toArray, List.set_cons_zero, List.set_cons_succ]
            refine RegH.takeH (i := 14) (v := ?_) rfl (by kernel_rfl) (by kernel_rfl) (by kernel_rfl) (fun _ _ _ h => h) (Or.inl ⟨by rfl, ?_⟩) (by assumption) ?_
            rotate_left
            · (intro wS hSw; (try dsimp only at hSw); (have r0 := hSw.1.c0); (have r1 := hSw.1.c1); (have r2 := hSw.2.c0); (have r3 := hSw.2.c1); go_simp; try (with_reducible rfl))
            try simp only [Act.put, List.setIfInBounds_toArray, List.set_cons_zero, List.set_cons_succ]
            refine RegH.takeH (i := 16) (v := ?_) rfl (by kernel_rfl) (by kernel_rfl) (by kernel_rfl) (fun _ _ _ h => h) (Or.inl ⟨by rfl, ?_⟩) (by assumption) ?_
            rotate_left
            · (intro wS hSw; (try dsimp only at hSw); (have r0 := hSw.1.c0); (have r1 := hSw.1.c1); (have r2 := hSw.2.c0); (have r3 := hSw.2.c1); go_simp; try (with_reducible rfl))
            try simp only [Act.put, List.setIfInBounds_toArray, List.set_cons_zero, List.set_cons_succ]
            refine RegH.consH (i := 15) rfl (by kernel_rfl) (fun K hK => ?_)
            go_simp
            go_at_call 39
            refine (HVI.out _ HD.out).mono ?_
            rintro e w5 ⟨rfl, hbx⟩
            replace HB := Lib.hid (below_then HB.out hbx)
            replace HD := Lib.hid (Cd.later HD.out hbx)
            replace HM := Lib.hid (Cd.later HM.out hbx)
            replace L3 := Lib.hid (L3.out.later hbx)
            replace L11 := Lib.hid (L11.out.later hbx)
            clear hbx
            refine hK.out _ _ ?_ (fun hHeld => ?_)
            · exact ⟨L3.out, L11.out⟩
            clear hK K
            try simp only [Act.put, List.setIfInBounds_toArray, List.set_cons_zero, List.set_cons_succ]
            refine RegH.consH (i := 17) rfl (by kernel_rfl) (fun K hK => ?_)
            go_simp
            go_at_call 37
            refine (HVS.out _ HD.out).mono ?_
            rintro e w6 ⟨rfl, hbx⟩
            replace HB := Lib.hid (below_then HB.out hbx)
            replace HD := Lib.hid (Cd.later HD.out hbx)
            replace HM := Lib.hid (Cd.later HM.out hbx)
            replace L3 := Lib.hid (L3.out.later hbx)
            replace L11 := Lib.hid (L11.out.later hbx)
            clear hbx
            refine hK.out _ _ ?_ (fun hHeld => ?_)
            · exact ⟨L3.out, L11.out⟩
            clear hK K
            try simp only [Act.put, List.setIfInBounds_toArray, List.set_cons_zero, List.set_cons_succ]
            refine RegH.takeH (i := 18) (v := ?_) rfl (by kernel_rfl) (by kernel_rfl) (by kernel_rfl) (fun _ _ _ h => h) (Or.inl ⟨by rfl, ?_⟩) (by assumption) ?_
            rotate_left
            · (intro wS hSw; (try dsimp only at hSw); (have r0 := hSw.1.c0); (have r1 := hSw.1.c1); (have r2 := hSw.2.c0); (have r3 := hSw.2.c1); go_simp; try (with_reducible rfl))
            try simp only [Act.put, List.setIfInBounds_toArray, List.set_cons_zero, List.set_cons_succ]
            refine RegH.takeH (i := 19) (v := ?_) rfl (by kernel_rfl) (by kernel_rfl) (by kernel_rfl) (fun _ _ _ h => h) (Or.inl ⟨by rfl, ?_⟩) (by assumption) ?_
            rotate_left
            · (intro wS hSw; (try dsimp only at hSw); (have r0 := hSw.1.c0); (have r1 := hSw.1.c1); (have r2 := hSw.2.c0); (have r3 := hSw.2.c1); go_simp; try (with_reducible rfl))
            try simp only [Act.put, List.setIfInBounds_toArray, List.set_cons_zero, List.set_cons_succ]
            refine wpAnyH_done (by kernel_rfl) ?_ _
            go_wp2_with fail
            go_meet
            exact ⟨rfl, HB.out⟩
          · have hd0 : Below W12.heap.size W12 W12.drew := ⟨rfl, rfl, rfl, Nat.le_refl _, fun _ _ => rfl⟩
            obtain ⟨rfl, rfl⟩ := HSM.out rfl
            replace HB := Lib.hid (below_then HB.out hd0)
            replace HD := Lib.hid (Cd.later HD.out hd0)
            replace HM := Lib.hid (Cd.later HM.out hd0)
            replace L3 := Lib.hid (L3.out.later hd0)
            replace L11 := Lib.hid (L11.out.later hd0)
            clear hd0
            refine wp_region_held_drew (S := fun wx => Loc2 wx W1.heap.size (.int .i64 n2) (.slice ad M.length cd) ∧ Loc2 wx W11.heap.size (.int .i64 n2) (.slice a_z M.length c_z)) (by kernel_rfl) ⟨L3.out, L11.out⟩ (fun hHeld => ?_)
            refine RegH.takeH (i := 0) (v := ?_) rfl (by kernel_rfl) (by kernel_rfl) (by kernel_rfl) (fun _ _ _ h => h) (Or.inl ⟨by rfl, ?_⟩) (by assumption) ?_
            rotate_left
            · (intro wS hSw; (try dsimp only at hSw); (have r0 := hSw.1.c0); (have r1 := hSw.1.c1); (have r2 := hSw.2.c0); (have r3 := hSw.2.c1); go_simp; try (with_reducible rfl))
            try simp only [Act.put, List.setIfInBounds_toArray, List.set_cons_zero, List.set_cons_succ]
            refine RegH.takeH (i := 1) (v := ?_) rfl (by kernel_rfl) (by kernel_rfl) (by kernel_rfl) (fun _ _ _ h => h) (Or.inl ⟨by rfl, ?_⟩) (by assumption) ?_
            rotate_left
            · (intro wS hSw; (try dsimp only at hSw); (have r0 := hSw.1.c0); (have r1 := hSw.1.c1); (have r2 := hSw.2.c0); (have r3 := hSw.2.c1); go_simp; try (with_reducible rfl))
            try simp only [Act.put, List.setIfInBounds_toArray, List.set_cons_zero, List.set_cons_succ]
            refine RegH.consH (i := 2) rfl (by kernel_rfl) (fun K hK => ?_)
            go_simp
            go_at_call 37
            refine (HVS.out _ HD.out).mono ?_
            rintro e w3 ⟨rfl, hbx⟩
            replace HB := Lib.hid (below_then HB.out hbx)
            replace HD := Lib.hid (Cd.later HD.out hbx)
            replace HM := Lib.hid (Cd.later HM.out hbx)
            replace L3 := Lib.hid (L3.out.later hbx)
            replace L11 := Lib.hid (L11.out.later hbx)
            clear hbx
            refine hK.out _ _ ?_ (fun hHeld => ?_)
            · exact ⟨L3.out, L11.out⟩
            clear hK K
            try simp only [Act.put, List.setIfInBounds_toArray, List.set_cons_zero, List.set_cons_succ]
            refine RegH.takeH (i := 3) (v := ?_) rfl (by kernel_rfl) (by kernel_rfl) (by kernel_rfl) (fun _ _ _ h => h) (Or.inl ⟨by rfl, ?_⟩) (by assumption) ?_
            rotate_left
            · (intro wS hSw; (try dsimp only at hSw); (have r0 := hSw.1.c0); (have r1 := hSw.1.c1); (have r2 := hSw.2.c0); (have r3 := hSw.2.c1); go_simp; try (with_reducible rfl))
            try simp only [Act.put, List.setIfInBounds_toArray, List.set_cons_zero, List.set_cons_succ]
            refine RegH.takeH (i := 4) (v := ?_) rfl (by kernel_rfl) (by kernel_rfl) (by kernel_rfl) (fun _ _ _ h => h) (Or.inl ⟨by rfl, ?_⟩) (by assumption) ?_
            rotate_left
            · (intro wS hSw; (try dsimp only at hSw); (have r0 := hSw.1.c0); (have r1 := hSw.1.c1); (have r2 := hSw.2.c0); (have r3 := hSw.2.c1); go_simp; try (with_reducible rfl))
            try simp only [Act.put, List.setIfInBounds_toArray, List.set_cons_zero, List.set_cons_succ]
            refine RegH.takeH (i := 5) (v := ?_) rfl (by kernel_rfl) (by kernel_rfl) (by kernel_rfl) (fun _ _ _ h => h) (Or.inl ⟨by rfl, ?_⟩) (by assumption) ?_
            rotate_left
            · (intro wS hSw; (try dsimp only at hSw); (have r0 := hSw.1.c0); (have r1 := hSw.1.c1); (have r2 := hSw.2.c0); (have r3 := hSw.2.c1); go_simp; try (with_reducible rfl))
            try simp only [Act.put, List.setIfInBounds_toArray, List.set_cons_zero, List.set_cons_succ]
            refine RegH.takeH (i := 6) (v := ?_) rfl (by kernel_rfl) (by kernel_rfl) (by kernel_rfl) (fun _ _ _ h => h) (Or.inl ⟨by rfl, ?_⟩) (by assumption) ?_
            rotate_left
            · (intro wS hSw; (try dsimp only at hSw); (have r0 := hSw.1.c0); (have r1 := hSw.1.c1); (have r2 := hSw.2.c0); (have r3 := hSw.2.c1); go_simp; try (with_reducible rfl))
            try simp only [Act.put, List.setIfInBounds_toArray, List.set_cons_zero, List.set_cons_succ]
            refine RegH.takeH (i := 7) (v := ?_) rfl (by kernel_rfl) (by kernel_rfl) (by kernel_rfl) (fun _ _ _ h => h) (Or.inl ⟨by rfl, ?_⟩) (by assumption) ?_
            rotate_left
            · (intro wS hSw; (try dsimp only at hSw); (have r0 := hSw.1.c0); (have r1 := hSw.1.c1); (have r2 := hSw.2.c0); (have r3 := hSw.2.c1); go_simp; try (with_reducible rfl))
            try simp only [Act.put, List.setIfInBounds_toArray, List.set_cons_zero, List.set_cons_succ]
            refine RegH.takeH (i := 8) (v := ?_) rfl (by kernel_rfl) (by kernel_rfl) (by kernel_rfl) (fun _ _ _ h => h) (Or.inl ⟨by rfl, ?_⟩) (by assumption) ?_
            rotate_left
            · (intro wS hSw; (try dsimp only at hSw); (have r0 := hSw.1.c0); (have r1 := hSw.1.c1); (have r2 := hSw.2.c0); (have r3 := hSw.2.c1); go_simp; try (with_reducible rfl))
            try simp only [Act.put, List.setIfInBounds_toArray, List.set_cons_zero, List.set_cons_succ]
            refine RegH.consH (i := 9) rfl (by kernel_rfl) (fun K hK => ?_)
            go_simp
            go_at_call 38
            refine (impl_eqq n2 n2 (.slice a_z M.length c_z) (.slice ad M.length cd) M M _ _ _ HM.out HD.out).mono ?_
            rintro e w4 ⟨rfl, hbx⟩
            rw [same_q]
            replace HB := Lib.hid (below_then HB.out hbx)
            replace HD := Lib.hid (Cd.later HD.out hbx)
            replace HM := Lib.hid (Cd.later HM.out hbx)
            replace L3 := Lib.hid (L3.out.later hbx)
            replace L11 := Lib.hid (L11.out.later hbx)
            clear hbx
            refine hK.out _ _ ?_ (fun hHeld => ?_)
            · exact ⟨L3.out, L11.out⟩
            clear hK K
            try simp only [Act.put, List.setIfInBounds_toArray, List.set_cons_zero, List.set_cons_succ]
            refine RegH.takeH (i := 10) (v := ?_) rfl (by kernel_rfl) (by kernel_rfl) (by kernel_rfl) (fun _ _ _ h => h) (Or.inl ⟨by rfl, ?_⟩) (by assumption) ?_
            rotate_left
            · (intro wS hSw; (try dsimp only at hSw); (have r0 := hSw.1.c0); (have r1 := hSw.1.c1); (have r2 := hSw.2.c0); (have r3 := hSw.2.c1); go_simp; try (with_reducible rfl))
            try simp only [Act.put, List.setIfInBounds_toArray, List.set_cons_zero, List.set_cons_succ]
            refine RegH.takeH (i := 11) (v := ?_) rfl (by kernel_rfl) (by kernel_rfl) (by kernel_rfl) (fun _ _ _ h => h) (Or.inl ⟨by rfl, ?_⟩) (by assumption) ?_
            rotate_left
            · (intro wS hSw; (try dsimp only at hSw); (have r0 := hSw.1.c0); (have r1 := hSw.1.c1); (have r2 := hSw.2.c0); (have r3 := hSw.2.c1); go_simp; try (with_reducible rfl))
            try simp only [Act.put, List.setIfInBounds_toArray, List.set_cons_zero, List.set_cons_succ]
            refine RegH.takeH (i := 12) (v := ?_) rfl (by kernel_rfl) (by kernel_rfl) (by kernel_rfl) (fun _ _ _ h => h) (Or.inl ⟨by rfl, ?_⟩) (by assumption) ?_
            rotate_left
            · (intro wS hSw; (try dsimp only at hSw); (have r0 := hSw.1.c0); (have r1 := hSw.1.c1); (have r2 := hSw.2.c0); (have r3 := hSw.2.c1); go_simp; try (with_reducible rfl))
            try simp only [Act.put, List.setIfInBounds_toArray, List.set_cons_zero, List.set_cons_succ]
            refine RegH.takeH (i := 13) (v := ?_) rfl (by kernel_rfl) (by kernel_rfl) (by kernel_rfl) (fun _ _ _ h => h) (Or.inl ⟨by rfl, ?_⟩) (by assumption) ?_
            rotate_left
            · (intro wS hSw; (try dsimp only at hSw); (have r0 := hSw.1.c0); (have r1 := hSw.1.c1); (have r2 := hSw.2.c0); (have r3 := hSw.2.c1); go_simp; try (with_reducible rfl))
            try simp only [Act.put, List.setIfInBounds_toArray, List.set_cons_zero, List.set_cons_succ]
            refine RegH.takeH (i := 14) (v := ?_) rfl (by kernel_rfl) (by kernel_rfl) (by kernel_rfl) (fun _ _ _ h => h) (Or.inl ⟨by rfl, ?_⟩) (by assumption) ?_
            rotate_left
            · (intro wS hSw; (try dsimp only at hSw); (have r0 := hSw.1.c0); (have r1 := hSw.1.c1); (have r2 := hSw.2.c0); (have r3 := hSw.2.c1); go_simp; try (with_reducible rfl))
            try simp only [Act.put, List.setIfInBounds_toArray, List.set_cons_zero, List.set_cons_succ]
            refine RegH.takeH (i := 16) (v := ?_) rfl (by kernel_rfl) (by kernel_rfl) (by kernel_rfl) (fun _ _ _ h => h) (Or.inl ⟨by rfl, ?_⟩) (by assumption) ?_
            rotate_left
            · (intro wS hSw; (try dsimp only at hSw); (have r0 := hSw.1.c0); (have r1 := hSw.1.c1); (have r2 := hSw.2.c0); (have r3 := hSw.2.c1); go_simp; try (with_reducible rfl))
            try simp only [Act.put, List.setIfInBounds_toArray, List.set_cons_zero, List.set_cons_succ]
            refine RegH.consH (i := 15) rfl (by kernel_rfl) (fun K hK => ?_)
            go_simp
            go_at_call 39
            refine (HVI.out _ HD.out).mono ?_
            rintro e w5 ⟨rfl, hbx⟩
            replace HB := Lib.hid (below_then HB.out hbx)
            replace HD := Lib.hid (Cd.later HD.out hbx)
            replace HM := Lib.hid (Cd.later HM.out hbx)
            replace L3 := Lib.hid (L3.out.later hbx)
            replace L11 := Lib.hid (L11.out.later hbx)
            clear hbx
            refine hK.out _ _ ?_ (fun hHeld => ?_)
            · exact ⟨L3.out, L11.out⟩
            clear hK K
            try simp only [Act.put, List.setIfInBounds_toArray, List.set_cons_zero, List.set_cons_succ]
            refine RegH.consH (i := 17) rfl (by kernel_rfl) (fun K hK => ?_)
            go_simp
            go_at_call 37
            refine (HVS.out _ HD.out).mono ?_
            rintro e w6 ⟨rfl, hbx⟩
            replace HB := Lib.hid (below_then HB.out hbx)
            replace HD := Lib.hid (Cd.later HD.out hbx)
            replace HM := Lib.hid (Cd.later HM.out hbx)
            replace L3 := Lib.hid (L3.out.later hbx)
            replace L11 := Lib.hid (L11.out.later hbx)
            clear hbx
            refine hK.out _ _ ?_ (fun hHeld => ?_)
            · exact ⟨L3.out, L11.out⟩
            clear hK K
            try simp only [Act.put, List.setIfInBounds_toArray, List.set_cons_zero, List.set_cons_succ]
            refine RegH.takeH (i := 18) (v := ?_) rfl (by kernel_rfl) (by kernel_rfl) (by kernel_rfl) (fun _ _ _ h => h) (Or.inl ⟨by rfl, ?_⟩) (by assumption) ?_
            rotate_left
            · (intro wS hSw; (try dsimp only at hSw); (have r0 := hSw.1.c0); (have r1 := hSw.1.c1); (have r2 := hSw.2.c0); (have r3 := hSw.2.c1); go_simp; try (with_reducible rfl))
            try simp only [Act.put, List.setIfInBounds_toArray, List.set_cons_zero, List.set_cons_succ]
            refine RegH.takeH (i := 19) (v := ?_) rfl (by kernel_rfl) (by kernel_rfl) (by kernel_rfl) (fun _ _ _ h => h) (Or.inl ⟨by rfl, ?_⟩) (by assumption) ?_
            rotate_left
            · (intro wS hSw; (try dsimp only at hSw); (have r0 := hSw.1.c0); (have r1 := hSw.1.c1); (have r2 := hSw.2.c0); (have r3 := hSw.2.c1); go_simp; try (with_reducible rfl))
            try simp only [Act.put, List.setIfInBounds_toArray, List.set_cons_zero, List.set_cons_succ]
            refine wpAnyH_done (by kernel_rfl) ?_ _
            go_wp2_with fail
            go_meet
            exact ⟨rfl, HB.out⟩
      case rest =>
        obtain ⟨rfl, c_HB⟩ := hcut
        clear HB HD HM L3 L11 HSM HVS HVI HRD
        have HB := Lib.hid c_HB
        clear c_HB
        generalize wc = W13 at *
        have HD2 := Lib.hid (draw_cols v l W13 (HR.out _ HB.out))
        go_wp2_with fail
        refine HD2.out.mono ?_
        rintro e W14 ⟨nm, uu, vs, sl, ls, rfl, hvr, hvl, hlr, hll, hbx⟩
        obtain ⟨at_, ct, rfl, _⟩ := row_form hvr
        obtain ⟨al_, cl_, rfl, _⟩ := row_form hlr
        replace HB := Lib.hid (below_then HB.out hbx)
        have HV := Lib.hid hvr
        have HL := Lib.hid hlr
        have HVL := Lib.hid (And.intro hvl hll)
        clear hvr hvl hlr hll hbx HD2 HR
        go_wp2_with fail
        generalize hg : World.alloc W14 _ = W15
        obtain ⟨rg, zg, hbg⟩ := start1 W14 _ hg
        clear hg
        replace HB := Lib.hid (below_then HB.out hbg)
        replace HV := Lib.hid (Cd.later HV.out hbg)
        replace HL := Lib.hid (Cd.later HL.out hbg)
        have L13 := Lib.hid (Loc2.of rg)
        clear hbg zg rg
        refine (impl_cols nm (.slice at_ vs.length ct) (.slice al_ ls.length cl_) vs ls _ _ W15 HV.out HL.out (by have := HVL.out.1; omega) (by have := HVL.out.2; omega)).mono ?_
        rintro e W16 ⟨vc, f_vc, rfl, hyo, _, hbx⟩
        obtain ⟨a_vc, c_vc, rfl⟩ := Cd.ow_slice hyo
        replace HB := Lib.hid (below_then HB.out hbx)
        replace HV := Lib.hid (Cd.later HV.out hbx)
        replace HL := Lib.hid (Cd.later HL.out hbx)
        replace L13 := Lib.hid (L13.out.later hbx)
        have HC := Lib.hid (Cd.reads hyo)
        clear hyo hbx
        have l130 := L13.out.c0
        have l131 := L13.out.c1
        have l13l := L13.out.lt
        go_wp2_with fail
        clear l130 l131 l13l
        have HCM := Lib.hid (fun x h => cols_mem vs ls x h)
        have HCL := Lib.hid (cols_len vs ls)
        generalize hQ : colsL vs ls = Q at *
        have HQ := Lib.hid hQ
        clear hQ
        go_loopw [16] (fun i wr => ∃ k : Nat, k ≤ Q.length ∧ i = .int .i64 k ∧ Below W16.heap.size W16 wr) (fun i _ => Q.length - (intOf i).toNat)
        case atStart => exact ⟨0, Nat.zero_le _, rfl, Below.refl _ _⟩
        case round =>
          obtain ⟨k, hk, rfl, hbr⟩ := hrel
          have HBR := Lib.hid hbr
          clear hbr
          by_cases hlt : k < Q.length
          · obtain ⟨j, hj1, hj, hhas⟩ := HCM.out _ (List.getElem_mem hlt)
            have HH := Lib.hid hhas
            have hbd : Below W16.heap.size W16 wr.drew := below_then HBR.out ⟨rfl, rfl, rfl, Nat.le_refl _, fun _ _ => rfl⟩
            have HBD := Lib.hid hbd
            have HLD := Lib.hid (Cd.later HL.out hbd)
            obtain ⟨bq, oq, cq, e1, _, hcq⟩ := ri_at (row_ri (Cd.later HC.out hbd)).1 hlt
            injection e1 with e1 e2 e3
            subst e1 e3
            obtain ⟨bt, ot, ct2, e1, _, hct⟩ := ri_at (row_ri (Cd.later HV.out hbd)).1 hj
            injection e1 with e1 e2 e3
            subst e1 e3
            rw [hj1] at hcq
            have hl13 := L13.out.later hbd
            have HLT := Lib.hid hlt
            have HJ := Lib.hid hj
            have p1 : (0 : Int) ≤ (k : Int) := by omega
            have p2 : (k : Int) < (Q.length : Int) := by omega
            have p3 : (Q.length : Int) ≤ 3 := by have := HCL.out; have := HVL.out.1; omega
            have p4 : (0 : Int) ≤ (j : Int) := by omega
            have p5 : (j : Int) < (vs.length : Int) := by omega
            have p6 : ¬ (vs.length : Int) ≤ (j : Int) := by omega
            have p7 : ¬ (j : Int) < 0 := by omega
            clear hbd hhas hj1
            generalize vs[j] = x at *
            go_upto_region 23 with fail
            refine wp_region_held_drew (S := fun wx => Loc2 wx W14.heap.size (.string nm) (.slice (some ⟨bt, ot, none⟩) vs.length ct) ∧ wx.cell? ⟨bq, oq + k, none⟩ = some (.int .i64 (j : Int)) ∧ wx.cell? ⟨bt, ot + j, none⟩ = some (.int .i64 x)) (by kernel_rfl) ⟨hl13, hcq, hct⟩ (fun hHeld => ?_)
            refine RegH.takeH (i := 0) (v := ?_) rfl (by kernel_rfl) (by kernel_rfl) (by kernel_rfl) (fun _ _ _ h => h) (Or.inl ⟨by rfl, ?_⟩) (by assumption) ?_
            rotate_left
            · (intro wS hSw; (try dsimp only at hSw); (have r1 := hSw.1.c1); (have r2 := hSw.2.1); (have r3 := hSw.2.2); go_simp; try (with_reducible rfl))
            try simp only [Act.put, List.setIfInBounds_toArray, List.set_cons_zero, List.set_cons_succ]
            refine RegH.takeH (i := 1) (v := ?_) rfl (by kernel_rfl) (by kernel_rfl) (by kernel_rfl) (fun _ _ _ h => h) (Or.inl ⟨by rfl, ?_⟩) (by assumption) ?_
            rotate_left
            · (intro wS hSw; (try dsimp only at hSw); (have r1 := hSw.1.c1); (have r2 := hSw.2.1); (have r3 := hSw.2.2); go_simp; try (with_reducible rfl))
            try simp only [Act.put, List.setIfInBounds_toArray, List.set_cons_zero, List.set_cons_succ]
            refine RegH.takeH (i := 2) (v := ?_) rfl (by kernel_rfl) (by kernel_rfl) (by kernel_rfl) (fun _ _ _ h => h) (Or.inl ⟨by rfl, ?_⟩) (by assumption) ?_
            rotate_left
            · (intro wS hSw; (try dsimp only at hSw); (have r1 := hSw.1.c1); (have r2 := hSw.2.1); (have r3 := hSw.2.2); go_simp; try (with_reducible rfl))
            try simp only [Act.put, List.setIfInBounds_toArray, List.set_cons_zero, List.set_cons_succ]
            refine RegH.takeH (i := 3) (v := ?_) rfl (by kernel_rfl) (by kernel_rfl) (by kernel_rfl) (fun _ _ _ h => h) (Or.inl ⟨by rfl, ?_⟩) (by assumption) ?_
            rotate_left
            · (intro wS hSw; (try dsimp only at hSw); (have r1 := hSw.1.c1); (have r2 := hSw.2.1); (have r3 := hSw.2.2); go_simp; try (with_reducible rfl))
            try simp only [Act.put, List.setIfInBounds_toArray, List.set_cons_zero, List.set_cons_succ]
            refine RegH.takeH (i := 4) (v := ?_) rfl (by kernel_rfl) (by kernel_rfl) (by kernel_rfl) (fun _ _ _ h => h) (Or.inl ⟨by rfl, ?_⟩) (by assumption) ?_
            rotate_left
            · (intro wS hSw; (try dsimp only at hSw); (have r1 := hSw.1.c1); (have r2 := hSw.2.1); (have r3 := hSw.2.2); go_simp; try (with_reducible rfl))
            try simp only [Act.put, List.setIfInBounds_toArray, List.set_cons_zero, List.set_cons_succ]
            refine RegH.takeH (i := 5) (v := ?_) rfl (by kernel_rfl) (by kernel_rfl) (by kernel_rfl) (fun _ _ _ h => h) (Or.inl ⟨by rfl, ?_⟩) (by assumption) ?_
            rotate_left
            · (intro wS hSw; (try dsimp only at hSw); (have r1 := hSw.1.c1); (have r2 := hSw.2.1); (have r3 := hSw.2.2); go_simp; try (with_reducible rfl))
            try simp only [Act.put, List.setIfInBounds_toArray, List.set_cons_zero, List.set_cons_succ]
            refine RegH.takeH (i := 6) (v := ?_) rfl (by kernel_rfl) (by kernel_rfl) (by kernel_rfl) (fun _ _ _ h => h) (Or.inl ⟨by rfl, ?_⟩) (by assumption) ?_
            rotate_left
            · (intro wS hSw; (try dsimp only at hSw); (have r1 := hSw.1.c1); (have r2 := hSw.2.1); (have r3 := hSw.2.2); go_simp; try (with_reducible rfl))
            try simp only [Act.put, List.setIfInBounds_toArray, List.set_cons_zero, List.set_cons_succ]
            refine RegH.takeH (i := 7) (v := ?_) rfl (by kernel_rfl) (by kernel_rfl) (by kernel_rfl) (fun _ _ _ h => h) (Or.inl ⟨by rfl, ?_⟩) (by assumption) ?_
            rotate_left
            · (intro wS hSw; (try dsimp only at hSw); (have r1 := hSw.1.c1); (have r2 := hSw.2.1); (have r3 := hSw.2.2); go_simp; try (with_reducible rfl))
            try simp only [Act.put, List.setIfInBounds_toArray, List.set_cons_zero, List.set_cons_succ]
            refine RegH.takeH (i := 8) (v := ?_) rfl (by kernel_rfl) (by kernel_rfl) (by kernel_rfl) (fun _ _ _ h => h) (Or.inl ⟨by rfl, ?_⟩) (by assumption) ?_
            rotate_left
            · (intro wS hSw; (try dsimp only at hSw); (have r1 := hSw.1.c1); (have r2 := hSw.2.1); (have r3 := hSw.2.2); go_simp; try (with_reducible rfl))
            try simp only [Act.put, List.setIfInBounds_toArray, List.set_cons_zero, List.set_cons_succ]
            refine RegH.takeH (i := 9) (v := ?_) rfl (by kernel_rfl) (by kernel_rfl) (by kernel_rfl) (fun _ _ _ h => h) (Or.inl ⟨by rfl, ?_⟩) (by assumption) ?_
            rotate_left
            · (intro wS hSw; (try dsimp only at hSw); (have r1 := hSw.1.c1); (have r2 := hSw.2.1); (have r3 := hSw.2.2); go_simp; try (with_reducible rfl))
            try simp only [Act.put, List.setIfInBounds_toArray, List.set_cons_zero, List.set_cons_succ]
            refine RegH.takeH (i := 10) (v := ?_) rfl (by kernel_rfl) (by kernel_rfl) (by kernel_rfl) (fun _ _ _ h => h) (Or.inl ⟨by rfl, ?_⟩) (by assumption) ?_
            rotate_left
            · (intro wS hSw; (try dsimp only at hSw); (have r1 := hSw.1.c1); (have r2 := hSw.2.1); (have r3 := hSw.2.2); go_simp; try (with_reducible rfl))
            try simp only [Act.put, List.setIfInBounds_toArray, List.set_cons_zero, List.set_cons_succ]
            refine RegH.takeH (i := 11) (v := ?_) rfl (by kernel_rfl) (by kernel_rfl) (by kernel_rfl) (fun _ _ _ h => h) (Or.inl ⟨by rfl, ?_⟩) (by assumption) ?_
            rotate_left
            · (intro wS hSw; (try dsimp only at hSw); (have r1 := hSw.1.c1); (have r2 := hSw.2.1); (have r3 := hSw.2.2); go_simp; try (with_reducible rfl))
            try simp only [Act.put, List.setIfInBounds_toArray, List.set_cons_zero, List.set_cons_succ]
            refine RegH.takeH (i := 12) (v := ?_) rfl (by kernel_rfl) (by kernel_rfl) (by kernel_rfl) (fun _ _ _ h => h) (Or.inl ⟨by rfl, ?_⟩) (by assumption) ?_
            rotate_left
            · (intro wS hSw; (try dsimp only at hSw); (have r1 := hSw.1.c1); (have r2 := hSw.2.1); (have r3 := hSw.2.2); go_simp; try (with_reducible rfl))
            try simp only [Act.put, List.setIfInBounds_toArray, List.set_cons_zero, List.set_cons_succ]
            refine RegH.takeH (i := 13) (v := ?_) rfl (by kernel_rfl) (by kernel_rfl) (by kernel_rfl) (fun _ _ _ h => h) (Or.inl ⟨by rfl, ?_⟩) (by assumption) ?_
            rotate_left
            · (intro wS hSw; (try dsimp only at hSw); (have r1 := hSw.1.c1); (have r2 := hSw.2.1); (have r3 := hSw.2.2); go_simp; try (with_reducible rfl))
            try simp only [Act.put, List.setIfInBounds_toArray, List.set_cons_zero, List.set_cons_succ]
            refine RegH.takeH (i := 14) (v := ?_) rfl (by kernel_rfl) (by kernel_rfl) (by kernel_rfl) (fun _ _ _ h => h) (Or.inl ⟨by rfl, ?_⟩) (by assumption) ?_
            rotate_left
            · (intro wS hSw; (try dsimp only at hSw); (have r1 := hSw.1.c1); (have r2 := hSw.2.1); (have r3 := hSw.2.2); go_simp; try (with_reducible rfl))
            try simp only [Act.put, List.setIfInBounds_toArray, List.set_cons_zero, List.set_cons_succ]
            refine RegH.takeH (i := 15) (v := ?_) rfl (by kernel_rfl) (by kernel_rfl) (by kernel_rfl) (fun _ _ _ h => h) (Or.inl ⟨by rfl, ?_⟩) (by assumption) ?_
            rotate_left
            · (intro wS hSw; (try dsimp only at hSw); (have r1 := hSw.1.c1); (have r2 := hSw.2.1); (have r3 := hSw.2.2); go_simp; try (with_reducible rfl))
            try simp only [Act.put, List.setIfInBounds_toArray, List.set_cons_zero, List.set_cons_succ]
            refine RegH.takeH (i := 16) (v := ?_) rfl (by kernel_rfl) (by kernel_rfl) (by kernel_rfl) (fun _ _ _ h => h) (Or.inl ⟨by rfl, ?_⟩) (by assumption) ?_
            rotate_left
            · (intro wS hSw; (try dsimp only at hSw); (have r1 := hSw.1.c1); (have r2 := hSw.2.1); (have r3 := hSw.2.2); go_simp; try (with_reducible rfl))
            try simp only [Act.put, List.setIfInBounds_toArray, List.set_cons_zero, List.set_cons_succ]
            refine RegH.takeH (i := 17) (v := ?_) rfl (by kernel_rfl) (by kernel_rfl) (by kernel_rfl) (fun _ _ _ h => h) (Or.inl ⟨by rfl, ?_⟩) (by assumption) ?_
            rotate_left
            · (intro wS hSw; (try dsimp only at hSw); (have r1 := hSw.1.c1); (have r2 := hSw.2.1); (have r3 := hSw.2.2); go_simp; try (with_reducible rfl))
            try simp only [Act.put, List.setIfInBounds_toArray, List.set_cons_zero, List.set_cons_succ]
            refine RegH.takeH (i := 18) (v := ?_) rfl (by kernel_rfl) (by kernel_rfl) (by kernel_rfl) (fun _ _ _ h => h) (Or.inl ⟨by rfl, ?_⟩) (by assumption) ?_
            rotate_left
            · (intro wS hSw; (try dsimp only at hSw); (have r1 := hSw.1.c1); (have r2 := hSw.2.1); (have r3 := hSw.2.2); go_simp; try (with_reducible rfl))
            try simp only [Act.put, List.setIfInBounds_toArray, List.set_cons_zero, List.set_cons_succ]
            refine RegH.takeH (i := 19) (v := ?_) rfl (by kernel_rfl) (by kernel_rfl) (by kernel_rfl) (fun _ _ _ h => h) (Or.inl ⟨by rfl, ?_⟩) (by assumption) ?_
            rotate_left
            · (intro wS hSw; (try dsimp only at hSw); (have r1 := hSw.1.c1); (have r2 := hSw.2.1); (have r3 := hSw.2.2); go_simp; try (with_reducible rfl))
            try simp only [Act.put, List.setIfInBounds_toArray, List.set_cons_zero, List.set_cons_succ]
            refine RegH.takeH (i := 20) (v := ?_) rfl (by kernel_rfl) (by kernel_rfl) (by kernel_rfl) (fun _ _ _ h => h) (Or.inl ⟨by rfl, ?_⟩) (by assumption) ?_
            rotate_left
            · (intro wS hSw; (try dsimp only at hSw); (have r1 := hSw.1.c1); (have r2 := hSw.2.1); (have r3 := hSw.2.2); go_simp; try (with_reducible rfl))
            try simp only [Act.put, List.setIfInBounds_toArray, List.set_cons_zero, List.set_cons_succ]
            refine RegH.takeH (i := 21) (v := ?_) rfl (by kernel_rfl) (by kernel_rfl) (by kernel_rfl) (fun _ _ _ h => h) (Or.inl ⟨by rfl, ?_⟩) (by assumption) ?_
            rotate_left
            · (intro wS hSw; (try dsimp only at hSw); (have r1 := hSw.1.c1); (have r2 := hSw.2.1); (have r3 := hSw.2.2); go_simp; try (with_reducible rfl))
            try simp only [Act.put, List.setIfInBounds_toArray, List.set_cons_zero, List.set_cons_succ]
            refine RegH.takeH (i := 22) (v := ?_) rfl (by kernel_rfl) (by kernel_rfl) (by kernel_rfl) (fun _ _ _ h => h) (Or.inl ⟨by rfl, ?_⟩) (by assumption) ?_
            rotate_left
            · (intro wS hSw; (try dsimp only at hSw); (have r1 := hSw.1.c1); (have r2 := hSw.2.1); (have r3 := hSw.2.2); go_simp; try (with_reducible rfl))
            try simp only [Act.put, List.setIfInBounds_toArray, List.set_cons_zero, List.set_cons_succ]
            refine RegH.takeH (i := 23) (v := ?_) rfl (by kernel_rfl) (by kernel_rfl) (by kernel_rfl) (fun _ _ _ h => h) (Or.inl ⟨by rfl, ?_⟩) (by assumption) ?_
            rotate_left
            · (intro wS hSw; (try dsimp only at hSw); (have r1 := hSw.1.c1); (have r2 := hSw.2.1); (have r3 := hSw.2.2); go_simp; try (with_reducible rfl))
            try simp only [Act.put, List.setIfInBounds_toArray, List.set_cons_zero, List.set_cons_succ]
            refine RegH.takeH (i := 24) (v := ?_) rfl (by kernel_rfl) (by kernel_rfl) (by kernel_rfl) (fun _ _ _ h => h) (Or.inl ⟨by rfl, ?_⟩) (by assumption) ?_
            rotate_left
            · (intro wS hSw; (try dsimp only at hSw); (have r1 := hSw.1.c1); (have r2 := hSw.2.1); (have r3 := hSw.2.2); go_simp; try (with_reducible rfl))
            try simp only [Act.put, List.setIfInBounds_toArray, List.set_cons_zero, List.set_cons_succ]
            refine RegH.consH (i := 25) rfl (by kernel_rfl) (fun K hK => ?_)
            go_simp
            go_at_call 34
            refine (has_rd _ _ x _ _ HLD.out HH.out).mono ?_
            rintro e w' ⟨rfl, rfl⟩
            refine hK.out _ _ ?_ (fun hHeld => ?_)
            · exact hHeld
            clear hK K
            try simp only [Act.put, List.setIfInBounds_toArray, List.set_cons_zero, List.set_cons_succ]
            refine RegH.takeH (i := 26) (v := ?_) rfl (by kernel_rfl) (by kernel_rfl) (by kernel_rfl) (fun _ _ _ h => h) (Or.inl ⟨by rfl, ?_⟩) (by assumption) ?_
            rotate_left
            · (intro wS hSw; (try dsimp only at hSw); (have r1 := hSw.1.c1); (have r2 := hSw.2.1); (have r3 := hSw.2.2); go_simp; try (with_reducible rfl))
            try simp only [Act.put, List.setIfInBounds_toArray, List.set_cons_zero, List.set_cons_succ]
            refine RegH.takeH (i := 27) (v := ?_) rfl (by kernel_rfl) (by kernel_rfl) (by kernel_rfl) (fun _ _ _ h => h) (Or.inl ⟨by rfl, ?_⟩) (by assumption) ?_
            rotate_left
            · (intro wS hSw; (try dsimp only at hSw); (have r1 := hSw.1.c1); (have r2 := hSw.2.1); (have r3 := hSw.2.2); go_simp; try (with_reducible rfl))
            try simp only [Act.put, List.setIfInBounds_toArray, List.set_cons_zero, List.set_cons_succ]
            refine wpAnyH_done (by kernel_rfl) ?_ _
            clear hHeld hcq hct hl13
            go_wp2_with fail
            go_roundw
            case rel => exact ⟨k + 1, HLT.out, by go_num, HBD.out⟩
            case measure => have := HLT.out; simp [intOf]; omega
          · have ek : k = Q.length := by omega
            subst ek
            replace HB := Lib.hid (below_then HB.out HBR.out)
            replace HV := Lib.hid (Cd.later HV.out HBR.out)
            replace HL := Lib.hid (Cd.later HL.out HBR.out)
            replace HC := Lib.hid (Cd.later HC.out HBR.out)
            replace L13 := Lib.hid (L13.out.later HBR.out)
            clear HCM HCL
            have l130 := L13.out.c0
            have l131 := L13.out.c1
            have l13l := L13.out.lt
            go_wp2_with fail
            clear l130 l131 l13l
            have HSC := Lib.hid (spec_cols nm (.slice at_ vs.length ct) (.slice al_ ls.length cl_) vs ls _ _ wr HV.out HL.out (by have := HVL.out.1; omega))
            rw [HQ.out] at HSC
            refine (HSC.out).mono ?_
            rintro e W18 ⟨ve, f_ve, rfl, hyo, _, hbx⟩
            obtain ⟨a_ve, c_ve, rfl⟩ := Cd.ow_slice hyo
            replace HB := Lib.hid (below_then HB.out hbx)
            replace HV := Lib.hid (Cd.later HV.out hbx)
            replace HL := Lib.hid (Cd.later HL.out hbx)
            replace L13 := Lib.hid (L13.out.later hbx)
            replace HC := Lib.hid (Cd.later HC.out hbx)
            have HE := Lib.hid (Cd.reads hyo)
            clear hyo hbx
            have l130 := L13.out.c0
            have l131 := L13.out.c1
            have l13l := L13.out.lt
            go_wp2_with fail
            clear l130 l131 l13l
            refine (same_rd _ _ _ _ _ W18 HC.out HE.out).mono ?_
            rintro e W19 ⟨rfl, hbx⟩
            replace HB := Lib.hid (below_then HB.out hbx)
            replace HV := Lib.hid (Cd.later HV.out hbx)
            replace HL := Lib.hid (Cd.later HL.out hbx)
            replace L13 := Lib.hid (L13.out.later hbx)
            replace HC := Lib.hid (Cd.later HC.out hbx)
            replace HE := Lib.hid (Cd.later HE.out hbx)
            clear hbx
            have l130 := L13.out.c0
            have l131 := L13.out.c1
            have l13l := L13.out.lt
            go_wp2_with fail
            clear l130 l131 l13l
            go_ret
            exact ⟨rfl, HB.out⟩
end Go.Proofs.YtdjgaffiildijabDoor.QryWalk
