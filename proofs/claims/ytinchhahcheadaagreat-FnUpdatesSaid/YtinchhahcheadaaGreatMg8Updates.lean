/- Texts that the proof rests on, one behind the other. -/
import Derived.Test.YtinchhahcheadaaGreatMg1Updates
import Derived.Test.YtinchhahcheadaaGreatMg7Updates
import Derived.Deep.DeepCutAuto
import Derived.Deep.RegionHeld3

namespace Go.Proofs.YtinchhahcheadaaGreat.UpdWalk
open Go Go.RowKit Byt Ints IntsLaw Draw Cd Rows2 Tab SlMath TabOpen TabElem SlTable Db TabSpec DbMath DbSpec DbExact DbDraw Upd UpdMath UpdFmt UpdDraw Exact
open DbAcc (DbAns)

theorem same_self (nm : ByteArray) (b : Bool) (row : List Int) : UpdOps.sameU nm nm b b row row = true := decide_eq_true ⟨rfl, rfl, rfl⟩
theorem list0 : (⟨#[]⟩ : ByteArray).toList = [] := by simp [ByteArray.toList, ByteArray.toList.loop, ByteArray.size]
theorem upds_wt : ∀ {us : List U3}, (∀ U ∈ us, U.1.size ≤ 2 ∧ U.2.2.length ≤ 40) → sumN wtU us ≤ 100 * us.length
  | [], _ => by simp [sumN]
  | U :: us, h => by
    have h1 := upds_wt (us := us) (fun x hx => h x (List.mem_cons.2 (.inr hx)))
    have h2 := h U List.mem_cons_self
    have h3 : wtU U ≤ 100 := by unfold wtU updWt; omega
    rw [sumN_cons, List.length_cons, Nat.mul_add]
    omega
theorem upds_wts {us : List U3} (hl : us.length ≤ 6) (h : ∀ U ∈ us, U.1.size ≤ 2 ∧ U.2.2.length ≤ 40) : SlUpdate.wtS us ≤ 1000 := by
  have h1 := upds_wt h
  unfold SlUpdate.wtS
  omega

set_option maxRecDepth 100000 in
set_option maxHeartbeats 6400000 in
theorem walk (v : Value) (l : List UInt8) (w : World) (hr : Reads w v l w.heap.size) :
    Calls Tryz.prog 3 #[v] w fun e w' => e = .returned (.bool true) ∧ Below w.heap.size w w' := by
  by_cases hbig : 1048576 < l.length
  · go_enter Tryz.func3, Tryz.ntmps3
    go_wp2_with fail
    refine (big_any v l w.heap.size w hr).mono ?_
    rintro e w1 ⟨rfl, rfl⟩
    rw [decide_eq_true hbig]
    go_wp2_with fail
    go_ret
    exact ⟨rfl, Below.refl _ _⟩
  have HR := Lib.hid (fun w' (hb : Below w.heap.size w w') => Dig.reads_mono (hr.later hb) (Below.size hb))
  have HBIG := Lib.hid (big_any v l w.heap.size w hr)
  have HD1 := Lib.hid (draw_upd v l w hr)
  clear hr
  go_enter Tryz.func3, Tryz.ntmps3
  go_wp2_with fail
  refine HBIG.out.mono ?_
  rintro e w1 ⟨rfl, rfl⟩
  rw [decide_eq_false hbig]
  clear hbig HBIG
  go_wp2_with fail
  refine HD1.out.mono ?_
  rintro e W1 ⟨u, Ts, nm, b, y, row, he, hdb, hlen, hok, hrw, hnm, hrl, hb1⟩
  obtain ⟨ad, cd, rfl, _⟩ := Cd.sl_form hdb
  obtain ⟨au, cu, rfl, _⟩ := row_form hrw
  simp only [List.nil_append] at he
  subst he
  have HB := Lib.hid hb1
  have HD := Lib.hid hdb
  have HT := Lib.hid hrw
  have HWS := Lib.hid (upOk_wts (upOk_of hlen hok))
  have HNM := Lib.hid hnm
  have HRL := Lib.hid hrl
  clear hb1 hdb hlen hok hrw hnm hrl HD1
  have HIS := Lib.hid (fun (w' : World) (hd : tabsC.rd w' (fun b => w.heap.size ≤ b ∧ b < W1.heap.size) [.slice ad Ts.length cd] Ts) (ht : rowC.rd w' (fun b => w.heap.size ≤ b ∧ b < W1.heap.size) [.slice au row.length cu] row) => UpdApp.impl_apply _ _ Ts nm b row _ _ w' hd ht (by have := HWS.out; omega) (by have := HRL.out; omega) (by have := HNM.out; omega))
  have HSS := Lib.hid (fun (w' : World) (hd : tabsC.rd w' (fun b => w.heap.size ≤ b ∧ b < W1.heap.size) [.slice ad Ts.length cd] Ts) (ht : rowC.rd w' (fun b => w.heap.size ≤ b ∧ b < W1.heap.size) [.slice au row.length cu] row) => UpdApp.spec_apply _ _ Ts nm b row _ _ w' hd ht (by have := HWS.out; omega) (by have := HRL.out; omega))
  have HIV0 := Lib.hid (fun (w' : World) (hd : tabsC.rd w' (fun b => w.heap.size ≤ b ∧ b < W1.heap.size) [.slice ad Ts.length cd] Ts) (ht : rowC.rd w' (fun b => w.heap.size ≤ b ∧ b < W1.heap.size) [.slice au row.length cu] row) => UpdApp.impl_applyable _ _ Ts nm b row _ _ w' hd ht (by have := HWS.out; omega) (by have := HRL.out; omega) (by have := HNM.out; omega))
  have HA := Lib.hid (show (appOk Ts nm b row = true → appOk (appL Ts nm b row) nm (!b) row = true ∧ appL (appL Ts nm b row) nm (!b) row = Ts ∧ appL Ts nm b row ≠ Ts) ∧ (appOk Ts nm b row = false → appL Ts nm b row = Ts) from ⟨app_back, app_no⟩)
  have HXW := Lib.hid (show wtS (appL Ts nm b row) ≤ 1048577 from app_wt (by have := HWS.out; omega))
  generalize appOk Ts nm b row = ib at *
  generalize appL Ts nm b row = R at *
  go_wp2_with fail
  generalize hg : World.alloc (World.alloc W1 _) _ = W2
  obtain ⟨rg, rg2, zg, hbg⟩ := start2g W1 _ _ hg
  clear hg
  replace HB := Lib.hid (below_then HB.out hbg)
  replace HD := Lib.hid (Cd.later HD.out hbg)
  replace HT := Lib.hid (Cd.later HT.out hbg)
  have L3 := Lib.hid (Loc1.of rg)
  have L4 := Lib.hid (Loc3.of rg2)
  clear hbg zg rg rg2
  refine (HIS.out W2 HD.out HT.out).mono ?_
  rintro e W3 ⟨ux, fx, rfl, hyo, _, hbx⟩
  replace HB := Lib.hid (below_then HB.out hbx)
  replace HD := Lib.hid (Cd.later HD.out hbx)
  replace HT := Lib.hid (Cd.later HT.out hbx)
  replace L3 := Lib.hid (L3.out.later hbx)
  replace L4 := Lib.hid (L4.out.later hbx)
  clear hbx
  obtain ⟨ax, cx, rfl⟩ := Cd.ow_slice (c := tabC) hyo
  have HX := Lib.hid (Cd.reads hyo)
  clear hyo
  have y0a := L3.out.c0
  have y0d := L3.out.lt
  have y1a := L4.out.c0
  have y1b := L4.out.c1
  have y1c := L4.out.c2
  have y1d := L4.out.lt
  go_wp2_with fail
  clear y0a y0d y1a y1b y1c y1d
  generalize hg : World.alloc W3 _ = W4
  obtain ⟨rg, zg, hbg⟩ := start1 W3 _ hg
  clear hg
  replace HB := Lib.hid (below_then HB.out hbg)
  replace HD := Lib.hid (Cd.later HD.out hbg)
  replace HT := Lib.hid (Cd.later HT.out hbg)
  replace L3 := Lib.hid (L3.out.later hbg)
  replace L4 := Lib.hid (L4.out.later hbg)
  replace HX := Lib.hid (Cd.later HX.out hbg)
  have L5 := Lib.hid (Loc1.of rg)
  clear hbg zg rg
  refine (HSS.out W4 HD.out HT.out).mono ?_
  rintro e W5 ⟨us, fs, rfl, hyo, _, hbx⟩
  replace HB := Lib.hid (below_then HB.out hbx)
  replace HD := Lib.hid (Cd.later HD.out hbx)
  replace HT := Lib.hid (Cd.later HT.out hbx)
  replace L3 := Lib.hid (L3.out.later hbx)
  replace L4 := Lib.hid (L4.out.later hbx)
  replace HX := Lib.hid (Cd.later HX.out hbx)
  replace L5 := Lib.hid (L5.out.later hbx)
  clear hbx
  obtain ⟨aso, cso, rfl⟩ := Cd.ow_slice (c := tabC) hyo
  clear hyo HIS HSS
  have y0a := L3.out.c0
  have y0d := L3.out.lt
  have y1a := L4.out.c0
  have y1b := L4.out.c1
  have y1c := L4.out.c2
  have y1d := L4.out.lt
  go_wp2_with fail
  clear y0a y0d y1a y1b y1c y1d
  generalize hg : World.alloc W5 _ = W6
  obtain ⟨rg, zg, hbg⟩ := start1 W5 _ hg
  clear hg
  replace HB := Lib.hid (below_then HB.out hbg)
  replace HD := Lib.hid (Cd.later HD.out hbg)
  replace HT := Lib.hid (Cd.later HT.out hbg)
  replace L3 := Lib.hid (L3.out.later hbg)
  replace L4 := Lib.hid (L4.out.later hbg)
  replace HX := Lib.hid (Cd.later HX.out hbg)
  replace L5 := Lib.hid (L5.out.later hbg)
  have L7 := Lib.hid (Loc1.of rg)
  clear hbg zg rg
  refine (HIV0.out W6 HD.out HT.out).mono ?_
  rintro e W7 ⟨rfl, hbx⟩
  replace HB := Lib.hid (below_then HB.out hbx)
  replace HD := Lib.hid (Cd.later HD.out hbx)
  replace HT := Lib.hid (Cd.later HT.out hbx)
  replace L3 := Lib.hid (L3.out.later hbx)
  replace L4 := Lib.hid (L4.out.later hbx)
  replace HX := Lib.hid (Cd.later HX.out hbx)
  replace L5 := Lib.hid (L5.out.later hbx)
  replace L7 := Lib.hid (L7.out.later hbx)
  clear hbx
  clear HIV0
  go_upto_if 49 with fail
  clear L7
  go_cut [] (fun wx => Below w.heap.size w wx ∧ Loc3 wx (W1.heap.size + 1) (.string nm) (.bool b) (.slice au row.length cu) ∧ rowC.rd wx (fun b => w.heap.size ≤ b ∧ b < W1.heap.size) [.slice au row.length cu] row)
  case first =>
    as_aux_lemma =>
      cases ib
      case false =>
        obtain rfl : R = Ts := HA.out.2 rfl
        have y0a := L5.out.c0
        have y0d := L5.out.lt
        have y1a := L3.out.c0
        have y1d := L3.out.lt
        go_wp2_with fail
        clear y0a y0d y1a y1d
        have HE := Lib.hid (DbImp.impl_eqdb _ _ _ _ _ _ W7 HX.out HD.out)
        rw [decide_eq_true rfl] at HE
        refine (HE.out).mono ?_
        rintro e W8 ⟨rfl, hbx⟩
        replace HB := Lib.hid (below_then HB.out hbx)
        replace HD := Lib.hid (Cd.later HD.out hbx)
        replace HT := Lib.hid (Cd.later HT.out hbx)
        replace L3 := Lib.hid (L3.out.later hbx)
        replace L4 := Lib.hid (L4.out.later hbx)
        replace HX := Lib.hid (Cd.later HX.out hbx)
        replace L5 := Lib.hid (L5.out.later hbx)
        clear hbx
        go_wp2_with fail
        go_meet
        exact ⟨HB.out, L4.out, HT.out⟩
      case true =>
        obtain ⟨ha1, ha2, ha3⟩ := HA.out.1 rfl
        have HNE := Lib.hid ha3
        have HIV := Lib.hid (fun w' (hb : LaterD W7 w') => UpdOps.impl_invert nm b _ row _ w' (Cd.later HT.out hb) (by have := HRL.out; omega) (by have := HNM.out; omega))
        have HAP := Lib.hid (fun w' (hb : LaterD W7 w') (S2 : Nat → Prop) (v' : Value) (h2 : rowC.rd w' S2 [v'] row) => (show Calls Tryz.prog 6 #[.agg #[.slice ax R.length cx], .agg #[.string nm, .bool (!b), v']] w' (DbAns Ts true w') from by
          have h := UpdApp.impl_apply _ _ R nm (!b) row _ _ w' (Cd.later HX.out hb) h2 HXW.out (by have := HRL.out; omega) (by have := HNM.out; omega)
          rw [ha1, ha2] at h
          exact h))
        clear ha1 ha2 ha3 HA
        go_upto_region 9 with fail
        go_cut [9, 10] (fun s9 s10 wx => ∃ (p : Nat) (a : Option Addr) (k : Nat), s9 = .pointer (some ⟨p, 0, none⟩) ∧ s10 = .bool true ∧ Loc1 wx p (.slice a Ts.length k) ∧ tabsC.rd wx (· < wx.heap.size) [.slice a Ts.length k] Ts ∧ LaterD W7 wx)
        case first =>
          as_aux_lemma =>
            have kk0 : LaterD W7 W7.drew := DbSpec.drewD (Below.refl _ W7)
            refine wp_region_held_drew (S := fun wx => LaterD W7 wx) (by kernel_rfl) kk0 (fun hHeld => ?_)
            refine RegH.takeH (i := 0) (v := ?_) rfl (by kernel_rfl) (by kernel_rfl) (by kernel_rfl) (fun _ _ _ h => h) (Or.inl ⟨by rfl, ?_⟩) (by assumption) ?_
            rotate_left
            · (intro wS hSw; (try dsimp only at hSw); (obtain ⟨r0, r1, r2, _, _, _⟩ := L4.out.later (show Below W7.heap.size W7 wS from hSw)); (have r3 := (L5.out.later (show Below W7.heap.size W7 wS from hSw)).c0); go_simp; try (with_reducible rfl))
            try simp only [Act.put, List.setIfInBounds_toArray, List.set_cons_zero, List.set_cons_succ]
            refine RegH.takeH (i := 1) (v := ?_) rfl (by kernel_rfl) (by kernel_rfl) (by kernel_rfl) (fun _ _ _ h => h) (Or.inl ⟨by rfl, ?_⟩) (by assumption) ?_
            rotate_left
            · (intro wS hSw; (try dsimp only at hSw); (obtain ⟨r0, r1, r2, _, _, _⟩ := L4.out.later (show Below W7.heap.size W7 wS from hSw)); (have r3 := (L5.out.later (show Below W7.heap.size W7 wS from hSw)).c0); go_simp; try (with_reducible rfl))
            try simp only [Act.put, List.setIfInBounds_toArray, List.set_cons_zero, List.set_cons_succ]
            refine RegH.consH2 (i := 2) (j := 7) rfl rfl (by kernel_rfl) (fun K hK => ?_) (fun K hK => ?_)
            · skip
              go_simp
              go_at_call 9
              refine (HIV.out _ kk0).mono ?_
              rintro e wq1 ⟨uv, f4, rfl, hov, hnv, hbq⟩
              obtain ⟨av, cv, rfl⟩ := Cd.ow_slice hov
              have kk2 : LaterD W7 wq1 := below_then (show Below W7.heap.size W7 W7.drew from kk0) hbq
              have OV3 := Lib.hid (Cd.reads hov)
              clear hov hnv hbq
              (try go_wp2_with fail)
              refine hK.out _ _ ?_ (fun hHeld => ?_)
              · exact kk2
              clear hK K
              try simp only [Act.put, List.setIfInBounds_toArray, List.set_cons_zero, List.set_cons_succ]
              refine RegH.consH2 (i := 3) (j := 7) rfl rfl (by kernel_rfl) (fun K hK => ?_) (fun K hK => ?_)
              · skip
                go_simp
                go_at_call 6
                refine (HAP.out _ kk2 _ _ OV3.out).mono ?_
                rintro e wq5 ⟨uq, fq, rfl, hoq, hnq, hbq⟩
                obtain ⟨aq, cq, rfl⟩ := Cd.ow_slice (c := tabC) hoq
                have kk6 : LaterD W7 wq5 := below_then (show Below W7.heap.size W7 wq1 from kk2) hbq
                have OW7 := Lib.hid hoq
                clear hoq hnq hbq
                (try go_wp2_with fail)
                refine hK.out _ _ ?_ (fun hHeld => ?_)
                · exact kk6
                clear hK K
                try simp only [Act.put, List.setIfInBounds_toArray, List.set_cons_zero, List.set_cons_succ]
                refine RegH.takeH (i := 4) (v := ?_) rfl (by kernel_rfl) (by kernel_rfl) (by kernel_rfl) (fun _ _ _ h => h) (Or.inl ⟨by rfl, ?_⟩) (by assumption) ?_
                rotate_left
                · (intro wS hSw; (try dsimp only at hSw); skip; go_simp; try (with_reducible rfl))
                try simp only [Act.put, List.setIfInBounds_toArray, List.set_cons_zero, List.set_cons_succ]
                refine RegH.takeH (i := 5) (v := ?_) rfl (by kernel_rfl) (by kernel_rfl) (by kernel_rfl) (fun _ _ _ h => h) (Or.inl ⟨by rfl, ?_⟩) (by assumption) ?_
                rotate_left
                · (intro wS hSw; (try dsimp only at hSw); skip; go_simp; try (with_reducible rfl))
                try simp only [Act.put, List.setIfInBounds_toArray, List.set_cons_zero, List.set_cons_succ]
                refine RegH.takeH (i := 6) (v := ?_) rfl (by kernel_rfl) (by kernel_rfl) (by kernel_rfl) (fun _ _ _ h => h) (Or.inl ⟨by rfl, ?_⟩) (by assumption) ?_
                rotate_left
                · (intro wS hSw; (try dsimp only at hSw); skip; go_simp; try (with_reducible rfl))
                try simp only [Act.put, List.setIfInBounds_toArray, List.set_cons_zero, List.set_cons_succ]
                have kF := hHeld
                refine RegH.consH (i := 7) rfl (by kernel_rfl) (fun K hK => ?_)
                go_simp
                refine hK.out _ _ ?_ (fun hHeld => ?_)
                · exact below_then (show Below W7.heap.size W7 wq5 from kk6) (below_alloc _ _)
                clear hK K
                try simp only [Act.put, List.setIfInBounds_toArray, List.set_cons_zero, List.set_cons_succ]
                refine RegH.consH (i := 8) rfl (by kernel_rfl) (fun K hK => ?_)
                go_simp
                refine hK.out _ _ ?_ (fun hHeld => ?_)
                · exact below_then (show Below W7.heap.size W7 wq5 from kk6) (below_alloc _ _)
                clear hK K
                try simp only [Act.put, List.setIfInBounds_toArray, List.set_cons_zero, List.set_cons_succ]
                refine RegH.takeH (i := 9) (v := ?_) rfl (by kernel_rfl) (by kernel_rfl) (by kernel_rfl) (fun _ _ _ h => h) (Or.inl ⟨by rfl, ?_⟩) (by assumption) ?_
                rotate_left
                · (intro wS hSw; (try dsimp only at hSw); skip; go_simp; try (with_reducible rfl))
                try simp only [Act.put, List.setIfInBounds_toArray, List.set_cons_zero, List.set_cons_succ]
                refine wpAnyH_done (by kernel_rfl) ?_ _
                go_wp2_with fail
                go_meet
                exact ⟨wq5.heap.size, aq, cq, rfl, rfl, Loc1.of (row_alloc wq5 _), Cd.reads (Cd.ow_later OW7.out (below_alloc wq5 _)), hHeld⟩
              · skip
                go_simp
                have kk8 : LaterD W7 (wq1.alloc (.cells #[.slice none 0 0] 26 (0, 0))) := below_then (show Below W7.heap.size W7 wq1 from kk2) (below_alloc _ _)
                have AL9 := Lib.hid (show Loc1 (wq1.alloc (.cells #[.slice none 0 0] 26 (0, 0))) wq1.heap.size (.slice none 0 0) from Loc1.of (row_alloc wq1 (.cells #[.slice none 0 0] 26 (0, 0))))
                have LWAL9 := Lib.hid (show W7.heap.size ≤ wq1.heap.size from Below.size (show Below W7.heap.size W7 wq1 from kk2))
                have OV11 := Lib.hid (Cd.later OV3.out (below_alloc wq1 (.cells #[.slice none 0 0] 26 (0, 0))))
                refine hK.out _ _ ?_ (fun hHeld => ?_)
                · exact kk8
                clear hK K
                try simp only [Act.put, List.setIfInBounds_toArray, List.set_cons_zero, List.set_cons_succ]
                refine RegH.consH (i := 3) rfl (by kernel_rfl) (fun K hK => ?_)
                go_simp
                go_at_call 6
                refine (HAP.out _ kk8 _ _ OV11.out).mono ?_
                rintro e wq12 ⟨uq, fq, rfl, hoq, hnq, hbq⟩
                obtain ⟨aq, cq, rfl⟩ := Cd.ow_slice (c := tabC) hoq
                have kk13 : LaterD W7 wq12 := below_then (show Below W7.heap.size W7 (wq1.alloc (.cells #[.slice none 0 0] 26 (0, 0))) from kk8) hbq
                have AL15 := Lib.hid (AL9.out.later hbq)
                have LTQ := Lib.hid (show wq1.heap.size ∉ fq from fun q => by have h1 := ((Cd.sl _ tabC).ow_lt hoq _ q).1; have h2 := AL9.out.lt; omega)
                have OW14 := Lib.hid hoq
                clear hoq hnq hbq
                (try go_wp2_with fail)
                refine hK.out _ _ ?_ (fun hHeld => ?_)
                · exact kk13
                clear hK K
                try simp only [Act.put, List.setIfInBounds_toArray, List.set_cons_zero, List.set_cons_succ]
                refine RegH.takeH (i := 4) (v := ?_) rfl (by kernel_rfl) (by kernel_rfl) (by kernel_rfl) (fun _ _ _ h => h) (Or.inl ⟨by rfl, ?_⟩) (by assumption) ?_
                rotate_left
                · (intro wS hSw; (try dsimp only at hSw); skip; go_simp; try (with_reducible rfl))
                try simp only [Act.put, List.setIfInBounds_toArray, List.set_cons_zero, List.set_cons_succ]
                refine RegH.takeH (i := 5) (v := ?_) rfl (by kernel_rfl) (by kernel_rfl) (by kernel_rfl) (fun _ _ _ h => h) (Or.inl ⟨by rfl, ?_⟩) (by assumption) ?_
                rotate_left
                · (intro wS hSw; (try dsimp only at hSw); skip; go_simp; try (with_reducible rfl))
                try simp only [Act.put, List.setIfInBounds_toArray, List.set_cons_zero, List.set_cons_succ]
                refine RegH.takeH (i := 6) (v := ?_) rfl (by kernel_rfl) (by kernel_rfl) (by kernel_rfl) (fun _ _ _ h => h) (Or.inl ⟨by rfl, ?_⟩) (by assumption) ?_
                rotate_left
                · (intro wS hSw; (try dsimp only at hSw); skip; go_simp; try (with_reducible rfl))
                try simp only [Act.put, List.setIfInBounds_toArray, List.set_cons_zero, List.set_cons_succ]
                obtain ⟨g0, g1⟩ := AL15.out
                refine RegH.consH (i := 8) rfl (by kernel_rfl) (fun K hK => ?_)
                go_simp
                refine hK.out _ _ ?_ (fun hHeld => ?_)
                · exact Below.setCell (show Below W7.heap.size W7 wq12 from kk13) LWAL9.out _
                clear hK K
                try simp only [Act.put, List.setIfInBounds_toArray, List.set_cons_zero, List.set_cons_succ]
                refine RegH.takeH (i := 9) (v := ?_) rfl (by kernel_rfl) (by kernel_rfl) (by kernel_rfl) (fun _ _ _ h => h) (Or.inl ⟨by rfl, ?_⟩) (by assumption) ?_
                rotate_left
                · (intro wS hSw; (try dsimp only at hSw); skip; go_simp; try (with_reducible rfl))
                try simp only [Act.put, List.setIfInBounds_toArray, List.set_cons_zero, List.set_cons_succ]
                refine wpAnyH_done (by kernel_rfl) ?_ _
                go_wp2_with fail
                go_meet
                exact ⟨wq1.heap.size, aq, cq, rfl, rfl, AL15.out.set _, Cd.reads (ow_setCell OW14.out LTQ.out _), hHeld⟩
            · skip
              go_simp
              have kk16 : LaterD W7 (W7.drew.alloc (.cells #[.slice none 0 0] 26 (0, 0))) := below_then (show Below W7.heap.size W7 W7.drew from kk0) (below_alloc _ _)
              have AL17 := Lib.hid (show Loc1 (W7.drew.alloc (.cells #[.slice none 0 0] 26 (0, 0))) W7.heap.size (.slice none 0 0) from Loc1.of (row_alloc W7.drew (.cells #[.slice none 0 0] 26 (0, 0))))
              have LWAL17 := Lib.hid (Nat.le_refl W7.heap.size)
              refine hK.out _ _ ?_ (fun hHeld => ?_)
              · exact kk16
              clear hK K
              try simp only [Act.put, List.setIfInBounds_toArray, List.set_cons_zero, List.set_cons_succ]
              refine RegH.consH (i := 2) rfl (by kernel_rfl) (fun K hK => ?_)
              go_simp
              go_at_call 9
              refine (HIV.out _ kk16).mono ?_
              rintro e wq19 ⟨uv, f22, rfl, hov, hnv, hbq⟩
              obtain ⟨av, cv, rfl⟩ := Cd.ow_slice hov
              have kk20 : LaterD W7 wq19 := below_then (show Below W7.heap.size W7 (W7.drew.alloc (.cells #[.slice none 0 0] 26 (0, 0))) from kk16) hbq
              have OV21 := Lib.hid (Cd.reads hov)
              have AL23 := Lib.hid (AL17.out.later hbq)
              clear hov hnv hbq
              (try go_wp2_with fail)
              refine hK.out _ _ ?_ (fun hHeld => ?_)
              · exact kk20
              clear hK K
              try simp only [Act.put, List.setIfInBounds_toArray, List.set_cons_zero, List.set_cons_succ]
              refine RegH.consH (i := 3) rfl (by kernel_rfl) (fun K hK => ?_)
              go_simp
              go_at_call 6
              refine (HAP.out _ kk20 _ _ OV21.out).mono ?_
              rintro e wq24 ⟨uq, fq, rfl, hoq, hnq, hbq⟩
              obtain ⟨aq, cq, rfl⟩ := Cd.ow_slice (c := tabC) hoq
              have kk25 : LaterD W7 wq24 := below_then (show Below W7.heap.size W7 wq19 from kk20) hbq
              have AL27 := Lib.hid (AL23.out.later hbq)
              have LTQ := Lib.hid (show W7.heap.size ∉ fq from fun q => by have h1 := ((Cd.sl _ tabC).ow_lt hoq _ q).1; have h2 := AL23.out.lt; omega)
              have OW26 := Lib.hid hoq
              clear hoq hnq hbq
              (try go_wp2_with fail)
              refine hK.out _ _ ?_ (fun hHeld => ?_)
              · exact kk25
              clear hK K
              try simp only [Act.put, List.setIfInBounds_toArray, List.set_cons_zero, List.set_cons_succ]
              refine RegH.takeH (i := 4) (v := ?_) rfl (by kernel_rfl) (by kernel_rfl) (by kernel_rfl) (fun _ _ _ h => h) (Or.inl ⟨by rfl, ?_⟩) (by assumption) ?_
              rotate_left
              · (intro wS hSw; (try dsimp only at hSw); skip; go_simp; try (with_reducible rfl))
              try simp only [Act.put, List.setIfInBounds_toArray, List.set_cons_zero, List.set_cons_succ]
              refine RegH.takeH (i := 5) (v := ?_) rfl (by kernel_rfl) (by kernel_rfl) (by kernel_rfl) (fun _ _ _ h => h) (Or.inl ⟨by rfl, ?_⟩) (by assumption) ?_
              rotate_left
              · (intro wS hSw; (try dsimp only at hSw); skip; go_simp; try (with_reducible rfl))
              try simp only [Act.put, List.setIfInBounds_toArray, List.set_cons_zero, List.set_cons_succ]
              refine RegH.takeH (i := 6) (v := ?_) rfl (by kernel_rfl) (by kernel_rfl) (by kernel_rfl) (fun _ _ _ h => h) (Or.inl ⟨by rfl, ?_⟩) (by assumption) ?_
              rotate_left
              · (intro wS hSw; (try dsimp only at hSw); skip; go_simp; try (with_reducible rfl))
              try simp only [Act.put, List.setIfInBounds_toArray, List.set_cons_zero, List.set_cons_succ]
              obtain ⟨g0, g1⟩ := AL27.out
              refine RegH.consH (i := 8) rfl (by kernel_rfl) (fun K hK => ?_)
              go_simp
              refine hK.out _ _ ?_ (fun hHeld => ?_)
              · exact Below.setCell (show Below W7.heap.size W7 wq24 from kk25) LWAL17.out _
              clear hK K
              try simp only [Act.put, List.setIfInBounds_toArray, List.set_cons_zero, List.set_cons_succ]
              refine RegH.takeH (i := 9) (v := ?_) rfl (by kernel_rfl) (by kernel_rfl) (by kernel_rfl) (fun _ _ _ h => h) (Or.inl ⟨by rfl, ?_⟩) (by assumption) ?_
              rotate_left
              · (intro wS hSw; (try dsimp only at hSw); skip; go_simp; try (with_reducible rfl))
              try simp only [Act.put, List.setIfInBounds_toArray, List.set_cons_zero, List.set_cons_succ]
              refine wpAnyH_done (by kernel_rfl) ?_ _
              go_wp2_with fail
              go_meet
              exact ⟨W7.heap.size, aq, cq, rfl, rfl, AL27.out.set _, Cd.reads (ow_setCell OW26.out LTQ.out _), hHeld⟩
        case rest =>
        obtain ⟨p9, a9, k9, rfl, rfl, hl9, hr9, hq9⟩ := hcut
        have L9 := Lib.hid hl9
        have HY := Lib.hid hr9
        clear hl9 hr9 HIV HAP
        replace HB := Lib.hid (below_then HB.out (show Below W7.heap.size W7 wc from hq9))
        replace HD := Lib.hid (Cd.later HD.out (show Below W7.heap.size W7 wc from hq9))
        replace HT := Lib.hid (Cd.later HT.out (show Below W7.heap.size W7 wc from hq9))
        replace L3 := Lib.hid (L3.out.later (show Below W7.heap.size W7 wc from hq9))
        replace L4 := Lib.hid (L4.out.later (show Below W7.heap.size W7 wc from hq9))
        replace HX := Lib.hid (Cd.later HX.out (show Below W7.heap.size W7 wc from hq9))
        replace L5 := Lib.hid (L5.out.later (show Below W7.heap.size W7 wc from hq9))
        clear hq9
        generalize wc = W9 at *
        have y0a := L9.out.c0
        have y0d := L9.out.lt
        have y1a := L3.out.c0
        have y1d := L3.out.lt
        go_wp2_with fail
        clear y0a y0d y1a y1d
        have HE := Lib.hid (DbImp.impl_eqdb _ _ _ _ _ _ W9 HY.out HD.out)
        rw [decide_eq_true rfl] at HE
        refine (HE.out).mono ?_
        rintro e W10 ⟨rfl, hbx⟩
        replace HB := Lib.hid (below_then HB.out hbx)
        replace HD := Lib.hid (Cd.later HD.out hbx)
        replace HT := Lib.hid (Cd.later HT.out hbx)
        replace L3 := Lib.hid (L3.out.later hbx)
        replace L4 := Lib.hid (L4.out.later hbx)
        replace HX := Lib.hid (Cd.later HX.out hbx)
        replace L5 := Lib.hid (L5.out.later hbx)
        replace L9 := Lib.hid (L9.out.later hbx)
        replace HY := Lib.hid (Cd.later HY.out hbx)
        clear hbx
        clear HE
        have y0a := L5.out.c0
        have y0d := L5.out.lt
        have y1a := L3.out.c0
        have y1d := L3.out.lt
        have y2a := L9.out.c0
        have y2d := L9.out.lt
        go_wp2_with fail
        clear y0a y0d y1a y1d y2a y2d
        have HE := Lib.hid (DbImp.impl_eqdb _ _ _ _ _ _ W10 HX.out HD.out)
        rw [decide_eq_false HNE.out] at HE
        refine (HE.out).mono ?_
        rintro e W11 ⟨rfl, hbx⟩
        replace HB := Lib.hid (below_then HB.out hbx)
        replace HD := Lib.hid (Cd.later HD.out hbx)
        replace HT := Lib.hid (Cd.later HT.out hbx)
        replace L3 := Lib.hid (L3.out.later hbx)
        replace L4 := Lib.hid (L4.out.later hbx)
        replace HX := Lib.hid (Cd.later HX.out hbx)
        replace L5 := Lib.hid (L5.out.later hbx)
        replace L9 := Lib.hid (L9.out.later hbx)
        replace HY := Lib.hid (Cd.later HY.out hbx)
        clear hbx
        go_wp2_with fail
        go_meet
        exact ⟨HB.out, L4.out, HT.out⟩
  case rest =>
  obtain ⟨c_HB, c_L4, c_HT⟩ := hcut
  clear HB HD HT L3 L4 HX L5
  have HB := Lib.hid c_HB
  have L4 := Lib.hid c_L4
  have HT := Lib.hid c_HT
  clear c_HB c_L4 c_HT
  generalize wc = W12 at *
  clear HA HXW HWS
  go_wp2_with fail
  have HD2 := Lib.hid (draw_upds v l W12 (HR.out _ HB.out))
  refine (HD2.out).mono ?_
  rintro e W13 ⟨u2, T2, o2, us2, rfl, hd2, hl2, hok2, hus, hul, hub, hbx⟩
  replace HB := Lib.hid (below_then HB.out hbx)
  replace HT := Lib.hid (Cd.later HT.out hbx)
  replace L4 := Lib.hid (L4.out.later hbx)
  clear hbx
  obtain ⟨a2, c2, rfl, _⟩ := Cd.sl_form hd2
  obtain ⟨ao, co, rfl, _⟩ := Cd.sl_form hus
  have HD3 := Lib.hid hd2
  have HU3 := Lib.hid hus
  have HW2 := Lib.hid (upOk_wts (upOk_of hl2 hok2))
  have HWU := Lib.hid (upds_wts hul hub)
  clear hd2 hl2 hok2 hus hul hub HD2
  go_wp2_with fail
  generalize hg : World.alloc W13 _ = W14
  obtain ⟨rg, zg, hbg⟩ := start1 W13 _ hg
  clear hg
  replace HB := Lib.hid (below_then HB.out hbg)
  replace HT := Lib.hid (Cd.later HT.out hbg)
  replace L4 := Lib.hid (L4.out.later hbg)
  replace HD3 := Lib.hid (Cd.later HD3.out hbg)
  replace HU3 := Lib.hid (Cd.later HU3.out hbg)
  have L11 := Lib.hid (Loc1.of rg)
  clear hbg zg rg
  have HI := Lib.hid (UpdAll.impl_applyall _ _ T2 us2 _ _ W14 HD3.out HU3.out (by have := HW2.out; omega) (by have := HWU.out; omega))
  have HS := Lib.hid (fun w' (hb : LaterD W14 w') => UpdAll.spec_applyall _ _ T2 us2 _ _ w' (Cd.later HD3.out hb) (Cd.later HU3.out hb) (by have := HW2.out; omega) (by have := HWU.out; omega))
  generalize (allL T2 us2).1 = Z at *
  generalize (allL T2 us2).2 = nn at *
  have HQ := Lib.hid (show LaterD W14 W14 from Below.refl _ _)
  refine (HI.out).mono ?_
  rintro e W15 ⟨uz, fz, rfl, hyo, _, hbx⟩
  replace HB := Lib.hid (below_then HB.out hbx)
  replace HT := Lib.hid (Cd.later HT.out hbx)
  replace L4 := Lib.hid (L4.out.later hbx)
  replace HD3 := Lib.hid (Cd.later HD3.out hbx)
  replace HU3 := Lib.hid (Cd.later HU3.out hbx)
  replace L11 := Lib.hid (L11.out.later hbx)
  replace HQ := Lib.hid (below_then HQ.out hbx)
  clear hbx
  obtain ⟨az, cz, rfl⟩ := Cd.ow_slice (c := tabC) hyo
  have HZ := Lib.hid (Cd.reads hyo)
  clear hyo
  have y0a := L11.out.c0
  have y0d := L11.out.lt
  go_wp2_with fail
  clear y0a y0d
  generalize hg : World.alloc W15 _ = W16
  obtain ⟨rg, zg, hbg⟩ := start1 W15 _ hg
  clear hg
  replace HB := Lib.hid (below_then HB.out hbg)
  replace HT := Lib.hid (Cd.later HT.out hbg)
  replace L4 := Lib.hid (L4.out.later hbg)
  replace HD3 := Lib.hid (Cd.later HD3.out hbg)
  replace HU3 := Lib.hid (Cd.later HU3.out hbg)
  replace L11 := Lib.hid (L11.out.later hbg)
  replace HQ := Lib.hid (below_then HQ.out hbg)
  replace HZ := Lib.hid (Cd.later HZ.out hbg)
  have L13 := Lib.hid (Loc1.of rg)
  clear hbg zg rg
  refine (HS.out W16 HQ.out).mono ?_
  rintro e W17 ⟨uw, fw, rfl, hyo, _, hbx⟩
  replace HB := Lib.hid (below_then HB.out hbx)
  replace HT := Lib.hid (Cd.later HT.out hbx)
  replace L4 := Lib.hid (L4.out.later hbx)
  replace HD3 := Lib.hid (Cd.later HD3.out hbx)
  replace HU3 := Lib.hid (Cd.later HU3.out hbx)
  replace L11 := Lib.hid (L11.out.later hbx)
  replace HQ := Lib.hid (below_then HQ.out hbx)
  replace HZ := Lib.hid (Cd.later HZ.out hbx)
  replace L13 := Lib.hid (L13.out.later hbx)
  clear hbx
  obtain ⟨aw, cw, rfl⟩ := Cd.ow_slice (c := tabC) hyo
  have HW := Lib.hid (Cd.reads hyo)
  clear hyo
  clear HQ
  clear HI HS
  have y0a := L4.out.c0
  have y0b := L4.out.c1
  have y0c := L4.out.c2
  have y0d := L4.out.lt
  go_wp2_with fail
  clear y0a y0b y0c y0d
  generalize hg : World.alloc W17 _ = W18
  obtain ⟨rg, zg, hbg⟩ := start1 W17 _ hg
  clear hg
  replace HB := Lib.hid (below_then HB.out hbg)
  replace HT := Lib.hid (Cd.later HT.out hbg)
  replace L4 := Lib.hid (L4.out.later hbg)
  replace HD3 := Lib.hid (Cd.later HD3.out hbg)
  replace HU3 := Lib.hid (Cd.later HU3.out hbg)
  replace L11 := Lib.hid (L11.out.later hbg)
  replace HZ := Lib.hid (Cd.later HZ.out hbg)
  replace L13 := Lib.hid (L13.out.later hbg)
  replace HW := Lib.hid (Cd.later HW.out hbg)
  have L15 := Lib.hid (Loc1.of rg)
  clear hbg zg rg
  have HFM := Lib.hid (impl_fmtu nm b _ row _ W18 HT.out)
  have HPF := Lib.hid (UpdFact.par_fmtU nm b row)
  have HSZ := Lib.hid (UpdFact.fmtU_size nm b row)
  have HP := Lib.hid (fun w' => UpdParse.impl_parseu (fmtU nm b row) w' HSZ.out)
  have HSF := Lib.hid (fun w' (ht : rowC.rd w' (fun b => w.heap.size ≤ b ∧ b < W1.heap.size) [.slice au row.length cu] row) => spec_fmtu nm b _ row _ w' ht)
  generalize fmtU nm b row = fs at *
  refine (HFM.out).mono ?_
  rintro e W19 ⟨rfl, hbx⟩
  replace HB := Lib.hid (below_then HB.out hbx)
  replace HT := Lib.hid (Cd.later HT.out hbx)
  replace L4 := Lib.hid (L4.out.later hbx)
  replace HD3 := Lib.hid (Cd.later HD3.out hbx)
  replace HU3 := Lib.hid (Cd.later HU3.out hbx)
  replace L11 := Lib.hid (L11.out.later hbx)
  replace HZ := Lib.hid (Cd.later HZ.out hbx)
  replace L13 := Lib.hid (L13.out.later hbx)
  replace HW := Lib.hid (Cd.later HW.out hbx)
  replace L15 := Lib.hid (L15.out.later hbx)
  clear hbx
  clear HFM
  go_wp2_with fail
  cases huk : updOk nm row
  case false =>
    obtain ⟨g1, g2⟩ := HPF.out.1 huk
    subst g1
    have HP2 := Lib.hid (show ∀ w', Calls Tryz.prog 15 #[.string ⟨#[]⟩] w' fun e w'' => ∃ u' fp, e = .returned (.tuple #[.agg #[.string ⟨#[]⟩, .bool false, u'], .bool false]) ∧ rowC.ow w'' w'.heap.size [u'] [] fp ∧ fp.Nodup ∧ Below w'.heap.size w' w'' from fun w' => by
      have h := HP.out w'
      unfold UpdParse.UAns at h
      rw [g2] at h
      simpa using h)
    clear HP HPF HSZ huk
    refine (HP2.out W19).mono ?_
    rintro e W20 ⟨uy, fy, rfl, hyo, _, hbx⟩
    replace HB := Lib.hid (below_then HB.out hbx)
    replace HT := Lib.hid (Cd.later HT.out hbx)
    replace L4 := Lib.hid (L4.out.later hbx)
    replace HD3 := Lib.hid (Cd.later HD3.out hbx)
    replace HU3 := Lib.hid (Cd.later HU3.out hbx)
    replace L11 := Lib.hid (L11.out.later hbx)
    replace HZ := Lib.hid (Cd.later HZ.out hbx)
    replace L13 := Lib.hid (L13.out.later hbx)
    replace HW := Lib.hid (Cd.later HW.out hbx)
    replace L15 := Lib.hid (L15.out.later hbx)
    clear hbx
    obtain ⟨ay, cy, rfl⟩ := Cd.ow_slice hyo
    have HY := Lib.hid (Cd.reads hyo)
    clear hyo HP2
    have y0a := L13.out.c0
    have y0d := L13.out.lt
    have y1a := L15.out.c0
    have y1d := L15.out.lt
    go_wp2_with fail
    clear y0a y0d y1a y1d
    generalize hg : World.alloc W20 _ = W21
    obtain ⟨rg, zg, hbg⟩ := start1 W20 _ hg
    clear hg
    replace HB := Lib.hid (below_then HB.out hbg)
    replace HT := Lib.hid (Cd.later HT.out hbg)
    replace L4 := Lib.hid (L4.out.later hbg)
    replace HD3 := Lib.hid (Cd.later HD3.out hbg)
    replace HU3 := Lib.hid (Cd.later HU3.out hbg)
    replace L11 := Lib.hid (L11.out.later hbg)
    replace HZ := Lib.hid (Cd.later HZ.out hbg)
    replace L13 := Lib.hid (L13.out.later hbg)
    replace HW := Lib.hid (Cd.later HW.out hbg)
    replace L15 := Lib.hid (L15.out.later hbg)
    replace HY := Lib.hid (Cd.later HY.out hbg)
    have L18 := Lib.hid (Loc3.of rg)
    clear hbg zg rg
    have HE := Lib.hid (spec_eqdb _ _ _ _ _ _ W21 HZ.out HW.out)
    rw [decide_eq_true rfl] at HE
    refine (HE.out).mono ?_
    rintro e W22 ⟨rfl, hbx⟩
    replace HB := Lib.hid (below_then HB.out hbx)
    replace HT := Lib.hid (Cd.later HT.out hbx)
    replace L4 := Lib.hid (L4.out.later hbx)
    replace HD3 := Lib.hid (Cd.later HD3.out hbx)
    replace HU3 := Lib.hid (Cd.later HU3.out hbx)
    replace L11 := Lib.hid (L11.out.later hbx)
    replace HZ := Lib.hid (Cd.later HZ.out hbx)
    replace L13 := Lib.hid (L13.out.later hbx)
    replace HW := Lib.hid (Cd.later HW.out hbx)
    replace L15 := Lib.hid (L15.out.later hbx)
    replace HY := Lib.hid (Cd.later HY.out hbx)
    replace L18 := Lib.hid (L18.out.later hbx)
    clear hbx
    clear HE
    have y0a := L4.out.c0
    have y0b := L4.out.c1
    have y0c := L4.out.c2
    have y0d := L4.out.lt
    have y1a := L13.out.c0
    have y1d := L13.out.lt
    have y2a := L15.out.c0
    have y2d := L15.out.lt
    go_wp2_with fail
    clear y0a y0b y0c y0d y1a y1d y2a y2d
    refine (HSF.out W22 HT.out).mono ?_
    rintro e W23 ⟨rfl, hbx⟩
    replace HB := Lib.hid (below_then HB.out hbx)
    replace HT := Lib.hid (Cd.later HT.out hbx)
    replace L4 := Lib.hid (L4.out.later hbx)
    replace HD3 := Lib.hid (Cd.later HD3.out hbx)
    replace HU3 := Lib.hid (Cd.later HU3.out hbx)
    replace L11 := Lib.hid (L11.out.later hbx)
    replace HZ := Lib.hid (Cd.later HZ.out hbx)
    replace L13 := Lib.hid (L13.out.later hbx)
    replace HW := Lib.hid (Cd.later HW.out hbx)
    replace L15 := Lib.hid (L15.out.later hbx)
    replace HY := Lib.hid (Cd.later HY.out hbx)
    replace L18 := Lib.hid (L18.out.later hbx)
    clear hbx
    have y0a := L4.out.c0
    have y0b := L4.out.c1
    have y0c := L4.out.c2
    have y0d := L4.out.lt
    have y1a := L18.out.c0
    have y1b := L18.out.c1
    have y1c := L18.out.c2
    have y1d := L18.out.lt
    have y2a := L13.out.c0
    have y2d := L13.out.lt
    have y3a := L15.out.c0
    have y3d := L15.out.lt
    go_wp2_with fail
    clear y0a y0b y0c y0d y1a y1b y1c y1d y2a y2d y3a y3d
    go_ret
    exact ⟨rfl, HB.out⟩
  case true =>
    obtain ⟨g1, g2, g3, g4, g5⟩ := HPF.out.2 huk
    have HP2 := Lib.hid (show ∀ w', Calls Tryz.prog 15 #[.string fs] w' fun e w'' => ∃ u' fp, e = .returned (.tuple #[.agg #[.string nm, .bool b, u'], .bool true]) ∧ rowC.ow w'' w'.heap.size [u'] row fp ∧ fp.Nodup ∧ Below w'.heap.size w' w'' from fun w' => by
      have h := HP.out w'
      unfold UpdParse.UAns at h
      rw [g2, g3, g4, g5] at h
      simpa using h)
    have gne2 : (fs.toList == []) = false := by have := eqB fs ⟨#[]⟩; rw [list0] at this; rw [this]; exact decide_eq_false g1
    have gne3 : fs.toList ≠ [] := by intro q; rw [q] at gne2; simp at gne2
    clear g2 g3 g4 g5
    clear HP HPF HSZ huk
    refine (HP2.out W19).mono ?_
    rintro e W24 ⟨uy, fy, rfl, hyo, _, hbx⟩
    replace HB := Lib.hid (below_then HB.out hbx)
    replace HT := Lib.hid (Cd.later HT.out hbx)
    replace L4 := Lib.hid (L4.out.later hbx)
    replace HD3 := Lib.hid (Cd.later HD3.out hbx)
    replace HU3 := Lib.hid (Cd.later HU3.out hbx)
    replace L11 := Lib.hid (L11.out.later hbx)
    replace HZ := Lib.hid (Cd.later HZ.out hbx)
    replace L13 := Lib.hid (L13.out.later hbx)
    replace HW := Lib.hid (Cd.later HW.out hbx)
    replace L15 := Lib.hid (L15.out.later hbx)
    clear hbx
    obtain ⟨ay, cy, rfl⟩ := Cd.ow_slice hyo
    have HY := Lib.hid (Cd.reads hyo)
    clear hyo HP2
    have y0a := L13.out.c0
    have y0d := L13.out.lt
    have y1a := L15.out.c0
    have y1d := L15.out.lt
    go_wp2_with fail
    clear y0a y0d y1a y1d
    generalize hg : World.alloc W24 _ = W25
    obtain ⟨rg, zg, hbg⟩ := start1 W24 _ hg
    clear hg
    replace HB := Lib.hid (below_then HB.out hbg)
    replace HT := Lib.hid (Cd.later HT.out hbg)
    replace L4 := Lib.hid (L4.out.later hbg)
    replace HD3 := Lib.hid (Cd.later HD3.out hbg)
    replace HU3 := Lib.hid (Cd.later HU3.out hbg)
    replace L11 := Lib.hid (L11.out.later hbg)
    replace HZ := Lib.hid (Cd.later HZ.out hbg)
    replace L13 := Lib.hid (L13.out.later hbg)
    replace HW := Lib.hid (Cd.later HW.out hbg)
    replace L15 := Lib.hid (L15.out.later hbg)
    replace HY := Lib.hid (Cd.later HY.out hbg)
    have L18 := Lib.hid (Loc3.of rg)
    clear hbg zg rg
    have HE := Lib.hid (spec_eqdb _ _ _ _ _ _ W25 HZ.out HW.out)
    rw [decide_eq_true rfl] at HE
    refine (HE.out).mono ?_
    rintro e W26 ⟨rfl, hbx⟩
    replace HB := Lib.hid (below_then HB.out hbx)
    replace HT := Lib.hid (Cd.later HT.out hbx)
    replace L4 := Lib.hid (L4.out.later hbx)
    replace HD3 := Lib.hid (Cd.later HD3.out hbx)
    replace HU3 := Lib.hid (Cd.later HU3.out hbx)
    replace L11 := Lib.hid (L11.out.later hbx)
    replace HZ := Lib.hid (Cd.later HZ.out hbx)
    replace L13 := Lib.hid (L13.out.later hbx)
    replace HW := Lib.hid (Cd.later HW.out hbx)
    replace L15 := Lib.hid (L15.out.later hbx)
    replace HY := Lib.hid (Cd.later HY.out hbx)
    replace L18 := Lib.hid (L18.out.later hbx)
    clear hbx
    clear HE
    have y0a := L4.out.c0
    have y0b := L4.out.c1
    have y0c := L4.out.c2
    have y0d := L4.out.lt
    have y1a := L13.out.c0
    have y1d := L13.out.lt
    have y2a := L15.out.c0
    have y2d := L15.out.lt
    go_wp2_with fail
    clear y0a y0b y0c y0d y1a y1d y2a y2d
    refine (HSF.out W26 HT.out).mono ?_
    rintro e W27 ⟨rfl, hbx⟩
    replace HB := Lib.hid (below_then HB.out hbx)
    replace HT := Lib.hid (Cd.later HT.out hbx)
    replace L4 := Lib.hid (L4.out.later hbx)
    replace HD3 := Lib.hid (Cd.later HD3.out hbx)
    replace HU3 := Lib.hid (Cd.later HU3.out hbx)
    replace L11 := Lib.hid (L11.out.later hbx)
    replace HZ := Lib.hid (Cd.later HZ.out hbx)
    replace L13 := Lib.hid (L13.out.later hbx)
    replace HW := Lib.hid (Cd.later HW.out hbx)
    replace L15 := Lib.hid (L15.out.later hbx)
    replace HY := Lib.hid (Cd.later HY.out hbx)
    replace L18 := Lib.hid (L18.out.later hbx)
    clear hbx
    have y0a := L4.out.c0
    have y0b := L4.out.c1
    have y0c := L4.out.c2
    have y0d := L4.out.lt
    have y1a := L18.out.c0
    have y1b := L18.out.c1
    have y1c := L18.out.c2
    have y1d := L18.out.lt
    have y2a := L13.out.c0
    have y2d := L13.out.lt
    have y3a := L15.out.c0
    have y3d := L15.out.lt
    go_wp2_with fail
    clear y0a y0b y0c y0d y1a y1b y1c y1d y2a y2d y3a y3d
    have HE := Lib.hid (UpdOps.impl_equal nm nm b b _ _ row row _ _ W27 HY.out HT.out)
    rw [same_self] at HE
    refine (HE.out).mono ?_
    rintro e W28 ⟨rfl, hbx⟩
    replace HB := Lib.hid (below_then HB.out hbx)
    replace HT := Lib.hid (Cd.later HT.out hbx)
    replace L4 := Lib.hid (L4.out.later hbx)
    replace HD3 := Lib.hid (Cd.later HD3.out hbx)
    replace HU3 := Lib.hid (Cd.later HU3.out hbx)
    replace L11 := Lib.hid (L11.out.later hbx)
    replace HZ := Lib.hid (Cd.later HZ.out hbx)
    replace L13 := Lib.hid (L13.out.later hbx)
    replace HW := Lib.hid (Cd.later HW.out hbx)
    replace L15 := Lib.hid (L15.out.later hbx)
    replace HY := Lib.hid (Cd.later HY.out hbx)
    replace L18 := Lib.hid (L18.out.later hbx)
    clear hbx
    have y0a := L4.out.c0
    have y0b := L4.out.c1
    have y0c := L4.out.c2
    have y0d := L4.out.lt
    have y1a := L18.out.c0
    have y1b := L18.out.c1
    have y1c := L18.out.c2
    have y1d := L18.out.lt
    have y2a := L13.out.c0
    have y2d := L13.out.lt
    have y3a := L15.out.c0
    have y3d := L15.out.lt
    go_wp2_with fail
    clear y0a y0b y0c y0d y1a y1b y1c y1d y2a y2d y3a y3d
    go_ret
    exact ⟨rfl, HB.out⟩
end Go.Proofs.YtinchhahcheadaaGreat.UpdWalk
