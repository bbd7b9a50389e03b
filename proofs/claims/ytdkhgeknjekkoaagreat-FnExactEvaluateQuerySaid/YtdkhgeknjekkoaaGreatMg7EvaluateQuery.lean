/- Texts that the proof rests on, one behind the other. -/
import Derived.Test.YtdkhgeknjekkoaaGreatMg2EvaluateQuery
import Derived.Deep.DeepCutAuto
import Derived.Test.YtdkhgeknjekkoaaGreatQry
import Derived.Test.YtdkhgeknjekkoaaGreatMg6EvaluateQuery
import Derived.Test.YtdkhgeknjekkoaaGreatMg1EvaluateQuery

namespace Go.Proofs.YtdkhgeknjekkoaaGreat.WalkEvaluateQuery
open Go Go.RowKit Byt Ints IntsLaw Cd Rows2 Tab TabSpec Exact SlMath TabOpen TabElem Mark SlTable Db DbExact Atom MkAtom Qry AnsC MkAns
set_option maxRecDepth 100000 in
set_option maxHeartbeats 6400000 in
theorem walk (v0 : Value) (l0 : List T3) (r1 : Int) (v1 : Value) (l1 : List A2) (R0 : List Int) (Q0 : List (List Int)) (B1 : Bool) (w : World) (hr0 : tabsC.rd w (· < w.heap.size) [v0] l0) (hr1 : atomsC.rd w (· < w.heap.size) [v1] l1) (hw0 : wtS l0 ≤ 1048576 → SlAtom.wtS l1 ≤ 1048576 → ((R0.length + Q0.flatten.length) ≤ 1048577))
    (HS : wtS l0 ≤ 1048576 → SlAtom.wtS l1 ≤ 1048576 → ∀ (v0 : Value) (S0 : Nat → Prop) (v1 : Value) (S1 : Nat → Prop) (w' : World), tabsC.rd w' S0 [v0] l0 → atomsC.rd w' S1 [v1] l1 → Calls Tryz.prog 37 #[.agg #[v0], .agg #[.int .i64 r1, v1]] w' fun e w'' => ∃ u0 y0 f0, e = .returned (.tuple #[.agg #[u0, y0], .bool B1]) ∧ ansC.ow w'' w'.heap.size [u0, y0] (R0, Q0) f0 ∧ f0.Nodup ∧ Below w'.heap.size w' w'')
    (HI : wtS l0 ≤ 1048576 → SlAtom.wtS l1 ≤ 1048576 → ∀ (v0 : Value) (S0 : Nat → Prop) (v1 : Value) (S1 : Nat → Prop) (w' : World), tabsC.rd w' S0 [v0] l0 → atomsC.rd w' S1 [v1] l1 → Calls Tryz.prog 22 #[.agg #[v0], .agg #[.int .i64 r1, v1]] w' fun e w'' => ∃ u0 y0 f0, e = .returned (.tuple #[.agg #[u0, y0], .bool B1]) ∧ ansC.ow w'' w'.heap.size [u0, y0] (R0, Q0) f0 ∧ f0.Nodup ∧ Below w'.heap.size w' w'') :
    Calls Tryz.prog 5 #[.agg #[v0], .agg #[.int .i64 r1, v1]] w fun e w' => e = .returned (.bool true) ∧ Below w.heap.size w w' := by
  have HSh := Lib.hid HS
  have HIh := Lib.hid HI
  clear HS HI
  have HR0 := Lib.hid hr0
  obtain ⟨q0, c0, rfl, hl0⟩ := Cd.sl_form hr0
  clear hr0
  have HR1 := Lib.hid hr1
  obtain ⟨q1, c1, rfl, hl1⟩ := Cd.sl_form hr1
  clear hr1
  go_enter Tryz.func5, Tryz.ntmps5
  go_wp2_with fail
  generalize hW0 : (w.alloc _).alloc _ = W0
  obtain ⟨rb0, rb1, z0, hb0⟩ := start2g w _ _ hW0
  have HB := Lib.hid hb0
  have LB0 := Lib.hid (Loc1.of rb0)
  have LB1 := Lib.hid (Loc2.of rb1)
  replace HR0 := Lib.hid (Cd.later HR0.out hb0)
  replace HR1 := Lib.hid (Cd.later HR1.out hb0)
  clear hW0 hb0 rb0 rb1
  refine (sz_db _ l0 _ 1048576 W0 HR0.out (by omega)).mono ?_
  rintro e W0z ⟨rfl, hbz0⟩
  replace HB := Lib.hid (below_then HB.out hbz0)
  replace LB0 := Lib.hid (LB0.out.later hbz0)
  replace LB1 := Lib.hid (LB1.out.later hbz0)
  replace HR0 := Lib.hid (Cd.later HR0.out hbz0)
  replace HR1 := Lib.hid (Cd.later HR1.out hbz0)
  have zz0 := hbz0.size
  clear hbz0
  by_cases hk0 : wtS l0 ≤ 1048576
  case neg =>
    rw [left_no hk0]
    clear hk0
    go_wp2_with fail
    go_ret
    exact ⟨rfl, HB.out⟩
  rw [left_yes hk0]
  have HL0 := Lib.hid hk0
  have HX0 := Lib.hid (show wtS l0 ≤ 1048576 by have := HL0.out; omega)
  have hge0 : ¬ (((1048576 - wtS l0 : Nat) : Int) < 0) := by omega
  clear hk0
  have y0a := LB1.out.c0
  have y0b := LB1.out.c1
  go_wp2_with fail
  clear y0a y0b
  refine (sz_q r1 _ l1 _ (1048576 - wtS l0) W0z HR1.out (by omega)).mono ?_
  rintro e W1z ⟨rfl, hbz1⟩
  replace HB := Lib.hid (below_then HB.out hbz1)
  replace LB0 := Lib.hid (LB0.out.later hbz1)
  replace LB1 := Lib.hid (LB1.out.later hbz1)
  replace HR0 := Lib.hid (Cd.later HR0.out hbz1)
  replace HR1 := Lib.hid (Cd.later HR1.out hbz1)
  have zz1 := hbz1.size
  clear hbz1
  by_cases hk1 : SlAtom.wtS l1 ≤ (1048576 - wtS l0)
  case neg =>
    rw [left_no hk1]
    clear hk1
    go_wp2_with fail
    go_ret
    exact ⟨rfl, HB.out⟩
  rw [left_yes hk1]
  have HL1 := Lib.hid hk1
  have HX1 := Lib.hid (show SlAtom.wtS l1 ≤ 1048576 by have := HL1.out; omega)
  have hge1 : ¬ ((((1048576 - wtS l0) - SlAtom.wtS l1 : Nat) : Int) < 0) := by omega
  clear hk1
  have HW0 := Lib.hid (hw0 HX0.out HX1.out)
  clear hw0
  have HB0 := Lib.hid (show w.heap.size ≤ W1z.heap.size from HB.out.size)
  have hz0 : w.heap.size ≤ W1z.heap.size := HB.out.size
  have y0a := LB0.out.c0
  have y0d := LB0.out.lt
  have y1a := LB1.out.c0
  have y1b := LB1.out.c1
  have y1d := LB1.out.lt
  go_upto_region 8 with fail
  clear y0a y0d y1a y1b y1d
  go_cut [6, 7] (fun s6 s7 wx => ∃ (p_ : Nat) (a_ : Option Addr) (c_ : Nat) (b_ : Option Addr) (d_ : Nat) (f_ : List Nat), s6 = .pointer (some ⟨p_, 0, none⟩) ∧ s7 = .bool B1 ∧ W1z.heap.size ≤ p_ ∧ p_ < wx.heap.size ∧ W1z.heap.size ≤ wx.heap.size ∧ Loc2 wx p_ (.slice a_ R0.length c_) (.slice b_ Q0.length d_) ∧ ansC.ow wx W1z.heap.size [.slice a_ R0.length c_, .slice b_ Q0.length d_] (R0, Q0) f_ ∧ f_.Nodup ∧ Below w.heap.size w wx ∧ Loc1 wx (w.heap.size) (.slice q0 l0.length c0) ∧ Loc2 wx (w.heap.size + 1) (.int .i64 r1) (.slice q1 l1.length c1) ∧ tabsC.rd wx (· < w.heap.size) [.slice q0 l0.length c0] l0 ∧ atomsC.rd wx (· < w.heap.size) [.slice q1 l1.length c1] l1)
  case first =>
    have hd : Below W1z.heap.size W1z W1z.drew := Below.drew (Below.refl _ _)
    have u1 := Lib.hid (below_then HB.out hd)
    have u2 := Lib.hid (LB0.out.later hd)
    have u3 := Lib.hid (LB1.out.later hd)
    have u4 := Lib.hid (Cd.later HR0.out hd)
    have u5 := Lib.hid (Cd.later HR1.out hd)
    have szd := hd.size
    refine wp_region_held_drew (S := fun wx => Loc1 wx (w.heap.size) (.slice q0 l0.length c0) ∧ Loc2 wx (w.heap.size + 1) (.int .i64 r1) (.slice q1 l1.length c1)) (by kernel_rfl) ?_ (fun hHeld => ?_)
    · exact ⟨u2.out, u3.out⟩
    clear hd
    generalize World.drew W1z = wyd at *
    refine RegH.takeH (i := 0) (v := ?_) rfl (by kernel_rfl) (by kernel_rfl) (by kernel_rfl) (fun _ _ _ h => h) (Or.inl ⟨by rfl, ?_⟩) (by assumption) ?_
    rotate_left
    · (intro wS hSw; (try dsimp only at hSw); (obtain ⟨s_LB0, s_LB1⟩ := hSw); (have r0a := s_LB0.c0); (have r1a := s_LB1.c0); (have r1b := s_LB1.c1); go_simp; try (with_reducible rfl))
    try simp only [Act.put, List.setIfInBounds_toArray, List.set_cons_zero, List.set_cons_succ]
    refine RegH.takeH (i := 2) (v := ?_) rfl (by kernel_rfl) (by kernel_rfl) (by kernel_rfl) (fun _ _ _ h => h) (Or.inl ⟨by rfl, ?_⟩) (by assumption) ?_
    rotate_left
    · (intro wS hSw; (try dsimp only at hSw); (obtain ⟨s_LB0, s_LB1⟩ := hSw); (have r0a := s_LB0.c0); (have r1a := s_LB1.c0); (have r1b := s_LB1.c1); go_simp; try (with_reducible rfl))
    try simp only [Act.put, List.setIfInBounds_toArray, List.set_cons_zero, List.set_cons_succ]
    refine RegH.consH2 (i := 1) (j := 8) rfl rfl (by kernel_rfl) (fun K hK => ?_) (fun K hK => ?_)
    · skip
      go_simp
      go_at_call 28
      refine (to_db _ l0 _ wyd u4.out (by have := HX0.out; omega)).mono ?_
      rintro e wy6 ⟨tv0, tf0, rfl, tow, tnd, hq⟩
      have u7 := Lib.hid (below_then u1.out hq)
      have u8 := Lib.hid (u2.out.later hq)
      have u9 := Lib.hid (u3.out.later hq)
      have u10 := Lib.hid (Cd.later u4.out hq)
      have u11 := Lib.hid (Cd.later u5.out hq)
      have szwy6 := hq.size
      have v12 := Lib.hid tow
      clear hq tow tnd
      (try go_wp2_with fail)
      refine hK.out _ _ ?_ (fun hHeld => ?_)
      · exact ⟨u8.out, u9.out⟩
      clear hK K
      try simp only [Act.put, List.setIfInBounds_toArray, List.set_cons_zero, List.set_cons_succ]
      refine RegH.consH2 (i := 3) (j := 8) rfl rfl (by kernel_rfl) (fun K hK => ?_) (fun K hK => ?_)
      · skip
        go_simp
        go_at_call 29
        refine (to_q r1 _ l1 _ wy6 u11.out (by have := HX1.out; omega)).mono ?_
        rintro e wy13 ⟨tv1, tf1, rfl, tow, tnd, hq⟩
        have u14 := Lib.hid (below_then u7.out hq)
        have u15 := Lib.hid (u8.out.later hq)
        have u16 := Lib.hid (u9.out.later hq)
        have u17 := Lib.hid (Cd.later u10.out hq)
        have u18 := Lib.hid (Cd.later u11.out hq)
        have v19 := Lib.hid (Cd.ow_later v12.out hq)
        have szwy13 := hq.size
        have v20 := Lib.hid tow
        clear hq tow tnd
        (try go_wp2_with fail)
        refine hK.out _ _ ?_ (fun hHeld => ?_)
        · exact ⟨u15.out, u16.out⟩
        clear hK K
        try simp only [Act.put, List.setIfInBounds_toArray, List.set_cons_zero, List.set_cons_succ]
        refine RegH.consH2 (i := 4) (j := 8) rfl rfl (by kernel_rfl) (fun K hK => ?_) (fun K hK => ?_)
        · skip
          go_simp
          go_at_call 37
          refine (HSh.out HX0.out HX1.out _ _ _ _ wy13 (tabsC.ow_rd v19.out) (atomsC.ow_rd v20.out)).mono ?_
          rintro e wy21 ⟨ru, rz, rf, rfl, tow, tnd, hq⟩
          obtain ⟨ra, rc, rb, rd, rfl, rfl⟩ := ans_shape tow
          have u22 := Lib.hid (below_then u14.out hq)
          have u23 := Lib.hid (u15.out.later hq)
          have u24 := Lib.hid (u16.out.later hq)
          have u25 := Lib.hid (Cd.later u17.out hq)
          have u26 := Lib.hid (Cd.later u18.out hq)
          have szwy21 := hq.size
          have v27 := Lib.hid tow
          have HRN := Lib.hid tnd
          have HRL := Lib.hid (bound_of tow)
          clear hq tow tnd
          (try go_wp2_with fail)
          refine hK.out _ _ ?_ (fun hHeld => ?_)
          · exact ⟨u23.out, u24.out⟩
          clear hK K
          try simp only [Act.put, List.setIfInBounds_toArray, List.set_cons_zero, List.set_cons_succ]
          refine RegH.takeH (i := 5) (v := ?_) rfl (by kernel_rfl) (by kernel_rfl) (by kernel_rfl) (fun _ _ _ h => h) (Or.inl ⟨by rfl, ?_⟩) (by assumption) ?_
          rotate_left
          · (intro wS hSw; (try dsimp only at hSw); (obtain ⟨s_LB0, s_LB1⟩ := hSw); (have r0a := s_LB0.c0); (have r1a := s_LB1.c0); (have r1b := s_LB1.c1); go_simp; try (with_reducible rfl))
          try simp only [Act.put, List.setIfInBounds_toArray, List.set_cons_zero, List.set_cons_succ]
          refine RegH.takeH (i := 6) (v := ?_) rfl (by kernel_rfl) (by kernel_rfl) (by kernel_rfl) (fun _ _ _ h => h) (Or.inl ⟨by rfl, ?_⟩) (by assumption) ?_
          rotate_left
          · (intro wS hSw; (try dsimp only at hSw); (obtain ⟨s_LB0, s_LB1⟩ := hSw); (have r0a := s_LB0.c0); (have r1a := s_LB1.c0); (have r1b := s_LB1.c1); go_simp; try (with_reducible rfl))
          try simp only [Act.put, List.setIfInBounds_toArray, List.set_cons_zero, List.set_cons_succ]
          refine RegH.takeH (i := 7) (v := ?_) rfl (by kernel_rfl) (by kernel_rfl) (by kernel_rfl) (fun _ _ _ h => h) (Or.inl ⟨by rfl, ?_⟩) (by assumption) ?_
          rotate_left
          · (intro wS hSw; (try dsimp only at hSw); (obtain ⟨s_LB0, s_LB1⟩ := hSw); (have r0a := s_LB0.c0); (have r1a := s_LB1.c0); (have r1b := s_LB1.c1); go_simp; try (with_reducible rfl))
          try simp only [Act.put, List.setIfInBounds_toArray, List.set_cons_zero, List.set_cons_succ]
          refine RegH.consH (i := 8) rfl (by kernel_rfl) (fun K hK => ?_)
          go_simp
          generalize hg : World.alloc wy21 _ = wy28
          obtain ⟨rg, zzwy28, hq⟩ := start1 wy21 _ hg
          clear hg
          have u29 := Lib.hid (below_then u22.out hq)
          have u30 := Lib.hid (u23.out.later hq)
          have u31 := Lib.hid (u24.out.later hq)
          have u32 := Lib.hid (Cd.later u25.out hq)
          have u33 := Lib.hid (Cd.later u26.out hq)
          have v34 := Lib.hid (Cd.ow_later v27.out hq)
          have szwy28 := hq.size
          have g35 := Lib.hid (Loc2.of rg)
          clear hq rg
          refine hK.out _ _ ?_ (fun hHeld => ?_)
          · exact ⟨u30.out, u31.out⟩
          clear hK K
          try simp only [Act.put, List.setIfInBounds_toArray, List.set_cons_zero, List.set_cons_succ]
          have k1 := g35.out.c0
          have k2 := g35.out.f0
          have k3 := g35.out.c1
          have k4 := g35.out.f1
          refine RegH.consH (i := 9) rfl (by kernel_rfl) (fun K hK => ?_)
          go_simp
          have ht : Cd.Touch [wy21.heap.size] wy28 (World.setCell (World.setCell wy28 ⟨wy21.heap.size, 0, none⟩ (.slice ra R0.length rc)) ⟨wy21.heap.size, 1, none⟩ (.slice rb Q0.length rd)) := ⟨rfl, rfl, rfl, by simp, fun k hk hn => (Below.heap_setCell _ _ _ k (by simpa using hn)).trans (Below.heap_setCell _ _ _ k (by simpa using hn))⟩
          have u37 := Lib.hid (Cd.Touch.below u29.out ht (fun b hb => by rw [List.mem_singleton.1 hb]; have := HB0.out; omega))
          have u38 := Lib.hid (u30.out.touched ht (by have := HB0.out; have := hz0; simp; omega))
          have u39 := Lib.hid (u31.out.touched ht (by have := HB0.out; have := hz0; simp; omega))
          have u40 := Lib.hid (Cd.touched u32.out ht (fun b hb q => by rw [List.mem_singleton.1 hb] at q; have := HB0.out; omega))
          have u41 := Lib.hid (Cd.touched u33.out ht (fun b hb q => by rw [List.mem_singleton.1 hb] at q; have := HB0.out; omega))
          have GF := Lib.hid (MkAns.set_both g35.out (.slice ra R0.length rc) (.slice rb Q0.length rd))
          have OF := Lib.hid (ow_setCell (c := ansC) (p := ⟨wy21.heap.size, 1, none⟩) (ow_setCell (c := ansC) (p := ⟨wy21.heap.size, 0, none⟩) v34.out (fun q => by have := HRL.out _ q; simp only at this; omega) (.slice ra R0.length rc)) (fun q => by have := HRL.out _ q; simp only at this; omega) (.slice rb Q0.length rd))
          have SF : (World.setCell (World.setCell wy28 ⟨wy21.heap.size, 0, none⟩ (.slice ra R0.length rc)) ⟨wy21.heap.size, 1, none⟩ (.slice rb Q0.length rd)).heap.size = wy28.heap.size := by simp
          clear ht k1 k2 k3 k4
          generalize World.setCell (World.setCell wy28 ⟨wy21.heap.size, 0, none⟩ (.slice ra R0.length rc)) ⟨wy21.heap.size, 1, none⟩ (.slice rb Q0.length rd) = wy36 at *
          refine hK.out _ _ ?_ (fun hHeld => ?_)
          · exact ⟨u38.out, u39.out⟩
          clear hK K
          try simp only [Act.put, List.setIfInBounds_toArray, List.set_cons_zero, List.set_cons_succ]
          refine RegH.takeH (i := 10) (v := ?_) rfl (by kernel_rfl) (by kernel_rfl) (by kernel_rfl) (fun _ _ _ h => h) (Or.inl ⟨by rfl, ?_⟩) (by assumption) ?_
          rotate_left
          · (intro wS hSw; (try dsimp only at hSw); (obtain ⟨s_LB0, s_LB1⟩ := hSw); (have r0a := s_LB0.c0); (have r1a := s_LB1.c0); (have r1b := s_LB1.c1); go_simp; try (with_reducible rfl))
          try simp only [Act.put, List.setIfInBounds_toArray, List.set_cons_zero, List.set_cons_succ]
          refine wpAnyH_done (by kernel_rfl) ?_ _
          go_wp2_with fail
          go_meet
          exact ⟨wy21.heap.size, ra, rc, rb, rd, rf, rfl, rfl, by omega, by omega, by omega, GF.out, ansC.ow_base OF.out (by omega), HRN.out, u37.out, u38.out, u39.out, u40.out, u41.out⟩
        · skip
          go_simp
          generalize hg : World.alloc wy13 _ = wy42
          obtain ⟨rg, zzwy42, hq⟩ := start1 wy13 _ hg
          clear hg
          have u43 := Lib.hid (below_then u14.out hq)
          have u44 := Lib.hid (u15.out.later hq)
          have u45 := Lib.hid (u16.out.later hq)
          have u46 := Lib.hid (Cd.later u17.out hq)
          have u47 := Lib.hid (Cd.later u18.out hq)
          have v48 := Lib.hid (Cd.ow_later v19.out hq)
          have v49 := Lib.hid (Cd.ow_later v20.out hq)
          have szwy42 := hq.size
          have g50 := Lib.hid (Loc2.of rg)
          clear hq rg
          refine hK.out _ _ ?_ (fun hHeld => ?_)
          · exact ⟨u44.out, u45.out⟩
          clear hK K
          try simp only [Act.put, List.setIfInBounds_toArray, List.set_cons_zero, List.set_cons_succ]
          refine RegH.consH (i := 4) rfl (by kernel_rfl) (fun K hK => ?_)
          go_simp
          go_at_call 37
          refine (HSh.out HX0.out HX1.out _ _ _ _ wy42 (tabsC.ow_rd v48.out) (atomsC.ow_rd v49.out)).mono ?_
          rintro e wy51 ⟨ru, rz, rf, rfl, tow, tnd, hq⟩
          obtain ⟨ra, rc, rb, rd, rfl, rfl⟩ := ans_shape tow
          have u52 := Lib.hid (below_then u43.out hq)
          have u53 := Lib.hid (u44.out.later hq)
          have u54 := Lib.hid (u45.out.later hq)
          have u55 := Lib.hid (Cd.later u46.out hq)
          have u56 := Lib.hid (Cd.later u47.out hq)
          have g57 := Lib.hid (g50.out.later hq)
          have szwy51 := hq.size
          have v58 := Lib.hid tow
          have HRN := Lib.hid tnd
          have HRL := Lib.hid (bound_of tow)
          clear hq tow tnd
          (try go_wp2_with fail)
          refine hK.out _ _ ?_ (fun hHeld => ?_)
          · exact ⟨u53.out, u54.out⟩
          clear hK K
          try simp only [Act.put, List.setIfInBounds_toArray, List.set_cons_zero, List.set_cons_succ]
          refine RegH.takeH (i := 5) (v := ?_) rfl (by kernel_rfl) (by kernel_rfl) (by kernel_rfl) (fun _ _ _ h => h) (Or.inl ⟨by rfl, ?_⟩) (by assumption) ?_
          rotate_left
          · (intro wS hSw; (try dsimp only at hSw); (obtain ⟨s_LB0, s_LB1⟩ := hSw); (have r0a := s_LB0.c0); (have r1a := s_LB1.c0); (have r1b := s_LB1.c1); go_simp; try (with_reducible rfl))
          try simp only [Act.put, List.setIfInBounds_toArray, List.set_cons_zero, List.set_cons_succ]
          refine RegH.takeH (i := 6) (v := ?_) rfl (by kernel_rfl) (by kernel_rfl) (by kernel_rfl) (fun _ _ _ h => h) (Or.inl ⟨by rfl, ?_⟩) (by assumption) ?_
          rotate_left
          · (intro wS hSw; (try dsimp only at hSw); (obtain ⟨s_LB0, s_LB1⟩ := hSw); (have r0a := s_LB0.c0); (have r1a := s_LB1.c0); (have r1b := s_LB1.c1); go_simp; try (with_reducible rfl))
          try simp only [Act.put, List.setIfInBounds_toArray, List.set_cons_zero, List.set_cons_succ]
          refine RegH.takeH (i := 7) (v := ?_) rfl (by kernel_rfl) (by kernel_rfl) (by kernel_rfl) (fun _ _ _ h => h) (Or.inl ⟨by rfl, ?_⟩) (by assumption) ?_
          rotate_left
          · (intro wS hSw; (try dsimp only at hSw); (obtain ⟨s_LB0, s_LB1⟩ := hSw); (have r0a := s_LB0.c0); (have r1a := s_LB1.c0); (have r1b := s_LB1.c1); go_simp; try (with_reducible rfl))
          try simp only [Act.put, List.setIfInBounds_toArray, List.set_cons_zero, List.set_cons_succ]
          have k1 := g57.out.c0
          have k2 := g57.out.f0
          have k3 := g57.out.c1
          have k4 := g57.out.f1
          refine RegH.consH (i := 9) rfl (by kernel_rfl) (fun K hK => ?_)
          go_simp
          have ht : Cd.Touch [wy13.heap.size] wy51 (World.setCell (World.setCell wy51 ⟨wy13.heap.size, 0, none⟩ (.slice ra R0.length rc)) ⟨wy13.heap.size, 1, none⟩ (.slice rb Q0.length rd)) := ⟨rfl, rfl, rfl, by simp, fun k hk hn => (Below.heap_setCell _ _ _ k (by simpa using hn)).trans (Below.heap_setCell _ _ _ k (by simpa using hn))⟩
          have u60 := Lib.hid (Cd.Touch.below u52.out ht (fun b hb => by rw [List.mem_singleton.1 hb]; have := HB0.out; omega))
          have u61 := Lib.hid (u53.out.touched ht (by have := HB0.out; have := hz0; simp; omega))
          have u62 := Lib.hid (u54.out.touched ht (by have := HB0.out; have := hz0; simp; omega))
          have u63 := Lib.hid (Cd.touched u55.out ht (fun b hb q => by rw [List.mem_singleton.1 hb] at q; have := HB0.out; omega))
          have u64 := Lib.hid (Cd.touched u56.out ht (fun b hb q => by rw [List.mem_singleton.1 hb] at q; have := HB0.out; omega))
          have GF := Lib.hid (MkAns.set_both g57.out (.slice ra R0.length rc) (.slice rb Q0.length rd))
          have OF := Lib.hid (ow_setCell (c := ansC) (p := ⟨wy13.heap.size, 1, none⟩) (ow_setCell (c := ansC) (p := ⟨wy13.heap.size, 0, none⟩) v58.out (fun q => by have := HRL.out _ q; simp only at this; omega) (.slice ra R0.length rc)) (fun q => by have := HRL.out _ q; simp only at this; omega) (.slice rb Q0.length rd))
          have SF : (World.setCell (World.setCell wy51 ⟨wy13.heap.size, 0, none⟩ (.slice ra R0.length rc)) ⟨wy13.heap.size, 1, none⟩ (.slice rb Q0.length rd)).heap.size = wy51.heap.size := by simp
          clear ht k1 k2 k3 k4
          generalize World.setCell (World.setCell wy51 ⟨wy13.heap.size, 0, none⟩ (.slice ra R0.length rc)) ⟨wy13.heap.size, 1, none⟩ (.slice rb Q0.length rd) = wy59 at *
          refine hK.out _ _ ?_ (fun hHeld => ?_)
          · exact ⟨u61.out, u62.out⟩
          clear hK K
          try simp only [Act.put, List.setIfInBounds_toArray, List.set_cons_zero, List.set_cons_succ]
          refine RegH.takeH (i := 10) (v := ?_) rfl (by kernel_rfl) (by kernel_rfl) (by kernel_rfl) (fun _ _ _ h => h) (Or.inl ⟨by rfl, ?_⟩) (by assumption) ?_
          rotate_left
          · (intro wS hSw; (try dsimp only at hSw); (obtain ⟨s_LB0, s_LB1⟩ := hSw); (have r0a := s_LB0.c0); (have r1a := s_LB1.c0); (have r1b := s_LB1.c1); go_simp; try (with_reducible rfl))
          try simp only [Act.put, List.setIfInBounds_toArray, List.set_cons_zero, List.set_cons_succ]
          refine wpAnyH_done (by kernel_rfl) ?_ _
          go_wp2_with fail
          go_meet
          exact ⟨wy13.heap.size, ra, rc, rb, rd, rf, rfl, rfl, by omega, by omega, by omega, GF.out, ansC.ow_base OF.out (by omega), HRN.out, u60.out, u61.out, u62.out, u63.out, u64.out⟩
      · skip
        go_simp
        generalize hg : World.alloc wy6 _ = wy65
        obtain ⟨rg, zzwy65, hq⟩ := start1 wy6 _ hg
        clear hg
        have u66 := Lib.hid (below_then u7.out hq)
        have u67 := Lib.hid (u8.out.later hq)
        have u68 := Lib.hid (u9.out.later hq)
        have u69 := Lib.hid (Cd.later u10.out hq)
        have u70 := Lib.hid (Cd.later u11.out hq)
        have v71 := Lib.hid (Cd.ow_later v12.out hq)
        have szwy65 := hq.size
        have g72 := Lib.hid (Loc2.of rg)
        clear hq rg
        refine hK.out _ _ ?_ (fun hHeld => ?_)
        · exact ⟨u67.out, u68.out⟩
        clear hK K
        try simp only [Act.put, List.setIfInBounds_toArray, List.set_cons_zero, List.set_cons_succ]
        refine RegH.consH (i := 3) rfl (by kernel_rfl) (fun K hK => ?_)
        go_simp
        go_at_call 29
        refine (to_q r1 _ l1 _ wy65 u70.out (by have := HX1.out; omega)).mono ?_
        rintro e wy73 ⟨tv1, tf1, rfl, tow, tnd, hq⟩
        have u74 := Lib.hid (below_then u66.out hq)
        have u75 := Lib.hid (u67.out.later hq)
        have u76 := Lib.hid (u68.out.later hq)
        have u77 := Lib.hid (Cd.later u69.out hq)
        have u78 := Lib.hid (Cd.later u70.out hq)
        have v79 := Lib.hid (Cd.ow_later v71.out hq)
        have g80 := Lib.hid (g72.out.later hq)
        have szwy73 := hq.size
        have v81 := Lib.hid tow
        clear hq tow tnd
        (try go_wp2_with fail)
        refine hK.out _ _ ?_ (fun hHeld => ?_)
        · exact ⟨u75.out, u76.out⟩
        clear hK K
        try simp only [Act.put, List.setIfInBounds_toArray, List.set_cons_zero, List.set_cons_succ]
        refine RegH.consH (i := 4) rfl (by kernel_rfl) (fun K hK => ?_)
        go_simp
        go_at_call 37
        refine (HSh.out HX0.out HX1.out _ _ _ _ wy73 (tabsC.ow_rd v79.out) (atomsC.ow_rd v81.out)).mono ?_
        rintro e wy82 ⟨ru, rz, rf, rfl, tow, tnd, hq⟩
        obtain ⟨ra, rc, rb, rd, rfl, rfl⟩ := ans_shape tow
        have u83 := Lib.hid (below_then u74.out hq)
        have u84 := Lib.hid (u75.out.later hq)
        have u85 := Lib.hid (u76.out.later hq)
        have u86 := Lib.hid (Cd.later u77.out hq)
        have u87 := Lib.hid (Cd.later u78.out hq)
        have g88 := Lib.hid (g80.out.later hq)
        have szwy82 := hq.size
        have v89 := Lib.hid tow
        have HRN := Lib.hid tnd
        have HRL := Lib.hid (bound_of tow)
        clear hq tow tnd
        (try go_wp2_with fail)
        refine hK.out _ _ ?_ (fun hHeld => ?_)
        · exact ⟨u84.out, u85.out⟩
        clear hK K
        try simp only [Act.put, List.setIfInBounds_toArray, List.set_cons_zero, List.set_cons_succ]
        refine RegH.takeH (i := 5) (v := ?_) rfl (by kernel_rfl) (by kernel_rfl) (by kernel_rfl) (fun _ _ _ h => h) (Or.inl ⟨by rfl, ?_⟩) (by assumption) ?_
        rotate_left
        · (intro wS hSw; (try dsimp only at hSw); (obtain ⟨s_LB0, s_LB1⟩ := hSw); (have r0a := s_LB0.c0); (have r1a := s_LB1.c0); (have r1b := s_LB1.c1); go_simp; try (with_reducible rfl))
        try simp only [Act.put, List.setIfInBounds_toArray, List.set_cons_zero, List.set_cons_succ]
        refine RegH.takeH (i := 6) (v := ?_) rfl (by kernel_rfl) (by kernel_rfl) (by kernel_rfl) (fun _ _ _ h => h) (Or.inl ⟨by rfl, ?_⟩) (by assumption) ?_
        rotate_left
        · (intro wS hSw; (try dsimp only at hSw); (obtain ⟨s_LB0, s_LB1⟩ := hSw); (have r0a := s_LB0.c0); (have r1a := s_LB1.c0); (have r1b := s_LB1.c1); go_simp; try (with_reducible rfl))
        try simp only [Act.put, List.setIfInBounds_toArray, List.set_cons_zero, List.set_cons_succ]
        refine RegH.takeH (i := 7) (v := ?_) rfl (by kernel_rfl) (by kernel_rfl) (by kernel_rfl) (fun _ _ _ h => h) (Or.inl ⟨by rfl, ?_⟩) (by assumption) ?_
        rotate_left
        · (intro wS hSw; (try dsimp only at hSw); (obtain ⟨s_LB0, s_LB1⟩ := hSw); (have r0a := s_LB0.c0); (have r1a := s_LB1.c0); (have r1b := s_LB1.c1); go_simp; try (with_reducible rfl))
        try simp only [Act.put, List.setIfInBounds_toArray, List.set_cons_zero, List.set_cons_succ]
        have k1 := g88.out.c0
        have k2 := g88.out.f0
        have k3 := g88.out.c1
        have k4 := g88.out.f1
        refine RegH.consH (i := 9) rfl (by kernel_rfl) (fun K hK => ?_)
        go_simp
        have ht : Cd.Touch [wy6.heap.size] wy82 (World.setCell (World.setCell wy82 ⟨wy6.heap.size, 0, none⟩ (.slice ra R0.length rc)) ⟨wy6.heap.size, 1, none⟩ (.slice rb Q0.length rd)) := ⟨rfl, rfl, rfl, by simp, fun k hk hn => (Below.heap_setCell _ _ _ k (by simpa using hn)).trans (Below.heap_setCell _ _ _ k (by simpa using hn))⟩
        have u91 := Lib.hid (Cd.Touch.below u83.out ht (fun b hb => by rw [List.mem_singleton.1 hb]; have := HB0.out; omega))
        have u92 := Lib.hid (u84.out.touched ht (by have := HB0.out; have := hz0; simp; omega))
        have u93 := Lib.hid (u85.out.touched ht (by have := HB0.out; have := hz0; simp; omega))
        have u94 := Lib.hid (Cd.touched u86.out ht (fun b hb q => by rw [List.mem_singleton.1 hb] at q; have := HB0.out; omega))
        have u95 := Lib.hid (Cd.touched u87.out ht (fun b hb q => by rw [List.mem_singleton.1 hb] at q; have := HB0.out; omega))
        have GF := Lib.hid (MkAns.set_both g88.out (.slice ra R0.length rc) (.slice rb Q0.length rd))
        have OF := Lib.hid (ow_setCell (c := ansC) (p := ⟨wy6.heap.size, 1, none⟩) (ow_setCell (c := ansC) (p := ⟨wy6.heap.size, 0, none⟩) v89.out (fun q => by have := HRL.out _ q; simp only at this; omega) (.slice ra R0.length rc)) (fun q => by have := HRL.out _ q; simp only at this; omega) (.slice rb Q0.length rd))
        have SF : (World.setCell (World.setCell wy82 ⟨wy6.heap.size, 0, none⟩ (.slice ra R0.length rc)) ⟨wy6.heap.size, 1, none⟩ (.slice rb Q0.length rd)).heap.size = wy82.heap.size := by simp
        clear ht k1 k2 k3 k4
        generalize World.setCell (World.setCell wy82 ⟨wy6.heap.size, 0, none⟩ (.slice ra R0.length rc)) ⟨wy6.heap.size, 1, none⟩ (.slice rb Q0.length rd) = wy90 at *
        refine hK.out _ _ ?_ (fun hHeld => ?_)
        · exact ⟨u92.out, u93.out⟩
        clear hK K
        try simp only [Act.put, List.setIfInBounds_toArray, List.set_cons_zero, List.set_cons_succ]
        refine RegH.takeH (i := 10) (v := ?_) rfl (by kernel_rfl) (by kernel_rfl) (by kernel_rfl) (fun _ _ _ h => h) (Or.inl ⟨by rfl, ?_⟩) (by assumption) ?_
        rotate_left
        · (intro wS hSw; (try dsimp only at hSw); (obtain ⟨s_LB0, s_LB1⟩ := hSw); (have r0a := s_LB0.c0); (have r1a := s_LB1.c0); (have r1b := s_LB1.c1); go_simp; try (with_reducible rfl))
        try simp only [Act.put, List.setIfInBounds_toArray, List.set_cons_zero, List.set_cons_succ]
        refine wpAnyH_done (by kernel_rfl) ?_ _
        go_wp2_with fail
        go_meet
        exact ⟨wy6.heap.size, ra, rc, rb, rd, rf, rfl, rfl, by omega, by omega, by omega, GF.out, ansC.ow_base OF.out (by omega), HRN.out, u91.out, u92.out, u93.out, u94.out, u95.out⟩
    · skip
      go_simp
      generalize hg : World.alloc wyd _ = wy96
      obtain ⟨rg, zzwy96, hq⟩ := start1 wyd _ hg
      clear hg
      have u97 := Lib.hid (below_then u1.out hq)
      have u98 := Lib.hid (u2.out.later hq)
      have u99 := Lib.hid (u3.out.later hq)
      have u100 := Lib.hid (Cd.later u4.out hq)
      have u101 := Lib.hid (Cd.later u5.out hq)
      have szwy96 := hq.size
      have g102 := Lib.hid (Loc2.of rg)
      clear hq rg
      refine hK.out _ _ ?_ (fun hHeld => ?_)
      · exact ⟨u98.out, u99.out⟩
      clear hK K
      try simp only [Act.put, List.setIfInBounds_toArray, List.set_cons_zero, List.set_cons_succ]
      refine RegH.consH (i := 1) rfl (by kernel_rfl) (fun K hK => ?_)
      go_simp
      go_at_call 28
      refine (to_db _ l0 _ wy96 u100.out (by have := HX0.out; omega)).mono ?_
      rintro e wy103 ⟨tv0, tf0, rfl, tow, tnd, hq⟩
      have u104 := Lib.hid (below_then u97.out hq)
      have u105 := Lib.hid (u98.out.later hq)
      have u106 := Lib.hid (u99.out.later hq)
      have u107 := Lib.hid (Cd.later u100.out hq)
      have u108 := Lib.hid (Cd.later u101.out hq)
      have g109 := Lib.hid (g102.out.later hq)
      have szwy103 := hq.size
      have v110 := Lib.hid tow
      clear hq tow tnd
      (try go_wp2_with fail)
      refine hK.out _ _ ?_ (fun hHeld => ?_)
      · exact ⟨u105.out, u106.out⟩
      clear hK K
      try simp only [Act.put, List.setIfInBounds_toArray, List.set_cons_zero, List.set_cons_succ]
      refine RegH.consH (i := 3) rfl (by kernel_rfl) (fun K hK => ?_)
      go_simp
      go_at_call 29
      refine (to_q r1 _ l1 _ wy103 u108.out (by have := HX1.out; omega)).mono ?_
      rintro e wy111 ⟨tv1, tf1, rfl, tow, tnd, hq⟩
      have u112 := Lib.hid (below_then u104.out hq)
      have u113 := Lib.hid (u105.out.later hq)
      have u114 := Lib.hid (u106.out.later hq)
      have u115 := Lib.hid (Cd.later u107.out hq)
      have u116 := Lib.hid (Cd.later u108.out hq)
      have v117 := Lib.hid (Cd.ow_later v110.out hq)
      have g118 := Lib.hid (g109.out.later hq)
      have szwy111 := hq.size
      have v119 := Lib.hid tow
      clear hq tow tnd
      (try go_wp2_with fail)
      refine hK.out _ _ ?_ (fun hHeld => ?_)
      · exact ⟨u113.out, u114.out⟩
      clear hK K
      try simp only [Act.put, List.setIfInBounds_toArray, List.set_cons_zero, List.set_cons_succ]
      refine RegH.consH (i := 4) rfl (by kernel_rfl) (fun K hK => ?_)
      go_simp
      go_at_call 37
      refine (HSh.out HX0.out HX1.out _ _ _ _ wy111 (tabsC.ow_rd v117.out) (atomsC.ow_rd v119.out)).mono ?_
      rintro e wy120 ⟨ru, rz, rf, rfl, tow, tnd, hq⟩
      obtain ⟨ra, rc, rb, rd, rfl, rfl⟩ := ans_shape tow
      have u121 := Lib.hid (below_then u112.out hq)
      have u122 := Lib.hid (u113.out.later hq)
      have u123 := Lib.hid (u114.out.later hq)
      have u124 := Lib.hid (Cd.later u115.out hq)
      have u125 := Lib.hid (Cd.later u116.out hq)
      have g126 := Lib.hid (g118.out.later hq)
      have szwy120 := hq.size
      have v127 := Lib.hid tow
      have HRN := Lib.hid tnd
      have HRL := Lib.hid (bound_of tow)
      clear hq tow tnd
      (try go_wp2_with fail)
      refine hK.out _ _ ?_ (fun hHeld => ?_)
      · exact ⟨u122.out, u123.out⟩
      clear hK K
      try simp only [Act.put, List.setIfInBounds_toArray, List.set_cons_zero, List.set_cons_succ]
      refine RegH.takeH (i := 5) (v := ?_) rfl (by kernel_rfl) (by kernel_rfl) (by kernel_rfl) (fun _ _ _ h => h) (Or.inl ⟨by rfl, ?_⟩) (by assumption) ?_
      rotate_left
      · (intro wS hSw; (try dsimp only at hSw); (obtain ⟨s_LB0, s_LB1⟩ := hSw); (have r0a := s_LB0.c0); (have r1a := s_LB1.c0); (have r1b := s_LB1.c1); go_simp; try (with_reducible rfl))
      try simp only [Act.put, List.setIfInBounds_toArray, List.set_cons_zero, List.set_cons_succ]
      refine RegH.takeH (i := 6) (v := ?_) rfl (by kernel_rfl) (by kernel_rfl) (by kernel_rfl) (fun _ _ _ h => h) (Or.inl ⟨by rfl, ?_⟩) (by assumption) ?_
      rotate_left
      · (intro wS hSw; (try dsimp only at hSw); (obtain ⟨s_LB0, s_LB1⟩ := hSw); (have r0a := s_LB0.c0); (have r1a := s_LB1.c0); (have r1b := s_LB1.c1); go_simp; try (with_reducible rfl))
      try simp only [Act.put, List.setIfInBounds_toArray, List.set_cons_zero, List.set_cons_succ]
      refine RegH.takeH (i := 7) (v := ?_) rfl (by kernel_rfl) (by kernel_rfl) (by kernel_rfl) (fun _ _ _ h => h) (Or.inl ⟨by rfl, ?_⟩) (by assumption) ?_
      rotate_left
      · (intro wS hSw; (try dsimp only at hSw); (obtain ⟨s_LB0, s_LB1⟩ := hSw); (have r0a := s_LB0.c0); (have r1a := s_LB1.c0); (have r1b := s_LB1.c1); go_simp; try (with_reducible rfl))
      try simp only [Act.put, List.setIfInBounds_toArray, List.set_cons_zero, List.set_cons_succ]
      have k1 := g126.out.c0
      have k2 := g126.out.f0
      have k3 := g126.out.c1
      have k4 := g126.out.f1
      refine RegH.consH (i := 9) rfl (by kernel_rfl) (fun K hK => ?_)
      go_simp
      have ht : Cd.Touch [wyd.heap.size] wy120 (World.setCell (World.setCell wy120 ⟨wyd.heap.size, 0, none⟩ (.slice ra R0.length rc)) ⟨wyd.heap.size, 1, none⟩ (.slice rb Q0.length rd)) := ⟨rfl, rfl, rfl, by simp, fun k hk hn => (Below.heap_setCell _ _ _ k (by simpa using hn)).trans (Below.heap_setCell _ _ _ k (by simpa using hn))⟩
      have u129 := Lib.hid (Cd.Touch.below u121.out ht (fun b hb => by rw [List.mem_singleton.1 hb]; have := HB0.out; omega))
      have u130 := Lib.hid (u122.out.touched ht (by have := HB0.out; have := hz0; simp; omega))
      have u131 := Lib.hid (u123.out.touched ht (by have := HB0.out; have := hz0; simp; omega))
      have u132 := Lib.hid (Cd.touched u124.out ht (fun b hb q => by rw [List.mem_singleton.1 hb] at q; have := HB0.out; omega))
      have u133 := Lib.hid (Cd.touched u125.out ht (fun b hb q => by rw [List.mem_singleton.1 hb] at q; have := HB0.out; omega))
      have GF := Lib.hid (MkAns.set_both g126.out (.slice ra R0.length rc) (.slice rb Q0.length rd))
      have OF := Lib.hid (ow_setCell (c := ansC) (p := ⟨wyd.heap.size, 1, none⟩) (ow_setCell (c := ansC) (p := ⟨wyd.heap.size, 0, none⟩) v127.out (fun q => by have := HRL.out _ q; simp only at this; omega) (.slice ra R0.length rc)) (fun q => by have := HRL.out _ q; simp only at this; omega) (.slice rb Q0.length rd))
      have SF : (World.setCell (World.setCell wy120 ⟨wyd.heap.size, 0, none⟩ (.slice ra R0.length rc)) ⟨wyd.heap.size, 1, none⟩ (.slice rb Q0.length rd)).heap.size = wy120.heap.size := by simp
      clear ht k1 k2 k3 k4
      generalize World.setCell (World.setCell wy120 ⟨wyd.heap.size, 0, none⟩ (.slice ra R0.length rc)) ⟨wyd.heap.size, 1, none⟩ (.slice rb Q0.length rd) = wy128 at *
      refine hK.out _ _ ?_ (fun hHeld => ?_)
      · exact ⟨u130.out, u131.out⟩
      clear hK K
      try simp only [Act.put, List.setIfInBounds_toArray, List.set_cons_zero, List.set_cons_succ]
      refine RegH.takeH (i := 10) (v := ?_) rfl (by kernel_rfl) (by kernel_rfl) (by kernel_rfl) (fun _ _ _ h => h) (Or.inl ⟨by rfl, ?_⟩) (by assumption) ?_
      rotate_left
      · (intro wS hSw; (try dsimp only at hSw); (obtain ⟨s_LB0, s_LB1⟩ := hSw); (have r0a := s_LB0.c0); (have r1a := s_LB1.c0); (have r1b := s_LB1.c1); go_simp; try (with_reducible rfl))
      try simp only [Act.put, List.setIfInBounds_toArray, List.set_cons_zero, List.set_cons_succ]
      refine wpAnyH_done (by kernel_rfl) ?_ _
      go_wp2_with fail
      go_meet
      exact ⟨wyd.heap.size, ra, rc, rb, rd, rf, rfl, rfl, by omega, by omega, by omega, GF.out, ansC.ow_base OF.out (by omega), HRN.out, u129.out, u130.out, u131.out, u132.out, u133.out⟩
  case rest =>
    obtain ⟨pw, w0_a, w0_c, w0_b, w0_d, w0_f, rfl, rfl, hpw, hqw, zW1, cL, cO, cN, c_HB, c_LB0, c_LB1, c_HR0, c_HR1⟩ := hcut
    clear HB LB0 LB1 HR0 HR1
    have HB := Lib.hid c_HB
    have LB0 := Lib.hid c_LB0
    have LB1 := Lib.hid c_LB1
    have HR0 := Lib.hid c_HR0
    have HR1 := Lib.hid c_HR1
    clear c_HB c_LB0 c_LB1 c_HR0 c_HR1
    have Lw0 := Lib.hid cL
    clear cL
    have w0_O := Lib.hid cO
    have w0_N := Lib.hid cN
    have w0_B := Lib.hid (bound_of cO)
    clear cO cN
    generalize wc = W1 at *
    have y0a := LB0.out.c0
    have y0d := LB0.out.lt
    go_wp2_with fail
    clear y0a y0d
    refine (to_db _ l0 _ W1 HR0.out (by have := HX0.out; omega)).mono ?_
    rintro e W2 ⟨x0_v, x0_f, rfl, x0_o, x0_n, hbx⟩
    obtain ⟨x0_a, x0_c, rfl⟩ := Cd.ow_slice (c := tabC) x0_o
    replace HB := Lib.hid (below_then HB.out hbx)
    replace LB0 := Lib.hid (LB0.out.later hbx)
    replace LB1 := Lib.hid (LB1.out.later hbx)
    replace HR0 := Lib.hid (Cd.later HR0.out hbx)
    replace HR1 := Lib.hid (Cd.later HR1.out hbx)
    replace Lw0 := Lib.hid (Lw0.out.later hbx)
    replace w0_O := Lib.hid (Cd.ow_later w0_O.out hbx)
    have zW2 := hbx.size
    clear hbx
    have x0_O := Lib.hid x0_o
    have x0_N := Lib.hid x0_n
    have x0_B := Lib.hid (bound_of x0_o)
    clear x0_o x0_n
    have y0a := LB1.out.c0
    have y0b := LB1.out.c1
    have y0d := LB1.out.lt
    go_wp2_with fail
    clear y0a y0b y0d
    generalize hg : World.alloc W2 _ = W3
    obtain ⟨rg, zW3, hbg⟩ := start1 W2 _ hg
    clear hg
    replace HB := Lib.hid (below_then HB.out hbg)
    replace LB0 := Lib.hid (LB0.out.later hbg)
    replace LB1 := Lib.hid (LB1.out.later hbg)
    replace HR0 := Lib.hid (Cd.later HR0.out hbg)
    replace HR1 := Lib.hid (Cd.later HR1.out hbg)
    replace Lw0 := Lib.hid (Lw0.out.later hbg)
    replace w0_O := Lib.hid (Cd.ow_later w0_O.out hbg)
    replace x0_O := Lib.hid (Cd.ow_later x0_O.out hbg)
    have Lx0 := Lib.hid (Loc1.of rg)
    clear hbg rg
    refine (to_q r1 _ l1 _ W3 HR1.out (by have := HX1.out; omega)).mono ?_
    rintro e W4 ⟨x1_v, x1_f, rfl, x1_o, x1_n, hbx⟩
    obtain ⟨x1_a, x1_c, rfl⟩ := Cd.ow_slice (c := atomC) x1_o
    replace HB := Lib.hid (below_then HB.out hbx)
    replace LB0 := Lib.hid (LB0.out.later hbx)
    replace LB1 := Lib.hid (LB1.out.later hbx)
    replace HR0 := Lib.hid (Cd.later HR0.out hbx)
    replace HR1 := Lib.hid (Cd.later HR1.out hbx)
    replace Lw0 := Lib.hid (Lw0.out.later hbx)
    replace w0_O := Lib.hid (Cd.ow_later w0_O.out hbx)
    replace x0_O := Lib.hid (Cd.ow_later x0_O.out hbx)
    replace Lx0 := Lib.hid (Lx0.out.later hbx)
    have zW4 := hbx.size
    clear hbx
    have x1_O := Lib.hid x1_o
    have x1_N := Lib.hid x1_n
    have x1_B := Lib.hid (bound_of x1_o)
    clear x1_o x1_n
    have y0a := Lx0.out.c0
    have y0d := Lx0.out.lt
    go_wp2_with fail
    clear y0a y0d
    generalize hg : World.alloc W4 _ = W5
    obtain ⟨rg, zW5, hbg⟩ := start1 W4 _ hg
    clear hg
    replace HB := Lib.hid (below_then HB.out hbg)
    replace LB0 := Lib.hid (LB0.out.later hbg)
    replace LB1 := Lib.hid (LB1.out.later hbg)
    replace HR0 := Lib.hid (Cd.later HR0.out hbg)
    replace HR1 := Lib.hid (Cd.later HR1.out hbg)
    replace Lw0 := Lib.hid (Lw0.out.later hbg)
    replace w0_O := Lib.hid (Cd.ow_later w0_O.out hbg)
    replace x0_O := Lib.hid (Cd.ow_later x0_O.out hbg)
    replace Lx0 := Lib.hid (Lx0.out.later hbg)
    replace x1_O := Lib.hid (Cd.ow_later x1_O.out hbg)
    have Lx1 := Lib.hid (Loc2.of rg)
    clear hbg rg
    refine (HIh.out HX0.out HX1.out _ _ _ _ W5 (tabsC.ow_rd x0_O.out) (atomsC.ow_rd x1_O.out)).mono ?_
    rintro e W6 ⟨g0_v, g0_z, g0_f, rfl, g0_o, g0_n, hbx⟩
    obtain ⟨g0_a, g0_c, g0_b, g0_d, rfl, rfl⟩ := ans_shape g0_o
    replace HB := Lib.hid (below_then HB.out hbx)
    replace LB0 := Lib.hid (LB0.out.later hbx)
    replace LB1 := Lib.hid (LB1.out.later hbx)
    replace HR0 := Lib.hid (Cd.later HR0.out hbx)
    replace HR1 := Lib.hid (Cd.later HR1.out hbx)
    replace Lw0 := Lib.hid (Lw0.out.later hbx)
    replace w0_O := Lib.hid (Cd.ow_later w0_O.out hbx)
    replace x0_O := Lib.hid (Cd.ow_later x0_O.out hbx)
    replace Lx0 := Lib.hid (Lx0.out.later hbx)
    replace x1_O := Lib.hid (Cd.ow_later x1_O.out hbx)
    replace Lx1 := Lib.hid (Lx1.out.later hbx)
    have zW6 := hbx.size
    clear hbx
    have g0_O := Lib.hid g0_o
    have g0_N := Lib.hid g0_n
    have g0_B := Lib.hid (bound_of g0_o)
    clear g0_o g0_n
    have y0a := Lw0.out.c0
    have y0b := Lw0.out.c1
    have y0d := Lw0.out.lt
    go_wp2_with fail
    clear y0a y0b y0d
    generalize hg : World.alloc W6 _ = W7
    obtain ⟨rg, zW7, hbg⟩ := start1 W6 _ hg
    clear hg
    replace HB := Lib.hid (below_then HB.out hbg)
    replace LB0 := Lib.hid (LB0.out.later hbg)
    replace LB1 := Lib.hid (LB1.out.later hbg)
    replace HR0 := Lib.hid (Cd.later HR0.out hbg)
    replace HR1 := Lib.hid (Cd.later HR1.out hbg)
    replace Lw0 := Lib.hid (Lw0.out.later hbg)
    replace w0_O := Lib.hid (Cd.ow_later w0_O.out hbg)
    replace x0_O := Lib.hid (Cd.ow_later x0_O.out hbg)
    replace Lx0 := Lib.hid (Lx0.out.later hbg)
    replace x1_O := Lib.hid (Cd.ow_later x1_O.out hbg)
    replace Lx1 := Lib.hid (Lx1.out.later hbg)
    replace g0_O := Lib.hid (Cd.ow_later g0_O.out hbg)
    have Lg0 := Lib.hid (Loc2.of rg)
    clear hbg rg
    refine (eq_ans _ _ _ _ R0 Q0 _ _ W7 (ansC.ow_rd g0_O.out) (ansC.ow_rd w0_O.out)).mono ?_
    rintro e W8 ⟨rfl, hbx⟩
    replace HB := Lib.hid (below_then HB.out hbx)
    replace LB0 := Lib.hid (LB0.out.later hbx)
    replace LB1 := Lib.hid (LB1.out.later hbx)
    replace HR0 := Lib.hid (Cd.later HR0.out hbx)
    replace HR1 := Lib.hid (Cd.later HR1.out hbx)
    replace Lw0 := Lib.hid (Lw0.out.later hbx)
    replace w0_O := Lib.hid (Cd.ow_later w0_O.out hbx)
    replace x0_O := Lib.hid (Cd.ow_later x0_O.out hbx)
    replace Lx0 := Lib.hid (Lx0.out.later hbx)
    replace x1_O := Lib.hid (Cd.ow_later x1_O.out hbx)
    replace Lx1 := Lib.hid (Lx1.out.later hbx)
    replace g0_O := Lib.hid (Cd.ow_later g0_O.out hbx)
    replace Lg0 := Lib.hid (Lg0.out.later hbx)
    have zW8 := hbx.size
    clear hbx
    have y0a := Lx0.out.c0
    have y0d := Lx0.out.lt
    have y1a := LB0.out.c0
    have y1d := LB0.out.lt
    go_upto_region 14 with fail
    clear y0a y0d y1a y1d
    go_cut [58] (fun s wx => s = .bool false ∧ W8.heap.size ≤ wx.heap.size ∧ Below w.heap.size w wx ∧ Loc1 wx (w.heap.size) (.slice q0 l0.length c0) ∧ Loc2 wx (w.heap.size + 1) (.int .i64 r1) (.slice q1 l1.length c1) ∧ tabsC.rd wx (· < w.heap.size) [.slice q0 l0.length c0] l0 ∧ atomsC.rd wx (· < w.heap.size) [.slice q1 l1.length c1] l1 ∧ Loc2 wx (pw) (.slice w0_a R0.length w0_c) (.slice w0_b Q0.length w0_d) ∧ ansC.ow wx (W1z.heap.size) [.slice w0_a R0.length w0_c, .slice w0_b Q0.length w0_d] (R0, Q0) w0_f ∧ tabsC.ow wx (W1.heap.size) [.slice x0_a l0.length x0_c] l0 x0_f ∧ Loc1 wx (W2.heap.size) (.slice x0_a l0.length x0_c) ∧ atomsC.ow wx (W3.heap.size) [.slice x1_a l1.length x1_c] l1 x1_f ∧ Loc2 wx (W4.heap.size) (.int .i64 r1) (.slice x1_a l1.length x1_c) ∧ ansC.ow wx (W5.heap.size) [.slice g0_a R0.length g0_c, .slice g0_b Q0.length g0_d] (R0, Q0) g0_f ∧ Loc2 wx (W6.heap.size) (.slice g0_a R0.length g0_c) (.slice g0_b Q0.length g0_d))
    case first =>
      have HT := Lib.hid (to_db _ l0 _ W8.drew (rd_drew HR0.out) (by have := HX0.out; omega))
      have y0a := Lx0.out.c0
      have y1a := LB0.out.c0
      go_region_law (first | (go_simp; go_at_call 28; refine HT.out.mono ?_; rintro e wq ⟨tv, tf, rfl, tow, tnd, hbq⟩; (have hq := undrew hbq); (have hqz := hq.size); (have GHB := Lib.hid (below_then HB.out hq)); (have GLB0 := Lib.hid (LB0.out.later hq)); (have GLB1 := Lib.hid (LB1.out.later hq)); (have GHR0 := Lib.hid (Cd.later HR0.out hq)); (have GHR1 := Lib.hid (Cd.later HR1.out hq)); (have GLw0 := Lib.hid (Lw0.out.later hq)); (have Gw0_O := Lib.hid (Cd.ow_later w0_O.out hq)); (have Gx0_O := Lib.hid (Cd.ow_later x0_O.out hq)); (have GLx0 := Lib.hid (Lx0.out.later hq)); (have Gx1_O := Lib.hid (Cd.ow_later x1_O.out hq)); (have GLx1 := Lib.hid (Lx1.out.later hq)); (have Gg0_O := Lib.hid (Cd.ow_later g0_O.out hq)); (have GLg0 := Lib.hid (Lg0.out.later hq)); (have TO := Lib.hid tow); (have k0a := GLx0.out.c0); clear hbq hq tow tnd) | (go_simp; go_at_call 31; refine (eq_db _ _ l0 _ _ wq (tabsC.ow_rd Gx0_O.out) (tabsC.ow_rd TO.out)).mono ?_; rintro e wp ⟨rfl, hq2⟩; (have hqz2 := hq2.size); (have KHB := Lib.hid (below_then GHB.out hq2)); (have KLB0 := Lib.hid (GLB0.out.later hq2)); (have KLB1 := Lib.hid (GLB1.out.later hq2)); (have KHR0 := Lib.hid (Cd.later GHR0.out hq2)); (have KHR1 := Lib.hid (Cd.later GHR1.out hq2)); (have KLw0 := Lib.hid (GLw0.out.later hq2)); (have Kw0_O := Lib.hid (Cd.ow_later Gw0_O.out hq2)); (have Kx0_O := Lib.hid (Cd.ow_later Gx0_O.out hq2)); (have KLx0 := Lib.hid (GLx0.out.later hq2)); (have Kx1_O := Lib.hid (Cd.ow_later Gx1_O.out hq2)); (have KLx1 := Lib.hid (GLx1.out.later hq2)); (have Kg0_O := Lib.hid (Cd.ow_later Gg0_O.out hq2)); (have KLg0 := Lib.hid (GLg0.out.later hq2)); clear hq2))
      all_goals
        go_wp2_with fail
        go_meet
        exact ⟨rfl, by omega, KHB.out, KLB0.out, KLB1.out, KHR0.out, KHR1.out, KLw0.out, Kw0_O.out, Kx0_O.out, KLx0.out, Kx1_O.out, KLx1.out, Kg0_O.out, KLg0.out⟩
    case rest =>
      obtain ⟨rfl, zW9, c_HB, c_LB0, c_LB1, c_HR0, c_HR1, c_Lw0, c_w0_O, c_x0_O, c_Lx0, c_x1_O, c_Lx1, c_g0_O, c_Lg0⟩ := hcut
      clear HB LB0 LB1 HR0 HR1 Lw0 w0_O x0_O Lx0 x1_O Lx1 g0_O Lg0
      have HB := Lib.hid c_HB
      have LB0 := Lib.hid c_LB0
      have LB1 := Lib.hid c_LB1
      have HR0 := Lib.hid c_HR0
      have HR1 := Lib.hid c_HR1
      have Lw0 := Lib.hid c_Lw0
      have w0_O := Lib.hid c_w0_O
      have x0_O := Lib.hid c_x0_O
      have Lx0 := Lib.hid c_Lx0
      have x1_O := Lib.hid c_x1_O
      have Lx1 := Lib.hid c_Lx1
      have g0_O := Lib.hid c_g0_O
      have Lg0 := Lib.hid c_Lg0
      clear c_HB c_LB0 c_LB1 c_HR0 c_HR1 c_Lw0 c_w0_O c_x0_O c_Lx0 c_x1_O c_Lx1 c_g0_O c_Lg0
      generalize wc = W9 at *
      have y0a := Lx1.out.c0
      have y0b := Lx1.out.c1
      have y0d := Lx1.out.lt
      have y1a := LB1.out.c0
      have y1b := LB1.out.c1
      have y1d := LB1.out.lt
      go_upto_region 16 with fail
      clear y0a y0b y0d y1a y1b y1d
      go_cut [63] (fun s wx => s = .bool false ∧ W9.heap.size ≤ wx.heap.size ∧ Below w.heap.size w wx ∧ Loc1 wx (w.heap.size) (.slice q0 l0.length c0) ∧ Loc2 wx (w.heap.size + 1) (.int .i64 r1) (.slice q1 l1.length c1) ∧ tabsC.rd wx (· < w.heap.size) [.slice q0 l0.length c0] l0 ∧ atomsC.rd wx (· < w.heap.size) [.slice q1 l1.length c1] l1 ∧ Loc2 wx (pw) (.slice w0_a R0.length w0_c) (.slice w0_b Q0.length w0_d) ∧ ansC.ow wx (W1z.heap.size) [.slice w0_a R0.length w0_c, .slice w0_b Q0.length w0_d] (R0, Q0) w0_f ∧ tabsC.ow wx (W1.heap.size) [.slice x0_a l0.length x0_c] l0 x0_f ∧ Loc1 wx (W2.heap.size) (.slice x0_a l0.length x0_c) ∧ atomsC.ow wx (W3.heap.size) [.slice x1_a l1.length x1_c] l1 x1_f ∧ Loc2 wx (W4.heap.size) (.int .i64 r1) (.slice x1_a l1.length x1_c) ∧ ansC.ow wx (W5.heap.size) [.slice g0_a R0.length g0_c, .slice g0_b Q0.length g0_d] (R0, Q0) g0_f ∧ Loc2 wx (W6.heap.size) (.slice g0_a R0.length g0_c) (.slice g0_b Q0.length g0_d))
      case first =>
        have HT := Lib.hid (to_q r1 _ l1 _ W9.drew (rd_drew HR1.out) (by have := HX1.out; omega))
        have y0a := Lx1.out.c0
        have y1a := LB1.out.c0
        have y0b := Lx1.out.c1
        have y1b := LB1.out.c1
        go_region_law (first | (go_simp; go_at_call 29; refine HT.out.mono ?_; rintro e wq ⟨tv, tf, rfl, tow, tnd, hbq⟩; (have hq := undrew hbq); (have hqz := hq.size); (have GHB := Lib.hid (below_then HB.out hq)); (have GLB0 := Lib.hid (LB0.out.later hq)); (have GLB1 := Lib.hid (LB1.out.later hq)); (have GHR0 := Lib.hid (Cd.later HR0.out hq)); (have GHR1 := Lib.hid (Cd.later HR1.out hq)); (have GLw0 := Lib.hid (Lw0.out.later hq)); (have Gw0_O := Lib.hid (Cd.ow_later w0_O.out hq)); (have Gx0_O := Lib.hid (Cd.ow_later x0_O.out hq)); (have GLx0 := Lib.hid (Lx0.out.later hq)); (have Gx1_O := Lib.hid (Cd.ow_later x1_O.out hq)); (have GLx1 := Lib.hid (Lx1.out.later hq)); (have Gg0_O := Lib.hid (Cd.ow_later g0_O.out hq)); (have GLg0 := Lib.hid (Lg0.out.later hq)); (have TO := Lib.hid tow); (have k0a := GLx1.out.c0); (have k0b := GLx1.out.c1); clear hbq hq tow tnd) | (go_simp; go_at_call 32; refine (eq_q r1 _ _ l1 _ _ wq (atomsC.ow_rd Gx1_O.out) (atomsC.ow_rd TO.out)).mono ?_; rintro e wp ⟨rfl, hq2⟩; (have hqz2 := hq2.size); (have KHB := Lib.hid (below_then GHB.out hq2)); (have KLB0 := Lib.hid (GLB0.out.later hq2)); (have KLB1 := Lib.hid (GLB1.out.later hq2)); (have KHR0 := Lib.hid (Cd.later GHR0.out hq2)); (have KHR1 := Lib.hid (Cd.later GHR1.out hq2)); (have KLw0 := Lib.hid (GLw0.out.later hq2)); (have Kw0_O := Lib.hid (Cd.ow_later Gw0_O.out hq2)); (have Kx0_O := Lib.hid (Cd.ow_later Gx0_O.out hq2)); (have KLx0 := Lib.hid (GLx0.out.later hq2)); (have Kx1_O := Lib.hid (Cd.ow_later Gx1_O.out hq2)); (have KLx1 := Lib.hid (GLx1.out.later hq2)); (have Kg0_O := Lib.hid (Cd.ow_later Gg0_O.out hq2)); (have KLg0 := Lib.hid (GLg0.out.later hq2)); clear hq2))
        all_goals
          go_wp2_with fail
          go_meet
          exact ⟨rfl, by omega, KHB.out, KLB0.out, KLB1.out, KHR0.out, KHR1.out, KLw0.out, Kw0_O.out, Kx0_O.out, KLx0.out, Kx1_O.out, KLx1.out, Kg0_O.out, KLg0.out⟩
      case rest =>
        obtain ⟨rfl, zW10, c_HB, c_LB0, c_LB1, c_HR0, c_HR1, c_Lw0, c_w0_O, c_x0_O, c_Lx0, c_x1_O, c_Lx1, c_g0_O, c_Lg0⟩ := hcut
        clear HB LB0 LB1 HR0 HR1 Lw0 w0_O x0_O Lx0 x1_O Lx1 g0_O Lg0
        have HB := Lib.hid c_HB
        have LB0 := Lib.hid c_LB0
        have LB1 := Lib.hid c_LB1
        have HR0 := Lib.hid c_HR0
        have HR1 := Lib.hid c_HR1
        have Lw0 := Lib.hid c_Lw0
        have w0_O := Lib.hid c_w0_O
        have x0_O := Lib.hid c_x0_O
        have Lx0 := Lib.hid c_Lx0
        have x1_O := Lib.hid c_x1_O
        have Lx1 := Lib.hid c_Lx1
        have g0_O := Lib.hid c_g0_O
        have Lg0 := Lib.hid c_Lg0
        clear c_HB c_LB0 c_LB1 c_HR0 c_HR1 c_Lw0 c_w0_O c_x0_O c_Lx0 c_x1_O c_Lx1 c_g0_O c_Lg0
        generalize wc = W10 at *
        have y0a := Lx0.out.c0
        have y0d := Lx0.out.lt
        go_wp2_with fail
        clear y0a y0d
        have HMK := Lib.hid (mark_db _ l0 _ (1) x0_f W10 x0_O.out x0_N.out (cnts_of HX0.out).1 (cnts_of HX0.out).2 (by omega) (by omega))
        obtain ⟨kk0, hkk0⟩ : ∃ kk, 1 + sumN cntT l0 = kk := ⟨_, rfl⟩
        have bkk0 : kk0 ≤ 4194309 ∧ 1 ≤ kk0 := by have := (show sumN cntT l0 ≤ 4194308 from (cnts_of HX0.out).1); omega
        rw [hkk0] at HMK
        have Hkk0 := Lib.hid hkk0
        clear hkk0
        refine HMK.out.mono ?_
        rintro e W11 ⟨rfl, x0_o, ht⟩
        have zW11 := ht.size
        replace HB := Lib.hid (Cd.Touch.below HB.out ht (fun b hb => by have := x0_B.out b hb; have := HB0.out; omega))
        replace LB0 := Lib.hid (LB0.out.touched ht (fun q => by have := x0_B.out _ q; have := HB0.out; omega))
        replace LB1 := Lib.hid (LB1.out.touched ht (fun q => by have := x0_B.out _ q; have := HB0.out; omega))
        replace HR0 := Lib.hid (Cd.touched HR0.out ht (fun b hb q => by have := x0_B.out b hb; have := HB0.out; omega))
        replace HR1 := Lib.hid (Cd.touched HR1.out ht (fun b hb q => by have := x0_B.out b hb; have := HB0.out; omega))
        replace Lw0 := Lib.hid (Lw0.out.touched ht (fun q => by have := x0_B.out _ q; have := HB0.out; omega))
        replace w0_O := Lib.hid (Cd.ow_touched w0_O.out ht (fun b hb q => by have := x0_B.out b q; have := w0_B.out b hb; omega))
        replace Lx0 := Lib.hid (Lx0.out.touched ht (fun q => by have := x0_B.out _ q; have := HB0.out; omega))
        replace x1_O := Lib.hid (Cd.ow_touched x1_O.out ht (fun b hb q => by have := x0_B.out b q; have := x1_B.out b hb; omega))
        replace Lx1 := Lib.hid (Lx1.out.touched ht (fun q => by have := x0_B.out _ q; have := HB0.out; omega))
        replace g0_O := Lib.hid (Cd.ow_touched g0_O.out ht (fun b hb q => by have := x0_B.out b q; have := g0_B.out b hb; omega))
        replace Lg0 := Lib.hid (Lg0.out.touched ht (fun q => by have := x0_B.out _ q; have := HB0.out; omega))
        have x0_M := Lib.hid x0_o
        clear x0_o ht
        have y0a := Lx1.out.c0
        have y0b := Lx1.out.c1
        have y0d := Lx1.out.lt
        go_wp2_with fail
        clear y0a y0b y0d
        have HMK := Lib.hid (mark_q r1 _ l1 _ (kk0) x1_f W11 x1_O.out x1_N.out (cntsA_of HX1.out).1 (cntsA_of HX1.out).2 (by omega) (by omega))
        obtain ⟨kk1, hkk1⟩ : ∃ kk, kk0 + sumN cntA l1 = kk := ⟨_, rfl⟩
        have bkk1 : kk1 ≤ 8388617 ∧ 1 ≤ kk1 := by have := (show sumN cntA l1 ≤ 4194308 from (cntsA_of HX1.out).1); omega
        rw [hkk1] at HMK
        have Hkk1 := Lib.hid hkk1
        clear hkk1
        refine HMK.out.mono ?_
        rintro e W12 ⟨rfl, x1_o, ht⟩
        have zW12 := ht.size
        replace HB := Lib.hid (Cd.Touch.below HB.out ht (fun b hb => by have := x1_B.out b hb; have := HB0.out; omega))
        replace LB0 := Lib.hid (LB0.out.touched ht (fun q => by have := x1_B.out _ q; have := HB0.out; omega))
        replace LB1 := Lib.hid (LB1.out.touched ht (fun q => by have := x1_B.out _ q; have := HB0.out; omega))
        replace HR0 := Lib.hid (Cd.touched HR0.out ht (fun b hb q => by have := x1_B.out b hb; have := HB0.out; omega))
        replace HR1 := Lib.hid (Cd.touched HR1.out ht (fun b hb q => by have := x1_B.out b hb; have := HB0.out; omega))
        replace Lw0 := Lib.hid (Lw0.out.touched ht (fun q => by have := x1_B.out _ q; have := HB0.out; omega))
        replace w0_O := Lib.hid (Cd.ow_touched w0_O.out ht (fun b hb q => by have := x1_B.out b q; have := w0_B.out b hb; omega))
        replace Lx0 := Lib.hid (Lx0.out.touched ht (fun q => by have := x1_B.out _ q; have := HB0.out; omega))
        replace Lx1 := Lib.hid (Lx1.out.touched ht (fun q => by have := x1_B.out _ q; have := HB0.out; omega))
        replace g0_O := Lib.hid (Cd.ow_touched g0_O.out ht (fun b hb q => by have := x1_B.out b q; have := g0_B.out b hb; omega))
        replace Lg0 := Lib.hid (Lg0.out.touched ht (fun q => by have := x1_B.out _ q; have := HB0.out; omega))
        replace x0_M := Lib.hid (Cd.ow_touched x0_M.out ht (fun b hb q => by have := x1_B.out b q; have := x0_B.out b hb; omega))
        have x1_M := Lib.hid x1_o
        clear x1_o ht
        have y0a := Lg0.out.c0
        have y0b := Lg0.out.c1
        have y0d := Lg0.out.lt
        have y1a := Lw0.out.c0
        have y1b := Lw0.out.c1
        have y1d := Lw0.out.lt
        go_wp2_with fail
        clear y0a y0b y0d y1a y1b y1d
        refine (eq_ans _ _ _ _ R0 Q0 _ _ W12 (ansC.ow_rd g0_O.out) (ansC.ow_rd w0_O.out)).mono ?_
        rintro e W13 ⟨rfl, hbx⟩
        replace HB := Lib.hid (below_then HB.out hbx)
        replace LB0 := Lib.hid (LB0.out.later hbx)
        replace LB1 := Lib.hid (LB1.out.later hbx)
        replace HR0 := Lib.hid (Cd.later HR0.out hbx)
        replace HR1 := Lib.hid (Cd.later HR1.out hbx)
        replace Lw0 := Lib.hid (Lw0.out.later hbx)
        replace w0_O := Lib.hid (Cd.ow_later w0_O.out hbx)
        replace Lx0 := Lib.hid (Lx0.out.later hbx)
        replace Lx1 := Lib.hid (Lx1.out.later hbx)
        replace g0_O := Lib.hid (Cd.ow_later g0_O.out hbx)
        replace Lg0 := Lib.hid (Lg0.out.later hbx)
        replace x0_M := Lib.hid (Cd.ow_later x0_M.out hbx)
        replace x1_M := Lib.hid (Cd.ow_later x1_M.out hbx)
        have zW13 := hbx.size
        clear hbx
        have y0a := Lg0.out.c0
        have y0b := Lg0.out.c1
        have y0d := Lg0.out.lt
        go_wp2_with fail
        clear y0a y0b y0d
        have HMK := Lib.hid (mark_ans _ _ R0 Q0 _ (1) g0_f W13 g0_O.out g0_N.out HW0.out (by omega))
        obtain ⟨mm, hmm⟩ : ∃ kk, 1 + (R0.length + Q0.flatten.length) = kk := ⟨_, rfl⟩
        have bmm : mm ≤ 1048578 := by have := (show (R0.length + Q0.flatten.length) ≤ 1048577 from HW0.out); omega
        rw [hmm] at HMK
        have Hmm := Lib.hid hmm
        clear hmm
        refine HMK.out.mono ?_
        rintro e W14 ⟨rfl, g0_o, ht⟩
        have zW14 := ht.size
        replace HB := Lib.hid (Cd.Touch.below HB.out ht (fun b hb => by have := g0_B.out b hb; have := HB0.out; omega))
        replace LB0 := Lib.hid (LB0.out.touched ht (fun q => by have := g0_B.out _ q; have := HB0.out; omega))
        replace LB1 := Lib.hid (LB1.out.touched ht (fun q => by have := g0_B.out _ q; have := HB0.out; omega))
        replace HR0 := Lib.hid (Cd.touched HR0.out ht (fun b hb q => by have := g0_B.out b hb; have := HB0.out; omega))
        replace HR1 := Lib.hid (Cd.touched HR1.out ht (fun b hb q => by have := g0_B.out b hb; have := HB0.out; omega))
        replace Lw0 := Lib.hid (Lw0.out.touched ht (fun q => by have := g0_B.out _ q; have := HB0.out; omega))
        replace w0_O := Lib.hid (Cd.ow_touched w0_O.out ht (fun b hb q => by have := g0_B.out b q; have := w0_B.out b hb; omega))
        replace Lx0 := Lib.hid (Lx0.out.touched ht (fun q => by have := g0_B.out _ q; have := HB0.out; omega))
        replace Lx1 := Lib.hid (Lx1.out.touched ht (fun q => by have := g0_B.out _ q; have := HB0.out; omega))
        replace Lg0 := Lib.hid (Lg0.out.touched ht (fun q => by have := g0_B.out _ q; have := HB0.out; omega))
        replace x0_M := Lib.hid (Cd.ow_touched x0_M.out ht (fun b hb q => by have := g0_B.out b q; have := x0_B.out b hb; omega))
        replace x1_M := Lib.hid (Cd.ow_touched x1_M.out ht (fun b hb q => by have := g0_B.out b q; have := x1_B.out b hb; omega))
        have g0_M := Lib.hid g0_o
        clear g0_o ht
        have y0a := Lg0.out.c0
        have y0b := Lg0.out.c1
        have y0d := Lg0.out.lt
        go_wp2_with fail
        clear y0a y0b y0d
        have HHD := Lib.hid (held_ans _ _ R0 Q0 _ 1 W14 (ansC.ow_rd g0_M.out) HW0.out (by omega))
        rw [Hmm.out] at HHD
        refine HHD.out.mono ?_
        rintro e W15 ⟨rfl, hbx⟩
        replace HB := Lib.hid (below_then HB.out hbx)
        replace LB0 := Lib.hid (LB0.out.later hbx)
        replace LB1 := Lib.hid (LB1.out.later hbx)
        replace HR0 := Lib.hid (Cd.later HR0.out hbx)
        replace HR1 := Lib.hid (Cd.later HR1.out hbx)
        replace Lw0 := Lib.hid (Lw0.out.later hbx)
        replace w0_O := Lib.hid (Cd.ow_later w0_O.out hbx)
        replace Lx0 := Lib.hid (Lx0.out.later hbx)
        replace Lx1 := Lib.hid (Lx1.out.later hbx)
        replace Lg0 := Lib.hid (Lg0.out.later hbx)
        replace x0_M := Lib.hid (Cd.ow_later x0_M.out hbx)
        replace x1_M := Lib.hid (Cd.ow_later x1_M.out hbx)
        replace g0_M := Lib.hid (Cd.ow_later g0_M.out hbx)
        have zW15 := hbx.size
        clear hbx
        have y0a := LB0.out.c0
        have y0d := LB0.out.lt
        have y1a := LB1.out.c0
        have y1b := LB1.out.c1
        have y1d := LB1.out.lt
        go_upto_region 31 with fail
        clear y0a y0d y1a y1b y1d
        go_cut [15, 16] (fun s15 s16 wx => ∃ (p_ : Nat) (a_ : Option Addr) (c_ : Nat) (b_ : Option Addr) (d_ : Nat) (f_ : List Nat), s15 = .pointer (some ⟨p_, 0, none⟩) ∧ s16 = .bool B1 ∧ W15.heap.size ≤ p_ ∧ p_ < wx.heap.size ∧ W15.heap.size ≤ wx.heap.size ∧ Loc2 wx p_ (.slice a_ R0.length c_) (.slice b_ Q0.length d_) ∧ ansC.ow wx W15.heap.size [.slice a_ R0.length c_, .slice b_ Q0.length d_] (R0, Q0) f_ ∧ f_.Nodup ∧ Below w.heap.size w wx ∧ Loc1 wx (w.heap.size) (.slice q0 l0.length c0) ∧ Loc2 wx (w.heap.size + 1) (.int .i64 r1) (.slice q1 l1.length c1) ∧ tabsC.rd wx (· < w.heap.size) [.slice q0 l0.length c0] l0 ∧ atomsC.rd wx (· < w.heap.size) [.slice q1 l1.length c1] l1 ∧ Loc2 wx (pw) (.slice w0_a R0.length w0_c) (.slice w0_b Q0.length w0_d) ∧ ansC.ow wx (W1z.heap.size) [.slice w0_a R0.length w0_c, .slice w0_b Q0.length w0_d] (R0, Q0) w0_f ∧ Loc1 wx (W2.heap.size) (.slice x0_a l0.length x0_c) ∧ Loc2 wx (W4.heap.size) (.int .i64 r1) (.slice x1_a l1.length x1_c) ∧ Loc2 wx (W6.heap.size) (.slice g0_a R0.length g0_c) (.slice g0_b Q0.length g0_d) ∧ tabsC.ow wx (W1.heap.size) [.slice x0_a l0.length x0_c] (mkS mkT cntT (1) l0) x0_f ∧ atomsC.ow wx (W3.heap.size) [.slice x1_a l1.length x1_c] (mkS mkA cntA (kk0) l1) x1_f ∧ ansC.ow wx (W5.heap.size) [.slice g0_a R0.length g0_c, .slice g0_b Q0.length g0_d] (marks (1 : Nat) R0.length, mrows (1 + R0.length) Q0) g0_f)
        case first =>
          have hd : Below W15.heap.size W15 W15.drew := Below.drew (Below.refl _ _)
          have u1 := Lib.hid (below_then HB.out hd)
          have u2 := Lib.hid (LB0.out.later hd)
          have u3 := Lib.hid (LB1.out.later hd)
          have u4 := Lib.hid (Cd.later HR0.out hd)
          have u5 := Lib.hid (Cd.later HR1.out hd)
          have u6 := Lib.hid (Lw0.out.later hd)
          have u7 := Lib.hid (Cd.ow_later w0_O.out hd)
          have u8 := Lib.hid (Lx0.out.later hd)
          have u9 := Lib.hid (Lx1.out.later hd)
          have u10 := Lib.hid (Lg0.out.later hd)
          have u11 := Lib.hid (Cd.ow_later x0_M.out hd)
          have u12 := Lib.hid (Cd.ow_later x1_M.out hd)
          have u13 := Lib.hid (Cd.ow_later g0_M.out hd)
          have szd := hd.size
          refine wp_region_held_drew (S := fun wx => Loc1 wx (w.heap.size) (.slice q0 l0.length c0) ∧ Loc2 wx (w.heap.size + 1) (.int .i64 r1) (.slice q1 l1.length c1)) (by kernel_rfl) ?_ (fun hHeld => ?_)
          · exact ⟨u2.out, u3.out⟩
          clear hd
          generalize World.drew W15 = wyd at *
          refine RegH.takeH (i := 0) (v := ?_) rfl (by kernel_rfl) (by kernel_rfl) (by kernel_rfl) (fun _ _ _ h => h) (Or.inl ⟨by rfl, ?_⟩) (by assumption) ?_
          rotate_left
          · (intro wS hSw; (try dsimp only at hSw); (obtain ⟨s_LB0, s_LB1⟩ := hSw); (have r0a := s_LB0.c0); (have r1a := s_LB1.c0); (have r1b := s_LB1.c1); go_simp; try (with_reducible rfl))
          try simp only [Act.put, List.setIfInBounds_toArray, List.set_cons_zero, List.set_cons_succ]
          refine RegH.takeH (i := 2) (v := ?_) rfl (by kernel_rfl) (by kernel_rfl) (by kernel_rfl) (fun _ _ _ h => h) (Or.inl ⟨by rfl, ?_⟩) (by assumption) ?_
          rotate_left
          · (intro wS hSw; (try dsimp only at hSw); (obtain ⟨s_LB0, s_LB1⟩ := hSw); (have r0a := s_LB0.c0); (have r1a := s_LB1.c0); (have r1b := s_LB1.c1); go_simp; try (with_reducible rfl))
          try simp only [Act.put, List.setIfInBounds_toArray, List.set_cons_zero, List.set_cons_succ]
          refine RegH.consH2 (i := 1) (j := 8) rfl rfl (by kernel_rfl) (fun K hK => ?_) (fun K hK => ?_)
          · skip
            go_simp
            go_at_call 28
            refine (to_db _ l0 _ wyd u4.out (by have := HX0.out; omega)).mono ?_
            rintro e wy14 ⟨tv0, tf0, rfl, tow, tnd, hq⟩
            have u15 := Lib.hid (below_then u1.out hq)
            have u16 := Lib.hid (u2.out.later hq)
            have u17 := Lib.hid (u3.out.later hq)
            have u18 := Lib.hid (Cd.later u4.out hq)
            have u19 := Lib.hid (Cd.later u5.out hq)
            have u20 := Lib.hid (u6.out.later hq)
            have u21 := Lib.hid (Cd.ow_later u7.out hq)
            have u22 := Lib.hid (u8.out.later hq)
            have u23 := Lib.hid (u9.out.later hq)
            have u24 := Lib.hid (u10.out.later hq)
            have u25 := Lib.hid (Cd.ow_later u11.out hq)
            have u26 := Lib.hid (Cd.ow_later u12.out hq)
            have u27 := Lib.hid (Cd.ow_later u13.out hq)
            have szwy14 := hq.size
            have v28 := Lib.hid tow
            clear hq tow tnd
            (try go_wp2_with fail)
            refine hK.out _ _ ?_ (fun hHeld => ?_)
            · exact ⟨u16.out, u17.out⟩
            clear hK K
            try simp only [Act.put, List.setIfInBounds_toArray, List.set_cons_zero, List.set_cons_succ]
            refine RegH.consH2 (i := 3) (j := 8) rfl rfl (by kernel_rfl) (fun K hK => ?_) (fun K hK => ?_)
            · skip
              go_simp
              go_at_call 29
              refine (to_q r1 _ l1 _ wy14 u19.out (by have := HX1.out; omega)).mono ?_
              rintro e wy29 ⟨tv1, tf1, rfl, tow, tnd, hq⟩
              have u30 := Lib.hid (below_then u15.out hq)
              have u31 := Lib.hid (u16.out.later hq)
              have u32 := Lib.hid (u17.out.later hq)
              have u33 := Lib.hid (Cd.later u18.out hq)
              have u34 := Lib.hid (Cd.later u19.out hq)
              have u35 := Lib.hid (u20.out.later hq)
              have u36 := Lib.hid (Cd.ow_later u21.out hq)
              have u37 := Lib.hid (u22.out.later hq)
              have u38 := Lib.hid (u23.out.later hq)
              have u39 := Lib.hid (u24.out.later hq)
              have u40 := Lib.hid (Cd.ow_later u25.out hq)
              have u41 := Lib.hid (Cd.ow_later u26.out hq)
              have u42 := Lib.hid (Cd.ow_later u27.out hq)
              have v43 := Lib.hid (Cd.ow_later v28.out hq)
              have szwy29 := hq.size
              have v44 := Lib.hid tow
              clear hq tow tnd
              (try go_wp2_with fail)
              refine hK.out _ _ ?_ (fun hHeld => ?_)
              · exact ⟨u31.out, u32.out⟩
              clear hK K
              try simp only [Act.put, List.setIfInBounds_toArray, List.set_cons_zero, List.set_cons_succ]
              refine RegH.consH2 (i := 4) (j := 8) rfl rfl (by kernel_rfl) (fun K hK => ?_) (fun K hK => ?_)
              · skip
                go_simp
                go_at_call 22
                refine (HIh.out HX0.out HX1.out _ _ _ _ wy29 (tabsC.ow_rd v43.out) (atomsC.ow_rd v44.out)).mono ?_
                rintro e wy45 ⟨ru, rz, rf, rfl, tow, tnd, hq⟩
                obtain ⟨ra, rc, rb, rd, rfl, rfl⟩ := ans_shape tow
                have u46 := Lib.hid (below_then u30.out hq)
                have u47 := Lib.hid (u31.out.later hq)
                have u48 := Lib.hid (u32.out.later hq)
                have u49 := Lib.hid (Cd.later u33.out hq)
                have u50 := Lib.hid (Cd.later u34.out hq)
                have u51 := Lib.hid (u35.out.later hq)
                have u52 := Lib.hid (Cd.ow_later u36.out hq)
                have u53 := Lib.hid (u37.out.later hq)
                have u54 := Lib.hid (u38.out.later hq)
                have u55 := Lib.hid (u39.out.later hq)
                have u56 := Lib.hid (Cd.ow_later u40.out hq)
                have u57 := Lib.hid (Cd.ow_later u41.out hq)
                have u58 := Lib.hid (Cd.ow_later u42.out hq)
                have szwy45 := hq.size
                have v59 := Lib.hid tow
                have HRN := Lib.hid tnd
                have HRL := Lib.hid (bound_of tow)
                clear hq tow tnd
                (try go_wp2_with fail)
                refine hK.out _ _ ?_ (fun hHeld => ?_)
                · exact ⟨u47.out, u48.out⟩
                clear hK K
                try simp only [Act.put, List.setIfInBounds_toArray, List.set_cons_zero, List.set_cons_succ]
                refine RegH.takeH (i := 5) (v := ?_) rfl (by kernel_rfl) (by kernel_rfl) (by kernel_rfl) (fun _ _ _ h => h) (Or.inl ⟨by rfl, ?_⟩) (by assumption) ?_
                rotate_left
                · (intro wS hSw; (try dsimp only at hSw); (obtain ⟨s_LB0, s_LB1⟩ := hSw); (have r0a := s_LB0.c0); (have r1a := s_LB1.c0); (have r1b := s_LB1.c1); go_simp; try (with_reducible rfl))
                try simp only [Act.put, List.setIfInBounds_toArray, List.set_cons_zero, List.set_cons_succ]
                refine RegH.takeH (i := 6) (v := ?_) rfl (by kernel_rfl) (by kernel_rfl) (by kernel_rfl) (fun _ _ _ h => h) (Or.inl ⟨by rfl, ?_⟩) (by assumption) ?_
                rotate_left
                · (intro wS hSw; (try dsimp only at hSw); (obtain ⟨s_LB0, s_LB1⟩ := hSw); (have r0a := s_LB0.c0); (have r1a := s_LB1.c0); (have r1b := s_LB1.c1); go_simp; try (with_reducible rfl))
                try simp only [Act.put, List.setIfInBounds_toArray, List.set_cons_zero, List.set_cons_succ]
                refine RegH.takeH (i := 7) (v := ?_) rfl (by kernel_rfl) (by kernel_rfl) (by kernel_rfl) (fun _ _ _ h => h) (Or.inl ⟨by rfl, ?_⟩) (by assumption) ?_
                rotate_left
                · (intro wS hSw; (try dsimp only at hSw); (obtain ⟨s_LB0, s_LB1⟩ := hSw); (have r0a := s_LB0.c0); (have r1a := s_LB1.c0); (have r1b := s_LB1.c1); go_simp; try (with_reducible rfl))
                try simp only [Act.put, List.setIfInBounds_toArray, List.set_cons_zero, List.set_cons_succ]
                refine RegH.consH (i := 8) rfl (by kernel_rfl) (fun K hK => ?_)
                go_simp
                generalize hg : World.alloc wy45 _ = wy60
                obtain ⟨rg, zzwy60, hq⟩ := start1 wy45 _ hg
                clear hg
                have u61 := Lib.hid (below_then u46.out hq)
                have u62 := Lib.hid (u47.out.later hq)
                have u63 := Lib.hid (u48.out.later hq)
                have u64 := Lib.hid (Cd.later u49.out hq)
                have u65 := Lib.hid (Cd.later u50.out hq)
                have u66 := Lib.hid (u51.out.later hq)
                have u67 := Lib.hid (Cd.ow_later u52.out hq)
                have u68 := Lib.hid (u53.out.later hq)
                have u69 := Lib.hid (u54.out.later hq)
                have u70 := Lib.hid (u55.out.later hq)
                have u71 := Lib.hid (Cd.ow_later u56.out hq)
                have u72 := Lib.hid (Cd.ow_later u57.out hq)
                have u73 := Lib.hid (Cd.ow_later u58.out hq)
                have v74 := Lib.hid (Cd.ow_later v59.out hq)
                have szwy60 := hq.size
                have g75 := Lib.hid (Loc2.of rg)
                clear hq rg
                refine hK.out _ _ ?_ (fun hHeld => ?_)
                · exact ⟨u62.out, u63.out⟩
                clear hK K
                try simp only [Act.put, List.setIfInBounds_toArray, List.set_cons_zero, List.set_cons_succ]
                have k1 := g75.out.c0
                have k2 := g75.out.f0
                have k3 := g75.out.c1
                have k4 := g75.out.f1
                refine RegH.consH (i := 9) rfl (by kernel_rfl) (fun K hK => ?_)
                go_simp
                have ht : Cd.Touch [wy45.heap.size] wy60 (World.setCell (World.setCell wy60 ⟨wy45.heap.size, 0, none⟩ (.slice ra R0.length rc)) ⟨wy45.heap.size, 1, none⟩ (.slice rb Q0.length rd)) := ⟨rfl, rfl, rfl, by simp, fun k hk hn => (Below.heap_setCell _ _ _ k (by simpa using hn)).trans (Below.heap_setCell _ _ _ k (by simpa using hn))⟩
                have u77 := Lib.hid (Cd.Touch.below u61.out ht (fun b hb => by rw [List.mem_singleton.1 hb]; have := HB0.out; omega))
                have u78 := Lib.hid (u62.out.touched ht (by have := HB0.out; have := hz0; simp; omega))
                have u79 := Lib.hid (u63.out.touched ht (by have := HB0.out; have := hz0; simp; omega))
                have u80 := Lib.hid (Cd.touched u64.out ht (fun b hb q => by rw [List.mem_singleton.1 hb] at q; have := HB0.out; omega))
                have u81 := Lib.hid (Cd.touched u65.out ht (fun b hb q => by rw [List.mem_singleton.1 hb] at q; have := HB0.out; omega))
                have u82 := Lib.hid (u66.out.touched ht (by have := HB0.out; have := hz0; simp; omega))
                have u83 := Lib.hid (Cd.ow_touched u67.out ht (fun b hb q => by rw [List.mem_singleton.1 q] at hb; have := (w0_B.out _ hb).2; omega))
                have u84 := Lib.hid (u68.out.touched ht (by have := HB0.out; have := hz0; simp; omega))
                have u85 := Lib.hid (u69.out.touched ht (by have := HB0.out; have := hz0; simp; omega))
                have u86 := Lib.hid (u70.out.touched ht (by have := HB0.out; have := hz0; simp; omega))
                have u87 := Lib.hid (Cd.ow_touched u71.out ht (fun b hb q => by rw [List.mem_singleton.1 q] at hb; have := (x0_B.out _ hb).2; omega))
                have u88 := Lib.hid (Cd.ow_touched u72.out ht (fun b hb q => by rw [List.mem_singleton.1 q] at hb; have := (x1_B.out _ hb).2; omega))
                have u89 := Lib.hid (Cd.ow_touched u73.out ht (fun b hb q => by rw [List.mem_singleton.1 q] at hb; have := (g0_B.out _ hb).2; omega))
                have GF := Lib.hid (MkAns.set_both g75.out (.slice ra R0.length rc) (.slice rb Q0.length rd))
                have OF := Lib.hid (ow_setCell (c := ansC) (p := ⟨wy45.heap.size, 1, none⟩) (ow_setCell (c := ansC) (p := ⟨wy45.heap.size, 0, none⟩) v74.out (fun q => by have := HRL.out _ q; simp only at this; omega) (.slice ra R0.length rc)) (fun q => by have := HRL.out _ q; simp only at this; omega) (.slice rb Q0.length rd))
                have SF : (World.setCell (World.setCell wy60 ⟨wy45.heap.size, 0, none⟩ (.slice ra R0.length rc)) ⟨wy45.heap.size, 1, none⟩ (.slice rb Q0.length rd)).heap.size = wy60.heap.size := by simp
                clear ht k1 k2 k3 k4
                generalize World.setCell (World.setCell wy60 ⟨wy45.heap.size, 0, none⟩ (.slice ra R0.length rc)) ⟨wy45.heap.size, 1, none⟩ (.slice rb Q0.length rd) = wy76 at *
                refine hK.out _ _ ?_ (fun hHeld => ?_)
                · exact ⟨u78.out, u79.out⟩
                clear hK K
                try simp only [Act.put, List.setIfInBounds_toArray, List.set_cons_zero, List.set_cons_succ]
                refine RegH.takeH (i := 10) (v := ?_) rfl (by kernel_rfl) (by kernel_rfl) (by kernel_rfl) (fun _ _ _ h => h) (Or.inl ⟨by rfl, ?_⟩) (by assumption) ?_
                rotate_left
                · (intro wS hSw; (try dsimp only at hSw); (obtain ⟨s_LB0, s_LB1⟩ := hSw); (have r0a := s_LB0.c0); (have r1a := s_LB1.c0); (have r1b := s_LB1.c1); go_simp; try (with_reducible rfl))
                try simp only [Act.put, List.setIfInBounds_toArray, List.set_cons_zero, List.set_cons_succ]
                refine wpAnyH_done (by kernel_rfl) ?_ _
                go_wp2_with fail
                go_meet
                exact ⟨wy45.heap.size, ra, rc, rb, rd, rf, rfl, rfl, by omega, by omega, by omega, GF.out, ansC.ow_base OF.out (by omega), HRN.out, u77.out, u78.out, u79.out, u80.out, u81.out, u82.out, u83.out, u84.out, u85.out, u86.out, u87.out, u88.out, u89.out⟩
              · skip
                go_simp
                generalize hg : World.alloc wy29 _ = wy90
                obtain ⟨rg, zzwy90, hq⟩ := start1 wy29 _ hg
                clear hg
                have u91 := Lib.hid (below_then u30.out hq)
                have u92 := Lib.hid (u31.out.later hq)
                have u93 := Lib.hid (u32.out.later hq)
                have u94 := Lib.hid (Cd.later u33.out hq)
                have u95 := Lib.hid (Cd.later u34.out hq)
                have u96 := Lib.hid (u35.out.later hq)
                have u97 := Lib.hid (Cd.ow_later u36.out hq)
                have u98 := Lib.hid (u37.out.later hq)
                have u99 := Lib.hid (u38.out.later hq)
                have u100 := Lib.hid (u39.out.later hq)
                have u101 := Lib.hid (Cd.ow_later u40.out hq)
                have u102 := Lib.hid (Cd.ow_later u41.out hq)
                have u103 := Lib.hid (Cd.ow_later u42.out hq)
                have v104 := Lib.hid (Cd.ow_later v43.out hq)
                have v105 := Lib.hid (Cd.ow_later v44.out hq)
                have szwy90 := hq.size
                have g106 := Lib.hid (Loc2.of rg)
                clear hq rg
                refine hK.out _ _ ?_ (fun hHeld => ?_)
                · exact ⟨u92.out, u93.out⟩
                clear hK K
                try simp only [Act.put, List.setIfInBounds_toArray, List.set_cons_zero, List.set_cons_succ]
                refine RegH.consH (i := 4) rfl (by kernel_rfl) (fun K hK => ?_)
                go_simp
                go_at_call 22
                refine (HIh.out HX0.out HX1.out _ _ _ _ wy90 (tabsC.ow_rd v104.out) (atomsC.ow_rd v105.out)).mono ?_
                rintro e wy107 ⟨ru, rz, rf, rfl, tow, tnd, hq⟩
                obtain ⟨ra, rc, rb, rd, rfl, rfl⟩ := ans_shape tow
                have u108 := Lib.hid (below_then u91.out hq)
                have u109 := Lib.hid (u92.out.later hq)
                have u110 := Lib.hid (u93.out.later hq)
                have u111 := Lib.hid (Cd.later u94.out hq)
                have u112 := Lib.hid (Cd.later u95.out hq)
                have u113 := Lib.hid (u96.out.later hq)
                have u114 := Lib.hid (Cd.ow_later u97.out hq)
                have u115 := Lib.hid (u98.out.later hq)
                have u116 := Lib.hid (u99.out.later hq)
                have u117 := Lib.hid (u100.out.later hq)
                have u118 := Lib.hid (Cd.ow_later u101.out hq)
                have u119 := Lib.hid (Cd.ow_later u102.out hq)
                have u120 := Lib.hid (Cd.ow_later u103.out hq)
                have g121 := Lib.hid (g106.out.later hq)
                have szwy107 := hq.size
                have v122 := Lib.hid tow
                have HRN := Lib.hid tnd
                have HRL := Lib.hid (bound_of tow)
                clear hq tow tnd
                (try go_wp2_with fail)
                refine hK.out _ _ ?_ (fun hHeld => ?_)
                · exact ⟨u109.out, u110.out⟩
                clear hK K
                try simp only [Act.put, List.setIfInBounds_toArray, List.set_cons_zero, List.set_cons_succ]
                refine RegH.takeH (i := 5) (v := ?_) rfl (by kernel_rfl) (by kernel_rfl) (by kernel_rfl) (fun _ _ _ h => h) (Or.inl ⟨by rfl, ?_⟩) (by assumption) ?_
                rotate_left
                · (intro wS hSw; (try dsimp only at hSw); (obtain ⟨s_LB0, s_LB1⟩ := hSw); (have r0a := s_LB0.c0); (have r1a := s_LB1.c0); (have r1b := s_LB1.c1); go_simp; try (with_reducible rfl))
                try simp only [Act.put, List.setIfInBounds_toArray, List.set_cons_zero, List.set_cons_succ]
                refine RegH.takeH (i := 6) (v := ?_) rfl (by kernel_rfl) (by kernel_rfl) (by kernel_rfl) (fun _ _ _ h => h) (Or.inl ⟨by rfl, ?_⟩) (by assumption) ?_
                rotate_left
                · (intro wS hSw; (try dsimp only at hSw); (obtain ⟨s_LB0, s_LB1⟩ := hSw); (have r0a := s_LB0.c0); (have r1a := s_LB1.c0); (have r1b := s_LB1.c1); go_simp; try (with_reducible rfl))
                try simp only [Act.put, List.setIfInBounds_toArray, List.set_cons_zero, List.set_cons_succ]
                refine RegH.takeH (i := 7) (v := ?_) rfl (by kernel_rfl) (by kernel_rfl) (by kernel_rfl) (fun _ _ _ h => h) (Or.inl ⟨by rfl, ?_⟩) (by assumption) ?_
                rotate_left
                · (intro wS hSw; (try dsimp only at hSw); (obtain ⟨s_LB0, s_LB1⟩ := hSw); (have r0a := s_LB0.c0); (have r1a := s_LB1.c0); (have r1b := s_LB1.c1); go_simp; try (with_reducible rfl))
                try simp only [Act.put, List.setIfInBounds_toArray, List.set_cons_zero, List.set_cons_succ]
                have k1 := g121.out.c0
                have k2 := g121.out.f0
                have k3 := g121.out.c1
                have k4 := g121.out.f1
                refine RegH.consH (i := 9) rfl (by kernel_rfl) (fun K hK => ?_)
                go_simp
                have ht : Cd.Touch [wy29.heap.size] wy107 (World.setCell (World.setCell wy107 ⟨wy29.heap.size, 0, none⟩ (.slice ra R0.length rc)) ⟨wy29.heap.size, 1, none⟩ (.slice rb Q0.length rd)) := ⟨rfl, rfl, rfl, by simp, fun k hk hn => (Below.heap_setCell _ _ _ k (by simpa using hn)).trans (Below.heap_setCell _ _ _ k (by simpa using hn))⟩
                have u124 := Lib.hid (Cd.Touch.below u108.out ht (fun b hb => by rw [List.mem_singleton.1 hb]; have := HB0.out; omega))
                have u125 := Lib.hid (u109.out.touched ht (by have := HB0.out; have := hz0; simp; omega))
                have u126 := Lib.hid (u110.out.touched ht (by have := HB0.out; have := hz0; simp; omega))
                have u127 := Lib.hid (Cd.touched u111.out ht (fun b hb q => by rw [List.mem_singleton.1 hb] at q; have := HB0.out; omega))
                have u128 := Lib.hid (Cd.touched u112.out ht (fun b hb q => by rw [List.mem_singleton.1 hb] at q; have := HB0.out; omega))
                have u129 := Lib.hid (u113.out.touched ht (by have := HB0.out; have := hz0; simp; omega))
                have u130 := Lib.hid (Cd.ow_touched u114.out ht (fun b hb q => by rw [List.mem_singleton.1 q] at hb; have := (w0_B.out _ hb).2; omega))
                have u131 := Lib.hid (u115.out.touched ht (by have := HB0.out; have := hz0; simp; omega))
                have u132 := Lib.hid (u116.out.touched ht (by have := HB0.out; have := hz0; simp; omega))
                have u133 := Lib.hid (u117.out.touched ht (by have := HB0.out; have := hz0; simp; omega))
                have u134 := Lib.hid (Cd.ow_touched u118.out ht (fun b hb q => by rw [List.mem_singleton.1 q] at hb; have := (x0_B.out _ hb).2; omega))
                have u135 := Lib.hid (Cd.ow_touched u119.out ht (fun b hb q => by rw [List.mem_singleton.1 q] at hb; have := (x1_B.out _ hb).2; omega))
                have u136 := Lib.hid (Cd.ow_touched u120.out ht (fun b hb q => by rw [List.mem_singleton.1 q] at hb; have := (g0_B.out _ hb).2; omega))
                have GF := Lib.hid (MkAns.set_both g121.out (.slice ra R0.length rc) (.slice rb Q0.length rd))
                have OF := Lib.hid (ow_setCell (c := ansC) (p := ⟨wy29.heap.size, 1, none⟩) (ow_setCell (c := ansC) (p := ⟨wy29.heap.size, 0, none⟩) v122.out (fun q => by have := HRL.out _ q; simp only at this; omega) (.slice ra R0.length rc)) (fun q => by have := HRL.out _ q; simp only at this; omega) (.slice rb Q0.length rd))
                have SF : (World.setCell (World.setCell wy107 ⟨wy29.heap.size, 0, none⟩ (.slice ra R0.length rc)) ⟨wy29.heap.size, 1, none⟩ (.slice rb Q0.length rd)).heap.size = wy107.heap.size := by simp
                clear ht k1 k2 k3 k4
                generalize World.setCell (World.setCell wy107 ⟨wy29.heap.size, 0, none⟩ (.slice ra R0.length rc)) ⟨wy29.heap.size, 1, none⟩ (.slice rb Q0.length rd) = wy123 at *
                refine hK.out _ _ ?_ (fun hHeld => ?_)
                · exact ⟨u125.out, u126.out⟩
                clear hK K
                try simp only [Act.put, List.setIfInBounds_toArray, List.set_cons_zero, List.set_cons_succ]
                refine RegH.takeH (i := 10) (v := ?_) rfl (by kernel_rfl) (by kernel_rfl) (by kernel_rfl) (fun _ _ _ h => h) (Or.inl ⟨by rfl, ?_⟩) (by assumption) ?_
                rotate_left
                · (intro wS hSw; (try dsimp only at hSw); (obtain ⟨s_LB0, s_LB1⟩ := hSw); (have r0a := s_LB0.c0); (have r1a := s_LB1.c0); (have r1b := s_LB1.c1); go_simp; try (with_reducible rfl))
                try simp only [Act.put, List.setIfInBounds_toArray, List.set_cons_zero, List.set_cons_succ]
                refine wpAnyH_done (by kernel_rfl) ?_ _
                go_wp2_with fail
                go_meet
                exact ⟨wy29.heap.size, ra, rc, rb, rd, rf, rfl, rfl, by omega, by omega, by omega, GF.out, ansC.ow_base OF.out (by omega), HRN.out, u124.out, u125.out, u126.out, u127.out, u128.out, u129.out, u130.out, u131.out, u132.out, u133.out, u134.out, u135.out, u136.out⟩
            · skip
              go_simp
              generalize hg : World.alloc wy14 _ = wy137
              obtain ⟨rg, zzwy137, hq⟩ := start1 wy14 _ hg
              clear hg
              have u138 := Lib.hid (below_then u15.out hq)
              have u139 := Lib.hid (u16.out.later hq)
              have u140 := Lib.hid (u17.out.later hq)
              have u141 := Lib.hid (Cd.later u18.out hq)
              have u142 := Lib.hid (Cd.later u19.out hq)
              have u143 := Lib.hid (u20.out.later hq)
              have u144 := Lib.hid (Cd.ow_later u21.out hq)
              have u145 := Lib.hid (u22.out.later hq)
              have u146 := Lib.hid (u23.out.later hq)
              have u147 := Lib.hid (u24.out.later hq)
              have u148 := Lib.hid (Cd.ow_later u25.out hq)
              have u149 := Lib.hid (Cd.ow_later u26.out hq)
              have u150 := Lib.hid (Cd.ow_later u27.out hq)
              have v151 := Lib.hid (Cd.ow_later v28.out hq)
              have szwy137 := hq.size
              have g152 := Lib.hid (Loc2.of rg)
              clear hq rg
              refine hK.out _ _ ?_ (fun hHeld => ?_)
              · exact ⟨u139.out, u140.out⟩
              clear hK K
              try simp only [Act.put, List.setIfInBounds_toArray, List.set_cons_zero, List.set_cons_succ]
              refine RegH.consH (i := 3) rfl (by kernel_rfl) (fun K hK => ?_)
              go_simp
              go_at_call 29
              refine (to_q r1 _ l1 _ wy137 u142.out (by have := HX1.out; omega)).mono ?_
              rintro e wy153 ⟨tv1, tf1, rfl, tow, tnd, hq⟩
              have u154 := Lib.hid (below_then u138.out hq)
              have u155 := Lib.hid (u139.out.later hq)
              have u156 := Lib.hid (u140.out.later hq)
              have u157 := Lib.hid (Cd.later u141.out hq)
              have u158 := Lib.hid (Cd.later u142.out hq)
              have u159 := Lib.hid (u143.out.later hq)
              have u160 := Lib.hid (Cd.ow_later u144.out hq)
              have u161 := Lib.hid (u145.out.later hq)
              have u162 := Lib.hid (u146.out.later hq)
              have u163 := Lib.hid (u147.out.later hq)
              have u164 := Lib.hid (Cd.ow_later u148.out hq)
              have u165 := Lib.hid (Cd.ow_later u149.out hq)
              have u166 := Lib.hid (Cd.ow_later u150.out hq)
              have v167 := Lib.hid (Cd.ow_later v151.out hq)
              have g168 := Lib.hid (g152.out.later hq)
              have szwy153 := hq.size
              have v169 := Lib.hid tow
              clear hq tow tnd
              (try go_wp2_with fail)
              refine hK.out _ _ ?_ (fun hHeld => ?_)
              · exact ⟨u155.out, u156.out⟩
              clear hK K
              try simp only [Act.put, List.setIfInBounds_toArray, List.set_cons_zero, List.set_cons_succ]
              refine RegH.consH (i := 4) rfl (by kernel_rfl) (fun K hK => ?_)
              go_simp
              go_at_call 22
              refine (HIh.out HX0.out HX1.out _ _ _ _ wy153 (tabsC.ow_rd v167.out) (atomsC.ow_rd v169.out)).mono ?_
              rintro e wy170 ⟨ru, rz, rf, rfl, tow, tnd, hq⟩
              obtain ⟨ra, rc, rb, rd, rfl, rfl⟩ := ans_shape tow
              have u171 := Lib.hid (below_then u154.out hq)
              have u172 := Lib.hid (u155.out.later hq)
              have u173 := Lib.hid (u156.out.later hq)
              have u174 := Lib.hid (Cd.later u157.out hq)
              have u175 := Lib.hid (Cd.later u158.out hq)
              have u176 := Lib.hid (u159.out.later hq)
              have u177 := Lib.hid (Cd.ow_later u160.out hq)
              have u178 := Lib.hid (u161.out.later hq)
              have u179 := Lib.hid (u162.out.later hq)
              have u180 := Lib.hid (u163.out.later hq)
              have u181 := Lib.hid (Cd.ow_later u164.out hq)
              have u182 := Lib.hid (Cd.ow_later u165.out hq)
              have u183 := Lib.hid (Cd.ow_later u166.out hq)
              have g184 := Lib.hid (g168.out.later hq)
              have szwy170 := hq.size
              have v185 := Lib.hid tow
              have HRN := Lib.hid tnd
              have HRL := Lib.hid (bound_of tow)
              clear hq tow tnd
              (try go_wp2_with fail)
              refine hK.out _ _ ?_ (fun hHeld => ?_)
              · exact ⟨u172.out, u173.out⟩
              clear hK K
              try simp only [Act.put, List.setIfInBounds_toArray, List.set_cons_zero, List.set_cons_succ]
              refine RegH.takeH (i := 5) (v := ?_) rfl (by kernel_rfl) (by kernel_rfl) (by kernel_rfl) (fun _ _ _ h => h) (Or.inl ⟨by rfl, ?_⟩) (by assumption) ?_
              rotate_left
              · (intro wS hSw; (try dsimp only at hSw); (obtain ⟨s_LB0, s_LB1⟩ := hSw); (have r0a := s_LB0.c0); (have r1a := s_LB1.c0); (have r1b := s_LB1.c1); go_simp; try (with_reducible rfl))
              try simp only [Act.put, List.setIfInBounds_toArray, List.set_cons_zero, List.set_cons_succ]
              refine RegH.takeH (i := 6) (v := ?_) rfl (by kernel_rfl) (by kernel_rfl) (by kernel_rfl) (fun _ _ _ h => h) (Or.inl ⟨by rfl, ?_⟩) (by assumption) ?_
              rotate_left
              · (intro wS hSw; (try dsimp only at hSw); (obtain ⟨s_LB0, s_LB1⟩ := hSw); (have r0a := s_LB0.c0); (have r1a := s_LB1.c0); (have r1b := s_LB1.c1); go_simp; try (with_reducible rfl))
              try simp only [Act.put, List.setIfInBounds_toArray, List.set_cons_zero, List.set_cons_succ]
              refine RegH.takeH (i := 7) (v := ?_) rfl (by kernel_rfl) (by kernel_rfl) (by kernel_rfl) (fun _ _ _ h => h) (Or.inl ⟨by rfl, ?_⟩) (by assumption) ?_
              rotate_left
              · (intro wS hSw; (try dsimp only at hSw); (obtain ⟨s_LB0, s_LB1⟩ := hSw); (have r0a := s_LB0.c0); (have r1a := s_LB1.c0); (have r1b := s_LB1.c1); go_simp; try (with_reducible rfl))
              try simp only [Act.put, List.setIfInBounds_toArray, List.set_cons_zero, List.set_cons_succ]
              have k1 := g184.out.c0
              have k2 := g184.out.f0
              have k3 := g184.out.c1
              have k4 := g184.out.f1
              refine RegH.consH (i := 9) rfl (by kernel_rfl) (fun K hK => ?_)
              go_simp
              have ht : Cd.Touch [wy14.heap.size] wy170 (World.setCell (World.setCell wy170 ⟨wy14.heap.size, 0, none⟩ (.slice ra R0.length rc)) ⟨wy14.heap.size, 1, none⟩ (.slice rb Q0.length rd)) := ⟨rfl, rfl, rfl, by simp, fun k hk hn => (Below.heap_setCell _ _ _ k (by simpa using hn)).trans (Below.heap_setCell _ _ _ k (by simpa using hn))⟩
              have u187 := Lib.hid (Cd.Touch.below u171.out ht (fun b hb => by rw [List.mem_singleton.1 hb]; have := HB0.out; omega))
              have u188 := Lib.hid (u172.out.touched ht (by have := HB0.out; have := hz0; simp; omega))
              have u189 := Lib.hid (u173.out.touched ht (by have := HB0.out; have := hz0; simp; omega))
              have u190 := Lib.hid (Cd.touched u174.out ht (fun b hb q => by rw [List.mem_singleton.1 hb] at q; have := HB0.out; omega))
              have u191 := Lib.hid (Cd.touched u175.out ht (fun b hb q => by rw [List.mem_singleton.1 hb] at q; have := HB0.out; omega))
              have u192 := Lib.hid (u176.out.touched ht (by have := HB0.out; have := hz0; simp; omega))
              have u193 := Lib.hid (Cd.ow_touched u177.out ht (fun b hb q => by rw [List.mem_singleton.1 q] at hb; have := (w0_B.out _ hb).2; omega))
              have u194 := Lib.hid (u178.out.touched ht (by have := HB0.out; have := hz0; simp; omega))
              have u195 := Lib.hid (u179.out.touched ht (by have := HB0.out; have := hz0; simp; omega))
              have u196 := Lib.hid (u180.out.touched ht (by have := HB0.out; have := hz0; simp; omega))
              have u197 := Lib.hid (Cd.ow_touched u181.out ht (fun b hb q => by rw [List.mem_singleton.1 q] at hb; have := (x0_B.out _ hb).2; omega))
              have u198 := Lib.hid (Cd.ow_touched u182.out ht (fun b hb q => by rw [List.mem_singleton.1 q] at hb; have := (x1_B.out _ hb).2; omega))
              have u199 := Lib.hid (Cd.ow_touched u183.out ht (fun b hb q => by rw [List.mem_singleton.1 q] at hb; have := (g0_B.out _ hb).2; omega))
              have GF := Lib.hid (MkAns.set_both g184.out (.slice ra R0.length rc) (.slice rb Q0.length rd))
              have OF := Lib.hid (ow_setCell (c := ansC) (p := ⟨wy14.heap.size, 1, none⟩) (ow_setCell (c := ansC) (p := ⟨wy14.heap.size, 0, none⟩) v185.out (fun q => by have := HRL.out _ q; simp only at this; omega) (.slice ra R0.length rc)) (fun q => by have := HRL.out _ q; simp only at this; omega) (.slice rb Q0.length rd))
              have SF : (World.setCell (World.setCell wy170 ⟨wy14.heap.size, 0, none⟩ (.slice ra R0.length rc)) ⟨wy14.heap.size, 1, none⟩ (.slice rb Q0.length rd)).heap.size = wy170.heap.size := by simp
              clear ht k1 k2 k3 k4
              generalize World.setCell (World.setCell wy170 ⟨wy14.heap.size, 0, none⟩ (.slice ra R0.length rc)) ⟨wy14.heap.size, 1, none⟩ (.slice rb Q0.length rd) = wy186 at *
              refine hK.out _ _ ?_ (fun hHeld => ?_)
              · exact ⟨u188.out, u189.out⟩
              clear hK K
              try simp only [Act.put, List.setIfInBounds_toArray, List.set_cons_zero, List.set_cons_succ]
              refine RegH.takeH (i := 10) (v := ?_) rfl (by kernel_rfl) (by kernel_rfl) (by kernel_rfl) (fun _ _ _ h => h) (Or.inl ⟨by rfl, ?_⟩) (by assumption) ?_
              rotate_left
              · (intro wS hSw; (try dsimp only at hSw); (obtain ⟨s_LB0, s_LB1⟩ := hSw); (have r0a := s_LB0.c0); (have r1a := s_LB1.c0); (have r1b := s_LB1.c1); go_simp; try (with_reducible rfl))
              try simp only [Act.put, List.setIfInBounds_toArray, List.set_cons_zero, List.set_cons_succ]
              refine wpAnyH_done (by kernel_rfl) ?_ _
              go_wp2_with fail
              go_meet
              exact ⟨wy14.heap.size, ra, rc, rb, rd, rf, rfl, rfl, by omega, by omega, by omega, GF.out, ansC.ow_base OF.out (by omega), HRN.out, u187.out, u188.out, u189.out, u190.out, u191.out, u192.out, u193.out, u194.out, u195.out, u196.out, u197.out, u198.out, u199.out⟩
          · skip
            go_simp
            generalize hg : World.alloc wyd _ = wy200
            obtain ⟨rg, zzwy200, hq⟩ := start1 wyd _ hg
            clear hg
            have u201 := Lib.hid (below_then u1.out hq)
            have u202 := Lib.hid (u2.out.later hq)
            have u203 := Lib.hid (u3.out.later hq)
            have u204 := Lib.hid (Cd.later u4.out hq)
            have u205 := Lib.hid (Cd.later u5.out hq)
            have u206 := Lib.hid (u6.out.later hq)
            have u207 := Lib.hid (Cd.ow_later u7.out hq)
            have u208 := Lib.hid (u8.out.later hq)
            have u209 := Lib.hid (u9.out.later hq)
            have u210 := Lib.hid (u10.out.later hq)
            have u211 := Lib.hid (Cd.ow_later u11.out hq)
            have u212 := Lib.hid (Cd.ow_later u12.out hq)
            have u213 := Lib.hid (Cd.ow_later u13.out hq)
            have szwy200 := hq.size
            have g214 := Lib.hid (Loc2.of rg)
            clear hq rg
            refine hK.out _ _ ?_ (fun hHeld => ?_)
            · exact ⟨u202.out, u203.out⟩
            clear hK K
            try simp only [Act.put, List.setIfInBounds_toArray, List.set_cons_zero, List.set_cons_succ]
            refine RegH.consH (i := 1) rfl (by kernel_rfl) (fun K hK => ?_)
            go_simp
            go_at_call 28
            refine (to_db _ l0 _ wy200 u204.out (by have := HX0.out; omega)).mono ?_
            rintro e wy215 ⟨tv0, tf0, rfl, tow, tnd, hq⟩
            have u216 := Lib.hid (below_then u201.out hq)
            have u217 := Lib.hid (u202.out.later hq)
            have u218 := Lib.hid (u203.out.later hq)
            have u219 := Lib.hid (Cd.later u204.out hq)
            have u220 := Lib.hid (Cd.later u205.out hq)
            have u221 := Lib.hid (u206.out.later hq)
            have u222 := Lib.hid (Cd.ow_later u207.out hq)
            have u223 := Lib.hid (u208.out.later hq)
            have u224 := Lib.hid (u209.out.later hq)
            have u225 := Lib.hid (u210.out.later hq)
            have u226 := Lib.hid (Cd.ow_later u211.out hq)
            have u227 := Lib.hid (Cd.ow_later u212.out hq)
            have u228 := Lib.hid (Cd.ow_later u213.out hq)
            have g229 := Lib.hid (g214.out.later hq)
            have szwy215 := hq.size
            have v230 := Lib.hid tow
            clear hq tow tnd
            (try go_wp2_with fail)
            refine hK.out _ _ ?_ (fun hHeld => ?_)
            · exact ⟨u217.out, u218.out⟩
            clear hK K
            try simp only [Act.put, List.setIfInBounds_toArray, List.set_cons_zero, List.set_cons_succ]
            refine RegH.consH (i := 3) rfl (by kernel_rfl) (fun K hK => ?_)
            go_simp
            go_at_call 29
            refine (to_q r1 _ l1 _ wy215 u220.out (by have := HX1.out; omega)).mono ?_
            rintro e wy231 ⟨tv1, tf1, rfl, tow, tnd, hq⟩
            have u232 := Lib.hid (below_then u216.out hq)
            have u233 := Lib.hid (u217.out.later hq)
            have u234 := Lib.hid (u218.out.later hq)
            have u235 := Lib.hid (Cd.later u219.out hq)
            have u236 := Lib.hid (Cd.later u220.out hq)
            have u237 := Lib.hid (u221.out.later hq)
            have u238 := Lib.hid (Cd.ow_later u222.out hq)
            have u239 := Lib.hid (u223.out.later hq)
            have u240 := Lib.hid (u224.out.later hq)
            have u241 := Lib.hid (u225.out.later hq)
            have u242 := Lib.hid (Cd.ow_later u226.out hq)
            have u243 := Lib.hid (Cd.ow_later u227.out hq)
            have u244 := Lib.hid (Cd.ow_later u228.out hq)
            have v245 := Lib.hid (Cd.ow_later v230.out hq)
            have g246 := Lib.hid (g229.out.later hq)
            have szwy231 := hq.size
            have v247 := Lib.hid tow
            clear hq tow tnd
            (try go_wp2_with fail)
            refine hK.out _ _ ?_ (fun hHeld => ?_)
            · exact ⟨u233.out, u234.out⟩
            clear hK K
            try simp only [Act.put, List.setIfInBounds_toArray, List.set_cons_zero, List.set_cons_succ]
            refine RegH.consH (i := 4) rfl (by kernel_rfl) (fun K hK => ?_)
            go_simp
            go_at_call 22
            refine (HIh.out HX0.out HX1.out _ _ _ _ wy231 (tabsC.ow_rd v245.out) (atomsC.ow_rd v247.out)).mono ?_
            rintro e wy248 ⟨ru, rz, rf, rfl, tow, tnd, hq⟩
            obtain ⟨ra, rc, rb, rd, rfl, rfl⟩ := ans_shape tow
            have u249 := Lib.hid (below_then u232.out hq)
            have u250 := Lib.hid (u233.out.later hq)
            have u251 := Lib.hid (u234.out.later hq)
            have u252 := Lib.hid (Cd.later u235.out hq)
            have u253 := Lib.hid (Cd.later u236.out hq)
            have u254 := Lib.hid (u237.out.later hq)
            have u255 := Lib.hid (Cd.ow_later u238.out hq)
            have u256 := Lib.hid (u239.out.later hq)
            have u257 := Lib.hid (u240.out.later hq)
            have u258 := Lib.hid (u241.out.later hq)
            have u259 := Lib.hid (Cd.ow_later u242.out hq)
            have u260 := Lib.hid (Cd.ow_later u243.out hq)
            have u261 := Lib.hid (Cd.ow_later u244.out hq)
            have g262 := Lib.hid (g246.out.later hq)
            have szwy248 := hq.size
            have v263 := Lib.hid tow
            have HRN := Lib.hid tnd
            have HRL := Lib.hid (bound_of tow)
            clear hq tow tnd
            (try go_wp2_with fail)
            refine hK.out _ _ ?_ (fun hHeld => ?_)
            · exact ⟨u250.out, u251.out⟩
            clear hK K
            try simp only [Act.put, List.setIfInBounds_toArray, List.set_cons_zero, List.set_cons_succ]
            refine RegH.takeH (i := 5) (v := ?_) rfl (by kernel_rfl) (by kernel_rfl) (by kernel_rfl) (fun _ _ _ h => h) (Or.inl ⟨by rfl, ?_⟩) (by assumption) ?_
            rotate_left
            · (intro wS hSw; (try dsimp only at hSw); (obtain ⟨s_LB0, s_LB1⟩ := hSw); (have r0a := s_LB0.c0); (have r1a := s_LB1.c0); (have r1b := s_LB1.c1); go_simp; try (with_reducible rfl))
            try simp only [Act.put, List.setIfInBounds_toArray, List.set_cons_zero, List.set_cons_succ]
            refine RegH.takeH (i := 6) (v := ?_) rfl (by kernel_rfl) (by kernel_rfl) (by kernel_rfl) (fun _ _ _ h => h) (Or.inl ⟨by rfl, ?_⟩) (by assumption) ?_
            rotate_left
            · (intro wS hSw; (try dsimp only at hSw); (obtain ⟨s_LB0, s_LB1⟩ := hSw); (have r0a := s_LB0.c0); (have r1a := s_LB1.c0); (have r1b := s_LB1.c1); go_simp; try (with_reducible rfl))
            try simp only [Act.put, List.setIfInBounds_toArray, List.set_cons_zero, List.set_cons_succ]
            refine RegH.takeH (i := 7) (v := ?_) rfl (by kernel_rfl) (by kernel_rfl) (by kernel_rfl) (fun _ _ _ h => h) (Or.inl ⟨by rfl, ?_⟩) (by assumption) ?_
            rotate_left
            · (intro wS hSw; (try dsimp only at hSw); (obtain ⟨s_LB0, s_LB1⟩ := hSw); (have r0a := s_LB0.c0); (have r1a := s_LB1.c0); (have r1b := s_LB1.c1); go_simp; try (with_reducible rfl))
            try simp only [Act.put, List.setIfInBounds_toArray, List.set_cons_zero, List.set_cons_succ]
            have k1 := g262.out.c0
            have k2 := g262.out.f0
            have k3 := g262.out.c1
            have k4 := g262.out.f1
            refine RegH.consH (i := 9) rfl (by kernel_rfl) (fun K hK => ?_)
            go_simp
            have ht : Cd.Touch [wyd.heap.size] wy248 (World.setCell (World.setCell wy248 ⟨wyd.heap.size, 0, none⟩ (.slice ra R0.length rc)) ⟨wyd.heap.size, 1, none⟩ (.slice rb Q0.length rd)) := ⟨rfl, rfl, rfl, by simp, fun k hk hn => (Below.heap_setCell _ _ _ k (by simpa using hn)).trans (Below.heap_setCell _ _ _ k (by simpa using hn))⟩
            have u265 := Lib.hid (Cd.Touch.below u249.out ht (fun b hb => by rw [List.mem_singleton.1 hb]; have := HB0.out; omega))
            have u266 := Lib.hid (u250.out.touched ht (by have := HB0.out; have := hz0; simp; omega))
            have u267 := Lib.hid (u251.out.touched ht (by have := HB0.out; have := hz0; simp; omega))
            have u268 := Lib.hid (Cd.touched u252.out ht (fun b hb q => by rw [List.mem_singleton.1 hb] at q; have := HB0.out; omega))
            have u269 := Lib.hid (Cd.touched u253.out ht (fun b hb q => by rw [List.mem_singleton.1 hb] at q; have := HB0.out; omega))
            have u270 := Lib.hid (u254.out.touched ht (by have := HB0.out; have := hz0; simp; omega))
            have u271 := Lib.hid (Cd.ow_touched u255.out ht (fun b hb q => by rw [List.mem_singleton.1 q] at hb; have := (w0_B.out _ hb).2; omega))
            have u272 := Lib.hid (u256.out.touched ht (by have := HB0.out; have := hz0; simp; omega))
            have u273 := Lib.hid (u257.out.touched ht (by have := HB0.out; have := hz0; simp; omega))
            have u274 := Lib.hid (u258.out.touched ht (by have := HB0.out; have := hz0; simp; omega))
            have u275 := Lib.hid (Cd.ow_touched u259.out ht (fun b hb q => by rw [List.mem_singleton.1 q] at hb; have := (x0_B.out _ hb).2; omega))
            have u276 := Lib.hid (Cd.ow_touched u260.out ht (fun b hb q => by rw [List.mem_singleton.1 q] at hb; have := (x1_B.out _ hb).2; omega))
            have u277 := Lib.hid (Cd.ow_touched u261.out ht (fun b hb q => by rw [List.mem_singleton.1 q] at hb; have := (g0_B.out _ hb).2; omega))
            have GF := Lib.hid (MkAns.set_both g262.out (.slice ra R0.length rc) (.slice rb Q0.length rd))
            have OF := Lib.hid (ow_setCell (c := ansC) (p := ⟨wyd.heap.size, 1, none⟩) (ow_setCell (c := ansC) (p := ⟨wyd.heap.size, 0, none⟩) v263.out (fun q => by have := HRL.out _ q; simp only at this; omega) (.slice ra R0.length rc)) (fun q => by have := HRL.out _ q; simp only at this; omega) (.slice rb Q0.length rd))
            have SF : (World.setCell (World.setCell wy248 ⟨wyd.heap.size, 0, none⟩ (.slice ra R0.length rc)) ⟨wyd.heap.size, 1, none⟩ (.slice rb Q0.length rd)).heap.size = wy248.heap.size := by simp
            clear ht k1 k2 k3 k4
            generalize World.setCell (World.setCell wy248 ⟨wyd.heap.size, 0, none⟩ (.slice ra R0.length rc)) ⟨wyd.heap.size, 1, none⟩ (.slice rb Q0.length rd) = wy264 at *
            refine hK.out _ _ ?_ (fun hHeld => ?_)
            · exact ⟨u266.out, u267.out⟩
            clear hK K
            try simp only [Act.put, List.setIfInBounds_toArray, List.set_cons_zero, List.set_cons_succ]
            refine RegH.takeH (i := 10) (v := ?_) rfl (by kernel_rfl) (by kernel_rfl) (by kernel_rfl) (fun _ _ _ h => h) (Or.inl ⟨by rfl, ?_⟩) (by assumption) ?_
            rotate_left
            · (intro wS hSw; (try dsimp only at hSw); (obtain ⟨s_LB0, s_LB1⟩ := hSw); (have r0a := s_LB0.c0); (have r1a := s_LB1.c0); (have r1b := s_LB1.c1); go_simp; try (with_reducible rfl))
            try simp only [Act.put, List.setIfInBounds_toArray, List.set_cons_zero, List.set_cons_succ]
            refine wpAnyH_done (by kernel_rfl) ?_ _
            go_wp2_with fail
            go_meet
            exact ⟨wyd.heap.size, ra, rc, rb, rd, rf, rfl, rfl, by omega, by omega, by omega, GF.out, ansC.ow_base OF.out (by omega), HRN.out, u265.out, u266.out, u267.out, u268.out, u269.out, u270.out, u271.out, u272.out, u273.out, u274.out, u275.out, u276.out, u277.out⟩
        case rest =>
          obtain ⟨py, y0_a, y0_c, y0_b, y0_d, y0_f, rfl, rfl, hpy, hqy, zW16, cL, cO, cN, c_HB, c_LB0, c_LB1, c_HR0, c_HR1, c_Lw0, c_w0_O, c_Lx0, c_Lx1, c_Lg0, c_x0_M, c_x1_M, c_g0_M⟩ := hcut
          clear HB LB0 LB1 HR0 HR1 Lw0 w0_O Lx0 Lx1 Lg0 x0_M x1_M g0_M
          have HB := Lib.hid c_HB
          have LB0 := Lib.hid c_LB0
          have LB1 := Lib.hid c_LB1
          have HR0 := Lib.hid c_HR0
          have HR1 := Lib.hid c_HR1
          have Lw0 := Lib.hid c_Lw0
          have w0_O := Lib.hid c_w0_O
          have Lx0 := Lib.hid c_Lx0
          have Lx1 := Lib.hid c_Lx1
          have Lg0 := Lib.hid c_Lg0
          have x0_M := Lib.hid c_x0_M
          have x1_M := Lib.hid c_x1_M
          have g0_M := Lib.hid c_g0_M
          clear c_HB c_LB0 c_LB1 c_HR0 c_HR1 c_Lw0 c_w0_O c_Lx0 c_Lx1 c_Lg0 c_x0_M c_x1_M c_g0_M
          have Ly0 := Lib.hid cL
          clear cL
          have y0_O := Lib.hid cO
          have y0_N := Lib.hid cN
          have y0_B := Lib.hid (bound_of cO)
          clear cO cN
          generalize wc = W16 at *
          have y0a := Ly0.out.c0
          have y0b := Ly0.out.c1
          have y0d := Ly0.out.lt
          have y1a := Lw0.out.c0
          have y1b := Lw0.out.c1
          have y1d := Lw0.out.lt
          go_wp2_with fail
          clear y0a y0b y0d y1a y1b y1d
          refine (eq_ans _ _ _ _ R0 Q0 _ _ W16 (ansC.ow_rd y0_O.out) (ansC.ow_rd w0_O.out)).mono ?_
          rintro e W17 ⟨rfl, hbx⟩
          replace HB := Lib.hid (below_then HB.out hbx)
          replace LB0 := Lib.hid (LB0.out.later hbx)
          replace LB1 := Lib.hid (LB1.out.later hbx)
          replace HR0 := Lib.hid (Cd.later HR0.out hbx)
          replace HR1 := Lib.hid (Cd.later HR1.out hbx)
          replace Lw0 := Lib.hid (Lw0.out.later hbx)
          replace w0_O := Lib.hid (Cd.ow_later w0_O.out hbx)
          replace Lx0 := Lib.hid (Lx0.out.later hbx)
          replace Lx1 := Lib.hid (Lx1.out.later hbx)
          replace Lg0 := Lib.hid (Lg0.out.later hbx)
          replace x0_M := Lib.hid (Cd.ow_later x0_M.out hbx)
          replace x1_M := Lib.hid (Cd.ow_later x1_M.out hbx)
          replace g0_M := Lib.hid (Cd.ow_later g0_M.out hbx)
          replace Ly0 := Lib.hid (Ly0.out.later hbx)
          replace y0_O := Lib.hid (Cd.ow_later y0_O.out hbx)
          have zW17 := hbx.size
          clear hbx
          have y0a := Lg0.out.c0
          have y0b := Lg0.out.c1
          have y0d := Lg0.out.lt
          go_wp2_with fail
          clear y0a y0b y0d
          have HHD := Lib.hid (held_ans _ _ R0 Q0 _ 1 W17 (ansC.ow_rd g0_M.out) HW0.out (by omega))
          rw [Hmm.out] at HHD
          refine HHD.out.mono ?_
          rintro e W18 ⟨rfl, hbx⟩
          replace HB := Lib.hid (below_then HB.out hbx)
          replace LB0 := Lib.hid (LB0.out.later hbx)
          replace LB1 := Lib.hid (LB1.out.later hbx)
          replace HR0 := Lib.hid (Cd.later HR0.out hbx)
          replace HR1 := Lib.hid (Cd.later HR1.out hbx)
          replace Lw0 := Lib.hid (Lw0.out.later hbx)
          replace w0_O := Lib.hid (Cd.ow_later w0_O.out hbx)
          replace Lx0 := Lib.hid (Lx0.out.later hbx)
          replace Lx1 := Lib.hid (Lx1.out.later hbx)
          replace Lg0 := Lib.hid (Lg0.out.later hbx)
          replace x0_M := Lib.hid (Cd.ow_later x0_M.out hbx)
          replace x1_M := Lib.hid (Cd.ow_later x1_M.out hbx)
          replace g0_M := Lib.hid (Cd.ow_later g0_M.out hbx)
          replace Ly0 := Lib.hid (Ly0.out.later hbx)
          replace y0_O := Lib.hid (Cd.ow_later y0_O.out hbx)
          have zW18 := hbx.size
          clear hbx
          go_wp2_with fail
          go_ret
          exact ⟨rfl, HB.out⟩
end Go.Proofs.YtdkhgeknjekkoaaGreat.WalkEvaluateQuery
