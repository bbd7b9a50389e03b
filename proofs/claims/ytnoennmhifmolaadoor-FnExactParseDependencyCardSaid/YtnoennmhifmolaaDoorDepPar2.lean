/- Dependencies: read: the model's function. -/
import Derived.Test.YtnoennmhifmolaaDoorDepPar
namespace Go.Proofs.YtnoennmhifmolaaDoor.DepPar
open Go Go.RowKit Byt Ints IntsLaw Cd Rows2 Tab TabSpec Exact TabParse

set_option maxRecDepth 100000 in
set_option maxHeartbeats 6400000 in
theorem spec_pard (s : ByteArray) (w : World) : Calls Tryd.prog 24 #[.string s] w fun e w' => PAns s w e w' := by
  by_cases h0 : s.size < 3
  · have HF := Lib.hid (show pdOk s = false from decide_eq_false fun q => by omega)
    have t1 : (s.size : Int) < 3 := by omega
    clear h0
    go_enter Tryd.func24, Tryd.ntmps24
    go_wp2_with fail
    refine bodyPost_ret (v := .tuple #[.agg #[.string ⟨#[]⟩, .slice none 0 0, .int .i64 0], .bool false]) (by simp [results, Tryd.results24, go_sem]) rfl (PAns.no HF.out ?_)
    first
      | exact below_alloc w _
      | (refine Below.setCell (Below.setCell (Below.setCell (below_alloc w _) ?_ _) ?_ _) ?_ _ <;> exact Nat.le_refl _)
  have t1 : ¬ (s.size : Int) < 3 := by omega
  by_cases h1 : 5 < s.size
  · have HF := Lib.hid (show pdOk s = false from decide_eq_false fun q => by omega)
    have t2 : (5 : Int) < (s.size : Int) := by omega
    clear h0 h1
    go_enter Tryd.func24, Tryd.ntmps24
    go_wp2_with fail
    refine bodyPost_ret (v := .tuple #[.agg #[.string ⟨#[]⟩, .slice none 0 0, .int .i64 0], .bool false]) (by simp [results, Tryd.results24, go_sem]) rfl (PAns.no HF.out ?_)
    first
      | exact below_alloc w _
      | (refine Below.setCell (Below.setCell (Below.setCell (below_alloc w _) ?_ _) ?_ _) ?_ _ <;> exact Nat.le_refl _)
  have t2 : ¬ (5 : Int) < (s.size : Int) := by omega
  obtain ⟨m2, hm2⟩ : ∃ m2, s.size = m2 + 2 := ⟨s.size - 2, by omega⟩
  have HP := Lib.hid (show 3 ≤ s.size ∧ s.size ≤ 5 from ⟨by omega, by omega⟩)
  have e1 : (s.size : Int) - 2 = (m2 : Int) := by omega
  have e2 : (s.size : Int) - 1 = ((m2 + 1 : Nat) : Int) := by omega
  have hi1 : m2 + 1 < s.size := by omega
  have hd1 : (((s[m2 + 1]'hi1).toNat : Int) - 48) = pT s := by rw [cI_at hi1]; unfold pT; rw [show s.size - 1 = m2 + 1 by omega]
  generalize hm1 : m2 + 1 = m1 at *
  have hw2 : IntKind.i64.wrap (m2 : Int) = (m2 : Int) := by rw [IntKind.wrap_i64]; omega
  have hw1 : IntKind.i64.wrap (m1 : Int) = (m1 : Int) := by rw [IntKind.wrap_i64]; omega
  have i1 : (1 : Int) ≤ (s.size : Int) := by omega
  have i2 : (1 : Int) ≤ (m2 : Int) := by omega
  have i3 : (m2 : Int) ≤ (s.size : Int) := by omega
  have i4 : (m1 : Int) < (s.size : Int) := by omega
  have hn1 : s.extract 0 1 = pN s := rfl
  have HVL := Lib.hid (fun w' => spec_vals (s.extract 1 m2) w' (by rw [ByteArray.size_extract]; omega))
  have HRR := Lib.hid (show pV s = vals (s.extract 1 m2).data.toList by unfold pV; rw [show s.size - 2 = m2 by omega])
  generalize vals (s.extract 1 m2).data.toList = rr at *
  have HRES := Lib.hid (Loc3.of (row_alloc w (.cells #[.string ⟨#[]⟩, .slice none 0 0, .int .i64 0] 42 (0, 0))))
  have HB1 := Lib.hid (below_alloc w (.cells #[.string ⟨#[]⟩, .slice none 0 0, .int .i64 0] 42 (0, 0)))
  have HZ1 := Lib.hid (size_alloc w (.cells #[.string ⟨#[]⟩, .slice none 0 0, .int .i64 0] 42 (0, 0)))
  have HM := Lib.hid hm1
  have HM2 := Lib.hid hm2
  clear h0 h1 hm1 hm2
  go_enter Tryd.func24, Tryd.ntmps24
  go_upto_region 3 with fail
  generalize w.alloc _ = W1 at *
  go_cut [4] (fun s4 wx => MadeD W1 (pN s) rr (pT s) s4 wx)
  case first =>
    have hd0 : Below W1.heap.size W1 W1.drew := Below.drew (Below.refl _ _)
    have B0 := Lib.hid hd0
    clear hd0
    refine wp_region_held_drew (S := fun _ => True) (by kernel_rfl) ?_ (fun hHeld => ?_)
    · trivial
    generalize World.drew W1 = wy0 at *
    refine RegH.takeH (i := 0) (v := ?_) rfl (by kernel_rfl) (by kernel_rfl) (by kernel_rfl) (fun _ _ _ h => h) (Or.inl ⟨by rfl, ?_⟩) (by assumption) ?_
    rotate_left
    · (intro wS hSw; (try dsimp only at hSw); (skip); go_simp; try (with_reducible rfl))
    try simp only [Act.put, List.setIfInBounds_toArray, List.set_cons_zero, List.set_cons_succ]
    refine RegH.takeH (i := 1) (v := ?_) rfl (by kernel_rfl) (by kernel_rfl) (by kernel_rfl) (fun _ _ _ h => h) (Or.inl ⟨by rfl, ?_⟩) (by assumption) ?_
    rotate_left
    · (intro wS hSw; (try dsimp only at hSw); (skip); go_simp; try (with_reducible rfl))
    try simp only [Act.put, List.setIfInBounds_toArray, List.set_cons_zero, List.set_cons_succ]
    refine RegH.takeH (i := 2) (v := ?_) rfl (by kernel_rfl) (by kernel_rfl) (by kernel_rfl) (fun _ _ _ h => h) (Or.inl ⟨by rfl, ?_⟩) (by assumption) ?_
    rotate_left
    · (intro wS hSw; (try dsimp only at hSw); (skip); go_simp; try (with_reducible rfl))
    try simp only [Act.put, List.setIfInBounds_toArray, List.set_cons_zero, List.set_cons_succ]
    refine RegH.takeH (i := 3) (v := ?_) rfl (by kernel_rfl) (by kernel_rfl) (by kernel_rfl) (fun _ _ _ h => h) (Or.inl ⟨by rfl, ?_⟩) (by assumption) ?_
    rotate_left
    · (intro wS hSw; (try dsimp only at hSw); (skip); go_simp; try (with_reducible rfl))
    try simp only [Act.put, List.setIfInBounds_toArray, List.set_cons_zero, List.set_cons_succ]
    refine RegH.takeH (i := 4) (v := ?_) rfl (by kernel_rfl) (by kernel_rfl) (by kernel_rfl) (fun _ _ _ h => h) (Or.inl ⟨by rfl, ?_⟩) (by assumption) ?_
    rotate_left
    · (intro wS hSw; (try dsimp only at hSw); (skip); go_simp; try (with_reducible rfl))
    try simp only [Act.put, List.setIfInBounds_toArray, List.set_cons_zero, List.set_cons_succ]
    refine RegH.takeH (i := 5) (v := ?_) rfl (by kernel_rfl) (by kernel_rfl) (by kernel_rfl) (fun _ _ _ h => h) (Or.inl ⟨by rfl, ?_⟩) (by assumption) ?_
    rotate_left
    · (intro wS hSw; (try dsimp only at hSw); (skip); go_simp; try (with_reducible rfl))
    try simp only [Act.put, List.setIfInBounds_toArray, List.set_cons_zero, List.set_cons_succ]
    refine RegH.takeH (i := 6) (v := ?_) rfl (by kernel_rfl) (by kernel_rfl) (by kernel_rfl) (fun _ _ _ h => h) (Or.inl ⟨by rfl, ?_⟩) (by assumption) ?_
    rotate_left
    · (intro wS hSw; (try dsimp only at hSw); (skip); go_simp; try (with_reducible rfl))
    try simp only [Act.put, List.setIfInBounds_toArray, List.set_cons_zero, List.set_cons_succ]
    refine RegH.takeH (i := 8) (v := ?_) rfl (by kernel_rfl) (by kernel_rfl) (by kernel_rfl) (fun _ _ _ h => h) (Or.inl ⟨by rfl, ?_⟩) (by assumption) ?_
    rotate_left
    · (intro wS hSw; (try dsimp only at hSw); (skip); go_simp; try (with_reducible rfl))
    try simp only [Act.put, List.setIfInBounds_toArray, List.set_cons_zero, List.set_cons_succ]
    refine RegH.takeH (i := 9) (v := ?_) rfl (by kernel_rfl) (by kernel_rfl) (by kernel_rfl) (fun _ _ _ h => h) (Or.inl ⟨by rfl, ?_⟩) (by assumption) ?_
    rotate_left
    · (intro wS hSw; (try dsimp only at hSw); (skip); go_simp; try (with_reducible rfl))
    try simp only [Act.put, List.setIfInBounds_toArray, List.set_cons_zero, List.set_cons_succ]
    refine RegH.takeH (i := 10) (v := ?_) rfl (by kernel_rfl) (by kernel_rfl) (by kernel_rfl) (fun _ _ _ h => h) (Or.inl ⟨by rfl, ?_⟩) (by assumption) ?_
    rotate_left
    · (intro wS hSw; (try dsimp only at hSw); (skip); go_simp; try (with_reducible rfl))
    try simp only [Act.put, List.setIfInBounds_toArray, List.set_cons_zero, List.set_cons_succ]
    refine RegH.takeH (i := 11) (v := ?_) rfl (by kernel_rfl) (by kernel_rfl) (by kernel_rfl) (fun _ _ _ h => h) (Or.inl ⟨by rfl, ?_⟩) (by assumption) ?_
    rotate_left
    · (intro wS hSw; (try dsimp only at hSw); (skip); go_simp; try (with_reducible rfl))
    try simp only [Act.put, List.setIfInBounds_toArray, List.set_cons_zero, List.set_cons_succ]
    refine RegH.takeH (i := 12) (v := ?_) rfl (by kernel_rfl) (by kernel_rfl) (by kernel_rfl) (fun _ _ _ h => h) (Or.inl ⟨by rfl, ?_⟩) (by assumption) ?_
    rotate_left
    · (intro wS hSw; (try dsimp only at hSw); (skip); go_simp; try (with_reducible rfl))
    try simp only [Act.put, List.setIfInBounds_toArray, List.set_cons_zero, List.set_cons_succ]
    refine RegH.takeH (i := 13) (v := ?_) rfl (by kernel_rfl) (by kernel_rfl) (by kernel_rfl) (fun _ _ _ h => h) (Or.inl ⟨by rfl, ?_⟩) (by assumption) ?_
    rotate_left
    · (intro wS hSw; (try dsimp only at hSw); (skip); go_simp; try (with_reducible rfl))
    try simp only [Act.put, List.setIfInBounds_toArray, List.set_cons_zero, List.set_cons_succ]
    refine RegH.takeH (i := 14) (v := ?_) rfl (by kernel_rfl) (by kernel_rfl) (by kernel_rfl) (fun _ _ _ h => h) (Or.inl ⟨by rfl, ?_⟩) (by assumption) ?_
    rotate_left
    · (intro wS hSw; (try dsimp only at hSw); (skip); go_simp; try (with_reducible rfl))
    try simp only [Act.put, List.setIfInBounds_toArray, List.set_cons_zero, List.set_cons_succ]
    refine RegH.consH2 (i := 7) (j := 16) rfl rfl (by kernel_rfl) (fun K hK => ?_) (fun K hK => ?_)
    · skip
      go_simp
      go_at_call 51
      refine (HVL.out wy0).mono ?_
      rintro e wy1 ⟨v1, f1, rfl, how, hnd, hq⟩
      obtain ⟨a1, c1, rfl⟩ := Cd.ow_slice how
      have HO := Lib.hid (rowC.ow_base how B0.out.size)
      have HLT := Lib.hid (rowC.ow_lt how)
      have HND := Lib.hid hnd
      have B2 := Lib.hid (below_then B0.out hq)
      clear how hnd hq
      (try go_wp2_with fail)
      refine hK.out _ _ ?_ (fun hHeld => ?_)
      · trivial
      clear hK K
      try simp only [Act.put, List.setIfInBounds_toArray, List.set_cons_zero, List.set_cons_succ]
      refine RegH.takeH (i := 15) (v := ?_) rfl (by kernel_rfl) (by kernel_rfl) (by kernel_rfl) (fun _ _ _ h => h) (Or.inl ⟨by rfl, ?_⟩) (by assumption) ?_
      rotate_left
      · (intro wS hSw; (try dsimp only at hSw); (skip); go_simp; try (with_reducible rfl))
      try simp only [Act.put, List.setIfInBounds_toArray, List.set_cons_zero, List.set_cons_succ]
      refine RegH.consH (i := 16) rfl (by kernel_rfl) (fun K hK => ?_)
      go_simp
      generalize hg : World.alloc wy1 _ = wy3
      obtain ⟨rg, zz, hq⟩ := start1 wy1 _ hg
      clear hg zz
      have GL4 := Lib.hid (Loc3.of rg)
      have GK6 := Lib.hid (show W1.heap.size ≤ wy1.heap.size from B2.out.size)
      have B5 := Lib.hid (below_then B2.out hq)
      have HO7 := Lib.hid (Cd.ow_later HO.out hq)
      have HNK8 := Lib.hid (show wy1.heap.size ∉ f1 from fun q => by have h1 := (HLT.out _ q).2; omega)
      clear rg hq
      refine hK.out _ _ ?_ (fun hHeld => ?_)
      · trivial
      clear hK K
      try simp only [Act.put, List.setIfInBounds_toArray, List.set_cons_zero, List.set_cons_succ]
      have k1 := GL4.out.c0; have k2 := GL4.out.f0; have k3 := GL4.out.c1; have k4 := GL4.out.f1; have k5 := GL4.out.c2; have k6 := GL4.out.f2
      refine RegH.consH (i := 17) rfl (by kernel_rfl) (fun K hK => ?_)
      go_simp
      have GF10 := Lib.hid (madeD (nm := pN s) (t := pT s) B5.out GK6.out GL4.out HO7.out rfl HND.out HNK8.out)
      clear k1 k2 k3 k4 k5 k6
      (try rw [wr_byte]); (try rw [hd1]); (try rw [hn1])
      generalize World.setCell (World.setCell (World.setCell wy3 ⟨wy1.heap.size, 0, none⟩ (.string (pN s))) ⟨wy1.heap.size, 1, none⟩ (.slice a1 rr.length c1)) ⟨wy1.heap.size, 2, none⟩ (.int .i64 (pT s)) = wy9 at *
      refine hK.out _ _ ?_ (fun hHeld => ?_)
      · trivial
      clear hK K
      try simp only [Act.put, List.setIfInBounds_toArray, List.set_cons_zero, List.set_cons_succ]
      refine wpAnyH_done (by kernel_rfl) ?_ _
      go_wp2_with fail
      go_meet
      exact GF10.out
    · skip
      go_simp
      generalize hg : World.alloc wy0 _ = wy11
      obtain ⟨rg, zz, hq⟩ := start1 wy0 _ hg
      clear hg zz
      have GL12 := Lib.hid (Loc3.of rg)
      have GK14 := Lib.hid (show W1.heap.size ≤ wy0.heap.size from B0.out.size)
      have B13 := Lib.hid (below_then B0.out hq)
      clear rg hq
      refine hK.out _ _ ?_ (fun hHeld => ?_)
      · trivial
      clear hK K
      try simp only [Act.put, List.setIfInBounds_toArray, List.set_cons_zero, List.set_cons_succ]
      refine RegH.consH (i := 7) rfl (by kernel_rfl) (fun K hK => ?_)
      go_simp
      go_at_call 51
      refine (HVL.out wy11).mono ?_
      rintro e wy15 ⟨v1, f1, rfl, how, hnd, hq⟩
      obtain ⟨a1, c1, rfl⟩ := Cd.ow_slice how
      have HO := Lib.hid (rowC.ow_base how B13.out.size)
      have HLT := Lib.hid (rowC.ow_lt how)
      have HND := Lib.hid hnd
      have B16 := Lib.hid (below_then B13.out hq)
      have HNK18 := Lib.hid (show wy0.heap.size ∉ f1 from fun q => by have h1 := (HLT.out _ q).1; have h2 := GL12.out.lt; omega)
      have GL17 := Lib.hid (GL12.out.later hq)
      clear how hnd hq
      (try go_wp2_with fail)
      refine hK.out _ _ ?_ (fun hHeld => ?_)
      · trivial
      clear hK K
      try simp only [Act.put, List.setIfInBounds_toArray, List.set_cons_zero, List.set_cons_succ]
      refine RegH.takeH (i := 15) (v := ?_) rfl (by kernel_rfl) (by kernel_rfl) (by kernel_rfl) (fun _ _ _ h => h) (Or.inl ⟨by rfl, ?_⟩) (by assumption) ?_
      rotate_left
      · (intro wS hSw; (try dsimp only at hSw); (skip); go_simp; try (with_reducible rfl))
      try simp only [Act.put, List.setIfInBounds_toArray, List.set_cons_zero, List.set_cons_succ]
      have k1 := GL17.out.c0; have k2 := GL17.out.f0; have k3 := GL17.out.c1; have k4 := GL17.out.f1; have k5 := GL17.out.c2; have k6 := GL17.out.f2
      refine RegH.consH (i := 17) rfl (by kernel_rfl) (fun K hK => ?_)
      go_simp
      have GF20 := Lib.hid (madeD (nm := pN s) (t := pT s) B16.out GK14.out GL17.out HO.out rfl HND.out HNK18.out)
      clear k1 k2 k3 k4 k5 k6
      (try rw [wr_byte]); (try rw [hd1]); (try rw [hn1])
      generalize World.setCell (World.setCell (World.setCell wy15 ⟨wy0.heap.size, 0, none⟩ (.string (pN s))) ⟨wy0.heap.size, 1, none⟩ (.slice a1 rr.length c1)) ⟨wy0.heap.size, 2, none⟩ (.int .i64 (pT s)) = wy19 at *
      refine hK.out _ _ ?_ (fun hHeld => ?_)
      · trivial
      clear hK K
      try simp only [Act.put, List.setIfInBounds_toArray, List.set_cons_zero, List.set_cons_succ]
      refine wpAnyH_done (by kernel_rfl) ?_ _
      go_wp2_with fail
      go_meet
      exact GF20.out
  case rest =>
    obtain ⟨k, ao, co, fp, rfl, hk, hx, how, hnd, hl⟩ := hcut
    have hrr := HRR.out
    clear HRR HVL hd1 hn1
    subst hrr
    have HX := Lib.hid hx
    have HOW := Lib.hid how
    have HND := Lib.hid hnd
    have HBC := Lib.hid (below_then HB1.out hl)
    have HRC := Lib.hid (HRES.out.later hl)
    have HNR := Lib.hid (show w.heap.size ∉ fp from fun q => by have h1 := (rowC.ow_lt how _ q).1; have h2 := HZ1.out; omega)
    have HBS := Lib.hid (show w.heap.size ≤ W1.heap.size by have := HZ1.out; omega)
    have HFM := Lib.hid (DepFmt.spec_fmtd (pN s) (pV s) (pT s) _ _ wc (rowC.ow_rd how))
    clear hx how hnd hk hl
    obtain ⟨x0, x1, x2, _, _, _⟩ := HX.out
    by_cases hfs : DepFmt.fmtD (pN s) (pV s) (pT s) = s
    · have HWHY := Lib.hid (show pdOk s = true from decide_eq_true ⟨HP.out.1, HP.out.2, hfs⟩)
      rw [hfs] at HFM
      clear hfs
      go_wp2_with fail
      refine HFM.out.mono ?_
      rintro e w9 ⟨rfl, hb9⟩
      obtain ⟨x0, x1, x2, _, _, _⟩ := HX.out.later hb9
      obtain ⟨p0, p1, p2, q0, q1, q2⟩ := HRC.out.later hb9
      have HB9 := Lib.hid (below_then HBC.out hb9)
      have HO9 := Lib.hid (Cd.ow_later HOW.out hb9)
      clear hb9
      go_wp2_with fail
      obtain ⟨k0, k1, k2⟩ := set3 (w := w9) (k := w.heap.size) (x := .string (pN s)) (y := .slice ao (pV s).length co) (z := .int .i64 (pT s)) p0 p1 p2
      refine bodyPost_ret (v := .tuple #[.agg #[.string (pN s), .slice ao (pV s).length co, .int .i64 (pT s)], .bool true]) (by simp [results, Tryd.results24, go_sem, k0, k1, k2]) rfl (PAns.yes HWHY.out ?_ HND.out ?_)
      · have hn : w.heap.size ∉ fp := HNR.out
        exact rowC.ow_base (ow_setCell (ow_setCell (ow_setCell HO9.out hn _) hn _) hn _) HBS.out
      · exact ((HB9.out.setCell (Nat.le_refl _) _).setCell (Nat.le_refl _) _).setCell (Nat.le_refl _) _
    · have HF := Lib.hid (show pdOk s = false from decide_eq_false fun q => hfs q.2.2)
      have hne := str_ne hfs
      clear hfs
      generalize DepFmt.fmtD (pN s) (pV s) (pT s) = fs at *
      go_wp2_with fail
      refine HFM.out.mono ?_
      rintro e w9 ⟨rfl, hb9⟩
      obtain ⟨p0, p1, p2, q0, q1, q2⟩ := HRC.out.later hb9
      have HB9 := Lib.hid (below_then HBC.out hb9)
      clear hb9
      go_wp2_with fail
      obtain ⟨k0, k1, k2⟩ := set3 (w := w9) (k := w.heap.size) (x := .string ⟨#[]⟩) (y := .slice none 0 0) (z := .int .i64 0) p0 p1 p2
      refine bodyPost_ret (v := .tuple #[.agg #[.string ⟨#[]⟩, .slice none 0 0, .int .i64 0], .bool false]) (by simp [results, Tryd.results24, go_sem, k0, k1, k2]) rfl (PAns.no HF.out ?_)
      exact ((Below.setCell HB9.out (Nat.le_refl _) _).setCell (Nat.le_refl _) _).setCell (Nat.le_refl _) _
end Go.Proofs.YtnoennmhifmolaaDoor.DepPar
