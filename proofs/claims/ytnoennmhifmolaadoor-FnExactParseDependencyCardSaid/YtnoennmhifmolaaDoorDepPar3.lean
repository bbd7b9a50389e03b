/- Dependencies: read: the program's function. -/
import Derived.Test.YtnoennmhifmolaaDoorDepPar
namespace Go.Proofs.YtnoennmhifmolaaDoor.DepPar
open Go Go.RowKit Byt Ints IntsLaw Cd Rows2 Tab TabSpec Exact TabParse

set_option maxRecDepth 100000 in
set_option maxHeartbeats 6400000 in
theorem impl_pard (s : ByteArray) (w : World) (hs : s.size ≤ 1048576) (hr : Ready w) : Calls Tryd.prog 25 #[.string s] w fun e w' => PAns s w e w' := by
  obtain ⟨H, T, has, hc, hp, hq⟩ := cut_at s hs
  have HC := Lib.hid (fun w' (hb : Below w.heap.size w w') => hc w' (ready_later hr hb))
  have HTB := Lib.hid (fun w' (hb : Below w.heap.size w w') => Format.tab_later hb hr.1)
  have HR0 := Lib.hid (Loc3.of (row_alloc w (.cells #[.string ⟨#[]⟩, .slice none 0 0, .int .i64 0] 42 (0, 0))))
  have HB0 := Lib.hid (below_alloc w (.cells #[.string ⟨#[]⟩, .slice none 0 0, .int .i64 0] 42 (0, 0)))
  have HZ0 := Lib.hid (size_alloc w (.cells #[.string ⟨#[]⟩, .slice none 0 0, .int .i64 0] 42 (0, 0)))
  clear hc hr hs
  by_cases h5 : 5 < s.size
  · have HF := Lib.hid (show pdOk s = false from decide_eq_false fun q => by omega)
    have t1 : (5 : Int) < (s.size : Int) := by omega
    clear hp hq h5
    go_enter Tryd.func25, Tryd.ntmps25
    go_wp2_with fail
    generalize w.alloc _ = W0 at *
    refine (HC.out W0 HB0.out).mono ?_
    rintro e W1 ⟨rfl, hq1⟩
    have HRES := Lib.hid (HR0.out.later hq1)
    have HB1 := Lib.hid (below_then HB0.out hq1)
    have HZ1 := Lib.hid (show w.heap.size < W1.heap.size from by have h1 := hq1.size; have h2 := HZ0.out; omega)
    clear hq1 HC HR0 HB0 HZ0
    obtain ⟨p0, p1, p2, q0, q1, q2⟩ := HRES.out
    go_wp2_with fail
    obtain ⟨k0, k1, k2⟩ := set3 (w := W1) (k := w.heap.size) (x := .string ⟨#[]⟩) (y := .slice none 0 0) (z := .int .i64 0) p0 p1 p2
    refine bodyPost_ret (v := .tuple #[.agg #[.string ⟨#[]⟩, .slice none 0 0, .int .i64 0], .bool false]) (by simp [results, Tryd.results25, go_sem, k0, k1, k2]) rfl (PAns.no HF.out ?_)
    exact ((Below.setCell HB1.out (Nat.le_refl _) _).setCell (Nat.le_refl _) _).setCell (Nat.le_refl _) _
  have t1 : ¬ (5 : Int) < (s.size : Int) := by omega
  by_cases hH : H.size = 0
  · have HF := Lib.hid (show pdOk s = false by cases hk : pdOk s with | false => rfl | true => exact absurd hH (hq hk).1)
    have hH0 : H = ⟨#[]⟩ := ba_nil hH
    clear hp hq hH h5
    subst hH0
    go_enter Tryd.func25, Tryd.ntmps25
    go_wp2_with fail
    generalize w.alloc _ = W0 at *
    refine (HC.out W0 HB0.out).mono ?_
    rintro e W1 ⟨rfl, hq1⟩
    have HRES := Lib.hid (HR0.out.later hq1)
    have HB1 := Lib.hid (below_then HB0.out hq1)
    have HZ1 := Lib.hid (show w.heap.size < W1.heap.size from by have h1 := hq1.size; have h2 := HZ0.out; omega)
    clear hq1 HC HR0 HB0 HZ0
    obtain ⟨p0, p1, p2, q0, q1, q2⟩ := HRES.out
    go_wp2_with fail
    obtain ⟨k0, k1, k2⟩ := set3 (w := W1) (k := w.heap.size) (x := .string ⟨#[]⟩) (y := .slice none 0 0) (z := .int .i64 0) p0 p1 p2
    refine bodyPost_ret (v := .tuple #[.agg #[.string ⟨#[]⟩, .slice none 0 0, .int .i64 0], .bool false]) (by simp [results, Tryd.results25, go_sem, k0, k1, k2]) rfl (PAns.no HF.out ?_)
    exact ((Below.setCell HB1.out (Nat.le_refl _) _).setCell (Nat.le_refl _) _).setCell (Nat.le_refl _) _
  have hne0 := str_ne (show H ≠ ⟨#[]⟩ from fun q => hH (by rw [q]; rfl))
  have hem : H.toList.isEmpty = false := by
    cases hx : H.toList with
    | nil => exact absurd (show H.size = 0 by rw [← len_s, ← ByteArray.toList_eq, hx]; rfl) hH
    | cons x r => rfl
  by_cases hT : T.size = 1
  case neg =>
    have HF := Lib.hid (show pdOk s = false by cases hk : pdOk s with | false => rfl | true => exact absurd (hq hk).2 hT)
    have t3 : ((T.size : Int) == 1) = false := beq_eq_false_iff_ne.2 (by omega)
    have t4 : ((T.size : Int) != 1) = true := by rw [bne, t3]; rfl
    clear hp hq hH h5 hT
    go_enter Tryd.func25, Tryd.ntmps25
    go_wp2_with fail
    generalize w.alloc _ = W0 at *
    refine (HC.out W0 HB0.out).mono ?_
    rintro e W1 ⟨rfl, hq1⟩
    have HRES := Lib.hid (HR0.out.later hq1)
    have HB1 := Lib.hid (below_then HB0.out hq1)
    have HZ1 := Lib.hid (show w.heap.size < W1.heap.size from by have h1 := hq1.size; have h2 := HZ0.out; omega)
    clear hq1 HC HR0 HB0 HZ0
    obtain ⟨p0, p1, p2, q0, q1, q2⟩ := HRES.out
    go_wp2_with fail
    obtain ⟨k0, k1, k2⟩ := set3 (w := W1) (k := w.heap.size) (x := .string ⟨#[]⟩) (y := .slice none 0 0) (z := .int .i64 0) p0 p1 p2
    refine bodyPost_ret (v := .tuple #[.agg #[.string ⟨#[]⟩, .slice none 0 0, .int .i64 0], .bool false]) (by simp [results, Tryd.results25, go_sem, k0, k1, k2]) rfl (PAns.no HF.out ?_)
    exact ((Below.setCell HB1.out (Nat.le_refl _) _).setCell (Nat.le_refl _) _).setCell (Nat.le_refl _) _
  have t3 : (T.size : Int) = 1 := by omega
  obtain ⟨hp3, hHs, hn1, hpv, hi1, hd1⟩ := hp (by omega) hH hT
  have HP := Lib.hid (show 3 ≤ s.size ∧ s.size ≤ 5 from ⟨hp3, by omega⟩)
  have i0 : (0 : Int) < (T.size : Int) := by omega
  have i1 : (1 : Int) ≤ (H.size : Int) := by omega
  have HVL := Lib.hid (fun w' (h : (H.extract 1 H.size).size ≤ 1048577) => digits_row (H.extract 1 H.size) w' h)
  replace HVL := Lib.hid (fun w' => HVL.out w' (by rw [ByteArray.size_extract]; omega))
  have HCL := Lib.hid (fun w' => TabImp.str_clone (H.extract 0 1) w' (by rw [ByteArray.size_extract]; omega))
  have HRR := Lib.hid (show pV s = vals (H.extract 1 H.size).data.toList from hpv.symm)
  rw [hn1] at HCL
  generalize vals (H.extract 1 H.size).data.toList = rr at *
  clear hp hq hH h5 hT hpv hp3 hHs
  go_enter Tryd.func25, Tryd.ntmps25
  go_wp2_with fail
  generalize w.alloc _ = W0 at *
  refine (HC.out W0 HB0.out).mono ?_
  rintro e W1 ⟨rfl, hq1⟩
  have HRES := Lib.hid (HR0.out.later hq1)
  have HB1 := Lib.hid (below_then HB0.out hq1)
  have HZ1 := Lib.hid (show w.heap.size < W1.heap.size from by have h1 := hq1.size; have h2 := HZ0.out; omega)
  clear hq1 HC HR0 HB0 HZ0
  go_upto_region 4 with fail
  go_cut [7] (fun s4 wx => MadeD W1 (pN s) rr (pT s) s4 wx)
  case first =>
    have hd0 : Below W1.heap.size W1 W1.drew := Below.drew (Below.refl _ _)
    have B0 := Lib.hid hd0
    clear hd0
    refine wp_region_held_drew (S := fun _ => True) (by kernel_rfl) ?_ (fun hHeld => ?_)
    · trivial
    generalize World.drew W1 = wy0 at *
    refine RegH.takeH (i := 0) (v := ?_) rfl (by kernel_rfl) (by kernel_rfl) (by kernel_rfl) (fun _ _ _ h => h) (Or.inl ⟨by rfl, ?_⟩) (by assumption) ?_
    rotate_left
    · (intro wS hSw; (try dsimp only at hSw); (skip); go_simp; try (with_reducible rfl))
    try simp only [Act.put, List.setIfInBounds_toArray, List.set_cons_zero, List.set_cons_succ]
    refine RegH.takeH (i := 1) (v := ?_) rfl (by kernel_rfl) (by kernel_rfl) (by kernel_rfl) (fun _ _ _ h => h) (Or.inl ⟨by rfl, ?_⟩) (by assumption) ?_
    rotate_left
    · (intro wS hSw; (try dsimp only at hSw); (skip); go_simp; try (with_reducible rfl))
    try simp only [Act.put, List.setIfInBounds_toArray, List.set_cons_zero, List.set_cons_succ]
    refine RegH.takeH (i := 3) (v := ?_) rfl (by kernel_rfl) (by kernel_rfl) (by kernel_rfl) (fun _ _ _ h => h) (Or.inl ⟨by rfl, ?_⟩) (by assumption) ?_
    rotate_left
    · (intro wS hSw; (try dsimp only at hSw); (skip); go_simp; try (with_reducible rfl))
    try simp only [Act.put, List.setIfInBounds_toArray, List.set_cons_zero, List.set_cons_succ]
    refine RegH.takeH (i := 4) (v := ?_) rfl (by kernel_rfl) (by kernel_rfl) (by kernel_rfl) (fun _ _ _ h => h) (Or.inl ⟨by rfl, ?_⟩) (by assumption) ?_
    rotate_left
    · (intro wS hSw; (try dsimp only at hSw); (skip); go_simp; try (with_reducible rfl))
    try simp only [Act.put, List.setIfInBounds_toArray, List.set_cons_zero, List.set_cons_succ]
    refine RegH.takeH (i := 6) (v := ?_) rfl (by kernel_rfl) (by kernel_rfl) (by kernel_rfl) (fun _ _ _ h => h) (Or.inl ⟨by rfl, ?_⟩) (by assumption) ?_
    rotate_left
    · (intro wS hSw; (try dsimp only at hSw); (skip); go_simp; try (with_reducible rfl))
    try simp only [Act.put, List.setIfInBounds_toArray, List.set_cons_zero, List.set_cons_succ]
    refine RegH.takeH (i := 7) (v := ?_) rfl (by kernel_rfl) (by kernel_rfl) (by kernel_rfl) (fun _ _ _ h => h) (Or.inl ⟨by rfl, ?_⟩) (by assumption) ?_
    rotate_left
    · (intro wS hSw; (try dsimp only at hSw); (skip); go_simp; try (with_reducible rfl))
    try simp only [Act.put, List.setIfInBounds_toArray, List.set_cons_zero, List.set_cons_succ]
    refine RegH.consH2 (i := 2) (j := 10) rfl rfl (by kernel_rfl) (fun K hK => ?_) (fun K hK => ?_)
    · skip
      go_simp
      go_at_call 39
      refine (HCL.out wy0).mono ?_
      rintro e wy1 ⟨rfl, hq⟩
      have B2 := Lib.hid (below_then B0.out hq)
      clear hq
      (try go_wp2_with fail)
      refine hK.out _ _ ?_ (fun hHeld => ?_)
      · trivial
      clear hK K
      try simp only [Act.put, List.setIfInBounds_toArray, List.set_cons_zero, List.set_cons_succ]
      refine RegH.consH2 (i := 5) (j := 10) rfl rfl (by kernel_rfl) (fun K hK => ?_) (fun K hK => ?_)
      · skip
        go_simp
        go_at_call 53
        refine (HVL.out wy1).mono ?_
        rintro e wy3 ⟨v1, f1, rfl, how, hnd, hq⟩
        obtain ⟨a1, c1, rfl⟩ := Cd.ow_slice how
        have HO := Lib.hid (rowC.ow_base how B2.out.size)
        have HLT := Lib.hid (rowC.ow_lt how)
        have HND := Lib.hid hnd
        have B4 := Lib.hid (below_then B2.out hq)
        clear how hnd hq
        (try go_wp2_with fail)
        refine hK.out _ _ ?_ (fun hHeld => ?_)
        · trivial
        clear hK K
        try simp only [Act.put, List.setIfInBounds_toArray, List.set_cons_zero, List.set_cons_succ]
        refine RegH.consH2 (i := 8) (j := 10) rfl rfl (by kernel_rfl) (fun K hK => ?_) (fun K hK => ?_)
        · skip
          go_simp
          go_at_call 40
          refine (Dig.parse_digit _ wy3).mono ?_
          rintro e wy5 ⟨rfl, rfl⟩
          (try go_wp2_with fail)
          refine hK.out _ _ ?_ (fun hHeld => ?_)
          · trivial
          clear hK K
          try simp only [Act.put, List.setIfInBounds_toArray, List.set_cons_zero, List.set_cons_succ]
          refine RegH.takeH (i := 9) (v := ?_) rfl (by kernel_rfl) (by kernel_rfl) (by kernel_rfl) (fun _ _ _ h => h) (Or.inl ⟨by rfl, ?_⟩) (by assumption) ?_
          rotate_left
          · (intro wS hSw; (try dsimp only at hSw); (skip); go_simp; try (with_reducible rfl))
          try simp only [Act.put, List.setIfInBounds_toArray, List.set_cons_zero, List.set_cons_succ]
          refine RegH.consH (i := 10) rfl (by kernel_rfl) (fun K hK => ?_)
          go_simp
          generalize hg : World.alloc wy3 _ = wy7
          obtain ⟨rg, zz, hq⟩ := start1 wy3 _ hg
          clear hg zz
          have GL8 := Lib.hid (Loc3.of rg)
          have GK10 := Lib.hid (show W1.heap.size ≤ wy3.heap.size from B4.out.size)
          have B9 := Lib.hid (below_then B4.out hq)
          have HO11 := Lib.hid (Cd.ow_later HO.out hq)
          have HNK12 := Lib.hid (show wy3.heap.size ∉ f1 from fun q => by have h1 := (HLT.out _ q).2; omega)
          clear rg hq
          refine hK.out _ _ ?_ (fun hHeld => ?_)
          · trivial
          clear hK K
          try simp only [Act.put, List.setIfInBounds_toArray, List.set_cons_zero, List.set_cons_succ]
          have k1 := GL8.out.c0; have k2 := GL8.out.f0; have k3 := GL8.out.c1; have k4 := GL8.out.f1; have k5 := GL8.out.c2; have k6 := GL8.out.f2
          refine RegH.consH (i := 11) rfl (by kernel_rfl) (fun K hK => ?_)
          go_simp
          have GF14 := Lib.hid (madeD (nm := pN s) (t := pT s) B9.out GK10.out GL8.out HO11.out rfl HND.out HNK12.out)
          clear k1 k2 k3 k4 k5 k6
          (try rw [wr_byte]); (try rw [hd1]); (try rw [hn1])
          generalize World.setCell (World.setCell (World.setCell wy7 ⟨wy3.heap.size, 0, none⟩ (.string (pN s))) ⟨wy3.heap.size, 1, none⟩ (.slice a1 rr.length c1)) ⟨wy3.heap.size, 2, none⟩ (.int .i64 (pT s)) = wy13 at *
          refine hK.out _ _ ?_ (fun hHeld => ?_)
          · trivial
          clear hK K
          try simp only [Act.put, List.setIfInBounds_toArray, List.set_cons_zero, List.set_cons_succ]
          refine wpAnyH_done (by kernel_rfl) ?_ _
          go_wp2_with fail
          go_meet
          exact GF14.out
        · skip
          go_simp
          generalize hg : World.alloc wy3 _ = wy15
          obtain ⟨rg, zz, hq⟩ := start1 wy3 _ hg
          clear hg zz
          have GL16 := Lib.hid (Loc3.of rg)
          have GK18 := Lib.hid (show W1.heap.size ≤ wy3.heap.size from B4.out.size)
          have B17 := Lib.hid (below_then B4.out hq)
          have HO19 := Lib.hid (Cd.ow_later HO.out hq)
          have HNK20 := Lib.hid (show wy3.heap.size ∉ f1 from fun q => by have h1 := (HLT.out _ q).2; omega)
          clear rg hq
          refine hK.out _ _ ?_ (fun hHeld => ?_)
          · trivial
          clear hK K
          try simp only [Act.put, List.setIfInBounds_toArray, List.set_cons_zero, List.set_cons_succ]
          refine RegH.consH (i := 8) rfl (by kernel_rfl) (fun K hK => ?_)
          go_simp
          go_at_call 40
          refine (Dig.parse_digit _ wy15).mono ?_
          rintro e wy21 ⟨rfl, rfl⟩
          (try go_wp2_with fail)
          refine hK.out _ _ ?_ (fun hHeld => ?_)
          · trivial
          clear hK K
          try simp only [Act.put, List.setIfInBounds_toArray, List.set_cons_zero, List.set_cons_succ]
          refine RegH.takeH (i := 9) (v := ?_) rfl (by kernel_rfl) (by kernel_rfl) (by kernel_rfl) (fun _ _ _ h => h) (Or.inl ⟨by rfl, ?_⟩) (by assumption) ?_
          rotate_left
          · (intro wS hSw; (try dsimp only at hSw); (skip); go_simp; try (with_reducible rfl))
          try simp only [Act.put, List.setIfInBounds_toArray, List.set_cons_zero, List.set_cons_succ]
          have k1 := GL16.out.c0; have k2 := GL16.out.f0; have k3 := GL16.out.c1; have k4 := GL16.out.f1; have k5 := GL16.out.c2; have k6 := GL16.out.f2
          refine RegH.consH (i := 11) rfl (by kernel_rfl) (fun K hK => ?_)
          go_simp
          have GF24 := Lib.hid (madeD (nm := pN s) (t := pT s) B17.out GK18.out GL16.out HO19.out rfl HND.out HNK20.out)
          clear k1 k2 k3 k4 k5 k6
          (try rw [wr_byte]); (try rw [hd1]); (try rw [hn1])
          generalize World.setCell (World.setCell (World.setCell wy15 ⟨wy3.heap.size, 0, none⟩ (.string (pN s))) ⟨wy3.heap.size, 1, none⟩ (.slice a1 rr.length c1)) ⟨wy3.heap.size, 2, none⟩ (.int .i64 (pT s)) = wy23 at *
          refine hK.out _ _ ?_ (fun hHeld => ?_)
          · trivial
          clear hK K
          try simp only [Act.put, List.setIfInBounds_toArray, List.set_cons_zero, List.set_cons_succ]
          refine wpAnyH_done (by kernel_rfl) ?_ _
          go_wp2_with fail
          go_meet
          exact GF24.out
      · skip
        go_simp
        generalize hg : World.alloc wy1 _ = wy25
        obtain ⟨rg, zz, hq⟩ := start1 wy1 _ hg
        clear hg zz
        have GL26 := Lib.hid (Loc3.of rg)
        have GK28 := Lib.hid (show W1.heap.size ≤ wy1.heap.size from B2.out.size)
        have B27 := Lib.hid (below_then B2.out hq)
        clear rg hq
        refine hK.out _ _ ?_ (fun hHeld => ?_)
        · trivial
        clear hK K
        try simp only [Act.put, List.setIfInBounds_toArray, List.set_cons_zero, List.set_cons_succ]
        refine RegH.consH (i := 5) rfl (by kernel_rfl) (fun K hK => ?_)
        go_simp
        go_at_call 53
        refine (HVL.out wy25).mono ?_
        rintro e wy29 ⟨v1, f1, rfl, how, hnd, hq⟩
        obtain ⟨a1, c1, rfl⟩ := Cd.ow_slice how
        have HO := Lib.hid (rowC.ow_base how B27.out.size)
        have HLT := Lib.hid (rowC.ow_lt how)
        have HND := Lib.hid hnd
        have B30 := Lib.hid (below_then B27.out hq)
        have HNK32 := Lib.hid (show wy1.heap.size ∉ f1 from fun q => by have h1 := (HLT.out _ q).1; have h2 := GL26.out.lt; omega)
        have GL31 := Lib.hid (GL26.out.later hq)
        clear how hnd hq
        (try go_wp2_with fail)
        refine hK.out _ _ ?_ (fun hHeld => ?_)
        · trivial
        clear hK K
        try simp only [Act.put, List.setIfInBounds_toArray, List.set_cons_zero, List.set_cons_succ]
        refine RegH.consH (i := 8) rfl (by kernel_rfl) (fun K hK => ?_)
        go_simp
        go_at_call 40
        refine (Dig.parse_digit _ wy29).mono ?_
        rintro e wy33 ⟨rfl, rfl⟩
        (try go_wp2_with fail)
        refine hK.out _ _ ?_ (fun hHeld => ?_)
        · trivial
        clear hK K
        try simp only [Act.put, List.setIfInBounds_toArray, List.set_cons_zero, List.set_cons_succ]
        refine RegH.takeH (i := 9) (v := ?_) rfl (by kernel_rfl) (by kernel_rfl) (by kernel_rfl) (fun _ _ _ h => h) (Or.inl ⟨by rfl, ?_⟩) (by assumption) ?_
        rotate_left
        · (intro wS hSw; (try dsimp only at hSw); (skip); go_simp; try (with_reducible rfl))
        try simp only [Act.put, List.setIfInBounds_toArray, List.set_cons_zero, List.set_cons_succ]
        have k1 := GL31.out.c0; have k2 := GL31.out.f0; have k3 := GL31.out.c1; have k4 := GL31.out.f1; have k5 := GL31.out.c2; have k6 := GL31.out.f2
        refine RegH.consH (i := 11) rfl (by kernel_rfl) (fun K hK => ?_)
        go_simp
        have GF36 := Lib.hid (madeD (nm := pN s) (t := pT s) B30.out GK28.out GL31.out HO.out rfl HND.out HNK32.out)
        clear k1 k2 k3 k4 k5 k6
        (try rw [wr_byte]); (try rw [hd1]); (try rw [hn1])
        generalize World.setCell (World.setCell (World.setCell wy29 ⟨wy1.heap.size, 0, none⟩ (.string (pN s))) ⟨wy1.heap.size, 1, none⟩ (.slice a1 rr.length c1)) ⟨wy1.heap.size, 2, none⟩ (.int .i64 (pT s)) = wy35 at *
        refine hK.out _ _ ?_ (fun hHeld => ?_)
        · trivial
        clear hK K
        try simp only [Act.put, List.setIfInBounds_toArray, List.set_cons_zero, List.set_cons_succ]
        refine wpAnyH_done (by kernel_rfl) ?_ _
        go_wp2_with fail
        go_meet
        exact GF36.out
    · skip
      go_simp
      generalize hg : World.alloc wy0 _ = wy37
      obtain ⟨rg, zz, hq⟩ := start1 wy0 _ hg
      clear hg zz
      have GL38 := Lib.hid (Loc3.of rg)
      have GK40 := Lib.hid (show W1.heap.size ≤ wy0.heap.size from B0.out.size)
      have B39 := Lib.hid (below_then B0.out hq)
      clear rg hq
      refine hK.out _ _ ?_ (fun hHeld => ?_)
      · trivial
      clear hK K
      try simp only [Act.put, List.setIfInBounds_toArray, List.set_cons_zero, List.set_cons_succ]
      refine RegH.consH (i := 2) rfl (by kernel_rfl) (fun K hK => ?_)
      go_simp
      go_at_call 39
      refine (HCL.out wy37).mono ?_
      rintro e wy41 ⟨rfl, hq⟩
      have B42 := Lib.hid (below_then B39.out hq)
      have GL43 := Lib.hid (GL38.out.later hq)
      clear hq
      (try go_wp2_with fail)
      refine hK.out _ _ ?_ (fun hHeld => ?_)
      · trivial
      clear hK K
      try simp only [Act.put, List.setIfInBounds_toArray, List.set_cons_zero, List.set_cons_succ]
      refine RegH.consH (i := 5) rfl (by kernel_rfl) (fun K hK => ?_)
      go_simp
      go_at_call 53
      refine (HVL.out wy41).mono ?_
      rintro e wy44 ⟨v1, f1, rfl, how, hnd, hq⟩
      obtain ⟨a1, c1, rfl⟩ := Cd.ow_slice how
      have HO := Lib.hid (rowC.ow_base how B42.out.size)
      have HLT := Lib.hid (rowC.ow_lt how)
      have HND := Lib.hid hnd
      have B45 := Lib.hid (below_then B42.out hq)
      have HNK47 := Lib.hid (show wy0.heap.size ∉ f1 from fun q => by have h1 := (HLT.out _ q).1; have h2 := GL43.out.lt; omega)
      have GL46 := Lib.hid (GL43.out.later hq)
      clear how hnd hq
      (try go_wp2_with fail)
      refine hK.out _ _ ?_ (fun hHeld => ?_)
      · trivial
      clear hK K
      try simp only [Act.put, List.setIfInBounds_toArray, List.set_cons_zero, List.set_cons_succ]
      refine RegH.consH (i := 8) rfl (by kernel_rfl) (fun K hK => ?_)
      go_simp
      go_at_call 40
      refine (Dig.parse_digit _ wy44).mono ?_
      rintro e wy48 ⟨rfl, rfl⟩
      (try go_wp2_with fail)
      refine hK.out _ _ ?_ (fun hHeld => ?_)
      · trivial
      clear hK K
      try simp only [Act.put, List.setIfInBounds_toArray, List.set_cons_zero, List.set_cons_succ]
      refine RegH.takeH (i := 9) (v := ?_) rfl (by kernel_rfl) (by kernel_rfl) (by kernel_rfl) (fun _ _ _ h => h) (Or.inl ⟨by rfl, ?_⟩) (by assumption) ?_
      rotate_left
      · (intro wS hSw; (try dsimp only at hSw); (skip); go_simp; try (with_reducible rfl))
      try simp only [Act.put, List.setIfInBounds_toArray, List.set_cons_zero, List.set_cons_succ]
      have k1 := GL46.out.c0; have k2 := GL46.out.f0; have k3 := GL46.out.c1; have k4 := GL46.out.f1; have k5 := GL46.out.c2; have k6 := GL46.out.f2
      refine RegH.consH (i := 11) rfl (by kernel_rfl) (fun K hK => ?_)
      go_simp
      have GF51 := Lib.hid (madeD (nm := pN s) (t := pT s) B45.out GK40.out GL46.out HO.out rfl HND.out HNK47.out)
      clear k1 k2 k3 k4 k5 k6
      (try rw [wr_byte]); (try rw [hd1]); (try rw [hn1])
      generalize World.setCell (World.setCell (World.setCell wy44 ⟨wy0.heap.size, 0, none⟩ (.string (pN s))) ⟨wy0.heap.size, 1, none⟩ (.slice a1 rr.length c1)) ⟨wy0.heap.size, 2, none⟩ (.int .i64 (pT s)) = wy50 at *
      refine hK.out _ _ ?_ (fun hHeld => ?_)
      · trivial
      clear hK K
      try simp only [Act.put, List.setIfInBounds_toArray, List.set_cons_zero, List.set_cons_succ]
      refine wpAnyH_done (by kernel_rfl) ?_ _
      go_wp2_with fail
      go_meet
      exact GF51.out
  case rest =>
    obtain ⟨k, ao, co, fp, rfl, hk, hx, how, hnd, hl⟩ := hcut
    have hrr := HRR.out
    clear HRR HVL hd1 hn1
    subst hrr
    have HX := Lib.hid hx
    have HOW := Lib.hid how
    have HND := Lib.hid hnd
    have HBC := Lib.hid (below_then HB1.out hl)
    have HRC := Lib.hid (HRES.out.later hl)
    have HNR := Lib.hid (show w.heap.size ∉ fp from fun q => by have h1 := (rowC.ow_lt how _ q).1; have h2 := HZ1.out; omega)
    have HBS := Lib.hid (show w.heap.size ≤ W1.heap.size by have := HZ1.out; omega)
    have HFM := Lib.hid (DepFmt.impl_fmtd (pN s) (pV s) (pT s) _ _ wc (rowC.ow_rd how) (HTB.out wc HBC.out))
    clear hx how hnd hk hl
    obtain ⟨x0, x1, x2, _, _, _⟩ := HX.out
    by_cases hfs : DepFmt.fmtD (pN s) (pV s) (pT s) = s
    · have HWHY := Lib.hid (show pdOk s = true from decide_eq_true ⟨HP.out.1, HP.out.2, hfs⟩)
      rw [hfs] at HFM
      clear hfs
      go_wp2_with fail
      refine HFM.out.mono ?_
      rintro e w9 ⟨rfl, hb9⟩
      obtain ⟨x0, x1, x2, _, _, _⟩ := HX.out.later hb9
      obtain ⟨p0, p1, p2, q0, q1, q2⟩ := HRC.out.later hb9
      have HB9 := Lib.hid (below_then HBC.out hb9)
      have HO9 := Lib.hid (Cd.ow_later HOW.out hb9)
      clear hb9
      go_wp2_with fail
      obtain ⟨k0, k1, k2⟩ := set3 (w := w9) (k := w.heap.size) (x := .string (pN s)) (y := .slice ao (pV s).length co) (z := .int .i64 (pT s)) p0 p1 p2
      refine bodyPost_ret (v := .tuple #[.agg #[.string (pN s), .slice ao (pV s).length co, .int .i64 (pT s)], .bool true]) (by simp [results, Tryd.results25, go_sem, k0, k1, k2]) rfl (PAns.yes HWHY.out ?_ HND.out ?_)
      · have hn : w.heap.size ∉ fp := HNR.out
        exact rowC.ow_base (ow_setCell (ow_setCell (ow_setCell HO9.out hn _) hn _) hn _) HBS.out
      · exact ((HB9.out.setCell (Nat.le_refl _) _).setCell (Nat.le_refl _) _).setCell (Nat.le_refl _) _
    · have HF := Lib.hid (show pdOk s = false from decide_eq_false fun q => hfs q.2.2)
      have hne := str_ne hfs
      clear hfs
      generalize DepFmt.fmtD (pN s) (pV s) (pT s) = fs at *
      go_wp2_with fail
      refine HFM.out.mono ?_
      rintro e w9 ⟨rfl, hb9⟩
      obtain ⟨p0, p1, p2, q0, q1, q2⟩ := HRC.out.later hb9
      have HB9 := Lib.hid (below_then HBC.out hb9)
      clear hb9
      go_wp2_with fail
      obtain ⟨k0, k1, k2⟩ := set3 (w := w9) (k := w.heap.size) (x := .string ⟨#[]⟩) (y := .slice none 0 0) (z := .int .i64 0) p0 p1 p2
      refine bodyPost_ret (v := .tuple #[.agg #[.string ⟨#[]⟩, .slice none 0 0, .int .i64 0], .bool false]) (by simp [results, Tryd.results25, go_sem, k0, k1, k2]) rfl (PAns.no HF.out ?_)
      exact ((Below.setCell HB9.out (Nat.le_refl _) _).setCell (Nat.le_refl _) _).setCell (Nat.le_refl _) _
end Go.Proofs.YtnoennmhifmolaaDoor.DepPar
