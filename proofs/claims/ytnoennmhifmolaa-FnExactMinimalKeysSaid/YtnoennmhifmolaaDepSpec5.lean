/- Dependencies: the model's keys. -/
import Derived.Test.YtnoennmhifmolaaDepSpec4
import Derived.Test.YtnoennmhifmolaaRegH
namespace Go.Proofs.Ytnoennmhifmolaa.DepClo
open Go Go.RowKit Byt Ints IntsLaw Cd Rows2 Tab SlMath TabSpec Exact Dep MkDep QryMath DepMath
open DegMath (colsOk gcOk)

/-- The list holds all columns below n. -/
def covN (a : List Int) (n : Int) : Bool := (List.range n.toNat).all fun k => hasI a (k : Int)
theorem covN_vars {m : Nat} (hm : m < 8) {n : Int} (h3 : n ≤ 3) : covN (varsL m) n = covB m n := by
  unfold covN covB
  rw [Bool.eq_iff_iff, List.all_eq_true, List.all_eq_true]
  constructor <;> intro h v hv <;> have := h v hv <;> have hv3 := List.mem_range.1 hv
  · rw [hasI_vars hm (by omega)] at this; exact this
  · rw [hasI_vars hm (by omega)]; exact this
theorem covN_no {a : List Int} {n : Int} {k : Nat} (h : (k : Int) < n) (hf : hasI a (k : Int) = false) : covN a n = false := by
  unfold covN
  rw [List.all_eq_false]
  exact ⟨k, List.mem_range.2 (by omega), by rw [hf]; decide⟩
theorem covN_yes {a : List Int} {n : Int} {k : Nat} (h : ¬ (k : Int) < n) (hf : ∀ j < k, hasI a (j : Int) = true) : covN a n = true := by
  unfold covN
  rw [List.all_eq_true]
  exact fun v hv => hf v (by have := List.mem_range.1 hv; omega)
set_option maxRecDepth 100000 in
theorem spec_covers (x : Value) (a : List Int) (n : Int) (B : Nat) (w : World) (h1 : RI w x a B) (h3 : n ≤ 3) :
    Calls Try.prog 74 #[x, .int .i64 n] w fun e w' => e = .returned (.bool (covN a n)) ∧ w = w' := by
  have H1 := Lib.hid h1
  obtain ⟨a1, c1, rfl, hl1, _⟩ := h1
  go_enter Try.func74, Try.ntmps74
  go_wp2_with fail
  go_loop [5] (fun i => ∃ k : Nat, k ≤ 3 ∧ i = .int .i64 k ∧ Hid (∀ j < k, hasI a (j : Int) = true)) (fun i => 3 - (intOf i).toNat)
  case atStart => exact ⟨0, Nat.zero_le _, rfl, Lib.hid (fun j h => by omega)⟩
  case round =>
    obtain ⟨k, hk, rfl, hl⟩ := hrel
    by_cases hlt : (k : Int) < n
    · have HH := Lib.hid (QrySpec.spec_has _ a (k : Int) _ w H1.out)
      cases hh : hasI a (k : Int)
      · rw [hh] at HH
        have HZ := Lib.hid (covN_no hlt hh)
        clear hh
        go_wp2_with fail
        refine HH.out.mono ?_
        rintro e w1 ⟨rfl, rfl⟩
        go_wp2_with fail
        go_ret
        exact ⟨ret_b HZ.out.symm, rfl⟩
      · rw [hh] at HH
        have HNX := Lib.hid (show ∀ j < k + 1, hasI a (j : Int) = true from fun j hj => by
          by_cases q : j = k
          · rw [q]; exact hh
          · exact hl.out j (by omega))
        clear hh
        go_wp2_with fail
        refine HH.out.mono ?_
        rintro e w1 ⟨rfl, rfl⟩
        go_wp2_with fail
        go_round
        case rel => exact ⟨k + 1, by omega, by go_num, HNX⟩
        case measure => simp [intOf]; omega
    · have HZ := Lib.hid (covN_yes hlt hl.out)
      go_wp2_with fail
      go_ret
      exact ⟨ret_b HZ.out.symm, rfl⟩
set_option maxRecDepth 100000 in
set_option maxHeartbeats 1600000 in
theorem spec_set (s : Nat) (w : World) (hs : s < 8) :
    Calls Try.prog 81 #[.int .i64 (s : Int)] w fun e w' => ∃ v' fp, e = .returned v' ∧ rowC.ow w' w.heap.size [v'] (varsL s) fp ∧ fp.Nodup ∧ Below w.heap.size w w' := by
  have HW := Lib.hid (And.intro (Ints.OwnI.empty w w.heap.size 3 (Nat.le_refl _)) (below_alloc w (.cells #[] 3)))
  go_enter Try.func81, Try.ntmps81
  go_wp2_with fail
  go_loopw [3, 4] (fun o i wr => ∃ (k : Nat), k ≤ 3 ∧ i = .int .i64 k ∧ OwnI wr w.heap.size 3 o (varsTo s k) ∧ Below w.heap.size w wr) (fun _ i _ => 3 - (intOf i).toNat)
  case atStart => exact ⟨0, Nat.zero_le _, rfl, HW.out.1, HW.out.2⟩
  case round =>
    obtain ⟨k, hk, rfl, hown, hb⟩ := hrel
    have HB := Lib.hid hb
    have hbs := hb.size
    by_cases hlt : k < 3
    · have hbit := QrySpec.bit_at (s := s) (by omega) k
      have p1 : (0 : Int) ≤ (k : Int) := by omega
      have p2 : (k : Int) < 3 := by omega
      have p3 : (k : Int) ≤ 64 := by omega
      have p4 : ((k : Int)).toNat = k := by omega
      have hlen : (varsTo s k).length + 1 ≤ 1000000000000 := by have := varsTo_len s k; omega
      by_cases hx : s / 2 ^ k % 2 = 1
      · have HNX := Lib.hid (varsTo_yes hx)
        rw [hx] at hbit
        clear hx hb
        generalize varsTo s k = out at *
        go_wp2_with (first | (at_builtin; refine wp_appendI rfl (.tmp 15) (.tmp 17) 25 rfl w.heap.size 3 Try.underlying25 info_i64 _ _ rfl hown _ rfl hlen hbs ?_))
        intro v' w5 hown5 hb5
        go_wp2_with fail
        go_roundw
        case rel => exact ⟨k + 1, by omega, by go_num, by rw [HNX.out]; exact hown5, HB.out.trans hb5⟩
        case measure => simp [intOf]; omega
      · have HNX := Lib.hid (varsTo_no hx)
        have hz : s / 2 ^ k % 2 = 0 := by omega
        rw [hz] at hbit
        clear hx hb hz
        go_wp2_with fail
        go_roundw
        case rel => exact ⟨k + 1, by omega, by go_num, by rw [HNX.out]; exact hown, HB.out⟩
        case measure => simp [intOf]; omega
    · have ek : k = 3 := by omega
      subst ek
      have HO := Lib.hid hown
      have HV3 := Lib.hid (vars_three s hs)
      clear hown hb
      go_wp2_with fail
      go_ret
      exact ⟨_, _, rfl, Cd.ow_of_own (by rw [← HV3.out]; exact HO.out) (inr_vars8 s hs), Cd.own_nodup, HB.out⟩
theorem keyOk_no {l : List D3} {nm : ByteArray} {ar : Int} {rows : List (List Int)} {cols : List Int} (h : gcOk nm ar rows cols = false) : keyOk l nm ar rows cols = false := by unfold keyOk; rw [h]; rfl
theorem gc_arity {nm : ByteArray} {ar : Int} {rows : List (List Int)} {cols : List Int} (h : gcOk nm ar rows cols = true) : 1 ≤ ar ∧ ar ≤ 3 := by
  unfold gcOk at h
  rw [Bool.and_eq_true] at h
  have hT : TabP _ _ _ := of_decide_eq_true h.1
  exact ⟨hT.2.1, hT.2.2.1⟩
theorem keyOk_yes {l : List D3} {nm : ByteArray} {ar : Int} {rows : List (List Int)} {cols : List Int} (h : gcOk nm ar rows cols = true) : keyOk l nm ar rows cols = covN (clo l nm cols) ar := by
  unfold keyOk keyM clo
  rw [h, Bool.true_and, covN_vars (clo_lt (mskC_lt cols)) (gc_arity h).2]
set_option maxRecDepth 100000 in
set_option maxHeartbeats 3200000 in
theorem spec_iskey (v u vc : Value) (l : List D3) (nm : ByteArray) (ar : Int) (rows : List (List Int)) (cols : List Int) (S S2 S3 : Nat → Prop) (w : World) (h1 : depsC.rd w S [v] l) (h2 : rowsC.rd w S2 [u] rows) (h3 : rowC.rd w S3 [vc] cols) :
    Calls Try.prog 37 #[v, .agg #[.string nm, .int .i64 ar, u], vc] w fun e w' => e = .returned (.bool (keyOk l nm ar rows cols)) ∧ Below w.heap.size w w' := by
  have HCO := Lib.hid (fun w' (hb : Below w.heap.size w w') => DegSpec.spec_cols nm ar u vc rows cols S2 S3 w' (Cd.later h2 hb) (Cd.later h3 hb))
  have HCL := Lib.hid (fun w' (hb : Below w.heap.size w w') => spec_clo v vc l nm cols S S3 w' (Cd.later h1 hb) (Cd.later h3 hb))
  obtain ⟨a1, cap1, rfl, hl1⟩ := Cd.sl_form h1
  obtain ⟨a2, cap2, rfl, hl2⟩ := rows_form h2
  obtain ⟨a3, cap3, rfl, hl3, _⟩ := (row_ri h3).1
  clear h1 h2 h3
  go_enter Try.func37, Try.ntmps37
  go_upto_region 1 with fail
  generalize hW : w.alloc _ = W
  obtain ⟨r0, z0, hb0⟩ := start1 w _ hW
  clear hW
  have L0 := Lib.hid (Loc3.of r0)
  have HB := Lib.hid hb0
  have HBD := Lib.hid (Below.drew hb0)
  clear r0 hb0
  have y0 := L0.out.c0
  have y1 := L0.out.c1
  have y2 := L0.out.c2
  cases hg : gcOk nm ar rows cols
  · have HZ := Lib.hid (keyOk_no (l := l) hg)
    have HC := Lib.hid (HCO.out _ HBD.out)
    rw [hg] at HC
    clear hg
    go_cut [6] (fun s6 wx => s6 = .bool false ∧ Below w.heap.size w wx)
    case first =>
      refine wp_region_held_drew (S := fun wx => Loc3 wx w.heap.size (.string nm) (.int .i64 ar) (.slice a2 rows.length cap2)) (by kernel_rfl) ?_ (fun hHeld => ?_)
      · exact (L0.out.later (Below.drew (Below.refl _ _)))
      refine RegH.takeH (i := 0) (v := ?_) rfl (by kernel_rfl) (by kernel_rfl) (by kernel_rfl) (fun _ _ _ h => h) (Or.inl ⟨by rfl, ?_⟩) (by assumption) ?_
      rotate_left
      · (intro wS hSw; (try dsimp only at hSw); (have r0 := hSw.c0; have r1 := hSw.c1; have r2 := hSw.c2); go_simp; try (with_reducible rfl))
      try simp only [Act.put, List.setIfInBounds_toArray, List.set_cons_zero, List.set_cons_succ]
      refine RegH.takeH (i := 1) (v := ?_) rfl (by kernel_rfl) (by kernel_rfl) (by kernel_rfl) (fun _ _ _ h => h) (Or.inl ⟨by rfl, ?_⟩) (by assumption) ?_
      rotate_left
      · (intro wS hSw; (try dsimp only at hSw); (skip); go_simp; try (with_reducible rfl))
      try simp only [Act.put, List.setIfInBounds_toArray, List.set_cons_zero, List.set_cons_succ]
      refine RegH.consH (i := 2) rfl (by kernel_rfl) (fun K hK => ?_)
      go_simp
      go_at_call 58
      refine HC.out.mono ?_
      rintro e wq0 ⟨rfl, hbq⟩
      have HQ0 := Lib.hid (below_then HBD.out hbq)
      have HL0 := L0.out.later (undrew hbq)
      clear hbq
      (try go_wp2_with fail)
      refine hK.out _ _ ?_ (fun hHeld => ?_)
      · exact HL0
      clear hK K
      try simp only [Act.put, List.setIfInBounds_toArray, List.set_cons_zero, List.set_cons_succ]
      refine RegH.takeH (i := 3) (v := ?_) rfl (by kernel_rfl) (by kernel_rfl) (by kernel_rfl) (fun _ _ _ h => h) (Or.inl ⟨by rfl, ?_⟩) (by assumption) ?_
      rotate_left
      · (intro wS hSw; (try dsimp only at hSw); (skip); go_simp; try (with_reducible rfl))
      try simp only [Act.put, List.setIfInBounds_toArray, List.set_cons_zero, List.set_cons_succ]
      refine RegH.takeH (i := 4) rfl (by kernel_rfl) (by kernel_rfl) (by kernel_rfl) (fun _ _ _ h => h) (Or.inr ⟨by rfl, rfl⟩) (by assumption) ?_
      try simp only [Act.put, List.setIfInBounds_toArray, List.set_cons_zero, List.set_cons_succ]
      refine RegH.takeH (i := 5) rfl (by kernel_rfl) (by kernel_rfl) (by kernel_rfl) (fun _ _ _ h => h) (Or.inr ⟨by rfl, rfl⟩) (by assumption) ?_
      try simp only [Act.put, List.setIfInBounds_toArray, List.set_cons_zero, List.set_cons_succ]
      refine RegH.takeH (i := 6) rfl (by kernel_rfl) (by kernel_rfl) (by kernel_rfl) (fun _ _ _ h => h) (Or.inr ⟨by rfl, rfl⟩) (by assumption) ?_
      try simp only [Act.put, List.setIfInBounds_toArray, List.set_cons_zero, List.set_cons_succ]
      refine RegH.takeH (i := 7) rfl (by kernel_rfl) (by kernel_rfl) (by kernel_rfl) (fun _ _ _ h => h) (Or.inr ⟨by rfl, rfl⟩) (by assumption) ?_
      try simp only [Act.put, List.setIfInBounds_toArray, List.set_cons_zero, List.set_cons_succ]
      refine RegH.takeH (i := 8) rfl (by kernel_rfl) (by kernel_rfl) (by kernel_rfl) (fun _ _ _ h => h) (Or.inr ⟨by rfl, rfl⟩) (by assumption) ?_
      try simp only [Act.put, List.setIfInBounds_toArray, List.set_cons_zero, List.set_cons_succ]
      refine RegH.takeH (i := 9) rfl (by kernel_rfl) (by kernel_rfl) (by kernel_rfl) (fun _ _ _ h => h) (Or.inr ⟨by rfl, rfl⟩) (by assumption) ?_
      try simp only [Act.put, List.setIfInBounds_toArray, List.set_cons_zero, List.set_cons_succ]
      refine RegH.takeH (i := 10) rfl (by kernel_rfl) (by kernel_rfl) (by kernel_rfl) (fun _ _ _ h => h) (Or.inr ⟨by rfl, rfl⟩) (by assumption) ?_
      try simp only [Act.put, List.setIfInBounds_toArray, List.set_cons_zero, List.set_cons_succ]
      refine RegH.takeH (i := 11) rfl (by kernel_rfl) (by kernel_rfl) (by kernel_rfl) (fun _ _ _ h => h) (Or.inr ⟨by rfl, rfl⟩) (by assumption) ?_
      try simp only [Act.put, List.setIfInBounds_toArray, List.set_cons_zero, List.set_cons_succ]
      refine RegH.takeH (i := 12) (v := ?_) rfl (by kernel_rfl) (by kernel_rfl) (by kernel_rfl) (fun _ _ _ h => h) (Or.inl ⟨by rfl, ?_⟩) (by assumption) ?_
      rotate_left
      · (intro wS hSw; (try dsimp only at hSw); (skip); go_simp; try (with_reducible rfl))
      try simp only [Act.put, List.setIfInBounds_toArray, List.set_cons_zero, List.set_cons_succ]
      refine RegH.takeH (i := 13) (v := ?_) rfl (by kernel_rfl) (by kernel_rfl) (by kernel_rfl) (fun _ _ _ h => h) (Or.inl ⟨by rfl, ?_⟩) (by assumption) ?_
      rotate_left
      · (intro wS hSw; (try dsimp only at hSw); (skip); go_simp; try (with_reducible rfl))
      try simp only [Act.put, List.setIfInBounds_toArray, List.set_cons_zero, List.set_cons_succ]
      refine wpAnyH_done (by kernel_rfl) ?_ _
      go_wp2_with fail
      go_meet
      exact ⟨rfl, HQ0.out⟩
    case rest =>
      obtain ⟨rfl, hbx⟩ := hcut
      go_wp2_with fail
      go_ret
      exact ⟨ret_b HZ.out.symm, hbx⟩
  · have HZ := Lib.hid (keyOk_yes (l := l) hg)
    have HC := Lib.hid (HCO.out _ HBD.out)
    have har := (gc_arity hg).2
    rw [hg] at HC
    clear hg
    go_cut [6] (fun s6 wx => s6 = .bool (covN (clo l nm cols) ar) ∧ Below w.heap.size w wx)
    case first =>
      go_region_law (first | (go_simp; go_at_call 58; refine HC.out.mono ?_; rintro e wq0 ⟨rfl, hbq⟩; (have HQ0 := Lib.hid (below_then HBD.out hbq)); (have HL0 := L0.out.later (undrew hbq)); (have u0 := HL0.c0); (have u1 := HL0.c1); clear hbq HL0) | (go_simp; go_at_call 30; refine (HCL.out _ HQ0.out).mono ?_; rintro e wq1 ⟨vv, ff, rfl, hov, hnv, hbq⟩; (have HQ1 := Lib.hid (below_then HQ0.out hbq)); (have hss : w.heap.size < wq0.heap.size := World.block_lt_of_cell? _ _ u0); (have t1 := (hbq.cell (p := ⟨w.heap.size, 1, none⟩) hss).trans u1); (have HRV := Lib.hid (row_ri (rowC.ow_rd hov)).1); clear hbq hov hnv hss) | (go_simp; go_at_call 74; refine (spec_covers _ _ ar _ _ HRV.out har).mono ?_; rintro e wq2 ⟨rfl, rfl⟩))
      all_goals
        go_wp2_with fail
        go_meet
        exact ⟨rfl, HQ1.out⟩
    case rest =>
      obtain ⟨rfl, hbx⟩ := hcut
      go_wp2_with fail
      go_ret
      exact ⟨ret_b HZ.out.symm, hbx⟩
end Go.Proofs.Ytnoennmhifmolaa.DepClo
