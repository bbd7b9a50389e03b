/- Texts that the proof rests on, one behind the other. -/
import Derived.Test.YtklamhnecncenaaMg3QueryGraph
import Derived.Test.YtklamhnecncenaaMg4QueryGraph
import Derived.Deep.DeepCutAuto

namespace Go.Proofs.Ytklamhnecncenaa.QgWalk
open Go Go.RowKit Byt Ints IntsLaw Draw Cd Rows2 Tab TabSpec Exact Atom QryMath QrySpec QryImp MkAtom SlMath QryPar QryDraw QgMath QgSpec QgImp QgTree QgFact QgDraw
set_option maxRecDepth 100000 in
theorem law_has (v : Value) (l : List Int) (x : Int) (B : Nat) (w : World) (hr : RI w v l B) :
    Calls Try.prog 53 #[v, .int .i64 x] w fun e w' => e = .returned (.bool (hasI l x)) ∧ w = w' := by
  have HR := Lib.hid hr
  obtain ⟨a, cap, rfl, hlm, _⟩ := hr
  go_enter Try.func53, Try.ntmps53
  go_wp2
  go_loop [5] (fun i => ∃ k : Nat, k ≤ l.length ∧ i = .int .i64 k ∧ Hid (∀ y ∈ l.take k, y ≠ x)) (fun i => l.length - (intOf i).toNat)
  case atStart => exact ⟨0, Nat.zero_le _, rfl, Lib.hid (fun x hx => by simp at hx)⟩
  case round =>
    obtain ⟨k, hk, rfl, hl⟩ := hrel
    by_cases hlt : k < l.length
    · obtain ⟨b, off, cap', e1, hbB, hc⟩ := ri_at HR.out hlt
      injection e1 with e1 e2 e3
      subst e1 e3
      have p1 : (0 : Int) ≤ (k : Int) := by omega
      have p2 : (k : Int) < (l.length : Int) := by omega
      by_cases hx : l[k] = x
      · have HZ := Lib.hid (show hasI l x = true by unfold hasI; rw [List.contains_iff_mem, ← hx]; exact List.getElem_mem hlt)
        have t1 : (l[k] == x) = true := beq_iff_eq.2 hx
        clear hx
        go_wp2
        go_ret
        exact ⟨ret_b HZ.out.symm, rfl⟩
      · have hl2 := Lib.hid (show ∀ y ∈ l.take (k + 1), y ≠ x by
          rw [List.take_succ_eq_append_getElem hlt]
          intro y hy
          rcases List.mem_append.1 hy with q | q
          · exact hl.out y q
          · rw [List.mem_singleton.1 q]; exact hx)
        have t1 : (l[k] == x) = false := beq_eq_false_iff_ne.2 hx
        clear hx
        go_wp2
        go_round
        case rel => exact ⟨k + 1, by omega, by go_num, hl2⟩
        case measure => simp [intOf]; omega
    · have ek : k = l.length := by omega
      subst ek
      have HZ := Lib.hid (show hasI l x = false by
        unfold hasI
        have h := hl.out
        rw [List.take_length] at h
        rw [Bool.eq_false_iff]
        intro q
        rw [List.contains_iff_mem] at q
        exact h x q rfl)
      go_wp2
      go_ret
      exact ⟨ret_b HZ.out.symm, rfl⟩
theorem same_rd (v1 v2 : Value) (l : List Int) (S1 S2 : Nat → Prop) (w : World) (h1 : rowC.rd w S1 [v1] l) (h2 : rowC.rd w S2 [v2] l) :
    Calls Try.prog 47 #[v1, v2] w fun e w' => e = .returned (.bool true) ∧ Below w.heap.size w w' := by
  refine (same_ints v1 v2 l l _ w (row_ri h1).1 (row_ri h2).1 (Nat.le_refl _)).mono ?_
  rintro e w' ⟨rfl, hb⟩
  exact ⟨by rw [decide_eq_true rfl], hb⟩
theorem has_is (v : Value) (l : List Int) (x : Int) (b : Bool) (S : Nat → Prop) (w : World) (h : rowC.rd w S [v] l) (hx : hasI l x = b) :
    Calls Try.prog 53 #[v, .int .i64 x] w fun e w' => e = .returned (.bool b) ∧ w = w' := by
  refine (law_has v l x _ w (row_ri h).1).mono ?_
  rintro e w' ⟨rfl, rfl⟩
  exact ⟨by rw [hx], rfl⟩
set_option maxRecDepth 100000 in
theorem law_single (t : Nat) (w : World) (h1 : 1 ≤ t) (h16 : t < 16) :
    Calls Try.prog 60 #[.int .i64 (t : Int)] w fun e w' => e = .returned (.bool (t &&& (t - 1) == 0)) ∧ w = w' := by
  have h2 := and_nat h16 (show t - 1 < 16 by omega)
  have e1 : ((t - 1 : Nat) : Int) = (t : Int) - 1 := by omega
  rw [e1] at h2
  have q0 : (0 : Int) < (t : Int) := by omega
  have q1 : (t : Int) < 16 := by omega
  clear e1 h1 h16
  generalize t &&& (t - 1) = z at *
  have HZ := Lib.hid (show (((z : Nat) : Int) == 0) = (z == 0) by rw [Bool.eq_iff_iff, beq_iff_eq, beq_iff_eq]; omega)
  go_enter Try.func60, Try.ntmps60
  go_wp2_with fail
  go_ret
  exact ⟨ret_b HZ.out, rfl⟩

set_option maxRecDepth 100000 in
set_option maxHeartbeats 12800000 in
theorem walk (v : Value) (l : List UInt8) (w : World) (hr : Reads w v l w.heap.size) :
    Calls Try.prog 11 #[v] w fun e w' => e = .returned (.bool true) ∧ Below w.heap.size w w' := by
  by_cases hbig : 1048576 < l.length
  · go_enter Try.func11, Try.ntmps11
    go_wp2_with fail
    refine (big_any v l w.heap.size w hr).mono ?_
    rintro e w1 ⟨rfl, rfl⟩
    rw [decide_eq_true hbig]
    go_wp2_with fail
    go_ret
    exact ⟨rfl, Below.refl _ _⟩
  have HBIG := Lib.hid (big_any v l w.heap.size w hr)
  have HD1 := Lib.hid (draw_splits v l w hr)
  clear hr
  go_enter Try.func11, Try.ntmps11
  go_wp2_with fail
  refine HBIG.out.mono ?_
  rintro e w1 ⟨rfl, rfl⟩
  rw [decide_eq_false hbig]
  clear hbig HBIG
  go_wp2_with fail
  refine HD1.out.mono ?_
  rintro e W1 ⟨n, u, L, m, rfl, hdb, hn, hok, hb1⟩
  obtain ⟨ad, cd, rfl, _⟩ := Cd.sl_form hdb
  have hA := below_alloc W1 (.cells #[.int .i64 n, .slice ad L.length cd] 60 (0, 0))
  have HB := Lib.hid (below_then hb1 hA)
  have HD := Lib.hid (Cd.later hdb hA)
  have LQ := Lib.hid (Loc2.of (row_alloc W1 (.cells #[.int .i64 n, .slice ad L.length cd] 60 (0, 0))))
  clear hb1 hdb hn hok hA HD1
  have HJM := Lib.hid (fun x (h : x ∈ jsL n L m) => js_mem2 h)
  have HJS := Lib.hid (fun (hc : cOk n L m = true) => js_some2 hc)
  have HJL := Lib.hid (jsL_len n L m)
  have HCH := Lib.hid (cm_has n L m)
  have HMA := Lib.hid (ma_nb n L m)
  have HNM := Lib.hid (fun (hc : cOk n L m = true) x (h : x ∈ varsL (nb n L m)) => near_mem2 hc h)
  have HVL := Lib.hid (show (varsL (nb n L m)).length ≤ 4 from varsTo_len _ 4)
  have HFL := Lib.hid (fm_lt n L)
  go_wp2_with fail
  generalize hW2 : W1.alloc _ = W2 at *
  clear hW2
  refine (impl_js n m (.slice ad L.length cd) L _ W2 HD.out).mono ?_
  rintro e W3 ⟨vx, f_vx, rfl, hyo, _, hbx⟩
  obtain ⟨ax, cx, rfl⟩ := Cd.ow_slice hyo
  have HX := Lib.hid (Cd.reads hyo)
  replace HB := Lib.hid (below_then HB.out hbx)
  replace HD := Lib.hid (Cd.later HD.out hbx)
  replace LQ := Lib.hid (LQ.out.later hbx)
  clear hyo hbx
  have z0 := LQ.out.c0
  have z1 := LQ.out.c1
  go_wp2_with fail
  have HK0 := Lib.hid (bd_drew W3)
  refine wp_region_held_drew (S := fun wx => wx.cell? ⟨W1.heap.size, 0, none⟩ = some (.int .i64 n) ∧ wx.cell? ⟨W1.heap.size, 1, none⟩ = some (.slice ad L.length cd)) (by kernel_rfl) ?_ (fun hHeld => ?_)
  · (refine ⟨?_, ?_⟩ <;> first | assumption | (simp [*]; done))
  refine RegH.takeH (i := 0) (v := ?_) rfl (by kernel_rfl) (by kernel_rfl) (by kernel_rfl) (fun _ _ _ h => h) (Or.inl ⟨by rfl, ?_⟩) (by assumption) ?_
  rotate_left
  · (intro wS hSw; (try dsimp only at hSw); go_simp; try (with_reducible rfl))
  try simp only [Act.put, List.setIfInBounds_toArray, List.set_cons_zero, List.set_cons_succ]
  refine RegH.takeH (i := 1) (v := ?_) rfl (by kernel_rfl) (by kernel_rfl) (by kernel_rfl) (fun _ _ _ h => h) (Or.inl ⟨by rfl, ?_⟩) (by assumption) ?_
  rotate_left
  · (intro wS hSw; (try dsimp only at hSw); go_simp; try (with_reducible rfl))
  try simp only [Act.put, List.setIfInBounds_toArray, List.set_cons_zero, List.set_cons_succ]
  refine RegH.takeH (i := 2) (v := ?_) rfl (by kernel_rfl) (by kernel_rfl) (by kernel_rfl) (fun _ _ _ h => h) (Or.inl ⟨by rfl, ?_⟩) (by assumption) ?_
  rotate_left
  · (intro wS hSw; (try dsimp only at hSw); go_simp; try (with_reducible rfl))
  try simp only [Act.put, List.setIfInBounds_toArray, List.set_cons_zero, List.set_cons_succ]
  refine RegH.consH (i := 3) rfl (by kernel_rfl) (fun K hK => ?_)
  go_simp
  go_at_call 48
  refine (spec_js n m (.slice ad L.length cd) L _ W3.drew (Cd.later HD.out HK0.out)).mono ?_
  rintro e qW31 ⟨vs, f_vs, rfl, hyo, _, hbx⟩
  obtain ⟨a_vs, c_vs, rfl⟩ := Cd.ow_slice hyo
  have Hvs := Lib.hid (Cd.reads hyo)
  have HK1 := Lib.hid (below_then HK0.out hbx)
  have y1a := (LQ.out.later HK1.out).c0
  have y1b := (LQ.out.later HK1.out).c1
  clear hyo hbx
  go_wp2_with fail
  refine hK.out _ _ ?_ (fun hHeld => ?_)
  · (refine ⟨?_, ?_⟩ <;> first | assumption | (simp [*]; done))
  clear hK K
  try simp only [Act.put, List.setIfInBounds_toArray, List.set_cons_zero, List.set_cons_succ]
  refine RegH.consH (i := 4) rfl (by kernel_rfl) (fun K hK => ?_)
  go_simp
  go_at_call 47
  refine (same_rd _ _ _ _ _ qW31 (Cd.later HX.out HK1.out) Hvs.out).mono ?_
  rintro e qW32 ⟨rfl, hbx⟩
  have HK2 := Lib.hid (below_then HK1.out hbx)
  have y2a := (LQ.out.later HK2.out).c0
  have y2b := (LQ.out.later HK2.out).c1
  clear hbx
  go_wp2_with fail
  refine hK.out _ _ ?_ (fun hHeld => ?_)
  · (refine ⟨?_, ?_⟩ <;> first | assumption | (simp [*]; done))
  clear hK K
  try simp only [Act.put, List.setIfInBounds_toArray, List.set_cons_zero, List.set_cons_succ]
  refine RegH.takeH (i := 5) (v := ?_) rfl (by kernel_rfl) (by kernel_rfl) (by kernel_rfl) (fun _ _ _ h => h) (Or.inl ⟨by rfl, ?_⟩) (by assumption) ?_
  rotate_left
  · (intro wS hSw; (try dsimp only at hSw); go_simp; try (with_reducible rfl))
  try simp only [Act.put, List.setIfInBounds_toArray, List.set_cons_zero, List.set_cons_succ]
  refine RegH.takeH (i := 6) (v := ?_) rfl (by kernel_rfl) (by kernel_rfl) (by kernel_rfl) (fun _ _ _ h => h) (Or.inl ⟨by rfl, ?_⟩) (by assumption) ?_
  rotate_left
  · (intro wS hSw; (try dsimp only at hSw); go_simp; try (with_reducible rfl))
  try simp only [Act.put, List.setIfInBounds_toArray, List.set_cons_zero, List.set_cons_succ]
  refine RegH.takeH (i := 7) (v := ?_) rfl (by kernel_rfl) (by kernel_rfl) (by kernel_rfl) (fun _ _ _ h => h) (Or.inl ⟨by rfl, ?_⟩) (by assumption) ?_
  rotate_left
  · (intro wS hSw; (try dsimp only at hSw); go_simp; try (with_reducible rfl))
  try simp only [Act.put, List.setIfInBounds_toArray, List.set_cons_zero, List.set_cons_succ]
  refine RegH.takeH (i := 8) (v := ?_) rfl (by kernel_rfl) (by kernel_rfl) (by kernel_rfl) (fun _ _ _ h => h) (Or.inl ⟨by rfl, ?_⟩) (by assumption) ?_
  rotate_left
  · (intro wS hSw; (try dsimp only at hSw); go_simp; try (with_reducible rfl))
  try simp only [Act.put, List.setIfInBounds_toArray, List.set_cons_zero, List.set_cons_succ]
  refine RegH.takeH (i := 10) (v := ?_) rfl (by kernel_rfl) (by kernel_rfl) (by kernel_rfl) (fun _ _ _ h => h) (Or.inl ⟨by rfl, ?_⟩) (by assumption) ?_
  rotate_left
  · (intro wS hSw; (try dsimp only at hSw); go_simp; try (with_reducible rfl))
  try simp only [Act.put, List.setIfInBounds_toArray, List.set_cons_zero, List.set_cons_succ]
  refine RegH.takeH (i := 11) (v := ?_) rfl (by kernel_rfl) (by kernel_rfl) (by kernel_rfl) (fun _ _ _ h => h) (Or.inl ⟨by rfl, ?_⟩) (by assumption) ?_
  rotate_left
  · (intro wS hSw; (try dsimp only at hSw); go_simp; try (with_reducible rfl))
  try simp only [Act.put, List.setIfInBounds_toArray, List.set_cons_zero, List.set_cons_succ]
  refine RegH.consH (i := 9) rfl (by kernel_rfl) (fun K hK => ?_)
  go_simp
  go_at_call 49
  refine (impl_conn n m (.slice ad L.length cd) L _ qW32 (Cd.later HD.out HK2.out)).mono ?_
  rintro e qW33 ⟨rfl, hbx⟩
  have HK3 := Lib.hid (below_then HK2.out hbx)
  have y3a := (LQ.out.later HK3.out).c0
  have y3b := (LQ.out.later HK3.out).c1
  clear hbx
  go_wp2_with fail
  refine hK.out _ _ ?_ (fun hHeld => ?_)
  · (refine ⟨?_, ?_⟩ <;> first | assumption | (simp [*]; done))
  clear hK K
  try simp only [Act.put, List.setIfInBounds_toArray, List.set_cons_zero, List.set_cons_succ]
  refine RegH.consH (i := 12) rfl (by kernel_rfl) (fun K hK => ?_)
  go_simp
  go_at_call 50
  refine (spec_conn n m (.slice ad L.length cd) L _ qW33 (Cd.later HD.out HK3.out)).mono ?_
  rintro e qW34 ⟨rfl, hbx⟩
  have HK4 := Lib.hid (below_then HK3.out hbx)
  have y4a := (LQ.out.later HK4.out).c0
  have y4b := (LQ.out.later HK4.out).c1
  clear hbx
  go_wp2_with fail
  refine hK.out _ _ ?_ (fun hHeld => ?_)
  · (refine ⟨?_, ?_⟩ <;> first | assumption | (simp [*]; done))
  clear hK K
  try simp only [Act.put, List.setIfInBounds_toArray, List.set_cons_zero, List.set_cons_succ]
  refine RegH.takeH (i := 13) (v := ?_) rfl (by kernel_rfl) (by kernel_rfl) (by kernel_rfl) (fun _ _ _ h => h) (Or.inl ⟨by rfl, ?_⟩) (by assumption) ?_
  rotate_left
  · (intro wS hSw; (try dsimp only at hSw); go_simp; try (with_reducible rfl))
  try simp only [Act.put, List.setIfInBounds_toArray, List.set_cons_zero, List.set_cons_succ]
  refine RegH.takeH (i := 14) (v := ?_) rfl (by kernel_rfl) (by kernel_rfl) (by kernel_rfl) (fun _ _ _ h => h) (Or.inl ⟨by rfl, ?_⟩) (by assumption) ?_
  rotate_left
  · (intro wS hSw; (try dsimp only at hSw); go_simp; try (with_reducible rfl))
  try simp only [Act.put, List.setIfInBounds_toArray, List.set_cons_zero, List.set_cons_succ]
  refine RegH.takeH (i := 15) (v := ?_) rfl (by kernel_rfl) (by kernel_rfl) (by kernel_rfl) (fun _ _ _ h => h) (Or.inl ⟨by rfl, ?_⟩) (by assumption) ?_
  rotate_left
  · (intro wS hSw; (try dsimp only at hSw); go_simp; try (with_reducible rfl))
  try simp only [Act.put, List.setIfInBounds_toArray, List.set_cons_zero, List.set_cons_succ]
  refine RegH.takeH (i := 16) (v := ?_) rfl (by kernel_rfl) (by kernel_rfl) (by kernel_rfl) (fun _ _ _ h => h) (Or.inl ⟨by rfl, ?_⟩) (by assumption) ?_
  rotate_left
  · (intro wS hSw; (try dsimp only at hSw); go_simp; try (with_reducible rfl))
  try simp only [Act.put, List.setIfInBounds_toArray, List.set_cons_zero, List.set_cons_succ]
  refine RegH.takeH (i := 18) (v := ?_) rfl (by kernel_rfl) (by kernel_rfl) (by kernel_rfl) (fun _ _ _ h => h) (Or.inl ⟨by rfl, ?_⟩) (by assumption) ?_
  rotate_left
  · (intro wS hSw; (try dsimp only at hSw); go_simp; try (with_reducible rfl))
  try simp only [Act.put, List.setIfInBounds_toArray, List.set_cons_zero, List.set_cons_succ]
  refine RegH.consH (i := 17) rfl (by kernel_rfl) (fun K hK => ?_)
  go_simp
  go_at_call 51
  refine (impl_full n (.slice ad L.length cd) L _ qW34 (Cd.later HD.out HK4.out)).mono ?_
  rintro e qW35 ⟨rfl, hbx⟩
  have HK5 := Lib.hid (below_then HK4.out hbx)
  have y5a := (LQ.out.later HK5.out).c0
  have y5b := (LQ.out.later HK5.out).c1
  clear hbx
  go_wp2_with fail
  refine hK.out _ _ ?_ (fun hHeld => ?_)
  · (refine ⟨?_, ?_⟩ <;> first | assumption | (simp [*]; done))
  clear hK K
  try simp only [Act.put, List.setIfInBounds_toArray, List.set_cons_zero, List.set_cons_succ]
  refine RegH.consH (i := 19) rfl (by kernel_rfl) (fun K hK => ?_)
  go_simp
  go_at_call 52
  refine (spec_full n (.slice ad L.length cd) L _ qW35 (Cd.later HD.out HK5.out)).mono ?_
  rintro e qW36 ⟨rfl, hbx⟩
  have HK6 := Lib.hid (below_then HK5.out hbx)
  have y6a := (LQ.out.later HK6.out).c0
  have y6b := (LQ.out.later HK6.out).c1
  clear hbx
  go_wp2_with fail
  refine hK.out _ _ ?_ (fun hHeld => ?_)
  · (refine ⟨?_, ?_⟩ <;> first | assumption | (simp [*]; done))
  clear hK K
  try simp only [Act.put, List.setIfInBounds_toArray, List.set_cons_zero, List.set_cons_succ]
  refine RegH.takeH (i := 20) (v := ?_) rfl (by kernel_rfl) (by kernel_rfl) (by kernel_rfl) (fun _ _ _ h => h) (Or.inl ⟨by rfl, ?_⟩) (by assumption) ?_
  rotate_left
  · (intro wS hSw; (try dsimp only at hSw); go_simp; try (with_reducible rfl))
  try simp only [Act.put, List.setIfInBounds_toArray, List.set_cons_zero, List.set_cons_succ]
  refine RegH.takeH (i := 21) (v := ?_) rfl (by kernel_rfl) (by kernel_rfl) (by kernel_rfl) (fun _ _ _ h => h) (Or.inl ⟨by rfl, ?_⟩) (by assumption) ?_
  rotate_left
  · (intro wS hSw; (try dsimp only at hSw); go_simp; try (with_reducible rfl))
  try simp only [Act.put, List.setIfInBounds_toArray, List.set_cons_zero, List.set_cons_succ]
  refine wpAnyH_done (by kernel_rfl) ?_ _
  replace HB := Lib.hid (below_then HB.out HK6.out)
  replace HD := Lib.hid (Cd.later HD.out HK6.out)
  replace LQ := Lib.hid (LQ.out.later HK6.out)
  replace HX := Lib.hid (Cd.later HX.out HK6.out)
  clear z0 z1 HK0 HK1 HK2 HK3 HK4 HK5 HK6 y1a y1b y2a y2b y3a y3b y4a y4b y5a y5b y6a y6b Hvs hHeld
  go_wp2_with fail
  generalize qW36 = W4 at *
  have HSH := Lib.hid (fun (p : Nat) (w' : World) (hd : atomsC.rd w' (fun b => w.heap.size ≤ b ∧ b < W1.heap.size) [.slice ad L.length cd] L) => spec_shared n (p : Int) (m - (p : Int)) (.slice ad L.length cd) L _ w' hd)
  have HCI := Lib.hid (fun (p : Nat) (w' : World) (hd : atomsC.rd w' (fun b => w.heap.size ≤ b ∧ b < W1.heap.size) [.slice ad L.length cd] L) => impl_conn n (p : Int) (.slice ad L.length cd) L _ w' hd)
  generalize jsL n L m = R at *
  go_loopw [6] (fun i wr => ∃ k : Nat, k ≤ R.length ∧ i = .int .i64 k ∧ Below W4.heap.size W4 wr) (fun i _ => R.length - (intOf i).toNat)
  case atStart => exact ⟨0, Nat.zero_le _, rfl, Below.refl _ _⟩
  case round =>
    obtain ⟨k, hk, rfl, hbr⟩ := hrel
    have HBW := Lib.hid hbr
    replace HB := Lib.hid (below_then HB.out hbr)
    replace HD := Lib.hid (Cd.later HD.out hbr)
    replace LQ := Lib.hid (LQ.out.later hbr)
    replace HX := Lib.hid (Cd.later HX.out hbr)
    have z0 := LQ.out.c0
    have z1 := LQ.out.c1
    clear hbr
    by_cases hlt : k < R.length
    · obtain ⟨b1, off, cap', e1, hbB, hcell⟩ := ri_at (row_ri HX.out).1 hlt
      injection e1 with e1 e2 e3
      subst e1 e3
      obtain ⟨p, hxp, hpm, hm16, hhas, hcp, hvl⟩ := HJM.out _ (List.getElem_mem hlt)
      rw [hxp] at hcell
      have p1 : (0 : Int) ≤ (k : Int) := by omega
      have p2 : (k : Int) < (R.length : Int) := by omega
      have p3 : (R.length : Int) ≤ 16 := by have := HJL.out; omega
      have p4 : (0 : Int) ≤ (p : Int) := by omega
      have hsw : IntKind.i64.wrap (m - (p : Int)) = m - (p : Int) := by rw [IntKind.wrap_i64]; omega
      have HHAS := Lib.hid hhas
      have HC1 := Lib.hid (HCI.out p)
      rw [hcp] at HC1
      have HS1 := Lib.hid (HSH.out p)
      have HLT := Lib.hid (And.intro hlt hbB)
      have HCE := Lib.hid hcell
      have HVZ := Lib.hid hvl
      clear hxp hpm hm16 hhas hcp hvl hlt hbB
      generalize varsL (shB n L (p : Int) (m - (p : Int))) = Z at *
      have hz1 : (((Z.length : Nat) : Int) == 0) = false := by rw [beq_eq_false_iff_ne]; have := HVZ.out; omega
      have hz2 : ¬ (((Z.length : Nat) : Int) = 0) := by have := HVZ.out; omega
      go_wp2_with fail
      have HK0 := Lib.hid (bd_drew wr)
      refine wp_region_held_drew (S := fun wx => wx.cell? ⟨W1.heap.size, 0, none⟩ = some (.int .i64 n) ∧ wx.cell? ⟨W1.heap.size, 1, none⟩ = some (.slice ad L.length cd) ∧ wx.cell? ⟨b1, off + k, none⟩ = some (.int .i64 (p : Int))) (by kernel_rfl) ?_ (fun hHeld => ?_)
      · (refine ⟨?_, ?_, ?_⟩ <;> first | assumption | (simp [*]; done))
      refine RegH.takeH (i := 0) (v := ?_) rfl (by kernel_rfl) (by kernel_rfl) (by kernel_rfl) (fun _ _ _ h => h) (Or.inl ⟨by rfl, ?_⟩) (by assumption) ?_
      rotate_left
      · (intro wS hSw; (try dsimp only at hSw); go_simp; try (with_reducible rfl))
      try simp only [Act.put, List.setIfInBounds_toArray, List.set_cons_zero, List.set_cons_succ]
      refine RegH.takeH (i := 1) (v := ?_) rfl (by kernel_rfl) (by kernel_rfl) (by kernel_rfl) (fun _ _ _ h => h) (Or.inl ⟨by rfl, ?_⟩) (by assumption) ?_
      rotate_left
      · (intro wS hSw; (try dsimp only at hSw); go_simp; try (with_reducible rfl))
      try simp only [Act.put, List.setIfInBounds_toArray, List.set_cons_zero, List.set_cons_succ]
      refine RegH.takeH (i := 2) (v := ?_) rfl (by kernel_rfl) (by kernel_rfl) (by kernel_rfl) (fun _ _ _ h => h) (Or.inl ⟨by rfl, ?_⟩) (by assumption) ?_
      rotate_left
      · (intro wS hSw; (try dsimp only at hSw); go_simp; try (with_reducible rfl))
      try simp only [Act.put, List.setIfInBounds_toArray, List.set_cons_zero, List.set_cons_succ]
      refine RegH.takeH (i := 3) (v := ?_) rfl (by kernel_rfl) (by kernel_rfl) (by kernel_rfl) (fun _ _ _ h => h) (Or.inl ⟨by rfl, ?_⟩) (by assumption) ?_
      rotate_left
      · (intro wS hSw; (try dsimp only at hSw); go_simp; try (with_reducible rfl))
      try simp only [Act.put, List.setIfInBounds_toArray, List.set_cons_zero, List.set_cons_succ]
      refine RegH.takeH (i := 4) (v := ?_) rfl (by kernel_rfl) (by kernel_rfl) (by kernel_rfl) (fun _ _ _ h => h) (Or.inl ⟨by rfl, ?_⟩) (by assumption) ?_
      rotate_left
      · (intro wS hSw; (try dsimp only at hSw); go_simp; try (with_reducible rfl))
      try simp only [Act.put, List.setIfInBounds_toArray, List.set_cons_zero, List.set_cons_succ]
      refine RegH.takeH (i := 5) (v := ?_) rfl (by kernel_rfl) (by kernel_rfl) (by kernel_rfl) (fun _ _ _ h => h) (Or.inl ⟨by rfl, ?_⟩) (by assumption) ?_
      rotate_left
      · (intro wS hSw; (try dsimp only at hSw); go_simp; try (with_reducible rfl))
      try simp only [Act.put, List.setIfInBounds_toArray, List.set_cons_zero, List.set_cons_succ]
      refine RegH.takeH (i := 6) (v := ?_) rfl (by kernel_rfl) (by kernel_rfl) (by kernel_rfl) (fun _ _ _ h => h) (Or.inl ⟨by rfl, ?_⟩) (by assumption) ?_
      rotate_left
      · (intro wS hSw; (try dsimp only at hSw); go_simp; try (with_reducible rfl))
      try simp only [Act.put, List.setIfInBounds_toArray, List.set_cons_zero, List.set_cons_succ]
      refine RegH.consH (i := 7) rfl (by kernel_rfl) (fun K hK => ?_)
      go_simp
      go_at_call 53
      refine (has_is _ _ _ true _ wr.drew (Cd.later HX.out HK0.out) HHAS.out).mono ?_
      rintro e w' ⟨rfl, rfl⟩
      go_wp2_with fail
      refine hK.out _ _ ?_ (fun hHeld => ?_)
      · (refine ⟨?_, ?_, ?_⟩ <;> first | assumption | (simp [*]; done))
      clear hK K
      try simp only [Act.put, List.setIfInBounds_toArray, List.set_cons_zero, List.set_cons_succ]
      refine RegH.takeH (i := 8) (v := ?_) rfl (by kernel_rfl) (by kernel_rfl) (by kernel_rfl) (fun _ _ _ h => h) (Or.inl ⟨by rfl, ?_⟩) (by assumption) ?_
      rotate_left
      · (intro wS hSw; (try dsimp only at hSw); go_simp; try (with_reducible rfl))
      try simp only [Act.put, List.setIfInBounds_toArray, List.set_cons_zero, List.set_cons_succ]
      refine RegH.takeH (i := 9) (v := ?_) rfl (by kernel_rfl) (by kernel_rfl) (by kernel_rfl) (fun _ _ _ h => h) (Or.inl ⟨by rfl, ?_⟩) (by assumption) ?_
      rotate_left
      · (intro wS hSw; (try dsimp only at hSw); go_simp; try (with_reducible rfl))
      try simp only [Act.put, List.setIfInBounds_toArray, List.set_cons_zero, List.set_cons_succ]
      refine RegH.takeH (i := 10) (v := ?_) rfl (by kernel_rfl) (by kernel_rfl) (by kernel_rfl) (fun _ _ _ h => h) (Or.inl ⟨by rfl, ?_⟩) (by assumption) ?_
      rotate_left
      · (intro wS hSw; (try dsimp only at hSw); go_simp; try (with_reducible rfl))
      try simp only [Act.put, List.setIfInBounds_toArray, List.set_cons_zero, List.set_cons_succ]
      refine RegH.takeH (i := 11) (v := ?_) rfl (by kernel_rfl) (by kernel_rfl) (by kernel_rfl) (fun _ _ _ h => h) (Or.inl ⟨by rfl, ?_⟩) (by assumption) ?_
      rotate_left
      · (intro wS hSw; (try dsimp only at hSw); go_simp; try (with_reducible rfl))
      try simp only [Act.put, List.setIfInBounds_toArray, List.set_cons_zero, List.set_cons_succ]
      refine RegH.takeH (i := 12) (v := ?_) rfl (by kernel_rfl) (by kernel_rfl) (by kernel_rfl) (fun _ _ _ h => h) (Or.inl ⟨by rfl, ?_⟩) (by assumption) ?_
      rotate_left
      · (intro wS hSw; (try dsimp only at hSw); go_simp; try (with_reducible rfl))
      try simp only [Act.put, List.setIfInBounds_toArray, List.set_cons_zero, List.set_cons_succ]
      refine RegH.takeH (i := 13) (v := ?_) rfl (by kernel_rfl) (by kernel_rfl) (by kernel_rfl) (fun _ _ _ h => h) (Or.inl ⟨by rfl, ?_⟩) (by assumption) ?_
      rotate_left
      · (intro wS hSw; (try dsimp only at hSw); go_simp; try (with_reducible rfl))
      try simp only [Act.put, List.setIfInBounds_toArray, List.set_cons_zero, List.set_cons_succ]
      refine RegH.takeH (i := 14) (v := ?_) rfl (by kernel_rfl) (by kernel_rfl) (by kernel_rfl) (fun _ _ _ h => h) (Or.inl ⟨by rfl, ?_⟩) (by assumption) ?_
      rotate_left
      · (intro wS hSw; (try dsimp only at hSw); go_simp; try (with_reducible rfl))
      try simp only [Act.put, List.setIfInBounds_toArray, List.set_cons_zero, List.set_cons_succ]
      refine RegH.consH (i := 15) rfl (by kernel_rfl) (fun K hK => ?_)
      go_simp
      go_at_call 49
      refine (HC1.out wr.drew (Cd.later HD.out HK0.out)).mono ?_
      rintro e qwr1 ⟨rfl, hbx⟩
      have HK1 := Lib.hid (below_then HK0.out hbx)
      have y1a := (LQ.out.later HK1.out).c0
      have y1b := (LQ.out.later HK1.out).c1
      have y1c0 := (Below.cell HK1.out (p := ⟨b1, off + k, none⟩) HLT.out.2).trans HCE.out
      clear hbx
      go_wp2_with fail
      refine hK.out _ _ ?_ (fun hHeld => ?_)
      · (refine ⟨?_, ?_, ?_⟩ <;> first | assumption | (simp [*]; done))
      clear hK K
      try simp only [Act.put, List.setIfInBounds_toArray, List.set_cons_zero, List.set_cons_succ]
      refine RegH.takeH (i := 16) (v := ?_) rfl (by kernel_rfl) (by kernel_rfl) (by kernel_rfl) (fun _ _ _ h => h) (Or.inl ⟨by rfl, ?_⟩) (by assumption) ?_
      rotate_left
      · (intro wS hSw; (try dsimp only at hSw); go_simp; try (with_reducible rfl))
      try simp only [Act.put, List.setIfInBounds_toArray, List.set_cons_zero, List.set_cons_succ]
      refine RegH.takeH (i := 17) (v := ?_) rfl (by kernel_rfl) (by kernel_rfl) (by kernel_rfl) (fun _ _ _ h => h) (Or.inl ⟨by rfl, ?_⟩) (by assumption) ?_
      rotate_left
      · (intro wS hSw; (try dsimp only at hSw); go_simp; try (with_reducible rfl))
      try simp only [Act.put, List.setIfInBounds_toArray, List.set_cons_zero, List.set_cons_succ]
      refine RegH.takeH (i := 18) (v := ?_) rfl (by kernel_rfl) (by kernel_rfl) (by kernel_rfl) (fun _ _ _ h => h) (Or.inl ⟨by rfl, ?_⟩) (by assumption) ?_
      rotate_left
      · (intro wS hSw; (try dsimp only at hSw); go_simp; try (with_reducible rfl))
      try simp only [Act.put, List.setIfInBounds_toArray, List.set_cons_zero, List.set_cons_succ]
      refine RegH.takeH (i := 19) (v := ?_) rfl (by kernel_rfl) (by kernel_rfl) (by kernel_rfl) (fun _ _ _ h => h) (Or.inl ⟨by rfl, ?_⟩) (by assumption) ?_
      rotate_left
      · (intro wS hSw; (try dsimp only at hSw); go_simp; try (with_reducible rfl))
      try simp only [Act.put, List.setIfInBounds_toArray, List.set_cons_zero, List.set_cons_succ]
      refine RegH.takeH (i := 20) (v := ?_) rfl (by kernel_rfl) (by kernel_rfl) (by kernel_rfl) (fun _ _ _ h => h) (Or.inl ⟨by rfl, ?_⟩) (by assumption) ?_
      rotate_left
      · (intro wS hSw; (try dsimp only at hSw); go_simp; try (with_reducible rfl))
      try simp only [Act.put, List.setIfInBounds_toArray, List.set_cons_zero, List.set_cons_succ]
      refine RegH.takeH (i := 21) (v := ?_) rfl (by kernel_rfl) (by kernel_rfl) (by kernel_rfl) (fun _ _ _ h => h) (Or.inl ⟨by rfl, ?_⟩) (by assumption) ?_
      rotate_left
      · (intro wS hSw; (try dsimp only at hSw); go_simp; try (with_reducible rfl))
      try simp only [Act.put, List.setIfInBounds_toArray, List.set_cons_zero, List.set_cons_succ]
      refine RegH.takeH (i := 22) (v := ?_) rfl (by kernel_rfl) (by kernel_rfl) (by kernel_rfl) (fun _ _ _ h => h) (Or.inl ⟨by rfl, ?_⟩) (by assumption) ?_
      rotate_left
      · (intro wS hSw; (try dsimp only at hSw); go_simp; try (with_reducible rfl))
      try simp only [Act.put, List.setIfInBounds_toArray, List.set_cons_zero, List.set_cons_succ]
      refine RegH.takeH (i := 23) (v := ?_) rfl (by kernel_rfl) (by kernel_rfl) (by kernel_rfl) (fun _ _ _ h => h) (Or.inl ⟨by rfl, ?_⟩) (by assumption) ?_
      rotate_left
      · (intro wS hSw; (try dsimp only at hSw); go_simp; try (with_reducible rfl))
      try simp only [Act.put, List.setIfInBounds_toArray, List.set_cons_zero, List.set_cons_succ]
      refine RegH.takeH (i := 24) (v := ?_) rfl (by kernel_rfl) (by kernel_rfl) (by kernel_rfl) (fun _ _ _ h => h) (Or.inl ⟨by rfl, ?_⟩) (by assumption) ?_
      rotate_left
      · (intro wS hSw; (try dsimp only at hSw); go_simp; try (with_reducible rfl))
      try simp only [Act.put, List.setIfInBounds_toArray, List.set_cons_zero, List.set_cons_succ]
      refine RegH.takeH (i := 25) (v := ?_) rfl (by kernel_rfl) (by kernel_rfl) (by kernel_rfl) (fun _ _ _ h => h) (Or.inl ⟨by rfl, ?_⟩) (by assumption) ?_
      rotate_left
      · (intro wS hSw; (try dsimp only at hSw); go_simp; try (with_reducible rfl))
      try simp only [Act.put, List.setIfInBounds_toArray, List.set_cons_zero, List.set_cons_succ]
      refine RegH.takeH (i := 26) (v := ?_) rfl (by kernel_rfl) (by kernel_rfl) (by kernel_rfl) (fun _ _ _ h => h) (Or.inl ⟨by rfl, ?_⟩) (by assumption) ?_
      rotate_left
      · (intro wS hSw; (try dsimp only at hSw); go_simp; try (with_reducible rfl))
      try simp only [Act.put, List.setIfInBounds_toArray, List.set_cons_zero, List.set_cons_succ]
      refine RegH.takeH (i := 27) (v := ?_) rfl (by kernel_rfl) (by kernel_rfl) (by kernel_rfl) (fun _ _ _ h => h) (Or.inl ⟨by rfl, ?_⟩) (by assumption) ?_
      rotate_left
      · (intro wS hSw; (try dsimp only at hSw); go_simp; try (with_reducible rfl))
      try simp only [Act.put, List.setIfInBounds_toArray, List.set_cons_zero, List.set_cons_succ]
      refine RegH.takeH (i := 28) (v := ?_) rfl (by kernel_rfl) (by kernel_rfl) (by kernel_rfl) (fun _ _ _ h => h) (Or.inl ⟨by rfl, ?_⟩) (by assumption) ?_
      rotate_left
      · (intro wS hSw; (try dsimp only at hSw); go_simp; try (with_reducible rfl))
      try simp only [Act.put, List.setIfInBounds_toArray, List.set_cons_zero, List.set_cons_succ]
      refine RegH.takeH (i := 29) (v := ?_) rfl (by kernel_rfl) (by kernel_rfl) (by kernel_rfl) (fun _ _ _ h => h) (Or.inl ⟨by rfl, ?_⟩) (by assumption) ?_
      rotate_left
      · (intro wS hSw; (try dsimp only at hSw); go_simp; try (with_reducible rfl))
      try simp only [Act.put, List.setIfInBounds_toArray, List.set_cons_zero, List.set_cons_succ]
      refine RegH.consH (i := 30) rfl (by kernel_rfl) (fun K hK => ?_)
      go_simp
      go_at_call 54
      refine (HS1.out qwr1 (Cd.later HD.out HK1.out)).mono ?_
      rintro e qwr2 ⟨vz, f_vz, rfl, hyo, _, hbx⟩
      obtain ⟨a_vz, c_vz, rfl⟩ := Cd.ow_slice hyo
      have Hvz := Lib.hid (Cd.reads hyo)
      have HK2 := Lib.hid (below_then HK1.out hbx)
      have y2a := (LQ.out.later HK2.out).c0
      have y2b := (LQ.out.later HK2.out).c1
      have y2c0 := (Below.cell HK2.out (p := ⟨b1, off + k, none⟩) HLT.out.2).trans HCE.out
      clear hyo hbx
      go_wp2_with fail
      refine hK.out _ _ ?_ (fun hHeld => ?_)
      · (refine ⟨?_, ?_, ?_⟩ <;> first | assumption | (simp [*]; done))
      clear hK K
      try simp only [Act.put, List.setIfInBounds_toArray, List.set_cons_zero, List.set_cons_succ]
      refine RegH.takeH (i := 31) (v := ?_) rfl (by kernel_rfl) (by kernel_rfl) (by kernel_rfl) (fun _ _ _ h => h) (Or.inl ⟨by rfl, ?_⟩) (by assumption) ?_
      rotate_left
      · (intro wS hSw; (try dsimp only at hSw); go_simp; try (with_reducible rfl))
      try simp only [Act.put, List.setIfInBounds_toArray, List.set_cons_zero, List.set_cons_succ]
      refine RegH.takeH (i := 32) (v := ?_) rfl (by kernel_rfl) (by kernel_rfl) (by kernel_rfl) (fun _ _ _ h => h) (Or.inl ⟨by rfl, ?_⟩) (by assumption) ?_
      rotate_left
      · (intro wS hSw; (try dsimp only at hSw); go_simp; try (with_reducible rfl))
      try simp only [Act.put, List.setIfInBounds_toArray, List.set_cons_zero, List.set_cons_succ]
      refine RegH.takeH (i := 33) (v := ?_) rfl (by kernel_rfl) (by kernel_rfl) (by kernel_rfl) (fun _ _ _ h => h) (Or.inl ⟨by rfl, ?_⟩) (by assumption) ?_
      rotate_left
      · (intro wS hSw; (try dsimp only at hSw); go_simp; try (with_reducible rfl))
      try simp only [Act.put, List.setIfInBounds_toArray, List.set_cons_zero, List.set_cons_succ]
      refine wpAnyH_done (by kernel_rfl) ?_ _
      go_wp2_with fail
      go_roundw
      case rel => exact ⟨k + 1, HLT.out.1, by go_num, below_then HBW.out HK2.out⟩
      case measure => have := HLT.out.1; simp [intOf]; omega
    · have ek : k = R.length := by omega
      subst ek
      clear HJM HSH HBW hk hlt
      go_wp2_with fail
      refine (impl_cm n (.slice ad L.length cd) L _ wr HD.out).mono ?_
      rintro e W5 ⟨va, f_va, rfl, hyo, _, hbx⟩
      obtain ⟨a_va, c_va, rfl⟩ := Cd.ow_slice hyo
      replace HB := Lib.hid (below_then HB.out hbx)
      replace HD := Lib.hid (Cd.later HD.out hbx)
      replace LQ := Lib.hid (LQ.out.later hbx)
      replace HX := Lib.hid (Cd.later HX.out hbx)
      have HA := Lib.hid (Cd.reads hyo)
      clear hyo hbx z0 z1
      have z0 := LQ.out.c0
      have z1 := LQ.out.c1
      generalize hcm : cmL n L = CM at *
      have HCM := Lib.hid hcm
      clear hcm
      go_wp2_with fail
      have HSM := Lib.hid (fun (w' : World) (hd : atomsC.rd w' (fun b => w.heap.size ≤ b ∧ b < W1.heap.size) [.slice ad L.length cd] L) => spec_cm n (.slice ad L.length cd) L _ w' hd)
      rw [HCM.out] at HSM
      have HK0 := Lib.hid (bd_drew W5)
      refine wp_region_held_drew (S := fun wx => wx.cell? ⟨W1.heap.size, 0, none⟩ = some (.int .i64 n) ∧ wx.cell? ⟨W1.heap.size, 1, none⟩ = some (.slice ad L.length cd)) (by kernel_rfl) ?_ (fun hHeld => ?_)
      · (refine ⟨?_, ?_⟩ <;> first | assumption | (simp [*]; done))
      refine RegH.takeH (i := 0) (v := ?_) rfl (by kernel_rfl) (by kernel_rfl) (by kernel_rfl) (fun _ _ _ h => h) (Or.inl ⟨by rfl, ?_⟩) (by assumption) ?_
      rotate_left
      · (intro wS hSw; (try dsimp only at hSw); go_simp; try (with_reducible rfl))
      try simp only [Act.put, List.setIfInBounds_toArray, List.set_cons_zero, List.set_cons_succ]
      refine RegH.takeH (i := 1) (v := ?_) rfl (by kernel_rfl) (by kernel_rfl) (by kernel_rfl) (fun _ _ _ h => h) (Or.inl ⟨by rfl, ?_⟩) (by assumption) ?_
      rotate_left
      · (intro wS hSw; (try dsimp only at hSw); go_simp; try (with_reducible rfl))
      try simp only [Act.put, List.setIfInBounds_toArray, List.set_cons_zero, List.set_cons_succ]
      refine RegH.consH (i := 2) rfl (by kernel_rfl) (fun K hK => ?_)
      go_simp
      go_at_call 56
      refine (HSM.out W5.drew (Cd.later HD.out HK0.out)).mono ?_
      rintro e qW51 ⟨vs, f_vs, rfl, hyo, _, hbx⟩
      obtain ⟨a_vs, c_vs, rfl⟩ := Cd.ow_slice hyo
      have Hvs := Lib.hid (Cd.reads hyo)
      have HK1 := Lib.hid (below_then HK0.out hbx)
      have y1a := (LQ.out.later HK1.out).c0
      have y1b := (LQ.out.later HK1.out).c1
      clear hyo hbx
      go_wp2_with fail
      refine hK.out _ _ ?_ (fun hHeld => ?_)
      · (refine ⟨?_, ?_⟩ <;> first | assumption | (simp [*]; done))
      clear hK K
      try simp only [Act.put, List.setIfInBounds_toArray, List.set_cons_zero, List.set_cons_succ]
      refine RegH.consH (i := 3) rfl (by kernel_rfl) (fun K hK => ?_)
      go_simp
      go_at_call 47
      refine (same_rd _ _ _ _ _ qW51 (Cd.later HA.out HK1.out) Hvs.out).mono ?_
      rintro e qW52 ⟨rfl, hbx⟩
      have HK2 := Lib.hid (below_then HK1.out hbx)
      have y2a := (LQ.out.later HK2.out).c0
      have y2b := (LQ.out.later HK2.out).c1
      clear hbx
      go_wp2_with fail
      refine hK.out _ _ ?_ (fun hHeld => ?_)
      · (refine ⟨?_, ?_⟩ <;> first | assumption | (simp [*]; done))
      clear hK K
      try simp only [Act.put, List.setIfInBounds_toArray, List.set_cons_zero, List.set_cons_succ]
      refine RegH.takeH (i := 4) (v := ?_) rfl (by kernel_rfl) (by kernel_rfl) (by kernel_rfl) (fun _ _ _ h => h) (Or.inl ⟨by rfl, ?_⟩) (by assumption) ?_
      rotate_left
      · (intro wS hSw; (try dsimp only at hSw); go_simp; try (with_reducible rfl))
      try simp only [Act.put, List.setIfInBounds_toArray, List.set_cons_zero, List.set_cons_succ]
      refine RegH.takeH (i := 5) (v := ?_) rfl (by kernel_rfl) (by kernel_rfl) (by kernel_rfl) (fun _ _ _ h => h) (Or.inl ⟨by rfl, ?_⟩) (by assumption) ?_
      rotate_left
      · (intro wS hSw; (try dsimp only at hSw); go_simp; try (with_reducible rfl))
      try simp only [Act.put, List.setIfInBounds_toArray, List.set_cons_zero, List.set_cons_succ]
      refine RegH.takeH (i := 6) (v := ?_) rfl (by kernel_rfl) (by kernel_rfl) (by kernel_rfl) (fun _ _ _ h => h) (Or.inl ⟨by rfl, ?_⟩) (by assumption) ?_
      rotate_left
      · (intro wS hSw; (try dsimp only at hSw); go_simp; try (with_reducible rfl))
      try simp only [Act.put, List.setIfInBounds_toArray, List.set_cons_zero, List.set_cons_succ]
      refine RegH.takeH (i := 7) (v := ?_) rfl (by kernel_rfl) (by kernel_rfl) (by kernel_rfl) (fun _ _ _ h => h) (Or.inl ⟨by rfl, ?_⟩) (by assumption) ?_
      rotate_left
      · (intro wS hSw; (try dsimp only at hSw); go_simp; try (with_reducible rfl))
      try simp only [Act.put, List.setIfInBounds_toArray, List.set_cons_zero, List.set_cons_succ]
      refine RegH.takeH (i := 9) (v := ?_) rfl (by kernel_rfl) (by kernel_rfl) (by kernel_rfl) (fun _ _ _ h => h) (Or.inl ⟨by rfl, ?_⟩) (by assumption) ?_
      rotate_left
      · (intro wS hSw; (try dsimp only at hSw); go_simp; try (with_reducible rfl))
      try simp only [Act.put, List.setIfInBounds_toArray, List.set_cons_zero, List.set_cons_succ]
      refine RegH.takeH (i := 10) (v := ?_) rfl (by kernel_rfl) (by kernel_rfl) (by kernel_rfl) (fun _ _ _ h => h) (Or.inl ⟨by rfl, ?_⟩) (by assumption) ?_
      rotate_left
      · (intro wS hSw; (try dsimp only at hSw); go_simp; try (with_reducible rfl))
      try simp only [Act.put, List.setIfInBounds_toArray, List.set_cons_zero, List.set_cons_succ]
      refine RegH.consH (i := 8) rfl (by kernel_rfl) (fun K hK => ?_)
      go_simp
      go_at_call 53
      refine (has_is _ _ _ _ _ qW52 (Cd.later HA.out HK2.out) HCH.out).mono ?_
      rintro e w' ⟨rfl, rfl⟩
      go_wp2_with fail
      refine hK.out _ _ ?_ (fun hHeld => ?_)
      · (refine ⟨?_, ?_⟩ <;> first | assumption | (simp [*]; done))
      clear hK K
      try simp only [Act.put, List.setIfInBounds_toArray, List.set_cons_zero, List.set_cons_succ]
      refine RegH.consH (i := 11) rfl (by kernel_rfl) (fun K hK => ?_)
      go_simp
      go_at_call 50
      refine (spec_conn n m (.slice ad L.length cd) L _ qW52 (Cd.later HD.out HK2.out)).mono ?_
      rintro e qW53 ⟨rfl, hbx⟩
      have HK3 := Lib.hid (below_then HK2.out hbx)
      have y3a := (LQ.out.later HK3.out).c0
      have y3b := (LQ.out.later HK3.out).c1
      clear hbx
      go_wp2_with fail
      refine hK.out _ _ ?_ (fun hHeld => ?_)
      · (refine ⟨?_, ?_⟩ <;> first | assumption | (simp [*]; done))
      clear hK K
      try simp only [Act.put, List.setIfInBounds_toArray, List.set_cons_zero, List.set_cons_succ]
      refine RegH.takeH (i := 12) (v := ?_) rfl (by kernel_rfl) (by kernel_rfl) (by kernel_rfl) (fun _ _ _ h => h) (Or.inl ⟨by rfl, ?_⟩) (by assumption) ?_
      rotate_left
      · (intro wS hSw; (try dsimp only at hSw); go_simp; try (with_reducible rfl))
      try simp only [Act.put, List.setIfInBounds_toArray, List.set_cons_zero, List.set_cons_succ]
      refine RegH.takeH (i := 13) (v := ?_) rfl (by kernel_rfl) (by kernel_rfl) (by kernel_rfl) (fun _ _ _ h => h) (Or.inl ⟨by rfl, ?_⟩) (by assumption) ?_
      rotate_left
      · (intro wS hSw; (try dsimp only at hSw); go_simp; try (with_reducible rfl))
      try simp only [Act.put, List.setIfInBounds_toArray, List.set_cons_zero, List.set_cons_succ]
      refine wpAnyH_done (by kernel_rfl) ?_ _
      replace HB := Lib.hid (below_then HB.out HK3.out)
      replace HD := Lib.hid (Cd.later HD.out HK3.out)
      replace LQ := Lib.hid (LQ.out.later HK3.out)
      replace HX := Lib.hid (Cd.later HX.out HK3.out)
      clear z0 z1 HK0 HK1 HK2 HK3 y1a y1b y2a y2b y3a y3b Hvs hHeld HA HSM HCH HCM
      have z0 := LQ.out.c0
      have z1 := LQ.out.c1
      go_wp2_with fail
      refine (impl_nbm n m (.slice ad L.length cd) L _ qW53 HD.out).mono ?_
      rintro e W6 ⟨rfl, hbx⟩
      replace HB := Lib.hid (below_then HB.out hbx)
      replace HD := Lib.hid (Cd.later HD.out hbx)
      replace LQ := Lib.hid (LQ.out.later hbx)
      replace HX := Lib.hid (Cd.later HX.out hbx)
      clear hbx z0 z1
      have z0 := LQ.out.c0
      have z1 := LQ.out.c1
      have HMC := Lib.hid (impl_maskatoms ((nb n L m : Nat) : Int) W6)
      rw [HMA.out] at HMC
      go_wp2_with fail
      refine (HMC.out).mono ?_
      rintro e W7 ⟨vk, f_vk, rfl, hyo, _, hbx⟩
      obtain ⟨a_vk, c_vk, rfl⟩ := Cd.ow_slice hyo
      replace HB := Lib.hid (below_then HB.out hbx)
      replace HD := Lib.hid (Cd.later HD.out hbx)
      replace LQ := Lib.hid (LQ.out.later hbx)
      replace HX := Lib.hid (Cd.later HX.out hbx)
      have HK := Lib.hid (Cd.reads hyo)
      clear hyo hbx z0 z1
      have z0 := LQ.out.c0
      have z1 := LQ.out.c1
      clear HMC HMA
      have HNC := Lib.hid (fun (w' : World) (hd : atomsC.rd w' (fun b => w.heap.size ≤ b ∧ b < W1.heap.size) [.slice ad L.length cd] L) => spec_conn n m (.slice ad L.length cd) L _ w' hd)
      have HNB := Lib.hid (fun (w' : World) (hd : atomsC.rd w' (fun b => w.heap.size ≤ b ∧ b < W1.heap.size) [.slice ad L.length cd] L) => spec_nbm n m (.slice ad L.length cd) L _ w' hd)
      generalize varsL (nb n L m) = K at *
      generalize nb n L m = NB at *
      go_wp2_with fail
      go_loopw [10] (fun i wr => ∃ k : Nat, k ≤ K.length ∧ i = .int .i64 k ∧ Below W7.heap.size W7 wr) (fun i _ => K.length - (intOf i).toNat)
      case atStart => exact ⟨0, Nat.zero_le _, rfl, Below.refl _ _⟩
      case round =>
        clear z0 z1
        rename_i wo
        obtain ⟨k, hk, rfl, hbr⟩ := hrel
        have HBW := Lib.hid hbr
        replace HB := Lib.hid (below_then HB.out hbr)
        replace HD := Lib.hid (Cd.later HD.out hbr)
        replace LQ := Lib.hid (LQ.out.later hbr)
        replace HX := Lib.hid (Cd.later HX.out hbr)
        replace HK := Lib.hid (Cd.later HK.out hbr)
        have z0 := LQ.out.c0
        have z1 := LQ.out.c1
        clear hbr
        by_cases hlt : k < K.length
        · obtain ⟨b1, off, cap', e1, hbB, hcell⟩ := ri_at (row_ri HK.out).1 hlt
          injection e1 with e1 e2 e3
          subst e1 e3
          have p1 : (0 : Int) ≤ (k : Int) := by omega
          have p2 : (k : Int) < (K.length : Int) := by omega
          have p3 : (K.length : Int) ≤ 4 := by have := HVL.out; omega
          cases hc : cOk n L m
          · rw [hc] at HNC
            have HLT := Lib.hid hlt
            clear hc hlt hbB hcell e2
            go_wp2_with fail
            have HK0 := Lib.hid (bd_drew wr)
            refine wp_region_held_drew (S := fun wx => wx.cell? ⟨W1.heap.size, 0, none⟩ = some (.int .i64 n) ∧ wx.cell? ⟨W1.heap.size, 1, none⟩ = some (.slice ad L.length cd)) (by kernel_rfl) ?_ (fun hHeld => ?_)
            · (refine ⟨?_, ?_⟩ <;> first | assumption | (simp [*]; done))
            refine RegH.takeH (i := 0) (v := ?_) rfl (by kernel_rfl) (by kernel_rfl) (by kernel_rfl) (fun _ _ _ h => h) (Or.inl ⟨by rfl, ?_⟩) (by assumption) ?_
            rotate_left
            · (intro wS hSw; (try dsimp only at hSw); go_simp; try (with_reducible rfl))
            try simp only [Act.put, List.setIfInBounds_toArray, List.set_cons_zero, List.set_cons_succ]
            refine RegH.takeH (i := 1) (v := ?_) rfl (by kernel_rfl) (by kernel_rfl) (by kernel_rfl) (fun _ _ _ h => h) (Or.inl ⟨by rfl, ?_⟩) (by assumption) ?_
            rotate_left
            · (intro wS hSw; (try dsimp only at hSw); go_simp; try (with_reducible rfl))
            try simp only [Act.put, List.setIfInBounds_toArray, List.set_cons_zero, List.set_cons_succ]
            refine RegH.consH (i := 2) rfl (by kernel_rfl) (fun K hK => ?_)
            go_simp
            go_at_call 50
            refine (HNC.out wr.drew (Cd.later HD.out HK0.out)).mono ?_
            rintro e qwr1 ⟨rfl, hbx⟩
            have HK1 := Lib.hid (below_then HK0.out hbx)
            have y1a := (LQ.out.later HK1.out).c0
            have y1b := (LQ.out.later HK1.out).c1
            clear hbx
            go_wp2_with fail
            refine hK.out _ _ ?_ (fun hHeld => ?_)
            · (refine ⟨?_, ?_⟩ <;> first | assumption | (simp [*]; done))
            clear hK K
            try simp only [Act.put, List.setIfInBounds_toArray, List.set_cons_zero, List.set_cons_succ]
            refine RegH.takeH (i := 3) (v := ?_) rfl (by kernel_rfl) (by kernel_rfl) (by kernel_rfl) (fun _ _ _ h => h) (Or.inl ⟨by rfl, ?_⟩) (by assumption) ?_
            rotate_left
            · (intro wS hSw; (try dsimp only at hSw); go_simp; try (with_reducible rfl))
            try simp only [Act.put, List.setIfInBounds_toArray, List.set_cons_zero, List.set_cons_succ]
            refine RegH.takeH (i := 4) rfl (by kernel_rfl) (by kernel_rfl) (by kernel_rfl) (fun _ _ _ h => h) (Or.inr ⟨by rfl, rfl⟩) (by assumption) ?_
            try simp only [Act.put, List.setIfInBounds_toArray, List.set_cons_zero, List.set_cons_succ]
            refine RegH.takeH (i := 5) rfl (by kernel_rfl) (by kernel_rfl) (by kernel_rfl) (fun _ _ _ h => h) (Or.inr ⟨by rfl, rfl⟩) (by assumption) ?_
            try simp only [Act.put, List.setIfInBounds_toArray, List.set_cons_zero, List.set_cons_succ]
            refine RegH.takeH (i := 6) rfl (by kernel_rfl) (by kernel_rfl) (by kernel_rfl) (fun _ _ _ h => h) (Or.inr ⟨by rfl, rfl⟩) (by assumption) ?_
            try simp only [Act.put, List.setIfInBounds_toArray, List.set_cons_zero, List.set_cons_succ]
            refine RegH.takeH (i := 7) rfl (by kernel_rfl) (by kernel_rfl) (by kernel_rfl) (fun _ _ _ h => h) (Or.inr ⟨by rfl, rfl⟩) (by assumption) ?_
            try simp only [Act.put, List.setIfInBounds_toArray, List.set_cons_zero, List.set_cons_succ]
            refine RegH.takeH (i := 8) rfl (by kernel_rfl) (by kernel_rfl) (by kernel_rfl) (fun _ _ _ h => h) (Or.inr ⟨by rfl, rfl⟩) (by assumption) ?_
            try simp only [Act.put, List.setIfInBounds_toArray, List.set_cons_zero, List.set_cons_succ]
            refine RegH.takeH (i := 9) rfl (by kernel_rfl) (by kernel_rfl) (by kernel_rfl) (fun _ _ _ h => h) (Or.inr ⟨by rfl, rfl⟩) (by assumption) ?_
            try simp only [Act.put, List.setIfInBounds_toArray, List.set_cons_zero, List.set_cons_succ]
            refine RegH.takeH (i := 10) rfl (by kernel_rfl) (by kernel_rfl) (by kernel_rfl) (fun _ _ _ h => h) (Or.inr ⟨by rfl, rfl⟩) (by assumption) ?_
            try simp only [Act.put, List.setIfInBounds_toArray, List.set_cons_zero, List.set_cons_succ]
            refine RegH.takeH (i := 11) rfl (by kernel_rfl) (by kernel_rfl) (by kernel_rfl) (fun _ _ _ h => h) (Or.inr ⟨by rfl, rfl⟩) (by assumption) ?_
            try simp only [Act.put, List.setIfInBounds_toArray, List.set_cons_zero, List.set_cons_succ]
            refine RegH.takeH (i := 12) rfl (by kernel_rfl) (by kernel_rfl) (by kernel_rfl) (fun _ _ _ h => h) (Or.inr ⟨by rfl, rfl⟩) (by assumption) ?_
            try simp only [Act.put, List.setIfInBounds_toArray, List.set_cons_zero, List.set_cons_succ]
            refine RegH.takeH (i := 13) rfl (by kernel_rfl) (by kernel_rfl) (by kernel_rfl) (fun _ _ _ h => h) (Or.inr ⟨by rfl, rfl⟩) (by assumption) ?_
            try simp only [Act.put, List.setIfInBounds_toArray, List.set_cons_zero, List.set_cons_succ]
            refine RegH.takeH (i := 14) (v := ?_) rfl (by kernel_rfl) (by kernel_rfl) (by kernel_rfl) (fun _ _ _ h => h) (Or.inl ⟨by rfl, ?_⟩) (by assumption) ?_
            rotate_left
            · (intro wS hSw; (try dsimp only at hSw); go_simp; try (with_reducible rfl))
            try simp only [Act.put, List.setIfInBounds_toArray, List.set_cons_zero, List.set_cons_succ]
            refine wpAnyH_done (by kernel_rfl) ?_ _
            go_wp2_with fail
            go_roundw
            case rel => exact ⟨k + 1, HLT.out, by go_num, below_then HBW.out HK1.out⟩
            case measure => have := HLT.out; simp [intOf]; omega
          · rw [hc] at HNC
            obtain ⟨v1, z, hxv, hv4, hor, hcz⟩ := HNM.out hc _ (List.getElem_mem hlt)
            rw [hxv] at hcell
            have p4 : (v1 : Int) ≤ 64 := by omega
            have p5 : ((v1 : Int)).toNat = v1 := by omega
            have p6 : (0 : Int) ≤ (v1 : Int) := by omega
            have hpw := pow_w (show v1 ≤ 4 by omega)
            have HC1 := Lib.hid (HCI.out z)
            rw [hcz] at HC1
            have HLT := Lib.hid (And.intro hlt hbB)
            have HCE := Lib.hid hcell
            clear hxv hv4 hcz hlt hbB hc
            go_wp2_with fail
            have HK0 := Lib.hid (bd_drew wr)
            refine wp_region_held_drew (S := fun wx => wx.cell? ⟨W1.heap.size, 0, none⟩ = some (.int .i64 n) ∧ wx.cell? ⟨W1.heap.size, 1, none⟩ = some (.slice ad L.length cd) ∧ wx.cell? ⟨b1, off + k, none⟩ = some (.int .i64 (v1 : Int))) (by kernel_rfl) ?_ (fun hHeld => ?_)
            · (refine ⟨?_, ?_, ?_⟩ <;> first | assumption | (simp [*]; done))
            refine RegH.takeH (i := 0) (v := ?_) rfl (by kernel_rfl) (by kernel_rfl) (by kernel_rfl) (fun _ _ _ h => h) (Or.inl ⟨by rfl, ?_⟩) (by assumption) ?_
            rotate_left
            · (intro wS hSw; (try dsimp only at hSw); go_simp; try (with_reducible rfl))
            try simp only [Act.put, List.setIfInBounds_toArray, List.set_cons_zero, List.set_cons_succ]
            refine RegH.takeH (i := 1) (v := ?_) rfl (by kernel_rfl) (by kernel_rfl) (by kernel_rfl) (fun _ _ _ h => h) (Or.inl ⟨by rfl, ?_⟩) (by assumption) ?_
            rotate_left
            · (intro wS hSw; (try dsimp only at hSw); go_simp; try (with_reducible rfl))
            try simp only [Act.put, List.setIfInBounds_toArray, List.set_cons_zero, List.set_cons_succ]
            refine RegH.consH (i := 2) rfl (by kernel_rfl) (fun K hK => ?_)
            go_simp
            go_at_call 50
            refine (HNC.out wr.drew (Cd.later HD.out HK0.out)).mono ?_
            rintro e qwr1 ⟨rfl, hbx⟩
            have HK1 := Lib.hid (below_then HK0.out hbx)
            have y1a := (LQ.out.later HK1.out).c0
            have y1b := (LQ.out.later HK1.out).c1
            have y1c0 := (Below.cell HK1.out (p := ⟨b1, off + k, none⟩) HLT.out.2).trans HCE.out
            clear hbx
            go_wp2_with fail
            refine hK.out _ _ ?_ (fun hHeld => ?_)
            · (refine ⟨?_, ?_, ?_⟩ <;> first | assumption | (simp [*]; done))
            clear hK K
            try simp only [Act.put, List.setIfInBounds_toArray, List.set_cons_zero, List.set_cons_succ]
            refine RegH.takeH (i := 3) (v := ?_) rfl (by kernel_rfl) (by kernel_rfl) (by kernel_rfl) (fun _ _ _ h => h) (Or.inl ⟨by rfl, ?_⟩) (by assumption) ?_
            rotate_left
            · (intro wS hSw; (try dsimp only at hSw); go_simp; try (with_reducible rfl))
            try simp only [Act.put, List.setIfInBounds_toArray, List.set_cons_zero, List.set_cons_succ]
            refine RegH.takeH (i := 4) (v := ?_) rfl (by kernel_rfl) (by kernel_rfl) (by kernel_rfl) (fun _ _ _ h => h) (Or.inl ⟨by rfl, ?_⟩) (by assumption) ?_
            rotate_left
            · (intro wS hSw; (try dsimp only at hSw); go_simp; try (with_reducible rfl))
            try simp only [Act.put, List.setIfInBounds_toArray, List.set_cons_zero, List.set_cons_succ]
            refine RegH.takeH (i := 5) (v := ?_) rfl (by kernel_rfl) (by kernel_rfl) (by kernel_rfl) (fun _ _ _ h => h) (Or.inl ⟨by rfl, ?_⟩) (by assumption) ?_
            rotate_left
            · (intro wS hSw; (try dsimp only at hSw); go_simp; try (with_reducible rfl))
            try simp only [Act.put, List.setIfInBounds_toArray, List.set_cons_zero, List.set_cons_succ]
            refine RegH.takeH (i := 6) (v := ?_) rfl (by kernel_rfl) (by kernel_rfl) (by kernel_rfl) (fun _ _ _ h => h) (Or.inl ⟨by rfl, ?_⟩) (by assumption) ?_
            rotate_left
            · (intro wS hSw; (try dsimp only at hSw); go_simp; try (with_reducible rfl))
            try simp only [Act.put, List.setIfInBounds_toArray, List.set_cons_zero, List.set_cons_succ]
            refine RegH.takeH (i := 7) (v := ?_) rfl (by kernel_rfl) (by kernel_rfl) (by kernel_rfl) (fun _ _ _ h => h) (Or.inl ⟨by rfl, ?_⟩) (by assumption) ?_
            rotate_left
            · (intro wS hSw; (try dsimp only at hSw); go_simp; try (with_reducible rfl))
            try simp only [Act.put, List.setIfInBounds_toArray, List.set_cons_zero, List.set_cons_succ]
            refine RegH.takeH (i := 8) (v := ?_) rfl (by kernel_rfl) (by kernel_rfl) (by kernel_rfl) (fun _ _ _ h => h) (Or.inl ⟨by rfl, ?_⟩) (by assumption) ?_
            rotate_left
            · (intro wS hSw; (try dsimp only at hSw); go_simp; try (with_reducible rfl))
            try simp only [Act.put, List.setIfInBounds_toArray, List.set_cons_zero, List.set_cons_succ]
            refine RegH.takeH (i := 9) (v := ?_) rfl (by kernel_rfl) (by kernel_rfl) (by kernel_rfl) (fun _ _ _ h => h) (Or.inl ⟨by rfl, ?_⟩) (by assumption) ?_
            rotate_left
            · (intro wS hSw; (try dsimp only at hSw); go_simp; try (with_reducible rfl))
            try simp only [Act.put, List.setIfInBounds_toArray, List.set_cons_zero, List.set_cons_succ]
            refine RegH.takeH (i := 10) (v := ?_) rfl (by kernel_rfl) (by kernel_rfl) (by kernel_rfl) (fun _ _ _ h => h) (Or.inl ⟨by rfl, ?_⟩) (by assumption) ?_
            rotate_left
            · (intro wS hSw; (try dsimp only at hSw); go_simp; try (with_reducible rfl))
            try simp only [Act.put, List.setIfInBounds_toArray, List.set_cons_zero, List.set_cons_succ]
            refine RegH.takeH (i := 11) (v := ?_) rfl (by kernel_rfl) (by kernel_rfl) (by kernel_rfl) (fun _ _ _ h => h) (Or.inl ⟨by rfl, ?_⟩) (by assumption) ?_
            rotate_left
            · (intro wS hSw; (try dsimp only at hSw); go_simp; try (with_reducible rfl))
            try simp only [Act.put, List.setIfInBounds_toArray, List.set_cons_zero, List.set_cons_succ]
            refine RegH.consH (i := 12) rfl (by kernel_rfl) (fun K hK => ?_)
            go_simp
            go_at_call 49
            refine (HC1.out qwr1 (Cd.later HD.out HK1.out)).mono ?_
            rintro e qwr2 ⟨rfl, hbx⟩
            have HK2 := Lib.hid (below_then HK1.out hbx)
            have y2a := (LQ.out.later HK2.out).c0
            have y2b := (LQ.out.later HK2.out).c1
            have y2c0 := (Below.cell HK2.out (p := ⟨b1, off + k, none⟩) HLT.out.2).trans HCE.out
            clear hbx
            go_wp2_with fail
            refine hK.out _ _ ?_ (fun hHeld => ?_)
            · (refine ⟨?_, ?_, ?_⟩ <;> first | assumption | (simp [*]; done))
            clear hK K
            try simp only [Act.put, List.setIfInBounds_toArray, List.set_cons_zero, List.set_cons_succ]
            refine RegH.takeH (i := 13) (v := ?_) rfl (by kernel_rfl) (by kernel_rfl) (by kernel_rfl) (fun _ _ _ h => h) (Or.inl ⟨by rfl, ?_⟩) (by assumption) ?_
            rotate_left
            · (intro wS hSw; (try dsimp only at hSw); go_simp; try (with_reducible rfl))
            try simp only [Act.put, List.setIfInBounds_toArray, List.set_cons_zero, List.set_cons_succ]
            refine RegH.takeH (i := 14) (v := ?_) rfl (by kernel_rfl) (by kernel_rfl) (by kernel_rfl) (fun _ _ _ h => h) (Or.inl ⟨by rfl, ?_⟩) (by assumption) ?_
            rotate_left
            · (intro wS hSw; (try dsimp only at hSw); go_simp; try (with_reducible rfl))
            try simp only [Act.put, List.setIfInBounds_toArray, List.set_cons_zero, List.set_cons_succ]
            refine wpAnyH_done (by kernel_rfl) ?_ _
            go_wp2_with fail
            go_roundw
            case rel => exact ⟨k + 1, HLT.out.1, by go_num, below_then HBW.out HK2.out⟩
            case measure => have := HLT.out.1; simp [intOf]; omega
        · have ek : k = K.length := by omega
          subst ek
          clear HNM HBW hk hlt HVL HCI
          cases hc : cOk n L m
          · rw [hc] at HNC
            clear hc
            go_wp2_with fail
            refine (HNB.out _ HD.out).mono ?_
            rintro e w8 ⟨rfl, hbx⟩
            replace HB := Lib.hid (below_then HB.out hbx)
            replace HD := Lib.hid (Cd.later HD.out hbx)
            replace LQ := Lib.hid (LQ.out.later hbx)
            clear hbx z0 z1
            have z0 := LQ.out.c0
            have z1 := LQ.out.c1
            go_wp2_with fail
            refine (HNC.out _ HD.out).mono ?_
            rintro e w9 ⟨rfl, hbx⟩
            replace HB := Lib.hid (below_then HB.out hbx)
            clear hbx
            go_wp2_with fail
            go_ret
            exact ⟨rfl, HB.out⟩
          · rw [hc] at HNC
            obtain ⟨t, hmt, ht1, ht16, hrs⟩ := HJS.out hc
            have HSG := Lib.hid (fun w' => law_single t w' ht1 ht16)
            rw [← hmt] at HSG
            clear hc hmt
            go_wp2_with fail
            refine (HNB.out _ HD.out).mono ?_
            rintro e w8 ⟨rfl, hbx⟩
            replace HB := Lib.hid (below_then HB.out hbx)
            replace HD := Lib.hid (Cd.later HD.out hbx)
            replace LQ := Lib.hid (LQ.out.later hbx)
            clear hbx z0 z1
            have z0 := LQ.out.c0
            have z1 := LQ.out.c1
            go_wp2_with fail
            refine (HNC.out _ HD.out).mono ?_
            rintro e w9 ⟨rfl, hbx⟩
            replace HB := Lib.hid (below_then HB.out hbx)
            clear hbx z0 z1
            by_cases hs : t &&& (t - 1) = 0
            · rw [beq_iff_eq.2 hs] at HSG
              clear hs hrs ht1 ht16
              go_wp2_with fail
              refine (HSG.out _).mono ?_
              rintro e w' ⟨rfl, rfl⟩
              go_wp2_with fail
              go_ret
              exact ⟨rfl, HB.out⟩
            · rw [beq_eq_false_iff_ne.2 hs] at HSG
              have hrl := hrs hs
              have h1 : (0 : Int) < (R.length : Int) := by omega
              have h2 : 0 < R.length := by omega
              clear hs hrs ht1 ht16 hrl
              go_wp2_with fail
              refine (HSG.out _).mono ?_
              rintro e w' ⟨rfl, rfl⟩
              go_wp2_with fail
              go_ret
              exact ⟨rfl, HB.out⟩
end Go.Proofs.Ytklamhnecncenaa.QgWalk
