/- Dependencies: the program's keys and minimal keys. -/
import Derived.Test.YtnoennmhifmolaaDepImp4
import Derived.Test.YtnoennmhifmolaaDepSpec6
import Derived.Test.YtnoennmhifmolaaQryList
import Derived.Test.YtnoennmhifmolaaTabImp2
namespace Go.Proofs.Ytnoennmhifmolaa.DepClo
open Go Go.RowKit Byt Ints IntsLaw Cd Rows2 Tab SlMath TabSpec Exact Dep MkDep QryMath DepMath DepSort
open DegMath (colsOk gcOk)
open DepImp (impl_has impl_col)

theorem cov_part0 : ∀ a < 4, ∀ m < 8, decide ((2 ^ a - 1) &&& m = 2 ^ a - 1) = (List.range a).all (fun v => m.testBit v) := by decide
theorem key_part {l : List D3} {nm : ByteArray} {a : Nat} {rows : List (List Int)} {cols : List Int} (h : gcOk nm (a : Int) rows cols = true) (ha : a < 4) : keyOk l nm (a : Int) rows cols = (varsL (2 ^ a - 1)).all (hasI (clo l nm cols)) := by
  have hm := clo_lt (l := l) (nm := nm) (mskC_lt cols)
  have hp := pow_ar0 a ha
  have hq : 0 < 2 ^ a := Nat.two_pow_pos _
  unfold keyOk keyM clo covB
  rw [h, Bool.true_and, Int.toNat_natCast, part_vars0 _ (by omega) _ hm, cov_part0 a ha _ hm]
set_option maxRecDepth 100000 in
set_option maxHeartbeats 3200000 in
theorem impl_iskey (v u vc : Value) (l : List D3) (nm : ByteArray) (ar : Int) (rows : List (List Int)) (cols : List Int) (S S2 S3 : Nat → Prop) (w : World) (h1 : depsC.rd w S [v] l) (h2 : rowsC.rd w S2 [u] rows) (h3 : rowC.rd w S3 [vc] cols) :
    Calls Try.prog 39 #[v, .agg #[.string nm, .int .i64 ar, u], vc] w fun e w' => e = .returned (.bool (keyOk l nm ar rows cols)) ∧ Below w.heap.size w w' := by
  have HVT := Lib.hid (fun w' (hb : Below w.heap.size w w') => TabImp.impl_valid nm ar u rows S2 w' (Cd.later h2 hb))
  have HAS := Lib.hid (fun w' (hb : Below w.heap.size w w') => DegImp.impl_asc vc cols ar _ w' (row_ri (Cd.later h3 hb)).1)
  have HCL := Lib.hid (fun w' (hb : Below w.heap.size w w') => impl_clo v vc l nm cols S S3 w' (Cd.later h1 hb) (Cd.later h3 hb))
  obtain ⟨a1, cap1, rfl, hl1⟩ := Cd.sl_form h1
  obtain ⟨a2, cap2, rfl, hl2⟩ := rows_form h2
  obtain ⟨a3, cap3, rfl, hl3, _⟩ := (row_ri h3).1
  clear h1 h2 h3
  go_enter Try.func39, Try.ntmps39
  go_wp2_with fail
  generalize hW : w.alloc _ = W
  obtain ⟨r0, z0, hb0⟩ := start1 w _ hW
  clear hW
  have L0 := Lib.hid (Loc3.of r0)
  have HB := Lib.hid hb0
  clear r0
  have HT := Lib.hid (HVT.out W hb0)
  clear hb0 HVT
  refine HT.out.mono ?_
  rintro e w1 ⟨rfl, hb1⟩
  have L1 := Lib.hid (L0.out.later hb1)
  have HB1 := Lib.hid (below_then HB.out hb1)
  clear hb1 HT
  cases ht : tabOk nm ar rows
  · have HZ := Lib.hid (keyOk_no (l := l) (cols := cols) (show gcOk nm ar rows cols = false by unfold gcOk; rw [ht]; rfl))
    clear ht
    go_wp2_with fail
    go_ret
    exact ⟨ret_b HZ.out.symm, HB1.out⟩
  have HA := Lib.hid (HAS.out w1 HB1.out)
  have y1 := L1.out.c1
  cases hc : colsOk cols ar
  · have HZ := Lib.hid (keyOk_no (l := l) (cols := cols) (show gcOk nm ar rows cols = false by unfold gcOk; rw [ht, hc]; rfl))
    rw [hc] at HA
    clear ht hc
    go_wp2_with fail
    refine HA.out.mono ?_
    rintro e w2 ⟨rfl, rfl⟩
    go_wp2_with fail
    go_ret
    exact ⟨ret_b HZ.out.symm, HB1.out⟩
  have hT : TabP _ _ _ := of_decide_eq_true ht
  obtain ⟨a, rfl⟩ := Int.eq_ofNat_of_zero_le (show 0 ≤ ar by have := hT.2.1; omega)
  have ha3 : a < 4 := by have := hT.2.2.1; omega
  have HZ := Lib.hid (key_part (l := l) (nm := nm) (rows := rows) (cols := cols) (show gcOk nm (a : Int) rows cols = true by unfold gcOk; rw [ht, hc]; rfl) ha3)
  have hp8 := pow_ar0 a ha3
  have hq1 : 0 < 2 ^ a := Nat.two_pow_pos _
  have HLB := Lib.hid (fun w' => QrySpec.impl_list (2 ^ a - 1) w' (by omega))
  rw [hc] at HA
  have hpa := (pow_lenD (k := a) (by omega)).1
  have hsb : IntKind.i64.wrap ((2 : Int) ^ a - 1) = ((2 ^ a - 1 : Nat) : Int) := by
    have h := pow_castD a
    rw [h, IntKind.wrap_i64]
    omega
  have q64 : (a : Int) ≤ 64 := by omega
  have qtn : ((a : Int)).toNat = a := by omega
  have q0a : (0 : Int) ≤ (a : Int) := by omega
  clear ht hc hT hp8 hq1
  generalize 2 ^ a - 1 = full at *
  go_wp2_with fail
  refine HA.out.mono ?_
  rintro e w2 ⟨rfl, rfl⟩
  clear HA HAS y1
  go_upto_region 3 with fail
  have hd0 : Below w1.heap.size w1 w1.drew := Below.drew (Below.refl _ _)
  have HLD := Lib.hid (L1.out.later hd0)
  have HBD := Lib.hid (below_then HB1.out hd0)
  clear hd0
  refine wp_region_held_drew (S := fun wx => Loc3 wx w.heap.size (.string nm) (.int .i64 (a : Int)) (.slice a2 rows.length cap2)) (by kernel_rfl) ?_ (fun hHeld => ?_)
  · exact HLD.out
  generalize World.drew w1 = wyd at *
  refine RegH.takeH (i := 0) (v := ?_) rfl (by kernel_rfl) (by kernel_rfl) (by kernel_rfl) (fun _ _ _ h => h) (Or.inl ⟨by rfl, ?_⟩) (by assumption) ?_
  rotate_left
  · (intro wS hSw; (try dsimp only at hSw); (skip); go_simp; try (with_reducible rfl))
  try simp only [Act.put, List.setIfInBounds_toArray, List.set_cons_zero, List.set_cons_succ]
  refine RegH.takeH (i := 1) (v := ?_) rfl (by kernel_rfl) (by kernel_rfl) (by kernel_rfl) (fun _ _ _ h => h) (Or.inl ⟨by rfl, ?_⟩) (by assumption) ?_
  rotate_left
  · (intro wS hSw; (try dsimp only at hSw); (skip); go_simp; try (with_reducible rfl))
  try simp only [Act.put, List.setIfInBounds_toArray, List.set_cons_zero, List.set_cons_succ]
  refine RegH.takeH (i := 2) (v := ?_) rfl (by kernel_rfl) (by kernel_rfl) (by kernel_rfl) (fun _ _ _ h => h) (Or.inl ⟨by rfl, ?_⟩) (by assumption) ?_
  rotate_left
  · (intro wS hSw; (try dsimp only at hSw); (have r0 := hSw.c0; have r1 := hSw.c1; have r2 := hSw.c2); go_simp; try (with_reducible rfl))
  try simp only [Act.put, List.setIfInBounds_toArray, List.set_cons_zero, List.set_cons_succ]
  refine RegH.takeH (i := 3) (v := ?_) rfl (by kernel_rfl) (by kernel_rfl) (by kernel_rfl) (fun _ _ _ h => h) (Or.inl ⟨by rfl, ?_⟩) (by assumption) ?_
  rotate_left
  · (intro wS hSw; (try dsimp only at hSw); (skip); go_simp; try (with_reducible rfl))
  try simp only [Act.put, List.setIfInBounds_toArray, List.set_cons_zero, List.set_cons_succ]
  refine RegH.takeH (i := 5) (v := ?_) rfl (by kernel_rfl) (by kernel_rfl) (by kernel_rfl) (fun _ _ _ h => h) (Or.inl ⟨by rfl, ?_⟩) (by assumption) ?_
  rotate_left
  · (intro wS hSw; (try dsimp only at hSw); (skip); go_simp; try (with_reducible rfl))
  try simp only [Act.put, List.setIfInBounds_toArray, List.set_cons_zero, List.set_cons_succ]
  refine RegH.takeH (i := 6) (v := ?_) rfl (by kernel_rfl) (by kernel_rfl) (by kernel_rfl) (fun _ _ _ h => h) (Or.inl ⟨by rfl, ?_⟩) (by assumption) ?_
  rotate_left
  · (intro wS hSw; (try dsimp only at hSw); (have r0 := hSw.c0; have r1 := hSw.c1; have r2 := hSw.c2); go_simp; try (with_reducible rfl))
  try simp only [Act.put, List.setIfInBounds_toArray, List.set_cons_zero, List.set_cons_succ]
  refine RegH.takeH (i := 7) (v := ?_) rfl (by kernel_rfl) (by kernel_rfl) (by kernel_rfl) (fun _ _ _ h => h) (Or.inl ⟨by rfl, ?_⟩) (by assumption) ?_
  rotate_left
  · (intro wS hSw; (try dsimp only at hSw); (skip); go_simp; try (with_reducible rfl))
  try simp only [Act.put, List.setIfInBounds_toArray, List.set_cons_zero, List.set_cons_succ]
  refine RegH.takeH (i := 8) (v := ?_) rfl (by kernel_rfl) (by kernel_rfl) (by kernel_rfl) (fun _ _ _ h => h) (Or.inl ⟨by rfl, ?_⟩) (by assumption) ?_
  rotate_left
  · (intro wS hSw; (try dsimp only at hSw); (skip); go_simp; try (with_reducible rfl))
  try simp only [Act.put, List.setIfInBounds_toArray, List.set_cons_zero, List.set_cons_succ]
  refine RegH.consH (i := 4) rfl (by kernel_rfl) (fun K hK => ?_)
  go_simp
  go_at_call 33
  refine (HCL.out _ HBD.out).mono ?_
  rintro e wq0 ⟨v', f', rfl, ho, hn, hbq⟩
  obtain ⟨av, cv, rfl⟩ := Cd.ow_slice ho
  have HL0 := HLD.out.later hbq
  have HQ0 := Lib.hid (below_then HBD.out hbq)
  have HOS := Lib.hid (rowC.ow_rd ho)
  clear hbq ho hn
  (try go_wp2_with fail)
  refine hK.out _ _ ?_ (fun hHeld => ?_)
  · exact HL0
  clear hK K
  try simp only [Act.put, List.setIfInBounds_toArray, List.set_cons_zero, List.set_cons_succ]
  refine RegH.consH (i := 9) rfl (by kernel_rfl) (fun K hK => ?_)
  go_simp
  go_at_call 79
  refine (HLB.out wq0).mono ?_
  rintro e wq1 ⟨v2, f2, rfl, ho, hn, hbq⟩
  obtain ⟨av2, cv2, rfl⟩ := Cd.ow_slice ho
  have HL1 := HL0.later hbq
  have HQ1 := Lib.hid (below_then HQ0.out hbq)
  have HOT := Lib.hid (rowC.ow_rd ho)
  have HOS2 := Lib.hid (Cd.later HOS.out hbq)
  clear hbq ho hn
  (try go_wp2_with fail)
  refine hK.out _ _ ?_ (fun hHeld => ?_)
  · exact HL1
  clear hK K
  try simp only [Act.put, List.setIfInBounds_toArray, List.set_cons_zero, List.set_cons_succ]
  refine RegH.consH (i := 10) rfl (by kernel_rfl) (fun K hK => ?_)
  go_simp
  go_at_call 78
  refine (impl_all _ _ _ _ _ _ wq1 (row_ri HOS2.out).1 (row_ri HOT.out).1).mono ?_
  rintro e wq2 ⟨rfl, rfl⟩
  (try go_wp2_with fail)
  refine hK.out _ _ ?_ (fun hHeld => ?_)
  · exact HL1
  clear hK K
  try simp only [Act.put, List.setIfInBounds_toArray, List.set_cons_zero, List.set_cons_succ]
  refine RegH.takeH (i := 11) (v := ?_) rfl (by kernel_rfl) (by kernel_rfl) (by kernel_rfl) (fun _ _ _ h => h) (Or.inl ⟨by rfl, ?_⟩) (by assumption) ?_
  rotate_left
  · (intro wS hSw; (try dsimp only at hSw); (skip); go_simp; try (with_reducible rfl))
  try simp only [Act.put, List.setIfInBounds_toArray, List.set_cons_zero, List.set_cons_succ]
  refine wpAnyH_done (by kernel_rfl) ?_ _
  go_wp2_with fail
  go_ret
  exact ⟨ret_b (by rw [HZ.out]), HQ1.out⟩
theorem impl_part (x : Value) (key cols : List Int) (B : Nat) (w : World) (hr : RI w x key B) (bx : Nat) (a : Option Addr) (c : Nat) (hc : w.cell? ⟨bx, 0, none⟩ = some (.slice a cols.length c)) (hcr : RI w (.slice a cols.length c) cols w.heap.size) :
    Calls Try.prog 83 #[x, .pointer (some ⟨bx, 0, none⟩)] w fun e w' => e = .returned (.bool (key.all (hasI cols))) ∧ w = w' := by
  have HA := Lib.hid (impl_all _ x cols key _ _ w hcr hr)
  obtain ⟨a1, c1, rfl, hl1, _⟩ := hr
  go_enter Try.func83, Try.ntmps83
  go_wp2_with fail
  refine HA.out.mono ?_
  rintro e w1 ⟨rfl, rfl⟩
  go_wp2_with fail
  go_ret
  exact ⟨rfl, rfl⟩
/-- The index of the first key that is a part. -/
def ixK (L : List (List Int)) (cols : List Int) (k : Nat) : Int := match L with
  | [] => -1
  | r :: rs => if r.all (hasI cols) = true then (k : Int) else ixK rs cols (k + 1)
theorem ixK_any (cols : List Int) : ∀ (L : List (List Int)) (k : Nat), decide (0 ≤ ixK L cols k) = L.any fun key => key.all (hasI cols)
  | [], k => rfl
  | r :: rs, k => by
    have ih := ixK_any cols rs (k + 1)
    unfold ixK
    rw [List.any_cons]
    by_cases h : r.all (hasI cols) = true
    · rw [if_pos h, h, Bool.true_or]
      exact decide_eq_true (by omega)
    · rw [if_neg h, Bool.eq_false_iff.2 h, Bool.false_or]
      exact ih
theorem ixK_drop {L : List (List Int)} {cols : List Int} {k : Nat} (h : k < L.length) : ixK (L.drop k) cols k = if (L[k]).all (hasI cols) = true then (k : Int) else ixK (L.drop (k + 1)) cols (k + 1) := by
  rw [List.drop_eq_getElem_cons h]
  rfl
set_option maxRecDepth 100000 in
theorem impl_partix (u : Value) (L : List (List Int)) (cols : List Int) (S : Nat → Prop) (w : World) (hr : rowsC.rd w S [u] L) (bx : Nat) (a : Option Addr) (c : Nat) (hc : w.cell? ⟨bx, 0, none⟩ = some (.slice a cols.length c)) (hcr : RI w (.slice a cols.length c) cols w.heap.size) :
    Calls Try.prog 99 #[u, .func (.func 83) #[] #[.pointer (some ⟨bx, 0, none⟩)]] w fun e w' => e = .returned (.int .i64 (ixK L cols 0)) ∧ w = w' := by
  have HR := Lib.hid hr
  have HC := Lib.hid (And.intro hc hcr)
  obtain ⟨a1, cap, rfl, hlm⟩ := rows_form hr
  clear hr hc hcr
  go_enter Try.func99, Try.ntmps99
  go_wp2_with fail
  go_loop [8] (fun i => ∃ k : Nat, k ≤ L.length ∧ i = .int .i64 k ∧ Hid (ixK L cols 0 = ixK (L.drop k) cols k)) (fun i => L.length - (intOf i).toNat)
  case atStart => exact ⟨0, Nat.zero_le _, rfl, Lib.hid rfl⟩
  case round =>
    obtain ⟨k, hk, rfl, hl⟩ := hrel
    by_cases hlt : k < L.length
    · obtain ⟨b, off, cap', x, e1, hbB, hc, hx⟩ := rows_at HR.out hlt
      injection e1 with e1 e2 e3
      subst e1 e3
      have HI := Lib.hid (impl_part x L[k] cols _ w (row_ri hx).1 bx a c HC.out.1 HC.out.2)
      have p1 : (0 : Int) ≤ (k : Int) := by omega
      have p2 : (k : Int) < (L.length : Int) := by omega
      have hd := ixK_drop (cols := cols) hlt
      clear hx
      cases hs : (L[k]).all (hasI cols)
      · rw [hs] at HI hd
        simp only [Bool.false_eq_true, if_false] at hd
        have hl2 := Lib.hid (show ixK L cols 0 = ixK (L.drop (k + 1)) cols (k + 1) from hl.out.trans hd)
        clear hs hd
        go_wp2_with (go_at_call 83; refine HI.out.mono ?_; rintro e w1 ⟨rfl, rfl⟩)
        go_round
        case rel => exact ⟨k + 1, by omega, by go_num, hl2⟩
        case measure => simp [intOf]; omega
      · rw [hs] at HI hd
        simp only [if_true] at hd
        have HZ := Lib.hid (show ixK L cols 0 = (k : Int) from hl.out.trans hd)
        clear hs hd
        go_wp2_with (go_at_call 83; refine HI.out.mono ?_; rintro e w1 ⟨rfl, rfl⟩)
        go_ret
        exact ⟨ret_int HZ.out.symm, rfl⟩
    · have HZ := Lib.hid (show ixK L cols 0 = -1 by rw [hl.out, List.drop_eq_nil_of_le (by omega)]; rfl)
      go_wp2_with fail
      go_ret
      exact ⟨ret_int HZ.out.symm, rfl⟩
theorem impl_partany (u : Value) (L : List (List Int)) (cols : List Int) (S : Nat → Prop) (w : World) (hr : rowsC.rd w S [u] L) (bx : Nat) (a : Option Addr) (c : Nat) (hc : w.cell? ⟨bx, 0, none⟩ = some (.slice a cols.length c)) (hcr : RI w (.slice a cols.length c) cols w.heap.size) :
    Calls Try.prog 82 #[u, .func (.func 83) #[] #[.pointer (some ⟨bx, 0, none⟩)]] w fun e w' => e = .returned (.bool (L.any fun key => key.all (hasI cols))) ∧ w = w' := by
  have HI := Lib.hid (impl_partix u L cols S w hr bx a c hc hcr)
  have HB := Lib.hid (ixK_any cols L 0)
  obtain ⟨a1, cap, rfl, hlm⟩ := rows_form hr
  clear hr
  generalize ixK L cols 0 = z at *
  go_enter Try.func82, Try.ntmps82
  go_wp2_with fail
  refine HI.out.mono ?_
  rintro e w1 ⟨rfl, rfl⟩
  go_wp2_with fail
  go_ret
  exact ⟨ret_b HB.out, rfl⟩
theorem any_parts {K : List Nat} {m : Nat} (hK : ∀ i ∈ K, i < 8) (hm : m < 8) : ((K.map varsL).any fun key => key.all (hasI (varsL m))) = K.any fun i => decide (i &&& m = i) := by
  induction K with
  | nil => rfl
  | cons x xs ih =>
    rw [List.map_cons, List.any_cons, List.any_cons, ih (fun i hi => hK i (List.mem_cons_of_mem _ hi)), part_vars0 x (hK x List.mem_cons_self) m hm]
set_option maxRecDepth 100000 in
set_option maxHeartbeats 6400000 in
theorem impl_min (v u : Value) (l : List D3) (nm : ByteArray) (ar : Int) (rows : List (List Int)) (S S2 : Nat → Prop) (w : World) (h1 : depsC.rd w S [v] l) (h2 : rowsC.rd w S2 [u] rows) :
    Calls Try.prog 42 #[v, .agg #[.string nm, .int .i64 ar, u]] w fun e w' => ∃ v' fp, e = .returned v' ∧ rowsC.ow w' w.heap.size [v'] (minL l nm ar rows) fp ∧ fp.Nodup ∧ Below w.heap.size w w' := by
  have HIK := Lib.hid (fun w' (hb : Below w.heap.size w w') vc cols S3 (h3 : rowC.rd w' S3 [vc] cols) => impl_iskey v u vc l nm ar rows cols S S2 S3 w' (Cd.later h1 hb) (Cd.later h2 hb) h3)
  have HVT := Lib.hid (fun w' (hb : Below w.heap.size w w') => TabImp.impl_valid nm ar u rows S2 w' (Cd.later h2 hb))
  obtain ⟨a1, cap1, rfl, hl1⟩ := Cd.sl_form h1
  obtain ⟨a2, cap2, rfl, hl2⟩ := rows_form h2
  clear h1 h2
  go_enter Try.func42, Try.ntmps42
  go_wp2_with fail
  generalize hW : w.alloc _ = W
  obtain ⟨r0, z0, hb0⟩ := start1 w _ hW
  clear hW
  have L0 := Lib.hid (Loc3.of r0)
  have HB := Lib.hid hb0
  clear r0
  have HT := Lib.hid (HVT.out W hb0)
  clear hb0 HVT
  refine HT.out.mono ?_
  rintro e w1 ⟨rfl, hb1⟩
  have L1 := Lib.hid (L0.out.later hb1)
  have HB1 := Lib.hid (below_then HB.out hb1)
  have HZ1 := Lib.hid (show w.heap.size + 1 ≤ w1.heap.size by have := hb1.size; omega)
  clear hb1 HT L0 HB z0
  cases hok : tabOk nm ar rows
  · have HE1 := Lib.hid (show minL l nm ar rows = [] by unfold minL; rw [if_neg (by rw [hok]; decide)])
    clear hok
    go_wp2_with fail
    go_ret
    exact ⟨_, [], rfl, by rw [HE1.out]; exact Cd.ow_nil _ _, by simp, HB1.out⟩
  have hT : TabP _ _ _ := of_decide_eq_true hok
  obtain ⟨a, rfl⟩ := Int.eq_ofNat_of_zero_le (show 0 ≤ ar by have := hT.2.1; omega)
  have ha3 : a < 4 := by have := hT.2.2.1; omega
  have HE1 := Lib.hid (show minL l nm (a : Int) rows = (minTo (keyM l nm (a : Int)) (2 ^ a)).map varsL by unfold minL; rw [if_pos hok, Int.toNat_natCast])
  have HMO := Lib.hid (keyM_mono l nm (a : Int))
  have HKY := Lib.hid (fun m (hm : m < 2 ^ a) => keyOk_vars (l := l) (nm := nm) hok (by omega) (by omega) (m := m) (by rw [Int.toNat_natCast]; exact hm))
  have hp8 := pow_ar0 a ha3
  have hpa := (pow_lenD (k := a) (by omega)).1
  have HCA := Lib.hid (pow_castD a)
  have q64 : (a : Int) ≤ 64 := by omega
  have qtn : ((a : Int)).toNat = a := by omega
  have q0a : (0 : Int) ≤ (a : Int) := by omega
  have y1 := L1.out.c1
  clear hok hT
  generalize keyM l nm (a : Int) = f at *
  go_wp2_with fail
  clear y1
  go_loopw [5, 15] (fun o i wr => ∃ (m : Nat) (fo : List Nat), m ≤ 2 ^ a ∧ i = .int .i64 m ∧ rowsC.ow wr w1.heap.size [o] ((minTo f m).map varsL) fo ∧ fo.Nodup ∧ Below w1.heap.size w1 wr) (fun _ i _ => 2 ^ a - (intOf i).toNat)
  case atStart => exact ⟨0, [], Nat.zero_le _, rfl, Cd.ow_nil _ _, by simp, Below.refl _ _⟩
  case round =>
    obtain ⟨m, fo, hm, rfl, how, hno, hb⟩ := hrel
    obtain ⟨ao, co, eo⟩ := Cd.ow_slice how
    rw [List.length_map] at eo
    subst eo
    have HOW := Lib.hid how
    have HNO := Lib.hid hno
    have HBW := Lib.hid hb
    clear how hno hb
    by_cases hlt : m < 2 ^ a
    case neg =>
      have ek : m = 2 ^ a := by omega
      have hge : ¬ ((m : Int) < 2 ^ a) := by rw [HCA.out]; omega
      have HZ := Lib.hid (show minL l nm (a : Int) rows = (minTo f m).map varsL by rw [HE1.out, ek])
      have HO2 := Lib.hid (rowsC.ow_base HOW.out HB1.out.size)
      have HB2 := Lib.hid (below_then HB1.out HBW.out)
      clear ek
      go_wp2_with fail
      go_ret
      first
        | exact ⟨_, fo, rfl, by rw [HZ.out]; exact HO2.out, HNO.out, HB2.out⟩
        | exact ⟨_, rfl, fo, by rw [HZ.out]; exact HO2.out, HNO.out, HB2.out⟩
    have hm8 : m < 8 := by omega
    have hlt2 : (m : Int) < 2 ^ a := by rw [HCA.out]; omega
    have HK := Lib.hid (HKY.out m hlt)
    have HKB := Lib.hid (fun x (hx : x ∈ minTo f m) => (mem_minTo.1 hx).1)
    have HMI := Lib.hid (min_impl HMO.out hm8)
    have HAP := Lib.hid (any_parts (K := minTo f m) (m := m) (fun i hi => by have := HKB.out i hi; omega) hm8)
    have HML := Lib.hid (minTo_len f m)
    go_wp2_with fail
    refine (QrySpec.impl_list m wr (by omega)).mono ?_
    rintro e w2 ⟨vv, fv, rfl, hov, hnv, hb2⟩
    obtain ⟨av, cv, rfl⟩ := Cd.ow_slice hov
    have HGE := Lib.hid (fun b (q : b ∈ fv) => (rowC.ow_lt hov b q).1)
    have HOV := Lib.hid hov
    have HNV := Lib.hid hnv
    have HB2 := Lib.hid hb2
    clear hov hnv hb2
    go_wp2_with fail
    generalize hg : World.alloc w2 _ = w3
    obtain ⟨rg, z3, hbg⟩ := start1 w2 _ hg
    clear hg
    have HB3 := Lib.hid (below_then HB2.out hbg)
    have HO3 := Lib.hid (Cd.ow_later HOV.out hbg)
    have HC3 := Lib.hid (show w3.cell? ⟨w2.heap.size, 0, none⟩ = some (.slice av (varsL m).length cv) by simp [World.cell?, rg])
    have HW3 := Lib.hid (Cd.ow_later HOW.out HB3.out)
    have HX3 := Lib.hid (show Below w1.heap.size w1 w3 from below_then HBW.out HB3.out)
    clear rg hbg z3
    have HAN := Lib.hid (impl_partany (.slice ao (minTo f m).length co) _ (varsL m) _ w3 (rowsC.ow_rd HW3.out) w2.heap.size av cv HC3.out (row_ri (Cd.reads HO3.out)).1)
    rw [HAP.out] at HAN
    refine HAN.out.mono ?_
    rintro e w4 ⟨rfl, rfl⟩
    clear HAN HAP
    generalize hak : (minTo f m).any (fun i => decide (i &&& m = i)) = ak at *
    clear hak
    cases ak
    case true =>
      have HNX := Lib.hid (minTo_no (show minB f m = false by rw [HMI.out]; simp))
      go_wp2_with fail
      go_roundw
      case rel => exact ⟨m + 1, fo, by omega, by go_num, by rw [HNX.out]; exact HW3.out, HNO.out, HX3.out⟩
      case measure => simp [intOf]; omega
    have L3 := Lib.hid (L1.out.later HX3.out)
    have y0 := L3.out.c0
    have y1 := L3.out.c1
    have y2 := L3.out.c2
    have c3 := HC3.out
    have HBF := Lib.hid (below_then HB1.out HX3.out)
    have HKC := Lib.hid (HIK.out w3 HBF.out _ _ _ (rowC.ow_rd HO3.out))
    rw [HK.out] at HKC
    go_wp2_with fail
    refine HKC.out.mono ?_
    rintro e w5 ⟨rfl, hb5⟩
    have HW5 := Lib.hid (Cd.ow_later HW3.out hb5)
    have HO5 := Lib.hid (Cd.ow_later HO3.out hb5)
    have c5 := (hb5.cell (World.block_lt_of_cell? w3 _ c3)).trans c3
    have HX5 := Lib.hid (below_then HX3.out hb5)
    clear hb5 y0 y1 y2 c3
    generalize hfm : f m = fm at *
    cases fm
    · have HNX := Lib.hid (minTo_no (show minB f m = false by rw [HMI.out]; rfl))
      clear hfm
      go_wp2_with fail
      go_roundw
      case rel => exact ⟨m + 1, fo, by omega, by go_num, by rw [HNX.out]; exact HW5.out, HNO.out, HX5.out⟩
      case measure => simp [intOf]; omega
    · have HNX := Lib.hid (minTo_yes (show minB f m = true by rw [HMI.out]; rfl))
      have HO1 := Lib.hid (show (minTo f (m + 1)).map varsL = (minTo f m).map varsL ++ [varsL m] by rw [HNX.out, List.map_append]; rfl)
      have hml : ((minTo f m).map varsL).length + 1 ≤ 1000000000000 := by rw [List.length_map]; have := HML.out; omega
      have HL1 := Lib.hid (show ((minTo f m).map varsL).length = (minTo f m).length from List.length_map ..)
      clear hfm
      have hbA := below_alloc w5 (.cells #[.slice av (varsL m).length cv] 25)
      have C6 := Lib.hid (show (w5.alloc (.cells #[.slice av (varsL m).length cv] 25)).cell? ⟨w5.heap.size, 0, none⟩ = some (.slice av (varsL m).length cv) by simp)
      have W6 := Lib.hid (Cd.ow_later HW5.out hbA)
      have O6 := Lib.hid (rowC.ow_base (Cd.ow_later HO5.out hbA) (show w1.heap.size ≤ wr.heap.size from HBW.out.size))
      have X6 := Lib.hid (below_then HX5.out hbA)
      have D6 := Lib.hid (fun b (q : b ∈ fv) => (show b ∉ fo from fun p => by have h1 := (rowsC.ow_lt HOW.out b p).2; have h2 := HGE.out b q; omega))
      clear hbA
      generalize (minTo f m).map varsL = O at *
      go_wp2_with (at_builtin; refine Cd.wpList_appendE (c := rowC) rfl rfl (.tmp 31) (.tmp 33) 54 rfl w1.heap.size 25 (.slice none 0 0) 24 Try.underlying54 info_ints rfl (by decide) _ O _ rfl W6.out HNO.out _ _ rfl C6.out _ _ O6.out HNV.out D6.out hml X6.out.size ?_)
      intro g7 c7 w7 f7 ho7 hn7 hs7 ht7
      have HO7 := Lib.hid ho7
      have HN7 := Lib.hid hn7
      have HB7 := Lib.hid (Cd.Touch.below X6.out ht7 (fun b hb => (rowsC.ow_lt W6.out b hb).1))
      clear ho7 hn7 hs7 ht7
      go_wp2_with fail
      go_roundw
      case rel => exact ⟨m + 1, f7, by omega, by go_num, by rw [HO1.out]; exact HO7.out, HN7.out, HB7.out⟩
      case measure => simp [intOf]; omega
end Go.Proofs.Ytnoennmhifmolaa.DepClo
