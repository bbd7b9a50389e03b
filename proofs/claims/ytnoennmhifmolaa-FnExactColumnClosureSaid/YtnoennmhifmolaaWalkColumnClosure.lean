/- The walk of the exact law on ColumnClosure, out of the two functions' contracts. -/
import Derived.Test.YtnoennmhifmolaaExact
import Derived.Deep.DeepCutAuto
import Derived.Test.YtnoennmhifmolaaMkDep
namespace Go.Proofs.Ytnoennmhifmolaa.WalkColumnClosure
open Go Go.RowKit Byt Ints IntsLaw Cd Rows2 Tab TabSpec Exact SlMath Dep MkDep
set_option maxRecDepth 100000 in
set_option maxHeartbeats 6400000 in
theorem walk (v0 : Value) (l0 : List D3) (a1 : ByteArray) (v2 : Value) (l2 : List Int) (R0 : List Int) (w : World) (hr0 : depsC.rd w (· < w.heap.size) [v0] l0) (hs1 : a1.size ≤ maxLen) (hr2 : rowC.rd w (· < w.heap.size) [v2] l2) (hw0 : SlDependency.wtS l0 ≤ 1048576 → a1.size ≤ 1048576 → l2.length ≤ 1048576 → (R0.length ≤ 1048577))
    (HS : SlDependency.wtS l0 ≤ 1048576 → a1.size ≤ 1048576 → l2.length ≤ 1048576 → ∀ (v0 : Value) (S0 : Nat → Prop) (v2 : Value) (S2 : Nat → Prop) (w' : World), depsC.rd w' S0 [v0] l0 → rowC.rd w' S2 [v2] l2 → Calls Try.prog 30 #[v0, .string a1, v2] w' fun e w'' => ∃ u0 f0, e = .returned (u0) ∧ rowC.ow w'' w'.heap.size [u0] R0 f0 ∧ f0.Nodup ∧ Below w'.heap.size w' w'')
    (HI : SlDependency.wtS l0 ≤ 1048576 → a1.size ≤ 1048576 → l2.length ≤ 1048576 → ∀ (v0 : Value) (S0 : Nat → Prop) (v2 : Value) (S2 : Nat → Prop) (w' : World), depsC.rd w' S0 [v0] l0 → rowC.rd w' S2 [v2] l2 → Calls Try.prog 33 #[v0, .string a1, v2] w' fun e w'' => ∃ u0 f0, e = .returned (u0) ∧ rowC.ow w'' w'.heap.size [u0] R0 f0 ∧ f0.Nodup ∧ Below w'.heap.size w' w'') :
    Calls Try.prog 6 #[v0, .string a1, v2] w fun e w' => e = .returned (.bool true) ∧ Below w.heap.size w w' := by
  have HSh := Lib.hid HS
  have HIh := Lib.hid HI
  clear HS HI
  have HR0 := Lib.hid hr0
  obtain ⟨q0, c0, rfl, hl0⟩ := Cd.sl_form hr0
  clear hr0
  have HR2 := Lib.hid hr2
  obtain ⟨q2, c2, rfl, hl2, _⟩ := (row_ri hr2).1
  clear hr2
  unfold maxLen at hs1
  by_cases hb1 : 1048576 < a1.size
  · go_enter Try.func6, Try.ntmps6
    go_wp2_with fail
    go_ret
    first | exact ⟨rfl, Below.refl _ _⟩ | exact ⟨rfl, below_alloc _ _⟩ | exact ⟨rfl, below_then (below_alloc _ _) (below_alloc _ _)⟩
  have HL1 := Lib.hid (show a1.size ≤ 1048576 by omega)
  by_cases hb2 : 1048576 < l2.length
  · go_enter Try.func6, Try.ntmps6
    go_wp2_with fail
    go_ret
    first | exact ⟨rfl, Below.refl _ _⟩ | exact ⟨rfl, below_alloc _ _⟩ | exact ⟨rfl, below_then (below_alloc _ _) (below_alloc _ _)⟩
  have HL2 := Lib.hid (show l2.length ≤ 1048576 by omega)
  go_enter Try.func6, Try.ntmps6
  go_wp2_with fail
  have HB := Lib.hid (Below.refl w.heap.size w)
  refine (SlDependency.sz_s _ l0 _ 1048576 w HR0.out (by omega)).mono ?_
  rintro e W0z ⟨rfl, hbz0⟩
  replace HB := Lib.hid (below_then HB.out hbz0)
  replace HR0 := Lib.hid (Cd.later HR0.out hbz0)
  replace HR2 := Lib.hid (Cd.later HR2.out hbz0)
  have zz0 := hbz0.size
  clear hbz0
  by_cases hk0 : SlDependency.wtS l0 ≤ 1048576
  case neg =>
    rw [left_no hk0]
    clear hk0
    go_wp2_with fail
    go_ret
    exact ⟨rfl, HB.out⟩
  rw [left_yes hk0]
  have HL0 := Lib.hid hk0
  have HX0 := Lib.hid (show SlDependency.wtS l0 ≤ 1048576 by have := HL0.out; omega)
  have hge0 : ¬ (((1048576 - SlDependency.wtS l0 : Nat) : Int) < 0) := by omega
  clear hk0
  have HW0 := Lib.hid (hw0 HX0.out HL1.out HL2.out)
  clear hw0
  have HB0 := Lib.hid (show w.heap.size ≤ W0z.heap.size from HB.out.size)
  have hz0 : w.heap.size ≤ W0z.heap.size := HB.out.size
  go_wp2_with fail
  refine (SlDependency.to_s _ l0 _ W0z HR0.out (by have := HX0.out; omega)).mono ?_
  rintro e W1 ⟨s0_v, s0_f, rfl, s0_o, s0_n, hbx⟩
  obtain ⟨s0_a, s0_c, rfl⟩ := Cd.ow_slice (c := depC) s0_o
  replace HB := Lib.hid (below_then HB.out hbx)
  replace HR0 := Lib.hid (Cd.later HR0.out hbx)
  replace HR2 := Lib.hid (Cd.later HR2.out hbx)
  have zW1 := hbx.size
  clear hbx
  have s0_O := Lib.hid s0_o
  have s0_N := Lib.hid s0_n
  have s0_B := Lib.hid (bound_of s0_o)
  clear s0_o s0_n
  go_wp2_with fail
  refine (to_i _ l2 _ W1 HR2.out (by have := HL2.out; omega)).mono ?_
  rintro e W2 ⟨s2_v, s2_f, rfl, s2_o, s2_n, hbx⟩
  obtain ⟨s2_a, s2_c, rfl⟩ := Cd.ow_slice s2_o
  replace HB := Lib.hid (below_then HB.out hbx)
  replace HR0 := Lib.hid (Cd.later HR0.out hbx)
  replace HR2 := Lib.hid (Cd.later HR2.out hbx)
  replace s0_O := Lib.hid (Cd.ow_later s0_O.out hbx)
  have zW2 := hbx.size
  clear hbx
  have s2_O := Lib.hid s2_o
  have s2_N := Lib.hid s2_n
  have s2_B := Lib.hid (bound_of s2_o)
  clear s2_o s2_n
  go_wp2_with fail
  refine (HSh.out HX0.out HL1.out HL2.out _ _ _ _ W2 (depsC.ow_rd s0_O.out) (rowC.ow_rd s2_O.out)).mono ?_
  rintro e W3 ⟨w0_v, w0_f, rfl, w0_o, w0_n, hbx⟩
  obtain ⟨w0_a, w0_c, rfl⟩ := Cd.ow_slice w0_o
  replace HB := Lib.hid (below_then HB.out hbx)
  replace HR0 := Lib.hid (Cd.later HR0.out hbx)
  replace HR2 := Lib.hid (Cd.later HR2.out hbx)
  replace s0_O := Lib.hid (Cd.ow_later s0_O.out hbx)
  replace s2_O := Lib.hid (Cd.ow_later s2_O.out hbx)
  have zW3 := hbx.size
  clear hbx
  have w0_O := Lib.hid w0_o
  have w0_N := Lib.hid w0_n
  have w0_B := Lib.hid (bound_of w0_o)
  clear w0_o w0_n
  go_wp2_with fail
  refine (SlDependency.to_s _ l0 _ W3 HR0.out (by have := HX0.out; omega)).mono ?_
  rintro e W4 ⟨x0_v, x0_f, rfl, x0_o, x0_n, hbx⟩
  obtain ⟨x0_a, x0_c, rfl⟩ := Cd.ow_slice (c := depC) x0_o
  replace HB := Lib.hid (below_then HB.out hbx)
  replace HR0 := Lib.hid (Cd.later HR0.out hbx)
  replace HR2 := Lib.hid (Cd.later HR2.out hbx)
  replace w0_O := Lib.hid (Cd.ow_later w0_O.out hbx)
  have zW4 := hbx.size
  clear hbx
  have x0_O := Lib.hid x0_o
  have x0_N := Lib.hid x0_n
  have x0_B := Lib.hid (bound_of x0_o)
  clear x0_o x0_n
  go_wp2_with fail
  refine (to_i _ l2 _ W4 HR2.out (by have := HL2.out; omega)).mono ?_
  rintro e W5 ⟨x2_v, x2_f, rfl, x2_o, x2_n, hbx⟩
  obtain ⟨x2_a, x2_c, rfl⟩ := Cd.ow_slice x2_o
  replace HB := Lib.hid (below_then HB.out hbx)
  replace HR0 := Lib.hid (Cd.later HR0.out hbx)
  replace HR2 := Lib.hid (Cd.later HR2.out hbx)
  replace w0_O := Lib.hid (Cd.ow_later w0_O.out hbx)
  replace x0_O := Lib.hid (Cd.ow_later x0_O.out hbx)
  have zW5 := hbx.size
  clear hbx
  have x2_O := Lib.hid x2_o
  have x2_N := Lib.hid x2_n
  have x2_B := Lib.hid (bound_of x2_o)
  clear x2_o x2_n
  go_wp2_with fail
  refine (HIh.out HX0.out HL1.out HL2.out _ _ _ _ W5 (depsC.ow_rd x0_O.out) (rowC.ow_rd x2_O.out)).mono ?_
  rintro e W6 ⟨g0_v, g0_f, rfl, g0_o, g0_n, hbx⟩
  obtain ⟨g0_a, g0_c, rfl⟩ := Cd.ow_slice g0_o
  replace HB := Lib.hid (below_then HB.out hbx)
  replace HR0 := Lib.hid (Cd.later HR0.out hbx)
  replace HR2 := Lib.hid (Cd.later HR2.out hbx)
  replace w0_O := Lib.hid (Cd.ow_later w0_O.out hbx)
  replace x0_O := Lib.hid (Cd.ow_later x0_O.out hbx)
  replace x2_O := Lib.hid (Cd.ow_later x2_O.out hbx)
  have zW6 := hbx.size
  clear hbx
  have g0_O := Lib.hid g0_o
  have g0_N := Lib.hid g0_n
  have g0_B := Lib.hid (bound_of g0_o)
  clear g0_o g0_n
  go_wp2_with fail
  refine (eq_i _ _ R0 _ _ W6 (rowC.ow_rd g0_O.out) (rowC.ow_rd w0_O.out)).mono ?_
  rintro e W7 ⟨rfl, hbx⟩
  replace HB := Lib.hid (below_then HB.out hbx)
  replace HR0 := Lib.hid (Cd.later HR0.out hbx)
  replace HR2 := Lib.hid (Cd.later HR2.out hbx)
  replace w0_O := Lib.hid (Cd.ow_later w0_O.out hbx)
  replace x0_O := Lib.hid (Cd.ow_later x0_O.out hbx)
  replace x2_O := Lib.hid (Cd.ow_later x2_O.out hbx)
  replace g0_O := Lib.hid (Cd.ow_later g0_O.out hbx)
  have zW7 := hbx.size
  clear hbx
  go_wp2_with fail
  refine (SlDependency.to_s _ l0 _ W7 HR0.out (by have := HX0.out; omega)).mono ?_
  rintro e W8 ⟨k0_v, k0_f, rfl, k0_o, k0_n, hbx⟩
  obtain ⟨k0_a, k0_c, rfl⟩ := Cd.ow_slice (c := depC) k0_o
  replace HB := Lib.hid (below_then HB.out hbx)
  replace HR0 := Lib.hid (Cd.later HR0.out hbx)
  replace HR2 := Lib.hid (Cd.later HR2.out hbx)
  replace w0_O := Lib.hid (Cd.ow_later w0_O.out hbx)
  replace x0_O := Lib.hid (Cd.ow_later x0_O.out hbx)
  replace x2_O := Lib.hid (Cd.ow_later x2_O.out hbx)
  replace g0_O := Lib.hid (Cd.ow_later g0_O.out hbx)
  have zW8 := hbx.size
  clear hbx
  have k0_O := Lib.hid k0_o
  have k0_N := Lib.hid k0_n
  have k0_B := Lib.hid (bound_of k0_o)
  clear k0_o k0_n
  go_wp2_with fail
  refine (SlDependency.eq_s _ _ l0 _ _ W8 (depsC.ow_rd x0_O.out) (depsC.ow_rd k0_O.out)).mono ?_
  rintro e W9 ⟨rfl, hbx⟩
  replace HB := Lib.hid (below_then HB.out hbx)
  replace HR0 := Lib.hid (Cd.later HR0.out hbx)
  replace HR2 := Lib.hid (Cd.later HR2.out hbx)
  replace w0_O := Lib.hid (Cd.ow_later w0_O.out hbx)
  replace x0_O := Lib.hid (Cd.ow_later x0_O.out hbx)
  replace x2_O := Lib.hid (Cd.ow_later x2_O.out hbx)
  replace g0_O := Lib.hid (Cd.ow_later g0_O.out hbx)
  have zW9 := hbx.size
  clear hbx
  go_wp2_with fail
  refine (to_i _ l2 _ W9 HR2.out (by have := HL2.out; omega)).mono ?_
  rintro e W10 ⟨k2_v, k2_f, rfl, k2_o, k2_n, hbx⟩
  obtain ⟨k2_a, k2_c, rfl⟩ := Cd.ow_slice k2_o
  replace HB := Lib.hid (below_then HB.out hbx)
  replace HR0 := Lib.hid (Cd.later HR0.out hbx)
  replace HR2 := Lib.hid (Cd.later HR2.out hbx)
  replace w0_O := Lib.hid (Cd.ow_later w0_O.out hbx)
  replace x0_O := Lib.hid (Cd.ow_later x0_O.out hbx)
  replace x2_O := Lib.hid (Cd.ow_later x2_O.out hbx)
  replace g0_O := Lib.hid (Cd.ow_later g0_O.out hbx)
  have zW10 := hbx.size
  clear hbx
  have k2_O := Lib.hid k2_o
  have k2_N := Lib.hid k2_n
  have k2_B := Lib.hid (bound_of k2_o)
  clear k2_o k2_n
  go_wp2_with fail
  refine (eq_i _ _ l2 _ _ W10 (rowC.ow_rd x2_O.out) (rowC.ow_rd k2_O.out)).mono ?_
  rintro e W11 ⟨rfl, hbx⟩
  replace HB := Lib.hid (below_then HB.out hbx)
  replace HR0 := Lib.hid (Cd.later HR0.out hbx)
  replace HR2 := Lib.hid (Cd.later HR2.out hbx)
  replace w0_O := Lib.hid (Cd.ow_later w0_O.out hbx)
  replace x0_O := Lib.hid (Cd.ow_later x0_O.out hbx)
  replace x2_O := Lib.hid (Cd.ow_later x2_O.out hbx)
  replace g0_O := Lib.hid (Cd.ow_later g0_O.out hbx)
  have zW11 := hbx.size
  clear hbx
  go_wp2_with fail
  have HMK := Lib.hid (MkDep.mark_s _ l0 _ (1) x0_f W11 x0_O.out x0_N.out (cntsD_of HX0.out).1 (cntsD_of HX0.out).2 (by omega) (by omega))
  obtain ⟨kk0, hkk0⟩ : ∃ kk, 1 + sumN cntD l0 = kk := ⟨_, rfl⟩
  have bkk0 : kk0 ≤ 4194309 ∧ 1 ≤ kk0 := by have := (show sumN cntD l0 ≤ 4194308 from (cntsD_of HX0.out).1); omega
  rw [hkk0] at HMK
  have Hkk0 := Lib.hid hkk0
  clear hkk0
  refine HMK.out.mono ?_
  rintro e W12 ⟨rfl, x0_o, ht⟩
  have zW12 := ht.size
  replace HB := Lib.hid (Cd.Touch.below HB.out ht (fun b hb => by have := x0_B.out b hb; have := HB0.out; omega))
  replace HR0 := Lib.hid (Cd.touched HR0.out ht (fun b hb q => by have := x0_B.out b hb; have := HB0.out; omega))
  replace HR2 := Lib.hid (Cd.touched HR2.out ht (fun b hb q => by have := x0_B.out b hb; have := HB0.out; omega))
  replace w0_O := Lib.hid (Cd.ow_touched w0_O.out ht (fun b hb q => by have := x0_B.out b q; have := w0_B.out b hb; omega))
  replace x2_O := Lib.hid (Cd.ow_touched x2_O.out ht (fun b hb q => by have := x0_B.out b q; have := x2_B.out b hb; omega))
  replace g0_O := Lib.hid (Cd.ow_touched g0_O.out ht (fun b hb q => by have := x0_B.out b q; have := g0_B.out b hb; omega))
  have x0_M := Lib.hid x0_o
  clear x0_o ht
  go_wp2_with fail
  have HMK := Lib.hid (mark_i _ l2 _ (kk0) x2_f W12 x2_O.out (by have := HL2.out; omega) (by omega))
  obtain ⟨kk2, hkk2⟩ : ∃ kk, kk0 + l2.length = kk := ⟨_, rfl⟩
  have bkk2 : kk2 ≤ 5242886 := by have := (show l2.length ≤ 1048577 from (by have := HL2.out; omega)); omega
  rw [hkk2] at HMK
  have Hkk2 := Lib.hid hkk2
  clear hkk2
  refine HMK.out.mono ?_
  rintro e W13 ⟨rfl, x2_o, ht⟩
  have zW13 := ht.size
  replace HB := Lib.hid (Cd.Touch.below HB.out ht (fun b hb => by have := x2_B.out b hb; have := HB0.out; omega))
  replace HR0 := Lib.hid (Cd.touched HR0.out ht (fun b hb q => by have := x2_B.out b hb; have := HB0.out; omega))
  replace HR2 := Lib.hid (Cd.touched HR2.out ht (fun b hb q => by have := x2_B.out b hb; have := HB0.out; omega))
  replace w0_O := Lib.hid (Cd.ow_touched w0_O.out ht (fun b hb q => by have := x2_B.out b q; have := w0_B.out b hb; omega))
  replace g0_O := Lib.hid (Cd.ow_touched g0_O.out ht (fun b hb q => by have := x2_B.out b q; have := g0_B.out b hb; omega))
  replace x0_M := Lib.hid (Cd.ow_touched x0_M.out ht (fun b hb q => by have := x2_B.out b q; have := x0_B.out b hb; omega))
  have x2_M := Lib.hid x2_o
  clear x2_o ht
  go_wp2_with fail
  refine (eq_i _ _ R0 _ _ W13 (rowC.ow_rd g0_O.out) (rowC.ow_rd w0_O.out)).mono ?_
  rintro e W14 ⟨rfl, hbx⟩
  replace HB := Lib.hid (below_then HB.out hbx)
  replace HR0 := Lib.hid (Cd.later HR0.out hbx)
  replace HR2 := Lib.hid (Cd.later HR2.out hbx)
  replace w0_O := Lib.hid (Cd.ow_later w0_O.out hbx)
  replace g0_O := Lib.hid (Cd.ow_later g0_O.out hbx)
  replace x0_M := Lib.hid (Cd.ow_later x0_M.out hbx)
  replace x2_M := Lib.hid (Cd.ow_later x2_M.out hbx)
  have zW14 := hbx.size
  clear hbx
  go_wp2_with fail
  have HMK := Lib.hid (mark_i _ R0 _ (1) g0_f W14 g0_O.out HW0.out (by omega))
  obtain ⟨mm, hmm⟩ : ∃ kk, 1 + R0.length = kk := ⟨_, rfl⟩
  have bmm : mm ≤ 1048578 := by have := (show R0.length ≤ 1048577 from HW0.out); omega
  rw [hmm] at HMK
  have Hmm := Lib.hid hmm
  clear hmm
  refine HMK.out.mono ?_
  rintro e W15 ⟨rfl, g0_o, ht⟩
  have zW15 := ht.size
  replace HB := Lib.hid (Cd.Touch.below HB.out ht (fun b hb => by have := g0_B.out b hb; have := HB0.out; omega))
  replace HR0 := Lib.hid (Cd.touched HR0.out ht (fun b hb q => by have := g0_B.out b hb; have := HB0.out; omega))
  replace HR2 := Lib.hid (Cd.touched HR2.out ht (fun b hb q => by have := g0_B.out b hb; have := HB0.out; omega))
  replace w0_O := Lib.hid (Cd.ow_touched w0_O.out ht (fun b hb q => by have := g0_B.out b q; have := w0_B.out b hb; omega))
  replace x0_M := Lib.hid (Cd.ow_touched x0_M.out ht (fun b hb q => by have := g0_B.out b q; have := x0_B.out b hb; omega))
  replace x2_M := Lib.hid (Cd.ow_touched x2_M.out ht (fun b hb q => by have := g0_B.out b q; have := x2_B.out b hb; omega))
  have g0_M := Lib.hid g0_o
  clear g0_o ht
  go_wp2_with fail
  have HHD := Lib.hid (held_i _ R0.length _ 1 W15 (rowC.ow_rd g0_M.out) HW0.out (by omega))
  rw [Hmm.out] at HHD
  refine HHD.out.mono ?_
  rintro e W16 ⟨rfl, hbx⟩
  replace HB := Lib.hid (below_then HB.out hbx)
  replace HR0 := Lib.hid (Cd.later HR0.out hbx)
  replace HR2 := Lib.hid (Cd.later HR2.out hbx)
  replace w0_O := Lib.hid (Cd.ow_later w0_O.out hbx)
  replace x0_M := Lib.hid (Cd.ow_later x0_M.out hbx)
  replace x2_M := Lib.hid (Cd.ow_later x2_M.out hbx)
  replace g0_M := Lib.hid (Cd.ow_later g0_M.out hbx)
  have zW16 := hbx.size
  clear hbx
  go_wp2_with fail
  refine (SlDependency.to_s _ l0 _ W16 HR0.out (by have := HX0.out; omega)).mono ?_
  rintro e W17 ⟨h0_v, h0_f, rfl, h0_o, h0_n, hbx⟩
  obtain ⟨h0_a, h0_c, rfl⟩ := Cd.ow_slice (c := depC) h0_o
  replace HB := Lib.hid (below_then HB.out hbx)
  replace HR0 := Lib.hid (Cd.later HR0.out hbx)
  replace HR2 := Lib.hid (Cd.later HR2.out hbx)
  replace w0_O := Lib.hid (Cd.ow_later w0_O.out hbx)
  replace x0_M := Lib.hid (Cd.ow_later x0_M.out hbx)
  replace x2_M := Lib.hid (Cd.ow_later x2_M.out hbx)
  replace g0_M := Lib.hid (Cd.ow_later g0_M.out hbx)
  have zW17 := hbx.size
  clear hbx
  have h0_O := Lib.hid h0_o
  have h0_N := Lib.hid h0_n
  have h0_B := Lib.hid (bound_of h0_o)
  clear h0_o h0_n
  go_wp2_with fail
  refine (to_i _ l2 _ W17 HR2.out (by have := HL2.out; omega)).mono ?_
  rintro e W18 ⟨h2_v, h2_f, rfl, h2_o, h2_n, hbx⟩
  obtain ⟨h2_a, h2_c, rfl⟩ := Cd.ow_slice h2_o
  replace HB := Lib.hid (below_then HB.out hbx)
  replace HR0 := Lib.hid (Cd.later HR0.out hbx)
  replace HR2 := Lib.hid (Cd.later HR2.out hbx)
  replace w0_O := Lib.hid (Cd.ow_later w0_O.out hbx)
  replace x0_M := Lib.hid (Cd.ow_later x0_M.out hbx)
  replace x2_M := Lib.hid (Cd.ow_later x2_M.out hbx)
  replace g0_M := Lib.hid (Cd.ow_later g0_M.out hbx)
  replace h0_O := Lib.hid (Cd.ow_later h0_O.out hbx)
  have zW18 := hbx.size
  clear hbx
  have h2_O := Lib.hid h2_o
  have h2_N := Lib.hid h2_n
  have h2_B := Lib.hid (bound_of h2_o)
  clear h2_o h2_n
  go_wp2_with fail
  refine (HIh.out HX0.out HL1.out HL2.out _ _ _ _ W18 (depsC.ow_rd h0_O.out) (rowC.ow_rd h2_O.out)).mono ?_
  rintro e W19 ⟨y0_v, y0_f, rfl, y0_o, y0_n, hbx⟩
  obtain ⟨y0_a, y0_c, rfl⟩ := Cd.ow_slice y0_o
  replace HB := Lib.hid (below_then HB.out hbx)
  replace HR0 := Lib.hid (Cd.later HR0.out hbx)
  replace HR2 := Lib.hid (Cd.later HR2.out hbx)
  replace w0_O := Lib.hid (Cd.ow_later w0_O.out hbx)
  replace x0_M := Lib.hid (Cd.ow_later x0_M.out hbx)
  replace x2_M := Lib.hid (Cd.ow_later x2_M.out hbx)
  replace g0_M := Lib.hid (Cd.ow_later g0_M.out hbx)
  replace h0_O := Lib.hid (Cd.ow_later h0_O.out hbx)
  replace h2_O := Lib.hid (Cd.ow_later h2_O.out hbx)
  have zW19 := hbx.size
  clear hbx
  have y0_O := Lib.hid y0_o
  have y0_N := Lib.hid y0_n
  have y0_B := Lib.hid (bound_of y0_o)
  clear y0_o y0_n
  go_wp2_with fail
  refine (eq_i _ _ R0 _ _ W19 (rowC.ow_rd y0_O.out) (rowC.ow_rd w0_O.out)).mono ?_
  rintro e W20 ⟨rfl, hbx⟩
  replace HB := Lib.hid (below_then HB.out hbx)
  replace HR0 := Lib.hid (Cd.later HR0.out hbx)
  replace HR2 := Lib.hid (Cd.later HR2.out hbx)
  replace w0_O := Lib.hid (Cd.ow_later w0_O.out hbx)
  replace x0_M := Lib.hid (Cd.ow_later x0_M.out hbx)
  replace x2_M := Lib.hid (Cd.ow_later x2_M.out hbx)
  replace g0_M := Lib.hid (Cd.ow_later g0_M.out hbx)
  replace y0_O := Lib.hid (Cd.ow_later y0_O.out hbx)
  have zW20 := hbx.size
  clear hbx
  go_wp2_with fail
  have HHD := Lib.hid (held_i _ R0.length _ 1 W20 (rowC.ow_rd g0_M.out) HW0.out (by omega))
  rw [Hmm.out] at HHD
  refine HHD.out.mono ?_
  rintro e W21 ⟨rfl, hbx⟩
  replace HB := Lib.hid (below_then HB.out hbx)
  replace HR0 := Lib.hid (Cd.later HR0.out hbx)
  replace HR2 := Lib.hid (Cd.later HR2.out hbx)
  replace w0_O := Lib.hid (Cd.ow_later w0_O.out hbx)
  replace x0_M := Lib.hid (Cd.ow_later x0_M.out hbx)
  replace x2_M := Lib.hid (Cd.ow_later x2_M.out hbx)
  replace g0_M := Lib.hid (Cd.ow_later g0_M.out hbx)
  replace y0_O := Lib.hid (Cd.ow_later y0_O.out hbx)
  have zW21 := hbx.size
  clear hbx
  go_wp2_with fail
  go_ret
  exact ⟨rfl, HB.out⟩
end Go.Proofs.Ytnoennmhifmolaa.WalkColumnClosure
