/- The walk of the exact law on CauchyBound, out of the two functions' contracts. -/
import Derived.Test.YtklamhnecncenaaExact
import Derived.Deep.DeepCutAuto
namespace Go.Proofs.Ytklamhnecncenaa.WalkCauchyBound
open Go Go.RowKit Byt Ints IntsLaw Cd Rows2 Tab TabSpec Exact
set_option maxRecDepth 100000 in
set_option maxHeartbeats 6400000 in
theorem walk (v0 : Value) (l0 : List Int) (v1 : Value) (l1 : List Int) (B0 : Int) (w : World) (hr0 : rowC.rd w (· < w.heap.size) [v0] l0) (hr1 : rowC.rd w (· < w.heap.size) [v1] l1)
    (HS : l0.length ≤ 1048576 → l1.length ≤ 1048576 → ∀ (v0 : Value) (S0 : Nat → Prop) (v1 : Value) (S1 : Nat → Prop) (w' : World), rowC.rd w' S0 [v0] l0 → rowC.rd w' S1 [v1] l1 → Calls Try.prog 35 #[v0, v1] w' fun e w'' => e = .returned (.int .i64 B0) ∧ Below w'.heap.size w' w'')
    (HI : l0.length ≤ 1048576 → l1.length ≤ 1048576 → ∀ (v0 : Value) (S0 : Nat → Prop) (v1 : Value) (S1 : Nat → Prop) (w' : World), rowC.rd w' S0 [v0] l0 → rowC.rd w' S1 [v1] l1 → Calls Try.prog 17 #[v0, v1] w' fun e w'' => e = .returned (.int .i64 B0) ∧ Below w'.heap.size w' w'') :
    Calls Try.prog 7 #[v0, v1] w fun e w' => e = .returned (.bool true) ∧ Below w.heap.size w w' := by
  have HSh := Lib.hid HS
  have HIh := Lib.hid HI
  clear HS HI
  have HR0 := Lib.hid hr0
  obtain ⟨q0, c0, rfl, hl0, _⟩ := (row_ri hr0).1
  clear hr0
  have HR1 := Lib.hid hr1
  obtain ⟨q1, c1, rfl, hl1, _⟩ := (row_ri hr1).1
  clear hr1
  by_cases hb0 : 1048576 < l0.length
  · go_enter Try.func7, Try.ntmps7
    go_wp2_with fail
    go_ret
    first | exact ⟨rfl, Below.refl _ _⟩ | exact ⟨rfl, below_alloc _ _⟩ | exact ⟨rfl, below_then (below_alloc _ _) (below_alloc _ _)⟩
  have HL0 := Lib.hid (show l0.length ≤ 1048576 by omega)
  by_cases hb1 : 1048576 < l1.length
  · go_enter Try.func7, Try.ntmps7
    go_wp2_with fail
    go_ret
    first | exact ⟨rfl, Below.refl _ _⟩ | exact ⟨rfl, below_alloc _ _⟩ | exact ⟨rfl, below_then (below_alloc _ _) (below_alloc _ _)⟩
  have HL1 := Lib.hid (show l1.length ≤ 1048576 by omega)
  go_enter Try.func7, Try.ntmps7
  have HB := Lib.hid (Below.refl w.heap.size w)
  have HB0 := Lib.hid (show w.heap.size ≤ w.heap.size from HB.out.size)
  have hz0 : w.heap.size ≤ w.heap.size := Nat.le_refl _
  go_wp2_with fail
  refine (to_i _ l0 _ w HR0.out (by have := HL0.out; omega)).mono ?_
  rintro e W1 ⟨s0_v, s0_f, rfl, s0_o, s0_n, hbx⟩
  obtain ⟨s0_a, s0_c, rfl⟩ := Cd.ow_slice s0_o
  replace HB := Lib.hid (below_then HB.out hbx)
  replace HR0 := Lib.hid (Cd.later HR0.out hbx)
  replace HR1 := Lib.hid (Cd.later HR1.out hbx)
  have zW1 := hbx.size
  clear hbx
  have s0_O := Lib.hid s0_o
  have s0_N := Lib.hid s0_n
  have s0_B := Lib.hid (bound_of s0_o)
  clear s0_o s0_n
  go_wp2_with fail
  refine (to_i _ l1 _ W1 HR1.out (by have := HL1.out; omega)).mono ?_
  rintro e W2 ⟨s1_v, s1_f, rfl, s1_o, s1_n, hbx⟩
  obtain ⟨s1_a, s1_c, rfl⟩ := Cd.ow_slice s1_o
  replace HB := Lib.hid (below_then HB.out hbx)
  replace HR0 := Lib.hid (Cd.later HR0.out hbx)
  replace HR1 := Lib.hid (Cd.later HR1.out hbx)
  replace s0_O := Lib.hid (Cd.ow_later s0_O.out hbx)
  have zW2 := hbx.size
  clear hbx
  have s1_O := Lib.hid s1_o
  have s1_N := Lib.hid s1_n
  have s1_B := Lib.hid (bound_of s1_o)
  clear s1_o s1_n
  go_wp2_with fail
  refine (HSh.out HL0.out HL1.out _ _ _ _ W2 (rowC.ow_rd s0_O.out) (rowC.ow_rd s1_O.out)).mono ?_
  rintro e W3 ⟨rfl, hbx⟩
  replace HB := Lib.hid (below_then HB.out hbx)
  replace HR0 := Lib.hid (Cd.later HR0.out hbx)
  replace HR1 := Lib.hid (Cd.later HR1.out hbx)
  replace s0_O := Lib.hid (Cd.ow_later s0_O.out hbx)
  replace s1_O := Lib.hid (Cd.ow_later s1_O.out hbx)
  have zW3 := hbx.size
  clear hbx
  go_wp2_with fail
  refine (to_i _ l0 _ W3 HR0.out (by have := HL0.out; omega)).mono ?_
  rintro e W4 ⟨x0_v, x0_f, rfl, x0_o, x0_n, hbx⟩
  obtain ⟨x0_a, x0_c, rfl⟩ := Cd.ow_slice x0_o
  replace HB := Lib.hid (below_then HB.out hbx)
  replace HR0 := Lib.hid (Cd.later HR0.out hbx)
  replace HR1 := Lib.hid (Cd.later HR1.out hbx)
  have zW4 := hbx.size
  clear hbx
  have x0_O := Lib.hid x0_o
  have x0_N := Lib.hid x0_n
  have x0_B := Lib.hid (bound_of x0_o)
  clear x0_o x0_n
  go_wp2_with fail
  refine (to_i _ l1 _ W4 HR1.out (by have := HL1.out; omega)).mono ?_
  rintro e W5 ⟨x1_v, x1_f, rfl, x1_o, x1_n, hbx⟩
  obtain ⟨x1_a, x1_c, rfl⟩ := Cd.ow_slice x1_o
  replace HB := Lib.hid (below_then HB.out hbx)
  replace HR0 := Lib.hid (Cd.later HR0.out hbx)
  replace HR1 := Lib.hid (Cd.later HR1.out hbx)
  replace x0_O := Lib.hid (Cd.ow_later x0_O.out hbx)
  have zW5 := hbx.size
  clear hbx
  have x1_O := Lib.hid x1_o
  have x1_N := Lib.hid x1_n
  have x1_B := Lib.hid (bound_of x1_o)
  clear x1_o x1_n
  go_wp2_with fail
  refine (HIh.out HL0.out HL1.out _ _ _ _ W5 (rowC.ow_rd x0_O.out) (rowC.ow_rd x1_O.out)).mono ?_
  rintro e W6 ⟨rfl, hbx⟩
  replace HB := Lib.hid (below_then HB.out hbx)
  replace HR0 := Lib.hid (Cd.later HR0.out hbx)
  replace HR1 := Lib.hid (Cd.later HR1.out hbx)
  replace x0_O := Lib.hid (Cd.ow_later x0_O.out hbx)
  replace x1_O := Lib.hid (Cd.ow_later x1_O.out hbx)
  have zW6 := hbx.size
  clear hbx
  go_wp2_with fail
  refine (to_i _ l0 _ W6 HR0.out (by have := HL0.out; omega)).mono ?_
  rintro e W7 ⟨k0_v, k0_f, rfl, k0_o, k0_n, hbx⟩
  obtain ⟨k0_a, k0_c, rfl⟩ := Cd.ow_slice k0_o
  replace HB := Lib.hid (below_then HB.out hbx)
  replace HR0 := Lib.hid (Cd.later HR0.out hbx)
  replace HR1 := Lib.hid (Cd.later HR1.out hbx)
  replace x0_O := Lib.hid (Cd.ow_later x0_O.out hbx)
  replace x1_O := Lib.hid (Cd.ow_later x1_O.out hbx)
  have zW7 := hbx.size
  clear hbx
  have k0_O := Lib.hid k0_o
  have k0_N := Lib.hid k0_n
  have k0_B := Lib.hid (bound_of k0_o)
  clear k0_o k0_n
  go_wp2_with fail
  refine (eq_i _ _ l0 _ _ W7 (rowC.ow_rd x0_O.out) (rowC.ow_rd k0_O.out)).mono ?_
  rintro e W8 ⟨rfl, hbx⟩
  replace HB := Lib.hid (below_then HB.out hbx)
  replace HR0 := Lib.hid (Cd.later HR0.out hbx)
  replace HR1 := Lib.hid (Cd.later HR1.out hbx)
  replace x0_O := Lib.hid (Cd.ow_later x0_O.out hbx)
  replace x1_O := Lib.hid (Cd.ow_later x1_O.out hbx)
  have zW8 := hbx.size
  clear hbx
  go_wp2_with fail
  refine (to_i _ l1 _ W8 HR1.out (by have := HL1.out; omega)).mono ?_
  rintro e W9 ⟨k1_v, k1_f, rfl, k1_o, k1_n, hbx⟩
  obtain ⟨k1_a, k1_c, rfl⟩ := Cd.ow_slice k1_o
  replace HB := Lib.hid (below_then HB.out hbx)
  replace HR0 := Lib.hid (Cd.later HR0.out hbx)
  replace HR1 := Lib.hid (Cd.later HR1.out hbx)
  replace x0_O := Lib.hid (Cd.ow_later x0_O.out hbx)
  replace x1_O := Lib.hid (Cd.ow_later x1_O.out hbx)
  have zW9 := hbx.size
  clear hbx
  have k1_O := Lib.hid k1_o
  have k1_N := Lib.hid k1_n
  have k1_B := Lib.hid (bound_of k1_o)
  clear k1_o k1_n
  go_wp2_with fail
  refine (eq_i _ _ l1 _ _ W9 (rowC.ow_rd x1_O.out) (rowC.ow_rd k1_O.out)).mono ?_
  rintro e W10 ⟨rfl, hbx⟩
  replace HB := Lib.hid (below_then HB.out hbx)
  replace HR0 := Lib.hid (Cd.later HR0.out hbx)
  replace HR1 := Lib.hid (Cd.later HR1.out hbx)
  replace x0_O := Lib.hid (Cd.ow_later x0_O.out hbx)
  replace x1_O := Lib.hid (Cd.ow_later x1_O.out hbx)
  have zW10 := hbx.size
  clear hbx
  go_wp2_with fail
  go_ret
  exact ⟨rfl, HB.out⟩
end Go.Proofs.Ytklamhnecncenaa.WalkCauchyBound
