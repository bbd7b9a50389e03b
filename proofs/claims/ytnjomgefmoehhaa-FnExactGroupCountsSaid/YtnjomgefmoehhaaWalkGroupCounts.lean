/- The walk of the exact law on GroupCounts, out of the two functions' contracts. -/
import Derived.Test.YtnjomgefmoehhaaExact
import Derived.Deep.DeepCutAuto
namespace Go.Proofs.Ytnjomgefmoehhaa.WalkGroupCounts
open Go Go.RowKit Byt Ints IntsLaw Cd Rows2 Tab TabSpec Exact
set_option maxRecDepth 100000 in
set_option maxHeartbeats 6400000 in
theorem walk (n0 : ByteArray) (r0 : Int) (v0 : Value) (l0 : List (List Int)) (v1 : Value) (l1 : List Int) (R0 : List (List Int)) (R1 : List Int) (w : World) (hs0 : n0.size ≤ maxLen) (hr0 : rowsC.rd w (· < w.heap.size) [v0] l0) (hr1 : rowC.rd w (· < w.heap.size) [v1] l1) (hw0 : tabWt n0 l0 ≤ 1048576 → l1.length ≤ 1048576 → (R0.flatten.length ≤ 1048577)) (hw1 : tabWt n0 l0 ≤ 1048576 → l1.length ≤ 1048576 → (R1.length ≤ 1048577))
    (HS : tabWt n0 l0 ≤ 1048576 → l1.length ≤ 1048576 → ∀ (v0 : Value) (S0 : Nat → Prop) (v1 : Value) (S1 : Nat → Prop) (w' : World), rowsC.rd w' S0 [v0] l0 → rowC.rd w' S1 [v1] l1 → Calls Try.prog 25 #[.agg #[.string n0, .int .i64 r0, v0], v1] w' fun e w'' => ∃ u0 f0, ∃ u1 f1, e = .returned (.tuple #[u0, u1]) ∧ rowsC.ow w'' w'.heap.size [u0] R0 f0 ∧ f0.Nodup ∧ rowC.ow w'' w'.heap.size [u1] R1 f1 ∧ f1.Nodup ∧ (∀ b ∈ f0, b ∉ f1) ∧ Below w'.heap.size w' w'')
    (HI : tabWt n0 l0 ≤ 1048576 → l1.length ≤ 1048576 → ∀ (v0 : Value) (S0 : Nat → Prop) (v1 : Value) (S1 : Nat → Prop) (w' : World), rowsC.rd w' S0 [v0] l0 → rowC.rd w' S1 [v1] l1 → Calls Try.prog 14 #[.agg #[.string n0, .int .i64 r0, v0], v1] w' fun e w'' => ∃ u0 f0, ∃ u1 f1, e = .returned (.tuple #[u0, u1]) ∧ rowsC.ow w'' w'.heap.size [u0] R0 f0 ∧ f0.Nodup ∧ rowC.ow w'' w'.heap.size [u1] R1 f1 ∧ f1.Nodup ∧ (∀ b ∈ f0, b ∉ f1) ∧ Below w'.heap.size w' w'') :
    Calls Try.prog 4 #[.agg #[.string n0, .int .i64 r0, v0], v1] w fun e w' => e = .returned (.bool true) ∧ Below w.heap.size w w' := by
  have HSh := Lib.hid HS
  have HIh := Lib.hid HI
  clear HS HI
  have HR0 := Lib.hid hr0
  obtain ⟨q0, c0, rfl, hl0⟩ := rows_form hr0
  clear hr0
  have HR1 := Lib.hid hr1
  obtain ⟨q1, c1, rfl, hl1, _⟩ := (row_ri hr1).1
  clear hr1
  by_cases hb1 : 1048576 < l1.length
  · go_enter Try.func4, Try.ntmps4
    go_wp2_with fail
    go_ret
    first | exact ⟨rfl, Below.refl _ _⟩ | exact ⟨rfl, below_alloc _ _⟩ | exact ⟨rfl, below_then (below_alloc _ _) (below_alloc _ _)⟩
  have HL1 := Lib.hid (show l1.length ≤ 1048576 by omega)
  go_enter Try.func4, Try.ntmps4
  go_wp2_with fail
  generalize hW0 : w.alloc _ = W0
  obtain ⟨rb0, z0, hb0⟩ := start1 w _ hW0
  have HB := Lib.hid hb0
  have LB0 := Lib.hid (Loc3.of rb0)
  replace HR0 := Lib.hid (Cd.later HR0.out hb0)
  replace HR1 := Lib.hid (Cd.later HR1.out hb0)
  clear hW0 hb0 rb0
  refine (sz_table n0 r0 _ l0 _ 1048576 W0 hs0 HR0.out (by omega)).mono ?_
  rintro e W0z ⟨rfl, hbz0⟩
  replace HB := Lib.hid (below_then HB.out hbz0)
  replace LB0 := Lib.hid (LB0.out.later hbz0)
  replace HR0 := Lib.hid (Cd.later HR0.out hbz0)
  replace HR1 := Lib.hid (Cd.later HR1.out hbz0)
  have zz0 := hbz0.size
  clear hbz0
  by_cases hk0 : tabWt n0 l0 ≤ 1048576
  case neg =>
    rw [left_no hk0]
    clear hk0
    go_wp2_with fail
    go_ret
    exact ⟨rfl, HB.out⟩
  rw [left_yes hk0]
  have HL0 := Lib.hid hk0
  have HX0 := Lib.hid (show tabWt n0 l0 ≤ 1048576 by have := HL0.out; omega)
  have hge0 : ¬ (((1048576 - tabWt n0 l0 : Nat) : Int) < 0) := by omega
  clear hk0
  have HW0 := Lib.hid (hw0 HX0.out HL1.out)
  clear hw0
  have HW1 := Lib.hid (hw1 HX0.out HL1.out)
  clear hw1
  have HB0 := Lib.hid (show w.heap.size ≤ W0z.heap.size from HB.out.size)
  have hz0 : w.heap.size ≤ W0z.heap.size := HB.out.size
  have y0a := LB0.out.c0
  have y0b := LB0.out.c1
  have y0c := LB0.out.c2
  have y0d := LB0.out.lt
  go_wp2_with fail
  clear y0a y0b y0c y0d
  refine (to_table n0 r0 _ l0 _ W0z HR0.out (by have := HX0.out; unfold tabWt at this; omega)).mono ?_
  rintro e W1 ⟨s0_v, s0_f, rfl, s0_o, s0_n, hbx⟩
  obtain ⟨s0_a, s0_c, rfl⟩ := Cd.ow_slice s0_o
  replace HB := Lib.hid (below_then HB.out hbx)
  replace LB0 := Lib.hid (LB0.out.later hbx)
  replace HR0 := Lib.hid (Cd.later HR0.out hbx)
  replace HR1 := Lib.hid (Cd.later HR1.out hbx)
  have zW1 := hbx.size
  clear hbx
  have s0_O := Lib.hid s0_o
  have s0_N := Lib.hid s0_n
  have s0_B := Lib.hid (bound_of s0_o)
  clear s0_o s0_n
  go_wp2_with fail
  refine (to_i _ l1 _ W1 HR1.out (by have := HL1.out; omega)).mono ?_
  rintro e W2 ⟨s1_v, s1_f, rfl, s1_o, s1_n, hbx⟩
  obtain ⟨s1_a, s1_c, rfl⟩ := Cd.ow_slice s1_o
  replace HB := Lib.hid (below_then HB.out hbx)
  replace LB0 := Lib.hid (LB0.out.later hbx)
  replace HR0 := Lib.hid (Cd.later HR0.out hbx)
  replace HR1 := Lib.hid (Cd.later HR1.out hbx)
  replace s0_O := Lib.hid (Cd.ow_later s0_O.out hbx)
  have zW2 := hbx.size
  clear hbx
  have s1_O := Lib.hid s1_o
  have s1_N := Lib.hid s1_n
  have s1_B := Lib.hid (bound_of s1_o)
  clear s1_o s1_n
  go_wp2_with fail
  refine (HSh.out HX0.out HL1.out _ _ _ _ W2 (rowsC.ow_rd s0_O.out) (rowC.ow_rd s1_O.out)).mono ?_
  rintro e W3 ⟨w0_v, w0_f, w1_v, w1_f, rfl, w0_o, w0_n, w1_o, w1_n, w_d, hbx⟩
  have w_D := Lib.hid w_d
  clear w_d
  obtain ⟨w0_a, w0_c, rfl⟩ := Cd.ow_slice w0_o
  obtain ⟨w1_a, w1_c, rfl⟩ := Cd.ow_slice w1_o
  replace HB := Lib.hid (below_then HB.out hbx)
  replace LB0 := Lib.hid (LB0.out.later hbx)
  replace HR0 := Lib.hid (Cd.later HR0.out hbx)
  replace HR1 := Lib.hid (Cd.later HR1.out hbx)
  replace s0_O := Lib.hid (Cd.ow_later s0_O.out hbx)
  replace s1_O := Lib.hid (Cd.ow_later s1_O.out hbx)
  have zW3 := hbx.size
  clear hbx
  have w0_O := Lib.hid w0_o
  have w0_N := Lib.hid w0_n
  have w0_B := Lib.hid (bound_of w0_o)
  clear w0_o w0_n
  have w1_O := Lib.hid w1_o
  have w1_N := Lib.hid w1_n
  have w1_B := Lib.hid (bound_of w1_o)
  clear w1_o w1_n
  have y0a := LB0.out.c0
  have y0b := LB0.out.c1
  have y0c := LB0.out.c2
  have y0d := LB0.out.lt
  go_wp2_with fail
  clear y0a y0b y0c y0d
  refine (to_table n0 r0 _ l0 _ W3 HR0.out (by have := HX0.out; unfold tabWt at this; omega)).mono ?_
  rintro e W4 ⟨x0_v, x0_f, rfl, x0_o, x0_n, hbx⟩
  obtain ⟨x0_a, x0_c, rfl⟩ := Cd.ow_slice x0_o
  replace HB := Lib.hid (below_then HB.out hbx)
  replace LB0 := Lib.hid (LB0.out.later hbx)
  replace HR0 := Lib.hid (Cd.later HR0.out hbx)
  replace HR1 := Lib.hid (Cd.later HR1.out hbx)
  replace w0_O := Lib.hid (Cd.ow_later w0_O.out hbx)
  replace w1_O := Lib.hid (Cd.ow_later w1_O.out hbx)
  have zW4 := hbx.size
  clear hbx
  have x0_O := Lib.hid x0_o
  have x0_N := Lib.hid x0_n
  have x0_B := Lib.hid (bound_of x0_o)
  clear x0_o x0_n
  go_wp2_with fail
  generalize hg : World.alloc W4 _ = W5
  obtain ⟨rg, zW5, hbg⟩ := start1 W4 _ hg
  clear hg
  replace HB := Lib.hid (below_then HB.out hbg)
  replace LB0 := Lib.hid (LB0.out.later hbg)
  replace HR0 := Lib.hid (Cd.later HR0.out hbg)
  replace HR1 := Lib.hid (Cd.later HR1.out hbg)
  replace w0_O := Lib.hid (Cd.ow_later w0_O.out hbg)
  replace w1_O := Lib.hid (Cd.ow_later w1_O.out hbg)
  replace x0_O := Lib.hid (Cd.ow_later x0_O.out hbg)
  have Lx0 := Lib.hid (Loc3.of rg)
  clear hbg rg
  refine (to_i _ l1 _ W5 HR1.out (by have := HL1.out; omega)).mono ?_
  rintro e W6 ⟨x1_v, x1_f, rfl, x1_o, x1_n, hbx⟩
  obtain ⟨x1_a, x1_c, rfl⟩ := Cd.ow_slice x1_o
  replace HB := Lib.hid (below_then HB.out hbx)
  replace LB0 := Lib.hid (LB0.out.later hbx)
  replace HR0 := Lib.hid (Cd.later HR0.out hbx)
  replace HR1 := Lib.hid (Cd.later HR1.out hbx)
  replace w0_O := Lib.hid (Cd.ow_later w0_O.out hbx)
  replace w1_O := Lib.hid (Cd.ow_later w1_O.out hbx)
  replace x0_O := Lib.hid (Cd.ow_later x0_O.out hbx)
  replace Lx0 := Lib.hid (Lx0.out.later hbx)
  have zW6 := hbx.size
  clear hbx
  have x1_O := Lib.hid x1_o
  have x1_N := Lib.hid x1_n
  have x1_B := Lib.hid (bound_of x1_o)
  clear x1_o x1_n
  have y0a := Lx0.out.c0
  have y0b := Lx0.out.c1
  have y0c := Lx0.out.c2
  have y0d := Lx0.out.lt
  go_wp2_with fail
  clear y0a y0b y0c y0d
  refine (HIh.out HX0.out HL1.out _ _ _ _ W6 (rowsC.ow_rd x0_O.out) (rowC.ow_rd x1_O.out)).mono ?_
  rintro e W7 ⟨g0_v, g0_f, g1_v, g1_f, rfl, g0_o, g0_n, g1_o, g1_n, g_d, hbx⟩
  have g_D := Lib.hid g_d
  clear g_d
  obtain ⟨g0_a, g0_c, rfl⟩ := Cd.ow_slice g0_o
  obtain ⟨g1_a, g1_c, rfl⟩ := Cd.ow_slice g1_o
  replace HB := Lib.hid (below_then HB.out hbx)
  replace LB0 := Lib.hid (LB0.out.later hbx)
  replace HR0 := Lib.hid (Cd.later HR0.out hbx)
  replace HR1 := Lib.hid (Cd.later HR1.out hbx)
  replace w0_O := Lib.hid (Cd.ow_later w0_O.out hbx)
  replace w1_O := Lib.hid (Cd.ow_later w1_O.out hbx)
  replace x0_O := Lib.hid (Cd.ow_later x0_O.out hbx)
  replace Lx0 := Lib.hid (Lx0.out.later hbx)
  replace x1_O := Lib.hid (Cd.ow_later x1_O.out hbx)
  have zW7 := hbx.size
  clear hbx
  have g0_O := Lib.hid g0_o
  have g0_N := Lib.hid g0_n
  have g0_B := Lib.hid (bound_of g0_o)
  clear g0_o g0_n
  have g1_O := Lib.hid g1_o
  have g1_N := Lib.hid g1_n
  have g1_B := Lib.hid (bound_of g1_o)
  clear g1_o g1_n
  go_wp2_with fail
  refine (eq_r _ _ R0 _ _ W7 (rowsC.ow_rd g0_O.out) (rowsC.ow_rd w0_O.out)).mono ?_
  rintro e W8 ⟨rfl, hbx⟩
  replace HB := Lib.hid (below_then HB.out hbx)
  replace LB0 := Lib.hid (LB0.out.later hbx)
  replace HR0 := Lib.hid (Cd.later HR0.out hbx)
  replace HR1 := Lib.hid (Cd.later HR1.out hbx)
  replace w0_O := Lib.hid (Cd.ow_later w0_O.out hbx)
  replace w1_O := Lib.hid (Cd.ow_later w1_O.out hbx)
  replace x0_O := Lib.hid (Cd.ow_later x0_O.out hbx)
  replace Lx0 := Lib.hid (Lx0.out.later hbx)
  replace x1_O := Lib.hid (Cd.ow_later x1_O.out hbx)
  replace g0_O := Lib.hid (Cd.ow_later g0_O.out hbx)
  replace g1_O := Lib.hid (Cd.ow_later g1_O.out hbx)
  have zW8 := hbx.size
  clear hbx
  go_wp2_with fail
  refine (eq_i _ _ R1 _ _ W8 (rowC.ow_rd g1_O.out) (rowC.ow_rd w1_O.out)).mono ?_
  rintro e W9 ⟨rfl, hbx⟩
  replace HB := Lib.hid (below_then HB.out hbx)
  replace LB0 := Lib.hid (LB0.out.later hbx)
  replace HR0 := Lib.hid (Cd.later HR0.out hbx)
  replace HR1 := Lib.hid (Cd.later HR1.out hbx)
  replace w0_O := Lib.hid (Cd.ow_later w0_O.out hbx)
  replace w1_O := Lib.hid (Cd.ow_later w1_O.out hbx)
  replace x0_O := Lib.hid (Cd.ow_later x0_O.out hbx)
  replace Lx0 := Lib.hid (Lx0.out.later hbx)
  replace x1_O := Lib.hid (Cd.ow_later x1_O.out hbx)
  replace g0_O := Lib.hid (Cd.ow_later g0_O.out hbx)
  replace g1_O := Lib.hid (Cd.ow_later g1_O.out hbx)
  have zW9 := hbx.size
  clear hbx
  have y0a := Lx0.out.c0
  have y0b := Lx0.out.c1
  have y0c := Lx0.out.c2
  have y0d := Lx0.out.lt
  have y1a := LB0.out.c0
  have y1b := LB0.out.c1
  have y1c := LB0.out.c2
  have y1d := LB0.out.lt
  go_upto_region 13 with fail
  clear y0a y0b y0c y0d y1a y1b y1c y1d
  go_cut [57] (fun s wx => s = .bool false ∧ W9.heap.size ≤ wx.heap.size ∧ Below w.heap.size w wx ∧ Loc3 wx (w.heap.size) (.string n0) (.int .i64 r0) (.slice q0 l0.length c0) ∧ rowsC.rd wx (· < w.heap.size) [.slice q0 l0.length c0] l0 ∧ rowC.rd wx (· < w.heap.size) [.slice q1 l1.length c1] l1 ∧ rowsC.ow wx (W2.heap.size) [.slice w0_a R0.length w0_c] R0 w0_f ∧ rowC.ow wx (W2.heap.size) [.slice w1_a R1.length w1_c] R1 w1_f ∧ rowsC.ow wx (W3.heap.size) [.slice x0_a l0.length x0_c] l0 x0_f ∧ Loc3 wx (W4.heap.size) (.string n0) (.int .i64 r0) (.slice x0_a l0.length x0_c) ∧ rowC.ow wx (W5.heap.size) [.slice x1_a l1.length x1_c] l1 x1_f ∧ rowsC.ow wx (W6.heap.size) [.slice g0_a R0.length g0_c] R0 g0_f ∧ rowC.ow wx (W6.heap.size) [.slice g1_a R1.length g1_c] R1 g1_f)
  case first =>
    have HT := Lib.hid (to_table n0 r0 _ l0 _ W9.drew (rd_drew HR0.out) (by have := HX0.out; unfold tabWt at this; omega))
    have y0a := Lx0.out.c0
    have y1a := LB0.out.c0
    have y0b := Lx0.out.c1
    have y1b := LB0.out.c1
    have y0c := Lx0.out.c2
    have y1c := LB0.out.c2
    go_region_law (first | (go_simp; go_at_call 26; refine HT.out.mono ?_; rintro e wq ⟨tv, tf, rfl, tow, tnd, hbq⟩; (have hq := undrew hbq); (have hqz := hq.size); (have GHB := Lib.hid (below_then HB.out hq)); (have GLB0 := Lib.hid (LB0.out.later hq)); (have GHR0 := Lib.hid (Cd.later HR0.out hq)); (have GHR1 := Lib.hid (Cd.later HR1.out hq)); (have Gw0_O := Lib.hid (Cd.ow_later w0_O.out hq)); (have Gw1_O := Lib.hid (Cd.ow_later w1_O.out hq)); (have Gx0_O := Lib.hid (Cd.ow_later x0_O.out hq)); (have GLx0 := Lib.hid (Lx0.out.later hq)); (have Gx1_O := Lib.hid (Cd.ow_later x1_O.out hq)); (have Gg0_O := Lib.hid (Cd.ow_later g0_O.out hq)); (have Gg1_O := Lib.hid (Cd.ow_later g1_O.out hq)); (have TO := Lib.hid tow); (have k0a := GLx0.out.c0); (have k0b := GLx0.out.c1); (have k0c := GLx0.out.c2); clear hbq hq tow tnd) | (go_simp; go_at_call 30; refine (eq_table n0 r0 _ _ l0 _ _ wq (rowsC.ow_rd Gx0_O.out) (rowsC.ow_rd TO.out)).mono ?_; rintro e wp ⟨rfl, hq2⟩; (have hqz2 := hq2.size); (have KHB := Lib.hid (below_then GHB.out hq2)); (have KLB0 := Lib.hid (GLB0.out.later hq2)); (have KHR0 := Lib.hid (Cd.later GHR0.out hq2)); (have KHR1 := Lib.hid (Cd.later GHR1.out hq2)); (have Kw0_O := Lib.hid (Cd.ow_later Gw0_O.out hq2)); (have Kw1_O := Lib.hid (Cd.ow_later Gw1_O.out hq2)); (have Kx0_O := Lib.hid (Cd.ow_later Gx0_O.out hq2)); (have KLx0 := Lib.hid (GLx0.out.later hq2)); (have Kx1_O := Lib.hid (Cd.ow_later Gx1_O.out hq2)); (have Kg0_O := Lib.hid (Cd.ow_later Gg0_O.out hq2)); (have Kg1_O := Lib.hid (Cd.ow_later Gg1_O.out hq2)); clear hq2))
    all_goals
      go_wp2_with fail
      go_meet
      exact ⟨rfl, by omega, KHB.out, KLB0.out, KHR0.out, KHR1.out, Kw0_O.out, Kw1_O.out, Kx0_O.out, KLx0.out, Kx1_O.out, Kg0_O.out, Kg1_O.out⟩
  case rest =>
    obtain ⟨rfl, zW10, c_HB, c_LB0, c_HR0, c_HR1, c_w0_O, c_w1_O, c_x0_O, c_Lx0, c_x1_O, c_g0_O, c_g1_O⟩ := hcut
    clear HB LB0 HR0 HR1 w0_O w1_O x0_O Lx0 x1_O g0_O g1_O
    have HB := Lib.hid c_HB
    have LB0 := Lib.hid c_LB0
    have HR0 := Lib.hid c_HR0
    have HR1 := Lib.hid c_HR1
    have w0_O := Lib.hid c_w0_O
    have w1_O := Lib.hid c_w1_O
    have x0_O := Lib.hid c_x0_O
    have Lx0 := Lib.hid c_Lx0
    have x1_O := Lib.hid c_x1_O
    have g0_O := Lib.hid c_g0_O
    have g1_O := Lib.hid c_g1_O
    clear c_HB c_LB0 c_HR0 c_HR1 c_w0_O c_w1_O c_x0_O c_Lx0 c_x1_O c_g0_O c_g1_O
    generalize wc = W10 at *
    go_wp2_with fail
    refine (to_i _ l1 _ W10 HR1.out (by have := HL1.out; omega)).mono ?_
    rintro e W11 ⟨k1_v, k1_f, rfl, k1_o, k1_n, hbx⟩
    obtain ⟨k1_a, k1_c, rfl⟩ := Cd.ow_slice k1_o
    replace HB := Lib.hid (below_then HB.out hbx)
    replace LB0 := Lib.hid (LB0.out.later hbx)
    replace HR0 := Lib.hid (Cd.later HR0.out hbx)
    replace HR1 := Lib.hid (Cd.later HR1.out hbx)
    replace w0_O := Lib.hid (Cd.ow_later w0_O.out hbx)
    replace w1_O := Lib.hid (Cd.ow_later w1_O.out hbx)
    replace x0_O := Lib.hid (Cd.ow_later x0_O.out hbx)
    replace Lx0 := Lib.hid (Lx0.out.later hbx)
    replace x1_O := Lib.hid (Cd.ow_later x1_O.out hbx)
    replace g0_O := Lib.hid (Cd.ow_later g0_O.out hbx)
    replace g1_O := Lib.hid (Cd.ow_later g1_O.out hbx)
    have zW11 := hbx.size
    clear hbx
    have k1_O := Lib.hid k1_o
    have k1_N := Lib.hid k1_n
    have k1_B := Lib.hid (bound_of k1_o)
    clear k1_o k1_n
    go_wp2_with fail
    refine (eq_i _ _ l1 _ _ W11 (rowC.ow_rd x1_O.out) (rowC.ow_rd k1_O.out)).mono ?_
    rintro e W12 ⟨rfl, hbx⟩
    replace HB := Lib.hid (below_then HB.out hbx)
    replace LB0 := Lib.hid (LB0.out.later hbx)
    replace HR0 := Lib.hid (Cd.later HR0.out hbx)
    replace HR1 := Lib.hid (Cd.later HR1.out hbx)
    replace w0_O := Lib.hid (Cd.ow_later w0_O.out hbx)
    replace w1_O := Lib.hid (Cd.ow_later w1_O.out hbx)
    replace x0_O := Lib.hid (Cd.ow_later x0_O.out hbx)
    replace Lx0 := Lib.hid (Lx0.out.later hbx)
    replace x1_O := Lib.hid (Cd.ow_later x1_O.out hbx)
    replace g0_O := Lib.hid (Cd.ow_later g0_O.out hbx)
    replace g1_O := Lib.hid (Cd.ow_later g1_O.out hbx)
    have zW12 := hbx.size
    clear hbx
    have y0a := Lx0.out.c0
    have y0b := Lx0.out.c1
    have y0c := Lx0.out.c2
    have y0d := Lx0.out.lt
    go_wp2_with fail
    clear y0a y0b y0c y0d
    have HMK := Lib.hid (mark_table n0 r0 _ l0 _ (1) x0_f W12 x0_O.out x0_N.out (by have := HX0.out; unfold tabWt rowsWt at this; omega) (by omega))
    obtain ⟨kk0, hkk0⟩ : ∃ kk, 1 + l0.flatten.length = kk := ⟨_, rfl⟩
    have bkk0 : kk0 ≤ 1048578 := by have := (show l0.flatten.length ≤ 1048577 from (by have := HX0.out; unfold tabWt rowsWt at this; omega)); omega
    rw [hkk0] at HMK
    have Hkk0 := Lib.hid hkk0
    clear hkk0
    refine HMK.out.mono ?_
    rintro e W13 ⟨rfl, x0_o, ht⟩
    have zW13 := ht.size
    replace HB := Lib.hid (Cd.Touch.below HB.out ht (fun b hb => by have := x0_B.out b hb; have := HB0.out; omega))
    replace LB0 := Lib.hid (LB0.out.touched ht (fun q => by have := x0_B.out _ q; have := HB0.out; omega))
    replace HR0 := Lib.hid (Cd.touched HR0.out ht (fun b hb q => by have := x0_B.out b hb; have := HB0.out; omega))
    replace HR1 := Lib.hid (Cd.touched HR1.out ht (fun b hb q => by have := x0_B.out b hb; have := HB0.out; omega))
    replace w0_O := Lib.hid (Cd.ow_touched w0_O.out ht (fun b hb q => by have := x0_B.out b q; have := w0_B.out b hb; omega))
    replace w1_O := Lib.hid (Cd.ow_touched w1_O.out ht (fun b hb q => by have := x0_B.out b q; have := w1_B.out b hb; omega))
    replace Lx0 := Lib.hid (Lx0.out.touched ht (fun q => by have := x0_B.out _ q; have := HB0.out; omega))
    replace x1_O := Lib.hid (Cd.ow_touched x1_O.out ht (fun b hb q => by have := x0_B.out b q; have := x1_B.out b hb; omega))
    replace g0_O := Lib.hid (Cd.ow_touched g0_O.out ht (fun b hb q => by have := x0_B.out b q; have := g0_B.out b hb; omega))
    replace g1_O := Lib.hid (Cd.ow_touched g1_O.out ht (fun b hb q => by have := x0_B.out b q; have := g1_B.out b hb; omega))
    have x0_M := Lib.hid x0_o
    clear x0_o ht
    go_wp2_with fail
    have HMK := Lib.hid (mark_i _ l1 _ (kk0) x1_f W13 x1_O.out (by have := HL1.out; omega) (by omega))
    obtain ⟨kk1, hkk1⟩ : ∃ kk, kk0 + l1.length = kk := ⟨_, rfl⟩
    have bkk1 : kk1 ≤ 2097155 := by have := (show l1.length ≤ 1048577 from (by have := HL1.out; omega)); omega
    rw [hkk1] at HMK
    have Hkk1 := Lib.hid hkk1
    clear hkk1
    refine HMK.out.mono ?_
    rintro e W14 ⟨rfl, x1_o, ht⟩
    have zW14 := ht.size
    replace HB := Lib.hid (Cd.Touch.below HB.out ht (fun b hb => by have := x1_B.out b hb; have := HB0.out; omega))
    replace LB0 := Lib.hid (LB0.out.touched ht (fun q => by have := x1_B.out _ q; have := HB0.out; omega))
    replace HR0 := Lib.hid (Cd.touched HR0.out ht (fun b hb q => by have := x1_B.out b hb; have := HB0.out; omega))
    replace HR1 := Lib.hid (Cd.touched HR1.out ht (fun b hb q => by have := x1_B.out b hb; have := HB0.out; omega))
    replace w0_O := Lib.hid (Cd.ow_touched w0_O.out ht (fun b hb q => by have := x1_B.out b q; have := w0_B.out b hb; omega))
    replace w1_O := Lib.hid (Cd.ow_touched w1_O.out ht (fun b hb q => by have := x1_B.out b q; have := w1_B.out b hb; omega))
    replace Lx0 := Lib.hid (Lx0.out.touched ht (fun q => by have := x1_B.out _ q; have := HB0.out; omega))
    replace g0_O := Lib.hid (Cd.ow_touched g0_O.out ht (fun b hb q => by have := x1_B.out b q; have := g0_B.out b hb; omega))
    replace g1_O := Lib.hid (Cd.ow_touched g1_O.out ht (fun b hb q => by have := x1_B.out b q; have := g1_B.out b hb; omega))
    replace x0_M := Lib.hid (Cd.ow_touched x0_M.out ht (fun b hb q => by have := x1_B.out b q; have := x0_B.out b hb; omega))
    have x1_M := Lib.hid x1_o
    clear x1_o ht
    go_wp2_with fail
    refine (eq_r _ _ R0 _ _ W14 (rowsC.ow_rd g0_O.out) (rowsC.ow_rd w0_O.out)).mono ?_
    rintro e W15 ⟨rfl, hbx⟩
    replace HB := Lib.hid (below_then HB.out hbx)
    replace LB0 := Lib.hid (LB0.out.later hbx)
    replace HR0 := Lib.hid (Cd.later HR0.out hbx)
    replace HR1 := Lib.hid (Cd.later HR1.out hbx)
    replace w0_O := Lib.hid (Cd.ow_later w0_O.out hbx)
    replace w1_O := Lib.hid (Cd.ow_later w1_O.out hbx)
    replace Lx0 := Lib.hid (Lx0.out.later hbx)
    replace g0_O := Lib.hid (Cd.ow_later g0_O.out hbx)
    replace g1_O := Lib.hid (Cd.ow_later g1_O.out hbx)
    replace x0_M := Lib.hid (Cd.ow_later x0_M.out hbx)
    replace x1_M := Lib.hid (Cd.ow_later x1_M.out hbx)
    have zW15 := hbx.size
    clear hbx
    go_wp2_with fail
    refine (eq_i _ _ R1 _ _ W15 (rowC.ow_rd g1_O.out) (rowC.ow_rd w1_O.out)).mono ?_
    rintro e W16 ⟨rfl, hbx⟩
    replace HB := Lib.hid (below_then HB.out hbx)
    replace LB0 := Lib.hid (LB0.out.later hbx)
    replace HR0 := Lib.hid (Cd.later HR0.out hbx)
    replace HR1 := Lib.hid (Cd.later HR1.out hbx)
    replace w0_O := Lib.hid (Cd.ow_later w0_O.out hbx)
    replace w1_O := Lib.hid (Cd.ow_later w1_O.out hbx)
    replace Lx0 := Lib.hid (Lx0.out.later hbx)
    replace g0_O := Lib.hid (Cd.ow_later g0_O.out hbx)
    replace g1_O := Lib.hid (Cd.ow_later g1_O.out hbx)
    replace x0_M := Lib.hid (Cd.ow_later x0_M.out hbx)
    replace x1_M := Lib.hid (Cd.ow_later x1_M.out hbx)
    have zW16 := hbx.size
    clear hbx
    go_wp2_with fail
    have HMK := Lib.hid (mark_rows _ R0 _ (1) g0_f W16 g0_O.out g0_N.out HW0.out (by omega))
    obtain ⟨mm, hmm⟩ : ∃ kk, 1 + R0.flatten.length = kk := ⟨_, rfl⟩
    have bmm : mm ≤ 1048578 := by have := (show R0.flatten.length ≤ 1048577 from HW0.out); omega
    rw [hmm] at HMK
    have Hmm := Lib.hid hmm
    clear hmm
    refine HMK.out.mono ?_
    rintro e W17 ⟨rfl, g0_o, ht⟩
    have zW17 := ht.size
    replace HB := Lib.hid (Cd.Touch.below HB.out ht (fun b hb => by have := g0_B.out b hb; have := HB0.out; omega))
    replace LB0 := Lib.hid (LB0.out.touched ht (fun q => by have := g0_B.out _ q; have := HB0.out; omega))
    replace HR0 := Lib.hid (Cd.touched HR0.out ht (fun b hb q => by have := g0_B.out b hb; have := HB0.out; omega))
    replace HR1 := Lib.hid (Cd.touched HR1.out ht (fun b hb q => by have := g0_B.out b hb; have := HB0.out; omega))
    replace w0_O := Lib.hid (Cd.ow_touched w0_O.out ht (fun b hb q => by have := g0_B.out b q; have := w0_B.out b hb; omega))
    replace w1_O := Lib.hid (Cd.ow_touched w1_O.out ht (fun b hb q => by have := g0_B.out b q; have := w1_B.out b hb; omega))
    replace Lx0 := Lib.hid (Lx0.out.touched ht (fun q => by have := g0_B.out _ q; have := HB0.out; omega))
    replace g1_O := Lib.hid (Cd.ow_touched g1_O.out ht (fun b hb q => g_D.out b q hb))
    replace x0_M := Lib.hid (Cd.ow_touched x0_M.out ht (fun b hb q => by have := g0_B.out b q; have := x0_B.out b hb; omega))
    replace x1_M := Lib.hid (Cd.ow_touched x1_M.out ht (fun b hb q => by have := g0_B.out b q; have := x1_B.out b hb; omega))
    have g0_M := Lib.hid g0_o
    clear g0_o ht
    go_wp2_with fail
    have HMK := Lib.hid (mark_i _ R1 _ (mm) g1_f W17 g1_O.out HW1.out (by omega))
    obtain ⟨mn, hmn⟩ : ∃ kk, mm + R1.length = kk := ⟨_, rfl⟩
    have bmn : mn ≤ 2097155 := by have := (show R1.length ≤ 1048577 from HW1.out); omega
    rw [hmn] at HMK
    have Hmn := Lib.hid hmn
    clear hmn
    refine HMK.out.mono ?_
    rintro e W18 ⟨rfl, g1_o, ht⟩
    have zW18 := ht.size
    replace HB := Lib.hid (Cd.Touch.below HB.out ht (fun b hb => by have := g1_B.out b hb; have := HB0.out; omega))
    replace LB0 := Lib.hid (LB0.out.touched ht (fun q => by have := g1_B.out _ q; have := HB0.out; omega))
    replace HR0 := Lib.hid (Cd.touched HR0.out ht (fun b hb q => by have := g1_B.out b hb; have := HB0.out; omega))
    replace HR1 := Lib.hid (Cd.touched HR1.out ht (fun b hb q => by have := g1_B.out b hb; have := HB0.out; omega))
    replace w0_O := Lib.hid (Cd.ow_touched w0_O.out ht (fun b hb q => by have := g1_B.out b q; have := w0_B.out b hb; omega))
    replace w1_O := Lib.hid (Cd.ow_touched w1_O.out ht (fun b hb q => by have := g1_B.out b q; have := w1_B.out b hb; omega))
    replace Lx0 := Lib.hid (Lx0.out.touched ht (fun q => by have := g1_B.out _ q; have := HB0.out; omega))
    replace x0_M := Lib.hid (Cd.ow_touched x0_M.out ht (fun b hb q => by have := g1_B.out b q; have := x0_B.out b hb; omega))
    replace x1_M := Lib.hid (Cd.ow_touched x1_M.out ht (fun b hb q => by have := g1_B.out b q; have := x1_B.out b hb; omega))
    replace g0_M := Lib.hid (Cd.ow_touched g0_M.out ht (fun b hb q => g_D.out b hb q))
    have g1_M := Lib.hid g1_o
    clear g1_o ht
    go_wp2_with fail
    have HHD := Lib.hid (held_r _ R0 _ 1 W18 (rowsC.ow_rd g0_M.out) HW0.out (by omega))
    rw [Hmm.out] at HHD
    refine HHD.out.mono ?_
    rintro e W19 ⟨rfl, hbx⟩
    replace HB := Lib.hid (below_then HB.out hbx)
    replace LB0 := Lib.hid (LB0.out.later hbx)
    replace HR0 := Lib.hid (Cd.later HR0.out hbx)
    replace HR1 := Lib.hid (Cd.later HR1.out hbx)
    replace w0_O := Lib.hid (Cd.ow_later w0_O.out hbx)
    replace w1_O := Lib.hid (Cd.ow_later w1_O.out hbx)
    replace Lx0 := Lib.hid (Lx0.out.later hbx)
    replace x0_M := Lib.hid (Cd.ow_later x0_M.out hbx)
    replace x1_M := Lib.hid (Cd.ow_later x1_M.out hbx)
    replace g0_M := Lib.hid (Cd.ow_later g0_M.out hbx)
    replace g1_M := Lib.hid (Cd.ow_later g1_M.out hbx)
    have zW19 := hbx.size
    clear hbx
    go_wp2_with fail
    have HHD := Lib.hid (held_i _ R1.length _ mm W19 (rowC.ow_rd g1_M.out) HW1.out (by omega))
    rw [Hmn.out] at HHD
    refine HHD.out.mono ?_
    rintro e W20 ⟨rfl, hbx⟩
    replace HB := Lib.hid (below_then HB.out hbx)
    replace LB0 := Lib.hid (LB0.out.later hbx)
    replace HR0 := Lib.hid (Cd.later HR0.out hbx)
    replace HR1 := Lib.hid (Cd.later HR1.out hbx)
    replace w0_O := Lib.hid (Cd.ow_later w0_O.out hbx)
    replace w1_O := Lib.hid (Cd.ow_later w1_O.out hbx)
    replace Lx0 := Lib.hid (Lx0.out.later hbx)
    replace x0_M := Lib.hid (Cd.ow_later x0_M.out hbx)
    replace x1_M := Lib.hid (Cd.ow_later x1_M.out hbx)
    replace g0_M := Lib.hid (Cd.ow_later g0_M.out hbx)
    replace g1_M := Lib.hid (Cd.ow_later g1_M.out hbx)
    have zW20 := hbx.size
    clear hbx
    have y0a := LB0.out.c0
    have y0b := LB0.out.c1
    have y0c := LB0.out.c2
    have y0d := LB0.out.lt
    go_wp2_with fail
    clear y0a y0b y0c y0d
    refine (to_table n0 r0 _ l0 _ W20 HR0.out (by have := HX0.out; unfold tabWt at this; omega)).mono ?_
    rintro e W21 ⟨h0_v, h0_f, rfl, h0_o, h0_n, hbx⟩
    obtain ⟨h0_a, h0_c, rfl⟩ := Cd.ow_slice h0_o
    replace HB := Lib.hid (below_then HB.out hbx)
    replace LB0 := Lib.hid (LB0.out.later hbx)
    replace HR0 := Lib.hid (Cd.later HR0.out hbx)
    replace HR1 := Lib.hid (Cd.later HR1.out hbx)
    replace w0_O := Lib.hid (Cd.ow_later w0_O.out hbx)
    replace w1_O := Lib.hid (Cd.ow_later w1_O.out hbx)
    replace Lx0 := Lib.hid (Lx0.out.later hbx)
    replace x0_M := Lib.hid (Cd.ow_later x0_M.out hbx)
    replace x1_M := Lib.hid (Cd.ow_later x1_M.out hbx)
    replace g0_M := Lib.hid (Cd.ow_later g0_M.out hbx)
    replace g1_M := Lib.hid (Cd.ow_later g1_M.out hbx)
    have zW21 := hbx.size
    clear hbx
    have h0_O := Lib.hid h0_o
    have h0_N := Lib.hid h0_n
    have h0_B := Lib.hid (bound_of h0_o)
    clear h0_o h0_n
    go_wp2_with fail
    refine (to_i _ l1 _ W21 HR1.out (by have := HL1.out; omega)).mono ?_
    rintro e W22 ⟨h1_v, h1_f, rfl, h1_o, h1_n, hbx⟩
    obtain ⟨h1_a, h1_c, rfl⟩ := Cd.ow_slice h1_o
    replace HB := Lib.hid (below_then HB.out hbx)
    replace LB0 := Lib.hid (LB0.out.later hbx)
    replace HR0 := Lib.hid (Cd.later HR0.out hbx)
    replace HR1 := Lib.hid (Cd.later HR1.out hbx)
    replace w0_O := Lib.hid (Cd.ow_later w0_O.out hbx)
    replace w1_O := Lib.hid (Cd.ow_later w1_O.out hbx)
    replace Lx0 := Lib.hid (Lx0.out.later hbx)
    replace x0_M := Lib.hid (Cd.ow_later x0_M.out hbx)
    replace x1_M := Lib.hid (Cd.ow_later x1_M.out hbx)
    replace g0_M := Lib.hid (Cd.ow_later g0_M.out hbx)
    replace g1_M := Lib.hid (Cd.ow_later g1_M.out hbx)
    replace h0_O := Lib.hid (Cd.ow_later h0_O.out hbx)
    have zW22 := hbx.size
    clear hbx
    have h1_O := Lib.hid h1_o
    have h1_N := Lib.hid h1_n
    have h1_B := Lib.hid (bound_of h1_o)
    clear h1_o h1_n
    go_wp2_with fail
    refine (HIh.out HX0.out HL1.out _ _ _ _ W22 (rowsC.ow_rd h0_O.out) (rowC.ow_rd h1_O.out)).mono ?_
    rintro e W23 ⟨y0_v, y0_f, y1_v, y1_f, rfl, y0_o, y0_n, y1_o, y1_n, y_d, hbx⟩
    have y_D := Lib.hid y_d
    clear y_d
    obtain ⟨y0_a, y0_c, rfl⟩ := Cd.ow_slice y0_o
    obtain ⟨y1_a, y1_c, rfl⟩ := Cd.ow_slice y1_o
    replace HB := Lib.hid (below_then HB.out hbx)
    replace LB0 := Lib.hid (LB0.out.later hbx)
    replace HR0 := Lib.hid (Cd.later HR0.out hbx)
    replace HR1 := Lib.hid (Cd.later HR1.out hbx)
    replace w0_O := Lib.hid (Cd.ow_later w0_O.out hbx)
    replace w1_O := Lib.hid (Cd.ow_later w1_O.out hbx)
    replace Lx0 := Lib.hid (Lx0.out.later hbx)
    replace x0_M := Lib.hid (Cd.ow_later x0_M.out hbx)
    replace x1_M := Lib.hid (Cd.ow_later x1_M.out hbx)
    replace g0_M := Lib.hid (Cd.ow_later g0_M.out hbx)
    replace g1_M := Lib.hid (Cd.ow_later g1_M.out hbx)
    replace h0_O := Lib.hid (Cd.ow_later h0_O.out hbx)
    replace h1_O := Lib.hid (Cd.ow_later h1_O.out hbx)
    have zW23 := hbx.size
    clear hbx
    have y0_O := Lib.hid y0_o
    have y0_N := Lib.hid y0_n
    have y0_B := Lib.hid (bound_of y0_o)
    clear y0_o y0_n
    have y1_O := Lib.hid y1_o
    have y1_N := Lib.hid y1_n
    have y1_B := Lib.hid (bound_of y1_o)
    clear y1_o y1_n
    go_wp2_with fail
    refine (eq_r _ _ R0 _ _ W23 (rowsC.ow_rd y0_O.out) (rowsC.ow_rd w0_O.out)).mono ?_
    rintro e W24 ⟨rfl, hbx⟩
    replace HB := Lib.hid (below_then HB.out hbx)
    replace LB0 := Lib.hid (LB0.out.later hbx)
    replace HR0 := Lib.hid (Cd.later HR0.out hbx)
    replace HR1 := Lib.hid (Cd.later HR1.out hbx)
    replace w0_O := Lib.hid (Cd.ow_later w0_O.out hbx)
    replace w1_O := Lib.hid (Cd.ow_later w1_O.out hbx)
    replace Lx0 := Lib.hid (Lx0.out.later hbx)
    replace x0_M := Lib.hid (Cd.ow_later x0_M.out hbx)
    replace x1_M := Lib.hid (Cd.ow_later x1_M.out hbx)
    replace g0_M := Lib.hid (Cd.ow_later g0_M.out hbx)
    replace g1_M := Lib.hid (Cd.ow_later g1_M.out hbx)
    replace y0_O := Lib.hid (Cd.ow_later y0_O.out hbx)
    replace y1_O := Lib.hid (Cd.ow_later y1_O.out hbx)
    have zW24 := hbx.size
    clear hbx
    go_wp2_with fail
    refine (eq_i _ _ R1 _ _ W24 (rowC.ow_rd y1_O.out) (rowC.ow_rd w1_O.out)).mono ?_
    rintro e W25 ⟨rfl, hbx⟩
    replace HB := Lib.hid (below_then HB.out hbx)
    replace LB0 := Lib.hid (LB0.out.later hbx)
    replace HR0 := Lib.hid (Cd.later HR0.out hbx)
    replace HR1 := Lib.hid (Cd.later HR1.out hbx)
    replace w0_O := Lib.hid (Cd.ow_later w0_O.out hbx)
    replace w1_O := Lib.hid (Cd.ow_later w1_O.out hbx)
    replace Lx0 := Lib.hid (Lx0.out.later hbx)
    replace x0_M := Lib.hid (Cd.ow_later x0_M.out hbx)
    replace x1_M := Lib.hid (Cd.ow_later x1_M.out hbx)
    replace g0_M := Lib.hid (Cd.ow_later g0_M.out hbx)
    replace g1_M := Lib.hid (Cd.ow_later g1_M.out hbx)
    replace y0_O := Lib.hid (Cd.ow_later y0_O.out hbx)
    replace y1_O := Lib.hid (Cd.ow_later y1_O.out hbx)
    have zW25 := hbx.size
    clear hbx
    go_wp2_with fail
    have HHD := Lib.hid (held_r _ R0 _ 1 W25 (rowsC.ow_rd g0_M.out) HW0.out (by omega))
    rw [Hmm.out] at HHD
    refine HHD.out.mono ?_
    rintro e W26 ⟨rfl, hbx⟩
    replace HB := Lib.hid (below_then HB.out hbx)
    replace LB0 := Lib.hid (LB0.out.later hbx)
    replace HR0 := Lib.hid (Cd.later HR0.out hbx)
    replace HR1 := Lib.hid (Cd.later HR1.out hbx)
    replace w0_O := Lib.hid (Cd.ow_later w0_O.out hbx)
    replace w1_O := Lib.hid (Cd.ow_later w1_O.out hbx)
    replace Lx0 := Lib.hid (Lx0.out.later hbx)
    replace x0_M := Lib.hid (Cd.ow_later x0_M.out hbx)
    replace x1_M := Lib.hid (Cd.ow_later x1_M.out hbx)
    replace g0_M := Lib.hid (Cd.ow_later g0_M.out hbx)
    replace g1_M := Lib.hid (Cd.ow_later g1_M.out hbx)
    replace y0_O := Lib.hid (Cd.ow_later y0_O.out hbx)
    replace y1_O := Lib.hid (Cd.ow_later y1_O.out hbx)
    have zW26 := hbx.size
    clear hbx
    go_wp2_with fail
    have HHD := Lib.hid (held_i _ R1.length _ mm W26 (rowC.ow_rd g1_M.out) HW1.out (by omega))
    rw [Hmn.out] at HHD
    refine HHD.out.mono ?_
    rintro e W27 ⟨rfl, hbx⟩
    replace HB := Lib.hid (below_then HB.out hbx)
    replace LB0 := Lib.hid (LB0.out.later hbx)
    replace HR0 := Lib.hid (Cd.later HR0.out hbx)
    replace HR1 := Lib.hid (Cd.later HR1.out hbx)
    replace w0_O := Lib.hid (Cd.ow_later w0_O.out hbx)
    replace w1_O := Lib.hid (Cd.ow_later w1_O.out hbx)
    replace Lx0 := Lib.hid (Lx0.out.later hbx)
    replace x0_M := Lib.hid (Cd.ow_later x0_M.out hbx)
    replace x1_M := Lib.hid (Cd.ow_later x1_M.out hbx)
    replace g0_M := Lib.hid (Cd.ow_later g0_M.out hbx)
    replace g1_M := Lib.hid (Cd.ow_later g1_M.out hbx)
    replace y0_O := Lib.hid (Cd.ow_later y0_O.out hbx)
    replace y1_O := Lib.hid (Cd.ow_later y1_O.out hbx)
    have zW27 := hbx.size
    clear hbx
    go_wp2_with fail
    go_ret
    exact ⟨rfl, HB.out⟩
end Go.Proofs.Ytnjomgefmoehhaa.WalkGroupCounts
