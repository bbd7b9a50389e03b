/- The walk of the exact law on IsKey, out of the two functions' contracts. -/
import Derived.Test.YtnoennmhifmolaaExact
import Derived.Deep.DeepCutAuto
import Derived.Test.YtnoennmhifmolaaMkDep
namespace Go.Proofs.Ytnoennmhifmolaa.WalkIsKey
open Go Go.RowKit Byt Ints IntsLaw Cd Rows2 Tab TabSpec Exact SlMath Dep MkDep
set_option maxRecDepth 100000 in
set_option maxHeartbeats 6400000 in
theorem walk (v0 : Value) (l0 : List D3) (n1 : ByteArray) (r1 : Int) (v1 : Value) (l1 : List (List Int)) (v2 : Value) (l2 : List Int) (B0 : Bool) (w : World) (hr0 : depsC.rd w (· < w.heap.size) [v0] l0) (hs1 : n1.size ≤ maxLen) (hr1 : rowsC.rd w (· < w.heap.size) [v1] l1) (hr2 : rowC.rd w (· < w.heap.size) [v2] l2)
    (HS : SlDependency.wtS l0 ≤ 1048576 → tabWt n1 l1 ≤ 1048576 → l2.length ≤ 1048576 → ∀ (v0 : Value) (S0 : Nat → Prop) (v1 : Value) (S1 : Nat → Prop) (v2 : Value) (S2 : Nat → Prop) (w' : World), depsC.rd w' S0 [v0] l0 → rowsC.rd w' S1 [v1] l1 → rowC.rd w' S2 [v2] l2 → Calls Try.prog 37 #[v0, .agg #[.string n1, .int .i64 r1, v1], v2] w' fun e w'' => e = .returned (.bool B0) ∧ Below w'.heap.size w' w'')
    (HI : SlDependency.wtS l0 ≤ 1048576 → tabWt n1 l1 ≤ 1048576 → l2.length ≤ 1048576 → ∀ (v0 : Value) (S0 : Nat → Prop) (v1 : Value) (S1 : Nat → Prop) (v2 : Value) (S2 : Nat → Prop) (w' : World), depsC.rd w' S0 [v0] l0 → rowsC.rd w' S1 [v1] l1 → rowC.rd w' S2 [v2] l2 → Calls Try.prog 39 #[v0, .agg #[.string n1, .int .i64 r1, v1], v2] w' fun e w'' => e = .returned (.bool B0) ∧ Below w'.heap.size w' w'') :
    Calls Try.prog 7 #[v0, .agg #[.string n1, .int .i64 r1, v1], v2] w fun e w' => e = .returned (.bool true) ∧ Below w.heap.size w w' := by
  have HSh := Lib.hid HS
  have HIh := Lib.hid HI
  clear HS HI
  have HR0 := Lib.hid hr0
  obtain ⟨q0, c0, rfl, hl0⟩ := Cd.sl_form hr0
  clear hr0
  have HR1 := Lib.hid hr1
  obtain ⟨q1, c1, rfl, hl1⟩ := rows_form hr1
  clear hr1
  have HR2 := Lib.hid hr2
  obtain ⟨q2, c2, rfl, hl2, _⟩ := (row_ri hr2).1
  clear hr2
  by_cases hb2 : 1048576 < l2.length
  · go_enter Try.func7, Try.ntmps7
    go_wp2_with fail
    go_ret
    first | exact ⟨rfl, Below.refl _ _⟩ | exact ⟨rfl, below_alloc _ _⟩ | exact ⟨rfl, below_then (below_alloc _ _) (below_alloc _ _)⟩
  have HL2 := Lib.hid (show l2.length ≤ 1048576 by omega)
  go_enter Try.func7, Try.ntmps7
  go_wp2_with fail
  generalize hW0 : w.alloc _ = W0
  obtain ⟨rb0, z0, hb0⟩ := start1 w _ hW0
  have HB := Lib.hid hb0
  have LB1 := Lib.hid (Loc3.of rb0)
  replace HR0 := Lib.hid (Cd.later HR0.out hb0)
  replace HR1 := Lib.hid (Cd.later HR1.out hb0)
  replace HR2 := Lib.hid (Cd.later HR2.out hb0)
  clear hW0 hb0 rb0
  refine (SlDependency.sz_s _ l0 _ 1048576 W0 HR0.out (by omega)).mono ?_
  rintro e W0z ⟨rfl, hbz0⟩
  replace HB := Lib.hid (below_then HB.out hbz0)
  replace LB1 := Lib.hid (LB1.out.later hbz0)
  replace HR0 := Lib.hid (Cd.later HR0.out hbz0)
  replace HR1 := Lib.hid (Cd.later HR1.out hbz0)
  replace HR2 := Lib.hid (Cd.later HR2.out hbz0)
  have zz0 := hbz0.size
  clear hbz0
  by_cases hk0 : SlDependency.wtS l0 ≤ 1048576
  case neg =>
    rw [left_no hk0]
    clear hk0
    go_wp2_with fail
    go_ret
    exact ⟨rfl, HB.out⟩
  rw [left_yes hk0]
  have HL0 := Lib.hid hk0
  have HX0 := Lib.hid (show SlDependency.wtS l0 ≤ 1048576 by have := HL0.out; omega)
  have hge0 : ¬ (((1048576 - SlDependency.wtS l0 : Nat) : Int) < 0) := by omega
  clear hk0
  have y0a := LB1.out.c0
  have y0b := LB1.out.c1
  have y0c := LB1.out.c2
  go_wp2_with fail
  clear y0a y0b y0c
  refine (sz_table n1 r1 _ l1 _ (1048576 - SlDependency.wtS l0) W0z hs1 HR1.out (by omega)).mono ?_
  rintro e W1z ⟨rfl, hbz1⟩
  replace HB := Lib.hid (below_then HB.out hbz1)
  replace LB1 := Lib.hid (LB1.out.later hbz1)
  replace HR0 := Lib.hid (Cd.later HR0.out hbz1)
  replace HR1 := Lib.hid (Cd.later HR1.out hbz1)
  replace HR2 := Lib.hid (Cd.later HR2.out hbz1)
  have zz1 := hbz1.size
  clear hbz1
  by_cases hk1 : tabWt n1 l1 ≤ (1048576 - SlDependency.wtS l0)
  case neg =>
    rw [left_no hk1]
    clear hk1
    go_wp2_with fail
    go_ret
    exact ⟨rfl, HB.out⟩
  rw [left_yes hk1]
  have HL1 := Lib.hid hk1
  have HX1 := Lib.hid (show tabWt n1 l1 ≤ 1048576 by have := HL1.out; omega)
  have hge1 : ¬ ((((1048576 - SlDependency.wtS l0) - tabWt n1 l1 : Nat) : Int) < 0) := by omega
  clear hk1
  have HB0 := Lib.hid (show w.heap.size ≤ W1z.heap.size from HB.out.size)
  have hz0 : w.heap.size ≤ W1z.heap.size := HB.out.size
  have y0a := LB1.out.c0
  have y0b := LB1.out.c1
  have y0c := LB1.out.c2
  have y0d := LB1.out.lt
  go_upto_region 10 with fail
  clear y0a y0b y0c y0d
  go_cut [8] (fun s8 wx => s8 = .bool B0 ∧ W1z.heap.size ≤ wx.heap.size ∧ Below w.heap.size w wx ∧ Loc3 wx (w.heap.size) (.string n1) (.int .i64 r1) (.slice q1 l1.length c1) ∧ depsC.rd wx (· < w.heap.size) [.slice q0 l0.length c0] l0 ∧ rowsC.rd wx (· < w.heap.size) [.slice q1 l1.length c1] l1 ∧ rowC.rd wx (· < w.heap.size) [.slice q2 l2.length c2] l2)
  case first =>
    have y0a := LB1.out.c0
    have y0b := LB1.out.c1
    have y0c := LB1.out.c2
    go_region_law (first | (go_simp; go_at_call_of 31 (Value.slice q0 l0.length c0); refine (SlDependency.to_s _ l0 _ W1z.drew (rd_drew HR0.out) (by have := HX0.out; omega)).mono ?_; rintro e wq0 ⟨tv0, tf0, rfl, tow, tnd, hbq⟩; (have hq := undrew hbq); (have hqz0 := hq.size); (have D0HB := Lib.hid (below_then HB.out hq)); (have D0LB1 := Lib.hid (LB1.out.later hq)); (have D0HR0 := Lib.hid (Cd.later HR0.out hq)); (have D0HR1 := Lib.hid (Cd.later HR1.out hq)); (have D0HR2 := Lib.hid (Cd.later HR2.out hq)); (have D0O0 := Lib.hid tow); (have u00a := D0LB1.out.c0); (have u00b := D0LB1.out.c1); (have u00c := D0LB1.out.c2); clear hbq hq tow tnd) | (go_simp; go_at_call_of 38 (Value.agg #[.string n1, .int .i64 r1, .slice q1 l1.length c1]); refine (to_table n1 r1 _ l1 _ wq0 D0HR1.out (by have := HX1.out; unfold tabWt at this; omega)).mono ?_; rintro e wq1 ⟨tv1, tf1, rfl, tow, tnd, hbq⟩; (have hq := hbq); (have hqz1 := hq.size); (have D1HB := Lib.hid (below_then D0HB.out hq)); (have D1LB1 := Lib.hid (D0LB1.out.later hq)); (have D1HR0 := Lib.hid (Cd.later D0HR0.out hq)); (have D1HR1 := Lib.hid (Cd.later D0HR1.out hq)); (have D1HR2 := Lib.hid (Cd.later D0HR2.out hq)); (have D1O0 := Lib.hid (Cd.ow_later D0O0.out hq)); (have D1O1 := Lib.hid tow); clear hbq hq tow tnd) | (go_simp; go_at_call_of 32 (Value.slice q2 l2.length c2); refine (to_i _ l2 _ wq1 D1HR2.out (by have := HL2.out; omega)).mono ?_; rintro e wq2 ⟨tv2, tf2, rfl, tow, tnd, hbq⟩; (have hq := hbq); (have hqz2 := hq.size); (have D2HB := Lib.hid (below_then D1HB.out hq)); (have D2LB1 := Lib.hid (D1LB1.out.later hq)); (have D2HR0 := Lib.hid (Cd.later D1HR0.out hq)); (have D2HR1 := Lib.hid (Cd.later D1HR1.out hq)); (have D2HR2 := Lib.hid (Cd.later D1HR2.out hq)); (have D2O0 := Lib.hid (Cd.ow_later D1O0.out hq)); (have D2O1 := Lib.hid (Cd.ow_later D1O1.out hq)); (have D2O2 := Lib.hid tow); clear hbq hq tow tnd) | (go_simp; go_at_call 37; refine (HSh.out HX0.out HX1.out HL2.out _ _ _ _ _ _ wq2 (depsC.ow_rd D2O0.out) (rowsC.ow_rd D2O1.out) (rowC.ow_rd D2O2.out)).mono ?_; rintro e wp ⟨rfl, hq⟩; (have hqzz := hq.size); (have KHB := Lib.hid (below_then D2HB.out hq)); (have KLB1 := Lib.hid (D2LB1.out.later hq)); (have KHR0 := Lib.hid (Cd.later D2HR0.out hq)); (have KHR1 := Lib.hid (Cd.later D2HR1.out hq)); (have KHR2 := Lib.hid (Cd.later D2HR2.out hq)); clear hq))
    all_goals
      go_wp2_with fail
      go_meet
      exact ⟨rfl, by omega, KHB.out, KLB1.out, KHR0.out, KHR1.out, KHR2.out⟩
  case rest =>
    obtain ⟨rfl, zW1, c_HB, c_LB1, c_HR0, c_HR1, c_HR2⟩ := hcut
    clear HB LB1 HR0 HR1 HR2
    have HB := Lib.hid c_HB
    have LB1 := Lib.hid c_LB1
    have HR0 := Lib.hid c_HR0
    have HR1 := Lib.hid c_HR1
    have HR2 := Lib.hid c_HR2
    clear c_HB c_LB1 c_HR0 c_HR1 c_HR2
    generalize wc = W1 at *
    go_wp2_with fail
    refine (SlDependency.to_s _ l0 _ W1 HR0.out (by have := HX0.out; omega)).mono ?_
    rintro e W2 ⟨x0_v, x0_f, rfl, x0_o, x0_n, hbx⟩
    obtain ⟨x0_a, x0_c, rfl⟩ := Cd.ow_slice (c := depC) x0_o
    replace HB := Lib.hid (below_then HB.out hbx)
    replace LB1 := Lib.hid (LB1.out.later hbx)
    replace HR0 := Lib.hid (Cd.later HR0.out hbx)
    replace HR1 := Lib.hid (Cd.later HR1.out hbx)
    replace HR2 := Lib.hid (Cd.later HR2.out hbx)
    have zW2 := hbx.size
    clear hbx
    have x0_O := Lib.hid x0_o
    have x0_N := Lib.hid x0_n
    have x0_B := Lib.hid (bound_of x0_o)
    clear x0_o x0_n
    have y0a := LB1.out.c0
    have y0b := LB1.out.c1
    have y0c := LB1.out.c2
    have y0d := LB1.out.lt
    go_wp2_with fail
    clear y0a y0b y0c y0d
    refine (to_table n1 r1 _ l1 _ W2 HR1.out (by have := HX1.out; unfold tabWt at this; omega)).mono ?_
    rintro e W3 ⟨x1_v, x1_f, rfl, x1_o, x1_n, hbx⟩
    obtain ⟨x1_a, x1_c, rfl⟩ := Cd.ow_slice x1_o
    replace HB := Lib.hid (below_then HB.out hbx)
    replace LB1 := Lib.hid (LB1.out.later hbx)
    replace HR0 := Lib.hid (Cd.later HR0.out hbx)
    replace HR1 := Lib.hid (Cd.later HR1.out hbx)
    replace HR2 := Lib.hid (Cd.later HR2.out hbx)
    replace x0_O := Lib.hid (Cd.ow_later x0_O.out hbx)
    have zW3 := hbx.size
    clear hbx
    have x1_O := Lib.hid x1_o
    have x1_N := Lib.hid x1_n
    have x1_B := Lib.hid (bound_of x1_o)
    clear x1_o x1_n
    go_wp2_with fail
    generalize hg : World.alloc W3 _ = W4
    obtain ⟨rg, zW4, hbg⟩ := start1 W3 _ hg
    clear hg
    replace HB := Lib.hid (below_then HB.out hbg)
    replace LB1 := Lib.hid (LB1.out.later hbg)
    replace HR0 := Lib.hid (Cd.later HR0.out hbg)
    replace HR1 := Lib.hid (Cd.later HR1.out hbg)
    replace HR2 := Lib.hid (Cd.later HR2.out hbg)
    replace x0_O := Lib.hid (Cd.ow_later x0_O.out hbg)
    replace x1_O := Lib.hid (Cd.ow_later x1_O.out hbg)
    have Lx1 := Lib.hid (Loc3.of rg)
    clear hbg rg
    refine (to_i _ l2 _ W4 HR2.out (by have := HL2.out; omega)).mono ?_
    rintro e W5 ⟨x2_v, x2_f, rfl, x2_o, x2_n, hbx⟩
    obtain ⟨x2_a, x2_c, rfl⟩ := Cd.ow_slice x2_o
    replace HB := Lib.hid (below_then HB.out hbx)
    replace LB1 := Lib.hid (LB1.out.later hbx)
    replace HR0 := Lib.hid (Cd.later HR0.out hbx)
    replace HR1 := Lib.hid (Cd.later HR1.out hbx)
    replace HR2 := Lib.hid (Cd.later HR2.out hbx)
    replace x0_O := Lib.hid (Cd.ow_later x0_O.out hbx)
    replace x1_O := Lib.hid (Cd.ow_later x1_O.out hbx)
    replace Lx1 := Lib.hid (Lx1.out.later hbx)
    have zW5 := hbx.size
    clear hbx
    have x2_O := Lib.hid x2_o
    have x2_N := Lib.hid x2_n
    have x2_B := Lib.hid (bound_of x2_o)
    clear x2_o x2_n
    have y0a := Lx1.out.c0
    have y0b := Lx1.out.c1
    have y0c := Lx1.out.c2
    have y0d := Lx1.out.lt
    go_wp2_with fail
    clear y0a y0b y0c y0d
    refine (HIh.out HX0.out HX1.out HL2.out _ _ _ _ _ _ W5 (depsC.ow_rd x0_O.out) (rowsC.ow_rd x1_O.out) (rowC.ow_rd x2_O.out)).mono ?_
    rintro e W6 ⟨rfl, hbx⟩
    replace HB := Lib.hid (below_then HB.out hbx)
    replace LB1 := Lib.hid (LB1.out.later hbx)
    replace HR0 := Lib.hid (Cd.later HR0.out hbx)
    replace HR1 := Lib.hid (Cd.later HR1.out hbx)
    replace HR2 := Lib.hid (Cd.later HR2.out hbx)
    replace x0_O := Lib.hid (Cd.ow_later x0_O.out hbx)
    replace x1_O := Lib.hid (Cd.ow_later x1_O.out hbx)
    replace Lx1 := Lib.hid (Lx1.out.later hbx)
    replace x2_O := Lib.hid (Cd.ow_later x2_O.out hbx)
    have zW6 := hbx.size
    clear hbx
    go_wp2_with fail
    refine (SlDependency.to_s _ l0 _ W6 HR0.out (by have := HX0.out; omega)).mono ?_
    rintro e W7 ⟨k0_v, k0_f, rfl, k0_o, k0_n, hbx⟩
    obtain ⟨k0_a, k0_c, rfl⟩ := Cd.ow_slice (c := depC) k0_o
    replace HB := Lib.hid (below_then HB.out hbx)
    replace LB1 := Lib.hid (LB1.out.later hbx)
    replace HR0 := Lib.hid (Cd.later HR0.out hbx)
    replace HR1 := Lib.hid (Cd.later HR1.out hbx)
    replace HR2 := Lib.hid (Cd.later HR2.out hbx)
    replace x0_O := Lib.hid (Cd.ow_later x0_O.out hbx)
    replace x1_O := Lib.hid (Cd.ow_later x1_O.out hbx)
    replace Lx1 := Lib.hid (Lx1.out.later hbx)
    replace x2_O := Lib.hid (Cd.ow_later x2_O.out hbx)
    have zW7 := hbx.size
    clear hbx
    have k0_O := Lib.hid k0_o
    have k0_N := Lib.hid k0_n
    have k0_B := Lib.hid (bound_of k0_o)
    clear k0_o k0_n
    go_wp2_with fail
    refine (SlDependency.eq_s _ _ l0 _ _ W7 (depsC.ow_rd x0_O.out) (depsC.ow_rd k0_O.out)).mono ?_
    rintro e W8 ⟨rfl, hbx⟩
    replace HB := Lib.hid (below_then HB.out hbx)
    replace LB1 := Lib.hid (LB1.out.later hbx)
    replace HR0 := Lib.hid (Cd.later HR0.out hbx)
    replace HR1 := Lib.hid (Cd.later HR1.out hbx)
    replace HR2 := Lib.hid (Cd.later HR2.out hbx)
    replace x0_O := Lib.hid (Cd.ow_later x0_O.out hbx)
    replace x1_O := Lib.hid (Cd.ow_later x1_O.out hbx)
    replace Lx1 := Lib.hid (Lx1.out.later hbx)
    replace x2_O := Lib.hid (Cd.ow_later x2_O.out hbx)
    have zW8 := hbx.size
    clear hbx
    have y0a := Lx1.out.c0
    have y0b := Lx1.out.c1
    have y0c := Lx1.out.c2
    have y0d := Lx1.out.lt
    have y1a := LB1.out.c0
    have y1b := LB1.out.c1
    have y1c := LB1.out.c2
    have y1d := LB1.out.lt
    go_upto_region 19 with fail
    clear y0a y0b y0c y0d y1a y1b y1c y1d
    go_cut [55] (fun s wx => s = .bool false ∧ W8.heap.size ≤ wx.heap.size ∧ Below w.heap.size w wx ∧ Loc3 wx (w.heap.size) (.string n1) (.int .i64 r1) (.slice q1 l1.length c1) ∧ depsC.rd wx (· < w.heap.size) [.slice q0 l0.length c0] l0 ∧ rowsC.rd wx (· < w.heap.size) [.slice q1 l1.length c1] l1 ∧ rowC.rd wx (· < w.heap.size) [.slice q2 l2.length c2] l2 ∧ depsC.ow wx (W1.heap.size) [.slice x0_a l0.length x0_c] l0 x0_f ∧ rowsC.ow wx (W2.heap.size) [.slice x1_a l1.length x1_c] l1 x1_f ∧ Loc3 wx (W3.heap.size) (.string n1) (.int .i64 r1) (.slice x1_a l1.length x1_c) ∧ rowC.ow wx (W4.heap.size) [.slice x2_a l2.length x2_c] l2 x2_f)
    case first =>
      have HT := Lib.hid (to_table n1 r1 _ l1 _ W8.drew (rd_drew HR1.out) (by have := HX1.out; unfold tabWt at this; omega))
      have y0a := Lx1.out.c0
      have y1a := LB1.out.c0
      have y0b := Lx1.out.c1
      have y1b := LB1.out.c1
      have y0c := Lx1.out.c2
      have y1c := LB1.out.c2
      go_region_law (first | (go_simp; go_at_call 38; refine HT.out.mono ?_; rintro e wq ⟨tv, tf, rfl, tow, tnd, hbq⟩; (have hq := undrew hbq); (have hqz := hq.size); (have GHB := Lib.hid (below_then HB.out hq)); (have GLB1 := Lib.hid (LB1.out.later hq)); (have GHR0 := Lib.hid (Cd.later HR0.out hq)); (have GHR1 := Lib.hid (Cd.later HR1.out hq)); (have GHR2 := Lib.hid (Cd.later HR2.out hq)); (have Gx0_O := Lib.hid (Cd.ow_later x0_O.out hq)); (have Gx1_O := Lib.hid (Cd.ow_later x1_O.out hq)); (have GLx1 := Lib.hid (Lx1.out.later hq)); (have Gx2_O := Lib.hid (Cd.ow_later x2_O.out hq)); (have TO := Lib.hid tow); (have k0a := GLx1.out.c0); (have k0b := GLx1.out.c1); (have k0c := GLx1.out.c2); clear hbq hq tow tnd) | (go_simp; go_at_call 40; refine (eq_table n1 r1 _ _ l1 _ _ wq (rowsC.ow_rd Gx1_O.out) (rowsC.ow_rd TO.out)).mono ?_; rintro e wp ⟨rfl, hq2⟩; (have hqz2 := hq2.size); (have KHB := Lib.hid (below_then GHB.out hq2)); (have KLB1 := Lib.hid (GLB1.out.later hq2)); (have KHR0 := Lib.hid (Cd.later GHR0.out hq2)); (have KHR1 := Lib.hid (Cd.later GHR1.out hq2)); (have KHR2 := Lib.hid (Cd.later GHR2.out hq2)); (have Kx0_O := Lib.hid (Cd.ow_later Gx0_O.out hq2)); (have Kx1_O := Lib.hid (Cd.ow_later Gx1_O.out hq2)); (have KLx1 := Lib.hid (GLx1.out.later hq2)); (have Kx2_O := Lib.hid (Cd.ow_later Gx2_O.out hq2)); clear hq2))
      all_goals
        go_wp2_with fail
        go_meet
        exact ⟨rfl, by omega, KHB.out, KLB1.out, KHR0.out, KHR1.out, KHR2.out, Kx0_O.out, Kx1_O.out, KLx1.out, Kx2_O.out⟩
    case rest =>
      obtain ⟨rfl, zW9, c_HB, c_LB1, c_HR0, c_HR1, c_HR2, c_x0_O, c_x1_O, c_Lx1, c_x2_O⟩ := hcut
      clear HB LB1 HR0 HR1 HR2 x0_O x1_O Lx1 x2_O
      have HB := Lib.hid c_HB
      have LB1 := Lib.hid c_LB1
      have HR0 := Lib.hid c_HR0
      have HR1 := Lib.hid c_HR1
      have HR2 := Lib.hid c_HR2
      have x0_O := Lib.hid c_x0_O
      have x1_O := Lib.hid c_x1_O
      have Lx1 := Lib.hid c_Lx1
      have x2_O := Lib.hid c_x2_O
      clear c_HB c_LB1 c_HR0 c_HR1 c_HR2 c_x0_O c_x1_O c_Lx1 c_x2_O
      generalize wc = W9 at *
      go_wp2_with fail
      refine (to_i _ l2 _ W9 HR2.out (by have := HL2.out; omega)).mono ?_
      rintro e W10 ⟨k2_v, k2_f, rfl, k2_o, k2_n, hbx⟩
      obtain ⟨k2_a, k2_c, rfl⟩ := Cd.ow_slice k2_o
      replace HB := Lib.hid (below_then HB.out hbx)
      replace LB1 := Lib.hid (LB1.out.later hbx)
      replace HR0 := Lib.hid (Cd.later HR0.out hbx)
      replace HR1 := Lib.hid (Cd.later HR1.out hbx)
      replace HR2 := Lib.hid (Cd.later HR2.out hbx)
      replace x0_O := Lib.hid (Cd.ow_later x0_O.out hbx)
      replace x1_O := Lib.hid (Cd.ow_later x1_O.out hbx)
      replace Lx1 := Lib.hid (Lx1.out.later hbx)
      replace x2_O := Lib.hid (Cd.ow_later x2_O.out hbx)
      have zW10 := hbx.size
      clear hbx
      have k2_O := Lib.hid k2_o
      have k2_N := Lib.hid k2_n
      have k2_B := Lib.hid (bound_of k2_o)
      clear k2_o k2_n
      go_wp2_with fail
      refine (eq_i _ _ l2 _ _ W10 (rowC.ow_rd x2_O.out) (rowC.ow_rd k2_O.out)).mono ?_
      rintro e W11 ⟨rfl, hbx⟩
      replace HB := Lib.hid (below_then HB.out hbx)
      replace LB1 := Lib.hid (LB1.out.later hbx)
      replace HR0 := Lib.hid (Cd.later HR0.out hbx)
      replace HR1 := Lib.hid (Cd.later HR1.out hbx)
      replace HR2 := Lib.hid (Cd.later HR2.out hbx)
      replace x0_O := Lib.hid (Cd.ow_later x0_O.out hbx)
      replace x1_O := Lib.hid (Cd.ow_later x1_O.out hbx)
      replace Lx1 := Lib.hid (Lx1.out.later hbx)
      replace x2_O := Lib.hid (Cd.ow_later x2_O.out hbx)
      have zW11 := hbx.size
      clear hbx
      go_wp2_with fail
      go_ret
      exact ⟨rfl, HB.out⟩
end Go.Proofs.Ytnoennmhifmolaa.WalkIsKey
