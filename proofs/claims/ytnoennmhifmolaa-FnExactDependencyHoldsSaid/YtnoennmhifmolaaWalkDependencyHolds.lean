/- The walk of the exact law on DependencyHolds, out of the two functions' contracts. -/
import Derived.Test.YtnoennmhifmolaaDbExact
import Derived.Deep.DeepCutAuto
import Derived.Test.YtnoennmhifmolaaDep
namespace Go.Proofs.Ytnoennmhifmolaa.WalkDependencyHolds
open Go Go.RowKit Byt Ints IntsLaw Cd Rows2 Tab TabSpec Exact SlMath TabOpen TabElem Mark SlTable Db DbExact Dep
set_option maxRecDepth 100000 in
set_option maxHeartbeats 6400000 in
theorem walk (v0 : Value) (l0 : List T3) (n1 : ByteArray) (t1 : Int) (v1 : Value) (l1 : List Int) (B0 : Bool) (w : World) (hr0 : tabsC.rd w (· < w.heap.size) [v0] l0) (hs1 : n1.size ≤ maxLen) (hr1 : rowC.rd w (· < w.heap.size) [v1] l1)
    (HS : wtS l0 ≤ 1048576 → depWt n1 l1 ≤ 1048576 → ∀ (v0 : Value) (S0 : Nat → Prop) (v1 : Value) (S1 : Nat → Prop) (w' : World), tabsC.rd w' S0 [v0] l0 → rowC.rd w' S1 [v1] l1 → Calls Try.prog 27 #[.agg #[v0], .agg #[.string n1, v1, .int .i64 t1]] w' fun e w'' => e = .returned (.bool B0) ∧ Below w'.heap.size w' w'')
    (HI : wtS l0 ≤ 1048576 → depWt n1 l1 ≤ 1048576 → ∀ (v0 : Value) (S0 : Nat → Prop) (v1 : Value) (S1 : Nat → Prop) (w' : World), tabsC.rd w' S0 [v0] l0 → rowC.rd w' S1 [v1] l1 → Calls Try.prog 28 #[.agg #[v0], .agg #[.string n1, v1, .int .i64 t1]] w' fun e w'' => e = .returned (.bool B0) ∧ Below w'.heap.size w' w'') :
    Calls Try.prog 5 #[.agg #[v0], .agg #[.string n1, v1, .int .i64 t1]] w fun e w' => e = .returned (.bool true) ∧ Below w.heap.size w w' := by
  have HSh := Lib.hid HS
  have HIh := Lib.hid HI
  clear HS HI
  have HR0 := Lib.hid hr0
  obtain ⟨q0, c0, rfl, hl0⟩ := Cd.sl_form hr0
  clear hr0
  have HR1 := Lib.hid hr1
  obtain ⟨q1, c1, rfl, hl1, _⟩ := (row_ri hr1).1
  clear hr1
  go_enter Try.func5, Try.ntmps5
  go_wp2_with fail
  generalize hW0 : (w.alloc _).alloc _ = W0
  obtain ⟨rb0, rb1, z0, hb0⟩ := start2g w _ _ hW0
  have HB := Lib.hid hb0
  have LB0 := Lib.hid (Loc1.of rb0)
  have LB1 := Lib.hid (Loc3.of rb1)
  replace HR0 := Lib.hid (Cd.later HR0.out hb0)
  replace HR1 := Lib.hid (Cd.later HR1.out hb0)
  clear hW0 hb0 rb0 rb1
  refine (sz_db _ l0 _ 1048576 W0 HR0.out (by omega)).mono ?_
  rintro e W0z ⟨rfl, hbz0⟩
  replace HB := Lib.hid (below_then HB.out hbz0)
  replace LB0 := Lib.hid (LB0.out.later hbz0)
  replace LB1 := Lib.hid (LB1.out.later hbz0)
  replace HR0 := Lib.hid (Cd.later HR0.out hbz0)
  replace HR1 := Lib.hid (Cd.later HR1.out hbz0)
  have zz0 := hbz0.size
  clear hbz0
  by_cases hk0 : wtS l0 ≤ 1048576
  case neg =>
    rw [left_no hk0]
    clear hk0
    go_wp2_with fail
    go_ret
    exact ⟨rfl, HB.out⟩
  rw [left_yes hk0]
  have HL0 := Lib.hid hk0
  have HX0 := Lib.hid (show wtS l0 ≤ 1048576 by have := HL0.out; omega)
  have hge0 : ¬ (((1048576 - wtS l0 : Nat) : Int) < 0) := by omega
  clear hk0
  have y0a := LB1.out.c0
  have y0b := LB1.out.c1
  have y0c := LB1.out.c2
  go_wp2_with fail
  clear y0a y0b y0c
  refine (sz_dep n1 t1 _ l1 _ (1048576 - wtS l0) W0z hs1 HR1.out (by omega)).mono ?_
  rintro e W1z ⟨rfl, hbz1⟩
  replace HB := Lib.hid (below_then HB.out hbz1)
  replace LB0 := Lib.hid (LB0.out.later hbz1)
  replace LB1 := Lib.hid (LB1.out.later hbz1)
  replace HR0 := Lib.hid (Cd.later HR0.out hbz1)
  replace HR1 := Lib.hid (Cd.later HR1.out hbz1)
  have zz1 := hbz1.size
  clear hbz1
  by_cases hk1 : depWt n1 l1 ≤ (1048576 - wtS l0)
  case neg =>
    rw [left_no hk1]
    clear hk1
    go_wp2_with fail
    go_ret
    exact ⟨rfl, HB.out⟩
  rw [left_yes hk1]
  have HL1 := Lib.hid hk1
  have HX1 := Lib.hid (show depWt n1 l1 ≤ 1048576 by have := HL1.out; omega)
  have hge1 : ¬ ((((1048576 - wtS l0) - depWt n1 l1 : Nat) : Int) < 0) := by omega
  clear hk1
  have HB0 := Lib.hid (show w.heap.size ≤ W1z.heap.size from HB.out.size)
  have hz0 : w.heap.size ≤ W1z.heap.size := HB.out.size
  have y0a := LB0.out.c0
  have y0d := LB0.out.lt
  have y1a := LB1.out.c0
  have y1b := LB1.out.c1
  have y1c := LB1.out.c2
  have y1d := LB1.out.lt
  go_upto_region 8 with fail
  clear y0a y0d y1a y1b y1c y1d
  go_cut [6] (fun s6 wx => s6 = .bool B0 ∧ W1z.heap.size ≤ wx.heap.size ∧ Below w.heap.size w wx ∧ Loc1 wx (w.heap.size) (.slice q0 l0.length c0) ∧ Loc3 wx (w.heap.size + 1) (.string n1) (.slice q1 l1.length c1) (.int .i64 t1) ∧ tabsC.rd wx (· < w.heap.size) [.slice q0 l0.length c0] l0 ∧ rowC.rd wx (· < w.heap.size) [.slice q1 l1.length c1] l1)
  case first =>
    have y0a := LB0.out.c0
    have y1a := LB1.out.c0
    have y1b := LB1.out.c1
    have y1c := LB1.out.c2
    go_region_law (first | (go_simp; go_at_call_of 15 (Value.agg #[.slice q0 l0.length c0]); refine (to_db _ l0 _ W1z.drew (rd_drew HR0.out) (by have := HX0.out; omega)).mono ?_; rintro e wq0 ⟨tv0, tf0, rfl, tow, tnd, hbq⟩; (have hq := undrew hbq); (have hqz0 := hq.size); (have D0HB := Lib.hid (below_then HB.out hq)); (have D0LB0 := Lib.hid (LB0.out.later hq)); (have D0LB1 := Lib.hid (LB1.out.later hq)); (have D0HR0 := Lib.hid (Cd.later HR0.out hq)); (have D0HR1 := Lib.hid (Cd.later HR1.out hq)); (have D0O0 := Lib.hid tow); (have u01a := D0LB1.out.c0); (have u01b := D0LB1.out.c1); (have u01c := D0LB1.out.c2); clear hbq hq tow tnd) | (go_simp; go_at_call_of 16 (Value.agg #[.string n1, .slice q1 l1.length c1, .int .i64 t1]); refine (to_dep n1 t1 _ l1 _ wq0 D0HR1.out (by have := HX1.out; unfold depWt at this; omega)).mono ?_; rintro e wq1 ⟨tv1, tf1, rfl, tow, tnd, hbq⟩; (have hq := hbq); (have hqz1 := hq.size); (have D1HB := Lib.hid (below_then D0HB.out hq)); (have D1LB0 := Lib.hid (D0LB0.out.later hq)); (have D1LB1 := Lib.hid (D0LB1.out.later hq)); (have D1HR0 := Lib.hid (Cd.later D0HR0.out hq)); (have D1HR1 := Lib.hid (Cd.later D0HR1.out hq)); (have D1O0 := Lib.hid (Cd.ow_later D0O0.out hq)); (have D1O1 := Lib.hid tow); clear hbq hq tow tnd) | (go_simp; go_at_call 27; refine (HSh.out HX0.out HX1.out _ _ _ _ wq1 (tabsC.ow_rd D1O0.out) (rowC.ow_rd D1O1.out)).mono ?_; rintro e wp ⟨rfl, hq⟩; (have hqzz := hq.size); (have KHB := Lib.hid (below_then D1HB.out hq)); (have KLB0 := Lib.hid (D1LB0.out.later hq)); (have KLB1 := Lib.hid (D1LB1.out.later hq)); (have KHR0 := Lib.hid (Cd.later D1HR0.out hq)); (have KHR1 := Lib.hid (Cd.later D1HR1.out hq)); clear hq))
    all_goals
      go_wp2_with fail
      go_meet
      exact ⟨rfl, by omega, KHB.out, KLB0.out, KLB1.out, KHR0.out, KHR1.out⟩
  case rest =>
    obtain ⟨rfl, zW1, c_HB, c_LB0, c_LB1, c_HR0, c_HR1⟩ := hcut
    clear HB LB0 LB1 HR0 HR1
    have HB := Lib.hid c_HB
    have LB0 := Lib.hid c_LB0
    have LB1 := Lib.hid c_LB1
    have HR0 := Lib.hid c_HR0
    have HR1 := Lib.hid c_HR1
    clear c_HB c_LB0 c_LB1 c_HR0 c_HR1
    generalize wc = W1 at *
    have y0a := LB0.out.c0
    have y0d := LB0.out.lt
    go_wp2_with fail
    clear y0a y0d
    refine (to_db _ l0 _ W1 HR0.out (by have := HX0.out; omega)).mono ?_
    rintro e W2 ⟨x0_v, x0_f, rfl, x0_o, x0_n, hbx⟩
    obtain ⟨x0_a, x0_c, rfl⟩ := Cd.ow_slice (c := tabC) x0_o
    replace HB := Lib.hid (below_then HB.out hbx)
    replace LB0 := Lib.hid (LB0.out.later hbx)
    replace LB1 := Lib.hid (LB1.out.later hbx)
    replace HR0 := Lib.hid (Cd.later HR0.out hbx)
    replace HR1 := Lib.hid (Cd.later HR1.out hbx)
    have zW2 := hbx.size
    clear hbx
    have x0_O := Lib.hid x0_o
    have x0_N := Lib.hid x0_n
    have x0_B := Lib.hid (bound_of x0_o)
    clear x0_o x0_n
    have y0a := LB1.out.c0
    have y0b := LB1.out.c1
    have y0c := LB1.out.c2
    have y0d := LB1.out.lt
    go_wp2_with fail
    clear y0a y0b y0c y0d
    generalize hg : World.alloc W2 _ = W3
    obtain ⟨rg, zW3, hbg⟩ := start1 W2 _ hg
    clear hg
    replace HB := Lib.hid (below_then HB.out hbg)
    replace LB0 := Lib.hid (LB0.out.later hbg)
    replace LB1 := Lib.hid (LB1.out.later hbg)
    replace HR0 := Lib.hid (Cd.later HR0.out hbg)
    replace HR1 := Lib.hid (Cd.later HR1.out hbg)
    replace x0_O := Lib.hid (Cd.ow_later x0_O.out hbg)
    have Lx0 := Lib.hid (Loc1.of rg)
    clear hbg rg
    refine (to_dep n1 t1 _ l1 _ W3 HR1.out (by have := HX1.out; unfold depWt at this; omega)).mono ?_
    rintro e W4 ⟨x1_v, x1_f, rfl, x1_o, x1_n, hbx⟩
    obtain ⟨x1_a, x1_c, rfl⟩ := Cd.ow_slice x1_o
    replace HB := Lib.hid (below_then HB.out hbx)
    replace LB0 := Lib.hid (LB0.out.later hbx)
    replace LB1 := Lib.hid (LB1.out.later hbx)
    replace HR0 := Lib.hid (Cd.later HR0.out hbx)
    replace HR1 := Lib.hid (Cd.later HR1.out hbx)
    replace x0_O := Lib.hid (Cd.ow_later x0_O.out hbx)
    replace Lx0 := Lib.hid (Lx0.out.later hbx)
    have zW4 := hbx.size
    clear hbx
    have x1_O := Lib.hid x1_o
    have x1_N := Lib.hid x1_n
    have x1_B := Lib.hid (bound_of x1_o)
    clear x1_o x1_n
    have y0a := Lx0.out.c0
    have y0d := Lx0.out.lt
    go_wp2_with fail
    clear y0a y0d
    generalize hg : World.alloc W4 _ = W5
    obtain ⟨rg, zW5, hbg⟩ := start1 W4 _ hg
    clear hg
    replace HB := Lib.hid (below_then HB.out hbg)
    replace LB0 := Lib.hid (LB0.out.later hbg)
    replace LB1 := Lib.hid (LB1.out.later hbg)
    replace HR0 := Lib.hid (Cd.later HR0.out hbg)
    replace HR1 := Lib.hid (Cd.later HR1.out hbg)
    replace x0_O := Lib.hid (Cd.ow_later x0_O.out hbg)
    replace Lx0 := Lib.hid (Lx0.out.later hbg)
    replace x1_O := Lib.hid (Cd.ow_later x1_O.out hbg)
    have Lx1 := Lib.hid (Loc3.of rg)
    clear hbg rg
    refine (HIh.out HX0.out HX1.out _ _ _ _ W5 (tabsC.ow_rd x0_O.out) (rowC.ow_rd x1_O.out)).mono ?_
    rintro e W6 ⟨rfl, hbx⟩
    replace HB := Lib.hid (below_then HB.out hbx)
    replace LB0 := Lib.hid (LB0.out.later hbx)
    replace LB1 := Lib.hid (LB1.out.later hbx)
    replace HR0 := Lib.hid (Cd.later HR0.out hbx)
    replace HR1 := Lib.hid (Cd.later HR1.out hbx)
    replace x0_O := Lib.hid (Cd.ow_later x0_O.out hbx)
    replace Lx0 := Lib.hid (Lx0.out.later hbx)
    replace x1_O := Lib.hid (Cd.ow_later x1_O.out hbx)
    replace Lx1 := Lib.hid (Lx1.out.later hbx)
    have zW6 := hbx.size
    clear hbx
    have y0a := Lx0.out.c0
    have y0d := Lx0.out.lt
    have y1a := LB0.out.c0
    have y1d := LB0.out.lt
    go_upto_region 14 with fail
    clear y0a y0d y1a y1d
    go_cut [39] (fun s wx => s = .bool false ∧ W6.heap.size ≤ wx.heap.size ∧ Below w.heap.size w wx ∧ Loc1 wx (w.heap.size) (.slice q0 l0.length c0) ∧ Loc3 wx (w.heap.size + 1) (.string n1) (.slice q1 l1.length c1) (.int .i64 t1) ∧ tabsC.rd wx (· < w.heap.size) [.slice q0 l0.length c0] l0 ∧ rowC.rd wx (· < w.heap.size) [.slice q1 l1.length c1] l1 ∧ tabsC.ow wx (W1.heap.size) [.slice x0_a l0.length x0_c] l0 x0_f ∧ Loc1 wx (W2.heap.size) (.slice x0_a l0.length x0_c) ∧ rowC.ow wx (W3.heap.size) [.slice x1_a l1.length x1_c] l1 x1_f ∧ Loc3 wx (W4.heap.size) (.string n1) (.slice x1_a l1.length x1_c) (.int .i64 t1))
    case first =>
      have HT := Lib.hid (to_db _ l0 _ W6.drew (rd_drew HR0.out) (by have := HX0.out; omega))
      have y0a := Lx0.out.c0
      have y1a := LB0.out.c0
      go_region_law (first | (go_simp; go_at_call 15; refine HT.out.mono ?_; rintro e wq ⟨tv, tf, rfl, tow, tnd, hbq⟩; (have hq := undrew hbq); (have hqz := hq.size); (have GHB := Lib.hid (below_then HB.out hq)); (have GLB0 := Lib.hid (LB0.out.later hq)); (have GLB1 := Lib.hid (LB1.out.later hq)); (have GHR0 := Lib.hid (Cd.later HR0.out hq)); (have GHR1 := Lib.hid (Cd.later HR1.out hq)); (have Gx0_O := Lib.hid (Cd.ow_later x0_O.out hq)); (have GLx0 := Lib.hid (Lx0.out.later hq)); (have Gx1_O := Lib.hid (Cd.ow_later x1_O.out hq)); (have GLx1 := Lib.hid (Lx1.out.later hq)); (have TO := Lib.hid tow); (have k0a := GLx0.out.c0); clear hbq hq tow tnd) | (go_simp; go_at_call 18; refine (eq_db _ _ l0 _ _ wq (tabsC.ow_rd Gx0_O.out) (tabsC.ow_rd TO.out)).mono ?_; rintro e wp ⟨rfl, hq2⟩; (have hqz2 := hq2.size); (have KHB := Lib.hid (below_then GHB.out hq2)); (have KLB0 := Lib.hid (GLB0.out.later hq2)); (have KLB1 := Lib.hid (GLB1.out.later hq2)); (have KHR0 := Lib.hid (Cd.later GHR0.out hq2)); (have KHR1 := Lib.hid (Cd.later GHR1.out hq2)); (have Kx0_O := Lib.hid (Cd.ow_later Gx0_O.out hq2)); (have KLx0 := Lib.hid (GLx0.out.later hq2)); (have Kx1_O := Lib.hid (Cd.ow_later Gx1_O.out hq2)); (have KLx1 := Lib.hid (GLx1.out.later hq2)); clear hq2))
      all_goals
        go_wp2_with fail
        go_meet
        exact ⟨rfl, by omega, KHB.out, KLB0.out, KLB1.out, KHR0.out, KHR1.out, Kx0_O.out, KLx0.out, Kx1_O.out, KLx1.out⟩
    case rest =>
      obtain ⟨rfl, zW7, c_HB, c_LB0, c_LB1, c_HR0, c_HR1, c_x0_O, c_Lx0, c_x1_O, c_Lx1⟩ := hcut
      clear HB LB0 LB1 HR0 HR1 x0_O Lx0 x1_O Lx1
      have HB := Lib.hid c_HB
      have LB0 := Lib.hid c_LB0
      have LB1 := Lib.hid c_LB1
      have HR0 := Lib.hid c_HR0
      have HR1 := Lib.hid c_HR1
      have x0_O := Lib.hid c_x0_O
      have Lx0 := Lib.hid c_Lx0
      have x1_O := Lib.hid c_x1_O
      have Lx1 := Lib.hid c_Lx1
      clear c_HB c_LB0 c_LB1 c_HR0 c_HR1 c_x0_O c_Lx0 c_x1_O c_Lx1
      generalize wc = W7 at *
      have y0a := Lx1.out.c0
      have y0b := Lx1.out.c1
      have y0c := Lx1.out.c2
      have y0d := Lx1.out.lt
      have y1a := LB1.out.c0
      have y1b := LB1.out.c1
      have y1c := LB1.out.c2
      have y1d := LB1.out.lt
      go_upto_region 16 with fail
      clear y0a y0b y0c y0d y1a y1b y1c y1d
      go_cut [44] (fun s wx => s = .bool false ∧ W7.heap.size ≤ wx.heap.size ∧ Below w.heap.size w wx ∧ Loc1 wx (w.heap.size) (.slice q0 l0.length c0) ∧ Loc3 wx (w.heap.size + 1) (.string n1) (.slice q1 l1.length c1) (.int .i64 t1) ∧ tabsC.rd wx (· < w.heap.size) [.slice q0 l0.length c0] l0 ∧ rowC.rd wx (· < w.heap.size) [.slice q1 l1.length c1] l1 ∧ tabsC.ow wx (W1.heap.size) [.slice x0_a l0.length x0_c] l0 x0_f ∧ Loc1 wx (W2.heap.size) (.slice x0_a l0.length x0_c) ∧ rowC.ow wx (W3.heap.size) [.slice x1_a l1.length x1_c] l1 x1_f ∧ Loc3 wx (W4.heap.size) (.string n1) (.slice x1_a l1.length x1_c) (.int .i64 t1))
      case first =>
        have HT := Lib.hid (to_dep n1 t1 _ l1 _ W7.drew (rd_drew HR1.out) (by have := HX1.out; unfold depWt at this; omega))
        have y0a := Lx1.out.c0
        have y1a := LB1.out.c0
        have y0b := Lx1.out.c1
        have y1b := LB1.out.c1
        have y0c := Lx1.out.c2
        have y1c := LB1.out.c2
        go_region_law (first | (go_simp; go_at_call 16; refine HT.out.mono ?_; rintro e wq ⟨tv, tf, rfl, tow, tnd, hbq⟩; (have hq := undrew hbq); (have hqz := hq.size); (have GHB := Lib.hid (below_then HB.out hq)); (have GLB0 := Lib.hid (LB0.out.later hq)); (have GLB1 := Lib.hid (LB1.out.later hq)); (have GHR0 := Lib.hid (Cd.later HR0.out hq)); (have GHR1 := Lib.hid (Cd.later HR1.out hq)); (have Gx0_O := Lib.hid (Cd.ow_later x0_O.out hq)); (have GLx0 := Lib.hid (Lx0.out.later hq)); (have Gx1_O := Lib.hid (Cd.ow_later x1_O.out hq)); (have GLx1 := Lib.hid (Lx1.out.later hq)); (have TO := Lib.hid tow); (have k0a := GLx1.out.c0); (have k0b := GLx1.out.c1); (have k0c := GLx1.out.c2); clear hbq hq tow tnd) | (go_simp; go_at_call 19; refine (eq_dep n1 t1 _ _ l1 _ _ wq (rowC.ow_rd Gx1_O.out) (rowC.ow_rd TO.out)).mono ?_; rintro e wp ⟨rfl, hq2⟩; (have hqz2 := hq2.size); (have KHB := Lib.hid (below_then GHB.out hq2)); (have KLB0 := Lib.hid (GLB0.out.later hq2)); (have KLB1 := Lib.hid (GLB1.out.later hq2)); (have KHR0 := Lib.hid (Cd.later GHR0.out hq2)); (have KHR1 := Lib.hid (Cd.later GHR1.out hq2)); (have Kx0_O := Lib.hid (Cd.ow_later Gx0_O.out hq2)); (have KLx0 := Lib.hid (GLx0.out.later hq2)); (have Kx1_O := Lib.hid (Cd.ow_later Gx1_O.out hq2)); (have KLx1 := Lib.hid (GLx1.out.later hq2)); clear hq2))
        all_goals
          go_wp2_with fail
          go_meet
          exact ⟨rfl, by omega, KHB.out, KLB0.out, KLB1.out, KHR0.out, KHR1.out, Kx0_O.out, KLx0.out, Kx1_O.out, KLx1.out⟩
      case rest =>
        obtain ⟨rfl, zW8, c_HB, c_LB0, c_LB1, c_HR0, c_HR1, c_x0_O, c_Lx0, c_x1_O, c_Lx1⟩ := hcut
        clear HB LB0 LB1 HR0 HR1 x0_O Lx0 x1_O Lx1
        have HB := Lib.hid c_HB
        have LB0 := Lib.hid c_LB0
        have LB1 := Lib.hid c_LB1
        have HR0 := Lib.hid c_HR0
        have HR1 := Lib.hid c_HR1
        have x0_O := Lib.hid c_x0_O
        have Lx0 := Lib.hid c_Lx0
        have x1_O := Lib.hid c_x1_O
        have Lx1 := Lib.hid c_Lx1
        clear c_HB c_LB0 c_LB1 c_HR0 c_HR1 c_x0_O c_Lx0 c_x1_O c_Lx1
        generalize wc = W8 at *
        go_wp2_with fail
        go_ret
        exact ⟨rfl, HB.out⟩
end Go.Proofs.Ytnoennmhifmolaa.WalkDependencyHolds
