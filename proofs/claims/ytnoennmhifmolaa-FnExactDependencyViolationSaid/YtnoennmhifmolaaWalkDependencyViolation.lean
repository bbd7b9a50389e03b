/- The walk of the exact law on DependencyViolation, out of the two functions' contracts. -/
import Derived.Test.YtnoennmhifmolaaDbExact
import Derived.Deep.DeepCutAuto
import Derived.Test.YtnoennmhifmolaaDep
import Derived.Test.YtnoennmhifmolaaRegH
namespace Go.Proofs.Ytnoennmhifmolaa.WalkDependencyViolation
open Go Go.RowKit Byt Ints IntsLaw Cd Rows2 Tab TabSpec Exact SlMath TabOpen TabElem Mark SlTable Db DbExact Dep
set_option maxRecDepth 100000 in
set_option maxHeartbeats 6400000 in
theorem walk (v0 : Value) (l0 : List T3) (n1 : ByteArray) (t1 : Int) (v1 : Value) (l1 : List Int) (R0 : List Int) (w : World) (hr0 : tabsC.rd w (· < w.heap.size) [v0] l0) (hs1 : n1.size ≤ maxLen) (hr1 : rowC.rd w (· < w.heap.size) [v1] l1) (hw0 : wtS l0 ≤ 1048576 → depWt n1 l1 ≤ 1048576 → (R0.length ≤ 1048577))
    (HS : wtS l0 ≤ 1048576 → depWt n1 l1 ≤ 1048576 → ∀ (v0 : Value) (S0 : Nat → Prop) (v1 : Value) (S1 : Nat → Prop) (w' : World), tabsC.rd w' S0 [v0] l0 → rowC.rd w' S1 [v1] l1 → Calls Try.prog 20 #[.agg #[v0], .agg #[.string n1, v1, .int .i64 t1]] w' fun e w'' => ∃ u0 f0, e = .returned (u0) ∧ rowC.ow w'' w'.heap.size [u0] R0 f0 ∧ f0.Nodup ∧ Below w'.heap.size w' w'')
    (HI : wtS l0 ≤ 1048576 → depWt n1 l1 ≤ 1048576 → ∀ (v0 : Value) (S0 : Nat → Prop) (v1 : Value) (S1 : Nat → Prop) (w' : World), tabsC.rd w' S0 [v0] l0 → rowC.rd w' S1 [v1] l1 → Calls Try.prog 21 #[.agg #[v0], .agg #[.string n1, v1, .int .i64 t1]] w' fun e w'' => ∃ u0 f0, e = .returned (u0) ∧ rowC.ow w'' w'.heap.size [u0] R0 f0 ∧ f0.Nodup ∧ Below w'.heap.size w' w'') :
    Calls Try.prog 4 #[.agg #[v0], .agg #[.string n1, v1, .int .i64 t1]] w fun e w' => e = .returned (.bool true) ∧ Below w.heap.size w w' := by
  have HSh := Lib.hid HS
  have HIh := Lib.hid HI
  clear HS HI
  have HR0 := Lib.hid hr0
  obtain ⟨q0, c0, rfl, hl0⟩ := Cd.sl_form hr0
  clear hr0
  have HR1 := Lib.hid hr1
  obtain ⟨q1, c1, rfl, hl1, _⟩ := (row_ri hr1).1
  clear hr1
  go_enter Try.func4, Try.ntmps4
  go_wp2_with fail
  generalize hW0 : (w.alloc _).alloc _ = W0
  obtain ⟨rb0, rb1, z0, hb0⟩ := start2g w _ _ hW0
  have HB := Lib.hid hb0
  have LB0 := Lib.hid (Loc1.of rb0)
  have LB1 := Lib.hid (Loc3.of rb1)
  replace HR0 := Lib.hid (Cd.later HR0.out hb0)
  replace HR1 := Lib.hid (Cd.later HR1.out hb0)
  clear hW0 hb0 rb0 rb1
  refine (sz_db _ l0 _ 1048576 W0 HR0.out (by omega)).mono ?_
  rintro e W0z ⟨rfl, hbz0⟩
  replace HB := Lib.hid (below_then HB.out hbz0)
  replace LB0 := Lib.hid (LB0.out.later hbz0)
  replace LB1 := Lib.hid (LB1.out.later hbz0)
  replace HR0 := Lib.hid (Cd.later HR0.out hbz0)
  replace HR1 := Lib.hid (Cd.later HR1.out hbz0)
  have zz0 := hbz0.size
  clear hbz0
  by_cases hk0 : wtS l0 ≤ 1048576
  case neg =>
    rw [left_no hk0]
    clear hk0
    go_wp2_with fail
    go_ret
    exact ⟨rfl, HB.out⟩
  rw [left_yes hk0]
  have HL0 := Lib.hid hk0
  have HX0 := Lib.hid (show wtS l0 ≤ 1048576 by have := HL0.out; omega)
  have hge0 : ¬ (((1048576 - wtS l0 : Nat) : Int) < 0) := by omega
  clear hk0
  have y0a := LB1.out.c0
  have y0b := LB1.out.c1
  have y0c := LB1.out.c2
  go_wp2_with fail
  clear y0a y0b y0c
  refine (sz_dep n1 t1 _ l1 _ (1048576 - wtS l0) W0z hs1 HR1.out (by omega)).mono ?_
  rintro e W1z ⟨rfl, hbz1⟩
  replace HB := Lib.hid (below_then HB.out hbz1)
  replace LB0 := Lib.hid (LB0.out.later hbz1)
  replace LB1 := Lib.hid (LB1.out.later hbz1)
  replace HR0 := Lib.hid (Cd.later HR0.out hbz1)
  replace HR1 := Lib.hid (Cd.later HR1.out hbz1)
  have zz1 := hbz1.size
  clear hbz1
  by_cases hk1 : depWt n1 l1 ≤ (1048576 - wtS l0)
  case neg =>
    rw [left_no hk1]
    clear hk1
    go_wp2_with fail
    go_ret
    exact ⟨rfl, HB.out⟩
  rw [left_yes hk1]
  have HL1 := Lib.hid hk1
  have HX1 := Lib.hid (show depWt n1 l1 ≤ 1048576 by have := HL1.out; omega)
  have hge1 : ¬ ((((1048576 - wtS l0) - depWt n1 l1 : Nat) : Int) < 0) := by omega
  clear hk1
  have HW0 := Lib.hid (hw0 HX0.out HX1.out)
  clear hw0
  have HB0 := Lib.hid (show w.heap.size ≤ W1z.heap.size from HB.out.size)
  have hz0 : w.heap.size ≤ W1z.heap.size := HB.out.size
  have y0a := LB0.out.c0
  have y0d := LB0.out.lt
  have y1a := LB1.out.c0
  have y1b := LB1.out.c1
  have y1c := LB1.out.c2
  have y1d := LB1.out.lt
  go_upto_region 8 with fail
  clear y0a y0d y1a y1b y1c y1d
  go_cut [6] (fun s6 wx => ∃ (a_ : Option Addr) (c_ : Nat) (f_ : List Nat), s6 = .slice a_ R0.length c_ ∧ W1z.heap.size ≤ wx.heap.size ∧ rowC.ow wx W1z.heap.size [.slice a_ R0.length c_] R0 f_ ∧ f_.Nodup ∧ Below w.heap.size w wx ∧ Loc1 wx (w.heap.size) (.slice q0 l0.length c0) ∧ Loc3 wx (w.heap.size + 1) (.string n1) (.slice q1 l1.length c1) (.int .i64 t1) ∧ tabsC.rd wx (· < w.heap.size) [.slice q0 l0.length c0] l0 ∧ rowC.rd wx (· < w.heap.size) [.slice q1 l1.length c1] l1)
  case first =>
    have y0a := LB0.out.c0
    have y1a := LB1.out.c0
    have y1b := LB1.out.c1
    have y1c := LB1.out.c2
    go_region_law (first | (go_simp; go_at_call_of 15 (Value.agg #[.slice q0 l0.length c0]); refine (to_db _ l0 _ W1z.drew (rd_drew HR0.out) (by have := HX0.out; omega)).mono ?_; rintro e wq0 ⟨tv0, tf0, rfl, tow, tnd, hbq⟩; (have hq := undrew hbq); (have hqz0 := hq.size); (have D0HB := Lib.hid (below_then HB.out hq)); (have D0LB0 := Lib.hid (LB0.out.later hq)); (have D0LB1 := Lib.hid (LB1.out.later hq)); (have D0HR0 := Lib.hid (Cd.later HR0.out hq)); (have D0HR1 := Lib.hid (Cd.later HR1.out hq)); (have D0O0 := Lib.hid tow); (have u01a := D0LB1.out.c0); (have u01b := D0LB1.out.c1); (have u01c := D0LB1.out.c2); clear hbq hq tow tnd) | (go_simp; go_at_call_of 16 (Value.agg #[.string n1, .slice q1 l1.length c1, .int .i64 t1]); refine (to_dep n1 t1 _ l1 _ wq0 D0HR1.out (by have := HX1.out; unfold depWt at this; omega)).mono ?_; rintro e wq1 ⟨tv1, tf1, rfl, tow, tnd, hbq⟩; (have hq := hbq); (have hqz1 := hq.size); (have D1HB := Lib.hid (below_then D0HB.out hq)); (have D1LB0 := Lib.hid (D0LB0.out.later hq)); (have D1LB1 := Lib.hid (D0LB1.out.later hq)); (have D1HR0 := Lib.hid (Cd.later D0HR0.out hq)); (have D1HR1 := Lib.hid (Cd.later D0HR1.out hq)); (have D1O0 := Lib.hid (Cd.ow_later D0O0.out hq)); (have D1O1 := Lib.hid tow); clear hbq hq tow tnd) | (go_simp; go_at_call 20; refine (HSh.out HX0.out HX1.out _ _ _ _ wq1 (tabsC.ow_rd D1O0.out) (rowC.ow_rd D1O1.out)).mono ?_; rintro e wp ⟨ru, rf, rfl, tow, tnd, hq⟩; obtain ⟨ra, rc, rfl⟩ := Cd.ow_slice tow; (have HRO := Lib.hid tow); (have HRN := Lib.hid tnd); (have hqzz := hq.size); (have KHB := Lib.hid (below_then D1HB.out hq)); (have KLB0 := Lib.hid (D1LB0.out.later hq)); (have KLB1 := Lib.hid (D1LB1.out.later hq)); (have KHR0 := Lib.hid (Cd.later D1HR0.out hq)); (have KHR1 := Lib.hid (Cd.later D1HR1.out hq)); clear hq tow tnd))
    all_goals
      go_wp2_with fail
      go_meet
      exact ⟨ra, rc, rf, rfl, by omega, Cd.ow_base _ HRO.out (by omega), HRN.out, KHB.out, KLB0.out, KLB1.out, KHR0.out, KHR1.out⟩
  case rest =>
    obtain ⟨w0_a, w0_c, w0_f, rfl, zW1, cO, cN, c_HB, c_LB0, c_LB1, c_HR0, c_HR1⟩ := hcut
    clear HB LB0 LB1 HR0 HR1
    have HB := Lib.hid c_HB
    have LB0 := Lib.hid c_LB0
    have LB1 := Lib.hid c_LB1
    have HR0 := Lib.hid c_HR0
    have HR1 := Lib.hid c_HR1
    clear c_HB c_LB0 c_LB1 c_HR0 c_HR1
    have w0_O := Lib.hid cO
    have w0_N := Lib.hid cN
    have w0_B := Lib.hid (bound_of cO)
    clear cO cN
    generalize wc = W1 at *
    have y0a := LB0.out.c0
    have y0d := LB0.out.lt
    go_wp2_with fail
    clear y0a y0d
    refine (to_db _ l0 _ W1 HR0.out (by have := HX0.out; omega)).mono ?_
    rintro e W2 ⟨x0_v, x0_f, rfl, x0_o, x0_n, hbx⟩
    obtain ⟨x0_a, x0_c, rfl⟩ := Cd.ow_slice (c := tabC) x0_o
    replace HB := Lib.hid (below_then HB.out hbx)
    replace LB0 := Lib.hid (LB0.out.later hbx)
    replace LB1 := Lib.hid (LB1.out.later hbx)
    replace HR0 := Lib.hid (Cd.later HR0.out hbx)
    replace HR1 := Lib.hid (Cd.later HR1.out hbx)
    replace w0_O := Lib.hid (Cd.ow_later w0_O.out hbx)
    have zW2 := hbx.size
    clear hbx
    have x0_O := Lib.hid x0_o
    have x0_N := Lib.hid x0_n
    have x0_B := Lib.hid (bound_of x0_o)
    clear x0_o x0_n
    have y0a := LB1.out.c0
    have y0b := LB1.out.c1
    have y0c := LB1.out.c2
    have y0d := LB1.out.lt
    go_wp2_with fail
    clear y0a y0b y0c y0d
    generalize hg : World.alloc W2 _ = W3
    obtain ⟨rg, zW3, hbg⟩ := start1 W2 _ hg
    clear hg
    replace HB := Lib.hid (below_then HB.out hbg)
    replace LB0 := Lib.hid (LB0.out.later hbg)
    replace LB1 := Lib.hid (LB1.out.later hbg)
    replace HR0 := Lib.hid (Cd.later HR0.out hbg)
    replace HR1 := Lib.hid (Cd.later HR1.out hbg)
    replace w0_O := Lib.hid (Cd.ow_later w0_O.out hbg)
    replace x0_O := Lib.hid (Cd.ow_later x0_O.out hbg)
    have Lx0 := Lib.hid (Loc1.of rg)
    clear hbg rg
    refine (to_dep n1 t1 _ l1 _ W3 HR1.out (by have := HX1.out; unfold depWt at this; omega)).mono ?_
    rintro e W4 ⟨x1_v, x1_f, rfl, x1_o, x1_n, hbx⟩
    obtain ⟨x1_a, x1_c, rfl⟩ := Cd.ow_slice x1_o
    replace HB := Lib.hid (below_then HB.out hbx)
    replace LB0 := Lib.hid (LB0.out.later hbx)
    replace LB1 := Lib.hid (LB1.out.later hbx)
    replace HR0 := Lib.hid (Cd.later HR0.out hbx)
    replace HR1 := Lib.hid (Cd.later HR1.out hbx)
    replace w0_O := Lib.hid (Cd.ow_later w0_O.out hbx)
    replace x0_O := Lib.hid (Cd.ow_later x0_O.out hbx)
    replace Lx0 := Lib.hid (Lx0.out.later hbx)
    have zW4 := hbx.size
    clear hbx
    have x1_O := Lib.hid x1_o
    have x1_N := Lib.hid x1_n
    have x1_B := Lib.hid (bound_of x1_o)
    clear x1_o x1_n
    have y0a := Lx0.out.c0
    have y0d := Lx0.out.lt
    go_wp2_with fail
    clear y0a y0d
    generalize hg : World.alloc W4 _ = W5
    obtain ⟨rg, zW5, hbg⟩ := start1 W4 _ hg
    clear hg
    replace HB := Lib.hid (below_then HB.out hbg)
    replace LB0 := Lib.hid (LB0.out.later hbg)
    replace LB1 := Lib.hid (LB1.out.later hbg)
    replace HR0 := Lib.hid (Cd.later HR0.out hbg)
    replace HR1 := Lib.hid (Cd.later HR1.out hbg)
    replace w0_O := Lib.hid (Cd.ow_later w0_O.out hbg)
    replace x0_O := Lib.hid (Cd.ow_later x0_O.out hbg)
    replace Lx0 := Lib.hid (Lx0.out.later hbg)
    replace x1_O := Lib.hid (Cd.ow_later x1_O.out hbg)
    have Lx1 := Lib.hid (Loc3.of rg)
    clear hbg rg
    refine (HIh.out HX0.out HX1.out _ _ _ _ W5 (tabsC.ow_rd x0_O.out) (rowC.ow_rd x1_O.out)).mono ?_
    rintro e W6 ⟨g0_v, g0_f, rfl, g0_o, g0_n, hbx⟩
    obtain ⟨g0_a, g0_c, rfl⟩ := Cd.ow_slice g0_o
    replace HB := Lib.hid (below_then HB.out hbx)
    replace LB0 := Lib.hid (LB0.out.later hbx)
    replace LB1 := Lib.hid (LB1.out.later hbx)
    replace HR0 := Lib.hid (Cd.later HR0.out hbx)
    replace HR1 := Lib.hid (Cd.later HR1.out hbx)
    replace w0_O := Lib.hid (Cd.ow_later w0_O.out hbx)
    replace x0_O := Lib.hid (Cd.ow_later x0_O.out hbx)
    replace Lx0 := Lib.hid (Lx0.out.later hbx)
    replace x1_O := Lib.hid (Cd.ow_later x1_O.out hbx)
    replace Lx1 := Lib.hid (Lx1.out.later hbx)
    have zW6 := hbx.size
    clear hbx
    have g0_O := Lib.hid g0_o
    have g0_N := Lib.hid g0_n
    have g0_B := Lib.hid (bound_of g0_o)
    clear g0_o g0_n
    go_wp2_with fail
    refine (eq_i _ _ R0 _ _ W6 (rowC.ow_rd g0_O.out) (rowC.ow_rd w0_O.out)).mono ?_
    rintro e W7 ⟨rfl, hbx⟩
    replace HB := Lib.hid (below_then HB.out hbx)
    replace LB0 := Lib.hid (LB0.out.later hbx)
    replace LB1 := Lib.hid (LB1.out.later hbx)
    replace HR0 := Lib.hid (Cd.later HR0.out hbx)
    replace HR1 := Lib.hid (Cd.later HR1.out hbx)
    replace w0_O := Lib.hid (Cd.ow_later w0_O.out hbx)
    replace x0_O := Lib.hid (Cd.ow_later x0_O.out hbx)
    replace Lx0 := Lib.hid (Lx0.out.later hbx)
    replace x1_O := Lib.hid (Cd.ow_later x1_O.out hbx)
    replace Lx1 := Lib.hid (Lx1.out.later hbx)
    replace g0_O := Lib.hid (Cd.ow_later g0_O.out hbx)
    have zW7 := hbx.size
    clear hbx
    have y0a := Lx0.out.c0
    have y0d := Lx0.out.lt
    have y1a := LB0.out.c0
    have y1d := LB0.out.lt
    go_upto_region 14 with fail
    clear y0a y0d y1a y1d
    go_cut [44] (fun s wx => s = .bool false ∧ W7.heap.size ≤ wx.heap.size ∧ Below w.heap.size w wx ∧ Loc1 wx (w.heap.size) (.slice q0 l0.length c0) ∧ Loc3 wx (w.heap.size + 1) (.string n1) (.slice q1 l1.length c1) (.int .i64 t1) ∧ tabsC.rd wx (· < w.heap.size) [.slice q0 l0.length c0] l0 ∧ rowC.rd wx (· < w.heap.size) [.slice q1 l1.length c1] l1 ∧ rowC.ow wx (W1z.heap.size) [.slice w0_a R0.length w0_c] R0 w0_f ∧ tabsC.ow wx (W1.heap.size) [.slice x0_a l0.length x0_c] l0 x0_f ∧ Loc1 wx (W2.heap.size) (.slice x0_a l0.length x0_c) ∧ rowC.ow wx (W3.heap.size) [.slice x1_a l1.length x1_c] l1 x1_f ∧ Loc3 wx (W4.heap.size) (.string n1) (.slice x1_a l1.length x1_c) (.int .i64 t1) ∧ rowC.ow wx (W5.heap.size) [.slice g0_a R0.length g0_c] R0 g0_f)
    case first =>
      have HT := Lib.hid (to_db _ l0 _ W7.drew (rd_drew HR0.out) (by have := HX0.out; omega))
      have y0a := Lx0.out.c0
      have y1a := LB0.out.c0
      go_region_law (first | (go_simp; go_at_call 15; refine HT.out.mono ?_; rintro e wq ⟨tv, tf, rfl, tow, tnd, hbq⟩; (have hq := undrew hbq); (have hqz := hq.size); (have GHB := Lib.hid (below_then HB.out hq)); (have GLB0 := Lib.hid (LB0.out.later hq)); (have GLB1 := Lib.hid (LB1.out.later hq)); (have GHR0 := Lib.hid (Cd.later HR0.out hq)); (have GHR1 := Lib.hid (Cd.later HR1.out hq)); (have Gw0_O := Lib.hid (Cd.ow_later w0_O.out hq)); (have Gx0_O := Lib.hid (Cd.ow_later x0_O.out hq)); (have GLx0 := Lib.hid (Lx0.out.later hq)); (have Gx1_O := Lib.hid (Cd.ow_later x1_O.out hq)); (have GLx1 := Lib.hid (Lx1.out.later hq)); (have Gg0_O := Lib.hid (Cd.ow_later g0_O.out hq)); (have TO := Lib.hid tow); (have k0a := GLx0.out.c0); clear hbq hq tow tnd) | (go_simp; go_at_call 18; refine (eq_db _ _ l0 _ _ wq (tabsC.ow_rd Gx0_O.out) (tabsC.ow_rd TO.out)).mono ?_; rintro e wp ⟨rfl, hq2⟩; (have hqz2 := hq2.size); (have KHB := Lib.hid (below_then GHB.out hq2)); (have KLB0 := Lib.hid (GLB0.out.later hq2)); (have KLB1 := Lib.hid (GLB1.out.later hq2)); (have KHR0 := Lib.hid (Cd.later GHR0.out hq2)); (have KHR1 := Lib.hid (Cd.later GHR1.out hq2)); (have Kw0_O := Lib.hid (Cd.ow_later Gw0_O.out hq2)); (have Kx0_O := Lib.hid (Cd.ow_later Gx0_O.out hq2)); (have KLx0 := Lib.hid (GLx0.out.later hq2)); (have Kx1_O := Lib.hid (Cd.ow_later Gx1_O.out hq2)); (have KLx1 := Lib.hid (GLx1.out.later hq2)); (have Kg0_O := Lib.hid (Cd.ow_later Gg0_O.out hq2)); clear hq2))
      all_goals
        go_wp2_with fail
        go_meet
        exact ⟨rfl, by omega, KHB.out, KLB0.out, KLB1.out, KHR0.out, KHR1.out, Kw0_O.out, Kx0_O.out, KLx0.out, Kx1_O.out, KLx1.out, Kg0_O.out⟩
    case rest =>
      obtain ⟨rfl, zW8, c_HB, c_LB0, c_LB1, c_HR0, c_HR1, c_w0_O, c_x0_O, c_Lx0, c_x1_O, c_Lx1, c_g0_O⟩ := hcut
      clear HB LB0 LB1 HR0 HR1 w0_O x0_O Lx0 x1_O Lx1 g0_O
      have HB := Lib.hid c_HB
      have LB0 := Lib.hid c_LB0
      have LB1 := Lib.hid c_LB1
      have HR0 := Lib.hid c_HR0
      have HR1 := Lib.hid c_HR1
      have w0_O := Lib.hid c_w0_O
      have x0_O := Lib.hid c_x0_O
      have Lx0 := Lib.hid c_Lx0
      have x1_O := Lib.hid c_x1_O
      have Lx1 := Lib.hid c_Lx1
      have g0_O := Lib.hid c_g0_O
      clear c_HB c_LB0 c_LB1 c_HR0 c_HR1 c_w0_O c_x0_O c_Lx0 c_x1_O c_Lx1 c_g0_O
      generalize wc = W8 at *
      have y0a := Lx1.out.c0
      have y0b := Lx1.out.c1
      have y0c := Lx1.out.c2
      have y0d := Lx1.out.lt
      have y1a := LB1.out.c0
      have y1b := LB1.out.c1
      have y1c := LB1.out.c2
      have y1d := LB1.out.lt
      go_upto_region 16 with fail
      clear y0a y0b y0c y0d y1a y1b y1c y1d
      go_cut [49] (fun s wx => s = .bool false ∧ W8.heap.size ≤ wx.heap.size ∧ Below w.heap.size w wx ∧ Loc1 wx (w.heap.size) (.slice q0 l0.length c0) ∧ Loc3 wx (w.heap.size + 1) (.string n1) (.slice q1 l1.length c1) (.int .i64 t1) ∧ tabsC.rd wx (· < w.heap.size) [.slice q0 l0.length c0] l0 ∧ rowC.rd wx (· < w.heap.size) [.slice q1 l1.length c1] l1 ∧ rowC.ow wx (W1z.heap.size) [.slice w0_a R0.length w0_c] R0 w0_f ∧ tabsC.ow wx (W1.heap.size) [.slice x0_a l0.length x0_c] l0 x0_f ∧ Loc1 wx (W2.heap.size) (.slice x0_a l0.length x0_c) ∧ rowC.ow wx (W3.heap.size) [.slice x1_a l1.length x1_c] l1 x1_f ∧ Loc3 wx (W4.heap.size) (.string n1) (.slice x1_a l1.length x1_c) (.int .i64 t1) ∧ rowC.ow wx (W5.heap.size) [.slice g0_a R0.length g0_c] R0 g0_f)
      case first =>
        have HT := Lib.hid (to_dep n1 t1 _ l1 _ W8.drew (rd_drew HR1.out) (by have := HX1.out; unfold depWt at this; omega))
        have y0a := Lx1.out.c0
        have y1a := LB1.out.c0
        have y0b := Lx1.out.c1
        have y1b := LB1.out.c1
        have y0c := Lx1.out.c2
        have y1c := LB1.out.c2
        go_region_law (first | (go_simp; go_at_call 16; refine HT.out.mono ?_; rintro e wq ⟨tv, tf, rfl, tow, tnd, hbq⟩; (have hq := undrew hbq); (have hqz := hq.size); (have GHB := Lib.hid (below_then HB.out hq)); (have GLB0 := Lib.hid (LB0.out.later hq)); (have GLB1 := Lib.hid (LB1.out.later hq)); (have GHR0 := Lib.hid (Cd.later HR0.out hq)); (have GHR1 := Lib.hid (Cd.later HR1.out hq)); (have Gw0_O := Lib.hid (Cd.ow_later w0_O.out hq)); (have Gx0_O := Lib.hid (Cd.ow_later x0_O.out hq)); (have GLx0 := Lib.hid (Lx0.out.later hq)); (have Gx1_O := Lib.hid (Cd.ow_later x1_O.out hq)); (have GLx1 := Lib.hid (Lx1.out.later hq)); (have Gg0_O := Lib.hid (Cd.ow_later g0_O.out hq)); (have TO := Lib.hid tow); (have k0a := GLx1.out.c0); (have k0b := GLx1.out.c1); (have k0c := GLx1.out.c2); clear hbq hq tow tnd) | (go_simp; go_at_call 19; refine (eq_dep n1 t1 _ _ l1 _ _ wq (rowC.ow_rd Gx1_O.out) (rowC.ow_rd TO.out)).mono ?_; rintro e wp ⟨rfl, hq2⟩; (have hqz2 := hq2.size); (have KHB := Lib.hid (below_then GHB.out hq2)); (have KLB0 := Lib.hid (GLB0.out.later hq2)); (have KLB1 := Lib.hid (GLB1.out.later hq2)); (have KHR0 := Lib.hid (Cd.later GHR0.out hq2)); (have KHR1 := Lib.hid (Cd.later GHR1.out hq2)); (have Kw0_O := Lib.hid (Cd.ow_later Gw0_O.out hq2)); (have Kx0_O := Lib.hid (Cd.ow_later Gx0_O.out hq2)); (have KLx0 := Lib.hid (GLx0.out.later hq2)); (have Kx1_O := Lib.hid (Cd.ow_later Gx1_O.out hq2)); (have KLx1 := Lib.hid (GLx1.out.later hq2)); (have Kg0_O := Lib.hid (Cd.ow_later Gg0_O.out hq2)); clear hq2))
        all_goals
          go_wp2_with fail
          go_meet
          exact ⟨rfl, by omega, KHB.out, KLB0.out, KLB1.out, KHR0.out, KHR1.out, Kw0_O.out, Kx0_O.out, KLx0.out, Kx1_O.out, KLx1.out, Kg0_O.out⟩
      case rest =>
        obtain ⟨rfl, zW9, c_HB, c_LB0, c_LB1, c_HR0, c_HR1, c_w0_O, c_x0_O, c_Lx0, c_x1_O, c_Lx1, c_g0_O⟩ := hcut
        clear HB LB0 LB1 HR0 HR1 w0_O x0_O Lx0 x1_O Lx1 g0_O
        have HB := Lib.hid c_HB
        have LB0 := Lib.hid c_LB0
        have LB1 := Lib.hid c_LB1
        have HR0 := Lib.hid c_HR0
        have HR1 := Lib.hid c_HR1
        have w0_O := Lib.hid c_w0_O
        have x0_O := Lib.hid c_x0_O
        have Lx0 := Lib.hid c_Lx0
        have x1_O := Lib.hid c_x1_O
        have Lx1 := Lib.hid c_Lx1
        have g0_O := Lib.hid c_g0_O
        clear c_HB c_LB0 c_LB1 c_HR0 c_HR1 c_w0_O c_x0_O c_Lx0 c_x1_O c_Lx1 c_g0_O
        generalize wc = W9 at *
        have y0a := Lx0.out.c0
        have y0d := Lx0.out.lt
        go_wp2_with fail
        clear y0a y0d
        have HMK := Lib.hid (mark_db _ l0 _ (1) x0_f W9 x0_O.out x0_N.out (cnts_of HX0.out).1 (cnts_of HX0.out).2 (by omega) (by omega))
        obtain ⟨kk0, hkk0⟩ : ∃ kk, 1 + sumN cntT l0 = kk := ⟨_, rfl⟩
        have bkk0 : kk0 ≤ 4194309 ∧ 1 ≤ kk0 := by have := (show sumN cntT l0 ≤ 4194308 from (cnts_of HX0.out).1); omega
        rw [hkk0] at HMK
        have Hkk0 := Lib.hid hkk0
        clear hkk0
        refine HMK.out.mono ?_
        rintro e W10 ⟨rfl, x0_o, ht⟩
        have zW10 := ht.size
        replace HB := Lib.hid (Cd.Touch.below HB.out ht (fun b hb => by have := x0_B.out b hb; have := HB0.out; omega))
        replace LB0 := Lib.hid (LB0.out.touched ht (fun q => by have := x0_B.out _ q; have := HB0.out; omega))
        replace LB1 := Lib.hid (LB1.out.touched ht (fun q => by have := x0_B.out _ q; have := HB0.out; omega))
        replace HR0 := Lib.hid (Cd.touched HR0.out ht (fun b hb q => by have := x0_B.out b hb; have := HB0.out; omega))
        replace HR1 := Lib.hid (Cd.touched HR1.out ht (fun b hb q => by have := x0_B.out b hb; have := HB0.out; omega))
        replace w0_O := Lib.hid (Cd.ow_touched w0_O.out ht (fun b hb q => by have := x0_B.out b q; have := w0_B.out b hb; omega))
        replace Lx0 := Lib.hid (Lx0.out.touched ht (fun q => by have := x0_B.out _ q; have := HB0.out; omega))
        replace x1_O := Lib.hid (Cd.ow_touched x1_O.out ht (fun b hb q => by have := x0_B.out b q; have := x1_B.out b hb; omega))
        replace Lx1 := Lib.hid (Lx1.out.touched ht (fun q => by have := x0_B.out _ q; have := HB0.out; omega))
        replace g0_O := Lib.hid (Cd.ow_touched g0_O.out ht (fun b hb q => by have := x0_B.out b q; have := g0_B.out b hb; omega))
        have x0_M := Lib.hid x0_o
        clear x0_o ht
        have y0a := Lx1.out.c0
        have y0b := Lx1.out.c1
        have y0c := Lx1.out.c2
        have y0d := Lx1.out.lt
        go_wp2_with fail
        clear y0a y0b y0c y0d
        have HMK := Lib.hid (mark_dep n1 t1 _ l1 _ (kk0) x1_f W10 x1_O.out (by have := HX1.out; unfold depWt at this; omega) (by omega))
        obtain ⟨kk1, hkk1⟩ : ∃ kk, kk0 + l1.length = kk := ⟨_, rfl⟩
        have bkk1 : kk1 ≤ 5242886 := by have := (show l1.length ≤ 1048577 from (by have := HX1.out; unfold depWt at this; omega)); omega
        rw [hkk1] at HMK
        have Hkk1 := Lib.hid hkk1
        clear hkk1
        refine HMK.out.mono ?_
        rintro e W11 ⟨rfl, x1_o, ht⟩
        have zW11 := ht.size
        replace HB := Lib.hid (Cd.Touch.below HB.out ht (fun b hb => by have := x1_B.out b hb; have := HB0.out; omega))
        replace LB0 := Lib.hid (LB0.out.touched ht (fun q => by have := x1_B.out _ q; have := HB0.out; omega))
        replace LB1 := Lib.hid (LB1.out.touched ht (fun q => by have := x1_B.out _ q; have := HB0.out; omega))
        replace HR0 := Lib.hid (Cd.touched HR0.out ht (fun b hb q => by have := x1_B.out b hb; have := HB0.out; omega))
        replace HR1 := Lib.hid (Cd.touched HR1.out ht (fun b hb q => by have := x1_B.out b hb; have := HB0.out; omega))
        replace w0_O := Lib.hid (Cd.ow_touched w0_O.out ht (fun b hb q => by have := x1_B.out b q; have := w0_B.out b hb; omega))
        replace Lx0 := Lib.hid (Lx0.out.touched ht (fun q => by have := x1_B.out _ q; have := HB0.out; omega))
        replace Lx1 := Lib.hid (Lx1.out.touched ht (fun q => by have := x1_B.out _ q; have := HB0.out; omega))
        replace g0_O := Lib.hid (Cd.ow_touched g0_O.out ht (fun b hb q => by have := x1_B.out b q; have := g0_B.out b hb; omega))
        replace x0_M := Lib.hid (Cd.ow_touched x0_M.out ht (fun b hb q => by have := x1_B.out b q; have := x0_B.out b hb; omega))
        have x1_M := Lib.hid x1_o
        clear x1_o ht
        go_wp2_with fail
        refine (eq_i _ _ R0 _ _ W11 (rowC.ow_rd g0_O.out) (rowC.ow_rd w0_O.out)).mono ?_
        rintro e W12 ⟨rfl, hbx⟩
        replace HB := Lib.hid (below_then HB.out hbx)
        replace LB0 := Lib.hid (LB0.out.later hbx)
        replace LB1 := Lib.hid (LB1.out.later hbx)
        replace HR0 := Lib.hid (Cd.later HR0.out hbx)
        replace HR1 := Lib.hid (Cd.later HR1.out hbx)
        replace w0_O := Lib.hid (Cd.ow_later w0_O.out hbx)
        replace Lx0 := Lib.hid (Lx0.out.later hbx)
        replace Lx1 := Lib.hid (Lx1.out.later hbx)
        replace g0_O := Lib.hid (Cd.ow_later g0_O.out hbx)
        replace x0_M := Lib.hid (Cd.ow_later x0_M.out hbx)
        replace x1_M := Lib.hid (Cd.ow_later x1_M.out hbx)
        have zW12 := hbx.size
        clear hbx
        go_wp2_with fail
        have HMK := Lib.hid (mark_i _ R0 _ (1) g0_f W12 g0_O.out HW0.out (by omega))
        obtain ⟨mm, hmm⟩ : ∃ kk, 1 + R0.length = kk := ⟨_, rfl⟩
        have bmm : mm ≤ 1048578 := by have := (show R0.length ≤ 1048577 from HW0.out); omega
        rw [hmm] at HMK
        have Hmm := Lib.hid hmm
        clear hmm
        refine HMK.out.mono ?_
        rintro e W13 ⟨rfl, g0_o, ht⟩
        have zW13 := ht.size
        replace HB := Lib.hid (Cd.Touch.below HB.out ht (fun b hb => by have := g0_B.out b hb; have := HB0.out; omega))
        replace LB0 := Lib.hid (LB0.out.touched ht (fun q => by have := g0_B.out _ q; have := HB0.out; omega))
        replace LB1 := Lib.hid (LB1.out.touched ht (fun q => by have := g0_B.out _ q; have := HB0.out; omega))
        replace HR0 := Lib.hid (Cd.touched HR0.out ht (fun b hb q => by have := g0_B.out b hb; have := HB0.out; omega))
        replace HR1 := Lib.hid (Cd.touched HR1.out ht (fun b hb q => by have := g0_B.out b hb; have := HB0.out; omega))
        replace w0_O := Lib.hid (Cd.ow_touched w0_O.out ht (fun b hb q => by have := g0_B.out b q; have := w0_B.out b hb; omega))
        replace Lx0 := Lib.hid (Lx0.out.touched ht (fun q => by have := g0_B.out _ q; have := HB0.out; omega))
        replace Lx1 := Lib.hid (Lx1.out.touched ht (fun q => by have := g0_B.out _ q; have := HB0.out; omega))
        replace x0_M := Lib.hid (Cd.ow_touched x0_M.out ht (fun b hb q => by have := g0_B.out b q; have := x0_B.out b hb; omega))
        replace x1_M := Lib.hid (Cd.ow_touched x1_M.out ht (fun b hb q => by have := g0_B.out b q; have := x1_B.out b hb; omega))
        have g0_M := Lib.hid g0_o
        clear g0_o ht
        go_wp2_with fail
        have HHD := Lib.hid (held_i _ R0.length _ 1 W13 (rowC.ow_rd g0_M.out) HW0.out (by omega))
        rw [Hmm.out] at HHD
        refine HHD.out.mono ?_
        rintro e W14 ⟨rfl, hbx⟩
        replace HB := Lib.hid (below_then HB.out hbx)
        replace LB0 := Lib.hid (LB0.out.later hbx)
        replace LB1 := Lib.hid (LB1.out.later hbx)
        replace HR0 := Lib.hid (Cd.later HR0.out hbx)
        replace HR1 := Lib.hid (Cd.later HR1.out hbx)
        replace w0_O := Lib.hid (Cd.ow_later w0_O.out hbx)
        replace Lx0 := Lib.hid (Lx0.out.later hbx)
        replace Lx1 := Lib.hid (Lx1.out.later hbx)
        replace x0_M := Lib.hid (Cd.ow_later x0_M.out hbx)
        replace x1_M := Lib.hid (Cd.ow_later x1_M.out hbx)
        replace g0_M := Lib.hid (Cd.ow_later g0_M.out hbx)
        have zW14 := hbx.size
        clear hbx
        have y0a := LB0.out.c0
        have y0d := LB0.out.lt
        have y1a := LB1.out.c0
        have y1b := LB1.out.c1
        have y1c := LB1.out.c2
        have y1d := LB1.out.lt
        go_upto_region 31 with fail
        clear y0a y0d y1a y1b y1c y1d
        go_cut [13] (fun s13 wx => ∃ (a_ : Option Addr) (c_ : Nat) (f_ : List Nat), s13 = .slice a_ R0.length c_ ∧ W14.heap.size ≤ wx.heap.size ∧ rowC.ow wx W14.heap.size [.slice a_ R0.length c_] R0 f_ ∧ f_.Nodup ∧ Below w.heap.size w wx ∧ Loc1 wx (w.heap.size) (.slice q0 l0.length c0) ∧ Loc3 wx (w.heap.size + 1) (.string n1) (.slice q1 l1.length c1) (.int .i64 t1) ∧ tabsC.rd wx (· < w.heap.size) [.slice q0 l0.length c0] l0 ∧ rowC.rd wx (· < w.heap.size) [.slice q1 l1.length c1] l1 ∧ rowC.ow wx (W1z.heap.size) [.slice w0_a R0.length w0_c] R0 w0_f ∧ Loc1 wx (W2.heap.size) (.slice x0_a l0.length x0_c) ∧ Loc3 wx (W4.heap.size) (.string n1) (.slice x1_a l1.length x1_c) (.int .i64 t1) ∧ tabsC.ow wx (W1.heap.size) [.slice x0_a l0.length x0_c] (mkS mkT cntT (1) l0) x0_f ∧ rowC.ow wx (W3.heap.size) [.slice x1_a l1.length x1_c] (marks (kk0 : Nat) l1.length) x1_f ∧ rowC.ow wx (W5.heap.size) [.slice g0_a R0.length g0_c] (marks (1 : Nat) R0.length) g0_f)
        case first =>
          have y0a := LB0.out.c0
          have y1a := LB1.out.c0
          have y1b := LB1.out.c1
          have y1c := LB1.out.c2
          go_region_law (first | (go_simp; go_at_call_of 15 (Value.agg #[.slice q0 l0.length c0]); refine (to_db _ l0 _ W14.drew (rd_drew HR0.out) (by have := HX0.out; omega)).mono ?_; rintro e wq0 ⟨tv0, tf0, rfl, tow, tnd, hbq⟩; (have hq := undrew hbq); (have hqz0 := hq.size); (have D0HB := Lib.hid (below_then HB.out hq)); (have D0LB0 := Lib.hid (LB0.out.later hq)); (have D0LB1 := Lib.hid (LB1.out.later hq)); (have D0HR0 := Lib.hid (Cd.later HR0.out hq)); (have D0HR1 := Lib.hid (Cd.later HR1.out hq)); (have D0w0_O := Lib.hid (Cd.ow_later w0_O.out hq)); (have D0Lx0 := Lib.hid (Lx0.out.later hq)); (have D0Lx1 := Lib.hid (Lx1.out.later hq)); (have D0x0_M := Lib.hid (Cd.ow_later x0_M.out hq)); (have D0x1_M := Lib.hid (Cd.ow_later x1_M.out hq)); (have D0g0_M := Lib.hid (Cd.ow_later g0_M.out hq)); (have D0O0 := Lib.hid tow); (have u01a := D0LB1.out.c0); (have u01b := D0LB1.out.c1); (have u01c := D0LB1.out.c2); clear hbq hq tow tnd) | (go_simp; go_at_call_of 16 (Value.agg #[.string n1, .slice q1 l1.length c1, .int .i64 t1]); refine (to_dep n1 t1 _ l1 _ wq0 D0HR1.out (by have := HX1.out; unfold depWt at this; omega)).mono ?_; rintro e wq1 ⟨tv1, tf1, rfl, tow, tnd, hbq⟩; (have hq := hbq); (have hqz1 := hq.size); (have D1HB := Lib.hid (below_then D0HB.out hq)); (have D1LB0 := Lib.hid (D0LB0.out.later hq)); (have D1LB1 := Lib.hid (D0LB1.out.later hq)); (have D1HR0 := Lib.hid (Cd.later D0HR0.out hq)); (have D1HR1 := Lib.hid (Cd.later D0HR1.out hq)); (have D1w0_O := Lib.hid (Cd.ow_later D0w0_O.out hq)); (have D1Lx0 := Lib.hid (D0Lx0.out.later hq)); (have D1Lx1 := Lib.hid (D0Lx1.out.later hq)); (have D1x0_M := Lib.hid (Cd.ow_later D0x0_M.out hq)); (have D1x1_M := Lib.hid (Cd.ow_later D0x1_M.out hq)); (have D1g0_M := Lib.hid (Cd.ow_later D0g0_M.out hq)); (have D1O0 := Lib.hid (Cd.ow_later D0O0.out hq)); (have D1O1 := Lib.hid tow); clear hbq hq tow tnd) | (go_simp; go_at_call 21; refine (HIh.out HX0.out HX1.out _ _ _ _ wq1 (tabsC.ow_rd D1O0.out) (rowC.ow_rd D1O1.out)).mono ?_; rintro e wp ⟨ru, rf, rfl, tow, tnd, hq⟩; obtain ⟨ra, rc, rfl⟩ := Cd.ow_slice tow; (have HRO := Lib.hid tow); (have HRN := Lib.hid tnd); (have hqzz := hq.size); (have KHB := Lib.hid (below_then D1HB.out hq)); (have KLB0 := Lib.hid (D1LB0.out.later hq)); (have KLB1 := Lib.hid (D1LB1.out.later hq)); (have KHR0 := Lib.hid (Cd.later D1HR0.out hq)); (have KHR1 := Lib.hid (Cd.later D1HR1.out hq)); (have Kw0_O := Lib.hid (Cd.ow_later D1w0_O.out hq)); (have KLx0 := Lib.hid (D1Lx0.out.later hq)); (have KLx1 := Lib.hid (D1Lx1.out.later hq)); (have Kx0_M := Lib.hid (Cd.ow_later D1x0_M.out hq)); (have Kx1_M := Lib.hid (Cd.ow_later D1x1_M.out hq)); (have Kg0_M := Lib.hid (Cd.ow_later D1g0_M.out hq)); clear hq tow tnd))
          all_goals
            go_wp2_with fail
            go_meet
            exact ⟨ra, rc, rf, rfl, by omega, Cd.ow_base _ HRO.out (by omega), HRN.out, KHB.out, KLB0.out, KLB1.out, KHR0.out, KHR1.out, Kw0_O.out, KLx0.out, KLx1.out, Kx0_M.out, Kx1_M.out, Kg0_M.out⟩
        case rest =>
          obtain ⟨y0_a, y0_c, y0_f, rfl, zW15, cO, cN, c_HB, c_LB0, c_LB1, c_HR0, c_HR1, c_w0_O, c_Lx0, c_Lx1, c_x0_M, c_x1_M, c_g0_M⟩ := hcut
          clear HB LB0 LB1 HR0 HR1 w0_O Lx0 Lx1 x0_M x1_M g0_M
          have HB := Lib.hid c_HB
          have LB0 := Lib.hid c_LB0
          have LB1 := Lib.hid c_LB1
          have HR0 := Lib.hid c_HR0
          have HR1 := Lib.hid c_HR1
          have w0_O := Lib.hid c_w0_O
          have Lx0 := Lib.hid c_Lx0
          have Lx1 := Lib.hid c_Lx1
          have x0_M := Lib.hid c_x0_M
          have x1_M := Lib.hid c_x1_M
          have g0_M := Lib.hid c_g0_M
          clear c_HB c_LB0 c_LB1 c_HR0 c_HR1 c_w0_O c_Lx0 c_Lx1 c_x0_M c_x1_M c_g0_M
          have y0_O := Lib.hid cO
          have y0_N := Lib.hid cN
          have y0_B := Lib.hid (bound_of cO)
          clear cO cN
          generalize wc = W15 at *
          go_wp2_with fail
          refine (eq_i _ _ R0 _ _ W15 (rowC.ow_rd y0_O.out) (rowC.ow_rd w0_O.out)).mono ?_
          rintro e W16 ⟨rfl, hbx⟩
          replace HB := Lib.hid (below_then HB.out hbx)
          replace LB0 := Lib.hid (LB0.out.later hbx)
          replace LB1 := Lib.hid (LB1.out.later hbx)
          replace HR0 := Lib.hid (Cd.later HR0.out hbx)
          replace HR1 := Lib.hid (Cd.later HR1.out hbx)
          replace w0_O := Lib.hid (Cd.ow_later w0_O.out hbx)
          replace Lx0 := Lib.hid (Lx0.out.later hbx)
          replace Lx1 := Lib.hid (Lx1.out.later hbx)
          replace x0_M := Lib.hid (Cd.ow_later x0_M.out hbx)
          replace x1_M := Lib.hid (Cd.ow_later x1_M.out hbx)
          replace g0_M := Lib.hid (Cd.ow_later g0_M.out hbx)
          replace y0_O := Lib.hid (Cd.ow_later y0_O.out hbx)
          have zW16 := hbx.size
          clear hbx
          go_wp2_with fail
          have HHD := Lib.hid (held_i _ R0.length _ 1 W16 (rowC.ow_rd g0_M.out) HW0.out (by omega))
          rw [Hmm.out] at HHD
          refine HHD.out.mono ?_
          rintro e W17 ⟨rfl, hbx⟩
          replace HB := Lib.hid (below_then HB.out hbx)
          replace LB0 := Lib.hid (LB0.out.later hbx)
          replace LB1 := Lib.hid (LB1.out.later hbx)
          replace HR0 := Lib.hid (Cd.later HR0.out hbx)
          replace HR1 := Lib.hid (Cd.later HR1.out hbx)
          replace w0_O := Lib.hid (Cd.ow_later w0_O.out hbx)
          replace Lx0 := Lib.hid (Lx0.out.later hbx)
          replace Lx1 := Lib.hid (Lx1.out.later hbx)
          replace x0_M := Lib.hid (Cd.ow_later x0_M.out hbx)
          replace x1_M := Lib.hid (Cd.ow_later x1_M.out hbx)
          replace g0_M := Lib.hid (Cd.ow_later g0_M.out hbx)
          replace y0_O := Lib.hid (Cd.ow_later y0_O.out hbx)
          have zW17 := hbx.size
          clear hbx
          go_wp2_with fail
          go_ret
          exact ⟨rfl, HB.out⟩
end Go.Proofs.Ytnoennmhifmolaa.WalkDependencyViolation
