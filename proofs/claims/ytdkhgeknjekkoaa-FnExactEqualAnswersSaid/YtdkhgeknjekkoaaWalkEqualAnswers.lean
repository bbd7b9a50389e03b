/- The walk of the exact law on EqualAnswers, out of the two functions' contracts. -/
import Derived.Test.YtdkhgeknjekkoaaExact
import Derived.Deep.DeepCutAuto
import Derived.Test.YtdkhgeknjekkoaaMkAns
namespace Go.Proofs.Ytdkhgeknjekkoaa.WalkEqualAnswers
open Go Go.RowKit Byt Ints IntsLaw Cd Rows2 Tab TabSpec Exact Atom AnsC MkAns
set_option maxRecDepth 100000 in
set_option maxHeartbeats 6400000 in
theorem walk (v0 z0 : Value) (l0 : List Int) (m0 : List (List Int)) (v1 z1 : Value) (l1 : List Int) (m1 : List (List Int)) (B0 : Bool) (w : World) (hr0 : ansC.rd w (· < w.heap.size) [v0, z0] (l0, m0)) (hr1 : ansC.rd w (· < w.heap.size) [v1, z1] (l1, m1))
    (HS : ansWt l0 m0 ≤ 1048576 → ansWt l1 m1 ≤ 1048576 → ∀ (v0 z0 : Value) (S0 : Nat → Prop) (v1 z1 : Value) (S1 : Nat → Prop) (w' : World), ansC.rd w' S0 [v0, z0] (l0, m0) → ansC.rd w' S1 [v1, z1] (l1, m1) → Calls Try.prog 11 #[.agg #[v0, z0], .agg #[v1, z1]] w' fun e w'' => e = .returned (.bool B0) ∧ Below w'.heap.size w' w'')
    (HI : ansWt l0 m0 ≤ 1048576 → ansWt l1 m1 ≤ 1048576 → ∀ (v0 z0 : Value) (S0 : Nat → Prop) (v1 z1 : Value) (S1 : Nat → Prop) (w' : World), ansC.rd w' S0 [v0, z0] (l0, m0) → ansC.rd w' S1 [v1, z1] (l1, m1) → Calls Try.prog 12 #[.agg #[v0, z0], .agg #[v1, z1]] w' fun e w'' => e = .returned (.bool B0) ∧ Below w'.heap.size w' w'') :
    Calls Try.prog 4 #[.agg #[v0, z0], .agg #[v1, z1]] w fun e w' => e = .returned (.bool true) ∧ Below w.heap.size w w' := by
  have HSh := Lib.hid HS
  have HIh := Lib.hid HI
  clear HS HI
  have HR0 := Lib.hid hr0
  obtain ⟨q0, c0, q0b, c0b, rfl, rfl, hl0, hm0⟩ := ans_form hr0
  clear hr0
  have HR1 := Lib.hid hr1
  obtain ⟨q1, c1, q1b, c1b, rfl, rfl, hl1, hm1⟩ := ans_form hr1
  clear hr1
  go_enter Try.func4, Try.ntmps4
  go_wp2_with fail
  generalize hW0 : (w.alloc _).alloc _ = W0
  obtain ⟨rb0, rb1, z0, hb0⟩ := start2g w _ _ hW0
  have HB := Lib.hid hb0
  have LB0 := Lib.hid (Loc2.of rb0)
  have LB1 := Lib.hid (Loc2.of rb1)
  replace HR0 := Lib.hid (Cd.later HR0.out hb0)
  replace HR1 := Lib.hid (Cd.later HR1.out hb0)
  clear hW0 hb0 rb0 rb1
  refine (sz_ans _ _ l0 m0 _ 1048576 W0 HR0.out (by omega)).mono ?_
  rintro e W0z ⟨rfl, hbz0⟩
  replace HB := Lib.hid (below_then HB.out hbz0)
  replace LB0 := Lib.hid (LB0.out.later hbz0)
  replace LB1 := Lib.hid (LB1.out.later hbz0)
  replace HR0 := Lib.hid (Cd.later HR0.out hbz0)
  replace HR1 := Lib.hid (Cd.later HR1.out hbz0)
  have zz0 := hbz0.size
  clear hbz0
  by_cases hk0 : ansWt l0 m0 ≤ 1048576
  case neg =>
    rw [left_no hk0]
    clear hk0
    go_wp2_with fail
    go_ret
    exact ⟨rfl, HB.out⟩
  rw [left_yes hk0]
  have HL0 := Lib.hid hk0
  have HX0 := Lib.hid (show ansWt l0 m0 ≤ 1048576 by have := HL0.out; omega)
  have hge0 : ¬ (((1048576 - ansWt l0 m0 : Nat) : Int) < 0) := by omega
  clear hk0
  have y0a := LB1.out.c0
  have y0b := LB1.out.c1
  go_wp2_with fail
  clear y0a y0b
  refine (sz_ans _ _ l1 m1 _ (1048576 - ansWt l0 m0) W0z HR1.out (by omega)).mono ?_
  rintro e W1z ⟨rfl, hbz1⟩
  replace HB := Lib.hid (below_then HB.out hbz1)
  replace LB0 := Lib.hid (LB0.out.later hbz1)
  replace LB1 := Lib.hid (LB1.out.later hbz1)
  replace HR0 := Lib.hid (Cd.later HR0.out hbz1)
  replace HR1 := Lib.hid (Cd.later HR1.out hbz1)
  have zz1 := hbz1.size
  clear hbz1
  by_cases hk1 : ansWt l1 m1 ≤ (1048576 - ansWt l0 m0)
  case neg =>
    rw [left_no hk1]
    clear hk1
    go_wp2_with fail
    go_ret
    exact ⟨rfl, HB.out⟩
  rw [left_yes hk1]
  have HL1 := Lib.hid hk1
  have HX1 := Lib.hid (show ansWt l1 m1 ≤ 1048576 by have := HL1.out; omega)
  have hge1 : ¬ ((((1048576 - ansWt l0 m0) - ansWt l1 m1 : Nat) : Int) < 0) := by omega
  clear hk1
  have HB0 := Lib.hid (show w.heap.size ≤ W1z.heap.size from HB.out.size)
  have hz0 : w.heap.size ≤ W1z.heap.size := HB.out.size
  have y0a := LB0.out.c0
  have y0b := LB0.out.c1
  have y0d := LB0.out.lt
  have y1a := LB1.out.c0
  have y1b := LB1.out.c1
  have y1d := LB1.out.lt
  go_upto_region 8 with fail
  clear y0a y0b y0d y1a y1b y1d
  go_cut [6] (fun s6 wx => s6 = .bool B0 ∧ W1z.heap.size ≤ wx.heap.size ∧ Below w.heap.size w wx ∧ Loc2 wx (w.heap.size) (.slice q0 l0.length c0) (.slice q0b m0.length c0b) ∧ Loc2 wx (w.heap.size + 1) (.slice q1 l1.length c1) (.slice q1b m1.length c1b) ∧ ansC.rd wx (· < w.heap.size) [.slice q0 l0.length c0, .slice q0b m0.length c0b] (l0, m0) ∧ ansC.rd wx (· < w.heap.size) [.slice q1 l1.length c1, .slice q1b m1.length c1b] (l1, m1))
  case first =>
    have y0a := LB0.out.c0
    have y0b := LB0.out.c1
    have y1a := LB1.out.c0
    have y1b := LB1.out.c1
    go_region_law (first | (go_simp; go_at_call_of 8 (Value.agg #[.slice q0 l0.length c0, .slice q0b m0.length c0b]); refine (to_ans _ _ l0 m0 _ W1z.drew (rd_drew HR0.out) (by have := HX0.out; omega)).mono ?_; rintro e wq0 ⟨tv0, tz0, tf0, rfl, tow, tnd, hbq⟩; (have hq := undrew hbq); (have hqz0 := hq.size); (have D0HB := Lib.hid (below_then HB.out hq)); (have D0LB0 := Lib.hid (LB0.out.later hq)); (have D0LB1 := Lib.hid (LB1.out.later hq)); (have D0HR0 := Lib.hid (Cd.later HR0.out hq)); (have D0HR1 := Lib.hid (Cd.later HR1.out hq)); (have D0O0 := Lib.hid tow); (have u01a := D0LB1.out.c0); (have u01b := D0LB1.out.c1); clear hbq hq tow tnd) | (go_simp; go_at_call_of 8 (Value.agg #[.slice q1 l1.length c1, .slice q1b m1.length c1b]); refine (to_ans _ _ l1 m1 _ wq0 D0HR1.out (by have := HX1.out; omega)).mono ?_; rintro e wq1 ⟨tv1, tz1, tf1, rfl, tow, tnd, hbq⟩; (have hq := hbq); (have hqz1 := hq.size); (have D1HB := Lib.hid (below_then D0HB.out hq)); (have D1LB0 := Lib.hid (D0LB0.out.later hq)); (have D1LB1 := Lib.hid (D0LB1.out.later hq)); (have D1HR0 := Lib.hid (Cd.later D0HR0.out hq)); (have D1HR1 := Lib.hid (Cd.later D0HR1.out hq)); (have D1O0 := Lib.hid (Cd.ow_later D0O0.out hq)); (have D1O1 := Lib.hid tow); clear hbq hq tow tnd) | (go_simp; go_at_call 11; refine (HSh.out HX0.out HX1.out _ _ _ _ _ _ wq1 (ansC.ow_rd D1O0.out) (ansC.ow_rd D1O1.out)).mono ?_; rintro e wp ⟨rfl, hq⟩; (have hqzz := hq.size); (have KHB := Lib.hid (below_then D1HB.out hq)); (have KLB0 := Lib.hid (D1LB0.out.later hq)); (have KLB1 := Lib.hid (D1LB1.out.later hq)); (have KHR0 := Lib.hid (Cd.later D1HR0.out hq)); (have KHR1 := Lib.hid (Cd.later D1HR1.out hq)); clear hq))
    all_goals
      go_wp2_with fail
      go_meet
      exact ⟨rfl, by omega, KHB.out, KLB0.out, KLB1.out, KHR0.out, KHR1.out⟩
  case rest =>
    obtain ⟨rfl, zW1, c_HB, c_LB0, c_LB1, c_HR0, c_HR1⟩ := hcut
    clear HB LB0 LB1 HR0 HR1
    have HB := Lib.hid c_HB
    have LB0 := Lib.hid c_LB0
    have LB1 := Lib.hid c_LB1
    have HR0 := Lib.hid c_HR0
    have HR1 := Lib.hid c_HR1
    clear c_HB c_LB0 c_LB1 c_HR0 c_HR1
    generalize wc = W1 at *
    have y0a := LB0.out.c0
    have y0b := LB0.out.c1
    have y0d := LB0.out.lt
    go_wp2_with fail
    clear y0a y0b y0d
    refine (to_ans _ _ l0 m0 _ W1 HR0.out (by have := HX0.out; omega)).mono ?_
    rintro e W2 ⟨x0_v, x0_z, x0_f, rfl, x0_o, x0_n, hbx⟩
    obtain ⟨x0_a, x0_c, x0_b, x0_d, rfl, rfl⟩ := ans_shape x0_o
    replace HB := Lib.hid (below_then HB.out hbx)
    replace LB0 := Lib.hid (LB0.out.later hbx)
    replace LB1 := Lib.hid (LB1.out.later hbx)
    replace HR0 := Lib.hid (Cd.later HR0.out hbx)
    replace HR1 := Lib.hid (Cd.later HR1.out hbx)
    have zW2 := hbx.size
    clear hbx
    have x0_O := Lib.hid x0_o
    have x0_N := Lib.hid x0_n
    have x0_B := Lib.hid (bound_of x0_o)
    clear x0_o x0_n
    have y0a := LB1.out.c0
    have y0b := LB1.out.c1
    have y0d := LB1.out.lt
    go_wp2_with fail
    clear y0a y0b y0d
    generalize hg : World.alloc W2 _ = W3
    obtain ⟨rg, zW3, hbg⟩ := start1 W2 _ hg
    clear hg
    replace HB := Lib.hid (below_then HB.out hbg)
    replace LB0 := Lib.hid (LB0.out.later hbg)
    replace LB1 := Lib.hid (LB1.out.later hbg)
    replace HR0 := Lib.hid (Cd.later HR0.out hbg)
    replace HR1 := Lib.hid (Cd.later HR1.out hbg)
    replace x0_O := Lib.hid (Cd.ow_later x0_O.out hbg)
    have Lx0 := Lib.hid (Loc2.of rg)
    clear hbg rg
    refine (to_ans _ _ l1 m1 _ W3 HR1.out (by have := HX1.out; omega)).mono ?_
    rintro e W4 ⟨x1_v, x1_z, x1_f, rfl, x1_o, x1_n, hbx⟩
    obtain ⟨x1_a, x1_c, x1_b, x1_d, rfl, rfl⟩ := ans_shape x1_o
    replace HB := Lib.hid (below_then HB.out hbx)
    replace LB0 := Lib.hid (LB0.out.later hbx)
    replace LB1 := Lib.hid (LB1.out.later hbx)
    replace HR0 := Lib.hid (Cd.later HR0.out hbx)
    replace HR1 := Lib.hid (Cd.later HR1.out hbx)
    replace x0_O := Lib.hid (Cd.ow_later x0_O.out hbx)
    replace Lx0 := Lib.hid (Lx0.out.later hbx)
    have zW4 := hbx.size
    clear hbx
    have x1_O := Lib.hid x1_o
    have x1_N := Lib.hid x1_n
    have x1_B := Lib.hid (bound_of x1_o)
    clear x1_o x1_n
    have y0a := Lx0.out.c0
    have y0b := Lx0.out.c1
    have y0d := Lx0.out.lt
    go_wp2_with fail
    clear y0a y0b y0d
    generalize hg : World.alloc W4 _ = W5
    obtain ⟨rg, zW5, hbg⟩ := start1 W4 _ hg
    clear hg
    replace HB := Lib.hid (below_then HB.out hbg)
    replace LB0 := Lib.hid (LB0.out.later hbg)
    replace LB1 := Lib.hid (LB1.out.later hbg)
    replace HR0 := Lib.hid (Cd.later HR0.out hbg)
    replace HR1 := Lib.hid (Cd.later HR1.out hbg)
    replace x0_O := Lib.hid (Cd.ow_later x0_O.out hbg)
    replace Lx0 := Lib.hid (Lx0.out.later hbg)
    replace x1_O := Lib.hid (Cd.ow_later x1_O.out hbg)
    have Lx1 := Lib.hid (Loc2.of rg)
    clear hbg rg
    refine (HIh.out HX0.out HX1.out _ _ _ _ _ _ W5 (ansC.ow_rd x0_O.out) (ansC.ow_rd x1_O.out)).mono ?_
    rintro e W6 ⟨rfl, hbx⟩
    replace HB := Lib.hid (below_then HB.out hbx)
    replace LB0 := Lib.hid (LB0.out.later hbx)
    replace LB1 := Lib.hid (LB1.out.later hbx)
    replace HR0 := Lib.hid (Cd.later HR0.out hbx)
    replace HR1 := Lib.hid (Cd.later HR1.out hbx)
    replace x0_O := Lib.hid (Cd.ow_later x0_O.out hbx)
    replace Lx0 := Lib.hid (Lx0.out.later hbx)
    replace x1_O := Lib.hid (Cd.ow_later x1_O.out hbx)
    replace Lx1 := Lib.hid (Lx1.out.later hbx)
    have zW6 := hbx.size
    clear hbx
    have y0a := Lx0.out.c0
    have y0b := Lx0.out.c1
    have y0d := Lx0.out.lt
    have y1a := LB0.out.c0
    have y1b := LB0.out.c1
    have y1d := LB0.out.lt
    go_upto_region 14 with fail
    clear y0a y0b y0d y1a y1b y1d
    go_cut [39] (fun s wx => s = .bool false ∧ W6.heap.size ≤ wx.heap.size ∧ Below w.heap.size w wx ∧ Loc2 wx (w.heap.size) (.slice q0 l0.length c0) (.slice q0b m0.length c0b) ∧ Loc2 wx (w.heap.size + 1) (.slice q1 l1.length c1) (.slice q1b m1.length c1b) ∧ ansC.rd wx (· < w.heap.size) [.slice q0 l0.length c0, .slice q0b m0.length c0b] (l0, m0) ∧ ansC.rd wx (· < w.heap.size) [.slice q1 l1.length c1, .slice q1b m1.length c1b] (l1, m1) ∧ ansC.ow wx (W1.heap.size) [.slice x0_a l0.length x0_c, .slice x0_b m0.length x0_d] (l0, m0) x0_f ∧ Loc2 wx (W2.heap.size) (.slice x0_a l0.length x0_c) (.slice x0_b m0.length x0_d) ∧ ansC.ow wx (W3.heap.size) [.slice x1_a l1.length x1_c, .slice x1_b m1.length x1_d] (l1, m1) x1_f ∧ Loc2 wx (W4.heap.size) (.slice x1_a l1.length x1_c) (.slice x1_b m1.length x1_d))
    case first =>
      have HT := Lib.hid (to_ans _ _ l0 m0 _ W6.drew (rd_drew HR0.out) (by have := HX0.out; omega))
      have y0a := Lx0.out.c0
      have y1a := LB0.out.c0
      have y0b := Lx0.out.c1
      have y1b := LB0.out.c1
      go_region_law (first | (go_simp; go_at_call 8; refine HT.out.mono ?_; rintro e wq ⟨tv, tz, tf, rfl, tow, tnd, hbq⟩; (have hq := undrew hbq); (have hqz := hq.size); (have GHB := Lib.hid (below_then HB.out hq)); (have GLB0 := Lib.hid (LB0.out.later hq)); (have GLB1 := Lib.hid (LB1.out.later hq)); (have GHR0 := Lib.hid (Cd.later HR0.out hq)); (have GHR1 := Lib.hid (Cd.later HR1.out hq)); (have Gx0_O := Lib.hid (Cd.ow_later x0_O.out hq)); (have GLx0 := Lib.hid (Lx0.out.later hq)); (have Gx1_O := Lib.hid (Cd.ow_later x1_O.out hq)); (have GLx1 := Lib.hid (Lx1.out.later hq)); (have TO := Lib.hid tow); (have k0a := GLx0.out.c0); (have k0b := GLx0.out.c1); clear hbq hq tow tnd) | (go_simp; go_at_call 10; refine (eq_ans _ _ _ _ l0 m0 _ _ wq (ansC.ow_rd Gx0_O.out) (ansC.ow_rd TO.out)).mono ?_; rintro e wp ⟨rfl, hq2⟩; (have hqz2 := hq2.size); (have KHB := Lib.hid (below_then GHB.out hq2)); (have KLB0 := Lib.hid (GLB0.out.later hq2)); (have KLB1 := Lib.hid (GLB1.out.later hq2)); (have KHR0 := Lib.hid (Cd.later GHR0.out hq2)); (have KHR1 := Lib.hid (Cd.later GHR1.out hq2)); (have Kx0_O := Lib.hid (Cd.ow_later Gx0_O.out hq2)); (have KLx0 := Lib.hid (GLx0.out.later hq2)); (have Kx1_O := Lib.hid (Cd.ow_later Gx1_O.out hq2)); (have KLx1 := Lib.hid (GLx1.out.later hq2)); clear hq2))
      all_goals
        go_wp2_with fail
        go_meet
        exact ⟨rfl, by omega, KHB.out, KLB0.out, KLB1.out, KHR0.out, KHR1.out, Kx0_O.out, KLx0.out, Kx1_O.out, KLx1.out⟩
    case rest =>
      obtain ⟨rfl, zW7, c_HB, c_LB0, c_LB1, c_HR0, c_HR1, c_x0_O, c_Lx0, c_x1_O, c_Lx1⟩ := hcut
      clear HB LB0 LB1 HR0 HR1 x0_O Lx0 x1_O Lx1
      have HB := Lib.hid c_HB
      have LB0 := Lib.hid c_LB0
      have LB1 := Lib.hid c_LB1
      have HR0 := Lib.hid c_HR0
      have HR1 := Lib.hid c_HR1
      have x0_O := Lib.hid c_x0_O
      have Lx0 := Lib.hid c_Lx0
      have x1_O := Lib.hid c_x1_O
      have Lx1 := Lib.hid c_Lx1
      clear c_HB c_LB0 c_LB1 c_HR0 c_HR1 c_x0_O c_Lx0 c_x1_O c_Lx1
      generalize wc = W7 at *
      have y0a := Lx1.out.c0
      have y0b := Lx1.out.c1
      have y0d := Lx1.out.lt
      have y1a := LB1.out.c0
      have y1b := LB1.out.c1
      have y1d := LB1.out.lt
      go_upto_region 16 with fail
      clear y0a y0b y0d y1a y1b y1d
      go_cut [44] (fun s wx => s = .bool false ∧ W7.heap.size ≤ wx.heap.size ∧ Below w.heap.size w wx ∧ Loc2 wx (w.heap.size) (.slice q0 l0.length c0) (.slice q0b m0.length c0b) ∧ Loc2 wx (w.heap.size + 1) (.slice q1 l1.length c1) (.slice q1b m1.length c1b) ∧ ansC.rd wx (· < w.heap.size) [.slice q0 l0.length c0, .slice q0b m0.length c0b] (l0, m0) ∧ ansC.rd wx (· < w.heap.size) [.slice q1 l1.length c1, .slice q1b m1.length c1b] (l1, m1) ∧ ansC.ow wx (W1.heap.size) [.slice x0_a l0.length x0_c, .slice x0_b m0.length x0_d] (l0, m0) x0_f ∧ Loc2 wx (W2.heap.size) (.slice x0_a l0.length x0_c) (.slice x0_b m0.length x0_d) ∧ ansC.ow wx (W3.heap.size) [.slice x1_a l1.length x1_c, .slice x1_b m1.length x1_d] (l1, m1) x1_f ∧ Loc2 wx (W4.heap.size) (.slice x1_a l1.length x1_c) (.slice x1_b m1.length x1_d))
      case first =>
        have HT := Lib.hid (to_ans _ _ l1 m1 _ W7.drew (rd_drew HR1.out) (by have := HX1.out; omega))
        have y0a := Lx1.out.c0
        have y1a := LB1.out.c0
        have y0b := Lx1.out.c1
        have y1b := LB1.out.c1
        go_region_law (first | (go_simp; go_at_call 8; refine HT.out.mono ?_; rintro e wq ⟨tv, tz, tf, rfl, tow, tnd, hbq⟩; (have hq := undrew hbq); (have hqz := hq.size); (have GHB := Lib.hid (below_then HB.out hq)); (have GLB0 := Lib.hid (LB0.out.later hq)); (have GLB1 := Lib.hid (LB1.out.later hq)); (have GHR0 := Lib.hid (Cd.later HR0.out hq)); (have GHR1 := Lib.hid (Cd.later HR1.out hq)); (have Gx0_O := Lib.hid (Cd.ow_later x0_O.out hq)); (have GLx0 := Lib.hid (Lx0.out.later hq)); (have Gx1_O := Lib.hid (Cd.ow_later x1_O.out hq)); (have GLx1 := Lib.hid (Lx1.out.later hq)); (have TO := Lib.hid tow); (have k0a := GLx1.out.c0); (have k0b := GLx1.out.c1); clear hbq hq tow tnd) | (go_simp; go_at_call 10; refine (eq_ans _ _ _ _ l1 m1 _ _ wq (ansC.ow_rd Gx1_O.out) (ansC.ow_rd TO.out)).mono ?_; rintro e wp ⟨rfl, hq2⟩; (have hqz2 := hq2.size); (have KHB := Lib.hid (below_then GHB.out hq2)); (have KLB0 := Lib.hid (GLB0.out.later hq2)); (have KLB1 := Lib.hid (GLB1.out.later hq2)); (have KHR0 := Lib.hid (Cd.later GHR0.out hq2)); (have KHR1 := Lib.hid (Cd.later GHR1.out hq2)); (have Kx0_O := Lib.hid (Cd.ow_later Gx0_O.out hq2)); (have KLx0 := Lib.hid (GLx0.out.later hq2)); (have Kx1_O := Lib.hid (Cd.ow_later Gx1_O.out hq2)); (have KLx1 := Lib.hid (GLx1.out.later hq2)); clear hq2))
        all_goals
          go_wp2_with fail
          go_meet
          exact ⟨rfl, by omega, KHB.out, KLB0.out, KLB1.out, KHR0.out, KHR1.out, Kx0_O.out, KLx0.out, Kx1_O.out, KLx1.out⟩
      case rest =>
        obtain ⟨rfl, zW8, c_HB, c_LB0, c_LB1, c_HR0, c_HR1, c_x0_O, c_Lx0, c_x1_O, c_Lx1⟩ := hcut
        clear HB LB0 LB1 HR0 HR1 x0_O Lx0 x1_O Lx1
        have HB := Lib.hid c_HB
        have LB0 := Lib.hid c_LB0
        have LB1 := Lib.hid c_LB1
        have HR0 := Lib.hid c_HR0
        have HR1 := Lib.hid c_HR1
        have x0_O := Lib.hid c_x0_O
        have Lx0 := Lib.hid c_Lx0
        have x1_O := Lib.hid c_x1_O
        have Lx1 := Lib.hid c_Lx1
        clear c_HB c_LB0 c_LB1 c_HR0 c_HR1 c_x0_O c_Lx0 c_x1_O c_Lx1
        generalize wc = W8 at *
        go_wp2_with fail
        go_ret
        exact ⟨rfl, HB.out⟩
end Go.Proofs.Ytdkhgeknjekkoaa.WalkEqualAnswers
