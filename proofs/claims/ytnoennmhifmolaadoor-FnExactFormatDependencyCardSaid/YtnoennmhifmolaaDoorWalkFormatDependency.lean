/- The walk of the exact law on FormatDependency, out of the two functions' contracts. -/
import Derived.Test.YtnoennmhifmolaaDoorExact
import Derived.Deep.DeepCutAuto
import Derived.Test.YtnoennmhifmolaaDoorDep
namespace Go.Proofs.YtnoennmhifmolaaDoor.WalkFormatDependency
open Go Go.RowKit Byt Ints IntsLaw Cd Rows2 Tab TabSpec Exact Dep
set_option maxRecDepth 100000 in
set_option maxHeartbeats 6400000 in
theorem walk (n0 : ByteArray) (t0 : Int) (v0 : Value) (l0 : List Int) (B0 : ByteArray) (w : World) (hs0 : n0.size ≤ maxLen) (hr0 : rowC.rd w (· < w.heap.size) [v0] l0)
    (HS : depWt n0 l0 ≤ 1048576 → ∀ (v0 : Value) (S0 : Nat → Prop) (w' : World), Below w.heap.size w w' → rowC.rd w' S0 [v0] l0 → Calls Tryd.prog 20 #[.agg #[.string n0, v0, .int .i64 t0]] w' fun e w'' => e = .returned (.string B0) ∧ Below w'.heap.size w' w'')
    (HI : depWt n0 l0 ≤ 1048576 → ∀ (v0 : Value) (S0 : Nat → Prop) (w' : World), Below w.heap.size w w' → rowC.rd w' S0 [v0] l0 → Calls Tryd.prog 22 #[.agg #[.string n0, v0, .int .i64 t0]] w' fun e w'' => e = .returned (.string B0) ∧ Below w'.heap.size w' w'') :
    Calls Tryd.prog 4 #[.agg #[.string n0, v0, .int .i64 t0]] w fun e w' => e = .returned (.bool true) ∧ Below w.heap.size w w' := by
  have HSh := Lib.hid HS
  have HIh := Lib.hid HI
  clear HS HI
  have HR0 := Lib.hid hr0
  obtain ⟨q0, c0, rfl, hl0, _⟩ := (row_ri hr0).1
  clear hr0
  go_enter Tryd.func4, Tryd.ntmps4
  go_wp2_with fail
  generalize hW0 : w.alloc _ = W0
  obtain ⟨rb0, z0, hb0⟩ := start1 w _ hW0
  have HB := Lib.hid hb0
  have LB0 := Lib.hid (Loc3.of rb0)
  replace HR0 := Lib.hid (Cd.later HR0.out hb0)
  clear hW0 hb0 rb0
  refine (sz_dep n0 t0 _ l0 _ 1048576 W0 hs0 HR0.out (by omega)).mono ?_
  rintro e W0z ⟨rfl, hbz0⟩
  replace HB := Lib.hid (below_then HB.out hbz0)
  replace LB0 := Lib.hid (LB0.out.later hbz0)
  replace HR0 := Lib.hid (Cd.later HR0.out hbz0)
  have zz0 := hbz0.size
  clear hbz0
  by_cases hk0 : depWt n0 l0 ≤ 1048576
  case neg =>
    rw [left_no hk0]
    clear hk0
    go_wp2_with fail
    go_ret
    exact ⟨rfl, HB.out⟩
  rw [left_yes hk0]
  have HL0 := Lib.hid hk0
  have HX0 := Lib.hid (show depWt n0 l0 ≤ 1048576 by have := HL0.out; omega)
  have hge0 : ¬ (((1048576 - depWt n0 l0 : Nat) : Int) < 0) := by omega
  clear hk0
  have HB0 := Lib.hid (show w.heap.size ≤ W0z.heap.size from HB.out.size)
  have hz0 : w.heap.size ≤ W0z.heap.size := HB.out.size
  have y0a := LB0.out.c0
  have y0b := LB0.out.c1
  have y0c := LB0.out.c2
  have y0d := LB0.out.lt
  go_wp2_with fail
  clear y0a y0b y0c y0d
  refine (to_dep n0 t0 _ l0 _ W0z HR0.out (by have := HX0.out; unfold depWt at this; omega)).mono ?_
  rintro e W1 ⟨s0_v, s0_f, rfl, s0_o, s0_n, hbx⟩
  obtain ⟨s0_a, s0_c, rfl⟩ := Cd.ow_slice s0_o
  replace HB := Lib.hid (below_then HB.out hbx)
  replace LB0 := Lib.hid (LB0.out.later hbx)
  replace HR0 := Lib.hid (Cd.later HR0.out hbx)
  have zW1 := hbx.size
  clear hbx
  have s0_O := Lib.hid s0_o
  have s0_N := Lib.hid s0_n
  have s0_B := Lib.hid (bound_of s0_o)
  clear s0_o s0_n
  go_wp2_with fail
  refine (HSh.out HX0.out _ _ W1 HB.out (rowC.ow_rd s0_O.out)).mono ?_
  rintro e W2 ⟨rfl, hbx⟩
  replace HB := Lib.hid (below_then HB.out hbx)
  replace LB0 := Lib.hid (LB0.out.later hbx)
  replace HR0 := Lib.hid (Cd.later HR0.out hbx)
  replace s0_O := Lib.hid (Cd.ow_later s0_O.out hbx)
  have zW2 := hbx.size
  clear hbx
  have y0a := LB0.out.c0
  have y0b := LB0.out.c1
  have y0c := LB0.out.c2
  have y0d := LB0.out.lt
  go_wp2_with fail
  clear y0a y0b y0c y0d
  refine (to_dep n0 t0 _ l0 _ W2 HR0.out (by have := HX0.out; unfold depWt at this; omega)).mono ?_
  rintro e W3 ⟨x0_v, x0_f, rfl, x0_o, x0_n, hbx⟩
  obtain ⟨x0_a, x0_c, rfl⟩ := Cd.ow_slice x0_o
  replace HB := Lib.hid (below_then HB.out hbx)
  replace LB0 := Lib.hid (LB0.out.later hbx)
  replace HR0 := Lib.hid (Cd.later HR0.out hbx)
  have zW3 := hbx.size
  clear hbx
  have x0_O := Lib.hid x0_o
  have x0_N := Lib.hid x0_n
  have x0_B := Lib.hid (bound_of x0_o)
  clear x0_o x0_n
  go_wp2_with fail
  generalize hg : World.alloc W3 _ = W4
  obtain ⟨rg, zW4, hbg⟩ := start1 W3 _ hg
  clear hg
  replace HB := Lib.hid (below_then HB.out hbg)
  replace LB0 := Lib.hid (LB0.out.later hbg)
  replace HR0 := Lib.hid (Cd.later HR0.out hbg)
  replace x0_O := Lib.hid (Cd.ow_later x0_O.out hbg)
  have Lx0 := Lib.hid (Loc3.of rg)
  clear hbg rg
  refine (HIh.out HX0.out _ _ W4 HB.out (rowC.ow_rd x0_O.out)).mono ?_
  rintro e W5 ⟨rfl, hbx⟩
  replace HB := Lib.hid (below_then HB.out hbx)
  replace LB0 := Lib.hid (LB0.out.later hbx)
  replace HR0 := Lib.hid (Cd.later HR0.out hbx)
  replace x0_O := Lib.hid (Cd.ow_later x0_O.out hbx)
  replace Lx0 := Lib.hid (Lx0.out.later hbx)
  have zW5 := hbx.size
  clear hbx
  have y0a := Lx0.out.c0
  have y0b := Lx0.out.c1
  have y0c := Lx0.out.c2
  have y0d := Lx0.out.lt
  have y1a := LB0.out.c0
  have y1b := LB0.out.c1
  have y1c := LB0.out.c2
  have y1d := LB0.out.lt
  go_upto_region 10 with fail
  clear y0a y0b y0c y0d y1a y1b y1c y1d
  go_cut [26] (fun s wx => s = .bool false ∧ W5.heap.size ≤ wx.heap.size ∧ Below w.heap.size w wx ∧ Loc3 wx (w.heap.size) (.string n0) (.slice q0 l0.length c0) (.int .i64 t0) ∧ rowC.rd wx (· < w.heap.size) [.slice q0 l0.length c0] l0 ∧ rowC.ow wx (W2.heap.size) [.slice x0_a l0.length x0_c] l0 x0_f ∧ Loc3 wx (W3.heap.size) (.string n0) (.slice x0_a l0.length x0_c) (.int .i64 t0))
  case first =>
    have HT := Lib.hid (to_dep n0 t0 _ l0 _ W5.drew (rd_drew HR0.out) (by have := HX0.out; unfold depWt at this; omega))
    have y0a := Lx0.out.c0
    have y1a := LB0.out.c0
    have y0b := Lx0.out.c1
    have y1b := LB0.out.c1
    have y0c := Lx0.out.c2
    have y1c := LB0.out.c2
    go_region_law (first | (go_simp; go_at_call 21; refine HT.out.mono ?_; rintro e wq ⟨tv, tf, rfl, tow, tnd, hbq⟩; (have hq := undrew hbq); (have hqz := hq.size); (have GHB := Lib.hid (below_then HB.out hq)); (have GLB0 := Lib.hid (LB0.out.later hq)); (have GHR0 := Lib.hid (Cd.later HR0.out hq)); (have Gx0_O := Lib.hid (Cd.ow_later x0_O.out hq)); (have GLx0 := Lib.hid (Lx0.out.later hq)); (have TO := Lib.hid tow); (have k0a := GLx0.out.c0); (have k0b := GLx0.out.c1); (have k0c := GLx0.out.c2); clear hbq hq tow tnd) | (go_simp; go_at_call 23; refine (eq_dep n0 t0 _ _ l0 _ _ wq (rowC.ow_rd Gx0_O.out) (rowC.ow_rd TO.out)).mono ?_; rintro e wp ⟨rfl, hq2⟩; (have hqz2 := hq2.size); (have KHB := Lib.hid (below_then GHB.out hq2)); (have KLB0 := Lib.hid (GLB0.out.later hq2)); (have KHR0 := Lib.hid (Cd.later GHR0.out hq2)); (have Kx0_O := Lib.hid (Cd.ow_later Gx0_O.out hq2)); (have KLx0 := Lib.hid (GLx0.out.later hq2)); clear hq2))
    all_goals
      go_wp2_with fail
      go_meet
      exact ⟨rfl, by omega, KHB.out, KLB0.out, KHR0.out, Kx0_O.out, KLx0.out⟩
  case rest =>
    obtain ⟨rfl, zW6, c_HB, c_LB0, c_HR0, c_x0_O, c_Lx0⟩ := hcut
    clear HB LB0 HR0 x0_O Lx0
    have HB := Lib.hid c_HB
    have LB0 := Lib.hid c_LB0
    have HR0 := Lib.hid c_HR0
    have x0_O := Lib.hid c_x0_O
    have Lx0 := Lib.hid c_Lx0
    clear c_HB c_LB0 c_HR0 c_x0_O c_Lx0
    generalize wc = W6 at *
    go_wp2_with fail
    go_ret
    exact ⟨rfl, HB.out⟩
end Go.Proofs.YtnoennmhifmolaaDoor.WalkFormatDependency
