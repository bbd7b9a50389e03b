/- The walk of the exact law on ParseDependency, out of the two functions' contracts. -/
import Derived.Test.YtnoennmhifmolaaDoorExact
import Derived.Deep.DeepCutAuto
import Derived.Test.YtnoennmhifmolaaDoorDep
namespace Go.Proofs.YtnoennmhifmolaaDoor.WalkParseDependency
open Go Go.RowKit Byt Ints IntsLaw Cd Rows2 Tab TabSpec Exact Dep
set_option maxRecDepth 100000 in
set_option maxHeartbeats 6400000 in
theorem walk (a0 : ByteArray) (N0 : ByteArray) (K0 : Int) (R0 : List Int) (B1 : Bool) (w : World) (hs0 : a0.size ≤ maxLen) (hw0 : a0.size ≤ 1048576 → (R0.length ≤ 1048577))
    (HS : a0.size ≤ 1048576 → ∀ (w' : World), Below w.heap.size w w' → Calls Tryd.prog 24 #[.string a0] w' fun e w'' => ∃ u0 f0, e = .returned (.tuple #[.agg #[.string N0, u0, .int .i64 K0], .bool B1]) ∧ rowC.ow w'' w'.heap.size [u0] R0 f0 ∧ f0.Nodup ∧ Below w'.heap.size w' w'')
    (HI : a0.size ≤ 1048576 → ∀ (w' : World), Below w.heap.size w w' → Calls Tryd.prog 25 #[.string a0] w' fun e w'' => ∃ u0 f0, e = .returned (.tuple #[.agg #[.string N0, u0, .int .i64 K0], .bool B1]) ∧ rowC.ow w'' w'.heap.size [u0] R0 f0 ∧ f0.Nodup ∧ Below w'.heap.size w' w'') :
    Calls Tryd.prog 5 #[.string a0] w fun e w' => e = .returned (.bool true) ∧ Below w.heap.size w w' := by
  have HSh := Lib.hid HS
  have HIh := Lib.hid HI
  clear HS HI
  unfold maxLen at hs0
  by_cases hb0 : 1048576 < a0.size
  · go_enter Tryd.func5, Tryd.ntmps5
    go_wp2_with fail
    go_ret
    first | exact ⟨rfl, Below.refl _ _⟩ | exact ⟨rfl, below_alloc _ _⟩ | exact ⟨rfl, below_then (below_alloc _ _) (below_alloc _ _)⟩
  have HL0 := Lib.hid (show a0.size ≤ 1048576 by omega)
  go_enter Tryd.func5, Tryd.ntmps5
  have HB := Lib.hid (Below.refl w.heap.size w)
  have HW0 := Lib.hid (hw0 HL0.out)
  clear hw0
  have HB0 := Lib.hid (show w.heap.size ≤ w.heap.size from HB.out.size)
  have hz0 : w.heap.size ≤ w.heap.size := Nat.le_refl _
  go_wp2_with fail
  refine (HSh.out HL0.out  w HB.out ).mono ?_
  rintro e W1 ⟨w0_v, w0_f, rfl, w0_o, w0_n, hbx⟩
  obtain ⟨w0_a, w0_c, rfl⟩ := Cd.ow_slice w0_o
  replace HB := Lib.hid (below_then HB.out hbx)
  have zW1 := hbx.size
  clear hbx
  have w0_O := Lib.hid w0_o
  have w0_N := Lib.hid w0_n
  have w0_B := Lib.hid (bound_of w0_o)
  clear w0_o w0_n
  go_wp2_with fail
  generalize hg : World.alloc W1 _ = W2
  obtain ⟨rg, zW2, hbg⟩ := start1 W1 _ hg
  clear hg
  replace HB := Lib.hid (below_then HB.out hbg)
  replace w0_O := Lib.hid (Cd.ow_later w0_O.out hbg)
  have Lw0 := Lib.hid (Loc3.of rg)
  clear hbg rg
  refine (HIh.out HL0.out  W2 HB.out ).mono ?_
  rintro e W3 ⟨g0_v, g0_f, rfl, g0_o, g0_n, hbx⟩
  obtain ⟨g0_a, g0_c, rfl⟩ := Cd.ow_slice g0_o
  replace HB := Lib.hid (below_then HB.out hbx)
  replace w0_O := Lib.hid (Cd.ow_later w0_O.out hbx)
  replace Lw0 := Lib.hid (Lw0.out.later hbx)
  have zW3 := hbx.size
  clear hbx
  have g0_O := Lib.hid g0_o
  have g0_N := Lib.hid g0_n
  have g0_B := Lib.hid (bound_of g0_o)
  clear g0_o g0_n
  have y0a := Lw0.out.c0
  have y0b := Lw0.out.c1
  have y0c := Lw0.out.c2
  have y0d := Lw0.out.lt
  go_wp2_with fail
  clear y0a y0b y0c y0d
  generalize hg : World.alloc W3 _ = W4
  obtain ⟨rg, zW4, hbg⟩ := start1 W3 _ hg
  clear hg
  replace HB := Lib.hid (below_then HB.out hbg)
  replace w0_O := Lib.hid (Cd.ow_later w0_O.out hbg)
  replace Lw0 := Lib.hid (Lw0.out.later hbg)
  replace g0_O := Lib.hid (Cd.ow_later g0_O.out hbg)
  have Lg0 := Lib.hid (Loc3.of rg)
  clear hbg rg
  refine (eq_dep N0 K0 _ _ R0 _ _ W4 (rowC.ow_rd g0_O.out) (rowC.ow_rd w0_O.out)).mono ?_
  rintro e W5 ⟨rfl, hbx⟩
  replace HB := Lib.hid (below_then HB.out hbx)
  replace w0_O := Lib.hid (Cd.ow_later w0_O.out hbx)
  replace Lw0 := Lib.hid (Lw0.out.later hbx)
  replace g0_O := Lib.hid (Cd.ow_later g0_O.out hbx)
  replace Lg0 := Lib.hid (Lg0.out.later hbx)
  have zW5 := hbx.size
  clear hbx
  have y0a := Lg0.out.c0
  have y0b := Lg0.out.c1
  have y0c := Lg0.out.c2
  have y0d := Lg0.out.lt
  go_wp2_with fail
  clear y0a y0b y0c y0d
  have HMK := Lib.hid (mark_dep N0 K0 _ R0 _ (1) g0_f W5 g0_O.out HW0.out (by omega))
  obtain ⟨mm, hmm⟩ : ∃ kk, 1 + R0.length = kk := ⟨_, rfl⟩
  have bmm : mm ≤ 1048578 := by have := (show R0.length ≤ 1048577 from HW0.out); omega
  rw [hmm] at HMK
  have Hmm := Lib.hid hmm
  clear hmm
  refine HMK.out.mono ?_
  rintro e W6 ⟨rfl, g0_o, ht⟩
  have zW6 := ht.size
  replace HB := Lib.hid (Cd.Touch.below HB.out ht (fun b hb => by have := g0_B.out b hb; have := HB0.out; omega))
  replace w0_O := Lib.hid (Cd.ow_touched w0_O.out ht (fun b hb q => by have := g0_B.out b q; have := w0_B.out b hb; omega))
  replace Lw0 := Lib.hid (Lw0.out.touched ht (fun q => by have := g0_B.out _ q; have := HB0.out; omega))
  replace Lg0 := Lib.hid (Lg0.out.touched ht (fun q => by have := g0_B.out _ q; have := HB0.out; omega))
  have g0_M := Lib.hid g0_o
  clear g0_o ht
  have y0a := Lg0.out.c0
  have y0b := Lg0.out.c1
  have y0c := Lg0.out.c2
  have y0d := Lg0.out.lt
  go_wp2_with fail
  clear y0a y0b y0c y0d
  have HHD := Lib.hid (held_dep N0 K0 _ R0.length _ 1 W6 (rowC.ow_rd g0_M.out) HW0.out (by omega))
  rw [Hmm.out] at HHD
  refine HHD.out.mono ?_
  rintro e W7 ⟨rfl, hbx⟩
  replace HB := Lib.hid (below_then HB.out hbx)
  replace w0_O := Lib.hid (Cd.ow_later w0_O.out hbx)
  replace Lw0 := Lib.hid (Lw0.out.later hbx)
  replace Lg0 := Lib.hid (Lg0.out.later hbx)
  replace g0_M := Lib.hid (Cd.ow_later g0_M.out hbx)
  have zW7 := hbx.size
  clear hbx
  go_wp2_with fail
  refine (HIh.out HL0.out  W7 HB.out ).mono ?_
  rintro e W8 ⟨y0_v, y0_f, rfl, y0_o, y0_n, hbx⟩
  obtain ⟨y0_a, y0_c, rfl⟩ := Cd.ow_slice y0_o
  replace HB := Lib.hid (below_then HB.out hbx)
  replace w0_O := Lib.hid (Cd.ow_later w0_O.out hbx)
  replace Lw0 := Lib.hid (Lw0.out.later hbx)
  replace Lg0 := Lib.hid (Lg0.out.later hbx)
  replace g0_M := Lib.hid (Cd.ow_later g0_M.out hbx)
  have zW8 := hbx.size
  clear hbx
  have y0_O := Lib.hid y0_o
  have y0_N := Lib.hid y0_n
  have y0_B := Lib.hid (bound_of y0_o)
  clear y0_o y0_n
  have y0a := Lw0.out.c0
  have y0b := Lw0.out.c1
  have y0c := Lw0.out.c2
  have y0d := Lw0.out.lt
  go_wp2_with fail
  clear y0a y0b y0c y0d
  generalize hg : World.alloc W8 _ = W9
  obtain ⟨rg, zW9, hbg⟩ := start1 W8 _ hg
  clear hg
  replace HB := Lib.hid (below_then HB.out hbg)
  replace w0_O := Lib.hid (Cd.ow_later w0_O.out hbg)
  replace Lw0 := Lib.hid (Lw0.out.later hbg)
  replace Lg0 := Lib.hid (Lg0.out.later hbg)
  replace g0_M := Lib.hid (Cd.ow_later g0_M.out hbg)
  replace y0_O := Lib.hid (Cd.ow_later y0_O.out hbg)
  have Ly0 := Lib.hid (Loc3.of rg)
  clear hbg rg
  refine (eq_dep N0 K0 _ _ R0 _ _ W9 (rowC.ow_rd y0_O.out) (rowC.ow_rd w0_O.out)).mono ?_
  rintro e W10 ⟨rfl, hbx⟩
  replace HB := Lib.hid (below_then HB.out hbx)
  replace w0_O := Lib.hid (Cd.ow_later w0_O.out hbx)
  replace Lw0 := Lib.hid (Lw0.out.later hbx)
  replace Lg0 := Lib.hid (Lg0.out.later hbx)
  replace g0_M := Lib.hid (Cd.ow_later g0_M.out hbx)
  replace y0_O := Lib.hid (Cd.ow_later y0_O.out hbx)
  replace Ly0 := Lib.hid (Ly0.out.later hbx)
  have zW10 := hbx.size
  clear hbx
  have y0a := Lg0.out.c0
  have y0b := Lg0.out.c1
  have y0c := Lg0.out.c2
  have y0d := Lg0.out.lt
  go_wp2_with fail
  clear y0a y0b y0c y0d
  have HHD := Lib.hid (held_dep N0 K0 _ R0.length _ 1 W10 (rowC.ow_rd g0_M.out) HW0.out (by omega))
  rw [Hmm.out] at HHD
  refine HHD.out.mono ?_
  rintro e W11 ⟨rfl, hbx⟩
  replace HB := Lib.hid (below_then HB.out hbx)
  replace w0_O := Lib.hid (Cd.ow_later w0_O.out hbx)
  replace Lw0 := Lib.hid (Lw0.out.later hbx)
  replace Lg0 := Lib.hid (Lg0.out.later hbx)
  replace g0_M := Lib.hid (Cd.ow_later g0_M.out hbx)
  replace y0_O := Lib.hid (Cd.ow_later y0_O.out hbx)
  replace Ly0 := Lib.hid (Ly0.out.later hbx)
  have zW11 := hbx.size
  clear hbx
  go_wp2_with fail
  go_ret
  exact ⟨rfl, HB.out⟩
end Go.Proofs.YtnoennmhifmolaaDoor.WalkParseDependency
