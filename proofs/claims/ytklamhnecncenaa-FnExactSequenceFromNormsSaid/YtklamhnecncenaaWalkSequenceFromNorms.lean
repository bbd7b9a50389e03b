/- The walk of the exact law on SequenceFromNorms, out of the two functions' contracts. -/
import Derived.Test.YtklamhnecncenaaExact
import Derived.Deep.DeepCutAuto
namespace Go.Proofs.Ytklamhnecncenaa.WalkSequenceFromNorms
open Go Go.RowKit Byt Ints IntsLaw Cd Rows2 Tab TabSpec Exact
set_option maxRecDepth 100000 in
set_option maxHeartbeats 6400000 in
theorem walk (a0 : Int) (a1 : Int) (R0 : List Int) (w : World) (hw0 : (R0.length ≤ 1048577))
    (HS : ∀ (w' : World), Calls Try.prog 37 #[.int .i64 a0, .int .i64 a1] w' fun e w'' => ∃ u0 f0, e = .returned (u0) ∧ rowC.ow w'' w'.heap.size [u0] R0 f0 ∧ f0.Nodup ∧ Below w'.heap.size w' w'')
    (HI : ∀ (w' : World), Calls Try.prog 20 #[.int .i64 a0, .int .i64 a1] w' fun e w'' => ∃ u0 f0, e = .returned (u0) ∧ rowC.ow w'' w'.heap.size [u0] R0 f0 ∧ f0.Nodup ∧ Below w'.heap.size w' w'') :
    Calls Try.prog 9 #[.int .i64 a0, .int .i64 a1] w fun e w' => e = .returned (.bool true) ∧ Below w.heap.size w w' := by
  have HSh := Lib.hid HS
  have HIh := Lib.hid HI
  clear HS HI
  go_enter Try.func9, Try.ntmps9
  have HB := Lib.hid (Below.refl w.heap.size w)
  have HW0 := Lib.hid (hw0 )
  clear hw0
  have HB0 := Lib.hid (show w.heap.size ≤ w.heap.size from HB.out.size)
  have hz0 : w.heap.size ≤ w.heap.size := Nat.le_refl _
  go_wp2_with fail
  refine (HSh.out   w ).mono ?_
  rintro e W1 ⟨w0_v, w0_f, rfl, w0_o, w0_n, hbx⟩
  obtain ⟨w0_a, w0_c, rfl⟩ := Cd.ow_slice w0_o
  replace HB := Lib.hid (below_then HB.out hbx)
  have zW1 := hbx.size
  clear hbx
  have w0_O := Lib.hid w0_o
  have w0_N := Lib.hid w0_n
  have w0_B := Lib.hid (bound_of w0_o)
  clear w0_o w0_n
  go_wp2_with fail
  refine (HIh.out   W1 ).mono ?_
  rintro e W2 ⟨g0_v, g0_f, rfl, g0_o, g0_n, hbx⟩
  obtain ⟨g0_a, g0_c, rfl⟩ := Cd.ow_slice g0_o
  replace HB := Lib.hid (below_then HB.out hbx)
  replace w0_O := Lib.hid (Cd.ow_later w0_O.out hbx)
  have zW2 := hbx.size
  clear hbx
  have g0_O := Lib.hid g0_o
  have g0_N := Lib.hid g0_n
  have g0_B := Lib.hid (bound_of g0_o)
  clear g0_o g0_n
  go_wp2_with fail
  refine (eq_i _ _ R0 _ _ W2 (rowC.ow_rd g0_O.out) (rowC.ow_rd w0_O.out)).mono ?_
  rintro e W3 ⟨rfl, hbx⟩
  replace HB := Lib.hid (below_then HB.out hbx)
  replace w0_O := Lib.hid (Cd.ow_later w0_O.out hbx)
  replace g0_O := Lib.hid (Cd.ow_later g0_O.out hbx)
  have zW3 := hbx.size
  clear hbx
  go_wp2_with fail
  have HMK := Lib.hid (mark_i _ R0 _ (1) g0_f W3 g0_O.out HW0.out (by omega))
  obtain ⟨mm, hmm⟩ : ∃ kk, 1 + R0.length = kk := ⟨_, rfl⟩
  have bmm : mm ≤ 1048578 := by have := (show R0.length ≤ 1048577 from HW0.out); omega
  rw [hmm] at HMK
  have Hmm := Lib.hid hmm
  clear hmm
  refine HMK.out.mono ?_
  rintro e W4 ⟨rfl, g0_o, ht⟩
  have zW4 := ht.size
  replace HB := Lib.hid (Cd.Touch.below HB.out ht (fun b hb => by have := g0_B.out b hb; have := HB0.out; omega))
  replace w0_O := Lib.hid (Cd.ow_touched w0_O.out ht (fun b hb q => by have := g0_B.out b q; have := w0_B.out b hb; omega))
  have g0_M := Lib.hid g0_o
  clear g0_o ht
  go_wp2_with fail
  have HHD := Lib.hid (held_i _ R0.length _ 1 W4 (rowC.ow_rd g0_M.out) HW0.out (by omega))
  rw [Hmm.out] at HHD
  refine HHD.out.mono ?_
  rintro e W5 ⟨rfl, hbx⟩
  replace HB := Lib.hid (below_then HB.out hbx)
  replace w0_O := Lib.hid (Cd.ow_later w0_O.out hbx)
  replace g0_M := Lib.hid (Cd.ow_later g0_M.out hbx)
  have zW5 := hbx.size
  clear hbx
  go_wp2_with fail
  refine (HIh.out   W5 ).mono ?_
  rintro e W6 ⟨y0_v, y0_f, rfl, y0_o, y0_n, hbx⟩
  obtain ⟨y0_a, y0_c, rfl⟩ := Cd.ow_slice y0_o
  replace HB := Lib.hid (below_then HB.out hbx)
  replace w0_O := Lib.hid (Cd.ow_later w0_O.out hbx)
  replace g0_M := Lib.hid (Cd.ow_later g0_M.out hbx)
  have zW6 := hbx.size
  clear hbx
  have y0_O := Lib.hid y0_o
  have y0_N := Lib.hid y0_n
  have y0_B := Lib.hid (bound_of y0_o)
  clear y0_o y0_n
  go_wp2_with fail
  refine (eq_i _ _ R0 _ _ W6 (rowC.ow_rd y0_O.out) (rowC.ow_rd w0_O.out)).mono ?_
  rintro e W7 ⟨rfl, hbx⟩
  replace HB := Lib.hid (below_then HB.out hbx)
  replace w0_O := Lib.hid (Cd.ow_later w0_O.out hbx)
  replace g0_M := Lib.hid (Cd.ow_later g0_M.out hbx)
  replace y0_O := Lib.hid (Cd.ow_later y0_O.out hbx)
  have zW7 := hbx.size
  clear hbx
  go_wp2_with fail
  have HHD := Lib.hid (held_i _ R0.length _ 1 W7 (rowC.ow_rd g0_M.out) HW0.out (by omega))
  rw [Hmm.out] at HHD
  refine HHD.out.mono ?_
  rintro e W8 ⟨rfl, hbx⟩
  replace HB := Lib.hid (below_then HB.out hbx)
  replace w0_O := Lib.hid (Cd.ow_later w0_O.out hbx)
  replace g0_M := Lib.hid (Cd.ow_later g0_M.out hbx)
  replace y0_O := Lib.hid (Cd.ow_later y0_O.out hbx)
  have zW8 := hbx.size
  clear hbx
  go_wp2_with fail
  go_ret
  exact ⟨rfl, HB.out⟩
end Go.Proofs.Ytklamhnecncenaa.WalkSequenceFromNorms
