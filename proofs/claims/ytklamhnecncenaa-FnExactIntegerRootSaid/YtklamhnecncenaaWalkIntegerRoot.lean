/- The walk of the exact law on IntegerRoot, out of the two functions' contracts. -/
import Derived.Test.YtklamhnecncenaaExact
import Derived.Deep.DeepCutAuto
namespace Go.Proofs.Ytklamhnecncenaa.WalkIntegerRoot
open Go Go.RowKit Byt Ints IntsLaw Cd Rows2 Tab TabSpec Exact
set_option maxRecDepth 100000 in
set_option maxHeartbeats 6400000 in
theorem walk (a0 : Int) (a1 : Int) (B0 : Int) (w : World) 
    (HS : ∀ (w' : World), Calls Try.prog 29 #[.int .i64 a0, .int .i64 a1] w' fun e w'' => e = .returned (.int .i64 B0) ∧ Below w'.heap.size w' w'')
    (HI : ∀ (w' : World), Calls Try.prog 27 #[.int .i64 a0, .int .i64 a1] w' fun e w'' => e = .returned (.int .i64 B0) ∧ Below w'.heap.size w' w'') :
    Calls Try.prog 6 #[.int .i64 a0, .int .i64 a1] w fun e w' => e = .returned (.bool true) ∧ Below w.heap.size w w' := by
  have HSh := Lib.hid HS
  have HIh := Lib.hid HI
  clear HS HI
  go_enter Try.func6, Try.ntmps6
  have HB := Lib.hid (Below.refl w.heap.size w)
  have HB0 := Lib.hid (show w.heap.size ≤ w.heap.size from HB.out.size)
  have hz0 : w.heap.size ≤ w.heap.size := Nat.le_refl _
  go_wp2_with fail
  refine (HSh.out   w ).mono ?_
  rintro e W1 ⟨rfl, hbx⟩
  replace HB := Lib.hid (below_then HB.out hbx)
  have zW1 := hbx.size
  clear hbx
  go_wp2_with fail
  refine (HIh.out   W1 ).mono ?_
  rintro e W2 ⟨rfl, hbx⟩
  replace HB := Lib.hid (below_then HB.out hbx)
  have zW2 := hbx.size
  clear hbx
  go_wp2_with fail
  go_ret
  exact ⟨rfl, HB.out⟩
end Go.Proofs.Ytklamhnecncenaa.WalkIntegerRoot
