/- The walk of the exact law on ParseInclusion, out of the two functions' contracts. -/
import Derived.Test.YthnphlgkkfdnlaaDoorExact
import Derived.Test.YthnphlgkkfdnlaaDoorInc
namespace Go.Proofs.YthnphlgkkfdnlaaDoor.WalkParseInclusion
open Go Go.RowKit Byt Ints IntsLaw Cd Rows2 Tab TabSpec Exact Inc
set_option maxRecDepth 100000 in
set_option maxHeartbeats 1600000 in
theorem walk (a0 : ByteArray) (n0 : ByteArray) (ka0 : Int) (m0 : ByteArray) (kb0 : Int) (B0 : Bool) (w : World) (hs0 : a0.size ≤ maxLen)
    (HS : ∀ w' : World, Below w.heap.size w w' → Calls Tryd.prog 17 #[.string a0] w' fun e w'' => e = .returned (.tuple #[.agg #[.string n0, .int .i64 ka0, .string m0, .int .i64 kb0], .bool B0]) ∧ Below w'.heap.size w' w'')
    (HI : ∀ w' : World, Below w.heap.size w w' → Calls Tryd.prog 15 #[.string a0] w' fun e w'' => e = .returned (.tuple #[.agg #[.string n0, .int .i64 ka0, .string m0, .int .i64 kb0], .bool B0]) ∧ Below w'.heap.size w' w'') :
    Calls Tryd.prog 4 #[.string a0] w fun e w' => e = .returned (.bool true) ∧ Below w.heap.size w w' := by
  have HSh := Lib.hid HS
  have HIh := Lib.hid HI
  have HB := Lib.hid (Below.refl w.heap.size w)
  clear HS HI
  unfold maxLen at hs0
  by_cases hb0 : 1048576 < a0.size
  · go_enter Tryd.func4, Tryd.ntmps4
    go_wp2_with fail
    go_ret
    exact ⟨rfl, Below.refl _ _⟩
  go_enter Tryd.func4, Tryd.ntmps4
  go_wp2_with fail
  refine (HSh.out w HB.out).mono ?_
  rintro e W1 ⟨rfl, hb1⟩
  replace HB := Lib.hid (below_then HB.out hb1)
  clear hb1
  go_wp2_with fail
  generalize hW : W1.alloc _ = W2
  obtain ⟨r0, z0, hb2⟩ := start1 W1 _ hW
  have L0 := Lib.hid (Loc4.of r0)
  replace HB := Lib.hid (below_then HB.out hb2)
  clear r0 hb2 z0 hW
  refine (HIh.out W2 HB.out).mono ?_
  rintro e W3 ⟨rfl, hb3⟩
  replace L0 := Lib.hid (L0.out.later hb3)
  replace HB := Lib.hid (below_then HB.out hb3)
  clear hb3
  go_upto_region 5 with fail
  generalize hW : W3.alloc _ = W4
  obtain ⟨r0, z0, hb4⟩ := start1 W3 _ hW
  have L1 := Lib.hid (Loc4.of r0)
  replace L0 := Lib.hid (L0.out.later hb4)
  replace HB := Lib.hid (below_then HB.out hb4)
  clear r0 hb4 z0 hW
  have y0 := L0.out.c0
  have y1 := L0.out.c1
  have y2 := L0.out.c2
  have y3 := L0.out.c3
  have x0 := L1.out.c0
  have x1 := L1.out.c1
  have x2 := L1.out.c2
  have x3 := L1.out.c3
  go_wp2_with fail
  refine (eq_inc n0 ka0 m0 kb0 W4).mono ?_
  rintro e W5 ⟨rfl, hb5⟩
  replace HB := Lib.hid (below_then HB.out hb5)
  clear hb5 x0 x1 x2 x3 y0 y1 y2 y3
  have tb1 : (B0 != B0) = false := by simp
  have tb2 : decide (B0 = B0) = true := by simp
  have tb3 : (B0 == B0) = true := by simp
  go_wp2_with fail
  go_ret
  exact ⟨rfl, HB.out⟩
end Go.Proofs.YthnphlgkkfdnlaaDoor.WalkParseInclusion
