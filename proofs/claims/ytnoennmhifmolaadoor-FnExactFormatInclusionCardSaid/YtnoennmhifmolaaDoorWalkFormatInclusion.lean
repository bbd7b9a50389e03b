/- The walk of the exact law on FormatInclusion, out of the two functions' contracts. -/
import Derived.Test.YtnoennmhifmolaaDoorExact
import Derived.Test.YtnoennmhifmolaaDoorInc
namespace Go.Proofs.YtnoennmhifmolaaDoor.WalkFormatInclusion
open Go Go.RowKit Byt Ints IntsLaw Cd Rows2 Tab TabSpec Exact Inc
set_option maxRecDepth 100000 in
set_option maxHeartbeats 1600000 in
theorem walk (n0 : ByteArray) (ka0 : Int) (m0 : ByteArray) (kb0 : Int) (B0 : ByteArray) (w : World) (hs0 : n0.size ≤ maxLen) (hm0 : m0.size ≤ maxLen)
    (HS : ∀ w' : World, Below w.heap.size w w' → Calls Tryd.prog 18 #[.agg #[.string n0, .int .i64 ka0, .string m0, .int .i64 kb0]] w' fun e w'' => e = .returned (.string B0) ∧ Below w'.heap.size w' w'')
    (HI : ∀ w' : World, Below w.heap.size w w' → Calls Tryd.prog 16 #[.agg #[.string n0, .int .i64 ka0, .string m0, .int .i64 kb0]] w' fun e w'' => e = .returned (.string B0) ∧ Below w'.heap.size w' w'') :
    Calls Tryd.prog 6 #[.agg #[.string n0, .int .i64 ka0, .string m0, .int .i64 kb0]] w fun e w' => e = .returned (.bool true) ∧ Below w.heap.size w w' := by
  have HSh := Lib.hid HS
  have HIh := Lib.hid HI
  clear HS HI
  go_enter Tryd.func6, Tryd.ntmps6
  go_wp2_with fail
  generalize hW : w.alloc _ = W
  obtain ⟨r0, z0, hb0⟩ := start1 w _ hW
  clear hW z0
  have LB := Lib.hid (Loc4.of r0)
  have HB := Lib.hid hb0
  clear r0 hb0
  refine (sz_inc n0 ka0 m0 kb0 1048576 W hs0 hm0 (by omega)).mono ?_
  rintro e W1 ⟨rfl, hb1⟩
  replace LB := Lib.hid (LB.out.later hb1)
  replace HB := Lib.hid (below_then HB.out hb1)
  clear hb1
  by_cases hk : incWt n0 m0 ≤ 1048576
  case neg =>
    rw [left_no hk]
    clear hk
    go_wp2_with fail
    go_ret
    exact ⟨rfl, HB.out⟩
  rw [left_yes hk]
  have hge : ¬ (((1048576 - incWt n0 m0 : Nat) : Int) < 0) := by omega
  clear hk
  generalize 1048576 - incWt n0 m0 = left at *
  have y0 := LB.out.c0
  have y1 := LB.out.c1
  have y2 := LB.out.c2
  have y3 := LB.out.c3
  go_wp2_with fail
  refine (to_inc n0 ka0 m0 kb0 W1).mono ?_
  rintro e W2 ⟨rfl, hb2⟩
  replace LB := Lib.hid (LB.out.later hb2)
  replace HB := Lib.hid (below_then HB.out hb2)
  clear hb2 y0 y1 y2 y3
  go_wp2_with fail
  refine (HSh.out W2 HB.out).mono ?_
  rintro e W3 ⟨rfl, hb3⟩
  replace LB := Lib.hid (LB.out.later hb3)
  replace HB := Lib.hid (below_then HB.out hb3)
  clear hb3
  have y0 := LB.out.c0
  have y1 := LB.out.c1
  have y2 := LB.out.c2
  have y3 := LB.out.c3
  go_wp2_with fail
  refine (to_inc n0 ka0 m0 kb0 W3).mono ?_
  rintro e W4 ⟨rfl, hb4⟩
  replace HB := Lib.hid (below_then HB.out hb4)
  clear hb4 y0 y1 y2 y3 LB
  go_wp2_with fail
  refine (HIh.out W4 HB.out).mono ?_
  rintro e W5 ⟨rfl, hb5⟩
  replace HB := Lib.hid (below_then HB.out hb5)
  clear hb5
  go_wp2_with fail
  go_ret
  exact ⟨rfl, HB.out⟩
end Go.Proofs.YtnoennmhifmolaaDoor.WalkFormatInclusion
