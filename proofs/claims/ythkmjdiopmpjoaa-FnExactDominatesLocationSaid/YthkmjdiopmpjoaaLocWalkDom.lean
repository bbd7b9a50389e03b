/- The walk of the exact law on DominatesLocation, out of the two functions' contracts. -/
import Derived.Test.YthkmjdiopmpjoaaIntsWalk
namespace Go.Proofs.Ythkmjdiopmpjoaa.LocWalkDom
open Go Go.RowKit Byt Ints IntsLaw IntsWalk
set_option maxRecDepth 100000 in
set_option maxHeartbeats 1600000 in
theorem walk (v1 v2 : Value) (l1 l2 : List Int) (r : Bool) (w : World) (hr1 : RI w v1 l1 w.heap.size) (hr2 : RI w v2 l2 w.heap.size)
    (HS : l1.length ≤ 1048576 → l2.length ≤ 1048576 → ∀ v1 v2 B w', RI w' v1 l1 B → RI w' v2 l2 B → B ≤ w'.heap.size → Calls Try.prog 21 #[v1, v2] w' fun e w'' => e = .returned (.bool r) ∧ Below w'.heap.size w' w'')
    (HI : l1.length ≤ 1048576 → l2.length ≤ 1048576 → ∀ v1 v2 B w', RI w' v1 l1 B → RI w' v2 l2 B → B ≤ w'.heap.size → Calls Try.prog 20 #[v1, v2] w' fun e w'' => e = .returned (.bool r) ∧ Below w'.heap.size w' w'') :
    Calls Try.prog 9 #[v1, v2] w fun e w' => e = .returned (.bool true) ∧ Below w.heap.size w w' := by
  have HR1 := Lib.hid (fun w' (hb : Below w.heap.size w w') => hr1.later hb)
  have HR2 := Lib.hid (fun w' (hb : Below w.heap.size w w') => hr2.later hb)
  have HSh := Lib.hid HS
  have HIh := Lib.hid HI
  clear HS HI
  obtain ⟨a1, cap1, rfl, hlm1, _⟩ := hr1
  obtain ⟨a2, cap2, rfl, hlm2, _⟩ := hr2
  by_cases hbig1 : 1048576 < l1.length
  · go_enter Try.func9, Try.ntmps9
    go_wp2_with fail
    go_ret
    exact ⟨rfl, Below.refl _ _⟩
  by_cases hbig2 : 1048576 < l2.length
  · go_enter Try.func9, Try.ntmps9
    go_wp2_with fail
    go_ret
    exact ⟨rfl, Below.refl _ _⟩
  have HL1 := Lib.hid (show l1.length ≤ 1048576 by omega)
  have HL2 := Lib.hid (show l2.length ≤ 1048576 by omega)
  go_enter Try.func9, Try.ntmps9
  go_wp2_with fail
  refine (to_ints _ l1 w.heap.size w (HR1.out _ (Below.refl _ _)) (Nat.le_refl _) (by have := HL1.out; omega)).mono ?_
  rintro e w1 ⟨c1, rfl, ho1, hb1⟩
  go_wp2_with fail
  refine (to_ints _ l2 w.heap.size w1 (HR2.out _ hb1) hb1.size (by have := HL2.out; omega)).mono ?_
  rintro e w2 ⟨c2, rfl, ho2, hb2⟩
  have K2 := below_then hb1 hb2
  have o1 := ho1.later hb2
  clear hb1 hb2 ho1
  go_wp2_with fail
  refine (HSh.out HL1.out HL2.out c1 c2 w2.heap.size w2 o1.reads ho2.reads (Nat.le_refl _)).mono ?_
  rintro e w3 ⟨rfl, hb3⟩
  have K3 := below_then K2 hb3
  clear K2 hb3 o1 ho2
  go_wp2_with fail
  refine (to_ints _ l1 w.heap.size w3 (HR1.out _ K3) K3.size (by have := HL1.out; omega)).mono ?_
  rintro e w4 ⟨x0, rfl, ho4, hb4⟩
  have K4 := below_then K3 hb4
  clear K3 hb4
  go_wp2_with fail
  refine (to_ints _ l2 w.heap.size w4 (HR2.out _ K4) K4.size (by have := HL2.out; omega)).mono ?_
  rintro e w5 ⟨x1, rfl, ho5, hb5⟩
  have K5 := below_then K4 hb5
  have x5 := ho4.later hb5
  clear K4 hb5 ho4
  go_wp2_with fail
  refine (HIh.out HL1.out HL2.out x0 x1 w5.heap.size w5 x5.reads ho5.reads (Nat.le_refl _)).mono ?_
  rintro e w6 ⟨rfl, hb6⟩
  have K6 := below_then K5 hb6
  have x6 := x5.later hb6
  have y6 := ho5.later hb6
  clear K5 hb6 x5 ho5
  go_wp2_with fail
  refine (to_ints _ l1 w.heap.size w6 (HR1.out _ K6) K6.size (by have := HL1.out; omega)).mono ?_
  rintro e w7 ⟨z1, rfl, ho7, hb7⟩
  have K7 := below_then K6 hb7
  have x7 := x6.later hb7
  have y7 := y6.later hb7
  clear K6 hb7 x6 y6
  go_wp2_with fail
  refine (eq_ints x0 z1 l1 l1 w7.heap.size w7 x7.reads ho7.reads (Nat.le_refl _)).mono ?_
  rintro e w8 ⟨rfl, hb8⟩
  rw [dec_same]
  have K8 := below_then K7 hb8
  have y8 := y7.later hb8
  clear K7 hb8 x7 y7 ho7
  go_wp2_with fail
  refine (to_ints _ l2 w.heap.size w8 (HR2.out _ K8) K8.size (by have := HL2.out; omega)).mono ?_
  rintro e w9 ⟨z2, rfl, ho9, hb9⟩
  have K9 := below_then K8 hb9
  have y9 := y8.later hb9
  clear K8 hb9 y8
  go_wp2_with fail
  refine (eq_ints x1 z2 l2 l2 w9.heap.size w9 y9.reads ho9.reads (Nat.le_refl _)).mono ?_
  rintro e w10 ⟨rfl, hb10⟩
  rw [dec_same]
  have K10 := below_then K9 hb10
  go_wp2_with fail
  go_ret
  exact ⟨rfl, K10⟩
end Go.Proofs.Ythkmjdiopmpjoaa.LocWalkDom
