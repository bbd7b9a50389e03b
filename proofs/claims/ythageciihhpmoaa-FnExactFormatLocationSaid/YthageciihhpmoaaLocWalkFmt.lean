/- The walk of the exact law on FormatLocation, out of the two functions' contracts. -/
import Derived.Test.YthageciihhpmoaaIntsWalk
namespace Go.Proofs.Ythageciihhpmoaa.LocWalkFmt
open Go Go.RowKit Byt Ints IntsLaw IntsWalk
set_option maxRecDepth 100000 in
set_option maxHeartbeats 1600000 in
theorem walk (v : Value) (l : List Int) (r : ByteArray) (w : World) (hr : RI w v l w.heap.size)
    (HS : l.length ≤ 1048576 → ∀ v B w', RI w' v l B → B ≤ w'.heap.size → Calls Try.prog 59 #[v] w' fun e w'' => e = .returned (.string r) ∧ Below w'.heap.size w' w'')
    (HI : l.length ≤ 1048576 → ∀ v B w', RI w' v l B → B ≤ w'.heap.size → Calls Try.prog 54 #[v] w' fun e w'' => e = .returned (.string r) ∧ Below w'.heap.size w' w'') :
    Calls Try.prog 12 #[v] w fun e w' => e = .returned (.bool true) ∧ Below w.heap.size w w' := by
  have HR := Lib.hid (fun w' (hb : Below w.heap.size w w') => hr.later hb)
  have HSh := Lib.hid HS
  have HIh := Lib.hid HI
  clear HS HI
  obtain ⟨a, cap, rfl, hlm, _⟩ := hr
  by_cases hbig : 1048576 < l.length
  · go_enter Try.func12, Try.ntmps12
    go_wp2_with fail
    go_ret
    exact ⟨rfl, Below.refl _ _⟩
  have hl : l.length ≤ 1048576 := by omega
  have HL := Lib.hid hl
  go_enter Try.func12, Try.ntmps12
  go_wp2_with fail
  refine (to_ints _ l w.heap.size w (HR.out _ (Below.refl _ _)) (Nat.le_refl _) (by have := HL.out; omega)).mono ?_
  rintro e w1 ⟨v1, rfl, ho1, hb1⟩
  go_wp2_with fail
  refine (HSh.out HL.out v1 w1.heap.size w1 ho1.reads (Nat.le_refl _)).mono ?_
  rintro e w2 ⟨rfl, hb2⟩
  have K2 := below_then hb1 hb2
  clear ho1 hb1 hb2
  go_wp2_with fail
  refine (to_ints _ l w.heap.size w2 (HR.out _ K2) K2.size (by have := HL.out; omega)).mono ?_
  rintro e w3 ⟨x0, rfl, ho3, hb3⟩
  have K3 := below_then K2 hb3
  clear K2 hb3
  go_wp2_with fail
  refine (HIh.out HL.out x0 w3.heap.size w3 ho3.reads (Nat.le_refl _)).mono ?_
  rintro e w4 ⟨rfl, hb4⟩
  have K4 := below_then K3 hb4
  have x4 := ho3.later hb4
  clear K3 hb4 ho3
  go_wp2_with fail
  refine (to_ints _ l w.heap.size w4 (HR.out _ K4) K4.size (by have := HL.out; omega)).mono ?_
  rintro e w5 ⟨y, rfl, ho5, hb5⟩
  have K5 := below_then K4 hb5
  have x5 := x4.later hb5
  clear K4 hb5 x4
  go_wp2_with fail
  refine (eq_ints x0 y l l w5.heap.size w5 x5.reads ho5.reads (Nat.le_refl _)).mono ?_
  rintro e w6 ⟨rfl, hb6⟩
  rw [dec_same]
  have K6 := below_then K5 hb6
  go_wp2_with fail
  go_ret
  exact ⟨rfl, K6⟩
end Go.Proofs.Ythageciihhpmoaa.LocWalkFmt
