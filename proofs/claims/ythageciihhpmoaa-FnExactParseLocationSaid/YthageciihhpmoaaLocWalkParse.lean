/- The walk of the exact law on ParseLocation, out of the two functions' contracts. -/
import Derived.Test.YthageciihhpmoaaIntsWalk
namespace Go.Proofs.Ythageciihhpmoaa.LocWalkParse
open Go Go.RowKit Byt Ints IntsLaw IntsWalk
set_option maxRecDepth 100000 in
set_option maxHeartbeats 1600000 in
theorem walk (s : ByteArray) (Z : List Int) (ok : Bool) (w : World) (hs : s.size ≤ maxLen) (hZ : Z.length ≤ 1048576)
    (HS : s.size ≤ 1048576 → ∀ w', Calls Try.prog 60 #[.string s] w' fun e w'' => ∃ v', e = .returned (.tuple #[v', .bool ok]) ∧ OwnI w'' w'.heap.size 3 v' Z ∧ Below w'.heap.size w' w'')
    (HI : s.size ≤ 1048576 → ∀ w', Calls Try.prog 55 #[.string s] w' fun e w'' => ∃ v', e = .returned (.tuple #[v', .bool ok]) ∧ OwnI w'' w'.heap.size 3 v' Z ∧ Below w'.heap.size w' w'') :
    Calls Try.prog 13 #[.string s] w fun e w' => e = .returned (.bool true) ∧ Below w.heap.size w w' := by
  unfold maxLen at hs
  have HSh := Lib.hid HS
  have HIh := Lib.hid HI
  clear HS HI
  by_cases hbig : s.size > 1048576
  · go_enter Try.func13, Try.ntmps13
    go_wp2_with fail
    go_ret
    exact ⟨rfl, Below.refl _ _⟩
  have HL := Lib.hid (show s.size ≤ 1048576 by omega)
  go_enter Try.func13, Try.ntmps13
  go_wp2_with fail
  refine (HSh.out HL.out _).mono ?_
  rintro e w1 ⟨u, rfl, ho1, hb1⟩
  go_wp2_with fail
  refine (HIh.out HL.out _).mono ?_
  rintro e w2 ⟨g0, rfl, ho2, hb2⟩
  have K2 := below_then hb1 hb2
  have u2 := ho1.later hb2
  have bu : Bk u w.heap.size w1.heap.size := bk_of ho1
  have bg : Bk g0 w1.heap.size w2.heap.size := bk_of ho2
  have s1 := hb1.size
  clear hb1 hb2 ho1
  go_wp2_with fail
  refine (eq_ints g0 u Z Z w2.heap.size w2 ho2.reads u2.reads (Nat.le_refl _)).mono ?_
  rintro e w3 ⟨rfl, hb3⟩
  rw [dec_same]
  have K3 := below_then K2 hb3
  have u3 := u2.later hb3
  have g3 := ho2.later hb3
  clear K2 u2 ho2 hb3
  go_wp2_with fail
  refine (mark_ints g0 Z _ 1 w3 g3 (by omega) (by decide)).mono ?_
  rintro e w4 ⟨rfl, g4, hg4⟩
  have K4 := below_mark K3 hg4 bg (by omega)
  have u4 := kept_mark u3 hg4 (apart bu bg (by omega))
  clear K3 u3 g3 hg4
  go_wp2_with fail
  refine (held_ints g0 Z.length _ 1 w4 g4.reads (by omega) (by decide)).mono ?_
  rintro e w5 ⟨rfl, rfl⟩
  go_wp2_with fail
  refine (HIh.out HL.out _).mono ?_
  rintro e w6 ⟨h0, rfl, ho6, hb6⟩
  have K6 := below_then K4 hb6
  have u6 := u4.later hb6
  have g6 := g4.later hb6
  clear K4 u4 g4 hb6
  go_wp2_with fail
  refine (eq_ints h0 u Z Z w6.heap.size w6 ho6.reads u6.reads (Nat.le_refl _)).mono ?_
  rintro e w7 ⟨rfl, hb7⟩
  rw [dec_same]
  have K7 := below_then K6 hb7
  have g7 := g6.later hb7
  clear K6 u6 g6 hb7 ho6
  go_wp2_with fail
  refine (held_ints g0 Z.length _ 1 w7 g7.reads (by omega) (by decide)).mono ?_
  rintro e w8 ⟨rfl, rfl⟩
  go_wp2_with fail
  go_ret
  exact ⟨rfl, K7⟩
end Go.Proofs.Ythageciihhpmoaa.LocWalkParse
