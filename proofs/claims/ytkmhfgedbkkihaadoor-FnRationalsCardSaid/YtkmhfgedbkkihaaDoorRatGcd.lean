/- Greatest common divisors: the model's and the program's functions. -/
import Derived.Test.YtkmhfgedbkkihaaDoorRows
import Derived.Test.YtkmhfgedbkkihaaDoorRatio
import Derived.Test.YtkmhfgedbkkihaaDoorFixed
import Derived.WalkKit
import Derived.WalkSpells
import Derived.WalkLawsBesides
import Derived.Lib.Hide
import Derived.Deep.QuietTactic
import Derived.BigQuiet
namespace Go.Proofs.YtkmhfgedbkkihaaDoor.RatGcd
open Go Go.RowKit Byt Ratio

theorem gcd_step {x y g : Nat} (h : Nat.gcd x y = g) : Nat.gcd y (x % y) = g := by
  rw [← h, Nat.gcd_comm x y, Nat.gcd_rec y x, Nat.gcd_comm]

set_option maxRecDepth 100000 in
theorem spec_gcd (a b : Nat) (w : World) (ha : a ≤ 9223372036854775807) (hb : b ≤ 9223372036854775807) :
    Calls Tryd.prog 30 #[.int .i64 a, .int .i64 b] w fun e w' => e = .returned (.int .i64 (Nat.gcd a b : Nat)) ∧ w = w' := by
  go_enter Tryd.func30, Tryd.ntmps30
  go_wp2
  go_loop [0, 1, 5] (fun p q _ => ∃ x y : Nat, p = .int .i64 x ∧ q = .int .i64 y ∧ x ≤ 9223372036854775807 ∧ y ≤ 9223372036854775807 ∧ Hid (Nat.gcd x y = Nat.gcd a b)) (fun _ q _ => (intOf q).toNat)
  case atStart => exact ⟨a, b, rfl, rfl, ha, hb, rfl⟩
  case round =>
    obtain ⟨x, y, rfl, rfl, hx, hy, hg⟩ := hrel
    by_cases h0 : y = 0
    · subst h0
      go_wp2
      go_ret
      have := hg.out
      rw [Nat.gcd_zero_right] at this
      exact ⟨ret_int (by rw [this]), rfl⟩
    · have hn : ((y : Int) != 0) = true := by rw [bne_iff_ne]; omega
      have hpos : 0 < y := by omega
      have hlt := Nat.mod_lt x hpos
      clear h0
      go_wp2
      go_round
      case rel => exact ⟨y, x % y, rfl, by go_num, hy, by omega, gcd_step hg.out⟩
      case measure => simp [intOf]; omega

theorem spec_gcdI (a b : Int) (w : World) (ha : 0 ≤ a ∧ a ≤ 9223372036854775807) (hb : 0 ≤ b ∧ b ≤ 9223372036854775807) :
    Calls Tryd.prog 30 #[.int .i64 a, .int .i64 b] w fun e w' => e = .returned (.int .i64 (Int.gcd a b : Nat)) ∧ w = w' := by
  obtain ⟨x, rfl⟩ := Int.eq_ofNat_of_zero_le ha.1
  obtain ⟨y, rfl⟩ := Int.eq_ofNat_of_zero_le hb.1
  have e : Int.gcd (x : Int) (y : Int) = Nat.gcd x y := by unfold Int.gcd; rw [Int.natAbs_natCast, Int.natAbs_natCast]
  rw [e]
  exact spec_gcd x y w (by omega) (by omega)

theorem gcd_stepI {x y : Int} {g : Nat} (h : Int.gcd x y = g) : Int.gcd y (x.tmod y) = g := by
  unfold Int.gcd at h ⊢
  rw [Int.natAbs_tmod]
  exact gcd_step h

set_option maxRecDepth 100000 in
theorem impl_gcd (a b : Int) (w : World) (ha : -9223372036854775807 ≤ a ∧ a ≤ 9223372036854775807) (hb : -9223372036854775807 ≤ b ∧ b ≤ 9223372036854775807) :
    Calls Tryd.prog 49 #[.int .i64 a, .int .i64 b] w fun e w' => e = .returned (.int .i64 (Int.gcd a b : Nat)) ∧ Below w.heap.size w w' := by
  go_enter Tryd.func49, Tryd.ntmps49
  go_wp2
  go_loopw [0, 1] (fun p q wr => ∃ x y : Int, p = .int .i64 x ∧ q = .int .i64 y ∧ (-9223372036854775807 ≤ x ∧ x ≤ 9223372036854775807) ∧ (-9223372036854775807 ≤ y ∧ y ≤ 9223372036854775807) ∧ Hid (Int.gcd x y = Int.gcd a b) ∧ Below w.heap.size w wr) (fun _ q _ => (intOf q).natAbs)
  case atStart => exact ⟨a, b, rfl, rfl, ha, hb, rfl, Below.refl _ _⟩
  case round =>
    obtain ⟨x, y, rfl, rfl, ⟨hx1, hx2⟩, ⟨hy1, hy2⟩, hg, hbl⟩ := hrel
    by_cases h0 : y = 0
    · subst h0
      have hmax : max x (-x) = (Int.gcd a b : Nat) := by
        have := hg.out
        rw [Int.gcd_zero_right] at this
        rw [← this]
        omega
      have HM := Lib.hid hmax
      clear hmax
      go_wp2
      all_goals
        go_ret
        exact ⟨ret_int (by have := HM.out; omega), hbl⟩
    · have hn : (y != 0) = true := by rw [bne_iff_ne]; omega
      have hn2 : (y == 0) = false := by rw [beq_eq_false_iff_ne]; omega
      have HLT := Lib.hid (show (x.tmod y).natAbs < y.natAbs by rw [Int.natAbs_tmod]; exact Nat.mod_lt _ (by omega))
      go_wp2
      go_quiet (fail)
      go_roundw
      case rel =>
        have := HLT.out
        exact ⟨_, _, _, _, _, _, _, _, ⟨y, x.tmod y, rfl, rfl, ⟨hy1, hy2⟩, ⟨by omega, by omega⟩, gcd_stepI hg.out, ⟨hbl.os, hbl.tape, hbl.output, hbl.size, hbl.block⟩⟩, rfl⟩
      case measure => simp only [intOf]; exact HLT.out
end Go.Proofs.YtkmhfgedbkkihaaDoor.RatGcd
