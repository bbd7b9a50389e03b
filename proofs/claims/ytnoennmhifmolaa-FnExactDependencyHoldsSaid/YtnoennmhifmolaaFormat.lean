/- Decimal formatting: the model's and the program's functions give the same digits. -/
import Derived.Test.YtnoennmhifmolaaRows
import Derived.Test.YtnoennmhifmolaaByt
import Derived.Lib.ItoaNum
import Derived.WalkKit
import Derived.WalkSpells
import Derived.WalkLawsBesides
import Derived.Lib.Hide
namespace Go.Proofs.Ytnoennmhifmolaa.Format
open Go Go.RowKit Byt
open Go.Lib (decDigits nDigits nDigits_small nDigits_big decDigits_length itoa)

/-- The digits of u; none for 0. -/
def D (u : Nat) : List UInt8 := if u = 0 then [] else decDigits u

theorem D_zero : D 0 = [] := rfl
theorem D_pos {u : Nat} (h : 0 < u) : D u = D (u / 10) ++ [UInt8.ofNat (48 + u % 10)] := by
  unfold D
  rw [if_neg (by omega), decDigits]
  by_cases h1 : u < 10
  · rw [dif_pos h1, if_pos (by omega), Nat.mod_eq_of_lt h1]
    rfl
  · rw [dif_neg h1, if_neg (by omega)]

theorem nDigits_le (k : Nat) : ∀ u, u < 10 ^ (k + 1) → nDigits u ≤ k + 1 := by
  induction k with
  | zero => intro u h; rw [nDigits_small (by omega)]; omega
  | succ k ih =>
    intro u h
    by_cases h1 : u < 10
    · rw [nDigits_small h1]; omega
    · rw [nDigits_big h1]
      have := ih (u / 10) (Nat.div_lt_of_lt_mul (by rw [Nat.pow_succ] at h; omega))
      omega

theorem digits_len {n : Nat} (h : n ≤ 9223372036854775808) : (decDigits n).length ≤ 19 := by
  rw [decDigits_length]
  exact nDigits_le 18 n (by omega)

theorem len_of {l : List UInt8} {u n : Nat} (h : D u ++ l = decDigits n) (hn : n ≤ 9223372036854775808) : l.length ≤ 19 := by
  have := digits_len hn
  rw [← h, List.length_append] at this
  omega

theorem step {l : List UInt8} {u n : Nat} (h : D u ++ l = decDigits n) (hu : 0 < u) : D (u / 10) ++ ([UInt8.ofNat (48 + u % 10)] ++ l) = decDigits n := by
  rw [← h, D_pos hu, List.append_assoc]

theorem str_cons (d : Nat) (l : List UInt8) : Value.string (⟨#[48 + UInt8.ofNat d]⟩ ++ ⟨l.toArray⟩) = .string ⟨([UInt8.ofNat (48 + d)] ++ l).toArray⟩ := by
  simp [ByteArray.mk_append_mk]

theorem start {n : Nat} (h : 0 < n) : D n ++ [] = decDigits n := by
  unfold D
  rw [if_neg (by omega), List.append_nil]

theorem itoa_zero : itoa 0 = [48] := by
  show decDigits 0 = [48]
  rw [decDigits]
  rfl

theorem neg_mod (u : Nat) : (-(u : Int)).tmod 10 = -((u : Int) % 10) := by
  rw [Int.neg_tmod, Int.tmod_eq_emod_of_nonneg (by omega)]
theorem neg_div (u : Nat) : (-(u : Int)).tdiv 10 = -((u : Int) / 10) := by
  rw [Int.neg_tdiv, Int.tdiv_eq_ediv_of_nonneg (by omega)]


end Go.Proofs.Ytnoennmhifmolaa.Format
