/- Sums, products and order of valid rationals. Over no program. -/
import Derived.Test.YtkmhfgedbkkihaaDoorRatio
namespace Go.Proofs.YtkmhfgedbkkihaaDoor.RatAlg
open Go Go.RowKit Ratio

theorem op_true {b : Bool} {N D : Int} (h : opOk b N D = true) : b = true ∧ valid (opN b N D) (opD b N D) = true ∧ opN b N D * D = N * opD b N D ∧ D ≠ 0 := by
  cases b
  · cases h
  · have hk : mkOk N D = true := h
    exact ⟨rfl, made_valid hk, made_same hk, (mk_ok hk).1⟩
theorem op_false {b : Bool} {N D : Int} (h : opOk b N D = false) : opN b N D = 0 ∧ opD b N D = 0 := by
  cases b
  · exact ⟨rfl, rfl⟩
  · exact mk_no (show mkOk N D = false from h)

/-- A valid rational of the same value is the same. -/
theorem back {b : Bool} {x y an ad : Int} (hv : valid an ad = true) (h : x * ad = an * y) (hk : opOk b x y = true) : opN b x y = an ∧ opD b x y = ad := by
  obtain ⟨_, h1, h2, h3⟩ := op_true hk
  generalize opN b x y = n at *
  generalize opD b x y = d at *
  obtain ⟨p1, p2, p3, p4, p5⟩ := valid_iff.1 h1
  obtain ⟨q1, q2, q3, q4, q5⟩ := valid_iff.1 hv
  refine unique p3 q3 p5 q5 ?_
  have e : (n * ad) * y = (an * d) * y := by
    have e1 : (n * ad) * y = (n * y) * ad := by rw [Int.mul_assoc, Int.mul_comm ad, Int.mul_assoc]
    have e2 : (x * d) * ad = (x * ad) * d := by rw [Int.mul_assoc, Int.mul_comm d, Int.mul_assoc]
    have e3 : (an * y) * d = (an * d) * y := by rw [Int.mul_assoc, Int.mul_comm y, Int.mul_assoc]
    rw [e1, h2, e2, h, e3]
  exact Int.eq_of_mul_eq_mul_right h3 e

theorem sub_back {an ad bn bd sn sd : Int} (h : sn * (ad * bd) = (an * bd + bn * ad) * sd) : (sn * bd - bn * sd) * ad = an * (sd * bd) := by grind
theorem div_back {an ad bn bd pn pd : Int} (h : pn * (ad * bd) = (an * bn) * pd) : (pn * bd) * ad = an * (pd * bn) := by grind

theorem sgn {x P D Q : Int} (hP : 0 < P) (hQ : 0 < Q) (h : x * P = D * Q) : (x < 0 ↔ D < 0) ∧ (0 < x ↔ 0 < D) := by
  have pos : ∀ {a b : Int}, 0 < a → 0 < b → 0 < a * b := fun ha hb => Int.mul_pos ha hb
  have neg : ∀ {a b : Int}, a < 0 → 0 < b → a * b < 0 := fun ha hb => Int.mul_neg_of_neg_of_pos ha hb
  rcases Int.lt_trichotomy x 0 with hx | hx | hx <;> rcases Int.lt_trichotomy D 0 with hD | hD | hD
  · omega
  · have := neg hx hP; rw [h, hD] at this; simp at this
  · have := neg hx hP; have := pos hD hQ; omega
  · have := neg hD hQ; rw [← h, hx] at this; simp at this
  · omega
  · have := pos hD hQ; rw [← h, hx] at this; simp at this
  · have := pos hx hP; have := neg hD hQ; omega
  · have := pos hx hP; rw [h, hD] at this; simp at this
  · omega

/-- Comparison agrees with subtraction. -/
theorem cmp_sub {an ad bn bd : Int} (hk : opOk (valid an ad && valid bn bd) (an * bd - bn * ad) (ad * bd) = true) :
    (opN (valid an ad && valid bn bd) (an * bd - bn * ad) (ad * bd) < 0 ∧ Ratio.cmp an ad bn bd = -1) ∨ (opN (valid an ad && valid bn bd) (an * bd - bn * ad) (ad * bd) = 0 ∧ Ratio.cmp an ad bn bd = 0) ∨ (0 < opN (valid an ad && valid bn bd) (an * bd - bn * ad) (ad * bd) ∧ Ratio.cmp an ad bn bd = 1) := by
  obtain ⟨hb, h1, h2, h3⟩ := op_true hk
  obtain ⟨ha, hb'⟩ := Bool.and_eq_true_iff.1 hb
  obtain ⟨_, _, a3, _⟩ := valid_iff.1 ha
  obtain ⟨_, _, b3, _⟩ := valid_iff.1 hb'
  obtain ⟨_, _, c3, _⟩ := valid_iff.1 h1
  have hs := sgn (Int.mul_pos (by omega) (by omega) : 0 < ad * bd) (by omega) h2
  generalize opN (valid an ad && valid bn bd) (an * bd - bn * ad) (ad * bd) = x at *
  unfold Ratio.cmp
  rw [if_pos hb]
  by_cases h4 : an * bd < bn * ad
  · rw [if_pos h4]
    exact .inl ⟨hs.1.2 (by omega), rfl⟩
  · rw [if_neg h4]
    by_cases h5 : bn * ad < an * bd
    · rw [if_pos h5]
      exact .inr (.inr ⟨hs.2.2 (by omega), rfl⟩)
    · rw [if_neg h5]
      refine .inr (.inl ⟨?_, rfl⟩)
      have := hs.1
      have := hs.2
      omega

/-- The least integer that is at least n/d. -/
theorem ceil_is {n d : Int} (h : valid n d = true) : n ≤ Ratio.ceil n d * d ∧ (Ratio.ceil n d - 1) * d < n ∧ (-2147483648 ≤ Ratio.ceil n d ∧ Ratio.ceil n d ≤ 2147483648) := by
  obtain ⟨a1, a2, a3, a4, _⟩ := valid_iff.1 h
  unfold Ratio.ceil
  rw [if_pos h]
  by_cases hn : 0 < n
  · rw [Int.tdiv_eq_ediv_of_nonneg (by omega), Int.tmod_eq_emod_of_nonneg (by omega)]
    have e1 := Int.ediv_mul_add_emod n d
    have e2 := Int.emod_nonneg n (show d ≠ 0 by omega)
    have e3 := Int.emod_lt_of_pos n (show 0 < d by omega)
    have e4 : 0 ≤ n / d := Int.ediv_nonneg (by omega) (by omega)
    have e5 : n / d ≤ n := Int.ediv_le_self _ (by omega)
    generalize n / d = q at *
    generalize n % d = r at *
    by_cases hr : r = 0
    · rw [if_neg (by omega), Int.add_zero, Int.sub_mul]
      omega
    · rw [if_pos ⟨hn, hr⟩, Int.add_mul, show q + 1 - 1 = q by omega]
      omega
  · rw [if_neg (by omega), Int.add_zero, Int.sub_mul]
    obtain ⟨m, hm⟩ := Int.eq_ofNat_of_zero_le (show 0 ≤ -n by omega)
    obtain rfl : n = -(m : Int) := by omega
    rw [Int.neg_tdiv, Int.tdiv_eq_ediv_of_nonneg (by omega)]
    have e1 := Int.ediv_mul_add_emod (m : Int) d
    have e2 := Int.emod_nonneg (m : Int) (show d ≠ 0 by omega)
    have e3 := Int.emod_lt_of_pos (m : Int) (show 0 < d by omega)
    have e4 : 0 ≤ (m : Int) / d := Int.ediv_nonneg (by omega) (by omega)
    have e5 : (m : Int) / d ≤ m := Int.ediv_le_self _ (by omega)
    rw [Int.neg_mul]
    omega
end Go.Proofs.YtkmhfgedbkkihaaDoor.RatAlg
