/- Rational numbers as pairs of integers: what reducing a fraction gives. Over no program. -/
import Derived.WalkKit
namespace Go.Proofs.YtkmhfgedbkkihaaDoor.Ratio
open Go Go.RowKit

/-- Both parts within the limits. -/
def lim (n d : Int) : Bool := decide (-2147483647 ≤ n ∧ n ≤ 2147483647 ∧ 1 ≤ d ∧ d ≤ 2147483647)
/-- A valid rational. -/
def valid (n d : Int) : Bool := decide (-2147483647 ≤ n ∧ n ≤ 2147483647 ∧ 1 ≤ d ∧ d ≤ 2147483647 ∧ Int.gcd n d = 1)
/-- The reduced fraction. -/
def rnum (n d : Int) : Int := if d < 0 then (-n) / (Int.gcd n d : Int) else n / (Int.gcd n d : Int)
def rden (n d : Int) : Int := if d < 0 then (-d) / (Int.gcd n d : Int) else d / (Int.gcd n d : Int)
/-- Is there a valid rational that equals n/d? -/
def mkOk (n d : Int) : Bool := decide (d ≠ 0 ∧ n ≠ -9223372036854775808 ∧ d ≠ -9223372036854775808) && lim (rnum n d) (rden n d)
/-- It, or the zero value. -/
def mkN (n d : Int) : Int := if mkOk n d then rnum n d else 0
def mkD (n d : Int) : Int := if mkOk n d then rden n d else 0

theorem lim_iff {n d : Int} : lim n d = true ↔ (-2147483647 ≤ n ∧ n ≤ 2147483647 ∧ 1 ≤ d ∧ d ≤ 2147483647) := by simp [lim]
theorem lim_no {n d : Int} : lim n d = false ↔ ¬ (-2147483647 ≤ n ∧ n ≤ 2147483647 ∧ 1 ≤ d ∧ d ≤ 2147483647) := by unfold lim; rw [decide_eq_false_iff_not]
theorem valid_iff {n d : Int} : valid n d = true ↔ (-2147483647 ≤ n ∧ n ≤ 2147483647 ∧ 1 ≤ d ∧ d ≤ 2147483647 ∧ Int.gcd n d = 1) := by simp [valid]
theorem valid_no {n d : Int} : valid n d = false ↔ ¬ (-2147483647 ≤ n ∧ n ≤ 2147483647 ∧ 1 ≤ d ∧ d ≤ 2147483647 ∧ Int.gcd n d = 1) := by unfold valid; rw [decide_eq_false_iff_not]

theorem gcd_pos {n d : Int} (h : d ≠ 0) : 0 < Int.gcd n d := Int.gcd_pos_of_ne_zero_right n h

theorem rnum_mul {n d : Int} : rnum n d * (Int.gcd n d : Int) = if d < 0 then -n else n := by
  unfold rnum
  split
  · exact Int.ediv_mul_cancel ((Int.dvd_neg).2 (Int.gcd_dvd_left ..))
  · exact Int.ediv_mul_cancel (Int.gcd_dvd_left ..)
theorem rden_mul {n d : Int} : rden n d * (Int.gcd n d : Int) = if d < 0 then -d else d := by
  unfold rden
  split
  · exact Int.ediv_mul_cancel ((Int.dvd_neg).2 (Int.gcd_dvd_right ..))
  · exact Int.ediv_mul_cancel (Int.gcd_dvd_right ..)

theorem rden_pos {n d : Int} (h : d ≠ 0) : 1 ≤ rden n d := by
  have h1 := rden_mul (n := n) (d := d)
  have h2 := gcd_pos (n := n) h
  have h3 : 0 < (if d < 0 then -d else d) := by split <;> omega
  rw [← h1] at h3
  have := Int.pos_of_mul_pos_left h3 (by omega)
  omega

/-- The reduced fraction is reduced. -/
theorem red_gcd {n d : Int} (h : d ≠ 0) : Int.gcd (rnum n d) (rden n d) = 1 := by
  have h2 := gcd_pos (n := n) h
  have h3 : Int.gcd (rnum n d * (Int.gcd n d : Int)) (rden n d * (Int.gcd n d : Int)) = Int.gcd n d := by
    rw [rnum_mul, rden_mul]
    split <;> simp
  rw [Int.gcd_mul_right, Int.natAbs_natCast] at h3
  have h4 : Int.gcd (rnum n d) (rden n d) * Int.gcd n d = 1 * Int.gcd n d := by rw [h3, Nat.one_mul]
  exact Nat.eq_of_mul_eq_mul_right h2 h4

theorem red_valid {n d : Int} (h : d ≠ 0) : valid (rnum n d) (rden n d) = lim (rnum n d) (rden n d) := by
  have := red_gcd (n := n) h
  unfold valid lim
  congr 1
  simp only [this, and_true]

/-- The same value. -/
theorem red_same {n d : Int} : rnum n d * d = n * rden n d := by
  by_cases h0 : d = 0
  · subst h0
    unfold rden
    simp
  · have h2 := gcd_pos (n := n) h0
    have h1 : (rnum n d * d) * (Int.gcd n d : Int) = (n * rden n d) * (Int.gcd n d : Int) := by
      have a := rnum_mul (n := n) (d := d)
      have b := rden_mul (n := n) (d := d)
      have e1 : (rnum n d * d) * (Int.gcd n d : Int) = (rnum n d * (Int.gcd n d : Int)) * d := by rw [Int.mul_assoc, Int.mul_comm d, Int.mul_assoc]
      have e2 : (n * rden n d) * (Int.gcd n d : Int) = n * (rden n d * (Int.gcd n d : Int)) := Int.mul_assoc ..
      rw [e1, e2, a, b]
      split
      · rw [Int.neg_mul, Int.mul_neg]
      · rfl
    exact Int.eq_of_mul_eq_mul_right (by omega) h1

theorem dvd_of {x y z : Int} (h : x ∣ y * z) (hg : Int.gcd y x = 1) : x ∣ z := by
  have h1 : x.natAbs ∣ y.natAbs * z.natAbs := by
    have := Int.natAbs_dvd_natAbs.2 h
    rwa [Int.natAbs_mul] at this
  exact Int.natAbs_dvd_natAbs.1 (Nat.Coprime.dvd_of_dvd_mul_left (show Nat.Coprime x.natAbs y.natAbs by unfold Nat.Coprime; rw [Nat.gcd_comm]; exact hg) h1)

theorem rnum_bd {n d : Int} (h : d ≠ 0) : (rnum n d).natAbs ≤ n.natAbs := by
  have h1 := rnum_mul (n := n) (d := d)
  have h2 := gcd_pos (n := n) h
  have h3 : (rnum n d).natAbs * Int.gcd n d = n.natAbs := by
    have := congrArg Int.natAbs h1
    rw [Int.natAbs_mul, Int.natAbs_natCast] at this
    rw [this]
    split <;> omega
  rw [← h3]
  exact Nat.le_mul_of_pos_right _ h2
theorem rden_bd {n d : Int} (h : d ≠ 0) : (rden n d).natAbs ≤ d.natAbs := by
  have h1 := rden_mul (n := n) (d := d)
  have h2 := gcd_pos (n := n) h
  have h3 : (rden n d).natAbs * Int.gcd n d = d.natAbs := by
    have := congrArg Int.natAbs h1
    rw [Int.natAbs_mul, Int.natAbs_natCast] at this
    rw [this]
    split <;> omega
  rw [← h3]
  exact Nat.le_mul_of_pos_right _ h2

/-- The quotients as Go computes them. -/
theorem quo_neg {n d : Int} (h : d < 0) : -(n.tdiv (Int.gcd n d : Int)) = rnum n d ∧ -(d.tdiv (Int.gcd n d : Int)) = rden n d := by
  unfold rnum rden
  rw [if_pos h, if_pos h, ← Int.neg_tdiv, ← Int.neg_tdiv]
  exact ⟨Int.tdiv_eq_ediv_of_dvd ((Int.dvd_neg).2 (Int.gcd_dvd_left ..)), Int.tdiv_eq_ediv_of_dvd ((Int.dvd_neg).2 (Int.gcd_dvd_right ..))⟩
theorem quo_pos {n d : Int} (h : ¬ d < 0) : n.tdiv (Int.gcd n d : Int) = rnum n d ∧ d.tdiv (Int.gcd n d : Int) = rden n d := by
  unfold rnum rden
  rw [if_neg h, if_neg h]
  exact ⟨Int.tdiv_eq_ediv_of_dvd (Int.gcd_dvd_left ..), Int.tdiv_eq_ediv_of_dvd (Int.gcd_dvd_right ..)⟩

/-- A fraction in lowest terms is determined by its value. -/
theorem unique {a b c d : Int} (hb : 1 ≤ b) (hd : 1 ≤ d) (h1 : Int.gcd a b = 1) (h2 : Int.gcd c d = 1) (h : a * d = c * b) : a = c ∧ b = d := by
  have e1 : b ∣ d := by
    have : b ∣ a * d := ⟨c, by rw [h, Int.mul_comm]⟩
    exact dvd_of this h1
  have e2 : d ∣ b := by
    have : d ∣ c * b := ⟨a, by rw [← h, Int.mul_comm]⟩
    exact dvd_of this h2
  have e : b = d := Int.dvd_antisymm (by omega) (by omega) e1 e2
  subst e
  exact ⟨Int.eq_of_mul_eq_mul_right (by omega) h, rfl⟩

/-- A valid rational is its own reduced fraction. -/
theorem red_valid_self {n d : Int} (h : valid n d = true) : rnum n d = n ∧ rden n d = d := by
  obtain ⟨a, b, c, e, g⟩ := valid_iff.1 h
  unfold rnum rden
  rw [if_neg (by omega), if_neg (by omega), g]
  simp

theorem mk_valid {n d : Int} (h : valid n d = true) : mkOk n d = true ∧ mkN n d = n ∧ mkD n d = d := by
  have h1 := red_valid_self h
  obtain ⟨a, b, c, e, g⟩ := valid_iff.1 h
  have h2 : mkOk n d = true := by
    unfold mkOk
    rw [h1.1, h1.2, lim_iff.2 ⟨a, b, c, e⟩, Bool.and_true]
    exact decide_eq_true ⟨by omega, by omega, by omega⟩
  refine ⟨h2, ?_, ?_⟩
  · unfold mkN; rw [if_pos h2, h1.1]
  · unfold mkD; rw [if_pos h2, h1.2]

theorem mk_ok {n d : Int} (h : mkOk n d = true) : d ≠ 0 ∧ mkN n d = rnum n d ∧ mkD n d = rden n d ∧ lim (rnum n d) (rden n d) = true := by
  have h0 := h
  unfold mkOk at h
  rw [Bool.and_eq_true, decide_eq_true_iff] at h
  exact ⟨h.1.1, by unfold mkN; rw [if_pos h0], by unfold mkD; rw [if_pos h0], h.2⟩
theorem mk_no {n d : Int} (h : mkOk n d = false) : mkN n d = 0 ∧ mkD n d = 0 := by
  unfold mkN mkD
  rw [h]
  exact ⟨rfl, rfl⟩

/-- What is made is valid and has the same value. -/
theorem made_valid {n d : Int} (h : mkOk n d = true) : valid (mkN n d) (mkD n d) = true := by
  obtain ⟨h0, h1, h2, h3⟩ := mk_ok h
  rw [h1, h2, red_valid h0, h3]
theorem made_same {n d : Int} (h : mkOk n d = true) : mkN n d * d = n * mkD n d := by
  obtain ⟨h0, h1, h2, h3⟩ := mk_ok h
  rw [h1, h2, red_same]

theorem zero_invalid (n : Int) : valid n 0 = false := by
  rw [valid_no]
  omega

/-- Made, and the same again: valid. -/
theorem made_is {n d : Int} : (mkOk n d && (mkN n d == n && mkD n d == d)) = valid n d := by
  by_cases h : valid n d = true
  · obtain ⟨h1, h2, h3⟩ := mk_valid h
    simp [h, h1, h2, h3]
  · have hf : valid n d = false := by simpa using h
    rw [hf]
    by_cases hk : mkOk n d = true
    · have := made_valid hk
      by_cases e1 : mkN n d = n
      · by_cases e2 : mkD n d = d
        · rw [e1, e2] at this
          exact absurd this h
        · simp [e2]
      · simp [e1]
    · simp [hk]

/-- Bounds of what is made. -/
theorem mk_bounds (n d : Int) : (-2147483647 ≤ mkN n d ∧ mkN n d ≤ 2147483647) ∧ (0 ≤ mkD n d ∧ mkD n d ≤ 2147483647) := by
  by_cases h : mkOk n d = true
  · obtain ⟨a, b, c, e, _⟩ := valid_iff.1 (made_valid h)
    exact ⟨⟨a, b⟩, by omega, e⟩
  · obtain ⟨a, b⟩ := mk_no (by simpa using h)
    rw [a, b]
    decide

/-- The results of the four operations: what is made of two parts, where both numbers are valid. -/
def opOk (b : Bool) (n d : Int) : Bool := b && mkOk n d
def opN (b : Bool) (n d : Int) : Int := if b then mkN n d else 0
def opD (b : Bool) (n d : Int) : Int := if b then mkD n d else 0

theorem op_yes {b : Bool} (h : b = true) (n d : Int) : opN b n d = mkN n d ∧ opD b n d = mkD n d ∧ opOk b n d = mkOk n d := by
  subst h
  exact ⟨rfl, rfl, rfl⟩
theorem op_no {b : Bool} (h : b = false) (n d : Int) : opN b n d = 0 ∧ opD b n d = 0 ∧ opOk b n d = false := by
  subst h
  exact ⟨rfl, rfl, rfl⟩
theorem op_bounds (b : Bool) (n d : Int) : (-2147483647 ≤ opN b n d ∧ opN b n d ≤ 2147483647) ∧ (0 ≤ opD b n d ∧ opD b n d ≤ 2147483647) := by
  cases b
  · exact ⟨⟨by show (-2147483647 : Int) ≤ 0; decide, by show (0 : Int) ≤ 2147483647; decide⟩, Int.le_refl 0, by show (0 : Int) ≤ 2147483647; decide⟩
  · exact mk_bounds n d

/-- A product of two parts. -/
theorem mul_bd {a b : Int} (ha : -2147483647 ≤ a ∧ a ≤ 2147483647) (hb : -2147483647 ≤ b ∧ b ≤ 2147483647) : -4611686014132420609 ≤ a * b ∧ a * b ≤ 4611686014132420609 := by
  have h1 : a.natAbs * b.natAbs ≤ 2147483647 * 2147483647 := Nat.mul_le_mul (by omega) (by omega)
  have h2 := Int.natAbs_mul a b
  omega

/-- The order of two valid rationals. -/
def cmp (an ad bn bd : Int) : Int := if valid an ad && valid bn bd then (if an * bd < bn * ad then -1 else if bn * ad < an * bd then 1 else 0) else 0

/-- The least integer that is at least n/d. -/
def ceil (n d : Int) : Int := if valid n d then n.tdiv d + (if 0 < n ∧ n.tmod d ≠ 0 then 1 else 0) else 0
end Go.Proofs.YtkmhfgedbkkihaaDoor.Ratio
