/- Fixed-width encodings: the model's and the program's functions give the same bytes. -/
import Derived.Test.YthnphlgkkfdnlaaDoorRows
import Derived.Test.YthnphlgkkfdnlaaDoorByt
import Derived.WalkKit
import Derived.WalkSpells
import Derived.WalkLawsBesides
import Derived.Lib.Hide
namespace Go.Proofs.YthnphlgkkfdnlaaDoor.Fixed
open Go Go.RowKit Byt

theorem l1In_any (x a b : Int) (w : World) : Calls Tryd.prog 24 #[.int .i64 x, .int .i64 a, .int .i64 b] w fun e w' => e = .returned (.bool (decide (a ≤ x) && decide (x ≤ b))) ∧ w = w' := by
  by_cases h : a ≤ x <;> by_cases h' : x ≤ b
  all_goals
    go_enter Tryd.func24, Tryd.ntmps24
    go_wp2
    go_ret
    exact ⟨by simp [*], rfl⟩

theorem l1In_yes {x a b : Int} (h : a ≤ x) (h' : x ≤ b) (w : World) : Calls Tryd.prog 24 #[.int .i64 x, .int .i64 a, .int .i64 b] w fun e w' => e = .returned (.bool true) ∧ w = w' :=
  (l1In_any x a b w).mono fun _ _ ⟨he, hw⟩ => ⟨by rw [he]; simp [h, h'], hw⟩
theorem l1In_no {x a b : Int} (h : ¬ (a ≤ x ∧ x ≤ b)) (w : World) : Calls Tryd.prog 24 #[.int .i64 x, .int .i64 a, .int .i64 b] w fun e w' => e = .returned (.bool false) ∧ w = w' :=
  (l1In_any x a b w).mono fun _ _ ⟨he, hw⟩ => ⟨by rw [he]; by_cases q : a ≤ x <;> by_cases q' : x ≤ b <;> simp_all, hw⟩

/-- The low k bytes of n, the most significant first. -/
def be (n : Nat) : Nat → List UInt8
  | 0 => []
  | k + 1 => UInt8.ofNat (n / 256 ^ k % 256) :: be n k

theorem be_length (n k : Nat) : (be n k).length = k := by
  induction k with
  | zero => rfl
  | succ k ih => simp [be, ih]

def enc (n width : Nat) : ByteArray := if n < 256 ^ width then ⟨(be n width).toArray⟩ else .empty

theorem enc_yes {n k m : Nat} (hm : n / 256 ^ k = m) (h : m = 0) : enc n k = ⟨(be n k).toArray⟩ := by
  subst hm
  unfold enc
  rw [if_pos]
  exact Nat.lt_of_div_eq_zero (Nat.pow_pos (by decide)) h
theorem enc_no {n k m : Nat} (hm : n / 256 ^ k = m) (h : 0 < m) : enc n k = .empty := by
  subst hm
  unfold enc
  rw [if_neg]
  intro q
  rw [Nat.div_eq_of_lt q] at h
  omega





theorem shifted (n width : Nat) : ((n : Int) / 2 ^ (8 * width) != 0) = !decide (n < 256 ^ width) := by
  have e : (2 : Int) ^ (8 * width) = ((256 ^ width : Nat) : Int) := by
    rw [Int.pow_mul, Int.natCast_pow]
    rfl
  rw [e, ← Int.natCast_ediv]
  have hp : 0 < 256 ^ width := Nat.pow_pos (by decide)
  by_cases h : n < 256 ^ width
  · simp [h, Nat.div_eq_of_lt h]
  · have : n / 256 ^ width ≠ 0 := fun q => h (Nat.lt_of_div_eq_zero hp q)
    simp only [h, decide_false, Bool.not_false, bne_iff_ne, ne_eq]
    omega

theorem set_be (n k width : Nat) (hk : k < width) : (List.replicate (width - k) (0 : UInt8) ++ be n k).set (width - 1 - k) (UInt8.ofNat (n / 256 ^ k % 256)) = List.replicate (width - (k + 1)) 0 ++ be n (k + 1) := by
  obtain ⟨j, rfl⟩ : ∃ j, width = k + 1 + j := ⟨width - (k + 1), by omega⟩
  have e1 : k + 1 + j - k = j + 1 := by omega
  have e2 : k + 1 + j - 1 - k = j := by omega
  have e3 : k + 1 + j - (k + 1) = j := by omega
  rw [e1, e2, e3, List.replicate_succ', List.append_assoc, List.set_append_right _ _ (by simp)]
  simp [be]

theorem byte_cast (m : Nat) : (m : Int) % 256 = ((UInt8.ofNat (m % 256)).toNat : Int) := by
  simp


theorem info_u8 : (Tryd.prog.info? 5).map (fun i => (i.zero, i.size, i.bytes)) = some (some (.int .u8 0), 1, 1) := by kernel_rfl


/-- Either function, at every argument. -/
def out (n width : Int) : ByteArray := if 1 ≤ width ∧ width ≤ 7 ∧ 0 ≤ n then enc n.toNat width.toNat else .empty



end Go.Proofs.YthnphlgkkfdnlaaDoor.Fixed
