/- Sets of small numbers as bits, as lists. Plain. -/
import Derived.Test.YthnphlgkkfdnlaaDoorIntsLaw
import Derived.Test.YthnphlgkkfdnlaaDoorTabSel
import Derived.Test.YthnphlgkkfdnlaaDoorExact
import Derived.Test.YthnphlgkkfdnlaaDoorBit
namespace Go.Proofs.YthnphlgkkfdnlaaDoor.QryMath
open Go Go.RowKit

/-- The bits below k that are set, ascending. -/
def varsTo (s k : Nat) : List Int := ((List.range k).filter fun v => s / 2 ^ v % 2 == 1).map Int.ofNat
def varsL (s : Nat) : List Int := varsTo s 4
theorem varsTo_yes {s k : Nat} (h : s / 2 ^ k % 2 = 1) : varsTo s (k + 1) = varsTo s k ++ [(k : Int)] := by
  unfold varsTo
  rw [List.range_succ, List.filter_append, List.map_append]
  simp [h]
theorem varsTo_no {s k : Nat} (h : ¬ s / 2 ^ k % 2 = 1) : varsTo s (k + 1) = varsTo s k := by
  unfold varsTo
  rw [List.range_succ, List.filter_append, List.map_append]
  simp [h]
theorem varsTo_zero (s : Nat) : varsTo s 0 = [] := rfl
theorem varsL_zero : varsL 0 = [] := by decide
theorem varsTo_len (s k : Nat) : (varsTo s k).length ≤ k := by
  unfold varsTo
  rw [List.length_map]
  exact Nat.le_trans (List.length_filter_le _ _) (by rw [List.length_range]; exact Nat.le_refl _)
theorem inr_varsTo (s k : Nat) (hk : k ≤ 64) : ∀ x ∈ varsTo s k, -9223372036854775808 ≤ x ∧ x ≤ 9223372036854775807 := by
  intro x hx
  unfold varsTo at hx
  obtain ⟨y, hy, rfl⟩ := List.mem_map.1 hx
  have := List.mem_range.1 (List.mem_filter.1 hy).1
  simp only [Int.ofNat_eq_natCast]
  omega

def hasI (l : List Int) (x : Int) : Bool := l.contains x
end Go.Proofs.YthnphlgkkfdnlaaDoor.QryMath
namespace Go.Proofs.YthnphlgkkfdnlaaDoor.QrySpec
open Go Go.RowKit Byt Ints IntsLaw Cd Rows2 Tab TabSpec Exact QryMath

theorem bit_at {s : Nat} (h : s < 16) (k : Nat) : bits .and .i64 ((s : Int) / 2 ^ k) 1 = ((s / 2 ^ k % 2 : Nat) : Int) := by
  have e : ((s : Int) / 2 ^ k) = ((s / 2 ^ k : Nat) : Int) := by push_cast; rfl
  have hd := Nat.div_le_self s (2 ^ k)
  rw [e]
  generalize s / 2 ^ k = d at *
  have h1 := Bit.i64_mask 1 (by decide) (d : Int) (by omega) (by omega)
  rw [show (1 : Int) = 2 ^ 1 - 1 from rfl, h1]
  omega
end Go.Proofs.YthnphlgkkfdnlaaDoor.QrySpec
