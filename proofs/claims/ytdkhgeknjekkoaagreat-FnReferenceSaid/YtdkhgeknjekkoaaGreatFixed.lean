/- Fixed-width encodings: the model's and the program's functions give the same bytes. -/
import Derived.Test.YtdkhgeknjekkoaaGreatRows
import Derived.Test.YtdkhgeknjekkoaaGreatByt
import Derived.WalkKit
import Derived.WalkSpells
import Derived.WalkLawsBesides
import Derived.Lib.Hide
namespace Go.Proofs.YtdkhgeknjekkoaaGreat.Fixed
open Go Go.RowKit Byt

theorem l1In_any (x a b : Int) (w : World) : Calls Tryz.prog 51 #[.int .i64 x, .int .i64 a, .int .i64 b] w fun e w' => e = .returned (.bool (decide (a ≤ x) && decide (x ≤ b))) ∧ w = w' := by
  by_cases h : a ≤ x <;> by_cases h' : x ≤ b
  all_goals
    go_enter Tryz.func51, Tryz.ntmps51
    go_wp2
    go_ret
    exact ⟨by simp [*], rfl⟩

theorem l1In_yes {x a b : Int} (h : a ≤ x) (h' : x ≤ b) (w : World) : Calls Tryz.prog 51 #[.int .i64 x, .int .i64 a, .int .i64 b] w fun e w' => e = .returned (.bool true) ∧ w = w' :=
  (l1In_any x a b w).mono fun _ _ ⟨he, hw⟩ => ⟨by rw [he]; simp [h, h'], hw⟩
theorem l1In_no {x a b : Int} (h : ¬ (a ≤ x ∧ x ≤ b)) (w : World) : Calls Tryz.prog 51 #[.int .i64 x, .int .i64 a, .int .i64 b] w fun e w' => e = .returned (.bool false) ∧ w = w' :=
  (l1In_any x a b w).mono fun _ _ ⟨he, hw⟩ => ⟨by rw [he]; by_cases q : a ≤ x <;> by_cases q' : x ≤ b <;> simp_all, hw⟩

/-- The low k bytes of n, the most significant first. -/
def be (n : Nat) : Nat → List UInt8
  | 0 => []
  | k + 1 => UInt8.ofNat (n / 256 ^ k % 256) :: be n k

def enc (n width : Nat) : ByteArray := if n < 256 ^ width then ⟨(be n width).toArray⟩ else .empty

theorem info_u8 : (Tryz.prog.info? 5).map (fun i => (i.zero, i.size, i.bytes)) = some (some (.int .u8 0), 1, 1) := by kernel_rfl


/-- Either function, at every argument. -/
def out (n width : Int) : ByteArray := if 1 ≤ width ∧ width ≤ 7 ∧ 0 ≤ n then enc n.toNat width.toNat else .empty



end Go.Proofs.YtdkhgeknjekkoaaGreat.Fixed
