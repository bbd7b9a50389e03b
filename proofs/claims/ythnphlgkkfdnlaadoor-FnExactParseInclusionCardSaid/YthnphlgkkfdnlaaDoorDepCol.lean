/- Dependencies: the program's questions of columns. -/
import Derived.Test.YthnphlgkkfdnlaaDoorDepMath
import Derived.Test.YthnphlgkkfdnlaaDoorDegCol
import Derived.Test.YthnphlgkkfdnlaaDoorShelf
namespace Go.Proofs.YthnphlgkkfdnlaaDoor.DepImp
open Go Go.RowKit Byt Ints IntsLaw Cd Rows2 Tab TabSpec Exact Dep QryMath DepMath
open DegMath (colsOk)

theorem impl_col (x n : Int) (w : World) : Calls Tryd.prog 26 #[.int .i64 x, .int .i64 n] w fun e w' => e = .returned (.bool (colB x n)) ∧ w = w' := by
  by_cases h1 : 0 ≤ x
  · by_cases h2 : x < n
    · have HZ := Lib.hid (colB_iff.2 ⟨h1, h2⟩)
      go_enter Tryd.func26, Tryd.ntmps26
      go_wp2_with fail
      go_ret
      exact ⟨ret_b HZ.out.symm, rfl⟩
    · have HZ := Lib.hid (show colB x n = false from decide_eq_false fun q => h2 q.2)
      go_enter Tryd.func26, Tryd.ntmps26
      go_wp2_with fail
      go_ret
      exact ⟨ret_b HZ.out.symm, rfl⟩
  · have HZ := Lib.hid (show colB x n = false from decide_eq_false fun q => h1 q.1)
    go_enter Tryd.func26, Tryd.ntmps26
    go_wp2_with fail
    go_ret
    exact ⟨ret_b HZ.out.symm, rfl⟩
end Go.Proofs.YthnphlgkkfdnlaaDoor.DepImp
