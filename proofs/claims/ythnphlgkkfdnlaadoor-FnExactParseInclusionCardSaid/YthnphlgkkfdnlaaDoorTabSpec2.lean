/- Tables: the model's functions that look for a row and that compare tables. -/
import Derived.Test.YthnphlgkkfdnlaaDoorTabSpec
namespace Go.Proofs.YthnphlgkkfdnlaaDoor.TabSpec
open Go Go.RowKit Byt Ints IntsLaw Cd Rows2 Tab

theorem str_ne {a b : ByteArray} (h : a ≠ b) : (a.toList == b.toList) = false := by
  rw [ByteArray.toList_eq, ByteArray.toList_eq, beq_eq_false_iff_ne]
  intro q
  cases a
  cases b
  exact h (congrArg ByteArray.mk (Array.toList_inj.1 q))

/-- Is the table valid and the row in it? -/
def hasR (nm : ByteArray) (ar : Int) (rows : List (List Int)) (row : List Int) : Bool := decide (TabP nm ar rows ∧ row ∈ rows)
theorem hasR_yes {nm : ByteArray} {ar : Int} {rows : List (List Int)} {row : List Int} (h : tabOk nm ar rows = true) (hr : row ∈ rows) : hasR nm ar rows row = true := decide_eq_true ⟨of_decide_eq_true h, hr⟩
theorem hasR_no1 {nm : ByteArray} {ar : Int} {rows : List (List Int)} {row : List Int} (h : tabOk nm ar rows = false) : hasR nm ar rows row = false := decide_eq_false fun q => of_decide_eq_false h q.1
theorem hasR_no2 {nm : ByteArray} {ar : Int} {rows : List (List Int)} {row : List Int} (hr : row ∉ rows) : hasR nm ar rows row = false := decide_eq_false fun q => hr q.2


/-- Are they one table? -/
def sameT (n1 n2 : ByteArray) (a1 a2 : Int) (r1 r2 : List (List Int)) : Bool := decide (n1 = n2 ∧ a1 = a2 ∧ r1 = r2)
end Go.Proofs.YthnphlgkkfdnlaaDoor.TabSpec
