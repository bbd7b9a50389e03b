/- The text that the exact laws mark a string with. -/
import Derived.Test.YtklamhnecncenaaFormat
namespace Go.Proofs.Ytklamhnecncenaa.Mark
open Go Go.RowKit Byt Format
open Go.Lib (decDigits)

/-- The text of mark k. -/
def mtext (k : Nat) : ByteArray := ⟨(109 :: decDigits k).toArray⟩
theorem mtext_size (k : Nat) (h : k ≤ 9223372036854775807) : (mtext k).size ≤ 20 := by
  have := digits_len (n := k) (by omega)
  show (109 :: decDigits k).toArray.size ≤ 20
  rw [List.size_toArray, List.length_cons]
  omega
end Go.Proofs.Ytklamhnecncenaa.Mark
