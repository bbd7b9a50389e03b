/- Tables: the model's format. -/
import Derived.Test.YthnphlgkkfdnlaaDoorTabSpec2
import Derived.Test.YthnphlgkkfdnlaaDoorFormat
import Derived.Test.YthnphlgkkfdnlaaDoorTabCopy
import Derived.Deep.DeepCutAuto
namespace Go.Proofs.YthnphlgkkfdnlaaDoor.TabFmt
open Go Go.RowKit Byt Ints IntsLaw Cd Rows2 Tab TabSpec
open Go.Lib (decDigits itoa)

/-- The digits of small numbers. -/
def digB (l : List Int) : List UInt8 := l.map fun x => UInt8.ofNat (48 + x.toNat)
theorem itoa_digit {x : Int} (h : 0 ≤ x ∧ x ≤ 9) : itoa x = [UInt8.ofNat (48 + x.toNat)] := by
  unfold itoa
  rw [if_neg (by omega), decDigits, dif_pos (by omega)]
theorem digB_len (l : List Int) : (digB l).length = l.length := by simp [digB]
/-- The rows' digits, separated by blanks. -/
def rowsB : List (List Int) → List UInt8
  | [] => []
  | [r] => digB r
  | r :: s :: rs => digB r ++ 32 :: rowsB (s :: rs)
theorem rowsB_snoc : ∀ (l : List (List Int)) (r : List Int), rowsB (l ++ [r]) = if l = [] then digB r else rowsB l ++ 32 :: digB r
  | [], r => by simp [rowsB]
  | [a], r => by simp [rowsB]
  | a :: b :: l, r => by
    have := rowsB_snoc (b :: l) r
    rw [if_neg (by simp)] at this
    rw [if_neg (by simp)]
    show digB a ++ 32 :: rowsB ((b :: l) ++ [r]) = _
    rw [this]
    simp [rowsB]
/-- A valid table's format. -/
def tabB (nm : ByteArray) (ar : Int) (rows : List (List Int)) : List UInt8 := nm.data.toList ++ UInt8.ofNat (48 + ar.toNat) :: 58 :: rowsB rows
def fmtT (nm : ByteArray) (ar : Int) (rows : List (List Int)) : ByteArray := ⟨(if tabOk nm ar rows then tabB nm ar rows else []).toArray⟩


theorem rowsB_len : ∀ (l : List (List Int)), (rowsB l).length ≤ rowsWt l
  | [] => by simp [rowsB]
  | [r] => by simp [rowsB, digB, rowsWt]
  | r :: s :: rs => by
    have := rowsB_len (s :: rs)
    have h : rowsWt (r :: s :: rs) = rowsWt (s :: rs) + r.length + 1 := by simp [rowsWt]; omega
    rw [h]
    show (digB r ++ 32 :: rowsB (s :: rs)).length ≤ _
    rw [List.length_append, List.length_cons, digB_len]
    omega
/-- The format, up to row k. -/
def headB (nl : List UInt8) (ar : Int) : List UInt8 := nl ++ [UInt8.ofNat (48 + ar.toNat), 58]
theorem tabB_head (nl : List UInt8) (ar : Int) (rows : List (List Int)) : tabB ⟨⟨nl⟩⟩ ar rows = headB nl ar ++ rowsB rows := by simp [tabB, headB]

end Go.Proofs.YthnphlgkkfdnlaaDoor.TabFmt
