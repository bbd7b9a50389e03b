/- Lists of size classes: the model's functions. -/
import Derived.Test.YthnphlgkkfdnlaaDoorSz
import Derived.Test.YthnphlgkkfdnlaaDoorIntsLaw
import Derived.Test.YthnphlgkkfdnlaaDoorFormat
namespace Go.Proofs.YthnphlgkkfdnlaaDoor.Loc
open Go Go.RowKit Byt Ints IntsLaw Sz
open Go.Lib (decDigits itoa)

theorem kept_trans {w a b : World} (h : Below w.heap.size w a) (k : Below a.heap.size a b) : Below w.heap.size w b := h.trans (k.mono h.size)


/-- Is no number of a less than b's at its place? -/
def dom (a b : List Int) : Bool := decide (a.length = b.length ∧ ∀ t : Nat, t < a.length → b.getD t 0 ≤ a.getD t 0)

/-- A location's bytes. -/
def locB (l : List Int) : List UInt8 := l.map fun x => UInt8.ofNat (48 + x.toNat)
theorem itoa_digit {x : Int} (h : 0 ≤ x ∧ x ≤ 7) : itoa x = [UInt8.ofNat (48 + x.toNat)] := by
  unfold itoa
  rw [if_neg (by omega), decDigits, dif_pos (by omega)]
theorem locB_len (l : List Int) : (locB l).length = l.length := by simp [locB]


/-- The numbers that a string's bytes spell, one a byte. -/
def digs (l : List UInt8) : List Int := l.map fun b => (b.toNat : Int) - 48
theorem digs_len (l : List UInt8) : (digs l).length = l.length := by simp [digs]
end Go.Proofs.YthnphlgkkfdnlaaDoor.Loc
