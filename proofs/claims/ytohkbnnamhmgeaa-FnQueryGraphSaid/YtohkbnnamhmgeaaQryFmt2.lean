/- Queries: their format: the program's functions. -/
import Derived.Test.YtohkbnnamhmgeaaQryFmt
import Derived.Test.YtohkbnnamhmgeaaCdRoom
import Derived.Test.YtohkbnnamhmgeaaTabParse
import Derived.Test.YtohkbnnamhmgeaaShelf
import Derived.Deep.RegionLaw
import Derived.Lib.Join
namespace Go.Proofs.Ytohkbnnamhmgeaa.QryFmt
open Go Go.RowKit Byt Ints IntsLaw Cd Rows2 Tab TabSpec Exact Atom QryMath QrySpec QryImp MkAtom SlMath
open TabParse (strC strsC info_str)

theorem qB_join : ∀ l : List (ByteArray × List Int), Lib.join (l.map atomB) [32] = qB l
  | [] => rfl
  | [A] => by simp [qB, Lib.join, List.intercalate]
  | A :: B :: As => by
    have := qB_join (B :: As)
    simp only [Lib.join, List.intercalate, List.map_cons, List.intersperse, List.flatten_cons] at this ⊢
    rw [this]
    simp [qB]
theorem strs_at {w : World} {S : Nat → Prop} {v : Value} {l : List ByteArray} (h : strsC.rd w S [v] l) {j : Nat} (hj : j < l.length) :
    ∃ b off cap, v = .slice (some ⟨b, off, none⟩) l.length cap ∧ b < w.heap.size ∧ w.cell? ⟨b, off + j, none⟩ = some (.string l[j]) := by
  obtain ⟨b, off, cap, us, e1, _, hb, hat, hu⟩ := Cd.sl_at h hj
  obtain ⟨rfl, _⟩ := hu
  have c0 := hat 0 (by simp)
  simp only [List.getElem_cons_zero, Nat.add_zero, show strC.n = 1 from rfl, Nat.mul_one] at c0
  exact ⟨b, off, cap, e1, hb, c0⟩
def KeptF (w w' : World) : Prop := Below w.heap.size w w'
end Go.Proofs.Ytohkbnnamhmgeaa.QryFmt
