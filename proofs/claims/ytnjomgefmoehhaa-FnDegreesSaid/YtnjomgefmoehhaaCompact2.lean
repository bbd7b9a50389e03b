/- Tables: the walk of the library's CompactFunc at this program. -/
import Derived.Test.YtnjomgefmoehhaaCompact
namespace Go.Proofs.Ytnjomgefmoehhaa.TabImp
open Go Go.RowKit Byt Ints IntsLaw Cd Rows2 Tab TabSpec Exact

def CompAns (g cap : Nat) (S : Nat → Prop) (l : List (List Int)) (w : World) (e : Ending) (w' : World) : Prop :=
  e = .returned (.slice (some ⟨g, 0, none⟩) (compT l l.length).length cap) ∧ Lie w' g S (compT l l.length) ∧ Cd.Touch [g] w w'
theorem touch_drewN (fp : List Nat) (w : World) (m : Nat) : Cd.Touch fp w (w.drewN m) := ⟨rfl, rfl, rfl, Nat.le_refl _, fun _ _ _ => rfl⟩
theorem touch_setCells (w : World) (g c : Nat) (vs : List Value) : Cd.Touch [g] w (w.setCells g c vs) := by
  induction vs generalizing w c with
  | nil => exact Cd.Touch.refl _ _
  | cons v vs ih => exact (touch_setCell w g c v).trans (ih _ _)
theorem take_snoc_set {α : Type} {l : List α} {c : Nat} {x : α} (hc : c < l.length) : (l.set c x).take (c + 1) = l.take c ++ [x] := by
  rw [List.take_succ_eq_append_getElem (by simpa using hc), List.getElem_set_self, List.take_set_of_le (Nat.le_refl _)]

end Go.Proofs.Ytnjomgefmoehhaa.TabImp
