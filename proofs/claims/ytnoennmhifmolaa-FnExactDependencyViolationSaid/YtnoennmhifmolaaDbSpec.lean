/- Databases: the model's functions that look. -/
import Derived.Test.YtnoennmhifmolaaDb
import Derived.Test.YtnoennmhifmolaaTabSpec2
namespace Go.Proofs.Ytnoennmhifmolaa.DbSpec
open Go Go.RowKit Byt Ints IntsLaw Cd Rows2 Tab SlMath TabOpen TabElem SlTable Db TabSpec

/-- One table, said of its cells. -/
theorem sameT_iff {a b : T3} : sameT a.1 b.1 a.2.1 b.2.1 a.2.2 b.2.2 = decide (a = b) := by
  obtain ⟨a1, a2, a3⟩ := a
  obtain ⟨b1, b2, b3⟩ := b
  unfold sameT
  simp
theorem row1 {w : World} {k : Nat} {a : Value} {e : TypeId} (h : w.heap[k]? = some (.cells #[a] e (0, 0))) : w.cell? ⟨k, 0, none⟩ = some a ∧ w.frozen? ⟨k, 0, none⟩ = false := ⟨by simp [World.cell?, h], by simp [World.frozen?, h]⟩
theorem ret_b {a b : Bool} (h : a = b) : Ending.returned (.bool a) = Ending.returned (.bool b) := by rw [h]
def LaterD (w w' : World) : Prop := Below w.heap.size w w'
theorem take_ne {l1 l2 : List T3} {k : Nat} (h1 : k < l1.length) (h2 : k < l2.length) (h : l1[k] ≠ l2[k]) : l1 ≠ l2 := fun q => h (by simp [q])
theorem take_eq {l1 l2 : List T3} {k : Nat} (h1 : k < l1.length) (h2 : k < l2.length) (ht : l1.take k = l2.take k) (h : l1[k] = l2[k]) : l1.take (k + 1) = l2.take (k + 1) := by
  rw [List.take_succ_eq_append_getElem h1, List.take_succ_eq_append_getElem h2, ht, h]

end Go.Proofs.Ytnoennmhifmolaa.DbSpec
