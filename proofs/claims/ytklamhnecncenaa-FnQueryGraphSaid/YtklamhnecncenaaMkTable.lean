/- What the exact laws do with slices of tables: marked. -/
import Derived.Test.YtklamhnecncenaaSlTable
import Derived.Test.YtklamhnecncenaaMark
namespace Go.Proofs.Ytklamhnecncenaa.SlTable
open Go Go.RowKit Byt Ints IntsLaw Cd Rows2 Tab SlMath TabOpen TabElem Mark

theorem heap_same {w w' : World} {g o : Nat} {x : Value} (h : w'.heap[g]? = w.heap[g]?) : (w'.setCell ⟨g, o, none⟩ x).heap[g]? = (w.setCell ⟨g, o, none⟩ x).heap[g]? := by
  simp only [World.setCell, Array.getElem?_modify, h]
theorem touch_cell {fp : List Nat} {w : World} {g o : Nat} (h : g ∈ fp) (x : Value) : Cd.Touch fp w (w.setCell ⟨g, o, none⟩ x) :=
  ⟨rfl, rfl, rfl, by simp, fun k _ hn => Below.heap_setCell w _ x k fun q => hn (by rw [q]; exact h)⟩
/-- A table marked from k on, and how many marks it takes. -/
def mkT (k : Nat) (T : T3) : T3 := (mtext k, ((k + 1 : Nat) : Int), mrows (k + 2) T.2.2)
def cntT (T : T3) : Nat := 2 + T.2.2.flatten.length

end Go.Proofs.Ytklamhnecncenaa.SlTable
