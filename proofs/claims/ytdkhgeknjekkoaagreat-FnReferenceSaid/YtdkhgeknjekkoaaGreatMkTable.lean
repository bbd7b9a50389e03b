/- What the exact laws do with slices of tables: marked. -/
import Derived.Test.YtdkhgeknjekkoaaGreatSlTable
import Derived.Test.YtdkhgeknjekkoaaGreatMark
namespace Go.Proofs.YtdkhgeknjekkoaaGreat.SlTable
open Go Go.RowKit Byt Ints IntsLaw Cd Rows2 Tab SlMath TabOpen TabElem Mark

theorem heap_same {w w' : World} {g o : Nat} {x : Value} (h : w'.heap[g]? = w.heap[g]?) : (w'.setCell ⟨g, o, none⟩ x).heap[g]? = (w.setCell ⟨g, o, none⟩ x).heap[g]? := by
  simp only [World.setCell, Array.getElem?_modify, h]
theorem touch_cell {fp : List Nat} {w : World} {g o : Nat} (h : g ∈ fp) (x : Value) : Cd.Touch fp w (w.setCell ⟨g, o, none⟩ x) :=
  ⟨rfl, rfl, rfl, by simp, fun k _ hn => Below.heap_setCell w _ x k fun q => hn (by rw [q]; exact h)⟩
end Go.Proofs.YtdkhgeknjekkoaaGreat.SlTable
