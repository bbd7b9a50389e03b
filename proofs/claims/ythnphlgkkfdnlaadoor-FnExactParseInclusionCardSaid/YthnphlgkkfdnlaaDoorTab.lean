/- What the exact laws do with tables: sized, copied, compared, marked, looked at. -/
import Derived.Test.YthnphlgkkfdnlaaDoorRows2
namespace Go.Proofs.YthnphlgkkfdnlaaDoor.Tab
open Go Go.RowKit Byt Ints IntsLaw Cd Rows2

theorem rd_alloc {α : Type} {c : Cd α} {w : World} {S : Nat → Prop} {us : List Value} {a : α} (h : c.rd w S us a) (o : Obj) : c.rd (w.alloc o) S us a := c.keep h fun b _ hlt => Below.heap_alloc w o b hlt
theorem ow_setCell {α : Type} {c : Cd α} {w : World} {base : Nat} {us : List Value} {a : α} {fp : List Nat} (h : c.ow w base us a fp) {p : Addr} (hp : p.block ∉ fp) (v : Value) : c.ow (w.setCell p v) base us a fp :=
  c.ow_keep h fun b hb => Below.heap_setCell w p v b fun q => hp (q ▸ hb)
/-- A row of three cells. -/
theorem row3 {w : World} {k : Nat} {a b c : Value} {e : TypeId} (h : w.heap[k]? = some (.cells #[a, b, c] e (0, 0))) :
    w.cell? ⟨k, 0, none⟩ = some a ∧ w.cell? ⟨k, 1, none⟩ = some b ∧ w.cell? ⟨k, 2, none⟩ = some c ∧ w.frozen? ⟨k, 0, none⟩ = false ∧ w.frozen? ⟨k, 1, none⟩ = false ∧ w.frozen? ⟨k, 2, none⟩ = false :=
  ⟨by simp [World.cell?, h], by simp [World.cell?, h], by simp [World.cell?, h], by simp [World.frozen?, h], by simp [World.frozen?, h], by simp [World.frozen?, h]⟩
theorem row_alloc (w : World) (o : Obj) : (w.alloc o).heap[w.heap.size]? = some o := heap_alloc_new w o
theorem row_later {w w' : World} {k : Nat} {o : Obj} (h : w.heap[k]? = some o) (hb : Below w.heap.size w w') : w'.heap[k]? = some o := (hb.block k (Array.getElem?_eq_some_iff.1 h).1).trans h
theorem row_older {w : World} {k : Nat} {o : Obj} (h : w.heap[k]? = some o) (o' : Obj) : (w.alloc o').heap[k]? = some o := (Below.heap_alloc w o' k (Array.getElem?_eq_some_iff.1 h).1).trans h
theorem size_alloc (w : World) (o : Obj) : (w.alloc o).heap.size = w.heap.size + 1 := Array.size_push _
theorem below_alloc (w : World) (o : Obj) : Below w.heap.size w (w.alloc o) := (Below.refl _ _).alloc (Nat.le_refl _) o
theorem below_then {w a b : World} (h : Below w.heap.size w a) (k : Below a.heap.size a b) : Below w.heap.size w b := h.trans (k.mono h.size)
theorem start3 (w : World) (o0 o1 o2 : Obj) {W : World} (h : ((w.alloc o0).alloc o1).alloc o2 = W) :
    W.heap[w.heap.size]? = some o0 ∧ W.heap[w.heap.size + 1]? = some o1 ∧ W.heap[w.heap.size + 2]? = some o2 ∧ W.heap.size = w.heap.size + 3 ∧ Below w.heap.size w W := by
  subst h
  have h0 := row_older (row_older (row_alloc w o0) o1) o2
  have h1 := row_older (row_alloc (w.alloc o0) o1) o2
  have h2 := row_alloc ((w.alloc o0).alloc o1) o2
  rw [size_alloc] at h1
  rw [size_alloc, size_alloc] at h2
  exact ⟨h0, h1, h2, by rw [size_alloc, size_alloc, size_alloc], below_then (below_then (below_alloc w o0) (below_alloc _ o1)) (below_alloc _ o2)⟩
theorem start2g (w : World) (o0 o1 : Obj) {W : World} (h : (w.alloc o0).alloc o1 = W) :
    W.heap[w.heap.size]? = some o0 ∧ W.heap[w.heap.size + 1]? = some o1 ∧ W.heap.size = w.heap.size + 2 ∧ Below w.heap.size w W := by
  subst h
  have h0 := row_older (row_alloc w o0) o1
  have h1 := row_alloc (w.alloc o0) o1
  rw [size_alloc] at h1
  exact ⟨h0, h1, by rw [size_alloc, size_alloc], below_then (below_alloc w o0) (below_alloc _ o1)⟩
theorem start1 (w : World) (o0 : Obj) {W : World} (h : w.alloc o0 = W) : W.heap[w.heap.size]? = some o0 ∧ W.heap.size = w.heap.size + 1 ∧ Below w.heap.size w W := by
  subst h
  exact ⟨row_alloc w o0, size_alloc w o0, below_alloc w o0⟩

theorem set3 {w : World} {k : Nat} {a b c x y z : Value} (c0 : w.cell? ⟨k, 0, none⟩ = some a) (c1 : w.cell? ⟨k, 1, none⟩ = some b) (c2 : w.cell? ⟨k, 2, none⟩ = some c) :
    (((w.setCell ⟨k, 0, none⟩ x).setCell ⟨k, 1, none⟩ y).setCell ⟨k, 2, none⟩ z).cell? ⟨k, 0, none⟩ = some x ∧ (((w.setCell ⟨k, 0, none⟩ x).setCell ⟨k, 1, none⟩ y).setCell ⟨k, 2, none⟩ z).cell? ⟨k, 1, none⟩ = some y ∧ (((w.setCell ⟨k, 0, none⟩ x).setCell ⟨k, 1, none⟩ y).setCell ⟨k, 2, none⟩ z).cell? ⟨k, 2, none⟩ = some z := by
  have e0 : (w.setCell ⟨k, 0, none⟩ x).cell? ⟨k, 0, none⟩ = some x := World.cell?_setCell_same _ _ _ c0
  have e1 : (w.setCell ⟨k, 0, none⟩ x).cell? ⟨k, 1, none⟩ = some b := by rw [World.cell?_setCell_other _ _ _ _ (by simp)]; exact c1
  have e2 : (w.setCell ⟨k, 0, none⟩ x).cell? ⟨k, 2, none⟩ = some c := by rw [World.cell?_setCell_other _ _ _ _ (by simp)]; exact c2
  have g1 : ((w.setCell ⟨k, 0, none⟩ x).setCell ⟨k, 1, none⟩ y).cell? ⟨k, 1, none⟩ = some y := World.cell?_setCell_same _ _ _ e1
  have g2 : ((w.setCell ⟨k, 0, none⟩ x).setCell ⟨k, 1, none⟩ y).cell? ⟨k, 2, none⟩ = some c := by rw [World.cell?_setCell_other _ _ _ _ (by simp)]; exact e2
  refine ⟨?_, ?_, World.cell?_setCell_same _ _ _ g2⟩
  · rw [World.cell?_setCell_other _ _ _ _ (by simp), World.cell?_setCell_other _ _ _ _ (by simp)]; exact e0
  · rw [World.cell?_setCell_other _ _ _ _ (by simp)]; exact g1

def tabWt (nm : ByteArray) (rows : List (List Int)) : Nat := nm.size + rowsWt rows





end Go.Proofs.YthnphlgkkfdnlaaDoor.Tab
