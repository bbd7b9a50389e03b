/- Tables: the model's copy. -/
import Derived.Test.YtklamhnecncenaaTabPut
import Derived.Deep.RegionLaw
import Derived.Deep.RegionHeld3
namespace Go.Proofs.Ytklamhnecncenaa.TabSpec
open Go Go.RowKit Byt Ints IntsLaw Cd Rows2 Tab

theorem cell_alloc_some {w : World} {p : Addr} {v : Value} (h : w.cell? p = some v) (o : Obj) : (w.alloc o).cell? p = some v := ((below_alloc w o).cell (World.block_lt_of_cell? w p h)).trans h

/-- The three cells of a local variable. -/
structure Loc3 (w : World) (X : Nat) (a b c : Value) : Prop where
  c0 : w.cell? ⟨X, 0, none⟩ = some a
  c1 : w.cell? ⟨X, 1, none⟩ = some b
  c2 : w.cell? ⟨X, 2, none⟩ = some c
  f0 : w.frozen? ⟨X, 0, none⟩ = false
  f1 : w.frozen? ⟨X, 1, none⟩ = false
  f2 : w.frozen? ⟨X, 2, none⟩ = false
theorem Loc3.of {w : World} {X : Nat} {a b c : Value} {e : TypeId} (h : w.heap[X]? = some (.cells #[a, b, c] e (0, 0))) : Loc3 w X a b c := by
  obtain ⟨h1, h2, h3, h4, h5, h6⟩ := row3 h
  exact ⟨h1, h2, h3, h4, h5, h6⟩
theorem Loc3.keep {w w' : World} {X : Nat} {a b c : Value} (h : Loc3 w X a b c) (hk : w'.heap[X]? = w.heap[X]?) : Loc3 w' X a b c :=
  ⟨(World.cell?_of_block (w := w) (a := ⟨X, 0, none⟩) hk).trans h.c0, (World.cell?_of_block (w := w) (a := ⟨X, 1, none⟩) hk).trans h.c1, (World.cell?_of_block (w := w) (a := ⟨X, 2, none⟩) hk).trans h.c2,
    (World.frozen?_of_block (w := w) (a := ⟨X, 0, none⟩) hk).trans h.f0, (World.frozen?_of_block (w := w) (a := ⟨X, 1, none⟩) hk).trans h.f1, (World.frozen?_of_block (w := w) (a := ⟨X, 2, none⟩) hk).trans h.f2⟩
theorem Loc3.lt {w : World} {X : Nat} {a b c : Value} (h : Loc3 w X a b c) : X < w.heap.size := World.block_lt_of_cell? w _ h.c0
theorem Loc3.touched {w w' : World} {X : Nat} {a b c : Value} {fp : List Nat} (h : Loc3 w X a b c) (ht : Cd.Touch fp w w') (hn : X ∉ fp) : Loc3 w' X a b c := h.keep (ht.block X h.lt hn)
theorem Loc3.later {w w' : World} {X : Nat} {a b c : Value} (h : Loc3 w X a b c) (hb : Below w.heap.size w w') : Loc3 w' X a b c := h.keep (hb.block X h.lt)
theorem Loc3.set2 {w : World} {X : Nat} {a b c : Value} (h : Loc3 w X a b c) (v : Value) : Loc3 (w.setCell ⟨X, 2, none⟩ v) X a b v := by
  refine ⟨?_, ?_, World.cell?_setCell_same _ _ _ h.c2, ?_, ?_, ?_⟩
  · rw [World.cell?_setCell_other _ _ _ _ (by simp)]; exact h.c0
  · rw [World.cell?_setCell_other _ _ _ _ (by simp)]; exact h.c1
  · simpa using h.f0
  · simpa using h.f1
  · simpa using h.f2
theorem Loc3.set_far {w : World} {X : Nat} {a b c : Value} (h : Loc3 w X a b c) {p : Addr} (hp : p.block ≠ X) (v : Value) : Loc3 (w.setCell p v) X a b c := h.keep (Below.heap_setCell w p v X (fun q => hp q.symm))
theorem touch_undrew {fp : List Nat} {w w' : World} (h : Cd.Touch fp w.drew w') : Cd.Touch fp w w' := ⟨h.os, h.tape, h.output, h.size, h.block⟩

end Go.Proofs.Ytklamhnecncenaa.TabSpec
