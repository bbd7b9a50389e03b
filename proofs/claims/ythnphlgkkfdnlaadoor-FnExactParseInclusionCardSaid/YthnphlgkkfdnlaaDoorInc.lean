/- What the exact laws do with an inclusion: sized, copied, compared. -/
import Derived.Test.YthnphlgkkfdnlaaDoorExact
import Derived.Test.YthnphlgkkfdnlaaDoorTabOpen
namespace Go.Proofs.YthnphlgkkfdnlaaDoor.Inc
open Go Go.RowKit Byt Ints IntsLaw Cd Rows2 Tab TabSpec Exact

abbrev I4 := ByteArray × Int × ByteArray × Int
def incC : Cd I4 := Cd.pair Cd.str (Cd.pair Cd.int (Cd.pair Cd.str Cd.int))
def incWt (a b : ByteArray) : Nat := a.size + b.size
def I64 (x : Int) : Prop := -9223372036854775808 ≤ x ∧ x ≤ 9223372036854775807
theorem inc_cells {w : World} {S : Nat → Prop} {cs : List Value} {U : I4} (h : incC.rd w S cs U) :
    cs = [.string U.1, .int .i64 U.2.1, .string U.2.2.1, .int .i64 U.2.2.2] ∧ U.1.size ≤ maxLen ∧ I64 U.2.1 ∧ U.2.2.1.size ≤ maxLen ∧ I64 U.2.2.2 := by
  obtain ⟨u1, u2, rfl, ⟨rfl, h1⟩, u3, u4, rfl, ⟨rfl, h2⟩, u5, u6, rfl, ⟨rfl, h3⟩, ⟨rfl, h4⟩⟩ := h
  exact ⟨rfl, h1, h2, h3, h4⟩

structure Loc4 (w : World) (X : Nat) (a b c d : Value) : Prop where
  c0 : w.cell? ⟨X, 0, none⟩ = some a
  c1 : w.cell? ⟨X, 1, none⟩ = some b
  c2 : w.cell? ⟨X, 2, none⟩ = some c
  c3 : w.cell? ⟨X, 3, none⟩ = some d
  f0 : w.frozen? ⟨X, 0, none⟩ = false
  f1 : w.frozen? ⟨X, 1, none⟩ = false
  f2 : w.frozen? ⟨X, 2, none⟩ = false
  f3 : w.frozen? ⟨X, 3, none⟩ = false
theorem Loc4.of {w : World} {X : Nat} {a b c d : Value} {e : TypeId} (h : w.heap[X]? = some (.cells #[a, b, c, d] e (0, 0))) : Loc4 w X a b c d :=
  ⟨by simp [World.cell?, h], by simp [World.cell?, h], by simp [World.cell?, h], by simp [World.cell?, h], by simp [World.frozen?, h], by simp [World.frozen?, h], by simp [World.frozen?, h], by simp [World.frozen?, h]⟩
theorem Loc4.keep {w w' : World} {X : Nat} {a b c d : Value} (h : Loc4 w X a b c d) (hk : w'.heap[X]? = w.heap[X]?) : Loc4 w' X a b c d :=
  ⟨(World.cell?_of_block (w := w) (a := ⟨X, 0, none⟩) hk).trans h.c0, (World.cell?_of_block (w := w) (a := ⟨X, 1, none⟩) hk).trans h.c1, (World.cell?_of_block (w := w) (a := ⟨X, 2, none⟩) hk).trans h.c2, (World.cell?_of_block (w := w) (a := ⟨X, 3, none⟩) hk).trans h.c3, (World.frozen?_of_block (w := w) (a := ⟨X, 0, none⟩) hk).trans h.f0, (World.frozen?_of_block (w := w) (a := ⟨X, 1, none⟩) hk).trans h.f1, (World.frozen?_of_block (w := w) (a := ⟨X, 2, none⟩) hk).trans h.f2, (World.frozen?_of_block (w := w) (a := ⟨X, 3, none⟩) hk).trans h.f3⟩
theorem Loc4.lt {w : World} {X : Nat} {a b c d : Value} (h : Loc4 w X a b c d) : X < w.heap.size := World.block_lt_of_cell? w _ h.c0
theorem Loc4.touched {w w' : World} {X : Nat} {a b c d : Value} {fp : List Nat} (h : Loc4 w X a b c d) (ht : Cd.Touch fp w w') (hn : X ∉ fp) : Loc4 w' X a b c d := h.keep (ht.block X h.lt hn)
theorem Loc4.later {w w' : World} {X : Nat} {a b c d : Value} (h : Loc4 w X a b c d) (hb : Below w.heap.size w w') : Loc4 w' X a b c d := h.keep (hb.block X h.lt)
theorem Loc4.set_far {w : World} {X : Nat} {a b c d : Value} (h : Loc4 w X a b c d) {p : Addr} (hp : p.block ≠ X) (v : Value) : Loc4 (w.setCell p v) X a b c d := h.keep (Below.heap_setCell w p v X (fun q => hp q.symm))
theorem Loc4.drew {w : World} {X : Nat} {a b c d : Value} (h : Loc4 w X a b c d) : Loc4 w.drew X a b c d := ⟨h.c0, h.c1, h.c2, h.c3, h.f0, h.f1, h.f2, h.f3⟩
theorem set4 {w : World} {k : Nat} {a b c d x y z u : Value} (h : Loc4 w k a b c d) :
    Loc4 ((((w.setCell ⟨k, 0, none⟩ x).setCell ⟨k, 1, none⟩ y).setCell ⟨k, 2, none⟩ z).setCell ⟨k, 3, none⟩ u) k x y z u := by
  obtain ⟨c0, c1, c2, c3, f0, f1, f2, f3⟩ := h
  have e0 : (w.setCell ⟨k, 0, none⟩ x).cell? ⟨k, 0, none⟩ = some x := World.cell?_setCell_same _ _ _ c0
  have e1 : (w.setCell ⟨k, 0, none⟩ x).cell? ⟨k, 1, none⟩ = some b := by rw [World.cell?_setCell_other _ _ _ _ (by simp)]; exact c1
  have e2 : (w.setCell ⟨k, 0, none⟩ x).cell? ⟨k, 2, none⟩ = some c := by rw [World.cell?_setCell_other _ _ _ _ (by simp)]; exact c2
  have e3 : (w.setCell ⟨k, 0, none⟩ x).cell? ⟨k, 3, none⟩ = some d := by rw [World.cell?_setCell_other _ _ _ _ (by simp)]; exact c3
  generalize hw0 : w.setCell ⟨k, 0, none⟩ x = w0 at *
  have g0 : ∀ j, w0.frozen? ⟨k, j, none⟩ = w.frozen? ⟨k, j, none⟩ := fun j => by rw [← hw0]; simp
  have h0 : (w0.setCell ⟨k, 1, none⟩ y).cell? ⟨k, 0, none⟩ = some x := by rw [World.cell?_setCell_other _ _ _ _ (by simp)]; exact e0
  have h1 : (w0.setCell ⟨k, 1, none⟩ y).cell? ⟨k, 1, none⟩ = some y := World.cell?_setCell_same _ _ _ e1
  have h2 : (w0.setCell ⟨k, 1, none⟩ y).cell? ⟨k, 2, none⟩ = some c := by rw [World.cell?_setCell_other _ _ _ _ (by simp)]; exact e2
  have h3 : (w0.setCell ⟨k, 1, none⟩ y).cell? ⟨k, 3, none⟩ = some d := by rw [World.cell?_setCell_other _ _ _ _ (by simp)]; exact e3
  generalize hw1 : w0.setCell ⟨k, 1, none⟩ y = w1 at *
  have g1 : ∀ j, w1.frozen? ⟨k, j, none⟩ = w.frozen? ⟨k, j, none⟩ := fun j => by rw [← hw1]; simp [g0]
  have i0 : (w1.setCell ⟨k, 2, none⟩ z).cell? ⟨k, 0, none⟩ = some x := by rw [World.cell?_setCell_other _ _ _ _ (by simp)]; exact h0
  have i1 : (w1.setCell ⟨k, 2, none⟩ z).cell? ⟨k, 1, none⟩ = some y := by rw [World.cell?_setCell_other _ _ _ _ (by simp)]; exact h1
  have i2 : (w1.setCell ⟨k, 2, none⟩ z).cell? ⟨k, 2, none⟩ = some z := World.cell?_setCell_same _ _ _ h2
  have i3 : (w1.setCell ⟨k, 2, none⟩ z).cell? ⟨k, 3, none⟩ = some d := by rw [World.cell?_setCell_other _ _ _ _ (by simp)]; exact h3
  generalize hw2 : w1.setCell ⟨k, 2, none⟩ z = w2 at *
  have g2 : ∀ j, w2.frozen? ⟨k, j, none⟩ = w.frozen? ⟨k, j, none⟩ := fun j => by rw [← hw2]; simp [g1]
  exact ⟨by rw [World.cell?_setCell_other _ _ _ _ (by simp)]; exact i0, by rw [World.cell?_setCell_other _ _ _ _ (by simp)]; exact i1, by rw [World.cell?_setCell_other _ _ _ _ (by simp)]; exact i2, World.cell?_setCell_same _ _ _ i3,
    by simp [g2, f0], by simp [g2, f1], by simp [g2, f2], by simp [g2, f3]⟩



theorem eq_inc (n1 : ByteArray) (c1 : Int) (n2 : ByteArray) (c2 : Int) (w : World) :
    Calls Tryd.prog 18 #[.agg #[.string n1, .int .i64 c1, .string n2, .int .i64 c2], .agg #[.string n1, .int .i64 c1, .string n2, .int .i64 c2]] w fun e w' => e = .returned (.bool true) ∧ Below w.heap.size w w' := by
  go_enter Tryd.func18, Tryd.ntmps18
  go_wp2
  go_ret
  exact ⟨rfl, ((Below.refl _ _).alloc (Nat.le_refl _) _).alloc (by simp) _⟩

/-! What an argument of the laws reads as. -/
end Go.Proofs.YthnphlgkkfdnlaaDoor.Inc
