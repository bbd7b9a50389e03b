/- What the exact laws do with an atom of a query: sized, copied, compared, marked, looked at. -/
import Derived.Test.YtdkhgeknjekkoaaGreatExact
import Derived.Test.YtdkhgeknjekkoaaGreatTabOpen
namespace Go.Proofs.YtdkhgeknjekkoaaGreat.Atom
open Go Go.RowKit Byt Ints IntsLaw Cd Rows2 Tab TabSpec Exact

abbrev A2 := ByteArray × List Int
/-- The slice's length is at most its capacity. -/
def Room (us : List Value) : Prop := ∀ a n c, us = [.slice a n c] → n ≤ c
theorem room_of {w : World} {base : Nat} {us : List Value} {l : List Int} {fp : List Nat} (h : rowC.ow w base us l fp) : Room us := by
  obtain ⟨v, xss, fps, rfl, hown, _, _⟩ := h
  intro a n c e
  rcases hown.2 with ⟨e1, _⟩ | ⟨g, cap, cur, e1, _, _, hc, _⟩
  · rw [e1] at e
    simp only [List.cons.injEq, Value.slice.injEq, and_true] at e
    omega
  · rw [e1] at e
    simp only [List.cons.injEq, Value.slice.injEq, and_true] at e
    omega
/-- A list of numbers whose slice has room for its length. -/
def rowK : Cd (List Int) where
  n := rowC.n
  rd w S us l := rowC.rd w S us l ∧ Room us
  ow := rowC.ow
  pos := rowC.pos
  len h := rowC.len h.1
  one h := rowC.one h.1
  keep h hk := ⟨rowC.keep h.1 hk, h.2⟩
  mono h hk := ⟨rowC.mono h.1 hk, h.2⟩
  ow_rd h := ⟨rowC.ow_rd h, room_of h⟩
  ow_keep := rowC.ow_keep
  ow_lt := rowC.ow_lt
  ow_base := rowC.ow_base
def atomC : Cd A2 := Cd.pair Cd.str rowK
def atWt (nm : ByteArray) (row : List Int) : Nat := nm.size + row.length
def wtA (U : A2) : Nat := atWt U.1 U.2
set_option maxRecDepth 100000 in
theorem atom_cells {w : World} {S : Nat → Prop} {cs : List Value} {U : A2} (h : atomC.rd w S cs U) :
    ∃ u, cs = [.string U.1, u] ∧ U.1.size ≤ maxLen ∧ rowC.rd w S [u] U.2 := by
  obtain ⟨u1, u4, rfl, ⟨rfl, h1⟩, h3⟩ := h
  have hl := rowK.len h3
  match u4, hl with
  | [u], _ => exact ⟨u, rfl, h1, h3.1⟩
theorem atom_room {w : World} {S : Nat → Prop} {nm : Value} {a : Option Addr} {n c : Nat} {U : A2} (h : atomC.rd w S [nm, .slice a n c] U) : n ≤ c := by
  obtain ⟨u1, u4, e, ⟨rfl, h1⟩, h3⟩ := h
  simp only [List.cons_append, List.nil_append, List.cons.injEq] at e
  obtain ⟨_, rfl⟩ := e
  exact h3.2 a n c rfl
theorem atom_ow {w : World} {base : Nat} {nm : ByteArray} {u : Value} {row : List Int} {fp : List Nat} (h : rowC.ow w base [u] row fp) (hs : nm.size ≤ maxLen) : atomC.ow w base [.string nm, u] (nm, row) fp :=
  ⟨[.string nm], [u], [], fp, rfl, by simp, ⟨rfl, hs, rfl⟩, h⟩
theorem row_form {w : World} {S : Nat → Prop} {u : Value} {row : List Int} (h : rowC.rd w S [u] row) : ∃ a c, u = .slice a row.length c ∧ row.length ≤ 9223372036854775807 := by
  obtain ⟨a, c, e, hl, _⟩ := (row_ri h).1
  exact ⟨a, c, e, hl⟩
theorem shape_ow {w : World} {base : Nat} {us : List Value} {U : A2} {fp : List Nat} (h : atomC.ow w base us U fp) : ∃ a c, us = [.string U.1, .slice a U.2.length c] := by
  obtain ⟨u, rfl, _, h3⟩ := atom_cells (atomC.ow_rd h)
  obtain ⟨a, c, rfl, _⟩ := row_form h3
  exact ⟨a, c, rfl⟩
theorem row_of_atom {w : World} {base : Nat} {nm : ByteArray} {u : Value} {U : A2} {fp : List Nat} (h : atomC.ow w base [.string nm, u] U fp) : rowC.ow w base [u] U.2 fp := by
  obtain ⟨u1, u4, g1, g2, e1, rfl, ⟨_, _, rfl⟩, h3⟩ := h
  have h4 : rowC.ow w base u4 U.2 g2 := h3
  simp_all

theorem row2 {w : World} {k : Nat} {a b : Value} {e : TypeId} (h : w.heap[k]? = some (.cells #[a, b] e (0, 0))) :
    w.cell? ⟨k, 0, none⟩ = some a ∧ w.cell? ⟨k, 1, none⟩ = some b ∧ w.frozen? ⟨k, 0, none⟩ = false ∧ w.frozen? ⟨k, 1, none⟩ = false :=
  ⟨by simp [World.cell?, h], by simp [World.cell?, h], by simp [World.frozen?, h], by simp [World.frozen?, h]⟩
theorem set2 {w : World} {k : Nat} {a b x y : Value} (c0 : w.cell? ⟨k, 0, none⟩ = some a) (c1 : w.cell? ⟨k, 1, none⟩ = some b) :
    ((w.setCell ⟨k, 0, none⟩ x).setCell ⟨k, 1, none⟩ y).cell? ⟨k, 0, none⟩ = some x ∧ ((w.setCell ⟨k, 0, none⟩ x).setCell ⟨k, 1, none⟩ y).cell? ⟨k, 1, none⟩ = some y := by
  have e0 : (w.setCell ⟨k, 0, none⟩ x).cell? ⟨k, 0, none⟩ = some x := World.cell?_setCell_same _ _ _ c0
  have e1 : (w.setCell ⟨k, 0, none⟩ x).cell? ⟨k, 1, none⟩ = some b := by rw [World.cell?_setCell_other _ _ _ _ (by simp)]; exact c1
  exact ⟨by rw [World.cell?_setCell_other _ _ _ _ (by simp)]; exact e0, World.cell?_setCell_same _ _ _ e1⟩
structure Loc2 (w : World) (X : Nat) (a b : Value) : Prop where
  c0 : w.cell? ⟨X, 0, none⟩ = some a
  c1 : w.cell? ⟨X, 1, none⟩ = some b
  f0 : w.frozen? ⟨X, 0, none⟩ = false
  f1 : w.frozen? ⟨X, 1, none⟩ = false
theorem Loc2.of {w : World} {X : Nat} {a b : Value} {e : TypeId} (h : w.heap[X]? = some (.cells #[a, b] e (0, 0))) : Loc2 w X a b := ⟨by simp [World.cell?, h], by simp [World.cell?, h], by simp [World.frozen?, h], by simp [World.frozen?, h]⟩
theorem Loc2.keep {w w' : World} {X : Nat} {a b : Value} (h : Loc2 w X a b) (hk : w'.heap[X]? = w.heap[X]?) : Loc2 w' X a b :=
  ⟨(World.cell?_of_block (w := w) (a := ⟨X, 0, none⟩) hk).trans h.c0, (World.cell?_of_block (w := w) (a := ⟨X, 1, none⟩) hk).trans h.c1, (World.frozen?_of_block (w := w) (a := ⟨X, 0, none⟩) hk).trans h.f0, (World.frozen?_of_block (w := w) (a := ⟨X, 1, none⟩) hk).trans h.f1⟩
theorem Loc2.lt {w : World} {X : Nat} {a b : Value} (h : Loc2 w X a b) : X < w.heap.size := World.block_lt_of_cell? w _ h.c0
theorem Loc2.touched {w w' : World} {X : Nat} {a b : Value} {fp : List Nat} (h : Loc2 w X a b) (ht : Cd.Touch fp w w') (hn : X ∉ fp) : Loc2 w' X a b := h.keep (ht.block X h.lt hn)
theorem Loc2.later {w w' : World} {X : Nat} {a b : Value} (h : Loc2 w X a b) (hb : Below w.heap.size w w') : Loc2 w' X a b := h.keep (hb.block X h.lt)
theorem Loc2.set_far {w : World} {X : Nat} {a b : Value} (h : Loc2 w X a b) {p : Addr} (hp : p.block ≠ X) (v : Value) : Loc2 (w.setCell p v) X a b := h.keep (Below.heap_setCell w p v X (fun q => hp q.symm))
theorem Loc2.drew {w : World} {X : Nat} {a b : Value} (h : Loc2 w X a b) : Loc2 w.drew X a b := ⟨h.c0, h.c1, h.f0, h.f1⟩

/-! The element's contracts, said of its cells. -/
/-! What an argument of the laws reads as. -/
end Go.Proofs.YtdkhgeknjekkoaaGreat.Atom
