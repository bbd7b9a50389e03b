/- What the exact laws on databases want beside: a cell of its own, the numbers of a database within bounds. -/
import Derived.Test.YtnoennmhifmolaaExact
import Derived.Test.YtnoennmhifmolaaDb
namespace Go.Proofs.Ytnoennmhifmolaa.DbExact
open Go Go.RowKit Byt Ints IntsLaw Cd Rows2 Tab TabSpec Exact SlMath TabOpen TabElem Mark SlTable Db

structure Loc1 (w : World) (X : Nat) (a : Value) : Prop where
  c0 : w.cell? ⟨X, 0, none⟩ = some a
  f0 : w.frozen? ⟨X, 0, none⟩ = false
theorem Loc1.of {w : World} {X : Nat} {a : Value} {e : TypeId} (h : w.heap[X]? = some (.cells #[a] e (0, 0))) : Loc1 w X a := ⟨by simp [World.cell?, h], by simp [World.frozen?, h]⟩
theorem Loc1.keep {w w' : World} {X : Nat} {a : Value} (h : Loc1 w X a) (hk : w'.heap[X]? = w.heap[X]?) : Loc1 w' X a :=
  ⟨(World.cell?_of_block (w := w) (a := ⟨X, 0, none⟩) hk).trans h.c0, (World.frozen?_of_block (w := w) (a := ⟨X, 0, none⟩) hk).trans h.f0⟩
theorem Loc1.lt {w : World} {X : Nat} {a : Value} (h : Loc1 w X a) : X < w.heap.size := World.block_lt_of_cell? w _ h.c0
theorem Loc1.touched {w w' : World} {X : Nat} {a : Value} {fp : List Nat} (h : Loc1 w X a) (ht : Cd.Touch fp w w') (hn : X ∉ fp) : Loc1 w' X a := h.keep (ht.block X h.lt hn)
theorem Loc1.later {w w' : World} {X : Nat} {a : Value} (h : Loc1 w X a) (hb : Below w.heap.size w w') : Loc1 w' X a := h.keep (hb.block X h.lt)
theorem Loc1.set {w : World} {X : Nat} {a : Value} (h : Loc1 w X a) (v : Value) : Loc1 (w.setCell ⟨X, 0, none⟩ v) X v := ⟨World.cell?_setCell_same _ _ _ h.c0, by simpa using h.f0⟩
theorem Loc1.set_far {w : World} {X : Nat} {a : Value} (h : Loc1 w X a) {p : Addr} (hp : p.block ≠ X) (v : Value) : Loc1 (w.setCell p v) X a := h.keep (Below.heap_setCell w p v X (fun q => hp q.symm))
theorem Loc1.drew {w : World} {X : Nat} {a : Value} (h : Loc1 w X a) : Loc1 w.drew X a := ⟨h.c0, h.f0⟩

theorem cnt_le : ∀ (l : List T3), sumN cntT l ≤ 2 * wtS l
  | [] => by simp [sumN]
  | T :: l => by
    have ih := cnt_le l
    unfold wtS at *
    rw [sumN_cons, sumN_cons, List.length_cons]
    have : cntT T ≤ 2 + wtT T := by unfold cntT wtT tabWt rowsWt; omega
    omega
theorem rows_le {l : List T3} {T : T3} (h : T ∈ l) : T.2.2.flatten.length ≤ wtS l := by
  obtain ⟨k, hk, rfl⟩ := List.getElem_of_mem h
  have h1 := sumN_mem wtT hk
  have h2 : (l[k]).2.2.flatten.length ≤ wtT l[k] := by unfold wtT tabWt rowsWt; omega
  unfold wtS
  omega
theorem cnts_of {l : List T3} (h : wtS l ≤ 1048576) : sumN cntT l ≤ 4194308 ∧ ∀ T ∈ l, T.2.2.flatten.length ≤ 1048577 :=
  ⟨by have := cnt_le l; omega, fun T hT => by have := rows_le hT; omega⟩
end Go.Proofs.Ytnoennmhifmolaa.DbExact
