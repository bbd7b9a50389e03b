/- Tables: rows sorted: the library's SortFunc at this program. -/
import Derived.Test.YtnjomgefmoehhaaCompact2
import Derived.Test.YtnjomgefmoehhaaCdCut
import Derived.Test.YtnjomgefmoehhaaShelf
namespace Go.Proofs.Ytnjomgefmoehhaa.TabImp
open Go Go.RowKit Byt Ints IntsLaw Cd Rows2 Tab TabSpec Exact

/-- A row that lies somewhere in the blocks S. -/
structure RowV (w : World) (S : Nat → Prop) where
  v : Value
  l : List Int
  rd : rowC.rd w S [v] l
instance (w : World) (S : Nat → Prop) : Inhabited (RowV w S) := ⟨⟨.slice none 0 0, [], none, 0, rfl, by simp, .inl rfl⟩⟩
theorem rowv_list {w : World} {S : Nat → Prop} : ∀ {us : List Value} {rows : List (List Int)}, us.length = rows.length → (∀ t, (h : t < us.length) → (h' : t < rows.length) → rowC.rd w S [us[t]] rows[t]) → ∃ ds : List (RowV w S), ds.map RowV.v = us ∧ ds.map RowV.l = rows
  | [], [], _, _ => ⟨[], rfl, rfl⟩
  | u :: us, r :: rows, hl, h => by
    obtain ⟨ds, h1, h2⟩ := rowv_list (us := us) (rows := rows) (by simpa using hl) fun t ht ht' => h (t + 1) (by simpa using ht) (by simpa using ht')
    exact ⟨⟨u, r, h 0 (by simp) (by simp)⟩ :: ds, by rw [List.map_cons, h1], by rw [List.map_cons, h2]⟩
def cfR {w : World} {S : Nat → Prop} (x y : RowV w S) : Int := cmpR x.l y.l
theorem swoR {w : World} {S : Nat → Prop} : Sort.SWO (ltOf (cfR (w := w) (S := S))) where
  irrefl x := by
    unfold ltOf cfR
    rw [cmpR_self]
    rfl
  trans x y z h1 h2 := by
    unfold ltOf cfR at *
    exact decide_eq_true (cmpR_trans (of_decide_eq_true h1) (of_decide_eq_true h2))
  ntrans x y z h1 h2 := by
    unfold ltOf cfR at *
    have h1 := of_decide_eq_false h1
    have h2 := of_decide_eq_false h2
    refine decide_eq_false fun h3 => ?_
    by_cases e : cmpR x.l y.l = 0
    · rw [cmpR_eq e] at h3
      exact h2 h3
    · have h4 := cmpR_anti y.l x.l
      exact h2 (cmpR_trans (show cmpR y.l x.l < 0 by omega) h3)
theorem heap_grow (w : World) (os : Array Obj) {k : Nat} (h : k < w.heap.size) : (Sort.grow w os).heap[k]? = w.heap[k]? := by
  show (w.heap ++ os)[k]? = w.heap[k]?
  rw [Array.getElem?_append_left h]
theorem touch_grow (fp : List Nat) (w : World) (os : Array Obj) : Cd.Touch fp w (Sort.grow w os) :=
  ⟨rfl, rfl, rfl, by show _ ≤ (w.heap ++ os).size; rw [Array.size_append]; omega, fun _ hk _ => heap_grow w os hk⟩
theorem touch_sort {γ : Type} [Inhabited γ] (enc : γ → Value) (w : World) (g m : Nat) (d : Array γ) (os : Array Obj) : Cd.Touch [g] w (sortWorld enc w g 0 m d os) := by
  unfold sortWorld
  exact ((Cd.touch_ahead _ w m).trans (Cd.touch_putRow enc _ g d)).trans (touch_grow _ _ os)

def SortAns (g : Nat) (S : Nat → Prop) (rows : List (List Int)) (w : World) (e : Ending) (w' : World) : Prop :=
  ∃ l' : List (List Int), e = .returned (.tuple #[]) ∧ l'.length = rows.length ∧ (∀ r, r ∈ l' ↔ r ∈ rows) ∧ Srt l' ∧ Lie w' g S l' ∧ Cd.Touch [g] w w'

end Go.Proofs.Ytnjomgefmoehhaa.TabImp
