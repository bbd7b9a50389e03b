/- Answers: rows that the call owns, sorted: the library's SortFunc at this program. -/
import Derived.Test.YtnjomgefmoehhaaSort
import Derived.Test.YtnjomgefmoehhaaCdN
namespace Go.Proofs.Ytnjomgefmoehhaa.AnsImp
open Go Go.RowKit Byt Ints IntsLaw Cd Rows2 Tab TabSpec Exact TabImp

/-- A row that the call owns, outside block g. -/
structure RowO (w : World) (base g : Nat) where
  v : Value
  l : List Int
  f : List Nat
  ow : rowC.ow w base [v] l f
  ng : g ∉ f
instance (w : World) (base g : Nat) : Inhabited (RowO w base g) := ⟨⟨.slice none 0 0, [], [], Cd.ow_nil _ _, by simp⟩⟩
theorem each_rowo {w : World} {base g : Nat} : ∀ {xss : List (List Value)} {l : List (List Int)} {fps : List (List Nat)}, Cd.Each rowC w base xss l fps → (∀ f ∈ fps, g ∉ f) →
    ∃ ds : List (RowO w base g), (ds.map fun d => [d.v]) = xss ∧ ds.map RowO.l = l ∧ ds.map RowO.f = fps
  | [], [], [], _, _ => ⟨[], rfl, rfl, rfl⟩
  | x :: xs, a :: az, f :: fs, h, hn => by
    have hl := rowC.len (rowC.ow_rd h.1)
    match x, hl with
    | [v], _ =>
      obtain ⟨ds, h1, h2, h3⟩ := each_rowo (xss := xs) (l := az) (fps := fs) h.2 fun f hf => hn f (List.mem_cons.2 (.inr hf))
      exact ⟨⟨v, a, f, h.1, hn f (List.mem_cons.2 (.inl rfl))⟩ :: ds, by rw [List.map_cons, h1], by rw [List.map_cons, h2], by rw [List.map_cons, h3]⟩
theorem rowo_each {w w' : World} {base g : Nat} (ht : Cd.Touch [g] w w') : ∀ ds : List (RowO w base g), Cd.Each rowC w' base (ds.map fun d => [d.v]) (ds.map RowO.l) (ds.map RowO.f)
  | [] => trivial
  | d :: ds => ⟨Cd.ow_touched d.ow ht (fun b hb q => by rw [List.mem_singleton.1 q] at hb; exact d.ng hb), rowo_each ht ds⟩
theorem flat_one {w : World} {base g : Nat} : ∀ ds : List (RowO w base g), (ds.map fun d => [d.v]).flatten = ds.map RowO.v
  | [] => rfl
  | d :: ds => by rw [List.map_cons, List.flatten_cons, flat_one ds]; rfl
def cfO {w : World} {base g : Nat} (x y : RowO w base g) : Int := cmpR x.l y.l
theorem swoO {w : World} {base g : Nat} : Sort.SWO (ltOf (cfO (w := w) (base := base) (g := g))) where
  irrefl x := by
    unfold ltOf cfO
    rw [cmpR_self]
    rfl
  trans x y z h1 h2 := by
    unfold ltOf cfO at *
    exact decide_eq_true (cmpR_trans (of_decide_eq_true h1) (of_decide_eq_true h2))
  ntrans x y z h1 h2 := by
    unfold ltOf cfO at *
    have h1 := of_decide_eq_false h1
    have h2 := of_decide_eq_false h2
    refine decide_eq_false fun h3 => ?_
    by_cases e : cmpR x.l y.l = 0
    · rw [cmpR_eq e] at h3
      exact h2 h3
    · have h4 := cmpR_anti y.l x.l
      exact h2 (cmpR_trans (show cmpR y.l x.l < 0 by omega) h3)
theorem put_one {α : Type} [Inhabited α] (enc : α → Value) (d : Array α) (cur : Array Value) (h : d.size ≤ cur.size) : (Sort.putCells enc 0 d cur).toList.take d.size = d.toList.map enc := by
  apply List.ext_getElem?
  intro j
  by_cases hj : j < d.size
  · rw [List.getElem?_take, if_pos hj, Array.getElem?_toList]
    unfold Sort.putCells
    rw [Array.getElem?_mapIdx, Array.getElem?_eq_getElem (by omega), List.getElem?_map, Array.getElem?_toList, Array.getElem?_eq_getElem hj]
    simp only [Option.map_some, Nat.zero_le, true_and, Nat.zero_add, hj, if_true, Nat.sub_zero]
    rw [getElem!_pos d j hj]
  · rw [List.getElem?_eq_none (by rw [List.length_take]; omega), List.getElem?_eq_none (by rw [List.length_map, Array.length_toList]; omega)]
theorem heap_sort1 {α : Type} [Inhabited α] (enc : α → Value) (w : World) (g m : Nat) (d : Array α) (os : Array Obj) (hg : g < w.heap.size) {cur : Array Value} {e : TypeId} (h : w.heap[g]? = some (.cells cur e (0, 0))) :
    (sortWorld enc w g 0 m d os).heap[g]? = some (.cells (Sort.putCells enc 0 d cur) e (0, 0)) := by
  unfold sortWorld
  rw [heap_grow _ os (by rw [Sort.size_putRow]; exact hg)]
  show (w.heap.modify g _)[g]? = _
  rw [Array.getElem?_modify, if_pos rfl, h]
  rfl
def SortO (g cap base : Nat) (l : List (List Int)) (w : World) (e : Ending) (w' : World) : Prop :=
  ∃ l' fp', e = .returned (.tuple #[]) ∧ rowsC.ow w' base [.slice (some ⟨g, 0, none⟩) l'.length cap] l' fp' ∧ fp'.Nodup ∧ l'.Perm l ∧ l'.Pairwise (fun a b => cmpR a b ≤ 0) ∧ Cd.Touch [g] w w'

end Go.Proofs.Ytnjomgefmoehhaa.AnsImp
