/- Whole numbers sorted: the library's Sort at this program. -/
import Derived.Test.YtnoennmhifmolaaCdCut
import Derived.Test.YtnoennmhifmolaaExact
import Derived.Test.YtnoennmhifmolaaShelf
namespace Go.Proofs.Ytnoennmhifmolaa.DepSort
open Go Go.RowKit Byt Ints IntsLaw Cd Rows2

theorem heap_growD (w : World) (os : Array Obj) {k : Nat} (h : k < w.heap.size) : (Sort.grow w os).heap[k]? = w.heap[k]? := by
  show (w.heap ++ os)[k]? = w.heap[k]?
  rw [Array.getElem?_append_left h]
theorem touch_growD (fp : List Nat) (w : World) (os : Array Obj) : Cd.Touch fp w (Sort.grow w os) :=
  ⟨rfl, rfl, rfl, by show _ ≤ (w.heap ++ os).size; rw [Array.size_append]; omega, fun _ hk _ => heap_growD w os hk⟩
theorem put_oneD {α : Type} [Inhabited α] (enc : α → Value) (d : Array α) (cur : Array Value) (h : d.size ≤ cur.size) : (Sort.putCells enc 0 d cur).toList.take d.size = d.toList.map enc := by
  apply List.ext_getElem?
  intro j
  by_cases hj : j < d.size
  · rw [List.getElem?_take, if_pos hj, Array.getElem?_toList]
    unfold Sort.putCells
    rw [Array.getElem?_mapIdx, Array.getElem?_eq_getElem (by omega), List.getElem?_map, Array.getElem?_toList, Array.getElem?_eq_getElem hj]
    simp only [Option.map_some, Nat.zero_le, true_and, Nat.zero_add, hj, if_true, Nat.sub_zero]
    rw [getElem!_pos d j hj]
  · rw [List.getElem?_eq_none (by rw [List.length_take]; omega), List.getElem?_eq_none (by rw [List.length_map, Array.length_toList]; omega)]
theorem bare_holdsD {α : Type} [Inhabited α] {w : World} {g : Nat} {cur : Array Value} {e : TypeId} (enc : α → Value) {l : List α} (hg : w.heap[g]? = some (.cells cur e (0, 0))) (ht : cur.toList.take l.length = l.map enc) : Sort.Holds enc w g 0 l.toArray := by
  intro j hj
  have hj' : j < l.length := by simpa using hj
  have h1 : (cur.toList.take l.length)[j]? = some (enc l[j]) := by rw [ht, List.getElem?_map, List.getElem?_eq_getElem hj', Option.map_some]
  rw [List.getElem?_take, if_pos hj', Array.getElem?_toList] at h1
  rw [Nat.zero_add, getElem!_pos _ j hj]
  refine ⟨?_, by simp [World.frozen?, hg]⟩
  simp [World.cell?, hg, h1]
def sortI (l : List Int) : List Int := l.mergeSort fun x y => decide (x ≤ y)
set_option maxRecDepth 100000 in
theorem sort_ints (v : Value) (l : List Int) (base : Nat) (w : World) (h : OwnI w base 3 v l) (hl : l.length ≤ 1000000) :
    Calls Try.prog 71 #[v] w fun e w' => e = .returned (.tuple #[]) ∧ OwnI w' base 3 v (sortI l) ∧ ∃ fp, (∀ b ∈ fp, base ≤ b) ∧ Cd.Touch fp w w' := by
  rcases h.2 with ⟨h', h0⟩ | ⟨g, cap, cur, h', hbg, hg, hnc, hcm, hcs, htake⟩
  · subst h'
    obtain rfl := List.eq_nil_of_length_eq_zero h0
    refine (Try.slices_Sort_int_none none 0 w).mono ?_
    rintro e w' ⟨rfl, rfl⟩
    exact ⟨rfl, (by rw [show sortI [] = [] from by unfold sortI; simp]; exact h), [], (fun b hb => by cases hb), Cd.Touch.refl _ _⟩
  · subst h'
    rw [Nat.mul_one] at htake hcs
    have hgw : g < w.heap.size := (Array.getElem?_eq_some_iff.1 hg).1
    have hH : Sort.Holds (Value.int .i64) w g 0 l.toArray := bare_holdsD _ hg htake
    refine (Try.slices_Sort_int g 0 cap l w hH hgw (by omega)).mono ?_
    rintro e w' ⟨rfl, n, os, rfl⟩
    have hsz : (l.mergeSort fun x y => decide (x ≤ y)).toArray.size = l.length := by rw [List.size_toArray, List.length_mergeSort]
    have hg2 : (Sort.grow (Sort.putRow (Value.int .i64) (Sort.ahead w n) g 0 (l.mergeSort fun x y => decide (x ≤ y)).toArray) os).heap[g]? = some (.cells (Sort.putCells (Value.int .i64) 0 (l.mergeSort fun x y => decide (x ≤ y)).toArray cur) 3 (0, 0)) := by
      rw [heap_growD _ os (by rw [Sort.size_putRow]; exact hgw)]
      show (w.heap.modify g _)[g]? = _
      rw [Array.getElem?_modify, if_pos rfl, hg]
      rfl
    have ht2 := put_oneD (Value.int .i64) (l.mergeSort fun x y => decide (x ≤ y)).toArray cur (by rw [hsz, hcs]; exact hnc)
    rw [hsz] at ht2
    refine ⟨rfl, ⟨?_, .inr ⟨g, cap, _, ?_, hbg, hg2, ?_, hcm, ?_, ?_⟩⟩, [g], fun b hb => by rw [List.mem_singleton.1 hb]; exact hbg, ((Cd.touch_ahead _ w n).trans (Cd.touch_putRow _ _ g _)).trans (touch_growD _ _ os)⟩
    · unfold sortI
      simp
    · unfold sortI
      rw [List.length_mergeSort]
    · unfold sortI
      rw [List.length_mergeSort]
      exact hnc
    · unfold Sort.putCells
      rw [Array.size_mapIdx, Nat.mul_one]
      exact hcs
    · unfold sortI
      rw [List.length_mergeSort, Nat.mul_one]
      exact ht2
/-- Different numbers, sorted, are strictly ascending. -/
theorem sortI_asc {l : List Int} (h : l.Nodup) : (sortI l).Pairwise (· < ·) := by
  have h1 := List.pairwise_mergeSort (le := fun x y : Int => decide (x ≤ y)) (fun a b c p q => by simp only [decide_eq_true_eq] at *; omega) (fun a b => by simp only [Bool.or_eq_true, decide_eq_true_eq]; omega) l
  have h2 : (sortI l).Nodup := (List.mergeSort_perm l _).nodup_iff.2 h
  exact (List.Pairwise.and h1 h2).imp fun {a b} ⟨p, q⟩ => by
    simp only [decide_eq_true_eq] at p
    omega
theorem sortI_mem {l : List Int} {x : Int} : x ∈ sortI l ↔ x ∈ l := List.mem_mergeSort
end Go.Proofs.Ytnoennmhifmolaa.DepSort
