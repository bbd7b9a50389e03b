/- Tables: rows sorted: the library's SortFunc at this program. -/
import Derived.Test.YtdjgaffiildijabGreatDoorCompact2
import Derived.Test.YtdjgaffiildijabGreatDoorCdCut
import Derived.Test.YtdjgaffiildijabGreatDoorShelf
namespace Go.Proofs.YtdjgaffiildijabGreatDoor.TabImp
open Go Go.RowKit Byt Ints IntsLaw Cd Rows2 Tab TabSpec Exact

/-- A row that lies somewhere in the blocks S. -/
structure RowV (w : World) (S : Nat → Prop) where
  v : Value
  l : List Int
  rd : rowC.rd w S [v] l
instance (w : World) (S : Nat → Prop) : Inhabited (RowV w S) := ⟨⟨.slice none 0 0, [], none, 0, rfl, by simp, .inl rfl⟩⟩
theorem rowv_list {w : World} {S : Nat → Prop} : ∀ {us : List Value} {rows : List (List Int)}, us.length = rows.length → (∀ t, (h : t < us.length) → (h' : t < rows.length) → rowC.rd w S [us[t]] rows[t]) → ∃ ds : List (RowV w S), ds.map RowV.v = us ∧ ds.map RowV.l = rows
  | [], [], _, _ => ⟨[], rfl, rfl⟩
  | u :: us, r :: rows, hl, h => by
    obtain ⟨ds, h1, h2⟩ := rowv_list (us := us) (rows := rows) (by simpa using hl) fun t ht ht' => h (t + 1) (by simpa using ht) (by simpa using ht')
    exact ⟨⟨u, r, h 0 (by simp) (by simp)⟩ :: ds, by rw [List.map_cons, h1], by rw [List.map_cons, h2]⟩
def cfR {w : World} {S : Nat → Prop} (x y : RowV w S) : Int := cmpR x.l y.l
theorem swoR {w : World} {S : Nat → Prop} : Sort.SWO (ltOf (cfR (w := w) (S := S))) where
  irrefl x := by
    unfold ltOf cfR
    rw [cmpR_self]
    rfl
  trans x y z h1 h2 := by
    unfold ltOf cfR at *
    exact decide_eq_true (cmpR_trans (of_decide_eq_true h1) (of_decide_eq_true h2))
  ntrans x y z h1 h2 := by
    unfold ltOf cfR at *
    have h1 := of_decide_eq_false h1
    have h2 := of_decide_eq_false h2
    refine decide_eq_false fun h3 => ?_
    by_cases e : cmpR x.l y.l = 0
    · rw [cmpR_eq e] at h3
      exact h2 h3
    · have h4 := cmpR_anti y.l x.l
      exact h2 (cmpR_trans (show cmpR y.l x.l < 0 by omega) h3)
theorem heap_grow (w : World) (os : Array Obj) {k : Nat} (h : k < w.heap.size) : (Sort.grow w os).heap[k]? = w.heap[k]? := by
  show (w.heap ++ os)[k]? = w.heap[k]?
  rw [Array.getElem?_append_left h]
theorem touch_grow (fp : List Nat) (w : World) (os : Array Obj) : Cd.Touch fp w (Sort.grow w os) :=
  ⟨rfl, rfl, rfl, by show _ ≤ (w.heap ++ os).size; rw [Array.size_append]; omega, fun _ hk _ => heap_grow w os hk⟩
theorem touch_sort {γ : Type} [Inhabited γ] (enc : γ → Value) (w : World) (g m : Nat) (d : Array γ) (os : Array Obj) : Cd.Touch [g] w (sortWorld enc w g 0 m d os) := by
  unfold sortWorld
  exact ((Cd.touch_ahead _ w m).trans (Cd.touch_putRow enc _ g d)).trans (touch_grow _ _ os)

def SortAns (g : Nat) (S : Nat → Prop) (rows : List (List Int)) (w : World) (e : Ending) (w' : World) : Prop :=
  ∃ l' : List (List Int), e = .returned (.tuple #[]) ∧ l'.length = rows.length ∧ (∀ r, r ∈ l' ↔ r ∈ rows) ∧ Srt l' ∧ Lie w' g S l' ∧ Cd.Touch [g] w w'

theorem sort_rows (g cap : Nat) (B : Nat) (rows : List (List Int)) (us : List Value) (w : World) (hul : us.length = rows.length) (hus : ∀ t, (h : t < us.length) → (h' : t < rows.length) → rowC.rd w (· < B) [us[t]] rows[t]) (hB : B ≤ g) (hgw : g < w.heap.size) (hH : ∀ t, (h : t < us.length) → w.cell? ⟨g, t, none⟩ = some us[t] ∧ w.frozen? ⟨g, t, none⟩ = false) (hn : rows.length ≤ 1048577) :
    Calls Tryz.prog 66 #[.slice (some ⟨g, 0, none⟩) rows.length cap, .func (.func 67) #[] #[]] w fun e w' => SortAns g (· < B) rows w e w' := by
  obtain ⟨ds, hv, hl⟩ := rowv_list (w := w) (S := (· < B)) hul hus
  have hdn : ds.length = rows.length := by rw [← hl, List.length_map]
  have hsz : ds.toArray.size = rows.length := by rw [List.size_toArray, hdn]
  have hread : ∀ (m : Nat) (os : Array Obj) (dk : Array (RowV w (· < B))) (x : RowV w (· < B)), rowC.rd (sortWorld RowV.v w g 0 m dk os) (· < B) [x.v] x.l := fun m os dk x =>
    rowC.keep x.rd fun b hb hlt => (touch_sort RowV.v w g m dk os).block b hlt fun e => by have := List.mem_singleton.1 e; omega
  have hcmp : CmpReads Tryz.prog 67 #[] RowV.v cfR g 0 ds.toArray.size w := fun m os dk _ x y =>
    (impl_cmp x.v y.v x.l y.l _ _ (sortWorld RowV.v w g 0 m dk os) (row_ri (hread m os dk x)).1 (row_ri (hread m os dk y)).1).mono fun _ _ h => ⟨h.1, 0, h.2.symm⟩
  have hHold : Sort.Holds (α := RowV w (· < B)) RowV.v w g 0 ds.toArray := by
    intro j hj
    have hj' : j < us.length := by rw [hul, ← hsz]; exact hj
    have hj2 : j < ds.length := by rw [← List.size_toArray]; exact hj
    obtain ⟨h1, h2⟩ := hH j hj'
    have e1 : ds.toArray[j]! = ds[j] := by rw [getElem!_pos _ j hj]; simp
    have e2 : (ds[j]).v = us[j] := by
      have : (ds.map RowV.v)[j]? = us[j]? := by rw [hv]
      rw [List.getElem?_map, List.getElem?_eq_getElem hj2, List.getElem?_eq_getElem hj', Option.map_some] at this
      injection this
    rw [Nat.zero_add, e1, e2]
    exact ⟨h1, h2⟩
  have hs := Tryz.slices_SortFunc RowV.v (fun x => rowC.one x.rd x.v (List.mem_singleton.2 rfl)) cfR swoR 67 #[] g 0 cap ds.toArray w (enters_of Tryz.func67 (by kernel_rfl) rfl) hcmp.lays hHold hgw (by rw [hsz]; omega)
  rw [hsz] at hs
  refine hs.mono ?_
  rintro e w' ⟨rfl, d', m, os, hP, hS, rfl⟩
  obtain ⟨hp1, _, hp3⟩ := hP
  have hds : d'.size = rows.length := by rw [hp1, hsz]
  rw [← hds, Array.extract_size] at hp3
  rw [hds, ← hsz, Array.extract_size] at hp3
  have hlen : (d'.toList.map RowV.l).length = rows.length := by rw [List.length_map, Array.length_toList, hds]
  have hget : ∀ t, (h : t < (d'.toList.map RowV.l).length) → (d'.toList.map RowV.l)[t] = (d'[t]!).l := fun t h => by
    have ht : t < d'.size := by rw [hds, ← hlen]; exact h
    rw [List.getElem_map, getElem!_pos d' t ht]
    simp
  have hgo : (Sort.putRow RowV.v (Sort.ahead w m) g 0 d').heap.size = w.heap.size := by rw [Sort.size_putRow]; rfl
  have hH2 := Sort.holds_putRow RowV.v (Sort.ahead w m) g 0 ds.toArray d' (Sort.holds_ahead RowV.v w m g 0 _ hHold) (by rw [hp1])
  refine ⟨d'.toList.map RowV.l, rfl, hlen, fun r => ?_, fun s t hst ht => ?_, fun t ht => ?_, touch_sort _ _ _ _ _ _⟩
  · have := (hp3.map RowV.l).mem_iff (a := r)
    rw [this, hl]
  · rw [hget s, hget t ht]
    have ht' : t < rows.length := by rw [← hlen]; exact ht
    have h1 := of_decide_eq_false (hS s t (Nat.zero_le _) hst ht')
    have h2 := cmpR_anti (d'[s]!).l (d'[t]!).l
    show cmpR (d'[s]!).l (d'[t]!).l ≤ 0
    have h3 : ¬ cmpR (d'[t]!).l (d'[s]!).l < 0 := h1
    omega
  · have ht' : t < d'.size := by rw [hds, ← hlen]; exact ht
    obtain ⟨h1, h2⟩ := hH2 t ht'
    rw [Nat.zero_add] at h1 h2
    have hb : (sortWorld RowV.v w g 0 m d' os).heap[g]? = (Sort.putRow RowV.v (Sort.ahead w m) g 0 d').heap[g]? := heap_grow _ os (by rw [hgo]; exact hgw)
    refine ⟨(d'[t]!).v, ?_, ?_, ?_⟩
    · exact (World.cell?_of_block (w := Sort.putRow RowV.v (Sort.ahead w m) g 0 d') (a := ⟨g, t, none⟩) hb).trans h1
    · rw [← h2]
      simp only [World.frozen?, hb]
    · rw [hget t ht]
      exact hread m os d' _
end Go.Proofs.YtdjgaffiildijabGreatDoor.TabImp
