/- Databases: an owned slice of tables sorted by their names: the library's SortFunc at this program. -/
import Derived.Test.YtdjgaffiildijaaDbImp3
import Derived.Test.YtdjgaffiildijaaCdCut
import Derived.Test.YtdjgaffiildijaaSkShelf
namespace Go.Proofs.Ytdjgaffiildijaa.DbSort
open Go Go.RowKit Byt Ints IntsLaw Cd Rows2 Tab SlMath TabOpen TabElem SlTable Db TabSpec DbMath TabImp DbMap DbExact DbImp

/-- A table with its cells and the blocks below it. -/
structure Tri where
  t : TabV
  T : T3
  f : List Nat
instance : Inhabited Tri := ⟨⟨⟨⟨#[]⟩, 0, none, 0, 0⟩, (⟨#[]⟩, 0, []), []⟩⟩
def encT (x : Tri) : List Value := x.t.us
def cfT (x y : Tri) : Int := cmpN x.t.nm y.t.nm
theorem ltOf_cf (x y : Tri) : ltOf cfT x y = ltB x.t.nm y.t.nm := by
  unfold ltOf cfT
  have := cmpN_lt x.t.nm y.t.nm
  cases h : ltB x.t.nm y.t.nm
  · rw [h] at this; simp only [Bool.false_eq_true, iff_false] at this; exact decide_eq_false this
  · rw [h] at this; exact decide_eq_true (this.2 rfl)
theorem swoT : Sort.SWO (ltOf cfT) where
  irrefl x := by rw [ltOf_cf, ltB_irrefl]
  trans x y z h1 h2 := by rw [ltOf_cf] at *; exact ltB_trans h1 h2
  ntrans x y z h1 h2 := by
    rw [ltOf_cf] at *
    cases h : ltB x.t.nm z.t.nm
    · rfl
    · cases q : ltB y.t.nm x.t.nm
      · rw [ltB_tri h1 q] at h; rw [h] at h2; cases h2
      · have := ltB_trans q h; rw [this] at h2; cases h2
theorem tri_each {w : World} {base : Nat} : ∀ {xss : List (List Value)} {l : List T3} {fps : List (List Nat)}, Cd.Each tabC w base xss l fps → ∃ ds : List Tri, ds.map encT = xss ∧ ds.map Tri.T = l ∧ ds.map Tri.f = fps ∧ ∀ x ∈ ds, tabC.ow w base x.t.us x.T x.f
  | [], [], [], _ => ⟨[], rfl, rfl, rfl, fun _ h => by cases h⟩
  | x :: xs, T :: l, f :: fs, h => by
    obtain ⟨ds, h1, h2, h3, h4⟩ := tri_each (xss := xs) (l := l) (fps := fs) h.2
    obtain ⟨a, c, rfl⟩ := shape_ow h.1
    refine ⟨⟨⟨T.1, T.2.1, a, T.2.2.length, c⟩, T, f⟩ :: ds, by rw [List.map_cons, h1]; rfl, by rw [List.map_cons, h2], by rw [List.map_cons, h3], fun y hy => ?_⟩
    rcases List.mem_cons.1 hy with rfl | q
    · exact h.1
    · exact h4 y q
theorem each_tri {w : World} {base : Nat} : ∀ (ds : List Tri), (∀ x ∈ ds, tabC.ow w base x.t.us x.T x.f) → Cd.Each tabC w base (ds.map encT) (ds.map Tri.T) (ds.map Tri.f)
  | [], _ => trivial
  | x :: ds, h => ⟨h x List.mem_cons_self, each_tri ds fun y hy => h y (List.mem_cons_of_mem _ hy)⟩
theorem flat_at : ∀ (ds : List Tri) (j : Nat), j < ds.length * 3 → (ds.map encT).flatten[j]? = some ((encT (ds.toArray[j / 3]!))[j % 3]!)
  | [], j, h => by simp at h
  | x :: ds, j, h => by
    rw [List.map_cons, List.flatten_cons]
    by_cases q : j < 3
    · rw [List.getElem?_append_left (by simpa [encT, TabV.us] using q), Nat.div_eq_of_lt q, Nat.mod_eq_of_lt q]
      have e : (x :: ds).toArray[0]! = x := rfl
      rw [e, getElem!_pos (encT x) j (by simpa [encT, TabV.us] using q), List.getElem?_eq_getElem]
    · have hl : (encT x).length = 3 := rfl
      rw [List.getElem?_append_right (by omega), hl, flat_at ds (j - 3) (by rw [List.length_cons] at h; omega)]
      have e1 : j / 3 = (j - 3) / 3 + 1 := by omega
      have e2 : j % 3 = (j - 3) % 3 := by omega
      rw [e1, e2]
      have hj : (j - 3) / 3 < ds.length := by rw [List.length_cons] at h; omega
      rw [getElem!_pos ds.toArray _ (by simpa using hj), getElem!_pos (x :: ds).toArray _ (by simpa using hj)]
      simp
theorem flat_len : ∀ (ds : List Tri), (ds.map encT).flatten.length = ds.length * 3
  | [] => rfl
  | x :: ds => by rw [List.map_cons, List.flatten_cons, List.length_append, flat_len ds, List.length_cons]; show 3 + _ = _; omega
theorem put_take (ds : List Tri) (cur : Array Value) (h : ds.length * 3 ≤ cur.size) : (Sort.putCells id 0 (Sort.flatK encT 3 ds.toArray) cur).toList.take (ds.length * 3) = (ds.map encT).flatten := by
  apply List.ext_getElem?
  intro j
  by_cases hj : j < ds.length * 3
  · rw [flat_at ds j hj, List.getElem?_take, if_pos hj, Array.getElem?_toList]
    unfold Sort.putCells
    rw [Array.getElem?_mapIdx, Array.getElem?_eq_getElem (by omega)]
    simp only [Option.map_some, Sort.size_flatK, List.size_toArray, Nat.zero_le, true_and, Nat.zero_add, hj, if_true, id, Nat.sub_zero]
    rw [Sort.get_flatK _ _ _ _ (by simpa using hj)]
  · rw [List.getElem?_eq_none (by rw [List.length_take]; omega), List.getElem?_eq_none (by rw [flat_len]; omega)]
theorem heap_grow (w : World) (os : Array Obj) {k : Nat} (h : k < w.heap.size) : (Sort.grow w os).heap[k]? = w.heap[k]? := by
  show (w.heap ++ os)[k]? = w.heap[k]?
  rw [Array.getElem?_append_left h]
theorem heap_sort (w : World) (g m : Nat) (d : Array Tri) (os : Array Obj) (hg : g < w.heap.size) {cur : Array Value} {e : TypeId} (h : w.heap[g]? = some (.cells cur e (0, 0))) :
    (sortWorldK encT 3 w g 0 m d os).heap[g]? = some (.cells (Sort.putCells id 0 (Sort.flatK encT 3 d) cur) e (0, 0)) := by
  unfold sortWorldK
  rw [heap_grow _ os (by rw [Sort.size_putRowK]; exact hg)]
  show (w.heap.modify g _)[g]? = _
  rw [Array.getElem?_modify, if_pos rfl, h]
  rfl
theorem touch_sortK (w : World) (g m : Nat) (d : Array Tri) (os : Array Obj) : Cd.Touch [g] w (sortWorldK encT 3 w g 0 m d os) := by
  unfold sortWorldK
  exact ((Cd.touch_ahead _ w m).trans (Cd.touch_putRow id _ g _)).trans (Cd.Touch.of_below (below_grow _ os))

/-- The same tables, in the order of their names. -/
def SortAns (g cap base : Nat) (l : List T3) (w : World) (e : Ending) (w' : World) : Prop :=
  ∃ l' fp', e = .returned (.tuple #[]) ∧ tabsC.ow w' base [.slice (some ⟨g, 0, none⟩) l'.length cap] l' fp' ∧ fp'.Nodup ∧ l'.Perm l ∧ l'.Pairwise (fun a b => ltB b.1 a.1 = false) ∧ Cd.Touch [g] w w'

set_option maxRecDepth 100000 in
set_option maxHeartbeats 1600000 in
theorem sort_tables (g cap base : Nat) (l : List T3) (fp : List Nat) (w : World) (ho : tabsC.ow w base [.slice (some ⟨g, 0, none⟩) l.length cap] l fp) (hn : fp.Nodup) (hl : l.length ≤ 1000000) :
    Calls Try.prog 105 #[.slice (some ⟨g, 0, none⟩) l.length cap, .func (.func 83) #[] #[]] w fun e w' => SortAns g cap base l w e w' := by
  obtain ⟨v', xss, fps, e1, hown, hE, rfl⟩ := ho
  injection e1 with e1 _
  subst e1
  obtain ⟨ds, rfl, rfl, rfl, hds⟩ := tri_each hE
  have hdl : (ds.map Tri.T).length = ds.length := List.length_map ..
  rcases hown.2 with ⟨h', _⟩ | ⟨g', cap', cur, h', hbg, hg, hnc, hcm, hcs, htake⟩
  · cases h'
  simp only [Value.slice.injEq, Option.some.injEq, Addr.mk.injEq, and_true, true_and] at h'
  obtain ⟨rfl, rfl⟩ := h'
  have hgw : g < w.heap.size := (Array.getElem?_eq_some_iff.1 hg).1
  simp only [Value.ownBlock, Option.toList_some, List.cons_append, List.nil_append, List.nodup_cons] at hn
  have hsz : ds.toArray.size = (ds.map Tri.T).length := by rw [hdl]; rfl
  have hH : Sort.HoldsK encT 3 w g 0 ds.toArray := by
    intro j hj
    rw [Sort.size_flatK, List.size_toArray] at hj
    have hc := World.ownsRow.cellAt hown j (by rw [hdl]; exact hj)
    rw [flat_at ds j hj] at hc
    rw [Sort.get_flatK _ _ _ _ (by simpa using hj), Nat.zero_add]
    exact ⟨hc, by simp [World.frozen?, hg]⟩
  have hcmp : CmpLays Try.prog 83 #[] encT 3 cfT g 0 ds.toArray.size w := fun m os dk _ x y =>
    (cmp_names x.t.nm y.t.nm _ _ _ _ _).mono fun _ _ ⟨he, os', hw⟩ => ⟨he, 0, os', hw⟩
  have hs := AnyQ.slices_SortFunc Try.laysSk6 3 Try.isAgg28 Try.sizeOf28 encT (fun _ => rfl) (fun x v hv => by simp [encT, TabV.us] at hv; rcases hv with rfl | rfl | rfl <;> rfl) cfT swoT 83 #[] g 0 cap ds.toArray w (enters_of Try.func83 (by kernel_rfl) rfl) hcmp hH hgw (by rw [hsz]; omega)
  rw [hsz] at hs
  refine Calls.mono (show Calls Try.prog 105 _ w _ from hs) ?_
  rintro e w' ⟨rfl, d', m, os, hP, hS, rfl⟩
  obtain ⟨hp1, _, hp3⟩ := hP
  have hd' : d'.size = ds.length := by rw [hp1]; rfl
  have hp : d'.toList.Perm ds := by
    have e1 : d'.extract 0 (ds.map Tri.T).length = d' := by rw [hdl, ← hd', Array.extract_size]
    have e2 : ds.toArray.extract 0 (ds.map Tri.T).length = ds.toArray := by rw [hdl, show ds.length = ds.toArray.size from rfl, Array.extract_size]
    rw [e1, e2] at hp3
    exact hp3
  have hto := touch_sortK w g m d' os
  have hmem : ∀ x ∈ d'.toList, tabC.ow w base x.t.us x.T x.f := fun x hx => hds x (hp.mem_iff.1 hx)
  have hfl : ((d'.toList.map Tri.f).flatten).Perm ((ds.map Tri.f).flatten) := (hp.map Tri.f).flatten
  have hdd : (d'.toList).length = ds.length := hd'
  have hlen : (d'.toList.map Tri.T).length = ds.length := by rw [List.length_map, hdd]
  have hE' : Cd.Each tabC (sortWorldK encT 3 w g 0 m d' os) base (d'.toList.map encT) (d'.toList.map Tri.T) (d'.toList.map Tri.f) := by
    refine Cd.Each.imp (each_tri d'.toList hmem) fun x a f hf hq => tabC.ow_keep hq fun b hb => hto.block b (tabC.ow_lt hq b hb).2 fun q => ?_
    rw [List.mem_singleton.1 q] at hb
    exact hn.1 (hfl.mem_iff.1 (List.mem_flatten.2 ⟨f, hf, hb⟩))
  have hs' := hd'
  refine ⟨d'.toList.map Tri.T, g :: (d'.toList.map Tri.f).flatten, rfl, ⟨_, _, _, rfl, ⟨?_, .inr ⟨g, cap, _, by rw [hlen], hbg, heap_sort w g m d' os hgw hg, by rw [hlen, ← hdl]; exact hnc, hcm, ?_, ?_⟩⟩, hE', rfl⟩, ?_, hp.map Tri.T, ?_, hto⟩
  · rw [flat_len, hlen, hdd]; rfl
  · unfold Sort.putCells; rw [Array.size_mapIdx]; exact hcs
  · rw [hlen, ← hdd]
    have := put_take d'.toList cur (by rw [hcs, hdd, ← hdl]; exact Nat.mul_le_mul_right _ hnc)
    exact this
  · exact List.nodup_cons.2 ⟨fun q => hn.1 (hfl.mem_iff.1 q), hfl.nodup_iff.2 hn.2⟩
  · rw [List.pairwise_map]
    rw [List.pairwise_iff_getElem]
    intro i j hi hj hij
    have h1 := hS i j (Nat.zero_le _) hij (by rw [hdl, ← hdd]; exact hj)
    rw [ltOf_cf, getElem!_pos d' j (by simpa using hj), getElem!_pos d' i (by simpa using hi)] at h1
    have ei : ∀ x ∈ d'.toList, x.t.nm = x.T.1 := fun x hx => by
      have := DbSpec.name_cell (tabC.ow_rd (hmem x hx))
      injection this
    rw [← ei _ (List.getElem_mem hi), ← ei _ (List.getElem_mem hj), Array.getElem_toList, Array.getElem_toList]
    exact h1
end Go.Proofs.Ytdjgaffiildijaa.DbSort
