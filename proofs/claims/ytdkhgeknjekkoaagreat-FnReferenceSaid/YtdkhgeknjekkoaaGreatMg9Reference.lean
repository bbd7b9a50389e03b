/- Texts that the proof rests on, one behind the other. -/
import Derived.Test.YtdkhgeknjekkoaaGreatMg8Reference
import Derived.Test.YtdkhgeknjekkoaaGreatMg4Reference
import Derived.Lib.SliceRun
import Derived.Test.YtdkhgeknjekkoaaGreatShelf
import Derived.Test.YtdkhgeknjekkoaaGreatCdN
import Derived.Test.YtdkhgeknjekkoaaGreatMg3Reference
import Derived.Test.YtdkhgeknjekkoaaGreatMg7Reference

namespace Go.Proofs.YtdkhgeknjekkoaaGreat.TabImp
open Go Go.RowKit Byt Ints IntsLaw Cd Rows2 Tab TabSpec Exact

end Go.Proofs.YtdkhgeknjekkoaaGreat.TabImp

namespace Go.Proofs.YtdkhgeknjekkoaaGreat.TabImp
open Go Go.RowKit Byt Ints IntsLaw Cd Rows2 Tab TabSpec Exact

/-- Rows that lie in block g, each read out of the blocks S. -/
def Lie (w : World) (g : Nat) (S : Nat → Prop) (l : List (List Int)) : Prop :=
  ∀ t, (h : t < l.length) → ∃ u, w.cell? ⟨g, t, none⟩ = some u ∧ w.frozen? ⟨g, t, none⟩ = false ∧ rowC.rd w S [u] l[t]
theorem Lie.drewN {w : World} {g : Nat} {S : Nat → Prop} {l : List (List Int)} (h : Lie w g S l) (m : Nat) : Lie (w.drewN m) g S l := fun t ht => by
  obtain ⟨u, h1, h2, h3⟩ := h t ht
  exact ⟨u, h1, h2, rd_drewN h3 m⟩
theorem Lie.take {w : World} {g : Nat} {S : Nat → Prop} {l : List (List Int)} (h : Lie w g S l) (k : Nat) : Lie w g S (l.take k) := fun t ht => by
  rw [List.length_take] at ht
  obtain ⟨u, h1, h2, h3⟩ := h t (by omega)
  exact ⟨u, h1, h2, by rw [List.getElem_take]; exact h3⟩
theorem Lie.set {w : World} {g : Nat} {S : Nat → Prop} {l : List (List Int)} (h : Lie w g S l) (hg : ¬ S g) {c : Nat} {u : Value} {r : List Int} (hc : c < l.length) (hu : rowC.rd w S [u] r) : Lie (w.setCell ⟨g, c, none⟩ u) g S (l.set c r) := fun t ht => by
  rw [List.length_set] at ht
  obtain ⟨v, h1, h2, h3⟩ := h t ht
  obtain ⟨v0, h4, h5, _⟩ := h c hc
  have hk : ∀ {us : List Value} {x : List Int}, rowC.rd w S us x → rowC.rd (w.setCell ⟨g, c, none⟩ u) S us x := fun q => rowC.keep q fun b hb _ => Below.heap_setCell w _ u b fun (e : b = g) => hg (by rw [← e]; exact hb)
  have hf : (w.setCell ⟨g, c, none⟩ u).frozen? ⟨g, t, none⟩ = w.frozen? ⟨g, t, none⟩ := World.frozen?_setCell w _ _ _
  by_cases e : t = c
  · subst e
    exact ⟨u, World.cell?_setCell_same _ _ _ h4, hf.trans h2, by rw [List.getElem_set_self]; exact hk hu⟩
  · refine ⟨v, ?_, hf.trans h2, ?_⟩
    · rw [World.cell?_setCell_other _ _ _ _ (by intro q; injection q; omega)]
      exact h1
    · rw [List.getElem_set_ne (by omega)]
      exact hk h3
theorem Lie.far {w w' : World} {g : Nat} {S : Nat → Prop} {l : List (List Int)} {k : Nat} (h : Lie w g S l) (hS : ∀ b, S b → b < w.heap.size → w'.heap[b]? = w.heap[b]?) (hc : ∀ t, t < k → w'.cell? ⟨g, t, none⟩ = w.cell? ⟨g, t, none⟩) (hf : ∀ t, t < k → w'.frozen? ⟨g, t, none⟩ = w.frozen? ⟨g, t, none⟩) (hk : l.length ≤ k) : Lie w' g S l := fun t ht => by
  obtain ⟨u, h1, h2, h3⟩ := h t ht
  exact ⟨u, (hc t (by omega)).trans h1, (hf t (by omega)).trans h2, rowC.keep h3 hS⟩
end Go.Proofs.YtdkhgeknjekkoaaGreat.TabImp

namespace Go.Proofs.YtdkhgeknjekkoaaGreat.TabImp
open Go Go.RowKit Byt Ints IntsLaw Cd Rows2 Tab TabSpec Exact

end Go.Proofs.YtdkhgeknjekkoaaGreat.TabImp

namespace Go.Proofs.YtdkhgeknjekkoaaGreat.TabImp
open Go Go.RowKit Byt Ints IntsLaw Cd Rows2 Tab TabSpec Exact

/-- A row that lies somewhere in the blocks S. -/
structure RowV (w : World) (S : Nat → Prop) where
  v : Value
  l : List Int
  rd : rowC.rd w S [v] l
instance (w : World) (S : Nat → Prop) : Inhabited (RowV w S) := ⟨⟨.slice none 0 0, [], none, 0, rfl, by simp, .inl rfl⟩⟩
theorem heap_grow (w : World) (os : Array Obj) {k : Nat} (h : k < w.heap.size) : (Sort.grow w os).heap[k]? = w.heap[k]? := by
  show (w.heap ++ os)[k]? = w.heap[k]?
  rw [Array.getElem?_append_left h]
theorem touch_grow (fp : List Nat) (w : World) (os : Array Obj) : Cd.Touch fp w (Sort.grow w os) :=
  ⟨rfl, rfl, rfl, by show _ ≤ (w.heap ++ os).size; rw [Array.size_append]; omega, fun _ hk _ => heap_grow w os hk⟩
theorem touch_sort {γ : Type} [Inhabited γ] (enc : γ → Value) (w : World) (g m : Nat) (d : Array γ) (os : Array Obj) : Cd.Touch [g] w (sortWorld enc w g 0 m d os) := by
  unfold sortWorld
  exact ((Cd.touch_ahead _ w m).trans (Cd.touch_putRow enc _ g d)).trans (touch_grow _ _ os)

end Go.Proofs.YtdkhgeknjekkoaaGreat.TabImp

namespace Go.Proofs.YtdkhgeknjekkoaaGreat.AnsImp
open Go Go.RowKit Byt Ints IntsLaw Cd Rows2 Tab TabSpec Exact TabImp

/-- A row that the call owns, outside block g. -/
structure RowO (w : World) (base g : Nat) where
  v : Value
  l : List Int
  f : List Nat
  ow : rowC.ow w base [v] l f
  ng : g ∉ f
instance (w : World) (base g : Nat) : Inhabited (RowO w base g) := ⟨⟨.slice none 0 0, [], [], Cd.ow_nil _ _, by simp⟩⟩
theorem each_rowo {w : World} {base g : Nat} : ∀ {xss : List (List Value)} {l : List (List Int)} {fps : List (List Nat)}, Cd.Each rowC w base xss l fps → (∀ f ∈ fps, g ∉ f) →
    ∃ ds : List (RowO w base g), (ds.map fun d => [d.v]) = xss ∧ ds.map RowO.l = l ∧ ds.map RowO.f = fps
  | [], [], [], _, _ => ⟨[], rfl, rfl, rfl⟩
  | x :: xs, a :: az, f :: fs, h, hn => by
    have hl := rowC.len (rowC.ow_rd h.1)
    match x, hl with
    | [v], _ =>
      obtain ⟨ds, h1, h2, h3⟩ := each_rowo (xss := xs) (l := az) (fps := fs) h.2 fun f hf => hn f (List.mem_cons.2 (.inr hf))
      exact ⟨⟨v, a, f, h.1, hn f (List.mem_cons.2 (.inl rfl))⟩ :: ds, by rw [List.map_cons, h1], by rw [List.map_cons, h2], by rw [List.map_cons, h3]⟩
theorem rowo_each {w w' : World} {base g : Nat} (ht : Cd.Touch [g] w w') : ∀ ds : List (RowO w base g), Cd.Each rowC w' base (ds.map fun d => [d.v]) (ds.map RowO.l) (ds.map RowO.f)
  | [] => trivial
  | d :: ds => ⟨Cd.ow_touched d.ow ht (fun b hb q => by rw [List.mem_singleton.1 q] at hb; exact d.ng hb), rowo_each ht ds⟩
theorem flat_one {w : World} {base g : Nat} : ∀ ds : List (RowO w base g), (ds.map fun d => [d.v]).flatten = ds.map RowO.v
  | [] => rfl
  | d :: ds => by rw [List.map_cons, List.flatten_cons, flat_one ds]; rfl
def cfO {w : World} {base g : Nat} (x y : RowO w base g) : Int := cmpR x.l y.l
theorem swoO {w : World} {base g : Nat} : Sort.SWO (ltOf (cfO (w := w) (base := base) (g := g))) where
  irrefl x := by
    unfold ltOf cfO
    rw [cmpR_self]
    rfl
  trans x y z h1 h2 := by
    unfold ltOf cfO at *
    exact decide_eq_true (cmpR_trans (of_decide_eq_true h1) (of_decide_eq_true h2))
  ntrans x y z h1 h2 := by
    unfold ltOf cfO at *
    have h1 := of_decide_eq_false h1
    have h2 := of_decide_eq_false h2
    refine decide_eq_false fun h3 => ?_
    by_cases e : cmpR x.l y.l = 0
    · rw [cmpR_eq e] at h3
      exact h2 h3
    · have h4 := cmpR_anti y.l x.l
      exact h2 (cmpR_trans (show cmpR y.l x.l < 0 by omega) h3)
theorem put_one {α : Type} [Inhabited α] (enc : α → Value) (d : Array α) (cur : Array Value) (h : d.size ≤ cur.size) : (Sort.putCells enc 0 d cur).toList.take d.size = d.toList.map enc := by
  apply List.ext_getElem?
  intro j
  by_cases hj : j < d.size
  · rw [List.getElem?_take, if_pos hj, Array.getElem?_toList]
    unfold Sort.putCells
    rw [Array.getElem?_mapIdx, Array.getElem?_eq_getElem (by omega), List.getElem?_map, Array.getElem?_toList, Array.getElem?_eq_getElem hj]
    simp only [Option.map_some, Nat.zero_le, true_and, Nat.zero_add, hj, if_true, Nat.sub_zero]
    rw [getElem!_pos d j hj]
  · rw [List.getElem?_eq_none (by rw [List.length_take]; omega), List.getElem?_eq_none (by rw [List.length_map, Array.length_toList]; omega)]
theorem heap_sort1 {α : Type} [Inhabited α] (enc : α → Value) (w : World) (g m : Nat) (d : Array α) (os : Array Obj) (hg : g < w.heap.size) {cur : Array Value} {e : TypeId} (h : w.heap[g]? = some (.cells cur e (0, 0))) :
    (sortWorld enc w g 0 m d os).heap[g]? = some (.cells (Sort.putCells enc 0 d cur) e (0, 0)) := by
  unfold sortWorld
  rw [heap_grow _ os (by rw [Sort.size_putRow]; exact hg)]
  show (w.heap.modify g _)[g]? = _
  rw [Array.getElem?_modify, if_pos rfl, h]
  rfl
def SortO (g cap base : Nat) (l : List (List Int)) (w : World) (e : Ending) (w' : World) : Prop :=
  ∃ l' fp', e = .returned (.tuple #[]) ∧ rowsC.ow w' base [.slice (some ⟨g, 0, none⟩) l'.length cap] l' fp' ∧ fp'.Nodup ∧ l'.Perm l ∧ l'.Pairwise (fun a b => cmpR a b ≤ 0) ∧ Cd.Touch [g] w w'

set_option maxRecDepth 100000 in
set_option maxHeartbeats 1600000 in
theorem sort_owned (g cap base : Nat) (l : List (List Int)) (fp : List Nat) (w : World) (ho : rowsC.ow w base [.slice (some ⟨g, 0, none⟩) l.length cap] l fp) (hn : fp.Nodup) (hl : l.length ≤ 1000000) :
    Calls Tryz.prog 97 #[.slice (some ⟨g, 0, none⟩) l.length cap, .func (.func 98) #[] #[]] w fun e w' => SortO g cap base l w e w' := by
  obtain ⟨v', xss, fps, e1, hown, hE, rfl⟩ := ho
  injection e1 with e1 _
  subst e1
  rcases hown.2 with ⟨h', _⟩ | ⟨g', cap', cur, h', hbg, hg, hnc, hcm, hcs, htake⟩
  · cases h'
  simp only [Value.slice.injEq, Option.some.injEq, Addr.mk.injEq, and_true, true_and] at h'
  obtain ⟨rfl, rfl⟩ := h'
  have hgw : g < w.heap.size := (Array.getElem?_eq_some_iff.1 hg).1
  simp only [Value.ownBlock, Option.toList_some, List.cons_append, List.nil_append, List.nodup_cons] at hn
  obtain ⟨ds, rfl, rfl, rfl⟩ := each_rowo (g := g) hE (fun f hf q => hn.1 (List.mem_flatten.2 ⟨f, hf, q⟩))
  have hdl : (ds.map RowO.l).length = ds.length := List.length_map ..
  have hsz : ds.toArray.size = (ds.map RowO.l).length := by rw [hdl]; rfl
  have hown1 : w.ownsRow base 32 1 (.slice (some ⟨g, 0, none⟩) (ds.map RowO.l).length cap) (ds.map RowO.l).length (ds.map fun d => [d.v]).flatten := hown
  have hH : Sort.Holds RowO.v w g 0 ds.toArray := by
    intro j hj
    have hj2 : j < ds.length := by rw [← List.size_toArray]; exact hj
    have hc := World.ownsRow.cellAt hown1 j (by rw [hdl]; omega)
    rw [flat_one, List.getElem?_map, List.getElem?_eq_getElem hj2, Option.map_some] at hc
    have e1 : ds.toArray[j]! = ds[j] := by rw [getElem!_pos _ j hj]; simp
    rw [Nat.zero_add, e1]
    exact ⟨hc, by simp [World.frozen?, hg]⟩
  have hcmp : CmpReads Tryz.prog 98 #[] (RowO.v (w := w) (base := base) (g := g)) cfO g 0 ds.toArray.size w := fun m os dk _ x y =>
    (impl_cmp x.v y.v x.l y.l _ _ (sortWorld RowO.v w g 0 m dk os)
      (row_ri (rowC.ow_rd (Cd.ow_touched x.ow (touch_sort RowO.v w g m dk os) (fun b hb q => by rw [List.mem_singleton.1 q] at hb; exact x.ng hb)))).1
      (row_ri (rowC.ow_rd (Cd.ow_touched y.ow (touch_sort RowO.v w g m dk os) (fun b hb q => by rw [List.mem_singleton.1 q] at hb; exact y.ng hb)))).1).mono fun _ _ h => ⟨h.1, 0, h.2.symm⟩
  have hs := Tryz.slices_SortFunc RowO.v (fun x => rowC.one (rowC.ow_rd x.ow) x.v (List.mem_singleton.2 rfl)) cfO swoO 98 #[] g 0 cap ds.toArray w (enters_of Tryz.func98 (by kernel_rfl) rfl) hcmp.lays hH hgw (by rw [hsz]; omega)
  rw [hsz] at hs
  refine hs.mono ?_
  rintro e w' ⟨rfl, d', m, os, hP, hS, rfl⟩
  obtain ⟨hp1, _, hp3⟩ := hP
  have hd' : d'.size = ds.length := by rw [hp1]; rfl
  have hp : d'.toList.Perm ds := by
    have e1 : d'.extract 0 (ds.map RowO.l).length = d' := by rw [hdl, ← hd', Array.extract_size]
    have e2 : ds.toArray.extract 0 (ds.map RowO.l).length = ds.toArray := by rw [hdl, show ds.length = ds.toArray.size from rfl, Array.extract_size]
    rw [e1, e2] at hp3
    exact hp3
  have hto := touch_sort RowO.v w g m d' os
  have hE' := rowo_each hto d'.toList
  have hlen : (d'.toList.map RowO.l).length = ds.length := by rw [List.length_map]; exact hd'
  have hfl : ((d'.toList.map RowO.f).flatten).Perm ((ds.map RowO.f).flatten) := (hp.map RowO.f).flatten
  refine ⟨d'.toList.map RowO.l, g :: (d'.toList.map RowO.f).flatten, rfl, ⟨_, _, _, rfl, ⟨?_, .inr ⟨g, cap, _, by rw [hlen], hbg, heap_sort1 RowO.v w g m d' os hgw hg, by rw [hlen, ← hdl]; exact hnc, hcm, ?_, ?_⟩⟩, hE', rfl⟩, ?_, hp.map RowO.l, ?_, hto⟩
  · rw [flat_one, List.length_map, List.length_map]; exact (Nat.mul_one _).symm
  · unfold Sort.putCells; rw [Array.size_mapIdx]; exact hcs
  · rw [flat_one, hlen, ← hd']
    have hcs' : cur.size = cap := by rw [hcs]; exact Nat.mul_one _
    have := put_one RowO.v d' cur (by rw [hcs', hd', ← hdl]; exact hnc)
    show List.take (d'.size * 1) _ = _
    rw [Nat.mul_one]
    exact this
  · exact List.nodup_cons.2 ⟨fun q => hn.1 (hfl.mem_iff.1 q), hfl.nodup_iff.2 hn.2⟩
  · rw [List.pairwise_map, List.pairwise_iff_getElem]
    intro i j hi hj hij
    have hj' : j < ds.length := by rw [← hd']; exact hj
    have h1 := of_decide_eq_false (hS i j (Nat.zero_le _) hij (by rw [hdl]; exact hj'))
    rw [getElem!_pos d' j (by simpa using hj), getElem!_pos d' i (by simpa using hi)] at h1
    have h2 := cmpR_anti (d'[i]'(by simpa using hi)).l (d'[j]'(by simpa using hj)).l
    unfold cfO at h1
    rw [Array.getElem_toList, Array.getElem_toList]
    omega
end Go.Proofs.YtdkhgeknjekkoaaGreat.AnsImp

namespace Go.Proofs.YtdkhgeknjekkoaaGreat.AnsImp
open Go Go.RowKit Byt Ints IntsLaw Cd Rows2 Tab TabSpec Exact Atom AnsMath TabImp

theorem rows_kind {w : World} {base : Nat} {v : Value} {l : List (List Int)} {fp : List Nat} (h : rowsC.ow w base [v] l fp) : (v = .slice none 0 0 ∧ l = []) ∨ ∃ g cap, v = .slice (some ⟨g, 0, none⟩) l.length cap ∧ g ∈ fp := by
  obtain ⟨v', xss, fps, e1, hown, hE, rfl⟩ := h
  injection e1 with e1 _
  subst e1
  rcases hown.2 with ⟨rfl, h0⟩ | ⟨g, cap, cur, rfl, _⟩
  · exact .inl ⟨rfl, List.eq_nil_of_length_eq_zero h0⟩
  · exact .inr ⟨g, cap, rfl, List.mem_append_left _ (by simp [Value.ownBlock])⟩
theorem clo_all (l : List Rel) (vs : List Int) (S : Nat → Prop) (B0 bR bV bO bM : Nat) (hok : ∀ R ∈ l, RelOk R) (hin : ∀ R ∈ l, ∀ v ∈ R.1, 0 ≤ v ∧ v < 4) (hl4 : l.length ≤ 4) (h4 : ∀ v ∈ vs, 0 ≤ v ∧ v < 4) (hv4 : vs.length ≤ 4) :
    ∀ d i, i + d = l.length → CloC l vs S B0 bR bV bO bM i
  | 0, i, h => by
    have e : i = l.length := by omega
    subst e
    exact clo_base l vs h4 hv4 S B0 bR bV bO bM
  | d + 1, i, h => clo_step l vs S B0 bR bV bO bM hok hin hl4 i (by omega) (clo_all l vs S B0 bR bV bO bM hok hin hl4 h4 hv4 d (i + 1) (by omega))
theorem env_join (w : World) (l : List Rel) (vs : List Int) (ur uv : Value) (hr : relsC.rd w (· < w.heap.size) [ur] l) (hv : rowC.rd w (· < w.heap.size) [uv] vs) {W : World}
    (h : (((w.alloc (.cells #[uv] 32 (0, 0))).alloc (.cells #[ur] 78 (0, 0))).alloc (.cells #[.slice none 0 0] 33 (0, 0))).alloc (.cells #[cloV (w.heap.size + 1) w.heap.size (w.heap.size + 1 + 1) (w.heap.size + 1 + 1 + 1)] 115 (0, 0)) = W) :
    EnvJ W l vs (· < w.heap.size) ur uv (w.heap.size + 4) (w.heap.size + 1) w.heap.size (w.heap.size + 1 + 1) (w.heap.size + 1 + 1 + 1) ∧ StJ W (w.heap.size + 4) (w.heap.size + 1 + 1) [] (.slice none 0 0) [] ∧ Below w.heap.size w W ∧ W.heap.size = w.heap.size + 4 := by
  subst h
  have s1 := size_alloc w (.cells #[uv] 32 (0, 0))
  have s2 := size_alloc (w.alloc (.cells #[uv] 32 (0, 0))) (.cells #[ur] 78 (0, 0))
  have s3 := size_alloc ((w.alloc (.cells #[uv] 32 (0, 0))).alloc (.cells #[ur] 78 (0, 0))) (.cells #[.slice none 0 0] 33 (0, 0))
  generalize hW1 : w.alloc (.cells #[uv] 32 (0, 0)) = W1 at *
  obtain ⟨r1, _, b1⟩ := start1 w _ hW1
  generalize hW2 : W1.alloc (.cells #[ur] 78 (0, 0)) = W2 at *
  obtain ⟨r2, _, b2⟩ := start1 W1 _ hW2
  generalize hW3 : W2.alloc (.cells #[.slice none 0 0] 33 (0, 0)) = W3 at *
  obtain ⟨r3, _, b3⟩ := start1 W2 _ hW3
  generalize hW4 : W3.alloc _ = W4 at *
  obtain ⟨r4, s4, b4⟩ := start1 W3 _ hW4
  clear hW1 hW2 hW3 hW4
  have hz4 : W4.heap.size = w.heap.size + 4 := by omega
  have hB : Below w.heap.size w W4 := below_then (below_then (below_then b1 b2) b3) b4
  rw [s1] at r2
  rw [show W2.heap.size = w.heap.size + 1 + 1 by omega] at r3
  rw [show W3.heap.size = w.heap.size + 1 + 1 + 1 by omega] at r4
  have e1 := row_later (row_later (row_later r1 b2) b3) b4
  have e2 := row_later (row_later r2 b3) b4
  have e3 := row_later r3 b4
  refine ⟨⟨by simp [World.cell?, e2], by simp [World.cell?, e1], by simp [World.cell?, r4], Cd.later hr hB, Cd.later hv hB, by omega, by omega, by omega, by omega, by omega, by omega, by omega, by omega, fun b hb => by omega, by omega⟩,
    ⟨by simp [World.cell?, e3], by simp [World.frozen?, e3], Cd.ow_nil _ _, by simp⟩, hB, hz4⟩

set_option maxRecDepth 100000 in
set_option maxHeartbeats 1600000 in
theorem sort_none (w : World) : Calls Tryz.prog 97 #[.slice none 0 0, .func (.func 98) #[] #[]] w fun e w' => e = .returned (.tuple #[]) ∧ w = w' := by
  have h1 : ∀ w : World, Calls Tryz.prog 162 #[.slice none 0 0, .int .i64 0, .int .i64 0, .func (.func 98) #[] #[]] w fun e w' => e = .returned (.tuple #[]) ∧ w = w' := fun w => by
    go_enter Tryz.func162, Tryz.ntmps162
    go_wp2
    refine wp_loop_rounds 1 ?_
    rw [rounds_succ]
    go_wp2
    exact bodyPost_end (v := .tuple #[]) (by simp [results, Tryz.results162, go_sem]) rfl ⟨rfl, rfl⟩
  have H1 := Lib.hid h1
  have h2 : ∀ (lim : Int) (w : World), Calls Tryz.prog 136 #[.slice none 0 0, .int .i64 0, .int .i64 0, .int .i64 lim, .func (.func 98) #[] #[]] w fun e w' => e = .returned (.tuple #[]) ∧ w = w' := fun lim w => by
    clear h1
    go_enter Tryz.func136, Tryz.ntmps136
    go_wp2
    refine wp_loop_rounds 1 ?_
    rw [rounds_succ]
    go_wp2_with (go_at_call 162; refine (H1.out _).mono ?_; rintro e w' ⟨rfl, rfl⟩)
    (try simp only [Exit.inBlock, Exit.then])
    exact bodyPost_ret (v := .tuple #[]) (by simp [results, Tryz.results136, go_sem]) rfl ⟨rfl, rfl⟩
  have H2 := Lib.hid h2
  clear h1 h2
  go_enter Tryz.func97, Tryz.ntmps97
  go_wp2_with (first | (go_at_call 131; refine (Tryz.bits_Len 0 _ (by decide) (by decide)).mono ?_; rintro e w' ⟨rfl, rfl⟩) | (go_at_call 136; refine (H2.out _ _).mono ?_; rintro e w' ⟨rfl, rfl⟩))
  exact bodyPost_end (v := .tuple #[]) (by simp [results, Tryz.results97, go_sem]) rfl ⟨rfl, rfl⟩

theorem JAns.clo {w w' : World} {l : List Rel} {vs : List Int} {S : Nat → Prop} {ur uv : Value} {B0 bR bV bO bM : Nat} {M : List (List Int)} (ha : JAns B0 bO [] M w w') (h : EnvJ w l vs S ur uv B0 bR bV bO bM) :
    w'.cell? ⟨bM, 0, none⟩ = some (.func (.func 93) #[] #[.pointer (some ⟨bR, 0, none⟩), .pointer (some ⟨bV, 0, none⟩), .pointer (some ⟨bO, 0, none⟩), .pointer (some ⟨bM, 0, none⟩)]) := by
  obtain ⟨o', fp', h1, h2, h3⟩ := ha
  exact (h.touched h3 (fun _ hb => by cases hb)).m
set_option maxRecDepth 100000 in
set_option maxHeartbeats 3200000 in
theorem impl_join (vv rv : Value) (vs : List Int) (l : List Rel) (S1 S2 : Nat → Prop) (w : World) (h1 : rowC.rd w S1 [vv] vs) (h2 : relsC.rd w S2 [rv] l) (hc : Cover vs l) (hin : ∀ R ∈ l, ∀ v ∈ R.1, 0 ≤ v ∧ v < 4) (h4 : ∀ v ∈ vs, 0 ≤ v ∧ v < 4) (hv4 : vs.length ≤ 4) (hl4 : l.length ≤ 4) :
    Calls Tryz.prog 49 #[vv, rv] w fun e w' => ∃ v' fp, e = .returned v' ∧ rowsC.ow w' w.heap.size [v'] (walkL vs l vs.length []) fp ∧ fp.Nodup ∧ Below w.heap.size w w' := by
  have hcell : ∀ {α : Type} {c : Cd α} {S : Nat → Prop} {us : List Value} {a : α}, c.rd w S us a → c.rd w (· < w.heap.size) us a := fun h => Cd.mono _ h fun b hb _ => hb
  have HENV := Lib.hid (fun W h => env_join w l vs rv vv (hcell h2) (hcell h1) (W := W) h)
  have HCLO := Lib.hid (clo_all l vs (· < w.heap.size) (w.heap.size + 4) (w.heap.size + 1) w.heap.size (w.heap.size + 1 + 1) (w.heap.size + 1 + 1 + 1) hc.ok hin hl4 h4 hv4 l.length 0 (by omega))
  have HML := Lib.hid (len_ansM (vs := vs) hc.ok hl4)
  have HSRT := Lib.hid (fun (m : List (List Int)) h h' => sorted_ansM (m := m) hc h h')
  have H8 := Lib.hid (show 8 ^ (l.length - 0) ≤ 4096 from Nat.le_trans (Nat.pow_le_pow_right (by decide) hl4) (by decide))
  obtain ⟨a1, c1, rfl, hl1⟩ := row_form h1
  obtain ⟨a2, c2, rfl, hl2⟩ := Cd.sl_form h2
  clear h1 h2 hc hin h4 hv4 hl4 hcell
  have hmf : ∀ (fn : Fn) (first cap : Array Value) (w : World), (Instr.makeFunc fn first cap).run Tryz.prog w = .ok (.func fn first cap) w := fun _ _ _ _ => rfl
  have hsf := fun (a : Addr) (c : Array Value) (w : World) => run_store Tryz.prog w a (.func (.func 93) #[] c) .plain rfl
  go_enter Tryz.func49, Tryz.ntmps49
  go_upto_region 4 with fail
  clear hmf hsf
  generalize hW : (((w.alloc _).alloc _).alloc _).alloc _ = W
  obtain ⟨henv, hst, hb0, hz⟩ := HENV.out W hW
  clear hW
  have y0 := henv.m
  unfold cloV at y0
  have HE := Lib.hid henv
  have HS := Lib.hid hst
  have HB := Lib.hid hb0
  have HZ := Lib.hid hz
  have HY := Lib.hid y0
  clear henv hst hb0 hz
  have kk : DbSpec.LaterD W W.drew := (Below.refl _ W).drew
  go_region_held3 (fun wx => wx.cell? ⟨w.heap.size + 1 + 1 + 1, 0, none⟩ = some (.func (.func 93) #[] #[.pointer (some ⟨w.heap.size + 1, 0, none⟩), .pointer (some ⟨w.heap.size, 0, none⟩), .pointer (some ⟨w.heap.size + 1 + 1, 0, none⟩), .pointer (some ⟨w.heap.size + 1 + 1 + 1, 0, none⟩)]))
    (assumption)
    (first
      | (go_at_call 96; refine (impl_empty _).mono ?_; rintro e wq ⟨rfl, hbq⟩; (have kk : DbSpec.LaterD W wq := below_then (by assumption) hbq); (have EQ := Lib.hid (HE.out.later kk)); (have SQ := Lib.hid (HS.out.later kk)); (have y0 := EQ.out.m); unfold cloV at y0; (have HCALL := Lib.hid (HCLO.out emp wq _ _ _ [] [] emp_bd EQ.out SQ.out (by have := H8.out; simp at *; omega))); unfold arrV at HCALL ⊢; clear hbq)
      | (go_at_call 93; refine HCALL.out.mono ?_; rintro e wp ⟨rfl, ha⟩; (have HA := Lib.hid ha); (have y0 := JAns.clo ha EQ.out); clear ha))
  all_goals
    obtain ⟨o', fp', h1', h2, h3⟩ := HA.out
    have h1 : StJ wp (w.heap.size + 4) (w.heap.size + 1 + 1) (ansM vs l) o' fp' := h1'
    have hbp : Below w.heap.size w wp := Cd.Touch.below (below_then HB.out (show Below W.heap.size W wq by assumption)) h3 (fun b hb => by
      have hb1 := List.mem_singleton.1 hb
      omega)
    have HBP := Lib.hid hbp
    have HST := Lib.hid h1
    clear h1 h1' h2 h3 hbp y0 kk
    rcases rows_kind HST.out.ow with ⟨rfl, hnil⟩ | ⟨g, cap, rfl, hg⟩
    · have HN := Lib.hid (HSRT.out [] (by rw [hnil]) List.Pairwise.nil)
      have z0 := HST.out.c
      clear hnil
      go_wp2_with (first | (go_at_call 97; refine (sort_none _).mono ?_; rintro e w' ⟨rfl, rfl⟩))
      go_ret
      exact ⟨_, [], rfl, by rw [← HN.out]; exact Cd.ow_nil _ _, List.nodup_nil, HBP.out⟩
    · have HSO := Lib.hid (sort_owned g cap (w.heap.size + 4) (ansM vs l) fp' wp HST.out.ow HST.out.nd (by have := HML.out; omega))
      have z0 := HST.out.c
      have HG := Lib.hid ((rowsC.ow_lt HST.out.ow g hg).1)
      clear hg
      go_wp2_with fail
      refine HSO.out.mono ?_
      rintro e w9 ⟨l', fp9, rfl, ho9, hn9, hp9, hs9, ht9⟩
      have HN := Lib.hid (HSRT.out l' hp9 hs9)
      have HLN := Lib.hid hp9.length_eq
      have z9 := ht9.cell z0 (show w.heap.size + 1 + 1 ∉ [g] by have := HG.out; simp; omega)
      have HB9 := Lib.hid (Cd.Touch.below HBP.out ht9 (fun b hb => by have := HG.out; have hb1 := List.mem_singleton.1 hb; omega))
      have HO9 := Lib.hid (show rowsC.ow w9 w.heap.size [.slice (some ⟨g, 0, none⟩) (ansM vs l).length cap] l' fp9 from by rw [← hp9.length_eq]; exact rowsC.ow_base ho9 (by omega))
      have HN9 := Lib.hid hn9
      clear ho9 hn9 hp9 hs9 ht9 z0
      go_wp2_with fail
      go_ret
      exact ⟨_, fp9, rfl, by rw [← HN.out]; exact HO9.out, HN9.out, HB9.out⟩
end Go.Proofs.YtdkhgeknjekkoaaGreat.AnsImp

namespace Go.Proofs.YtdkhgeknjekkoaaGreat.QgImp
open Go Go.RowKit Byt Ints IntsLaw Cd Rows2 Tab TabSpec Exact Atom QryMath QrySpec QryImp MkAtom SlMath QgMath QgSpec

theorem it_sub : ∀ G < 64, ∀ m < 16, ∀ k ≤ 5, it G m k ≤ m := by decide +kernel
def rr (G m : Nat) : Nat → Nat
  | 0 => 0
  | k + 1 => it G m k
theorem cOk_le {n : Int} {l : List A2} {k : Nat} (h : k ≤ fm n l) : cOk n l (k : Int) = conn (gr l) k := by
  rcases Nat.eq_zero_or_pos k with q | q
  · subst q
    unfold cOk
    exact Bool.and_false _
  · unfold cOk
    rw [fm_mOk q h, Bool.true_and, Int.toNat_natCast]
/-- The neighbours among the atoms of a list. -/
def nbF (G t : Nat) (l : List Int) : Nat := l.foldl (fun s v => if anyA G t v.toNat then s ||| 2 ^ v.toNat else s) 0
theorem nbF_snoc (G t : Nat) (l : List Int) (v : Int) : nbF G t (l ++ [v]) = if anyA G t v.toNat then nbF G t l ||| 2 ^ v.toNat else nbF G t l := by simp [nbF]
theorem nbF_lt (G t : Nat) : ∀ (l : List Int) (s : Nat), s < 16 → In4 l → l.foldl (fun s v => if anyA G t v.toNat then s ||| 2 ^ v.toNat else s) s < 16
  | [], _, hs, _ => hs
  | x :: xs, s, hs, h => by
    refine nbF_lt G t xs _ ?_ fun y hy => h y (List.mem_cons_of_mem _ hy)
    show (if anyA G t x.toNat = true then s ||| 2 ^ x.toNat else s) < 16
    split
    · exact or_lt hs (pow4n (h x List.mem_cons_self))
    · exact hs
theorem nbF_near : ∀ n ≤ 4, ∀ G < 64, G &&& pairs n = G → ∀ t < 2 ^ n, nbF G t (varsL ((2 ^ n - 1) &&& (15 - t))) = near G t := by decide +kernel
theorem vars_bits : ∀ n ≤ 4, ∀ t < 2 ^ n, ∀ v ∈ varsL ((2 ^ n - 1) &&& (15 - t)), v.toNat < n ∧ t / 2 ^ v.toNat % 2 = 0 := by decide +kernel
theorem in4_vars (s : Nat) : In4 (varsL s) := fun x hx => by
  unfold varsL varsTo at hx
  obtain ⟨y, hy, rfl⟩ := List.mem_map.1 hx
  have := List.mem_range.1 (List.mem_filter.1 hy).1
  simp only [Int.ofNat_eq_natCast]
  omega
theorem mB_one {n : Int} {l : List A2} (hq : qOk n l = true) {k : Nat} (hk : k < l.length) : mB n l ((2 ^ k : Nat) : Int) = V l k := by
  have h4 := (qOk_iff.1 hq).2.2.2.1
  have : mOk n l ((2 ^ k : Nat) : Int) = true := by
    rw [mOk_iff, pow_cast]
    have h2 : 2 ^ k < 2 ^ l.length := Nat.pow_lt_pow_right (by decide) hk
    exact ⟨hq, Int.natCast_nonneg _, Int.ofNat_lt.2 h2⟩
  rw [mB_yes this, Int.toNat_natCast]
  exact sel_one_in h4 hk
set_option maxRecDepth 100000 in
theorem impl_full (n : Int) (u : Value) (l : List A2) (S : Nat → Prop) (w : World) (hr : atomsC.rd w S [u] l) :
    Calls Tryz.prog 45 #[.agg #[.int .i64 n, u]] w fun e w' => e = .returned (.int .i64 (fm n l : Int)) ∧ Below w.heap.size w w' := by
  have HV := Lib.hid (fun w' (hb : Below w.heap.size w w') => impl_valid n u l S w' (Cd.later hr hb))
  obtain ⟨a, cap, rfl, hlm⟩ := Cd.sl_form hr
  clear hr
  have HC := Lib.hid (Loc2.of (row_alloc w (.cells #[.int .i64 n, .slice a l.length cap] 29)))
  have HB := Lib.hid (below_alloc w (.cells #[.int .i64 n, .slice a l.length cap] 29))
  cases hq : qOk n l
  · have HZ := Lib.hid (show (0 : Int) = ((fm n l : Nat) : Int) by rw [fm_no hq]; rfl)
    rw [hq] at HV
    clear hq
    go_enter Tryz.func45, Tryz.ntmps45
    go_wp2_with fail
    generalize w.alloc _ = W at *
    refine (HV.out _ HB.out).mono ?_
    rintro e w1 ⟨rfl, hb1⟩
    have HB1 := Lib.hid (below_then HB.out hb1)
    clear hb1
    go_wp2_with fail
    go_ret
    exact ⟨ret_int HZ.out, HB1.out⟩
  rw [hq] at HV
  have h4 := (qOk_iff.1 hq).2.2.2.1
  have hpw := pow_len h4
  have HZ := Lib.hid (show (2 : Int) ^ l.length - 1 = ((fm n l : Nat) : Int) by
    rw [fm_yes hq, pow_cast]
    have := Nat.two_pow_pos l.length
    omega)
  have q1 := hpw.1
  have q2 := hpw.2.1
  have q3 := hpw.2.2
  have q4 : IntKind.i64.wrap (2 ^ l.length - 1) = 2 ^ l.length - 1 := by rw [IntKind.wrap_i64]; omega
  have q5 : (l.length : Int) ≤ 64 := by omega
  have q6 : ((l.length : Int)).toNat = l.length := by omega
  clear hq hpw h4
  go_enter Tryz.func45, Tryz.ntmps45
  go_wp2_with fail
  generalize w.alloc _ = W at *
  refine (HV.out _ HB.out).mono ?_
  rintro e w1 ⟨rfl, hb1⟩
  have HB1 := Lib.hid (below_then HB.out hb1)
  have c0 := (HC.out.later hb1).c0
  have c1 := (HC.out.later hb1).c1
  clear hb1
  go_wp2_with fail
  go_ret
  exact ⟨ret_int HZ.out, HB1.out⟩
set_option maxRecDepth 100000 in
theorem impl_maskatoms (m : Int) (w : World) :
    Calls Tryz.prog 46 #[.int .i64 m] w fun e w' => ∃ v' fp, e = .returned v' ∧ rowC.ow w' w.heap.size [v'] (maL m) fp ∧ fp.Nodup ∧ Below w.heap.size w w' := by
  by_cases hm : 0 ≤ m ∧ m < 16
  case neg =>
    have HZ := Lib.hid (show maL m = [] from if_neg hm)
    have HE := Lib.hid (show rowC.ow w w.heap.size [.slice none 0 0] [] [] from Cd.ow_nil _ _)
    by_cases h0 : m < 0
    · clear hm
      go_enter Tryz.func46, Tryz.ntmps46
      go_wp2_with fail
      go_ret
      first | exact ⟨_, [], rfl, by rw [HZ.out]; exact HE.out, by simp, Below.refl _ _⟩ | exact ⟨_, rfl, [], by rw [HZ.out]; exact HE.out, by simp, Below.refl _ _⟩
    · have h1 : (16 : Int) ≤ m := by omega
      clear hm
      go_enter Tryz.func46, Tryz.ntmps46
      go_wp2_with fail
      go_ret
      first | exact ⟨_, [], rfl, by rw [HZ.out]; exact HE.out, by simp, Below.refl _ _⟩ | exact ⟨_, rfl, [], by rw [HZ.out]; exact HE.out, by simp, Below.refl _ _⟩
  obtain ⟨s, rfl⟩ : ∃ s : Nat, m = (s : Int) := ⟨m.toNat, by omega⟩
  have HZ := Lib.hid (show maL (s : Int) = varsL s by unfold maL; rw [if_pos hm, Int.toNat_natCast])
  have HL := Lib.hid (impl_list s w (by omega))
  have h0 : ¬ (s : Int) < 0 := by omega
  have h1 : ¬ (16 : Int) ≤ (s : Int) := by omega
  clear hm
  rw [HZ.out]
  generalize varsL s = R at *
  go_enter Tryz.func46, Tryz.ntmps46
  go_wp2_with fail
  refine HL.out.mono ?_
  rintro e w1 ⟨v', fp, rfl, ho, hn, hb⟩
  have HO := Lib.hid (And.intro ho (And.intro hn hb))
  clear ho hn hb
  go_wp2_with fail
  go_ret
  exact ⟨_, fp, rfl, HO.out.1, HO.out.2.1, HO.out.2.2⟩
set_option maxRecDepth 100000 in
set_option maxHeartbeats 3200000 in
theorem impl_nbm (n m : Int) (u : Value) (l : List A2) (S : Nat → Prop) (w : World) (hr : atomsC.rd w S [u] l) :
    Calls Tryz.prog 145 #[.agg #[.int .i64 n, u], .int .i64 m] w fun e w' => e = .returned (.int .i64 (nb n l m : Int)) ∧ Below w.heap.size w w' := by
  have HVO := Lib.hid (fun m w' (hb : Below w.heap.size w w') => impl_varsof n m u l S w' (Cd.later hr hb))
  have HFM := Lib.hid (fun w' (hb : Below w.heap.size w w') => impl_full n u l S w' (Cd.later hr hb))
  obtain ⟨r, hr16, hnot⟩ := not_any (fm_lt n l) m
  have HMA := Lib.hid (fun w' => impl_maskatoms (r : Int) w')
  rw [show maL (r : Int) = varsL r by unfold maL; rw [if_pos (by omega), Int.toNat_natCast]] at HMA
  -- what a round adds
  have HADD : Hid (∃ f : Nat → Nat, f 0 = 0 ∧ f (varsL r).length = nb n l m ∧ (∀ k, k ≤ (varsL r).length → f k < 16) ∧ ∀ k (hk : k < (varsL r).length), ((mB n l ((2 ^ (varsL r)[k].toNat : Nat) : Int) &&& mB n l m = 0) ∧ f (k + 1) = f k) ∨ ((mB n l ((2 ^ (varsL r)[k].toNat : Nat) : Int) &&& mB n l m ≠ 0) ∧ f (k + 1) = f k ||| 2 ^ (varsL r)[k].toNat)) := by
    refine Lib.hid ?_
    cases hq : mOk n l m
    · refine ⟨fun _ => 0, rfl, (nb_no hq).symm, fun _ _ => (by decide : (0 : Nat) < 16), fun k hk => .inl ⟨?_, rfl⟩⟩
      rw [mB_no (m := m) hq, Nat.and_zero]
    · obtain ⟨t, rfl, htf, htl⟩ := mOk_fm hq
      have hqo := (mOk_iff.1 hq).1
      have h4 := (qOk_iff.1 hqo).2.2.2.1
      have er : r = (2 ^ l.length - 1) &&& (15 - t) := by
        have h1 := not_bits (fm n l) (fm_lt n l) t (by have := fm_lt n l; omega)
        rw [hnot, fm_yes hqo] at h1
        exact_mod_cast h1
      have hvb := vars_bits l.length h4 t htl
      rw [← er] at hvb
      have hnn := nbF_near l.length h4 (gr l) (gr_lt l) (gr_pairs h4) t htl
      rw [← er] at hnn
      have hi4 := in4_vars r
      refine ⟨fun k => nbF (gr l) t ((varsL r).take k), rfl, ?_, fun k _ => nbF_lt _ _ _ _ (by decide) fun x hx => hi4 x (List.mem_of_mem_take hx), fun k hk => ?_⟩
      · show nbF (gr l) t ((varsL r).take (varsL r).length) = _
        rw [List.take_length, hnn, nb_yes hq]
        rfl
      · obtain ⟨b1, b2⟩ := hvb _ (List.getElem_mem hk)
        have e1 : mB n l ((2 ^ (varsL r)[k].toNat : Nat) : Int) = V l (varsL r)[k].toNat := mB_one hqo b1
        have e2 : mB n l (t : Int) = bs (selV l t l.length) := mB_yes hq
        have e3 := sel_and h4 (by omega) b2
        have e4 : nbF (gr l) t ((varsL r).take (k + 1)) = if anyA (gr l) t (varsL r)[k].toNat then nbF (gr l) t ((varsL r).take k) ||| 2 ^ (varsL r)[k].toNat else nbF (gr l) t ((varsL r).take k) := by
          rw [List.take_succ_eq_append_getElem hk, nbF_snoc]
        show (_ ∧ nbF (gr l) t ((varsL r).take (k + 1)) = nbF (gr l) t ((varsL r).take k)) ∨ (_ ∧ nbF (gr l) t ((varsL r).take (k + 1)) = nbF (gr l) t ((varsL r).take k) ||| _)
        rw [e1, e2, e4]
        cases hany : anyA (gr l) t (varsL r)[k].toNat
        · rw [hany] at e3
          exact .inl ⟨by simpa using e3, rfl⟩
        · rw [hany] at e3
          exact .inr ⟨by simpa using e3, rfl⟩
  obtain ⟨f, hf0, hfe, hf16, hfs⟩ := HADD.out
  have HFE := Lib.hid hfe
  have HF0 := Lib.hid hf0
  have HF16 := Lib.hid hf16
  have HFS := Lib.hid hfs
  have HI4 := Lib.hid (in4_vars r)
  have HMB := Lib.hid (fun m => mB_lt n l m)
  have HX4 := Lib.hid (show (varsL r).length ≤ 4 from varsTo_len r 4)
  obtain ⟨a, cap, rfl, hlm⟩ := Cd.sl_form hr
  clear hr hfe hf0 hf16 hfs HADD hr16
  have HC := Lib.hid (Loc2.of (row_alloc w (.cells #[.int .i64 n, .slice a l.length cap] 29)))
  have HB := Lib.hid (below_alloc w (.cells #[.int .i64 n, .slice a l.length cap] 29))
  generalize nb n l m = R at *
  generalize fm n l = F at *
  generalize varsL r = X at *
  generalize hs : mB n l m = s at *
  have HS := Lib.hid hs
  clear hs
  go_enter Tryz.func145, Tryz.ntmps145
  go_wp2_with fail
  generalize w.alloc _ = W at *
  refine (HVO.out m _ HB.out).mono ?_
  rw [HS.out]
  rintro e w1 ⟨rfl, hb1⟩
  have HB1 := Lib.hid (below_then HB.out hb1)
  have HC1 := Lib.hid (HC.out.later hb1)
  have c0 := HC1.out.c0
  have c1 := HC1.out.c1
  clear hb1
  go_wp2_with fail
  clear c0 c1
  refine (HFM.out _ HB1.out).mono ?_
  rintro e w2 ⟨rfl, hb2⟩
  have HB2 := Lib.hid (below_then HB1.out hb2)
  have HC2 := Lib.hid (HC1.out.later hb2)
  clear hb2
  go_wp2_with fail
  refine (HMA.out _).mono ?_
  rintro e w3 ⟨x', fx, rfl, hox, _, hb3⟩
  have HB3 := Lib.hid (below_then HB2.out hb3)
  have HC3 := Lib.hid (HC2.out.later hb3)
  have HXR := Lib.hid (rowC.ow_rd hox)
  obtain ⟨ax, cx, rfl, _⟩ := (row_ri (rowC.ow_rd hox)).1
  clear hb3 hox
  have q0 : (0 : Int) = ((f 0 : Nat) : Int) := by rw [HF0.out]; rfl
  have HQ0 := Lib.hid q0
  clear q0
  go_wp2_with fail
  go_loopw [6, 18] (fun x i wr => ∃ k : Nat, k ≤ X.length ∧ i = .int .i64 k ∧ x = .int .i64 (f k : Int) ∧ Below w3.heap.size w3 wr) (fun _ i _ => X.length - (intOf i).toNat)
  case atStart => exact ⟨0, Nat.zero_le _, rfl, by rw [← HQ0.out], Below.refl _ _⟩
  case round =>
    obtain ⟨k, hk, rfl, rfl, hbw⟩ := hrel
    have HBW := Lib.hid hbw
    have HLQ := Lib.hid (HC3.out.later hbw)
    have c0 := HLQ.out.c0
    have c1 := HLQ.out.c1
    have HKP := Lib.hid (show Below w.heap.size w wr from below_then HB3.out hbw)
    have hxr := Cd.later HXR.out hbw
    by_cases hlt : k < X.length
    · obtain ⟨b1, off, cap', e1, hbB, hc⟩ := ri_at (row_ri hxr).1 hlt
      injection e1 with e1 e2 e3
      subst e1 e3
      have hstep := HFS.out k hlt
      have hv4 := HI4.out _ (List.getElem_mem hlt)
      have HLT := Lib.hid hlt
      have p1 : (0 : Int) ≤ (k : Int) := by omega
      have p2 : (k : Int) < (X.length : Int) := by omega
      have pX : (X.length : Int) ≤ 4 := by have := HX4.out; omega
      have hx16 := HF16.out k (by omega)
      generalize hX : X[k] = z at *
      obtain ⟨v, rfl⟩ : ∃ v : Nat, z = (v : Int) := ⟨z.toNat, by omega⟩
      rw [Int.toNat_natCast] at hstep
      have p3 : (v : Int) ≤ 64 := by omega
      have p4 : ((v : Int)).toNat = v := by omega
      have p5 : (0 : Int) ≤ (v : Int) := by omega
      have hpw := pow_w (show v ≤ 4 by omega)
      have hor := or_pow hx16 (show v < 4 by omega)
      have hand := and_nat (HMB.out ((2 ^ v : Nat) : Int)) (show s < 16 by rw [← HS.out]; exact HMB.out m)
      have HCK := Lib.hid (fun w' (hb : Below w.heap.size w w') => HVO.out ((2 ^ v : Nat) : Int) w' hb)
      generalize mB n l ((2 ^ v : Nat) : Int) = g at *
      have e2 : (((2 ^ v : Nat)) : Int) = (2 : Int) ^ v := (pow_cast v).symm
      rw [e2] at HCK
      have kk : Kp w wr.drew := kp_drew (show Kp w wr from HKP.out)
      clear hbw e2 hv4 hxr hX hx16
      generalize f k = x at *
      rcases hstep with ⟨hz, hnx⟩ | ⟨hz, hnx⟩
      · rw [hz] at hand
        have HNX := Lib.hid hnx
        clear hz hnx hor
        go_wp2_with fail
        refine wp_region_held_drew (S := fun wx => wx.cell? ⟨w.heap.size, 0, none⟩ = some (.int .i64 n) ∧ wx.cell? ⟨w.heap.size, 1, none⟩ = some (.slice a l.length cap) ∧ Kp w wx) (by kernel_rfl) ?_ (fun hHeld => ?_)
        · (refine ⟨?_, ?_, ?_⟩ <;> first | assumption | (simp [*]; done))
        refine RegH.takeH (i := 0) (v := ?_) rfl (by kernel_rfl) (by kernel_rfl) (by kernel_rfl) (fun _ _ _ h => h) (Or.inl ⟨by rfl, ?_⟩) (by assumption) ?_
        rotate_left
        · (intro wS hSw; (try dsimp only at hSw); go_simp; try (with_reducible rfl))
        try simp only [Act.put, List.setIfInBounds_toArray, List.set_cons_zero, List.set_cons_succ]
        refine RegH.takeH (i := 1) (v := ?_) rfl (by kernel_rfl) (by kernel_rfl) (by kernel_rfl) (fun _ _ _ h => h) (Or.inl ⟨by rfl, ?_⟩) (by assumption) ?_
        rotate_left
        · (intro wS hSw; (try dsimp only at hSw); go_simp; try (with_reducible rfl))
        try simp only [Act.put, List.setIfInBounds_toArray, List.set_cons_zero, List.set_cons_succ]
        refine RegH.takeH (i := 2) (v := ?_) rfl (by kernel_rfl) (by kernel_rfl) (by kernel_rfl) (fun _ _ _ h => h) (Or.inl ⟨by rfl, ?_⟩) (by assumption) ?_
        rotate_left
        · (intro wS hSw; (try dsimp only at hSw); go_simp; try (with_reducible rfl))
        try simp only [Act.put, List.setIfInBounds_toArray, List.set_cons_zero, List.set_cons_succ]
        refine RegH.takeH (i := 4) (v := ?_) rfl (by kernel_rfl) (by kernel_rfl) (by kernel_rfl) (fun _ _ _ h => h) (Or.inl ⟨by rfl, ?_⟩) (by assumption) ?_
        rotate_left
        · (intro wS hSw; (try dsimp only at hSw); go_simp; try (with_reducible rfl))
        try simp only [Act.put, List.setIfInBounds_toArray, List.set_cons_zero, List.set_cons_succ]
        refine RegH.consH (i := 3) rfl (by kernel_rfl) (fun K hK => ?_)
        go_simp
        go_at_call 92
        refine (HCK.out _ (show Below w.heap.size w wr.drew from kk)).mono ?_
        rintro e wq ⟨rfl, hbq⟩
        have kq : Kp w wq := below_then (show Below w.heap.size w wr.drew from kk) hbq
        have HBQ := Lib.hid (below_then (bd_drew wr) hbq)
        have n0 := (HLQ.out.later HBQ.out).c0
        have n1 := (HLQ.out.later HBQ.out).c1
        clear hbq
        go_wp2_with fail
        refine hK.out _ _ ?_ (fun hHeld => ?_)
        · (refine ⟨?_, ?_, ?_⟩ <;> first | assumption | (simp [*]; done))
        clear hK K
        try simp only [Act.put, List.setIfInBounds_toArray, List.set_cons_zero, List.set_cons_succ]
        refine RegH.takeH (i := 5) (v := ?_) rfl (by kernel_rfl) (by kernel_rfl) (by kernel_rfl) (fun _ _ _ h => h) (Or.inl ⟨by rfl, ?_⟩) (by assumption) ?_
        rotate_left
        · (intro wS hSw; (try dsimp only at hSw); go_simp; try (with_reducible rfl))
        try simp only [Act.put, List.setIfInBounds_toArray, List.set_cons_zero, List.set_cons_succ]
        refine RegH.takeH (i := 6) (v := ?_) rfl (by kernel_rfl) (by kernel_rfl) (by kernel_rfl) (fun _ _ _ h => h) (Or.inl ⟨by rfl, ?_⟩) (by assumption) ?_
        rotate_left
        · (intro wS hSw; (try dsimp only at hSw); go_simp; try (with_reducible rfl))
        try simp only [Act.put, List.setIfInBounds_toArray, List.set_cons_zero, List.set_cons_succ]
        refine wpAnyH_done (by kernel_rfl) ?_ _
        go_wp2_with fail
        go_roundw
        case rel => exact ⟨k + 1, HLT.out, by go_num, by rw [HNX.out], below_then HBW.out HBQ.out⟩
        case measure => have := HLT.out; simp [intOf]; omega
      · have HNX := Lib.hid hnx
        have hz2 : (((g &&& s : Nat) : Int) == 0) = false := by rw [beq_eq_false_iff_ne]; omega
        have hz3 : ¬ (((g &&& s : Nat) : Int) = 0) := by omega
        clear hz hnx
        generalize g &&& s = z at *
        go_wp2_with fail
        refine wp_region_held_drew (S := fun wx => wx.cell? ⟨w.heap.size, 0, none⟩ = some (.int .i64 n) ∧ wx.cell? ⟨w.heap.size, 1, none⟩ = some (.slice a l.length cap) ∧ Kp w wx) (by kernel_rfl) ?_ (fun hHeld => ?_)
        · (refine ⟨?_, ?_, ?_⟩ <;> first | assumption | (simp [*]; done))
        refine RegH.takeH (i := 0) (v := ?_) rfl (by kernel_rfl) (by kernel_rfl) (by kernel_rfl) (fun _ _ _ h => h) (Or.inl ⟨by rfl, ?_⟩) (by assumption) ?_
        rotate_left
        · (intro wS hSw; (try dsimp only at hSw); go_simp; try (with_reducible rfl))
        try simp only [Act.put, List.setIfInBounds_toArray, List.set_cons_zero, List.set_cons_succ]
        refine RegH.takeH (i := 1) (v := ?_) rfl (by kernel_rfl) (by kernel_rfl) (by kernel_rfl) (fun _ _ _ h => h) (Or.inl ⟨by rfl, ?_⟩) (by assumption) ?_
        rotate_left
        · (intro wS hSw; (try dsimp only at hSw); go_simp; try (with_reducible rfl))
        try simp only [Act.put, List.setIfInBounds_toArray, List.set_cons_zero, List.set_cons_succ]
        refine RegH.takeH (i := 2) (v := ?_) rfl (by kernel_rfl) (by kernel_rfl) (by kernel_rfl) (fun _ _ _ h => h) (Or.inl ⟨by rfl, ?_⟩) (by assumption) ?_
        rotate_left
        · (intro wS hSw; (try dsimp only at hSw); go_simp; try (with_reducible rfl))
        try simp only [Act.put, List.setIfInBounds_toArray, List.set_cons_zero, List.set_cons_succ]
        refine RegH.takeH (i := 4) (v := ?_) rfl (by kernel_rfl) (by kernel_rfl) (by kernel_rfl) (fun _ _ _ h => h) (Or.inl ⟨by rfl, ?_⟩) (by assumption) ?_
        rotate_left
        · (intro wS hSw; (try dsimp only at hSw); go_simp; try (with_reducible rfl))
        try simp only [Act.put, List.setIfInBounds_toArray, List.set_cons_zero, List.set_cons_succ]
        refine RegH.consH (i := 3) rfl (by kernel_rfl) (fun K hK => ?_)
        go_simp
        go_at_call 92
        refine (HCK.out _ (show Below w.heap.size w wr.drew from kk)).mono ?_
        rintro e wq ⟨rfl, hbq⟩
        have kq : Kp w wq := below_then (show Below w.heap.size w wr.drew from kk) hbq
        have HBQ := Lib.hid (below_then (bd_drew wr) hbq)
        have n0 := (HLQ.out.later HBQ.out).c0
        have n1 := (HLQ.out.later HBQ.out).c1
        clear hbq
        go_wp2_with fail
        refine hK.out _ _ ?_ (fun hHeld => ?_)
        · (refine ⟨?_, ?_, ?_⟩ <;> first | assumption | (simp [*]; done))
        clear hK K
        try simp only [Act.put, List.setIfInBounds_toArray, List.set_cons_zero, List.set_cons_succ]
        refine RegH.takeH (i := 5) (v := ?_) rfl (by kernel_rfl) (by kernel_rfl) (by kernel_rfl) (fun _ _ _ h => h) (Or.inl ⟨by rfl, ?_⟩) (by assumption) ?_
        rotate_left
        · (intro wS hSw; (try dsimp only at hSw); go_simp; try (with_reducible rfl))
        try simp only [Act.put, List.setIfInBounds_toArray, List.set_cons_zero, List.set_cons_succ]
        refine RegH.takeH (i := 6) (v := ?_) rfl (by kernel_rfl) (by kernel_rfl) (by kernel_rfl) (fun _ _ _ h => h) (Or.inl ⟨by rfl, ?_⟩) (by assumption) ?_
        rotate_left
        · (intro wS hSw; (try dsimp only at hSw); go_simp; try (with_reducible rfl))
        try simp only [Act.put, List.setIfInBounds_toArray, List.set_cons_zero, List.set_cons_succ]
        refine wpAnyH_done (by kernel_rfl) ?_ _
        go_wp2_with fail
        go_roundw
        case rel => exact ⟨k + 1, HLT.out, by go_num, by rw [HNX.out], below_then HBW.out HBQ.out⟩
        case measure => have := HLT.out; simp [intOf]; omega
    · have ek : k = X.length := by omega
      subst ek
      clear hbw
      rw [HFE.out]
      go_wp2_with fail
      go_ret
      exact ⟨rfl, HKP.out⟩
set_option maxRecDepth 100000 in
set_option maxHeartbeats 1600000 in
theorem impl_conn (n m : Int) (u : Value) (l : List A2) (S : Nat → Prop) (w : World) (hr : atomsC.rd w S [u] l) :
    Calls Tryz.prog 114 #[.agg #[.int .i64 n, u], .int .i64 m] w fun e w' => e = .returned (.bool (cOk n l m)) ∧ Below w.heap.size w w' := by
  have HFM := Lib.hid (fun w' (hb : Below w.heap.size w w') => impl_full n u l S w' (Cd.later hr hb))
  have HNB := Lib.hid (fun m w' (hb : Below w.heap.size w w') => impl_nbm n m u l S w' (Cd.later hr hb))
  obtain ⟨a, cap, rfl, hlm⟩ := Cd.sl_form hr
  clear hr
  have HC := Lib.hid (Loc2.of (row_alloc w (.cells #[.int .i64 n, .slice a l.length cap] 29)))
  have HB := Lib.hid (below_alloc w (.cells #[.int .i64 n, .slice a l.length cap] 29))
  by_cases h1 : m < 1
  · have HZ := Lib.hid (show false = cOk n l m by
      cases hc : cOk n l m
      · rfl
      · obtain ⟨t, rfl, _, _, ht, _⟩ := cOk_fm hc
        omega)
    go_enter Tryz.func114, Tryz.ntmps114
    go_wp2_with fail
    go_ret
    exact ⟨ret_b HZ.out, HB.out⟩
  by_cases hF : (fm n l : Int) < m
  · have HZ := Lib.hid (show false = cOk n l m by
      cases hc : cOk n l m
      · rfl
      · obtain ⟨t, rfl, ht, _⟩ := cOk_fm hc
        omega)
    generalize fm n l = F at *
    go_enter Tryz.func114, Tryz.ntmps114
    go_wp2_with fail
    generalize w.alloc _ = W at *
    refine (HFM.out _ HB.out).mono ?_
    rintro e w1 ⟨rfl, hb1⟩
    have HB1 := Lib.hid (below_then HB.out hb1)
    clear hb1
    go_wp2_with fail
    go_ret
    exact ⟨ret_b HZ.out, HB1.out⟩
  obtain ⟨t, rfl⟩ : ∃ t : Nat, m = (t : Int) := ⟨m.toNat, by omega⟩
  have ht1 : 1 ≤ t := by omega
  have htf : t ≤ fm n l := by omega
  have h16 : t < 16 := by have := fm_lt n l; omega
  have hG := gr_lt l
  have HZ := Lib.hid (show cOk n l (t : Int) = conn (gr l) t from cOk_le htf)
  have HCN := Lib.hid (show ∀ k, k < 5 → it (gr l) t k = it (gr l) t (k + 1) → ((((it (gr l) t k : Nat) : Int)) == (t : Int)) = conn (gr l) t from fun k hk e => by
    have h2 := it_stop _ hG t h16 k hk e
    rw [h2]
    unfold conn
    have : (t != 0) = true := by rw [bne_iff_ne]; omega
    rw [this, Bool.true_and, Bool.eq_iff_iff, beq_iff_eq, beq_iff_eq]
    omega)
  have HNX := Lib.hid (show ∀ k, k ≤ 5 → nb n l ((it (gr l) t k : Nat) : Int) = near (gr l) (it (gr l) t k) from fun k hk => by
    have h2 := it_sub _ hG t h16 k hk
    have h3 : 1 ≤ it (gr l) t k := by
      clear h2
      induction k with
      | zero => exact low_pos t h16 ht1
      | succ k ih => exact Nat.le_trans (ih (by omega)) (it_up _ hG t h16 k (by omega))
    rw [nb_yes (fm_mOk h3 (Nat.le_trans h2 htf)), Int.toNat_natCast])
  have HLOW := Lib.hid (low_pos t h16 ht1)
  have HG := Lib.hid hG
  have HUP := Lib.hid (fun k (hk : k ≤ 5) => it_up _ hG t h16 k hk)
  have HLT16 := Lib.hid (fun k (hk : k ≤ 6) => it_lt _ hG t h16 k hk)
  have HFIVE := Lib.hid (it_five _ hG t h16)
  have hlow := low_bits t h16
  have HT16 := Lib.hid h16
  have hneg : IntKind.i64.wrap (-(t : Int)) = -(t : Int) := by rw [IntKind.wrap_i64]; omega
  have f1 : ¬ (t : Int) < 1 := by omega
  have f2 : ¬ (fm n l : Int) < (t : Int) := by omega
  have f3 : ¬ fm n l < t := by omega
  rw [HZ.out]
  clear h1 hF htf ht1 hG h16 HZ
  generalize fm n l = F at *
  generalize gr l = G at *
  go_enter Tryz.func114, Tryz.ntmps114
  go_wp2_with fail
  generalize w.alloc _ = W at *
  refine (HFM.out _ HB.out).mono ?_
  rintro e w1 ⟨rfl, hb1⟩
  have HB1 := Lib.hid (below_then HB.out hb1)
  have HC1 := Lib.hid (HC.out.later hb1)
  clear hb1
  go_wp2_with fail
  clear hlow hneg f1 f2 f3
  go_loopw [5, 6] (fun r x wr => ∃ k : Nat, k ≤ 5 ∧ r = .int .i64 (rr G t k : Int) ∧ x = .int .i64 (it G t k : Int) ∧ Below w1.heap.size w1 wr) (fun r x _ => 32 - (intOf r).toNat - (intOf x).toNat)
  case atStart => exact ⟨0, by decide, rfl, rfl, Below.refl _ _⟩
  case round =>
    obtain ⟨k, hk, rfl, rfl, hbw⟩ := hrel
    have HBW := Lib.hid hbw
    have HLQ := Lib.hid (HC1.out.later hbw)
    have c0 := HLQ.out.c0
    have c1 := HLQ.out.c1
    have HKP := Lib.hid (show Below w.heap.size w wr from below_then HB1.out hbw)
    have hx16 := HLT16.out k (by omega)
    have hle : rr G t k ≤ it G t k := by
      cases k with
      | zero => exact Nat.zero_le _
      | succ k => exact HUP.out k (by omega)
    by_cases he : rr G t k = it G t k
    · obtain ⟨j, hj⟩ : ∃ j, k = j + 1 := by
        cases k with
        | zero =>
          exfalso
          have h1 : (0 : Nat) = low t := he
          have := HLOW.out
          omega
        | succ j => exact ⟨j, rfl⟩
      have he2 : it G t j = it G t (j + 1) := by rw [hj] at he; exact he
      have HR := Lib.hid (HCN.out j (by omega) he2)
      rw [hj, show rr G t (j + 1) = it G t j from rfl, ← he2]
      clear he he2 hj hle hx16 hbw
      generalize it G t j = x at *
      go_wp2_with fail
      go_ret
      exact ⟨ret_b HR.out, HKP.out⟩
    · have hk5 : k < 5 := by
        rcases Nat.lt_or_ge k 5 with q | q
        · exact q
        · exfalso
          have ek : k = 5 := by omega
          subst ek
          exact he HFIVE.out.symm
      have HNE := Lib.hid (show rr G t k < it G t k by omega)
      have t1 : (((rr G t k : Nat) : Int) == ((it G t k : Nat) : Int)) = false := by rw [beq_eq_false_iff_ne]; omega
      have t2 : ¬ (((rr G t k : Nat) : Int) = ((it G t k : Nat) : Int)) := by omega
      have HUPK := Lib.hid (HUP.out k hk)
      have HST := Lib.hid (show it G t (k + 1) = it G t k ||| (near G (it G t k) &&& t) from rfl)
      have hn16 := near_lt G HG.out _ hx16
      have hand := and_nat hn16 HT16.out
      have hor := or_nat hx16 (and_lt t hn16)
      have HNC := Lib.hid (HNB.out ((it G t k : Nat) : Int) wr HKP.out)
      rw [HNX.out k hk] at HNC
      have HRR := Lib.hid (show rr G t (k + 1) = it G t k from rfl)
      have HX16 := Lib.hid hx16
      have HX17 := Lib.hid (HLT16.out (k + 1) (by omega))
      have HK5 := Lib.hid hk5
      clear he hle hbw hx16 hn16 hk5 hk
      generalize rr G t k = r at *
      generalize it G t k = x at *
      generalize near G x = y at *
      go_wp2_with fail
      refine HNC.out.mono ?_
      rintro e w2 ⟨rfl, hb2⟩
      have HB2 := Lib.hid (below_then HBW.out hb2)
      clear hb2
      go_wp2_with fail
      go_roundw
      case rel => exact ⟨k + 1, HK5.out, by rw [HRR.out], by rw [HST.out], HB2.out⟩
      case measure =>
        have h1 := HNE.out
        have h2 := HUPK.out
        have h3 := HX16.out
        have h4 := HX17.out
        have h5 := HST.out
        simp [intOf]
        omega
set_option maxRecDepth 100000 in
set_option maxHeartbeats 1600000 in
theorem impl_cm (n : Int) (u : Value) (l : List A2) (S : Nat → Prop) (w : World) (hr : atomsC.rd w S [u] l) :
    Calls Tryz.prog 67 #[.agg #[.int .i64 n, u]] w fun e w' => ∃ v' fp, e = .returned v' ∧ rowC.ow w' w.heap.size [v'] (cmL n l) fp ∧ fp.Nodup ∧ Below w.heap.size w w' := by
  have HFM := Lib.hid (fun w' (hb : Below w.heap.size w w') => impl_full n u l S w' (Cd.later hr hb))
  have HJ := Lib.hid (fun (k : Nat) (hk : k ≤ fm n l) w' (hb : Below w.heap.size w w') => (show Calls _ _ _ _ _ from by have := impl_conn n (k : Int) u l S w' (Cd.later hr hb); rw [cOk_le hk] at this; exact this))
  have HF16 := Lib.hid (fm_lt n l)
  obtain ⟨a, cap, rfl, hlm⟩ := Cd.sl_form hr
  have HZ := Lib.hid (show cmL n l = fil (conn (gr l)) (fm n l + 1) from rfl)
  clear hr
  have HC := Lib.hid (Loc2.of (row_alloc w (.cells #[.int .i64 n, .slice a l.length cap] 29)))
  have HB := Lib.hid (below_alloc w (.cells #[.int .i64 n, .slice a l.length cap] 29))
  generalize cmL n l = R at *
  generalize fm n l = F at *
  generalize gr l = G at *
  go_enter Tryz.func67, Tryz.ntmps67
  go_wp2_with fail
  generalize w.alloc _ = W at *
  refine (HFM.out _ HB.out).mono ?_
  rintro e w1 ⟨rfl, hb1⟩
  have HB1 := Lib.hid (below_then HB.out hb1)
  have HC1 := Lib.hid (HC.out.later hb1)
  have q1 : (F : Int) < 16 := by have := HF16.out; omega
  clear hb1
  go_wp2_with fail
  go_loopw [3, 8] (fun o i wr => ∃ (k : Nat), k ≤ F + 1 ∧ i = .int .i64 k ∧ OwnI wr w1.heap.size 3 o (fil (conn G) k) ∧ Below w1.heap.size w1 wr) (fun _ i _ => F + 1 - (intOf i).toNat)
  case atStart => exact ⟨0, Nat.zero_le _, rfl, OwnI.nil _ _ _, Below.refl _ _⟩
  case round =>
    obtain ⟨k, hk, rfl, hown, hb⟩ := hrel
    have HLQ := Lib.hid (HC1.out.later hb)
    have c0 := HLQ.out.c0
    have c1 := HLQ.out.c1
    have HBK := Lib.hid hb
    by_cases hlt : k ≤ F
    · have p1 : (0 : Int) ≤ (k : Int) := by omega
      have p2 : (k : Int) < (F : Int) + 1 := by omega
      have HJ1 := Lib.hid (HJ.out k hlt wr (below_then HB1.out hb))
      have HLT := Lib.hid hlt
      have hlen : (fil (conn G) k).length + 1 ≤ 1000000000000 := by have := fil_len (conn G) k; have := HF16.out; omega
      have HOW := Lib.hid hown
      clear hb hown hk hlt
      cases hx : conn G k
      · have HNX := Lib.hid (fil_no hx)
        rw [hx] at HJ1
        clear hx
        go_wp2_with fail
        refine HJ1.out.mono ?_
        rintro e w4 ⟨rfl, hb4⟩
        have HB4 := Lib.hid (below_then HBK.out hb4)
        have HO4 := Lib.hid (HOW.out.later hb4)
        clear hb4
        go_wp2_with fail
        go_roundw
        case rel => exact ⟨k + 1, by have := HLT.out; omega, by go_num, by rw [HNX.out]; exact HO4.out, HB4.out⟩
        case measure => have := HLT.out; simp [intOf]; omega
      · have HNX := Lib.hid (fil_yes hx)
        rw [hx] at HJ1
        clear hx
        generalize fil (conn G) k = out at *
        go_wp2_with fail
        refine HJ1.out.mono ?_
        rintro e w4 ⟨rfl, hb4⟩
        have HB4 := Lib.hid (below_then HBK.out hb4)
        have hown4 := HOW.out.later hb4
        have hbs := HB4.out.size
        clear hb4
        go_wp2_with (first | (at_builtin; refine wp_appendI rfl (.tmp 14) (.tmp 16) 32 rfl w1.heap.size 3 Tryz.underlying32 info_i64 _ _ rfl hown4 _ rfl hlen hbs ?_))
        intro v' w5 hown5 hb5
        go_wp2_with fail
        go_roundw
        case rel => exact ⟨k + 1, by have := HLT.out; omega, by go_num, by rw [HNX.out]; exact hown5, HB4.out.trans hb5⟩
        case measure => have := HLT.out; simp [intOf]; omega
    · have ek : k = F + 1 := by omega
      subst ek
      rw [← HZ.out] at hown
      obtain ⟨fp, q1, q2⟩ := ow_back (w0 := w) hown (by rw [HZ.out]; exact inr_fil _ _ (by have := HF16.out; omega)) HB1.out.size
      have HO := Lib.hid (And.intro q1 q2)
      clear hown hb q1 q2 hk hlt
      go_wp2_with fail
      go_ret
      first | exact ⟨_, fp, rfl, HO.out.1, HO.out.2, below_then HB1.out HBK.out⟩ | exact ⟨_, rfl, fp, HO.out.1, HO.out.2, below_then HB1.out HBK.out⟩
end Go.Proofs.YtdkhgeknjekkoaaGreat.QgImp

namespace Go.Proofs.YtdkhgeknjekkoaaGreat.AnsEv
open Go Go.RowKit Byt Ints IntsLaw Cd Rows2 Tab TabSpec Exact Atom QryMath QrySpec QryImp MkAtom AnsMath SlMath TabOpen TabElem QgMath AnsSpec AnsQ DbMath DbSpec Db DbExact QryFor AnsC AnsImp

theorem varsTo_stop {t L : Nat} (h : t < 2 ^ L) : ∀ d, varsTo t (L + d) = varsTo t L
  | 0 => rfl
  | d + 1 => by
    have hz : t / 2 ^ (L + d) = 0 := Nat.div_eq_of_lt (Nat.lt_of_lt_of_le h (Nat.pow_le_pow_right (by decide) (by omega)))
    rw [show L + (d + 1) = (L + d) + 1 by omega, varsTo_no (by rw [hz]; decide), varsTo_stop h d]
def atG (l : List A2) (v : Int) : A2 := l.getD v.toNat (⟨#[]⟩, [])
theorem selA_vars (l : List A2) (t : Nat) : ∀ k, k ≤ l.length → selA l t k = (varsTo t k).map (atG l)
  | 0, _ => rfl
  | k + 1, hk => by
    by_cases ht : t / 2 ^ k % 2 = 1
    · rw [selA_yes (by omega) ht, varsTo_yes ht, List.map_append, ← selA_vars l t k (by omega), List.map_singleton]
      unfold atG
      simp [show k < l.length by omega]
    · rw [selA_no ht, varsTo_no ht, selA_vars l t k (by omega)]
theorem selA_list {l : List A2} {t : Nat} (h4 : l.length ≤ 4) (ht : t < 2 ^ l.length) : selA l t l.length = (varsL t).map (atG l) := by
  rw [selA_vars l t _ (Nat.le_refl _)]
  unfold varsL
  rw [← varsTo_stop ht (4 - l.length), show l.length + (4 - l.length) = 4 by omega]
theorem vars_lt {l : List A2} {t : Nat} (h4 : l.length ≤ 4) (ht : t < 2 ^ l.length) : ∀ v ∈ varsL t, 0 ≤ v ∧ v < l.length := by
  unfold varsL
  rw [show (4 : Nat) = l.length + (4 - l.length) by omega, varsTo_stop ht]
  intro v hv
  unfold varsTo at hv
  obtain ⟨k, hk, rfl⟩ := List.mem_map.1 hv
  have := List.mem_range.1 (List.mem_filter.1 hk).1
  show 0 ≤ (k : Int) ∧ (k : Int) < _
  omega
theorem maL_nat {t : Nat} (h : t < 16) : maL (t : Int) = varsL t := by
  unfold maL
  rw [if_pos (by omega)]
  rfl

def rawsR : Cd (List (Value × Value)) := Cd.sl 80 raw2
theorem info_rel : (Tryz.prog.info? 80).map (fun i => (i.zero, i.size, i.bytes)) = some (some (.agg #[.slice none 0 0, .slice none 0 0]), 2, 48) := by kernel_rfl
/-- The relations so far: the atoms' variables where they lie, the rows in blocks that the loop leaves alone. -/
def PsI (w : World) (S : Nat → Prop) (wr : World) (d : List T3) (ps : List (Value × Value)) (al : List A2) (f1 : List Nat) : Prop :=
  ps.length = al.length ∧ ∀ i (h : i < ps.length) (h' : i < al.length), rowC.rd w S [ps[i].1] al[i].2 ∧ rowsC.rd wr (fun b => b ∉ f1) [ps[i].2] (lkT d al[i].1).2.2
theorem PsI.later {w : World} {S : Nat → Prop} {wr w' : World} {d : List T3} {ps : List (Value × Value)} {al : List A2} {f1 : List Nat} (h : PsI w S wr d ps al f1) (hb : Below wr.heap.size wr w') : PsI w S w' d ps al f1 :=
  ⟨h.1, fun i h1 h2 => ⟨(h.2 i h1 h2).1, Cd.later (h.2 i h1 h2).2 hb⟩⟩
theorem PsI.touched {w : World} {S : Nat → Prop} {wr w' : World} {d : List T3} {ps : List (Value × Value)} {al : List A2} {f1 f' : List Nat} (h : PsI w S wr d ps al f1) (ht : Cd.Touch f1 wr w') (hs : ∀ b ∈ f', b ∈ f1 ∨ wr.heap.size ≤ b) : PsI w S w' d ps al f' :=
  ⟨h.1, fun i h1 h2 => ⟨(h.2 i h1 h2).1, Cd.mono _ (Cd.touched (Cd.mono _ (h.2 i h1 h2).2 (T := fun b => b ∉ f1 ∧ b < wr.heap.size) (fun b hb hn => ⟨hn, hb⟩)) ht (fun b hb q => q.1 hb)) (fun b _ hn q => by
    rcases hs b q with r | r
    · exact hn.1 r
    · have := hn.2; omega)⟩⟩
theorem PsI.snoc {w : World} {S : Nat → Prop} {wr : World} {d : List T3} {ps : List (Value × Value)} {al : List A2} {f1 : List Nat} (h : PsI w S wr d ps al f1) {x y : Value} {A : A2} (k1 : rowC.rd w S [x] A.2) (k2 : rowsC.rd wr (fun b => b ∉ f1) [y] (lkT d A.1).2.2) : PsI w S wr d (ps ++ [(x, y)]) (al ++ [A]) f1 := by
  refine ⟨by rw [List.length_append, List.length_append, h.1]; rfl, fun i h1 h2 => ?_⟩
  by_cases hi : i < ps.length
  · have hi2 : i < al.length := by rw [← h.1]; exact hi
    rw [List.getElem_append_left hi, List.getElem_append_left hi2]
    exact h.2 i hi hi2
  · have e : i = ps.length := by rw [List.length_append] at h1; simp at h1; omega
    subst e
    have e2 : ps.length = al.length := h.1
    simp only [List.getElem_append_right (Nat.le_refl _), Nat.sub_self, List.getElem_cons_zero]
    rw [List.getElem_append_right (by omega)]
    simp only [e2, Nat.sub_self, List.getElem_cons_zero]
    exact ⟨k1, k2⟩
/-- What the program's loop keeps. -/
structure EvI (w wr : World) (dv : Value) (n : Int) (qv : Value) (ps : List (Value × Value)) (V : List Int) (o1 lv : Value) (f1 fL : List Nat) : Prop where
  c3 : Loc1 wr w.heap.size dv
  c4 : Atom.Loc2 wr (w.heap.size + 1) (.int .i64 n) qv
  c6 : Atom.Loc2 wr (w.heap.size + 1 + 1) (.slice none 0 0) (.slice none 0 0)
  t : rawsR.ow wr (w.heap.size + 3) [o1] ps f1
  tn : f1.Nodup
  a : rowC.ow wr (w.heap.size + 3) [lv] V fL
  dis : ∀ b ∈ fL, b ∉ f1
  hb : Below w.heap.size w wr
  sz : w.heap.size + 3 ≤ wr.heap.size
theorem EvI.later {w wr w' : World} {dv : Value} {n : Int} {qv : Value} {ps : List (Value × Value)} {V : List Int} {o1 lv : Value} {f1 fL : List Nat} (h : EvI w wr dv n qv ps V o1 lv f1 fL) (hb : Below wr.heap.size wr w') : EvI w w' dv n qv ps V o1 lv f1 fL :=
  ⟨h.c3.later hb, h.c4.later hb, h.c6.later hb, Cd.ow_later h.t hb, h.tn, Cd.ow_later h.a hb, h.dis, below_then h.hb hb, Nat.le_trans h.sz hb.size⟩
theorem EvI.f1_ge {w wr : World} {dv : Value} {n : Int} {qv : Value} {ps : List (Value × Value)} {V : List Int} {o1 lv : Value} {f1 fL : List Nat} (h : EvI w wr dv n qv ps V o1 lv f1 fL) : ∀ b ∈ f1, w.heap.size + 3 ≤ b ∧ b < wr.heap.size := fun b hb => rawsR.ow_lt h.t b hb
theorem EvI.put {w wA w5 : World} {dv : Value} {n : Int} {qv : Value} {ps ps' : List (Value × Value)} {V : List Int} {o1 lv o' : Value} {f1 fL f' : List Nat} (h : EvI w wA dv n qv ps V o1 lv f1 fL) (ho : rawsR.ow w5 (w.heap.size + 3) [o'] ps' f') (hn : f'.Nodup)
    (hs : ∀ b ∈ f', b ∈ f1 ∨ b ∈ ([] : List Nat) ∨ wA.heap.size ≤ b) (ht : Cd.Touch f1 wA w5) : EvI w w5 dv n qv ps' V o' lv f' fL := by
  have h1 := h.f1_ge
  refine ⟨h.c3.touched ht (fun q => by have := h1 _ q; omega), h.c4.touched ht (fun q => by have := h1 _ q; omega), h.c6.touched ht (fun q => by have := h1 _ q; omega), ho, hn, Cd.ow_touched h.a ht h.dis, fun b hb q => ?_, Cd.Touch.below h.hb ht (fun b hb => by have := h1 b hb; omega), Nat.le_trans h.sz ht.size⟩
  rcases hs b q with r | r | r
  · exact h.dis b hb r
  · cases r
  · have := (rowC.ow_lt h.a b hb).2; omega
theorem start_ev {w W : World} {dv : Value} {n : Int} {qv : Value} {e3 e4 e6 : TypeId} (h : ((w.alloc (.cells #[dv] e3 (0, 0))).alloc (.cells #[.int .i64 n, qv] e4 (0, 0))).alloc (.cells #[.slice none 0 0, .slice none 0 0] e6 (0, 0)) = W) :
    Loc1 W w.heap.size dv ∧ Atom.Loc2 W (w.heap.size + 1) (.int .i64 n) qv ∧ Atom.Loc2 W (w.heap.size + 1 + 1) (.slice none 0 0) (.slice none 0 0) ∧ Below w.heap.size w W ∧ W.heap.size = w.heap.size + 3 := by
  obtain ⟨r0, r1, r2, hz, hb0⟩ := start3 w _ _ _ h
  exact ⟨Loc1.of r0, Atom.Loc2.of r1, Atom.Loc2.of r2, hb0, hz⟩
theorem ltI_alloc (w : World) (o : Obj) : w.heap.size < (w.alloc o).heap.size := by rw [size_alloc]; exact Nat.lt_succ_self _

set_option maxRecDepth 100000 in
set_option maxHeartbeats 6400000 in
theorem impl_eval (u v : Value) (d : List T3) (n m : Int) (l : List A2) (S1 S2 : Nat → Prop) (w : World) (h1 : tabsC.rd w S1 [u] d) (h2 : atomsC.rd w S2 [v] l) (hw : SlTable.wtS d ≤ 1048577) (hs : ∀ A ∈ l, A.1.size ≤ 1048576) :
    Calls Tryz.prog 10 #[.agg #[u], .agg #[.int .i64 n, v], .int .i64 m] w fun e w' => EvAns (evV d n l m) (evR d n l m) (evOk d n l m) w e w' := by
  have HF := Lib.hid (fun w' (hb : Below w.heap.size w w') => impl_for u v d n l S1 S2 w' (Cd.later h1 hb) (Cd.later h2 hb) hw hs)
  have HFM := Lib.hid (fun w' (hb : Below w.heap.size w w') => QgImp.impl_full n v l S2 w' (Cd.later h2 hb))
  have HMV := Lib.hid (fun w' (hb : Below w.heap.size w w') => impl_maskvars n m v l S2 w' (Cd.later h2 hb))
  have HL := Lib.hid (fun nm (hnm : nm.size ≤ 1048576) w' (hb : Below w.heap.size w w') => DbImp.impl_look u d nm S1 w' (Cd.later h1 hb) hw hnm)
  have HRD := Lib.hid h2
  have HSZ := Lib.hid hs
  obtain ⟨a1, cap1, rfl, _⟩ := Cd.sl_form h1
  obtain ⟨a, cap, rfl, _⟩ := Cd.sl_form h2
  clear h1 h2 hw hs
  cases hfo : forOk d n l
  · have hno : evOk d n l m = false := by unfold evOk; rw [hfo]; rfl
    rw [(ev_no hno).1, (ev_no hno).2, hno]
    rw [hfo] at HF
    clear hfo hno
    go_enter Tryz.func10, Tryz.ntmps10
    go_wp2_with fail
    generalize hW : ((w.alloc _).alloc _).alloc _ = W
    obtain ⟨l3, l4, l6, hb0, hz⟩ := start_ev hW
    clear hW
    refine (HF.out _ hb0).mono ?_
    rintro e w1 ⟨rfl, hb1⟩
    have c0 := (l6.later hb1).c0
    have c1 := (l6.later hb1).c1
    have f0 := (l6.later hb1).f0
    have f1 := (l6.later hb1).f1
    have HB := Lib.hid (below_then hb0 hb1)
    have HK := Lib.hid (Loc2.set_both (l6.later hb1) (.slice none 0 0) (.slice none 0 0))
    clear hb0 hb1 l3 l4 l6 hz
    go_wp2_with fail
    have k0 := HK.out.c0
    have k1 := HK.out.c1
    refine bodyPost_ret (v := .tuple #[.agg #[.slice none 0 0, .slice none 0 0], .bool false]) (by simp [results, Tryz.results10, go_sem, k0, k1]) rfl (EvAns.no ((HB.out.setCell (by show _ ≤ w.heap.size + 1 + 1; omega) _).setCell (by show _ ≤ w.heap.size + 1 + 1; omega) _))
  rw [hfo] at HF
  by_cases hm1 : m < 1
  · have hno : evOk d n l m = false := by unfold evOk; rw [hfo, decide_eq_false (by omega)]; rfl
    rw [(ev_no hno).1, (ev_no hno).2, hno]
    clear hfo hno
    go_enter Tryz.func10, Tryz.ntmps10
    go_wp2_with fail
    generalize hW : ((w.alloc _).alloc _).alloc _ = W
    obtain ⟨l3, l4, l6, hb0, hz⟩ := start_ev hW
    clear hW
    refine (HF.out _ hb0).mono ?_
    rintro e w1 ⟨rfl, hb1⟩
    have c0 := (l6.later hb1).c0
    have c1 := (l6.later hb1).c1
    have f0 := (l6.later hb1).f0
    have f1 := (l6.later hb1).f1
    have HB := Lib.hid (below_then hb0 hb1)
    have HK := Lib.hid (Loc2.set_both (l6.later hb1) (.slice none 0 0) (.slice none 0 0))
    clear hb0 hb1 l3 l4 l6 hz
    go_wp2_with fail
    have k0 := HK.out.c0
    have k1 := HK.out.c1
    refine bodyPost_ret (v := .tuple #[.agg #[.slice none 0 0, .slice none 0 0], .bool false]) (by simp [results, Tryz.results10, go_sem, k0, k1]) rfl (EvAns.no ((HB.out.setCell (by show _ ≤ w.heap.size + 1 + 1; omega) _).setCell (by show _ ≤ w.heap.size + 1 + 1; omega) _))
  by_cases hm2 : (fm n l : Int) < m
  · have hno : evOk d n l m = false := by unfold evOk; rw [hfo, decide_eq_false (by omega)]; rfl
    rw [(ev_no hno).1, (ev_no hno).2, hno]
    clear hfo hno
    generalize (fm n l : Int) = F at *
    go_enter Tryz.func10, Tryz.ntmps10
    go_wp2_with fail
    generalize hW : ((w.alloc _).alloc _).alloc _ = W
    obtain ⟨l3, l4, l6, hb0, hz⟩ := start_ev hW
    clear hW
    refine (HF.out _ hb0).mono ?_
    rintro e w1 ⟨rfl, hb1⟩
    have L6 := Lib.hid (l6.later hb1)
    have y0 := (l4.later hb1).c0
    have y1 := (l4.later hb1).c1
    have HB := Lib.hid (below_then hb0 hb1)
    clear hb0 hb1 l3 l4 l6 hz
    go_wp2_with fail
    refine (HFM.out _ HB.out).mono ?_
    rintro e w2 ⟨rfl, hb2⟩
    have HB2 := Lib.hid (below_then HB.out hb2)
    have l6 := L6.out.later hb2
    have c0 := l6.c0
    have c1 := l6.c1
    have f0 := l6.f0
    have f1 := l6.f1
    have HK := Lib.hid (Loc2.set_both l6 (.slice none 0 0) (.slice none 0 0))
    clear hb2 l6 y0 y1
    go_wp2_with fail
    have k0 := HK.out.c0
    have k1 := HK.out.c1
    refine bodyPost_ret (v := .tuple #[.agg #[.slice none 0 0, .slice none 0 0], .bool false]) (by simp [results, Tryz.results10, go_sem, k0, k1]) rfl (EvAns.no ((HB2.out.setCell (by show _ ≤ w.heap.size + 1 + 1; omega) _).setCell (by show _ ≤ w.heap.size + 1 + 1; omega) _))
  have hok : evOk d n l m = true := by unfold evOk; rw [hfo, decide_eq_true (by omega)]; rfl
  obtain ⟨t, rfl, ht1, ht16, htl, hmb⟩ := evOk_mB hok
  have HOK := Lib.hid hok
  have HFO := Lib.hid hfo
  have HQP := Lib.hid (for_qp hfo)
  have HMB := Lib.hid hmb
  have HT := Lib.hid (And.intro ht16 htl)
  have HMA := Lib.hid (fun w' => QgImp.impl_maskatoms (t : Int) w')
  rw [maL_nat ht16] at HMA
  clear hfo hok ht1 htl hmb
  have HF1 := Lib.hid hm2
  generalize (fm n l : Int) = F at *
  have q1 : ¬ (t : Int) < 1 := hm1
  have q2 : ¬ F < (t : Int) := hm2
  clear hm1 hm2
  go_enter Tryz.func10, Tryz.ntmps10
  go_wp2_with fail
  generalize hW : ((w.alloc _).alloc _).alloc _ = W
  obtain ⟨l3, l4, l6, hb0, hz⟩ := start_ev hW
  clear hW
  refine (HF.out _ hb0).mono ?_
  rintro e w1 ⟨rfl, hb1⟩
  have L3 := Lib.hid (l3.later hb1)
  have L4 := Lib.hid (l4.later hb1)
  have L6 := Lib.hid (l6.later hb1)
  have HB := Lib.hid (below_then hb0 hb1)
  have HZ := Lib.hid (show w.heap.size + 3 ≤ w1.heap.size by have := hb1.size; omega)
  clear hb0 hb1 l3 l4 l6 hz
  have y0 := L4.out.c0
  have y1 := L4.out.c1
  go_wp2_with fail
  refine (HFM.out _ HB.out).mono ?_
  rintro e w2 ⟨rfl, hb2⟩
  have HB2 := Lib.hid (below_then HB.out hb2)
  have HZ2 := Lib.hid (show w.heap.size + 3 ≤ w2.heap.size by have := hb2.size; have := HZ.out; omega)
  replace L3 := Lib.hid (L3.out.later hb2)
  replace L4 := Lib.hid (L4.out.later hb2)
  replace L6 := Lib.hid (L6.out.later hb2)
  clear hb2 y0 y1
  go_wp2_with fail
  refine (HMA.out w2).mono ?_
  rintro e w3 ⟨lv, fL, rfl, hol, hnl, hb3⟩
  obtain ⟨al, cl, rfl⟩ := Cd.ow_slice hol
  have hst : EvI w w3 (.slice a1 d.length cap1) n (.slice a l.length cap) [] (varsL t) (.slice none 0 0) (.slice al (varsL t).length cl) [] fL :=
    ⟨L3.out.later hb3, L4.out.later hb3, L6.out.later hb3, Cd.ow_nil _ _, by simp, rowC.ow_base hol HZ2.out, fun _ _ q => by simp at q, below_then HB2.out hb3, Nat.le_trans HZ2.out hb3.size⟩
  have HST := Lib.hid hst
  have HVB := Lib.hid (vars_lt HQP.out.2.2.2.1 HT.out.2)
  have HV4 := Lib.hid (varsL_len t)
  have HSL := Lib.hid (selA_list HQP.out.2.2.2.1 HT.out.2)
  clear hst L3 L4 L6 HZ HZ2 HB HB2 hol hnl hb3
  generalize varsL t = V at *
  go_wp2_with fail
  go_loopw [8, 32] (fun o1 i wr => ∃ (k : Nat) (f1 : List Nat) (ps : List (Value × Value)), k ≤ V.length ∧ i = .int .i64 k ∧ EvI w wr (.slice a1 d.length cap1) n (.slice a l.length cap) ps V o1 (.slice al V.length cl) f1 fL ∧ Hid (PsI w S2 wr d ps ((V.take k).map (atG l)) f1)) (fun _ i _ => V.length - (intOf i).toNat)
  case atStart => exact ⟨0, _, [], Nat.zero_le _, rfl, HST.out, Lib.hid ⟨rfl, fun i h => by simp at h⟩⟩
  case round =>
    obtain ⟨k, f1, ps, hk, rfl, hst, hps⟩ := hrel
    obtain ⟨ao1, co1, rfl⟩ := Cd.ow_slice (c := raw2) hst.t
    have HST := Lib.hid hst
    by_cases hlt : k < V.length
    · obtain ⟨bl, ol, cl', e1, _, hcl⟩ := ri_at (row_ri (rowC.ow_rd hst.a)).1 hlt
      injection e1 with e1 e2 e3
      subst e1 e3
      have hvb := HVB.out _ (List.getElem_mem hlt)
      have y1 := hst.c4.c1
      obtain ⟨z, hz⟩ := Int.eq_ofNat_of_zero_le hvb.1
      have hzl : z < l.length := by omega
      obtain ⟨b, off, cap', us, e1, hSb, hbB, hat, hu⟩ := Cd.sl_at HRD.out hzl
      injection e1 with e1 e2 e3
      subst e1 e3
      obtain ⟨ua, rfl, hsz, hua⟩ := atom_cells hu
      obtain ⟨au, cu, rfl, _⟩ := row_form hua
      have q0 := hat 0 (by simp)
      have q1' := hat 1 (by simp)
      simp only [List.getElem_cons_zero, List.getElem_cons_succ, Nat.add_zero, show atomC.n = 2 from rfl] at q0 q1'
      have HQ := Lib.hid (And.intro q0 (And.intro q1' hbB))
      have p1 : (0 : Int) ≤ (k : Int) := by omega
      have p2 : (k : Int) < (V.length : Int) := by omega
      have p5 : (k : Int) < 4 := by have := HV4.out; omega
      have i1 : (0 : Int) ≤ (z : Int) := by omega
      have i2 : (z : Int) < (l.length : Int) := by omega
      have HLT := Lib.hid hlt
      have HTK := Lib.hid (show (V.take (k + 1)).map (atG l) = (V.take k).map (atG l) ++ [l[z]] by
        rw [List.take_succ_eq_append_getElem hlt, List.map_append, List.map_singleton, hz]
        unfold atG
        simp [hzl])
      rw [hz] at hcl
      have hft := for_tab HFO.out (List.getElem_mem hzl)
      have HSOME := Lib.hid hft.2.2
      have HNS := Lib.hid (HSZ.out _ (List.getElem_mem hzl))
      have HUA := Lib.hid hua
      have HPS := Lib.hid hps.out
      clear hu hat q0 q1' hua e2 hft hst hps hvb hz hsz hSb
      generalize l[z] = A at *
      clear hzl hlt
      generalize hTT : lkT d A.1 = T at *
      have HLK := Lib.hid (fun w' (hq : LaterQ wr w') => (show Calls Tryz.prog 47 #[.agg #[.slice a1 d.length cap1], .string A.1] w' fun e w'' => ∃ ta tc fp, e = .returned (.tuple #[.agg #[.string T.1, .int .i64 T.2.1, .slice ta T.2.2.length tc], .bool true]) ∧ rowsC.ow w'' w'.heap.size [.slice ta T.2.2.length tc] T.2.2 fp ∧ fp.Nodup ∧ Below w'.heap.size w' w'' from
        (HL.out A.1 HNS.out w' (below_then HST.out.hb hq)).mono (by
          rintro e w'' ⟨tv, fp, rfl, how, hnd, hbq⟩
          rw [hTT] at how ⊢
          rw [HSOME.out]
          obtain ⟨ta, tc, rfl⟩ := Cd.ow_slice (c := rowC) how
          exact ⟨ta, tc, fp, rfl, how, hnd, hbq⟩)))
      have HTT := Lib.hid hTT
      have hq0 := (HST.out.hb.cell (p := ⟨b, off + z * 2, none⟩) HQ.out.2.2).trans HQ.out.1
      have lb : b < wr.heap.size := Nat.lt_of_lt_of_le HQ.out.2.2 HST.out.hb.size
      have g0 := HST.out.c3.c0
      have gl0 := HST.out.c3.lt
      have gl1 := HST.out.c4.lt
      have HSQ := Lib.hid (fun wx (h : LaterQ wr wx) => (show wx.cell? ⟨w.heap.size, 0, none⟩ = some (.slice a1 d.length cap1) ∧ wx.cell? ⟨w.heap.size + 1, 1, none⟩ = some (.slice (some ⟨b, off, none⟩) l.length cap) ∧ wx.cell? ⟨b, off + z * 2, none⟩ = some (.string A.1) ∧ LaterQ wr wx from
        ⟨(Below.cell h (p := ⟨w.heap.size, 0, none⟩) gl0).trans g0, (Below.cell h (p := ⟨w.heap.size + 1, 1, none⟩) gl1).trans y1, (Below.cell h (p := ⟨b, off + z * 2, none⟩) lb).trans hq0, h⟩))
      clear hq0 lb g0 gl0 gl1 hTT y1
      go_upto_region 7 with fail
      have kk : LaterQ wr wr.drew := (Below.refl _ wr).drew
      go_cut [11, 12] (fun s11 s12 wx => s12 = .bool true ∧ MadeO wr T s11 wx)
      case first =>
        go_region_held3 (fun wx => wx.cell? ⟨w.heap.size, 0, none⟩ = some (.slice a1 d.length cap1) ∧ wx.cell? ⟨w.heap.size + 1, 1, none⟩ = some (.slice (some ⟨b, off, none⟩) l.length cap) ∧ wx.cell? ⟨b, off + z * 2, none⟩ = some (.string A.1) ∧ LaterQ wr wx)
          ((refine HSQ.out _ ?_; first | assumption | exact Below.drew (Below.refl _ wr) | exact later_alloc (by assumption) _ | exact later_drewA wr _ | exact later_set3 (by first | assumption | exact later_alloc (by assumption) _) (later_size (by first | assumption | exact Below.refl _ _))))
          (first | (go_at_call 47; refine (HLK.out _ (by first | assumption | exact later_alloc (by assumption) _ | exact later_drewA wr _)).mono ?_; rintro e wq ⟨ta, tc, fT, rfl, how, hnd, hbq⟩; (have kk : LaterQ wr wq := (show Below wr.heap.size wr wq by refine below_then (show LaterQ wr _ from ?_) hbq; first | assumption | exact later_alloc (by assumption) _ | exact later_drewA wr _)); (have HOW := Lib.hid (And.intro how hnd)); (first | (have GL := Lib.hid (GL.out.later hbq)) | (have GL := Lib.hid (locQ_new' hbq)) | (have GL := Lib.hid (locQ_new hbq)) | (have GL := Lib.hid (locQ_new3 hbq)) | skip); (first | (have x0 := GL.out.c0; have x1 := GL.out.c1; have x2 := GL.out.c2; have f0 := GL.out.f0; have f1 := GL.out.f1; have f2 := GL.out.f2) | skip); (have hS := HSQ.out wq kk); (have k0 := hS.1); (have k1 := hS.2.1); (have k2 := hS.2.2.1); clear hbq how hnd hS))
        all_goals
          go_wp2_with fail
          go_meet
          refine ⟨rfl, ?_⟩
          first
            | (have GG := GL.out; exact madeO (by assumption) (later_size (by first | assumption | exact Below.refl _ _)) GG HOW.out.1 HOW.out.2 (ltI_alloc _ _))
            | ((with_reducible refine madeO2 (by assumption) HOW.out.1 HOW.out.2 ?_); exact Nat.le_refl wr.heap.size)
      case rest =>
        obtain ⟨rfl, kp, ta, tc, fT, rfl, hkp, hl3, hoT, hnT, hlat⟩ := hcut
        have hX := HST.out.later hlat
        have HX := Lib.hid hX
        have x2 := hl3.c2
        have z1 := hX.c4.c1
        have r1 := (hX.hb.cell (p := ⟨b, off + z * 2 + 1, none⟩) HQ.out.2.2).trans HQ.out.2.1
        have hA : Below wc.heap.size wc (wc.drew.alloc (.cells #[.slice au A.2.length cu, .slice ta T.2.2.length tc] 80 (0, 0))) := (Below.drew (Below.refl _ wc)).alloc (Nat.le_refl _) _
        have HXA := Lib.hid (hX.later hA)
        have HPA := Lib.hid (PsI.later (PsI.later HPS.out hlat) hA)
        have HRW := Lib.hid (show rowsC.rd (wc.drew.alloc (.cells #[.slice au A.2.length cu, .slice ta T.2.2.length tc] 80 (0, 0))) (fun b => b ∉ f1) [.slice ta T.2.2.length tc] T.2.2 from Cd.later (Cd.mono _ (rowsC.ow_rd hoT) (fun b _ hb q => by
          have h1 := (rowsC.ow_lt hoT b hb).1
          have h2 := (HST.out.f1_ge b q).2
          omega)) hA)
        have HAT := Lib.hid (QryPar.at2 (row_alloc wc.drew (.cells #[.slice au A.2.length cu, .slice ta T.2.2.length tc] 80 (0, 0))))
        have HPL := Lib.hid (show ps.length + 1 ≤ 1000000000 by have h0 := HPS.out.1; rw [List.length_map, List.length_take] at h0; have := HV4.out; omega)
        clear hX hA hl3 hoT hnT hlat hkp kk
        generalize T.2.2.length = tn at *
        go_wp2_with fail
        go_region_law (first | (refine Cd.step_appendN (c := raw2) rfl (.tmp 47) (.tmp 57) 78 rfl (w.heap.size + 3) 80 (.agg #[.slice none 0 0, .slice none 0 0]) 2 48 rfl Tryz.underlying78 info_rel rfl (by decide) (.slice ao1 ps.length co1) ps f1 rfl HXA.out.t HXA.out.tn wc.heap.size [.slice au A.2.length cu, .slice ta tn tc] rfl HAT.out (.slice au A.2.length cu, .slice ta tn tc) [] ⟨rfl, ⟨rfl, rfl⟩, rfl⟩ (by simp) (by simp) HPL.out HXA.out.sz ?_; intro g6 cap6 w6 f6 ho6 hn6 hs6 ht6))
        all_goals
          have HY := Lib.hid (HXA.out.put ho6 hn6 (by rw [size_alloc]; simpa using hs6) ht6)
          have HP6 := Lib.hid (show PsI w S2 w6 d (ps ++ [(.slice au A.2.length cu, .slice ta tn tc)]) ((V.take (k + 1)).map (atG l)) f6 by
            rw [HTK.out]
            exact (HPA.out.snoc HUA.out (by rw [HTT.out]; exact HRW.out)).touched ht6 (fun b hb => by
              rcases hs6 b hb with q | q | q
              · exact .inl q
              · cases q
              · exact .inr (by rw [size_alloc]; simpa using q)))
          clear ho6 hn6 hs6 ht6 x2 z1 r1
          go_wp2_with fail
          go_roundw
          case rel => exact ⟨k + 1, f6, _, by have := HLT.out; omega, by go_num, HY.out, HP6⟩
          case measure => have := HLT.out; simp [intOf]; omega
    · have ek : k = V.length := by omega
      subst ek
      rw [List.take_length, ← HSL.out] at hps
      have HPS := Lib.hid hps.out
      have hfo := HFO.out
      have hcov := AnsQ.cover hfo t
      have hrin := rels_in hfo t
      have hrle := rels_le hfo t
      rw [← HMB.out] at hcov
      have HVL := Lib.hid (varsL_len (mB n l (t : Int)))
      have HVB2 := Lib.hid (varsL_bd (s := mB n l (t : Int)))
      have HRES := Lib.hid (show evV d n l (t : Int) = varsL (mB n l (t : Int)) ∧ evR d n l (t : Int) = walkL (varsL (mB n l (t : Int))) (relsQ d (selA l t l.length)) (varsL (mB n l (t : Int))).length [] by
        unfold evV evR
        rw [HOK.out]
        exact ⟨rfl, rfl⟩)
      have HJC := Lib.hid (And.intro hcov (And.intro hrin hrle))
      have y0 := hst.c4.c0
      have y1 := hst.c4.c1
      clear hps hlt hk hst hfo hcov hrin hrle
      generalize varsL (mB n l (t : Int)) = vs at *
      generalize selA l t l.length = LA at *
      go_wp2_with fail
      refine (HMV.out _ HST.out.hb).mono ?_
      rintro e w5 ⟨uv, fv, rfl, hov, hnv, hb5⟩
      obtain ⟨av, cv, rfl⟩ := Cd.ow_slice hov
      have hX := HST.out.later hb5
      have HXA := Lib.hid hX
      have HOV := Lib.hid (rowC.ow_base hov HST.out.hb.size)
      have HNV := Lib.hid hnv
      have HVG := Lib.hid (show ∀ b ∈ fv, w.heap.size + 3 ≤ b from fun b hb => Nat.le_trans HST.out.sz (rowC.ow_lt hov b hb).1)
      have hlen : ps.length = (relsQ d LA).length := by unfold relsQ; rw [List.length_map]; exact HPS.out.1
      have hrel := raw_rd (c := relC) rfl hX.t hlen (S := fun _ => True) (fun i h h' => by
        have hi : i < LA.length := by rw [← HPS.out.1]; exact h
        have e1 : (relsQ d LA)[i] = relOf (lkT d LA[i].1) LA[i] := List.getElem_map ..
        rw [e1]
        obtain ⟨k1, k2⟩ := HPS.out.2 i h hi
        exact ⟨[_], [_], rfl, Cd.mono _ (Cd.below (c := rowC) (Cd.mono _ k1 (T := (· < w.heap.size)) fun b hb _ => hb) hX.hb) fun _ _ _ => trivial, Cd.mono _ (Cd.later k2 hb5) fun _ _ _ => trivial⟩) (fun _ _ => trivial)
      have HCALL := Lib.hid (impl_join _ _ vs (relsQ d LA) _ _ w5 (rowC.ow_rd hov) hrel HJC.out.1 HJC.out.2.1 HVB2.out HVL.out HJC.out.2.2)
      clear hX hov hnv hb5 hlen hrel y0 y1
      go_wp2_with fail
      refine HCALL.out.mono ?_
      rintro e w6 ⟨rv, fr, rfl, hor, hnr, hb6⟩
      obtain ⟨ar, cr, rfl⟩ := Cd.ow_slice (c := rowC) hor
      have hY := HXA.out.later hb6
      have HY := Lib.hid hY.hb
      have HOV2 := Lib.hid (Cd.ow_later HOV.out hb6)
      have HOR := Lib.hid (rowsC.ow_base hor HXA.out.hb.size)
      have HNR := Lib.hid (show (fv ++ fr).Nodup from List.nodup_append.2 ⟨HNV.out, hnr, fun a ha b hb q => by
        have h1 := (rowC.ow_lt HOV.out a ha).2
        have h2 := (rowsC.ow_lt hor b hb).1
        omega⟩)
      have HFV := Lib.hid (show w.heap.size + 1 + 1 ∉ fv ++ fr from fun q => by
        rcases List.mem_append.1 q with q | q
        · have := HVG.out _ q; omega
        · have h2 := (rowsC.ow_lt hor _ q).1
          have h3 := HXA.out.sz
          omega)
      have c0 := hY.c6.c0
      have c1 := hY.c6.c1
      have f0 := hY.c6.f0
      have f1 := hY.c6.f1
      have HK := Lib.hid (Loc2.set_both hY.c6 (.slice av vs.length cv) (.slice ar (walkL vs (relsQ d LA) vs.length []).length cr))
      clear hY hor hnr hb6
      go_wp2_with fail
      have k0 := HK.out.c0
      have k1 := HK.out.c1
      refine bodyPost_ret (v := .tuple #[.agg #[.slice av vs.length cv, .slice ar (walkL vs (relsQ d LA) vs.length []).length cr], .bool true]) (by simp [results, Tryz.results10, go_sem, k0, k1]) rfl
        (by
          rw [HRES.out.1, HRES.out.2, HOK.out]
          exact ⟨_, _, fv ++ fr, rfl, Tab.ow_setCell (c := ansC) (Tab.ow_setCell (c := ansC) (ans_ow HOV2.out HOR.out) HFV.out _) HFV.out _, HNR.out, (HY.out.setCell (by show _ ≤ w.heap.size + 1 + 1; omega) _).setCell (by show _ ≤ w.heap.size + 1 + 1; omega) _⟩)
end Go.Proofs.YtdkhgeknjekkoaaGreat.AnsEv
