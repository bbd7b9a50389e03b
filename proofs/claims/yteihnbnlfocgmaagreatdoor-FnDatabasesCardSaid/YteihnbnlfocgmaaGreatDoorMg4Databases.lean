/- Texts that the proof rests on, one behind the other. -/
import Derived.Shelf.SlSortCmp.WholeK
import Derived.Ground.SlsfProg
import Derived.Test.YteihnbnlfocgmaaGreatDoorProg
import Derived.Test.YteihnbnlfocgmaaGreatDoorMg3Databases
import Derived.Test.YteihnbnlfocgmaaGreatDoorDbAcc
import Derived.Deep.QuietTactic
import Derived.BigQuiet

namespace Go.Proofs
open Go.Shelf
def Tryz.laysSk6_ren : Go.Shelf.Ren := ⟨fun | 6 => 55 | 15 => 83 | 14 => 82 | 28 => 109 | 29 => 110 | 20 => 101 | 21 => 102 | 22 => 103 | 23 => 104 | 24 => 105 | 25 => 106 | 26 => 107 | 27 => 108 | 46 => 123 | 47 => 124 | 48 => 125 | 49 => 126 | 50 => 127 | 57 => 137 | n => n, fun | 22 => 24 | 24 => 29 | 25 => 58 | 3 => 3 | 39 => 109 | 0 => 0 | 53 => 127 | 55 => 129 | 4 => 4 | 46 => 120 | 45 => 119 | 50 => 124 | 5 => 5 | 9 => 9 | 66 => 146 | 70 => 150 | 76 => 165 | 77 => 166 | n => n, fun | n => n⟩
theorem Tryz.laysSk6 : Go.Proofs.SlLaysF0.n6 Tryz.prog Tryz.laysSk6_ren := {
  mixed := by kernel_rfl
  f6 := ⟨Tryz.f55.name, by decide, Tryz.func55.trans (congrArg some (by kernel_rfl))⟩
  f14 := ⟨Tryz.f82.name, by decide, Tryz.func82.trans (congrArg some (by kernel_rfl))⟩
  f15 := Tryz.func83.trans (congrArg some (by kernel_rfl))
  f20 := ⟨Tryz.f101.name, by decide, Tryz.func101.trans (congrArg some (by kernel_rfl))⟩
  f21 := ⟨Tryz.f102.name, by decide, Tryz.func102.trans (congrArg some (by kernel_rfl))⟩
  f22 := ⟨Tryz.f103.name, by decide, Tryz.func103.trans (congrArg some (by kernel_rfl))⟩
  f23 := ⟨Tryz.f104.name, by decide, Tryz.func104.trans (congrArg some (by kernel_rfl))⟩
  f24 := ⟨Tryz.f105.name, by decide, Tryz.func105.trans (congrArg some (by kernel_rfl))⟩
  f25 := ⟨Tryz.f106.name, by decide, Tryz.func106.trans (congrArg some (by kernel_rfl))⟩
  f26 := ⟨Tryz.f107.name, by decide, Tryz.func107.trans (congrArg some (by kernel_rfl))⟩
  f27 := ⟨Tryz.f108.name, by decide, Tryz.func108.trans (congrArg some (by kernel_rfl))⟩
  f28 := Tryz.func109.trans (congrArg some (by kernel_rfl))
  f29 := Tryz.func110.trans (congrArg some (by kernel_rfl))
  f46 := ⟨Tryz.f123.name, by decide, Tryz.func123.trans (congrArg some (by kernel_rfl))⟩
  f47 := Tryz.func124.trans (congrArg some (by kernel_rfl))
  f48 := Tryz.func125.trans (congrArg some (by kernel_rfl))
  f49 := ⟨Tryz.f126.name, by decide, Tryz.func126.trans (congrArg some (by kernel_rfl))⟩
  f50 := ⟨Tryz.f127.name, by decide, Tryz.func127.trans (congrArg some (by kernel_rfl))⟩
  f57 := ⟨Tryz.f137.name, by decide, Tryz.func137.trans (congrArg some (by kernel_rfl))⟩
  t0 := Tryz.underlying0
  a0 := Tryz.isAgg0
  z0 := Tryz.sizeOf0
  v0 := Tryz.zeroValue0
  t3 := Tryz.underlying3
  a3 := Tryz.isAgg3
  z3 := Tryz.sizeOf3
  v3 := Tryz.zeroValue3
  t4 := Tryz.underlying4
  a4 := Tryz.isAgg4
  z4 := Tryz.sizeOf4
  v4 := Tryz.zeroValue4
  t5 := Tryz.underlying5
  a5 := Tryz.isAgg5
  z5 := Tryz.sizeOf5
  v5 := Tryz.zeroValue5
  t9 := Tryz.underlying9
  a9 := Tryz.isAgg9
  z9 := Tryz.sizeOf9
  v9 := Tryz.zeroValue9
  t22 := Tryz.underlying24
  a22 := Tryz.isAgg24
  z22 := Tryz.sizeOf24
  v22 := Tryz.zeroValue24
  t25 := Tryz.underlying58
  a25 := Tryz.isAgg58
  z25 := Tryz.sizeOf58
  v25 := Tryz.zeroValue58
  t39 := Tryz.underlying109
  a39 := Tryz.isAgg109
  z39 := Tryz.sizeOf109
  v39 := Tryz.zeroValue109
  t45 := Tryz.underlying119
  a45 := Tryz.isAgg119
  z45 := Tryz.sizeOf119
  v45 := Tryz.zeroValue119
  t46 := Tryz.underlying120
  a46 := Tryz.isAgg120
  z46 := Tryz.sizeOf120
  v46 := Tryz.zeroValue120
  t50 := Tryz.underlying124
  a50 := Tryz.isAgg124
  z50 := Tryz.sizeOf124
  v50 := Tryz.zeroValue124
  t53 := Tryz.underlying127
  a53 := Tryz.isAgg127
  z53 := Tryz.sizeOf127
  v53 := Tryz.zeroValue127
  t55 := Tryz.underlying129
  a55 := Tryz.isAgg129
  z55 := Tryz.sizeOf129
  v55 := Tryz.zeroValue129
  t66 := Tryz.underlying146
  a66 := Tryz.isAgg146
  z66 := Tryz.sizeOf146
  v66 := Tryz.zeroValue146
  t70 := Tryz.underlying150
  a70 := Tryz.isAgg150
  z70 := Tryz.sizeOf150
  v70 := Tryz.zeroValue150
  t76 := Tryz.underlying165
  a76 := Tryz.isAgg165
  z76 := Tryz.sizeOf165
  v76 := Tryz.zeroValue165
  t77 := Tryz.underlying166
  a77 := Tryz.isAgg166
  z77 := Tryz.sizeOf166
  v77 := Tryz.zeroValue166 }
end Go.Proofs

namespace Go.Proofs.YteihnbnlfocgmaaGreatDoor.DbSort
open Go Go.RowKit Byt Ints IntsLaw Cd Rows2 Tab SlMath TabOpen TabElem SlTable Db TabSpec DbMath TabImp DbMap DbExact DbImp

/-- A table with its cells and the blocks below it. -/
structure Tri where
  t : TabV
  T : T3
  f : List Nat
instance : Inhabited Tri := ⟨⟨⟨⟨#[]⟩, 0, none, 0, 0⟩, (⟨#[]⟩, 0, []), []⟩⟩
def encT (x : Tri) : List Value := x.t.us
def cfT (x y : Tri) : Int := cmpN x.t.nm y.t.nm
theorem ltOf_cf (x y : Tri) : ltOf cfT x y = ltB x.t.nm y.t.nm := by
  unfold ltOf cfT
  have := cmpN_lt x.t.nm y.t.nm
  cases h : ltB x.t.nm y.t.nm
  · rw [h] at this; simp only [Bool.false_eq_true, iff_false] at this; exact decide_eq_false this
  · rw [h] at this; exact decide_eq_true (this.2 rfl)
theorem swoT : Sort.SWO (ltOf cfT) where
  irrefl x := by rw [ltOf_cf, ltB_irrefl]
  trans x y z h1 h2 := by rw [ltOf_cf] at *; exact ltB_trans h1 h2
  ntrans x y z h1 h2 := by
    rw [ltOf_cf] at *
    cases h : ltB x.t.nm z.t.nm
    · rfl
    · cases q : ltB y.t.nm x.t.nm
      · rw [ltB_tri h1 q] at h; rw [h] at h2; cases h2
      · have := ltB_trans q h; rw [this] at h2; cases h2
theorem tri_each {w : World} {base : Nat} : ∀ {xss : List (List Value)} {l : List T3} {fps : List (List Nat)}, Cd.Each tabC w base xss l fps → ∃ ds : List Tri, ds.map encT = xss ∧ ds.map Tri.T = l ∧ ds.map Tri.f = fps ∧ ∀ x ∈ ds, tabC.ow w base x.t.us x.T x.f
  | [], [], [], _ => ⟨[], rfl, rfl, rfl, fun _ h => by cases h⟩
  | x :: xs, T :: l, f :: fs, h => by
    obtain ⟨ds, h1, h2, h3, h4⟩ := tri_each (xss := xs) (l := l) (fps := fs) h.2
    obtain ⟨a, c, rfl⟩ := shape_ow h.1
    refine ⟨⟨⟨T.1, T.2.1, a, T.2.2.length, c⟩, T, f⟩ :: ds, by rw [List.map_cons, h1]; rfl, by rw [List.map_cons, h2], by rw [List.map_cons, h3], fun y hy => ?_⟩
    rcases List.mem_cons.1 hy with rfl | q
    · exact h.1
    · exact h4 y q
theorem each_tri {w : World} {base : Nat} : ∀ (ds : List Tri), (∀ x ∈ ds, tabC.ow w base x.t.us x.T x.f) → Cd.Each tabC w base (ds.map encT) (ds.map Tri.T) (ds.map Tri.f)
  | [], _ => trivial
  | x :: ds, h => ⟨h x List.mem_cons_self, each_tri ds fun y hy => h y (List.mem_cons_of_mem _ hy)⟩
theorem flat_at : ∀ (ds : List Tri) (j : Nat), j < ds.length * 3 → (ds.map encT).flatten[j]? = some ((encT (ds.toArray[j / 3]!))[j % 3]!)
  | [], j, h => by simp at h
  | x :: ds, j, h => by
    rw [List.map_cons, List.flatten_cons]
    by_cases q : j < 3
    · rw [List.getElem?_append_left (by simpa [encT, TabV.us] using q), Nat.div_eq_of_lt q, Nat.mod_eq_of_lt q]
      have e : (x :: ds).toArray[0]! = x := rfl
      rw [e, getElem!_pos (encT x) j (by simpa [encT, TabV.us] using q), List.getElem?_eq_getElem]
    · have hl : (encT x).length = 3 := rfl
      rw [List.getElem?_append_right (by omega), hl, flat_at ds (j - 3) (by rw [List.length_cons] at h; omega)]
      have e1 : j / 3 = (j - 3) / 3 + 1 := by omega
      have e2 : j % 3 = (j - 3) % 3 := by omega
      rw [e1, e2]
      have hj : (j - 3) / 3 < ds.length := by rw [List.length_cons] at h; omega
      rw [getElem!_pos ds.toArray _ (by simpa using hj), getElem!_pos (x :: ds).toArray _ (by simpa using hj)]
      simp
theorem flat_len : ∀ (ds : List Tri), (ds.map encT).flatten.length = ds.length * 3
  | [] => rfl
  | x :: ds => by rw [List.map_cons, List.flatten_cons, List.length_append, flat_len ds, List.length_cons]; show 3 + _ = _; omega
theorem put_take (ds : List Tri) (cur : Array Value) (h : ds.length * 3 ≤ cur.size) : (Sort.putCells id 0 (Sort.flatK encT 3 ds.toArray) cur).toList.take (ds.length * 3) = (ds.map encT).flatten := by
  apply List.ext_getElem?
  intro j
  by_cases hj : j < ds.length * 3
  · rw [flat_at ds j hj, List.getElem?_take, if_pos hj, Array.getElem?_toList]
    unfold Sort.putCells
    rw [Array.getElem?_mapIdx, Array.getElem?_eq_getElem (by omega)]
    simp only [Option.map_some, Sort.size_flatK, List.size_toArray, Nat.zero_le, true_and, Nat.zero_add, hj, if_true, id, Nat.sub_zero]
    rw [Sort.get_flatK _ _ _ _ (by simpa using hj)]
  · rw [List.getElem?_eq_none (by rw [List.length_take]; omega), List.getElem?_eq_none (by rw [flat_len]; omega)]
theorem heap_grow (w : World) (os : Array Obj) {k : Nat} (h : k < w.heap.size) : (Sort.grow w os).heap[k]? = w.heap[k]? := by
  show (w.heap ++ os)[k]? = w.heap[k]?
  rw [Array.getElem?_append_left h]
theorem heap_sort (w : World) (g m : Nat) (d : Array Tri) (os : Array Obj) (hg : g < w.heap.size) {cur : Array Value} {e : TypeId} (h : w.heap[g]? = some (.cells cur e (0, 0))) :
    (sortWorldK encT 3 w g 0 m d os).heap[g]? = some (.cells (Sort.putCells id 0 (Sort.flatK encT 3 d) cur) e (0, 0)) := by
  unfold sortWorldK
  rw [heap_grow _ os (by rw [Sort.size_putRowK]; exact hg)]
  show (w.heap.modify g _)[g]? = _
  rw [Array.getElem?_modify, if_pos rfl, h]
  rfl
theorem touch_sortK (w : World) (g m : Nat) (d : Array Tri) (os : Array Obj) : Cd.Touch [g] w (sortWorldK encT 3 w g 0 m d os) := by
  unfold sortWorldK
  exact ((Cd.touch_ahead _ w m).trans (Cd.touch_putRow id _ g _)).trans (Cd.Touch.of_below (below_grow _ os))

/-- The same tables, in the order of their names. -/
def SortAns (g cap base : Nat) (l : List T3) (w : World) (e : Ending) (w' : World) : Prop :=
  ∃ l' fp', e = .returned (.tuple #[]) ∧ tabsC.ow w' base [.slice (some ⟨g, 0, none⟩) l'.length cap] l' fp' ∧ fp'.Nodup ∧ l'.Perm l ∧ l'.Pairwise (fun a b => ltB b.1 a.1 = false) ∧ Cd.Touch [g] w w'

set_option maxRecDepth 100000 in
set_option maxHeartbeats 1600000 in
theorem sort_tables (g cap base : Nat) (l : List T3) (fp : List Nat) (w : World) (ho : tabsC.ow w base [.slice (some ⟨g, 0, none⟩) l.length cap] l fp) (hn : fp.Nodup) (hl : l.length ≤ 1000000) :
    Calls Tryz.prog 55 #[.slice (some ⟨g, 0, none⟩) l.length cap, .func (.func 35) #[] #[]] w fun e w' => SortAns g cap base l w e w' := by
  obtain ⟨v', xss, fps, e1, hown, hE, rfl⟩ := ho
  injection e1 with e1 _
  subst e1
  obtain ⟨ds, rfl, rfl, rfl, hds⟩ := tri_each hE
  have hdl : (ds.map Tri.T).length = ds.length := List.length_map ..
  rcases hown.2 with ⟨h', _⟩ | ⟨g', cap', cur, h', hbg, hg, hnc, hcm, hcs, htake⟩
  · cases h'
  simp only [Value.slice.injEq, Option.some.injEq, Addr.mk.injEq, and_true, true_and] at h'
  obtain ⟨rfl, rfl⟩ := h'
  have hgw : g < w.heap.size := (Array.getElem?_eq_some_iff.1 hg).1
  simp only [Value.ownBlock, Option.toList_some, List.cons_append, List.nil_append, List.nodup_cons] at hn
  have hsz : ds.toArray.size = (ds.map Tri.T).length := by rw [hdl]; rfl
  have hH : Sort.HoldsK encT 3 w g 0 ds.toArray := by
    intro j hj
    rw [Sort.size_flatK, List.size_toArray] at hj
    have hc := World.ownsRow.cellAt hown j (by rw [hdl]; exact hj)
    rw [flat_at ds j hj] at hc
    rw [Sort.get_flatK _ _ _ _ (by simpa using hj), Nat.zero_add]
    exact ⟨hc, by simp [World.frozen?, hg]⟩
  have hcmp : CmpLays Tryz.prog 35 #[] encT 3 cfT g 0 ds.toArray.size w := fun m os dk _ x y =>
    (cmp_names x.t.nm y.t.nm _ _ _ _ _).mono fun _ _ ⟨he, os', hw⟩ => ⟨he, 0, os', hw⟩
  have hs := AnyQ.slices_SortFunc Tryz.laysSk6 3 Tryz.isAgg29 Tryz.sizeOf29 encT (fun _ => rfl) (fun x v hv => by simp [encT, TabV.us] at hv; rcases hv with rfl | rfl | rfl <;> rfl) cfT swoT 35 #[] g 0 cap ds.toArray w (enters_of Tryz.func35 (by kernel_rfl) rfl) hcmp hH hgw (by rw [hsz]; omega)
  rw [hsz] at hs
  refine Calls.mono (show Calls Tryz.prog 55 _ w _ from hs) ?_
  rintro e w' ⟨rfl, d', m, os, hP, hS, rfl⟩
  obtain ⟨hp1, _, hp3⟩ := hP
  have hd' : d'.size = ds.length := by rw [hp1]; rfl
  have hp : d'.toList.Perm ds := by
    have e1 : d'.extract 0 (ds.map Tri.T).length = d' := by rw [hdl, ← hd', Array.extract_size]
    have e2 : ds.toArray.extract 0 (ds.map Tri.T).length = ds.toArray := by rw [hdl, show ds.length = ds.toArray.size from rfl, Array.extract_size]
    rw [e1, e2] at hp3
    exact hp3
  have hto := touch_sortK w g m d' os
  have hmem : ∀ x ∈ d'.toList, tabC.ow w base x.t.us x.T x.f := fun x hx => hds x (hp.mem_iff.1 hx)
  have hfl : ((d'.toList.map Tri.f).flatten).Perm ((ds.map Tri.f).flatten) := (hp.map Tri.f).flatten
  have hdd : (d'.toList).length = ds.length := hd'
  have hlen : (d'.toList.map Tri.T).length = ds.length := by rw [List.length_map, hdd]
  have hE' : Cd.Each tabC (sortWorldK encT 3 w g 0 m d' os) base (d'.toList.map encT) (d'.toList.map Tri.T) (d'.toList.map Tri.f) := by
    refine Cd.Each.imp (each_tri d'.toList hmem) fun x a f hf hq => tabC.ow_keep hq fun b hb => hto.block b (tabC.ow_lt hq b hb).2 fun q => ?_
    rw [List.mem_singleton.1 q] at hb
    exact hn.1 (hfl.mem_iff.1 (List.mem_flatten.2 ⟨f, hf, hb⟩))
  have hs' := hd'
  refine ⟨d'.toList.map Tri.T, g :: (d'.toList.map Tri.f).flatten, rfl, ⟨_, _, _, rfl, ⟨?_, .inr ⟨g, cap, _, by rw [hlen], hbg, heap_sort w g m d' os hgw hg, by rw [hlen, ← hdl]; exact hnc, hcm, ?_, ?_⟩⟩, hE', rfl⟩, ?_, hp.map Tri.T, ?_, hto⟩
  · rw [flat_len, hlen, hdd]; rfl
  · unfold Sort.putCells; rw [Array.size_mapIdx]; exact hcs
  · rw [hlen, ← hdd]
    have := put_take d'.toList cur (by rw [hcs, hdd, ← hdl]; exact Nat.mul_le_mul_right _ hnc)
    exact this
  · exact List.nodup_cons.2 ⟨fun q => hn.1 (hfl.mem_iff.1 q), hfl.nodup_iff.2 hn.2⟩
  · rw [List.pairwise_map]
    rw [List.pairwise_iff_getElem]
    intro i j hi hj hij
    have h1 := hS i j (Nat.zero_le _) hij (by rw [hdl, ← hdd]; exact hj)
    rw [ltOf_cf, getElem!_pos d' j (by simpa using hj), getElem!_pos d' i (by simpa using hi)] at h1
    have ei : ∀ x ∈ d'.toList, x.t.nm = x.T.1 := fun x hx => by
      have := DbSpec.name_cell (tabC.ow_rd (hmem x hx))
      injection this
    rw [← ei _ (List.getElem_mem hi), ← ei _ (List.getElem_mem hj), Array.getElem_toList, Array.getElem_toList]
    exact h1
end Go.Proofs.YteihnbnlfocgmaaGreatDoor.DbSort

namespace Go.Proofs.YteihnbnlfocgmaaGreatDoor.DbImp
open Go Go.RowKit Byt Ints IntsLaw Cd Rows2 Tab SlMath TabOpen TabElem SlTable Db TabSpec DbMath TabImp DbMap DbExact DbSort
open Go.Maps (Keyed string_keyed IsMap Tidy)
open DbSpec (LaterD drewD row1 rows_cell name_cell at3)

theorem key_inv {v : Value} {kl : Lit} (h : keyOf Tryz.prog 9 v = some kl) : ∃ x : ByteArray, v = .string x := by
  rw [keyOf_string Tryz.underlying9] at h
  unfold mapKey at h
  rw [Tryz.underlying9] at h
  split at h <;> simp_all
theorem key_eq {x : ByteArray} {kl : Lit} (h : keyOf Tryz.prog 9 (.string x) = some kl) : kl = keyL x := by
  rw [keyOf_string Tryz.underlying9] at h
  unfold mapKey at h
  rw [Tryz.underlying9] at h
  simp only at h
  split at h
  · injection h with h; exact h.symm
  · cases h
theorem same_key {s t : ByteArray} : (keyL s).sameKey (keyL t) = decide (s = t) := by
  by_cases e : s = t
  · subst e
    rw [decide_eq_true rfl]
    simp [keyL, Lit.sameKey]
  · rw [decide_eq_false e]
    exact Maps.sameKey_ne (keyL_ne e)

/-- What the entries of a map stand for. -/
def Stand (F : ByteArray → Option TabV) (G : ByteArray → Option T3) (S : Nat → Prop) (w : World) : Prop :=
  ∀ s, (F s = none ∧ G s = none) ∨ ∃ t T, F s = some t ∧ G s = some T ∧ t.nm = s ∧ wtT T ≤ 1048577 ∧ tabC.rd w S t.us T
theorem Stand.later {F : ByteArray → Option TabV} {G : ByteArray → Option T3} {S : Nat → Prop} {w w' : World} (h : Stand F G S w) (hb : Below w.heap.size w w') : Stand F G S w' := fun s =>
  (h s).imp id fun ⟨t, T, h1, h2, h3, h4, h5⟩ => ⟨t, T, h1, h2, h3, h4, Cd.later h5 hb⟩
theorem stand_name {w : World} {S : Nat → Prop} {t : TabV} {T : T3} (h : tabC.rd w S t.us T) : T.1 = t.nm := by
  have := name_cell h
  injection this with this
  exact this.symm
/-- The tables that are gathered so far. -/
structure Gath (G : ByteArray → Option T3) (left : Lit → Bool) (cur : List T3) : Prop where
  mem : ∀ T, T ∈ cur ↔ (G T.1 = some T ∧ left (keyL T.1) = false)
  ne : cur.Pairwise fun a b => a.1 ≠ b.1
theorem Gath.start {D : DataW Value} {F : ByteArray → Option TabV} {G : ByteArray → Option T3} {S : Nat → Prop} {w : World} {m : Nat} (hm : MapIs D F m) (hs : Stand F G S w) : Gath G (Maps.has D) [] := by
  refine ⟨fun T => ⟨(fun h => by cases h), (fun ⟨h1, h2⟩ => ?_)⟩, List.Pairwise.nil⟩
  rw [hm.has] at h2
  rcases hs T.1 with ⟨_, q⟩ | ⟨t, T', q, _⟩
  · rw [q] at h1; cases h1
  · rw [q] at h2; cases h2
theorem Gath.step {G : ByteArray → Option T3} {left : Lit → Bool} {cur : List T3} (h : Gath G left cur) {T : T3} (hG : G T.1 = some T) (hl : left (keyL T.1) = true) : Gath G (fun z => left z && !z.sameKey (keyL T.1)) (cur ++ [T]) := by
  refine ⟨fun U => ?_, ?_⟩
  · rw [List.mem_append, List.mem_singleton, h.mem]
    simp only [same_key, Bool.and_eq_false_iff, Bool.not_eq_false', decide_eq_true_eq]
    constructor
    · rintro (⟨q1, q2⟩ | rfl)
      · exact ⟨q1, .inl q2⟩
      · exact ⟨hG, .inr rfl⟩
    · rintro ⟨q1, q2 | q2⟩
      · exact .inl ⟨q1, q2⟩
      · rw [q2, hG] at q1
        injection q1 with q1
        exact .inr q1.symm
  · rw [List.pairwise_append]
    refine ⟨h.ne, List.pairwise_singleton _ _, fun U hU V hV e => ?_⟩
    rw [List.mem_singleton.1 hV] at e
    have := ((h.mem U).1 hU).2
    rw [e, hl] at this
    cases this
/-- All the tables, each name once, in their order. -/
def ListAns (G : ByteArray → Option T3) (w : World) (e : Ending) (w' : World) : Prop :=
  ∃ R a c fp, e = .returned (.agg #[.slice a R.length c]) ∧ tabsC.ow w' w.heap.size [.slice a R.length c] R fp ∧ fp.Nodup ∧ AscP R ∧ (∀ T, T ∈ R ↔ G T.1 = some T) ∧ Below w.heap.size w w'
theorem asc_of {l l' : List T3} (hp : l'.Perm l) (hne : l.Pairwise fun a b => a.1 ≠ b.1) (hs : l'.Pairwise fun a b => ltB b.1 a.1 = false) : AscP l' := by
  have hne' : l'.Pairwise fun a b => a.1 ≠ b.1 := (hp.pairwise_iff fun h => Ne.symm h).2 hne
  unfold AscP ltT
  refine (List.Pairwise.and hs hne').imp fun {a b} ⟨h1, h2⟩ => ?_
  cases q : ltB a.1 b.1
  · exact absurd (ltB_tri q h1) h2
  · rfl
theorem copy_elem_i (us : List Value) (T : T3) (S : Nat → Prop) (w : World) (hu : tabC.rd w S us T) (hw : wtT T ≤ 1048577) :
    Calls Tryz.prog 33 #[.agg us.toArray] w fun e w' => ∃ a c fp, e = .returned (.agg #[.string T.1, .int .i64 T.2.1, .slice a T.2.2.length c]) ∧ tabC.ow w' w.heap.size [.string T.1, .int .i64 T.2.1, .slice a T.2.2.length c] T fp ∧ fp.Nodup ∧ Below w.heap.size w w' := by
  refine (copy_rows_i us T S w hu hw).mono ?_
  obtain ⟨u, _, h1, h2, _⟩ := tab_cells hu
  rintro e w' ⟨a, c, fp, rfl, how, hnd, hb⟩
  exact ⟨a, c, fp, rfl, tab_ow how h1 h2, hnd, hb⟩

set_option maxRecDepth 100000 in
set_option maxHeartbeats 1600000 in
theorem impl_sorted (B n : Nat) (D : DataW Value) (F : ByteArray → Option TabV) (G : ByteArray → Option T3) (m : Nat) (S : Nat → Prop) (w : World) (hown : Owns w B n D) (hm : MapIs D F m) (hm7 : m ≤ 1000) (hst : Stand F G S w) :
    Calls Tryz.prog 29 #[.map (some B)] w fun e w' => ListAns G w e w' := by
  obtain ⟨i0, hi, hz0, hz1, hz2⟩ := info_parts SlTable.info_x
  have HST := Lib.hid (fun w' (hb : Below w.heap.size w w') => hst.later hb)
  have HM := Lib.hid hm
  have hBl := hown.lt
  have HBL := Lib.hid hBl
  have hsize := hm.size
  clear hst
  go_enter Tryz.func29, Tryz.ntmps29
  have hownA := World.ownsMap.alloc hown (.cells #[.slice none 0 0] 26 (0, 0))
  have hA0 := row_alloc w (.cells #[.slice none 0 0] 26 (0, 0))
  have hAb := below_alloc w (.cells #[.slice none 0 0] 26 (0, 0))
  have hAs := size_alloc w (.cells #[.slice none 0 0] 26 (0, 0))
  go_wp2_with (first
    | (at_len; refine wpList_len_own _ rfl _ 51 rfl 9 29 Tryz.underlying51 tabR B n D rfl hownA ?_; rw [hsize])
    | (at_make; refine wpList_make_own _ rfl _ _ 24 rfl (w.heap.size + 1) 29 i0 (.agg #[.string ⟨#[]⟩, .int .i64 0, .slice none 0 0]) 3 Tryz.underlying24 hi hz0 hz1 _ _ _ m rfl rfl rfl (by rw [hz2]; omega) (by unfold maxLen; omega) (by rw [hAs]; exact Nat.le_refl _) ?_))
  intro w1 hown1 hg1
  have HC1 := Lib.hid ((Loc1.of hA0).keep (hg1.block _ (by rw [hAs]; omega) (by simp)))
  have HB1 := Lib.hid (below_then hAb (show Below _ _ w1 from ⟨hg1.os, hg1.tape, hg1.output, hg1.size, fun k hk => hg1.block k hk (by simp)⟩))
  have HM1 := Lib.hid (show Owns w1 B n D from World.ownsMap.kept hownA hg1 (by simp))
  have HS1 := Lib.hid (show w.heap.size + 1 < w1.heap.size from by
    rcases hown1.2 with ⟨h', _⟩ | ⟨g', cap', cur, h', _, hg, _⟩
    · cases h'
    · simp only [Value.slice.injEq, Option.some.injEq, Addr.mk.injEq, and_true, true_and] at h'
      have := (Array.getElem?_eq_some_iff.1 hg).1
      rw [← h'.1] at this
      exact this)
  have HO1 := Lib.hid (show tabsC.ow w1 (w.heap.size + 1) [.slice (some ⟨w.heap.size + 1, 0, none⟩) 0 m] [] [w.heap.size + 1] from ⟨_, [], [], rfl, hown1, trivial, rfl⟩)
  (try rw [hAs])
  clear hownA hA0 hAb hg1 hown1 hAs hown
  have hown2 := HM1.out
  go_wp2_with (first
    | (at_range; refine wpList_range_own _ rfl _ 51 rfl 9 29 law Tryz.underlying51 tabR B n D rfl hown2 ?_; intro w2 hrg2 hg2 hs2))
  go_frame
  have hb2 : Below w1.heap.size w1 w2 := ⟨hg2.os, hg2.tape, hg2.output, hg2.size, fun k hk => hg2.block k hk (by simp)⟩
  have HRG := Lib.hid hrg2
  have HB2 := Lib.hid (below_then HB1.out hb2)
  have HO2 := Lib.hid (Cd.ow_later HO1.out hb2)
  have HC2 := Lib.hid (HC1.out.later hb2)
  clear hrg2 hg2 hb2 hown2
  rw [hsize] at HRG
  go_loopw [3] (fun o wr => ∃ (left : Lit → Bool) (cnt g c : Nat) (cur : List T3) (fp : List Nat), o = .slice (some ⟨g, 0, none⟩) cur.length c ∧ wr.ranges Tryz.prog 9 tabR B w1.heap.size n D left cnt ∧ cur.length + cnt ≤ m ∧ tabsC.ow wr (w.heap.size + 1) [.slice (some ⟨g, 0, none⟩) cur.length c] cur fp ∧ fp.Nodup ∧ w1.heap.size ∉ fp ∧ Gath G left cur ∧ Loc1 wr w.heap.size (.slice none 0 0) ∧ Below w.heap.size w wr ∧ w2.heap.size ≤ wr.heap.size) (fun _ wr => wr.rangeLeft B w1.heap.size)
  case atStart => exact ⟨_, m, w.heap.size + 1, m, [], [w.heap.size + 1], rfl, HRG.out, by simp, HO2.out, by simp, by have := HS1.out; simp; omega, Gath.start HM.out (HST.out w (Below.refl _ _)), HC2.out, HB2.out, Nat.le_refl _⟩
  case round =>
    obtain ⟨left, cnt, g, c, cur, fp, rfl, hrg, hcm, how, hnd, hrf, hga, hlc, hbw, hsw⟩ := hrel
    have HOW := Lib.hid how
    have HND := Lib.hid hnd
    have HGA := Lib.hid hga
    have HLC := Lib.hid hlc
    have HBW := Lib.hid hbw
    have HRF := Lib.hid hrf
    have HSW := Lib.hid hsw
    have HRR := Lib.hid hrg
    clear how hnd hga hlc hbw hrf hsw
    go_wp2_with (first
      | (at_next; refine wpList_next_ranges _ rfl _ rfl 9 law tabR Value.string TabV.val (fun _ _ h => key_inv h) (fun _ _ h => by obtain ⟨t, h, _⟩ := tabR_inv h; exact ⟨t, h⟩) B w1.heap.size n D left cnt rfl hrg ?_ ?_))
    · intro hc0 hl0
      have HL0 := Lib.hid hl0
      clear hl0 hrg
      go_wp2_with fail
      refine (sort_tables g c (w.heap.size + 1) cur fp wr HOW.out HND.out (by omega)).mono ?_
      rintro e w3 ⟨l', fp', rfl, ho3, hn3, hp3, hs3, ht3⟩
      have hlen : l'.length = cur.length := hp3.length_eq
      have hgf : g ∈ fp := by
        obtain ⟨v', xss, fps, e1, _, _, rfl⟩ := HOW.out
        injection e1 with e1 _
        subst e1
        exact List.mem_cons_self
      have hgl := ((Cd.sl _ tabC).ow_lt HOW.out g hgf).1
      have hLC := HLC.out.touched ht3 (by simp; omega)
      have HB3 := Lib.hid (Cd.Touch.below HBW.out ht3 (fun b hb => by rw [List.mem_singleton.1 hb]; omega))
      have HO3 := Lib.hid ho3
      have HN3 := Lib.hid hn3
      have HAS := Lib.hid (asc_of hp3 HGA.out.ne hs3)
      have HME := Lib.hid (show ∀ T, T ∈ l' ↔ G T.1 = some T from fun T => by
        rw [hp3.mem_iff, HGA.out.mem]
        exact ⟨fun h => h.1, fun h => ⟨h, HL0.out _⟩⟩)
      have x0 := hLC.c0
      have x1 := hLC.f0
      rw [← hlen]
      clear ho3 hn3 hp3 hs3 ht3 hlen hLC hgf hgl
      go_wp2_with fail
      have k0 : (w3.setCell ⟨w.heap.size, 0, none⟩ (.slice (some ⟨g, 0, none⟩) l'.length c)).cell? ⟨w.heap.size, 0, none⟩ = some (.slice (some ⟨g, 0, none⟩) l'.length c) := World.cell?_setCell_same _ _ _ x0
      refine bodyPost_ret (v := .agg #[.slice (some ⟨g, 0, none⟩) l'.length c]) (by simp [results, Tryz.results29, go_sem, k0]) rfl ⟨l', _, c, fp', rfl, ?_, HN3.out, HAS.out, HME.out, HB3.out.setCell (Nat.le_refl _) _⟩
      exact ow_setCell ((Cd.sl _ tabC).ow_base HO3.out (Nat.le_succ _)) (fun q => by have := ((Cd.sl _ tabC).ow_lt HO3.out _ q).1; simp only at this; omega) _
    · intro x t kl y1 y2 w3 cnt3 hkx hlx hyt hat hrg3 hlt hg3 hs3 hen
      obtain rfl := key_eq hkx
      obtain ⟨t', ht', hyy⟩ := tabR_inv hyt
      obtain rfl : y1 = .held t.val := by injection hyy
      clear hyy
      have hbk : Cd.Touch [w1.heap.size] wr w3 := touch_grown hg3
      have hHas : Maps.has D (keyL x) = true := Maps.has_true_of_atKey (y := .held t.val) hat
      have hFG : ∃ T, G x = some T ∧ T.1 = x ∧ wtT T ≤ 1048577 ∧ ∀ w', Below w.heap.size w w' → tabC.rd w' S t.us T := by
        rcases HST.out w (Below.refl _ _) x with ⟨q, _⟩ | ⟨t2, T, q1, q2, q3, q4, q5⟩
        · rw [HM.out.has, q] at hHas; cases hHas
        · have e1 := HM.out.at_ x t2 (.held t.val) q1
          rw [hat] at e1
          injection e1 with e1
          have e2 : t = t2 := by
            cases t
            cases t2
            simp only [TabV.val, Value.agg.injEq, Array.mk.injEq, List.cons.injEq, Value.string.injEq, Value.int.injEq, Value.slice.injEq, true_and, and_true] at e1
            simp [e1]
          subst e2
          exact ⟨T, q2, (stand_name q5).trans q3, q4, fun w' hb => Cd.later q5 hb⟩
      obtain ⟨T, hG, hTx, hTw, hTr⟩ := hFG
      have HG := Lib.hid (show G T.1 = some T by rw [hTx]; exact hG)
      have HLX := Lib.hid (show left (keyL T.1) = true by rw [hTx]; exact hlx)
      have HCP := Lib.hid (fun w' (hb : Below w.heap.size w w') => copy_elem_i t.us T S w' (hTr w' hb) hTw)
      have HBW3 := Lib.hid (Cd.Touch.below HBW.out hbk (fun b hb => by rw [List.mem_singleton.1 hb]; have := HS1.out; omega))
      have HOW3 := Lib.hid (Cd.ow_touched HOW.out hbk (fun b hb q => by rw [List.mem_singleton.1 q] at hb; exact HRF.out hb))
      have HLC3 := Lib.hid (HLC.out.touched hbk (by have := HS1.out; simp; omega))
      have HRG3 := Lib.hid hrg3
      have HSW3 := Lib.hid (show w2.heap.size ≤ w3.heap.size by rw [hs3]; exact HSW.out)
      have HX := Lib.hid hTx
      have HCN := Lib.hid (show cnt3 < cnt from hlt)
      clear hkx hyt hat hg3 hHas hG hTw hTr hTx hbk ht' hlx hrg3 hs3
      unfold TabV.val at hen ⊢
      go_wp2_with fail
      have hbA := below_alloc w3 (.cells #[.string t.nm, .int .i64 t.ar, .slice t.a t.n t.c] 29 (0, 0))
      refine (HCP.out _ (below_then HBW3.out hbA)).mono ?_
      rintro e w4 ⟨a4, c4, f4, rfl, ho4, hn4, hb4⟩
      have hbB := below_alloc w4 (.cells #[.string T.1, .int .i64 T.2.1, .slice a4 T.2.2.length c4] 29 (0, 0))
      have HB5 := Lib.hid (below_then (below_then hbA hb4) hbB)
      have HAT := Lib.hid (at3 (w := w4.alloc (.cells #[.string T.1, .int .i64 T.2.1, .slice a4 T.2.2.length c4] 29 (0, 0))) (b := w4.heap.size) (row_alloc w4 _))
      have HOT := Lib.hid (tabC.ow_base (Cd.ow_later ho4 hbB) (show w.heap.size + 1 ≤ _ by have := HSW3.out; have := hbA.size; have := HS1.out; omega))
      have HN4 := Lib.hid hn4
      have HFAR := Lib.hid (show ∀ b ∈ f4, b ∉ fp ∧ w1.heap.size < b from fun b hb => by
        have h1 := (tabC.ow_lt ho4 b hb).1
        have h3 := hbA.size
        refine ⟨fun q => ?_, ?_⟩
        · have h2 := ((Cd.sl _ tabC).ow_lt HOW3.out b q).2
          omega
        · have h4 := HSW3.out
          rw [size_alloc] at h1
          omega)
      have HSB := Lib.hid (show w2.heap.size ≤ (w4.alloc (.cells #[.string T.1, .int .i64 T.2.1, .slice a4 T.2.2.length c4] 29 (0, 0))).heap.size from Nat.le_trans HSW3.out HB5.out.size)
      have t1 : cur.length + 1 ≤ 1000000000 := by omega
      have t2 : w.heap.size + 1 ≤ (w4.alloc (.cells #[.string T.1, .int .i64 T.2.1, .slice a4 T.2.2.length c4] 29 (0, 0))).heap.size := by have := HSB.out; have := HS1.out; omega
      have T3 := Lib.hid (Cd.ow_later HOW3.out HB5.out)
      clear ho4 hn4 hb4 hbA hbB hen
      go_wp2_with (at_builtin; refine Cd.wpList_appendN (c := tabC) rfl (.tmp 15) (.tmp 18) 24 rfl (w.heap.size + 1) 29 (.agg #[.string ⟨#[]⟩, .int .i64 0, .slice none 0 0]) 3 48 rfl Tryz.underlying24 SlTable.info_x rfl (by decide) _ cur fp rfl T3.out HND.out w4.heap.size _ rfl HAT.out T f4 HOT.out HN4.out (fun b hb => (HFAR.out b hb).1) t1 t2 ?_)
      intro g6 c6 w6 fp6 ho6 hn6 hsub6 ht6
      have hfw : ∀ b ∈ fp, w.heap.size + 1 ≤ b := fun b hb => ((Cd.sl _ tabC).ow_lt HOW.out b hb).1
      have HL6 := Lib.hid ((HLC3.out.later HB5.out).touched ht6 (fun q => by have := hfw _ q; omega))
      have HB6 := Lib.hid (Cd.Touch.below (below_then HBW3.out HB5.out) ht6 (fun b hb => by have := hfw b hb; omega))
      have hRGB := World.ranges.kept HRG3.out (grown_of HB5.out none) (by simp) (by simp)
      have hBn : B ∉ fp := fun q => by have := hfw _ q; have := HBL.out; omega
      have HRG6 := Lib.hid (show w6.ranges Tryz.prog 9 tabR B w1.heap.size n D (fun z => left z && !z.sameKey (keyL x)) cnt3 from by
        obtain ⟨es, clock, since, seen, c0, q1, q2, q3, q4, q5, q6⟩ := hRGB
        refine ⟨es, clock, since, seen, c0, (ht6.block B (Array.getElem?_eq_some_iff.1 q1).1 hBn).trans q1, q2, q3, q4, (ht6.block _ (Array.getElem?_eq_some_iff.1 q5).1 HRF.out).trans q5, q6⟩)
      have HO6 := Lib.hid ho6
      have HN6 := Lib.hid hn6
      have HR6 := Lib.hid (show w1.heap.size ∉ fp6 from fun q => by
        rcases hsub6 _ q with h | h | h
        · exact HRF.out h
        · have := (HFAR.out _ h).2; omega
        · have h2 := HSB.out; (try rw [size_alloc] at h2); (try rw [size_alloc] at h); omega)
      have HS6 := Lib.hid (Nat.le_trans HSB.out ht6.size)
      have HG6 := Lib.hid (show Gath G (fun z => left z && !z.sameKey (keyL x)) (cur ++ [T]) from by rw [← HX.out]; exact HGA.out.step HG.out HLX.out)
      clear ho6 hn6 hsub6 ht6 hRGB hBn hfw
      go_wp2_with fail
      go_roundw
      case rel => exact ⟨_, cnt3, g6, c6, cur ++ [T], fp6, by simp, HRG6.out, by have := HCN.out; simp; omega, (by have h := HO6.out; rw [show cur.length + 1 = (cur ++ [T]).length by simp] at h; exact h), HN6.out, HR6.out, HG6.out, HL6.out, HB6.out, HS6.out⟩
      case measure => rw [HRG6.out.left_eq, HRR.out.left_eq]; exact HCN.out
end Go.Proofs.YteihnbnlfocgmaaGreatDoor.DbImp

namespace Go.Proofs.YteihnbnlfocgmaaGreatDoor.DbImp
open Go Go.RowKit Byt Ints IntsLaw Cd Rows2 Tab SlMath TabOpen TabElem SlTable Db TabSpec DbMath TabImp DbMap DbExact DbSort
open Go.Maps (Keyed string_keyed IsMap Tidy)
open DbSpec (LaterD drewD row1 rows_cell name_cell at3)
open DbAcc (DbAns)

set_option maxRecDepth 100000 in
set_option maxHeartbeats 1600000 in
theorem map_tables (u : Value) (l : List T3) (S : Nat → Prop) (w : World) (h1 : tabsC.rd w S [u] l) (hw : wtS l ≤ 1048577) :
    Calls Tryz.prog 54 #[u, .func (.func 33) #[] #[]] w fun e w' => ∃ g c fp, e = .returned (.slice (some ⟨g, 0, none⟩) l.length c) ∧ tabsC.ow w' w.heap.size [.slice (some ⟨g, 0, none⟩) l.length c] l fp ∧ fp.Nodup ∧ Below w.heap.size w w' := by
  obtain ⟨i0, hi, hz0, hz1, hz2⟩ := info_parts SlTable.info_x
  have HR := Lib.hid (fun w' (hb : Below w.heap.size w w') => Cd.later h1 hb)
  have HW := Lib.hid hw
  obtain ⟨a, cap, rfl, hlm⟩ := Cd.sl_form h1
  have hll : l.length ≤ 1048577 := by unfold wtS at hw; omega
  clear h1 hw
  go_enter Tryz.func54, Tryz.ntmps54
  go_wp2_with (at_make; refine wpList_make_own _ rfl _ _ 24 rfl w.heap.size 29 i0 (.agg #[.string ⟨#[]⟩, .int .i64 0, .slice none 0 0]) 3 Tryz.underlying24 hi hz0 hz1 _ _ _ l.length rfl rfl rfl (by rw [hz2]; omega) (by unfold maxLen; omega) (Nat.le_refl _) ?_)
  intro w1 hown0 hg0
  have how1 : tabsC.ow w1 w.heap.size [.slice (some ⟨w.heap.size, 0, none⟩) 0 l.length] [] [w.heap.size] := ⟨_, [], [], rfl, hown0, trivial, rfl⟩
  have hb1 : Below w.heap.size w w1 := ⟨hg0.os, hg0.tape, hg0.output, hg0.size, fun k hk => hg0.block k hk (by simp)⟩
  have HO1 := Lib.hid how1
  have HB1 := Lib.hid hb1
  clear hown0 hg0 how1 hb1
  go_wp2_with fail
  go_loopw [5, 13] (fun o i wr => ∃ (k g c : Nat) (fp : List Nat), k ≤ l.length ∧ i = .int .i64 k ∧ o = .slice (some ⟨g, 0, none⟩) (l.take k).length c ∧ tabsC.ow wr w.heap.size [.slice (some ⟨g, 0, none⟩) (l.take k).length c] (l.take k) fp ∧ fp.Nodup ∧ Below w.heap.size w wr) (fun _ i _ => l.length - (intOf i).toNat)
  case atStart => exact ⟨0, _, _, _, Nat.zero_le _, rfl, rfl, HO1.out, by simp, HB1.out⟩
  case round =>
    obtain ⟨k, g, c, fp, hk, rfl, rfl, how, hnd, hb⟩ := hrel
    by_cases hlt : k < l.length
    · obtain ⟨b, off, cap', us, e1, _, hbB, hat, hu⟩ := Cd.sl_at (HR.out wr hb) hlt
      injection e1 with e1 e2 e3
      subst e1 e3
      obtain ⟨az, cz, rfl⟩ := elem_form hu
      have p0 := hat 0 (by simp)
      have p1 := hat 1 (by simp)
      have p2 := hat 2 (by simp)
      simp only [List.getElem_cons_zero, List.getElem_cons_succ, Nat.add_zero, show tabC.n = 3 from rfl] at p0 p1 p2
      have ht3 : wtT l[k] ≤ 1048577 := by have := sumN_mem wtT hlt; have := HW.out; unfold wtS at this; omega
      have HC := Lib.hid (fun w' (hq : Below wr.heap.size wr w') => copy_elem_i _ l[k] S w' (Cd.later hu hq) ht3)
      have HOW := Lib.hid how
      have HND := Lib.hid hnd
      have HB := Lib.hid hb
      have HT := Lib.hid (show l.take (k + 1) = l.take k ++ [l[k]] from List.take_succ_eq_append_getElem hlt)
      have i1 : (0 : Int) ≤ (k : Int) := by omega
      have i2 : (k : Int) < (l.length : Int) := by omega
      have t1 : (l.take k).length + 1 ≤ 1000000000 := by rw [List.length_take]; omega
      clear hu how hnd hb hat e2 ht3
      generalize l[k] = T at *
      generalize l.take k = cur at *
      go_wp2_with fail
      have hbA := below_alloc wr (.cells #[.string T.1, .int .i64 T.2.1, .slice az T.2.2.length cz] 29 (0, 0))
      refine (HC.out _ hbA).mono ?_
      rintro e w4 ⟨a4, c4, f4, rfl, ho4, hn4, hb4⟩
      have hbB' := below_alloc w4 (.cells #[.string T.1, .int .i64 T.2.1, .slice a4 T.2.2.length c4] 29 (0, 0))
      have HB5 := Lib.hid (below_then (below_then hbA hb4) hbB')
      have HAT := Lib.hid (at3 (w := w4.alloc (.cells #[.string T.1, .int .i64 T.2.1, .slice a4 T.2.2.length c4] 29 (0, 0))) (b := w4.heap.size) (row_alloc w4 _))
      have HOT := Lib.hid (tabC.ow_base (Cd.ow_later ho4 hbB') (show w.heap.size ≤ _ from Nat.le_trans HB.out.size hbA.size))
      have HN4 := Lib.hid hn4
      have HFAR := Lib.hid (show ∀ b ∈ f4, b ∉ fp from fun b hb q => by
        have h1 := (tabC.ow_lt ho4 b hb).1
        have h2 := ((Cd.sl _ tabC).ow_lt HOW.out b q).2
        have h3 := hbA.size
        omega)
      have t2 : w.heap.size ≤ (w4.alloc (.cells #[.string T.1, .int .i64 T.2.1, .slice a4 T.2.2.length c4] 29 (0, 0))).heap.size := Nat.le_trans HB.out.size HB5.out.size
      have HO5 := Lib.hid (Cd.ow_later HOW.out HB5.out)
      clear ho4 hn4 hb4 hbA hbB'
      go_wp2_with (at_builtin; refine Cd.wpList_appendN (c := tabC) rfl (.tmp 17) (.tmp 21) 24 rfl w.heap.size 29 (.agg #[.string ⟨#[]⟩, .int .i64 0, .slice none 0 0]) 3 48 rfl Tryz.underlying24 SlTable.info_x rfl (by decide) _ cur fp rfl HO5.out HND.out w4.heap.size _ rfl HAT.out T f4 HOT.out HN4.out HFAR.out t1 t2 ?_)
      intro g6 c6 w6 fp6 ho6 hn6 _ ht6
      have HB6 := Lib.hid (Cd.Touch.below (below_then HB.out HB5.out) ht6 (fun b hb => ((Cd.sl _ tabC).ow_lt HOW.out b hb).1))
      have HO6 := Lib.hid (show tabsC.ow w6 w.heap.size [.slice (some ⟨g6, 0, none⟩) (cur ++ [T]).length c6] (cur ++ [T]) fp6 from by rw [show (cur ++ [T]).length = cur.length + 1 by simp]; exact ho6)
      have HN6 := Lib.hid hn6
      have HE := Lib.hid (show (cur ++ [T]).length = cur.length + 1 by simp)
      clear ho6 hn6 ht6
      go_wp2_with fail
      go_roundw
      case rel => exact ⟨k + 1, g6, c6, fp6, by omega, by go_num, by rw [HT.out, HE.out], by rw [HT.out]; exact HO6.out, HN6.out, HB6.out⟩
      case measure => simp [intOf]; omega
    · have ek : k = l.length := by omega
      subst ek
      rw [List.take_length] at how ⊢
      go_wp2_with fail
      go_ret
      exact ⟨_, _, fp, rfl, how, hnd, hb⟩
set_option maxRecDepth 100000 in
theorem impl_dbcopy (u : Value) (l : List T3) (S : Nat → Prop) (w : World) (h1 : tabsC.rd w S [u] l) (hw : wtS l ≤ 1048577) :
    Calls Tryz.prog 28 #[.agg #[u]] w fun e w' => ∃ a c fp, e = .returned (.agg #[.slice a l.length c]) ∧ tabsC.ow w' w.heap.size [.slice a l.length c] l fp ∧ fp.Nodup ∧ Below w.heap.size w w' := by
  have HM := Lib.hid (fun w' (hb : Below w.heap.size w w') => map_tables u l S w' (Cd.later h1 hb) hw)
  obtain ⟨a, cap, rfl, hlm⟩ := Cd.sl_form h1
  clear h1
  go_enter Tryz.func28, Tryz.ntmps28
  go_wp2_with fail
  generalize hW : (w.alloc _).alloc _ = W
  obtain ⟨r0, r1, hz, hb0⟩ := start2g w _ _ hW
  have HC1 := Lib.hid (Loc1.of r1)
  have HB0 := Lib.hid hb0
  have HZ := Lib.hid hz
  clear hW r0 r1 hz hb0
  refine (HM.out _ HB0.out).mono ?_
  rintro e w1 ⟨g, c, fp, rfl, ho, hn, hb1⟩
  have HO := Lib.hid ho
  have HN := Lib.hid hn
  have HB1 := Lib.hid (below_then HB0.out hb1)
  have x0 := (HC1.out.later hb1).c0
  have x1 := (HC1.out.later hb1).f0
  clear ho hn hb1
  go_wp2_with fail
  have k0 : (w1.setCell ⟨w.heap.size + 1, 0, none⟩ (.slice (some ⟨g, 0, none⟩) l.length c)).cell? ⟨w.heap.size + 1, 0, none⟩ = some (.slice (some ⟨g, 0, none⟩) l.length c) := World.cell?_setCell_same _ _ _ x0
  refine bodyPost_ret (v := .agg #[.slice (some ⟨g, 0, none⟩) l.length c]) (by simp [results, Tryz.results28, go_sem, k0]) rfl ⟨_, c, fp, rfl, ?_, HN.out, HB1.out.setCell (by show _ ≤ w.heap.size + 1; omega) _⟩
  exact ow_setCell ((Cd.sl _ tabC).ow_base HO.out (by have := HZ.out; omega)) (fun q => by have := ((Cd.sl _ tabC).ow_lt HO.out _ q).1; have := HZ.out; simp only at *; omega) _

/-- What the map of a valid database stands for. -/
theorem stand_of {w : World} {S : Nat → Prop} {a : Option Addr} {l : List T3} {ts : List TabV} (h : HeldT w S a l ts) (hw : wtS l ≤ 1048577) : Stand (entF ts) (findN l) S w := fun s => by
  rcases entF_find h s with ⟨q1, q2⟩ | ⟨T, t, q1, q2, q3⟩
  · exact .inl ⟨q2, q1⟩
  · exact .inr ⟨t, T, q2, q1, by have := stand_name q3; rw [← this]; exact (findN_some q1).2, by have := find_wt q1; omega, q3⟩
def delG (G : ByteArray → Option T3) (s : ByteArray) : ByteArray → Option T3 := fun x => if x = s then none else G x
def setG (G : ByteArray → Option T3) (s : ByteArray) (T : T3) : ByteArray → Option T3 := fun x => if x = s then some T else G x
theorem Stand.del {F : ByteArray → Option TabV} {G : ByteArray → Option T3} {S : Nat → Prop} {w : World} (h : Stand F G S w) (s : ByteArray) : Stand (delF F s) (delG G s) S w := fun x => by
  unfold delF delG
  by_cases e : x = s
  · rw [if_pos e, if_pos e]; exact .inl ⟨rfl, rfl⟩
  · rw [if_neg e, if_neg e]; exact h x
theorem rem_eq {l R : List T3} {nm : ByteArray} (ha : AscP l) (hR : AscP R) (h : ∀ T, T ∈ R ↔ delG (findN l) nm T.1 = some T) : R = remL l nm := by
  refine asc_unique hR (asc_remL ha nm) fun U => ?_
  rw [h, mem_remL]
  unfold delG
  by_cases e : U.1 = nm
  · rw [if_pos e]
    exact ⟨fun q => (by cases q), fun q => absurd e q.2⟩
  · rw [if_neg e]
    exact ⟨fun q => ⟨(findN_some q).1, e⟩, fun q => findN_of_asc ha q.1⟩
set_option maxRecDepth 100000 in
set_option maxHeartbeats 1600000 in
theorem impl_rem (u : Value) (l : List T3) (nm : ByteArray) (S : Nat → Prop) (w : World) (h1 : tabsC.rd w S [u] l) (hw : wtS l ≤ 1048577) (hs : nm.size ≤ 1048576) :
    Calls Tryz.prog 11 #[.agg #[u], .string nm] w fun e w' => DbAns (remR l nm) (remOk l nm) w e w' := by
  obtain ⟨a1, cap1, rfl, hl1⟩ := Cd.sl_form h1
  obtain ⟨ts, ht⟩ := held_of h1
  have HT := Lib.hid (fun w' (hb : Below w.heap.size w w') => HeldT.later ht hb)
  have HNA := Lib.hid (fun w' (hb : Below w.heap.size w w') => impl_byname a1 cap1 l ts S w' (Cd.later h1 hb) (HeldT.later ht hb))
  have HDC := Lib.hid (fun w' (hb : Below w.heap.size w w') => impl_dbcopy _ l S w' (Cd.later h1 hb) hw)
  have HK := Lib.hid (key_of (s := nm) (by unfold maxLen; omega))
  have HWT := Lib.hid hw
  clear h1 ht hw hs
  go_enter Tryz.func11, Tryz.ntmps11
  go_wp2_with fail
  generalize hW : (w.alloc _).alloc _ = W
  obtain ⟨r0, r1, hz, hb0⟩ := start2g w _ _ hW
  have HC0 := Lib.hid (Loc1.of r0)
  have HC1 := Lib.hid (Loc1.of r1)
  have HB0 := Lib.hid hb0
  have HZ := Lib.hid hz
  clear hW r0 r1 hz hb0
  refine (HNA.out _ HB0.out).mono ?_
  rintro e w1 ⟨B, D, n, rfl, hBl, hown, hn6, hm, hb1⟩
  have HC0a := Lib.hid (HC0.out.later hb1)
  have HC1a := Lib.hid (HC1.out.later hb1)
  have HB1 := Lib.hid (below_then HB0.out hb1)
  have HS1 := Lib.hid (show w.heap.size + 1 < w1.heap.size by have := hb1.size; have := HZ.out; omega)
  have HBL := Lib.hid (show w.heap.size + 2 ≤ B by have := HZ.out; omega)
  have HM := Lib.hid hm
  clear hb1 hm hBl
  have q0 := HC0a.out.c0
  have q1 := HC0a.out.lt
  cases hok : remOk l nm
  · have HOK := Lib.hid hok
    have hh : Maps.has D (keyL nm) = false := by
      rw [HM.out.has]
      unfold remOk lookL at hok
      cases hv : dbOk l
      · rfl
      · rw [hv, if_pos rfl] at hok
        rw [if_pos rfl]
        rcases entF_find (HT.out w (Below.refl _ _)) nm with ⟨p1, p2⟩ | ⟨T, t, p1, p2, _⟩
        · rw [p2]; rfl
        · rw [p1] at hok; cases hok
    clear hok
    go_wp2_with (first
      | (at_lookup; refine wpList_lookup_own_ok _ rfl _ _ 51 rfl 9 29 law Tryz.underlying51 tabR (zeroE _) (.held (.agg #[.string ⟨#[]⟩, .int .i64 0, .slice none 0 0])) [] rfl B n D rfl hown _ (keyL nm) rfl HK.out ?_; intro v ps hv; obtain ⟨t, rfl, _⟩ := tabR_inv hv; unfold TabV.val; rw [hh]; clear hv))
    have hb2 := below_alloc w1 (.cells #[.string t.nm, .int .i64 t.ar, .slice t.a t.n t.c] 29 (0, 0))
    refine (HDC.out _ (below_then HB1.out hb2)).mono ?_
    rintro e w3 ⟨a3, c3, f3, rfl, ho3, hn3, hb3⟩
    have HC3 := Lib.hid ((HC1a.out.later hb2).later hb3)
    have y0 := HC3.out.c0
    have y1 := HC3.out.f0
    have HA := Lib.hid (DbAns.copy (b := remOk l nm) (l' := remR l nm) (Y := w.heap.size + 1) ho3 hn3 (below_then HB1.out hb2) hb3 (by omega) (by have := HS1.out; have := hb2.size; omega) (by unfold remR; rw [HOK.out]; rfl) HOK.out)
    clear ho3 hn3 hb3 hb2
    rw [← HOK.out]
    go_wp2_with fail
    have k0 : (w3.setCell ⟨w.heap.size + 1, 0, none⟩ (.slice a3 l.length c3)).cell? ⟨w.heap.size + 1, 0, none⟩ = some (.slice a3 l.length c3) := World.cell?_setCell_same _ _ _ y0
    refine bodyPost_ret (v := .tuple #[.agg #[.slice a3 l.length c3], .bool false]) (by simp [results, Tryz.results11, go_sem, k0]) rfl ?_
    exact HA.out
  · have HOK := Lib.hid hok
    have hv : dbOk l = true := by
      unfold remOk lookL at hok
      cases hv : dbOk l
      · rw [hv] at hok; cases hok
      · rfl
    have HASC := Lib.hid (dbOk_iff.1 hv).2.2
    have hm' : MapIs D (entF ts) l.length := by have h := HM.out; rw [hv] at h; exact h
    have hh : Maps.has D (keyL nm) = true := by
      rw [hm'.has]
      unfold remOk lookL at hok
      rw [hv, if_pos rfl] at hok
      rcases entF_find (HT.out w (Below.refl _ _)) nm with ⟨p1, p2⟩ | ⟨T, t, p1, p2, _⟩
      · rw [p1] at hok; cases hok
      · rw [p2]; rfl
    have HM2 := Lib.hid (hm'.del nm)
    have HL6 := Lib.hid (dbOk_iff.1 hv).1
    clear hok hm' hv
    go_wp2_with (first
      | (at_lookup; refine wpList_lookup_own_ok _ rfl _ _ 51 rfl 9 29 law Tryz.underlying51 tabR (zeroE _) (.held (.agg #[.string ⟨#[]⟩, .int .i64 0, .slice none 0 0])) [] rfl B n D rfl hown _ (keyL nm) rfl HK.out ?_; intro v ps hv; obtain ⟨t, rfl, _⟩ := tabR_inv hv; unfold TabV.val; rw [hh]; clear hv)
      | (at_delete; refine wpList_delete_own _ rfl _ _ 51 9 rfl 29 law Tryz.underlying51 tabR B n D rfl (World.ownsMap.alloc hown _) _ (keyL nm) rfl HK.out ?_; intro w2 hown2 hturn2; go_frame))
    have HO2 := Lib.hid (show Owns w2 B n (D.del (keyL nm)) from hown2)
    have hb2 := below_alloc w1 (.cells #[.string t.nm, .int .i64 t.ar, .slice t.a t.n t.c] 29 (0, 0))
    have htg := touch_grown hturn2.grown
    have HB2 := Lib.hid (Cd.Touch.below (below_then HB1.out hb2) htg (fun b hb => by rw [List.mem_singleton.1 hb]; have := HBL.out; omega))
    have HC2 := Lib.hid ((HC1a.out.later hb2).touched htg (by have := HBL.out; simp; omega))
    have HS2 := Lib.hid (show w.heap.size + 1 < w2.heap.size by have := HS1.out; have := hb2.size; have := htg.size; omega)
    clear hown hown2 hturn2 htg hb2 q0 q1
    go_wp2_with fail
    refine (impl_sorted B n _ _ _ _ S w2 HO2.out HM2.out (by have := HL6.out; split <;> omega) ((stand_of (HT.out w2 HB2.out) HWT.out).del nm)).mono ?_
    rintro e w3 ⟨R, a3, c3, f3, rfl, ho3, hn3, hR, hmem, hb3⟩
    have HE := Lib.hid (rem_eq HASC.out hR hmem)
    have HC3 := Lib.hid (HC2.out.later hb3)
    have y0 := HC3.out.c0
    have y1 := HC3.out.f0
    have HO3 := Lib.hid ho3
    have HN3 := Lib.hid hn3
    have HB3 := Lib.hid (below_then HB2.out hb3)
    clear ho3 hn3 hb3 hR hmem
    go_wp2_with fail
    have k0 : (w3.setCell ⟨w.heap.size + 1, 0, none⟩ (.slice a3 R.length c3)).cell? ⟨w.heap.size + 1, 0, none⟩ = some (.slice a3 R.length c3) := World.cell?_setCell_same _ _ _ y0
    refine bodyPost_ret (v := .tuple #[.agg #[.slice a3 R.length c3], .bool true]) (by simp [results, Tryz.results11, go_sem, k0]) rfl ?_
    refine ⟨.slice a3 R.length c3, f3, by rw [HOK.out], ?_, HN3.out, HB3.out.setCell (by show _ ≤ w.heap.size + 1; omega) _⟩
    have e : remR l nm = R := by unfold remR; rw [HOK.out, HE.out]; rfl
    rw [e]
    exact ow_setCell ((Cd.sl _ tabC).ow_base HO3.out (by have := HS2.out; omega)) (fun q => by have := ((Cd.sl _ tabC).ow_lt HO3.out _ q).1; have := HS2.out; simp only at *; omega) _
end Go.Proofs.YteihnbnlfocgmaaGreatDoor.DbImp

namespace Go.Proofs.YteihnbnlfocgmaaGreatDoor.DbImp
open Go Go.RowKit Byt Ints IntsLaw Cd Rows2 Tab SlMath TabOpen TabElem SlTable Db TabSpec DbMath TabImp DbMap DbExact DbSort
open Go.Maps (Keyed string_keyed IsMap Tidy)
open DbSpec (LaterD drewD row1 rows_cell name_cell at3)
open DbAcc (DbAns)

theorem Stand.set {F : ByteArray → Option TabV} {G : ByteArray → Option T3} {S S2 : Nat → Prop} {w : World} (h : Stand F G S w) {t : TabV} {T : T3} (hn : t.nm = T.1) (hw : wtT T ≤ 1048577) (hr : tabC.rd w S2 t.us T) : Stand (setF F T.1 t) (setG G T.1 T) (fun b => S b ∨ S2 b) w := fun x => by
  unfold setF setG
  by_cases e : x = T.1
  · rw [if_pos e, if_pos e]; exact .inr ⟨t, T, rfl, rfl, hn.trans e.symm, hw, tabC.mono hr fun _ _ q => .inr q⟩
  · rw [if_neg e, if_neg e]
    exact (h x).imp id fun ⟨t, U, h1, h2, h3, h4, h5⟩ => ⟨t, U, h1, h2, h3, h4, tabC.mono h5 fun _ _ q => .inl q⟩
theorem set_eq {l R : List T3} {T : T3} (ha : AscP l) (hR : AscP R) (h : ∀ U, U ∈ R ↔ setG (findN l) T.1 T U.1 = some U) : R = putL T l := by
  refine asc_unique hR (asc_putL ha) fun U => ?_
  rw [h, mem_putL ha]
  unfold setG
  by_cases e : U.1 = T.1
  · rw [if_pos e]
    constructor
    · intro q; injection q with q; exact .inl q.symm
    · rintro (q | ⟨_, q⟩)
      · rw [q]
      · exact absurd e q
  · rw [if_neg e]
    constructor
    · exact fun q => .inr ⟨(findN_some q).1, e⟩
    · rintro (q | ⟨q, _⟩)
      · exact absurd (by rw [q]) e
      · exact findN_of_asc ha q
theorem put_size {w : World} {S : Nat → Prop} {a : Option Addr} {l : List T3} {ts : List TabV} (h : HeldT w S a l ts) (ha : AscP l) (T : T3) : (if (entF ts T.1).isSome then l.length else l.length + 1) = (putL T l).length := by
  rw [len_putL ha]
  rcases entF_find h T.1 with ⟨q1, q2⟩ | ⟨U, t, q1, q2, _⟩ <;> rw [q1, q2] <;> rfl

set_option maxRecDepth 100000 in
set_option maxHeartbeats 3200000 in
theorem impl_set (u : Value) (l : List T3) (T : T3) (at_ : Option Addr) (cc : Nat) (S S2 : Nat → Prop) (w : World) (h1 : tabsC.rd w S [u] l) (h2 : tabC.rd w S2 [.string T.1, .int .i64 T.2.1, .slice at_ T.2.2.length cc] T) (hw : wtS l ≤ 1048577) (hwt : wtT T ≤ 1048577) :
    Calls Tryz.prog 6 #[.agg #[u], .agg #[.string T.1, .int .i64 T.2.1, .slice at_ T.2.2.length cc]] w fun e w' => DbAns (setL l T) (setOk l T) w e w' := by
  obtain ⟨a1, cap1, rfl, hl1⟩ := Cd.sl_form h1
  obtain ⟨ts, ht⟩ := held_of h1
  have HT := Lib.hid (fun w' (hb : Below w.heap.size w w') => HeldT.later ht hb)
  have HNA := Lib.hid (fun w' (hb : Below w.heap.size w w') => impl_byname a1 cap1 l ts S w' (Cd.later h1 hb) (HeldT.later ht hb))
  have HDC := Lib.hid (fun w' (hb : Below w.heap.size w w') => impl_dbcopy _ l S w' (Cd.later h1 hb) hw)
  have HV := Lib.hid (fun w' (hb : Below w.heap.size w w') => impl_dbok _ l S w' (Cd.later h1 hb))
  have HVT := Lib.hid (fun w' (hb : Below w.heap.size w w') => val_elem_i _ T S2 w' (Cd.later h2 hb))
  have HRT := Lib.hid (fun w' (hb : Below w.heap.size w w') => Cd.later h2 hb)
  have hns : T.1.size ≤ maxLen := by obtain ⟨u, _, h, _⟩ := tab_cells h2; exact h
  have HK := Lib.hid (key_of hns)
  have HWT := Lib.hid hw
  have HWT2 := Lib.hid hwt
  clear h1 h2 ht hw hwt hns
  go_enter Tryz.func6, Tryz.ntmps6
  go_wp2_with fail
  generalize hW : ((w.alloc _).alloc _).alloc _ = W
  obtain ⟨r0, r1, r2, hz, hb0⟩ := start3 w _ _ _ hW
  have HC0 := Lib.hid (Loc1.of r0)
  have HC1 := Lib.hid (Loc3.of r1)
  have HC2 := Lib.hid (Loc1.of r2)
  have HZZ := Lib.hid hz
  have HB0 := Lib.hid hb0
  clear hW r0 r1 r2 hz hb0
  refine (HNA.out _ HB0.out).mono ?_
  rintro e w1 ⟨B, D, n, rfl, hBl, hown, hn6, hm, hb1⟩
  have HB1 := Lib.hid (below_then HB0.out hb1)
  have HC0a := Lib.hid (HC0.out.later hb1)
  have HC1a := Lib.hid (HC1.out.later hb1)
  have HC2a := Lib.hid (HC2.out.later hb1)
  have HBL := Lib.hid (show w.heap.size + 3 ≤ B by have := HZZ.out; omega)
  have HM := Lib.hid (hm.put T.1 ⟨T.1, T.2.1, at_, T.2.2.length, cc⟩)
  have q0 := HC0a.out.c0
  have q1 := HC1a.out.c0
  have q2 := HC1a.out.c1
  have q3 := HC1a.out.c2
  clear hb1 hm hBl
  go_wp2_with (first
    | (at_mapUpdate; refine wpList_mapUpdate_own _ rfl _ _ _ 51 rfl 9 29 law Tryz.underlying51 tabR B n D rfl hown (by unfold maxLen; omega) _ _ (keyL T.1) rfl rfl HK.out _ [] (tabR_mk ⟨T.1, T.2.1, at_, T.2.2.length, cc⟩) ?_; intro w2 hown2 hg2; (have q0' := (HC0a.out.touched (touch_grown hg2) (by have := HBL.out; simp; omega)).c0); go_frame))
  have HO2 := Lib.hid (show Owns w2 B (n + 1) (D.put (keyL T.1) (.held (TabV.val ⟨T.1, T.2.1, at_, T.2.2.length, cc⟩))) from hown2)
  have htg := touch_grown hg2
  have HB2 := Lib.hid (Cd.Touch.below HB1.out htg (fun b hb => by rw [List.mem_singleton.1 hb]; have := HBL.out; omega))
  have HC0b := Lib.hid (HC0a.out.touched htg (by have := HBL.out; simp; omega))
  have HC1b := Lib.hid (HC1a.out.touched htg (by have := HBL.out; simp; omega))
  have HC2b := Lib.hid (HC2a.out.touched htg (by have := HBL.out; simp; omega))
  clear hown hown2 hg2 htg q0 q1 q2 q3
  refine (HV.out _ HB2.out).mono ?_
  rintro e w3 ⟨rfl, hb3⟩
  have HB3 := Lib.hid (below_then HB2.out hb3)
  have HC0c := Lib.hid (HC0b.out.later hb3)
  have HC1c := Lib.hid (HC1b.out.later hb3)
  have HC2c := Lib.hid (HC2b.out.later hb3)
  have HO3 := Lib.hid (Owns.later HO2.out hb3)
  clear hb3 q0'
  have q0 := HC0c.out.c0
  have q1 := HC1c.out.c0
  have q2 := HC1c.out.c1
  have q3 := HC1c.out.c2
  cases hv : dbOk l
  · have HNO := Lib.hid (show setOk l T = false by unfold setOk; rw [hv]; rfl)
    go_wp2_with fail
    refine (HDC.out _ HB3.out).mono ?_
    rintro e w9 ⟨a9, c9, f9, rfl, ho9, hn9, hb9⟩
    have HC9 := Lib.hid (HC2c.out.later hb9)
    have y0 := HC9.out.c0
    have y1 := HC9.out.f0
    have HA := Lib.hid (DbAns.copy (b := setOk l T) (l' := setL l T) (Y := w.heap.size + 2) ho9 hn9 HB3.out hb9 (by omega) (World.block_lt_of_cell? _ _ HC2c.out.c0) (by unfold setL; rw [HNO.out]; rfl) HNO.out)
    clear ho9 hn9 hb9
    go_wp2_with fail
    have k0 : (w9.setCell ⟨w.heap.size + 2, 0, none⟩ (.slice a9 l.length c9)).cell? ⟨w.heap.size + 2, 0, none⟩ = some (.slice a9 l.length c9) := World.cell?_setCell_same _ _ _ y0
    refine bodyPost_ret (v := .tuple #[.agg #[.slice a9 l.length c9], .bool false]) (by simp [results, Tryz.results6, go_sem, k0]) rfl ?_
    exact HA.out
  have HP := Lib.hid (dbOk_iff.1 hv)
  have HVV := Lib.hid hv
  have HM2 := Lib.hid (show MapIs (D.put (keyL T.1) (.held (TabV.val ⟨T.1, T.2.1, at_, T.2.2.length, cc⟩))) (setF (entF ts) T.1 ⟨T.1, T.2.1, at_, T.2.2.length, cc⟩) (putL T l).length from by
    have h := HM.out
    rw [hv] at h
    exact h.eq rfl (put_size (HT.out w (Below.refl _ _)) HP.out.2.2 T))
  clear hv HM
  go_wp2_with fail
  refine (HVT.out _ HB3.out).mono ?_
  rintro e w4 ⟨rfl, hb4⟩
  have HB4 := Lib.hid (below_then HB3.out hb4)
  have HC0d := Lib.hid (HC0c.out.later hb4)
  have HC2d := Lib.hid (HC2c.out.later hb4)
  have HO4 := Lib.hid (Owns.later HO3.out hb4)
  clear hb4 q0 q1 q2 q3
  have q0 := HC0d.out.c0
  cases hT : okT T
  · have HNO := Lib.hid (show setOk l T = false by unfold setOk; rw [hT]; simp)
    go_wp2_with fail
    refine (HDC.out _ HB4.out).mono ?_
    rintro e w9 ⟨a9, c9, f9, rfl, ho9, hn9, hb9⟩
    have HC9 := Lib.hid (HC2d.out.later hb9)
    have y0 := HC9.out.c0
    have y1 := HC9.out.f0
    have HA := Lib.hid (DbAns.copy (b := setOk l T) (l' := setL l T) (Y := w.heap.size + 2) ho9 hn9 HB4.out hb9 (by omega) (World.block_lt_of_cell? _ _ HC2d.out.c0) (by unfold setL; rw [HNO.out]; rfl) HNO.out)
    clear ho9 hn9 hb9
    go_wp2_with fail
    have k0 : (w9.setCell ⟨w.heap.size + 2, 0, none⟩ (.slice a9 l.length c9)).cell? ⟨w.heap.size + 2, 0, none⟩ = some (.slice a9 l.length c9) := World.cell?_setCell_same _ _ _ y0
    refine bodyPost_ret (v := .tuple #[.agg #[.slice a9 l.length c9], .bool false]) (by simp [results, Tryz.results6, go_sem, k0]) rfl ?_
    exact HA.out
  have HTV := Lib.hid hT
  clear hT
  have hlen := World.ownsMap.len HO4.out Tryz.underlying51 3
  rw [HM2.out.size] at hlen
  by_cases h6 : (putL T l).length ≤ 6
  case neg =>
    have HNO := Lib.hid (show setOk l T = false by unfold setOk; rw [decide_eq_false h6]; simp)
    have h6' : ((6 : Int) < ((putL T l).length : Int)) = True := by simp only [eq_iff_iff, iff_true]; omega
    have h6'' : (6 < (putL T l).length) = True := by simp only [eq_iff_iff, iff_true]; omega
    generalize (putL T l).length = q at *
    clear h6
    go_wp2_with fail
    refine (HDC.out _ HB4.out).mono ?_
    rintro e w9 ⟨a9, c9, f9, rfl, ho9, hn9, hb9⟩
    have HC9 := Lib.hid (HC2d.out.later hb9)
    have y0 := HC9.out.c0
    have y1 := HC9.out.f0
    have HA := Lib.hid (DbAns.copy (b := setOk l T) (l' := setL l T) (Y := w.heap.size + 2) ho9 hn9 HB4.out hb9 (by omega) (World.block_lt_of_cell? _ _ HC2d.out.c0) (by unfold setL; rw [HNO.out]; rfl) HNO.out)
    clear ho9 hn9 hb9
    go_wp2_with fail
    have k0 : (w9.setCell ⟨w.heap.size + 2, 0, none⟩ (.slice a9 l.length c9)).cell? ⟨w.heap.size + 2, 0, none⟩ = some (.slice a9 l.length c9) := World.cell?_setCell_same _ _ _ y0
    refine bodyPost_ret (v := .tuple #[.agg #[.slice a9 l.length c9], .bool false]) (by simp [results, Tryz.results6, go_sem, k0]) rfl ?_
    exact HA.out
  have HYES := Lib.hid (show setOk l T = true by unfold setOk; rw [HVV.out, HTV.out, decide_eq_true h6]; rfl)
  have HL6 := Lib.hid h6
  have h6' : ((6 : Int) < ((putL T l).length : Int)) = False := by simp only [eq_iff_iff, iff_false]; omega
  have h6'' : (6 < (putL T l).length) = False := by simp only [eq_iff_iff, iff_false]; omega
  clear h6
  generalize (putL T l).length = q at *
  go_wp2_with fail
  refine (impl_sorted B (n + 1) _ _ _ _ _ w4 HO4.out HM2.out (by have := HL6.out; omega) ((stand_of (HT.out w4 HB4.out) HWT.out).set rfl HWT2.out (HRT.out w4 HB4.out))).mono ?_
  rintro e w5 ⟨R, a5, c5, f5, rfl, ho5, hn5, hR, hmem, hb5⟩
  have HE := Lib.hid (set_eq HP.out.2.2 hR hmem)
  have HC5 := Lib.hid (HC2d.out.later hb5)
  have y0 := HC5.out.c0
  have y1 := HC5.out.f0
  have HO5 := Lib.hid ho5
  have HN5 := Lib.hid hn5
  have HB5 := Lib.hid (below_then HB4.out hb5)
  have HS4 := Lib.hid (World.block_lt_of_cell? _ _ HC2d.out.c0)
  clear ho5 hn5 hb5 hR hmem
  go_wp2_with fail
  have k0 : (w5.setCell ⟨w.heap.size + 2, 0, none⟩ (.slice a5 R.length c5)).cell? ⟨w.heap.size + 2, 0, none⟩ = some (.slice a5 R.length c5) := World.cell?_setCell_same _ _ _ y0
  refine bodyPost_ret (v := .tuple #[.agg #[.slice a5 R.length c5], .bool true]) (by simp [results, Tryz.results6, go_sem, k0]) rfl ?_
  have e : setL l T = R := by unfold setL; rw [HYES.out, HE.out]; rfl
  refine ⟨.slice a5 R.length c5, f5, by rw [HYES.out], ?_, HN5.out, HB5.out.setCell (by show _ ≤ w.heap.size + 2; omega) _⟩
  rw [e]
  exact ow_setCell ((Cd.sl _ tabC).ow_base HO5.out (by have := HS4.out; omega)) (fun q => by have := ((Cd.sl _ tabC).ow_lt HO5.out _ q).1; have := HS4.out; simp only at *; omega) _
end Go.Proofs.YteihnbnlfocgmaaGreatDoor.DbImp

namespace Go.Proofs.YteihnbnlfocgmaaGreatDoor.DbAcc
open Go Go.RowKit Byt Ints IntsLaw Cd Rows2 Tab SlMath TabOpen TabElem SlTable Db TabSpec DbMath DbSpec DbExact

/-- Has a table been met that does not lie ahead of T? -/
def putB (T : T3) (l : List T3) : Bool := !(l.all fun U => ltB U.1 T.1)
def curP (T : T3) (l : List T3) : List T3 := if putB T l then putL T l else l
theorem putB_no {T : T3} {l : List T3} : putB T l = false ↔ ∀ U ∈ l, ltB U.1 T.1 = true := by unfold putB; simp
theorem putB_yes {T : T3} {l : List T3} : putB T l = true ↔ ∃ U ∈ l, ltB U.1 T.1 = false := by unfold putB; simp
theorem putB_more {T U : T3} {l : List T3} : putB T (l ++ [U]) = (putB T l || !ltB U.1 T.1) := by unfold putB; simp [Bool.not_and]
/-- None yet, and the next does not lie ahead. -/
theorem curP_first {T U : T3} {l : List T3} (h : putB T l = false) (hu : ltB U.1 T.1 = false) : putB T (l ++ [U]) = true ∧ curP T (l ++ [U]) = if U.1 = T.1 then l ++ [T] else l ++ [T] ++ [U] := by
  have h1 : putB T (l ++ [U]) = true := by rw [putB_more, h, hu]; rfl
  refine ⟨h1, ?_⟩
  unfold curP
  rw [if_pos h1, putL_all (putB_no.1 h)]
  show l ++ (if ltB U.1 T.1 = true then U :: putL T [] else if U.1 = T.1 then [T] else [T, U]) = _
  rw [hu, if_neg (by simp)]
  split
  · rfl
  · simp
theorem curP_next {T U : T3} {l : List T3} (h : putB T l = false) (hu : ltB U.1 T.1 = true) : putB T (l ++ [U]) = false ∧ curP T (l ++ [U]) = l ++ [U] := by
  have h1 : putB T (l ++ [U]) = false := by rw [putB_more, h, hu]; rfl
  exact ⟨h1, by unfold curP; rw [h1]; rfl⟩
theorem curP_past {T U : T3} {l : List T3} (h : putB T l = true) : putB T (l ++ [U]) = true ∧ curP T (l ++ [U]) = curP T l ++ [U] := by
  have h1 : putB T (l ++ [U]) = true := by rw [putB_more, h]; rfl
  refine ⟨h1, ?_⟩
  unfold curP
  rw [if_pos h1, if_pos h]
  exact putL_past (putB_yes.1 h) _
theorem curP_no {T : T3} {l : List T3} (h : putB T l = false) : curP T l = l := by unfold curP; rw [h]; rfl
/-- In an ascending list whatever follows one that does not lie ahead of T has another name. -/
theorem past_ne {T : T3} {l : List T3} {k : Nat} (ha : AscP l) (hk : k < l.length) (h : putB T (l.take k) = true) : (l[k]).1 ≠ T.1 := by
  obtain ⟨U, hU, hu⟩ := putB_yes.1 h
  obtain ⟨i, hi, rfl⟩ := List.getElem_of_mem hU
  rw [List.length_take] at hi
  rw [List.getElem_take] at hu
  have hlt := List.pairwise_iff_getElem.1 ha i k (by omega) hk (by omega)
  intro e
  unfold ltT at hlt
  rw [e, hu] at hlt
  cases hlt
theorem curP_all {T : T3} {l : List T3} (h : putB T l = true) : curP T l = putL T l := by unfold curP; rw [if_pos h]
theorem putL_none {T : T3} {l : List T3} (h : putB T l = false) : putL T l = l ++ [T] := by
  have := putL_all (putB_no.1 h) []
  rw [List.append_nil] at this
  exact this
theorem below_drewN (w : World) (n : Nat) : Below w.heap.size w (w.drewN n) := ⟨rfl, rfl, rfl, Nat.le_refl _, fun _ _ => rfl⟩
theorem len_curP (T : T3) (l : List T3) (ha : AscP l) : (curP T l).length ≤ l.length + 1 := by
  unfold curP
  split
  · rw [len_putL ha]; split <;> omega
  · omega

set_option maxRecDepth 100000 in
set_option maxHeartbeats 3200000 in
theorem spec_set (u : Value) (l : List T3) (T : T3) (at_ : Option Addr) (cc : Nat) (S S2 : Nat → Prop) (w : World) (h1 : tabsC.rd w S [u] l) (h2 : tabC.rd w S2 [.string T.1, .int .i64 T.2.1, .slice at_ T.2.2.length cc] T) (hw : wtS l ≤ 1048577) (hwt : wtT T ≤ 1048577) :
    Calls Tryz.prog 7 #[.agg #[u], .agg #[.string T.1, .int .i64 T.2.1, .slice at_ T.2.2.length cc]] w fun e w' => DbAns (setL l T) (setOk l T) w e w' := by
  have HR1 := Lib.hid (fun w' (hb : Below w.heap.size w w') => Cd.later h1 hb)
  have HV := Lib.hid (fun w' (hb : Below w.heap.size w w') => spec_dbok u l S w' (Cd.later h1 hb))
  have HVT := Lib.hid (fun w' (hb : Below w.heap.size w w') => val_elem _ T S2 w' (Cd.later h2 hb))
  have HCT := Lib.hid (fun w' (hb : Below w.heap.size w w') => copy_elem _ T S2 w' (Cd.later h2 hb) (by omega))
  have HDC := Lib.hid (fun w' (hb : Below w.heap.size w w') => spec_dbcopy u l S w' (Cd.later h1 hb) (by omega))
  obtain ⟨a1, cap1, rfl, hl1⟩ := Cd.sl_form h1
  have HWT := Lib.hid hw
  clear h1 h2 hw hwt
  go_enter Tryz.func7, Tryz.ntmps7
  go_wp2_with fail
  generalize hW : ((w.alloc _).alloc _).alloc _ = W
  obtain ⟨r0, r1, r2, hz, hb0⟩ := start3 w _ _ _ hW
  have HC0 := Lib.hid (Loc1.of r0)
  have HC1 := Lib.hid (Loc3.of r1)
  have HC2 := Lib.hid (Loc1.of r2)
  have HZZ := Lib.hid hz
  have HB0 := Lib.hid hb0
  clear hW r0 r1 r2 hz hb0
  refine (HV.out _ HB0.out).mono ?_
  rintro e w1 ⟨rfl, hb1⟩
  have HB1 := Lib.hid (below_then HB0.out hb1)
  have HC0a := Lib.hid (HC0.out.later hb1)
  have HC1a := Lib.hid (HC1.out.later hb1)
  have HC2a := Lib.hid (HC2.out.later hb1)
  have HS1 := Lib.hid (show w.heap.size + 3 ≤ w1.heap.size by have := hb1.size; have := HZZ.out; omega)
  have q0 := HC0a.out.c0
  have q1 := HC1a.out.c0
  have q2 := HC1a.out.c1
  have q3 := HC1a.out.c2
  clear hb1
  cases hv : dbOk l
  · have HNO := Lib.hid (show setOk l T = false by unfold setOk; rw [hv]; rfl)
    go_wp2_with fail
    refine (HDC.out _ HB1.out).mono ?_
    rintro e w9 ⟨u9, f9, rfl, ho9, hn9, hb9⟩
    obtain ⟨a9, c9, rfl⟩ := Cd.ow_slice (c := tabC) ho9
    have HC9 := Lib.hid (HC2a.out.later hb9)
    have y0 := HC9.out.c0
    have y1 := HC9.out.f0
    have HA := Lib.hid (DbAns.copy (b := setOk l T) (l' := setL l T) (Y := w.heap.size + 2) ho9 hn9 HB1.out hb9 (by omega) (World.block_lt_of_cell? _ _ HC2a.out.c0) (by unfold setL; rw [HNO.out]; rfl) HNO.out)
    clear ho9 hn9 hb9
    go_wp2_with fail
    have k0 : (w9.setCell ⟨w.heap.size + 2, 0, none⟩ (.slice a9 l.length c9)).cell? ⟨w.heap.size + 2, 0, none⟩ = some (.slice a9 l.length c9) := World.cell?_setCell_same _ _ _ y0
    refine bodyPost_ret (v := .tuple #[.agg #[.slice a9 l.length c9], .bool false]) (by simp [results, Tryz.results7, go_sem, k0]) rfl ?_
    exact HA.out
  have HP := Lib.hid (dbOk_iff.1 hv)
  have HVV := Lib.hid hv
  clear hv
  go_wp2_with fail
  refine (HVT.out _ HB1.out).mono ?_
  rintro e w2 ⟨rfl, hb2⟩
  have HB2 := Lib.hid (below_then HB1.out hb2)
  have HC0b := Lib.hid (HC0a.out.later hb2)
  have HC1b := Lib.hid (HC1a.out.later hb2)
  have HC2b := Lib.hid (HC2a.out.later hb2)
  have HS2 := Lib.hid (show w.heap.size + 3 ≤ w2.heap.size by have := hb2.size; have := HS1.out; omega)
  clear hb2 q0 q1 q2 q3
  have q0 := HC0b.out.c0
  cases hT : okT T
  · have HNO := Lib.hid (show setOk l T = false by unfold setOk; rw [hT]; simp)
    go_wp2_with fail
    refine (HDC.out _ HB2.out).mono ?_
    rintro e w9 ⟨u9, f9, rfl, ho9, hn9, hb9⟩
    obtain ⟨a9, c9, rfl⟩ := Cd.ow_slice (c := tabC) ho9
    have HC9 := Lib.hid (HC2b.out.later hb9)
    have y0 := HC9.out.c0
    have y1 := HC9.out.f0
    have HA := Lib.hid (DbAns.copy (b := setOk l T) (l' := setL l T) (Y := w.heap.size + 2) ho9 hn9 HB2.out hb9 (by omega) (World.block_lt_of_cell? _ _ HC2b.out.c0) (by unfold setL; rw [HNO.out]; rfl) HNO.out)
    clear ho9 hn9 hb9
    go_wp2_with fail
    have k0 : (w9.setCell ⟨w.heap.size + 2, 0, none⟩ (.slice a9 l.length c9)).cell? ⟨w.heap.size + 2, 0, none⟩ = some (.slice a9 l.length c9) := World.cell?_setCell_same _ _ _ y0
    refine bodyPost_ret (v := .tuple #[.agg #[.slice a9 l.length c9], .bool false]) (by simp [results, Tryz.results7, go_sem, k0]) rfl ?_
    exact HA.out
  have HTV := Lib.hid hT
  clear hT
  go_wp2_with fail
  generalize hg : World.alloc w2 _ = WF
  obtain ⟨r0, hz, hb0⟩ := start1 w2 _ hg
  have HACC0 := Lib.hid (AccS.start r0)
  have HBF := Lib.hid (below_then HB2.out hb0)
  have HD0 := Lib.hid (HC0b.out.later hb0)
  have HD1 := Lib.hid (HC1b.out.later hb0)
  have HD2 := Lib.hid (HC2b.out.later hb0)
  clear hg r0 hz hb0 q0
  go_loopw [7, 8] (fun pt i wr => ∃ (k : Nat) (a : Option Addr) (c : Nat) (fp : List Nat), k ≤ l.length ∧ pt = .bool (putB T (l.take k)) ∧ i = .int .i64 k ∧ AccS WF wr w2.heap.size (curP T (l.take k)) a c fp) (fun _ i _ => l.length - (intOf i).toNat)
  case atStart => exact ⟨0, none, 0, [], Nat.zero_le _, rfl, rfl, HACC0.out⟩
  case round =>
    obtain ⟨k, a, c, fp, hk, rfl, rfl, hacc⟩ := hrel
    have HACC := Lib.hid hacc
    have hX : w.heap.size + 2 < w2.heap.size := by have := HS2.out; omega
    have x0 := (HACC.out.loc1 HD0.out (by omega)).c0
    have x1 := (HACC.out.loc1 HD0.out (by omega)).lt
    have z0 := (HACC.out.loc3 HD1.out (by omega)).c0
    have z1 := (HACC.out.loc3 HD1.out (by omega)).c1
    have z2 := (HACC.out.loc3 HD1.out (by omega)).c2
    have z3 := (HACC.out.loc3 HD1.out (by omega)).lt
    have HBW := Lib.hid (HACC.out.below HBF.out (by omega))
    clear hacc
    by_cases hlt : k < l.length
    · obtain ⟨b, off, cap', us, e1, _, hbB, hat, hu⟩ := Cd.sl_at (HR1.out w (Below.refl _ _)) hlt
      injection e1 with e1 e2 e3
      subst e1 e3
      obtain ⟨x, y, z, rfl⟩ := len_list (tabC.len hu)
      have p0 := hat 0 (by simp)
      have p1 := hat 1 (by simp)
      have p2 := hat 2 (by simp)
      simp only [List.getElem_cons_zero, List.getElem_cons_succ, Nat.add_zero, show tabC.n = 3 from rfl] at p0 p1 p2
      have ht3 : wtT l[k] ≤ 1073741824 := by have := sumN_mem wtT hlt; have := HWT.out; unfold wtS at this; omega
      have HCU := Lib.hid (fun w' (hq : Below w.heap.size w w') => copy_elem [x, y, z] l[k] _ w' (Cd.later hu hq) ht3)
      have hx := name_cell hu
      have HAC : AscP (l.take k) := List.Pairwise.sublist (List.take_sublist _ _) HP.out.2.2
      have HLL := Lib.hid (show (curP T (l.take k)).length + 2 ≤ 1000000000 by have h1 := len_curP T (l.take k) HAC; rw [List.length_take] at h1; have h2 := HP.out.1; omega)
      have HTK := Lib.hid (show l.take (k + 1) = l.take k ++ [l[k]] from List.take_succ_eq_append_getElem hlt)
      have HPN := Lib.hid (fun h => past_ne (T := T) HP.out.2.2 hlt h)
      have HCELL := Lib.hid (And.intro p0 (And.intro p1 (And.intro p2 hbB)))
      replace p0 := (HBW.out.cell (p := ⟨b, off + k * 3, none⟩) hbB).trans p0
      replace p1 := (HBW.out.cell (p := ⟨b, off + k * 3 + 1, none⟩) hbB).trans p1
      replace p2 := (HBW.out.cell (p := ⟨b, off + k * 3 + 2, none⟩) hbB).trans p2
      have i1 : (0 : Int) ≤ (k : Int) := by omega
      have i2 : (k : Int) < (l.length : Int) := by omega
      have i3 : l.length ≤ 6 := HP.out.1
      clear hu hat e2 ht3 HAC
      generalize l[k] = U at *
      subst hx
      generalize l.take k = pre at *
      obtain ⟨cur, hcur⟩ : ∃ cur, curP T pre = cur := ⟨_, rfl⟩
      rw [hcur] at HACC HLL
      have HCUR := Lib.hid hcur
      clear hcur
      cases hput : putB T pre
      · have HPU := Lib.hid hput
        replace HCUR := Lib.hid (show pre = cur from (curP_no hput).symm.trans HCUR.out)
        clear hput
        cases hcm : Op.bytesLess U.1.toList T.1.toList
        · have HF := Lib.hid (curP_first (U := U) HPU.out hcm)
          go_wp2_with fail
          go_quiet (fail)
          have hdq := below_drewN wr nq
          replace HACC := Lib.hid (HACC.out.later hdq)
          clear x0 x1 z0 z1 z2 z3 p0 p1 p2 hbB
          clear hdq
          generalize World.drewN wr nq = wr1 at *
          have hbX := HACC.out.below HBF.out (by omega)
          have x0 := (HACC.out.loc1 HD0.out (by omega)).c0
          have x1 := (HACC.out.loc1 HD0.out (by omega)).lt
          have z0 := (HACC.out.loc3 HD1.out (by omega)).c0
          have z1 := (HACC.out.loc3 HD1.out (by omega)).c1
          have z2 := (HACC.out.loc3 HD1.out (by omega)).c2
          have z3 := (HACC.out.loc3 HD1.out (by omega)).lt
          have p0 := (hbX.cell (p := ⟨b, off + k * 3, none⟩) HCELL.out.2.2.2).trans HCELL.out.1
          have p1 := (hbX.cell (p := ⟨b, off + k * 3 + 1, none⟩) HCELL.out.2.2.2).trans HCELL.out.2.1
          have p2 := (hbX.cell (p := ⟨b, off + k * 3 + 2, none⟩) HCELL.out.2.2.2).trans HCELL.out.2.2.1
          have hbB := Nat.lt_of_lt_of_le HCELL.out.2.2.2 hbX.size
          have HBX := Lib.hid hbX
          clear hbX
          clear hcm
          go_wp2_with fail
          refine (HCT.out _ HBX.out).mono ?_
          rintro e w2t ⟨a2t, c2t, f2t, rfl, ho2, hn2, hb2⟩
          have h2 := HACC.out.later hb2
          have d2 := h2.cell
          have dl := World.block_lt_of_cell? _ _ d2
          have hl := HACC.out.laid hb2 ho2 hn2 29
          have H3 := Lib.hid hl.1
          have HLD := Lib.hid hl.2
          clear ho2 hn2 hb2 h2 hl HACC
          go_wp2_with (at_builtin; refine Cd.wpList_appendN (c := tabC) rfl (.tmp 46) (.tmp 48) 24 rfl WF.heap.size 29 (.agg #[.string ⟨#[]⟩, .int .i64 0, .slice none 0 0]) 3 48 rfl Tryz.underlying24 info_x rfl (by decide) _ cur fp rfl H3.out.ow H3.out.nd (w2t.heap.size + 1) _ rfl HLD.out.at_ T f2t HLD.out.ow HLD.out.nd HLD.out.far (by have := HLL.out; omega) H3.out.sz ?_)
          intro gt cap4t w4t fp4t ho4 hn4 _ ht4
          have HACC := Lib.hid (H3.out.app (cur' := cur ++ [T]) (n := cur.length + 1) (by simp) ht4 ho4 hn4)
          obtain ⟨e2, g2⟩ := H3.out.fcell ht4
          clear ho4 hn4 ht4 H3 HLD d2 dl
          clear x0 x1 z0 z1 z2 z3 p0 p1 p2 hbB
          clear HBX
          go_upto_region 12 with fail
          generalize World.setCell w4t _ _ = wA at *
          obtain ⟨cur1, hcur⟩ : ∃ q, cur ++ [T] = q := ⟨_, rfl⟩
          rw [hcur] at HACC
          have HCcur1 := Lib.hid hcur
          clear hcur e2 g2
          have hbX := HACC.out.below HBF.out (by omega)
          have x0 := (HACC.out.loc1 HD0.out (by omega)).c0
          have x1 := (HACC.out.loc1 HD0.out (by omega)).lt
          have z0 := (HACC.out.loc3 HD1.out (by omega)).c0
          have z1 := (HACC.out.loc3 HD1.out (by omega)).c1
          have z2 := (HACC.out.loc3 HD1.out (by omega)).c2
          have z3 := (HACC.out.loc3 HD1.out (by omega)).lt
          have p0 := (hbX.cell (p := ⟨b, off + k * 3, none⟩) HCELL.out.2.2.2).trans HCELL.out.1
          have p1 := (hbX.cell (p := ⟨b, off + k * 3 + 1, none⟩) HCELL.out.2.2.2).trans HCELL.out.2.1
          have p2 := (hbX.cell (p := ⟨b, off + k * 3 + 2, none⟩) HCELL.out.2.2.2).trans HCELL.out.2.2.1
          have hbB := Nat.lt_of_lt_of_le HCELL.out.2.2.2 hbX.size
          have HBX := Lib.hid hbX
          clear hbX
          by_cases he : U.1 = T.1
          · have he2 : (U.1.toList == T.1.toList) = true := by rw [eqB]; exact decide_eq_true he
            have HE := Lib.hid he
            clear he
            go_quiet (fail)
            have hdq := below_drewN wA nq
            replace HACC := Lib.hid (HACC.out.later hdq)
            clear x0 x1 z0 z1 z2 z3 p0 p1 p2 hbB
            clear hdq
            generalize World.drewN wA nq = wB at *
            have hbX := HACC.out.below HBF.out (by omega)
            have x0 := (HACC.out.loc1 HD0.out (by omega)).c0
            have x1 := (HACC.out.loc1 HD0.out (by omega)).lt
            have z0 := (HACC.out.loc3 HD1.out (by omega)).c0
            have z1 := (HACC.out.loc3 HD1.out (by omega)).c1
            have z2 := (HACC.out.loc3 HD1.out (by omega)).c2
            have z3 := (HACC.out.loc3 HD1.out (by omega)).lt
            have p0 := (hbX.cell (p := ⟨b, off + k * 3, none⟩) HCELL.out.2.2.2).trans HCELL.out.1
            have p1 := (hbX.cell (p := ⟨b, off + k * 3 + 1, none⟩) HCELL.out.2.2.2).trans HCELL.out.2.1
            have p2 := (hbX.cell (p := ⟨b, off + k * 3 + 2, none⟩) HCELL.out.2.2.2).trans HCELL.out.2.2.1
            have hbB := Nat.lt_of_lt_of_le HCELL.out.2.2.2 hbX.size
            have HBX := Lib.hid hbX
            clear hbX
            clear he2
            go_wp2_with fail
            go_roundw
            case rel => exact ⟨k + 1, some ⟨gt, 0, none⟩, cap4t, fp4t, by omega, by rw [HTK.out, HF.out.1], by go_num, HACC.out.shift (by rw [HTK.out]; exact (by rw [HF.out.2, if_pos HE.out, HCUR.out, HCcur1.out]))⟩
            case measure => simp [intOf]; omega
          · have he2 : (U.1.toList == T.1.toList) = false := by rw [eqB]; exact decide_eq_false he
            have HE := Lib.hid he
            have HLL1 := Lib.hid (show cur1.length + 1 ≤ 1000000000 by rw [← HCcur1.out, List.length_append]; have := HLL.out; simp; omega)
            clear he
            go_quiet (fail)
            have hdq := below_drewN wA nq
            replace HACC := Lib.hid (HACC.out.later hdq)
            clear x0 x1 z0 z1 z2 z3 p0 p1 p2 hbB
            clear hdq
            generalize World.drewN wA nq = wB at *
            have hbX := HACC.out.below HBF.out (by omega)
            have x0 := (HACC.out.loc1 HD0.out (by omega)).c0
            have x1 := (HACC.out.loc1 HD0.out (by omega)).lt
            have z0 := (HACC.out.loc3 HD1.out (by omega)).c0
            have z1 := (HACC.out.loc3 HD1.out (by omega)).c1
            have z2 := (HACC.out.loc3 HD1.out (by omega)).c2
            have z3 := (HACC.out.loc3 HD1.out (by omega)).lt
            have p0 := (hbX.cell (p := ⟨b, off + k * 3, none⟩) HCELL.out.2.2.2).trans HCELL.out.1
            have p1 := (hbX.cell (p := ⟨b, off + k * 3 + 1, none⟩) HCELL.out.2.2.2).trans HCELL.out.2.1
            have p2 := (hbX.cell (p := ⟨b, off + k * 3 + 2, none⟩) HCELL.out.2.2.2).trans HCELL.out.2.2.1
            have hbB := Nat.lt_of_lt_of_le HCELL.out.2.2.2 hbX.size
            have HBX := Lib.hid hbX
            clear hbX
            clear he2
            go_wp2_with fail
            refine (HCU.out _ HBX.out).mono ?_
            rintro e w2u ⟨a2u, c2u, f2u, rfl, ho2, hn2, hb2⟩
            have h2 := HACC.out.later hb2
            have d2 := h2.cell
            have dl := World.block_lt_of_cell? _ _ d2
            have hl := HACC.out.laid hb2 ho2 hn2 29
            have H3 := Lib.hid hl.1
            have HLD := Lib.hid hl.2
            clear ho2 hn2 hb2 h2 hl HACC
            go_wp2_with (at_builtin; refine Cd.wpList_appendN (c := tabC) rfl (.tmp 67) (.tmp 69) 24 rfl WF.heap.size 29 (.agg #[.string ⟨#[]⟩, .int .i64 0, .slice none 0 0]) 3 48 rfl Tryz.underlying24 info_x rfl (by decide) _ cur1 fp4t rfl H3.out.ow H3.out.nd (w2u.heap.size + 1) _ rfl HLD.out.at_ U f2u HLD.out.ow HLD.out.nd HLD.out.far HLL1.out H3.out.sz ?_)
            intro gu cap4u w4u fp4u ho4 hn4 _ ht4
            have HACC := Lib.hid (H3.out.app (cur' := cur1 ++ [U]) (n := cur1.length + 1) (by simp) ht4 ho4 hn4)
            obtain ⟨e2, g2⟩ := H3.out.fcell ht4
            clear ho4 hn4 ht4 H3 HLD d2 dl
            clear x0 x1 z0 z1 z2 z3 p0 p1 p2 hbB
            clear HBX
            go_wp2_with fail
            go_roundw
            case rel => exact ⟨k + 1, some ⟨gu, 0, none⟩, cap4u, fp4u, by omega, by rw [HTK.out, HF.out.1], by go_num, HACC.out.shift (by rw [HTK.out]; exact (by rw [HF.out.2, if_neg HE.out, HCUR.out, HCcur1.out]))⟩
            case measure => simp [intOf]; omega
        · have HF := Lib.hid (curP_next (U := U) HPU.out hcm)
          have he2 : (U.1.toList == T.1.toList) = false := by rw [eqB]; exact decide_eq_false (ltB_ne hcm)
          go_wp2_with fail
          go_quiet (fail)
          have hdq := below_drewN wr nq
          replace HACC := Lib.hid (HACC.out.later hdq)
          clear x0 x1 z0 z1 z2 z3 p0 p1 p2 hbB
          clear hdq
          generalize World.drewN wr nq = wr1 at *
          have hbX := HACC.out.below HBF.out (by omega)
          have x0 := (HACC.out.loc1 HD0.out (by omega)).c0
          have x1 := (HACC.out.loc1 HD0.out (by omega)).lt
          have z0 := (HACC.out.loc3 HD1.out (by omega)).c0
          have z1 := (HACC.out.loc3 HD1.out (by omega)).c1
          have z2 := (HACC.out.loc3 HD1.out (by omega)).c2
          have z3 := (HACC.out.loc3 HD1.out (by omega)).lt
          have p0 := (hbX.cell (p := ⟨b, off + k * 3, none⟩) HCELL.out.2.2.2).trans HCELL.out.1
          have p1 := (hbX.cell (p := ⟨b, off + k * 3 + 1, none⟩) HCELL.out.2.2.2).trans HCELL.out.2.1
          have p2 := (hbX.cell (p := ⟨b, off + k * 3 + 2, none⟩) HCELL.out.2.2.2).trans HCELL.out.2.2.1
          have hbB := Nat.lt_of_lt_of_le HCELL.out.2.2.2 hbX.size
          have HBX := Lib.hid hbX
          clear hbX
          clear hcm
          go_wp2_with fail
          go_quiet (fail)
          have hdq := below_drewN wr1 nq
          replace HACC := Lib.hid (HACC.out.later hdq)
          clear x0 x1 z0 z1 z2 z3 p0 p1 p2 hbB
          clear hdq
          generalize World.drewN wr1 nq = wB at *
          have hbX := HACC.out.below HBF.out (by omega)
          have x0 := (HACC.out.loc1 HD0.out (by omega)).c0
          have x1 := (HACC.out.loc1 HD0.out (by omega)).lt
          have z0 := (HACC.out.loc3 HD1.out (by omega)).c0
          have z1 := (HACC.out.loc3 HD1.out (by omega)).c1
          have z2 := (HACC.out.loc3 HD1.out (by omega)).c2
          have z3 := (HACC.out.loc3 HD1.out (by omega)).lt
          have p0 := (hbX.cell (p := ⟨b, off + k * 3, none⟩) HCELL.out.2.2.2).trans HCELL.out.1
          have p1 := (hbX.cell (p := ⟨b, off + k * 3 + 1, none⟩) HCELL.out.2.2.2).trans HCELL.out.2.1
          have p2 := (hbX.cell (p := ⟨b, off + k * 3 + 2, none⟩) HCELL.out.2.2.2).trans HCELL.out.2.2.1
          have hbB := Nat.lt_of_lt_of_le HCELL.out.2.2.2 hbX.size
          have HBX := Lib.hid hbX
          clear hbX
          clear he2
          go_wp2_with fail
          refine (HCU.out _ HBX.out).mono ?_
          rintro e w2u ⟨a2u, c2u, f2u, rfl, ho2, hn2, hb2⟩
          have h2 := HACC.out.later hb2
          have d2 := h2.cell
          have dl := World.block_lt_of_cell? _ _ d2
          have hl := HACC.out.laid hb2 ho2 hn2 29
          have H3 := Lib.hid hl.1
          have HLD := Lib.hid hl.2
          clear ho2 hn2 hb2 h2 hl HACC
          go_wp2_with (at_builtin; refine Cd.wpList_appendN (c := tabC) rfl (.tmp 67) (.tmp 69) 24 rfl WF.heap.size 29 (.agg #[.string ⟨#[]⟩, .int .i64 0, .slice none 0 0]) 3 48 rfl Tryz.underlying24 info_x rfl (by decide) _ cur fp rfl H3.out.ow H3.out.nd (w2u.heap.size + 1) _ rfl HLD.out.at_ U f2u HLD.out.ow HLD.out.nd HLD.out.far (by have := HLL.out; omega) H3.out.sz ?_)
          intro gu cap4u w4u fp4u ho4 hn4 _ ht4
          have HACC := Lib.hid (H3.out.app (cur' := cur ++ [U]) (n := cur.length + 1) (by simp) ht4 ho4 hn4)
          obtain ⟨e2, g2⟩ := H3.out.fcell ht4
          clear ho4 hn4 ht4 H3 HLD d2 dl
          clear x0 x1 z0 z1 z2 z3 p0 p1 p2 hbB
          clear HBX
          go_wp2_with fail
          go_roundw
          case rel => exact ⟨k + 1, some ⟨gu, 0, none⟩, cap4u, fp4u, by omega, by rw [HTK.out, HF.out.1], by go_num, HACC.out.shift (by rw [HTK.out]; exact (by rw [HF.out.2, HCUR.out]))⟩
          case measure => simp [intOf]; omega
      · have HF := Lib.hid (curP_past (U := U) hput)
        have he2 : (U.1.toList == T.1.toList) = false := by rw [eqB]; exact decide_eq_false (HPN.out hput)
        clear hput
        go_wp2_with fail
        go_quiet (fail)
        have hdq := below_drewN wr nq
        replace HACC := Lib.hid (HACC.out.later hdq)
        clear x0 x1 z0 z1 z2 z3 p0 p1 p2 hbB
        clear hdq
        generalize World.drewN wr nq = wr1 at *
        have hbX := HACC.out.below HBF.out (by omega)
        have x0 := (HACC.out.loc1 HD0.out (by omega)).c0
        have x1 := (HACC.out.loc1 HD0.out (by omega)).lt
        have z0 := (HACC.out.loc3 HD1.out (by omega)).c0
        have z1 := (HACC.out.loc3 HD1.out (by omega)).c1
        have z2 := (HACC.out.loc3 HD1.out (by omega)).c2
        have z3 := (HACC.out.loc3 HD1.out (by omega)).lt
        have p0 := (hbX.cell (p := ⟨b, off + k * 3, none⟩) HCELL.out.2.2.2).trans HCELL.out.1
        have p1 := (hbX.cell (p := ⟨b, off + k * 3 + 1, none⟩) HCELL.out.2.2.2).trans HCELL.out.2.1
        have p2 := (hbX.cell (p := ⟨b, off + k * 3 + 2, none⟩) HCELL.out.2.2.2).trans HCELL.out.2.2.1
        have hbB := Nat.lt_of_lt_of_le HCELL.out.2.2.2 hbX.size
        have HBX := Lib.hid hbX
        clear hbX
        go_wp2_with fail
        go_quiet (fail)
        have hdq := below_drewN wr1 nq
        replace HACC := Lib.hid (HACC.out.later hdq)
        clear x0 x1 z0 z1 z2 z3 p0 p1 p2 hbB
        clear hdq
        generalize World.drewN wr1 nq = wB at *
        have hbX := HACC.out.below HBF.out (by omega)
        have x0 := (HACC.out.loc1 HD0.out (by omega)).c0
        have x1 := (HACC.out.loc1 HD0.out (by omega)).lt
        have z0 := (HACC.out.loc3 HD1.out (by omega)).c0
        have z1 := (HACC.out.loc3 HD1.out (by omega)).c1
        have z2 := (HACC.out.loc3 HD1.out (by omega)).c2
        have z3 := (HACC.out.loc3 HD1.out (by omega)).lt
        have p0 := (hbX.cell (p := ⟨b, off + k * 3, none⟩) HCELL.out.2.2.2).trans HCELL.out.1
        have p1 := (hbX.cell (p := ⟨b, off + k * 3 + 1, none⟩) HCELL.out.2.2.2).trans HCELL.out.2.1
        have p2 := (hbX.cell (p := ⟨b, off + k * 3 + 2, none⟩) HCELL.out.2.2.2).trans HCELL.out.2.2.1
        have hbB := Nat.lt_of_lt_of_le HCELL.out.2.2.2 hbX.size
        have HBX := Lib.hid hbX
        clear hbX
        clear he2
        go_wp2_with fail
        refine (HCU.out _ HBX.out).mono ?_
        rintro e w2u ⟨a2u, c2u, f2u, rfl, ho2, hn2, hb2⟩
        have h2 := HACC.out.later hb2
        have d2 := h2.cell
        have dl := World.block_lt_of_cell? _ _ d2
        have hl := HACC.out.laid hb2 ho2 hn2 29
        have H3 := Lib.hid hl.1
        have HLD := Lib.hid hl.2
        clear ho2 hn2 hb2 h2 hl HACC
        go_wp2_with (at_builtin; refine Cd.wpList_appendN (c := tabC) rfl (.tmp 67) (.tmp 69) 24 rfl WF.heap.size 29 (.agg #[.string ⟨#[]⟩, .int .i64 0, .slice none 0 0]) 3 48 rfl Tryz.underlying24 info_x rfl (by decide) _ cur fp rfl H3.out.ow H3.out.nd (w2u.heap.size + 1) _ rfl HLD.out.at_ U f2u HLD.out.ow HLD.out.nd HLD.out.far (by have := HLL.out; omega) H3.out.sz ?_)
        intro gu cap4u w4u fp4u ho4 hn4 _ ht4
        have HACC := Lib.hid (H3.out.app (cur' := cur ++ [U]) (n := cur.length + 1) (by simp) ht4 ho4 hn4)
        obtain ⟨e2, g2⟩ := H3.out.fcell ht4
        clear ho4 hn4 ht4 H3 HLD d2 dl
        clear x0 x1 z0 z1 z2 z3 p0 p1 p2 hbB
        clear HBX
        go_wp2_with fail
        go_roundw
        case rel => exact ⟨k + 1, some ⟨gu, 0, none⟩, cap4u, fp4u, by omega, by rw [HTK.out, HF.out.1], by go_num, HACC.out.shift (by rw [HTK.out]; exact (by rw [HF.out.2, HCUR.out]))⟩
        case measure => simp [intOf]; omega
    · have ek : k = l.length := by omega
      subst ek
      rw [List.take_length] at HACC
      have i3 : l.length ≤ 6 := HP.out.1
      obtain ⟨cur, hcur⟩ : ∃ cur, curP T l = cur := ⟨_, rfl⟩
      rw [hcur] at HACC
      rw [List.take_length]
      cases hput : putB T l
      · have HCUR := Lib.hid (show l = cur from (curP_no hput).symm.trans hcur)
        have HPN := Lib.hid (putL_none hput)
        have HLL := Lib.hid (show cur.length + 1 ≤ 1000000000 by rw [← HCUR.out]; omega)
        have HBX := Lib.hid HBW.out
        clear hput hcur
        go_wp2_with fail
        refine (HCT.out _ HBX.out).mono ?_
        rintro e w2t ⟨a2t, c2t, f2t, rfl, ho2, hn2, hb2⟩
        have h2 := HACC.out.later hb2
        have d2 := h2.cell
        have dl := World.block_lt_of_cell? _ _ d2
        have hl := HACC.out.laid hb2 ho2 hn2 29
        have H3 := Lib.hid hl.1
        have HLD := Lib.hid hl.2
        clear ho2 hn2 hb2 h2 hl HACC
        go_wp2_with (at_builtin; refine Cd.wpList_appendN (c := tabC) rfl (.tmp 77) (.tmp 79) 24 rfl WF.heap.size 29 (.agg #[.string ⟨#[]⟩, .int .i64 0, .slice none 0 0]) 3 48 rfl Tryz.underlying24 info_x rfl (by decide) _ cur fp rfl H3.out.ow H3.out.nd (w2t.heap.size + 1) _ rfl HLD.out.at_ T f2t HLD.out.ow HLD.out.nd HLD.out.far HLL.out H3.out.sz ?_)
        intro gt cap4t w4t fp4t ho4 hn4 _ ht4
        have HACC := Lib.hid (H3.out.app (cur' := cur ++ [T]) (n := cur.length + 1) (by simp) ht4 ho4 hn4)
        obtain ⟨e2, g2⟩ := H3.out.fcell ht4
        clear ho4 hn4 ht4 H3 HLD d2 dl
        clear x0 x1 z0 z1 z2 z3 HBX
        go_upto_region 18 with fail
        generalize World.setCell w4t _ _ = wA at *
        obtain ⟨cur1, hcur⟩ : ∃ q, cur ++ [T] = q := ⟨_, rfl⟩
        rw [hcur] at HACC
        have HCcur1 := Lib.hid hcur
        clear hcur e2 g2
        have HCL := Lib.hid (show cur1 = putL T l by rw [HPN.out, ← HCcur1.out, ← HCUR.out])
        have hbX := HACC.out.below HBF.out (by omega)
        have HBX := Lib.hid hbX
        have x0 := (HACC.out.loc1 HD0.out (by omega)).c0
        have x6 := HACC.out.cell
        have HVX := Lib.hid (spec_dbok _ cur1 _ _ (tabsC.ow_rd HACC.out.ow))
        clear hbX
        go_wp2_with fail
        refine HVX.out.mono ?_
        rintro e wv ⟨rfl, hbv⟩
        replace HACC := Lib.hid (HACC.out.later hbv)
        have HBV := Lib.hid (below_then HBX.out hbv)
        clear hbv x0 x6
        have x0 := (HACC.out.loc1 HD0.out (by omega)).c0
        have x6 := HACC.out.cell
        have hy := HACC.out.loc1 HD2.out (by omega)
        have y0 := hy.c0
        have y1 := hy.f0
        have HY := Lib.hid hy
        clear hy
        cases hvx : dbOk cur1
        · have HNO := Lib.hid (show setOk l T = false by unfold setOk; rw [HVV.out, HTV.out]; have := dbOk_putL HVV.out HTV.out; rw [← HCL.out, hvx] at this; rw [← HCL.out, ← this]; rfl)
          clear y0 y1 hvx
          go_wp2_with fail
          refine (HDC.out _ HBV.out).mono ?_
          rintro e w9 ⟨u9, f9, rfl, ho9, hn9, hb9⟩
          obtain ⟨a9, c9, rfl⟩ := Cd.ow_slice (c := tabC) ho9
          have HC9 := Lib.hid (HY.out.later hb9)
          have y0 := HC9.out.c0
          have y1 := HC9.out.f0
          have HA := Lib.hid (DbAns.copy (b := setOk l T) (l' := setL l T) (Y := w.heap.size + 2) ho9 hn9 HBV.out hb9 (by omega) (World.block_lt_of_cell? _ _ HY.out.c0) (by unfold setL; rw [HNO.out]; rfl) HNO.out)
          clear ho9 hn9 hb9
          go_wp2_with fail
          have k0 : (w9.setCell ⟨w.heap.size + 2, 0, none⟩ (.slice a9 l.length c9)).cell? ⟨w.heap.size + 2, 0, none⟩ = some (.slice a9 l.length c9) := World.cell?_setCell_same _ _ _ y0
          refine bodyPost_ret (v := .tuple #[.agg #[.slice a9 l.length c9], .bool false]) (by simp [results, Tryz.results7, go_sem, k0]) rfl ?_
          exact HA.out
        · have HYES := Lib.hid (show setOk l T = true by unfold setOk; rw [HVV.out, HTV.out]; have := dbOk_putL HVV.out HTV.out; rw [← HCL.out, hvx] at this; rw [← HCL.out, ← this]; rfl)
          clear hvx
          go_wp2_with fail
          have k0 : (wv.setCell ⟨w.heap.size + 2, 0, none⟩ (.slice (some ⟨gt, 0, none⟩) cur1.length cap4t)).cell? ⟨w.heap.size + 2, 0, none⟩ = some (.slice (some ⟨gt, 0, none⟩) cur1.length cap4t) := World.cell?_setCell_same _ _ _ HY.out.c0
          refine bodyPost_ret (v := .tuple #[.agg #[.slice (some ⟨gt, 0, none⟩) cur1.length cap4t], .bool true]) (by simp [results, Tryz.results7, go_sem, k0]) rfl ?_
          exact HACC.out.ans (Y := w.heap.size + 2) HBF.out (by omega) (by omega) HD2.out.lt (by unfold setL; rw [HYES.out, HCL.out]; rfl) HYES.out
      · have HCL := Lib.hid (show cur = putL T l from hcur.symm.trans (curP_all hput))
        clear hput hcur
        go_upto_region 18 with fail
        clear x0 x1 z0 z1 z2 z3
        have hbX := HACC.out.below HBF.out (by omega)
        have HBX := Lib.hid hbX
        have x0 := (HACC.out.loc1 HD0.out (by omega)).c0
        have x6 := HACC.out.cell
        have HVX := Lib.hid (spec_dbok _ cur _ _ (tabsC.ow_rd HACC.out.ow))
        clear hbX
        go_wp2_with fail
        refine HVX.out.mono ?_
        rintro e wv ⟨rfl, hbv⟩
        replace HACC := Lib.hid (HACC.out.later hbv)
        have HBV := Lib.hid (below_then HBX.out hbv)
        clear hbv x0 x6
        have x0 := (HACC.out.loc1 HD0.out (by omega)).c0
        have x6 := HACC.out.cell
        have hy := HACC.out.loc1 HD2.out (by omega)
        have y0 := hy.c0
        have y1 := hy.f0
        have HY := Lib.hid hy
        clear hy
        cases hvx : dbOk cur
        · have HNO := Lib.hid (show setOk l T = false by unfold setOk; rw [HVV.out, HTV.out]; have := dbOk_putL HVV.out HTV.out; rw [← HCL.out, hvx] at this; rw [← HCL.out, ← this]; rfl)
          clear y0 y1 hvx
          go_wp2_with fail
          refine (HDC.out _ HBV.out).mono ?_
          rintro e w9 ⟨u9, f9, rfl, ho9, hn9, hb9⟩
          obtain ⟨a9, c9, rfl⟩ := Cd.ow_slice (c := tabC) ho9
          have HC9 := Lib.hid (HY.out.later hb9)
          have y0 := HC9.out.c0
          have y1 := HC9.out.f0
          have HA := Lib.hid (DbAns.copy (b := setOk l T) (l' := setL l T) (Y := w.heap.size + 2) ho9 hn9 HBV.out hb9 (by omega) (World.block_lt_of_cell? _ _ HY.out.c0) (by unfold setL; rw [HNO.out]; rfl) HNO.out)
          clear ho9 hn9 hb9
          go_wp2_with fail
          have k0 : (w9.setCell ⟨w.heap.size + 2, 0, none⟩ (.slice a9 l.length c9)).cell? ⟨w.heap.size + 2, 0, none⟩ = some (.slice a9 l.length c9) := World.cell?_setCell_same _ _ _ y0
          refine bodyPost_ret (v := .tuple #[.agg #[.slice a9 l.length c9], .bool false]) (by simp [results, Tryz.results7, go_sem, k0]) rfl ?_
          exact HA.out
        · have HYES := Lib.hid (show setOk l T = true by unfold setOk; rw [HVV.out, HTV.out]; have := dbOk_putL HVV.out HTV.out; rw [← HCL.out, hvx] at this; rw [← HCL.out, ← this]; rfl)
          clear hvx
          go_wp2_with fail
          have k0 : (wv.setCell ⟨w.heap.size + 2, 0, none⟩ (.slice a cur.length c)).cell? ⟨w.heap.size + 2, 0, none⟩ = some (.slice a cur.length c) := World.cell?_setCell_same _ _ _ HY.out.c0
          refine bodyPost_ret (v := .tuple #[.agg #[.slice a cur.length c], .bool true]) (by simp [results, Tryz.results7, go_sem, k0]) rfl ?_
          exact HACC.out.ans (Y := w.heap.size + 2) HBF.out (by omega) (by omega) HD2.out.lt (by unfold setL; rw [HYES.out, HCL.out]; rfl) HYES.out
end Go.Proofs.YteihnbnlfocgmaaGreatDoor.DbAcc
