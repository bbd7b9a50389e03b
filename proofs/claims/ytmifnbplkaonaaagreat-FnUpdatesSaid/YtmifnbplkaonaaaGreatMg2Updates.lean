/- Texts that the proof rests on, one behind the other. -/
import Derived.Test.YtmifnbplkaonaaaGreatMg1Updates
import Derived.Sort.Row
import Derived.Test.YtmifnbplkaonaaaGreatTabNew
import Derived.Test.YtmifnbplkaonaaaGreatDbMath
import Derived.Test.YtmifnbplkaonaaaGreatTabIns
import Derived.Test.YtmifnbplkaonaaaGreatTabDel
import Derived.Test.YtmifnbplkaonaaaGreatUpd
import Derived.Test.YtmifnbplkaonaaaGreatSlTable
import Derived.Shelf.Strings.FieldsAny
import Derived.Lib.IndexMore
import Derived.Test.YtmifnbplkaonaaaGreatDbDraw4
import Derived.Deep.RegionHeld3
import Derived.Test.YtmifnbplkaonaaaGreatUpdDraw2
import Derived.Test.YtmifnbplkaonaaaGreatDbAcc
import Derived.Deep.QuietTactic
import Derived.BigQuiet

namespace Go.Proofs.YtmifnbplkaonaaaGreat.Cd
open Go Go.RowKit Byt Ints
namespace Cd
variable {α β : Type}

/-- What owns a slice at block g, its cells laid bare. -/
theorem ow_bare {e : TypeId} {c : Cd α} (hn : c.n = 1) {w : World} {base g n cap : Nat} {l : List α} {fp : List Nat} (h : (sl e c).ow w base [.slice (some ⟨g, 0, none⟩) n cap] l fp) :
    ∃ (cur : Array Value) (xss : List (List Value)) (fps : List (List Nat)), w.heap[g]? = some (.cells cur e (0, 0)) ∧ cur.size = cap ∧ n = l.length ∧ n ≤ cap ∧ cap ≤ maxLen ∧ base ≤ g ∧ cur.toList.take n = xss.flatten ∧ Each c w base xss l fps ∧ fp = g :: fps.flatten := by
  obtain ⟨v', xss, fps, e1, hown, hE, rfl⟩ := h
  injection e1 with e1 _
  subst e1
  rcases hown.2 with ⟨e1, _⟩ | ⟨g', cap', cur, e1, hb, hg, hnc, hcm, hcs, ht⟩
  · cases e1
  · simp only [Value.slice.injEq, Option.some.injEq, Addr.mk.injEq, and_true] at e1
    obtain ⟨rfl, rfl, rfl⟩ := e1
    rw [hn, Nat.mul_one] at hcs ht
    exact ⟨cur, xss, fps, hg, hcs, rfl, hnc, hcm, hb, ht, hE, rfl⟩
theorem ow_bared {e : TypeId} {c : Cd α} (hn : c.n = 1) {w : World} {base g n cap : Nat} {l : List α} {cur : Array Value} {xss : List (List Value)} {fps : List (List Nat)}
    (hg : w.heap[g]? = some (.cells cur e (0, 0))) (hcs : cur.size = cap) (hnl : n = l.length) (hnc : n ≤ cap) (hcm : cap ≤ maxLen) (hb : base ≤ g) (ht : cur.toList.take n = xss.flatten) (hE : Each c w base xss l fps) :
    (sl e c).ow w base [.slice (some ⟨g, 0, none⟩) n cap] l (g :: fps.flatten) := by
  subst hnl
  refine ⟨_, xss, fps, rfl, ⟨hE.flatten_len, .inr ⟨g, cap, cur, rfl, hb, hg, hnc, hcm, by rw [hn, Nat.mul_one]; exact hcs, by rw [hn, Nat.mul_one]; exact ht⟩⟩, hE, rfl⟩
theorem Each.one {c : Cd α} {w : World} {base : Nat} : ∀ {xss : List (List Value)} {l : List α} {fps : List (List Nat)}, Each c w base xss l fps → ∀ u ∈ xss.flatten, u.oneCell' = true
  | [], [], [], _, u, hu => by simp at hu
  | x :: xs, _ :: az, _ :: fs, h, u, hu => by
    rw [List.flatten_cons] at hu
    rcases List.mem_append.1 hu with q | q
    · exact c.one (c.ow_rd h.1) u q
    · exact Each.one (xss := xs) (l := az) (fps := fs) h.2 u q
theorem Each.erase {c : Cd α} {w : World} {base : Nat} : ∀ {xss : List (List Value)} {l : List α} {fps : List (List Nat)}, Each c w base xss l fps → ∀ i, Each c w base (xss.eraseIdx i) (l.eraseIdx i) (fps.eraseIdx i)
  | [], [], [], _, i => by cases i <;> exact trivial
  | _ :: xs, _ :: az, _ :: fs, h, 0 => h.2
  | _ :: xs, _ :: az, _ :: fs, h, i + 1 => ⟨h.1, Each.erase (xss := xs) (l := az) (fps := fs) h.2 i⟩
theorem flatten_erase_one {c : Cd α} (hn : c.n = 1) {w : World} {base : Nat} : ∀ {xss : List (List Value)} {l : List α} {fps : List (List Nat)}, Each c w base xss l fps → ∀ i, (xss.eraseIdx i).flatten = xss.flatten.eraseIdx i
  | [], [], [], _, i => by simp
  | x :: xs, a :: az, f :: fs, h, 0 => by
    have hl := (c.len (c.ow_rd h.1)).trans hn
    match x, hl with
    | [y], _ => rfl
  | x :: xs, a :: az, f :: fs, h, i + 1 => by
    have hl := (c.len (c.ow_rd h.1)).trans hn
    have := flatten_erase_one hn (xss := xs) (l := az) (fps := fs) h.2 i
    match x, hl with
    | [y], _ =>
      show [y] ++ (xs.eraseIdx i).flatten = ([y] ++ xs.flatten).eraseIdx (i + 1)
      rw [this]
      rfl
/-- One element in, at place i. -/
def ins {α : Type} (l : List α) (i : Nat) (x : α) : List α := l.take i ++ x :: l.drop i
theorem Each.ins {c : Cd α} {w : World} {base : Nat} {x : List Value} {a : α} {f : List Nat} : ∀ {xss : List (List Value)} {l : List α} {fps : List (List Nat)}, Each c w base xss l fps → c.ow w base x a f → ∀ i, Each c w base (ins xss i x) (ins l i a) (ins fps i f)
  | [], [], [], _, k, i => by cases i <;> exact ⟨k, trivial⟩
  | _ :: xs, _ :: az, _ :: fs, h, k, 0 => ⟨k, h⟩
  | _ :: xs, _ :: az, _ :: fs, h, k, i + 1 => ⟨h.1, Each.ins (xss := xs) (l := az) (fps := fs) h.2 k i⟩
theorem flatten_ins_one {c : Cd α} (hn : c.n = 1) {w : World} {base : Nat} {u : Value} : ∀ {xss : List (List Value)} {l : List α} {fps : List (List Nat)}, Each c w base xss l fps → ∀ i, (ins xss i [u]).flatten = ins xss.flatten i u
  | [], [], [], _, i => by cases i <;> rfl
  | x :: xs, a :: az, f :: fs, h, 0 => rfl
  | x :: xs, a :: az, f :: fs, h, i + 1 => by
    have hl := (c.len (c.ow_rd h.1)).trans hn
    have := flatten_ins_one hn (u := u) (xss := xs) (l := az) (fps := fs) h.2 i
    match x, hl with
    | [y], _ =>
      show [y] ++ (ins xs i [u]).flatten = [y] ++ (ins xs.flatten i u)
      rw [this]
theorem ins_length {α : Type} (l : List α) (i : Nat) (x : α) : (ins l i x).length = l.length + 1 := by
  unfold ins
  rw [List.length_append, List.length_cons, List.length_take, List.length_drop]
  omega
theorem mem_ins {fps : List (List Nat)} {f : List Nat} {i b : Nat} (h : b ∈ (ins fps i f).flatten) : b ∈ fps.flatten ∨ b ∈ f := by
  obtain ⟨g, hg, hb⟩ := List.mem_flatten.1 h
  rcases List.mem_append.1 hg with q | q
  · exact .inl (List.mem_flatten.2 ⟨g, List.mem_of_mem_take q, hb⟩)
  · rcases List.mem_cons.1 q with rfl | q
    · exact .inr hb
    · exact .inl (List.mem_flatten.2 ⟨g, List.mem_of_mem_drop q, hb⟩)
theorem nodup_ins : ∀ {fps : List (List Nat)} {f : List Nat}, fps.flatten.Nodup → f.Nodup → (∀ b ∈ f, b ∉ fps.flatten) → ∀ i, (ins fps i f).flatten.Nodup
  | [], f, _, hf, _, i => by cases i <;> simpa [ins] using hf
  | f0 :: fps, f, h, hf, hd, 0 => by
    show (f :: f0 :: fps).flatten.Nodup
    rw [List.flatten_cons, List.nodup_append]
    exact ⟨hf, h, fun a ha b hb q => hd a ha (q ▸ hb)⟩
  | f0 :: fps, f, h, hf, hd, i + 1 => by
    rw [List.flatten_cons, List.nodup_append] at h
    show (f0 :: ins fps i f).flatten.Nodup
    rw [List.flatten_cons, List.nodup_append]
    refine ⟨h.1, nodup_ins h.2.1 hf (fun b hb q => hd b hb (by rw [List.flatten_cons]; exact List.mem_append_right _ q)) i, fun a ha b hb q => ?_⟩
    subst q
    rcases mem_ins hb with q | q
    · exact h.2.2 a ha a q rfl
    · exact hd a q (by rw [List.flatten_cons]; exact List.mem_append_left _ ha)

/-! Rows of the library's contracts ('putRow'). -/
section
variable {γ : Type} [Inhabited γ]
theorem heap_putRow (enc : γ → Value) (w : World) (g : Nat) (d : Array γ) {c : Array Value} {e : TypeId} {fr : Nat × Nat} (h : w.heap[g]? = some (.cells c e fr)) : (Sort.putRow enc w g 0 d).heap[g]? = some (.cells (Sort.putCells enc 0 d c) e fr) := by
  simp [Sort.putRow, Sort.mapBlock, Array.getElem?_modify, h, Sort.onCells]
theorem heap_putRow_other (enc : γ → Value) (w : World) (g : Nat) (d : Array γ) {k : Nat} (h : k ≠ g) : (Sort.putRow enc w g 0 d).heap[k]? = w.heap[k]? := by
  simp [Sort.putRow, Sort.mapBlock, Array.getElem?_modify, Ne.symm h]
theorem putCells_size (enc : γ → Value) (d : Array γ) (c : Array Value) : (Sort.putCells enc 0 d c).size = c.size := by simp [Sort.putCells]
theorem putCells_take (enc : γ → Value) (d : Array γ) (c : Array Value) {m : Nat} (hm : m ≤ d.size) (hd : d.size ≤ c.size) : (Sort.putCells enc 0 d c).toList.take m = (d.toList.map enc).take m := by
  apply List.ext_getElem?
  intro k
  rw [List.getElem?_take, List.getElem?_take]
  by_cases hk : k < m
  · rw [if_pos hk, if_pos hk, Array.getElem?_toList, List.getElem?_map, Array.getElem?_toList]
    have h1 : k < c.size := by omega
    have h2 : k < d.size := by omega
    simp only [Sort.putCells, Array.getElem?_mapIdx]
    rw [Array.getElem?_eq_getElem h1, Array.getElem?_eq_getElem h2, Option.map_some, Option.map_some, if_pos ⟨Nat.zero_le _, by omega⟩, Nat.sub_zero, getElem!_pos d k h2]
  · rw [if_neg hk, if_neg hk]
theorem touch_putRow (enc : γ → Value) (w : World) (g : Nat) (d : Array γ) : Touch [g] w (Sort.putRow enc w g 0 d) :=
  ⟨rfl, rfl, rfl, by rw [Sort.size_putRow]; exact Nat.le_refl _, fun k _ hn => heap_putRow_other enc w g d fun q => hn (by rw [q]; exact List.mem_singleton.2 rfl)⟩
end
theorem touch_ahead (fp : List Nat) (w : World) (n : Nat) : Touch fp w (Sort.ahead w n) := ⟨rfl, rfl, rfl, Nat.le_refl _, fun _ _ _ => rfl⟩

/-- A value of one cell. -/
structure One where
  v : Value
  one : v.oneCell' = true
instance : Inhabited One := ⟨⟨.slice none 0 0, rfl⟩⟩
def ones (us : List Value) (h : ∀ u ∈ us, u.oneCell' = true) : List One := us.attach.map fun x => ⟨x.1, h x.1 x.2⟩
theorem ones_val (us : List Value) (h : ∀ u ∈ us, u.oneCell' = true) : (ones us h).map One.v = us := by
  unfold ones
  rw [List.map_map]
  exact List.attach_map_subtype_val us
theorem ones_length (us : List Value) (h : ∀ u ∈ us, u.oneCell' = true) : (ones us h).length = us.length := by simp [ones]
theorem holds_ones {w : World} {g n : Nat} {cur : Array Value} {e : TypeId} {us : List Value} (h : ∀ u ∈ us, u.oneCell' = true) (hg : w.heap[g]? = some (.cells cur e (0, 0))) (ht : cur.toList.take n = us) :
    Sort.Holds (α := One) One.v w g 0 (ones us h).toArray := by
  intro j hj
  have hj' : j < us.length := by rw [← ones_length us h]; simpa using hj
  have hv : (ones us h)[j]?.map One.v = us[j]? := by
    rw [← List.getElem?_map, ones_val]
  have hj2 : j < (ones us h).length := by rw [ones_length]; exact hj'
  refine ⟨?_, by simp [World.frozen?, hg]⟩
  have e1 : ((ones us h).toArray[j]!) = (ones us h)[j] := by
    rw [getElem!_pos _ j hj]
    simp
  rw [e1]
  rw [List.getElem?_eq_getElem hj2, List.getElem?_eq_getElem hj', Option.map_some] at hv
  injection hv with hv
  rw [hv]
  have hjn : j < n := by
    have := congrArg List.length ht
    rw [List.length_take] at this
    omega
  have hc : cur[j]? = some us[j] := by
    have : (cur.toList.take n)[j]? = us[j]? := by rw [ht]
    rw [List.getElem?_take, if_pos hjn, Array.getElem?_toList, List.getElem?_eq_getElem hj'] at this
    exact this
  simp [World.cell?, hg, hc]
end Cd
end Go.Proofs.YtmifnbplkaonaaaGreat.Cd

namespace Go.Proofs.YtmifnbplkaonaaaGreat.TabImp
open Go Go.RowKit Byt Ints IntsLaw Cd Rows2 Tab TabSpec Exact

theorem put_before (row : List Int) : ∀ (l o : List (List Int)), (∀ r ∈ l, cmpR r row < 0) → l.foldl (putStep row) (o, false) = (o ++ l, false)
  | [], o, _ => by simp
  | r :: rs, o, h => by
    have h1 := h r List.mem_cons_self
    have e : putStep row (o, false) r = (o ++ [r], false) := by
      unfold putStep
      rw [if_neg (by omega), if_neg (by omega)]
    rw [List.foldl_cons, e, put_before row rs _ (fun x hx => h x (List.mem_cons_of_mem _ hx)), List.append_assoc]
    rfl
theorem put_behind (row : List Int) : ∀ (l o : List (List Int)), (∀ r ∈ l, 0 < cmpR r row) → l.foldl (putStep row) (o, true) = (o ++ l, true)
  | [], o, _ => by simp
  | r :: rs, o, h => by
    have h1 := h r List.mem_cons_self
    have e : putStep row (o, true) r = (o ++ [r], true) := by
      unfold putStep
      rw [if_neg (by omega), if_neg (by simp)]
    rw [List.foldl_cons, e, put_behind row rs _ (fun x hx => h x (List.mem_cons_of_mem _ hx)), List.append_assoc]
    rfl
theorem find_split {rows : List (List Int)} {row : List Int} {i : Nat} (ha : Asc rows) (h : FindP rows row i) :
    (∀ r ∈ rows.take i, cmpR r row < 0) ∧ (∀ hi : i < rows.length, 0 ≤ cmpR rows[i] row ∧ ∀ r ∈ rows.drop (i + 1), 0 < cmpR r row) := by
  refine ⟨fun r hr => ?_, fun hi => ⟨h.2.2 i hi (Nat.le_refl _), fun r hr => ?_⟩⟩
  · obtain ⟨t, ht, rfl⟩ := List.getElem_of_mem hr
    rw [List.length_take] at ht
    rw [List.getElem_take]
    exact h.2.1 t (by omega) (by omega)
  · obtain ⟨t, ht, rfl⟩ := List.getElem_of_mem hr
    rw [List.length_drop] at ht
    rw [List.getElem_drop]
    have h1 := asc_lt ha (show i < i + 1 + t by omega) (show i + 1 + t < rows.length by omega)
    have h2 := h.2.2 i hi (Nat.le_refl _)
    have h3 := h.2.2 (i + 1 + t) (by omega) (by omega)
    by_cases e : cmpR rows[i + 1 + t] row = 0
    · rw [cmpR_eq e] at h1
      omega
    · omega
theorem putR_split {rows : List (List Int)} {row : List Int} {i : Nat} (ha : Asc rows) (h : FindP rows row i) : putR rows row = if row ∈ rows then rows else Cd.ins rows i row := by
  obtain ⟨h1, h2⟩ := find_split ha h
  by_cases hi : i < rows.length
  · obtain ⟨h3, h4⟩ := h2 hi
    have e : rows = rows.take i ++ rows[i] :: rows.drop (i + 1) := by rw [← drop_at hi, List.take_append_drop]
    have hm := find_mem ha h
    have hf : putF rows row = ((rows.take i ++ (if cmpR rows[i] row = 0 then [rows[i]] else [row, rows[i]])) ++ rows.drop (i + 1), true) := by
      conv => lhs; rw [putF, e]
      rw [List.foldl_append, put_before row _ _ h1, List.foldl_cons]
      have e2 : putStep row ([] ++ rows.take i, false) rows[i] = (rows.take i ++ (if cmpR rows[i] row = 0 then [rows[i]] else [row, rows[i]]), true) := by
        unfold putStep
        by_cases hz : cmpR rows[i] row = 0
        · rw [if_pos hz, if_pos hz]; rfl
        · rw [if_neg hz, if_neg hz, if_pos ⟨by omega, rfl⟩]
          simp
      rw [e2, put_behind row _ _ h4]
    rw [putR, hf, if_pos rfl]
    by_cases hz : cmpR rows[i] row = 0
    · rw [if_pos hz, if_pos (hm.2 ⟨hi, cmpR_eq hz⟩), List.append_assoc]
      exact e.symm
    · rw [if_neg hz, if_neg (fun q => by
        obtain ⟨_, q⟩ := hm.1 q
        exact hz (by rw [q]; exact cmpR_self _))]
      unfold Cd.ins
      rw [List.append_assoc, drop_at hi]
      rfl
  · have hil : i = rows.length := by have := h.1; omega
    subst hil
    rw [List.take_length] at h1
    have hm := find_mem ha h
    have hf : putF rows row = (rows, false) := by rw [putF, put_before row _ _ h1]; rfl
    rw [putR, hf, if_neg (by simp), if_neg (fun q => by obtain ⟨q, _⟩ := hm.1 q; omega)]
    unfold Cd.ins
    rw [List.take_length, List.drop_length]
/-- There is such a place. -/
theorem find_ex : ∀ {rows : List (List Int)} (row : List Int), Asc rows → ∃ i, FindP rows row i
  | [], _, _ => ⟨0, Nat.le_refl _, fun t h _ => by simp at h, fun t h _ => by simp at h⟩
  | r :: rs, row, ha => by
    by_cases h : cmpR r row < 0
    · obtain ⟨i, h1, h2, h3⟩ := find_ex (rows := rs) row (List.pairwise_cons.1 ha).2
      refine ⟨i + 1, by simpa using h1, fun t ht hti => ?_, fun t ht hti => ?_⟩
      · match t with
        | 0 => exact h
        | t + 1 => exact h2 t (by simpa using ht) (by omega)
      · match t with
        | 0 => omega
        | t + 1 => exact h3 t (by simpa using ht) (by omega)
    · refine ⟨0, Nat.zero_le _, fun t _ hti => by omega, fun t ht _ => ?_⟩
      match t with
      | 0 => show 0 ≤ cmpR r row; omega
      | t + 1 =>
        have h1 := (List.pairwise_cons.1 ha).1 ((rs)[t]'(by simpa using ht)) (List.getElem_mem _)
        show 0 ≤ cmpR (rs[t]'(by simpa using ht)) row
        have := cmpR_anti r row
        exact Int.not_lt.1 fun q => h (cmpR_trans h1 q)
theorem asc_ins {rows : List (List Int)} {row : List Int} {i : Nat} (ha : Asc rows) (h : FindP rows row i) (hn : row ∉ rows) : Asc (Cd.ins rows i row) := by
  obtain ⟨h1, h2⟩ := find_split ha h
  have h3 : ∀ r ∈ rows.drop i, cmpR row r < 0 := by
    intro r hr
    by_cases hi : i < rows.length
    · obtain ⟨h4, h5⟩ := h2 hi
      rw [drop_at hi] at hr
      rcases List.mem_cons.1 hr with rfl | q
      · have := cmpR_anti row rows[i]
        have hz : cmpR rows[i] row ≠ 0 := fun q => hn (by rw [← cmpR_eq q]; exact List.getElem_mem hi)
        omega
      · have := cmpR_anti row r
        have := h5 r q
        omega
    · rw [List.drop_eq_nil_of_le (by omega)] at hr
      cases hr
  unfold Asc Cd.ins at *
  rw [List.pairwise_append, List.pairwise_cons]
  refine ⟨ha.sublist (List.take_sublist _ _), ⟨h3, ha.sublist (List.drop_sublist _ _)⟩, fun a hta b hb => ?_⟩
  rcases List.mem_cons.1 hb with rfl | q
  · exact h1 a hta
  · exact cmpR_trans (h1 a hta) (h3 b q)
theorem asc_put {rows : List (List Int)} {row : List Int} (ha : Asc rows) : Asc (putR rows row) := by
  obtain ⟨i, hf⟩ := find_ex row ha
  rw [putR_split ha hf]
  split
  · exact ha
  · rename_i hn
    exact asc_ins ha hf hn
theorem mem_ins {α : Type} {l : List α} {i : Nat} {x y : α} : y ∈ Cd.ins l i x ↔ y = x ∨ y ∈ l := by
  unfold Cd.ins
  rw [List.mem_append, List.mem_cons]
  constructor
  · rintro (q | rfl | q)
    · exact .inr (List.mem_of_mem_take q)
    · exact .inl rfl
    · exact .inr (List.mem_of_mem_drop q)
  · rintro (rfl | q)
    · exact .inr (.inl rfl)
    · rw [← List.take_append_drop i l, List.mem_append] at q
      rcases q with q | q
      · exact .inl q
      · exact .inr (.inr q)
theorem mem_put {rows : List (List Int)} {row r : List Int} (ha : Asc rows) : r ∈ putR rows row ↔ r = row ∨ r ∈ rows := by
  obtain ⟨i, hf⟩ := find_ex row ha
  rw [putR_split ha hf]
  split
  · rename_i hm
    exact ⟨.inr, fun q => by rcases q with rfl | q; exact hm; exact q⟩
  · exact mem_ins
/-- Sorted lists of the same members are one. -/
theorem asc_one : ∀ {a b : List (List Int)}, Asc a → Asc b → (∀ r, r ∈ a ↔ r ∈ b) → a = b
  | [], [], _, _, _ => rfl
  | [], y :: ys, _, _, h => by have := (h y).2 List.mem_cons_self; cases this
  | x :: xs, [], _, _, h => by have := (h x).1 List.mem_cons_self; cases this
  | x :: xs, y :: ys, ha, hb, h => by
    obtain ⟨ha1, ha2⟩ := List.pairwise_cons.1 ha
    obtain ⟨hb1, hb2⟩ := List.pairwise_cons.1 hb
    have hxy : x = y := by
      rcases List.mem_cons.1 ((h x).1 List.mem_cons_self) with q | q
      · exact q
      · rcases List.mem_cons.1 ((h y).2 List.mem_cons_self) with q2 | q2
        · exact q2.symm
        · have h1 := hb1 x q
          have h2 := ha1 y q2
          have := cmpR_anti x y
          omega
    subst hxy
    have hx : ∀ {l : List (List Int)}, (∀ r ∈ l, cmpR x r < 0) → x ∉ l := fun hl q => by
      have := hl x q
      rw [cmpR_self] at this
      omega
    rw [asc_one ha2 hb2 fun r => ?_]
    constructor
    · intro q
      rcases List.mem_cons.1 ((h r).1 (List.mem_cons_of_mem _ q)) with rfl | q2
      · exact absurd q (hx ha1)
      · exact q2
    · intro q
      rcases List.mem_cons.1 ((h r).2 (List.mem_cons_of_mem _ q)) with rfl | q2
      · exact absurd q (hx hb1)
      · exact q2
/-- The model's list of new rows. -/
theorem new_asc : ∀ (l : List (List Int)) {acc : List (List Int)}, Asc acc → Asc (newR acc l)
  | [], acc, h => h
  | r :: rs, acc, h => by
    rw [newR]
    split
    · exact new_asc rs (asc_put h)
    · exact h
theorem new_sub : ∀ (l : List (List Int)) {acc : List (List Int)}, Asc acc → ∀ r ∈ newR acc l, r ∈ acc ∨ r ∈ l
  | [], acc, _, r, hr => .inl hr
  | x :: xs, acc, h, r, hr => by
    rw [newR] at hr
    split at hr
    · rcases new_sub xs (asc_put h) r hr with q | q
      · rcases (mem_put h).1 q with rfl | q
        · exact .inr List.mem_cons_self
        · exact .inl q
      · exact .inr (List.mem_cons_of_mem _ q)
    · exact .inl hr
theorem new_all : ∀ (l : List (List Int)) {acc : List (List Int)}, Asc acc → (newR acc l).length ≤ 8 → ∀ r, (r ∈ acc ∨ r ∈ l) → r ∈ newR acc l
  | [], acc, _, _, r, hr => by
    rcases hr with q | q
    · exact q
    · cases q
  | x :: xs, acc, h, h8, r, hr => by
    rw [newR] at h8 ⊢
    split at h8
    · rename_i hc
      rw [if_pos hc]
      refine new_all xs (asc_put h) h8 r ?_
      rcases hr with q | q
      · exact .inl ((mem_put h).2 (.inr q))
      · rcases List.mem_cons.1 q with rfl | q
        · exact .inl ((mem_put h).2 (.inl rfl))
        · exact .inr q
    · rename_i hc
      exact absurd h8 hc
theorem len_le : ∀ {a c : List (List Int)}, a.Nodup → (∀ r ∈ a, r ∈ c) → a.length ≤ c.length
  | [], _, _, _ => Nat.zero_le _
  | x :: xs, c, hd, h => by
    obtain ⟨h1, h2⟩ := List.nodup_cons.1 hd
    have hx := h x List.mem_cons_self
    have := len_le (a := xs) (c := c.erase x) h2 fun r hr => (List.mem_erase_of_ne (fun (e : r = x) => h1 (by rw [← e]; exact hr))).2 (h r (List.mem_cons_of_mem _ hr))
    rw [List.length_erase_of_mem hx] at this
    have := List.length_pos_of_mem hx
    rw [List.length_cons]
    omega
/-- What a sorted list without duplicates of the same rows is worth. -/
theorem new_of {l c : List (List Int)} (hc : Asc c) (hm : ∀ r, r ∈ c ↔ r ∈ l) : (c.length ≤ 8 → newR [] l = c) ∧ (8 < c.length → 8 < (newR [] l).length) := by
  have hn : Asc (newR [] l) := new_asc l (acc := []) List.Pairwise.nil
  have hd : ∀ {a : List (List Int)}, Asc a → a.Nodup := fun ha => ha.imp fun {x y} q e => by
    rw [e, cmpR_self] at q
    omega
  have hsub : ∀ r ∈ newR [] l, r ∈ c := fun r hr => by
    rcases new_sub l (acc := []) List.Pairwise.nil r hr with q | q
    · cases q
    · exact (hm r).2 q
  have hle : (newR [] l).length ≤ c.length := len_le (hd hn) hsub
  have hkey : (newR [] l).length ≤ 8 → newR [] l = c := fun h8 => asc_one hn hc fun r => ⟨hsub r, fun q => new_all l (acc := []) List.Pairwise.nil h8 r (.inr ((hm r).1 q))⟩
  refine ⟨fun h => hkey (by omega), fun h => ?_⟩
  rcases Nat.lt_or_ge 8 (newR [] l).length with q | q
  · exact q
  · have := hkey q
    rw [this] at q
    omega
end Go.Proofs.YtmifnbplkaonaaaGreat.TabImp

namespace Go.Proofs.YtmifnbplkaonaaaGreat.UpdMath
open Go Go.RowKit Byt Ints IntsLaw Cd Rows2 Tab TabOpen TabElem TabSpec SlMath SlTable DbMath Upd

def chOk (T : T3) (b : Bool) (row : List Int) : Bool := if b then insOk T.1 T.2.1 T.2.2 row else hasR T.1 T.2.1 T.2.2 row
def chR (T : T3) (b : Bool) (row : List Int) : List (List Int) := if b then insR T.1 T.2.1 T.2.2 row else delR T.1 T.2.1 T.2.2 row
def chT (T : T3) (b : Bool) (row : List Int) : T3 := (T.1, T.2.1, chR T b row)
/-- The table that an update makes. -/
def appT (l : List T3) (nm : ByteArray) (b : Bool) (row : List Int) : Option T3 :=
  match lookL l nm with
  | none => none
  | some T => if chOk T b row then some (chT T b row) else none
def appOk (l : List T3) (nm : ByteArray) (b : Bool) (row : List Int) : Bool :=
  match appT l nm b row with
  | none => false
  | some T => setOk l T
def appL (l : List T3) (nm : ByteArray) (b : Bool) (row : List Int) : List T3 :=
  match appT l nm b row with
  | none => l
  | some T => setL l T
theorem appT_none {l : List T3} {nm : ByteArray} {b : Bool} {row : List Int} (h : lookL l nm = none) : appT l nm b row = none := by unfold appT; rw [h]
theorem appT_no {l : List T3} {nm : ByteArray} {b : Bool} {row : List Int} {T : T3} (h : lookL l nm = some T) (hc : chOk T b row = false) : appT l nm b row = none := by unfold appT; rw [h]; simp [hc]
theorem appT_yes {l : List T3} {nm : ByteArray} {b : Bool} {row : List Int} {T : T3} (h : lookL l nm = some T) (hc : chOk T b row = true) : appT l nm b row = some (chT T b row) := by unfold appT; rw [h]; simp [hc]
theorem app_none {l : List T3} {nm : ByteArray} {b : Bool} {row : List Int} (h : appT l nm b row = none) : appL l nm b row = l ∧ appOk l nm b row = false := by unfold appL appOk; rw [h]; exact ⟨rfl, rfl⟩
theorem app_some {l : List T3} {nm : ByteArray} {b : Bool} {row : List Int} {T : T3} (h : appT l nm b row = some T) : appL l nm b row = setL l T ∧ appOk l nm b row = setOk l T := by unfold appL appOk; rw [h]; exact ⟨rfl, rfl⟩

theorem wt_ok {T : T3} (h : okT T = true) : wtT T ≤ 40 := by
  have htp : TabP T.1 T.2.1 T.2.2 := of_decide_eq_true h
  have h1 : T.1.size = 1 := (of_decide_eq_true htp.1).1
  have h2 : ∀ l : List (List Int), (∀ r ∈ l, r.length ≤ 3) → rowsWt l ≤ 4 * l.length := by
    intro l
    induction l with
    | nil => intro _; simp [rowsWt]
    | cons r rs ih =>
      intro h
      have h1 := ih (fun x hx => h x (List.mem_cons.2 (.inr hx)))
      have h2 := h r (List.mem_cons.2 (.inl rfl))
      simp [rowsWt] at *
      omega
  have h3 := h2 T.2.2 (fun r hr => by have := (rowOk_iff.1 (htp.2.2.2.2.1 r hr)).1; have := htp.2.2.1; omega)
  have h4 := htp.2.2.2.1
  unfold wtT tabWt
  omega
theorem wts_ok {l : List T3} (h : dbOk l = true) : wtS l ≤ 300 := by
  have hd := dbOk_iff.1 h
  have h2 : ∀ m : List T3, (∀ T ∈ m, okT T = true) → sumN wtT m ≤ 40 * m.length := by
    intro m
    induction m with
    | nil => intro _; simp [sumN]
    | cons T m ih =>
      intro h
      have h1 := ih (fun x hx => h x (List.mem_cons.2 (.inr hx)))
      have h2 := wt_ok (h T (List.mem_cons.2 (.inl rfl)))
      rw [sumN_cons, List.length_cons]
      omega
  have h3 := h2 l hd.2.1
  have h4 := hd.1
  unfold wtS
  omega
theorem look_ok {l : List T3} {nm : ByteArray} {T : T3} (h : lookL l nm = some T) : dbOk l = true ∧ T ∈ l ∧ T.1 = nm ∧ okT T = true := by
  unfold lookL at h
  cases hv : dbOk l
  · rw [hv] at h; cases h
  · rw [hv] at h
    obtain ⟨h1, h2⟩ := findN_some h
    exact ⟨rfl, h1, h2, (dbOk_iff.1 hv).2.1 T h1⟩
theorem ok_ch {T : T3} {b : Bool} {row : List Int} (hT : okT T = true) (h : chOk T b row = true) : okT (chT T b row) = true := by
  have htp : TabP T.1 T.2.1 T.2.2 := of_decide_eq_true hT
  obtain ⟨p1, p2, p3, p4, p5, p6⟩ := htp
  refine decide_eq_true (show TabP T.1 T.2.1 (chR T b row) from ⟨p1, p2, p3, ?_⟩)
  cases b
  · have hh : hasR T.1 T.2.1 T.2.2 row = true := h
    have e : chR T false row = dropR T.2.2 row := by unfold chR delR; simp [hh]
    rw [e]
    unfold dropR
    exact ⟨Nat.le_trans (List.length_filter_le _ _) p4, fun r hr => p5 r (List.mem_filter.1 hr).1, List.Pairwise.sublist List.filter_sublist p6⟩
  · have hi : insOk T.1 T.2.1 T.2.2 row = true := h
    have e : chR T true row = putR T.2.2 row := by unfold chR insR; simp [hi]
    rw [e]
    obtain ⟨_, q2, q3, q4⟩ : InsP T.1 T.2.1 T.2.2 row := of_decide_eq_true hi
    refine ⟨?_, fun r hr => ?_, TabImp.asc_put p6⟩
    · obtain ⟨i, hf⟩ := TabImp.find_ex row p6
      rw [TabImp.putR_split p6 hf, if_neg q3]
      unfold Cd.ins
      have := hf.1
      simp only [List.length_append, List.length_cons, List.length_take, List.length_drop]
      omega
    · rcases (TabImp.mem_put p6).1 hr with q | q
      · rw [q]; exact q2
      · exact p5 r q
theorem appT_ok {l : List T3} {nm : ByteArray} {b : Bool} {row : List Int} {T : T3} (h : appT l nm b row = some T) : dbOk l = true ∧ okT T = true := by
  unfold appT at h
  cases hl : lookL l nm with
  | none => rw [hl] at h; cases h
  | some U =>
    rw [hl] at h
    obtain ⟨h1, _, _, h4⟩ := look_ok hl
    cases hc : chOk U b row
    · simp [hc] at h
    · simp only [hc, if_true, Option.some.injEq] at h
      rw [← h]
      exact ⟨h1, ok_ch h4 hc⟩
theorem app_valid {l : List T3} {nm : ByteArray} {b : Bool} {row : List Int} (h : appOk l nm b row = true) : dbOk (appL l nm b row) = true := by
  cases ha : appT l nm b row with
  | none => rw [(app_none ha).2] at h; cases h
  | some T =>
    rw [(app_some ha).2] at h
    rw [(app_some ha).1]
    have h2 := appT_ok ha
    have h3 := dbOk_putL h2.1 h2.2
    unfold setL
    rw [h]
    unfold setOk at h
    simp only [Bool.and_eq_true] at h
    simp only [if_true]
    rw [h3]
    exact h.2
theorem app_wt {l : List T3} {nm : ByteArray} {b : Bool} {row : List Int} (h : wtS l ≤ 1048577) : wtS (appL l nm b row) ≤ 1048577 := by
  cases hk : appOk l nm b row
  · have e : appL l nm b row = l := by
      cases ha : appT l nm b row with
      | none => exact (app_none ha).1
      | some T =>
        rw [(app_some ha).2] at hk
        rw [(app_some ha).1]
        unfold setL
        rw [hk]
        rfl
    rw [e]
    exact h
  · have := wts_ok (app_valid hk)
    omega
theorem app_cnts {l : List T3} {nm : ByteArray} {b : Bool} {row : List Int} (h : wtS l ≤ 1048576) : wtS (appL l nm b row) ≤ 1048576 := by
  cases hk : appOk l nm b row
  · have e : appL l nm b row = l := by
      cases ha : appT l nm b row with
      | none => exact (app_none ha).1
      | some T =>
        rw [(app_some ha).2] at hk
        rw [(app_some ha).1]
        unfold setL
        rw [hk]
        rfl
    rw [e]
    exact h
  · have := wts_ok (app_valid hk)
    omega

/-- A list of updates, applied up to the first that does not go. -/
def allL : List T3 → List U3 → List T3 × Nat
  | l, [] => (l, 0)
  | l, u :: us => if appOk l u.1 u.2.1 u.2.2 then ((allL (appL l u.1 u.2.1 u.2.2) us).1, (allL (appL l u.1 u.2.1 u.2.2) us).2 + 1) else (l, 0)
theorem allL_go {l : List T3} {us : List U3} {k : Nat} (hk : k < us.length) (h : appOk l us[k].1 us[k].2.1 us[k].2.2 = true) :
    allL l (us.drop k) = ((allL (appL l us[k].1 us[k].2.1 us[k].2.2) (us.drop (k + 1))).1, (allL (appL l us[k].1 us[k].2.1 us[k].2.2) (us.drop (k + 1))).2 + 1) := by
  rw [List.drop_eq_getElem_cons hk, allL, h]
  rfl
theorem allL_stop {l : List T3} {us : List U3} {k : Nat} (hk : k < us.length) (h : appOk l us[k].1 us[k].2.1 us[k].2.2 = false) : allL l (us.drop k) = (l, 0) := by
  rw [List.drop_eq_getElem_cons hk, allL, h]
  rfl
theorem allL_end {l : List T3} {us : List U3} : allL l (us.drop us.length) = (l, 0) := by rw [List.drop_length]; rfl
theorem allL_le : ∀ (us : List U3) (l : List T3), (allL l us).2 ≤ us.length
  | [], _ => Nat.le_refl _
  | u :: us, l => by
    have ih := allL_le us (appL l u.1 u.2.1 u.2.2)
    rw [allL]
    split
    · simp only [List.length_cons]; omega
    · exact Nat.zero_le _
theorem allL_wt : ∀ (us : List U3) (l : List T3), wtS l ≤ 1048576 → wtS (allL l us).1 ≤ 1048576
  | [], _, h => h
  | u :: us, l, h => by
    rw [allL]
    split
    · exact allL_wt us _ (app_cnts h)
    · exact h
end Go.Proofs.YtmifnbplkaonaaaGreat.UpdMath

namespace Go.Proofs.YtmifnbplkaonaaaGreat.UpdMath
open Go Go.RowKit Byt Ints IntsLaw Cd Rows2 Tab TabOpen TabElem TabSpec SlMath SlTable DbMath Upd

theorem app_no {l : List T3} {nm : ByteArray} {b : Bool} {row : List Int} (h : appOk l nm b row = false) : appL l nm b row = l := by
  cases ha : appT l nm b row with
  | none => exact (app_none ha).1
  | some T =>
    rw [(app_some ha).2] at h
    rw [(app_some ha).1]
    unfold setL
    rw [h]
    rfl
theorem ins_put {T : T3} {row : List Int} (h : insOk T.1 T.2.1 T.2.2 row = true) : chR T true row = putR T.2.2 row := by unfold chR insR; simp [h]
theorem del_drop {T : T3} {row : List Int} (h : hasR T.1 T.2.1 T.2.2 row = true) : chR T false row = dropR T.2.2 row := by unfold chR delR; simp [h]
theorem mem_drop {rows : List (List Int)} {row r : List Int} : r ∈ dropR rows row ↔ r ∈ rows ∧ r ≠ row := by unfold dropR; rw [List.mem_filter]; simp
/-- The other way round it gives the rows back, and it changes them. -/
theorem ch_back {T : T3} {b : Bool} {row : List Int} (hT : okT T = true) (h : chOk T b row = true) : chOk (chT T b row) (!b) row = true ∧ chR (chT T b row) (!b) row = T.2.2 ∧ chR T b row ≠ T.2.2 := by
  have hok := ok_ch hT h
  have htp : TabP T.1 T.2.1 T.2.2 := of_decide_eq_true hT
  have hpp : TabP T.1 T.2.1 (chR T b row) := of_decide_eq_true hok
  have ha := htp.2.2.2.2.2
  cases b
  · have hh : hasR T.1 T.2.1 T.2.2 row = true := h
    have hm : row ∈ T.2.2 := (of_decide_eq_true hh : TabP T.1 T.2.1 T.2.2 ∧ row ∈ T.2.2).2
    have e := del_drop hh
    have hn : row ∉ chR T false row := by rw [e, mem_drop]; exact fun q => q.2 rfl
    have hlen : (chR T false row).length ≠ 8 := by
      rw [e]
      have h1 : (dropR T.2.2 row).length < T.2.2.length := by
        unfold dropR
        exact List.length_filter_lt_length_iff_exists.2 ⟨row, hm, by simp⟩
      have := htp.2.2.2.1
      omega
    have hi : insOk T.1 T.2.1 (chR T false row) row = true := decide_eq_true ⟨hpp, htp.2.2.2.2.1 row hm, hn, hlen⟩
    refine ⟨hi, ?_, fun q => hn (by rw [q]; exact hm)⟩
    have e2 : chR (chT T false row) true row = putR (chR T false row) row := ins_put (T := chT T false row) hi
    rw [show (!false) = true from rfl, e2]
    refine TabImp.asc_one (TabImp.asc_put hpp.2.2.2.2.2) ha fun r => ?_
    rw [TabImp.mem_put hpp.2.2.2.2.2, e, mem_drop]
    constructor
    · rintro (q | q)
      · rw [q]; exact hm
      · exact q.1
    · intro q
      by_cases hr : r = row
      · exact .inl hr
      · exact .inr ⟨q, hr⟩
  · have hi : insOk T.1 T.2.1 T.2.2 row = true := h
    obtain ⟨_, _, q3, _⟩ : InsP T.1 T.2.1 T.2.2 row := of_decide_eq_true hi
    have e := ins_put hi
    have hm : row ∈ chR T true row := by rw [e, TabImp.mem_put ha]; exact .inl rfl
    have hh : hasR T.1 T.2.1 (chR T true row) row = true := decide_eq_true ⟨hpp, hm⟩
    refine ⟨hh, ?_, fun q => q3 (by rw [← q]; exact hm)⟩
    have e2 : chR (chT T true row) false row = dropR (chR T true row) row := del_drop (T := chT T true row) hh
    rw [show (!true) = false from rfl, e2]
    refine TabImp.asc_one (List.Pairwise.sublist List.filter_sublist hpp.2.2.2.2.2) ha fun r => ?_
    rw [mem_drop, e, TabImp.mem_put ha]
    constructor
    · rintro ⟨q | q, hr⟩
      · exact absurd q hr
      · exact q
    · intro q
      exact ⟨.inr q, fun hr => q3 (hr ▸ q)⟩
/-- An update that can be made can be unmade; it changes the database. -/
theorem app_back {l : List T3} {nm : ByteArray} {b : Bool} {row : List Int} (h : appOk l nm b row = true) :
    appOk (appL l nm b row) nm (!b) row = true ∧ appL (appL l nm b row) nm (!b) row = l ∧ appL l nm b row ≠ l := by
  cases hl : lookL l nm with
  | none => rw [(app_none (appT_none hl)).2] at h; cases h
  | some T =>
    cases hc : chOk T b row
    · rw [(app_none (appT_no hl hc)).2] at h; cases h
    · obtain ⟨hv, hm, rfl, hT⟩ := look_ok hl
      have hs := app_some (appT_yes hl hc)
      rw [hs.2] at h
      rw [hs.1]
      have ha := (dbOk_iff.1 hv).2.2
      have hT2 := ok_ch hT hc
      obtain ⟨g1, g2, g3⟩ := ch_back hT hc
      have e : setL l (chT T b row) = putL (chT T b row) l := by unfold setL; rw [h]; rfl
      have h6 := h
      unfold setOk at h6
      simp only [Bool.and_eq_true] at h6
      have hR : dbOk (putL (chT T b row) l) = true := by rw [dbOk_putL hv hT2]; exact h6.2
      have haR := asc_putL (T := chT T b row) ha
      have hmem : chT T b row ∈ putL (chT T b row) l := (mem_putL ha).2 (.inl rfl)
      have hlook : lookL (putL (chT T b row) l) T.1 = some (chT T b row) := by unfold lookL; rw [hR]; exact findN_of_asc haR hmem
      have hback : chT (chT T b row) (!b) row = T := by
        show (T.1, T.2.1, chR (chT T b row) (!b) row) = T
        rw [g2]
      have hput : putL T (putL (chT T b row) l) = l := asc_unique (asc_putL haR) ha fun U => by
        rw [mem_putL haR, mem_putL ha]
        constructor
        · rintro (q | ⟨q | q, r⟩)
          · rw [q]; exact hm
          · exact absurd (by rw [q]; rfl) r
          · exact q.1
        · intro q
          by_cases hU : U.1 = T.1
          · exact .inl (asc_name ha q hm hU)
          · exact .inr ⟨.inr ⟨q, hU⟩, hU⟩
      have hset : setOk (putL (chT T b row) l) T = true := by
        unfold setOk
        rw [hR, hT, hput]
        simpa using (dbOk_iff.1 hv).1
      rw [e]
      have hs2 := app_some (appT_yes hlook g1)
      rw [hback] at hs2
      refine ⟨by rw [hs2.2]; exact hset, ?_, fun q => ?_⟩
      · rw [hs2.1]
        unfold setL
        rw [hset, if_pos rfl, hput]
      · rw [q] at hlook
        rw [hl] at hlook
        injection hlook with hlook
        exact g3 (congrArg (fun X : T3 => X.2.2) hlook).symm
end Go.Proofs.YtmifnbplkaonaaaGreat.UpdMath

namespace Go.Proofs.YtmifnbplkaonaaaGreat.ParMath
open Go Go.RowKit Byt Ints IntsLaw Cd Rows2 Tab TabSpec TabFmt TabParse

theorem index_hit (c : UInt8) : ∀ (a b : List UInt8), c ∉ a → Lib.index (a ++ c :: b) [c] = a.length
  | [], b, _ => by simp [Lib.index, List.isPrefixOf]
  | x :: a, b, h => by
    have hx : ¬ c = x := fun q => h (by rw [q]; exact List.mem_cons_self)
    have ih := index_hit c a b (fun q => h (List.mem_cons_of_mem _ q))
    have hp : List.isPrefixOf [c] (x :: (a ++ c :: b)) = false := by
      have : (c == x) = false := by rw [beq_eq_false_iff_ne]; exact hx
      simp [List.isPrefixOf, this]
    show Lib.index (x :: (a ++ c :: b)) [c] = _
    unfold Lib.index
    rw [hp, ih]
    have : ((a.length : Int) == -1) = false := by rw [beq_eq_false_iff_ne]; omega
    rw [this]
    simp
theorem cut_hit (c : UInt8) (a b : List UInt8) (h : c ∉ a) : Lib.cut (a ++ c :: b) [c] = (a, b, true) := by
  unfold Lib.cut
  rw [index_hit c a b h, if_pos (by omega)]
  simp
theorem cut_pre (c : UInt8) (l : List UInt8) : (Lib.cut l [c]).1 <+: l := by
  unfold Lib.cut
  split
  · exact List.take_prefix _ _
  · exact List.prefix_refl _

/-- A digit's byte. -/
theorem dig_byte {x : Int} (h : 0 ≤ x ∧ x ≤ 9) : (UInt8.ofNat (48 + x.toNat)).toNat = 48 + x.toNat := by
  rw [UInt8.toNat_ofNat']
  omega
theorem mem_digB {l : List Int} (h : ∀ x ∈ l, 0 ≤ x ∧ x ≤ 9) {b : UInt8} (hb : b ∈ digB l) : 48 ≤ b.toNat ∧ b.toNat ≤ 57 := by
  unfold digB at hb
  obtain ⟨x, hx, rfl⟩ := List.mem_map.1 hb
  have := h x hx
  rw [dig_byte this]
  omega
theorem vals_digB {l : List Int} (h : ∀ x ∈ l, 0 ≤ x ∧ x ≤ 9) : vals (digB l) = l := by
  unfold vals digB
  rw [List.map_map]
  have : ∀ x ∈ l, ((fun b : UInt8 => (b.toNat : Int) - 48) ∘ fun x : Int => UInt8.ofNat (48 + x.toNat)) x = x := fun x hx => by
    have hh := h x hx
    show ((UInt8.ofNat (48 + x.toNat)).toNat : Int) - 48 = x
    rw [dig_byte hh]
    omega
  exact (List.map_congr_left this).trans (List.map_id' l)
theorem isSp_digit {b : UInt8} (h : 48 ≤ b.toNat ∧ b.toNat ≤ 57) : Lib.isSp b = false := by
  have hb : b = UInt8.ofNat b.toNat := by simp
  generalize b.toNat = n at *
  subst hb
  rcases (show n = 48 ∨ n = 49 ∨ n = 50 ∨ n = 51 ∨ n = 52 ∨ n = 53 ∨ n = 54 ∨ n = 55 ∨ n = 56 ∨ n = 57 by omega) with rfl | rfl | rfl | rfl | rfl | rfl | rfl | rfl | rfl | rfl <;> rfl

theorem fieldsGo_word : ∀ (w cur l : List UInt8), (∀ b ∈ w, Lib.isSp b = false) → Lib.fieldsGo cur (w ++ l) = Lib.fieldsGo (cur ++ w) l
  | [], cur, l, _ => by simp
  | b :: w, cur, l, h => by
    have hb := h b List.mem_cons_self
    show Lib.fieldsGo cur (b :: (w ++ l)) = _
    rw [Lib.fieldsGo, hb, if_neg (by simp), fieldsGo_word w _ l (fun x hx => h x (List.mem_cons_of_mem _ hx))]
    simp
theorem fields_rows : ∀ rows : List (List Int), (∀ r ∈ rows, r ≠ [] ∧ ∀ x ∈ r, 0 ≤ x ∧ x ≤ 9) → Lib.fields (rowsB rows) = rows.map digB
  | [], _ => rfl
  | [r], h => by
    obtain ⟨hr, hx⟩ := h r List.mem_cons_self
    have hd : ∀ b ∈ digB r, Lib.isSp b = false := fun b hb => isSp_digit (mem_digB hx hb)
    have := fieldsGo_word (digB r) [] [] hd
    rw [List.append_nil, List.nil_append] at this
    show Lib.fieldsGo [] (digB r) = _
    rw [this, Lib.fieldsGo]
    have hne : (digB r).isEmpty = false := by
      cases r with
      | nil => exact absurd rfl hr
      | cons a b => rfl
    rw [hne]
    rfl
  | r :: s :: rs, h => by
    obtain ⟨hr, hx⟩ := h r List.mem_cons_self
    have ih := fields_rows (s :: rs) (fun x hx => h x (List.mem_cons_of_mem _ hx))
    have hd : ∀ b ∈ digB r, Lib.isSp b = false := fun b hb => isSp_digit (mem_digB hx hb)
    show Lib.fieldsGo [] (digB r ++ 32 :: rowsB (s :: rs)) = _
    rw [fieldsGo_word (digB r) [] _ hd, Lib.fieldsGo, show Lib.isSp 32 = true from rfl, List.nil_append]
    simp only [if_true]
    have hne : (digB r).isEmpty = false := by
      cases r with
      | nil => exact absurd rfl hr
      | cons a b => rfl
    rw [hne, if_neg (by simp)]
    show digB r :: Lib.fields (rowsB (s :: rs)) = _
    rw [ih]
    rfl
theorem mem_rowsB : ∀ rows : List (List Int), (∀ r ∈ rows, ∀ x ∈ r, 0 ≤ x ∧ x ≤ 9) → ∀ b ∈ rowsB rows, b.toNat < 128
  | [], _, b, hb => by cases hb
  | [r], h, b, hb => by have := mem_digB (h r List.mem_cons_self) (show b ∈ digB r from hb); omega
  | r :: s :: rs, h, b, hb => by
    rcases List.mem_append.1 (show b ∈ digB r ++ 32 :: rowsB (s :: rs) from hb) with q | q
    · have := mem_digB (h r List.mem_cons_self) q; omega
    · rcases List.mem_cons.1 q with rfl | q
      · decide
      · exact mem_rowsB (s :: rs) (fun x hx => h x (List.mem_cons_of_mem _ hx)) b q
theorem fieldsD_rows {rows : List (List Int)} (h : ∀ r ∈ rows, r ≠ [] ∧ ∀ x ∈ r, 0 ≤ x ∧ x ≤ 9) : Lib.fieldsD (rowsB rows) = rows.map digB := by
  rw [Lib.fieldsD_ascii _ (mem_rowsB rows fun r hr => (h r hr).2), fields_rows rows h]

theorem cutB_word (sep : UInt8) : ∀ w l : List UInt8, sep ∉ w → cutB sep (w ++ sep :: l) = w :: cutB sep l
  | [], l, _ => by simp [cutB]
  | b :: w, l, h => by
    have hb : ¬ b = sep := fun q => h (by rw [q]; exact List.mem_cons_self)
    show cutB sep (b :: (w ++ sep :: l)) = _
    rw [cutB, if_neg hb, cutB_word sep w l (fun q => h (List.mem_cons_of_mem _ q))]
theorem cutB_last (sep : UInt8) : ∀ w : List UInt8, sep ∉ w → cutB sep w = [w]
  | [], _ => rfl
  | b :: w, h => by
    have hb : ¬ b = sep := fun q => h (by rw [q]; exact List.mem_cons_self)
    rw [cutB, if_neg hb, cutB_last sep w (fun q => h (List.mem_cons_of_mem _ q))]
theorem cutB_rows : ∀ rows : List (List Int), rows ≠ [] → (∀ r ∈ rows, ∀ x ∈ r, 0 ≤ x ∧ x ≤ 9) → cutB 32 (rowsB rows) = rows.map digB
  | [], h, _ => absurd rfl h
  | [r], _, h => by
    have hd : (32 : UInt8) ∉ digB r := fun q => by have := (mem_digB (h r List.mem_cons_self) q).1; exact absurd this (by decide)
    exact cutB_last 32 (digB r) hd
  | r :: s :: rs, _, h => by
    have hd : (32 : UInt8) ∉ digB r := fun q => by have := (mem_digB (h r List.mem_cons_self) q).1; exact absurd this (by decide)
    show cutB 32 (digB r ++ 32 :: rowsB (s :: rs)) = _
    rw [cutB_word 32 _ _ hd, cutB_rows (s :: rs) (by simp) (fun x hx => h x (List.mem_cons_of_mem _ hx))]
    rfl

/-- How many fields, and how long. -/
theorem fieldsGoD_len : ∀ (f : Nat) (cur l : List UInt8), (Lib.fieldsGoD f cur l).length ≤ f + 1
  | 0, cur, l => by unfold Lib.fieldsGoD; split <;> simp
  | f + 1, cur, l => by
    have h1 := fieldsGoD_len f [] (l.drop (Lib.decodeL l).2)
    have h2 := fieldsGoD_len f (cur ++ l.take (Lib.decodeL l).2) (l.drop (Lib.decodeL l).2)
    have h3 : (if cur = [] then [] else [cur]).length ≤ 1 := by split <;> simp
    unfold Lib.fieldsGoD
    split
    · omega
    · split
      · rw [List.length_append]; omega
      · omega
theorem fieldsD_len (l : List UInt8) : (Lib.fieldsD l).length ≤ l.length + 2 := fieldsGoD_len _ _ _
theorem fieldsGoD_mem : ∀ (f : Nat) (cur l x : List UInt8), x ∈ Lib.fieldsGoD f cur l → x.length ≤ cur.length + l.length
  | 0, cur, l, x, h => by
    unfold Lib.fieldsGoD at h
    split at h
    · cases h
    · rw [List.mem_singleton.1 h]; omega
  | f + 1, cur, l, x, h => by
    have h0 : ∀ y, y ∈ (if cur = [] then [] else [cur]) → y.length ≤ cur.length := fun y hy => by
      split at hy
      · cases hy
      · rw [List.mem_singleton.1 hy]; omega
    unfold Lib.fieldsGoD at h
    split at h
    · have := h0 x h; omega
    · split at h
      · rcases List.mem_append.1 h with q | q
        · have := h0 x q; omega
        · have := fieldsGoD_mem f _ _ x q
          rw [List.length_drop] at this
          simp only [List.length_nil] at this
          omega
      · have := fieldsGoD_mem f _ _ x h
        rw [List.length_drop, List.length_append, List.length_take] at this
        omega
theorem fieldsD_mem {l x : List UInt8} (h : x ∈ Lib.fieldsD l) : x.length ≤ l.length := by
  have := fieldsGoD_mem _ _ _ _ h
  simp only [List.length_nil] at this
  omega

/-- What the program reads: the head's first byte, its second, the body's fields. -/
def iNm (a : List UInt8) : ByteArray := ba (a.take 1)
def iAr (a : List UInt8) : Int := ((a.getD 1 0).toNat : Int) - 48
def iRows (b : List UInt8) : List (List Int) := (Lib.fieldsD b).map vals

theorem rows_len : ∀ rows : List (List Int), (∀ r ∈ rows, r ≠ [] ∧ r.length ≤ 3 ∧ ∀ x ∈ r, 0 ≤ x ∧ x ≤ 9) → (rowsB rows).length + 1 ≤ 4 * rows.length + 1 ∧ (rows ≠ [] → 1 ≤ (rowsB rows).length ∧ (rowsB rows).length + 1 ≤ 4 * rows.length) := by
  intro rows
  induction rows with
  | nil => intro _; exact ⟨by simp [rowsB], fun q => absurd rfl q⟩
  | cons r rs ih =>
    intro hrow'
    obtain ⟨g1, g2, _⟩ := hrow' r List.mem_cons_self
    have g3 : 1 ≤ r.length := by cases r with | nil => exact absurd rfl g1 | cons _ _ => simp
    have ih := ih (fun z hz => hrow' z (List.mem_cons_of_mem _ hz))
    cases rs with
    | nil =>
      have e : (rowsB [r]).length = r.length := digB_len r
      rw [e]
      simp
      omega
    | cons t ts =>
      have e : (rowsB (r :: t :: ts)).length = r.length + ((rowsB (t :: ts)).length + 1) := by
        show (digB r ++ 32 :: rowsB (t :: ts)).length = _
        rw [List.length_append, List.length_cons, digB_len]
      have := ih.2 (by simp)
      rw [e]
      simp only [List.length_cons] at *
      exact ⟨by omega, fun _ => ⟨by omega, by omega⟩⟩

/-- A string that is the format of a valid table. -/
theorem shape {s nm : ByteArray} {ar : Int} {rows : List (List Int)} (hok : tabOk nm ar rows = true) (hs : fmtT nm ar rows = s) :
    3 ≤ s.size ∧ s.size ≤ 34 ∧ (∃ x y, Lib.cut s.data.toList [58] = ([x, y], rowsB rows, true) ∧ iNm [x, y] = nm ∧ iAr [x, y] = ar) ∧ iRows (rowsB rows) = rows ∧ pNm s = nm ∧ pAr s = ar ∧ pRows s = rows := by
  have htp : TabP nm ar rows := of_decide_eq_true hok
  obtain ⟨hnm, h1, h3, h8, hrow, _⟩ := htp
  have hn := of_decide_eq_true hnm
  have hrow' : ∀ r ∈ rows, r ≠ [] ∧ r.length ≤ 3 ∧ ∀ x ∈ r, 0 ≤ x ∧ x ≤ 9 := fun r hr => by
    have := rowOk_iff.1 (hrow r hr)
    exact ⟨fun q => by rw [q] at this; simp at this; omega, by omega, this.2⟩
  obtain ⟨⟨nl⟩⟩ := nm
  obtain ⟨x, rfl⟩ : ∃ x, nl = [x] := List.length_eq_one_iff.1 hn.1
  have hx : 97 ≤ x.toNat ∧ x.toNat ≤ 122 := hn.2
  have hy := dig_byte (x := ar) ⟨by omega, by omega⟩
  have hsl : s.data.toList = [x, UInt8.ofNat (48 + ar.toNat)] ++ 58 :: rowsB rows := by
    rw [← hs]
    unfold fmtT
    rw [hok, if_pos rfl]
    rfl
  generalize UInt8.ofNat (48 + ar.toNat) = y at *
  have h58 : (58 : UInt8) ∉ [x, y] := fun q => by
    rcases List.mem_cons.1 q with q | q
    · rw [← q] at hx; exact absurd hx.1 (by decide)
    · rw [← List.mem_singleton.1 q] at hy
      have : (58 : UInt8).toNat = 58 := rfl
      omega
  have hlen : s.size = 3 + (rowsB rows).length := by
    have : s.data.toList.length = s.size := Array.length_toList
    rw [← this, hsl]
    simp
    omega
  have hrl := rows_len rows hrow'
  have hr0 : rows = [] → (rowsB rows).length = 0 := fun q => by rw [q]; rfl
  have hsz34 : s.size ≤ 34 := by
    by_cases q : rows = []
    · rw [hlen, hr0 q]; omega
    · have := (hrl.2 q).2; omega
  refine ⟨by omega, hsz34, ⟨x, y, ?_, ?_, ?_⟩, ?_, ?_, ?_, ?_⟩
  · rw [hsl]
    exact cut_hit 58 _ _ h58
  · rfl
  · show (y.toNat : Int) - 48 = ar
    rw [hy]
    omega
  · unfold iRows
    rw [fieldsD_rows fun r hr => ⟨(hrow' r hr).1, (hrow' r hr).2.2⟩, List.map_map]
    exact (List.map_congr_left (fun r hr => vals_digB (hrow' r hr).2.2)).trans (List.map_id' rows)
  · unfold pNm
    rw [extract_ba, hsl]
    rfl
  · unfold pAr
    rw [hsl]
    show (y.toNat : Int) - 48 = ar
    rw [hy]
    omega
  · unfold pRows
    by_cases q : rows = []
    · rw [if_neg (by rw [hlen, hr0 q]; omega), q]
    · rw [if_pos (by rw [hlen]; have := (hrl.2 q).1; omega)]
      unfold cuts
      have e : (s.extract 3 s.size).data.toList = rowsB rows := by
        rw [extract_ba, hsl]
        have : ∀ l : List UInt8, (ba l).data.toList = l := fun l => by simp [ba]
        rw [this]
        show (rowsB rows).take (s.size - 3) = rowsB rows
        exact List.take_of_length_le (by omega)
      rw [e, cutB_rows rows q fun r hr => (hrow' r hr).2.2, List.map_map, List.map_map]
      refine (List.map_congr_left (fun r hr => ?_)).trans (List.map_id' rows)
      show vals (ba (digB r)).data.toList = r
      have : (ba (digB r)).data.toList = digB r := by simp [ba]
      rw [this, vals_digB (hrow' r hr).2.2]

theorem ok_of_fmt {s nm : ByteArray} {ar : Int} {rows : List (List Int)} (h0 : s.size ≠ 0) (h : fmtT nm ar rows = s) : tabOk nm ar rows = true := by
  cases hk : tabOk nm ar rows
  · exfalso
    unfold fmtT at h
    rw [hk] at h
    exact h0 (by rw [← h]; rfl)
  · rfl

theorem par_yes {s : ByteArray} {a b : List UInt8} {has : Bool} (hc : Lib.cut s.data.toList [58] = (a, b, has)) (h2 : a.length = 2) (hf : fmtT (iNm a) (iAr a) (iRows b) = s) :
    pOk s = true ∧ pNm s = iNm a ∧ pAr s = iAr a ∧ pRows s = iRows b := by
  have h0 : s.size ≠ 0 := by
    have hp := cut_pre 58 s.data.toList
    rw [hc] at hp
    have := hp.length_le
    have h : s.data.toList.length = s.size := Array.length_toList
    show s.size ≠ 0
    simp only at this
    omega
  have hok := ok_of_fmt h0 hf
  obtain ⟨g1, g2, _, _, g5, g6, g7⟩ := shape hok hf
  refine ⟨decide_eq_true ⟨g1, by omega, ?_⟩, g5, g6, g7⟩
  rw [g5, g6, g7]
  exact hf
theorem par_no {s : ByteArray} {a b : List UInt8} {has : Bool} (hc : Lib.cut s.data.toList [58] = (a, b, has)) (h : a.length ≠ 2 ∨ 34 < s.size ∨ fmtT (iNm a) (iAr a) (iRows b) ≠ s) : pOk s = false := by
  cases hk : pOk s
  · rfl
  · exfalso
    obtain ⟨g1, g2, g3⟩ : ParP s := of_decide_eq_true hk
    have hok := ok_of_fmt (by omega) g3
    obtain ⟨k1, k2, ⟨x, y, k3, k4, k5⟩, k6, _⟩ := shape hok g3
    rw [hc] at k3
    injection k3 with e1 e2
    injection e2 with e2 _
    subst e1 e2
    rcases h with h | h | h
    · exact h rfl
    · omega
    · exact h (by rw [k4, k5, k6]; exact g3)
end Go.Proofs.YtmifnbplkaonaaaGreat.ParMath

namespace Go.Proofs.YtmifnbplkaonaaaGreat.UpdFact
open Go Go.RowKit Byt Ints IntsLaw Cd Rows2 Tab TabSpec Exact Upd TabFmt UpdFmt TabParse UpdParse

/-- A format is read back; there is none only where there is nothing to be read. -/
theorem par_fmtU (nm : ByteArray) (b : Bool) (row : List Int) :
    (updOk nm row = false → fmtU nm b row = ⟨#[]⟩ ∧ uOk (fmtU nm b row) = false) ∧
    (updOk nm row = true → fmtU nm b row ≠ ⟨#[]⟩ ∧ uOk (fmtU nm b row) = true ∧ uN (fmtU nm b row) = nm ∧ uB (fmtU nm b row) = b ∧ uR (fmtU nm b row) = row) := by
  constructor
  · intro h
    rw [fmtU_no h]
    exact ⟨rfl, decide_eq_false fun q => absurd q.1 (by decide)⟩
  · intro h
    have hk := h
    unfold updOk at hk
    simp only [Bool.and_eq_true, decide_eq_true_eq] at hk
    obtain ⟨⟨h1, _, _⟩, h3⟩ := hk
    have hn := (of_decide_eq_true h1).1
    obtain ⟨⟨nl⟩⟩ := nm
    obtain ⟨x, rfl⟩ : ∃ x, nl = [x] := List.length_eq_one_iff.1 hn
    generalize hs : fmtU ⟨⟨[x]⟩⟩ b row = s at *
    have hsl : s.data.toList = signB b :: x :: digB row := by
      rw [← hs, fmtU_yes h]
      rfl
    have hlen : s.size = 2 + row.length := by
      have e : s.data.toList.length = s.size := Array.length_toList
      rw [← e, hsl]
      simp [digB]
      omega
    have eN : uN s = ⟨⟨[x]⟩⟩ := by
      unfold uN
      rw [extract_ba, hsl]
      rfl
    have eB : uB s = b := by
      unfold uB
      rw [hsl]
      cases b <;> rfl
    have eR : uR s = row := by
      unfold uR
      rw [extract_ba, hsl]
      have e : ∀ l : List UInt8, (ba l).data.toList = l := fun l => by simp [ba]
      rw [e]
      have e2 : ((signB b :: x :: digB row).drop 2).take (s.size - 2) = digB row := by
        rw [hlen]
        show (digB row).take (2 + row.length - 2) = digB row
        refine List.take_of_length_le ?_
        simp [digB]
      rw [e2]
      exact ParMath.vals_digB (rowOk_iff.1 h3).2
    refine ⟨fun q => ?_, ?_, eN, eB, eR⟩
    · rw [q] at hlen
      have : (⟨#[]⟩ : ByteArray).size = 0 := rfl
      omega
    · refine decide_eq_true ⟨by omega, ?_⟩
      rw [eN, eB, eR]
      exact hs
theorem fmtU_size (nm : ByteArray) (b : Bool) (row : List Int) : (fmtU nm b row).size ≤ 1048576 := by
  cases h : updOk nm row
  · rw [fmtU_no h]; decide
  · have := uOk_len ((par_fmtU nm b row).2 h).2.1
    omega
end Go.Proofs.YtmifnbplkaonaaaGreat.UpdFact

namespace Go.Proofs.YtmifnbplkaonaaaGreat.DbDraw
open Go Go.RowKit Byt Ints IntsLaw IntsWalk Draw LocDraw Cd Rows2 Tab TabDraw SlMath TabOpen TabElem SlTable Db TabSpec DbMath DbSpec DbExact DbAcc

def nn5 : List ByteArray := [⟨#[97]⟩, ⟨#[114]⟩, ⟨#[114, 114]⟩, ⟨#[116]⟩, ⟨#[122]⟩]
theorem nn5_ok : ∀ t : Fin 5, (nn5.getD t.val ⟨#[]⟩).size ≤ 2 := by decide
/-- A drawn database and a drawn table. -/
def SetDraw (w : World) (e : Ending) (w' : World) : Prop :=
  ∃ (u : Value) (nm : ByteArray) (ar : Int) (y : Value) (Ts : List T3) (rows : List (List Int)), e = .returned (.tuple #[.agg #[u], .agg #[.string nm, .int .i64 ar, y]]) ∧ tabsC.rd w' (· < w'.heap.size) [u] Ts ∧ Ts.length ≤ 7 ∧ (∀ T ∈ Ts, OkD T) ∧
    rowsC.rd w' (· < w'.heap.size) [y] rows ∧ OkD (nm, ar, rows) ∧ Below w.heap.size w w'
/-- In the drawing: the results' cells, the cursor behind them, the local database in block X. -/
structure T5 (w : World) (c : Nat) (v : Value) (l : List UInt8) (X : Nat) (u : Value) (Ts : List T3) (W : World) : Prop where
  lx : Loc1 W X u
  lr : ∃ a, Loc1 W w.heap.size a
  lt : ∃ a b d, Loc3 W (w.heap.size + 1) a b d
  rd : tabsC.rd W (fun b => c + 1 ≤ b ∧ b < W.heap.size) [u] Ts
  xb : c < X
  cb : w.heap.size + 1 < c
  cu : Cur W c v l
  bl : Below w.heap.size w W
section
variable {w : World} {c : Nat} {v : Value} {l : List UInt8} {X : Nat} {u : Value} {Ts : List T3} {W W' : World}
theorem T5.grown (h : T5 w c v l X u Ts W) (hg : W.grownBy W' (some c)) (hc : Cur W' c v l) : T5 w c v l X u Ts W' :=
  have h1 := h.cb
  have h2 := h.xb
  have ⟨_, h3⟩ := h.lr
  have ⟨_, _, _, h4⟩ := h.lt
  ⟨loc1_grown h.lx hg (by omega), ⟨_, loc1_grown h3 hg (by omega)⟩, ⟨_, _, _, loc_grown h4 hg (by omega)⟩, rd_grown h.rd hg (Nat.lt_succ_self c), h2, h1, hc, h.bl.trans (below_of hg (by omega) (cur_size h.cu))⟩
theorem T5.alloc (h : T5 w c v l X u Ts W) (o : Obj) : T5 w c v l X u Ts (W.alloc o) := h.grown (World.grownBy_alloc W o (some c)) (cur_allocI o h.cu)
theorem T5.drew (h : T5 w c v l X u Ts W) : T5 w c v l X u Ts W.drew :=
  have ⟨_, h3⟩ := h.lr
  have ⟨_, _, _, h4⟩ := h.lt
  ⟨h.lx.drew, ⟨_, h3.drew⟩, ⟨_, _, _, h4.keep rfl⟩, tabsC.keep h.rd fun _ _ _ => rfl, h.xb, h.cb, h.cu, Below.drew h.bl⟩
theorem T5.base (h : T5 w c v l X u Ts W) : c + 1 ≤ W.heap.size := by
  have := h.lx.lt
  have := h.xb
  omega
theorem rd_setN {α : Type} {cd : Cd α} {base : Nat} {us : List Value} {a : α} (h : cd.rd W (fun b => base ≤ b ∧ b < W.heap.size) us a) {p : Addr} (hp : p.block < base) (x : Value) : cd.rd (W.setCell p x) (fun b => base ≤ b ∧ b < (W.setCell p x).heap.size) us a :=
  cd.mono (rd_set h (show ¬ (base ≤ p.block ∧ _) from fun q => by have := q.1; omega) x) fun _ _ hb => ⟨hb.1, by simpa using hb.2⟩
theorem T5.setD (h : T5 w c v l X u Ts W) (x : Value) : T5 w c v l X u Ts (W.setCell ⟨w.heap.size, 0, none⟩ x) :=
  have h1 := h.cb
  have h2 := h.xb
  have ⟨_, h3⟩ := h.lr
  have ⟨_, _, _, h4⟩ := h.lt
  ⟨h.lx.set_far (by show w.heap.size ≠ X; omega) _, ⟨_, h3.set _⟩, ⟨_, _, _, h4.set_far (by show w.heap.size ≠ w.heap.size + 1; omega) _⟩, rd_setN h.rd (by show w.heap.size < c + 1; omega) x, h2, h1, cur_farI _ h.cu (by show c ≠ w.heap.size; omega), h.bl.setCell (Nat.le_refl _) _⟩
theorem T5.setT (h : T5 w c v l X u Ts W) (x y z : Value) : T5 w c v l X u Ts (((W.setCell ⟨w.heap.size + 1, 0, none⟩ x).setCell ⟨w.heap.size + 1, 1, none⟩ y).setCell ⟨w.heap.size + 1, 2, none⟩ z) := by
  have h1 := h.cb
  have h2 := h.xb
  obtain ⟨_, h3⟩ := h.lr
  obtain ⟨_, _, _, h4⟩ := h.lt
  have e1 : w.heap.size + 1 ≠ X := by omega
  have e2 : w.heap.size + 1 ≠ w.heap.size := by omega
  have e3 : c ≠ w.heap.size + 1 := by omega
  have e4 : w.heap.size + 1 < c + 1 := by omega
  obtain ⟨c0, c1, c2, f0, f1, f2⟩ := h4
  obtain ⟨k0, k1, k2⟩ := set3 (w := W) (k := w.heap.size + 1) (x := x) (y := y) (z := z) c0 c1 c2
  exact ⟨((h.lx.set_far e1 _).set_far e1 _).set_far e1 _, ⟨_, ((h3.set_far e2 _).set_far e2 _).set_far e2 _⟩, ⟨_, _, _, k0, k1, k2, by simpa using f0, by simpa using f1, by simpa using f2⟩,
    rd_setN (rd_setN (rd_setN h.rd e4 x) e4 y) e4 z, h2, h1, cur_farI _ (cur_farI _ (cur_farI _ h.cu e3) e3) e3, ((h.bl.setCell (Nat.le_succ _) _).setCell (Nat.le_succ _) _).setCell (Nat.le_succ _) _⟩
theorem T5.all (h : T5 w c v l X u Ts W) : W.cell? ⟨X, 0, none⟩ = some u ∧ T5 w c v l X u Ts W := ⟨h.lx.c0, h⟩
theorem T5.end (h : T5 w c v l X u Ts W) {nm : ByteArray} {ar : Int} {y : Value} {rows : List (List Int)} (hr : rowsC.rd W (fun b => c + 1 ≤ b ∧ b < W.heap.size) [y] rows) (hl : Ts.length ≤ 7) (ho : ∀ T ∈ Ts, OkD T) (hT : OkD (nm, ar, rows)) :
    SetDraw w (.returned (.tuple #[.agg #[u], .agg #[.string nm, .int .i64 ar, y]])) W :=
  ⟨u, nm, ar, y, Ts, rows, rfl, tabsC.mono h.rd fun _ _ q => q.2, hl, ho, rowsC.mono hr fun _ _ q => q.2, hT, h.bl⟩
/-- The results are stored, the database first. -/
theorem T5.fin (h : T5 w c v l X u Ts W) {nm : ByteArray} {ar : Int} {y : Value} {rows : List (List Int)} (hr : rowsC.rd W (fun b => c + 1 ≤ b ∧ b < W.heap.size) [y] rows) (hl : Ts.length ≤ 7) (ho : ∀ T ∈ Ts, OkD T) (hT : OkD (nm, ar, rows)) {W' : World}
    (e : W' = (((W.setCell ⟨w.heap.size, 0, none⟩ u).setCell ⟨w.heap.size + 1, 0, none⟩ (.string nm)).setCell ⟨w.heap.size + 1, 1, none⟩ (.int .i64 ar)).setCell ⟨w.heap.size + 1, 2, none⟩ y) :
    W'.cell? ⟨w.heap.size, 0, none⟩ = some u ∧ W'.cell? ⟨w.heap.size + 1, 0, none⟩ = some (.string nm) ∧ W'.cell? ⟨w.heap.size + 1, 1, none⟩ = some (.int .i64 ar) ∧ W'.cell? ⟨w.heap.size + 1, 2, none⟩ = some y ∧ SetDraw w (.returned (.tuple #[.agg #[u], .agg #[.string nm, .int .i64 ar, y]])) W' := by
  subst e
  have h1 := h.cb
  have e4 : w.heap.size + 1 < c + 1 := by omega
  obtain ⟨_, h3⟩ := (h.setD u).lr
  obtain ⟨_, g3⟩ := h.lr
  obtain ⟨_, _, _, c0, c1, c2, _⟩ := (h.setD u).lt
  obtain ⟨k0, k1, k2⟩ := set3 (w := W.setCell ⟨w.heap.size, 0, none⟩ u) (k := w.heap.size + 1) (x := .string nm) (y := .int .i64 ar) (z := y) c0 c1 c2
  exact ⟨far3 (World.cell?_setCell_same _ _ _ g3.c0) (by show w.heap.size ≠ w.heap.size + 1; omega), k0, k1, k2,
    T5.end ((h.setD u).setT _ _ _) (rd_setN (rd_setN (rd_setN (rd_setN hr (by show w.heap.size < c + 1; omega) _) e4 _) e4 _) e4 _) hl ho hT⟩
/-- The same, the table first. -/
theorem T5.fin2 (h : T5 w c v l X u Ts W) {nm : ByteArray} {ar : Int} {y : Value} {rows : List (List Int)} (hr : rowsC.rd W (fun b => c + 1 ≤ b ∧ b < W.heap.size) [y] rows) (hl : Ts.length ≤ 7) (ho : ∀ T ∈ Ts, OkD T) (hT : OkD (nm, ar, rows)) {W' : World}
    (e : W' = (((W.setCell ⟨w.heap.size + 1, 0, none⟩ (.string nm)).setCell ⟨w.heap.size + 1, 1, none⟩ (.int .i64 ar)).setCell ⟨w.heap.size + 1, 2, none⟩ y).setCell ⟨w.heap.size, 0, none⟩ u) :
    W'.cell? ⟨w.heap.size, 0, none⟩ = some u ∧ W'.cell? ⟨w.heap.size + 1, 0, none⟩ = some (.string nm) ∧ W'.cell? ⟨w.heap.size + 1, 1, none⟩ = some (.int .i64 ar) ∧ W'.cell? ⟨w.heap.size + 1, 2, none⟩ = some y ∧ SetDraw w (.returned (.tuple #[.agg #[u], .agg #[.string nm, .int .i64 ar, y]])) W' := by
  subst e
  have h1 := h.cb
  have e4 : w.heap.size + 1 < c + 1 := by omega
  obtain ⟨_, _, _, c0, c1, c2, _⟩ := h.lt
  obtain ⟨_, g3⟩ := (h.setT (.string nm) (.int .i64 ar) y).lr
  obtain ⟨k0, k1, k2⟩ := set3 (w := W) (k := w.heap.size + 1) (x := .string nm) (y := .int .i64 ar) (z := y) c0 c1 c2
  have hn : ∀ i, (⟨w.heap.size, 0, none⟩ : Addr) ≠ ⟨w.heap.size + 1, i, none⟩ := fun i q => by have := congrArg Addr.block q; simp only at this; omega
  refine ⟨World.cell?_setCell_same _ _ _ g3.c0, ?_, ?_, ?_, T5.end ((h.setT _ _ _).setD u) (rd_setN (rd_setN (rd_setN (rd_setN hr e4 _) e4 _) e4 _) (by show w.heap.size < c + 1; omega) _) hl ho hT⟩
  · rw [World.cell?_setCell_other _ _ _ _ (hn _)]; exact k0
  · rw [World.cell?_setCell_other _ _ _ _ (hn _)]; exact k1
  · rw [World.cell?_setCell_other _ _ _ _ (hn _)]; exact k2
end

end Go.Proofs.YtmifnbplkaonaaaGreat.DbDraw

namespace Go.Proofs.YtmifnbplkaonaaaGreat.UpdDraw
open Go Go.RowKit Byt Ints IntsLaw IntsWalk Draw LocDraw Cd Rows2 Tab TabDraw SlMath TabOpen TabElem SlTable Db TabSpec DbMath DbSpec DbExact DbAcc DbDraw Upd

/-- A drawn database and a drawn update. -/
def PairDraw (ps : List Value) (w : World) (e : Ending) (w' : World) : Prop :=
  ∃ (u : Value) (Ts : List T3) (nm : ByteArray) (b : Bool) (y : Value) (row : List Int), e = .returned (.tuple (ps ++ [Value.agg #[u], Value.agg #[.string nm, .bool b, y]]).toArray) ∧ tabsC.rd w' (fun b => w.heap.size ≤ b ∧ b < w'.heap.size) [u] Ts ∧ Ts.length ≤ 7 ∧ (∀ T ∈ Ts, OkD T) ∧
    rowC.rd w' (fun b => w.heap.size ≤ b ∧ b < w'.heap.size) [y] row ∧ nm.size ≤ 2 ∧ row.length ≤ 40 ∧ Below w.heap.size w w'
theorem upOk_of {Ts : List T3} (hl : Ts.length ≤ 7) (h : ∀ T ∈ Ts, OkD T) : UpOk Ts := ⟨hl, fun T hT => ⟨(h T hT).1, Nat.le_trans (h T hT).2.2 (by decide)⟩⟩
section
variable {w : World} {c : Nat} {v : Value} {l : List UInt8} {X : Nat} {u : Value} {Ts : List T3} {W W' : World}
/-- The results' cells are stored, the database first. -/
theorem both1 (h : T5 w c v l X u Ts W) {x y z : Value}
    (e : W' = (((W.setCell ⟨w.heap.size, 0, none⟩ u).setCell ⟨w.heap.size + 1, 0, none⟩ x).setCell ⟨w.heap.size + 1, 1, none⟩ y).setCell ⟨w.heap.size + 1, 2, none⟩ z) :
    W'.cell? ⟨w.heap.size, 0, none⟩ = some u ∧ W'.cell? ⟨w.heap.size + 1, 0, none⟩ = some x ∧ W'.cell? ⟨w.heap.size + 1, 1, none⟩ = some y ∧ W'.cell? ⟨w.heap.size + 1, 2, none⟩ = some z ∧ T5 w c v l X u Ts W' ∧
      ∀ row v', rowC.rd W (fun b => c + 1 ≤ b ∧ b < W.heap.size) [v'] row → rowC.rd W' (fun b => c + 1 ≤ b ∧ b < W'.heap.size) [v'] row := by
  subst e
  have h1 := h.cb
  have e4 : w.heap.size + 1 < c + 1 := by omega
  obtain ⟨_, g3⟩ := h.lr
  obtain ⟨_, _, _, c0, c1, c2, _⟩ := (h.setD u).lt
  obtain ⟨k0, k1, k2⟩ := set3 (w := W.setCell ⟨w.heap.size, 0, none⟩ u) (k := w.heap.size + 1) (x := x) (y := y) (z := z) c0 c1 c2
  exact ⟨far3 (World.cell?_setCell_same _ _ _ g3.c0) (by show w.heap.size ≠ w.heap.size + 1; omega), k0, k1, k2, (h.setD u).setT _ _ _,
    fun row v' hr => rd_setN (rd_setN (rd_setN (rd_setN hr (by show w.heap.size < c + 1; omega) _) e4 _) e4 _) e4 _⟩
/-- The same, the update first. -/
theorem both2 (h : T5 w c v l X u Ts W) {x y z : Value}
    (e : W' = (((W.setCell ⟨w.heap.size + 1, 0, none⟩ x).setCell ⟨w.heap.size + 1, 1, none⟩ y).setCell ⟨w.heap.size + 1, 2, none⟩ z).setCell ⟨w.heap.size, 0, none⟩ u) :
    W'.cell? ⟨w.heap.size, 0, none⟩ = some u ∧ W'.cell? ⟨w.heap.size + 1, 0, none⟩ = some x ∧ W'.cell? ⟨w.heap.size + 1, 1, none⟩ = some y ∧ W'.cell? ⟨w.heap.size + 1, 2, none⟩ = some z ∧ T5 w c v l X u Ts W' ∧
      ∀ row v', rowC.rd W (fun b => c + 1 ≤ b ∧ b < W.heap.size) [v'] row → rowC.rd W' (fun b => c + 1 ≤ b ∧ b < W'.heap.size) [v'] row := by
  subst e
  have h1 := h.cb
  have e4 : w.heap.size + 1 < c + 1 := by omega
  obtain ⟨_, _, _, c0, c1, c2, _⟩ := h.lt
  obtain ⟨_, g3⟩ := (h.setT x y z).lr
  obtain ⟨k0, k1, k2⟩ := set3 (w := W) (k := w.heap.size + 1) (x := x) (y := y) (z := z) c0 c1 c2
  have hn : ∀ i, (⟨w.heap.size, 0, none⟩ : Addr) ≠ ⟨w.heap.size + 1, i, none⟩ := fun i q => by have := congrArg Addr.block q; simp only at this; omega
  refine ⟨World.cell?_setCell_same _ _ _ g3.c0, ?_, ?_, ?_, (h.setT _ _ _).setD u, fun row v' hr => rd_setN (rd_setN (rd_setN (rd_setN hr e4 _) e4 _) e4 _) (by show w.heap.size < c + 1; omega) _⟩
  · rw [World.cell?_setCell_other _ _ _ _ (hn _)]; exact k0
  · rw [World.cell?_setCell_other _ _ _ _ (hn _)]; exact k1
  · rw [World.cell?_setCell_other _ _ _ _ (hn _)]; exact k2
end

set_option maxRecDepth 100000 in
set_option maxHeartbeats 3200000 in
theorem pair_any (v : Value) (l : List UInt8) (B : Nat) (w : World) (hr : Reads w v l B) (hBw : B ≤ w.heap.size) :
    Calls Tryz.prog 19 #[v] w (fun e w' => ∃ p, PairDraw [p] w e w') := by
  have HR := Lib.hid (fun w' (hb : Below w.heap.size w w') => hr.later (hb.mono hBw))
  have HN := Lib.hid (fun B w' (hr : Reads w' v l B) => new_any v l B w' hr)
  clear hr
  go_enter Tryz.func19, Tryz.ntmps19
  go_wp2_with fail
  generalize hW : (w.alloc _).alloc _ = W0
  obtain ⟨r0, r1, hz, hb0⟩ := start2g w _ _ hW
  clear hW
  refine (HN.out _ W0 (HR.out _ hb0)).mono ?_
  rintro e w1 ⟨rfl, hc1, hg1⟩
  have hb1 : Below W0.heap.size W0 w1 := ⟨hg1.os, hg1.tape, hg1.output, hg1.size, fun k hk => hg1.block k hk (by simp)⟩
  have HB1 := Lib.hid (Tab.below_then hb0 hb1)
  have HL1 := Lib.hid ((Loc1.of r0).later hb1)
  have HL3 := Lib.hid ((Loc3.of r1).later hb1)
  have hcs1 := cur_size hc1
  have HC1 := Lib.hid hc1
  obtain ⟨c, hcc⟩ : ∃ c, W0.heap.size = c := ⟨_, rfl⟩
  rw [hcc] at HC1 hcs1
  rw [hcc]
  have hcw : w.heap.size + 1 < c := by omega
  have HCW := Lib.hid hcw
  have hBc : B ≤ c := by omega
  clear r0 r1 hz hb0 hb1 hc1 hg1 HN hcc hcw
  have HD := Lib.hid (dbany_any c v l B w1 HC1.out (HR.out _ HB1.out) hBc)
  go_wp2_with fail
  refine HD.out.mono ?_
  rintro e w2 ⟨u, Ts, rfl, hrd, hlen, hok, hc2, hg2⟩
  obtain ⟨ad, cd, rfl, _⟩ := Cd.sl_form hrd
  have hcw := HCW.out
  have hst : T5 w c v l w2.heap.size (.slice ad Ts.length cd) Ts (w2.alloc (.cells #[.slice ad Ts.length cd] 26 (0, 0))) := by
    have hs2 := hg2.size
    refine ⟨Loc1.of (row_alloc _ _), ⟨_, (loc1_grown HL1.out hg2 (by omega)).later (below_alloc _ _)⟩, ⟨_, _, _, (loc_grown HL3.out hg2 (by omega)).later (below_alloc _ _)⟩, ?_, by omega, by omega, cur_allocI _ hc2, Tab.below_then (HB1.out.trans (below_of hg2 (by omega) hcs1)) (below_alloc _ _)⟩
    exact tabsC.mono (Cd.later hrd (below_alloc _ _)) fun b _ hb => ⟨by omega, by rw [size_alloc]; omega⟩
  have HS := Lib.hid hst
  have HLEN := Lib.hid hlen
  have HOK := Lib.hid hok
  clear hst hrd hlen hok hc2 hg2 HD HL1 HL3 HB1 HC1 hcs1 hcw
  go_upto_region 3 with fail
  generalize w2.alloc _ = W2 at *
  generalize w2.heap.size = X at *
  have z0 := HS.out.lx.c0
  obtain ⟨zz, z1⟩ := HS.out.lr
  obtain ⟨za, zb, zc, z2⟩ := HS.out.lt
  obtain ⟨z3, z4⟩ := z1
  obtain ⟨z5, z6, z7, z8, z9, z10⟩ := z2
  have HT := Lib.hid (fun W' (h : T5 w c v l X (.slice ad Ts.length cd) Ts W') => up_any c v l B _ Ts W' h.cu (HR.out _ h.bl) hBc h.rd (upOk_of HLEN.out HOK.out))
  have hs0 := HS.out.drew
  go_region_held3 (fun wx => wx.cell? ⟨X, 0, none⟩ = some (.slice ad Ts.length cd) ∧ T5 w c v l X (.slice ad Ts.length cd) Ts wx)
    (exact T5.all (by first | assumption | exact T5.setD (by assumption) _ | exact T5.setT (by assumption) _ _ _ | exact T5.setT (T5.setD (by assumption) _) _ _ _ | exact T5.setD (T5.setT (by assumption) _ _ _) _))
    (first | (go_at_call 48; refine (HT.out _ (by assumption)).mono ?_; rintro e w5 ⟨nm, b, y, row, f, rfl, how, hnf, hnm, hrl, hc5, hg5⟩; obtain ⟨a5, cap5, rfl⟩ := Cd.ow_slice how; (have hs5 : T5 w c v l X (.slice ad Ts.length cd) Ts w5 := T5.grown (by assumption) hg5 hc5); (have HRD := Lib.hid (rd_new how (T5.base (by assumption)))); (have HNM := Lib.hid hnm); (have HRL := Lib.hid hrl); (have y0 := hs5.lx.c0); obtain ⟨_, y3, y4⟩ := hs5.lr; obtain ⟨_, _, _, y5, y6, y7, y8, y9, y10⟩ := hs5.lt; clear how hnf hnm hrl hc5 hg5))
  all_goals
    go_wp2_with fail
    obtain ⟨k0, k1, k2, k3, hd, hrr⟩ := both1 (x := .string nm) (y := .bool b) (z := .slice a5 row.length cap5) hs5 rfl
    exact bodyPost_ret (v := .tuple #[.pointer (some ⟨c, 0, none⟩), .agg #[.slice ad Ts.length cd], .agg #[.string nm, .bool b, .slice a5 row.length cap5]]) (by simp [results, Tryz.results19, go_sem, k0, k1, k2, k3]) rfl ⟨.pointer (some ⟨c, 0, none⟩), _, Ts, nm, b, _, row, rfl, tabsC.mono hd.rd fun _ _ q => ⟨by have := HCW.out; have := q.1; omega, q.2⟩, HLEN.out, HOK.out, rowC.mono (hrr _ _ HRD.out) fun _ _ q => ⟨by have := HCW.out; have := q.1; omega, q.2⟩, HNM.out, HRL.out, hd.bl⟩

theorem four1 {W : World} {D : Nat} {a x0 x1 x2 u x y z : Value} (h1 : Loc1 W D a) (h3 : Loc3 W (D + 1) x0 x1 x2) {W' : World}
    (e : W' = (((W.setCell ⟨D, 0, none⟩ u).setCell ⟨D + 1, 0, none⟩ x).setCell ⟨D + 1, 1, none⟩ y).setCell ⟨D + 1, 2, none⟩ z) :
    W'.cell? ⟨D, 0, none⟩ = some u ∧ W'.cell? ⟨D + 1, 0, none⟩ = some x ∧ W'.cell? ⟨D + 1, 1, none⟩ = some y ∧ W'.cell? ⟨D + 1, 2, none⟩ = some z ∧ W'.heap.size = W.heap.size ∧ Below D W W' ∧ ∀ b, D + 2 ≤ b → W'.heap[b]? = W.heap[b]? := by
  subst e
  have h4 : Loc3 (W.setCell ⟨D, 0, none⟩ u) (D + 1) x0 x1 x2 := h3.set_far (by show D ≠ D + 1; omega) _
  obtain ⟨k0, k1, k2⟩ := set3 (w := W.setCell ⟨D, 0, none⟩ u) (k := D + 1) (x := x) (y := y) (z := z) h4.c0 h4.c1 h4.c2
  refine ⟨far3 (World.cell?_setCell_same _ _ _ h1.c0) (by show D ≠ D + 1; omega), k0, k1, k2, by simp, ((((Below.refl D W).setCell (Nat.le_refl _) _).setCell (Nat.le_succ _) _).setCell (Nat.le_succ _) _).setCell (Nat.le_succ _) _, fun b hb => ?_⟩
  rw [Below.heap_setCell _ _ _ b (by show b ≠ D + 1; omega), Below.heap_setCell _ _ _ b (by show b ≠ D + 1; omega), Below.heap_setCell _ _ _ b (by show b ≠ D + 1; omega), Below.heap_setCell _ _ _ b (by show b ≠ D; omega)]
theorem four2 {W : World} {D : Nat} {a x0 x1 x2 u x y z : Value} (h1 : Loc1 W D a) (h3 : Loc3 W (D + 1) x0 x1 x2) {W' : World}
    (e : W' = (((W.setCell ⟨D + 1, 0, none⟩ x).setCell ⟨D + 1, 1, none⟩ y).setCell ⟨D + 1, 2, none⟩ z).setCell ⟨D, 0, none⟩ u) :
    W'.cell? ⟨D, 0, none⟩ = some u ∧ W'.cell? ⟨D + 1, 0, none⟩ = some x ∧ W'.cell? ⟨D + 1, 1, none⟩ = some y ∧ W'.cell? ⟨D + 1, 2, none⟩ = some z ∧ W'.heap.size = W.heap.size ∧ Below D W W' ∧ ∀ b, D + 2 ≤ b → W'.heap[b]? = W.heap[b]? := by
  subst e
  obtain ⟨k0, k1, k2⟩ := set3 (w := W) (k := D + 1) (x := x) (y := y) (z := z) h3.c0 h3.c1 h3.c2
  have hn : ∀ i, (⟨D, 0, none⟩ : Addr) ≠ ⟨D + 1, i, none⟩ := fun i q => by have := congrArg Addr.block q; simp only at this; omega
  refine ⟨World.cell?_setCell_same _ _ _ (far3 h1.c0 (by show D ≠ D + 1; omega)), (World.cell?_setCell_other _ _ _ _ (hn _)).trans k0, (World.cell?_setCell_other _ _ _ _ (hn _)).trans k1, (World.cell?_setCell_other _ _ _ _ (hn _)).trans k2, by simp, ((((Below.refl D W).setCell (Nat.le_succ _) _).setCell (Nat.le_succ _) _).setCell (Nat.le_succ _) _).setCell (Nat.le_refl _) _, fun b hb => ?_⟩
  rw [Below.heap_setCell _ _ _ b (by show b ≠ D; omega), Below.heap_setCell _ _ _ b (by show b ≠ D + 1; omega), Below.heap_setCell _ _ _ b (by show b ≠ D + 1; omega), Below.heap_setCell _ _ _ b (by show b ≠ D + 1; omega)]

set_option maxRecDepth 100000 in
set_option maxHeartbeats 6400000 in
theorem draw_upd (v : Value) (l : List UInt8) (w : World) (hr : Reads w v l w.heap.size) :
    Calls Tryz.prog 5 #[v] w (PairDraw [] w) := by
  have HP := Lib.hid (fun w' (hb : Below w.heap.size w w') => pair_any v l w.heap.size w' (hr.later hb) hb.size)
  clear hr
  go_enter Tryz.func5, Tryz.ntmps5
  go_wp2_with fail
  generalize hW : (w.alloc _).alloc _ = W0
  obtain ⟨r0, r1, hz, hb0⟩ := start2g w _ _ hW
  clear hW
  refine (HP.out W0 hb0).mono ?_
  rintro e w1 ⟨pp, u, Ts, nm, b, y, row, he, hd, hlen, hok, hrow, hnm, hrl, hb1⟩
  obtain ⟨ad, cd, rfl, _⟩ := Cd.sl_form hd
  obtain ⟨ar, cr, rfl, _⟩ := Upd.row_form hrow
  simp only [List.cons_append, List.nil_append] at he
  subst he
  have hL1 := (Loc1.of r0).later hb1
  have hL3 := (Loc3.of r1).later hb1
  have HB1 := Lib.hid (Tab.below_then hb0 hb1)
  have HD := Lib.hid hd
  have HRW := Lib.hid hrow
  have HLS := Lib.hid (And.intro hlen (And.intro hnm hrl))
  have HOK := Lib.hid hok
  have HZ := Lib.hid hz
  have HSZ := Lib.hid hb1.size
  clear r0 r1 hz hb0 hd hlen hok hrow hnm hrl hb1 HP
  go_upto_region 2 with fail
  generalize hW : (w1.alloc _).alloc _ = W2
  obtain ⟨q0, q1, qz, hb2⟩ := start2g w1 _ _ hW
  obtain ⟨s0, _⟩ := Loc1.of q0
  obtain ⟨t0, t1, t2, _, _, _⟩ := Loc3.of q1
  have HM1 := Lib.hid (hL1.later hb2).drew
  have HM3 := Lib.hid (show Loc3 W2.drew (w.heap.size + 1) (.string ⟨#[]⟩) (.bool false) (.slice none 0 0) from (hL3.later hb2).keep rfl)
  have HB2 := Lib.hid (Below.drew (Tab.below_then HB1.out hb2))
  have HD2 := Lib.hid (tabsC.keep (w' := W2.drew) (Cd.later HD.out hb2) fun _ _ _ => rfl)
  have HR2 := Lib.hid (rowC.keep (w' := W2.drew) (Cd.later HRW.out hb2) fun _ _ _ => rfl)
  have HS2 := Lib.hid hb2.size
  obtain ⟨z3, z4⟩ := HM1.out
  obtain ⟨z5, z6, z7, z8, z9, z10⟩ := HM3.out
  have s0' : W2.drew.cell? ⟨w1.heap.size, 0, none⟩ = some (.slice ad Ts.length cd) := s0
  have t0' : W2.drew.cell? ⟨w1.heap.size + 1, 0, none⟩ = some (.string nm) := t0
  have t1' : W2.drew.cell? ⟨w1.heap.size + 1, 1, none⟩ = some (.bool b) := t1
  have t2' : W2.drew.cell? ⟨w1.heap.size + 1, 2, none⟩ = some (.slice ar row.length cr) := t2
  have hlt : w.heap.size + 1 < w1.heap.size := by have := HZ.out; have := HSZ.out; omega
  clear hW q0 q1 qz hb2 hL1 hL3 s0 t0 t1 t2
  have hfar : ∀ (d o p o2 : Nat), d ≤ w.heap.size + 1 → w1.heap.size ≤ p → (⟨d, o, none⟩ : Addr) ≠ ⟨p, o2, none⟩ := fun d o p o2 h1 h2 q => by have := congrArg Addr.block q; simp only at this; omega
  have hD0 : w.heap.size ≤ w.heap.size + 1 := by omega
  have hP1 : w1.heap.size ≤ w1.heap.size + 1 := by omega
  have hne : w1.heap.size ≠ w.heap.size + 1 := by omega
  have hne2 : w1.heap.size + 1 ≠ w.heap.size + 1 := by omega
  refine wp_region_held_drew (S := fun wx => wx.cell? ⟨w1.heap.size, 0, none⟩ = some (.slice ad Ts.length cd) ∧ wx.cell? ⟨w1.heap.size + 1, 0, none⟩ = some (.string nm) ∧ wx.cell? ⟨w1.heap.size + 1, 1, none⟩ = some (.bool b) ∧ wx.cell? ⟨w1.heap.size + 1, 2, none⟩ = some (.slice ar row.length cr)) (by kernel_rfl) ⟨s0', t0', t1', t2'⟩ (fun hHeld => ?_)
  refine RegH.takeH (i := 0) (v := ?_) rfl (by kernel_rfl) (by kernel_rfl) (by kernel_rfl) (fun _ _ _ h => h) (Or.inl ⟨by rfl, ?_⟩) (by assumption) ?_
  rotate_left
  · (intro wS hSw; (try dsimp only at hSw); (obtain ⟨r0, r1, r2, r3⟩ := hSw); go_simp; try (with_reducible rfl))
  try simp only [Act.put, List.setIfInBounds_toArray, List.set_cons_zero, List.set_cons_succ]
  refine RegH.takeH (i := 1) (v := ?_) rfl (by kernel_rfl) (by kernel_rfl) (by kernel_rfl) (fun _ _ _ h => h) (Or.inl ⟨by rfl, ?_⟩) (by assumption) ?_
  rotate_left
  · (intro wS hSw; (try dsimp only at hSw); (obtain ⟨r0, r1, r2, r3⟩ := hSw); go_simp; try (with_reducible rfl))
  try simp only [Act.put, List.setIfInBounds_toArray, List.set_cons_zero, List.set_cons_succ]
  clear hHeld
  generalize W2.drew = W3 at *
  have u0 := (World.cell?_setCell_other W3 ⟨w.heap.size, 0, none⟩ _ (.slice ad Ts.length cd) (hfar w.heap.size 0 w1.heap.size 0 hD0 (Nat.le_refl _))).trans s0'
  have u1 := (World.cell?_setCell_other W3 ⟨w.heap.size, 0, none⟩ _ (.slice ad Ts.length cd) (hfar w.heap.size 0 (w1.heap.size + 1) 0 hD0 hP1)).trans t0'
  have u2 := (World.cell?_setCell_other W3 ⟨w.heap.size, 0, none⟩ _ (.slice ad Ts.length cd) (hfar w.heap.size 0 (w1.heap.size + 1) 1 hD0 hP1)).trans t1'
  have u3 := (World.cell?_setCell_other W3 ⟨w.heap.size, 0, none⟩ _ (.slice ad Ts.length cd) (hfar w.heap.size 0 (w1.heap.size + 1) 2 hD0 hP1)).trans t2'
  obtain ⟨v5, v6, v7, v8, v9, v10⟩ := (HM3.out.set_far (p := ⟨w.heap.size, 0, none⟩) (show w.heap.size ≠ w.heap.size + 1 by omega) (.slice ad Ts.length cd))
  refine RegH.consH (i := 2) rfl (by kernel_rfl) (fun K hK => ?_)
  go_simp
  refine hK.out _ _ ?_ (fun hHeld => ?_)
  · exact ⟨u0, u1, u2, u3⟩
  clear hK K
  try simp only [Act.put, List.setIfInBounds_toArray, List.set_cons_zero, List.set_cons_succ]
  refine RegH.consH (i := 3) rfl (by kernel_rfl) (fun K hK => ?_)
  go_simp
  refine hK.out _ _ ?_ (fun hHeld => ?_)
  · exact ⟨far3 u0 hne, far3 u1 hne2, far3 u2 hne2, far3 u3 hne2⟩
  clear hK K
  try simp only [Act.put, List.setIfInBounds_toArray, List.set_cons_zero, List.set_cons_succ]
  refine wpAnyH_done (by kernel_rfl) ?_ _
  · go_wp2_with fail
    obtain ⟨k0, k1, k2, k3, k4, k5, k6⟩ := four1 (D := w.heap.size) (u := .slice ad Ts.length cd) (x := .string nm) (y := .bool b) (z := .slice ar row.length cr) HM1.out HM3.out rfl
    have hD3 := tabsC.keep HD2.out (fun q hq _ => k6 q (by have := HZ.out; have h := hq.1; omega))
    have hR3 := rowC.keep HR2.out (fun q hq _ => k6 q (by have := HZ.out; have h := hq.1; omega))
    have hD4 := tabsC.mono hD3 (fun q hlt hq => (⟨by have := HZ.out; have h := hq.1; omega, hlt⟩ : w.heap.size ≤ q ∧ q < _))
    have hR4 := rowC.mono hR3 (fun q hlt hq => (⟨by have := HZ.out; have h := hq.1; omega, hlt⟩ : w.heap.size ≤ q ∧ q < _))
    have hB4 := HB2.out.trans k5
    refine bodyPost_ret (v := .tuple #[.agg #[.slice ad Ts.length cd], .agg #[.string nm, .bool b, .slice ar row.length cr]]) (by simp [results, Tryz.results5, go_sem, k0, k1, k2, k3]) rfl ?_
    exact ⟨_, Ts, nm, b, _, row, rfl, hD4, HLS.out.1, HOK.out, hR4, HLS.out.2.1, HLS.out.2.2, hB4⟩
end Go.Proofs.YtmifnbplkaonaaaGreat.UpdDraw

namespace Go.Proofs.YtmifnbplkaonaaaGreat.DbAcc
open Go Go.RowKit Byt Ints IntsLaw Cd Rows2 Tab SlMath TabOpen TabElem SlTable Db TabSpec DbMath DbSpec DbExact

/-- Has a table been met that does not lie ahead of T? -/
def putB (T : T3) (l : List T3) : Bool := !(l.all fun U => ltB U.1 T.1)
def curP (T : T3) (l : List T3) : List T3 := if putB T l then putL T l else l
theorem putB_no {T : T3} {l : List T3} : putB T l = false ↔ ∀ U ∈ l, ltB U.1 T.1 = true := by unfold putB; simp
theorem putB_yes {T : T3} {l : List T3} : putB T l = true ↔ ∃ U ∈ l, ltB U.1 T.1 = false := by unfold putB; simp
theorem putB_more {T U : T3} {l : List T3} : putB T (l ++ [U]) = (putB T l || !ltB U.1 T.1) := by unfold putB; simp [Bool.not_and]
/-- None yet, and the next does not lie ahead. -/
theorem curP_first {T U : T3} {l : List T3} (h : putB T l = false) (hu : ltB U.1 T.1 = false) : putB T (l ++ [U]) = true ∧ curP T (l ++ [U]) = if U.1 = T.1 then l ++ [T] else l ++ [T] ++ [U] := by
  have h1 : putB T (l ++ [U]) = true := by rw [putB_more, h, hu]; rfl
  refine ⟨h1, ?_⟩
  unfold curP
  rw [if_pos h1, putL_all (putB_no.1 h)]
  show l ++ (if ltB U.1 T.1 = true then U :: putL T [] else if U.1 = T.1 then [T] else [T, U]) = _
  rw [hu, if_neg (by simp)]
  split
  · rfl
  · simp
theorem curP_next {T U : T3} {l : List T3} (h : putB T l = false) (hu : ltB U.1 T.1 = true) : putB T (l ++ [U]) = false ∧ curP T (l ++ [U]) = l ++ [U] := by
  have h1 : putB T (l ++ [U]) = false := by rw [putB_more, h, hu]; rfl
  exact ⟨h1, by unfold curP; rw [h1]; rfl⟩
theorem curP_past {T U : T3} {l : List T3} (h : putB T l = true) : putB T (l ++ [U]) = true ∧ curP T (l ++ [U]) = curP T l ++ [U] := by
  have h1 : putB T (l ++ [U]) = true := by rw [putB_more, h]; rfl
  refine ⟨h1, ?_⟩
  unfold curP
  rw [if_pos h1, if_pos h]
  exact putL_past (putB_yes.1 h) _
theorem curP_no {T : T3} {l : List T3} (h : putB T l = false) : curP T l = l := by unfold curP; rw [h]; rfl
/-- In an ascending list whatever follows one that does not lie ahead of T has another name. -/
theorem past_ne {T : T3} {l : List T3} {k : Nat} (ha : AscP l) (hk : k < l.length) (h : putB T (l.take k) = true) : (l[k]).1 ≠ T.1 := by
  obtain ⟨U, hU, hu⟩ := putB_yes.1 h
  obtain ⟨i, hi, rfl⟩ := List.getElem_of_mem hU
  rw [List.length_take] at hi
  rw [List.getElem_take] at hu
  have hlt := List.pairwise_iff_getElem.1 ha i k (by omega) hk (by omega)
  intro e
  unfold ltT at hlt
  rw [e, hu] at hlt
  cases hlt
theorem curP_all {T : T3} {l : List T3} (h : putB T l = true) : curP T l = putL T l := by unfold curP; rw [if_pos h]
theorem putL_none {T : T3} {l : List T3} (h : putB T l = false) : putL T l = l ++ [T] := by
  have := putL_all (putB_no.1 h) []
  rw [List.append_nil] at this
  exact this
theorem below_drewN (w : World) (n : Nat) : Below w.heap.size w (w.drewN n) := ⟨rfl, rfl, rfl, Nat.le_refl _, fun _ _ => rfl⟩
theorem len_curP (T : T3) (l : List T3) (ha : AscP l) : (curP T l).length ≤ l.length + 1 := by
  unfold curP
  split
  · rw [len_putL ha]; split <;> omega
  · omega

set_option maxRecDepth 100000 in
set_option maxHeartbeats 3200000 in
theorem spec_set (u : Value) (l : List T3) (T : T3) (at_ : Option Addr) (cc : Nat) (S S2 : Nat → Prop) (w : World) (h1 : tabsC.rd w S [u] l) (h2 : tabC.rd w S2 [.string T.1, .int .i64 T.2.1, .slice at_ T.2.2.length cc] T) (hw : wtS l ≤ 1048577) (hwt : wtT T ≤ 1048577) :
    Calls Tryz.prog 28 #[.agg #[u], .agg #[.string T.1, .int .i64 T.2.1, .slice at_ T.2.2.length cc]] w fun e w' => DbAns (setL l T) (setOk l T) w e w' := by
  have HR1 := Lib.hid (fun w' (hb : Below w.heap.size w w') => Cd.later h1 hb)
  have HV := Lib.hid (fun w' (hb : Below w.heap.size w w') => spec_dbok u l S w' (Cd.later h1 hb))
  have HVT := Lib.hid (fun w' (hb : Below w.heap.size w w') => val_elem _ T S2 w' (Cd.later h2 hb))
  have HCT := Lib.hid (fun w' (hb : Below w.heap.size w w') => copy_elem _ T S2 w' (Cd.later h2 hb) (by omega))
  have HDC := Lib.hid (fun w' (hb : Below w.heap.size w w') => spec_dbcopy u l S w' (Cd.later h1 hb) (by omega))
  obtain ⟨a1, cap1, rfl, hl1⟩ := Cd.sl_form h1
  have HWT := Lib.hid hw
  clear h1 h2 hw hwt
  go_enter Tryz.func28, Tryz.ntmps28
  go_wp2_with fail
  generalize hW : ((w.alloc _).alloc _).alloc _ = W
  obtain ⟨r0, r1, r2, hz, hb0⟩ := start3 w _ _ _ hW
  have HC0 := Lib.hid (Loc1.of r0)
  have HC1 := Lib.hid (Loc3.of r1)
  have HC2 := Lib.hid (Loc1.of r2)
  have HZZ := Lib.hid hz
  have HB0 := Lib.hid hb0
  clear hW r0 r1 r2 hz hb0
  refine (HV.out _ HB0.out).mono ?_
  rintro e w1 ⟨rfl, hb1⟩
  have HB1 := Lib.hid (below_then HB0.out hb1)
  have HC0a := Lib.hid (HC0.out.later hb1)
  have HC1a := Lib.hid (HC1.out.later hb1)
  have HC2a := Lib.hid (HC2.out.later hb1)
  have HS1 := Lib.hid (show w.heap.size + 3 ≤ w1.heap.size by have := hb1.size; have := HZZ.out; omega)
  have q0 := HC0a.out.c0
  have q1 := HC1a.out.c0
  have q2 := HC1a.out.c1
  have q3 := HC1a.out.c2
  clear hb1
  cases hv : dbOk l
  · have HNO := Lib.hid (show setOk l T = false by unfold setOk; rw [hv]; rfl)
    go_wp2_with fail
    refine (HDC.out _ HB1.out).mono ?_
    rintro e w9 ⟨u9, f9, rfl, ho9, hn9, hb9⟩
    obtain ⟨a9, c9, rfl⟩ := Cd.ow_slice (c := tabC) ho9
    have HC9 := Lib.hid (HC2a.out.later hb9)
    have y0 := HC9.out.c0
    have y1 := HC9.out.f0
    have HA := Lib.hid (DbAns.copy (b := setOk l T) (l' := setL l T) (Y := w.heap.size + 2) ho9 hn9 HB1.out hb9 (by omega) (World.block_lt_of_cell? _ _ HC2a.out.c0) (by unfold setL; rw [HNO.out]; rfl) HNO.out)
    clear ho9 hn9 hb9
    go_wp2_with fail
    have k0 : (w9.setCell ⟨w.heap.size + 2, 0, none⟩ (.slice a9 l.length c9)).cell? ⟨w.heap.size + 2, 0, none⟩ = some (.slice a9 l.length c9) := World.cell?_setCell_same _ _ _ y0
    refine bodyPost_ret (v := .tuple #[.agg #[.slice a9 l.length c9], .bool false]) (by simp [results, Tryz.results28, go_sem, k0]) rfl ?_
    exact HA.out
  have HP := Lib.hid (dbOk_iff.1 hv)
  have HVV := Lib.hid hv
  clear hv
  go_wp2_with fail
  refine (HVT.out _ HB1.out).mono ?_
  rintro e w2 ⟨rfl, hb2⟩
  have HB2 := Lib.hid (below_then HB1.out hb2)
  have HC0b := Lib.hid (HC0a.out.later hb2)
  have HC1b := Lib.hid (HC1a.out.later hb2)
  have HC2b := Lib.hid (HC2a.out.later hb2)
  have HS2 := Lib.hid (show w.heap.size + 3 ≤ w2.heap.size by have := hb2.size; have := HS1.out; omega)
  clear hb2 q0 q1 q2 q3
  have q0 := HC0b.out.c0
  cases hT : okT T
  · have HNO := Lib.hid (show setOk l T = false by unfold setOk; rw [hT]; simp)
    go_wp2_with fail
    refine (HDC.out _ HB2.out).mono ?_
    rintro e w9 ⟨u9, f9, rfl, ho9, hn9, hb9⟩
    obtain ⟨a9, c9, rfl⟩ := Cd.ow_slice (c := tabC) ho9
    have HC9 := Lib.hid (HC2b.out.later hb9)
    have y0 := HC9.out.c0
    have y1 := HC9.out.f0
    have HA := Lib.hid (DbAns.copy (b := setOk l T) (l' := setL l T) (Y := w.heap.size + 2) ho9 hn9 HB2.out hb9 (by omega) (World.block_lt_of_cell? _ _ HC2b.out.c0) (by unfold setL; rw [HNO.out]; rfl) HNO.out)
    clear ho9 hn9 hb9
    go_wp2_with fail
    have k0 : (w9.setCell ⟨w.heap.size + 2, 0, none⟩ (.slice a9 l.length c9)).cell? ⟨w.heap.size + 2, 0, none⟩ = some (.slice a9 l.length c9) := World.cell?_setCell_same _ _ _ y0
    refine bodyPost_ret (v := .tuple #[.agg #[.slice a9 l.length c9], .bool false]) (by simp [results, Tryz.results28, go_sem, k0]) rfl ?_
    exact HA.out
  have HTV := Lib.hid hT
  clear hT
  go_wp2_with fail
  generalize hg : World.alloc w2 _ = WF
  obtain ⟨r0, hz, hb0⟩ := start1 w2 _ hg
  have HACC0 := Lib.hid (AccS.start r0)
  have HBF := Lib.hid (below_then HB2.out hb0)
  have HD0 := Lib.hid (HC0b.out.later hb0)
  have HD1 := Lib.hid (HC1b.out.later hb0)
  have HD2 := Lib.hid (HC2b.out.later hb0)
  clear hg r0 hz hb0 q0
  go_loopw [7, 8] (fun pt i wr => ∃ (k : Nat) (a : Option Addr) (c : Nat) (fp : List Nat), k ≤ l.length ∧ pt = .bool (putB T (l.take k)) ∧ i = .int .i64 k ∧ AccS WF wr w2.heap.size (curP T (l.take k)) a c fp) (fun _ i _ => l.length - (intOf i).toNat)
  case atStart => exact ⟨0, none, 0, [], Nat.zero_le _, rfl, rfl, HACC0.out⟩
  case round =>
    obtain ⟨k, a, c, fp, hk, rfl, rfl, hacc⟩ := hrel
    have HACC := Lib.hid hacc
    have hX : w.heap.size + 2 < w2.heap.size := by have := HS2.out; omega
    have x0 := (HACC.out.loc1 HD0.out (by omega)).c0
    have x1 := (HACC.out.loc1 HD0.out (by omega)).lt
    have z0 := (HACC.out.loc3 HD1.out (by omega)).c0
    have z1 := (HACC.out.loc3 HD1.out (by omega)).c1
    have z2 := (HACC.out.loc3 HD1.out (by omega)).c2
    have z3 := (HACC.out.loc3 HD1.out (by omega)).lt
    have HBW := Lib.hid (HACC.out.below HBF.out (by omega))
    clear hacc
    by_cases hlt : k < l.length
    · obtain ⟨b, off, cap', us, e1, _, hbB, hat, hu⟩ := Cd.sl_at (HR1.out w (Below.refl _ _)) hlt
      injection e1 with e1 e2 e3
      subst e1 e3
      obtain ⟨x, y, z, rfl⟩ := len_list (tabC.len hu)
      have p0 := hat 0 (by simp)
      have p1 := hat 1 (by simp)
      have p2 := hat 2 (by simp)
      simp only [List.getElem_cons_zero, List.getElem_cons_succ, Nat.add_zero, show tabC.n = 3 from rfl] at p0 p1 p2
      have ht3 : wtT l[k] ≤ 1073741824 := by have := sumN_mem wtT hlt; have := HWT.out; unfold wtS at this; omega
      have HCU := Lib.hid (fun w' (hq : Below w.heap.size w w') => copy_elem [x, y, z] l[k] _ w' (Cd.later hu hq) ht3)
      have hx := name_cell hu
      have HAC : AscP (l.take k) := List.Pairwise.sublist (List.take_sublist _ _) HP.out.2.2
      have HLL := Lib.hid (show (curP T (l.take k)).length + 2 ≤ 1000000000 by have h1 := len_curP T (l.take k) HAC; rw [List.length_take] at h1; have h2 := HP.out.1; omega)
      have HTK := Lib.hid (show l.take (k + 1) = l.take k ++ [l[k]] from List.take_succ_eq_append_getElem hlt)
      have HPN := Lib.hid (fun h => past_ne (T := T) HP.out.2.2 hlt h)
      have HCELL := Lib.hid (And.intro p0 (And.intro p1 (And.intro p2 hbB)))
      replace p0 := (HBW.out.cell (p := ⟨b, off + k * 3, none⟩) hbB).trans p0
      replace p1 := (HBW.out.cell (p := ⟨b, off + k * 3 + 1, none⟩) hbB).trans p1
      replace p2 := (HBW.out.cell (p := ⟨b, off + k * 3 + 2, none⟩) hbB).trans p2
      have i1 : (0 : Int) ≤ (k : Int) := by omega
      have i2 : (k : Int) < (l.length : Int) := by omega
      have i3 : l.length ≤ 6 := HP.out.1
      clear hu hat e2 ht3 HAC
      generalize l[k] = U at *
      subst hx
      generalize l.take k = pre at *
      obtain ⟨cur, hcur⟩ : ∃ cur, curP T pre = cur := ⟨_, rfl⟩
      rw [hcur] at HACC HLL
      have HCUR := Lib.hid hcur
      clear hcur
      cases hput : putB T pre
      · have HPU := Lib.hid hput
        replace HCUR := Lib.hid (show pre = cur from (curP_no hput).symm.trans HCUR.out)
        clear hput
        cases hcm : Op.bytesLess U.1.toList T.1.toList
        · have HF := Lib.hid (curP_first (U := U) HPU.out hcm)
          go_wp2_with fail
          go_quiet (fail)
          have hdq := below_drewN wr nq
          replace HACC := Lib.hid (HACC.out.later hdq)
          clear x0 x1 z0 z1 z2 z3 p0 p1 p2 hbB
          clear hdq
          generalize World.drewN wr nq = wr1 at *
          have hbX := HACC.out.below HBF.out (by omega)
          have x0 := (HACC.out.loc1 HD0.out (by omega)).c0
          have x1 := (HACC.out.loc1 HD0.out (by omega)).lt
          have z0 := (HACC.out.loc3 HD1.out (by omega)).c0
          have z1 := (HACC.out.loc3 HD1.out (by omega)).c1
          have z2 := (HACC.out.loc3 HD1.out (by omega)).c2
          have z3 := (HACC.out.loc3 HD1.out (by omega)).lt
          have p0 := (hbX.cell (p := ⟨b, off + k * 3, none⟩) HCELL.out.2.2.2).trans HCELL.out.1
          have p1 := (hbX.cell (p := ⟨b, off + k * 3 + 1, none⟩) HCELL.out.2.2.2).trans HCELL.out.2.1
          have p2 := (hbX.cell (p := ⟨b, off + k * 3 + 2, none⟩) HCELL.out.2.2.2).trans HCELL.out.2.2.1
          have hbB := Nat.lt_of_lt_of_le HCELL.out.2.2.2 hbX.size
          have HBX := Lib.hid hbX
          clear hbX
          clear hcm
          go_wp2_with fail
          refine (HCT.out _ HBX.out).mono ?_
          rintro e w2t ⟨a2t, c2t, f2t, rfl, ho2, hn2, hb2⟩
          have h2 := HACC.out.later hb2
          have d2 := h2.cell
          have dl := World.block_lt_of_cell? _ _ d2
          have hl := HACC.out.laid hb2 ho2 hn2 51
          have H3 := Lib.hid hl.1
          have HLD := Lib.hid hl.2
          clear ho2 hn2 hb2 h2 hl HACC
          go_wp2_with (at_builtin; refine Cd.wpList_appendN (c := tabC) rfl (.tmp 46) (.tmp 48) 24 rfl WF.heap.size 51 (.agg #[.string ⟨#[]⟩, .int .i64 0, .slice none 0 0]) 3 48 rfl Tryz.underlying24 info_x rfl (by decide) _ cur fp rfl H3.out.ow H3.out.nd (w2t.heap.size + 1) _ rfl HLD.out.at_ T f2t HLD.out.ow HLD.out.nd HLD.out.far (by have := HLL.out; omega) H3.out.sz ?_)
          intro gt cap4t w4t fp4t ho4 hn4 _ ht4
          have HACC := Lib.hid (H3.out.app (cur' := cur ++ [T]) (n := cur.length + 1) (by simp) ht4 ho4 hn4)
          obtain ⟨e2, g2⟩ := H3.out.fcell ht4
          clear ho4 hn4 ht4 H3 HLD d2 dl
          clear x0 x1 z0 z1 z2 z3 p0 p1 p2 hbB
          clear HBX
          go_upto_region 12 with fail
          generalize World.setCell w4t _ _ = wA at *
          obtain ⟨cur1, hcur⟩ : ∃ q, cur ++ [T] = q := ⟨_, rfl⟩
          rw [hcur] at HACC
          have HCcur1 := Lib.hid hcur
          clear hcur e2 g2
          have hbX := HACC.out.below HBF.out (by omega)
          have x0 := (HACC.out.loc1 HD0.out (by omega)).c0
          have x1 := (HACC.out.loc1 HD0.out (by omega)).lt
          have z0 := (HACC.out.loc3 HD1.out (by omega)).c0
          have z1 := (HACC.out.loc3 HD1.out (by omega)).c1
          have z2 := (HACC.out.loc3 HD1.out (by omega)).c2
          have z3 := (HACC.out.loc3 HD1.out (by omega)).lt
          have p0 := (hbX.cell (p := ⟨b, off + k * 3, none⟩) HCELL.out.2.2.2).trans HCELL.out.1
          have p1 := (hbX.cell (p := ⟨b, off + k * 3 + 1, none⟩) HCELL.out.2.2.2).trans HCELL.out.2.1
          have p2 := (hbX.cell (p := ⟨b, off + k * 3 + 2, none⟩) HCELL.out.2.2.2).trans HCELL.out.2.2.1
          have hbB := Nat.lt_of_lt_of_le HCELL.out.2.2.2 hbX.size
          have HBX := Lib.hid hbX
          clear hbX
          by_cases he : U.1 = T.1
          · have he2 : (U.1.toList == T.1.toList) = true := by rw [eqB]; exact decide_eq_true he
            have HE := Lib.hid he
            clear he
            go_quiet (fail)
            have hdq := below_drewN wA nq
            replace HACC := Lib.hid (HACC.out.later hdq)
            clear x0 x1 z0 z1 z2 z3 p0 p1 p2 hbB
            clear hdq
            generalize World.drewN wA nq = wB at *
            have hbX := HACC.out.below HBF.out (by omega)
            have x0 := (HACC.out.loc1 HD0.out (by omega)).c0
            have x1 := (HACC.out.loc1 HD0.out (by omega)).lt
            have z0 := (HACC.out.loc3 HD1.out (by omega)).c0
            have z1 := (HACC.out.loc3 HD1.out (by omega)).c1
            have z2 := (HACC.out.loc3 HD1.out (by omega)).c2
            have z3 := (HACC.out.loc3 HD1.out (by omega)).lt
            have p0 := (hbX.cell (p := ⟨b, off + k * 3, none⟩) HCELL.out.2.2.2).trans HCELL.out.1
            have p1 := (hbX.cell (p := ⟨b, off + k * 3 + 1, none⟩) HCELL.out.2.2.2).trans HCELL.out.2.1
            have p2 := (hbX.cell (p := ⟨b, off + k * 3 + 2, none⟩) HCELL.out.2.2.2).trans HCELL.out.2.2.1
            have hbB := Nat.lt_of_lt_of_le HCELL.out.2.2.2 hbX.size
            have HBX := Lib.hid hbX
            clear hbX
            clear he2
            go_wp2_with fail
            go_roundw
            case rel => exact ⟨k + 1, some ⟨gt, 0, none⟩, cap4t, fp4t, by omega, by rw [HTK.out, HF.out.1], by go_num, HACC.out.shift (by rw [HTK.out]; exact (by rw [HF.out.2, if_pos HE.out, HCUR.out, HCcur1.out]))⟩
            case measure => simp [intOf]; omega
          · have he2 : (U.1.toList == T.1.toList) = false := by rw [eqB]; exact decide_eq_false he
            have HE := Lib.hid he
            have HLL1 := Lib.hid (show cur1.length + 1 ≤ 1000000000 by rw [← HCcur1.out, List.length_append]; have := HLL.out; simp; omega)
            clear he
            go_quiet (fail)
            have hdq := below_drewN wA nq
            replace HACC := Lib.hid (HACC.out.later hdq)
            clear x0 x1 z0 z1 z2 z3 p0 p1 p2 hbB
            clear hdq
            generalize World.drewN wA nq = wB at *
            have hbX := HACC.out.below HBF.out (by omega)
            have x0 := (HACC.out.loc1 HD0.out (by omega)).c0
            have x1 := (HACC.out.loc1 HD0.out (by omega)).lt
            have z0 := (HACC.out.loc3 HD1.out (by omega)).c0
            have z1 := (HACC.out.loc3 HD1.out (by omega)).c1
            have z2 := (HACC.out.loc3 HD1.out (by omega)).c2
            have z3 := (HACC.out.loc3 HD1.out (by omega)).lt
            have p0 := (hbX.cell (p := ⟨b, off + k * 3, none⟩) HCELL.out.2.2.2).trans HCELL.out.1
            have p1 := (hbX.cell (p := ⟨b, off + k * 3 + 1, none⟩) HCELL.out.2.2.2).trans HCELL.out.2.1
            have p2 := (hbX.cell (p := ⟨b, off + k * 3 + 2, none⟩) HCELL.out.2.2.2).trans HCELL.out.2.2.1
            have hbB := Nat.lt_of_lt_of_le HCELL.out.2.2.2 hbX.size
            have HBX := Lib.hid hbX
            clear hbX
            clear he2
            go_wp2_with fail
            refine (HCU.out _ HBX.out).mono ?_
            rintro e w2u ⟨a2u, c2u, f2u, rfl, ho2, hn2, hb2⟩
            have h2 := HACC.out.later hb2
            have d2 := h2.cell
            have dl := World.block_lt_of_cell? _ _ d2
            have hl := HACC.out.laid hb2 ho2 hn2 51
            have H3 := Lib.hid hl.1
            have HLD := Lib.hid hl.2
            clear ho2 hn2 hb2 h2 hl HACC
            go_wp2_with (at_builtin; refine Cd.wpList_appendN (c := tabC) rfl (.tmp 67) (.tmp 69) 24 rfl WF.heap.size 51 (.agg #[.string ⟨#[]⟩, .int .i64 0, .slice none 0 0]) 3 48 rfl Tryz.underlying24 info_x rfl (by decide) _ cur1 fp4t rfl H3.out.ow H3.out.nd (w2u.heap.size + 1) _ rfl HLD.out.at_ U f2u HLD.out.ow HLD.out.nd HLD.out.far HLL1.out H3.out.sz ?_)
            intro gu cap4u w4u fp4u ho4 hn4 _ ht4
            have HACC := Lib.hid (H3.out.app (cur' := cur1 ++ [U]) (n := cur1.length + 1) (by simp) ht4 ho4 hn4)
            obtain ⟨e2, g2⟩ := H3.out.fcell ht4
            clear ho4 hn4 ht4 H3 HLD d2 dl
            clear x0 x1 z0 z1 z2 z3 p0 p1 p2 hbB
            clear HBX
            go_wp2_with fail
            go_roundw
            case rel => exact ⟨k + 1, some ⟨gu, 0, none⟩, cap4u, fp4u, by omega, by rw [HTK.out, HF.out.1], by go_num, HACC.out.shift (by rw [HTK.out]; exact (by rw [HF.out.2, if_neg HE.out, HCUR.out, HCcur1.out]))⟩
            case measure => simp [intOf]; omega
        · have HF := Lib.hid (curP_next (U := U) HPU.out hcm)
          have he2 : (U.1.toList == T.1.toList) = false := by rw [eqB]; exact decide_eq_false (ltB_ne hcm)
          go_wp2_with fail
          go_quiet (fail)
          have hdq := below_drewN wr nq
          replace HACC := Lib.hid (HACC.out.later hdq)
          clear x0 x1 z0 z1 z2 z3 p0 p1 p2 hbB
          clear hdq
          generalize World.drewN wr nq = wr1 at *
          have hbX := HACC.out.below HBF.out (by omega)
          have x0 := (HACC.out.loc1 HD0.out (by omega)).c0
          have x1 := (HACC.out.loc1 HD0.out (by omega)).lt
          have z0 := (HACC.out.loc3 HD1.out (by omega)).c0
          have z1 := (HACC.out.loc3 HD1.out (by omega)).c1
          have z2 := (HACC.out.loc3 HD1.out (by omega)).c2
          have z3 := (HACC.out.loc3 HD1.out (by omega)).lt
          have p0 := (hbX.cell (p := ⟨b, off + k * 3, none⟩) HCELL.out.2.2.2).trans HCELL.out.1
          have p1 := (hbX.cell (p := ⟨b, off + k * 3 + 1, none⟩) HCELL.out.2.2.2).trans HCELL.out.2.1
          have p2 := (hbX.cell (p := ⟨b, off + k * 3 + 2, none⟩) HCELL.out.2.2.2).trans HCELL.out.2.2.1
          have hbB := Nat.lt_of_lt_of_le HCELL.out.2.2.2 hbX.size
          have HBX := Lib.hid hbX
          clear hbX
          clear hcm
          go_wp2_with fail
          go_quiet (fail)
          have hdq := below_drewN wr1 nq
          replace HACC := Lib.hid (HACC.out.later hdq)
          clear x0 x1 z0 z1 z2 z3 p0 p1 p2 hbB
          clear hdq
          generalize World.drewN wr1 nq = wB at *
          have hbX := HACC.out.below HBF.out (by omega)
          have x0 := (HACC.out.loc1 HD0.out (by omega)).c0
          have x1 := (HACC.out.loc1 HD0.out (by omega)).lt
          have z0 := (HACC.out.loc3 HD1.out (by omega)).c0
          have z1 := (HACC.out.loc3 HD1.out (by omega)).c1
          have z2 := (HACC.out.loc3 HD1.out (by omega)).c2
          have z3 := (HACC.out.loc3 HD1.out (by omega)).lt
          have p0 := (hbX.cell (p := ⟨b, off + k * 3, none⟩) HCELL.out.2.2.2).trans HCELL.out.1
          have p1 := (hbX.cell (p := ⟨b, off + k * 3 + 1, none⟩) HCELL.out.2.2.2).trans HCELL.out.2.1
          have p2 := (hbX.cell (p := ⟨b, off + k * 3 + 2, none⟩) HCELL.out.2.2.2).trans HCELL.out.2.2.1
          have hbB := Nat.lt_of_lt_of_le HCELL.out.2.2.2 hbX.size
          have HBX := Lib.hid hbX
          clear hbX
          clear he2
          go_wp2_with fail
          refine (HCU.out _ HBX.out).mono ?_
          rintro e w2u ⟨a2u, c2u, f2u, rfl, ho2, hn2, hb2⟩
          have h2 := HACC.out.later hb2
          have d2 := h2.cell
          have dl := World.block_lt_of_cell? _ _ d2
          have hl := HACC.out.laid hb2 ho2 hn2 51
          have H3 := Lib.hid hl.1
          have HLD := Lib.hid hl.2
          clear ho2 hn2 hb2 h2 hl HACC
          go_wp2_with (at_builtin; refine Cd.wpList_appendN (c := tabC) rfl (.tmp 67) (.tmp 69) 24 rfl WF.heap.size 51 (.agg #[.string ⟨#[]⟩, .int .i64 0, .slice none 0 0]) 3 48 rfl Tryz.underlying24 info_x rfl (by decide) _ cur fp rfl H3.out.ow H3.out.nd (w2u.heap.size + 1) _ rfl HLD.out.at_ U f2u HLD.out.ow HLD.out.nd HLD.out.far (by have := HLL.out; omega) H3.out.sz ?_)
          intro gu cap4u w4u fp4u ho4 hn4 _ ht4
          have HACC := Lib.hid (H3.out.app (cur' := cur ++ [U]) (n := cur.length + 1) (by simp) ht4 ho4 hn4)
          obtain ⟨e2, g2⟩ := H3.out.fcell ht4
          clear ho4 hn4 ht4 H3 HLD d2 dl
          clear x0 x1 z0 z1 z2 z3 p0 p1 p2 hbB
          clear HBX
          go_wp2_with fail
          go_roundw
          case rel => exact ⟨k + 1, some ⟨gu, 0, none⟩, cap4u, fp4u, by omega, by rw [HTK.out, HF.out.1], by go_num, HACC.out.shift (by rw [HTK.out]; exact (by rw [HF.out.2, HCUR.out]))⟩
          case measure => simp [intOf]; omega
      · have HF := Lib.hid (curP_past (U := U) hput)
        have he2 : (U.1.toList == T.1.toList) = false := by rw [eqB]; exact decide_eq_false (HPN.out hput)
        clear hput
        go_wp2_with fail
        go_quiet (fail)
        have hdq := below_drewN wr nq
        replace HACC := Lib.hid (HACC.out.later hdq)
        clear x0 x1 z0 z1 z2 z3 p0 p1 p2 hbB
        clear hdq
        generalize World.drewN wr nq = wr1 at *
        have hbX := HACC.out.below HBF.out (by omega)
        have x0 := (HACC.out.loc1 HD0.out (by omega)).c0
        have x1 := (HACC.out.loc1 HD0.out (by omega)).lt
        have z0 := (HACC.out.loc3 HD1.out (by omega)).c0
        have z1 := (HACC.out.loc3 HD1.out (by omega)).c1
        have z2 := (HACC.out.loc3 HD1.out (by omega)).c2
        have z3 := (HACC.out.loc3 HD1.out (by omega)).lt
        have p0 := (hbX.cell (p := ⟨b, off + k * 3, none⟩) HCELL.out.2.2.2).trans HCELL.out.1
        have p1 := (hbX.cell (p := ⟨b, off + k * 3 + 1, none⟩) HCELL.out.2.2.2).trans HCELL.out.2.1
        have p2 := (hbX.cell (p := ⟨b, off + k * 3 + 2, none⟩) HCELL.out.2.2.2).trans HCELL.out.2.2.1
        have hbB := Nat.lt_of_lt_of_le HCELL.out.2.2.2 hbX.size
        have HBX := Lib.hid hbX
        clear hbX
        go_wp2_with fail
        go_quiet (fail)
        have hdq := below_drewN wr1 nq
        replace HACC := Lib.hid (HACC.out.later hdq)
        clear x0 x1 z0 z1 z2 z3 p0 p1 p2 hbB
        clear hdq
        generalize World.drewN wr1 nq = wB at *
        have hbX := HACC.out.below HBF.out (by omega)
        have x0 := (HACC.out.loc1 HD0.out (by omega)).c0
        have x1 := (HACC.out.loc1 HD0.out (by omega)).lt
        have z0 := (HACC.out.loc3 HD1.out (by omega)).c0
        have z1 := (HACC.out.loc3 HD1.out (by omega)).c1
        have z2 := (HACC.out.loc3 HD1.out (by omega)).c2
        have z3 := (HACC.out.loc3 HD1.out (by omega)).lt
        have p0 := (hbX.cell (p := ⟨b, off + k * 3, none⟩) HCELL.out.2.2.2).trans HCELL.out.1
        have p1 := (hbX.cell (p := ⟨b, off + k * 3 + 1, none⟩) HCELL.out.2.2.2).trans HCELL.out.2.1
        have p2 := (hbX.cell (p := ⟨b, off + k * 3 + 2, none⟩) HCELL.out.2.2.2).trans HCELL.out.2.2.1
        have hbB := Nat.lt_of_lt_of_le HCELL.out.2.2.2 hbX.size
        have HBX := Lib.hid hbX
        clear hbX
        clear he2
        go_wp2_with fail
        refine (HCU.out _ HBX.out).mono ?_
        rintro e w2u ⟨a2u, c2u, f2u, rfl, ho2, hn2, hb2⟩
        have h2 := HACC.out.later hb2
        have d2 := h2.cell
        have dl := World.block_lt_of_cell? _ _ d2
        have hl := HACC.out.laid hb2 ho2 hn2 51
        have H3 := Lib.hid hl.1
        have HLD := Lib.hid hl.2
        clear ho2 hn2 hb2 h2 hl HACC
        go_wp2_with (at_builtin; refine Cd.wpList_appendN (c := tabC) rfl (.tmp 67) (.tmp 69) 24 rfl WF.heap.size 51 (.agg #[.string ⟨#[]⟩, .int .i64 0, .slice none 0 0]) 3 48 rfl Tryz.underlying24 info_x rfl (by decide) _ cur fp rfl H3.out.ow H3.out.nd (w2u.heap.size + 1) _ rfl HLD.out.at_ U f2u HLD.out.ow HLD.out.nd HLD.out.far (by have := HLL.out; omega) H3.out.sz ?_)
        intro gu cap4u w4u fp4u ho4 hn4 _ ht4
        have HACC := Lib.hid (H3.out.app (cur' := cur ++ [U]) (n := cur.length + 1) (by simp) ht4 ho4 hn4)
        obtain ⟨e2, g2⟩ := H3.out.fcell ht4
        clear ho4 hn4 ht4 H3 HLD d2 dl
        clear x0 x1 z0 z1 z2 z3 p0 p1 p2 hbB
        clear HBX
        go_wp2_with fail
        go_roundw
        case rel => exact ⟨k + 1, some ⟨gu, 0, none⟩, cap4u, fp4u, by omega, by rw [HTK.out, HF.out.1], by go_num, HACC.out.shift (by rw [HTK.out]; exact (by rw [HF.out.2, HCUR.out]))⟩
        case measure => simp [intOf]; omega
    · have ek : k = l.length := by omega
      subst ek
      rw [List.take_length] at HACC
      have i3 : l.length ≤ 6 := HP.out.1
      obtain ⟨cur, hcur⟩ : ∃ cur, curP T l = cur := ⟨_, rfl⟩
      rw [hcur] at HACC
      rw [List.take_length]
      cases hput : putB T l
      · have HCUR := Lib.hid (show l = cur from (curP_no hput).symm.trans hcur)
        have HPN := Lib.hid (putL_none hput)
        have HLL := Lib.hid (show cur.length + 1 ≤ 1000000000 by rw [← HCUR.out]; omega)
        have HBX := Lib.hid HBW.out
        clear hput hcur
        go_wp2_with fail
        refine (HCT.out _ HBX.out).mono ?_
        rintro e w2t ⟨a2t, c2t, f2t, rfl, ho2, hn2, hb2⟩
        have h2 := HACC.out.later hb2
        have d2 := h2.cell
        have dl := World.block_lt_of_cell? _ _ d2
        have hl := HACC.out.laid hb2 ho2 hn2 51
        have H3 := Lib.hid hl.1
        have HLD := Lib.hid hl.2
        clear ho2 hn2 hb2 h2 hl HACC
        go_wp2_with (at_builtin; refine Cd.wpList_appendN (c := tabC) rfl (.tmp 77) (.tmp 79) 24 rfl WF.heap.size 51 (.agg #[.string ⟨#[]⟩, .int .i64 0, .slice none 0 0]) 3 48 rfl Tryz.underlying24 info_x rfl (by decide) _ cur fp rfl H3.out.ow H3.out.nd (w2t.heap.size + 1) _ rfl HLD.out.at_ T f2t HLD.out.ow HLD.out.nd HLD.out.far HLL.out H3.out.sz ?_)
        intro gt cap4t w4t fp4t ho4 hn4 _ ht4
        have HACC := Lib.hid (H3.out.app (cur' := cur ++ [T]) (n := cur.length + 1) (by simp) ht4 ho4 hn4)
        obtain ⟨e2, g2⟩ := H3.out.fcell ht4
        clear ho4 hn4 ht4 H3 HLD d2 dl
        clear x0 x1 z0 z1 z2 z3 HBX
        go_upto_region 18 with fail
        generalize World.setCell w4t _ _ = wA at *
        obtain ⟨cur1, hcur⟩ : ∃ q, cur ++ [T] = q := ⟨_, rfl⟩
        rw [hcur] at HACC
        have HCcur1 := Lib.hid hcur
        clear hcur e2 g2
        have HCL := Lib.hid (show cur1 = putL T l by rw [HPN.out, ← HCcur1.out, ← HCUR.out])
        have hbX := HACC.out.below HBF.out (by omega)
        have HBX := Lib.hid hbX
        have x0 := (HACC.out.loc1 HD0.out (by omega)).c0
        have x6 := HACC.out.cell
        have HVX := Lib.hid (spec_dbok _ cur1 _ _ (tabsC.ow_rd HACC.out.ow))
        clear hbX
        go_wp2_with fail
        refine HVX.out.mono ?_
        rintro e wv ⟨rfl, hbv⟩
        replace HACC := Lib.hid (HACC.out.later hbv)
        have HBV := Lib.hid (below_then HBX.out hbv)
        clear hbv x0 x6
        have x0 := (HACC.out.loc1 HD0.out (by omega)).c0
        have x6 := HACC.out.cell
        have hy := HACC.out.loc1 HD2.out (by omega)
        have y0 := hy.c0
        have y1 := hy.f0
        have HY := Lib.hid hy
        clear hy
        cases hvx : dbOk cur1
        · have HNO := Lib.hid (show setOk l T = false by unfold setOk; rw [HVV.out, HTV.out]; have := dbOk_putL HVV.out HTV.out; rw [← HCL.out, hvx] at this; rw [← HCL.out, ← this]; rfl)
          clear y0 y1 hvx
          go_wp2_with fail
          refine (HDC.out _ HBV.out).mono ?_
          rintro e w9 ⟨u9, f9, rfl, ho9, hn9, hb9⟩
          obtain ⟨a9, c9, rfl⟩ := Cd.ow_slice (c := tabC) ho9
          have HC9 := Lib.hid (HY.out.later hb9)
          have y0 := HC9.out.c0
          have y1 := HC9.out.f0
          have HA := Lib.hid (DbAns.copy (b := setOk l T) (l' := setL l T) (Y := w.heap.size + 2) ho9 hn9 HBV.out hb9 (by omega) (World.block_lt_of_cell? _ _ HY.out.c0) (by unfold setL; rw [HNO.out]; rfl) HNO.out)
          clear ho9 hn9 hb9
          go_wp2_with fail
          have k0 : (w9.setCell ⟨w.heap.size + 2, 0, none⟩ (.slice a9 l.length c9)).cell? ⟨w.heap.size + 2, 0, none⟩ = some (.slice a9 l.length c9) := World.cell?_setCell_same _ _ _ y0
          refine bodyPost_ret (v := .tuple #[.agg #[.slice a9 l.length c9], .bool false]) (by simp [results, Tryz.results28, go_sem, k0]) rfl ?_
          exact HA.out
        · have HYES := Lib.hid (show setOk l T = true by unfold setOk; rw [HVV.out, HTV.out]; have := dbOk_putL HVV.out HTV.out; rw [← HCL.out, hvx] at this; rw [← HCL.out, ← this]; rfl)
          clear hvx
          go_wp2_with fail
          have k0 : (wv.setCell ⟨w.heap.size + 2, 0, none⟩ (.slice (some ⟨gt, 0, none⟩) cur1.length cap4t)).cell? ⟨w.heap.size + 2, 0, none⟩ = some (.slice (some ⟨gt, 0, none⟩) cur1.length cap4t) := World.cell?_setCell_same _ _ _ HY.out.c0
          refine bodyPost_ret (v := .tuple #[.agg #[.slice (some ⟨gt, 0, none⟩) cur1.length cap4t], .bool true]) (by simp [results, Tryz.results28, go_sem, k0]) rfl ?_
          exact HACC.out.ans (Y := w.heap.size + 2) HBF.out (by omega) (by omega) HD2.out.lt (by unfold setL; rw [HYES.out, HCL.out]; rfl) HYES.out
      · have HCL := Lib.hid (show cur = putL T l from hcur.symm.trans (curP_all hput))
        clear hput hcur
        go_upto_region 18 with fail
        clear x0 x1 z0 z1 z2 z3
        have hbX := HACC.out.below HBF.out (by omega)
        have HBX := Lib.hid hbX
        have x0 := (HACC.out.loc1 HD0.out (by omega)).c0
        have x6 := HACC.out.cell
        have HVX := Lib.hid (spec_dbok _ cur _ _ (tabsC.ow_rd HACC.out.ow))
        clear hbX
        go_wp2_with fail
        refine HVX.out.mono ?_
        rintro e wv ⟨rfl, hbv⟩
        replace HACC := Lib.hid (HACC.out.later hbv)
        have HBV := Lib.hid (below_then HBX.out hbv)
        clear hbv x0 x6
        have x0 := (HACC.out.loc1 HD0.out (by omega)).c0
        have x6 := HACC.out.cell
        have hy := HACC.out.loc1 HD2.out (by omega)
        have y0 := hy.c0
        have y1 := hy.f0
        have HY := Lib.hid hy
        clear hy
        cases hvx : dbOk cur
        · have HNO := Lib.hid (show setOk l T = false by unfold setOk; rw [HVV.out, HTV.out]; have := dbOk_putL HVV.out HTV.out; rw [← HCL.out, hvx] at this; rw [← HCL.out, ← this]; rfl)
          clear y0 y1 hvx
          go_wp2_with fail
          refine (HDC.out _ HBV.out).mono ?_
          rintro e w9 ⟨u9, f9, rfl, ho9, hn9, hb9⟩
          obtain ⟨a9, c9, rfl⟩ := Cd.ow_slice (c := tabC) ho9
          have HC9 := Lib.hid (HY.out.later hb9)
          have y0 := HC9.out.c0
          have y1 := HC9.out.f0
          have HA := Lib.hid (DbAns.copy (b := setOk l T) (l' := setL l T) (Y := w.heap.size + 2) ho9 hn9 HBV.out hb9 (by omega) (World.block_lt_of_cell? _ _ HY.out.c0) (by unfold setL; rw [HNO.out]; rfl) HNO.out)
          clear ho9 hn9 hb9
          go_wp2_with fail
          have k0 : (w9.setCell ⟨w.heap.size + 2, 0, none⟩ (.slice a9 l.length c9)).cell? ⟨w.heap.size + 2, 0, none⟩ = some (.slice a9 l.length c9) := World.cell?_setCell_same _ _ _ y0
          refine bodyPost_ret (v := .tuple #[.agg #[.slice a9 l.length c9], .bool false]) (by simp [results, Tryz.results28, go_sem, k0]) rfl ?_
          exact HA.out
        · have HYES := Lib.hid (show setOk l T = true by unfold setOk; rw [HVV.out, HTV.out]; have := dbOk_putL HVV.out HTV.out; rw [← HCL.out, hvx] at this; rw [← HCL.out, ← this]; rfl)
          clear hvx
          go_wp2_with fail
          have k0 : (wv.setCell ⟨w.heap.size + 2, 0, none⟩ (.slice a cur.length c)).cell? ⟨w.heap.size + 2, 0, none⟩ = some (.slice a cur.length c) := World.cell?_setCell_same _ _ _ HY.out.c0
          refine bodyPost_ret (v := .tuple #[.agg #[.slice a cur.length c], .bool true]) (by simp [results, Tryz.results28, go_sem, k0]) rfl ?_
          exact HACC.out.ans (Y := w.heap.size + 2) HBF.out (by omega) (by omega) HD2.out.lt (by unfold setL; rw [HYES.out, HCL.out]; rfl) HYES.out
end Go.Proofs.YtmifnbplkaonaaaGreat.DbAcc
