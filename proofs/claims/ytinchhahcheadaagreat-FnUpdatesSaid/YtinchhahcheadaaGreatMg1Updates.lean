/- Texts that the proof rests on, one behind the other. -/
import Derived.Test.YtinchhahcheadaaGreatTabDel
import Derived.StillTailTactics
import Derived.Test.YtinchhahcheadaaGreatCdRoom
import Derived.Sort.Row
import Derived.Test.YtinchhahcheadaaGreatTabImp6
import Derived.Test.YtinchhahcheadaaGreatTabElem
import Derived.Test.YtinchhahcheadaaGreatSlMath
import Derived.Test.YtinchhahcheadaaGreatDbMath
import Derived.Test.YtinchhahcheadaaGreatTabIns
import Derived.Test.YtinchhahcheadaaGreatUpd
import Derived.Test.YtinchhahcheadaaGreatTabParse
import Derived.Shelf.Strings.FieldsAny
import Derived.Lib.IndexMore
import Derived.Test.YtinchhahcheadaaGreatUpdParse2
import Derived.Test.YtinchhahcheadaaGreatFormat
import Derived.Test.YtinchhahcheadaaGreatTabCopy
import Derived.Test.YtinchhahcheadaaGreatTabSpec2
import Derived.Test.YtinchhahcheadaaGreatByt
import Derived.Deep.RegionHeld3

namespace Go.Proofs.YtinchhahcheadaaGreat.TabSpec
open Go Go.RowKit Byt Ints IntsLaw Cd Rows2 Tab

theorem putStep_wt (row : List Int) (st : List (List Int) × Bool) (r : List Int) : rowsWt (putStep row st r).1 + (!(putStep row st r).2).toNat * (row.length + 1) ≤ rowsWt st.1 + (!st.2).toNat * (row.length + 1) + r.length + 1 := by
  obtain ⟨o, p⟩ := st
  unfold putStep
  by_cases h1 : cmpR r row = 0
  · rw [if_pos h1]
    cases p <;> simp [rowsWt] <;> omega
  · rw [if_neg h1]
    cases p with
    | false =>
      by_cases h2 : 0 < cmpR r row
      · rw [if_pos ⟨h2, rfl⟩]; simp [rowsWt]; omega
      · rw [if_neg (fun q => h2 q.1)]; simp [rowsWt]; omega
    | true =>
      rw [if_neg (fun q => by simp at q)]; simp [rowsWt]; omega
theorem putF_wt (row : List Int) : ∀ (l : List (List Int)) (st : List (List Int) × Bool), rowsWt (l.foldl (putStep row) st).1 + (!(l.foldl (putStep row) st).2).toNat * (row.length + 1) ≤ rowsWt st.1 + (!st.2).toNat * (row.length + 1) + rowsWt l
  | [], st => Nat.le_add_right _ _
  | r :: rs, st => by
    have h1 := putF_wt row rs (putStep row st r)
    have h2 := putStep_wt row st r
    have h3 : rowsWt (r :: rs) = rowsWt rs + r.length + 1 := by simp [rowsWt]; omega
    rw [List.foldl_cons, h3]
    omega
theorem putR_wt (rows : List (List Int)) (row : List Int) : rowsWt (putR rows row) ≤ rowsWt rows + row.length + 1 := by
  have h := putF_wt row rows ([], false)
  have e : rows.foldl (putStep row) ([], false) = putF rows row := rfl
  have e0 : rowsWt [] = 0 := rfl
  rw [e] at h
  unfold putR
  generalize putF rows row = st at *
  obtain ⟨o, p⟩ := st
  cases p with
  | true =>
    simp at h ⊢
    omega
  | false =>
    have e1 : rowsWt (o ++ [row]) = rowsWt o + (row.length + 1) := by simp [rowsWt]; omega
    simp at h ⊢
    omega

/-- The rows put one by one, up to the ninth. -/
def newR (acc : List (List Int)) : List (List Int) → List (List Int)
  | [] => acc
  | r :: rs => if acc.length ≤ 8 then newR (putR acc r) rs else acc
theorem newR_big {acc : List (List Int)} (h : ¬ acc.length ≤ 8) : ∀ l, newR acc l = acc
  | [] => rfl
  | _ :: _ => by rw [newR, if_neg h]
theorem newR_next {acc rows : List (List Int)} {k : Nat} (h : k < rows.length) (h8 : acc.length ≤ 8) : newR acc (rows.drop k) = newR (putR acc rows[k]) (rows.drop (k + 1)) := by rw [drop_at h, newR, if_pos h8]
def newOk (nm : ByteArray) (ar : Int) (rows : List (List Int)) : Bool := tabOk nm ar (newR [] rows)

/-- What is answered. -/
def NewAns (nm : ByteArray) (ar : Int) (rows : List (List Int)) (w : World) (e : Ending) (w' : World) : Prop :=
  ∃ u' fp, e = .returned (.tuple #[.agg #[.string (if newOk nm ar rows then nm else ⟨#[]⟩), .int .i64 (if newOk nm ar rows then ar else 0), u'], .bool (newOk nm ar rows)]) ∧ rowsC.ow w' w.heap.size [u'] (if newOk nm ar rows then newR [] rows else []) fp ∧ fp.Nodup ∧ Below w.heap.size w w'

end Go.Proofs.YtinchhahcheadaaGreat.TabSpec

namespace Go.Proofs.YtinchhahcheadaaGreat.Cd
open Go Go.RowKit Byt Ints
namespace Cd
variable {α β : Type}

/-- What owns a slice at block g, its cells laid bare. -/
theorem ow_bare {e : TypeId} {c : Cd α} (hn : c.n = 1) {w : World} {base g n cap : Nat} {l : List α} {fp : List Nat} (h : (sl e c).ow w base [.slice (some ⟨g, 0, none⟩) n cap] l fp) :
    ∃ (cur : Array Value) (xss : List (List Value)) (fps : List (List Nat)), w.heap[g]? = some (.cells cur e (0, 0)) ∧ cur.size = cap ∧ n = l.length ∧ n ≤ cap ∧ cap ≤ maxLen ∧ base ≤ g ∧ cur.toList.take n = xss.flatten ∧ Each c w base xss l fps ∧ fp = g :: fps.flatten := by
  obtain ⟨v', xss, fps, e1, hown, hE, rfl⟩ := h
  injection e1 with e1 _
  subst e1
  rcases hown.2 with ⟨e1, _⟩ | ⟨g', cap', cur, e1, hb, hg, hnc, hcm, hcs, ht⟩
  · cases e1
  · simp only [Value.slice.injEq, Option.some.injEq, Addr.mk.injEq, and_true] at e1
    obtain ⟨rfl, rfl, rfl⟩ := e1
    rw [hn, Nat.mul_one] at hcs ht
    exact ⟨cur, xss, fps, hg, hcs, rfl, hnc, hcm, hb, ht, hE, rfl⟩
theorem ow_bared {e : TypeId} {c : Cd α} (hn : c.n = 1) {w : World} {base g n cap : Nat} {l : List α} {cur : Array Value} {xss : List (List Value)} {fps : List (List Nat)}
    (hg : w.heap[g]? = some (.cells cur e (0, 0))) (hcs : cur.size = cap) (hnl : n = l.length) (hnc : n ≤ cap) (hcm : cap ≤ maxLen) (hb : base ≤ g) (ht : cur.toList.take n = xss.flatten) (hE : Each c w base xss l fps) :
    (sl e c).ow w base [.slice (some ⟨g, 0, none⟩) n cap] l (g :: fps.flatten) := by
  subst hnl
  refine ⟨_, xss, fps, rfl, ⟨hE.flatten_len, .inr ⟨g, cap, cur, rfl, hb, hg, hnc, hcm, by rw [hn, Nat.mul_one]; exact hcs, by rw [hn, Nat.mul_one]; exact ht⟩⟩, hE, rfl⟩
theorem Each.one {c : Cd α} {w : World} {base : Nat} : ∀ {xss : List (List Value)} {l : List α} {fps : List (List Nat)}, Each c w base xss l fps → ∀ u ∈ xss.flatten, u.oneCell' = true
  | [], [], [], _, u, hu => by simp at hu
  | x :: xs, _ :: az, _ :: fs, h, u, hu => by
    rw [List.flatten_cons] at hu
    rcases List.mem_append.1 hu with q | q
    · exact c.one (c.ow_rd h.1) u q
    · exact Each.one (xss := xs) (l := az) (fps := fs) h.2 u q
theorem Each.erase {c : Cd α} {w : World} {base : Nat} : ∀ {xss : List (List Value)} {l : List α} {fps : List (List Nat)}, Each c w base xss l fps → ∀ i, Each c w base (xss.eraseIdx i) (l.eraseIdx i) (fps.eraseIdx i)
  | [], [], [], _, i => by cases i <;> exact trivial
  | _ :: xs, _ :: az, _ :: fs, h, 0 => h.2
  | _ :: xs, _ :: az, _ :: fs, h, i + 1 => ⟨h.1, Each.erase (xss := xs) (l := az) (fps := fs) h.2 i⟩
theorem flatten_erase_one {c : Cd α} (hn : c.n = 1) {w : World} {base : Nat} : ∀ {xss : List (List Value)} {l : List α} {fps : List (List Nat)}, Each c w base xss l fps → ∀ i, (xss.eraseIdx i).flatten = xss.flatten.eraseIdx i
  | [], [], [], _, i => by simp
  | x :: xs, a :: az, f :: fs, h, 0 => by
    have hl := (c.len (c.ow_rd h.1)).trans hn
    match x, hl with
    | [y], _ => rfl
  | x :: xs, a :: az, f :: fs, h, i + 1 => by
    have hl := (c.len (c.ow_rd h.1)).trans hn
    have := flatten_erase_one hn (xss := xs) (l := az) (fps := fs) h.2 i
    match x, hl with
    | [y], _ =>
      show [y] ++ (xs.eraseIdx i).flatten = ([y] ++ xs.flatten).eraseIdx (i + 1)
      rw [this]
      rfl
/-- One element in, at place i. -/
def ins {α : Type} (l : List α) (i : Nat) (x : α) : List α := l.take i ++ x :: l.drop i
theorem Each.ins {c : Cd α} {w : World} {base : Nat} {x : List Value} {a : α} {f : List Nat} : ∀ {xss : List (List Value)} {l : List α} {fps : List (List Nat)}, Each c w base xss l fps → c.ow w base x a f → ∀ i, Each c w base (ins xss i x) (ins l i a) (ins fps i f)
  | [], [], [], _, k, i => by cases i <;> exact ⟨k, trivial⟩
  | _ :: xs, _ :: az, _ :: fs, h, k, 0 => ⟨k, h⟩
  | _ :: xs, _ :: az, _ :: fs, h, k, i + 1 => ⟨h.1, Each.ins (xss := xs) (l := az) (fps := fs) h.2 k i⟩
theorem flatten_ins_one {c : Cd α} (hn : c.n = 1) {w : World} {base : Nat} {u : Value} : ∀ {xss : List (List Value)} {l : List α} {fps : List (List Nat)}, Each c w base xss l fps → ∀ i, (ins xss i [u]).flatten = ins xss.flatten i u
  | [], [], [], _, i => by cases i <;> rfl
  | x :: xs, a :: az, f :: fs, h, 0 => rfl
  | x :: xs, a :: az, f :: fs, h, i + 1 => by
    have hl := (c.len (c.ow_rd h.1)).trans hn
    have := flatten_ins_one hn (u := u) (xss := xs) (l := az) (fps := fs) h.2 i
    match x, hl with
    | [y], _ =>
      show [y] ++ (ins xs i [u]).flatten = [y] ++ (ins xs.flatten i u)
      rw [this]
theorem ins_length {α : Type} (l : List α) (i : Nat) (x : α) : (ins l i x).length = l.length + 1 := by
  unfold ins
  rw [List.length_append, List.length_cons, List.length_take, List.length_drop]
  omega
theorem mem_ins {fps : List (List Nat)} {f : List Nat} {i b : Nat} (h : b ∈ (ins fps i f).flatten) : b ∈ fps.flatten ∨ b ∈ f := by
  obtain ⟨g, hg, hb⟩ := List.mem_flatten.1 h
  rcases List.mem_append.1 hg with q | q
  · exact .inl (List.mem_flatten.2 ⟨g, List.mem_of_mem_take q, hb⟩)
  · rcases List.mem_cons.1 q with rfl | q
    · exact .inr hb
    · exact .inl (List.mem_flatten.2 ⟨g, List.mem_of_mem_drop q, hb⟩)
theorem nodup_ins : ∀ {fps : List (List Nat)} {f : List Nat}, fps.flatten.Nodup → f.Nodup → (∀ b ∈ f, b ∉ fps.flatten) → ∀ i, (ins fps i f).flatten.Nodup
  | [], f, _, hf, _, i => by cases i <;> simpa [ins] using hf
  | f0 :: fps, f, h, hf, hd, 0 => by
    show (f :: f0 :: fps).flatten.Nodup
    rw [List.flatten_cons, List.nodup_append]
    exact ⟨hf, h, fun a ha b hb q => hd a ha (q ▸ hb)⟩
  | f0 :: fps, f, h, hf, hd, i + 1 => by
    rw [List.flatten_cons, List.nodup_append] at h
    show (f0 :: ins fps i f).flatten.Nodup
    rw [List.flatten_cons, List.nodup_append]
    refine ⟨h.1, nodup_ins h.2.1 hf (fun b hb q => hd b hb (by rw [List.flatten_cons]; exact List.mem_append_right _ q)) i, fun a ha b hb q => ?_⟩
    subst q
    rcases mem_ins hb with q | q
    · exact h.2.2 a ha a q rfl
    · exact hd a q (by rw [List.flatten_cons]; exact List.mem_append_left _ ha)

/-! Rows of the library's contracts ('putRow'). -/
section
variable {γ : Type} [Inhabited γ]
theorem heap_putRow (enc : γ → Value) (w : World) (g : Nat) (d : Array γ) {c : Array Value} {e : TypeId} {fr : Nat × Nat} (h : w.heap[g]? = some (.cells c e fr)) : (Sort.putRow enc w g 0 d).heap[g]? = some (.cells (Sort.putCells enc 0 d c) e fr) := by
  simp [Sort.putRow, Sort.mapBlock, Array.getElem?_modify, h, Sort.onCells]
theorem heap_putRow_other (enc : γ → Value) (w : World) (g : Nat) (d : Array γ) {k : Nat} (h : k ≠ g) : (Sort.putRow enc w g 0 d).heap[k]? = w.heap[k]? := by
  simp [Sort.putRow, Sort.mapBlock, Array.getElem?_modify, Ne.symm h]
theorem putCells_size (enc : γ → Value) (d : Array γ) (c : Array Value) : (Sort.putCells enc 0 d c).size = c.size := by simp [Sort.putCells]
theorem putCells_take (enc : γ → Value) (d : Array γ) (c : Array Value) {m : Nat} (hm : m ≤ d.size) (hd : d.size ≤ c.size) : (Sort.putCells enc 0 d c).toList.take m = (d.toList.map enc).take m := by
  apply List.ext_getElem?
  intro k
  rw [List.getElem?_take, List.getElem?_take]
  by_cases hk : k < m
  · rw [if_pos hk, if_pos hk, Array.getElem?_toList, List.getElem?_map, Array.getElem?_toList]
    have h1 : k < c.size := by omega
    have h2 : k < d.size := by omega
    simp only [Sort.putCells, Array.getElem?_mapIdx]
    rw [Array.getElem?_eq_getElem h1, Array.getElem?_eq_getElem h2, Option.map_some, Option.map_some, if_pos ⟨Nat.zero_le _, by omega⟩, Nat.sub_zero, getElem!_pos d k h2]
  · rw [if_neg hk, if_neg hk]
theorem touch_putRow (enc : γ → Value) (w : World) (g : Nat) (d : Array γ) : Touch [g] w (Sort.putRow enc w g 0 d) :=
  ⟨rfl, rfl, rfl, by rw [Sort.size_putRow]; exact Nat.le_refl _, fun k _ hn => heap_putRow_other enc w g d fun q => hn (by rw [q]; exact List.mem_singleton.2 rfl)⟩
end
theorem touch_ahead (fp : List Nat) (w : World) (n : Nat) : Touch fp w (Sort.ahead w n) := ⟨rfl, rfl, rfl, Nat.le_refl _, fun _ _ _ => rfl⟩

/-- A value of one cell. -/
structure One where
  v : Value
  one : v.oneCell' = true
instance : Inhabited One := ⟨⟨.slice none 0 0, rfl⟩⟩
def ones (us : List Value) (h : ∀ u ∈ us, u.oneCell' = true) : List One := us.attach.map fun x => ⟨x.1, h x.1 x.2⟩
theorem ones_val (us : List Value) (h : ∀ u ∈ us, u.oneCell' = true) : (ones us h).map One.v = us := by
  unfold ones
  rw [List.map_map]
  exact List.attach_map_subtype_val us
theorem ones_length (us : List Value) (h : ∀ u ∈ us, u.oneCell' = true) : (ones us h).length = us.length := by simp [ones]
theorem holds_ones {w : World} {g n : Nat} {cur : Array Value} {e : TypeId} {us : List Value} (h : ∀ u ∈ us, u.oneCell' = true) (hg : w.heap[g]? = some (.cells cur e (0, 0))) (ht : cur.toList.take n = us) :
    Sort.Holds (α := One) One.v w g 0 (ones us h).toArray := by
  intro j hj
  have hj' : j < us.length := by rw [← ones_length us h]; simpa using hj
  have hv : (ones us h)[j]?.map One.v = us[j]? := by
    rw [← List.getElem?_map, ones_val]
  have hj2 : j < (ones us h).length := by rw [ones_length]; exact hj'
  refine ⟨?_, by simp [World.frozen?, hg]⟩
  have e1 : ((ones us h).toArray[j]!) = (ones us h)[j] := by
    rw [getElem!_pos _ j hj]
    simp
  rw [e1]
  rw [List.getElem?_eq_getElem hj2, List.getElem?_eq_getElem hj', Option.map_some] at hv
  injection hv with hv
  rw [hv]
  have hjn : j < n := by
    have := congrArg List.length ht
    rw [List.length_take] at this
    omega
  have hc : cur[j]? = some us[j] := by
    have : (cur.toList.take n)[j]? = us[j]? := by rw [ht]
    rw [List.getElem?_take, if_pos hjn, Array.getElem?_toList, List.getElem?_eq_getElem hj'] at this
    exact this
  simp [World.cell?, hg, hc]
end Cd
end Go.Proofs.YtinchhahcheadaaGreat.Cd

namespace Go.Proofs.YtinchhahcheadaaGreat.TabImp
open Go Go.RowKit Byt Ints IntsLaw Cd Rows2 Tab TabSpec Exact

theorem put_before (row : List Int) : ∀ (l o : List (List Int)), (∀ r ∈ l, cmpR r row < 0) → l.foldl (putStep row) (o, false) = (o ++ l, false)
  | [], o, _ => by simp
  | r :: rs, o, h => by
    have h1 := h r List.mem_cons_self
    have e : putStep row (o, false) r = (o ++ [r], false) := by
      unfold putStep
      rw [if_neg (by omega), if_neg (by omega)]
    rw [List.foldl_cons, e, put_before row rs _ (fun x hx => h x (List.mem_cons_of_mem _ hx)), List.append_assoc]
    rfl
theorem put_behind (row : List Int) : ∀ (l o : List (List Int)), (∀ r ∈ l, 0 < cmpR r row) → l.foldl (putStep row) (o, true) = (o ++ l, true)
  | [], o, _ => by simp
  | r :: rs, o, h => by
    have h1 := h r List.mem_cons_self
    have e : putStep row (o, true) r = (o ++ [r], true) := by
      unfold putStep
      rw [if_neg (by omega), if_neg (by simp)]
    rw [List.foldl_cons, e, put_behind row rs _ (fun x hx => h x (List.mem_cons_of_mem _ hx)), List.append_assoc]
    rfl
theorem find_split {rows : List (List Int)} {row : List Int} {i : Nat} (ha : Asc rows) (h : FindP rows row i) :
    (∀ r ∈ rows.take i, cmpR r row < 0) ∧ (∀ hi : i < rows.length, 0 ≤ cmpR rows[i] row ∧ ∀ r ∈ rows.drop (i + 1), 0 < cmpR r row) := by
  refine ⟨fun r hr => ?_, fun hi => ⟨h.2.2 i hi (Nat.le_refl _), fun r hr => ?_⟩⟩
  · obtain ⟨t, ht, rfl⟩ := List.getElem_of_mem hr
    rw [List.length_take] at ht
    rw [List.getElem_take]
    exact h.2.1 t (by omega) (by omega)
  · obtain ⟨t, ht, rfl⟩ := List.getElem_of_mem hr
    rw [List.length_drop] at ht
    rw [List.getElem_drop]
    have h1 := asc_lt ha (show i < i + 1 + t by omega) (show i + 1 + t < rows.length by omega)
    have h2 := h.2.2 i hi (Nat.le_refl _)
    have h3 := h.2.2 (i + 1 + t) (by omega) (by omega)
    by_cases e : cmpR rows[i + 1 + t] row = 0
    · rw [cmpR_eq e] at h1
      omega
    · omega
theorem putR_split {rows : List (List Int)} {row : List Int} {i : Nat} (ha : Asc rows) (h : FindP rows row i) : putR rows row = if row ∈ rows then rows else Cd.ins rows i row := by
  obtain ⟨h1, h2⟩ := find_split ha h
  by_cases hi : i < rows.length
  · obtain ⟨h3, h4⟩ := h2 hi
    have e : rows = rows.take i ++ rows[i] :: rows.drop (i + 1) := by rw [← drop_at hi, List.take_append_drop]
    have hm := find_mem ha h
    have hf : putF rows row = ((rows.take i ++ (if cmpR rows[i] row = 0 then [rows[i]] else [row, rows[i]])) ++ rows.drop (i + 1), true) := by
      conv => lhs; rw [putF, e]
      rw [List.foldl_append, put_before row _ _ h1, List.foldl_cons]
      have e2 : putStep row ([] ++ rows.take i, false) rows[i] = (rows.take i ++ (if cmpR rows[i] row = 0 then [rows[i]] else [row, rows[i]]), true) := by
        unfold putStep
        by_cases hz : cmpR rows[i] row = 0
        · rw [if_pos hz, if_pos hz]; rfl
        · rw [if_neg hz, if_neg hz, if_pos ⟨by omega, rfl⟩]
          simp
      rw [e2, put_behind row _ _ h4]
    rw [putR, hf, if_pos rfl]
    by_cases hz : cmpR rows[i] row = 0
    · rw [if_pos hz, if_pos (hm.2 ⟨hi, cmpR_eq hz⟩), List.append_assoc]
      exact e.symm
    · rw [if_neg hz, if_neg (fun q => by
        obtain ⟨_, q⟩ := hm.1 q
        exact hz (by rw [q]; exact cmpR_self _))]
      unfold Cd.ins
      rw [List.append_assoc, drop_at hi]
      rfl
  · have hil : i = rows.length := by have := h.1; omega
    subst hil
    rw [List.take_length] at h1
    have hm := find_mem ha h
    have hf : putF rows row = (rows, false) := by rw [putF, put_before row _ _ h1]; rfl
    rw [putR, hf, if_neg (by simp), if_neg (fun q => by obtain ⟨q, _⟩ := hm.1 q; omega)]
    unfold Cd.ins
    rw [List.take_length, List.drop_length]
/-- There is such a place. -/
theorem find_ex : ∀ {rows : List (List Int)} (row : List Int), Asc rows → ∃ i, FindP rows row i
  | [], _, _ => ⟨0, Nat.le_refl _, fun t h _ => by simp at h, fun t h _ => by simp at h⟩
  | r :: rs, row, ha => by
    by_cases h : cmpR r row < 0
    · obtain ⟨i, h1, h2, h3⟩ := find_ex (rows := rs) row (List.pairwise_cons.1 ha).2
      refine ⟨i + 1, by simpa using h1, fun t ht hti => ?_, fun t ht hti => ?_⟩
      · match t with
        | 0 => exact h
        | t + 1 => exact h2 t (by simpa using ht) (by omega)
      · match t with
        | 0 => omega
        | t + 1 => exact h3 t (by simpa using ht) (by omega)
    · refine ⟨0, Nat.zero_le _, fun t _ hti => by omega, fun t ht _ => ?_⟩
      match t with
      | 0 => show 0 ≤ cmpR r row; omega
      | t + 1 =>
        have h1 := (List.pairwise_cons.1 ha).1 ((rs)[t]'(by simpa using ht)) (List.getElem_mem _)
        show 0 ≤ cmpR (rs[t]'(by simpa using ht)) row
        have := cmpR_anti r row
        exact Int.not_lt.1 fun q => h (cmpR_trans h1 q)
theorem asc_ins {rows : List (List Int)} {row : List Int} {i : Nat} (ha : Asc rows) (h : FindP rows row i) (hn : row ∉ rows) : Asc (Cd.ins rows i row) := by
  obtain ⟨h1, h2⟩ := find_split ha h
  have h3 : ∀ r ∈ rows.drop i, cmpR row r < 0 := by
    intro r hr
    by_cases hi : i < rows.length
    · obtain ⟨h4, h5⟩ := h2 hi
      rw [drop_at hi] at hr
      rcases List.mem_cons.1 hr with rfl | q
      · have := cmpR_anti row rows[i]
        have hz : cmpR rows[i] row ≠ 0 := fun q => hn (by rw [← cmpR_eq q]; exact List.getElem_mem hi)
        omega
      · have := cmpR_anti row r
        have := h5 r q
        omega
    · rw [List.drop_eq_nil_of_le (by omega)] at hr
      cases hr
  unfold Asc Cd.ins at *
  rw [List.pairwise_append, List.pairwise_cons]
  refine ⟨ha.sublist (List.take_sublist _ _), ⟨h3, ha.sublist (List.drop_sublist _ _)⟩, fun a hta b hb => ?_⟩
  rcases List.mem_cons.1 hb with rfl | q
  · exact h1 a hta
  · exact cmpR_trans (h1 a hta) (h3 b q)
theorem asc_put {rows : List (List Int)} {row : List Int} (ha : Asc rows) : Asc (putR rows row) := by
  obtain ⟨i, hf⟩ := find_ex row ha
  rw [putR_split ha hf]
  split
  · exact ha
  · rename_i hn
    exact asc_ins ha hf hn
theorem mem_ins {α : Type} {l : List α} {i : Nat} {x y : α} : y ∈ Cd.ins l i x ↔ y = x ∨ y ∈ l := by
  unfold Cd.ins
  rw [List.mem_append, List.mem_cons]
  constructor
  · rintro (q | rfl | q)
    · exact .inr (List.mem_of_mem_take q)
    · exact .inl rfl
    · exact .inr (List.mem_of_mem_drop q)
  · rintro (rfl | q)
    · exact .inr (.inl rfl)
    · rw [← List.take_append_drop i l, List.mem_append] at q
      rcases q with q | q
      · exact .inl q
      · exact .inr (.inr q)
theorem mem_put {rows : List (List Int)} {row r : List Int} (ha : Asc rows) : r ∈ putR rows row ↔ r = row ∨ r ∈ rows := by
  obtain ⟨i, hf⟩ := find_ex row ha
  rw [putR_split ha hf]
  split
  · rename_i hm
    exact ⟨.inr, fun q => by rcases q with rfl | q; exact hm; exact q⟩
  · exact mem_ins
/-- Sorted lists of the same members are one. -/
theorem asc_one : ∀ {a b : List (List Int)}, Asc a → Asc b → (∀ r, r ∈ a ↔ r ∈ b) → a = b
  | [], [], _, _, _ => rfl
  | [], y :: ys, _, _, h => by have := (h y).2 List.mem_cons_self; cases this
  | x :: xs, [], _, _, h => by have := (h x).1 List.mem_cons_self; cases this
  | x :: xs, y :: ys, ha, hb, h => by
    obtain ⟨ha1, ha2⟩ := List.pairwise_cons.1 ha
    obtain ⟨hb1, hb2⟩ := List.pairwise_cons.1 hb
    have hxy : x = y := by
      rcases List.mem_cons.1 ((h x).1 List.mem_cons_self) with q | q
      · exact q
      · rcases List.mem_cons.1 ((h y).2 List.mem_cons_self) with q2 | q2
        · exact q2.symm
        · have h1 := hb1 x q
          have h2 := ha1 y q2
          have := cmpR_anti x y
          omega
    subst hxy
    have hx : ∀ {l : List (List Int)}, (∀ r ∈ l, cmpR x r < 0) → x ∉ l := fun hl q => by
      have := hl x q
      rw [cmpR_self] at this
      omega
    rw [asc_one ha2 hb2 fun r => ?_]
    constructor
    · intro q
      rcases List.mem_cons.1 ((h r).1 (List.mem_cons_of_mem _ q)) with rfl | q2
      · exact absurd q (hx ha1)
      · exact q2
    · intro q
      rcases List.mem_cons.1 ((h r).2 (List.mem_cons_of_mem _ q)) with rfl | q2
      · exact absurd q (hx hb1)
      · exact q2
/-- The model's list of new rows. -/
theorem new_asc : ∀ (l : List (List Int)) {acc : List (List Int)}, Asc acc → Asc (newR acc l)
  | [], acc, h => h
  | r :: rs, acc, h => by
    rw [newR]
    split
    · exact new_asc rs (asc_put h)
    · exact h
theorem new_sub : ∀ (l : List (List Int)) {acc : List (List Int)}, Asc acc → ∀ r ∈ newR acc l, r ∈ acc ∨ r ∈ l
  | [], acc, _, r, hr => .inl hr
  | x :: xs, acc, h, r, hr => by
    rw [newR] at hr
    split at hr
    · rcases new_sub xs (asc_put h) r hr with q | q
      · rcases (mem_put h).1 q with rfl | q
        · exact .inr List.mem_cons_self
        · exact .inl q
      · exact .inr (List.mem_cons_of_mem _ q)
    · exact .inl hr
theorem new_all : ∀ (l : List (List Int)) {acc : List (List Int)}, Asc acc → (newR acc l).length ≤ 8 → ∀ r, (r ∈ acc ∨ r ∈ l) → r ∈ newR acc l
  | [], acc, _, _, r, hr => by
    rcases hr with q | q
    · exact q
    · cases q
  | x :: xs, acc, h, h8, r, hr => by
    rw [newR] at h8 ⊢
    split at h8
    · rename_i hc
      rw [if_pos hc]
      refine new_all xs (asc_put h) h8 r ?_
      rcases hr with q | q
      · exact .inl ((mem_put h).2 (.inr q))
      · rcases List.mem_cons.1 q with rfl | q
        · exact .inl ((mem_put h).2 (.inl rfl))
        · exact .inr q
    · rename_i hc
      exact absurd h8 hc
theorem len_le : ∀ {a c : List (List Int)}, a.Nodup → (∀ r ∈ a, r ∈ c) → a.length ≤ c.length
  | [], _, _, _ => Nat.zero_le _
  | x :: xs, c, hd, h => by
    obtain ⟨h1, h2⟩ := List.nodup_cons.1 hd
    have hx := h x List.mem_cons_self
    have := len_le (a := xs) (c := c.erase x) h2 fun r hr => (List.mem_erase_of_ne (fun (e : r = x) => h1 (by rw [← e]; exact hr))).2 (h r (List.mem_cons_of_mem _ hr))
    rw [List.length_erase_of_mem hx] at this
    have := List.length_pos_of_mem hx
    rw [List.length_cons]
    omega
/-- What a sorted list without duplicates of the same rows is worth. -/
theorem new_of {l c : List (List Int)} (hc : Asc c) (hm : ∀ r, r ∈ c ↔ r ∈ l) : (c.length ≤ 8 → newR [] l = c) ∧ (8 < c.length → 8 < (newR [] l).length) := by
  have hn : Asc (newR [] l) := new_asc l (acc := []) List.Pairwise.nil
  have hd : ∀ {a : List (List Int)}, Asc a → a.Nodup := fun ha => ha.imp fun {x y} q e => by
    rw [e, cmpR_self] at q
    omega
  have hsub : ∀ r ∈ newR [] l, r ∈ c := fun r hr => by
    rcases new_sub l (acc := []) List.Pairwise.nil r hr with q | q
    · cases q
    · exact (hm r).2 q
  have hle : (newR [] l).length ≤ c.length := len_le (hd hn) hsub
  have hkey : (newR [] l).length ≤ 8 → newR [] l = c := fun h8 => asc_one hn hc fun r => ⟨hsub r, fun q => new_all l (acc := []) List.Pairwise.nil h8 r (.inr ((hm r).1 q))⟩
  refine ⟨fun h => hkey (by omega), fun h => ?_⟩
  rcases Nat.lt_or_ge 8 (newR [] l).length with q | q
  · exact q
  · have := hkey q
    rw [this] at q
    omega
end Go.Proofs.YtinchhahcheadaaGreat.TabImp

namespace Go.Proofs.YtinchhahcheadaaGreat.SlTable
open Go Go.RowKit Byt Ints IntsLaw Cd Rows2 Tab SlMath TabOpen TabElem
theorem len_list {us : List Value} (h : us.length = 3) : ∃ x0 x1 x2, us = [x0, x1, x2] := by
  match us, h with
  | [x0, x1, x2], _ => exact ⟨x0, x1, x2, rfl⟩
/-- The size of a slice, as the laws count it. -/
def wtS (l : List T3) : Nat := l.length + sumN wtT l

theorem info_x : (Tryz.prog.info? 51).map (fun i => (i.zero, i.size, i.bytes)) = some (some (.agg #[.string ⟨#[]⟩, .int .i64 0, .slice none 0 0]), 3, 48) := by kernel_rfl

end Go.Proofs.YtinchhahcheadaaGreat.SlTable

namespace Go.Proofs.YtinchhahcheadaaGreat.UpdMath
open Go Go.RowKit Byt Ints IntsLaw Cd Rows2 Tab TabOpen TabElem TabSpec SlMath SlTable DbMath Upd

def chOk (T : T3) (b : Bool) (row : List Int) : Bool := if b then insOk T.1 T.2.1 T.2.2 row else hasR T.1 T.2.1 T.2.2 row
def chR (T : T3) (b : Bool) (row : List Int) : List (List Int) := if b then insR T.1 T.2.1 T.2.2 row else delR T.1 T.2.1 T.2.2 row
def chT (T : T3) (b : Bool) (row : List Int) : T3 := (T.1, T.2.1, chR T b row)
/-- The table that an update makes. -/
def appT (l : List T3) (nm : ByteArray) (b : Bool) (row : List Int) : Option T3 :=
  match lookL l nm with
  | none => none
  | some T => if chOk T b row then some (chT T b row) else none
def appOk (l : List T3) (nm : ByteArray) (b : Bool) (row : List Int) : Bool :=
  match appT l nm b row with
  | none => false
  | some T => setOk l T
def appL (l : List T3) (nm : ByteArray) (b : Bool) (row : List Int) : List T3 :=
  match appT l nm b row with
  | none => l
  | some T => setL l T
theorem appT_none {l : List T3} {nm : ByteArray} {b : Bool} {row : List Int} (h : lookL l nm = none) : appT l nm b row = none := by unfold appT; rw [h]
theorem appT_no {l : List T3} {nm : ByteArray} {b : Bool} {row : List Int} {T : T3} (h : lookL l nm = some T) (hc : chOk T b row = false) : appT l nm b row = none := by unfold appT; rw [h]; simp [hc]
theorem appT_yes {l : List T3} {nm : ByteArray} {b : Bool} {row : List Int} {T : T3} (h : lookL l nm = some T) (hc : chOk T b row = true) : appT l nm b row = some (chT T b row) := by unfold appT; rw [h]; simp [hc]
theorem app_none {l : List T3} {nm : ByteArray} {b : Bool} {row : List Int} (h : appT l nm b row = none) : appL l nm b row = l ∧ appOk l nm b row = false := by unfold appL appOk; rw [h]; exact ⟨rfl, rfl⟩
theorem app_some {l : List T3} {nm : ByteArray} {b : Bool} {row : List Int} {T : T3} (h : appT l nm b row = some T) : appL l nm b row = setL l T ∧ appOk l nm b row = setOk l T := by unfold appL appOk; rw [h]; exact ⟨rfl, rfl⟩

theorem wt_ok {T : T3} (h : okT T = true) : wtT T ≤ 40 := by
  have htp : TabP T.1 T.2.1 T.2.2 := of_decide_eq_true h
  have h1 : T.1.size = 1 := (of_decide_eq_true htp.1).1
  have h2 : ∀ l : List (List Int), (∀ r ∈ l, r.length ≤ 3) → rowsWt l ≤ 4 * l.length := by
    intro l
    induction l with
    | nil => intro _; simp [rowsWt]
    | cons r rs ih =>
      intro h
      have h1 := ih (fun x hx => h x (List.mem_cons.2 (.inr hx)))
      have h2 := h r (List.mem_cons.2 (.inl rfl))
      simp [rowsWt] at *
      omega
  have h3 := h2 T.2.2 (fun r hr => by have := (rowOk_iff.1 (htp.2.2.2.2.1 r hr)).1; have := htp.2.2.1; omega)
  have h4 := htp.2.2.2.1
  unfold wtT tabWt
  omega
theorem wts_ok {l : List T3} (h : dbOk l = true) : wtS l ≤ 300 := by
  have hd := dbOk_iff.1 h
  have h2 : ∀ m : List T3, (∀ T ∈ m, okT T = true) → sumN wtT m ≤ 40 * m.length := by
    intro m
    induction m with
    | nil => intro _; simp [sumN]
    | cons T m ih =>
      intro h
      have h1 := ih (fun x hx => h x (List.mem_cons.2 (.inr hx)))
      have h2 := wt_ok (h T (List.mem_cons.2 (.inl rfl)))
      rw [sumN_cons, List.length_cons]
      omega
  have h3 := h2 l hd.2.1
  have h4 := hd.1
  unfold wtS
  omega
theorem look_ok {l : List T3} {nm : ByteArray} {T : T3} (h : lookL l nm = some T) : dbOk l = true ∧ T ∈ l ∧ T.1 = nm ∧ okT T = true := by
  unfold lookL at h
  cases hv : dbOk l
  · rw [hv] at h; cases h
  · rw [hv] at h
    obtain ⟨h1, h2⟩ := findN_some h
    exact ⟨rfl, h1, h2, (dbOk_iff.1 hv).2.1 T h1⟩
theorem ok_ch {T : T3} {b : Bool} {row : List Int} (hT : okT T = true) (h : chOk T b row = true) : okT (chT T b row) = true := by
  have htp : TabP T.1 T.2.1 T.2.2 := of_decide_eq_true hT
  obtain ⟨p1, p2, p3, p4, p5, p6⟩ := htp
  refine decide_eq_true (show TabP T.1 T.2.1 (chR T b row) from ⟨p1, p2, p3, ?_⟩)
  cases b
  · have hh : hasR T.1 T.2.1 T.2.2 row = true := h
    have e : chR T false row = dropR T.2.2 row := by unfold chR delR; simp [hh]
    rw [e]
    unfold dropR
    exact ⟨Nat.le_trans (List.length_filter_le _ _) p4, fun r hr => p5 r (List.mem_filter.1 hr).1, List.Pairwise.sublist List.filter_sublist p6⟩
  · have hi : insOk T.1 T.2.1 T.2.2 row = true := h
    have e : chR T true row = putR T.2.2 row := by unfold chR insR; simp [hi]
    rw [e]
    obtain ⟨_, q2, q3, q4⟩ : InsP T.1 T.2.1 T.2.2 row := of_decide_eq_true hi
    refine ⟨?_, fun r hr => ?_, TabImp.asc_put p6⟩
    · obtain ⟨i, hf⟩ := TabImp.find_ex row p6
      rw [TabImp.putR_split p6 hf, if_neg q3]
      unfold Cd.ins
      have := hf.1
      simp only [List.length_append, List.length_cons, List.length_take, List.length_drop]
      omega
    · rcases (TabImp.mem_put p6).1 hr with q | q
      · rw [q]; exact q2
      · exact p5 r q
theorem appT_ok {l : List T3} {nm : ByteArray} {b : Bool} {row : List Int} {T : T3} (h : appT l nm b row = some T) : dbOk l = true ∧ okT T = true := by
  unfold appT at h
  cases hl : lookL l nm with
  | none => rw [hl] at h; cases h
  | some U =>
    rw [hl] at h
    obtain ⟨h1, _, _, h4⟩ := look_ok hl
    cases hc : chOk U b row
    · simp [hc] at h
    · simp only [hc, if_true, Option.some.injEq] at h
      rw [← h]
      exact ⟨h1, ok_ch h4 hc⟩
theorem app_valid {l : List T3} {nm : ByteArray} {b : Bool} {row : List Int} (h : appOk l nm b row = true) : dbOk (appL l nm b row) = true := by
  cases ha : appT l nm b row with
  | none => rw [(app_none ha).2] at h; cases h
  | some T =>
    rw [(app_some ha).2] at h
    rw [(app_some ha).1]
    have h2 := appT_ok ha
    have h3 := dbOk_putL h2.1 h2.2
    unfold setL
    rw [h]
    unfold setOk at h
    simp only [Bool.and_eq_true] at h
    simp only [if_true]
    rw [h3]
    exact h.2
theorem app_wt {l : List T3} {nm : ByteArray} {b : Bool} {row : List Int} (h : wtS l ≤ 1048577) : wtS (appL l nm b row) ≤ 1048577 := by
  cases hk : appOk l nm b row
  · have e : appL l nm b row = l := by
      cases ha : appT l nm b row with
      | none => exact (app_none ha).1
      | some T =>
        rw [(app_some ha).2] at hk
        rw [(app_some ha).1]
        unfold setL
        rw [hk]
        rfl
    rw [e]
    exact h
  · have := wts_ok (app_valid hk)
    omega
theorem app_cnts {l : List T3} {nm : ByteArray} {b : Bool} {row : List Int} (h : wtS l ≤ 1048576) : wtS (appL l nm b row) ≤ 1048576 := by
  cases hk : appOk l nm b row
  · have e : appL l nm b row = l := by
      cases ha : appT l nm b row with
      | none => exact (app_none ha).1
      | some T =>
        rw [(app_some ha).2] at hk
        rw [(app_some ha).1]
        unfold setL
        rw [hk]
        rfl
    rw [e]
    exact h
  · have := wts_ok (app_valid hk)
    omega

/-- A list of updates, applied up to the first that does not go. -/
def allL : List T3 → List U3 → List T3 × Nat
  | l, [] => (l, 0)
  | l, u :: us => if appOk l u.1 u.2.1 u.2.2 then ((allL (appL l u.1 u.2.1 u.2.2) us).1, (allL (appL l u.1 u.2.1 u.2.2) us).2 + 1) else (l, 0)
theorem allL_go {l : List T3} {us : List U3} {k : Nat} (hk : k < us.length) (h : appOk l us[k].1 us[k].2.1 us[k].2.2 = true) :
    allL l (us.drop k) = ((allL (appL l us[k].1 us[k].2.1 us[k].2.2) (us.drop (k + 1))).1, (allL (appL l us[k].1 us[k].2.1 us[k].2.2) (us.drop (k + 1))).2 + 1) := by
  rw [List.drop_eq_getElem_cons hk, allL, h]
  rfl
theorem allL_stop {l : List T3} {us : List U3} {k : Nat} (hk : k < us.length) (h : appOk l us[k].1 us[k].2.1 us[k].2.2 = false) : allL l (us.drop k) = (l, 0) := by
  rw [List.drop_eq_getElem_cons hk, allL, h]
  rfl
theorem allL_end {l : List T3} {us : List U3} : allL l (us.drop us.length) = (l, 0) := by rw [List.drop_length]; rfl
theorem allL_le : ∀ (us : List U3) (l : List T3), (allL l us).2 ≤ us.length
  | [], _ => Nat.le_refl _
  | u :: us, l => by
    have ih := allL_le us (appL l u.1 u.2.1 u.2.2)
    rw [allL]
    split
    · simp only [List.length_cons]; omega
    · exact Nat.zero_le _
theorem allL_wt : ∀ (us : List U3) (l : List T3), wtS l ≤ 1048576 → wtS (allL l us).1 ≤ 1048576
  | [], _, h => h
  | u :: us, l, h => by
    rw [allL]
    split
    · exact allL_wt us _ (app_cnts h)
    · exact h
end Go.Proofs.YtinchhahcheadaaGreat.UpdMath

namespace Go.Proofs.YtinchhahcheadaaGreat.UpdMath
open Go Go.RowKit Byt Ints IntsLaw Cd Rows2 Tab TabOpen TabElem TabSpec SlMath SlTable DbMath Upd

theorem app_no {l : List T3} {nm : ByteArray} {b : Bool} {row : List Int} (h : appOk l nm b row = false) : appL l nm b row = l := by
  cases ha : appT l nm b row with
  | none => exact (app_none ha).1
  | some T =>
    rw [(app_some ha).2] at h
    rw [(app_some ha).1]
    unfold setL
    rw [h]
    rfl
theorem ins_put {T : T3} {row : List Int} (h : insOk T.1 T.2.1 T.2.2 row = true) : chR T true row = putR T.2.2 row := by unfold chR insR; simp [h]
theorem del_drop {T : T3} {row : List Int} (h : hasR T.1 T.2.1 T.2.2 row = true) : chR T false row = dropR T.2.2 row := by unfold chR delR; simp [h]
theorem mem_drop {rows : List (List Int)} {row r : List Int} : r ∈ dropR rows row ↔ r ∈ rows ∧ r ≠ row := by unfold dropR; rw [List.mem_filter]; simp
/-- The other way round it gives the rows back, and it changes them. -/
theorem ch_back {T : T3} {b : Bool} {row : List Int} (hT : okT T = true) (h : chOk T b row = true) : chOk (chT T b row) (!b) row = true ∧ chR (chT T b row) (!b) row = T.2.2 ∧ chR T b row ≠ T.2.2 := by
  have hok := ok_ch hT h
  have htp : TabP T.1 T.2.1 T.2.2 := of_decide_eq_true hT
  have hpp : TabP T.1 T.2.1 (chR T b row) := of_decide_eq_true hok
  have ha := htp.2.2.2.2.2
  cases b
  · have hh : hasR T.1 T.2.1 T.2.2 row = true := h
    have hm : row ∈ T.2.2 := (of_decide_eq_true hh : TabP T.1 T.2.1 T.2.2 ∧ row ∈ T.2.2).2
    have e := del_drop hh
    have hn : row ∉ chR T false row := by rw [e, mem_drop]; exact fun q => q.2 rfl
    have hlen : (chR T false row).length ≠ 8 := by
      rw [e]
      have h1 : (dropR T.2.2 row).length < T.2.2.length := by
        unfold dropR
        exact List.length_filter_lt_length_iff_exists.2 ⟨row, hm, by simp⟩
      have := htp.2.2.2.1
      omega
    have hi : insOk T.1 T.2.1 (chR T false row) row = true := decide_eq_true ⟨hpp, htp.2.2.2.2.1 row hm, hn, hlen⟩
    refine ⟨hi, ?_, fun q => hn (by rw [q]; exact hm)⟩
    have e2 : chR (chT T false row) true row = putR (chR T false row) row := ins_put (T := chT T false row) hi
    rw [show (!false) = true from rfl, e2]
    refine TabImp.asc_one (TabImp.asc_put hpp.2.2.2.2.2) ha fun r => ?_
    rw [TabImp.mem_put hpp.2.2.2.2.2, e, mem_drop]
    constructor
    · rintro (q | q)
      · rw [q]; exact hm
      · exact q.1
    · intro q
      by_cases hr : r = row
      · exact .inl hr
      · exact .inr ⟨q, hr⟩
  · have hi : insOk T.1 T.2.1 T.2.2 row = true := h
    obtain ⟨_, _, q3, _⟩ : InsP T.1 T.2.1 T.2.2 row := of_decide_eq_true hi
    have e := ins_put hi
    have hm : row ∈ chR T true row := by rw [e, TabImp.mem_put ha]; exact .inl rfl
    have hh : hasR T.1 T.2.1 (chR T true row) row = true := decide_eq_true ⟨hpp, hm⟩
    refine ⟨hh, ?_, fun q => q3 (by rw [← q]; exact hm)⟩
    have e2 : chR (chT T true row) false row = dropR (chR T true row) row := del_drop (T := chT T true row) hh
    rw [show (!true) = false from rfl, e2]
    refine TabImp.asc_one (List.Pairwise.sublist List.filter_sublist hpp.2.2.2.2.2) ha fun r => ?_
    rw [mem_drop, e, TabImp.mem_put ha]
    constructor
    · rintro ⟨q | q, hr⟩
      · exact absurd q hr
      · exact q
    · intro q
      exact ⟨.inr q, fun hr => q3 (hr ▸ q)⟩
/-- An update that can be made can be unmade; it changes the database. -/
theorem app_back {l : List T3} {nm : ByteArray} {b : Bool} {row : List Int} (h : appOk l nm b row = true) :
    appOk (appL l nm b row) nm (!b) row = true ∧ appL (appL l nm b row) nm (!b) row = l ∧ appL l nm b row ≠ l := by
  cases hl : lookL l nm with
  | none => rw [(app_none (appT_none hl)).2] at h; cases h
  | some T =>
    cases hc : chOk T b row
    · rw [(app_none (appT_no hl hc)).2] at h; cases h
    · obtain ⟨hv, hm, rfl, hT⟩ := look_ok hl
      have hs := app_some (appT_yes hl hc)
      rw [hs.2] at h
      rw [hs.1]
      have ha := (dbOk_iff.1 hv).2.2
      have hT2 := ok_ch hT hc
      obtain ⟨g1, g2, g3⟩ := ch_back hT hc
      have e : setL l (chT T b row) = putL (chT T b row) l := by unfold setL; rw [h]; rfl
      have h6 := h
      unfold setOk at h6
      simp only [Bool.and_eq_true] at h6
      have hR : dbOk (putL (chT T b row) l) = true := by rw [dbOk_putL hv hT2]; exact h6.2
      have haR := asc_putL (T := chT T b row) ha
      have hmem : chT T b row ∈ putL (chT T b row) l := (mem_putL ha).2 (.inl rfl)
      have hlook : lookL (putL (chT T b row) l) T.1 = some (chT T b row) := by unfold lookL; rw [hR]; exact findN_of_asc haR hmem
      have hback : chT (chT T b row) (!b) row = T := by
        show (T.1, T.2.1, chR (chT T b row) (!b) row) = T
        rw [g2]
      have hput : putL T (putL (chT T b row) l) = l := asc_unique (asc_putL haR) ha fun U => by
        rw [mem_putL haR, mem_putL ha]
        constructor
        · rintro (q | ⟨q | q, r⟩)
          · rw [q]; exact hm
          · exact absurd (by rw [q]; rfl) r
          · exact q.1
        · intro q
          by_cases hU : U.1 = T.1
          · exact .inl (asc_name ha q hm hU)
          · exact .inr ⟨.inr ⟨q, hU⟩, hU⟩
      have hset : setOk (putL (chT T b row) l) T = true := by
        unfold setOk
        rw [hR, hT, hput]
        simpa using (dbOk_iff.1 hv).1
      rw [e]
      have hs2 := app_some (appT_yes hlook g1)
      rw [hback] at hs2
      refine ⟨by rw [hs2.2]; exact hset, ?_, fun q => ?_⟩
      · rw [hs2.1]
        unfold setL
        rw [hset, if_pos rfl, hput]
      · rw [q] at hlook
        rw [hl] at hlook
        injection hlook with hlook
        exact g3 (congrArg (fun X : T3 => X.2.2) hlook).symm
end Go.Proofs.YtinchhahcheadaaGreat.UpdMath

namespace Go.Proofs.YtinchhahcheadaaGreat.ParMath
open Go Go.RowKit Byt Ints IntsLaw Cd Rows2 Tab TabSpec TabFmt TabParse

theorem index_hit (c : UInt8) : ∀ (a b : List UInt8), c ∉ a → Lib.index (a ++ c :: b) [c] = a.length
  | [], b, _ => by simp [Lib.index, List.isPrefixOf]
  | x :: a, b, h => by
    have hx : ¬ c = x := fun q => h (by rw [q]; exact List.mem_cons_self)
    have ih := index_hit c a b (fun q => h (List.mem_cons_of_mem _ q))
    have hp : List.isPrefixOf [c] (x :: (a ++ c :: b)) = false := by
      have : (c == x) = false := by rw [beq_eq_false_iff_ne]; exact hx
      simp [List.isPrefixOf, this]
    show Lib.index (x :: (a ++ c :: b)) [c] = _
    unfold Lib.index
    rw [hp, ih]
    have : ((a.length : Int) == -1) = false := by rw [beq_eq_false_iff_ne]; omega
    rw [this]
    simp
theorem cut_hit (c : UInt8) (a b : List UInt8) (h : c ∉ a) : Lib.cut (a ++ c :: b) [c] = (a, b, true) := by
  unfold Lib.cut
  rw [index_hit c a b h, if_pos (by omega)]
  simp
theorem cut_pre (c : UInt8) (l : List UInt8) : (Lib.cut l [c]).1 <+: l := by
  unfold Lib.cut
  split
  · exact List.take_prefix _ _
  · exact List.prefix_refl _

/-- A digit's byte. -/
theorem dig_byte {x : Int} (h : 0 ≤ x ∧ x ≤ 9) : (UInt8.ofNat (48 + x.toNat)).toNat = 48 + x.toNat := by
  rw [UInt8.toNat_ofNat']
  omega
theorem mem_digB {l : List Int} (h : ∀ x ∈ l, 0 ≤ x ∧ x ≤ 9) {b : UInt8} (hb : b ∈ digB l) : 48 ≤ b.toNat ∧ b.toNat ≤ 57 := by
  unfold digB at hb
  obtain ⟨x, hx, rfl⟩ := List.mem_map.1 hb
  have := h x hx
  rw [dig_byte this]
  omega
theorem vals_digB {l : List Int} (h : ∀ x ∈ l, 0 ≤ x ∧ x ≤ 9) : vals (digB l) = l := by
  unfold vals digB
  rw [List.map_map]
  have : ∀ x ∈ l, ((fun b : UInt8 => (b.toNat : Int) - 48) ∘ fun x : Int => UInt8.ofNat (48 + x.toNat)) x = x := fun x hx => by
    have hh := h x hx
    show ((UInt8.ofNat (48 + x.toNat)).toNat : Int) - 48 = x
    rw [dig_byte hh]
    omega
  exact (List.map_congr_left this).trans (List.map_id' l)
theorem isSp_digit {b : UInt8} (h : 48 ≤ b.toNat ∧ b.toNat ≤ 57) : Lib.isSp b = false := by
  have hb : b = UInt8.ofNat b.toNat := by simp
  generalize b.toNat = n at *
  subst hb
  rcases (show n = 48 ∨ n = 49 ∨ n = 50 ∨ n = 51 ∨ n = 52 ∨ n = 53 ∨ n = 54 ∨ n = 55 ∨ n = 56 ∨ n = 57 by omega) with rfl | rfl | rfl | rfl | rfl | rfl | rfl | rfl | rfl | rfl <;> rfl

theorem fieldsGo_word : ∀ (w cur l : List UInt8), (∀ b ∈ w, Lib.isSp b = false) → Lib.fieldsGo cur (w ++ l) = Lib.fieldsGo (cur ++ w) l
  | [], cur, l, _ => by simp
  | b :: w, cur, l, h => by
    have hb := h b List.mem_cons_self
    show Lib.fieldsGo cur (b :: (w ++ l)) = _
    rw [Lib.fieldsGo, hb, if_neg (by simp), fieldsGo_word w _ l (fun x hx => h x (List.mem_cons_of_mem _ hx))]
    simp
theorem fields_rows : ∀ rows : List (List Int), (∀ r ∈ rows, r ≠ [] ∧ ∀ x ∈ r, 0 ≤ x ∧ x ≤ 9) → Lib.fields (rowsB rows) = rows.map digB
  | [], _ => rfl
  | [r], h => by
    obtain ⟨hr, hx⟩ := h r List.mem_cons_self
    have hd : ∀ b ∈ digB r, Lib.isSp b = false := fun b hb => isSp_digit (mem_digB hx hb)
    have := fieldsGo_word (digB r) [] [] hd
    rw [List.append_nil, List.nil_append] at this
    show Lib.fieldsGo [] (digB r) = _
    rw [this, Lib.fieldsGo]
    have hne : (digB r).isEmpty = false := by
      cases r with
      | nil => exact absurd rfl hr
      | cons a b => rfl
    rw [hne]
    rfl
  | r :: s :: rs, h => by
    obtain ⟨hr, hx⟩ := h r List.mem_cons_self
    have ih := fields_rows (s :: rs) (fun x hx => h x (List.mem_cons_of_mem _ hx))
    have hd : ∀ b ∈ digB r, Lib.isSp b = false := fun b hb => isSp_digit (mem_digB hx hb)
    show Lib.fieldsGo [] (digB r ++ 32 :: rowsB (s :: rs)) = _
    rw [fieldsGo_word (digB r) [] _ hd, Lib.fieldsGo, show Lib.isSp 32 = true from rfl, List.nil_append]
    simp only [if_true]
    have hne : (digB r).isEmpty = false := by
      cases r with
      | nil => exact absurd rfl hr
      | cons a b => rfl
    rw [hne, if_neg (by simp)]
    show digB r :: Lib.fields (rowsB (s :: rs)) = _
    rw [ih]
    rfl
theorem mem_rowsB : ∀ rows : List (List Int), (∀ r ∈ rows, ∀ x ∈ r, 0 ≤ x ∧ x ≤ 9) → ∀ b ∈ rowsB rows, b.toNat < 128
  | [], _, b, hb => by cases hb
  | [r], h, b, hb => by have := mem_digB (h r List.mem_cons_self) (show b ∈ digB r from hb); omega
  | r :: s :: rs, h, b, hb => by
    rcases List.mem_append.1 (show b ∈ digB r ++ 32 :: rowsB (s :: rs) from hb) with q | q
    · have := mem_digB (h r List.mem_cons_self) q; omega
    · rcases List.mem_cons.1 q with rfl | q
      · decide
      · exact mem_rowsB (s :: rs) (fun x hx => h x (List.mem_cons_of_mem _ hx)) b q
theorem fieldsD_rows {rows : List (List Int)} (h : ∀ r ∈ rows, r ≠ [] ∧ ∀ x ∈ r, 0 ≤ x ∧ x ≤ 9) : Lib.fieldsD (rowsB rows) = rows.map digB := by
  rw [Lib.fieldsD_ascii _ (mem_rowsB rows fun r hr => (h r hr).2), fields_rows rows h]

theorem cutB_word (sep : UInt8) : ∀ w l : List UInt8, sep ∉ w → cutB sep (w ++ sep :: l) = w :: cutB sep l
  | [], l, _ => by simp [cutB]
  | b :: w, l, h => by
    have hb : ¬ b = sep := fun q => h (by rw [q]; exact List.mem_cons_self)
    show cutB sep (b :: (w ++ sep :: l)) = _
    rw [cutB, if_neg hb, cutB_word sep w l (fun q => h (List.mem_cons_of_mem _ q))]
theorem cutB_last (sep : UInt8) : ∀ w : List UInt8, sep ∉ w → cutB sep w = [w]
  | [], _ => rfl
  | b :: w, h => by
    have hb : ¬ b = sep := fun q => h (by rw [q]; exact List.mem_cons_self)
    rw [cutB, if_neg hb, cutB_last sep w (fun q => h (List.mem_cons_of_mem _ q))]
theorem cutB_rows : ∀ rows : List (List Int), rows ≠ [] → (∀ r ∈ rows, ∀ x ∈ r, 0 ≤ x ∧ x ≤ 9) → cutB 32 (rowsB rows) = rows.map digB
  | [], h, _ => absurd rfl h
  | [r], _, h => by
    have hd : (32 : UInt8) ∉ digB r := fun q => by have := (mem_digB (h r List.mem_cons_self) q).1; exact absurd this (by decide)
    exact cutB_last 32 (digB r) hd
  | r :: s :: rs, _, h => by
    have hd : (32 : UInt8) ∉ digB r := fun q => by have := (mem_digB (h r List.mem_cons_self) q).1; exact absurd this (by decide)
    show cutB 32 (digB r ++ 32 :: rowsB (s :: rs)) = _
    rw [cutB_word 32 _ _ hd, cutB_rows (s :: rs) (by simp) (fun x hx => h x (List.mem_cons_of_mem _ hx))]
    rfl

/-- How many fields, and how long. -/
theorem fieldsGoD_len : ∀ (f : Nat) (cur l : List UInt8), (Lib.fieldsGoD f cur l).length ≤ f + 1
  | 0, cur, l => by unfold Lib.fieldsGoD; split <;> simp
  | f + 1, cur, l => by
    have h1 := fieldsGoD_len f [] (l.drop (Lib.decodeL l).2)
    have h2 := fieldsGoD_len f (cur ++ l.take (Lib.decodeL l).2) (l.drop (Lib.decodeL l).2)
    have h3 : (if cur = [] then [] else [cur]).length ≤ 1 := by split <;> simp
    unfold Lib.fieldsGoD
    split
    · omega
    · split
      · rw [List.length_append]; omega
      · omega
theorem fieldsD_len (l : List UInt8) : (Lib.fieldsD l).length ≤ l.length + 2 := fieldsGoD_len _ _ _
theorem fieldsGoD_mem : ∀ (f : Nat) (cur l x : List UInt8), x ∈ Lib.fieldsGoD f cur l → x.length ≤ cur.length + l.length
  | 0, cur, l, x, h => by
    unfold Lib.fieldsGoD at h
    split at h
    · cases h
    · rw [List.mem_singleton.1 h]; omega
  | f + 1, cur, l, x, h => by
    have h0 : ∀ y, y ∈ (if cur = [] then [] else [cur]) → y.length ≤ cur.length := fun y hy => by
      split at hy
      · cases hy
      · rw [List.mem_singleton.1 hy]; omega
    unfold Lib.fieldsGoD at h
    split at h
    · have := h0 x h; omega
    · split at h
      · rcases List.mem_append.1 h with q | q
        · have := h0 x q; omega
        · have := fieldsGoD_mem f _ _ x q
          rw [List.length_drop] at this
          simp only [List.length_nil] at this
          omega
      · have := fieldsGoD_mem f _ _ x h
        rw [List.length_drop, List.length_append, List.length_take] at this
        omega
theorem fieldsD_mem {l x : List UInt8} (h : x ∈ Lib.fieldsD l) : x.length ≤ l.length := by
  have := fieldsGoD_mem _ _ _ _ h
  simp only [List.length_nil] at this
  omega

/-- What the program reads: the head's first byte, its second, the body's fields. -/
def iNm (a : List UInt8) : ByteArray := ba (a.take 1)
def iAr (a : List UInt8) : Int := ((a.getD 1 0).toNat : Int) - 48
def iRows (b : List UInt8) : List (List Int) := (Lib.fieldsD b).map vals

theorem rows_len : ∀ rows : List (List Int), (∀ r ∈ rows, r ≠ [] ∧ r.length ≤ 3 ∧ ∀ x ∈ r, 0 ≤ x ∧ x ≤ 9) → (rowsB rows).length + 1 ≤ 4 * rows.length + 1 ∧ (rows ≠ [] → 1 ≤ (rowsB rows).length ∧ (rowsB rows).length + 1 ≤ 4 * rows.length) := by
  intro rows
  induction rows with
  | nil => intro _; exact ⟨by simp [rowsB], fun q => absurd rfl q⟩
  | cons r rs ih =>
    intro hrow'
    obtain ⟨g1, g2, _⟩ := hrow' r List.mem_cons_self
    have g3 : 1 ≤ r.length := by cases r with | nil => exact absurd rfl g1 | cons _ _ => simp
    have ih := ih (fun z hz => hrow' z (List.mem_cons_of_mem _ hz))
    cases rs with
    | nil =>
      have e : (rowsB [r]).length = r.length := digB_len r
      rw [e]
      simp
      omega
    | cons t ts =>
      have e : (rowsB (r :: t :: ts)).length = r.length + ((rowsB (t :: ts)).length + 1) := by
        show (digB r ++ 32 :: rowsB (t :: ts)).length = _
        rw [List.length_append, List.length_cons, digB_len]
      have := ih.2 (by simp)
      rw [e]
      simp only [List.length_cons] at *
      exact ⟨by omega, fun _ => ⟨by omega, by omega⟩⟩

/-- A string that is the format of a valid table. -/
theorem shape {s nm : ByteArray} {ar : Int} {rows : List (List Int)} (hok : tabOk nm ar rows = true) (hs : fmtT nm ar rows = s) :
    3 ≤ s.size ∧ s.size ≤ 34 ∧ (∃ x y, Lib.cut s.data.toList [58] = ([x, y], rowsB rows, true) ∧ iNm [x, y] = nm ∧ iAr [x, y] = ar) ∧ iRows (rowsB rows) = rows ∧ pNm s = nm ∧ pAr s = ar ∧ pRows s = rows := by
  have htp : TabP nm ar rows := of_decide_eq_true hok
  obtain ⟨hnm, h1, h3, h8, hrow, _⟩ := htp
  have hn := of_decide_eq_true hnm
  have hrow' : ∀ r ∈ rows, r ≠ [] ∧ r.length ≤ 3 ∧ ∀ x ∈ r, 0 ≤ x ∧ x ≤ 9 := fun r hr => by
    have := rowOk_iff.1 (hrow r hr)
    exact ⟨fun q => by rw [q] at this; simp at this; omega, by omega, this.2⟩
  obtain ⟨⟨nl⟩⟩ := nm
  obtain ⟨x, rfl⟩ : ∃ x, nl = [x] := List.length_eq_one_iff.1 hn.1
  have hx : 97 ≤ x.toNat ∧ x.toNat ≤ 122 := hn.2
  have hy := dig_byte (x := ar) ⟨by omega, by omega⟩
  have hsl : s.data.toList = [x, UInt8.ofNat (48 + ar.toNat)] ++ 58 :: rowsB rows := by
    rw [← hs]
    unfold fmtT
    rw [hok, if_pos rfl]
    rfl
  generalize UInt8.ofNat (48 + ar.toNat) = y at *
  have h58 : (58 : UInt8) ∉ [x, y] := fun q => by
    rcases List.mem_cons.1 q with q | q
    · rw [← q] at hx; exact absurd hx.1 (by decide)
    · rw [← List.mem_singleton.1 q] at hy
      have : (58 : UInt8).toNat = 58 := rfl
      omega
  have hlen : s.size = 3 + (rowsB rows).length := by
    have : s.data.toList.length = s.size := Array.length_toList
    rw [← this, hsl]
    simp
    omega
  have hrl := rows_len rows hrow'
  have hr0 : rows = [] → (rowsB rows).length = 0 := fun q => by rw [q]; rfl
  have hsz34 : s.size ≤ 34 := by
    by_cases q : rows = []
    · rw [hlen, hr0 q]; omega
    · have := (hrl.2 q).2; omega
  refine ⟨by omega, hsz34, ⟨x, y, ?_, ?_, ?_⟩, ?_, ?_, ?_, ?_⟩
  · rw [hsl]
    exact cut_hit 58 _ _ h58
  · rfl
  · show (y.toNat : Int) - 48 = ar
    rw [hy]
    omega
  · unfold iRows
    rw [fieldsD_rows fun r hr => ⟨(hrow' r hr).1, (hrow' r hr).2.2⟩, List.map_map]
    exact (List.map_congr_left (fun r hr => vals_digB (hrow' r hr).2.2)).trans (List.map_id' rows)
  · unfold pNm
    rw [extract_ba, hsl]
    rfl
  · unfold pAr
    rw [hsl]
    show (y.toNat : Int) - 48 = ar
    rw [hy]
    omega
  · unfold pRows
    by_cases q : rows = []
    · rw [if_neg (by rw [hlen, hr0 q]; omega), q]
    · rw [if_pos (by rw [hlen]; have := (hrl.2 q).1; omega)]
      unfold cuts
      have e : (s.extract 3 s.size).data.toList = rowsB rows := by
        rw [extract_ba, hsl]
        have : ∀ l : List UInt8, (ba l).data.toList = l := fun l => by simp [ba]
        rw [this]
        show (rowsB rows).take (s.size - 3) = rowsB rows
        exact List.take_of_length_le (by omega)
      rw [e, cutB_rows rows q fun r hr => (hrow' r hr).2.2, List.map_map, List.map_map]
      refine (List.map_congr_left (fun r hr => ?_)).trans (List.map_id' rows)
      show vals (ba (digB r)).data.toList = r
      have : (ba (digB r)).data.toList = digB r := by simp [ba]
      rw [this, vals_digB (hrow' r hr).2.2]

theorem ok_of_fmt {s nm : ByteArray} {ar : Int} {rows : List (List Int)} (h0 : s.size ≠ 0) (h : fmtT nm ar rows = s) : tabOk nm ar rows = true := by
  cases hk : tabOk nm ar rows
  · exfalso
    unfold fmtT at h
    rw [hk] at h
    exact h0 (by rw [← h]; rfl)
  · rfl

theorem par_yes {s : ByteArray} {a b : List UInt8} {has : Bool} (hc : Lib.cut s.data.toList [58] = (a, b, has)) (h2 : a.length = 2) (hf : fmtT (iNm a) (iAr a) (iRows b) = s) :
    pOk s = true ∧ pNm s = iNm a ∧ pAr s = iAr a ∧ pRows s = iRows b := by
  have h0 : s.size ≠ 0 := by
    have hp := cut_pre 58 s.data.toList
    rw [hc] at hp
    have := hp.length_le
    have h : s.data.toList.length = s.size := Array.length_toList
    show s.size ≠ 0
    simp only at this
    omega
  have hok := ok_of_fmt h0 hf
  obtain ⟨g1, g2, _, _, g5, g6, g7⟩ := shape hok hf
  refine ⟨decide_eq_true ⟨g1, by omega, ?_⟩, g5, g6, g7⟩
  rw [g5, g6, g7]
  exact hf
theorem par_no {s : ByteArray} {a b : List UInt8} {has : Bool} (hc : Lib.cut s.data.toList [58] = (a, b, has)) (h : a.length ≠ 2 ∨ 34 < s.size ∨ fmtT (iNm a) (iAr a) (iRows b) ≠ s) : pOk s = false := by
  cases hk : pOk s
  · rfl
  · exfalso
    obtain ⟨g1, g2, g3⟩ : ParP s := of_decide_eq_true hk
    have hok := ok_of_fmt (by omega) g3
    obtain ⟨k1, k2, ⟨x, y, k3, k4, k5⟩, k6, _⟩ := shape hok g3
    rw [hc] at k3
    injection k3 with e1 e2
    injection e2 with e2 _
    subst e1 e2
    rcases h with h | h | h
    · exact h rfl
    · omega
    · exact h (by rw [k4, k5, k6]; exact g3)
end Go.Proofs.YtinchhahcheadaaGreat.ParMath

namespace Go.Proofs.YtinchhahcheadaaGreat.UpdFact
open Go Go.RowKit Byt Ints IntsLaw Cd Rows2 Tab TabSpec Exact Upd TabFmt UpdFmt TabParse UpdParse

/-- A format is read back; there is none only where there is nothing to be read. -/
theorem par_fmtU (nm : ByteArray) (b : Bool) (row : List Int) :
    (updOk nm row = false → fmtU nm b row = ⟨#[]⟩ ∧ uOk (fmtU nm b row) = false) ∧
    (updOk nm row = true → fmtU nm b row ≠ ⟨#[]⟩ ∧ uOk (fmtU nm b row) = true ∧ uN (fmtU nm b row) = nm ∧ uB (fmtU nm b row) = b ∧ uR (fmtU nm b row) = row) := by
  constructor
  · intro h
    rw [fmtU_no h]
    exact ⟨rfl, decide_eq_false fun q => absurd q.1 (by decide)⟩
  · intro h
    have hk := h
    unfold updOk at hk
    simp only [Bool.and_eq_true, decide_eq_true_eq] at hk
    obtain ⟨⟨h1, _, _⟩, h3⟩ := hk
    have hn := (of_decide_eq_true h1).1
    obtain ⟨⟨nl⟩⟩ := nm
    obtain ⟨x, rfl⟩ : ∃ x, nl = [x] := List.length_eq_one_iff.1 hn
    generalize hs : fmtU ⟨⟨[x]⟩⟩ b row = s at *
    have hsl : s.data.toList = signB b :: x :: digB row := by
      rw [← hs, fmtU_yes h]
      rfl
    have hlen : s.size = 2 + row.length := by
      have e : s.data.toList.length = s.size := Array.length_toList
      rw [← e, hsl]
      simp [digB]
      omega
    have eN : uN s = ⟨⟨[x]⟩⟩ := by
      unfold uN
      rw [extract_ba, hsl]
      rfl
    have eB : uB s = b := by
      unfold uB
      rw [hsl]
      cases b <;> rfl
    have eR : uR s = row := by
      unfold uR
      rw [extract_ba, hsl]
      have e : ∀ l : List UInt8, (ba l).data.toList = l := fun l => by simp [ba]
      rw [e]
      have e2 : ((signB b :: x :: digB row).drop 2).take (s.size - 2) = digB row := by
        rw [hlen]
        show (digB row).take (2 + row.length - 2) = digB row
        refine List.take_of_length_le ?_
        simp [digB]
      rw [e2]
      exact ParMath.vals_digB (rowOk_iff.1 h3).2
    refine ⟨fun q => ?_, ?_, eN, eB, eR⟩
    · rw [q] at hlen
      have : (⟨#[]⟩ : ByteArray).size = 0 := rfl
      omega
    · refine decide_eq_true ⟨by omega, ?_⟩
      rw [eN, eB, eR]
      exact hs
theorem fmtU_size (nm : ByteArray) (b : Bool) (row : List Int) : (fmtU nm b row).size ≤ 1048576 := by
  cases h : updOk nm row
  · rw [fmtU_no h]; decide
  · have := uOk_len ((par_fmtU nm b row).2 h).2.1
    omega
end Go.Proofs.YtinchhahcheadaaGreat.UpdFact

namespace Go.Proofs.YtinchhahcheadaaGreat.Mark
open Go Go.RowKit Byt Format
open Go.Lib (decDigits)

/-- The text of mark k. -/
def mtext (k : Nat) : ByteArray := ⟨(109 :: decDigits k).toArray⟩
theorem mtext_size (k : Nat) (h : k ≤ 9223372036854775807) : (mtext k).size ≤ 20 := by
  have := digits_len (n := k) (by omega)
  show (109 :: decDigits k).toArray.size ≤ 20
  rw [List.size_toArray, List.length_cons]
  omega
end Go.Proofs.YtinchhahcheadaaGreat.Mark

namespace Go.Proofs.YtinchhahcheadaaGreat.SlTable
open Go Go.RowKit Byt Ints IntsLaw Cd Rows2 Tab SlMath TabOpen TabElem Mark

theorem heap_same {w w' : World} {g o : Nat} {x : Value} (h : w'.heap[g]? = w.heap[g]?) : (w'.setCell ⟨g, o, none⟩ x).heap[g]? = (w.setCell ⟨g, o, none⟩ x).heap[g]? := by
  simp only [World.setCell, Array.getElem?_modify, h]
theorem touch_cell {fp : List Nat} {w : World} {g o : Nat} (h : g ∈ fp) (x : Value) : Cd.Touch fp w (w.setCell ⟨g, o, none⟩ x) :=
  ⟨rfl, rfl, rfl, by simp, fun k _ hn => Below.heap_setCell w _ x k fun q => hn (by rw [q]; exact h)⟩
/-- A table marked from k on, and how many marks it takes. -/
def mkT (k : Nat) (T : T3) : T3 := (mtext k, ((k + 1 : Nat) : Int), mrows (k + 2) T.2.2)
def cntT (T : T3) : Nat := 2 + T.2.2.flatten.length

end Go.Proofs.YtinchhahcheadaaGreat.SlTable

namespace Go.Proofs.YtinchhahcheadaaGreat.Db
open Go Go.RowKit Byt Ints IntsLaw Cd Rows2 Tab SlMath TabOpen TabElem Mark SlTable

def tabsC : Cd (List T3) := Cd.sl 51 tabC





end Go.Proofs.YtinchhahcheadaaGreat.Db

namespace Go.Proofs.YtinchhahcheadaaGreat.DbSpec
open Go Go.RowKit Byt Ints IntsLaw Cd Rows2 Tab SlMath TabOpen TabElem SlTable Db TabSpec

/-- One table, said of its cells. -/
theorem sameT_iff {a b : T3} : sameT a.1 b.1 a.2.1 b.2.1 a.2.2 b.2.2 = decide (a = b) := by
  obtain ⟨a1, a2, a3⟩ := a
  obtain ⟨b1, b2, b3⟩ := b
  unfold sameT
  simp
theorem row1 {w : World} {k : Nat} {a : Value} {e : TypeId} (h : w.heap[k]? = some (.cells #[a] e (0, 0))) : w.cell? ⟨k, 0, none⟩ = some a ∧ w.frozen? ⟨k, 0, none⟩ = false := ⟨by simp [World.cell?, h], by simp [World.frozen?, h]⟩
theorem ret_b {a b : Bool} (h : a = b) : Ending.returned (.bool a) = Ending.returned (.bool b) := by rw [h]
def LaterD (w w' : World) : Prop := Below w.heap.size w w'
theorem take_ne {l1 l2 : List T3} {k : Nat} (h1 : k < l1.length) (h2 : k < l2.length) (h : l1[k] ≠ l2[k]) : l1 ≠ l2 := fun q => h (by simp [q])
theorem take_eq {l1 l2 : List T3} {k : Nat} (h1 : k < l1.length) (h2 : k < l2.length) (ht : l1.take k = l2.take k) (h : l1[k] = l2[k]) : l1.take (k + 1) = l2.take (k + 1) := by
  rw [List.take_succ_eq_append_getElem h1, List.take_succ_eq_append_getElem h2, ht, h]

theorem eqt_elem (us vs : List Value) (T U : T3) (S S2 : Nat → Prop) (w : World) (hu : tabC.rd w S us T) (hv : tabC.rd w S2 vs U) :
    Calls Tryz.prog 42 #[.agg us.toArray, .agg vs.toArray] w fun e w' => e = .returned (.bool (decide (T = U))) ∧ Below w.heap.size w w' := by
  obtain ⟨u, rfl, _, _, h3⟩ := tab_cells hu
  obtain ⟨u2, rfl, _, _, h4⟩ := tab_cells hv
  have h := spec_equal T.1 U.1 T.2.1 U.2.1 u u2 T.2.2 U.2.2 S S2 w h3 h4
  rw [sameT_iff] at h
  exact h
set_option maxRecDepth 100000 in
set_option maxHeartbeats 1600000 in
theorem spec_eqdb (u1 u2 : Value) (l1 l2 : List T3) (S1 S2 : Nat → Prop) (w : World) (h1 : tabsC.rd w S1 [u1] l1) (h2 : tabsC.rd w S2 [u2] l2) :
    Calls Tryz.prog 16 #[.agg #[u1], .agg #[u2]] w fun e w' => e = .returned (.bool (decide (l1 = l2))) ∧ Below w.heap.size w w' := by
  have HR1 := Lib.hid (fun w' (hb : Below w.heap.size w w') => Cd.later h1 hb)
  have HR2 := Lib.hid (fun w' (hb : Below w.heap.size w w') => Cd.later h2 hb)
  obtain ⟨a1, cap1, rfl, hl1⟩ := Cd.sl_form h1
  obtain ⟨a2, cap2, rfl, hl2⟩ := Cd.sl_form h2
  clear h1 h2
  by_cases hlen : l1.length = l2.length
  case neg =>
    have HZ := Lib.hid (show decide (l1 = l2) = false from decide_eq_false fun q => hlen (by rw [q]))
    have ht : ((l1.length : Int) != (l2.length : Int)) = true := by rw [bne_iff_ne]; omega
    go_enter Tryz.func16, Tryz.ntmps16
    go_wp2_with fail
    go_ret
    exact ⟨ret_b HZ.out.symm, below_then (below_alloc _ _) (below_alloc _ _)⟩
  have HLEN := Lib.hid hlen
  rw [hlen]
  clear hlen
  go_enter Tryz.func16, Tryz.ntmps16
  go_wp2_with fail
  generalize hW : (w.alloc _).alloc _ = W
  obtain ⟨r0, r1, hz, hb0⟩ := start2g w _ _ hW
  have c0 := (row1 r0).1
  have c1 := (row1 r1).1
  have HC0 := Lib.hid (And.intro (row1 r0).1 (row1 r1).1)
  have HLT0 := Lib.hid (show w.heap.size + 1 < W.heap.size by omega)
  have HB0 := Lib.hid hb0
  clear hW r0 r1 hz hb0
  go_loopw [5] (fun i wr => ∃ k : Nat, k ≤ l2.length ∧ i = .int .i64 k ∧ l1.take k = l2.take k ∧ Below W.heap.size W wr) (fun i _ => l2.length - (intOf i).toNat)
  case atStart => exact ⟨0, Nat.zero_le _, rfl, by simp, Below.refl _ _⟩
  case round =>
    obtain ⟨k, hk, rfl, htk, hb⟩ := hrel
    have x0 := (hb.cell (p := ⟨w.heap.size, 0, none⟩) (by have := HLT0.out; show w.heap.size < _; omega)).trans HC0.out.1
    have x1 := (hb.cell (p := ⟨w.heap.size + 1, 0, none⟩) HLT0.out).trans HC0.out.2
    have HTK := Lib.hid htk
    have HBW := Lib.hid (below_then HB0.out hb)
    have HWR := Lib.hid hb
    have hWr : W.heap.size ≤ wr.heap.size := hb.size
    clear c0 c1 htk
    by_cases hlt : k < l2.length
    · have hlt1 : k < l1.length := by rw [HLEN.out]; exact hlt
      obtain ⟨b, off, cap', us, e1, _, hbB, hat, hu⟩ := Cd.sl_at (HR1.out wr HBW.out) hlt1
      rw [HLEN.out] at e1
      injection e1 with e1 e2 e3
      subst e1 e3
      obtain ⟨x, y, z, rfl⟩ := len_list (tabC.len hu)
      have p0 := hat 0 (by simp)
      have p1 := hat 1 (by simp)
      have p2 := hat 2 (by simp)
      obtain ⟨b', off', cap', us, e1, _, hbB', hat', hu'⟩ := Cd.sl_at (HR2.out wr HBW.out) hlt
      injection e1 with e1 e2 e3
      subst e1 e3
      obtain ⟨x', y', z', rfl⟩ := len_list (tabC.len hu')
      have q0 := hat' 0 (by simp)
      have q1 := hat' 1 (by simp)
      have q2 := hat' 2 (by simp)
      simp only [List.getElem_cons_zero, List.getElem_cons_succ, Nat.add_zero, show tabC.n = 3 from rfl] at p0 p1 p2 q0 q1 q2
      have HE := Lib.hid (fun w' (hq : LaterD wr w') => eqt_elem [x, y, z] [x', y', z'] l1[k] l2[k] _ _ w' (Cd.later hu hq) (Cd.later hu' hq))
      have HALL := Lib.hid (And.intro (And.intro x0 x1) (And.intro (And.intro p0 (And.intro p1 p2)) (And.intro q0 (And.intro q1 q2))))
      have HLTS := Lib.hid (show w.heap.size + 1 < wr.heap.size ∧ b < wr.heap.size ∧ b' < wr.heap.size from ⟨by have := HLT0.out; omega, hbB, hbB'⟩)
      have i1 : (0 : Int) ≤ (k : Int) := by omega
      have i2 : (k : Int) < (l2.length : Int) := by omega
      have kk : LaterD wr wr.drew := (Below.refl _ wr).drew
      by_cases hT : l1[k] = l2[k]
      · rw [show decide (l1[k] = l2[k]) = true from decide_eq_true hT] at HE
        have HT := Lib.hid (take_eq hlt1 hlt HTK.out hT)
        clear hu hu' hat hat' hb hbB hbB' hT e2 hlt1
        go_wp2_with fail
        go_region_held3 (fun wx => wx.cell? ⟨w.heap.size, 0, none⟩ = some (.slice (some ⟨b, off, none⟩) l2.length cap1) ∧ wx.cell? ⟨w.heap.size + 1, 0, none⟩ = some (.slice (some ⟨b', off', none⟩) l2.length cap2) ∧ wx.cell? ⟨b, off + k * 3, none⟩ = some x ∧ wx.cell? ⟨b, off + k * 3 + 1, none⟩ = some y ∧ wx.cell? ⟨b, off + k * 3 + 2, none⟩ = some z ∧ wx.cell? ⟨b', off' + k * 3, none⟩ = some x' ∧ wx.cell? ⟨b', off' + k * 3 + 1, none⟩ = some y' ∧ wx.cell? ⟨b', off' + k * 3 + 2, none⟩ = some z' ∧ LaterD wr wx)
          ((refine ⟨?_, ?_, ?_, ?_, ?_, ?_, ?_, ?_, ?_⟩ <;> first | assumption | (simp [*]; done)))
          (first | (go_at_call 42; refine (HE.out _ (by assumption)).mono ?_; rintro e wq ⟨rfl, hbq⟩; (have kk : LaterD wr wq := below_then (by assumption) hbq); (have n0 := (Below.cell kk (p := ⟨w.heap.size, 0, none⟩) (by have := HLTS.out.1; show w.heap.size < _; omega)).trans HALL.out.1.1); (have n1 := (Below.cell kk (p := ⟨w.heap.size + 1, 0, none⟩) HLTS.out.1).trans HALL.out.1.2); (have n2 := (Below.cell kk (p := ⟨b, off + k * 3, none⟩) HLTS.out.2.1).trans HALL.out.2.1.1); (have n3 := (Below.cell kk (p := ⟨b, off + k * 3 + 1, none⟩) HLTS.out.2.1).trans HALL.out.2.1.2.1); (have n4 := (Below.cell kk (p := ⟨b, off + k * 3 + 2, none⟩) HLTS.out.2.1).trans HALL.out.2.1.2.2); (have n5 := (Below.cell kk (p := ⟨b', off' + k * 3, none⟩) HLTS.out.2.2).trans HALL.out.2.2.1); (have n6 := (Below.cell kk (p := ⟨b', off' + k * 3 + 1, none⟩) HLTS.out.2.2).trans HALL.out.2.2.2.1); (have n7 := (Below.cell kk (p := ⟨b', off' + k * 3 + 2, none⟩) HLTS.out.2.2).trans HALL.out.2.2.2.2); clear hbq))
        all_goals
          have HBQ := Lib.hid (below_then HBW.out (show Below wr.heap.size wr wq by assumption))
          have HBQ2 := Lib.hid (below_then HWR.out (show Below wr.heap.size wr wq by assumption))
          go_wp2_with fail
          go_roundw
          case rel => exact ⟨k + 1, by omega, by go_num, HT.out, HBQ2.out⟩
          case measure => simp [intOf]; omega
      · rw [show decide (l1[k] = l2[k]) = false from decide_eq_false hT] at HE
        have HZ := Lib.hid (show decide (l1 = l2) = false from decide_eq_false (take_ne hlt1 hlt hT))
        clear hu hu' hat hat' hb hbB hbB' hT e2 hlt1
        go_wp2_with fail
        go_region_held3 (fun wx => wx.cell? ⟨w.heap.size, 0, none⟩ = some (.slice (some ⟨b, off, none⟩) l2.length cap1) ∧ wx.cell? ⟨w.heap.size + 1, 0, none⟩ = some (.slice (some ⟨b', off', none⟩) l2.length cap2) ∧ wx.cell? ⟨b, off + k * 3, none⟩ = some x ∧ wx.cell? ⟨b, off + k * 3 + 1, none⟩ = some y ∧ wx.cell? ⟨b, off + k * 3 + 2, none⟩ = some z ∧ wx.cell? ⟨b', off' + k * 3, none⟩ = some x' ∧ wx.cell? ⟨b', off' + k * 3 + 1, none⟩ = some y' ∧ wx.cell? ⟨b', off' + k * 3 + 2, none⟩ = some z' ∧ LaterD wr wx)
          ((refine ⟨?_, ?_, ?_, ?_, ?_, ?_, ?_, ?_, ?_⟩ <;> first | assumption | (simp [*]; done)))
          (first | (go_at_call 42; refine (HE.out _ (by assumption)).mono ?_; rintro e wq ⟨rfl, hbq⟩; (have kk : LaterD wr wq := below_then (by assumption) hbq); (have n0 := (Below.cell kk (p := ⟨w.heap.size, 0, none⟩) (by have := HLTS.out.1; show w.heap.size < _; omega)).trans HALL.out.1.1); (have n1 := (Below.cell kk (p := ⟨w.heap.size + 1, 0, none⟩) HLTS.out.1).trans HALL.out.1.2); (have n2 := (Below.cell kk (p := ⟨b, off + k * 3, none⟩) HLTS.out.2.1).trans HALL.out.2.1.1); (have n3 := (Below.cell kk (p := ⟨b, off + k * 3 + 1, none⟩) HLTS.out.2.1).trans HALL.out.2.1.2.1); (have n4 := (Below.cell kk (p := ⟨b, off + k * 3 + 2, none⟩) HLTS.out.2.1).trans HALL.out.2.1.2.2); (have n5 := (Below.cell kk (p := ⟨b', off' + k * 3, none⟩) HLTS.out.2.2).trans HALL.out.2.2.1); (have n6 := (Below.cell kk (p := ⟨b', off' + k * 3 + 1, none⟩) HLTS.out.2.2).trans HALL.out.2.2.2.1); (have n7 := (Below.cell kk (p := ⟨b', off' + k * 3 + 2, none⟩) HLTS.out.2.2).trans HALL.out.2.2.2.2); clear hbq))
        all_goals
          have HBQ := Lib.hid (below_then HBW.out (show Below wr.heap.size wr wq by assumption))
          go_wp2_with fail
          go_ret
          exact ⟨ret_b HZ.out.symm, HBQ.out⟩
    · have ek : k = l2.length := by omega
      subst ek
      have HZ := Lib.hid (show decide (l1 = l2) = true from decide_eq_true (by
        have h := HTK.out
        rw [List.take_length, List.take_of_length_le (by rw [HLEN.out]; exact Nat.le_refl _)] at h
        exact h))
      go_wp2_with fail
      go_ret
      exact ⟨ret_b HZ.out.symm, HBW.out⟩
end Go.Proofs.YtinchhahcheadaaGreat.DbSpec

namespace Go.Proofs.YtinchhahcheadaaGreat.RegH
open Go

def nth : List Oper → Nat → Option Oper
  | [], _ => none
  | o :: _, 0 => some o
  | _ :: l, n + 1 => nth l n
theorem nth_eq : ∀ (l : List Oper) (i : Nat), nth l i = l.toArray[i]?
  | [], _ => by simp [nth]
  | _ :: _, 0 => by simp [nth]
  | _ :: l, n + 1 => by
    rw [nth, nth_eq l n]
    simp
variable {P : Program} {Q : Exit → Act → World → Prop} {md : Region.Mode} {S : World → Prop} {L : List Oper}
theorem takeH {i : Nat} {oi : Oper} {v : Value} {fuel : Nat} {listed : Array Bool} {a : Act} {w : World} (hi : nth L i = some oi)
    (hs : Region.noSelect L.toArray = true) (hf : Region.free md L.toArray listed i = true) (hr : (Region.ready md L.toArray listed).contains i = true)
    (hQ : ∀ c a w, Q (.panic c) (a.put oi.dst v) w → Q (.panic c) a w) (hy : YieldsIf P L.toArray S oi v a) (hS : S w)
    (h : wpAnyH P md L.toArray Q S fuel (listed.setIfInBounds i true) (a.put oi.dst v) w) : wpAnyH P md L.toArray Q S (fuel + 1) listed a w :=
  wpAnyH_take ((nth_eq L i).symm.trans hi) hs hf hr hQ hy hS h
theorem consH {fuel : Nat} {listed : Array Bool} {a : Act} {w : World} {i : Nat} {o : Oper} (ho : nth L i = some o) (hr : Region.ready md L.toArray listed = [i])
    (h : ∀ K' : Act → World → Prop, Shut (∀ a w, S w → (S w → wpAnyH P md L.toArray Q S fuel (listed.setIfInBounds i true) a w) → K' a w) → if Region.wanted o (yielded L.toArray a.tmps) = true then Oper.wp P o a w K' Q else K' (a.put o.dst undef) w) :
    wpAnyH P md L.toArray Q S (fuel + 1) listed a w :=
  wpAnyH_ready hr (by simp) (AllReadyH.cons ((nth_eq L i).symm.trans ho) h AllReadyH.nil)
theorem consH2 {fuel : Nat} {listed : Array Bool} {a : Act} {w : World} {i j : Nat} {o o2 : Oper} (ho : nth L i = some o) (ho2 : nth L j = some o2) (hr : Region.ready md L.toArray listed = [i, j])
    (h : ∀ K' : Act → World → Prop, Shut (∀ a w, S w → (S w → wpAnyH P md L.toArray Q S fuel (listed.setIfInBounds i true) a w) → K' a w) → if Region.wanted o (yielded L.toArray a.tmps) = true then Oper.wp P o a w K' Q else K' (a.put o.dst undef) w)
    (h2 : ∀ K' : Act → World → Prop, Shut (∀ a w, S w → (S w → wpAnyH P md L.toArray Q S fuel (listed.setIfInBounds j true) a w) → K' a w) → if Region.wanted o2 (yielded L.toArray a.tmps) = true then Oper.wp P o2 a w K' Q else K' (a.put o2.dst undef) w) :
    wpAnyH P md L.toArray Q S (fuel + 1) listed a w :=
  wpAnyH_ready hr (by simp) (AllReadyH.cons ((nth_eq L i).symm.trans ho) h (AllReadyH.cons ((nth_eq L j).symm.trans ho2) h2 AllReadyH.nil))
end Go.Proofs.YtinchhahcheadaaGreat.RegH
