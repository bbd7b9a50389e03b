/- An owned slice whose cells another hand has rewritten: an element out, an element in. Over any program. -/
import Derived.Test.YtnoennmhifmolaaCdRoom
import Derived.Sort.Row
namespace Go.Proofs.Ytnoennmhifmolaa.Cd
open Go Go.RowKit Byt Ints
namespace Cd
variable {α β : Type}

/-- What owns a slice at block g, its cells laid bare. -/
theorem ow_bare {e : TypeId} {c : Cd α} (hn : c.n = 1) {w : World} {base g n cap : Nat} {l : List α} {fp : List Nat} (h : (sl e c).ow w base [.slice (some ⟨g, 0, none⟩) n cap] l fp) :
    ∃ (cur : Array Value) (xss : List (List Value)) (fps : List (List Nat)), w.heap[g]? = some (.cells cur e (0, 0)) ∧ cur.size = cap ∧ n = l.length ∧ n ≤ cap ∧ cap ≤ maxLen ∧ base ≤ g ∧ cur.toList.take n = xss.flatten ∧ Each c w base xss l fps ∧ fp = g :: fps.flatten := by
  obtain ⟨v', xss, fps, e1, hown, hE, rfl⟩ := h
  injection e1 with e1 _
  subst e1
  rcases hown.2 with ⟨e1, _⟩ | ⟨g', cap', cur, e1, hb, hg, hnc, hcm, hcs, ht⟩
  · cases e1
  · simp only [Value.slice.injEq, Option.some.injEq, Addr.mk.injEq, and_true] at e1
    obtain ⟨rfl, rfl, rfl⟩ := e1
    rw [hn, Nat.mul_one] at hcs ht
    exact ⟨cur, xss, fps, hg, hcs, rfl, hnc, hcm, hb, ht, hE, rfl⟩
theorem ow_bared {e : TypeId} {c : Cd α} (hn : c.n = 1) {w : World} {base g n cap : Nat} {l : List α} {cur : Array Value} {xss : List (List Value)} {fps : List (List Nat)}
    (hg : w.heap[g]? = some (.cells cur e (0, 0))) (hcs : cur.size = cap) (hnl : n = l.length) (hnc : n ≤ cap) (hcm : cap ≤ maxLen) (hb : base ≤ g) (ht : cur.toList.take n = xss.flatten) (hE : Each c w base xss l fps) :
    (sl e c).ow w base [.slice (some ⟨g, 0, none⟩) n cap] l (g :: fps.flatten) := by
  subst hnl
  refine ⟨_, xss, fps, rfl, ⟨hE.flatten_len, .inr ⟨g, cap, cur, rfl, hb, hg, hnc, hcm, by rw [hn, Nat.mul_one]; exact hcs, by rw [hn, Nat.mul_one]; exact ht⟩⟩, hE, rfl⟩
theorem Each.one {c : Cd α} {w : World} {base : Nat} : ∀ {xss : List (List Value)} {l : List α} {fps : List (List Nat)}, Each c w base xss l fps → ∀ u ∈ xss.flatten, u.oneCell' = true
  | [], [], [], _, u, hu => by simp at hu
  | x :: xs, _ :: az, _ :: fs, h, u, hu => by
    rw [List.flatten_cons] at hu
    rcases List.mem_append.1 hu with q | q
    · exact c.one (c.ow_rd h.1) u q
    · exact Each.one (xss := xs) (l := az) (fps := fs) h.2 u q
theorem Each.erase {c : Cd α} {w : World} {base : Nat} : ∀ {xss : List (List Value)} {l : List α} {fps : List (List Nat)}, Each c w base xss l fps → ∀ i, Each c w base (xss.eraseIdx i) (l.eraseIdx i) (fps.eraseIdx i)
  | [], [], [], _, i => by cases i <;> exact trivial
  | _ :: xs, _ :: az, _ :: fs, h, 0 => h.2
  | _ :: xs, _ :: az, _ :: fs, h, i + 1 => ⟨h.1, Each.erase (xss := xs) (l := az) (fps := fs) h.2 i⟩
theorem flatten_erase_one {c : Cd α} (hn : c.n = 1) {w : World} {base : Nat} : ∀ {xss : List (List Value)} {l : List α} {fps : List (List Nat)}, Each c w base xss l fps → ∀ i, (xss.eraseIdx i).flatten = xss.flatten.eraseIdx i
  | [], [], [], _, i => by simp
  | x :: xs, a :: az, f :: fs, h, 0 => by
    have hl := (c.len (c.ow_rd h.1)).trans hn
    match x, hl with
    | [y], _ => rfl
  | x :: xs, a :: az, f :: fs, h, i + 1 => by
    have hl := (c.len (c.ow_rd h.1)).trans hn
    have := flatten_erase_one hn (xss := xs) (l := az) (fps := fs) h.2 i
    match x, hl with
    | [y], _ =>
      show [y] ++ (xs.eraseIdx i).flatten = ([y] ++ xs.flatten).eraseIdx (i + 1)
      rw [this]
      rfl
/-- One element in, at place i. -/
def ins {α : Type} (l : List α) (i : Nat) (x : α) : List α := l.take i ++ x :: l.drop i
theorem Each.ins {c : Cd α} {w : World} {base : Nat} {x : List Value} {a : α} {f : List Nat} : ∀ {xss : List (List Value)} {l : List α} {fps : List (List Nat)}, Each c w base xss l fps → c.ow w base x a f → ∀ i, Each c w base (ins xss i x) (ins l i a) (ins fps i f)
  | [], [], [], _, k, i => by cases i <;> exact ⟨k, trivial⟩
  | _ :: xs, _ :: az, _ :: fs, h, k, 0 => ⟨k, h⟩
  | _ :: xs, _ :: az, _ :: fs, h, k, i + 1 => ⟨h.1, Each.ins (xss := xs) (l := az) (fps := fs) h.2 k i⟩
theorem flatten_ins_one {c : Cd α} (hn : c.n = 1) {w : World} {base : Nat} {u : Value} : ∀ {xss : List (List Value)} {l : List α} {fps : List (List Nat)}, Each c w base xss l fps → ∀ i, (ins xss i [u]).flatten = ins xss.flatten i u
  | [], [], [], _, i => by cases i <;> rfl
  | x :: xs, a :: az, f :: fs, h, 0 => rfl
  | x :: xs, a :: az, f :: fs, h, i + 1 => by
    have hl := (c.len (c.ow_rd h.1)).trans hn
    have := flatten_ins_one hn (u := u) (xss := xs) (l := az) (fps := fs) h.2 i
    match x, hl with
    | [y], _ =>
      show [y] ++ (ins xs i [u]).flatten = [y] ++ (ins xs.flatten i u)
      rw [this]
theorem ins_length {α : Type} (l : List α) (i : Nat) (x : α) : (ins l i x).length = l.length + 1 := by
  unfold ins
  rw [List.length_append, List.length_cons, List.length_take, List.length_drop]
  omega
theorem mem_ins {fps : List (List Nat)} {f : List Nat} {i b : Nat} (h : b ∈ (ins fps i f).flatten) : b ∈ fps.flatten ∨ b ∈ f := by
  obtain ⟨g, hg, hb⟩ := List.mem_flatten.1 h
  rcases List.mem_append.1 hg with q | q
  · exact .inl (List.mem_flatten.2 ⟨g, List.mem_of_mem_take q, hb⟩)
  · rcases List.mem_cons.1 q with rfl | q
    · exact .inr hb
    · exact .inl (List.mem_flatten.2 ⟨g, List.mem_of_mem_drop q, hb⟩)
theorem nodup_ins : ∀ {fps : List (List Nat)} {f : List Nat}, fps.flatten.Nodup → f.Nodup → (∀ b ∈ f, b ∉ fps.flatten) → ∀ i, (ins fps i f).flatten.Nodup
  | [], f, _, hf, _, i => by cases i <;> simpa [ins] using hf
  | f0 :: fps, f, h, hf, hd, 0 => by
    show (f :: f0 :: fps).flatten.Nodup
    rw [List.flatten_cons, List.nodup_append]
    exact ⟨hf, h, fun a ha b hb q => hd a ha (q ▸ hb)⟩
  | f0 :: fps, f, h, hf, hd, i + 1 => by
    rw [List.flatten_cons, List.nodup_append] at h
    show (f0 :: ins fps i f).flatten.Nodup
    rw [List.flatten_cons, List.nodup_append]
    refine ⟨h.1, nodup_ins h.2.1 hf (fun b hb q => hd b hb (by rw [List.flatten_cons]; exact List.mem_append_right _ q)) i, fun a ha b hb q => ?_⟩
    subst q
    rcases mem_ins hb with q | q
    · exact h.2.2 a ha a q rfl
    · exact hd a q (by rw [List.flatten_cons]; exact List.mem_append_left _ ha)

/-! Rows of the library's contracts ('putRow'). -/
section
variable {γ : Type} [Inhabited γ]
theorem heap_putRow (enc : γ → Value) (w : World) (g : Nat) (d : Array γ) {c : Array Value} {e : TypeId} {fr : Nat × Nat} (h : w.heap[g]? = some (.cells c e fr)) : (Sort.putRow enc w g 0 d).heap[g]? = some (.cells (Sort.putCells enc 0 d c) e fr) := by
  simp [Sort.putRow, Sort.mapBlock, Array.getElem?_modify, h, Sort.onCells]
theorem heap_putRow_other (enc : γ → Value) (w : World) (g : Nat) (d : Array γ) {k : Nat} (h : k ≠ g) : (Sort.putRow enc w g 0 d).heap[k]? = w.heap[k]? := by
  simp [Sort.putRow, Sort.mapBlock, Array.getElem?_modify, Ne.symm h]
theorem putCells_size (enc : γ → Value) (d : Array γ) (c : Array Value) : (Sort.putCells enc 0 d c).size = c.size := by simp [Sort.putCells]
theorem putCells_take (enc : γ → Value) (d : Array γ) (c : Array Value) {m : Nat} (hm : m ≤ d.size) (hd : d.size ≤ c.size) : (Sort.putCells enc 0 d c).toList.take m = (d.toList.map enc).take m := by
  apply List.ext_getElem?
  intro k
  rw [List.getElem?_take, List.getElem?_take]
  by_cases hk : k < m
  · rw [if_pos hk, if_pos hk, Array.getElem?_toList, List.getElem?_map, Array.getElem?_toList]
    have h1 : k < c.size := by omega
    have h2 : k < d.size := by omega
    simp only [Sort.putCells, Array.getElem?_mapIdx]
    rw [Array.getElem?_eq_getElem h1, Array.getElem?_eq_getElem h2, Option.map_some, Option.map_some, if_pos ⟨Nat.zero_le _, by omega⟩, Nat.sub_zero, getElem!_pos d k h2]
  · rw [if_neg hk, if_neg hk]
theorem touch_putRow (enc : γ → Value) (w : World) (g : Nat) (d : Array γ) : Touch [g] w (Sort.putRow enc w g 0 d) :=
  ⟨rfl, rfl, rfl, by rw [Sort.size_putRow]; exact Nat.le_refl _, fun k _ hn => heap_putRow_other enc w g d fun q => hn (by rw [q]; exact List.mem_singleton.2 rfl)⟩
end
theorem touch_ahead (fp : List Nat) (w : World) (n : Nat) : Touch fp w (Sort.ahead w n) := ⟨rfl, rfl, rfl, Nat.le_refl _, fun _ _ _ => rfl⟩

/-- A value of one cell. -/
structure One where
  v : Value
  one : v.oneCell' = true
instance : Inhabited One := ⟨⟨.slice none 0 0, rfl⟩⟩
def ones (us : List Value) (h : ∀ u ∈ us, u.oneCell' = true) : List One := us.attach.map fun x => ⟨x.1, h x.1 x.2⟩
theorem ones_val (us : List Value) (h : ∀ u ∈ us, u.oneCell' = true) : (ones us h).map One.v = us := by
  unfold ones
  rw [List.map_map]
  exact List.attach_map_subtype_val us
theorem ones_length (us : List Value) (h : ∀ u ∈ us, u.oneCell' = true) : (ones us h).length = us.length := by simp [ones]
theorem holds_ones {w : World} {g n : Nat} {cur : Array Value} {e : TypeId} {us : List Value} (h : ∀ u ∈ us, u.oneCell' = true) (hg : w.heap[g]? = some (.cells cur e (0, 0))) (ht : cur.toList.take n = us) :
    Sort.Holds (α := One) One.v w g 0 (ones us h).toArray := by
  intro j hj
  have hj' : j < us.length := by rw [← ones_length us h]; simpa using hj
  have hv : (ones us h)[j]?.map One.v = us[j]? := by
    rw [← List.getElem?_map, ones_val]
  have hj2 : j < (ones us h).length := by rw [ones_length]; exact hj'
  refine ⟨?_, by simp [World.frozen?, hg]⟩
  have e1 : ((ones us h).toArray[j]!) = (ones us h)[j] := by
    rw [getElem!_pos _ j hj]
    simp
  rw [e1]
  rw [List.getElem?_eq_getElem hj2, List.getElem?_eq_getElem hj', Option.map_some] at hv
  injection hv with hv
  rw [hv]
  have hjn : j < n := by
    have := congrArg List.length ht
    rw [List.length_take] at this
    omega
  have hc : cur[j]? = some us[j] := by
    have : (cur.toList.take n)[j]? = us[j]? := by rw [ht]
    rw [List.getElem?_take, if_pos hjn, Array.getElem?_toList, List.getElem?_eq_getElem hj'] at this
    exact this
  simp [World.cell?, hg, hc]
end Cd
end Go.Proofs.Ytnoennmhifmolaa.Cd
