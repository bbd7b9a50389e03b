/- Tables: what putting rows into sorted lists makes. Plain. -/
import Derived.Test.YtklamhnecncenaaTabImp6
import Derived.Test.YtklamhnecncenaaTabNew
import Derived.Test.YtklamhnecncenaaCdCut
namespace Go.Proofs.Ytklamhnecncenaa.TabImp
open Go Go.RowKit Byt Ints IntsLaw Cd Rows2 Tab TabSpec Exact

theorem put_before (row : List Int) : ∀ (l o : List (List Int)), (∀ r ∈ l, cmpR r row < 0) → l.foldl (putStep row) (o, false) = (o ++ l, false)
  | [], o, _ => by simp
  | r :: rs, o, h => by
    have h1 := h r List.mem_cons_self
    have e : putStep row (o, false) r = (o ++ [r], false) := by
      unfold putStep
      rw [if_neg (by omega), if_neg (by omega)]
    rw [List.foldl_cons, e, put_before row rs _ (fun x hx => h x (List.mem_cons_of_mem _ hx)), List.append_assoc]
    rfl
theorem put_behind (row : List Int) : ∀ (l o : List (List Int)), (∀ r ∈ l, 0 < cmpR r row) → l.foldl (putStep row) (o, true) = (o ++ l, true)
  | [], o, _ => by simp
  | r :: rs, o, h => by
    have h1 := h r List.mem_cons_self
    have e : putStep row (o, true) r = (o ++ [r], true) := by
      unfold putStep
      rw [if_neg (by omega), if_neg (by simp)]
    rw [List.foldl_cons, e, put_behind row rs _ (fun x hx => h x (List.mem_cons_of_mem _ hx)), List.append_assoc]
    rfl
theorem find_split {rows : List (List Int)} {row : List Int} {i : Nat} (ha : Asc rows) (h : FindP rows row i) :
    (∀ r ∈ rows.take i, cmpR r row < 0) ∧ (∀ hi : i < rows.length, 0 ≤ cmpR rows[i] row ∧ ∀ r ∈ rows.drop (i + 1), 0 < cmpR r row) := by
  refine ⟨fun r hr => ?_, fun hi => ⟨h.2.2 i hi (Nat.le_refl _), fun r hr => ?_⟩⟩
  · obtain ⟨t, ht, rfl⟩ := List.getElem_of_mem hr
    rw [List.length_take] at ht
    rw [List.getElem_take]
    exact h.2.1 t (by omega) (by omega)
  · obtain ⟨t, ht, rfl⟩ := List.getElem_of_mem hr
    rw [List.length_drop] at ht
    rw [List.getElem_drop]
    have h1 := asc_lt ha (show i < i + 1 + t by omega) (show i + 1 + t < rows.length by omega)
    have h2 := h.2.2 i hi (Nat.le_refl _)
    have h3 := h.2.2 (i + 1 + t) (by omega) (by omega)
    by_cases e : cmpR rows[i + 1 + t] row = 0
    · rw [cmpR_eq e] at h1
      omega
    · omega
theorem putR_split {rows : List (List Int)} {row : List Int} {i : Nat} (ha : Asc rows) (h : FindP rows row i) : putR rows row = if row ∈ rows then rows else Cd.ins rows i row := by
  obtain ⟨h1, h2⟩ := find_split ha h
  by_cases hi : i < rows.length
  · obtain ⟨h3, h4⟩ := h2 hi
    have e : rows = rows.take i ++ rows[i] :: rows.drop (i + 1) := by rw [← drop_at hi, List.take_append_drop]
    have hm := find_mem ha h
    have hf : putF rows row = ((rows.take i ++ (if cmpR rows[i] row = 0 then [rows[i]] else [row, rows[i]])) ++ rows.drop (i + 1), true) := by
      conv => lhs; rw [putF, e]
      rw [List.foldl_append, put_before row _ _ h1, List.foldl_cons]
      have e2 : putStep row ([] ++ rows.take i, false) rows[i] = (rows.take i ++ (if cmpR rows[i] row = 0 then [rows[i]] else [row, rows[i]]), true) := by
        unfold putStep
        by_cases hz : cmpR rows[i] row = 0
        · rw [if_pos hz, if_pos hz]; rfl
        · rw [if_neg hz, if_neg hz, if_pos ⟨by omega, rfl⟩]
          simp
      rw [e2, put_behind row _ _ h4]
    rw [putR, hf, if_pos rfl]
    by_cases hz : cmpR rows[i] row = 0
    · rw [if_pos hz, if_pos (hm.2 ⟨hi, cmpR_eq hz⟩), List.append_assoc]
      exact e.symm
    · rw [if_neg hz, if_neg (fun q => by
        obtain ⟨_, q⟩ := hm.1 q
        exact hz (by rw [q]; exact cmpR_self _))]
      unfold Cd.ins
      rw [List.append_assoc, drop_at hi]
      rfl
  · have hil : i = rows.length := by have := h.1; omega
    subst hil
    rw [List.take_length] at h1
    have hm := find_mem ha h
    have hf : putF rows row = (rows, false) := by rw [putF, put_before row _ _ h1]; rfl
    rw [putR, hf, if_neg (by simp), if_neg (fun q => by obtain ⟨q, _⟩ := hm.1 q; omega)]
    unfold Cd.ins
    rw [List.take_length, List.drop_length]
/-- There is such a place. -/
theorem find_ex : ∀ {rows : List (List Int)} (row : List Int), Asc rows → ∃ i, FindP rows row i
  | [], _, _ => ⟨0, Nat.le_refl _, fun t h _ => by simp at h, fun t h _ => by simp at h⟩
  | r :: rs, row, ha => by
    by_cases h : cmpR r row < 0
    · obtain ⟨i, h1, h2, h3⟩ := find_ex (rows := rs) row (List.pairwise_cons.1 ha).2
      refine ⟨i + 1, by simpa using h1, fun t ht hti => ?_, fun t ht hti => ?_⟩
      · match t with
        | 0 => exact h
        | t + 1 => exact h2 t (by simpa using ht) (by omega)
      · match t with
        | 0 => omega
        | t + 1 => exact h3 t (by simpa using ht) (by omega)
    · refine ⟨0, Nat.zero_le _, fun t _ hti => by omega, fun t ht _ => ?_⟩
      match t with
      | 0 => show 0 ≤ cmpR r row; omega
      | t + 1 =>
        have h1 := (List.pairwise_cons.1 ha).1 ((rs)[t]'(by simpa using ht)) (List.getElem_mem _)
        show 0 ≤ cmpR (rs[t]'(by simpa using ht)) row
        have := cmpR_anti r row
        exact Int.not_lt.1 fun q => h (cmpR_trans h1 q)
theorem asc_ins {rows : List (List Int)} {row : List Int} {i : Nat} (ha : Asc rows) (h : FindP rows row i) (hn : row ∉ rows) : Asc (Cd.ins rows i row) := by
  obtain ⟨h1, h2⟩ := find_split ha h
  have h3 : ∀ r ∈ rows.drop i, cmpR row r < 0 := by
    intro r hr
    by_cases hi : i < rows.length
    · obtain ⟨h4, h5⟩ := h2 hi
      rw [drop_at hi] at hr
      rcases List.mem_cons.1 hr with rfl | q
      · have := cmpR_anti row rows[i]
        have hz : cmpR rows[i] row ≠ 0 := fun q => hn (by rw [← cmpR_eq q]; exact List.getElem_mem hi)
        omega
      · have := cmpR_anti row r
        have := h5 r q
        omega
    · rw [List.drop_eq_nil_of_le (by omega)] at hr
      cases hr
  unfold Asc Cd.ins at *
  rw [List.pairwise_append, List.pairwise_cons]
  refine ⟨ha.sublist (List.take_sublist _ _), ⟨h3, ha.sublist (List.drop_sublist _ _)⟩, fun a hta b hb => ?_⟩
  rcases List.mem_cons.1 hb with rfl | q
  · exact h1 a hta
  · exact cmpR_trans (h1 a hta) (h3 b q)
theorem asc_put {rows : List (List Int)} {row : List Int} (ha : Asc rows) : Asc (putR rows row) := by
  obtain ⟨i, hf⟩ := find_ex row ha
  rw [putR_split ha hf]
  split
  · exact ha
  · rename_i hn
    exact asc_ins ha hf hn
theorem mem_ins {α : Type} {l : List α} {i : Nat} {x y : α} : y ∈ Cd.ins l i x ↔ y = x ∨ y ∈ l := by
  unfold Cd.ins
  rw [List.mem_append, List.mem_cons]
  constructor
  · rintro (q | rfl | q)
    · exact .inr (List.mem_of_mem_take q)
    · exact .inl rfl
    · exact .inr (List.mem_of_mem_drop q)
  · rintro (rfl | q)
    · exact .inr (.inl rfl)
    · rw [← List.take_append_drop i l, List.mem_append] at q
      rcases q with q | q
      · exact .inl q
      · exact .inr (.inr q)
theorem mem_put {rows : List (List Int)} {row r : List Int} (ha : Asc rows) : r ∈ putR rows row ↔ r = row ∨ r ∈ rows := by
  obtain ⟨i, hf⟩ := find_ex row ha
  rw [putR_split ha hf]
  split
  · rename_i hm
    exact ⟨.inr, fun q => by rcases q with rfl | q; exact hm; exact q⟩
  · exact mem_ins
/-- Sorted lists of the same members are one. -/
theorem asc_one : ∀ {a b : List (List Int)}, Asc a → Asc b → (∀ r, r ∈ a ↔ r ∈ b) → a = b
  | [], [], _, _, _ => rfl
  | [], y :: ys, _, _, h => by have := (h y).2 List.mem_cons_self; cases this
  | x :: xs, [], _, _, h => by have := (h x).1 List.mem_cons_self; cases this
  | x :: xs, y :: ys, ha, hb, h => by
    obtain ⟨ha1, ha2⟩ := List.pairwise_cons.1 ha
    obtain ⟨hb1, hb2⟩ := List.pairwise_cons.1 hb
    have hxy : x = y := by
      rcases List.mem_cons.1 ((h x).1 List.mem_cons_self) with q | q
      · exact q
      · rcases List.mem_cons.1 ((h y).2 List.mem_cons_self) with q2 | q2
        · exact q2.symm
        · have h1 := hb1 x q
          have h2 := ha1 y q2
          have := cmpR_anti x y
          omega
    subst hxy
    have hx : ∀ {l : List (List Int)}, (∀ r ∈ l, cmpR x r < 0) → x ∉ l := fun hl q => by
      have := hl x q
      rw [cmpR_self] at this
      omega
    rw [asc_one ha2 hb2 fun r => ?_]
    constructor
    · intro q
      rcases List.mem_cons.1 ((h r).1 (List.mem_cons_of_mem _ q)) with rfl | q2
      · exact absurd q (hx ha1)
      · exact q2
    · intro q
      rcases List.mem_cons.1 ((h r).2 (List.mem_cons_of_mem _ q)) with rfl | q2
      · exact absurd q (hx hb1)
      · exact q2
/-- The model's list of new rows. -/
theorem new_asc : ∀ (l : List (List Int)) {acc : List (List Int)}, Asc acc → Asc (newR acc l)
  | [], acc, h => h
  | r :: rs, acc, h => by
    rw [newR]
    split
    · exact new_asc rs (asc_put h)
    · exact h
theorem new_sub : ∀ (l : List (List Int)) {acc : List (List Int)}, Asc acc → ∀ r ∈ newR acc l, r ∈ acc ∨ r ∈ l
  | [], acc, _, r, hr => .inl hr
  | x :: xs, acc, h, r, hr => by
    rw [newR] at hr
    split at hr
    · rcases new_sub xs (asc_put h) r hr with q | q
      · rcases (mem_put h).1 q with rfl | q
        · exact .inr List.mem_cons_self
        · exact .inl q
      · exact .inr (List.mem_cons_of_mem _ q)
    · exact .inl hr
theorem new_all : ∀ (l : List (List Int)) {acc : List (List Int)}, Asc acc → (newR acc l).length ≤ 8 → ∀ r, (r ∈ acc ∨ r ∈ l) → r ∈ newR acc l
  | [], acc, _, _, r, hr => by
    rcases hr with q | q
    · exact q
    · cases q
  | x :: xs, acc, h, h8, r, hr => by
    rw [newR] at h8 ⊢
    split at h8
    · rename_i hc
      rw [if_pos hc]
      refine new_all xs (asc_put h) h8 r ?_
      rcases hr with q | q
      · exact .inl ((mem_put h).2 (.inr q))
      · rcases List.mem_cons.1 q with rfl | q
        · exact .inl ((mem_put h).2 (.inl rfl))
        · exact .inr q
    · rename_i hc
      exact absurd h8 hc
theorem len_le : ∀ {a c : List (List Int)}, a.Nodup → (∀ r ∈ a, r ∈ c) → a.length ≤ c.length
  | [], _, _, _ => Nat.zero_le _
  | x :: xs, c, hd, h => by
    obtain ⟨h1, h2⟩ := List.nodup_cons.1 hd
    have hx := h x List.mem_cons_self
    have := len_le (a := xs) (c := c.erase x) h2 fun r hr => (List.mem_erase_of_ne (fun (e : r = x) => h1 (by rw [← e]; exact hr))).2 (h r (List.mem_cons_of_mem _ hr))
    rw [List.length_erase_of_mem hx] at this
    have := List.length_pos_of_mem hx
    rw [List.length_cons]
    omega
/-- What a sorted list without duplicates of the same rows is worth. -/
theorem new_of {l c : List (List Int)} (hc : Asc c) (hm : ∀ r, r ∈ c ↔ r ∈ l) : (c.length ≤ 8 → newR [] l = c) ∧ (8 < c.length → 8 < (newR [] l).length) := by
  have hn : Asc (newR [] l) := new_asc l (acc := []) List.Pairwise.nil
  have hd : ∀ {a : List (List Int)}, Asc a → a.Nodup := fun ha => ha.imp fun {x y} q e => by
    rw [e, cmpR_self] at q
    omega
  have hsub : ∀ r ∈ newR [] l, r ∈ c := fun r hr => by
    rcases new_sub l (acc := []) List.Pairwise.nil r hr with q | q
    · cases q
    · exact (hm r).2 q
  have hle : (newR [] l).length ≤ c.length := len_le (hd hn) hsub
  have hkey : (newR [] l).length ≤ 8 → newR [] l = c := fun h8 => asc_one hn hc fun r => ⟨hsub r, fun q => new_all l (acc := []) List.Pairwise.nil h8 r (.inr ((hm r).1 q))⟩
  refine ⟨fun h => hkey (by omega), fun h => ?_⟩
  rcases Nat.lt_or_ge 8 (newR [] l).length with q | q
  · exact q
  · have := hkey q
    rw [this] at q
    omega
end Go.Proofs.Ytklamhnecncenaa.TabImp
