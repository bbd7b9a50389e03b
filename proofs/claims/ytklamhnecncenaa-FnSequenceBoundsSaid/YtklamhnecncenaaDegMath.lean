/- Degree sequences: what they are worth. Plain. -/
import Derived.Test.YtklamhnecncenaaTabMath
import Derived.Test.YtklamhnecncenaaTabSel
import Derived.Test.YtklamhnecncenaaLoc
namespace Go.Proofs.Ytklamhnecncenaa.DegMath
open Go Go.RowKit Byt Ints IntsLaw Cd Rows2 Tab TabSpec TabImp Loc

/-! ### columns -/
def ColP (cols : List Int) (n : Int) : Prop := (∀ x ∈ cols, 0 ≤ x ∧ x < n) ∧ cols.Pairwise (· < ·)
instance (cols : List Int) (n : Int) : Decidable (ColP cols n) := by unfold ColP; infer_instance
def colsOk (cols : List Int) (n : Int) : Bool := decide (ColP cols n)
theorem col_more {l : List Int} {n : Int} {k : Nat} (h : ColP (l.take k) n) (hk : k < l.length) (hx : 0 ≤ l[k] ∧ l[k] < n) (h0 : ∀ j, k = j + 1 → (hj : j < l.length) → l[j] < l[k]) : ColP (l.take (k + 1)) n := by
  rw [List.take_succ_eq_append_getElem hk]
  refine ⟨fun x q => ?_, ?_⟩
  · rcases List.mem_append.1 q with q | q
    · exact h.1 x q
    · rw [List.mem_singleton.1 q]; exact hx
  · rw [List.pairwise_append]
    refine ⟨h.2, List.pairwise_singleton _ _, fun a ha b hb => ?_⟩
    rw [List.mem_singleton.1 hb]
    obtain ⟨i, hi, rfl⟩ := List.getElem_of_mem ha
    rw [List.length_take] at hi
    obtain ⟨j, rfl⟩ : ∃ j, k = j + 1 := ⟨k - 1, by omega⟩
    have hj := h0 j rfl (by omega)
    by_cases e : i = j
    · subst e; rw [List.getElem_take]; exact hj
    · have := List.pairwise_iff_getElem.1 h.2 i j (by rw [List.length_take]; omega) (by rw [List.length_take]; omega) (by omega)
      rw [List.getElem_take, List.getElem_take] at this
      rw [List.getElem_take]
      omega
theorem col_bad {l : List Int} {n : Int} {j : Nat} (hj : j + 1 < l.length) (h : ¬ l[j] < l[j + 1]) : ¬ ColP l n := fun q => h (List.pairwise_iff_getElem.1 q.2 j (j + 1) (by omega) hj (by omega))
theorem col_take {l : List Int} {n : Int} (h : ColP l n) (k : Nat) : ColP (l.take k) n := ⟨fun x q => h.1 x (List.mem_of_mem_take q), h.2.sublist (List.take_sublist k l)⟩

/-! ### the groups -/
abbrev T3 := ByteArray × Int × List (List Int)
def gcOk (nm : ByteArray) (ar : Int) (rows : List (List Int)) (cols : List Int) : Bool := tabOk nm ar rows && colsOk cols ar
def xsT (rows : List (List Int)) (cols : List Int) : List (List Int) := rows.map fun r => selR r cols
def cnt (xs : List (List Int)) (v : List Int) : Nat := xs.count v
def cntI (xs : List (List Int)) (v : List Int) : Int := (cnt xs v : Int)
def valL (xs : List (List Int)) : List (List Int) := xs.foldl putR []
def gcV (nm : ByteArray) (ar : Int) (rows : List (List Int)) (cols : List Int) : List (List Int) := if gcOk nm ar rows cols then valL (xsT rows cols) else []
def gcN (nm : ByteArray) (ar : Int) (rows : List (List Int)) (cols : List Int) : List Int := if gcOk nm ar rows cols then (valL (xsT rows cols)).map (cntI (xsT rows cols)) else []

theorem fold_asc : ∀ (l : List (List Int)) {acc : List (List Int)}, Asc acc → Asc (l.foldl putR acc)
  | [], _, h => h
  | r :: rs, _, h => fold_asc rs (asc_put (row := r) h)
theorem fold_mem : ∀ (l : List (List Int)) {acc : List (List Int)}, Asc acc → ∀ r, r ∈ l.foldl putR acc ↔ r ∈ acc ∨ r ∈ l
  | [], _, _, r => by simp
  | x :: xs, acc, h, r => by
    rw [List.foldl_cons, fold_mem xs (asc_put h) r, mem_put h, List.mem_cons]
    constructor
    · rintro ((q | q) | q)
      · exact .inr (.inl q)
      · exact .inl q
      · exact .inr (.inr q)
    · rintro (q | q | q)
      · exact .inl (.inr q)
      · exact .inl (.inl q)
      · exact .inr q
theorem valL_asc (xs : List (List Int)) : Asc (valL xs) := fold_asc xs List.Pairwise.nil
theorem valL_mem {xs : List (List Int)} {r : List Int} : r ∈ valL xs ↔ r ∈ xs := by
  unfold valL
  rw [fold_mem xs List.Pairwise.nil]
  simp
theorem asc_nodup {a : List (List Int)} (h : Asc a) : a.Nodup := h.imp fun {x y} q e => by
  rw [e, cmpR_self] at q
  omega
theorem valL_len (xs : List (List Int)) : (valL xs).length ≤ xs.length := len_le (asc_nodup (valL_asc xs)) fun _ hr => valL_mem.1 hr
theorem valL_next {xs : List (List Int)} {k : Nat} (h : k < xs.length) : valL (xs.take (k + 1)) = putR (valL (xs.take k)) xs[k] := by
  unfold valL
  rw [List.take_succ_eq_append_getElem h, List.foldl_append]
  rfl
/-- What is sorted, has the same members and no duplicates is the list of the groups. -/
theorem valL_of {xs : List (List Int)} {l : List (List Int)} (hm : ∀ r, r ∈ l ↔ r ∈ xs) (hs : l.Pairwise fun a b => cmpR a b ≤ 0) (hn : l.Nodup) : l = valL xs :=
  asc_one ((List.Pairwise.and hs hn).imp fun {a b} ⟨h1, h2⟩ => by
    by_cases e : cmpR a b = 0
    · exact absurd (cmpR_eq e) h2
    · omega) (valL_asc xs) fun r => (hm r).trans valL_mem.symm

theorem cnt_next {xs : List (List Int)} {v : List Int} {k : Nat} (h : k < xs.length) : cnt (xs.take (k + 1)) v = cnt (xs.take k) v + (if cmpR xs[k] v = 0 then 1 else 0) := by
  unfold cnt
  rw [List.take_succ_eq_append_getElem h, List.count_append, List.count_singleton]
  by_cases e : xs[k] = v
  · rw [if_pos (by simp [e]), if_pos (by rw [e]; exact cmpR_self v)]
  · rw [if_neg (by simpa using e), if_neg (fun q => e (cmpR_eq q))]
theorem cnt_le (xs : List (List Int)) (v : List Int) : cnt xs v ≤ xs.length := List.count_le_length
theorem cnt_pos {xs : List (List Int)} {v : List Int} (h : v ∈ xs) : 1 ≤ cnt xs v := List.count_pos_iff.2 h

theorem xsT_len (rows : List (List Int)) (cols : List Int) : (xsT rows cols).length = rows.length := List.length_map ..
theorem sum_count : ∀ (vs xs : List (List Int)), vs.Nodup → (∀ x ∈ xs, x ∈ vs) → (vs.map (cnt xs)).sum = xs.length
  | [], xs, _, h => by
    cases xs with
    | nil => rfl
    | cons x xs => exact absurd (h x List.mem_cons_self) (by simp)
  | v :: vs, xs, hn, h => by
    obtain ⟨h1, h2⟩ := List.nodup_cons.1 hn
    have ih := sum_count vs (xs.filter fun x => decide (x ≠ v)) h2 (fun x hx => by
      obtain ⟨q1, q2⟩ := List.mem_filter.1 hx
      rcases List.mem_cons.1 (h x q1) with q | q
      · exact absurd q (of_decide_eq_true q2)
      · exact q)
    have e1 : ∀ u ∈ vs, cnt (xs.filter fun x => decide (x ≠ v)) u = cnt xs u := fun u hu => by
      unfold cnt
      rw [List.count_filter]
      exact decide_eq_true fun e => h1 (by rw [← e]; exact hu)
    rw [List.map_congr_left e1] at ih
    rw [List.map_cons, List.sum_cons, ih]
    unfold cnt
    clear ih e1 h1 h2 hn h
    induction xs with
    | nil => rfl
    | cons x xs ih =>
      by_cases e : x = v
      · subst e
        rw [List.count_cons_self, List.filter_cons_of_neg (by simp), List.length_cons]
        omega
      · rw [List.count_cons_of_ne e, List.filter_cons_of_pos (by simpa using e), List.length_cons, List.length_cons]
        omega
theorem sum_cast : ∀ (l : List Nat), ((l.map fun x : Nat => (x : Int)).sum) = ((l.sum : Nat) : Int)
  | [] => rfl
  | x :: l => by rw [List.map_cons, List.sum_cons, List.sum_cons, sum_cast l]; omega

theorem sum_cntI (vs xs : List (List Int)) (hn : vs.Nodup) (h : ∀ x ∈ xs, x ∈ vs) : (vs.map (cntI xs)).sum = (xs.length : Int) := by
  rw [← sum_count vs xs hn h, ← sum_cast, List.map_map]
  rfl
theorem gcN_sum {nm : ByteArray} {ar : Int} {rows : List (List Int)} {cols : List Int} (h : gcOk nm ar rows cols = true) : (gcN nm ar rows cols).sum = (rows.length : Int) := by
  unfold gcN
  rw [if_pos h, sum_cntI _ _ (asc_nodup (valL_asc _)) fun x hx => valL_mem.2 hx, xsT_len]
theorem gc_len {nm : ByteArray} {ar : Int} {rows : List (List Int)} {cols : List Int} : (gcN nm ar rows cols).length = (gcV nm ar rows cols).length := by
  unfold gcN gcV
  split
  · rw [List.length_map]
  · rfl
theorem gc_rows {nm : ByteArray} {ar : Int} {rows : List (List Int)} {cols : List Int} (h : gcOk nm ar rows cols = true) : TabP nm ar rows ∧ ColP cols ar := by
  unfold gcOk at h
  rw [Bool.and_eq_true] at h
  exact ⟨of_decide_eq_true h.1, of_decide_eq_true h.2⟩
theorem gcV_len {nm : ByteArray} {ar : Int} {rows : List (List Int)} {cols : List Int} : (gcV nm ar rows cols).length ≤ 8 := by
  unfold gcV
  split
  · rename_i h
    have h1 := (gc_rows h).1.2.2.2.1
    have h2 := valL_len (xsT rows cols)
    rw [xsT_len] at h2
    omega
  · simp
theorem gcN_bd {nm : ByteArray} {ar : Int} {rows : List (List Int)} {cols : List Int} {x : Int} (hx : x ∈ gcN nm ar rows cols) : 1 ≤ x ∧ x ≤ 8 := by
  unfold gcN at hx
  split at hx
  · rename_i h
    have h1 := (gc_rows h).1.2.2.2.1
    obtain ⟨v, hv, rfl⟩ := List.mem_map.1 hx
    have h2 := cnt_le (xsT rows cols) v
    have h3 := cnt_pos (valL_mem.1 hv)
    rw [xsT_len] at h2
    unfold cntI
    omega
  · cases hx

/-! ### strings of digits -/
def keyB (v : List Int) : List UInt8 := locB v
theorem digs_keyB {v : List Int} (h : ∀ x ∈ v, 0 ≤ x ∧ x ≤ 9) : digs (keyB v) = v := by
  unfold digs keyB locB
  rw [List.map_map]
  conv => rhs; rw [← List.map_id v]
  refine List.map_congr_left fun x hx => ?_
  obtain ⟨n, rfl⟩ := Int.eq_ofNat_of_zero_le (h x hx).1
  have := (h _ hx).2
  have h2 : (UInt8.ofNat (48 + n)).toNat = 48 + n := by rw [UInt8.toNat_ofNat']; omega
  simp only [Function.comp, Int.toNat_natCast, h2, id]
  omega
theorem keyB_lt : ∀ {a b : List Int}, (∀ x ∈ a, 0 ≤ x ∧ x ≤ 9) → (∀ x ∈ b, 0 ≤ x ∧ x ≤ 9) → cmpR a b < 0 → keyB a < keyB b
  | [], [], _, _, h => by simp [cmpR] at h
  | [], y :: ys, _, _, _ => List.nil_lt_cons _ _
  | x :: xs, [], _, _, h => by simp [cmpR] at h
  | x :: xs, y :: ys, ha, hb, h => by
    have hx := ha x List.mem_cons_self
    have hy := hb y List.mem_cons_self
    obtain ⟨n, rfl⟩ := Int.eq_ofNat_of_zero_le hx.1
    obtain ⟨m, rfl⟩ := Int.eq_ofNat_of_zero_le hy.1
    have e1 : (UInt8.ofNat (48 + n)).toNat = 48 + n := by rw [UInt8.toNat_ofNat']; omega
    have e2 : (UInt8.ofNat (48 + m)).toNat = 48 + m := by rw [UInt8.toNat_ofNat']; omega
    show UInt8.ofNat (48 + ((n : Nat) : Int).toNat) :: keyB xs < UInt8.ofNat (48 + ((m : Nat) : Int).toNat) :: keyB ys
    rw [Int.toNat_natCast, Int.toNat_natCast, List.cons_lt_cons_iff]
    unfold cmpR at h
    by_cases h1 : (n : Int) < (m : Int)
    · exact .inl (UInt8.lt_iff_toNat_lt.2 (by rw [e1, e2]; omega))
    · rw [if_neg h1] at h
      by_cases h2 : (m : Int) < (n : Int)
      · rw [if_pos h2] at h; omega
      · rw [if_neg h2] at h
        obtain rfl : n = m := by omega
        exact .inr ⟨rfl, keyB_lt (fun x q => ha x (List.mem_cons_of_mem _ q)) (fun x q => hb x (List.mem_cons_of_mem _ q)) h⟩
/-- The keys sorted, read back: the groups in their order. -/
theorem sorted_keys {xs : List (List Int)} (hx : ∀ v ∈ xs, ∀ x ∈ v, 0 ≤ x ∧ x ≤ 9) {ks : List (List UInt8)} (hn : ks.Nodup) (hm : ∀ k, k ∈ ks ↔ k ∈ xs.map keyB) :
    (ks.mergeSort fun x y => decide (x ≤ y)) = (valL xs).map keyB := by
  have hinj : ∀ a ∈ valL xs, ∀ b ∈ valL xs, keyB a = keyB b → a = b := fun a ha b hb e => by
    rw [← digs_keyB (hx a (valL_mem.1 ha)), e, digs_keyB (hx b (valL_mem.1 hb))]
  have hnk : ((valL xs).map keyB).Nodup := by
    unfold List.Nodup
    rw [List.pairwise_map]
    exact List.Pairwise.imp_of_mem (fun {a b} ha hb h e => h (hinj a ha b hb e)) (asc_nodup (valL_asc xs))
  have hsk : ((valL xs).map keyB).Pairwise (fun x y => decide (x ≤ y) = true) := by
    rw [List.pairwise_map]
    exact List.Pairwise.imp_of_mem (fun {a b} ha hb h => decide_eq_true (List.le_of_lt (keyB_lt (hx a (valL_mem.1 ha)) (hx b (valL_mem.1 hb)) h))) (valL_asc xs)
  have htr : ∀ (a b c : List UInt8), decide (a ≤ b) = true → decide (b ≤ c) = true → decide (a ≤ c) = true := fun a b c h1 h2 =>
    decide_eq_true (List.le_trans (of_decide_eq_true h1) (of_decide_eq_true h2))
  have hto : ∀ (a b : List UInt8), (decide (a ≤ b) || decide (b ≤ a)) = true := fun a b => by
    rcases List.le_total a b with h | h
    · rw [decide_eq_true h]; rfl
    · rw [decide_eq_true h, Bool.or_true]
  have hp : (ks.mergeSort fun x y => decide (x ≤ y)).Perm ((valL xs).map keyB) := by
    refine (List.mergeSort_perm ks _).trans ((List.perm_ext_iff_of_nodup hn hnk).2 fun k => ?_)
    rw [hm]
    constructor
    · intro q
      obtain ⟨v, hv, rfl⟩ := List.mem_map.1 q
      exact List.mem_map.2 ⟨v, valL_mem.2 hv, rfl⟩
    · intro q
      obtain ⟨v, hv, rfl⟩ := List.mem_map.1 q
      exact List.mem_map.2 ⟨v, valL_mem.1 hv, rfl⟩
  exact hp.eq_of_pairwise (le := fun x y => decide (x ≤ y) = true) (fun a b _ _ h1 h2 => List.le_antisymm (of_decide_eq_true h1) (of_decide_eq_true h2)) (List.pairwise_mergeSort htr hto ks) hsk
theorem count_keyB {xs : List (List Int)} (hx : ∀ v ∈ xs, ∀ x ∈ v, 0 ≤ x ∧ x ≤ 9) {v : List Int} (hv : ∀ x ∈ v, 0 ≤ x ∧ x ≤ 9) : (xs.map keyB).count (keyB v) = cnt xs v := by
  unfold cnt
  induction xs with
  | nil => rfl
  | cons x xs ih =>
    have ih := ih fun u hu => hx u (List.mem_cons_of_mem _ hu)
    rw [List.map_cons, List.count_cons, List.count_cons, ih]
    by_cases e : x = v
    · subst e; simp
    · have : keyB x ≠ keyB v := fun q => e (by rw [← digs_keyB (hx x List.mem_cons_self), q, digs_keyB hv])
      simp [e, this]

/-! ### sequences -/
def Desc (l : List Int) : Prop := l.Pairwise fun a b => b ≤ a
instance (l : List Int) : Decidable (Desc l) := by unfold Desc; infer_instance
def downL (l : List Int) : List Int := l.mergeSort fun a b => decide (b ≤ a)
theorem down_perm (l : List Int) : (downL l).Perm l := List.mergeSort_perm _ _
theorem down_desc (l : List Int) : Desc (downL l) :=
  (List.pairwise_mergeSort (le := fun a b => decide (b ≤ a)) (fun a b c h1 h2 => decide_eq_true (by have := of_decide_eq_true h1; have := of_decide_eq_true h2; omega)) (fun a b => by
    rcases Int.le_total b a with h | h
    · rw [decide_eq_true h]; rfl
    · rw [decide_eq_true h, Bool.or_true]) l).imp fun h => of_decide_eq_true h
theorem down_one {a l : List Int} (hp : a.Perm l) (hd : Desc a) : a = downL l :=
  (hp.trans (down_perm l).symm).eq_of_pairwise (le := fun a b => b ≤ a) (fun a b _ _ h1 h2 => by omega) hd (down_desc l)
theorem down_len (l : List Int) : (downL l).length = l.length := (down_perm l).length_eq
theorem down_mem {l : List Int} {x : Int} : x ∈ downL l ↔ x ∈ l := (down_perm l).mem_iff
theorem perm_sum {a b : List Int} (h : a.Perm b) : a.sum = b.sum := by
  induction h with
  | nil => rfl
  | cons x _ ih => rw [List.sum_cons, List.sum_cons, ih]
  | swap x y l => rw [List.sum_cons, List.sum_cons, List.sum_cons, List.sum_cons]; omega
  | trans _ _ h1 h2 => exact h1.trans h2
theorem down_sum (l : List Int) : (downL l).sum = l.sum := perm_sum (down_perm l)
theorem desc_ins {out : List Int} {x : Int} {k : Nat} (hd : Desc out) (h1 : ∀ j, (hj : j < out.length) → k ≤ j → out[j] < x) (h2 : ∀ j, k = j + 1 → (hj : j < out.length) → x ≤ out[j]) (hk : k ≤ out.length) : Desc (out.take k ++ [x] ++ out.drop k) := by
  have hb : ∀ a ∈ out.take k, x ≤ a := fun a ha => by
    obtain ⟨i, hi, rfl⟩ := List.getElem_of_mem ha
    rw [List.length_take] at hi
    obtain ⟨j, rfl⟩ : ∃ j, k = j + 1 := ⟨k - 1, by omega⟩
    have hj := h2 j rfl (by omega)
    rw [List.getElem_take]
    by_cases e : i = j
    · subst e; exact hj
    · have := List.pairwise_iff_getElem.1 hd i j (by omega) (by omega) (by omega)
      omega
  have ha : ∀ a ∈ out.drop k, a < x := fun a ha => by
    obtain ⟨i, hi, rfl⟩ := List.getElem_of_mem ha
    rw [List.length_drop] at hi
    rw [List.getElem_drop]
    exact h1 _ (by omega) (by omega)
  unfold Desc
  rw [List.pairwise_append, List.pairwise_append]
  refine ⟨⟨hd.sublist (List.take_sublist k out), List.pairwise_singleton _ _, fun a q b q2 => ?_⟩, hd.sublist (List.drop_sublist k out), fun a q b q2 => ?_⟩
  · rw [List.mem_singleton.1 q2]; exact hb a q
  · have h3 := ha b q2
    rcases List.mem_append.1 q with q | q
    · have := hb a q; omega
    · rw [List.mem_singleton.1 q]; omega
theorem perm_ins {out : List Int} (x : Int) (k : Nat) : (out.take k ++ [x] ++ out.drop k).Perm (out ++ [x]) := by
  have h1 : (out.take k ++ [x] ++ out.drop k).Perm (out.take k ++ (out.drop k ++ [x])) := by
    rw [List.append_assoc]
    exact List.Perm.append_left _ List.perm_append_comm
  rw [← List.append_assoc, List.take_append_drop] at h1
  exact h1
theorem down_next {l : List Int} {k : Nat} (h : k < l.length) {j : Nat} (hj : j ≤ (downL (l.take k)).length) (h1 : ∀ i, (hi : i < (downL (l.take k)).length) → j ≤ i → (downL (l.take k))[i] < l[k]) (h2 : ∀ i, j = i + 1 → (hi : i < (downL (l.take k)).length) → l[k] ≤ (downL (l.take k))[i]) :
    (downL (l.take k)).take j ++ [l[k]] ++ (downL (l.take k)).drop j = downL (l.take (k + 1)) := by
  refine down_one ?_ (desc_ins (down_desc _) h1 h2 hj)
  rw [List.take_succ_eq_append_getElem h]
  exact (perm_ins _ _).trans ((down_perm _).append_right _)

def SeqP (l : List Int) : Prop := (∀ x ∈ l, 1 ≤ x) ∧ l.sum ≤ 8 ∧ Desc l
instance (l : List Int) : Decidable (SeqP l) := by unfold SeqP; infer_instance
def seqOk (l : List Int) : Bool := decide (SeqP l)
theorem sum_pos : ∀ {l : List Int}, (∀ x ∈ l, 1 ≤ x) → (l.length : Int) ≤ l.sum
  | [], _ => Int.le_refl _
  | x :: l, h => by
    have h1 := sum_pos (l := l) fun y hy => h y (List.mem_cons_of_mem _ hy)
    have h2 := h x List.mem_cons_self
    rw [List.sum_cons, List.length_cons]
    omega
theorem sum_app (a b : List Int) : (a ++ b).sum = a.sum + b.sum := List.sum_append
theorem sum_take {l : List Int} (h : ∀ x ∈ l, 1 ≤ x) (k : Nat) : (l.take k).sum ≤ l.sum := by
  have h1 := sum_app (l.take k) (l.drop k)
  rw [List.take_append_drop] at h1
  have h2 := sum_pos (l := l.drop k) fun x hx => h x (List.mem_of_mem_drop hx)
  omega
theorem sum_take_le {l : List Int} (h : ∀ x ∈ l, 1 ≤ x) {i k : Nat} (hik : i ≤ k) : (l.take i).sum ≤ (l.take k).sum := by
  have := sum_take (l := l.take k) (fun x hx => h x (List.mem_of_mem_take hx)) i
  rw [List.take_take, Nat.min_eq_left hik] at this
  exact this
theorem sum_next {l : List Int} {k : Nat} (h : k < l.length) : (l.take (k + 1)).sum = (l.take k).sum + l[k] := by
  rw [List.take_succ_eq_append_getElem h, sum_app, List.sum_cons, List.sum_nil]
  omega
theorem seq_len {l : List Int} (h : SeqP l) : l.length ≤ 8 := by
  have := sum_pos h.1
  have := h.2.1
  omega
theorem seq_take {l : List Int} (h : SeqP l) (k : Nat) : SeqP (l.take k) := ⟨fun x q => h.1 x (List.mem_of_mem_take q), by have := sum_take h.1 k; have := h.2.1; omega, h.2.2.sublist (List.take_sublist k l)⟩
theorem seq_more {l : List Int} {k : Nat} (h : SeqP (l.take k)) (hk : k < l.length) (hx : 1 ≤ l[k] ∧ l[k] ≤ 8 - (l.take k).sum) (h0 : ∀ j, k = j + 1 → (hj : j < l.length) → l[k] ≤ l[j]) : SeqP (l.take (k + 1)) := by
  refine ⟨?_, by rw [sum_next hk]; omega, ?_⟩
  · rw [List.take_succ_eq_append_getElem hk]
    intro x q
    rcases List.mem_append.1 q with q | q
    · exact h.1 x q
    · rw [List.mem_singleton.1 q]; exact hx.1
  · unfold Desc
    rw [List.take_succ_eq_append_getElem hk, List.pairwise_append]
    refine ⟨h.2.2, List.pairwise_singleton _ _, fun a ha b hb => ?_⟩
    rw [List.mem_singleton.1 hb]
    obtain ⟨i, hi, rfl⟩ := List.getElem_of_mem ha
    rw [List.length_take] at hi
    obtain ⟨j, rfl⟩ : ∃ j, k = j + 1 := ⟨k - 1, by omega⟩
    have hj := h0 j rfl (by omega)
    by_cases e : i = j
    · subst e; rw [List.getElem_take]; exact hj
    · have := List.pairwise_iff_getElem.1 h.2.2 i j (by rw [List.length_take]; omega) (by rw [List.length_take]; omega) (by omega)
      rw [List.getElem_take, List.getElem_take] at this
      rw [List.getElem_take]
      omega
theorem seq_bad1 {l : List Int} {k : Nat} (hk : k < l.length) (h : ¬ (1 ≤ l[k] ∧ l[k] ≤ 8 - (l.take k).sum)) : ¬ SeqP l := fun q => by
  have h1 := q.1 _ (List.getElem_mem hk)
  have h2 := (seq_take q (k + 1)).2.1
  rw [sum_next hk] at h2
  omega
theorem seq_bad2 {l : List Int} {j : Nat} (hj : j + 1 < l.length) (h : ¬ l[j + 1] ≤ l[j]) : ¬ SeqP l := fun q => h (List.pairwise_iff_getElem.1 q.2.2 j (j + 1) (by omega) hj (by omega))
def totL (l : List Int) : Int := if seqOk l then l.sum else 0
def topL (l : List Int) (k : Int) : Int := if seqOk l then (l.take k.toNat).sum else 0
def domL (a b : List Int) : Bool := seqOk a && seqOk b && decide (∀ k : Nat, k < 9 → topL b (k : Int) ≤ topL a (k : Int))
theorem tot_top (l : List Int) : totL l = topL l (l.length : Int) := by
  unfold totL topL
  rw [Int.toNat_natCast, List.take_length]
theorem top_bd (l : List Int) (k : Int) : 0 ≤ topL l k ∧ topL l k ≤ 8 := by
  unfold topL
  split
  · rename_i h
    have h := seq_take (of_decide_eq_true h) k.toNat
    have h1 := sum_pos h.1
    have h2 := h.2.1
    omega
  · omega
theorem top_neg {l : List Int} {k : Int} (h : k < 1) : topL l k = 0 := by
  unfold topL
  rw [show k.toNat = 0 by omega]
  split <;> rfl
theorem top_mono (l : List Int) {i k : Int} (h : i ≤ k) : topL l i ≤ topL l k := by
  unfold topL
  split
  · rename_i q
    exact sum_take_le (of_decide_eq_true q).1 (by omega)
  · omega
theorem top_end {l : List Int} {k : Int} (h : (l.length : Int) ≤ k) : topL l k = totL l := by
  unfold topL totL
  rw [List.take_of_length_le (by omega)]
theorem dom_no1 {a b : List Int} (h : seqOk a = false) : domL a b = false := by unfold domL; rw [h]; rfl
theorem dom_no2 {a b : List Int} (h : seqOk b = false) : domL a b = false := by unfold domL; rw [h, Bool.and_false]; rfl
theorem dom_no {a b : List Int} {k : Nat} (hk : k < 9) (h : topL a (k : Int) < topL b (k : Int)) : domL a b = false := by
  unfold domL
  rw [decide_eq_false (fun q => by have := q k hk; omega), Bool.and_false]
theorem dom_yes {a b : List Int} (ha : seqOk a = true) (hb : seqOk b = true) (h : ∀ k : Nat, k < 9 → topL b (k : Int) ≤ topL a (k : Int)) : domL a b = true := by
  unfold domL
  rw [ha, hb, decide_eq_true h]
  rfl
theorem dom_le {a b : List Int} (h : domL a b = true) {k : Nat} (hk : k < 9) : topL b (k : Int) ≤ topL a (k : Int) := by
  unfold domL at h
  rw [Bool.and_eq_true] at h
  exact of_decide_eq_true h.2 k hk
/-- Nothing is to be asked beyond the length of b. -/
theorem dom_len {a b : List Int} (ha : seqOk a = true) (hb : seqOk b = true) (h : ∀ k : Nat, k < b.length → topL b ((k : Int) + 1) ≤ topL a ((k : Int) + 1)) : domL a b = true := by
  refine dom_yes ha hb fun k hk => ?_
  by_cases h0 : k = 0
  · subst h0
    rw [top_neg (by decide), top_neg (by decide)]
    exact Int.le_refl _
  by_cases hl : k ≤ b.length
  · obtain ⟨j, rfl⟩ : ∃ j, k = j + 1 := ⟨k - 1, by omega⟩
    have := h j (by omega)
    rw [show (((j + 1 : Nat)) : Int) = (j : Int) + 1 by omega]
    exact this
  · rw [top_end (l := b) (by omega)]
    cases hbl : b.length with
    | zero =>
      rw [tot_top, hbl, top_neg (by decide)]
      exact (top_bd a _).1
    | succ m =>
      have h1 := h m (by omega)
      have h2 := top_mono a (show (m : Int) + 1 ≤ (k : Int) by omega)
      rw [tot_top, hbl]
      rw [show (((m + 1 : Nat)) : Int) = (m : Int) + 1 by omega]
      omega

/-! ### the degrees of a table -/
def degL (nm : ByteArray) (ar : Int) (rows : List (List Int)) (cols : List Int) : List Int := downL (gcN nm ar rows cols)
def maxL (nm : ByteArray) (ar : Int) (rows : List (List Int)) (cols : List Int) : Int := (degL nm ar rows cols).headD 0
theorem deg_len {nm : ByteArray} {ar : Int} {rows : List (List Int)} {cols : List Int} : (degL nm ar rows cols).length = (gcN nm ar rows cols).length := down_len _
theorem deg_len8 {nm : ByteArray} {ar : Int} {rows : List (List Int)} {cols : List Int} : (degL nm ar rows cols).length ≤ 8 := by
  rw [deg_len, gc_len]
  exact gcV_len
theorem deg_bd {nm : ByteArray} {ar : Int} {rows : List (List Int)} {cols : List Int} {x : Int} (hx : x ∈ degL nm ar rows cols) : 1 ≤ x ∧ x ≤ 8 := gcN_bd (down_mem.1 hx)
theorem deg_seq (nm : ByteArray) (ar : Int) (rows : List (List Int)) (cols : List Int) : seqOk (degL nm ar rows cols) = true := by
  refine decide_eq_true ⟨fun x hx => (deg_bd hx).1, ?_, down_desc _⟩
  unfold degL
  rw [down_sum]
  cases h : gcOk nm ar rows cols
  · unfold gcN
    rw [if_neg (by rw [h]; decide)]
    decide
  · rw [gcN_sum h]
    have := (gc_rows h).1.2.2.2.1
    omega
theorem deg_ok {nm : ByteArray} {ar : Int} {rows : List (List Int)} {cols : List Int} (h : 0 < (degL nm ar rows cols).length) : gcOk nm ar rows cols = true := by
  cases q : gcOk nm ar rows cols
  · rw [deg_len] at h
    unfold gcN at h
    rw [q] at h
    simp at h
  · rfl
theorem deg_tot {nm : ByteArray} {ar : Int} {rows : List (List Int)} {cols : List Int} (h : 0 < (degL nm ar rows cols).length) : totL (degL nm ar rows cols) = (rows.length : Int) := by
  unfold totL
  rw [if_pos (deg_seq nm ar rows cols)]
  unfold degL
  rw [down_sum, gcN_sum (deg_ok h)]
theorem desc_head {l : List Int} (h : Desc l) {x : Int} (hx : x ∈ l) : x ≤ l.headD 0 := by
  cases l with
  | nil => cases hx
  | cons y l =>
    rcases List.mem_cons.1 hx with rfl | q
    · exact Int.le_refl _
    · exact (List.pairwise_cons.1 h).1 x q
theorem head_mem {l : List Int} (h : 0 < l.length) : l.headD 0 ∈ l := by
  cases l with
  | nil => simp at h
  | cons y l => simp
theorem max_bd (nm : ByteArray) (ar : Int) (rows : List (List Int)) (cols : List Int) : 0 ≤ maxL nm ar rows cols ∧ maxL nm ar rows cols ≤ 8 := by
  unfold maxL
  by_cases h : 0 < (degL nm ar rows cols).length
  · have := deg_bd (head_mem h)
    omega
  · rw [List.length_eq_zero_iff.1 (show (degL nm ar rows cols).length = 0 by omega)]
    decide
/-- Fewer columns, greater degrees. -/
theorem max_take {nm : ByteArray} {ar : Int} {rows : List (List Int)} {cols : List Int} (h : 0 < (degL nm ar rows cols).length) (k : Nat) : maxL nm ar rows cols ≤ maxL nm ar rows (cols.take k) := by
  have hok := deg_ok h
  have hm := head_mem h
  obtain ⟨hT, hC⟩ := gc_rows hok
  have hok2 : gcOk nm ar rows (cols.take k) = true := by
    unfold gcOk
    rw [Bool.and_eq_true]
    exact ⟨decide_eq_true hT, decide_eq_true (col_take hC k)⟩
  have hm2 := down_mem.1 hm
  unfold gcN at hm2
  rw [if_pos hok] at hm2
  obtain ⟨v, hv, hve⟩ := List.mem_map.1 hm2
  have hvx := valL_mem.1 hv
  have hmap : ∀ r : List Int, selR r (cols.take k) = (selR r cols).take k := fun r => by unfold selR; rw [List.map_take]
  have hx2 : xsT rows (cols.take k) = (xsT rows cols).map (List.take k) := by
    unfold xsT
    rw [List.map_map]
    exact List.map_congr_left fun r _ => hmap r
  have hle : cnt (xsT rows cols) v ≤ cnt (xsT rows (cols.take k)) (v.take k) := by
    rw [hx2]
    exact List.count_le_count_map
  have hin : cntI (xsT rows (cols.take k)) (v.take k) ∈ gcN nm ar rows (cols.take k) := by
    unfold gcN
    rw [if_pos hok2]
    refine List.mem_map.2 ⟨v.take k, valL_mem.2 ?_, rfl⟩
    rw [hx2]
    exact List.mem_map.2 ⟨v, hvx, rfl⟩
  have h2 := desc_head (down_desc _) (down_mem.2 hin)
  unfold maxL
  unfold cntI at hve h2
  unfold degL at *
  omega
theorem max_head {nm : ByteArray} {ar : Int} {rows : List (List Int)} {cols : List Int} (h : 0 < (degL nm ar rows cols).length) : maxL nm ar rows cols = (degL nm ar rows cols)[0] := by
  unfold maxL
  generalize degL nm ar rows cols = l at *
  cases l with
  | nil => simp at h
  | cons x l => rfl
theorem top_tot (l : List Int) : topL l 8 = totL l := by
  by_cases h : seqOk l = true
  · exact top_end (by have := seq_len (of_decide_eq_true h); omega)
  · unfold topL totL
    rw [if_neg h, if_neg h]
end Go.Proofs.Ytklamhnecncenaa.DegMath
