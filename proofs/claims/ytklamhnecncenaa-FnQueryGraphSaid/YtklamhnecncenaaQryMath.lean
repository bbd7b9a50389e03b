/- Queries: what the document says of them, plain. -/
import Derived.Test.YtklamhnecncenaaAtom
import Derived.Test.YtklamhnecncenaaTabParse
namespace Go.Proofs.Ytklamhnecncenaa.QryMath
open Go Go.RowKit Byt Ints IntsLaw Cd Rows2 Tab TabSpec Exact Atom TabParse
--PLAIN
/-- A list of small numbers as a set of bits. -/
def bsF (s : Nat) (l : List Int) : Nat := l.foldl (fun s x => s ||| 2 ^ x.toNat) s
def bs (l : List Int) : Nat := bsF 0 l
def In4 (l : List Int) : Prop := ∀ x ∈ l, 0 ≤ x ∧ x < 4
theorem bsF_app (s : Nat) (l m : List Int) : bsF s (l ++ m) = bsF (bsF s l) m := by simp [bsF]
theorem bs_snoc (l : List Int) (x : Int) : bs (l ++ [x]) = bs l ||| 2 ^ x.toNat := by simp [bs, bsF]
theorem pow4 {x : Int} (h : 0 ≤ x ∧ x < 4) : 2 ^ x.toNat < 2 ^ 4 := by
  have : x = 0 ∨ x = 1 ∨ x = 2 ∨ x = 3 := by omega
  rcases this with rfl | rfl | rfl | rfl <;> decide
theorem bsF_lt : ∀ (l : List Int) (s : Nat), s < 16 → In4 l → bsF s l < 16
  | [], _, hs, _ => hs
  | x :: xs, _, hs, h => bsF_lt xs _ (Nat.or_lt_two_pow (n := 4) hs (pow4 (h x List.mem_cons_self))) fun y hy => h y (List.mem_cons_of_mem _ hy)
theorem bs_lt {l : List Int} (h : In4 l) : bs l < 16 := bsF_lt l 0 (by decide) h
theorem bsF_or : ∀ (l : List Int) (s : Nat), bsF s l = s ||| bs l
  | [], _ => by simp [bs, bsF]
  | x :: xs, s => by
    show bsF (s ||| 2 ^ x.toNat) xs = s ||| bsF (0 ||| 2 ^ x.toNat) xs
    rw [bsF_or xs, bsF_or xs (0 ||| _), Nat.zero_or, Nat.or_assoc]
theorem bs_app (l m : List Int) : bs (l ++ m) = bs l ||| bs m := by unfold bs; rw [bsF_app, bsF_or]; rfl

/-- The bits below k that are set, ascending. -/
def varsTo (s k : Nat) : List Int := ((List.range k).filter fun v => s / 2 ^ v % 2 == 1).map Int.ofNat
def varsL (s : Nat) : List Int := varsTo s 4
theorem varsTo_yes {s k : Nat} (h : s / 2 ^ k % 2 = 1) : varsTo s (k + 1) = varsTo s k ++ [(k : Int)] := by
  unfold varsTo
  rw [List.range_succ, List.filter_append, List.map_append]
  simp [h]
theorem varsTo_no {s k : Nat} (h : ¬ s / 2 ^ k % 2 = 1) : varsTo s (k + 1) = varsTo s k := by
  unfold varsTo
  rw [List.range_succ, List.filter_append, List.map_append]
  simp [h]
theorem varsTo_zero (s : Nat) : varsTo s 0 = [] := rfl
theorem varsL_zero : varsL 0 = [] := by decide
theorem varsTo_len (s k : Nat) : (varsTo s k).length ≤ k := by
  unfold varsTo
  rw [List.length_map]
  exact Nat.le_trans (List.length_filter_le _ _) (by rw [List.length_range]; exact Nat.le_refl _)
theorem inr_varsTo (s k : Nat) (hk : k ≤ 64) : ∀ x ∈ varsTo s k, -9223372036854775808 ≤ x ∧ x ≤ 9223372036854775807 := by
  intro x hx
  unfold varsTo at hx
  obtain ⟨y, hy, rfl⟩ := List.mem_map.1 hx
  have := List.mem_range.1 (List.mem_filter.1 hy).1
  simp only [Int.ofNat_eq_natCast]
  omega

/-- The atom fits a query of n variables. -/
def AtP (n : Int) (A : ByteArray × List Int) : Prop := nameOk A.1 = true ∧ 1 ≤ A.2.length ∧ A.2.length ≤ 3 ∧ (∀ x ∈ A.2, 0 ≤ x ∧ x < n) ∧ A.2.Nodup
instance (n : Int) (A : ByteArray × List Int) : Decidable (AtP n A) := by unfold AtP; infer_instance
def allV (l : List (ByteArray × List Int)) : List Int := (l.map (·.2)).flatten
theorem allV_succ {l : List (ByteArray × List Int)} {k : Nat} (h : k < l.length) : allV (l.take (k + 1)) = allV (l.take k) ++ l[k].2 := by
  unfold allV
  rw [List.take_succ_eq_append_getElem h, List.map_append, List.flatten_append]
  simp
def QP (n : Int) (l : List (ByteArray × List Int)) : Prop := 1 ≤ n ∧ n ≤ 4 ∧ 1 ≤ l.length ∧ l.length ≤ 4 ∧ (∀ A ∈ l, AtP n A) ∧ ((bs (allV l) : Nat) : Int) = 2 ^ n.toNat - 1
instance (n : Int) (l : List (ByteArray × List Int)) : Decidable (QP n l) := by unfold QP; infer_instance
def qOk (n : Int) (l : List (ByteArray × List Int)) : Bool := decide (QP n l)
theorem qOk_iff {n : Int} {l : List (ByteArray × List Int)} : qOk n l = true ↔ QP n l := by unfold qOk; rw [decide_eq_true_iff]
theorem QP.in4 {n : Int} {l : List (ByteArray × List Int)} (h : QP n l) : ∀ A ∈ l, In4 A.2 := fun A hA x hx => by
  have h1 := (h.2.2.2.2.1 A hA).2.2.2.1 x hx
  have h2 := h.2.1
  omega
theorem in4_all {l : List (ByteArray × List Int)} (h : ∀ A ∈ l, In4 A.2) : In4 (allV l) := fun x hx => by
  unfold allV at hx
  obtain ⟨m, hm, hxm⟩ := List.mem_flatten.1 hx
  obtain ⟨A, hA, rfl⟩ := List.mem_map.1 hm
  exact h A hA x hxm

/-- The variables of the atoms below k in the mask. -/
def selV (l : List (ByteArray × List Int)) (m : Nat) : Nat → List Int
  | 0 => []
  | k + 1 => selV l m k ++ (if m / 2 ^ k % 2 = 1 then (l.getD k (⟨#[]⟩, [])).2 else [])
theorem selV_yes {l : List (ByteArray × List Int)} {m k : Nat} (h : k < l.length) (hm : m / 2 ^ k % 2 = 1) : selV l m (k + 1) = selV l m k ++ l[k].2 := by
  rw [selV, if_pos hm, List.getD_eq_getElem?_getD, List.getElem?_eq_getElem h]
  rfl
theorem selV_no {l : List (ByteArray × List Int)} {m k : Nat} (hm : ¬ m / 2 ^ k % 2 = 1) : selV l m (k + 1) = selV l m k := by
  rw [selV, if_neg hm, List.append_nil]
theorem selV_in4 {l : List (ByteArray × List Int)} (h : ∀ A ∈ l, In4 A.2) (m : Nat) : ∀ k, k ≤ l.length → In4 (selV l m k)
  | 0, _ => fun x hx => by simp [selV] at hx
  | k + 1, hk => fun x hx => by
    by_cases hm : m / 2 ^ k % 2 = 1
    · rw [selV_yes (by omega) hm] at hx
      rcases List.mem_append.1 hx with q | q
      · exact selV_in4 h m k (by omega) x q
      · exact h _ (List.getElem_mem _) x q
    · rw [selV_no hm] at hx
      exact selV_in4 h m k (by omega) x hx
/-- A mask of the query's atoms. -/
def mOk (n : Int) (l : List (ByteArray × List Int)) (m : Int) : Bool := qOk n l && decide (0 ≤ m ∧ m < 2 ^ l.length)
/-- The set of the variables of the atoms in the mask. -/
def mB (n : Int) (l : List (ByteArray × List Int)) (m : Int) : Nat := if mOk n l m then bs (selV l m.toNat l.length) else 0
theorem mB_lt (n : Int) (l : List (ByteArray × List Int)) (m : Int) : mB n l m < 16 := by
  unfold mB
  split
  · rename_i h
    unfold mOk at h
    rw [Bool.and_eq_true] at h
    exact bs_lt (selV_in4 (qOk_iff.1 h.1).in4 _ _ (Nat.le_refl _))
  · decide
theorem mB_no {n : Int} {l : List (ByteArray × List Int)} {m : Int} (h : mOk n l m = false) : mB n l m = 0 := by unfold mB; rw [h]; rfl
theorem mB_yes {n : Int} {l : List (ByteArray × List Int)} {m : Int} (h : mOk n l m = true) : mB n l m = bs (selV l m.toNat l.length) := by unfold mB; rw [h]; rfl

def hasI (l : List Int) (x : Int) : Bool := l.contains x
theorem vars_shared : ∀ a < 16, ∀ b < 16, (varsL a).filter (fun x => hasI (varsL b) x) = varsL (a &&& b) := by unfold hasI; decide
/-- The indices below k of the numbers that a list contains. -/
def colsTo (vs xs : List Int) (k : Nat) : List Int := ((List.range k).filter fun i => hasI xs (vs.getD i 0)).map Int.ofNat
def colsL (vs xs : List Int) : List Int := colsTo vs xs vs.length
theorem colsTo_yes {vs xs : List Int} {k : Nat} (hk : k < vs.length) (h : hasI xs vs[k] = true) : colsTo vs xs (k + 1) = colsTo vs xs k ++ [(k : Int)] := by
  unfold colsTo
  rw [List.range_succ, List.filter_append, List.map_append]
  have : vs.getD k 0 = vs[k] := by simp [hk]
  simp only [List.filter_cons, this, h, List.filter_nil]
  rfl
theorem colsTo_no {vs xs : List Int} {k : Nat} (hk : k < vs.length) (h : hasI xs vs[k] = false) : colsTo vs xs (k + 1) = colsTo vs xs k := by
  unfold colsTo
  rw [List.range_succ, List.filter_append, List.map_append]
  have : vs.getD k 0 = vs[k] := by simp [hk]
  simp only [List.filter_cons, this, h, List.filter_nil]
  simp
theorem colsTo_len (vs xs : List Int) (k : Nat) : (colsTo vs xs k).length ≤ k := by
  unfold colsTo
  rw [List.length_map]
  exact Nat.le_trans (List.length_filter_le _ _) (by rw [List.length_range]; exact Nat.le_refl _)
theorem inr_colsTo (vs xs : List Int) (k : Nat) (hk : k ≤ 9223372036854775807) : ∀ x ∈ colsTo vs xs k, -9223372036854775808 ≤ x ∧ x ≤ 9223372036854775807 := by
  intro x hx
  unfold colsTo at hx
  obtain ⟨y, hy, rfl⟩ := List.mem_map.1 hx
  have := List.mem_range.1 (List.mem_filter.1 hy).1
  simp only [Int.ofNat_eq_natCast]
  omega

/-! Names and formats. -/
def vb (x : Int) : UInt8 := if x = 0 then 88 else if x = 1 then 89 else if x = 2 then 90 else 85
def vnm (v : Int) : ByteArray := if 0 ≤ v ∧ v < 4 then ⟨#[vb v]⟩ else ⟨#[]⟩
def atomB (A : ByteArray × List Int) : List UInt8 := A.1.data.toList ++ [40] ++ A.2.map vb ++ [41]
def qB : List (ByteArray × List Int) → List UInt8
  | [] => []
  | A :: As => atomB A ++ (As.map fun A => 32 :: atomB A).flatten
def fmtQ (n : Int) (l : List (ByteArray × List Int)) : ByteArray := if qOk n l then ⟨(qB l).toArray⟩ else ⟨#[]⟩
theorem fmtQ_no {n : Int} {l : List (ByteArray × List Int)} (h : qOk n l = false) : fmtQ n l = ⟨#[]⟩ := by unfold fmtQ; rw [h]; rfl
theorem fmtQ_yes {n : Int} {l : List (ByteArray × List Int)} (h : qOk n l = true) : fmtQ n l = ⟨(qB l).toArray⟩ := by unfold fmtQ; rw [h]; rfl
theorem qB_snoc {l : List (ByteArray × List Int)} (A : ByteArray × List Int) (h : 0 < l.length) : qB (l ++ [A]) = qB l ++ [32] ++ atomB A := by
  cases l with
  | nil => simp at h
  | cons B Bs => simp [qB]
theorem qB_succ {l : List (ByteArray × List Int)} {k : Nat} (hk : k < l.length) (h : 0 < k) : qB (l.take (k + 1)) = qB (l.take k) ++ [32] ++ atomB l[k] := by
  rw [List.take_succ_eq_append_getElem hk, qB_snoc _ (by rw [List.length_take]; omega)]
theorem qB_one {l : List (ByteArray × List Int)} (hk : 0 < l.length) : qB (l.take 1) = atomB l[0] := by
  rw [List.take_succ_eq_append_getElem hk]
  simp [qB]
theorem atomB_len {A : ByteArray × List Int} : (atomB A).length = A.1.size + A.2.length + 2 := by
  have : A.1.data.toList.length = A.1.size := Array.length_toList
  unfold atomB
  simp only [List.length_append, List.length_map, List.length_cons, List.length_nil, this]
  omega
theorem qB_len_le : ∀ {l : List (ByteArray × List Int)}, (∀ A ∈ l, A.1.size = 1 ∧ A.2.length ≤ 3) → (qB l).length ≤ 7 * l.length
  | [], _ => by simp [qB]
  | A :: As, h => by
    have hA := h A List.mem_cons_self
    have hAs : ((As.map fun A => 32 :: atomB A).flatten).length ≤ 7 * As.length := by
      have h' : ∀ B ∈ As, B.1.size = 1 ∧ B.2.length ≤ 3 := fun B hB => h B (List.mem_cons_of_mem _ hB)
      clear h hA
      induction As with
      | nil => simp
      | cons B Bs ih =>
        have hB := h' B List.mem_cons_self
        have := ih fun C hC => h' C (List.mem_cons_of_mem _ hC)
        simp only [List.map_cons, List.flatten_cons, List.length_append, List.length_cons, atomB_len]
        omega
    simp only [qB, List.length_append, atomB_len, List.length_cons]
    omega
theorem AtP.name {n : Int} {A : ByteArray × List Int} (h : AtP n A) : A.1.size = 1 := (of_decide_eq_true h.1).1
theorem QP.len {n : Int} {l : List (ByteArray × List Int)} (h : QP n l) : (qB l).length ≤ 28 := by
  have := qB_len_le (l := l) (fun A hA => ⟨(h.2.2.2.2.1 A hA).name, (h.2.2.2.2.1 A hA).2.2.1⟩)
  have := h.2.2.2.1
  omega

/-! Reading. -/
def pV (b : UInt8) : List Int := if b = 88 then [0] else if b = 89 then [1] else if b = 90 then [2] else if b = 85 then [3] else []
theorem pV_vb {x : Int} (h : 0 ≤ x ∧ x < 4) : pV (vb x) = [x] := by
  have : x = 0 ∨ x = 1 ∨ x = 2 ∨ x = 3 := by omega
  rcases this with rfl | rfl | rfl | rfl <;> decide
theorem vb_cases (x : Int) : vb x = 88 ∨ vb x = 89 ∨ vb x = 90 ∨ vb x = 85 := by
  unfold vb
  split
  · exact .inl rfl
  · split
    · exact .inr (.inl rfl)
    · split
      · exact .inr (.inr (.inl rfl))
      · exact .inr (.inr (.inr rfl))
/-- The atom that the model reads of a word. -/
def atS (x : List UInt8) : ByteArray × List Int := (⟨(x.take 1).toArray⟩, ((x.drop 2).take (x.length - 3)).flatMap pV)
def mxF (m : Int) (l : List Int) : Int := l.foldl (fun m v => max m (v + 1)) m
def mx (l : List Int) : Int := mxF 0 l
theorem mxF_app (m : Int) (l k : List Int) : mxF m (l ++ k) = mxF (mxF m l) k := by simp [mxF]
theorem mxF_le : ∀ (l : List Int) (m n : Int), m ≤ n → (∀ x ∈ l, x < n) → mxF m l ≤ n
  | [], _, _, h, _ => h
  | x :: xs, m, n, h, hl => mxF_le xs _ n (by have := hl x List.mem_cons_self; show max m (x + 1) ≤ n; omega) fun y hy => hl y (List.mem_cons_of_mem _ hy)
theorem mxF_ge : ∀ (l : List Int) (m : Int), m ≤ mxF m l
  | [], m => Int.le_refl m
  | x :: xs, m => Int.le_trans (show m ≤ max m (x + 1) by omega) (mxF_ge xs (max m (x + 1)))
theorem mxF_mem : ∀ (l : List Int) (m x : Int), x ∈ l → x + 1 ≤ mxF m l
  | y :: ys, m, x, h => by
    rcases List.mem_cons.1 h with q | q
    · subst q
      exact Int.le_trans (show x + 1 ≤ max m (x + 1) by omega) (mxF_ge ys (max m (x + 1)))
    · exact mxF_mem ys (max m (y + 1)) x q
theorem bsF_lt' (k : Nat) : ∀ (l : List Int) (s : Nat), s < 2 ^ k → (∀ x ∈ l, 0 ≤ x ∧ x < k) → bsF s l < 2 ^ k
  | [], _, hs, _ => hs
  | x :: xs, _, hs, h => bsF_lt' k xs _ (Nat.or_lt_two_pow hs (Nat.pow_lt_pow_right (by decide) (by have := h x List.mem_cons_self; omega))) fun y hy => h y (List.mem_cons_of_mem _ hy)
/-- Every variable below the count occurs, so the count is the greatest plus one. -/
theorem mx_all {n : Int} {l : List (ByteArray × List Int)} (h : QP n l) : mx (allV l) = n := by
  obtain ⟨h1, h4, _, _, ha, hb⟩ := h
  have hr : ∀ x ∈ allV l, 0 ≤ x ∧ x < n := fun x hx => by
    unfold allV at hx
    obtain ⟨m, hm, hxm⟩ := List.mem_flatten.1 hx
    obtain ⟨A, hA, rfl⟩ := List.mem_map.1 hm
    exact (ha A hA).2.2.2.1 x hxm
  have hle : mx (allV l) ≤ n := mxF_le _ _ _ (by omega) fun x hx => (hr x hx).2
  by_cases hm : n - 1 ∈ allV l
  · have := mxF_mem _ 0 _ hm
    unfold mx at *
    omega
  · exfalso
    obtain ⟨k, hk⟩ : ∃ k : Nat, n = (k : Int) + 1 := ⟨(n - 1).toNat, by omega⟩
    subst hk
    have hlt : bs (allV l) < 2 ^ k := bsF_lt' k _ _ (Nat.two_pow_pos k) fun x hx => by
      have h0 := hr x hx
      have : x ≠ (k : Int) := fun q => hm (by rw [q] at hx; simpa using hx)
      omega
    have e : ((k : Int) + 1).toNat = k + 1 := by omega
    rw [e] at hb
    have e2 : ((2 : Int) ^ (k + 1)) = ((2 ^ (k + 1) : Nat) : Int) := by norm_cast
    rw [e2, Nat.pow_succ] at hb
    have := Nat.two_pow_pos k
    omega
theorem noSp_atomB {n : Int} {A : ByteArray × List Int} (h : AtP n A) : ∀ b ∈ atomB A, b ≠ 32 := by
  have hn := of_decide_eq_true h.1
  have hl : A.1.data.toList.length = 1 := by rw [Array.length_toList]; exact hn.1
  intro b hb
  unfold atomB at hb
  simp only [List.mem_append, List.mem_map, List.mem_singleton] at hb
  rcases hb with ((q | q) | ⟨x, _, q⟩) | q
  · match hq : A.1.data.toList, hl with
    | [y], _ =>
      rw [hq] at q hn
      rw [List.mem_singleton.1 q]
      intro c
      subst c
      have := hn.2.1
      simp at this
  · subst q; decide
  · subst q
    rcases vb_cases x with q | q | q | q <;> rw [q] <;> decide
  · subst q; decide
theorem atS_atomB {n : Int} {A : ByteArray × List Int} (h : AtP n A) (h4 : n ≤ 4) : atS (atomB A) = A := by
  have hl : A.1.data.toList.length = 1 := by rw [Array.length_toList]; exact h.name
  obtain ⟨⟨⟨nm⟩⟩, vs⟩ := A
  match nm, hl with
  | [y], _ =>
    have hv : ∀ vs : List Int, In4 vs → (vs.map vb).flatMap pV = vs := by
      intro vs
      induction vs with
      | nil => intro _; rfl
      | cons x xs ih =>
        intro hi
        rw [List.map_cons, List.flatMap_cons, pV_vb (hi x List.mem_cons_self), ih fun y hy => hi y (List.mem_cons_of_mem _ hy)]
        rfl
    have hin : In4 vs := fun x hx => by have := h.2.2.2.1 x hx; omega
    have e : atomB (⟨⟨[y]⟩⟩, vs) = y :: 40 :: (vs.map vb ++ [41]) := by simp [atomB]
    rw [e]
    unfold atS
    simp only [List.take_succ_cons, List.take_zero, List.drop_succ_cons, List.drop_zero, List.length_cons, List.length_append, List.length_map, List.length_nil]
    have e3 : vs.length + (0 + 1) + 1 + 1 - 3 = (vs.map vb).length := by rw [List.length_map]; omega
    rw [e3, List.take_left, hv vs hin]

theorem cut_no {sep : UInt8} : ∀ (x p r : List UInt8), (∀ b ∈ x, b ≠ sep) → onto p (cutB sep (x ++ r)) = onto (p ++ x) (cutB sep r)
  | [], _, _, _ => by simp
  | b :: x, p, r, h => by
    rw [List.cons_append, onto_other _ _ _ _ (h b List.mem_cons_self), cut_no x _ r fun c hc => h c (List.mem_cons_of_mem _ hc)]
    simp
theorem cut_words {sep : UInt8} : ∀ (x : List UInt8) (xs : List (List UInt8)), (∀ y ∈ x :: xs, ∀ b ∈ y, b ≠ sep) → cutB sep (x ++ (xs.map fun y => sep :: y).flatten) = x :: xs
  | x, [], h => by
    have := cut_no x [] [] (h x List.mem_cons_self)
    rw [onto_nil _ (cutB_ne _ _)] at this
    simp only [List.map_nil, List.flatten_nil]
    rw [this]
    simp [cutB, onto]
  | x, y :: ys, h => by
    have h1 := cut_no x [] ((( y :: ys).map fun y => sep :: y).flatten) (h x List.mem_cons_self)
    rw [onto_nil _ (cutB_ne _ _)] at h1
    rw [h1, List.map_cons, List.flatten_cons, List.cons_append, onto_sep, cut_words y ys fun z hz => h z (List.mem_cons_of_mem _ hz)]
    simp
theorem cut_qB {n : Int} {l : List (ByteArray × List Int)} (h : QP n l) : cutB 32 (qB l) = l.map atomB := by
  have ha := h.2.2.2.2.1
  have h1 := h.2.2.1
  match l, h1 with
  | A :: As, _ =>
    have := cut_words (sep := 32) (atomB A) (As.map atomB) (fun y hy => by
      have hy2 : y ∈ (A :: As).map atomB := hy
      obtain ⟨B, hB, rfl⟩ := List.mem_map.1 hy2
      exact noSp_atomB (ha B hB))
    rw [List.map_map] at this
    exact this
/-- What is read of a string. -/
def pL (s : ByteArray) : List (ByteArray × List Int) := (cutB 32 s.data.toList).map atS
def pN (s : ByteArray) : Int := mx (allV (pL s))
def pOk (s : ByteArray) : Bool := qOk (pN s) (pL s) && decide (fmtQ (pN s) (pL s) = s)
theorem of_fmt {n : Int} {l : List (ByteArray × List Int)} {s : ByteArray} (h : qOk n l = true) (hs : fmtQ n l = s) : cutB 32 s.data.toList = l.map atomB ∧ pL s = l ∧ pN s = n ∧ pOk s = true := by
  have hq := qOk_iff.1 h
  have e : s.data.toList = qB l := by rw [← hs, fmtQ_yes h]
  have e1 : cutB 32 s.data.toList = l.map atomB := by rw [e, cut_qB hq]
  have e2 : pL s = l := by
    unfold pL
    rw [e1, List.map_map]
    have : ∀ A ∈ l, (atS ∘ atomB) A = A := fun A hA => atS_atomB (hq.2.2.2.2.1 A hA) hq.2.1
    rw [List.map_congr_left this, List.map_id']
  have e3 : pN s = n := by unfold pN; rw [e2, mx_all hq]
  exact ⟨e1, e2, e3, by unfold pOk; rw [e2, e3, h, hs]; simp⟩
theorem pOk_iff {s : ByteArray} : pOk s = true ↔ qOk (pN s) (pL s) = true ∧ fmtQ (pN s) (pL s) = s := by unfold pOk; simp
theorem pOk_words {s : ByteArray} (h : pOk s = true) : (cutB 32 s.data.toList).length ≤ 4 ∧ ∀ x ∈ cutB 32 s.data.toList, 4 ≤ x.length ∧ x.length ≤ 6 := by
  obtain ⟨h1, h2⟩ := pOk_iff.1 h
  have hq := qOk_iff.1 h1
  rw [(of_fmt h1 h2).1]
  refine ⟨by rw [List.length_map]; exact hq.2.2.2.1, fun x hx => ?_⟩
  obtain ⟨A, hA, rfl⟩ := List.mem_map.1 hx
  have := hq.2.2.2.2.1 A hA
  rw [atomB_len, this.name]
  have h3 := this.2.1
  have h4 := this.2.2.1
  omega
theorem pOk_size {s : ByteArray} (h : pOk s = true) : s.size ≤ 27 := by
  obtain ⟨h1, h2⟩ := pOk_iff.1 h
  have hq := qOk_iff.1 h1
  have : s.size = (qB (pL s)).length := by
    conv => lhs; rw [← h2, fmtQ_yes h1]
    simp [ByteArray.size]
  rw [this]
  have h4 := hq.2.2.2.1
  have ha := hq.2.2.2.2.1
  have h0 := hq.2.2.1
  match pL s, h0, h4, ha with
  | A :: As, _, h4, ha =>
    have hA := ha A List.mem_cons_self
    have hAs : ∀ Bs : List (ByteArray × List Int), (∀ B ∈ Bs, AtP (pN s) B) → ((Bs.map fun A => 32 :: atomB A).flatten).length ≤ 7 * Bs.length := by
      intro Bs
      induction Bs with
      | nil => intro _; simp
      | cons B Bs ih =>
        intro hB
        have h1 := ih fun C hC => hB C (List.mem_cons_of_mem _ hC)
        have h2 := hB B List.mem_cons_self
        have h3 := h2.name
        have h5 := h2.2.2.1
        simp only [List.map_cons, List.flatten_cons, List.length_append, List.length_cons, atomB_len]
        omega
    have h6 := hAs As fun B hB => ha B (List.mem_cons_of_mem _ hB)
    have h7 := hA.name
    have h8 := hA.2.2.1
    simp only [qB, List.length_append, atomB_len]
    simp only [List.length_cons] at h4
    omega
--PLAINEND
end Go.Proofs.Ytklamhnecncenaa.QryMath
