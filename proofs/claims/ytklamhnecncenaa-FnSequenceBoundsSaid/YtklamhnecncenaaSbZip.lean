/- Lists zipped: their products and sums. Plain. -/
import Derived.Test.YtklamhnecncenaaSbMath
import Derived.Lib.Slices
namespace Go.Proofs.Ytklamhnecncenaa.SbZip
open Go Go.RowKit Byt Ints IntsLaw Cd Rows2 Tab TabSpec TabImp Loc DegMath SbMath

def prodL (l : List Int) : Int := l.foldl (· * ·) 1
theorem prod_next {l : List Int} {k : Nat} (h : k < l.length) : prodL (l.take (k + 1)) = prodL (l.take k) * l[k] := by
  unfold prodL
  rw [List.take_succ_eq_append_getElem h, List.foldl_append]
  rfl
theorem prod_rep (x : Int) : ∀ k, prodL (List.replicate k x) = powI x k
  | 0 => rfl
  | k + 1 => by
    have := prod_rep x k
    unfold prodL at *
    rw [List.replicate_succ', List.foldl_append, this]
    rfl
theorem fold_bd : ∀ (l : List Int) (a A : Int), (∀ x ∈ l, 0 ≤ x ∧ x ≤ 8) → 0 ≤ a → a ≤ A → 0 ≤ l.foldl (· * ·) a ∧ l.foldl (· * ·) a ≤ A * powI 8 l.length
  | [], a, A, _, h0, h1 => by simp [powI]; omega
  | x :: l, a, A, h, h0, h1 => by
    obtain ⟨x0, x1⟩ := h x List.mem_cons_self
    have := fold_bd l (a * x) (A * 8) (fun y q => h y (List.mem_cons_of_mem _ q)) (Int.mul_nonneg h0 x0) (Int.mul_le_mul h1 x1 x0 (by omega))
    refine ⟨this.1, Int.le_trans this.2 ?_⟩
    rw [List.length_cons, powI, Int.mul_assoc, Int.mul_comm 8]
    exact Int.le_refl _
theorem prod_bd {l : List Int} (h : ∀ x ∈ l, 0 ≤ x ∧ x ≤ 8) (hl : l.length ≤ 3) : 0 ≤ prodL l ∧ prodL l ≤ 512 := by
  have h1 := fold_bd l 1 1 h (by omega) (by omega)
  have h8 : powI 8 l.length ≤ 512 := by
    obtain h | h | h | h : l.length = 0 ∨ l.length = 1 ∨ l.length = 2 ∨ l.length = 3 := by omega
    all_goals rw [h]; decide
  unfold prodL
  omega

/-! ### the least length -/
def minL : List (List Int) → Nat
  | [] => 0
  | [l] => l.length
  | l :: r => min l.length (minL r)
def lens (L : List (List Int)) : List Int := L.map fun l => (l.length : Int)
theorem minL_cons (l : List Int) {r : List (List Int)} (h : r ≠ []) : minL (l :: r) = min l.length (minL r) := by
  cases r with
  | nil => exact absurd rfl h
  | cons x r => rfl
theorem minL_le : ∀ {L : List (List Int)} {l : List Int}, l ∈ L → minL L ≤ l.length
  | [x], l, h => by rw [List.mem_singleton.1 h]; exact Nat.le_refl _
  | x :: y :: r, l, h => by
    rw [minL_cons x (by simp)]
    rcases List.mem_cons.1 h with q | q
    · rw [q]; omega
    · have := minL_le q; omega
theorem fold_min : ∀ (L : List (List Int)) (a : Int), L ≠ [] → (lens L).foldl min a = min a (minL L : Int)
  | [], _, h => absurd rfl h
  | [l], a, _ => rfl
  | x :: y :: r, a, _ => by
    have ih := fold_min (y :: r) (min a (x.length : Int)) (by simp)
    rw [minL_cons x (by simp)]
    unfold lens at *
    rw [List.map_cons, List.foldl_cons, ih]
    omega
theorem minOf_lens {L : List (List Int)} (h : L ≠ []) : Lib.minOf (lens L) = (minL L : Int) := by
  unfold Lib.minOf
  rw [fold_min L _ h]
  cases L with
  | nil => exact absurd rfl h
  | cons l r =>
    have := minL_le (L := l :: r) List.mem_cons_self
    show min ((l.length : Int)) _ = _
    omega
theorem lens_len (L : List (List Int)) : (lens L).length = L.length := List.length_map _
theorem minL_rep (l : List Int) : ∀ p, minL (List.replicate (p + 1) l) = l.length
  | 0 => rfl
  | p + 1 => by
    rw [List.replicate_succ, minL_cons _ (by simp), minL_rep l p]
    omega

/-! ### zipped -/
def colL (L : List (List Int)) (i : Nat) : List Int := L.map fun l => l.getD i 0
def zipL (L : List (List Int)) (M : Nat) : List (List Int) := (List.range M).map (colL L)
theorem zip_len (L : List (List Int)) (M : Nat) : (zipL L M).length = M := by unfold zipL; rw [List.length_map, List.length_range]
theorem zip_at (L : List (List Int)) (M : Nat) {k : Nat} (h : k < (zipL L M).length) : (zipL L M)[k] = colL L k := by
  have h2 : k < M := by rwa [zip_len] at h
  have h3 : (zipL L M)[k]? = some (colL L k) := by unfold zipL; simp [h2]
  rw [List.getElem?_eq_getElem h] at h3
  exact Option.some.inj h3
theorem col_len (L : List (List Int)) (i : Nat) : (colL L i).length = L.length := List.length_map _
def sumP (Z : List (List Int)) : Int := (Z.map prodL).sum
theorem sum_more {Z : List (List Int)} {k : Nat} (h : k < Z.length) : sumP (Z.take (k + 1)) = sumP (Z.take k) + prodL Z[k] := by
  unfold sumP
  rw [List.take_succ_eq_append_getElem h, List.map_append, List.sum_append]
  simp
def allSeq (L : List (List Int)) : Bool := L.all seqOk
def sopL (L : List (List Int)) : Int := if allSeq L then sumP (zipL L (minL L)) else 0
theorem all_seq {L : List (List Int)} (h : allSeq L = true) {l : List Int} (hl : l ∈ L) : SeqP l := of_decide_eq_true (List.all_eq_true.1 h l hl)
/-- Every row that is zipped holds degrees. -/
theorem col_bd {L : List (List Int)} (h : allSeq L = true) (i : Nat) : ∀ x ∈ colL L i, 0 ≤ x ∧ x ≤ 8 := fun x hx => by
  obtain ⟨l, hl, rfl⟩ := List.mem_map.1 hx
  by_cases hi : i < l.length
  · have := pos8 (all_seq h hl) (List.getElem_mem hi)
    simp [hi]
    omega
  · simp [hi]
theorem zip_row {L : List (List Int)} (h : allSeq L = true) (hl : L.length ≤ 3) {M : Nat} {r : List Int} (hr : r ∈ zipL L M) (k : Nat) : 0 ≤ prodL (r.take k) ∧ prodL (r.take k) ≤ 512 := by
  unfold zipL at hr
  obtain ⟨i, _, rfl⟩ := List.mem_map.1 hr
  exact prod_bd (fun x hx => col_bd h i x (List.mem_of_mem_take hx)) (by rw [List.length_take, col_len]; omega)
theorem sumP_bd : ∀ {Z : List (List Int)}, (∀ r ∈ Z, 0 ≤ prodL r ∧ prodL r ≤ 512) → 0 ≤ sumP Z ∧ sumP Z ≤ 512 * (Z.length : Int)
  | [], _ => by simp [sumP]
  | r :: Z, h => by
    have ih := sumP_bd (Z := Z) fun x q => h x (List.mem_cons_of_mem _ q)
    have := h r List.mem_cons_self
    have e : sumP (r :: Z) = prodL r + sumP Z := by unfold sumP; rw [List.map_cons, List.sum_cons]
    rw [e]
    simp only [List.length_cons]
    omega
theorem min8 {L : List (List Int)} (h : allSeq L = true) (h0 : L ≠ []) : minL L ≤ 8 := by
  cases L with
  | nil => exact absurd rfl h0
  | cons l r =>
    have h1 := minL_le (L := l :: r) List.mem_cons_self
    have h2 := seq_len (all_seq h List.mem_cons_self)
    omega

theorem range_sum : ∀ (a b : List Int), ((List.range (min a.length b.length)).map fun i => a.getD i 0 * b.getD i 0).sum = mulL a b
  | [], b => by simp [mulL]
  | a :: al, [] => by simp [mulL]
  | a :: al, b :: bs => by
    have ih := range_sum al bs
    rw [List.length_cons, List.length_cons, show min (al.length + 1) (bs.length + 1) = min al.length bs.length + 1 by omega, List.range_succ_eq_map, List.map_cons, List.sum_cons, List.map_map, mulL, ← ih]
    rfl
theorem sop_pair (a b : List Int) : sopL [a, b] = pairL a b := by
  unfold sopL pairL allSeq
  rw [List.all_cons, List.all_cons, List.all_nil, Bool.and_true]
  split
  · rw [← range_sum]
    unfold sumP zipL
    rw [List.map_map]
    congr 1
    refine List.map_congr_left fun i _ => ?_
    show prodL [a.getD i 0, b.getD i 0] = _
    simp [prodL]
  · rfl
theorem range_pow : ∀ (l : List Int) (p : Nat), ((List.range l.length).map fun i => powI (l.getD i 0) p).sum = powS l p
  | [], p => rfl
  | a :: al, p => by
    have ih := range_pow al p
    rw [List.length_cons, List.range_succ_eq_map, List.map_cons, List.sum_cons, List.map_map]
    have e : powS (a :: al) p = powI a p + powS al p := by unfold powS; rw [List.map_cons, List.sum_cons]
    rw [e, ← ih]
    rfl
theorem all_rep (l : List Int) : ∀ p, allSeq (List.replicate (p + 1) l) = seqOk l
  | 0 => by simp [allSeq]
  | p + 1 => by
    have ih := all_rep l p
    unfold allSeq at *
    rw [List.replicate_succ, List.all_cons, ih, Bool.and_self]
theorem sop_norm (l : List Int) {p : Nat} (h : 1 ≤ p ∧ p ≤ 3) : sopL (List.replicate p l) = normL l (p : Int) := by
  obtain ⟨q, rfl⟩ : ∃ q, p = q + 1 := ⟨p - 1, by omega⟩
  unfold sopL
  rw [all_rep, minL_rep]
  cases hs : seqOk l
  · rw [norm_no _ hs]; rfl
  · rw [if_pos rfl, norm_yes hs h, ← range_pow]
    unfold sumP zipL
    rw [List.map_map]
    congr 1
    refine List.map_congr_left fun i _ => ?_
    show prodL (colL (List.replicate (q + 1) l) i) = _
    unfold colL
    rw [List.map_replicate, prod_rep]

/-! ### the first list that is none -/
def ixL : List (List Int) → Nat → Int
  | [], _ => -1
  | l :: r, k => if seqOk l then ixL r (k + 1) else (k : Int)
theorem ix_bd : ∀ (L : List (List Int)) (k : Nat), -1 ≤ ixL L k ∧ ixL L k < (k + L.length : Nat)
  | [], k => by simp [ixL]; omega
  | l :: r, k => by
    have := ix_bd r (k + 1)
    unfold ixL
    split <;> simp <;> omega
theorem ix_all : ∀ (L : List (List Int)) (k : Nat), decide (0 ≤ ixL L k) = !allSeq L
  | [], k => by simp [ixL, allSeq]
  | l :: r, k => by
    have ih := ix_all r (k + 1)
    have e1 : ixL (l :: r) k = if seqOk l then ixL r (k + 1) else (k : Int) := rfl
    have e2 : allSeq (l :: r) = (seqOk l && allSeq r) := rfl
    rw [e1, e2]
    cases h : seqOk l
    · rw [if_neg (by simp), Bool.false_and, decide_eq_true (by omega)]; rfl
    · rw [if_pos rfl, ih, Bool.true_and]
theorem ix_drop {L : List (List Int)} {k : Nat} (h : k < L.length) : ixL (L.drop k) k = if seqOk L[k] then ixL (L.drop (k + 1)) (k + 1) else (k : Int) := by
  rw [List.drop_eq_getElem_cons h]
  rfl
end Go.Proofs.Ytklamhnecncenaa.SbZip
