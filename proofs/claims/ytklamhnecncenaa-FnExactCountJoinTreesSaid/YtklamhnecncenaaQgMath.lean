/- The query graph: what the document says of it, plain. -/
import Derived.Test.YtklamhnecncenaaQryMath
namespace Go.Proofs.Ytklamhnecncenaa.QgMath
open Go Go.RowKit Byt Ints IntsLaw Cd Rows2 Tab TabSpec Exact Atom TabParse QryMath
--PLAIN
/-- Which pair of atoms, as a bit of the graph. -/
def ix (i j : Nat) : Nat := if i = 0 then (if j = 1 then 0 else if j = 2 then 1 else 2) else if i = 1 then (if j = 2 then 3 else 4) else 5
def adj (G i j : Nat) : Bool := if i < j then G / 2 ^ ix i j % 2 == 1 else if j < i then G / 2 ^ ix j i % 2 == 1 else false
/-- Is atom i beside an atom of the mask? -/
def anyA (G t i : Nat) : Bool := (t / 2 ^ 0 % 2 == 1 && adj G 0 i) || (t / 2 ^ 1 % 2 == 1 && adj G 1 i) || (t / 2 ^ 2 % 2 == 1 && adj G 2 i) || (t / 2 ^ 3 % 2 == 1 && adj G 3 i)
def nx (G t i : Nat) : Bool := t / 2 ^ i % 2 == 0 && anyA G t i
def nearTo (G t : Nat) : Nat → Nat
  | 0 => 0
  | k + 1 => if nx G t k then nearTo G t k ||| 2 ^ k else nearTo G t k
def near (G t : Nat) : Nat := nearTo G t 4
def low (m : Nat) : Nat := if m % 2 = 1 then 1 else if m / 2 % 2 = 1 then 2 else if m / 4 % 2 = 1 then 4 else if m / 8 % 2 = 1 then 8 else 0
def st (G m x : Nat) : Nat := x ||| (near G x &&& m)
def it (G m : Nat) : Nat → Nat
  | 0 => low m
  | k + 1 => st G m (it G m k)
def conn (G m : Nat) : Bool := m != 0 && it G m 4 == m
/-- The pairs among the first n atoms. -/
def pairs (n : Nat) : Nat := if n ≤ 1 then 0 else if n = 2 then 1 else if n = 3 then 11 else 63
theorem it_n : ∀ n ≤ 4, ∀ G < 64, G &&& pairs n = G → ∀ m < 2 ^ n, 1 ≤ m → it G m n = it G m 4 := by decide +kernel
theorem it_stop : ∀ G < 64, ∀ m < 16, ∀ k < 5, it G m k = it G m (k + 1) → it G m k = it G m 4 := by decide +kernel
theorem it_five : ∀ G < 64, ∀ m < 16, it G m 5 = it G m 4 := by decide +kernel
theorem it_up : ∀ G < 64, ∀ m < 16, ∀ k ≤ 5, it G m k ≤ it G m (k + 1) := by decide +kernel
theorem it_lt : ∀ G < 64, ∀ m < 16, ∀ k ≤ 6, it G m k < 16 := by decide +kernel
theorem low_pos : ∀ m < 16, 1 ≤ m → 1 ≤ low m := by decide +kernel
theorem near_lt : ∀ G < 64, ∀ x < 16, near G x < 16 := by decide +kernel
theorem nearTo_lt : ∀ G < 64, ∀ x < 16, ∀ k ≤ 4, nearTo G x k < 16 := by decide +kernel
def isSplit (G m p : Nat) : Bool := (p &&& m == p) && (conn G p && conn G (m - p))
def splits (G m : Nat) : List Nat := (List.range m).filter (isSplit G m)

/-- The numbers below k that p holds of. -/
def fil (p : Nat → Bool) (k : Nat) : List Int := ((List.range k).filter p).map Int.ofNat
theorem fil_yes {p : Nat → Bool} {k : Nat} (h : p k = true) : fil p (k + 1) = fil p k ++ [(k : Int)] := by
  unfold fil
  rw [List.range_succ, List.filter_append, List.map_append]
  simp [h]
theorem fil_no {p : Nat → Bool} {k : Nat} (h : p k = false) : fil p (k + 1) = fil p k := by
  unfold fil
  rw [List.range_succ, List.filter_append, List.map_append]
  simp [h]
theorem fil_zero (p : Nat → Bool) : fil p 0 = [] := rfl
theorem fil_one {p : Nat → Bool} (h : p 0 = false) : fil p 1 = [] := by rw [fil_no h]; rfl
theorem fil_len (p : Nat → Bool) (k : Nat) : (fil p k).length ≤ k := by
  unfold fil
  rw [List.length_map]
  exact Nat.le_trans (List.length_filter_le _ _) (by rw [List.length_range]; exact Nat.le_refl _)
theorem inr_fil (p : Nat → Bool) (k : Nat) (hk : k ≤ 64) : ∀ x ∈ fil p k, -9223372036854775808 ≤ x ∧ x ≤ 9223372036854775807 := by
  intro x hx
  unfold fil at hx
  obtain ⟨y, hy, rfl⟩ := List.mem_map.1 hx
  have := List.mem_range.1 (List.mem_filter.1 hy).1
  simp only [Int.ofNat_eq_natCast]
  omega
theorem mem_fil {p : Nat → Bool} {k : Nat} {x : Int} : x ∈ fil p k ↔ ∃ y : Nat, y < k ∧ p y = true ∧ x = (y : Int) := by
  unfold fil
  constructor
  · intro h
    obtain ⟨y, hy, rfl⟩ := List.mem_map.1 h
    obtain ⟨h1, h2⟩ := List.mem_filter.1 hy
    exact ⟨y, List.mem_range.1 h1, h2, rfl⟩
  · rintro ⟨y, h1, h2, rfl⟩
    exact List.mem_map.2 ⟨y, List.mem_filter.2 ⟨List.mem_range.2 h1, h2⟩, rfl⟩

/-! The graph of a query. -/
def gB (b0 b1 b2 b3 b4 b5 : Bool) : Nat := b0.toNat + 2 * b1.toNat + 4 * b2.toNat + 8 * b3.toNat + 16 * b4.toNat + 32 * b5.toNat
theorem gB_all : ∀ b0 b1 b2 b3 b4 b5, gB b0 b1 b2 b3 b4 b5 < 64 := by decide
theorem gB_01 : ∀ b0 b1 b2 b3 b4 b5, adj (gB b0 b1 b2 b3 b4 b5) 0 1 = b0 ∧ adj (gB b0 b1 b2 b3 b4 b5) 1 0 = b0 := by decide
theorem gB_02 : ∀ b0 b1 b2 b3 b4 b5, adj (gB b0 b1 b2 b3 b4 b5) 0 2 = b1 ∧ adj (gB b0 b1 b2 b3 b4 b5) 2 0 = b1 := by decide
theorem gB_03 : ∀ b0 b1 b2 b3 b4 b5, adj (gB b0 b1 b2 b3 b4 b5) 0 3 = b2 ∧ adj (gB b0 b1 b2 b3 b4 b5) 3 0 = b2 := by decide
theorem gB_12 : ∀ b0 b1 b2 b3 b4 b5, adj (gB b0 b1 b2 b3 b4 b5) 1 2 = b3 ∧ adj (gB b0 b1 b2 b3 b4 b5) 2 1 = b3 := by decide
theorem gB_13 : ∀ b0 b1 b2 b3 b4 b5, adj (gB b0 b1 b2 b3 b4 b5) 1 3 = b4 ∧ adj (gB b0 b1 b2 b3 b4 b5) 3 1 = b4 := by decide
theorem gB_23 : ∀ b0 b1 b2 b3 b4 b5, adj (gB b0 b1 b2 b3 b4 b5) 2 3 = b5 ∧ adj (gB b0 b1 b2 b3 b4 b5) 3 2 = b5 := by decide
theorem gB_pairs : ∀ b0 b1 b2 b3 b4 b5, gB b0 b1 b2 b3 b4 b5 &&& pairs 4 = gB b0 b1 b2 b3 b4 b5 ∧ gB b0 b1 false b3 false false &&& pairs 3 = gB b0 b1 false b3 false false ∧ gB b0 false false false false false &&& pairs 2 = gB b0 false false false false false := by decide
/-- The variables of atom i. -/
def V (l : List (ByteArray × List Int)) (i : Nat) : Nat := bs (l.getD i (⟨#[]⟩, [])).2
def eB (l : List (ByteArray × List Int)) (i j : Nat) : Bool := V l i &&& V l j != 0
def gr (l : List (ByteArray × List Int)) : Nat := gB (eB l 0 1) (eB l 0 2) (eB l 0 3) (eB l 1 2) (eB l 1 3) (eB l 2 3)
theorem gr_lt (l : List (ByteArray × List Int)) : gr l < 64 := gB_all _ _ _ _ _ _
theorem eB_comm (l : List (ByteArray × List Int)) (i j : Nat) : eB l i j = eB l j i := by unfold eB; rw [Nat.and_comm]
theorem gr_adj (l : List (ByteArray × List Int)) {i j : Nat} (hi : i < 4) (hj : j < 4) (h : i ≠ j) : adj (gr l) i j = eB l i j := by
  have ci : i = 0 ∨ i = 1 ∨ i = 2 ∨ i = 3 := by omega
  have cj : j = 0 ∨ j = 1 ∨ j = 2 ∨ j = 3 := by omega
  unfold gr
  rcases ci with rfl | rfl | rfl | rfl <;> rcases cj with rfl | rfl | rfl | rfl <;> first | exact absurd rfl h | exact (gB_01 _ _ _ _ _ _).1 | exact (gB_02 _ _ _ _ _ _).1 | exact (gB_03 _ _ _ _ _ _).1 | exact (gB_12 _ _ _ _ _ _).1 | exact (gB_13 _ _ _ _ _ _).1 | exact (gB_23 _ _ _ _ _ _).1 | exact (gB_01 _ _ _ _ _ _).2.trans (eB_comm l _ _) | exact (gB_02 _ _ _ _ _ _).2.trans (eB_comm l _ _) | exact (gB_03 _ _ _ _ _ _).2.trans (eB_comm l _ _) | exact (gB_12 _ _ _ _ _ _).2.trans (eB_comm l _ _) | exact (gB_13 _ _ _ _ _ _).2.trans (eB_comm l _ _) | exact (gB_23 _ _ _ _ _ _).2.trans (eB_comm l _ _)
theorem V_out {l : List (ByteArray × List Int)} {i : Nat} (h : l.length ≤ i) : V l i = 0 := by
  unfold V
  rw [List.getD_eq_getElem?_getD, List.getElem?_eq_none h]
  rfl
theorem V_in {l : List (ByteArray × List Int)} {i : Nat} (h : i < l.length) : V l i = bs l[i].2 := by
  unfold V
  rw [List.getD_eq_getElem?_getD, List.getElem?_eq_getElem h]
  rfl
theorem V_lt {l : List (ByteArray × List Int)} (h : ∀ A ∈ l, In4 A.2) (i : Nat) : V l i < 16 := by
  by_cases hi : i < l.length
  · rw [V_in hi]; exact bs_lt (h _ (List.getElem_mem hi))
  · rw [V_out (by omega)]; decide
theorem eB_out {l : List (ByteArray × List Int)} {i j : Nat} (h : l.length ≤ j) : eB l i j = false := by
  unfold eB
  rw [V_out h, Nat.and_zero]
  rfl
theorem gr_pairs {l : List (ByteArray × List Int)} (h : l.length ≤ 4) : gr l &&& pairs l.length = gr l := by
  have hc : l.length ≤ 1 ∨ l.length = 2 ∨ l.length = 3 ∨ l.length = 4 := by omega
  unfold gr
  rcases hc with q | q | q | q
  · rw [eB_out (j := 1) q, eB_out (j := 2) (by omega), eB_out (j := 3) (by omega), eB_out (j := 2) (by omega), eB_out (j := 3) (by omega), eB_out (j := 3) (by omega)]
    unfold pairs
    rw [if_pos q]
    rfl
  · rw [q, eB_out (j := 2) (by omega), eB_out (j := 3) (by omega), eB_out (j := 2) (by omega), eB_out (j := 3) (by omega), eB_out (j := 3) (by omega)]
    exact (gB_pairs _ false false false false false).2.2
  · rw [q, eB_out (j := 3) (by omega), eB_out (j := 3) (by omega), eB_out (j := 3) (by omega)]
    exact (gB_pairs _ _ false _ false false).2.1
  · rw [q]
    exact (gB_pairs _ _ _ _ _ _).1
theorem or_ne (a b : Nat) : (a ||| b != 0) = (a != 0 || b != 0) := by
  rw [Bool.eq_iff_iff, Bool.or_eq_true, bne_iff_ne, bne_iff_ne, bne_iff_ne, ne_eq, Nat.or_eq_zero_iff]
  omega
theorem and_if (x v : Nat) (c : Prop) [Decidable c] : (x &&& (if c then v else 0) != 0) = (decide c && (x &&& v != 0)) := by
  by_cases h : c <;> simp [h]
theorem bs_sel_succ (l : List (ByteArray × List Int)) (t k : Nat) : bs (selV l t (k + 1)) = bs (selV l t k) ||| (if t / 2 ^ k % 2 = 1 then V l k else 0) := by
  rw [selV, bs_app]
  unfold V
  split <;> rfl
theorem sel_out {l : List (ByteArray × List Int)} (t : Nat) : ∀ d, bs (selV l t (l.length + d)) = bs (selV l t l.length)
  | 0 => rfl
  | d + 1 => by
    rw [← Nat.add_assoc, bs_sel_succ, sel_out t d, V_out (by omega)]
    split <;> simp
theorem sel_four {l : List (ByteArray × List Int)} (h : l.length ≤ 4) (t : Nat) : bs (selV l t l.length) = bs (selV l t 4) := by
  have := sel_out (l := l) t (4 - l.length)
  rw [show l.length + (4 - l.length) = 4 by omega] at this
  exact this.symm
/-- Does atom i share a variable with the mask? -/
theorem sel_and {l : List (ByteArray × List Int)} (h : l.length ≤ 4) {t i : Nat} (hi : i < 4) (ht : t / 2 ^ i % 2 = 0) : (V l i &&& bs (selV l t l.length) != 0) = anyA (gr l) t i := by
  rw [sel_four h, bs_sel_succ, bs_sel_succ, bs_sel_succ, bs_sel_succ]
  rw [Nat.and_or_distrib_left, or_ne, Nat.and_or_distrib_left, or_ne, Nat.and_or_distrib_left, or_ne, Nat.and_or_distrib_left, or_ne]
  rw [and_if, and_if, and_if, and_if]
  have e : (V l i &&& bs (selV l t 0) != 0) = false := by simp [selV, bs, bsF]
  rw [e, Bool.false_or]
  have key : ∀ j, j < 4 → (decide (t / 2 ^ j % 2 = 1) && (V l i &&& V l j != 0)) = (t / 2 ^ j % 2 == 1 && adj (gr l) j i) := by
    intro j hj
    by_cases e : i = j
    · subst e
      rw [ht]
      rfl
    · rw [gr_adj l hj hi (Ne.symm e), eB_comm]
      rfl
  rw [key 0 (by decide), key 1 (by decide), key 2 (by decide), key 3 (by decide)]
  rfl
theorem pow_bit : ∀ k < 4, ∀ j < 4, (2 ^ k / 2 ^ j % 2 = 1 ↔ j = k) := by decide
theorem sel_one {l : List (ByteArray × List Int)} {k : Nat} (hk : k < 4) : ∀ j, j ≤ 4 → bs (selV l (2 ^ k) j) = if k < j then V l k else 0
  | 0, _ => by simp [selV, bs, bsF]
  | j + 1, hj => by
    rw [bs_sel_succ, sel_one hk j (by omega)]
    by_cases e : j = k
    · subst e
      rw [if_neg (by omega), if_pos ((pow_bit j hk j hk).2 rfl), if_pos (by omega), Nat.zero_or]
    · rw [if_neg (c := 2 ^ k / 2 ^ j % 2 = 1) (fun q => e ((pow_bit k hk j (by omega)).1 q)), Nat.or_zero]
      by_cases q : k < j
      · rw [if_pos q, if_pos (by omega)]
      · rw [if_neg q, if_neg (by omega)]
theorem sel_one_in {l : List (ByteArray × List Int)} (h : l.length ≤ 4) {k : Nat} (hk : k < l.length) : bs (selV l (2 ^ k) l.length) = V l k := by
  rw [sel_one (by omega) _ h, if_pos hk]
theorem near_out {l : List (ByteArray × List Int)} (h4 : l.length ≤ 4) (t : Nat) : ∀ d, l.length + d ≤ 4 → nearTo (gr l) t (l.length + d) = nearTo (gr l) t l.length
  | 0, _ => rfl
  | d + 1, h => by
    rw [← Nat.add_assoc, nearTo]
    have e : nx (gr l) t (l.length + d) = false := by
      unfold nx
      by_cases ht : t / 2 ^ (l.length + d) % 2 = 0
      · rw [← sel_and h4 (by omega) ht, V_out (by omega), Nat.zero_and]
        exact Bool.and_false _
      · rw [beq_eq_false_iff_ne.2 ht]
        rfl
    rw [e]
    exact near_out h4 t d (by omega)
theorem near_len {l : List (ByteArray × List Int)} (h4 : l.length ≤ 4) (t : Nat) : nearTo (gr l) t l.length = near (gr l) t := by
  have := near_out h4 t (4 - l.length) (by omega)
  rw [show l.length + (4 - l.length) = 4 by omega] at this
  exact this.symm
theorem it_len {l : List (ByteArray × List Int)} (h4 : l.length ≤ 4) {m : Nat} (hm : m < 2 ^ l.length) (h1 : 1 ≤ m) : it (gr l) m l.length = it (gr l) m 4 :=
  it_n _ h4 _ (gr_lt l) (gr_pairs h4) m hm h1

/-! Answers. -/
def fm (n : Int) (l : List (ByteArray × List Int)) : Nat := if qOk n l then 2 ^ l.length - 1 else 0
def maL (m : Int) : List Int := if 0 ≤ m ∧ m < 16 then varsL m.toNat else []
def nb (n : Int) (l : List (ByteArray × List Int)) (m : Int) : Nat := if mOk n l m then near (gr l) m.toNat else 0
def cOk (n : Int) (l : List (ByteArray × List Int)) (m : Int) : Bool := mOk n l m && conn (gr l) m.toNat
def cmL (n : Int) (l : List (ByteArray × List Int)) : List Int := fil (conn (gr l)) (fm n l + 1)
def jsL (n : Int) (l : List (ByteArray × List Int)) (m : Int) : List Int := if cOk n l m then fil (isSplit (gr l) m.toNat) m.toNat else []
theorem conn_zero (G : Nat) : conn G 0 = false := rfl
theorem fm_no {n : Int} {l : List (ByteArray × List Int)} (h : qOk n l = false) : fm n l = 0 := by unfold fm; rw [h]; rfl
theorem fm_yes {n : Int} {l : List (ByteArray × List Int)} (h : qOk n l = true) : fm n l = 2 ^ l.length - 1 := by unfold fm; rw [h]; rfl
theorem fm_lt (n : Int) (l : List (ByteArray × List Int)) : fm n l < 16 := by
  cases h : qOk n l
  · rw [fm_no h]; decide
  · rw [fm_yes h]
    have := (qOk_iff.1 h).2.2.2.1
    have h2 : 2 ^ l.length ≤ 2 ^ 4 := Nat.pow_le_pow_right (by decide) this
    omega
theorem nb_no {n m : Int} {l : List (ByteArray × List Int)} (h : mOk n l m = false) : nb n l m = 0 := by unfold nb; rw [h]; rfl
theorem nb_yes {n m : Int} {l : List (ByteArray × List Int)} (h : mOk n l m = true) : nb n l m = near (gr l) m.toNat := by unfold nb; rw [h]; rfl
theorem mOk_iff {n m : Int} {l : List (ByteArray × List Int)} : mOk n l m = true ↔ qOk n l = true ∧ 0 ≤ m ∧ m < 2 ^ l.length := by
  unfold mOk
  rw [Bool.and_eq_true, decide_eq_true_eq]
theorem pow_cast (k : Nat) : (2 : Int) ^ k = ((2 ^ k : Nat) : Int) := by norm_cast
theorem mOk_fm {n m : Int} {l : List (ByteArray × List Int)} (h : mOk n l m = true) : ∃ t : Nat, m = (t : Int) ∧ t ≤ fm n l ∧ t < 2 ^ l.length := by
  obtain ⟨hq, h0, h1⟩ := mOk_iff.1 h
  rw [pow_cast] at h1
  refine ⟨m.toNat, by omega, ?_, by omega⟩
  rw [fm_yes hq]
  omega
theorem fm_mOk {n : Int} {l : List (ByteArray × List Int)} {t : Nat} (h1 : 1 ≤ t) (h : t ≤ fm n l) : mOk n l (t : Int) = true := by
  cases hq : qOk n l
  · rw [fm_no hq] at h; omega
  · rw [fm_yes hq] at h
    rw [mOk_iff, pow_cast]
    have := Nat.two_pow_pos l.length
    exact ⟨hq, by omega, by omega⟩
theorem cOk_iff {n m : Int} {l : List (ByteArray × List Int)} : cOk n l m = true ↔ mOk n l m = true ∧ conn (gr l) m.toNat = true := by
  unfold cOk
  rw [Bool.and_eq_true]
theorem cOk_fm {n m : Int} {l : List (ByteArray × List Int)} (h : cOk n l m = true) : ∃ t : Nat, m = (t : Int) ∧ t ≤ fm n l ∧ t < 2 ^ l.length ∧ 1 ≤ t ∧ conn (gr l) t = true := by
  obtain ⟨h1, h2⟩ := cOk_iff.1 h
  obtain ⟨t, rfl, h3, h4⟩ := mOk_fm h1
  rw [Int.toNat_natCast] at h2
  refine ⟨t, rfl, h3, h4, ?_, h2⟩
  rcases Nat.eq_zero_or_pos t with q | q
  · subst q; cases h2
  · exact q
theorem jsL_no {n m : Int} {l : List (ByteArray × List Int)} (h : cOk n l m = false) : jsL n l m = [] := by unfold jsL; rw [h]; rfl
theorem jsL_yes {n : Int} {t : Nat} {l : List (ByteArray × List Int)} (h : cOk n l (t : Int) = true) : jsL n l (t : Int) = fil (isSplit (gr l) t) t := by unfold jsL; rw [h]; rfl
theorem low_bits : ∀ m < 16, bits .and .i64 ((m : Nat) : Int) (-((m : Nat) : Int)) = ((low m : Nat) : Int) := by decide
theorem not_bits : ∀ a < 16, ∀ b < 16, bits .andNot .i64 ((a : Nat) : Int) ((b : Nat) : Int) = ((a &&& (15 - b) : Nat) : Int) := by decide +kernel
theorem not_sub : ∀ a < 16, ∀ b < 16, ((a &&& (15 - b) = 0) ↔ a &&& b = a) ∧ (b &&& a = b → a &&& (15 - b) = a - b) := by decide +kernel
theorem not_any {a : Nat} (ha : a < 16) (m : Int) : ∃ r : Nat, r < 16 ∧ bits .andNot .i64 ((a : Nat) : Int) m = (r : Int) := by
  refine ⟨(BitVec.ofInt 64 (a : Int) &&& ~~~(BitVec.ofInt 64 m)).toNat, ?_, ?_⟩
  · rw [BitVec.toNat_and, BitVec.ofInt_natCast, BitVec.toNat_ofNat]
    exact Nat.lt_of_le_of_lt Nat.and_le_left (Nat.lt_of_le_of_lt (Nat.mod_le _ _) ha)
  · have hlt : (BitVec.ofInt 64 (a : Int) &&& ~~~(BitVec.ofInt 64 m)).toNat < 16 := by
      rw [BitVec.toNat_and, BitVec.ofInt_natCast, BitVec.toNat_ofNat]
      exact Nat.lt_of_le_of_lt Nat.and_le_left (Nat.lt_of_le_of_lt (Nat.mod_le _ _) ha)
    show IntKind.i64.wrap ((BitVec.ofInt 64 (a : Int) &&& ~~~(BitVec.ofInt 64 m)).toNat : Int) = _
    generalize (BitVec.ofInt 64 (a : Int) &&& ~~~(BitVec.ofInt 64 m)).toNat = r at *
    rw [IntKind.wrap_i64]
    omega
--PLAINEND
end Go.Proofs.Ytklamhnecncenaa.QgMath
