/- Bounds from degree sequences: what they are worth. Plain. -/
import Derived.Test.YtklamhnecncenaaDegMath
namespace Go.Proofs.Ytklamhnecncenaa.SbMath
open Go Go.RowKit Byt Ints IntsLaw Cd Rows2 Tab TabSpec TabImp Loc DegMath

/-! ### sums of products -/
def mulL : List Int → List Int → Int
  | x :: xs, y :: ys => x * y + mulL xs ys
  | _, _ => 0
def pairL (a b : List Int) : Int := if seqOk a && seqOk b then mulL a b else 0
theorem mul_nil (a : List Int) : mulL a [] = 0 := by cases a <;> rfl
theorem mul_app : ∀ {a b : List Int} (x y : Int), a.length = b.length → mulL (a ++ [x]) (b ++ [y]) = mulL a b + x * y
  | [], [], x, y, _ => by simp [mulL]
  | a :: al, b :: bs, x, y, h => by
    have ih := mul_app (a := al) (b := bs) x y (by simpa using h)
    rw [List.cons_append, List.cons_append, mulL, mulL, ih]
    omega
  | [], _ :: _, _, _, h => by simp at h
  | _ :: _, [], _, _, h => by simp at h
theorem mul_next {a b : List Int} {k : Nat} (ha : k < a.length) (hb : k < b.length) : mulL (a.take (k + 1)) (b.take (k + 1)) = mulL (a.take k) (b.take k) + a[k] * b[k] := by
  rw [List.take_succ_eq_append_getElem ha, List.take_succ_eq_append_getElem hb, mul_app _ _ (by rw [List.length_take, List.length_take]; omega)]
theorem mul_take : ∀ {a b : List Int} {k : Nat}, a.length ≤ k ∨ b.length ≤ k → mulL (a.take k) (b.take k) = mulL a b
  | [], b, k, _ => by rw [List.take_nil]; rfl
  | a :: al, [], k, _ => by rw [List.take_nil, mul_nil, mul_nil]
  | a :: al, b :: bs, 0, h => by simp at h
  | a :: al, b :: bs, k + 1, h => by
    rw [List.take_succ_cons, List.take_succ_cons, mulL, mulL, mul_take (by simpa using h)]
theorem mul_step (a : List Int) (y : Int) (ys : List Int) : mulL a (y :: ys) = a.headD 0 * y + mulL a.tail ys := by
  cases a <;> simp [mulL]
theorem sum_step (a : List Int) (k : Nat) : (a.take (k + 1)).sum = a.headD 0 + (a.tail.take k).sum := by
  cases a <;> simp

theorem pos8 {l : List Int} (h : SeqP l) {x : Int} (hx : x ∈ l) : 1 ≤ x ∧ x ≤ 8 := by
  refine ⟨h.1 x hx, ?_⟩
  obtain ⟨i, hi, rfl⟩ := List.getElem_of_mem hx
  have h1 := sum_next hi
  have h2 := sum_take h.1 (i + 1)
  have h3 := sum_pos (fun y hy => h.1 y (List.mem_of_mem_take (i := i) hy))
  have h4 := h.2.1
  omega
theorem mul_bd : ∀ {a b : List Int}, (∀ x ∈ a, 1 ≤ x ∧ x ≤ 8) → (∀ x ∈ b, 1 ≤ x ∧ x ≤ 8) → 0 ≤ mulL a b ∧ mulL a b ≤ 64 * (a.length : Int)
  | [], b, _, _ => by simp [mulL]
  | a :: al, [], _, _ => by rw [mul_nil]; simp only [List.length_cons]; omega
  | a :: al, b :: bs, ha, hb => by
    obtain ⟨i1, i2⟩ := mul_bd (a := al) (b := bs) (fun x q => ha x (List.mem_cons_of_mem _ q)) (fun x q => hb x (List.mem_cons_of_mem _ q))
    obtain ⟨a1, a2⟩ := ha a List.mem_cons_self
    obtain ⟨b1, b2⟩ := hb b List.mem_cons_self
    have m1 : 0 ≤ a * b := Int.mul_nonneg (by omega) (by omega)
    have m2 : a * b ≤ 8 * 8 := Int.mul_le_mul a2 b2 (by omega) (by omega)
    rw [mulL]
    simp only [List.length_cons]
    omega
theorem mul_bd8 {a b : List Int} (ha : SeqP a) (hb : SeqP b) (k : Nat) : 0 ≤ mulL (a.take k) (b.take k) ∧ mulL (a.take k) (b.take k) ≤ 512 := by
  obtain ⟨h1, h2⟩ := mul_bd (fun x => pos8 (seq_take ha k)) (fun x => pos8 (seq_take hb k))
  have h3 := seq_len (seq_take ha k)
  omega
theorem pair_bd (a b : List Int) : 0 ≤ pairL a b ∧ pairL a b ≤ 512 := by
  unfold pairL
  split
  · rename_i h
    rw [Bool.and_eq_true] at h
    have := mul_bd8 (of_decide_eq_true h.1) (of_decide_eq_true h.2) (a.length + b.length)
    rwa [mul_take (by omega)] at this
  · omega

/-! ### powers -/
def powI (x : Int) : Nat → Int
  | 0 => 1
  | k + 1 => powI x k * x
def powS (l : List Int) (p : Nat) : Int := (l.map fun x => powI x p).sum
def normOk (l : List Int) (p : Int) : Bool := seqOk l && decide (1 ≤ p ∧ p ≤ 3)
def normL (l : List Int) (p : Int) : Int := if normOk l p then powS l p.toNat else 0
theorem pow_nonneg {x : Int} (h : 0 ≤ x) : ∀ k, 0 ≤ powI x k
  | 0 => by simp [powI]
  | k + 1 => Int.mul_nonneg (pow_nonneg h k) h
theorem pow_pos {x : Int} (h : 1 ≤ x) : ∀ k, 1 ≤ powI x k
  | 0 => by simp [powI]
  | k + 1 => by
    have h1 := pow_pos h k
    have h2 : 1 * 1 ≤ powI x k * x := Int.mul_le_mul h1 h (by omega) (by omega)
    rw [powI]
    omega
theorem pow_ge {x : Int} (h : 0 ≤ x) (k : Nat) : x ≤ powI x (k + 1) := by
  rw [powI]
  by_cases h0 : x = 0
  · subst h0; simp
  · have h1 := pow_pos (show 1 ≤ x by omega) k
    have h2 : 1 * x ≤ powI x k * x := Int.mul_le_mul_of_nonneg_right h1 h
    omega
theorem pow_mono {x y : Int} (h : 0 ≤ x) (hy : x ≤ y) : ∀ k, powI x k ≤ powI y k
  | 0 => Int.le_refl _
  | k + 1 => Int.mul_le_mul (pow_mono h hy k) hy h (pow_nonneg (by omega) k)
theorem pow_bd {x m : Int} (h : 0 ≤ x) (hm : x ≤ m) (k : Nat) : 0 ≤ powI x k ∧ powI x k ≤ powI m k := ⟨pow_nonneg h k, pow_mono h hm k⟩
theorem powS_next {l : List Int} {k : Nat} (p : Nat) (h : k < l.length) : powS (l.take (k + 1)) p = powS (l.take k) p + powI l[k] p := by
  unfold powS
  rw [List.take_succ_eq_append_getElem h, List.map_append, List.sum_append]
  simp
theorem powS_nil (p : Nat) : powS [] p = 0 := rfl
theorem powS_bd {l : List Int} {p : Nat} (hp : p ≤ 3) : (∀ x ∈ l, 1 ≤ x ∧ x ≤ 8) → 0 ≤ powS l p ∧ powS l p ≤ 512 * (l.length : Int) := by
  have h8 : powI 8 p ≤ 512 := by
    obtain h | h | h | h : p = 0 ∨ p = 1 ∨ p = 2 ∨ p = 3 := by omega
    all_goals subst h; decide
  induction l with
  | nil => intro _; simp [powS]
  | cons a al ih =>
    intro h
    obtain ⟨i1, i2⟩ := ih fun x q => h x (List.mem_cons_of_mem _ q)
    obtain ⟨a1, a2⟩ := h a List.mem_cons_self
    obtain ⟨p1, p2⟩ := pow_bd (show 0 ≤ a by omega) a2 p
    have e : powS (a :: al) p = powI a p + powS al p := by unfold powS; rw [List.map_cons, List.sum_cons]
    rw [e]
    simp only [List.length_cons]
    omega
theorem powS_bd8 {l : List Int} {p : Nat} (hp : p ≤ 3) (h : SeqP l) (k : Nat) : 0 ≤ powS (l.take k) p ∧ powS (l.take k) p ≤ 4096 := by
  obtain ⟨h1, h2⟩ := powS_bd hp (fun x => pos8 (seq_take h k))
  have h3 := seq_len (seq_take h k)
  omega
/-- The squares of a sequence: their sum is 64 at most. -/
theorem sq_bd : ∀ {l : List Int}, (∀ x ∈ l, 1 ≤ x ∧ x ≤ 8) → powS l 2 ≤ 8 * l.sum
  | [], _ => by simp [powS]
  | a :: al, h => by
    have ih := sq_bd (l := al) fun x q => h x (List.mem_cons_of_mem _ q)
    obtain ⟨a1, a2⟩ := h a List.mem_cons_self
    have h1 : a * a ≤ 8 * a := Int.mul_le_mul_of_nonneg_right a2 (by omega)
    have e : powS (a :: al) 2 = a * a + powS al 2 := by unfold powS; rw [List.map_cons, List.sum_cons]; simp [powI]
    rw [e, List.sum_cons]
    omega
theorem norm_bd (l : List Int) (p : Int) : 0 ≤ normL l p ∧ normL l p ≤ 4096 := by
  unfold normL normOk
  split
  · rename_i h
    rw [Bool.and_eq_true] at h
    have hp := of_decide_eq_true h.2
    have := powS_bd8 (p := p.toNat) (by omega) (of_decide_eq_true h.1) l.length
    rwa [List.take_length] at this
  · omega
theorem norm2_bd (l : List Int) : 0 ≤ normL l 2 ∧ normL l 2 ≤ 64 := by
  refine ⟨(norm_bd l 2).1, ?_⟩
  unfold normL normOk
  split
  · rename_i h
    rw [Bool.and_eq_true] at h
    have hs : SeqP l := of_decide_eq_true h.1
    have h1 := sq_bd (fun x => pos8 hs)
    have h2 := hs.2.1
    show powS l 2 ≤ 64
    omega
  · omega
theorem norm2_mul (a b : List Int) : 0 ≤ normL a 2 * normL b 2 ∧ normL a 2 * normL b 2 ≤ 4096 := by
  obtain ⟨h1, h2⟩ := norm2_bd a
  obtain ⟨h3, h4⟩ := norm2_bd b
  exact ⟨Int.mul_nonneg h1 h3, (show normL a 2 * normL b 2 ≤ 64 * 64 from Int.mul_le_mul h2 h4 h3 (by omega))⟩

/-! ### roots -/
def rootOk (n k : Int) : Bool := decide (0 ≤ n ∧ n ≤ 1000000 ∧ 1 ≤ k ∧ k ≤ 3)
def fits (n : Int) (k : Nat) (i : Nat) : Bool := decide (powI ((i : Int) + 1) k ≤ n)
def rootN (n : Int) (k : Nat) : Nat := (List.range n.toNat).countP (fits n k)
def rootI (n k : Int) : Int := if rootOk n k then (rootN n k.toNat : Int) else -1
theorem count_below (r : Nat) : ∀ m, (List.range m).countP (fun i => decide (i < r)) = min r m
  | 0 => by simp
  | m + 1 => by
    rw [List.range_succ, List.countP_append, count_below r m]
    by_cases h : m < r
    · simp [h]; omega
    · simp [h]; omega
theorem fits_mono {n : Int} {k i j : Nat} (hij : i ≤ j) (h : fits n k j = true) : fits n k i = true :=
  decide_eq_true (Int.le_trans (pow_mono (by omega) (by omega) k) (of_decide_eq_true h))
theorem root_of {n : Int} {k r : Nat} (h1 : powI (r : Int) (k + 1) ≤ n) (h2 : n < powI ((r : Int) + 1) (k + 1)) : rootN n (k + 1) = r := by
  have e : ∀ i, fits n (k + 1) i = decide (i < r) := fun i => by
    by_cases h : i < r
    · rw [decide_eq_true h]
      exact decide_eq_true (Int.le_trans (pow_mono (by omega) (by omega) _) h1)
    · rw [decide_eq_false h]
      refine decide_eq_false fun q => ?_
      have := pow_mono (x := (r : Int) + 1) (y := (i : Int) + 1) (by omega) (by omega) (k + 1)
      omega
  have hr : (r : Int) ≤ n := Int.le_trans (pow_ge (by omega) k) h1
  have : fits n (k + 1) = fun i => decide (i < r) := funext e
  unfold rootN
  rw [this, count_below]
  omega
theorem rootN_le (n : Int) (k : Nat) : rootN n k ≤ n.toNat := by
  have := List.countP_le_length (p := fits n k) (l := List.range n.toNat)
  rwa [List.length_range] at this
theorem root_bd (n k : Int) : -1 ≤ rootI n k ∧ rootI n k ≤ 1000000 := by
  unfold rootI rootOk
  split
  · rename_i h
    have := rootN_le n k.toNat
    have := of_decide_eq_true h
    omega
  · omega
theorem root_no {n k : Int} (h : ¬ (0 ≤ n ∧ n ≤ 1000000 ∧ 1 ≤ k ∧ k ≤ 3)) : rootI n k = -1 := by
  unfold rootI rootOk
  rw [decide_eq_false h]
  rfl
theorem root_yes {n : Int} {k : Nat} (h : 0 ≤ n ∧ n ≤ 1000000 ∧ 1 ≤ k ∧ k ≤ 3) : rootI n (k : Int) = (rootN n k : Int) := by
  unfold rootI rootOk
  rw [decide_eq_true (by omega), if_pos rfl, Int.toNat_natCast]
theorem root_is {n : Int} {k r : Nat} (h : 0 ≤ n ∧ n ≤ 1000000 ∧ 1 ≤ k ∧ k ≤ 3) (h1 : powI (r : Int) k ≤ n) (h2 : n < powI ((r : Int) + 1) k) : rootI n (k : Int) = (r : Int) := by
  obtain ⟨k, rfl⟩ : ∃ j, k = j + 1 := ⟨k - 1, by omega⟩
  rw [root_yes h, root_of h1 h2]
theorem root_one {n : Int} (h : 0 ≤ n ∧ n ≤ 1000000) : rootI n 1 = n := by
  obtain ⟨r, rfl⟩ := Int.eq_ofNat_of_zero_le h.1
  exact root_is (k := 1) (r := r) (by omega) (by simp [powI]) (by simp [powI]; omega)

def cauL (a b : List Int) : Int := if seqOk a && seqOk b then rootI (normL a 2 * normL b 2) 2 else 0
theorem root_zero : rootI 0 2 = 0 := root_is (n := 0) (k := 2) (r := 0) (by omega) (by simp [powI]) (by simp [powI])
theorem norm_no {l : List Int} (p : Int) (h : seqOk l = false) : normL l p = 0 := by unfold normL normOk; rw [h]; rfl
theorem norm_nop {l : List Int} {p : Int} (h : ¬ (1 ≤ p ∧ p ≤ 3)) : normL l p = 0 := by unfold normL normOk; rw [decide_eq_false h, Bool.and_false]; rfl
theorem norm_yes {l : List Int} {p : Nat} (h : seqOk l = true) (hp : 1 ≤ p ∧ p ≤ 3) : normL l (p : Int) = powS l p := by
  unfold normL normOk
  rw [h, decide_eq_true (by omega), Bool.and_true, if_pos rfl, Int.toNat_natCast]
theorem pair_no1 {a b : List Int} (h : seqOk a = false) : pairL a b = 0 := by unfold pairL; rw [h]; rfl
theorem pair_no2 {a b : List Int} (h : seqOk b = false) : pairL a b = 0 := by unfold pairL; rw [h, Bool.and_false]; rfl
theorem pair_yes {a b : List Int} (ha : seqOk a = true) (hb : seqOk b = true) : pairL a b = mulL a b := by unfold pairL; rw [ha, hb]; rfl
theorem cau_no1 {a b : List Int} (h : seqOk a = false) : cauL a b = 0 := by unfold cauL; rw [h]; rfl
theorem cau_no2 {a b : List Int} (h : seqOk b = false) : cauL a b = 0 := by unfold cauL; rw [h, Bool.and_false]; rfl
theorem cau_root (a b : List Int) : rootI (normL a 2 * normL b 2) 2 = cauL a b := by
  cases ha : seqOk a
  · rw [cau_no1 ha, norm_no 2 ha, Int.zero_mul, root_zero]
  cases hb : seqOk b
  · rw [cau_no2 hb, norm_no 2 hb, Int.mul_zero, root_zero]
  unfold cauL
  rw [ha, hb]
  rfl

/-! ### the greatest degrees -/
def mxdL (a b : List Int) : Int := min (totL a * topL b 1) (totL b * topL a 1)
theorem top_one {l : List Int} (h : seqOk l = true) : topL l 1 = l.headD 0 := by
  unfold topL
  rw [if_pos h]
  show (l.take 1).sum = _
  cases l <;> simp
theorem tot_bd (l : List Int) : 0 ≤ totL l ∧ totL l ≤ 8 := by rw [tot_top]; exact top_bd l _
theorem mxd_bd (a b : List Int) : (0 ≤ totL a * topL b 1 ∧ totL a * topL b 1 ≤ 64) ∧ 0 ≤ totL b * topL a 1 ∧ totL b * topL a 1 ≤ 64 := by
  obtain ⟨a1, a2⟩ := tot_bd a
  obtain ⟨b1, b2⟩ := tot_bd b
  obtain ⟨c1, c2⟩ := top_bd a 1
  obtain ⟨d1, d2⟩ := top_bd b 1
  exact ⟨⟨Int.mul_nonneg a1 d1, (show _ ≤ (8 : Int) * 8 from Int.mul_le_mul a2 d2 d1 (by omega))⟩, Int.mul_nonneg b1 c1, (show _ ≤ (8 : Int) * 8 from Int.mul_le_mul b2 c2 c1 (by omega))⟩
theorem tot_no {l : List Int} (h : seqOk l = false) : totL l = 0 := by unfold totL; rw [h]; rfl
theorem top_no {l : List Int} (k : Int) (h : seqOk l = false) : topL l k = 0 := by unfold topL; rw [h]; rfl
theorem mxd_no1 {a b : List Int} (h : seqOk a = false ∨ a = []) : mxdL a b = 0 := by
  have h1 : totL a = 0 := by
    rcases h with h | h
    · exact tot_no h
    · subst h; unfold totL; split <;> rfl
  have h2 : topL a 1 = 0 := by
    rcases h with h | h
    · exact top_no 1 h
    · subst h; unfold topL; split <;> rfl
  unfold mxdL
  rw [h1, h2, Int.zero_mul, Int.mul_zero]
  rfl
theorem mxd_no2 {a b : List Int} (h : seqOk b = false ∨ b = []) : mxdL a b = 0 := by
  have h1 : totL b = 0 := by
    rcases h with h | h
    · exact tot_no h
    · subst h; unfold totL; split <;> rfl
  have h2 : topL b 1 = 0 := by
    rcases h with h | h
    · exact top_no 1 h
    · subst h; unfold topL; split <;> rfl
  unfold mxdL
  rw [h1, h2, Int.zero_mul, Int.mul_zero]
  rfl

/-! ### the sequence with a total and a greatest degree -/
def sfnOk (t g : Int) : Bool := decide (0 ≤ t ∧ t ≤ 8 ∧ 1 ≤ g)
def sfnN (t g : Nat) : List Int := List.replicate (t / g) (g : Int) ++ (if t % g = 0 then [] else [((t % g : Nat) : Int)])
def sfnL (t g : Int) : List Int := if sfnOk t g then sfnN t.toNat g.toNat else []
theorem sfn_no {t g : Int} (h : ¬ (0 ≤ t ∧ t ≤ 8 ∧ 1 ≤ g)) : sfnL t g = [] := by
  unfold sfnL sfnOk
  rw [decide_eq_false h]
  rfl
theorem sfn_yes {t g : Nat} (h : t ≤ 8 ∧ 1 ≤ g) : sfnL (t : Int) (g : Int) = sfnN t g := by
  unfold sfnL sfnOk
  rw [decide_eq_true (by omega), if_pos rfl, Int.toNat_natCast, Int.toNat_natCast]
theorem sfn_zero (g : Nat) : sfnN 0 g = [] := by unfold sfnN; simp
theorem sfn_big {t g : Nat} (h : t < g) (h0 : 0 < t) : sfnN t g = [(t : Int)] := by
  unfold sfnN
  rw [Nat.div_eq_of_lt h, Nat.mod_eq_of_lt h, if_neg (by omega)]
  rfl
theorem sfn_step {t g : Nat} (h : g ≤ t) (h1 : 1 ≤ g) : sfnN t g = (g : Int) :: sfnN (t - g) g := by
  unfold sfnN
  rw [Nat.div_eq_sub_div (by omega) h, Nat.mod_eq_sub_mod h, List.replicate_succ, List.cons_append]
theorem sfn_len {t g : Nat} (h : t ≤ 8) : (sfnN t g).length ≤ 9 := by
  unfold sfnN
  rw [List.length_append, List.length_replicate]
  have := Nat.div_le_self t g
  split <;> simp <;> omega
theorem sfn_mem {t g : Nat} (h : t ≤ 8) {x : Int} (hx : x ∈ sfnN t g) : 0 ≤ x ∧ x ≤ 8 := by
  unfold sfnN at hx
  rcases List.mem_append.1 hx with q | q
  · obtain ⟨q1, rfl⟩ := List.mem_replicate.1 q
    have h2 := (Nat.div_pos_iff.1 (Nat.pos_of_ne_zero q1)).2
    omega
  · split at q
    · cases q
    · rw [List.mem_singleton.1 q]
      have := Nat.mod_le t g
      omega
end Go.Proofs.Ytklamhnecncenaa.SbMath
