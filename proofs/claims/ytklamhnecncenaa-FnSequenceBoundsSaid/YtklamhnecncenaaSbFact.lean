/- Bounds from degree sequences: the bounds bound. Plain. -/
import Derived.Test.YtklamhnecncenaaSbMath
namespace Go.Proofs.Ytklamhnecncenaa.SbFact
open Go Go.RowKit Byt Ints IntsLaw Cd Rows2 Tab TabSpec TabImp Loc DegMath SbMath

/-! ### Abel's sum -/
theorem abel : ∀ (D a x : List Int) (e M : Int), 0 ≤ e → 0 ≤ M → (∀ y ∈ D, 0 ≤ y ∧ y ≤ M) → Desc D → (∀ k, (a.take k).sum ≤ e + (x.take k).sum) → mulL a D ≤ e * M + mulL x D
  | [], a, x, e, M, he, hM, _, _, _ => by
    rw [mul_nil, mul_nil]
    have := Int.mul_nonneg he hM
    omega
  | d :: D, a, x, e, M, he, hM, hb, hd, h => by
    have h1 := h (0 + 1)
    rw [sum_step, sum_step, List.take_zero, List.take_zero, List.sum_nil] at h1
    obtain ⟨hd1, hd2⟩ := List.pairwise_cons.1 hd
    obtain ⟨d0, dM⟩ := hb d List.mem_cons_self
    have ih := abel D a.tail x.tail (e + x.headD 0 - a.headD 0) d (by omega) d0 (fun y hy => ⟨(hb y (List.mem_cons_of_mem _ hy)).1, hd1 y hy⟩) hd2 (fun k => by
      have := h (k + 1)
      rw [sum_step, sum_step] at this
      omega)
    rw [mul_step, mul_step]
    have h2 : e * d ≤ e * M := Int.mul_le_mul_of_nonneg_left dM he
    have h3 : (e + x.headD 0 - a.headD 0) * d = e * d + x.headD 0 * d - a.headD 0 * d := by grind
    omega
theorem abel_seq {a x D : List Int} (hD : SeqP D) (h : ∀ k, (a.take k).sum ≤ (x.take k).sum) : mulL a D ≤ mulL x D := by
  have := abel D a x 0 8 (by omega) (by omega) (fun y hy => by have := pos8 hD hy; omega) hD.2.2 (fun k => by have := h k; omega)
  omega
theorem dom_take {x a : List Int} (h : domL x a = true) (k : Nat) : (a.take k).sum ≤ (x.take k).sum := by
  unfold domL at h
  rw [Bool.and_eq_true, Bool.and_eq_true] at h
  obtain ⟨⟨hx, ha⟩, hk⟩ := h
  have hk := of_decide_eq_true hk
  unfold topL at hk
  simp only [if_pos hx, if_pos ha] at hk
  by_cases h9 : k < 9
  · have := hk k h9
    rwa [Int.toNat_natCast] at this
  · have h8 := hk 8 (by omega)
    have e1 : ((8 : Nat) : Int).toNat = 8 := rfl
    rw [e1] at h8
    have lx := seq_len (of_decide_eq_true hx)
    have la := seq_len (of_decide_eq_true ha)
    rw [List.take_of_length_le (by omega), List.take_of_length_le (show x.length ≤ k by omega)]
    rw [List.take_of_length_le (by omega), List.take_of_length_le (show x.length ≤ 8 by omega)] at h8
    exact h8
theorem pair_dom {x a : List Int} (b : List Int) (h : domL x a = true) : pairL a b ≤ pairL x b := by
  have hq := h
  unfold domL at hq
  rw [Bool.and_eq_true, Bool.and_eq_true] at hq
  cases hb : seqOk b
  · rw [pair_no2 hb, pair_no2 hb]; exact Int.le_refl _
  rw [pair_yes hq.1.2 hb, pair_yes hq.1.1 hb]
  exact abel_seq (of_decide_eq_true hb) (dom_take h)

/-! ### the squares -/
theorem sq_nonneg (x : Int) : 0 ≤ x * x := by
  rcases Int.le_total 0 x with h | h
  · exact Int.mul_nonneg h h
  · exact Int.mul_nonneg_of_nonpos_of_nonpos h h
theorem sq_le {u v : Int} (hu : 0 ≤ u) (h : v * v ≤ u * u) : v ≤ u := by
  by_cases h1 : v ≤ u
  · exact h1
  · have h2 : (u + 1) * (u + 1) ≤ v * v := Int.mul_le_mul (by omega) (by omega) (by omega) (by omega)
    have h3 : (u + 1) * (u + 1) = u * u + 2 * u + 1 := by grind
    omega
theorem cs_step {n A B x y : Int} (hA : 0 ≤ A) (hB : 0 ≤ B) (h : n * n ≤ A * B) : (x * y + n) * (x * y + n) ≤ (x * x + A) * (y * y + B) := by
  have k : 2 * (n * (x * y)) ≤ A * (y * y) + B * (x * x) := by
    have n1 := Int.mul_nonneg hA (sq_nonneg y)
    have n2 := Int.mul_nonneg hB (sq_nonneg x)
    refine sq_le (by omega) ?_
    have e1 : (2 * (n * (x * y))) * (2 * (n * (x * y))) = 4 * ((n * n) * ((x * y) * (x * y))) := by grind
    have e2 : (A * (y * y) + B * (x * x)) * (A * (y * y) + B * (x * x)) = 4 * ((A * B) * ((x * y) * (x * y))) + (A * (y * y) - B * (x * x)) * (A * (y * y) - B * (x * x)) := by grind
    have e3 : (n * n) * ((x * y) * (x * y)) ≤ (A * B) * ((x * y) * (x * y)) := Int.mul_le_mul_of_nonneg_right h (sq_nonneg _)
    have e4 := sq_nonneg (A * (y * y) - B * (x * x))
    rw [e1, e2]
    generalize (n * n) * ((x * y) * (x * y)) = p at *
    generalize (A * B) * ((x * y) * (x * y)) = q at *
    generalize (A * (y * y) - B * (x * x)) * (A * (y * y) - B * (x * x)) = s at *
    omega
  have e : (x * y + n) * (x * y + n) = n * n + 2 * (n * (x * y)) + (x * y) * (x * y) := by grind
  have e' : (x * x + A) * (y * y + B) = A * B + (A * (y * y) + B * (x * x)) + (x * y) * (x * y) := by grind
  rw [e, e']
  omega
theorem powS_sq (x : Int) (l : List Int) : powS (x :: l) 2 = x * x + powS l 2 := by
  unfold powS
  rw [List.map_cons, List.sum_cons]
  simp [powI]
theorem powS_nn : ∀ l : List Int, 0 ≤ powS l 2
  | [] => Int.le_refl _
  | x :: l => by rw [powS_sq]; have := powS_nn l; have := sq_nonneg x; omega
theorem cs : ∀ a b : List Int, mulL a b * mulL a b ≤ powS a 2 * powS b 2
  | [], b => by simp [mulL, powS]
  | a :: al, [] => by rw [mul_nil]; simp [powS]
  | a :: al, b :: bs => by
    rw [mulL, powS_sq, powS_sq]
    exact cs_step (powS_nn _) (powS_nn _) (cs al bs)
theorem root_ge {n : Int} {k x : Nat} (h : powI (x : Int) (k + 1) ≤ n) : x ≤ rootN n (k + 1) := by
  have hx : (x : Int) ≤ n := Int.le_trans (pow_ge (by omega) k) h
  have e : (List.range n.toNat).countP (fun i => decide (i < x)) ≤ rootN n (k + 1) :=
    List.countP_mono_left fun i _ q => decide_eq_true (Int.le_trans (pow_mono (by omega) (by have := of_decide_eq_true q; omega) _) h)
  rw [count_below] at e
  omega
theorem pair_cau (a b : List Int) : pairL a b ≤ cauL a b := by
  cases ha : seqOk a
  · rw [pair_no1 ha, cau_no1 ha]; exact Int.le_refl _
  cases hb : seqOk b
  · rw [pair_no2 hb, cau_no2 hb]; exact Int.le_refl _
  have hp := pair_bd a b
  have hm := norm2_mul a b
  rw [← cau_root]
  have e1 := norm_yes (p := 2) ha (by omega)
  have e2 := norm_yes (p := 2) hb (by omega)
  rw [show ((2 : Nat) : Int) = 2 from rfl] at e1 e2
  rw [pair_yes ha hb] at hp ⊢
  obtain ⟨x, hx⟩ := Int.eq_ofNat_of_zero_le hp.1
  have h := cs a b
  rw [← e1, ← e2, hx] at h
  rw [hx]
  show (x : Int) ≤ rootI (normL a 2 * normL b 2) ((2 : Nat) : Int)
  rw [root_yes (by omega)]
  have := root_ge (n := normL a 2 * normL b 2) (k := 1) (x := x) (by simpa [powI] using h)
  exact Int.ofNat_le.2 this

/-! ### the greatest degree -/
theorem mul_max : ∀ {a b : List Int} {M : Int}, (∀ x ∈ a, 0 ≤ x) → (∀ y ∈ b, y ≤ M) → 0 ≤ M → mulL a b ≤ a.sum * M
  | [], b, M, _, _, _ => by simp [mulL]
  | a :: al, [], M, h, _, hM => by
    rw [mul_nil]
    refine Int.mul_nonneg ?_ hM
    have : ∀ l : List Int, (∀ x ∈ l, 0 ≤ x) → 0 ≤ l.sum := fun l => by
      induction l with
      | nil => intro _; exact Int.le_refl _
      | cons x l ih => intro q; rw [List.sum_cons]; have := q x List.mem_cons_self; have := ih fun y hy => q y (List.mem_cons_of_mem _ hy); omega
    exact this _ h
  | a :: al, b :: bs, M, h, hb, hM => by
    have ih := mul_max (a := al) (b := bs) (M := M) (fun x q => h x (List.mem_cons_of_mem _ q)) (fun y q => hb y (List.mem_cons_of_mem _ q)) hM
    have h1 : a * b ≤ a * M := Int.mul_le_mul_of_nonneg_left (hb b List.mem_cons_self) (h a List.mem_cons_self)
    rw [mulL, List.sum_cons, Int.add_mul]
    omega
theorem mul_comm : ∀ a b : List Int, mulL a b = mulL b a
  | [], b => by rw [mul_nil]; rfl
  | a :: al, [] => by rw [mul_nil]; rfl
  | a :: al, b :: bs => by rw [mulL, mulL, mul_comm al bs, Int.mul_comm]
theorem pair_mxd (a b : List Int) : pairL a b ≤ mxdL a b := by
  have hz : 0 ≤ mxdL a b := by
    have := mxd_bd a b
    unfold mxdL
    omega
  cases ha : seqOk a
  · rw [pair_no1 ha]; exact hz
  cases hb : seqOk b
  · rw [pair_no2 hb]; exact hz
  rw [pair_yes ha hb]
  unfold mxdL
  rw [top_one ha, top_one hb]
  have hA : SeqP a := of_decide_eq_true ha
  have hB : SeqP b := of_decide_eq_true hb
  have p1 : ∀ l : List Int, SeqP l → ∀ x ∈ l, 0 ≤ x := fun l hl x hx => by have := hl.1 x hx; omega
  have p2 : ∀ l : List Int, SeqP l → 0 ≤ l.headD 0 := fun l hl => by
    cases l with
    | nil => exact Int.le_refl _
    | cons x l => have := hl.1 x List.mem_cons_self; simp; omega
  have t1 : totL a = a.sum := by unfold totL; rw [if_pos ha]
  have t2 : totL b = b.sum := by unfold totL; rw [if_pos hb]
  rw [t1, t2]
  have m1 := mul_max (p1 a hA) (fun y hy => desc_head hB.2.2 hy) (p2 b hB)
  have m2 := mul_max (p1 b hB) (fun y hy => desc_head hA.2.2 hy) (p2 a hA)
  rw [mul_comm b a] at m2
  omega

/-! ### the sequence with a total and a greatest degree -/
def sfnGood : Bool := (List.range 9).all fun t => (List.range 9).all fun g => g == 0 || (seqOk (sfnN t g) && (List.range 9).all fun k => decide (((sfnN t g).take k).sum = ((min (k * g) t : Nat) : Int)))
theorem sfn_good : sfnGood = true := by decide +kernel
theorem sfn_top {t g k : Nat} (ht : t < 9) (hg : g < 9) (h1 : 1 ≤ g) (hk : k < 9) : seqOk (sfnN t g) = true ∧ ((sfnN t g).take k).sum = ((min (k * g) t : Nat) : Int) := by
  have h := sfn_good
  unfold sfnGood at h
  rw [List.all_eq_true] at h
  have h := h t (List.mem_range.2 ht)
  rw [List.all_eq_true] at h
  have h := h g (List.mem_range.2 hg)
  rw [Bool.or_eq_true, Bool.and_eq_true, List.all_eq_true] at h
  rcases h with h | h
  · have : g = 0 := by simpa using h
    omega
  · exact ⟨h.1, of_decide_eq_true (h.2 k (List.mem_range.2 hk))⟩
theorem take_max : ∀ {l : List Int} {M : Int} (k : Nat), (∀ x ∈ l, x ≤ M) → 0 ≤ M → (l.take k).sum ≤ (k : Int) * M
  | l, M, 0, _, _ => by simp
  | [], M, k + 1, _, hM => by
    simp
    exact Int.mul_nonneg (by omega) hM
  | x :: l, M, k + 1, h, hM => by
    have ih := take_max (l := l) (M := M) k (fun y q => h y (List.mem_cons_of_mem _ q)) hM
    have hx := h x List.mem_cons_self
    rw [List.take_succ_cons, List.sum_cons, Int.natCast_add, Int.add_mul]
    omega
theorem from_dom {a : List Int} (h : seqOk a = true) (h0 : 0 < a.length) : domL (sfnL (totL a) a[0]) a = true := by
  have hA : SeqP a := of_decide_eq_true h
  obtain ⟨g1, g2⟩ := pos8 hA (List.getElem_mem h0)
  have hs := sum_pos hA.1
  have hs8 := hA.2.1
  have hmx : ∀ x ∈ a, x ≤ a[0] := fun x hx => by
    have := desc_head hA.2.2 hx
    cases a with
    | nil => cases hx
    | cons y l => exact this
  have t1 : totL a = a.sum := by unfold totL; rw [if_pos h]
  rw [t1]
  generalize hG : a[0] = G at *
  obtain ⟨t, ht⟩ := Int.eq_ofNat_of_zero_le (show 0 ≤ a.sum by omega)
  obtain ⟨g, rfl⟩ := Int.eq_ofNat_of_zero_le (show 0 ≤ G by omega)
  rw [ht, sfn_yes (by omega)]
  refine dom_yes (sfn_top (k := 0) (t := t) (g := g) (by omega) (by omega) (by omega) (by omega)).1 h fun k hk => ?_
  obtain ⟨q1, q2⟩ := sfn_top (t := t) (g := g) (k := k) (by omega) (by omega) (by omega) hk
  unfold topL
  rw [if_pos h, if_pos q1, Int.toNat_natCast, q2]
  have h1 := take_max k hmx (by omega)
  have h2 := sum_take hA.1 k
  rw [← Int.natCast_mul] at h1
  omega
theorem norm_one (a : List Int) : normL a 1 = totL a := by
  cases h : seqOk a
  · rw [norm_no 1 h, tot_no h]
  have := norm_yes (p := 1) h (by omega)
  rw [show ((1 : Nat) : Int) = 1 from rfl] at this
  rw [this]
  unfold totL powS
  rw [if_pos h]
  congr 1
  conv => rhs; rw [← List.map_id a]
  exact List.map_congr_left fun x _ => by simp [powI]

/-! ### the join -/
def jnL (X Y : List (List Int)) : Int := (X.map fun x => cntI Y x).sum
theorem mul_zero : ∀ {a b : List Int}, (∀ x ∈ a, x = 0) → mulL a b = 0
  | [], _, _ => rfl
  | a :: al, [], _ => mul_nil _
  | a :: al, b :: bs, h => by
    rw [mulL, h a List.mem_cons_self, mul_zero fun x q => h x (List.mem_cons_of_mem _ q)]
    simp
theorem single (x : List Int) (c : List Int → Int) : ∀ {V : List (List Int)}, V.Nodup → (V.map fun v => if x = v then c v else 0).sum = if x ∈ V then c x else 0
  | [], _ => by simp
  | v :: V, h => by
    obtain ⟨h1, h2⟩ := List.nodup_cons.1 h
    rw [List.map_cons, List.sum_cons, single x c h2]
    by_cases e : x = v
    · subst e
      simp [h1]
    · simp [e]
theorem mul_more (x : List Int) (X : List (List Int)) (c : List Int → Int) : ∀ V : List (List Int), mulL (V.map (cntI (x :: X))) (V.map c) = mulL (V.map (cntI X)) (V.map c) + (V.map fun v => if x = v then c v else 0).sum
  | [] => rfl
  | v :: V => by
    rw [List.map_cons, List.map_cons, List.map_cons, List.map_cons, mulL, mulL, List.sum_cons, mul_more x X c V]
    have e : cntI (x :: X) v = cntI X v + if x = v then 1 else 0 := by
      unfold cntI cnt
      rw [List.count_cons]
      by_cases h : x = v
      · simp [h]
      · simp [h]
    rw [e, Int.add_mul]
    by_cases h : x = v
    · simp only [if_pos h]
      omega
    · simp only [if_neg h]
      omega
theorem group {Y V : List (List Int)} (hn : V.Nodup) (hV : ∀ y ∈ Y, y ∈ V) : ∀ X : List (List Int), jnL X Y = mulL (V.map (cntI X)) (V.map (cntI Y))
  | [] => by
    rw [mul_zero]
    · rfl
    · intro x hx
      obtain ⟨v, _, rfl⟩ := List.mem_map.1 hx
      rfl
  | x :: X => by
    rw [mul_more, ← group hn hV X, single x (cntI Y) hn]
    unfold jnL
    rw [List.map_cons, List.sum_cons]
    by_cases h : x ∈ V
    · rw [if_pos h]; omega
    · rw [if_neg h]
      have : cntI Y x = 0 := by
        unfold cntI cnt
        rw [List.count_eq_zero.2 fun q => h (hV x q)]
        rfl
      omega
theorem sum_nn {f : List Int → Int} (hf : ∀ v, 0 ≤ f v) : ∀ l : List (List Int), 0 ≤ (l.map f).sum
  | [] => Int.le_refl _
  | x :: l => by rw [List.map_cons, List.sum_cons]; have := hf x; have := sum_nn hf l; omega
theorem top_sum {f : List Int → Int} (hf : ∀ v, 0 ≤ f v) : ∀ (W vs : List (List Int)) (k : Nat), vs.Nodup → (W.Pairwise fun a b => f b ≤ f a) → (∀ v ∈ vs, f v ≠ 0 → v ∈ W) → vs.length ≤ k → (vs.map f).sum ≤ ((W.take k).map f).sum
  | [], vs, k, _, _, h, _ => by
    have : ∀ l : List (List Int), (∀ v ∈ l, f v = 0) → (l.map f).sum = 0 := fun l => by
      induction l with
      | nil => intro _; rfl
      | cons x l ih => intro q; rw [List.map_cons, List.sum_cons, q x List.mem_cons_self, ih fun v hv => q v (List.mem_cons_of_mem _ hv)]; rfl
    rw [this vs fun v hv => by
      by_cases e : f v = 0
      · exact e
      · cases h v hv e]
    exact sum_nn hf _
  | w :: W, vs, k, hn, hw, h, hl => by
    obtain ⟨w1, w2⟩ := List.pairwise_cons.1 hw
    by_cases hm : w ∈ vs
    · have hp := List.perm_cons_erase hm
      have hpos : 0 < vs.length := List.length_pos_of_mem hm
      obtain ⟨j, rfl⟩ : ∃ j, k = j + 1 := ⟨k - 1, by omega⟩
      have hn2 := hp.nodup_iff.1 hn
      obtain ⟨n1, n2⟩ := List.nodup_cons.1 hn2
      have ih := top_sum hf W (vs.erase w) j n2 w2 (fun v hv hz => by
        rcases List.mem_cons.1 (h v (List.mem_of_mem_erase hv) hz) with q | q
        · subst q; exact absurd hv n1
        · exact q) (by rw [List.length_erase_of_mem hm]; omega)
      rw [perm_sum (hp.map f), List.map_cons, List.sum_cons, List.take_succ_cons, List.map_cons, List.sum_cons]
      omega
    · cases vs with
      | nil => exact sum_nn hf _
      | cons v vs =>
        obtain ⟨j, rfl⟩ : ∃ j, k = j + 1 := ⟨k - 1, by simp only [List.length_cons] at hl; omega⟩
        have ih := top_sum hf W (v :: vs) (j + 1) hn w2 (fun u hu hz => by
          rcases List.mem_cons.1 (h u hu hz) with q | q
          · subst q; exact absurd hu hm
          · exact q) hl
        have hx : ((W.take (j + 1)).map f).sum ≤ f w + ((W.take j).map f).sum := by
          by_cases hj : j < W.length
          · rw [List.take_succ_eq_append_getElem hj, List.map_append, List.sum_append]
            have := w1 _ (List.getElem_mem hj)
            simp
            omega
          · rw [List.take_of_length_le (by omega), List.take_of_length_le (show W.length ≤ j by omega)]
            have := hf w
            omega
        have he : (((w :: W).take (j + 1)).map f).sum = f w + ((W.take j).map f).sum := by rw [List.take_succ_cons, List.map_cons, List.sum_cons]
        rw [he]
        omega
def srt (c : List Int → Int) (V : List (List Int)) : List (List Int) := V.mergeSort fun a b => decide (c b ≤ c a)
theorem srt_perm (c : List Int → Int) (V : List (List Int)) : (srt c V).Perm V := List.mergeSort_perm _ _
theorem srt_desc (c : List Int → Int) (V : List (List Int)) : (srt c V).Pairwise fun a b => c b ≤ c a :=
  (List.pairwise_mergeSort (le := fun a b => decide (c b ≤ c a)) (fun a b d h1 h2 => decide_eq_true (by have := of_decide_eq_true h1; have := of_decide_eq_true h2; omega)) (fun a b => by
    rcases Int.le_total (c b) (c a) with h | h
    · rw [decide_eq_true h]; rfl
    · rw [decide_eq_true h, Bool.or_true]) V).imp fun h => of_decide_eq_true h
theorem srt_down (c : List Int → Int) (V : List (List Int)) : (srt c V).map c = downL (V.map c) :=
  down_one ((srt_perm c V).map c) (by unfold Desc; rw [List.pairwise_map]; exact srt_desc c V)
theorem cntI_nn (X : List (List Int)) (v : List Int) : 0 ≤ cntI X v := by unfold cntI; omega
theorem jn_le (X Y : List (List Int)) (hY : SeqP (downL ((valL Y).map (cntI Y)))) : jnL X Y ≤ mulL (downL ((valL X).map (cntI X))) (downL ((valL Y).map (cntI Y))) := by
  have hn : (srt (cntI Y) (valL Y)).Nodup := (srt_perm _ _).nodup_iff.2 (asc_nodup (valL_asc Y))
  rw [group hn (fun y hy => (srt_perm _ _).mem_iff.2 (valL_mem.2 hy)) X, srt_down]
  refine abel_seq hY fun k => ?_
  rw [← srt_down (cntI X), ← List.map_take, ← List.map_take]
  refine top_sum (cntI_nn X) _ _ k (hn.sublist (List.take_sublist _ _)) (srt_desc _ _) (fun v _ hz => ?_) (by rw [List.length_take]; omega)
  refine (srt_perm _ _).mem_iff.2 (valL_mem.2 ?_)
  have : 0 < cnt X v := by
    unfold cntI at hz
    omega
  exact List.count_pos_iff.1 this
theorem join_le {n1 n2 : ByteArray} {a1 a2 : Int} {r1 r2 : List (List Int)} (h1 : gcOk n1 a1 r1 [0] = true) (h2 : gcOk n2 a2 r2 [0] = true) : jnL (xsT r1 [0]) (xsT r2 [0]) ≤ pairL (degL n1 a1 r1 [0]) (degL n2 a2 r2 [0]) := by
  rw [pair_yes (deg_seq ..) (deg_seq ..)]
  have hs := deg_seq n2 a2 r2 [0]
  unfold degL gcN at hs ⊢
  rw [if_pos h2] at hs
  rw [if_pos h1, if_pos h2]
  exact jn_le _ _ (of_decide_eq_true hs)
theorem gc_zero {nm : ByteArray} {ar : Int} {rows : List (List Int)} (h : TabP nm ar rows) (ha : 1 ≤ ar) : gcOk nm ar rows [0] = true := by
  unfold gcOk
  rw [show tabOk nm ar rows = true from decide_eq_true h, Bool.true_and]
  exact decide_eq_true ⟨fun x hx => by rw [List.mem_singleton.1 hx]; omega, List.pairwise_singleton _ _⟩
theorem jn_next {X Y : List (List Int)} {k : Nat} (h : k < X.length) : jnL (X.take (k + 1)) Y = jnL (X.take k) Y + cntI Y X[k] := by
  unfold jnL
  rw [List.take_succ_eq_append_getElem h, List.map_append, List.sum_append]
  simp
theorem jn_bd (X Y : List (List Int)) (k : Nat) : 0 ≤ jnL (X.take k) Y ∧ jnL (X.take k) Y ≤ (X.length : Int) * (Y.length : Int) := by
  have : ∀ l : List (List Int), 0 ≤ jnL l Y ∧ jnL l Y ≤ (l.length : Int) * (Y.length : Int) := fun l => by
    induction l with
    | nil => exact ⟨Int.le_refl _, by simp [jnL]⟩
    | cons x l ih =>
      unfold jnL at ih ⊢
      rw [List.map_cons, List.sum_cons, List.length_cons, Int.natCast_add, Int.add_mul]
      have h1 := cntI_nn Y x
      have h2 := cnt_le Y x
      unfold cntI at *
      omega
  obtain ⟨h1, h2⟩ := this (X.take k)
  refine ⟨h1, Int.le_trans h2 (Int.mul_le_mul_of_nonneg_right (by rw [List.length_take]; omega) (by omega))⟩
theorem xsT_eq {r s : List Int} : (selR r [0] = selR s [0]) ↔ r.getD 0 0 = s.getD 0 0 := by
  unfold selR
  simp
end Go.Proofs.Ytklamhnecncenaa.SbFact
