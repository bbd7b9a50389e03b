/- Rationals read from strings: which strings are formats of valid rationals. Over no program. -/
import Derived.Test.YtkmhfgedbkkihaaDoorRatFmt
import Derived.Lib.AtoiAll
import Derived.Lib.Index
import Derived.Lib.IndexMore
namespace Go.Proofs.YtkmhfgedbkkihaaDoor.RatSplit
open Go Go.RowKit Byt Ratio RatGcd RatMake RatOps RatTo Format RatFmt ParsePlain
open Go.Lib (decDigits itoa nDigits nDigits_small nDigits_big decDigits_length)

theorem dv_digits (u : Nat) : dv (decDigits u) = u := by
  induction u using Nat.strongRecOn with
  | _ u ih =>
    rw [decDigits]
    by_cases h : u < 10
    · rw [dif_pos h]
      have hi : isd (UInt8.ofNat (48 + u)) = true := by unfold isd; simp; omega
      show dv ([] ++ [_]) = u
      rw [dv_snoc, if_pos hi]
      simp [dv]
      omega
    · rw [dif_neg h]
      have hi : isd (UInt8.ofNat (48 + u % 10)) = true := by unfold isd; simp; omega
      rw [dv_snoc, if_pos hi, ih (u / 10) (by omega)]
      simp
      omega
theorem neg_digits (u : Nat) : neg (decDigits u) = false := by
  cases hd : decDigits u with
  | nil => exact absurd hd (digits_ne _)
  | cons b r =>
    have := digits_isd u b (by rw [hd]; exact List.mem_cons_self)
    unfold neg
    simp only [List.head?_cons]
    rw [beq_eq_false_iff_ne]
    intro q
    injection q with q
    subst q
    cases this
theorem V_itoa (w : Int) : V (itoa w) = w := by
  unfold itoa
  by_cases h : w < 0
  · rw [if_pos h]
    have e : V (45 :: decDigits w.natAbs) = -(dv (45 :: decDigits w.natAbs) : Int) := rfl
    rw [e, dv_minus, dv_digits]
    omega
  · rw [if_neg h]
    unfold V
    rw [neg_digits, dv_digits]
    simp
    omega
theorem rest_len_itoa {n : Int} (h1 : -2147483647 ≤ n) (h2 : n ≤ 2147483647) : (rest (itoa n)).length ≤ 10 := by
  unfold itoa
  by_cases h : n < 0
  · rw [if_pos h]
    have e : rest (45 :: decDigits n.natAbs) = decDigits n.natAbs := by simp [rest, neg]
    rw [e, decDigits_length]
    exact Format.nDigits_le 9 _ (by omega)
  · rw [if_neg h]
    have e : rest (decDigits n.toNat) = decDigits n.toNat := by simp [rest, neg_digits]
    rw [e, decDigits_length]
    exact Format.nDigits_le 9 _ (by omega)
theorem itoa_ne (n : Int) : itoa n ≠ [] := by
  unfold itoa
  split
  · simp
  · exact digits_ne _
theorem no_slash (n : Int) : (47 : UInt8) ∉ itoa n := by
  have hd : ∀ u, (47 : UInt8) ∉ decDigits u := fun u h => by
    have := digits_isd u 47 h
    cases this
  unfold itoa
  split
  · intro h
    rcases List.mem_cons.1 h with h | h
    · cases h
    · exact hd _ h
  · exact hd _

/-- l is a, or a, a slash and b; a has no slash. -/
def Split (l a b : List UInt8) (has : Bool) : Prop := (47 : UInt8) ∉ a ∧ (has = true → l = a ++ 47 :: b) ∧ (has = false → l = a)

theorem split_unique : ∀ {a b a' b' : List UInt8}, (47 : UInt8) ∉ a → (47 : UInt8) ∉ a' → a ++ 47 :: b = a' ++ 47 :: b' → a = a' ∧ b = b'
  | [], b, [], b', _, _, h => by
    injection h with _ h
    exact ⟨rfl, h⟩
  | [], b, y :: a', b', _, h2, h => by
    injection h with h _
    exact absurd (List.mem_cons.2 (.inl h)) h2
  | x :: a, b, [], b', h1, _, h => by
    injection h with h _
    exact absurd (List.mem_cons.2 (.inl h.symm)) h1
  | x :: a, b, y :: a', b', h1, h2, h => by
    injection h with h h'
    obtain ⟨e1, e2⟩ := split_unique (fun q => h1 (List.mem_cons_of_mem _ q)) (fun q => h2 (List.mem_cons_of_mem _ q)) h'
    exact ⟨by rw [h, e1], e2⟩

theorem core {l a b : List UInt8} {has : Bool} {n d : Int} (hs : Split l a b has) (hv : valid n d = true) (hl : l = rfmt n d) :
    a = itoa n ∧ (has = false → d = 1) ∧ (has = true → b = itoa d) := by
  obtain ⟨h47, ht, hf⟩ := hs
  by_cases h1 : d = 1
  · rw [rfmt_one hv h1] at hl
    cases has
    · exact ⟨(hf rfl).symm.trans hl, fun _ => h1, fun h => by cases h⟩
    · refine absurd ?_ (no_slash n)
      rw [← hl, ht rfl]
      exact List.mem_append_right _ List.mem_cons_self
  · rw [rfmt_two hv h1] at hl
    cases has
    · refine absurd ?_ h47
      rw [← hf rfl, hl]
      exact List.mem_append_left _ (List.mem_append_right _ List.mem_cons_self)
    · have h := (ht rfl).symm.trans hl
      rw [List.append_assoc] at h
      obtain ⟨e1, e2⟩ := split_unique h47 (no_slash n) h
      exact ⟨e1, (fun h => by cases h), fun _ => e2⟩

/-- If a is the format of a part of a valid rational, then of v. -/
def Fit (a : List UInt8) (v : Int) : Prop := ∀ n : Int, -2147483647 ≤ n → n ≤ 2147483647 → a = itoa n → v = n
/-- a is the format of no part of a valid rational. -/
def Bad (a : List UInt8) : Prop := ∀ n : Int, -2147483647 ≤ n → n ≤ 2147483647 → a ≠ itoa n

/-- What a reader of rationals answers. -/
def RParsed (l : List UInt8) (n d : Int) (ok : Bool) : Prop :=
  (ok = true ∧ valid n d = true ∧ l = rfmt n d) ∨ (ok = false ∧ n = 0 ∧ d = 0 ∧ ¬ ∃ n' d' : Int, valid n' d' = true ∧ l = rfmt n' d')

theorem fit_itoa (n : Int) : Fit (itoa n) n := fun m _ _ h => by
  have := congrArg V h
  rwa [V_itoa, V_itoa] at this

theorem split_fmt {n d : Int} (hv : valid n d = true) : ∃ b has, Split (rfmt n d) (itoa n) b has ∧ (has = true → b = itoa d) ∧ (has = false → d = 1) := by
  by_cases h1 : d = 1
  · exact ⟨[], false, ⟨no_slash n, (fun h => by cases h), fun _ => rfmt_one hv h1⟩, (fun h => by cases h), fun _ => h1⟩
  · exact ⟨itoa d, true, ⟨no_slash n, (fun _ => by rw [rfmt_two hv h1, List.append_assoc]; rfl), (fun h => by cases h)⟩, fun _ => rfl, (fun h => by cases h)⟩

theorem rfmt_inj {n d n' d' : Int} (hv : valid n d = true) (hv' : valid n' d' = true) (h : rfmt n d = rfmt n' d') : n = n' ∧ d = d' := by
  obtain ⟨b, has, hs, hb, h1⟩ := split_fmt hv
  obtain ⟨e1, e2, e3⟩ := core hs hv' h
  obtain ⟨⟨p1, p2⟩, ⟨p3, p4⟩, _⟩ := bd hv'
  refine ⟨fit_itoa n n' p1 p2 e1, ?_⟩
  cases has
  · rw [h1 rfl, e2 rfl]
  · exact fit_itoa d d' (by omega) p4 ((hb rfl).symm.trans (e3 rfl))

theorem rparsed_unique {l : List UInt8} {n d n' d' : Int} {ok ok' : Bool} (h : RParsed l n d ok) (h' : RParsed l n' d' ok') : n = n' ∧ d = d' ∧ ok = ok' := by
  rcases h with ⟨a, b, c⟩ | ⟨a, b, c, e⟩ <;> rcases h' with ⟨a', b', c'⟩ | ⟨a', b', c', e'⟩
  · obtain ⟨e1, e2⟩ := rfmt_inj b b' (c.symm.trans c')
    exact ⟨e1, e2, by rw [a, a']⟩
  · exact absurd ⟨n, d, b, c⟩ e'
  · exact absurd ⟨n', d', b', c'⟩ e
  · exact ⟨by rw [b, b'], by rw [c, c'], by rw [a, a']⟩

theorem rfmt_ne {n d : Int} (hv : valid n d = true) : rfmt n d ≠ [] := by
  by_cases h1 : d = 1
  · rw [rfmt_one hv h1]; exact itoa_ne n
  · rw [rfmt_two hv h1]; simp

theorem ends_yes {l : List UInt8} {v1 v2 : Int} (hne : l ≠ []) (h : rfmt v1 v2 = l) : RParsed l v1 v2 true := by
  refine .inl ⟨rfl, ?_, h.symm⟩
  cases hv : valid v1 v2
  · rw [rfmt_no hv] at h
    exact absurd h.symm hne
  · rfl
theorem ends_no {l a b : List UInt8} {has : Bool} {v1 v2 : Int} (hs : Split l a b has) (f1 : Fit a v1) (f2 : has = true → Fit b v2) (f3 : has = false → v2 = 1) (h : l = [] ∨ rfmt v1 v2 ≠ l) : RParsed l 0 0 false := by
  refine .inr ⟨rfl, rfl, rfl, ?_⟩
  rintro ⟨n, d, hv, hl⟩
  obtain ⟨e1, e2, e3⟩ := core hs hv hl
  obtain ⟨⟨p1, p2⟩, ⟨p3, p4⟩, _⟩ := bd hv
  have q1 := f1 n p1 p2 e1
  have q2 : v2 = d := by
    cases has
    · rw [f3 rfl, e2 rfl]
    · exact f2 rfl d (by omega) p4 (e3 rfl)
  subst q1 q2
  rcases h with h | h
  · exact rfmt_ne hv (hl.symm.trans h)
  · exact h hl.symm
theorem ends_bad {l a b : List UInt8} {has : Bool} (hs : Split l a b has) (h : Bad a ∨ (has = true ∧ Bad b)) : RParsed l 0 0 false := by
  refine .inr ⟨rfl, rfl, rfl, ?_⟩
  rintro ⟨n, d, hv, hl⟩
  obtain ⟨e1, e2, e3⟩ := core hs hv hl
  obtain ⟨⟨p1, p2⟩, ⟨p3, p4⟩, _⟩ := bd hv
  rcases h with h | ⟨h1, h2⟩
  · exact h n p1 p2 e1
  · exact h2 d (by omega) p4 (e3 h1)

/-- strings.Cut at the slash. -/
theorem index47 : ∀ l : List UInt8, (Lib.index l [47] = -1 ∧ (47 : UInt8) ∉ l) ∨ ∃ k : Nat, Lib.index l [47] = k ∧ (47 : UInt8) ∉ l.take k ∧ l = l.take k ++ 47 :: l.drop (k + 1)
  | [] => .inl ⟨rfl, by simp⟩
  | b :: l => by
    unfold Lib.index
    by_cases h : b = 47
    · subst h
      exact .inr ⟨0, rfl, by simp, rfl⟩
    · have hp : List.isPrefixOf [47] (b :: l) = false := by
        have : ((47 : UInt8) == b) = false := by rw [beq_eq_false_iff_ne]; exact Ne.symm h
        simp [List.isPrefixOf, this]
      rw [hp]
      rcases index47 l with ⟨h1, h2⟩ | ⟨k, h1, h2, h3⟩
      · refine .inl ⟨by rw [h1]; rfl, ?_⟩
        intro q
        rcases List.mem_cons.1 q with q | q
        · exact h q.symm
        · exact h2 q
      · refine .inr ⟨k + 1, ?_, ?_, ?_⟩
        · rw [h1]
          have : ((k : Int) == -1) = false := by rw [beq_eq_false_iff_ne]; omega
          rw [this]
          simp
        · intro q
          rcases List.mem_cons.1 q with q | q
          · exact h q.symm
          · exact h2 q
        · show b :: l = b :: (l.take k ++ 47 :: l.drop (k + 1))
          rw [← h3]
theorem cut_split (l : List UInt8) : Split l (Lib.cut l [47]).1 (Lib.cut l [47]).2.1 (Lib.cut l [47]).2.2 := by
  unfold Lib.cut
  rcases index47 l with ⟨h1, h2⟩ | ⟨k, h1, h2, h3⟩
  · rw [h1]
    exact ⟨h2, (fun h => by cases h), fun _ => rfl⟩
  · rw [h1, if_pos (by omega)]
    exact ⟨by simpa using h2, (fun _ => by simpa using h3), (fun h => by cases h)⟩

/-- strconv.Atoi at a format. -/
theorem fold_ge (l : List UInt8) : ∀ acc : Nat, acc ≤ l.foldl (fun n b => if isd b then n * 10 + (b.toNat - 48) else n) acc := by
  induction l with
  | nil => intro acc; exact Nat.le_refl _
  | cons b r ih =>
    intro acc
    refine Nat.le_trans ?_ (ih _)
    show acc ≤ (if isd b then acc * 10 + (b.toNat - 48) else acc)
    split <;> omega
theorem parse_fold (l : List UInt8) : ∀ acc : Nat, (∀ b ∈ l, isd b = true) → l.foldl (fun n b => if isd b then n * 10 + (b.toNat - 48) else n) acc < 1844674407370955162 →
    Lib.parseUint10 acc l = .ok (l.foldl (fun n b => if isd b then n * 10 + (b.toNat - 48) else n) acc) := by
  induction l with
  | nil => intro acc _ _; rfl
  | cons b r ih =>
    intro acc hd hlt
    have hb := hd b List.mem_cons_self
    have hr : 48 ≤ b.toNat ∧ b.toNat ≤ 57 := by unfold isd at hb; simpa using hb
    have e : (b :: r).foldl (fun n b => if isd b then n * 10 + (b.toNat - 48) else n) acc = r.foldl (fun n b => if isd b then n * 10 + (b.toNat - 48) else n) (acc * 10 + (b.toNat - 48)) := by
      simp [hb]
    rw [e] at hlt ⊢
    have hg := fold_ge r (acc * 10 + (b.toNat - 48))
    unfold Lib.parseUint10
    rw [if_pos hr, if_neg (by omega), if_neg (by omega)]
    exact ih _ (fun x hx => hd x (List.mem_cons_of_mem _ hx)) hlt
theorem parse_digits {u : Nat} (h : u < 1844674407370955162) : Lib.parseMag (decDigits u) = .ok u := by
  unfold Lib.parseMag
  rw [if_neg (digits_ne u)]
  have hdv : (decDigits u).foldl (fun n b => if isd b then n * 10 + (b.toNat - 48) else n) 0 = u := dv_digits u
  have := parse_fold (decDigits u) 0 (digits_isd u) (by rw [hdv]; exact h)
  rw [this, hdv]
theorem atoi_itoa {n : Int} (h1 : -2147483647 ≤ n) (h2 : n ≤ 2147483647) : Lib.atoiAll (itoa n) = .ok n := by
  unfold itoa
  by_cases h : n < 0
  · rw [if_pos h]
    have e := parse_digits (u := n.natAbs) (by omega)
    unfold Lib.atoiAll
    simp only [show (45 : UInt8).toNat = 45 from rfl, or_true, if_true, e]
    rw [if_neg (by omega), if_neg (by omega)]
    congr 1
    omega
  · rw [if_neg h]
    have e := parse_digits (u := n.toNat) (by omega)
    cases hd : decDigits n.toNat with
    | nil => exact absurd hd (digits_ne _)
    | cons c r =>
      have hc := digits_isd n.toNat c (by rw [hd]; exact List.mem_cons_self)
      have hr : 48 ≤ c.toNat ∧ c.toNat ≤ 57 := by unfold isd at hc; simpa using hc
      rw [hd] at e
      have n1 : ¬ (c.toNat = 43 ∨ c.toNat = 45) := by omega
      have n2 : ¬ c.toNat = 45 := by omega
      have n3 : ¬ 9223372036854775808 ≤ n.toNat := by omega
      have e2 : Lib.parseMag (if c.toNat = 43 then r else c :: r) = .ok n.toNat := by rw [if_neg (by omega)]; exact e
      have e3 : (n.toNat : Int) = n := by omega
      simp [Lib.atoiAll, e2, n2, n3, e3]
theorem fit_atoi {a : List UInt8} {v : Int} (h : Lib.atoiAll a = .ok v) : Fit a v := fun n h1 h2 e => by
  rw [e, atoi_itoa h1 h2] at h
  injection h with h
  exact h.symm
theorem bad_atoi {a : List UInt8} (h : ∀ v, Lib.atoiAll a ≠ .ok v) : Bad a := fun n h1 h2 e => h n (by rw [e, atoi_itoa h1 h2])
theorem atoi_empty {v : Int} : Lib.atoiAll [] ≠ .ok v := by
  intro h
  cases h
theorem atoi_bd {a : List UInt8} {v : Int} (h : Lib.atoiAll a = .ok v) : -9223372036854775808 ≤ v ∧ v ≤ 9223372036854775807 := by
  unfold Lib.atoiAll at h
  split at h
  · cases h
  · simp only at h
    split at h
    · cases h
    · cases h
    · split at h
      · cases h
      · split at h
        · cases h
        · injection h with h
          subst h
          split <;> omega
end Go.Proofs.YtkmhfgedbkkihaaDoor.RatSplit
