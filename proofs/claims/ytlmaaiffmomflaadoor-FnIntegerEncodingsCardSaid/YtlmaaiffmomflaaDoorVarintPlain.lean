/- Varints as lists of bytes: what a prefix of a string must look like to be one. Over no program. -/
import Derived.Test.YtlmaaiffmomflaaDoorVarint
namespace Go.Proofs.YtlmaaiffmomflaaDoor.VarintPlain
open Go Varint

/-- The number whose low seven-bit groups are the bytes, the lowest first. -/
def val : List UInt8 → Nat
  | [] => 0
  | b :: r => b.toNat % 128 + 128 * val r

theorem val_lt (l : List UInt8) : val l < 128 ^ l.length := by
  induction l with
  | nil => simp [val]
  | cons b r ih =>
    simp only [val, List.length_cons, Nat.pow_succ]
    omega

theorem val_snoc (l : List UInt8) (b : UInt8) : val (l ++ [b]) = val l + (b.toNat % 128) * 128 ^ l.length := by
  induction l with
  | nil => simp [val]
  | cons c r ih =>
    simp only [List.cons_append, val, ih, List.length_cons, Nat.pow_succ, Nat.mul_add]
    rw [Nat.add_assoc]
    congr 2
    rw [Nat.mul_left_comm, Nat.mul_comm 128 (128 ^ r.length)]

theorem leb_ne_nil (n : Nat) : leb n ≠ [] := by
  by_cases h : n < 128
  · rw [leb_low h]; simp
  · rw [leb_high (by omega)]; simp

/-- Every byte but the last one has its high bit set; the last one has not. -/
theorem leb_shape (k : Nat) : ∀ n, n < 128 ^ (k + 1) → ∀ (l : List UInt8) (b : UInt8), leb n = l ++ [b] → b.toNat < 128 ∧ ∀ c ∈ l, 128 ≤ c.toNat := by
  induction k with
  | zero =>
    intro n h l b e
    rw [leb_low (by omega)] at e
    have := congrArg List.length e
    simp at this
    subst this
    simp at e
    subst e
    refine ⟨?_, by simp⟩
    simp
    omega
  | succ k ih =>
    intro n h l b e
    by_cases hn : n < 128
    · rw [leb_low hn] at e
      have := congrArg List.length e
      simp at this
      subst this
      simp at e
      subst e
      refine ⟨?_, by simp⟩
      simp
      omega
    · rw [leb_high (by omega)] at e
      cases l with
      | nil =>
        simp at e
        exact absurd e.2 (leb_ne_nil _)
      | cons c l =>
        simp at e
        obtain ⟨h1, h2⟩ := ih (n / 128) (Nat.div_lt_of_lt_mul (by rw [Nat.pow_succ] at h; omega)) l b e.2
        refine ⟨h1, fun d hd => ?_⟩
        rcases List.mem_cons.1 hd with rfl | hd
        · rw [← e.1]
          simp
          omega
        · exact h2 d hd

/-- The prefix of k bytes is the varint of its value. -/
def GoodV (l : List UInt8) (k : Nat) : Prop := leb (val (l.take k)) = l.take k

theorem good_bytes {l : List UInt8} {k : Nat} (hk : k < l.length) (h : GoodV l (k + 1)) : l[k].toNat < 128 ∧ ∀ j, (hj : j < k) → 128 ≤ (l[j]'(by omega)).toNat := by
  have e : l.take (k + 1) = l.take k ++ [l[k]] := List.take_succ_eq_append_getElem hk
  have hl : (l.take (k + 1)).length = k + 1 := by simp; omega
  have hv := val_lt (l.take (k + 1))
  rw [hl] at hv
  unfold GoodV at h
  rw [e] at h hv
  obtain ⟨h1, h2⟩ := leb_shape k _ hv _ _ h
  refine ⟨h1, fun j hj => h2 _ ?_⟩
  have : (l.take k)[j]'(by simp; omega) = l[j]'(by omega) := by simp
  rw [← this]
  exact List.getElem_mem _

/-- What a decoder of varints answers. -/
def Decoded (l : List UInt8) (n k : Nat) : Prop :=
  (1 ≤ k ∧ k ≤ 7 ∧ k ≤ l.length ∧ GoodV l k ∧ n = val (l.take k)) ∨ (n = 0 ∧ k = 0 ∧ ∀ j, 1 ≤ j → j ≤ 7 → j ≤ l.length → ¬ GoodV l j)

theorem good_unique {l : List UInt8} {j k : Nat} (hj : 1 ≤ j) (hk : 1 ≤ k) (hjl : j ≤ l.length) (hkl : k ≤ l.length) (gj : GoodV l j) (gk : GoodV l k) : ¬ j < k := by
  intro h
  obtain ⟨j, rfl⟩ : ∃ i, j = i + 1 := ⟨j - 1, by omega⟩
  obtain ⟨k, rfl⟩ : ∃ i, k = i + 1 := ⟨k - 1, by omega⟩
  have h1 := (good_bytes (by omega) gj).1
  have h2 := (good_bytes (by omega) gk).2 j (by omega)
  omega

theorem decoded_unique {l : List UInt8} {n k n' k' : Nat} (h : Decoded l n k) (h' : Decoded l n' k') : n = n' ∧ k = k' := by
  rcases h with ⟨a, b, c, d, e⟩ | ⟨a, b, c⟩ <;> rcases h' with ⟨a', b', c', d', e'⟩ | ⟨a', b', c'⟩
  · have h1 := good_unique a a' c c' d d'
    have h2 := good_unique a' a c' c d' d
    have : k = k' := by omega
    subst this
    exact ⟨by rw [e, e'], rfl⟩
  · exact absurd d (c' k a b c)
  · exact absurd d' (c k' a' b' c')
  · exact ⟨by omega, by omega⟩

/-- All bytes before k have their high bit set; byte k has not: the prefix of k + 1 bytes alone may be a varint. -/
theorem decoded_at {l : List UInt8} {k : Nat} (h7 : k < 7) (hk : k < l.length) (hh : ∀ j, (hj : j < k) → 128 ≤ (l[j]'(by omega)).toNat) (hb : l[k].toNat < 128) :
    (GoodV l (k + 1) → Decoded l (val (l.take (k + 1))) (k + 1)) ∧ (¬ GoodV l (k + 1) → Decoded l 0 0) := by
  refine ⟨fun g => .inl ⟨by omega, by omega, by omega, g, rfl⟩, fun g => .inr ⟨rfl, rfl, fun j h1 h2 h3 gj => ?_⟩⟩
  obtain ⟨j, rfl⟩ : ∃ i, j = i + 1 := ⟨j - 1, by omega⟩
  obtain ⟨b1, b2⟩ := good_bytes (by omega) gj
  rcases Nat.lt_trichotomy j k with h | h | h
  · have := hh j h; omega
  · subst h; exact g gj
  · have := b2 k h; omega

theorem decoded_none {l : List UInt8} {k : Nat} (hk : k = 7 ∨ k = l.length) (hkl : k ≤ l.length) (hh : ∀ j, (hj : j < k) → 128 ≤ (l[j]'(by omega)).toNat) : Decoded l 0 0 := by
  refine .inr ⟨rfl, rfl, fun j h1 h2 h3 gj => ?_⟩
  obtain ⟨j, rfl⟩ : ∃ i, j = i + 1 := ⟨j - 1, by omega⟩
  obtain ⟨b1, _⟩ := good_bytes (by omega) gj
  have := hh j (by omega)
  omega

end Go.Proofs.YtlmaaiffmomflaaDoor.VarintPlain
