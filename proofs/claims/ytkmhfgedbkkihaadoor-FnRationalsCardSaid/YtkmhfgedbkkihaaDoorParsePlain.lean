/- Decimal strings as numbers: which strings are formats of numbers of at most nine digits. Over no program. -/
import Derived.Test.YtkmhfgedbkkihaaDoorFormat
namespace Go.Proofs.YtkmhfgedbkkihaaDoor.ParsePlain
open Go Go.RowKit Byt Format
open Go.Lib (decDigits itoa)

def isd (b : UInt8) : Bool := decide (48 ≤ b.toNat ∧ b.toNat ≤ 57)
/-- The value of the digits among the bytes. -/
def dv (l : List UInt8) : Nat := l.foldl (fun n b => if isd b then n * 10 + (b.toNat - 48) else n) 0
/-- How many digits are among the bytes. -/
def dc (l : List UInt8) : Nat := l.countP isd

theorem dv_snoc (l : List UInt8) (b : UInt8) : dv (l ++ [b]) = if isd b then dv l * 10 + (b.toNat - 48) else dv l := by simp [dv]
theorem dc_snoc (l : List UInt8) (b : UInt8) : dc (l ++ [b]) = if isd b then dc l + 1 else dc l := by
  unfold dc
  rw [List.countP_append]
  by_cases h : isd b <;> simp [h]
theorem dc_le (l : List UInt8) : dc l ≤ l.length := List.countP_le_length
theorem dc_all {l : List UInt8} (h : ∀ b ∈ l, isd b = true) : dc l = l.length := List.countP_eq_length.2 h

theorem dv_lt_aux (l : List UInt8) : ∀ (n k : Nat), n < 10 ^ k → l.foldl (fun n b => if isd b then n * 10 + (b.toNat - 48) else n) n < 10 ^ (k + l.length) := by
  induction l with
  | nil => intro n k h; simpa using h
  | cons b r ih =>
    intro n k h
    simp only [List.foldl_cons, List.length_cons]
    have e : k + (r.length + 1) = (k + 1) + r.length := by omega
    rw [e]
    apply ih
    by_cases hb : isd b = true
    · rw [if_pos hb]
      unfold isd at hb
      have := of_decide_eq_true hb
      rw [Nat.pow_succ]
      omega
    · rw [if_neg hb, Nat.pow_succ]
      omega
theorem dv_lt (l : List UInt8) : dv l < 10 ^ l.length := by
  have := dv_lt_aux l 0 0 (by decide)
  simpa [dv] using this

theorem dv_minus (l : List UInt8) : dv (45 :: l) = dv l := rfl
theorem dc_minus (l : List UInt8) : dc (45 :: l) = dc l := rfl

/-- Is the first byte a minus? -/
def neg (l : List UInt8) : Bool := l.head? == some 45
/-- What follows the minus, if there is one. -/
def rest (l : List UInt8) : List UInt8 := if neg l then l.drop 1 else l
def V (l : List UInt8) : Int := if neg l then -(dv l : Int) else (dv l : Int)

theorem dv_rest (l : List UInt8) : dv (rest l) = dv l := by
  unfold rest
  cases l with
  | nil => rfl
  | cons b r =>
    by_cases h : neg (b :: r) = true
    · rw [if_pos h]
      have e : b = 45 := by simpa [neg] using h
      subst e
      exact (dv_minus r).symm
    · rw [if_neg h]
theorem dc_rest (l : List UInt8) : dc (rest l) = dc l := by
  unfold rest
  cases l with
  | nil => rfl
  | cons b r =>
    by_cases h : neg (b :: r) = true
    · rw [if_pos h]
      have e : b = 45 := by simpa [neg] using h
      subst e
      exact (dc_minus r).symm
    · rw [if_neg h]
theorem rest_length (l : List UInt8) : l.length ≤ (rest l).length + 1 := by
  unfold rest
  split
  · simp; omega
  · omega

theorem digits_isd (u : Nat) : ∀ b ∈ decDigits u, isd b = true := by
  induction u using Nat.strongRecOn with
  | _ u ih =>
    intro b hb
    rw [decDigits] at hb
    by_cases h : u < 10
    · rw [dif_pos h] at hb
      simp at hb
      subst hb
      unfold isd
      simp
      omega
    · rw [dif_neg h, List.mem_append] at hb
      rcases hb with hb | hb
      · exact ih (u / 10) (by omega) b hb
      · simp at hb
        subst hb
        unfold isd
        simp
        omega
theorem digits_ne (u : Nat) : decDigits u ≠ [] := by
  rw [decDigits]
  split <;> simp

/-- A format of a number: what follows the minus are digits. -/
theorem shape {l : List UInt8} {m : Int} (h : itoa m = l) : ∀ b ∈ rest l, isd b = true := by
  subst h
  unfold itoa
  by_cases hm : m < 0
  · rw [if_pos hm]
    have e : rest (45 :: decDigits m.natAbs) = decDigits m.natAbs := by simp [rest, neg]
    rw [e]
    exact digits_isd _
  · rw [if_neg hm]
    have hn : neg (decDigits m.toNat) = false := by
      cases hd : decDigits m.toNat with
      | nil => exact absurd hd (digits_ne _)
      | cons b r =>
        have := digits_isd m.toNat b (by rw [hd]; exact List.mem_cons_self)
        unfold neg
        simp only [List.head?_cons]
        rw [beq_eq_false_iff_ne]
        intro q
        injection q with q
        subst q
        cases this
    have e : rest (decDigits m.toNat) = decDigits m.toNat := by simp [rest, hn]
    rw [e]
    exact digits_isd _

def OKs (l : List UInt8) : Prop := dc l ≤ 9 ∧ l.length ≤ 10 ∧ itoa (V l) = l

theorem ok_rest {l : List UInt8} (h : OKs l) : (∀ b ∈ rest l, isd b = true) ∧ (rest l).length ≤ 9 := by
  have hs := shape h.2.2
  have := dc_all hs
  rw [dc_rest] at this
  exact ⟨hs, by have := h.1; omega⟩

theorem ok_of {l : List UInt8} (h9 : (rest l).length ≤ 9) (h : itoa (V l) = l) : OKs l := by
  have h1 := dc_le (rest l)
  rw [dc_rest] at h1
  have h2 := rest_length l
  exact ⟨by omega, by omega, h⟩

/-- What a reader of decimal strings answers. -/
def Parsed (l : List UInt8) (n : Int) (ok : Bool) : Prop := (ok = true ∧ OKs l ∧ n = V l) ∨ (ok = false ∧ n = 0 ∧ ¬ OKs l)

theorem parsed_unique {l : List UInt8} {n n' : Int} {ok ok' : Bool} (h : Parsed l n ok) (h' : Parsed l n' ok') : n = n' ∧ ok = ok' := by
  rcases h with ⟨a, b, c⟩ | ⟨a, b, c⟩ <;> rcases h' with ⟨a', b', c'⟩ | ⟨a', b', c'⟩
  · exact ⟨by rw [c, c'], by rw [a, a']⟩
  · exact absurd b c'
  · exact absurd b' c
  · exact ⟨by rw [b, b'], by rw [a, a']⟩

end Go.Proofs.YtkmhfgedbkkihaaDoor.ParsePlain
