/- What is encoded is decoded again: varints, fixed widths, hexadecimal and decimal strings. Over no program. -/
import Derived.Test.YtlmaaiffmomflaaDoorDecFixed
import Derived.Test.YtlmaaiffmomflaaDoorDecVarint
import Derived.Test.YtlmaaiffmomflaaDoorDecHex
import Derived.Test.YtlmaaiffmomflaaDoorParse
namespace Go.Proofs.YtlmaaiffmomflaaDoor.EncPlain
open Go Go.RowKit Byt
open Varint (leb leb_low leb_high leb_seven)
open Go.Lib (decDigits itoa nDigits decDigits_length)

theorem val_leb (n : Nat) : VarintPlain.val (leb n) = n := by
  induction n using Nat.strongRecOn with
  | _ n ih =>
    by_cases h : n < 128
    · rw [leb_low h]
      simp [VarintPlain.val]
      omega
    · rw [leb_high (by omega), VarintPlain.val, ih (n / 128) (by omega)]
      simp
      omega

theorem leb_pos (n : Nat) : 1 ≤ (leb n).length := by
  have := VarintPlain.leb_ne_nil n
  cases h : leb n with
  | nil => exact absurd h this
  | cons b r => simp

/-- A varint is decoded again, whatever follows. -/
theorem varint_back {n x k : Nat} (h : n ≤ 562949953421311) (tail : List UInt8) (hd : VarintPlain.Decoded (leb n ++ tail) x k) : x = n ∧ k = (leb n).length := by
  have ht : (leb n ++ tail).take (leb n).length = leb n := List.take_left
  have h0 : VarintPlain.Decoded (leb n ++ tail) n (leb n).length :=
    .inl ⟨leb_pos n, leb_seven h, by simp, by unfold VarintPlain.GoodV; rw [ht, val_leb], by rw [ht, val_leb]⟩
  exact VarintPlain.decoded_unique hd h0

theorem de_cons (b : UInt8) (l : List UInt8) : DecFixed.de (b :: l) = b.toNat * 256 ^ l.length + DecFixed.de l := by
  have gen : ∀ (l : List UInt8) (n : Nat), l.foldl (fun n b => n * 256 + b.toNat) n = n * 256 ^ l.length + l.foldl (fun n b => n * 256 + b.toNat) 0 := by
    intro l
    induction l with
    | nil => intro n; simp
    | cons c r ih =>
      intro n
      simp only [List.foldl_cons, List.length_cons]
      rw [ih (n * 256 + c.toNat), ih (0 * 256 + c.toNat), Nat.pow_succ]
      rw [Nat.add_mul, Nat.zero_mul, Nat.zero_add, Nat.mul_assoc, Nat.mul_comm 256, Nat.add_assoc]
  unfold DecFixed.de
  rw [List.foldl_cons, gen]
  simp

theorem de_be (n k : Nat) : DecFixed.de (Fixed.be n k) = n % 256 ^ k := by
  induction k with
  | zero => simp [Fixed.be, DecFixed.de, Nat.mod_one]
  | succ k ih =>
    rw [Fixed.be, de_cons, ih, Fixed.be_length]
    have e : (UInt8.ofNat (n / 256 ^ k % 256)).toNat = n / 256 ^ k % 256 := by simp
    rw [e, Nat.pow_succ, Nat.mul_comm (n / 256 ^ k % 256), Nat.add_comm]
    exact (Nat.mod_mul).symm

/-- A number of fixed width is decoded again, whatever follows. -/
theorem fixed_back {n k : Nat} (h : n < 256 ^ k) (tail : List UInt8) : DecFixed.de ((Fixed.be n k ++ tail).take k) = n := by
  have : (Fixed.be n k ++ tail).take k = Fixed.be n k := by
    conv => lhs; arg 1; rw [← Fixed.be_length n k]
    exact List.take_left
  rw [this, de_be, Nat.mod_eq_of_lt h]

theorem hx_dig (j : Nat) (h : j < 16) : HexPlain.hx (Hex.dig j) = j := (HexPlain.dig_hx _ j h).1 rfl

theorem hexL_cons (b : UInt8) (l : List UInt8) : Hex.hexL (b :: l) = Hex.dig (b.toNat / 16) :: Hex.dig (b.toNat % 16) :: Hex.hexL l := rfl

theorem nib_hex (l : List UInt8) : ∀ i, (h : i < l.length) → HexPlain.nib (Hex.hexL l) (2 * i) = l[i].toNat / 16 ∧ HexPlain.nib (Hex.hexL l) (2 * i + 1) = l[i].toNat % 16 := by
  induction l with
  | nil => intro i h; simp at h
  | cons b r ih =>
    intro i h
    have hb := b.toNat_lt
    cases i with
    | zero =>
      constructor
      · show HexPlain.hx (Hex.dig (b.toNat / 16)) = b.toNat / 16
        exact hx_dig _ (by omega)
      · show HexPlain.hx (Hex.dig (b.toNat % 16)) = b.toNat % 16
        exact hx_dig _ (by omega)
    | succ i =>
      have := ih i (by simpa using h)
      exact this

/-- A hexadecimal string is decoded again. -/
theorem hex_back {l : List UInt8} {out : ByteArray} {ok : Bool} (hd : HexPlain.Decoded (Hex.hexL l) out ok) : out = ⟨l.toArray⟩ ∧ ok = true := by
  have hl := Hex.hexL_length l
  refine HexPlain.decoded_unique hd (.inl ⟨rfl, by omega, fun i hi => ?_, ?_⟩)
  · rw [hl] at hi
    have hj : i / 2 < l.length := by omega
    have h := nib_hex l (i / 2) hj
    have hb := l[i / 2].toNat_lt
    rcases Nat.mod_two_eq_zero_or_one i with e | e
    · rw [show 2 * (i / 2) = i by omega] at h
      omega
    · rw [show 2 * (i / 2) + 1 = i by omega] at h
      omega
  · congr 1
    rw [hl, Nat.mul_div_cancel_left _ (by decide)]
    congr 1
    apply List.ext_getElem
    · rw [HexPlain.row_length]
    · intro i h1 h2
      have h := nib_hex l i h1
      have hb := l[i].toNat_lt
      simp only [HexPlain.row, List.getElem_map, List.getElem_range]
      unfold HexPlain.cellv
      rw [if_pos (by omega), h.1, h.2]
      apply UInt8.toNat_inj.1
      simp
      omega

theorem dv_digits (u : Nat) : ParsePlain.dv (decDigits u) = u := by
  induction u using Nat.strongRecOn with
  | _ u ih =>
    rw [decDigits]
    by_cases h : u < 10
    · rw [dif_pos h]
      have hi : ParsePlain.isd (UInt8.ofNat (48 + u)) = true := by unfold ParsePlain.isd; simp; omega
      show ParsePlain.dv ([] ++ [_]) = u
      rw [ParsePlain.dv_snoc, if_pos hi]
      simp [ParsePlain.dv]
      omega
    · rw [dif_neg h]
      have hi : ParsePlain.isd (UInt8.ofNat (48 + u % 10)) = true := by unfold ParsePlain.isd; simp; omega
      rw [ParsePlain.dv_snoc, if_pos hi, ih (u / 10) (by omega)]
      simp
      omega

theorem neg_digits (u : Nat) : ParsePlain.neg (decDigits u) = false := by
  cases hd : decDigits u with
  | nil => exact absurd hd (ParsePlain.digits_ne _)
  | cons b r =>
    have := ParsePlain.digits_isd u b (by rw [hd]; exact List.mem_cons_self)
    unfold ParsePlain.neg
    simp only [List.head?_cons]
    rw [beq_eq_false_iff_ne]
    intro q
    injection q with q
    subst q
    cases this

theorem V_itoa (w : Int) : ParsePlain.V (itoa w) = w := by
  unfold itoa
  by_cases h : w < 0
  · rw [if_pos h]
    have e : ParsePlain.V (45 :: decDigits w.natAbs) = -(ParsePlain.dv (45 :: decDigits w.natAbs) : Int) := rfl
    rw [e, ParsePlain.dv_minus, dv_digits]
    omega
  · rw [if_neg h]
    unfold ParsePlain.V
    rw [neg_digits, dv_digits]
    simp
    omega

theorem dc_itoa (w : Int) : ParsePlain.dc (itoa w) = nDigits w.natAbs := by
  have h : ∀ u, ParsePlain.dc (decDigits u) = nDigits u := fun u => by
    rw [ParsePlain.dc_all (ParsePlain.digits_isd u), decDigits_length]
  unfold itoa
  by_cases hw : w < 0
  · rw [if_pos hw, ParsePlain.dc_minus, h]
  · rw [if_neg hw, h]
    congr 1
    omega

theorem itoa_length (w : Int) : (itoa w).length ≤ nDigits w.natAbs + 1 := by
  unfold itoa
  by_cases hw : w < 0
  · rw [if_pos hw]
    simp [decDigits_length]
  · rw [if_neg hw, decDigits_length, show w.toNat = w.natAbs by omega]
    omega

theorem ok_itoa (w : Int) : ParsePlain.OKs (itoa w) ↔ (-1000000000 < w ∧ w < 1000000000) := by
  constructor
  · intro h
    have h1 := h.1
    rw [dc_itoa] at h1
    have h2 := Go.Lib.lt_pow_nDigits w.natAbs
    have h3 := Nat.pow_le_pow_right (n := 10) (by decide) h1
    omega
  · intro h
    have h1 : nDigits w.natAbs ≤ 9 := Format.nDigits_le 8 _ (by omega)
    have h2 := itoa_length w
    exact ⟨by rw [dc_itoa]; exact h1, by omega, by rw [V_itoa]⟩

/-- The format of an int is read back if and only if it has at most nine digits. -/
theorem int_back {w z : Int} {good : Bool} (h : ParsePlain.Parsed (itoa w) z good) : (good = true → z = w) ∧ good = (decide (-1000000000 < w) && decide (w < 1000000000)) := by
  rcases h with ⟨rfl, b, c⟩ | ⟨rfl, b, c⟩
  · refine ⟨fun _ => by rw [c, V_itoa], ?_⟩
    have := (ok_itoa w).1 b
    simp [this]
  · refine ⟨(fun q => by cases q), ?_⟩
    rw [ok_itoa] at c
    by_cases h1 : -1000000000 < w
    · by_cases h2 : w < 1000000000
      · exact absurd ⟨h1, h2⟩ c
      · simp [h2]
    · simp [h1]

end Go.Proofs.YtlmaaiffmomflaaDoor.EncPlain
