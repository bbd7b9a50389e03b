/- Hexadecimal digits and the bytes that pairs of them stand for. Over no program. -/
import Derived.Test.YtlmaaiffmomflaaDoorHex
namespace Go.Proofs.YtlmaaiffmomflaaDoor.HexPlain
open Go Go.RowKit Byt Hex

/-- The value of a digit; 16 where it is none. -/
def hx (b : UInt8) : Nat := if 48 ≤ b.toNat ∧ b.toNat ≤ 57 then b.toNat - 48 else if 97 ≤ b.toNat ∧ b.toNat ≤ 102 then b.toNat - 87 else 16

theorem hx_le (b : UInt8) : hx b ≤ 16 := by
  unfold hx
  repeat' split
  all_goals omega

theorem dig_hx (b : UInt8) (j : Nat) (hj : j < 16) : dig j = b ↔ hx b = j := by
  constructor
  · rintro rfl
    have : ∀ j : Fin 16, hx (dig j.val) = j.val := by decide
    exact this ⟨j, hj⟩
  · rintro rfl
    apply UInt8.toNat_inj.1
    have hb := b.toNat_lt
    unfold hx at hj ⊢
    split at hj
    · rename_i h
      simp only [h, and_self, if_true]
      unfold dig
      rw [if_pos (by omega)]
      simp
      omega
    · rename_i h
      simp only [h, if_false]
      split at hj
      · rename_i h2
        simp only [h2, and_self, if_true]
        unfold dig
        rw [if_neg (by omega)]
        simp
        omega
      · omega

/-- The value of the digit at i. -/
def nib (l : List UInt8) (i : Nat) : Nat := hx (l.getD i 0)

/-- Byte j of what the first k digits stand for. -/
def cellv (l : List UInt8) (k j : Nat) : UInt8 := UInt8.ofNat (if 2 * j + 1 < k then 16 * nib l (2 * j) + nib l (2 * j + 1) else if 2 * j < k then nib l (2 * j) else 0)

def row (l : List UInt8) (k n : Nat) : List UInt8 := (List.range n).map (cellv l k)

theorem row_length (l : List UInt8) (k n : Nat) : (row l k n).length = n := by simp [row]

theorem row_zero (l : List UInt8) (n : Nat) : row l 0 n = List.replicate n 0 := by
  apply List.ext_getElem
  · simp [row]
  · intro i h1 h2
    simp [row, cellv]

theorem row_getD (l : List UInt8) (k n j : Nat) (hj : j < n) : (row l k n).getD j 0 = cellv l k j := by
  simp [row, hj]

theorem row_set (l : List UInt8) (k n : Nat) (_hk : k < 2 * n) : (row l k n).set (k / 2) (cellv l (k + 1) (k / 2)) = row l (k + 1) n := by
  apply List.ext_getElem
  · simp [row]
  · intro i h1 h2
    rw [List.getElem_set]
    split
    · rename_i e
      subst e
      simp [row]
    · rename_i e
      simp only [row, List.getElem_map, List.getElem_range]
      unfold cellv
      congr 1
      by_cases a1 : 2 * i + 1 < k
      · rw [if_pos a1, if_pos (by omega)]
      · rw [if_neg a1, if_neg (show ¬ 2 * i + 1 < k + 1 by omega)]
        by_cases a2 : 2 * i < k
        · rw [if_pos a2, if_pos (by omega)]
        · rw [if_neg a2, if_neg (by omega)]

theorem row_snoc (l : List UInt8) (m : Nat) : row l (2 * (m + 1)) (m + 1) = row l (2 * m) m ++ [UInt8.ofNat (16 * nib l (2 * m) + nib l (2 * m + 1))] := by
  unfold row
  rw [List.range_succ, List.map_append]
  congr 1
  · apply List.map_congr_left
    intro j hj
    have := List.mem_range.1 hj
    unfold cellv
    rw [if_pos (by omega), if_pos (by omega)]
  · simp only [List.map_cons, List.map_nil]
    unfold cellv
    rw [if_pos (by omega)]

theorem cellv_even (l : List UInt8) (k : Nat) (h : k % 2 = 0) (hn : nib l k < 16) : (cellv l k (k / 2)).toNat = 0 ∧ (cellv l (k + 1) (k / 2)).toNat = nib l k := by
  have e : 2 * (k / 2) = k := by omega
  unfold cellv
  rw [e, if_neg (by omega), if_neg (by omega), if_neg (by omega), if_pos (by omega)]
  simp
  omega

theorem cellv_odd (l : List UInt8) (k : Nat) (h : k % 2 = 1) (hp : nib l (k - 1) < 16) (hn : nib l k < 16) :
    (cellv l k (k / 2)).toNat = nib l (k - 1) ∧ (cellv l (k + 1) (k / 2)).toNat = 16 * nib l (k - 1) + nib l k := by
  have e : 2 * (k / 2) = k - 1 := by omega
  have e2 : k - 1 + 1 = k := by omega
  unfold cellv
  rw [e, e2, if_neg (by omega), if_pos (by omega), if_pos (by omega)]
  simp
  omega

/-- The step of the program: the old byte's low half is shifted up, the new digit comes in. -/
theorem cellv_step (l : List UInt8) (k : Nat) (hall : ∀ i, i ≤ k → nib l i < 16) :
    (cellv l k (k / 2)).toNat < 16 ∧ (cellv l (k + 1) (k / 2)).toNat = 16 * (cellv l k (k / 2)).toNat + nib l k := by
  rcases Nat.mod_two_eq_zero_or_one k with h | h
  · have := cellv_even l k h (hall k (Nat.le_refl _))
    omega
  · have hp := hall (k - 1) (by omega)
    have := cellv_odd l k h hp (hall k (Nat.le_refl _))
    omega

theorem u8_step (x v : Nat) (hx : x < 16) (hv : v < 16) : bits .or .u8 (((x : Int) * 16) % 256) (v : Int) = ((16 * x + v : Nat) : Int) := by
  have e : ((x : Int) * 16) % 256 = (x : Int) * 16 := by omega
  rw [e, bits_join .u8 8 (by decide) wraps_u8 4 _ _ (by omega) (by omega) (by omega) (by omega) (by omega) (by omega)]
  omega

/-- What a decoder of hexadecimal strings answers. -/
def Decoded (l : List UInt8) (out : ByteArray) (ok : Bool) : Prop :=
  (ok = true ∧ l.length % 2 = 0 ∧ (∀ i, i < l.length → nib l i < 16) ∧ out = ⟨(row l l.length (l.length / 2)).toArray⟩) ∨
  (ok = false ∧ out = .empty ∧ ¬ (l.length % 2 = 0 ∧ ∀ i, i < l.length → nib l i < 16))

theorem decoded_unique {l : List UInt8} {out out' : ByteArray} {ok ok' : Bool} (h : Decoded l out ok) (h' : Decoded l out' ok') : out = out' ∧ ok = ok' := by
  rcases h with ⟨a, b, c, d⟩ | ⟨a, b, c⟩ <;> rcases h' with ⟨a', b', c', d'⟩ | ⟨a', b', c'⟩
  · exact ⟨by rw [d, d'], by rw [a, a']⟩
  · exact absurd ⟨b, c⟩ c'
  · exact absurd ⟨b', c'⟩ c
  · exact ⟨by rw [b, b'], by rw [a, a']⟩

end Go.Proofs.YtlmaaiffmomflaaDoor.HexPlain
