/- Varint decoding: the model's and the program's functions give the same number and length. -/
import Derived.Test.YtlmaaiffmomflaaDoorVarintPlain
import Derived.Deep.RegionHeld3
import Derived.Deep.DeepCutAuto
namespace Go.Proofs.YtlmaaiffmomflaaDoor.DecVarint
open Go Go.RowKit Byt Fixed Varint VarintPlain

theorem drop_succ (l : List UInt8) (k j : Nat) (hj : j < k) (hk : k ≤ l.length) : (l.take k).drop j = (l[j]'(by omega)) :: (l.take k).drop (j + 1) := by
  rw [List.drop_eq_getElem_cons (by simp; omega)]
  simp

theorem val_drop_lt (l : List UInt8) (k j : Nat) (hk : k ≤ 7) : val ((l.take k).drop (j + 1)) < 4398046511104 := by
  refine Nat.lt_of_lt_of_le (val_lt _) ?_
  have : ((l.take k).drop (j + 1)).length ≤ 6 := by simp; omega
  exact Nat.le_trans (Nat.pow_le_pow_right (by decide) this) (by decide)

theorem val_take_le (l : List UInt8) (k : Nat) (hk : k ≤ 7) : val (l.take k) ≤ 562949953421311 := by
  have h := val_lt (l.take k)
  have : (l.take k).length ≤ 7 := by simp; omega
  have h2 := Nat.pow_le_pow_right (n := 128) (by decide) this
  have h3 : 128 ^ 7 = 562949953421312 := by decide
  omega

theorem undrew {w w' : World} (h : Below w.drew.heap.size w.drew w') : Below w.heap.size w w' := ⟨h.os, h.tape, h.output, h.size, h.block⟩

/-- What a call of a decoder comes to. -/
def Ans (s : ByteArray) (w : World) (e : Ending) (w' : World) : Prop :=
  ∃ n k : Nat, e = .returned (.tuple #[.int .i64 n, .int .i64 k]) ∧ Decoded s.data.toList n k ∧ Below w.heap.size w w'

theorem byte_at (s : ByteArray) (j : Nat) (h : j < s.size) : s[j] = s.data.toList[j]'(by rw [Array.length_toList]; exact h) := rfl

theorem test_good (s : ByteArray) (k m : Nat) (hm : val (s.data.toList.take k) = m) (h7 : k ≤ 7) : ((Varint.out m).toList == (s.extract 0 k).toList) = true ↔ GoodV s.data.toList k := by
  have hv := val_take_le s.data.toList k h7
  rw [hm] at hv
  have e1 : (Varint.out m).toList = leb m := by
    rw [Varint.out, if_pos ⟨by omega, by omega⟩, ByteArray.toList_eq, Int.toNat_natCast]
  have e2 : (s.extract 0 k).toList = s.data.toList.take k := by
    rw [ByteArray.toList_eq]
    simp
  rw [e1, e2, beq_iff_eq, GoodV, hm]


theorem low7 (b : Nat) (h : b < 256) : bits .and .u8 (b : Int) 127 = (b : Int) % 128 :=
  Bit.u8_mask 7 (by decide) b (by omega) (by omega)

/-- The step of the program's sum: the groups so far and the new one, shifted. -/
theorem join_val (s : ByteArray) (k : Nat) (hk : k < s.size) (h7 : k < 7) (b : Nat) (hb : b = s[k].toNat) :
    bits .or .i64 (val (s.data.toList.take k) : Nat) (wrap64 ((b : Int) % 128 * 2 ^ (7 * k))) = (val (s.data.toList.take (k + 1)) : Nat) := by
  have hl : k < s.data.toList.length := by rw [Array.length_toList]; exact hk
  have hlen : (s.data.toList.take k).length = k := by rw [List.length_take]; omega
  have e : s.data.toList.take (k + 1) = s.data.toList.take k ++ [s[k]] := List.take_succ_eq_append_getElem hl
  have hv := val_lt (s.data.toList.take k)
  rw [e, val_snoc, hlen]
  rw [hlen] at hv
  rw [← hb]
  generalize val (s.data.toList.take k) = m at *
  have hp : (128 : Nat) ^ k = 2 ^ (7 * k) := by rw [Nat.pow_mul]
  have hpi : (2 : Int) ^ (7 * k) = ((128 ^ k : Nat) : Int) := by rw [hp, Int.natCast_pow]; rfl
  have hle : (128 : Nat) ^ k ≤ 128 ^ 6 := Nat.pow_le_pow_right (by decide) (by omega)
  have h6 : (128 : Nat) ^ 6 = 4398046511104 := by decide
  have hprod : b % 128 * 128 ^ k ≤ 127 * 128 ^ k := Nat.mul_le_mul_right _ (by omega)
  have hbp : (b : Int) % 128 * 2 ^ (7 * k) = ((b % 128 * 128 ^ k : Nat) : Int) := by
    rw [hpi, Int.natCast_mul, Int.natCast_emod]
    rfl
  rw [hbp, IntWalk.wrap64_in _ ⟨by omega, by omega⟩, Bit.bits_or_comm]
  have hmod : ((b % 128 * 128 ^ k : Nat) : Int) % 2 ^ (7 * k) = 0 := by
    rw [hpi]
    exact_mod_cast Nat.mul_mod_left _ _
  rw [Bit.i64_join (7 * k) _ _ (by omega) hmod (by omega) (by omega) (by rw [hpi]; omega) (by omega)]
  omega

set_option maxRecDepth 100000 in
set_option maxHeartbeats 400000 in
theorem impl_any (s : ByteArray) (w : World) (hs : s.size ≤ 9223372036854775807) :
    Calls Tryd.prog 10 #[.string s] w (Ans s w) := by
  have hlen : s.data.toList.length = s.size := Array.length_toList
  have HL := Lib.hid hlen
  clear hlen
  go_enter Tryd.func10, Tryd.ntmps10
  go_wp2
  go_loop [4, 5] (fun a i => ∃ k : Nat, k ≤ 7 ∧ k ≤ s.size ∧ i = .int .i64 k ∧ a = .int .i64 (val (s.data.toList.take k) : Nat) ∧ Hid (∀ j, (hj : j < k) → (hjl : j < s.data.toList.length) → 128 ≤ (s.data.toList[j]).toNat)) (fun _ i => 7 - (intOf i).toNat)
  case atStart => exact ⟨0, by decide, by omega, rfl, rfl, fun j h1 h2 => by omega⟩
  case round =>
    obtain ⟨k, hk7, hks, rfl, rfl, hh⟩ := hrel
    by_cases h7 : k < 7
    · by_cases hle : k < s.size
      · have hlow := low7 s[k].toNat s[k].toNat_lt
        have hby := s[k].toNat_lt
        have hjoin := join_val s k hle h7 s[k].toNat rfl
        have hd := Lib.hid (decoded_at (l := s.data.toList) h7 (by rw [HL.out]; exact hle) (fun j hj => hh.out j hj _))
        generalize val (s.data.toList.take k) = m at *
        generalize hx : val (s.data.toList.take (k + 1)) = x at *
        have Hx := Lib.hid hx
        clear hx
        by_cases h127 : s[k].toNat ≤ 127
        · have q1 : IntKind.i64.wrap ((k : Int) + 1) = (k : Int) + 1 := IntWalk.i64_in _ (by omega)
          have q2 : (0 : Int) ≤ (k : Int) + 1 := by omega
          have q3 : ((k : Int) + 1).toNat = k + 1 := by omega
          have q4 : (k : Int) + 1 ≤ (s.size : Int) := by omega
          go_wp2
          go_region_held3 (fun _ => True) (trivial) (first | (go_at_call 9; refine (Varint.impl_any _ _).mono ?_; rintro e w1 ⟨rfl, hb1⟩))
          go_wp2
          · have ht : (!(Varint.out x).toList == (s.extract 0 (k + 1)).toList) = true := by assumption
            go_ret2
            refine ⟨0, 0, rfl, (hd.out (by rw [← byte_at s k hle]; omega)).2 (fun g => ?_), undrew hb1⟩
            rw [(test_good s (k + 1) x Hx.out (by omega)).2 g] at ht
            cases ht
          · have ht : (!(Varint.out x).toList == (s.extract 0 (k + 1)).toList) = false := by assumption
            go_ret2
            refine ⟨x, k + 1, by go_num, ?_, undrew hb1⟩
            have := (hd.out (by rw [← byte_at s k hle]; omega)).1 ((test_good s (k + 1) x Hx.out (by omega)).1 (by simpa using ht))
            exact this
        · go_wp2
          go_round
          case rel => exact ⟨k + 1, by omega, by omega, by go_num, by rw [Hx.out], fun j h1 h2 => by
            by_cases e : j = k
            · subst e; rw [← byte_at s j hle]; omega
            · exact hh.out j (by omega) h2⟩
          case measure => simp [intOf]; omega
      · go_wp2
        go_ret2
        exact ⟨0, 0, rfl, decoded_none (.inr (by rw [HL.out]; omega)) (by rw [HL.out]; omega) (fun j hj => hh.out j hj _), Below.refl _ _⟩
    · go_wp2
      all_goals go_ret2
      all_goals exact ⟨0, 0, rfl, decoded_none (k := k) (.inl (by omega)) (by rw [HL.out]; omega) (fun j hj => hh.out j hj _), Below.refl _ _⟩

end Go.Proofs.YtlmaaiffmomflaaDoor.DecVarint
