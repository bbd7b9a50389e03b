/- Varints: the model's and the program's encoders give the same bytes. -/
import Derived.Test.YtlmaaiffmomflaaDoorFixed
import Derived.Test.YtlmaaiffmomflaaDoorBit
namespace Go.Proofs.YtlmaaiffmomflaaDoor.Varint
open Go Go.RowKit Byt Fixed

/-- The varint of n. -/
def leb (n : Nat) : List UInt8 := if n < 128 then [UInt8.ofNat n] else UInt8.ofNat (128 + n % 128) :: leb (n / 128)
termination_by n
decreasing_by omega

theorem leb_low {n : Nat} (h : n < 128) : leb n = [UInt8.ofNat n] := by rw [leb, if_pos h]
theorem leb_high {n : Nat} (h : 128 ≤ n) : leb n = UInt8.ofNat (128 + n % 128) :: leb (n / 128) := by rw [leb, if_neg (by omega)]

theorem leb_length (k : Nat) : ∀ n, n < 128 ^ (k + 1) → (leb n).length ≤ k + 1 := by
  induction k with
  | zero =>
    intro n h
    rw [leb_low (by omega)]
    simp
  | succ k ih =>
    intro n h
    by_cases hn : n < 128
    · rw [leb_low hn]; simp
    · rw [leb_high (by omega)]
      have := ih (n / 128) (Nat.div_lt_of_lt_mul (by rw [Nat.pow_succ] at h; omega))
      simp
      omega

theorem leb_seven {n : Nat} (h : n ≤ 562949953421311) : (leb n).length ≤ 7 := leb_length 6 n (by omega)

theorem step_len {l : List UInt8} {m n : Nat} (h : l ++ leb m = leb n) (hn : n ≤ 562949953421311) : l.length ≤ 7 := by
  have := leb_seven hn
  rw [← h, List.length_append] at this
  omega

theorem step {l : List UInt8} {m n : Nat} (h : l ++ leb m = leb n) (hm : 128 ≤ m) : (l ++ [UInt8.ofNat (128 + m % 128)]) ++ leb (m / 128) = leb n := by
  rw [← h, leb_high hm, List.append_assoc]
  rfl

theorem stop {l : List UInt8} {m n : Nat} (h : l ++ leb m = leb n) (hm : m < 128) : l ++ [UInt8.ofNat m] = leb n := by
  rw [← h, leb_low hm]


theorem and127 (m : Nat) (h : m ≤ 9223372036854775807) : bits .and .i64 (m : Int) 127 = (m : Int) % 128 :=
  Bit.i64_mask 7 (by decide) m (by omega) (by omega)
theorem or128 (m : Nat) : bits .or .i64 ((m : Int) % 128) 128 = 128 + (m : Int) % 128 := by
  rw [Bit.bits_or_comm]
  exact Bit.i64_join 7 128 _ (by omega) (by decide) (by decide) (by omega) (by omega) (by omega)

set_option maxRecDepth 100000 in
set_option maxHeartbeats 400000 in
theorem impl_yes (n : Nat) (w : World) (hn : n ≤ 562949953421311) :
    Calls Tryd.prog 9 #[.int .i64 n] w fun e w' => e = .returned (.string ⟨(leb n).toArray⟩) ∧ Below w.heap.size w w' := by
  have h63 : n ≤ 9223372036854775807 := by omega
  have h0 : decide ((n : Int) < 0) = false := by simp
  have h1 : decide (562949953421311 < (n : Int)) = false := by simp; omega
  have Hn := Lib.hid hn
  clear hn
  go_enter Tryd.func9, Tryd.ntmps9
  go_wp2
  go_loopw [0, 3] (fun a v wr => ∃ (m : Nat) (l : List UInt8), a = .int .i64 m ∧ m ≤ n ∧ Own wr w.heap.size 5 v l ∧ Hid (l ++ leb m = leb n) ∧ Below w.heap.size w wr) (fun a _ _ => (intOf a).toNat)
  case atStart => exact ⟨n, [], rfl, Nat.le_refl _, Own.nil _ _ _, rfl, Below.refl _ _⟩
  case round =>
    obtain ⟨m, l, rfl, hm, hown, hl, hb⟩ := hrel
    have hlen := step_len hl.out Hn.out
    have hbs := hb.size
    by_cases hlt : 127 < m
    · have ha := and127 m (by omega)
      have ho := or128 m
      go_wp2_with (at_builtin; refine wp_append1 rfl (.tmp 12) (.tmp 17) 22 rfl w.heap.size 5 Tryd.underlying22 info_u8 _ l rfl hown _ rfl (by omega) (by omega) (by omega) hbs ?_)
      intro v' w1 hown1 hb1
      clear hown ha ho
      go_wp2
      go_roundw
      case rel =>
        refine ⟨m / 128, _, by go_num, by omega, hown1, ?_, hb.trans hb1⟩
        have e : ((128 : Int) + (m : Int) % 128).toNat = 128 + m % 128 := by omega
        rw [e]
        exact step hl.out hlt
      case measure => simp [intOf]; omega
    · go_wp2_with (at_builtin; refine wp_append1 rfl (.tmp 21) (.tmp 24) 22 rfl w.heap.size 5 Tryd.underlying22 info_u8 _ l rfl hown _ rfl (by omega) (by omega) (by omega) hbs ?_)
      intro v' w1 hown1 hb1
      clear hown
      have hst := hown1.string (P := Tryd.prog) 22 9 Tryd.underlying22 Tryd.underlying5 Tryd.underlying9
      go_wp2
      go_ret
      exact ⟨ret_str (by have := stop hl.out (show m < 128 by omega); simp [← this]), hb.trans hb1⟩


theorem impl_no (n : Int) (w : World) (h : ¬ (0 ≤ n ∧ n ≤ 562949953421311)) :
    Calls Tryd.prog 9 #[.int .i64 n] w fun e w' => e = .returned (.string .empty) ∧ Below w.heap.size w w' := by
  by_cases h0 : n < 0
  · go_enter Tryd.func9, Tryd.ntmps9
    go_wp2
    go_ret
    exact ⟨rfl, Below.refl _ _⟩
  · have h0 : decide (n < 0) = false := by simp; omega
    have h1 : decide (562949953421311 < n) = true := by simp; omega
    go_enter Tryd.func9, Tryd.ntmps9
    go_wp2
    go_ret
    exact ⟨rfl, Below.refl _ _⟩

/-- Either encoder, at every argument. -/
def out (n : Int) : ByteArray := if 0 ≤ n ∧ n ≤ 562949953421311 then ⟨(leb n.toNat).toArray⟩ else .empty


theorem impl_any (n : Int) (w : World) :
    Calls Tryd.prog 9 #[.int .i64 n] w fun e w' => e = .returned (.string (out n)) ∧ Below w.heap.size w w' := by
  by_cases hc : 0 ≤ n ∧ n ≤ 562949953421311
  · rw [out, if_pos hc]
    obtain ⟨n, rfl⟩ := Int.eq_ofNat_of_zero_le hc.1
    exact impl_yes n w (by omega)
  · rw [out, if_neg hc]
    exact impl_no n w hc

end Go.Proofs.YtlmaaiffmomflaaDoor.Varint
