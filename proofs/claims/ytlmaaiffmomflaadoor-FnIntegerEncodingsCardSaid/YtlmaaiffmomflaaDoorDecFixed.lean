/- Fixed-width decoding: the model's and the program's functions give the same number. -/
import Derived.Test.YtlmaaiffmomflaaDoorFixed
import Derived.Test.YtlmaaiffmomflaaDoorBit
namespace Go.Proofs.YtlmaaiffmomflaaDoor.DecFixed
open Go Go.RowKit Byt Fixed

/-- The number that the bytes encode, the most significant first. -/
def de (l : List UInt8) : Nat := l.foldl (fun n b => n * 256 + b.toNat) 0

theorem de_snoc (l : List UInt8) (b : UInt8) : de (l ++ [b]) = de l * 256 + b.toNat := by simp [de]

theorem take_snoc (s : ByteArray) (k : Nat) (h : k < s.size) : s.data.toList.take (k + 1) = s.data.toList.take k ++ [s[k]] := by
  rw [List.take_succ_eq_append_getElem (by simpa using h)]; rfl

theorem de_succ (s : ByteArray) (k : Nat) (h : k < s.size) : de (s.data.toList.take (k + 1)) = de (s.data.toList.take k) * 256 + s[k].toNat := by
  rw [take_snoc s k h, de_snoc]

theorem de_lt (s : ByteArray) (k : Nat) (h : k ≤ s.size) : de (s.data.toList.take k) < 256 ^ k := by
  induction k with
  | zero => simp [de]
  | succ k ih =>
    have := ih (by omega)
    have := (s[k]'(by omega)).toNat_lt
    rw [de_succ s k (by omega), Nat.pow_succ]
    omega

theorem de_bound (s : ByteArray) (k : Nat) (h : k ≤ s.size) (h7 : k ≤ 7) : de (s.data.toList.take k) < 72057594037927936 :=
  Nat.lt_of_lt_of_le (de_lt s k h) (Nat.pow_le_pow_right (n := 256) (by decide) h7)

theorem de_bound6 (s : ByteArray) (k : Nat) (h : k ≤ s.size) (h7 : k ≤ 6) : de (s.data.toList.take k) < 281474976710656 :=
  Nat.lt_of_lt_of_le (de_lt s k h) (Nat.pow_le_pow_right (n := 256) (by decide) h7)



theorem impl_no (s : ByteArray) (width : Int) (w : World) (_hs : s.size ≤ 9223372036854775807) (h : ¬ (1 ≤ width ∧ width ≤ 7 ∧ width ≤ s.size)) :
    Calls Tryd.prog 13 #[.string s, .int .i64 width] w fun e w' => e = .returned (.tuple #[.int .i64 0, .bool false]) ∧ w = w' := by
  by_cases hw : 1 ≤ width ∧ width ≤ 7
  · have hn : (s.size : Int) < width := by omega
    go_enter Tryd.func13, Tryd.ntmps13
    go_wp2_with (go_at_call 25; refine (isFixed_yes (by omega) (by omega) _).mono ?_; rintro e w' ⟨rfl, rfl⟩)
    go_ret2
    exact ⟨rfl, rfl⟩
  · go_enter Tryd.func13, Tryd.ntmps13
    go_wp2_with (go_at_call 25; refine (isFixed_no hw _).mono ?_; rintro e w' ⟨rfl, rfl⟩)
    go_ret2
    exact ⟨rfl, rfl⟩

theorem impl_yes (s : ByteArray) (width : Nat) (w : World) (hs : s.size ≤ 9223372036854775807) (h1 : 1 ≤ width) (h2 : width ≤ 7) (h3 : width ≤ s.size) :
    Calls Tryd.prog 13 #[.string s, .int .i64 width] w fun e w' => e = .returned (.tuple #[.int .i64 (de (s.data.toList.take width) : Nat), .bool true]) ∧ w = w' := by
  go_enter Tryd.func13, Tryd.ntmps13
  go_wp2_with (go_at_call 25; refine (isFixed_yes (by omega) (by omega) _).mono ?_; rintro e w' ⟨rfl, rfl⟩)
  go_loop [6, 7] (fun n i => ∃ k : Nat, k ≤ width ∧ i = .int .i64 k ∧ n = .int .i64 (de (s.data.toList.take k) : Nat)) (fun _ i => width - (intOf i).toNat)
  case atStart => exact ⟨0, Nat.zero_le _, rfl, rfl⟩
  case round =>
    obtain ⟨k, hk, rfl, rfl⟩ := hrel
    by_cases hlt : k < width
    · have hb := de_bound6 s k (by omega) (by omega)
      have hS := Lib.hid (de_succ s k (by omega))
      have hks : k < s.size := by omega
      have hby := (s[k]'hks).toNat_lt
      generalize de (s.data.toList.take k) = m at *
      go_wp2
      go_round
      case rel =>
        refine ⟨k + 1, by omega, by go_num, ?_⟩
        rw [hS.out, Bit.i64_or_byte m _ hb hby]
      case measure => simp [intOf]; omega
    · obtain rfl : k = width := by omega
      go_wp2
      go_ret2
      exact ⟨rfl, rfl⟩

end Go.Proofs.YtlmaaiffmomflaaDoor.DecFixed
