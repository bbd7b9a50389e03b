/- Fixed-width encodings: the model's and the program's functions give the same bytes. -/
import Derived.Test.YtlmaaiffmomflaaDoorRows
import Derived.Test.YtlmaaiffmomflaaDoorByt
import Derived.WalkKit
import Derived.WalkSpells
import Derived.WalkLawsBesides
import Derived.Lib.Hide
namespace Go.Proofs.YtlmaaiffmomflaaDoor.Fixed
open Go Go.RowKit Byt

theorem l1In_any (x a b : Int) (w : World) : Calls Tryd.prog 26 #[.int .i64 x, .int .i64 a, .int .i64 b] w fun e w' => e = .returned (.bool (decide (a ≤ x) && decide (x ≤ b))) ∧ w = w' := by
  by_cases h : a ≤ x <;> by_cases h' : x ≤ b
  all_goals
    go_enter Tryd.func26, Tryd.ntmps26
    go_wp2
    go_ret
    exact ⟨by simp [*], rfl⟩

theorem l1In_yes {x a b : Int} (h : a ≤ x) (h' : x ≤ b) (w : World) : Calls Tryd.prog 26 #[.int .i64 x, .int .i64 a, .int .i64 b] w fun e w' => e = .returned (.bool true) ∧ w = w' :=
  (l1In_any x a b w).mono fun _ _ ⟨he, hw⟩ => ⟨by rw [he]; simp [h, h'], hw⟩
theorem l1In_no {x a b : Int} (h : ¬ (a ≤ x ∧ x ≤ b)) (w : World) : Calls Tryd.prog 26 #[.int .i64 x, .int .i64 a, .int .i64 b] w fun e w' => e = .returned (.bool false) ∧ w = w' :=
  (l1In_any x a b w).mono fun _ _ ⟨he, hw⟩ => ⟨by rw [he]; by_cases q : a ≤ x <;> by_cases q' : x ≤ b <;> simp_all, hw⟩

/-- The low k bytes of n, the most significant first. -/
def be (n : Nat) : Nat → List UInt8
  | 0 => []
  | k + 1 => UInt8.ofNat (n / 256 ^ k % 256) :: be n k

theorem be_length (n k : Nat) : (be n k).length = k := by
  induction k with
  | zero => rfl
  | succ k ih => simp [be, ih]

def enc (n width : Nat) : ByteArray := if n < 256 ^ width then ⟨(be n width).toArray⟩ else .empty

theorem enc_yes {n k m : Nat} (hm : n / 256 ^ k = m) (h : m = 0) : enc n k = ⟨(be n k).toArray⟩ := by
  subst hm
  unfold enc
  rw [if_pos]
  exact Nat.lt_of_div_eq_zero (Nat.pow_pos (by decide)) h
theorem enc_no {n k m : Nat} (hm : n / 256 ^ k = m) (h : 0 < m) : enc n k = .empty := by
  subst hm
  unfold enc
  rw [if_neg]
  intro q
  rw [Nat.div_eq_of_lt q] at h
  omega

set_option maxHeartbeats 400000 in
theorem spec_yes (n width : Nat) (w : World) (h1 : 1 ≤ width) (h2 : width ≤ 7) (h4 : n ≤ 9223372036854775807) :
    Calls Tryd.prog 14 #[.int .i64 n, .int .i64 width] w fun e w' => e = .returned (.string (enc n width)) ∧ Below w.heap.size w w' := by
  have hn : decide ((n : Int) < 0) = false := by simp
  go_enter Tryd.func14, Tryd.ntmps14
  go_wp2_with (go_at_call 26; refine (l1In_yes (by omega) (by omega) _).mono ?_; rintro e w' ⟨rfl, rfl⟩)
  go_loopw [0, 5, 6] (fun m out i wr => ∃ k : Nat, k ≤ width ∧ i = .int .i64 k ∧ m = .int .i64 (n / 256 ^ k : Nat) ∧ out = .string ⟨(be n k).toArray⟩ ∧ Below w.heap.size w wr) (fun _ _ i _ => width - (intOf i).toNat)
  case atStart => exact ⟨0, Nat.zero_le _, rfl, by simp, rfl, Below.refl _ _⟩
  case round =>
    obtain ⟨k, hk, rfl, rfl, rfl, hb⟩ := hrel
    generalize hm : n / 256 ^ k = m
    have hmb : m ≤ n := by subst hm; exact Nat.div_le_self _ _
    have hl : (be n k).length ≤ 7 := by rw [be_length]; omega
    have Hm := Lib.hid hm
    clear hm
    have hs1 := fun (w : World) (x : Int) => string_one (P := Tryd.prog) 22 9 5 Tryd.underlying22 Tryd.underlying5 Tryd.underlying9 w x
    by_cases hlt : k < width
    · have hs2 := hs1 wr ((m : Int) % 256) (by omega) (by omega)
      clear hs1
      go_wp2
      go_roundw
      case rel =>
        refine ⟨k + 1, by omega, by go_num, ?_, ?_, hb.alloc hb.size _⟩
        · rw [Nat.pow_succ, ← Nat.div_div_eq_div_mul, Hm.out]; go_num
        · rw [be, Hm.out]; rfl
      case measure => simp [intOf]; omega
    · clear hs1
      obtain rfl : k = width := by omega
      rcases Nat.eq_zero_or_pos m with hz | hz
      · have hz' : decide (0 < m) = false := by simp; omega
        have HZ := Lib.hid hz
        clear hz
        go_wp2
        go_ret
        exact ⟨ret_str (enc_yes Hm.out HZ.out).symm, hb⟩
      · have hz' : decide (0 < m) = true := by simp; omega
        go_wp2
        go_ret
        exact ⟨ret_str (enc_no Hm.out hz).symm, hb⟩

/-- Out of range: the empty string. -/
theorem spec_no (n width : Int) (w : World) (h : ¬ (1 ≤ width ∧ width ≤ 7 ∧ 0 ≤ n)) :
    Calls Tryd.prog 14 #[.int .i64 n, .int .i64 width] w fun e w' => e = .returned (.string .empty) ∧ Below w.heap.size w w' := by
  by_cases hw : 1 ≤ width ∧ width ≤ 7
  · have hn : n < 0 := by omega
    go_enter Tryd.func14, Tryd.ntmps14
    go_wp2_with (go_at_call 26; refine (l1In_yes (by omega) (by omega) _).mono ?_; rintro e w' ⟨rfl, rfl⟩)
    go_ret
    exact ⟨rfl, Below.refl _ _⟩
  · go_enter Tryd.func14, Tryd.ntmps14
    go_wp2_with (go_at_call 26; refine (l1In_no hw _).mono ?_; rintro e w' ⟨rfl, rfl⟩)
    go_ret
    exact ⟨rfl, Below.refl _ _⟩

theorem isFixed_yes {x : Int} (h : 1 ≤ x) (h' : x ≤ 7) (w : World) : Calls Tryd.prog 25 #[.int .i64 x] w fun e w' => e = .returned (.bool true) ∧ w = w' := by
  go_enter Tryd.func25, Tryd.ntmps25
  go_wp2
  go_ret
  exact ⟨by simp [*], rfl⟩
theorem isFixed_no {x : Int} (h : ¬ (1 ≤ x ∧ x ≤ 7)) (w : World) : Calls Tryd.prog 25 #[.int .i64 x] w fun e w' => e = .returned (.bool false) ∧ w = w' := by
  by_cases h1 : 1 ≤ x
  · have h2 : 7 < x := by omega
    go_enter Tryd.func25, Tryd.ntmps25
    go_wp2
    go_ret
    exact ⟨by simp [*], rfl⟩
  · go_enter Tryd.func25, Tryd.ntmps25
    go_wp2
    go_ret
    exact ⟨by simp [*], rfl⟩

theorem impl_no (n width : Int) (w : World) (h : ¬ (1 ≤ width ∧ width ≤ 7 ∧ 0 ≤ n)) :
    Calls Tryd.prog 12 #[.int .i64 n, .int .i64 width] w fun e w' => e = .returned (.string .empty) ∧ Below w.heap.size w w' := by
  by_cases hw : 1 ≤ width ∧ width ≤ 7
  · have hn : n < 0 := by omega
    go_enter Tryd.func12, Tryd.ntmps12
    go_wp2_with (go_at_call 25; refine (isFixed_yes (by omega) (by omega) _).mono ?_; rintro e w' ⟨rfl, rfl⟩)
    go_ret
    exact ⟨rfl, Below.refl _ _⟩
  · go_enter Tryd.func12, Tryd.ntmps12
    go_wp2_with (go_at_call 25; refine (isFixed_no hw _).mono ?_; rintro e w' ⟨rfl, rfl⟩)
    go_ret
    exact ⟨rfl, Below.refl _ _⟩

theorem shifted (n width : Nat) : ((n : Int) / 2 ^ (8 * width) != 0) = !decide (n < 256 ^ width) := by
  have e : (2 : Int) ^ (8 * width) = ((256 ^ width : Nat) : Int) := by
    rw [Int.pow_mul, Int.natCast_pow]
    rfl
  rw [e, ← Int.natCast_ediv]
  have hp : 0 < 256 ^ width := Nat.pow_pos (by decide)
  by_cases h : n < 256 ^ width
  · simp [h, Nat.div_eq_of_lt h]
  · have : n / 256 ^ width ≠ 0 := fun q => h (Nat.lt_of_div_eq_zero hp q)
    simp only [h, decide_false, Bool.not_false, bne_iff_ne, ne_eq]
    omega

theorem set_be (n k width : Nat) (hk : k < width) : (List.replicate (width - k) (0 : UInt8) ++ be n k).set (width - 1 - k) (UInt8.ofNat (n / 256 ^ k % 256)) = List.replicate (width - (k + 1)) 0 ++ be n (k + 1) := by
  obtain ⟨j, rfl⟩ : ∃ j, width = k + 1 + j := ⟨width - (k + 1), by omega⟩
  have e1 : k + 1 + j - k = j + 1 := by omega
  have e2 : k + 1 + j - 1 - k = j := by omega
  have e3 : k + 1 + j - (k + 1) = j := by omega
  rw [e1, e2, e3, List.replicate_succ', List.append_assoc, List.set_append_right _ _ (by simp)]
  simp [be]

theorem byte_cast (m : Nat) : (m : Int) % 256 = ((UInt8.ofNat (m % 256)).toNat : Int) := by
  simp

set_option maxHeartbeats 400000 in
theorem impl_long (n width : Nat) (w : World) (h1 : 1 ≤ width) (h2 : width ≤ 7) (h : ¬ n < 256 ^ width) :
    Calls Tryd.prog 12 #[.int .i64 n, .int .i64 width] w fun e w' => e = .returned (.string (enc n width)) ∧ Below w.heap.size w w' := by
  have hn : decide ((n : Int) < 0) = false := by simp
  have hs : ((n : Int) / 2 ^ (8 * width) != 0) = true := by rw [shifted]; simp [h]
  have he : enc n width = .empty := by simp [enc, h]
  rw [he]
  go_enter Tryd.func12, Tryd.ntmps12
  go_wp2_with (go_at_call 25; refine (isFixed_yes (by omega) (by omega) _).mono ?_; rintro e w' ⟨rfl, rfl⟩)
  go_ret
  exact ⟨rfl, Below.refl _ _⟩

theorem info_u8 : (Tryd.prog.info? 5).map (fun i => (i.zero, i.size, i.bytes)) = some (some (.int .u8 0), 1, 1) := by kernel_rfl

set_option maxHeartbeats 400000 in
theorem impl_short (n width : Nat) (w : World) (h1 : 1 ≤ width) (h2 : width ≤ 7) (_h4 : n ≤ 9223372036854775807) (h : n < 256 ^ width) :
    Calls Tryd.prog 12 #[.int .i64 n, .int .i64 width] w fun e w' => e = .returned (.string (enc n width)) ∧ Below w.heap.size w w' := by
  have hn : decide ((n : Int) < 0) = false := by simp
  have hs : ((n : Int) / 2 ^ (8 * width) != 0) = false := by rw [shifted]; simp [h]
  have he : enc n width = ⟨(be n width).toArray⟩ := by simp [enc, h]
  rw [he]
  clear he h
  obtain ⟨i0, hi, hz0, hz1, hz2⟩ := info_parts info_u8
  go_enter Tryd.func12, Tryd.ntmps12
  go_wp2_with (first | (at_make; refine wpList_make_full _ rfl _ _ 22 rfl w.heap.size 5 i0 (.int .u8 0) 1 Tryd.underlying22 hi hz0 hz1 _ _ _ _ width rfl rfl rfl rfl (by rw [hz2]; omega) (by unfold maxLen; omega) (Nat.le_refl _) ?_) | (go_at_call 25; refine (isFixed_yes (by omega) (by omega) _).mono ?_; rintro e w' ⟨rfl, rfl⟩))
  intro w1 hown hg
  have hown := Own.made hown
  have hb1 : Below w.heap.size w w1 := (Below.refl _ _).grown hg (Nat.le_refl _) (by simp)
  clear hg
  have hsz : w.heap.size ≤ w1.heap.size := hb1.size
  go_wp2
  go_loopw [0, 6] (fun m i wr => ∃ k : Nat, k ≤ width ∧ i = .int .i64 ((width : Int) - 1 - k) ∧ m = .int .i64 (n / 256 ^ k : Nat) ∧ Own wr w.heap.size 5 (.slice (some ⟨w.heap.size, 0, none⟩) width width) (List.replicate (width - k) 0 ++ be n k) ∧ Below w.heap.size w wr) (fun _ i _ => (intOf i + 1).toNat)
  case atStart => exact ⟨0, Nat.zero_le _, by simp, by simp, by simpa [be] using hown, hb1⟩
  case round =>
    obtain ⟨k, hk, rfl, rfl, hown, hb⟩ := hrel
    generalize hm : n / 256 ^ k = m
    have hmb : m ≤ n := by subst hm; exact Nat.div_le_self _ _
    have Hm := Lib.hid hm
    clear hm
    have hlen : (List.replicate (width - k) (0 : UInt8) ++ be n k).length = width := by simp [be_length]; omega
    by_cases hlt : k < width
    · obtain ⟨j, hj⟩ : ∃ j : Nat, (width : Int) - 1 - k = j := ⟨width - 1 - k, by omega⟩
      have hjw : j < width := by omega
      have hc := hown.cellAt hlen j hjw
      have hf := hown.frozenAt hlen j
      rw [hj]
      have Hl := Lib.hid hlen
      have Hj := Lib.hid hj
      clear hlen hj
      go_wp2
      go_roundw
      case rel =>
        refine ⟨k + 1, by omega, ?_, ?_, ?_, hb.setCell (Nat.le_refl _) _⟩
        · have := Hj.out; go_num
        · rw [Nat.pow_succ, ← Nat.div_div_eq_div_mul, Hm.out]; go_num
        · have hst := hown.stored Hl.out j (UInt8.ofNat (m % 256))
          have e : j = width - 1 - k := by have := Hj.out; omega
          subst e
          rw [← Hm.out, set_be n k width hlt, Hm.out] at hst
          rw [byte_cast]
          exact hst
      case measure => simp [intOf]
    · obtain rfl : k = width := by omega
      have hst := hown.string (P := Tryd.prog) 22 9 Tryd.underlying22 Tryd.underlying5 Tryd.underlying9
      clear hlen
      go_wp2
      go_ret
      exact ⟨ret_str (by simp), hb⟩

/-- Either function, at every argument. -/
def out (n width : Int) : ByteArray := if 1 ≤ width ∧ width ≤ 7 ∧ 0 ≤ n then enc n.toNat width.toNat else .empty

theorem spec_any (n width : Int) (w : World) (h : n ≤ 9223372036854775807) :
    Calls Tryd.prog 14 #[.int .i64 n, .int .i64 width] w fun e w' => e = .returned (.string (out n width)) ∧ Below w.heap.size w w' := by
  by_cases hc : 1 ≤ width ∧ width ≤ 7 ∧ 0 ≤ n
  · obtain ⟨n, rfl⟩ := Int.eq_ofNat_of_zero_le hc.2.2
    obtain ⟨width, rfl⟩ := Int.eq_ofNat_of_zero_le (show 0 ≤ width by omega)
    rw [out, if_pos hc]
    exact spec_yes n width w (by omega) (by omega) (by omega)
  · rw [out, if_neg hc]
    exact spec_no n width w hc

theorem impl_any (n width : Int) (w : World) (h : n ≤ 9223372036854775807) :
    Calls Tryd.prog 12 #[.int .i64 n, .int .i64 width] w fun e w' => e = .returned (.string (out n width)) ∧ Below w.heap.size w w' := by
  by_cases hc : 1 ≤ width ∧ width ≤ 7 ∧ 0 ≤ n
  · obtain ⟨n, rfl⟩ := Int.eq_ofNat_of_zero_le hc.2.2
    obtain ⟨width, rfl⟩ := Int.eq_ofNat_of_zero_le (show 0 ≤ width by omega)
    rw [out, if_pos hc]
    by_cases hs : n < 256 ^ width
    · exact impl_short n width w (by omega) (by omega) (by omega) hs
    · exact impl_long n width w (by omega) (by omega) hs
  · rw [out, if_neg hc]
    exact impl_no n width w hc

end Go.Proofs.YtlmaaiffmomflaaDoor.Fixed
