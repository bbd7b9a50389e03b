/- Comparing rationals, and the least integer above one: the model's and the program's functions. -/
import Derived.Test.YtkmhfgedbkkihaaDoorRatOps
namespace Go.Proofs.YtkmhfgedbkkihaaDoor.RatCmp
open Go Go.RowKit Byt Ratio RatGcd RatMake RatOps

theorem cmp_yes {n1 d1 n2 d2 : Int} (h : (valid n1 d1 && valid n2 d2) = true) : Ratio.cmp n1 d1 n2 d2 = if n1 * d2 < n2 * d1 then -1 else if n2 * d1 < n1 * d2 then 1 else 0 := by
  unfold Ratio.cmp; rw [if_pos h]
theorem cmp_no {n1 d1 n2 d2 : Int} (h : (valid n1 d1 && valid n2 d2) = false) : Ratio.cmp n1 d1 n2 d2 = 0 := by
  unfold Ratio.cmp; rw [h]; rfl

theorem isNaN_any (x : Int) (w : World) : Calls Tryd.prog 43 #[.int .i64 x] w fun e w' => e = .returned (.bool false) ∧ w = w' := by
  go_enter Tryd.func43, Tryd.ntmps43
  go_wp2
  go_ret
  exact ⟨ret_bool (by simp), rfl⟩

theorem compare_any (x y : Int) (w : World) : Calls Tryd.prog 32 #[.int .i64 x, .int .i64 y] w fun e w' => e = .returned (.int .i64 (if x < y then -1 else if y < x then 1 else 0)) ∧ w = w' := by
  by_cases h1 : x < y
  · go_enter Tryd.func32, Tryd.ntmps32
    go_wp2_with (go_at_call 43; refine (isNaN_any _ _).mono ?_; rintro e w' ⟨rfl, rfl⟩)
    go_ret
    exact ⟨rfl, rfl⟩
  · by_cases h2 : y < x
    · go_enter Tryd.func32, Tryd.ntmps32
      go_wp2_with (go_at_call 43; refine (isNaN_any _ _).mono ?_; rintro e w' ⟨rfl, rfl⟩)
      go_ret
      exact ⟨rfl, rfl⟩
    · go_enter Tryd.func32, Tryd.ntmps32
      go_wp2_with (go_at_call 43; refine (isNaN_any _ _).mono ?_; rintro e w' ⟨rfl, rfl⟩)
      go_ret
      exact ⟨rfl, rfl⟩

set_option maxRecDepth 100000 in
theorem impl_cmp (n1 d1 n2 d2 : Int) (w : World) (h1 : -9223372036854775808 ≤ n1 ∧ n1 ≤ 9223372036854775807) (h2 : -9223372036854775808 ≤ d1 ∧ d1 ≤ 9223372036854775807) (h3 : -9223372036854775808 ≤ n2 ∧ n2 ≤ 9223372036854775807) (h4 : -9223372036854775808 ≤ d2 ∧ d2 ≤ 9223372036854775807) :
    Calls Tryd.prog 13 #[.agg #[.int .i64 n1, .int .i64 d1], .agg #[.int .i64 n2, .int .i64 d2]] w fun e w' => e = .returned (.int .i64 (Ratio.cmp n1 d1 n2 d2)) ∧ Below w.heap.size w w' := by
  have H1 := Lib.hid (fun w => impl_both n1 d1 n2 d2 w h1 h2 h3 h4)
  clear h1 h2 h3 h4
  by_cases hv : (valid n1 d1 && valid n2 d2) = true
  · obtain ⟨hva, hvb⟩ := Bool.and_eq_true_iff.1 hv
    obtain ⟨a1, a2, a3⟩ := bd hva
    obtain ⟨b1, b2, b3⟩ := bd hvb
    obtain ⟨m0, k0⟩ := mul_bd a1 b3
    obtain ⟨m1, k1⟩ := mul_bd b1 a3
    have hc := fun w => compare_any (n1 * d2) (n2 * d1) w
    rw [← cmp_yes hv] at hc
    have HC := Lib.hid hc
    clear hva hvb a1 a2 a3 b1 b2 b3 hc
    go_enter Tryd.func13, Tryd.ntmps13
    go_wp2_with fail
    refine (H1.out _).mono ?_
    rintro e w1 ⟨rfl, hb1⟩
    rw [hv]
    obtain ⟨p0, p1, _, _⟩ := row_cells (row_later hb1 (alloc_at1 w _ _) (by simp; omega))
    obtain ⟨q0, q1, _, _⟩ := row_cells (row_later hb1 (alloc_at2 w _ _) (by simp))
    have HB := Lib.hid hb1
    clear hb1 hv
    go_wp2_with fail
    refine (HC.out _).mono ?_
    rintro e w2 ⟨rfl, rfl⟩
    go_wp2_with fail
    go_ret
    exact ⟨rfl, (((Below.refl _ _).alloc (Nat.le_refl _) _).alloc (by simp) _).trans (HB.out.mono (by simp; omega))⟩
  · have hv : (valid n1 d1 && valid n2 d2) = false := by simpa using hv
    have HO := Lib.hid (cmp_no hv)
    go_enter Tryd.func13, Tryd.ntmps13
    go_wp2_with fail
    refine (H1.out _).mono ?_
    rintro e w1 ⟨rfl, hb1⟩
    rw [hv]
    have HB := Lib.hid hb1
    clear hb1 hv
    go_wp2_with fail
    go_ret
    exact ⟨ret_int HO.out.symm, (((Below.refl _ _).alloc (Nat.le_refl _) _).alloc (by simp) _).trans (HB.out.mono (by simp; omega))⟩

set_option maxRecDepth 100000 in
theorem spec_cmp (n1 d1 n2 d2 : Int) (w : World) :
    Calls Tryd.prog 14 #[.agg #[.int .i64 n1, .int .i64 d1], .agg #[.int .i64 n2, .int .i64 d2]] w fun e w' => e = .returned (.int .i64 (Ratio.cmp n1 d1 n2 d2)) ∧ Below w.heap.size w w' := by
  by_cases hva : valid n1 d1 = true
  case neg =>
    have hva : valid n1 d1 = false := by simpa using hva
    have HO := Lib.hid (cmp_no (show (valid n1 d1 && valid n2 d2) = false by rw [hva]; rfl))
    go_enter Tryd.func14, Tryd.ntmps14
    go_wp2_with fail
    refine (spec_valid n1 d1 _).mono ?_
    rintro e w1 ⟨rfl, hb1⟩
    rw [hva]
    have HB := Lib.hid hb1
    clear hb1 hva
    go_wp2_with fail
    go_ret
    exact ⟨ret_int HO.out.symm, (((Below.refl _ _).alloc (Nat.le_refl _) _).alloc (by simp) _).trans (HB.out.mono (by simp; omega))⟩
  by_cases hvb : valid n2 d2 = true
  case neg =>
    have hvb : valid n2 d2 = false := by simpa using hvb
    have HO := Lib.hid (cmp_no (show (valid n1 d1 && valid n2 d2) = false by rw [hva, hvb]; rfl))
    go_enter Tryd.func14, Tryd.ntmps14
    go_wp2_with fail
    refine (spec_valid n1 d1 _).mono ?_
    rintro e w1 ⟨rfl, hb1⟩
    rw [hva]
    have hs1 : w.heap.size + 2 ≤ w1.heap.size := by have := hb1.size; simp at this; exact this
    obtain ⟨q0, q1, _, _⟩ := row_cells (row_later hb1 (alloc_at2 w _ _) (by simp))
    have HB := Lib.hid hb1
    clear hb1 hva
    go_wp2_with fail
    refine (spec_valid n2 d2 _).mono ?_
    rintro e w2 ⟨rfl, hb2⟩
    rw [hvb]
    have HB2 := Lib.hid hb2
    clear hb2 hvb
    go_wp2_with fail
    go_ret
    exact ⟨ret_int HO.out.symm, ((((Below.refl _ _).alloc (Nat.le_refl _) _).alloc (by simp) _).trans (HB.out.mono (by simp; omega))).trans (HB2.out.mono (by omega))⟩
  have hv : (valid n1 d1 && valid n2 d2) = true := by rw [hva, hvb]; rfl
  obtain ⟨a1, a2, a3⟩ := bd hva
  obtain ⟨b1, b2, b3⟩ := bd hvb
  obtain ⟨m0, k0⟩ := mul_bd a1 b3
  obtain ⟨m1, k1⟩ := mul_bd b1 a3
  have HO := Lib.hid (cmp_yes hv)
  clear hv a1 a2 a3 b1 b2 b3
  go_enter Tryd.func14, Tryd.ntmps14
  go_wp2_with fail
  refine (spec_valid n1 d1 _).mono ?_
  rintro e w1 ⟨rfl, hb1⟩
  rw [hva]
  have hs1 : w.heap.size + 2 ≤ w1.heap.size := by have := hb1.size; simp at this; exact this
  have rA := Lib.hid (row_later hb1 (alloc_at1 w _ _) (by simp; omega))
  have rB := Lib.hid (row_later hb1 (alloc_at2 w _ _) (by simp))
  obtain ⟨q0, q1, _, _⟩ := row_cells rB.out
  have HB := Lib.hid hb1
  clear hb1 hva
  go_wp2_with fail
  refine (spec_valid n2 d2 _).mono ?_
  rintro e w2 ⟨rfl, hb2⟩
  rw [hvb]
  obtain ⟨p0, p1, _, _⟩ := row_cells (row_later hb2 rA.out (by omega))
  obtain ⟨s0, s1, _, _⟩ := row_cells (row_later hb2 rB.out (by omega))
  have HB2 := Lib.hid hb2
  clear hb2 hvb q0 q1
  have HBL := Lib.hid (show Below w.heap.size w w2 from ((((Below.refl _ _).alloc (Nat.le_refl _) _).alloc (by simp) _).trans (HB.out.mono (by simp; omega))).trans (HB2.out.mono (by omega)))
  by_cases h1 : n1 * d2 < n2 * d1
  · have h2 : ¬ n2 * d1 < n1 * d2 := by omega
    have HV := Lib.hid (HO.out.trans (by rw [if_pos h1]) : Ratio.cmp n1 d1 n2 d2 = -1)
    go_wp2_with fail
    go_ret
    exact ⟨ret_int HV.out.symm, HBL.out⟩
  · by_cases h2 : n2 * d1 < n1 * d2
    · have HV := Lib.hid (HO.out.trans (by rw [if_neg h1, if_pos h2]) : Ratio.cmp n1 d1 n2 d2 = 1)
      go_wp2_with fail
      go_ret
      exact ⟨ret_int HV.out.symm, HBL.out⟩
    · have HV := Lib.hid (HO.out.trans (by rw [if_neg h1, if_neg h2]) : Ratio.cmp n1 d1 n2 d2 = 0)
      go_wp2_with fail
      go_ret
      exact ⟨ret_int HV.out.symm, HBL.out⟩
theorem ceil_no {n d : Int} (h : valid n d = false) : Ratio.ceil n d = 0 := by unfold Ratio.ceil; rw [h]; rfl
theorem ceil_pos {n d : Int} (h : valid n d = true) (hn : 0 < n) : Ratio.ceil n d = n / d + (if n % d ≠ 0 then 1 else 0) := by
  unfold Ratio.ceil
  rw [if_pos h, Int.tdiv_eq_ediv_of_nonneg (by omega), Int.tmod_eq_emod_of_nonneg (by omega)]
  by_cases h0 : n % d = 0
  · rw [if_neg (by omega), if_neg (by omega)]
  · rw [if_pos ⟨hn, h0⟩, if_pos h0]
theorem ceil_neg {n d : Int} (h : valid n d = true) (hn : ¬ 0 < n) : Ratio.ceil n d = n.tdiv d := by
  unfold Ratio.ceil
  rw [if_pos h, if_neg (by omega)]
  omega
theorem q_pos {n d : Int} (hn : 0 < n) (hd : 1 ≤ d) : n / d * d + n % d = n ∧ 0 ≤ n % d ∧ n % d < d ∧ 0 ≤ n / d ∧ n / d ≤ n := by
  refine ⟨Int.ediv_mul_add_emod n d, Int.emod_nonneg _ (by omega), Int.emod_lt_of_pos _ (by omega), Int.ediv_nonneg (by omega) (by omega), ?_⟩
  exact Int.ediv_le_self _ (by omega)
theorem q_neg {n d : Int} (hn : ¬ 0 < n) (hd : 1 ≤ d) : n.tdiv d * d + n.tmod d = n ∧ n.tmod d ≤ 0 ∧ -d < n.tmod d ∧ n ≤ n.tdiv d ∧ n.tdiv d ≤ 0 := by
  obtain ⟨m, hm⟩ := Int.eq_ofNat_of_zero_le (show 0 ≤ -n by omega)
  obtain rfl : n = -(m : Int) := by omega
  rw [Int.neg_tdiv, Int.neg_tmod, Int.tdiv_eq_ediv_of_nonneg (by omega), Int.tmod_eq_emod_of_nonneg (by omega)]
  have h1 := Int.ediv_mul_add_emod (m : Int) d
  have h2 := Int.emod_nonneg (m : Int) (show d ≠ 0 by omega)
  have h5 := Int.emod_lt_of_pos (m : Int) (show 0 < d by omega)
  have h3 : 0 ≤ (m : Int) / d := Int.ediv_nonneg (by omega) (by omega)
  have h4 : (m : Int) / d ≤ m := Int.ediv_le_self _ (by omega)
  rw [Int.neg_mul]
  omega

set_option maxRecDepth 100000 in
theorem impl_ceil (n d : Int) (w : World) (h1 : -9223372036854775808 ≤ n ∧ n ≤ 9223372036854775807) (h2 : -9223372036854775808 ≤ d ∧ d ≤ 9223372036854775807) :
    Calls Tryd.prog 18 #[.agg #[.int .i64 n, .int .i64 d]] w fun e w' => e = .returned (.int .i64 (Ratio.ceil n d)) ∧ Below w.heap.size w w' := by
  have H1 := Lib.hid (fun w => impl_valid n d w h1 h2)
  clear h1 h2
  by_cases hv : valid n d = true
  case neg =>
    have hv : valid n d = false := by simpa using hv
    have HO := Lib.hid (ceil_no hv)
    go_enter Tryd.func18, Tryd.ntmps18
    go_wp2_with fail
    refine (H1.out _).mono ?_
    rintro e w1 ⟨rfl, hb1⟩
    rw [hv]
    have HB := Lib.hid hb1
    clear hb1 hv
    go_wp2_with fail
    go_ret
    exact ⟨ret_int HO.out.symm, ((Below.refl _ _).alloc (Nat.le_refl _) _).trans (HB.out.mono (by simp))⟩
  obtain ⟨⟨a1, a2⟩, ⟨b1, b2⟩, _⟩ := bd hv
  by_cases hn : 0 < n
  · have HO := Lib.hid (ceil_pos hv hn)
    obtain ⟨e1, e2, e3, e4, e5⟩ := q_pos hn b1
    have td : n.tdiv d = n / d := Int.tdiv_eq_ediv_of_nonneg (by omega)
    have tm : n.tmod d = n % d := Int.tmod_eq_emod_of_nonneg (by omega)
    generalize n / d = q at *
    generalize n % d = r at *
    by_cases hr : r = 0
    · have HV := Lib.hid (HO.out.trans (by rw [if_neg (by omega)]) : Ratio.ceil n d = q + 0)
      have t : (r != 0) = false := by simp [hr]
      go_enter Tryd.func18, Tryd.ntmps18
      go_wp2_with fail
      refine (H1.out _).mono ?_
      rintro e w1 ⟨rfl, hb1⟩
      rw [hv]
      obtain ⟨p0, p1, _, _⟩ := row_cells (row_later hb1 (alloc_at0 w _) (by simp))
      have HBL := Lib.hid (show Below w.heap.size w w1 from ((Below.refl _ _).alloc (Nat.le_refl _) _).trans (hb1.mono (by simp)))
      clear hb1 hv hr
      go_wp2_with fail
      all_goals
        go_ret
        exact ⟨ret_int (by rw [HV.out]; omega), HBL.out⟩
    · have HV := Lib.hid (HO.out.trans (by rw [if_pos hr]) : Ratio.ceil n d = q + 1)
      have t : (r != 0) = true := by simp [hr]
      go_enter Tryd.func18, Tryd.ntmps18
      go_wp2_with fail
      refine (H1.out _).mono ?_
      rintro e w1 ⟨rfl, hb1⟩
      rw [hv]
      obtain ⟨p0, p1, _, _⟩ := row_cells (row_later hb1 (alloc_at0 w _) (by simp))
      have HBL := Lib.hid (show Below w.heap.size w w1 from ((Below.refl _ _).alloc (Nat.le_refl _) _).trans (hb1.mono (by simp)))
      clear hb1 hv hr
      go_wp2_with fail
      all_goals
        go_ret
        exact ⟨ret_int (by rw [HV.out]), HBL.out⟩
  · have HO := Lib.hid (ceil_neg hv hn)
    obtain ⟨e1, e2, e3, e4, e5⟩ := q_neg hn b1
    generalize hq : n.tdiv d = q at *
    generalize hqr : n.tmod d = r at *
    go_enter Tryd.func18, Tryd.ntmps18
    go_wp2_with fail
    refine (H1.out _).mono ?_
    rintro e w1 ⟨rfl, hb1⟩
    rw [hv]
    obtain ⟨p0, p1, _, _⟩ := row_cells (row_later hb1 (alloc_at0 w _) (by simp))
    have HBL := Lib.hid (show Below w.heap.size w w1 from ((Below.refl _ _).alloc (Nat.le_refl _) _).trans (hb1.mono (by simp)))
    clear hb1 hv
    go_wp2_with fail
    go_ret
    exact ⟨ret_int HO.out.symm, HBL.out⟩
end Go.Proofs.YtkmhfgedbkkihaaDoor.RatCmp
