/- Size classes and locations: the program's functions. -/
import Derived.Test.YthageciihhpmoaaLoc
namespace Go.Proofs.Ythageciihhpmoaa.LocImpl
open Go Go.RowKit Byt Ints IntsLaw Sz Loc

theorem is_class (k : Int) (w : World) :
    Calls Try.prog 87 #[.int .i64 k] w fun e w' => e = .returned (.bool (decide (0 ≤ k ∧ k ≤ 7))) ∧ w = w' := by
  by_cases h : 0 ≤ k <;> by_cases h' : k ≤ 7
  all_goals
    go_enter Try.func87, Try.ntmps87
    go_wp2
    go_ret
    exact ⟨by simp [*], rfl⟩

theorem is_class_at {k : Int} {b : Bool} (h : decide (0 ≤ k ∧ k ≤ 7) = b) (w : World) :
    Calls Try.prog 87 #[.int .i64 k] w fun e w' => e = .returned (.bool b) ∧ w = w' := by
  subst h
  exact is_class k w

set_option maxRecDepth 100000 in
theorem class_size (k : Int) (w : World) :
    Calls Try.prog 49 #[.int .i64 k] w fun e w' => e = .returned (.int .i64 (clsz k)) ∧ w = w' := by
  by_cases h : 0 ≤ k ∧ k ≤ 7
  · have HC := Lib.hid (fun w => is_class_at (decide_eq_true h) w)
    obtain ⟨n, rfl⟩ := Int.eq_ofNat_of_zero_le h.1
    have hn : n ≤ 7 := by omega
    rcases (show n = 0 ∨ n = 1 ∨ n = 2 ∨ n = 3 ∨ n = 4 ∨ n = 5 ∨ n = 6 ∨ n = 7 by omega) with rfl | rfl | rfl | rfl | rfl | rfl | rfl | rfl
    all_goals
      clear h hn
      go_enter Try.func49, Try.ntmps49
      go_wp2_with (go_at_call 87; refine (HC.out _).mono ?_; rintro e w1 ⟨rfl, rfl⟩)
      go_ret
      exact ⟨rfl, rfl⟩
  · rw [clsz_out h]
    have HC := Lib.hid (fun w => is_class_at (decide_eq_false h) w)
    clear h
    go_enter Try.func49, Try.ntmps49
    go_wp2_with (go_at_call 87; refine (HC.out _).mono ?_; rintro e w1 ⟨rfl, rfl⟩)
    go_ret
    exact ⟨rfl, rfl⟩

set_option maxRecDepth 100000 in
theorem size_class (n : Int) (w : World) :
    Calls Try.prog 45 #[.int .i64 n] w fun e w' => e = .returned (.int .i64 (szcl n)) ∧ w = w' := by
  by_cases h : n < 0
  · rw [szcl_neg h]
    go_enter Try.func45, Try.ntmps45
    go_wp2
    go_ret
    exact ⟨rfl, rfl⟩
  by_cases h' : 4096 < n
  · rw [szcl_big h']
    go_enter Try.func45, Try.ntmps45
    go_wp2
    go_ret
    exact ⟨rfl, rfl⟩
  go_enter Try.func45, Try.ntmps45
  go_wp2
  go_loop [3] (fun i => ∃ k : Nat, k ≤ 7 ∧ i = .int .i64 k ∧ Hid (∀ j : Nat, j < k → (csN j : Int) < n)) (fun i => 8 - (intOf i).toNat)
  case atStart => exact ⟨0, by decide, rfl, Lib.hid (fun j hj => by omega)⟩
  case round =>
    obtain ⟨k, hk, rfl, hl⟩ := hrel
    have hc := clsz_in hk
    have HC := Lib.hid (fun w => class_size k w)
    rw [hc] at HC
    clear hc
    by_cases hge : n ≤ (csN k : Int)
    · have HZ := Lib.hid (szcl_of hk (by omega) hl.out hge)
      generalize csN k = c at *
      go_wp2_with (go_at_call 49; refine (HC.out _).mono ?_; rintro e w1 ⟨rfl, rfl⟩)
      go_ret
      exact ⟨ret_int HZ.out.symm, rfl⟩
    · have hk7 : k ≠ 7 := fun q => by
        subst q
        have : ((csN 7 : Nat) : Int) = 4096 := rfl
        omega
      have hl2 := Lib.hid (show ∀ j : Nat, j < k + 1 → (csN j : Int) < n from fun j hj => by
        by_cases e : j = k
        · subst e; omega
        · exact hl.out j (by omega))
      generalize csN k = c at *
      go_wp2_with (go_at_call 49; refine (HC.out _).mono ?_; rintro e w1 ⟨rfl, rfl⟩)
      go_round
      case rel => exact ⟨k + 1, by omega, by go_num, hl2⟩
      case measure => simp [intOf]; omega

theorem round_up (n : Int) (w : World) :
    Calls Try.prog 47 #[.int .i64 n] w fun e w' => e = .returned (.int .i64 (clsz (szcl n))) ∧ w = w' := by
  have h1 := Lib.hid (fun w => size_class n w)
  have h2 := Lib.hid (fun w => class_size (szcl n) w)
  generalize szcl n = k at *
  go_enter Try.func47, Try.ntmps47
  go_wp2_with fail
  refine (h1.out _).mono ?_
  rintro e w1 ⟨rfl, rfl⟩
  go_wp2_with fail
  refine (h2.out _).mono ?_
  rintro e w1 ⟨rfl, rfl⟩
  go_wp2_with fail
  go_ret
  exact ⟨rfl, rfl⟩

set_option maxRecDepth 100000 in
theorem is_location (v : Value) (l : List Int) (B : Nat) (w : World) (hr : RI w v l B) :
    Calls Try.prog 57 #[v] w fun e w' => e = .returned (.bool (isLoc l)) ∧ w = w' := by
  have HR := Lib.hid hr
  obtain ⟨a, cap, rfl, hlm, _⟩ := hr
  by_cases h16 : 16 < l.length
  · rw [isLoc_no.2 fun q => by omega]
    go_enter Try.func57, Try.ntmps57
    go_wp2
    go_ret
    exact ⟨rfl, rfl⟩
  go_enter Try.func57, Try.ntmps57
  go_wp2
  go_loop [10] (fun i => ∃ k : Nat, k ≤ l.length ∧ i = .int .i64 k ∧ Hid (∀ x ∈ l.take k, 0 ≤ x ∧ x ≤ 7)) (fun i => l.length - (intOf i).toNat)
  case atStart => exact ⟨0, Nat.zero_le _, rfl, Lib.hid (fun x hx => by simp at hx)⟩
  case round =>
    obtain ⟨k, hk, rfl, hl⟩ := hrel
    by_cases hlt : k < l.length
    · obtain ⟨b, off, cap', e1, hbB, hc⟩ := cell_of HR.out hlt
      injection e1 with e1 e2 e3
      subst e1 e3
      by_cases hx : 0 ≤ l[k] ∧ l[k] ≤ 7
      · have HI := Lib.hid (fun w => is_class_at (decide_eq_true hx) w)
        have hl2 := Lib.hid (show ∀ x ∈ l.take (k + 1), 0 ≤ x ∧ x ≤ 7 by
          rw [List.take_succ_eq_append_getElem hlt]
          intro x hx'
          rcases List.mem_append.1 hx' with q | q
          · exact hl.out x q
          · rw [List.mem_singleton.1 q]; exact hx)
        clear hx
        go_wp2_with (go_at_call 87; refine (HI.out _).mono ?_; rintro e w1 ⟨rfl, rfl⟩)
        go_round
        case rel => exact ⟨k + 1, by omega, by go_num, hl2⟩
        case measure => simp [intOf]; omega
      · have HI := Lib.hid (fun w => is_class_at (decide_eq_false hx) w)
        have HZ := Lib.hid (isLoc_no.2 fun q => hx (q.2 _ (List.getElem_mem hlt)))
        clear hx
        go_wp2_with (go_at_call 87; refine (HI.out _).mono ?_; rintro e w1 ⟨rfl, rfl⟩)
        go_ret
        exact ⟨ret_b HZ.out.symm, rfl⟩
    · have ek : k = l.length := by omega
      subst ek
      have HZ := Lib.hid (show isLoc l = true from isLoc_iff.2 ⟨by omega, by
        have h := hl.out
        rw [List.take_length] at h
        exact h⟩)
      go_wp2
      go_ret
      exact ⟨ret_b HZ.out.symm, rfl⟩

end Go.Proofs.Ythageciihhpmoaa.LocImpl
