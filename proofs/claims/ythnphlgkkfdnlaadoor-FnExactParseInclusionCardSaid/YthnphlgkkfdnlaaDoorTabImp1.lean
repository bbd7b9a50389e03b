/- Tables: the program's functions that only look. -/
import Derived.Test.YthnphlgkkfdnlaaDoorTabSpec2
namespace Go.Proofs.YthnphlgkkfdnlaaDoor.TabImp
open Go Go.RowKit Byt Ints IntsLaw Cd Rows2 Tab TabSpec

theorem is_name (s : ByteArray) (w : World) : Calls Tryd.prog 25 #[.string s] w fun e w' => e = .returned (.bool (nameOk s)) ∧ w = w' := by
  by_cases h1 : s.size = 1
  · have hh : s.data.toList.headD 0 = s[0] := by
      have : s.data.toList = [s[0]] := by
        have hl : s.data.toList.length = 1 := by rw [Array.length_toList]; exact h1
        match hq : s.data.toList, hl with
        | [x], _ =>
          have : s.data.toList[0]? = some x := by rw [hq]; rfl
          have h2 : s[0] = x := by
            have h3 : s.data[0]? = some x := by simpa using this
            exact (Array.getElem?_eq_some_iff.1 h3).2
          rw [h2]
      rw [this]
      rfl
    have hi : (0 : Int) < (s.size : Int) := by omega
    by_cases h2 : 97 ≤ s[0].toNat
    · by_cases h3 : s[0].toNat ≤ 122
      · have HZ := Lib.hid (show nameOk s = true from decide_eq_true ⟨h1, by rw [hh]; exact h2, by rw [hh]; exact h3⟩)
        clear hh
        go_enter Tryd.func25, Tryd.ntmps25
        go_wp2
        go_ret
        exact ⟨ret_b ((decide_eq_true (by omega)).trans HZ.out.symm), rfl⟩
      · have HZ := Lib.hid (show nameOk s = false from decide_eq_false fun q => h3 (by rw [← hh]; exact q.2.2))
        clear hh
        go_enter Tryd.func25, Tryd.ntmps25
        go_wp2
        go_ret
        exact ⟨ret_b ((decide_eq_false (by omega)).trans HZ.out.symm), rfl⟩
    · have HZ := Lib.hid (show nameOk s = false from decide_eq_false fun q => h2 (by rw [← hh]; exact q.2.1))
      clear hh
      go_enter Tryd.func25, Tryd.ntmps25
      go_wp2
      go_ret
      exact ⟨ret_b HZ.out.symm, rfl⟩
  · have HZ := Lib.hid (show nameOk s = false from decide_eq_false fun q => h1 q.1)
    have hs : ¬ ((s.size : Int) = 1) := by omega
    go_enter Tryd.func25, Tryd.ntmps25
    go_wp2
    go_ret
    exact ⟨ret_b HZ.out.symm, rfl⟩
theorem is_name_at {s : ByteArray} {b : Bool} (h : nameOk s = b) (w : World) : Calls Tryd.prog 25 #[.string s] w fun e w' => e = .returned (.bool b) ∧ w = w' := by
  subst h
  exact is_name s w

theorem is_arity (k : Int) (w : World) :
    Calls Tryd.prog 63 #[.int .i64 k] w fun e w' => e = .returned (.bool (decide (1 ≤ k ∧ k ≤ 3))) ∧ w = w' := by
  by_cases h : 1 ≤ k <;> by_cases h' : k ≤ 3
  all_goals
    go_enter Tryd.func63, Tryd.ntmps63
    go_wp2
    go_ret
    exact ⟨by simp [*], rfl⟩
theorem is_arity_at {k : Int} {b : Bool} (h : decide (1 ≤ k ∧ k ≤ 3) = b) (w : World) :
    Calls Tryd.prog 63 #[.int .i64 k] w fun e w' => e = .returned (.bool b) ∧ w = w' := by
  subst h
  exact is_arity k w

theorem no_value (k : Int) (w : World) :
    Calls Tryd.prog 79 #[.int .i64 k] w fun e w' => e = .returned (.bool (decide (¬ (0 ≤ k ∧ k ≤ 9)))) ∧ w = w' := by
  by_cases h : k < 0
  · go_enter Tryd.func79, Tryd.ntmps79
    go_wp2
    go_ret
    exact ⟨ret_b (decide_eq_true (by omega)).symm, rfl⟩
  · by_cases h' : 9 < k
    · go_enter Tryd.func79, Tryd.ntmps79
      go_wp2
      go_ret
      exact ⟨rfl, rfl⟩
    · go_enter Tryd.func79, Tryd.ntmps79
      go_wp2
      go_ret
      exact ⟨rfl, rfl⟩
theorem no_value_at {k : Int} {b : Bool} (h : decide (¬ (0 ≤ k ∧ k ≤ 9)) = b) (w : World) :
    Calls Tryd.prog 79 #[.int .i64 k] w fun e w' => e = .returned (.bool b) ∧ w = w' := by
  subst h
  exact no_value k w

/-- Where the first number lies that is no value. -/
def badIx : List Int → Nat → Int
  | [], _ => -1
  | x :: r, k => if 0 ≤ x ∧ x ≤ 9 then badIx r (k + 1) else (k : Int)
theorem badIx_iff : ∀ (l : List Int) (k : Nat), 0 ≤ badIx l k ↔ ¬ ∀ x ∈ l, 0 ≤ x ∧ x ≤ 9
  | [], k => by simp [badIx]
  | x :: r, k => by
    unfold badIx
    by_cases h : 0 ≤ x ∧ x ≤ 9
    · rw [if_pos h, badIx_iff r (k + 1)]
      simp [h]
    · rw [if_neg h]
      simp only [List.forall_mem_cons, h, false_and, not_false_iff, iff_true]
      omega
theorem badIx_bd : ∀ (l : List Int) (k : Nat), -1 ≤ badIx l k ∧ badIx l k < (k + l.length : Nat)
  | [], k => by simp [badIx]; omega
  | x :: r, k => by
    unfold badIx
    have := badIx_bd r (k + 1)
    split <;> simp <;> omega

set_option maxRecDepth 100000 in
theorem index_func (v : Value) (l : List Int) (B : Nat) (w : World) (hr : RI w v l B) :
    Calls Tryd.prog 83 #[v, .func (.func 79) #[] #[]] w fun e w' => e = .returned (.int .i64 (badIx l 0)) ∧ w = w' := by
  have HR := Lib.hid hr
  obtain ⟨a, cap, rfl, hlm, _⟩ := hr
  go_enter Tryd.func83, Tryd.ntmps83
  go_wp2
  go_loop [8] (fun i => ∃ k : Nat, k ≤ l.length ∧ i = .int .i64 k ∧ Hid (badIx l 0 = badIx (l.drop k) k)) (fun i => l.length - (intOf i).toNat)
  case atStart => exact ⟨0, Nat.zero_le _, rfl, Lib.hid rfl⟩
  case round =>
    obtain ⟨k, hk, rfl, hl⟩ := hrel
    by_cases hlt : k < l.length
    · obtain ⟨b, off, cap', e1, hbB, hc⟩ := ri_at HR.out hlt
      injection e1 with e1 e2 e3
      subst e1 e3
      by_cases hx : 0 ≤ l[k] ∧ l[k] ≤ 9
      · have HI := Lib.hid (fun w => no_value_at (k := l[k]) (decide_eq_false (fun q => q hx)) w)
        have hl2 := Lib.hid (show badIx l 0 = badIx (l.drop (k + 1)) (k + 1) by
          rw [hl.out, drop_at hlt, badIx, if_pos hx])
        clear hx
        go_wp2_with (go_at_call 79; refine (HI.out _).mono ?_; rintro e w1 ⟨rfl, rfl⟩)
        go_round
        case rel => exact ⟨k + 1, by omega, by go_num, hl2⟩
        case measure => simp [intOf]; omega
      · have HI := Lib.hid (fun w => no_value_at (k := l[k]) (decide_eq_true hx) w)
        have HZ := Lib.hid (show badIx l 0 = (k : Int) by rw [hl.out, drop_at hlt, badIx, if_neg hx])
        clear hx
        go_wp2_with (go_at_call 79; refine (HI.out _).mono ?_; rintro e w1 ⟨rfl, rfl⟩)
        go_ret
        exact ⟨ret_int HZ.out.symm, rfl⟩
    · have HZ := Lib.hid (show badIx l 0 = -1 by rw [hl.out, List.drop_eq_nil_of_le (by omega)]; rfl)
      go_wp2
      go_ret
      exact ⟨ret_int HZ.out.symm, rfl⟩

theorem contains_func (v : Value) (l : List Int) (B : Nat) (w : World) (hr : RI w v l B) {b : Bool} (hb : decide (∀ x ∈ l, 0 ≤ x ∧ x ≤ 9) = b) :
    Calls Tryd.prog 78 #[v, .func (.func 79) #[] #[]] w fun e w' => e = .returned (.bool (!b)) ∧ w = w' := by
  have HI := Lib.hid (index_func v l B w hr)
  have HB := Lib.hid (show decide (0 ≤ badIx l 0) = !b by
    rw [← hb, ← decide_not]
    exact decide_eq_decide.2 (badIx_iff l 0))
  generalize badIx l 0 = z at *
  clear hb
  go_enter Tryd.func78, Tryd.ntmps78
  go_wp2_with (go_at_call 83; refine HI.out.mono ?_; rintro e w1 ⟨rfl, rfl⟩)
  go_ret
  exact ⟨ret_b HB.out, rfl⟩

theorem is_row (v : Value) (l : List Int) (n : Int) (B : Nat) (w : World) (hr : RI w v l B) :
    Calls Tryd.prog 70 #[v, .int .i64 n] w fun e w' => e = .returned (.bool (rowOk l n)) ∧ w = w' := by
  have HC := Lib.hid (fun b h => contains_func v l B w hr (b := b) h)
  obtain ⟨a, cap, rfl, hlm, _⟩ := hr
  by_cases hn : (l.length : Int) = n
  · by_cases hv : ∀ x ∈ l, 0 ≤ x ∧ x ≤ 9
    · have HZ := Lib.hid (rowOk_iff.2 ⟨hn, hv⟩)
      have HD := Lib.hid (HC.out true (decide_eq_true hv))
      clear hv
      subst hn
      go_enter Tryd.func70, Tryd.ntmps70
      go_wp2_with (go_at_call 78; refine HD.out.mono ?_; rintro e w1 ⟨rfl, rfl⟩)
      go_ret
      exact ⟨ret_b HZ.out.symm, rfl⟩
    · have HZ := Lib.hid (rowOk_no (n := n).2 fun q => hv q.2)
      have HD := Lib.hid (HC.out false (decide_eq_false hv))
      clear hv
      subst hn
      go_enter Tryd.func70, Tryd.ntmps70
      go_wp2_with (go_at_call 78; refine HD.out.mono ?_; rintro e w1 ⟨rfl, rfl⟩)
      go_ret
      exact ⟨ret_b HZ.out.symm, rfl⟩
  · have HZ := Lib.hid (rowOk_no.2 fun q => hn q.1)
    go_enter Tryd.func70, Tryd.ntmps70
    go_wp2
    go_ret
    exact ⟨ret_b HZ.out.symm, rfl⟩

theorem is_nan (x : Int) (w : World) : Calls Tryd.prog 85 #[.int .i64 x] w fun e w' => e = .returned (.bool false) ∧ w = w' := by
  have t : (x != x) = false := by simp
  go_enter Tryd.func85, Tryd.ntmps85
  go_wp2
  go_ret
  exact ⟨rfl, rfl⟩
def cmpI (x y : Int) : Int := if x < y then -1 else if y < x then 1 else 0
theorem compare_int (x y : Int) (w : World) : Calls Tryd.prog 84 #[.int .i64 x, .int .i64 y] w fun e w' => e = .returned (.int .i64 (cmpI x y)) ∧ w = w' := by
  have HN := Lib.hid (fun z w => is_nan z w)
  by_cases h1 : x < y
  · have HZ := Lib.hid (show cmpI x y = -1 from if_pos h1)
    go_enter Tryd.func84, Tryd.ntmps84
    go_wp2_with (go_at_call 85; refine (HN.out _ _).mono ?_; rintro e w1 ⟨rfl, rfl⟩)
    go_ret
    exact ⟨ret_int HZ.out.symm, rfl⟩
  · by_cases h2 : y < x
    · have HZ := Lib.hid (show cmpI x y = 1 from (if_neg h1).trans (if_pos h2))
      go_enter Tryd.func84, Tryd.ntmps84
      go_wp2_with (go_at_call 85; refine (HN.out _ _).mono ?_; rintro e w1 ⟨rfl, rfl⟩)
      go_ret
      exact ⟨ret_int HZ.out.symm, rfl⟩
    · have HZ := Lib.hid (show cmpI x y = 0 from (if_neg h1).trans (if_neg h2))
      go_enter Tryd.func84, Tryd.ntmps84
      go_wp2_with (go_at_call 85; refine (HN.out _ _).mono ?_; rintro e w1 ⟨rfl, rfl⟩)
      go_ret
      exact ⟨ret_int HZ.out.symm, rfl⟩
theorem compare_at {x y z : Int} (h : cmpI x y = z) (w : World) : Calls Tryd.prog 84 #[.int .i64 x, .int .i64 y] w fun e w' => e = .returned (.int .i64 z) ∧ w = w' := by
  subst h
  exact compare_int x y w

set_option maxRecDepth 100000 in
set_option maxHeartbeats 800000 in
theorem slices_compare (v1 v2 : Value) (a b : List Int) (B1 B2 : Nat) (w : World) (h1 : RI w v1 a B1) (h2 : RI w v2 b B2) :
    Calls Tryd.prog 80 #[v1, v2] w fun e w' => e = .returned (.int .i64 (cmpR a b)) ∧ w = w' := by
  have hr1 := Lib.hid h1
  have hr2 := Lib.hid h2
  obtain ⟨a1, cap1, rfl, hl1, hc1⟩ := h1
  obtain ⟨a2, cap2, rfl, hl2, hc2⟩ := h2
  clear hc1 hc2
  go_enter Tryd.func80, Tryd.ntmps80
  go_wp2
  go_loop [11] (fun i => ∃ k : Nat, k ≤ a.length ∧ k ≤ b.length ∧ i = .int .i64 k ∧ Hid (cmpR (a.drop k) (b.drop k) = cmpR a b)) (fun i => a.length - (intOf i).toNat)
  case atStart => exact ⟨0, Nat.zero_le _, Nat.zero_le _, rfl, Lib.hid rfl⟩
  case round =>
    obtain ⟨k, hk, hk2, rfl, hcm⟩ := hrel
    by_cases hlt : k < a.length
    · obtain ⟨x, xo, xc, e1, _, hx⟩ := ri_at hr1.out hlt
      injection e1 with e1 e2 e3
      subst e1 e3
      by_cases hlt2 : k < b.length
      · obtain ⟨y, yo, yc, e1, _, hy⟩ := ri_at hr2.out hlt2
        injection e1 with e1 e2 e3
        subst e1 e3
        by_cases c1 : a[k] < b[k]
        · have HC := Lib.hid (fun w => compare_at (show cmpI a[k] b[k] = -1 from if_pos c1) w)
          have HZ := Lib.hid (show (-1 : Int) = cmpR a b by rw [← hcm.out]; exact (cmpR_lt hlt hlt2 c1).symm)
          clear c1
          go_wp2_with (go_at_call 84; refine (HC.out _).mono ?_; rintro e w1 ⟨rfl, rfl⟩)
          go_ret
          exact ⟨ret_int HZ.out, rfl⟩
        · by_cases c2 : b[k] < a[k]
          · have HC := Lib.hid (fun w => compare_at (show cmpI a[k] b[k] = 1 from (if_neg c1).trans (if_pos c2)) w)
            have HZ := Lib.hid (show (1 : Int) = cmpR a b by rw [← hcm.out]; exact (cmpR_gt hlt hlt2 c2).symm)
            clear c1 c2
            go_wp2_with (go_at_call 84; refine (HC.out _).mono ?_; rintro e w1 ⟨rfl, rfl⟩)
            go_ret
            exact ⟨ret_int HZ.out, rfl⟩
          · have HC := Lib.hid (fun w => compare_at (show cmpI a[k] b[k] = 0 from (if_neg c1).trans (if_neg c2)) w)
            have hcm2 := Lib.hid ((cmpR_next hlt hlt2 c1 c2).symm.trans hcm.out)
            clear c1 c2
            go_wp2_with (go_at_call 84; refine (HC.out _).mono ?_; rintro e w1 ⟨rfl, rfl⟩)
            go_round
            case rel => exact ⟨k + 1, by omega, by omega, by go_num, hcm2⟩
            case measure => simp [intOf]; omega
      · have HZ := Lib.hid (show (1 : Int) = cmpR a b by
          rw [← hcm.out, drop_at hlt, List.drop_eq_nil_of_le (show b.length ≤ k by omega)]
          rfl)
        have t1 : (b.length : Int) ≤ (k : Int) := by omega
        go_wp2
        go_ret
        exact ⟨ret_int HZ.out, rfl⟩
    · have ek : k = a.length := by omega
      subst ek
      by_cases hlt2 : a.length < b.length
      · have HZ := Lib.hid (show (-1 : Int) = cmpR a b by
          rw [← hcm.out, drop_at hlt2, List.drop_eq_nil_of_le (Nat.le_refl _)]
          rfl)
        have t1 : (a.length : Int) < (b.length : Int) := by omega
        go_wp2
        go_ret
        exact ⟨ret_int HZ.out, rfl⟩
      · have HZ := Lib.hid (show (0 : Int) = cmpR a b by
          rw [← hcm.out, List.drop_eq_nil_of_le (show b.length ≤ a.length by omega), List.drop_eq_nil_of_le (Nat.le_refl _)]
          rfl)
        have t1 : ¬ ((a.length : Int) < (b.length : Int)) := by omega
        go_wp2
        go_ret
        exact ⟨ret_int HZ.out, rfl⟩

theorem impl_cmp (v1 v2 : Value) (a b : List Int) (B1 B2 : Nat) (w : World) (h1 : RI w v1 a B1) (h2 : RI w v2 b B2) :
    Calls Tryd.prog 71 #[v1, v2] w fun e w' => e = .returned (.int .i64 (cmpR a b)) ∧ w = w' := by
  have HC := Lib.hid (slices_compare v1 v2 a b B1 B2 w h1 h2)
  clear h1 h2
  generalize cmpR a b = z at *
  go_enter Tryd.func71, Tryd.ntmps71
  go_wp2_with (go_at_call 80; refine HC.out.mono ?_; rintro e w1 ⟨rfl, rfl⟩)
  go_ret
  exact ⟨rfl, rfl⟩
end Go.Proofs.YthnphlgkkfdnlaaDoor.TabImp
