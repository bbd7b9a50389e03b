/- Tables: what the document says, and the model's functions that only look. -/
import Derived.Test.YthnphlgkkfdnlaaDoorTab
import Derived.Test.YthnphlgkkfdnlaaDoorFixed
import Derived.Deep.DeepCutAuto
namespace Go.Proofs.YthnphlgkkfdnlaaDoor.TabSpec
open Go Go.RowKit Byt Ints IntsLaw Cd Rows2 Tab

theorem ri_at {w : World} {v : Value} {l : List Int} {B : Nat} (h : RI w v l B) {k : Nat} (hk : k < l.length) :
    ∃ b off cap, v = .slice (some ⟨b, off, none⟩) l.length cap ∧ b < B ∧ w.cell? ⟨b, off + k, none⟩ = some (.int .i64 l[k]) := by
  obtain ⟨a, cap, rfl, _, hc⟩ := h
  rcases hc with h0 | ⟨b, off, rfl, hb, hcell⟩
  · rw [h0] at hk; simp at hk
  · exact ⟨b, off, cap, rfl, hb, hcell k hk⟩

theorem dn2 (w : World) (a b : Nat) : ∃ m, (w.drewN a).drewN b = w.drewN m := ⟨a + b, by rw [World.drewN_drewN]⟩
theorem dn3 (w : World) (a b c : Nat) : ∃ m, ((w.drewN a).drewN b).drewN c = w.drewN m := ⟨a + (b + c), by rw [World.drewN_drewN, World.drewN_drewN]⟩

/-- Lexicographic comparison. -/
def cmpR : List Int → List Int → Int
  | [], [] => 0
  | [], _ :: _ => -1
  | _ :: _, [] => 1
  | x :: xs, y :: ys => if x < y then -1 else if y < x then 1 else cmpR xs ys
theorem cmpR_bd : ∀ a b, -1 ≤ cmpR a b ∧ cmpR a b ≤ 1
  | [], [] => by simp [cmpR]
  | [], _ :: _ => by simp [cmpR]
  | _ :: _, [] => by simp [cmpR]
  | x :: xs, y :: ys => by
    have := cmpR_bd xs ys
    unfold cmpR
    split <;> (try split) <;> omega
theorem cmpR_self : ∀ a, cmpR a a = 0
  | [] => rfl
  | x :: xs => by simp [cmpR, cmpR_self xs]
theorem cmpR_eq : ∀ {a b}, cmpR a b = 0 → a = b
  | [], [], _ => rfl
  | [], _ :: _, h => by simp [cmpR] at h
  | _ :: _, [], h => by simp [cmpR] at h
  | x :: xs, y :: ys, h => by
    unfold cmpR at h
    split at h
    · omega
    · split at h
      · omega
      · have := cmpR_eq h
        have e : x = y := by omega
        rw [this, e]
theorem cmpR_zero {a b : List Int} : cmpR a b = 0 ↔ a = b := ⟨cmpR_eq, fun h => by rw [h]; exact cmpR_self b⟩
theorem cmpR_anti : ∀ a b, cmpR a b = - cmpR b a
  | [], [] => rfl
  | [], _ :: _ => rfl
  | _ :: _, [] => rfl
  | x :: xs, y :: ys => by
    have := cmpR_anti xs ys
    unfold cmpR
    by_cases h1 : x < y
    · rw [if_pos h1, if_neg (by omega), if_pos h1]
    · rw [if_neg h1]
      by_cases h2 : y < x
      · rw [if_pos h2, if_pos h2]; rfl
      · rw [if_neg h2, if_neg h2, if_neg h1, this]
theorem cmpR_trans : ∀ {a b c}, cmpR a b < 0 → cmpR b c < 0 → cmpR a c < 0
  | [], [], _, h, _ => by simp [cmpR] at h
  | [], _ :: _, [], _, h => by simp [cmpR] at h
  | [], _ :: _, _ :: _, _, _ => by simp [cmpR]
  | _ :: _, [], _, h, _ => by simp [cmpR] at h
  | _ :: _, _ :: _, [], _, h => by simp [cmpR] at h
  | x :: xs, y :: ys, z :: zs, h1, h2 => by
    unfold cmpR at *
    by_cases hxy : x < y
    · by_cases hyz : y < z
      · rw [if_pos (by omega)]; omega
      · rw [if_neg hyz] at h2
        by_cases hzy : z < y
        · rw [if_pos hzy] at h2; omega
        · rw [if_pos (by omega)]; omega
    · rw [if_neg hxy] at h1
      by_cases hyx : y < x
      · rw [if_pos hyx] at h1; omega
      · rw [if_neg hyx] at h1
        by_cases hyz : y < z
        · rw [if_pos (by omega)]; omega
        · rw [if_neg hyz] at h2
          by_cases hzy : z < y
          · rw [if_pos hzy] at h2; omega
          · rw [if_neg hzy] at h2
            rw [if_neg (by omega), if_neg (by omega)]
            exact cmpR_trans h1 h2
theorem drop_at {α : Type} {l : List α} {k : Nat} (h : k < l.length) : l.drop k = l[k] :: l.drop (k + 1) := List.drop_eq_getElem_cons h
theorem cmpR_lt {a b : List Int} {k : Nat} (h1 : k < a.length) (h2 : k < b.length) (h : a[k] < b[k]) : cmpR (a.drop k) (b.drop k) = -1 := by rw [drop_at h1, drop_at h2]; simp [cmpR, h]
theorem cmpR_gt {a b : List Int} {k : Nat} (h1 : k < a.length) (h2 : k < b.length) (h : b[k] < a[k]) : cmpR (a.drop k) (b.drop k) = 1 := by
  rw [drop_at h1, drop_at h2]
  simp [cmpR, h]
  omega
theorem cmpR_next {a b : List Int} {k : Nat} (h1 : k < a.length) (h2 : k < b.length) (h : ¬ a[k] < b[k]) (h' : ¬ b[k] < a[k]) : cmpR (a.drop k) (b.drop k) = cmpR (a.drop (k + 1)) (b.drop (k + 1)) := by
  rw [drop_at h1, drop_at h2]
  simp [cmpR, h, h']

set_option maxRecDepth 100000 in
set_option maxHeartbeats 800000 in
theorem spec_cmp (v1 v2 : Value) (a b : List Int) (B1 B2 : Nat) (w : World) (h1 : RI w v1 a B1) (h2 : RI w v2 b B2) :
    Calls Tryd.prog 61 #[v1, v2] w fun e w' => e = .returned (.int .i64 (cmpR a b)) ∧ ∃ m, w' = w.drewN m := by
  have hr1 := Lib.hid h1
  have hr2 := Lib.hid h2
  obtain ⟨a1, cap1, rfl, hl1, hc1⟩ := h1
  obtain ⟨a2, cap2, rfl, hl2, hc2⟩ := h2
  clear hc1 hc2
  go_enter Tryd.func61, Tryd.ntmps61
  go_wp2
  go_loopw [5] (fun i wr => ∃ k m : Nat, k ≤ a.length ∧ k ≤ b.length ∧ i = .int .i64 k ∧ Hid (cmpR (a.drop k) (b.drop k) = cmpR a b) ∧ wr = w.drewN m) (fun i _ => a.length - (intOf i).toNat)
  case atStart => exact ⟨0, 0, Nat.zero_le _, Nat.zero_le _, rfl, Lib.hid rfl, rfl⟩
  case round =>
    obtain ⟨k, m, hk, hk2, rfl, hcm, rfl⟩ := hrel
    by_cases hlt : k < a.length
    · by_cases hlt2 : k < b.length
      · obtain ⟨b1, off, cap', e1, hbB, hc⟩ := ri_at hr1.out hlt
        injection e1 with e1 e2 e3
        subst e1 e3
        obtain ⟨b2, off', cap', e1, hbB', hc'⟩ := ri_at hr2.out hlt2
        injection e1 with e1 e2 e3
        subst e1 e3
        have p1 : (0 : Int) ≤ (k : Int) := by omega
        have p2 : (k : Int) < (a.length : Int) := by omega
        have p3 : (k : Int) < (b.length : Int) := by omega
        by_cases hlx : a[k] < b[k]
        · have HZ := Lib.hid ((cmpR_lt hlt hlt2 hlx).symm.trans hcm.out)
          have t1 : decide (a[k] < b[k]) = true := decide_eq_true hlx
          go_wp2
          go_quiet (fail)
          go_wp2
          go_ret
          exact ⟨ret_int HZ.out, dn2 _ _ _⟩
        · have t1 : decide (a[k] < b[k]) = false := decide_eq_false hlx
          by_cases hgx : b[k] < a[k]
          · have HZ := Lib.hid ((cmpR_gt hlt hlt2 hgx).symm.trans hcm.out)
            have t2 : decide (b[k] < a[k]) = true := decide_eq_true hgx
            go_wp2
            go_quiet (fail)
            go_wp2
            go_quiet (fail)
            go_wp2
            go_ret
            exact ⟨ret_int HZ.out, dn3 _ _ _ _⟩
          · have HZ := Lib.hid ((cmpR_next hlt hlt2 hlx hgx).symm.trans hcm.out)
            have t2 : decide (b[k] < a[k]) = false := decide_eq_false hgx
            go_wp2
            go_quiet (fail)
            go_wp2
            go_quiet (fail)
            go_wp2
            go_roundw
            case rel => exact ⟨k + 1, _, by omega, by omega, by go_num, HZ.out, rfl⟩
            case measure => simp [intOf]; omega
      · have HZ := Lib.hid (show (1 : Int) = cmpR a b by
          rw [← hcm.out, drop_at hlt, List.drop_eq_nil_of_le (show b.length ≤ k by omega)]
          rfl)
        have t1 : ¬ ((a.length : Int) < (b.length : Int)) := by omega
        have t2 : (b.length : Int) < (a.length : Int) := by omega
        go_wp2
        go_ret
        exact ⟨ret_int HZ.out, m, rfl⟩
    · by_cases hlt2 : k < b.length
      · have HZ := Lib.hid (show (-1 : Int) = cmpR a b by
          rw [← hcm.out, drop_at hlt2, List.drop_eq_nil_of_le (show a.length ≤ k by omega)]
          rfl)
        have t1 : (a.length : Int) < (b.length : Int) := by omega
        go_wp2
        go_ret
        exact ⟨ret_int HZ.out, m, rfl⟩
      · have HZ := Lib.hid (show (0 : Int) = cmpR a b by
          rw [← hcm.out, List.drop_eq_nil_of_le (show b.length ≤ k by omega), List.drop_eq_nil_of_le (show a.length ≤ k by omega)]
          rfl)
        have t1 : ¬ ((a.length : Int) < (b.length : Int)) := by omega
        have t2 : ¬ ((b.length : Int) < (a.length : Int)) := by omega
        go_wp2
        go_ret
        exact ⟨ret_int HZ.out, m, rfl⟩

/-- A name: one small letter. -/
def nameOk (s : ByteArray) : Bool := decide (s.size = 1 ∧ 97 ≤ (s.data.toList.headD 0).toNat ∧ (s.data.toList.headD 0).toNat ≤ 122)
theorem spec_name (s : ByteArray) (w : World) : Calls Tryd.prog 30 #[.string s] w fun e w' => e = .returned (.bool (nameOk s)) ∧ w = w' := by
  by_cases h1 : s.size = 1
  · have hh : s.data.toList.headD 0 = s[0] := by
      have : s.data.toList = [s[0]] := by
        have hl : s.data.toList.length = 1 := by rw [Array.length_toList]; exact h1
        match hq : s.data.toList, hl with
        | [x], _ =>
          have : s.data.toList[0]? = some x := by rw [hq]; rfl
          have h2 : s[0] = x := by
            have h3 : s.data[0]? = some x := by simpa using this
            exact (Array.getElem?_eq_some_iff.1 h3).2
          rw [h2]
      rw [this]
      rfl
    have hi : (0 : Int) < (s.size : Int) := by omega
    by_cases h2 : 97 ≤ s[0].toNat
    · by_cases h3 : s[0].toNat ≤ 122
      · have HZ := Lib.hid (show nameOk s = true from decide_eq_true ⟨h1, by rw [hh]; exact h2, by rw [hh]; exact h3⟩)
        clear hh
        go_enter Tryd.func30, Tryd.ntmps30
        go_wp2
        go_ret
        exact ⟨ret_b ((decide_eq_true (by omega)).trans HZ.out.symm), rfl⟩
      · have HZ := Lib.hid (show nameOk s = false from decide_eq_false fun q => h3 (by rw [← hh]; exact q.2.2))
        clear hh
        go_enter Tryd.func30, Tryd.ntmps30
        go_wp2
        go_ret
        exact ⟨ret_b ((decide_eq_false (by omega)).trans HZ.out.symm), rfl⟩
    · have HZ := Lib.hid (show nameOk s = false from decide_eq_false fun q => h2 (by rw [← hh]; exact q.2.1))
      clear hh
      go_enter Tryd.func30, Tryd.ntmps30
      go_wp2
      go_ret
      exact ⟨ret_b HZ.out.symm, rfl⟩
  · have HZ := Lib.hid (show nameOk s = false from decide_eq_false fun q => h1 q.1)
    have hs : ¬ ((s.size : Int) = 1) := by omega
    go_enter Tryd.func30, Tryd.ntmps30
    go_wp2
    go_ret
    exact ⟨ret_b HZ.out.symm, rfl⟩

/-- n values from 0 to 9. -/
def rowOk (r : List Int) (n : Int) : Bool := decide ((r.length : Int) = n ∧ ∀ x ∈ r, 0 ≤ x ∧ x ≤ 9)
theorem rowOk_iff {r : List Int} {n : Int} : rowOk r n = true ↔ ((r.length : Int) = n ∧ ∀ x ∈ r, 0 ≤ x ∧ x ≤ 9) := by unfold rowOk; rw [decide_eq_true_iff]
theorem rowOk_no {r : List Int} {n : Int} : rowOk r n = false ↔ ¬ ((r.length : Int) = n ∧ ∀ x ∈ r, 0 ≤ x ∧ x ≤ 9) := by unfold rowOk; rw [decide_eq_false_iff_not]
set_option maxRecDepth 100000 in
theorem spec_row (v : Value) (l : List Int) (n : Int) (B : Nat) (w : World) (hr : RI w v l B) :
    Calls Tryd.prog 60 #[v, .int .i64 n] w fun e w' => e = .returned (.bool (rowOk l n)) ∧ w = w' := by
  have HR := Lib.hid hr
  obtain ⟨a, cap, rfl, hlm, _⟩ := hr
  go_enter Tryd.func60, Tryd.ntmps60
  go_wp2
  go_loop [5] (fun i => ∃ k : Nat, k ≤ l.length ∧ i = .int .i64 k ∧ Hid (∀ x ∈ l.take k, 0 ≤ x ∧ x ≤ 9)) (fun i => l.length - (intOf i).toNat)
  case atStart => exact ⟨0, Nat.zero_le _, rfl, Lib.hid (fun x hx => by simp at hx)⟩
  case round =>
    obtain ⟨k, hk, rfl, hl⟩ := hrel
    by_cases hlt : k < l.length
    · obtain ⟨b, off, cap', e1, hbB, hc⟩ := ri_at HR.out hlt
      injection e1 with e1 e2 e3
      subst e1 e3
      by_cases hx : 0 ≤ l[k] ∧ l[k] ≤ 9
      · have HI := Lib.hid (fun w => Fixed.l1In_yes hx.1 hx.2 w)
        have hl2 := Lib.hid (show ∀ x ∈ l.take (k + 1), 0 ≤ x ∧ x ≤ 9 by
          rw [List.take_succ_eq_append_getElem hlt]
          intro x hx'
          rcases List.mem_append.1 hx' with q | q
          · exact hl.out x q
          · rw [List.mem_singleton.1 q]; exact hx)
        clear hx
        go_wp2_with (go_at_call 24; refine (HI.out _).mono ?_; rintro e w1 ⟨rfl, rfl⟩)
        go_round
        case rel => exact ⟨k + 1, by omega, by go_num, hl2⟩
        case measure => simp [intOf]; omega
      · have HI := Lib.hid (fun w => Fixed.l1In_no hx w)
        have HZ := Lib.hid (rowOk_no (n := n).2 fun q => hx (q.2 _ (List.getElem_mem hlt)))
        clear hx
        go_wp2_with (go_at_call 24; refine (HI.out _).mono ?_; rintro e w1 ⟨rfl, rfl⟩)
        go_ret
        exact ⟨ret_b HZ.out.symm, rfl⟩
    · have ek : k = l.length := by omega
      subst ek
      have HZ := Lib.hid (show rowOk l n = decide ((l.length : Int) = n) by
        have h := hl.out
        rw [List.take_length] at h
        unfold rowOk
        congr 1
        simp only [eq_iff_iff, and_iff_left_iff_imp]
        exact fun _ => h)
      go_wp2
      go_ret
      exact ⟨ret_b (by rw [HZ.out]; exact Bool.eq_iff_iff.2 (by simp)), rfl⟩

/-- Each row before the next. -/
def Asc (l : List (List Int)) : Prop := l.Pairwise fun a b => cmpR a b < 0
instance (l : List (List Int)) : Decidable (Asc l) := by unfold Asc; infer_instance
def TabP (nm : ByteArray) (ar : Int) (rows : List (List Int)) : Prop := nameOk nm = true ∧ 1 ≤ ar ∧ ar ≤ 3 ∧ rows.length ≤ 8 ∧ (∀ r ∈ rows, rowOk r ar = true) ∧ Asc rows
instance (nm : ByteArray) (ar : Int) (rows : List (List Int)) : Decidable (TabP nm ar rows) := by unfold TabP; infer_instance
def tabOk (nm : ByteArray) (ar : Int) (rows : List (List Int)) : Bool := decide (TabP nm ar rows)
theorem asc_more {l : List (List Int)} {k : Nat} (h : Asc (l.take k)) (hk : k < l.length) (h0 : ∀ j, k = j + 1 → (hj : j < l.length) → cmpR l[j] l[k] < 0) : Asc (l.take (k + 1)) := by
  unfold Asc at *
  rw [List.take_succ_eq_append_getElem hk, List.pairwise_append]
  refine ⟨h, List.pairwise_singleton _ _, fun a ha b hb => ?_⟩
  rw [List.mem_singleton.1 hb]
  cases k with
  | zero => simp at ha
  | succ j =>
    have hlast := h0 j rfl (by omega)
    rw [List.take_succ_eq_append_getElem (by omega)] at ha h
    rcases List.mem_append.1 ha with q | q
    · exact cmpR_trans ((List.pairwise_append.1 h).2.2 a q _ (List.mem_singleton.2 rfl)) hlast
    · rw [List.mem_singleton.1 q]; exact hlast
theorem asc_bad {l : List (List Int)} {j : Nat} (hj : j + 1 < l.length) (h : ¬ cmpR l[j] l[j + 1] < 0) : ¬ Asc l := fun q => h (List.pairwise_iff_getElem.1 q j (j + 1) (by omega) hj (by omega))

set_option maxRecDepth 100000 in
set_option maxHeartbeats 1600000 in
theorem spec_valid (nm : ByteArray) (ar : Int) (u : Value) (rows : List (List Int)) (S : Nat → Prop) (w : World) (hr : rowsC.rd w S [u] rows) :
    Calls Tryd.prog 54 #[.agg #[.string nm, .int .i64 ar, u]] w fun e w' => e = .returned (.bool (tabOk nm ar rows)) ∧ Below w.heap.size w w' := by
  have HNM := Lib.hid (fun w => spec_name nm w)
  by_cases hnm : nameOk nm = true
  case neg =>
    have hnm : nameOk nm = false := by simpa using hnm
    rw [hnm] at HNM
    have HZ := Lib.hid (show tabOk nm ar rows = false from decide_eq_false fun q => absurd (hnm.symm.trans q.1) (by decide))
    clear hnm hr
    go_enter Tryd.func54, Tryd.ntmps54
    go_wp2_with (go_at_call 30; refine (HNM.out _).mono ?_; rintro e w1 ⟨rfl, rfl⟩)
    go_ret
    exact ⟨ret_b HZ.out.symm, below_alloc _ _⟩
  rw [hnm] at HNM
  by_cases har : 1 ≤ ar ∧ ar ≤ 3
  case neg =>
    have HIN := Lib.hid (fun w => Fixed.l1In_no har w)
    have HZ := Lib.hid (show tabOk nm ar rows = false from decide_eq_false fun q => har ⟨q.2.1, q.2.2.1⟩)
    clear hnm hr har
    go_enter Tryd.func54, Tryd.ntmps54
    go_wp2_with (first | (go_at_call 30; refine (HNM.out _).mono ?_; rintro e w1 ⟨rfl, rfl⟩) | (go_at_call 24; refine (HIN.out _).mono ?_; rintro e w1 ⟨rfl, rfl⟩))
    go_ret
    exact ⟨ret_b HZ.out.symm, below_alloc _ _⟩
  have HIN := Lib.hid (fun w => Fixed.l1In_yes har.1 har.2 w)
  have HR := Lib.hid (fun w' (hb : Below w.heap.size w w') => Cd.later hr hb)
  obtain ⟨a, cap, rfl, hlm⟩ := rows_form hr
  by_cases h8 : 8 < rows.length
  · have HZ := Lib.hid (show tabOk nm ar rows = false from decide_eq_false fun q => by have := q.2.2.2.1; omega)
    clear hnm hr har
    go_enter Tryd.func54, Tryd.ntmps54
    go_wp2_with (first | (go_at_call 30; refine (HNM.out _).mono ?_; rintro e w1 ⟨rfl, rfl⟩) | (go_at_call 24; refine (HIN.out _).mono ?_; rintro e w1 ⟨rfl, rfl⟩))
    go_ret
    exact ⟨ret_b HZ.out.symm, below_alloc _ _⟩
  have HOK := Lib.hid (show (∀ r ∈ rows, rowOk r ar = true) → Asc rows → tabOk nm ar rows = true from fun q1 q2 => decide_eq_true ⟨hnm, har.1, har.2, by omega, q1, q2⟩)
  have HNO1 := Lib.hid (show ∀ r ∈ rows, rowOk r ar = false → tabOk nm ar rows = false from fun r hr h => decide_eq_false fun q => by have := q.2.2.2.2.1 r hr; rw [h] at this; exact absurd this (by decide))
  have HNO2 := Lib.hid (show ¬ Asc rows → tabOk nm ar rows = false from fun h => decide_eq_false fun q => h q.2.2.2.2.2)
  clear hnm har hr
  go_enter Tryd.func54, Tryd.ntmps54
  go_wp2_with (first | (go_at_call 30; refine (HNM.out _).mono ?_; rintro e w1 ⟨rfl, rfl⟩) | (go_at_call 24; refine (HIN.out _).mono ?_; rintro e w1 ⟨rfl, rfl⟩))
  generalize hW : w.alloc _ = W
  obtain ⟨r0, _, hb0⟩ := start1 w _ hW
  clear hW
  have HB := Lib.hid hb0
  have HRW := Lib.hid r0
  clear r0 hb0
  go_loopw [3] (fun i wr => ∃ k m : Nat, k ≤ rows.length ∧ i = .int .i64 k ∧ Hid (∀ r ∈ rows.take k, rowOk r ar = true) ∧ Hid (Asc (rows.take k)) ∧ wr = W.drewN m) (fun i _ => rows.length - (intOf i).toNat)
  case atStart => exact ⟨0, 0, Nat.zero_le _, rfl, Lib.hid (fun x hx => by simp at hx), Lib.hid List.Pairwise.nil, rfl⟩
  case round =>
    obtain ⟨k, m, hk, rfl, hro, has, hwr⟩ := hrel
    have hbw : Below w.heap.size w wr := by rw [hwr]; exact ⟨HB.out.os, HB.out.tape, HB.out.output, HB.out.size, HB.out.block⟩
    have hrw : wr.heap[w.heap.size]? = some (.cells #[.string nm, .int .i64 ar, .slice a rows.length cap] 42 (0, 0)) := by rw [hwr]; exact HRW.out
    obtain ⟨d0, d1, d2, _, _, _⟩ := row3 hrw
    have HWR := Lib.hid hwr
    have HBW := Lib.hid hbw
    clear hwr hbw hrw
    by_cases hlt : k < rows.length
    · obtain ⟨b, off, cap', v, e1, hbB, hc, hv⟩ := rows_at (HR.out wr HBW.out) hlt
      injection e1 with e1 e2 e3
      subst e1 e3
      have p1 : (0 : Int) ≤ (k : Int) := by omega
      have p2 : (k : Int) < (rows.length : Int) := by omega
      have HROW := Lib.hid (show ∀ q, Calls Tryd.prog 60 #[v, .int .i64 ar] (wr.drewN q) fun e w' => e = .returned (.bool (rowOk rows[k] ar)) ∧ w' = wr.drewN q from fun q => (spec_row v rows[k] ar _ (wr.drewN q) (row_ri (rd_drewN hv q)).1).mono fun _ _ h => ⟨h.1, h.2.symm⟩)
      by_cases hok : rowOk rows[k] ar = true
      case neg =>
        have hok : rowOk rows[k] ar = false := by simpa using hok
        rw [hok] at HROW
        have HZ := Lib.hid (HNO1.out _ (List.getElem_mem hlt) hok)
        clear hok hv
        go_wp2
        go_quiet (first | (go_at_call 60; refine Calls.quiet_of_same (HROW.out _)))
        go_wp2
        go_ret
        exact ⟨ret_b HZ.out.symm, HBW.out.trans ⟨rfl, rfl, rfl, Nat.le_refl _, fun _ _ => rfl⟩⟩
      rw [hok] at HROW
      have hro2 := Lib.hid (show ∀ r ∈ rows.take (k + 1), rowOk r ar = true by
        rw [List.take_succ_eq_append_getElem hlt]
        intro x hx'
        rcases List.mem_append.1 hx' with q | q
        · exact hro.out x q
        · rw [List.mem_singleton.1 q]; exact hok)
      clear hok
      by_cases hk0 : k = 0
      · have has2 := Lib.hid (asc_more has.out hlt (fun j hj => by omega))
        have q0 : ¬ 0 < k := by omega
        clear hv hk0
        go_wp2
        go_quiet (first | (go_at_call 60; refine Calls.quiet_of_same (HROW.out _)))
        go_wp2
        go_roundw
        case rel => exact ⟨k + 1, _, by omega, by go_num, hro2, has2, by rw [HWR.out, World.drewN_drewN]⟩
        case measure => simp [intOf]; omega
      · obtain ⟨j, hj⟩ : ∃ j, k = j + 1 := ⟨k - 1, by omega⟩
        have hjl : j < rows.length := by omega
        obtain ⟨b', off', cap', v', e1, hbB', hc', hv'⟩ := rows_at (HR.out wr HBW.out) hjl
        injection e1 with e1 e2 e3
        injection e1 with e1
        injection e1 with e1 e2 _
        subst e1 e2 e3
        have HC := Lib.hid (fun q => spec_cmp v' v (rows[j]'hjl) rows[k] _ _ (wr.drewN q) (row_ri (rd_drewN hv' q)).1 (row_ri (rd_drewN hv q)).1)
        have hbd := cmpR_bd (rows[j]'hjl) rows[k]
        have p3 : (0 : Int) ≤ (j : Int) := by omega
        have p4 : (j : Int) < (rows.length : Int) := by omega
        have p5 : 0 < k := by omega
        have p6 : (k : Int) - 1 = (j : Int) := by omega
        by_cases hcmp : cmpR (rows[j]'hjl) rows[k] < 0
        · have has2 := Lib.hid (asc_more has.out hlt (fun j' hj hj' => by
            obtain rfl : j' = j := by omega
            exact hcmp))
          have hge : ¬ (0 : Int) ≤ cmpR (rows[j]'hjl) rows[k] := by omega
          have HJ := Lib.hid hj
          clear hv hv' hj hk0 hcmp hbd
          generalize cmpR (rows[j]'hjl) rows[k] = z at *
          go_wp2
          go_quiet (first | (go_at_call 60; refine Calls.quiet_of_same (HROW.out _)) | (go_at_call 61; refine Calls.quiet_of (HC.out _)))
          go_wp2
          go_roundw
          case rel => exact ⟨k + 1, _, by omega, by go_num, hro2, has2, by rw [HWR.out, World.drewN_drewN]⟩
          case measure => simp [intOf]; omega
        · have HZ := Lib.hid (HNO2.out (by
            subst hj
            exact asc_bad (by omega) hcmp))
          have hge : (0 : Int) ≤ cmpR (rows[j]'hjl) rows[k] := by omega
          have HJ := Lib.hid hj
          clear hv hv' hj hk0 hcmp hbd
          generalize cmpR (rows[j]'hjl) rows[k] = z at *
          go_wp2
          go_quiet (first | (go_at_call 60; refine Calls.quiet_of_same (HROW.out _)) | (go_at_call 61; refine Calls.quiet_of (HC.out _)))
          go_wp2
          go_ret
          exact ⟨ret_b HZ.out.symm, HBW.out.trans ⟨rfl, rfl, rfl, Nat.le_refl _, fun _ _ => rfl⟩⟩
    · have ek : k = rows.length := by omega
      subst ek
      rw [List.take_length] at *
      have HZ := Lib.hid (HOK.out hro.out has.out)
      go_wp2
      go_ret
      exact ⟨ret_b HZ.out.symm, HBW.out⟩
end Go.Proofs.YthnphlgkkfdnlaaDoor.TabSpec
