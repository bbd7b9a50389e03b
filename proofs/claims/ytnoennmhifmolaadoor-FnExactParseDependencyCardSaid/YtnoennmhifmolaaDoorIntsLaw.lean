/- What the exact laws do with slices of ints: they copy them, compare them, mark them and look at the marks. -/
import Derived.Test.YtnoennmhifmolaaDoorRows
import Derived.Test.YtnoennmhifmolaaDoorInts
import Derived.WalkKit
import Derived.WalkSpells
import Derived.WalkLawsBesides
import Derived.Lib.Hide
import Derived.Deep.QuietTactic
import Derived.BigQuiet
namespace Go.Proofs.YtnoennmhifmolaaDoor.IntsLaw
open Go Go.RowKit Byt Ints

theorem info_i64 : (Tryd.prog.info? 3).map (fun i => (i.zero, i.size, i.bytes)) = some (some (.int .i64 0), 1, 8) := by kernel_rfl

theorem take_snocI (l : List Int) (k : Nat) (h : k < l.length) : l.take (k + 1) = l.take k ++ [l[k]] := List.take_succ_eq_append_getElem h

/-- l's first k numbers, then zeros. -/
def part (l : List Int) (k : Nat) : List Int := l.take k ++ List.replicate (l.length - k) 0
theorem part_zero (l : List Int) : part l 0 = List.replicate l.length 0 := by simp [part]
theorem part_all (l : List Int) : part l l.length = l := by simp [part]
theorem part_length (l : List Int) (k : Nat) (h : k ≤ l.length) : (part l k).length = l.length := by
  unfold part
  rw [List.length_append, List.length_take, List.length_replicate]
  omega
theorem part_set (l : List Int) (k : Nat) (h : k < l.length) : (part l k).set k l[k] = part l (k + 1) := by
  unfold part
  have e : l.length - k = (l.length - (k + 1)) + 1 := by omega
  rw [e, List.replicate_succ, List.set_append_right _ _ (by simp; omega), take_snocI l k h]
  have e2 : k - (l.take k).length = 0 := by simp; omega
  rw [e2, List.set_cons_zero, List.append_assoc]
  rfl

/-- k, k + 1, .. : n numbers. -/
def marks (k : Int) (n : Nat) : List Int := (List.range n).map fun (t : Nat) => k + (t : Int)
theorem marks_length (k : Int) (n : Nat) : (marks k n).length = n := by simp [marks]
theorem marks_get (k : Int) (n t : Nat) (h : t < (marks k n).length) : (marks k n)[t] = k + (t : Int) := by simp [marks]
/-- l with its first j numbers marked. -/
def marked (k : Int) (l : List Int) (j : Nat) : List Int := marks k j ++ l.drop j
theorem marked_length (k : Int) (l : List Int) (j : Nat) (h : j ≤ l.length) : (marked k l j).length = l.length := by
  unfold marked
  rw [List.length_append, marks_length, List.length_drop]
  omega
theorem marked_set (k : Int) (l : List Int) (j : Nat) (h : j < l.length) : (marked k l j).set j (k + (j : Int)) = marked k l (j + 1) := by
  unfold marked
  rw [List.drop_eq_getElem_cons h, List.set_append_right _ _ (by rw [marks_length]; exact Nat.le_refl _), marks_length, Nat.sub_self, List.set_cons_zero]
  have e : marks k (j + 1) = marks k j ++ [k + (j : Int)] := by simp [marks, List.range_succ]
  rw [e, List.append_assoc]
  rfl
theorem marked_zero (k : Int) (l : List Int) : marked k l 0 = l := by simp [marked, marks]
theorem marked_all (k : Int) (l : List Int) : marked k l l.length = marks k l.length := by simp [marked]

set_option maxRecDepth 100000 in
set_option maxHeartbeats 800000 in
theorem to_ints (v : Value) (l : List Int) (B : Nat) (w : World) (hr : RI w v l B) (hB : B ≤ w.heap.size) (hl : l.length ≤ 1048577) :
    Calls Tryd.prog 47 #[v] w fun e w' => ∃ v', e = .returned v' ∧ OwnI w' w.heap.size 3 v' l ∧ Below w.heap.size w w' := by
  obtain ⟨i0, hi, hz0, hz1, hz2⟩ := info_parts info_i64
  have hrr := Lib.hid (hr.mono hB)
  obtain ⟨a, cap, rfl, _, hcase⟩ := hr
  clear hcase
  go_enter Tryd.func47, Tryd.ntmps47
  go_wp2_with (at_make; refine wpList_make_full _ rfl _ _ 31 rfl w.heap.size 3 i0 (.int .i64 0) 1 Tryd.underlying31 hi hz0 hz1 _ _ _ _ l.length rfl rfl rfl rfl (by rw [hz2]; omega) (by unfold maxLen; omega) (Nat.le_refl _) ?_)
  intro w1 hown0 hg0
  have hown1 := OwnI.made hown0
  have hb1 : Below w.heap.size w w1 := (Below.refl _ _).grown hg0 (Nat.le_refl _) (by simp)
  clear hown0 hg0
  go_wp2_with fail
  go_loopw [4] (fun i wr => ∃ k : Nat, k ≤ l.length ∧ i = .int .i64 k ∧ OwnI wr w.heap.size 3 (.slice (some ⟨w.heap.size, 0, none⟩) l.length l.length) (part l k) ∧ Below w.heap.size w wr) (fun i _ => l.length - (intOf i).toNat)
  case atStart => exact ⟨0, Nat.zero_le _, rfl, by rw [part_zero]; exact hown1, hb1⟩
  case round =>
    obtain ⟨k, hk, rfl, hown, hb⟩ := hrel
    by_cases hlt : k < l.length
    · have hr2 := hrr.out.later hb
      obtain ⟨a', cap', e1, _, hcase⟩ := hr2
      injection e1 with e1 e2 e3
      subst e1 e3
      rcases hcase with h0 | ⟨b, off, rfl, hbB, hcell⟩
      · rw [h0] at hlt; simp at hlt
      have hc := hcell k hlt
      have hpl := part_length l k hk
      have hc2 := hown.cellAt hpl k (by rw [hpl]; exact hlt)
      have hf := hown.frozenAt hpl k
      have hst := hown.stored hpl k l[k]
      rw [part_set l k hlt] at hst
      have Hst := Lib.hid hst
      have hne : b ≠ w.heap.size := by omega
      clear hcell hst
      go_wp2
      go_roundw
      case rel => exact ⟨k + 1, by omega, by go_num, Hst.out, hb.setCell (Nat.le_refl _) _⟩
      case measure => simp [intOf]; omega
    · have ek : k = l.length := by omega
      subst ek
      rw [part_all] at hown
      go_wp2
      go_ret
      exact ⟨_, rfl, hown, hb⟩

set_option maxRecDepth 100000 in
set_option maxHeartbeats 800000 in
theorem eq_ints (v1 v2 : Value) (l1 l2 : List Int) (B : Nat) (w : World) (h1 : RI w v1 l1 B) (h2 : RI w v2 l2 B) (hB : B ≤ w.heap.size) :
    Calls Tryd.prog 50 #[v1, v2] w fun e w' => e = .returned (.bool (decide (l1 = l2))) ∧ Below w.heap.size w w' := by
  have hr1 := Lib.hid (h1.mono hB)
  have hr2 := Lib.hid (h2.mono hB)
  obtain ⟨a1, cap1, rfl, hl1, hc1⟩ := h1
  obtain ⟨a2, cap2, rfl, hl2, hc2⟩ := h2
  clear hc1 hc2
  by_cases hlen : l1.length = l2.length
  case neg =>
    have hne : decide (l1 = l2) = false := decide_eq_false (fun q => hlen (by rw [q]))
    rw [hne]
    clear hne
    have t0 : ((l1.length : Int) != (l2.length : Int)) = true := by rw [bne_iff_ne]; omega
    go_enter Tryd.func50, Tryd.ntmps50
    go_wp2
    go_ret
    exact ⟨rfl, Below.refl _ _⟩
  have t0 : ((l1.length : Int) != (l2.length : Int)) = false := by rw [bne_eq_false_iff_eq]; omega
  have HLEN := Lib.hid hlen
  clear hlen
  go_enter Tryd.func50, Tryd.ntmps50
  go_wp2
  go_loopw [5] (fun i wr => ∃ k : Nat, k ≤ l1.length ∧ i = .int .i64 k ∧ Hid (l1.take k = l2.take k) ∧ Below w.heap.size w wr) (fun i _ => l1.length - (intOf i).toNat)
  case atStart => exact ⟨0, Nat.zero_le _, rfl, Lib.hid rfl, Below.refl _ _⟩
  case round =>
    obtain ⟨k, hk, rfl, htk, hb⟩ := hrel
    by_cases hlt : k < l1.length
    · have hlt2 : k < l2.length := by have := HLEN.out; omega
      obtain ⟨a', cap', e1, _, hcase⟩ := hr1.out.later hb
      injection e1 with e1 e2 e3
      subst e1 e3
      rcases hcase with h0 | ⟨b, off, rfl, hbB, hcell⟩
      · rw [h0] at hlt; simp at hlt
      obtain ⟨a', cap', e1, _, hcase⟩ := hr2.out.later hb
      injection e1 with e1 e2 e3
      subst e1 e3
      rcases hcase with h0 | ⟨b', off', rfl, hbB', hcell'⟩
      · rw [h0] at hlt2; simp at hlt2
      have hc := hcell k hlt
      have hc' := hcell' k hlt2
      clear hcell hcell'
      have p1 : (0 : Int) ≤ (k : Int) := by omega
      have p2 : (k : Int) < (l1.length : Int) := by omega
      have p3 : (k : Int) < (l2.length : Int) := by omega
      by_cases heq : l1[k] = l2[k]
      · have t1 : (l1[k] != l2[k]) = false := by rw [bne_eq_false_iff_eq]; exact heq
        have htk2 := Lib.hid (show l1.take (k + 1) = l2.take (k + 1) by rw [take_snocI l1 k hlt, take_snocI l2 k hlt2, htk.out, heq])
        clear heq
        go_wp2
        go_quiet (fail)
        go_wp2
        go_roundw
        case rel => exact ⟨k + 1, by omega, by go_num, htk2, ⟨hb.os, hb.tape, hb.output, hb.size, hb.block⟩⟩
        case measure => simp [intOf]; omega
      · have t1 : (l1[k] != l2[k]) = true := by rw [bne_iff_ne]; exact heq
        have hne : decide (l1 = l2) = false := decide_eq_false (fun q => heq (by subst q; rfl))
        have HNE := Lib.hid hne
        clear hne heq
        go_wp2
        go_quiet (fail)
        go_wp2
        go_ret
        exact ⟨ret_b HNE.out.symm, ⟨hb.os, hb.tape, hb.output, hb.size, hb.block⟩⟩
    · have ek : k = l1.length := by omega
      subst ek
      have hyes : decide (l1 = l2) = true := decide_eq_true (by
        have := htk.out
        rw [List.take_length, List.take_of_length_le (by rw [← HLEN.out]; exact Nat.le_refl _)] at this
        exact this)
      have HY := Lib.hid hyes
      clear hyes
      go_wp2
      go_ret
      exact ⟨ret_b HY.out.symm, hb⟩

set_option maxRecDepth 100000 in
set_option maxHeartbeats 800000 in
theorem same_ints (v1 v2 : Value) (l1 l2 : List Int) (B : Nat) (w : World) (h1 : RI w v1 l1 B) (h2 : RI w v2 l2 B) (hB : B ≤ w.heap.size) :
    Calls Tryd.prog 11 #[v1, v2] w fun e w' => e = .returned (.bool (decide (l1 = l2))) ∧ Below w.heap.size w w' := by
  have hr1 := Lib.hid (h1.mono hB)
  have hr2 := Lib.hid (h2.mono hB)
  obtain ⟨a1, cap1, rfl, hl1, hc1⟩ := h1
  obtain ⟨a2, cap2, rfl, hl2, hc2⟩ := h2
  clear hc1 hc2
  by_cases hlen : l1.length = l2.length
  case neg =>
    have hne : decide (l1 = l2) = false := decide_eq_false (fun q => hlen (by rw [q]))
    rw [hne]
    clear hne
    have t0 : ((l1.length : Int) != (l2.length : Int)) = true := by rw [bne_iff_ne]; omega
    go_enter Tryd.func11, Tryd.ntmps11
    go_wp2
    go_ret
    exact ⟨rfl, Below.refl _ _⟩
  have t0 : ((l1.length : Int) != (l2.length : Int)) = false := by rw [bne_eq_false_iff_eq]; omega
  have HLEN := Lib.hid hlen
  clear hlen
  go_enter Tryd.func11, Tryd.ntmps11
  go_wp2
  go_loopw [5] (fun i wr => ∃ k : Nat, k ≤ l1.length ∧ i = .int .i64 k ∧ Hid (l1.take k = l2.take k) ∧ Below w.heap.size w wr) (fun i _ => l1.length - (intOf i).toNat)
  case atStart => exact ⟨0, Nat.zero_le _, rfl, Lib.hid rfl, Below.refl _ _⟩
  case round =>
    obtain ⟨k, hk, rfl, htk, hb⟩ := hrel
    by_cases hlt : k < l1.length
    · have hlt2 : k < l2.length := by have := HLEN.out; omega
      obtain ⟨a', cap', e1, _, hcase⟩ := hr1.out.later hb
      injection e1 with e1 e2 e3
      subst e1 e3
      rcases hcase with h0 | ⟨b, off, rfl, hbB, hcell⟩
      · rw [h0] at hlt; simp at hlt
      obtain ⟨a', cap', e1, _, hcase⟩ := hr2.out.later hb
      injection e1 with e1 e2 e3
      subst e1 e3
      rcases hcase with h0 | ⟨b', off', rfl, hbB', hcell'⟩
      · rw [h0] at hlt2; simp at hlt2
      have hc := hcell k hlt
      have hc' := hcell' k hlt2
      clear hcell hcell'
      have p1 : (0 : Int) ≤ (k : Int) := by omega
      have p2 : (k : Int) < (l1.length : Int) := by omega
      have p3 : (k : Int) < (l2.length : Int) := by omega
      by_cases heq : l1[k] = l2[k]
      · have t1 : (l1[k] != l2[k]) = false := by rw [bne_eq_false_iff_eq]; exact heq
        have htk2 := Lib.hid (show l1.take (k + 1) = l2.take (k + 1) by rw [take_snocI l1 k hlt, take_snocI l2 k hlt2, htk.out, heq])
        clear heq
        go_wp2
        go_quiet (fail)
        go_wp2
        go_roundw
        case rel => exact ⟨k + 1, by omega, by go_num, htk2, ⟨hb.os, hb.tape, hb.output, hb.size, hb.block⟩⟩
        case measure => simp [intOf]; omega
      · have t1 : (l1[k] != l2[k]) = true := by rw [bne_iff_ne]; exact heq
        have hne : decide (l1 = l2) = false := decide_eq_false (fun q => heq (by subst q; rfl))
        have HNE := Lib.hid hne
        clear hne heq
        go_wp2
        go_quiet (fail)
        go_wp2
        go_ret
        exact ⟨ret_b HNE.out.symm, ⟨hb.os, hb.tape, hb.output, hb.size, hb.block⟩⟩
    · have ek : k = l1.length := by omega
      subst ek
      have hyes : decide (l1 = l2) = true := decide_eq_true (by
        have := htk.out
        rw [List.take_length, List.take_of_length_le (by rw [← HLEN.out]; exact Nat.le_refl _)] at this
        exact this)
      have HY := Lib.hid hyes
      clear hyes
      go_wp2
      go_ret
      exact ⟨ret_b HY.out.symm, hb⟩

set_option maxRecDepth 100000 in
set_option maxHeartbeats 800000 in
theorem mark_ints (v : Value) (l : List Int) (base : Nat) (k0 : Nat) (w : World) (h : OwnI w base 3 v l) (hl : l.length ≤ 1048577) (hk0 : k0 ≤ 1000000000) :
    Calls Tryd.prog 54 #[v, .int .i64 k0] w fun e w' => e = .returned (.int .i64 ((k0 + l.length : Nat) : Int)) ∧ OwnI w' base 3 v (marks k0 l.length) ∧ w.grownBy w' v.ownBlock := by
  rcases h.form with ⟨rfl, rfl⟩ | ⟨g, cap, rfl, hb, hg⟩
  · go_enter Tryd.func54, Tryd.ntmps54
    go_wp2
    go_loop [1, 5] (fun k i => k = .int .i64 k0 ∧ i = .int .i64 0) (fun _ _ => 0)
    case atStart => exact ⟨rfl, rfl⟩
    case round =>
      obtain ⟨rfl, rfl⟩ := hrel
      go_wp2
      go_ret
      exact ⟨rfl, OwnI.nil _ _ _, ⟨rfl, rfl, rfl, Nat.le_refl _, fun _ _ _ => rfl⟩⟩
  · go_enter Tryd.func54, Tryd.ntmps54
    go_wp2
    go_loopw [1, 5] (fun k i wr => ∃ j : Nat, j ≤ l.length ∧ i = .int .i64 j ∧ k = .int .i64 ((k0 + j : Nat) : Int) ∧ OwnI wr base 3 (.slice (some ⟨g, 0, none⟩) l.length cap) (marked k0 l j) ∧ w.grownBy wr (some g)) (fun _ i _ => l.length - (intOf i).toNat)
    case atStart => exact ⟨0, Nat.zero_le _, rfl, rfl, by rw [marked_zero]; exact h, ⟨rfl, rfl, rfl, Nat.le_refl _, fun _ _ _ => rfl⟩⟩
    case round =>
      obtain ⟨j, hj, rfl, rfl, hown, hgr⟩ := hrel
      by_cases hlt : j < l.length
      · have hml := marked_length (k0 : Int) l j hj
        have hc2 := hown.cellAt hml j (by rw [hml]; exact hlt)
        have hf := hown.frozenAt hml j
        have hst := hown.stored hml j ((k0 : Int) + (j : Int))
        rw [marked_set _ l j hlt] at hst
        have e1 : ((k0 + j : Nat) : Int) = (k0 : Int) + (j : Int) := by omega
        rw [← e1] at hst
        have Hst := Lib.hid hst
        clear hst e1
        generalize hkj : k0 + j = q at *
        go_wp2
        go_roundw
        case rel => exact ⟨j + 1, by omega, by go_num, by go_num, Hst.out, ⟨hgr.os, hgr.tape, hgr.output, by simpa using hgr.size, fun i hi hne => (heap_setCell_other wr _ i _ (by intro q; exact hne (by rw [q]))).trans (hgr.block i hi hne)⟩⟩
        case measure => simp [intOf]; omega
      · have ek : j = l.length := by omega
        subst ek
        rw [marked_all] at hown
        go_wp2
        go_ret
        exact ⟨rfl, hown, hgr⟩

set_option maxRecDepth 100000 in
theorem held_ints (v : Value) (n : Nat) (B : Nat) (k0 : Nat) (w : World) (h : RI w v (marks k0 n) B) (hn : n ≤ 1048577) (hk0 : k0 ≤ 1000000000) :
    Calls Tryd.prog 55 #[v, .int .i64 k0] w fun e w' => e = .returned (.int .i64 ((k0 + n : Nat) : Int)) ∧ w = w' := by
  obtain ⟨a, cap, rfl, _, hcase⟩ := h
  rw [marks_length] at *
  have Hc := Lib.hid hcase
  clear hcase
  go_enter Tryd.func55, Tryd.ntmps55
  go_wp2
  go_loop [1, 5] (fun k i => ∃ j : Nat, j ≤ n ∧ i = .int .i64 j ∧ k = .int .i64 ((k0 + j : Nat) : Int)) (fun _ i => n - (intOf i).toNat)
  case atStart => exact ⟨0, Nat.zero_le _, rfl, rfl⟩
  case round =>
    obtain ⟨j, hj, rfl, rfl⟩ := hrel
    by_cases hlt : j < n
    · rcases Hc.out with h0 | ⟨b, off, rfl, hbB, hcell⟩
      · have := congrArg List.length h0
        rw [marks_length] at this
        simp at this
        omega
      have hc := hcell j (by rw [marks_length]; exact hlt)
      rw [marks_get] at hc
      have e1 : (k0 : Int) + (j : Int) = ((k0 + j : Nat) : Int) := by omega
      rw [e1] at hc
      clear hcell e1
      generalize hkj : k0 + j = q at *
      go_wp2
      go_round
      case rel => exact ⟨j + 1, by omega, by go_num, by go_num⟩
      case measure => simp [intOf]; omega
    · have ek : j = n := by omega
      subst ek
      go_wp2
      go_ret
      exact ⟨rfl, rfl⟩
end Go.Proofs.YtnoennmhifmolaaDoor.IntsLaw
