/- What the exact laws do with slices of ints: they copy them, compare them, mark them and look at the marks. -/
import Derived.Test.YthnphlgkkfdnlaaDoorRows
import Derived.Test.YthnphlgkkfdnlaaDoorInts
import Derived.WalkKit
import Derived.WalkSpells
import Derived.WalkLawsBesides
import Derived.Lib.Hide
import Derived.Deep.QuietTactic
import Derived.BigQuiet
namespace Go.Proofs.YthnphlgkkfdnlaaDoor.IntsLaw
open Go Go.RowKit Byt Ints

theorem info_i64 : (Tryd.prog.info? 3).map (fun i => (i.zero, i.size, i.bytes)) = some (some (.int .i64 0), 1, 8) := by kernel_rfl

theorem take_snocI (l : List Int) (k : Nat) (h : k < l.length) : l.take (k + 1) = l.take k ++ [l[k]] := List.take_succ_eq_append_getElem h

/-- l's first k numbers, then zeros. -/
def part (l : List Int) (k : Nat) : List Int := l.take k ++ List.replicate (l.length - k) 0
theorem part_zero (l : List Int) : part l 0 = List.replicate l.length 0 := by simp [part]
theorem part_all (l : List Int) : part l l.length = l := by simp [part]
theorem part_length (l : List Int) (k : Nat) (h : k ≤ l.length) : (part l k).length = l.length := by
  unfold part
  rw [List.length_append, List.length_take, List.length_replicate]
  omega
theorem part_set (l : List Int) (k : Nat) (h : k < l.length) : (part l k).set k l[k] = part l (k + 1) := by
  unfold part
  have e : l.length - k = (l.length - (k + 1)) + 1 := by omega
  rw [e, List.replicate_succ, List.set_append_right _ _ (by simp; omega), take_snocI l k h]
  have e2 : k - (l.take k).length = 0 := by simp; omega
  rw [e2, List.set_cons_zero, List.append_assoc]
  rfl

/-- k, k + 1, .. : n numbers. -/
def marks (k : Int) (n : Nat) : List Int := (List.range n).map fun (t : Nat) => k + (t : Int)
theorem marks_length (k : Int) (n : Nat) : (marks k n).length = n := by simp [marks]
theorem marks_get (k : Int) (n t : Nat) (h : t < (marks k n).length) : (marks k n)[t] = k + (t : Int) := by simp [marks]
/-- l with its first j numbers marked. -/
def marked (k : Int) (l : List Int) (j : Nat) : List Int := marks k j ++ l.drop j
theorem marked_length (k : Int) (l : List Int) (j : Nat) (h : j ≤ l.length) : (marked k l j).length = l.length := by
  unfold marked
  rw [List.length_append, marks_length, List.length_drop]
  omega
theorem marked_set (k : Int) (l : List Int) (j : Nat) (h : j < l.length) : (marked k l j).set j (k + (j : Int)) = marked k l (j + 1) := by
  unfold marked
  rw [List.drop_eq_getElem_cons h, List.set_append_right _ _ (by rw [marks_length]; exact Nat.le_refl _), marks_length, Nat.sub_self, List.set_cons_zero]
  have e : marks k (j + 1) = marks k j ++ [k + (j : Int)] := by simp [marks, List.range_succ]
  rw [e, List.append_assoc]
  rfl
theorem marked_zero (k : Int) (l : List Int) : marked k l 0 = l := by simp [marked, marks]
theorem marked_all (k : Int) (l : List Int) : marked k l l.length = marks k l.length := by simp [marked]



set_option maxRecDepth 100000 in
set_option maxHeartbeats 800000 in
theorem same_ints (v1 v2 : Value) (l1 l2 : List Int) (B : Nat) (w : World) (h1 : RI w v1 l1 B) (h2 : RI w v2 l2 B) (hB : B ≤ w.heap.size) :
    Calls Tryd.prog 9 #[v1, v2] w fun e w' => e = .returned (.bool (decide (l1 = l2))) ∧ Below w.heap.size w w' := by
  have hr1 := Lib.hid (h1.mono hB)
  have hr2 := Lib.hid (h2.mono hB)
  obtain ⟨a1, cap1, rfl, hl1, hc1⟩ := h1
  obtain ⟨a2, cap2, rfl, hl2, hc2⟩ := h2
  clear hc1 hc2
  by_cases hlen : l1.length = l2.length
  case neg =>
    have hne : decide (l1 = l2) = false := decide_eq_false (fun q => hlen (by rw [q]))
    rw [hne]
    clear hne
    have t0 : ((l1.length : Int) != (l2.length : Int)) = true := by rw [bne_iff_ne]; omega
    go_enter Tryd.func9, Tryd.ntmps9
    go_wp2
    go_ret
    exact ⟨rfl, Below.refl _ _⟩
  have t0 : ((l1.length : Int) != (l2.length : Int)) = false := by rw [bne_eq_false_iff_eq]; omega
  have HLEN := Lib.hid hlen
  clear hlen
  go_enter Tryd.func9, Tryd.ntmps9
  go_wp2
  go_loopw [5] (fun i wr => ∃ k : Nat, k ≤ l1.length ∧ i = .int .i64 k ∧ Hid (l1.take k = l2.take k) ∧ Below w.heap.size w wr) (fun i _ => l1.length - (intOf i).toNat)
  case atStart => exact ⟨0, Nat.zero_le _, rfl, Lib.hid rfl, Below.refl _ _⟩
  case round =>
    obtain ⟨k, hk, rfl, htk, hb⟩ := hrel
    by_cases hlt : k < l1.length
    · have hlt2 : k < l2.length := by have := HLEN.out; omega
      obtain ⟨a', cap', e1, _, hcase⟩ := hr1.out.later hb
      injection e1 with e1 e2 e3
      subst e1 e3
      rcases hcase with h0 | ⟨b, off, rfl, hbB, hcell⟩
      · rw [h0] at hlt; simp at hlt
      obtain ⟨a', cap', e1, _, hcase⟩ := hr2.out.later hb
      injection e1 with e1 e2 e3
      subst e1 e3
      rcases hcase with h0 | ⟨b', off', rfl, hbB', hcell'⟩
      · rw [h0] at hlt2; simp at hlt2
      have hc := hcell k hlt
      have hc' := hcell' k hlt2
      clear hcell hcell'
      have p1 : (0 : Int) ≤ (k : Int) := by omega
      have p2 : (k : Int) < (l1.length : Int) := by omega
      have p3 : (k : Int) < (l2.length : Int) := by omega
      by_cases heq : l1[k] = l2[k]
      · have t1 : (l1[k] != l2[k]) = false := by rw [bne_eq_false_iff_eq]; exact heq
        have htk2 := Lib.hid (show l1.take (k + 1) = l2.take (k + 1) by rw [take_snocI l1 k hlt, take_snocI l2 k hlt2, htk.out, heq])
        clear heq
        go_wp2
        go_quiet (fail)
        go_wp2
        go_roundw
        case rel => exact ⟨k + 1, by omega, by go_num, htk2, ⟨hb.os, hb.tape, hb.output, hb.size, hb.block⟩⟩
        case measure => simp [intOf]; omega
      · have t1 : (l1[k] != l2[k]) = true := by rw [bne_iff_ne]; exact heq
        have hne : decide (l1 = l2) = false := decide_eq_false (fun q => heq (by subst q; rfl))
        have HNE := Lib.hid hne
        clear hne heq
        go_wp2
        go_quiet (fail)
        go_wp2
        go_ret
        exact ⟨ret_b HNE.out.symm, ⟨hb.os, hb.tape, hb.output, hb.size, hb.block⟩⟩
    · have ek : k = l1.length := by omega
      subst ek
      have hyes : decide (l1 = l2) = true := decide_eq_true (by
        have := htk.out
        rw [List.take_length, List.take_of_length_le (by rw [← HLEN.out]; exact Nat.le_refl _)] at this
        exact this)
      have HY := Lib.hid hyes
      clear hyes
      go_wp2
      go_ret
      exact ⟨ret_b HY.out.symm, hb⟩


end Go.Proofs.YthnphlgkkfdnlaaDoor.IntsLaw
