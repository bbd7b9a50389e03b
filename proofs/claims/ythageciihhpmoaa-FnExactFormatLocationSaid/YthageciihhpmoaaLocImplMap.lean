/- Lists of size classes: the program's functions that make lists. -/
import Derived.Test.YthageciihhpmoaaLocImpl
import Derived.Test.YthageciihhpmoaaDraw
import Derived.StillTailTactics
import Derived.Test.YthageciihhpmoaaDig
namespace Go.Proofs.Ythageciihhpmoaa.LocImpl
open Go Go.RowKit Byt Ints IntsLaw Sz Loc Draw

set_option maxRecDepth 100000 in
theorem map_sizes (v : Value) (l : List Int) (B : Nat) (w : World) (hr : RI w v l B) (hB : B ≤ w.heap.size) (h16 : l.length ≤ 16) :
    Calls Try.prog 91 #[v, .func (.func 49) #[] #[]] w fun e w' => ∃ v', e = .returned v' ∧ OwnI w' w.heap.size 3 v' (l.map clsz) ∧ Below w.heap.size w w' := by
  obtain ⟨i0, hi, hz0, hz1, hz2⟩ := info_parts info_i64
  have HR := Lib.hid (fun w' (hb : Below w.heap.size w w') => (hr.mono hB).later hb)
  obtain ⟨a, cap, rfl, hlm, _⟩ := hr
  go_enter Try.func91, Try.ntmps91
  go_wp2_with (at_make; refine wpList_make_own _ rfl _ _ 22 rfl w.heap.size 3 i0 (.int .i64 0) 1 Try.underlying22 hi hz0 hz1 _ _ _ l.length rfl rfl rfl (by rw [hz2]; omega) (by unfold maxLen; omega) (Nat.le_refl _) ?_)
  intro w1 hown0 hg0
  have hown1 : OwnI w1 w.heap.size 3 (.slice (some ⟨w.heap.size, 0, none⟩) 0 l.length) [] := hown0
  have hb1 : Below w.heap.size w w1 := (Below.refl _ _).grown hg0 (Nat.le_refl _) (by simp)
  clear hown0 hg0
  go_wp2
  go_loopw [5, 13] (fun o i wr => ∃ k : Nat, k ≤ l.length ∧ i = .int .i64 k ∧ OwnI wr w.heap.size 3 o ((l.take k).map clsz) ∧ Below w.heap.size w wr) (fun _ i _ => l.length - (intOf i).toNat)
  case atStart => exact ⟨0, Nat.zero_le _, rfl, by simpa using hown1, hb1⟩
  case round =>
    obtain ⟨k, hk, rfl, hown, hb⟩ := hrel
    by_cases hlt : k < l.length
    · obtain ⟨b, off, cap', e1, hbB, hc⟩ := cell_of (HR.out wr hb) hlt
      injection e1 with e1 e2 e3
      subst e1 e3
      have HC := Lib.hid (class_size l[k] wr)
      have hlen : ((l.take k).map clsz).length + 1 ≤ 1000000000000 := by rw [List.length_map, List.length_take]; omega
      have hbs := hb.size
      have HB := Lib.hid hb
      have ht : (l.take (k + 1)).map clsz = (l.take k).map clsz ++ [clsz l[k]] := by rw [List.take_succ_eq_append_getElem hlt, List.map_append]; rfl
      have HT := Lib.hid ht
      clear ht hb
      generalize clsz l[k] = z at *
      go_wp2_with (first | (go_at_call 49; refine HC.out.mono ?_; rintro e w1 ⟨rfl, rfl⟩) | (at_builtin; refine wp_appendI rfl (.tmp 17) (.tmp 21) 22 rfl w.heap.size 3 Try.underlying22 info_i64 _ _ rfl hown _ rfl hlen hbs ?_))
      intro v' w5 hown5 hb5
      go_wp2_with fail
      go_roundw
      case rel => exact ⟨k + 1, by omega, by go_num, by rw [HT.out, List.map_take]; exact hown5, HB.out.trans hb5⟩
      case measure => simp [intOf]; omega
    · have ek : k = l.length := by omega
      subst ek
      rw [List.take_length] at hown
      go_wp2_with fail
      go_ret
      exact ⟨_, rfl, hown, hb⟩

theorem location_sizes (v : Value) (l : List Int) (B : Nat) (w : World) (hr : RI w v l B) (hB : B ≤ w.heap.size) :
    Calls Try.prog 56 #[v] w fun e w' => ∃ v', e = .returned v' ∧ OwnI w' w.heap.size 3 v' (if isLoc l then l.map clsz else []) ∧ Below w.heap.size w w' := by
  have HI := Lib.hid (is_location v l B w hr)
  cases hq : isLoc l with
  | false =>
    rw [hq] at HI
    clear hr hq
    go_enter Try.func56, Try.ntmps56
    go_wp2_with fail
    refine HI.out.mono ?_
    rintro e w1 ⟨rfl, rfl⟩
    go_wp2_with fail
    go_ret
    exact ⟨_, rfl, OwnI.nil _ _ _, Below.refl _ _⟩
  | true =>
    rw [hq] at HI
    have HM := Lib.hid (map_sizes v l B w hr hB (isLoc_iff.1 hq).1)
    clear hr hq
    rw [if_pos rfl]
    go_enter Try.func56, Try.ntmps56
    go_wp2_with fail
    refine HI.out.mono ?_
    rintro e w1 ⟨rfl, rfl⟩
    go_wp2_with fail
    refine HM.out.mono ?_
    rintro e w2 ⟨v', rfl, ho, hb⟩
    go_wp2_with fail
    go_ret
    exact ⟨_, rfl, ho, hb⟩

set_option maxRecDepth 100000 in
set_option maxHeartbeats 800000 in
theorem dominates (v1 v2 : Value) (l1 l2 : List Int) (B : Nat) (w : World) (h1 : RI w v1 l1 B) (h2 : RI w v2 l2 B) (hB : B ≤ w.heap.size) :
    Calls Try.prog 51 #[v1, v2] w fun e w' => e = .returned (.bool (dom l1 l2)) ∧ Below w.heap.size w w' := by
  have hr1 := Lib.hid (h1.mono hB)
  have hr2 := Lib.hid (h2.mono hB)
  obtain ⟨a1, cap1, rfl, hl1, hc1⟩ := h1
  obtain ⟨a2, cap2, rfl, hl2, hc2⟩ := h2
  clear hc1 hc2
  by_cases hlen : l1.length = l2.length
  case neg =>
    have hne : dom l1 l2 = false := decide_eq_false (fun q => hlen q.1)
    rw [hne]
    clear hne
    have t0 : ((l1.length : Int) != (l2.length : Int)) = true := by rw [bne_iff_ne]; omega
    go_enter Try.func51, Try.ntmps51
    go_wp2
    go_ret
    exact ⟨rfl, Below.refl _ _⟩
  have t0 : ((l1.length : Int) != (l2.length : Int)) = false := by rw [bne_eq_false_iff_eq]; omega
  have HLEN := Lib.hid hlen
  clear hlen
  go_enter Try.func51, Try.ntmps51
  go_wp2
  go_loopw [14] (fun i wr => ∃ k : Nat, k ≤ l1.length ∧ i = .int .i64 k ∧ Hid (∀ t : Nat, t < k → l2.getD t 0 ≤ l1.getD t 0) ∧ Below w.heap.size w wr) (fun i _ => l1.length - (intOf i).toNat)
  case atStart => exact ⟨0, Nat.zero_le _, rfl, Lib.hid (fun t ht => by omega), Below.refl _ _⟩
  case round =>
    obtain ⟨k, hk, rfl, htk, hb⟩ := hrel
    by_cases hlt : k < l1.length
    · have hlt2 : k < l2.length := by have := HLEN.out; omega
      obtain ⟨b, off, cap', e1, hbB, hc⟩ := cell_of (hr1.out.later hb) hlt
      injection e1 with e1 e2 e3
      subst e1 e3
      obtain ⟨b', off', cap', e1, hbB', hc'⟩ := cell_of (hr2.out.later hb) hlt2
      injection e1 with e1 e2 e3
      subst e1 e3
      have p1 : (0 : Int) ≤ (k : Int) := by omega
      have p2 : (k : Int) < (l1.length : Int) := by omega
      have p3 : (k : Int) < (l2.length : Int) := by omega
      have g1 : l1.getD k 0 = l1[k] := by simp [hlt]
      have g2 : l2.getD k 0 = l2[k] := by simp [hlt2]
      by_cases heq : l1[k] < l2[k]
      · have HNE := Lib.hid (show dom l1 l2 = false from decide_eq_false (fun q => by have := q.2 k hlt; rw [g1, g2] at this; omega))
        have t1 : decide (l1[k] < l2[k]) = true := decide_eq_true heq
        clear g1 g2
        go_wp2
        go_ret
        exact ⟨ret_b HNE.out.symm, hb⟩
      · have htk2 := Lib.hid (show ∀ t : Nat, t < k + 1 → l2.getD t 0 ≤ l1.getD t 0 from fun t ht => by
          by_cases e : t = k
          · subst e; rw [g1, g2]; omega
          · exact htk.out t (by omega))
        have t1 : decide (l1[k] < l2[k]) = false := decide_eq_false heq
        clear g1 g2
        go_wp2
        go_roundw
        case rel => exact ⟨k + 1, by omega, by go_num, htk2, hb⟩
        case measure => simp [intOf]; omega
    · have ek : k = l1.length := by omega
      subst ek
      have HD := Lib.hid (show dom l1 l2 = true from decide_eq_true ⟨HLEN.out, htk.out⟩)
      go_wp2
      go_ret
      exact ⟨ret_b HD.out.symm, hb⟩

theorem format_location (v : Value) (l : List Int) (B : Nat) (w : World) (hr : RI w v l B) (hB : B ≤ w.heap.size) :
    Calls Try.prog 54 #[v] w fun e w' => e = .returned (.string ⟨(if isLoc l then locB l else []).toArray⟩) ∧ Below w.heap.size w w' := by
  have HI := Lib.hid (is_location v l B w hr)
  cases hq : isLoc l with
  | false =>
    rw [hq] at HI
    clear hr hq
    go_enter Try.func54, Try.ntmps54
    go_wp2_with fail
    refine HI.out.mono ?_
    rintro e w1 ⟨rfl, rfl⟩
    go_wp2_with fail
    go_ret
    exact ⟨rfl, Below.refl _ _⟩
  | true =>
    rw [hq] at HI
    have HM := Lib.hid (Dig.format_digits v l B w hr hB (by have := (isLoc_iff.1 hq).1; omega) (fun x hx => by have := (isLoc_iff.1 hq).2 x hx; omega))
    clear hr hq
    rw [if_pos rfl]
    go_enter Try.func54, Try.ntmps54
    go_wp2_with fail
    refine HI.out.mono ?_
    rintro e w1 ⟨rfl, rfl⟩
    go_wp2_with fail
    refine HM.out.mono ?_
    rintro e w2 ⟨rfl, hb⟩
    go_wp2_with fail
    go_ret
    exact ⟨rfl, hb⟩

set_option maxRecDepth 100000 in
theorem parse_location (s : ByteArray) (w : World) :
    Calls Try.prog 55 #[.string s] w fun e w' => ∃ v', e = .returned (.tuple #[v', .bool (isLoc (digs s.data.toList))]) ∧ OwnI w' w.heap.size 3 v' (if isLoc (digs s.data.toList) then digs s.data.toList else []) ∧ Below w.heap.size w w' := by
  have hl : s.data.toList.length = s.size := Array.length_toList
  by_cases h16 : 16 < s.size
  · have hq : isLoc (digs s.data.toList) = false := isLoc_no.2 (fun q => by have := q.1; rw [digs_len, hl] at this; omega)
    rw [hq]
    clear hq hl
    go_enter Try.func55, Try.ntmps55
    go_wp2
    go_ret2
    exact ⟨_, rfl, OwnI.nil _ _ _, Below.refl _ _⟩
  clear hl
  have HM := Lib.hid (Dig.parse_digits s w (by omega))
  have HI := Lib.hid (fun v w' (h : OwnI w' w.heap.size 3 v (digs s.data.toList)) => is_location v _ _ w' h.reads)
  generalize digs s.data.toList = ds at *
  generalize hq : isLoc ds = q at *
  clear hq
  go_enter Try.func55, Try.ntmps55
  go_wp2_with fail
  refine HM.out.mono ?_
  rintro e w2 ⟨v', rfl, ho, hb⟩
  go_wp2_with fail
  refine (HI.out _ _ ho).mono ?_
  rintro e w3 ⟨rfl, rfl⟩
  cases q
  all_goals
    go_wp2
    go_ret2
  · exact ⟨_, rfl, OwnI.nil _ _ _, hb⟩
  · exact ⟨_, rfl, ho, hb⟩
end Go.Proofs.Ythageciihhpmoaa.LocImpl
