/- Lists of size classes: the program's functions that make lists. -/
import Derived.Test.YthkmjdiopmpjoaaLocImpl
import Derived.Test.YthkmjdiopmpjoaaDraw
import Derived.StillTailTactics
namespace Go.Proofs.Ythkmjdiopmpjoaa.LocImpl
open Go Go.RowKit Byt Ints IntsLaw Sz Loc Draw

theorem info_u8 : (Try.prog.info? 5).map (fun i => (i.zero, i.size, i.bytes)) = some (some (.int .u8 0), 1, 1) := by kernel_rfl

set_option maxRecDepth 100000 in
theorem map_sizes (v : Value) (l : List Int) (B : Nat) (w : World) (hr : RI w v l B) (hB : B ≤ w.heap.size) (h16 : l.length ≤ 16) :
    Calls Try.prog 46 #[v, .func (.func 18) #[] #[]] w fun e w' => ∃ v', e = .returned v' ∧ OwnI w' w.heap.size 3 v' (l.map clsz) ∧ Below w.heap.size w w' := by
  obtain ⟨i0, hi, hz0, hz1, hz2⟩ := info_parts info_i64
  have HR := Lib.hid (fun w' (hb : Below w.heap.size w w') => (hr.mono hB).later hb)
  obtain ⟨a, cap, rfl, hlm, _⟩ := hr
  go_enter Try.func46, Try.ntmps46
  go_wp2_with (at_make; refine wpList_make_own _ rfl _ _ 26 rfl w.heap.size 3 i0 (.int .i64 0) 1 Try.underlying26 hi hz0 hz1 _ _ _ l.length rfl rfl rfl (by rw [hz2]; omega) (by unfold maxLen; omega) (Nat.le_refl _) ?_)
  intro w1 hown0 hg0
  have hown1 : OwnI w1 w.heap.size 3 (.slice (some ⟨w.heap.size, 0, none⟩) 0 l.length) [] := hown0
  have hb1 : Below w.heap.size w w1 := (Below.refl _ _).grown hg0 (Nat.le_refl _) (by simp)
  clear hown0 hg0
  go_wp2
  go_loopw [5, 13] (fun o i wr => ∃ k : Nat, k ≤ l.length ∧ i = .int .i64 k ∧ OwnI wr w.heap.size 3 o ((l.take k).map clsz) ∧ Below w.heap.size w wr) (fun _ i _ => l.length - (intOf i).toNat)
  case atStart => exact ⟨0, Nat.zero_le _, rfl, by simpa using hown1, hb1⟩
  case round =>
    obtain ⟨k, hk, rfl, hown, hb⟩ := hrel
    by_cases hlt : k < l.length
    · obtain ⟨b, off, cap', e1, hbB, hc⟩ := cell_of (HR.out wr hb) hlt
      injection e1 with e1 e2 e3
      subst e1 e3
      have HC := Lib.hid (class_size l[k] wr)
      have hlen : ((l.take k).map clsz).length + 1 ≤ 1000000000000 := by rw [List.length_map, List.length_take]; omega
      have hbs := hb.size
      have HB := Lib.hid hb
      have ht : (l.take (k + 1)).map clsz = (l.take k).map clsz ++ [clsz l[k]] := by rw [List.take_succ_eq_append_getElem hlt, List.map_append]; rfl
      have HT := Lib.hid ht
      clear ht hb
      generalize clsz l[k] = z at *
      go_wp2_with (first | (go_at_call 18; refine HC.out.mono ?_; rintro e w1 ⟨rfl, rfl⟩) | (at_builtin; refine wp_appendI rfl (.tmp 17) (.tmp 21) 26 rfl w.heap.size 3 Try.underlying26 info_i64 _ _ rfl hown _ rfl hlen hbs ?_))
      intro v' w5 hown5 hb5
      go_wp2_with fail
      go_roundw
      case rel => exact ⟨k + 1, by omega, by go_num, by rw [HT.out, List.map_take]; exact hown5, HB.out.trans hb5⟩
      case measure => simp [intOf]; omega
    · have ek : k = l.length := by omega
      subst ek
      rw [List.take_length] at hown
      go_wp2_with fail
      go_ret
      exact ⟨_, rfl, hown, hb⟩

set_option maxRecDepth 100000 in
theorem map_digits (v : Value) (l : List Int) (B : Nat) (w : World) (hr : RI w v l B) (hB : B ≤ w.heap.size) (hloc : isLoc l = true) :
    Calls Try.prog 42 #[v, .func (.func 43) #[] #[]] w fun e w' => ∃ v', e = .returned v' ∧ Own w' w.heap.size 5 v' (locB l) ∧ Below w.heap.size w w' := by
  obtain ⟨i0, hi, hz0, hz1, hz2⟩ := info_parts info_u8
  have HR := Lib.hid (fun w' (hb : Below w.heap.size w w') => (hr.mono hB).later hb)
  have h16 := (isLoc_iff.1 hloc).1
  have HX := Lib.hid (isLoc_iff.1 hloc).2
  clear hloc
  obtain ⟨a, cap, rfl, hlm, _⟩ := hr
  go_enter Try.func42, Try.ntmps42
  go_wp2_with (at_make; refine wpList_make_own _ rfl _ _ 22 rfl w.heap.size 5 i0 (.int .u8 0) 1 Try.underlying22 hi hz0 hz1 _ _ _ l.length rfl rfl rfl (by rw [hz2]; omega) (by unfold maxLen; omega) (Nat.le_refl _) ?_)
  intro w1 hown0 hg0
  have hown1 : Own w1 w.heap.size 5 (.slice (some ⟨w.heap.size, 0, none⟩) 0 l.length) [] := hown0
  have hb1 : Below w.heap.size w w1 := (Below.refl _ _).grown hg0 (Nat.le_refl _) (by simp)
  clear hown0 hg0
  go_wp2
  go_loopw [5, 13] (fun o i wr => ∃ k : Nat, k ≤ l.length ∧ i = .int .i64 k ∧ Own wr w.heap.size 5 o (locB (l.take k)) ∧ Below w.heap.size w wr) (fun _ i _ => l.length - (intOf i).toNat)
  case atStart => exact ⟨0, Nat.zero_le _, rfl, by simpa [locB] using hown1, hb1⟩
  case round =>
    obtain ⟨k, hk, rfl, hown, hb⟩ := hrel
    by_cases hlt : k < l.length
    · obtain ⟨b, off, cap', e1, hbB, hc⟩ := cell_of (HR.out wr hb) hlt
      injection e1 with e1 e2 e3
      subst e1 e3
      have HC := Lib.hid (class_digit l[k] (HX.out _ (List.getElem_mem hlt)) wr)
      have hlen : (locB (l.take k)).length + 1 ≤ 140737488355328 := by rw [locB_len, List.length_take]; omega
      have hbs := hb.size
      have HB := Lib.hid hb
      have HT := Lib.hid (show locB (l.take (k + 1)) = locB (l.take k) ++ [UInt8.ofNat (48 + l[k].toNat)] by unfold locB; rw [List.take_succ_eq_append_getElem hlt, List.map_append]; rfl)
      clear hb
      generalize UInt8.ofNat (48 + l[k].toNat) = z at *
      have hz : z.toNat < 256 := UInt8.toNat_lt z
      go_wp2_with (first | (go_at_call 43; refine HC.out.mono ?_; rintro e w1 ⟨rfl, rfl⟩) | (at_builtin; refine wp_append1 rfl (.tmp 17) (.tmp 21) 22 rfl w.heap.size 5 Try.underlying22 info_u8 _ _ rfl hown _ rfl (by omega) (by omega) hlen hbs ?_))
      intro v' w5 hown5 hb5
      go_wp2_with fail
      go_roundw
      case rel => exact ⟨k + 1, by omega, by go_num, by rw [HT.out]; exact hown5, HB.out.trans hb5⟩
      case measure => simp [intOf]; omega
    · have ek : k = l.length := by omega
      subst ek
      rw [List.take_length] at hown
      go_wp2_with fail
      go_ret
      exact ⟨_, rfl, hown, hb⟩

theorem cell_of_bytes {w : World} {v : Value} {l : List UInt8} {B : Nat} (h : Reads w v l B) {k : Nat} (hk : k < l.length) :
    ∃ b off cap, v = .slice (some ⟨b, off, none⟩) l.length cap ∧ b < B ∧ w.cell? ⟨b, off + k, none⟩ = some (.int .u8 (l[k].toNat : Int)) := by
  obtain ⟨a, cap, rfl, _, hc⟩ := h
  rcases hc with h0 | ⟨b, off, rfl, hb, hcell⟩
  · rw [h0] at hk; simp at hk
  · exact ⟨b, off, cap, rfl, hb, hcell k hk⟩
theorem reads_mono {w : World} {v : Value} {l : List UInt8} {B B' : Nat} (h : Reads w v l B) (hB : B ≤ B') : Reads w v l B' := by
  obtain ⟨a, cap, h1, h2, h3⟩ := h
  refine ⟨a, cap, h1, h2, h3.imp id ?_⟩
  rintro ⟨b, off, e, hb, hc⟩
  exact ⟨b, off, e, by omega, hc⟩

set_option maxRecDepth 100000 in
theorem map_classes (v : Value) (l : List UInt8) (B : Nat) (w : World) (hr : Reads w v l B) (hB : B ≤ w.heap.size) (h16 : l.length ≤ 16) :
    Calls Try.prog 44 #[v, .func (.func 45) #[] #[]] w fun e w' => ∃ v', e = .returned v' ∧ OwnI w' w.heap.size 3 v' (digs l) ∧ Below w.heap.size w w' := by
  obtain ⟨i0, hi, hz0, hz1, hz2⟩ := info_parts info_i64
  have HR := Lib.hid (fun w' (hb : Below w.heap.size w w') => (reads_mono hr hB).later hb)
  obtain ⟨a, cap, rfl, hlm, _⟩ := hr
  go_enter Try.func44, Try.ntmps44
  go_wp2_with (at_make; refine wpList_make_own _ rfl _ _ 26 rfl w.heap.size 3 i0 (.int .i64 0) 1 Try.underlying26 hi hz0 hz1 _ _ _ l.length rfl rfl rfl (by rw [hz2]; omega) (by unfold maxLen; omega) (Nat.le_refl _) ?_)
  intro w1 hown0 hg0
  have hown1 : OwnI w1 w.heap.size 3 (.slice (some ⟨w.heap.size, 0, none⟩) 0 l.length) [] := hown0
  have hb1 : Below w.heap.size w w1 := (Below.refl _ _).grown hg0 (Nat.le_refl _) (by simp)
  clear hown0 hg0
  go_wp2
  go_loopw [5, 13] (fun o i wr => ∃ k : Nat, k ≤ l.length ∧ i = .int .i64 k ∧ OwnI wr w.heap.size 3 o (digs (l.take k)) ∧ Below w.heap.size w wr) (fun _ i _ => l.length - (intOf i).toNat)
  case atStart => exact ⟨0, Nat.zero_le _, rfl, by simpa [digs] using hown1, hb1⟩
  case round =>
    obtain ⟨k, hk, rfl, hown, hb⟩ := hrel
    by_cases hlt : k < l.length
    · obtain ⟨b, off, cap', e1, hbB, hc⟩ := cell_of_bytes (HR.out wr hb) hlt
      injection e1 with e1 e2 e3
      subst e1 e3
      have HC := Lib.hid (digit_class l[k] wr)
      have hlen : (digs (l.take k)).length + 1 ≤ 1000000000000 := by rw [digs_len, List.length_take]; omega
      have hbs := hb.size
      have HB := Lib.hid hb
      have HT := Lib.hid (show digs (l.take (k + 1)) = digs (l.take k) ++ [(l[k].toNat : Int) - 48] by unfold digs; rw [List.take_succ_eq_append_getElem hlt, List.map_append]; rfl)
      clear hb
      go_wp2_with (first | (go_at_call 45; refine HC.out.mono ?_; rintro e w1 ⟨rfl, rfl⟩) | (at_builtin; refine wp_appendI rfl (.tmp 17) (.tmp 21) 26 rfl w.heap.size 3 Try.underlying26 info_i64 _ _ rfl hown _ rfl hlen hbs ?_))
      intro v' w5 hown5 hb5
      go_wp2_with fail
      go_roundw
      case rel => exact ⟨k + 1, by omega, by go_num, by rw [HT.out]; exact hown5, HB.out.trans hb5⟩
      case measure => simp [intOf]; omega
    · have ek : k = l.length := by omega
      subst ek
      rw [List.take_length] at hown
      go_wp2_with fail
      go_ret
      exact ⟨_, rfl, hown, hb⟩

theorem location_sizes (v : Value) (l : List Int) (B : Nat) (w : World) (hr : RI w v l B) (hB : B ≤ w.heap.size) :
    Calls Try.prog 25 #[v] w fun e w' => ∃ v', e = .returned v' ∧ OwnI w' w.heap.size 3 v' (if isLoc l then l.map clsz else []) ∧ Below w.heap.size w w' := by
  have HI := Lib.hid (is_location v l B w hr)
  cases hq : isLoc l with
  | false =>
    rw [hq] at HI
    clear hr hq
    go_enter Try.func25, Try.ntmps25
    go_wp2_with fail
    refine HI.out.mono ?_
    rintro e w1 ⟨rfl, rfl⟩
    go_wp2_with fail
    go_ret
    exact ⟨_, rfl, OwnI.nil _ _ _, Below.refl _ _⟩
  | true =>
    rw [hq] at HI
    have HM := Lib.hid (map_sizes v l B w hr hB (isLoc_iff.1 hq).1)
    clear hr hq
    rw [if_pos rfl]
    go_enter Try.func25, Try.ntmps25
    go_wp2_with fail
    refine HI.out.mono ?_
    rintro e w1 ⟨rfl, rfl⟩
    go_wp2_with fail
    refine HM.out.mono ?_
    rintro e w2 ⟨v', rfl, ho, hb⟩
    go_wp2_with fail
    go_ret
    exact ⟨_, rfl, ho, hb⟩

theorem format_location (v : Value) (l : List Int) (B : Nat) (w : World) (hr : RI w v l B) (hB : B ≤ w.heap.size) :
    Calls Try.prog 23 #[v] w fun e w' => e = .returned (.string ⟨(if isLoc l then locB l else []).toArray⟩) ∧ Below w.heap.size w w' := by
  have HI := Lib.hid (is_location v l B w hr)
  cases hq : isLoc l with
  | false =>
    rw [hq] at HI
    clear hr hq
    go_enter Try.func23, Try.ntmps23
    go_wp2_with fail
    refine HI.out.mono ?_
    rintro e w1 ⟨rfl, rfl⟩
    go_wp2_with fail
    go_ret
    exact ⟨rfl, Below.refl _ _⟩
  | true =>
    rw [hq] at HI
    have HM := Lib.hid (map_digits v l B w hr hB hq)
    clear hr hq
    rw [if_pos rfl]
    go_enter Try.func23, Try.ntmps23
    go_wp2_with fail
    refine HI.out.mono ?_
    rintro e w1 ⟨rfl, rfl⟩
    go_wp2_with fail
    refine HM.out.mono ?_
    rintro e w2 ⟨v', rfl, ho, hb⟩
    have hst := ho.string (P := Try.prog) 22 9 Try.underlying22 Try.underlying5 Try.underlying9
    go_wp2
    go_ret
    exact ⟨rfl, hb⟩

set_option maxRecDepth 100000 in
set_option maxHeartbeats 800000 in
theorem dominates (v1 v2 : Value) (l1 l2 : List Int) (B : Nat) (w : World) (h1 : RI w v1 l1 B) (h2 : RI w v2 l2 B) (hB : B ≤ w.heap.size) :
    Calls Try.prog 20 #[v1, v2] w fun e w' => e = .returned (.bool (dom l1 l2)) ∧ Below w.heap.size w w' := by
  have hr1 := Lib.hid (h1.mono hB)
  have hr2 := Lib.hid (h2.mono hB)
  obtain ⟨a1, cap1, rfl, hl1, hc1⟩ := h1
  obtain ⟨a2, cap2, rfl, hl2, hc2⟩ := h2
  clear hc1 hc2
  by_cases hlen : l1.length = l2.length
  case neg =>
    have hne : dom l1 l2 = false := decide_eq_false (fun q => hlen q.1)
    rw [hne]
    clear hne
    have t0 : ((l1.length : Int) != (l2.length : Int)) = true := by rw [bne_iff_ne]; omega
    go_enter Try.func20, Try.ntmps20
    go_wp2
    go_ret
    exact ⟨rfl, Below.refl _ _⟩
  have t0 : ((l1.length : Int) != (l2.length : Int)) = false := by rw [bne_eq_false_iff_eq]; omega
  have HLEN := Lib.hid hlen
  clear hlen
  go_enter Try.func20, Try.ntmps20
  go_wp2
  go_loopw [14] (fun i wr => ∃ k : Nat, k ≤ l1.length ∧ i = .int .i64 k ∧ Hid (∀ t : Nat, t < k → l2.getD t 0 ≤ l1.getD t 0) ∧ Below w.heap.size w wr) (fun i _ => l1.length - (intOf i).toNat)
  case atStart => exact ⟨0, Nat.zero_le _, rfl, Lib.hid (fun t ht => by omega), Below.refl _ _⟩
  case round =>
    obtain ⟨k, hk, rfl, htk, hb⟩ := hrel
    by_cases hlt : k < l1.length
    · have hlt2 : k < l2.length := by have := HLEN.out; omega
      obtain ⟨b, off, cap', e1, hbB, hc⟩ := cell_of (hr1.out.later hb) hlt
      injection e1 with e1 e2 e3
      subst e1 e3
      obtain ⟨b', off', cap', e1, hbB', hc'⟩ := cell_of (hr2.out.later hb) hlt2
      injection e1 with e1 e2 e3
      subst e1 e3
      have p1 : (0 : Int) ≤ (k : Int) := by omega
      have p2 : (k : Int) < (l1.length : Int) := by omega
      have p3 : (k : Int) < (l2.length : Int) := by omega
      have g1 : l1.getD k 0 = l1[k] := by simp [hlt]
      have g2 : l2.getD k 0 = l2[k] := by simp [hlt2]
      by_cases heq : l1[k] < l2[k]
      · have HNE := Lib.hid (show dom l1 l2 = false from decide_eq_false (fun q => by have := q.2 k hlt; rw [g1, g2] at this; omega))
        have t1 : decide (l1[k] < l2[k]) = true := decide_eq_true heq
        clear g1 g2
        go_wp2
        go_ret
        exact ⟨ret_b HNE.out.symm, hb⟩
      · have htk2 := Lib.hid (show ∀ t : Nat, t < k + 1 → l2.getD t 0 ≤ l1.getD t 0 from fun t ht => by
          by_cases e : t = k
          · subst e; rw [g1, g2]; omega
          · exact htk.out t (by omega))
        have t1 : decide (l1[k] < l2[k]) = false := decide_eq_false heq
        clear g1 g2
        go_wp2
        go_roundw
        case rel => exact ⟨k + 1, by omega, by go_num, htk2, hb⟩
        case measure => simp [intOf]; omega
    · have ek : k = l1.length := by omega
      subst ek
      have HD := Lib.hid (show dom l1 l2 = true from decide_eq_true ⟨HLEN.out, htk.out⟩)
      go_wp2
      go_ret
      exact ⟨ret_b HD.out.symm, hb⟩

/-- What '[]byte(s)' lays can be read. -/
theorem reads_row (s : ByteArray) (c : Nat) (w : World) (e : TypeId) (hs : s.size ≤ 16) :
    Reads (w.drew.alloc (.cells (bytesRow s c) e ((bytesRow s c).size, (bytesRow s c).size + 1))) (.slice (some ⟨w.heap.size, 0, none⟩) s.data.toList.length c) s.data.toList (w.heap.size + 1) := by
  have hl : s.data.toList.length = s.size := Array.length_toList
  refine ⟨_, c, rfl, by omega, .inr ⟨w.heap.size, 0, rfl, by omega, fun t ht => ?_⟩⟩
  have h := World.cell?_alloc_mark w.drew (bytesRow s c) e ((bytesRow s c).size, (bytesRow s c).size + 1) t
  rw [Nat.zero_add]
  refine h.trans ?_
  rw [bytesRow_at s _ t (by omega)]
  simp

theorem bytes_laid (s : ByteArray) (w : World) (hs : s.size ≤ 16) :
    ∃ c w1, (convert 9 22 (.string s)).run Try.prog w = .ok (.slice (some ⟨w.heap.size, 0, none⟩) s.size c) w1 ∧
      Reads w1 (.slice (some ⟨w.heap.size, 0, none⟩) s.size c) s.data.toList w1.heap.size ∧ w1.heap.size = w.heap.size + 1 ∧ Below w.heap.size w w1 := by
  have hrd := reads_row s (grownCap w s.size 0 5) w 5 hs
  rw [show s.data.toList.length = s.size from Array.length_toList] at hrd
  have hz : (w.drew.alloc (.cells (bytesRow s (grownCap w s.size 0 5)) 5 ((bytesRow s (grownCap w s.size 0 5)).size, (bytesRow s (grownCap w s.size 0 5)).size + 1))).heap.size = w.heap.size + 1 := Array.size_push _
  refine ⟨_, _, run_bytes_of_string (P := Try.prog) w 9 22 5 s Try.underlying9 Try.underlying22 Try.underlying5, ?_, hz, ?_⟩
  · rw [hz]; exact hrd
  · have h := (Below.refl w.heap.size w.drew).alloc (Nat.le_refl _) (.cells (bytesRow s (grownCap w s.size 0 5)) 5 ((bytesRow s (grownCap w s.size 0 5)).size, (bytesRow s (grownCap w s.size 0 5)).size + 1))
    exact below_undrew ⟨h.os, h.tape, h.output, h.size, h.block⟩

set_option maxRecDepth 100000 in
theorem parse_location (s : ByteArray) (w : World) :
    Calls Try.prog 24 #[.string s] w fun e w' => ∃ v', e = .returned (.tuple #[v', .bool (isLoc (digs s.data.toList))]) ∧ OwnI w' w.heap.size 3 v' (if isLoc (digs s.data.toList) then digs s.data.toList else []) ∧ Below w.heap.size w w' := by
  have hl : s.data.toList.length = s.size := Array.length_toList
  by_cases h16 : 16 < s.size
  · have hq : isLoc (digs s.data.toList) = false := isLoc_no.2 (fun q => by have := q.1; rw [digs_len, hl] at this; omega)
    rw [hq]
    clear hq hl
    go_enter Try.func24, Try.ntmps24
    go_wp2
    go_ret2
    exact ⟨_, rfl, OwnI.nil _ _ _, Below.refl _ _⟩
  obtain ⟨c, w1, hcv, hrd, hsz, hbel⟩ := bytes_laid s w (by omega)
  have HM := Lib.hid (map_classes _ _ _ w1 hrd (Nat.le_refl _) (by rw [hl]; omega))
  have HB := Lib.hid hbel
  have HZ := Lib.hid hsz
  have HI := Lib.hid (fun v w' (h : OwnI w' w1.heap.size 3 v (digs s.data.toList)) => is_location v _ _ w' h.reads)
  clear hrd hbel hl hsz
  generalize digs s.data.toList = ds at *
  generalize hq : isLoc ds = q at *
  clear hq
  go_enter Try.func24, Try.ntmps24
  go_wp2_with fail
  refine HM.out.mono ?_
  rintro e w2 ⟨v', rfl, ho, hb⟩
  go_wp2_with fail
  refine (HI.out _ _ ho).mono ?_
  rintro e w3 ⟨rfl, rfl⟩
  have hbb : Below w.heap.size w w2 := HB.out.trans (hb.mono (by rw [HZ.out]; omega))
  have ho' := ho.base_mono (base' := w.heap.size) (by rw [HZ.out]; omega)
  cases q
  all_goals
    go_wp2
    go_ret2
  · exact ⟨_, rfl, OwnI.nil _ _ _, hbb⟩
  · exact ⟨_, rfl, ho', hbb⟩
end Go.Proofs.Ythkmjdiopmpjoaa.LocImpl
