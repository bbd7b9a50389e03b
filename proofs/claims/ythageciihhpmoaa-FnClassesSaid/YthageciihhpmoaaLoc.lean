/- Lists of size classes: the model's functions. -/
import Derived.Test.YthageciihhpmoaaSz
import Derived.Test.YthageciihhpmoaaIntsLaw
import Derived.Test.YthageciihhpmoaaFormat
namespace Go.Proofs.Ythageciihhpmoaa.Loc
open Go Go.RowKit Byt Ints IntsLaw Sz
open Go.Lib (decDigits itoa)

theorem kept_trans {w a b : World} (h : Below w.heap.size w a) (k : Below a.heap.size a b) : Below w.heap.size w b := h.trans (k.mono h.size)


/-- Is no number of a less than b's at its place? -/
def dom (a b : List Int) : Bool := decide (a.length = b.length ∧ ∀ t : Nat, t < a.length → b.getD t 0 ≤ a.getD t 0)
set_option maxRecDepth 100000 in
set_option maxHeartbeats 800000 in
theorem spec_dom (v1 v2 : Value) (l1 l2 : List Int) (B : Nat) (w : World) (h1 : RI w v1 l1 B) (h2 : RI w v2 l2 B) (hB : B ≤ w.heap.size) :
    Calls Try.prog 52 #[v1, v2] w fun e w' => e = .returned (.bool (dom l1 l2)) ∧ Below w.heap.size w w' := by
  have hr1 := Lib.hid (h1.mono hB)
  have hr2 := Lib.hid (h2.mono hB)
  obtain ⟨a1, cap1, rfl, hl1, hc1⟩ := h1
  obtain ⟨a2, cap2, rfl, hl2, hc2⟩ := h2
  clear hc1 hc2
  by_cases hlen : l1.length = l2.length
  case neg =>
    have hne : dom l1 l2 = false := decide_eq_false (fun q => hlen q.1)
    rw [hne]
    clear hne
    have t0 : ((l1.length : Int) != (l2.length : Int)) = true := by rw [bne_iff_ne]; omega
    go_enter Try.func52, Try.ntmps52
    go_wp2
    go_ret
    exact ⟨rfl, Below.refl _ _⟩
  have t0 : ((l1.length : Int) != (l2.length : Int)) = false := by rw [bne_eq_false_iff_eq]; omega
  have HLEN := Lib.hid hlen
  clear hlen
  go_enter Try.func52, Try.ntmps52
  go_wp2
  go_loopw [5] (fun i wr => ∃ k : Nat, k ≤ l1.length ∧ i = .int .i64 k ∧ Hid (∀ t : Nat, t < k → l2.getD t 0 ≤ l1.getD t 0) ∧ Below w.heap.size w wr) (fun i _ => l1.length - (intOf i).toNat)
  case atStart => exact ⟨0, Nat.zero_le _, rfl, Lib.hid (fun t ht => by omega), Below.refl _ _⟩
  case round =>
    obtain ⟨k, hk, rfl, htk, hb⟩ := hrel
    by_cases hlt : k < l1.length
    · have hlt2 : k < l2.length := by have := HLEN.out; omega
      obtain ⟨b, off, cap', e1, hbB, hc⟩ := cell_of (hr1.out.later hb) hlt
      injection e1 with e1 e2 e3
      subst e1 e3
      obtain ⟨b', off', cap', e1, hbB', hc'⟩ := cell_of (hr2.out.later hb) hlt2
      injection e1 with e1 e2 e3
      subst e1 e3
      have p1 : (0 : Int) ≤ (k : Int) := by omega
      have p2 : (k : Int) < (l1.length : Int) := by omega
      have p3 : (k : Int) < (l2.length : Int) := by omega
      have g1 : l1.getD k 0 = l1[k] := by simp [hlt]
      have g2 : l2.getD k 0 = l2[k] := by simp [hlt2]
      by_cases heq : l1[k] < l2[k]
      · have HNE := Lib.hid (show dom l1 l2 = false from decide_eq_false (fun q => by have := q.2 k hlt; rw [g1, g2] at this; omega))
        have t1 : decide (l1[k] < l2[k]) = true := decide_eq_true heq
        clear g1 g2
        go_wp2
        go_quiet (fail)
        go_wp2
        go_ret
        exact ⟨ret_b HNE.out.symm, ⟨hb.os, hb.tape, hb.output, hb.size, hb.block⟩⟩
      · have htk2 := Lib.hid (show ∀ t : Nat, t < k + 1 → l2.getD t 0 ≤ l1.getD t 0 from fun t ht => by
          by_cases e : t = k
          · subst e; rw [g1, g2]; omega
          · exact htk.out t (by omega))
        have t1 : decide (l1[k] < l2[k]) = false := decide_eq_false heq
        clear g1 g2
        go_wp2
        go_quiet (fail)
        go_wp2
        go_roundw
        case rel => exact ⟨k + 1, by omega, by go_num, htk2, ⟨hb.os, hb.tape, hb.output, hb.size, hb.block⟩⟩
        case measure => simp [intOf]; omega
    · have ek : k = l1.length := by omega
      subst ek
      have HY := Lib.hid (show dom l1 l2 = true from decide_eq_true ⟨HLEN.out, htk.out⟩)
      go_wp2
      go_ret
      exact ⟨ret_b HY.out.symm, hb⟩

/-- A location's bytes. -/
def locB (l : List Int) : List UInt8 := l.map fun x => UInt8.ofNat (48 + x.toNat)
theorem itoa_digit {x : Int} (h : 0 ≤ x ∧ x ≤ 7) : itoa x = [UInt8.ofNat (48 + x.toNat)] := by
  unfold itoa
  rw [if_neg (by omega), decDigits, dif_pos (by omega)]
theorem locB_len (l : List Int) : (locB l).length = l.length := by simp [locB]

set_option maxRecDepth 100000 in
set_option maxHeartbeats 800000 in
theorem spec_fmtloc (v : Value) (l : List Int) (B : Nat) (w : World) (hr : RI w v l B) (hB : B ≤ w.heap.size) :
    Calls Try.prog 59 #[v] w fun e w' => e = .returned (.string ⟨(if isLoc l then locB l else []).toArray⟩) ∧ Below w.heap.size w w' := by
  have HR := Lib.hid (fun w' (hb : Below w.heap.size w w') => (hr.mono hB).later hb)
  obtain ⟨a, cap, rfl, hlm, _⟩ := hr
  by_cases hloc : isLoc l = true
  case neg =>
    have hloc : isLoc l = false := by simpa using hloc
    rw [hloc]
    have HI := Lib.hid (spec_isloc _ l w.heap.size w (HR.out w (Below.refl _ _)))
    rw [hloc] at HI
    clear hloc
    go_enter Try.func59, Try.ntmps59
    go_wp2
    go_loop [3, 4] (fun o i => o = .string ⟨#[]⟩ ∧ i = .int .i64 0) (fun _ _ => 0)
    case atStart => exact ⟨rfl, rfl⟩
    case round =>
      obtain ⟨rfl, rfl⟩ := hrel
      by_cases h0 : 0 < l.length
      · go_wp2_with (go_at_call 58; refine HI.out.mono ?_; rintro e w1 ⟨rfl, rfl⟩)
        go_ret
        exact ⟨rfl, Below.refl _ _⟩
      · go_wp2_with fail
        go_ret
        exact ⟨rfl, Below.refl _ _⟩
  rw [if_pos hloc]
  have HI := Lib.hid (fun w' hb => spec_isloc _ l w.heap.size w' (HR.out w' hb))
  rw [hloc] at HI
  have h16 := (isLoc_iff.1 hloc).1
  have HIN := Lib.hid (isLoc_iff.1 hloc).2
  clear hloc
  go_enter Try.func59, Try.ntmps59
  go_wp2
  go_loopw [3, 4] (fun o i wr => ∃ k : Nat, k ≤ l.length ∧ i = .int .i64 k ∧ o = .string ⟨(locB (l.take k)).toArray⟩ ∧ Below w.heap.size w wr) (fun _ i _ => l.length - (intOf i).toNat)
  case atStart => exact ⟨0, Nat.zero_le _, rfl, rfl, Below.refl _ _⟩
  case round =>
    obtain ⟨k, hk, rfl, rfl, hb⟩ := hrel
    by_cases hlt : k < l.length
    · obtain ⟨b, off, cap', e1, hbB, hc⟩ := cell_of (HR.out wr hb) hlt
      injection e1 with e1 e2 e3
      subst e1 e3
      have hx := HIN.out _ (List.getElem_mem hlt)
      have HIr := Lib.hid (HI.out wr hb)
      have hf := Format.spec_any l[k] wr ⟨by omega, by omega⟩
      rw [itoa_digit hx] at hf
      have HF := Lib.hid hf
      have HB := Lib.hid hb
      have hlen : (locB (l.take k)).length ≤ 16 := by rw [locB_len, List.length_take]; omega
      have l3 : ¬ 9223372036854775807 < (locB (l.take k)).length + 1 := by omega
      have HT := Lib.hid (show locB (l.take (k + 1)) = locB (l.take k) ++ [UInt8.ofNat (48 + l[k].toNat)] by unfold locB; rw [List.take_succ_eq_append_getElem hlt, List.map_append]; rfl)
      clear hf hb hx
      generalize locB (l.take k) = cur at *
      generalize UInt8.ofNat (48 + l[k].toNat) = z at *
      go_wp2_with (first | (go_at_call 58; refine HIr.out.mono ?_; rintro e w1 ⟨rfl, rfl⟩) | (go_at_call 92; refine HF.out.mono ?_; rintro e w1 ⟨rfl, hb1⟩))
      go_roundw
      case rel => exact ⟨k + 1, by omega, by go_num, by rw [HT.out]; simp [ByteArray.mk_append_mk], kept_trans HB.out hb1⟩
      case measure => simp [intOf]; omega
    · have ek : k = l.length := by omega
      subst ek
      rw [List.take_length]
      go_wp2_with fail
      go_ret
      exact ⟨rfl, hb⟩

/-- The numbers that a string's bytes spell, one a byte. -/
def digs (l : List UInt8) : List Int := l.map fun b => (b.toNat : Int) - 48
theorem digs_len (l : List UInt8) : (digs l).length = l.length := by simp [digs]
set_option maxRecDepth 100000 in
set_option maxHeartbeats 800000 in
theorem spec_parseloc (s : ByteArray) (w : World) (hs : s.size ≤ 1048576) :
    Calls Try.prog 60 #[.string s] w fun e w' => ∃ v', e = .returned (.tuple #[v', .bool (isLoc (digs s.data.toList))]) ∧ OwnI w' w.heap.size 3 v' (if isLoc (digs s.data.toList) then digs s.data.toList else []) ∧ Below w.heap.size w w' := by
  have hlen : s.data.toList.length = s.size := Array.length_toList
  have HL := Lib.hid hlen
  clear hlen
  have HW := Lib.hid (And.intro (OwnI.empty w w.heap.size 3 (Nat.le_refl _)) ((Below.refl w.heap.size w).alloc (Nat.le_refl _) (.cells #[] 3)))
  go_enter Try.func60, Try.ntmps60
  go_wp2
  go_loopw [4, 5] (fun o i wr => ∃ k : Nat, k ≤ s.size ∧ k ≤ 17 ∧ i = .int .i64 k ∧ OwnI wr w.heap.size 3 o (digs (s.data.toList.take k)) ∧ Below w.heap.size w wr) (fun _ i _ => 17 - (intOf i).toNat)
  case atStart => exact ⟨0, Nat.zero_le _, by decide, rfl, HW.out.1, HW.out.2⟩
  case round =>
    obtain ⟨k, hk, hk17, rfl, hown, hb⟩ := hrel
    by_cases hgo : k < s.size ∧ k ≤ 16
    · obtain ⟨hlt, h16⟩ := hgo
      have hby := s[k].toNat_lt
      have hbs := hb.size
      have hlen : (digs (s.data.toList.take k)).length + 1 ≤ 1000000000000 := by rw [digs_len, List.length_take]; omega
      have HT := Lib.hid (show digs (s.data.toList.take (k + 1)) = digs (s.data.toList.take k) ++ [(s[k].toNat : Int) - 48] by
        have e : s.data.toList.take (k + 1) = s.data.toList.take k ++ [s[k]] := by rw [List.take_succ_eq_append_getElem (by simpa using hlt)]; rfl
        unfold digs
        rw [e, List.map_append]; rfl)
      have HB := Lib.hid hb
      clear hb
      go_wp2_with (at_builtin; refine wp_appendI rfl (.tmp 17) (.tmp 23) 22 rfl w.heap.size 3 Try.underlying22 info_i64 _ _ rfl hown _ rfl hlen hbs ?_)
      intro v' w5 hown5 hb5
      go_wp2_with fail
      go_roundw
      case rel => exact ⟨k + 1, by omega, by omega, by go_num, by rw [HT.out]; exact hown5, HB.out.trans hb5⟩
      case measure => simp [intOf]; omega
    · have HIS := Lib.hid (spec_isloc _ _ _ wr hown.reads)
      have hsame : isLoc (digs (s.data.toList.take k)) = isLoc (digs s.data.toList) := by
        by_cases e : k = s.size
        · rw [List.take_of_length_le (by rw [HL.out]; omega)]
        · have h1 : isLoc (digs (s.data.toList.take k)) = false := isLoc_no.2 (fun q => by have := q.1; rw [digs_len, List.length_take, HL.out] at this; omega)
          have h2 : isLoc (digs s.data.toList) = false := isLoc_no.2 (fun q => by have := q.1; rw [digs_len, HL.out] at this; omega)
          rw [h1, h2]
      have hall : isLoc (digs s.data.toList) = true → s.data.toList.take k = s.data.toList := fun q => by
        have := (isLoc_iff.1 q).1
        rw [digs_len, HL.out] at this
        exact List.take_of_length_le (by rw [HL.out]; omega)
      rw [hsame] at HIS
      have HALL := Lib.hid hall
      have HB := Lib.hid hb
      have hbs := hb.size
      clear hsame hall hb
      by_cases hq : isLoc (digs s.data.toList) = true
      case neg =>
        have hq : isLoc (digs s.data.toList) = false := by simpa using hq
        have HQ := Lib.hid hq
        rw [hq] at HIS
        have HW2 := Lib.hid (And.intro (OwnI.empty wr w.heap.size 3 hbs) (HB.out.alloc hbs (.cells #[] 3)))
        clear hq HALL
        go_wp2_with (go_at_call 58; refine HIS.out.mono ?_; rintro e w1 ⟨rfl, rfl⟩)
        all_goals go_ret2
        all_goals exact ⟨_, rfl, HW2.out.1, HW2.out.2⟩
      case pos =>
        have HQ := Lib.hid hq
        rw [hq] at HIS
        rw [HALL.out hq] at hown
        clear hq HALL
        go_wp2_with (go_at_call 58; refine HIS.out.mono ?_; rintro e w1 ⟨rfl, rfl⟩)
        all_goals go_ret2
        all_goals exact ⟨_, rfl, hown, HB.out⟩
end Go.Proofs.Ythageciihhpmoaa.Loc
