/- Digits of numbers and numbers of digits: the program's helpers. -/
import Derived.Test.YtdkhgeknjekkoaaLoc
import Derived.Test.YtdkhgeknjekkoaaReads
import Derived.StillTailTactics
namespace Go.Proofs.Ytdkhgeknjekkoaa.Dig
open Go Go.RowKit Byt Ints IntsLaw Loc Draw

theorem cell_of {w : World} {v : Value} {l : List Int} {B : Nat} (h : RI w v l B) {k : Nat} (hk : k < l.length) :
    ∃ b off cap, v = .slice (some ⟨b, off, none⟩) l.length cap ∧ b < B ∧ w.cell? ⟨b, off + k, none⟩ = some (.int .i64 l[k]) := by
  obtain ⟨a, cap, rfl, _, hc⟩ := h
  rcases hc with h0 | ⟨b, off, rfl, hb, hcell⟩
  · rw [h0] at hk; simp at hk
  · exact ⟨b, off, cap, rfl, hb, hcell k hk⟩
theorem info_u8 : (Try.prog.info? 5).map (fun i => (i.zero, i.size, i.bytes)) = some (some (.int .u8 0), 1, 1) := by kernel_rfl

theorem format_digit (x : Int) (h : 0 ≤ x ∧ x ≤ 9) (w : World) :
    Calls Try.prog 49 #[.int .i64 x] w fun e w' => e = .returned (.int .u8 ((UInt8.ofNat (48 + x.toNat)).toNat : Int)) ∧ w = w' := by
  obtain ⟨n, rfl⟩ := Int.eq_ofNat_of_zero_le h.1
  have hn : n ≤ 9 := by omega
  rcases (show n = 0 ∨ n = 1 ∨ n = 2 ∨ n = 3 ∨ n = 4 ∨ n = 5 ∨ n = 6 ∨ n = 7 ∨ n = 8 ∨ n = 9 by omega) with rfl | rfl | rfl | rfl | rfl | rfl | rfl | rfl | rfl | rfl
  all_goals
    clear h hn
    go_enter Try.func49, Try.ntmps49
    go_wp2
    go_ret
    exact ⟨rfl, rfl⟩
set_option maxRecDepth 100000 in
theorem map_digits (v : Value) (l : List Int) (B : Nat) (w : World) (hr : RI w v l B) (hB : B ≤ w.heap.size) (h16 : l.length ≤ 1048577) (hloc : ∀ x ∈ l, 0 ≤ x ∧ x ≤ 9) :
    Calls Try.prog 48 #[v, .func (.func 49) #[] #[]] w fun e w' => ∃ v', e = .returned v' ∧ Own w' w.heap.size 5 v' (locB l) ∧ Below w.heap.size w w' := by
  obtain ⟨i0, hi, hz0, hz1, hz2⟩ := info_parts info_u8
  have HR := Lib.hid (fun w' (hb : Below w.heap.size w w') => (hr.mono hB).later hb)
  have HX := Lib.hid hloc
  clear hloc
  obtain ⟨a, cap, rfl, hlm, _⟩ := hr
  go_enter Try.func48, Try.ntmps48
  go_wp2_with (at_make; refine wpList_make_own _ rfl _ _ 54 rfl w.heap.size 5 i0 (.int .u8 0) 1 Try.underlying54 hi hz0 hz1 _ _ _ l.length rfl rfl rfl (by rw [hz2]; omega) (by unfold maxLen; omega) (Nat.le_refl _) ?_)
  intro w1 hown0 hg0
  have hown1 : Own w1 w.heap.size 5 (.slice (some ⟨w.heap.size, 0, none⟩) 0 l.length) [] := hown0
  have hb1 : Below w.heap.size w w1 := (Below.refl _ _).grown hg0 (Nat.le_refl _) (by simp)
  clear hown0 hg0
  go_wp2
  go_loopw [5, 13] (fun o i wr => ∃ k : Nat, k ≤ l.length ∧ i = .int .i64 k ∧ Own wr w.heap.size 5 o (locB (l.take k)) ∧ Below w.heap.size w wr) (fun _ i _ => l.length - (intOf i).toNat)
  case atStart => exact ⟨0, Nat.zero_le _, rfl, by simpa [locB] using hown1, hb1⟩
  case round =>
    obtain ⟨k, hk, rfl, hown, hb⟩ := hrel
    by_cases hlt : k < l.length
    · obtain ⟨b, off, cap', e1, hbB, hc⟩ := cell_of (HR.out wr hb) hlt
      injection e1 with e1 e2 e3
      subst e1 e3
      have HC := Lib.hid (format_digit l[k] (HX.out _ (List.getElem_mem hlt)) wr)
      have hlen : (locB (l.take k)).length + 1 ≤ 140737488355328 := by rw [locB_len, List.length_take]; omega
      have hbs := hb.size
      have HB := Lib.hid hb
      have HT := Lib.hid (show locB (l.take (k + 1)) = locB (l.take k) ++ [UInt8.ofNat (48 + l[k].toNat)] by unfold locB; rw [List.take_succ_eq_append_getElem hlt, List.map_append]; rfl)
      clear hb
      generalize UInt8.ofNat (48 + l[k].toNat) = z at *
      have hz : z.toNat < 256 := UInt8.toNat_lt z
      go_wp2_with (first | (go_at_call 49; refine HC.out.mono ?_; rintro e w1 ⟨rfl, rfl⟩) | (at_builtin; refine wp_append1 rfl (.tmp 17) (.tmp 21) 54 rfl w.heap.size 5 Try.underlying54 info_u8 _ _ rfl hown _ rfl (by omega) (by omega) hlen hbs ?_))
      intro v' w5 hown5 hb5
      go_wp2_with fail
      go_roundw
      case rel => exact ⟨k + 1, by omega, by go_num, by rw [HT.out]; exact hown5, HB.out.trans hb5⟩
      case measure => simp [intOf]; omega
    · have ek : k = l.length := by omega
      subst ek
      rw [List.take_length] at hown
      go_wp2_with fail
      go_ret
      exact ⟨_, rfl, hown, hb⟩


theorem format_digits (v : Value) (l : List Int) (B : Nat) (w : World) (hr : RI w v l B) (hB : B ≤ w.heap.size) (h16 : l.length ≤ 1048577) (hloc : ∀ x ∈ l, 0 ≤ x ∧ x ≤ 9) :
    Calls Try.prog 41 #[v] w fun e w' => e = .returned (.string ⟨(locB l).toArray⟩) ∧ Below w.heap.size w w' := by
  have HM := Lib.hid (map_digits v l B w hr hB h16 hloc)
  clear hr hloc
  go_enter Try.func41, Try.ntmps41
  go_wp2_with fail
  refine HM.out.mono ?_
  rintro e w2 ⟨v', rfl, ho, hb⟩
  have hst := ho.string (P := Try.prog) 54 9 Try.underlying54 Try.underlying5 Try.underlying9
  go_wp2
  go_ret
  exact ⟨rfl, hb⟩
theorem cell_of_bytes {w : World} {v : Value} {l : List UInt8} {B : Nat} (h : Reads w v l B) {k : Nat} (hk : k < l.length) :
    ∃ b off cap, v = .slice (some ⟨b, off, none⟩) l.length cap ∧ b < B ∧ w.cell? ⟨b, off + k, none⟩ = some (.int .u8 (l[k].toNat : Int)) := by
  obtain ⟨a, cap, rfl, _, hc⟩ := h
  rcases hc with h0 | ⟨b, off, rfl, hb, hcell⟩
  · rw [h0] at hk; simp at hk
  · exact ⟨b, off, cap, rfl, hb, hcell k hk⟩
theorem reads_mono {w : World} {v : Value} {l : List UInt8} {B B' : Nat} (h : Reads w v l B) (hB : B ≤ B') : Reads w v l B' := by
  obtain ⟨a, cap, h1, h2, h3⟩ := h
  refine ⟨a, cap, h1, h2, h3.imp id ?_⟩
  rintro ⟨b, off, e, hb, hc⟩
  exact ⟨b, off, e, by omega, hc⟩

end Go.Proofs.Ytdkhgeknjekkoaa.Dig
