/- Texts that the proof rests on, one behind the other. -/
import Derived.Test.YtlngbdokgcdeeaaGreatRows
import Derived.Test.YtlngbdokgcdeeaaGreatFixed
import Derived.Test.YtlngbdokgcdeeaaGreatInts
import Derived.WalkKit
import Derived.WalkSpells
import Derived.WalkLawsBesides
import Derived.Lib.Hide
import Derived.Deep.QuietTactic
import Derived.BigQuiet
import Derived.Test.YtlngbdokgcdeeaaGreatIntsLaw
import Derived.Test.YtlngbdokgcdeeaaGreatFormat
import Derived.Test.YtlngbdokgcdeeaaGreatByt
import Derived.StillTailTactics
import Derived.Test.YtlngbdokgcdeeaaGreatUpd
import Derived.Test.YtlngbdokgcdeeaaGreatTabSpec2
import Derived.Test.YtlngbdokgcdeeaaGreatTabImp1
import Derived.Test.YtlngbdokgcdeeaaGreatTabFmt
import Derived.Test.YtlngbdokgcdeeaaGreatDbValid
import Derived.Test.YtlngbdokgcdeeaaGreatTabImp2
import Derived.Shelf.SlSortCmp.WholeK
import Derived.Test.YtlngbdokgcdeeaaGreatDbLook
import Derived.Test.YtlngbdokgcdeeaaGreatDbExact
import Derived.Maps.OwnSet
import Derived.Maps.RangeWalk
import Derived.Test.YtlngbdokgcdeeaaGreatTabCopy
import Derived.Laws.CopyOwn
import Derived.Test.YtlngbdokgcdeeaaGreatCdRoom
import Derived.Test.YtlngbdokgcdeeaaGreatExact

namespace Go.Proofs.YtlngbdokgcdeeaaGreat.Sz
open Go Go.RowKit Byt Ints

/-- The size of class k. -/
def csN : Nat → Nat
  | 0 => 0
  | k + 1 => 4 ^ k
def clsz (k : Int) : Int := if 0 ≤ k ∧ k ≤ 7 then (csN k.toNat : Int) else -1
def szcl (n : Int) : Int :=
  if n < 0 then -1 else if n ≤ 0 then 0 else if n ≤ 1 then 1 else if n ≤ 4 then 2 else if n ≤ 16 then 3 else if n ≤ 64 then 4 else if n ≤ 256 then 5 else if n ≤ 1024 then 6 else if n ≤ 4096 then 7 else -1
theorem csN_le {k : Nat} (h : k ≤ 7) : csN k ≤ 4096 := by
  rcases (show k = 0 ∨ k = 1 ∨ k = 2 ∨ k = 3 ∨ k = 4 ∨ k = 5 ∨ k = 6 ∨ k = 7 by omega) with rfl | rfl | rfl | rfl | rfl | rfl | rfl | rfl <;> decide
theorem csN_pos {k : Nat} (h : 0 < k) : 1 ≤ csN k := by
  cases k with
  | zero => omega
  | succ k => exact Nat.pow_pos (by decide)
theorem csN_step {k : Nat} (h : 0 < k) : csN (k + 1) = csN k * 4 := by
  cases k with
  | zero => omega
  | succ k => show 4 ^ (k + 1) = 4 ^ k * 4; rw [Nat.pow_succ]
theorem clsz_in {k : Nat} (h : k ≤ 7) : clsz k = (csN k : Int) := by
  unfold clsz
  rw [if_pos ⟨by omega, by omega⟩, Int.toNat_natCast]
theorem clsz_out {k : Int} (h : ¬ (0 ≤ k ∧ k ≤ 7)) : clsz k = -1 := by unfold clsz; rw [if_neg h]
theorem clsz_bd (k : Int) : -1 ≤ clsz k ∧ clsz k ≤ 4096 := by
  unfold clsz
  split
  · have := csN_le (k := k.toNat) (by omega)
    omega
  · omega
theorem szcl_of {n : Int} {k : Nat} (hk : k ≤ 7) (h0 : 0 ≤ n) (hl : ∀ j : Nat, j < k → (csN j : Int) < n) (hn : n ≤ (csN k : Int)) : szcl n = k := by
  rcases (show k = 0 ∨ k = 1 ∨ k = 2 ∨ k = 3 ∨ k = 4 ∨ k = 5 ∨ k = 6 ∨ k = 7 by omega) with rfl | rfl | rfl | rfl | rfl | rfl | rfl | rfl
  · have h1 : n ≤ 0 := hn
    unfold szcl; split <;> omega
  · have h1 : n ≤ 1 := hn
    have h2 : (0 : Int) < n := hl 0 (by decide)
    unfold szcl; repeat' split
    all_goals omega
  · have h1 : n ≤ 4 := hn
    have h2 : (1 : Int) < n := hl 1 (by decide)
    unfold szcl; repeat' split
    all_goals omega
  · have h1 : n ≤ 16 := hn
    have h2 : (4 : Int) < n := hl 2 (by decide)
    unfold szcl; repeat' split
    all_goals omega
  · have h1 : n ≤ 64 := hn
    have h2 : (16 : Int) < n := hl 3 (by decide)
    unfold szcl; repeat' split
    all_goals omega
  · have h1 : n ≤ 256 := hn
    have h2 : (64 : Int) < n := hl 4 (by decide)
    unfold szcl; repeat' split
    all_goals omega
  · have h1 : n ≤ 1024 := hn
    have h2 : (256 : Int) < n := hl 5 (by decide)
    unfold szcl; repeat' split
    all_goals omega
  · have h1 : n ≤ 4096 := hn
    have h2 : (1024 : Int) < n := hl 6 (by decide)
    unfold szcl; repeat' split
    all_goals omega
theorem szcl_big {n : Int} (h : 4096 < n) : szcl n = -1 := by
  unfold szcl; repeat' split
  all_goals omega
theorem szcl_neg {n : Int} (h : n < 0) : szcl n = -1 := by unfold szcl; rw [if_pos h]
theorem szcl_bd (n : Int) : -1 ≤ szcl n ∧ szcl n ≤ 7 := by
  unfold szcl; repeat' split
  all_goals omega

/-- Is l a location? -/
def isLoc (l : List Int) : Bool := decide (l.length ≤ 16 ∧ ∀ x ∈ l, 0 ≤ x ∧ x ≤ 7)
theorem isLoc_iff {l : List Int} : isLoc l = true ↔ (l.length ≤ 16 ∧ ∀ x ∈ l, 0 ≤ x ∧ x ≤ 7) := by simp [isLoc]
theorem isLoc_no {l : List Int} : isLoc l = false ↔ ¬ (l.length ≤ 16 ∧ ∀ x ∈ l, 0 ≤ x ∧ x ≤ 7) := by unfold isLoc; rw [decide_eq_false_iff_not]

theorem cell_of {w : World} {v : Value} {l : List Int} {B : Nat} (h : RI w v l B) {k : Nat} (hk : k < l.length) :
    ∃ b off cap, v = .slice (some ⟨b, off, none⟩) l.length cap ∧ b < B ∧ w.cell? ⟨b, off + k, none⟩ = some (.int .i64 l[k]) := by
  obtain ⟨a, cap, rfl, _, hc⟩ := h
  rcases hc with h0 | ⟨b, off, rfl, hb, hcell⟩
  · rw [h0] at hk; simp at hk
  · exact ⟨b, off, cap, rfl, hb, hcell k hk⟩




end Go.Proofs.YtlngbdokgcdeeaaGreat.Sz

namespace Go.Proofs.YtlngbdokgcdeeaaGreat.Loc
open Go Go.RowKit Byt Ints IntsLaw Sz
open Go.Lib (decDigits itoa)

theorem kept_trans {w a b : World} (h : Below w.heap.size w a) (k : Below a.heap.size a b) : Below w.heap.size w b := h.trans (k.mono h.size)


/-- Is no number of a less than b's at its place? -/
def dom (a b : List Int) : Bool := decide (a.length = b.length ∧ ∀ t : Nat, t < a.length → b.getD t 0 ≤ a.getD t 0)

/-- A location's bytes. -/
def locB (l : List Int) : List UInt8 := l.map fun x => UInt8.ofNat (48 + x.toNat)
theorem itoa_digit {x : Int} (h : 0 ≤ x ∧ x ≤ 7) : itoa x = [UInt8.ofNat (48 + x.toNat)] := by
  unfold itoa
  rw [if_neg (by omega), decDigits, dif_pos (by omega)]
theorem locB_len (l : List Int) : (locB l).length = l.length := by simp [locB]


/-- The numbers that a string's bytes spell, one a byte. -/
def digs (l : List UInt8) : List Int := l.map fun b => (b.toNat : Int) - 48
theorem digs_len (l : List UInt8) : (digs l).length = l.length := by simp [digs]
end Go.Proofs.YtlngbdokgcdeeaaGreat.Loc

namespace Go.Proofs.YtlngbdokgcdeeaaGreat.Draw
open Go Go.RowKit Byt

/-- v is a slice of the bytes l, which lie below block B. -/
def Reads (w : World) (v : Value) (l : List UInt8) (B : Nat) : Prop :=
  ∃ (a : Option Addr) (cap : Nat), v = .slice a l.length cap ∧ l.length ≤ 9223372036854775807 ∧
    (l = [] ∨ ∃ b off, a = some ⟨b, off, none⟩ ∧ b < B ∧ ∀ t, (h : t < l.length) → w.cell? ⟨b, off + t, none⟩ = some (.int .u8 (l[t].toNat : Int)))

theorem Reads.later {w w' : World} {v : Value} {l : List UInt8} {B : Nat} (h : Reads w v l B) (hb : Below B w w') : Reads w' v l B := by
  obtain ⟨a, cap, hv, hl, hc⟩ := h
  refine ⟨a, cap, hv, hl, hc.imp id ?_⟩
  rintro ⟨b, off, ha, hB, hcell⟩
  exact ⟨b, off, ha, hB, fun t ht => (hb.cell (p := ⟨b, off + t, none⟩) hB).trans (hcell t ht)⟩
end Go.Proofs.YtlngbdokgcdeeaaGreat.Draw

namespace Go.Proofs.YtlngbdokgcdeeaaGreat.Dig
open Go Go.RowKit Byt Ints IntsLaw Loc Draw

theorem cell_of {w : World} {v : Value} {l : List Int} {B : Nat} (h : RI w v l B) {k : Nat} (hk : k < l.length) :
    ∃ b off cap, v = .slice (some ⟨b, off, none⟩) l.length cap ∧ b < B ∧ w.cell? ⟨b, off + k, none⟩ = some (.int .i64 l[k]) := by
  obtain ⟨a, cap, rfl, _, hc⟩ := h
  rcases hc with h0 | ⟨b, off, rfl, hb, hcell⟩
  · rw [h0] at hk; simp at hk
  · exact ⟨b, off, cap, rfl, hb, hcell k hk⟩
theorem info_u8 : (Tryz.prog.info? 5).map (fun i => (i.zero, i.size, i.bytes)) = some (some (.int .u8 0), 1, 1) := by kernel_rfl

theorem format_digit (x : Int) (h : 0 ≤ x ∧ x ≤ 9) (w : World) :
    Calls Tryz.prog 96 #[.int .i64 x] w fun e w' => e = .returned (.int .u8 ((UInt8.ofNat (48 + x.toNat)).toNat : Int)) ∧ w = w' := by
  obtain ⟨n, rfl⟩ := Int.eq_ofNat_of_zero_le h.1
  have hn : n ≤ 9 := by omega
  rcases (show n = 0 ∨ n = 1 ∨ n = 2 ∨ n = 3 ∨ n = 4 ∨ n = 5 ∨ n = 6 ∨ n = 7 ∨ n = 8 ∨ n = 9 by omega) with rfl | rfl | rfl | rfl | rfl | rfl | rfl | rfl | rfl | rfl
  all_goals
    clear h hn
    go_enter Tryz.func96, Tryz.ntmps96
    go_wp2
    go_ret
    exact ⟨rfl, rfl⟩
theorem parse_digit (b : UInt8) (w : World) :
    Calls Tryz.prog 98 #[.int .u8 (b.toNat : Int)] w fun e w' => e = .returned (.int .i64 ((b.toNat : Int) - 48)) ∧ w = w' := by
  have hb : b.toNat < 256 := UInt8.toNat_lt b
  generalize b.toNat = n at *
  go_enter Tryz.func98, Tryz.ntmps98
  go_wp2
  go_ret
  exact ⟨rfl, rfl⟩
set_option maxRecDepth 100000 in
theorem map_digits (v : Value) (l : List Int) (B : Nat) (w : World) (hr : RI w v l B) (hB : B ≤ w.heap.size) (h16 : l.length ≤ 1048577) (hloc : ∀ x ∈ l, 0 ≤ x ∧ x ≤ 9) :
    Calls Tryz.prog 95 #[v, .func (.func 96) #[] #[]] w fun e w' => ∃ v', e = .returned v' ∧ Own w' w.heap.size 5 v' (locB l) ∧ Below w.heap.size w w' := by
  obtain ⟨i0, hi, hz0, hz1, hz2⟩ := info_parts info_u8
  have HR := Lib.hid (fun w' (hb : Below w.heap.size w w') => (hr.mono hB).later hb)
  have HX := Lib.hid hloc
  clear hloc
  obtain ⟨a, cap, rfl, hlm, _⟩ := hr
  go_enter Tryz.func95, Tryz.ntmps95
  go_wp2_with (at_make; refine wpList_make_own _ rfl _ _ 22 rfl w.heap.size 5 i0 (.int .u8 0) 1 Tryz.underlying22 hi hz0 hz1 _ _ _ l.length rfl rfl rfl (by rw [hz2]; omega) (by unfold maxLen; omega) (Nat.le_refl _) ?_)
  intro w1 hown0 hg0
  have hown1 : Own w1 w.heap.size 5 (.slice (some ⟨w.heap.size, 0, none⟩) 0 l.length) [] := hown0
  have hb1 : Below w.heap.size w w1 := (Below.refl _ _).grown hg0 (Nat.le_refl _) (by simp)
  clear hown0 hg0
  go_wp2
  go_loopw [5, 13] (fun o i wr => ∃ k : Nat, k ≤ l.length ∧ i = .int .i64 k ∧ Own wr w.heap.size 5 o (locB (l.take k)) ∧ Below w.heap.size w wr) (fun _ i _ => l.length - (intOf i).toNat)
  case atStart => exact ⟨0, Nat.zero_le _, rfl, by simpa [locB] using hown1, hb1⟩
  case round =>
    obtain ⟨k, hk, rfl, hown, hb⟩ := hrel
    by_cases hlt : k < l.length
    · obtain ⟨b, off, cap', e1, hbB, hc⟩ := cell_of (HR.out wr hb) hlt
      injection e1 with e1 e2 e3
      subst e1 e3
      have HC := Lib.hid (format_digit l[k] (HX.out _ (List.getElem_mem hlt)) wr)
      have hlen : (locB (l.take k)).length + 1 ≤ 140737488355328 := by rw [locB_len, List.length_take]; omega
      have hbs := hb.size
      have HB := Lib.hid hb
      have HT := Lib.hid (show locB (l.take (k + 1)) = locB (l.take k) ++ [UInt8.ofNat (48 + l[k].toNat)] by unfold locB; rw [List.take_succ_eq_append_getElem hlt, List.map_append]; rfl)
      clear hb
      generalize UInt8.ofNat (48 + l[k].toNat) = z at *
      have hz : z.toNat < 256 := UInt8.toNat_lt z
      go_wp2_with (first | (go_at_call 96; refine HC.out.mono ?_; rintro e w1 ⟨rfl, rfl⟩) | (at_builtin; refine wp_append1 rfl (.tmp 17) (.tmp 21) 22 rfl w.heap.size 5 Tryz.underlying22 info_u8 _ _ rfl hown _ rfl (by omega) (by omega) hlen hbs ?_))
      intro v' w5 hown5 hb5
      go_wp2_with fail
      go_roundw
      case rel => exact ⟨k + 1, by omega, by go_num, by rw [HT.out]; exact hown5, HB.out.trans hb5⟩
      case measure => simp [intOf]; omega
    · have ek : k = l.length := by omega
      subst ek
      rw [List.take_length] at hown
      go_wp2_with fail
      go_ret
      exact ⟨_, rfl, hown, hb⟩


theorem format_digits (v : Value) (l : List Int) (B : Nat) (w : World) (hr : RI w v l B) (hB : B ≤ w.heap.size) (h16 : l.length ≤ 1048577) (hloc : ∀ x ∈ l, 0 ≤ x ∧ x ≤ 9) :
    Calls Tryz.prog 54 #[v] w fun e w' => e = .returned (.string ⟨(locB l).toArray⟩) ∧ Below w.heap.size w w' := by
  have HM := Lib.hid (map_digits v l B w hr hB h16 hloc)
  clear hr hloc
  go_enter Tryz.func54, Tryz.ntmps54
  go_wp2_with fail
  refine HM.out.mono ?_
  rintro e w2 ⟨v', rfl, ho, hb⟩
  have hst := ho.string (P := Tryz.prog) 22 9 Tryz.underlying22 Tryz.underlying5 Tryz.underlying9
  go_wp2
  go_ret
  exact ⟨rfl, hb⟩
theorem cell_of_bytes {w : World} {v : Value} {l : List UInt8} {B : Nat} (h : Reads w v l B) {k : Nat} (hk : k < l.length) :
    ∃ b off cap, v = .slice (some ⟨b, off, none⟩) l.length cap ∧ b < B ∧ w.cell? ⟨b, off + k, none⟩ = some (.int .u8 (l[k].toNat : Int)) := by
  obtain ⟨a, cap, rfl, _, hc⟩ := h
  rcases hc with h0 | ⟨b, off, rfl, hb, hcell⟩
  · rw [h0] at hk; simp at hk
  · exact ⟨b, off, cap, rfl, hb, hcell k hk⟩
theorem reads_mono {w : World} {v : Value} {l : List UInt8} {B B' : Nat} (h : Reads w v l B) (hB : B ≤ B') : Reads w v l B' := by
  obtain ⟨a, cap, h1, h2, h3⟩ := h
  refine ⟨a, cap, h1, h2, h3.imp id ?_⟩
  rintro ⟨b, off, e, hb, hc⟩
  exact ⟨b, off, e, by omega, hc⟩

set_option maxRecDepth 100000 in
theorem map_parse (v : Value) (l : List UInt8) (B : Nat) (w : World) (hr : Reads w v l B) (hB : B ≤ w.heap.size) (h16 : l.length ≤ 1048577) :
    Calls Tryz.prog 97 #[v, .func (.func 98) #[] #[]] w fun e w' => ∃ v', e = .returned v' ∧ OwnI w' w.heap.size 3 v' (digs l) ∧ Below w.heap.size w w' := by
  obtain ⟨i0, hi, hz0, hz1, hz2⟩ := info_parts info_i64
  have HR := Lib.hid (fun w' (hb : Below w.heap.size w w') => (reads_mono hr hB).later hb)
  obtain ⟨a, cap, rfl, hlm, _⟩ := hr
  go_enter Tryz.func97, Tryz.ntmps97
  go_wp2_with (at_make; refine wpList_make_own _ rfl _ _ 27 rfl w.heap.size 3 i0 (.int .i64 0) 1 Tryz.underlying27 hi hz0 hz1 _ _ _ l.length rfl rfl rfl (by rw [hz2]; omega) (by unfold maxLen; omega) (Nat.le_refl _) ?_)
  intro w1 hown0 hg0
  have hown1 : OwnI w1 w.heap.size 3 (.slice (some ⟨w.heap.size, 0, none⟩) 0 l.length) [] := hown0
  have hb1 : Below w.heap.size w w1 := (Below.refl _ _).grown hg0 (Nat.le_refl _) (by simp)
  clear hown0 hg0
  go_wp2
  go_loopw [5, 13] (fun o i wr => ∃ k : Nat, k ≤ l.length ∧ i = .int .i64 k ∧ OwnI wr w.heap.size 3 o (digs (l.take k)) ∧ Below w.heap.size w wr) (fun _ i _ => l.length - (intOf i).toNat)
  case atStart => exact ⟨0, Nat.zero_le _, rfl, by simpa [digs] using hown1, hb1⟩
  case round =>
    obtain ⟨k, hk, rfl, hown, hb⟩ := hrel
    by_cases hlt : k < l.length
    · obtain ⟨b, off, cap', e1, hbB, hc⟩ := cell_of_bytes (HR.out wr hb) hlt
      injection e1 with e1 e2 e3
      subst e1 e3
      have HC := Lib.hid (parse_digit l[k] wr)
      have hlen : (digs (l.take k)).length + 1 ≤ 1000000000000 := by rw [digs_len, List.length_take]; omega
      have hbs := hb.size
      have HB := Lib.hid hb
      have HT := Lib.hid (show digs (l.take (k + 1)) = digs (l.take k) ++ [(l[k].toNat : Int) - 48] by unfold digs; rw [List.take_succ_eq_append_getElem hlt, List.map_append]; rfl)
      clear hb
      go_wp2_with (first | (go_at_call 98; refine HC.out.mono ?_; rintro e w1 ⟨rfl, rfl⟩) | (at_builtin; refine wp_appendI rfl (.tmp 17) (.tmp 21) 27 rfl w.heap.size 3 Tryz.underlying27 info_i64 _ _ rfl hown _ rfl hlen hbs ?_))
      intro v' w5 hown5 hb5
      go_wp2_with fail
      go_roundw
      case rel => exact ⟨k + 1, by omega, by go_num, by rw [HT.out]; exact hown5, HB.out.trans hb5⟩
      case measure => simp [intOf]; omega
    · have ek : k = l.length := by omega
      subst ek
      rw [List.take_length] at hown
      go_wp2_with fail
      go_ret
      exact ⟨_, rfl, hown, hb⟩

/-- What '[]byte(s)' lays can be read. -/
theorem reads_row (s : ByteArray) (c : Nat) (w : World) (e : TypeId) (hs : s.size ≤ 1048577) :
    Reads (w.drew.alloc (.cells (bytesRow s c) e ((bytesRow s c).size, (bytesRow s c).size + 1))) (.slice (some ⟨w.heap.size, 0, none⟩) s.data.toList.length c) s.data.toList (w.heap.size + 1) := by
  have hl : s.data.toList.length = s.size := Array.length_toList
  refine ⟨_, c, rfl, by omega, .inr ⟨w.heap.size, 0, rfl, by omega, fun t ht => ?_⟩⟩
  have h := World.cell?_alloc_mark w.drew (bytesRow s c) e ((bytesRow s c).size, (bytesRow s c).size + 1) t
  rw [Nat.zero_add]
  refine h.trans ?_
  rw [bytesRow_at s _ t (by omega)]
  simp

theorem bytes_laid (s : ByteArray) (w : World) (hs : s.size ≤ 1048577) :
    ∃ c w1, (convert 9 22 (.string s)).run Tryz.prog w = .ok (.slice (some ⟨w.heap.size, 0, none⟩) s.size c) w1 ∧
      Reads w1 (.slice (some ⟨w.heap.size, 0, none⟩) s.size c) s.data.toList w1.heap.size ∧ w1.heap.size = w.heap.size + 1 ∧ Below w.heap.size w w1 := by
  have hrd := reads_row s (grownCap w s.size 0 5) w 5 hs
  rw [show s.data.toList.length = s.size from Array.length_toList] at hrd
  have hz : (w.drew.alloc (.cells (bytesRow s (grownCap w s.size 0 5)) 5 ((bytesRow s (grownCap w s.size 0 5)).size, (bytesRow s (grownCap w s.size 0 5)).size + 1))).heap.size = w.heap.size + 1 := Array.size_push _
  refine ⟨_, _, run_bytes_of_string (P := Tryz.prog) w 9 22 5 s Tryz.underlying9 Tryz.underlying22 Tryz.underlying5, ?_, hz, ?_⟩
  · rw [hz]; exact hrd
  · have h := (Below.refl w.heap.size w.drew).alloc (Nat.le_refl _) (.cells (bytesRow s (grownCap w s.size 0 5)) 5 ((bytesRow s (grownCap w s.size 0 5)).size, (bytesRow s (grownCap w s.size 0 5)).size + 1))
    exact below_undrew ⟨h.os, h.tape, h.output, h.size, h.block⟩


set_option maxRecDepth 100000 in
theorem parse_digits (s : ByteArray) (w : World) (h16 : s.size ≤ 1048577) :
    Calls Tryz.prog 56 #[.string s] w fun e w' => ∃ v', e = .returned v' ∧ OwnI w' w.heap.size 3 v' (digs s.data.toList) ∧ Below w.heap.size w w' := by
  have hl : s.data.toList.length = s.size := Array.length_toList
  obtain ⟨c, w1, hcv, hrd, hsz, hbel⟩ := bytes_laid s w h16
  have HM := Lib.hid (map_parse _ _ _ w1 hrd (Nat.le_refl _) (by rw [hl]; omega))
  have HB := Lib.hid hbel
  have HZ := Lib.hid hsz
  clear hrd hbel hl hsz
  generalize digs s.data.toList = ds at *
  go_enter Tryz.func56, Tryz.ntmps56
  go_wp2_with fail
  refine HM.out.mono ?_
  rintro e w2 ⟨v', rfl, ho, hb⟩
  have hbb : Below w.heap.size w w2 := HB.out.trans (hb.mono (by rw [HZ.out]; omega))
  have ho' := ho.base_mono (base' := w.heap.size) (by rw [HZ.out]; omega)
  go_wp2_with fail
  go_ret
  exact ⟨_, rfl, ho', hbb⟩
end Go.Proofs.YtlngbdokgcdeeaaGreat.Dig

namespace Go.Proofs.YtlngbdokgcdeeaaGreat.UpdFmt
open Go Go.RowKit Byt Ints IntsLaw Cd Rows2 Tab TabSpec Exact Upd TabFmt
open TabImp (is_name_at is_arity_at is_row)

def updOk (nm : ByteArray) (row : List Int) : Bool := nameOk nm && decide (1 ≤ (row.length : Int) ∧ (row.length : Int) ≤ 3) && rowOk row row.length
def signB (b : Bool) : UInt8 := if b then 43 else 45
def updB (nm : ByteArray) (b : Bool) (row : List Int) : List UInt8 := signB b :: (nm.data.toList ++ digB row)
def fmtU (nm : ByteArray) (b : Bool) (row : List Int) : ByteArray := ⟨(if updOk nm row then updB nm b row else []).toArray⟩
theorem fmtU_no {nm : ByteArray} {b : Bool} {row : List Int} (h : updOk nm row = false) : fmtU nm b row = ⟨#[]⟩ := by unfold fmtU; rw [h]; rfl
theorem fmtU_yes {nm : ByteArray} {b : Bool} {row : List Int} (h : updOk nm row = true) : fmtU nm b row = ⟨(updB nm b row).toArray⟩ := by unfold fmtU; rw [h]; rfl

/-- The kind of an update, as the program holds it. -/
def chV (b : Bool) : Value := if b then .iface 90 (.agg #[]) else .iface 105 (.agg #[])
set_option maxRecDepth 100000 in
theorem change_of (nm : ByteArray) (b : Bool) (u : Value) (w : World) :
    Calls Tryz.prog 37 #[.agg #[.string nm, .bool b, u]] w fun e w' => e = .returned (chV b) ∧ Below w.heap.size w w' := by
  cases b
  · go_enter Tryz.func37, Tryz.ntmps37
    go_wp2_with fail
    go_ret
    exact ⟨rfl, below_alloc _ _⟩
  · go_enter Tryz.func37, Tryz.ntmps37
    go_wp2_with fail
    go_ret
    exact ⟨rfl, below_alloc _ _⟩
theorem sign_ins (w : World) : Calls Tryz.prog 55 #[.agg #[]] w fun e w' => e = .returned (.string ⟨#[43]⟩) ∧ Below w.heap.size w w' := by
  go_enter Tryz.func55, Tryz.ntmps55
  go_wp2_with fail
  go_ret
  exact ⟨rfl, below_alloc _ _⟩
theorem sign_del (w : World) : Calls Tryz.prog 166 #[.agg #[]] w fun e w' => e = .returned (.string ⟨#[45]⟩) ∧ Below w.heap.size w w' := by
  go_enter Tryz.func166, Tryz.ntmps166
  go_wp2_with fail
  go_ret
  exact ⟨rfl, below_alloc _ _⟩
theorem m_sign_ins (w : World) : (method 286 90 (.agg #[]) "loop.example/g01921/impl.sign").run Tryz.prog w = .ok (55, .agg #[]) w := by kernel_rfl
theorem m_sign_del (w : World) : (method 286 105 (.agg #[]) "loop.example/g01921/impl.sign").run Tryz.prog w = .ok (166, .agg #[]) w := by kernel_rfl

def LaterU (w w' : World) : Prop := Below w.heap.size w w'
set_option maxRecDepth 100000 in
set_option maxHeartbeats 3200000 in
theorem impl_fmtu (nm : ByteArray) (b : Bool) (u : Value) (row : List Int) (S : Nat → Prop) (w : World) (hr : rowC.rd w S [u] row) :
    Calls Tryz.prog 16 #[.agg #[.string nm, .bool b, u]] w fun e w' => e = .returned (.string (fmtU nm b row)) ∧ Below w.heap.size w w' := by
  have HR := Lib.hid (fun w' (hb : Below w.heap.size w w') => Cd.later hr hb)
  obtain ⟨a, cap, rfl, hlm⟩ := row_form hr
  clear hr
  cases hn : nameOk nm
  · have HZ := Lib.hid (fmtU_no (b := b) (show updOk nm row = false by unfold updOk; rw [hn]; rfl))
    have HN := Lib.hid (fun w' => is_name_at hn w')
    clear hn
    go_enter Tryz.func16, Tryz.ntmps16
    go_wp2_with (go_at_call 51; refine (HN.out _).mono ?_; rintro e w1 ⟨rfl, rfl⟩)
    go_ret
    exact ⟨ret_str HZ.out.symm, below_alloc _ _⟩
  have HN := Lib.hid (fun w' => is_name_at hn w')
  cases ha : decide (1 ≤ (row.length : Int) ∧ (row.length : Int) ≤ 3)
  · have HZ := Lib.hid (fmtU_no (b := b) (show updOk nm row = false by unfold updOk; rw [ha, hn]; rfl))
    have HA := Lib.hid (fun w' => is_arity_at ha w')
    clear hn ha
    go_enter Tryz.func16, Tryz.ntmps16
    go_wp2_with (first | (go_at_call 51; refine (HN.out _).mono ?_; rintro e w1 ⟨rfl, rfl⟩) | (go_at_call 52; refine (HA.out _).mono ?_; rintro e w1 ⟨rfl, rfl⟩))
    go_ret
    exact ⟨ret_str HZ.out.symm, below_alloc _ _⟩
  have HA := Lib.hid (fun w' => is_arity_at ha w')
  have HRW := Lib.hid (fun w' (hb : Below w.heap.size w w') => is_row (.slice a row.length cap) row row.length _ w' (row_ri (HR.out w' hb)).1)
  cases hk : rowOk row row.length
  · have HZ := Lib.hid (fmtU_no (b := b) (show updOk nm row = false by unfold updOk; rw [ha, hn, hk]; rfl))
    rw [hk] at HRW
    clear hn ha hk
    go_enter Tryz.func16, Tryz.ntmps16
    go_wp2_with (first | (go_at_call 51; refine (HN.out _).mono ?_; rintro e w1 ⟨rfl, rfl⟩) | (go_at_call 52; refine (HA.out _).mono ?_; rintro e w1 ⟨rfl, rfl⟩) | (go_at_call 53; refine (HRW.out _ (below_alloc _ _)).mono ?_; rintro e w1 ⟨rfl, rfl⟩))
    go_ret
    exact ⟨ret_str HZ.out.symm, below_alloc _ _⟩
  have HZ := Lib.hid (fmtU_yes (b := b) (show updOk nm row = true by unfold updOk; rw [ha, hn, hk]; rfl))
  rw [hk] at HRW
  have hrk := rowOk_iff.1 hk
  have hal : row.length ≤ 3 := by have := of_decide_eq_true ha; omega
  obtain ⟨⟨nl⟩⟩ := nm
  have hnl : nl.length = 1 := by have := of_decide_eq_true hn; exact this.1
  have HDG := Lib.hid (fun w' (hb : Below w.heap.size w w') => (show Calls Tryz.prog 54 #[.slice a row.length cap] w' fun e w'' => e = .returned (.string ⟨(digB row).toArray⟩) ∧ Below w'.heap.size w' w'' from Dig.format_digits (.slice a row.length cap) row _ w' (row_ri (HR.out w' hb)).1 (Nat.le_refl _) (by omega) hrk.2))
  have hdl : (digB row).length ≤ 3 := by rw [digB_len]; exact hal
  have HFIN := Lib.hid (show updB ⟨⟨nl⟩⟩ b row = [signB b] ++ nl ++ digB row by simp [updB])
  clear hn ha hk hrk hal
  generalize digB row = dg at *
  go_enter Tryz.func16, Tryz.ntmps16
  go_wp2_with (first | (go_at_call 51; refine (HN.out _).mono ?_; rintro e w1 ⟨rfl, rfl⟩) | (go_at_call 52; refine (HA.out _).mono ?_; rintro e w1 ⟨rfl, rfl⟩) | (go_at_call 53; refine (HRW.out _ (below_alloc _ _)).mono ?_; rintro e w1 ⟨rfl, rfl⟩) | fail)
  have HT := Lib.hid (Loc3.of (row_alloc w (.cells #[.string ⟨⟨nl⟩⟩, .bool b, .slice a row.length cap] 29)))
  have HB := Lib.hid (below_alloc w (.cells #[.string ⟨⟨nl⟩⟩, .bool b, .slice a row.length cap] 29))
  generalize w.alloc _ = W at *
  have y0 := HT.out.c0
  have y1 := HT.out.c1
  have y2 := HT.out.c2
  have kk : LaterU W W.drew := (Below.refl _ W).drew
  have l1 : ¬ 9223372036854775807 < nl.length + 1 := by omega
  have l2 : ¬ 9223372036854775807 < nl.length + 1 + dg.length := by omega
  have l3 : ¬ 9223372036854775807 < 1 + nl.length := by omega
  have l4 : ¬ 9223372036854775807 < 1 + nl.length + dg.length := by omega
  clear hnl hdl
  have HCH := Lib.hid (fun w' => change_of ⟨⟨nl⟩⟩ b (.slice a row.length cap) w')
  cases b
  · have hm := m_sign_del
    have HSG := Lib.hid sign_del
    change Hid (∀ w', Calls _ _ _ _ fun e w'' => e = .returned (.iface 105 (.agg #[])) ∧ _) at HCH
    go_region_held3 (fun wx => wx.cell? ⟨w.heap.size, 0, none⟩ = some (.string ⟨⟨nl⟩⟩) ∧ wx.cell? ⟨w.heap.size, 1, none⟩ = some (.bool false) ∧ wx.cell? ⟨w.heap.size, 2, none⟩ = some (.slice a row.length cap) ∧ LaterU W wx)
      ((refine ⟨?_, ?_, ?_, ?_⟩ <;> first | assumption | (simp [*]; done)))
      (first | (go_at_call 37; refine (HCH.out _).mono ?_; rintro e wq ⟨rfl, hbq⟩; (have kk : LaterU W wq := below_then (by assumption) hbq); (have k0 := (HT.out.later kk).c0); (have k1 := (HT.out.later kk).c1); (have k2 := (HT.out.later kk).c2); clear hbq) | (go_at_call 166; refine (HSG.out _).mono ?_; rintro e wq ⟨rfl, hbq⟩; (have kk : LaterU W wq := below_then (by assumption) hbq); (have k0 := (HT.out.later kk).c0); (have k1 := (HT.out.later kk).c1); (have k2 := (HT.out.later kk).c2); clear hbq) | (go_at_call 54; refine (HDG.out _ (below_then HB.out (by assumption))).mono ?_; rintro e wq ⟨rfl, hbq⟩; (have kk : LaterU W wq := below_then (by assumption) hbq); (have k0 := (HT.out.later kk).c0); (have k1 := (HT.out.later kk).c1); (have k2 := (HT.out.later kk).c2); clear hbq))
    all_goals
      go_wp2_with fail
      go_ret
      exact ⟨ret_str (by rw [HZ.out, HFIN.out]; simp [ByteArray.mk_append_mk, signB]), below_then HB.out (by assumption)⟩
  · have hm := m_sign_ins
    have HSG := Lib.hid sign_ins
    change Hid (∀ w', Calls _ _ _ _ fun e w'' => e = .returned (.iface 90 (.agg #[])) ∧ _) at HCH
    go_region_held3 (fun wx => wx.cell? ⟨w.heap.size, 0, none⟩ = some (.string ⟨⟨nl⟩⟩) ∧ wx.cell? ⟨w.heap.size, 1, none⟩ = some (.bool true) ∧ wx.cell? ⟨w.heap.size, 2, none⟩ = some (.slice a row.length cap) ∧ LaterU W wx)
      ((refine ⟨?_, ?_, ?_, ?_⟩ <;> first | assumption | (simp [*]; done)))
      (first | (go_at_call 37; refine (HCH.out _).mono ?_; rintro e wq ⟨rfl, hbq⟩; (have kk : LaterU W wq := below_then (by assumption) hbq); (have k0 := (HT.out.later kk).c0); (have k1 := (HT.out.later kk).c1); (have k2 := (HT.out.later kk).c2); clear hbq) | (go_at_call 55; refine (HSG.out _).mono ?_; rintro e wq ⟨rfl, hbq⟩; (have kk : LaterU W wq := below_then (by assumption) hbq); (have k0 := (HT.out.later kk).c0); (have k1 := (HT.out.later kk).c1); (have k2 := (HT.out.later kk).c2); clear hbq) | (go_at_call 54; refine (HDG.out _ (below_then HB.out (by assumption))).mono ?_; rintro e wq ⟨rfl, hbq⟩; (have kk : LaterU W wq := below_then (by assumption) hbq); (have k0 := (HT.out.later kk).c0); (have k1 := (HT.out.later kk).c1); (have k2 := (HT.out.later kk).c2); clear hbq))
    all_goals
      go_wp2_with fail
      go_ret
      exact ⟨ret_str (by rw [HZ.out, HFIN.out]; simp [ByteArray.mk_append_mk, signB]), below_then HB.out (by assumption)⟩
end Go.Proofs.YtlngbdokgcdeeaaGreat.UpdFmt

namespace Go.Proofs.YtlngbdokgcdeeaaGreat.DbImp
open Go Go.RowKit Byt Ints IntsLaw Cd Rows2 Tab SlMath TabOpen TabElem SlTable Db TabSpec DbMath DbSpec TabImp

def cmpN (a b : ByteArray) : Int := if ltB a b then -1 else if ltB b a then 1 else 0
theorem cmpN_lt (a b : ByteArray) : cmpN a b < 0 ↔ ltB a b = true := by
  unfold cmpN
  split
  · rename_i h; simp [h]
  · rename_i h
    split <;> simp [h]
theorem gtr_eq (a b : ByteArray) (h : ltB a b = false) : (!(ltB a b || a.toList == b.toList)) = ltB b a := by
  rw [h, eqB]
  by_cases e : a = b
  · subst e; rw [ltB_irrefl]; simp
  · rw [decide_eq_false e]
    cases k : ltB b a
    · exact absurd (ltB_tri h k) e
    · rfl
theorem less_eq (a b : ByteArray) : Op.bytesLess a.toList b.toList = ltB a b := rfl
theorem nan_str (a : ByteArray) (w : World) : Calls Tryz.prog 122 #[.string a] w fun e w' => e = .returned (.bool false) ∧ w = w' := by
  go_enter Tryz.func122, Tryz.ntmps122
  go_wp2_with fail
  go_ret
  exact ⟨by simp, rfl⟩
set_option maxRecDepth 100000 in
theorem cmp_str (a b : ByteArray) (w : World) : Calls Tryz.prog 118 #[.string a, .string b] w fun e w' => e = .returned (.int .i64 (cmpN a b)) ∧ w = w' := by
  cases h : ltB a b
  · have hg := gtr_eq a b h
    have HC := Lib.hid (show cmpN a b = if ltB b a then 1 else 0 by unfold cmpN; rw [h]; rfl)
    rw [h] at hg
    have h' : Op.bytesLess a.toList b.toList = false := h
    cases k : ltB b a
    · rw [k] at hg HC
      have hg' : (a.toList == b.toList) = true := by simpa using hg
      clear hg h
      go_enter Tryz.func118, Tryz.ntmps118
      go_wp2_with (first | (go_at_call 122; refine (nan_str _ _).mono ?_; rintro e w' ⟨rfl, rfl⟩))
      go_ret
      exact ⟨by rw [HC.out]; rfl, rfl⟩
    · rw [k] at hg HC
      have hg' : (a.toList == b.toList) = false := by simpa using hg
      clear hg h
      go_enter Tryz.func118, Tryz.ntmps118
      go_wp2_with (first | (go_at_call 122; refine (nan_str _ _).mono ?_; rintro e w' ⟨rfl, rfl⟩))
      go_ret
      exact ⟨by rw [HC.out]; rfl, rfl⟩
  · have HC := Lib.hid (show cmpN a b = -1 by unfold cmpN; rw [h]; rfl)
    have h' : Op.bytesLess a.toList b.toList = true := h
    clear h
    go_enter Tryz.func118, Tryz.ntmps118
    go_wp2_with (first | (go_at_call 122; refine (nan_str _ _).mono ?_; rintro e w' ⟨rfl, rfl⟩))
    go_ret
    exact ⟨by rw [HC.out]; rfl, rfl⟩
theorem grow_two (w : World) (o1 o2 : Obj) : (w.alloc o1).alloc o2 = Sort.grow w #[o1, o2] := by
  show ({ w with heap := (w.heap.push o1).push o2 } : World) = { w with heap := w.heap ++ #[o1, o2] }
  rw [show (w.heap.push o1).push o2 = w.heap ++ #[o1, o2] by apply Array.ext'; simp]
set_option maxRecDepth 100000 in
theorem cmp_names (a b : ByteArray) (y z y' z' : Value) (w : World) : Calls Tryz.prog 108 #[.agg #[.string a, y, z], .agg #[.string b, y', z']] w fun e w' => e = .returned (.int .i64 (cmpN a b)) ∧ ∃ os, w' = Sort.grow w os := by
  have HC := Lib.hid (fun w' => cmp_str a b w')
  go_enter Tryz.func108, Tryz.ntmps108
  go_wp2_with fail
  refine (HC.out _).mono ?_
  rintro e w' ⟨rfl, rfl⟩
  go_wp2_with fail
  go_ret
  exact ⟨rfl, #[_, _], grow_two w _ _⟩
theorem below_grow (w : World) (os : Array Obj) : Below w.heap.size w (Sort.grow w os) :=
  ⟨rfl, rfl, rfl, by show _ ≤ (w.heap ++ os).size; rw [Array.size_append]; omega, fun k hk => by show (w.heap ++ os)[k]? = w.heap[k]?; rw [Array.getElem?_append_left hk]⟩
theorem val_elem_i (us : List Value) (T : T3) (S : Nat → Prop) (w : World) (hu : tabC.rd w S us T) :
    Calls Tryz.prog 78 #[.agg us.toArray] w fun e w' => e = .returned (.bool (okT T)) ∧ Below w.heap.size w w' := by
  obtain ⟨u, rfl, _, _, h3⟩ := tab_cells hu
  exact impl_valid T.1 T.2.1 u T.2.2 S w h3
set_option maxRecDepth 100000 in
set_option maxHeartbeats 1600000 in
theorem impl_dbok (u : Value) (l : List T3) (S : Nat → Prop) (w : World) (h1 : tabsC.rd w S [u] l) :
    Calls Tryz.prog 77 #[.agg #[u]] w fun e w' => e = .returned (.bool (dbOk l)) ∧ Below w.heap.size w w' := by
  have HR1 := Lib.hid (fun w' (hb : Below w.heap.size w w') => Cd.later h1 hb)
  obtain ⟨a1, cap1, rfl, hl1⟩ := Cd.sl_form h1
  clear h1
  by_cases h6 : 6 < l.length
  · have HZ := Lib.hid (show dbOk l = false from dbOk_no.2 fun q => by have := q.1; omega)
    have h6' : ((6 : Int) < (l.length : Int)) = True := by simp only [eq_iff_iff, iff_true]; omega
    go_enter Tryz.func77, Tryz.ntmps77
    go_wp2_with fail
    go_ret
    exact ⟨DbSpec.ret_b HZ.out.symm, below_alloc _ _⟩
  have H6 := Lib.hid (show l.length ≤ 6 by omega)
  have h6' : ((6 : Int) < (l.length : Int)) = False := by simp only [eq_iff_iff, iff_false]; omega
  go_enter Tryz.func77, Tryz.ntmps77
  go_wp2_with fail
  generalize hW : w.alloc _ = W
  obtain ⟨r0, hz, hb0⟩ := start1 w _ hW
  have HC0 := Lib.hid (row1 r0).1
  have HLT0 := Lib.hid (show w.heap.size < W.heap.size by omega)
  have HB0 := Lib.hid hb0
  clear hW r0 hz hb0
  go_loopw [12] (fun i wr => ∃ k : Nat, k ≤ l.length ∧ i = .int .i64 k ∧ (∀ T ∈ l.take k, okT T = true) ∧ AscP (l.take k) ∧ Below W.heap.size W wr) (fun i _ => l.length - (intOf i).toNat)
  case atStart => exact ⟨0, Nat.zero_le _, rfl, by simp, by simp [AscP], Below.refl _ _⟩
  case round =>
    obtain ⟨k, hk, rfl, hok, has, hb⟩ := hrel
    have x0 := (hb.cell (p := ⟨w.heap.size, 0, none⟩) HLT0.out).trans HC0.out
    have HOK := Lib.hid hok
    have HAS := Lib.hid has
    have HBW := Lib.hid (below_then HB0.out hb)
    have HWR := Lib.hid hb
    have HX0 := Lib.hid (And.intro x0 (World.block_lt_of_cell? _ _ x0))
    clear hok has
    by_cases hlt : k < l.length
    · obtain ⟨b, off, cap', us, e1, _, hbB, hat, hu⟩ := Cd.sl_at (HR1.out wr HBW.out) hlt
      injection e1 with e1 e2 e3
      subst e1 e3
      obtain ⟨x, y, z, rfl⟩ := len_list (tabC.len hu)
      have p0 := hat 0 (by simp)
      have p1 := hat 1 (by simp)
      have p2 := hat 2 (by simp)
      simp only [List.getElem_cons_zero, List.getElem_cons_succ, Nat.add_zero, show tabC.n = 3 from rfl] at p0 p1 p2
      obtain ⟨nk, hnk⟩ : ∃ nk, nk = (l[k]).1 := ⟨_, rfl⟩
      obtain rfl : x = .string nk := by rw [hnk]; exact name_cell hu
      obtain ⟨rk, hrk⟩ : ∃ rk, rk = (l[k]).2.1 := ⟨_, rfl⟩
      obtain ⟨qk, hqk⟩ : ∃ qk, qk = (l[k]).2.2.length := ⟨_, rfl⟩
      obtain ⟨ak, ck, hsh⟩ : ∃ a c, [y, z] = [.int .i64 rk, .slice a qk c] := by
        obtain ⟨u, e, _, _, h3⟩ := tab_cells hu
        obtain ⟨a, c, rfl, _⟩ := rows_form h3
        injection e with _ e
        exact ⟨a, c, by rw [hrk, hqk]; exact e⟩
      injection hsh with hy hsh
      injection hsh with hzz
      subst hy hzz
      have HNK := Lib.hid hnk
      have HE := Lib.hid (fun w' (hq : LaterD wr w') => val_elem_i [.string nk, .int .i64 rk, .slice ak qk ck] l[k] _ w' (Cd.later hu hq))
      have HBB := Lib.hid hbB
      have i1 : (0 : Int) ≤ (k : Int) := by omega
      have i2 : (k : Int) < (l.length : Int) := by omega
      clear hnk hu hat hbB e2 hrk hqk
      go_upto_region 6 with fail
      generalize hg : World.alloc wr _ = w1
      obtain ⟨rg, zg, hbg⟩ := start1 wr _ hg
      have HBG := Lib.hid hbg
      obtain ⟨g0, g1, g2, _, _, _⟩ := row3 rg
      have n0 := (hbg.cell (p := ⟨w.heap.size, 0, none⟩) HX0.out.2).trans HX0.out.1
      have HG := Lib.hid (And.intro n0 (And.intro g0 (And.intro g1 g2)))
      have HGL := Lib.hid (show w.heap.size < w1.heap.size ∧ wr.heap.size < w1.heap.size ∧ b < w1.heap.size from ⟨by have := HX0.out.2; have := hbg.size; simp only at *; omega, by omega, by have := HBB.out; have := hbg.size; omega⟩)
      have kk : LaterD w1 w1.drew := drewD (Below.refl _ w1)
      have kw : LaterD wr w1.drew := drewD hbg
      clear hg rg zg hbg x0 p0 p1 p2
      cases hT : okT l[k]
      · rw [hT] at HE
        have HZ := Lib.hid (show dbOk l = false from dbOk_no.2 fun q => by have := q.2.1 _ (List.getElem_mem hlt); rw [hT] at this; cases this)
        clear hT
        refine wp_region_held_drew (S := fun wx => wx.cell? ⟨w.heap.size, 0, none⟩ = some (.slice (some ⟨b, off, none⟩) l.length cap1) ∧ wx.cell? ⟨wr.heap.size, 0, none⟩ = some (.string nk) ∧ wx.cell? ⟨wr.heap.size, 1, none⟩ = some (.int .i64 rk) ∧ wx.cell? ⟨wr.heap.size, 2, none⟩ = some (.slice ak qk ck) ∧ LaterD w1 wx) (by kernel_rfl) ?_ (fun hHeld => ?_)
        · (refine ⟨?_, ?_, ?_, ?_, ?_⟩ <;> first | assumption | (simp [*]; done))
        refine RegH.takeH (i := 0) (v := ?_) rfl (by kernel_rfl) (by kernel_rfl) (by kernel_rfl) (fun _ _ _ h => h) (Or.inl ⟨by rfl, ?_⟩) (by assumption) ?_
        rotate_left
        · (intro wS hSw; (try dsimp only at hSw); go_simp; try (with_reducible rfl))
        try simp only [Act.put, List.setIfInBounds_toArray, List.set_cons_zero, List.set_cons_succ]
        refine RegH.consH (i := 1) rfl (by kernel_rfl) (fun K hK => ?_)
        go_simp
        go_at_call 78
        refine (HE.out _ kw).mono ?_
        rintro e wq ⟨rfl, hbq⟩
        have kq : LaterD w1 wq := below_then (show Below w1.heap.size w1 w1.drew from kk) hbq
        have n0 := (Below.cell kq (p := ⟨w.heap.size, 0, none⟩) HGL.out.1).trans HG.out.1
        have n1 := (Below.cell kq (p := ⟨wr.heap.size, 0, none⟩) HGL.out.2.1).trans HG.out.2.1
        have n2 := (Below.cell kq (p := ⟨wr.heap.size, 1, none⟩) HGL.out.2.1).trans HG.out.2.2.1
        have n3 := (Below.cell kq (p := ⟨wr.heap.size, 2, none⟩) HGL.out.2.1).trans HG.out.2.2.2
        clear hbq
        go_wp2_with fail
        refine hK.out _ _ ?_ (fun hHeld => ?_)
        · (refine ⟨?_, ?_, ?_, ?_, ?_⟩ <;> first | assumption | (simp [*]; done))
        clear hK K
        try simp only [Act.put, List.setIfInBounds_toArray, List.set_cons_zero, List.set_cons_succ]
        refine RegH.takeH (i := 2) (v := ?_) rfl (by kernel_rfl) (by kernel_rfl) (by kernel_rfl) (fun _ _ _ h => h) (Or.inl ⟨by rfl, ?_⟩) (by assumption) ?_
        rotate_left
        · (intro wS hSw; (try dsimp only at hSw); go_simp; try (with_reducible rfl))
        try simp only [Act.put, List.setIfInBounds_toArray, List.set_cons_zero, List.set_cons_succ]
        refine RegH.takeH (i := 3) (v := ?_) rfl (by kernel_rfl) (by kernel_rfl) (by kernel_rfl) (fun _ _ _ h => h) (Or.inl ⟨by rfl, ?_⟩) (by assumption) ?_
        rotate_left
        · (intro wS hSw; (try dsimp only at hSw); go_simp; try (with_reducible rfl))
        try simp only [Act.put, List.setIfInBounds_toArray, List.set_cons_zero, List.set_cons_succ]
        refine RegH.takeH (i := 4) rfl (by kernel_rfl) (by kernel_rfl) (by kernel_rfl) (fun _ _ _ h => h) (Or.inr ⟨by rfl, rfl⟩) (by assumption) ?_
        try simp only [Act.put, List.setIfInBounds_toArray, List.set_cons_zero, List.set_cons_succ]
        refine RegH.takeH (i := 5) rfl (by kernel_rfl) (by kernel_rfl) (by kernel_rfl) (fun _ _ _ h => h) (Or.inr ⟨by rfl, rfl⟩) (by assumption) ?_
        try simp only [Act.put, List.setIfInBounds_toArray, List.set_cons_zero, List.set_cons_succ]
        refine RegH.takeH (i := 6) rfl (by kernel_rfl) (by kernel_rfl) (by kernel_rfl) (fun _ _ _ h => h) (Or.inr ⟨by rfl, rfl⟩) (by assumption) ?_
        try simp only [Act.put, List.setIfInBounds_toArray, List.set_cons_zero, List.set_cons_succ]
        refine RegH.takeH (i := 7) rfl (by kernel_rfl) (by kernel_rfl) (by kernel_rfl) (fun _ _ _ h => h) (Or.inr ⟨by rfl, rfl⟩) (by assumption) ?_
        try simp only [Act.put, List.setIfInBounds_toArray, List.set_cons_zero, List.set_cons_succ]
        refine RegH.takeH (i := 8) rfl (by kernel_rfl) (by kernel_rfl) (by kernel_rfl) (fun _ _ _ h => h) (Or.inr ⟨by rfl, rfl⟩) (by assumption) ?_
        try simp only [Act.put, List.setIfInBounds_toArray, List.set_cons_zero, List.set_cons_succ]
        refine RegH.takeH (i := 9) rfl (by kernel_rfl) (by kernel_rfl) (by kernel_rfl) (fun _ _ _ h => h) (Or.inr ⟨by rfl, rfl⟩) (by assumption) ?_
        try simp only [Act.put, List.setIfInBounds_toArray, List.set_cons_zero, List.set_cons_succ]
        refine RegH.takeH (i := 10) rfl (by kernel_rfl) (by kernel_rfl) (by kernel_rfl) (fun _ _ _ h => h) (Or.inr ⟨by rfl, rfl⟩) (by assumption) ?_
        try simp only [Act.put, List.setIfInBounds_toArray, List.set_cons_zero, List.set_cons_succ]
        refine RegH.takeH (i := 11) rfl (by kernel_rfl) (by kernel_rfl) (by kernel_rfl) (fun _ _ _ h => h) (Or.inr ⟨by rfl, rfl⟩) (by assumption) ?_
        try simp only [Act.put, List.setIfInBounds_toArray, List.set_cons_zero, List.set_cons_succ]
        refine RegH.takeH (i := 12) rfl (by kernel_rfl) (by kernel_rfl) (by kernel_rfl) (fun _ _ _ h => h) (Or.inr ⟨by rfl, rfl⟩) (by assumption) ?_
        try simp only [Act.put, List.setIfInBounds_toArray, List.set_cons_zero, List.set_cons_succ]
        refine RegH.takeH (i := 13) rfl (by kernel_rfl) (by kernel_rfl) (by kernel_rfl) (fun _ _ _ h => h) (Or.inr ⟨by rfl, rfl⟩) (by assumption) ?_
        try simp only [Act.put, List.setIfInBounds_toArray, List.set_cons_zero, List.set_cons_succ]
        refine RegH.takeH (i := 14) rfl (by kernel_rfl) (by kernel_rfl) (by kernel_rfl) (fun _ _ _ h => h) (Or.inr ⟨by rfl, rfl⟩) (by assumption) ?_
        try simp only [Act.put, List.setIfInBounds_toArray, List.set_cons_zero, List.set_cons_succ]
        refine RegH.takeH (i := 15) rfl (by kernel_rfl) (by kernel_rfl) (by kernel_rfl) (fun _ _ _ h => h) (Or.inr ⟨by rfl, rfl⟩) (by assumption) ?_
        try simp only [Act.put, List.setIfInBounds_toArray, List.set_cons_zero, List.set_cons_succ]
        refine RegH.takeH (i := 16) rfl (by kernel_rfl) (by kernel_rfl) (by kernel_rfl) (fun _ _ _ h => h) (Or.inr ⟨by rfl, rfl⟩) (by assumption) ?_
        try simp only [Act.put, List.setIfInBounds_toArray, List.set_cons_zero, List.set_cons_succ]
        refine RegH.takeH (i := 17) (v := ?_) rfl (by kernel_rfl) (by kernel_rfl) (by kernel_rfl) (fun _ _ _ h => h) (Or.inl ⟨by rfl, ?_⟩) (by assumption) ?_
        rotate_left
        · (intro wS hSw; (try dsimp only at hSw); go_simp; try (with_reducible rfl))
        try simp only [Act.put, List.setIfInBounds_toArray, List.set_cons_zero, List.set_cons_succ]
        refine wpAnyH_done (by kernel_rfl) ?_ _
        go_wp2_with fail
        go_ret
        exact ⟨DbSpec.ret_b HZ.out.symm, below_then HBW.out (below_then (show Below wr.heap.size wr w1 from HBG.out) (show Below w1.heap.size w1 wq from kq))⟩
      · rw [hT] at HE
        have HN1 := Lib.hid (ok_more HOK.out hlt hT)
        clear hT
        by_cases hk0 : k = 0
        · have hg1 : ((0 : Int) < (k : Int)) = False := by simp only [eq_iff_iff, iff_false]; omega
          have hg2 : (0 < k) = False := by simp only [eq_iff_iff, iff_false]; omega
          have HN2 := Lib.hid (asc_more HAS.out hlt (fun j e _ => by omega))
          clear hk0
          refine wp_region_held_drew (S := fun wx => wx.cell? ⟨w.heap.size, 0, none⟩ = some (.slice (some ⟨b, off, none⟩) l.length cap1) ∧ wx.cell? ⟨wr.heap.size, 0, none⟩ = some (.string nk) ∧ wx.cell? ⟨wr.heap.size, 1, none⟩ = some (.int .i64 rk) ∧ wx.cell? ⟨wr.heap.size, 2, none⟩ = some (.slice ak qk ck) ∧ LaterD w1 wx) (by kernel_rfl) ?_ (fun hHeld => ?_)
          · (refine ⟨?_, ?_, ?_, ?_, ?_⟩ <;> first | assumption | (simp [*]; done))
          refine RegH.takeH (i := 0) (v := ?_) rfl (by kernel_rfl) (by kernel_rfl) (by kernel_rfl) (fun _ _ _ h => h) (Or.inl ⟨by rfl, ?_⟩) (by assumption) ?_
          rotate_left
          · (intro wS hSw; (try dsimp only at hSw); go_simp; try (with_reducible rfl))
          try simp only [Act.put, List.setIfInBounds_toArray, List.set_cons_zero, List.set_cons_succ]
          refine RegH.consH (i := 1) rfl (by kernel_rfl) (fun K hK => ?_)
          go_simp
          go_at_call 78
          refine (HE.out _ kw).mono ?_
          rintro e wq ⟨rfl, hbq⟩
          have kq : LaterD w1 wq := below_then (show Below w1.heap.size w1 w1.drew from kk) hbq
          have n0 := (Below.cell kq (p := ⟨w.heap.size, 0, none⟩) HGL.out.1).trans HG.out.1
          have n1 := (Below.cell kq (p := ⟨wr.heap.size, 0, none⟩) HGL.out.2.1).trans HG.out.2.1
          have n2 := (Below.cell kq (p := ⟨wr.heap.size, 1, none⟩) HGL.out.2.1).trans HG.out.2.2.1
          have n3 := (Below.cell kq (p := ⟨wr.heap.size, 2, none⟩) HGL.out.2.1).trans HG.out.2.2.2
          clear hbq
          go_wp2_with fail
          refine hK.out _ _ ?_ (fun hHeld => ?_)
          · (refine ⟨?_, ?_, ?_, ?_, ?_⟩ <;> first | assumption | (simp [*]; done))
          clear hK K
          try simp only [Act.put, List.setIfInBounds_toArray, List.set_cons_zero, List.set_cons_succ]
          refine RegH.takeH (i := 2) (v := ?_) rfl (by kernel_rfl) (by kernel_rfl) (by kernel_rfl) (fun _ _ _ h => h) (Or.inl ⟨by rfl, ?_⟩) (by assumption) ?_
          rotate_left
          · (intro wS hSw; (try dsimp only at hSw); go_simp; try (with_reducible rfl))
          try simp only [Act.put, List.setIfInBounds_toArray, List.set_cons_zero, List.set_cons_succ]
          refine RegH.takeH (i := 3) (v := ?_) rfl (by kernel_rfl) (by kernel_rfl) (by kernel_rfl) (fun _ _ _ h => h) (Or.inl ⟨by rfl, ?_⟩) (by assumption) ?_
          rotate_left
          · (intro wS hSw; (try dsimp only at hSw); go_simp; try (with_reducible rfl))
          try simp only [Act.put, List.setIfInBounds_toArray, List.set_cons_zero, List.set_cons_succ]
          refine RegH.takeH (i := 4) (v := ?_) rfl (by kernel_rfl) (by kernel_rfl) (by kernel_rfl) (fun _ _ _ h => h) (Or.inl ⟨by rfl, ?_⟩) (by assumption) ?_
          rotate_left
          · (intro wS hSw; (try dsimp only at hSw); go_simp; try (with_reducible rfl))
          try simp only [Act.put, List.setIfInBounds_toArray, List.set_cons_zero, List.set_cons_succ]
          refine RegH.takeH (i := 5) (v := ?_) rfl (by kernel_rfl) (by kernel_rfl) (by kernel_rfl) (fun _ _ _ h => h) (Or.inl ⟨by rfl, ?_⟩) (by assumption) ?_
          rotate_left
          · (intro wS hSw; (try dsimp only at hSw); go_simp; try (with_reducible rfl))
          try simp only [Act.put, List.setIfInBounds_toArray, List.set_cons_zero, List.set_cons_succ]
          refine RegH.takeH (i := 6) (v := ?_) rfl (by kernel_rfl) (by kernel_rfl) (by kernel_rfl) (fun _ _ _ h => h) (Or.inl ⟨by rfl, ?_⟩) (by assumption) ?_
          rotate_left
          · (intro wS hSw; (try dsimp only at hSw); go_simp; try (with_reducible rfl))
          try simp only [Act.put, List.setIfInBounds_toArray, List.set_cons_zero, List.set_cons_succ]
          refine RegH.takeH (i := 7) rfl (by kernel_rfl) (by kernel_rfl) (by kernel_rfl) (fun _ _ _ h => h) (Or.inr ⟨by rfl, rfl⟩) (by assumption) ?_
          try simp only [Act.put, List.setIfInBounds_toArray, List.set_cons_zero, List.set_cons_succ]
          refine RegH.takeH (i := 8) rfl (by kernel_rfl) (by kernel_rfl) (by kernel_rfl) (fun _ _ _ h => h) (Or.inr ⟨by rfl, rfl⟩) (by assumption) ?_
          try simp only [Act.put, List.setIfInBounds_toArray, List.set_cons_zero, List.set_cons_succ]
          refine RegH.takeH (i := 9) rfl (by kernel_rfl) (by kernel_rfl) (by kernel_rfl) (fun _ _ _ h => h) (Or.inr ⟨by rfl, rfl⟩) (by assumption) ?_
          try simp only [Act.put, List.setIfInBounds_toArray, List.set_cons_zero, List.set_cons_succ]
          refine RegH.takeH (i := 10) rfl (by kernel_rfl) (by kernel_rfl) (by kernel_rfl) (fun _ _ _ h => h) (Or.inr ⟨by rfl, rfl⟩) (by assumption) ?_
          try simp only [Act.put, List.setIfInBounds_toArray, List.set_cons_zero, List.set_cons_succ]
          refine RegH.takeH (i := 11) rfl (by kernel_rfl) (by kernel_rfl) (by kernel_rfl) (fun _ _ _ h => h) (Or.inr ⟨by rfl, rfl⟩) (by assumption) ?_
          try simp only [Act.put, List.setIfInBounds_toArray, List.set_cons_zero, List.set_cons_succ]
          refine RegH.takeH (i := 12) rfl (by kernel_rfl) (by kernel_rfl) (by kernel_rfl) (fun _ _ _ h => h) (Or.inr ⟨by rfl, rfl⟩) (by assumption) ?_
          try simp only [Act.put, List.setIfInBounds_toArray, List.set_cons_zero, List.set_cons_succ]
          refine RegH.takeH (i := 13) rfl (by kernel_rfl) (by kernel_rfl) (by kernel_rfl) (fun _ _ _ h => h) (Or.inr ⟨by rfl, rfl⟩) (by assumption) ?_
          try simp only [Act.put, List.setIfInBounds_toArray, List.set_cons_zero, List.set_cons_succ]
          refine RegH.takeH (i := 14) rfl (by kernel_rfl) (by kernel_rfl) (by kernel_rfl) (fun _ _ _ h => h) (Or.inr ⟨by rfl, rfl⟩) (by assumption) ?_
          try simp only [Act.put, List.setIfInBounds_toArray, List.set_cons_zero, List.set_cons_succ]
          refine RegH.takeH (i := 15) rfl (by kernel_rfl) (by kernel_rfl) (by kernel_rfl) (fun _ _ _ h => h) (Or.inr ⟨by rfl, rfl⟩) (by assumption) ?_
          try simp only [Act.put, List.setIfInBounds_toArray, List.set_cons_zero, List.set_cons_succ]
          refine RegH.takeH (i := 16) (v := ?_) rfl (by kernel_rfl) (by kernel_rfl) (by kernel_rfl) (fun _ _ _ h => h) (Or.inl ⟨by rfl, ?_⟩) (by assumption) ?_
          rotate_left
          · (intro wS hSw; (try dsimp only at hSw); go_simp; try (with_reducible rfl))
          try simp only [Act.put, List.setIfInBounds_toArray, List.set_cons_zero, List.set_cons_succ]
          refine RegH.takeH (i := 17) (v := ?_) rfl (by kernel_rfl) (by kernel_rfl) (by kernel_rfl) (fun _ _ _ h => h) (Or.inl ⟨by rfl, ?_⟩) (by assumption) ?_
          rotate_left
          · (intro wS hSw; (try dsimp only at hSw); go_simp; try (with_reducible rfl))
          try simp only [Act.put, List.setIfInBounds_toArray, List.set_cons_zero, List.set_cons_succ]
          refine wpAnyH_done (by kernel_rfl) ?_ _
          go_wp2_with fail
          go_roundw
          case rel => exact ⟨k + 1, by omega, by go_num, HN1.out, HN2.out, below_then HWR.out (below_then (show Below wr.heap.size wr w1 from HBG.out) (show Below w1.heap.size w1 wq from kq))⟩
          case measure => simp [intOf]; omega
        · have hg1 : ((0 : Int) < (k : Int)) = True := by simp only [eq_iff_iff, iff_true]; omega
          have hg2 : (0 < k) = True := by simp only [eq_iff_iff, iff_true]; omega
          obtain ⟨j, hj⟩ : ∃ j, k = j + 1 := ⟨k - 1, by omega⟩
          have hjl : j < l.length := by omega
          obtain ⟨b', off', cap'', vs, e1, _, _, hat, hu⟩ := Cd.sl_at (HR1.out w1 (below_then HBW.out HBG.out)) hjl
          injection e1 with e1 g1 g2
          injection e1 with e1
          injection e1 with e1 e2
          subst e1 e2
          clear g1 g2
          obtain ⟨x', y', z', rfl⟩ := len_list (tabC.len hu)
          have q0 := hat 0 (by simp)
          have q1 := hat 1 (by simp)
          have q2 := hat 2 (by simp)
          simp only [List.getElem_cons_zero, List.getElem_cons_succ, Nat.add_zero, show tabC.n = 3 from rfl] at q0 q1 q2
          obtain ⟨nj, hnj⟩ : ∃ nj, nj = (l[j]).1 := ⟨_, rfl⟩
          obtain rfl : x' = .string nj := by rw [hnj]; exact name_cell hu
          obtain ⟨rj, hrj⟩ : ∃ rj, rj = (l[j]).2.1 := ⟨_, rfl⟩
          obtain ⟨qj, hqj⟩ : ∃ qj, qj = (l[j]).2.2.length := ⟨_, rfl⟩
          obtain ⟨aj, cj, hsh⟩ : ∃ a c, [y', z'] = [.int .i64 rj, .slice a qj c] := by
            obtain ⟨u, e, _, _, h3⟩ := tab_cells hu
            obtain ⟨a, c, rfl, _⟩ := rows_form h3
            injection e with _ e
            exact ⟨a, c, by rw [hrj, hqj]; exact e⟩
          injection hsh with hy hsh
          injection hsh with hzz
          subst hy hzz
          have HQ := Lib.hid (And.intro q0 (And.intro q1 q2))
          have HNJ := Lib.hid (show nj = (l[j]).1 from hnj)
          have j1 : (k : Int) - 1 = (j : Int) := by omega
          have j2 : IntKind.i64.wrap (j : Int) = (j : Int) := by rw [IntKind.wrap_i64]; omega
          have j3 : (0 : Int) ≤ (j : Int) := by omega
          have j4 : (j : Int) < (l.length : Int) := by omega
          have HJ := Lib.hid hj
          have q0' : w1.drew.cell? ⟨b, off + j * 3, none⟩ = some (.string nj) := q0
          have q1' : w1.drew.cell? ⟨b, off + j * 3 + 1, none⟩ = some (.int .i64 rj) := q1
          have q2' : w1.drew.cell? ⟨b, off + j * 3 + 2, none⟩ = some (.slice aj qj cj) := q2
          clear hat hu hk0 hnj hj hrj hqj
          cases hlt2 : ltB nj nk
          · have HZ := Lib.hid (show dbOk l = false from dbOk_no.2 fun q => by have e := HJ.out; subst e; have := asc_at q.2.2 hlt; rw [← HNJ.out, ← HNK.out, hlt2] at this; cases this)
            obtain ⟨c, hc, hc0⟩ : ∃ c, cmpN nj nk = c ∧ (0 ≤ c) = True := ⟨_, rfl, by simp only [eq_iff_iff, iff_true]; have := cmpN_lt nj nk; rw [hlt2] at this; simp at this; exact this⟩
            have HCN := Lib.hid hc
            clear hc
            refine wp_region_held_drew (S := fun wx => wx.cell? ⟨w.heap.size, 0, none⟩ = some (.slice (some ⟨b, off, none⟩) l.length cap1) ∧ wx.cell? ⟨wr.heap.size, 0, none⟩ = some (.string nk) ∧ wx.cell? ⟨wr.heap.size, 1, none⟩ = some (.int .i64 rk) ∧ wx.cell? ⟨wr.heap.size, 2, none⟩ = some (.slice ak qk ck) ∧ wx.cell? ⟨b, off + j * 3, none⟩ = some (.string nj) ∧ wx.cell? ⟨b, off + j * 3 + 1, none⟩ = some (.int .i64 rj) ∧ wx.cell? ⟨b, off + j * 3 + 2, none⟩ = some (.slice aj qj cj) ∧ LaterD w1 wx) (by kernel_rfl) ?_ (fun hHeld => ?_)
            · (refine ⟨?_, ?_, ?_, ?_, ?_, ?_, ?_, ?_⟩ <;> first | assumption | (simp [*]; done))
            refine RegH.takeH (i := 0) (v := ?_) rfl (by kernel_rfl) (by kernel_rfl) (by kernel_rfl) (fun _ _ _ h => h) (Or.inl ⟨by rfl, ?_⟩) (by assumption) ?_
            rotate_left
            · (intro wS hSw; (try dsimp only at hSw); go_simp; try (with_reducible rfl))
            try simp only [Act.put, List.setIfInBounds_toArray, List.set_cons_zero, List.set_cons_succ]
            refine RegH.consH (i := 1) rfl (by kernel_rfl) (fun K hK => ?_)
            go_simp
            go_at_call 78
            refine (HE.out _ kw).mono ?_
            rintro e wq ⟨rfl, hbq⟩
            have kq : LaterD w1 wq := below_then (show Below w1.heap.size w1 w1.drew from kk) hbq
            have n0 := (Below.cell kq (p := ⟨w.heap.size, 0, none⟩) HGL.out.1).trans HG.out.1
            have n1 := (Below.cell kq (p := ⟨wr.heap.size, 0, none⟩) HGL.out.2.1).trans HG.out.2.1
            have n2 := (Below.cell kq (p := ⟨wr.heap.size, 1, none⟩) HGL.out.2.1).trans HG.out.2.2.1
            have n3 := (Below.cell kq (p := ⟨wr.heap.size, 2, none⟩) HGL.out.2.1).trans HG.out.2.2.2
            have n4 := (Below.cell kq (p := ⟨b, off + j * 3, none⟩) HGL.out.2.2).trans HQ.out.1
            have n5 := (Below.cell kq (p := ⟨b, off + j * 3 + 1, none⟩) HGL.out.2.2).trans HQ.out.2.1
            have n6 := (Below.cell kq (p := ⟨b, off + j * 3 + 2, none⟩) HGL.out.2.2).trans HQ.out.2.2
            clear hbq
            go_wp2_with fail
            refine hK.out _ _ ?_ (fun hHeld => ?_)
            · (refine ⟨?_, ?_, ?_, ?_, ?_, ?_, ?_, ?_⟩ <;> first | assumption | (simp [*]; done))
            clear hK K
            try simp only [Act.put, List.setIfInBounds_toArray, List.set_cons_zero, List.set_cons_succ]
            refine RegH.takeH (i := 2) (v := ?_) rfl (by kernel_rfl) (by kernel_rfl) (by kernel_rfl) (fun _ _ _ h => h) (Or.inl ⟨by rfl, ?_⟩) (by assumption) ?_
            rotate_left
            · (intro wS hSw; (try dsimp only at hSw); go_simp; try (with_reducible rfl))
            try simp only [Act.put, List.setIfInBounds_toArray, List.set_cons_zero, List.set_cons_succ]
            refine RegH.takeH (i := 3) (v := ?_) rfl (by kernel_rfl) (by kernel_rfl) (by kernel_rfl) (fun _ _ _ h => h) (Or.inl ⟨by rfl, ?_⟩) (by assumption) ?_
            rotate_left
            · (intro wS hSw; (try dsimp only at hSw); go_simp; try (with_reducible rfl))
            try simp only [Act.put, List.setIfInBounds_toArray, List.set_cons_zero, List.set_cons_succ]
            refine RegH.takeH (i := 4) (v := ?_) rfl (by kernel_rfl) (by kernel_rfl) (by kernel_rfl) (fun _ _ _ h => h) (Or.inl ⟨by rfl, ?_⟩) (by assumption) ?_
            rotate_left
            · (intro wS hSw; (try dsimp only at hSw); go_simp; try (with_reducible rfl))
            try simp only [Act.put, List.setIfInBounds_toArray, List.set_cons_zero, List.set_cons_succ]
            refine RegH.takeH (i := 5) (v := ?_) rfl (by kernel_rfl) (by kernel_rfl) (by kernel_rfl) (fun _ _ _ h => h) (Or.inl ⟨by rfl, ?_⟩) (by assumption) ?_
            rotate_left
            · (intro wS hSw; (try dsimp only at hSw); go_simp; try (with_reducible rfl))
            try simp only [Act.put, List.setIfInBounds_toArray, List.set_cons_zero, List.set_cons_succ]
            refine RegH.takeH (i := 6) (v := ?_) rfl (by kernel_rfl) (by kernel_rfl) (by kernel_rfl) (fun _ _ _ h => h) (Or.inl ⟨by rfl, ?_⟩) (by assumption) ?_
            rotate_left
            · (intro wS hSw; (try dsimp only at hSw); go_simp; try (with_reducible rfl))
            try simp only [Act.put, List.setIfInBounds_toArray, List.set_cons_zero, List.set_cons_succ]
            refine RegH.takeH (i := 7) (v := ?_) rfl (by kernel_rfl) (by kernel_rfl) (by kernel_rfl) (fun _ _ _ h => h) (Or.inl ⟨by rfl, ?_⟩) (by assumption) ?_
            rotate_left
            · (intro wS hSw; (try dsimp only at hSw); go_simp; try (with_reducible rfl))
            try simp only [Act.put, List.setIfInBounds_toArray, List.set_cons_zero, List.set_cons_succ]
            refine RegH.takeH (i := 8) (v := ?_) rfl (by kernel_rfl) (by kernel_rfl) (by kernel_rfl) (fun _ _ _ h => h) (Or.inl ⟨by rfl, ?_⟩) (by assumption) ?_
            rotate_left
            · (intro wS hSw; (try dsimp only at hSw); go_simp; try (with_reducible rfl))
            try simp only [Act.put, List.setIfInBounds_toArray, List.set_cons_zero, List.set_cons_succ]
            refine RegH.takeH (i := 9) (v := ?_) rfl (by kernel_rfl) (by kernel_rfl) (by kernel_rfl) (fun _ _ _ h => h) (Or.inl ⟨by rfl, ?_⟩) (by assumption) ?_
            rotate_left
            · (intro wS hSw; (try dsimp only at hSw); go_simp; try (with_reducible rfl))
            try simp only [Act.put, List.setIfInBounds_toArray, List.set_cons_zero, List.set_cons_succ]
            refine RegH.takeH (i := 10) (v := ?_) rfl (by kernel_rfl) (by kernel_rfl) (by kernel_rfl) (fun _ _ _ h => h) (Or.inl ⟨by rfl, ?_⟩) (by assumption) ?_
            rotate_left
            · (intro wS hSw; (try dsimp only at hSw); go_simp; try (with_reducible rfl))
            try simp only [Act.put, List.setIfInBounds_toArray, List.set_cons_zero, List.set_cons_succ]
            refine RegH.takeH (i := 11) (v := ?_) rfl (by kernel_rfl) (by kernel_rfl) (by kernel_rfl) (fun _ _ _ h => h) (Or.inl ⟨by rfl, ?_⟩) (by assumption) ?_
            rotate_left
            · (intro wS hSw; (try dsimp only at hSw); go_simp; try (with_reducible rfl))
            try simp only [Act.put, List.setIfInBounds_toArray, List.set_cons_zero, List.set_cons_succ]
            refine RegH.takeH (i := 12) (v := ?_) rfl (by kernel_rfl) (by kernel_rfl) (by kernel_rfl) (fun _ _ _ h => h) (Or.inl ⟨by rfl, ?_⟩) (by assumption) ?_
            rotate_left
            · (intro wS hSw; (try dsimp only at hSw); go_simp; try (with_reducible rfl))
            try simp only [Act.put, List.setIfInBounds_toArray, List.set_cons_zero, List.set_cons_succ]
            refine RegH.takeH (i := 13) (v := ?_) rfl (by kernel_rfl) (by kernel_rfl) (by kernel_rfl) (fun _ _ _ h => h) (Or.inl ⟨by rfl, ?_⟩) (by assumption) ?_
            rotate_left
            · (intro wS hSw; (try dsimp only at hSw); go_simp; try (with_reducible rfl))
            try simp only [Act.put, List.setIfInBounds_toArray, List.set_cons_zero, List.set_cons_succ]
            refine RegH.consH (i := 14) rfl (by kernel_rfl) (fun K hK => ?_)
            go_simp
            go_at_call 108
            refine (cmp_names nj nk _ _ _ _ _).mono ?_
            rintro e wp ⟨rfl, os, hwp⟩
            have kp : LaterD w1 wp := below_then (show Below w1.heap.size w1 wq from kq) (by rw [hwp]; exact below_grow _ _)
            have n0 := (Below.cell kp (p := ⟨w.heap.size, 0, none⟩) HGL.out.1).trans HG.out.1
            have n1 := (Below.cell kp (p := ⟨wr.heap.size, 0, none⟩) HGL.out.2.1).trans HG.out.2.1
            have n2 := (Below.cell kp (p := ⟨wr.heap.size, 1, none⟩) HGL.out.2.1).trans HG.out.2.2.1
            have n3 := (Below.cell kp (p := ⟨wr.heap.size, 2, none⟩) HGL.out.2.1).trans HG.out.2.2.2
            have n4 := (Below.cell kp (p := ⟨b, off + j * 3, none⟩) HGL.out.2.2).trans HQ.out.1
            have n5 := (Below.cell kp (p := ⟨b, off + j * 3 + 1, none⟩) HGL.out.2.2).trans HQ.out.2.1
            have n6 := (Below.cell kp (p := ⟨b, off + j * 3 + 2, none⟩) HGL.out.2.2).trans HQ.out.2.2
            clear hwp
            rw [HCN.out]
            go_wp2_with fail
            refine hK.out _ _ ?_ (fun hHeld => ?_)
            · (refine ⟨?_, ?_, ?_, ?_, ?_, ?_, ?_, ?_⟩ <;> first | assumption | (simp [*]; done))
            clear hK K
            try simp only [Act.put, List.setIfInBounds_toArray, List.set_cons_zero, List.set_cons_succ]
            refine RegH.takeH (i := 15) (v := ?_) rfl (by kernel_rfl) (by kernel_rfl) (by kernel_rfl) (fun _ _ _ h => h) (Or.inl ⟨by rfl, ?_⟩) (by assumption) ?_
            rotate_left
            · (intro wS hSw; (try dsimp only at hSw); go_simp; try (with_reducible rfl))
            try simp only [Act.put, List.setIfInBounds_toArray, List.set_cons_zero, List.set_cons_succ]
            refine RegH.takeH (i := 16) (v := ?_) rfl (by kernel_rfl) (by kernel_rfl) (by kernel_rfl) (fun _ _ _ h => h) (Or.inl ⟨by rfl, ?_⟩) (by assumption) ?_
            rotate_left
            · (intro wS hSw; (try dsimp only at hSw); go_simp; try (with_reducible rfl))
            try simp only [Act.put, List.setIfInBounds_toArray, List.set_cons_zero, List.set_cons_succ]
            refine RegH.takeH (i := 17) (v := ?_) rfl (by kernel_rfl) (by kernel_rfl) (by kernel_rfl) (fun _ _ _ h => h) (Or.inl ⟨by rfl, ?_⟩) (by assumption) ?_
            rotate_left
            · (intro wS hSw; (try dsimp only at hSw); go_simp; try (with_reducible rfl))
            try simp only [Act.put, List.setIfInBounds_toArray, List.set_cons_zero, List.set_cons_succ]
            refine wpAnyH_done (by kernel_rfl) ?_ _
            go_wp2_with fail
            go_ret
            exact ⟨DbSpec.ret_b HZ.out.symm, below_then HBW.out (below_then (show Below wr.heap.size wr w1 from HBG.out) (show Below w1.heap.size w1 wp from kp))⟩
          · have HN2 := Lib.hid (asc_more HAS.out hlt (fun i e hi => by have e2 := HJ.out; obtain rfl : i = j := (by omega); rw [← HNJ.out, ← HNK.out]; exact hlt2))
            obtain ⟨c, hc, hc0⟩ : ∃ c, cmpN nj nk = c ∧ (0 ≤ c) = False := ⟨_, rfl, by simp only [eq_iff_iff, iff_false]; have := (cmpN_lt nj nk).2 hlt2; omega⟩
            have HCN := Lib.hid hc
            clear hc
            refine wp_region_held_drew (S := fun wx => wx.cell? ⟨w.heap.size, 0, none⟩ = some (.slice (some ⟨b, off, none⟩) l.length cap1) ∧ wx.cell? ⟨wr.heap.size, 0, none⟩ = some (.string nk) ∧ wx.cell? ⟨wr.heap.size, 1, none⟩ = some (.int .i64 rk) ∧ wx.cell? ⟨wr.heap.size, 2, none⟩ = some (.slice ak qk ck) ∧ wx.cell? ⟨b, off + j * 3, none⟩ = some (.string nj) ∧ wx.cell? ⟨b, off + j * 3 + 1, none⟩ = some (.int .i64 rj) ∧ wx.cell? ⟨b, off + j * 3 + 2, none⟩ = some (.slice aj qj cj) ∧ LaterD w1 wx) (by kernel_rfl) ?_ (fun hHeld => ?_)
            · (refine ⟨?_, ?_, ?_, ?_, ?_, ?_, ?_, ?_⟩ <;> first | assumption | (simp [*]; done))
            refine RegH.takeH (i := 0) (v := ?_) rfl (by kernel_rfl) (by kernel_rfl) (by kernel_rfl) (fun _ _ _ h => h) (Or.inl ⟨by rfl, ?_⟩) (by assumption) ?_
            rotate_left
            · (intro wS hSw; (try dsimp only at hSw); go_simp; try (with_reducible rfl))
            try simp only [Act.put, List.setIfInBounds_toArray, List.set_cons_zero, List.set_cons_succ]
            refine RegH.consH (i := 1) rfl (by kernel_rfl) (fun K hK => ?_)
            go_simp
            go_at_call 78
            refine (HE.out _ kw).mono ?_
            rintro e wq ⟨rfl, hbq⟩
            have kq : LaterD w1 wq := below_then (show Below w1.heap.size w1 w1.drew from kk) hbq
            have n0 := (Below.cell kq (p := ⟨w.heap.size, 0, none⟩) HGL.out.1).trans HG.out.1
            have n1 := (Below.cell kq (p := ⟨wr.heap.size, 0, none⟩) HGL.out.2.1).trans HG.out.2.1
            have n2 := (Below.cell kq (p := ⟨wr.heap.size, 1, none⟩) HGL.out.2.1).trans HG.out.2.2.1
            have n3 := (Below.cell kq (p := ⟨wr.heap.size, 2, none⟩) HGL.out.2.1).trans HG.out.2.2.2
            have n4 := (Below.cell kq (p := ⟨b, off + j * 3, none⟩) HGL.out.2.2).trans HQ.out.1
            have n5 := (Below.cell kq (p := ⟨b, off + j * 3 + 1, none⟩) HGL.out.2.2).trans HQ.out.2.1
            have n6 := (Below.cell kq (p := ⟨b, off + j * 3 + 2, none⟩) HGL.out.2.2).trans HQ.out.2.2
            clear hbq
            go_wp2_with fail
            refine hK.out _ _ ?_ (fun hHeld => ?_)
            · (refine ⟨?_, ?_, ?_, ?_, ?_, ?_, ?_, ?_⟩ <;> first | assumption | (simp [*]; done))
            clear hK K
            try simp only [Act.put, List.setIfInBounds_toArray, List.set_cons_zero, List.set_cons_succ]
            refine RegH.takeH (i := 2) (v := ?_) rfl (by kernel_rfl) (by kernel_rfl) (by kernel_rfl) (fun _ _ _ h => h) (Or.inl ⟨by rfl, ?_⟩) (by assumption) ?_
            rotate_left
            · (intro wS hSw; (try dsimp only at hSw); go_simp; try (with_reducible rfl))
            try simp only [Act.put, List.setIfInBounds_toArray, List.set_cons_zero, List.set_cons_succ]
            refine RegH.takeH (i := 3) (v := ?_) rfl (by kernel_rfl) (by kernel_rfl) (by kernel_rfl) (fun _ _ _ h => h) (Or.inl ⟨by rfl, ?_⟩) (by assumption) ?_
            rotate_left
            · (intro wS hSw; (try dsimp only at hSw); go_simp; try (with_reducible rfl))
            try simp only [Act.put, List.setIfInBounds_toArray, List.set_cons_zero, List.set_cons_succ]
            refine RegH.takeH (i := 4) (v := ?_) rfl (by kernel_rfl) (by kernel_rfl) (by kernel_rfl) (fun _ _ _ h => h) (Or.inl ⟨by rfl, ?_⟩) (by assumption) ?_
            rotate_left
            · (intro wS hSw; (try dsimp only at hSw); go_simp; try (with_reducible rfl))
            try simp only [Act.put, List.setIfInBounds_toArray, List.set_cons_zero, List.set_cons_succ]
            refine RegH.takeH (i := 5) (v := ?_) rfl (by kernel_rfl) (by kernel_rfl) (by kernel_rfl) (fun _ _ _ h => h) (Or.inl ⟨by rfl, ?_⟩) (by assumption) ?_
            rotate_left
            · (intro wS hSw; (try dsimp only at hSw); go_simp; try (with_reducible rfl))
            try simp only [Act.put, List.setIfInBounds_toArray, List.set_cons_zero, List.set_cons_succ]
            refine RegH.takeH (i := 6) (v := ?_) rfl (by kernel_rfl) (by kernel_rfl) (by kernel_rfl) (fun _ _ _ h => h) (Or.inl ⟨by rfl, ?_⟩) (by assumption) ?_
            rotate_left
            · (intro wS hSw; (try dsimp only at hSw); go_simp; try (with_reducible rfl))
            try simp only [Act.put, List.setIfInBounds_toArray, List.set_cons_zero, List.set_cons_succ]
            refine RegH.takeH (i := 7) (v := ?_) rfl (by kernel_rfl) (by kernel_rfl) (by kernel_rfl) (fun _ _ _ h => h) (Or.inl ⟨by rfl, ?_⟩) (by assumption) ?_
            rotate_left
            · (intro wS hSw; (try dsimp only at hSw); go_simp; try (with_reducible rfl))
            try simp only [Act.put, List.setIfInBounds_toArray, List.set_cons_zero, List.set_cons_succ]
            refine RegH.takeH (i := 8) (v := ?_) rfl (by kernel_rfl) (by kernel_rfl) (by kernel_rfl) (fun _ _ _ h => h) (Or.inl ⟨by rfl, ?_⟩) (by assumption) ?_
            rotate_left
            · (intro wS hSw; (try dsimp only at hSw); go_simp; try (with_reducible rfl))
            try simp only [Act.put, List.setIfInBounds_toArray, List.set_cons_zero, List.set_cons_succ]
            refine RegH.takeH (i := 9) (v := ?_) rfl (by kernel_rfl) (by kernel_rfl) (by kernel_rfl) (fun _ _ _ h => h) (Or.inl ⟨by rfl, ?_⟩) (by assumption) ?_
            rotate_left
            · (intro wS hSw; (try dsimp only at hSw); go_simp; try (with_reducible rfl))
            try simp only [Act.put, List.setIfInBounds_toArray, List.set_cons_zero, List.set_cons_succ]
            refine RegH.takeH (i := 10) (v := ?_) rfl (by kernel_rfl) (by kernel_rfl) (by kernel_rfl) (fun _ _ _ h => h) (Or.inl ⟨by rfl, ?_⟩) (by assumption) ?_
            rotate_left
            · (intro wS hSw; (try dsimp only at hSw); go_simp; try (with_reducible rfl))
            try simp only [Act.put, List.setIfInBounds_toArray, List.set_cons_zero, List.set_cons_succ]
            refine RegH.takeH (i := 11) (v := ?_) rfl (by kernel_rfl) (by kernel_rfl) (by kernel_rfl) (fun _ _ _ h => h) (Or.inl ⟨by rfl, ?_⟩) (by assumption) ?_
            rotate_left
            · (intro wS hSw; (try dsimp only at hSw); go_simp; try (with_reducible rfl))
            try simp only [Act.put, List.setIfInBounds_toArray, List.set_cons_zero, List.set_cons_succ]
            refine RegH.takeH (i := 12) (v := ?_) rfl (by kernel_rfl) (by kernel_rfl) (by kernel_rfl) (fun _ _ _ h => h) (Or.inl ⟨by rfl, ?_⟩) (by assumption) ?_
            rotate_left
            · (intro wS hSw; (try dsimp only at hSw); go_simp; try (with_reducible rfl))
            try simp only [Act.put, List.setIfInBounds_toArray, List.set_cons_zero, List.set_cons_succ]
            refine RegH.takeH (i := 13) (v := ?_) rfl (by kernel_rfl) (by kernel_rfl) (by kernel_rfl) (fun _ _ _ h => h) (Or.inl ⟨by rfl, ?_⟩) (by assumption) ?_
            rotate_left
            · (intro wS hSw; (try dsimp only at hSw); go_simp; try (with_reducible rfl))
            try simp only [Act.put, List.setIfInBounds_toArray, List.set_cons_zero, List.set_cons_succ]
            refine RegH.consH (i := 14) rfl (by kernel_rfl) (fun K hK => ?_)
            go_simp
            go_at_call 108
            refine (cmp_names nj nk _ _ _ _ _).mono ?_
            rintro e wp ⟨rfl, os, hwp⟩
            have kp : LaterD w1 wp := below_then (show Below w1.heap.size w1 wq from kq) (by rw [hwp]; exact below_grow _ _)
            have n0 := (Below.cell kp (p := ⟨w.heap.size, 0, none⟩) HGL.out.1).trans HG.out.1
            have n1 := (Below.cell kp (p := ⟨wr.heap.size, 0, none⟩) HGL.out.2.1).trans HG.out.2.1
            have n2 := (Below.cell kp (p := ⟨wr.heap.size, 1, none⟩) HGL.out.2.1).trans HG.out.2.2.1
            have n3 := (Below.cell kp (p := ⟨wr.heap.size, 2, none⟩) HGL.out.2.1).trans HG.out.2.2.2
            have n4 := (Below.cell kp (p := ⟨b, off + j * 3, none⟩) HGL.out.2.2).trans HQ.out.1
            have n5 := (Below.cell kp (p := ⟨b, off + j * 3 + 1, none⟩) HGL.out.2.2).trans HQ.out.2.1
            have n6 := (Below.cell kp (p := ⟨b, off + j * 3 + 2, none⟩) HGL.out.2.2).trans HQ.out.2.2
            clear hwp
            rw [HCN.out]
            go_wp2_with fail
            refine hK.out _ _ ?_ (fun hHeld => ?_)
            · (refine ⟨?_, ?_, ?_, ?_, ?_, ?_, ?_, ?_⟩ <;> first | assumption | (simp [*]; done))
            clear hK K
            try simp only [Act.put, List.setIfInBounds_toArray, List.set_cons_zero, List.set_cons_succ]
            refine RegH.takeH (i := 15) (v := ?_) rfl (by kernel_rfl) (by kernel_rfl) (by kernel_rfl) (fun _ _ _ h => h) (Or.inl ⟨by rfl, ?_⟩) (by assumption) ?_
            rotate_left
            · (intro wS hSw; (try dsimp only at hSw); go_simp; try (with_reducible rfl))
            try simp only [Act.put, List.setIfInBounds_toArray, List.set_cons_zero, List.set_cons_succ]
            refine RegH.takeH (i := 16) (v := ?_) rfl (by kernel_rfl) (by kernel_rfl) (by kernel_rfl) (fun _ _ _ h => h) (Or.inl ⟨by rfl, ?_⟩) (by assumption) ?_
            rotate_left
            · (intro wS hSw; (try dsimp only at hSw); go_simp; try (with_reducible rfl))
            try simp only [Act.put, List.setIfInBounds_toArray, List.set_cons_zero, List.set_cons_succ]
            refine RegH.takeH (i := 17) (v := ?_) rfl (by kernel_rfl) (by kernel_rfl) (by kernel_rfl) (fun _ _ _ h => h) (Or.inl ⟨by rfl, ?_⟩) (by assumption) ?_
            rotate_left
            · (intro wS hSw; (try dsimp only at hSw); go_simp; try (with_reducible rfl))
            try simp only [Act.put, List.setIfInBounds_toArray, List.set_cons_zero, List.set_cons_succ]
            refine wpAnyH_done (by kernel_rfl) ?_ _
            go_wp2_with fail
            go_roundw
            case rel => exact ⟨k + 1, by omega, by go_num, HN1.out, HN2.out, below_then HWR.out (below_then (show Below wr.heap.size wr w1 from HBG.out) (show Below w1.heap.size w1 wp from kp))⟩
            case measure => simp [intOf]; omega
    · have ek : k = l.length := by omega
      subst ek
      have HP := Lib.hid (show dbOk l = true from by
        have h1 := HOK.out
        have h2 := HAS.out
        rw [List.take_length] at h1 h2
        exact dbOk_iff.2 ⟨H6.out, h1, h2⟩)
      go_wp2_with fail
      go_ret
      exact ⟨DbSpec.ret_b HP.out.symm, HBW.out⟩
end Go.Proofs.YtlngbdokgcdeeaaGreat.DbImp

namespace Go.Proofs.YtlngbdokgcdeeaaGreat.DbImp
open Go Go.RowKit Byt Ints IntsLaw Cd Rows2 Tab SlMath TabOpen TabElem SlTable Db TabSpec DbMath TabImp
open DbSpec (LaterD drewD row1 rows_cell cntRows_succ cntRows_take cntRows_le name_cell sameT_iff take_ne take_eq)

/-- The cells of an element. -/
theorem elem_form {w : World} {S : Nat → Prop} {us : List Value} {T : T3} (h : tabC.rd w S us T) : ∃ a c, us = [.string T.1, .int .i64 T.2.1, .slice a T.2.2.length c] := by
  obtain ⟨u, rfl, _, _, h3⟩ := tab_cells h
  obtain ⟨a, c, rfl, _⟩ := rows_form h3
  exact ⟨a, c, rfl⟩

theorem eqt_elem_i (us vs : List Value) (T U : T3) (S S2 : Nat → Prop) (w : World) (hu : tabC.rd w S us T) (hv : tabC.rd w S2 vs U) :
    Calls Tryz.prog 47 #[.agg us.toArray, .agg vs.toArray] w fun e w' => e = .returned (.bool (decide (T = U))) ∧ Below w.heap.size w w' := by
  obtain ⟨u, rfl, _, _, h3⟩ := tab_cells hu
  obtain ⟨u2, rfl, _, _, h4⟩ := tab_cells hv
  have h := impl_equal T.1 U.1 T.2.1 U.2.1 u u2 T.2.2 U.2.2 S S2 w h3 h4
  rw [sameT_iff] at h
  exact h
set_option maxRecDepth 100000 in
set_option maxHeartbeats 1600000 in
theorem equal_func (u1 u2 : Value) (l1 l2 : List T3) (S1 S2 : Nat → Prop) (w : World) (h1 : tabsC.rd w S1 [u1] l1) (h2 : tabsC.rd w S2 [u2] l2) :
    Calls Tryz.prog 46 #[u1, u2, .func (.func 47) #[] #[]] w fun e w' => e = .returned (.bool (decide (l1 = l2))) ∧ Below w.heap.size w w' := by
  have HR1 := Lib.hid (fun w' (hb : Below w.heap.size w w') => Cd.later h1 hb)
  have HR2 := Lib.hid (fun w' (hb : Below w.heap.size w w') => Cd.later h2 hb)
  obtain ⟨a1, cap1, rfl, hl1⟩ := Cd.sl_form h1
  obtain ⟨a2, cap2, rfl, hl2⟩ := Cd.sl_form h2
  clear h1 h2
  by_cases hlen : l1.length = l2.length
  case neg =>
    have HZ := Lib.hid (show decide (l1 = l2) = false from decide_eq_false fun q => hlen (by rw [q]))
    have ht : ((l1.length : Int) != (l2.length : Int)) = true := by rw [bne_iff_ne]; omega
    go_enter Tryz.func46, Tryz.ntmps46
    go_wp2_with fail
    go_ret
    exact ⟨DbSpec.ret_b HZ.out.symm, Below.refl _ _⟩
  have HLEN := Lib.hid hlen
  rw [hlen]
  clear hlen
  go_enter Tryz.func46, Tryz.ntmps46
  go_wp2_with fail
  go_loopw [17] (fun i wr => ∃ k : Nat, k ≤ l2.length ∧ i = .int .i64 k ∧ l1.take k = l2.take k ∧ Below w.heap.size w wr) (fun i _ => l2.length - (intOf i).toNat)
  case atStart => exact ⟨0, Nat.zero_le _, rfl, by simp, Below.refl _ _⟩
  case round =>
    obtain ⟨k, hk, rfl, htk, hb⟩ := hrel
    have HTK := Lib.hid htk
    have HBW := Lib.hid hb
    clear htk
    by_cases hlt : k < l2.length
    · have hlt1 : k < l1.length := by rw [HLEN.out]; exact hlt
      obtain ⟨b, off, cap', us, e1, _, hbB, hat, hu⟩ := Cd.sl_at (HR1.out wr HBW.out) hlt1
      rw [HLEN.out] at e1
      injection e1 with e1 e2 e3
      subst e1 e3
      obtain ⟨az, cz, rfl⟩ := elem_form hu
      have p0 := hat 0 (by simp)
      have p1 := hat 1 (by simp)
      have p2 := hat 2 (by simp)
      obtain ⟨b', off', cap', us, e1, _, hbB', hat', hu'⟩ := Cd.sl_at (HR2.out wr HBW.out) hlt
      injection e1 with e1 e2 e3
      subst e1 e3
      obtain ⟨ay, cy, rfl⟩ := elem_form hu'
      have q0 := hat' 0 (by simp)
      have q1 := hat' 1 (by simp)
      have q2 := hat' 2 (by simp)
      simp only [List.getElem_cons_zero, List.getElem_cons_succ, Nat.add_zero, show tabC.n = 3 from rfl] at p0 p1 p2 q0 q1 q2
      have HE := Lib.hid (fun w' (hq : LaterD wr w') => eqt_elem_i _ _ l1[k] l2[k] _ _ w' (Cd.later hu hq) (Cd.later hu' hq))
      have HF1 := Lib.hid (fun e : l1[k] = l2[k] => take_eq hlt1 hlt HTK.out e)
      have HF0 := Lib.hid (fun e : l1[k] ≠ l2[k] => take_ne hlt1 hlt e)
      have i1 : (0 : Int) ≤ (k : Int) := by omega
      have i2 : (k : Int) < (l2.length : Int) := by omega
      have kk : LaterD wr ((wr.alloc (.cells #[.string (l1[k]).1, .int .i64 (l1[k]).2.1, .slice az (l1[k]).2.2.length cz] 68 (0, 0))).alloc (.cells #[.string (l2[k]).1, .int .i64 (l2[k]).2.1, .slice ay (l2[k]).2.2.length cy] 68 (0, 0))) := below_then (below_alloc _ _) (below_alloc _ _)
      clear hu hu' hat hat' hb e2
      generalize l1[k] = T at *
      generalize l2[k] = U at *
      go_wp2_with fail
      refine (HE.out _ kk).mono ?_
      rintro e w2 ⟨rfl, hb2⟩
      have HB2 := Lib.hid (below_then HBW.out (below_then (show Below wr.heap.size wr _ from kk) hb2))
      clear hb2 kk
      by_cases hT : T = U
      · have HT := Lib.hid (HF1.out hT)
        rw [show decide (T = U) = true from decide_eq_true hT]
        clear hT
        go_wp2_with fail
        go_roundw
        case rel => exact ⟨k + 1, by omega, by go_num, HT.out, HB2.out⟩
        case measure => simp [intOf]; omega
      · have HZ := Lib.hid (show decide (l1 = l2) = false from decide_eq_false (HF0.out hT))
        rw [show decide (T = U) = false from decide_eq_false hT]
        clear hT
        go_wp2_with fail
        go_ret
        exact ⟨DbSpec.ret_b HZ.out.symm, HB2.out⟩
    · have ek : k = l2.length := by omega
      subst ek
      have HZ := Lib.hid (show decide (l1 = l2) = true from decide_eq_true (by
        have h := HTK.out
        rw [List.take_length, List.take_of_length_le (by rw [HLEN.out]; exact Nat.le_refl _)] at h
        exact h))
      go_wp2_with fail
      go_ret
      exact ⟨DbSpec.ret_b HZ.out.symm, HBW.out⟩
set_option maxRecDepth 100000 in
theorem impl_eqdb (u1 u2 : Value) (l1 l2 : List T3) (S1 S2 : Nat → Prop) (w : World) (h1 : tabsC.rd w S1 [u1] l1) (h2 : tabsC.rd w S2 [u2] l2) :
    Calls Tryz.prog 12 #[.agg #[u1], .agg #[u2]] w fun e w' => e = .returned (.bool (decide (l1 = l2))) ∧ Below w.heap.size w w' := by
  have HE := Lib.hid (fun w' (hb : Below w.heap.size w w') => equal_func u1 u2 l1 l2 S1 S2 w' (Cd.later h1 hb) (Cd.later h2 hb))
  obtain ⟨a1, cap1, rfl, hl1⟩ := Cd.sl_form h1
  obtain ⟨a2, cap2, rfl, hl2⟩ := Cd.sl_form h2
  clear h1 h2
  go_enter Tryz.func12, Tryz.ntmps12
  go_wp2_with fail
  refine (HE.out _ (below_then (below_alloc _ _) (below_alloc _ _))).mono ?_
  rintro e w2 ⟨rfl, hb2⟩
  have HB2 := Lib.hid (below_then (below_then (below_alloc w _) (below_alloc _ _)) hb2)
  clear hb2
  go_wp2_with fail
  go_ret
  exact ⟨rfl, HB2.out⟩
end Go.Proofs.YtlngbdokgcdeeaaGreat.DbImp

namespace Go.Proofs.YtlngbdokgcdeeaaGreat.DbMap
open Go Go.RowKit Byt Ints IntsLaw Cd Rows2 Tab SlMath TabOpen TabElem SlTable Db TabSpec DbMath DbImp DbExact
open Go.Maps (Keyed string_keyed IsMap Tidy)
open DbSpec (LaterD drewD row1 rows_cell name_cell)

/-- A table's value in a map: it stands for itself. -/
def tabR : Value → Option (DataW Value × List MemPlace)
  | .agg ⟨[.string a, .int .i64 b, .slice c d e]⟩ => some (.held (.agg #[.string a, .int .i64 b, .slice c d e]), [])
  | _ => none
structure TabV where
  nm : ByteArray
  ar : Int
  a : Option Addr
  n : Nat
  c : Nat
def TabV.us (t : TabV) : List Value := [.string t.nm, .int .i64 t.ar, .slice t.a t.n t.c]
def TabV.val (t : TabV) : Value := .agg #[.string t.nm, .int .i64 t.ar, .slice t.a t.n t.c]
theorem tabR_mk (t : TabV) : tabR t.val = some (.held t.val, []) := rfl
theorem tabR_inv {v : Value} {y : DataW Value × List MemPlace} (h : tabR v = some y) : ∃ t : TabV, v = t.val ∧ y = (.held v, []) := by
  unfold tabR at h
  split at h
  · injection h with h
    exact ⟨⟨_, _, _, _, _⟩, rfl, h.symm⟩
  · cases h
def keyL (s : ByteArray) : Lit := .string s.data.toList
theorem keyL_ne {s t : ByteArray} (h : s ≠ t) : keyL s ≠ keyL t := fun q => h (by
  unfold keyL at q
  injection q with q
  cases s
  cases t
  simp only [Array.toList_inj] at q
  rw [q])
theorem keyL_lit (s : ByteArray) : WideAt.IsKeyLit (keyL s) := trivial

/-- A map that has just the entries of f, n of them. -/
structure MapIs (D : DataW Value) (f : ByteArray → Option TabV) (n : Nat) : Prop where
  tidy : Tidy D
  has : ∀ s, Maps.has D (keyL s) = (f s).isSome
  at_ : ∀ s t z, f s = some t → D.atKey (keyL s) z = .held t.val
  size : Maps.size D = n
def setF (f : ByteArray → Option TabV) (s : ByteArray) (t : TabV) : ByteArray → Option TabV := fun x => if x = s then some t else f x
def delF (f : ByteArray → Option TabV) (s : ByteArray) : ByteArray → Option TabV := fun x => if x = s then none else f x
theorem MapIs.start : MapIs (.map []) (fun _ => none) 0 := ⟨Maps.tidy_empty, fun _ => rfl, (fun _ _ _ h => by cases h), rfl⟩
theorem MapIs.put {D : DataW Value} {f : ByteArray → Option TabV} {n : Nat} (h : MapIs D f n) (s : ByteArray) (t : TabV) : MapIs (D.put (keyL s) (.held t.val)) (setF f s t) (if (f s).isSome then n else n + 1) := by
  refine ⟨h.tidy.put (keyL_lit s) _, fun x => ?_, fun x y z hy => ?_, ?_⟩
  · by_cases e : x = s
    · subst e
      rw [Maps.has_put_same h.tidy.isMap (keyL_lit x), setF, if_pos rfl]
      rfl
    · rw [Maps.has_put_other (keyL_ne e), h.has, setF, if_neg e]
  · by_cases e : x = s
    · subst e
      rw [setF, if_pos rfl] at hy
      injection hy with hy
      rw [Maps.atKey_put_same h.tidy.isMap (keyL_lit x), hy]
    · rw [setF, if_neg e] at hy
      rw [Maps.atKey_put_other (keyL_ne e)]
      exact h.at_ x y z hy
  · rw [Maps.size_put h.tidy, h.has, h.size]
theorem MapIs.del {D : DataW Value} {f : ByteArray → Option TabV} {n : Nat} (h : MapIs D f n) (s : ByteArray) : MapIs (D.del (keyL s)) (delF f s) (if (f s).isSome then n - 1 else n) := by
  refine ⟨h.tidy.del _, fun x => ?_, fun x y z hy => ?_, ?_⟩
  · by_cases e : x = s
    · subst e
      rw [Maps.has_del_same, delF, if_pos rfl]
      rfl
    · rw [Maps.has_del_other (keyL_ne e), h.has, delF, if_neg e]
  · by_cases e : x = s
    · rw [delF, if_pos e] at hy; cases hy
    · rw [delF, if_neg e] at hy
      rw [Maps.atKey_del_other (keyL_ne e)]
      exact h.at_ x y z hy
  · have := Maps.size_del h.tidy (k := keyL s)
    rw [h.has, h.size] at this
    split at this <;> rename_i q <;> simp only [q] <;> simp <;> omega
theorem MapIs.eq {D : DataW Value} {f g : ByteArray → Option TabV} {n m : Nat} (h : MapIs D f n) (e : f = g) (e2 : n = m) : MapIs D g m := e ▸ e2 ▸ h

/-- The tables of a list, each with its cells. -/
def HeldT (w : World) (S : Nat → Prop) (a : Option Addr) (l : List T3) (ts : List TabV) : Prop :=
  ts.length = l.length ∧ ∀ k (h : k < l.length) (h' : k < ts.length), ts[k].nm = l[k].1 ∧ (∃ b off, a = some ⟨b, off, none⟩ ∧ b < w.heap.size ∧ Cd.At w b (off + k * 3) ts[k].us) ∧ tabC.rd w S ts[k].us l[k]
theorem HeldT.later {w w' : World} {S : Nat → Prop} {a : Option Addr} {l : List T3} {ts : List TabV} (h : HeldT w S a l ts) (hb : Below w.heap.size w w') : HeldT w' S a l ts := by
  refine ⟨h.1, fun k hk hk' => ?_⟩
  obtain ⟨h0, ⟨b, off, e, hl, hat⟩, hr⟩ := h.2 k hk hk'
  exact ⟨h0, ⟨b, off, e, Nat.lt_of_lt_of_le hl hb.size, fun j hj => (hb.cell (p := ⟨b, off + k * 3 + j, none⟩) hl).trans (hat j hj)⟩, Cd.later hr hb⟩
theorem mk_list {α : Type} {P : Nat → α → Prop} : ∀ (n : Nat), (∀ k, k < n → ∃ x, P k x) → ∃ xs : List α, xs.length = n ∧ ∀ k (h : k < xs.length), P k xs[k]
  | 0, _ => ⟨[], rfl, fun k h => by simp at h⟩
  | n + 1, h => by
    obtain ⟨xs, hl, hp⟩ := mk_list n (fun k hk => h k (by omega))
    obtain ⟨x, hx⟩ := h n (by omega)
    refine ⟨xs ++ [x], by simp [hl], fun k hk => ?_⟩
    by_cases e : k < xs.length
    · rw [List.getElem_append_left e]; exact hp k e
    · have hk' : k < xs.length + 1 := by simpa using hk
      obtain rfl : k = n := by omega
      rw [List.getElem_append_right (by omega)]
      simpa [hl] using hx
theorem held_of {w : World} {S : Nat → Prop} {a : Option Addr} {l : List T3} {n cap : Nat} (h : tabsC.rd w S [.slice a n cap] l) : ∃ ts, HeldT w S a l ts := by
  obtain ⟨ts, hl, hp⟩ := mk_list (P := fun k (t : TabV) => ∀ (h : k < l.length), t.nm = l[k].1 ∧ (∃ b off, a = some ⟨b, off, none⟩ ∧ b < w.heap.size ∧ Cd.At w b (off + k * 3) t.us) ∧ tabC.rd w S t.us l[k]) l.length (fun k hk => by
    obtain ⟨b, off, cap', us, e, _, hb, hat, hu⟩ := Cd.sl_at h hk
    obtain ⟨a2, c2, rfl⟩ := elem_form hu
    injection e with e _ _
    exact ⟨⟨(l[k]).1, (l[k]).2.1, a2, (l[k]).2.2.length, c2⟩, fun _ => ⟨rfl, ⟨b, off, e, hb, hat⟩, hu⟩⟩)
  exact ⟨ts, hl, fun k hk hk' => hp k hk' hk⟩
/-- The entry of a name. -/
def entF (ts : List TabV) : ByteArray → Option TabV := fun s => ts.find? (fun t => decide (t.nm = s))
theorem entF_nil : entF [] = fun _ => none := rfl
theorem entF_more {ts : List TabV} {t : TabV} (h : ∀ u ∈ ts, u.nm ≠ t.nm) : entF (ts ++ [t]) = setF (entF ts) t.nm t := by
  funext s
  unfold entF setF
  rw [List.find?_append]
  by_cases e : s = t.nm
  · subst e
    rw [if_pos rfl, List.find?_eq_none.2 (fun u hu => by simpa using h u hu)]
    simp
  · rw [if_neg e]
    have : List.find? (fun u => decide (u.nm = s)) [t] = none := by simp; exact fun q => e q.symm
    rw [this]
    simp
theorem entF_none {ts : List TabV} {t : TabV} (h : ∀ u ∈ ts, u.nm ≠ t.nm) : (entF ts t.nm).isSome = false := by
  unfold entF
  rw [List.find?_eq_none.2 (fun u hu => by simpa using h u hu)]
  rfl
theorem entF_find {w : World} {S : Nat → Prop} {a : Option Addr} {l : List T3} {ts : List TabV} (h : HeldT w S a l ts) (s : ByteArray) :
    (findN l s = none ∧ entF ts s = none) ∨ ∃ T t, findN l s = some T ∧ entF ts s = some t ∧ tabC.rd w S t.us T := by
  obtain ⟨hl, h⟩ := h
  unfold findN entF
  induction ts generalizing l a with
  | nil =>
    obtain rfl : l = [] := List.length_eq_zero_iff.1 hl.symm
    exact .inl ⟨rfl, rfl⟩
  | cons t ts ih =>
    cases l with
    | nil => simp at hl
    | cons T l =>
      have h0 := h 0 (by simp) (by simp)
      simp only [List.getElem_cons_zero] at h0
      by_cases e : t.nm = s
      · refine .inr ⟨T, t, ?_, ?_, h0.2.2⟩
        · rw [List.find?_cons_of_pos (by simpa [h0.1] using e)]
        · rw [List.find?_cons_of_pos (by simpa using e)]
      · rw [List.find?_cons_of_neg (by simpa [h0.1] using e), List.find?_cons_of_neg (by simpa using e)]
        refine ih (a := a.map fun p => ⟨p.block, p.off + 3, none⟩) (by simpa using hl) fun k hk hk' => ?_
        obtain ⟨g0, ⟨b, off, rfl, g1, g2⟩, g3⟩ := h (k + 1) (by simpa using hk) (by simpa using hk')
        simp only [List.getElem_cons_succ] at g0 g2 g3
        exact ⟨g0, ⟨b, off + 3, rfl, g1, fun j hj => by have := g2 j hj; rw [show off + 3 + k * 3 = off + (k + 1) * 3 by omega]; exact this⟩, g3⟩
end Go.Proofs.YtlngbdokgcdeeaaGreat.DbMap

namespace Go.Proofs.YtlngbdokgcdeeaaGreat.TabImp
open Go Go.RowKit Byt Ints IntsLaw Cd Rows2 Tab TabSpec

set_option maxRecDepth 100000 in
theorem copy_cells_int (a : Option Addr) (n c : Nat) (us : List Value) (w : World) (hn : us.length = n) (hl : n ≤ 1048577) (hc : 0 < n → ∃ b off, a = some ⟨b, off, none⟩ ∧ b < w.heap.size ∧ ∀ j v, us[j]? = some v → w.cell? ⟨b, off + j, none⟩ = some v) (h1 : ∀ v ∈ us, v.oneCell' = true) :
    Calls Tryz.prog 45 #[.slice a n c] w fun e w' => e = .returned (.slice (some ⟨w.heap.size, 0, none⟩) n n) ∧ w'.ownsRow w.heap.size 3 1 (.slice (some ⟨w.heap.size, 0, none⟩) n n) n us ∧ Below w.heap.size w w' := by
  obtain ⟨i0, hi, hz0, hz1, hz2⟩ := info_parts info_i64
  have HC := Lib.hid hc
  have HU := Lib.hid h1
  clear hc h1
  go_enter Tryz.func45, Tryz.ntmps45
  go_wp2_with (at_make; refine wpList_make_full _ rfl _ _ 27 rfl w.heap.size 3 i0 (.int .i64 0) 1 Tryz.underlying27 hi hz0 hz1 _ _ _ _ n rfl rfl rfl rfl (by rw [hz2]; omega) (by unfold maxLen; omega) (Nat.le_refl _) ?_)
  intro w1 hown0 hg0
  have hb1 : Below w.heap.size w w1 := (Below.refl _ _).grown hg0 (Nat.le_refl _) (by simp)
  obtain ⟨cur, hcur, hlen⟩ : ∃ cur : List Value, w1.heap[w.heap.size]? = some (.cells cur.toArray 3 (0, 0)) ∧ cur.length = n := by
    rcases hown0.2 with ⟨e1, _⟩ | ⟨g, cap, cur, e1, _, hg, _, _, hcs, _⟩
    · cases e1
    · simp only [Value.slice.injEq, Option.some.injEq, Addr.mk.injEq, and_true, true_and] at e1
      obtain ⟨rfl, rfl⟩ := e1
      exact ⟨cur.toList, by simpa using hg, by simpa using hcs⟩
  have HCUR := Lib.hid hcur
  have HLEN := Lib.hid hlen
  have HN := Lib.hid hn
  have HB := Lib.hid hb1
  clear hown0 hg0 hcur hlen hn hb1
  go_wp2_with (with_reducible refine wpList_copy_splice rfl (.tmp 7) (.tmp 8) 27 27 rfl 3 Tryz.underlying27 (by rw [hi]; simp [hz1]) (some ⟨w.heap.size, 0, none⟩) a n n n c rfl rfl w.heap.size 0 cur 3 HCUR.out us (by rw [HN.out]; exact (Nat.min_self n).symm) ?_ (by rw [HN.out, HLEN.out]; omega) HU.out w.heap.size w HB.out (Nat.le_refl _) ?_)
  · intro hp
    obtain ⟨b, off, rfl, hb, hcell⟩ := HC.out (by rw [HN.out] at hp; exact hp)
    first | refine ⟨rfl, ⟨b, off, none⟩, rfl, fun j v hj => ?_⟩ | refine ⟨⟨b, off, none⟩, rfl, fun j v hj => ?_⟩
    have ha : (⟨b, off, none⟩ : Addr).add j = ⟨b, off + j, none⟩ := by unfold Addr.add; split <;> simp_all
    rw [ha]
    exact (HB.out.cell (p := ⟨b, off + j, none⟩) hb).trans (hcell j v hj)
  intro w2 hg2 hb2
  go_wp2_with fail
  go_ret
  refine ⟨rfl, ⟨by rw [HN.out]; omega, .inr ⟨w.heap.size, n, (splice cur 0 us).toArray, rfl, Nat.le_refl _, hg2.out, Nat.le_refl _, by unfold maxLen; omega, ?_, ?_⟩⟩, hb2⟩
  · rw [List.size_toArray, length_splice _ _ _ (by rw [HN.out, HLEN.out]; omega), HLEN.out, Nat.mul_one]
  · have : (splice cur 0 us) = us := by
      unfold splice
      rw [List.take_zero, List.drop_eq_nil_of_le (by rw [HN.out, HLEN.out]; omega)]
      simp
    simp only [this, Nat.mul_one]
    exact List.take_of_length_le (by rw [HN.out]; omega)


theorem copy_ints (v : Value) (l : List Int) (S : Nat → Prop) (w : World) (hr : rowC.rd w S [v] l) (hl : l.length ≤ 1048577) :
    Calls Tryz.prog 45 #[v] w fun e w' => ∃ g c, e = .returned (.slice (some ⟨g, 0, none⟩) l.length c) ∧ rowC.ow w' w.heap.size [.slice (some ⟨g, 0, none⟩) l.length c] l [g] ∧ Below w.heap.size w w' := by
  obtain ⟨⟨a, cap, rfl, hlm, hc⟩, hin⟩ := row_ri hr
  refine (copy_cells_int a l.length cap (l.map iv) w (by simp) hl ?_ ?_).mono ?_
  · intro h0
    rcases hc with h | ⟨b, off, rfl, hb, hcell⟩
    · rw [h] at h0; simp at h0
    · refine ⟨b, off, rfl, hb, fun j v hj => ?_⟩
      have hj' : j < l.length := by
        have := (List.getElem?_eq_some_iff.1 hj).1
        simpa using this
      rw [hcell j hj']
      rw [List.getElem?_map, List.getElem?_eq_getElem hj'] at hj
      exact hj
  · intro v hv
    obtain ⟨x, _, rfl⟩ := List.mem_map.1 hv
    rfl
  · rintro e w' ⟨rfl, hown, hb⟩
    exact ⟨_, _, rfl, Cd.ow_of_own hown hin, hb⟩
end Go.Proofs.YtlngbdokgcdeeaaGreat.TabImp

namespace Go.Proofs.YtlngbdokgcdeeaaGreat.TabImp
open Go Go.RowKit Byt Ints IntsLaw Cd Rows2 Tab TabSpec

set_option maxRecDepth 100000 in
set_option maxHeartbeats 1600000 in
theorem map_copy (v : Value) (l : List (List Int)) (S : Nat → Prop) (w : World) (hr : rowsC.rd w S [v] l) (hl : rowsWt l ≤ 1048577) :
    Calls Tryz.prog 107 #[v, .func (.func 45) #[] #[]] w fun e w' => ∃ g fp, e = .returned (.slice (some ⟨g, 0, none⟩) l.length l.length) ∧ rowsC.ow w' w.heap.size [.slice (some ⟨g, 0, none⟩) l.length l.length] l fp ∧ fp.Nodup ∧ Below w.heap.size w w' := by
  obtain ⟨i0, hi, hz0, hz1, hz2⟩ := info_parts info_ints
  have HR := Lib.hid (fun w' (hb : Below w.heap.size w w') => Cd.later hr hb)
  have HW := Lib.hid hl
  obtain ⟨a, cap, rfl, hlm⟩ := rows_form hr
  have hll : l.length ≤ 1048577 := by unfold rowsWt at hl; omega
  clear hr hl
  go_enter Tryz.func107, Tryz.ntmps107
  go_wp2_with (at_make; refine wpList_make_own _ rfl _ _ 66 rfl w.heap.size 27 i0 (.slice none 0 0) 1 Tryz.underlying66 hi hz0 hz1 _ _ _ l.length rfl rfl rfl (by rw [hz2]; omega) (by unfold maxLen; omega) (Nat.le_refl _) ?_)
  intro w1 hown0 hg0
  have how1 : rowsC.ow w1 w.heap.size [.slice (some ⟨w.heap.size, 0, none⟩) 0 l.length] [] [w.heap.size] := ⟨_, [], [], rfl, hown0, trivial, rfl⟩
  have hb1 : Below w.heap.size w w1 := (Below.refl _ _).grown hg0 (Nat.le_refl _) (by simp)
  clear hown0 hg0
  go_wp2_with fail
  go_loopw [5, 13] (fun o i wr => ∃ (k : Nat) (fp : List Nat), k ≤ l.length ∧ i = .int .i64 k ∧ o = .slice (some ⟨w.heap.size, 0, none⟩) k l.length ∧ rowsC.ow wr w.heap.size [.slice (some ⟨w.heap.size, 0, none⟩) k l.length] (l.take k) fp ∧ fp.Nodup ∧ Below w.heap.size w wr) (fun _ i _ => l.length - (intOf i).toNat)
  case atStart => exact ⟨0, _, Nat.zero_le _, rfl, rfl, how1, by simp, hb1⟩
  case round =>
    obtain ⟨k, fp, hk, rfl, rfl, how, hnd, hb⟩ := hrel
    by_cases hlt : k < l.length
    · obtain ⟨b, off, cap', u, e1, hbB, hc, hu⟩ := rows_at (HR.out wr hb) hlt
      injection e1 with e1 e2 e3
      subst e1 e3
      have HC := Lib.hid (copy_ints u l[k] S wr hu (by have := row_len hlt; have := HW.out; unfold rowsWt at this; omega))
      have HOW := Lib.hid how
      have HND := Lib.hid hnd
      have HB := Lib.hid hb
      have HT := Lib.hid (show l.take (k + 1) = l.take k ++ [l[k]] from List.take_succ_eq_append_getElem hlt)
      clear hu how hnd hb how1 hb1
      generalize l[k] = r at *
      go_wp2_with fail
      refine HC.out.mono ?_
      rintro e w2 ⟨g2, c2, rfl, ho2, hb2⟩
      have hsz2 := (rowC.ow_lt ho2 g2 (List.mem_singleton.2 rfl))
      have hbA : Below w2.heap.size w2 (w2.alloc (.cells #[.slice (some ⟨g2, 0, none⟩) r.length c2] 27 (0, 0))) := below_alloc _ _
      have HOW2 := Lib.hid (Cd.ow_later (Cd.ow_later HOW.out hb2) hbA)
      have HO2 := Lib.hid (rowC.ow_base (Cd.ow_later ho2 hbA) HB.out.size)
      have HB2 := Lib.hid (below_then (below_then HB.out hb2) hbA)
      have HDIS := Lib.hid (show ∀ b ∈ [g2], b ∉ fp from fun b hb q => by
        rw [List.mem_singleton.1 hb] at q
        have := (rowsC.ow_lt HOW.out _ q).2
        omega)
      have HBS := Lib.hid (show w.heap.size ≤ (w2.alloc (.cells #[.slice (some ⟨g2, 0, none⟩) r.length c2] 27 (0, 0))).heap.size by rw [size_alloc]; have := HB.out.size; have := hb2.size; omega)
      have HL := Lib.hid (show k = (l.take k).length by rw [List.length_take]; omega)
      have HCELL := Lib.hid (show (w2.alloc (.cells #[.slice (some ⟨g2, 0, none⟩) r.length c2] 27 (0, 0))).cell? ⟨w2.heap.size, 0, none⟩ = some (.slice (some ⟨g2, 0, none⟩) r.length c2) from World.cell?_alloc_mark _ _ _ _ 0)
      clear hsz2 hbA ho2 hb2
      go_wp2_with (at_builtin; refine Cd.wpList_appendR (c := rowC) rfl rfl (.tmp 17) (.tmp 21) 66 rfl w.heap.size 27 (.slice none 0 0) 24 Tryz.underlying66 info_ints rfl (by decide) w.heap.size l.length k (l.take k) fp rfl HL.out HOW2.out HND.out (by omega) w2.heap.size (.slice (some ⟨g2, 0, none⟩) r.length c2) rfl HCELL.out r [g2] HO2.out (by simp) HDIS.out (by omega) HBS.out ?_)
      intro w3 fp3 ho3 hn3 hsub3 ht3
      have HB3 := Lib.hid (ht3.below HB2.out (fun b hb => (rowsC.ow_lt HOW.out b hb).1))
      rw [← HT.out] at ho3
      clear ht3 hsub3
      go_wp2_with fail
      go_roundw
      case rel => exact ⟨k + 1, fp3, by omega, by go_num, rfl, ho3, hn3, HB3.out⟩
      case measure => simp [intOf]; omega
    · have ek : k = l.length := by omega
      subst ek
      rw [List.take_length] at how
      go_wp2_with fail
      go_ret
      exact ⟨_, fp, rfl, how, hnd, hb⟩
end Go.Proofs.YtlngbdokgcdeeaaGreat.TabImp
