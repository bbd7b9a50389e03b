/- Texts that the proof rests on, one behind the other. -/
import Derived.Test.YtmifnbplkaonaaaGreatTabSpec2
import Derived.Test.YtmifnbplkaonaaaGreatFormat
import Derived.Test.YtmifnbplkaonaaaGreatTabCopy
import Derived.Deep.DeepCutAuto
import Derived.Test.YtmifnbplkaonaaaGreatRows
import Derived.Test.YtmifnbplkaonaaaGreatFixed
import Derived.Test.YtmifnbplkaonaaaGreatInts
import Derived.WalkKit
import Derived.WalkSpells
import Derived.WalkLawsBesides
import Derived.Lib.Hide
import Derived.Deep.QuietTactic
import Derived.BigQuiet
import Derived.Test.YtmifnbplkaonaaaGreatIntsLaw
import Derived.Test.YtmifnbplkaonaaaGreatReads
import Derived.StillTailTactics
import Derived.Test.YtmifnbplkaonaaaGreatUpd
import Derived.Test.YtmifnbplkaonaaaGreatTabImp1
import Derived.Test.YtmifnbplkaonaaaGreatTabIns
import Derived.Deep.RegionLaw
import Derived.Test.YtmifnbplkaonaaaGreatTabPut
import Derived.Laws.CopyOwn
import Derived.Test.YtmifnbplkaonaaaGreatCd
import Derived.Test.YtmifnbplkaonaaaGreatExact
import Derived.Shelf.Small.Bits
import Derived.Shelf.Small.Wraps
import Derived.Shelf.Strconv.Itoa0
import Derived.Shelf.LaysM
import Derived.Shelf.Strconv.Clone
import Derived.Shelf.Slices.Equal
import Derived.Ground.Names2Prog
import Derived.Shelf.Slices.SearchI
import Derived.Shelf.Slices.Empties2
import Derived.Ground.SlgnProg
import Derived.Shelf.SlicesE.Delete
import Derived.Ground.SlgfProg
import Derived.Shelf.SlicesE.IndexFunc
import Derived.Test.YtmifnbplkaonaaaGreatProg
import Derived.Test.YtmifnbplkaonaaaGreatTabDel

namespace Go.Proofs.YtmifnbplkaonaaaGreat.TabFmt
open Go Go.RowKit Byt Ints IntsLaw Cd Rows2 Tab TabSpec
open Go.Lib (decDigits itoa)

/-- The digits of small numbers. -/
def digB (l : List Int) : List UInt8 := l.map fun x => UInt8.ofNat (48 + x.toNat)
theorem itoa_digit {x : Int} (h : 0 ≤ x ∧ x ≤ 9) : itoa x = [UInt8.ofNat (48 + x.toNat)] := by
  unfold itoa
  rw [if_neg (by omega), decDigits, dif_pos (by omega)]
theorem digB_len (l : List Int) : (digB l).length = l.length := by simp [digB]
/-- The rows' digits, separated by blanks. -/
def rowsB : List (List Int) → List UInt8
  | [] => []
  | [r] => digB r
  | r :: s :: rs => digB r ++ 32 :: rowsB (s :: rs)
theorem rowsB_snoc : ∀ (l : List (List Int)) (r : List Int), rowsB (l ++ [r]) = if l = [] then digB r else rowsB l ++ 32 :: digB r
  | [], r => by simp [rowsB]
  | [a], r => by simp [rowsB]
  | a :: b :: l, r => by
    have := rowsB_snoc (b :: l) r
    rw [if_neg (by simp)] at this
    rw [if_neg (by simp)]
    show digB a ++ 32 :: rowsB ((b :: l) ++ [r]) = _
    rw [this]
    simp [rowsB]
/-- A valid table's format. -/
def tabB (nm : ByteArray) (ar : Int) (rows : List (List Int)) : List UInt8 := nm.data.toList ++ UInt8.ofNat (48 + ar.toNat) :: 58 :: rowsB rows
def fmtT (nm : ByteArray) (ar : Int) (rows : List (List Int)) : ByteArray := ⟨(if tabOk nm ar rows then tabB nm ar rows else []).toArray⟩

set_option maxRecDepth 100000 in
theorem spec_digits (v : Value) (l : List Int) (B : Nat) (w : World) (hr : RI w v l B) (hB : B ≤ w.heap.size) (hin : ∀ x ∈ l, 0 ≤ x ∧ x ≤ 9) (hl : l.length ≤ 1000000) :
    Calls Tryz.prog 46 #[v] w fun e w' => e = .returned (.string ⟨(digB l).toArray⟩) ∧ Below w.heap.size w w' := by
  have HR := Lib.hid (fun w' (hb : Below w.heap.size w w') => (hr.mono hB).later hb)
  have HIN := Lib.hid hin
  obtain ⟨a, cap, rfl, hlm, _⟩ := hr
  clear hin
  go_enter Tryz.func46, Tryz.ntmps46
  go_wp2
  go_loopw [3, 4] (fun o i wr => ∃ k : Nat, k ≤ l.length ∧ i = .int .i64 k ∧ o = .string ⟨(digB (l.take k)).toArray⟩ ∧ Below w.heap.size w wr) (fun _ i _ => l.length - (intOf i).toNat)
  case atStart => exact ⟨0, Nat.zero_le _, rfl, rfl, Below.refl _ _⟩
  case round =>
    obtain ⟨k, hk, rfl, rfl, hb⟩ := hrel
    by_cases hlt : k < l.length
    · obtain ⟨b, off, cap', e1, hbB, hc⟩ := ri_at (HR.out wr hb) hlt
      injection e1 with e1 e2 e3
      subst e1 e3
      have hx := HIN.out _ (List.getElem_mem hlt)
      have hf := Format.spec_any l[k] wr ⟨by omega, by omega⟩
      rw [itoa_digit hx] at hf
      have HF := Lib.hid hf
      have HB := Lib.hid hb
      have hlen : (digB (l.take k)).length ≤ 1000000 := by rw [digB_len, List.length_take]; omega
      have l3 : ¬ 9223372036854775807 < (digB (l.take k)).length + 1 := by omega
      have HT := Lib.hid (show digB (l.take (k + 1)) = digB (l.take k) ++ [UInt8.ofNat (48 + l[k].toNat)] by unfold digB; rw [List.take_succ_eq_append_getElem hlt, List.map_append]; rfl)
      clear hf hb hx
      generalize digB (l.take k) = cur at *
      generalize UInt8.ofNat (48 + l[k].toNat) = z at *
      go_wp2_with (first | (go_at_call 74; refine HF.out.mono ?_; rintro e w1 ⟨rfl, hb1⟩))
      go_roundw
      case rel => exact ⟨k + 1, by omega, by go_num, by rw [HT.out]; simp [ByteArray.mk_append_mk], below_then HB.out hb1⟩
      case measure => simp [intOf]; omega
    · have ek : k = l.length := by omega
      subst ek
      rw [List.take_length]
      go_wp2_with fail
      go_ret
      exact ⟨rfl, hb⟩

theorem rowsB_len : ∀ (l : List (List Int)), (rowsB l).length ≤ rowsWt l
  | [] => by simp [rowsB]
  | [r] => by simp [rowsB, digB, rowsWt]
  | r :: s :: rs => by
    have := rowsB_len (s :: rs)
    have h : rowsWt (r :: s :: rs) = rowsWt (s :: rs) + r.length + 1 := by simp [rowsWt]; omega
    rw [h]
    show (digB r ++ 32 :: rowsB (s :: rs)).length ≤ _
    rw [List.length_append, List.length_cons, digB_len]
    omega
/-- The format, up to row k. -/
def headB (nl : List UInt8) (ar : Int) : List UInt8 := nl ++ [UInt8.ofNat (48 + ar.toNat), 58]
theorem tabB_head (nl : List UInt8) (ar : Int) (rows : List (List Int)) : tabB ⟨⟨nl⟩⟩ ar rows = headB nl ar ++ rowsB rows := by simp [tabB, headB]

end Go.Proofs.YtmifnbplkaonaaaGreat.TabFmt

namespace Go.Proofs.YtmifnbplkaonaaaGreat.Sz
open Go Go.RowKit Byt Ints

/-- The size of class k. -/
def csN : Nat → Nat
  | 0 => 0
  | k + 1 => 4 ^ k
def clsz (k : Int) : Int := if 0 ≤ k ∧ k ≤ 7 then (csN k.toNat : Int) else -1
def szcl (n : Int) : Int :=
  if n < 0 then -1 else if n ≤ 0 then 0 else if n ≤ 1 then 1 else if n ≤ 4 then 2 else if n ≤ 16 then 3 else if n ≤ 64 then 4 else if n ≤ 256 then 5 else if n ≤ 1024 then 6 else if n ≤ 4096 then 7 else -1
theorem csN_le {k : Nat} (h : k ≤ 7) : csN k ≤ 4096 := by
  rcases (show k = 0 ∨ k = 1 ∨ k = 2 ∨ k = 3 ∨ k = 4 ∨ k = 5 ∨ k = 6 ∨ k = 7 by omega) with rfl | rfl | rfl | rfl | rfl | rfl | rfl | rfl <;> decide
theorem csN_pos {k : Nat} (h : 0 < k) : 1 ≤ csN k := by
  cases k with
  | zero => omega
  | succ k => exact Nat.pow_pos (by decide)
theorem csN_step {k : Nat} (h : 0 < k) : csN (k + 1) = csN k * 4 := by
  cases k with
  | zero => omega
  | succ k => show 4 ^ (k + 1) = 4 ^ k * 4; rw [Nat.pow_succ]
theorem clsz_in {k : Nat} (h : k ≤ 7) : clsz k = (csN k : Int) := by
  unfold clsz
  rw [if_pos ⟨by omega, by omega⟩, Int.toNat_natCast]
theorem clsz_out {k : Int} (h : ¬ (0 ≤ k ∧ k ≤ 7)) : clsz k = -1 := by unfold clsz; rw [if_neg h]
theorem clsz_bd (k : Int) : -1 ≤ clsz k ∧ clsz k ≤ 4096 := by
  unfold clsz
  split
  · have := csN_le (k := k.toNat) (by omega)
    omega
  · omega
theorem szcl_of {n : Int} {k : Nat} (hk : k ≤ 7) (h0 : 0 ≤ n) (hl : ∀ j : Nat, j < k → (csN j : Int) < n) (hn : n ≤ (csN k : Int)) : szcl n = k := by
  rcases (show k = 0 ∨ k = 1 ∨ k = 2 ∨ k = 3 ∨ k = 4 ∨ k = 5 ∨ k = 6 ∨ k = 7 by omega) with rfl | rfl | rfl | rfl | rfl | rfl | rfl | rfl
  · have h1 : n ≤ 0 := hn
    unfold szcl; split <;> omega
  · have h1 : n ≤ 1 := hn
    have h2 : (0 : Int) < n := hl 0 (by decide)
    unfold szcl; repeat' split
    all_goals omega
  · have h1 : n ≤ 4 := hn
    have h2 : (1 : Int) < n := hl 1 (by decide)
    unfold szcl; repeat' split
    all_goals omega
  · have h1 : n ≤ 16 := hn
    have h2 : (4 : Int) < n := hl 2 (by decide)
    unfold szcl; repeat' split
    all_goals omega
  · have h1 : n ≤ 64 := hn
    have h2 : (16 : Int) < n := hl 3 (by decide)
    unfold szcl; repeat' split
    all_goals omega
  · have h1 : n ≤ 256 := hn
    have h2 : (64 : Int) < n := hl 4 (by decide)
    unfold szcl; repeat' split
    all_goals omega
  · have h1 : n ≤ 1024 := hn
    have h2 : (256 : Int) < n := hl 5 (by decide)
    unfold szcl; repeat' split
    all_goals omega
  · have h1 : n ≤ 4096 := hn
    have h2 : (1024 : Int) < n := hl 6 (by decide)
    unfold szcl; repeat' split
    all_goals omega
theorem szcl_big {n : Int} (h : 4096 < n) : szcl n = -1 := by
  unfold szcl; repeat' split
  all_goals omega
theorem szcl_neg {n : Int} (h : n < 0) : szcl n = -1 := by unfold szcl; rw [if_pos h]
theorem szcl_bd (n : Int) : -1 ≤ szcl n ∧ szcl n ≤ 7 := by
  unfold szcl; repeat' split
  all_goals omega

/-- Is l a location? -/
def isLoc (l : List Int) : Bool := decide (l.length ≤ 16 ∧ ∀ x ∈ l, 0 ≤ x ∧ x ≤ 7)
theorem isLoc_iff {l : List Int} : isLoc l = true ↔ (l.length ≤ 16 ∧ ∀ x ∈ l, 0 ≤ x ∧ x ≤ 7) := by simp [isLoc]
theorem isLoc_no {l : List Int} : isLoc l = false ↔ ¬ (l.length ≤ 16 ∧ ∀ x ∈ l, 0 ≤ x ∧ x ≤ 7) := by unfold isLoc; rw [decide_eq_false_iff_not]

theorem cell_of {w : World} {v : Value} {l : List Int} {B : Nat} (h : RI w v l B) {k : Nat} (hk : k < l.length) :
    ∃ b off cap, v = .slice (some ⟨b, off, none⟩) l.length cap ∧ b < B ∧ w.cell? ⟨b, off + k, none⟩ = some (.int .i64 l[k]) := by
  obtain ⟨a, cap, rfl, _, hc⟩ := h
  rcases hc with h0 | ⟨b, off, rfl, hb, hcell⟩
  · rw [h0] at hk; simp at hk
  · exact ⟨b, off, cap, rfl, hb, hcell k hk⟩




end Go.Proofs.YtmifnbplkaonaaaGreat.Sz

namespace Go.Proofs.YtmifnbplkaonaaaGreat.Loc
open Go Go.RowKit Byt Ints IntsLaw Sz
open Go.Lib (decDigits itoa)

theorem kept_trans {w a b : World} (h : Below w.heap.size w a) (k : Below a.heap.size a b) : Below w.heap.size w b := h.trans (k.mono h.size)


/-- Is no number of a less than b's at its place? -/
def dom (a b : List Int) : Bool := decide (a.length = b.length ∧ ∀ t : Nat, t < a.length → b.getD t 0 ≤ a.getD t 0)

/-- A location's bytes. -/
def locB (l : List Int) : List UInt8 := l.map fun x => UInt8.ofNat (48 + x.toNat)
theorem itoa_digit {x : Int} (h : 0 ≤ x ∧ x ≤ 7) : itoa x = [UInt8.ofNat (48 + x.toNat)] := by
  unfold itoa
  rw [if_neg (by omega), decDigits, dif_pos (by omega)]
theorem locB_len (l : List Int) : (locB l).length = l.length := by simp [locB]


/-- The numbers that a string's bytes spell, one a byte. -/
def digs (l : List UInt8) : List Int := l.map fun b => (b.toNat : Int) - 48
theorem digs_len (l : List UInt8) : (digs l).length = l.length := by simp [digs]
end Go.Proofs.YtmifnbplkaonaaaGreat.Loc

namespace Go.Proofs.YtmifnbplkaonaaaGreat.Dig
open Go Go.RowKit Byt Ints IntsLaw Loc Draw

theorem cell_of {w : World} {v : Value} {l : List Int} {B : Nat} (h : RI w v l B) {k : Nat} (hk : k < l.length) :
    ∃ b off cap, v = .slice (some ⟨b, off, none⟩) l.length cap ∧ b < B ∧ w.cell? ⟨b, off + k, none⟩ = some (.int .i64 l[k]) := by
  obtain ⟨a, cap, rfl, _, hc⟩ := h
  rcases hc with h0 | ⟨b, off, rfl, hb, hcell⟩
  · rw [h0] at hk; simp at hk
  · exact ⟨b, off, cap, rfl, hb, hcell k hk⟩
theorem info_u8 : (Tryz.prog.info? 5).map (fun i => (i.zero, i.size, i.bytes)) = some (some (.int .u8 0), 1, 1) := by kernel_rfl

theorem format_digit (x : Int) (h : 0 ≤ x ∧ x ≤ 9) (w : World) :
    Calls Tryz.prog 71 #[.int .i64 x] w fun e w' => e = .returned (.int .u8 ((UInt8.ofNat (48 + x.toNat)).toNat : Int)) ∧ w = w' := by
  obtain ⟨n, rfl⟩ := Int.eq_ofNat_of_zero_le h.1
  have hn : n ≤ 9 := by omega
  rcases (show n = 0 ∨ n = 1 ∨ n = 2 ∨ n = 3 ∨ n = 4 ∨ n = 5 ∨ n = 6 ∨ n = 7 ∨ n = 8 ∨ n = 9 by omega) with rfl | rfl | rfl | rfl | rfl | rfl | rfl | rfl | rfl | rfl
  all_goals
    clear h hn
    go_enter Tryz.func71, Tryz.ntmps71
    go_wp2
    go_ret
    exact ⟨rfl, rfl⟩
theorem parse_digit (b : UInt8) (w : World) :
    Calls Tryz.prog 73 #[.int .u8 (b.toNat : Int)] w fun e w' => e = .returned (.int .i64 ((b.toNat : Int) - 48)) ∧ w = w' := by
  have hb : b.toNat < 256 := UInt8.toNat_lt b
  generalize b.toNat = n at *
  go_enter Tryz.func73, Tryz.ntmps73
  go_wp2
  go_ret
  exact ⟨rfl, rfl⟩
set_option maxRecDepth 100000 in
theorem map_digits (v : Value) (l : List Int) (B : Nat) (w : World) (hr : RI w v l B) (hB : B ≤ w.heap.size) (h16 : l.length ≤ 1048577) (hloc : ∀ x ∈ l, 0 ≤ x ∧ x ≤ 9) :
    Calls Tryz.prog 70 #[v, .func (.func 71) #[] #[]] w fun e w' => ∃ v', e = .returned v' ∧ Own w' w.heap.size 5 v' (locB l) ∧ Below w.heap.size w w' := by
  obtain ⟨i0, hi, hz0, hz1, hz2⟩ := info_parts info_u8
  have HR := Lib.hid (fun w' (hb : Below w.heap.size w w') => (hr.mono hB).later hb)
  have HX := Lib.hid hloc
  clear hloc
  obtain ⟨a, cap, rfl, hlm, _⟩ := hr
  go_enter Tryz.func70, Tryz.ntmps70
  go_wp2_with (at_make; refine wpList_make_own _ rfl _ _ 22 rfl w.heap.size 5 i0 (.int .u8 0) 1 Tryz.underlying22 hi hz0 hz1 _ _ _ l.length rfl rfl rfl (by rw [hz2]; omega) (by unfold maxLen; omega) (Nat.le_refl _) ?_)
  intro w1 hown0 hg0
  have hown1 : Own w1 w.heap.size 5 (.slice (some ⟨w.heap.size, 0, none⟩) 0 l.length) [] := hown0
  have hb1 : Below w.heap.size w w1 := (Below.refl _ _).grown hg0 (Nat.le_refl _) (by simp)
  clear hown0 hg0
  go_wp2
  go_loopw [5, 13] (fun o i wr => ∃ k : Nat, k ≤ l.length ∧ i = .int .i64 k ∧ Own wr w.heap.size 5 o (locB (l.take k)) ∧ Below w.heap.size w wr) (fun _ i _ => l.length - (intOf i).toNat)
  case atStart => exact ⟨0, Nat.zero_le _, rfl, by simpa [locB] using hown1, hb1⟩
  case round =>
    obtain ⟨k, hk, rfl, hown, hb⟩ := hrel
    by_cases hlt : k < l.length
    · obtain ⟨b, off, cap', e1, hbB, hc⟩ := cell_of (HR.out wr hb) hlt
      injection e1 with e1 e2 e3
      subst e1 e3
      have HC := Lib.hid (format_digit l[k] (HX.out _ (List.getElem_mem hlt)) wr)
      have hlen : (locB (l.take k)).length + 1 ≤ 140737488355328 := by rw [locB_len, List.length_take]; omega
      have hbs := hb.size
      have HB := Lib.hid hb
      have HT := Lib.hid (show locB (l.take (k + 1)) = locB (l.take k) ++ [UInt8.ofNat (48 + l[k].toNat)] by unfold locB; rw [List.take_succ_eq_append_getElem hlt, List.map_append]; rfl)
      clear hb
      generalize UInt8.ofNat (48 + l[k].toNat) = z at *
      have hz : z.toNat < 256 := UInt8.toNat_lt z
      go_wp2_with (first | (go_at_call 71; refine HC.out.mono ?_; rintro e w1 ⟨rfl, rfl⟩) | (at_builtin; refine wp_append1 rfl (.tmp 17) (.tmp 21) 22 rfl w.heap.size 5 Tryz.underlying22 info_u8 _ _ rfl hown _ rfl (by omega) (by omega) hlen hbs ?_))
      intro v' w5 hown5 hb5
      go_wp2_with fail
      go_roundw
      case rel => exact ⟨k + 1, by omega, by go_num, by rw [HT.out]; exact hown5, HB.out.trans hb5⟩
      case measure => simp [intOf]; omega
    · have ek : k = l.length := by omega
      subst ek
      rw [List.take_length] at hown
      go_wp2_with fail
      go_ret
      exact ⟨_, rfl, hown, hb⟩


theorem format_digits (v : Value) (l : List Int) (B : Nat) (w : World) (hr : RI w v l B) (hB : B ≤ w.heap.size) (h16 : l.length ≤ 1048577) (hloc : ∀ x ∈ l, 0 ≤ x ∧ x ≤ 9) :
    Calls Tryz.prog 39 #[v] w fun e w' => e = .returned (.string ⟨(locB l).toArray⟩) ∧ Below w.heap.size w w' := by
  have HM := Lib.hid (map_digits v l B w hr hB h16 hloc)
  clear hr hloc
  go_enter Tryz.func39, Tryz.ntmps39
  go_wp2_with fail
  refine HM.out.mono ?_
  rintro e w2 ⟨v', rfl, ho, hb⟩
  have hst := ho.string (P := Tryz.prog) 22 9 Tryz.underlying22 Tryz.underlying5 Tryz.underlying9
  go_wp2
  go_ret
  exact ⟨rfl, hb⟩
theorem cell_of_bytes {w : World} {v : Value} {l : List UInt8} {B : Nat} (h : Reads w v l B) {k : Nat} (hk : k < l.length) :
    ∃ b off cap, v = .slice (some ⟨b, off, none⟩) l.length cap ∧ b < B ∧ w.cell? ⟨b, off + k, none⟩ = some (.int .u8 (l[k].toNat : Int)) := by
  obtain ⟨a, cap, rfl, _, hc⟩ := h
  rcases hc with h0 | ⟨b, off, rfl, hb, hcell⟩
  · rw [h0] at hk; simp at hk
  · exact ⟨b, off, cap, rfl, hb, hcell k hk⟩
theorem reads_mono {w : World} {v : Value} {l : List UInt8} {B B' : Nat} (h : Reads w v l B) (hB : B ≤ B') : Reads w v l B' := by
  obtain ⟨a, cap, h1, h2, h3⟩ := h
  refine ⟨a, cap, h1, h2, h3.imp id ?_⟩
  rintro ⟨b, off, e, hb, hc⟩
  exact ⟨b, off, e, by omega, hc⟩

set_option maxRecDepth 100000 in
theorem map_parse (v : Value) (l : List UInt8) (B : Nat) (w : World) (hr : Reads w v l B) (hB : B ≤ w.heap.size) (h16 : l.length ≤ 1048577) :
    Calls Tryz.prog 72 #[v, .func (.func 73) #[] #[]] w fun e w' => ∃ v', e = .returned v' ∧ OwnI w' w.heap.size 3 v' (digs l) ∧ Below w.heap.size w w' := by
  obtain ⟨i0, hi, hz0, hz1, hz2⟩ := info_parts info_i64
  have HR := Lib.hid (fun w' (hb : Below w.heap.size w w') => (reads_mono hr hB).later hb)
  obtain ⟨a, cap, rfl, hlm, _⟩ := hr
  go_enter Tryz.func72, Tryz.ntmps72
  go_wp2_with (at_make; refine wpList_make_own _ rfl _ _ 27 rfl w.heap.size 3 i0 (.int .i64 0) 1 Tryz.underlying27 hi hz0 hz1 _ _ _ l.length rfl rfl rfl (by rw [hz2]; omega) (by unfold maxLen; omega) (Nat.le_refl _) ?_)
  intro w1 hown0 hg0
  have hown1 : OwnI w1 w.heap.size 3 (.slice (some ⟨w.heap.size, 0, none⟩) 0 l.length) [] := hown0
  have hb1 : Below w.heap.size w w1 := (Below.refl _ _).grown hg0 (Nat.le_refl _) (by simp)
  clear hown0 hg0
  go_wp2
  go_loopw [5, 13] (fun o i wr => ∃ k : Nat, k ≤ l.length ∧ i = .int .i64 k ∧ OwnI wr w.heap.size 3 o (digs (l.take k)) ∧ Below w.heap.size w wr) (fun _ i _ => l.length - (intOf i).toNat)
  case atStart => exact ⟨0, Nat.zero_le _, rfl, by simpa [digs] using hown1, hb1⟩
  case round =>
    obtain ⟨k, hk, rfl, hown, hb⟩ := hrel
    by_cases hlt : k < l.length
    · obtain ⟨b, off, cap', e1, hbB, hc⟩ := cell_of_bytes (HR.out wr hb) hlt
      injection e1 with e1 e2 e3
      subst e1 e3
      have HC := Lib.hid (parse_digit l[k] wr)
      have hlen : (digs (l.take k)).length + 1 ≤ 1000000000000 := by rw [digs_len, List.length_take]; omega
      have hbs := hb.size
      have HB := Lib.hid hb
      have HT := Lib.hid (show digs (l.take (k + 1)) = digs (l.take k) ++ [(l[k].toNat : Int) - 48] by unfold digs; rw [List.take_succ_eq_append_getElem hlt, List.map_append]; rfl)
      clear hb
      go_wp2_with (first | (go_at_call 73; refine HC.out.mono ?_; rintro e w1 ⟨rfl, rfl⟩) | (at_builtin; refine wp_appendI rfl (.tmp 17) (.tmp 21) 27 rfl w.heap.size 3 Tryz.underlying27 info_i64 _ _ rfl hown _ rfl hlen hbs ?_))
      intro v' w5 hown5 hb5
      go_wp2_with fail
      go_roundw
      case rel => exact ⟨k + 1, by omega, by go_num, by rw [HT.out]; exact hown5, HB.out.trans hb5⟩
      case measure => simp [intOf]; omega
    · have ek : k = l.length := by omega
      subst ek
      rw [List.take_length] at hown
      go_wp2_with fail
      go_ret
      exact ⟨_, rfl, hown, hb⟩

/-- What '[]byte(s)' lays can be read. -/
theorem reads_row (s : ByteArray) (c : Nat) (w : World) (e : TypeId) (hs : s.size ≤ 1048577) :
    Reads (w.drew.alloc (.cells (bytesRow s c) e ((bytesRow s c).size, (bytesRow s c).size + 1))) (.slice (some ⟨w.heap.size, 0, none⟩) s.data.toList.length c) s.data.toList (w.heap.size + 1) := by
  have hl : s.data.toList.length = s.size := Array.length_toList
  refine ⟨_, c, rfl, by omega, .inr ⟨w.heap.size, 0, rfl, by omega, fun t ht => ?_⟩⟩
  have h := World.cell?_alloc_mark w.drew (bytesRow s c) e ((bytesRow s c).size, (bytesRow s c).size + 1) t
  rw [Nat.zero_add]
  refine h.trans ?_
  rw [bytesRow_at s _ t (by omega)]
  simp

theorem bytes_laid (s : ByteArray) (w : World) (hs : s.size ≤ 1048577) :
    ∃ c w1, (convert 9 22 (.string s)).run Tryz.prog w = .ok (.slice (some ⟨w.heap.size, 0, none⟩) s.size c) w1 ∧
      Reads w1 (.slice (some ⟨w.heap.size, 0, none⟩) s.size c) s.data.toList w1.heap.size ∧ w1.heap.size = w.heap.size + 1 ∧ Below w.heap.size w w1 := by
  have hrd := reads_row s (grownCap w s.size 0 5) w 5 hs
  rw [show s.data.toList.length = s.size from Array.length_toList] at hrd
  have hz : (w.drew.alloc (.cells (bytesRow s (grownCap w s.size 0 5)) 5 ((bytesRow s (grownCap w s.size 0 5)).size, (bytesRow s (grownCap w s.size 0 5)).size + 1))).heap.size = w.heap.size + 1 := Array.size_push _
  refine ⟨_, _, run_bytes_of_string (P := Tryz.prog) w 9 22 5 s Tryz.underlying9 Tryz.underlying22 Tryz.underlying5, ?_, hz, ?_⟩
  · rw [hz]; exact hrd
  · have h := (Below.refl w.heap.size w.drew).alloc (Nat.le_refl _) (.cells (bytesRow s (grownCap w s.size 0 5)) 5 ((bytesRow s (grownCap w s.size 0 5)).size, (bytesRow s (grownCap w s.size 0 5)).size + 1))
    exact below_undrew ⟨h.os, h.tape, h.output, h.size, h.block⟩


set_option maxRecDepth 100000 in
theorem parse_digits (s : ByteArray) (w : World) (h16 : s.size ≤ 1048577) :
    Calls Tryz.prog 41 #[.string s] w fun e w' => ∃ v', e = .returned v' ∧ OwnI w' w.heap.size 3 v' (digs s.data.toList) ∧ Below w.heap.size w w' := by
  have hl : s.data.toList.length = s.size := Array.length_toList
  obtain ⟨c, w1, hcv, hrd, hsz, hbel⟩ := bytes_laid s w h16
  have HM := Lib.hid (map_parse _ _ _ w1 hrd (Nat.le_refl _) (by rw [hl]; omega))
  have HB := Lib.hid hbel
  have HZ := Lib.hid hsz
  clear hrd hbel hl hsz
  generalize digs s.data.toList = ds at *
  go_enter Tryz.func41, Tryz.ntmps41
  go_wp2_with fail
  refine HM.out.mono ?_
  rintro e w2 ⟨v', rfl, ho, hb⟩
  have hbb : Below w.heap.size w w2 := HB.out.trans (hb.mono (by rw [HZ.out]; omega))
  have ho' := ho.base_mono (base' := w.heap.size) (by rw [HZ.out]; omega)
  go_wp2_with fail
  go_ret
  exact ⟨_, rfl, ho', hbb⟩
end Go.Proofs.YtmifnbplkaonaaaGreat.Dig

namespace Go.Proofs.YtmifnbplkaonaaaGreat.UpdFmt
open Go Go.RowKit Byt Ints IntsLaw Cd Rows2 Tab TabSpec Exact Upd TabFmt
open TabImp (is_name_at is_arity_at is_row)

def updOk (nm : ByteArray) (row : List Int) : Bool := nameOk nm && decide (1 ≤ (row.length : Int) ∧ (row.length : Int) ≤ 3) && rowOk row row.length
def signB (b : Bool) : UInt8 := if b then 43 else 45
def updB (nm : ByteArray) (b : Bool) (row : List Int) : List UInt8 := signB b :: (nm.data.toList ++ digB row)
def fmtU (nm : ByteArray) (b : Bool) (row : List Int) : ByteArray := ⟨(if updOk nm row then updB nm b row else []).toArray⟩
theorem fmtU_no {nm : ByteArray} {b : Bool} {row : List Int} (h : updOk nm row = false) : fmtU nm b row = ⟨#[]⟩ := by unfold fmtU; rw [h]; rfl
theorem fmtU_yes {nm : ByteArray} {b : Bool} {row : List Int} (h : updOk nm row = true) : fmtU nm b row = ⟨(updB nm b row).toArray⟩ := by unfold fmtU; rw [h]; rfl

/-- The kind of an update, as the program holds it. -/
def chV (b : Bool) : Value := if b then .iface 73 (.agg #[]) else .iface 82 (.agg #[])
set_option maxRecDepth 100000 in
theorem change_of (nm : ByteArray) (b : Bool) (u : Value) (w : World) :
    Calls Tryz.prog 22 #[.agg #[.string nm, .bool b, u]] w fun e w' => e = .returned (chV b) ∧ Below w.heap.size w w' := by
  cases b
  · go_enter Tryz.func22, Tryz.ntmps22
    go_wp2_with fail
    go_ret
    exact ⟨rfl, below_alloc _ _⟩
  · go_enter Tryz.func22, Tryz.ntmps22
    go_wp2_with fail
    go_ret
    exact ⟨rfl, below_alloc _ _⟩
theorem sign_ins (w : World) : Calls Tryz.prog 40 #[.agg #[]] w fun e w' => e = .returned (.string ⟨#[43]⟩) ∧ Below w.heap.size w w' := by
  go_enter Tryz.func40, Tryz.ntmps40
  go_wp2_with fail
  go_ret
  exact ⟨rfl, below_alloc _ _⟩
theorem sign_del (w : World) : Calls Tryz.prog 134 #[.agg #[]] w fun e w' => e = .returned (.string ⟨#[45]⟩) ∧ Below w.heap.size w w' := by
  go_enter Tryz.func134, Tryz.ntmps134
  go_wp2_with fail
  go_ret
  exact ⟨rfl, below_alloc _ _⟩
theorem m_sign_ins (w : World) : (method 260 73 (.agg #[]) "loop.example/g01921/impl.sign").run Tryz.prog w = .ok (40, .agg #[]) w := by kernel_rfl
theorem m_sign_del (w : World) : (method 260 82 (.agg #[]) "loop.example/g01921/impl.sign").run Tryz.prog w = .ok (134, .agg #[]) w := by kernel_rfl

def LaterU (w w' : World) : Prop := Below w.heap.size w w'
set_option maxRecDepth 100000 in
set_option maxHeartbeats 3200000 in
theorem impl_fmtu (nm : ByteArray) (b : Bool) (u : Value) (row : List Int) (S : Nat → Prop) (w : World) (hr : rowC.rd w S [u] row) :
    Calls Tryz.prog 14 #[.agg #[.string nm, .bool b, u]] w fun e w' => e = .returned (.string (fmtU nm b row)) ∧ Below w.heap.size w w' := by
  have HR := Lib.hid (fun w' (hb : Below w.heap.size w w') => Cd.later hr hb)
  obtain ⟨a, cap, rfl, hlm⟩ := row_form hr
  clear hr
  cases hn : nameOk nm
  · have HZ := Lib.hid (fmtU_no (b := b) (show updOk nm row = false by unfold updOk; rw [hn]; rfl))
    have HN := Lib.hid (fun w' => is_name_at hn w')
    clear hn
    go_enter Tryz.func14, Tryz.ntmps14
    go_wp2_with (go_at_call 36; refine (HN.out _).mono ?_; rintro e w1 ⟨rfl, rfl⟩)
    go_ret
    exact ⟨ret_str HZ.out.symm, below_alloc _ _⟩
  have HN := Lib.hid (fun w' => is_name_at hn w')
  cases ha : decide (1 ≤ (row.length : Int) ∧ (row.length : Int) ≤ 3)
  · have HZ := Lib.hid (fmtU_no (b := b) (show updOk nm row = false by unfold updOk; rw [ha, hn]; rfl))
    have HA := Lib.hid (fun w' => is_arity_at ha w')
    clear hn ha
    go_enter Tryz.func14, Tryz.ntmps14
    go_wp2_with (first | (go_at_call 36; refine (HN.out _).mono ?_; rintro e w1 ⟨rfl, rfl⟩) | (go_at_call 37; refine (HA.out _).mono ?_; rintro e w1 ⟨rfl, rfl⟩))
    go_ret
    exact ⟨ret_str HZ.out.symm, below_alloc _ _⟩
  have HA := Lib.hid (fun w' => is_arity_at ha w')
  have HRW := Lib.hid (fun w' (hb : Below w.heap.size w w') => is_row (.slice a row.length cap) row row.length _ w' (row_ri (HR.out w' hb)).1)
  cases hk : rowOk row row.length
  · have HZ := Lib.hid (fmtU_no (b := b) (show updOk nm row = false by unfold updOk; rw [ha, hn, hk]; rfl))
    rw [hk] at HRW
    clear hn ha hk
    go_enter Tryz.func14, Tryz.ntmps14
    go_wp2_with (first | (go_at_call 36; refine (HN.out _).mono ?_; rintro e w1 ⟨rfl, rfl⟩) | (go_at_call 37; refine (HA.out _).mono ?_; rintro e w1 ⟨rfl, rfl⟩) | (go_at_call 38; refine (HRW.out _ (below_alloc _ _)).mono ?_; rintro e w1 ⟨rfl, rfl⟩))
    go_ret
    exact ⟨ret_str HZ.out.symm, below_alloc _ _⟩
  have HZ := Lib.hid (fmtU_yes (b := b) (show updOk nm row = true by unfold updOk; rw [ha, hn, hk]; rfl))
  rw [hk] at HRW
  have hrk := rowOk_iff.1 hk
  have hal : row.length ≤ 3 := by have := of_decide_eq_true ha; omega
  obtain ⟨⟨nl⟩⟩ := nm
  have hnl : nl.length = 1 := by have := of_decide_eq_true hn; exact this.1
  have HDG := Lib.hid (fun w' (hb : Below w.heap.size w w') => (show Calls Tryz.prog 39 #[.slice a row.length cap] w' fun e w'' => e = .returned (.string ⟨(digB row).toArray⟩) ∧ Below w'.heap.size w' w'' from Dig.format_digits (.slice a row.length cap) row _ w' (row_ri (HR.out w' hb)).1 (Nat.le_refl _) (by omega) hrk.2))
  have hdl : (digB row).length ≤ 3 := by rw [digB_len]; exact hal
  have HFIN := Lib.hid (show updB ⟨⟨nl⟩⟩ b row = [signB b] ++ nl ++ digB row by simp [updB])
  clear hn ha hk hrk hal
  generalize digB row = dg at *
  go_enter Tryz.func14, Tryz.ntmps14
  go_wp2_with (first | (go_at_call 36; refine (HN.out _).mono ?_; rintro e w1 ⟨rfl, rfl⟩) | (go_at_call 37; refine (HA.out _).mono ?_; rintro e w1 ⟨rfl, rfl⟩) | (go_at_call 38; refine (HRW.out _ (below_alloc _ _)).mono ?_; rintro e w1 ⟨rfl, rfl⟩) | fail)
  have HT := Lib.hid (Loc3.of (row_alloc w (.cells #[.string ⟨⟨nl⟩⟩, .bool b, .slice a row.length cap] 29)))
  have HB := Lib.hid (below_alloc w (.cells #[.string ⟨⟨nl⟩⟩, .bool b, .slice a row.length cap] 29))
  generalize w.alloc _ = W at *
  have y0 := HT.out.c0
  have y1 := HT.out.c1
  have y2 := HT.out.c2
  have kk : LaterU W W.drew := (Below.refl _ W).drew
  have l1 : ¬ 9223372036854775807 < nl.length + 1 := by omega
  have l2 : ¬ 9223372036854775807 < nl.length + 1 + dg.length := by omega
  have l3 : ¬ 9223372036854775807 < 1 + nl.length := by omega
  have l4 : ¬ 9223372036854775807 < 1 + nl.length + dg.length := by omega
  clear hnl hdl
  have HCH := Lib.hid (fun w' => change_of ⟨⟨nl⟩⟩ b (.slice a row.length cap) w')
  cases b
  · have hm := m_sign_del
    have HSG := Lib.hid sign_del
    change Hid (∀ w', Calls _ _ _ _ fun e w'' => e = .returned (.iface 82 (.agg #[])) ∧ _) at HCH
    go_region_held3 (fun wx => wx.cell? ⟨w.heap.size, 0, none⟩ = some (.string ⟨⟨nl⟩⟩) ∧ wx.cell? ⟨w.heap.size, 1, none⟩ = some (.bool false) ∧ wx.cell? ⟨w.heap.size, 2, none⟩ = some (.slice a row.length cap) ∧ LaterU W wx)
      ((refine ⟨?_, ?_, ?_, ?_⟩ <;> first | assumption | (simp [*]; done)))
      (first | (go_at_call 22; refine (HCH.out _).mono ?_; rintro e wq ⟨rfl, hbq⟩; (have kk : LaterU W wq := below_then (by assumption) hbq); (have k0 := (HT.out.later kk).c0); (have k1 := (HT.out.later kk).c1); (have k2 := (HT.out.later kk).c2); clear hbq) | (go_at_call 134; refine (HSG.out _).mono ?_; rintro e wq ⟨rfl, hbq⟩; (have kk : LaterU W wq := below_then (by assumption) hbq); (have k0 := (HT.out.later kk).c0); (have k1 := (HT.out.later kk).c1); (have k2 := (HT.out.later kk).c2); clear hbq) | (go_at_call 39; refine (HDG.out _ (below_then HB.out (by assumption))).mono ?_; rintro e wq ⟨rfl, hbq⟩; (have kk : LaterU W wq := below_then (by assumption) hbq); (have k0 := (HT.out.later kk).c0); (have k1 := (HT.out.later kk).c1); (have k2 := (HT.out.later kk).c2); clear hbq))
    all_goals
      go_wp2_with fail
      go_ret
      exact ⟨ret_str (by rw [HZ.out, HFIN.out]; simp [ByteArray.mk_append_mk, signB]), below_then HB.out (by assumption)⟩
  · have hm := m_sign_ins
    have HSG := Lib.hid sign_ins
    change Hid (∀ w', Calls _ _ _ _ fun e w'' => e = .returned (.iface 73 (.agg #[])) ∧ _) at HCH
    go_region_held3 (fun wx => wx.cell? ⟨w.heap.size, 0, none⟩ = some (.string ⟨⟨nl⟩⟩) ∧ wx.cell? ⟨w.heap.size, 1, none⟩ = some (.bool true) ∧ wx.cell? ⟨w.heap.size, 2, none⟩ = some (.slice a row.length cap) ∧ LaterU W wx)
      ((refine ⟨?_, ?_, ?_, ?_⟩ <;> first | assumption | (simp [*]; done)))
      (first | (go_at_call 22; refine (HCH.out _).mono ?_; rintro e wq ⟨rfl, hbq⟩; (have kk : LaterU W wq := below_then (by assumption) hbq); (have k0 := (HT.out.later kk).c0); (have k1 := (HT.out.later kk).c1); (have k2 := (HT.out.later kk).c2); clear hbq) | (go_at_call 40; refine (HSG.out _).mono ?_; rintro e wq ⟨rfl, hbq⟩; (have kk : LaterU W wq := below_then (by assumption) hbq); (have k0 := (HT.out.later kk).c0); (have k1 := (HT.out.later kk).c1); (have k2 := (HT.out.later kk).c2); clear hbq) | (go_at_call 39; refine (HDG.out _ (below_then HB.out (by assumption))).mono ?_; rintro e wq ⟨rfl, hbq⟩; (have kk : LaterU W wq := below_then (by assumption) hbq); (have k0 := (HT.out.later kk).c0); (have k1 := (HT.out.later kk).c1); (have k2 := (HT.out.later kk).c2); clear hbq))
    all_goals
      go_wp2_with fail
      go_ret
      exact ⟨ret_str (by rw [HZ.out, HFIN.out]; simp [ByteArray.mk_append_mk, signB]), below_then HB.out (by assumption)⟩
end Go.Proofs.YtmifnbplkaonaaaGreat.UpdFmt

namespace Go.Proofs.YtmifnbplkaonaaaGreat.UpdFmt
open Go Go.RowKit Byt Ints IntsLaw Cd Rows2 Tab TabSpec Exact Upd TabFmt

set_option maxRecDepth 100000 in
set_option maxHeartbeats 3200000 in
theorem spec_fmtu (nm : ByteArray) (b : Bool) (u : Value) (row : List Int) (S : Nat → Prop) (w : World) (hr : rowC.rd w S [u] row) :
    Calls Tryz.prog 17 #[.agg #[.string nm, .bool b, u]] w fun e w' => e = .returned (.string (fmtU nm b row)) ∧ Below w.heap.size w w' := by
  have HR := Lib.hid (fun w' (hb : Below w.heap.size w w') => Cd.later hr hb)
  obtain ⟨a, cap, rfl, hlm⟩ := row_form hr
  clear hr
  have HN := Lib.hid (fun w' => spec_name nm w')
  have HRW := Lib.hid (fun w' (hb : Below w.heap.size w w') => spec_row (.slice a row.length cap) row row.length _ w' (row_ri (HR.out w' hb)).1)
  have HA := Lib.hid (fun w' => Fixed.l1In_any row.length 1 3 w')
  cases hn : nameOk nm
  · have HZ := Lib.hid (fmtU_no (b := b) (show updOk nm row = false by unfold updOk; rw [hn]; rfl))
    rw [hn] at HN
    clear hn
    go_enter Tryz.func17, Tryz.ntmps17
    go_wp2_with (go_at_call 43; refine (HN.out _).mono ?_; rintro e w1 ⟨rfl, rfl⟩)
    go_ret
    exact ⟨ret_str HZ.out.symm, below_alloc _ _⟩
  rw [hn] at HN
  cases hk : rowOk row row.length
  · have HZ := Lib.hid (fmtU_no (b := b) (show updOk nm row = false by unfold updOk; rw [hk]; simp))
    rw [hk] at HRW
    clear hn hk
    go_enter Tryz.func17, Tryz.ntmps17
    go_wp2_with (first | (go_at_call 43; refine (HN.out _).mono ?_; rintro e w1 ⟨rfl, rfl⟩) | (go_at_call 44; refine (HRW.out _ (below_alloc _ _)).mono ?_; rintro e w1 ⟨rfl, rfl⟩))
    go_ret
    exact ⟨ret_str HZ.out.symm, below_alloc _ _⟩
  rw [hk] at HRW
  have HAA := Lib.hid (show (decide (1 ≤ (row.length : Int)) && decide ((row.length : Int) ≤ 3)) = decide (1 ≤ (row.length : Int) ∧ (row.length : Int) ≤ 3) by simp)
  rw [HAA.out] at HA
  cases ha : decide (1 ≤ (row.length : Int) ∧ (row.length : Int) ≤ 3)
  · have HZ := Lib.hid (fmtU_no (b := b) (show updOk nm row = false by unfold updOk; rw [ha, hn]; rfl))
    rw [ha] at HA
    clear hn hk ha HAA
    go_enter Tryz.func17, Tryz.ntmps17
    go_wp2_with (first | (go_at_call 43; refine (HN.out _).mono ?_; rintro e w1 ⟨rfl, rfl⟩) | (go_at_call 44; refine (HRW.out _ (below_alloc _ _)).mono ?_; rintro e w1 ⟨rfl, rfl⟩) | (go_at_call 45; refine (HA.out _).mono ?_; rintro e w1 ⟨rfl, rfl⟩))
    go_ret
    exact ⟨ret_str HZ.out.symm, below_alloc _ _⟩
  rw [ha] at HA
  have HZ := Lib.hid (fmtU_yes (b := b) (show updOk nm row = true by unfold updOk; rw [ha, hn, hk]; rfl))
  have hrk := rowOk_iff.1 hk
  have hal : row.length ≤ 3 := by have := of_decide_eq_true ha; omega
  obtain ⟨⟨nl⟩⟩ := nm
  have hnl : nl.length = 1 := by have := of_decide_eq_true hn; exact this.1
  have HDG := Lib.hid (fun w' (hb : Below w.heap.size w w') => spec_digits (.slice a row.length cap) row _ w' (row_ri (HR.out w' hb)).1 (Nat.le_refl _) hrk.2 (by omega))
  have hdl : (digB row).length ≤ 3 := by rw [digB_len]; exact hal
  have HFIN := Lib.hid (show updB ⟨⟨nl⟩⟩ b row = [signB b] ++ nl ++ digB row by simp [updB])
  have HT := Lib.hid (Loc3.of (row_alloc w (.cells #[.string ⟨⟨nl⟩⟩, .bool b, .slice a row.length cap] 29)))
  have HB := Lib.hid (below_alloc w (.cells #[.string ⟨⟨nl⟩⟩, .bool b, .slice a row.length cap] 29))
  clear hn ha hk hrk hal HAA
  generalize digB row = dg at *
  have l1 : ¬ 9223372036854775807 < nl.length + 1 := by omega
  have l2 : ¬ 9223372036854775807 < nl.length + 1 + dg.length := by omega
  have l3 : ¬ 9223372036854775807 < 1 + nl.length := by omega
  have l4 : ¬ 9223372036854775807 < 1 + nl.length + dg.length := by omega
  clear hnl hdl
  go_enter Tryz.func17, Tryz.ntmps17
  cases b
  all_goals
    go_wp2_with (first | (go_at_call 43; refine (HN.out _).mono ?_; rintro e w1 ⟨rfl, rfl⟩) | (go_at_call 44; refine (HRW.out _ (below_alloc _ _)).mono ?_; rintro e w1 ⟨rfl, rfl⟩) | (go_at_call 45; refine (HA.out _).mono ?_; rintro e w1 ⟨rfl, rfl⟩))
    generalize w.alloc _ = W at *
    have y0 := HT.out.c0
    have y1 := HT.out.c1
    have y2 := HT.out.c2
    have kk : LaterU W W.drew := (Below.refl _ W).drew
    go_region_held3 (fun wx => wx.cell? ⟨w.heap.size, 0, none⟩ = some (.string ⟨⟨nl⟩⟩) ∧ wx.cell? ⟨w.heap.size, 2, none⟩ = some (.slice a row.length cap) ∧ LaterU W wx)
      ((refine ⟨?_, ?_, ?_⟩ <;> first | assumption | (simp [*]; done)))
      (first | (go_at_call 46; refine (HDG.out _ (below_then HB.out (by assumption))).mono ?_; rintro e wq ⟨rfl, hbq⟩; (have kk : LaterU W wq := below_then (by assumption) hbq); (have k0 := (HT.out.later kk).c0); (have k2 := (HT.out.later kk).c2); clear hbq))
    all_goals
      go_wp2_with fail
      go_ret
      exact ⟨ret_str (by rw [HZ.out, HFIN.out]; simp [ByteArray.mk_append_mk, signB]), below_then HB.out (by assumption)⟩
end Go.Proofs.YtmifnbplkaonaaaGreat.UpdFmt

namespace Go.Proofs.YtmifnbplkaonaaaGreat.TabParse
open Go Go.RowKit Byt Ints IntsLaw Cd Rows2 Tab TabSpec TabFmt

def ba (l : List UInt8) : ByteArray := ⟨l.toArray⟩
theorem ba_list (s : ByteArray) : ba s.data.toList = s := by cases s; simp [ba]
theorem extract_ba (s : ByteArray) (a b : Nat) : s.extract a b = ba ((s.data.toList.drop a).take (b - a)) := by
  apply ByteArray.ext
  simp [ba, ByteArray.data_extract]
  apply Array.toList_inj.1
  simp

/-- The pieces between the separators. -/
def cutB (sep : UInt8) : List UInt8 → List (List UInt8)
  | [] => [[]]
  | b :: r => if b = sep then [] :: cutB sep r else
    match cutB sep r with
    | [] => [[b]]
    | x :: xs => (b :: x) :: xs
/-- p put ahead of the first piece. -/
def onto (p : List UInt8) : List (List UInt8) → List (List UInt8)
  | [] => [p]
  | x :: xs => (p ++ x) :: xs
theorem onto_nil (l : List (List UInt8)) (h : l ≠ []) : onto [] l = l := by cases l with | nil => exact absurd rfl h | cons x xs => rfl
theorem cutB_ne (sep : UInt8) : ∀ l, cutB sep l ≠ []
  | [] => by simp [cutB]
  | b :: r => by
    unfold cutB
    split
    · simp
    · split <;> simp
theorem onto_sep (sep : UInt8) (p r : List UInt8) : onto p (cutB sep (sep :: r)) = p :: cutB sep r := by
  rw [cutB, if_pos rfl]
  simp [onto]
theorem onto_other (sep b : UInt8) (p r : List UInt8) (h : b ≠ sep) : onto p (cutB sep (b :: r)) = onto (p ++ [b]) (cutB sep r) := by
  rw [cutB, if_neg h]
  cases hq : cutB sep r with
  | nil => exact absurd hq (cutB_ne sep r)
  | cons x xs => simp [onto]
def strC : Cd ByteArray := Cd.str
def strsC : Cd (List ByteArray) := Cd.sl 9 strC
theorem info_str : (Tryz.prog.info? 9).map (fun i => (i.zero, i.size, i.bytes)) = some (some (.string ⟨#[]⟩), 1, 16) := by kernel_rfl

def vals (l : List UInt8) : List Int := l.map fun b => (b.toNat : Int) - 48
theorem vals_len (l : List UInt8) : (vals l).length = l.length := by simp [vals]
theorem inr_vals (l : List UInt8) : InR (vals l) := by
  intro x hx
  simp [vals] at hx
  obtain ⟨b, _, rfl⟩ := hx
  have := UInt8.toNat_lt b
  omega


def cuts (s : ByteArray) : List ByteArray := (cutB 32 s.data.toList).map ba
theorem size_extract (s : ByteArray) (a b : Nat) (h : s.size ≤ 1048576) : (s.extract a b).size ≤ maxLen := by
  unfold maxLen
  rw [ByteArray.size_extract]
  omega
theorem take_drop_snoc {l : List UInt8} {j k : Nat} (hj : j ≤ k) (hk : k < l.length) : (l.take (k + 1)).drop j = (l.take k).drop j ++ [l[k]] := by
  rw [List.take_succ_eq_append_getElem hk, List.drop_append_of_le_length (by rw [List.length_take]; omega)]
theorem drop_take_swap (l : List UInt8) (j k : Nat) : (l.drop j).take (k - j) = (l.take k).drop j := by rw [List.drop_take]

/-- Element k of a slice of strings that is read. -/
theorem strs_at {w : World} {S : Nat → Prop} {v : Value} {l : List ByteArray} (h : strsC.rd w S [v] l) {k : Nat} (hk : k < l.length) :
    ∃ b off cap, v = .slice (some ⟨b, off, none⟩) l.length cap ∧ b < w.heap.size ∧ w.cell? ⟨b, off + k, none⟩ = some (.string l[k]) := by
  obtain ⟨ad, cap, e, _, hc⟩ := h
  injection e with e _
  subst e
  rcases hc with rfl | ⟨b, off, rfl, hS, hb, hc⟩
  · simp at hk
  obtain ⟨xs, h1, rfl, _⟩ := hc k hk
  refine ⟨b, off, cap, rfl, hb, ?_⟩
  have := h1 0 (by simp)
  simpa [strC, Cd.str, Cd.flat] using this
theorem strs_form {w : World} {S : Nat → Prop} {v : Value} {l : List ByteArray} (h : strsC.rd w S [v] l) : ∃ a cap, v = .slice a l.length cap ∧ l.length ≤ 9223372036854775807 := by
  obtain ⟨ad, cap, e, hl, _⟩ := h
  injection e with e _
  exact ⟨ad, cap, e, hl⟩

theorem not_below {α : Type} {c : Cd α} {w : World} {base k : Nat} {us : List Value} {a : α} {fp : List Nat} (h : c.ow w base us a fp) (hk : k < base) : k ∉ fp := fun q => by
  have := (c.ow_lt h k q).1
  omega

/-- The name, the arity and the rows that a string spells. -/
def pNm (s : ByteArray) : ByteArray := s.extract 0 1
def pAr (s : ByteArray) : Int := ((s.data.toList.getD 1 0).toNat : Int) - 48
def pRows (s : ByteArray) : List (List Int) := if 3 < s.size then (cuts (s.extract 3 s.size)).map fun x => vals x.data.toList else []
def ParP (s : ByteArray) : Prop := 3 ≤ s.size ∧ s.size ≤ 40 ∧ fmtT (pNm s) (pAr s) (pRows s) = s
instance (s : ByteArray) : Decidable (ParP s) := by unfold ParP; infer_instance
def pOk (s : ByteArray) : Bool := decide (ParP s)
def ParAns (s : ByteArray) (w : World) (e : Ending) (w' : World) : Prop :=
  ∃ u' fp, e = .returned (.tuple #[.agg #[.string (if pOk s then pNm s else ⟨#[]⟩), .int .i64 (if pOk s then pAr s else 0), u'], .bool (pOk s)]) ∧ rowsC.ow w' w.heap.size [u'] (if pOk s then pRows s else []) fp ∧ fp.Nodup ∧ Below w.heap.size w w'

end Go.Proofs.YtmifnbplkaonaaaGreat.TabParse

namespace Go.Proofs.YtmifnbplkaonaaaGreat.TabSpec
open Go Go.RowKit Byt Ints IntsLaw Cd Rows2 Tab

def SelP (row cols : List Int) : Prop := ∀ c ∈ cols, 0 ≤ c ∧ c < row.length
instance (row cols : List Int) : Decidable (SelP row cols) := by unfold SelP; infer_instance
def selOk (row cols : List Int) : Bool := decide (SelP row cols)
def selR (row cols : List Int) : List Int := cols.map fun c => row.getD c.toNat 0
def SelAns (row cols : List Int) (w : World) (e : Ending) (w' : World) : Prop :=
  ∃ u' fp, e = .returned (.tuple #[u', .bool (selOk row cols)]) ∧ rowC.ow w' w.heap.size [u'] (if selOk row cols then selR row cols else []) fp ∧ fp.Nodup ∧ Below w.heap.size w w'
theorem selR_next {row cols : List Int} {k : Nat} (h : k < cols.length) {t : Nat} (ht : t < row.length) (he : cols[k] = (t : Int)) : selR row (cols.take (k + 1)) = selR row (cols.take k) ++ [row[t]] := by
  unfold selR
  rw [List.take_succ_eq_append_getElem h, List.map_append, List.map_singleton, he, Int.toNat_natCast]
  simp [ht]
theorem inr_sel {row cols : List Int} (hr : InR row) : InR (selR row cols) := by
  intro x hx
  simp [selR] at hx
  obtain ⟨c, _, rfl⟩ := hx
  by_cases h : c.toNat < row.length
  · rw [List.getElem?_eq_getElem h]
    exact hr _ (List.getElem_mem h)
  · rw [List.getElem?_eq_none (by omega)]
    simp

end Go.Proofs.YtmifnbplkaonaaaGreat.TabSpec

namespace Go.Proofs.YtmifnbplkaonaaaGreat.TabImp
open Go Go.RowKit Byt Ints IntsLaw Cd Rows2 Tab TabSpec

def rowsOk (rows : List (List Int)) (ar : Int) : Bool := decide ((∀ r ∈ rows, rowOk r ar = true) ∧ Asc rows)
set_option maxRecDepth 100000 in
set_option maxHeartbeats 1600000 in
theorem are_rows (ar : Int) (u : Value) (rows : List (List Int)) (S : Nat → Prop) (w : World) (hr : rowsC.rd w S [u] rows) :
    Calls Tryz.prog 79 #[u, .int .i64 ar] w fun e w' => e = .returned (.bool (rowsOk rows ar)) ∧ w = w' := by
  obtain ⟨a, cap, rfl, hlm⟩ := rows_form hr
  have HR := Lib.hid hr
  have HOK := Lib.hid (show (∀ r ∈ rows, rowOk r ar = true) → Asc rows → rowsOk rows ar = true from fun q1 q2 => decide_eq_true ⟨q1, q2⟩)
  have HNO1 := Lib.hid (show ∀ r ∈ rows, rowOk r ar = false → rowsOk rows ar = false from fun r hr h => decide_eq_false fun q => by have := q.1 r hr; rw [h] at this; exact absurd this (by decide))
  have HNO2 := Lib.hid (show ¬ Asc rows → rowsOk rows ar = false from fun h => decide_eq_false fun q => h q.2)
  clear hr
  go_enter Tryz.func79, Tryz.ntmps79
  go_wp2_with fail
  go_loop [9] (fun i => ∃ k : Nat, k ≤ rows.length ∧ i = .int .i64 k ∧ Hid (∀ r ∈ rows.take k, rowOk r ar = true) ∧ Hid (Asc (rows.take k))) (fun i => rows.length - (intOf i).toNat)
  case atStart => exact ⟨0, Nat.zero_le _, rfl, Lib.hid (fun x hx => by simp at hx), Lib.hid List.Pairwise.nil⟩
  case round =>
    obtain ⟨k, hk, rfl, hro, has⟩ := hrel
    by_cases hlt : k < rows.length
    · obtain ⟨b, off, cap', v, e1, hbB, hc, hv⟩ := rows_at HR.out hlt
      injection e1 with e1 e2 e3
      subst e1 e3
      have p1 : (0 : Int) ≤ (k : Int) := by omega
      have p2 : (k : Int) < (rows.length : Int) := by omega
      have HROW := Lib.hid (is_row v rows[k] ar _ w (row_ri hv).1)
      by_cases hok : rowOk rows[k] ar = true
      case neg =>
        have hok : rowOk rows[k] ar = false := by simpa using hok
        rw [hok] at HROW
        have HZ := Lib.hid (HNO1.out _ (List.getElem_mem hlt) hok)
        clear hok hv
        go_wp2_with (go_at_call 38; refine HROW.out.mono ?_; rintro e w1 ⟨rfl, rfl⟩)
        go_ret
        exact ⟨ret_b HZ.out.symm, rfl⟩
      rw [hok] at HROW
      have hro2 := Lib.hid (show ∀ r ∈ rows.take (k + 1), rowOk r ar = true by
        rw [List.take_succ_eq_append_getElem hlt]
        intro x hx'
        rcases List.mem_append.1 hx' with q | q
        · exact hro.out x q
        · rw [List.mem_singleton.1 q]; exact hok)
      clear hok
      by_cases hk0 : k = 0
      · have has2 := Lib.hid (asc_more has.out hlt (fun j hj => by omega))
        have q0 : ¬ 0 < k := by omega
        clear hv hk0
        go_wp2_with (go_at_call 38; refine HROW.out.mono ?_; rintro e w1 ⟨rfl, rfl⟩)
        go_round
        case rel => exact ⟨k + 1, by omega, by go_num, hro2, has2⟩
        case measure => simp [intOf]; omega
      · obtain ⟨j, hj⟩ : ∃ j, k = j + 1 := ⟨k - 1, by omega⟩
        have hjl : j < rows.length := by omega
        obtain ⟨b', off', cap', v', e1, hbB', hc', hv'⟩ := rows_at HR.out hjl
        injection e1 with e1 e2 e3
        injection e1 with e1
        injection e1 with e1 e2 _
        subst e1 e2 e3
        have HC := Lib.hid (impl_cmp v' v (rows[j]'hjl) rows[k] _ _ w (row_ri hv').1 (row_ri hv).1)
        have hbd := cmpR_bd (rows[j]'hjl) rows[k]
        have p3 : (0 : Int) ≤ (j : Int) := by omega
        have p4 : (j : Int) < (rows.length : Int) := by omega
        have p5 : 0 < k := by omega
        have p6 : (k : Int) - 1 = (j : Int) := by omega
        by_cases hcmp : cmpR (rows[j]'hjl) rows[k] < 0
        · have has2 := Lib.hid (asc_more has.out hlt (fun j' hj hj' => by
            obtain rfl : j' = j := by omega
            exact hcmp))
          have hge : ¬ (0 : Int) ≤ cmpR (rows[j]'hjl) rows[k] := by omega
          have HJ := Lib.hid hj
          clear hv hv' hj hk0 hcmp hbd
          generalize cmpR (rows[j]'hjl) rows[k] = z at *
          go_wp2_with (first | (go_at_call 38; refine HROW.out.mono ?_; rintro e w1 ⟨rfl, rfl⟩) | (go_at_call 86; refine HC.out.mono ?_; rintro e w1 ⟨rfl, rfl⟩))
          go_round
          case rel => exact ⟨k + 1, by omega, by go_num, hro2, has2⟩
          case measure => simp [intOf]; omega
        · have HZ := Lib.hid (HNO2.out (by
            subst hj
            exact asc_bad (by omega) hcmp))
          have hge : (0 : Int) ≤ cmpR (rows[j]'hjl) rows[k] := by omega
          have HJ := Lib.hid hj
          clear hv hv' hj hk0 hcmp hbd
          generalize cmpR (rows[j]'hjl) rows[k] = z at *
          go_wp2_with (first | (go_at_call 38; refine HROW.out.mono ?_; rintro e w1 ⟨rfl, rfl⟩) | (go_at_call 86; refine HC.out.mono ?_; rintro e w1 ⟨rfl, rfl⟩))
          go_ret
          exact ⟨ret_b HZ.out.symm, rfl⟩
    · have ek : k = rows.length := by omega
      subst ek
      rw [List.take_length] at *
      have HZ := Lib.hid (HOK.out hro.out has.out)
      go_wp2
      go_ret
      exact ⟨ret_b HZ.out.symm, rfl⟩
set_option maxRecDepth 100000 in
set_option maxHeartbeats 1600000 in
theorem impl_valid (nm : ByteArray) (ar : Int) (u : Value) (rows : List (List Int)) (S : Nat → Prop) (w : World) (hr : rowsC.rd w S [u] rows) :
    Calls Tryz.prog 53 #[.agg #[.string nm, .int .i64 ar, u]] w fun e w' => e = .returned (.bool (tabOk nm ar rows)) ∧ Below w.heap.size w w' := by
  obtain ⟨a, cap, rfl, hlm⟩ := rows_form hr
  by_cases hnm : nameOk nm = true
  case neg =>
    have hnm : nameOk nm = false := by simpa using hnm
    have HNM := Lib.hid (fun w => is_name_at hnm w)
    have HZ := Lib.hid (show tabOk nm ar rows = false from decide_eq_false fun q => absurd (hnm.symm.trans q.1) (by decide))
    clear hnm hr
    go_enter Tryz.func53, Tryz.ntmps53
    go_wp2_with (go_at_call 36; refine (HNM.out _).mono ?_; rintro e w1 ⟨rfl, rfl⟩)
    go_ret
    exact ⟨ret_b HZ.out.symm, below_alloc _ _⟩
  have HNM := Lib.hid (fun w => is_name_at hnm w)
  by_cases har : 1 ≤ ar ∧ ar ≤ 3
  case neg =>
    have HIN := Lib.hid (fun w => is_arity_at (k := ar) (decide_eq_false har) w)
    have HZ := Lib.hid (show tabOk nm ar rows = false from decide_eq_false fun q => har ⟨q.2.1, q.2.2.1⟩)
    clear hnm hr har
    go_enter Tryz.func53, Tryz.ntmps53
    go_wp2_with (first | (go_at_call 36; refine (HNM.out _).mono ?_; rintro e w1 ⟨rfl, rfl⟩) | (go_at_call 37; refine (HIN.out _).mono ?_; rintro e w1 ⟨rfl, rfl⟩))
    go_ret
    exact ⟨ret_b HZ.out.symm, below_alloc _ _⟩
  have HIN := Lib.hid (fun w => is_arity_at (k := ar) (decide_eq_true har) w)
  by_cases h8 : (rows.length : Int) ≤ 8
  case neg =>
    have HZ := Lib.hid (show tabOk nm ar rows = false from decide_eq_false fun q => by have := q.2.2.2.1; omega)
    have h8' : ¬ rows.length ≤ 8 := by omega
    clear hnm hr har
    go_enter Tryz.func53, Tryz.ntmps53
    go_wp2_with (first | (go_at_call 36; refine (HNM.out _).mono ?_; rintro e w1 ⟨rfl, rfl⟩) | (go_at_call 37; refine (HIN.out _).mono ?_; rintro e w1 ⟨rfl, rfl⟩))
    go_ret
    exact ⟨ret_b HZ.out.symm, below_alloc _ _⟩
  have h8' : rows.length ≤ 8 := by omega
  have HZ := Lib.hid (show rowsOk rows ar = tabOk nm ar rows from decide_eq_decide.2 ⟨fun q => ⟨hnm, har.1, har.2, h8', q.1, q.2⟩, fun q => ⟨q.2.2.2.2.1, q.2.2.2.2.2⟩⟩)
  have HRO := Lib.hid (are_rows ar _ rows S _ (Cd.later hr (below_alloc w (.cells #[.string nm, .int .i64 ar, .slice a rows.length cap] 51 (0, 0)))))
  clear hnm har hr
  generalize rowsOk rows ar = z at *
  go_enter Tryz.func53, Tryz.ntmps53
  go_wp2_with (first | (go_at_call 36; refine (HNM.out _).mono ?_; rintro e w1 ⟨rfl, rfl⟩) | (go_at_call 37; refine (HIN.out _).mono ?_; rintro e w1 ⟨rfl, rfl⟩) | (go_at_call 79; refine HRO.out.mono ?_; rintro e w1 ⟨rfl, rfl⟩))
  go_ret
  exact ⟨ret_b HZ.out, below_alloc _ _⟩

set_option maxRecDepth 100000 in
theorem slices_equal (v1 v2 : Value) (a b : List Int) (B1 B2 : Nat) (w : World) (h1 : RI w v1 a B1) (h2 : RI w v2 b B2) :
    Calls Tryz.prog 47 #[v1, v2] w fun e w' => e = .returned (.bool (decide (a = b))) ∧ ∃ m, w' = w.drewN m := by
  have hr1 := Lib.hid h1
  have hr2 := Lib.hid h2
  obtain ⟨a1, cap1, rfl, hl1, hc1⟩ := h1
  obtain ⟨a2, cap2, rfl, hl2, hc2⟩ := h2
  clear hc1 hc2
  by_cases hlen : a.length = b.length
  case neg =>
    have HZ := Lib.hid (show decide (a = b) = false from decide_eq_false fun q => hlen (by rw [q]))
    have t1 : ((a.length : Int) != (b.length : Int)) = true := by rw [bne_iff_ne]; omega
    clear hlen
    go_enter Tryz.func47, Tryz.ntmps47
    go_wp2_with fail
    go_ret
    exact ⟨ret_b HZ.out.symm, 0, rfl⟩
  have t1 : ((a.length : Int) != (b.length : Int)) = false := by rw [bne_eq_false_iff_eq]; omega
  have HL := Lib.hid hlen
  clear hlen
  go_enter Tryz.func47, Tryz.ntmps47
  go_wp2
  go_loopw [13] (fun i wr => ∃ k m : Nat, k ≤ a.length ∧ i = .int .i64 k ∧ Hid (a.take k = b.take k) ∧ wr = w.drewN m) (fun i _ => a.length - (intOf i).toNat)
  case atStart => exact ⟨0, 0, Nat.zero_le _, rfl, Lib.hid rfl, rfl⟩
  case round =>
    obtain ⟨k, m, hk, rfl, htk, rfl⟩ := hrel
    by_cases hlt : k < a.length
    · have hlt2 : k < b.length := by have := HL.out; omega
      obtain ⟨x, xo, xc, e1, _, hx⟩ := ri_at hr1.out hlt
      injection e1 with e1 e2 e3
      subst e1 e3
      obtain ⟨y, yo, yc, e1, _, hy⟩ := ri_at hr2.out hlt2
      injection e1 with e1 e2 e3
      subst e1 e3
      have p1 : (0 : Int) ≤ (k : Int) := by omega
      have p2 : (k : Int) < (a.length : Int) := by omega
      have p3 : (k : Int) < (b.length : Int) := by omega
      by_cases hz : a[k] = b[k]
      · have htk2 := Lib.hid (show a.take (k + 1) = b.take (k + 1) by rw [List.take_succ_eq_append_getElem hlt, List.take_succ_eq_append_getElem hlt2, htk.out, hz])
        have tz : (a[k] != b[k]) = false := by rw [bne_eq_false_iff_eq]; exact hz
        clear hz
        go_wp2
        go_quiet (fail)
        go_wp2
        go_roundw
        case rel => exact ⟨k + 1, _, by omega, by go_num, htk2, rfl⟩
        case measure => simp [intOf]; omega
      · have HZ := Lib.hid (show decide (a = b) = false from decide_eq_false fun q => hz (by simp only [q]))
        have tz : (a[k] != b[k]) = true := by rw [bne_iff_ne]; exact hz
        clear hz
        go_wp2
        go_quiet (fail)
        go_wp2
        go_ret
        exact ⟨ret_b HZ.out.symm, dn2 _ _ _⟩
    · have ek : k = a.length := by omega
      subst ek
      have HZ := Lib.hid (show decide (a = b) = true from decide_eq_true (by
        have := htk.out
        rw [List.take_length, HL.out, List.take_length] at this
        exact this))
      go_wp2
      go_ret
      exact ⟨ret_b HZ.out.symm, m, rfl⟩
theorem slices_equal_at {v1 v2 : Value} {a b : List Int} {B1 B2 : Nat} {w : World} (h1 : RI w v1 a B1) (h2 : RI w v2 b B2) {r : Bool} (h : decide (a = b) = r) :
    Calls Tryz.prog 47 #[v1, v2] w fun e w' => e = .returned (.bool r) ∧ ∃ m, w' = w.drewN m := by
  subst h
  exact slices_equal v1 v2 a b B1 B2 w h1 h2

set_option maxRecDepth 100000 in
set_option maxHeartbeats 800000 in
theorem equal_func (v1 v2 : Value) (r1 r2 : List (List Int)) (S1 S2 : Nat → Prop) (w : World) (h1 : rowsC.rd w S1 [v1] r1) (h2 : rowsC.rd w S2 [v2] r2) :
    Calls Tryz.prog 81 #[v1, v2, .func (.func 47) #[] #[]] w fun e w' => e = .returned (.bool (decide (r1 = r2))) ∧ ∃ m, w' = w.drewN m := by
  have HR1 := Lib.hid (fun m => rd_drewN h1 m)
  have HR2 := Lib.hid (fun m => rd_drewN h2 m)
  obtain ⟨b1, cap1, rfl, hl1⟩ := rows_form h1
  obtain ⟨b2, cap2, rfl, hl2⟩ := rows_form h2
  clear h1 h2
  by_cases hlen : r1.length = r2.length
  case neg =>
    have HZ := Lib.hid (show decide (r1 = r2) = false from decide_eq_false fun q => hlen (by rw [q]))
    have t1 : ((r1.length : Int) != (r2.length : Int)) = true := by rw [bne_iff_ne]; omega
    clear hlen
    go_enter Tryz.func81, Tryz.ntmps81
    go_wp2_with fail
    go_ret
    exact ⟨ret_b HZ.out.symm, 0, rfl⟩
  have t1 : ((r1.length : Int) != (r2.length : Int)) = false := by rw [bne_eq_false_iff_eq]; omega
  have HL := Lib.hid hlen
  clear hlen
  go_enter Tryz.func81, Tryz.ntmps81
  go_wp2_with fail
  go_loopw [17] (fun i wr => ∃ k m : Nat, k ≤ r1.length ∧ i = .int .i64 k ∧ Hid (r1.take k = r2.take k) ∧ wr = w.drewN m) (fun i _ => r1.length - (intOf i).toNat)
  case atStart => exact ⟨0, 0, Nat.zero_le _, rfl, Lib.hid rfl, rfl⟩
  case round =>
    obtain ⟨k, m, hk, rfl, htk, hwr⟩ := hrel
    have HWR := Lib.hid hwr
    by_cases hlt : k < r1.length
    · have hlt2 : k < r2.length := by have := HL.out; omega
      obtain ⟨b, off, cap', v, e1, hbB, hc, hv⟩ := rows_at (HR1.out m) hlt
      injection e1 with e1 e2 e3
      subst e1 e3
      obtain ⟨b', off', cap', v', e1, hbB', hc', hv'⟩ := rows_at (HR2.out m) hlt2
      injection e1 with e1 e2 e3
      subst e1 e3
      rw [← hwr] at hc hc' hv hv'
      clear hwr
      have p1 : (0 : Int) ≤ (k : Int) := by omega
      have p2 : (k : Int) < (r1.length : Int) := by omega
      have p3 : (k : Int) < (r2.length : Int) := by omega
      by_cases hz : r1[k] = r2[k]
      · have htk2 := Lib.hid (show r1.take (k + 1) = r2.take (k + 1) by rw [List.take_succ_eq_append_getElem hlt, List.take_succ_eq_append_getElem hlt2, htk.out, hz])
        have HC := Lib.hid (slices_equal_at (row_ri hv).1 (row_ri hv').1 (decide_eq_true hz))
        clear hz hv hv'
        go_wp2_with (go_at_call 47; refine HC.out.mono ?_; rintro e w1 ⟨rfl, m1, rfl⟩)
        go_roundw
        case rel => exact ⟨k + 1, _, by omega, by go_num, htk2, by rw [HWR.out, World.drewN_drewN]⟩
        case measure => simp [intOf]; omega
      · have HZ := Lib.hid (show decide (r1 = r2) = false from decide_eq_false fun q => hz (by simp only [q]))
        have HC := Lib.hid (slices_equal_at (row_ri hv).1 (row_ri hv').1 (decide_eq_false hz))
        clear hz hv hv'
        go_wp2_with (go_at_call 47; refine HC.out.mono ?_; rintro e w1 ⟨rfl, m1, rfl⟩)
        go_ret
        exact ⟨ret_b HZ.out.symm, _, by rw [HWR.out, World.drewN_drewN]⟩
    · have ek : k = r1.length := by omega
      subst ek
      clear hwr
      have HZ := Lib.hid (show decide (r1 = r2) = true from decide_eq_true (by
        have := htk.out
        rw [List.take_length, HL.out, List.take_length] at this
        exact this))
      go_wp2_with fail
      go_ret
      exact ⟨ret_b HZ.out.symm, m, HWR.out⟩

set_option maxRecDepth 100000 in
theorem equal_rows (v1 v2 : Value) (r1 r2 : List (List Int)) (S1 S2 : Nat → Prop) (w : World) (h1 : rowsC.rd w S1 [v1] r1) (h2 : rowsC.rd w S2 [v2] r2) :
    Calls Tryz.prog 62 #[v1, v2] w fun e w' => e = .returned (.bool (decide (r1 = r2))) ∧ ∃ m, w' = w.drewN m := by
  have HC := Lib.hid (equal_func v1 v2 r1 r2 S1 S2 w h1 h2)
  obtain ⟨b1, cap1, rfl, hl1⟩ := rows_form h1
  obtain ⟨b2, cap2, rfl, hl2⟩ := rows_form h2
  clear h1 h2
  generalize decide (r1 = r2) = z at *
  go_enter Tryz.func62, Tryz.ntmps62
  go_wp2_with (go_at_call 81; refine HC.out.mono ?_; rintro e w1 ⟨rfl, m1, rfl⟩)
  go_ret
  exact ⟨rfl, m1, rfl⟩
set_option maxRecDepth 100000 in
set_option maxHeartbeats 1600000 in
theorem impl_equal (n1 n2 : ByteArray) (a1 a2 : Int) (u1 u2 : Value) (r1 r2 : List (List Int)) (S1 S2 : Nat → Prop) (w : World) (h1 : rowsC.rd w S1 [u1] r1) (h2 : rowsC.rd w S2 [u2] r2) :
    Calls Tryz.prog 32 #[.agg #[.string n1, .int .i64 a1, u1], .agg #[.string n2, .int .i64 a2, u2]] w fun e w' => e = .returned (.bool (sameT n1 n2 a1 a2 r1 r2)) ∧ Below w.heap.size w w' := by
  have HC := Lib.hid (fun w' (hb : Below w.heap.size w w') => equal_rows u1 u2 r1 r2 S1 S2 w' (Cd.later h1 hb) (Cd.later h2 hb))
  have hb0 := below_then (below_alloc w (.cells #[.string n1, .int .i64 a1, u1] 51 (0, 0))) (below_alloc _ (.cells #[.string n2, .int .i64 a2, u2] 51 (0, 0)))
  obtain ⟨b1, cap1, rfl, hl1⟩ := rows_form h1
  obtain ⟨b2, cap2, rfl, hl2⟩ := rows_form h2
  have HB := Lib.hid hb0
  clear h1 h2 hb0
  by_cases hn : n1 = n2
  case neg =>
    have HZ := Lib.hid (show sameT n1 n2 a1 a2 r1 r2 = false from decide_eq_false fun q => hn q.1)
    have t1 := str_ne hn
    clear hn
    go_enter Tryz.func32, Tryz.ntmps32
    go_wp2_with fail
    go_ret
    exact ⟨ret_b HZ.out.symm, HB.out⟩
  subst hn
  by_cases ha : a1 = a2
  case neg =>
    have HZ := Lib.hid (show sameT n1 n1 a1 a2 r1 r2 = false from decide_eq_false fun q => ha q.2.1)
    have t1 : (a1 == a2) = false := by rw [beq_eq_false_iff_ne]; exact ha
    clear ha
    go_enter Tryz.func32, Tryz.ntmps32
    go_wp2_with fail
    go_ret
    exact ⟨ret_b HZ.out.symm, HB.out⟩
  subst ha
  have HS := Lib.hid (show sameT n1 n1 a1 a1 r1 r2 = decide (r1 = r2) by unfold sameT; simp)
  generalize decide (r1 = r2) = z at *
  have t1 : (a1 == a1) = true := by simp
  have t2 : (n1.toList == n1.toList) = true := by simp
  go_enter Tryz.func32, Tryz.ntmps32
  go_wp2_with (go_at_call 62; refine (HC.out _ HB.out).mono ?_; rintro e w1 ⟨rfl, m1, rfl⟩)
  go_ret
  exact ⟨ret_b HS.out.symm, ⟨HB.out.os, HB.out.tape, HB.out.output, HB.out.size, HB.out.block⟩⟩

end Go.Proofs.YtmifnbplkaonaaaGreat.TabImp

namespace Go.Proofs.YtmifnbplkaonaaaGreat.TabImp
open Go Go.RowKit Byt Ints IntsLaw Cd Rows2 Tab TabSpec

set_option maxRecDepth 100000 in
theorem copy_cells_int (a : Option Addr) (n c : Nat) (us : List Value) (w : World) (hn : us.length = n) (hl : n ≤ 1048577) (hc : 0 < n → ∃ b off, a = some ⟨b, off, none⟩ ∧ b < w.heap.size ∧ ∀ j v, us[j]? = some v → w.cell? ⟨b, off + j, none⟩ = some v) (h1 : ∀ v ∈ us, v.oneCell' = true) :
    Calls Tryz.prog 30 #[.slice a n c] w fun e w' => e = .returned (.slice (some ⟨w.heap.size, 0, none⟩) n n) ∧ w'.ownsRow w.heap.size 3 1 (.slice (some ⟨w.heap.size, 0, none⟩) n n) n us ∧ Below w.heap.size w w' := by
  obtain ⟨i0, hi, hz0, hz1, hz2⟩ := info_parts info_i64
  have HC := Lib.hid hc
  have HU := Lib.hid h1
  clear hc h1
  go_enter Tryz.func30, Tryz.ntmps30
  go_wp2_with (at_make; refine wpList_make_full _ rfl _ _ 27 rfl w.heap.size 3 i0 (.int .i64 0) 1 Tryz.underlying27 hi hz0 hz1 _ _ _ _ n rfl rfl rfl rfl (by rw [hz2]; omega) (by unfold maxLen; omega) (Nat.le_refl _) ?_)
  intro w1 hown0 hg0
  have hb1 : Below w.heap.size w w1 := (Below.refl _ _).grown hg0 (Nat.le_refl _) (by simp)
  obtain ⟨cur, hcur, hlen⟩ : ∃ cur : List Value, w1.heap[w.heap.size]? = some (.cells cur.toArray 3 (0, 0)) ∧ cur.length = n := by
    rcases hown0.2 with ⟨e1, _⟩ | ⟨g, cap, cur, e1, _, hg, _, _, hcs, _⟩
    · cases e1
    · simp only [Value.slice.injEq, Option.some.injEq, Addr.mk.injEq, and_true, true_and] at e1
      obtain ⟨rfl, rfl⟩ := e1
      exact ⟨cur.toList, by simpa using hg, by simpa using hcs⟩
  have HCUR := Lib.hid hcur
  have HLEN := Lib.hid hlen
  have HN := Lib.hid hn
  have HB := Lib.hid hb1
  clear hown0 hg0 hcur hlen hn hb1
  go_wp2_with (with_reducible refine wpList_copy_splice rfl (.tmp 7) (.tmp 8) 27 27 rfl 3 Tryz.underlying27 (by rw [hi]; simp [hz1]) (some ⟨w.heap.size, 0, none⟩) a n n n c rfl rfl w.heap.size 0 cur 3 HCUR.out us (by rw [HN.out]; exact (Nat.min_self n).symm) ?_ (by rw [HN.out, HLEN.out]; omega) HU.out w.heap.size w HB.out (Nat.le_refl _) ?_)
  · intro hp
    obtain ⟨b, off, rfl, hb, hcell⟩ := HC.out (by rw [HN.out] at hp; exact hp)
    first | refine ⟨rfl, ⟨b, off, none⟩, rfl, fun j v hj => ?_⟩ | refine ⟨⟨b, off, none⟩, rfl, fun j v hj => ?_⟩
    have ha : (⟨b, off, none⟩ : Addr).add j = ⟨b, off + j, none⟩ := by unfold Addr.add; split <;> simp_all
    rw [ha]
    exact (HB.out.cell (p := ⟨b, off + j, none⟩) hb).trans (hcell j v hj)
  intro w2 hg2 hb2
  go_wp2_with fail
  go_ret
  refine ⟨rfl, ⟨by rw [HN.out]; omega, .inr ⟨w.heap.size, n, (splice cur 0 us).toArray, rfl, Nat.le_refl _, hg2.out, Nat.le_refl _, by unfold maxLen; omega, ?_, ?_⟩⟩, hb2⟩
  · rw [List.size_toArray, length_splice _ _ _ (by rw [HN.out, HLEN.out]; omega), HLEN.out, Nat.mul_one]
  · have : (splice cur 0 us) = us := by
      unfold splice
      rw [List.take_zero, List.drop_eq_nil_of_le (by rw [HN.out, HLEN.out]; omega)]
      simp
    simp only [this, Nat.mul_one]
    exact List.take_of_length_le (by rw [HN.out]; omega)


theorem copy_ints (v : Value) (l : List Int) (S : Nat → Prop) (w : World) (hr : rowC.rd w S [v] l) (hl : l.length ≤ 1048577) :
    Calls Tryz.prog 30 #[v] w fun e w' => ∃ g c, e = .returned (.slice (some ⟨g, 0, none⟩) l.length c) ∧ rowC.ow w' w.heap.size [.slice (some ⟨g, 0, none⟩) l.length c] l [g] ∧ Below w.heap.size w w' := by
  obtain ⟨⟨a, cap, rfl, hlm, hc⟩, hin⟩ := row_ri hr
  refine (copy_cells_int a l.length cap (l.map iv) w (by simp) hl ?_ ?_).mono ?_
  · intro h0
    rcases hc with h | ⟨b, off, rfl, hb, hcell⟩
    · rw [h] at h0; simp at h0
    · refine ⟨b, off, rfl, hb, fun j v hj => ?_⟩
      have hj' : j < l.length := by
        have := (List.getElem?_eq_some_iff.1 hj).1
        simpa using this
      rw [hcell j hj']
      rw [List.getElem?_map, List.getElem?_eq_getElem hj'] at hj
      exact hj
  · intro v hv
    obtain ⟨x, _, rfl⟩ := List.mem_map.1 hv
    rfl
  · rintro e w' ⟨rfl, hown, hb⟩
    exact ⟨_, _, rfl, Cd.ow_of_own hown hin, hb⟩
end Go.Proofs.YtmifnbplkaonaaaGreat.TabImp

namespace Go.Proofs.YtmifnbplkaonaaaGreat.Cd
open Go Go.RowKit Byt Ints
namespace Cd
variable {α β : Type}

theorem wp_appendR {P : Program} {c : Cd α} (hn : c.n = 1) {o : Oper} {a : Act} {K : Act → World → Prop} {Q : Exit → Act → World → Prop} {w : World} (s x : Operand) (t : TypeId)
    (ho : o.op = .call { callee := .builtin .append, args := #[s, x], argTypes := #[t, t] })
    (base : Nat) (e : TypeId) (z : Value) (bytes : Nat) (ht : P.underlying t = some (.slice e)) (hinfo : (P.info? e).map (fun i => (i.zero, i.size, i.bytes)) = some (some z, 1, bytes)) (hzs : z.cells.size = 1) (hby : bytes ≤ 100)
    (g cap n : Nat) (l : List α) (fp : List Nat) (hs : a.eval s = .slice (some ⟨g, 0, none⟩) n cap) (hnl : n = l.length) (how : (sl e c).ow w base [.slice (some ⟨g, 0, none⟩) n cap] l fp) (hd : fp.Nodup) (hroom : n + 1 ≤ cap) (b : Nat) (u : Value) (hx : a.eval x = .slice (some ⟨b, 0, none⟩) 1 1) (hu : w.cell? ⟨b, 0, none⟩ = some u)
    (y : α) (f : List Nat) (hy : c.ow w base [u] y f) (hfd : f.Nodup) (hdis : ∀ b ∈ f, b ∉ fp) (hlen : n + 1 ≤ 1000000000000) (hbase : base ≤ w.heap.size)
    (h : ∀ w' fp', (sl e c).ow w' base [.slice (some ⟨g, 0, none⟩) (n + 1) cap] (l ++ [y]) fp' → fp'.Nodup → (∀ b ∈ fp', b ∈ fp ∨ b ∈ f ∨ w.heap.size ≤ b) → Touch fp w w' →
      K (a.put o.dst (.slice (some ⟨g, 0, none⟩) (n + 1) cap)) w') : o.wp P a w K Q := by
  subst hnl
  obtain ⟨i0, hi, hz0, hz1, hz2⟩ := info_parts hinfo
  have hlt : ∀ b ∈ fp, b < w.heap.size := fun b hb => ((sl e c).ow_lt how b hb).2
  obtain ⟨v', xss, fps, e1, hown, hE, hfp⟩ := how
  injection e1 with e1 _
  subst e1
  have hown0 := hown
  rw [hn] at hown
  have hnews : ∀ j u', [u][j]? = some u' → w.cell? ((⟨b, 0, none⟩ : Addr).add j) = some u' := by
    intro j u' hj
    match j, hj with
    | 0, hj =>
      have e1 : (⟨b, 0, none⟩ : Addr).add 0 = ⟨b, 0, none⟩ := by simp [Addr.add]
      rw [e1, hu]
      simpa using hj
  have hone : ∀ u' ∈ [u], u'.oneCell' = true := fun u' hu' => by
    rw [List.mem_singleton.1 hu']
    exact c.one (c.ow_rd hy) u (List.mem_singleton.2 rfl)
  have hbb : (l.length + 1) * bytes ≤ 140737488355328 := by
    calc (l.length + 1) * bytes ≤ 1000000000000 * 100 := Nat.mul_le_mul hlen hby
      _ ≤ 140737488355328 := by decide
  obtain ⟨v2, w2, hr, h2, h3, _, h5⟩ := run_append_own_at (P := P) w base t o.type e i0 z 1 bytes ht hi hz0 hz1 hz2 hzs (by decide) _ l.length xss.flatten hown ⟨b, 0, none⟩ 1 1 [u] rfl hnews hone (by unfold maxLen; omega) hbb hbase
  obtain ⟨cur, hg, hcs, hcapm⟩ : ∃ cur : Array Value, w.heap[g]? = some (.cells cur e (0, 0)) ∧ cur.size = cap ∧ cap ≤ maxLen := by
    rcases hown.2 with ⟨e1, _⟩ | ⟨g', cap', cur, e1, _, hg, _, hcm, hcs, _⟩
    · cases e1
    · simp only [Value.slice.injEq, Option.some.injEq, Addr.mk.injEq, and_true, true_and] at e1
      obtain ⟨rfl, rfl⟩ := e1
      exact ⟨cur, hg, by omega, hcm⟩
  have hr2 := run_append_room (P := P) w t o.type e i0 ht hi g l.length cap cur hg ⟨b, 0, none⟩ 1 1 [u] (by rw [hz1]; rfl) hnews hone hroom (by rw [hz1, hcs]; simp; omega)
  have hv2 : v2 = .slice (some ⟨g, 0, none⟩) (l.length + 1) cap := by
    rw [hr] at hr2
    injection hr2
  subst hv2
  have h2' : w2.ownsRow base e c.n (.slice (some ⟨g, 0, none⟩) (l.length + 1) cap) (l.length + 1) (xss.flatten ++ [u]) := by rw [hn]; exact h2
  obtain ⟨fp', k1, k2, k3, k4⟩ := ow_appended hE hfp hd hlt hy hfd hdis h2' h3 (.inl rfl)
  unfold Oper.wp execOp
  simp only [ho, resolve, invoke, builtin, Sem.run_bind, Sem.run_pure, Result.andThen_ok, List.map_toArray, List.map_cons, List.map_nil, hs, hx, hr]
  exact h w2 fp' k1 k2 k3 k4
theorem wpList_appendR {P : Program} {c : Cd α} (hn : c.n = 1) {ops : Array Oper} {rest : List Oper} {o : Oper} {a : Act} {Q : Exit → Act → World → Prop} {w : World} (hgd : o.guard = none) (s x : Operand) (t : TypeId)
    (ho : o.op = .call { callee := .builtin .append, args := #[s, x], argTypes := #[t, t] })
    (base : Nat) (e : TypeId) (z : Value) (bytes : Nat) (ht : P.underlying t = some (.slice e)) (hinfo : (P.info? e).map (fun i => (i.zero, i.size, i.bytes)) = some (some z, 1, bytes)) (hzs : z.cells.size = 1) (hby : bytes ≤ 100)
    (g cap n : Nat) (l : List α) (fp : List Nat) (hs : a.eval s = .slice (some ⟨g, 0, none⟩) n cap) (hnl : n = l.length) (how : (sl e c).ow w base [.slice (some ⟨g, 0, none⟩) n cap] l fp) (hd : fp.Nodup) (hroom : n + 1 ≤ cap) (b : Nat) (u : Value) (hx : a.eval x = .slice (some ⟨b, 0, none⟩) 1 1) (hu : w.cell? ⟨b, 0, none⟩ = some u)
    (y : α) (f : List Nat) (hy : c.ow w base [u] y f) (hfd : f.Nodup) (hdis : ∀ b ∈ f, b ∉ fp) (hlen : n + 1 ≤ 1000000000000) (hbase : base ≤ w.heap.size)
    (h : ∀ w' fp', (sl e c).ow w' base [.slice (some ⟨g, 0, none⟩) (n + 1) cap] (l ++ [y]) fp' → fp'.Nodup → (∀ b ∈ fp', b ∈ fp ∨ b ∈ f ∨ w.heap.size ≤ b) → Touch fp w w' →
      wpList P ops Q rest (a.put o.dst (.slice (some ⟨g, 0, none⟩) (n + 1) cap)) w') : wpList P ops Q (o :: rest) a w :=
  wpList_plain hgd fun _ hK => wp_appendR hn s x t ho base e z bytes ht hinfo hzs hby g cap n l fp hs hnl how hd hroom b u hx hu y f hy hfd hdis hlen hbase fun w' fp' h1 h2 h3 h4 => hK _ _ (h w' fp' h1 h2 h3 h4)
end Cd
end Go.Proofs.YtmifnbplkaonaaaGreat.Cd

namespace Go.Proofs.YtmifnbplkaonaaaGreat.TabImp
open Go Go.RowKit Byt Ints IntsLaw Cd Rows2 Tab TabSpec

set_option maxRecDepth 100000 in
set_option maxHeartbeats 1600000 in
theorem map_copy (v : Value) (l : List (List Int)) (S : Nat → Prop) (w : World) (hr : rowsC.rd w S [v] l) (hl : rowsWt l ≤ 1048577) :
    Calls Tryz.prog 77 #[v, .func (.func 30) #[] #[]] w fun e w' => ∃ g fp, e = .returned (.slice (some ⟨g, 0, none⟩) l.length l.length) ∧ rowsC.ow w' w.heap.size [.slice (some ⟨g, 0, none⟩) l.length l.length] l fp ∧ fp.Nodup ∧ Below w.heap.size w w' := by
  obtain ⟨i0, hi, hz0, hz1, hz2⟩ := info_parts info_ints
  have HR := Lib.hid (fun w' (hb : Below w.heap.size w w') => Cd.later hr hb)
  have HW := Lib.hid hl
  obtain ⟨a, cap, rfl, hlm⟩ := rows_form hr
  have hll : l.length ≤ 1048577 := by unfold rowsWt at hl; omega
  clear hr hl
  go_enter Tryz.func77, Tryz.ntmps77
  go_wp2_with (at_make; refine wpList_make_own _ rfl _ _ 49 rfl w.heap.size 27 i0 (.slice none 0 0) 1 Tryz.underlying49 hi hz0 hz1 _ _ _ l.length rfl rfl rfl (by rw [hz2]; omega) (by unfold maxLen; omega) (Nat.le_refl _) ?_)
  intro w1 hown0 hg0
  have how1 : rowsC.ow w1 w.heap.size [.slice (some ⟨w.heap.size, 0, none⟩) 0 l.length] [] [w.heap.size] := ⟨_, [], [], rfl, hown0, trivial, rfl⟩
  have hb1 : Below w.heap.size w w1 := (Below.refl _ _).grown hg0 (Nat.le_refl _) (by simp)
  clear hown0 hg0
  go_wp2_with fail
  go_loopw [5, 13] (fun o i wr => ∃ (k : Nat) (fp : List Nat), k ≤ l.length ∧ i = .int .i64 k ∧ o = .slice (some ⟨w.heap.size, 0, none⟩) k l.length ∧ rowsC.ow wr w.heap.size [.slice (some ⟨w.heap.size, 0, none⟩) k l.length] (l.take k) fp ∧ fp.Nodup ∧ Below w.heap.size w wr) (fun _ i _ => l.length - (intOf i).toNat)
  case atStart => exact ⟨0, _, Nat.zero_le _, rfl, rfl, how1, by simp, hb1⟩
  case round =>
    obtain ⟨k, fp, hk, rfl, rfl, how, hnd, hb⟩ := hrel
    by_cases hlt : k < l.length
    · obtain ⟨b, off, cap', u, e1, hbB, hc, hu⟩ := rows_at (HR.out wr hb) hlt
      injection e1 with e1 e2 e3
      subst e1 e3
      have HC := Lib.hid (copy_ints u l[k] S wr hu (by have := row_len hlt; have := HW.out; unfold rowsWt at this; omega))
      have HOW := Lib.hid how
      have HND := Lib.hid hnd
      have HB := Lib.hid hb
      have HT := Lib.hid (show l.take (k + 1) = l.take k ++ [l[k]] from List.take_succ_eq_append_getElem hlt)
      clear hu how hnd hb how1 hb1
      generalize l[k] = r at *
      go_wp2_with fail
      refine HC.out.mono ?_
      rintro e w2 ⟨g2, c2, rfl, ho2, hb2⟩
      have hsz2 := (rowC.ow_lt ho2 g2 (List.mem_singleton.2 rfl))
      have hbA : Below w2.heap.size w2 (w2.alloc (.cells #[.slice (some ⟨g2, 0, none⟩) r.length c2] 27 (0, 0))) := below_alloc _ _
      have HOW2 := Lib.hid (Cd.ow_later (Cd.ow_later HOW.out hb2) hbA)
      have HO2 := Lib.hid (rowC.ow_base (Cd.ow_later ho2 hbA) HB.out.size)
      have HB2 := Lib.hid (below_then (below_then HB.out hb2) hbA)
      have HDIS := Lib.hid (show ∀ b ∈ [g2], b ∉ fp from fun b hb q => by
        rw [List.mem_singleton.1 hb] at q
        have := (rowsC.ow_lt HOW.out _ q).2
        omega)
      have HBS := Lib.hid (show w.heap.size ≤ (w2.alloc (.cells #[.slice (some ⟨g2, 0, none⟩) r.length c2] 27 (0, 0))).heap.size by rw [size_alloc]; have := HB.out.size; have := hb2.size; omega)
      have HL := Lib.hid (show k = (l.take k).length by rw [List.length_take]; omega)
      have HCELL := Lib.hid (show (w2.alloc (.cells #[.slice (some ⟨g2, 0, none⟩) r.length c2] 27 (0, 0))).cell? ⟨w2.heap.size, 0, none⟩ = some (.slice (some ⟨g2, 0, none⟩) r.length c2) from World.cell?_alloc_mark _ _ _ _ 0)
      clear hsz2 hbA ho2 hb2
      go_wp2_with (at_builtin; refine Cd.wpList_appendR (c := rowC) rfl rfl (.tmp 17) (.tmp 21) 49 rfl w.heap.size 27 (.slice none 0 0) 24 Tryz.underlying49 info_ints rfl (by decide) w.heap.size l.length k (l.take k) fp rfl HL.out HOW2.out HND.out (by omega) w2.heap.size (.slice (some ⟨g2, 0, none⟩) r.length c2) rfl HCELL.out r [g2] HO2.out (by simp) HDIS.out (by omega) HBS.out ?_)
      intro w3 fp3 ho3 hn3 hsub3 ht3
      have HB3 := Lib.hid (ht3.below HB2.out (fun b hb => (rowsC.ow_lt HOW.out b hb).1))
      rw [← HT.out] at ho3
      clear ht3 hsub3
      go_wp2_with fail
      go_roundw
      case rel => exact ⟨k + 1, fp3, by omega, by go_num, rfl, ho3, hn3, HB3.out⟩
      case measure => simp [intOf]; omega
    · have ek : k = l.length := by omega
      subst ek
      rw [List.take_length] at how
      go_wp2_with fail
      go_ret
      exact ⟨_, fp, rfl, how, hnd, hb⟩
end Go.Proofs.YtmifnbplkaonaaaGreat.TabImp

namespace Go.Proofs
open Go.Shelf
def Tryz.lays128_ren : Go.Shelf.Ren := ⟨fun | 128 => 99 | n => n, fun | 51 => 127 | 3 => 3 | 4 => 4 | 46 => 117 | 5 => 5 | 9 => 9 | n => n, fun | n => n⟩
theorem Tryz.lays128 : Go.Proofs.Lays.n128 Tryz.prog Tryz.lays128_ren := {
  mixed := by kernel_rfl
  f128 := Tryz.func99.trans (congrArg some (by kernel_rfl))
  t3 := Tryz.underlying3
  a3 := Tryz.isAgg3
  z3 := Tryz.sizeOf3
  v3 := Tryz.zeroValue3
  t4 := Tryz.underlying4
  a4 := Tryz.isAgg4
  z4 := Tryz.sizeOf4
  v4 := Tryz.zeroValue4
  t5 := Tryz.underlying5
  a5 := Tryz.isAgg5
  z5 := Tryz.sizeOf5
  v5 := Tryz.zeroValue5
  t9 := Tryz.underlying9
  a9 := Tryz.isAgg9
  z9 := Tryz.sizeOf9
  v9 := Tryz.zeroValue9
  t46 := Tryz.underlying117
  a46 := Tryz.isAgg117
  z46 := Tryz.sizeOf117
  v46 := Tryz.zeroValue117
  t51 := Tryz.underlying127
  a51 := Tryz.isAgg127
  z51 := Tryz.sizeOf127
  v51 := Tryz.zeroValue127 }
theorem Tryz.bits_Len32 (x : Int) (w : World) (h0 : 0 ≤ x) (h1 : x ≤ 4294967295) :
    Calls Tryz.prog 99 #[.int .u32 x] w fun e w' => e = .returned (.int .i64 (Lib.bitLen x.toNat)) ∧ w' = w := Any.bits_Len32 Tryz.lays128 x w h0 h1
def Tryz.lays125_ren : Go.Shelf.Ren := ⟨fun | 125 => 88 | 128 => 99 | 129 => 100 | n => n, fun | 46 => 117 | 3 => 3 | 51 => 127 | 53 => 129 | 4 => 4 | 5 => 5 | 9 => 9 | n => n, fun | n => n⟩
theorem Tryz.lays125 : Go.Proofs.Lays.n125 Tryz.prog Tryz.lays125_ren := {
  mixed := by kernel_rfl
  f125 := Tryz.func88.trans (congrArg some (by kernel_rfl))
  f128 := Tryz.func99.trans (congrArg some (by kernel_rfl))
  f129 := Tryz.func100.trans (congrArg some (by kernel_rfl))
  t3 := Tryz.underlying3
  a3 := Tryz.isAgg3
  z3 := Tryz.sizeOf3
  v3 := Tryz.zeroValue3
  t4 := Tryz.underlying4
  a4 := Tryz.isAgg4
  z4 := Tryz.sizeOf4
  v4 := Tryz.zeroValue4
  t5 := Tryz.underlying5
  a5 := Tryz.isAgg5
  z5 := Tryz.sizeOf5
  v5 := Tryz.zeroValue5
  t9 := Tryz.underlying9
  a9 := Tryz.isAgg9
  z9 := Tryz.sizeOf9
  v9 := Tryz.zeroValue9
  t46 := Tryz.underlying117
  a46 := Tryz.isAgg117
  z46 := Tryz.sizeOf117
  v46 := Tryz.zeroValue117
  t51 := Tryz.underlying127
  a51 := Tryz.isAgg127
  z51 := Tryz.sizeOf127
  v51 := Tryz.zeroValue127
  t53 := Tryz.underlying129
  a53 := Tryz.isAgg129
  z53 := Tryz.sizeOf129
  v53 := Tryz.zeroValue129 }
theorem Tryz.bits_Len (x : Int) (w : World) (h0 : 0 ≤ x) (h1 : x ≤ 18446744073709551615) :
    Calls Tryz.prog 88 #[.int .u64 x] w fun e w' => e = .returned (.int .i64 (Lib.bitLen x.toNat)) ∧ w' = w := Any.bits_Len Tryz.lays125 x w h0 h1
def Tryz.lays215_ren : Go.Shelf.Ren := ⟨fun | 215 => 107 | n => n, fun | 3 => 3 | 4 => 4 | n => n, fun | n => n⟩
theorem Tryz.lays215 : Go.Proofs.Lays.n215 Tryz.prog Tryz.lays215_ren := {
  mixed := by kernel_rfl
  f215 := Tryz.func107.trans (congrArg some (by kernel_rfl))
  t3 := Tryz.underlying3
  a3 := Tryz.isAgg3
  z3 := Tryz.sizeOf3
  v3 := Tryz.zeroValue3
  t4 := Tryz.underlying4
  a4 := Tryz.isAgg4
  z4 := Tryz.sizeOf4
  v4 := Tryz.zeroValue4 }
open Go.RowKit in
theorem Tryz.cmp_isNaN_int (x : Int) (w : World) :
    Calls Tryz.prog 107 #[.int .i64 x] w fun e w' => e = .returned (.bool false) ∧ w' = w := Any.cmp_isNaN_int Tryz.lays215 x w
def Tryz.lays122_ren : Go.Shelf.Ren := ⟨fun | 122 => 101 | 215 => 107 | n => n, fun | 3 => 3 | 4 => 4 | n => n, fun | n => n⟩
theorem Tryz.lays122 : Go.Proofs.Lays.n122 Tryz.prog Tryz.lays122_ren := {
  mixed := by kernel_rfl
  f122 := Tryz.func101.trans (congrArg some (by kernel_rfl))
  f215 := Tryz.func107.trans (congrArg some (by kernel_rfl))
  t3 := Tryz.underlying3
  a3 := Tryz.isAgg3
  z3 := Tryz.sizeOf3
  v3 := Tryz.zeroValue3
  t4 := Tryz.underlying4
  a4 := Tryz.isAgg4
  z4 := Tryz.sizeOf4
  v4 := Tryz.zeroValue4 }
open Go.RowKit in
theorem Tryz.cmp_Compare_int (x y : Int) (w : World) :
    Calls Tryz.prog 101 #[.int .i64 x, .int .i64 y] w fun e w' => e = .returned (.int .i64 (Lib.compareInt x y)) ∧ w' = w := Any.cmp_Compare_int Tryz.lays122 x y w
def Tryz.lays129_ren : Go.Shelf.Ren := ⟨fun | 129 => 100 | n => n, fun | 53 => 129 | 3 => 3 | 4 => 4 | 46 => 117 | 5 => 5 | 9 => 9 | n => n, fun | n => n⟩
theorem Tryz.lays129 : Go.Proofs.Lays.n129 Tryz.prog Tryz.lays129_ren := {
  mixed := by kernel_rfl
  f129 := Tryz.func100.trans (congrArg some (by kernel_rfl))
  t3 := Tryz.underlying3
  a3 := Tryz.isAgg3
  z3 := Tryz.sizeOf3
  v3 := Tryz.zeroValue3
  t4 := Tryz.underlying4
  a4 := Tryz.isAgg4
  z4 := Tryz.sizeOf4
  v4 := Tryz.zeroValue4
  t5 := Tryz.underlying5
  a5 := Tryz.isAgg5
  z5 := Tryz.sizeOf5
  v5 := Tryz.zeroValue5
  t9 := Tryz.underlying9
  a9 := Tryz.isAgg9
  z9 := Tryz.sizeOf9
  v9 := Tryz.zeroValue9
  t46 := Tryz.underlying117
  a46 := Tryz.isAgg117
  z46 := Tryz.sizeOf117
  v46 := Tryz.zeroValue117
  t53 := Tryz.underlying129
  a53 := Tryz.isAgg129
  z53 := Tryz.sizeOf129
  v53 := Tryz.zeroValue129 }
theorem Tryz.bits_Len64 (x : Int) (w : World) (h0 : 0 ≤ x) (h1 : x ≤ 18446744073709551615) :
    Calls Tryz.prog 100 #[.int .u64 x] w fun e w' => e = .returned (.int .i64 (Lib.bitLen x.toNat)) ∧ w' = w := Any.bits_Len64 Tryz.lays129 x w h0 h1
def Tryz.laysM316_ren : Go.Shelf.Ren := ⟨fun | 316 => 61 | n => n, fun | 9 => 9 | 3 => 3 | 4 => 4 | 37 => 22 | 0 => 0 | 127 => 109 | 5 => 5 | n => n, fun | n => n⟩
theorem Tryz.laysM316 : Go.Proofs.LaysM.n316 Tryz.prog Tryz.laysM316_ren := {
  mixed := by kernel_rfl
  f316 := Tryz.func61.trans (congrArg some (by kernel_rfl))
  t0 := Tryz.underlying0
  a0 := Tryz.isAgg0
  z0 := Tryz.sizeOf0
  v0 := Tryz.zeroValue0
  t3 := Tryz.underlying3
  a3 := Tryz.isAgg3
  z3 := Tryz.sizeOf3
  v3 := Tryz.zeroValue3
  t4 := Tryz.underlying4
  a4 := Tryz.isAgg4
  z4 := Tryz.sizeOf4
  v4 := Tryz.zeroValue4
  t9 := Tryz.underlying9
  a9 := Tryz.isAgg9
  z9 := Tryz.sizeOf9
  v9 := Tryz.zeroValue9
  t37 := Tryz.underlying22
  a37 := Tryz.isAgg22
  z37 := Tryz.sizeOf22
  v37 := Tryz.zeroValue22
  t127 := Tryz.underlying109
  a127 := Tryz.isAgg109
  z127 := Tryz.sizeOf109
  v127 := Tryz.zeroValue109
  t5 := Tryz.underlying5
  a5 := Tryz.isAgg5
  z5 := Tryz.sizeOf5
  v5 := Tryz.zeroValue5
  i0 := by kernel_rfl
  i3 := by kernel_rfl
  i4 := by kernel_rfl
  i5 := by kernel_rfl
  i9 := by kernel_rfl
  i37 := by kernel_rfl
  i127 := by kernel_rfl }
open Go.RowKit in
theorem Tryz.stringslite_Clone (s : ByteArray) (w : World) (hlim : s.size ≤ 281474976710656) :
    Calls Tryz.prog 61 #[.string s] w fun e w' => e = .returned (.string s) ∧ Below w.heap.size w w' := Any.stringslite_Clone Tryz.laysM316 s w hlim
def Tryz.lays111_ren : Go.Shelf.Ren := ⟨fun | 111 => 47 | n => n, fun | 28 => 27 | 3 => 3 | 4 => 4 | 0 => 0 | n => n, fun | n => n⟩
theorem Tryz.lays111 : Go.Proofs.Lays.n111 Tryz.prog Tryz.lays111_ren := {
  mixed := by kernel_rfl
  f111 := Tryz.func47.trans (congrArg some (by kernel_rfl))
  t0 := Tryz.underlying0
  a0 := Tryz.isAgg0
  z0 := Tryz.sizeOf0
  v0 := Tryz.zeroValue0
  t3 := Tryz.underlying3
  a3 := Tryz.isAgg3
  z3 := Tryz.sizeOf3
  v3 := Tryz.zeroValue3
  t4 := Tryz.underlying4
  a4 := Tryz.isAgg4
  z4 := Tryz.sizeOf4
  v4 := Tryz.zeroValue4
  t28 := Tryz.underlying27
  a28 := Tryz.isAgg27
  z28 := Tryz.sizeOf27
  v28 := Tryz.zeroValue27 }
open Go.RowKit Go.Lib in
theorem Tryz.slices_Equal_int (b1 o1 n c b2 o2 m d : Nat) (xs ys : List Int) (w : World) (hx : n ≤ xs.length) (hy : m ≤ ys.length) (hbig : n ≤ 9223372036854775807) (hbig2 : m ≤ 9223372036854775807) (hc1 : ∀ j, j < xs.length → w.cell? ⟨b1, o1 + j, none⟩ = some (.int .i64 (xs.getD j 0))) (hc2 : ∀ j, j < ys.length → w.cell? ⟨b2, o2 + j, none⟩ = some (.int .i64 (ys.getD j 0))) :
    Calls Tryz.prog 47 #[.slice (some ⟨b1, o1, none⟩) n c, .slice (some ⟨b2, o2, none⟩) m d] w fun e w' => e = .returned (.bool (xs.take n == ys.take m)) ∧ ∃ q, w' = w.drewN q := Any.slices_Equal_int Tryz.lays111 b1 o1 n c b2 o2 m d xs ys w hx hy hbig hbig2 hc1 hc2
open Go.RowKit Go.Lib in
theorem Tryz.slices_Equal_int_empty (a1 a2 : Option Addr) (c m d : Nat) (w : World) (hbig2 : m ≤ 9223372036854775807) :
    Calls Tryz.prog 47 #[.slice a1 0 c, .slice a2 m d] w fun e w' => e = .returned (.bool (decide (m = 0))) ∧ w' = w := Any.slices_Equal_int_empty Tryz.lays111 a1 a2 c m d w hbig2
def Tryz.laysNm237_ren : Go.Shelf.Ren := ⟨fun | 37 => 107 | n => n, fun | 3 => 3 | 4 => 4 | n => n, fun | n => n⟩
theorem Tryz.laysNm237 : Go.Proofs.Lays2.n37 Tryz.prog Tryz.laysNm237_ren := {
  mixed := by kernel_rfl
  f37 := Tryz.func107.trans (congrArg some (by kernel_rfl))
  t3 := Tryz.underlying3
  a3 := Tryz.isAgg3
  z3 := Tryz.sizeOf3
  v3 := Tryz.zeroValue3
  t4 := Tryz.underlying4
  a4 := Tryz.isAgg4
  z4 := Tryz.sizeOf4
  v4 := Tryz.zeroValue4 }
open Go.RowKit Go.Lib in
theorem Tryz.cmp_isNaN_int2 (x : Int) (w : World) :
    Calls Tryz.prog 107 #[.int .i64 x] w fun e w' => e = .returned (.bool false) ∧ w' = w := Any.cmp_isNaN_int2 Tryz.laysNm237 x w
open Go.RowKit Go.Lib in
theorem Tryz.slices_Equal_int_lens (a1 a2 : Option Addr) (n c m d : Nat) (w : World) (hnm : n ≠ m) :
    Calls Tryz.prog 47 #[.slice a1 n c, .slice a2 m d] w fun e w' => e = .returned (.bool false) ∧ w' = w := Any.slices_Equal_int_lens Tryz.lays111 a1 a2 n c m d w hnm
def Tryz.laysSlE45_f136_ren : Go.Shelf.Ren := ⟨fun | 45 => 136 | n => n, fun | 22 => 49 | 23 => 27 | 3 => 3 | 4 => 4 | 0 => 0 | n => n, fun | n => n⟩
theorem Tryz.laysSlE45_f136 : Go.Proofs.SlLaysE.n45 Tryz.prog Tryz.laysSlE45_f136_ren := {
  mixed := by kernel_rfl
  f45 := ⟨Tryz.f136.name, by decide, Tryz.func136.trans (congrArg some (by kernel_rfl))⟩
  t0 := Tryz.underlying0
  a0 := Tryz.isAgg0
  z0 := Tryz.sizeOf0
  v0 := Tryz.zeroValue0
  t3 := Tryz.underlying3
  a3 := Tryz.isAgg3
  z3 := Tryz.sizeOf3
  v3 := Tryz.zeroValue3
  t4 := Tryz.underlying4
  a4 := Tryz.isAgg4
  z4 := Tryz.sizeOf4
  v4 := Tryz.zeroValue4
  t22 := Tryz.underlying49
  a22 := Tryz.isAgg49
  z22 := Tryz.sizeOf49
  v22 := Tryz.zeroValue49
  a23 := Tryz.isAgg27
  z23 := Tryz.sizeOf27 }
open Go.RowKit Go.Lib Go.Sort in
theorem Tryz.slices_Delete {α : Type} [Inhabited α] (enc : α → Value) (h1 : OneCell enc) (zr : α) (v23 : ∀ w, (zeroValue 27).run Tryz.prog w = .ok (enc zr) w) (i0 : TypeInfo) (hi0 : Tryz.prog.info? 27 = some i0) (hz1 : i0.size = 1) (blk off cap i j : Nat) (d : Array α) (w : World) (hH : Holds enc w blk off d) (hcap : d.size ≤ cap) (hm : cap ≤ 9223372036854775807) (hij : i ≤ j) (hj : j ≤ d.size) :
    Calls Tryz.prog 136 #[.slice (some ⟨blk, off, none⟩) d.size cap, .int .i64 i, .int .i64 j] w fun e w' => e = .returned (.slice (some ⟨blk, off, none⟩) (d.size - (j - i)) cap) ∧ ∃ q, w' = putRow enc (Sort.ahead w q) blk off (d.toList.take i ++ d.toList.drop j ++ List.replicate (j - i) zr).toArray := AnyE.slices_Delete Tryz.laysSlE45_f136 enc h1 zr v23 i0 hi0 hz1 blk off cap i j d w hH hcap hm hij hj
def Tryz.laysSlH6_f84_ren : Go.Shelf.Ren := ⟨fun | 6 => 84 | n => n, fun | 22 => 27 | 23 => 3 | 25 => 68 | 3 => 3 | 0 => 0 | 4 => 4 | n => n, fun | n => n⟩
theorem Tryz.laysSlH6_f84 : Go.Proofs.SlLaysH.n6 Tryz.prog Tryz.laysSlH6_f84_ren := {
  mixed := by kernel_rfl
  f6 := ⟨Tryz.f84.name, by decide, Tryz.func84.trans (congrArg some (by kernel_rfl))⟩
  t0 := Tryz.underlying0
  a0 := Tryz.isAgg0
  z0 := Tryz.sizeOf0
  v0 := Tryz.zeroValue0
  t3 := Tryz.underlying3
  a3 := Tryz.isAgg3
  z3 := Tryz.sizeOf3
  v3 := Tryz.zeroValue3
  t4 := Tryz.underlying4
  a4 := Tryz.isAgg4
  z4 := Tryz.sizeOf4
  v4 := Tryz.zeroValue4
  t22 := Tryz.underlying27
  a22 := Tryz.isAgg27
  z22 := Tryz.sizeOf27
  v22 := Tryz.zeroValue27
  a23 := Tryz.isAgg3
  z23 := Tryz.sizeOf3
  t25 := Tryz.underlying68
  a25 := Tryz.isAgg68
  z25 := Tryz.sizeOf68
  v25 := Tryz.zeroValue68 }
open Go.RowKit Go.Lib in
theorem Tryz.slices_IndexFunc {α : Type} [Inhabited α] (enc : α → Value) (p : α → Bool) (g : Nat) (lb : Array Value) (eg : ∀ args w, (callFunc g args).run Tryz.prog w = .ok (.enter g args) w) (b off n c : Nat) (zs : List α) (w : World) (hp : PredAt Tryz.prog g lb enc p w) (hz : n ≤ zs.length) (hbig : n ≤ 9223372036854775807) (hc : ∀ j, j < zs.length → w.cell? ⟨b, off + j, none⟩ = some (enc zs[j]!)) :
    Calls Tryz.prog 84 #[.slice (some ⟨b, off, none⟩) n c, .func (.func g) #[] lb] w fun e w' => e = .returned (.int .i64 (Lib.idxBy (fun _ y => p y) (zs.take n) default)) ∧ ∃ q, w' = w.drewN q := AnyE.slices_IndexFunc Tryz.laysSlH6_f84 enc p g lb eg b off n c zs w hp hz hbig hc
open Go.RowKit Go.Lib in
theorem Tryz.slices_IndexFunc_empty {α : Type} [Inhabited α] (a : Option Addr) (c : Nat) (fv : Value) (w : World) :
    Calls Tryz.prog 84 #[.slice a 0 c, fv] w fun e w' => e = .returned (.int .i64 (-1)) ∧ w' = w := AnyE.slices_IndexFunc_empty Tryz.laysSlH6_f84 a c fv w
def Tryz.laysSlH8_f68_ren : Go.Shelf.Ren := ⟨fun | 8 => 68 | 6 => 84 | n => n, fun | 22 => 27 | 23 => 3 | 25 => 68 | 4 => 4 | 3 => 3 | 0 => 0 | n => n, fun | n => n⟩
theorem Tryz.laysSlH8_f68 : Go.Proofs.SlLaysH.n8 Tryz.prog Tryz.laysSlH8_f68_ren := {
  mixed := by kernel_rfl
  f6 := ⟨Tryz.f84.name, by decide, Tryz.func84.trans (congrArg some (by kernel_rfl))⟩
  f8 := ⟨Tryz.f68.name, by decide, Tryz.func68.trans (congrArg some (by kernel_rfl))⟩
  t0 := Tryz.underlying0
  a0 := Tryz.isAgg0
  z0 := Tryz.sizeOf0
  v0 := Tryz.zeroValue0
  t3 := Tryz.underlying3
  a3 := Tryz.isAgg3
  z3 := Tryz.sizeOf3
  v3 := Tryz.zeroValue3
  t4 := Tryz.underlying4
  a4 := Tryz.isAgg4
  z4 := Tryz.sizeOf4
  v4 := Tryz.zeroValue4
  t22 := Tryz.underlying27
  a22 := Tryz.isAgg27
  z22 := Tryz.sizeOf27
  v22 := Tryz.zeroValue27
  a23 := Tryz.isAgg3
  z23 := Tryz.sizeOf3
  t25 := Tryz.underlying68
  a25 := Tryz.isAgg68
  z25 := Tryz.sizeOf68
  v25 := Tryz.zeroValue68 }
open Go.RowKit Go.Lib in
theorem Tryz.slices_ContainsFunc {α : Type} [Inhabited α] (enc : α → Value) (p : α → Bool) (g : Nat) (lb : Array Value) (eg : ∀ args w, (callFunc g args).run Tryz.prog w = .ok (.enter g args) w) (b off n c : Nat) (zs : List α) (w : World) (hp : PredAt Tryz.prog g lb enc p w) (hz : n ≤ zs.length) (hbig : n ≤ 9223372036854775807) (hc : ∀ j, j < zs.length → w.cell? ⟨b, off + j, none⟩ = some (enc zs[j]!)) :
    Calls Tryz.prog 68 #[.slice (some ⟨b, off, none⟩) n c, .func (.func g) #[] lb] w fun e w' => e = .returned (.bool ((zs.take n).any p)) ∧ ∃ q, w' = w.drewN q := AnyE.slices_ContainsFunc Tryz.laysSlH8_f68 enc p g lb eg b off n c zs w hp hz hbig hc
open Go.RowKit Go.Lib in
theorem Tryz.slices_ContainsFunc_empty {α : Type} [Inhabited α] (a : Option Addr) (c : Nat) (fv : Value) (w : World) :
    Calls Tryz.prog 68 #[.slice a 0 c, fv] w fun e w' => e = .returned (.bool false) ∧ w' = w := AnyE.slices_ContainsFunc_empty Tryz.laysSlH8_f68 a c fv w
end Go.Proofs

namespace Go.Proofs.YtmifnbplkaonaaaGreat.TabImp
open Go Go.RowKit Byt Ints IntsLaw Cd Rows2 Tab TabSpec Exact

theorem str_clone (s : ByteArray) (w : World) (hs : s.size ≤ 1048577) :
    Calls Tryz.prog 29 #[.string s] w fun e w' => e = .returned (.string s) ∧ Below w.heap.size w w' := by
  have HC := Lib.hid (Tryz.stringslite_Clone s w (by omega))
  clear hs
  go_enter Tryz.func29, Tryz.ntmps29
  go_wp2_with (go_at_call 61; refine HC.out.mono ?_; rintro e w1 ⟨rfl, hb⟩)
  go_ret
  exact ⟨rfl, hb⟩

set_option maxRecDepth 100000 in
set_option maxHeartbeats 3200000 in
theorem copy_table (nm : ByteArray) (ar : Int) (u : Value) (rows : List (List Int)) (S : Nat → Prop) (w : World) (hr : rowsC.rd w S [u] rows) (hrw : rowsWt rows ≤ 1048577) (hnm : nm.size ≤ 1048577) :
    Calls Tryz.prog 50 #[.agg #[.string nm, .int .i64 ar, u]] w fun e w' => ∃ g fp, e = .returned (.agg #[.string nm, .int .i64 ar, .slice (some ⟨g, 0, none⟩) rows.length rows.length]) ∧ rowsC.ow w' w.heap.size [.slice (some ⟨g, 0, none⟩) rows.length rows.length] rows fp ∧ fp.Nodup ∧ Below w.heap.size w w' := by
  have HR := Lib.hid (fun w' (hb : Below w.heap.size w w') => Cd.later hr hb)
  have HWT := Lib.hid hrw
  have HNM := Lib.hid hnm
  obtain ⟨a, cap, rfl, hlm⟩ := rows_form hr
  clear hr hrw hnm
  go_enter Tryz.func50, Tryz.ntmps50
  go_wp2_with fail
  generalize hW : (w.alloc _).alloc _ = W
  obtain ⟨r0, r1, hz, hb0⟩ := start2g w _ _ hW
  clear hW
  have HT := Lib.hid (Loc3.of r0)
  have HX := Lib.hid (Loc3.of r1)
  have HB := Lib.hid hb0
  have HZ := Lib.hid hz
  have HCL := Lib.hid (str_clone nm W.drew HNM.out)
  have HMAP := Lib.hid (fun w' (hb : Below W.heap.size W w') => map_copy (.slice a rows.length cap) rows S w' (Cd.later (HR.out W HB.out) hb) HWT.out)
  clear r0 r1 hb0 hz
  have y0 := HT.out.c0
  have y1 := HT.out.c1
  have y2 := HT.out.c2
  go_region_law (first | (go_simp; go_at_call 29; refine HCL.out.mono ?_; rintro e wq ⟨rfl, hbq⟩; (have hq := undrew hbq); (have HQ := Lib.hid hq); (have hqz := hq.size); (have k0 := (HT.out.later hq).c0); (have k1 := (HT.out.later hq).c1); (have k2 := (HT.out.later hq).c2); clear hbq hq) | (go_simp; go_at_call 77; refine (HMAP.out wq HQ.out).mono ?_; rintro e wp ⟨g, fp, rfl, how, hnd, hbp⟩; (have HP := Lib.hid (below_then HQ.out hbp)); (have hpz := hbp.size); (have HOW := Lib.hid how); (have HND := Lib.hid hnd); (have j0 := (HT.out.later HP.out).c0); (have j1 := (HT.out.later HP.out).c1); (have j2 := (HT.out.later HP.out).c2); (have i0 := (HX.out.later HP.out).c0); (have i1 := (HX.out.later HP.out).c1); (have i2 := (HX.out.later HP.out).c2); (have f0 := (HX.out.later HP.out).f0); (have f1 := (HX.out.later HP.out).f1); (have f2 := (HX.out.later HP.out).f2); clear hbp how hnd))
  all_goals
    obtain ⟨k0, k1, k2⟩ := set3 (w := wp) (k := w.heap.size + 1) (x := .string nm) (y := .int .i64 ar) (z := .slice (some ⟨g, 0, none⟩) rows.length rows.length) i0 i1 i2
    clear y0 y1 y2 j0 j1 j2 i0 i1 i2 f0 f1 f2
    go_wp2_with fail
    refine bodyPost_ret (v := .agg #[.string nm, .int .i64 ar, .slice (some ⟨g, 0, none⟩) rows.length rows.length]) (by simp [results, Tryz.results50, go_sem, k0, k1, k2]) rfl ⟨g, fp, rfl, ?_, HND.out, ?_⟩
    · have hn : w.heap.size + 1 ∉ fp := fun q => by
        have h1 := (rowsC.ow_lt HOW.out _ q).1
        have h2 := HZ.out
        omega
      exact ow_setCell (ow_setCell (ow_setCell (rowsC.ow_base HOW.out (by have := HZ.out; omega)) hn _) hn _) hn _
    · have hb := below_then HB.out HP.out
      exact ((hb.setCell (by show _ ≤ w.heap.size + 1; omega) _).setCell (by show _ ≤ w.heap.size + 1; omega) _).setCell (by show _ ≤ w.heap.size + 1; omega) _
end Go.Proofs.YtmifnbplkaonaaaGreat.TabImp

namespace Go.Proofs.YtmifnbplkaonaaaGreat.UpdParse
open Go Go.RowKit Byt Ints IntsLaw Cd Rows2 Tab TabSpec Exact Upd TabFmt UpdFmt TabParse

theorem len_s (s : ByteArray) : s.data.toList.length = s.size := Array.length_toList
def uN (s : ByteArray) : ByteArray := s.extract 1 2
def uB (s : ByteArray) : Bool := decide (s.data.toList.headD 0 = 43)
def uR (s : ByteArray) : List Int := vals (s.extract 2 s.size).data.toList
def uOk (s : ByteArray) : Bool := decide (0 < s.size ∧ fmtU (uN s) (uB s) (uR s) = s)
/-- What is read of a string. -/
def UAns (s : ByteArray) (w : World) (e : Ending) (w' : World) : Prop :=
  ∃ u fp, e = .returned (.tuple #[.agg #[.string (if uOk s then uN s else ⟨#[]⟩), .bool (if uOk s then uB s else false), u], .bool (uOk s)]) ∧ rowC.ow w' w.heap.size [u] (if uOk s then uR s else []) fp ∧ fp.Nodup ∧ Below w.heap.size w w'
theorem uOk_len {s : ByteArray} (h : uOk s = true) : 3 ≤ s.size ∧ s.size ≤ 5 := by
  obtain ⟨h0, h1⟩ := of_decide_eq_true h
  by_cases hk : updOk (uN s) (uR s) = true
  · rw [fmtU_yes hk] at h1
    have h2 := congrArg ByteArray.size h1
    have h3 : (updB (uN s) (uB s) (uR s)).length = s.size := by rw [← h2]; simp [ByteArray.size]
    unfold updOk at hk
    simp only [Bool.and_eq_true, decide_eq_true_eq] at hk
    have h4 : (uN s).data.toList.length = 1 := by rw [len_s]; exact (of_decide_eq_true hk.1.1).1
    unfold updB at h3
    rw [List.length_cons, List.length_append, h4, digB_len] at h3
    omega
  · rw [fmtU_no (by simpa using hk)] at h1
    rw [← h1] at h0
    exact absurd h0 (by decide)
theorem UAns.no {s : ByteArray} {w w' : World} (h : uOk s = false) (hb : Below w.heap.size w w') : UAns s w (.returned (.tuple #[.agg #[.string ⟨#[]⟩, .bool false, .slice none 0 0], .bool false])) w' :=
  ⟨.slice none 0 0, [], by simp [h], by rw [h]; exact Cd.ow_nil _ _, by simp, hb⟩
theorem UAns.yes {s : ByteArray} {w w' : World} {u : Value} {fp : List Nat} (h : uOk s = true) (ho : rowC.ow w' w.heap.size [u] (uR s) fp) (hn : fp.Nodup) (hb : Below w.heap.size w w') : UAns s w (.returned (.tuple #[.agg #[.string (uN s), .bool (uB s), u], .bool true])) w' :=
  ⟨u, fp, by simp [h], by rw [h]; exact ho, hn, hb⟩

/-- A local update, made behind W1. -/
def MadeU (W1 : World) (nm : ByteArray) (b : Bool) (row : List Int) (s4 : Value) (wx : World) : Prop :=
  ∃ k a c fp, s4 = .pointer (some ⟨k, 0, none⟩) ∧ W1.heap.size ≤ k ∧ Loc3 wx k (.string nm) (.bool b) (.slice a row.length c) ∧ rowC.ow wx W1.heap.size [.slice a row.length c] row fp ∧ fp.Nodup ∧ Below W1.heap.size W1 wx
theorem madeU {W1 wq : World} {k : Nat} {a : Option Addr} {c n : Nat} {x0 x1 x2 : Value} {nm : ByteArray} {b : Bool} {row : List Int} {fp : List Nat} (kk : LaterU W1 wq) (hb : W1.heap.size ≤ k) (GL : Loc3 wq k x0 x1 x2)
    (HO : rowC.ow wq W1.heap.size [.slice a n c] row fp) (hn : n = row.length) (hnd : fp.Nodup) (hbn : k ∉ fp) :
    MadeU W1 nm b row (.pointer (some ⟨k, 0, none⟩)) (((wq.setCell ⟨k, 0, none⟩ (.string nm)).setCell ⟨k, 1, none⟩ (.bool b)).setCell ⟨k, 2, none⟩ (.slice a n c)) := by
  subst hn
  obtain ⟨c0, c1, c2, f0, f1, f2⟩ := GL
  obtain ⟨k0, k1, k2⟩ := set3 (w := wq) (k := k) (x := .string nm) (y := .bool b) (z := .slice a row.length c) c0 c1 c2
  exact ⟨k, a, c, fp, rfl, hb, ⟨k0, k1, k2, by simpa using f0, by simpa using f1, by simpa using f2⟩, ow_setCell (ow_setCell (ow_setCell HO hbn _) hbn _) hbn _, hnd, ((Below.setCell kk hb _).setCell hb _).setCell hb _⟩
theorem madeU2 {W1 wq : World} {a : Option Addr} {c n : Nat} {T : TypeId} {nm : ByteArray} {b : Bool} {row : List Int} {fp : List Nat} (kk : LaterU W1 wq)
    (HO : rowC.ow wq W1.heap.size [.slice a n c] row fp) (hn : n = row.length) (hnd : fp.Nodup) :
    MadeU W1 nm b row (.pointer (some ⟨wq.heap.size, 0, none⟩)) (wq.alloc (.cells #[.string nm, .bool b, .slice a n c] T (0, 0))) := by
  subst hn
  exact ⟨wq.heap.size, a, c, fp, rfl, Below.size kk, Loc3.of (start1 wq _ rfl).1, Cd.ow_later HO (below_alloc _ _), hnd, below_then kk (below_alloc _ _)⟩

theorem laterU_alloc {a w : World} (h : LaterU a w) (o : Obj) : LaterU a (w.alloc o) := below_then h (below_alloc w o)
theorem laterU_set3 {a w : World} {k : Nat} {x y z : Value} (h : LaterU a w) (hk : a.heap.size ≤ k) : LaterU a (((w.setCell ⟨k, 0, none⟩ x).setCell ⟨k, 1, none⟩ y).setCell ⟨k, 2, none⟩ z) :=
  ((Below.setCell h hk _).setCell hk _).setCell hk _
theorem laterU_size {a w : World} (h : LaterU a w) : a.heap.size ≤ w.heap.size := Below.size h
theorem locU_new {W wq : World} {x0 x1 x2 : Value} {T : TypeId} (hb : Below (W.alloc (.cells #[x0, x1, x2] T (0, 0))).heap.size (W.alloc (.cells #[x0, x1, x2] T (0, 0))) wq) : Loc3 wq W.heap.size x0 x1 x2 :=
  (Loc3.of (start1 W _ rfl).1).later hb
theorem locU_new' {W wq : World} {x0 x1 x2 : Value} {T : TypeId} (hb : Below (W.drew.alloc (.cells #[x0, x1, x2] T (0, 0))).heap.size (W.drew.alloc (.cells #[x0, x1, x2] T (0, 0))) wq) : Loc3 wq W.heap.size x0 x1 x2 := locU_new (W := W.drew) hb
theorem newU_lt {W wq : World} {x0 x1 x2 : Value} {T : TypeId} (_ : Below (W.alloc (.cells #[x0, x1, x2] T (0, 0))).heap.size (W.alloc (.cells #[x0, x1, x2] T (0, 0))) wq) : W.heap.size < (W.alloc (.cells #[x0, x1, x2] T (0, 0))).heap.size := by rw [size_alloc]; omega

theorem locU_new3 {W wq : World} {x0 x1 x2 : Value} {T : TypeId} (hb : Below (W.alloc (.cells #[x0, x1, x2] T (0, 0))).drew.heap.size (W.alloc (.cells #[x0, x1, x2] T (0, 0))).drew wq) : Loc3 wq W.heap.size x0 x1 x2 :=
  (loc_drew (Loc3.of (start1 W _ rfl).1)).later hb
theorem newU_lt3 {W wq : World} {x0 x1 x2 : Value} {T : TypeId} (_ : Below (W.alloc (.cells #[x0, x1, x2] T (0, 0))).drew.heap.size (W.alloc (.cells #[x0, x1, x2] T (0, 0))).drew wq) : W.heap.size < (W.alloc (.cells #[x0, x1, x2] T (0, 0))).drew.heap.size := by
  show W.heap.size < (W.alloc (.cells #[x0, x1, x2] T (0, 0))).heap.size
  rw [size_alloc]; omega
theorem u_byte {s : ByteArray} (h : 0 < s.size) : (((s[0]'h).toNat : Int) == 43) = uB s := by
  have hl : 0 < s.data.toList.length := by rw [len_s]; exact h
  have e : s.data.toList.headD 0 = s[0] := by
    rw [List.headD_eq_head?_getD, List.head?_eq_getElem?, List.getElem?_eq_getElem hl]
    rfl
  unfold uB
  rw [e]
  by_cases q : s[0] = 43
  · rw [q, decide_eq_true rfl]; rfl
  · rw [decide_eq_false q, beq_eq_false_iff_ne]
    intro c
    exact q (UInt8.toNat_inj.1 (by show s[0].toNat = 43; omega))

end Go.Proofs.YtmifnbplkaonaaaGreat.UpdParse

namespace Go.Proofs.YtmifnbplkaonaaaGreat.UpdParse
open Go Go.RowKit Byt Ints IntsLaw Cd Rows2 Tab TabSpec Exact Upd TabFmt UpdFmt TabParse

theorem inr_vals (l : List UInt8) : InR (vals l) := by
  intro x hx
  obtain ⟨b, _, rfl⟩ := List.mem_map.1 hx
  have := b.toNat_lt
  omega
theorem digits_row (s : ByteArray) (w : World) (h : s.size ≤ 1048577) :
    Calls Tryz.prog 41 #[.string s] w fun e w' => ∃ v' fp, e = .returned v' ∧ rowC.ow w' w.heap.size [v'] (vals s.data.toList) fp ∧ fp.Nodup ∧ Below w.heap.size w w' :=
  (Dig.parse_digits s w h).mono fun _ _ ⟨v', h1, h2, h3⟩ => ⟨v', _, h1, Cd.ow_of_own (l := vals s.data.toList) h2 (inr_vals _), Cd.own_nodup, h3⟩
theorem u_byte2 {s : ByteArray} (h : 0 < s.size) : ((s.extract 0 1).toList == [43]) = uB s := by
  have hl : 0 < s.data.toList.length := by rw [len_s]; exact h
  rw [ByteArray.toList_eq, ByteArray.data_extract, Array.toList_extract]
  unfold uB
  cases hs : s.data.toList with
  | nil => rw [hs] at hl; simp at hl
  | cons x r =>
    by_cases q : x = 43 <;> simp [q]

set_option maxRecDepth 100000 in
set_option maxHeartbeats 6400000 in
theorem impl_parseu (s : ByteArray) (w : World) (hs : s.size ≤ 1048576) :
    Calls Tryz.prog 15 #[.string s] w fun e w' => UAns s w e w' := by
  by_cases h3 : s.size < 2
  · have HF := Lib.hid (show uOk s = false by
      cases h : uOk s
      · rfl
      · have := uOk_len h; omega)
    have t1 : (s.size : Int) < 2 := by omega
    clear h3
    go_enter Tryz.func15, Tryz.ntmps15
    go_wp2_with fail
    refine bodyPost_ret (v := .tuple #[.agg #[.string ⟨#[]⟩, .bool false, .slice none 0 0], .bool false]) (by simp [results, Tryz.results15, go_sem]) rfl (UAns.no HF.out ?_)
    first
      | exact below_alloc w _
      | (refine Below.setCell (Below.setCell (Below.setCell (below_alloc w _) ?_ _) ?_ _) ?_ _ <;> exact Nat.le_refl _)
  have t1 : ¬ (s.size : Int) < 2 := by omega
  by_cases h8 : 5 < s.size
  · have HF := Lib.hid (show uOk s = false by
      cases h : uOk s
      · rfl
      · have := uOk_len h; omega)
    have t2 : (5 : Int) < (s.size : Int) := by omega
    clear h3 h8
    go_enter Tryz.func15, Tryz.ntmps15
    go_wp2_with fail
    refine bodyPost_ret (v := .tuple #[.agg #[.string ⟨#[]⟩, .bool false, .slice none 0 0], .bool false]) (by simp [results, Tryz.results15, go_sem]) rfl (UAns.no HF.out ?_)
    first
      | exact below_alloc w _
      | (refine Below.setCell (Below.setCell (Below.setCell (below_alloc w _) ?_ _) ?_ _) ?_ _ <;> exact Nat.le_refl _)
  have t2 : ¬ (5 : Int) < (s.size : Int) := by omega
  have hp0 : 0 < s.size := by omega
  have i0 : (0 : Int) < (s.size : Int) := by omega
  have i1 : (1 : Int) ≤ (s.size : Int) := by omega
  have i2 : (2 : Int) ≤ (s.size : Int) := by omega
  have HP := Lib.hid hp0
  have HVL := Lib.hid (fun w' => digits_row (s.extract 2 s.size) w' (by rw [ByteArray.size_extract]; omega))
  have HCL := Lib.hid (fun w' => TabImp.str_clone (s.extract 1 2) w' (by rw [ByteArray.size_extract]; omega))
  have HSG := Lib.hid sign_ins
  have HRR := Lib.hid (show uR s = vals (s.extract 2 s.size).data.toList from rfl)
  generalize vals (s.extract 2 s.size).data.toList = rr at *
  have HRES := Lib.hid (Loc3.of (row_alloc w (.cells #[.string ⟨#[]⟩, .bool false, .slice none 0 0] 29)))
  have HB1 := Lib.hid (below_alloc w (.cells #[.string ⟨#[]⟩, .bool false, .slice none 0 0] 29))
  have HZ1 := Lib.hid (size_alloc w (.cells #[.string ⟨#[]⟩, .bool false, .slice none 0 0] 29))
  clear h3 h8
  go_enter Tryz.func15, Tryz.ntmps15
  go_upto_region 3 with fail
  generalize w.alloc _ = W1 at *
  have kk : LaterU W1 W1.drew := (Below.refl _ W1).drew
  go_cut [4] (fun s4 wx => MadeU W1 (uN s) (uB s) rr s4 wx)
  case first =>
    go_region_held3 (fun wx => LaterU W1 wx)
      ((first | assumption | exact Below.drew (Below.refl _ W1) | exact laterU_alloc (by assumption) _ | exact laterU_set3 (by first | assumption | exact laterU_alloc (by assumption) _) (laterU_size (by first | assumption | exact Below.refl _ _))))
      (first | (go_at_call 29; refine (HCL.out _).mono ?_; rintro e wq ⟨rfl, hbq⟩; (have kk0 : LaterU W1 _ := (by first | assumption | exact laterU_alloc (by assumption) _)); (have kk : LaterU W1 wq := below_then kk0 hbq); (first | (have GL := Lib.hid (GL.out.later hbq)) | (have GL := Lib.hid (locU_new' hbq)) | (have GL := Lib.hid (locU_new hbq)) | (have GL := Lib.hid (locU_new3 hbq)) | skip); clear kk0; clear hbq) | (go_at_call 40; refine (HSG.out _).mono ?_; rintro e wq ⟨rfl, hbq⟩; (have kk0 : LaterU W1 _ := (by first | assumption | exact laterU_alloc (by assumption) _)); (have kk : LaterU W1 wq := below_then kk0 hbq); (first | (have GL := Lib.hid (GL.out.later hbq)) | (have GL := Lib.hid (locU_new' hbq)) | (have GL := Lib.hid (locU_new hbq)) | (have GL := Lib.hid (locU_new3 hbq)) | skip); clear kk0; clear hbq) | (go_at_call 41; refine (HVL.out _).mono ?_; rintro e wq ⟨v1, f1, rfl, how, hnd, hbq⟩; obtain ⟨a1, c1, rfl⟩ := Cd.ow_slice how; (have kk0 : LaterU W1 _ := (by first | assumption | exact laterU_alloc (by assumption) _)); (have HO := Lib.hid (rowC.ow_base how (laterU_size kk0))); (have HLT := Lib.hid (rowC.ow_lt how)); (have HND := Lib.hid hnd); (have kk : LaterU W1 wq := below_then kk0 hbq); (first | (have GB := Lib.hid GL.out.lt; have GL := Lib.hid (GL.out.later hbq)) | (have GB := Lib.hid (newU_lt hbq); have GL := Lib.hid (locU_new' hbq)) | (have GB := Lib.hid (newU_lt hbq); have GL := Lib.hid (locU_new hbq)) | (have GB := Lib.hid (newU_lt3 hbq); have GL := Lib.hid (locU_new3 hbq)) | skip); (first | (have x0 := GL.out.c0; have x1 := GL.out.c1; have x2 := GL.out.c2; have f0 := GL.out.f0; have f1 := GL.out.f1; have f2 := GL.out.f2) | skip); clear hbq how hnd kk0))
    all_goals
      go_wp2_with fail
      go_meet
      rw [← u_byte2 HP.out]
      change MadeU W1 (s.extract 1 2) _ rr _ _
      first
        | (have GG := GL.out; exact madeU (by assumption) (laterU_size (by first | assumption | exact Below.refl _ _)) GG HO.out rfl HND.out (fun q => by have h1 := (HLT.out _ q).1; have h2 := GB.out; omega))
        | (with_reducible exact madeU2 (by assumption) HO.out rfl HND.out)
  case rest =>
    obtain ⟨k, ao, co, fp, rfl, hk, hx, how, hnd, hl⟩ := hcut
    have hrr := HRR.out
    clear HRR HVL
    subst hrr
    clear i0 i1 i2 kk hp0
    have HX := Lib.hid hx
    have HOW := Lib.hid how
    have HND := Lib.hid hnd
    have HK := Lib.hid hk
    have HBC := Lib.hid (below_then HB1.out hl)
    have HRC := Lib.hid (HRES.out.later hl)
    have HNR := Lib.hid (show w.heap.size ∉ fp from fun q => by have h1 := (rowC.ow_lt how _ q).1; have h2 := HZ1.out; omega)
    have HBS := Lib.hid (show w.heap.size ≤ W1.heap.size by have := HZ1.out; omega)
    have HFM := Lib.hid (impl_fmtu (uN s) (uB s) _ (uR s) _ wc (rowC.ow_rd how))
    clear hx how hnd hk hl
    obtain ⟨x0, x1, x2, _, _, _⟩ := HX.out
    by_cases hfs : fmtU (uN s) (uB s) (uR s) = s
    · have HWHY := Lib.hid (show uOk s = true from decide_eq_true ⟨HP.out, hfs⟩)
      rw [hfs] at HFM
      clear hfs
      go_wp2_with fail
      refine HFM.out.mono ?_
      rintro e w9 ⟨rfl, hb9⟩
      obtain ⟨x0, x1, x2, _, _, _⟩ := HX.out.later hb9
      obtain ⟨p0, p1, p2, q0, q1, q2⟩ := HRC.out.later hb9
      have HB9 := Lib.hid (below_then HBC.out hb9)
      have HO9 := Lib.hid (Cd.ow_later HOW.out hb9)
      clear hb9
      go_wp2_with fail
      obtain ⟨k0, k1, k2⟩ := set3 (w := w9) (k := w.heap.size) (x := .string (uN s)) (y := .bool (uB s)) (z := .slice ao (uR s).length co) p0 p1 p2
      refine bodyPost_ret (v := .tuple #[.agg #[.string (uN s), .bool (uB s), .slice ao (uR s).length co], .bool true]) (by simp [results, Tryz.results15, go_sem, k0, k1, k2]) rfl (UAns.yes HWHY.out ?_ HND.out ?_)
      · have hn : w.heap.size ∉ fp := HNR.out
        exact rowC.ow_base (ow_setCell (ow_setCell (ow_setCell HO9.out hn _) hn _) hn _) HBS.out
      · exact ((HB9.out.setCell (Nat.le_refl _) _).setCell (Nat.le_refl _) _).setCell (Nat.le_refl _) _
    · have HF := Lib.hid (show uOk s = false from decide_eq_false fun q => hfs q.2)
      have hne := str_ne hfs
      clear hfs
      generalize fmtU (uN s) (uB s) (uR s) = fs at *
      go_wp2_with fail
      refine HFM.out.mono ?_
      rintro e w9 ⟨rfl, hb9⟩
      obtain ⟨p0, p1, p2, q0, q1, q2⟩ := HRC.out.later hb9
      have HB9 := Lib.hid (below_then HBC.out hb9)
      clear hb9
      go_wp2_with fail
      obtain ⟨k0, k1, k2⟩ := set3 (w := w9) (k := w.heap.size) (x := .string ⟨#[]⟩) (y := .bool false) (z := .slice none 0 0) p0 p1 p2
      refine bodyPost_ret (v := .tuple #[.agg #[.string ⟨#[]⟩, .bool false, .slice none 0 0], .bool false]) (by simp [results, Tryz.results15, go_sem, k0, k1, k2]) rfl (UAns.no HF.out ?_)
      exact ((HB9.out.setCell (Nat.le_refl _) _).setCell (Nat.le_refl _) _).setCell (Nat.le_refl _) _
end Go.Proofs.YtmifnbplkaonaaaGreat.UpdParse

namespace Go.Proofs.YtmifnbplkaonaaaGreat.TabImp
open Go Go.RowKit Byt Ints IntsLaw Cd Rows2 Tab TabSpec Exact

/-- How many rows lie before row. -/
def FindP (rows : List (List Int)) (row : List Int) (i : Nat) : Prop :=
  i ≤ rows.length ∧ (∀ t, (h : t < rows.length) → t < i → cmpR rows[t] row < 0) ∧ (∀ t, (h : t < rows.length) → i ≤ t → 0 ≤ cmpR rows[t] row)
theorem asc_lt {rows : List (List Int)} (h : Asc rows) {s t : Nat} (hs : s < t) (ht : t < rows.length) : cmpR rows[s] rows[t] < 0 := List.pairwise_iff_getElem.1 h s t (by omega) ht hs
theorem find_mem {rows : List (List Int)} {row : List Int} {i : Nat} (ha : Asc rows) (h : FindP rows row i) : row ∈ rows ↔ ∃ h : i < rows.length, rows[i] = row := by
  constructor
  · intro hm
    obtain ⟨t, ht, rfl⟩ := List.getElem_of_mem hm
    by_cases e : t = i
    · subst e; exact ⟨ht, rfl⟩
    · by_cases hlt : t < i
      · have := h.2.1 t ht hlt
        rw [cmpR_self] at this
        omega
      · have h1 := asc_lt ha (show i < t by omega) ht
        have h2 := h.2.2 i (by omega) (Nat.le_refl _)
        omega
  · rintro ⟨hi, rfl⟩
    exact List.getElem_mem hi
theorem asc_before {rows : List (List Int)} {row : List Int} (ha : Asc rows) {s t : Nat} (hst : s ≤ t) (ht : t < rows.length) (h : cmpR rows[t] row < 0) : cmpR rows[s] row < 0 := by
  by_cases e : s = t
  · subst e; exact h
  · exact cmpR_trans (asc_lt ha (by omega) ht) h

def SearchAns (rows : List (List Int)) (row : List Int) (w : World) (e : Ending) (w' : World) : Prop :=
  ∃ i : Nat, e = .returned (.tuple #[.int .i64 i, .bool (decide (row ∈ rows))]) ∧ FindP rows row i ∧ w = w'

set_option maxRecDepth 100000 in
set_option maxHeartbeats 1600000 in
theorem search (u v : Value) (rows : List (List Int)) (row : List Int) (S S2 : Nat → Prop) (w : World) (hr : rowsC.rd w S [u] rows) (hv : rowC.rd w S2 [v] row) (ha : Asc rows) (hl : rows.length ≤ 8) :
    Calls Tryz.prog 128 #[u, v, .func (.func 86) #[] #[]] w fun e w' => SearchAns rows row w e w' := by
  have HR := Lib.hid hr
  have HV := Lib.hid (row_ri hv).1
  have HA := Lib.hid ha
  obtain ⟨a, cap, rfl, hlm⟩ := rows_form hr
  clear hr hv ha
  go_enter Tryz.func128, Tryz.ntmps128
  go_wp2
  go_loop [9, 10] (fun s9 s10 => ∃ lo hi : Nat, s9 = .int .i64 lo ∧ s10 = .int .i64 hi ∧ lo ≤ hi ∧ hi ≤ rows.length ∧ Hid ((∀ t, (h : t < rows.length) → t < lo → cmpR rows[t] row < 0) ∧ (∀ t, (h : t < rows.length) → hi ≤ t → 0 ≤ cmpR rows[t] row))) (fun s9 s10 => (intOf s10).toNat - (intOf s9).toNat)
  case atStart => exact ⟨0, rows.length, rfl, rfl, Nat.zero_le _, Nat.le_refl _, Lib.hid ⟨fun t h1 h2 => by omega, fun t h1 h2 => by omega⟩⟩
  case round =>
    obtain ⟨lo, hi, rfl, rfl, hlh, hin, I⟩ := hrel
    by_cases hlt : lo < hi
    · have hm : (lo + hi) / 2 < rows.length := by omega
      obtain ⟨b, off, cap', x, e1, hbB, hc, hx⟩ := rows_at HR.out hm
      injection e1 with e1 e2 e3
      subst e1 e3
      have HC := Lib.hid (impl_cmp x v rows[(lo + hi) / 2] row _ _ w (row_ri hx).1 HV.out)
      have q1 : ((lo : Int) + (hi : Int)) / 2 = (((lo + hi) / 2 : Nat) : Int) := by omega
      have q2 : (0 : Int) ≤ (((lo + hi) / 2 : Nat) : Int) := by omega
      have q3 : (((lo + hi) / 2 : Nat) : Int) < (rows.length : Int) := by omega
      have hbd := cmpR_bd rows[(lo + hi) / 2] row
      by_cases hyx : cmpR rows[(lo + hi) / 2] row < 0
      · have I2 := Lib.hid (show (∀ t, (h : t < rows.length) → t < (lo + hi) / 2 + 1 → cmpR rows[t] row < 0) ∧ (∀ t, (h : t < rows.length) → hi ≤ t → 0 ≤ cmpR rows[t] row) from ⟨fun t h1 h2 => asc_before HA.out (by omega) hm hyx, I.out.2⟩)
        have hsz : (lo + hi) / 2 + 1 ≤ hi := by omega
        have HM := Lib.hid (show hi - ((lo + hi) / 2 + 1) < hi - lo by omega)
        clear hx
        generalize cmpR rows[(lo + hi) / 2] row = z at *
        generalize hh : (lo + hi) / 2 = h at *
        clear hh
        go_wp2_with (go_at_call 86; refine HC.out.mono ?_; rintro e w1 ⟨rfl, rfl⟩)
        go_round
        case rel => exact ⟨h + 1, hi, by go_num, rfl, hsz, hin, I2⟩
        case measure => simp [intOf]; have := HM.out; omega
      · have hge : (0 : Int) ≤ cmpR rows[(lo + hi) / 2] row := by omega
        have I2 := Lib.hid (show (∀ t, (h : t < rows.length) → t < lo → cmpR rows[t] row < 0) ∧ (∀ t, (h : t < rows.length) → (lo + hi) / 2 ≤ t → 0 ≤ cmpR rows[t] row) from ⟨I.out.1, fun t h1 h2 => Int.not_lt.1 fun q => hyx (asc_before HA.out h2 h1 q)⟩)
        have hsz : lo ≤ (lo + hi) / 2 := by omega
        have hsz2 : (lo + hi) / 2 ≤ rows.length := by omega
        have HM := Lib.hid (show (lo + hi) / 2 - lo < hi - lo by omega)
        clear hx hyx
        generalize cmpR rows[(lo + hi) / 2] row = z at *
        generalize hh : (lo + hi) / 2 = h at *
        clear hh
        go_wp2_with (go_at_call 86; refine HC.out.mono ?_; rintro e w1 ⟨rfl, rfl⟩)
        go_round
        case rel => exact ⟨lo, h, rfl, by go_num, hsz, hsz2, I2⟩
        case measure => simp [intOf]; have := HM.out; omega
    · obtain rfl : hi = lo := by omega
      have HF := Lib.hid (show FindP rows row hi from ⟨hin, I.out.1, I.out.2⟩)
      by_cases hn : hi < rows.length
      · obtain ⟨b, off, cap', x, e1, hbB, hc, hx⟩ := rows_at HR.out hn
        injection e1 with e1 e2 e3
        subst e1 e3
        have HC := Lib.hid (impl_cmp x v rows[hi] row _ _ w (row_ri hx).1 HV.out)
        have q3 : (hi : Int) < (rows.length : Int) := by omega
        by_cases hz : cmpR rows[hi] row = 0
        · have HZ := Lib.hid (show decide (row ∈ rows) = true from decide_eq_true ((find_mem HA.out HF.out).2 ⟨hn, cmpR_eq hz⟩))
          rw [hz] at HC
          clear hx hz
          go_wp2_with (go_at_call 86; refine HC.out.mono ?_; rintro e w1 ⟨rfl, rfl⟩)
          go_ret2
          exact ⟨hi, by rw [HZ.out]; rfl, HF.out, rfl⟩
        · have HZ := Lib.hid (show decide (row ∈ rows) = false from decide_eq_false fun q => by
            obtain ⟨h1, h2⟩ := (find_mem HA.out HF.out).1 q
            exact hz (by rw [h2]; exact cmpR_self _))
          have tz : (cmpR rows[hi] row == 0) = false := by rw [beq_eq_false_iff_ne]; exact hz
          clear hx hz
          generalize cmpR rows[hi] row = z at *
          go_wp2_with (go_at_call 86; refine HC.out.mono ?_; rintro e w1 ⟨rfl, rfl⟩)
          go_ret2
          exact ⟨hi, by rw [HZ.out]; rfl, HF.out, rfl⟩
      · have HZ := Lib.hid (show decide (row ∈ rows) = false from decide_eq_false fun q => by
          obtain ⟨h1, h2⟩ := (find_mem HA.out HF.out).1 q
          exact hn h1)
        go_wp2
        go_ret2
        exact ⟨hi, by rw [HZ.out]; rfl, HF.out, rfl⟩

def FindAns (nm : ByteArray) (ar : Int) (rows : List (List Int)) (row : List Int) (w : World) (e : Ending) (w' : World) : Prop :=
  ∃ i : Nat, e = .returned (.tuple #[.int .i64 i, .bool (hasR nm ar rows row)]) ∧ (tabOk nm ar rows = true → FindP rows row i) ∧ i ≤ rows.length ∧ Below w.heap.size w w'

set_option maxRecDepth 100000 in
set_option maxHeartbeats 1600000 in
theorem find_row (nm : ByteArray) (ar : Int) (u v : Value) (rows : List (List Int)) (row : List Int) (S S2 : Nat → Prop) (w : World) (hr : rowsC.rd w S [u] rows) (hv : rowC.rd w S2 [v] row) :
    Calls Tryz.prog 126 #[.agg #[.string nm, .int .i64 ar, u], v] w fun e w' => FindAns nm ar rows row w e w' := by
  have HR := Lib.hid (fun w' (hb : Below w.heap.size w w') => Cd.later hr hb)
  have HV := Lib.hid (fun w' (hb : Below w.heap.size w w') => Cd.later hv hb)
  obtain ⟨a, cap, rfl, hlm⟩ := rows_form hr
  clear hr hv
  go_enter Tryz.func126, Tryz.ntmps126
  go_wp2_with fail
  generalize hW : w.alloc _ = W
  obtain ⟨r0, _, hb0⟩ := start1 w _ hW
  clear hW
  have HV1 := Lib.hid (impl_valid nm ar _ rows S W (HR.out W hb0))
  by_cases hok : tabOk nm ar rows = true
  case neg =>
    have hok : tabOk nm ar rows = false := by simpa using hok
    rw [hok] at HV1
    have HH := Lib.hid (hasR_no1 (row := row) hok)
    have HB := Lib.hid hb0
    have HOK := Lib.hid hok
    clear hok r0 hb0
    refine HV1.out.mono ?_
    rintro e W1 ⟨rfl, hb1⟩
    go_wp2_with fail
    go_ret2
    exact ⟨0, by rw [HH.out]; rfl, (fun q => by rw [HOK.out] at q; cases q), Nat.zero_le _, below_then HB.out hb1⟩
  rw [hok] at HV1
  have hP : TabP nm ar rows := of_decide_eq_true hok
  have HP := Lib.hid hP
  have HB := Lib.hid hb0
  have HRW := Lib.hid r0
  clear hok r0 hb0 hP
  refine HV1.out.mono ?_
  rintro e W1 ⟨rfl, hb1⟩
  have HB1 := Lib.hid (below_then HB.out hb1)
  obtain ⟨d0, d1, d2, _, _, _⟩ := row3 (row_later HRW.out hb1)
  have HS := Lib.hid (search _ v rows row S S2 W1 (HR.out W1 HB1.out) (HV.out W1 HB1.out) HP.out.2.2.2.2.2 HP.out.2.2.2.1)
  clear hb1
  go_wp2_with fail
  refine HS.out.mono ?_
  rintro e W2 ⟨i, rfl, hf, rfl⟩
  have HF := Lib.hid hf
  have HH := Lib.hid (show decide (row ∈ rows) = hasR nm ar rows row by
    unfold hasR
    congr 1
    exact propext ⟨fun q => ⟨HP.out, q⟩, fun q => q.2⟩)
  clear hf
  generalize decide (row ∈ rows) = z at *
  go_wp2_with fail
  go_ret2
  exact ⟨i, by rw [← HH.out]; rfl, (fun _ => HF.out), HF.out.1, HB1.out⟩

end Go.Proofs.YtmifnbplkaonaaaGreat.TabImp
