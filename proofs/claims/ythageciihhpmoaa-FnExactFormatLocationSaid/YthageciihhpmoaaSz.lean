/- Size classes and locations: what the document says, and the model's functions. -/
import Derived.Test.YthageciihhpmoaaRows
import Derived.Test.YthageciihhpmoaaFixed
import Derived.Test.YthageciihhpmoaaInts
import Derived.WalkKit
import Derived.WalkSpells
import Derived.WalkLawsBesides
import Derived.Lib.Hide
import Derived.Deep.QuietTactic
import Derived.BigQuiet
namespace Go.Proofs.Ythageciihhpmoaa.Sz
open Go Go.RowKit Byt Ints

/-- The size of class k. -/
def csN : Nat → Nat
  | 0 => 0
  | k + 1 => 4 ^ k
def clsz (k : Int) : Int := if 0 ≤ k ∧ k ≤ 7 then (csN k.toNat : Int) else -1
def szcl (n : Int) : Int :=
  if n < 0 then -1 else if n ≤ 0 then 0 else if n ≤ 1 then 1 else if n ≤ 4 then 2 else if n ≤ 16 then 3 else if n ≤ 64 then 4 else if n ≤ 256 then 5 else if n ≤ 1024 then 6 else if n ≤ 4096 then 7 else -1
theorem csN_le {k : Nat} (h : k ≤ 7) : csN k ≤ 4096 := by
  rcases (show k = 0 ∨ k = 1 ∨ k = 2 ∨ k = 3 ∨ k = 4 ∨ k = 5 ∨ k = 6 ∨ k = 7 by omega) with rfl | rfl | rfl | rfl | rfl | rfl | rfl | rfl <;> decide
theorem csN_pos {k : Nat} (h : 0 < k) : 1 ≤ csN k := by
  cases k with
  | zero => omega
  | succ k => exact Nat.pow_pos (by decide)
theorem csN_step {k : Nat} (h : 0 < k) : csN (k + 1) = csN k * 4 := by
  cases k with
  | zero => omega
  | succ k => show 4 ^ (k + 1) = 4 ^ k * 4; rw [Nat.pow_succ]
theorem clsz_in {k : Nat} (h : k ≤ 7) : clsz k = (csN k : Int) := by
  unfold clsz
  rw [if_pos ⟨by omega, by omega⟩, Int.toNat_natCast]
theorem clsz_out {k : Int} (h : ¬ (0 ≤ k ∧ k ≤ 7)) : clsz k = -1 := by unfold clsz; rw [if_neg h]
theorem clsz_bd (k : Int) : -1 ≤ clsz k ∧ clsz k ≤ 4096 := by
  unfold clsz
  split
  · have := csN_le (k := k.toNat) (by omega)
    omega
  · omega
theorem szcl_of {n : Int} {k : Nat} (hk : k ≤ 7) (h0 : 0 ≤ n) (hl : ∀ j : Nat, j < k → (csN j : Int) < n) (hn : n ≤ (csN k : Int)) : szcl n = k := by
  rcases (show k = 0 ∨ k = 1 ∨ k = 2 ∨ k = 3 ∨ k = 4 ∨ k = 5 ∨ k = 6 ∨ k = 7 by omega) with rfl | rfl | rfl | rfl | rfl | rfl | rfl | rfl
  · have h1 : n ≤ 0 := hn
    unfold szcl; split <;> omega
  · have h1 : n ≤ 1 := hn
    have h2 : (0 : Int) < n := hl 0 (by decide)
    unfold szcl; repeat' split
    all_goals omega
  · have h1 : n ≤ 4 := hn
    have h2 : (1 : Int) < n := hl 1 (by decide)
    unfold szcl; repeat' split
    all_goals omega
  · have h1 : n ≤ 16 := hn
    have h2 : (4 : Int) < n := hl 2 (by decide)
    unfold szcl; repeat' split
    all_goals omega
  · have h1 : n ≤ 64 := hn
    have h2 : (16 : Int) < n := hl 3 (by decide)
    unfold szcl; repeat' split
    all_goals omega
  · have h1 : n ≤ 256 := hn
    have h2 : (64 : Int) < n := hl 4 (by decide)
    unfold szcl; repeat' split
    all_goals omega
  · have h1 : n ≤ 1024 := hn
    have h2 : (256 : Int) < n := hl 5 (by decide)
    unfold szcl; repeat' split
    all_goals omega
  · have h1 : n ≤ 4096 := hn
    have h2 : (1024 : Int) < n := hl 6 (by decide)
    unfold szcl; repeat' split
    all_goals omega
theorem szcl_big {n : Int} (h : 4096 < n) : szcl n = -1 := by
  unfold szcl; repeat' split
  all_goals omega
theorem szcl_neg {n : Int} (h : n < 0) : szcl n = -1 := by unfold szcl; rw [if_pos h]
theorem szcl_bd (n : Int) : -1 ≤ szcl n ∧ szcl n ≤ 7 := by
  unfold szcl; repeat' split
  all_goals omega

/-- Is l a location? -/
def isLoc (l : List Int) : Bool := decide (l.length ≤ 16 ∧ ∀ x ∈ l, 0 ≤ x ∧ x ≤ 7)
theorem isLoc_iff {l : List Int} : isLoc l = true ↔ (l.length ≤ 16 ∧ ∀ x ∈ l, 0 ≤ x ∧ x ≤ 7) := by simp [isLoc]
theorem isLoc_no {l : List Int} : isLoc l = false ↔ ¬ (l.length ≤ 16 ∧ ∀ x ∈ l, 0 ≤ x ∧ x ≤ 7) := by unfold isLoc; rw [decide_eq_false_iff_not]

theorem cell_of {w : World} {v : Value} {l : List Int} {B : Nat} (h : RI w v l B) {k : Nat} (hk : k < l.length) :
    ∃ b off cap, v = .slice (some ⟨b, off, none⟩) l.length cap ∧ b < B ∧ w.cell? ⟨b, off + k, none⟩ = some (.int .i64 l[k]) := by
  obtain ⟨a, cap, rfl, _, hc⟩ := h
  rcases hc with h0 | ⟨b, off, rfl, hb, hcell⟩
  · rw [h0] at hk; simp at hk
  · exact ⟨b, off, cap, rfl, hb, hcell k hk⟩

set_option maxRecDepth 100000 in
theorem spec_class (k : Int) (w : World) (hk : -9223372036854775808 ≤ k ∧ k ≤ 9223372036854775807) :
    Calls Try.prog 86 #[.int .i64 k] w fun e w' => e = .returned (.int .i64 (clsz k)) ∧ w = w' := by
  by_cases h : 0 ≤ k ∧ k ≤ 7
  · obtain ⟨n, rfl⟩ := Int.eq_ofNat_of_zero_le h.1
    have hn : n ≤ 7 := by omega
    rw [clsz_in hn]
    have hin := fun w => Fixed.l1In_yes h.1 h.2 w
    have HI := Lib.hid hin
    clear hin hk h
    go_enter Try.func86, Try.ntmps86
    go_wp2_with (go_at_call 63; refine (HI.out _).mono ?_; rintro e w1 ⟨rfl, rfl⟩)
    go_loop [3, 4] (fun m i => ∃ j : Nat, j ≤ n ∧ i = .int .i64 j ∧ m = .int .i64 (csN j : Nat)) (fun _ i => n - (intOf i).toNat)
    case atStart => exact ⟨0, Nat.zero_le _, rfl, rfl⟩
    case round =>
      obtain ⟨j, hj, rfl, rfl⟩ := hrel
      by_cases hlt : j < n
      · by_cases h0 : j = 0
        · subst h0
          have hz : ((csN 0 : Nat) : Int) = 0 := rfl
          rw [hz]
          clear hz
          go_wp2
          go_round
          case rel => exact ⟨1, by omega, rfl, rfl⟩
          case measure => simp [intOf]; omega
        · have hs := csN_step (k := j) (by omega)
          have hp := csN_pos (k := j) (by omega)
          have hb := csN_le (k := j) (by omega)
          have HS := Lib.hid hs
          clear hs
          generalize hc : csN j = c at *
          clear hc
          have hmax : (1 : Int) ≤ (c : Int) * 4 := by omega
          go_wp2
          go_round
          case rel => exact ⟨j + 1, by omega, by go_num, by rw [HS.out]; go_num⟩
          case measure => simp [intOf]; omega
      · have ek : j = n := by omega
        subst ek
        go_wp2
        go_ret
        exact ⟨rfl, rfl⟩
  · rw [clsz_out h]
    have hin := fun w => Fixed.l1In_no h w
    have HI := Lib.hid hin
    clear hin h
    go_enter Try.func86, Try.ntmps86
    go_wp2_with (go_at_call 63; refine (HI.out _).mono ?_; rintro e w1 ⟨rfl, rfl⟩)
    go_ret
    exact ⟨rfl, rfl⟩

set_option maxRecDepth 100000 in
theorem spec_size (n : Int) (w : World) :
    Calls Try.prog 46 #[.int .i64 n] w fun e w' => e = .returned (.int .i64 (szcl n)) ∧ w = w' := by
  by_cases h : n < 0
  · rw [szcl_neg h]
    go_enter Try.func46, Try.ntmps46
    go_wp2
    go_ret
    exact ⟨rfl, rfl⟩
  · go_enter Try.func46, Try.ntmps46
    go_wp2
    go_loop [3] (fun i => ∃ k : Nat, k ≤ 8 ∧ i = .int .i64 k ∧ Hid (∀ j : Nat, j < k → (csN j : Int) < n)) (fun i => 8 - (intOf i).toNat)
    case atStart => exact ⟨0, by decide, rfl, Lib.hid (fun j hj => by omega)⟩
    case round =>
      obtain ⟨k, hk, rfl, hl⟩ := hrel
      by_cases h8 : k ≤ 7
      · have hc := clsz_in h8
        have HC := Lib.hid (fun w => spec_class k w ⟨by omega, by omega⟩)
        rw [hc] at HC
        clear hc
        by_cases hge : n ≤ (csN k : Int)
        · have HZ := Lib.hid (szcl_of h8 (by omega) hl.out hge)
          generalize csN k = c at *
          go_wp2_with (go_at_call 86; refine (HC.out _).mono ?_; rintro e w1 ⟨rfl, rfl⟩)
          go_ret
          exact ⟨ret_int HZ.out.symm, rfl⟩
        · have hl2 := Lib.hid (show ∀ j : Nat, j < k + 1 → (csN j : Int) < n from fun j hj => by
            by_cases e : j = k
            · subst e; omega
            · exact hl.out j (by omega))
          generalize csN k = c at *
          go_wp2_with (go_at_call 86; refine (HC.out _).mono ?_; rintro e w1 ⟨rfl, rfl⟩)
          go_round
          case rel => exact ⟨k + 1, by omega, by go_num, hl2⟩
          case measure => simp [intOf]; omega
      · have HZ := Lib.hid (szcl_big (show 4096 < n from hl.out 7 (by omega)))
        go_wp2
        go_ret
        exact ⟨ret_int HZ.out.symm, rfl⟩

theorem spec_round (n : Int) (w : World) :
    Calls Try.prog 48 #[.int .i64 n] w fun e w' => e = .returned (.int .i64 (clsz (szcl n))) ∧ w = w' := by
  have hb := szcl_bd n
  have h1 := Lib.hid (fun w => spec_size n w)
  have h2 := Lib.hid (fun w => spec_class (szcl n) w ⟨by omega, by omega⟩)
  generalize szcl n = k at *
  go_enter Try.func48, Try.ntmps48
  go_wp2_with fail
  refine (h1.out _).mono ?_
  rintro e w1 ⟨rfl, rfl⟩
  go_wp2_with fail
  refine (h2.out _).mono ?_
  rintro e w1 ⟨rfl, rfl⟩
  go_wp2_with fail
  go_ret
  exact ⟨rfl, rfl⟩

set_option maxRecDepth 100000 in
theorem spec_isloc (v : Value) (l : List Int) (B : Nat) (w : World) (hr : RI w v l B) :
    Calls Try.prog 58 #[v] w fun e w' => e = .returned (.bool (isLoc l)) ∧ w = w' := by
  have HR := Lib.hid hr
  obtain ⟨a, cap, rfl, hlm, _⟩ := hr
  go_enter Try.func58, Try.ntmps58
  go_wp2
  go_loop [3] (fun i => ∃ k : Nat, k ≤ l.length ∧ i = .int .i64 k ∧ Hid (∀ x ∈ l.take k, 0 ≤ x ∧ x ≤ 7)) (fun i => l.length - (intOf i).toNat)
  case atStart => exact ⟨0, Nat.zero_le _, rfl, Lib.hid (fun x hx => by simp at hx)⟩
  case round =>
    obtain ⟨k, hk, rfl, hl⟩ := hrel
    by_cases hlt : k < l.length
    · obtain ⟨b, off, cap', e1, hbB, hc⟩ := cell_of HR.out hlt
      injection e1 with e1 e2 e3
      subst e1 e3
      by_cases hx : 0 ≤ l[k] ∧ l[k] ≤ 7
      · have HI := Lib.hid (fun w => Fixed.l1In_yes hx.1 hx.2 w)
        have hl2 := Lib.hid (show ∀ x ∈ l.take (k + 1), 0 ≤ x ∧ x ≤ 7 by
          rw [List.take_succ_eq_append_getElem hlt]
          intro x hx'
          rcases List.mem_append.1 hx' with q | q
          · exact hl.out x q
          · rw [List.mem_singleton.1 q]; exact hx)
        clear hx
        go_wp2_with (go_at_call 63; refine (HI.out _).mono ?_; rintro e w1 ⟨rfl, rfl⟩)
        go_round
        case rel => exact ⟨k + 1, by omega, by go_num, hl2⟩
        case measure => simp [intOf]; omega
      · have HI := Lib.hid (fun w => Fixed.l1In_no hx w)
        have HZ := Lib.hid (isLoc_no.2 fun q => hx (q.2 _ (List.getElem_mem hlt)))
        clear hx
        go_wp2_with (go_at_call 63; refine (HI.out _).mono ?_; rintro e w1 ⟨rfl, rfl⟩)
        go_ret
        exact ⟨ret_b HZ.out.symm, rfl⟩
    · have ek : k = l.length := by omega
      subst ek
      have HZ := Lib.hid (show isLoc l = decide (l.length ≤ 16) by
        have h := hl.out
        rw [List.take_length] at h
        unfold isLoc
        congr 1
        simp only [eq_iff_iff, and_iff_left_iff_imp]
        exact fun _ => h)
      go_wp2
      go_ret
      exact ⟨ret_b (by rw [HZ.out]; simp; omega), rfl⟩
end Go.Proofs.Ythageciihhpmoaa.Sz
