/- Size classes and locations: what the document says, and the model's functions. -/
import Derived.Test.YthnphlgkkfdnlaaDoorRows
import Derived.Test.YthnphlgkkfdnlaaDoorFixed
import Derived.Test.YthnphlgkkfdnlaaDoorInts
import Derived.WalkKit
import Derived.WalkSpells
import Derived.WalkLawsBesides
import Derived.Lib.Hide
import Derived.Deep.QuietTactic
import Derived.BigQuiet
namespace Go.Proofs.YthnphlgkkfdnlaaDoor.Sz
open Go Go.RowKit Byt Ints

/-- The size of class k. -/
def csN : Nat → Nat
  | 0 => 0
  | k + 1 => 4 ^ k
def clsz (k : Int) : Int := if 0 ≤ k ∧ k ≤ 7 then (csN k.toNat : Int) else -1
def szcl (n : Int) : Int :=
  if n < 0 then -1 else if n ≤ 0 then 0 else if n ≤ 1 then 1 else if n ≤ 4 then 2 else if n ≤ 16 then 3 else if n ≤ 64 then 4 else if n ≤ 256 then 5 else if n ≤ 1024 then 6 else if n ≤ 4096 then 7 else -1
theorem csN_le {k : Nat} (h : k ≤ 7) : csN k ≤ 4096 := by
  rcases (show k = 0 ∨ k = 1 ∨ k = 2 ∨ k = 3 ∨ k = 4 ∨ k = 5 ∨ k = 6 ∨ k = 7 by omega) with rfl | rfl | rfl | rfl | rfl | rfl | rfl | rfl <;> decide
theorem csN_pos {k : Nat} (h : 0 < k) : 1 ≤ csN k := by
  cases k with
  | zero => omega
  | succ k => exact Nat.pow_pos (by decide)
theorem csN_step {k : Nat} (h : 0 < k) : csN (k + 1) = csN k * 4 := by
  cases k with
  | zero => omega
  | succ k => show 4 ^ (k + 1) = 4 ^ k * 4; rw [Nat.pow_succ]
theorem clsz_in {k : Nat} (h : k ≤ 7) : clsz k = (csN k : Int) := by
  unfold clsz
  rw [if_pos ⟨by omega, by omega⟩, Int.toNat_natCast]
theorem clsz_out {k : Int} (h : ¬ (0 ≤ k ∧ k ≤ 7)) : clsz k = -1 := by unfold clsz; rw [if_neg h]
theorem clsz_bd (k : Int) : -1 ≤ clsz k ∧ clsz k ≤ 4096 := by
  unfold clsz
  split
  · have := csN_le (k := k.toNat) (by omega)
    omega
  · omega
theorem szcl_of {n : Int} {k : Nat} (hk : k ≤ 7) (h0 : 0 ≤ n) (hl : ∀ j : Nat, j < k → (csN j : Int) < n) (hn : n ≤ (csN k : Int)) : szcl n = k := by
  rcases (show k = 0 ∨ k = 1 ∨ k = 2 ∨ k = 3 ∨ k = 4 ∨ k = 5 ∨ k = 6 ∨ k = 7 by omega) with rfl | rfl | rfl | rfl | rfl | rfl | rfl | rfl
  · have h1 : n ≤ 0 := hn
    unfold szcl; split <;> omega
  · have h1 : n ≤ 1 := hn
    have h2 : (0 : Int) < n := hl 0 (by decide)
    unfold szcl; repeat' split
    all_goals omega
  · have h1 : n ≤ 4 := hn
    have h2 : (1 : Int) < n := hl 1 (by decide)
    unfold szcl; repeat' split
    all_goals omega
  · have h1 : n ≤ 16 := hn
    have h2 : (4 : Int) < n := hl 2 (by decide)
    unfold szcl; repeat' split
    all_goals omega
  · have h1 : n ≤ 64 := hn
    have h2 : (16 : Int) < n := hl 3 (by decide)
    unfold szcl; repeat' split
    all_goals omega
  · have h1 : n ≤ 256 := hn
    have h2 : (64 : Int) < n := hl 4 (by decide)
    unfold szcl; repeat' split
    all_goals omega
  · have h1 : n ≤ 1024 := hn
    have h2 : (256 : Int) < n := hl 5 (by decide)
    unfold szcl; repeat' split
    all_goals omega
  · have h1 : n ≤ 4096 := hn
    have h2 : (1024 : Int) < n := hl 6 (by decide)
    unfold szcl; repeat' split
    all_goals omega
theorem szcl_big {n : Int} (h : 4096 < n) : szcl n = -1 := by
  unfold szcl; repeat' split
  all_goals omega
theorem szcl_neg {n : Int} (h : n < 0) : szcl n = -1 := by unfold szcl; rw [if_pos h]
theorem szcl_bd (n : Int) : -1 ≤ szcl n ∧ szcl n ≤ 7 := by
  unfold szcl; repeat' split
  all_goals omega

/-- Is l a location? -/
def isLoc (l : List Int) : Bool := decide (l.length ≤ 16 ∧ ∀ x ∈ l, 0 ≤ x ∧ x ≤ 7)
theorem isLoc_iff {l : List Int} : isLoc l = true ↔ (l.length ≤ 16 ∧ ∀ x ∈ l, 0 ≤ x ∧ x ≤ 7) := by simp [isLoc]
theorem isLoc_no {l : List Int} : isLoc l = false ↔ ¬ (l.length ≤ 16 ∧ ∀ x ∈ l, 0 ≤ x ∧ x ≤ 7) := by unfold isLoc; rw [decide_eq_false_iff_not]

theorem cell_of {w : World} {v : Value} {l : List Int} {B : Nat} (h : RI w v l B) {k : Nat} (hk : k < l.length) :
    ∃ b off cap, v = .slice (some ⟨b, off, none⟩) l.length cap ∧ b < B ∧ w.cell? ⟨b, off + k, none⟩ = some (.int .i64 l[k]) := by
  obtain ⟨a, cap, rfl, _, hc⟩ := h
  rcases hc with h0 | ⟨b, off, rfl, hb, hcell⟩
  · rw [h0] at hk; simp at hk
  · exact ⟨b, off, cap, rfl, hb, hcell k hk⟩




end Go.Proofs.YthnphlgkkfdnlaaDoor.Sz
