/- Sets of small numbers as bits, as lists. Plain. -/
import Derived.Test.YtnoennmhifmolaaDoorIntsLaw
import Derived.Test.YtnoennmhifmolaaDoorTabSel
import Derived.Test.YtnoennmhifmolaaDoorExact
import Derived.Test.YtnoennmhifmolaaDoorBit
namespace Go.Proofs.YtnoennmhifmolaaDoor.QryMath
open Go Go.RowKit

/-- The bits below k that are set, ascending. -/
def varsTo (s k : Nat) : List Int := ((List.range k).filter fun v => s / 2 ^ v % 2 == 1).map Int.ofNat
def varsL (s : Nat) : List Int := varsTo s 4
theorem varsTo_yes {s k : Nat} (h : s / 2 ^ k % 2 = 1) : varsTo s (k + 1) = varsTo s k ++ [(k : Int)] := by
  unfold varsTo
  rw [List.range_succ, List.filter_append, List.map_append]
  simp [h]
theorem varsTo_no {s k : Nat} (h : ¬ s / 2 ^ k % 2 = 1) : varsTo s (k + 1) = varsTo s k := by
  unfold varsTo
  rw [List.range_succ, List.filter_append, List.map_append]
  simp [h]
theorem varsTo_zero (s : Nat) : varsTo s 0 = [] := rfl
theorem varsL_zero : varsL 0 = [] := by decide
theorem varsTo_len (s k : Nat) : (varsTo s k).length ≤ k := by
  unfold varsTo
  rw [List.length_map]
  exact Nat.le_trans (List.length_filter_le _ _) (by rw [List.length_range]; exact Nat.le_refl _)
theorem inr_varsTo (s k : Nat) (hk : k ≤ 64) : ∀ x ∈ varsTo s k, -9223372036854775808 ≤ x ∧ x ≤ 9223372036854775807 := by
  intro x hx
  unfold varsTo at hx
  obtain ⟨y, hy, rfl⟩ := List.mem_map.1 hx
  have := List.mem_range.1 (List.mem_filter.1 hy).1
  simp only [Int.ofNat_eq_natCast]
  omega

def hasI (l : List Int) (x : Int) : Bool := l.contains x
end Go.Proofs.YtnoennmhifmolaaDoor.QryMath
namespace Go.Proofs.YtnoennmhifmolaaDoor.QrySpec
open Go Go.RowKit Byt Ints IntsLaw Cd Rows2 Tab TabSpec Exact QryMath

set_option maxRecDepth 100000 in
theorem spec_has (v : Value) (l : List Int) (x : Int) (B : Nat) (w : World) (hr : RI w v l B) :
    Calls Tryd.prog 45 #[v, .int .i64 x] w fun e w' => e = .returned (.bool (hasI l x)) ∧ w = w' := by
  have HR := Lib.hid hr
  obtain ⟨a, cap, rfl, hlm, _⟩ := hr
  go_enter Tryd.func45, Tryd.ntmps45
  go_wp2
  go_loop [5] (fun i => ∃ k : Nat, k ≤ l.length ∧ i = .int .i64 k ∧ Hid (∀ y ∈ l.take k, y ≠ x)) (fun i => l.length - (intOf i).toNat)
  case atStart => exact ⟨0, Nat.zero_le _, rfl, Lib.hid (fun x hx => by simp at hx)⟩
  case round =>
    obtain ⟨k, hk, rfl, hl⟩ := hrel
    by_cases hlt : k < l.length
    · obtain ⟨b, off, cap', e1, hbB, hc⟩ := ri_at HR.out hlt
      injection e1 with e1 e2 e3
      subst e1 e3
      have p1 : (0 : Int) ≤ (k : Int) := by omega
      have p2 : (k : Int) < (l.length : Int) := by omega
      by_cases hx : l[k] = x
      · have HZ := Lib.hid (show hasI l x = true by unfold hasI; rw [List.contains_iff_mem, ← hx]; exact List.getElem_mem hlt)
        have t1 : (l[k] == x) = true := beq_iff_eq.2 hx
        clear hx
        go_wp2
        go_ret
        exact ⟨ret_b HZ.out.symm, rfl⟩
      · have hl2 := Lib.hid (show ∀ y ∈ l.take (k + 1), y ≠ x by
          rw [List.take_succ_eq_append_getElem hlt]
          intro y hy
          rcases List.mem_append.1 hy with q | q
          · exact hl.out y q
          · rw [List.mem_singleton.1 q]; exact hx)
        have t1 : (l[k] == x) = false := beq_eq_false_iff_ne.2 hx
        clear hx
        go_wp2
        go_round
        case rel => exact ⟨k + 1, by omega, by go_num, hl2⟩
        case measure => simp [intOf]; omega
    · have ek : k = l.length := by omega
      subst ek
      have HZ := Lib.hid (show hasI l x = false by
        unfold hasI
        have h := hl.out
        rw [List.take_length] at h
        rw [Bool.eq_false_iff]
        intro q
        rw [List.contains_iff_mem] at q
        exact h x q rfl)
      go_wp2
      go_ret
      exact ⟨ret_b HZ.out.symm, rfl⟩
theorem bit_at {s : Nat} (h : s < 16) (k : Nat) : bits .and .i64 ((s : Int) / 2 ^ k) 1 = ((s / 2 ^ k % 2 : Nat) : Int) := by
  have e : ((s : Int) / 2 ^ k) = ((s / 2 ^ k : Nat) : Int) := by push_cast; rfl
  have hd := Nat.div_le_self s (2 ^ k)
  rw [e]
  generalize s / 2 ^ k = d at *
  have h1 := Bit.i64_mask 1 (by decide) (d : Int) (by omega) (by omega)
  rw [show (1 : Int) = 2 ^ 1 - 1 from rfl, h1]
  omega
end Go.Proofs.YtnoennmhifmolaaDoor.QrySpec
