/- Queries: names of variables, bit sets as lists, columns: the model's functions and the program's. -/
import Derived.Test.YtdkhgeknjekkoaaQryMath
import Derived.Test.YtdkhgeknjekkoaaTabSel
import Derived.Test.YtdkhgeknjekkoaaBit
import Derived.Deep.DeepCutAuto
namespace Go.Proofs.Ytdkhgeknjekkoaa.QrySpec
open Go Go.RowKit Byt Ints IntsLaw Cd Rows2 Tab TabSpec Exact Atom QryMath


theorem vn_no {v : Int} (h : ¬ (0 ≤ v ∧ v < 4)) : vnm v = ⟨#[]⟩ := if_neg h
theorem spec_name (v : Int) (w : World) : Calls Try.prog 35 #[.int .i64 v] w fun e w' => e = .returned (.string (vnm v)) ∧ w = w' := by
  by_cases h : 0 ≤ v ∧ v ≤ 3
  · have HI := Lib.hid (fun w => Fixed.l1In_yes h.1 h.2 w)
    have hc : v = 0 ∨ v = 1 ∨ v = 2 ∨ v = 3 := by omega
    rcases hc with rfl | rfl | rfl | rfl
    all_goals
      clear h
      go_enter Try.func35, Try.ntmps35
      go_wp2_with (go_at_call 17; refine (HI.out _).mono ?_; rintro e w1 ⟨rfl, rfl⟩)
      go_ret
      exact ⟨rfl, rfl⟩
  · have HI := Lib.hid (fun w => Fixed.l1In_no h w)
    have HZ := Lib.hid (vn_no (v := v) (by omega))
    clear h
    go_enter Try.func35, Try.ntmps35
    go_wp2_with (go_at_call 17; refine (HI.out _).mono ?_; rintro e w1 ⟨rfl, rfl⟩)
    go_ret
    exact ⟨ret_str HZ.out.symm, rfl⟩
theorem impl_name (v : Int) (w : World) : Calls Try.prog 39 #[.int .i64 v] w fun e w' => e = .returned (.string (vnm v)) ∧ w = w' := by
  by_cases h : 0 ≤ v ∧ v ≤ 3
  · have hc : v = 0 ∨ v = 1 ∨ v = 2 ∨ v = 3 := by omega
    rcases hc with rfl | rfl | rfl | rfl
    all_goals
      clear h
      go_enter Try.func39, Try.ntmps39
      go_wp2
      go_ret
      exact ⟨rfl, rfl⟩
  · have HZ := Lib.hid (vn_no (v := v) (by omega))
    by_cases h0 : v < 0
    · clear h
      go_enter Try.func39, Try.ntmps39
      go_wp2
      go_ret
      exact ⟨ret_str HZ.out.symm, rfl⟩
    · have h4 : 4 ≤ v := by omega
      clear h
      go_enter Try.func39, Try.ntmps39
      go_wp2
      go_ret
      exact ⟨ret_str HZ.out.symm, rfl⟩

theorem bit_at {s : Nat} (h : s < 16) (k : Nat) : bits .and .i64 ((s : Int) / 2 ^ k) 1 = ((s / 2 ^ k % 2 : Nat) : Int) := by
  have e : ((s : Int) / 2 ^ k) = ((s / 2 ^ k : Nat) : Int) := by push_cast; rfl
  have hd := Nat.div_le_self s (2 ^ k)
  rw [e]
  generalize s / 2 ^ k = d at *
  have h1 := Bit.i64_mask 1 (by decide) (d : Int) (by omega) (by omega)
  rw [show (1 : Int) = 2 ^ 1 - 1 from rfl, h1]
  omega
end Go.Proofs.Ytdkhgeknjekkoaa.QrySpec
