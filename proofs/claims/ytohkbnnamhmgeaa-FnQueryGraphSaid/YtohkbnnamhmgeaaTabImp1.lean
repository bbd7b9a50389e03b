/- Tables: the program's functions that only look. -/
import Derived.Test.YtohkbnnamhmgeaaTabSpec2
namespace Go.Proofs.Ytohkbnnamhmgeaa.TabImp
open Go Go.RowKit Byt Ints IntsLaw Cd Rows2 Tab TabSpec

theorem is_name (s : ByteArray) (w : World) : Calls Try.prog 72 #[.string s] w fun e w' => e = .returned (.bool (nameOk s)) ∧ w = w' := by
  by_cases h1 : s.size = 1
  · have hh : s.data.toList.headD 0 = s[0] := by
      have : s.data.toList = [s[0]] := by
        have hl : s.data.toList.length = 1 := by rw [Array.length_toList]; exact h1
        match hq : s.data.toList, hl with
        | [x], _ =>
          have : s.data.toList[0]? = some x := by rw [hq]; rfl
          have h2 : s[0] = x := by
            have h3 : s.data[0]? = some x := by simpa using this
            exact (Array.getElem?_eq_some_iff.1 h3).2
          rw [h2]
      rw [this]
      rfl
    have hi : (0 : Int) < (s.size : Int) := by omega
    by_cases h2 : 97 ≤ s[0].toNat
    · by_cases h3 : s[0].toNat ≤ 122
      · have HZ := Lib.hid (show nameOk s = true from decide_eq_true ⟨h1, by rw [hh]; exact h2, by rw [hh]; exact h3⟩)
        clear hh
        go_enter Try.func72, Try.ntmps72
        go_wp2
        go_ret
        exact ⟨ret_b ((decide_eq_true (by omega)).trans HZ.out.symm), rfl⟩
      · have HZ := Lib.hid (show nameOk s = false from decide_eq_false fun q => h3 (by rw [← hh]; exact q.2.2))
        clear hh
        go_enter Try.func72, Try.ntmps72
        go_wp2
        go_ret
        exact ⟨ret_b ((decide_eq_false (by omega)).trans HZ.out.symm), rfl⟩
    · have HZ := Lib.hid (show nameOk s = false from decide_eq_false fun q => h2 (by rw [← hh]; exact q.2.1))
      clear hh
      go_enter Try.func72, Try.ntmps72
      go_wp2
      go_ret
      exact ⟨ret_b HZ.out.symm, rfl⟩
  · have HZ := Lib.hid (show nameOk s = false from decide_eq_false fun q => h1 q.1)
    have hs : ¬ ((s.size : Int) = 1) := by omega
    go_enter Try.func72, Try.ntmps72
    go_wp2
    go_ret
    exact ⟨ret_b HZ.out.symm, rfl⟩
theorem is_name_at {s : ByteArray} {b : Bool} (h : nameOk s = b) (w : World) : Calls Try.prog 72 #[.string s] w fun e w' => e = .returned (.bool b) ∧ w = w' := by
  subst h
  exact is_name s w

theorem is_arity (k : Int) (w : World) :
    Calls Try.prog 73 #[.int .i64 k] w fun e w' => e = .returned (.bool (decide (1 ≤ k ∧ k ≤ 3))) ∧ w = w' := by
  by_cases h : 1 ≤ k <;> by_cases h' : k ≤ 3
  all_goals
    go_enter Try.func73, Try.ntmps73
    go_wp2
    go_ret
    exact ⟨by simp [*], rfl⟩
theorem is_arity_at {k : Int} {b : Bool} (h : decide (1 ≤ k ∧ k ≤ 3) = b) (w : World) :
    Calls Try.prog 73 #[.int .i64 k] w fun e w' => e = .returned (.bool b) ∧ w = w' := by
  subst h
  exact is_arity k w


end Go.Proofs.Ytohkbnnamhmgeaa.TabImp
