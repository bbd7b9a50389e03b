/- Columns of a table: strictly ascending, in range. Plain. -/
import Derived.Test.YtnoennmhifmolaaDoorTabSel
import Derived.Test.YtnoennmhifmolaaDoorTabSpec2
import Derived.Test.YtnoennmhifmolaaDoorExact
namespace Go.Proofs.YtnoennmhifmolaaDoor.DegMath
open Go Go.RowKit Byt Ints IntsLaw Cd Rows2 Tab TabSpec

/-! ### columns -/
def ColP (cols : List Int) (n : Int) : Prop := (∀ x ∈ cols, 0 ≤ x ∧ x < n) ∧ cols.Pairwise (· < ·)
instance (cols : List Int) (n : Int) : Decidable (ColP cols n) := by unfold ColP; infer_instance
def colsOk (cols : List Int) (n : Int) : Bool := decide (ColP cols n)
theorem col_more {l : List Int} {n : Int} {k : Nat} (h : ColP (l.take k) n) (hk : k < l.length) (hx : 0 ≤ l[k] ∧ l[k] < n) (h0 : ∀ j, k = j + 1 → (hj : j < l.length) → l[j] < l[k]) : ColP (l.take (k + 1)) n := by
  rw [List.take_succ_eq_append_getElem hk]
  refine ⟨fun x q => ?_, ?_⟩
  · rcases List.mem_append.1 q with q | q
    · exact h.1 x q
    · rw [List.mem_singleton.1 q]; exact hx
  · rw [List.pairwise_append]
    refine ⟨h.2, List.pairwise_singleton _ _, fun a ha b hb => ?_⟩
    rw [List.mem_singleton.1 hb]
    obtain ⟨i, hi, rfl⟩ := List.getElem_of_mem ha
    rw [List.length_take] at hi
    obtain ⟨j, rfl⟩ : ∃ j, k = j + 1 := ⟨k - 1, by omega⟩
    have hj := h0 j rfl (by omega)
    by_cases e : i = j
    · subst e; rw [List.getElem_take]; exact hj
    · have := List.pairwise_iff_getElem.1 h.2 i j (by rw [List.length_take]; omega) (by rw [List.length_take]; omega) (by omega)
      rw [List.getElem_take, List.getElem_take] at this
      rw [List.getElem_take]
      omega
theorem col_bad {l : List Int} {n : Int} {j : Nat} (hj : j + 1 < l.length) (h : ¬ l[j] < l[j + 1]) : ¬ ColP l n := fun q => h (List.pairwise_iff_getElem.1 q.2 j (j + 1) (by omega) hj (by omega))
theorem col_take {l : List Int} {n : Int} (h : ColP l n) (k : Nat) : ColP (l.take k) n := ⟨fun x q => h.1 x (List.mem_of_mem_take q), h.2.sublist (List.take_sublist k l)⟩

def gcOk (nm : ByteArray) (ar : Int) (rows : List (List Int)) (cols : List Int) : Bool := tabOk nm ar rows && colsOk cols ar
end Go.Proofs.YtnoennmhifmolaaDoor.DegMath
namespace Go.Proofs.YtnoennmhifmolaaDoor.DegImp
open Go Go.RowKit Byt Ints IntsLaw Cd Rows2 Tab TabSpec Exact DegMath

set_option maxRecDepth 100000 in
set_option maxHeartbeats 1600000 in
theorem impl_asc (v : Value) (V : List Int) (L : Int) (B : Nat) (w : World) (hr : RI w v V B) :
    Calls Tryd.prog 67 #[v, .int .i64 L] w fun e w' => e = .returned (.bool (colsOk V L)) ∧ w = w' := by
  have HR := Lib.hid hr
  obtain ⟨a, cap, rfl, hlm, _⟩ := hr
  go_enter Tryd.func67, Tryd.ntmps67
  go_wp2_with fail
  go_loop [9] (fun i => ∃ k : Nat, k ≤ V.length ∧ i = .int .i64 k ∧ Hid (ColP (V.take k) L)) (fun i => V.length - (intOf i).toNat)
  case atStart => exact ⟨0, Nat.zero_le _, rfl, Lib.hid ⟨fun x hx => by simp at hx, by simp⟩⟩
  case round =>
    obtain ⟨k, hk, rfl, hvp⟩ := hrel
    by_cases hlt : k < V.length
    · obtain ⟨b, off, cap', e1, hbB, hc⟩ := ri_at HR.out hlt
      injection e1 with e1 e2 e3
      subst e1 e3
      have p1 : (0 : Int) ≤ (k : Int) := by omega
      have p2 : (k : Int) < (V.length : Int) := by omega
      by_cases hx0 : V[k] < 0
      · have HZ := Lib.hid (show colsOk V L = false from decide_eq_false fun q => by have := q.1 _ (List.getElem_mem hlt); omega)
        generalize V[k] = z at *
        go_wp2_with fail
        go_ret
        exact ⟨ret_b HZ.out.symm, rfl⟩
      by_cases hx4 : L ≤ V[k]
      · have HZ := Lib.hid (show colsOk V L = false from decide_eq_false fun q => by have := q.1 _ (List.getElem_mem hlt); omega)
        generalize V[k] = z at *
        go_wp2_with fail
        go_ret
        exact ⟨ret_b HZ.out.symm, rfl⟩
      by_cases hk0 : k = 0
      · have has2 := Lib.hid (col_more hvp.out hlt (by omega) (fun j hj => by omega))
        have q0 : ¬ 0 < k := by omega
        clear hk0
        generalize V[k] = z at *
        go_wp2_with fail
        go_round
        case rel => exact ⟨k + 1, by omega, by go_num, has2⟩
        case measure => simp [intOf]; omega
      · obtain ⟨j, hj⟩ : ∃ j, k = j + 1 := ⟨k - 1, by omega⟩
        have hjl : j < V.length := by omega
        obtain ⟨b', off', cap', e1, hbB', hc'⟩ := ri_at HR.out hjl
        injection e1 with e1 e2 e3
        injection e1 with e1
        injection e1 with e1 e2 _
        subst e1 e2 e3
        have p3 : (0 : Int) ≤ (j : Int) := by omega
        have p4 : (j : Int) < (V.length : Int) := by omega
        have p5 : 0 < k := by omega
        have p6 : (k : Int) - 1 = (j : Int) := by omega
        by_cases hcmp : V[j] < V[k]
        · have has2 := Lib.hid (col_more hvp.out hlt (by omega) (fun j' hj' _ => by
            obtain rfl : j' = j := by omega
            exact hcmp))
          have hge : ¬ V[k] ≤ V[j] := by omega
          have HJ := Lib.hid hj
          clear hj hk0 hcmp
          generalize V[k] = z at *
          generalize V[j] = y at *
          go_wp2_with fail
          go_round
          case rel => exact ⟨k + 1, by omega, by go_num, has2⟩
          case measure => simp [intOf]; omega
        · have HZ := Lib.hid (show colsOk V L = false from decide_eq_false (by
            subst hj
            exact col_bad (by omega) hcmp))
          have hge : V[k] ≤ V[j] := by omega
          have HJ := Lib.hid hj
          clear hj hk0 hcmp
          generalize V[k] = z at *
          generalize V[j] = y at *
          go_wp2_with fail
          go_ret
          exact ⟨ret_b HZ.out.symm, rfl⟩
    · have ek : k = V.length := by omega
      subst ek
      rw [List.take_length] at hvp
      have HZ := Lib.hid (show colsOk V L = true from decide_eq_true hvp.out)
      go_wp2_with fail
      go_ret
      exact ⟨ret_b HZ.out.symm, rfl⟩
end Go.Proofs.YtnoennmhifmolaaDoor.DegImp
