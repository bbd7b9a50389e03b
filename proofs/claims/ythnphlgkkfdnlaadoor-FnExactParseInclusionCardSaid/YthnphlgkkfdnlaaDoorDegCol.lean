/- Columns of a table: strictly ascending, in range. Plain. -/
import Derived.Test.YthnphlgkkfdnlaaDoorTabSel
import Derived.Test.YthnphlgkkfdnlaaDoorTabSpec2
import Derived.Test.YthnphlgkkfdnlaaDoorExact
namespace Go.Proofs.YthnphlgkkfdnlaaDoor.DegMath
open Go Go.RowKit Byt Ints IntsLaw Cd Rows2 Tab TabSpec

/-! ### columns -/
def ColP (cols : List Int) (n : Int) : Prop := (∀ x ∈ cols, 0 ≤ x ∧ x < n) ∧ cols.Pairwise (· < ·)
instance (cols : List Int) (n : Int) : Decidable (ColP cols n) := by unfold ColP; infer_instance
def colsOk (cols : List Int) (n : Int) : Bool := decide (ColP cols n)
theorem col_more {l : List Int} {n : Int} {k : Nat} (h : ColP (l.take k) n) (hk : k < l.length) (hx : 0 ≤ l[k] ∧ l[k] < n) (h0 : ∀ j, k = j + 1 → (hj : j < l.length) → l[j] < l[k]) : ColP (l.take (k + 1)) n := by
  rw [List.take_succ_eq_append_getElem hk]
  refine ⟨fun x q => ?_, ?_⟩
  · rcases List.mem_append.1 q with q | q
    · exact h.1 x q
    · rw [List.mem_singleton.1 q]; exact hx
  · rw [List.pairwise_append]
    refine ⟨h.2, List.pairwise_singleton _ _, fun a ha b hb => ?_⟩
    rw [List.mem_singleton.1 hb]
    obtain ⟨i, hi, rfl⟩ := List.getElem_of_mem ha
    rw [List.length_take] at hi
    obtain ⟨j, rfl⟩ : ∃ j, k = j + 1 := ⟨k - 1, by omega⟩
    have hj := h0 j rfl (by omega)
    by_cases e : i = j
    · subst e; rw [List.getElem_take]; exact hj
    · have := List.pairwise_iff_getElem.1 h.2 i j (by rw [List.length_take]; omega) (by rw [List.length_take]; omega) (by omega)
      rw [List.getElem_take, List.getElem_take] at this
      rw [List.getElem_take]
      omega
theorem col_bad {l : List Int} {n : Int} {j : Nat} (hj : j + 1 < l.length) (h : ¬ l[j] < l[j + 1]) : ¬ ColP l n := fun q => h (List.pairwise_iff_getElem.1 q.2 j (j + 1) (by omega) hj (by omega))
theorem col_take {l : List Int} {n : Int} (h : ColP l n) (k : Nat) : ColP (l.take k) n := ⟨fun x q => h.1 x (List.mem_of_mem_take q), h.2.sublist (List.take_sublist k l)⟩

def gcOk (nm : ByteArray) (ar : Int) (rows : List (List Int)) (cols : List Int) : Bool := tabOk nm ar rows && colsOk cols ar
end Go.Proofs.YthnphlgkkfdnlaaDoor.DegMath
namespace Go.Proofs.YthnphlgkkfdnlaaDoor.DegImp
open Go Go.RowKit Byt Ints IntsLaw Cd Rows2 Tab TabSpec Exact DegMath

end Go.Proofs.YthnphlgkkfdnlaaDoor.DegImp
