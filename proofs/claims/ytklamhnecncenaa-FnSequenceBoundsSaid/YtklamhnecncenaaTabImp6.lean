/- Tables: where a row lies: the program's functions. -/
import Derived.Test.YtklamhnecncenaaTabImp2
import Derived.Test.YtklamhnecncenaaTabDel
import Derived.Test.YtklamhnecncenaaExact
namespace Go.Proofs.Ytklamhnecncenaa.TabImp
open Go Go.RowKit Byt Ints IntsLaw Cd Rows2 Tab TabSpec Exact

/-- How many rows lie before row. -/
def FindP (rows : List (List Int)) (row : List Int) (i : Nat) : Prop :=
  i ≤ rows.length ∧ (∀ t, (h : t < rows.length) → t < i → cmpR rows[t] row < 0) ∧ (∀ t, (h : t < rows.length) → i ≤ t → 0 ≤ cmpR rows[t] row)
theorem asc_lt {rows : List (List Int)} (h : Asc rows) {s t : Nat} (hs : s < t) (ht : t < rows.length) : cmpR rows[s] rows[t] < 0 := List.pairwise_iff_getElem.1 h s t (by omega) ht hs
theorem find_mem {rows : List (List Int)} {row : List Int} {i : Nat} (ha : Asc rows) (h : FindP rows row i) : row ∈ rows ↔ ∃ h : i < rows.length, rows[i] = row := by
  constructor
  · intro hm
    obtain ⟨t, ht, rfl⟩ := List.getElem_of_mem hm
    by_cases e : t = i
    · subst e; exact ⟨ht, rfl⟩
    · by_cases hlt : t < i
      · have := h.2.1 t ht hlt
        rw [cmpR_self] at this
        omega
      · have h1 := asc_lt ha (show i < t by omega) ht
        have h2 := h.2.2 i (by omega) (Nat.le_refl _)
        omega
  · rintro ⟨hi, rfl⟩
    exact List.getElem_mem hi
theorem asc_before {rows : List (List Int)} {row : List Int} (ha : Asc rows) {s t : Nat} (hst : s ≤ t) (ht : t < rows.length) (h : cmpR rows[t] row < 0) : cmpR rows[s] row < 0 := by
  by_cases e : s = t
  · subst e; exact h
  · exact cmpR_trans (asc_lt ha (by omega) ht) h

def SearchAns (rows : List (List Int)) (row : List Int) (w : World) (e : Ending) (w' : World) : Prop :=
  ∃ i : Nat, e = .returned (.tuple #[.int .i64 i, .bool (decide (row ∈ rows))]) ∧ FindP rows row i ∧ w = w'

end Go.Proofs.Ytklamhnecncenaa.TabImp
