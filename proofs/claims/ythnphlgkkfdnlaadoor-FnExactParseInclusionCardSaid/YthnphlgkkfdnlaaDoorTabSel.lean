/- Tables: the model's choice of columns. -/
import Derived.Test.YthnphlgkkfdnlaaDoorTabPut
namespace Go.Proofs.YthnphlgkkfdnlaaDoor.TabSpec
open Go Go.RowKit Byt Ints IntsLaw Cd Rows2 Tab

def SelP (row cols : List Int) : Prop := ∀ c ∈ cols, 0 ≤ c ∧ c < row.length
instance (row cols : List Int) : Decidable (SelP row cols) := by unfold SelP; infer_instance
def selOk (row cols : List Int) : Bool := decide (SelP row cols)
def selR (row cols : List Int) : List Int := cols.map fun c => row.getD c.toNat 0
def SelAns (row cols : List Int) (w : World) (e : Ending) (w' : World) : Prop :=
  ∃ u' fp, e = .returned (.tuple #[u', .bool (selOk row cols)]) ∧ rowC.ow w' w.heap.size [u'] (if selOk row cols then selR row cols else []) fp ∧ fp.Nodup ∧ Below w.heap.size w w'
theorem selR_next {row cols : List Int} {k : Nat} (h : k < cols.length) {t : Nat} (ht : t < row.length) (he : cols[k] = (t : Int)) : selR row (cols.take (k + 1)) = selR row (cols.take k) ++ [row[t]] := by
  unfold selR
  rw [List.take_succ_eq_append_getElem h, List.map_append, List.map_singleton, he, Int.toNat_natCast]
  simp [ht]
theorem inr_sel {row cols : List Int} (hr : InR row) : InR (selR row cols) := by
  intro x hx
  simp [selR] at hx
  obtain ⟨c, _, rfl⟩ := hx
  by_cases h : c.toNat < row.length
  · rw [List.getElem?_eq_getElem h]
    exact hr _ (List.getElem_mem h)
  · rw [List.getElem?_eq_none (by omega)]
    simp

end Go.Proofs.YthnphlgkkfdnlaaDoor.TabSpec
