/- Tables: the model's deleting. -/
import Derived.Test.YtklamhnecncenaaTabIns
namespace Go.Proofs.Ytklamhnecncenaa.TabSpec
open Go Go.RowKit Byt Ints IntsLaw Cd Rows2 Tab

/-- The rows but row. -/
def dropR (rows : List (List Int)) (row : List Int) : List (List Int) := rows.filter fun r => decide (r ≠ row)
def delR (nm : ByteArray) (ar : Int) (rows : List (List Int)) (row : List Int) : List (List Int) := if hasR nm ar rows row then dropR rows row else rows
theorem dropR_len (rows : List (List Int)) (row : List Int) : (dropR rows row).length ≤ rows.length := List.length_filter_le _ _
theorem dropR_skip {rows : List (List Int)} {row : List Int} {k : Nat} (h : k < rows.length) (he : rows[k] = row) : dropR (rows.take (k + 1)) row = dropR (rows.take k) row := by
  unfold dropR
  rw [List.take_succ_eq_append_getElem h, List.filter_append]
  simp [he]
theorem dropR_next {rows : List (List Int)} {row : List Int} {k : Nat} (h : k < rows.length) (he : rows[k] ≠ row) : dropR (rows.take (k + 1)) row = dropR (rows.take k) row ++ [rows[k]] := by
  unfold dropR
  rw [List.take_succ_eq_append_getElem h, List.filter_append]
  simp [he]

theorem Fr.made {w : World} {X : Nat} {nm : ByteArray} {ar : Int} {tv u0 u' z0 z1 z2 : Value} {rows : List (List Int)} {fp : List Nat} {W : World} (b : Below w.heap.size w W) (t : Loc3 W w.heap.size (.string nm) (.int .i64 ar) tv)
    (r : Loc3 W (w.heap.size + 1) z0 z1 z2) (x : Loc3 W X (.string nm) (.int .i64 ar) u0) (o : rowsC.ow W (w.heap.size + 2) [u'] rows fp) (n : fp.Nodup) (d : X ∉ fp) (g : w.heap.size + 2 ≤ X) : Fr w X nm ar tv u' z0 z1 z2 rows fp (W.setCell ⟨X, 2, none⟩ u') :=
  ⟨b.setCell (by show _ ≤ X; omega) _, t.set_far (by show X ≠ _; omega) _, r.set_far (by show X ≠ _; omega) _, x.set2 _, ow_setCell o d _, n, d, g⟩

end Go.Proofs.Ytklamhnecncenaa.TabSpec
