/- Tables: the model's inserting. -/
import Derived.Test.YtnoennmhifmolaaDoorTabCopy
namespace Go.Proofs.YtnoennmhifmolaaDoor.TabSpec
open Go Go.RowKit Byt Ints IntsLaw Cd Rows2 Tab

/-- May row be inserted? -/
def InsP (nm : ByteArray) (ar : Int) (rows : List (List Int)) (row : List Int) : Prop := TabP nm ar rows ∧ rowOk row ar = true ∧ row ∉ rows ∧ rows.length ≠ 8
instance (nm : ByteArray) (ar : Int) (rows : List (List Int)) (row : List Int) : Decidable (InsP nm ar rows row) := by unfold InsP; infer_instance
def insOk (nm : ByteArray) (ar : Int) (rows : List (List Int)) (row : List Int) : Bool := decide (InsP nm ar rows row)
def insR (nm : ByteArray) (ar : Int) (rows : List (List Int)) (row : List Int) : List (List Int) := if insOk nm ar rows row then putR rows row else rows

/-- What stays: the boxed table, the result's cells, the local table x and what it owns. -/
structure Fr (w : World) (X : Nat) (nm : ByteArray) (ar : Int) (tv u' : Value) (z0 z1 z2 : Value) (rows : List (List Int)) (fp : List Nat) (W : World) : Prop where
  b : Below w.heap.size w W
  t : Loc3 W w.heap.size (.string nm) (.int .i64 ar) tv
  r : Loc3 W (w.heap.size + 1) z0 z1 z2
  x : Loc3 W X (.string nm) (.int .i64 ar) u'
  o : rowsC.ow W (w.heap.size + 2) [u'] rows fp
  n : fp.Nodup
  d : X ∉ fp
  g : w.heap.size + 2 ≤ X
theorem Fr.later {w : World} {X : Nat} {nm : ByteArray} {ar : Int} {tv u' z0 z1 z2 : Value} {rows : List (List Int)} {fp : List Nat} {W W' : World} (h : Fr w X nm ar tv u' z0 z1 z2 rows fp W) (hb : Below W.heap.size W W') : Fr w X nm ar tv u' z0 z1 z2 rows fp W' :=
  ⟨below_then h.b hb, h.t.later hb, h.r.later hb, h.x.later hb, Cd.ow_later h.o hb, h.n, h.d, h.g⟩
theorem Fr.not1 {w : World} {X : Nat} {nm : ByteArray} {ar : Int} {tv u' z0 z1 z2 : Value} {rows : List (List Int)} {fp : List Nat} {W : World} (h : Fr w X nm ar tv u' z0 z1 z2 rows fp W) : w.heap.size + 1 ∉ fp := fun q => by
  have := (rowsC.ow_lt h.o _ q).1
  omega

end Go.Proofs.YtnoennmhifmolaaDoor.TabSpec
