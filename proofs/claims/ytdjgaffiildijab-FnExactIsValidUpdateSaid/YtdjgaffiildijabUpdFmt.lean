/- Updates: their format: the model's function and the program's. -/
import Derived.Test.YtdjgaffiildijabUpd
import Derived.Test.YtdjgaffiildijabTabSpec2
import Derived.Test.YtdjgaffiildijabTabImp1
import Derived.Test.YtdjgaffiildijabTabFmt
import Derived.Test.YtdjgaffiildijabDig
namespace Go.Proofs.Ytdjgaffiildijab.UpdFmt
open Go Go.RowKit Byt Ints IntsLaw Cd Rows2 Tab TabSpec Exact Upd TabFmt
open TabImp (is_name_at is_arity_at is_row)

def updOk (nm : ByteArray) (row : List Int) : Bool := nameOk nm && decide (1 ≤ (row.length : Int) ∧ (row.length : Int) ≤ 3) && rowOk row row.length
def signB (b : Bool) : UInt8 := if b then 43 else 45
def updB (nm : ByteArray) (b : Bool) (row : List Int) : List UInt8 := signB b :: (nm.data.toList ++ digB row)
def fmtU (nm : ByteArray) (b : Bool) (row : List Int) : ByteArray := ⟨(if updOk nm row then updB nm b row else []).toArray⟩
theorem fmtU_no {nm : ByteArray} {b : Bool} {row : List Int} (h : updOk nm row = false) : fmtU nm b row = ⟨#[]⟩ := by unfold fmtU; rw [h]; rfl
theorem fmtU_yes {nm : ByteArray} {b : Bool} {row : List Int} (h : updOk nm row = true) : fmtU nm b row = ⟨(updB nm b row).toArray⟩ := by unfold fmtU; rw [h]; rfl

/-- The kind of an update, as the program holds it. -/
def chV (b : Bool) : Value := if b then .iface 119 (.agg #[]) else .iface 120 (.agg #[])
set_option maxRecDepth 100000 in
theorem change_of (nm : ByteArray) (b : Bool) (u : Value) (w : World) :
    Calls Try.prog 47 #[.agg #[.string nm, .bool b, u]] w fun e w' => e = .returned (chV b) ∧ Below w.heap.size w w' := by
  cases b
  · go_enter Try.func47, Try.ntmps47
    go_wp2_with fail
    go_ret
    exact ⟨rfl, below_alloc _ _⟩
  · go_enter Try.func47, Try.ntmps47
    go_wp2_with fail
    go_ret
    exact ⟨rfl, below_alloc _ _⟩

def LaterU (w w' : World) : Prop := Below w.heap.size w w'
end Go.Proofs.Ytdjgaffiildijab.UpdFmt
