/- The helpers of the exact laws in one form, whatever the type: copied, compared, marked, looked at. -/
import Derived.Test.YthnphlgkkfdnlaaDoorTabCopy
namespace Go.Proofs.YthnphlgkkfdnlaaDoor.Exact
open Go Go.RowKit Byt Ints IntsLaw Cd Rows2 Tab TabSpec


theorem rd_drew {α : Type} {c : Cd α} {w : World} {S : Nat → Prop} {us : List Value} {a : α} (h : c.rd w S us a) : c.rd w.drew S us a := c.keep h fun _ _ _ => rfl
theorem loc_drew {w : World} {X : Nat} {a b c : Value} (h : Loc3 w X a b c) : Loc3 w.drew X a b c := ⟨h.c0, h.c1, h.c2, h.f0, h.f1, h.f2⟩
theorem undrew {w w' : World} (h : Below w.drew.heap.size w.drew w') : Below w.heap.size w w' := ⟨h.os, h.tape, h.output, h.size, h.block⟩
theorem bound_of {α : Type} {c : Cd α} {w : World} {base : Nat} {us : List Value} {a : α} {fp : List Nat} (h : c.ow w base us a fp) : ∀ b ∈ fp, base ≤ b ∧ b < w.heap.size := c.ow_lt h
theorem start0 (w : World) (o0 : Obj) {W : World} (h : w.alloc o0 = W) : W.heap[w.heap.size]? = some o0 ∧ W.heap.size = w.heap.size + 1 ∧ Below w.heap.size w W := start1 w o0 h
end Go.Proofs.YthnphlgkkfdnlaaDoor.Exact
