/- What an argument reads as, by its type: over any program. -/
import Derived.Test.YtdkhgeknjekkoaaGreatCd
import Derived.Deep.Slices
import Derived.OpenShut
namespace Go.Proofs.YtdkhgeknjekkoaaGreat.Fits
open Go Go.RowKit Byt Ints Cd

variable {α β : Type}

/-- Whatever of type t came in reads as the codec says. -/
def Fits (P : Program) (c : Cd α) (t : TypeId) : Prop :=
  P.cellsOf t = c.n ∧ ∀ {H : Type} (enc : TypeId × Value → H) (w : World) (fuel : Nat) (cs : List Value) (d : DataW H) (ps : List MemPlace),
    DataW.trod enc P w 0 (fun _ => true) true fuel t cs = some (d, ps) → ∃ a, c.rd w (· < w.heap.size) cs a

end Go.Proofs.YtdkhgeknjekkoaaGreat.Fits
