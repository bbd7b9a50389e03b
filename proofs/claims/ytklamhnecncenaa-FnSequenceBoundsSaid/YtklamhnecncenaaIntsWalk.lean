/- Blocks that calls own, apart from each other. -/
import Derived.Test.YtklamhnecncenaaIntsLaw
namespace Go.Proofs.Ytklamhnecncenaa.IntsWalk
open Go Go.RowKit Byt Ints IntsLaw

/-- v's own block, if it has one, lies from lo on and below hi. -/
def Bk (v : Value) (lo hi : Nat) : Prop := ∀ k, v.ownBlock = some k → lo ≤ k ∧ k < hi
theorem bk_of {w : World} {base : Nat} {e : TypeId} {v : Value} {l : List Int} (h : OwnI w base e v l) : Bk v base w.heap.size := fun k hk => World.ownsRow.lt h k hk
theorem apart {u v : Value} {a b c d : Nat} (hu : Bk u a b) (hv : Bk v c d) (h : b ≤ c ∨ d ≤ a) : u.ownBlock = none ∨ u.ownBlock ≠ v.ownBlock := by
  cases e : u.ownBlock with
  | none => exact .inl rfl
  | some k =>
    refine .inr fun q => ?_
    have h1 := hu k e
    have h2 := hv k q.symm
    omega
theorem kept_mark {w w' : World} {base : Nat} {e : TypeId} {u v : Value} {l : List Int} (h : OwnI w base e u l) (hg : w.grownBy w' v.ownBlock) (hne : u.ownBlock = none ∨ u.ownBlock ≠ v.ownBlock) : OwnI w' base e u l :=
  World.ownsRow.kept h hg hne
theorem below_mark {w0 w w' : World} {v : Value} {lo hi : Nat} (h : Below w0.heap.size w0 w) (hg : w.grownBy w' v.ownBlock) (hb : Bk v lo hi) (hlo : w0.heap.size ≤ lo) : Below w0.heap.size w0 w' :=
  h.grown hg h.size (fun k hk => Nat.le_trans hlo (hb k hk).1)
theorem below_then {w a b : World} (h : Below w.heap.size w a) (k : Below a.heap.size a b) : Below w.heap.size w b := h.trans (k.mono h.size)
theorem dec_same (l : List Int) : decide (l = l) = true := decide_eq_true rfl
end Go.Proofs.Ytklamhnecncenaa.IntsWalk
