/- What the exact laws do with slices of atoms: marked. -/
import Derived.Test.YtklamhnecncenaaSlAtom
import Derived.Test.YtklamhnecncenaaMark
import Derived.Test.YtklamhnecncenaaMkTable
namespace Go.Proofs.Ytklamhnecncenaa.MkAtom
open Go Go.RowKit Byt Ints IntsLaw Cd Rows2 Tab TabSpec Exact SlMath Atom Mark
open SlTable (heap_same touch_cell)

def atomsC : Cd (List A2) := Cd.sl 130 atomC
/-- An update marked from k on, and how many marks it takes. -/
def mkA (k : Nat) (U : A2) : A2 := (mtext k, marks ((k + 1 : Nat) : Int) U.2.length)
def cntA (U : A2) : Nat := 1 + U.2.length
theorem cntA_le : ∀ (l : List A2), sumN cntA l ≤ 2 * SlAtom.wtS l
  | [] => by simp [sumN]
  | U :: l => by
    have ih := cntA_le l
    unfold SlAtom.wtS at *
    rw [sumN_cons, sumN_cons, List.length_cons]
    have : cntA U ≤ 1 + wtA U := by unfold cntA wtA atWt; omega
    omega
theorem urow_le {l : List A2} {U : A2} (h : U ∈ l) : U.2.length ≤ SlAtom.wtS l := by
  obtain ⟨k, hk, rfl⟩ := List.getElem_of_mem h
  have h1 := sumN_mem wtA hk
  have h2 : (l[k]).2.length ≤ wtA l[k] := by unfold wtA atWt; omega
  unfold SlAtom.wtS
  omega
theorem cntsA_of {l : List A2} (h : SlAtom.wtS l ≤ 1048576) : sumN cntA l ≤ 4194308 ∧ ∀ U ∈ l, U.2.length ≤ 1048577 :=
  ⟨by have := cntA_le l; omega, fun U hU => by have := urow_le hU; omega⟩

open Fits TabOpen in
set_option maxRecDepth 100000 in
theorem fits_atoms : Fits Try.prog (Cd.sl 134 atomC) 71 := fits_sl Try.underlying71 fits_atom (by kernel_rfl)
end Go.Proofs.Ytklamhnecncenaa.MkAtom
