/- The law FnExactSequenceTotal holds at every argument: the call returns true and changes no argument. -/
import Derived.Test.YtnjomgefmoehhaaRows
import Derived.Test.YtnjomgefmoehhaaLaw
import Derived.Test.YtnjomgefmoehhaaDegImp1
import Derived.Test.YtnjomgefmoehhaaWalkSequenceTotal
namespace Go.Proofs.Ytnjomgefmoehhaa.fnExactSequenceTotal
open Go Go.ChangeShapes Go.WideShapes Go.ChangeAt Go.RowKit
open Go.ChangeMaps (open_string shut_string)
open Byt Ints IntsLaw Cd Rows2 Tab TabSpec DegMath DegSpec
theorem walk (v0 : Value) (l0 : List Int) {w : World} (hr0 : RI w v0 l0 w.heap.size) (hn0 : InR l0) (_ : World) :
    Calls Try.prog 8 #[v0] w fun e w' => e = .returned (.bool true) ∧ Below w.heap.size w w' :=
  WalkSequenceTotal.walk v0 l0 (totL l0) w (Cd.rd_of_ri hr0 (Nat.le_refl _) hn0 fun _ h => h)
    (fun _ v0 _ w' h0 => (DegSpec.spec_total v0 l0 _ w' (row_ri h0).1).mono (fun e w'' ⟨he, m, hw⟩ => ⟨he, by subst hw; exact bq w'⟩))
    (fun _ v0 _ w' h0 => (DegImp.impl_total v0 l0 _ w' (row_ri h0.1).1 h0.2).mono (fun e w'' ⟨he, hw⟩ => ⟨he, by subst hw; exact Below.refl _ _⟩))

theorem own : ownKnob Try.prog.godebug = none := by kernel_rfl
theorem laidOut : laidOutB Try.prog = true := by kernel_rfl
theorem cellsInt : Try.prog.cellsOf 3 = 1 := by kernel_rfl
theorem readable : ∀ t ∈ Try.f8.params.toList, Try.prog.readableRec t = true ∧ t < Try.prog.types.size := by
  rw [Try.params8]
  intro t ht
  simp only [List.mem_cons, List.mem_nil_iff, or_false] at ht
  rcases ht with rfl <;> exact ⟨by kernel_rfl, of_decide_eq_true (by kernel_rfl)⟩
set_option maxRecDepth 100000 in
theorem lifted (os : Os) (started : os.Started) (H : Type) (enc : TypeId × Value → H) :
    ReturnsInHanded {} Try.checked os 8 .any (Rows.fnExactSequenceTotalSpec.pre6 enc Try.prog Try.f8 Rows.fnExactSequenceTotalRow.domain false) (Rows.fnExactSequenceTotalSpec.post enc Try.prog Try.f8 false true false false) := by
  refine returnsInHanded_of_change (C := Try.checked) own started (by kernel_rfl) Try.func8
    (ChangeSpec.witness6 (enc := enc) (C := Try.checked) false ⟨#[], #[.slice none 0 0], []⟩ 8 (by kernel_rfl) (by kernel_rfl) (by kernel_rfl) (by kernel_rfl)) ?_
  intro W base args ds gs before hval0 hW hcnd _
  have hval : ∀ (j : Nat) t v, Try.f8.params[j]? = some t → args[j]? = some v → Value.okWide Try.prog W .any base t v := hval0
  have hW' := hW
  obtain ⟨p, q, hA0, hV, rfl, hfz, hnd⟩ := hW
  have hA : DataW.TrodAll enc Try.prog W 0 (fun _ => true) true Try.f8.params.toList args.toList ds p := hA0
  rw [Try.params8] at hA hval
  obtain ⟨v0, vs0, d0, ds0, p0, q0, hargs, rfl, rfl, h0, r0⟩ := trodAll_cons hA
  obtain ⟨rfl, rfl, rfl⟩ := trodAll_nil r0
  obtain rfl : args = #[v0] := by cases args; simp_all
  obtain ⟨rfl, rfl⟩ := trodVars_none hV
  obtain ⟨a0, w0, n0⟩ := Ints.ints_of Try.underlying27 Try.underlying3 cellsInt (hval 0 27 v0 rfl rfl) h0
  clear hA0 hval0
  refine (walk v0 a0 w0 n0 W).mono fun e W' ⟨he, hb⟩ => ?_
  subst he
  exact ⟨_, rfl, Law.post_law laidOut readable Try.underlying4 rfl rfl hW' rfl rfl rfl hb⟩

/-- The statement. -/
theorem proved : Rows.FnExactSequenceTotalSaid :=
  OpenClaim.holds_of_wide 8 Try.f8 rfl rfl rfl rfl rfl rfl rfl ⟨rfl, rfl, rfl, rfl, rfl⟩ rfl rfl rfl rfl rfl (by kernel_rfl) Try.func8 (by kernel_rfl)
    (of_decide_eq_true (by kernel_rfl)) (by unfold Func.isWrapper; first | (rw [if_pos (by decide +kernel)]; kernel_rfl) | (rw [if_neg (by decide +kernel)]; exact ⟨rfl, rfl⟩))
    (fun os started H enc _ => lifted os started H enc)
end Go.Proofs.Ytnjomgefmoehhaa.fnExactSequenceTotal
