/- The law FnExactPairSequenceBound holds at every argument: the call returns true and changes no argument. -/
import Derived.Test.YtklamhnecncenaaRows
import Derived.Test.YtklamhnecncenaaLaw
import Derived.Test.YtklamhnecncenaaSbImp3
import Derived.Test.YtklamhnecncenaaWalkPairSequenceBound
namespace Go.Proofs.Ytklamhnecncenaa.fnExactPairSequenceBound
open Go Go.ChangeShapes Go.WideShapes Go.ChangeAt Go.RowKit
open Go.ChangeMaps (open_string shut_string)
open Byt Ints IntsLaw Cd Rows2 Tab TabSpec DegMath DegSpec SbMath
theorem walk (v0 : Value) (l0 : List Int) (v1 : Value) (l1 : List Int) {w : World} (hr0 : RI w v0 l0 w.heap.size) (hn0 : InR l0) (hr1 : RI w v1 l1 w.heap.size) (hn1 : InR l1) (_ : World) :
    Calls Try.prog 4 #[v0, v1] w fun e w' => e = .returned (.bool true) ∧ Below w.heap.size w w' :=
  WalkPairSequenceBound.walk v0 l0 v1 l1 (pairL l0 l1) w (Cd.rd_of_ri hr0 (Nat.le_refl _) hn0 fun _ h => h) (Cd.rd_of_ri hr1 (Nat.le_refl _) hn1 fun _ h => h)
    (fun _ _ v0 _ v1 _ w' h0 h1 => (SbSpec.spec_pair v0 v1 l0 l1 _ _ w' (row_ri h0).1 (row_ri h1).1).mono (fun e w'' ⟨he, m, hw⟩ => ⟨he, by subst hw; exact bq w'⟩))
    (fun _ _ v0 S0 v1 S1 w' h0 h1 => SbImp.impl_pair v0 v1 l0 l1 S0 S1 w' h0 h1)

theorem own : ownKnob Try.prog.godebug = none := by kernel_rfl
theorem laidOut : laidOutB Try.prog = true := by kernel_rfl
theorem cellsInt : Try.prog.cellsOf 3 = 1 := by kernel_rfl
theorem readable : ∀ t ∈ Try.f4.params.toList, Try.prog.readableRec t = true ∧ t < Try.prog.types.size := by
  rw [Try.params4]
  intro t ht
  simp only [List.mem_cons, List.mem_nil_iff, or_false] at ht
  rcases ht with rfl | rfl <;> exact ⟨by kernel_rfl, of_decide_eq_true (by kernel_rfl)⟩
set_option maxRecDepth 100000 in
theorem lifted (os : Os) (started : os.Started) (H : Type) (enc : TypeId × Value → H) :
    ReturnsInHanded {} Try.checked os 4 .any (Rows.fnExactPairSequenceBoundSpec.pre6 enc Try.prog Try.f4 Rows.fnExactPairSequenceBoundRow.domain false) (Rows.fnExactPairSequenceBoundSpec.post enc Try.prog Try.f4 false true false false) := by
  refine returnsInHanded_of_change (C := Try.checked) own started (by kernel_rfl) Try.func4
    (ChangeSpec.witness6 (enc := enc) (C := Try.checked) false ⟨#[], #[.slice none 0 0, .slice none 0 0], []⟩ 8 (by kernel_rfl) (by kernel_rfl) (by kernel_rfl) (by kernel_rfl)) ?_
  intro W base args ds gs before hval0 hW hcnd _
  have hval : ∀ (j : Nat) t v, Try.f4.params[j]? = some t → args[j]? = some v → Value.okWide Try.prog W .any base t v := hval0
  have hW' := hW
  obtain ⟨p, q, hA0, hV, rfl, hfz, hnd⟩ := hW
  have hA : DataW.TrodAll enc Try.prog W 0 (fun _ => true) true Try.f4.params.toList args.toList ds p := hA0
  rw [Try.params4] at hA hval
  obtain ⟨v0, vs0, d0, ds0, p0, q0, hargs, rfl, rfl, h0, r0⟩ := trodAll_cons hA
  obtain ⟨v1, vs1, d1, ds1, p1, q1, rfl, rfl, rfl, h1, r1⟩ := trodAll_cons r0
  obtain ⟨rfl, rfl, rfl⟩ := trodAll_nil r1
  obtain rfl : args = #[v0, v1] := by cases args; simp_all
  obtain ⟨rfl, rfl⟩ := trodVars_none hV
  obtain ⟨a0, w0, n0⟩ := Ints.ints_of Try.underlying24 Try.underlying3 cellsInt (hval 0 24 v0 rfl rfl) h0
  obtain ⟨a1, w1, n1⟩ := Ints.ints_of Try.underlying24 Try.underlying3 cellsInt (hval 1 24 v1 rfl rfl) h1
  clear hA0 hval0
  refine (walk v0 a0 v1 a1 w0 n0 w1 n1 W).mono fun e W' ⟨he, hb⟩ => ?_
  subst he
  exact ⟨_, rfl, Law.post_law laidOut readable Try.underlying4 rfl rfl hW' rfl rfl rfl hb⟩

/-- The statement. -/
theorem proved : Rows.FnExactPairSequenceBoundSaid :=
  OpenClaim.holds_of_wide 4 Try.f4 rfl rfl rfl rfl rfl rfl rfl ⟨rfl, rfl, rfl, rfl, rfl⟩ rfl rfl rfl rfl rfl (by kernel_rfl) Try.func4 (by kernel_rfl)
    (of_decide_eq_true (by kernel_rfl)) (by unfold Func.isWrapper; first | (rw [if_pos (by decide +kernel)]; kernel_rfl) | (rw [if_neg (by decide +kernel)]; exact ⟨rfl, rfl⟩))
    (fun os started H enc _ => lifted os started H enc)
end Go.Proofs.Ytklamhnecncenaa.fnExactPairSequenceBound
