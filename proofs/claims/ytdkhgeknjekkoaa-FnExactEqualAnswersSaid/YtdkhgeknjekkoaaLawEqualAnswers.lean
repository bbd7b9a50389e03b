/- The law FnExactEqualAnswers holds at every argument: the call returns true and changes no argument. -/
import Derived.Test.YtdkhgeknjekkoaaRows
import Derived.Test.YtdkhgeknjekkoaaLaw
import Derived.Test.YtdkhgeknjekkoaaAnsValid
import Derived.Test.YtdkhgeknjekkoaaTabOpen
import Derived.Test.YtdkhgeknjekkoaaMkAns
import Derived.Test.YtdkhgeknjekkoaaWalkEqualAnswers
namespace Go.Proofs.Ytdkhgeknjekkoaa.fnExactEqualAnswers
open Go Go.ChangeShapes Go.WideShapes Go.ChangeAt Go.RowKit
open Go.ChangeMaps (open_string shut_string)
open Byt Ints IntsLaw Cd Rows2 Tab TabOpen Atom AnsC MkAns
theorem walk (v0 z0 : Value) (l0 : List Int) (m0 : List (List Int)) (v1 z1 : Value) (l1 : List Int) (m1 : List (List Int)) {w : World} (hr0 : ansC.rd w (· < w.heap.size) [v0, z0] (l0, m0)) (hr1 : ansC.rd w (· < w.heap.size) [v1, z1] (l1, m1)) (_ : World) :
    Calls Try.prog 4 #[.agg #[v0, z0], .agg #[v1, z1]] w fun e w' => e = .returned (.bool true) ∧ Below w.heap.size w w' :=
  WalkEqualAnswers.walk v0 z0 l0 m0 v1 z1 l1 m1 (AnsValid.sameA l0 l1 m0 m1) w hr0 hr1
    (fun _ _ v0 z0 S0 v1 z1 S1 w' h0 h1 => AnsValid.spec_equalans v0 z0 v1 z1 l0 l1 m0 m1 S0 S1 w' h0 h1)
    (fun _ _ v0 z0 S0 v1 z1 S1 w' h0 h1 => AnsValid.impl_equalans v0 z0 v1 z1 l0 l1 m0 m1 S0 S1 w' h0 h1)

theorem own : ownKnob Try.prog.godebug = none := by kernel_rfl
theorem laidOut : laidOutB Try.prog = true := by kernel_rfl
theorem readable : ∀ t ∈ Try.f4.params.toList, Try.prog.readableRec t = true ∧ t < Try.prog.types.size := by
  rw [Try.params4]
  intro t ht
  simp only [List.mem_cons, List.mem_nil_iff, or_false] at ht
  rcases ht with rfl | rfl <;> exact ⟨by kernel_rfl, of_decide_eq_true (by kernel_rfl)⟩
set_option maxRecDepth 100000 in
theorem lifted (os : Os) (started : os.Started) (H : Type) (enc : TypeId × Value → H) :
    ReturnsInHanded {} Try.checked os 4 .any (Rows.fnExactEqualAnswersSpec.pre6 enc Try.prog Try.f4 Rows.fnExactEqualAnswersRow.domain false) (Rows.fnExactEqualAnswersSpec.post enc Try.prog Try.f4 false true false false) := by
  refine returnsInHanded_of_change (C := Try.checked) own started (by kernel_rfl) Try.func4
    (ChangeSpec.witness6 (enc := enc) (C := Try.checked) false ⟨#[], #[.agg #[.slice none 0 0, .slice none 0 0], .agg #[.slice none 0 0, .slice none 0 0]], []⟩ 8 (by kernel_rfl) (by kernel_rfl) (by kernel_rfl) (by kernel_rfl)) ?_
  intro W base args ds gs before hval0 hW hcnd _
  have hval : ∀ (j : Nat) t v, Try.f4.params[j]? = some t → args[j]? = some v → Value.okWide Try.prog W .any base t v := hval0
  have hW' := hW
  obtain ⟨p, q, hA0, hV, rfl, hfz, hnd⟩ := hW
  have hA : DataW.TrodAll enc Try.prog W 0 (fun _ => true) true Try.f4.params.toList args.toList ds p := hA0
  rw [Try.params4] at hA hval
  obtain ⟨v0, vs0, d0, ds0, p0, q0, hargs, rfl, rfl, h0, r0⟩ := trodAll_cons hA
  obtain ⟨v1, vs1, d1, ds1, p1, q1, rfl, rfl, rfl, h1, r1⟩ := trodAll_cons r0
  obtain ⟨rfl, rfl, rfl⟩ := trodAll_nil r1
  obtain rfl : args = #[v0, v1] := by cases args; simp_all
  obtain ⟨rfl, rfl⟩ := trodVars_none hV
  obtain ⟨xu0, xv0, xV0, xR0, rfl, xr0⟩ := MkAns.open_ans (hval 0 25 v0 rfl rfl) h0
  obtain ⟨xu1, xv1, xV1, xR1, rfl, xr1⟩ := MkAns.open_ans (hval 1 25 v1 rfl rfl) h1
  clear hA0 hval0
  refine (walk xu0 xv0 xV0 xR0 xu1 xv1 xV1 xR1 xr0 xr1 W).mono fun e W' ⟨he, hb⟩ => ?_
  subst he
  exact ⟨_, rfl, Law.post_law laidOut readable Try.underlying4 rfl rfl hW' rfl rfl rfl hb⟩

/-- The statement. -/
theorem proved : Rows.FnExactEqualAnswersSaid :=
  OpenClaim.holds_of_wide 4 Try.f4 rfl rfl rfl rfl rfl rfl rfl ⟨rfl, rfl, rfl, rfl, rfl⟩ rfl rfl rfl rfl rfl (by kernel_rfl) Try.func4 (by kernel_rfl)
    (of_decide_eq_true (by kernel_rfl)) (by unfold Func.isWrapper; first | (rw [if_pos (by decide +kernel)]; kernel_rfl) | (rw [if_neg (by decide +kernel)]; exact ⟨rfl, rfl⟩))
    (fun os started H enc _ => lifted os started H enc)
end Go.Proofs.Ytdkhgeknjekkoaa.fnExactEqualAnswers
