/- The law FnExactDominatesLocation holds at every argument: the call returns true and changes no argument. -/
import Derived.Test.YthkmjdiopmpjoaaRows
import Derived.Test.YthkmjdiopmpjoaaLaw
import Derived.Test.YthkmjdiopmpjoaaLocImplMap
import Derived.Test.YthkmjdiopmpjoaaLocWalkDom
namespace Go.Proofs.Ythkmjdiopmpjoaa.fnExactDominatesLocation
open Go Go.ChangeShapes Go.WideShapes Go.ChangeAt Go.RowKit
open Go.ChangeMaps (open_string shut_string)
open Byt Ints IntsLaw Sz Loc LocImpl Draw
theorem walk (v1 : Value) (l1 : List Int) (v2 : Value) (l2 : List Int) {w : World} (hr1 : RI w v1 l1 w.heap.size) (_ : InR l1) (hr2 : RI w v2 l2 w.heap.size) (_ : InR l2) (_ : World) :
    Calls Try.prog 9 #[v1, v2] w fun e w' => e = .returned (.bool true) ∧ Below w.heap.size w w' :=
  LocWalkDom.walk v1 v2 l1 l2 _ w hr1 hr2
    (fun _ _ v1 v2 B w' h1 h2 hB => spec_dom v1 v2 l1 l2 B w' h1 h2 hB)
    (fun _ _ v1 v2 B w' h1 h2 hB => dominates v1 v2 l1 l2 B w' h1 h2 hB)

theorem own : ownKnob Try.prog.godebug = none := by kernel_rfl
theorem laidOut : laidOutB Try.prog = true := by kernel_rfl
theorem cellsInt : Try.prog.cellsOf 3 = 1 := by kernel_rfl
theorem readable : ∀ t ∈ Try.f9.params.toList, Try.prog.readableRec t = true ∧ t < Try.prog.types.size := by
  rw [Try.params9]
  intro t ht
  simp only [List.mem_cons, List.mem_nil_iff, or_false] at ht
  rcases ht with rfl | rfl <;> exact ⟨by kernel_rfl, of_decide_eq_true (by kernel_rfl)⟩
set_option maxRecDepth 100000 in
theorem lifted (os : Os) (started : os.Started) (H : Type) (enc : TypeId × Value → H) :
    ReturnsInHanded {} Try.checked os 9 .any (Rows.fnExactDominatesLocationSpec.pre6 enc Try.prog Try.f9 Rows.fnExactDominatesLocationRow.domain false) (Rows.fnExactDominatesLocationSpec.post enc Try.prog Try.f9 false true false false) := by
  refine returnsInHanded_of_change (C := Try.checked) own started (by kernel_rfl) Try.func9
    (ChangeSpec.witness6 (enc := enc) (C := Try.checked) false ⟨#[], #[.slice none 0 0, .slice none 0 0], []⟩ 8 (by kernel_rfl) (by kernel_rfl) (by kernel_rfl) (by kernel_rfl)) ?_
  intro W base args ds gs before hval0 hW hcnd _
  have hval : ∀ (j : Nat) t v, Try.f9.params[j]? = some t → args[j]? = some v → Value.okWide Try.prog W .any base t v := hval0
  have hW' := hW
  obtain ⟨p, q, hA0, hV, rfl, hfz, hnd⟩ := hW
  have hA : DataW.TrodAll enc Try.prog W 0 (fun _ => true) true Try.f9.params.toList args.toList ds p := hA0
  rw [Try.params9] at hA hval
  obtain ⟨v0, vs0, d0, ds0, p0, q0, hargs, rfl, rfl, h0, r0⟩ := trodAll_cons hA
  obtain ⟨v1, vs1, d1, ds1, p1, q1, rfl, rfl, rfl, h1, r1⟩ := trodAll_cons r0
  obtain ⟨rfl, rfl, rfl⟩ := trodAll_nil r1
  obtain rfl : args = #[v0, v1] := by cases args; simp_all
  obtain ⟨rfl, rfl⟩ := trodVars_none hV
  obtain ⟨a0, w0, n0⟩ := Ints.ints_of Try.underlying26 Try.underlying3 cellsInt (hval 0 26 v0 rfl rfl) h0
  obtain ⟨a1, w1, n1⟩ := Ints.ints_of Try.underlying26 Try.underlying3 cellsInt (hval 1 26 v1 rfl rfl) h1
  clear hA0 hval0
  refine (walk v0 a0 v1 a1 w0 n0 w1 n1 W).mono fun e W' ⟨he, hb⟩ => ?_
  subst he
  exact ⟨_, rfl, Law.post_law laidOut readable Try.underlying4 rfl rfl hW' rfl rfl rfl hb⟩

/-- The statement. -/
theorem proved : Rows.FnExactDominatesLocationSaid :=
  OpenClaim.holds_of_wide 9 Try.f9 rfl rfl rfl rfl rfl rfl rfl ⟨rfl, rfl, rfl, rfl, rfl⟩ rfl rfl rfl rfl rfl (by kernel_rfl) Try.func9 (by kernel_rfl)
    (of_decide_eq_true (by kernel_rfl)) (by unfold Func.isWrapper; first | (rw [if_pos (by decide +kernel)]; kernel_rfl) | (rw [if_neg (by decide +kernel)]; exact ⟨rfl, rfl⟩))
    (fun os started H enc _ => lifted os started H enc)
end Go.Proofs.Ythkmjdiopmpjoaa.fnExactDominatesLocation
