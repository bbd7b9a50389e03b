/- The law FnExactIsValidUpdate holds at every argument: the call returns true and changes no argument. -/
import Derived.Test.YtdjgaffiildijabRows
import Derived.Test.YtdjgaffiildijabLaw
import Derived.Test.YtdjgaffiildijabMg2IsValidUpdate
namespace Go.Proofs.Ytdjgaffiildijab.fnExactIsValidUpdate
open Go Go.ChangeShapes Go.WideShapes Go.ChangeAt Go.RowKit
open Go.ChangeMaps (open_string shut_string)
open Byt Ints IntsLaw Cd Rows2 Tab SlMath TabOpen TabElem Mark SlTable Db DbMath Upd
theorem walk (v0 : Value) (l0 : List T3) (n1 : ByteArray) (b1 : Bool) (v1 : Value) (l1 : List Int) {w : World} (hr0 : tabsC.rd w (· < w.heap.size) [v0] l0) (hs1 : n1.size ≤ maxLen) (hr1 : rowC.rd w (· < w.heap.size) [v1] l1) (_ : World) :
    Calls Try.prog 3 #[.agg #[v0], .agg #[.string n1, .bool b1, v1]] w fun e w' => e = .returned (.bool true) ∧ Below w.heap.size w w' :=
  WalkIsValidUpdate.walk v0 l0 n1 b1 v1 l1 (UpdMath.appOk l0 n1 b1 l1) w hr0 hs1 hr1
    (fun h h2 v0 S0 v1 S1 w' h0 h1 => UpdApp.spec_applyable v0 v1 l0 n1 b1 l1 S0 S1 w' h0 h1 (by omega) (by unfold updWt at h2; omega))
    (fun h h2 v0 S0 v1 S1 w' h0 h1 => UpdApp.impl_applyable v0 v1 l0 n1 b1 l1 S0 S1 w' h0 h1 (by omega) (by unfold updWt at h2; omega) (by unfold updWt at h2; omega))

theorem own : ownKnob Try.prog.godebug = none := by kernel_rfl
theorem laidOut : laidOutB Try.prog = true := by kernel_rfl
theorem readable : ∀ t ∈ Try.f3.params.toList, Try.prog.readableRec t = true ∧ t < Try.prog.types.size := by
  rw [Try.params3]
  intro t ht
  simp only [List.mem_cons, List.mem_nil_iff, or_false] at ht
  rcases ht with rfl | rfl <;> exact ⟨by kernel_rfl, of_decide_eq_true (by kernel_rfl)⟩
set_option maxRecDepth 100000 in
theorem lifted (os : Os) (started : os.Started) (H : Type) (enc : TypeId × Value → H) :
    ReturnsInHanded {} Try.checked os 3 .any (Rows.fnExactIsValidUpdateSpec.pre6 enc Try.prog Try.f3 Rows.fnExactIsValidUpdateRow.domain false) (Rows.fnExactIsValidUpdateSpec.post enc Try.prog Try.f3 false true false false) := by
  refine returnsInHanded_of_change (C := Try.checked) own started (by kernel_rfl) Try.func3
    (ChangeSpec.witness6 (enc := enc) (C := Try.checked) false ⟨#[], #[.agg #[.slice none 0 0], .agg #[.string .empty, .bool false, .slice none 0 0]], []⟩ 8 (by kernel_rfl) (by kernel_rfl) (by kernel_rfl) (by kernel_rfl)) ?_
  intro W base args ds gs before hval0 hW hcnd _
  have hval : ∀ (j : Nat) t v, Try.f3.params[j]? = some t → args[j]? = some v → Value.okWide Try.prog W .any base t v := hval0
  have hW' := hW
  obtain ⟨p, q, hA0, hV, rfl, hfz, hnd⟩ := hW
  have hA : DataW.TrodAll enc Try.prog W 0 (fun _ => true) true Try.f3.params.toList args.toList ds p := hA0
  rw [Try.params3] at hA hval
  obtain ⟨v0, vs0, d0, ds0, p0, q0, hargs, rfl, rfl, h0, r0⟩ := trodAll_cons hA
  obtain ⟨v1, vs1, d1, ds1, p1, q1, rfl, rfl, rfl, h1, r1⟩ := trodAll_cons r0
  obtain ⟨rfl, rfl, rfl⟩ := trodAll_nil r1
  obtain rfl : args = #[v0, v1] := by cases args; simp_all
  obtain ⟨rfl, rfl⟩ := trodVars_none hV
  obtain ⟨dv0, dl0, rfl, dr0⟩ := DbOpen.open_db (hval 0 24 v0 rfl rfl) h0
  obtain ⟨un1, ub1, uu1, ul1, rfl, us1, uw1⟩ := Upd.open_upd (hval 1 27 v1 rfl rfl) h1
  clear hA0 hval0
  refine (walk dv0 dl0 un1 ub1 uu1 ul1 dr0 us1 uw1 W).mono fun e W' ⟨he, hb⟩ => ?_
  subst he
  exact ⟨_, rfl, Law.post_law laidOut readable Try.underlying4 rfl rfl hW' rfl rfl rfl hb⟩

/-- The statement. -/
theorem proved : Rows.FnExactIsValidUpdateSaid :=
  OpenClaim.holds_of_wide 3 Try.f3 rfl rfl rfl rfl rfl rfl rfl ⟨rfl, rfl, rfl, rfl, rfl⟩ rfl rfl rfl rfl rfl (by kernel_rfl) Try.func3 (by kernel_rfl)
    (of_decide_eq_true (by kernel_rfl)) (by unfold Func.isWrapper; first | (rw [if_pos (by decide +kernel)]; kernel_rfl) | (rw [if_neg (by decide +kernel)]; exact ⟨rfl, rfl⟩))
    (fun os started H enc _ => lifted os started H enc)
end Go.Proofs.Ytdjgaffiildijab.fnExactIsValidUpdate
