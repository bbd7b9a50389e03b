/- The law FnExactDependencyHolds holds at every argument: the call returns true and changes no argument. -/
import Derived.Test.YtnoennmhifmolaaRows
import Derived.Test.YtnoennmhifmolaaLaw
import Derived.Test.YtnoennmhifmolaaDepImp3
import Derived.Test.YtnoennmhifmolaaDbOpen
import Derived.Test.YtnoennmhifmolaaWalkDependencyHolds
namespace Go.Proofs.Ytnoennmhifmolaa.fnExactDependencyHolds
open Go Go.ChangeShapes Go.WideShapes Go.ChangeAt Go.RowKit
open Go.ChangeMaps (open_string shut_string)
open Byt Ints IntsLaw Cd Rows2 Tab TabElem SlTable Db TabSpec Dep
theorem walk (v0 : Value) (l0 : List T3) (n1 : ByteArray) (t1 : Int) (v1 : Value) (l1 : List Int) {w : World} (hr0 : tabsC.rd w (· < w.heap.size) [v0] l0) (hs1 : n1.size ≤ maxLen) (hr1 : rowC.rd w (· < w.heap.size) [v1] l1) (_ : World) :
    Calls Try.prog 5 #[.agg #[v0], .agg #[.string n1, v1, .int .i64 t1]] w fun e w' => e = .returned (.bool true) ∧ Below w.heap.size w w' :=
  WalkDependencyHolds.walk v0 l0 n1 t1 v1 l1 (DepMath.holdsD l0 (n1, l1, t1)) w hr0 hs1 hr1
    (fun h _ v0 S0 v1 S1 w' h0 h1 => DepSpec.spec_holdd v0 v1 l0 n1 l1 t1 S0 S1 w' h0 h1 (by omega))
    (fun h h2 v0 S0 v1 S1 w' h0 h1 => DepImp.impl_holdd v0 v1 l0 n1 l1 t1 S0 S1 w' h0 h1 (by omega) (by unfold depWt at h2; omega))

theorem own : ownKnob Try.prog.godebug = none := by kernel_rfl
theorem laidOut : laidOutB Try.prog = true := by kernel_rfl
theorem readable : ∀ t ∈ Try.f5.params.toList, Try.prog.readableRec t = true ∧ t < Try.prog.types.size := by
  rw [Try.params5]
  intro t ht
  simp only [List.mem_cons, List.mem_nil_iff, or_false] at ht
  rcases ht with rfl | rfl <;> exact ⟨by kernel_rfl, of_decide_eq_true (by kernel_rfl)⟩
set_option maxRecDepth 100000 in
theorem lifted (os : Os) (started : os.Started) (H : Type) (enc : TypeId × Value → H) :
    ReturnsInHanded {} Try.checked os 5 .any (Rows.fnExactDependencyHoldsSpec.pre6 enc Try.prog Try.f5 Rows.fnExactDependencyHoldsRow.domain false) (Rows.fnExactDependencyHoldsSpec.post enc Try.prog Try.f5 false true false false) := by
  refine returnsInHanded_of_change (C := Try.checked) own started (by kernel_rfl) Try.func5
    (ChangeSpec.witness6 (enc := enc) (C := Try.checked) false ⟨#[], #[.agg #[.slice none 0 0], .agg #[.string .empty, .slice none 0 0, .int .i64 0]], []⟩ 8 (by kernel_rfl) (by kernel_rfl) (by kernel_rfl) (by kernel_rfl)) ?_
  intro W base args ds gs before hval0 hW hcnd _
  have hval : ∀ (j : Nat) t v, Try.f5.params[j]? = some t → args[j]? = some v → Value.okWide Try.prog W .any base t v := hval0
  have hW' := hW
  obtain ⟨p, q, hA0, hV, rfl, hfz, hnd⟩ := hW
  have hA : DataW.TrodAll enc Try.prog W 0 (fun _ => true) true Try.f5.params.toList args.toList ds p := hA0
  rw [Try.params5] at hA hval
  obtain ⟨v0, vs0, d0, ds0, p0, q0, hargs, rfl, rfl, h0, r0⟩ := trodAll_cons hA
  obtain ⟨v1, vs1, d1, ds1, p1, q1, rfl, rfl, rfl, h1, r1⟩ := trodAll_cons r0
  obtain ⟨rfl, rfl, rfl⟩ := trodAll_nil r1
  obtain rfl : args = #[v0, v1] := by cases args; simp_all
  obtain ⟨rfl, rfl⟩ := trodVars_none hV
  obtain ⟨dv0, dl0, rfl, dr0⟩ := DbOpen.open_db (hval 0 24 v0 rfl rfl) h0
  obtain ⟨pn1, pu1, pl1, pt1, rfl, ps1, pw1, pb1⟩ := Dep.open_dep (hval 1 27 v1 rfl rfl) h1
  clear hA0 hval0
  refine (walk dv0 dl0 pn1 pt1 pu1 pl1 dr0 ps1 pw1 W).mono fun e W' ⟨he, hb⟩ => ?_
  subst he
  exact ⟨_, rfl, Law.post_law laidOut readable Try.underlying4 rfl rfl hW' rfl rfl rfl hb⟩

/-- The statement. -/
theorem proved : Rows.FnExactDependencyHoldsSaid :=
  OpenClaim.holds_of_wide 5 Try.f5 rfl rfl rfl rfl rfl rfl rfl ⟨rfl, rfl, rfl, rfl, rfl⟩ rfl rfl rfl rfl rfl (by kernel_rfl) Try.func5 (by kernel_rfl)
    (of_decide_eq_true (by kernel_rfl)) (by unfold Func.isWrapper; first | (rw [if_pos (by decide +kernel)]; kernel_rfl) | (rw [if_neg (by decide +kernel)]; exact ⟨rfl, rfl⟩))
    (fun os started H enc _ => lifted os started H enc)
end Go.Proofs.Ytnoennmhifmolaa.fnExactDependencyHolds
