/- The law FnExactRemoveTable holds at every argument: the call returns true and changes no argument. -/
import Derived.Test.YtdjgaffiildijaaRows
import Derived.Test.YtdjgaffiildijaaLaw
import Derived.Test.YtdjgaffiildijaaDbOpen
import Derived.Test.YtdjgaffiildijaaDbImp5
import Derived.Test.YtdjgaffiildijaaDbRem
import Derived.Test.YtdjgaffiildijaaWalkRemoveTable
namespace Go.Proofs.Ytdjgaffiildijaa.fnExactRemoveTable
open Go Go.ChangeShapes Go.WideShapes Go.ChangeAt Go.RowKit
open Go.ChangeMaps (open_string shut_string)
open Byt Ints IntsLaw Cd Rows2 Tab SlMath TabOpen TabElem SlTable Db DbMath DbImp
theorem wt_filter (p : T3 → Bool) : ∀ (l : List T3), wtS (l.filter p) ≤ wtS l
  | [] => Nat.le_refl _
  | T :: l => by
    have ih := wt_filter p l
    unfold wtS at *
    rw [List.filter_cons]
    split
    · rw [List.length_cons, List.length_cons, sumN_cons, sumN_cons]; omega
    · rw [List.length_cons, sumN_cons]; omega
theorem wt_rem (l : List T3) (nm : ByteArray) : wtS (remR l nm) ≤ wtS l := by
  unfold remR
  split
  · exact wt_filter _ l
  · exact Nat.le_refl _
theorem walk (v0 : Value) (l0 : List T3) (a1 : ByteArray) {w : World} (hr0 : tabsC.rd w (· < w.heap.size) [v0] l0) (hs1 : a1.size ≤ maxLen) (_ : World) :
    Calls Try.prog 13 #[.agg #[v0], .string a1] w fun e w' => e = .returned (.bool true) ∧ Below w.heap.size w w' :=
  WalkRemoveTable.walk v0 l0 a1 (remR l0 a1) (remOk l0 a1) w hr0 hs1
    (fun h _ => DbExact.cnts_of (by have := wt_rem l0 a1; omega))
    (fun h _ v0 S0 w' h0 => DbAcc.spec_rem v0 l0 a1 S0 w' h0 (by omega))
    (fun h h2 v0 S0 w' h0 => impl_rem v0 l0 a1 S0 w' h0 (by omega) h2)

theorem own : ownKnob Try.prog.godebug = none := by kernel_rfl
theorem laidOut : laidOutB Try.prog = true := by kernel_rfl
theorem readable : ∀ t ∈ Try.f13.params.toList, Try.prog.readableRec t = true ∧ t < Try.prog.types.size := by
  rw [Try.params13]
  intro t ht
  simp only [List.mem_cons, List.mem_nil_iff, or_false] at ht
  rcases ht with rfl | rfl <;> exact ⟨by kernel_rfl, of_decide_eq_true (by kernel_rfl)⟩
set_option maxRecDepth 100000 in
theorem lifted (os : Os) (started : os.Started) (H : Type) (enc : TypeId × Value → H) :
    ReturnsInHanded {} Try.checked os 13 .any (Rows.fnExactRemoveTableSpec.pre6 enc Try.prog Try.f13 Rows.fnExactRemoveTableRow.domain false) (Rows.fnExactRemoveTableSpec.post enc Try.prog Try.f13 false true false false) := by
  refine returnsInHanded_of_change (C := Try.checked) own started (by kernel_rfl) Try.func13
    (ChangeSpec.witness6 (enc := enc) (C := Try.checked) false ⟨#[], #[.agg #[.slice none 0 0], .string .empty], []⟩ 8 (by kernel_rfl) (by kernel_rfl) (by kernel_rfl) (by kernel_rfl)) ?_
  intro W base args ds gs before hval0 hW hcnd _
  have hval : ∀ (j : Nat) t v, Try.f13.params[j]? = some t → args[j]? = some v → Value.okWide Try.prog W .any base t v := hval0
  have hW' := hW
  obtain ⟨p, q, hA0, hV, rfl, hfz, hnd⟩ := hW
  have hA : DataW.TrodAll enc Try.prog W 0 (fun _ => true) true Try.f13.params.toList args.toList ds p := hA0
  rw [Try.params13] at hA hval
  obtain ⟨v0, vs0, d0, ds0, p0, q0, hargs, rfl, rfl, h0, r0⟩ := trodAll_cons hA
  obtain ⟨v1, vs1, d1, ds1, p1, q1, rfl, rfl, rfl, h1, r1⟩ := trodAll_cons r0
  obtain ⟨rfl, rfl, rfl⟩ := trodAll_nil r1
  obtain rfl : args = #[v0, v1] := by cases args; simp_all
  obtain ⟨rfl, rfl⟩ := trodVars_none hV
  obtain ⟨dv0, dl0, rfl, dr0⟩ := DbOpen.open_db (hval 0 48 v0 rfl rfl) h0
  obtain ⟨a1, rfl, rfl, rfl, w1⟩ := open_string Try.underlying9 (hval 1 9 v1 rfl rfl) h1
  clear hA0 hval0
  refine (walk dv0 dl0 a1 dr0 w1 W).mono fun e W' ⟨he, hb⟩ => ?_
  subst he
  exact ⟨_, rfl, Law.post_law laidOut readable Try.underlying4 rfl rfl hW' rfl rfl rfl hb⟩

/-- The statement. -/
theorem proved : Rows.FnExactRemoveTableSaid :=
  OpenClaim.holds_of_wide 13 Try.f13 rfl rfl rfl rfl rfl rfl rfl ⟨rfl, rfl, rfl, rfl, rfl⟩ rfl rfl rfl rfl rfl (by kernel_rfl) Try.func13 (by kernel_rfl)
    (of_decide_eq_true (by kernel_rfl)) (by unfold Func.isWrapper; first | (rw [if_pos (by decide +kernel)]; kernel_rfl) | (rw [if_neg (by decide +kernel)]; exact ⟨rfl, rfl⟩))
    (fun os started H enc _ => lifted os started H enc)
end Go.Proofs.Ytdjgaffiildijaa.fnExactRemoveTable
