/- The law FnExactCountJoinTrees holds at every argument: the call returns true and changes no argument. -/
import Derived.Test.YtklamhnecncenaaRows
import Derived.Test.YtklamhnecncenaaLaw
import Derived.Test.YtklamhnecncenaaQgTree2
import Derived.Test.YtklamhnecncenaaWalkCountJoinTrees
namespace Go.Proofs.Ytklamhnecncenaa.fnExactCountJoinTrees
open Go Go.ChangeShapes Go.WideShapes Go.ChangeAt Go.RowKit
open Go.ChangeMaps (open_string shut_string)
open Byt Ints IntsLaw Cd Rows2 Tab TabOpen Atom MkAtom Qry
theorem walk (r0 : Int) (v0 : Value) (l0 : List A2) (a1 : Int) {w : World} (_ : -9223372036854775808 ≤ r0 ∧ r0 ≤ 9223372036854775807) (hr0 : atomsC.rd w (· < w.heap.size) [v0] l0) (_ : -9223372036854775808 ≤ a1 ∧ a1 ≤ 9223372036854775807) (_ : World) :
    Calls Try.prog 12 #[.agg #[.int .i64 r0, v0], .int .i64 a1] w fun e w' => e = .returned (.bool true) ∧ Below w.heap.size w w' :=
  WalkCountJoinTrees.walk r0 v0 l0 a1 ((QgTree.ct r0 l0 a1 : Nat) : Int) w hr0
    (fun _ v0 S0 w' h0 => QgTree.spec_trees r0 a1 v0 l0 S0 w' h0)
    (fun _ v0 S0 w' h0 => QgTree.impl_trees r0 a1 v0 l0 S0 w' h0)

theorem own : ownKnob Try.prog.godebug = none := by kernel_rfl
theorem laidOut : laidOutB Try.prog = true := by kernel_rfl
theorem readable : ∀ t ∈ Try.f12.params.toList, Try.prog.readableRec t = true ∧ t < Try.prog.types.size := by
  rw [Try.params12]
  intro t ht
  simp only [List.mem_cons, List.mem_nil_iff, or_false] at ht
  rcases ht with rfl | rfl <;> exact ⟨by kernel_rfl, of_decide_eq_true (by kernel_rfl)⟩
set_option maxRecDepth 100000 in
theorem lifted (os : Os) (started : os.Started) (H : Type) (enc : TypeId × Value → H) :
    ReturnsInHanded {} Try.checked os 12 .any (Rows.fnExactCountJoinTreesSpec.pre6 enc Try.prog Try.f12 Rows.fnExactCountJoinTreesRow.domain false) (Rows.fnExactCountJoinTreesSpec.post enc Try.prog Try.f12 false true false false) := by
  refine returnsInHanded_of_change (C := Try.checked) own started (by kernel_rfl) Try.func12
    (ChangeSpec.witness6 (enc := enc) (C := Try.checked) false ⟨#[], #[.agg #[.int .i64 0, .slice none 0 0], .int .i64 0], []⟩ 8 (by kernel_rfl) (by kernel_rfl) (by kernel_rfl) (by kernel_rfl)) ?_
  intro W base args ds gs before hval0 hW hcnd _
  have hval : ∀ (j : Nat) t v, Try.f12.params[j]? = some t → args[j]? = some v → Value.okWide Try.prog W .any base t v := hval0
  have hW' := hW
  obtain ⟨p, q, hA0, hV, rfl, hfz, hnd⟩ := hW
  have hA : DataW.TrodAll enc Try.prog W 0 (fun _ => true) true Try.f12.params.toList args.toList ds p := hA0
  rw [Try.params12] at hA hval
  obtain ⟨v0, vs0, d0, ds0, p0, q0, hargs, rfl, rfl, h0, r0⟩ := trodAll_cons hA
  obtain ⟨v1, vs1, d1, ds1, p1, q1, rfl, rfl, rfl, h1, r1⟩ := trodAll_cons r0
  obtain ⟨rfl, rfl, rfl⟩ := trodAll_nil r1
  obtain rfl : args = #[v0, v1] := by cases args; simp_all
  obtain ⟨rfl, rfl⟩ := trodVars_none hV
  obtain ⟨qn0, qu0, ql0, rfl, qb0, qw0⟩ := Qry.open_q (hval 0 73 v0 rfl rfl) h0
  obtain ⟨a1, rfl, rfl, rfl, w1⟩ := open_int Try.underlying3 (hval 1 3 v1 rfl rfl) h1
  clear hA0 hval0
  refine (walk qn0 qu0 ql0 a1 qb0 qw0 (Law.bounds w1) W).mono fun e W' ⟨he, hb⟩ => ?_
  subst he
  exact ⟨_, rfl, Law.post_law laidOut readable Try.underlying4 rfl rfl hW' rfl rfl rfl hb⟩

/-- The statement. -/
theorem proved : Rows.FnExactCountJoinTreesSaid :=
  OpenClaim.holds_of_wide 12 Try.f12 rfl rfl rfl rfl rfl rfl rfl ⟨rfl, rfl, rfl, rfl, rfl⟩ rfl rfl rfl rfl rfl (by kernel_rfl) Try.func12 (by kernel_rfl)
    (of_decide_eq_true (by kernel_rfl)) (by unfold Func.isWrapper; first | (rw [if_pos (by decide +kernel)]; kernel_rfl) | (rw [if_neg (by decide +kernel)]; exact ⟨rfl, rfl⟩))
    (fun os started H enc _ => lifted os started H enc)
end Go.Proofs.Ytklamhnecncenaa.fnExactCountJoinTrees
