/- The law FnExactCeilRational holds at every argument: the call returns true and changes no argument. -/
import Derived.Test.YtkmhfgedbkkihaaRows
import Derived.Test.YtkmhfgedbkkihaaLaw
import Derived.Test.YtkmhfgedbkkihaaRatTo
import Derived.Test.YtkmhfgedbkkihaaRatCmp
import Derived.Lib.SmallJoins
namespace Go.Proofs.Ytkmhfgedbkkihaa.fnExactCeilRational
open Go Go.ChangeShapes Go.WideShapes Go.ChangeAt Go.RowKit
open Go.ChangeMaps (open_string shut_string)
open Byt Ratio RatGcd RatMake RatOps RatTo RatCmp
set_option maxRecDepth 100000 in
theorem walk (n d : Int) (h1 : -9223372036854775808 ≤ n ∧ n ≤ 9223372036854775807) (h2 : -9223372036854775808 ≤ d ∧ d ≤ 9223372036854775807) (w : World) :
    Calls Try.prog 10 #[.agg #[.int .i64 n, .int .i64 d]] w fun e w' => e = .returned (.bool true) ∧ Below w.heap.size w w' := by
  have HS := Lib.hid (fun w => spec_ceil n d w)
  have HI := Lib.hid (fun w => impl_ceil n d w h1 h2)
  clear h1 h2
  go_enter Try.func10, Try.ntmps10
  go_wp2_with fail
  refine (to_rat n d _).mono ?_
  rintro e w1 ⟨rfl, hb1⟩
  have kk1 := kept_later hb1 (kept_alloc _ (kept_refl w))
  have r1 := Lib.hid (row_later hb1 (alloc_at0 w _) (by simp))
  have K1 := Lib.hid kk1
  clear hb1 kk1
  go_wp2_with fail
  refine (HS.out _).mono ?_
  rintro e w2 ⟨rfl, hb2⟩
  have r2 := Lib.hid (row_later hb2 r1.out (Array.getElem?_eq_some_iff.1 r1.out).1)
  obtain ⟨p0, p1, _, _⟩ := row_cells r2.out
  have K2 := Lib.hid (kept_later hb2 K1.out)
  clear hb2
  go_wp2_with fail
  refine (to_rat n d _).mono ?_
  rintro e w3 ⟨rfl, hb3⟩
  have K3 := Lib.hid (kept_later hb3 K2.out)
  clear hb3
  go_wp2_with fail
  refine (HI.out _).mono ?_
  rintro e w4 ⟨rfl, hb4⟩
  have K4 := Lib.hid (kept_later hb4 K3.out)
  clear hb4
  go_wp2_with fail
  go_ret
  exact ⟨rfl, K4.out⟩

theorem own : ownKnob Try.prog.godebug = none := by kernel_rfl
theorem laidOut : laidOutB Try.prog = true := by kernel_rfl
theorem readable : ∀ t ∈ Try.f10.params.toList, Try.prog.readableRec t = true ∧ t < Try.prog.types.size := by
  rw [Try.params10]
  intro t ht
  simp only [List.mem_cons, List.mem_nil_iff, or_false] at ht
  rcases ht with rfl <;> exact ⟨by kernel_rfl, of_decide_eq_true (by kernel_rfl)⟩
set_option maxRecDepth 100000 in
theorem lifted (os : Os) (started : os.Started) (H : Type) (enc : TypeId × Value → H) :
    ReturnsInHanded {} Try.checked os 10 .any (Rows.fnExactCeilRationalSpec.pre6 enc Try.prog Try.f10 Rows.fnExactCeilRationalRow.domain false) (Rows.fnExactCeilRationalSpec.post enc Try.prog Try.f10 false true false false) := by
  refine returnsInHanded_of_change (C := Try.checked) own started (by kernel_rfl) Try.func10
    (ChangeSpec.witness6 (enc := enc) (C := Try.checked) false ⟨#[], #[.agg #[.int .i64 0, .int .i64 0]], []⟩ 8 (by kernel_rfl) (by kernel_rfl) (by kernel_rfl) (by kernel_rfl)) ?_
  intro W base args ds gs before hval0 hW hcnd _
  have hval : ∀ (j : Nat) t v, Try.f10.params[j]? = some t → args[j]? = some v → Value.okWide Try.prog W .any base t v := hval0
  have hW' := hW
  obtain ⟨p, q, hA0, hV, rfl, hfz, hnd⟩ := hW
  have hA : DataW.TrodAll enc Try.prog W 0 (fun _ => true) true Try.f10.params.toList args.toList ds p := hA0
  rw [Try.params10] at hA hval
  obtain ⟨v0, vs0, d0, ds0, p0, q0, hargs, rfl, rfl, h0, r0⟩ := trodAll_cons hA
  obtain ⟨rfl, rfl, rfl⟩ := trodAll_nil r0
  obtain rfl : args = #[v0] := by cases args; simp_all
  obtain ⟨rfl, rfl⟩ := trodVars_none hV
  obtain ⟨x0_0, x0_1, y0_0, y0_1, n0, rfl, rfl, rfl, t0_0, t0_1⟩ := Go.Joins.open_agg2 Try.underlying23 (by kernel_rfl) (by kernel_rfl) (hval 0 23 v0 rfl rfl) h0
  obtain ⟨a0x0, e0_0, rfl, w0x0⟩ := DataW.trod_int Try.underlying3 t0_0
  obtain rfl : x0_0 = .int .i64 a0x0 := by simpa using e0_0
  obtain ⟨a0x1, e0_1, rfl, w0x1⟩ := DataW.trod_int Try.underlying3 t0_1
  obtain rfl : x0_1 = .int .i64 a0x1 := by simpa using e0_1
  clear hA0 hval0
  refine (walk a0x0 a0x1 (Law.bounds w0x0) (Law.bounds w0x1) W).mono fun e W' ⟨he, hb⟩ => ?_
  subst he
  exact ⟨_, rfl, Law.post_law laidOut readable Try.underlying4 rfl rfl hW' rfl rfl rfl hb⟩

/-- The statement. -/
theorem proved : Rows.FnExactCeilRationalSaid :=
  OpenClaim.holds_of_wide 10 Try.f10 rfl rfl rfl rfl rfl rfl rfl ⟨rfl, rfl, rfl, rfl, rfl⟩ rfl rfl rfl rfl rfl (by kernel_rfl) Try.func10 (by kernel_rfl)
    (of_decide_eq_true (by kernel_rfl)) (by unfold Func.isWrapper; first | (rw [if_pos (by decide +kernel)]; kernel_rfl) | (rw [if_neg (by decide +kernel)]; exact ⟨rfl, rfl⟩))
    (fun os started H enc _ => lifted os started H enc)
end Go.Proofs.Ytkmhfgedbkkihaa.fnExactCeilRational
