/- The law FnExactCompareRationals holds at every argument: the call returns true and changes no argument. -/
import Derived.Test.YtkmhfgedbkkihaaRows
import Derived.Test.YtkmhfgedbkkihaaLaw
import Derived.Test.YtkmhfgedbkkihaaRatTo
import Derived.Test.YtkmhfgedbkkihaaRatCmp
import Derived.Lib.SmallJoins
namespace Go.Proofs.Ytkmhfgedbkkihaa.fnExactCompareRationals
open Go Go.ChangeShapes Go.WideShapes Go.ChangeAt Go.RowKit
open Go.ChangeMaps (open_string shut_string)
open Byt Ratio RatGcd RatMake RatOps RatTo RatCmp
set_option maxRecDepth 100000 in
set_option maxHeartbeats 1600000 in
theorem walk (n1 d1 n2 d2 : Int) (h1 : -9223372036854775808 ≤ n1 ∧ n1 ≤ 9223372036854775807) (h2 : -9223372036854775808 ≤ d1 ∧ d1 ≤ 9223372036854775807) (h3 : -9223372036854775808 ≤ n2 ∧ n2 ≤ 9223372036854775807) (h4 : -9223372036854775808 ≤ d2 ∧ d2 ≤ 9223372036854775807) (w : World) :
    Calls Try.prog 9 #[.agg #[.int .i64 n1, .int .i64 d1], .agg #[.int .i64 n2, .int .i64 d2]] w fun e w' => e = .returned (.bool true) ∧ Below w.heap.size w w' := by
  have hs := fun w => spec_cmp n1 d1 n2 d2 w
  have hi := fun w => impl_cmp n1 d1 n2 d2 w h1 h2 h3 h4
  generalize Ratio.cmp n1 d1 n2 d2 = C at *
  have HS := Lib.hid hs
  have HI := Lib.hid hi
  clear h1 h2 h3 h4 hs hi
  go_enter Try.func9, Try.ntmps9
  go_upto_region 1 with fail
  generalize hW : (w.alloc (.cells #[.int .i64 n1, .int .i64 d1] 23)).alloc (.cells #[.int .i64 n2, .int .i64 d2] 23) = W0
  obtain ⟨c0, c1, c2, c3, kk⟩ := start2 w _ _ _ _ _ hW
  clear hW
  go_region_held3 (fun wx => wx.cell? ⟨w.heap.size, 0, none⟩ = some (.int .i64 n1) ∧ wx.cell? ⟨w.heap.size, 1, none⟩ = some (.int .i64 d1) ∧ wx.cell? ⟨w.heap.size + 1, 0, none⟩ = some (.int .i64 n2) ∧ wx.cell? ⟨w.heap.size + 1, 1, none⟩ = some (.int .i64 d2) ∧ Kept w wx)
    ((refine ⟨by simp [*], by simp [*], by simp [*], by simp [*], ?_⟩; first | exact kept_drew (by simp [*]) | simp [*]))
    (first | (go_at_call 12; refine (to_rat _ _ _).mono ?_; rintro e w1 ⟨rfl, hb1⟩; obtain ⟨c0, c1, c2, c3, kk⟩ : w1.cell? ⟨w.heap.size, 0, none⟩ = some (.int .i64 n1) ∧ w1.cell? ⟨w.heap.size, 1, none⟩ = some (.int .i64 d1) ∧ w1.cell? ⟨w.heap.size + 1, 0, none⟩ = some (.int .i64 n2) ∧ w1.cell? ⟨w.heap.size + 1, 1, none⟩ = some (.int .i64 d2) ∧ Kept w w1 := ⟨rcell_later hb1 _ _ (by simp [*]), rcell_later hb1 _ _ (by simp [*]), rcell_later hb1 _ _ (by simp [*]), rcell_later hb1 _ _ (by simp [*]), kept_later hb1 (by simp [*])⟩) | (go_at_call 25; refine (HS.out _).mono ?_; rintro e w1 ⟨rfl, hb1⟩; obtain ⟨c0, c1, c2, c3, kk⟩ : w1.cell? ⟨w.heap.size, 0, none⟩ = some (.int .i64 n1) ∧ w1.cell? ⟨w.heap.size, 1, none⟩ = some (.int .i64 d1) ∧ w1.cell? ⟨w.heap.size + 1, 0, none⟩ = some (.int .i64 n2) ∧ w1.cell? ⟨w.heap.size + 1, 1, none⟩ = some (.int .i64 d2) ∧ Kept w w1 := ⟨rcell_later hb1 _ _ (by simp [*]), rcell_later hb1 _ _ (by simp [*]), rcell_later hb1 _ _ (by simp [*]), rcell_later hb1 _ _ (by simp [*]), kept_later hb1 (by simp [*])⟩))
  go_upto_region 2 with fail
  go_region_held3 (fun wx => wx.cell? ⟨w.heap.size, 0, none⟩ = some (.int .i64 n1) ∧ wx.cell? ⟨w.heap.size, 1, none⟩ = some (.int .i64 d1) ∧ wx.cell? ⟨w.heap.size + 1, 0, none⟩ = some (.int .i64 n2) ∧ wx.cell? ⟨w.heap.size + 1, 1, none⟩ = some (.int .i64 d2) ∧ Kept w wx)
    ((refine ⟨by simp [*], by simp [*], by simp [*], by simp [*], ?_⟩; first | exact kept_drew (by simp [*]) | simp [*]))
    (first | (go_at_call 12; refine (to_rat _ _ _).mono ?_; rintro e w1 ⟨rfl, hb1⟩; obtain ⟨c0, c1, c2, c3, kk⟩ : w1.cell? ⟨w.heap.size, 0, none⟩ = some (.int .i64 n1) ∧ w1.cell? ⟨w.heap.size, 1, none⟩ = some (.int .i64 d1) ∧ w1.cell? ⟨w.heap.size + 1, 0, none⟩ = some (.int .i64 n2) ∧ w1.cell? ⟨w.heap.size + 1, 1, none⟩ = some (.int .i64 d2) ∧ Kept w w1 := ⟨rcell_later hb1 _ _ (by simp [*]), rcell_later hb1 _ _ (by simp [*]), rcell_later hb1 _ _ (by simp [*]), rcell_later hb1 _ _ (by simp [*]), kept_later hb1 (by simp [*])⟩) | (go_at_call 26; refine (HI.out _).mono ?_; rintro e w1 ⟨rfl, hb1⟩; obtain ⟨c0, c1, c2, c3, kk⟩ : w1.cell? ⟨w.heap.size, 0, none⟩ = some (.int .i64 n1) ∧ w1.cell? ⟨w.heap.size, 1, none⟩ = some (.int .i64 d1) ∧ w1.cell? ⟨w.heap.size + 1, 0, none⟩ = some (.int .i64 n2) ∧ w1.cell? ⟨w.heap.size + 1, 1, none⟩ = some (.int .i64 d2) ∧ Kept w w1 := ⟨rcell_later hb1 _ _ (by simp [*]), rcell_later hb1 _ _ (by simp [*]), rcell_later hb1 _ _ (by simp [*]), rcell_later hb1 _ _ (by simp [*]), kept_later hb1 (by simp [*])⟩))
  go_wp2_with fail
  go_ret
  exact ⟨rfl, kk⟩

theorem own : ownKnob Try.prog.godebug = none := by kernel_rfl
theorem laidOut : laidOutB Try.prog = true := by kernel_rfl
theorem readable : ∀ t ∈ Try.f9.params.toList, Try.prog.readableRec t = true ∧ t < Try.prog.types.size := by
  rw [Try.params9]
  intro t ht
  simp only [List.mem_cons, List.mem_nil_iff, or_false] at ht
  rcases ht with rfl | rfl <;> exact ⟨by kernel_rfl, of_decide_eq_true (by kernel_rfl)⟩
set_option maxRecDepth 100000 in
theorem lifted (os : Os) (started : os.Started) (H : Type) (enc : TypeId × Value → H) :
    ReturnsInHanded {} Try.checked os 9 .any (Rows.fnExactCompareRationalsSpec.pre6 enc Try.prog Try.f9 Rows.fnExactCompareRationalsRow.domain false) (Rows.fnExactCompareRationalsSpec.post enc Try.prog Try.f9 false true false false) := by
  refine returnsInHanded_of_change (C := Try.checked) own started (by kernel_rfl) Try.func9
    (ChangeSpec.witness6 (enc := enc) (C := Try.checked) false ⟨#[], #[.agg #[.int .i64 0, .int .i64 0], .agg #[.int .i64 0, .int .i64 0]], []⟩ 8 (by kernel_rfl) (by kernel_rfl) (by kernel_rfl) (by kernel_rfl)) ?_
  intro W base args ds gs before hval0 hW hcnd _
  have hval : ∀ (j : Nat) t v, Try.f9.params[j]? = some t → args[j]? = some v → Value.okWide Try.prog W .any base t v := hval0
  have hW' := hW
  obtain ⟨p, q, hA0, hV, rfl, hfz, hnd⟩ := hW
  have hA : DataW.TrodAll enc Try.prog W 0 (fun _ => true) true Try.f9.params.toList args.toList ds p := hA0
  rw [Try.params9] at hA hval
  obtain ⟨v0, vs0, d0, ds0, p0, q0, hargs, rfl, rfl, h0, r0⟩ := trodAll_cons hA
  obtain ⟨v1, vs1, d1, ds1, p1, q1, rfl, rfl, rfl, h1, r1⟩ := trodAll_cons r0
  obtain ⟨rfl, rfl, rfl⟩ := trodAll_nil r1
  obtain rfl : args = #[v0, v1] := by cases args; simp_all
  obtain ⟨rfl, rfl⟩ := trodVars_none hV
  obtain ⟨x0_0, x0_1, y0_0, y0_1, n0, rfl, rfl, rfl, t0_0, t0_1⟩ := Go.Joins.open_agg2 Try.underlying23 (by kernel_rfl) (by kernel_rfl) (hval 0 23 v0 rfl rfl) h0
  obtain ⟨a0x0, e0_0, rfl, w0x0⟩ := DataW.trod_int Try.underlying3 t0_0
  obtain rfl : x0_0 = .int .i64 a0x0 := by simpa using e0_0
  obtain ⟨a0x1, e0_1, rfl, w0x1⟩ := DataW.trod_int Try.underlying3 t0_1
  obtain rfl : x0_1 = .int .i64 a0x1 := by simpa using e0_1
  obtain ⟨x1_0, x1_1, y1_0, y1_1, n1, rfl, rfl, rfl, t1_0, t1_1⟩ := Go.Joins.open_agg2 Try.underlying23 (by kernel_rfl) (by kernel_rfl) (hval 1 23 v1 rfl rfl) h1
  obtain ⟨a1x0, e1_0, rfl, w1x0⟩ := DataW.trod_int Try.underlying3 t1_0
  obtain rfl : x1_0 = .int .i64 a1x0 := by simpa using e1_0
  obtain ⟨a1x1, e1_1, rfl, w1x1⟩ := DataW.trod_int Try.underlying3 t1_1
  obtain rfl : x1_1 = .int .i64 a1x1 := by simpa using e1_1
  clear hA0 hval0
  refine (walk a0x0 a0x1 a1x0 a1x1 (Law.bounds w0x0) (Law.bounds w0x1) (Law.bounds w1x0) (Law.bounds w1x1) W).mono fun e W' ⟨he, hb⟩ => ?_
  subst he
  exact ⟨_, rfl, Law.post_law laidOut readable Try.underlying4 rfl rfl hW' rfl rfl rfl hb⟩

/-- The statement. -/
theorem proved : Rows.FnExactCompareRationalsSaid :=
  OpenClaim.holds_of_wide 9 Try.f9 rfl rfl rfl rfl rfl rfl rfl ⟨rfl, rfl, rfl, rfl, rfl⟩ rfl rfl rfl rfl rfl (by kernel_rfl) Try.func9 (by kernel_rfl)
    (of_decide_eq_true (by kernel_rfl)) (by unfold Func.isWrapper; first | (rw [if_pos (by decide +kernel)]; kernel_rfl) | (rw [if_neg (by decide +kernel)]; exact ⟨rfl, rfl⟩))
    (fun os started H enc _ => lifted os started H enc)
end Go.Proofs.Ytkmhfgedbkkihaa.fnExactCompareRationals
