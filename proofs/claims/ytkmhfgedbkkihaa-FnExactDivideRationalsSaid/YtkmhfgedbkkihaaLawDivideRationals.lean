/- The law FnExactDivideRationals holds at every argument: the call returns true and changes no argument. -/
import Derived.Test.YtkmhfgedbkkihaaRows
import Derived.Test.YtkmhfgedbkkihaaLaw
import Derived.Test.YtkmhfgedbkkihaaRatTo
import Derived.Lib.SmallJoins
namespace Go.Proofs.Ytkmhfgedbkkihaa.fnExactDivideRationals
open Go Go.ChangeShapes Go.WideShapes Go.ChangeAt Go.RowKit
open Go.ChangeMaps (open_string shut_string)
open Byt Ratio RatGcd RatMake RatOps RatTo
set_option maxRecDepth 100000 in
set_option maxHeartbeats 1600000 in
theorem walk (n1 d1 n2 d2 : Int) (h1 : -9223372036854775808 ≤ n1 ∧ n1 ≤ 9223372036854775807) (h2 : -9223372036854775808 ≤ d1 ∧ d1 ≤ 9223372036854775807) (h3 : -9223372036854775808 ≤ n2 ∧ n2 ≤ 9223372036854775807) (h4 : -9223372036854775808 ≤ d2 ∧ d2 ≤ 9223372036854775807) (w : World) :
    Calls Try.prog 8 #[.agg #[.int .i64 n1, .int .i64 d1], .agg #[.int .i64 n2, .int .i64 d2]] w fun e w' => e = .returned (.bool true) ∧ Below w.heap.size w w' := by
  have hs := fun w => spec_div n1 d1 n2 d2 w
  have hi := fun w => impl_div n1 d1 n2 d2 w h1 h2 h3 h4
  generalize opN (valid n1 d1 && valid n2 d2) (n1 * d2) (d1 * n2) = N at *
  generalize opD (valid n1 d1 && valid n2 d2) (n1 * d2) (d1 * n2) = D at *
  generalize opOk (valid n1 d1 && valid n2 d2) (n1 * d2) (d1 * n2) = ok at *
  have HS := Lib.hid hs
  have HI := Lib.hid hi
  clear h1 h2 h3 h4 hs hi
  go_enter Try.func8, Try.ntmps8
  go_upto_region 1 with fail
  go_cut [5, 6] (fun s5 s6 wx => ∃ b, s5 = .pointer (some ⟨b, 0, none⟩) ∧ s6 = .bool ok ∧ wx.cell? ⟨w.heap.size, 0, none⟩ = some (.int .i64 n1) ∧ wx.cell? ⟨w.heap.size, 1, none⟩ = some (.int .i64 d1) ∧ wx.cell? ⟨w.heap.size + 1, 0, none⟩ = some (.int .i64 n2) ∧ wx.cell? ⟨w.heap.size + 1, 1, none⟩ = some (.int .i64 d2) ∧ wx.cell? ⟨b, 0, none⟩ = some (.int .i64 N) ∧ wx.cell? ⟨b, 1, none⟩ = some (.int .i64 D) ∧ Kept w wx)
  case first =>
    generalize hW : (w.alloc (.cells #[.int .i64 n1, .int .i64 d1] 23)).alloc (.cells #[.int .i64 n2, .int .i64 d2] 23) = W0
    obtain ⟨c0, c1, c2, c3, kk⟩ := start2 w _ _ _ _ _ hW
    have hz : w.heap.size ≤ W0.heap.size := kk.size
    have ne0 : W0.heap.size ≠ w.heap.size := World.new_ne W0 _ c0
    have ne1 : W0.heap.size ≠ w.heap.size + 1 := World.new_ne W0 _ c2
    clear hW
    go_region_held3 (fun wx => wx.cell? ⟨w.heap.size, 0, none⟩ = some (.int .i64 n1) ∧ wx.cell? ⟨w.heap.size, 1, none⟩ = some (.int .i64 d1) ∧ wx.cell? ⟨w.heap.size + 1, 0, none⟩ = some (.int .i64 n2) ∧ wx.cell? ⟨w.heap.size + 1, 1, none⟩ = some (.int .i64 d2) ∧ Kept w wx)
      ((refine ⟨by simp [*, World.cell?_alloc_some, World.cell?_setCell_far], by simp [*, World.cell?_alloc_some, World.cell?_setCell_far], by simp [*, World.cell?_alloc_some, World.cell?_setCell_far], by simp [*, World.cell?_alloc_some, World.cell?_setCell_far], ?_⟩; first | exact kept_drew (by simp [*]) | exact kept_drew kk | exact kept_alloc _ (by simp [*]) | (refine kept_set (kept_set ?_ ?_) ?_ <;> first | (simp [*]; done) | omega | (simp; omega)) | exact kept_drew (kept_alloc _ (by simp [*])) | simp [*]))
      (first | (go_at_call 12; refine (to_rat _ _ _).mono ?_; rintro e w1 ⟨rfl, hb1⟩; obtain ⟨c0, c1, c2, c3, kk⟩ : w1.cell? ⟨w.heap.size, 0, none⟩ = some (.int .i64 n1) ∧ w1.cell? ⟨w.heap.size, 1, none⟩ = some (.int .i64 d1) ∧ w1.cell? ⟨w.heap.size + 1, 0, none⟩ = some (.int .i64 n2) ∧ w1.cell? ⟨w.heap.size + 1, 1, none⟩ = some (.int .i64 d2) ∧ Kept w w1 := ⟨rcell_later hb1 _ _ (by simp [*]), rcell_later hb1 _ _ (by simp [*]), rcell_later hb1 _ _ (by simp [*]), rcell_later hb1 _ _ (by simp [*]), kept_later hb1 (by simp [*])⟩; have hz : w.heap.size ≤ w1.heap.size := kk.size; have ne0 : w1.heap.size ≠ w.heap.size := World.new_ne w1 _ c0; have ne1 : w1.heap.size ≠ w.heap.size + 1 := World.new_ne w1 _ c2; (first | (have hx := new_later hb1; obtain ⟨x0, x1, y0, y1⟩ := hx) | (have hx := new_later' hb1; obtain ⟨x0, x1, y0, y1⟩ := hx) | (have hx := old_later hb1 x0 x1 y0 y1; obtain ⟨x0, x1, y0, y1⟩ := hx) | skip)) | (go_at_call 23; refine (HS.out _).mono ?_; rintro e w1 ⟨rfl, hb1⟩; obtain ⟨c0, c1, c2, c3, kk⟩ : w1.cell? ⟨w.heap.size, 0, none⟩ = some (.int .i64 n1) ∧ w1.cell? ⟨w.heap.size, 1, none⟩ = some (.int .i64 d1) ∧ w1.cell? ⟨w.heap.size + 1, 0, none⟩ = some (.int .i64 n2) ∧ w1.cell? ⟨w.heap.size + 1, 1, none⟩ = some (.int .i64 d2) ∧ Kept w w1 := ⟨rcell_later hb1 _ _ (by simp [*]), rcell_later hb1 _ _ (by simp [*]), rcell_later hb1 _ _ (by simp [*]), rcell_later hb1 _ _ (by simp [*]), kept_later hb1 (by simp [*])⟩; have hz : w.heap.size ≤ w1.heap.size := kk.size; have ne0 : w1.heap.size ≠ w.heap.size := World.new_ne w1 _ c0; have ne1 : w1.heap.size ≠ w.heap.size + 1 := World.new_ne w1 _ c2; (first | (have hx := new_later hb1; obtain ⟨x0, x1, y0, y1⟩ := hx) | (have hx := new_later' hb1; obtain ⟨x0, x1, y0, y1⟩ := hx) | (have hx := old_later hb1 x0 x1 y0 y1; obtain ⟨x0, x1, y0, y1⟩ := hx) | skip)))
    all_goals
      go_wp2_with fail
      go_meet
      refine ⟨_, rfl, rfl, ?_⟩
      refine ⟨by simp [*], by simp [*], by simp [*], by simp [*], ?_, ?_, ?_⟩
      · first | exact (set_two (by assumption) (by assumption)).1 | simp
      · first | exact (set_two (by assumption) (by assumption)).2 | simp
      · simp [*]
  case rest =>
    obtain ⟨b, rfl, rfl, c0, c1, c2, c3, c4, c5, kk⟩ := hcut
    have hz : w.heap.size ≤ wc.heap.size := kk.size
    have ne0 : wc.heap.size ≠ w.heap.size := World.new_ne wc _ c0
    have ne1 : wc.heap.size ≠ w.heap.size + 1 := World.new_ne wc _ c2
    have ne2 : wc.heap.size ≠ b := World.new_ne wc _ c4
    go_upto_region 2 with fail
    go_cut [7, 8] (fun s7 s8 wx => ∃ b2, s7 = .pointer (some ⟨b2, 0, none⟩) ∧ s8 = .bool ok ∧ wx.cell? ⟨b, 0, none⟩ = some (.int .i64 N) ∧ wx.cell? ⟨b, 1, none⟩ = some (.int .i64 D) ∧ wx.cell? ⟨b2, 0, none⟩ = some (.int .i64 N) ∧ wx.cell? ⟨b2, 1, none⟩ = some (.int .i64 D) ∧ Kept w wx)
    case first =>
      go_region_held3 (fun wx => wx.cell? ⟨w.heap.size, 0, none⟩ = some (.int .i64 n1) ∧ wx.cell? ⟨w.heap.size, 1, none⟩ = some (.int .i64 d1) ∧ wx.cell? ⟨w.heap.size + 1, 0, none⟩ = some (.int .i64 n2) ∧ wx.cell? ⟨w.heap.size + 1, 1, none⟩ = some (.int .i64 d2) ∧ wx.cell? ⟨b, 0, none⟩ = some (.int .i64 N) ∧ wx.cell? ⟨b, 1, none⟩ = some (.int .i64 D) ∧ Kept w wx)
        ((refine ⟨by simp [*, World.cell?_alloc_some, World.cell?_setCell_far], by simp [*, World.cell?_alloc_some, World.cell?_setCell_far], by simp [*, World.cell?_alloc_some, World.cell?_setCell_far], by simp [*, World.cell?_alloc_some, World.cell?_setCell_far], by simp [*, World.cell?_alloc_some, World.cell?_setCell_far], by simp [*, World.cell?_alloc_some, World.cell?_setCell_far], ?_⟩; first | exact kept_drew (by simp [*]) | exact kept_drew kk | exact kept_alloc _ (by simp [*]) | (refine kept_set (kept_set ?_ ?_) ?_ <;> first | (simp [*]; done) | omega | (simp; omega)) | exact kept_drew (kept_alloc _ (by simp [*])) | simp [*]))
        (first | (go_at_call 12; refine (to_rat _ _ _).mono ?_; rintro e w1 ⟨rfl, hb1⟩; obtain ⟨c0, c1, c2, c3, c4, c5, kk⟩ : w1.cell? ⟨w.heap.size, 0, none⟩ = some (.int .i64 n1) ∧ w1.cell? ⟨w.heap.size, 1, none⟩ = some (.int .i64 d1) ∧ w1.cell? ⟨w.heap.size + 1, 0, none⟩ = some (.int .i64 n2) ∧ w1.cell? ⟨w.heap.size + 1, 1, none⟩ = some (.int .i64 d2) ∧ w1.cell? ⟨b, 0, none⟩ = some (.int .i64 N) ∧ w1.cell? ⟨b, 1, none⟩ = some (.int .i64 D) ∧ Kept w w1 := ⟨rcell_later hb1 _ _ (by simp [*]), rcell_later hb1 _ _ (by simp [*]), rcell_later hb1 _ _ (by simp [*]), rcell_later hb1 _ _ (by simp [*]), rcell_later hb1 _ _ (by simp [*]), rcell_later hb1 _ _ (by simp [*]), kept_later hb1 (by simp [*])⟩; have hz : w.heap.size ≤ w1.heap.size := kk.size; have ne0 : w1.heap.size ≠ w.heap.size := World.new_ne w1 _ c0; have ne1 : w1.heap.size ≠ w.heap.size + 1 := World.new_ne w1 _ c2; have ne2 : w1.heap.size ≠ b := World.new_ne w1 _ c4; (first | (have hx := new_later hb1; obtain ⟨x0, x1, y0, y1⟩ := hx) | (have hx := new_later' hb1; obtain ⟨x0, x1, y0, y1⟩ := hx) | (have hx := old_later hb1 x0 x1 y0 y1; obtain ⟨x0, x1, y0, y1⟩ := hx) | skip)) | (go_at_call 24; refine (HI.out _).mono ?_; rintro e w1 ⟨rfl, hb1⟩; obtain ⟨c0, c1, c2, c3, c4, c5, kk⟩ : w1.cell? ⟨w.heap.size, 0, none⟩ = some (.int .i64 n1) ∧ w1.cell? ⟨w.heap.size, 1, none⟩ = some (.int .i64 d1) ∧ w1.cell? ⟨w.heap.size + 1, 0, none⟩ = some (.int .i64 n2) ∧ w1.cell? ⟨w.heap.size + 1, 1, none⟩ = some (.int .i64 d2) ∧ w1.cell? ⟨b, 0, none⟩ = some (.int .i64 N) ∧ w1.cell? ⟨b, 1, none⟩ = some (.int .i64 D) ∧ Kept w w1 := ⟨rcell_later hb1 _ _ (by simp [*]), rcell_later hb1 _ _ (by simp [*]), rcell_later hb1 _ _ (by simp [*]), rcell_later hb1 _ _ (by simp [*]), rcell_later hb1 _ _ (by simp [*]), rcell_later hb1 _ _ (by simp [*]), kept_later hb1 (by simp [*])⟩; have hz : w.heap.size ≤ w1.heap.size := kk.size; have ne0 : w1.heap.size ≠ w.heap.size := World.new_ne w1 _ c0; have ne1 : w1.heap.size ≠ w.heap.size + 1 := World.new_ne w1 _ c2; have ne2 : w1.heap.size ≠ b := World.new_ne w1 _ c4; (first | (have hx := new_later hb1; obtain ⟨x0, x1, y0, y1⟩ := hx) | (have hx := new_later' hb1; obtain ⟨x0, x1, y0, y1⟩ := hx) | (have hx := old_later hb1 x0 x1 y0 y1; obtain ⟨x0, x1, y0, y1⟩ := hx) | skip)))
      all_goals
        go_wp2_with fail
        go_meet
        refine ⟨_, rfl, rfl, ?_⟩
        refine ⟨by simp [*], by simp [*], ?_, ?_, ?_⟩
        · first | exact (set_two (by assumption) (by assumption)).1 | simp
        · first | exact (set_two (by assumption) (by assumption)).2 | simp
        · simp [*]
    case rest =>
      obtain ⟨b2, rfl, rfl, e0, e1, e2, e3, kk⟩ := hcut
      have HK := Lib.hid kk
      clear kk
      go_wp2_with fail
      refine (eq_rat N D _).mono ?_
      rintro e w1 ⟨rfl, hb1⟩
      go_wp2_with fail
      go_ret
      exact ⟨rfl, HK.out.trans (hb1.mono HK.out.size)⟩

theorem own : ownKnob Try.prog.godebug = none := by kernel_rfl
theorem laidOut : laidOutB Try.prog = true := by kernel_rfl
theorem readable : ∀ t ∈ Try.f8.params.toList, Try.prog.readableRec t = true ∧ t < Try.prog.types.size := by
  rw [Try.params8]
  intro t ht
  simp only [List.mem_cons, List.mem_nil_iff, or_false] at ht
  rcases ht with rfl | rfl <;> exact ⟨by kernel_rfl, of_decide_eq_true (by kernel_rfl)⟩
set_option maxRecDepth 100000 in
theorem lifted (os : Os) (started : os.Started) (H : Type) (enc : TypeId × Value → H) :
    ReturnsInHanded {} Try.checked os 8 .any (Rows.fnExactDivideRationalsSpec.pre6 enc Try.prog Try.f8 Rows.fnExactDivideRationalsRow.domain false) (Rows.fnExactDivideRationalsSpec.post enc Try.prog Try.f8 false true false false) := by
  refine returnsInHanded_of_change (C := Try.checked) own started (by kernel_rfl) Try.func8
    (ChangeSpec.witness6 (enc := enc) (C := Try.checked) false ⟨#[], #[.agg #[.int .i64 0, .int .i64 0], .agg #[.int .i64 0, .int .i64 0]], []⟩ 8 (by kernel_rfl) (by kernel_rfl) (by kernel_rfl) (by kernel_rfl)) ?_
  intro W base args ds gs before hval0 hW hcnd _
  have hval : ∀ (j : Nat) t v, Try.f8.params[j]? = some t → args[j]? = some v → Value.okWide Try.prog W .any base t v := hval0
  have hW' := hW
  obtain ⟨p, q, hA0, hV, rfl, hfz, hnd⟩ := hW
  have hA : DataW.TrodAll enc Try.prog W 0 (fun _ => true) true Try.f8.params.toList args.toList ds p := hA0
  rw [Try.params8] at hA hval
  obtain ⟨v0, vs0, d0, ds0, p0, q0, hargs, rfl, rfl, h0, r0⟩ := trodAll_cons hA
  obtain ⟨v1, vs1, d1, ds1, p1, q1, rfl, rfl, rfl, h1, r1⟩ := trodAll_cons r0
  obtain ⟨rfl, rfl, rfl⟩ := trodAll_nil r1
  obtain rfl : args = #[v0, v1] := by cases args; simp_all
  obtain ⟨rfl, rfl⟩ := trodVars_none hV
  obtain ⟨x0_0, x0_1, y0_0, y0_1, n0, rfl, rfl, rfl, t0_0, t0_1⟩ := Go.Joins.open_agg2 Try.underlying23 (by kernel_rfl) (by kernel_rfl) (hval 0 23 v0 rfl rfl) h0
  obtain ⟨a0x0, e0_0, rfl, w0x0⟩ := DataW.trod_int Try.underlying3 t0_0
  obtain rfl : x0_0 = .int .i64 a0x0 := by simpa using e0_0
  obtain ⟨a0x1, e0_1, rfl, w0x1⟩ := DataW.trod_int Try.underlying3 t0_1
  obtain rfl : x0_1 = .int .i64 a0x1 := by simpa using e0_1
  obtain ⟨x1_0, x1_1, y1_0, y1_1, n1, rfl, rfl, rfl, t1_0, t1_1⟩ := Go.Joins.open_agg2 Try.underlying23 (by kernel_rfl) (by kernel_rfl) (hval 1 23 v1 rfl rfl) h1
  obtain ⟨a1x0, e1_0, rfl, w1x0⟩ := DataW.trod_int Try.underlying3 t1_0
  obtain rfl : x1_0 = .int .i64 a1x0 := by simpa using e1_0
  obtain ⟨a1x1, e1_1, rfl, w1x1⟩ := DataW.trod_int Try.underlying3 t1_1
  obtain rfl : x1_1 = .int .i64 a1x1 := by simpa using e1_1
  clear hA0 hval0
  refine (walk a0x0 a0x1 a1x0 a1x1 (Law.bounds w0x0) (Law.bounds w0x1) (Law.bounds w1x0) (Law.bounds w1x1) W).mono fun e W' ⟨he, hb⟩ => ?_
  subst he
  exact ⟨_, rfl, Law.post_law laidOut readable Try.underlying4 rfl rfl hW' rfl rfl rfl hb⟩

/-- The statement. -/
theorem proved : Rows.FnExactDivideRationalsSaid :=
  OpenClaim.holds_of_wide 8 Try.f8 rfl rfl rfl rfl rfl rfl rfl ⟨rfl, rfl, rfl, rfl, rfl⟩ rfl rfl rfl rfl rfl (by kernel_rfl) Try.func8 (by kernel_rfl)
    (of_decide_eq_true (by kernel_rfl)) (by unfold Func.isWrapper; first | (rw [if_pos (by decide +kernel)]; kernel_rfl) | (rw [if_neg (by decide +kernel)]; exact ⟨rfl, rfl⟩))
    (fun os started H enc _ => lifted os started H enc)
end Go.Proofs.Ytkmhfgedbkkihaa.fnExactDivideRationals
