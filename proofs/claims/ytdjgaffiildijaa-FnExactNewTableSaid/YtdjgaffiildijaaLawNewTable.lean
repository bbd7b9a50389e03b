/- The law FnExactNewTable holds at every argument: the call returns true and changes no argument. -/
import Derived.Test.YtdjgaffiildijaaRows
import Derived.Test.YtdjgaffiildijaaLaw
import Derived.Test.YtdjgaffiildijaaTabImp10
import Derived.Test.YtdjgaffiildijaaWalkNewTable
import Derived.Test.YtdjgaffiildijaaTabOpen
namespace Go.Proofs.Ytdjgaffiildijaa.fnExactNewTable
open Go Go.ChangeShapes Go.WideShapes Go.ChangeAt Go.RowKit
open Go.ChangeMaps (open_string shut_string)
open Byt Ints IntsLaw Cd Rows2 Tab TabSpec TabImp
theorem new_wt (n0 : ByteArray) (r0 : Int) (l0 : List (List Int)) : (if newOk n0 r0 l0 then newR [] l0 else []).flatten.length ≤ 1048577 := by
  cases h : newOk n0 r0 l0
  · simp
  · rw [if_pos rfl]
    have := (tab_wt (nm := n0) (ar := r0) (c := newR [] l0) h).1
    unfold rowsWt at this
    omega
theorem walk (a0 : ByteArray) (a1 : Int) (v2 : Value) (l2 : List (List Int)) {w : World} (hs0 : a0.size ≤ maxLen) (_ : -9223372036854775808 ≤ a1 ∧ a1 ≤ 9223372036854775807) (hr2 : rowsC.rd w (· < w.heap.size) [v2] l2) (_ : World) :
    Calls Try.prog 8 #[.string a0, .int .i64 a1, v2] w fun e w' => e = .returned (.bool true) ∧ Below w.heap.size w w' :=
  WalkNewTable.walk a0 a1 v2 l2 (if newOk a0 a1 l2 then a0 else ⟨#[]⟩) (if newOk a0 a1 l2 then a1 else 0) (if newOk a0 a1 l2 then newR [] l2 else []) (newOk a0 a1 l2) w hs0 hr2
    (fun _ _ => new_wt a0 a1 l2)
    (fun _ h2 v2 S2 w' k2 => spec_new a0 a1 v2 l2 S2 w' k2 (by omega))
    (fun _ h2 v2 S2 w' k2 => impl_new a0 a1 v2 l2 S2 w' k2 (by omega))

theorem own : ownKnob Try.prog.godebug = none := by kernel_rfl
theorem laidOut : laidOutB Try.prog = true := by kernel_rfl
theorem readable : ∀ t ∈ Try.f8.params.toList, Try.prog.readableRec t = true ∧ t < Try.prog.types.size := by
  rw [Try.params8]
  intro t ht
  simp only [List.mem_cons, List.mem_nil_iff, or_false] at ht
  rcases ht with rfl | rfl | rfl <;> exact ⟨by kernel_rfl, of_decide_eq_true (by kernel_rfl)⟩
set_option maxRecDepth 100000 in
theorem lifted (os : Os) (started : os.Started) (H : Type) (enc : TypeId × Value → H) :
    ReturnsInHanded {} Try.checked os 8 .any (Rows.fnExactNewTableSpec.pre6 enc Try.prog Try.f8 Rows.fnExactNewTableRow.domain false) (Rows.fnExactNewTableSpec.post enc Try.prog Try.f8 false true false false) := by
  refine returnsInHanded_of_change (C := Try.checked) own started (by kernel_rfl) Try.func8
    (ChangeSpec.witness6 (enc := enc) (C := Try.checked) false ⟨#[], #[.string .empty, .int .i64 0, .slice none 0 0], []⟩ 8 (by kernel_rfl) (by kernel_rfl) (by kernel_rfl) (by kernel_rfl)) ?_
  intro W base args ds gs before hval0 hW hcnd _
  have hval : ∀ (j : Nat) t v, Try.f8.params[j]? = some t → args[j]? = some v → Value.okWide Try.prog W .any base t v := hval0
  have hW' := hW
  obtain ⟨p, q, hA0, hV, rfl, hfz, hnd⟩ := hW
  have hA : DataW.TrodAll enc Try.prog W 0 (fun _ => true) true Try.f8.params.toList args.toList ds p := hA0
  rw [Try.params8] at hA hval
  obtain ⟨v0, vs0, d0, ds0, p0, q0, hargs, rfl, rfl, h0, r0⟩ := trodAll_cons hA
  obtain ⟨v1, vs1, d1, ds1, p1, q1, rfl, rfl, rfl, h1, r1⟩ := trodAll_cons r0
  obtain ⟨v2, vs2, d2, ds2, p2, q2, rfl, rfl, rfl, h2, r2⟩ := trodAll_cons r1
  obtain ⟨rfl, rfl, rfl⟩ := trodAll_nil r2
  obtain rfl : args = #[v0, v1, v2] := by cases args; simp_all
  obtain ⟨rfl, rfl⟩ := trodVars_none hV
  obtain ⟨a0, rfl, rfl, rfl, w0⟩ := open_string Try.underlying9 (hval 0 9 v0 rfl rfl) h0
  obtain ⟨a1, rfl, rfl, rfl, w1⟩ := open_int Try.underlying3 (hval 1 3 v1 rfl rfl) h1
  obtain ⟨a2, w2⟩ := TabOpen.open_sl Try.underlying22 TabOpen.fits_rows (hval 2 22 v2 rfl rfl) h2
  clear hA0 hval0
  refine (walk a0 a1 v2 a2 w0 (Law.bounds w1) w2 W).mono fun e W' ⟨he, hb⟩ => ?_
  subst he
  exact ⟨_, rfl, Law.post_law laidOut readable Try.underlying4 rfl rfl hW' rfl rfl rfl hb⟩

/-- The statement. -/
theorem proved : Rows.FnExactNewTableSaid :=
  OpenClaim.holds_of_wide 8 Try.f8 rfl rfl rfl rfl rfl rfl rfl ⟨rfl, rfl, rfl, rfl, rfl⟩ rfl rfl rfl rfl rfl (by kernel_rfl) Try.func8 (by kernel_rfl)
    (of_decide_eq_true (by kernel_rfl)) (by unfold Func.isWrapper; first | (rw [if_pos (by decide +kernel)]; kernel_rfl) | (rw [if_neg (by decide +kernel)]; exact ⟨rfl, rfl⟩))
    (fun os started H enc _ => lifted os started H enc)
end Go.Proofs.Ytdjgaffiildijaa.fnExactNewTable
