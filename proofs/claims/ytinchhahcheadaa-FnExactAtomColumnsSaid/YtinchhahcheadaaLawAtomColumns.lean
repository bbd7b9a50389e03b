/- The law FnExactAtomColumns holds at every argument: the call returns true and changes no argument. -/
import Derived.Test.YtinchhahcheadaaRows
import Derived.Test.YtinchhahcheadaaLaw
import Derived.Test.YtinchhahcheadaaQryCols
import Derived.Test.YtinchhahcheadaaWalkAtomColumns
namespace Go.Proofs.Ytinchhahcheadaa.fnExactAtomColumns
open Go Go.ChangeShapes Go.WideShapes Go.ChangeAt Go.RowKit
open Go.ChangeMaps (open_string shut_string)
open Byt Ints IntsLaw Cd Rows2 Tab TabOpen Atom
theorem walk (n0 : ByteArray) (v0 : Value) (l0 : List Int) (v1 : Value) (l1 : List Int) {w : World} (hs0 : n0.size ≤ maxLen) (hr0 : rowC.rd w (· < w.heap.size) [v0] l0) (hi1 : RI w v1 l1 w.heap.size) (hn1 : InR l1) (_ : World) :
    Calls Try.prog 8 #[.agg #[.string n0, v0], v1] w fun e w' => e = .returned (.bool true) ∧ Below w.heap.size w w' :=
  WalkAtomColumns.walk n0 v0 l0 v1 l1 (QryMath.colsL l0 l1) w hs0 hr0 (Cd.rd_of_ri hi1 (Nat.le_refl _) hn1 fun _ h => h)
    (fun h _ => Nat.le_trans (QryMath.colsTo_len l0 l1 l0.length) (by unfold atWt at h; omega))
    (fun h h2 v0 S0 v1 S1 w' h0 h1 => QrySpec.spec_cols n0 v0 v1 l0 l1 S0 S1 w' h0 h1 (by unfold atWt at h; omega))
    (fun h h2 v0 S0 v1 S1 w' h0 h1 => QrySpec.impl_cols n0 v0 v1 l0 l1 S0 S1 w' h0 h1 (by unfold atWt at h; omega) (by omega))

theorem own : ownKnob Try.prog.godebug = none := by kernel_rfl
theorem laidOut : laidOutB Try.prog = true := by kernel_rfl
theorem cellsInt : Try.prog.cellsOf 3 = 1 := by kernel_rfl
theorem readable : ∀ t ∈ Try.f8.params.toList, Try.prog.readableRec t = true ∧ t < Try.prog.types.size := by
  rw [Try.params8]
  intro t ht
  simp only [List.mem_cons, List.mem_nil_iff, or_false] at ht
  rcases ht with rfl | rfl <;> exact ⟨by kernel_rfl, of_decide_eq_true (by kernel_rfl)⟩
set_option maxRecDepth 100000 in
theorem lifted (os : Os) (started : os.Started) (H : Type) (enc : TypeId × Value → H) :
    ReturnsInHanded {} Try.checked os 8 .any (Rows.fnExactAtomColumnsSpec.pre6 enc Try.prog Try.f8 Rows.fnExactAtomColumnsRow.domain false) (Rows.fnExactAtomColumnsSpec.post enc Try.prog Try.f8 false true false false) := by
  refine returnsInHanded_of_change (C := Try.checked) own started (by kernel_rfl) Try.func8
    (ChangeSpec.witness6 (enc := enc) (C := Try.checked) false ⟨#[], #[.agg #[.string .empty, .slice none 0 0], .slice none 0 0], []⟩ 8 (by kernel_rfl) (by kernel_rfl) (by kernel_rfl) (by kernel_rfl)) ?_
  intro W base args ds gs before hval0 hW hcnd _
  have hval : ∀ (j : Nat) t v, Try.f8.params[j]? = some t → args[j]? = some v → Value.okWide Try.prog W .any base t v := hval0
  have hW' := hW
  obtain ⟨p, q, hA0, hV, rfl, hfz, hnd⟩ := hW
  have hA : DataW.TrodAll enc Try.prog W 0 (fun _ => true) true Try.f8.params.toList args.toList ds p := hA0
  rw [Try.params8] at hA hval
  obtain ⟨v0, vs0, d0, ds0, p0, q0, hargs, rfl, rfl, h0, r0⟩ := trodAll_cons hA
  obtain ⟨v1, vs1, d1, ds1, p1, q1, rfl, rfl, rfl, h1, r1⟩ := trodAll_cons r0
  obtain ⟨rfl, rfl, rfl⟩ := trodAll_nil r1
  obtain rfl : args = #[v0, v1] := by cases args; simp_all
  obtain ⟨rfl, rfl⟩ := trodVars_none hV
  obtain ⟨qn0, qu0, ql0, rfl, qs0, qw0⟩ := Atom.open_atom (hval 0 55 v0 rfl rfl) h0
  obtain ⟨a1, w1, n1⟩ := Ints.ints_of Try.underlying46 Try.underlying3 cellsInt (hval 1 46 v1 rfl rfl) h1
  clear hA0 hval0
  refine (walk qn0 qu0 ql0 v1 a1 qs0 qw0 w1 n1 W).mono fun e W' ⟨he, hb⟩ => ?_
  subst he
  exact ⟨_, rfl, Law.post_law laidOut readable Try.underlying4 rfl rfl hW' rfl rfl rfl hb⟩

/-- The statement. -/
theorem proved : Rows.FnExactAtomColumnsSaid :=
  OpenClaim.holds_of_wide 8 Try.f8 rfl rfl rfl rfl rfl rfl rfl ⟨rfl, rfl, rfl, rfl, rfl⟩ rfl rfl rfl rfl rfl (by kernel_rfl) Try.func8 (by kernel_rfl)
    (of_decide_eq_true (by kernel_rfl)) (by unfold Func.isWrapper; first | (rw [if_pos (by decide +kernel)]; kernel_rfl) | (rw [if_neg (by decide +kernel)]; exact ⟨rfl, rfl⟩))
    (fun os started H enc _ => lifted os started H enc)
end Go.Proofs.Ytinchhahcheadaa.fnExactAtomColumns
