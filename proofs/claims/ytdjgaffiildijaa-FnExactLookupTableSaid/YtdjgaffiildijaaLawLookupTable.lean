/- The law FnExactLookupTable holds at every argument: the call returns true and changes no argument. -/
import Derived.Test.YtdjgaffiildijaaRows
import Derived.Test.YtdjgaffiildijaaLaw
import Derived.Test.YtdjgaffiildijaaDbOpen
import Derived.Test.YtdjgaffiildijaaDbImp3
import Derived.Test.YtdjgaffiildijaaWalkLookupTable
namespace Go.Proofs.Ytdjgaffiildijaa.fnExactLookupTable
open Go Go.ChangeShapes Go.WideShapes Go.ChangeAt Go.RowKit
open Go.ChangeMaps (open_string shut_string)
open Byt Ints IntsLaw Cd Rows2 Tab SlMath TabOpen TabElem SlTable Db DbMath DbImp
theorem lk_wt {l : List T3} {s : ByteArray} (h : wtS l ≤ 1048576) : (DbSpec.lkT l s).2.2.flatten.length ≤ 1048577 := by
  cases hl : lookL l s with
  | none => rw [DbSpec.lk_none hl]; simp [DbSpec.zeroT]
  | some T =>
    rw [DbSpec.lk_some hl]
    unfold lookL at hl
    split at hl
    · have h1 := DbExact.rows_le (findN_some hl).1
      omega
    · cases hl
theorem walk (v0 : Value) (l0 : List T3) (a1 : ByteArray) {w : World} (hr0 : tabsC.rd w (· < w.heap.size) [v0] l0) (hs1 : a1.size ≤ maxLen) (_ : World) :
    Calls Try.prog 12 #[.agg #[v0], .string a1] w fun e w' => e = .returned (.bool true) ∧ Below w.heap.size w w' :=
  WalkLookupTable.walk v0 l0 a1 (DbSpec.lkT l0 a1).1 (DbSpec.lkT l0 a1).2.1 (DbSpec.lkT l0 a1).2.2 (lookL l0 a1).isSome w hr0 hs1
    (fun h _ => lk_wt h)
    (fun h _ v0 S0 w' h0 => DbSpec.spec_look v0 l0 a1 S0 w' h0 (by omega))
    (fun h h2 v0 S0 w' h0 => impl_look v0 l0 a1 S0 w' h0 (by omega) h2)

theorem own : ownKnob Try.prog.godebug = none := by kernel_rfl
theorem laidOut : laidOutB Try.prog = true := by kernel_rfl
theorem readable : ∀ t ∈ Try.f12.params.toList, Try.prog.readableRec t = true ∧ t < Try.prog.types.size := by
  rw [Try.params12]
  intro t ht
  simp only [List.mem_cons, List.mem_nil_iff, or_false] at ht
  rcases ht with rfl | rfl <;> exact ⟨by kernel_rfl, of_decide_eq_true (by kernel_rfl)⟩
set_option maxRecDepth 100000 in
theorem lifted (os : Os) (started : os.Started) (H : Type) (enc : TypeId × Value → H) :
    ReturnsInHanded {} Try.checked os 12 .any (Rows.fnExactLookupTableSpec.pre6 enc Try.prog Try.f12 Rows.fnExactLookupTableRow.domain false) (Rows.fnExactLookupTableSpec.post enc Try.prog Try.f12 false true false false) := by
  refine returnsInHanded_of_change (C := Try.checked) own started (by kernel_rfl) Try.func12
    (ChangeSpec.witness6 (enc := enc) (C := Try.checked) false ⟨#[], #[.agg #[.slice none 0 0], .string .empty], []⟩ 8 (by kernel_rfl) (by kernel_rfl) (by kernel_rfl) (by kernel_rfl)) ?_
  intro W base args ds gs before hval0 hW hcnd _
  have hval : ∀ (j : Nat) t v, Try.f12.params[j]? = some t → args[j]? = some v → Value.okWide Try.prog W .any base t v := hval0
  have hW' := hW
  obtain ⟨p, q, hA0, hV, rfl, hfz, hnd⟩ := hW
  have hA : DataW.TrodAll enc Try.prog W 0 (fun _ => true) true Try.f12.params.toList args.toList ds p := hA0
  rw [Try.params12] at hA hval
  obtain ⟨v0, vs0, d0, ds0, p0, q0, hargs, rfl, rfl, h0, r0⟩ := trodAll_cons hA
  obtain ⟨v1, vs1, d1, ds1, p1, q1, rfl, rfl, rfl, h1, r1⟩ := trodAll_cons r0
  obtain ⟨rfl, rfl, rfl⟩ := trodAll_nil r1
  obtain rfl : args = #[v0, v1] := by cases args; simp_all
  obtain ⟨rfl, rfl⟩ := trodVars_none hV
  obtain ⟨dv0, dl0, rfl, dr0⟩ := DbOpen.open_db (hval 0 48 v0 rfl rfl) h0
  obtain ⟨a1, rfl, rfl, rfl, w1⟩ := open_string Try.underlying9 (hval 1 9 v1 rfl rfl) h1
  clear hA0 hval0
  refine (walk dv0 dl0 a1 dr0 w1 W).mono fun e W' ⟨he, hb⟩ => ?_
  subst he
  exact ⟨_, rfl, Law.post_law laidOut readable Try.underlying4 rfl rfl hW' rfl rfl rfl hb⟩

/-- The statement. -/
theorem proved : Rows.FnExactLookupTableSaid :=
  OpenClaim.holds_of_wide 12 Try.f12 rfl rfl rfl rfl rfl rfl rfl ⟨rfl, rfl, rfl, rfl, rfl⟩ rfl rfl rfl rfl rfl (by kernel_rfl) Try.func12 (by kernel_rfl)
    (of_decide_eq_true (by kernel_rfl)) (by unfold Func.isWrapper; first | (rw [if_pos (by decide +kernel)]; kernel_rfl) | (rw [if_neg (by decide +kernel)]; exact ⟨rfl, rfl⟩))
    (fun os started H enc _ => lifted os started H enc)
end Go.Proofs.Ytdjgaffiildijaa.fnExactLookupTable
