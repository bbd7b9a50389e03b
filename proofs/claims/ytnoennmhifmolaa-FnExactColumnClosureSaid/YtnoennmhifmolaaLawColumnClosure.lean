/- The law FnExactColumnClosure holds at every argument: the call returns true and changes no argument. -/
import Derived.Test.YtnoennmhifmolaaRows
import Derived.Test.YtnoennmhifmolaaLaw
import Derived.Test.YtnoennmhifmolaaDepImp5
import Derived.Test.YtnoennmhifmolaaMkDep
import Derived.Test.YtnoennmhifmolaaWalkColumnClosure
namespace Go.Proofs.Ytnoennmhifmolaa.fnExactColumnClosure
open Go Go.ChangeShapes Go.WideShapes Go.ChangeAt Go.RowKit
open Go.ChangeMaps (open_string shut_string)
open Byt Ints IntsLaw Cd Rows2 Tab Dep MkDep
theorem clo_len (l : List D3) (nm : ByteArray) (cols : List Int) : (DepMath.clo l nm cols).length ≤ 1048577 := by
  have := DepClo.vars_len0 _ (DepMath.clo_lt (l := l) (nm := nm) (DepMath.mskC_lt cols))
  unfold DepMath.clo
  omega
theorem walk (v0 : Value) (l0 : List D3) (a1 : ByteArray) (v2 : Value) (l2 : List Int) {w : World} (hr0 : depsC.rd w (· < w.heap.size) [v0] l0) (hs1 : a1.size ≤ maxLen) (hr2 : RI w v2 l2 w.heap.size) (hn2 : InR l2) (_ : World) :
    Calls Try.prog 6 #[v0, .string a1, v2] w fun e w' => e = .returned (.bool true) ∧ Below w.heap.size w w' :=
  WalkColumnClosure.walk v0 l0 a1 v2 l2 (DepMath.clo l0 a1 l2) w hr0 hs1 (Cd.rd_of_ri hr2 (Nat.le_refl _) hn2 fun _ h => h)
    (fun _ _ _ => clo_len l0 a1 l2)
    (fun _ _ _ v0 S0 v2 S2 w' h0 h2 => DepClo.spec_clo v0 v2 l0 a1 l2 S0 S2 w' h0 h2)
    (fun _ _ _ v0 S0 v2 S2 w' h0 h2 => DepClo.impl_clo v0 v2 l0 a1 l2 S0 S2 w' h0 h2)

theorem own : ownKnob Try.prog.godebug = none := by kernel_rfl
theorem laidOut : laidOutB Try.prog = true := by kernel_rfl
theorem cellsInt : Try.prog.cellsOf 3 = 1 := by kernel_rfl
theorem readable : ∀ t ∈ Try.f6.params.toList, Try.prog.readableRec t = true ∧ t < Try.prog.types.size := by
  rw [Try.params6]
  intro t ht
  simp only [List.mem_cons, List.mem_nil_iff, or_false] at ht
  rcases ht with rfl | rfl | rfl <;> exact ⟨by kernel_rfl, of_decide_eq_true (by kernel_rfl)⟩
set_option maxRecDepth 100000 in
theorem lifted (os : Os) (started : os.Started) (H : Type) (enc : TypeId × Value → H) :
    ReturnsInHanded {} Try.checked os 6 .any (Rows.fnExactColumnClosureSpec.pre6 enc Try.prog Try.f6 Rows.fnExactColumnClosureRow.domain false) (Rows.fnExactColumnClosureSpec.post enc Try.prog Try.f6 false true false false) := by
  refine returnsInHanded_of_change (C := Try.checked) own started (by kernel_rfl) Try.func6
    (ChangeSpec.witness6 (enc := enc) (C := Try.checked) false ⟨#[], #[.slice none 0 0, .string .empty, .slice none 0 0], []⟩ 8 (by kernel_rfl) (by kernel_rfl) (by kernel_rfl) (by kernel_rfl)) ?_
  intro W base args ds gs before hval0 hW hcnd _
  have hval : ∀ (j : Nat) t v, Try.f6.params[j]? = some t → args[j]? = some v → Value.okWide Try.prog W .any base t v := hval0
  have hW' := hW
  obtain ⟨p, q, hA0, hV, rfl, hfz, hnd⟩ := hW
  have hA : DataW.TrodAll enc Try.prog W 0 (fun _ => true) true Try.f6.params.toList args.toList ds p := hA0
  rw [Try.params6] at hA hval
  obtain ⟨v0, vs0, d0, ds0, p0, q0, hargs, rfl, rfl, h0, r0⟩ := trodAll_cons hA
  obtain ⟨v1, vs1, d1, ds1, p1, q1, rfl, rfl, rfl, h1, r1⟩ := trodAll_cons r0
  obtain ⟨v2, vs2, d2, ds2, p2, q2, rfl, rfl, rfl, h2, r2⟩ := trodAll_cons r1
  obtain ⟨rfl, rfl, rfl⟩ := trodAll_nil r2
  obtain rfl : args = #[v0, v1, v2] := by cases args; simp_all
  obtain ⟨rfl, rfl⟩ := trodVars_none hV
  obtain ⟨a0, w0⟩ := TabOpen.open_sl Try.underlying45 MkDep.fits_deps (hval 0 45 v0 rfl rfl) h0
  obtain ⟨a1, rfl, rfl, rfl, w1⟩ := open_string Try.underlying9 (hval 1 9 v1 rfl rfl) h1
  obtain ⟨a2, w2, n2⟩ := Ints.ints_of Try.underlying25 Try.underlying3 cellsInt (hval 2 25 v2 rfl rfl) h2
  clear hA0 hval0
  refine (walk v0 a0 a1 v2 a2 w0 w1 w2 n2 W).mono fun e W' ⟨he, hb⟩ => ?_
  subst he
  exact ⟨_, rfl, Law.post_law laidOut readable Try.underlying4 rfl rfl hW' rfl rfl rfl hb⟩

/-- The statement. -/
theorem proved : Rows.FnExactColumnClosureSaid :=
  OpenClaim.holds_of_wide 6 Try.f6 rfl rfl rfl rfl rfl rfl rfl ⟨rfl, rfl, rfl, rfl, rfl⟩ rfl rfl rfl rfl rfl (by kernel_rfl) Try.func6 (by kernel_rfl)
    (of_decide_eq_true (by kernel_rfl)) (by unfold Func.isWrapper; first | (rw [if_pos (by decide +kernel)]; kernel_rfl) | (rw [if_neg (by decide +kernel)]; exact ⟨rfl, rfl⟩))
    (fun os started H enc _ => lifted os started H enc)
end Go.Proofs.Ytnoennmhifmolaa.fnExactColumnClosure
