/- The law FnExactMinimalKeys holds at every argument: the call returns true and changes no argument. -/
import Derived.Test.YtnoennmhifmolaaRows
import Derived.Test.YtnoennmhifmolaaLaw
import Derived.Test.YtnoennmhifmolaaDepImp5
import Derived.Test.YtnoennmhifmolaaMkDep
import Derived.Test.YtnoennmhifmolaaWalkMinimalKeys
namespace Go.Proofs.Ytnoennmhifmolaa.fnExactMinimalKeys
open Go Go.ChangeShapes Go.WideShapes Go.ChangeAt Go.RowKit
open Go.ChangeMaps (open_string shut_string)
open Byt Ints IntsLaw Cd Rows2 Tab Dep MkDep
theorem flat_le : ∀ (l : List (List Int)), (∀ r ∈ l, r.length ≤ 3) → l.flatten.length ≤ 3 * l.length
  | [], _ => by simp
  | r :: l, h => by
    have h1 := flat_le l fun x hx => h x (List.mem_cons_of_mem _ hx)
    have h2 := h r List.mem_cons_self
    rw [List.flatten_cons, List.length_append, List.length_cons]
    omega
theorem min_flat (l : List D3) (nm : ByteArray) (ar : Int) (rows : List (List Int)) : (DepMath.minL l nm ar rows).flatten.length ≤ 1048577 := by
  unfold DepMath.minL
  split
  case isFalse => simp
  case isTrue ht =>
    have hT : TabSpec.TabP _ _ _ := of_decide_eq_true ht
    have hp := DepMath.pow_ar (ar := ar) hT.2.2.1
    have h1 := DepMath.minTo_len (DepMath.keyM l nm ar) (2 ^ ar.toNat)
    have h2 := flat_le ((DepMath.minTo (DepMath.keyM l nm ar) (2 ^ ar.toNat)).map QryMath.varsL) fun r hr => by
      obtain ⟨m, hm, rfl⟩ := List.mem_map.1 hr
      exact DepClo.vars_len0 m (by have := (DepMath.mem_minTo.1 hm).1; omega)
    rw [List.length_map] at h2
    omega
theorem walk (v0 : Value) (l0 : List D3) (n1 : ByteArray) (r1 : Int) (v1 : Value) (l1 : List (List Int)) {w : World} (hr0 : depsC.rd w (· < w.heap.size) [v0] l0) (hs1 : n1.size ≤ maxLen) (_ : -9223372036854775808 ≤ r1 ∧ r1 ≤ 9223372036854775807) (hr1 : rowsC.rd w (· < w.heap.size) [v1] l1) (_ : World) :
    Calls Try.prog 8 #[v0, .agg #[.string n1, .int .i64 r1, v1]] w fun e w' => e = .returned (.bool true) ∧ Below w.heap.size w w' :=
  WalkMinimalKeys.walk v0 l0 n1 r1 v1 l1 (DepMath.minL l0 n1 r1 l1) w hr0 hs1 hr1
    (fun _ _ => min_flat l0 n1 r1 l1)
    (fun _ _ v0 S0 v1 S1 w' h0 h1 => DepClo.spec_min v0 v1 l0 n1 r1 l1 S0 S1 w' h0 h1)
    (fun _ _ v0 S0 v1 S1 w' h0 h1 => DepClo.impl_min v0 v1 l0 n1 r1 l1 S0 S1 w' h0 h1)

theorem own : ownKnob Try.prog.godebug = none := by kernel_rfl
theorem laidOut : laidOutB Try.prog = true := by kernel_rfl
theorem readable : ∀ t ∈ Try.f8.params.toList, Try.prog.readableRec t = true ∧ t < Try.prog.types.size := by
  rw [Try.params8]
  intro t ht
  simp only [List.mem_cons, List.mem_nil_iff, or_false] at ht
  rcases ht with rfl | rfl <;> exact ⟨by kernel_rfl, of_decide_eq_true (by kernel_rfl)⟩
set_option maxRecDepth 100000 in
theorem lifted (os : Os) (started : os.Started) (H : Type) (enc : TypeId × Value → H) :
    ReturnsInHanded {} Try.checked os 8 .any (Rows.fnExactMinimalKeysSpec.pre6 enc Try.prog Try.f8 Rows.fnExactMinimalKeysRow.domain false) (Rows.fnExactMinimalKeysSpec.post enc Try.prog Try.f8 false true false false) := by
  refine returnsInHanded_of_change (C := Try.checked) own started (by kernel_rfl) Try.func8
    (ChangeSpec.witness6 (enc := enc) (C := Try.checked) false ⟨#[], #[.slice none 0 0, .agg #[.string .empty, .int .i64 0, .slice none 0 0]], []⟩ 8 (by kernel_rfl) (by kernel_rfl) (by kernel_rfl) (by kernel_rfl)) ?_
  intro W base args ds gs before hval0 hW hcnd _
  have hval : ∀ (j : Nat) t v, Try.f8.params[j]? = some t → args[j]? = some v → Value.okWide Try.prog W .any base t v := hval0
  have hW' := hW
  obtain ⟨p, q, hA0, hV, rfl, hfz, hnd⟩ := hW
  have hA : DataW.TrodAll enc Try.prog W 0 (fun _ => true) true Try.f8.params.toList args.toList ds p := hA0
  rw [Try.params8] at hA hval
  obtain ⟨v0, vs0, d0, ds0, p0, q0, hargs, rfl, rfl, h0, r0⟩ := trodAll_cons hA
  obtain ⟨v1, vs1, d1, ds1, p1, q1, rfl, rfl, rfl, h1, r1⟩ := trodAll_cons r0
  obtain ⟨rfl, rfl, rfl⟩ := trodAll_nil r1
  obtain rfl : args = #[v0, v1] := by cases args; simp_all
  obtain ⟨rfl, rfl⟩ := trodVars_none hV
  obtain ⟨a0, w0⟩ := TabOpen.open_sl Try.underlying45 MkDep.fits_deps (hval 0 45 v0 rfl rfl) h0
  obtain ⟨tn1, tr1, tu1, tl1, rfl, ts1, tb1, tw1⟩ := TabOpen.open_table (hval 1 56 v1 rfl rfl) h1
  clear hA0 hval0
  refine (walk v0 a0 tn1 tr1 tu1 tl1 w0 ts1 tb1 tw1 W).mono fun e W' ⟨he, hb⟩ => ?_
  subst he
  exact ⟨_, rfl, Law.post_law laidOut readable Try.underlying4 rfl rfl hW' rfl rfl rfl hb⟩

/-- The statement. -/
theorem proved : Rows.FnExactMinimalKeysSaid :=
  OpenClaim.holds_of_wide 8 Try.f8 rfl rfl rfl rfl rfl rfl rfl ⟨rfl, rfl, rfl, rfl, rfl⟩ rfl rfl rfl rfl rfl (by kernel_rfl) Try.func8 (by kernel_rfl)
    (of_decide_eq_true (by kernel_rfl)) (by unfold Func.isWrapper; first | (rw [if_pos (by decide +kernel)]; kernel_rfl) | (rw [if_neg (by decide +kernel)]; exact ⟨rfl, rfl⟩))
    (fun os started H enc _ => lifted os started H enc)
end Go.Proofs.Ytnoennmhifmolaa.fnExactMinimalKeys
