/- The law FnExactEvaluateQuery holds at every argument: the call returns true and changes no argument. -/
import Derived.Test.YtdkhgeknjekkoaaGreatRows
import Derived.Test.YtdkhgeknjekkoaaGreatLaw
import Derived.Test.YtdkhgeknjekkoaaGreatMg6EvaluateQuery
import Derived.Test.YtdkhgeknjekkoaaGreatMg7EvaluateQuery
namespace Go.Proofs.YtdkhgeknjekkoaaGreat.fnExactEvaluateQuery
open Go Go.ChangeShapes Go.WideShapes Go.ChangeAt Go.RowKit
open Go.ChangeMaps (open_string shut_string)
open Byt Ints IntsLaw Cd Rows2 Tab TabOpen TabElem Db Atom MkAtom Qry
theorem name_le {l : List A2} {A : A2} (h : A ∈ l) : A.1.size ≤ SlAtom.wtS l := by
  obtain ⟨k, hk, rfl⟩ := List.getElem_of_mem h
  have h1 := SlMath.sumN_mem wtA hk
  have h2 : (l[k]).1.size ≤ wtA l[k] := by unfold wtA atWt; omega
  unfold SlAtom.wtS
  omega

theorem flat_le : ∀ (l : List (List Int)) (c : Nat), (∀ r ∈ l, r.length ≤ c) → l.flatten.length ≤ l.length * c
  | [], _, _ => by simp
  | r :: rs, c, h => by
    have h1 := flat_le rs c fun x hx => h x (List.mem_cons.2 (.inr hx))
    have h2 := h r (List.mem_cons.2 (.inl rfl))
    rw [List.flatten_cons, List.length_append, List.length_cons, Nat.add_mul]
    omega
theorem ev_small (d : List T3) (n m : Int) (l : List A2) : (AnsQ.evV d n l m).length + (AnsQ.evR d n l m).flatten.length ≤ 1048577 := by
  have h1 : (AnsQ.evV d n l m).length ≤ 4 := by
    unfold AnsQ.evV
    split
    · exact AnsQ.varsL_len _
    · simp
  have h2 := flat_le (AnsQ.evR d n l m) 4 fun r hr => by
    unfold AnsQ.evR at hr
    split at hr
    · obtain ⟨s, hs, _, e, _⟩ := (AnsMath.mem_walkL _ _ _).1 hr
      rw [e, List.nil_append, hs]
      exact AnsQ.varsL_len _
    · cases hr
  have h3 := AnsQ.ev_len d n m l
  omega

theorem walk (v0 : Value) (l0 : List T3) (r1 : Int) (v1 : Value) (l1 : List A2) {w : World} (hr0 : tabsC.rd w (· < w.heap.size) [v0] l0) (_ : -9223372036854775808 ≤ r1 ∧ r1 ≤ 9223372036854775807) (hr1 : atomsC.rd w (· < w.heap.size) [v1] l1) (_ : World) :
    Calls Tryz.prog 5 #[.agg #[v0], .agg #[.int .i64 r1, v1]] w fun e w' => e = .returned (.bool true) ∧ Below w.heap.size w w' :=
  WalkEvaluateQuery.walk v0 l0 r1 v1 l1 (AnsQ.evV l0 r1 l1 (QgMath.fm r1 l1)) (AnsQ.evR l0 r1 l1 (QgMath.fm r1 l1)) (AnsQ.evOk l0 r1 l1 (QgMath.fm r1 l1)) w hr0 hr1
    (fun _ _ => ev_small l0 r1 _ l1)
    (fun h _ v0 S0 v1 S1 w' h0 h1 => AnsEv.spec_all v0 v1 l0 r1 l1 S0 S1 w' h0 h1 (by omega))
    (fun h h2 v0 S0 v1 S1 w' h0 h1 => AnsEv.impl_all v0 v1 l0 r1 l1 S0 S1 w' h0 h1 (by omega) (fun A hA => Nat.le_trans (name_le hA) h2))

theorem own : ownKnob Tryz.prog.godebug = none := by kernel_rfl
theorem laidOut : laidOutB Tryz.prog = true := by kernel_rfl
theorem readable : ∀ t ∈ Tryz.f5.params.toList, Tryz.prog.readableRec t = true ∧ t < Tryz.prog.types.size := by
  rw [Tryz.params5]
  intro t ht
  simp only [List.mem_cons, List.mem_nil_iff, or_false] at ht
  rcases ht with rfl | rfl <;> exact ⟨by kernel_rfl, of_decide_eq_true (by kernel_rfl)⟩
set_option maxRecDepth 100000 in
theorem lifted (os : Os) (started : os.Started) (H : Type) (enc : TypeId × Value → H) :
    ReturnsInHanded {} Tryz.checked os 5 .any (Rows.fnExactEvaluateQuerySpec.pre6 enc Tryz.prog Tryz.f5 Rows.fnExactEvaluateQueryRow.domain false) (Rows.fnExactEvaluateQuerySpec.post enc Tryz.prog Tryz.f5 false true false false) := by
  refine returnsInHanded_of_change (C := Tryz.checked) own started (by kernel_rfl) Tryz.func5
    (ChangeSpec.witness6 (enc := enc) (C := Tryz.checked) false ⟨#[], #[.agg #[.slice none 0 0], .agg #[.int .i64 0, .slice none 0 0]], []⟩ 8 (by kernel_rfl) (by kernel_rfl) (by kernel_rfl) (by kernel_rfl)) ?_
  intro W base args ds gs before hval0 hW hcnd _
  have hval : ∀ (j : Nat) t v, Tryz.f5.params[j]? = some t → args[j]? = some v → Value.okWide Tryz.prog W .any base t v := hval0
  have hW' := hW
  obtain ⟨p, q, hA0, hV, rfl, hfz, hnd⟩ := hW
  have hA : DataW.TrodAll enc Tryz.prog W 0 (fun _ => true) true Tryz.f5.params.toList args.toList ds p := hA0
  rw [Tryz.params5] at hA hval
  obtain ⟨v0, vs0, d0, ds0, p0, q0, hargs, rfl, rfl, h0, r0⟩ := trodAll_cons hA
  obtain ⟨v1, vs1, d1, ds1, p1, q1, rfl, rfl, rfl, h1, r1⟩ := trodAll_cons r0
  obtain ⟨rfl, rfl, rfl⟩ := trodAll_nil r1
  obtain rfl : args = #[v0, v1] := by cases args; simp_all
  obtain ⟨rfl, rfl⟩ := trodVars_none hV
  obtain ⟨dv0, dl0, rfl, dr0⟩ := DbOpen.open_db (hval 0 56 v0 rfl rfl) h0
  obtain ⟨qn1, qu1, ql1, rfl, qb1, qw1⟩ := Qry.open_q (hval 1 59 v1 rfl rfl) h1
  clear hA0 hval0
  refine (walk dv0 dl0 qn1 qu1 ql1 dr0 qb1 qw1 W).mono fun e W' ⟨he, hb⟩ => ?_
  subst he
  exact ⟨_, rfl, Law.post_law laidOut readable Tryz.underlying4 rfl rfl hW' rfl rfl rfl hb⟩

/-- The statement. -/
theorem proved : Rows.FnExactEvaluateQuerySaid :=
  OpenClaim.holds_of_wide 5 Tryz.f5 rfl rfl rfl rfl rfl rfl rfl ⟨rfl, rfl, rfl, rfl, rfl⟩ rfl rfl rfl rfl rfl (by kernel_rfl) Tryz.func5 (by kernel_rfl)
    (of_decide_eq_true (by kernel_rfl)) (by unfold Func.isWrapper; first | (rw [if_pos (by decide +kernel)]; kernel_rfl) | (rw [if_neg (by decide +kernel)]; exact ⟨rfl, rfl⟩))
    (fun os started H enc _ => lifted os started H enc)
end Go.Proofs.YtdkhgeknjekkoaaGreat.fnExactEvaluateQuery
