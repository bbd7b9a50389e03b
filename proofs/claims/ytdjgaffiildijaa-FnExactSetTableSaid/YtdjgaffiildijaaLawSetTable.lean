/- The law FnExactSetTable holds at every argument: the call returns true and changes no argument. -/
import Derived.Test.YtdjgaffiildijaaRows
import Derived.Test.YtdjgaffiildijaaLaw
import Derived.Test.YtdjgaffiildijaaDbOpen
import Derived.Test.YtdjgaffiildijaaDbImp6
import Derived.Test.YtdjgaffiildijaaDbSet
import Derived.Test.YtdjgaffiildijaaWalkSetTable
namespace Go.Proofs.Ytdjgaffiildijaa.fnExactSetTable
open Go Go.ChangeShapes Go.WideShapes Go.ChangeAt Go.RowKit
open Go.ChangeMaps (open_string shut_string)
open Byt Ints IntsLaw Cd Rows2 Tab SlMath TabOpen TabElem Mark SlTable Db DbMath DbImp
theorem tab_rd {w : World} {S : Nat → Prop} {nm : ByteArray} {ar : Int} {u : Value} {rows : List (List Int)} (h : rowsC.rd w S [u] rows) (hs : nm.size ≤ maxLen) (ha : -9223372036854775808 ≤ ar ∧ ar ≤ 9223372036854775807) : tabC.rd w S [.string nm, .int .i64 ar, u] (nm, ar, rows) :=
  ⟨[.string nm], [.int .i64 ar, u], rfl, ⟨rfl, hs⟩, ⟨[.int .i64 ar], [u], rfl, ⟨rfl, ha⟩, h⟩⟩
theorem sum_put (f : T3 → Nat) (T : T3) : ∀ (l : List T3), sumN f (putL T l) ≤ f T + sumN f l
  | [] => by simp [putL, sumN]
  | U :: l => by
    have ih := sum_put f T l
    show sumN f (if ltB U.1 T.1 = true then U :: putL T l else if U.1 = T.1 then T :: l else T :: U :: l) ≤ _
    rw [sumN_cons]
    split
    · rw [sumN_cons]; omega
    · split
      · rw [sumN_cons]; omega
      · rw [sumN_cons, sumN_cons]; omega
theorem set_cnts {l : List T3} {T : T3} (h : wtS l ≤ 1048576) (ht : wtT T ≤ 1048576) : sumN cntT (setL l T) ≤ 4194308 ∧ ∀ U ∈ setL l T, U.2.2.flatten.length ≤ 1048577 := by
  have h0 := DbExact.cnts_of h
  unfold setL
  split
  · rename_i hk
    have hv : dbOk l = true := by
      unfold setOk at hk
      simp only [Bool.and_eq_true] at hk
      exact hk.1.1
    have ha := (dbOk_iff.1 hv).2.2
    have h1 := sum_put cntT T l
    have h2 := DbExact.cnt_le l
    have h3 : cntT T ≤ 2 + wtT T := by unfold cntT wtT tabWt rowsWt; omega
    refine ⟨by omega, fun U hU => ?_⟩
    rcases (mem_putL ha).1 hU with q | q
    · rw [q]
      have : T.2.2.flatten.length ≤ wtT T := by unfold wtT tabWt rowsWt; omega
      omega
    · exact h0.2 U q.1
  · exact h0
theorem walk (v0 : Value) (l0 : List T3) (n1 : ByteArray) (r1 : Int) (v1 : Value) (l1 : List (List Int)) {w : World} (hr0 : tabsC.rd w (· < w.heap.size) [v0] l0) (hs1 : n1.size ≤ maxLen) (hb1 : -9223372036854775808 ≤ r1 ∧ r1 ≤ 9223372036854775807) (hr1 : rowsC.rd w (· < w.heap.size) [v1] l1) (_ : World) :
    Calls Try.prog 14 #[.agg #[v0], .agg #[.string n1, .int .i64 r1, v1]] w fun e w' => e = .returned (.bool true) ∧ Below w.heap.size w w' :=
  WalkSetTable.walk v0 l0 n1 r1 v1 l1 (setL l0 (n1, r1, l1)) (setOk l0 (n1, r1, l1)) w hr0 hs1 hr1
    (fun h h2 => set_cnts h h2)
    (fun h h2 v0 S0 v1 S1 w' h0 h1 => by
      obtain ⟨a, c, rfl, _⟩ := rows_form h1
      exact DbAcc.spec_set v0 l0 (n1, r1, l1) a c S0 S1 w' h0 (tab_rd h1 hs1 hb1) (by omega) (Nat.le_trans h2 (by omega)))
    (fun h h2 v0 S0 v1 S1 w' h0 h1 => by
      obtain ⟨a, c, rfl, _⟩ := rows_form h1
      exact impl_set v0 l0 (n1, r1, l1) a c S0 S1 w' h0 (tab_rd h1 hs1 hb1) (by omega) (Nat.le_trans h2 (by omega)))

theorem own : ownKnob Try.prog.godebug = none := by kernel_rfl
theorem laidOut : laidOutB Try.prog = true := by kernel_rfl
theorem readable : ∀ t ∈ Try.f14.params.toList, Try.prog.readableRec t = true ∧ t < Try.prog.types.size := by
  rw [Try.params14]
  intro t ht
  simp only [List.mem_cons, List.mem_nil_iff, or_false] at ht
  rcases ht with rfl | rfl <;> exact ⟨by kernel_rfl, of_decide_eq_true (by kernel_rfl)⟩
set_option maxRecDepth 100000 in
theorem lifted (os : Os) (started : os.Started) (H : Type) (enc : TypeId × Value → H) :
    ReturnsInHanded {} Try.checked os 14 .any (Rows.fnExactSetTableSpec.pre6 enc Try.prog Try.f14 Rows.fnExactSetTableRow.domain false) (Rows.fnExactSetTableSpec.post enc Try.prog Try.f14 false true false false) := by
  refine returnsInHanded_of_change (C := Try.checked) own started (by kernel_rfl) Try.func14
    (ChangeSpec.witness6 (enc := enc) (C := Try.checked) false ⟨#[], #[.agg #[.slice none 0 0], .agg #[.string .empty, .int .i64 0, .slice none 0 0]], []⟩ 8 (by kernel_rfl) (by kernel_rfl) (by kernel_rfl) (by kernel_rfl)) ?_
  intro W base args ds gs before hval0 hW hcnd _
  have hval : ∀ (j : Nat) t v, Try.f14.params[j]? = some t → args[j]? = some v → Value.okWide Try.prog W .any base t v := hval0
  have hW' := hW
  obtain ⟨p, q, hA0, hV, rfl, hfz, hnd⟩ := hW
  have hA : DataW.TrodAll enc Try.prog W 0 (fun _ => true) true Try.f14.params.toList args.toList ds p := hA0
  rw [Try.params14] at hA hval
  obtain ⟨v0, vs0, d0, ds0, p0, q0, hargs, rfl, rfl, h0, r0⟩ := trodAll_cons hA
  obtain ⟨v1, vs1, d1, ds1, p1, q1, rfl, rfl, rfl, h1, r1⟩ := trodAll_cons r0
  obtain ⟨rfl, rfl, rfl⟩ := trodAll_nil r1
  obtain rfl : args = #[v0, v1] := by cases args; simp_all
  obtain ⟨rfl, rfl⟩ := trodVars_none hV
  obtain ⟨dv0, dl0, rfl, dr0⟩ := DbOpen.open_db (hval 0 48 v0 rfl rfl) h0
  obtain ⟨tn1, tr1, tu1, tl1, rfl, ts1, tb1, tw1⟩ := TabOpen.open_table (hval 1 24 v1 rfl rfl) h1
  clear hA0 hval0
  refine (walk dv0 dl0 tn1 tr1 tu1 tl1 dr0 ts1 tb1 tw1 W).mono fun e W' ⟨he, hb⟩ => ?_
  subst he
  exact ⟨_, rfl, Law.post_law laidOut readable Try.underlying4 rfl rfl hW' rfl rfl rfl hb⟩

/-- The statement. -/
theorem proved : Rows.FnExactSetTableSaid :=
  OpenClaim.holds_of_wide 14 Try.f14 rfl rfl rfl rfl rfl rfl rfl ⟨rfl, rfl, rfl, rfl, rfl⟩ rfl rfl rfl rfl rfl (by kernel_rfl) Try.func14 (by kernel_rfl)
    (of_decide_eq_true (by kernel_rfl)) (by unfold Func.isWrapper; first | (rw [if_pos (by decide +kernel)]; kernel_rfl) | (rw [if_neg (by decide +kernel)]; exact ⟨rfl, rfl⟩))
    (fun os started H enc _ => lifted os started H enc)
end Go.Proofs.Ytdjgaffiildijaa.fnExactSetTable
