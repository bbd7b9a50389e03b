/- The law FnExactGroupCounts holds at every argument: the call returns true and changes no argument. -/
import Derived.Test.YtnjomgefmoehhaaRows
import Derived.Test.YtnjomgefmoehhaaLaw
import Derived.Test.YtnjomgefmoehhaaDegImp5
import Derived.Test.YtnjomgefmoehhaaWalkGroupCounts
import Derived.Test.YtnjomgefmoehhaaTabOpen
namespace Go.Proofs.Ytnjomgefmoehhaa.fnExactGroupCounts
open Go Go.ChangeShapes Go.WideShapes Go.ChangeAt Go.RowKit
open Go.ChangeMaps (open_string shut_string)
open Byt Ints IntsLaw Cd Rows2 Tab TabSpec DegMath DegSpec
theorem gc_w0 (nm : ByteArray) (ar : Int) (rows : List (List Int)) (cols : List Int) : (gcV nm ar rows cols).flatten.length ≤ 1048577 := by
  have h8 := gcV_len (nm := nm) (ar := ar) (rows := rows) (cols := cols)
  have h3 := flat_le3 (gcV nm ar rows cols) fun r hr => by
    unfold gcV at hr
    split at hr
    · rename_i h
      obtain ⟨q, _, rfl⟩ := xsT_mem (valL_mem.1 hr)
      rw [DegSpec.sel_len]
      exact col_len (gc_rows h).2 (gc_rows h).1.2.2.1
    · cases hr
  omega
theorem gc_w1 (nm : ByteArray) (ar : Int) (rows : List (List Int)) (cols : List Int) : (gcN nm ar rows cols).length ≤ 1048577 := by
  have h8 := gcV_len (nm := nm) (ar := ar) (rows := rows) (cols := cols)
  rw [← gc_len] at h8
  omega
theorem walk (n0 : ByteArray) (r0 : Int) (v0 : Value) (l0 : List (List Int)) (v1 : Value) (l1 : List Int) {w : World} (hs0 : n0.size ≤ maxLen) (_ : -9223372036854775808 ≤ r0 ∧ r0 ≤ 9223372036854775807) (hr0 : rowsC.rd w (· < w.heap.size) [v0] l0) (hr1 : RI w v1 l1 w.heap.size) (hn1 : InR l1) (_ : World) :
    Calls Try.prog 4 #[.agg #[.string n0, .int .i64 r0, v0], v1] w fun e w' => e = .returned (.bool true) ∧ Below w.heap.size w w' :=
  WalkGroupCounts.walk n0 r0 v0 l0 v1 l1 (gcV n0 r0 l0 l1) (gcN n0 r0 l0 l1) w hs0 hr0 (Cd.rd_of_ri hr1 (Nat.le_refl _) hn1 fun _ h => h)
    (fun _ _ => gc_w0 n0 r0 l0 l1) (fun _ _ => gc_w1 n0 r0 l0 l1)
    (fun _ _ v0 S0 v1 S1 w' h0 h1 => (DegSpec.spec_groups n0 r0 v0 v1 l0 l1 S0 S1 w' h0 h1).mono (fun _ _ ⟨u0, u1, f0, f1, he, o0, o1, n0, n1, hd, hb⟩ => ⟨u0, f0, u1, f1, he, o0, n0, o1, n1, hd, hb⟩))
    (fun _ _ v0 S0 v1 S1 w' h0 h1 => (DegImp.impl_groups n0 r0 v0 v1 l0 l1 S0 S1 w' h0 h1).mono (fun _ _ ⟨u0, u1, f0, f1, he, o0, o1, n0, n1, hd, hb⟩ => ⟨u0, f0, u1, f1, he, o0, n0, o1, n1, hd, hb⟩))

theorem own : ownKnob Try.prog.godebug = none := by kernel_rfl
theorem laidOut : laidOutB Try.prog = true := by kernel_rfl
theorem cellsInt : Try.prog.cellsOf 3 = 1 := by kernel_rfl
theorem readable : ∀ t ∈ Try.f4.params.toList, Try.prog.readableRec t = true ∧ t < Try.prog.types.size := by
  rw [Try.params4]
  intro t ht
  simp only [List.mem_cons, List.mem_nil_iff, or_false] at ht
  rcases ht with rfl | rfl <;> exact ⟨by kernel_rfl, of_decide_eq_true (by kernel_rfl)⟩
set_option maxRecDepth 100000 in
theorem lifted (os : Os) (started : os.Started) (H : Type) (enc : TypeId × Value → H) :
    ReturnsInHanded {} Try.checked os 4 .any (Rows.fnExactGroupCountsSpec.pre6 enc Try.prog Try.f4 Rows.fnExactGroupCountsRow.domain false) (Rows.fnExactGroupCountsSpec.post enc Try.prog Try.f4 false true false false) := by
  refine returnsInHanded_of_change (C := Try.checked) own started (by kernel_rfl) Try.func4
    (ChangeSpec.witness6 (enc := enc) (C := Try.checked) false ⟨#[], #[.agg #[.string .empty, .int .i64 0, .slice none 0 0], .slice none 0 0], []⟩ 8 (by kernel_rfl) (by kernel_rfl) (by kernel_rfl) (by kernel_rfl)) ?_
  intro W base args ds gs before hval0 hW hcnd _
  have hval : ∀ (j : Nat) t v, Try.f4.params[j]? = some t → args[j]? = some v → Value.okWide Try.prog W .any base t v := hval0
  have hW' := hW
  obtain ⟨p, q, hA0, hV, rfl, hfz, hnd⟩ := hW
  have hA : DataW.TrodAll enc Try.prog W 0 (fun _ => true) true Try.f4.params.toList args.toList ds p := hA0
  rw [Try.params4] at hA hval
  obtain ⟨v0, vs0, d0, ds0, p0, q0, hargs, rfl, rfl, h0, r0⟩ := trodAll_cons hA
  obtain ⟨v1, vs1, d1, ds1, p1, q1, rfl, rfl, rfl, h1, r1⟩ := trodAll_cons r0
  obtain ⟨rfl, rfl, rfl⟩ := trodAll_nil r1
  obtain rfl : args = #[v0, v1] := by cases args; simp_all
  obtain ⟨rfl, rfl⟩ := trodVars_none hV
  obtain ⟨tn0, tr0, tu0, tl0, rfl, ts0, tb0, tw0⟩ := TabOpen.open_table (hval 0 40 v0 rfl rfl) h0
  obtain ⟨a1, w1, n1⟩ := Ints.ints_of Try.underlying27 Try.underlying3 cellsInt (hval 1 27 v1 rfl rfl) h1
  clear hA0 hval0
  refine (walk tn0 tr0 tu0 tl0 v1 a1 ts0 tb0 tw0 w1 n1 W).mono fun e W' ⟨he, hb⟩ => ?_
  subst he
  exact ⟨_, rfl, Law.post_law laidOut readable Try.underlying4 rfl rfl hW' rfl rfl rfl hb⟩

/-- The statement. -/
theorem proved : Rows.FnExactGroupCountsSaid :=
  OpenClaim.holds_of_wide 4 Try.f4 rfl rfl rfl rfl rfl rfl rfl ⟨rfl, rfl, rfl, rfl, rfl⟩ rfl rfl rfl rfl rfl (by kernel_rfl) Try.func4 (by kernel_rfl)
    (of_decide_eq_true (by kernel_rfl)) (by unfold Func.isWrapper; first | (rw [if_pos (by decide +kernel)]; kernel_rfl) | (rw [if_neg (by decide +kernel)]; exact ⟨rfl, rfl⟩))
    (fun os started H enc _ => lifted os started H enc)
end Go.Proofs.Ytnjomgefmoehhaa.fnExactGroupCounts
