/- The law FnExactParseUpdate holds at every argument: the call returns true and changes no argument. -/
import Derived.Test.YtlngbdokgcdeeaaRows
import Derived.Test.YtlngbdokgcdeeaaLaw
import Derived.Test.YtlngbdokgcdeeaaUpdParse2
import Derived.Test.YtlngbdokgcdeeaaWalkParseUpdate
namespace Go.Proofs.Ytlngbdokgcdeeaa.fnExactParseUpdate
open Go Go.ChangeShapes Go.WideShapes Go.ChangeAt Go.RowKit
open Go.ChangeMaps (open_string shut_string)
open Byt Ints IntsLaw Cd Rows2 Tab TabOpen Upd
theorem par_wt (s : ByteArray) (h : s.size ≤ 1048576) : (if UpdParse.uOk s then UpdParse.uR s else []).length ≤ 1048577 := by
  split
  · unfold UpdParse.uR TabParse.vals
    rw [List.length_map, UpdParse.len_s, ByteArray.size_extract]
    omega
  · simp
theorem walk (a0 : ByteArray) {w : World} (hs0 : a0.size ≤ maxLen) (_ : World) :
    Calls Try.prog 7 #[.string a0] w fun e w' => e = .returned (.bool true) ∧ Below w.heap.size w w' :=
  WalkParseUpdate.walk a0 _ _ (if UpdParse.uOk a0 then UpdParse.uR a0 else []) (UpdParse.uOk a0) w hs0
    (fun h => par_wt a0 h)
    (fun h w' => UpdParse.spec_parseu a0 w' h)
    (fun h w' => UpdParse.impl_parseu a0 w' h)

theorem own : ownKnob Try.prog.godebug = none := by kernel_rfl
theorem laidOut : laidOutB Try.prog = true := by kernel_rfl
theorem readable : ∀ t ∈ Try.f7.params.toList, Try.prog.readableRec t = true ∧ t < Try.prog.types.size := by
  rw [Try.params7]
  intro t ht
  simp only [List.mem_cons, List.mem_nil_iff, or_false] at ht
  rcases ht with rfl <;> exact ⟨by kernel_rfl, of_decide_eq_true (by kernel_rfl)⟩
set_option maxRecDepth 100000 in
theorem lifted (os : Os) (started : os.Started) (H : Type) (enc : TypeId × Value → H) :
    ReturnsInHanded {} Try.checked os 7 .any (Rows.fnExactParseUpdateSpec.pre6 enc Try.prog Try.f7 Rows.fnExactParseUpdateRow.domain false) (Rows.fnExactParseUpdateSpec.post enc Try.prog Try.f7 false true false false) := by
  refine returnsInHanded_of_change (C := Try.checked) own started (by kernel_rfl) Try.func7
    (ChangeSpec.witness6 (enc := enc) (C := Try.checked) false ⟨#[], #[.string .empty], []⟩ 8 (by kernel_rfl) (by kernel_rfl) (by kernel_rfl) (by kernel_rfl)) ?_
  intro W base args ds gs before hval0 hW hcnd _
  have hval : ∀ (j : Nat) t v, Try.f7.params[j]? = some t → args[j]? = some v → Value.okWide Try.prog W .any base t v := hval0
  have hW' := hW
  obtain ⟨p, q, hA0, hV, rfl, hfz, hnd⟩ := hW
  have hA : DataW.TrodAll enc Try.prog W 0 (fun _ => true) true Try.f7.params.toList args.toList ds p := hA0
  rw [Try.params7] at hA hval
  obtain ⟨v0, vs0, d0, ds0, p0, q0, hargs, rfl, rfl, h0, r0⟩ := trodAll_cons hA
  obtain ⟨rfl, rfl, rfl⟩ := trodAll_nil r0
  obtain rfl : args = #[v0] := by cases args; simp_all
  obtain ⟨rfl, rfl⟩ := trodVars_none hV
  obtain ⟨a0, rfl, rfl, rfl, w0⟩ := open_string Try.underlying9 (hval 0 9 v0 rfl rfl) h0
  clear hA0 hval0
  refine (walk a0 w0 W).mono fun e W' ⟨he, hb⟩ => ?_
  subst he
  exact ⟨_, rfl, Law.post_law laidOut readable Try.underlying4 rfl rfl hW' rfl rfl rfl hb⟩

/-- The statement. -/
theorem proved : Rows.FnExactParseUpdateSaid :=
  OpenClaim.holds_of_wide 7 Try.f7 rfl rfl rfl rfl rfl rfl rfl ⟨rfl, rfl, rfl, rfl, rfl⟩ rfl rfl rfl rfl rfl (by kernel_rfl) Try.func7 (by kernel_rfl)
    (of_decide_eq_true (by kernel_rfl)) (by unfold Func.isWrapper; first | (rw [if_pos (by decide +kernel)]; kernel_rfl) | (rw [if_neg (by decide +kernel)]; exact ⟨rfl, rfl⟩))
    (fun os started H enc _ => lifted os started H enc)
end Go.Proofs.Ytlngbdokgcdeeaa.fnExactParseUpdate
