/- The law FnExactParseQuery holds at every argument, where strconv's tables lie as their own text lays them (the card ties that to the program): the call returns true and changes no argument. -/
import Derived.Test.YtdjgaffiildijabDoorCards
import Derived.Test.YtdjgaffiildijabDoorTie
import Derived.Test.YtdjgaffiildijabDoorLaw
import Derived.Test.YtdjgaffiildijabDoorQryPar4
import Derived.Test.YtdjgaffiildijabDoorWalkParseQuery
import Derived.Deep.DeepHandedRow
import Derived.Lib.LaidTab
import Derived.Deep.DeepLaidRun
namespace Go.Proofs.YtdjgaffiildijabDoor.fnExactParseQuery
open Go Go.ChangeShapes Go.WideShapes Go.ChangeAt Go.RowKit
open Go.ChangeMaps (open_string shut_string)
open Byt Ints IntsLaw
theorem par_cnt (s : ByteArray) : SlMath.sumN MkAtom.cntA (if QryMath.pOk s then QryMath.pL s else []) ≤ 4194308 ∧ ∀ U ∈ (if QryMath.pOk s then QryMath.pL s else []), U.2.length ≤ 1048577 := by
  cases h : QryMath.pOk s
  · simp [SlMath.sumN]
  · rw [if_pos rfl]
    have hq := QryMath.qOk_iff.1 (QryMath.pOk_iff.1 h).1
    have h3 : ∀ U ∈ QryMath.pL s, U.2.length ≤ 3 := fun U hU => (hq.2.2.2.2.1 U hU).2.2.1
    have h4 := hq.2.2.2.1
    generalize QryMath.pL s = l at *
    have hs : ∀ l : List Atom.A2, (∀ U ∈ l, U.2.length ≤ 3) → SlMath.sumN MkAtom.cntA l ≤ 4 * l.length := by
      intro l
      induction l with
      | nil => intro _; simp [SlMath.sumN]
      | cons U l ih =>
        intro h
        have h1 := ih fun V hV => h V (List.mem_cons_of_mem _ hV)
        have h2 := h U List.mem_cons_self
        rw [SlMath.sumN_cons, List.length_cons]
        have h5 : MkAtom.cntA U = 1 + U.2.length := rfl
        omega
    have h1 := hs l h3
    exact ⟨by omega, fun U hU => by have := h3 U hU; omega⟩
theorem walk (a0 : ByteArray) (hs0 : a0.size ≤ maxLen) {w : World} (ht : QryPar.Ready w) :
    Calls Tryd.prog 6 #[.string a0] w fun e w' => e = .returned (.bool true) ∧ Below w.heap.size w w' :=
  WalkParseQuery.walk a0 _ (if QryMath.pOk a0 then QryMath.pL a0 else []) (QryMath.pOk a0) w hs0
    (fun _ => par_cnt a0)
    (fun h w' _ => QryPar.spec_parse a0 w' h)
    (fun h w' hb => QryPar.impl_parse a0 w' h (QryPar.ready_later ht hb))

theorem own : ownKnob Tryd.prog.godebug = none := by kernel_rfl
theorem laidOut : laidOutB Tryd.prog = true := by kernel_rfl
theorem readable : ∀ t ∈ Tryd.f6.params.toList, Tryd.prog.readableRec t = true ∧ t < Tryd.prog.types.size := by
  rw [Tryd.params6]
  intro t ht
  simp only [List.mem_cons, List.mem_nil_iff, or_false] at ht
  rcases ht with rfl <;> exact ⟨by kernel_rfl, of_decide_eq_true (by kernel_rfl)⟩
theorem laidTail {P : Program} {w : World} {x : String × DataW Unit} {rest : List (String × DataW Unit)} {ps : List MemPlace} (h : DataW.LaidVars P w (x :: rest) ps) : ∃ q, DataW.LaidVars P w rest q := by
  obtain ⟨_, _, _, _, _, q, _, _, _, _, h2, _⟩ := h
  exact ⟨q, h2⟩
theorem ready {W : World} (_ : laidMetH Tryd.prog Rows.fnExactParseQueryRow.laid W) (hsh : W.ShapedOpen Tryd.prog) : QryPar.Ready W := Tryd.laysM145.s1_3 W hsh
set_option maxRecDepth 100000 in
theorem contract (H : Type) (enc : TypeId × Value → H) (W : World) (base : Nat) (args : Array Value) (ds gs : List (DataW H)) (before : List MemPlace)
    (hval0 : ∀ (j : Nat) t v, Tryd.f6.params[j]? = some t → args[j]? = some v → Value.okWide Tryd.prog W .any base t v)
    (hW : DataW.Whole enc Tryd.prog Tryd.f6.params.toList Rows.fnExactParseQuerySpec.vars false W args.toList ds gs before) (hL : laidMetH Tryd.prog Rows.fnExactParseQueryRow.laid W) (hsh : W.ShapedOpen Tryd.prog) :
    Calls Tryd.prog 6 args W fun e W' => ∃ v, e = .returned v ∧ Rows.fnExactParseQuerySpec.post enc Tryd.prog Tryd.f6 false true false false W args v W' := by
  have hval := hval0
  have hW' := hW
  obtain ⟨p, q, hA0, hV, rfl, hfz, hnd⟩ := hW
  have hA : DataW.TrodAll enc Tryd.prog W 0 (fun _ => true) true Tryd.f6.params.toList args.toList ds p := hA0
  rw [Tryd.params6] at hA hval
  obtain ⟨v0, vs0, d0, ds0, p0, q0, hargs, rfl, rfl, h0, r0⟩ := trodAll_cons hA
  obtain ⟨rfl, rfl, rfl⟩ := trodAll_nil r0
  obtain rfl : args = #[v0] := by cases args; simp_all
  obtain ⟨rfl, rfl⟩ := trodVars_none hV
  obtain ⟨a0, rfl, rfl, rfl, w0⟩ := open_string Tryd.underlying9 (hval 0 9 v0 rfl rfl) h0
  refine (walk a0 w0 (w := W) (ready hL hsh)).mono fun e W' ⟨he, hb⟩ => ?_
  subst he
  exact ⟨_, rfl, Law.post_law laidOut readable Tryd.underlying4 rfl rfl hW' rfl rfl rfl hb⟩

/- A world for the witness: the listed variables hold what their own text lays. -/
def cellIn : DataW Unit → List Value
  | .lit (.int k n) => [Value.int k n]
  | .agg qs => qs.map fun | .lit (.int k n) => Value.int k n | _ => undef
  | _ => [undef]
def cellsIn : DataW Unit → Array Value
  | .agg ps => (ps.flatMap cellIn).toArray
  | _ => #[]
def laidIn (d : DataW Unit) : Obj → Obj
  | .cells _ t fr => .cells (cellsIn d) t fr
  | x => x
noncomputable def laidWorld (os : Os) : World :=
  { World.holding Tryd.prog os ⟨#[], #[], []⟩ with heap := (((World.holding Tryd.prog os ⟨#[], #[], []⟩).heap).modify 5 (laidIn Rows.laid_unicode_utf8_acceptRanges)).modify 4 (laidIn Rows.laid_unicode_utf8_first) }
theorem laid_met (os : Os) : laidMet Tryd.prog Rows.fnExactParseQueryRow.laid ((laidWorld os).forCall (fun _ _ => 0) ⟨#[], #[.string .empty], []⟩).memory :=
  laidMet_of_run3 8 (by kernel_rfl) (by kernel_rfl) (by kernel_rfl)
theorem reads (os : Os) {H : Type} (enc : TypeId × Value → H) : ∃ places, DataW.whole enc Tryd.prog ((laidWorld os).forCall (fun _ _ => 0) ⟨#[], #[.string .empty], []⟩).memory Tryd.f6.params.toList Rows.fnExactParseQuerySpec.vars false #[(.string .empty : Value)].toList 8 = some ([.lit (.string [])], [], places) :=
  ⟨[], by kernel_rfl⟩
set_option maxRecDepth 100000 in
theorem lifted (os : Os) (started : os.Started) (H : Type) (enc : TypeId × Value → H) (F : Stop.Interp) :
    ReturnsInHanded {} Tryd.checked os 6 .any ((OpenSpec.ofChange Rows.fnExactParseQuerySpec).preRow enc Tryd.prog Tryd.f6 Rows.fnExactParseQueryRow.domain false Rows.fnExactParseQueryRow.laid) (((OpenSpec.ofChange Rows.fnExactParseQuerySpec).at F).post enc Tryd.prog Tryd.f6 false true false false) := by
  obtain ⟨places, hx⟩ := reads os enc
  refine returnsInHanded_of_row (C := Tryd.checked) (s := OpenSpec.ofChange Rows.fnExactParseQuerySpec) own started (by kernel_rfl) Tryd.func6
    (witness_row_at (enc := enc) (C := Tryd.checked) false (laidWorld os) #[.string .empty] rfl (by kernel_rfl) (by kernel_rfl) (by kernel_rfl)
      (OpenSpec.preRow_of_cond 8 hx (by kernel_rfl) (fun k hk => by cases hk) (by kernel_rfl) (laid_met os))) ?_
  intro W base args ds gs before hval hW _ _ _ hL hsh _
  exact contract H enc W base args ds gs before hval hW hL hsh
theorem said : Rows.FnExactParseQuerySaid :=
  OpenClaim.holds_of_cond 6 Tryd.f6 rfl rfl rfl rfl rfl rfl rfl ⟨rfl, rfl, rfl, rfl, rfl⟩ rfl rfl rfl rfl rfl (by kernel_rfl) Tryd.func6 (by kernel_rfl)
    (of_decide_eq_true (by kernel_rfl)) (by unfold Func.isWrapper; first | (rw [if_pos (by decide +kernel)]; kernel_rfl) | (rw [if_neg (by decide +kernel)]; exact ⟨rfl, rfl⟩))
    (fun os started H enc _ F => by rw [OpenClaim.pre_eq_preRow]; exact lifted os started H enc F)
theorem plain (f : FuncId) (fn : Func) (hf : Tryd.pinned.checked.prog.funcNamed "loop.example/g01921/laws.FnExactParseQuery" = some f) (hfn : Tryd.pinned.checked.prog.funcs[f]? = some fn) :
    false = Tryd.pinned.checked.prog.looks [] ∧ ∀ (j : Nat) t, fn.params[j]? = some t → Tryd.pinned.checked.prog.wantsStandIn t = false := by
  obtain rfl : f = 6 := Option.some.inj ((show Tryd.prog.funcNamed "loop.example/g01921/laws.FnExactParseQuery" = some 6 by kernel_rfl).symm.trans hf) |>.symm
  obtain rfl : fn = Tryd.f6 := (Option.some.inj (Tryd.func6.symm.trans hfn)).symm
  refine ⟨by kernel_rfl, fun j t ht => ?_⟩
  rw [Tryd.params6] at ht
  have ht := Array.mem_of_getElem? ht
  simp only [List.mem_toArray, List.mem_cons, List.mem_nil_iff, or_false] at ht
  rcases ht with rfl
  · exact (show Tryd.prog.wantsStandIn 9 = false by kernel_rfl)
/-- The card. -/
theorem proved : Rows.FnExactParseQueryCardSaid :=
  Claim7.holds_tied_plain_at .later [] _ _ _ _ said (fun _ h => by cases h) (by kernel_rfl) (fun _ h => by cases h) fnExactParseQuery_row_tie rfl ⟨rfl, rfl⟩ (by kernel_rfl) rfl plain (by kernel_rfl)
end Go.Proofs.YtdjgaffiildijabDoor.fnExactParseQuery
