/- The law FnExactParseTable holds at every argument, where strconv's tables lie as their own text lays them (the card ties that to the program): the call returns true and changes no argument. -/
import Derived.Test.YtdjgaffiildijabDoorCards
import Derived.Test.YtdjgaffiildijabDoorTie
import Derived.Test.YtdjgaffiildijabDoorLaw
import Derived.Test.YtdjgaffiildijabDoorTabParse
import Derived.Test.YtdjgaffiildijabDoorParMath
import Derived.Test.YtdjgaffiildijabDoorParImp2
import Derived.Test.YtdjgaffiildijabDoorWalkParseTable
import Derived.Deep.DeepHandedRow
import Derived.Lib.LaidTab
import Derived.Lib.LaidU8
import Derived.Deep.DeepWitnessRowRef
namespace Go.Proofs.YtdjgaffiildijabDoor.fnExactParseTable
open Go Go.ChangeShapes Go.WideShapes Go.ChangeAt Go.RowKit
open Go.ChangeMaps (open_string shut_string)
open Byt Ints IntsLaw Cd Rows2 Tab TabSpec TabFmt TabParse ParMath
theorem par_wt (s : ByteArray) : (if pOk s then pRows s else []).flatten.length ≤ 1048577 := by
  cases h : pOk s
  · simp
  · rw [if_pos rfl]
    obtain ⟨h1, h2, h3⟩ : ParP s := of_decide_eq_true h
    have hok := ok_of_fmt (s := s) (by omega) h3
    have htp : TabP (pNm s) (pAr s) (pRows s) := of_decide_eq_true hok
    have h4 : ∀ l : List (List Int), (∀ r ∈ l, r.length ≤ 3) → l.flatten.length ≤ 3 * l.length := by
      intro l
      induction l with
      | nil => intro _; simp
      | cons x xs ih =>
        intro h
        have := ih fun r hr => h r (List.mem_cons_of_mem _ hr)
        have := h x List.mem_cons_self
        rw [List.flatten_cons, List.length_append, List.length_cons]
        omega
    have h5 := h4 (pRows s) fun r hr => by
      have h6 := (rowOk_iff.1 (htp.2.2.2.2.1 r hr)).1
      have h7 := htp.2.2.1
      omega
    have h8 := htp.2.2.2.1
    omega
theorem walk (a0 : ByteArray) (hs0 : a0.size ≤ maxLen) {w : World} (hr : ParImp.Ready w) :
    Calls Tryd.prog 4 #[.string a0] w fun e w' => e = .returned (.bool true) ∧ Below w.heap.size w w' :=
  WalkParseTable.walk a0 (if pOk a0 then pNm a0 else ⟨#[]⟩) (if pOk a0 then pAr a0 else 0) (if pOk a0 then pRows a0 else []) (pOk a0) w hs0
    (fun _ => par_wt a0)
    (fun h w' _ => spec_parse a0 w' h)
    (fun h w' hb => ParImp.impl_parse a0 w' h (ParImp.ready_later hb hr))

theorem own : ownKnob Tryd.prog.godebug = none := by kernel_rfl
theorem laidOut : laidOutB Tryd.prog = true := by kernel_rfl
theorem readable : ∀ t ∈ Tryd.f4.params.toList, Tryd.prog.readableRec t = true ∧ t < Tryd.prog.types.size := by
  rw [Tryd.params4]
  intro t ht
  simp only [List.mem_cons, List.mem_nil_iff, or_false] at ht
  rcases ht with rfl <;> exact ⟨by kernel_rfl, of_decide_eq_true (by kernel_rfl)⟩
theorem laidTail {P : Program} {w : World} {x : String × DataW Unit} {rest : List (String × DataW Unit)} {ps : List MemPlace} (h : DataW.LaidVars P w (x :: rest) ps) : ∃ q, DataW.LaidVars P w rest q := by
  obtain ⟨_, _, _, _, _, q, _, _, _, _, h2, _⟩ := h
  exact ⟨q, h2⟩
theorem gTab : Tryd.prog.globalNamed "internal/strconv.uint64pow10" = some 3 := by kernel_rfl
theorem gTabType : (Tryd.prog.globals[3]?).map (·.type) = some 188 := by kernel_rfl
theorem cellsTab : Tryd.prog.cellsOf 188 = 20 := by kernel_rfl
theorem cellsElem : Tryd.prog.cellsOf 154 = 1 := by kernel_rfl
theorem tabData_eq : Rows.laid_internal_strconv_uint64pow10 = Lib.tabData .u64 Lib.pow10Tab (H := Unit) := by kernel_rfl
theorem table {W : World} (h : laidMetH Tryd.prog Rows.fnExactParseTableRow.laid W) : Format.Tab W := by
  obtain ⟨ps, h, _⟩ := (show laidMet Tryd.prog Rows.fnExactParseTableRow.laid W from h)
  obtain ⟨_, h⟩ := laidTail h
  obtain ⟨_, h⟩ := laidTail h
  obtain ⟨g', t', cs, fuel, p, q, hg', ht', hvar, hd, _, _⟩ := h
  obtain rfl := Option.some.inj (gTab.symm.trans hg')
  obtain rfl := Option.some.inj (gTabType.symm.trans ht')
  rw [tabData_eq] at hd
  unfold Format.Tab Lib.TabIs
  rw [hvar, ← Lib.cells_of_tab Tryd.underlying188 Tryd.underlying154 cellsElem cellsTab hd]

theorem data_strings_asciiSpace : Rows.laid_strings_asciiSpace = Lib.tabData .u8 Lib.asciiSpaceTab (H := Unit) := by kernel_rfl
theorem reads_strings_asciiSpace {W : World} (h : laidMetH Tryd.prog Rows.fnExactParseTableRow.laid W) : Lib.VarReads Tryd.prog W "strings.asciiSpace" (Lib.tabData .u8 Lib.asciiSpaceTab (H := Unit)) := by
  rw [← data_strings_asciiSpace]
  exact Lib.laidMet.reads (show laidMet Tryd.prog Rows.fnExactParseTableRow.laid W from h) (n := "strings.asciiSpace") (d := Rows.laid_strings_asciiSpace) (show ("strings.asciiSpace", Rows.laid_strings_asciiSpace) ∈ Rows.fnExactParseTableRow.laid from (List.mem_cons_of_mem _ (List.mem_cons_of_mem _ (List.mem_cons_of_mem _ (List.mem_cons_of_mem _ List.mem_cons_self)))))
theorem data_unicode_White_Space : Rows.laid_unicode_White_Space = Lib.whiteData := by kernel_rfl
theorem reads_unicode_White_Space {W : World} (h : laidMetH Tryd.prog Rows.fnExactParseTableRow.laid W) : Lib.VarReads Tryd.prog W "unicode.White_Space" (Lib.whiteData) := by
  rw [← data_unicode_White_Space]
  exact Lib.laidMet.reads (show laidMet Tryd.prog Rows.fnExactParseTableRow.laid W from h) (n := "unicode.White_Space") (d := Rows.laid_unicode_White_Space) (show ("unicode.White_Space", Rows.laid_unicode_White_Space) ∈ Rows.fnExactParseTableRow.laid from (List.mem_cons_of_mem _ (List.mem_cons_of_mem _ (List.mem_cons_of_mem _ List.mem_cons_self))))
theorem gAsc : Tryd.prog.globalNamed "strings.asciiSpace" = some 0 := by kernel_rfl
theorem gAscType : (Tryd.prog.globals[0]?).map (·.type) = some 117 := by kernel_rfl
theorem ready {W : World} (h : laidMetH Tryd.prog Rows.fnExactParseTableRow.laid W) (hsh : W.ShapedOpen Tryd.prog) : ParImp.Ready W := by
  refine ⟨table h, Tryd.laysM145.s1_3 W hsh, ?_, whiteTab_of_reads Tryd.lays199 { n6 := by kernel_rfl, y6 := by kernel_rfl, c3 := by kernel_rfl, c49 := by kernel_rfl, c193 := by kernel_rfl, c194 := by kernel_rfl, c196 := by kernel_rfl, c198 := by kernel_rfl } (reads_unicode_White_Space h)⟩
  obtain ⟨g', t', cs, fuel, p, hg', ht', hvar, hd⟩ := reads_strings_asciiSpace h
  obtain rfl := Option.some.inj (gAsc.symm.trans hg')
  obtain rfl := Option.some.inj (gAscType.symm.trans ht')
  unfold Lib.TabIs
  rw [hvar, ← Lib.cells_of_tab Tryd.underlying117 Tryd.underlying5 (by kernel_rfl) (by kernel_rfl) hd]
set_option maxRecDepth 100000 in
theorem contract (H : Type) (enc : TypeId × Value → H) (W : World) (base : Nat) (args : Array Value) (ds gs : List (DataW H)) (before : List MemPlace)
    (hval0 : ∀ (j : Nat) t v, Tryd.f4.params[j]? = some t → args[j]? = some v → Value.okWide Tryd.prog W .any base t v)
    (hW : DataW.Whole enc Tryd.prog Tryd.f4.params.toList Rows.fnExactParseTableSpec.vars false W args.toList ds gs before) (hL : laidMetH Tryd.prog Rows.fnExactParseTableRow.laid W) (hsh : W.ShapedOpen Tryd.prog) :
    Calls Tryd.prog 4 args W fun e W' => ∃ v, e = .returned v ∧ Rows.fnExactParseTableSpec.post enc Tryd.prog Tryd.f4 false true false false W args v W' := by
  have hval := hval0
  have hW' := hW
  obtain ⟨p, q, hA0, hV, rfl, hfz, hnd⟩ := hW
  have hA : DataW.TrodAll enc Tryd.prog W 0 (fun _ => true) true Tryd.f4.params.toList args.toList ds p := hA0
  rw [Tryd.params4] at hA hval
  obtain ⟨v0, vs0, d0, ds0, p0, q0, hargs, rfl, rfl, h0, r0⟩ := trodAll_cons hA
  obtain ⟨rfl, rfl, rfl⟩ := trodAll_nil r0
  obtain rfl : args = #[v0] := by cases args; simp_all
  obtain ⟨rfl, rfl⟩ := trodVars_none hV
  obtain ⟨a0, rfl, rfl, rfl, w0⟩ := open_string Tryd.underlying9 (hval 0 9 v0 rfl rfl) h0
  refine (walk a0 w0 (w := W) (ready hL hsh)).mono fun e W' ⟨he, hb⟩ => ?_
  subst he
  exact ⟨_, rfl, Law.post_law laidOut readable Tryd.underlying4 rfl rfl hW' rfl rfl rfl hb⟩

/- A world for the witness: the listed variables hold what their own text lays. -/
def cellsIn : DataW Unit → Array Value
  | .agg ps => (ps.map fun | .lit (.int k n) => Value.int k n | _ => undef).toArray
  | _ => #[]
def laidIn (d : DataW Unit) : Obj → Obj
  | .cells _ t fr => .cells (cellsIn d) t fr
  | x => x
noncomputable def low : Nat := (World.holding Tryd.prog default ⟨#[], #[], []⟩).heap.size
def pointTo (b : Nat) : Obj → Obj
  | .cells _ t fr => .cells #[.pointer (some ⟨b, 0, none⟩)] t fr
  | x => x
noncomputable def laidWorld (os : Os) : World :=
  { World.holding Tryd.prog os ⟨#[.cells (Lib.whiteT.map fun (z : Nat) => Value.int .u16 (z : Int)).toArray 165, .cells #[.slice (some ⟨low, 0, none⟩) 7 7, .slice none 0 0, .int .i64 2] 162], #[], []⟩ with heap := ((((((World.holding Tryd.prog os ⟨#[.cells (Lib.whiteT.map fun (z : Nat) => Value.int .u16 (z : Int)).toArray 165, .cells #[.slice (some ⟨low, 0, none⟩) 7 7, .slice none 0 0, .int .i64 2] 162], #[], []⟩).heap).modify 1 (pointTo (low + 1))).modify 6 (laidIn Rows.laid_math_bits_deBruijn32tab)).modify 7 (laidIn Rows.laid_math_bits_deBruijn64tab)).modify 3 (laidIn Rows.laid_internal_strconv_uint64pow10)).modify 0 (laidIn Rows.laid_strings_asciiSpace) }
theorem laid_met (os : Os) : laidMet Tryd.prog Rows.fnExactParseTableRow.laid ((laidWorld os).forCall (fun _ _ => 0) ⟨#[], #[.string .empty], []⟩).memory :=
  laidMet_of_run' 10 (by kernel_rfl) (by kernel_rfl)
theorem reads (os : Os) {H : Type} (enc : TypeId × Value → H) : ∃ places, DataW.whole enc Tryd.prog ((laidWorld os).forCall (fun _ _ => 0) ⟨#[], #[.string .empty], []⟩).memory Tryd.f4.params.toList Rows.fnExactParseTableSpec.vars false #[(.string .empty : Value)].toList 8 = some ([.lit (.string [])], [], places) :=
  ⟨[], by kernel_rfl⟩
set_option maxRecDepth 100000 in
theorem lifted (os : Os) (started : os.Started) (H : Type) (enc : TypeId × Value → H) (F : Stop.Interp) :
    ReturnsInHanded {} Tryd.checked os 4 .any ((OpenSpec.ofChange Rows.fnExactParseTableSpec).preRow enc Tryd.prog Tryd.f4 Rows.fnExactParseTableRow.domain false Rows.fnExactParseTableRow.laid) (((OpenSpec.ofChange Rows.fnExactParseTableSpec).at F).post enc Tryd.prog Tryd.f4 false true false false) := by
  obtain ⟨places, hx⟩ := reads os enc
  refine returnsInHanded_of_row (C := Tryd.checked) (s := OpenSpec.ofChange Rows.fnExactParseTableSpec) own started (by kernel_rfl) Tryd.func4
    (witness_row_atRef (enc := enc) (C := Tryd.checked) false (laidWorld os) #[.string .empty] rfl (by kernel_rfl) (by kernel_rfl) (by kernel_rfl)
      (OpenSpec.preRow_of_cond 8 hx (by kernel_rfl) (fun k hk => by cases hk) (by kernel_rfl) (laid_met os))) ?_
  intro W base args ds gs before hval hW _ _ _ hL hsh _
  exact contract H enc W base args ds gs before hval hW hL hsh
theorem said : Rows.FnExactParseTableSaid :=
  OpenClaim.holds_of_cond 4 Tryd.f4 rfl rfl rfl rfl rfl rfl rfl ⟨rfl, rfl, rfl, rfl, rfl⟩ rfl rfl rfl rfl rfl (by kernel_rfl) Tryd.func4 (by kernel_rfl)
    (of_decide_eq_true (by kernel_rfl)) (by unfold Func.isWrapper; first | (rw [if_pos (by decide +kernel)]; kernel_rfl) | (rw [if_neg (by decide +kernel)]; exact ⟨rfl, rfl⟩))
    (fun os started H enc _ F => by rw [OpenClaim.pre_eq_preRow]; exact lifted os started H enc F)
theorem plain (f : FuncId) (fn : Func) (hf : Tryd.pinned.checked.prog.funcNamed "loop.example/g01921/laws.FnExactParseTable" = some f) (hfn : Tryd.pinned.checked.prog.funcs[f]? = some fn) :
    false = Tryd.pinned.checked.prog.looks [] ∧ ∀ (j : Nat) t, fn.params[j]? = some t → Tryd.pinned.checked.prog.wantsStandIn t = false := by
  obtain rfl : f = 4 := Option.some.inj ((show Tryd.prog.funcNamed "loop.example/g01921/laws.FnExactParseTable" = some 4 by kernel_rfl).symm.trans hf) |>.symm
  obtain rfl : fn = Tryd.f4 := (Option.some.inj (Tryd.func4.symm.trans hfn)).symm
  refine ⟨by kernel_rfl, fun j t ht => ?_⟩
  rw [Tryd.params4] at ht
  have ht := Array.mem_of_getElem? ht
  simp only [List.mem_toArray, List.mem_cons, List.mem_nil_iff, or_false] at ht
  rcases ht with rfl
  · exact (show Tryd.prog.wantsStandIn 9 = false by kernel_rfl)
/-- The card. -/
theorem proved : Rows.FnExactParseTableCardSaid :=
  Claim7.holds_tied_plain_at .later [] _ _ _ _ said (fun _ h => by cases h) (by kernel_rfl) (fun _ h => by cases h) fnExactParseTable_row_tie rfl ⟨rfl, rfl⟩ (by kernel_rfl) rfl plain (by kernel_rfl)
end Go.Proofs.YtdjgaffiildijabDoor.fnExactParseTable
