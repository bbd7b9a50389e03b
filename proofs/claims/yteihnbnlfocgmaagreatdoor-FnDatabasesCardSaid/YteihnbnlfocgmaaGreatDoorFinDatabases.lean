/- The law FnDatabases holds at every argument, where strconv's tables lie as their own text lays them (the card ties that to the program): the call returns true and changes no argument. -/
import Derived.Test.YteihnbnlfocgmaaGreatDoorCards
import Derived.Test.YteihnbnlfocgmaaGreatDoorTie
import Derived.Test.YteihnbnlfocgmaaGreatDoorLaw
import Derived.Test.YteihnbnlfocgmaaGreatDoorMg5Databases
import Derived.Deep.DeepHandedRow
import Derived.Lib.LaidTab
import Derived.Lib.LaidU8
import Derived.Deep.DeepWitnessRowRef
import Derived.Deep.DeepLaidRun
namespace Go.Proofs.YteihnbnlfocgmaaGreatDoor.fnDatabases
open Go Go.ChangeShapes Go.WideShapes Go.ChangeAt Go.RowKit
open Go.ChangeMaps (open_string shut_string)
open Byt Ints IntsLaw Cd Rows2 Tab TabSpec
theorem walk (v : Value) (l : List UInt8) (w : World) (hr : Draw.Reads w v l w.heap.size) (hrd : ParImp.Ready w) :
    Calls Tryz.prog 3 #[v] w fun e w' => e = .returned (.bool true) ∧ Below w.heap.size w w' :=
  DbWalk.walk v l w hr hrd

theorem own : ownKnob Tryz.prog.godebug = none := by kernel_rfl
theorem laidOut : laidOutB Tryz.prog = true := by kernel_rfl
theorem cellsU8 : Tryz.prog.cellsOf 5 = 1 := by kernel_rfl
theorem readable : ∀ t ∈ Tryz.f3.params.toList, Tryz.prog.readableRec t = true ∧ t < Tryz.prog.types.size := by
  rw [Tryz.params3]
  intro t ht
  simp only [List.mem_cons, List.mem_nil_iff, or_false] at ht
  rcases ht with rfl <;> exact ⟨by kernel_rfl, of_decide_eq_true (by kernel_rfl)⟩
theorem laidTail {P : Program} {w : World} {x : String × DataW Unit} {rest : List (String × DataW Unit)} {ps : List MemPlace} (h : DataW.LaidVars P w (x :: rest) ps) : ∃ q, DataW.LaidVars P w rest q := by
  obtain ⟨_, _, _, _, _, q, _, _, _, _, h2, _⟩ := h
  exact ⟨q, h2⟩
theorem gTab : Tryz.prog.globalNamed "internal/strconv.uint64pow10" = some 5 := by kernel_rfl
theorem gTabType : (Tryz.prog.globals[5]?).map (·.type) = some 180 := by kernel_rfl
theorem cellsTab : Tryz.prog.cellsOf 180 = 20 := by kernel_rfl
theorem cellsElem : Tryz.prog.cellsOf 129 = 1 := by kernel_rfl
theorem tabData_eq : Rows.laid_internal_strconv_uint64pow10 = Lib.tabData .u64 Lib.pow10Tab (H := Unit) := by kernel_rfl
theorem table {W : World} (h : laidMetH Tryz.prog Rows.fnDatabasesRow.laid W) : Format.Tab W := by
  obtain ⟨ps, h, _⟩ := (show laidMet Tryz.prog Rows.fnDatabasesRow.laid W from h)
  obtain ⟨_, h⟩ := laidTail h
  obtain ⟨_, h⟩ := laidTail h
  obtain ⟨g', t', cs, fuel, p, q, hg', ht', hvar, hd, _, _⟩ := h
  obtain rfl := Option.some.inj (gTab.symm.trans hg')
  obtain rfl := Option.some.inj (gTabType.symm.trans ht')
  rw [tabData_eq] at hd
  unfold Format.Tab Lib.TabIs
  rw [hvar, ← Lib.cells_of_tab Tryz.underlying180 Tryz.underlying129 cellsElem cellsTab hd]

theorem data_strings_asciiSpace : Rows.laid_strings_asciiSpace = Lib.tabData .u8 Lib.asciiSpaceTab (H := Unit) := by kernel_rfl
theorem reads_strings_asciiSpace {W : World} (h : laidMetH Tryz.prog Rows.fnDatabasesRow.laid W) : Lib.VarReads Tryz.prog W "strings.asciiSpace" (Lib.tabData .u8 Lib.asciiSpaceTab (H := Unit)) := by
  rw [← data_strings_asciiSpace]
  exact Lib.laidMet.reads (show laidMet Tryz.prog Rows.fnDatabasesRow.laid W from h) (n := "strings.asciiSpace") (d := Rows.laid_strings_asciiSpace) (show ("strings.asciiSpace", Rows.laid_strings_asciiSpace) ∈ Rows.fnDatabasesRow.laid from (List.mem_cons_of_mem _ (List.mem_cons_of_mem _ (List.mem_cons_of_mem _ (List.mem_cons_of_mem _ (List.mem_cons_of_mem _ List.mem_cons_self))))))
theorem data_unicode_White_Space : Rows.laid_unicode_White_Space = Lib.whiteData := by kernel_rfl
theorem reads_unicode_White_Space {W : World} (h : laidMetH Tryz.prog Rows.fnDatabasesRow.laid W) : Lib.VarReads Tryz.prog W "unicode.White_Space" (Lib.whiteData) := by
  rw [← data_unicode_White_Space]
  exact Lib.laidMet.reads (show laidMet Tryz.prog Rows.fnDatabasesRow.laid W from h) (n := "unicode.White_Space") (d := Rows.laid_unicode_White_Space) (show ("unicode.White_Space", Rows.laid_unicode_White_Space) ∈ Rows.fnDatabasesRow.laid from (List.mem_cons_of_mem _ (List.mem_cons_of_mem _ (List.mem_cons_of_mem _ (List.mem_cons_of_mem _ List.mem_cons_self)))))
theorem gAsc : Tryz.prog.globalNamed "strings.asciiSpace" = some 0 := by kernel_rfl
theorem gAscType : (Tryz.prog.globals[0]?).map (·.type) = some 113 := by kernel_rfl
theorem ready {W : World} (h : laidMetH Tryz.prog Rows.fnDatabasesRow.laid W) (hsh : W.ShapedOpen Tryz.prog) : ParImp.Ready W := by
  refine ⟨table h, Tryz.laysM145.s1_3 W hsh, ?_, whiteTab_of_reads Tryz.lays199 { n6 := by kernel_rfl, y6 := by kernel_rfl, c3 := by kernel_rfl, c49 := by kernel_rfl, c193 := by kernel_rfl, c194 := by kernel_rfl, c196 := by kernel_rfl, c198 := by kernel_rfl } (reads_unicode_White_Space h)⟩
  obtain ⟨g', t', cs, fuel, p, hg', ht', hvar, hd⟩ := reads_strings_asciiSpace h
  obtain rfl := Option.some.inj (gAsc.symm.trans hg')
  obtain rfl := Option.some.inj (gAscType.symm.trans ht')
  unfold Lib.TabIs
  rw [hvar, ← Lib.cells_of_tab Tryz.underlying113 Tryz.underlying5 (by kernel_rfl) (by kernel_rfl) hd]
set_option maxRecDepth 100000 in
theorem contract (H : Type) (enc : TypeId × Value → H) (W : World) (base : Nat) (args : Array Value) (ds gs : List (DataW H)) (before : List MemPlace)
    (hval0 : ∀ (j : Nat) t v, Tryz.f3.params[j]? = some t → args[j]? = some v → Value.okWide Tryz.prog W .any base t v)
    (hW : DataW.Whole enc Tryz.prog Tryz.f3.params.toList Rows.fnDatabasesSpec.vars false W args.toList ds gs before) (hL : laidMetH Tryz.prog Rows.fnDatabasesRow.laid W) (hsh : W.ShapedOpen Tryz.prog) :
    Calls Tryz.prog 3 args W fun e W' => ∃ v, e = .returned v ∧ Rows.fnDatabasesSpec.post enc Tryz.prog Tryz.f3 false true false false W args v W' := by
  have hval := hval0
  have hW' := hW
  obtain ⟨p, q, hA0, hV, rfl, hfz, hnd⟩ := hW
  have hA : DataW.TrodAll enc Tryz.prog W 0 (fun _ => true) true Tryz.f3.params.toList args.toList ds p := hA0
  rw [Tryz.params3] at hA hval
  obtain ⟨v0, vs0, d0, ds0, p0, q0, hargs, rfl, rfl, h0, r0⟩ := trodAll_cons hA
  obtain ⟨rfl, rfl, rfl⟩ := trodAll_nil r0
  obtain rfl : args = #[v0] := by cases args; simp_all
  obtain ⟨rfl, rfl⟩ := trodVars_none hV
  obtain ⟨a0, w0⟩ := Draw.reads_of Tryz.underlying22 Tryz.underlying5 cellsU8 (hval 0 22 v0 rfl rfl) h0
  refine (walk v0 a0 w0 (w := W) (ready hL hsh)).mono fun e W' ⟨he, hb⟩ => ?_
  subst he
  exact ⟨_, rfl, Law.post_law laidOut readable Tryz.underlying4 rfl rfl hW' rfl rfl rfl hb⟩

/- A world for the witness: the listed variables hold what their own text lays. -/
def cellIn : DataW Unit → List Value
  | .lit (.int k n) => [Value.int k n]
  | .agg qs => qs.map fun | .lit (.int k n) => Value.int k n | _ => undef
  | _ => [undef]
def cellsIn : DataW Unit → Array Value
  | .agg ps => (ps.flatMap cellIn).toArray
  | _ => #[]
def laidIn (d : DataW Unit) : Obj → Obj
  | .cells _ t fr => .cells (cellsIn d) t fr
  | x => x
noncomputable def low : Nat := (World.holding Tryz.prog default ⟨#[], #[], []⟩).heap.size
def pointTo (b : Nat) : Obj → Obj
  | .cells _ t fr => .cells #[.pointer (some ⟨b, 0, none⟩)] t fr
  | x => x
noncomputable def laidWorld (os : Os) : World :=
  { World.holding Tryz.prog os ⟨#[.cells (Lib.whiteT.map fun (z : Nat) => Value.int .u16 (z : Int)).toArray 160, .cells #[.slice (some ⟨low, 0, none⟩) 7 7, .slice none 0 0, .int .i64 2] 157], #[], []⟩ with heap := ((((((((World.holding Tryz.prog os ⟨#[.cells (Lib.whiteT.map fun (z : Nat) => Value.int .u16 (z : Int)).toArray 160, .cells #[.slice (some ⟨low, 0, none⟩) 7 7, .slice none 0 0, .int .i64 2] 157], #[], []⟩).heap).modify 1 (pointTo (low + 1))).modify 6 (laidIn Rows.laid_math_bits_deBruijn32tab)).modify 7 (laidIn Rows.laid_math_bits_deBruijn64tab)).modify 5 (laidIn Rows.laid_internal_strconv_uint64pow10)).modify 4 (laidIn Rows.laid_unicode_utf8_acceptRanges)).modify 0 (laidIn Rows.laid_strings_asciiSpace)).modify 3 (laidIn Rows.laid_unicode_utf8_first) }
theorem laid_met (os : Os) : laidMet Tryz.prog Rows.fnDatabasesRow.laid ((laidWorld os).forCall (fun _ _ => 0) ⟨#[], #[.slice none 0 0], []⟩).memory :=
  laidMet_of_run3 10 (by kernel_rfl) (by kernel_rfl) (by kernel_rfl)
theorem reads (os : Os) {H : Type} (enc : TypeId × Value → H) : ∃ places, DataW.whole enc Tryz.prog ((laidWorld os).forCall (fun _ _ => 0) ⟨#[], #[.slice none 0 0], []⟩).memory Tryz.f3.params.toList Rows.fnDatabasesSpec.vars false #[(.slice none 0 0 : Value)].toList 8 = some ([.nil], [], places) :=
  ⟨[], by kernel_rfl⟩
set_option maxRecDepth 100000 in
theorem lifted (os : Os) (started : os.Started) (H : Type) (enc : TypeId × Value → H) (F : Stop.Interp) :
    ReturnsInHanded {} Tryz.checked os 3 .any ((OpenSpec.ofChange Rows.fnDatabasesSpec).preRow enc Tryz.prog Tryz.f3 Rows.fnDatabasesRow.domain false Rows.fnDatabasesRow.laid) (((OpenSpec.ofChange Rows.fnDatabasesSpec).at F).post enc Tryz.prog Tryz.f3 false true false false) := by
  obtain ⟨places, hx⟩ := reads os enc
  refine returnsInHanded_of_row (C := Tryz.checked) (s := OpenSpec.ofChange Rows.fnDatabasesSpec) own started (by kernel_rfl) Tryz.func3
    (witness_row_atRef (enc := enc) (C := Tryz.checked) false (laidWorld os) #[.slice none 0 0] rfl (by kernel_rfl) (by kernel_rfl) (by kernel_rfl)
      (OpenSpec.preRow_of_cond 8 hx (by kernel_rfl) (fun k hk => by cases hk) (by kernel_rfl) (laid_met os))) ?_
  intro W base args ds gs before hval hW _ _ _ hL hsh _
  exact contract H enc W base args ds gs before hval hW hL hsh
theorem said : Rows.FnDatabasesSaid :=
  OpenClaim.holds_of_cond 3 Tryz.f3 rfl rfl rfl rfl rfl rfl rfl ⟨rfl, rfl, rfl, rfl, rfl⟩ rfl rfl rfl rfl rfl (by kernel_rfl) Tryz.func3 (by kernel_rfl)
    (of_decide_eq_true (by kernel_rfl)) (by unfold Func.isWrapper; first | (rw [if_pos (by decide +kernel)]; kernel_rfl) | (rw [if_neg (by decide +kernel)]; exact ⟨rfl, rfl⟩))
    (fun os started H enc _ F => by rw [OpenClaim.pre_eq_preRow]; exact lifted os started H enc F)
theorem plain (f : FuncId) (fn : Func) (hf : Tryz.pinned.checked.prog.funcNamed "loop.example/g01921/laws.FnDatabases" = some f) (hfn : Tryz.pinned.checked.prog.funcs[f]? = some fn) :
    false = Tryz.pinned.checked.prog.looks [] ∧ ∀ (j : Nat) t, fn.params[j]? = some t → Tryz.pinned.checked.prog.wantsStandIn t = false := by
  obtain rfl : f = 3 := Option.some.inj ((show Tryz.prog.funcNamed "loop.example/g01921/laws.FnDatabases" = some 3 by kernel_rfl).symm.trans hf) |>.symm
  obtain rfl : fn = Tryz.f3 := (Option.some.inj (Tryz.func3.symm.trans hfn)).symm
  refine ⟨by kernel_rfl, fun j t ht => ?_⟩
  rw [Tryz.params3] at ht
  have ht := Array.mem_of_getElem? ht
  simp only [List.mem_toArray, List.mem_cons, List.mem_nil_iff, or_false] at ht
  rcases ht with rfl
  · exact (show Tryz.prog.wantsStandIn 22 = false by kernel_rfl)
/-- The card. -/
theorem proved : Rows.FnDatabasesCardSaid :=
  Claim7.holds_tied_plain_at .later [] _ _ _ _ said (fun _ h => by cases h) (by kernel_rfl) (fun _ h => by cases h) fnDatabases_row_tie rfl ⟨rfl, rfl⟩ (by kernel_rfl) rfl plain (by kernel_rfl)
end Go.Proofs.YteihnbnlfocgmaaGreatDoor.fnDatabases
