/- The law on tables, out of the functions' contracts. -/
import Derived.Test.YtdjgaffiildijabGreatDoorTabMath
import Derived.Test.YtdjgaffiildijabGreatDoorTabDel
import Derived.Test.YtdjgaffiildijabGreatDoorTabIns
import Derived.Test.YtdjgaffiildijabGreatDoorTabNew
import Derived.Test.YtdjgaffiildijabGreatDoorParMath
import Derived.Test.YtdjgaffiildijabGreatDoorTabDraw3
import Derived.Test.YtdjgaffiildijabGreatDoorTabDraw5
import Derived.Deep.CutBlock
import Derived.Test.YtdjgaffiildijabGreatDoorTabImp6
import Derived.Test.YtdjgaffiildijabGreatDoorParImp2
import Derived.Deep.DeepCutAuto
import Derived.Deep.RegionHeld3
namespace Go.Proofs.YtdjgaffiildijabGreatDoor.TabFact
open Go Go.RowKit Byt Ints IntsLaw Cd Rows2 Tab TabSpec TabImp TabFmt TabParse ParMath

theorem same_self (nm : ByteArray) (ar : Int) (rows : List (List Int)) : sameT nm nm ar ar rows rows = true := decide_eq_true ⟨rfl, rfl, rfl⟩
theorem ins_len {rows : List (List Int)} {row : List Int} (ha : Asc rows) (hn : row ∉ rows) : (putR rows row).length = rows.length + 1 := by
  obtain ⟨i, hi⟩ := find_ex row ha
  rw [putR_split ha hi, if_neg hn]
  unfold Cd.ins
  have := hi.1
  simp
  omega
/-- A row that can be inserted. -/
theorem ins_facts {nm : ByteArray} {ar : Int} {rows : List (List Int)} {row : List Int} (h : insOk nm ar rows row = true) :
    insR nm ar rows row = putR rows row ∧ tabOk nm ar rows = true ∧ tabOk nm ar (putR rows row) = true ∧ hasR nm ar (putR rows row) row = true ∧ delR nm ar (putR rows row) row = rows ∧ (putR rows row).length = rows.length + 1 := by
  obtain ⟨hT, hr, hn, h8⟩ : InsP nm ar rows row := of_decide_eq_true h
  have ha := hT.2.2.2.2.2
  have hl := ins_len ha hn
  have hap := asc_put (row := row) ha
  have hok : tabOk nm ar (putR rows row) = true := decide_eq_true ⟨hT.1, hT.2.1, hT.2.2.1, by have := hT.2.2.2.1; omega, fun r hm => by
    rcases (mem_put ha).1 hm with rfl | q
    · exact hr
    · exact hT.2.2.2.2.1 r q, hap⟩
  have hhas := hasR_yes hok ((mem_put ha).2 (.inl rfl))
  refine ⟨by unfold insR; rw [h, if_pos rfl], decide_eq_true hT, hok, hhas, ?_, hl⟩
  unfold delR
  rw [hhas, if_pos rfl]
  refine asc_one (List.Pairwise.filter _ hap) ha fun r => ?_
  unfold dropR
  rw [List.mem_filter, mem_put ha]
  constructor
  · rintro ⟨h1, h2⟩
    rcases h1 with rfl | q
    · simp at h2
    · exact q
  · intro q
    exact ⟨.inr q, by simp; intro e; exact hn (e ▸ q)⟩
theorem ins_all (nm : ByteArray) (ar : Int) (rows : List (List Int)) (row : List Int) :
    (insOk nm ar rows row = true → tabOk nm ar (insR nm ar rows row) = true ∧ hasR nm ar (insR nm ar rows row) row = true ∧ delR nm ar (insR nm ar rows row) row = rows ∧ (insR nm ar rows row).length = rows.length + 1) ∧ (insOk nm ar rows row = false → insR nm ar rows row = rows) := by
  refine ⟨fun h => ?_, fun h => by unfold insR; rw [h]; rfl⟩
  obtain ⟨h1, _, h3, h4, h5, h6⟩ := ins_facts h
  rw [h1]
  exact ⟨h3, h4, h5, h6⟩
theorem ins_small (nm : ByteArray) (ar : Int) (rows : List (List Int)) (row : List Int) : rowsWt (insR nm ar rows row) ≤ rowsWt rows + row.length + 1 := by
  unfold insR
  split
  · exact putR_wt rows row
  · omega
/-- The rows of a table that could be made are in it. -/
theorem new_has {nm : ByteArray} {ar : Int} {rows : List (List Int)} (h : newOk nm ar rows = true) {k : Nat} (hk : k < rows.length) : hasR nm ar (newR [] rows) rows[k] = true := by
  have hT : TabP nm ar (newR [] rows) := of_decide_eq_true h
  exact hasR_yes h (new_all rows (acc := []) List.Pairwise.nil hT.2.2.2.1 _ (.inr (List.getElem_mem hk)))
theorem new_facts (nm : ByteArray) (ar : Int) (rows : List (List Int)) (h : newOk nm ar rows = true) :
    tabOk (if newOk nm ar rows then nm else ⟨#[]⟩) (if newOk nm ar rows then ar else 0) (if newOk nm ar rows then newR [] rows else []) = true ∧
      ∀ k (hk : k < rows.length), hasR (if newOk nm ar rows then nm else ⟨#[]⟩) (if newOk nm ar rows then ar else 0) (if newOk nm ar rows then newR [] rows else []) rows[k] = true := by
  rw [h]
  exact ⟨h, fun k hk => new_has h hk⟩
/-- A table's format is read back, and nothing else. -/
theorem par_fmt (nm : ByteArray) (ar : Int) (rows : List (List Int)) :
    pOk (fmtT nm ar rows) = tabOk nm ar rows ∧ (tabOk nm ar rows = true → pNm (fmtT nm ar rows) = nm ∧ pAr (fmtT nm ar rows) = ar ∧ pRows (fmtT nm ar rows) = rows) ∧ (fmtT nm ar rows).size ≤ 34 := by
  cases h : tabOk nm ar rows
  · have e : fmtT nm ar rows = ⟨#[]⟩ := by unfold fmtT; rw [h]; rfl
    refine ⟨decide_eq_false fun q => ?_, fun q => (by cases q), by rw [e]; decide⟩
    have := q.1
    rw [e] at this
    exact absurd this (by decide)
  · obtain ⟨g1, g2, _, _, g5, g6, g7⟩ := ParMath.shape h rfl
    exact ⟨decide_eq_true ⟨g1, by omega, by rw [g5, g6, g7]⟩, fun _ => ⟨g5, g6, g7⟩, g2⟩
end Go.Proofs.YtdjgaffiildijabGreatDoor.TabFact

namespace Go.Proofs.YtdjgaffiildijabGreatDoor.TabWalk
open Go Go.RowKit Byt Ints IntsLaw Draw Cd Rows2 Tab TabSpec TabImp TabFmt TabParse ParMath ParImp TabFact Exact

/-- The three functions whose contracts come in. -/
def InsC : Prop := ∀ (nm : ByteArray) (ar : Int) (u v : Value) (rows : List (List Int)) (row : List Int) (S S2 : Nat → Prop) (w : World), rowsC.rd w S [u] rows → rowC.rd w S2 [v] row → rowsWt rows ≤ 1048577 → nm.size ≤ 1048577 → row.length ≤ 1048577 →
    Calls Tryz.prog 13 #[.agg #[.string nm, .int .i64 ar, u], v] w fun e w' => ∃ u' fp, e = .returned (.tuple #[.agg #[.string nm, .int .i64 ar, u'], .bool (insOk nm ar rows row)]) ∧ rowsC.ow w' w.heap.size [u'] (insR nm ar rows row) fp ∧ fp.Nodup ∧ Below w.heap.size w w'
def DelC : Prop := ∀ (nm : ByteArray) (ar : Int) (u v : Value) (rows : List (List Int)) (row : List Int) (S S2 : Nat → Prop) (w : World), rowsC.rd w S [u] rows → rowC.rd w S2 [v] row → rowsWt rows ≤ 1048577 → nm.size ≤ 1048577 →
    Calls Tryz.prog 15 #[.agg #[.string nm, .int .i64 ar, u], v] w fun e w' => ∃ u' fp, e = .returned (.tuple #[.agg #[.string nm, .int .i64 ar, u'], .bool (hasR nm ar rows row)]) ∧ rowsC.ow w' w.heap.size [u'] (delR nm ar rows row) fp ∧ fp.Nodup ∧ Below w.heap.size w w'
def NewC : Prop := ∀ (nm : ByteArray) (ar : Int) (u : Value) (rows : List (List Int)) (S : Nat → Prop) (w : World), rowsC.rd w S [u] rows → rowsWt rows ≤ 1048577 →
    Calls Tryz.prog 20 #[.string nm, .int .i64 ar, u] w fun e w' => NewAns nm ar rows w e w'

set_option maxRecDepth 100000 in
set_option maxHeartbeats 6400000 in
theorem walk (v : Value) (l : List UInt8) (w : World) (hr : Reads w v l w.heap.size) (hrd : Ready w) (HI0 : InsC) (HD0 : DelC) (HN0 : NewC) :
    Calls Tryz.prog 4 #[v] w fun e w' => e = .returned (.bool true) ∧ Below w.heap.size w w' := by
  by_cases hbig : 1048576 < l.length
  · go_enter Tryz.func4, Tryz.ntmps4
    go_wp2_with fail
    refine (big_any v l w.heap.size w hr).mono ?_
    rintro e w1 ⟨rfl, rfl⟩
    rw [decide_eq_true hbig]
    go_wp2_with fail
    go_ret
    exact ⟨rfl, Below.refl _ _⟩
  have HRD := Lib.hid (fun w' (hb : Below w.heap.size w w') => ready_later hb hrd)
  have HR := Lib.hid (fun w' (hb : Below w.heap.size w w') => Dig.reads_mono (hr.later hb) (Below.size hb))
  have HIH := Lib.hid HI0
  have HDH := Lib.hid HD0
  have HNH := Lib.hid HN0
  have HBIG := Lib.hid (big_any v l w.heap.size w hr)
  have HD1 := Lib.hid (draw_ins v l w hr)
  clear hr hrd HI0 HD0 HN0
  go_enter Tryz.func4, Tryz.ntmps4
  go_wp2_with fail
  refine HBIG.out.mono ?_
  rintro e w1 ⟨rfl, rfl⟩
  rw [decide_eq_false hbig]
  clear hbig HBIG
  go_wp2_with fail
  refine HD1.out.mono ?_
  rintro e W1 ⟨nm, ar, u, vr, rows, row, rfl, hnm, har, hrw, hwt, hrr, hrl, hb1⟩
  have HB := Lib.hid hb1
  have HT := Lib.hid hrw
  have HRW := Lib.hid hrr
  have HNM := Lib.hid hnm
  have HWT := Lib.hid hwt
  have HRL := Lib.hid hrl
  clear hb1 hrw hrr hnm hwt hrl HD1 har
  obtain ⟨au, cu, eu, _⟩ := rows_form HT.out
  subst eu
  obtain ⟨aw, cw, ew, _⟩ := (row_ri HRW.out).1
  subst ew
  have HA := Lib.hid (ins_all nm ar rows row)
  have HXW := Lib.hid (show rowsWt (insR nm ar rows row) ≤ 100 by have := ins_small nm ar rows row; have := HWT.out; have := HRL.out; omega)
  have HI1 := Lib.hid (fun (w' : World) (hr : rowsC.rd w' (fun b => w.heap.size ≤ b ∧ b < W1.heap.size) [.slice au rows.length cu] rows) (hv : rowC.rd w' (fun b => w.heap.size ≤ b ∧ b < W1.heap.size) [.slice aw row.length cw] row) => HIH.out nm ar _ _ rows row _ _ w' hr hv (by have := HWT.out; omega) (by have := HNM.out; omega) (by have := HRL.out; omega))
  have HS1 := Lib.hid (fun (w' : World) (hr : rowsC.rd w' (fun b => w.heap.size ≤ b ∧ b < W1.heap.size) [.slice au rows.length cu] rows) (hv : rowC.rd w' (fun b => w.heap.size ≤ b ∧ b < W1.heap.size) [.slice aw row.length cw] row) => spec_insert nm ar _ _ rows row _ _ w' hr hv (by have := HWT.out; omega) (by have := HRL.out; omega))
  generalize insOk nm ar rows row = ib at *
  generalize insR nm ar rows row = R at *
  clear HIH
  go_wp2_with fail
  generalize hg : World.alloc W1 _ = W2
  obtain ⟨rg, zW2, hbg⟩ := start1 W1 _ hg
  clear hg
  replace HB := Lib.hid (below_then HB.out hbg)
  replace HT := Lib.hid (Cd.later HT.out hbg)
  replace HRW := Lib.hid (Cd.later HRW.out hbg)
  have L3 := Lib.hid (Loc3.of rg)
  clear hbg rg zW2
  refine (HI1.out W2 HT.out HRW.out).mono ?_
  rintro e W3 ⟨ux, fx, rfl, hxo, _, hbx⟩
  replace HB := Lib.hid (below_then HB.out hbx)
  replace HT := Lib.hid (Cd.later HT.out hbx)
  replace HRW := Lib.hid (Cd.later HRW.out hbx)
  replace L3 := Lib.hid (L3.out.later hbx)
  clear hbx
  obtain ⟨ax, cx, rfl⟩ := Cd.ow_slice hxo
  have HX := Lib.hid (Cd.reads hxo)
  clear hxo
  have y0a := L3.out.c0
  have y0b := L3.out.c1
  have y0c := L3.out.c2
  have y0d := L3.out.lt
  go_wp2_with fail
  clear y0a y0b y0c y0d
  generalize hg : World.alloc W3 _ = W4
  obtain ⟨rg, zW4, hbg⟩ := start1 W3 _ hg
  clear hg
  replace HB := Lib.hid (below_then HB.out hbg)
  replace HT := Lib.hid (Cd.later HT.out hbg)
  replace HRW := Lib.hid (Cd.later HRW.out hbg)
  replace L3 := Lib.hid (L3.out.later hbg)
  replace HX := Lib.hid (Cd.later HX.out hbg)
  have L5 := Lib.hid (Loc3.of rg)
  clear hbg rg zW4
  refine (HS1.out W4 HT.out HRW.out).mono ?_
  rintro e W5 ⟨us, fs, rfl, hso, _, hbx⟩
  replace HB := Lib.hid (below_then HB.out hbx)
  replace HT := Lib.hid (Cd.later HT.out hbx)
  replace HRW := Lib.hid (Cd.later HRW.out hbx)
  replace L3 := Lib.hid (L3.out.later hbx)
  replace HX := Lib.hid (Cd.later HX.out hbx)
  replace L5 := Lib.hid (L5.out.later hbx)
  clear hbx
  obtain ⟨aso, cso, rfl⟩ := Cd.ow_slice hso
  clear hso HI1 HS1
  go_upto_if 44 with fail
  generalize hg : World.alloc W5 _ = W6
  obtain ⟨rg, zW6, hbg⟩ := start1 W5 _ hg
  clear hg
  replace HB := Lib.hid (below_then HB.out hbg)
  replace HT := Lib.hid (Cd.later HT.out hbg)
  replace HRW := Lib.hid (Cd.later HRW.out hbg)
  replace L3 := Lib.hid (L3.out.later hbg)
  replace HX := Lib.hid (Cd.later HX.out hbg)
  replace L5 := Lib.hid (L5.out.later hbg)
  have L7 := Lib.hid (Loc3.of rg)
  clear hbg rg zW6
  clear L7
  go_cut [] (fun wx => Below w.heap.size w wx ∧ Loc3 wx W1.heap.size (.string nm) (.int .i64 ar) (.slice au rows.length cu) ∧ rowsC.rd wx (fun b => w.heap.size ≤ b ∧ b < W1.heap.size) [.slice au rows.length cu] rows)
  case first =>
    as_aux_lemma =>
      cases ib
      case false =>
        obtain rfl : R = rows := HA.out.2 rfl
        have y0a := L5.out.c0
        have y0b := L5.out.c1
        have y0c := L5.out.c2
        have y0d := L5.out.lt
        have y1a := L3.out.c0
        have y1b := L3.out.c1
        have y1c := L3.out.c2
        have y1d := L3.out.lt
        go_wp2_with fail
        clear y0a y0b y0c y0d y1a y1b y1c y1d
        have HE := Lib.hid (impl_equal nm nm ar ar _ _ _ _ _ _ W6 HX.out HT.out)
        rw [same_self] at HE
        refine (HE.out).mono ?_
        rintro e W7 ⟨rfl, hbx⟩
        replace HB := Lib.hid (below_then HB.out hbx)
        replace HT := Lib.hid (Cd.later HT.out hbx)
        replace HRW := Lib.hid (Cd.later HRW.out hbx)
        replace L3 := Lib.hid (L3.out.later hbx)
        replace HX := Lib.hid (Cd.later HX.out hbx)
        replace L5 := Lib.hid (L5.out.later hbx)
        clear hbx
        go_wp2_with fail
        go_meet
        exact ⟨HB.out, L3.out, HT.out⟩
      case true =>
        obtain ⟨h1, h2, h3, h4⟩ := HA.out.1 rfl
        have H1 := Lib.hid h1
        have H2 := Lib.hid h2
        have H3 := Lib.hid h3
        have H4 := Lib.hid h4
        clear h1 h2 h3 h4
        have y0a := L5.out.c0
        have y0b := L5.out.c1
        have y0c := L5.out.c2
        have y0d := L5.out.lt
        go_wp2_with fail
        clear y0a y0b y0c y0d
        have HD := Lib.hid (HDH.out nm ar _ _ R row _ _ W6 HX.out HRW.out (by have := HXW.out; omega) (by have := HNM.out; omega))
        rw [H2.out, H3.out] at HD
        refine (HD.out).mono ?_
        rintro e W8 ⟨uy, fy, rfl, hyo, _, hbx⟩
        replace HB := Lib.hid (below_then HB.out hbx)
        replace HT := Lib.hid (Cd.later HT.out hbx)
        replace HRW := Lib.hid (Cd.later HRW.out hbx)
        replace L3 := Lib.hid (L3.out.later hbx)
        replace HX := Lib.hid (Cd.later HX.out hbx)
        replace L5 := Lib.hid (L5.out.later hbx)
        clear hbx
        obtain ⟨ay, cy, rfl⟩ := Cd.ow_slice hyo
        have HY := Lib.hid (Cd.reads hyo)
        clear hyo
        have y0a := L5.out.c0
        have y0b := L5.out.c1
        have y0c := L5.out.c2
        have y0d := L5.out.lt
        go_wp2_with fail
        clear y0a y0b y0c y0d
        generalize hg : World.alloc W8 _ = W9
        obtain ⟨rg, zW9, hbg⟩ := start1 W8 _ hg
        clear hg
        replace HB := Lib.hid (below_then HB.out hbg)
        replace HT := Lib.hid (Cd.later HT.out hbg)
        replace HRW := Lib.hid (Cd.later HRW.out hbg)
        replace L3 := Lib.hid (L3.out.later hbg)
        replace HX := Lib.hid (Cd.later HX.out hbg)
        replace L5 := Lib.hid (L5.out.later hbg)
        replace HY := Lib.hid (Cd.later HY.out hbg)
        have L9 := Lib.hid (Loc3.of rg)
        clear hbg rg zW9
        have HC := Lib.hid (impl_contains nm ar _ _ R row _ _ W9 HX.out HRW.out)
        rw [H2.out] at HC
        refine (HC.out).mono ?_
        rintro e W10 ⟨rfl, hbx⟩
        replace HB := Lib.hid (below_then HB.out hbx)
        replace HT := Lib.hid (Cd.later HT.out hbx)
        replace HRW := Lib.hid (Cd.later HRW.out hbx)
        replace L3 := Lib.hid (L3.out.later hbx)
        replace HX := Lib.hid (Cd.later HX.out hbx)
        replace L5 := Lib.hid (L5.out.later hbx)
        replace HY := Lib.hid (Cd.later HY.out hbx)
        replace L9 := Lib.hid (L9.out.later hbx)
        clear hbx
        have y0a := L5.out.c0
        have y0b := L5.out.c1
        have y0c := L5.out.c2
        have y0d := L5.out.lt
        have y1a := L9.out.c0
        have y1b := L9.out.c1
        have y1c := L9.out.c2
        have y1d := L9.out.lt
        have y2a := L3.out.c0
        have y2b := L3.out.c1
        have y2c := L3.out.c2
        have y2d := L3.out.lt
        go_wp2_with fail
        clear y0a y0b y0c y0d y1a y1b y1c y1d y2a y2b y2c y2d
        have HE := Lib.hid (impl_equal nm nm ar ar _ _ _ _ _ _ W10 HY.out HT.out)
        rw [same_self] at HE
        refine (HE.out).mono ?_
        rintro e W11 ⟨rfl, hbx⟩
        replace HB := Lib.hid (below_then HB.out hbx)
        replace HT := Lib.hid (Cd.later HT.out hbx)
        replace HRW := Lib.hid (Cd.later HRW.out hbx)
        replace L3 := Lib.hid (L3.out.later hbx)
        replace HX := Lib.hid (Cd.later HX.out hbx)
        replace L5 := Lib.hid (L5.out.later hbx)
        replace HY := Lib.hid (Cd.later HY.out hbx)
        replace L9 := Lib.hid (L9.out.later hbx)
        clear hbx
        have y0a := L5.out.c0
        have y0b := L5.out.c1
        have y0c := L5.out.c2
        have y0d := L5.out.lt
        have y1a := L9.out.c0
        have y1b := L9.out.c1
        have y1c := L9.out.c2
        have y1d := L9.out.lt
        have y2a := L3.out.c0
        have y2b := L3.out.c1
        have y2c := L3.out.c2
        have y2d := L3.out.lt
        go_wp2_with fail
        clear y0a y0b y0c y0d y1a y1b y1c y1d y2a y2b y2c y2d
        have HV := Lib.hid (spec_valid nm ar _ R _ W11 HX.out)
        rw [H1.out] at HV
        refine (HV.out).mono ?_
        rintro e W12 ⟨rfl, hbx⟩
        replace HB := Lib.hid (below_then HB.out hbx)
        replace HT := Lib.hid (Cd.later HT.out hbx)
        replace HRW := Lib.hid (Cd.later HRW.out hbx)
        replace L3 := Lib.hid (L3.out.later hbx)
        replace HX := Lib.hid (Cd.later HX.out hbx)
        replace L5 := Lib.hid (L5.out.later hbx)
        replace HY := Lib.hid (Cd.later HY.out hbx)
        replace L9 := Lib.hid (L9.out.later hbx)
        clear hbx
        have hlen : ((R.length : Nat) : Int) = (rows.length : Int) + 1 := by have := H4.out; omega
        have hl28 : (rows.length : Int) ≤ 28 := by have := HWT.out; unfold rowsWt at this; omega
        clear H1 H2 H3 H4
        have y0a := L5.out.c0
        have y0b := L5.out.c1
        have y0c := L5.out.c2
        have y0d := L5.out.lt
        have y1a := L9.out.c0
        have y1b := L9.out.c1
        have y1c := L9.out.c2
        have y1d := L9.out.lt
        have y2a := L3.out.c0
        have y2b := L3.out.c1
        have y2c := L3.out.c2
        have y2d := L3.out.lt
        go_wp2_with fail
        clear y0a y0b y0c y0d y1a y1b y1c y1d y2a y2b y2c y2d
        go_meet
        exact ⟨HB.out, L3.out, HT.out⟩
  case rest =>
  obtain ⟨c_HB, c_L3, c_HT⟩ := hcut
  clear HB HT HRW L3 HX L5
  have HB := Lib.hid c_HB
  have L3 := Lib.hid c_L3
  have HT := Lib.hid c_HT
  clear c_HB c_L3 c_HT
  generalize wc = W13 at *
  clear HDH HA HXW
  have HD2 := Lib.hid (draw_new v l W13 (HR.out _ HB.out))
  go_wp2_with fail
  refine (HD2.out).mono ?_
  rintro e W14 ⟨nm2, ar2, u2, rows2, rfl, _, _, hrw2, hwt2, hbx⟩
  replace HB := Lib.hid (below_then HB.out hbx)
  replace HT := Lib.hid (Cd.later HT.out hbx)
  replace L3 := Lib.hid (L3.out.later hbx)
  clear hbx
  clear HD2
  obtain ⟨a2, c2, e2, _⟩ := rows_form hrw2
  subst e2
  have HR2 := Lib.hid hrw2
  have HW2 := Lib.hid hwt2
  clear hrw2 hwt2
  have HZF := Lib.hid (new_facts nm2 ar2 rows2)
  have HNi := Lib.hid (show ∀ (w' : World), rowsC.rd w' (· < W14.heap.size) [.slice a2 rows2.length c2] rows2 → Calls Tryz.prog 20 #[.string nm2, .int .i64 ar2, .slice a2 rows2.length c2] w' fun e w'' => ∃ u' fp, e = .returned (.tuple #[.agg #[.string (if newOk nm2 ar2 rows2 then nm2 else ⟨#[]⟩), .int .i64 (if newOk nm2 ar2 rows2 then ar2 else 0), u'], .bool (newOk nm2 ar2 rows2)]) ∧ rowsC.ow w'' w'.heap.size [u'] (if newOk nm2 ar2 rows2 then newR [] rows2 else []) fp ∧ fp.Nodup ∧ Below w'.heap.size w' w'' from fun w' hr => HNH.out nm2 ar2 _ rows2 _ w' hr (by have := HW2.out; omega))
  have HNs := Lib.hid (show ∀ (w' : World), rowsC.rd w' (· < W14.heap.size) [.slice a2 rows2.length c2] rows2 → Calls Tryz.prog 21 #[.string nm2, .int .i64 ar2, .slice a2 rows2.length c2] w' fun e w'' => ∃ u' fp, e = .returned (.tuple #[.agg #[.string (if newOk nm2 ar2 rows2 then nm2 else ⟨#[]⟩), .int .i64 (if newOk nm2 ar2 rows2 then ar2 else 0), u'], .bool (newOk nm2 ar2 rows2)]) ∧ rowsC.ow w'' w'.heap.size [u'] (if newOk nm2 ar2 rows2 then newR [] rows2 else []) fp ∧ fp.Nodup ∧ Below w'.heap.size w' w'' from fun w' hr => spec_new nm2 ar2 _ rows2 _ w' hr (by have := HW2.out; omega))
  generalize (if newOk nm2 ar2 rows2 then nm2 else ⟨#[]⟩) = nz at *
  generalize (if newOk nm2 ar2 rows2 then ar2 else 0) = az0 at *
  generalize (if newOk nm2 ar2 rows2 then newR [] rows2 else []) = Z at *
  generalize newOk nm2 ar2 rows2 = nb at *
  go_wp2_with fail
  refine (HNi.out W14 HR2.out).mono ?_
  rintro e W15 ⟨uz, fz, rfl, hzo, _, hbx⟩
  replace HB := Lib.hid (below_then HB.out hbx)
  replace HT := Lib.hid (Cd.later HT.out hbx)
  replace L3 := Lib.hid (L3.out.later hbx)
  replace HR2 := Lib.hid (Cd.later HR2.out hbx)
  clear hbx
  obtain ⟨az, cz, rfl⟩ := Cd.ow_slice hzo
  have HZ := Lib.hid (Cd.reads hzo)
  clear hzo
  go_wp2_with fail
  generalize hg : World.alloc W15 _ = W16
  obtain ⟨rg, zW16, hbg⟩ := start1 W15 _ hg
  clear hg
  replace HB := Lib.hid (below_then HB.out hbg)
  replace HT := Lib.hid (Cd.later HT.out hbg)
  replace L3 := Lib.hid (L3.out.later hbg)
  replace HR2 := Lib.hid (Cd.later HR2.out hbg)
  replace HZ := Lib.hid (Cd.later HZ.out hbg)
  have L14 := Lib.hid (Loc3.of rg)
  clear hbg rg zW16
  refine (HNs.out W16 HR2.out).mono ?_
  rintro e W17 ⟨uq, fq, rfl, hqo, _, hbx⟩
  replace HB := Lib.hid (below_then HB.out hbx)
  replace HT := Lib.hid (Cd.later HT.out hbx)
  replace L3 := Lib.hid (L3.out.later hbx)
  replace HR2 := Lib.hid (Cd.later HR2.out hbx)
  replace HZ := Lib.hid (Cd.later HZ.out hbx)
  replace L14 := Lib.hid (L14.out.later hbx)
  clear hbx
  obtain ⟨aq, cq, rfl⟩ := Cd.ow_slice hqo
  have HQ := Lib.hid (Cd.reads hqo)
  clear hqo HNi HNs
  go_upto_region 17 with fail
  generalize hg : World.alloc W17 _ = W18
  obtain ⟨rg, zW18, hbg⟩ := start1 W17 _ hg
  clear hg
  replace HB := Lib.hid (below_then HB.out hbg)
  replace HT := Lib.hid (Cd.later HT.out hbg)
  replace L3 := Lib.hid (L3.out.later hbg)
  replace HR2 := Lib.hid (Cd.later HR2.out hbg)
  replace HZ := Lib.hid (Cd.later HZ.out hbg)
  replace L14 := Lib.hid (L14.out.later hbg)
  replace HQ := Lib.hid (Cd.later HQ.out hbg)
  have L16 := Lib.hid (Loc3.of rg)
  clear hbg rg zW18
  go_cut [120] (fun s120 wx => s120 = .bool false ∧ Below w.heap.size w wx ∧ Loc3 wx W1.heap.size (.string nm) (.int .i64 ar) (.slice au rows.length cu) ∧ rowsC.rd wx (fun b => w.heap.size ≤ b ∧ b < W1.heap.size) [.slice au rows.length cu] rows ∧ rowsC.rd wx (· < W14.heap.size) [.slice a2 rows2.length c2] rows2 ∧ rowsC.rd wx (· < W15.heap.size) [.slice az Z.length cz] Z ∧ Loc3 wx W15.heap.size (.string nz) (.int .i64 az0) (.slice az Z.length cz))
  case first =>
    as_aux_lemma =>
      cases nb
      case false =>
        have y0a := L14.out.c0
        have y0b := L14.out.c1
        have y0c := L14.out.c2
        have y0d := L14.out.lt
        have y1a := L16.out.c0
        have y1b := L16.out.c1
        have y1c := L16.out.c2
        have y1d := L16.out.lt
        go_wp2_with fail
        clear y0a y0b y0c y0d y1a y1b y1c y1d
        have HE := Lib.hid (impl_equal nz nz az0 az0 _ _ _ _ _ _ W18 HZ.out HQ.out)
        rw [same_self] at HE
        refine (HE.out).mono ?_
        rintro e W19 ⟨rfl, hbx⟩
        replace HB := Lib.hid (below_then HB.out hbx)
        replace HT := Lib.hid (Cd.later HT.out hbx)
        replace L3 := Lib.hid (L3.out.later hbx)
        replace HR2 := Lib.hid (Cd.later HR2.out hbx)
        replace HZ := Lib.hid (Cd.later HZ.out hbx)
        replace L14 := Lib.hid (L14.out.later hbx)
        replace HQ := Lib.hid (Cd.later HQ.out hbx)
        replace L16 := Lib.hid (L16.out.later hbx)
        clear hbx
        have y0a := L14.out.c0
        have y0b := L14.out.c1
        have y0c := L14.out.c2
        have y0d := L14.out.lt
        have y1a := L16.out.c0
        have y1b := L16.out.c1
        have y1c := L16.out.c2
        have y1d := L16.out.lt
        go_wp2_with fail
        clear y0a y0b y0c y0d y1a y1b y1c y1d
        go_meet
        exact ⟨rfl, HB.out, L3.out, HT.out, HR2.out, HZ.out, L14.out⟩
      case true =>
        have y0a := L14.out.c0
        have y0b := L14.out.c1
        have y0c := L14.out.c2
        have y0d := L14.out.lt
        have y1a := L16.out.c0
        have y1b := L16.out.c1
        have y1c := L16.out.c2
        have y1d := L16.out.lt
        go_wp2_with fail
        clear y0a y0b y0c y0d y1a y1b y1c y1d
        have HE := Lib.hid (impl_equal nz nz az0 az0 _ _ _ _ _ _ W18 HZ.out HQ.out)
        rw [same_self] at HE
        refine (HE.out).mono ?_
        rintro e W20 ⟨rfl, hbx⟩
        replace HB := Lib.hid (below_then HB.out hbx)
        replace HT := Lib.hid (Cd.later HT.out hbx)
        replace L3 := Lib.hid (L3.out.later hbx)
        replace HR2 := Lib.hid (Cd.later HR2.out hbx)
        replace HZ := Lib.hid (Cd.later HZ.out hbx)
        replace L14 := Lib.hid (L14.out.later hbx)
        replace HQ := Lib.hid (Cd.later HQ.out hbx)
        replace L16 := Lib.hid (L16.out.later hbx)
        clear hbx
        have y0a := L14.out.c0
        have y0b := L14.out.c1
        have y0c := L14.out.c2
        have y0d := L14.out.lt
        have y1a := L16.out.c0
        have y1b := L16.out.c1
        have y1c := L16.out.c2
        have y1d := L16.out.lt
        go_wp2_with fail
        clear y0a y0b y0c y0d y1a y1b y1c y1d
        have HV := Lib.hid (impl_valid nz az0 _ Z _ W20 HZ.out)
        rw [(HZF.out (by first | rfl | trivial)).1] at HV
        refine (HV.out).mono ?_
        rintro e W21 ⟨rfl, hbx⟩
        replace HB := Lib.hid (below_then HB.out hbx)
        replace HT := Lib.hid (Cd.later HT.out hbx)
        replace L3 := Lib.hid (L3.out.later hbx)
        replace HR2 := Lib.hid (Cd.later HR2.out hbx)
        replace HZ := Lib.hid (Cd.later HZ.out hbx)
        replace L14 := Lib.hid (L14.out.later hbx)
        replace HQ := Lib.hid (Cd.later HQ.out hbx)
        replace L16 := Lib.hid (L16.out.later hbx)
        clear hbx
        have y0a := L14.out.c0
        have y0b := L14.out.c1
        have y0c := L14.out.c2
        have y0d := L14.out.lt
        have y1a := L16.out.c0
        have y1b := L16.out.c1
        have y1c := L16.out.c2
        have y1d := L16.out.lt
        go_wp2_with fail
        clear y0a y0b y0c y0d y1a y1b y1c y1d
        go_meet
        exact ⟨rfl, HB.out, L3.out, HT.out, HR2.out, HZ.out, L14.out⟩
  case rest =>
  obtain ⟨rfl, c_HB, c_L3, c_HT, c_HR2, c_HZ, c_L14⟩ := hcut
  clear HB HT L3 HR2 HZ L14 HQ L16
  have HB := Lib.hid c_HB
  have L3 := Lib.hid c_L3
  have HT := Lib.hid c_HT
  have HR2 := Lib.hid c_HR2
  have HZ := Lib.hid c_HZ
  have L14 := Lib.hid c_L14
  clear c_HB c_L3 c_HT c_HR2 c_HZ c_L14
  generalize wc = W22 at *
  go_upto_block 0 with fail
  go_cut [] (fun wx => Below w.heap.size w wx ∧ Loc3 wx W1.heap.size (.string nm) (.int .i64 ar) (.slice au rows.length cu) ∧ rowsC.rd wx (fun b => w.heap.size ≤ b ∧ b < W1.heap.size) [.slice au rows.length cu] rows)
  case first =>
    as_aux_lemma =>
      go_wp2_with fail
      go_loopw [18] (fun i wr => ∃ k : Nat, k ≤ rows2.length ∧ i = .int .i64 k ∧ Below w.heap.size w wr ∧ Loc3 wr W1.heap.size (.string nm) (.int .i64 ar) (.slice au rows.length cu) ∧ rowsC.rd wr (fun b => w.heap.size ≤ b ∧ b < W1.heap.size) [.slice au rows.length cu] rows ∧ rowsC.rd wr (· < W14.heap.size) [.slice a2 rows2.length c2] rows2 ∧ rowsC.rd wr (· < W15.heap.size) [.slice az Z.length cz] Z ∧ Loc3 wr W15.heap.size (.string nz) (.int .i64 az0) (.slice az Z.length cz)) (fun i _ => rows2.length - (intOf i).toNat)
      case atStart => exact ⟨0, Nat.zero_le _, rfl, HB.out, L3.out, HT.out, HR2.out, HZ.out, L14.out⟩
      case round =>
        obtain ⟨k, hk, rfl, c_HB, c_L3, c_HT, c_HR2, c_HZ, c_L14⟩ := hrel
        clear HB HT L3 HR2 HZ L14
        have HB := Lib.hid c_HB
        have L3 := Lib.hid c_L3
        have HT := Lib.hid c_HT
        have HR2 := Lib.hid c_HR2
        have HZ := Lib.hid c_HZ
        have L14 := Lib.hid c_L14
        clear c_HB c_L3 c_HT c_HR2 c_HZ c_L14
        cases nb
        case false =>
          go_wp2_with fail
          all_goals
            go_meet
            exact ⟨HB.out, L3.out, HT.out⟩
        case true =>
          by_cases hlt : k < rows2.length
          case neg =>
            have hlt2 : ¬ ((k : Nat) : Int) < (rows2.length : Int) := by omega
            go_wp2_with fail
            go_meet
            exact ⟨HB.out, L3.out, HT.out⟩
          obtain ⟨b, off, cap, u, e1, hbB, hc, hu⟩ := rows_at HR2.out hlt
          injection e1 with e1 e2 e3
          subst e1 e3
          have p1 : (0 : Int) ≤ (k : Int) := by omega
          have p2 : (k : Int) < (rows2.length : Int) := by omega
          have HC := Lib.hid (fun w' (hb : Later wr w') => (show Calls Tryz.prog 16 #[.agg #[.string nz, .int .i64 az0, .slice az Z.length cz], u] w' fun e w'' => e = .returned (.bool true) ∧ Below w'.heap.size w' w'' from by
            have h := impl_contains nz az0 _ u Z rows2[k] _ _ w' (Cd.later HZ.out hb) (Cd.later hu hb)
            rw [(HZF.out (by first | rfl | trivial)).2 k hlt] at h
            exact h))
          have kk : Later wr wr.drew := later_drew (Below.refl _ wr)
          have y0a := L14.out.c0
          have y0b := L14.out.c1
          have y0c := L14.out.c2
          clear hu e2
          go_wp2_with fail
          go_region_held3 (fun wx => wx.cell? ⟨W15.heap.size, 0, none⟩ = some (.string nz) ∧ wx.cell? ⟨W15.heap.size, 1, none⟩ = some (.int .i64 az0) ∧ wx.cell? ⟨W15.heap.size, 2, none⟩ = some (.slice az Z.length cz) ∧ wx.cell? ⟨b, off + k, none⟩ = some u ∧ Later wr wx)
            ((refine ⟨?_, ?_, ?_, ?_, ?_⟩ <;> first | assumption | (simp [*]; done)))
            (first | (go_at_call 16; refine (HC.out _ (by assumption)).mono ?_; rintro e wq ⟨rfl, hbq⟩; (have kk : Later wr wq := below_then (by assumption) hbq); (have k0 := (L14.out.later kk).c0); (have k1 := (L14.out.later kk).c1); (have k2 := (L14.out.later kk).c2); (have k3 : wq.cell? ⟨b, off + k, none⟩ = some u := (Below.cell kk hbB).trans hc); clear hbq))
          all_goals
            have hq : Later wr wq := by assumption
            have G := Lib.hid (show Below w.heap.size w wq ∧ Loc3 wq W1.heap.size (.string nm) (.int .i64 ar) (.slice au rows.length cu) ∧ rowsC.rd wq (fun b => w.heap.size ≤ b ∧ b < W1.heap.size) [.slice au rows.length cu] rows ∧ rowsC.rd wq (· < W14.heap.size) [.slice (some ⟨b, off, none⟩) rows2.length c2] rows2 ∧ rowsC.rd wq (· < W15.heap.size) [.slice az Z.length cz] Z ∧ Loc3 wq W15.heap.size (.string nz) (.int .i64 az0) (.slice az Z.length cz) from ⟨below_then HB.out hq, L3.out.later hq, Cd.later HT.out hq, Cd.later HR2.out hq, Cd.later HZ.out hq, L14.out.later hq⟩)
            go_wp2_with fail
            go_roundw
            case rel => exact ⟨k + 1, by omega, by go_num, G.out⟩
            case measure => simp [intOf]; omega
  case rest =>
  obtain ⟨c_HB, c_L3, c_HT⟩ := hcut
  clear HB HT L3 HR2 HZ L14
  have HB := Lib.hid c_HB
  have L3 := Lib.hid c_L3
  have HT := Lib.hid c_HT
  clear c_HB c_L3 c_HT
  generalize wc = W23 at *
  have y0a := L3.out.c0
  have y0b := L3.out.c1
  have y0c := L3.out.c2
  have y0d := L3.out.lt
  go_wp2_with fail
  clear y0a y0b y0c y0d
  have HF := Lib.hid (impl_fmt nm ar _ rows _ W23 HT.out (HRD.out _ HB.out).1)
  have HPF := Lib.hid (par_fmt nm ar rows)
  have HP := Lib.hid (fun w' (hb : Below w.heap.size w w') => impl_parse (fmtT nm ar rows) w' (by have := HPF.out.2.2; omega) (HRD.out _ hb))
  have HVV := Lib.hid (fun w' (hr : rowsC.rd w' (fun b => w.heap.size ≤ b ∧ b < W1.heap.size) [.slice au rows.length cu] rows) => spec_valid nm ar _ rows _ w' hr)
  generalize fmtT nm ar rows = fs at *
  refine (HF.out).mono ?_
  rintro e W24 ⟨rfl, hbx⟩
  replace HB := Lib.hid (below_then HB.out hbx)
  replace HT := Lib.hid (Cd.later HT.out hbx)
  replace L3 := Lib.hid (L3.out.later hbx)
  clear hbx
  clear HF
  by_cases htb : tabOk nm ar rows = true
  case pos =>
    obtain ⟨g1, g2, g3⟩ := HPF.out.2.1 htb
    have HP2 := Lib.hid (show ∀ w', Below w.heap.size w w' → Calls Tryz.prog 24 #[.string fs] w' fun e w'' => ∃ u' fp, e = .returned (.tuple #[.agg #[.string nm, .int .i64 ar, u'], .bool true]) ∧ rowsC.ow w'' w'.heap.size [u'] rows fp ∧ fp.Nodup ∧ Below w'.heap.size w' w'' from fun w' hb => by
      have h := HP.out w' hb
      unfold ParAns at h
      rw [HPF.out.1, htb, g1, g2, g3] at h
      simpa using h)
    rw [htb] at HVV
    clear HP HPF g1 g2 g3 htb
    go_wp2_with fail
    refine (HP2.out W24 HB.out).mono ?_
    rintro e W25 ⟨uy, fy, rfl, hyo, _, hbx⟩
    replace HB := Lib.hid (below_then HB.out hbx)
    replace HT := Lib.hid (Cd.later HT.out hbx)
    replace L3 := Lib.hid (L3.out.later hbx)
    clear hbx
    obtain ⟨ay, cy, rfl⟩ := Cd.ow_slice hyo
    have HY := Lib.hid (Cd.reads hyo)
    clear hyo
    have y0a := L3.out.c0
    have y0b := L3.out.c1
    have y0c := L3.out.c2
    have y0d := L3.out.lt
    go_wp2_with fail
    clear y0a y0b y0c y0d
    generalize hg : World.alloc W25 _ = W26
    obtain ⟨rg, zW26, hbg⟩ := start1 W25 _ hg
    clear hg
    replace HB := Lib.hid (below_then HB.out hbg)
    replace HT := Lib.hid (Cd.later HT.out hbg)
    replace L3 := Lib.hid (L3.out.later hbg)
    replace HY := Lib.hid (Cd.later HY.out hbg)
    have L20 := Lib.hid (Loc3.of rg)
    clear hbg rg zW26
    refine (HVV.out W26 HT.out).mono ?_
    rintro e W27 ⟨rfl, hbx⟩
    replace HB := Lib.hid (below_then HB.out hbx)
    replace HT := Lib.hid (Cd.later HT.out hbx)
    replace L3 := Lib.hid (L3.out.later hbx)
    replace HY := Lib.hid (Cd.later HY.out hbx)
    replace L20 := Lib.hid (L20.out.later hbx)
    clear hbx
    have y0a := L20.out.c0
    have y0b := L20.out.c1
    have y0c := L20.out.c2
    have y0d := L20.out.lt
    have y1a := L3.out.c0
    have y1b := L3.out.c1
    have y1c := L3.out.c2
    have y1d := L3.out.lt
    go_wp2_with fail
    clear y0a y0b y0c y0d y1a y1b y1c y1d
    have HE := Lib.hid (spec_equal nm nm ar ar _ _ _ _ _ _ W27 HY.out HT.out)
    rw [same_self] at HE
    refine (HE.out).mono ?_
    rintro e W28 ⟨rfl, hbx⟩
    replace HB := Lib.hid (below_then HB.out hbx)
    replace HT := Lib.hid (Cd.later HT.out hbx)
    replace L3 := Lib.hid (L3.out.later hbx)
    replace HY := Lib.hid (Cd.later HY.out hbx)
    replace L20 := Lib.hid (L20.out.later hbx)
    clear hbx
    have y0a := L20.out.c0
    have y0b := L20.out.c1
    have y0c := L20.out.c2
    have y0d := L20.out.lt
    have y1a := L3.out.c0
    have y1b := L3.out.c1
    have y1c := L3.out.c2
    have y1d := L3.out.lt
    go_wp2_with fail
    clear y0a y0b y0c y0d y1a y1b y1c y1d
    go_ret
    exact ⟨rfl, HB.out⟩
  case neg =>
    have htb : tabOk nm ar rows = false := by simpa using htb
    have HP2 := Lib.hid (show ∀ w', Below w.heap.size w w' → Calls Tryz.prog 24 #[.string fs] w' fun e w'' => ∃ u' fp, e = .returned (.tuple #[.agg #[.string ⟨#[]⟩, .int .i64 0, u'], .bool false]) ∧ rowsC.ow w'' w'.heap.size [u'] [] fp ∧ fp.Nodup ∧ Below w'.heap.size w' w'' from fun w' hb => by
      have h := HP.out w' hb
      unfold ParAns at h
      rw [HPF.out.1, htb] at h
      simpa using h)
    rw [htb] at HVV
    clear HP HPF htb
    go_wp2_with fail
    refine (HP2.out W24 HB.out).mono ?_
    rintro e W29 ⟨uy, fy, rfl, hyo, _, hbx⟩
    replace HB := Lib.hid (below_then HB.out hbx)
    replace HT := Lib.hid (Cd.later HT.out hbx)
    replace L3 := Lib.hid (L3.out.later hbx)
    clear hbx
    obtain ⟨ay, cy, rfl⟩ := Cd.ow_slice hyo
    clear hyo
    have y0a := L3.out.c0
    have y0b := L3.out.c1
    have y0c := L3.out.c2
    have y0d := L3.out.lt
    go_wp2_with fail
    clear y0a y0b y0c y0d
    generalize hg : World.alloc W29 _ = W30
    obtain ⟨rg, zW30, hbg⟩ := start1 W29 _ hg
    clear hg
    replace HB := Lib.hid (below_then HB.out hbg)
    replace HT := Lib.hid (Cd.later HT.out hbg)
    replace L3 := Lib.hid (L3.out.later hbg)
    have L20 := Lib.hid (Loc3.of rg)
    clear hbg rg zW30
    refine (HVV.out W30 HT.out).mono ?_
    rintro e W31 ⟨rfl, hbx⟩
    replace HB := Lib.hid (below_then HB.out hbx)
    replace HT := Lib.hid (Cd.later HT.out hbx)
    replace L3 := Lib.hid (L3.out.later hbx)
    replace L20 := Lib.hid (L20.out.later hbx)
    clear hbx
    have y0a := L20.out.c0
    have y0b := L20.out.c1
    have y0c := L20.out.c2
    have y0d := L20.out.lt
    have y1a := L3.out.c0
    have y1b := L3.out.c1
    have y1c := L3.out.c2
    have y1d := L3.out.lt
    go_wp2_with fail
    clear y0a y0b y0c y0d y1a y1b y1c y1d
    go_ret
    exact ⟨rfl, HB.out⟩
end Go.Proofs.YtdjgaffiildijabGreatDoor.TabWalk
