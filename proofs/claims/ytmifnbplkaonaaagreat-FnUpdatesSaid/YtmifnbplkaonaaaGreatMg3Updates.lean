/- Texts that the proof rests on, one behind the other. -/
import Derived.Test.YtmifnbplkaonaaaGreatMg2Updates
import Derived.Test.YtmifnbplkaonaaaGreatDbValid
import Derived.Test.YtmifnbplkaonaaaGreatMg1Updates
import Derived.Sort.Grow
import Derived.Deep.QuietTactic
import Derived.Test.YtmifnbplkaonaaaGreatDbLook
import Derived.Test.YtmifnbplkaonaaaGreatDbExact
import Derived.Maps.OwnSet
import Derived.Maps.RangeWalk
import Derived.Test.YtmifnbplkaonaaaGreatDbAcc
import Derived.Shelf.SlSortCmp.WholeK
import Derived.Ground.SlsfProg
import Derived.Test.YtmifnbplkaonaaaGreatProg

namespace Go.Proofs.YtmifnbplkaonaaaGreat.UpdApp
open Go Go.RowKit Byt Ints IntsLaw Cd Rows2 Tab SlMath TabOpen TabElem SlTable Db TabSpec DbMath DbExact Upd UpdMath
open DbSpec (LookAns lk_some lk_none)
open DbAcc (DbAns)

theorem tab_rd {w : World} {S : Nat → Prop} {nm : ByteArray} {ar : Int} {u : Value} {rows : List (List Int)} (h : rowsC.rd w S [u] rows) (hs : nm.size ≤ maxLen) (ha : -9223372036854775808 ≤ ar ∧ ar ≤ 9223372036854775807) : tabC.rd w S [.string nm, .int .i64 ar, u] (nm, ar, rows) :=
  ⟨[.string nm], [.int .i64 ar, u], rfl, ⟨rfl, hs⟩, ⟨[.int .i64 ar], [u], rfl, ⟨rfl, ha⟩, h⟩⟩
theorem okT_bd {T : T3} (h : okT T = true) : T.1.size = 1 ∧ (1 ≤ T.2.1 ∧ T.2.1 ≤ 3) := by
  have htp : TabP T.1 T.2.1 T.2.2 := of_decide_eq_true h
  exact ⟨(of_decide_eq_true htp.1).1, htp.2.1, htp.2.2.1⟩
theorem chT_rd {w : World} {S : Nat → Prop} {T : T3} {b : Bool} {row : List Int} {u : Value} (h : rowsC.rd w S [u] (chR T b row)) (hk : okT T = true) : tabC.rd w S [.string T.1, .int .i64 T.2.1, u] (chT T b row) :=
  tab_rd h (by have := (okT_bd hk).1; unfold maxLen; omega) (by have := (okT_bd hk).2; omega)
theorem wt_rows {T : T3} (h : wtT T ≤ 40) : rowsWt T.2.2 ≤ 40 ∧ T.1.size ≤ 40 := by unfold wtT tabWt at h; omega
/-- The answer of a database that is stored in block Y, out of another answer. -/
theorem ans_far {w w1 w2 : World} {l : List T3} {b : Bool} {u : Value} {fp : List Nat} (ho : tabsC.ow w2 w1.heap.size [u] l fp) (hn : fp.Nodup) (hb1 : Below w.heap.size w w1) (hb : Below w1.heap.size w1 w2) {Y : Nat} (hY : w.heap.size ≤ Y) (hY1 : Y < w1.heap.size) {l' : List T3} {b' : Bool} (el : l = l') (eb : b = b') :
    DbAns l' b' w (.returned (.tuple #[.agg #[u], .bool b])) (w2.setCell ⟨Y, 0, none⟩ u) := by
  subst el eb
  exact ⟨u, fp, rfl, ow_setCell ((Cd.sl _ tabC).ow_base ho hb1.size) (fun q => by have := ((Cd.sl _ tabC).ow_lt ho _ q).1; simp only at this; omega) _, hn, (below_then hb1 hb).setCell hY _⟩
theorem ans_alloc {w w' : World} {l : List T3} {b : Bool} {e : Ending} (h : DbAns l b w e w') (o : Obj) : DbAns l b w e (w'.alloc o) := by
  obtain ⟨u, fp, h1, h2, h3, h4⟩ := h
  exact ⟨u, fp, h1, Cd.ow_later h2 (below_alloc _ _), h3, below_then h4 (below_alloc _ _)⟩

set_option maxRecDepth 100000 in
set_option maxHeartbeats 3200000 in
theorem spec_apply_true (u v : Value) (l : List T3) (nm : ByteArray) (row : List Int) (S S2 : Nat → Prop) (w : World) (h1 : tabsC.rd w S [u] l) (h2 : rowC.rd w S2 [v] row) (hw : wtS l ≤ 1048577) (hrl : row.length ≤ 1048577) :
    Calls Tryz.prog 7 #[.agg #[u], .agg #[.string nm, .bool true, v]] w fun e w' => DbAns (appL l nm true row) (appOk l nm true row) w e w' := by
  have HL := Lib.hid (fun w' (hb : Below w.heap.size w w') => DbSpec.spec_look u l nm S w' (Cd.later h1 hb) hw)
  have HDC := Lib.hid (fun w' (hb : Below w.heap.size w w') => DbSpec.spec_dbcopy u l S w' (Cd.later h1 hb) (by omega))
  have HV := Lib.hid (fun w' (hb : Below w.heap.size w w') => Cd.later h2 hb)
  have HR := Lib.hid (fun w' (hb : Below w.heap.size w w') => Cd.later h1 hb)
  have HW := Lib.hid hw
  have HRL := Lib.hid hrl
  obtain ⟨a1, cap1, rfl, hl1⟩ := Cd.sl_form h1
  obtain ⟨a2, cap2, rfl, hl2⟩ := row_form h2
  clear h1 h2 hw hrl
  have HCH := Lib.hid (fun (T : T3) (hT : rowsWt T.2.2 ≤ 40) u' S' w' (h : rowsC.rd w' S' [u'] T.2.2) (hb : Below w.heap.size w w') =>
    (show Calls Tryz.prog 26 #[.agg #[.string T.1, .int .i64 T.2.1, u'], .slice a2 row.length cap2] w' fun e w'' => ∃ u'' fp, e = .returned (.tuple #[.agg #[.string T.1, .int .i64 T.2.1, u''], .bool (chOk T true row)]) ∧ rowsC.ow w'' w'.heap.size [u''] (chR T true row) fp ∧ fp.Nodup ∧ Below w'.heap.size w' w'' from TabSpec.spec_insert T.1 T.2.1 u' (.slice a2 row.length cap2) T.2.2 row S' S2 w' h (HV.out w' hb) (by omega) (by have := HRL.out; omega)))
  go_enter Tryz.func7, Tryz.ntmps7
  go_wp2_with fail
  generalize hW : ((w.alloc _).alloc _).alloc _ = W
  obtain ⟨r0, r1, r2, hz, hb0⟩ := start3 w _ _ _ hW
  have HC0 := Lib.hid (Loc1.of r0)
  have HC1 := Lib.hid (Loc3.of r1)
  have HC2 := Lib.hid (Loc1.of r2)
  have HB0 := Lib.hid hb0
  have HZ := Lib.hid hz
  clear hW r0 r1 r2 hz hb0
  refine (HL.out _ HB0.out).mono ?_
  rintro e w1 ⟨v1, fp, rfl, ho, hn, hb1⟩
  obtain ⟨a3, c3, rfl⟩ := Cd.ow_slice ho
  have HB1 := Lib.hid (below_then HB0.out hb1)
  have HC0a := Lib.hid (HC0.out.later hb1)
  have HC1a := Lib.hid (HC1.out.later hb1)
  have HC2a := Lib.hid (HC2.out.later hb1)
  have HZ1 := Lib.hid (show w.heap.size + 3 ≤ w1.heap.size by have := hb1.size; have := HZ.out; omega)
  have HO := Lib.hid ho
  clear ho hn hb1 HC0 HC1 HC2
  cases hl : lookL l nm with
  | none =>
    have HA := Lib.hid (app_none (appT_none (b := true) (row := row) hl))
    rw [lk_none hl]
    clear HO hl
    have q0 := HC0a.out.c0
    have q1 := HC0a.out.lt
    go_wp2_with fail
    refine (HDC.out _ (below_then HB1.out (below_alloc _ _))).mono ?_
    rintro e w3 ⟨u3, f3, rfl, ho3, hn3, hb3⟩
    obtain ⟨a4, c4, rfl⟩ := Cd.ow_slice (c := tabC) ho3
    have HC3 := Lib.hid (Loc1.later (HC2a.out.later (below_alloc _ _)) hb3)
    have y0 := HC3.out.c0
    have y1 := HC3.out.f0
    have HX := Lib.hid (ans_far ho3 hn3 (below_then HB1.out (below_alloc _ _)) hb3 (Y := w.heap.size + 2) (by omega) (by rw [size_alloc]; have := HZ1.out; omega) HA.out.1.symm HA.out.2.symm)
    clear ho3 hn3 hb3 q0 q1
    go_wp2_with fail
    have k0 : (w3.setCell ⟨w.heap.size + 2, 0, none⟩ (.slice a4 l.length c4)).cell? ⟨w.heap.size + 2, 0, none⟩ = some (.slice a4 l.length c4) := World.cell?_setCell_same _ _ _ y0
    refine bodyPost_ret (v := .tuple #[.agg #[.slice a4 l.length c4], .bool false]) (by simp [results, Tryz.results7, go_sem, k0]) rfl ?_
    exact HX.out
  | some T =>
    obtain ⟨hdb, hmem, hnmT, hok⟩ := look_ok hl
    have hw40 := wt_rows (wt_ok hok)
    have HOK := Lib.hid hok
    have HW40 := Lib.hid hw40
    have HLK := Lib.hid hl
    rw [lk_some hl] at HO ⊢
    clear hdb hmem hnmT hok hw40 hl
    go_upto_region 6 with fail
    generalize hW2 : (w1.alloc _).alloc _ = W2
    obtain ⟨s0, s1, sz, sb⟩ := start2g w1 _ _ hW2
    have HT6 := Lib.hid (Loc3.of s0)
    have HC1b := Lib.hid (HC1a.out.later sb)
    have HT8 := Lib.hid (Loc3.of s1)
    have HB2 := Lib.hid (below_then HB1.out sb)
    have HC0b := Lib.hid (HC0a.out.later sb)
    have HC2b := Lib.hid (HC2a.out.later sb)
    have HO2 := Lib.hid (Cd.ow_later HO.out sb)
    have HZ2 := Lib.hid sz
    clear hW2 s0 s1 sz sb
    have q0 := HC1b.out.c0
    have q1 := HC1b.out.c1
    have q2 := HC1b.out.c2
    obtain ⟨q3, q4, q5, _, _, _⟩ := HT6.out
    go_wp2_with fail
    clear q0 q1 q2 q3 q4 q5
    refine (HCH.out T HW40.out.1 _ _ W2 (rowsC.ow_rd HO2.out) HB2.out).mono ?_
    rintro e w3 ⟨u3, f3, rfl, ho3, hn3, hb3⟩
    obtain ⟨a5, c5, rfl⟩ := Cd.ow_slice ho3
    have HB3 := Lib.hid (below_then HB2.out hb3)
    have HC0c := Lib.hid (HC0b.out.later hb3)
    have HC2c := Lib.hid (HC2b.out.later hb3)
    have HT8c := Lib.hid (HT8.out.later hb3)
    have HO3 := Lib.hid ho3
    have HZ3 := Lib.hid (show w1.heap.size + 2 ≤ w3.heap.size by have := hb3.size; have := HZ2.out; omega)
    clear ho3 hn3 hb3
    obtain ⟨x0, x1, x2, g0, g1, g2⟩ := HT8c.out
    have q0 := HC0c.out.c0
    have n1 : ¬ (w.heap.size = w1.heap.size + 1) := by have := HZ1.out; omega
    have n2 : ¬ (w1.heap.size + 1 = w.heap.size) := by have := HZ1.out; omega
    have HBS := Lib.hid (show Below w.heap.size w (((w3.setCell ⟨w1.heap.size + 1, 0, none⟩ (.string T.1)).setCell ⟨w1.heap.size + 1, 1, none⟩ (.int .i64 T.2.1)).setCell ⟨w1.heap.size + 1, 2, none⟩ (.slice a5 (chR T true row).length c5)) from
      ((HB3.out.setCell (by show _ ≤ w1.heap.size + 1; have := HZ1.out; omega) _).setCell (by show _ ≤ w1.heap.size + 1; have := HZ1.out; omega) _).setCell (by show _ ≤ w1.heap.size + 1; have := HZ1.out; omega) _)
    have HC2d := Lib.hid (show Loc1 (((w3.setCell ⟨w1.heap.size + 1, 0, none⟩ (.string T.1)).setCell ⟨w1.heap.size + 1, 1, none⟩ (.int .i64 T.2.1)).setCell ⟨w1.heap.size + 1, 2, none⟩ (.slice a5 (chR T true row).length c5)) (w.heap.size + 2) (.slice none 0 0) from
      ((HC2c.out.set_far (by show w1.heap.size + 1 ≠ _; have := HZ1.out; omega) _).set_far (by show w1.heap.size + 1 ≠ _; have := HZ1.out; omega) _).set_far (by show w1.heap.size + 1 ≠ _; have := HZ1.out; omega) _)
    have HSS := Lib.hid (show w.heap.size + 2 < (((w3.setCell ⟨w1.heap.size + 1, 0, none⟩ (.string T.1)).setCell ⟨w1.heap.size + 1, 1, none⟩ (.int .i64 T.2.1)).setCell ⟨w1.heap.size + 1, 2, none⟩ (.slice a5 (chR T true row).length c5)).heap.size by have := HZ1.out; have := HZ3.out; simp; omega)
    have HO4 := Lib.hid (show rowsC.ow (((w3.setCell ⟨w1.heap.size + 1, 0, none⟩ (.string T.1)).setCell ⟨w1.heap.size + 1, 1, none⟩ (.int .i64 T.2.1)).setCell ⟨w1.heap.size + 1, 2, none⟩ (.slice a5 (chR T true row).length c5)) W2.heap.size [.slice a5 (chR T true row).length c5] (chR T true row) f3 from by
      have hn : w1.heap.size + 1 ∉ f3 := fun q => by have := (rowsC.ow_lt HO3.out _ q).1; have := HZ2.out; omega
      exact ow_setCell (ow_setCell (ow_setCell HO3.out hn _) hn _) hn _)
    obtain ⟨z0, z1, z2⟩ := set3 (x := .string T.1) (y := .int .i64 T.2.1) (z := .slice a5 (chR T true row).length c5) x0 x1 x2
    cases hk : chOk T true row
    · have HA := Lib.hid (app_none (appT_no (b := true) (row := row) HLK.out hk))
      clear hk z0 z1 z2
      go_wp2_with fail
      refine (HDC.out _ HBS.out).mono ?_
      rintro e w6 ⟨u6, f6, rfl, ho6, hn6, hb6⟩
      obtain ⟨a6, c6, rfl⟩ := Cd.ow_slice (c := tabC) ho6
      have HC6 := Lib.hid (HC2d.out.later hb6)
      have y0 := HC6.out.c0
      have y1 := HC6.out.f0
      have HX := Lib.hid (ans_far ho6 hn6 HBS.out hb6 (Y := w.heap.size + 2) (by omega) HSS.out HA.out.1.symm HA.out.2.symm)
      clear ho6 hn6 hb6 x0 x1 x2 g0 g1 g2 q0
      go_wp2_with fail
      have k0 : (w6.setCell ⟨w.heap.size + 2, 0, none⟩ (.slice a6 l.length c6)).cell? ⟨w.heap.size + 2, 0, none⟩ = some (.slice a6 l.length c6) := World.cell?_setCell_same _ _ _ y0
      refine bodyPost_ret (v := .tuple #[.agg #[.slice a6 l.length c6], .bool false]) (by simp [results, Tryz.results7, go_sem, k0]) rfl ?_
      exact HX.out
    · have HA := Lib.hid (app_some (appT_yes (b := true) (row := row) HLK.out hk))
      have HWC := Lib.hid (wt_ok (ok_ch HOK.out hk))
      clear hk
      go_wp2_with fail
      refine (DbAcc.spec_set _ l (chT T true row) a5 c5 S _ _ (HR.out _ HBS.out) (chT_rd (rowsC.ow_rd HO4.out) HOK.out) HW.out (by have := HWC.out; omega)).mono ?_
      rintro e w6 ⟨u6, f6, rfl, ho6, hn6, hb6⟩
      obtain ⟨a6, c6, rfl⟩ := Cd.ow_slice (c := tabC) ho6
      have HC6 := Lib.hid (HC2d.out.later hb6)
      have y0 := HC6.out.c0
      have y1 := HC6.out.f0
      have HX := Lib.hid (ans_far ho6 hn6 HBS.out hb6 (Y := w.heap.size + 2) (by omega) HSS.out HA.out.1.symm HA.out.2.symm)
      have m0 := cell_alloc_some (World.cell?_setCell_same _ _ (.slice a6 (setL l (chT T true row)).length c6) y0) (.cells #[.slice a6 (setL l (chT T true row)).length c6] 26 (0, 0))
      have M0 := Lib.hid m0
      have y2 := HC6.out.lt
      clear ho6 hn6 hb6 x0 x1 x2 g0 g1 g2 q0 z0 z1 z2 m0
      go_wp2_with fail
      have k0 := M0.out
      refine bodyPost_ret (v := .tuple #[.agg #[.slice a6 (setL l (chT T true row)).length c6], .bool (setOk l (chT T true row))]) (by simp [results, Tryz.results7, go_sem, k0]) rfl ?_
      exact ans_alloc HX.out _
set_option maxRecDepth 100000 in
set_option maxHeartbeats 3200000 in
theorem spec_apply_false (u v : Value) (l : List T3) (nm : ByteArray) (row : List Int) (S S2 : Nat → Prop) (w : World) (h1 : tabsC.rd w S [u] l) (h2 : rowC.rd w S2 [v] row) (hw : wtS l ≤ 1048577) (hrl : row.length ≤ 1048577) :
    Calls Tryz.prog 7 #[.agg #[u], .agg #[.string nm, .bool false, v]] w fun e w' => DbAns (appL l nm false row) (appOk l nm false row) w e w' := by
  have HL := Lib.hid (fun w' (hb : Below w.heap.size w w') => DbSpec.spec_look u l nm S w' (Cd.later h1 hb) hw)
  have HDC := Lib.hid (fun w' (hb : Below w.heap.size w w') => DbSpec.spec_dbcopy u l S w' (Cd.later h1 hb) (by omega))
  have HV := Lib.hid (fun w' (hb : Below w.heap.size w w') => Cd.later h2 hb)
  have HR := Lib.hid (fun w' (hb : Below w.heap.size w w') => Cd.later h1 hb)
  have HW := Lib.hid hw
  have HRL := Lib.hid hrl
  obtain ⟨a1, cap1, rfl, hl1⟩ := Cd.sl_form h1
  obtain ⟨a2, cap2, rfl, hl2⟩ := row_form h2
  clear h1 h2 hw hrl
  have HCH := Lib.hid (fun (T : T3) (hT : rowsWt T.2.2 ≤ 40) u' S' w' (h : rowsC.rd w' S' [u'] T.2.2) (hb : Below w.heap.size w w') =>
    (show Calls Tryz.prog 27 #[.agg #[.string T.1, .int .i64 T.2.1, u'], .slice a2 row.length cap2] w' fun e w'' => ∃ u'' fp, e = .returned (.tuple #[.agg #[.string T.1, .int .i64 T.2.1, u''], .bool (chOk T false row)]) ∧ rowsC.ow w'' w'.heap.size [u''] (chR T false row) fp ∧ fp.Nodup ∧ Below w'.heap.size w' w'' from TabSpec.spec_delete T.1 T.2.1 u' (.slice a2 row.length cap2) T.2.2 row S' S2 w' h (HV.out w' hb) (by omega)))
  go_enter Tryz.func7, Tryz.ntmps7
  go_wp2_with fail
  generalize hW : ((w.alloc _).alloc _).alloc _ = W
  obtain ⟨r0, r1, r2, hz, hb0⟩ := start3 w _ _ _ hW
  have HC0 := Lib.hid (Loc1.of r0)
  have HC1 := Lib.hid (Loc3.of r1)
  have HC2 := Lib.hid (Loc1.of r2)
  have HB0 := Lib.hid hb0
  have HZ := Lib.hid hz
  clear hW r0 r1 r2 hz hb0
  refine (HL.out _ HB0.out).mono ?_
  rintro e w1 ⟨v1, fp, rfl, ho, hn, hb1⟩
  obtain ⟨a3, c3, rfl⟩ := Cd.ow_slice ho
  have HB1 := Lib.hid (below_then HB0.out hb1)
  have HC0a := Lib.hid (HC0.out.later hb1)
  have HC1a := Lib.hid (HC1.out.later hb1)
  have HC2a := Lib.hid (HC2.out.later hb1)
  have HZ1 := Lib.hid (show w.heap.size + 3 ≤ w1.heap.size by have := hb1.size; have := HZ.out; omega)
  have HO := Lib.hid ho
  clear ho hn hb1 HC0 HC1 HC2
  cases hl : lookL l nm with
  | none =>
    have HA := Lib.hid (app_none (appT_none (b := false) (row := row) hl))
    rw [lk_none hl]
    clear HO hl
    have q0 := HC0a.out.c0
    have q1 := HC0a.out.lt
    go_wp2_with fail
    refine (HDC.out _ (below_then HB1.out (below_alloc _ _))).mono ?_
    rintro e w3 ⟨u3, f3, rfl, ho3, hn3, hb3⟩
    obtain ⟨a4, c4, rfl⟩ := Cd.ow_slice (c := tabC) ho3
    have HC3 := Lib.hid (Loc1.later (HC2a.out.later (below_alloc _ _)) hb3)
    have y0 := HC3.out.c0
    have y1 := HC3.out.f0
    have HX := Lib.hid (ans_far ho3 hn3 (below_then HB1.out (below_alloc _ _)) hb3 (Y := w.heap.size + 2) (by omega) (by rw [size_alloc]; have := HZ1.out; omega) HA.out.1.symm HA.out.2.symm)
    clear ho3 hn3 hb3 q0 q1
    go_wp2_with fail
    have k0 : (w3.setCell ⟨w.heap.size + 2, 0, none⟩ (.slice a4 l.length c4)).cell? ⟨w.heap.size + 2, 0, none⟩ = some (.slice a4 l.length c4) := World.cell?_setCell_same _ _ _ y0
    refine bodyPost_ret (v := .tuple #[.agg #[.slice a4 l.length c4], .bool false]) (by simp [results, Tryz.results7, go_sem, k0]) rfl ?_
    exact HX.out
  | some T =>
    obtain ⟨hdb, hmem, hnmT, hok⟩ := look_ok hl
    have hw40 := wt_rows (wt_ok hok)
    have HOK := Lib.hid hok
    have HW40 := Lib.hid hw40
    have HLK := Lib.hid hl
    rw [lk_some hl] at HO ⊢
    clear hdb hmem hnmT hok hw40 hl
    go_upto_region 6 with fail
    generalize hW2 : (w1.alloc _).alloc _ = W2
    obtain ⟨s0, s1, sz, sb⟩ := start2g w1 _ _ hW2
    have HT6 := Lib.hid (Loc3.of s0)
    have HC1b := Lib.hid (HC1a.out.later sb)
    have HT8 := Lib.hid (Loc3.of s1)
    have HB2 := Lib.hid (below_then HB1.out sb)
    have HC0b := Lib.hid (HC0a.out.later sb)
    have HC2b := Lib.hid (HC2a.out.later sb)
    have HO2 := Lib.hid (Cd.ow_later HO.out sb)
    have HZ2 := Lib.hid sz
    clear hW2 s0 s1 sz sb
    have q0 := HC1b.out.c0
    have q1 := HC1b.out.c1
    have q2 := HC1b.out.c2
    obtain ⟨q3, q4, q5, _, _, _⟩ := HT6.out
    go_wp2_with fail
    clear q0 q1 q2 q3 q4 q5
    refine (HCH.out T HW40.out.1 _ _ W2 (rowsC.ow_rd HO2.out) HB2.out).mono ?_
    rintro e w3 ⟨u3, f3, rfl, ho3, hn3, hb3⟩
    obtain ⟨a5, c5, rfl⟩ := Cd.ow_slice ho3
    have HB3 := Lib.hid (below_then HB2.out hb3)
    have HC0c := Lib.hid (HC0b.out.later hb3)
    have HC2c := Lib.hid (HC2b.out.later hb3)
    have HT8c := Lib.hid (HT8.out.later hb3)
    have HO3 := Lib.hid ho3
    have HZ3 := Lib.hid (show w1.heap.size + 2 ≤ w3.heap.size by have := hb3.size; have := HZ2.out; omega)
    clear ho3 hn3 hb3
    obtain ⟨x0, x1, x2, g0, g1, g2⟩ := HT8c.out
    have q0 := HC0c.out.c0
    have n1 : ¬ (w.heap.size = w1.heap.size + 1) := by have := HZ1.out; omega
    have n2 : ¬ (w1.heap.size + 1 = w.heap.size) := by have := HZ1.out; omega
    have HBS := Lib.hid (show Below w.heap.size w (((w3.setCell ⟨w1.heap.size + 1, 0, none⟩ (.string T.1)).setCell ⟨w1.heap.size + 1, 1, none⟩ (.int .i64 T.2.1)).setCell ⟨w1.heap.size + 1, 2, none⟩ (.slice a5 (chR T false row).length c5)) from
      ((HB3.out.setCell (by show _ ≤ w1.heap.size + 1; have := HZ1.out; omega) _).setCell (by show _ ≤ w1.heap.size + 1; have := HZ1.out; omega) _).setCell (by show _ ≤ w1.heap.size + 1; have := HZ1.out; omega) _)
    have HC2d := Lib.hid (show Loc1 (((w3.setCell ⟨w1.heap.size + 1, 0, none⟩ (.string T.1)).setCell ⟨w1.heap.size + 1, 1, none⟩ (.int .i64 T.2.1)).setCell ⟨w1.heap.size + 1, 2, none⟩ (.slice a5 (chR T false row).length c5)) (w.heap.size + 2) (.slice none 0 0) from
      ((HC2c.out.set_far (by show w1.heap.size + 1 ≠ _; have := HZ1.out; omega) _).set_far (by show w1.heap.size + 1 ≠ _; have := HZ1.out; omega) _).set_far (by show w1.heap.size + 1 ≠ _; have := HZ1.out; omega) _)
    have HSS := Lib.hid (show w.heap.size + 2 < (((w3.setCell ⟨w1.heap.size + 1, 0, none⟩ (.string T.1)).setCell ⟨w1.heap.size + 1, 1, none⟩ (.int .i64 T.2.1)).setCell ⟨w1.heap.size + 1, 2, none⟩ (.slice a5 (chR T false row).length c5)).heap.size by have := HZ1.out; have := HZ3.out; simp; omega)
    have HO4 := Lib.hid (show rowsC.ow (((w3.setCell ⟨w1.heap.size + 1, 0, none⟩ (.string T.1)).setCell ⟨w1.heap.size + 1, 1, none⟩ (.int .i64 T.2.1)).setCell ⟨w1.heap.size + 1, 2, none⟩ (.slice a5 (chR T false row).length c5)) W2.heap.size [.slice a5 (chR T false row).length c5] (chR T false row) f3 from by
      have hn : w1.heap.size + 1 ∉ f3 := fun q => by have := (rowsC.ow_lt HO3.out _ q).1; have := HZ2.out; omega
      exact ow_setCell (ow_setCell (ow_setCell HO3.out hn _) hn _) hn _)
    obtain ⟨z0, z1, z2⟩ := set3 (x := .string T.1) (y := .int .i64 T.2.1) (z := .slice a5 (chR T false row).length c5) x0 x1 x2
    cases hk : chOk T false row
    · have HA := Lib.hid (app_none (appT_no (b := false) (row := row) HLK.out hk))
      clear hk z0 z1 z2
      go_wp2_with fail
      refine (HDC.out _ HBS.out).mono ?_
      rintro e w6 ⟨u6, f6, rfl, ho6, hn6, hb6⟩
      obtain ⟨a6, c6, rfl⟩ := Cd.ow_slice (c := tabC) ho6
      have HC6 := Lib.hid (HC2d.out.later hb6)
      have y0 := HC6.out.c0
      have y1 := HC6.out.f0
      have HX := Lib.hid (ans_far ho6 hn6 HBS.out hb6 (Y := w.heap.size + 2) (by omega) HSS.out HA.out.1.symm HA.out.2.symm)
      clear ho6 hn6 hb6 x0 x1 x2 g0 g1 g2 q0
      go_wp2_with fail
      have k0 : (w6.setCell ⟨w.heap.size + 2, 0, none⟩ (.slice a6 l.length c6)).cell? ⟨w.heap.size + 2, 0, none⟩ = some (.slice a6 l.length c6) := World.cell?_setCell_same _ _ _ y0
      refine bodyPost_ret (v := .tuple #[.agg #[.slice a6 l.length c6], .bool false]) (by simp [results, Tryz.results7, go_sem, k0]) rfl ?_
      exact HX.out
    · have HA := Lib.hid (app_some (appT_yes (b := false) (row := row) HLK.out hk))
      have HWC := Lib.hid (wt_ok (ok_ch HOK.out hk))
      clear hk
      go_wp2_with fail
      refine (DbAcc.spec_set _ l (chT T false row) a5 c5 S _ _ (HR.out _ HBS.out) (chT_rd (rowsC.ow_rd HO4.out) HOK.out) HW.out (by have := HWC.out; omega)).mono ?_
      rintro e w6 ⟨u6, f6, rfl, ho6, hn6, hb6⟩
      obtain ⟨a6, c6, rfl⟩ := Cd.ow_slice (c := tabC) ho6
      have HC6 := Lib.hid (HC2d.out.later hb6)
      have y0 := HC6.out.c0
      have y1 := HC6.out.f0
      have HX := Lib.hid (ans_far ho6 hn6 HBS.out hb6 (Y := w.heap.size + 2) (by omega) HSS.out HA.out.1.symm HA.out.2.symm)
      have m0 := cell_alloc_some (World.cell?_setCell_same _ _ (.slice a6 (setL l (chT T false row)).length c6) y0) (.cells #[.slice a6 (setL l (chT T false row)).length c6] 26 (0, 0))
      have M0 := Lib.hid m0
      have y2 := HC6.out.lt
      clear ho6 hn6 hb6 x0 x1 x2 g0 g1 g2 q0 z0 z1 z2 m0
      go_wp2_with fail
      have k0 := M0.out
      refine bodyPost_ret (v := .tuple #[.agg #[.slice a6 (setL l (chT T false row)).length c6], .bool (setOk l (chT T false row))]) (by simp [results, Tryz.results7, go_sem, k0]) rfl ?_
      exact ans_alloc HX.out _
theorem spec_apply (u v : Value) (l : List T3) (nm : ByteArray) (b : Bool) (row : List Int) (S S2 : Nat → Prop) (w : World) (h1 : tabsC.rd w S [u] l) (h2 : rowC.rd w S2 [v] row) (hw : wtS l ≤ 1048577) (hrl : row.length ≤ 1048577) :
    Calls Tryz.prog 7 #[.agg #[u], .agg #[.string nm, .bool b, v]] w fun e w' => DbAns (appL l nm b row) (appOk l nm b row) w e w' := by
  cases b
  · exact spec_apply_false u v l nm row S S2 w h1 h2 hw hrl
  · exact spec_apply_true u v l nm row S S2 w h1 h2 hw hrl
end Go.Proofs.YtmifnbplkaonaaaGreat.UpdApp

namespace Go.Proofs.YtmifnbplkaonaaaGreat.DbImp
open Go Go.RowKit Byt Ints IntsLaw Cd Rows2 Tab SlMath TabOpen TabElem SlTable Db TabSpec DbMath DbSpec TabImp

def cmpN (a b : ByteArray) : Int := if ltB a b then -1 else if ltB b a then 1 else 0
theorem cmpN_lt (a b : ByteArray) : cmpN a b < 0 ↔ ltB a b = true := by
  unfold cmpN
  split
  · rename_i h; simp [h]
  · rename_i h
    split <;> simp [h]
theorem gtr_eq (a b : ByteArray) (h : ltB a b = false) : (!(ltB a b || a.toList == b.toList)) = ltB b a := by
  rw [h, eqB]
  by_cases e : a = b
  · subst e; rw [ltB_irrefl]; simp
  · rw [decide_eq_false e]
    cases k : ltB b a
    · exact absurd (ltB_tri h k) e
    · rfl
theorem less_eq (a b : ByteArray) : Op.bytesLess a.toList b.toList = ltB a b := rfl
theorem nan_str (a : ByteArray) (w : World) : Calls Tryz.prog 89 #[.string a] w fun e w' => e = .returned (.bool false) ∧ w = w' := by
  go_enter Tryz.func89, Tryz.ntmps89
  go_wp2_with fail
  go_ret
  exact ⟨by simp, rfl⟩
set_option maxRecDepth 100000 in
theorem cmp_str (a b : ByteArray) (w : World) : Calls Tryz.prog 85 #[.string a, .string b] w fun e w' => e = .returned (.int .i64 (cmpN a b)) ∧ w = w' := by
  cases h : ltB a b
  · have hg := gtr_eq a b h
    have HC := Lib.hid (show cmpN a b = if ltB b a then 1 else 0 by unfold cmpN; rw [h]; rfl)
    rw [h] at hg
    have h' : Op.bytesLess a.toList b.toList = false := h
    cases k : ltB b a
    · rw [k] at hg HC
      have hg' : (a.toList == b.toList) = true := by simpa using hg
      clear hg h
      go_enter Tryz.func85, Tryz.ntmps85
      go_wp2_with (first | (go_at_call 89; refine (nan_str _ _).mono ?_; rintro e w' ⟨rfl, rfl⟩))
      go_ret
      exact ⟨by rw [HC.out]; rfl, rfl⟩
    · rw [k] at hg HC
      have hg' : (a.toList == b.toList) = false := by simpa using hg
      clear hg h
      go_enter Tryz.func85, Tryz.ntmps85
      go_wp2_with (first | (go_at_call 89; refine (nan_str _ _).mono ?_; rintro e w' ⟨rfl, rfl⟩))
      go_ret
      exact ⟨by rw [HC.out]; rfl, rfl⟩
  · have HC := Lib.hid (show cmpN a b = -1 by unfold cmpN; rw [h]; rfl)
    have h' : Op.bytesLess a.toList b.toList = true := h
    clear h
    go_enter Tryz.func85, Tryz.ntmps85
    go_wp2_with (first | (go_at_call 89; refine (nan_str _ _).mono ?_; rintro e w' ⟨rfl, rfl⟩))
    go_ret
    exact ⟨by rw [HC.out]; rfl, rfl⟩
theorem grow_two (w : World) (o1 o2 : Obj) : (w.alloc o1).alloc o2 = Sort.grow w #[o1, o2] := by
  show ({ w with heap := (w.heap.push o1).push o2 } : World) = { w with heap := w.heap ++ #[o1, o2] }
  rw [show (w.heap.push o1).push o2 = w.heap ++ #[o1, o2] by apply Array.ext'; simp]
set_option maxRecDepth 100000 in
theorem cmp_names (a b : ByteArray) (y z y' z' : Value) (w : World) : Calls Tryz.prog 78 #[.agg #[.string a, y, z], .agg #[.string b, y', z']] w fun e w' => e = .returned (.int .i64 (cmpN a b)) ∧ ∃ os, w' = Sort.grow w os := by
  have HC := Lib.hid (fun w' => cmp_str a b w')
  go_enter Tryz.func78, Tryz.ntmps78
  go_wp2_with fail
  refine (HC.out _).mono ?_
  rintro e w' ⟨rfl, rfl⟩
  go_wp2_with fail
  go_ret
  exact ⟨rfl, #[_, _], grow_two w _ _⟩
theorem below_grow (w : World) (os : Array Obj) : Below w.heap.size w (Sort.grow w os) :=
  ⟨rfl, rfl, rfl, by show _ ≤ (w.heap ++ os).size; rw [Array.size_append]; omega, fun k hk => by show (w.heap ++ os)[k]? = w.heap[k]?; rw [Array.getElem?_append_left hk]⟩
theorem val_elem_i (us : List Value) (T : T3) (S : Nat → Prop) (w : World) (hu : tabC.rd w S us T) :
    Calls Tryz.prog 53 #[.agg us.toArray] w fun e w' => e = .returned (.bool (okT T)) ∧ Below w.heap.size w w' := by
  obtain ⟨u, rfl, _, _, h3⟩ := tab_cells hu
  exact impl_valid T.1 T.2.1 u T.2.2 S w h3
set_option maxRecDepth 100000 in
set_option maxHeartbeats 1600000 in
theorem impl_dbok (u : Value) (l : List T3) (S : Nat → Prop) (w : World) (h1 : tabsC.rd w S [u] l) :
    Calls Tryz.prog 52 #[.agg #[u]] w fun e w' => e = .returned (.bool (dbOk l)) ∧ Below w.heap.size w w' := by
  have HR1 := Lib.hid (fun w' (hb : Below w.heap.size w w') => Cd.later h1 hb)
  obtain ⟨a1, cap1, rfl, hl1⟩ := Cd.sl_form h1
  clear h1
  by_cases h6 : 6 < l.length
  · have HZ := Lib.hid (show dbOk l = false from dbOk_no.2 fun q => by have := q.1; omega)
    have h6' : ((6 : Int) < (l.length : Int)) = True := by simp only [eq_iff_iff, iff_true]; omega
    go_enter Tryz.func52, Tryz.ntmps52
    go_wp2_with fail
    go_ret
    exact ⟨DbSpec.ret_b HZ.out.symm, below_alloc _ _⟩
  have H6 := Lib.hid (show l.length ≤ 6 by omega)
  have h6' : ((6 : Int) < (l.length : Int)) = False := by simp only [eq_iff_iff, iff_false]; omega
  go_enter Tryz.func52, Tryz.ntmps52
  go_wp2_with fail
  generalize hW : w.alloc _ = W
  obtain ⟨r0, hz, hb0⟩ := start1 w _ hW
  have HC0 := Lib.hid (row1 r0).1
  have HLT0 := Lib.hid (show w.heap.size < W.heap.size by omega)
  have HB0 := Lib.hid hb0
  clear hW r0 hz hb0
  go_loopw [12] (fun i wr => ∃ k : Nat, k ≤ l.length ∧ i = .int .i64 k ∧ (∀ T ∈ l.take k, okT T = true) ∧ AscP (l.take k) ∧ Below W.heap.size W wr) (fun i _ => l.length - (intOf i).toNat)
  case atStart => exact ⟨0, Nat.zero_le _, rfl, by simp, by simp [AscP], Below.refl _ _⟩
  case round =>
    obtain ⟨k, hk, rfl, hok, has, hb⟩ := hrel
    have x0 := (hb.cell (p := ⟨w.heap.size, 0, none⟩) HLT0.out).trans HC0.out
    have HOK := Lib.hid hok
    have HAS := Lib.hid has
    have HBW := Lib.hid (below_then HB0.out hb)
    have HWR := Lib.hid hb
    have HX0 := Lib.hid (And.intro x0 (World.block_lt_of_cell? _ _ x0))
    clear hok has
    by_cases hlt : k < l.length
    · obtain ⟨b, off, cap', us, e1, _, hbB, hat, hu⟩ := Cd.sl_at (HR1.out wr HBW.out) hlt
      injection e1 with e1 e2 e3
      subst e1 e3
      obtain ⟨x, y, z, rfl⟩ := len_list (tabC.len hu)
      have p0 := hat 0 (by simp)
      have p1 := hat 1 (by simp)
      have p2 := hat 2 (by simp)
      simp only [List.getElem_cons_zero, List.getElem_cons_succ, Nat.add_zero, show tabC.n = 3 from rfl] at p0 p1 p2
      obtain ⟨nk, hnk⟩ : ∃ nk, nk = (l[k]).1 := ⟨_, rfl⟩
      obtain rfl : x = .string nk := by rw [hnk]; exact name_cell hu
      obtain ⟨rk, hrk⟩ : ∃ rk, rk = (l[k]).2.1 := ⟨_, rfl⟩
      obtain ⟨qk, hqk⟩ : ∃ qk, qk = (l[k]).2.2.length := ⟨_, rfl⟩
      obtain ⟨ak, ck, hsh⟩ : ∃ a c, [y, z] = [.int .i64 rk, .slice a qk c] := by
        obtain ⟨u, e, _, _, h3⟩ := tab_cells hu
        obtain ⟨a, c, rfl, _⟩ := rows_form h3
        injection e with _ e
        exact ⟨a, c, by rw [hrk, hqk]; exact e⟩
      injection hsh with hy hsh
      injection hsh with hzz
      subst hy hzz
      have HNK := Lib.hid hnk
      have HE := Lib.hid (fun w' (hq : LaterD wr w') => val_elem_i [.string nk, .int .i64 rk, .slice ak qk ck] l[k] _ w' (Cd.later hu hq))
      have HBB := Lib.hid hbB
      have i1 : (0 : Int) ≤ (k : Int) := by omega
      have i2 : (k : Int) < (l.length : Int) := by omega
      clear hnk hu hat hbB e2 hrk hqk
      go_upto_region 6 with fail
      generalize hg : World.alloc wr _ = w1
      obtain ⟨rg, zg, hbg⟩ := start1 wr _ hg
      have HBG := Lib.hid hbg
      obtain ⟨g0, g1, g2, _, _, _⟩ := row3 rg
      have n0 := (hbg.cell (p := ⟨w.heap.size, 0, none⟩) HX0.out.2).trans HX0.out.1
      have HG := Lib.hid (And.intro n0 (And.intro g0 (And.intro g1 g2)))
      have HGL := Lib.hid (show w.heap.size < w1.heap.size ∧ wr.heap.size < w1.heap.size ∧ b < w1.heap.size from ⟨by have := HX0.out.2; have := hbg.size; simp only at *; omega, by omega, by have := HBB.out; have := hbg.size; omega⟩)
      have kk : LaterD w1 w1.drew := drewD (Below.refl _ w1)
      have kw : LaterD wr w1.drew := drewD hbg
      clear hg rg zg hbg x0 p0 p1 p2
      cases hT : okT l[k]
      · rw [hT] at HE
        have HZ := Lib.hid (show dbOk l = false from dbOk_no.2 fun q => by have := q.2.1 _ (List.getElem_mem hlt); rw [hT] at this; cases this)
        clear hT
        refine wp_region_held_drew (S := fun wx => wx.cell? ⟨w.heap.size, 0, none⟩ = some (.slice (some ⟨b, off, none⟩) l.length cap1) ∧ wx.cell? ⟨wr.heap.size, 0, none⟩ = some (.string nk) ∧ wx.cell? ⟨wr.heap.size, 1, none⟩ = some (.int .i64 rk) ∧ wx.cell? ⟨wr.heap.size, 2, none⟩ = some (.slice ak qk ck) ∧ LaterD w1 wx) (by kernel_rfl) ?_ (fun hHeld => ?_)
        · (refine ⟨?_, ?_, ?_, ?_, ?_⟩ <;> first | assumption | (simp [*]; done))
        refine RegH.takeH (i := 0) (v := ?_) rfl (by kernel_rfl) (by kernel_rfl) (by kernel_rfl) (fun _ _ _ h => h) (Or.inl ⟨by rfl, ?_⟩) (by assumption) ?_
        rotate_left
        · (intro wS hSw; (try dsimp only at hSw); go_simp; try (with_reducible rfl))
        try simp only [Act.put, List.setIfInBounds_toArray, List.set_cons_zero, List.set_cons_succ]
        refine RegH.consH (i := 1) rfl (by kernel_rfl) (fun K hK => ?_)
        go_simp
        go_at_call 53
        refine (HE.out _ kw).mono ?_
        rintro e wq ⟨rfl, hbq⟩
        have kq : LaterD w1 wq := below_then (show Below w1.heap.size w1 w1.drew from kk) hbq
        have n0 := (Below.cell kq (p := ⟨w.heap.size, 0, none⟩) HGL.out.1).trans HG.out.1
        have n1 := (Below.cell kq (p := ⟨wr.heap.size, 0, none⟩) HGL.out.2.1).trans HG.out.2.1
        have n2 := (Below.cell kq (p := ⟨wr.heap.size, 1, none⟩) HGL.out.2.1).trans HG.out.2.2.1
        have n3 := (Below.cell kq (p := ⟨wr.heap.size, 2, none⟩) HGL.out.2.1).trans HG.out.2.2.2
        clear hbq
        go_wp2_with fail
        refine hK.out _ _ ?_ (fun hHeld => ?_)
        · (refine ⟨?_, ?_, ?_, ?_, ?_⟩ <;> first | assumption | (simp [*]; done))
        clear hK K
        try simp only [Act.put, List.setIfInBounds_toArray, List.set_cons_zero, List.set_cons_succ]
        refine RegH.takeH (i := 2) (v := ?_) rfl (by kernel_rfl) (by kernel_rfl) (by kernel_rfl) (fun _ _ _ h => h) (Or.inl ⟨by rfl, ?_⟩) (by assumption) ?_
        rotate_left
        · (intro wS hSw; (try dsimp only at hSw); go_simp; try (with_reducible rfl))
        try simp only [Act.put, List.setIfInBounds_toArray, List.set_cons_zero, List.set_cons_succ]
        refine RegH.takeH (i := 3) (v := ?_) rfl (by kernel_rfl) (by kernel_rfl) (by kernel_rfl) (fun _ _ _ h => h) (Or.inl ⟨by rfl, ?_⟩) (by assumption) ?_
        rotate_left
        · (intro wS hSw; (try dsimp only at hSw); go_simp; try (with_reducible rfl))
        try simp only [Act.put, List.setIfInBounds_toArray, List.set_cons_zero, List.set_cons_succ]
        refine RegH.takeH (i := 4) rfl (by kernel_rfl) (by kernel_rfl) (by kernel_rfl) (fun _ _ _ h => h) (Or.inr ⟨by rfl, rfl⟩) (by assumption) ?_
        try simp only [Act.put, List.setIfInBounds_toArray, List.set_cons_zero, List.set_cons_succ]
        refine RegH.takeH (i := 5) rfl (by kernel_rfl) (by kernel_rfl) (by kernel_rfl) (fun _ _ _ h => h) (Or.inr ⟨by rfl, rfl⟩) (by assumption) ?_
        try simp only [Act.put, List.setIfInBounds_toArray, List.set_cons_zero, List.set_cons_succ]
        refine RegH.takeH (i := 6) rfl (by kernel_rfl) (by kernel_rfl) (by kernel_rfl) (fun _ _ _ h => h) (Or.inr ⟨by rfl, rfl⟩) (by assumption) ?_
        try simp only [Act.put, List.setIfInBounds_toArray, List.set_cons_zero, List.set_cons_succ]
        refine RegH.takeH (i := 7) rfl (by kernel_rfl) (by kernel_rfl) (by kernel_rfl) (fun _ _ _ h => h) (Or.inr ⟨by rfl, rfl⟩) (by assumption) ?_
        try simp only [Act.put, List.setIfInBounds_toArray, List.set_cons_zero, List.set_cons_succ]
        refine RegH.takeH (i := 8) rfl (by kernel_rfl) (by kernel_rfl) (by kernel_rfl) (fun _ _ _ h => h) (Or.inr ⟨by rfl, rfl⟩) (by assumption) ?_
        try simp only [Act.put, List.setIfInBounds_toArray, List.set_cons_zero, List.set_cons_succ]
        refine RegH.takeH (i := 9) rfl (by kernel_rfl) (by kernel_rfl) (by kernel_rfl) (fun _ _ _ h => h) (Or.inr ⟨by rfl, rfl⟩) (by assumption) ?_
        try simp only [Act.put, List.setIfInBounds_toArray, List.set_cons_zero, List.set_cons_succ]
        refine RegH.takeH (i := 10) rfl (by kernel_rfl) (by kernel_rfl) (by kernel_rfl) (fun _ _ _ h => h) (Or.inr ⟨by rfl, rfl⟩) (by assumption) ?_
        try simp only [Act.put, List.setIfInBounds_toArray, List.set_cons_zero, List.set_cons_succ]
        refine RegH.takeH (i := 11) rfl (by kernel_rfl) (by kernel_rfl) (by kernel_rfl) (fun _ _ _ h => h) (Or.inr ⟨by rfl, rfl⟩) (by assumption) ?_
        try simp only [Act.put, List.setIfInBounds_toArray, List.set_cons_zero, List.set_cons_succ]
        refine RegH.takeH (i := 12) rfl (by kernel_rfl) (by kernel_rfl) (by kernel_rfl) (fun _ _ _ h => h) (Or.inr ⟨by rfl, rfl⟩) (by assumption) ?_
        try simp only [Act.put, List.setIfInBounds_toArray, List.set_cons_zero, List.set_cons_succ]
        refine RegH.takeH (i := 13) rfl (by kernel_rfl) (by kernel_rfl) (by kernel_rfl) (fun _ _ _ h => h) (Or.inr ⟨by rfl, rfl⟩) (by assumption) ?_
        try simp only [Act.put, List.setIfInBounds_toArray, List.set_cons_zero, List.set_cons_succ]
        refine RegH.takeH (i := 14) rfl (by kernel_rfl) (by kernel_rfl) (by kernel_rfl) (fun _ _ _ h => h) (Or.inr ⟨by rfl, rfl⟩) (by assumption) ?_
        try simp only [Act.put, List.setIfInBounds_toArray, List.set_cons_zero, List.set_cons_succ]
        refine RegH.takeH (i := 15) rfl (by kernel_rfl) (by kernel_rfl) (by kernel_rfl) (fun _ _ _ h => h) (Or.inr ⟨by rfl, rfl⟩) (by assumption) ?_
        try simp only [Act.put, List.setIfInBounds_toArray, List.set_cons_zero, List.set_cons_succ]
        refine RegH.takeH (i := 16) rfl (by kernel_rfl) (by kernel_rfl) (by kernel_rfl) (fun _ _ _ h => h) (Or.inr ⟨by rfl, rfl⟩) (by assumption) ?_
        try simp only [Act.put, List.setIfInBounds_toArray, List.set_cons_zero, List.set_cons_succ]
        refine RegH.takeH (i := 17) (v := ?_) rfl (by kernel_rfl) (by kernel_rfl) (by kernel_rfl) (fun _ _ _ h => h) (Or.inl ⟨by rfl, ?_⟩) (by assumption) ?_
        rotate_left
        · (intro wS hSw; (try dsimp only at hSw); go_simp; try (with_reducible rfl))
        try simp only [Act.put, List.setIfInBounds_toArray, List.set_cons_zero, List.set_cons_succ]
        refine wpAnyH_done (by kernel_rfl) ?_ _
        go_wp2_with fail
        go_ret
        exact ⟨DbSpec.ret_b HZ.out.symm, below_then HBW.out (below_then (show Below wr.heap.size wr w1 from HBG.out) (show Below w1.heap.size w1 wq from kq))⟩
      · rw [hT] at HE
        have HN1 := Lib.hid (ok_more HOK.out hlt hT)
        clear hT
        by_cases hk0 : k = 0
        · have hg1 : ((0 : Int) < (k : Int)) = False := by simp only [eq_iff_iff, iff_false]; omega
          have hg2 : (0 < k) = False := by simp only [eq_iff_iff, iff_false]; omega
          have HN2 := Lib.hid (asc_more HAS.out hlt (fun j e _ => by omega))
          clear hk0
          refine wp_region_held_drew (S := fun wx => wx.cell? ⟨w.heap.size, 0, none⟩ = some (.slice (some ⟨b, off, none⟩) l.length cap1) ∧ wx.cell? ⟨wr.heap.size, 0, none⟩ = some (.string nk) ∧ wx.cell? ⟨wr.heap.size, 1, none⟩ = some (.int .i64 rk) ∧ wx.cell? ⟨wr.heap.size, 2, none⟩ = some (.slice ak qk ck) ∧ LaterD w1 wx) (by kernel_rfl) ?_ (fun hHeld => ?_)
          · (refine ⟨?_, ?_, ?_, ?_, ?_⟩ <;> first | assumption | (simp [*]; done))
          refine RegH.takeH (i := 0) (v := ?_) rfl (by kernel_rfl) (by kernel_rfl) (by kernel_rfl) (fun _ _ _ h => h) (Or.inl ⟨by rfl, ?_⟩) (by assumption) ?_
          rotate_left
          · (intro wS hSw; (try dsimp only at hSw); go_simp; try (with_reducible rfl))
          try simp only [Act.put, List.setIfInBounds_toArray, List.set_cons_zero, List.set_cons_succ]
          refine RegH.consH (i := 1) rfl (by kernel_rfl) (fun K hK => ?_)
          go_simp
          go_at_call 53
          refine (HE.out _ kw).mono ?_
          rintro e wq ⟨rfl, hbq⟩
          have kq : LaterD w1 wq := below_then (show Below w1.heap.size w1 w1.drew from kk) hbq
          have n0 := (Below.cell kq (p := ⟨w.heap.size, 0, none⟩) HGL.out.1).trans HG.out.1
          have n1 := (Below.cell kq (p := ⟨wr.heap.size, 0, none⟩) HGL.out.2.1).trans HG.out.2.1
          have n2 := (Below.cell kq (p := ⟨wr.heap.size, 1, none⟩) HGL.out.2.1).trans HG.out.2.2.1
          have n3 := (Below.cell kq (p := ⟨wr.heap.size, 2, none⟩) HGL.out.2.1).trans HG.out.2.2.2
          clear hbq
          go_wp2_with fail
          refine hK.out _ _ ?_ (fun hHeld => ?_)
          · (refine ⟨?_, ?_, ?_, ?_, ?_⟩ <;> first | assumption | (simp [*]; done))
          clear hK K
          try simp only [Act.put, List.setIfInBounds_toArray, List.set_cons_zero, List.set_cons_succ]
          refine RegH.takeH (i := 2) (v := ?_) rfl (by kernel_rfl) (by kernel_rfl) (by kernel_rfl) (fun _ _ _ h => h) (Or.inl ⟨by rfl, ?_⟩) (by assumption) ?_
          rotate_left
          · (intro wS hSw; (try dsimp only at hSw); go_simp; try (with_reducible rfl))
          try simp only [Act.put, List.setIfInBounds_toArray, List.set_cons_zero, List.set_cons_succ]
          refine RegH.takeH (i := 3) (v := ?_) rfl (by kernel_rfl) (by kernel_rfl) (by kernel_rfl) (fun _ _ _ h => h) (Or.inl ⟨by rfl, ?_⟩) (by assumption) ?_
          rotate_left
          · (intro wS hSw; (try dsimp only at hSw); go_simp; try (with_reducible rfl))
          try simp only [Act.put, List.setIfInBounds_toArray, List.set_cons_zero, List.set_cons_succ]
          refine RegH.takeH (i := 4) (v := ?_) rfl (by kernel_rfl) (by kernel_rfl) (by kernel_rfl) (fun _ _ _ h => h) (Or.inl ⟨by rfl, ?_⟩) (by assumption) ?_
          rotate_left
          · (intro wS hSw; (try dsimp only at hSw); go_simp; try (with_reducible rfl))
          try simp only [Act.put, List.setIfInBounds_toArray, List.set_cons_zero, List.set_cons_succ]
          refine RegH.takeH (i := 5) (v := ?_) rfl (by kernel_rfl) (by kernel_rfl) (by kernel_rfl) (fun _ _ _ h => h) (Or.inl ⟨by rfl, ?_⟩) (by assumption) ?_
          rotate_left
          · (intro wS hSw; (try dsimp only at hSw); go_simp; try (with_reducible rfl))
          try simp only [Act.put, List.setIfInBounds_toArray, List.set_cons_zero, List.set_cons_succ]
          refine RegH.takeH (i := 6) (v := ?_) rfl (by kernel_rfl) (by kernel_rfl) (by kernel_rfl) (fun _ _ _ h => h) (Or.inl ⟨by rfl, ?_⟩) (by assumption) ?_
          rotate_left
          · (intro wS hSw; (try dsimp only at hSw); go_simp; try (with_reducible rfl))
          try simp only [Act.put, List.setIfInBounds_toArray, List.set_cons_zero, List.set_cons_succ]
          refine RegH.takeH (i := 7) rfl (by kernel_rfl) (by kernel_rfl) (by kernel_rfl) (fun _ _ _ h => h) (Or.inr ⟨by rfl, rfl⟩) (by assumption) ?_
          try simp only [Act.put, List.setIfInBounds_toArray, List.set_cons_zero, List.set_cons_succ]
          refine RegH.takeH (i := 8) rfl (by kernel_rfl) (by kernel_rfl) (by kernel_rfl) (fun _ _ _ h => h) (Or.inr ⟨by rfl, rfl⟩) (by assumption) ?_
          try simp only [Act.put, List.setIfInBounds_toArray, List.set_cons_zero, List.set_cons_succ]
          refine RegH.takeH (i := 9) rfl (by kernel_rfl) (by kernel_rfl) (by kernel_rfl) (fun _ _ _ h => h) (Or.inr ⟨by rfl, rfl⟩) (by assumption) ?_
          try simp only [Act.put, List.setIfInBounds_toArray, List.set_cons_zero, List.set_cons_succ]
          refine RegH.takeH (i := 10) rfl (by kernel_rfl) (by kernel_rfl) (by kernel_rfl) (fun _ _ _ h => h) (Or.inr ⟨by rfl, rfl⟩) (by assumption) ?_
          try simp only [Act.put, List.setIfInBounds_toArray, List.set_cons_zero, List.set_cons_succ]
          refine RegH.takeH (i := 11) rfl (by kernel_rfl) (by kernel_rfl) (by kernel_rfl) (fun _ _ _ h => h) (Or.inr ⟨by rfl, rfl⟩) (by assumption) ?_
          try simp only [Act.put, List.setIfInBounds_toArray, List.set_cons_zero, List.set_cons_succ]
          refine RegH.takeH (i := 12) rfl (by kernel_rfl) (by kernel_rfl) (by kernel_rfl) (fun _ _ _ h => h) (Or.inr ⟨by rfl, rfl⟩) (by assumption) ?_
          try simp only [Act.put, List.setIfInBounds_toArray, List.set_cons_zero, List.set_cons_succ]
          refine RegH.takeH (i := 13) rfl (by kernel_rfl) (by kernel_rfl) (by kernel_rfl) (fun _ _ _ h => h) (Or.inr ⟨by rfl, rfl⟩) (by assumption) ?_
          try simp only [Act.put, List.setIfInBounds_toArray, List.set_cons_zero, List.set_cons_succ]
          refine RegH.takeH (i := 14) rfl (by kernel_rfl) (by kernel_rfl) (by kernel_rfl) (fun _ _ _ h => h) (Or.inr ⟨by rfl, rfl⟩) (by assumption) ?_
          try simp only [Act.put, List.setIfInBounds_toArray, List.set_cons_zero, List.set_cons_succ]
          refine RegH.takeH (i := 15) rfl (by kernel_rfl) (by kernel_rfl) (by kernel_rfl) (fun _ _ _ h => h) (Or.inr ⟨by rfl, rfl⟩) (by assumption) ?_
          try simp only [Act.put, List.setIfInBounds_toArray, List.set_cons_zero, List.set_cons_succ]
          refine RegH.takeH (i := 16) (v := ?_) rfl (by kernel_rfl) (by kernel_rfl) (by kernel_rfl) (fun _ _ _ h => h) (Or.inl ⟨by rfl, ?_⟩) (by assumption) ?_
          rotate_left
          · (intro wS hSw; (try dsimp only at hSw); go_simp; try (with_reducible rfl))
          try simp only [Act.put, List.setIfInBounds_toArray, List.set_cons_zero, List.set_cons_succ]
          refine RegH.takeH (i := 17) (v := ?_) rfl (by kernel_rfl) (by kernel_rfl) (by kernel_rfl) (fun _ _ _ h => h) (Or.inl ⟨by rfl, ?_⟩) (by assumption) ?_
          rotate_left
          · (intro wS hSw; (try dsimp only at hSw); go_simp; try (with_reducible rfl))
          try simp only [Act.put, List.setIfInBounds_toArray, List.set_cons_zero, List.set_cons_succ]
          refine wpAnyH_done (by kernel_rfl) ?_ _
          go_wp2_with fail
          go_roundw
          case rel => exact ⟨k + 1, by omega, by go_num, HN1.out, HN2.out, below_then HWR.out (below_then (show Below wr.heap.size wr w1 from HBG.out) (show Below w1.heap.size w1 wq from kq))⟩
          case measure => simp [intOf]; omega
        · have hg1 : ((0 : Int) < (k : Int)) = True := by simp only [eq_iff_iff, iff_true]; omega
          have hg2 : (0 < k) = True := by simp only [eq_iff_iff, iff_true]; omega
          obtain ⟨j, hj⟩ : ∃ j, k = j + 1 := ⟨k - 1, by omega⟩
          have hjl : j < l.length := by omega
          obtain ⟨b', off', cap'', vs, e1, _, _, hat, hu⟩ := Cd.sl_at (HR1.out w1 (below_then HBW.out HBG.out)) hjl
          injection e1 with e1 g1 g2
          injection e1 with e1
          injection e1 with e1 e2
          subst e1 e2
          clear g1 g2
          obtain ⟨x', y', z', rfl⟩ := len_list (tabC.len hu)
          have q0 := hat 0 (by simp)
          have q1 := hat 1 (by simp)
          have q2 := hat 2 (by simp)
          simp only [List.getElem_cons_zero, List.getElem_cons_succ, Nat.add_zero, show tabC.n = 3 from rfl] at q0 q1 q2
          obtain ⟨nj, hnj⟩ : ∃ nj, nj = (l[j]).1 := ⟨_, rfl⟩
          obtain rfl : x' = .string nj := by rw [hnj]; exact name_cell hu
          obtain ⟨rj, hrj⟩ : ∃ rj, rj = (l[j]).2.1 := ⟨_, rfl⟩
          obtain ⟨qj, hqj⟩ : ∃ qj, qj = (l[j]).2.2.length := ⟨_, rfl⟩
          obtain ⟨aj, cj, hsh⟩ : ∃ a c, [y', z'] = [.int .i64 rj, .slice a qj c] := by
            obtain ⟨u, e, _, _, h3⟩ := tab_cells hu
            obtain ⟨a, c, rfl, _⟩ := rows_form h3
            injection e with _ e
            exact ⟨a, c, by rw [hrj, hqj]; exact e⟩
          injection hsh with hy hsh
          injection hsh with hzz
          subst hy hzz
          have HQ := Lib.hid (And.intro q0 (And.intro q1 q2))
          have HNJ := Lib.hid (show nj = (l[j]).1 from hnj)
          have j1 : (k : Int) - 1 = (j : Int) := by omega
          have j2 : IntKind.i64.wrap (j : Int) = (j : Int) := by rw [IntKind.wrap_i64]; omega
          have j3 : (0 : Int) ≤ (j : Int) := by omega
          have j4 : (j : Int) < (l.length : Int) := by omega
          have HJ := Lib.hid hj
          have q0' : w1.drew.cell? ⟨b, off + j * 3, none⟩ = some (.string nj) := q0
          have q1' : w1.drew.cell? ⟨b, off + j * 3 + 1, none⟩ = some (.int .i64 rj) := q1
          have q2' : w1.drew.cell? ⟨b, off + j * 3 + 2, none⟩ = some (.slice aj qj cj) := q2
          clear hat hu hk0 hnj hj hrj hqj
          cases hlt2 : ltB nj nk
          · have HZ := Lib.hid (show dbOk l = false from dbOk_no.2 fun q => by have e := HJ.out; subst e; have := asc_at q.2.2 hlt; rw [← HNJ.out, ← HNK.out, hlt2] at this; cases this)
            obtain ⟨c, hc, hc0⟩ : ∃ c, cmpN nj nk = c ∧ (0 ≤ c) = True := ⟨_, rfl, by simp only [eq_iff_iff, iff_true]; have := cmpN_lt nj nk; rw [hlt2] at this; simp at this; exact this⟩
            have HCN := Lib.hid hc
            clear hc
            refine wp_region_held_drew (S := fun wx => wx.cell? ⟨w.heap.size, 0, none⟩ = some (.slice (some ⟨b, off, none⟩) l.length cap1) ∧ wx.cell? ⟨wr.heap.size, 0, none⟩ = some (.string nk) ∧ wx.cell? ⟨wr.heap.size, 1, none⟩ = some (.int .i64 rk) ∧ wx.cell? ⟨wr.heap.size, 2, none⟩ = some (.slice ak qk ck) ∧ wx.cell? ⟨b, off + j * 3, none⟩ = some (.string nj) ∧ wx.cell? ⟨b, off + j * 3 + 1, none⟩ = some (.int .i64 rj) ∧ wx.cell? ⟨b, off + j * 3 + 2, none⟩ = some (.slice aj qj cj) ∧ LaterD w1 wx) (by kernel_rfl) ?_ (fun hHeld => ?_)
            · (refine ⟨?_, ?_, ?_, ?_, ?_, ?_, ?_, ?_⟩ <;> first | assumption | (simp [*]; done))
            refine RegH.takeH (i := 0) (v := ?_) rfl (by kernel_rfl) (by kernel_rfl) (by kernel_rfl) (fun _ _ _ h => h) (Or.inl ⟨by rfl, ?_⟩) (by assumption) ?_
            rotate_left
            · (intro wS hSw; (try dsimp only at hSw); go_simp; try (with_reducible rfl))
            try simp only [Act.put, List.setIfInBounds_toArray, List.set_cons_zero, List.set_cons_succ]
            refine RegH.consH (i := 1) rfl (by kernel_rfl) (fun K hK => ?_)
            go_simp
            go_at_call 53
            refine (HE.out _ kw).mono ?_
            rintro e wq ⟨rfl, hbq⟩
            have kq : LaterD w1 wq := below_then (show Below w1.heap.size w1 w1.drew from kk) hbq
            have n0 := (Below.cell kq (p := ⟨w.heap.size, 0, none⟩) HGL.out.1).trans HG.out.1
            have n1 := (Below.cell kq (p := ⟨wr.heap.size, 0, none⟩) HGL.out.2.1).trans HG.out.2.1
            have n2 := (Below.cell kq (p := ⟨wr.heap.size, 1, none⟩) HGL.out.2.1).trans HG.out.2.2.1
            have n3 := (Below.cell kq (p := ⟨wr.heap.size, 2, none⟩) HGL.out.2.1).trans HG.out.2.2.2
            have n4 := (Below.cell kq (p := ⟨b, off + j * 3, none⟩) HGL.out.2.2).trans HQ.out.1
            have n5 := (Below.cell kq (p := ⟨b, off + j * 3 + 1, none⟩) HGL.out.2.2).trans HQ.out.2.1
            have n6 := (Below.cell kq (p := ⟨b, off + j * 3 + 2, none⟩) HGL.out.2.2).trans HQ.out.2.2
            clear hbq
            go_wp2_with fail
            refine hK.out _ _ ?_ (fun hHeld => ?_)
            · (refine ⟨?_, ?_, ?_, ?_, ?_, ?_, ?_, ?_⟩ <;> first | assumption | (simp [*]; done))
            clear hK K
            try simp only [Act.put, List.setIfInBounds_toArray, List.set_cons_zero, List.set_cons_succ]
            refine RegH.takeH (i := 2) (v := ?_) rfl (by kernel_rfl) (by kernel_rfl) (by kernel_rfl) (fun _ _ _ h => h) (Or.inl ⟨by rfl, ?_⟩) (by assumption) ?_
            rotate_left
            · (intro wS hSw; (try dsimp only at hSw); go_simp; try (with_reducible rfl))
            try simp only [Act.put, List.setIfInBounds_toArray, List.set_cons_zero, List.set_cons_succ]
            refine RegH.takeH (i := 3) (v := ?_) rfl (by kernel_rfl) (by kernel_rfl) (by kernel_rfl) (fun _ _ _ h => h) (Or.inl ⟨by rfl, ?_⟩) (by assumption) ?_
            rotate_left
            · (intro wS hSw; (try dsimp only at hSw); go_simp; try (with_reducible rfl))
            try simp only [Act.put, List.setIfInBounds_toArray, List.set_cons_zero, List.set_cons_succ]
            refine RegH.takeH (i := 4) (v := ?_) rfl (by kernel_rfl) (by kernel_rfl) (by kernel_rfl) (fun _ _ _ h => h) (Or.inl ⟨by rfl, ?_⟩) (by assumption) ?_
            rotate_left
            · (intro wS hSw; (try dsimp only at hSw); go_simp; try (with_reducible rfl))
            try simp only [Act.put, List.setIfInBounds_toArray, List.set_cons_zero, List.set_cons_succ]
            refine RegH.takeH (i := 5) (v := ?_) rfl (by kernel_rfl) (by kernel_rfl) (by kernel_rfl) (fun _ _ _ h => h) (Or.inl ⟨by rfl, ?_⟩) (by assumption) ?_
            rotate_left
            · (intro wS hSw; (try dsimp only at hSw); go_simp; try (with_reducible rfl))
            try simp only [Act.put, List.setIfInBounds_toArray, List.set_cons_zero, List.set_cons_succ]
            refine RegH.takeH (i := 6) (v := ?_) rfl (by kernel_rfl) (by kernel_rfl) (by kernel_rfl) (fun _ _ _ h => h) (Or.inl ⟨by rfl, ?_⟩) (by assumption) ?_
            rotate_left
            · (intro wS hSw; (try dsimp only at hSw); go_simp; try (with_reducible rfl))
            try simp only [Act.put, List.setIfInBounds_toArray, List.set_cons_zero, List.set_cons_succ]
            refine RegH.takeH (i := 7) (v := ?_) rfl (by kernel_rfl) (by kernel_rfl) (by kernel_rfl) (fun _ _ _ h => h) (Or.inl ⟨by rfl, ?_⟩) (by assumption) ?_
            rotate_left
            · (intro wS hSw; (try dsimp only at hSw); go_simp; try (with_reducible rfl))
            try simp only [Act.put, List.setIfInBounds_toArray, List.set_cons_zero, List.set_cons_succ]
            refine RegH.takeH (i := 8) (v := ?_) rfl (by kernel_rfl) (by kernel_rfl) (by kernel_rfl) (fun _ _ _ h => h) (Or.inl ⟨by rfl, ?_⟩) (by assumption) ?_
            rotate_left
            · (intro wS hSw; (try dsimp only at hSw); go_simp; try (with_reducible rfl))
            try simp only [Act.put, List.setIfInBounds_toArray, List.set_cons_zero, List.set_cons_succ]
            refine RegH.takeH (i := 9) (v := ?_) rfl (by kernel_rfl) (by kernel_rfl) (by kernel_rfl) (fun _ _ _ h => h) (Or.inl ⟨by rfl, ?_⟩) (by assumption) ?_
            rotate_left
            · (intro wS hSw; (try dsimp only at hSw); go_simp; try (with_reducible rfl))
            try simp only [Act.put, List.setIfInBounds_toArray, List.set_cons_zero, List.set_cons_succ]
            refine RegH.takeH (i := 10) (v := ?_) rfl (by kernel_rfl) (by kernel_rfl) (by kernel_rfl) (fun _ _ _ h => h) (Or.inl ⟨by rfl, ?_⟩) (by assumption) ?_
            rotate_left
            · (intro wS hSw; (try dsimp only at hSw); go_simp; try (with_reducible rfl))
            try simp only [Act.put, List.setIfInBounds_toArray, List.set_cons_zero, List.set_cons_succ]
            refine RegH.takeH (i := 11) (v := ?_) rfl (by kernel_rfl) (by kernel_rfl) (by kernel_rfl) (fun _ _ _ h => h) (Or.inl ⟨by rfl, ?_⟩) (by assumption) ?_
            rotate_left
            · (intro wS hSw; (try dsimp only at hSw); go_simp; try (with_reducible rfl))
            try simp only [Act.put, List.setIfInBounds_toArray, List.set_cons_zero, List.set_cons_succ]
            refine RegH.takeH (i := 12) (v := ?_) rfl (by kernel_rfl) (by kernel_rfl) (by kernel_rfl) (fun _ _ _ h => h) (Or.inl ⟨by rfl, ?_⟩) (by assumption) ?_
            rotate_left
            · (intro wS hSw; (try dsimp only at hSw); go_simp; try (with_reducible rfl))
            try simp only [Act.put, List.setIfInBounds_toArray, List.set_cons_zero, List.set_cons_succ]
            refine RegH.takeH (i := 13) (v := ?_) rfl (by kernel_rfl) (by kernel_rfl) (by kernel_rfl) (fun _ _ _ h => h) (Or.inl ⟨by rfl, ?_⟩) (by assumption) ?_
            rotate_left
            · (intro wS hSw; (try dsimp only at hSw); go_simp; try (with_reducible rfl))
            try simp only [Act.put, List.setIfInBounds_toArray, List.set_cons_zero, List.set_cons_succ]
            refine RegH.consH (i := 14) rfl (by kernel_rfl) (fun K hK => ?_)
            go_simp
            go_at_call 78
            refine (cmp_names nj nk _ _ _ _ _).mono ?_
            rintro e wp ⟨rfl, os, hwp⟩
            have kp : LaterD w1 wp := below_then (show Below w1.heap.size w1 wq from kq) (by rw [hwp]; exact below_grow _ _)
            have n0 := (Below.cell kp (p := ⟨w.heap.size, 0, none⟩) HGL.out.1).trans HG.out.1
            have n1 := (Below.cell kp (p := ⟨wr.heap.size, 0, none⟩) HGL.out.2.1).trans HG.out.2.1
            have n2 := (Below.cell kp (p := ⟨wr.heap.size, 1, none⟩) HGL.out.2.1).trans HG.out.2.2.1
            have n3 := (Below.cell kp (p := ⟨wr.heap.size, 2, none⟩) HGL.out.2.1).trans HG.out.2.2.2
            have n4 := (Below.cell kp (p := ⟨b, off + j * 3, none⟩) HGL.out.2.2).trans HQ.out.1
            have n5 := (Below.cell kp (p := ⟨b, off + j * 3 + 1, none⟩) HGL.out.2.2).trans HQ.out.2.1
            have n6 := (Below.cell kp (p := ⟨b, off + j * 3 + 2, none⟩) HGL.out.2.2).trans HQ.out.2.2
            clear hwp
            rw [HCN.out]
            go_wp2_with fail
            refine hK.out _ _ ?_ (fun hHeld => ?_)
            · (refine ⟨?_, ?_, ?_, ?_, ?_, ?_, ?_, ?_⟩ <;> first | assumption | (simp [*]; done))
            clear hK K
            try simp only [Act.put, List.setIfInBounds_toArray, List.set_cons_zero, List.set_cons_succ]
            refine RegH.takeH (i := 15) (v := ?_) rfl (by kernel_rfl) (by kernel_rfl) (by kernel_rfl) (fun _ _ _ h => h) (Or.inl ⟨by rfl, ?_⟩) (by assumption) ?_
            rotate_left
            · (intro wS hSw; (try dsimp only at hSw); go_simp; try (with_reducible rfl))
            try simp only [Act.put, List.setIfInBounds_toArray, List.set_cons_zero, List.set_cons_succ]
            refine RegH.takeH (i := 16) (v := ?_) rfl (by kernel_rfl) (by kernel_rfl) (by kernel_rfl) (fun _ _ _ h => h) (Or.inl ⟨by rfl, ?_⟩) (by assumption) ?_
            rotate_left
            · (intro wS hSw; (try dsimp only at hSw); go_simp; try (with_reducible rfl))
            try simp only [Act.put, List.setIfInBounds_toArray, List.set_cons_zero, List.set_cons_succ]
            refine RegH.takeH (i := 17) (v := ?_) rfl (by kernel_rfl) (by kernel_rfl) (by kernel_rfl) (fun _ _ _ h => h) (Or.inl ⟨by rfl, ?_⟩) (by assumption) ?_
            rotate_left
            · (intro wS hSw; (try dsimp only at hSw); go_simp; try (with_reducible rfl))
            try simp only [Act.put, List.setIfInBounds_toArray, List.set_cons_zero, List.set_cons_succ]
            refine wpAnyH_done (by kernel_rfl) ?_ _
            go_wp2_with fail
            go_ret
            exact ⟨DbSpec.ret_b HZ.out.symm, below_then HBW.out (below_then (show Below wr.heap.size wr w1 from HBG.out) (show Below w1.heap.size w1 wp from kp))⟩
          · have HN2 := Lib.hid (asc_more HAS.out hlt (fun i e hi => by have e2 := HJ.out; obtain rfl : i = j := (by omega); rw [← HNJ.out, ← HNK.out]; exact hlt2))
            obtain ⟨c, hc, hc0⟩ : ∃ c, cmpN nj nk = c ∧ (0 ≤ c) = False := ⟨_, rfl, by simp only [eq_iff_iff, iff_false]; have := (cmpN_lt nj nk).2 hlt2; omega⟩
            have HCN := Lib.hid hc
            clear hc
            refine wp_region_held_drew (S := fun wx => wx.cell? ⟨w.heap.size, 0, none⟩ = some (.slice (some ⟨b, off, none⟩) l.length cap1) ∧ wx.cell? ⟨wr.heap.size, 0, none⟩ = some (.string nk) ∧ wx.cell? ⟨wr.heap.size, 1, none⟩ = some (.int .i64 rk) ∧ wx.cell? ⟨wr.heap.size, 2, none⟩ = some (.slice ak qk ck) ∧ wx.cell? ⟨b, off + j * 3, none⟩ = some (.string nj) ∧ wx.cell? ⟨b, off + j * 3 + 1, none⟩ = some (.int .i64 rj) ∧ wx.cell? ⟨b, off + j * 3 + 2, none⟩ = some (.slice aj qj cj) ∧ LaterD w1 wx) (by kernel_rfl) ?_ (fun hHeld => ?_)
            · (refine ⟨?_, ?_, ?_, ?_, ?_, ?_, ?_, ?_⟩ <;> first | assumption | (simp [*]; done))
            refine RegH.takeH (i := 0) (v := ?_) rfl (by kernel_rfl) (by kernel_rfl) (by kernel_rfl) (fun _ _ _ h => h) (Or.inl ⟨by rfl, ?_⟩) (by assumption) ?_
            rotate_left
            · (intro wS hSw; (try dsimp only at hSw); go_simp; try (with_reducible rfl))
            try simp only [Act.put, List.setIfInBounds_toArray, List.set_cons_zero, List.set_cons_succ]
            refine RegH.consH (i := 1) rfl (by kernel_rfl) (fun K hK => ?_)
            go_simp
            go_at_call 53
            refine (HE.out _ kw).mono ?_
            rintro e wq ⟨rfl, hbq⟩
            have kq : LaterD w1 wq := below_then (show Below w1.heap.size w1 w1.drew from kk) hbq
            have n0 := (Below.cell kq (p := ⟨w.heap.size, 0, none⟩) HGL.out.1).trans HG.out.1
            have n1 := (Below.cell kq (p := ⟨wr.heap.size, 0, none⟩) HGL.out.2.1).trans HG.out.2.1
            have n2 := (Below.cell kq (p := ⟨wr.heap.size, 1, none⟩) HGL.out.2.1).trans HG.out.2.2.1
            have n3 := (Below.cell kq (p := ⟨wr.heap.size, 2, none⟩) HGL.out.2.1).trans HG.out.2.2.2
            have n4 := (Below.cell kq (p := ⟨b, off + j * 3, none⟩) HGL.out.2.2).trans HQ.out.1
            have n5 := (Below.cell kq (p := ⟨b, off + j * 3 + 1, none⟩) HGL.out.2.2).trans HQ.out.2.1
            have n6 := (Below.cell kq (p := ⟨b, off + j * 3 + 2, none⟩) HGL.out.2.2).trans HQ.out.2.2
            clear hbq
            go_wp2_with fail
            refine hK.out _ _ ?_ (fun hHeld => ?_)
            · (refine ⟨?_, ?_, ?_, ?_, ?_, ?_, ?_, ?_⟩ <;> first | assumption | (simp [*]; done))
            clear hK K
            try simp only [Act.put, List.setIfInBounds_toArray, List.set_cons_zero, List.set_cons_succ]
            refine RegH.takeH (i := 2) (v := ?_) rfl (by kernel_rfl) (by kernel_rfl) (by kernel_rfl) (fun _ _ _ h => h) (Or.inl ⟨by rfl, ?_⟩) (by assumption) ?_
            rotate_left
            · (intro wS hSw; (try dsimp only at hSw); go_simp; try (with_reducible rfl))
            try simp only [Act.put, List.setIfInBounds_toArray, List.set_cons_zero, List.set_cons_succ]
            refine RegH.takeH (i := 3) (v := ?_) rfl (by kernel_rfl) (by kernel_rfl) (by kernel_rfl) (fun _ _ _ h => h) (Or.inl ⟨by rfl, ?_⟩) (by assumption) ?_
            rotate_left
            · (intro wS hSw; (try dsimp only at hSw); go_simp; try (with_reducible rfl))
            try simp only [Act.put, List.setIfInBounds_toArray, List.set_cons_zero, List.set_cons_succ]
            refine RegH.takeH (i := 4) (v := ?_) rfl (by kernel_rfl) (by kernel_rfl) (by kernel_rfl) (fun _ _ _ h => h) (Or.inl ⟨by rfl, ?_⟩) (by assumption) ?_
            rotate_left
            · (intro wS hSw; (try dsimp only at hSw); go_simp; try (with_reducible rfl))
            try simp only [Act.put, List.setIfInBounds_toArray, List.set_cons_zero, List.set_cons_succ]
            refine RegH.takeH (i := 5) (v := ?_) rfl (by kernel_rfl) (by kernel_rfl) (by kernel_rfl) (fun _ _ _ h => h) (Or.inl ⟨by rfl, ?_⟩) (by assumption) ?_
            rotate_left
            · (intro wS hSw; (try dsimp only at hSw); go_simp; try (with_reducible rfl))
            try simp only [Act.put, List.setIfInBounds_toArray, List.set_cons_zero, List.set_cons_succ]
            refine RegH.takeH (i := 6) (v := ?_) rfl (by kernel_rfl) (by kernel_rfl) (by kernel_rfl) (fun _ _ _ h => h) (Or.inl ⟨by rfl, ?_⟩) (by assumption) ?_
            rotate_left
            · (intro wS hSw; (try dsimp only at hSw); go_simp; try (with_reducible rfl))
            try simp only [Act.put, List.setIfInBounds_toArray, List.set_cons_zero, List.set_cons_succ]
            refine RegH.takeH (i := 7) (v := ?_) rfl (by kernel_rfl) (by kernel_rfl) (by kernel_rfl) (fun _ _ _ h => h) (Or.inl ⟨by rfl, ?_⟩) (by assumption) ?_
            rotate_left
            · (intro wS hSw; (try dsimp only at hSw); go_simp; try (with_reducible rfl))
            try simp only [Act.put, List.setIfInBounds_toArray, List.set_cons_zero, List.set_cons_succ]
            refine RegH.takeH (i := 8) (v := ?_) rfl (by kernel_rfl) (by kernel_rfl) (by kernel_rfl) (fun _ _ _ h => h) (Or.inl ⟨by rfl, ?_⟩) (by assumption) ?_
            rotate_left
            · (intro wS hSw; (try dsimp only at hSw); go_simp; try (with_reducible rfl))
            try simp only [Act.put, List.setIfInBounds_toArray, List.set_cons_zero, List.set_cons_succ]
            refine RegH.takeH (i := 9) (v := ?_) rfl (by kernel_rfl) (by kernel_rfl) (by kernel_rfl) (fun _ _ _ h => h) (Or.inl ⟨by rfl, ?_⟩) (by assumption) ?_
            rotate_left
            · (intro wS hSw; (try dsimp only at hSw); go_simp; try (with_reducible rfl))
            try simp only [Act.put, List.setIfInBounds_toArray, List.set_cons_zero, List.set_cons_succ]
            refine RegH.takeH (i := 10) (v := ?_) rfl (by kernel_rfl) (by kernel_rfl) (by kernel_rfl) (fun _ _ _ h => h) (Or.inl ⟨by rfl, ?_⟩) (by assumption) ?_
            rotate_left
            · (intro wS hSw; (try dsimp only at hSw); go_simp; try (with_reducible rfl))
            try simp only [Act.put, List.setIfInBounds_toArray, List.set_cons_zero, List.set_cons_succ]
            refine RegH.takeH (i := 11) (v := ?_) rfl (by kernel_rfl) (by kernel_rfl) (by kernel_rfl) (fun _ _ _ h => h) (Or.inl ⟨by rfl, ?_⟩) (by assumption) ?_
            rotate_left
            · (intro wS hSw; (try dsimp only at hSw); go_simp; try (with_reducible rfl))
            try simp only [Act.put, List.setIfInBounds_toArray, List.set_cons_zero, List.set_cons_succ]
            refine RegH.takeH (i := 12) (v := ?_) rfl (by kernel_rfl) (by kernel_rfl) (by kernel_rfl) (fun _ _ _ h => h) (Or.inl ⟨by rfl, ?_⟩) (by assumption) ?_
            rotate_left
            · (intro wS hSw; (try dsimp only at hSw); go_simp; try (with_reducible rfl))
            try simp only [Act.put, List.setIfInBounds_toArray, List.set_cons_zero, List.set_cons_succ]
            refine RegH.takeH (i := 13) (v := ?_) rfl (by kernel_rfl) (by kernel_rfl) (by kernel_rfl) (fun _ _ _ h => h) (Or.inl ⟨by rfl, ?_⟩) (by assumption) ?_
            rotate_left
            · (intro wS hSw; (try dsimp only at hSw); go_simp; try (with_reducible rfl))
            try simp only [Act.put, List.setIfInBounds_toArray, List.set_cons_zero, List.set_cons_succ]
            refine RegH.consH (i := 14) rfl (by kernel_rfl) (fun K hK => ?_)
            go_simp
            go_at_call 78
            refine (cmp_names nj nk _ _ _ _ _).mono ?_
            rintro e wp ⟨rfl, os, hwp⟩
            have kp : LaterD w1 wp := below_then (show Below w1.heap.size w1 wq from kq) (by rw [hwp]; exact below_grow _ _)
            have n0 := (Below.cell kp (p := ⟨w.heap.size, 0, none⟩) HGL.out.1).trans HG.out.1
            have n1 := (Below.cell kp (p := ⟨wr.heap.size, 0, none⟩) HGL.out.2.1).trans HG.out.2.1
            have n2 := (Below.cell kp (p := ⟨wr.heap.size, 1, none⟩) HGL.out.2.1).trans HG.out.2.2.1
            have n3 := (Below.cell kp (p := ⟨wr.heap.size, 2, none⟩) HGL.out.2.1).trans HG.out.2.2.2
            have n4 := (Below.cell kp (p := ⟨b, off + j * 3, none⟩) HGL.out.2.2).trans HQ.out.1
            have n5 := (Below.cell kp (p := ⟨b, off + j * 3 + 1, none⟩) HGL.out.2.2).trans HQ.out.2.1
            have n6 := (Below.cell kp (p := ⟨b, off + j * 3 + 2, none⟩) HGL.out.2.2).trans HQ.out.2.2
            clear hwp
            rw [HCN.out]
            go_wp2_with fail
            refine hK.out _ _ ?_ (fun hHeld => ?_)
            · (refine ⟨?_, ?_, ?_, ?_, ?_, ?_, ?_, ?_⟩ <;> first | assumption | (simp [*]; done))
            clear hK K
            try simp only [Act.put, List.setIfInBounds_toArray, List.set_cons_zero, List.set_cons_succ]
            refine RegH.takeH (i := 15) (v := ?_) rfl (by kernel_rfl) (by kernel_rfl) (by kernel_rfl) (fun _ _ _ h => h) (Or.inl ⟨by rfl, ?_⟩) (by assumption) ?_
            rotate_left
            · (intro wS hSw; (try dsimp only at hSw); go_simp; try (with_reducible rfl))
            try simp only [Act.put, List.setIfInBounds_toArray, List.set_cons_zero, List.set_cons_succ]
            refine RegH.takeH (i := 16) (v := ?_) rfl (by kernel_rfl) (by kernel_rfl) (by kernel_rfl) (fun _ _ _ h => h) (Or.inl ⟨by rfl, ?_⟩) (by assumption) ?_
            rotate_left
            · (intro wS hSw; (try dsimp only at hSw); go_simp; try (with_reducible rfl))
            try simp only [Act.put, List.setIfInBounds_toArray, List.set_cons_zero, List.set_cons_succ]
            refine RegH.takeH (i := 17) (v := ?_) rfl (by kernel_rfl) (by kernel_rfl) (by kernel_rfl) (fun _ _ _ h => h) (Or.inl ⟨by rfl, ?_⟩) (by assumption) ?_
            rotate_left
            · (intro wS hSw; (try dsimp only at hSw); go_simp; try (with_reducible rfl))
            try simp only [Act.put, List.setIfInBounds_toArray, List.set_cons_zero, List.set_cons_succ]
            refine wpAnyH_done (by kernel_rfl) ?_ _
            go_wp2_with fail
            go_roundw
            case rel => exact ⟨k + 1, by omega, by go_num, HN1.out, HN2.out, below_then HWR.out (below_then (show Below wr.heap.size wr w1 from HBG.out) (show Below w1.heap.size w1 wp from kp))⟩
            case measure => simp [intOf]; omega
    · have ek : k = l.length := by omega
      subst ek
      have HP := Lib.hid (show dbOk l = true from by
        have h1 := HOK.out
        have h2 := HAS.out
        rw [List.take_length] at h1 h2
        exact dbOk_iff.2 ⟨H6.out, h1, h2⟩)
      go_wp2_with fail
      go_ret
      exact ⟨DbSpec.ret_b HP.out.symm, HBW.out⟩
end Go.Proofs.YtmifnbplkaonaaaGreat.DbImp

namespace Go.Proofs.YtmifnbplkaonaaaGreat.DbImp
open Go Go.RowKit Byt Ints IntsLaw Cd Rows2 Tab SlMath TabOpen TabElem SlTable Db TabSpec DbMath TabImp
open DbSpec (LaterD drewD row1 rows_cell cntRows_succ cntRows_take cntRows_le name_cell sameT_iff take_ne take_eq)

/-- The cells of an element. -/
theorem elem_form {w : World} {S : Nat → Prop} {us : List Value} {T : T3} (h : tabC.rd w S us T) : ∃ a c, us = [.string T.1, .int .i64 T.2.1, .slice a T.2.2.length c] := by
  obtain ⟨u, rfl, _, _, h3⟩ := tab_cells h
  obtain ⟨a, c, rfl, _⟩ := rows_form h3
  exact ⟨a, c, rfl⟩

theorem eqt_elem_i (us vs : List Value) (T U : T3) (S S2 : Nat → Prop) (w : World) (hu : tabC.rd w S us T) (hv : tabC.rd w S2 vs U) :
    Calls Tryz.prog 32 #[.agg us.toArray, .agg vs.toArray] w fun e w' => e = .returned (.bool (decide (T = U))) ∧ Below w.heap.size w w' := by
  obtain ⟨u, rfl, _, _, h3⟩ := tab_cells hu
  obtain ⟨u2, rfl, _, _, h4⟩ := tab_cells hv
  have h := impl_equal T.1 U.1 T.2.1 U.2.1 u u2 T.2.2 U.2.2 S S2 w h3 h4
  rw [sameT_iff] at h
  exact h
set_option maxRecDepth 100000 in
set_option maxHeartbeats 1600000 in
theorem equal_func (u1 u2 : Value) (l1 l2 : List T3) (S1 S2 : Nat → Prop) (w : World) (h1 : tabsC.rd w S1 [u1] l1) (h2 : tabsC.rd w S2 [u2] l2) :
    Calls Tryz.prog 31 #[u1, u2, .func (.func 32) #[] #[]] w fun e w' => e = .returned (.bool (decide (l1 = l2))) ∧ Below w.heap.size w w' := by
  have HR1 := Lib.hid (fun w' (hb : Below w.heap.size w w') => Cd.later h1 hb)
  have HR2 := Lib.hid (fun w' (hb : Below w.heap.size w w') => Cd.later h2 hb)
  obtain ⟨a1, cap1, rfl, hl1⟩ := Cd.sl_form h1
  obtain ⟨a2, cap2, rfl, hl2⟩ := Cd.sl_form h2
  clear h1 h2
  by_cases hlen : l1.length = l2.length
  case neg =>
    have HZ := Lib.hid (show decide (l1 = l2) = false from decide_eq_false fun q => hlen (by rw [q]))
    have ht : ((l1.length : Int) != (l2.length : Int)) = true := by rw [bne_iff_ne]; omega
    go_enter Tryz.func31, Tryz.ntmps31
    go_wp2_with fail
    go_ret
    exact ⟨DbSpec.ret_b HZ.out.symm, Below.refl _ _⟩
  have HLEN := Lib.hid hlen
  rw [hlen]
  clear hlen
  go_enter Tryz.func31, Tryz.ntmps31
  go_wp2_with fail
  go_loopw [17] (fun i wr => ∃ k : Nat, k ≤ l2.length ∧ i = .int .i64 k ∧ l1.take k = l2.take k ∧ Below w.heap.size w wr) (fun i _ => l2.length - (intOf i).toNat)
  case atStart => exact ⟨0, Nat.zero_le _, rfl, by simp, Below.refl _ _⟩
  case round =>
    obtain ⟨k, hk, rfl, htk, hb⟩ := hrel
    have HTK := Lib.hid htk
    have HBW := Lib.hid hb
    clear htk
    by_cases hlt : k < l2.length
    · have hlt1 : k < l1.length := by rw [HLEN.out]; exact hlt
      obtain ⟨b, off, cap', us, e1, _, hbB, hat, hu⟩ := Cd.sl_at (HR1.out wr HBW.out) hlt1
      rw [HLEN.out] at e1
      injection e1 with e1 e2 e3
      subst e1 e3
      obtain ⟨az, cz, rfl⟩ := elem_form hu
      have p0 := hat 0 (by simp)
      have p1 := hat 1 (by simp)
      have p2 := hat 2 (by simp)
      obtain ⟨b', off', cap', us, e1, _, hbB', hat', hu'⟩ := Cd.sl_at (HR2.out wr HBW.out) hlt
      injection e1 with e1 e2 e3
      subst e1 e3
      obtain ⟨ay, cy, rfl⟩ := elem_form hu'
      have q0 := hat' 0 (by simp)
      have q1 := hat' 1 (by simp)
      have q2 := hat' 2 (by simp)
      simp only [List.getElem_cons_zero, List.getElem_cons_succ, Nat.add_zero, show tabC.n = 3 from rfl] at p0 p1 p2 q0 q1 q2
      have HE := Lib.hid (fun w' (hq : LaterD wr w') => eqt_elem_i _ _ l1[k] l2[k] _ _ w' (Cd.later hu hq) (Cd.later hu' hq))
      have HF1 := Lib.hid (fun e : l1[k] = l2[k] => take_eq hlt1 hlt HTK.out e)
      have HF0 := Lib.hid (fun e : l1[k] ≠ l2[k] => take_ne hlt1 hlt e)
      have i1 : (0 : Int) ≤ (k : Int) := by omega
      have i2 : (k : Int) < (l2.length : Int) := by omega
      have kk : LaterD wr ((wr.alloc (.cells #[.string (l1[k]).1, .int .i64 (l1[k]).2.1, .slice az (l1[k]).2.2.length cz] 51 (0, 0))).alloc (.cells #[.string (l2[k]).1, .int .i64 (l2[k]).2.1, .slice ay (l2[k]).2.2.length cy] 51 (0, 0))) := below_then (below_alloc _ _) (below_alloc _ _)
      clear hu hu' hat hat' hb e2
      generalize l1[k] = T at *
      generalize l2[k] = U at *
      go_wp2_with fail
      refine (HE.out _ kk).mono ?_
      rintro e w2 ⟨rfl, hb2⟩
      have HB2 := Lib.hid (below_then HBW.out (below_then (show Below wr.heap.size wr _ from kk) hb2))
      clear hb2 kk
      by_cases hT : T = U
      · have HT := Lib.hid (HF1.out hT)
        rw [show decide (T = U) = true from decide_eq_true hT]
        clear hT
        go_wp2_with fail
        go_roundw
        case rel => exact ⟨k + 1, by omega, by go_num, HT.out, HB2.out⟩
        case measure => simp [intOf]; omega
      · have HZ := Lib.hid (show decide (l1 = l2) = false from decide_eq_false (HF0.out hT))
        rw [show decide (T = U) = false from decide_eq_false hT]
        clear hT
        go_wp2_with fail
        go_ret
        exact ⟨DbSpec.ret_b HZ.out.symm, HB2.out⟩
    · have ek : k = l2.length := by omega
      subst ek
      have HZ := Lib.hid (show decide (l1 = l2) = true from decide_eq_true (by
        have h := HTK.out
        rw [List.take_length, List.take_of_length_le (by rw [HLEN.out]; exact Nat.le_refl _)] at h
        exact h))
      go_wp2_with fail
      go_ret
      exact ⟨DbSpec.ret_b HZ.out.symm, HBW.out⟩
set_option maxRecDepth 100000 in
theorem impl_eqdb (u1 u2 : Value) (l1 l2 : List T3) (S1 S2 : Nat → Prop) (w : World) (h1 : tabsC.rd w S1 [u1] l1) (h2 : tabsC.rd w S2 [u2] l2) :
    Calls Tryz.prog 10 #[.agg #[u1], .agg #[u2]] w fun e w' => e = .returned (.bool (decide (l1 = l2))) ∧ Below w.heap.size w w' := by
  have HE := Lib.hid (fun w' (hb : Below w.heap.size w w') => equal_func u1 u2 l1 l2 S1 S2 w' (Cd.later h1 hb) (Cd.later h2 hb))
  obtain ⟨a1, cap1, rfl, hl1⟩ := Cd.sl_form h1
  obtain ⟨a2, cap2, rfl, hl2⟩ := Cd.sl_form h2
  clear h1 h2
  go_enter Tryz.func10, Tryz.ntmps10
  go_wp2_with fail
  refine (HE.out _ (below_then (below_alloc _ _) (below_alloc _ _))).mono ?_
  rintro e w2 ⟨rfl, hb2⟩
  have HB2 := Lib.hid (below_then (below_then (below_alloc w _) (below_alloc _ _)) hb2)
  clear hb2
  go_wp2_with fail
  go_ret
  exact ⟨rfl, HB2.out⟩
end Go.Proofs.YtmifnbplkaonaaaGreat.DbImp

namespace Go.Proofs.YtmifnbplkaonaaaGreat.DbMap
open Go Go.RowKit Byt Ints IntsLaw Cd Rows2 Tab SlMath TabOpen TabElem SlTable Db TabSpec DbMath DbImp DbExact
open Go.Maps (Keyed string_keyed IsMap Tidy)
open DbSpec (LaterD drewD row1 rows_cell name_cell)

/-- A table's value in a map: it stands for itself. -/
def tabR : Value → Option (DataW Value × List MemPlace)
  | .agg ⟨[.string a, .int .i64 b, .slice c d e]⟩ => some (.held (.agg #[.string a, .int .i64 b, .slice c d e]), [])
  | _ => none
structure TabV where
  nm : ByteArray
  ar : Int
  a : Option Addr
  n : Nat
  c : Nat
def TabV.us (t : TabV) : List Value := [.string t.nm, .int .i64 t.ar, .slice t.a t.n t.c]
def TabV.val (t : TabV) : Value := .agg #[.string t.nm, .int .i64 t.ar, .slice t.a t.n t.c]
theorem tabR_mk (t : TabV) : tabR t.val = some (.held t.val, []) := rfl
theorem tabR_inv {v : Value} {y : DataW Value × List MemPlace} (h : tabR v = some y) : ∃ t : TabV, v = t.val ∧ y = (.held v, []) := by
  unfold tabR at h
  split at h
  · injection h with h
    exact ⟨⟨_, _, _, _, _⟩, rfl, h.symm⟩
  · cases h
def keyL (s : ByteArray) : Lit := .string s.data.toList
theorem keyL_ne {s t : ByteArray} (h : s ≠ t) : keyL s ≠ keyL t := fun q => h (by
  unfold keyL at q
  injection q with q
  cases s
  cases t
  simp only [Array.toList_inj] at q
  rw [q])
theorem keyL_lit (s : ByteArray) : WideAt.IsKeyLit (keyL s) := trivial

/-- A map that has just the entries of f, n of them. -/
structure MapIs (D : DataW Value) (f : ByteArray → Option TabV) (n : Nat) : Prop where
  tidy : Tidy D
  has : ∀ s, Maps.has D (keyL s) = (f s).isSome
  at_ : ∀ s t z, f s = some t → D.atKey (keyL s) z = .held t.val
  size : Maps.size D = n
def setF (f : ByteArray → Option TabV) (s : ByteArray) (t : TabV) : ByteArray → Option TabV := fun x => if x = s then some t else f x
def delF (f : ByteArray → Option TabV) (s : ByteArray) : ByteArray → Option TabV := fun x => if x = s then none else f x
theorem MapIs.start : MapIs (.map []) (fun _ => none) 0 := ⟨Maps.tidy_empty, fun _ => rfl, (fun _ _ _ h => by cases h), rfl⟩
theorem MapIs.put {D : DataW Value} {f : ByteArray → Option TabV} {n : Nat} (h : MapIs D f n) (s : ByteArray) (t : TabV) : MapIs (D.put (keyL s) (.held t.val)) (setF f s t) (if (f s).isSome then n else n + 1) := by
  refine ⟨h.tidy.put (keyL_lit s) _, fun x => ?_, fun x y z hy => ?_, ?_⟩
  · by_cases e : x = s
    · subst e
      rw [Maps.has_put_same h.tidy.isMap (keyL_lit x), setF, if_pos rfl]
      rfl
    · rw [Maps.has_put_other (keyL_ne e), h.has, setF, if_neg e]
  · by_cases e : x = s
    · subst e
      rw [setF, if_pos rfl] at hy
      injection hy with hy
      rw [Maps.atKey_put_same h.tidy.isMap (keyL_lit x), hy]
    · rw [setF, if_neg e] at hy
      rw [Maps.atKey_put_other (keyL_ne e)]
      exact h.at_ x y z hy
  · rw [Maps.size_put h.tidy, h.has, h.size]
theorem MapIs.del {D : DataW Value} {f : ByteArray → Option TabV} {n : Nat} (h : MapIs D f n) (s : ByteArray) : MapIs (D.del (keyL s)) (delF f s) (if (f s).isSome then n - 1 else n) := by
  refine ⟨h.tidy.del _, fun x => ?_, fun x y z hy => ?_, ?_⟩
  · by_cases e : x = s
    · subst e
      rw [Maps.has_del_same, delF, if_pos rfl]
      rfl
    · rw [Maps.has_del_other (keyL_ne e), h.has, delF, if_neg e]
  · by_cases e : x = s
    · rw [delF, if_pos e] at hy; cases hy
    · rw [delF, if_neg e] at hy
      rw [Maps.atKey_del_other (keyL_ne e)]
      exact h.at_ x y z hy
  · have := Maps.size_del h.tidy (k := keyL s)
    rw [h.has, h.size] at this
    split at this <;> rename_i q <;> simp only [q] <;> simp <;> omega
theorem MapIs.eq {D : DataW Value} {f g : ByteArray → Option TabV} {n m : Nat} (h : MapIs D f n) (e : f = g) (e2 : n = m) : MapIs D g m := e ▸ e2 ▸ h

/-- The tables of a list, each with its cells. -/
def HeldT (w : World) (S : Nat → Prop) (a : Option Addr) (l : List T3) (ts : List TabV) : Prop :=
  ts.length = l.length ∧ ∀ k (h : k < l.length) (h' : k < ts.length), ts[k].nm = l[k].1 ∧ (∃ b off, a = some ⟨b, off, none⟩ ∧ b < w.heap.size ∧ Cd.At w b (off + k * 3) ts[k].us) ∧ tabC.rd w S ts[k].us l[k]
theorem HeldT.later {w w' : World} {S : Nat → Prop} {a : Option Addr} {l : List T3} {ts : List TabV} (h : HeldT w S a l ts) (hb : Below w.heap.size w w') : HeldT w' S a l ts := by
  refine ⟨h.1, fun k hk hk' => ?_⟩
  obtain ⟨h0, ⟨b, off, e, hl, hat⟩, hr⟩ := h.2 k hk hk'
  exact ⟨h0, ⟨b, off, e, Nat.lt_of_lt_of_le hl hb.size, fun j hj => (hb.cell (p := ⟨b, off + k * 3 + j, none⟩) hl).trans (hat j hj)⟩, Cd.later hr hb⟩
theorem mk_list {α : Type} {P : Nat → α → Prop} : ∀ (n : Nat), (∀ k, k < n → ∃ x, P k x) → ∃ xs : List α, xs.length = n ∧ ∀ k (h : k < xs.length), P k xs[k]
  | 0, _ => ⟨[], rfl, fun k h => by simp at h⟩
  | n + 1, h => by
    obtain ⟨xs, hl, hp⟩ := mk_list n (fun k hk => h k (by omega))
    obtain ⟨x, hx⟩ := h n (by omega)
    refine ⟨xs ++ [x], by simp [hl], fun k hk => ?_⟩
    by_cases e : k < xs.length
    · rw [List.getElem_append_left e]; exact hp k e
    · have hk' : k < xs.length + 1 := by simpa using hk
      obtain rfl : k = n := by omega
      rw [List.getElem_append_right (by omega)]
      simpa [hl] using hx
theorem held_of {w : World} {S : Nat → Prop} {a : Option Addr} {l : List T3} {n cap : Nat} (h : tabsC.rd w S [.slice a n cap] l) : ∃ ts, HeldT w S a l ts := by
  obtain ⟨ts, hl, hp⟩ := mk_list (P := fun k (t : TabV) => ∀ (h : k < l.length), t.nm = l[k].1 ∧ (∃ b off, a = some ⟨b, off, none⟩ ∧ b < w.heap.size ∧ Cd.At w b (off + k * 3) t.us) ∧ tabC.rd w S t.us l[k]) l.length (fun k hk => by
    obtain ⟨b, off, cap', us, e, _, hb, hat, hu⟩ := Cd.sl_at h hk
    obtain ⟨a2, c2, rfl⟩ := elem_form hu
    injection e with e _ _
    exact ⟨⟨(l[k]).1, (l[k]).2.1, a2, (l[k]).2.2.length, c2⟩, fun _ => ⟨rfl, ⟨b, off, e, hb, hat⟩, hu⟩⟩)
  exact ⟨ts, hl, fun k hk hk' => hp k hk' hk⟩
/-- The entry of a name. -/
def entF (ts : List TabV) : ByteArray → Option TabV := fun s => ts.find? (fun t => decide (t.nm = s))
theorem entF_nil : entF [] = fun _ => none := rfl
theorem entF_more {ts : List TabV} {t : TabV} (h : ∀ u ∈ ts, u.nm ≠ t.nm) : entF (ts ++ [t]) = setF (entF ts) t.nm t := by
  funext s
  unfold entF setF
  rw [List.find?_append]
  by_cases e : s = t.nm
  · subst e
    rw [if_pos rfl, List.find?_eq_none.2 (fun u hu => by simpa using h u hu)]
    simp
  · rw [if_neg e]
    have : List.find? (fun u => decide (u.nm = s)) [t] = none := by simp; exact fun q => e q.symm
    rw [this]
    simp
theorem entF_none {ts : List TabV} {t : TabV} (h : ∀ u ∈ ts, u.nm ≠ t.nm) : (entF ts t.nm).isSome = false := by
  unfold entF
  rw [List.find?_eq_none.2 (fun u hu => by simpa using h u hu)]
  rfl
theorem entF_find {w : World} {S : Nat → Prop} {a : Option Addr} {l : List T3} {ts : List TabV} (h : HeldT w S a l ts) (s : ByteArray) :
    (findN l s = none ∧ entF ts s = none) ∨ ∃ T t, findN l s = some T ∧ entF ts s = some t ∧ tabC.rd w S t.us T := by
  obtain ⟨hl, h⟩ := h
  unfold findN entF
  induction ts generalizing l a with
  | nil =>
    obtain rfl : l = [] := List.length_eq_zero_iff.1 hl.symm
    exact .inl ⟨rfl, rfl⟩
  | cons t ts ih =>
    cases l with
    | nil => simp at hl
    | cons T l =>
      have h0 := h 0 (by simp) (by simp)
      simp only [List.getElem_cons_zero] at h0
      by_cases e : t.nm = s
      · refine .inr ⟨T, t, ?_, ?_, h0.2.2⟩
        · rw [List.find?_cons_of_pos (by simpa [h0.1] using e)]
        · rw [List.find?_cons_of_pos (by simpa using e)]
      · rw [List.find?_cons_of_neg (by simpa [h0.1] using e), List.find?_cons_of_neg (by simpa using e)]
        refine ih (a := a.map fun p => ⟨p.block, p.off + 3, none⟩) (by simpa using hl) fun k hk hk' => ?_
        obtain ⟨g0, ⟨b, off, rfl, g1, g2⟩, g3⟩ := h (k + 1) (by simpa using hk) (by simpa using hk')
        simp only [List.getElem_cons_succ] at g0 g2 g3
        exact ⟨g0, ⟨b, off + 3, rfl, g1, fun j hj => by have := g2 j hj; rw [show off + 3 + k * 3 = off + (k + 1) * 3 by omega]; exact this⟩, g3⟩
end Go.Proofs.YtmifnbplkaonaaaGreat.DbMap

namespace Go.Proofs.YtmifnbplkaonaaaGreat.DbImp
open Go Go.RowKit Byt Ints IntsLaw Cd Rows2 Tab SlMath TabOpen TabElem SlTable Db TabSpec DbMath TabImp DbMap DbExact
open Go.Maps (Keyed string_keyed IsMap Tidy)
open DbSpec (LaterD drewD row1 rows_cell name_cell lkT lk_none lk_some LookAns zeroT)

theorem law : Keyed Tryz.prog 9 := string_keyed Tryz.underlying9
theorem zeroE (w : World) : (zeroValue 51).run Tryz.prog w = .ok (.agg #[.string ⟨#[]⟩, .int .i64 0, .slice none 0 0]) w := by kernel_rfl
theorem key_of {s : ByteArray} (h : s.size ≤ maxLen) : keyOf Tryz.prog 9 (.string s) = some (keyL s) := WideMaps.keyOf_string_mk Tryz.underlying9 h
abbrev Owns (w : World) (B n : Nat) (D : DataW Value) : Prop := w.ownsMap Tryz.prog 9 tabR B n D
theorem grown_of {w w' : World} (h : Below w.heap.size w w') (row : Option Nat) : w.grownBy w' row := ⟨h.os, h.tape, h.output, h.size, fun i hi _ => h.block i hi⟩
theorem touch_grown {w w' : World} {b : Nat} (h : w.grownBy w' (some b)) : Cd.Touch [b] w w' := ⟨h.os, h.tape, h.output, h.size, fun k hk hn => h.block k hk (by simpa using hn)⟩
theorem Owns.later {w w' : World} {B n : Nat} {D : DataW Value} (h : Owns w B n D) (hb : Below w.heap.size w w') : Owns w' B n D := World.ownsMap.kept h (grown_of hb none) (by simp)
/-- The tables by their names; none of an invalid database. -/
def NamesAns (l : List T3) (ts : List TabV) (w : World) (e : Ending) (w' : World) : Prop :=
  ∃ B D n, e = .returned (.map (some B)) ∧ w.heap.size ≤ B ∧ Owns w' B n D ∧ n ≤ 6 ∧ MapIs D (entF (if dbOk l then ts else [])) (if dbOk l then l.length else 0) ∧ Below w.heap.size w w'
theorem names_ne {w : World} {S : Nat → Prop} {a : Option Addr} {l : List T3} {ts : List TabV} (h : HeldT w S a l ts) (ha : AscP l) {k : Nat} (hk : k < l.length) (hk' : k < ts.length) : ∀ u ∈ ts.take k, u.nm ≠ ts[k].nm := by
  intro u hu e
  obtain ⟨i, hi, rfl⟩ := List.getElem_of_mem hu
  rw [List.length_take] at hi
  rw [List.getElem_take, (h.2 i (by omega) (by omega)).1, (h.2 k hk hk').1] at e
  exact ltB_ne (List.pairwise_iff_getElem.1 ha i k (by omega) hk (by omega)) e

set_option maxRecDepth 100000 in
set_option maxHeartbeats 1600000 in
theorem impl_byname (a1 : Option Addr) (cap1 : Nat) (l : List T3) (ts : List TabV) (S : Nat → Prop) (w : World) (h1 : tabsC.rd w S [.slice a1 l.length cap1] l) (ht : HeldT w S a1 l ts) :
    Calls Tryz.prog 49 #[.agg #[.slice a1 l.length cap1]] w fun e w' => NamesAns l ts w e w' := by
  have HT := Lib.hid (fun w' (hb : Below w.heap.size w w') => HeldT.later ht hb)
  have HV := Lib.hid (fun w' (hb : Below w.heap.size w w') => impl_dbok _ l S w' (Cd.later h1 hb))
  have HL := Lib.hid ht.1
  have hmm := @run_makeMap Tryz.prog
  clear h1 ht
  go_enter Tryz.func49, Tryz.ntmps49
  go_wp2_with fail
  have hM0 := World.ownsMap_made (w.alloc (.cells #[.slice a1 l.length cap1] 26 (0, 0))) Tryz.prog 9 tabR
  rw [size_alloc] at hM0
  generalize hW : (w.alloc _).alloc _ = W at *
  have HM0 := Lib.hid (show Owns W (w.heap.size + 1) 0 (.map []) from hM0)
  clear hM0
  obtain ⟨r0, r1, hz, hb0⟩ := start2g w _ _ hW
  have HC0 := Lib.hid (Loc1.of r0)
  have HB0 := Lib.hid hb0
  have HZ := Lib.hid hz
  clear hW r0 r1 hz
  refine (HV.out _ hb0).mono ?_
  rintro e w1 ⟨rfl, hb1⟩
  have HM1 := Lib.hid (Owns.later HM0.out hb1)
  have HB1 := Lib.hid (below_then HB0.out hb1)
  have c0 := (HC0.out.later hb1).c0
  have HS1 := Lib.hid (show w.heap.size + 2 ≤ w1.heap.size by have := hb1.size; have := HZ.out; omega)
  clear hb0 hb1 hmm
  cases hv : dbOk l
  · have HVV := Lib.hid hv
    go_wp2_with fail
    go_ret
    exact ⟨_, _, _, rfl, Nat.le_succ _, HM1.out, by omega, by rw [HVV.out]; exact MapIs.start, HB1.out⟩
  have HVV := Lib.hid hv
  have H6 := Lib.hid (dbOk_iff.1 hv)
  have hl6 : l.length ≤ 6 := H6.out.1
  clear hv
  go_wp2_with fail
  go_loopw [14] (fun i wr => ∃ (k : Nat) (D : DataW Value), k ≤ l.length ∧ i = .int .i64 k ∧ Owns wr (w.heap.size + 1) k D ∧ MapIs D (entF (ts.take k)) k ∧ Cd.Touch [w.heap.size + 1] w1 wr) (fun i _ => l.length - (intOf i).toNat)
  case atStart => exact ⟨0, .map [], Nat.zero_le _, rfl, HM1.out, MapIs.start, Cd.Touch.refl _ _⟩
  case round =>
    obtain ⟨k, D, hk, rfl, hown, hm, hto⟩ := hrel
    have HBW := Lib.hid (Cd.Touch.below HB1.out hto (fun b hb => by rw [List.mem_singleton.1 hb]; exact Nat.le_succ _))
    have HTO := Lib.hid hto
    have HM := Lib.hid hm
    have HSR := Lib.hid (Nat.le_trans HS1.out hto.size)
    clear c0 hto hm
    by_cases hlt : k < l.length
    · have hlt' : k < ts.length := by rw [HL.out]; exact hlt
      obtain ⟨hnm, ⟨b, off, rfl, hbB, hat⟩, hu⟩ := (HT.out wr HBW.out).2 k hlt hlt'
      have HNE := Lib.hid (names_ne (HT.out wr HBW.out) H6.out.2.2 hlt hlt')
      have HTK := Lib.hid (show ts.take (k + 1) = ts.take k ++ [ts[k]] from List.take_succ_eq_append_getElem hlt')
      have hns : (ts[k]).nm.size ≤ maxLen := by rw [hnm]; obtain ⟨u, _, h, _⟩ := tab_cells hu; exact h
      have p0 := hat 0 (by simp [TabV.us])
      have p1 := hat 1 (by simp [TabV.us])
      have p2 := hat 2 (by simp [TabV.us])
      simp only [TabV.us, List.getElem_cons_zero, List.getElem_cons_succ, Nat.add_zero] at p0 p1 p2
      have i1 : (0 : Int) ≤ (k : Int) := by omega
      have i2 : (k : Int) < (l.length : Int) := by omega
      have i3 := HSR.out
      have hn6 : k < maxLen := by have := H6.out.1; unfold maxLen; omega
      clear hu hat hnm
      generalize ts[k] = t at *
      have hownA := World.ownsMap.alloc hown (.cells #[.string t.nm, .int .i64 t.ar, .slice t.a t.n t.c] 51 (0, 0))
      go_wp2_with (first
        | (at_mapUpdate; refine wpList_mapUpdate_own _ rfl _ _ _ 78 rfl 9 51 law Tryz.underlying78 tabR (w.heap.size + 1) k D rfl hownA hn6 _ _ (keyL t.nm) rfl rfl (key_of hns) _ [] (tabR_mk t) ?_; intro w2 hown2 hg2; go_frame)
        | go_in)
      have HT2 := Lib.hid (HTO.out.trans ((Cd.Touch.of_below (below_alloc wr _)).trans (touch_grown hg2)))
      have HO2 := Lib.hid hown2
      have HM2 := Lib.hid (show MapIs (D.put (keyL t.nm) (.held t.val)) (entF (ts.take (k + 1))) (k + 1) from by
        have h := HM.out.put t.nm t
        rw [HTK.out, entF_more HNE.out]
        exact h.eq rfl (by rw [entF_none HNE.out]; rfl))
      clear hg2 hown2 hown hownA
      go_wp2_with fail
      go_roundw
      case rel => exact ⟨k + 1, _, by omega, by go_num, HO2.out, HM2.out, HT2.out⟩
      case measure => simp [intOf]; omega
    · have ek : k = l.length := by omega
      subst ek
      have HO := Lib.hid hown
      clear hown
      go_wp2_with fail
      go_ret
      refine ⟨_, _, _, rfl, Nat.le_succ _, HO.out, H6.out.1, ?_, HBW.out⟩
      rw [HVV.out]
      have h := HM.out
      rw [← HL.out, List.take_length] at h
      exact h.eq rfl HL.out

theorem copy_rows_i (us : List Value) (T : T3) (S : Nat → Prop) (w : World) (hu : tabC.rd w S us T) (hw : wtT T ≤ 1048577) :
    Calls Tryz.prog 50 #[.agg us.toArray] w fun e w' => ∃ a c fp, e = .returned (.agg #[.string T.1, .int .i64 T.2.1, .slice a T.2.2.length c]) ∧ rowsC.ow w' w.heap.size [.slice a T.2.2.length c] T.2.2 fp ∧ fp.Nodup ∧ Below w.heap.size w w' := by
  obtain ⟨u, rfl, h1, h2, h3⟩ := tab_cells hu
  refine (copy_table T.1 T.2.1 u T.2.2 S w h3 (by unfold wtT tabWt at hw; omega) (by unfold wtT tabWt at hw; omega)).mono ?_
  rintro e w' ⟨g, fp, rfl, how, hnd, hb⟩
  exact ⟨_, _, fp, rfl, how, hnd, hb⟩
theorem find_wt {l : List T3} {s : ByteArray} {T : T3} (h : findN l s = some T) : wtT T ≤ wtS l := by
  obtain ⟨k, hk, rfl⟩ := List.getElem_of_mem (findN_some h).1
  have := sumN_mem wtT hk
  unfold wtS
  omega
set_option maxRecDepth 100000 in
set_option maxHeartbeats 1600000 in
theorem impl_look (u : Value) (l : List T3) (nm : ByteArray) (S : Nat → Prop) (w : World) (h1 : tabsC.rd w S [u] l) (hw : wtS l ≤ 1048577) (hs : nm.size ≤ 1048576) :
    Calls Tryz.prog 20 #[.agg #[u], .string nm] w fun e w' => LookAns l nm w e w' := by
  obtain ⟨a1, cap1, rfl, hl1⟩ := Cd.sl_form h1
  obtain ⟨ts, ht⟩ := held_of h1
  have HT := Lib.hid (fun w' (hb : Below w.heap.size w w') => HeldT.later ht hb)
  have HNA := Lib.hid (fun w' (hb : Below w.heap.size w w') => impl_byname a1 cap1 l ts S w' (Cd.later h1 hb) (HeldT.later ht hb))
  have HK := Lib.hid (key_of (s := nm) (by unfold maxLen; omega))
  have HWT := Lib.hid hw
  clear h1 ht hw hs
  go_enter Tryz.func20, Tryz.ntmps20
  go_wp2_with fail
  generalize hW : (w.alloc _).alloc _ = W
  obtain ⟨r0, r1, hz, hb0⟩ := start2g w _ _ hW
  have HC1 := Lib.hid r1
  have HB0 := Lib.hid hb0
  have HZ := Lib.hid hz
  clear hW r0 r1 hz hb0
  refine (HNA.out _ HB0.out).mono ?_
  rintro e w1 ⟨B, D, n, rfl, hBl, hown, _, hm, hb1⟩
  have HC2 := Lib.hid ((hb1.block (w.heap.size + 1) (by have := HZ.out; omega)).trans HC1.out)
  have HB1 := Lib.hid (below_then HB0.out hb1)
  have HS1 := Lib.hid (show w.heap.size + 1 < w1.heap.size by have := hb1.size; have := HZ.out; omega)
  have HM := Lib.hid hm
  clear hb1 hm hBl
  have hcase : (lookL l nm = none ∧ entF (if dbOk l then ts else []) nm = none) ∨ ∃ T t, lookL l nm = some T ∧ entF (if dbOk l then ts else []) nm = some t ∧ findN l nm = some T ∧ ∀ w', Below w.heap.size w w' → tabC.rd w' S t.us T := by
    unfold lookL
    cases hv : dbOk l
    · exact .inl ⟨rfl, rfl⟩
    · rcases entF_find (HT.out w (Below.refl _ _)) nm with ⟨q1, q2⟩ | ⟨T, t, q1, q2, q3⟩
      · exact .inl ⟨q1, q2⟩
      · exact .inr ⟨T, t, q1, q2, q1, fun w' hb => Cd.later q3 hb⟩
  rcases hcase with ⟨hl, he⟩ | ⟨T, t, hl, he, hf, hr⟩
  · have hh : Maps.has D (keyL nm) = false := by rw [HM.out.has, he]; rfl
    have HLK := Lib.hid hl
    clear hl he
    obtain ⟨n0, n1, n2, g0, g1, g2⟩ := row3 HC2.out
    have hs1 := HS1.out
    go_wp2_with (first
      | (at_lookup; refine wpList_lookup_own_ok _ rfl _ _ 78 rfl 9 51 law Tryz.underlying78 tabR (zeroE _) (.held (.agg #[.string ⟨#[]⟩, .int .i64 0, .slice none 0 0])) [] rfl B n D rfl hown _ (keyL nm) rfl HK.out ?_; intro v ps hv; obtain ⟨t, rfl, _⟩ := tabR_inv hv; unfold TabV.val; rw [hh]; clear hv))
    have G := set3 (w := w1) (k := w.heap.size + 1) (x := .string ⟨#[]⟩) (y := .int .i64 0) (z := .slice none 0 0) n0 n1 n2
    have HB4 : Below w.heap.size w (((w1.setCell ⟨w.heap.size + 1, 0, none⟩ (.string ⟨#[]⟩)).setCell ⟨w.heap.size + 1, 1, none⟩ (.int .i64 0)).setCell ⟨w.heap.size + 1, 2, none⟩ (.slice none 0 0)) := ((HB1.out.setCell (by show _ ≤ w.heap.size + 1; omega) _).setCell (by show _ ≤ w.heap.size + 1; omega) _).setCell (by show _ ≤ w.heap.size + 1; omega) _
    have hx : w.heap.size + 1 < (((w1.setCell ⟨w.heap.size + 1, 0, none⟩ (.string ⟨#[]⟩)).setCell ⟨w.heap.size + 1, 1, none⟩ (.int .i64 0)).setCell ⟨w.heap.size + 1, 2, none⟩ (.slice none 0 0)).heap.size := by simpa using hs1
    generalize (((w1.setCell ⟨w.heap.size + 1, 0, none⟩ (.string ⟨#[]⟩)).setCell ⟨w.heap.size + 1, 1, none⟩ (.int .i64 0)).setCell ⟨w.heap.size + 1, 2, none⟩ (.slice none 0 0)) = w4 at *
    have hbA := below_alloc w4 (.cells #[.string t.nm, .int .i64 t.ar, .slice t.a t.n t.c] 51 (0, 0))
    have k0 := (hbA.cell (p := ⟨w.heap.size + 1, 0, none⟩) hx).trans G.1
    have k1 := (hbA.cell (p := ⟨w.heap.size + 1, 1, none⟩) hx).trans G.2.1
    have k2 := (hbA.cell (p := ⟨w.heap.size + 1, 2, none⟩) hx).trans G.2.2
    have HBA := Lib.hid (below_then HB4 hbA)
    clear hbA
    refine bodyPost_ret (v := .tuple #[.agg #[.string ⟨#[]⟩, .int .i64 0, .slice none 0 0], .bool false]) (by simp [results, Tryz.results20, go_sem, k0, k1, k2]) rfl (LookAns.none HLK.out HBA.out)
  · have hh : Maps.has D (keyL nm) = true := by rw [HM.out.has, he]; rfl
    have hat := HM.out.at_ nm t (.held (.agg #[.string ⟨#[]⟩, .int .i64 0, .slice none 0 0])) he
    have HLK := Lib.hid hl
    have HCP := Lib.hid (fun w' (hb : Below w.heap.size w w') => copy_rows_i t.us T S w' (hr w' hb) (by have := find_wt hf; have := HWT.out; omega))
    clear hl he hf hr
    go_wp2_with (first
      | (at_lookup; refine wpList_lookup_own_ok _ rfl _ _ 78 rfl 9 51 law Tryz.underlying78 tabR (zeroE _) (.held (.agg #[.string ⟨#[]⟩, .int .i64 0, .slice none 0 0])) [] rfl B n D rfl hown _ (keyL nm) rfl HK.out ?_; intro v ps hv; rw [hat] at hv; obtain ⟨t', rfl, ht'⟩ := tabR_inv hv; (have ht' : t.val = t'.val := by injection ht' with q _; injection q); rw [← ht', hh]; unfold TabV.val; clear hv ht'))
    have hbA := below_alloc w1 (.cells #[.string t.nm, .int .i64 t.ar, .slice t.a t.n t.c] 51 (0, 0))
    have HB2 := Lib.hid (below_then HB1.out hbA)
    have HC3 := Lib.hid (hbA.block (w.heap.size + 1) HS1.out |>.trans HC2.out)
    have HS2 := Lib.hid (Nat.lt_of_lt_of_le HS1.out hbA.size)
    refine (HCP.out _ HB2.out).mono ?_
    rintro e w3 ⟨a3, c3, fp, rfl, ho, hn, hb3⟩
    have HB4 := Lib.hid (below_then HB2.out hb3)
    obtain ⟨m0, m1, m2, f0, f1, f2⟩ := row3 ((hb3.block (w.heap.size + 1) HS2.out).trans HC3.out)
    have HO := Lib.hid ho
    have HN := Lib.hid hn
    clear ho hn hb3 hbA
    go_wp2_with fail
    have G0 := set3 (w := w3) (k := w.heap.size + 1) (x := .string T.1) (y := .int .i64 T.2.1) (z := .slice a3 T.2.2.length c3) m0 m1 m2
    have hfar : w.heap.size + 1 ∉ fp := fun q => by have := (rowsC.ow_lt HO.out _ q).1; have := HS2.out; omega
    refine bodyPost_ret (v := .tuple #[.agg #[.string T.1, .int .i64 T.2.1, .slice a3 T.2.2.length c3], .bool true]) (by simp [results, Tryz.results20, go_sem, G0.1, G0.2.1, G0.2.2]) rfl (LookAns.some HLK.out ?_ HN.out ?_)
    · exact ow_setCell (ow_setCell (ow_setCell (rowsC.ow_base HO.out (by have := HS2.out; omega)) hfar _) hfar _) hfar _
    · exact ((HB4.out.setCell (by show _ ≤ w.heap.size + 1; omega) _).setCell (by show _ ≤ w.heap.size + 1; omega) _).setCell (by show _ ≤ w.heap.size + 1; omega) _
end Go.Proofs.YtmifnbplkaonaaaGreat.DbImp

namespace Go.Proofs
open Go.Shelf
def Tryz.laysSk6_ren : Go.Shelf.Ren := ⟨fun | 6 => 80 | 15 => 88 | 14 => 87 | 28 => 99 | 29 => 100 | 20 => 91 | 21 => 92 | 22 => 93 | 23 => 94 | 24 => 95 | 25 => 96 | 26 => 97 | 27 => 98 | 46 => 102 | 47 => 103 | 48 => 104 | 49 => 105 | 50 => 106 | 57 => 108 | n => n, fun | 22 => 24 | 24 => 51 | 25 => 106 | 3 => 3 | 39 => 117 | 0 => 0 | 53 => 127 | 55 => 129 | 4 => 4 | 46 => 120 | 45 => 119 | 50 => 124 | 5 => 5 | 9 => 9 | 66 => 131 | 70 => 135 | 76 => 137 | 77 => 138 | n => n, fun | n => n⟩
theorem Tryz.laysSk6 : Go.Proofs.SlLaysF0.n6 Tryz.prog Tryz.laysSk6_ren := {
  mixed := by kernel_rfl
  f6 := ⟨Tryz.f80.name, by decide, Tryz.func80.trans (congrArg some (by kernel_rfl))⟩
  f14 := ⟨Tryz.f87.name, by decide, Tryz.func87.trans (congrArg some (by kernel_rfl))⟩
  f15 := Tryz.func88.trans (congrArg some (by kernel_rfl))
  f20 := ⟨Tryz.f91.name, by decide, Tryz.func91.trans (congrArg some (by kernel_rfl))⟩
  f21 := ⟨Tryz.f92.name, by decide, Tryz.func92.trans (congrArg some (by kernel_rfl))⟩
  f22 := ⟨Tryz.f93.name, by decide, Tryz.func93.trans (congrArg some (by kernel_rfl))⟩
  f23 := ⟨Tryz.f94.name, by decide, Tryz.func94.trans (congrArg some (by kernel_rfl))⟩
  f24 := ⟨Tryz.f95.name, by decide, Tryz.func95.trans (congrArg some (by kernel_rfl))⟩
  f25 := ⟨Tryz.f96.name, by decide, Tryz.func96.trans (congrArg some (by kernel_rfl))⟩
  f26 := ⟨Tryz.f97.name, by decide, Tryz.func97.trans (congrArg some (by kernel_rfl))⟩
  f27 := ⟨Tryz.f98.name, by decide, Tryz.func98.trans (congrArg some (by kernel_rfl))⟩
  f28 := Tryz.func99.trans (congrArg some (by kernel_rfl))
  f29 := Tryz.func100.trans (congrArg some (by kernel_rfl))
  f46 := ⟨Tryz.f102.name, by decide, Tryz.func102.trans (congrArg some (by kernel_rfl))⟩
  f47 := Tryz.func103.trans (congrArg some (by kernel_rfl))
  f48 := Tryz.func104.trans (congrArg some (by kernel_rfl))
  f49 := ⟨Tryz.f105.name, by decide, Tryz.func105.trans (congrArg some (by kernel_rfl))⟩
  f50 := ⟨Tryz.f106.name, by decide, Tryz.func106.trans (congrArg some (by kernel_rfl))⟩
  f57 := ⟨Tryz.f108.name, by decide, Tryz.func108.trans (congrArg some (by kernel_rfl))⟩
  t0 := Tryz.underlying0
  a0 := Tryz.isAgg0
  z0 := Tryz.sizeOf0
  v0 := Tryz.zeroValue0
  t3 := Tryz.underlying3
  a3 := Tryz.isAgg3
  z3 := Tryz.sizeOf3
  v3 := Tryz.zeroValue3
  t4 := Tryz.underlying4
  a4 := Tryz.isAgg4
  z4 := Tryz.sizeOf4
  v4 := Tryz.zeroValue4
  t5 := Tryz.underlying5
  a5 := Tryz.isAgg5
  z5 := Tryz.sizeOf5
  v5 := Tryz.zeroValue5
  t9 := Tryz.underlying9
  a9 := Tryz.isAgg9
  z9 := Tryz.sizeOf9
  v9 := Tryz.zeroValue9
  t22 := Tryz.underlying24
  a22 := Tryz.isAgg24
  z22 := Tryz.sizeOf24
  v22 := Tryz.zeroValue24
  t25 := Tryz.underlying106
  a25 := Tryz.isAgg106
  z25 := Tryz.sizeOf106
  v25 := Tryz.zeroValue106
  t39 := Tryz.underlying117
  a39 := Tryz.isAgg117
  z39 := Tryz.sizeOf117
  v39 := Tryz.zeroValue117
  t45 := Tryz.underlying119
  a45 := Tryz.isAgg119
  z45 := Tryz.sizeOf119
  v45 := Tryz.zeroValue119
  t46 := Tryz.underlying120
  a46 := Tryz.isAgg120
  z46 := Tryz.sizeOf120
  v46 := Tryz.zeroValue120
  t50 := Tryz.underlying124
  a50 := Tryz.isAgg124
  z50 := Tryz.sizeOf124
  v50 := Tryz.zeroValue124
  t53 := Tryz.underlying127
  a53 := Tryz.isAgg127
  z53 := Tryz.sizeOf127
  v53 := Tryz.zeroValue127
  t55 := Tryz.underlying129
  a55 := Tryz.isAgg129
  z55 := Tryz.sizeOf129
  v55 := Tryz.zeroValue129
  t66 := Tryz.underlying131
  a66 := Tryz.isAgg131
  z66 := Tryz.sizeOf131
  v66 := Tryz.zeroValue131
  t70 := Tryz.underlying135
  a70 := Tryz.isAgg135
  z70 := Tryz.sizeOf135
  v70 := Tryz.zeroValue135
  t76 := Tryz.underlying137
  a76 := Tryz.isAgg137
  z76 := Tryz.sizeOf137
  v76 := Tryz.zeroValue137
  t77 := Tryz.underlying138
  a77 := Tryz.isAgg138
  z77 := Tryz.sizeOf138
  v77 := Tryz.zeroValue138 }
end Go.Proofs

namespace Go.Proofs.YtmifnbplkaonaaaGreat.DbSort
open Go Go.RowKit Byt Ints IntsLaw Cd Rows2 Tab SlMath TabOpen TabElem SlTable Db TabSpec DbMath TabImp DbMap DbExact DbImp

/-- A table with its cells and the blocks below it. -/
structure Tri where
  t : TabV
  T : T3
  f : List Nat
instance : Inhabited Tri := ⟨⟨⟨⟨#[]⟩, 0, none, 0, 0⟩, (⟨#[]⟩, 0, []), []⟩⟩
def encT (x : Tri) : List Value := x.t.us
def cfT (x y : Tri) : Int := cmpN x.t.nm y.t.nm
theorem ltOf_cf (x y : Tri) : ltOf cfT x y = ltB x.t.nm y.t.nm := by
  unfold ltOf cfT
  have := cmpN_lt x.t.nm y.t.nm
  cases h : ltB x.t.nm y.t.nm
  · rw [h] at this; simp only [Bool.false_eq_true, iff_false] at this; exact decide_eq_false this
  · rw [h] at this; exact decide_eq_true (this.2 rfl)
theorem swoT : Sort.SWO (ltOf cfT) where
  irrefl x := by rw [ltOf_cf, ltB_irrefl]
  trans x y z h1 h2 := by rw [ltOf_cf] at *; exact ltB_trans h1 h2
  ntrans x y z h1 h2 := by
    rw [ltOf_cf] at *
    cases h : ltB x.t.nm z.t.nm
    · rfl
    · cases q : ltB y.t.nm x.t.nm
      · rw [ltB_tri h1 q] at h; rw [h] at h2; cases h2
      · have := ltB_trans q h; rw [this] at h2; cases h2
theorem tri_each {w : World} {base : Nat} : ∀ {xss : List (List Value)} {l : List T3} {fps : List (List Nat)}, Cd.Each tabC w base xss l fps → ∃ ds : List Tri, ds.map encT = xss ∧ ds.map Tri.T = l ∧ ds.map Tri.f = fps ∧ ∀ x ∈ ds, tabC.ow w base x.t.us x.T x.f
  | [], [], [], _ => ⟨[], rfl, rfl, rfl, fun _ h => by cases h⟩
  | x :: xs, T :: l, f :: fs, h => by
    obtain ⟨ds, h1, h2, h3, h4⟩ := tri_each (xss := xs) (l := l) (fps := fs) h.2
    obtain ⟨a, c, rfl⟩ := shape_ow h.1
    refine ⟨⟨⟨T.1, T.2.1, a, T.2.2.length, c⟩, T, f⟩ :: ds, by rw [List.map_cons, h1]; rfl, by rw [List.map_cons, h2], by rw [List.map_cons, h3], fun y hy => ?_⟩
    rcases List.mem_cons.1 hy with rfl | q
    · exact h.1
    · exact h4 y q
theorem each_tri {w : World} {base : Nat} : ∀ (ds : List Tri), (∀ x ∈ ds, tabC.ow w base x.t.us x.T x.f) → Cd.Each tabC w base (ds.map encT) (ds.map Tri.T) (ds.map Tri.f)
  | [], _ => trivial
  | x :: ds, h => ⟨h x List.mem_cons_self, each_tri ds fun y hy => h y (List.mem_cons_of_mem _ hy)⟩
theorem flat_at : ∀ (ds : List Tri) (j : Nat), j < ds.length * 3 → (ds.map encT).flatten[j]? = some ((encT (ds.toArray[j / 3]!))[j % 3]!)
  | [], j, h => by simp at h
  | x :: ds, j, h => by
    rw [List.map_cons, List.flatten_cons]
    by_cases q : j < 3
    · rw [List.getElem?_append_left (by simpa [encT, TabV.us] using q), Nat.div_eq_of_lt q, Nat.mod_eq_of_lt q]
      have e : (x :: ds).toArray[0]! = x := rfl
      rw [e, getElem!_pos (encT x) j (by simpa [encT, TabV.us] using q), List.getElem?_eq_getElem]
    · have hl : (encT x).length = 3 := rfl
      rw [List.getElem?_append_right (by omega), hl, flat_at ds (j - 3) (by rw [List.length_cons] at h; omega)]
      have e1 : j / 3 = (j - 3) / 3 + 1 := by omega
      have e2 : j % 3 = (j - 3) % 3 := by omega
      rw [e1, e2]
      have hj : (j - 3) / 3 < ds.length := by rw [List.length_cons] at h; omega
      rw [getElem!_pos ds.toArray _ (by simpa using hj), getElem!_pos (x :: ds).toArray _ (by simpa using hj)]
      simp
theorem flat_len : ∀ (ds : List Tri), (ds.map encT).flatten.length = ds.length * 3
  | [] => rfl
  | x :: ds => by rw [List.map_cons, List.flatten_cons, List.length_append, flat_len ds, List.length_cons]; show 3 + _ = _; omega
theorem put_take (ds : List Tri) (cur : Array Value) (h : ds.length * 3 ≤ cur.size) : (Sort.putCells id 0 (Sort.flatK encT 3 ds.toArray) cur).toList.take (ds.length * 3) = (ds.map encT).flatten := by
  apply List.ext_getElem?
  intro j
  by_cases hj : j < ds.length * 3
  · rw [flat_at ds j hj, List.getElem?_take, if_pos hj, Array.getElem?_toList]
    unfold Sort.putCells
    rw [Array.getElem?_mapIdx, Array.getElem?_eq_getElem (by omega)]
    simp only [Option.map_some, Sort.size_flatK, List.size_toArray, Nat.zero_le, true_and, Nat.zero_add, hj, if_true, id, Nat.sub_zero]
    rw [Sort.get_flatK _ _ _ _ (by simpa using hj)]
  · rw [List.getElem?_eq_none (by rw [List.length_take]; omega), List.getElem?_eq_none (by rw [flat_len]; omega)]
theorem heap_grow (w : World) (os : Array Obj) {k : Nat} (h : k < w.heap.size) : (Sort.grow w os).heap[k]? = w.heap[k]? := by
  show (w.heap ++ os)[k]? = w.heap[k]?
  rw [Array.getElem?_append_left h]
theorem heap_sort (w : World) (g m : Nat) (d : Array Tri) (os : Array Obj) (hg : g < w.heap.size) {cur : Array Value} {e : TypeId} (h : w.heap[g]? = some (.cells cur e (0, 0))) :
    (sortWorldK encT 3 w g 0 m d os).heap[g]? = some (.cells (Sort.putCells id 0 (Sort.flatK encT 3 d) cur) e (0, 0)) := by
  unfold sortWorldK
  rw [heap_grow _ os (by rw [Sort.size_putRowK]; exact hg)]
  show (w.heap.modify g _)[g]? = _
  rw [Array.getElem?_modify, if_pos rfl, h]
  rfl
theorem touch_sortK (w : World) (g m : Nat) (d : Array Tri) (os : Array Obj) : Cd.Touch [g] w (sortWorldK encT 3 w g 0 m d os) := by
  unfold sortWorldK
  exact ((Cd.touch_ahead _ w m).trans (Cd.touch_putRow id _ g _)).trans (Cd.Touch.of_below (below_grow _ os))

/-- The same tables, in the order of their names. -/
def SortAns (g cap base : Nat) (l : List T3) (w : World) (e : Ending) (w' : World) : Prop :=
  ∃ l' fp', e = .returned (.tuple #[]) ∧ tabsC.ow w' base [.slice (some ⟨g, 0, none⟩) l'.length cap] l' fp' ∧ fp'.Nodup ∧ l'.Perm l ∧ l'.Pairwise (fun a b => ltB b.1 a.1 = false) ∧ Cd.Touch [g] w w'

set_option maxRecDepth 100000 in
set_option maxHeartbeats 1600000 in
theorem sort_tables (g cap base : Nat) (l : List T3) (fp : List Nat) (w : World) (ho : tabsC.ow w base [.slice (some ⟨g, 0, none⟩) l.length cap] l fp) (hn : fp.Nodup) (hl : l.length ≤ 1000000) :
    Calls Tryz.prog 80 #[.slice (some ⟨g, 0, none⟩) l.length cap, .func (.func 78) #[] #[]] w fun e w' => SortAns g cap base l w e w' := by
  obtain ⟨v', xss, fps, e1, hown, hE, rfl⟩ := ho
  injection e1 with e1 _
  subst e1
  obtain ⟨ds, rfl, rfl, rfl, hds⟩ := tri_each hE
  have hdl : (ds.map Tri.T).length = ds.length := List.length_map ..
  rcases hown.2 with ⟨h', _⟩ | ⟨g', cap', cur, h', hbg, hg, hnc, hcm, hcs, htake⟩
  · cases h'
  simp only [Value.slice.injEq, Option.some.injEq, Addr.mk.injEq, and_true, true_and] at h'
  obtain ⟨rfl, rfl⟩ := h'
  have hgw : g < w.heap.size := (Array.getElem?_eq_some_iff.1 hg).1
  simp only [Value.ownBlock, Option.toList_some, List.cons_append, List.nil_append, List.nodup_cons] at hn
  have hsz : ds.toArray.size = (ds.map Tri.T).length := by rw [hdl]; rfl
  have hH : Sort.HoldsK encT 3 w g 0 ds.toArray := by
    intro j hj
    rw [Sort.size_flatK, List.size_toArray] at hj
    have hc := World.ownsRow.cellAt hown j (by rw [hdl]; exact hj)
    rw [flat_at ds j hj] at hc
    rw [Sort.get_flatK _ _ _ _ (by simpa using hj), Nat.zero_add]
    exact ⟨hc, by simp [World.frozen?, hg]⟩
  have hcmp : CmpLays Tryz.prog 78 #[] encT 3 cfT g 0 ds.toArray.size w := fun m os dk _ x y =>
    (cmp_names x.t.nm y.t.nm _ _ _ _ _).mono fun _ _ ⟨he, os', hw⟩ => ⟨he, 0, os', hw⟩
  have hs := AnyQ.slices_SortFunc Tryz.laysSk6 3 Tryz.isAgg51 Tryz.sizeOf51 encT (fun _ => rfl) (fun x v hv => by simp [encT, TabV.us] at hv; rcases hv with rfl | rfl | rfl <;> rfl) cfT swoT 78 #[] g 0 cap ds.toArray w (enters_of Tryz.func78 (by kernel_rfl) rfl) hcmp hH hgw (by rw [hsz]; omega)
  rw [hsz] at hs
  refine Calls.mono (show Calls Tryz.prog 80 _ w _ from hs) ?_
  rintro e w' ⟨rfl, d', m, os, hP, hS, rfl⟩
  obtain ⟨hp1, _, hp3⟩ := hP
  have hd' : d'.size = ds.length := by rw [hp1]; rfl
  have hp : d'.toList.Perm ds := by
    have e1 : d'.extract 0 (ds.map Tri.T).length = d' := by rw [hdl, ← hd', Array.extract_size]
    have e2 : ds.toArray.extract 0 (ds.map Tri.T).length = ds.toArray := by rw [hdl, show ds.length = ds.toArray.size from rfl, Array.extract_size]
    rw [e1, e2] at hp3
    exact hp3
  have hto := touch_sortK w g m d' os
  have hmem : ∀ x ∈ d'.toList, tabC.ow w base x.t.us x.T x.f := fun x hx => hds x (hp.mem_iff.1 hx)
  have hfl : ((d'.toList.map Tri.f).flatten).Perm ((ds.map Tri.f).flatten) := (hp.map Tri.f).flatten
  have hdd : (d'.toList).length = ds.length := hd'
  have hlen : (d'.toList.map Tri.T).length = ds.length := by rw [List.length_map, hdd]
  have hE' : Cd.Each tabC (sortWorldK encT 3 w g 0 m d' os) base (d'.toList.map encT) (d'.toList.map Tri.T) (d'.toList.map Tri.f) := by
    refine Cd.Each.imp (each_tri d'.toList hmem) fun x a f hf hq => tabC.ow_keep hq fun b hb => hto.block b (tabC.ow_lt hq b hb).2 fun q => ?_
    rw [List.mem_singleton.1 q] at hb
    exact hn.1 (hfl.mem_iff.1 (List.mem_flatten.2 ⟨f, hf, hb⟩))
  have hs' := hd'
  refine ⟨d'.toList.map Tri.T, g :: (d'.toList.map Tri.f).flatten, rfl, ⟨_, _, _, rfl, ⟨?_, .inr ⟨g, cap, _, by rw [hlen], hbg, heap_sort w g m d' os hgw hg, by rw [hlen, ← hdl]; exact hnc, hcm, ?_, ?_⟩⟩, hE', rfl⟩, ?_, hp.map Tri.T, ?_, hto⟩
  · rw [flat_len, hlen, hdd]; rfl
  · unfold Sort.putCells; rw [Array.size_mapIdx]; exact hcs
  · rw [hlen, ← hdd]
    have := put_take d'.toList cur (by rw [hcs, hdd, ← hdl]; exact Nat.mul_le_mul_right _ hnc)
    exact this
  · exact List.nodup_cons.2 ⟨fun q => hn.1 (hfl.mem_iff.1 q), hfl.nodup_iff.2 hn.2⟩
  · rw [List.pairwise_map]
    rw [List.pairwise_iff_getElem]
    intro i j hi hj hij
    have h1 := hS i j (Nat.zero_le _) hij (by rw [hdl, ← hdd]; exact hj)
    rw [ltOf_cf, getElem!_pos d' j (by simpa using hj), getElem!_pos d' i (by simpa using hi)] at h1
    have ei : ∀ x ∈ d'.toList, x.t.nm = x.T.1 := fun x hx => by
      have := DbSpec.name_cell (tabC.ow_rd (hmem x hx))
      injection this
    rw [← ei _ (List.getElem_mem hi), ← ei _ (List.getElem_mem hj), Array.getElem_toList, Array.getElem_toList]
    exact h1
end Go.Proofs.YtmifnbplkaonaaaGreat.DbSort
