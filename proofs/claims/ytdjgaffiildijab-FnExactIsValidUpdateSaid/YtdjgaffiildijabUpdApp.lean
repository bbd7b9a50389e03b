/- Updates of databases: the model's ApplyUpdate and IsValidUpdate. -/
import Derived.Test.YtdjgaffiildijabUpdMath
import Derived.Test.YtdjgaffiildijabDbSet
namespace Go.Proofs.Ytdjgaffiildijab.UpdApp
open Go Go.RowKit Byt Ints IntsLaw Cd Rows2 Tab SlMath TabOpen TabElem SlTable Db TabSpec DbMath DbExact Upd UpdMath
open DbSpec (LookAns lk_some lk_none)
open DbAcc (DbAns)

theorem tab_rd {w : World} {S : Nat → Prop} {nm : ByteArray} {ar : Int} {u : Value} {rows : List (List Int)} (h : rowsC.rd w S [u] rows) (hs : nm.size ≤ maxLen) (ha : -9223372036854775808 ≤ ar ∧ ar ≤ 9223372036854775807) : tabC.rd w S [.string nm, .int .i64 ar, u] (nm, ar, rows) :=
  ⟨[.string nm], [.int .i64 ar, u], rfl, ⟨rfl, hs⟩, ⟨[.int .i64 ar], [u], rfl, ⟨rfl, ha⟩, h⟩⟩
theorem okT_bd {T : T3} (h : okT T = true) : T.1.size = 1 ∧ (1 ≤ T.2.1 ∧ T.2.1 ≤ 3) := by
  have htp : TabP T.1 T.2.1 T.2.2 := of_decide_eq_true h
  exact ⟨(of_decide_eq_true htp.1).1, htp.2.1, htp.2.2.1⟩
theorem chT_rd {w : World} {S : Nat → Prop} {T : T3} {b : Bool} {row : List Int} {u : Value} (h : rowsC.rd w S [u] (chR T b row)) (hk : okT T = true) : tabC.rd w S [.string T.1, .int .i64 T.2.1, u] (chT T b row) :=
  tab_rd h (by have := (okT_bd hk).1; unfold maxLen; omega) (by have := (okT_bd hk).2; omega)
theorem wt_rows {T : T3} (h : wtT T ≤ 40) : rowsWt T.2.2 ≤ 40 ∧ T.1.size ≤ 40 := by unfold wtT tabWt at h; omega
/-- The answer of a database that is stored in block Y, out of another answer. -/
theorem ans_far {w w1 w2 : World} {l : List T3} {b : Bool} {u : Value} {fp : List Nat} (ho : tabsC.ow w2 w1.heap.size [u] l fp) (hn : fp.Nodup) (hb1 : Below w.heap.size w w1) (hb : Below w1.heap.size w1 w2) {Y : Nat} (hY : w.heap.size ≤ Y) (hY1 : Y < w1.heap.size) {l' : List T3} {b' : Bool} (el : l = l') (eb : b = b') :
    DbAns l' b' w (.returned (.tuple #[.agg #[u], .bool b])) (w2.setCell ⟨Y, 0, none⟩ u) := by
  subst el eb
  exact ⟨u, fp, rfl, ow_setCell ((Cd.sl _ tabC).ow_base ho hb1.size) (fun q => by have := ((Cd.sl _ tabC).ow_lt ho _ q).1; simp only at this; omega) _, hn, (below_then hb1 hb).setCell hY _⟩
theorem ans_alloc {w w' : World} {l : List T3} {b : Bool} {e : Ending} (h : DbAns l b w e w') (o : Obj) : DbAns l b w e (w'.alloc o) := by
  obtain ⟨u, fp, h1, h2, h3, h4⟩ := h
  exact ⟨u, fp, h1, Cd.ow_later h2 (below_alloc _ _), h3, below_then h4 (below_alloc _ _)⟩

set_option maxRecDepth 100000 in
set_option maxHeartbeats 3200000 in
theorem spec_apply_true (u v : Value) (l : List T3) (nm : ByteArray) (row : List Int) (S S2 : Nat → Prop) (w : World) (h1 : tabsC.rd w S [u] l) (h2 : rowC.rd w S2 [v] row) (hw : wtS l ≤ 1048577) (hrl : row.length ≤ 1048577) :
    Calls Try.prog 23 #[.agg #[u], .agg #[.string nm, .bool true, v]] w fun e w' => DbAns (appL l nm true row) (appOk l nm true row) w e w' := by
  have HL := Lib.hid (fun w' (hb : Below w.heap.size w w') => DbSpec.spec_look u l nm S w' (Cd.later h1 hb) hw)
  have HDC := Lib.hid (fun w' (hb : Below w.heap.size w w') => DbSpec.spec_dbcopy u l S w' (Cd.later h1 hb) (by omega))
  have HV := Lib.hid (fun w' (hb : Below w.heap.size w w') => Cd.later h2 hb)
  have HR := Lib.hid (fun w' (hb : Below w.heap.size w w') => Cd.later h1 hb)
  have HW := Lib.hid hw
  have HRL := Lib.hid hrl
  obtain ⟨a1, cap1, rfl, hl1⟩ := Cd.sl_form h1
  obtain ⟨a2, cap2, rfl, hl2⟩ := row_form h2
  clear h1 h2 hw hrl
  have HCH := Lib.hid (fun (T : T3) (hT : rowsWt T.2.2 ≤ 40) u' S' w' (h : rowsC.rd w' S' [u'] T.2.2) (hb : Below w.heap.size w w') =>
    (show Calls Try.prog 42 #[.agg #[.string T.1, .int .i64 T.2.1, u'], .slice a2 row.length cap2] w' fun e w'' => ∃ u'' fp, e = .returned (.tuple #[.agg #[.string T.1, .int .i64 T.2.1, u''], .bool (chOk T true row)]) ∧ rowsC.ow w'' w'.heap.size [u''] (chR T true row) fp ∧ fp.Nodup ∧ Below w'.heap.size w' w'' from TabSpec.spec_insert T.1 T.2.1 u' (.slice a2 row.length cap2) T.2.2 row S' S2 w' h (HV.out w' hb) (by omega) (by have := HRL.out; omega)))
  go_enter Try.func23, Try.ntmps23
  go_wp2_with fail
  generalize hW : ((w.alloc _).alloc _).alloc _ = W
  obtain ⟨r0, r1, r2, hz, hb0⟩ := start3 w _ _ _ hW
  have HC0 := Lib.hid (Loc1.of r0)
  have HC1 := Lib.hid (Loc3.of r1)
  have HC2 := Lib.hid (Loc1.of r2)
  have HB0 := Lib.hid hb0
  have HZ := Lib.hid hz
  clear hW r0 r1 r2 hz hb0
  refine (HL.out _ HB0.out).mono ?_
  rintro e w1 ⟨v1, fp, rfl, ho, hn, hb1⟩
  obtain ⟨a3, c3, rfl⟩ := Cd.ow_slice ho
  have HB1 := Lib.hid (below_then HB0.out hb1)
  have HC0a := Lib.hid (HC0.out.later hb1)
  have HC1a := Lib.hid (HC1.out.later hb1)
  have HC2a := Lib.hid (HC2.out.later hb1)
  have HZ1 := Lib.hid (show w.heap.size + 3 ≤ w1.heap.size by have := hb1.size; have := HZ.out; omega)
  have HO := Lib.hid ho
  clear ho hn hb1 HC0 HC1 HC2
  cases hl : lookL l nm with
  | none =>
    have HA := Lib.hid (app_none (appT_none (b := true) (row := row) hl))
    rw [lk_none hl]
    clear HO hl
    have q0 := HC0a.out.c0
    have q1 := HC0a.out.lt
    go_wp2_with fail
    refine (HDC.out _ (below_then HB1.out (below_alloc _ _))).mono ?_
    rintro e w3 ⟨u3, f3, rfl, ho3, hn3, hb3⟩
    obtain ⟨a4, c4, rfl⟩ := Cd.ow_slice (c := tabC) ho3
    have HC3 := Lib.hid (Loc1.later (HC2a.out.later (below_alloc _ _)) hb3)
    have y0 := HC3.out.c0
    have y1 := HC3.out.f0
    have HX := Lib.hid (ans_far ho3 hn3 (below_then HB1.out (below_alloc _ _)) hb3 (Y := w.heap.size + 2) (by omega) (by rw [size_alloc]; have := HZ1.out; omega) HA.out.1.symm HA.out.2.symm)
    clear ho3 hn3 hb3 q0 q1
    go_wp2_with fail
    have k0 : (w3.setCell ⟨w.heap.size + 2, 0, none⟩ (.slice a4 l.length c4)).cell? ⟨w.heap.size + 2, 0, none⟩ = some (.slice a4 l.length c4) := World.cell?_setCell_same _ _ _ y0
    refine bodyPost_ret (v := .tuple #[.agg #[.slice a4 l.length c4], .bool false]) (by simp [results, Try.results23, go_sem, k0]) rfl ?_
    exact HX.out
  | some T =>
    obtain ⟨hdb, hmem, hnmT, hok⟩ := look_ok hl
    have hw40 := wt_rows (wt_ok hok)
    have HOK := Lib.hid hok
    have HW40 := Lib.hid hw40
    have HLK := Lib.hid hl
    rw [lk_some hl] at HO ⊢
    clear hdb hmem hnmT hok hw40 hl
    go_upto_region 6 with fail
    generalize hW2 : (w1.alloc _).alloc _ = W2
    obtain ⟨s0, s1, sz, sb⟩ := start2g w1 _ _ hW2
    have HT6 := Lib.hid (Loc3.of s0)
    have HC1b := Lib.hid (HC1a.out.later sb)
    have HT8 := Lib.hid (Loc3.of s1)
    have HB2 := Lib.hid (below_then HB1.out sb)
    have HC0b := Lib.hid (HC0a.out.later sb)
    have HC2b := Lib.hid (HC2a.out.later sb)
    have HO2 := Lib.hid (Cd.ow_later HO.out sb)
    have HZ2 := Lib.hid sz
    clear hW2 s0 s1 sz sb
    have q0 := HC1b.out.c0
    have q1 := HC1b.out.c1
    have q2 := HC1b.out.c2
    obtain ⟨q3, q4, q5, _, _, _⟩ := HT6.out
    go_wp2_with fail
    clear q0 q1 q2 q3 q4 q5
    refine (HCH.out T HW40.out.1 _ _ W2 (rowsC.ow_rd HO2.out) HB2.out).mono ?_
    rintro e w3 ⟨u3, f3, rfl, ho3, hn3, hb3⟩
    obtain ⟨a5, c5, rfl⟩ := Cd.ow_slice ho3
    have HB3 := Lib.hid (below_then HB2.out hb3)
    have HC0c := Lib.hid (HC0b.out.later hb3)
    have HC2c := Lib.hid (HC2b.out.later hb3)
    have HT8c := Lib.hid (HT8.out.later hb3)
    have HO3 := Lib.hid ho3
    have HZ3 := Lib.hid (show w1.heap.size + 2 ≤ w3.heap.size by have := hb3.size; have := HZ2.out; omega)
    clear ho3 hn3 hb3
    obtain ⟨x0, x1, x2, g0, g1, g2⟩ := HT8c.out
    have q0 := HC0c.out.c0
    have n1 : ¬ (w.heap.size = w1.heap.size + 1) := by have := HZ1.out; omega
    have n2 : ¬ (w1.heap.size + 1 = w.heap.size) := by have := HZ1.out; omega
    have HBS := Lib.hid (show Below w.heap.size w (((w3.setCell ⟨w1.heap.size + 1, 0, none⟩ (.string T.1)).setCell ⟨w1.heap.size + 1, 1, none⟩ (.int .i64 T.2.1)).setCell ⟨w1.heap.size + 1, 2, none⟩ (.slice a5 (chR T true row).length c5)) from
      ((HB3.out.setCell (by show _ ≤ w1.heap.size + 1; have := HZ1.out; omega) _).setCell (by show _ ≤ w1.heap.size + 1; have := HZ1.out; omega) _).setCell (by show _ ≤ w1.heap.size + 1; have := HZ1.out; omega) _)
    have HC2d := Lib.hid (show Loc1 (((w3.setCell ⟨w1.heap.size + 1, 0, none⟩ (.string T.1)).setCell ⟨w1.heap.size + 1, 1, none⟩ (.int .i64 T.2.1)).setCell ⟨w1.heap.size + 1, 2, none⟩ (.slice a5 (chR T true row).length c5)) (w.heap.size + 2) (.slice none 0 0) from
      ((HC2c.out.set_far (by show w1.heap.size + 1 ≠ _; have := HZ1.out; omega) _).set_far (by show w1.heap.size + 1 ≠ _; have := HZ1.out; omega) _).set_far (by show w1.heap.size + 1 ≠ _; have := HZ1.out; omega) _)
    have HSS := Lib.hid (show w.heap.size + 2 < (((w3.setCell ⟨w1.heap.size + 1, 0, none⟩ (.string T.1)).setCell ⟨w1.heap.size + 1, 1, none⟩ (.int .i64 T.2.1)).setCell ⟨w1.heap.size + 1, 2, none⟩ (.slice a5 (chR T true row).length c5)).heap.size by have := HZ1.out; have := HZ3.out; simp; omega)
    have HO4 := Lib.hid (show rowsC.ow (((w3.setCell ⟨w1.heap.size + 1, 0, none⟩ (.string T.1)).setCell ⟨w1.heap.size + 1, 1, none⟩ (.int .i64 T.2.1)).setCell ⟨w1.heap.size + 1, 2, none⟩ (.slice a5 (chR T true row).length c5)) W2.heap.size [.slice a5 (chR T true row).length c5] (chR T true row) f3 from by
      have hn : w1.heap.size + 1 ∉ f3 := fun q => by have := (rowsC.ow_lt HO3.out _ q).1; have := HZ2.out; omega
      exact ow_setCell (ow_setCell (ow_setCell HO3.out hn _) hn _) hn _)
    obtain ⟨z0, z1, z2⟩ := set3 (x := .string T.1) (y := .int .i64 T.2.1) (z := .slice a5 (chR T true row).length c5) x0 x1 x2
    cases hk : chOk T true row
    · have HA := Lib.hid (app_none (appT_no (b := true) (row := row) HLK.out hk))
      clear hk z0 z1 z2
      go_wp2_with fail
      refine (HDC.out _ HBS.out).mono ?_
      rintro e w6 ⟨u6, f6, rfl, ho6, hn6, hb6⟩
      obtain ⟨a6, c6, rfl⟩ := Cd.ow_slice (c := tabC) ho6
      have HC6 := Lib.hid (HC2d.out.later hb6)
      have y0 := HC6.out.c0
      have y1 := HC6.out.f0
      have HX := Lib.hid (ans_far ho6 hn6 HBS.out hb6 (Y := w.heap.size + 2) (by omega) HSS.out HA.out.1.symm HA.out.2.symm)
      clear ho6 hn6 hb6 x0 x1 x2 g0 g1 g2 q0
      go_wp2_with fail
      have k0 : (w6.setCell ⟨w.heap.size + 2, 0, none⟩ (.slice a6 l.length c6)).cell? ⟨w.heap.size + 2, 0, none⟩ = some (.slice a6 l.length c6) := World.cell?_setCell_same _ _ _ y0
      refine bodyPost_ret (v := .tuple #[.agg #[.slice a6 l.length c6], .bool false]) (by simp [results, Try.results23, go_sem, k0]) rfl ?_
      exact HX.out
    · have HA := Lib.hid (app_some (appT_yes (b := true) (row := row) HLK.out hk))
      have HWC := Lib.hid (wt_ok (ok_ch HOK.out hk))
      clear hk
      go_wp2_with fail
      refine (DbAcc.spec_set _ l (chT T true row) a5 c5 S _ _ (HR.out _ HBS.out) (chT_rd (rowsC.ow_rd HO4.out) HOK.out) HW.out (by have := HWC.out; omega)).mono ?_
      rintro e w6 ⟨u6, f6, rfl, ho6, hn6, hb6⟩
      obtain ⟨a6, c6, rfl⟩ := Cd.ow_slice (c := tabC) ho6
      have HC6 := Lib.hid (HC2d.out.later hb6)
      have y0 := HC6.out.c0
      have y1 := HC6.out.f0
      have HX := Lib.hid (ans_far ho6 hn6 HBS.out hb6 (Y := w.heap.size + 2) (by omega) HSS.out HA.out.1.symm HA.out.2.symm)
      have m0 := cell_alloc_some (World.cell?_setCell_same _ _ (.slice a6 (setL l (chT T true row)).length c6) y0) (.cells #[.slice a6 (setL l (chT T true row)).length c6] 33 (0, 0))
      have M0 := Lib.hid m0
      have y2 := HC6.out.lt
      clear ho6 hn6 hb6 x0 x1 x2 g0 g1 g2 q0 z0 z1 z2 m0
      go_wp2_with fail
      have k0 := M0.out
      refine bodyPost_ret (v := .tuple #[.agg #[.slice a6 (setL l (chT T true row)).length c6], .bool (setOk l (chT T true row))]) (by simp [results, Try.results23, go_sem, k0]) rfl ?_
      exact ans_alloc HX.out _
set_option maxRecDepth 100000 in
set_option maxHeartbeats 3200000 in
theorem spec_apply_false (u v : Value) (l : List T3) (nm : ByteArray) (row : List Int) (S S2 : Nat → Prop) (w : World) (h1 : tabsC.rd w S [u] l) (h2 : rowC.rd w S2 [v] row) (hw : wtS l ≤ 1048577) (hrl : row.length ≤ 1048577) :
    Calls Try.prog 23 #[.agg #[u], .agg #[.string nm, .bool false, v]] w fun e w' => DbAns (appL l nm false row) (appOk l nm false row) w e w' := by
  have HL := Lib.hid (fun w' (hb : Below w.heap.size w w') => DbSpec.spec_look u l nm S w' (Cd.later h1 hb) hw)
  have HDC := Lib.hid (fun w' (hb : Below w.heap.size w w') => DbSpec.spec_dbcopy u l S w' (Cd.later h1 hb) (by omega))
  have HV := Lib.hid (fun w' (hb : Below w.heap.size w w') => Cd.later h2 hb)
  have HR := Lib.hid (fun w' (hb : Below w.heap.size w w') => Cd.later h1 hb)
  have HW := Lib.hid hw
  have HRL := Lib.hid hrl
  obtain ⟨a1, cap1, rfl, hl1⟩ := Cd.sl_form h1
  obtain ⟨a2, cap2, rfl, hl2⟩ := row_form h2
  clear h1 h2 hw hrl
  have HCH := Lib.hid (fun (T : T3) (hT : rowsWt T.2.2 ≤ 40) u' S' w' (h : rowsC.rd w' S' [u'] T.2.2) (hb : Below w.heap.size w w') =>
    (show Calls Try.prog 43 #[.agg #[.string T.1, .int .i64 T.2.1, u'], .slice a2 row.length cap2] w' fun e w'' => ∃ u'' fp, e = .returned (.tuple #[.agg #[.string T.1, .int .i64 T.2.1, u''], .bool (chOk T false row)]) ∧ rowsC.ow w'' w'.heap.size [u''] (chR T false row) fp ∧ fp.Nodup ∧ Below w'.heap.size w' w'' from TabSpec.spec_delete T.1 T.2.1 u' (.slice a2 row.length cap2) T.2.2 row S' S2 w' h (HV.out w' hb) (by omega)))
  go_enter Try.func23, Try.ntmps23
  go_wp2_with fail
  generalize hW : ((w.alloc _).alloc _).alloc _ = W
  obtain ⟨r0, r1, r2, hz, hb0⟩ := start3 w _ _ _ hW
  have HC0 := Lib.hid (Loc1.of r0)
  have HC1 := Lib.hid (Loc3.of r1)
  have HC2 := Lib.hid (Loc1.of r2)
  have HB0 := Lib.hid hb0
  have HZ := Lib.hid hz
  clear hW r0 r1 r2 hz hb0
  refine (HL.out _ HB0.out).mono ?_
  rintro e w1 ⟨v1, fp, rfl, ho, hn, hb1⟩
  obtain ⟨a3, c3, rfl⟩ := Cd.ow_slice ho
  have HB1 := Lib.hid (below_then HB0.out hb1)
  have HC0a := Lib.hid (HC0.out.later hb1)
  have HC1a := Lib.hid (HC1.out.later hb1)
  have HC2a := Lib.hid (HC2.out.later hb1)
  have HZ1 := Lib.hid (show w.heap.size + 3 ≤ w1.heap.size by have := hb1.size; have := HZ.out; omega)
  have HO := Lib.hid ho
  clear ho hn hb1 HC0 HC1 HC2
  cases hl : lookL l nm with
  | none =>
    have HA := Lib.hid (app_none (appT_none (b := false) (row := row) hl))
    rw [lk_none hl]
    clear HO hl
    have q0 := HC0a.out.c0
    have q1 := HC0a.out.lt
    go_wp2_with fail
    refine (HDC.out _ (below_then HB1.out (below_alloc _ _))).mono ?_
    rintro e w3 ⟨u3, f3, rfl, ho3, hn3, hb3⟩
    obtain ⟨a4, c4, rfl⟩ := Cd.ow_slice (c := tabC) ho3
    have HC3 := Lib.hid (Loc1.later (HC2a.out.later (below_alloc _ _)) hb3)
    have y0 := HC3.out.c0
    have y1 := HC3.out.f0
    have HX := Lib.hid (ans_far ho3 hn3 (below_then HB1.out (below_alloc _ _)) hb3 (Y := w.heap.size + 2) (by omega) (by rw [size_alloc]; have := HZ1.out; omega) HA.out.1.symm HA.out.2.symm)
    clear ho3 hn3 hb3 q0 q1
    go_wp2_with fail
    have k0 : (w3.setCell ⟨w.heap.size + 2, 0, none⟩ (.slice a4 l.length c4)).cell? ⟨w.heap.size + 2, 0, none⟩ = some (.slice a4 l.length c4) := World.cell?_setCell_same _ _ _ y0
    refine bodyPost_ret (v := .tuple #[.agg #[.slice a4 l.length c4], .bool false]) (by simp [results, Try.results23, go_sem, k0]) rfl ?_
    exact HX.out
  | some T =>
    obtain ⟨hdb, hmem, hnmT, hok⟩ := look_ok hl
    have hw40 := wt_rows (wt_ok hok)
    have HOK := Lib.hid hok
    have HW40 := Lib.hid hw40
    have HLK := Lib.hid hl
    rw [lk_some hl] at HO ⊢
    clear hdb hmem hnmT hok hw40 hl
    go_upto_region 6 with fail
    generalize hW2 : (w1.alloc _).alloc _ = W2
    obtain ⟨s0, s1, sz, sb⟩ := start2g w1 _ _ hW2
    have HT6 := Lib.hid (Loc3.of s0)
    have HC1b := Lib.hid (HC1a.out.later sb)
    have HT8 := Lib.hid (Loc3.of s1)
    have HB2 := Lib.hid (below_then HB1.out sb)
    have HC0b := Lib.hid (HC0a.out.later sb)
    have HC2b := Lib.hid (HC2a.out.later sb)
    have HO2 := Lib.hid (Cd.ow_later HO.out sb)
    have HZ2 := Lib.hid sz
    clear hW2 s0 s1 sz sb
    have q0 := HC1b.out.c0
    have q1 := HC1b.out.c1
    have q2 := HC1b.out.c2
    obtain ⟨q3, q4, q5, _, _, _⟩ := HT6.out
    go_wp2_with fail
    clear q0 q1 q2 q3 q4 q5
    refine (HCH.out T HW40.out.1 _ _ W2 (rowsC.ow_rd HO2.out) HB2.out).mono ?_
    rintro e w3 ⟨u3, f3, rfl, ho3, hn3, hb3⟩
    obtain ⟨a5, c5, rfl⟩ := Cd.ow_slice ho3
    have HB3 := Lib.hid (below_then HB2.out hb3)
    have HC0c := Lib.hid (HC0b.out.later hb3)
    have HC2c := Lib.hid (HC2b.out.later hb3)
    have HT8c := Lib.hid (HT8.out.later hb3)
    have HO3 := Lib.hid ho3
    have HZ3 := Lib.hid (show w1.heap.size + 2 ≤ w3.heap.size by have := hb3.size; have := HZ2.out; omega)
    clear ho3 hn3 hb3
    obtain ⟨x0, x1, x2, g0, g1, g2⟩ := HT8c.out
    have q0 := HC0c.out.c0
    have n1 : ¬ (w.heap.size = w1.heap.size + 1) := by have := HZ1.out; omega
    have n2 : ¬ (w1.heap.size + 1 = w.heap.size) := by have := HZ1.out; omega
    have HBS := Lib.hid (show Below w.heap.size w (((w3.setCell ⟨w1.heap.size + 1, 0, none⟩ (.string T.1)).setCell ⟨w1.heap.size + 1, 1, none⟩ (.int .i64 T.2.1)).setCell ⟨w1.heap.size + 1, 2, none⟩ (.slice a5 (chR T false row).length c5)) from
      ((HB3.out.setCell (by show _ ≤ w1.heap.size + 1; have := HZ1.out; omega) _).setCell (by show _ ≤ w1.heap.size + 1; have := HZ1.out; omega) _).setCell (by show _ ≤ w1.heap.size + 1; have := HZ1.out; omega) _)
    have HC2d := Lib.hid (show Loc1 (((w3.setCell ⟨w1.heap.size + 1, 0, none⟩ (.string T.1)).setCell ⟨w1.heap.size + 1, 1, none⟩ (.int .i64 T.2.1)).setCell ⟨w1.heap.size + 1, 2, none⟩ (.slice a5 (chR T false row).length c5)) (w.heap.size + 2) (.slice none 0 0) from
      ((HC2c.out.set_far (by show w1.heap.size + 1 ≠ _; have := HZ1.out; omega) _).set_far (by show w1.heap.size + 1 ≠ _; have := HZ1.out; omega) _).set_far (by show w1.heap.size + 1 ≠ _; have := HZ1.out; omega) _)
    have HSS := Lib.hid (show w.heap.size + 2 < (((w3.setCell ⟨w1.heap.size + 1, 0, none⟩ (.string T.1)).setCell ⟨w1.heap.size + 1, 1, none⟩ (.int .i64 T.2.1)).setCell ⟨w1.heap.size + 1, 2, none⟩ (.slice a5 (chR T false row).length c5)).heap.size by have := HZ1.out; have := HZ3.out; simp; omega)
    have HO4 := Lib.hid (show rowsC.ow (((w3.setCell ⟨w1.heap.size + 1, 0, none⟩ (.string T.1)).setCell ⟨w1.heap.size + 1, 1, none⟩ (.int .i64 T.2.1)).setCell ⟨w1.heap.size + 1, 2, none⟩ (.slice a5 (chR T false row).length c5)) W2.heap.size [.slice a5 (chR T false row).length c5] (chR T false row) f3 from by
      have hn : w1.heap.size + 1 ∉ f3 := fun q => by have := (rowsC.ow_lt HO3.out _ q).1; have := HZ2.out; omega
      exact ow_setCell (ow_setCell (ow_setCell HO3.out hn _) hn _) hn _)
    obtain ⟨z0, z1, z2⟩ := set3 (x := .string T.1) (y := .int .i64 T.2.1) (z := .slice a5 (chR T false row).length c5) x0 x1 x2
    cases hk : chOk T false row
    · have HA := Lib.hid (app_none (appT_no (b := false) (row := row) HLK.out hk))
      clear hk z0 z1 z2
      go_wp2_with fail
      refine (HDC.out _ HBS.out).mono ?_
      rintro e w6 ⟨u6, f6, rfl, ho6, hn6, hb6⟩
      obtain ⟨a6, c6, rfl⟩ := Cd.ow_slice (c := tabC) ho6
      have HC6 := Lib.hid (HC2d.out.later hb6)
      have y0 := HC6.out.c0
      have y1 := HC6.out.f0
      have HX := Lib.hid (ans_far ho6 hn6 HBS.out hb6 (Y := w.heap.size + 2) (by omega) HSS.out HA.out.1.symm HA.out.2.symm)
      clear ho6 hn6 hb6 x0 x1 x2 g0 g1 g2 q0
      go_wp2_with fail
      have k0 : (w6.setCell ⟨w.heap.size + 2, 0, none⟩ (.slice a6 l.length c6)).cell? ⟨w.heap.size + 2, 0, none⟩ = some (.slice a6 l.length c6) := World.cell?_setCell_same _ _ _ y0
      refine bodyPost_ret (v := .tuple #[.agg #[.slice a6 l.length c6], .bool false]) (by simp [results, Try.results23, go_sem, k0]) rfl ?_
      exact HX.out
    · have HA := Lib.hid (app_some (appT_yes (b := false) (row := row) HLK.out hk))
      have HWC := Lib.hid (wt_ok (ok_ch HOK.out hk))
      clear hk
      go_wp2_with fail
      refine (DbAcc.spec_set _ l (chT T false row) a5 c5 S _ _ (HR.out _ HBS.out) (chT_rd (rowsC.ow_rd HO4.out) HOK.out) HW.out (by have := HWC.out; omega)).mono ?_
      rintro e w6 ⟨u6, f6, rfl, ho6, hn6, hb6⟩
      obtain ⟨a6, c6, rfl⟩ := Cd.ow_slice (c := tabC) ho6
      have HC6 := Lib.hid (HC2d.out.later hb6)
      have y0 := HC6.out.c0
      have y1 := HC6.out.f0
      have HX := Lib.hid (ans_far ho6 hn6 HBS.out hb6 (Y := w.heap.size + 2) (by omega) HSS.out HA.out.1.symm HA.out.2.symm)
      have m0 := cell_alloc_some (World.cell?_setCell_same _ _ (.slice a6 (setL l (chT T false row)).length c6) y0) (.cells #[.slice a6 (setL l (chT T false row)).length c6] 33 (0, 0))
      have M0 := Lib.hid m0
      have y2 := HC6.out.lt
      clear ho6 hn6 hb6 x0 x1 x2 g0 g1 g2 q0 z0 z1 z2 m0
      go_wp2_with fail
      have k0 := M0.out
      refine bodyPost_ret (v := .tuple #[.agg #[.slice a6 (setL l (chT T false row)).length c6], .bool (setOk l (chT T false row))]) (by simp [results, Try.results23, go_sem, k0]) rfl ?_
      exact ans_alloc HX.out _
theorem spec_apply (u v : Value) (l : List T3) (nm : ByteArray) (b : Bool) (row : List Int) (S S2 : Nat → Prop) (w : World) (h1 : tabsC.rd w S [u] l) (h2 : rowC.rd w S2 [v] row) (hw : wtS l ≤ 1048577) (hrl : row.length ≤ 1048577) :
    Calls Try.prog 23 #[.agg #[u], .agg #[.string nm, .bool b, v]] w fun e w' => DbAns (appL l nm b row) (appOk l nm b row) w e w' := by
  cases b
  · exact spec_apply_false u v l nm row S S2 w h1 h2 hw hrl
  · exact spec_apply_true u v l nm row S S2 w h1 h2 hw hrl
end Go.Proofs.Ytdjgaffiildijab.UpdApp
