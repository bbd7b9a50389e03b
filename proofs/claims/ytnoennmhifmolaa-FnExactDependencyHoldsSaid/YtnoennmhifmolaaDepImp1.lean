/- Dependencies: the model's questions of a database. -/
import Derived.Test.YtnoennmhifmolaaDepDb
import Derived.Test.YtnoennmhifmolaaDegSpec2
import Derived.Test.YtnoennmhifmolaaQryVars
import Derived.Test.YtnoennmhifmolaaDepCol
import Derived.Test.YtnoennmhifmolaaDbImp3
namespace Go.Proofs.Ytnoennmhifmolaa.DepSpec
open Go Go.RowKit Byt Ints IntsLaw Cd Rows2 Tab SlMath TabOpen TabElem SlTable Db TabSpec Exact DbMath Dep QryMath DepMath DbExact
open DbSpec (lkT LookAns zeroT spec_look)
open DegMath (colsOk gcOk)

theorem depOk_no {l : List T3} {D : D3} (h : (lookL l D.1).isSome = false) : depOk l D = false := by unfold depOk; rw [h]; rfl
theorem depOk_yes {l : List T3} {D : D3} (h : (lookL l D.1).isSome = true) : depOk l D = colsD D (lkT l D.1).2.1 := by unfold depOk; rw [h]; rfl
set_option maxRecDepth 100000 in
set_option maxHeartbeats 3200000 in
theorem spec_isdep (u v : Value) (l : List T3) (nm : ByteArray) (V : List Int) (t : Int) (S S2 : Nat → Prop) (w : World) (h1 : tabsC.rd w S [u] l) (h2 : rowC.rd w S2 [v] V) (hw : wtS l ≤ 1048577) :
    Calls Try.prog 14 #[.agg #[u], .agg #[.string nm, v, .int .i64 t]] w fun e w' => e = .returned (.bool (depOk l (nm, V, t))) ∧ Below w.heap.size w w' := by
  have HV2 := Lib.hid (fun w' (hb : Below w.heap.size w w') => Cd.later h2 hb)
  have HLK := Lib.hid (fun w' (hb : Below w.heap.size w w') => spec_look u l nm S w' (Cd.later h1 hb) hw)
  obtain ⟨a1, cap1, rfl, hl1⟩ := Cd.sl_form h1
  obtain ⟨a2, cap2, rfl, hl2, _⟩ := (row_ri h2).1
  clear h1 h2 hw
  go_enter Try.func14, Try.ntmps14
  go_wp2_with fail
  generalize hW : (w.alloc _).alloc _ = W
  obtain ⟨r0, r1, hz, hb0⟩ := start2g w _ _ hW
  have L0 := Lib.hid (Loc1.of r0)
  have L1 := Lib.hid (Loc3.of r1)
  have HB0 := Lib.hid hb0
  clear hW r0 r1 hz
  refine (HLK.out W hb0).mono ?_
  rintro e w1 ⟨vt, fp, rfl, how, hnd, hb1⟩
  obtain ⟨a3, c3, rfl⟩ := Cd.ow_slice (c := rowC) how
  replace L1 := Lib.hid (L1.out.later hb1)
  have HB1 := Lib.hid (below_then HB0.out hb1)
  have HOW := Lib.hid (rowsC.ow_rd how)
  clear hb0 hb1 how hnd HLK L0
  have y0 := L1.out.c0
  have y1 := L1.out.c1
  have y2 := L1.out.c2
  have yd := L1.out.lt
  cases hq : (lookL l nm).isSome
  · have HZ := Lib.hid (depOk_no (l := l) (D := (nm, V, t)) hq)
    generalize lkT l nm = T at *
    go_wp2_with fail
    go_ret
    exact ⟨ret_b HZ.out.symm, below_then HB1.out (below_alloc _ _)⟩
  have HZ := Lib.hid (depOk_yes (l := l) (D := (nm, V, t)) hq)
  have HF := Lib.hid (found_of hq)
  clear hq
  simp only at HZ
  generalize lkT l nm = T at *
  have q1 := HF.out.a1
  have q3 := HF.out.a3
  go_wp2_with fail
  generalize hg : World.alloc w1 _ = w2
  obtain ⟨rg, z2, hbg⟩ := start1 w1 _ hg
  clear hg
  have LT := Lib.hid (Loc3.of rg)
  replace L1 := Lib.hid (L1.out.later hbg)
  have HB2 := Lib.hid (below_then HB1.out hbg)
  have HC := Lib.hid (DegSpec.spec_cols T.1 T.2.1 _ _ T.2.2 V _ _ w2 (Cd.later HOW.out hbg) (HV2.out w2 HB2.out))
  have HG := Lib.hid (show gcOk T.1 T.2.1 T.2.2 V = colsOk V T.2.1 by unfold gcOk; rw [HF.out.ok]; rfl)
  rw [HG.out] at HC
  have HI := Lib.hid (fun w' => Fixed.l1In_any t 0 (T.2.1 - 1) w')
  rw [in_col] at HI
  clear rg hbg y0 y1 y2 yd z2
  refine HC.out.mono ?_
  rintro e w3 ⟨rfl, hb3⟩
  have LT3 := Lib.hid (LT.out.later hb3)
  have L13 := Lib.hid (L1.out.later hb3)
  have HB3 := Lib.hid (below_then HB2.out hb3)
  have HH := Lib.hid (QrySpec.spec_has (.slice a2 V.length cap2) V t _ w3 (row_ri (HV2.out w3 HB3.out)).1)
  clear hb3 HC LT L1
  have y0 := L13.out.c0
  have y1 := L13.out.c1
  have y2 := L13.out.c2
  have x1 := LT3.out.c1
  cases hc : colsOk V T.2.1
  · have HE := Lib.hid (show depOk l (nm, V, t) = false by rw [HZ.out]; unfold colsD; rw [hc]; rfl)
    clear hc HI HH
    go_wp2_with fail
    go_ret
    exact ⟨ret_b HE.out.symm, HB3.out⟩
  cases ht : colB t T.2.1
  · have HE := Lib.hid (show depOk l (nm, V, t) = false by rw [HZ.out]; unfold colsD; rw [ht, Bool.and_false]; rfl)
    rw [ht] at HI
    clear hc ht HH
    go_wp2_with fail
    refine (HI.out _).mono ?_
    rintro e w4 ⟨rfl, rfl⟩
    go_wp2_with fail
    go_ret
    exact ⟨ret_b HE.out.symm, HB3.out⟩
  have HE := Lib.hid (show depOk l (nm, V, t) = !hasI V t by rw [HZ.out]; unfold colsD; rw [hc, ht]; rfl)
  rw [ht] at HI
  clear hc ht
  generalize hasI V t = b at *
  go_wp2_with fail
  refine (HI.out _).mono ?_
  rintro e w4 ⟨rfl, rfl⟩
  go_wp2_with fail
  refine HH.out.mono ?_
  rintro e w5 ⟨rfl, rfl⟩
  go_wp2_with fail
  go_ret
  exact ⟨ret_b HE.out.symm, HB3.out⟩
end Go.Proofs.Ytnoennmhifmolaa.DepSpec
namespace Go.Proofs.Ytnoennmhifmolaa.DepImp
open Go Go.RowKit Byt Ints IntsLaw Cd Rows2 Tab SlMath TabOpen TabElem SlTable Db TabSpec Exact DbMath Dep QryMath DepMath DbExact DepSpec
open DbSpec (lkT LookAns zeroT)
open DegMath (colsOk)

set_option maxRecDepth 100000 in
set_option maxHeartbeats 3200000 in
theorem impl_isdep (u v : Value) (l : List T3) (nm : ByteArray) (V : List Int) (t : Int) (S S2 : Nat → Prop) (w : World) (h1 : tabsC.rd w S [u] l) (h2 : rowC.rd w S2 [v] V) (hw : wtS l ≤ 1048577) (hs : nm.size ≤ 1048576) :
    Calls Try.prog 17 #[.agg #[u], .agg #[.string nm, v, .int .i64 t]] w fun e w' => e = .returned (.bool (depOk l (nm, V, t))) ∧ Below w.heap.size w w' := by
  have HV2 := Lib.hid (fun w' (hb : Below w.heap.size w w') => Cd.later h2 hb)
  have HLK := Lib.hid (fun w' (hb : Below w.heap.size w w') => DbImp.impl_look u l nm S w' (Cd.later h1 hb) hw hs)
  obtain ⟨a1, cap1, rfl, hl1⟩ := Cd.sl_form h1
  obtain ⟨a2, cap2, rfl, hl2, _⟩ := (row_ri h2).1
  clear h1 h2 hw hs
  go_enter Try.func17, Try.ntmps17
  go_wp2_with fail
  generalize hW : (w.alloc _).alloc _ = W
  obtain ⟨r0, r1, hz, hb0⟩ := start2g w _ _ hW
  have L1 := Lib.hid (Loc3.of r1)
  have HB0 := Lib.hid hb0
  clear hW r0 r1 hz
  refine (HLK.out W hb0).mono ?_
  rintro e w1 ⟨vt, fp, rfl, how, hnd, hb1⟩
  obtain ⟨a3, c3, rfl⟩ := Cd.ow_slice (c := rowC) how
  replace L1 := Lib.hid (L1.out.later hb1)
  have HB1 := Lib.hid (below_then HB0.out hb1)
  clear hb0 hb1 how hnd HLK
  have y0 := L1.out.c0
  have y1 := L1.out.c1
  have y2 := L1.out.c2
  have yd := L1.out.lt
  cases hq : (lookL l nm).isSome
  · have HZ := Lib.hid (depOk_no (l := l) (D := (nm, V, t)) hq)
    generalize lkT l nm = T at *
    go_wp2_with fail
    go_ret
    exact ⟨ret_b HZ.out.symm, below_then HB1.out (below_alloc _ _)⟩
  have HZ := Lib.hid (depOk_yes (l := l) (D := (nm, V, t)) hq)
  clear hq
  simp only at HZ
  generalize lkT l nm = T at *
  go_wp2_with fail
  generalize hg : World.alloc w1 _ = w2
  obtain ⟨rg, z2, hbg⟩ := start1 w1 _ hg
  clear hg
  have HB2 := Lib.hid (below_then HB1.out hbg)
  have HC := Lib.hid (impl_below nm (.slice a2 V.length cap2) V t T.2.1 _ w2 (HV2.out w2 HB2.out))
  clear rg hbg y0 y1 y2 yd z2
  refine HC.out.mono ?_
  rintro e w3 ⟨rfl, hb3⟩
  have HB3 := Lib.hid (below_then HB2.out hb3)
  clear hb3 HC
  generalize hcd : colsD (nm, V, t) T.2.1 = b at *
  go_wp2_with fail
  go_ret
  exact ⟨ret_b (by rw [HZ.out]), HB3.out⟩
end Go.Proofs.Ytnoennmhifmolaa.DepImp
