/- Dependencies: the program's questions of columns, and of a database. -/
import Derived.Test.YtnoennmhifmolaaDepSpec1
import Derived.Test.YtnoennmhifmolaaDepCol
import Derived.Test.YtnoennmhifmolaaDbImp3
namespace Go.Proofs.Ytnoennmhifmolaa.DepImp
open Go Go.RowKit Byt Ints IntsLaw Cd Rows2 Tab SlMath TabOpen TabElem SlTable Db TabSpec Exact DbMath Dep QryMath DepMath DbExact DepSpec
open DbSpec (lkT LookAns zeroT)
open DegMath (colsOk)

set_option maxRecDepth 100000 in
set_option maxHeartbeats 3200000 in
theorem impl_isdep (u v : Value) (l : List T3) (nm : ByteArray) (V : List Int) (t : Int) (S S2 : Nat → Prop) (w : World) (h1 : tabsC.rd w S [u] l) (h2 : rowC.rd w S2 [v] V) (hw : wtS l ≤ 1048577) (hs : nm.size ≤ 1048576) :
    Calls Try.prog 17 #[.agg #[u], .agg #[.string nm, v, .int .i64 t]] w fun e w' => e = .returned (.bool (depOk l (nm, V, t))) ∧ Below w.heap.size w w' := by
  have HV2 := Lib.hid (fun w' (hb : Below w.heap.size w w') => Cd.later h2 hb)
  have HLK := Lib.hid (fun w' (hb : Below w.heap.size w w') => DbImp.impl_look u l nm S w' (Cd.later h1 hb) hw hs)
  obtain ⟨a1, cap1, rfl, hl1⟩ := Cd.sl_form h1
  obtain ⟨a2, cap2, rfl, hl2, _⟩ := (row_ri h2).1
  clear h1 h2 hw hs
  go_enter Try.func17, Try.ntmps17
  go_wp2_with fail
  generalize hW : (w.alloc _).alloc _ = W
  obtain ⟨r0, r1, hz, hb0⟩ := start2g w _ _ hW
  have L1 := Lib.hid (Loc3.of r1)
  have HB0 := Lib.hid hb0
  clear hW r0 r1 hz
  refine (HLK.out W hb0).mono ?_
  rintro e w1 ⟨vt, fp, rfl, how, hnd, hb1⟩
  obtain ⟨a3, c3, rfl⟩ := Cd.ow_slice (c := rowC) how
  replace L1 := Lib.hid (L1.out.later hb1)
  have HB1 := Lib.hid (below_then HB0.out hb1)
  clear hb0 hb1 how hnd HLK
  have y0 := L1.out.c0
  have y1 := L1.out.c1
  have y2 := L1.out.c2
  have yd := L1.out.lt
  cases hq : (lookL l nm).isSome
  · have HZ := Lib.hid (depOk_no (l := l) (D := (nm, V, t)) hq)
    generalize lkT l nm = T at *
    go_wp2_with fail
    go_ret
    exact ⟨ret_b HZ.out.symm, below_then HB1.out (below_alloc _ _)⟩
  have HZ := Lib.hid (depOk_yes (l := l) (D := (nm, V, t)) hq)
  clear hq
  simp only at HZ
  generalize lkT l nm = T at *
  go_wp2_with fail
  generalize hg : World.alloc w1 _ = w2
  obtain ⟨rg, z2, hbg⟩ := start1 w1 _ hg
  clear hg
  have HB2 := Lib.hid (below_then HB1.out hbg)
  have HC := Lib.hid (impl_below nm (.slice a2 V.length cap2) V t T.2.1 _ w2 (HV2.out w2 HB2.out))
  clear rg hbg y0 y1 y2 yd z2
  refine HC.out.mono ?_
  rintro e w3 ⟨rfl, hb3⟩
  have HB3 := Lib.hid (below_then HB2.out hb3)
  clear hb3 HC
  generalize hcd : colsD (nm, V, t) T.2.1 = b at *
  go_wp2_with fail
  go_ret
  exact ⟨ret_b (by rw [HZ.out]), HB3.out⟩
end Go.Proofs.Ytnoennmhifmolaa.DepImp
