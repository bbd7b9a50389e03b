/- What the exact laws do with slices of dependencies: marked. -/
import Derived.Test.YtnoennmhifmolaaSlDependency
import Derived.Test.YtnoennmhifmolaaMark
import Derived.Test.YtnoennmhifmolaaMkTable
namespace Go.Proofs.Ytnoennmhifmolaa.MkDep
open Go Go.RowKit Byt Ints IntsLaw Cd Rows2 Tab TabSpec Exact SlMath Dep Mark
open SlTable (heap_same touch_cell)

def depsC : Cd (List D3) := Cd.sl 35 depC
/-- A dependency marked from k on, and how many marks it takes. -/
def mkD (k : Nat) (U : D3) : D3 := (mtext k, marks ((k + 1 : Nat) : Int) U.2.1.length, ((k + 1 + U.2.1.length : Nat) : Int))
def cntD (U : D3) : Nat := 2 + U.2.1.length
theorem cntD_le : ∀ (l : List D3), sumN cntD l ≤ 2 * SlDependency.wtS l
  | [] => by simp [sumN]
  | U :: l => by
    have ih := cntD_le l
    unfold SlDependency.wtS at *
    rw [sumN_cons, sumN_cons, List.length_cons]
    have : cntD U ≤ 2 + wtD U := by unfold cntD wtD depWt; omega
    omega
theorem urow_le {l : List D3} {U : D3} (h : U ∈ l) : U.2.1.length ≤ SlDependency.wtS l := by
  obtain ⟨k, hk, rfl⟩ := List.getElem_of_mem h
  have h1 := sumN_mem wtD hk
  have h2 : (l[k]).2.1.length ≤ wtD l[k] := by unfold wtD depWt; omega
  unfold SlDependency.wtS
  omega
theorem cntsD_of {l : List D3} (h : SlDependency.wtS l ≤ 1048576) : sumN cntD l ≤ 4194308 ∧ ∀ U ∈ l, U.2.1.length ≤ 1048577 :=
  ⟨by have := cntD_le l; omega, fun U hU => by have := urow_le hU; omega⟩

set_option maxRecDepth 100000 in
set_option maxHeartbeats 1600000 in
theorem mark_s (v : Value) (l : List D3) (base k0 : Nat) (fp : List Nat) (w : World) (h : (Cd.sl 35 depC).ow w base [v] l fp) (hnd : fp.Nodup) (hl : sumN cntD l ≤ 4194308) (hrl : ∀ U ∈ l, U.2.1.length ≤ 1048577) (hk1 : 1 ≤ k0) (hk0 : k0 ≤ 400000000) :
    Calls Try.prog 35 #[v, .int .i64 k0] w fun e w' => e = .returned (.int .i64 ((k0 + sumN cntD l : Nat) : Int)) ∧ (Cd.sl 35 depC).ow w' base [v] (mkS mkD cntD k0 l) fp ∧ Cd.Touch fp w w' := by
  have hlm : l.length ≤ 9223372036854775807 := by
    obtain ⟨_, _, _, q⟩ := Cd.sl_form ((Cd.sl _ depC).ow_rd h)
    exact q
  obtain ⟨a, cap, rfl⟩ := Cd.ow_slice h
  go_enter Try.func35, Try.ntmps35
  go_wp2
  go_loopw [1, 5] (fun k i wr => ∃ j : Nat, j ≤ l.length ∧ i = .int .i64 j ∧ k = .int .i64 ((k0 + sumN cntD (l.take j) : Nat) : Int) ∧ (Cd.sl 35 depC).ow wr base [.slice a l.length cap] (mpartA mkD cntD k0 l j) fp ∧ Cd.Touch fp w wr) (fun _ i _ => l.length - (intOf i).toNat)
  case atStart => exact ⟨0, Nat.zero_le _, rfl, by simp [sumN], by rw [mpartA_zero]; exact h, Cd.Touch.refl _ _⟩
  case round =>
    obtain ⟨j, hj, rfl, rfl, hown, htc⟩ := hrel
    by_cases hlt : j < l.length
    · have hpl := mpartA_length (mk := mkD) (cnt := cntD) k0 l j hj
      obtain ⟨g, cap', e1, _, hg, hgf⟩ := Cd.ow_form hown (by omega)
      rw [hpl] at e1
      injection e1 with e1 e2 e3
      subst e1 e3
      obtain ⟨us, f, hl0, hat, hu, hsub, hndf, hre⟩ := Cd.ow_elem hown (t := j) (by omega)
      rw [mpartA_get k0 l j hlt] at hu
      obtain ⟨ya, yc, rfl⟩ := shape_ow hu
      have c0 := hat 0 (by simp)
      have c1 := hat 1 (by simp)
      have c2 := hat 2 (by simp)
      simp only [List.getElem_cons_zero, List.getElem_cons_succ, Nat.add_zero, show depC.n = 3 from rfl] at c0 c1 c2
      have f0 := Cd.ow_frozen hown (j * 3)
      have f1 := Cd.ow_frozen hown (j * 3 + 1)
      have f2 := Cd.ow_frozen hown (j * 3 + 2)
      have hrow := row_of_dep hu
      have hkn : k0 + sumN cntD (l.take (j + 1)) = k0 + sumN cntD (l.take j) + cntD l[j] := by rw [sumN_succ cntD hlt]; omega
      have hkc : cntD l[j] = 2 + (l[j]).2.1.length := rfl
      have hkb := sumN_take cntD l (j + 1)
      have hfl := hrl _ (List.getElem_mem hlt)
      have hset := mpartA_set (mk := mkD) (cnt := cntD) k0 l j hlt
      have hq1 : 1 ≤ k0 + sumN cntD (l.take j) := by omega
      have hq2 : k0 + sumN cntD (l.take j) ≤ 404194308 := by omega
      have HKN := Lib.hid (show ((k0 + sumN cntD (l.take (j + 1)) : Nat) : Int) = ((k0 + sumN cntD (l.take j) + 1 + (l[j]).2.1.length + 1 : Nat) : Int) by omega)
      have HSET := Lib.hid hset
      have HRE := Lib.hid hre
      have HND := Lib.hid hnd
      have HNF := Lib.hid (hndf hnd)
      have HTC := Lib.hid htc
      have HROW := Lib.hid hrow
      have HSUB := Lib.hid hsub
      have HLT := Lib.hid ((Cd.sl 35 depC).ow_lt hown)
      have HGF := Lib.hid hgf
      have HFL := Lib.hid hfl
      clear hkn hkb hkc hset hown htc hnd hrow hu hndf hre hsub hat hl0 hpl hfl hrl hl h
      generalize k0 + sumN cntD (l.take j) = q at *
      have HMT := Lib.hid (mark_text q wr (by omega) (by omega))
      go_wp2_with fail
      refine HMT.out.mono ?_
      rintro e w1 ⟨rfl, hb1⟩
      have d0 := (hb1.cell (World.block_lt_of_cell? wr _ c0)).trans c0
      have d1 := (hb1.cell (World.block_lt_of_cell? wr _ c1)).trans c1
      have d2 := (hb1.cell (World.block_lt_of_cell? wr _ c2)).trans c2
      have g0 := (hb1.frozen (World.block_lt_of_cell? wr _ c0)).trans f0
      have g2 := (hb1.frozen (World.block_lt_of_cell? wr _ c2)).trans f2
      have HB1 := Lib.hid hb1
      have HMR := Lib.hid (mark_i _ (l[j]).2.1 base (q + 1) f (w1.setCell ⟨g, j * 3, none⟩ (.string (mtext q))) (ow_setCell (Cd.ow_later HROW.out hb1) HNF.out.2 _) HFL.out (by omega))
      have eq2 : ((q + 1 : Nat) : Int) = (q : Int) + 1 := by omega
      rw [eq2] at HMR
      generalize hfnl : (l[j]).2.1.length = fnl at *
      have HFNL := Lib.hid hfnl
      have HQF := Lib.hid (show q + 1 + fnl ≤ 405242887 by have := HFL.out; omega)
      clear hfnl HFL
      clear eq2
      clear hb1 c0 c1 c2 f0 f1 f2
      go_wp2_with fail
      refine HMR.out.mono ?_
      rintro e w4 ⟨rfl, ho4, ht4⟩
      have hgw : g < w1.heap.size := Nat.lt_of_lt_of_le (HLT.out g HGF.out).2 HB1.out.size
      have hgb : w4.heap[g]? = (wr.setCell ⟨g, j * 3, none⟩ (.string (mtext q))).heap[g]? := by
        rw [ht4.block g (by simpa using hgw) HNF.out.2]
        show (w1.setCell ⟨g, j * 3, none⟩ (.string (mtext q))).heap[g]? = _
        exact heap_same (HB1.out.block g (HLT.out g HGF.out).2)
      have e2 : w4.cell? ⟨g, j * 3 + 2, none⟩ = some (.int .i64 (l[j]).2.2) := by
        rw [World.cell?_of_block (w := w1.setCell ⟨g, j * 3, none⟩ (.string (mtext q))) (a := ⟨g, j * 3 + 2, none⟩) (ht4.block g (by simpa using hgw) HNF.out.2), World.cell?_setCell_other _ _ _ _ (by simp)]
        exact d2
      have k2 : w4.frozen? ⟨g, j * 3 + 2, none⟩ = false := by
        rw [World.frozen?_of_block (w := w1.setCell ⟨g, j * 3, none⟩ (.string (mtext q))) (a := ⟨g, j * 3 + 2, none⟩) (ht4.block g (by simpa using hgw) HNF.out.2)]
        simpa using g2
      have hclose := HRE.out (w4.setCell ⟨g, j * 3 + 2, none⟩ (.int .i64 ((q + 1 + fnl : Nat) : Int))) [some (.string (mtext q)), none, some (.int .i64 ((q + 1 + fnl : Nat) : Int))] (mkD q l[j]) f rfl
        (by
          have h := dep_ow (nm := mtext q) (t := ((q + 1 + fnl : Nat) : Int)) (ow_setCell (p := ⟨g, j * 3 + 2, none⟩) ho4 HNF.out.2 (.int .i64 ((q + 1 + fnl : Nat) : Int))) (by have := mtext_size q (by omega); unfold maxLen; omega) (by have := HQF.out; unfold int64; omega)
          unfold mkD
          rw [HFNL.out]
          exact h)
        (heap_same hgb)
        (fun b hb hbf hbg => by
          have hlt := (HLT.out b hb).2
          rw [Below.heap_setCell _ _ _ _ hbg, ht4.block b (by have := HB1.out.size; simp; omega) hbf, Below.heap_setCell _ _ _ _ hbg]
          exact HB1.out.block b hlt)
        HND.out HNF.out.1 (fun b hb => .inl hb)
      obtain ⟨fp', hx1, _, _, hx2⟩ := hclose
      obtain rfl := hx2 rfl
      rw [HSET.out] at hx1
      have HX := Lib.hid hx1
      have HT4 := Lib.hid (show Cd.Touch fp' w (w4.setCell ⟨g, j * 3 + 2, none⟩ (.int .i64 ((q + 1 + fnl : Nat) : Int))) from by
        have h1 : Cd.Touch fp' wr w1 := Cd.Touch.of_below HB1.out
        have h2 : Cd.Touch fp' w1 (w1.setCell ⟨g, j * 3, none⟩ (.string (mtext q))) := touch_cell HGF.out _
        exact HTC.out.trans (h1.trans (h2.trans ((ht4.mono HSUB.out).trans (touch_cell HGF.out _)))))
      clear hx1 hx2 ho4 ht4 hgw hgb
      have hqf := HQF.out
      go_wp2_with fail
      go_roundw
      case rel => exact ⟨j + 1, by omega, by go_num, by rw [HKN.out]; go_num, HX.out, HT4.out⟩
      case measure => simp [intOf]; omega
    · have ek : j = l.length := by omega
      subst ek
      rw [mpartA_all] at hown
      rw [List.take_length] at *
      go_wp2_with fail
      go_ret
      exact ⟨rfl, hown, htc⟩
open Fits TabOpen in
set_option maxRecDepth 100000 in
theorem fits_deps : Fits Try.prog (Cd.sl 27 depC) 45 := fits_sl Try.underlying45 fits_dep (by kernel_rfl)
end Go.Proofs.Ytnoennmhifmolaa.MkDep
