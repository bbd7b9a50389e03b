/- What the exact laws do with slices of tables: marked. -/
import Derived.Test.YtnoennmhifmolaaSlTable
import Derived.Test.YtnoennmhifmolaaMark
namespace Go.Proofs.Ytnoennmhifmolaa.SlTable
open Go Go.RowKit Byt Ints IntsLaw Cd Rows2 Tab SlMath TabOpen TabElem Mark

theorem heap_same {w w' : World} {g o : Nat} {x : Value} (h : w'.heap[g]? = w.heap[g]?) : (w'.setCell ⟨g, o, none⟩ x).heap[g]? = (w.setCell ⟨g, o, none⟩ x).heap[g]? := by
  simp only [World.setCell, Array.getElem?_modify, h]
theorem touch_cell {fp : List Nat} {w : World} {g o : Nat} (h : g ∈ fp) (x : Value) : Cd.Touch fp w (w.setCell ⟨g, o, none⟩ x) :=
  ⟨rfl, rfl, rfl, by simp, fun k _ hn => Below.heap_setCell w _ x k fun q => hn (by rw [q]; exact h)⟩
/-- A table marked from k on, and how many marks it takes. -/
def mkT (k : Nat) (T : T3) : T3 := (mtext k, ((k + 1 : Nat) : Int), mrows (k + 2) T.2.2)
def cntT (T : T3) : Nat := 2 + T.2.2.flatten.length

set_option maxRecDepth 100000 in
set_option maxHeartbeats 1600000 in
theorem mark_s (v : Value) (l : List T3) (base k0 : Nat) (fp : List Nat) (w : World) (h : (Cd.sl 59 tabC).ow w base [v] l fp) (hnd : fp.Nodup) (hl : sumN cntT l ≤ 4194308) (hrl : ∀ T ∈ l, T.2.2.flatten.length ≤ 1048577) (hk1 : 1 ≤ k0) (hk0 : k0 ≤ 400000000) :
    Calls Try.prog 68 #[v, .int .i64 k0] w fun e w' => e = .returned (.int .i64 ((k0 + sumN cntT l : Nat) : Int)) ∧ (Cd.sl 59 tabC).ow w' base [v] (mkS mkT cntT k0 l) fp ∧ Cd.Touch fp w w' := by
  have hlm : l.length ≤ 9223372036854775807 := by
    obtain ⟨_, _, _, q⟩ := Cd.sl_form ((Cd.sl _ tabC).ow_rd h)
    exact q
  obtain ⟨a, cap, rfl⟩ := Cd.ow_slice h
  go_enter Try.func68, Try.ntmps68
  go_wp2
  go_loopw [1, 5] (fun k i wr => ∃ j : Nat, j ≤ l.length ∧ i = .int .i64 j ∧ k = .int .i64 ((k0 + sumN cntT (l.take j) : Nat) : Int) ∧ (Cd.sl 59 tabC).ow wr base [.slice a l.length cap] (mpartA mkT cntT k0 l j) fp ∧ Cd.Touch fp w wr) (fun _ i _ => l.length - (intOf i).toNat)
  case atStart => exact ⟨0, Nat.zero_le _, rfl, by simp [sumN], by rw [mpartA_zero]; exact h, Cd.Touch.refl _ _⟩
  case round =>
    obtain ⟨j, hj, rfl, rfl, hown, htc⟩ := hrel
    by_cases hlt : j < l.length
    · have hpl := mpartA_length (mk := mkT) (cnt := cntT) k0 l j hj
      obtain ⟨g, cap', e1, _, hg, hgf⟩ := Cd.ow_form hown (by omega)
      rw [hpl] at e1
      injection e1 with e1 e2 e3
      subst e1 e3
      obtain ⟨us, f, hl0, hat, hu, hsub, hndf, hre⟩ := Cd.ow_elem hown (t := j) (by omega)
      rw [mpartA_get k0 l j hlt] at hu
      obtain ⟨ya, yc, rfl⟩ := shape_ow hu
      have c0 := hat 0 (by simp)
      have c1 := hat 1 (by simp)
      have c2 := hat 2 (by simp)
      simp only [List.getElem_cons_zero, List.getElem_cons_succ, Nat.add_zero, show tabC.n = 3 from rfl] at c0 c1 c2
      have f0 := Cd.ow_frozen hown (j * 3)
      have f1 := Cd.ow_frozen hown (j * 3 + 1)
      have f2 := Cd.ow_frozen hown (j * 3 + 2)
      have hrow : rowsC.ow wr base [.slice ya (l[j]).2.2.length yc] (l[j]).2.2 f := by
        obtain ⟨u1, u2, g1, g2, e1, rfl, ⟨_, _, rfl⟩, u3, u4, g3, g4, e2, rfl, ⟨rfl, _, rfl⟩, h3⟩ := hu
        simp_all
      have hkn : k0 + sumN cntT (l.take (j + 1)) = k0 + sumN cntT (l.take j) + cntT l[j] := by rw [sumN_succ cntT hlt]; omega
      have hkc : cntT l[j] = 2 + (l[j]).2.2.flatten.length := rfl
      have hkb := sumN_take cntT l (j + 1)
      have hfl := hrl _ (List.getElem_mem hlt)
      have hset := mpartA_set (mk := mkT) (cnt := cntT) k0 l j hlt
      have hq1 : 1 ≤ k0 + sumN cntT (l.take j) := by omega
      have hq2 : k0 + sumN cntT (l.take j) ≤ 404194308 := by omega
      have HKN := Lib.hid (show ((k0 + sumN cntT (l.take (j + 1)) : Nat) : Int) = ((k0 + sumN cntT (l.take j) + 2 + (l[j]).2.2.flatten.length : Nat) : Int) by omega)
      have HSET := Lib.hid hset
      have HRE := Lib.hid hre
      have HND := Lib.hid hnd
      have HNF := Lib.hid (hndf hnd)
      have HTC := Lib.hid htc
      have HROW := Lib.hid hrow
      have HSUB := Lib.hid hsub
      have HLT := Lib.hid ((Cd.sl 59 tabC).ow_lt hown)
      have HGF := Lib.hid hgf
      have HFL := Lib.hid hfl
      clear hkn hkb hkc hset hown htc hnd hrow hu hndf hre hsub hat hl0 hpl hfl hrl hl h
      generalize k0 + sumN cntT (l.take j) = q at *
      have HMT := Lib.hid (mark_text q wr (by omega) (by omega))
      go_wp2_with fail
      refine HMT.out.mono ?_
      rintro e w1 ⟨rfl, hb1⟩
      have d0 := (hb1.cell (World.block_lt_of_cell? wr _ c0)).trans c0
      have d1 := (hb1.cell (World.block_lt_of_cell? wr _ c1)).trans c1
      have d2 := (hb1.cell (World.block_lt_of_cell? wr _ c2)).trans c2
      have g0 := (hb1.frozen (World.block_lt_of_cell? wr _ c0)).trans f0
      have g1 := (hb1.frozen (World.block_lt_of_cell? wr _ c1)).trans f1
      have HMR := Lib.hid (mark_rows _ (l[j]).2.2 base (q + 2) f ((w1.setCell ⟨g, j * 3, none⟩ (.string (mtext q))).setCell ⟨g, j * 3 + 1, none⟩ (.int .i64 ((q : Int) + 1))) (ow_setCell (ow_setCell (Cd.ow_later HROW.out hb1) HNF.out.2 _) HNF.out.2 _) HNF.out.1 HFL.out (by omega))
      have eq2 : ((q + 2 : Nat) : Int) = (q : Int) + 1 + 1 := by omega
      rw [eq2] at HMR
      clear HFL
      generalize (l[j]).2.2.flatten.length = fnl at *
      have HB1 := Lib.hid hb1
      clear eq2
      clear hb1 c0 c1 c2 f0 f1 f2
      go_wp2_with fail
      refine HMR.out.mono ?_
      rintro e w4 ⟨rfl, ho4, ht4⟩
      have hgw : g < w1.heap.size := Nat.lt_of_lt_of_le (HLT.out g HGF.out).2 HB1.out.size
      have hclose := HRE.out w4 [some (.string (mtext q)), some (.int .i64 ((q : Int) + 1)), none] (mkT q l[j]) f rfl
        (by
          have h := tab_ow (nm := mtext q) (ar := ((q + 1 : Nat) : Int)) ho4 (by have := mtext_size q (by omega); unfold maxLen; omega) (by omega)
          rw [show ((q + 1 : Nat) : Int) = (q : Int) + 1 by omega] at h
          unfold mkT
          rw [show ((q + 1 : Nat) : Int) = (q : Int) + 1 by omega]
          exact h)
        (by
          rw [ht4.block g (by simpa using hgw) HNF.out.2]
          show ((w1.setCell ⟨g, j * 3, none⟩ (.string (mtext q))).setCell ⟨g, j * 3 + 1, none⟩ (.int .i64 ((q : Int) + 1))).heap[g]? = _
          exact heap_same (heap_same (HB1.out.block g (HLT.out g HGF.out).2)))
        (fun b hb hbf hbg => by
          have hlt := (HLT.out b hb).2
          rw [ht4.block b (by have := HB1.out.size; simp; omega) hbf, Below.heap_setCell _ _ _ _ hbg, Below.heap_setCell _ _ _ _ hbg]
          exact HB1.out.block b hlt)
        HND.out HNF.out.1 (fun b hb => .inl hb)
      obtain ⟨fp', hx1, _, _, hx2⟩ := hclose
      obtain rfl := hx2 rfl
      rw [HSET.out] at hx1
      have HX := Lib.hid hx1
      have HT4 := Lib.hid (show Cd.Touch fp' w w4 from by
        have h1 : Cd.Touch fp' wr w1 := Cd.Touch.of_below HB1.out
        have h2 : Cd.Touch fp' w1 (w1.setCell ⟨g, j * 3, none⟩ (.string (mtext q))) := touch_cell HGF.out _
        have h3 : Cd.Touch fp' (w1.setCell ⟨g, j * 3, none⟩ (.string (mtext q))) ((w1.setCell ⟨g, j * 3, none⟩ (.string (mtext q))).setCell ⟨g, j * 3 + 1, none⟩ (.int .i64 ((q : Int) + 1))) := touch_cell HGF.out _
        exact HTC.out.trans (h1.trans (h2.trans (h3.trans (ht4.mono HSUB.out)))))
      clear hx1 hx2 ho4 ht4 hgw
      go_wp2_with fail
      go_roundw
      case rel => exact ⟨j + 1, by omega, by go_num, by rw [HKN.out]; go_num, HX.out, HT4.out⟩
      case measure => simp [intOf]; omega
    · have ek : j = l.length := by omega
      subst ek
      rw [mpartA_all] at hown
      rw [List.take_length] at *
      go_wp2_with fail
      go_ret
      exact ⟨rfl, hown, htc⟩
end Go.Proofs.Ytnoennmhifmolaa.SlTable
