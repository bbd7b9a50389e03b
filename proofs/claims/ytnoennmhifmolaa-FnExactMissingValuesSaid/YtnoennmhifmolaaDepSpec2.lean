/- Inclusions: the model's questions, and the values that are missing. -/
import Derived.Test.YtnoennmhifmolaaDepDb
import Derived.Test.YtnoennmhifmolaaInc
import Derived.BigQuiet
namespace Go.Proofs.Ytnoennmhifmolaa.DepSpec
open Go Go.RowKit Byt Ints IntsLaw Cd Rows2 Tab SlMath TabOpen TabElem SlTable Db TabSpec Exact DbMath Dep Inc QryMath DepMath DbExact
open DbSpec (lkT LookAns zeroT spec_look)
open DegMath (colsOk gcOk)

theorem incOk_no1 {l : List T3} {n1 n2 : ByteArray} {c1 c2 : Int} (h : (lookL l n1).isSome = false) : incOk l n1 c1 n2 c2 = false := by unfold incOk; rw [h]; rfl
theorem incOk_no2 {l : List T3} {n1 n2 : ByteArray} {c1 c2 : Int} (h : (lookL l n2).isSome = false) : incOk l n1 c1 n2 c2 = false := by unfold incOk; rw [h]; simp
theorem incOk_yes {l : List T3} {n1 n2 : ByteArray} {c1 c2 : Int} (h : (lookL l n1).isSome = true) (h2 : (lookL l n2).isSome = true) : incOk l n1 c1 n2 c2 = (colB c1 (lkT l n1).2.1 && colB c2 (lkT l n2).2.1) := by unfold incOk; rw [h, h2]; rfl
set_option maxRecDepth 100000 in
set_option maxHeartbeats 3200000 in
theorem spec_isinc (u : Value) (l : List T3) (n1 : ByteArray) (c1 : Int) (n2 : ByteArray) (c2 : Int) (S : Nat → Prop) (w : World) (h1 : tabsC.rd w S [u] l) (hw : wtS l ≤ 1048577) :
    Calls Try.prog 48 #[.agg #[u], .agg #[.string n1, .int .i64 c1, .string n2, .int .i64 c2]] w fun e w' => e = .returned (.bool (incOk l n1 c1 n2 c2)) ∧ Below w.heap.size w w' := by
  have HLK := Lib.hid (fun nm w' (hb : Below w.heap.size w w') => spec_look u l nm S w' (Cd.later h1 hb) hw)
  obtain ⟨a1, cap1, rfl, hl1⟩ := Cd.sl_form h1
  clear h1 hw
  go_enter Try.func48, Try.ntmps48
  go_wp2_with fail
  generalize hW : (w.alloc _).alloc _ = W
  obtain ⟨r0, r1, hz, hb0⟩ := start2g w _ _ hW
  have L0 := Lib.hid (Loc1.of r0)
  have L1 := Lib.hid (Loc4.of r1)
  have HB0 := Lib.hid hb0
  clear hW r0 r1 hz
  refine (HLK.out n1 W hb0).mono ?_
  rintro e w1 ⟨va, fa, rfl, hoa, hna, hb1⟩
  obtain ⟨aa, ca, rfl⟩ := Cd.ow_slice (c := rowC) hoa
  replace L0 := Lib.hid (L0.out.later hb1)
  replace L1 := Lib.hid (L1.out.later hb1)
  have HB1 := Lib.hid (below_then HB0.out hb1)
  clear hb0 hb1 hoa hna HB0
  have y0 := L0.out.c0
  have yd0 := L0.out.lt
  have y1 := L1.out.c2
  have yd1 := L1.out.lt
  generalize hTA : lkT l n1 = TA at *
  go_wp2_with fail
  generalize hg : World.alloc w1 _ = w2
  obtain ⟨rg, z2, hbg⟩ := start1 w1 _ hg
  clear hg y0 yd0 y1 yd1
  have LA := Lib.hid (Loc3.of rg)
  replace L0 := Lib.hid (L0.out.later hbg)
  replace L1 := Lib.hid (L1.out.later hbg)
  have HB2 := Lib.hid (below_then HB1.out hbg)
  clear rg hbg HB1 z2
  refine (HLK.out n2 w2 HB2.out).mono ?_
  rintro e w3 ⟨vb, fb, rfl, hob, hnb, hb3⟩
  obtain ⟨ab, cb, rfl⟩ := Cd.ow_slice (c := rowC) hob
  replace LA := Lib.hid (LA.out.later hb3)
  replace L1 := Lib.hid (L1.out.later hb3)
  have HB3 := Lib.hid (below_then HB2.out hb3)
  clear hob hnb hb3 HB2 HLK L0
  generalize hTB : lkT l n2 = TB at *
  have y1 := L1.out.c1
  have y2 := L1.out.c3
  have yd1 := L1.out.lt
  have x1 := LA.out.c1
  have xd1 := LA.out.lt
  cases hq1 : (lookL l n1).isSome
  · have HZ := Lib.hid (incOk_no1 (l := l) (n2 := n2) (c1 := c1) (c2 := c2) hq1)
    clear hTA hTB hq1
    go_wp2_with fail
    go_ret
    exact ⟨ret_b HZ.out.symm, below_then HB3.out (below_alloc _ _)⟩
  cases hq2 : (lookL l n2).isSome
  · have HZ := Lib.hid (incOk_no2 (l := l) (n1 := n1) (c1 := c1) (c2 := c2) hq2)
    clear hTA hTB hq1 hq2
    go_wp2_with fail
    go_ret
    exact ⟨ret_b HZ.out.symm, below_then HB3.out (below_alloc _ _)⟩
  have HZ := Lib.hid (incOk_yes (c1 := c1) (c2 := c2) hq1 hq2)
  have HFA := Lib.hid (found_of hq1)
  have HFB := Lib.hid (found_of hq2)
  rw [hTA] at HZ HFA
  rw [hTB] at HZ HFB
  clear hTA hTB hq1 hq2
  have qa1 := HFA.out.a1
  have qa3 := HFA.out.a3
  have qb1 := HFB.out.a1
  have qb3 := HFB.out.a3
  have HI1 := Lib.hid (fun w' => Fixed.l1In_any c1 0 (TA.2.1 - 1) w')
  have HI2 := Lib.hid (fun w' => Fixed.l1In_any c2 0 (TB.2.1 - 1) w')
  rw [in_col] at HI1 HI2
  cases hc1 : colB c1 TA.2.1
  · have HE := Lib.hid (show incOk l n1 c1 n2 c2 = false by rw [HZ.out, hc1]; rfl)
    rw [hc1] at HI1
    clear hc1
    go_wp2_with fail
    refine (HI1.out _).mono ?_
    rintro e w5 ⟨rfl, rfl⟩
    go_wp2_with fail
    go_ret
    exact ⟨ret_b HE.out.symm, below_then HB3.out (below_alloc _ _)⟩
  have HE := Lib.hid (show incOk l n1 c1 n2 c2 = colB c2 TB.2.1 by rw [HZ.out, hc1]; rfl)
  rw [hc1] at HI1
  clear hc1
  generalize colB c2 TB.2.1 = b at *
  go_wp2_with fail
  refine (HI1.out _).mono ?_
  rintro e w5 ⟨rfl, rfl⟩
  go_wp2_with fail
  refine (HI2.out _).mono ?_
  rintro e w5 ⟨rfl, rfl⟩
  go_wp2_with fail
  go_ret
  exact ⟨ret_b HE.out.symm, below_then HB3.out (below_alloc _ _)⟩
/-- What is missing. -/
def MisAns (l : List T3) (n1 : ByteArray) (c1 : Int) (n2 : ByteArray) (c2 : Int) (w : World) (e : Ending) (w' : World) : Prop :=
  ∃ u f, e = .returned u ∧ rowC.ow w' w.heap.size [u] (misL l n1 c1 n2 c2) f ∧ f.Nodup ∧ Below w.heap.size w w'
theorem misL_no {l : List T3} {n1 n2 : ByteArray} {c1 c2 : Int} (h : incOk l n1 c1 n2 c2 = false) : misL l n1 c1 n2 c2 = [] := by unfold misL; rw [h]; rfl
theorem misL_yes {l : List T3} {n1 n2 : ByteArray} {c1 c2 : Int} (h : incOk l n1 c1 n2 c2 = true) : misL l n1 c1 n2 c2 = misTo (lkT l n1).2.2 (lkT l n2).2.2 c1 c2 10 := by unfold misL; rw [if_pos h]
theorem inc_parts {l : List T3} {n1 n2 : ByteArray} {c1 c2 : Int} (h : incOk l n1 c1 n2 c2 = true) : ((lookL l n1).isSome = true ∧ colB c1 (lkT l n1).2.1 = true) ∧ ((lookL l n2).isSome = true ∧ colB c2 (lkT l n2).2.1 = true) := by
  unfold incOk at h
  simp only [Bool.and_eq_true] at h
  exact h
set_option maxRecDepth 100000 in
set_option maxHeartbeats 6400000 in
theorem spec_mis (u : Value) (l : List T3) (n1 : ByteArray) (c1 : Int) (n2 : ByteArray) (c2 : Int) (S : Nat → Prop) (w : World) (h1 : tabsC.rd w S [u] l) (hw : wtS l ≤ 1048577) :
    Calls Try.prog 53 #[.agg #[u], .agg #[.string n1, .int .i64 c1, .string n2, .int .i64 c2]] w fun e w' => MisAns l n1 c1 n2 c2 w e w' := by
  have HLK := Lib.hid (fun nm w' (hb : Below w.heap.size w w') => spec_look u l nm S w' (Cd.later h1 hb) hw)
  have HIS := Lib.hid (fun w' (hb : Below w.heap.size w w') => spec_isinc u l n1 c1 n2 c2 S w' (Cd.later h1 hb) hw)
  have HOE := Lib.hid (fun (w' : World) (h : w.heap.size ≤ w'.heap.size) => Cd.ow_empty (e := 3) (c := Cd.int) w' w.heap.size h)
  obtain ⟨a1, cap1, rfl, hl1⟩ := Cd.sl_form h1
  clear h1 hw
  go_enter Try.func53, Try.ntmps53
  go_wp2_with fail
  generalize hA : w.alloc _ = A
  obtain ⟨r0, hA1, hbA⟩ := start1 w _ hA
  generalize hB : A.alloc _ = B at *
  obtain ⟨r1, hB1, hbB⟩ := start1 A _ hB
  have hbAB := below_then hbA hbB
  have hn1 := HOE.out B hbAB.size
  rw [hB1, hA1] at hn1
  have hbC := below_alloc B (.cells #[] 3)
  have HBC := Lib.hid (below_then hbAB hbC)
  have L0 := Lib.hid (Loc1.later (Loc1.later (Loc1.of r0) hbB) hbC)
  have L1 := Lib.hid (Loc4.later (Loc4.of r1) hbC)
  rw [hA1] at L1
  have HSZ := Lib.hid (show (B.alloc (.cells #[] 3)).heap.size = w.heap.size + 3 by rw [size_alloc]; omega)
  generalize hW : B.alloc _ = W at *
  have HN := Lib.hid hn1
  clear hA hB hW hn1 r0 r1 hbA hbB hbC hbAB HOE
  simp only [hA1, hB1] at *
  clear hA1 hB1
  have y0 := L0.out.c0
  have y1 := L1.out.c0
  have y2 := L1.out.c1
  have y3 := L1.out.c2
  have y4 := L1.out.c3
  refine (HIS.out W HBC.out).mono ?_
  rintro e w0 ⟨rfl, hb0⟩
  have HB0 := Lib.hid (below_then HBC.out hb0)
  replace L0 := Lib.hid (L0.out.later hb0)
  replace L1 := Lib.hid (L1.out.later hb0)
  replace HN := Lib.hid (Cd.ow_later HN.out hb0)
  have HS0 := Lib.hid (show w.heap.size + 3 ≤ w0.heap.size by have := hb0.size; have := HSZ.out; omega)
  clear hb0 HBC HIS HSZ y0 y1 y2 y3 y4
  cases hok : incOk l n1 c1 n2 c2
  · have HZ := Lib.hid (misL_no hok)
    clear hok
    go_wp2_with fail
    go_ret
    exact ⟨_, _, rfl, by rw [HZ.out]; exact HN.out, by simp, HB0.out⟩
  obtain ⟨⟨hq1, hc1⟩, hq2, hc2⟩ := inc_parts hok
  have HZ := Lib.hid (misL_yes hok)
  have HFA := Lib.hid (found_of hq1)
  have HFB := Lib.hid (found_of hq2)
  obtain ⟨ta, rfl, hta, hra⟩ := col_at HFA.out hc1
  obtain ⟨tb, rfl, htb, hrb⟩ := col_at HFB.out hc2
  have HRA := Lib.hid hra
  have HRB := Lib.hid hrb
  clear hok hq1 hq2 hc1 hc2 hra hrb
  have y0 := L0.out.c0
  have y1 := L1.out.c0
  go_wp2_with fail
  refine (HLK.out n1 w0 HB0.out).mono ?_
  rintro e w1 ⟨va, fa, rfl, hoa, hna, hb1⟩
  obtain ⟨aa, ca, rfl⟩ := Cd.ow_slice (c := rowC) hoa
  replace L0 := Lib.hid (L0.out.later hb1)
  replace L1 := Lib.hid (L1.out.later hb1)
  replace HN := Lib.hid (Cd.ow_later HN.out hb1)
  have HB1 := Lib.hid (below_then HB0.out hb1)
  have HGA := Lib.hid (fun b (q : b ∈ fa) => show w.heap.size + 3 ≤ b from Nat.le_trans HS0.out (rowsC.ow_lt hoa b q).1)
  have HS1 := Lib.hid (Nat.le_trans HS0.out hb1.size)
  have HOA := Lib.hid (rowsC.ow_rd hoa)
  clear hb1 hoa hna HB0 y0 y1
  have y0 := L0.out.c0
  have yd0 := L0.out.lt
  have y1 := L1.out.c2
  have yd1 := L1.out.lt
  generalize hTA : lkT l n1 = TA at *
  go_wp2_with fail
  generalize hg : World.alloc w1 _ = w2
  obtain ⟨rg, z2, hbg⟩ := start1 w1 _ hg
  clear hg y0 yd0 y1 yd1
  have LA := Lib.hid (Loc3.of rg)
  have HLA := Lib.hid (show w.heap.size + 3 ≤ w1.heap.size from HS1.out)
  replace L0 := Lib.hid (L0.out.later hbg)
  replace L1 := Lib.hid (L1.out.later hbg)
  replace HN := Lib.hid (Cd.ow_later HN.out hbg)
  replace HOA := Lib.hid (Cd.later HOA.out hbg)
  have HB2 := Lib.hid (below_then HB1.out hbg)
  have HS2 := Lib.hid (Nat.le_trans HS1.out hbg.size)
  clear rg hbg HB1 z2 HS1
  refine (HLK.out n2 w2 HB2.out).mono ?_
  rintro e w3 ⟨vb, fb, rfl, hob, hnb, hb3⟩
  obtain ⟨ab, cb, rfl⟩ := Cd.ow_slice (c := rowC) hob
  replace LA := Lib.hid (LA.out.later hb3)
  replace L1 := Lib.hid (L1.out.later hb3)
  replace HN := Lib.hid (Cd.ow_later HN.out hb3)
  replace HOA := Lib.hid (Cd.later HOA.out hb3)
  have HB3 := Lib.hid (below_then HB2.out hb3)
  have HGB := Lib.hid (fun b (q : b ∈ fb) => show w.heap.size + 3 ≤ b from Nat.le_trans HS2.out (rowsC.ow_lt hob b q).1)
  have HOB := Lib.hid (rowsC.ow_rd hob)
  have HS3 := Lib.hid (Nat.le_trans HS2.out hb3.size)
  clear hob hnb hb3 HB2 HLK L0 HS2
  generalize hTB : lkT l n2 = TB at *
  have hla := found_len HFA.out
  have hlb := found_len HFB.out
  clear hTA hTB HFA HFB
  obtain ⟨nmA, arA, ra⟩ := TA
  obtain ⟨nmB, arB, rb⟩ := TB
  simp only at *
  go_wp2_with fail
  generalize hg : World.alloc w3 _ = w4
  obtain ⟨rg, z4, hbg⟩ := start1 w3 _ hg
  clear hg
  have LB := Lib.hid (Loc3.of rg)
  have HLB := Lib.hid (show w.heap.size + 3 ≤ w3.heap.size from HS3.out)
  replace LA := Lib.hid (LA.out.later hbg)
  replace L1 := Lib.hid (L1.out.later hbg)
  replace HN := Lib.hid (Cd.ow_later HN.out hbg)
  replace HOA := Lib.hid (Cd.later HOA.out hbg)
  replace HOB := Lib.hid (Cd.later HOB.out hbg)
  have HB4 := Lib.hid (below_then HB3.out hbg)
  have HS4 := Lib.hid (Nat.le_trans HS3.out hbg.size)
  clear rg hbg HB3 z4 HS3
  go_loopw [5, 10] (fun o i wr => ∃ (k : Nat) (fp : List Nat), k ≤ 10 ∧ i = .int .i64 k ∧ rowC.ow wr w.heap.size [o] (misTo ra rb ta tb k) fp ∧ fp.Nodup ∧ (∀ b ∈ fp, b ∈ [w.heap.size + 2] ∨ w4.heap.size ≤ b) ∧ Cd.Touch [w.heap.size + 2] w4 wr) (fun _ i _ => 10 - (intOf i).toNat)
  case atStart => exact ⟨0, _, Nat.zero_le _, rfl, HN.out, by simp, fun b hb => .inl hb, Cd.Touch.refl _ _⟩
  case round =>
    obtain ⟨k, fp, hk, rfl, how, hnd, hfp, hto⟩ := hrel
    obtain ⟨ao, co, rfl⟩ := Cd.ow_slice how
    have HOW := Lib.hid how
    have HND := Lib.hid hnd
    have HFP := Lib.hid hfp
    have HTO := Lib.hid hto
    have XA := Lib.hid (LA.out.touched hto (by have := HLA.out; simp; omega))
    have XB := Lib.hid (LB.out.touched hto (by have := HLB.out; simp; omega))
    have X1 := Lib.hid (L1.out.touched hto (by simp))
    have RA := Lib.hid (Cd.touched HOA.out hto (fun b hb q => by have := HGA.out b q; rw [List.mem_singleton.1 hb] at this; omega))
    have RB := Lib.hid (Cd.touched HOB.out hto (fun b hb q => by have := HGB.out b q; rw [List.mem_singleton.1 hb] at this; omega))
    clear how hnd hfp hto
    by_cases hlt : k < 10
    case neg =>
      have ek : k = 10 := by omega
      subst ek
      have HX := Lib.hid (Cd.Touch.below HB4.out HTO.out (fun b hb => by rw [List.mem_singleton.1 hb]; omega))
      go_wp2_with fail
      go_ret
      exact ⟨_, fp, rfl, by rw [HZ.out]; exact HOW.out, HND.out, HX.out⟩
    have k9 : (k : Int) ≤ 9 := by omega
    go_wp2_with fail
    generalize hwk : wr = wk at *
    have HWK := Lib.hid hwk
    clear hwk
    go_loopw [11, 13] (fun o i wx => ∃ j m : Nat, j ≤ ra.length ∧ i = .int .i64 j ∧ o = .bool (occB (ra.take j) ta k) ∧ wx = wk.drewN m) (fun _ i _ => ra.length - (intOf i).toNat)
    case atStart => exact ⟨0, 0, Nat.zero_le _, rfl, rfl, rfl⟩
    case round =>
      obtain ⟨j, m, hj, rfl, rfl, hwx⟩ := hrel
      have g2 : wr.cell? ⟨w1.heap.size, 2, none⟩ = some (.slice aa ra.length ca) := by rw [hwx]; exact XA.out.c2
      have g1 : wr.cell? ⟨w.heap.size + 1, 1, none⟩ = some (.int .i64 (ta : Int)) := by rw [hwx]; exact X1.out.c1
      have HWX := Lib.hid hwx
      clear hwx
      by_cases hlj : j < ra.length
      · have HNX := Lib.hid (occ_next (c := (ta : Int)) (v := (k : Int)) hlj)
        have htl := HRA.out _ (List.getElem_mem hlj)
        have HRD := rd_drewN RA.out m
        rw [← HWX.out] at HRD
        obtain ⟨b, off, cap', x, e1, hbB, hc, hx⟩ := rows_at HRD hlj
        injection e1 with e1 e2 e3
        subst e1 e3
        obtain ⟨b2, off2, cap2, rfl, hbB2, hc2⟩ := ri_at (row_ri hx).1 htl
        have i1 : (0 : Int) ≤ (j : Int) := by omega
        have i2 : (j : Int) < (ra.length : Int) := by omega
        have i3 : (0 : Int) ≤ (ta : Int) := by omega
        have i4 : (ta : Int) < ((ra[j]).length : Int) := by omega
        have HGD := Lib.hid (show (ra[j]).getD ((ta : Int)).toNat 0 = (ra[j])[ta] by simp [htl])
        rw [HGD.out] at HNX
        clear hx HRD
        generalize (ra[j])[ta] = z at *
        generalize (ra[j]).length = zl at *
        cases hoc : occB (ra.take j) (ta : Int) (k : Int)
        · by_cases he : z = (k : Int)
          · have t1 : (z == (k : Int)) = true := beq_iff_eq.2 he
            rw [hoc, decide_eq_true he] at HNX
            clear he hoc
            go_wp2
            go_quiet (fail)
            go_wp2
            go_roundw
            case rel => exact ⟨j + 1, _, by omega, by go_num, by rw [HNX.out]; rfl, by rw [HWX.out, World.drewN_drewN]⟩
            case measure => simp [intOf]; omega
          · have t1 : (z == (k : Int)) = false := beq_eq_false_iff_ne.2 he
            rw [hoc, decide_eq_false he] at HNX
            clear he hoc
            go_wp2
            go_quiet (fail)
            go_wp2
            go_roundw
            case rel => exact ⟨j + 1, _, by omega, by go_num, by rw [HNX.out]; rfl, by rw [HWX.out, World.drewN_drewN]⟩
            case measure => simp [intOf]; omega
        · rw [hoc, Bool.true_or] at HNX
          clear hoc
          go_wp2
          go_quiet (fail)
          go_wp2
          go_roundw
          case rel => exact ⟨j + 1, _, by omega, by go_num, by rw [HNX.out], by rw [HWX.out, World.drewN_drewN]⟩
          case measure => simp [intOf]; omega
      · have ej : j = ra.length := by omega
        subst ej
        rw [List.take_length] at *
        generalize hoA : occB ra (ta : Int) (k : Int) = oA at *
        have HOA2 := Lib.hid hoA
        clear hoA
        go_wp2_with fail
        clear g1 g2
        generalize hwm : wr = wn at *
        clear hwm
        go_loopw [12, 14] (fun o i wx => ∃ j m : Nat, j ≤ rb.length ∧ i = .int .i64 j ∧ o = .bool (occB (rb.take j) tb k) ∧ wx = wn.drewN m) (fun _ i _ => rb.length - (intOf i).toNat)
        case atStart => exact ⟨0, 0, Nat.zero_le _, rfl, rfl, rfl⟩
        case round =>
          obtain ⟨j, m2, hj, rfl, rfl, hwx⟩ := hrel
          have HWY := Lib.hid (show wr = wk.drewN (m + m2) by rw [hwx, HWX.out, World.drewN_drewN])
          clear hwx
          have g2 : wr.cell? ⟨w3.heap.size, 2, none⟩ = some (.slice ab rb.length cb) := by rw [HWY.out]; exact XB.out.c2
          have g1 : wr.cell? ⟨w.heap.size + 1, 3, none⟩ = some (.int .i64 (tb : Int)) := by rw [HWY.out]; exact X1.out.c3
          by_cases hlj : j < rb.length
          · have HNX := Lib.hid (occ_next (c := (tb : Int)) (v := (k : Int)) hlj)
            have htl := HRB.out _ (List.getElem_mem hlj)
            have HRD := rd_drewN RB.out (m + m2)
            rw [← HWY.out] at HRD
            obtain ⟨b, off, cap', x, e1, hbB, hc, hx⟩ := rows_at HRD hlj
            injection e1 with e1 e2 e3
            subst e1 e3
            obtain ⟨b2, off2, cap2, rfl, hbB2, hc2⟩ := ri_at (row_ri hx).1 htl
            have i1 : (0 : Int) ≤ (j : Int) := by omega
            have i2 : (j : Int) < (rb.length : Int) := by omega
            have i3 : (0 : Int) ≤ (tb : Int) := by omega
            have i4 : (tb : Int) < ((rb[j]).length : Int) := by omega
            have HGD := Lib.hid (show (rb[j]).getD ((tb : Int)).toNat 0 = (rb[j])[tb] by simp [htl])
            rw [HGD.out] at HNX
            have HWN := Lib.hid (show wr = wn.drewN m2 from by rw [HWY.out, HWX.out, World.drewN_drewN])
            clear hx HRD
            generalize (rb[j])[tb] = z at *
            generalize (rb[j]).length = zl at *
            cases hoc : occB (rb.take j) (tb : Int) (k : Int)
            · by_cases he : z = (k : Int)
              · have t1 : (z == (k : Int)) = true := beq_iff_eq.2 he
                rw [hoc, decide_eq_true he] at HNX
                clear he hoc
                go_wp2
                go_quiet (fail)
                go_wp2
                go_roundw
                case rel => exact ⟨j + 1, _, by omega, by go_num, by rw [HNX.out]; rfl, by rw [HWN.out, World.drewN_drewN]⟩
                case measure => simp [intOf]; omega
              · have t1 : (z == (k : Int)) = false := beq_eq_false_iff_ne.2 he
                rw [hoc, decide_eq_false he] at HNX
                clear he hoc
                go_wp2
                go_quiet (fail)
                go_wp2
                go_roundw
                case rel => exact ⟨j + 1, _, by omega, by go_num, by rw [HNX.out]; rfl, by rw [HWN.out, World.drewN_drewN]⟩
                case measure => simp [intOf]; omega
            · rw [hoc, Bool.true_or] at HNX
              clear hoc
              go_wp2
              go_quiet (fail)
              go_wp2
              go_roundw
              case rel => exact ⟨j + 1, _, by omega, by go_num, by rw [HNX.out], by rw [HWN.out, World.drewN_drewN]⟩
              case measure => simp [intOf]; omega
          · have ej : j = rb.length := by omega
            subst ej
            rw [List.take_length] at *
            have HBQ := Lib.hid (show Below wk.heap.size wk wr by rw [HWY.out]; exact dnD (Below.refl _ _))
            have HOQ := Lib.hid (Cd.ow_later HOW.out HBQ.out)
            have HTQ := Lib.hid (HTO.out.trans (Cd.Touch.of_below HBQ.out))
            cases hob : oA && !occB rb (tb : Int) (k : Int)
            · have HNX := Lib.hid (show misTo ra rb ta tb (k + 1) = misTo ra rb ta tb k by
                cases hx : oA
                · exact misTo_no1 (HOA2.out.trans hx)
                · rw [hx] at hob
                  exact misTo_no2 (by simpa using hob))
              generalize misTo ra rb (ta : Int) (tb : Int) k = out at *
              generalize occB rb (tb : Int) (k : Int) = oB at *
              cases oA
              · go_wp2_with fail
                go_roundw
                case rel => exact ⟨k + 1, fp, by omega, by go_num, by rw [HNX.out]; exact HOQ.out, HND.out, HFP.out, HTQ.out⟩
                case measure => simp [intOf]; omega
              · cases oB
                · cases hob
                · clear hob
                  go_wp2_with fail
                  go_roundw
                  case rel => exact ⟨k + 1, fp, by omega, by go_num, by rw [HNX.out]; exact HOQ.out, HND.out, HFP.out, HTQ.out⟩
                  case measure => simp [intOf]; omega
            · simp only [Bool.and_eq_true, Bool.not_eq_true'] at hob
              have HNX := Lib.hid (misTo_yes (HOA2.out.trans hob.1) hob.2)
              have hlen : (misTo ra rb ta tb k).length + 1 ≤ 1000000000000 := by have := misTo_len ra rb ta tb k; omega
              rw [hob.2, hob.1] at *
              clear hob
              generalize misTo ra rb (ta : Int) (tb : Int) k = out at *
              have hbA := below_alloc wr (.cells #[.int .i64 (k : Int)] 3)
              have C1 : (wr.alloc (.cells #[.int .i64 (k : Int)] 3)).cell? ⟨wr.heap.size, 0, none⟩ = some (.int .i64 (k : Int)) := by simp
              have N1 := Lib.hid (Cd.ow_later HOQ.out hbA)
              have T1 := Lib.hid (HTQ.out.trans (Cd.Touch.of_below hbA))
              have Z1 := Lib.hid (show w.heap.size ≤ (wr.alloc (.cells #[.int .i64 (k : Int)] 3)).heap.size by have := HTQ.out.size; have := HS4.out; rw [size_alloc]; omega)
              have Z2 := Lib.hid (show w4.heap.size ≤ (wr.alloc (.cells #[.int .i64 (k : Int)] 3)).heap.size from T1.out.size)
              have Y1 := Lib.hid (show Cd.int.ow (wr.alloc (.cells #[.int .i64 (k : Int)] 3)) w.heap.size [.int .i64 (k : Int)] (k : Int) [] from ⟨rfl, by omega, rfl⟩)
              have HC1 := Lib.hid C1
              clear hbA C1
              go_wp2_with (at_builtin; refine Cd.wpList_appendE (c := Cd.int) rfl rfl (.tmp 86) (.tmp 88) 25 rfl w.heap.size 3 (.int .i64 0) 8 Try.underlying25 info_i64 rfl (by decide) _ _ _ rfl N1.out HND.out _ _ rfl HC1.out _ _ Y1.out (by simp) (by simp) hlen Z1.out ?_)
              intro g cap3 w5 f5 ho5 hn5 hs5 ht5
              have N5 := Lib.hid ho5
              have D5 := Lib.hid hn5
              have F5 := Lib.hid (show ∀ b ∈ f5, b ∈ [w.heap.size + 2] ∨ w4.heap.size ≤ b from fun b hb => by
                rcases hs5 b hb with q | q
                · exact HFP.out b q
                · exact .inr (by have h := Z2.out; rw [size_alloc] at h; omega))
              have T5 := Lib.hid (touch_more T1.out ht5 HFP.out)
              clear ho5 hn5 hs5 ht5
              go_wp2_with fail
              go_roundw
              case rel => exact ⟨k + 1, f5, by omega, by go_num, by rw [HNX.out]; exact N5.out, D5.out, F5.out, T5.out⟩
              case measure => simp [intOf]; omega
set_option maxRecDepth 100000 in
set_option maxHeartbeats 1600000 in
theorem spec_holdi (u : Value) (l : List T3) (n1 : ByteArray) (c1 : Int) (n2 : ByteArray) (c2 : Int) (S : Nat → Prop) (w : World) (h1 : tabsC.rd w S [u] l) (hw : wtS l ≤ 1048577) :
    Calls Try.prog 51 #[.agg #[u], .agg #[.string n1, .int .i64 c1, .string n2, .int .i64 c2]] w fun e w' => e = .returned (.bool (holdsI l n1 c1 n2 c2)) ∧ Below w.heap.size w w' := by
  have HIS := Lib.hid (fun w' (hb : Below w.heap.size w w') => spec_isinc u l n1 c1 n2 c2 S w' (Cd.later h1 hb) hw)
  have HMS := Lib.hid (fun w' (hb : Below w.heap.size w w') => spec_mis u l n1 c1 n2 c2 S w' (Cd.later h1 hb) hw)
  have HLM := Lib.hid (misL_len l n1 c1 n2 c2)
  obtain ⟨a1, cap1, rfl, hl1⟩ := Cd.sl_form h1
  clear h1 hw
  have HZ := Lib.hid (show holdsI l n1 c1 n2 c2 = (incOk l n1 c1 n2 c2 && decide ((misL l n1 c1 n2 c2).length = 0)) from rfl)
  go_enter Try.func51, Try.ntmps51
  go_wp2_with fail
  generalize hW : (w.alloc _).alloc _ = W
  obtain ⟨r0, r1, hz, hb0⟩ := start2g w _ _ hW
  have L0 := Lib.hid (Loc1.of r0)
  have L1 := Lib.hid (Loc4.of r1)
  have HB0 := Lib.hid hb0
  clear hW r0 r1 hz
  refine (HIS.out W hb0).mono ?_
  rintro e w1 ⟨rfl, hb1⟩
  have HB1 := Lib.hid (below_then HB0.out hb1)
  replace L0 := Lib.hid (L0.out.later hb1)
  replace L1 := Lib.hid (L1.out.later hb1)
  clear hb0 hb1
  have y0 := L0.out.c0
  have y1 := L1.out.c0
  have y2 := L1.out.c1
  have y3 := L1.out.c2
  have y4 := L1.out.c3
  cases hok : incOk l n1 c1 n2 c2
  · have HE := Lib.hid (show holdsI l n1 c1 n2 c2 = false by rw [HZ.out, hok]; rfl)
    clear hok
    go_wp2_with fail
    go_ret
    exact ⟨ret_b HE.out.symm, HB1.out⟩
  have HE := Lib.hid (show holdsI l n1 c1 n2 c2 = decide ((misL l n1 c1 n2 c2).length = 0) by rw [HZ.out, hok]; rfl)
  clear hok
  go_wp2_with fail
  refine (HMS.out w1 HB1.out).mono ?_
  rintro e w2 ⟨v, f, rfl, ho, hn, hb2⟩
  obtain ⟨a2, c2', rfl⟩ := Cd.ow_slice ho
  have HB2 := Lib.hid (below_then HB1.out hb2)
  have hlm := HLM.out
  clear ho hn hb2 HMS HIS
  generalize (misL l n1 c1 n2 c2).length = m at *
  go_wp2_with fail
  go_ret
  exact ⟨ret_b (by rw [HE.out]; by_cases q : m = 0 <;> simp [q]), HB2.out⟩
end Go.Proofs.Ytnoennmhifmolaa.DepSpec
