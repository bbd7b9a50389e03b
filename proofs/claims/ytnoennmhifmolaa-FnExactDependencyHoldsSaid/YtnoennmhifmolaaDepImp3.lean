/- Dependencies: the model's first violation. -/
import Derived.Test.YtnoennmhifmolaaDepImp1
namespace Go.Proofs.Ytnoennmhifmolaa.DepSpec
open Go Go.RowKit Byt Ints IntsLaw Cd Rows2 Tab SlMath TabOpen TabElem SlTable Db TabSpec Exact DbMath Dep QryMath DepMath DbExact
open DbSpec (lkT LookAns zeroT spec_look)
open DegMath (colsOk gcOk)

/-- The first violation. -/
def VioAns (l : List T3) (D : D3) (w : World) (e : Ending) (w' : World) : Prop :=
  ∃ u f, e = .returned u ∧ rowC.ow w' w.heap.size [u] (vioD l D) f ∧ f.Nodup ∧ Below w.heap.size w w'
theorem vioD_no {l : List T3} {D : D3} (h : depOk l D = false) : vioD l D = [] := by unfold vioD; rw [h]; rfl
theorem vioD_yes {l : List T3} {D : D3} (h : depOk l D = true) : vioD l D = vioL (lkT l D.1).2.2 D.2.1 D.2.2 := by unfold vioD; rw [if_pos h]
theorem dep_parts {l : List T3} {nm : ByteArray} {V : List Int} {t : Int} (h : depOk l (nm, V, t) = true) : (lookL l nm).isSome = true ∧ colsOk V (lkT l nm).2.1 = true ∧ colB t (lkT l nm).2.1 = true := by
  unfold depOk colsD at h
  simp only [Bool.and_eq_true] at h
  exact ⟨h.1, h.2.1.1, h.2.1.2⟩
/-- The columns of a valid dependency are there in each row. -/
theorem sel_all {T : T3} (h : Found T) {V : List Int} (hc : colsOk V T.2.1 = true) : V.length ≤ 3 ∧ ∀ r ∈ T.2.2, selOk r V = true ∧ ∀ x ∈ V, 0 ≤ x ∧ x < r.length := by
  have hC := of_decide_eq_true hc
  have hT : TabP _ _ _ := of_decide_eq_true h.ok
  refine ⟨DegSpec.col_len hC h.a3, fun r hr => ?_⟩
  have h1 := (rowOk_iff.1 (hT.2.2.2.2.1 r hr)).1
  have h2 : ∀ x ∈ V, 0 ≤ x ∧ x < r.length := fun x hx => by have := hC.1 x hx; omega
  exact ⟨decide_eq_true h2, h2⟩
theorem row_get {rows : List (List Int)} {k : Nat} (h : k < rows.length) : rows.getD k [] = rows[k] := by simp [h]
theorem two_own (w : World) (base : Nat) (hb : base ≤ w.heap.size) (i k : Nat) (hi : i ≤ 64) (hk : k ≤ 64) :
    rowC.ow (w.alloc (.cells #[.int .i64 (i : Int), .int .i64 (k : Int)] 3)) base [.slice (some ⟨w.heap.size, 0, none⟩) 2 2] [(i : Int), (k : Int)] [w.heap.size] :=
  Cd.ow_of_own (v := .slice (some ⟨w.heap.size, 0, none⟩) 2 2) (l := [(i : Int), (k : Int)])
    (World.ownsRow_lit w #[.int .i64 (i : Int), .int .i64 (k : Int)] 2 hb (by unfold maxLen; omega) (by simp)) (fun x hx => by
      rcases List.mem_cons.1 hx with rfl | hx
      · omega
      · rw [List.mem_singleton.1 hx]; omega)
theorem ri_dn {w : World} {v : Value} {l : List Int} {B : Nat} (h : RI w v l B) (q : Nat) : RI (w.drewN q) v l B := h
set_option maxRecDepth 100000 in
set_option maxHeartbeats 6400000 in
theorem spec_vio (u v : Value) (l : List T3) (nm : ByteArray) (V : List Int) (t : Int) (S S2 : Nat → Prop) (w : World) (h1 : tabsC.rd w S [u] l) (h2 : rowC.rd w S2 [v] V) (hw : wtS l ≤ 1048577) :
    Calls Try.prog 20 #[.agg #[u], .agg #[.string nm, v, .int .i64 t]] w fun e w' => VioAns l (nm, V, t) w e w' := by
  have HV2 := Lib.hid (fun w' (hb : Below w.heap.size w w') => Cd.later h2 hb)
  have HLK := Lib.hid (fun w' (hb : Below w.heap.size w w') => spec_look u l nm S w' (Cd.later h1 hb) hw)
  have HIS := Lib.hid (fun w' (hb : Below w.heap.size w w') => spec_isdep u v l nm V t S S2 w' (Cd.later h1 hb) (Cd.later h2 hb) hw)
  obtain ⟨a1, cap1, rfl, hl1⟩ := Cd.sl_form h1
  obtain ⟨a2, cap2, rfl, hl2, _⟩ := (row_ri h2).1
  clear h1 h2 hw
  go_enter Try.func20, Try.ntmps20
  go_wp2_with fail
  generalize hW : (w.alloc _).alloc _ = W
  obtain ⟨r0, r1, hz, hb0⟩ := start2g w _ _ hW
  have L0 := Lib.hid (Loc1.of r0)
  have L1 := Lib.hid (Loc3.of r1)
  have HB0 := Lib.hid hb0
  clear hW r0 r1 hz
  refine (HLK.out W hb0).mono ?_
  rintro e w1 ⟨vt, fp, rfl, how, hnd, hb1⟩
  obtain ⟨a3, c3, rfl⟩ := Cd.ow_slice (c := rowC) how
  replace L0 := Lib.hid (L0.out.later hb1)
  replace L1 := Lib.hid (L1.out.later hb1)
  have HB1 := Lib.hid (below_then HB0.out hb1)
  have HOW := Lib.hid (rowsC.ow_rd how)
  clear hb0 hb1 how hnd HLK HB0
  generalize hT : lkT l nm = T at *
  go_wp2_with fail
  generalize hg : World.alloc w1 _ = w2
  obtain ⟨rg, z2, hbg⟩ := start1 w1 _ hg
  clear hg
  have LT := Lib.hid (Loc3.of rg)
  replace L0 := Lib.hid (L0.out.later hbg)
  replace L1 := Lib.hid (L1.out.later hbg)
  replace HOW := Lib.hid (Cd.later HOW.out hbg)
  have HB2 := Lib.hid (below_then HB1.out hbg)
  clear rg hbg z2 HB1
  cases hok : depOk l (nm, V, t)
  · have HZ := Lib.hid (vioD_no hok)
    have HIS2 := Lib.hid (fun w' (hb : Below w.heap.size w w') => (HIS.out w' hb).mono fun e w'' h => (show e = .returned (.bool false) ∧ Below w'.heap.size w' w'' from ⟨by rw [h.1, hok], h.2⟩))
    clear hok hT HIS
    have y0 := LT.out.c2
    have y1 := L0.out.c0
    have y2 := L1.out.c0
    have y3 := L1.out.c1
    have y4 := L1.out.c2
    by_cases hn : 0 < T.2.2.length
    · have p1 : (0 : Int) < (T.2.2.length : Int) := by omega
      go_loopw [7] (fun i wr => i = .int .i64 (0 : Nat) ∧ wr = w2) (fun i _ => 0)
      case atStart => exact ⟨rfl, rfl⟩
      case round =>
        obtain ⟨rfl, rfl⟩ := hrel
        go_wp2_with fail
        refine (HIS2.out _ HB2.out).mono ?_
        rintro e w3 ⟨rfl, hb3⟩
        have HB3 := Lib.hid (below_then HB2.out hb3)
        have HOE := Lib.hid (Cd.ow_empty (e := 3) (c := Cd.int) w3 w.heap.size HB3.out.size)
        clear hb3
        go_wp2_with fail
        go_ret
        exact ⟨_, _, rfl, by rw [HZ.out]; exact HOE.out, by simp, below_then HB3.out (below_alloc _ _)⟩
    · have p1 : ¬ (0 : Int) < (T.2.2.length : Int) := by omega
      have HOE := Lib.hid (Cd.ow_empty (e := 3) (c := Cd.int) w2 w.heap.size HB2.out.size)
      go_loopw [7] (fun i wr => i = .int .i64 (0 : Nat) ∧ wr = w2) (fun i _ => 0)
      case atStart => exact ⟨rfl, rfl⟩
      case round =>
        obtain ⟨rfl, rfl⟩ := hrel
        go_wp2_with fail
        go_ret
        exact ⟨_, _, rfl, by rw [HZ.out]; exact HOE.out, by simp, below_then HB2.out (below_alloc _ _)⟩
  obtain ⟨hq1, hc1, hc2⟩ := dep_parts hok
  have HZ := Lib.hid (vioD_yes hok)
  have HIS2 := Lib.hid (fun w' (hb : Below w.heap.size w w') => (HIS.out w' hb).mono fun e w'' h => (show e = .returned (.bool true) ∧ Below w'.heap.size w' w'' from ⟨by rw [h.1, hok], h.2⟩))
  have HF := found_of hq1
  rw [hT] at HF hc1 hc2
  simp only at HZ
  rw [hT] at HZ
  have hl8 := found_len HF
  obtain ⟨hv3, hsel⟩ := sel_all HF hc1
  obtain ⟨tc, rfl, htc3, htc⟩ := col_at HF hc2
  have HSEL := Lib.hid hsel
  have HTC := Lib.hid htc
  clear hok hT HIS hq1 hc1 hc2 HF hsel htc
  obtain ⟨nmT, arT, rows⟩ := T
  simp only at *
  go_loopw [7] (fun i wr => ∃ k : Nat, k ≤ rows.length ∧ i = .int .i64 k ∧ Hid (VioNo rows V tc k) ∧ Below w2.heap.size w2 wr) (fun i _ => rows.length - (intOf i).toNat)
  case atStart => exact ⟨0, Nat.zero_le _, rfl, Lib.hid (fun k' h => by omega), Below.refl _ _⟩
  case round =>
    obtain ⟨k, hk, rfl, hvn, hb⟩ := hrel
    have HBW := Lib.hid (below_then HB2.out hb)
    have XT := Lib.hid (LT.out.later hb)
    have X1 := Lib.hid (L1.out.later hb)
    have X0 := Lib.hid (L0.out.later hb)
    have HB := Lib.hid hb
    have y0 := XT.out.c2
    by_cases hlt : k < rows.length
    case neg =>
      have ek : k = rows.length := by omega
      subst ek
      have HE := Lib.hid (vio_none hvn.out)
      have HOE := Lib.hid (Cd.ow_empty (e := 3) (c := Cd.int) wr w.heap.size HBW.out.size)
      clear hb
      go_wp2_with fail
      go_ret
      exact ⟨_, _, rfl, by rw [HZ.out, HE.out]; exact HOE.out, by simp, below_then HBW.out (below_alloc _ _)⟩
    have y1 := X0.out.c0
    have y2 := X1.out.c0
    have y3 := X1.out.c1
    have y4 := X1.out.c2
    have i1 : (0 : Int) ≤ (k : Int) := by omega
    have i2 : (k : Int) < (rows.length : Int) := by omega
    clear hb
    go_wp2_with fail
    refine (HIS2.out _ HBW.out).mono ?_
    rintro e w3 ⟨rfl, hb3⟩
    have HBW3 := Lib.hid (below_then HBW.out hb3)
    have HB3 := Lib.hid (below_then HB.out hb3)
    have XT3 := Lib.hid (XT.out.later hb3)
    have X13 := Lib.hid (X1.out.later hb3)
    clear hb3 y0 y1 y2 y3 y4 XT X1 X0 HB HBW
    obtain ⟨b, off, cap', x, e1, hbB, hc, hx⟩ := rows_at (Cd.later HOW.out HB3.out) hlt
    injection e1 with e1 e2 e3
    subst e1 e3
    have HS := Lib.hid (spec_select x _ rows[k] V _ _ w3.drew (rd_drew hx) (rd_drew (HV2.out w3 HBW3.out)) (by omega))
    unfold SelAns at HS
    rw [(HSEL.out _ (List.getElem_mem hlt)).1] at HS
    simp only [if_true] at HS
    have y0 := XT3.out.c2
    have y3 := X13.out.c1
    clear hx
    generalize hsk : selR rows[k] V = sk at *
    have HSK := Lib.hid hsk
    clear hsk
    go_upto_region 5 with fail
    go_cut [8] (fun s8 wx => ∃ (a4 : Option Addr) (c4 : Nat) (f4 : List Nat), s8 = .slice a4 sk.length c4 ∧ rowC.ow wx w3.heap.size [.slice a4 sk.length c4] sk f4 ∧ Below w3.heap.size w3 wx)
    case first =>
      go_region_law (first | (go_simp; go_at_call 65; refine HS.out.mono ?_; rintro e w4 ⟨u4, f4, rfl, ho4, hn4, hb4⟩; obtain ⟨a4, c4, rfl⟩ := Cd.ow_slice ho4; (have hq4 := undrew hb4); (have HB4 := Lib.hid hq4); (have HO4 := Lib.hid ho4); clear ho4 hn4 hb4 hq4))
      all_goals
        go_wp2_with fail
        go_meet
        exact ⟨a4, c4, f4, rfl, HO4.out, HB4.out⟩
    case rest =>
      obtain ⟨a4, c4, f4, rfl, ho4, hb4⟩ := hcut
      generalize wc = w4 at *
      have HB4 := Lib.hid (below_then HB3.out hb4)
      have HBW4 := Lib.hid (below_then HBW3.out hb4)
      have HO4 := Lib.hid (rowC.ow_rd ho4)
      clear ho4 hb4 y0 y3 hc hbB
      go_wp2_with fail
      go_loopw [10] (fun i wr => ∃ j : Nat, j ≤ k ∧ i = .int .i64 j ∧ Hid (VioRow rows V tc k j) ∧ Below w4.heap.size w4 wr) (fun i _ => k - (intOf i).toNat)
      case atStart => exact ⟨0, Nat.zero_le _, rfl, Lib.hid (fun j h => by omega), Below.refl _ _⟩
      case round =>
        obtain ⟨j, hj, rfl, hvr, hb5⟩ := hrel
        have HB5 := Lib.hid (below_then HB4.out hb5)
        have HBW5 := Lib.hid (below_then HBW4.out hb5)
        have HO5 := Lib.hid (Cd.later HO4.out hb5)
        have HB45 := Lib.hid hb5
        clear hb5
        by_cases hjt : j < k
        case neg =>
          have ej : j = k := by omega
          subst ej
          have HVN := Lib.hid (VioNo.next hvn.out hvr.out)
          go_wp2_with fail
          go_roundw
          case rel => exact ⟨j + 1, by omega, by go_num, HVN.out, HB5.out⟩
          case measure => simp [intOf]; omega
        have hjl : j < rows.length := by omega
        have XT5 := Lib.hid (LT.out.later HB5.out)
        have X15 := Lib.hid (L1.out.later HB5.out)
        have HRW5 := Lib.hid (Cd.later HOW.out HB5.out)
        obtain ⟨b, off, cap', x, e1, hbB, hc, hx⟩ := rows_at HRW5.out hjl
        injection e1 with e1 e2 e3
        injection e1 with e1
        injection e1 with e1 e2 _
        subst e1 e2 e3
        have HS := Lib.hid (spec_select x _ rows[j] V _ _ wr.drew (rd_drew hx) (rd_drew (HV2.out wr HBW5.out)) (by omega))
        unfold SelAns at HS
        rw [(HSEL.out _ (List.getElem_mem hjl)).1] at HS
        simp only [if_true] at HS
        have y0 := XT5.out.c2
        have y3 := X15.out.c1
        have j1 : (0 : Int) ≤ (j : Int) := by omega
        have j2 : (j : Int) < (rows.length : Int) := by omega
        have j3 : (j : Int) < (k : Int) := by omega
        clear hx
        generalize hsj : selR rows[j] V = sj at *
        have HSJ := Lib.hid hsj
        clear hsj
        go_upto_region 9 with fail
        go_cut [11] (fun s11 wx => ∃ (a6 : Option Addr) (c6 : Nat) (f6 : List Nat), s11 = .slice a6 sj.length c6 ∧ rowC.ow wx wr.heap.size [.slice a6 sj.length c6] sj f6 ∧ Below wr.heap.size wr wx)
        case first =>
          go_region_law (first | (go_simp; go_at_call 65; refine HS.out.mono ?_; rintro e w6 ⟨u6, f6, rfl, ho6, hn6, hb6⟩; obtain ⟨a6, c6, rfl⟩ := Cd.ow_slice ho6; (have hq6 := undrew hb6); (have HB6 := Lib.hid hq6); (have HO6 := Lib.hid ho6); clear ho6 hn6 hb6 hq6))
          all_goals
            go_wp2_with fail
            go_meet
            exact ⟨a6, c6, f6, rfl, HO6.out, HB6.out⟩
        case rest =>
          obtain ⟨a6, c6, f6, rfl, ho6, hb6⟩ := hcut
          generalize wc = w6 at *
          have HB6 := Lib.hid (below_then HB5.out hb6)
          have HBW6 := Lib.hid (below_then HBW5.out hb6)
          have HB46 := Lib.hid (below_then HB45.out hb6)
          have HO6 := Lib.hid (rowC.ow_rd ho6)
          have HK6 := Lib.hid (Cd.later HO5.out hb6)
          clear ho6 hb6 y0 y3 hc hbB
          have XT6 := Lib.hid (LT.out.later HB6.out)
          have X16 := Lib.hid (L1.out.later HB6.out)
          obtain ⟨b7, off7, cap7, x7, e1, hbB7, hc7, hx7⟩ := rows_at (Cd.later HOW.out HB6.out) hjl
          injection e1 with e1 e2 e3
          injection e1 with e1
          injection e1 with e1 e2 _
          subst e1 e2 e3
          obtain ⟨b8, off8, cap8, x8, e1, hbB8, hc8, hx8⟩ := rows_at (Cd.later HOW.out HB6.out) hlt
          injection e1 with e1 e2 e3
          injection e1 with e1
          injection e1 with e1 e2 _
          subst e1 e2 e3
          have HTJ := HTC.out _ (List.getElem_mem hjl)
          have HTK := HTC.out _ (List.getElem_mem hlt)
          obtain ⟨bj, oj, cj, rfl, hbj, hcj⟩ := ri_at (row_ri hx7).1 HTJ
          obtain ⟨bk, ok, ck, rfl, hbk, hck⟩ := ri_at (row_ri hx8).1 HTK
          have HC := Lib.hid (fun q => spec_cmp (.slice a6 sj.length c6) (.slice a4 sk.length c4) sj sk _ _ (w6.drewN q) (ri_dn (row_ri HO6.out).1 q) (ri_dn (row_ri HK6.out).1 q))
          have HBAD := Lib.hid (show badB rows V (tc : Int) j k = (decide (sj = sk) && decide ((rows[j])[tc] ≠ (rows[k])[tc])) by
            unfold badB
            rw [row_get hjl, row_get hlt, HSJ.out, HSK.out, Int.toNat_natCast]
            simp [HTJ, HTK])
          have z0 := XT6.out.c2
          have z3 := X16.out.c2
          have m1 : (0 : Int) ≤ (tc : Int) := by omega
          have m2 : (tc : Int) < ((rows[j]).length : Int) := by omega
          have m3 : (tc : Int) < ((rows[k]).length : Int) := by omega
          clear hx7 hx8
          generalize (rows[j])[tc] = zj at *
          generalize (rows[k])[tc] = zk at *
          generalize (rows[j]).length = nj at *
          generalize (rows[k]).length = nk at *
          by_cases hcm : sj = sk
          · have t1 : (cmpR sj sk == 0) = true := beq_iff_eq.2 (cmpR_zero.2 hcm)
            rw [decide_eq_true hcm, Bool.true_and] at HBAD
            clear hcm
            generalize cmpR sj sk = cz at *
            by_cases hne : zj = zk
            · have t2 : (zj == zk) = true := beq_iff_eq.2 hne
              rw [decide_eq_false (by simpa using hne)] at HBAD
              have HNX := Lib.hid (VioRow.next hvr.out HBAD.out)
              clear hne
              go_wp2
              go_quiet (first | (go_at_call 66; refine Calls.quiet_of (HC.out _)))
              go_wp2
              go_roundw
              case rel => exact ⟨j + 1, by omega, by go_num, HNX.out, DegSpec.dnB HB46.out⟩
              case measure => simp [intOf]; omega
            · have t2 : (zj == zk) = false := beq_eq_false_iff_ne.2 hne
              rw [decide_eq_true (by simpa using hne)] at HBAD
              have HVI := Lib.hid (vio_some hvn.out hlt hvr.out hjt HBAD.out)
              clear hne
              go_wp2
              go_quiet (first | (go_at_call 66; refine Calls.quiet_of (HC.out _)))
              go_wp2
              go_ret
              exact ⟨_, _, rfl, by rw [HZ.out, HVI.out]; exact two_own _ _ (DegSpec.dnB (m := _) HBW6.out).size j k (by omega) (by omega), by simp, below_then (DegSpec.dnB HBW6.out) (below_alloc _ _)⟩
          · have t1 : (cmpR sj sk == 0) = false := beq_eq_false_iff_ne.2 (fun q => hcm (cmpR_zero.1 q))
            rw [decide_eq_false hcm, Bool.false_and] at HBAD
            have HNX := Lib.hid (VioRow.next hvr.out HBAD.out)
            clear hcm
            generalize cmpR sj sk = cz at *
            go_wp2
            go_quiet (first | (go_at_call 66; refine Calls.quiet_of (HC.out _)))
            go_wp2
            go_roundw
            case rel => exact ⟨j + 1, by omega, by go_num, HNX.out, DegSpec.dnB HB46.out⟩
            case measure => simp [intOf]; omega
set_option maxRecDepth 100000 in
set_option maxHeartbeats 1600000 in
theorem spec_holdd (u v : Value) (l : List T3) (nm : ByteArray) (V : List Int) (t : Int) (S S2 : Nat → Prop) (w : World) (h1 : tabsC.rd w S [u] l) (h2 : rowC.rd w S2 [v] V) (hw : wtS l ≤ 1048577) :
    Calls Try.prog 27 #[.agg #[u], .agg #[.string nm, v, .int .i64 t]] w fun e w' => e = .returned (.bool (holdsD l (nm, V, t))) ∧ Below w.heap.size w w' := by
  have HIS := Lib.hid (fun w' (hb : Below w.heap.size w w') => spec_isdep u v l nm V t S S2 w' (Cd.later h1 hb) (Cd.later h2 hb) hw)
  have HMS := Lib.hid (fun w' (hb : Below w.heap.size w w') => spec_vio u v l nm V t S S2 w' (Cd.later h1 hb) (Cd.later h2 hb) hw)
  have HLM := Lib.hid (vioD_len l (nm, V, t))
  obtain ⟨a1, cap1, rfl, hl1⟩ := Cd.sl_form h1
  obtain ⟨a2, cap2, rfl, hl2, _⟩ := (row_ri h2).1
  clear h1 h2 hw
  have HZ := Lib.hid (show holdsD l (nm, V, t) = (depOk l (nm, V, t) && decide ((vioD l (nm, V, t)).length = 0)) from rfl)
  go_enter Try.func27, Try.ntmps27
  go_wp2_with fail
  generalize hW : (w.alloc _).alloc _ = W
  obtain ⟨r0, r1, hz, hb0⟩ := start2g w _ _ hW
  have L0 := Lib.hid (Loc1.of r0)
  have L1 := Lib.hid (Loc3.of r1)
  have HB0 := Lib.hid hb0
  clear hW r0 r1 hz
  refine (HIS.out W hb0).mono ?_
  rintro e w1 ⟨rfl, hb1⟩
  have HB1 := Lib.hid (below_then HB0.out hb1)
  replace L0 := Lib.hid (L0.out.later hb1)
  replace L1 := Lib.hid (L1.out.later hb1)
  clear hb0 hb1
  have y0 := L0.out.c0
  have y1 := L1.out.c0
  have y2 := L1.out.c1
  have y3 := L1.out.c2
  cases hok : depOk l (nm, V, t)
  · have HE := Lib.hid (show holdsD l (nm, V, t) = false by rw [HZ.out, hok]; rfl)
    clear hok
    go_wp2_with fail
    go_ret
    exact ⟨ret_b HE.out.symm, HB1.out⟩
  have HE := Lib.hid (show holdsD l (nm, V, t) = decide ((vioD l (nm, V, t)).length = 0) by rw [HZ.out, hok]; rfl)
  clear hok
  go_wp2_with fail
  refine (HMS.out w1 HB1.out).mono ?_
  rintro e w2 ⟨v', f, rfl, ho, hn, hb2⟩
  obtain ⟨a3, c3, rfl⟩ := Cd.ow_slice ho
  have HB2 := Lib.hid (below_then HB1.out hb2)
  have hlm := HLM.out
  clear ho hn hb2 HMS HIS
  generalize (vioD l (nm, V, t)).length = m at *
  go_wp2_with fail
  go_ret
  exact ⟨ret_b (by rw [HE.out]; by_cases q : m = 0 <;> simp [q]), HB2.out⟩
end Go.Proofs.Ytnoennmhifmolaa.DepSpec
namespace Go.Proofs.Ytnoennmhifmolaa.DepImp
open Go Go.RowKit Byt Ints IntsLaw Cd Rows2 Tab SlMath TabOpen TabElem SlTable Db TabSpec Exact DbMath Dep QryMath DepMath DbExact DepSpec
open DbSpec (lkT LookAns zeroT)
open DegMath (colsOk)

theorem selR_take_eq {a b V : List Int} {k : Nat} (h : selR a (V.take k) = selR b (V.take k)) (hk : k < V.length) (he : a.getD (V[k]).toNat 0 = b.getD (V[k]).toNat 0) : selR a (V.take (k + 1)) = selR b (V.take (k + 1)) := by
  unfold selR at *
  rw [List.take_succ_eq_append_getElem hk, List.map_append, List.map_append, h]
  simp only [List.map_cons, List.map_nil, he]
theorem selR_ne {a b V : List Int} {k : Nat} (hk : k < V.length) (he : a.getD (V[k]).toNat 0 ≠ b.getD (V[k]).toNat 0) : selR a V ≠ selR b V := by
  intro h
  have h1 := congrArg (fun l => l[k]?) h
  unfold selR at h1
  simp only [List.getElem?_map, List.getElem?_eq_getElem hk, Option.map_some, Option.some.injEq] at h1
  exact he h1
set_option maxRecDepth 100000 in
set_option maxHeartbeats 1600000 in
theorem impl_agree (x y v : Value) (a b V : List Int) (B1 B2 B3 : Nat) (w : World) (h1 : RI w x a B1) (h2 : RI w y b B2) (h3 : RI w v V B3) (ha : ∀ c ∈ V, 0 ≤ c ∧ c < a.length) (hb : ∀ c ∈ V, 0 ≤ c ∧ c < b.length) :
    Calls Try.prog 67 #[x, y, v] w fun e w' => e = .returned (.bool (decide (selR a V = selR b V))) ∧ ∃ m, w' = w.drewN m := by
  have H1 := Lib.hid (fun q => DepSpec.ri_dn h1 q)
  have H2 := Lib.hid (fun q => DepSpec.ri_dn h2 q)
  have H3 := Lib.hid (fun q => DepSpec.ri_dn h3 q)
  have HA := Lib.hid ha
  have HB := Lib.hid hb
  obtain ⟨a1, c1, rfl, hl1, _⟩ := h1
  obtain ⟨a2, c2, rfl, hl2, _⟩ := h2
  obtain ⟨a3, c3, rfl, hl3, _⟩ := h3
  clear ha hb
  go_enter Try.func67, Try.ntmps67
  go_wp2_with fail
  go_loopw [11] (fun i wr => ∃ k m : Nat, k ≤ V.length ∧ i = .int .i64 k ∧ Hid (selR a (V.take k) = selR b (V.take k)) ∧ wr = w.drewN m) (fun i _ => V.length - (intOf i).toNat)
  case atStart => exact ⟨0, 0, Nat.zero_le _, rfl, Lib.hid rfl, rfl⟩
  case round =>
    obtain ⟨k, m, hk, rfl, hs, hwr⟩ := hrel
    have HWR := Lib.hid hwr
    by_cases hlt : k < V.length
    · have R1 := H1.out m
      have R2 := H2.out m
      have R3 := H3.out m
      rw [← hwr] at R1 R2 R3
      obtain ⟨b3, o3, c3', e1, hb3, hc3⟩ := ri_at R3 hlt
      injection e1 with e1 e2 e3
      subst e1 e3
      have hia := HA.out _ (List.getElem_mem hlt)
      have hib := HB.out _ (List.getElem_mem hlt)
      have hnx := selR_take_eq hs.out hlt
      have hne := fun he => selR_ne (a := a) (b := b) hlt he
      obtain ⟨t, ht⟩ := Int.eq_ofNat_of_zero_le hia.1
      rw [ht] at hia hib hc3 hnx hne
      simp only [Int.toNat_natCast] at hnx hne
      have hta : t < a.length := by omega
      have htb : t < b.length := by omega
      obtain ⟨b1, o1, c1', e1, hb1, hc1⟩ := ri_at R1 hta
      injection e1 with e1 e2 e3
      subst e1 e3
      obtain ⟨b2, o2, c2', e1, hb2, hc2⟩ := ri_at R2 htb
      injection e1 with e1 e2 e3
      subst e1 e3
      have p1 : (0 : Int) ≤ (k : Int) := by omega
      have p2 : (k : Int) < (V.length : Int) := by omega
      have p3 : (0 : Int) ≤ (t : Int) := by omega
      have p4 : (t : Int) < (a.length : Int) := by omega
      have p5 : (t : Int) < (b.length : Int) := by omega
      rw [show a.getD t 0 = a[t] by simp [hta], show b.getD t 0 = b[t] by simp [htb]] at hnx hne
      clear R1 R2 R3 hwr ht hia hib
      by_cases he : a[t] = b[t]
      · have HNX := Lib.hid (hnx he)
        have t1 : (a[t] == b[t]) = true := beq_iff_eq.2 he
        clear hnx hne he
        generalize a[t] = za at *
        generalize b[t] = zb at *
        go_wp2
        go_quiet (fail)
        go_wp2
        go_roundw
        case rel => exact ⟨k + 1, _, by omega, by go_num, HNX, by rw [HWR.out, World.drewN_drewN]⟩
        case measure => simp [intOf]; omega
      · have HZ := Lib.hid (show decide (selR a V = selR b V) = false from decide_eq_false (hne he))
        have t1 : (a[t] == b[t]) = false := beq_eq_false_iff_ne.2 he
        clear hnx hne he
        generalize a[t] = za at *
        generalize b[t] = zb at *
        go_wp2
        go_quiet (fail)
        go_wp2
        go_ret
        exact ⟨ret_b HZ.out.symm, by rw [HWR.out, World.drewN_drewN]; exact ⟨_, rfl⟩⟩
    · have ek : k = V.length := by omega
      subst ek
      have hs' := hs.out
      rw [List.take_length] at hs'
      have HZ := Lib.hid (show decide (selR a V = selR b V) = true from decide_eq_true hs')
      clear hs' hwr
      go_wp2_with fail
      go_ret
      exact ⟨ret_b HZ.out.symm, m, by assumption⟩
set_option maxRecDepth 100000 in
set_option maxHeartbeats 6400000 in
theorem impl_vio (u v : Value) (l : List T3) (nm : ByteArray) (V : List Int) (t : Int) (S S2 : Nat → Prop) (w : World) (h1 : tabsC.rd w S [u] l) (h2 : rowC.rd w S2 [v] V) (hw : wtS l ≤ 1048577) (hs : nm.size ≤ 1048576) :
    Calls Try.prog 21 #[.agg #[u], .agg #[.string nm, v, .int .i64 t]] w fun e w' => VioAns l (nm, V, t) w e w' := by
  have HV2 := Lib.hid (fun w' (hb : Below w.heap.size w w') => Cd.later h2 hb)
  have HLK := Lib.hid (fun w' (hb : Below w.heap.size w w') => DbImp.impl_look u l nm S w' (Cd.later h1 hb) hw hs)
  have HIS := Lib.hid (fun w' (hb : Below w.heap.size w w') => impl_isdep u v l nm V t S S2 w' (Cd.later h1 hb) (Cd.later h2 hb) hw hs)
  obtain ⟨a1, cap1, rfl, hl1⟩ := Cd.sl_form h1
  obtain ⟨a2, cap2, rfl, hl2, _⟩ := (row_ri h2).1
  clear h1 h2 hw hs
  go_enter Try.func21, Try.ntmps21
  go_wp2_with fail
  generalize hW : (w.alloc _).alloc _ = W
  obtain ⟨r0, r1, hz, hb0⟩ := start2g w _ _ hW
  have L0 := Lib.hid (Loc1.of r0)
  have L1 := Lib.hid (Loc3.of r1)
  have HB0 := Lib.hid hb0
  clear hW r0 r1 hz
  refine (HIS.out W hb0).mono ?_
  rintro e w0 ⟨rfl, hb0'⟩
  replace HB0 := Lib.hid (below_then HB0.out hb0')
  replace L0 := Lib.hid (L0.out.later hb0')
  replace L1 := Lib.hid (L1.out.later hb0')
  clear hb0 hb0' HIS
  cases hok : depOk l (nm, V, t)
  · have HZ := Lib.hid (vioD_no hok)
    clear hok
    go_wp2_with fail
    go_ret
    exact ⟨_, [], rfl, by rw [HZ.out]; exact Cd.ow_nil _ _, by simp, HB0.out⟩
  obtain ⟨hq1, hc1, hc2⟩ := dep_parts hok
  have HZ := Lib.hid (vioD_yes hok)
  have HF := found_of hq1
  have y0 := L0.out.c0
  have y1 := L1.out.c0
  clear hok hq1
  go_wp2_with fail
  refine (HLK.out w0 HB0.out).mono ?_
  rintro e w1 ⟨vt, fp, rfl, how, hnd, hb1⟩
  obtain ⟨a3, c3, rfl⟩ := Cd.ow_slice (c := rowC) how
  have hroom : (lkT l nm).2.2.length ≤ c3 := by
    obtain ⟨v0, xss, fps, e1, hown, hE, hfp⟩ := how
    injection e1 with e1 _
    subst e1
    rcases hown.2 with ⟨e2, h0⟩ | ⟨g, cap', cur, e2, _, _, hnc, _⟩
    · injection e2 with _ q1 q2
      omega
    · injection e2 with _ q1 q2
      omega
  replace L1 := Lib.hid (L1.out.later hb1)
  have HB1 := Lib.hid (below_then HB0.out hb1)
  have HOW := Lib.hid (rowsC.ow_rd how)
  clear hb1 how hnd HLK HB0 y0 y1 L0
  (try simp only at HZ)
  generalize hT : lkT l nm = T at *
  have hl8 := found_len HF
  obtain ⟨hv3, hsel⟩ := sel_all HF hc1
  obtain ⟨tc, rfl, htc3, htc⟩ := col_at HF hc2
  have HSEL := Lib.hid hsel
  have HTC := Lib.hid htc
  clear hT hc1 hc2 HF hsel htc
  obtain ⟨nmT, arT, rows⟩ := T
  simp only at *
  go_wp2_with fail
  generalize hg : World.alloc w1 _ = w2
  obtain ⟨rg, z2, hbg⟩ := start1 w1 _ hg
  clear hg
  have LT := Lib.hid (Loc3.of rg)
  replace L1 := Lib.hid (L1.out.later hbg)
  replace HOW := Lib.hid (Cd.later HOW.out hbg)
  have HB2 := Lib.hid (below_then HB1.out hbg)
  clear rg hbg z2 HB1
  go_loopw [25] (fun i wr => ∃ k : Nat, k ≤ rows.length ∧ i = .int .i64 k ∧ Hid (VioNo rows V tc k) ∧ ∃ m, wr = w2.drewN m) (fun i _ => rows.length - (intOf i).toNat)
  case atStart => exact ⟨0, Nat.zero_le _, rfl, Lib.hid (fun k' h => by omega), 0, rfl⟩
  case round =>
    obtain ⟨k, hk, rfl, hvn, m, hwr⟩ := hrel
    have HWR := Lib.hid hwr
    by_cases hlt : k < rows.length
    case neg =>
      have ek : k = rows.length := by omega
      subst ek
      have HE := Lib.hid (vio_none hvn.out)
      clear hwr
      go_wp2_with fail
      go_ret
      exact ⟨_, [], rfl, by rw [HZ.out, HE.out]; exact Cd.ow_nil _ _, by simp, by rw [HWR.out]; exact DegSpec.dnB HB2.out⟩
    have HRM := rd_drewN HOW.out m
    rw [← hwr] at HRM
    obtain ⟨b, off, cap', x, e1, hbB, hc, hx⟩ := rows_at HRM hlt
    injection e1 with e1 e2 e3
    subst e1 e3
    have y0 : wr.cell? ⟨w1.heap.size, 2, none⟩ = some (.slice (some ⟨b, off, none⟩) rows.length c3) := by rw [hwr]; exact LT.out.c2
    have i1 : (0 : Int) ≤ (k : Int) := by omega
    have i2 : (k : Int) < (rows.length : Int) := by omega
    have i4 : (k : Int) ≤ (c3 : Int) := by omega
    obtain ⟨xa, xc, ex, hxq⟩ := (row_ri hx).1
    clear hxq
    subst ex
    clear hx HRM hwr
    go_wp2_with fail
    go_loopw [35] (fun i wr => ∃ j : Nat, j ≤ k ∧ i = .int .i64 j ∧ Hid (VioRow rows V tc k j) ∧ ∃ m, wr = w2.drewN m) (fun i _ => k - (intOf i).toNat)
    case atStart => exact ⟨0, Nat.zero_le _, rfl, Lib.hid (fun j h => by omega), m, HWR.out⟩
    case round =>
      obtain ⟨j, hj, rfl, hvr, m2, hwr2⟩ := hrel
      have HWR2 := Lib.hid hwr2
      by_cases hjt : j < k
      case neg =>
        have ej : j = k := by omega
        subst ej
        have HVN := Lib.hid (VioNo.next hvn.out hvr.out)
        clear hwr2
        go_wp2_with fail
        go_roundw
        case rel => exact ⟨j + 1, by omega, by go_num, HVN, m2, HWR2.out⟩
        case measure => simp [intOf]; omega
      have hjl : j < rows.length := by omega
      have HRM := rd_drewN HOW.out m2
      rw [← hwr2] at HRM
      obtain ⟨b7, off7, cap7, x7, e1, hbB7, hc7, hx7⟩ := rows_at HRM hjl
      injection e1 with e1 e2 e3
      injection e1 with e1
      injection e1 with e1 e2 _
      subst e1 e2 e3
      obtain ⟨b8, off8, cap8, x8, e1, hbB8, hc8, hx8⟩ := rows_at HRM hlt
      injection e1 with e1 e2 e3
      injection e1 with e1
      injection e1 with e1 e2 _
      subst e1 e2 e3
      have hxx : x8 = .slice xa (rows[k]).length xc := by
        have h1 : wr.cell? ⟨b, off + k, none⟩ = w2.cell? ⟨b, off + k, none⟩ := by rw [hwr2]; rfl
        have h2 : w2.cell? ⟨b, off + k, none⟩ = some (.slice xa (rows[k]).length xc) := by
          have h3 := hc
          rw [HWR.out] at h3
          exact h3
        rw [h1, h2] at hc8
        exact (Option.some.inj hc8).symm
      subst hxx
      have HTJ := HTC.out _ (List.getElem_mem hjl)
      have HTK := HTC.out _ (List.getElem_mem hlt)
      obtain ⟨bj, oj, cj, rfl, hbj, hcj⟩ := ri_at (row_ri hx7).1 HTJ
      obtain ⟨bk, ok, ck, e1, hbk, hck⟩ := ri_at (row_ri hx8).1 HTK
      injection e1 with e1 e2 e3
      subst e1 e3
      have HAG := Lib.hid (fun q => impl_agree _ _ _ rows[j] rows[k] V _ _ _ (wr.drewN q) (DepSpec.ri_dn (row_ri hx7).1 q) (DepSpec.ri_dn (row_ri hx8).1 q) (DepSpec.ri_dn (row_ri (HV2.out wr (by rw [hwr2]; exact DegSpec.dnB HB2.out))).1 q) ((HSEL.out _ (List.getElem_mem hjl)).2) ((HSEL.out _ (List.getElem_mem hlt)).2))
      have HBAD := Lib.hid (show badB rows V (tc : Int) j k = (decide (selR rows[j] V = selR rows[k] V) && decide ((rows[j])[tc] ≠ (rows[k])[tc])) by
        unfold badB
        rw [row_get hjl, row_get hlt, Int.toNat_natCast]
        simp [HTJ, HTK])
      have z3 : wr.cell? ⟨w.heap.size + 1, 2, none⟩ = some (.int .i64 (tc : Int)) := by rw [hwr2]; exact L1.out.c2
      have z4 : wr.cell? ⟨w.heap.size + 1, 1, none⟩ = some (.slice a2 V.length cap2) := by rw [hwr2]; exact L1.out.c1
      have m1 : (0 : Int) ≤ (tc : Int) := by omega
      have m3 : (tc : Int) < ((rows[j]).length : Int) := by omega
      have m4 : (tc : Int) < ((rows[k]).length : Int) := by omega
      have j1 : (0 : Int) ≤ (j : Int) := by omega
      have j2 : (j : Int) < (rows.length : Int) := by omega
      have j3 : (j : Int) < (k : Int) := by omega
      clear hx7 hx8 HRM hwr2
      generalize (rows[j])[tc] = zj at *
      generalize (rows[k])[tc] = zk at *
      generalize (rows[j]).length = nj at *
      generalize (rows[k]).length = nk at *
      by_cases hne : zj = zk
      · have t2 : (zj == zk) = true := beq_iff_eq.2 hne
        have t3 : (zj != zk) = false := by unfold bne; rw [t2]; rfl
        have t4 : decide (zj = zk) = true := decide_eq_true hne
        have t5 : (!(zj == zk)) = false := by rw [t2]; rfl
        rw [show decide (zj ≠ zk) = false from decide_eq_false (by simpa using hne), Bool.and_false] at HBAD
        have HNX := Lib.hid (VioRow.next hvr.out HBAD.out)
        clear hne
        go_wp2
        go_quiet (first | (go_at_call 67; refine Calls.quiet_of (HAG.out _)))
        go_wp2
        go_roundw
        case rel => exact ⟨j + 1, by omega, by go_num, HNX, by rw [HWR2.out, World.drewN_drewN]; exact ⟨_, rfl⟩⟩
        case measure => simp [intOf]; omega
      · have t2 : (zj == zk) = false := beq_eq_false_iff_ne.2 hne
        have t3 : (zj != zk) = true := by unfold bne; rw [t2]; rfl
        have t4 : decide (zj = zk) = false := decide_eq_false hne
        have t5 : (!(zj == zk)) = true := by rw [t2]; rfl
        rw [show decide (zj ≠ zk) = true from decide_eq_true (by simpa using hne), Bool.and_true] at HBAD
        cases hag : decide (selR rows[j] V = selR rows[k] V)
        · rw [hag] at HBAD HAG
          have HNX := Lib.hid (VioRow.next hvr.out HBAD.out)
          clear hne hag
          go_wp2
          go_quiet (first | (go_at_call 67; refine Calls.quiet_of (HAG.out _)))
          go_wp2
          go_roundw
          case rel => exact ⟨j + 1, by omega, by go_num, HNX, by rw [HWR2.out, World.drewN_drewN]; exact ⟨_, rfl⟩⟩
          case measure => simp [intOf]; omega
        · rw [hag] at HBAD HAG
          have HVI := Lib.hid (vio_some hvn.out hlt hvr.out hjt HBAD.out)
          have HBX := Lib.hid (show Below w.heap.size w wr by rw [HWR2.out]; exact DegSpec.dnB HB2.out)
          clear hne hag
          go_wp2
          go_quiet (first | (go_at_call 67; refine Calls.quiet_of (HAG.out _)))
          go_wp2
          go_ret
          exact ⟨_, _, rfl, by rw [HZ.out, HVI.out]; exact two_own _ _ (DegSpec.dnB (m := _) HBX.out).size j k (by omega) (by omega), by simp, below_then (DegSpec.dnB HBX.out) (below_alloc _ _)⟩
set_option maxRecDepth 100000 in
set_option maxHeartbeats 1600000 in
theorem impl_holdd (u v : Value) (l : List T3) (nm : ByteArray) (V : List Int) (t : Int) (S S2 : Nat → Prop) (w : World) (h1 : tabsC.rd w S [u] l) (h2 : rowC.rd w S2 [v] V) (hw : wtS l ≤ 1048577) (hs : nm.size ≤ 1048576) :
    Calls Try.prog 28 #[.agg #[u], .agg #[.string nm, v, .int .i64 t]] w fun e w' => e = .returned (.bool (holdsD l (nm, V, t))) ∧ Below w.heap.size w w' := by
  have HIS := Lib.hid (fun w' (hb : Below w.heap.size w w') => impl_isdep u v l nm V t S S2 w' (Cd.later h1 hb) (Cd.later h2 hb) hw hs)
  have HMS := Lib.hid (fun w' (hb : Below w.heap.size w w') => impl_vio u v l nm V t S S2 w' (Cd.later h1 hb) (Cd.later h2 hb) hw hs)
  have HLM := Lib.hid (vioD_len l (nm, V, t))
  obtain ⟨a1, cap1, rfl, hl1⟩ := Cd.sl_form h1
  obtain ⟨a2, cap2, rfl, hl2, _⟩ := (row_ri h2).1
  clear h1 h2 hw hs
  have HZ := Lib.hid (show holdsD l (nm, V, t) = (depOk l (nm, V, t) && decide ((vioD l (nm, V, t)).length = 0)) from rfl)
  go_enter Try.func28, Try.ntmps28
  go_wp2_with fail
  generalize hW : (w.alloc _).alloc _ = W
  obtain ⟨r0, r1, hz, hb0⟩ := start2g w _ _ hW
  have L0 := Lib.hid (Loc1.of r0)
  have L1 := Lib.hid (Loc3.of r1)
  have HB0 := Lib.hid hb0
  clear hW r0 r1 hz
  refine (HIS.out W hb0).mono ?_
  rintro e w1 ⟨rfl, hb1⟩
  have HB1 := Lib.hid (below_then HB0.out hb1)
  replace L0 := Lib.hid (L0.out.later hb1)
  replace L1 := Lib.hid (L1.out.later hb1)
  clear hb0 hb1
  have y0 := L0.out.c0
  have y1 := L1.out.c0
  have y2 := L1.out.c1
  have y3 := L1.out.c2
  cases hok : depOk l (nm, V, t)
  · have HE := Lib.hid (show holdsD l (nm, V, t) = false by rw [HZ.out, hok]; rfl)
    clear hok
    go_wp2_with fail
    go_ret
    exact ⟨ret_b HE.out.symm, HB1.out⟩
  have HE := Lib.hid (show holdsD l (nm, V, t) = decide ((vioD l (nm, V, t)).length = 0) by rw [HZ.out, hok]; rfl)
  clear hok
  go_wp2_with fail
  refine (HMS.out w1 HB1.out).mono ?_
  rintro e w2 ⟨v', f, rfl, ho, hn, hb2⟩
  obtain ⟨a3, c3, rfl⟩ := Cd.ow_slice ho
  have HB2 := Lib.hid (below_then HB1.out hb2)
  have hlm := HLM.out
  clear ho hn hb2 HMS HIS
  generalize (vioD l (nm, V, t)).length = m at *
  go_wp2_with fail
  go_ret
  exact ⟨ret_b (by rw [HE.out]; by_cases q : m = 0 <;> simp [q]), HB2.out⟩
end Go.Proofs.Ytnoennmhifmolaa.DepImp
