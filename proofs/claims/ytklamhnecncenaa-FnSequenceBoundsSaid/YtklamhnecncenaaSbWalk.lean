/- The walk of FnSequenceBounds. -/
import Derived.Test.YtklamhnecncenaaSbDraw
import Derived.Test.YtklamhnecncenaaSbFact
import Derived.Test.YtklamhnecncenaaSbImp3
import Derived.Test.YtklamhnecncenaaDegSpec5
import Derived.Test.YtklamhnecncenaaRegH
import Derived.BigQuiet
namespace Go.Proofs.Ytklamhnecncenaa.SbWalk
open Go Go.RowKit Byt Ints IntsLaw Draw LocDraw Cd Rows2 Tab TabSpec Exact DegMath DegSpec DegDraw DegImp SbMath SbSpec SbImp SbFact SbDraw

theorem belq {w w' : World} {n : Nat} (h : w' = w.drewN n) : Below w.heap.size w w' := by subst h; exact ⟨rfl, rfl, rfl, Nat.le_refl _, fun _ _ => rfl⟩
theorem drewB {w0 w : World} (h : Below w0.heap.size w0 w) : Below w0.heap.size w0 w.drew := ⟨h.os, h.tape, h.output, h.size, h.block⟩
/-- A list of the number 0 alone, written down. -/
theorem lit0 (w : World) : rowC.rd (w.alloc (.cells #[.int .i64 0] 3)) (fun _ => True) [.slice (some ⟨w.heap.size, 0, none⟩) 1 1] [0] := by
  have hrow : (w.alloc (.cells #[.int .i64 0] 3)).heap[w.heap.size]? = some (.cells #[.int .i64 0] 3 (0, 0)) := row_alloc w _
  refine ⟨_, 1, rfl, by simp, .inr ⟨_, 0, rfl, trivial, by rw [size_alloc]; omega, fun t ht => ?_⟩⟩
  obtain rfl : t = 0 := by simpa using ht
  refine ⟨[.int .i64 0], fun j hj => ?_, rfl, (show (-9223372036854775808 : Int) ≤ 0 ∧ (0 : Int) ≤ 9223372036854775807 from by omega)⟩
  obtain rfl : j = 0 := by simpa using hj
  exact cells_at hrow rfl
theorem row0 {nm : ByteArray} {ar : Int} {rows : List (List Int)} (h : TabP nm ar rows) {i : Nat} (hi : i < rows.length) : 0 < rows[i].length := by
  have h1 := h.2.2.2.2.1 _ (List.getElem_mem hi)
  have h2 := (rowOk_iff.1 h1).1
  have h3 := h.2.1
  omega
theorem sel0 {r : List Int} (h : 0 < r.length) : selR r [0] = [r[0]] := by
  unfold selR
  simp [h]
theorem xsT_at (rows : List (List Int)) {k : Nat} (h : k < rows.length) (hx : k < (xsT rows [0]).length) : (xsT rows [0])[k] = selR rows[k] [0] := by
  have h3 : (xsT rows [0])[k]? = some (selR rows[k] [0]) := by unfold xsT; simp [h]
  rw [List.getElem?_eq_getElem hx] at h3
  exact Option.some.inj h3
set_option maxRecDepth 100000 in
set_option maxHeartbeats 12800000 in
theorem walk (v : Value) (l : List UInt8) (w : World) (hr : Reads w v l w.heap.size) :
    Calls Try.prog 3 #[v] w fun e w' => e = .returned (.bool true) ∧ Below w.heap.size w w' := by
  by_cases hbig : 1048576 < l.length
  · go_enter Try.func3, Try.ntmps3
    go_wp2_with fail
    refine (big_any v l w.heap.size w hr).mono ?_
    rintro e w1 ⟨rfl, rfl⟩
    rw [decide_eq_true hbig]
    go_wp2_with fail
    go_ret
    exact ⟨rfl, Below.refl _ _⟩
  have HBIG := Lib.hid (big_any v l w.heap.size w hr)
  rw [decide_eq_false hbig] at HBIG
  have HD1 := Lib.hid (draw_pair v l w hr)
  have HDT := Lib.hid (fun W (hb : Below w.heap.size w W) => draw_deg v l W (reads_up hr hb))
  have HFR := Lib.hid (fun W (hb : Below w.heap.size w W) => fresh_any v l W (reads_up hr hb))
  have HDR := Lib.hid (fun W (hb : Below w.heap.size w W) => draw_root v l W (reads_up hr hb))
  clear hr hbig
  go_enter Try.func3, Try.ntmps3
  go_wp2_with fail
  refine HBIG.out.mono ?_
  rintro e w1 ⟨rfl, rfl⟩
  go_wp2_with fail
  refine HD1.out.mono ?_
  rintro e w1 ⟨u1, a, f1, u2, b, f2, rfl, ho1, ho2, ha9, hb9, hb1⟩
  obtain ⟨aa, ac, rfl⟩ := Cd.ow_slice (c := Cd.int) ho1
  obtain ⟨ba, bc, rfl⟩ := Cd.ow_slice (c := Cd.int) ho2
  have HB1 := Lib.hid hb1
  have HA := Lib.hid (fun W (hb : Below w1.heap.size w1 W) => Cd.later (rowC.ow_rd ho1) hb)
  have HB := Lib.hid (fun W (hb : Below w1.heap.size w1 W) => Cd.later (rowC.ow_rd ho2) hb)
  have HRA := Lib.hid (room_ow ho1)
  have HRB := Lib.hid (room_ow ho2)
  clear HBIG HD1 hb1 ho1 ho2 ha9 hb9
  have HPI := Lib.hid (fun W (hb : Below w1.heap.size w1 W) => impl_pair _ _ a b _ _ W (HA.out W hb) (HB.out W hb))
  have HPS := Lib.hid (fun W (hb : Below w1.heap.size w1 W) => spec_pair _ _ a b _ _ W (row_ri (HA.out W hb)).1 (row_ri (HB.out W hb)).1)
  have HCI := Lib.hid (fun W (hb : Below w1.heap.size w1 W) => impl_cau _ _ a b _ _ W (HA.out W hb) (HB.out W hb))
  have HMI := Lib.hid (fun W (hb : Below w1.heap.size w1 W) => impl_mxd _ _ a b _ _ W (row_ri (HA.out W hb)).1 (row_ri (HB.out W hb)).1 HRA.out HRB.out)
  have HSQ := Lib.hid (fun W (hb : Below w1.heap.size w1 W) => spec_seq _ a _ W (row_ri (HA.out W hb)).1)
  have HST := Lib.hid (fun W (hb : Below w1.heap.size w1 W) => spec_total _ a _ W (row_ri (HA.out W hb)).1)
  have HNP := Lib.hid (fun W (hb : Below w1.heap.size w1 W) => impl_npow _ a 1 _ W (HA.out W hb))
  rw [norm_one] at HNP
  have HTI := Lib.hid (fun W (hb : Below w1.heap.size w1 W) => impl_total _ a _ W (row_ri (HA.out W hb)).1 HRA.out)
  have HFM := Lib.hid (fun (h : seqOk a = true) (h0 : 0 < a.length) => And.intro (from_dom h h0) (pair_dom b (from_dom h h0)))
  have n1 : ¬ cauL a b < pairL a b := by have := pair_cau a b; omega
  have n2 : ¬ mxdL a b < pairL a b := by have := pair_mxd a b; omega
  generalize cauL a b = C at *
  generalize mxdL a b = M at *
  generalize totL a = ta at *
  generalize hN : pairL a b = N at *
  have HN := Lib.hid hN
  clear hN
  go_wp2_with fail
  refine (HPI.out w1 (Below.refl _ _)).mono ?_
  rintro e w2 ⟨rfl, hb2⟩
  have HB2 := Lib.hid hb2
  clear hb2
  go_wp2_with fail
  refine (HPS.out w2 HB2.out).mono ?_
  rintro e w3 ⟨rfl, m3, hw3⟩
  have HB3 := Lib.hid (below_then HB2.out (belq hw3))
  clear hw3
  go_wp2_with fail
  refine (HCI.out w3 HB3.out).mono ?_
  rintro e w4 ⟨rfl, hb4⟩
  have HB4 := Lib.hid (below_then HB3.out hb4)
  clear hb4
  go_wp2_with fail
  refine (HMI.out w4 HB4.out).mono ?_
  rintro e wx ⟨rfl, rfl⟩
  generalize seqOk a = qa at *
  go_upto_region 7 with fail
  go_cut [52] (fun s wx => s = .bool (qa && decide (0 < a.length)) ∧ Below w1.heap.size w1 wx)
  case first =>
    go_wp2_with fail
    refine (HSQ.out w4 HB4.out).mono ?_
    rintro e w5 ⟨rfl, m5, hw5⟩
    have HB5 := Lib.hid (below_then HB4.out (belq hw5))
    clear hw5
    cases qa
    · go_wp2_with fail
      go_meet
      exact ⟨rfl, HB5.out⟩
    · by_cases h0 : 0 < a.length
      · have g1 : (0 : Int) < (a.length : Int) := by omega
        have g2 : decide (0 < a.length) = true := decide_eq_true h0
        go_wp2_with fail
        go_meet
        exact ⟨by rw [g2]; rfl, HB5.out⟩
      · have g1 : ¬ (0 : Int) < (a.length : Int) := by omega
        have g2 : decide (0 < a.length) = false := decide_eq_false h0
        go_wp2_with fail
        go_meet
        exact ⟨by rw [g2]; rfl, HB5.out⟩
  case rest =>
  obtain ⟨rfl, hbc⟩ := hcut
  have HB5 := Lib.hid hbc
  clear hbc HPS HCI HMI HSQ n1 n2
  generalize wc = w5 at *
  go_upto_if 52 with fail
  go_cut [] (fun wx => Below w1.heap.size w1 wx)
  case first =>
    cases qa
    · rw [Bool.false_and]
      go_wp2_with fail
      go_meet
      exact HB5.out
    rw [Bool.true_and]
    by_cases h0 : 0 < a.length
    case neg =>
      rw [decide_eq_false h0]
      go_wp2_with fail
      go_meet
      exact HB5.out
    rw [decide_eq_true h0]
    have g1 : (0 : Int) < (a.length : Int) := by omega
    obtain ⟨hdom, hpd⟩ := HFM.out rfl h0
    obtain ⟨lb, lo, lc, e1, hlb, c0⟩ := ri_at (row_ri (HA.out w5 HB5.out)).1 h0
    injection e1 with e1 e2 e3
    subst e1 e3
    rw [Nat.add_zero] at c0
    have HDOM := Lib.hid hdom
    have HPD := Lib.hid hpd
    clear hdom hpd HPI
    generalize a[0] = y at *
    have HFI := Lib.hid (fun W => impl_from ta y W)
    unfold SeqAns at HFI
    have HPX := Lib.hid (fun W x S (hx : rowC.rd W S [x] (sfnL ta y)) (hb : Below w1.heap.size w1 W) => impl_pair x _ (sfnL ta y) b S _ W hx (HB.out W hb))
    have HDX := Lib.hid (fun W x S (hx : rowC.rd W S [x] (sfnL ta y)) (hb : Below w1.heap.size w1 W) => spec_dom x _ (sfnL ta y) a _ _ W (row_ri hx).1 (row_ri (HA.out W hb)).1)
    rw [HDOM.out] at HDX
    have hpn : ¬ pairL (sfnL ta y) b < N := by have := HPD.out; omega
    generalize pairL (sfnL ta y) b = NX at *
    generalize sfnL ta y = X at *
    go_wp2_with fail
    have hS0 : Below w5.heap.size w5 w5.drew := drewB (Below.refl _ _)
    refine wp_region_held_drew (S := fun wx => Below w5.heap.size w5 wx) (by kernel_rfl) hS0 (fun hHeld => ?_)
    refine RegH.takeH (i := 0) (v := ?_) rfl (by kernel_rfl) (by kernel_rfl) (by kernel_rfl) (fun _ _ _ h => h) (Or.inl ⟨by rfl, ?_⟩) (by assumption) ?_
    rotate_left
    · (intro wS hSw; (try dsimp only at hSw); skip; go_simp; try (with_reducible rfl))
    try simp only [Act.put, List.setIfInBounds_toArray, List.set_cons_zero, List.set_cons_succ]
    refine RegH.takeH (i := 2) (v := ?_) rfl (by kernel_rfl) (by kernel_rfl) (by kernel_rfl) (fun _ _ _ h => h) (Or.inl ⟨by rfl, ?_⟩) (by assumption) ?_
    rotate_left
    · (intro wS hSw; (try dsimp only at hSw); skip; go_simp; try (with_reducible rfl))
    try simp only [Act.put, List.setIfInBounds_toArray, List.set_cons_zero, List.set_cons_succ]
    refine RegH.takeH (i := 3) (v := ?_) rfl (by kernel_rfl) (by kernel_rfl) (by kernel_rfl) (fun _ _ _ h => h) (Or.inl ⟨by rfl, ?_⟩) (by assumption) ?_
    rotate_left
    · (intro wS hSw; (try dsimp only at hSw); skip; go_simp; try (with_reducible rfl))
    try simp only [Act.put, List.setIfInBounds_toArray, List.set_cons_zero, List.set_cons_succ]
    refine RegH.takeH (i := 4) (v := ?_) rfl (by kernel_rfl) (by kernel_rfl) (by kernel_rfl) (fun _ _ _ h => h) (Or.inl ⟨by rfl, ?_⟩) (by assumption) ?_
    rotate_left
    · (intro wS hSw; (try dsimp only at hSw); (have r0 := (Below.cell hSw (p := ⟨lb, lo, none⟩) (World.block_lt_of_cell? _ _ c0)).trans c0); go_simp; try (with_reducible rfl))
    try simp only [Act.put, List.setIfInBounds_toArray, List.set_cons_zero, List.set_cons_succ]
    refine RegH.consH (i := 1) rfl (by kernel_rfl) (fun K hK => ?_)
    go_simp
    go_at_call 21
    refine (HST.out _ (below_then HB5.out hHeld)).mono ?_
    rintro e wq ⟨rfl, mq, hwq⟩
    have hq := below_then hHeld (belq hwq)
    clear hwq
    refine hK.out _ _ ?_ (fun hHeld => ?_)
    · exact hq
    clear hK K
    try simp only [Act.put, List.setIfInBounds_toArray, List.set_cons_zero, List.set_cons_succ]
    refine RegH.consH (i := 5) rfl (by kernel_rfl) (fun K hK => ?_)
    go_simp
    go_at_call 20
    refine (HFI.out _).mono ?_
    rintro e wf ⟨vf, ff, rfl, hof, _, hbf⟩
    obtain ⟨fa, fc, rfl⟩ := Cd.ow_slice (c := Cd.int) hof
    have hq2 := below_then hHeld hbf
    have HOF := Lib.hid (rowC.ow_rd hof)
    clear hof hbf
    refine hK.out _ _ ?_ (fun hHeld => ?_)
    · exact hq2
    clear hK K
    try simp only [Act.put, List.setIfInBounds_toArray, List.set_cons_zero, List.set_cons_succ]
    refine RegH.takeH (i := 6) (v := ?_) rfl (by kernel_rfl) (by kernel_rfl) (by kernel_rfl) (fun _ _ _ h => h) (Or.inl ⟨by rfl, ?_⟩) (by assumption) ?_
    rotate_left
    · (intro wS hSw; (try dsimp only at hSw); skip; go_simp; try (with_reducible rfl))
    try simp only [Act.put, List.setIfInBounds_toArray, List.set_cons_zero, List.set_cons_succ]
    refine wpAnyH_done (by kernel_rfl) ?_ _
    have HB6 := Lib.hid (below_then HB5.out hHeld)
    clear hHeld c0
    go_wp2_with fail
    refine (HDX.out wf _ _ HOF.out HB6.out).mono ?_
    rintro e w7 ⟨rfl, m7, hw7⟩
    have HB7 := Lib.hid (below_then HB6.out (belq hw7))
    have HOF7 := Lib.hid (Cd.later HOF.out (belq hw7))
    clear hw7
    go_wp2_with fail
    refine (HPX.out w7 _ _ HOF7.out HB7.out).mono ?_
    rintro e w8 ⟨rfl, hb8⟩
    have HB8 := Lib.hid (below_then HB7.out hb8)
    clear hb8
    go_wp2_with fail
    go_meet
    exact HB8.out
  case rest =>
  have HBC := Lib.hid (below_then HB1.out hcut)
  have HBC1 := Lib.hid hcut
  clear hcut HPI HST HFM HB2 HB3 HB4 HB5
  generalize wc = A0 at *
  go_wp2_with fail
  refine (HDT.out A0 HBC.out).mono ?_
  rintro e A1 ⟨nm, ar, ut, rows, f1, vt, cols, f2, rfl, hnm, har, ho1, ho2, hcl, hbA⟩
  obtain ⟨ta_, tc, rfl⟩ := rows_slice ho1
  obtain ⟨ca, cc, rfl⟩ := Cd.ow_slice (c := Cd.int) ho2
  have HX1 := Lib.hid (Loc3.of (row_alloc A1 (.cells #[.string nm, .int .i64 ar, .slice ta_ rows.length tc] 34 (0, 0))))
  have hbX := below_alloc A1 (.cells #[.string nm, .int .i64 ar, .slice ta_ rows.length tc] 34 (0, 0))
  have HBA := Lib.hid (below_then HBC.out (below_then hbA hbX))
  have HBA1 := Lib.hid (below_then HBC1.out (below_then hbA hbX))
  have HRW := Lib.hid (Cd.later (rowsC.ow_rd ho1) hbX)
  clear ho1 ho2 hcl hnm har hbA hbX HDT
  go_wp2_with fail
  generalize hA2 : World.alloc A1 _ = A2 at *
  clear hA2
  refine (HFR.out A2 HBA.out).mono ?_
  rintro e A3 ⟨v3, l3, rfl, hof, hb3⟩
  have HBA3 := Lib.hid (below_then HBA1.out hb3)
  have HBW3 := Lib.hid (below_then HBA.out hb3)
  have HX13 := Lib.hid (HX1.out.later hb3)
  have HRW3 := Lib.hid (Cd.later HRW.out hb3)
  have HDU := Lib.hid (draw_deg v3 l3 A3 (own_reads hof))
  obtain ⟨oa, oc, rfl⟩ : ∃ oa oc, v3 = .slice oa l3.length oc := by
    obtain ⟨x, y, h, _⟩ := own_reads hof
    exact ⟨x, y, h⟩
  clear hof hb3 HFR
  go_wp2_with fail
  refine HDU.out.mono ?_
  rintro e A4 ⟨nn, br, uu, qrows, g1, vu, qcols, g2, rfl, hnm, har, ho1, ho2, hcl, hbA⟩
  obtain ⟨ua_, uc, rfl⟩ := rows_slice ho1
  obtain ⟨da, dc, rfl⟩ := Cd.ow_slice (c := Cd.int) ho2
  have HY4 := Lib.hid (Loc3.of (row_alloc A4 (.cells #[.string nn, .int .i64 br, .slice ua_ qrows.length uc] 34 (0, 0))))
  have hbX := below_alloc A4 (.cells #[.string nn, .int .i64 br, .slice ua_ qrows.length uc] 34 (0, 0))
  have HBA4 := Lib.hid (below_then HBA3.out (below_then hbA hbX))
  have HBW4 := Lib.hid (below_then HBW3.out (below_then hbA hbX))
  have HX14 := Lib.hid (HX13.out.later (below_then hbA hbX))
  have HRW4 := Lib.hid (Cd.later HRW3.out (below_then hbA hbX))
  have HQW4 := Lib.hid (Cd.later (rowsC.ow_rd ho1) hbX)
  clear ho1 ho2 hcl hnm har hbA hbX HDU HX1 HRW HX13 HRW3 HBA HBA1 HBA3
  have c0 := HX14.out.c0
  have c1 := HX14.out.c1
  have c2 := HX14.out.c2
  have d0 := HY4.out.c0
  have d1 := HY4.out.c1
  have d2 := HY4.out.c2
  go_wp2_with fail
  generalize hXA : A1.heap.size = p7 at *
  generalize hXB : A4.heap.size = p9 at *
  generalize hA5 : World.alloc A4 _ = A5 at *
  clear hA5 hXA hXB
  have HV1 := Lib.hid (TabSpec.spec_valid nm ar _ rows _ A5 HRW4.out)
  have HV2 := Lib.hid (fun W (hb : Below A5.heap.size A5 W) => TabSpec.spec_valid nn br _ qrows _ W (Cd.later HQW4.out hb))
  refine HV1.out.mono ?_
  rintro e A6 ⟨rfl, hb6⟩
  have HB6 := Lib.hid hb6
  have HY6 := Lib.hid (HY4.out.later hb6)
  clear hb6 d0 d1 d2 c0 c1 c2
  have d0 := HY6.out.c0
  have d1 := HY6.out.c1
  have d2 := HY6.out.c2
  cases hv1 : tabOk nm ar rows
  · have HF := Lib.hid (below_then HBW4.out HB6.out)
    go_wp2_with fail
    go_ret
    exact ⟨rfl, HF.out⟩
  go_wp2_with fail
  refine (HV2.out A6 HB6.out).mono ?_
  rintro e A7 ⟨rfl, hb7⟩
  have HB7 := Lib.hid (below_then HB6.out hb7)
  clear hb7 d0 d1 d2
  cases hv2 : tabOk nn br qrows
  · have HF := Lib.hid (below_then HBW4.out HB7.out)
    go_wp2_with fail
    go_ret
    exact ⟨rfl, HF.out⟩
  have hT1 : TabP nm ar rows := of_decide_eq_true hv1
  have hT2 : TabP nn br qrows := of_decide_eq_true hv2
  have r8 : rows.length ≤ 8 := hT1.2.2.2.1
  have q8 : qrows.length ≤ 8 := hT2.2.2.2.1
  have HG1 := Lib.hid (gc_zero hT1 hT1.2.1)
  have HG2 := Lib.hid (gc_zero hT2 hT2.2.1)
  have HJL := Lib.hid (join_le HG1.out HG2.out)
  have HT1 := Lib.hid (fun i (h : i < rows.length) => row0 hT1 h)
  have HT2 := Lib.hid (fun i (h : i < qrows.length) => row0 hT2 h)
  have HXL := Lib.hid (xsT_len rows [0])
  have HYL := Lib.hid (xsT_len qrows [0])
  have HXA := Lib.hid (fun k (h : k < rows.length) (hx : k < (xsT rows [0]).length) => xsT_at rows h hx)
  have HYA := Lib.hid (fun k (h : k < qrows.length) (hx : k < (xsT qrows [0]).length) => xsT_at qrows h hx)
  have HJB := Lib.hid (fun k => jn_bd (xsT rows [0]) (xsT qrows [0]) k)
  have HDS1 := Lib.hid (fun W (hb : Below A5.heap.size A5 W) x S (hx : rowC.rd W S [x] [0]) => spec_deg nm ar _ x rows [0] _ _ W (Cd.later HRW4.out hb) hx)
  have HDS2 := Lib.hid (fun W (hb : Below A5.heap.size A5 W) x S (hx : rowC.rd W S [x] [0]) => spec_deg nn br _ x qrows [0] _ _ W (Cd.later HQW4.out hb) hx)
  unfold DegAns at HDS1 HDS2
  have HPD := Lib.hid (fun W x y S1 S2 (hx : rowC.rd W S1 [x] (degL nm ar rows [0])) (hy : rowC.rd W S2 [y] (degL nn br qrows [0])) => impl_pair x y _ _ S1 S2 W hx hy)
  clear hT1 hT2 hv1 hv2 HV1 HV2 HG1 HG2 HY6 HB6
  generalize pairL (degL nm ar rows [0]) (degL nn br qrows [0]) = PD at *
  generalize degL nm ar rows [0] = D1 at *
  generalize degL nn br qrows [0] = D2 at *
  generalize xsT rows [0] = X at *
  generalize xsT qrows [0] = Y at *
  have p1 : (rows.length : Int) ≤ 8 := by omega
  have p2 : (qrows.length : Int) ≤ 8 := by omega
  have HWB := Lib.hid (show ∀ W, Below A5.heap.size A5 W → Below w1.heap.size w1 W from fun W h => below_then HBA4.out h)
  have HWF := Lib.hid (show ∀ W, Below A5.heap.size A5 W → Below w.heap.size w W from fun W h => below_then HBW4.out h)
  go_wp2_with fail
  go_loopw [11, 12] (fun s i wr => ∃ k : Nat, k ≤ rows.length ∧ i = .int .i64 (k : Int) ∧ s = .int .i64 (jnL (X.take k) Y) ∧ Below A5.heap.size A5 wr) (fun _ i _ => rows.length - (intOf i).toNat)
  case atStart => exact ⟨0, Nat.zero_le _, rfl, rfl, HB7.out⟩
  case round =>
    obtain ⟨k, hk, rfl, rfl, hb⟩ := hrel
    have HBR := Lib.hid hb
    have k0 : (0 : Int) ≤ (k : Int) := by omega
    have c2 := (HX14.out.later hb).c2
    clear hb
    by_cases hlt : k < rows.length
    · have k1 : (k : Int) < (rows.length : Int) := by omega
      have hkX : k < X.length := by rw [HXL.out]; exact hlt
      have HNX := Lib.hid (jn_next (Y := Y) hkX)
      obtain ⟨j1, j2⟩ := HJB.out k
      obtain ⟨j3, j4⟩ := HJB.out (k + 1)
      rw [HXL.out, HYL.out] at j2 j4
      have j5 : (rows.length : Int) * (qrows.length : Int) ≤ 8 * 8 := Int.mul_le_mul p1 p2 (by omega) (by omega)
      have j6 : jnL (X.take k) Y ≤ 64 := by omega
      have hxk := HXA.out k hlt hkX
      have hr0 := HT1.out k hlt
      rw [sel0 hr0] at hxk
      have HXK := Lib.hid hxk
      have HR0 := Lib.hid hr0
      have HLT := Lib.hid hlt
      clear j2 j3 j4 j5 hxk
      generalize hJ : jnL (X.take k) Y = J at *
      clear hJ
      go_wp2_with fail
      generalize wr = wo at *
      go_loopw [11, 13] (fun s i wr => ∃ t : Nat, t ≤ qrows.length ∧ i = .int .i64 (t : Int) ∧ s = .int .i64 (J + cntI (Y.take t) X[k]) ∧ Below A5.heap.size A5 wr) (fun _ i _ => qrows.length - (intOf i).toNat)
      case atStart => exact ⟨0, Nat.zero_le _, rfl, by simp [cntI, cnt], HBR.out⟩
      case round =>
        obtain ⟨t, ht, rfl, rfl, hb⟩ := hrel
        have HBT := Lib.hid hb
        have t0 : (0 : Int) ≤ (t : Int) := by omega
        have c2 := (HX14.out.later hb).c2
        have d2 := (HY4.out.later hb).c2
        have hcb : 0 ≤ cntI (Y.take t) X[k] ∧ cntI (Y.take t) X[k] ≤ 8 := by
          have h1 := cnt_le (Y.take t) X[k]
          rw [List.length_take, HYL.out] at h1
          unfold cntI
          omega
        obtain ⟨s1, s2⟩ := hcb
        by_cases hlt : t < qrows.length
        · have t1 : (t : Int) < (qrows.length : Int) := by omega
          have htY : t < Y.length := by rw [HYL.out]; exact hlt
          obtain ⟨gb, go, gc, gx, e1, hgb, hgc, hgx⟩ := rows_at (Cd.later HRW4.out hb) HLT.out
          injection e1 with e1 e2 e3
          subst e1 e3
          obtain ⟨zb, zo, zc, zx, e1, hzb, hzc, hzx⟩ := rows_at (Cd.later HQW4.out hb) hlt
          injection e1 with e1 e2 e3
          subst e1 e3
          have hq0 := HT2.out t hlt
          obtain ⟨gb1, go1, gc1, rfl, hgb1, hgc1⟩ := ri_at (row_ri hgx).1 HR0.out
          obtain ⟨zb1, zo1, zc1, rfl, hzb1, hzc1⟩ := ri_at (row_ri hzx).1 hq0
          rw [Nat.add_zero] at hgc1 hzc1
          have hyk := HYA.out t hlt htY
          rw [sel0 hq0] at hyk
          have hcn := cnt_next (v := X[k]) htY
          rw [hyk, HXK.out] at hcn
          have q1 : (0 : Int) < ((rows[k]'HLT.out).length : Int) := by have := HR0.out; omega
          have q2 : (0 : Int) < (qrows[t].length : Int) := by omega
          have HCN := Lib.hid (show cntI (Y.take (t + 1)) X[k] = cntI (Y.take t) X[k] + (if cmpR [qrows[t][0]] [rows[k][0]] = 0 then 1 else 0) from by
            unfold cntI
            rw [HXK.out, hcn]
            split <;> omega)
          clear hb hgx hzx hyk hcn
          generalize cntI (Y.take t) X[k] = cn at *
          generalize (rows[k]'HLT.out)[0] = x0 at *
          generalize qrows[t][0] = y0 at *
          generalize (rows[k]'HLT.out).length = lx at *
          generalize qrows[t].length = ly at *
          have HLQ := Lib.hid hlt
          clear hlt
          go_wp2_with fail
          have hS0 : Below wr.heap.size wr wr.drew := drewB (Below.refl _ _)
          refine wp_region_held_drew (S := fun wx => Below wr.heap.size wr wx) (by kernel_rfl) hS0 (fun hHeld => ?_)
          refine RegH.takeH (i := 0) (v := ?_) rfl (by kernel_rfl) (by kernel_rfl) (by kernel_rfl) (fun _ _ _ h => h) (Or.inl ⟨by rfl, ?_⟩) (by assumption) ?_
          rotate_left
          · (intro wS hSw; (try dsimp only at hSw); skip; go_simp; try (with_reducible rfl))
          try simp only [Act.put, List.setIfInBounds_toArray, List.set_cons_zero, List.set_cons_succ]
          refine RegH.takeH (i := 1) (v := ?_) rfl (by kernel_rfl) (by kernel_rfl) (by kernel_rfl) (fun _ _ _ h => h) (Or.inl ⟨by rfl, ?_⟩) (by assumption) ?_
          rotate_left
          · (intro wS hSw; (try dsimp only at hSw); (have r0 := (Below.cell hSw (p := ⟨p7, 2, none⟩) (World.block_lt_of_cell? _ _ c2)).trans c2); go_simp; try (with_reducible rfl))
          try simp only [Act.put, List.setIfInBounds_toArray, List.set_cons_zero, List.set_cons_succ]
          refine RegH.takeH (i := 2) (v := ?_) rfl (by kernel_rfl) (by kernel_rfl) (by kernel_rfl) (fun _ _ _ h => h) (Or.inl ⟨by rfl, ?_⟩) (by assumption) ?_
          rotate_left
          · (intro wS hSw; (try dsimp only at hSw); skip; go_simp; try (with_reducible rfl))
          try simp only [Act.put, List.setIfInBounds_toArray, List.set_cons_zero, List.set_cons_succ]
          refine RegH.takeH (i := 3) (v := ?_) rfl (by kernel_rfl) (by kernel_rfl) (by kernel_rfl) (fun _ _ _ h => h) (Or.inl ⟨by rfl, ?_⟩) (by assumption) ?_
          rotate_left
          · (intro wS hSw; (try dsimp only at hSw); skip; go_simp; try (with_reducible rfl))
          try simp only [Act.put, List.setIfInBounds_toArray, List.set_cons_zero, List.set_cons_succ]
          refine RegH.takeH (i := 4) (v := ?_) rfl (by kernel_rfl) (by kernel_rfl) (by kernel_rfl) (fun _ _ _ h => h) (Or.inl ⟨by rfl, ?_⟩) (by assumption) ?_
          rotate_left
          · (intro wS hSw; (try dsimp only at hSw); (have r0 := (Below.cell hSw (p := ⟨gb, go + k, none⟩) (World.block_lt_of_cell? _ _ hgc)).trans hgc); go_simp; try (with_reducible rfl))
          try simp only [Act.put, List.setIfInBounds_toArray, List.set_cons_zero, List.set_cons_succ]
          refine RegH.takeH (i := 5) (v := ?_) rfl (by kernel_rfl) (by kernel_rfl) (by kernel_rfl) (fun _ _ _ h => h) (Or.inl ⟨by rfl, ?_⟩) (by assumption) ?_
          rotate_left
          · (intro wS hSw; (try dsimp only at hSw); skip; go_simp; try (with_reducible rfl))
          try simp only [Act.put, List.setIfInBounds_toArray, List.set_cons_zero, List.set_cons_succ]
          refine RegH.takeH (i := 6) (v := ?_) rfl (by kernel_rfl) (by kernel_rfl) (by kernel_rfl) (fun _ _ _ h => h) (Or.inl ⟨by rfl, ?_⟩) (by assumption) ?_
          rotate_left
          · (intro wS hSw; (try dsimp only at hSw); (have r0 := (Below.cell hSw (p := ⟨gb1, go1, none⟩) (World.block_lt_of_cell? _ _ hgc1)).trans hgc1); go_simp; try (with_reducible rfl))
          try simp only [Act.put, List.setIfInBounds_toArray, List.set_cons_zero, List.set_cons_succ]
          refine RegH.takeH (i := 7) (v := ?_) rfl (by kernel_rfl) (by kernel_rfl) (by kernel_rfl) (fun _ _ _ h => h) (Or.inl ⟨by rfl, ?_⟩) (by assumption) ?_
          rotate_left
          · (intro wS hSw; (try dsimp only at hSw); skip; go_simp; try (with_reducible rfl))
          try simp only [Act.put, List.setIfInBounds_toArray, List.set_cons_zero, List.set_cons_succ]
          refine RegH.takeH (i := 8) (v := ?_) rfl (by kernel_rfl) (by kernel_rfl) (by kernel_rfl) (fun _ _ _ h => h) (Or.inl ⟨by rfl, ?_⟩) (by assumption) ?_
          rotate_left
          · (intro wS hSw; (try dsimp only at hSw); (have r0 := (Below.cell hSw (p := ⟨p9, 2, none⟩) (World.block_lt_of_cell? _ _ d2)).trans d2); go_simp; try (with_reducible rfl))
          try simp only [Act.put, List.setIfInBounds_toArray, List.set_cons_zero, List.set_cons_succ]
          refine RegH.takeH (i := 9) (v := ?_) rfl (by kernel_rfl) (by kernel_rfl) (by kernel_rfl) (fun _ _ _ h => h) (Or.inl ⟨by rfl, ?_⟩) (by assumption) ?_
          rotate_left
          · (intro wS hSw; (try dsimp only at hSw); skip; go_simp; try (with_reducible rfl))
          try simp only [Act.put, List.setIfInBounds_toArray, List.set_cons_zero, List.set_cons_succ]
          refine RegH.takeH (i := 10) (v := ?_) rfl (by kernel_rfl) (by kernel_rfl) (by kernel_rfl) (fun _ _ _ h => h) (Or.inl ⟨by rfl, ?_⟩) (by assumption) ?_
          rotate_left
          · (intro wS hSw; (try dsimp only at hSw); skip; go_simp; try (with_reducible rfl))
          try simp only [Act.put, List.setIfInBounds_toArray, List.set_cons_zero, List.set_cons_succ]
          refine RegH.takeH (i := 11) (v := ?_) rfl (by kernel_rfl) (by kernel_rfl) (by kernel_rfl) (fun _ _ _ h => h) (Or.inl ⟨by rfl, ?_⟩) (by assumption) ?_
          rotate_left
          · (intro wS hSw; (try dsimp only at hSw); (have r0 := (Below.cell hSw (p := ⟨zb, zo + t, none⟩) (World.block_lt_of_cell? _ _ hzc)).trans hzc); go_simp; try (with_reducible rfl))
          try simp only [Act.put, List.setIfInBounds_toArray, List.set_cons_zero, List.set_cons_succ]
          refine RegH.takeH (i := 12) (v := ?_) rfl (by kernel_rfl) (by kernel_rfl) (by kernel_rfl) (fun _ _ _ h => h) (Or.inl ⟨by rfl, ?_⟩) (by assumption) ?_
          rotate_left
          · (intro wS hSw; (try dsimp only at hSw); skip; go_simp; try (with_reducible rfl))
          try simp only [Act.put, List.setIfInBounds_toArray, List.set_cons_zero, List.set_cons_succ]
          refine RegH.takeH (i := 13) (v := ?_) rfl (by kernel_rfl) (by kernel_rfl) (by kernel_rfl) (fun _ _ _ h => h) (Or.inl ⟨by rfl, ?_⟩) (by assumption) ?_
          rotate_left
          · (intro wS hSw; (try dsimp only at hSw); (have r0 := (Below.cell hSw (p := ⟨zb1, zo1, none⟩) (World.block_lt_of_cell? _ _ hzc1)).trans hzc1); go_simp; try (with_reducible rfl))
          try simp only [Act.put, List.setIfInBounds_toArray, List.set_cons_zero, List.set_cons_succ]
          refine RegH.takeH (i := 14) (v := ?_) rfl (by kernel_rfl) (by kernel_rfl) (by kernel_rfl) (fun _ _ _ h => h) (Or.inl ⟨by rfl, ?_⟩) (by assumption) ?_
          rotate_left
          · (intro wS hSw; (try dsimp only at hSw); skip; go_simp; try (with_reducible rfl))
          try simp only [Act.put, List.setIfInBounds_toArray, List.set_cons_zero, List.set_cons_succ]
          refine wpAnyH_done (by kernel_rfl) ?_ _
          have HBZ := Lib.hid (drewB HBT.out)
          clear hHeld
          by_cases hxy : x0 = y0
          · have HC2 := Lib.hid (show cntI (Y.take (t + 1)) X[k] = cn + 1 from by rw [HCN.out, hxy, if_pos (cmpR_self _)])
            subst hxy
            go_wp2_with fail
            go_roundw
            case rel => exact ⟨t + 1, HLQ.out, by go_num, by rw [HC2.out, Int.add_assoc], HBZ.out⟩
            case measure => have := HLQ.out; simp [intOf]; omega
          · have HC2 := Lib.hid (show cntI (Y.take (t + 1)) X[k] = cn from by
              rw [HCN.out, if_neg (fun q => hxy (by have := cmpR_eq q; injection this with h _; exact h.symm))]
              omega)
            go_wp2_with fail
            go_roundw
            case rel => exact ⟨t + 1, HLQ.out, by go_num, by rw [HC2.out], HBZ.out⟩
            case measure => have := HLQ.out; simp [intOf]; omega
        · have et : t = qrows.length := by omega
          subst et
          have HZ := Lib.hid (show jnL (X.take (k + 1)) Y = J + cntI (Y.take qrows.length) X[k] from by rw [HNX.out, List.take_of_length_le (by rw [HYL.out]; exact Nat.le_refl _)])
          clear hb
          generalize cntI (Y.take qrows.length) X[k] = cn at *
          go_wp2_with fail
          go_roundw
          case rel => exact ⟨k + 1, HLT.out, by go_num, by rw [HZ.out], HBT.out⟩
          case measure => have := HLT.out; simp [intOf]; omega
    · have ek : k = rows.length := by omega
      subst ek
      have hJP : jnL (X.take rows.length) Y ≤ PD := by
        rw [List.take_of_length_le (by rw [HXL.out]; exact Nat.le_refl _)]
        exact HJL.out
      generalize jnL (X.take rows.length) Y = J at *
      go_wp2_with fail
      refine (HDR.out wr (HWF.out _ HBR.out)).mono ?_
      rintro e B1 ⟨x, kk, rfl, hb1⟩
      have HC1 := Lib.hid (below_then HBR.out hb1)
      have HRI := Lib.hid (fun W => impl_root x kk W)
      have HRS := Lib.hid (fun W => spec_root x kk W)
      clear hb1 HDR
      generalize rootI x kk = RT at *
      go_wp2_with fail
      refine (HRI.out B1).mono ?_
      rintro e B2 ⟨rfl, hb2⟩
      have HC2 := Lib.hid (below_then HC1.out hb2)
      clear hb2 c2
      go_upto_region 26 with fail
      have hS0 : Below B2.heap.size B2 B2.drew := drewB (Below.refl _ _)
      have c0 := (HX14.out.later HC2.out).c0
      have c1 := (HX14.out.later HC2.out).c1
      have c2 := (HX14.out.later HC2.out).c2
      have d0 := (HY4.out.later HC2.out).c0
      have d1 := (HY4.out.later HC2.out).c1
      have d2 := (HY4.out.later HC2.out).c2
      refine wp_region_held_drew (S := fun wx => Below B2.heap.size B2 wx) (by kernel_rfl) hS0 (fun hHeld => ?_)
      refine RegH.takeH (i := 0) (v := ?_) rfl (by kernel_rfl) (by kernel_rfl) (by kernel_rfl) (fun _ _ _ h => h) (Or.inl ⟨by rfl, ?_⟩) (by assumption) ?_
      rotate_left
      · (intro wS hSw; (try dsimp only at hSw); skip; go_simp; try (with_reducible rfl))
      try simp only [Act.put, List.setIfInBounds_toArray, List.set_cons_zero, List.set_cons_succ]
      refine RegH.takeH (i := 1) (v := ?_) rfl (by kernel_rfl) (by kernel_rfl) (by kernel_rfl) (fun _ _ _ h => h) (Or.inl ⟨by rfl, ?_⟩) (by assumption) ?_
      rotate_left
      · (intro wS hSw; (try dsimp only at hSw); (have r0 := (Below.cell hSw (p := ⟨p7, 0, none⟩) (World.block_lt_of_cell? _ _ c0)).trans c0); (have r1 := (Below.cell hSw (p := ⟨p7, 1, none⟩) (World.block_lt_of_cell? _ _ c1)).trans c1); (have r2 := (Below.cell hSw (p := ⟨p7, 2, none⟩) (World.block_lt_of_cell? _ _ c2)).trans c2); go_simp; try (with_reducible rfl))
      try simp only [Act.put, List.setIfInBounds_toArray, List.set_cons_zero, List.set_cons_succ]
      refine RegH.takeH (i := 4) (v := ?_) rfl (by kernel_rfl) (by kernel_rfl) (by kernel_rfl) (fun _ _ _ h => h) (Or.inl ⟨by rfl, ?_⟩) (by assumption) ?_
      rotate_left
      · (intro wS hSw; (try dsimp only at hSw); (have r0 := (Below.cell hSw (p := ⟨p9, 0, none⟩) (World.block_lt_of_cell? _ _ d0)).trans d0); (have r1 := (Below.cell hSw (p := ⟨p9, 1, none⟩) (World.block_lt_of_cell? _ _ d1)).trans d1); (have r2 := (Below.cell hSw (p := ⟨p9, 2, none⟩) (World.block_lt_of_cell? _ _ d2)).trans d2); go_simp; try (with_reducible rfl))
      try simp only [Act.put, List.setIfInBounds_toArray, List.set_cons_zero, List.set_cons_succ]
      refine RegH.consH2 (i := 2) (j := 5) rfl rfl (by kernel_rfl) (fun K hK => ?_) (fun K hK => ?_)
      · skip
        go_simp
        have kb1 : Below B2.heap.size B2 ((B2.alloc (.cells #[.int .i64 0] 3)).drew) := drewB (below_alloc B2 _)
        have LT2 := Lib.hid (show rowC.rd ((B2.alloc (.cells #[.int .i64 0] 3)).drew) (fun _ => True) [.slice (some ⟨B2.heap.size, 0, none⟩) 1 1] [0] from lit0 B2)
        generalize ((B2.alloc (.cells #[.int .i64 0] 3)).drew) = wk3 at *
        refine hK.out _ _ ?_ (fun hHeld => ?_)
        · exact kb1
        clear hK K
        try simp only [Act.put, List.setIfInBounds_toArray, List.set_cons_zero, List.set_cons_succ]
        refine RegH.consH2 (i := 3) (j := 5) rfl rfl (by kernel_rfl) (fun K hK => ?_) (fun K hK => ?_)
        · skip
          go_simp
          go_at_call 28
          refine (HDS1.out _ (below_then HC2.out kb1) _ _ LT2.out).mono ?_
          rintro e wq4 ⟨u6, u6_f, rfl, ho_, _, hb_⟩
          obtain ⟨u6_a, u6_c, rfl⟩ := Cd.ow_slice (c := Cd.int) ho_
          have kb5 : Below B2.heap.size B2 wq4 := below_then kb1 hb_
          have LT7 := Lib.hid (Cd.later LT2.out hb_)
          have LT8 := Lib.hid (rowC.ow_rd ho_)
          clear ho_ hb_
          refine hK.out _ _ ?_ (fun hHeld => ?_)
          · exact kb5
          clear hK K
          try simp only [Act.put, List.setIfInBounds_toArray, List.set_cons_zero, List.set_cons_succ]
          refine RegH.consH (i := 5) rfl (by kernel_rfl) (fun K hK => ?_)
          go_simp
          have kb9 : Below B2.heap.size B2 (wq4.alloc (.cells #[.int .i64 0] 3)) := below_then kb5 (below_alloc _ _)
          have LT10 := Lib.hid (show rowC.rd (wq4.alloc (.cells #[.int .i64 0] 3)) (fun _ => True) [.slice (some ⟨wq4.heap.size, 0, none⟩) 1 1] [0] from lit0 wq4)
          have LT11 := Lib.hid (Cd.later LT7.out (below_alloc wq4 (.cells #[.int .i64 0] 3)))
          have LT12 := Lib.hid (Cd.later LT8.out (below_alloc wq4 (.cells #[.int .i64 0] 3)))
          generalize (wq4.alloc (.cells #[.int .i64 0] 3)) = wk13 at *
          refine hK.out _ _ ?_ (fun hHeld => ?_)
          · exact kb9
          clear hK K
          try simp only [Act.put, List.setIfInBounds_toArray, List.set_cons_zero, List.set_cons_succ]
          refine RegH.consH (i := 6) rfl (by kernel_rfl) (fun K hK => ?_)
          go_simp
          go_at_call 28
          refine (HDS2.out _ (below_then HC2.out kb9) _ _ LT10.out).mono ?_
          rintro e wq14 ⟨u16, u16_f, rfl, ho_, _, hb_⟩
          obtain ⟨u16_a, u16_c, rfl⟩ := Cd.ow_slice (c := Cd.int) ho_
          have kb15 : Below B2.heap.size B2 wq14 := below_then kb9 hb_
          have LT17 := Lib.hid (Cd.later LT11.out hb_)
          have LT18 := Lib.hid (Cd.later LT12.out hb_)
          have LT19 := Lib.hid (Cd.later LT10.out hb_)
          have LT20 := Lib.hid (rowC.ow_rd ho_)
          clear ho_ hb_
          refine hK.out _ _ ?_ (fun hHeld => ?_)
          · exact kb15
          clear hK K
          try simp only [Act.put, List.setIfInBounds_toArray, List.set_cons_zero, List.set_cons_succ]
          refine RegH.consH (i := 7) rfl (by kernel_rfl) (fun K hK => ?_)
          go_simp
          go_at_call 15
          refine (HPD.out _ _ _ _ _ LT18.out LT20.out).mono ?_
          rintro e z1 ⟨rfl, hb_⟩
          have z1b : Below B2.heap.size B2 z1 := below_then kb15 hb_
          clear hb_
          refine hK.out _ _ ?_ (fun hHeld => ?_)
          · exact z1b
          clear hK K
          try simp only [Act.put, List.setIfInBounds_toArray, List.set_cons_zero, List.set_cons_succ]
          refine RegH.takeH (i := 8) (v := ?_) rfl (by kernel_rfl) (by kernel_rfl) (by kernel_rfl) (fun _ _ _ h => h) (Or.inl ⟨by rfl, ?_⟩) (by assumption) ?_
          rotate_left
          · (intro wS hSw; (try dsimp only at hSw); skip; go_simp; try (with_reducible rfl))
          try simp only [Act.put, List.setIfInBounds_toArray, List.set_cons_zero, List.set_cons_succ]
          refine RegH.takeH (i := 9) (v := ?_) rfl (by kernel_rfl) (by kernel_rfl) (by kernel_rfl) (fun _ _ _ h => h) (Or.inl ⟨by rfl, ?_⟩) (by assumption) ?_
          rotate_left
          · (intro wS hSw; (try dsimp only at hSw); skip; go_simp; try (with_reducible rfl))
          try simp only [Act.put, List.setIfInBounds_toArray, List.set_cons_zero, List.set_cons_succ]
          refine RegH.takeH (i := 10) (v := ?_) rfl (by kernel_rfl) (by kernel_rfl) (by kernel_rfl) (fun _ _ _ h => h) (Or.inl ⟨by rfl, ?_⟩) (by assumption) ?_
          rotate_left
          · (intro wS hSw; (try dsimp only at hSw); skip; go_simp; try (with_reducible rfl))
          try simp only [Act.put, List.setIfInBounds_toArray, List.set_cons_zero, List.set_cons_succ]
          refine RegH.takeH (i := 11) (v := ?_) rfl (by kernel_rfl) (by kernel_rfl) (by kernel_rfl) (fun _ _ _ h => h) (Or.inl ⟨by rfl, ?_⟩) (by assumption) ?_
          rotate_left
          · (intro wS hSw; (try dsimp only at hSw); skip; go_simp; try (with_reducible rfl))
          try simp only [Act.put, List.setIfInBounds_toArray, List.set_cons_zero, List.set_cons_succ]
          refine RegH.takeH (i := 12) (v := ?_) rfl (by kernel_rfl) (by kernel_rfl) (by kernel_rfl) (fun _ _ _ h => h) (Or.inl ⟨by rfl, ?_⟩) (by assumption) ?_
          rotate_left
          · (intro wS hSw; (try dsimp only at hSw); skip; go_simp; try (with_reducible rfl))
          try simp only [Act.put, List.setIfInBounds_toArray, List.set_cons_zero, List.set_cons_succ]
          refine RegH.consH (i := 13) rfl (by kernel_rfl) (fun K hK => ?_)
          go_simp
          go_at_call 29
          refine (HRS.out _).mono ?_
          rintro e z2 ⟨rfl, rfl⟩
          refine hK.out _ _ ?_ (fun hHeld => ?_)
          · exact z1b
          clear hK K
          try simp only [Act.put, List.setIfInBounds_toArray, List.set_cons_zero, List.set_cons_succ]
          refine RegH.takeH (i := 14) (v := ?_) rfl (by kernel_rfl) (by kernel_rfl) (by kernel_rfl) (fun _ _ _ h => h) (Or.inl ⟨by rfl, ?_⟩) (by assumption) ?_
          rotate_left
          · (intro wS hSw; (try dsimp only at hSw); skip; go_simp; try (with_reducible rfl))
          try simp only [Act.put, List.setIfInBounds_toArray, List.set_cons_zero, List.set_cons_succ]
          refine RegH.takeH (i := 15) (v := ?_) rfl (by kernel_rfl) (by kernel_rfl) (by kernel_rfl) (fun _ _ _ h => h) (Or.inl ⟨by rfl, ?_⟩) (by assumption) ?_
          rotate_left
          · (intro wS hSw; (try dsimp only at hSw); skip; go_simp; try (with_reducible rfl))
          try simp only [Act.put, List.setIfInBounds_toArray, List.set_cons_zero, List.set_cons_succ]
          refine RegH.takeH (i := 16) (v := ?_) rfl (by kernel_rfl) (by kernel_rfl) (by kernel_rfl) (fun _ _ _ h => h) (Or.inl ⟨by rfl, ?_⟩) (by assumption) ?_
          rotate_left
          · (intro wS hSw; (try dsimp only at hSw); skip; go_simp; try (with_reducible rfl))
          try simp only [Act.put, List.setIfInBounds_toArray, List.set_cons_zero, List.set_cons_succ]
          refine RegH.takeH (i := 17) (v := ?_) rfl (by kernel_rfl) (by kernel_rfl) (by kernel_rfl) (fun _ _ _ h => h) (Or.inl ⟨by rfl, ?_⟩) (by assumption) ?_
          rotate_left
          · (intro wS hSw; (try dsimp only at hSw); skip; go_simp; try (with_reducible rfl))
          try simp only [Act.put, List.setIfInBounds_toArray, List.set_cons_zero, List.set_cons_succ]
          refine RegH.takeH (i := 19) (v := ?_) rfl (by kernel_rfl) (by kernel_rfl) (by kernel_rfl) (fun _ _ _ h => h) (Or.inl ⟨by rfl, ?_⟩) (by assumption) ?_
          rotate_left
          · (intro wS hSw; (try dsimp only at hSw); skip; go_simp; try (with_reducible rfl))
          try simp only [Act.put, List.setIfInBounds_toArray, List.set_cons_zero, List.set_cons_succ]
          refine RegH.consH (i := 18) rfl (by kernel_rfl) (fun K hK => ?_)
          go_simp
          go_at_call 30
          refine (HNP.out _ (HWB.out _ (below_then HC2.out z1b))).mono ?_
          rintro e z3 ⟨rfl, hb_⟩
          have z3b : Below B2.heap.size B2 z3 := below_then z1b hb_
          clear hb_
          refine hK.out _ _ ?_ (fun hHeld => ?_)
          · exact z3b
          clear hK K
          try simp only [Act.put, List.setIfInBounds_toArray, List.set_cons_zero, List.set_cons_succ]
          refine RegH.consH (i := 20) rfl (by kernel_rfl) (fun K hK => ?_)
          go_simp
          go_at_call 31
          refine (HTI.out _ (HWB.out _ (below_then HC2.out z3b))).mono ?_
          rintro e z4 ⟨rfl, rfl⟩
          refine hK.out _ _ ?_ (fun hHeld => ?_)
          · exact z3b
          clear hK K
          try simp only [Act.put, List.setIfInBounds_toArray, List.set_cons_zero, List.set_cons_succ]
          refine RegH.takeH (i := 21) (v := ?_) rfl (by kernel_rfl) (by kernel_rfl) (by kernel_rfl) (fun _ _ _ h => h) (Or.inl ⟨by rfl, ?_⟩) (by assumption) ?_
          rotate_left
          · (intro wS hSw; (try dsimp only at hSw); skip; go_simp; try (with_reducible rfl))
          try simp only [Act.put, List.setIfInBounds_toArray, List.set_cons_zero, List.set_cons_succ]
          refine RegH.takeH (i := 22) (v := ?_) rfl (by kernel_rfl) (by kernel_rfl) (by kernel_rfl) (fun _ _ _ h => h) (Or.inl ⟨by rfl, ?_⟩) (by assumption) ?_
          rotate_left
          · (intro wS hSw; (try dsimp only at hSw); skip; go_simp; try (with_reducible rfl))
          try simp only [Act.put, List.setIfInBounds_toArray, List.set_cons_zero, List.set_cons_succ]
          refine RegH.takeH (i := 23) (v := ?_) rfl (by kernel_rfl) (by kernel_rfl) (by kernel_rfl) (fun _ _ _ h => h) (Or.inl ⟨by rfl, ?_⟩) (by assumption) ?_
          rotate_left
          · (intro wS hSw; (try dsimp only at hSw); skip; go_simp; try (with_reducible rfl))
          try simp only [Act.put, List.setIfInBounds_toArray, List.set_cons_zero, List.set_cons_succ]
          refine wpAnyH_done (by kernel_rfl) ?_ _
          have HFN := Lib.hid (HWF.out _ (below_then HC2.out z3b))
          go_wp2_with fail
          go_ret
          exact ⟨rfl, HFN.out⟩
        · skip
          go_simp
          have kb21 : Below B2.heap.size B2 (wk3.alloc (.cells #[.int .i64 0] 3)) := below_then kb1 (below_alloc _ _)
          have LT22 := Lib.hid (show rowC.rd (wk3.alloc (.cells #[.int .i64 0] 3)) (fun _ => True) [.slice (some ⟨wk3.heap.size, 0, none⟩) 1 1] [0] from lit0 wk3)
          have LT23 := Lib.hid (Cd.later LT2.out (below_alloc wk3 (.cells #[.int .i64 0] 3)))
          generalize (wk3.alloc (.cells #[.int .i64 0] 3)) = wk24 at *
          refine hK.out _ _ ?_ (fun hHeld => ?_)
          · exact kb21
          clear hK K
          try simp only [Act.put, List.setIfInBounds_toArray, List.set_cons_zero, List.set_cons_succ]
          refine RegH.consH (i := 3) rfl (by kernel_rfl) (fun K hK => ?_)
          go_simp
          go_at_call 28
          refine (HDS1.out _ (below_then HC2.out kb21) _ _ LT23.out).mono ?_
          rintro e wq25 ⟨u27, u27_f, rfl, ho_, _, hb_⟩
          obtain ⟨u27_a, u27_c, rfl⟩ := Cd.ow_slice (c := Cd.int) ho_
          have kb26 : Below B2.heap.size B2 wq25 := below_then kb21 hb_
          have LT28 := Lib.hid (Cd.later LT23.out hb_)
          have LT29 := Lib.hid (Cd.later LT22.out hb_)
          have LT30 := Lib.hid (rowC.ow_rd ho_)
          clear ho_ hb_
          refine hK.out _ _ ?_ (fun hHeld => ?_)
          · exact kb26
          clear hK K
          try simp only [Act.put, List.setIfInBounds_toArray, List.set_cons_zero, List.set_cons_succ]
          refine RegH.consH (i := 6) rfl (by kernel_rfl) (fun K hK => ?_)
          go_simp
          go_at_call 28
          refine (HDS2.out _ (below_then HC2.out kb26) _ _ LT29.out).mono ?_
          rintro e wq31 ⟨u33, u33_f, rfl, ho_, _, hb_⟩
          obtain ⟨u33_a, u33_c, rfl⟩ := Cd.ow_slice (c := Cd.int) ho_
          have kb32 : Below B2.heap.size B2 wq31 := below_then kb26 hb_
          have LT34 := Lib.hid (Cd.later LT28.out hb_)
          have LT35 := Lib.hid (Cd.later LT29.out hb_)
          have LT36 := Lib.hid (Cd.later LT30.out hb_)
          have LT37 := Lib.hid (rowC.ow_rd ho_)
          clear ho_ hb_
          refine hK.out _ _ ?_ (fun hHeld => ?_)
          · exact kb32
          clear hK K
          try simp only [Act.put, List.setIfInBounds_toArray, List.set_cons_zero, List.set_cons_succ]
          refine RegH.consH (i := 7) rfl (by kernel_rfl) (fun K hK => ?_)
          go_simp
          go_at_call 15
          refine (HPD.out _ _ _ _ _ LT36.out LT37.out).mono ?_
          rintro e z1 ⟨rfl, hb_⟩
          have z1b : Below B2.heap.size B2 z1 := below_then kb32 hb_
          clear hb_
          refine hK.out _ _ ?_ (fun hHeld => ?_)
          · exact z1b
          clear hK K
          try simp only [Act.put, List.setIfInBounds_toArray, List.set_cons_zero, List.set_cons_succ]
          refine RegH.takeH (i := 8) (v := ?_) rfl (by kernel_rfl) (by kernel_rfl) (by kernel_rfl) (fun _ _ _ h => h) (Or.inl ⟨by rfl, ?_⟩) (by assumption) ?_
          rotate_left
          · (intro wS hSw; (try dsimp only at hSw); skip; go_simp; try (with_reducible rfl))
          try simp only [Act.put, List.setIfInBounds_toArray, List.set_cons_zero, List.set_cons_succ]
          refine RegH.takeH (i := 9) (v := ?_) rfl (by kernel_rfl) (by kernel_rfl) (by kernel_rfl) (fun _ _ _ h => h) (Or.inl ⟨by rfl, ?_⟩) (by assumption) ?_
          rotate_left
          · (intro wS hSw; (try dsimp only at hSw); skip; go_simp; try (with_reducible rfl))
          try simp only [Act.put, List.setIfInBounds_toArray, List.set_cons_zero, List.set_cons_succ]
          refine RegH.takeH (i := 10) (v := ?_) rfl (by kernel_rfl) (by kernel_rfl) (by kernel_rfl) (fun _ _ _ h => h) (Or.inl ⟨by rfl, ?_⟩) (by assumption) ?_
          rotate_left
          · (intro wS hSw; (try dsimp only at hSw); skip; go_simp; try (with_reducible rfl))
          try simp only [Act.put, List.setIfInBounds_toArray, List.set_cons_zero, List.set_cons_succ]
          refine RegH.takeH (i := 11) (v := ?_) rfl (by kernel_rfl) (by kernel_rfl) (by kernel_rfl) (fun _ _ _ h => h) (Or.inl ⟨by rfl, ?_⟩) (by assumption) ?_
          rotate_left
          · (intro wS hSw; (try dsimp only at hSw); skip; go_simp; try (with_reducible rfl))
          try simp only [Act.put, List.setIfInBounds_toArray, List.set_cons_zero, List.set_cons_succ]
          refine RegH.takeH (i := 12) (v := ?_) rfl (by kernel_rfl) (by kernel_rfl) (by kernel_rfl) (fun _ _ _ h => h) (Or.inl ⟨by rfl, ?_⟩) (by assumption) ?_
          rotate_left
          · (intro wS hSw; (try dsimp only at hSw); skip; go_simp; try (with_reducible rfl))
          try simp only [Act.put, List.setIfInBounds_toArray, List.set_cons_zero, List.set_cons_succ]
          refine RegH.consH (i := 13) rfl (by kernel_rfl) (fun K hK => ?_)
          go_simp
          go_at_call 29
          refine (HRS.out _).mono ?_
          rintro e z2 ⟨rfl, rfl⟩
          refine hK.out _ _ ?_ (fun hHeld => ?_)
          · exact z1b
          clear hK K
          try simp only [Act.put, List.setIfInBounds_toArray, List.set_cons_zero, List.set_cons_succ]
          refine RegH.takeH (i := 14) (v := ?_) rfl (by kernel_rfl) (by kernel_rfl) (by kernel_rfl) (fun _ _ _ h => h) (Or.inl ⟨by rfl, ?_⟩) (by assumption) ?_
          rotate_left
          · (intro wS hSw; (try dsimp only at hSw); skip; go_simp; try (with_reducible rfl))
          try simp only [Act.put, List.setIfInBounds_toArray, List.set_cons_zero, List.set_cons_succ]
          refine RegH.takeH (i := 15) (v := ?_) rfl (by kernel_rfl) (by kernel_rfl) (by kernel_rfl) (fun _ _ _ h => h) (Or.inl ⟨by rfl, ?_⟩) (by assumption) ?_
          rotate_left
          · (intro wS hSw; (try dsimp only at hSw); skip; go_simp; try (with_reducible rfl))
          try simp only [Act.put, List.setIfInBounds_toArray, List.set_cons_zero, List.set_cons_succ]
          refine RegH.takeH (i := 16) (v := ?_) rfl (by kernel_rfl) (by kernel_rfl) (by kernel_rfl) (fun _ _ _ h => h) (Or.inl ⟨by rfl, ?_⟩) (by assumption) ?_
          rotate_left
          · (intro wS hSw; (try dsimp only at hSw); skip; go_simp; try (with_reducible rfl))
          try simp only [Act.put, List.setIfInBounds_toArray, List.set_cons_zero, List.set_cons_succ]
          refine RegH.takeH (i := 17) (v := ?_) rfl (by kernel_rfl) (by kernel_rfl) (by kernel_rfl) (fun _ _ _ h => h) (Or.inl ⟨by rfl, ?_⟩) (by assumption) ?_
          rotate_left
          · (intro wS hSw; (try dsimp only at hSw); skip; go_simp; try (with_reducible rfl))
          try simp only [Act.put, List.setIfInBounds_toArray, List.set_cons_zero, List.set_cons_succ]
          refine RegH.takeH (i := 19) (v := ?_) rfl (by kernel_rfl) (by kernel_rfl) (by kernel_rfl) (fun _ _ _ h => h) (Or.inl ⟨by rfl, ?_⟩) (by assumption) ?_
          rotate_left
          · (intro wS hSw; (try dsimp only at hSw); skip; go_simp; try (with_reducible rfl))
          try simp only [Act.put, List.setIfInBounds_toArray, List.set_cons_zero, List.set_cons_succ]
          refine RegH.consH (i := 18) rfl (by kernel_rfl) (fun K hK => ?_)
          go_simp
          go_at_call 30
          refine (HNP.out _ (HWB.out _ (below_then HC2.out z1b))).mono ?_
          rintro e z3 ⟨rfl, hb_⟩
          have z3b : Below B2.heap.size B2 z3 := below_then z1b hb_
          clear hb_
          refine hK.out _ _ ?_ (fun hHeld => ?_)
          · exact z3b
          clear hK K
          try simp only [Act.put, List.setIfInBounds_toArray, List.set_cons_zero, List.set_cons_succ]
          refine RegH.consH (i := 20) rfl (by kernel_rfl) (fun K hK => ?_)
          go_simp
          go_at_call 31
          refine (HTI.out _ (HWB.out _ (below_then HC2.out z3b))).mono ?_
          rintro e z4 ⟨rfl, rfl⟩
          refine hK.out _ _ ?_ (fun hHeld => ?_)
          · exact z3b
          clear hK K
          try simp only [Act.put, List.setIfInBounds_toArray, List.set_cons_zero, List.set_cons_succ]
          refine RegH.takeH (i := 21) (v := ?_) rfl (by kernel_rfl) (by kernel_rfl) (by kernel_rfl) (fun _ _ _ h => h) (Or.inl ⟨by rfl, ?_⟩) (by assumption) ?_
          rotate_left
          · (intro wS hSw; (try dsimp only at hSw); skip; go_simp; try (with_reducible rfl))
          try simp only [Act.put, List.setIfInBounds_toArray, List.set_cons_zero, List.set_cons_succ]
          refine RegH.takeH (i := 22) (v := ?_) rfl (by kernel_rfl) (by kernel_rfl) (by kernel_rfl) (fun _ _ _ h => h) (Or.inl ⟨by rfl, ?_⟩) (by assumption) ?_
          rotate_left
          · (intro wS hSw; (try dsimp only at hSw); skip; go_simp; try (with_reducible rfl))
          try simp only [Act.put, List.setIfInBounds_toArray, List.set_cons_zero, List.set_cons_succ]
          refine RegH.takeH (i := 23) (v := ?_) rfl (by kernel_rfl) (by kernel_rfl) (by kernel_rfl) (fun _ _ _ h => h) (Or.inl ⟨by rfl, ?_⟩) (by assumption) ?_
          rotate_left
          · (intro wS hSw; (try dsimp only at hSw); skip; go_simp; try (with_reducible rfl))
          try simp only [Act.put, List.setIfInBounds_toArray, List.set_cons_zero, List.set_cons_succ]
          refine wpAnyH_done (by kernel_rfl) ?_ _
          have HFN := Lib.hid (HWF.out _ (below_then HC2.out z3b))
          go_wp2_with fail
          go_ret
          exact ⟨rfl, HFN.out⟩
      · skip
        go_simp
        have kb38 : Below B2.heap.size B2 ((B2.alloc (.cells #[.int .i64 0] 3)).drew) := drewB (below_alloc B2 _)
        have LT39 := Lib.hid (show rowC.rd ((B2.alloc (.cells #[.int .i64 0] 3)).drew) (fun _ => True) [.slice (some ⟨B2.heap.size, 0, none⟩) 1 1] [0] from lit0 B2)
        generalize ((B2.alloc (.cells #[.int .i64 0] 3)).drew) = wk40 at *
        refine hK.out _ _ ?_ (fun hHeld => ?_)
        · exact kb38
        clear hK K
        try simp only [Act.put, List.setIfInBounds_toArray, List.set_cons_zero, List.set_cons_succ]
        refine RegH.consH (i := 2) rfl (by kernel_rfl) (fun K hK => ?_)
        go_simp
        have kb41 : Below B2.heap.size B2 (wk40.alloc (.cells #[.int .i64 0] 3)) := below_then kb38 (below_alloc _ _)
        have LT42 := Lib.hid (show rowC.rd (wk40.alloc (.cells #[.int .i64 0] 3)) (fun _ => True) [.slice (some ⟨wk40.heap.size, 0, none⟩) 1 1] [0] from lit0 wk40)
        have LT43 := Lib.hid (Cd.later LT39.out (below_alloc wk40 (.cells #[.int .i64 0] 3)))
        generalize (wk40.alloc (.cells #[.int .i64 0] 3)) = wk44 at *
        refine hK.out _ _ ?_ (fun hHeld => ?_)
        · exact kb41
        clear hK K
        try simp only [Act.put, List.setIfInBounds_toArray, List.set_cons_zero, List.set_cons_succ]
        refine RegH.consH (i := 3) rfl (by kernel_rfl) (fun K hK => ?_)
        go_simp
        go_at_call 28
        refine (HDS1.out _ (below_then HC2.out kb41) _ _ LT42.out).mono ?_
        rintro e wq45 ⟨u47, u47_f, rfl, ho_, _, hb_⟩
        obtain ⟨u47_a, u47_c, rfl⟩ := Cd.ow_slice (c := Cd.int) ho_
        have kb46 : Below B2.heap.size B2 wq45 := below_then kb41 hb_
        have LT48 := Lib.hid (Cd.later LT43.out hb_)
        have LT49 := Lib.hid (Cd.later LT42.out hb_)
        have LT50 := Lib.hid (rowC.ow_rd ho_)
        clear ho_ hb_
        refine hK.out _ _ ?_ (fun hHeld => ?_)
        · exact kb46
        clear hK K
        try simp only [Act.put, List.setIfInBounds_toArray, List.set_cons_zero, List.set_cons_succ]
        refine RegH.consH (i := 6) rfl (by kernel_rfl) (fun K hK => ?_)
        go_simp
        go_at_call 28
        refine (HDS2.out _ (below_then HC2.out kb46) _ _ LT48.out).mono ?_
        rintro e wq51 ⟨u53, u53_f, rfl, ho_, _, hb_⟩
        obtain ⟨u53_a, u53_c, rfl⟩ := Cd.ow_slice (c := Cd.int) ho_
        have kb52 : Below B2.heap.size B2 wq51 := below_then kb46 hb_
        have LT54 := Lib.hid (Cd.later LT48.out hb_)
        have LT55 := Lib.hid (Cd.later LT49.out hb_)
        have LT56 := Lib.hid (Cd.later LT50.out hb_)
        have LT57 := Lib.hid (rowC.ow_rd ho_)
        clear ho_ hb_
        refine hK.out _ _ ?_ (fun hHeld => ?_)
        · exact kb52
        clear hK K
        try simp only [Act.put, List.setIfInBounds_toArray, List.set_cons_zero, List.set_cons_succ]
        refine RegH.consH (i := 7) rfl (by kernel_rfl) (fun K hK => ?_)
        go_simp
        go_at_call 15
        refine (HPD.out _ _ _ _ _ LT56.out LT57.out).mono ?_
        rintro e z1 ⟨rfl, hb_⟩
        have z1b : Below B2.heap.size B2 z1 := below_then kb52 hb_
        clear hb_
        refine hK.out _ _ ?_ (fun hHeld => ?_)
        · exact z1b
        clear hK K
        try simp only [Act.put, List.setIfInBounds_toArray, List.set_cons_zero, List.set_cons_succ]
        refine RegH.takeH (i := 8) (v := ?_) rfl (by kernel_rfl) (by kernel_rfl) (by kernel_rfl) (fun _ _ _ h => h) (Or.inl ⟨by rfl, ?_⟩) (by assumption) ?_
        rotate_left
        · (intro wS hSw; (try dsimp only at hSw); skip; go_simp; try (with_reducible rfl))
        try simp only [Act.put, List.setIfInBounds_toArray, List.set_cons_zero, List.set_cons_succ]
        refine RegH.takeH (i := 9) (v := ?_) rfl (by kernel_rfl) (by kernel_rfl) (by kernel_rfl) (fun _ _ _ h => h) (Or.inl ⟨by rfl, ?_⟩) (by assumption) ?_
        rotate_left
        · (intro wS hSw; (try dsimp only at hSw); skip; go_simp; try (with_reducible rfl))
        try simp only [Act.put, List.setIfInBounds_toArray, List.set_cons_zero, List.set_cons_succ]
        refine RegH.takeH (i := 10) (v := ?_) rfl (by kernel_rfl) (by kernel_rfl) (by kernel_rfl) (fun _ _ _ h => h) (Or.inl ⟨by rfl, ?_⟩) (by assumption) ?_
        rotate_left
        · (intro wS hSw; (try dsimp only at hSw); skip; go_simp; try (with_reducible rfl))
        try simp only [Act.put, List.setIfInBounds_toArray, List.set_cons_zero, List.set_cons_succ]
        refine RegH.takeH (i := 11) (v := ?_) rfl (by kernel_rfl) (by kernel_rfl) (by kernel_rfl) (fun _ _ _ h => h) (Or.inl ⟨by rfl, ?_⟩) (by assumption) ?_
        rotate_left
        · (intro wS hSw; (try dsimp only at hSw); skip; go_simp; try (with_reducible rfl))
        try simp only [Act.put, List.setIfInBounds_toArray, List.set_cons_zero, List.set_cons_succ]
        refine RegH.takeH (i := 12) (v := ?_) rfl (by kernel_rfl) (by kernel_rfl) (by kernel_rfl) (fun _ _ _ h => h) (Or.inl ⟨by rfl, ?_⟩) (by assumption) ?_
        rotate_left
        · (intro wS hSw; (try dsimp only at hSw); skip; go_simp; try (with_reducible rfl))
        try simp only [Act.put, List.setIfInBounds_toArray, List.set_cons_zero, List.set_cons_succ]
        refine RegH.consH (i := 13) rfl (by kernel_rfl) (fun K hK => ?_)
        go_simp
        go_at_call 29
        refine (HRS.out _).mono ?_
        rintro e z2 ⟨rfl, rfl⟩
        refine hK.out _ _ ?_ (fun hHeld => ?_)
        · exact z1b
        clear hK K
        try simp only [Act.put, List.setIfInBounds_toArray, List.set_cons_zero, List.set_cons_succ]
        refine RegH.takeH (i := 14) (v := ?_) rfl (by kernel_rfl) (by kernel_rfl) (by kernel_rfl) (fun _ _ _ h => h) (Or.inl ⟨by rfl, ?_⟩) (by assumption) ?_
        rotate_left
        · (intro wS hSw; (try dsimp only at hSw); skip; go_simp; try (with_reducible rfl))
        try simp only [Act.put, List.setIfInBounds_toArray, List.set_cons_zero, List.set_cons_succ]
        refine RegH.takeH (i := 15) (v := ?_) rfl (by kernel_rfl) (by kernel_rfl) (by kernel_rfl) (fun _ _ _ h => h) (Or.inl ⟨by rfl, ?_⟩) (by assumption) ?_
        rotate_left
        · (intro wS hSw; (try dsimp only at hSw); skip; go_simp; try (with_reducible rfl))
        try simp only [Act.put, List.setIfInBounds_toArray, List.set_cons_zero, List.set_cons_succ]
        refine RegH.takeH (i := 16) (v := ?_) rfl (by kernel_rfl) (by kernel_rfl) (by kernel_rfl) (fun _ _ _ h => h) (Or.inl ⟨by rfl, ?_⟩) (by assumption) ?_
        rotate_left
        · (intro wS hSw; (try dsimp only at hSw); skip; go_simp; try (with_reducible rfl))
        try simp only [Act.put, List.setIfInBounds_toArray, List.set_cons_zero, List.set_cons_succ]
        refine RegH.takeH (i := 17) (v := ?_) rfl (by kernel_rfl) (by kernel_rfl) (by kernel_rfl) (fun _ _ _ h => h) (Or.inl ⟨by rfl, ?_⟩) (by assumption) ?_
        rotate_left
        · (intro wS hSw; (try dsimp only at hSw); skip; go_simp; try (with_reducible rfl))
        try simp only [Act.put, List.setIfInBounds_toArray, List.set_cons_zero, List.set_cons_succ]
        refine RegH.takeH (i := 19) (v := ?_) rfl (by kernel_rfl) (by kernel_rfl) (by kernel_rfl) (fun _ _ _ h => h) (Or.inl ⟨by rfl, ?_⟩) (by assumption) ?_
        rotate_left
        · (intro wS hSw; (try dsimp only at hSw); skip; go_simp; try (with_reducible rfl))
        try simp only [Act.put, List.setIfInBounds_toArray, List.set_cons_zero, List.set_cons_succ]
        refine RegH.consH (i := 18) rfl (by kernel_rfl) (fun K hK => ?_)
        go_simp
        go_at_call 30
        refine (HNP.out _ (HWB.out _ (below_then HC2.out z1b))).mono ?_
        rintro e z3 ⟨rfl, hb_⟩
        have z3b : Below B2.heap.size B2 z3 := below_then z1b hb_
        clear hb_
        refine hK.out _ _ ?_ (fun hHeld => ?_)
        · exact z3b
        clear hK K
        try simp only [Act.put, List.setIfInBounds_toArray, List.set_cons_zero, List.set_cons_succ]
        refine RegH.consH (i := 20) rfl (by kernel_rfl) (fun K hK => ?_)
        go_simp
        go_at_call 31
        refine (HTI.out _ (HWB.out _ (below_then HC2.out z3b))).mono ?_
        rintro e z4 ⟨rfl, rfl⟩
        refine hK.out _ _ ?_ (fun hHeld => ?_)
        · exact z3b
        clear hK K
        try simp only [Act.put, List.setIfInBounds_toArray, List.set_cons_zero, List.set_cons_succ]
        refine RegH.takeH (i := 21) (v := ?_) rfl (by kernel_rfl) (by kernel_rfl) (by kernel_rfl) (fun _ _ _ h => h) (Or.inl ⟨by rfl, ?_⟩) (by assumption) ?_
        rotate_left
        · (intro wS hSw; (try dsimp only at hSw); skip; go_simp; try (with_reducible rfl))
        try simp only [Act.put, List.setIfInBounds_toArray, List.set_cons_zero, List.set_cons_succ]
        refine RegH.takeH (i := 22) (v := ?_) rfl (by kernel_rfl) (by kernel_rfl) (by kernel_rfl) (fun _ _ _ h => h) (Or.inl ⟨by rfl, ?_⟩) (by assumption) ?_
        rotate_left
        · (intro wS hSw; (try dsimp only at hSw); skip; go_simp; try (with_reducible rfl))
        try simp only [Act.put, List.setIfInBounds_toArray, List.set_cons_zero, List.set_cons_succ]
        refine RegH.takeH (i := 23) (v := ?_) rfl (by kernel_rfl) (by kernel_rfl) (by kernel_rfl) (fun _ _ _ h => h) (Or.inl ⟨by rfl, ?_⟩) (by assumption) ?_
        rotate_left
        · (intro wS hSw; (try dsimp only at hSw); skip; go_simp; try (with_reducible rfl))
        try simp only [Act.put, List.setIfInBounds_toArray, List.set_cons_zero, List.set_cons_succ]
        refine wpAnyH_done (by kernel_rfl) ?_ _
        have HFN := Lib.hid (HWF.out _ (below_then HC2.out z3b))
        go_wp2_with fail
        go_ret
        exact ⟨rfl, HFN.out⟩
end Go.Proofs.Ytklamhnecncenaa.SbWalk
