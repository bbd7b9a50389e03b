/- Degree sequences: the program's groups, their numbers, sequence and greatest degree. -/
import Derived.Test.YtnjomgefmoehhaaDegImp3
import Derived.Test.YtnjomgefmoehhaaDegSpec5
namespace Go.Proofs.Ytnjomgefmoehhaa.DegImp
open Go Go.RowKit Byt Ints IntsLaw Cd Rows2 Tab TabSpec TabImp Exact DegMath DegSpec
open Go.Maps (Keyed string_keyed IsMap Tidy)

theorem gcV_no {nm : ByteArray} {ar : Int} {rows : List (List Int)} {cols : List Int} (h : gcOk nm ar rows cols = false) : gcV nm ar rows cols = [] ∧ gcN nm ar rows cols = [] := by
  unfold gcV gcN
  rw [if_neg (by rw [h]; decide), if_neg (by rw [h]; decide)]
  exact ⟨rfl, rfl⟩
theorem groups_none {nm : ByteArray} {ar : Int} {rows : List (List Int)} {cols : List Int} (h : gcOk nm ar rows cols = false) {w w' : World} (hb : Below w.heap.size w w') : GroupAns nm ar rows cols w (.returned (.tuple #[.slice none 0 0, .slice none 0 0])) w' := by
  obtain ⟨h1, h2⟩ := gcV_no h
  exact ⟨_, _, [], [], rfl, by rw [h1]; exact Cd.ow_nil _ _, by rw [h2]; exact Cd.ow_nil _ _, by simp, by simp, by simp, hb⟩
theorem keyB_len (v : List Int) : (keyB v).length = v.length := Loc.locB_len v
theorem OwnsC.kept {w w' : World} {B n : Nat} {D : DataW Value} {fp : List Nat} (h : OwnsC w B n D) (ht : Cd.Touch fp w w') (hB : B ∉ fp) : OwnsC w' B n D := by
  obtain ⟨es, clock, q1, q2⟩ := h
  exact ⟨es, clock, (ht.block B (Array.getElem?_eq_some_iff.1 q1).1 hB).trans q1, q2⟩

set_option maxRecDepth 100000 in
set_option maxHeartbeats 6400000 in
theorem impl_groups (nm : ByteArray) (ar : Int) (u v : Value) (rows : List (List Int)) (V : List Int) (S S2 : Nat → Prop) (w : World) (hr : rowsC.rd w S [u] rows) (hv : rowC.rd w S2 [v] V) :
    Calls Try.prog 14 #[.agg #[.string nm, .int .i64 ar, u], v] w fun e w' => GroupAns nm ar rows V w e w' := by
  have HVL := Lib.hid (fun w' (hb : Below w.heap.size w w') => impl_valid nm ar u rows S w' (Cd.later hr hb))
  have HAS := Lib.hid (fun w' (hb : Below w.heap.size w w') => impl_asc v V ar _ w' (row_ri (Cd.later hv hb)).1)
  have HCT := Lib.hid (fun w' (hb : Below w.heap.size w w') => impl_counts u v rows V S S2 w' (Cd.later hr hb) (Cd.later hv hb))
  obtain ⟨a, cap, rfl, hlm⟩ := rows_form hr
  obtain ⟨a1, c1, rfl, hl1⟩ := (row_ri hv).1
  clear hr hv
  cases ht : tabOk nm ar rows
  · have HNO := Lib.hid (show gcOk nm ar rows V = false by unfold gcOk; rw [ht]; rfl)
    rw [ht] at HVL
    clear ht
    go_enter Try.func14, Try.ntmps14
    go_wp2_with fail
    generalize hW : w.alloc _ = W
    obtain ⟨r0, _, hb0⟩ := start1 w _ hW
    obtain ⟨d0, d1, d2, _, _, _⟩ := Loc3.of r0
    have HB := Lib.hid hb0
    clear hW r0 hb0
    go_wp2_with fail
    refine (HVL.out W HB.out).mono ?_
    rintro e w1 ⟨rfl, hb1⟩
    have HB1 := Lib.hid (below_then HB.out hb1)
    clear hb1
    go_wp2_with fail
    go_ret2
    exact groups_none HNO.out HB1.out
  cases hcl : colsOk V ar
  · have HNO := Lib.hid (show gcOk nm ar rows V = false by unfold gcOk; rw [ht, hcl]; rfl)
    rw [ht] at HVL
    rw [hcl] at HAS
    clear ht hcl
    go_enter Try.func14, Try.ntmps14
    go_wp2_with fail
    generalize hW : w.alloc _ = W
    obtain ⟨r0, _, hb0⟩ := start1 w _ hW
    obtain ⟨d0, d1, d2, _, _, _⟩ := Loc3.of r0
    have HL := Lib.hid (Loc3.of r0)
    have HB := Lib.hid hb0
    clear hW r0 hb0
    go_wp2_with fail
    refine (HVL.out W HB.out).mono ?_
    rintro e w1 ⟨rfl, hb1⟩
    have HB1 := Lib.hid (below_then HB.out hb1)
    obtain ⟨d0, d1, d2, _, _, _⟩ := HL.out.later hb1
    clear hb1
    go_wp2_with fail
    refine (HAS.out w1 HB1.out).mono ?_
    rintro e w2 ⟨rfl, rfl⟩
    go_wp2_with fail
    go_ret2
    exact groups_none HNO.out HB1.out
  have hok : gcOk nm ar rows V = true := by unfold gcOk; rw [ht, hcl]; rfl
  obtain ⟨hT, hC⟩ := gc_rows hok
  have h8 := hT.2.2.2.1
  have h3 := col_len hC hT.2.2.1
  have HCT2 := Lib.hid (fun w' (hb : Below w.heap.size w w') => HCT.out w' hb h8 h3 (fun r hr => sel_ok hok hr) (fun r hr => (rowOk_iff.1 (hT.2.2.2.2.1 r hr)).2))
  have hdg : ∀ x ∈ xsT rows V, ∀ y ∈ x, 0 ≤ y ∧ y ≤ 9 := fun x hx => by
    obtain ⟨r, hr, rfl⟩ := xsT_mem hx
    exact sel_digits (rowOk_iff.1 (hT.2.2.2.2.1 r hr)).2
  have hxl : ∀ x ∈ xsT rows V, x.length ≤ 3 := fun x hx => by
    obtain ⟨r, hr, rfl⟩ := xsT_mem hx
    rw [sel_len]
    exact h3
  have HSK := Lib.hid (fun (ks : List (List UInt8)) (hn : ks.Nodup) (hm : ∀ k, k ∈ ks ↔ k ∈ keysT rows V) => sorted_keys (xs := xsT rows V) hdg hn hm)
  have HKC := Lib.hid (fun (x : List Int) (hx : x ∈ valL (xsT rows V)) => count_keyB (xs := xsT rows V) hdg (hdg x (valL_mem.1 hx)))
  have HDK := Lib.hid (show ((valL (xsT rows V)).map keyB).map Loc.digs = valL (xsT rows V) by
    rw [List.map_map]
    conv => rhs; rw [← List.map_id (valL (xsT rows V))]
    exact List.map_congr_left fun x hx => digs_keyB (hdg x (valL_mem.1 hx)))
  have HKS := Lib.hid (show ∀ k ∈ (valL (xsT rows V)).map keyB, k.length ≤ 1000 from fun k hk => by
    obtain ⟨x, hx, rfl⟩ := List.mem_map.1 hk
    rw [keyB_len]
    have := hxl x (valL_mem.1 hx)
    omega)
  have HV8 := Lib.hid (show (valL (xsT rows V)).length ≤ 8 by have := valL_len (xsT rows V); rw [xsT_len] at this; omega)
  have HC8 := Lib.hid (fun x => show cnt (xsT rows V) x ≤ 8 by have := cnt_le (xsT rows V) x; rw [xsT_len] at this; omega)
  have HE1 := Lib.hid (show gcV nm ar rows V = valL (xsT rows V) by unfold gcV; rw [if_pos hok])
  have HE2 := Lib.hid (show gcN nm ar rows V = (valL (xsT rows V)).map (cntI (xsT rows V)) by unfold gcN; rw [if_pos hok])
  have HK8 := Lib.hid (show (keysT rows V).length ≤ 8 by rw [keysT_len]; exact h8)
  have HKX := Lib.hid (show keysT rows V = (xsT rows V).map keyB from rfl)
  rw [ht] at HVL
  rw [hcl] at HAS
  clear ht hcl hok hT hC hdg hxl HCT h8 h3
  obtain ⟨i0, hi, hz0, hz1, hz2⟩ := info_parts info_strs
  obtain ⟨j0, hj, hy0, hy1, hy2⟩ := info_parts info_i64
  go_enter Try.func14, Try.ntmps14
  go_wp2_with fail
  generalize hW : w.alloc _ = W
  obtain ⟨r0, hwz, hb0⟩ := start1 w _ hW
  obtain ⟨d0, d1, d2, _, _, _⟩ := Loc3.of r0
  have HL := Lib.hid (Loc3.of r0)
  have HB := Lib.hid hb0
  clear hW r0 hb0
  go_wp2_with fail
  refine (HVL.out W HB.out).mono ?_
  rintro e w1 ⟨rfl, hb1⟩
  have HB1 := Lib.hid (below_then HB.out hb1)
  have HL1 := Lib.hid (HL.out.later hb1)
  obtain ⟨d0, d1, d2, _, _, _⟩ := HL1.out
  clear hb1
  go_wp2_with fail
  refine (HAS.out w1 HB1.out).mono ?_
  rintro e w2 ⟨rfl, rfl⟩
  go_wp2_with fail
  refine (HCT2.out w1 HB1.out).mono ?_
  rintro e w2 ⟨D, n, rfl, hown, hn8, hcnt, hlt2, hb2⟩
  have HLT2 := Lib.hid hlt2
  have HB2 := Lib.hid (below_then HB1.out hb2)
  have HM2 := Lib.hid hown
  have HCN := Lib.hid hcnt
  have hsize : Maps.size D ≤ 8 := Nat.le_trans hcnt.size HK8.out
  have HBB := Lib.hid (show w.heap.size ≤ w1.heap.size from HB1.out.size)
  generalize hBv : w1.heap.size = B at *
  clear hb2 hcnt hBv d0 d1 d2
  generalize hm : Maps.size D = m at *
  go_wp2_with (first
    | (at_len; refine wpList_len_own _ rfl _ 53 rfl 9 3 Try.underlying53 intR B n D rfl hown ?_; rw [hm])
    | (at_make; refine wpList_make_own _ rfl _ _ 55 rfl w2.heap.size 9 i0 (.string ⟨#[]⟩) 1 Try.underlying55 hi hz0 hz1 _ _ _ m rfl rfl rfl (by rw [hz2]; omega) (by unfold maxLen; omega) (Nat.le_refl _) ?_))
  intro w3 hown3 hg3
  have HB3 := Lib.hid (below_then HB2.out (show Below _ _ w3 from ⟨hg3.os, hg3.tape, hg3.output, hg3.size, fun k hk => hg3.block k hk (by simp)⟩))
  have HM3 := Lib.hid (show OwnsC w3 B n D from World.ownsMap.kept hown hg3 (by simp))
  have HS3 := Lib.hid (show w2.heap.size < w3.heap.size from by
    rcases hown3.2 with ⟨h', _⟩ | ⟨g', cap', cur, h', _, hg, _⟩
    · cases h'
    · simp only [Value.slice.injEq, Option.some.injEq, Addr.mk.injEq, and_true, true_and] at h'
      have := (Array.getElem?_eq_some_iff.1 hg).1
      rw [← h'.1] at this
      exact this)
  have HO3 := Lib.hid (show strsC.ow w3 w2.heap.size [.slice (some ⟨w2.heap.size, 0, none⟩) 0 m] [] [w2.heap.size] from ⟨_, [], [], rfl, hown3, trivial, rfl⟩)
  have HW2 := Lib.hid (show w.heap.size ≤ w2.heap.size from HB2.out.size)
  clear hg3 hown3 hown
  have hownM := HM3.out
  go_wp2_with (first
    | (at_range; refine wpList_range_own _ rfl _ 53 rfl 9 3 lawS Try.underlying53 intR B n D rfl hownM ?_; intro w4 hrg4 hg4 hs4))
  go_frame
  have hb4 : Below w3.heap.size w3 w4 := ⟨hg4.os, hg4.tape, hg4.output, hg4.size, fun k hk => hg4.block k hk (by simp)⟩
  have HRG := Lib.hid hrg4
  have HB4 := Lib.hid (below_then HB3.out hb4)
  have HO4 := Lib.hid (Cd.ow_base _ (Cd.ow_later HO3.out hb4) HW2.out)
  clear hrg4 hg4 hb4 hownM
  rw [hm] at HRG
  go_loopw [7] (fun o wr => ∃ (left : Lit → Bool) (cnt g c : Nat) (cur : List (List UInt8)), o = .slice (some ⟨g, 0, none⟩) cur.length c ∧ wr.ranges Try.prog 9 intR B w3.heap.size n D left cnt ∧ cur.length + cnt ≤ m ∧ strsC.ow wr w.heap.size [.slice (some ⟨g, 0, none⟩) cur.length c] cur [g] ∧ w2.heap.size ≤ g ∧ g ≠ w3.heap.size ∧ GathK D left cur ∧ Below w.heap.size w wr ∧ w4.heap.size ≤ wr.heap.size) (fun _ wr => wr.rangeLeft B w3.heap.size)
  case atStart => exact ⟨_, m, w2.heap.size, m, [], rfl, HRG.out, by simp, HO4.out, Nat.le_refl _, by have := HS3.out; omega, GathK.start D, HB4.out, Nat.le_refl _⟩
  case round =>
    obtain ⟨left, cnt, g, c, cur, rfl, hrg, hcm, how, hgl, hgr, hga, hbw, hsw⟩ := hrel
    have HOW := Lib.hid how
    have HGL := Lib.hid (And.intro hgl hgr)
    have HGA := Lib.hid hga
    have HBW := Lib.hid hbw
    have HSW := Lib.hid hsw
    have HRR := Lib.hid hrg
    clear how hgl hgr hga hbw hsw
    go_wp2_with (first
      | (at_next; refine wpList_next_ranges _ rfl _ rfl 9 lawS intR Value.string (fun x : Int => Value.int .i64 x) (fun _ _ h => key_invS h) (fun _ _ h => by obtain ⟨x, h, _⟩ := intR_inv h; exact ⟨x, h⟩) B w3.heap.size n D left cnt rfl hrg ?_ ?_))
    · intro hc0 hl0
      have HME := Lib.hid (show ∀ k, k ∈ cur ↔ k ∈ keysT rows V from fun k => by
        rw [HGA.out.mem, HCN.out.has, decide_eq_true_iff]
        exact ⟨fun h => h.1, fun h => ⟨h, hl0 _⟩⟩)
      have HSO := Lib.hid (HSK.out cur HGA.out.nd HME.out)
      have hcl8 : cur.length ≤ 8 := by omega
      have HOM := Lib.hid (show OwnsC wr B n D by obtain ⟨es, clock, since, seen, c0, q1, q2, q3, q4, _⟩ := HRR.out; exact ⟨es, clock, q1, q2, q3, q4⟩)
      have HST := Lib.hid (sort_strs g c w.heap.size cur _ wr HOW.out (by omega))
      rw [HSO.out] at HST
      have HLN := Lib.hid (show cur.length = ((valL (xsT rows V)).map keyB).length by have := congrArg List.length HSO.out; rw [List.length_mergeSort] at this; exact this)
      rw [HLN.out] at HST hcl8
      rw [HLN.out]
      have HVM := Lib.hid (show ((valL (xsT rows V)).map keyB).length = (valL (xsT rows V)).length from List.length_map ..)
      clear hl0 hrg HME
      generalize hvs : valL (xsT rows V) = vs at *
      have HNX := Lib.hid (fun (k : Nat) (h : k < vs.length) => show (vs.take (k + 1)).map (cntI (xsT rows V)) = (vs.take k).map (cntI (xsT rows V)) ++ [(DegMath.cnt (xsT rows V) vs[k] : Int)] by rw [List.take_succ_eq_append_getElem h, List.map_append]; rfl)
      have HAT := Lib.hid (fun (k : Nat) (h : k < vs.length) (h' : k < (vs.map keyB).length) => show (vs.map keyB)[k] = keyB vs[k] from List.getElem_map ..)
      clear hvs HSK
      generalize hks : vs.map keyB = ks at *
      go_wp2_with fail
      refine HST.out.mono ?_
      rintro e w5 ⟨rfl, ho5, ht5⟩
      have HB5 := Lib.hid (Cd.Touch.below HBW.out ht5 (fun b hb => by rw [List.mem_singleton.1 hb]; have := HGL.out; have := HW2.out; omega))
      have HM5 := Lib.hid (OwnsC.kept HOM.out ht5 (by simp only [List.mem_singleton]; have := HGL.out; omega))
      have HO5 := Lib.hid ho5
      clear ho5 ht5
      go_wp2_with (first
        | (at_make; refine wpList_make_own _ rfl _ _ 27 rfl w5.heap.size 3 j0 (.int .i64 0) 1 Try.underlying27 hj hy0 hy1 _ _ _ ks.length rfl rfl rfl (by rw [hy2]; omega) (by unfold maxLen; omega) (Nat.le_refl _) ?_))
      intro w6 hown6 hg6
      have hb6 : Below w5.heap.size w5 w6 := ⟨hg6.os, hg6.tape, hg6.output, hg6.size, fun k hk => hg6.block k hk (by simp)⟩
      have hO6 : OwnI w6 w5.heap.size 3 (.slice (some ⟨w5.heap.size, 0, none⟩) 0 ks.length) [] := hown6
      have HO6 := Lib.hid (rowC.ow_base (Cd.ow_of_own hO6 (fun x hx => by cases hx)) HB5.out.size)
      have HB6 := Lib.hid (below_then HB5.out hb6)
      have HM6 := Lib.hid (show OwnsC w6 B n D from World.ownsMap.kept HM5.out hg6 (by simp))
      have HG6 := Lib.hid (Cd.ow_later HO5.out hb6)
      have HGB := Lib.hid (show g < w5.heap.size ∧ B < w5.heap.size from ⟨(strsC.ow_lt HO5.out g (by simp)).2, World.ownsMap.lt HM5.out⟩)
      clear hown6 hg6 hO6
      have HKV := Lib.hid (show ks.length ≤ vs.length from by rw [HVM.out]; exact Nat.le_refl _)
      go_wp2_with fail
      go_loopw [9, 46] (fun o i wr => ∃ (k : Nat) (fd : List Nat), k ≤ ks.length ∧ i = .int .i64 k ∧ rowC.ow wr w.heap.size [o] ((vs.take k).map (cntI (xsT rows V))) fd ∧ fd.Nodup ∧ g ∉ fd ∧ B ∉ fd ∧ OwnsC wr B n D ∧ strsC.ow wr w.heap.size [.slice (some ⟨g, 0, none⟩) ks.length c] ks [g] ∧ Below w.heap.size w wr) (fun _ i _ => ks.length - (intOf i).toNat)
      case atStart => exact ⟨0, _, Nat.zero_le _, rfl, HO6.out, Cd.own_nodup, by simp [Value.ownBlock]; have := HGB.out; omega, by simp [Value.ownBlock]; have := HGB.out; omega, HM6.out, HG6.out, HB6.out⟩
      case round =>
        obtain ⟨k, fd, hk, rfl, hod, hnd, hgd, hBd, hom, hos, hbw⟩ := hrel
        obtain ⟨ad, cd, rfl⟩ := Cd.ow_slice (c := Cd.int) hod
        have HOD := Lib.hid hod
        have HND := Lib.hid hnd
        have HGD := Lib.hid (And.intro hgd hBd)
        have HOM7 := Lib.hid hom
        have HOS := Lib.hid hos
        have HBW7 := Lib.hid hbw
        clear hod hnd hgd hBd hom hos hbw
        by_cases hlt : k < ks.length
        · have hkv : k < vs.length := by have := HKV.out; omega
          have HTK := Lib.hid (HNX.out k hkv)
          have HKE := Lib.hid (HAT.out k hkv hlt)
          have HMV := Lib.hid (HKC.out _ (List.getElem_mem hkv))
          have hc8 := HC8.out vs[k]
          have hdl : ((vs.take k).map (cntI (xsT rows V))).length ≤ 8 := by rw [List.length_map, List.length_take]; omega
          obtain ⟨b, off, cap', e1, hbB, hcell, hkm⟩ := strs_at (strsC.ow_rd HOS.out) hlt
          injection e1 with e1 e2 e3
          injection e1 with e1
          injection e1 with e1 e4 _
          subst e1 e4 e3
          rw [Nat.zero_add] at hcell
          have HK := Lib.hid (key_list hkm)
          obtain ⟨y, ps, hrun, hy⟩ := World.ownsMap.lookup (t := 53) HOM7.out lawS Try.underlying53 (zeroI wr) (zd := .lit (.int .i64 0)) (zp := []) rfl HK.out
          rw [HCN.out.at_, HKE.out, HKX.out, HMV.out] at hy
          obtain rfl := intR_at hy
          clear hy hkm
          have i1 : (0 : Int) ≤ (k : Int) := by omega
          have i2 : (k : Int) < (ks.length : Int) := by omega
          generalize DegMath.cnt (xsT rows V) vs[k] = nn at *
          generalize (vs.take k).map (cntI (xsT rows V)) = ds at *
          have hbA := below_alloc wr (.cells #[.int .i64 (nn : Int)] 3)
          have N1 := Lib.hid (Cd.ow_later HOD.out hbA)
          have C1 := Lib.hid (show (wr.alloc (.cells #[.int .i64 (nn : Int)] 3)).cell? ⟨wr.heap.size, 0, none⟩ = some (.int .i64 (nn : Int)) by simp)
          have Y1 := Lib.hid (show Cd.int.ow (wr.alloc (.cells #[.int .i64 (nn : Int)] 3)) w.heap.size [.int .i64 (nn : Int)] (nn : Int) [] from ⟨rfl, by omega, rfl⟩)
          have B1 := Lib.hid (below_then HBW7.out hbA)
          have M1 := Lib.hid (show OwnsC (wr.alloc (.cells #[.int .i64 (nn : Int)] 3)) B n D from OwnsC.kept HOM7.out (Cd.Touch.of_below (fp := []) hbA) (by simp))
          have S1 := Lib.hid (Cd.ow_later HOS.out hbA)
          have L1 := Lib.hid (show ∀ q, q < wr.heap.size → ¬ (wr.alloc (.cells #[.int .i64 (nn : Int)] 3)).heap.size ≤ q from fun q h1 h2 => by rw [size_alloc] at h2; omega)
          have GL := Lib.hid (And.intro (strsC.ow_lt HOS.out g (by simp)).2 (World.ownsMap.lt HOM7.out))
          clear hbA
          go_wp2_with (at_builtin; refine Cd.wpList_appendE (c := Cd.int) rfl rfl (.tmp 50) (.tmp 54) 27 rfl w.heap.size 3 (.int .i64 0) 8 Try.underlying27 info_i64 rfl (by decide) _ _ _ rfl N1.out HND.out _ _ rfl C1.out _ _ Y1.out (by simp) (by simp) (by omega) B1.out.size ?_)
          intro g9 c9 w9 f9 ho9 hn9 hs9 ht9
          have N9 := Lib.hid ho9
          have D9 := Lib.hid hn9
          have G9 := Lib.hid (show g ∉ f9 ∧ B ∉ f9 from ⟨fun q => (hs9 g q).elim HGD.out.1 (fun h => L1.out g GL.out.1 (by first | exact h | exact h.elim (fun h => by cases h) id | (rw [size_alloc]; exact h))), fun q => (hs9 B q).elim HGD.out.2 (fun h => L1.out B GL.out.2 (by first | exact h | exact h.elim (fun h => by cases h) id | (rw [size_alloc]; exact h)))⟩)
          have M9 := Lib.hid (OwnsC.kept M1.out ht9 HGD.out.2)
          have S9 := Lib.hid (Cd.ow_touched S1.out ht9 (fun b hb q => by rw [List.mem_singleton.1 hb] at q; exact HGD.out.1 q))
          have B9 := Lib.hid (Cd.Touch.below B1.out ht9 (fun b hb => (rowC.ow_lt N1.out b hb).1))
          clear ho9 hn9 hs9 ht9 hrun
          go_wp2_with fail
          go_roundw
          case rel => exact ⟨k + 1, f9, by omega, by go_num, by rw [HTK.out]; exact N9.out, D9.out, G9.out.1, G9.out.2, M9.out, S9.out, B9.out⟩
          case measure => simp [intOf]; omega
        · have ek : k = vs.length := by have := HKV.out; have := HVM.out; omega
          subst ek
          rw [List.take_length] at HOD
          have HMK := Lib.hid (map_keys _ ks _ wr (strsC.ow_rd HOS.out) (by omega) HKS.out)
          rw [HDK.out] at HMK
          go_wp2_with fail
          refine HMK.out.mono ?_
          rintro e w8 ⟨g8, f8, rfl, ho8, hn8, hb8⟩
          have E1 := Lib.hid (rowsC.ow_base ho8 HBW7.out.size)
          have E2 := Lib.hid hn8
          have E3 := Lib.hid (Cd.ow_later HOD.out hb8)
          have E4 := Lib.hid (below_then HBW7.out hb8)
          have E5 := Lib.hid (show ∀ b ∈ f8, b ∉ fd from fun b hb q => by
            have h1 := (rowsC.ow_lt ho8 b hb).1
            have h2 := (rowC.ow_lt HOD.out b q).2
            omega)
          clear ho8 hn8 hb8
          go_wp2_with fail
          go_ret2
          exact ⟨_, _, f8, fd, rfl, by rw [HE1.out]; exact E1.out, by rw [HE2.out]; have h := E3.out; rw [List.length_map] at h; exact h, E2.out, HND.out, E5.out, E4.out⟩
    · intro x t kl y1 y2 w5 cnt5 hkx hlx hyt hat hrg5 hlt5 hg5 hs5 hen
      obtain ⟨rfl, hxm⟩ := key_eqS hkx
      have hbk : Cd.Touch [w3.heap.size] wr w5 := touch_grown hg5
      have hHas : Maps.has D (.string x.data.toList) = true := Maps.has_true_of_atKey hat
      have HGS := Lib.hid (HGA.out.step hHas hlx)
      have HBW5 := Lib.hid (Cd.Touch.below HBW.out hbk (fun b hb => by rw [List.mem_singleton.1 hb]; have := HB3.out.size; omega))
      have HOW5 := Lib.hid (Cd.ow_touched HOW.out hbk (fun b hb q => by rw [List.mem_singleton.1 q] at hb; exact HGL.out.2 (List.mem_singleton.1 hb).symm))
      have HRG5 := Lib.hid hrg5
      have HSW5 := Lib.hid (show w4.heap.size ≤ w5.heap.size by rw [hs5]; exact HSW.out)
      have HCN5 := Lib.hid (show cnt5 < cnt from hlt5)
      have hbA := below_alloc w5 (.cells #[.string x] 9)
      have HOA := Lib.hid (Cd.ow_later HOW5.out hbA)
      have HBA := Lib.hid (below_then HBW5.out hbA)
      have HRA := Lib.hid (World.ranges.kept HRG5.out (grown_of hbA none) (by simp) (by simp))
      have HCE := Lib.hid (show (w5.alloc (.cells #[.string x] 9)).cell? ⟨w5.heap.size, 0, none⟩ = some (.string x) by simp)
      have HEO := Lib.hid (show strC.ow (w5.alloc (.cells #[.string x] 9)) w.heap.size [.string x] x.data.toList [] from ⟨by simp, hxm, rfl⟩)
      have hcl : cur.length + 1 ≤ 1000000000000 := by omega
      clear hkx hyt hat hg5 hHas hbk hrg5 hbA hlx hs5 hrg
      go_wp2_with (at_builtin; refine Cd.wpList_appendE (c := strC) rfl rfl (.tmp 35) (.tmp 37) 55 rfl w.heap.size 9 (.string ⟨#[]⟩) 16 Try.underlying55 info_strs rfl (by decide) _ cur [g] rfl HOA.out (by simp) _ _ rfl HCE.out _ _ HEO.out (by simp) (by simp) hcl HBA.out.size ?_)
      intro g6 c6 w6 f6 ho6 hn6 hs6 ht6
      obtain ⟨_, _, _, _, _, _, _, _, hf6, _⟩ := strs_bare ho6
      subst hf6
      have HO6 := Lib.hid ho6
      have HL6 := Lib.hid (show w2.heap.size ≤ g6 ∧ g6 ≠ w3.heap.size from by
        have h1 := HGL.out
        have h2 := HRG5.out
        have h3 := HSW5.out
        have h4 : w3.heap.size < w5.heap.size := by
          obtain ⟨es, clock, since, seen, c0, q1, q2, q3, q4, q5, q6⟩ := h2
          exact (Array.getElem?_eq_some_iff.1 q5).1
        have h5 := HB3.out.size
        have h6 := HS3.out
        rcases hs6 g6 (by simp) with h | h
        · first | (rw [h]; exact h1) | (rw [List.mem_singleton.1 h]; exact h1)
        · (try rw [size_alloc] at h); (try simp only [World.alloc, Array.size_push] at h); omega)
      have HB6 := Lib.hid (Cd.Touch.below HBA.out ht6 (fun b hb => by rw [List.mem_singleton.1 hb]; have := HGL.out; have := HW2.out; omega))
      have HRG6 := Lib.hid (show w6.ranges Try.prog 9 intR B w3.heap.size n D (fun z => left z && !z.sameKey (.string x.data.toList)) cnt5 from by
        obtain ⟨es, clock, since, seen, c0, q1, q2, q3, q4, q5, q6⟩ := HRA.out
        refine ⟨es, clock, since, seen, c0, (ht6.block B (Array.getElem?_eq_some_iff.1 q1).1 (by simp only [List.mem_singleton]; have := HGL.out; omega)).trans q1, q2, q3, q4, (ht6.block _ (Array.getElem?_eq_some_iff.1 q5).1 (by simp only [List.mem_singleton]; have := HGL.out; omega)).trans q5, q6⟩)
      have HS6 := Lib.hid (show w4.heap.size ≤ w6.heap.size from Nat.le_trans (Nat.le_trans HSW5.out (below_alloc w5 (.cells #[.string x] 9)).size) ht6.size)
      clear ho6 hn6 hs6 ht6 hen
      go_wp2_with fail
      go_roundw
      case rel => exact ⟨_, cnt5, g6, c6, cur ++ [x.data.toList], by simp, HRG6.out, by have := HCN5.out; simp; omega, by rw [List.length_append]; exact HO6.out, HL6.out.1, HL6.out.2, HGS.out, HB6.out, HS6.out⟩
      case measure => rw [HRG6.out.left_eq, HRR.out.left_eq]; exact HCN5.out
end Go.Proofs.Ytnjomgefmoehhaa.DegImp
