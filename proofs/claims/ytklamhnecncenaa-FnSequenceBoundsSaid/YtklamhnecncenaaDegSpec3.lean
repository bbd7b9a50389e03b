/- Degree sequences: the model's groups. -/
import Derived.Test.YtklamhnecncenaaDegSpec2
import Derived.Test.YtklamhnecncenaaTabNew
namespace Go.Proofs.Ytklamhnecncenaa.DegSpec
open Go Go.RowKit Byt Ints IntsLaw Cd Rows2 Tab TabSpec Exact DegMath

/-- The groups and their numbers. -/
def GroupAns (nm : ByteArray) (ar : Int) (rows : List (List Int)) (cols : List Int) (w : World) (e : Ending) (w' : World) : Prop :=
  ∃ u1 u2 f1 f2, e = .returned (.tuple #[u1, u2]) ∧ rowsC.ow w' w.heap.size [u1] (gcV nm ar rows cols) f1 ∧ rowC.ow w' w.heap.size [u2] (gcN nm ar rows cols) f2 ∧ f1.Nodup ∧ f2.Nodup ∧ (∀ b ∈ f1, b ∉ f2) ∧ Below w.heap.size w w'
theorem flat_le3 : ∀ (l : List (List Int)), (∀ r ∈ l, r.length ≤ 3) → l.flatten.length ≤ 3 * l.length
  | [], _ => by simp
  | r :: l, h => by
    have h1 := flat_le3 l fun x hx => h x (List.mem_cons_of_mem _ hx)
    have h2 := h r List.mem_cons_self
    rw [List.flatten_cons, List.length_append, List.length_cons]
    omega
theorem sel_len (row cols : List Int) : (selR row cols).length = cols.length := List.length_map ..
theorem xsT_mem {rows : List (List Int)} {cols : List Int} {x : List Int} (h : x ∈ xsT rows cols) : ∃ r ∈ rows, x = selR r cols := by
  obtain ⟨r, h1, h2⟩ := List.mem_map.1 h
  exact ⟨r, h1, h2.symm⟩
theorem val_wt {rows : List (List Int)} {cols : List Int} (h8 : rows.length ≤ 8) (h3 : cols.length ≤ 3) (k : Nat) : rowsWt (valL ((xsT rows cols).take k)) ≤ 32 ∧ (valL ((xsT rows cols).take k)).length ≤ 8 := by
  have h1 := valL_len ((xsT rows cols).take k)
  rw [List.length_take, xsT_len] at h1
  have h2 := flat_le3 (valL ((xsT rows cols).take k)) fun r hr => by
    obtain ⟨q, _, rfl⟩ := xsT_mem (List.mem_of_mem_take (valL_mem.1 hr))
    rw [sel_len]
    exact h3
  unfold rowsWt
  omega
theorem xsT_get {rows : List (List Int)} {cols : List Int} {k : Nat} (h : k < rows.length) : (xsT rows cols)[k]'(by rw [xsT_len]; exact h) = selR rows[k] cols := List.getElem_map ..
theorem sel_ok {nm : ByteArray} {ar : Int} {rows : List (List Int)} {cols : List Int} (h : gcOk nm ar rows cols = true) {r : List Int} (hr : r ∈ rows) : selOk r cols = true := by
  obtain ⟨hT, hC⟩ := gc_rows h
  have h1 := (rowOk_iff.1 (hT.2.2.2.2.1 r hr)).1
  exact decide_eq_true fun c hc => by have := hC.1 c hc; omega
set_option maxRecDepth 100000 in
set_option maxHeartbeats 6400000 in
theorem spec_groups (nm : ByteArray) (ar : Int) (u v : Value) (rows : List (List Int)) (V : List Int) (S S2 : Nat → Prop) (w : World) (hr : rowsC.rd w S [u] rows) (hv : rowC.rd w S2 [v] V) :
    Calls Try.prog 84 #[.agg #[.string nm, .int .i64 ar, u], v] w fun e w' => GroupAns nm ar rows V w e w' := by
  have HV := Lib.hid (fun w' (hb : Below w.heap.size w w') => Cd.later hv hb)
  have HR := Lib.hid (fun w' (hb : Below w.heap.size w w') => Cd.later hr hb)
  obtain ⟨a1, c1, rfl, hl1⟩ := (row_ri hv).1
  obtain ⟨a, cap, rfl, hlm⟩ := rows_form hr
  have HC := Lib.hid (fun w' (hb : Below w.heap.size w w') => spec_cols nm ar _ _ rows V S S2 w' (Cd.later hr hb) (Cd.later hv hb))
  clear hr hv
  have HOE := Lib.hid (fun (w' : World) (h : w.heap.size ≤ w'.heap.size) => Cd.ow_empty (e := 24) (c := rowC) w' w.heap.size h)
  have HOE2 := Lib.hid (fun (w' : World) (h : w.heap.size ≤ w'.heap.size) => Cd.ow_empty (e := 3) (c := Cd.int) w' w.heap.size h)
  go_enter Try.func84, Try.ntmps84
  go_wp2_with fail
  generalize hA : w.alloc _ = A
  obtain ⟨r0, hA1, hbA⟩ := start1 w _ hA
  have hv1 := HOE.out A hbA.size
  rw [hA1] at hv1
  generalize hB : A.alloc _ = B at *
  have hbB := below_alloc A (.cells #[] 24)
  have hB1 := size_alloc A (.cells #[] 24)
  rw [hB] at hbB hB1
  have hbAB := below_then hbA hbB
  have hn1 := HOE2.out B hbAB.size
  rw [hB1, hA1] at hn1
  have hbC := below_alloc B (.cells #[] 3)
  have hv2 := Cd.ow_later hv1 hbC
  have hL := Loc3.later (Loc3.later (Loc3.of r0) hbB) hbC
  have HBC := Lib.hid (below_then hbAB hbC)
  have HSZ := Lib.hid (show (B.alloc (.cells #[] 3)).heap.size = w.heap.size + 3 by rw [size_alloc]; omega)
  generalize hW : B.alloc _ = W at *
  have HV1 := Lib.hid hv2
  have HN1 := Lib.hid hn1
  have HL := Lib.hid hL
  clear hA hB hW hv1 hv2 hn1 hL r0 hbA hbB hbC hbAB HOE HOE2
  simp only [hA1, hB1] at *
  obtain ⟨d0, d1, d2, _, _, _⟩ := HL.out
  have HCC := Lib.hid (HC.out W HBC.out)
  cases hok : gcOk nm ar rows V
  · have HE1 := Lib.hid (show gcV nm ar rows V = [] by unfold gcV; rw [if_neg (by rw [hok]; decide)])
    have HE2 := Lib.hid (show gcN nm ar rows V = [] by unfold gcN; rw [if_neg (by rw [hok]; decide)])
    rw [hok] at HCC
    clear hok hA1 hB1
    go_wp2_with fail
    refine HCC.out.mono ?_
    rintro e w1 ⟨rfl, hb1⟩
    have HB1 := Lib.hid (below_then HBC.out hb1)
    have HX1 := Lib.hid (Cd.ow_later HV1.out hb1)
    have HX2 := Lib.hid (Cd.ow_later HN1.out hb1)
    clear hb1
    go_wp2_with fail
    go_ret2
    exact ⟨_, _, [w.heap.size + 1], [w.heap.size + 2], rfl, by rw [HE1.out]; exact HX1.out, by rw [HE2.out]; exact HX2.out, by simp, by simp, by simp, HB1.out⟩
  obtain ⟨hT, hC⟩ := gc_rows hok
  have h8 := hT.2.2.2.1
  have h3 := col_len hC hT.2.2.1
  have HSEL := Lib.hid (fun r (hr : r ∈ rows) => sel_ok hok hr)
  have HWT := Lib.hid (fun k => val_wt (rows := rows) (cols := V) h8 h3 k)
  have HE1 := Lib.hid (show gcV nm ar rows V = valL (xsT rows V) by unfold gcV; rw [if_pos hok])
  have HE2 := Lib.hid (show gcN nm ar rows V = (valL (xsT rows V)).map (cntI (xsT rows V)) by unfold gcN; rw [if_pos hok])
  rw [hok] at HCC
  clear hok hA1 hB1 hT hC
  go_wp2_with fail
  refine HCC.out.mono ?_
  rintro e w1 ⟨rfl, hb1⟩
  have HB1 := Lib.hid (below_then HBC.out hb1)
  have HX1 := Lib.hid (Cd.ow_later HV1.out hb1)
  have HX2 := Lib.hid (Cd.ow_later HN1.out hb1)
  have HL1 := Lib.hid (HL.out.later hb1)
  have HS1 := Lib.hid (show w.heap.size + 3 ≤ w1.heap.size by have := hb1.size; have := HSZ.out; omega)
  clear hb1 d0 d1 d2
  go_wp2_with fail
  go_loopw [6, 8] (fun o i wr => ∃ (k : Nat) (fp : List Nat), k ≤ rows.length ∧ i = .int .i64 k ∧ rowsC.ow wr w.heap.size [o] (valL ((xsT rows V).take k)) fp ∧ fp.Nodup ∧ w.heap.size + 2 ∉ fp ∧ rowC.ow wr w.heap.size [.slice (some ⟨w.heap.size + 2, 0, none⟩) 0 0] [] [w.heap.size + 2] ∧ Loc3 wr w.heap.size (.string nm) (.int .i64 ar) (.slice a rows.length cap) ∧ Below w.heap.size w wr ∧ w.heap.size + 3 ≤ wr.heap.size) (fun _ i _ => rows.length - (intOf i).toNat)
  case atStart => exact ⟨0, _, Nat.zero_le _, rfl, HX1.out, by simp, by simp, HX2.out, HL1.out, HB1.out, HS1.out⟩
  case round =>
    obtain ⟨k, fp, hk, rfl, how, hnd, hfr, hnc, hlc, hbw, hsw⟩ := hrel
    obtain ⟨ao, co, rfl⟩ := Cd.ow_slice how
    have HOW := Lib.hid how
    have HND := Lib.hid hnd
    have HFR := Lib.hid hfr
    have HNC := Lib.hid hnc
    have HLC := Lib.hid hlc
    have HBW := Lib.hid hbw
    have HSW := Lib.hid hsw
    have hwt := HWT.out k
    obtain ⟨d0, d1, d2, _, _, _⟩ := hlc
    clear how hnd hfr hnc hbw hsw
    by_cases hlt : k < rows.length
    · have HNX := Lib.hid (valL_next (xs := xsT rows V) (k := k) (by rw [xsT_len]; exact hlt))
      rw [xsT_get hlt] at HNX
      obtain ⟨b, off, cap', v', e1, hbB, hc, hv'⟩ := rows_at (HR.out wr HBW.out) hlt
      injection e1 with e1 e2 e3
      subst e1 e3
      have HS := Lib.hid (spec_select v' _ rows[k] V S S2 wr hv' (HV.out wr HBW.out) (by omega))
      have HOK := Lib.hid (HSEL.out _ (List.getElem_mem hlt))
      have HSL := Lib.hid (show (selR rows[k] V).length ≤ 3 by rw [sel_len]; exact h3)
      unfold SelAns at HS
      rw [HOK.out] at HS
      simp only [if_true] at HS
      have HWTK := Lib.hid hwt
      clear hv' hwt
      generalize valL ((xsT rows V).take k) = acc at *
      generalize selR rows[k] V = row at *
      go_wp2_with fail
      refine HS.out.mono ?_
      rintro e w2 ⟨u', f2, rfl, ho2, hn2, hb2⟩
      have HB2 := Lib.hid (below_then HBW.out hb2)
      have HOW2 := Lib.hid (Cd.ow_later HOW.out hb2)
      have HNC2 := Lib.hid (Cd.ow_later HNC.out hb2)
      have HLC2 := Lib.hid (HLC.out.later hb2)
      have HS2 := Lib.hid (Nat.le_trans HSW.out hb2.size)
      have HPUT := Lib.hid (spec_put _ u' acc row _ _ w2 (rowsC.ow_rd HOW2.out) (rowC.ow_rd ho2) (by have := HWTK.out; omega) (by have := HSL.out; omega))
      clear ho2 hn2 hb2
      go_wp2_with fail
      refine HPUT.out.mono ?_
      rintro e w3 ⟨v3, f3, rfl, ho3, hn3, hb3⟩
      have HB3 := Lib.hid (below_then HB2.out hb3)
      have HNC3 := Lib.hid (Cd.ow_later HNC2.out hb3)
      have HLC3 := Lib.hid (HLC2.out.later hb3)
      have HS3 := Lib.hid (Nat.le_trans HS2.out hb3.size)
      have HF3 := Lib.hid (show w.heap.size + 2 ∉ f3 from fun q => by have := (rowsC.ow_lt ho3 _ q).1; have := HS2.out; omega)
      have HO3 := Lib.hid (rowsC.ow_base ho3 HB2.out.size)
      have HN3 := Lib.hid hn3
      clear ho3 hn3 hb3
      go_wp2_with fail
      go_roundw
      case rel => exact ⟨k + 1, f3, by omega, by go_num, by rw [HNX.out]; exact HO3.out, HN3.out, HF3.out, HNC3.out, HLC3.out, HB3.out, HS3.out⟩
      case measure => simp [intOf]; omega
    · have ek : k = rows.length := by omega
      subst ek
      have HXN := Lib.hid (show (xsT rows V).take rows.length = xsT rows V from List.take_of_length_le (by rw [xsT_len]; exact Nat.le_refl _))
      rw [HXN.out] at HOW hwt
      have HVL := Lib.hid hwt.2
      rw [HXN.out]
      clear hwt
      generalize hvs : valL (xsT rows V) = vs at *
      generalize hxs : xsT rows V = xs at *
      have HCN := Lib.hid (show ∀ (j : Nat) (h : j < rows.length) (v : List Int), cnt (xs.take (j + 1)) v = cnt (xs.take j) v + (if cmpR (selR rows[j] V) v = 0 then 1 else 0) from fun j h v => by
        subst hxs
        rw [cnt_next (by rw [xsT_len]; exact h), xsT_get h])
      have HCL := Lib.hid (show ∀ (j : Nat) (v : List Int), cnt (xs.take j) v ≤ 8 from fun j v => by
        have h1 := cnt_le (xs.take j) v
        have h2 : xs.length = rows.length := by rw [← hxs, xsT_len]
        rw [List.length_take] at h1
        omega)
      clear hvs hxs
      go_wp2_with fail
      have HSTART := Lib.hid hlt
      clear d0 d1 d2
      generalize wr = w0 at *
      go_loopw [7, 11] (fun o i wr => ∃ (k : Nat) (fn : List Nat), k ≤ vs.length ∧ i = .int .i64 k ∧ rowC.ow wr w.heap.size [o] ((vs.take k).map (cntI xs)) fn ∧ fn.Nodup ∧ rowsC.ow wr w.heap.size [.slice ao vs.length co] vs fp ∧ (∀ b ∈ fp, b ∉ fn) ∧ Loc3 wr w.heap.size (.string nm) (.int .i64 ar) (.slice a rows.length cap) ∧ w.heap.size ∉ fn ∧ Below w.heap.size w wr) (fun _ i _ => vs.length - (intOf i).toNat)
      case atStart => exact ⟨0, _, Nat.zero_le _, rfl, HNC.out, by simp, HOW.out, fun b hb q => by rw [List.mem_singleton.1 q] at hb; exact HFR.out hb, HLC.out, by simp, HBW.out⟩
      case round =>
        obtain ⟨k, fn, hk, rfl, hnw, hnn, how, hdis, hlc, hbx, hbw⟩ := hrel
        obtain ⟨an, cn, rfl⟩ := Cd.ow_slice hnw
        have HNW := Lib.hid hnw
        have HNN := Lib.hid hnn
        have HOV := Lib.hid how
        have HDI := Lib.hid hdis
        have HLX := Lib.hid hlc
        have HBX := Lib.hid hbx
        have HBV := Lib.hid hbw
        clear hnw hnn how hdis hlc hbx hbw
        by_cases hkt : k < vs.length
        · have HTK := Lib.hid (show (vs.take (k + 1)).map (cntI xs) = (vs.take k).map (cntI xs) ++ [(cnt xs vs[k] : Int)] by rw [List.take_succ_eq_append_getElem hkt, List.map_append]; rfl)
          have HKL := Lib.hid (show ((vs.take k).map (cntI xs)).length = k by rw [List.length_map, List.length_take]; omega)
          have HEND := Lib.hid (show cnt (xs.take rows.length) vs[k] = cnt xs vs[k] by rw [HXN.out])
          generalize (vs.take k).map (cntI xs) = cl at *
          go_wp2_with fail
          generalize hwk : wr = wk at *
          have HK := Lib.hid hwk
          clear hwk
          go_loopw [12, 13] (fun n i wx => ∃ (j : Nat), j ≤ rows.length ∧ i = .int .i64 j ∧ n = .int .i64 (cnt (xs.take j) vs[k] : Nat) ∧ Below wk.heap.size wk wx) (fun _ i _ => rows.length - (intOf i).toNat)
          case atStart => exact ⟨0, Nat.zero_le _, rfl, rfl, Below.refl _ _⟩
          case round =>
            obtain ⟨j, hj, rfl, rfl, hbx⟩ := hrel
            have HBJ := Lib.hid (below_then HBV.out hbx)
            obtain ⟨d0, d1, d2, _, _, _⟩ := HLX.out.later hbx
            have HX := Lib.hid hbx
            clear hbx
            have hcl := HCL.out j vs[k]
            by_cases hjt : j < rows.length
            · have HNX := Lib.hid (HCN.out j hjt vs[k])
              obtain ⟨b, off, cap', v', e1, hbB, hc, hv'⟩ := rows_at (HR.out wr HBJ.out) hjt
              injection e1 with e1 e2 e3
              subst e1 e3
              have HS := Lib.hid (spec_select v' _ rows[j] V S S2 wr hv' (HV.out wr HBJ.out) (by omega))
              have HOK := Lib.hid (HSEL.out _ (List.getElem_mem hjt))
              unfold SelAns at HS
              rw [HOK.out] at HS
              simp only [if_true] at HS
              have HVK := Lib.hid (fun w' (h : Below wk.heap.size wk w') => rows_at (rowsC.ow_rd (Cd.ow_later HOV.out h)) hkt)
              have i1 : (0 : Int) ≤ (j : Int) := by omega
              have i2 : (j : Int) < (rows.length : Int) := by omega
              have i3 : (0 : Int) ≤ (k : Int) := by omega
              have i4 : (k : Int) < (vs.length : Int) := by omega
              clear hv'
              generalize selR rows[j] V = row at *
              generalize vs[k] = vk at *
              generalize cnt (xs.take j) vk = n at *
              go_wp2_with fail
              refine HS.out.mono ?_
              rintro e w2 ⟨u', f2, rfl, ho2, hn2, hb2⟩
              have HX2 := Lib.hid (below_then HX.out hb2)
              obtain ⟨b3, off3, cap3, u3, e1, hbB3, hc3, hu3⟩ := HVK.out w2 HX2.out
              injection e1 with e1 e2 e3
              subst e1 e3
              have HCMP := Lib.hid (spec_cmp u' u3 row vk _ _ w2 (row_ri (rowC.ow_rd ho2)).1 (row_ri hu3).1)
              clear ho2 hn2 hb2 hu3
              by_cases hz : cmpR row vk = 0
              · rw [if_pos hz] at HNX
                rw [hz] at HCMP
                clear hz
                go_wp2_with fail
                refine HCMP.out.mono ?_
                rintro e w3 ⟨rfl, hq⟩
                have HX3 := Lib.hid (below_then HX2.out (below_q hq))
                clear hq
                go_wp2_with fail
                go_roundw
                case rel => exact ⟨j + 1, by omega, by go_num, by rw [HNX.out]; go_num, HX3.out⟩
                case measure => simp [intOf]; omega
              · rw [if_neg hz] at HNX
                generalize cmpR row vk = z at *
                go_wp2_with fail
                refine HCMP.out.mono ?_
                rintro e w3 ⟨rfl, hq⟩
                have HX3 := Lib.hid (below_then HX2.out (below_q hq))
                clear hq
                go_wp2_with fail
                go_roundw
                case rel => exact ⟨j + 1, by omega, by go_num, by rw [HNX.out]; go_num, HX3.out⟩
                case measure => simp [intOf]; omega
            · have ej : j = rows.length := by omega
              subst ej
              have HN0 := Lib.hid (Cd.ow_later HNW.out HX.out)
              have HV0 := Lib.hid (Cd.ow_later HOV.out HX.out)
              have HL0 := Lib.hid (HLX.out.later HX.out)
              rw [HEND.out] at hcl
              rw [HEND.out]
              generalize cnt xs vs[k] = n at *
              have hbA := below_alloc wr (.cells #[.int .i64 (n : Int)] 3)
              have hcA : (wr.alloc (.cells #[.int .i64 (n : Int)] 3)).cell? ⟨wr.heap.size, 0, none⟩ = some (.int .i64 (n : Int)) := by simp
              have N1 := Lib.hid (Cd.ow_later HN0.out hbA)
              have V1 := Lib.hid (Cd.ow_later HV0.out hbA)
              have L1 := Lib.hid (HL0.out.later hbA)
              have C1 := Lib.hid hcA
              have B1 := Lib.hid (below_then HBJ.out hbA)
              have Y1 := Lib.hid (show Cd.int.ow (wr.alloc (.cells #[.int .i64 (n : Int)] 3)) w.heap.size [.int .i64 (n : Int)] (n : Int) [] from ⟨rfl, by omega, rfl⟩)
              have hcl8 : cl.length + 1 ≤ 1000000000000 := by have := HKL.out; have := HVL.out; omega
              clear hbA hcA
              go_wp2_with (at_builtin; refine Cd.wpList_appendE (c := Cd.int) rfl rfl (.tmp 76) (.tmp 78) 24 rfl w.heap.size 3 (.int .i64 0) 8 Try.underlying24 info_i64 rfl (by decide) _ _ _ rfl N1.out HNN.out _ _ rfl C1.out _ _ Y1.out (by simp) (by simp) hcl8 B1.out.size ?_)
              intro g cap3 w3 f3 ho3 hn3 hs3 ht3
              have N3 := Lib.hid ho3
              have D3 := Lib.hid hn3
              have V3 := Lib.hid (Cd.ow_touched V1.out ht3 (fun b hb q => HDI.out b hb q))
              have I3 := Lib.hid (show ∀ b ∈ fp, b ∉ f3 from fun b hb q => by
                rcases hs3 b q with h | h
                · exact HDI.out b hb h
                · have h1 := (rowsC.ow_lt HV0.out b hb).2; (try rw [size_alloc] at h); (try simp only [size_alloc, World.alloc, Array.size_push] at h); omega)
              have L3 := Lib.hid (L1.out.touched ht3 HBX.out)
              have X3 := Lib.hid (show w.heap.size ∉ f3 from fun q => by
                rcases hs3 _ q with h | h
                · exact HBX.out h
                · have h1 := HL0.out.lt; (try rw [size_alloc] at h); (try simp only [size_alloc, World.alloc, Array.size_push] at h); omega)
              have B3 := Lib.hid (Cd.Touch.below B1.out ht3 (fun b hb => (rowC.ow_lt N1.out b hb).1))
              have hv8 := HVL.out
              have TK := Lib.hid (show cl ++ [(n : Int)] = (vs.take (k + 1)).map (cntI xs) from HTK.out.symm)
              clear ho3 hn3 hs3 ht3
              go_wp2_with fail
              go_roundw
              case rel => exact ⟨k + 1, f3, by omega, by go_num, by rw [← TK.out]; exact N3.out, D3.out, V3.out, I3.out, L3.out, X3.out, B3.out⟩
              case measure => simp [intOf]; omega
        · have ek : k = vs.length := by omega
          subst ek
          rw [List.take_length] at HNW
          rw [List.take_length] at *
          go_wp2_with fail
          go_ret2
          exact ⟨_, _, fp, fn, rfl, by rw [HE1.out]; exact HOV.out, by rw [HE2.out]; exact HNW.out, HND.out, HNN.out, HDI.out, HBV.out⟩
end Go.Proofs.Ytklamhnecncenaa.DegSpec
