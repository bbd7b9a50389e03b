/- Tables: the model's deleting. -/
import Derived.Test.YtmifnbplkaonaaaGreatTabIns
namespace Go.Proofs.YtmifnbplkaonaaaGreat.TabSpec
open Go Go.RowKit Byt Ints IntsLaw Cd Rows2 Tab

/-- The rows but row. -/
def dropR (rows : List (List Int)) (row : List Int) : List (List Int) := rows.filter fun r => decide (r ≠ row)
def delR (nm : ByteArray) (ar : Int) (rows : List (List Int)) (row : List Int) : List (List Int) := if hasR nm ar rows row then dropR rows row else rows
theorem dropR_len (rows : List (List Int)) (row : List Int) : (dropR rows row).length ≤ rows.length := List.length_filter_le _ _
theorem dropR_skip {rows : List (List Int)} {row : List Int} {k : Nat} (h : k < rows.length) (he : rows[k] = row) : dropR (rows.take (k + 1)) row = dropR (rows.take k) row := by
  unfold dropR
  rw [List.take_succ_eq_append_getElem h, List.filter_append]
  simp [he]
theorem dropR_next {rows : List (List Int)} {row : List Int} {k : Nat} (h : k < rows.length) (he : rows[k] ≠ row) : dropR (rows.take (k + 1)) row = dropR (rows.take k) row ++ [rows[k]] := by
  unfold dropR
  rw [List.take_succ_eq_append_getElem h, List.filter_append]
  simp [he]

theorem Fr.made {w : World} {X : Nat} {nm : ByteArray} {ar : Int} {tv u0 u' z0 z1 z2 : Value} {rows : List (List Int)} {fp : List Nat} {W : World} (b : Below w.heap.size w W) (t : Loc3 W w.heap.size (.string nm) (.int .i64 ar) tv)
    (r : Loc3 W (w.heap.size + 1) z0 z1 z2) (x : Loc3 W X (.string nm) (.int .i64 ar) u0) (o : rowsC.ow W (w.heap.size + 2) [u'] rows fp) (n : fp.Nodup) (d : X ∉ fp) (g : w.heap.size + 2 ≤ X) : Fr w X nm ar tv u' z0 z1 z2 rows fp (W.setCell ⟨X, 2, none⟩ u') :=
  ⟨b.setCell (by show _ ≤ X; omega) _, t.set_far (by show X ≠ _; omega) _, r.set_far (by show X ≠ _; omega) _, x.set2 _, ow_setCell o d _, n, d, g⟩

set_option maxRecDepth 100000 in
set_option maxHeartbeats 6400000 in
theorem spec_delete (nm : ByteArray) (ar : Int) (u v : Value) (rows : List (List Int)) (row : List Int) (S S2 : Nat → Prop) (w : World) (hr : rowsC.rd w S [u] rows) (hv : rowC.rd w S2 [v] row) (hrw : rowsWt rows ≤ 1073741824) :
    Calls Tryz.prog 27 #[.agg #[.string nm, .int .i64 ar, u], v] w fun e w' => ∃ u' fp, e = .returned (.tuple #[.agg #[.string nm, .int .i64 ar, u'], .bool (hasR nm ar rows row)]) ∧ rowsC.ow w' w.heap.size [u'] (delR nm ar rows row) fp ∧ fp.Nodup ∧ Below w.heap.size w w' := by
  have HR := Lib.hid (fun w' (hb : Below w.heap.size w w') => Cd.later hr hb)
  have HV := Lib.hid (fun w' (hb : Below w.heap.size w w') => Cd.later hv hb)
  have HWT := Lib.hid hrw
  have hll : rows.length ≤ 1073741824 := by unfold rowsWt at hrw; omega
  obtain ⟨a, cap, rfl, hlm⟩ := rows_form hr
  obtain ⟨av, cv, rfl, _⟩ := (row_ri hv).1
  clear hr hv hrw
  go_enter Tryz.func27, Tryz.ntmps27
  go_wp2_with fail
  generalize hW : (w.alloc _).alloc _ = W
  obtain ⟨r0, r1, hz, hb0⟩ := start2g w _ _ hW
  clear hW
  refine (spec_copy nm ar _ rows S W (HR.out W hb0) HWT.out).mono ?_
  rintro e W1 ⟨u', fp, rfl, how, hnd, hb1⟩
  obtain ⟨ax, cx, rfl⟩ := rows_slice how
  have l0 := (Loc3.of r0).later hb1
  have l1 := (Loc3.of r1).later hb1
  have hs1 := hb1.size
  have HFR := Lib.hid (show Fr w W1.heap.size nm ar (.slice a rows.length cap) (.slice ax rows.length cx) _ _ _ rows fp (W1.alloc (.cells #[.string nm, .int .i64 ar, .slice ax rows.length cx] 51 (0, 0))) from
    ⟨below_then (below_then hb0 hb1) (below_alloc _ _), l0.later (below_alloc _ _), l1.later (below_alloc _ _), Loc3.of (row_alloc _ _), Cd.ow_later (rowsC.ow_base how (by omega)) (below_alloc _ _), hnd, fun q => by have := (rowsC.ow_lt how _ q).2; omega, by omega⟩)
  obtain ⟨d0, d1, d2, _, _, _⟩ := l0
  have hH : w.heap.size < W1.heap.size := by omega
  clear r0 r1 hz hb0 hb1 how hnd l1 hs1
  go_wp2_with fail
  generalize hW2 : W1.alloc _ = W2 at *
  generalize W1.heap.size = X at *
  clear hW2 d0 d1 d2 hH
  have HCT := Lib.hid (spec_contains nm ar _ _ rows row S S2 W2 (HR.out W2 HFR.out.b) (HV.out W2 HFR.out.b))
  refine HCT.out.mono ?_
  rintro e W3 ⟨rfl, hb3⟩
  have HF3 := Lib.hid (HFR.out.later hb3)
  clear hb3 HCT
  by_cases hin : hasR nm ar rows row = true
  case neg =>
    have hin : hasR nm ar rows row = false := by simpa using hin
    have HWHY := Lib.hid hin
    rw [hin]
    clear hin
    obtain ⟨y0, y1, y2, _, _, _⟩ := HF3.out.x
    obtain ⟨p0, p1, p2, q0, q1, q2⟩ := HF3.out.r
    go_wp2_with fail
    obtain ⟨k0, k1, k2⟩ := set3 (w := W3) (k := w.heap.size + 1) (x := .string nm) (y := .int .i64 ar) (z := .slice ax rows.length cx) p0 p1 p2
    refine bodyPost_ret (v := .tuple #[.agg #[.string nm, .int .i64 ar, .slice ax rows.length cx], .bool false]) (by simp [results, Tryz.results27, go_sem, k0, k1, k2]) rfl ⟨_, fp, by rw [HWHY.out], ?_, HF3.out.n, ?_⟩
    · rw [delR, HWHY.out]
      exact rowsC.ow_base (ow_setCell (ow_setCell (ow_setCell HF3.out.o HF3.out.not1 _) HF3.out.not1 _) HF3.out.not1 _) (by omega)
    · exact ((HF3.out.b.setCell (by show _ ≤ w.heap.size + 1; omega) _).setCell (by show _ ≤ w.heap.size + 1; omega) _).setCell (by show _ ≤ w.heap.size + 1; omega) _
  have HWHY := Lib.hid hin
  rw [hin]
  clear hin
  obtain ⟨y0, y1, y2, g0, g1, g2⟩ := HF3.out.x
  have HHX := Lib.hid HF3.out.x.lt
  have hsz3 : ∀ v, (W3.setCell ⟨X, 2, none⟩ v).heap.size = W3.heap.size := fun v => by simp
  have ho3 := Cd.ow_empty (e := 27) (c := rowC) (W3.setCell ⟨X, 2, none⟩ (.slice (some ⟨W3.heap.size, 0, none⟩) 0 0)) (w.heap.size + 2) (by rw [hsz3]; have := HF3.out.g; have := HHX.out; omega)
  rw [hsz3] at ho3
  have HE3 := Lib.hid (show Fr w X nm ar (.slice a rows.length cap) (.slice (some ⟨W3.heap.size, 0, none⟩) 0 0) (.string ⟨#[]⟩) (.int .i64 0) (.slice none 0 0) [] [W3.heap.size] ((W3.setCell ⟨X, 2, none⟩ (.slice (some ⟨W3.heap.size, 0, none⟩) 0 0)).alloc (.cells #[] 27)) from
    ⟨(HF3.out.b.setCell (by show _ ≤ X; have := HF3.out.g; omega) _).alloc (by rw [hsz3]; exact HF3.out.b.size) _, (HF3.out.t.set_far (by show X ≠ _; have := HF3.out.g; omega) _).later (below_alloc _ _), (HF3.out.r.set_far (by show X ≠ _; have := HF3.out.g; omega) _).later (below_alloc _ _), (HF3.out.x.set2 _).later (below_alloc _ _),
      ho3, by simp, fun q => by have := HHX.out; simp at q; omega, HF3.out.g⟩)
  have hxlt : X < W3.heap.size := HHX.out
  clear ho3 hsz3
  go_wp2_with fail
  clear y0 y1 y2 g0 g1 g2 hxlt HFR HF3
  go_loopw [7] (fun i wr => ∃ (k : Nat) (o : Value) (out : List (List Int)) (fp : List Nat), k ≤ rows.length ∧ i = .int .i64 k ∧ Hid (out = dropR (rows.take k) row) ∧ Fr w X nm ar (.slice a rows.length cap) o (.string ⟨#[]⟩) (.int .i64 0) (.slice none 0 0) out fp wr) (fun i _ => rows.length - (intOf i).toNat)
  case atStart => exact ⟨0, _, [], _, Nat.zero_le _, rfl, Lib.hid (by simp [dropR]), HE3.out⟩
  case round =>
    obtain ⟨k, o, out, fp, hk, rfl, HOUT, hfr⟩ := hrel
    have HF := Lib.hid hfr
    obtain ⟨d0, d1, d2, _, _, _⟩ := hfr.t
    obtain ⟨ao, co, rfl⟩ := Cd.ow_slice hfr.o
    clear hfr
    by_cases hlt : k < rows.length
    · obtain ⟨b, off, cap', v', e1, hbB, hc, hv'⟩ := rows_at (HR.out wr HF.out.b) hlt
      injection e1 with e1 e2 e3
      subst e1 e3
      have p1 : (0 : Int) ≤ (k : Int) := by omega
      have p2 : (k : Int) < (rows.length : Int) := by omega
      have HC := Lib.hid (spec_cmp v' _ rows[k] row _ _ wr (row_ri hv').1 (row_ri (HV.out wr HF.out.b)).1)
      have HLO := Lib.hid (show out.length + 1 ≤ 1000000000000 by rw [HOUT.out]; have := dropR_len (rows.take k) row; rw [List.length_take] at this; omega)
      clear hv'
      by_cases hz : cmpR rows[k] row = 0
      · have HSK := Lib.hid (HOUT.out.trans (dropR_skip hlt (cmpR_eq hz)).symm)
        rw [hz] at HC
        clear hz
        go_wp2_with fail
        refine HC.out.mono ?_
        rintro e w1 ⟨rfl, hq⟩
        have HF1 := Lib.hid (HF.out.later (below_q hq))
        clear hq
        go_wp2_with fail
        go_roundw
        case rel => exact ⟨k + 1, _, out, fp, by omega, by go_num, HSK, HF1.out⟩
        case measure => simp [intOf]; omega
      · have HNX := Lib.hid (show out ++ [rows[k]] = dropR (rows.take (k + 1)) row by rw [HOUT.out]; exact (dropR_next hlt (fun q => hz (by rw [q]; exact cmpR_self _))).symm)
        have hz2 : (cmpR rows[k] row == 0) = false := by rw [beq_eq_false_iff_ne]; exact hz
        generalize cmpR rows[k] row = z at *
        clear hz
        go_wp2_with fail
        refine HC.out.mono ?_
        rintro e wr2 ⟨rfl, hq⟩
        have HF1 := Lib.hid (HF.out.later (below_q hq))
        clear hq HC d0 d1 d2 hc
        obtain ⟨d0, d1, d2, _, _, _⟩ := HF1.out.t
        obtain ⟨x0, x1, x2, g0, g1, g2⟩ := HF1.out.x
        obtain ⟨b', off', cap', v2, e1, hbB', hc, hv2⟩ := rows_at (HR.out wr2 HF1.out.b) hlt
        injection e1 with e1 e2 e3
        injection e1 with e1
        injection e1 with e1 e2 _
        subst e1 e2 e3
        have HK := Lib.hid (show rowC.rd wr2 S [v2] rows[k] from hv2)
        clear hv2
        have ca1 := cell_alloc_some d2 (.cells #[] 3)
        have ca2 := cell_alloc_some x2 (.cells #[] 3)
        have ca3 := cell_alloc_some hc (.cells #[] 3)
        have HL2 := Lib.hid (show rows[k].length ≤ 1073741824 by have := HWT.out; have := row_len hlt; unfold rowsWt at *; omega)
        have HXL := Lib.hid HF1.out.x.lt
        have HH := Lib.hid (show w.heap.size + 2 ≤ wr2.heap.size by have := HXL.out; have := HF1.out.g; omega)
        have HE := Lib.hid (show rowC.ow (wr2.alloc (.cells #[] 3)).drew (w.heap.size + 2) [.slice (some ⟨wr2.heap.size, 0, none⟩) 0 0] [] [wr2.heap.size] from rowC.ow_keep (show rowC.ow (wr2.alloc (.cells #[] 3)) _ _ _ _ from Cd.ow_empty wr2 _ HH.out) fun _ _ => rfl)
        have HKA := Lib.hid (show rowC.rd (wr2.alloc (.cells #[] 3)).drew S [v2] rows[k] from rowC.keep (Cd.later HK.out (below_alloc _ (.cells #[] 3))) fun _ _ _ => rfl)
        have HHA := Lib.hid (show w.heap.size + 2 ≤ (wr2.alloc (.cells #[] 3)).drew.heap.size from Nat.le_trans HH.out (below_alloc wr2 (.cells #[] 3)).size)
        go_wp2
        go_region_law (first | (refine Cd.step_appendRI rfl (.tmp 34) (.tmp 39) 27 rfl (w.heap.size + 2) 3 Tryz.underlying27 info_i64 _ [] _ rfl HE.out v2 rows[k] _ rfl HKA.out (by have := HL2.out; simp; omega) HHA.out ?_; intro v1 w2 f1 ho1 hn1 hs1 ht1; obtain ⟨a1, c1, rfl⟩ := Cd.ow_slice ho1; (have hht := touch_undrew ht1); (have HCP := Lib.hid (copied (c := rowsC) (d := rowC) HF1.out.o HH.out ho1 (by simpa using hs1) hht (.cells #[.slice a1 (rows[k]).length c1] 27))); (have kc : (w2.alloc (.cells #[.slice a1 (rows[k]).length c1] 27)).cell? ⟨w2.heap.size, 0, none⟩ = some (.slice a1 (rows[k]).length c1) := by simp); (have KC := Lib.hid kc); (have KN := Lib.hid hn1); (have HF1G := Lib.hid (show ∀ q ∈ f1, wr2.heap.size ≤ q from fun q hq => (hs1 q hq).elim (fun h => by simp at h; omega) (fun h => by simp at h; omega))); (have HX2 := Lib.hid (Loc3.touched (Loc3.later HF1.out.x (below_alloc wr2 (.cells #[] 3))) hht (by have := HXL.out; simp; omega))); (have y2 := HX2.out.c2); (have HX3 := Lib.hid (Loc3.later HX2.out (below_alloc w2 (.cells #[.slice a1 (rows[k]).length c1] 27)))); (have z2 := HX3.out.c2); clear kc ho1 hs1 ht1 hn1 hht) | (refine Cd.step_appendE (c := rowC) rfl rfl (.tmp 33) (.tmp 41) 49 rfl (w.heap.size + 2) 27 (.slice none 0 0) 24 Tryz.underlying49 info_ints rfl (by decide) _ _ _ rfl HCP.out.1 HF1.out.n _ _ rfl KC.out _ _ HCP.out.2.1 KN.out HCP.out.2.2.1 HLO.out HCP.out.2.2.2.2 ?_; intro g capA w3 fp3 ho3 hn3 hs3 ht3; (have HO3 := Lib.hid ho3); (have HN3 := Lib.hid hn3); (have HX4 := Lib.hid (Loc3.touched HX3.out ht3 HF1.out.d)); (have q2 := HX4.out.c2); (have qf := HX4.out.f2); (have HF4 := Lib.hid (And.intro (Cd.Touch.below (below_then HF1.out.b HCP.out.2.2.2.1) ht3 (fun b hb => Nat.le_trans (by omega) (rowsC.ow_lt HF1.out.o b hb).1)) (And.intro ((HF1.out.t.later HCP.out.2.2.2.1).touched ht3 (fun q => by have := (rowsC.ow_lt HF1.out.o _ q).1; omega)) (And.intro ((HF1.out.r.later HCP.out.2.2.2.1).touched ht3 HF1.out.not1) (show X ∉ fp3 from fun q => (hs3 X q).elim HF1.out.d (fun q => q.elim (fun q => by have := HXL.out; have := HF1G.out X q; omega) (fun q => by have := HXL.out; have := HCP.out.2.2.2.1.size; omega))))))); clear ho3 hn3 hs3 ht3))
        all_goals
          go_wp2
          go_roundw
          case rel =>
            refine ⟨k + 1, .slice (some ⟨g, 0, none⟩) (out.length + 1) capA, out ++ [rows[k]], fp3, by omega, by go_num, HNX, ?_⟩
            exact Fr.made HF4.out.1 HF4.out.2.1 HF4.out.2.2.1 HX4.out HO3.out HN3.out HF4.out.2.2.2 HF1.out.g
          case measure => simp [intOf]; omega
    · have ek : k = rows.length := by omega
      subst ek
      have HFI := Lib.hid (show out = dropR rows row by have := HOUT.out; rw [List.take_length] at this; exact this)
      clear d0 d1 d2
      obtain ⟨d0, d1, d2, _, _, _⟩ := HF.out.t
      obtain ⟨y0, y1, y2, _, _, _⟩ := HF.out.x
      obtain ⟨p0, p1, p2, q0, q1, q2⟩ := HF.out.r
      go_wp2_with fail
      obtain ⟨k0, k1, k2⟩ := set3 (w := wr) (k := w.heap.size + 1) (x := .string nm) (y := .int .i64 ar) (z := .slice ao out.length co) p0 p1 p2
      refine bodyPost_ret (v := .tuple #[.agg #[.string nm, .int .i64 ar, .slice ao out.length co], .bool true]) (by simp [results, Tryz.results27, go_sem, k0, k1, k2]) rfl ⟨_, fp, by rw [HWHY.out], ?_, HF.out.n, ?_⟩
      · rw [delR, HWHY.out, ← HFI.out]
        exact rowsC.ow_base (ow_setCell (ow_setCell (ow_setCell HF.out.o HF.out.not1 _) HF.out.not1 _) HF.out.not1 _) (by omega)
      · exact ((HF.out.b.setCell (by show _ ≤ w.heap.size + 1; omega) _).setCell (by show _ ≤ w.heap.size + 1; omega) _).setCell (by show _ ≤ w.heap.size + 1; omega) _
end Go.Proofs.YtmifnbplkaonaaaGreat.TabSpec
