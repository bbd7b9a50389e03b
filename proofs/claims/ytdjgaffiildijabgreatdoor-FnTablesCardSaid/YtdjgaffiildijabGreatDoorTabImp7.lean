/- Tables: deleting: the program's functions. -/
import Derived.Test.YtdjgaffiildijabGreatDoorTabImp5
import Derived.Test.YtdjgaffiildijabGreatDoorTabImp6
import Derived.Test.YtdjgaffiildijabGreatDoorCdCut
namespace Go.Proofs.YtdjgaffiildijabGreatDoor.TabImp
open Go Go.RowKit Byt Ints IntsLaw Cd Rows2 Tab TabSpec Exact

theorem dropR_erase {rows : List (List Int)} {row : List Int} {i : Nat} (ha : Asc rows) (hi : i < rows.length) (he : rows[i] = row) : dropR rows row = rows.eraseIdx i := by
  have e : rows = rows.take i ++ rows[i] :: rows.drop (i + 1) := by rw [← drop_at hi, List.take_append_drop]
  have h1 : (rows.take i).filter (fun r => decide (r ≠ row)) = rows.take i := by
    rw [List.filter_eq_self]
    intro r hr
    obtain ⟨t, ht, rfl⟩ := List.getElem_of_mem hr
    have ht' : t < i := by rw [List.length_take] at ht; omega
    rw [List.getElem_take]
    have := asc_lt ha ht' hi
    exact decide_eq_true fun q => by rw [q, he, cmpR_self] at this; omega
  have h2 : (rows.drop (i + 1)).filter (fun r => decide (r ≠ row)) = rows.drop (i + 1) := by
    rw [List.filter_eq_self]
    intro r hr
    obtain ⟨t, ht, rfl⟩ := List.getElem_of_mem hr
    rw [List.length_drop] at ht
    rw [List.getElem_drop]
    have := asc_lt ha (show i < i + 1 + t by omega) (show i + 1 + t < rows.length by omega)
    exact decide_eq_true fun q => by rw [q, he, cmpR_self] at this; omega
  rw [List.eraseIdx_eq_take_drop_succ]
  conv => lhs; rw [dropR, e]
  rw [List.filter_append, h1, List.filter_cons, if_neg (by simp [he]), h2]

theorem flat_erase : ∀ (l : List (List Nat)) (i : Nat), (l.eraseIdx i).flatten.Sublist l.flatten
  | [], i => by cases i <;> exact List.Sublist.refl _
  | x :: xs, 0 => List.sublist_append_right x _
  | x :: xs, i + 1 => (List.Sublist.refl x).append (flat_erase xs i)

set_option maxRecDepth 100000 in
theorem delete_rows (g n cap i : Nat) (rows : List (List Int)) (fp : List Nat) (base : Nat) (w : World) (how : rowsC.ow w base [.slice (some ⟨g, 0, none⟩) n cap] rows fp) (hnd : fp.Nodup) (hi : i < rows.length) :
    Calls Tryz.prog 55 #[.slice (some ⟨g, 0, none⟩) n cap, .int .i64 i, .int .i64 ((i : Int) + 1)] w fun e w' => ∃ fp', e = .returned (.slice (some ⟨g, 0, none⟩) (n - 1) cap) ∧ rowsC.ow w' base [.slice (some ⟨g, 0, none⟩) (n - 1) cap] (rows.eraseIdx i) fp' ∧ fp'.Nodup ∧ (∀ b ∈ fp', b ∈ fp) ∧ Cd.Touch [g] w w' := by
  obtain ⟨i0, hi0, hz0, hz1, hz2⟩ := info_parts info_ints
  obtain ⟨cur, xss, fps, hg, hcs, hnl, hnc, hcm, hb, ht, hE, rfl⟩ := Cd.ow_bare (c := rowC) rfl how
  have h1 := hE.one
  have hlen : xss.flatten.length = rows.length := by rw [hE.flatten_len]; exact Nat.mul_one _
  have hol : (Cd.ones xss.flatten h1).length = rows.length := by rw [Cd.ones_length, hlen]
  have hH := Cd.holds_ones h1 hg ht
  have hd := Tryz.slices_Delete Cd.One.v (fun x => x.one) ⟨.slice none 0 0, rfl⟩ Tryz.zeroValue35 i0 hi0 hz1 g 0 cap i (i + 1) (Cd.ones xss.flatten h1).toArray w hH (by rw [List.size_toArray, hol]; omega) (by unfold maxLen at hcm; omega) (by omega) (by rw [List.size_toArray, hol]; omega)
  rw [List.size_toArray, hol, ← hnl] at hd
  refine hd.mono ?_
  rintro e w' ⟨rfl, q, rfl⟩
  have e1 : i + 1 - i = 1 := by omega
  rw [e1]
  have hsz : ((Cd.ones xss.flatten h1).take i ++ (Cd.ones xss.flatten h1).drop (i + 1) ++ List.replicate 1 (⟨.slice none 0 0, rfl⟩ : Cd.One)).length = n := by
    rw [List.length_append, List.length_append, List.length_take, List.length_drop, List.length_replicate, hol]
    omega
  have hn1 : n - 1 = (rows.eraseIdx i).length := by rw [List.length_eraseIdx, if_pos hi]; omega
  refine ⟨_, rfl, Cd.ow_bared (c := rowC) rfl (Cd.heap_putRow _ _ g _ (show (Sort.ahead w q).heap[g]? = _ from hg)) (by rw [Cd.putCells_size]; exact hcs) hn1 (by omega) hcm hb ?_ ((hE.erase i).imp fun x a f hf hq => rowC.ow_keep hq fun b hbf => ?_), ?_, ?_, ?_⟩
  · rw [Cd.putCells_take _ _ _ (by rw [List.size_toArray, hsz]; omega) (by rw [List.size_toArray, hsz, hcs]; exact hnc)]
    rw [Cd.flatten_erase_one (c := rowC) rfl hE i, List.eraseIdx_eq_take_drop_succ]
    simp only [List.map_append, List.map_take, List.map_drop, Cd.ones_val]
    rw [List.take_append_of_le_length (by rw [List.length_append, List.length_take, List.length_drop, hlen]; omega)]
    exact List.take_of_length_le (by rw [List.length_append, List.length_take, List.length_drop, hlen]; omega)
  · refine Cd.heap_putRow_other _ _ g _ fun q => ?_
    subst q
    have hfl : b ∈ fps.flatten := List.mem_flatten.2 ⟨f, List.mem_of_mem_eraseIdx hf, hbf⟩
    exact (List.nodup_cons.1 hnd).1 hfl
  · rw [List.nodup_cons] at hnd ⊢
    exact ⟨fun q => hnd.1 ((flat_erase _ _).subset q), hnd.2.sublist (flat_erase _ _)⟩
  · intro b hb
    rcases List.mem_cons.1 hb with rfl | q
    · exact List.mem_cons_self
    · exact List.mem_cons_of_mem _ ((flat_erase _ _).subset q)
  · exact (Cd.touch_ahead _ w q).trans (Cd.touch_putRow _ _ g _)

set_option maxRecDepth 100000 in
set_option maxHeartbeats 3200000 in
theorem impl_delete (nm : ByteArray) (ar : Int) (u v : Value) (rows : List (List Int)) (row : List Int) (S S2 : Nat → Prop) (w : World) (hr : rowsC.rd w S [u] rows) (hv : rowC.rd w S2 [v] row) (hrw : rowsWt rows ≤ 1048577) (hnm : nm.size ≤ 1048577) :
    Calls Tryz.prog 15 #[.agg #[.string nm, .int .i64 ar, u], v] w fun e w' => ∃ u' fp, e = .returned (.tuple #[.agg #[.string nm, .int .i64 ar, u'], .bool (hasR nm ar rows row)]) ∧ rowsC.ow w' w.heap.size [u'] (delR nm ar rows row) fp ∧ fp.Nodup ∧ Below w.heap.size w w' := by
  have HR := Lib.hid (fun w' (hb : Below w.heap.size w w') => Cd.later hr hb)
  have HV := Lib.hid (fun w' (hb : Below w.heap.size w w') => Cd.later hv hb)
  have HWT := Lib.hid hrw
  have HNM := Lib.hid hnm
  obtain ⟨a, cap, rfl, hlm⟩ := rows_form hr
  obtain ⟨av, cv, rfl, _⟩ := (row_ri hv).1
  clear hr hv hrw hnm
  go_enter Tryz.func15, Tryz.ntmps15
  go_wp2_with fail
  generalize hW : (w.alloc _).alloc _ = W
  obtain ⟨r0, r1, hz, hb0⟩ := start2g w _ _ hW
  clear hW
  refine (copy_table nm ar _ rows S W (HR.out W hb0) HWT.out HNM.out).mono ?_
  rintro e W1 ⟨gx, fp, rfl, how, hnd, hb1⟩
  have l0 := (Loc3.of r0).later hb1
  have l1 := (Loc3.of r1).later hb1
  have hs1 := hb1.size
  have HFR := Lib.hid (show Fr w W1.heap.size nm ar (.slice a rows.length cap) (.slice (some ⟨gx, 0, none⟩) rows.length rows.length) _ _ _ rows fp (W1.alloc (.cells #[.string nm, .int .i64 ar, .slice (some ⟨gx, 0, none⟩) rows.length rows.length] 34 (0, 0))) from
    ⟨below_then (below_then hb0 hb1) (below_alloc _ _), l0.later (below_alloc _ _), l1.later (below_alloc _ _), Loc3.of (row_alloc _ _), Cd.ow_later (rowsC.ow_base how (by omega)) (below_alloc _ _), hnd, fun q => by have := (rowsC.ow_lt how _ q).2; omega, by omega⟩)
  obtain ⟨d0, d1, d2, _, _, _⟩ := l0
  have hH : w.heap.size < W1.heap.size := by omega
  have HN := Lib.hid (And.intro hH (show w.heap.size + 1 < W1.heap.size by omega))
  clear r0 r1 hz hb0 hb1 how hnd l1 hs1
  go_wp2_with fail
  generalize hW2 : W1.alloc _ = W2 at *
  generalize W1.heap.size = X at *
  clear hW2 d0 d1 d2 hH
  have HFD := Lib.hid (find_row nm ar _ _ rows row S S2 W2 (HR.out W2 HFR.out.b) (HV.out W2 HFR.out.b))
  refine HFD.out.mono ?_
  rintro e W3 ⟨i, rfl, hfd, hil, hb3⟩
  have HF := Lib.hid (HFR.out.later hb3)
  have HFP := Lib.hid hfd
  have HIL := Lib.hid hil
  clear hb3 hfd hil
  by_cases hin : hasR nm ar rows row = true
  case neg =>
    have hin : hasR nm ar rows row = false := by simpa using hin
    have HD := Lib.hid (show delR nm ar rows row = rows by rw [delR, hin]; rfl)
    have HIN := Lib.hid hin
    rw [hin]
    clear hin
    obtain ⟨y0, y1, y2, _, _, _⟩ := HF.out.x
    obtain ⟨p0, p1, p2, q0, q1, q2⟩ := HF.out.r
    go_wp2_with fail
    obtain ⟨k0, k1, k2⟩ := set3 (w := W3) (k := w.heap.size + 1) (x := .string nm) (y := .int .i64 ar) (z := .slice (some ⟨gx, 0, none⟩) rows.length rows.length) p0 p1 p2
    refine bodyPost_ret (v := .tuple #[.agg #[.string nm, .int .i64 ar, .slice (some ⟨gx, 0, none⟩) rows.length rows.length], .bool false]) (by simp [results, Tryz.results15, go_sem, k0, k1, k2]) rfl ⟨_, fp, by rw [HIN.out], ?_, HF.out.n, ?_⟩
    · rw [HD.out]
      exact rowsC.ow_base (ow_setCell (ow_setCell (ow_setCell HF.out.o HF.out.not1 _) HF.out.not1 _) HF.out.not1 _) (by omega)
    · exact ((HF.out.b.setCell (by show _ ≤ w.heap.size + 1; omega) _).setCell (by show _ ≤ w.heap.size + 1; omega) _).setCell (by show _ ≤ w.heap.size + 1; omega) _
  have hP := of_decide_eq_true hin
  have hasc := hP.1.2.2.2.2.2
  obtain ⟨hi, he⟩ := (find_mem hasc (HFP.out (decide_eq_true hP.1))).1 hP.2
  have HD := Lib.hid (show delR nm ar rows row = rows.eraseIdx i by rw [delR, hin, if_pos rfl]; exact dropR_erase hasc hi he)
  have HIN := Lib.hid hin
  rw [hin]
  have HDEL := Lib.hid (delete_rows gx rows.length rows.length i rows fp (w.heap.size + 2) W3 HF.out.o HF.out.n hi)
  have HI := Lib.hid hi
  have hi63 : (i : Int) + 1 ≤ 9223372036854775807 := by have := HWT.out; unfold rowsWt at this; omega
  have HGX := Lib.hid (show gx ∈ fp from by
    obtain ⟨_, _, _, _, _, _, _, _, _, _, _, e1⟩ := Cd.ow_bare (c := rowC) rfl HF.out.o
    rw [e1]; exact List.mem_cons_self)
  clear hin hP hasc hi he
  obtain ⟨y0, y1, y2, g0, g1, g2⟩ := HF.out.x
  go_wp2_with fail
  refine HDEL.out.mono ?_
  rintro e W5 ⟨fp5, rfl, ho5, hn5, hs5, ht5⟩
  have hX : X ∉ [gx] := fun q => HF.out.d (by rw [List.mem_singleton.1 q]; exact HGX.out)
  have hR : w.heap.size + 1 ∉ [gx] := fun q => HF.out.not1 (by rw [List.mem_singleton.1 q]; exact HGX.out)
  have hgx2 := (rowsC.ow_lt HF.out.o gx HGX.out).1
  have hT : w.heap.size ∉ [gx] := fun q => by have := List.mem_singleton.1 q; omega
  have hx2 := Loc3.set2 (HF.out.x.touched ht5 hX) (.slice (some ⟨gx, 0, none⟩) (rows.length - 1) rows.length)
  have HF5 := Lib.hid (show Fr w X nm ar (.slice a rows.length cap) (.slice (some ⟨gx, 0, none⟩) (rows.length - 1) rows.length) _ _ _ (rows.eraseIdx i) fp5 (W5.setCell ⟨X, 2, none⟩ (.slice (some ⟨gx, 0, none⟩) (rows.length - 1) rows.length)) from
    ⟨(ht5.below HF.out.b (fun b hb => by have := List.mem_singleton.1 hb; omega)).setCell (by show _ ≤ X; have := HF.out.g; omega) _, (HF.out.t.touched ht5 hT).set_far (by show X ≠ _; have := HF.out.g; omega) _, (HF.out.r.touched ht5 hR).set_far (by show X ≠ _; have := HF.out.g; omega) _, hx2,
      ow_setCell ho5 (fun q => HF.out.d (hs5 _ q)) _, hn5, fun q => HF.out.d (hs5 _ q), HF.out.g⟩)
  obtain ⟨z0, z1, z2, j0, j1, j2⟩ := HF.out.x.touched ht5 hX
  clear ho5 hn5 hs5 ht5 hX hR hT hx2 y0 y1 y2 g0 g1 g2 hgx2
  obtain ⟨y0, y1, y2, _, _, _⟩ := HF5.out.x
  obtain ⟨p0, p1, p2, q0, q1, q2⟩ := HF5.out.r
  go_wp2_with fail
  obtain ⟨k0, k1, k2⟩ := set3 (w := (W5.setCell ⟨X, 2, none⟩ (.slice (some ⟨gx, 0, none⟩) (rows.length - 1) rows.length))) (k := w.heap.size + 1) (x := .string nm) (y := .int .i64 ar) (z := .slice (some ⟨gx, 0, none⟩) (rows.length - 1) rows.length) p0 p1 p2
  refine bodyPost_ret (v := .tuple #[.agg #[.string nm, .int .i64 ar, .slice (some ⟨gx, 0, none⟩) (rows.length - 1) rows.length], .bool true]) (by simp [results, Tryz.results15, go_sem, k0, k1, k2]) rfl ⟨_, fp5, by rw [HIN.out], ?_, HF5.out.n, ?_⟩
  · rw [HD.out]
    exact rowsC.ow_base (ow_setCell (ow_setCell (ow_setCell HF5.out.o HF5.out.not1 _) HF5.out.not1 _) HF5.out.not1 _) (by omega)
  · exact ((HF5.out.b.setCell (by show _ ≤ w.heap.size + 1; omega) _).setCell (by show _ ≤ w.heap.size + 1; omega) _).setCell (by show _ ≤ w.heap.size + 1; omega) _
end Go.Proofs.YtdjgaffiildijabGreatDoor.TabImp
