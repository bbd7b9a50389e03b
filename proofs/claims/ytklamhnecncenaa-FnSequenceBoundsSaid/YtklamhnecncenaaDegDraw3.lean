/- Degree sequences: drawn: a table with columns, two sequences. -/
import Derived.Test.YtklamhnecncenaaDegDraw2
namespace Go.Proofs.Ytklamhnecncenaa.DegDraw
open Go Go.RowKit Byt Ints IntsLaw Draw LocDraw Cd Rows2 Tab TabSpec Exact DegMath DegSpec TabDraw

/-- A table in its cells, with the result's cells and the cursor. -/
structure PS (w : World) (c : Nat) (v : Value) (l : List UInt8) (X : Nat) (nm : ByteArray) (ar : Int) (u : Value) (rows : List (List Int)) (fp : List Nat) (W : World) : Prop where
  d : Loc3 W X (.string nm) (.int .i64 ar) u
  r : ∃ a b e, Loc3 W w.heap.size a b e
  ow : rowsC.ow W (w.heap.size + 2) [u] rows fp
  xn : X ∉ fp
  cr : CR W c v l w.heap.size
  ce : c = w.heap.size + 1
  xb : w.heap.size + 2 ≤ X
  bl : Below w.heap.size w W
section
variable {w : World} {c : Nat} {v : Value} {l : List UInt8} {X : Nat} {nm : ByteArray} {ar : Int} {u : Value} {rows : List (List Int)} {fp : List Nat} {W W' : World}
theorem PS.call (h : PS w c v l X nm ar u rows fp W) (hc : CR W' c v l w.heap.size) (ht : Cd.Touch [c] W W') : PS w c v l X nm ar u rows fp W' := by
  obtain ⟨a, b, e, hr⟩ := h.r
  have h1 := h.ce
  have h2 := h.xb
  exact ⟨h.d.touched ht (by simp only [List.mem_singleton]; omega), ⟨a, b, e, hr.touched ht (by simp only [List.mem_singleton]; omega)⟩, Cd.ow_touched h.ow ht (fun b hb q => by rw [List.mem_singleton.1 q] at hb; have := (rowsC.ow_lt h.ow _ hb).1; omega), h.xn, hc, h.ce, h.xb, Cd.Touch.below h.bl ht (fun b hb => by rw [List.mem_singleton.1 hb]; omega)⟩
theorem PS.later (h : PS w c v l X nm ar u rows fp W) (hb : Below W.heap.size W W') : PS w c v l X nm ar u rows fp W' := h.call (h.cr.later hb) (Cd.Touch.of_below hb)
theorem PS.store (h : PS w c v l X nm ar u rows fp W) {nm' : ByteArray} {ar' : Int} {u' : Value} {rows' : List (List Int)} {f' : List Nat} (hc : CR W' c v l w.heap.size) (ht : Cd.Touch [c] W W') (ho : rowsC.ow W' W.heap.size [u'] rows' f') :
    PS w c v l X nm' ar' u' rows' f' (((W'.setCell ⟨X, 0, none⟩ (.string nm')).setCell ⟨X, 1, none⟩ (.int .i64 ar')).setCell ⟨X, 2, none⟩ u') := by
  have k := h.call hc ht
  have h1 := h.ce
  have h2 := h.xb
  have h3 := h.d.lt
  have hxf : X ∉ f' := fun q => by have := (rowsC.ow_lt ho _ q).1; omega
  obtain ⟨a, b, e, hr⟩ := k.r
  obtain ⟨n0, n1, n2, _, _, _⟩ := k.d
  have hX : X ≠ w.heap.size := by omega
  have hcl : ∀ (A : World) (o : Nat) (x : Value), CR A c v l w.heap.size → CR (A.setCell ⟨X, o, none⟩ x) c v l w.heap.size := fun A o x hA =>
    hA.keep (fp := [X]) ⟨rfl, rfl, rfl, by simp, fun q _ hn => Below.heap_setCell A ⟨X, o, none⟩ x q (by simpa using hn)⟩ (by simp only [List.mem_singleton]; omega) (fun b hb => by rw [List.mem_singleton.1 hb]; omega)
  refine ⟨((k.d.set0 _).set1 _).set2 _, ⟨a, b, e, ((hr.set_far (p := ⟨X, 0, none⟩) hX _).set_far (p := ⟨X, 1, none⟩) hX _).set_far (p := ⟨X, 2, none⟩) hX _⟩, ?_, hxf, hcl _ _ _ (hcl _ _ _ (hcl _ _ _ k.cr)), h.ce, h.xb, ?_⟩
  · exact ow_setCell (ow_setCell (ow_setCell (rowsC.ow_base ho (by omega)) hxf _) hxf _) hxf _
  · exact ((k.bl.setCell (by show _ ≤ X; omega) _).setCell (by show _ ≤ X; omega) _).setCell (by show _ ≤ X; omega) _
theorem pair_done (h : PS w c v l X nm ar u rows fp W) {A : World} {B : Nat} {u' : Value} {cols : List Int} {f' : List Nat} (hs : SetS A c v l B u' cols f' W) (hA : w.heap.size + 2 ≤ A.heap.size) (x y z : Value) :
    rowsC.ow (((W.setCell ⟨w.heap.size, 0, none⟩ x).setCell ⟨w.heap.size, 1, none⟩ y).setCell ⟨w.heap.size, 2, none⟩ z) w.heap.size [u] rows fp ∧ rowC.ow (((W.setCell ⟨w.heap.size, 0, none⟩ x).setCell ⟨w.heap.size, 1, none⟩ y).setCell ⟨w.heap.size, 2, none⟩ z) w.heap.size [u'] cols f' ∧
      Below w.heap.size w (((W.setCell ⟨w.heap.size, 0, none⟩ x).setCell ⟨w.heap.size, 1, none⟩ y).setCell ⟨w.heap.size, 2, none⟩ z) := by
  have hn : w.heap.size ∉ fp := fun q => by have := (rowsC.ow_lt h.ow _ q).1; omega
  have hn' : w.heap.size ∉ f' := fun q => by have := (rowC.ow_lt hs.ow _ q).1; omega
  refine ⟨ow_setCell (ow_setCell (ow_setCell (rowsC.ow_base h.ow (by omega)) hn _) hn _) hn _, ow_setCell (ow_setCell (ow_setCell (rowC.ow_base hs.ow (by omega)) hn' _) hn' _) hn' _, ((h.bl.setCell (Nat.le_refl _) _).setCell (Nat.le_refl _) _).setCell (Nat.le_refl _) _⟩
end
/-- A table and columns, drawn. -/
def PairAns (w : World) (e : Ending) (w' : World) : Prop :=
  ∃ (nm : ByteArray) (ar : Int) (u : Value) (rows : List (List Int)) (f1 : List Nat) (u2 : Value) (cols : List Int) (f2 : List Nat), e = .returned (.tuple #[.agg #[.string nm, .int .i64 ar, u], u2]) ∧ nm.size ≤ 2 ∧ (-1 ≤ ar ∧ ar ≤ 4) ∧ rowsC.ow w' w.heap.size [u] rows f1 ∧ rowC.ow w' w.heap.size [u2] cols f2 ∧ cols.length ≤ 4 ∧ Below w.heap.size w w'
theorem set_ar (ar : Int) (c : Nat) (v : Value) (l : List UInt8) (B : Nat) (w : World) (h : CR w c v l B) :
    Calls Try.prog 120 #[.pointer (some ⟨c, 0, none⟩), .int .i64 (if 0 < if ar < 3 then ar else 3 then if ar < 3 then ar else 3 else 0)] w fun e w' => ∃ u cur fp, e = .returned u ∧ cur.length ≤ 4 ∧ SetS w c v l B u cur fp w' := by
  obtain ⟨n, hn, hle⟩ : ∃ n : Nat, (if 0 < if ar < 3 then ar else 3 then if ar < 3 then ar else 3 else 0) = (n : Int) ∧ n ≤ 3 := by
    by_cases h1 : ar < 3
    · rw [if_pos h1]
      by_cases h2 : 0 < ar
      · rw [if_pos h2]; exact ⟨ar.toNat, by omega, by omega⟩
      · rw [if_neg h2]; exact ⟨0, rfl, by omega⟩
    · rw [if_neg h1]; exact ⟨3, rfl, Nat.le_refl _⟩
  rw [hn]
  exact set_any n hle c v l B w h
set_option maxRecDepth 100000 in
set_option maxHeartbeats 6400000 in
theorem pair_any (v : Value) (l : List UInt8) (w : World) (hr : Reads w v l w.heap.size) :
    Calls Try.prog 72 #[v] w fun e w' => PairAns w e w' := by
  have HR := Lib.hid hr
  obtain ⟨av, cv, rfl, _⟩ := hr
  generalize hvv : Value.slice av l.length cv = v at *
  clear hvv
  go_enter Try.func72, Try.ntmps72
  go_wp2_with fail
  generalize hW : w.alloc _ = W
  obtain ⟨r0, hz, hb0⟩ := start1 w _ hW
  have HRC := Lib.hid (Loc3.of r0)
  have HB0 := Lib.hid hb0
  have HNW := Lib.hid (new_any v l w.heap.size W (HR.out.later hb0))
  have HR1 := Lib.hid (HR.out.later hb0)
  clear hW r0
  rw [hz] at HNW
  refine HNW.out.mono ?_
  rintro e w1 ⟨rfl, hc1, hg1⟩
  have hb1 : Below W.heap.size W w1 := ⟨hg1.os, hg1.tape, hg1.output, hg1.size, fun k hk => hg1.block k hk (by simp)⟩
  have HC1 := Lib.hid (show CR w1 (w.heap.size + 1) v l w.heap.size from ⟨hc1, HR1.out.later (hb1.mono (by omega)), by omega⟩)
  have HR1' := Lib.hid (HRC.out.later hb1)
  have HB1 := Lib.hid (below_then HB0.out hb1)
  have HZ1 := Lib.hid (show w.heap.size + 2 ≤ w1.heap.size by have := cur_size hc1; omega)
  have HBL := Lib.hid (below_cr 3 (w.heap.size + 1) v l w.heap.size w1 HC1.out)
  clear hz hb0 hc1 hg1 hb1 HNW HR HR1 HRC HB0
  generalize hcc : w.heap.size + 1 = c at *
  have HCC := Lib.hid hcc.symm
  clear hcc
  go_wp2_with fail
  refine HBL.out.mono ?_
  rintro e w2 ⟨x, rfl, hx0, hx1, hc2, ht2⟩
  obtain ⟨n, rfl⟩ := Int.eq_ofNat_of_zero_le hx0
  have hn3 := hx1 (by decide)
  have HC2 := Lib.hid hc2
  have HR2 := Lib.hid (HR1'.out.touched ht2 (by simp only [List.mem_singleton]; have := HCC.out; omega))
  have HB2 := Lib.hid (Cd.Touch.below HB1.out ht2 (fun b hb => by rw [List.mem_singleton.1 hb]; have := HCC.out; omega))
  have HZ2 := Lib.hid (Nat.le_trans HZ1.out ht2.size)
  have HTB := Lib.hid (show Calls Try.prog 118 #[.pointer (some ⟨c, 0, none⟩), .string ⟨#[114]⟩, .int .i64 ((n : Int) + 1), .int .i64 8, .int .i64 3] w2 (TabGen 8 w2 c v l ⟨#[114]⟩ ((n : Int) + 1)) from by
    have h := tab_gen 8 3 (by decide) (by decide) ⟨#[114]⟩ (n + 1) (by omega) c v l w.heap.size w2 hc2.1 hc2.2.1 hc2.2.2
    have e : (((n + 1 : Nat)) : Int) = (n : Int) + 1 := by omega
    rw [e] at h
    exact h)
  have hadd : (1 : Int) + (n : Int) = (n : Int) + 1 := by omega
  clear hx0 hx1 hc2 ht2 HBL
  go_wp2_with fail
  refine (by first | exact HTB.out | (rw [hadd]; exact HTB.out) : Calls Try.prog 118 _ w2 (TabGen 8 w2 c v l ⟨#[114]⟩ ((n : Int) + 1))).mono ?_
  rintro e w3 ⟨u, rows, ft, rfl, ho, hn, hwt, hcu, hg⟩
  obtain ⟨ut, ct, rfl⟩ := rows_slice ho
  generalize hnm : (⟨#[114]⟩ : ByteArray) = nm at *
  have HNM := Lib.hid (show nm.size ≤ 2 by rw [← hnm]; decide)
  have hbX := below_alloc w3 (.cells #[.string nm, .int .i64 ((n : Int) + 1), .slice ut rows.length ct] 34 (0, 0))
  have HP := Lib.hid (show PS w c v l w3.heap.size nm ((n : Int) + 1) (.slice ut rows.length ct) rows ft (w3.alloc (.cells #[.string nm, .int .i64 ((n : Int) + 1), .slice ut rows.length ct] 34 (0, 0))) from
    ⟨Loc3.of (row_alloc w3 _), ⟨_, _, _, (HR2.out.touched (touch_of hg) (by simp only [List.mem_singleton]; have := HCC.out; omega)).later hbX⟩, rowsC.ow_base (Cd.ow_later ho hbX) (by have := HZ2.out; omega), fun q => by have := (rowsC.ow_lt ho _ q).2; omega,
      (HC2.out.after hcu hg).later hbX, by have := HCC.out; omega, by have := HZ2.out; have := hg.size; omega, below_then (Cd.Touch.below HB2.out (touch_of hg) (fun b hb => by rw [List.mem_singleton.1 hb]; have := HCC.out; omega)) hbX⟩)
  have hON := once_cr 12 c v l w.heap.size _ HP.out.cr
  have HAR := Lib.hid (show -1 ≤ (n : Int) + 1 ∧ 0 ≤ (n : Int) + 1 ∧ (n : Int) + 1 ≤ 3 by omega)
  clear ho hn hwt hcu hg hbX hnm HTB hadd HC1 HR1' HB1 HZ1 HC2 HR2 HB2 HZ2
  go_upto_region 3 with fail
  generalize World.alloc w3 _ = w4 at *
  generalize w3.heap.size = X at *
  have HON := Lib.hid hON
  clear hON
  have d0 := HP.out.d.c0
  have d1 := HP.out.d.c1
  have d2 := HP.out.d.c2
  go_wp2_with fail
  refine HON.out.mono ?_
  rintro e w5 ⟨b, rfl, hc5, ht5⟩
  have HP5 := Lib.hid (HP.out.call hc5 ht5)
  clear hc5 ht5 HP HON d0 d1 d2
  cases b
  · go_upto_region 5 with fail
    have HP := Lib.hid HP5.out
    clear HP5
    generalize w5 = wp at *
    have HSET := Lib.hid (fun (A : World) (h : CR A c v l w.heap.size) => set_ar ((n : Int) + 1) c v l w.heap.size A h)
    have HPD := Lib.hid (HP.out.later (W' := wp.drew) ⟨rfl, rfl, rfl, Nat.le_refl _, fun _ _ => rfl⟩)
    clear HP
    refine wp_region_held_drew (S := fun wx => Loc3 wx X (.string nm) (.int .i64 ((n : Int) + 1)) (.slice ut rows.length ct)) (by kernel_rfl) (HPD.out.d) (fun hHeld => ?_)
    refine RegH.takeH (i := 0) (v := ?_) rfl (by kernel_rfl) (by kernel_rfl) (by kernel_rfl) (fun _ _ _ h => h) (Or.inl ⟨by rfl, ?_⟩) (by assumption) ?_
    rotate_left
    · (intro wS hSw; (try dsimp only at hSw); (have r0 := hSw.c0); (have r1 := hSw.c1); (have r2 := hSw.c2); go_simp; try (with_reducible rfl))
    try simp only [Act.put, List.setIfInBounds_toArray, List.set_cons_zero, List.set_cons_succ]
    refine RegH.takeH (i := 1) (v := ?_) rfl (by kernel_rfl) (by kernel_rfl) (by kernel_rfl) (fun _ _ _ h => h) (Or.inl ⟨by rfl, ?_⟩) (by assumption) ?_
    rotate_left
    · (intro wS hSw; (try dsimp only at hSw); skip; go_simp; try (with_reducible rfl))
    try simp only [Act.put, List.setIfInBounds_toArray, List.set_cons_zero, List.set_cons_succ]
    refine RegH.takeH (i := 2) (v := ?_) rfl (by kernel_rfl) (by kernel_rfl) (by kernel_rfl) (fun _ _ _ h => h) (Or.inl ⟨by rfl, ?_⟩) (by assumption) ?_
    rotate_left
    · (intro wS hSw; (try dsimp only at hSw); skip; go_simp; try (with_reducible rfl))
    try simp only [Act.put, List.setIfInBounds_toArray, List.set_cons_zero, List.set_cons_succ]
    refine RegH.takeH (i := 3) (v := ?_) rfl (by kernel_rfl) (by kernel_rfl) (by kernel_rfl) (fun _ _ _ h => h) (Or.inl ⟨by rfl, ?_⟩) (by assumption) ?_
    rotate_left
    · (intro wS hSw; (try dsimp only at hSw); (have r0 := hSw.c0); (have r1 := hSw.c1); (have r2 := hSw.c2); go_simp; try (with_reducible rfl))
    try simp only [Act.put, List.setIfInBounds_toArray, List.set_cons_zero, List.set_cons_succ]
    refine RegH.takeH (i := 4) (v := ?_) rfl (by kernel_rfl) (by kernel_rfl) (by kernel_rfl) (fun _ _ _ h => h) (Or.inl ⟨by rfl, ?_⟩) (by assumption) ?_
    rotate_left
    · (intro wS hSw; (try dsimp only at hSw); skip; go_simp; try (with_reducible rfl))
    try simp only [Act.put, List.setIfInBounds_toArray, List.set_cons_zero, List.set_cons_succ]
    refine RegH.takeH (i := 5) (v := ?_) rfl (by kernel_rfl) (by kernel_rfl) (by kernel_rfl) (fun _ _ _ h => h) (Or.inl ⟨by rfl, ?_⟩) (by assumption) ?_
    rotate_left
    · (intro wS hSw; (try dsimp only at hSw); skip; go_simp; try (with_reducible rfl))
    try simp only [Act.put, List.setIfInBounds_toArray, List.set_cons_zero, List.set_cons_succ]
    refine RegH.consH (i := 6) rfl (by kernel_rfl) (fun K hK => ?_)
    go_simp
    go_at_call 120
    refine (HSET.out wp.drew HPD.out.cr).mono ?_
    rintro e w6 ⟨u6, cols, f6, rfl, hcl, hs6⟩
    obtain ⟨a6, c6, rfl⟩ := Cd.ow_slice (c := Cd.int) hs6.ow
    have HP6 := HPD.out.call hs6.cr hs6.bl
    have HS6 := Lib.hid hs6
    have HCL := Lib.hid hcl
    have HB6 := Lib.hid (show w.heap.size + 2 ≤ wp.drew.heap.size from by have h1 := HPD.out.d.lt; have h2 := HPD.out.xb; omega)
    clear hs6 hcl
    refine hK.out _ _ ?_ (fun hHeld => ?_)
    · exact HP6.d
    clear hK K
    try simp only [Act.put, List.setIfInBounds_toArray, List.set_cons_zero, List.set_cons_succ]
    have HF6 := Lib.hid HP6
    clear HP6 HPD
    obtain ⟨ra, rb, rc, hrl⟩ := HF6.out.r
    obtain ⟨s0, s1, s2, t0, t1, t2⟩ := hrl
    have hxr : X ≠ w.heap.size := by have := HF6.out.xb; omega
    refine RegH.consH (i := 7) rfl (by kernel_rfl) (fun K hK => ?_)
    go_simp
    skip
    refine hK.out _ _ ?_ (fun hHeld => ?_)
    · exact ((HF6.out.d.set_far (p := ⟨w.heap.size, 0, none⟩) (fun q => hxr q.symm) _).set_far (p := ⟨w.heap.size, 1, none⟩) (fun q => hxr q.symm) _).set_far (p := ⟨w.heap.size, 2, none⟩) (fun q => hxr q.symm) _
    clear hK K
    try simp only [Act.put, List.setIfInBounds_toArray, List.set_cons_zero, List.set_cons_succ]
    obtain ⟨k0, k1, k2⟩ := set3 (w := w6) (k := w.heap.size) (x := .string nm) (y := .int .i64 ((n : Int) + 1)) (z := .slice ut rows.length ct) s0 s1 s2
    refine RegH.consH (i := 8) rfl (by kernel_rfl) (fun K hK => ?_)
    go_simp
    skip
    refine hK.out _ _ ?_ (fun hHeld => ?_)
    · exact hHeld
    clear hK K
    try simp only [Act.put, List.setIfInBounds_toArray, List.set_cons_zero, List.set_cons_succ]
    refine wpAnyH_done (by kernel_rfl) ?_ _
    have F := Lib.hid (pair_done HF6.out HS6.out HB6.out (.string nm) (.int .i64 ((n : Int) + 1)) (.slice ut rows.length ct))
    clear hHeld
    go_wp2_with fail
    all_goals refine bodyPost_ret (v := .tuple #[.agg #[.string nm, .int .i64 ((n : Int) + 1), .slice ut rows.length ct], .slice a6 cols.length c6]) (by simp [results, Try.results72, go_sem, k0, k1, k2]) rfl ⟨nm, ((n : Int) + 1), _, rows, _, _, cols, _, rfl, HNM.out, by have := HAR.out; omega, F.out.1, F.out.2.1, HCL.out, F.out.2.2⟩
  · have d0 := HP5.out.d.c0
    have d1 := HP5.out.d.c1
    have d2 := HP5.out.d.c2
    have f0 := HP5.out.d.f0
    have f1 := HP5.out.d.f1
    have f2 := HP5.out.d.f2
    have HAN := Lib.hid (tabany_any c v l w.heap.size w5 HP5.out.cr.1 HP5.out.cr.2.1 HP5.out.cr.2.2)
    clear HNM HAR
    go_wp2_with fail
    refine HAN.out.mono ?_
    rintro e w6 ⟨nm', ar, u', rows', ft', rfl, hnm', har, ho', hn', hwt', hcu', hg'⟩
    obtain ⟨ut', ct', rfl⟩ := rows_slice ho'
    have hP6 := HP5.out.store (nm' := nm') (ar' := ar) (HP5.out.cr.after hcu' hg') (touch_of hg') ho'
    have hP0 := HP5.out.call (HP5.out.cr.after hcu' hg') (touch_of hg')
    have e0 := hP0.d.c0
    have e1 := hP0.d.c1
    have e2 := hP0.d.c2
    have e3 := hP0.d.f0
    have e4 := hP0.d.f1
    have e5 := hP0.d.f2
    have HNM := Lib.hid hnm'
    have HAR := Lib.hid har
    have HP := Lib.hid hP6
    clear ho' hn' hwt' hcu' hg' hP6 hP0 d0 d1 d2 f0 f1 f2 hnm' har HAN HP5
    go_upto_region 5 with fail
    clear e0 e1 e2 e3 e4 e5
    generalize World.setCell _ _ _ = wp at *
    generalize rows' = rows at *
    generalize nm' = nm at *
    generalize ut' = ut at *
    generalize ct' = ct at *
    have HSET := Lib.hid (fun (A : World) (h : CR A c v l w.heap.size) => set_ar ar c v l w.heap.size A h)
    have HPD := Lib.hid (HP.out.later (W' := wp.drew) ⟨rfl, rfl, rfl, Nat.le_refl _, fun _ _ => rfl⟩)
    clear HP
    refine wp_region_held_drew (S := fun wx => Loc3 wx X (.string nm) (.int .i64 ar) (.slice ut rows.length ct)) (by kernel_rfl) (HPD.out.d) (fun hHeld => ?_)
    refine RegH.takeH (i := 0) (v := ?_) rfl (by kernel_rfl) (by kernel_rfl) (by kernel_rfl) (fun _ _ _ h => h) (Or.inl ⟨by rfl, ?_⟩) (by assumption) ?_
    rotate_left
    · (intro wS hSw; (try dsimp only at hSw); (have r0 := hSw.c0); (have r1 := hSw.c1); (have r2 := hSw.c2); go_simp; try (with_reducible rfl))
    try simp only [Act.put, List.setIfInBounds_toArray, List.set_cons_zero, List.set_cons_succ]
    refine RegH.takeH (i := 1) (v := ?_) rfl (by kernel_rfl) (by kernel_rfl) (by kernel_rfl) (fun _ _ _ h => h) (Or.inl ⟨by rfl, ?_⟩) (by assumption) ?_
    rotate_left
    · (intro wS hSw; (try dsimp only at hSw); skip; go_simp; try (with_reducible rfl))
    try simp only [Act.put, List.setIfInBounds_toArray, List.set_cons_zero, List.set_cons_succ]
    refine RegH.takeH (i := 2) (v := ?_) rfl (by kernel_rfl) (by kernel_rfl) (by kernel_rfl) (fun _ _ _ h => h) (Or.inl ⟨by rfl, ?_⟩) (by assumption) ?_
    rotate_left
    · (intro wS hSw; (try dsimp only at hSw); skip; go_simp; try (with_reducible rfl))
    try simp only [Act.put, List.setIfInBounds_toArray, List.set_cons_zero, List.set_cons_succ]
    refine RegH.takeH (i := 3) (v := ?_) rfl (by kernel_rfl) (by kernel_rfl) (by kernel_rfl) (fun _ _ _ h => h) (Or.inl ⟨by rfl, ?_⟩) (by assumption) ?_
    rotate_left
    · (intro wS hSw; (try dsimp only at hSw); (have r0 := hSw.c0); (have r1 := hSw.c1); (have r2 := hSw.c2); go_simp; try (with_reducible rfl))
    try simp only [Act.put, List.setIfInBounds_toArray, List.set_cons_zero, List.set_cons_succ]
    refine RegH.takeH (i := 4) (v := ?_) rfl (by kernel_rfl) (by kernel_rfl) (by kernel_rfl) (fun _ _ _ h => h) (Or.inl ⟨by rfl, ?_⟩) (by assumption) ?_
    rotate_left
    · (intro wS hSw; (try dsimp only at hSw); skip; go_simp; try (with_reducible rfl))
    try simp only [Act.put, List.setIfInBounds_toArray, List.set_cons_zero, List.set_cons_succ]
    refine RegH.takeH (i := 5) (v := ?_) rfl (by kernel_rfl) (by kernel_rfl) (by kernel_rfl) (fun _ _ _ h => h) (Or.inl ⟨by rfl, ?_⟩) (by assumption) ?_
    rotate_left
    · (intro wS hSw; (try dsimp only at hSw); skip; go_simp; try (with_reducible rfl))
    try simp only [Act.put, List.setIfInBounds_toArray, List.set_cons_zero, List.set_cons_succ]
    refine RegH.consH (i := 6) rfl (by kernel_rfl) (fun K hK => ?_)
    go_simp
    go_at_call 120
    refine (HSET.out wp.drew HPD.out.cr).mono ?_
    rintro e w6 ⟨u6, cols, f6, rfl, hcl, hs6⟩
    obtain ⟨a6, c6, rfl⟩ := Cd.ow_slice (c := Cd.int) hs6.ow
    have HP6 := HPD.out.call hs6.cr hs6.bl
    have HS6 := Lib.hid hs6
    have HCL := Lib.hid hcl
    have HB6 := Lib.hid (show w.heap.size + 2 ≤ wp.drew.heap.size from by have h1 := HPD.out.d.lt; have h2 := HPD.out.xb; omega)
    clear hs6 hcl
    refine hK.out _ _ ?_ (fun hHeld => ?_)
    · exact HP6.d
    clear hK K
    try simp only [Act.put, List.setIfInBounds_toArray, List.set_cons_zero, List.set_cons_succ]
    have HF6 := Lib.hid HP6
    clear HP6 HPD
    obtain ⟨ra, rb, rc, hrl⟩ := HF6.out.r
    obtain ⟨s0, s1, s2, t0, t1, t2⟩ := hrl
    have hxr : X ≠ w.heap.size := by have := HF6.out.xb; omega
    refine RegH.consH (i := 7) rfl (by kernel_rfl) (fun K hK => ?_)
    go_simp
    skip
    refine hK.out _ _ ?_ (fun hHeld => ?_)
    · exact ((HF6.out.d.set_far (p := ⟨w.heap.size, 0, none⟩) (fun q => hxr q.symm) _).set_far (p := ⟨w.heap.size, 1, none⟩) (fun q => hxr q.symm) _).set_far (p := ⟨w.heap.size, 2, none⟩) (fun q => hxr q.symm) _
    clear hK K
    try simp only [Act.put, List.setIfInBounds_toArray, List.set_cons_zero, List.set_cons_succ]
    obtain ⟨k0, k1, k2⟩ := set3 (w := w6) (k := w.heap.size) (x := .string nm) (y := .int .i64 ar) (z := .slice ut rows.length ct) s0 s1 s2
    refine RegH.consH (i := 8) rfl (by kernel_rfl) (fun K hK => ?_)
    go_simp
    skip
    refine hK.out _ _ ?_ (fun hHeld => ?_)
    · exact hHeld
    clear hK K
    try simp only [Act.put, List.setIfInBounds_toArray, List.set_cons_zero, List.set_cons_succ]
    refine wpAnyH_done (by kernel_rfl) ?_ _
    have F := Lib.hid (pair_done HF6.out HS6.out HB6.out (.string nm) (.int .i64 ar) (.slice ut rows.length ct))
    clear hHeld
    go_wp2_with fail
    all_goals refine bodyPost_ret (v := .tuple #[.agg #[.string nm, .int .i64 ar, .slice ut rows.length ct], .slice a6 cols.length c6]) (by simp [results, Try.results72, go_sem, k0, k1, k2]) rfl ⟨nm, ar, _, rows, _, _, cols, _, rfl, HNM.out, by have := HAR.out; omega, F.out.1, F.out.2.1, HCL.out, F.out.2.2⟩
end Go.Proofs.Ytklamhnecncenaa.DegDraw
