/- How the laws draw updates: one update. -/
import Derived.Test.YtmifnbplkaonaaaGreatUpdDraw
namespace Go.Proofs.YtmifnbplkaonaaaGreat.UpdDraw
open Go Go.RowKit Byt Ints IntsLaw IntsWalk Draw LocDraw Cd Rows2 Tab TabDraw SlMath TabOpen TabElem SlTable Db TabSpec DbMath DbSpec DbExact DbAcc DbDraw Upd

def ww3 : List ByteArray := [⟨#[]⟩, ⟨#[119]⟩, ⟨#[114]⟩]
theorem ww3_ok : ∀ t : Fin 3, (ww3.getD t.val ⟨#[]⟩).size ≤ 2 := by decide
theorem U1.touched {w : World} {c : Nat} {v : Value} {l : List UInt8} {u : Value} {W W' : World} {p : Nat} {T : T3} {z : Value} {L : Nat} (h : U1 w c v l u p T z W) (ht : Cd.Touch [L] W W') (h1 : w.heap.size + 2 ≤ L) (h2 : L ≠ p) : U1 w c v l u p T z W' :=
  ⟨h.st.touched ht (fun b hb => by rw [List.mem_singleton.1 hb]; exact h1), h.lp.touched ht (by simp; exact fun q => h2 q.symm), h.rt, h.pb⟩
theorem rows_atS {w : World} {S : Nat → Prop} {v : Value} {l : List (List Int)} (h : rowsC.rd w S [v] l) {k : Nat} (hk : k < l.length) :
    ∃ b off cap u, v = .slice (some ⟨b, off, none⟩) l.length cap ∧ S b ∧ w.cell? ⟨b, off + k, none⟩ = some u ∧ rowC.rd w S [u] l[k] := by
  obtain ⟨ad, cap, e, _, hc⟩ := h
  injection e with e _
  subst e
  rcases hc with rfl | ⟨b, off, rfl, hS, hb, hc⟩
  · simp at hk
  obtain ⟨xs, h1, h2⟩ := hc k hk
  have hl := rowC.len h2
  match xs, hl with
  | [u], _ =>
    refine ⟨b, off, cap, u, rfl, hS, ?_, h2⟩
    have := h1 0 (by simp)
    simpa [rowC, Cd.sl] using this
theorem len3 {us : List Value} (h : us.length = 3) : ∃ x y z, us = [x, y, z] := by
  match us, h with
  | [x, y, z], _ => exact ⟨x, y, z, rfl⟩

set_option maxRecDepth 100000 in
set_option maxHeartbeats 6400000 in
theorem up_any (c : Nat) (v : Value) (l : List UInt8) (B : Nat) (u : Value) (Ts : List T3) (w : World) (hc : Cur w c v l) (hr : Reads w v l B) (hB : B ≤ c) (hd : tabsC.rd w (OldS w c) [u] Ts) (hok : UpOk Ts) :
    Calls Tryz.prog 48 #[.pointer (some ⟨c, 0, none⟩), .agg #[u]] w (UpAns w c v l) := by
  have hcs := cur_size hc
  have HR := Lib.hid (fun w' (hg : w.grownBy w' (some c)) => hr.later (below_of hg hB hcs))
  have HC := Lib.hid hc
  have HD := Lib.hid hd
  have HOK := Lib.hid hok
  obtain ⟨ad, cd, rfl, _⟩ := Cd.sl_form hd
  clear hc hr hd hok
  go_enter Tryz.func48, Tryz.ntmps48
  go_upto_region 1 with fail
  generalize hW : (w.alloc _).alloc _ = W
  obtain ⟨r0, r1, hz, hb0⟩ := start2g w _ _ hW
  have HS := Lib.hid (show U0 w c v l (.slice ad Ts.length cd) W from ⟨Loc1.of r0, Loc3.of r1, hcs, cur_below HC.out hb0 hcs, grown_below hb0 (some c)⟩)
  clear hW r0 r1 hz hb0 HC
  have x0 := HS.out.lx.c0
  have HBL := Lib.hid (fun (n : Int) W' (h : U0 w c v l (.slice ad Ts.length cd) W') => below_any n c v l B W' h.cu (HR.out _ h.gr) hB)
  have HON := Lib.hid (fun W' (h : U0 w c v l (.slice ad Ts.length cd) W') => once_anyI 2 c v l B W' h.cu (HR.out _ h.gr) hB)
  have HSO := Lib.hid (fun (n : Nat) (hn : n ≤ 3) W' (h : U0 w c v l (.slice ad Ts.length cd) W') => some_any n (by omega) c v l B W' h.cu (HR.out _ h.gr) hB)
  have HPK := Lib.hid (fun W' (h : U0 w c v l (.slice ad Ts.length cd) W') => pickS_any ww3 W'.heap.size (by decide) (by decide) c v l B (W'.alloc (.cells (ww3.map fun z => Value.string z).toArray 9)) (h.alloc _).cu (HR.out _ (h.alloc _).gr) hB (by have := h.cb; have := h.sz; omega) (list_cellsS ww3 W' 9))
  clear HR
  by_cases h0 : Ts.length = 0
  · have h0' : ((Ts.length : Nat) : Int) = 0 := by omega
    have hU := HS.out.alloc (.cells #[.int .i64 0, .int .i64 1] 3)
    obtain ⟨m0, m1, m2, n0, n1, n2⟩ := hU.lr
    go_wp2_with fail
    obtain ⟨k0, k1, k2⟩ := set3 (w := W.alloc (.cells #[.int .i64 0, .int .i64 1] 3)) (k := w.heap.size + 1) (x := .string ⟨#[114]⟩) (y := .bool true) (z := .slice (some ⟨W.heap.size, 0, none⟩) 2 2) m0 m1 m2
    refine bodyPost_ret (v := .agg #[.string ⟨#[114]⟩, .bool true, .slice (some ⟨W.heap.size, 0, none⟩) 2 2]) (by simp [results, Tryz.results48, go_sem, k0, k1, k2]) rfl ?_
    have hs := HS.out.sz
    have hcb := HS.out.cb
    have ho := lit_row W [0, 1] (by intro x hx; simp at hx; omega) (by simp) (w.heap.size + 2) hs
    have hf : w.heap.size + 1 ∉ [W.heap.size] := by simp; omega
    have hne : c ≠ w.heap.size + 1 := by omega
    have hle : w.heap.size ≤ w.heap.size + 1 := by omega
    exact ⟨⟨#[114]⟩, true, _, [0, 1], [W.heap.size], rfl, ow_setCell (ow_setCell (ow_setCell (rowC.ow_base ho (by omega)) hf _) hf _) hf _, by simp, by decide, by simp, cur_farI _ (cur_farI _ (cur_farI _ hU.cu hne) hne) hne, grown_newI _ (grown_newI _ (grown_newI _ hU.gr hle) hle) hle⟩
  have h0' : ((Ts.length : Nat) : Int) ≠ 0 := by omega
  have hpos : 0 < Ts.length := by omega
  go_upto_region 3 with fail
  go_cut [5] (fun s5 wx => ∃ (p : Nat) (j : Nat) (hj : j < Ts.length) (a : Option Addr) (k : Nat), s5 = .pointer (some ⟨p, 0, none⟩) ∧ U1 w c v l (.slice ad Ts.length cd) p Ts[j] (.slice a (Ts[j]).2.2.length k) wx)
  case first =>
    as_aux_lemma =>
      have hst : U0 w c v l (.slice ad Ts.length cd) W.drew := HS.out.drew
      have hHeld0 := hst
      refine wp_region_held_drew (S := fun wx => U0 w c v l (.slice ad Ts.length cd) wx) (by kernel_rfl) hst (fun hHeld => ?_)
      clear hHeld0 hst
      refine RegH.takeH (i := 0) (v := ?_) rfl (by kernel_rfl) (by kernel_rfl) (by kernel_rfl) (fun _ _ _ h => h) (Or.inl ⟨by rfl, ?_⟩) (by assumption) ?_
      rotate_left
      · (intro wS hSw; (try dsimp only at hSw); (have rr := hSw.lx.c0); go_simp; try (with_reducible rfl))
      try simp only [Act.put, List.setIfInBounds_toArray, List.set_cons_zero, List.set_cons_succ]
      refine RegH.takeH (i := 1) (v := ?_) rfl (by kernel_rfl) (by kernel_rfl) (by kernel_rfl) (fun _ _ _ h => h) (Or.inl ⟨by rfl, ?_⟩) (by assumption) ?_
      rotate_left
      · (intro wS hSw; (try dsimp only at hSw); (have rr := hSw.lx.c0); go_simp; try (with_reducible rfl))
      try simp only [Act.put, List.setIfInBounds_toArray, List.set_cons_zero, List.set_cons_succ]
      refine RegH.takeH (i := 2) (v := ?_) rfl (by kernel_rfl) (by kernel_rfl) (by kernel_rfl) (fun _ _ _ h => h) (Or.inl ⟨by rfl, ?_⟩) (by assumption) ?_
      rotate_left
      · (intro wS hSw; (try dsimp only at hSw); (have rr := hSw.lx.c0); go_simp; try (with_reducible rfl))
      try simp only [Act.put, List.setIfInBounds_toArray, List.set_cons_zero, List.set_cons_succ]
      refine RegH.takeH (i := 3) (v := ?_) rfl (by kernel_rfl) (by kernel_rfl) (by kernel_rfl) (fun _ _ _ h => h) (Or.inl ⟨by rfl, ?_⟩) (by assumption) ?_
      rotate_left
      · (intro wS hSw; (try dsimp only at hSw); (have rr := hSw.lx.c0); go_simp; try (with_reducible rfl))
      try simp only [Act.put, List.setIfInBounds_toArray, List.set_cons_zero, List.set_cons_succ]
      refine RegH.takeH (i := 4) (v := ?_) rfl (by kernel_rfl) (by kernel_rfl) (by kernel_rfl) (fun _ _ _ h => h) (Or.inl ⟨by rfl, ?_⟩) (by assumption) ?_
      rotate_left
      · (intro wS hSw; (try dsimp only at hSw); (have rr := hSw.lx.c0); go_simp; try (with_reducible rfl))
      try simp only [Act.put, List.setIfInBounds_toArray, List.set_cons_zero, List.set_cons_succ]
      refine RegH.takeH (i := 5) (v := ?_) rfl (by kernel_rfl) (by kernel_rfl) (by kernel_rfl) (fun _ _ _ h => h) (Or.inl ⟨by rfl, ?_⟩) (by assumption) ?_
      rotate_left
      · (intro wS hSw; (try dsimp only at hSw); (have rr := hSw.lx.c0); go_simp; try (with_reducible rfl))
      try simp only [Act.put, List.setIfInBounds_toArray, List.set_cons_zero, List.set_cons_succ]
      refine RegH.consH2 (i := 6) (j := 9) rfl rfl (by kernel_rfl) (fun K hK => ?_) (fun K hK => ?_)
      · skip
        go_simp
        go_at_call 64
        refine (HBL.out _ _ hHeld).mono ?_
        rintro e w7 ⟨x, rfl, hx0, hx1, hc7, hg7⟩
        obtain ⟨j, rfl⟩ := Int.eq_ofNat_of_zero_le hx0
        have hjl : j < Ts.length := by have := hx1 (by omega); omega
        have p1 : (0 : Int) ≤ (j : Int) := by omega
        have p2 : (j : Int) < (Ts.length : Int) := by omega
        have hs7 : U0 w c v l (.slice ad Ts.length cd) w7 := hHeld.grown hg7 hc7
        refine hK.out _ _ ?_ (fun hHeld => ?_)
        · exact hs7
        clear hK K
        try simp only [Act.put, List.setIfInBounds_toArray, List.set_cons_zero, List.set_cons_succ]
        obtain ⟨b, off, cap', us, e1, hbS, hbB, hat, hu⟩ := Cd.sl_at HD.out hjl
        injection e1 with e1 e2 e3
        subst e1
        have HE := Lib.hid hu
        obtain ⟨tu, rfl, tb1, tb2, tb3⟩ := tab_cells hu
        obtain ⟨ta, tc, rfl, _⟩ := rows_form tb3
        have q0 := hat 0 (by simp)
        have q1 := hat 1 (by simp)
        have q2 := hat 2 (by simp)
        simp only [List.getElem_cons_zero, List.getElem_cons_succ, Nat.add_zero, show tabC.n = 3 from rfl] at q0 q1 q2
        have HTB := Lib.hid tb3
        obtain ⟨hb1, hb2⟩ := hbS
        clear hat hu e2 e3 tb1 tb2 tb3 HE
        refine RegH.takeH (i := 7) (v := ?_) rfl (by kernel_rfl) (by kernel_rfl) (by kernel_rfl) (fun _ _ _ h => h) (Or.inl ⟨by rfl, ?_⟩) (by assumption) ?_
        rotate_left
        · (intro wS hSw; (try dsimp only at hSw); (have rr := hSw.lx.c0); (have r0 := (hSw.old (o := off + j * 3) hb1 hb2).trans q0); (have r1 := (hSw.old (o := off + j * 3 + 1) hb1 hb2).trans q1); (have r2 := (hSw.old (o := off + j * 3 + 2) hb1 hb2).trans q2); go_simp; try (with_reducible rfl))
        try simp only [Act.put, List.setIfInBounds_toArray, List.set_cons_zero, List.set_cons_succ]
        refine RegH.takeH (i := 8) (v := ?_) rfl (by kernel_rfl) (by kernel_rfl) (by kernel_rfl) (fun _ _ _ h => h) (Or.inl ⟨by rfl, ?_⟩) (by assumption) ?_
        rotate_left
        · (intro wS hSw; (try dsimp only at hSw); (have rr := hSw.lx.c0); (have r0 := (hSw.old (o := off + j * 3) hb1 hb2).trans q0); (have r1 := (hSw.old (o := off + j * 3 + 1) hb1 hb2).trans q1); (have r2 := (hSw.old (o := off + j * 3 + 2) hb1 hb2).trans q2); go_simp; try (with_reducible rfl))
        try simp only [Act.put, List.setIfInBounds_toArray, List.set_cons_zero, List.set_cons_succ]
        have hs7b : U0 w c v l (.slice (some ⟨b, off, none⟩) Ts.length cd) w7 := hHeld
        refine RegH.consH (i := 9) rfl (by kernel_rfl) (fun K hK => ?_)
        go_simp
        refine hK.out _ _ ?_ (fun hHeld => ?_)
        · exact hs7b.alloc _
        clear hK K
        try simp only [Act.put, List.setIfInBounds_toArray, List.set_cons_zero, List.set_cons_succ]
        refine RegH.consH (i := 10) rfl (by kernel_rfl) (fun K hK => ?_)
        go_simp
        refine hK.out _ _ ?_ (fun hHeld => ?_)
        · exact hs7b.alloc _
        clear hK K
        try simp only [Act.put, List.setIfInBounds_toArray, List.set_cons_zero, List.set_cons_succ]
        refine wpAnyH_done (by kernel_rfl) ?_ _
        go_wp2_with fail
        go_meet
        exact ⟨w7.heap.size, j, hjl, ta, tc, rfl, hHeld, Loc3.of (row_alloc w7 _), HTB.out, hs7b.sz⟩
      · skip
        go_simp
        have hs8 := hHeld.alloc (.cells #[.string ⟨#[]⟩, .int .i64 0, .slice none 0 0] 51 (0, 0))
        have HL0 := Lib.hid (Loc3.of (row_alloc W.drew (.cells #[.string ⟨#[]⟩, .int .i64 0, .slice none 0 0] 51 (0, 0))))
        have HPB := Lib.hid (show w.heap.size + 2 ≤ W.heap.size from hHeld.sz)
        refine hK.out _ _ ?_ (fun hHeld => ?_)
        · exact hs8
        clear hK K
        try simp only [Act.put, List.setIfInBounds_toArray, List.set_cons_zero, List.set_cons_succ]
        refine RegH.consH (i := 6) rfl (by kernel_rfl) (fun K hK => ?_)
        go_simp
        go_at_call 64
        refine (HBL.out _ _ hHeld).mono ?_
        rintro e w7 ⟨x, rfl, hx0, hx1, hc7, hg7⟩
        obtain ⟨j, rfl⟩ := Int.eq_ofNat_of_zero_le hx0
        have hjl : j < Ts.length := by have := hx1 (by omega); omega
        have p1 : (0 : Int) ≤ (j : Int) := by omega
        have p2 : (j : Int) < (Ts.length : Int) := by omega
        have hs7 : U0 w c v l (.slice ad Ts.length cd) w7 := hHeld.grown hg7 hc7
        have HLQ := Lib.hid (show Loc3 w7 W.heap.size (.string ⟨#[]⟩) (.int .i64 0) (.slice none 0 0) from loc_grown HL0.out hg7 (by have := hHeld.cb; have := HPB.out; show W.heap.size ≠ c; omega))
        refine hK.out _ _ ?_ (fun hHeld => ?_)
        · exact hs7
        clear hK K
        try simp only [Act.put, List.setIfInBounds_toArray, List.set_cons_zero, List.set_cons_succ]
        obtain ⟨b, off, cap', us, e1, hbS, hbB, hat, hu⟩ := Cd.sl_at HD.out hjl
        injection e1 with e1 e2 e3
        subst e1
        have HE := Lib.hid hu
        obtain ⟨tu, rfl, tb1, tb2, tb3⟩ := tab_cells hu
        obtain ⟨ta, tc, rfl, _⟩ := rows_form tb3
        have q0 := hat 0 (by simp)
        have q1 := hat 1 (by simp)
        have q2 := hat 2 (by simp)
        simp only [List.getElem_cons_zero, List.getElem_cons_succ, Nat.add_zero, show tabC.n = 3 from rfl] at q0 q1 q2
        have HTB := Lib.hid tb3
        obtain ⟨hb1, hb2⟩ := hbS
        clear hat hu e2 e3 tb1 tb2 tb3 HE
        refine RegH.takeH (i := 7) (v := ?_) rfl (by kernel_rfl) (by kernel_rfl) (by kernel_rfl) (fun _ _ _ h => h) (Or.inl ⟨by rfl, ?_⟩) (by assumption) ?_
        rotate_left
        · (intro wS hSw; (try dsimp only at hSw); (have rr := hSw.lx.c0); (have r0 := (hSw.old (o := off + j * 3) hb1 hb2).trans q0); (have r1 := (hSw.old (o := off + j * 3 + 1) hb1 hb2).trans q1); (have r2 := (hSw.old (o := off + j * 3 + 2) hb1 hb2).trans q2); go_simp; try (with_reducible rfl))
        try simp only [Act.put, List.setIfInBounds_toArray, List.set_cons_zero, List.set_cons_succ]
        refine RegH.takeH (i := 8) (v := ?_) rfl (by kernel_rfl) (by kernel_rfl) (by kernel_rfl) (fun _ _ _ h => h) (Or.inl ⟨by rfl, ?_⟩) (by assumption) ?_
        rotate_left
        · (intro wS hSw; (try dsimp only at hSw); (have rr := hSw.lx.c0); (have r0 := (hSw.old (o := off + j * 3) hb1 hb2).trans q0); (have r1 := (hSw.old (o := off + j * 3 + 1) hb1 hb2).trans q1); (have r2 := (hSw.old (o := off + j * 3 + 2) hb1 hb2).trans q2); go_simp; try (with_reducible rfl))
        try simp only [Act.put, List.setIfInBounds_toArray, List.set_cons_zero, List.set_cons_succ]
        obtain ⟨k0, k1, k2, k3, k4, k5⟩ := HLQ.out
        refine RegH.consH (i := 10) rfl (by kernel_rfl) (fun K hK => ?_)
        go_simp
        have hpb : w.heap.size + 2 ≤ W.heap.size := HPB.out
        refine hK.out _ _ ?_ (fun hHeld => ?_)
        · exact ((hHeld.set (p := ⟨W.heap.size, 0, none⟩) hpb _).set (p := ⟨W.heap.size, 1, none⟩) hpb _).set (p := ⟨W.heap.size, 2, none⟩) hpb _
        clear hK K
        try simp only [Act.put, List.setIfInBounds_toArray, List.set_cons_zero, List.set_cons_succ]
        refine wpAnyH_done (by kernel_rfl) ?_ _
        go_wp2_with fail
        go_meet
        obtain ⟨j0, j1, j2⟩ := set3 (k := W.heap.size) (x := .string (Ts[j]).1) (y := .int .i64 (Ts[j]).2.1) (z := .slice ta (Ts[j]).2.2.length tc) k0 k1 k2
        exact ⟨W.heap.size, j, hjl, ta, tc, rfl, hHeld, ⟨j0, j1, j2, by simpa using k3, by simpa using k4, by simpa using k5⟩, HTB.out, hpb⟩
  case rest =>
  obtain ⟨p, j, hj, ta, tc, rfl, hu1⟩ := hcut
  have HT := Lib.hid (HOK.out.2 Ts[j] (List.getElem_mem hj))
  have HU1 := Lib.hid hu1
  clear hu1 HD x0 HS
  generalize Ts[j] = T at *
  generalize wc = W1 at *
  obtain ⟨y0, y1, y2, _, _, _⟩ := HU1.out.lp
  go_upto_region 5 with fail
  generalize hW : W1.alloc _ = W2
  obtain ⟨r0, hz, hb0⟩ := start1 W1 _ hW
  have HQ := Lib.hid (Loc3.of r0)
  have HU2 := Lib.hid (HU1.out.grown (grown_below hb0 (some c)) (cur_below HU1.out.st.cu hb0 (cur_size HU1.out.st.cu)))
  have HPQ := Lib.hid (show p < W1.heap.size from HU1.out.lp.lt)
  clear hW r0 hz hb0 y0 y1 y2 HU1
  generalize W1.heap.size = q at *
  obtain ⟨y0, y1, y2, _, _, _⟩ := HU2.out.lp
  go_cut [32] (fun s32 wx => ∃ b : Bool, s32 = .bool b ∧ (b = true → 0 < T.2.2.length) ∧ Loc3 wx q (.string T.1) (.bool true) (.slice none 0 0) ∧ U1 w c v l (.slice ad Ts.length cd) p T (.slice ta T.2.2.length tc) wx)
  case first =>
    as_aux_lemma =>
      by_cases hl0 : T.2.2.length = 0
      · have hl1 : ¬ ((0 : Int) < (T.2.2.length : Int)) := by omega
        go_wp2_with fail
        go_meet
        exact ⟨false, rfl, (fun q => by cases q), HQ.out, HU2.out⟩
      · have hl1 : (0 : Int) < (T.2.2.length : Int) := by omega
        go_wp2_with fail
        refine (HON.out _ HU2.out.st).mono ?_
        rintro e w3 ⟨b, rfl, hc3, hg3⟩
        have HQ3 := Lib.hid (loc_grown HQ.out hg3 (by have := HU2.out.st.cb; have := HU2.out.pb; have := HPQ.out; omega))
        have HU3 := Lib.hid (HU2.out.grown hg3 hc3)
        clear hc3 hg3
        go_wp2_with fail
        go_meet
        exact ⟨b, rfl, (fun _ => by omega), HQ3.out, HU3.out⟩
  case rest =>
  obtain ⟨b, rfl, hbl, hq, hu⟩ := hcut
  clear y0 y1 y2 HQ HU2
  have HQ := Lib.hid hq
  have HU := Lib.hid hu
  have HBL2 := Lib.hid hbl
  clear hq hu hbl
  generalize wc = W3 at *
  go_upto_if 32 with fail
  go_cut [] (fun wx => ∃ (b : Bool) (ay : Option Addr) (ky : Nat) (row : List Int) (f : List Nat), U2 w c v l (.slice ad Ts.length cd) q T.1 b (.slice ay row.length ky) row f wx)
  case first =>
    as_aux_lemma =>
      obtain ⟨y0, y1, y2, _, _, _⟩ := HU.out.lp
      obtain ⟨z0, z1, z2, f0, f1, f2⟩ := HQ.out
      cases b
      case false =>
        have HST := Lib.hid (fun (w5 : World) (u5 : Value) (ls : List Int) (hg5 : W3.grownBy w5 (some c)) (hc5 : Cur w5 c v l) (ho5 : OwnI w5 W3.heap.size 3 u5 ls) (hi5 : InR ls) (hl5 : ls.length ≤ 4) =>
          (show ∃ a k f, u5 = .slice a ls.length k ∧ Loc3 w5 q (.string T.1) (.bool true) (.slice none 0 0) ∧ U2 w c v l (.slice ad Ts.length cd) q T.1 true (.slice a ls.length k) ls f (w5.setCell ⟨q, 2, none⟩ (.slice a ls.length k)) from by
            have hcb := HU.out.st.cb
            have hpb := HU.out.pb
            have hpq := HPQ.out
            have hq5 := loc_grown HQ.out hg5 (show q ≠ c by omega)
            have hrow : rowC.ow w5 (w.heap.size + 2) [u5] ls u5.ownBlock.toList := Cd.ow_of_own (e := 3) (ho5.base_mono HU.out.st.sz) hi5
            have hrow2 : rowC.ow w5 W3.heap.size [u5] ls u5.ownBlock.toList := Cd.ow_of_own (e := 3) ho5 hi5
            obtain ⟨a, k, rfl⟩ := Cd.ow_slice hrow
            have hu2 : U2 w c v l (.slice ad Ts.length cd) q T.1 true (.slice none 0 0) [] [] w5 := ⟨HU.out.st.grown hg5 hc5, hq5, Cd.ow_nil _ _, by simp, by omega, by simp, HT.out.1, by simp⟩
            exact ⟨a, k, _, rfl, hq5, hu2.setR hrow (by cases (Value.slice a ls.length k).ownBlock <;> simp) (fun hm => by have h1 := (rowC.ow_lt hrow2 q hm).1; have h2 := HQ.out.lt; omega) (by omega)⟩))
        by_cases h3 : T.2.1 < 3
        · by_cases h4 : 0 < T.2.1
          · obtain ⟨n, hn⟩ := Int.eq_ofNat_of_zero_le (show 0 ≤ T.2.1 by omega)
            have HQS := Lib.hid (HSO.out n (by omega) W3 HU.out.st)
            have HN := Lib.hid (show n ≤ 3 by omega)
            rw [show ((n : Nat) : Int) = T.2.1 from hn.symm] at HQS
            clear hn
            go_wp2_with fail
            refine HQS.out.mono ?_
            rintro e w5 ⟨u5, ls, rfl, ho5, hl5, hi5, hc5, hg5⟩
            obtain ⟨a5, k5, f5, rfl, ⟨e0, e1, e2, g0, g1, g2⟩, hu5⟩ := HST.out w5 u5 ls hg5 hc5 ho5 hi5 (by have := HN.out; omega)
            have HU5 := Lib.hid hu5
            clear hu5 ho5 hl5 hi5 hc5 hg5
            go_wp2_with fail
            go_meet
            exact ⟨true, a5, k5, ls, f5, HU5.out⟩
          · have HQS := Lib.hid (HSO.out 0 (by omega) W3 HU.out.st)
            have HN := Lib.hid (show 0 ≤ 3 by omega)
            rw [show ((0 : Nat) : Int) = 0 from rfl] at HQS
            go_wp2_with fail
            refine HQS.out.mono ?_
            rintro e w5 ⟨u5, ls, rfl, ho5, hl5, hi5, hc5, hg5⟩
            obtain ⟨a5, k5, f5, rfl, ⟨e0, e1, e2, g0, g1, g2⟩, hu5⟩ := HST.out w5 u5 ls hg5 hc5 ho5 hi5 (by have := HN.out; omega)
            have HU5 := Lib.hid hu5
            clear hu5 ho5 hl5 hi5 hc5 hg5
            go_wp2_with fail
            go_meet
            exact ⟨true, a5, k5, ls, f5, HU5.out⟩
        · have h4 : ¬ (T.2.1 < 3) := h3
          have HQS := Lib.hid (HSO.out 3 (by omega) W3 HU.out.st)
          have HN := Lib.hid (show 3 ≤ 3 by omega)
          rw [show ((3 : Nat) : Int) = 3 from rfl] at HQS
          go_wp2_with fail
          refine HQS.out.mono ?_
          rintro e w5 ⟨u5, ls, rfl, ho5, hl5, hi5, hc5, hg5⟩
          obtain ⟨a5, k5, f5, rfl, ⟨e0, e1, e2, g0, g1, g2⟩, hu5⟩ := HST.out w5 u5 ls hg5 hc5 ho5 hi5 (by have := HN.out; omega)
          have HU5 := Lib.hid hu5
          clear hu5 ho5 hl5 hi5 hc5 hg5
          go_wp2_with fail
          go_meet
          exact ⟨true, a5, k5, ls, f5, HU5.out⟩
      case true =>
        have hlen : 0 < T.2.2.length := HBL2.out rfl
        have hlen2 : (0 : Int) < (T.2.2.length : Int) := by omega
        go_upto_region 7 with fail
        have hpb := HU.out.pb
        have hpq := HPQ.out
        have hu4 := HU.out.set (a := ⟨q, 1, none⟩) (show w.heap.size + 2 ≤ q by omega) (show q ≠ p by omega) (.bool false)
        have hq4 : Loc3 (W3.setCell ⟨q, 1, none⟩ (.bool false)) q (.string T.1) (.bool false) (.slice none 0 0) := by
          have o1 : (⟨q, 1, none⟩ : Addr) ≠ ⟨q, 0, none⟩ := by simp
          have o2 : (⟨q, 1, none⟩ : Addr) ≠ ⟨q, 2, none⟩ := by simp
          exact ⟨(World.cell?_setCell_other _ _ _ _ o1).trans z0, World.cell?_setCell_same _ _ _ z1, (World.cell?_setCell_other _ _ _ _ o2).trans z2, by simpa using f0, by simpa using f1, by simpa using f2⟩
        clear y0 y1 y2 z0 z1 z2 f0 f1 f2 HU HQ
        generalize W3.setCell ⟨q, 1, none⟩ (.bool false) = W4 at *
        refine wp_region_held_drew (S := fun wx => U1 w c v l (.slice ad Ts.length cd) p T (.slice ta T.2.2.length tc) wx ∧ ∃ y, Loc3 wx q (.string T.1) (.bool false) y) (by kernel_rfl) ⟨hu4.drew, _, hq4.keep rfl⟩ (fun hHeld => ?_)
        have hq4d : Loc3 W4.drew q (.string T.1) (.bool false) (.slice none 0 0) := hq4.keep rfl
        have hu4d := hu4.drew
        clear hq4 hu4
        refine RegH.takeH (i := 1) (v := ?_) rfl (by kernel_rfl) (by kernel_rfl) (by kernel_rfl) (fun _ _ _ h => h) (Or.inl ⟨by rfl, ?_⟩) (by assumption) ?_
        rotate_left
        · (intro wS hSw; (try dsimp only at hSw); (obtain ⟨r0, r1, r2, _, _, _⟩ := hSw.1.lp); go_simp; try (with_reducible rfl))
        try simp only [Act.put, List.setIfInBounds_toArray, List.set_cons_zero, List.set_cons_succ]
        refine RegH.takeH (i := 2) (v := ?_) rfl (by kernel_rfl) (by kernel_rfl) (by kernel_rfl) (fun _ _ _ h => h) (Or.inl ⟨by rfl, ?_⟩) (by assumption) ?_
        rotate_left
        · (intro wS hSw; (try dsimp only at hSw); (obtain ⟨r0, r1, r2, _, _, _⟩ := hSw.1.lp); go_simp; try (with_reducible rfl))
        try simp only [Act.put, List.setIfInBounds_toArray, List.set_cons_zero, List.set_cons_succ]
        refine RegH.takeH (i := 3) (v := ?_) rfl (by kernel_rfl) (by kernel_rfl) (by kernel_rfl) (fun _ _ _ h => h) (Or.inl ⟨by rfl, ?_⟩) (by assumption) ?_
        rotate_left
        · (intro wS hSw; (try dsimp only at hSw); (obtain ⟨r0, r1, r2, _, _, _⟩ := hSw.1.lp); go_simp; try (with_reducible rfl))
        try simp only [Act.put, List.setIfInBounds_toArray, List.set_cons_zero, List.set_cons_succ]
        refine RegH.takeH (i := 4) (v := ?_) rfl (by kernel_rfl) (by kernel_rfl) (by kernel_rfl) (fun _ _ _ h => h) (Or.inl ⟨by rfl, ?_⟩) (by assumption) ?_
        rotate_left
        · (intro wS hSw; (try dsimp only at hSw); (obtain ⟨r0, r1, r2, _, _, _⟩ := hSw.1.lp); go_simp; try (with_reducible rfl))
        try simp only [Act.put, List.setIfInBounds_toArray, List.set_cons_zero, List.set_cons_succ]
        refine RegH.takeH (i := 5) (v := ?_) rfl (by kernel_rfl) (by kernel_rfl) (by kernel_rfl) (fun _ _ _ h => h) (Or.inl ⟨by rfl, ?_⟩) (by assumption) ?_
        rotate_left
        · (intro wS hSw; (try dsimp only at hSw); (obtain ⟨r0, r1, r2, _, _, _⟩ := hSw.1.lp); go_simp; try (with_reducible rfl))
        try simp only [Act.put, List.setIfInBounds_toArray, List.set_cons_zero, List.set_cons_succ]
        refine RegH.takeH (i := 6) (v := ?_) rfl (by kernel_rfl) (by kernel_rfl) (by kernel_rfl) (fun _ _ _ h => h) (Or.inl ⟨by rfl, ?_⟩) (by assumption) ?_
        rotate_left
        · (intro wS hSw; (try dsimp only at hSw); (obtain ⟨r0, r1, r2, _, _, _⟩ := hSw.1.lp); go_simp; try (with_reducible rfl))
        try simp only [Act.put, List.setIfInBounds_toArray, List.set_cons_zero, List.set_cons_succ]
        refine RegH.consH2 (i := 0) (j := 7) rfl rfl (by kernel_rfl) (fun K hK => ?_) (fun K hK => ?_)
        · skip
          go_simp
          have HE0 := Lib.hid (Cd.ow_empty (e := 3) (c := Cd.int) W4.drew (w.heap.size + 2) hu4d.st.sz)
          have hu5 := hu4d.alloc (.cells #[] 3)
          have hq5 := hq4d.later (below_alloc W4.drew (.cells #[] 3))
          have hL : W4.heap.size ≠ q ∧ W4.heap.size ≠ p ∧ w.heap.size + 2 ≤ W4.heap.size := by have h1 := hq4d.lt; have h2 := hu4d.lp.lt; have h3 := hu4d.st.sz; simp only [show W4.drew.heap = W4.heap from rfl] at h1 h2 h3; omega
          refine hK.out _ _ ?_ (fun hHeld => ?_)
          · exact ⟨hu5, _, hq5⟩
          clear hK K
          try simp only [Act.put, List.setIfInBounds_toArray, List.set_cons_zero, List.set_cons_succ]
          refine RegH.consH (i := 7) rfl (by kernel_rfl) (fun K hK => ?_)
          go_simp
          go_at_call 64
          refine (HBL.out _ _ (hu5).st).mono ?_
          rintro e w7 ⟨x, rfl, hx0, hx1, hc7, hg7⟩
          obtain ⟨j, rfl⟩ := Int.eq_ofNat_of_zero_le hx0
          have hjl : j < T.2.2.length := by have := hx1 (by omega); omega
          have p1 : (0 : Int) ≤ (j : Int) := by omega
          have p2 : (j : Int) < (T.2.2.length : Int) := by omega
          have hu7 := (hu5).grown hg7 hc7
          have hq7 := loc_grown (hq5) hg7 (show q ≠ c by have := hu7.st.cb; omega)
          have HEM := Lib.hid (ow_grown HE0.out hg7 (show c < w.heap.size + 2 by have := hu7.st.cb; omega))
          refine hK.out _ _ ?_ (fun hHeld => ?_)
          · exact ⟨hu7, _, hq7⟩
          clear hK K
          try simp only [Act.put, List.setIfInBounds_toArray, List.set_cons_zero, List.set_cons_succ]
          have hun := hu7
          have hqn := hq7
          clear hx0 hx1 hc7 hg7
          obtain ⟨bb, oo, kk', uj, e1, hbS, hcj, huj⟩ := rows_atS hu7.rt hjl
          injection e1 with e1 e2 e3
          subst e1
          refine RegH.takeH (i := 8) (v := ?_) rfl (by kernel_rfl) (by kernel_rfl) (by kernel_rfl) (fun _ _ _ h => h) (Or.inl ⟨by rfl, ?_⟩) (by assumption) ?_
          rotate_left
          · (intro wS hSw; (try dsimp only at hSw); (have rr := (hSw.1.st.old (o := oo + j) hbS.1 hbS.2).trans hcj); go_simp; try (with_reducible rfl))
          try simp only [Act.put, List.setIfInBounds_toArray, List.set_cons_zero, List.set_cons_succ]
          refine RegH.takeH (i := 9) (v := ?_) rfl (by kernel_rfl) (by kernel_rfl) (by kernel_rfl) (fun _ _ _ h => h) (Or.inl ⟨by rfl, ?_⟩) (by assumption) ?_
          rotate_left
          · (intro wS hSw; (try dsimp only at hSw); (have rr := (hSw.1.st.old (o := oo + j) hbS.1 hbS.2).trans hcj); go_simp; try (with_reducible rfl))
          try simp only [Act.put, List.setIfInBounds_toArray, List.set_cons_zero, List.set_cons_succ]
          have HKA := Lib.hid (hun.st.rd huj)
          have hRL : (T.2.2[j]).length ≤ 40 := by have h1 := HT.out.2; unfold rowsWt at h1; have h2 := row_len hjl; omega
          have hszn := hun.st.sz
          refine RegH.consH (i := 10) rfl (by kernel_rfl) (fun K hK => ?_)
          refine Cd.step_appendRI rfl (.tmp 34) (.tmp 43) 27 rfl (w.heap.size + 2) 3 Tryz.underlying27 info_i64 _ [] [_] rfl HEM.out uj T.2.2[j] _ rfl HKA.out (by rw [List.length_nil]; omega) hszn ?_
          intro v1 w8 f1 ho1 hn1 hs1 ht1
          obtain ⟨a1, c1, rfl⟩ := Cd.ow_slice ho1
          have hLq : W4.heap.size ≠ q ∧ W4.heap.size ≠ p ∧ w.heap.size + 2 ≤ W4.heap.size := hL
          have hu8 := U1.touched hun ht1 hLq.2.2 hLq.2.1
          have hq8 := hqn.touched ht1 (by simp; exact fun q => hLq.1 q.symm)
          have hqlt := hqn.lt
          have hqf : q ∉ f1 := fun hm => by rcases hs1 q hm with h | h; exact hLq.1 (List.mem_singleton.1 h).symm; omega
          have HU9 := Lib.hid (show U2 w c v l (.slice _ Ts.length cd) q T.1 false (.slice a1 (T.2.2[j]).length c1) (T.2.2[j]) f1 (w8.setCell ⟨q, 2, none⟩ (.slice a1 (T.2.2[j]).length c1)) from U2.setR (y := .slice none 0 0) (row := []) (f := []) ⟨hu8.st, hq8, Cd.ow_nil _ _, by simp, by omega, by simp, HT.out.1, by simp⟩ ho1 hn1 hqf hRL)
          clear ho1 hn1 hs1 ht1 hqf
          refine hK.out _ _ ?_ (fun hHeld => ?_)
          · exact ⟨hu8, _, hq8⟩
          clear hK K
          try simp only [Act.put, List.setIfInBounds_toArray, List.set_cons_zero, List.set_cons_succ]
          refine RegH.takeH (i := 11) (v := ?_) rfl (by kernel_rfl) (by kernel_rfl) (by kernel_rfl) (fun _ _ _ h => h) (Or.inl ⟨by rfl, ?_⟩) (by assumption) ?_
          rotate_left
          · (intro wS hSw; (try dsimp only at hSw); skip; go_simp; try (with_reducible rfl))
          try simp only [Act.put, List.setIfInBounds_toArray, List.set_cons_zero, List.set_cons_succ]
          obtain ⟨s0, s1, s2, t0, t1, t2⟩ := hq8
          refine RegH.consH (i := 12) rfl (by kernel_rfl) (fun K hK => ?_)
          go_simp
          refine hK.out _ _ ?_ (fun hHeld => ?_)
          · exact ⟨hu8.set (a := ⟨q, 2, none⟩) (show w.heap.size + 2 ≤ q by omega) (show q ≠ p by omega) _, _, HU9.out.lq⟩
          clear hK K
          try simp only [Act.put, List.setIfInBounds_toArray, List.set_cons_zero, List.set_cons_succ]
          refine wpAnyH_done (by kernel_rfl) ?_ _
          go_wp2_with fail
          go_meet
          exact ⟨false, a1, c1, T.2.2[j], f1, HU9.out⟩
        · skip
          go_simp
          go_at_call 64
          refine (HBL.out _ _ (hu4d).st).mono ?_
          rintro e w7 ⟨x, rfl, hx0, hx1, hc7, hg7⟩
          obtain ⟨j, rfl⟩ := Int.eq_ofNat_of_zero_le hx0
          have hjl : j < T.2.2.length := by have := hx1 (by omega); omega
          have p1 : (0 : Int) ≤ (j : Int) := by omega
          have p2 : (j : Int) < (T.2.2.length : Int) := by omega
          have hu7 := (hu4d).grown hg7 hc7
          have hq7 := loc_grown (hq4d) hg7 (show q ≠ c by have := hu7.st.cb; omega)
          refine hK.out _ _ ?_ (fun hHeld => ?_)
          · exact ⟨hu7, _, hq7⟩
          clear hK K
          try simp only [Act.put, List.setIfInBounds_toArray, List.set_cons_zero, List.set_cons_succ]
          obtain ⟨bb, oo, kk', uj, e1, hbS, hcj, huj⟩ := rows_atS hu7.rt hjl
          injection e1 with e1 e2 e3
          subst e1
          refine RegH.takeH (i := 8) (v := ?_) rfl (by kernel_rfl) (by kernel_rfl) (by kernel_rfl) (fun _ _ _ h => h) (Or.inl ⟨by rfl, ?_⟩) (by assumption) ?_
          rotate_left
          · (intro wS hSw; (try dsimp only at hSw); (have rr := (hSw.1.st.old (o := oo + j) hbS.1 hbS.2).trans hcj); go_simp; try (with_reducible rfl))
          try simp only [Act.put, List.setIfInBounds_toArray, List.set_cons_zero, List.set_cons_succ]
          refine RegH.takeH (i := 9) (v := ?_) rfl (by kernel_rfl) (by kernel_rfl) (by kernel_rfl) (fun _ _ _ h => h) (Or.inl ⟨by rfl, ?_⟩) (by assumption) ?_
          rotate_left
          · (intro wS hSw; (try dsimp only at hSw); (have rr := (hSw.1.st.old (o := oo + j) hbS.1 hbS.2).trans hcj); go_simp; try (with_reducible rfl))
          try simp only [Act.put, List.setIfInBounds_toArray, List.set_cons_zero, List.set_cons_succ]
          refine RegH.consH (i := 0) rfl (by kernel_rfl) (fun K hK => ?_)
          go_simp
          have HEM := Lib.hid (Cd.ow_empty (e := 3) (c := Cd.int) w7 (w.heap.size + 2) hu7.st.sz)
          have hL : w7.heap.size ≠ q ∧ w7.heap.size ≠ p ∧ w.heap.size + 2 ≤ w7.heap.size := by have h1 := hq7.lt; have h2 := hu7.lp.lt; have h3 := hu7.st.sz; omega
          have hun := hu7.alloc (.cells #[] 3)
          have hqn := hq7.later (below_alloc w7 (.cells #[] 3))
          refine hK.out _ _ ?_ (fun hHeld => ?_)
          · exact ⟨hun, _, hqn⟩
          clear hK K
          try simp only [Act.put, List.setIfInBounds_toArray, List.set_cons_zero, List.set_cons_succ]
          clear hx0 hx1 hc7 hg7
          have HKA := Lib.hid (hun.st.rd huj)
          have hRL : (T.2.2[j]).length ≤ 40 := by have h1 := HT.out.2; unfold rowsWt at h1; have h2 := row_len hjl; omega
          have hszn := hun.st.sz
          refine RegH.consH (i := 10) rfl (by kernel_rfl) (fun K hK => ?_)
          refine Cd.step_appendRI rfl (.tmp 34) (.tmp 43) 27 rfl (w.heap.size + 2) 3 Tryz.underlying27 info_i64 _ [] [_] rfl HEM.out uj T.2.2[j] _ rfl HKA.out (by rw [List.length_nil]; omega) hszn ?_
          intro v1 w8 f1 ho1 hn1 hs1 ht1
          obtain ⟨a1, c1, rfl⟩ := Cd.ow_slice ho1
          have hLq : w7.heap.size ≠ q ∧ w7.heap.size ≠ p ∧ w.heap.size + 2 ≤ w7.heap.size := hL
          have hu8 := U1.touched hun ht1 hLq.2.2 hLq.2.1
          have hq8 := hqn.touched ht1 (by simp; exact fun q => hLq.1 q.symm)
          have hqlt := hqn.lt
          have hqf : q ∉ f1 := fun hm => by rcases hs1 q hm with h | h; exact hLq.1 (List.mem_singleton.1 h).symm; omega
          have HU9 := Lib.hid (show U2 w c v l (.slice _ Ts.length cd) q T.1 false (.slice a1 (T.2.2[j]).length c1) (T.2.2[j]) f1 (w8.setCell ⟨q, 2, none⟩ (.slice a1 (T.2.2[j]).length c1)) from U2.setR (y := .slice none 0 0) (row := []) (f := []) ⟨hu8.st, hq8, Cd.ow_nil _ _, by simp, by omega, by simp, HT.out.1, by simp⟩ ho1 hn1 hqf hRL)
          clear ho1 hn1 hs1 ht1 hqf
          refine hK.out _ _ ?_ (fun hHeld => ?_)
          · exact ⟨hu8, _, hq8⟩
          clear hK K
          try simp only [Act.put, List.setIfInBounds_toArray, List.set_cons_zero, List.set_cons_succ]
          refine RegH.takeH (i := 11) (v := ?_) rfl (by kernel_rfl) (by kernel_rfl) (by kernel_rfl) (fun _ _ _ h => h) (Or.inl ⟨by rfl, ?_⟩) (by assumption) ?_
          rotate_left
          · (intro wS hSw; (try dsimp only at hSw); skip; go_simp; try (with_reducible rfl))
          try simp only [Act.put, List.setIfInBounds_toArray, List.set_cons_zero, List.set_cons_succ]
          obtain ⟨s0, s1, s2, t0, t1, t2⟩ := hq8
          refine RegH.consH (i := 12) rfl (by kernel_rfl) (fun K hK => ?_)
          go_simp
          refine hK.out _ _ ?_ (fun hHeld => ?_)
          · exact ⟨hu8.set (a := ⟨q, 2, none⟩) (show w.heap.size + 2 ≤ q by omega) (show q ≠ p by omega) _, _, HU9.out.lq⟩
          clear hK K
          try simp only [Act.put, List.setIfInBounds_toArray, List.set_cons_zero, List.set_cons_succ]
          refine wpAnyH_done (by kernel_rfl) ?_ _
          go_wp2_with fail
          go_meet
          exact ⟨false, a1, c1, T.2.2[j], f1, HU9.out⟩
  case rest =>
  obtain ⟨b, ay, ky, row, f, hu⟩ := hcut
  clear HQ HU HBL2
  have HU := Lib.hid hu
  clear hu
  generalize wc = W5 at *
  go_wp2_with fail
  refine (HBL.out _ _ HU.out.st).mono ?_
  rintro e w6 ⟨x, rfl, hx0, hx1, hc6, hg6⟩
  have HU6 := Lib.hid (HU.out.grown hg6 hc6)
  clear hx0 hx1 hc6 hg6 HU
  by_cases x0 : x = 0
  · subst x0
    go_wp2_with fail
    refine (HPK.out _ HU6.out.st).mono ?_
    rintro e w7 ⟨t, ht, rfl, hc7, hg7⟩
    have hnm := ww3_ok ⟨t, ht⟩
    simp only at hnm
    generalize ww3.getD t ⟨#[]⟩ = nm at *
    have HU7 := Lib.hid ((HU6.out.alloc (.cells (ww3.map fun z => Value.string z).toArray 9)).grown hg7 hc7)
    have HU8 := Lib.hid (HU7.out.setN hnm)
    clear hc7 hg7 HU6
    obtain ⟨a0, a1, a2, b0, b1, b2⟩ := HU7.out.lq
    clear a1 a2 b1 b2
    obtain ⟨c0, c1, c2, d0, d1, d2⟩ := HU8.out.lq
    obtain ⟨m0, m1, m2, n0, n1, n2⟩ := HU8.out.st.lr
    go_wp2_with fail
    obtain ⟨k0, k1, k2⟩ := set3 (w := w7.setCell ⟨q, 0, none⟩ (.string nm)) (k := w.heap.size + 1) (x := .string nm) (y := .bool (b)) (z := .slice ay row.length ky) m0 m1 m2
    exact bodyPost_ret (v := .agg #[.string nm, .bool (b), .slice ay row.length ky]) (by simp [results, Tryz.results48, go_sem, k0, k1, k2]) rfl HU8.out.done
  have tt0 : (x == 0) = false := by rw [beq_eq_false_iff_ne]; exact x0
  by_cases x1 : x = 1
  · subst x1
    clear x0
    have HU8 := Lib.hid (HU6.out.setB !b)
    obtain ⟨a0, a1, a2, b0, b1, b2⟩ := HU6.out.lq
    clear a0 a2 b0 b2
    obtain ⟨c0, c1, c2, d0, d1, d2⟩ := HU8.out.lq
    obtain ⟨m0, m1, m2, n0, n1, n2⟩ := HU8.out.st.lr
    go_wp2_with fail
    obtain ⟨k0, k1, k2⟩ := set3 (w := w6.setCell ⟨q, 1, none⟩ (.bool !b)) (k := w.heap.size + 1) (x := .string T.1) (y := .bool (!b)) (z := .slice ay row.length ky) m0 m1 m2
    exact bodyPost_ret (v := .agg #[.string T.1, .bool (!b), .slice ay row.length ky]) (by simp [results, Tryz.results48, go_sem, k0, k1, k2]) rfl HU8.out.done
  have tt1 : (x == 1) = false := by rw [beq_eq_false_iff_ne]; exact x1
  have HU8 := HU6
  obtain ⟨c0, c1, c2, d0, d1, d2⟩ := HU8.out.lq
  obtain ⟨m0, m1, m2, n0, n1, n2⟩ := HU8.out.st.lr
  go_wp2_with fail
  obtain ⟨k0, k1, k2⟩ := set3 (w := w6) (k := w.heap.size + 1) (x := .string T.1) (y := .bool (b)) (z := .slice ay row.length ky) m0 m1 m2
  exact bodyPost_ret (v := .agg #[.string T.1, .bool (b), .slice ay row.length ky]) (by simp [results, Tryz.results48, go_sem, k0, k1, k2]) rfl HU8.out.done
end Go.Proofs.YtmifnbplkaonaaaGreat.UpdDraw
