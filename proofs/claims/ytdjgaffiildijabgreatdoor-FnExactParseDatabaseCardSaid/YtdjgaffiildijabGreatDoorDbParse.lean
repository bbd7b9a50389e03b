/- Databases: the model's reading. -/
import Derived.Test.YtdjgaffiildijabGreatDoorDbCut
import Derived.Test.YtdjgaffiildijabGreatDoorDbAcc
namespace Go.Proofs.YtdjgaffiildijabGreatDoor.DbParse
open Go Go.RowKit Byt Ints IntsLaw Cd Rows2 Tab SlMath TabOpen TabElem SlTable Db TabSpec DbMath DbSpec DbExact DbAcc TabFmt TabParse

theorem cutB_len (sep : UInt8) : ∀ (l : List UInt8), (∀ x ∈ cutB sep l, x.length ≤ l.length) ∧ (cutB sep l).length ≤ l.length + 1
  | [] => by simp [cutB]
  | b :: r => by
    have ih := cutB_len sep r
    unfold cutB
    split
    · refine ⟨fun x hx => ?_, by simp only [List.length_cons]; omega⟩
      rcases List.mem_cons.1 hx with rfl | q
      · simp
      · have := ih.1 x q; simp only [List.length_cons]; omega
    · split
      · simp
      · rename_i x xs he
        rw [he] at ih
        refine ⟨fun y hy => ?_, by simp only [List.length_cons] at *; omega⟩
        rcases List.mem_cons.1 hy with rfl | q
        · have := ih.1 x List.mem_cons_self; simp only [List.length_cons]; omega
        · have := ih.1 y (List.mem_cons_of_mem _ q); simp only [List.length_cons]; omega
theorem cuts9_size {s x : ByteArray} (h : x ∈ cuts9 s) : x.size ≤ s.size := by
  unfold cuts9 at h
  obtain ⟨l, hl, rfl⟩ := List.mem_map.1 h
  have := (cutB_len 59 s.data.toList).1 l hl
  rw [Array.length_toList] at this
  exact this
theorem cuts9_len (s : ByteArray) : (cuts9 s).length ≤ s.size + 1 := by
  unfold cuts9
  rw [List.length_map]
  have := (cutB_len 59 s.data.toList).2
  rw [Array.length_toList] at this
  exact this
/-- The table that a text reads as. -/
def tabP (s : ByteArray) : T3 := (pNm s, pAr s, pRows s)
def ReadP (s : ByteArray) : Prop := (∀ x ∈ cuts9 s, pOk x = true) ∧ dbOk ((cuts9 s).map tabP) = true
instance (s : ByteArray) : Decidable (ReadP s) := by unfold ReadP; infer_instance
def parOk (s : ByteArray) : Bool := decide (s = ⟨#[]⟩ ∨ ReadP s)
def parL (s : ByteArray) : List T3 := if s = ⟨#[]⟩ then [] else if ReadP s then (cuts9 s).map tabP else []
theorem par_empty {s : ByteArray} (h : s = ⟨#[]⟩) : parOk s = true ∧ parL s = [] := ⟨decide_eq_true (.inl h), by unfold parL; rw [if_pos h]⟩
theorem par_not {s : ByteArray} (h : s ≠ ⟨#[]⟩) (q : ¬ ReadP s) : parOk s = false ∧ parL s = [] := ⟨decide_eq_false fun r => r.elim h q, by unfold parL; rw [if_neg h, if_neg q]⟩
theorem par_is {s : ByteArray} (h : s ≠ ⟨#[]⟩) (q : ReadP s) : parOk s = true ∧ parL s = (cuts9 s).map tabP := ⟨decide_eq_true (.inr q), by unfold parL; rw [if_neg h, if_pos q]⟩
theorem tabP_ow {w : World} {base : Nat} {s : ByteArray} {u : Value} {fp : List Nat} (h : rowsC.ow w base [u] (pRows s) fp) : tabC.ow w base [.string (tabP s).1, .int .i64 (tabP s).2.1, u] (tabP s) fp := by
  refine tab_ow h ?_ ?_
  · show (s.extract 0 1).size ≤ maxLen
    rw [ByteArray.size_extract]
    unfold maxLen
    omega
  · show -9223372036854775808 ≤ pAr s ∧ pAr s ≤ 9223372036854775807
    unfold pAr
    have := UInt8.toNat_lt (s.data.toList.getD 1 0)
    omega
/-- What the reading of one table says. -/
theorem ans_yes {s : ByteArray} {w w' : World} {e : Ending} (hp : pOk s = true) (h : ParAns s w e w') : ∃ a c fp, e = .returned (.tuple #[.agg #[.string (tabP s).1, .int .i64 (tabP s).2.1, .slice a (tabP s).2.2.length c], .bool true]) ∧ tabC.ow w' w.heap.size [.string (tabP s).1, .int .i64 (tabP s).2.1, .slice a (tabP s).2.2.length c] (tabP s) fp ∧ fp.Nodup ∧ Below w.heap.size w w' := by
  obtain ⟨u, fp, he, ho, hn, hb⟩ := h
  rw [hp] at he ho
  simp only [if_true] at he ho
  obtain ⟨a, c, rfl⟩ := Cd.ow_slice ho
  exact ⟨a, c, fp, he, tabP_ow ho, hn, hb⟩
theorem ans_no {s : ByteArray} {w w' : World} {e : Ending} (hp : pOk s = false) (h : ParAns s w e w') : ∃ a c, e = .returned (.tuple #[.agg #[.string ⟨#[]⟩, .int .i64 0, .slice a 0 c], .bool false]) ∧ Below w.heap.size w w' := by
  obtain ⟨u, fp, he, ho, hn, hb⟩ := h
  rw [hp] at he ho
  simp only [Bool.false_eq_true, if_false] at he ho
  obtain ⟨a, c, rfl⟩ := Cd.ow_slice ho
  exact ⟨a, c, he, hb⟩
theorem ok_take {l : List ByteArray} {k : Nat} (h : ∀ x ∈ l.take k, pOk x = true) (hk : k < l.length) (h0 : pOk l[k] = true) : ∀ x ∈ l.take (k + 1), pOk x = true := by
  intro T hT
  rw [List.take_succ_eq_append_getElem hk] at hT
  rcases List.mem_append.1 hT with q | q
  · exact h T q
  · rw [List.mem_singleton.1 q]; exact h0
/-- Nothing was read: the result's cell holds an empty database. -/
theorem DbAns.empty {w w2 : World} {Y : Nat} {l : List T3} {b : Bool} (hb : Below w.heap.size w w2) (hY : w.heap.size ≤ Y) (el : l = []) (x : Bool) (eb : b = x) :
    DbAns l b w (.returned (.tuple #[.agg #[.slice none 0 0], .bool x])) (w2.setCell ⟨Y, 0, none⟩ (.slice none 0 0)) := by
  subst el eb
  exact ⟨_, [], rfl, Cd.ow_nil _ _, by simp, hb.setCell hY _⟩

theorem DbAns.empty' {w w2 : World} {l : List T3} {b : Bool} (hb : Below w.heap.size w w2) (el : l = []) (x : Bool) (eb : b = x) :
    DbAns l b w (.returned (.tuple #[.agg #[.slice none 0 0], .bool x])) w2 := by
  subst el eb
  exact ⟨_, [], rfl, Cd.ow_nil _ _, by simp, hb⟩
set_option maxRecDepth 100000 in
set_option maxHeartbeats 3200000 in
theorem spec_parsedb (s : ByteArray) (w : World) (hs : s.size ≤ 1048576) :
    Calls Tryz.prog 6 #[.string s] w fun e w' => DbAns (parL s) (parOk s) w e w' := by
  have HS := Lib.hid hs
  by_cases h0 : s = ⟨#[]⟩
  · subst h0
    have HE := Lib.hid (par_empty (s := ⟨#[]⟩) rfl)
    go_enter Tryz.func6, Tryz.ntmps6
    go_wp2_with fail
    generalize hW : (w.alloc _).alloc _ = W
    obtain ⟨r0, r1, hz, hb0⟩ := start2g w _ _ hW
    have y0 := (Loc1.of r0).c0
    have HB0 := Lib.hid hb0
    clear hW r0 r1 hz hb0
    refine bodyPost_ret (v := .tuple #[.agg #[.slice none 0 0], .bool true]) (by simp [results, Tryz.results6, go_sem, y0]) rfl ?_
    exact DbAns.empty' HB0.out HE.out.2 _ HE.out.1
  have H0 := Lib.hid h0
  have hne : (s.toList == []) = false := by
    rw [beq_eq_false_iff_ne, ByteArray.toList_eq]
    intro q
    apply h0
    cases s
    simp only at q
    rw [Array.toList_eq_nil_iff.1 q]
  clear h0
  go_enter Tryz.func6, Tryz.ntmps6
  go_wp2_with fail
  generalize hW : (w.alloc _).alloc _ = W
  obtain ⟨r0, r1, hz, hb0⟩ := start2g w _ _ hW
  have HC0 := Lib.hid (Loc1.of r0)
  have HC1 := Lib.hid (Loc1.of r1)
  have HB0 := Lib.hid hb0
  have HZ := Lib.hid hz
  clear hW r0 r1 hz hb0
  refine (spec_cut9 s W HS.out).mono ?_
  rintro e WF ⟨v, fps, rfl, hos, hns, hb1⟩
  obtain ⟨av, cv, rfl⟩ := Cd.ow_slice (c := strC) hos
  have HOS := Lib.hid hos
  have HBF := Lib.hid (below_then HB0.out hb1)
  have HD0 := Lib.hid (HC0.out.later hb1)
  have HACC0 := Lib.hid (AccS.start' (HC1.out.later hb1))
  have HPS := Lib.hid (fun x (hx : x ∈ cuts9 s) => (show x.size ≤ 1048576 from Nat.le_trans (cuts9_size hx) HS.out))
  have HPL := Lib.hid (show (cuts9 s).length ≤ 1048577 by have := cuts9_len s; have := HS.out; omega)
  have HRE := Lib.hid (show ReadP s ↔ (∀ x ∈ cuts9 s, pOk x = true) ∧ dbOk ((cuts9 s).map tabP) = true from Iff.rfl)
  have HIS := Lib.hid (fun q : ReadP s => par_is H0.out q)
  have HNOT := Lib.hid (fun q : ¬ ReadP s => par_not H0.out q)
  clear hos hns hb1 hne
  generalize cuts9 s = ps at *
  go_wp2_with fail
  go_loopw [6] (fun i wr => ∃ (k : Nat) (a : Option Addr) (c : Nat) (fp : List Nat), k ≤ ps.length ∧ k ≤ 7 ∧ i = .int .i64 k ∧ (∀ x ∈ ps.take k, pOk x = true) ∧ AccS WF wr (w.heap.size + 1) ((ps.take k).map tabP) a c fp) (fun i _ => ps.length - (intOf i).toNat)
  case atStart => exact ⟨0, none, 0, [], Nat.zero_le _, by omega, rfl, by simp, HACC0.out⟩
  case round =>
    obtain ⟨k, a, c, fp, hk, hk7, rfl, hok, hacc⟩ := hrel
    have HACC := Lib.hid hacc
    have HOK := Lib.hid hok
    have HSW := Lib.hid (Cd.ow_touched HOS.out HACC.out.tou (fun b hb q => by have h1 := (strsC.ow_lt HOS.out b hb).1; have h2 := HZ.out; have h3 := List.mem_singleton.1 q; omega))
    have HBW := Lib.hid (HACC.out.below HBF.out (by omega))
    have hpl := HPL.out
    clear hacc hok
    have hcur : ((ps.take k).map tabP).length = k := by rw [List.length_map, List.length_take]; omega
    by_cases hlt : k < ps.length ∧ k ≤ 6
    · obtain ⟨hlt, h6⟩ := hlt
      obtain ⟨b, off, cap', e1, hbB, hc⟩ := strs_at (strsC.ow_rd HSW.out) hlt
      injection e1 with e1 _ e3
      subst e1 e3
      have HTK := Lib.hid (show (ps.take (k + 1)).map tabP = (ps.take k).map tabP ++ [tabP ps[k]] by rw [List.take_succ_eq_append_getElem hlt, List.map_append]; rfl)
      have HOK1 := Lib.hid (fun q => ok_take HOK.out hlt q)
      have HBAD := Lib.hid (fun q : pOk ps[k] = false => HNOT.out (fun r => by have := (HRE.out.1 r).1 _ (List.getElem_mem hlt); rw [q] at this; cases this))
      have HPA := Lib.hid (spec_parse ps[k] wr (HPS.out _ (List.getElem_mem hlt)))
      have HLL := Lib.hid (show ((ps.take k).map tabP).length + 1 ≤ 1000000000 by omega)
      have i1 : (0 : Int) ≤ (k : Int) := by omega
      have i2 : (k : Int) < (ps.length : Int) := by omega
      have i3 : ((k : Int) ≤ 6) = True := by simp only [eq_iff_iff, iff_true]; omega
      have i4 : (k ≤ 6) = True := by simp only [eq_iff_iff, iff_true]; omega
      clear hcur
      generalize ps[k] = pt at *
      generalize (ps.take k).map tabP = cur at *
      cases hpt : pOk pt
      · have HPN := Lib.hid hpt
        clear hpt
        go_wp2_with fail
        refine (HPA.out.mono fun e w' h => ans_no HPN.out h).mono ?_
        rintro e w2 ⟨a2, c2, rfl, hb2⟩
        have hE := HBAD.out HPN.out
        have HE := Lib.hid hE
        have hA := (HACC.out.loc1 HD0.out (by omega)).later hb2
        have HB2 := Lib.hid (below_then HBW.out hb2)
        have HY := Lib.hid hA
        have y0 := hA.c0
        have y1 := hA.f0
        have y2 := hA.lt
        clear hE hA hb2
        go_wp2_with fail
        have hYB := below_alloc (w2.setCell ⟨w.heap.size, 0, none⟩ (.slice none 0 0)) (.cells #[.string ⟨#[]⟩, .int .i64 0, .slice a2 0 c2] 34 (0, 0))
        have k0 := (hYB.cell (p := ⟨w.heap.size, 0, none⟩) (by simpa using HY.out.lt)).trans (World.cell?_setCell_same _ _ _ HY.out.c0)
        refine bodyPost_ret (v := .tuple #[.agg #[.slice none 0 0], .bool false]) (by simp [results, Tryz.results6, go_sem, k0]) rfl ?_
        obtain ⟨q1, q2, q3, q4, q5⟩ := DbAns.empty (b := parOk s) (l := parL s) HB2.out (Nat.le_refl _) HE.out.2 _ HE.out.1
        exact ⟨q1, q2, q3, Cd.ow_later q4 hYB, q5.1, below_then q5.2 hYB⟩
      · have HPY := Lib.hid hpt
        clear hpt
        go_wp2_with fail
        refine ((HPA.out.mono fun e w' h => ans_yes HPY.out h)).mono ?_
        rintro e w2t ⟨a2t, c2t, f2t, rfl, ho2, hn2, hb2⟩
        have h2 := HACC.out.later hb2
        have d2 := h2.cell
        have dl := World.block_lt_of_cell? _ _ d2
        have hl := HACC.out.laid hb2 ho2 hn2 34
        have H3 := Lib.hid hl.1
        have HLD := Lib.hid hl.2
        clear ho2 hn2 hb2 h2 hl HACC
        go_wp2_with (at_builtin; refine Cd.wpList_appendN (c := tabC) rfl (.tmp 37) (.tmp 39) 22 rfl WF.heap.size 34 (.agg #[.string ⟨#[]⟩, .int .i64 0, .slice none 0 0]) 3 48 rfl Tryz.underlying22 info_x rfl (by decide) _ cur fp rfl H3.out.ow H3.out.nd (w2t.heap.size + 1) _ rfl HLD.out.at_ (tabP pt) f2t HLD.out.ow HLD.out.nd HLD.out.far HLL.out H3.out.sz ?_)
        intro gt cap4t w4t fp4t ho4 hn4 _ ht4
        have HACC := Lib.hid (H3.out.app (cur' := cur ++ [(tabP pt)]) (n := cur.length + 1) (by simp) ht4 ho4 hn4)
        obtain ⟨e2, g2⟩ := H3.out.fcell ht4
        clear ho4 hn4 ht4 H3 HLD d2 dl
        go_wp2_with fail
        go_roundw
        case rel => exact ⟨k + 1, some ⟨gt, 0, none⟩, cap4t, fp4t, by omega, by omega, by go_num, HOK1.out HPY.out, HACC.out.shift HTK.out.symm⟩
        case measure => simp [intOf]; omega
    · have HEND := Lib.hid hlt
      have hVX := spec_dbok _ ((ps.take k).map tabP) _ wr (tabsC.ow_rd HACC.out.ow)
      have HVX := Lib.hid hVX
      have HCU := Lib.hid hcur
      have x0 := HACC.out.cell
      have HNO := Lib.hid (show dbOk ((ps.take k).map tabP) = false → ¬ ReadP s from fun q r => by
        have r2 := (HRE.out.1 r).2
        have r3 := (dbOk_iff.1 r2).1
        rw [List.length_map] at r3
        have e : k = ps.length := by have := HEND.out; omega
        rw [e, List.take_length, r2] at q
        cases q)
      have HYE := Lib.hid (show dbOk ((ps.take k).map tabP) = true → ReadP s ∧ (ps.take k).map tabP = ps.map tabP from fun q => by
        have r3 := (dbOk_iff.1 q).1
        rw [HCU.out] at r3
        have e : k = ps.length := by have := HEND.out; omega
        have hok := HOK.out
        rw [e, List.take_length] at hok q
        exact ⟨HRE.out.2 ⟨hok, q⟩, by rw [e, List.take_length]⟩)
      clear hVX
      generalize (ps.take k).map tabP = cur at *
      have HGO := Lib.hid (show ∀ (P : Prop), (¬ k < ps.length → P) → (k < ps.length → ¬ k ≤ 6 → P) → P from fun P h1 h2 => by
        by_cases q : k < ps.length
        · exact h2 q (fun r => HEND.out ⟨q, r⟩)
        · exact h1 q)
      have HTAIL : ∀ (wq : World) (_ : wq = wr), True := fun _ _ => trivial
      clear HTAIL hlt hcur
      by_cases hq : k < ps.length
      · have i3 : ((k : Int) ≤ 6) = False := by simp only [eq_iff_iff, iff_false]; have := HGO.out (¬ k ≤ 6) (fun h => absurd hq h) (fun _ h => h); omega
        have i4 : (k ≤ 6) = False := by simp only [eq_iff_iff, iff_false]; have := HGO.out (¬ k ≤ 6) (fun h => absurd hq h) (fun _ h => h); omega
        have i2 : (k : Int) < (ps.length : Int) := by omega
        go_wp2_with fail
        refine HVX.out.mono ?_
        rintro e wv ⟨rfl, hbv⟩
        replace HACC := Lib.hid (HACC.out.later hbv)
        have HBV := Lib.hid (below_then HBW.out hbv)
        clear hbv x0
        have x6 := HACC.out.cell
        have hy := HACC.out.loc1 HD0.out (by omega)
        have y0 := hy.c0
        have y1 := hy.f0
        have HY := Lib.hid hy
        clear hy
        cases hvx : dbOk cur
        · have HE := Lib.hid (HNOT.out (HNO.out hvx))
          go_wp2_with fail
          have k0 : (wv.setCell ⟨w.heap.size, 0, none⟩ (.slice none 0 0)).cell? ⟨w.heap.size, 0, none⟩ = some (.slice none 0 0) := World.cell?_setCell_same _ _ _ HY.out.c0
          refine bodyPost_ret (v := .tuple #[.agg #[.slice none 0 0], .bool false]) (by simp [results, Tryz.results6, go_sem, k0]) rfl ?_
          exact DbAns.empty HBV.out (Nat.le_refl _) HE.out.2 _ HE.out.1
        · have HE := Lib.hid (HYE.out hvx)
          have HI := Lib.hid (HIS.out HE.out.1)
          go_wp2_with fail
          have k0 : (wv.setCell ⟨w.heap.size, 0, none⟩ (.slice a cur.length c)).cell? ⟨w.heap.size, 0, none⟩ = some (.slice a cur.length c) := World.cell?_setCell_same _ _ _ HY.out.c0
          refine bodyPost_ret (v := .tuple #[.agg #[.slice a cur.length c], .bool true]) (by simp [results, Tryz.results6, go_sem, k0]) rfl ?_
          exact HACC.out.ans (Y := w.heap.size) HBF.out (by omega) (Nat.le_refl _) HD0.out.lt (HE.out.2.trans HI.out.2.symm) HI.out.1
      · have i2 : ((k : Int) < (ps.length : Int)) = False := by simp only [eq_iff_iff, iff_false]; omega
        have i5 : (k < ps.length) = False := by simp only [eq_iff_iff, iff_false]; omega
        go_wp2_with fail
        refine HVX.out.mono ?_
        rintro e wv ⟨rfl, hbv⟩
        replace HACC := Lib.hid (HACC.out.later hbv)
        have HBV := Lib.hid (below_then HBW.out hbv)
        clear hbv x0
        have x6 := HACC.out.cell
        have hy := HACC.out.loc1 HD0.out (by omega)
        have y0 := hy.c0
        have y1 := hy.f0
        have HY := Lib.hid hy
        clear hy
        cases hvx : dbOk cur
        · have HE := Lib.hid (HNOT.out (HNO.out hvx))
          go_wp2_with fail
          have k0 : (wv.setCell ⟨w.heap.size, 0, none⟩ (.slice none 0 0)).cell? ⟨w.heap.size, 0, none⟩ = some (.slice none 0 0) := World.cell?_setCell_same _ _ _ HY.out.c0
          refine bodyPost_ret (v := .tuple #[.agg #[.slice none 0 0], .bool false]) (by simp [results, Tryz.results6, go_sem, k0]) rfl ?_
          exact DbAns.empty HBV.out (Nat.le_refl _) HE.out.2 _ HE.out.1
        · have HE := Lib.hid (HYE.out hvx)
          have HI := Lib.hid (HIS.out HE.out.1)
          go_wp2_with fail
          have k0 : (wv.setCell ⟨w.heap.size, 0, none⟩ (.slice a cur.length c)).cell? ⟨w.heap.size, 0, none⟩ = some (.slice a cur.length c) := World.cell?_setCell_same _ _ _ HY.out.c0
          refine bodyPost_ret (v := .tuple #[.agg #[.slice a cur.length c], .bool true]) (by simp [results, Tryz.results6, go_sem, k0]) rfl ?_
          exact HACC.out.ans (Y := w.heap.size) HBF.out (by omega) (Nat.le_refl _) HD0.out.lt (HE.out.2.trans HI.out.2.symm) HI.out.1
end Go.Proofs.YtdjgaffiildijabGreatDoor.DbParse
