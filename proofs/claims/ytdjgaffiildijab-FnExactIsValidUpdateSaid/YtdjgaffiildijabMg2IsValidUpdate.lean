/- Texts that the proof rests on, one behind the other. -/
import Derived.Test.YtdjgaffiildijabMg1IsValidUpdate
import Derived.Test.YtdjgaffiildijabTabImp6
import Derived.Test.YtdjgaffiildijabCdCut
import Derived.Lib.AppendZerosOnto
import Derived.Laws.CopyOwn
import Derived.Deep.RegionLaw
import Derived.Test.YtdjgaffiildijabTabMath
import Derived.Test.YtdjgaffiildijabTabIns
import Derived.Test.YtdjgaffiildijabUpdApp
import Derived.Test.YtdjgaffiildijabUpdFmt
import Derived.Deep.DeepCutAuto
import Derived.Test.YtdjgaffiildijabDb
import Derived.Test.YtdjgaffiildijabTabOpen
import Derived.Test.YtdjgaffiildijabDbExact
import Derived.Test.YtdjgaffiildijabUpd

namespace Go.Proofs.Ytdjgaffiildijab.DbImp
open Go Go.RowKit Byt Ints IntsLaw Cd Rows2 Tab SlMath TabOpen TabElem SlTable Db TabSpec DbMath TabImp DbMap DbExact DbSort
open Go.Maps (Keyed string_keyed IsMap Tidy)
open DbSpec (LaterD drewD row1 rows_cell name_cell at3)
open DbAcc (DbAns)

theorem Stand.set {F : ByteArray → Option TabV} {G : ByteArray → Option T3} {S S2 : Nat → Prop} {w : World} (h : Stand F G S w) {t : TabV} {T : T3} (hn : t.nm = T.1) (hw : wtT T ≤ 1048577) (hr : tabC.rd w S2 t.us T) : Stand (setF F T.1 t) (setG G T.1 T) (fun b => S b ∨ S2 b) w := fun x => by
  unfold setF setG
  by_cases e : x = T.1
  · rw [if_pos e, if_pos e]; exact .inr ⟨t, T, rfl, rfl, hn.trans e.symm, hw, tabC.mono hr fun _ _ q => .inr q⟩
  · rw [if_neg e, if_neg e]
    exact (h x).imp id fun ⟨t, U, h1, h2, h3, h4, h5⟩ => ⟨t, U, h1, h2, h3, h4, tabC.mono h5 fun _ _ q => .inl q⟩
theorem set_eq {l R : List T3} {T : T3} (ha : AscP l) (hR : AscP R) (h : ∀ U, U ∈ R ↔ setG (findN l) T.1 T U.1 = some U) : R = putL T l := by
  refine asc_unique hR (asc_putL ha) fun U => ?_
  rw [h, mem_putL ha]
  unfold setG
  by_cases e : U.1 = T.1
  · rw [if_pos e]
    constructor
    · intro q; injection q with q; exact .inl q.symm
    · rintro (q | ⟨_, q⟩)
      · rw [q]
      · exact absurd e q
  · rw [if_neg e]
    constructor
    · exact fun q => .inr ⟨(findN_some q).1, e⟩
    · rintro (q | ⟨q, _⟩)
      · exact absurd (by rw [q]) e
      · exact findN_of_asc ha q
theorem put_size {w : World} {S : Nat → Prop} {a : Option Addr} {l : List T3} {ts : List TabV} (h : HeldT w S a l ts) (ha : AscP l) (T : T3) : (if (entF ts T.1).isSome then l.length else l.length + 1) = (putL T l).length := by
  rw [len_putL ha]
  rcases entF_find h T.1 with ⟨q1, q2⟩ | ⟨U, t, q1, q2, _⟩ <;> rw [q1, q2] <;> rfl

set_option maxRecDepth 100000 in
set_option maxHeartbeats 3200000 in
theorem impl_set (u : Value) (l : List T3) (T : T3) (at_ : Option Addr) (cc : Nat) (S S2 : Nat → Prop) (w : World) (h1 : tabsC.rd w S [u] l) (h2 : tabC.rd w S2 [.string T.1, .int .i64 T.2.1, .slice at_ T.2.2.length cc] T) (hw : wtS l ≤ 1048577) (hwt : wtT T ≤ 1048577) :
    Calls Try.prog 48 #[.agg #[u], .agg #[.string T.1, .int .i64 T.2.1, .slice at_ T.2.2.length cc]] w fun e w' => DbAns (setL l T) (setOk l T) w e w' := by
  obtain ⟨a1, cap1, rfl, hl1⟩ := Cd.sl_form h1
  obtain ⟨ts, ht⟩ := held_of h1
  have HT := Lib.hid (fun w' (hb : Below w.heap.size w w') => HeldT.later ht hb)
  have HNA := Lib.hid (fun w' (hb : Below w.heap.size w w') => impl_byname a1 cap1 l ts S w' (Cd.later h1 hb) (HeldT.later ht hb))
  have HDC := Lib.hid (fun w' (hb : Below w.heap.size w w') => impl_dbcopy _ l S w' (Cd.later h1 hb) hw)
  have HV := Lib.hid (fun w' (hb : Below w.heap.size w w') => impl_dbok _ l S w' (Cd.later h1 hb))
  have HVT := Lib.hid (fun w' (hb : Below w.heap.size w w') => val_elem_i _ T S2 w' (Cd.later h2 hb))
  have HRT := Lib.hid (fun w' (hb : Below w.heap.size w w') => Cd.later h2 hb)
  have hns : T.1.size ≤ maxLen := by obtain ⟨u, _, h, _⟩ := tab_cells h2; exact h
  have HK := Lib.hid (key_of hns)
  have HWT := Lib.hid hw
  have HWT2 := Lib.hid hwt
  clear h1 h2 ht hw hwt hns
  go_enter Try.func48, Try.ntmps48
  go_wp2_with fail
  generalize hW : ((w.alloc _).alloc _).alloc _ = W
  obtain ⟨r0, r1, r2, hz, hb0⟩ := start3 w _ _ _ hW
  have HC0 := Lib.hid (Loc1.of r0)
  have HC1 := Lib.hid (Loc3.of r1)
  have HC2 := Lib.hid (Loc1.of r2)
  have HZZ := Lib.hid hz
  have HB0 := Lib.hid hb0
  clear hW r0 r1 r2 hz hb0
  refine (HNA.out _ HB0.out).mono ?_
  rintro e w1 ⟨B, D, n, rfl, hBl, hown, hn6, hm, hb1⟩
  have HB1 := Lib.hid (below_then HB0.out hb1)
  have HC0a := Lib.hid (HC0.out.later hb1)
  have HC1a := Lib.hid (HC1.out.later hb1)
  have HC2a := Lib.hid (HC2.out.later hb1)
  have HBL := Lib.hid (show w.heap.size + 3 ≤ B by have := HZZ.out; omega)
  have HM := Lib.hid (hm.put T.1 ⟨T.1, T.2.1, at_, T.2.2.length, cc⟩)
  have q0 := HC0a.out.c0
  have q1 := HC1a.out.c0
  have q2 := HC1a.out.c1
  have q3 := HC1a.out.c2
  clear hb1 hm hBl
  go_wp2_with (first
    | (at_mapUpdate; refine wpList_mapUpdate_own _ rfl _ _ _ 109 rfl 9 74 law Try.underlying109 tabR B n D rfl hown (by unfold maxLen; omega) _ _ (keyL T.1) rfl rfl HK.out _ [] (tabR_mk ⟨T.1, T.2.1, at_, T.2.2.length, cc⟩) ?_; intro w2 hown2 hg2; (have q0' := (HC0a.out.touched (touch_grown hg2) (by have := HBL.out; simp; omega)).c0); go_frame))
  have HO2 := Lib.hid (show Owns w2 B (n + 1) (D.put (keyL T.1) (.held (TabV.val ⟨T.1, T.2.1, at_, T.2.2.length, cc⟩))) from hown2)
  have htg := touch_grown hg2
  have HB2 := Lib.hid (Cd.Touch.below HB1.out htg (fun b hb => by rw [List.mem_singleton.1 hb]; have := HBL.out; omega))
  have HC0b := Lib.hid (HC0a.out.touched htg (by have := HBL.out; simp; omega))
  have HC1b := Lib.hid (HC1a.out.touched htg (by have := HBL.out; simp; omega))
  have HC2b := Lib.hid (HC2a.out.touched htg (by have := HBL.out; simp; omega))
  clear hown hown2 hg2 htg q0 q1 q2 q3
  refine (HV.out _ HB2.out).mono ?_
  rintro e w3 ⟨rfl, hb3⟩
  have HB3 := Lib.hid (below_then HB2.out hb3)
  have HC0c := Lib.hid (HC0b.out.later hb3)
  have HC1c := Lib.hid (HC1b.out.later hb3)
  have HC2c := Lib.hid (HC2b.out.later hb3)
  have HO3 := Lib.hid (Owns.later HO2.out hb3)
  clear hb3 q0'
  have q0 := HC0c.out.c0
  have q1 := HC1c.out.c0
  have q2 := HC1c.out.c1
  have q3 := HC1c.out.c2
  cases hv : dbOk l
  · have HNO := Lib.hid (show setOk l T = false by unfold setOk; rw [hv]; rfl)
    go_wp2_with fail
    refine (HDC.out _ HB3.out).mono ?_
    rintro e w9 ⟨a9, c9, f9, rfl, ho9, hn9, hb9⟩
    have HC9 := Lib.hid (HC2c.out.later hb9)
    have y0 := HC9.out.c0
    have y1 := HC9.out.f0
    have HA := Lib.hid (DbAns.copy (b := setOk l T) (l' := setL l T) (Y := w.heap.size + 2) ho9 hn9 HB3.out hb9 (by omega) (World.block_lt_of_cell? _ _ HC2c.out.c0) (by unfold setL; rw [HNO.out]; rfl) HNO.out)
    clear ho9 hn9 hb9
    go_wp2_with fail
    have k0 : (w9.setCell ⟨w.heap.size + 2, 0, none⟩ (.slice a9 l.length c9)).cell? ⟨w.heap.size + 2, 0, none⟩ = some (.slice a9 l.length c9) := World.cell?_setCell_same _ _ _ y0
    refine bodyPost_ret (v := .tuple #[.agg #[.slice a9 l.length c9], .bool false]) (by simp [results, Try.results48, go_sem, k0]) rfl ?_
    exact HA.out
  have HP := Lib.hid (dbOk_iff.1 hv)
  have HVV := Lib.hid hv
  have HM2 := Lib.hid (show MapIs (D.put (keyL T.1) (.held (TabV.val ⟨T.1, T.2.1, at_, T.2.2.length, cc⟩))) (setF (entF ts) T.1 ⟨T.1, T.2.1, at_, T.2.2.length, cc⟩) (putL T l).length from by
    have h := HM.out
    rw [hv] at h
    exact h.eq rfl (put_size (HT.out w (Below.refl _ _)) HP.out.2.2 T))
  clear hv HM
  go_wp2_with fail
  refine (HVT.out _ HB3.out).mono ?_
  rintro e w4 ⟨rfl, hb4⟩
  have HB4 := Lib.hid (below_then HB3.out hb4)
  have HC0d := Lib.hid (HC0c.out.later hb4)
  have HC2d := Lib.hid (HC2c.out.later hb4)
  have HO4 := Lib.hid (Owns.later HO3.out hb4)
  clear hb4 q0 q1 q2 q3
  have q0 := HC0d.out.c0
  cases hT : okT T
  · have HNO := Lib.hid (show setOk l T = false by unfold setOk; rw [hT]; simp)
    go_wp2_with fail
    refine (HDC.out _ HB4.out).mono ?_
    rintro e w9 ⟨a9, c9, f9, rfl, ho9, hn9, hb9⟩
    have HC9 := Lib.hid (HC2d.out.later hb9)
    have y0 := HC9.out.c0
    have y1 := HC9.out.f0
    have HA := Lib.hid (DbAns.copy (b := setOk l T) (l' := setL l T) (Y := w.heap.size + 2) ho9 hn9 HB4.out hb9 (by omega) (World.block_lt_of_cell? _ _ HC2d.out.c0) (by unfold setL; rw [HNO.out]; rfl) HNO.out)
    clear ho9 hn9 hb9
    go_wp2_with fail
    have k0 : (w9.setCell ⟨w.heap.size + 2, 0, none⟩ (.slice a9 l.length c9)).cell? ⟨w.heap.size + 2, 0, none⟩ = some (.slice a9 l.length c9) := World.cell?_setCell_same _ _ _ y0
    refine bodyPost_ret (v := .tuple #[.agg #[.slice a9 l.length c9], .bool false]) (by simp [results, Try.results48, go_sem, k0]) rfl ?_
    exact HA.out
  have HTV := Lib.hid hT
  clear hT
  have hlen := World.ownsMap.len HO4.out Try.underlying109 3
  rw [HM2.out.size] at hlen
  by_cases h6 : (putL T l).length ≤ 6
  case neg =>
    have HNO := Lib.hid (show setOk l T = false by unfold setOk; rw [decide_eq_false h6]; simp)
    have h6' : ((6 : Int) < ((putL T l).length : Int)) = True := by simp only [eq_iff_iff, iff_true]; omega
    have h6'' : (6 < (putL T l).length) = True := by simp only [eq_iff_iff, iff_true]; omega
    generalize (putL T l).length = q at *
    clear h6
    go_wp2_with fail
    refine (HDC.out _ HB4.out).mono ?_
    rintro e w9 ⟨a9, c9, f9, rfl, ho9, hn9, hb9⟩
    have HC9 := Lib.hid (HC2d.out.later hb9)
    have y0 := HC9.out.c0
    have y1 := HC9.out.f0
    have HA := Lib.hid (DbAns.copy (b := setOk l T) (l' := setL l T) (Y := w.heap.size + 2) ho9 hn9 HB4.out hb9 (by omega) (World.block_lt_of_cell? _ _ HC2d.out.c0) (by unfold setL; rw [HNO.out]; rfl) HNO.out)
    clear ho9 hn9 hb9
    go_wp2_with fail
    have k0 : (w9.setCell ⟨w.heap.size + 2, 0, none⟩ (.slice a9 l.length c9)).cell? ⟨w.heap.size + 2, 0, none⟩ = some (.slice a9 l.length c9) := World.cell?_setCell_same _ _ _ y0
    refine bodyPost_ret (v := .tuple #[.agg #[.slice a9 l.length c9], .bool false]) (by simp [results, Try.results48, go_sem, k0]) rfl ?_
    exact HA.out
  have HYES := Lib.hid (show setOk l T = true by unfold setOk; rw [HVV.out, HTV.out, decide_eq_true h6]; rfl)
  have HL6 := Lib.hid h6
  have h6' : ((6 : Int) < ((putL T l).length : Int)) = False := by simp only [eq_iff_iff, iff_false]; omega
  have h6'' : (6 < (putL T l).length) = False := by simp only [eq_iff_iff, iff_false]; omega
  clear h6
  generalize (putL T l).length = q at *
  go_wp2_with fail
  refine (impl_sorted B (n + 1) _ _ _ _ _ w4 HO4.out HM2.out (by have := HL6.out; omega) ((stand_of (HT.out w4 HB4.out) HWT.out).set rfl HWT2.out (HRT.out w4 HB4.out))).mono ?_
  rintro e w5 ⟨R, a5, c5, f5, rfl, ho5, hn5, hR, hmem, hb5⟩
  have HE := Lib.hid (set_eq HP.out.2.2 hR hmem)
  have HC5 := Lib.hid (HC2d.out.later hb5)
  have y0 := HC5.out.c0
  have y1 := HC5.out.f0
  have HO5 := Lib.hid ho5
  have HN5 := Lib.hid hn5
  have HB5 := Lib.hid (below_then HB4.out hb5)
  have HS4 := Lib.hid (World.block_lt_of_cell? _ _ HC2d.out.c0)
  clear ho5 hn5 hb5 hR hmem
  go_wp2_with fail
  have k0 : (w5.setCell ⟨w.heap.size + 2, 0, none⟩ (.slice a5 R.length c5)).cell? ⟨w.heap.size + 2, 0, none⟩ = some (.slice a5 R.length c5) := World.cell?_setCell_same _ _ _ y0
  refine bodyPost_ret (v := .tuple #[.agg #[.slice a5 R.length c5], .bool true]) (by simp [results, Try.results48, go_sem, k0]) rfl ?_
  have e : setL l T = R := by unfold setL; rw [HYES.out, HE.out]; rfl
  refine ⟨.slice a5 R.length c5, f5, by rw [HYES.out], ?_, HN5.out, HB5.out.setCell (by show _ ≤ w.heap.size + 2; omega) _⟩
  rw [e]
  exact ow_setCell ((Cd.sl _ tabC).ow_base HO5.out (by have := HS4.out; omega)) (fun q => by have := ((Cd.sl _ tabC).ow_lt HO5.out _ q).1; have := HS4.out; simp only at *; omega) _
end Go.Proofs.Ytdjgaffiildijab.DbImp

namespace Go.Proofs.Ytdjgaffiildijab.TabImp
open Go Go.RowKit Byt Ints IntsLaw Cd Rows2 Tab TabSpec Exact

theorem dropR_erase {rows : List (List Int)} {row : List Int} {i : Nat} (ha : Asc rows) (hi : i < rows.length) (he : rows[i] = row) : dropR rows row = rows.eraseIdx i := by
  have e : rows = rows.take i ++ rows[i] :: rows.drop (i + 1) := by rw [← drop_at hi, List.take_append_drop]
  have h1 : (rows.take i).filter (fun r => decide (r ≠ row)) = rows.take i := by
    rw [List.filter_eq_self]
    intro r hr
    obtain ⟨t, ht, rfl⟩ := List.getElem_of_mem hr
    have ht' : t < i := by rw [List.length_take] at ht; omega
    rw [List.getElem_take]
    have := asc_lt ha ht' hi
    exact decide_eq_true fun q => by rw [q, he, cmpR_self] at this; omega
  have h2 : (rows.drop (i + 1)).filter (fun r => decide (r ≠ row)) = rows.drop (i + 1) := by
    rw [List.filter_eq_self]
    intro r hr
    obtain ⟨t, ht, rfl⟩ := List.getElem_of_mem hr
    rw [List.length_drop] at ht
    rw [List.getElem_drop]
    have := asc_lt ha (show i < i + 1 + t by omega) (show i + 1 + t < rows.length by omega)
    exact decide_eq_true fun q => by rw [q, he, cmpR_self] at this; omega
  rw [List.eraseIdx_eq_take_drop_succ]
  conv => lhs; rw [dropR, e]
  rw [List.filter_append, h1, List.filter_cons, if_neg (by simp [he]), h2]

theorem flat_erase : ∀ (l : List (List Nat)) (i : Nat), (l.eraseIdx i).flatten.Sublist l.flatten
  | [], i => by cases i <;> exact List.Sublist.refl _
  | x :: xs, 0 => List.sublist_append_right x _
  | x :: xs, i + 1 => (List.Sublist.refl x).append (flat_erase xs i)

set_option maxRecDepth 100000 in
theorem delete_rows (g n cap i : Nat) (rows : List (List Int)) (fp : List Nat) (base : Nat) (w : World) (how : rowsC.ow w base [.slice (some ⟨g, 0, none⟩) n cap] rows fp) (hnd : fp.Nodup) (hi : i < rows.length) :
    Calls Try.prog 154 #[.slice (some ⟨g, 0, none⟩) n cap, .int .i64 i, .int .i64 ((i : Int) + 1)] w fun e w' => ∃ fp', e = .returned (.slice (some ⟨g, 0, none⟩) (n - 1) cap) ∧ rowsC.ow w' base [.slice (some ⟨g, 0, none⟩) (n - 1) cap] (rows.eraseIdx i) fp' ∧ fp'.Nodup ∧ (∀ b ∈ fp', b ∈ fp) ∧ Cd.Touch [g] w w' := by
  obtain ⟨i0, hi0, hz0, hz1, hz2⟩ := info_parts info_ints
  obtain ⟨cur, xss, fps, hg, hcs, hnl, hnc, hcm, hb, ht, hE, rfl⟩ := Cd.ow_bare (c := rowC) rfl how
  have h1 := hE.one
  have hlen : xss.flatten.length = rows.length := by rw [hE.flatten_len]; exact Nat.mul_one _
  have hol : (Cd.ones xss.flatten h1).length = rows.length := by rw [Cd.ones_length, hlen]
  have hH := Cd.holds_ones h1 hg ht
  have hd := Try.slices_Delete Cd.One.v (fun x => x.one) ⟨.slice none 0 0, rfl⟩ Try.zeroValue25 i0 hi0 hz1 g 0 cap i (i + 1) (Cd.ones xss.flatten h1).toArray w hH (by rw [List.size_toArray, hol]; omega) (by unfold maxLen at hcm; omega) (by omega) (by rw [List.size_toArray, hol]; omega)
  rw [List.size_toArray, hol, ← hnl] at hd
  refine hd.mono ?_
  rintro e w' ⟨rfl, q, rfl⟩
  have e1 : i + 1 - i = 1 := by omega
  rw [e1]
  have hsz : ((Cd.ones xss.flatten h1).take i ++ (Cd.ones xss.flatten h1).drop (i + 1) ++ List.replicate 1 (⟨.slice none 0 0, rfl⟩ : Cd.One)).length = n := by
    rw [List.length_append, List.length_append, List.length_take, List.length_drop, List.length_replicate, hol]
    omega
  have hn1 : n - 1 = (rows.eraseIdx i).length := by rw [List.length_eraseIdx, if_pos hi]; omega
  refine ⟨_, rfl, Cd.ow_bared (c := rowC) rfl (Cd.heap_putRow _ _ g _ (show (Sort.ahead w q).heap[g]? = _ from hg)) (by rw [Cd.putCells_size]; exact hcs) hn1 (by omega) hcm hb ?_ ((hE.erase i).imp fun x a f hf hq => rowC.ow_keep hq fun b hbf => ?_), ?_, ?_, ?_⟩
  · rw [Cd.putCells_take _ _ _ (by rw [List.size_toArray, hsz]; omega) (by rw [List.size_toArray, hsz, hcs]; exact hnc)]
    rw [Cd.flatten_erase_one (c := rowC) rfl hE i, List.eraseIdx_eq_take_drop_succ]
    simp only [List.map_append, List.map_take, List.map_drop, Cd.ones_val]
    rw [List.take_append_of_le_length (by rw [List.length_append, List.length_take, List.length_drop, hlen]; omega)]
    exact List.take_of_length_le (by rw [List.length_append, List.length_take, List.length_drop, hlen]; omega)
  · refine Cd.heap_putRow_other _ _ g _ fun q => ?_
    subst q
    have hfl : b ∈ fps.flatten := List.mem_flatten.2 ⟨f, List.mem_of_mem_eraseIdx hf, hbf⟩
    exact (List.nodup_cons.1 hnd).1 hfl
  · rw [List.nodup_cons] at hnd ⊢
    exact ⟨fun q => hnd.1 ((flat_erase _ _).subset q), hnd.2.sublist (flat_erase _ _)⟩
  · intro b hb
    rcases List.mem_cons.1 hb with rfl | q
    · exact List.mem_cons_self
    · exact List.mem_cons_of_mem _ ((flat_erase _ _).subset q)
  · exact (Cd.touch_ahead _ w q).trans (Cd.touch_putRow _ _ g _)

set_option maxRecDepth 100000 in
set_option maxHeartbeats 3200000 in
theorem impl_delete (nm : ByteArray) (ar : Int) (u v : Value) (rows : List (List Int)) (row : List Int) (S S2 : Nat → Prop) (w : World) (hr : rowsC.rd w S [u] rows) (hv : rowC.rd w S2 [v] row) (hrw : rowsWt rows ≤ 1048577) (hnm : nm.size ≤ 1048577) :
    Calls Try.prog 153 #[.agg #[.string nm, .int .i64 ar, u], v] w fun e w' => ∃ u' fp, e = .returned (.tuple #[.agg #[.string nm, .int .i64 ar, u'], .bool (hasR nm ar rows row)]) ∧ rowsC.ow w' w.heap.size [u'] (delR nm ar rows row) fp ∧ fp.Nodup ∧ Below w.heap.size w w' := by
  have HR := Lib.hid (fun w' (hb : Below w.heap.size w w') => Cd.later hr hb)
  have HV := Lib.hid (fun w' (hb : Below w.heap.size w w') => Cd.later hv hb)
  have HWT := Lib.hid hrw
  have HNM := Lib.hid hnm
  obtain ⟨a, cap, rfl, hlm⟩ := rows_form hr
  obtain ⟨av, cv, rfl, _⟩ := (row_ri hv).1
  clear hr hv hrw hnm
  go_enter Try.func153, Try.ntmps153
  go_wp2_with fail
  generalize hW : (w.alloc _).alloc _ = W
  obtain ⟨r0, r1, hz, hb0⟩ := start2g w _ _ hW
  clear hW
  refine (copy_table nm ar _ rows S W (HR.out W hb0) HWT.out HNM.out).mono ?_
  rintro e W1 ⟨gx, fp, rfl, how, hnd, hb1⟩
  have l0 := (Loc3.of r0).later hb1
  have l1 := (Loc3.of r1).later hb1
  have hs1 := hb1.size
  have HFR := Lib.hid (show Fr w W1.heap.size nm ar (.slice a rows.length cap) (.slice (some ⟨gx, 0, none⟩) rows.length rows.length) _ _ _ rows fp (W1.alloc (.cells #[.string nm, .int .i64 ar, .slice (some ⟨gx, 0, none⟩) rows.length rows.length] 74 (0, 0))) from
    ⟨below_then (below_then hb0 hb1) (below_alloc _ _), l0.later (below_alloc _ _), l1.later (below_alloc _ _), Loc3.of (row_alloc _ _), Cd.ow_later (rowsC.ow_base how (by omega)) (below_alloc _ _), hnd, fun q => by have := (rowsC.ow_lt how _ q).2; omega, by omega⟩)
  obtain ⟨d0, d1, d2, _, _, _⟩ := l0
  have hH : w.heap.size < W1.heap.size := by omega
  have HN := Lib.hid (And.intro hH (show w.heap.size + 1 < W1.heap.size by omega))
  clear r0 r1 hz hb0 hb1 how hnd l1 hs1
  go_wp2_with fail
  generalize hW2 : W1.alloc _ = W2 at *
  generalize W1.heap.size = X at *
  clear hW2 d0 d1 d2 hH
  have HFD := Lib.hid (find_row nm ar _ _ rows row S S2 W2 (HR.out W2 HFR.out.b) (HV.out W2 HFR.out.b))
  refine HFD.out.mono ?_
  rintro e W3 ⟨i, rfl, hfd, hil, hb3⟩
  have HF := Lib.hid (HFR.out.later hb3)
  have HFP := Lib.hid hfd
  have HIL := Lib.hid hil
  clear hb3 hfd hil
  by_cases hin : hasR nm ar rows row = true
  case neg =>
    have hin : hasR nm ar rows row = false := by simpa using hin
    have HD := Lib.hid (show delR nm ar rows row = rows by rw [delR, hin]; rfl)
    have HIN := Lib.hid hin
    rw [hin]
    clear hin
    obtain ⟨y0, y1, y2, _, _, _⟩ := HF.out.x
    obtain ⟨p0, p1, p2, q0, q1, q2⟩ := HF.out.r
    go_wp2_with fail
    obtain ⟨k0, k1, k2⟩ := set3 (w := W3) (k := w.heap.size + 1) (x := .string nm) (y := .int .i64 ar) (z := .slice (some ⟨gx, 0, none⟩) rows.length rows.length) p0 p1 p2
    refine bodyPost_ret (v := .tuple #[.agg #[.string nm, .int .i64 ar, .slice (some ⟨gx, 0, none⟩) rows.length rows.length], .bool false]) (by simp [results, Try.results153, go_sem, k0, k1, k2]) rfl ⟨_, fp, by rw [HIN.out], ?_, HF.out.n, ?_⟩
    · rw [HD.out]
      exact rowsC.ow_base (ow_setCell (ow_setCell (ow_setCell HF.out.o HF.out.not1 _) HF.out.not1 _) HF.out.not1 _) (by omega)
    · exact ((HF.out.b.setCell (by show _ ≤ w.heap.size + 1; omega) _).setCell (by show _ ≤ w.heap.size + 1; omega) _).setCell (by show _ ≤ w.heap.size + 1; omega) _
  have hP := of_decide_eq_true hin
  have hasc := hP.1.2.2.2.2.2
  obtain ⟨hi, he⟩ := (find_mem hasc (HFP.out (decide_eq_true hP.1))).1 hP.2
  have HD := Lib.hid (show delR nm ar rows row = rows.eraseIdx i by rw [delR, hin, if_pos rfl]; exact dropR_erase hasc hi he)
  have HIN := Lib.hid hin
  rw [hin]
  have HDEL := Lib.hid (delete_rows gx rows.length rows.length i rows fp (w.heap.size + 2) W3 HF.out.o HF.out.n hi)
  have HI := Lib.hid hi
  have hi63 : (i : Int) + 1 ≤ 9223372036854775807 := by have := HWT.out; unfold rowsWt at this; omega
  have HGX := Lib.hid (show gx ∈ fp from by
    obtain ⟨_, _, _, _, _, _, _, _, _, _, _, e1⟩ := Cd.ow_bare (c := rowC) rfl HF.out.o
    rw [e1]; exact List.mem_cons_self)
  clear hin hP hasc hi he
  obtain ⟨y0, y1, y2, g0, g1, g2⟩ := HF.out.x
  go_wp2_with fail
  refine HDEL.out.mono ?_
  rintro e W5 ⟨fp5, rfl, ho5, hn5, hs5, ht5⟩
  have hX : X ∉ [gx] := fun q => HF.out.d (by rw [List.mem_singleton.1 q]; exact HGX.out)
  have hR : w.heap.size + 1 ∉ [gx] := fun q => HF.out.not1 (by rw [List.mem_singleton.1 q]; exact HGX.out)
  have hgx2 := (rowsC.ow_lt HF.out.o gx HGX.out).1
  have hT : w.heap.size ∉ [gx] := fun q => by have := List.mem_singleton.1 q; omega
  have hx2 := Loc3.set2 (HF.out.x.touched ht5 hX) (.slice (some ⟨gx, 0, none⟩) (rows.length - 1) rows.length)
  have HF5 := Lib.hid (show Fr w X nm ar (.slice a rows.length cap) (.slice (some ⟨gx, 0, none⟩) (rows.length - 1) rows.length) _ _ _ (rows.eraseIdx i) fp5 (W5.setCell ⟨X, 2, none⟩ (.slice (some ⟨gx, 0, none⟩) (rows.length - 1) rows.length)) from
    ⟨(ht5.below HF.out.b (fun b hb => by have := List.mem_singleton.1 hb; omega)).setCell (by show _ ≤ X; have := HF.out.g; omega) _, (HF.out.t.touched ht5 hT).set_far (by show X ≠ _; have := HF.out.g; omega) _, (HF.out.r.touched ht5 hR).set_far (by show X ≠ _; have := HF.out.g; omega) _, hx2,
      ow_setCell ho5 (fun q => HF.out.d (hs5 _ q)) _, hn5, fun q => HF.out.d (hs5 _ q), HF.out.g⟩)
  obtain ⟨z0, z1, z2, j0, j1, j2⟩ := HF.out.x.touched ht5 hX
  clear ho5 hn5 hs5 ht5 hX hR hT hx2 y0 y1 y2 g0 g1 g2 hgx2
  obtain ⟨y0, y1, y2, _, _, _⟩ := HF5.out.x
  obtain ⟨p0, p1, p2, q0, q1, q2⟩ := HF5.out.r
  go_wp2_with fail
  obtain ⟨k0, k1, k2⟩ := set3 (w := (W5.setCell ⟨X, 2, none⟩ (.slice (some ⟨gx, 0, none⟩) (rows.length - 1) rows.length))) (k := w.heap.size + 1) (x := .string nm) (y := .int .i64 ar) (z := .slice (some ⟨gx, 0, none⟩) (rows.length - 1) rows.length) p0 p1 p2
  refine bodyPost_ret (v := .tuple #[.agg #[.string nm, .int .i64 ar, .slice (some ⟨gx, 0, none⟩) (rows.length - 1) rows.length], .bool true]) (by simp [results, Try.results153, go_sem, k0, k1, k2]) rfl ⟨_, fp5, by rw [HIN.out], ?_, HF5.out.n, ?_⟩
  · rw [HD.out]
    exact rowsC.ow_base (ow_setCell (ow_setCell (ow_setCell HF5.out.o HF5.out.not1 _) HF5.out.not1 _) HF5.out.not1 _) (by omega)
  · exact ((HF5.out.b.setCell (by show _ ≤ w.heap.size + 1; omega) _).setCell (by show _ ≤ w.heap.size + 1; omega) _).setCell (by show _ ≤ w.heap.size + 1; omega) _
end Go.Proofs.Ytdjgaffiildijab.TabImp

namespace Go.Proofs.Ytdjgaffiildijab.TabImp
open Go Go.RowKit Byt Ints IntsLaw Cd Rows2 Tab TabSpec Exact

def InsAns (n : Nat) (rows : List (List Int)) (row : List Int) (i : Nat) (fp f : List Nat) (base : Nat) (w : World) (e : Ending) (w' : World) : Prop :=
  ∃ g' c' fp', e = .returned (.slice (some ⟨g', 0, none⟩) (n + 1) c') ∧ rowsC.ow w' base [.slice (some ⟨g', 0, none⟩) (n + 1) c'] (Cd.ins rows i row) fp' ∧ fp'.Nodup ∧ (∀ x ∈ fp', x ∈ fp ∨ x ∈ f ∨ w.heap.size ≤ x) ∧ Cd.Touch fp w w'

set_option maxRecDepth 100000 in
theorem insert_end (g n : Nat) (rows : List (List Int)) (fp : List Nat) (base : Nat) (w : World) (how : rowsC.ow w base [.slice (some ⟨g, 0, none⟩) n n] rows fp) (hnd : fp.Nodup) (hnl : n = rows.length) (hn8 : n ≤ 8) (b : Nat) (u : Value) (row : List Int) (f : List Nat) (hu : w.cell? ⟨b, 0, none⟩ = some u) (hrow : rowC.ow w base [u] row f) (hfd : f.Nodup) (hdis : ∀ x ∈ f, x ∉ fp) (hbase : base ≤ w.heap.size) :
    Calls Try.prog 145 #[.slice (some ⟨g, 0, none⟩) n n, .int .i64 n, .slice (some ⟨b, 0, none⟩) 1 1] w fun e w' => InsAns n rows row n fp f base w e w' := by
  have HOW := Lib.hid how
  have HND := Lib.hid hnd
  have HU := Lib.hid hu
  have HROW := Lib.hid hrow
  have HFD := Lib.hid hfd
  have HDIS := Lib.hid hdis
  have HB := Lib.hid hbase
  have HNL := Lib.hid hnl
  clear how hnd hu hrow hfd hdis hbase hnl
  go_enter Try.func145, Try.ntmps145
  go_wp2_with (at_builtin; refine Cd.wpList_appendE (c := rowC) rfl rfl (.tmp 23) (.tmp 24) 72 rfl base 25 (.slice none 0 0) 24 Try.underlying72 info_ints rfl (by decide) (.slice (some ⟨g, 0, none⟩) n n) rows fp rfl HOW.out HND.out b u rfl HU.out row f HROW.out HFD.out HDIS.out (by have := HNL.out; omega) HB.out ?_)
  intro g' c' w' fp' h1 h2 h3 h4
  rw [← HNL.out] at h1 ⊢
  go_wp2_with fail
  go_ret
  have e1 : Cd.ins rows n row = rows ++ [row] := by
    unfold Cd.ins
    rw [List.take_of_length_le (by have := HNL.out; omega), List.drop_eq_nil_of_le (by have := HNL.out; omega)]
  exact ⟨g', c', fp', rfl, by rw [e1]; exact h1, h2, h3, h4⟩
theorem add_at (b o j : Nat) : (⟨b, o, none⟩ : Addr).add j = ⟨b, o + j, none⟩ := by unfold Addr.add; split <;> simp_all
theorem splice2 {us zs : List Value} {u : Value} {i n G : Nat} (hl : us.length = n) (hi : i < n) (hz : zs.length = G - i) (hG : n + 1 ≤ G) :
    (splice (splice (us.take i ++ zs) i [u]) (i + 1) (us.drop i)).length = G ∧ (splice (splice (us.take i ++ zs) i [u]) (i + 1) (us.drop i)).take (n + 1) = Cd.ins us i u := by
  have h1 : (us.take i).length = i := by rw [List.length_take]; omega
  have h2 : (us.drop i).length = n - i := by rw [List.length_drop]; omega
  have e1 : splice (us.take i ++ zs) i [u] = us.take i ++ ([u] ++ zs.drop 1) := by
    unfold splice
    rw [List.take_left' h1, List.length_singleton, List.drop_append, List.drop_eq_nil_of_le (show (us.take i).length ≤ i + 1 by omega), h1]
    simp
  have e2 : splice (us.take i ++ ([u] ++ zs.drop 1)) (i + 1) (us.drop i) = us.take i ++ [u] ++ (us.drop i ++ (zs.drop 1).drop (n - i)) := by
    rw [show us.take i ++ ([u] ++ zs.drop 1) = (us.take i ++ [u]) ++ zs.drop 1 from (List.append_assoc _ _ _).symm]
    unfold splice
    rw [List.take_left' (show (us.take i ++ [u]).length = i + 1 by rw [List.length_append, h1]; rfl), h2, List.drop_append]
    rw [List.drop_eq_nil_of_le (show (us.take i ++ [u]).length ≤ i + 1 + (n - i) by rw [List.length_append, h1, List.length_singleton]; omega)]
    rw [show i + 1 + (n - i) - (us.take i ++ [u]).length = n - i by rw [List.length_append, h1, List.length_singleton]; omega]
    rfl
  rw [e1, e2]
  constructor
  · simp only [List.length_append, List.length_drop, List.length_singleton, h1, h2, hz]
    omega
  · rw [← List.append_assoc, List.take_left' (by simp only [List.length_append, List.length_singleton, h1, h2]; omega)]
    unfold Cd.ins
    rw [List.append_assoc]
    rfl

set_option maxRecDepth 100000 in
set_option maxHeartbeats 3200000 in
theorem insert_grow (g n i : Nat) (rows : List (List Int)) (fp : List Nat) (base : Nat) (w : World) (how : rowsC.ow w base [.slice (some ⟨g, 0, none⟩) n n] rows fp) (hnd : fp.Nodup) (hnl : n = rows.length) (hi : i < n) (hn8 : n ≤ 8) (b : Nat) (u : Value) (row : List Int) (f : List Nat) (hu : w.cell? ⟨b, 0, none⟩ = some u) (hrow : rowC.ow w base [u] row f) (hfd : f.Nodup) (hdis : ∀ x ∈ f, x ∉ fp) (hbase : base ≤ w.heap.size) :
    Calls Try.prog 145 #[.slice (some ⟨g, 0, none⟩) n n, .int .i64 i, .slice (some ⟨b, 0, none⟩) 1 1] w fun e w' => InsAns n rows row i fp f base w e w' := by
  obtain ⟨i0, hi0, hz0, hz1, hz2⟩ := info_parts info_ints
  obtain ⟨cur, xss, fps, hg, hcs, hnl2, hnc, hcm, hb, ht, hE, hfp⟩ := Cd.ow_bare (c := rowC) rfl how
  clear hnl2
  have h1 := hE.one
  have hlen : xss.flatten.length = n := by rw [hE.flatten_len, hnl]; exact Nat.mul_one _
  have hu1 : u.oneCell' = true := rowC.one (rowC.ow_rd hrow) u (List.mem_singleton.2 rfl)
  have hcell : ∀ j v, xss.flatten[j]? = some v → w.cell? ⟨g, j, none⟩ = some v := fun j v hj => by
    have hjl : j < n := by rw [← hlen]; exact (List.getElem?_eq_some_iff.1 hj).1
    have : (cur.toList.take n)[j]? = xss.flatten[j]? := by rw [ht]
    rw [List.getElem?_take, if_pos hjl, Array.getElem?_toList, hj] at this
    simp [World.cell?, hg, this]
  have hgw : g < w.heap.size := (Array.getElem?_eq_some_iff.1 hg).1
  have hbw : b < w.heap.size := World.block_lt_of_cell? w _ hu
  obtain ⟨us, hus⟩ : ∃ us, us = xss.flatten := ⟨_, rfl⟩
  rw [← hus] at hcell hlen ht h1
  -- the append of a make
  obtain ⟨G, hG⟩ : ∃ G, G = grownCap w (n + 1) n 25 := ⟨_, rfl⟩
  obtain ⟨zs, hzs⟩ : ∃ zs : List Value, zs = (Builtin.zeroCells (Value.slice none 0 0).cells (n + 1 - i)).toList ++ (Builtin.zeroCells (Value.slice none 0 0).cells (G - (n + 1))).toList := ⟨_, rfl⟩
  have hGn : n + 1 ≤ G := by rw [hG]; exact grownCap_ge w _ _ _
  have hGm : G ≤ maxLen := by rw [hG]; exact grownCap_le_maxLen w _ _ _ (by unfold maxLen; omega)
  have hzl : zs.length = G - i := by
    rw [hzs]
    simp [Builtin.zeroCells, Value.cells]
    omega
  have hrun : ∀ ty, (Builtin.append_ #[72, 3] ty #[.slice (some ⟨g, 0, none⟩) i n, .int .i64 ((n : Int) + 1 - (i : Int))]).run Try.prog w = .ok (.slice (some ⟨w.heap.size, 0, none⟩) (n + 1) G) (w.drew.alloc (.cells (us.take i ++ zs).toArray 25 (0, 0))) := fun ty => by
    have hold : (Builtin.firstCells i0.size i (.slice (some ⟨g, 0, none⟩) i n)).run Try.prog w.drew = .ok (us.take i).toArray w.drew := by
      rw [hz1]
      exact run_firstCells_some w.drew 1 i ⟨g, 0, none⟩ i n (us.take i) (by rw [List.length_take]; omega) (fun j v hj => by
        rw [add_at, Nat.zero_add]
        rw [List.getElem?_take] at hj
        split at hj
        · exact hcell j v hj
        · cases hj)
    have h := Lib.run_append_grow_zeros w 72 3 ty 25 i0 _ .i64 .i64 Try.underlying72 Try.underlying3 hi0 hz0 (some ⟨g, 0, none⟩) i n (us.take i) hold (n + 1 - i) (by omega) (by rw [hz1]; omega) (by omega) (by omega) (by rw [hz2]; omega) (by rw [show i + (n + 1 - i) = n + 1 by omega, hz2]; exact growslice_fits (by omega) (by omega))
    rw [show i + (n + 1 - i) = n + 1 by omega, ← hG] at h
    rw [show ((n + 1 - i : Nat) : Int) = (n : Int) + 1 - (i : Int) by omega] at h
    rw [h, hzs]
    congr 3
    simp
  obtain ⟨sl1, sl2⟩ := splice2 (u := u) hlen hi hzl hGn
  have HRUN := Lib.hid hrun
  have HUS := Lib.hid hus
  have HLEN := Lib.hid hlen
  have HZL := Lib.hid hzl
  have HGN := Lib.hid hGn
  have HGM := Lib.hid hGm
  have HCELL := Lib.hid hcell
  have HU := Lib.hid hu
  have HROW := Lib.hid hrow
  have HFD := Lib.hid hfd
  have HDIS := Lib.hid hdis
  have HB := Lib.hid hbase
  have HNL := Lib.hid hnl
  have HND := Lib.hid hnd
  have HE := Lib.hid hE
  have HFP := Lib.hid hfp
  have HH := Lib.hid (And.intro hgw hbw)
  have H1 := Lib.hid h1
  have HU1 := Lib.hid hu1
  have HHB := Lib.hid hb
  have HS1 := Lib.hid sl1
  have HS2 := Lib.hid sl2
  have HSZ := Lib.hid (show (Try.prog.info? 25).map (·.size) = some 1 by rw [hi0]; simp [hz1])
  have HOWK := Lib.hid how
  clear hrun hus hlen hzl hGn hGm hcell hu hrow hfd hdis hbase hnl hnd hE hfp hgw hbw h1 hu1 hb sl1 sl2 hG hzs hi0 hz0 hz1 hz2 hg hcs hnc hcm ht how
  have p1 : ¬ ((i : Int) = (n : Int)) := by omega
  have p2 : (n : Int) < (n : Int) + 1 := by omega
  have p3 : ¬ (n = i) := by omega
  have p4 : ¬ (G = i) := by have := HGN.out; omega
  have p5 : ¬ (G = i + 1) := by have := HGN.out; omega
  have p6 : i ≤ n := by omega
  have p7 : i ≤ n + 1 := by omega
  have p8 : n + 1 ≤ G := HGN.out
  have p9 : IntKind.i64.wrap ((i : Int) + 1) = (i : Int) + 1 := by rw [IntKind.wrap_i64]; omega
  have p10 : (0 : Int) ≤ (i : Int) + 1 := by omega
  have p11 : ((i : Int) + 1).toNat = i + 1 := by omega
  have p12 : G ≤ 9223372036854775807 := by have := HGM.out; unfold maxLen at this; omega
  generalize hW1 : w.drew.alloc (.cells (us.take i ++ zs).toArray 25 (0, 0)) = W1 at HRUN
  have hg1 : W1.heap[w.heap.size]? = some (.cells (us.take i ++ zs).toArray 25 (0, 0)) := by rw [← hW1]; exact heap_alloc_new w.drew _
  have hb1 : Below w.heap.size w W1 := by
    have := below_alloc w.drew (.cells (us.take i ++ zs).toArray 25 (0, 0))
    rw [hW1] at this
    exact ⟨this.os, this.tape, this.output, this.size, this.block⟩
  have HG1 := Lib.hid hg1
  have HB1 := Lib.hid hb1
  clear hW1 hg1 hb1
  have ql : (us.take i ++ zs).length = G := by rw [List.length_append, List.length_take, HZL.out, HLEN.out]; omega
  have hn1 : [u].length = Nat.min 1 (n + 1 - i) := (Nat.min_eq_left (show 1 ≤ n + 1 - i by omega)).symm
  have hfit1 : i + [u].length ≤ (us.take i ++ zs).length := by rw [ql]; simp; omega
  have hone1 : ∀ v ∈ [u], v.oneCell' = true := fun v hv => by rw [List.mem_singleton.1 hv]; exact HU1.out
  have hpos1 : 0 < [u].length → (some ⟨w.heap.size, i, none⟩ : Option Addr) = some ⟨w.heap.size, i, none⟩ ∧ ∃ ad, (some ⟨b, 0, none⟩ : Option Addr) = some ad ∧ ∀ j v, [u][j]? = some v → W1.cell? (ad.add j) = some v := fun _ => ⟨rfl, ⟨b, 0, none⟩, rfl, fun j v hj => by
    match j, hj with
    | 0, hj =>
      rw [add_at, HB1.out.cell (p := ⟨b, 0, none⟩) HH.out.2, HU.out]
      simpa using hj⟩
  have hdl : (us.drop i).length = n - i := by rw [List.length_drop, HLEN.out]
  have hn2 : (us.drop i).length = Nat.min (n - i) (n + 1 - (i + 1)) := by rw [hdl]; exact (Nat.min_eq_left (by omega)).symm
  have hfit2 : i + 1 + (us.drop i).length ≤ (splice (us.take i ++ zs) i [u]).length := by rw [length_splice _ _ _ hfit1, ql, hdl]; omega
  have hone2 : ∀ v ∈ us.drop i, v.oneCell' = true := fun v hv => H1.out v (List.mem_of_mem_drop hv)
  have hpos2 : ∀ W : World, Below w.heap.size w W → 0 < (us.drop i).length → (some ⟨w.heap.size, i + 1, none⟩ : Option Addr) = some ⟨w.heap.size, i + 1, none⟩ ∧ ∃ ad, (some ⟨g, i, none⟩ : Option Addr) = some ad ∧ ∀ j v, (us.drop i)[j]? = some v → W.cell? (ad.add j) = some v := fun W hW _ => ⟨rfl, ⟨g, i, none⟩, rfl, fun j v hj => by
    rw [add_at, hW.cell (p := ⟨g, i + j, none⟩) HH.out.1]
    rw [List.getElem?_drop] at hj
    exact HCELL.out _ _ hj⟩
  have HN1 := Lib.hid hn1
  have HN2 := Lib.hid hn2
  have HF1 := Lib.hid hfit1
  have HF2 := Lib.hid hfit2
  have HO1 := Lib.hid hone1
  have HO2 := Lib.hid hone2
  have HP1 := Lib.hid hpos1
  have HP2 := Lib.hid hpos2
  clear ql hn1 hfit1 hone1 hpos1 hdl hn2 hfit2 hone2 hpos2
  go_enter Try.func145, Try.ntmps145
  go_wp2_with (first
    | (at_builtin; refine Lib.wpList_append_run _ rfl _ _ _ _ rfl _ _ rfl rfl _ _ (HRUN.out _) ?_)
    | (with_reducible refine wpList_copy_splice rfl (.tmp 43) (.tmp 44) 72 72 rfl 25 Try.underlying72 HSZ.out (some ⟨w.heap.size, i, none⟩) (some ⟨b, 0, none⟩) (n + 1 - i) (G - i) 1 1 rfl rfl w.heap.size i (us.take i ++ zs) 25 HG1.out [u] HN1.out HP1.out HF1.out HO1.out w.heap.size w HB1.out (Nat.le_refl _) ?_))
  intro w2 hg2 hb2
  have HG2 := Lib.hid (show w2.drew.heap[w.heap.size]? = _ from hg2.out)
  have HB2 := Lib.hid (show Below w.heap.size w w2.drew from ⟨hb2.os, hb2.tape, hb2.output, hb2.size, hb2.block⟩)
  clear hg2 hb2
  go_wp2_with fail
  go_region_law (refine step_copy_splice rfl (.tmp 50) (.tmp 53) 72 72 rfl 25 Try.underlying72 HSZ.out (some ⟨w.heap.size, i + 1, none⟩) (some ⟨g, i, none⟩) (n + 1 - (i + 1)) (G - (i + 1)) (n - i) (n - i) (by simp [Act.eval, Act.put]) (by simp [Act.eval, Act.put]) w.heap.size (i + 1) (splice (us.take i ++ zs) i [u]) 25 HG2.out (us.drop i) HN2.out (fun h => ⟨rfl, (HP2.out w2.drew HB2.out h).2⟩) HF2.out HO2.out w.heap.size w HB2.out (Nat.le_refl _) ?_; intro w4 hg4 hb4)
  all_goals
    go_wp2_with fail
    go_ret
    have hfl : ∀ x ∈ fps.flatten, x < w.heap.size := fun x hx => (rowsC.ow_lt HOWK.out x (by rw [HFP.out]; exact List.mem_cons_of_mem _ hx)).2
    have hnn : (rowsC.ow w base [.slice (some ⟨g, 0, none⟩) n n] rows fp) := HOWK.out
    have hfn : fps.flatten.Nodup := (List.nodup_cons.1 (by rw [← HFP.out]; exact HND.out)).2
    have hdd : ∀ x ∈ f, x ∉ fps.flatten := fun x hx q => HDIS.out x hx (by rw [HFP.out]; exact List.mem_cons_of_mem _ q)
    refine ⟨w.heap.size, G, w.heap.size :: (Cd.ins fps i f).flatten, rfl, Cd.ow_bared (c := rowC) rfl hg4.out ?_ ?_ HGN.out HGM.out HB.out ?_ (Cd.Each.ins (c := rowC) (w := w4) (HE.out.imp fun x a f' hf' hq => rowC.ow_keep hq fun y hy => hb4.block y (rowC.ow_lt hq y hy).2) (rowC.ow_keep HROW.out fun y hy => hb4.block y (rowC.ow_lt HROW.out y hy).2) i), ?_, ?_, Cd.Touch.of_below hb4⟩
    · rw [List.size_toArray]; exact HS1.out
    · rw [Cd.ins_length, ← HNL.out]
    · rw [show ((splice (splice (us.take i ++ zs) i [u]) (i + 1) (us.drop i)).toArray).toList = _ from rfl, HS2.out, HUS.out, Cd.flatten_ins_one (c := rowC) rfl HE.out i]
    · rw [List.nodup_cons]
      refine ⟨fun q => ?_, Cd.nodup_ins hfn HFD.out hdd i⟩
      rcases Cd.mem_ins q with q | q
      · have := hfl _ q; omega
      · have := (rowC.ow_lt HROW.out _ q).2; omega
    · intro x hx
      rcases List.mem_cons.1 hx with rfl | q
      · exact .inr (.inr (Nat.le_refl _))
      · rcases Cd.mem_ins q with q | q
        · exact .inl (by rw [HFP.out]; exact List.mem_cons_of_mem _ q)
        · exact .inr (.inl q)
theorem insert_rows (g n i : Nat) (rows : List (List Int)) (fp : List Nat) (base : Nat) (w : World) (how : rowsC.ow w base [.slice (some ⟨g, 0, none⟩) n n] rows fp) (hnd : fp.Nodup) (hnl : n = rows.length) (hi : i ≤ n) (hn8 : n ≤ 8) (b : Nat) (u : Value) (row : List Int) (f : List Nat) (hu : w.cell? ⟨b, 0, none⟩ = some u) (hrow : rowC.ow w base [u] row f) (hfd : f.Nodup) (hdis : ∀ x ∈ f, x ∉ fp) (hbase : base ≤ w.heap.size) :
    Calls Try.prog 145 #[.slice (some ⟨g, 0, none⟩) n n, .int .i64 i, .slice (some ⟨b, 0, none⟩) 1 1] w fun e w' => InsAns n rows row i fp f base w e w' := by
  by_cases h : i = n
  · subst h
    exact insert_end g i rows fp base w how hnd hnl hn8 b u row f hu hrow hfd hdis hbase
  · exact insert_grow g n i rows fp base w how hnd hnl (by omega) hn8 b u row f hu hrow hfd hdis hbase
end Go.Proofs.Ytdjgaffiildijab.TabImp

namespace Go.Proofs.Ytdjgaffiildijab.TabImp
open Go Go.RowKit Byt Ints IntsLaw Cd Rows2 Tab TabSpec Exact

set_option maxRecDepth 100000 in
set_option maxHeartbeats 3200000 in
theorem impl_insert (nm : ByteArray) (ar : Int) (u v : Value) (rows : List (List Int)) (row : List Int) (S S2 : Nat → Prop) (w : World) (hr : rowsC.rd w S [u] rows) (hv : rowC.rd w S2 [v] row) (hrw : rowsWt rows ≤ 1048577) (hnm : nm.size ≤ 1048577) (hrl : row.length ≤ 1048577) :
    Calls Try.prog 143 #[.agg #[.string nm, .int .i64 ar, u], v] w fun e w' => ∃ u' fp, e = .returned (.tuple #[.agg #[.string nm, .int .i64 ar, u'], .bool (insOk nm ar rows row)]) ∧ rowsC.ow w' w.heap.size [u'] (insR nm ar rows row) fp ∧ fp.Nodup ∧ Below w.heap.size w w' := by
  have HR := Lib.hid (fun w' (hb : Below w.heap.size w w') => Cd.later hr hb)
  have HV := Lib.hid (fun w' (hb : Below w.heap.size w w') => Cd.later hv hb)
  have HWT := Lib.hid hrw
  have HNM := Lib.hid hnm
  have HRL := Lib.hid hrl
  obtain ⟨a, cap, rfl, hlm⟩ := rows_form hr
  obtain ⟨av, cv, rfl, _⟩ := (row_ri hv).1
  clear hr hv hrw hnm hrl
  go_enter Try.func143, Try.ntmps143
  go_wp2_with fail
  generalize hW : (w.alloc _).alloc _ = W
  obtain ⟨r0, r1, hz, hb0⟩ := start2g w _ _ hW
  clear hW
  refine (copy_table nm ar _ rows S W (HR.out W hb0) HWT.out HNM.out).mono ?_
  rintro e W1 ⟨gx, fp, rfl, how, hnd, hb1⟩
  have l0 := (Loc3.of r0).later hb1
  have l1 := (Loc3.of r1).later hb1
  have hs1 := hb1.size
  have HFR := Lib.hid (show Fr w W1.heap.size nm ar (.slice a rows.length cap) (.slice (some ⟨gx, 0, none⟩) rows.length rows.length) _ _ _ rows fp (W1.alloc (.cells #[.string nm, .int .i64 ar, .slice (some ⟨gx, 0, none⟩) rows.length rows.length] 74 (0, 0))) from
    ⟨below_then (below_then hb0 hb1) (below_alloc _ _), l0.later (below_alloc _ _), l1.later (below_alloc _ _), Loc3.of (row_alloc _ _), Cd.ow_later (rowsC.ow_base how (by omega)) (below_alloc _ _), hnd, fun q => by have := (rowsC.ow_lt how _ q).2; omega, by omega⟩)
  obtain ⟨d0, d1, d2, _, _, _⟩ := l0
  have hH : w.heap.size < W1.heap.size := by omega
  have HN := Lib.hid (And.intro hH (show w.heap.size + 1 < W1.heap.size by omega))
  clear r0 r1 hz hb0 hb1 how hnd l1 hs1
  go_wp2_with fail
  generalize hW2 : W1.alloc _ = W2 at *
  generalize W1.heap.size = X at *
  clear hW2 d0 d1 d2 hH
  have HFD := Lib.hid (find_row nm ar _ _ rows row S S2 W2 (HR.out W2 HFR.out.b) (HV.out W2 HFR.out.b))
  refine HFD.out.mono ?_
  rintro e W3 ⟨i, rfl, hfd, hil, hb3⟩
  have HF := Lib.hid (HFR.out.later hb3)
  have HFP := Lib.hid hfd
  have HIL := Lib.hid hil
  clear hb3 hfd hil
  by_cases hin : hasR nm ar rows row = true
  case pos =>
    have HWHY := Lib.hid (show insOk nm ar rows row = false from decide_eq_false fun q => q.2.2.1 (of_decide_eq_true hin).2)
    rw [hin]
    clear hin
    obtain ⟨y0, y1, y2, _, _, _⟩ := HF.out.x
    obtain ⟨p0, p1, p2, q0, q1, q2⟩ := HF.out.r
    go_wp2_with fail
    obtain ⟨k0, k1, k2⟩ := set3 (w := W3) (k := w.heap.size + 1) (x := .string nm) (y := .int .i64 ar) (z := .slice (some ⟨gx, 0, none⟩) rows.length rows.length) p0 p1 p2
    refine bodyPost_ret (v := .tuple #[.agg #[.string nm, .int .i64 ar, .slice (some ⟨gx, 0, none⟩) rows.length rows.length], .bool false]) (by simp [results, Try.results143, go_sem, k0, k1, k2]) rfl ⟨_, fp, by rw [HWHY.out], ?_, HF.out.n, ?_⟩
    · rw [insR, HWHY.out]
      exact rowsC.ow_base (ow_setCell (ow_setCell (ow_setCell HF.out.o HF.out.not1 _) HF.out.not1 _) HF.out.not1 _) (by omega)
    · exact ((HF.out.b.setCell (by show _ ≤ w.heap.size + 1; omega) _).setCell (by show _ ≤ w.heap.size + 1; omega) _).setCell (by show _ ≤ w.heap.size + 1; omega) _
  have hin : hasR nm ar rows row = false := by simpa using hin
  rw [hin]
  have HV1 := Lib.hid (impl_valid nm ar _ rows S W3 (HR.out W3 HF.out.b))
  obtain ⟨d0, d1, d2, _, _, _⟩ := HF.out.t
  by_cases hok : tabOk nm ar rows = true
  case neg =>
    have hok : tabOk nm ar rows = false := by simpa using hok
    rw [hok] at HV1
    have HWHY := Lib.hid (show insOk nm ar rows row = false from decide_eq_false fun q => of_decide_eq_false hok q.1)
    clear hok hin
    go_wp2_with fail
    refine HV1.out.mono ?_
    rintro e W4 ⟨rfl, hb4⟩
    have HF4 := Lib.hid (HF.out.later hb4)
    clear hb4 d0 d1 d2
    obtain ⟨y0, y1, y2, _, _, _⟩ := HF4.out.x
    obtain ⟨p0, p1, p2, q0, q1, q2⟩ := HF4.out.r
    go_wp2_with fail
    obtain ⟨k0, k1, k2⟩ := set3 (w := W4) (k := w.heap.size + 1) (x := .string nm) (y := .int .i64 ar) (z := .slice (some ⟨gx, 0, none⟩) rows.length rows.length) p0 p1 p2
    refine bodyPost_ret (v := .tuple #[.agg #[.string nm, .int .i64 ar, .slice (some ⟨gx, 0, none⟩) rows.length rows.length], .bool false]) (by simp [results, Try.results143, go_sem, k0, k1, k2]) rfl ⟨_, fp, by rw [HWHY.out], ?_, HF4.out.n, ?_⟩
    · rw [insR, HWHY.out]
      exact rowsC.ow_base (ow_setCell (ow_setCell (ow_setCell HF4.out.o HF4.out.not1 _) HF4.out.not1 _) HF4.out.not1 _) (by omega)
    · exact ((HF4.out.b.setCell (by show _ ≤ w.heap.size + 1; omega) _).setCell (by show _ ≤ w.heap.size + 1; omega) _).setCell (by show _ ≤ w.heap.size + 1; omega) _
  rw [hok] at HV1
  have HTP := Lib.hid (show TabP nm ar rows from of_decide_eq_true hok)
  have HFP2 := Lib.hid (HFP.out hok)
  have HNIN := Lib.hid (show row ∉ rows from fun q => by rw [hasR_yes hok q] at hin; cases hin)
  clear hok hin
  go_wp2_with fail
  refine HV1.out.mono ?_
  rintro e W4 ⟨rfl, hb4⟩
  have HF4 := Lib.hid (HF.out.later hb4)
  clear hb4 d0 d1 d2
  obtain ⟨d0, d1, d2, _, _, _⟩ := HF4.out.t
  have HRW := Lib.hid (is_row _ row ar _ W4 (row_ri (HV.out W4 HF4.out.b)).1)
  by_cases hrow : rowOk row ar = true
  case neg =>
    have hrow : rowOk row ar = false := by simpa using hrow
    rw [hrow] at HRW
    have HWHY := Lib.hid (show insOk nm ar rows row = false from decide_eq_false fun q => by have := q.2.1; rw [hrow] at this; exact absurd this (by decide))
    clear hrow
    go_wp2_with fail
    refine HRW.out.mono ?_
    rintro e W5 ⟨rfl, rfl⟩
    clear d0 d1 d2
    obtain ⟨y0, y1, y2, _, _, _⟩ := HF4.out.x
    obtain ⟨p0, p1, p2, q0, q1, q2⟩ := HF4.out.r
    go_wp2_with fail
    obtain ⟨k0, k1, k2⟩ := set3 (w := W4) (k := w.heap.size + 1) (x := .string nm) (y := .int .i64 ar) (z := .slice (some ⟨gx, 0, none⟩) rows.length rows.length) p0 p1 p2
    refine bodyPost_ret (v := .tuple #[.agg #[.string nm, .int .i64 ar, .slice (some ⟨gx, 0, none⟩) rows.length rows.length], .bool false]) (by simp [results, Try.results143, go_sem, k0, k1, k2]) rfl ⟨_, fp, by rw [HWHY.out], ?_, HF4.out.n, ?_⟩
    · rw [insR, HWHY.out]
      exact rowsC.ow_base (ow_setCell (ow_setCell (ow_setCell HF4.out.o HF4.out.not1 _) HF4.out.not1 _) HF4.out.not1 _) (by omega)
    · exact ((HF4.out.b.setCell (by show _ ≤ w.heap.size + 1; omega) _).setCell (by show _ ≤ w.heap.size + 1; omega) _).setCell (by show _ ≤ w.heap.size + 1; omega) _
  rw [hrow] at HRW
  have HROW := Lib.hid hrow
  clear hrow
  go_wp2_with fail
  refine HRW.out.mono ?_
  rintro e W5 ⟨rfl, rfl⟩
  by_cases h8 : rows.length = 8
  case pos =>
    have HWHY := Lib.hid (show insOk nm ar rows row = false from decide_eq_false fun q => q.2.2.2 h8)
    have h8a : ((rows.length : Int) == 8) = true := by rw [beq_iff_eq]; omega
    have h8b : decide (rows.length = 8) = true := decide_eq_true h8
    clear h8
    obtain ⟨y0, y1, y2, _, _, _⟩ := HF4.out.x
    obtain ⟨p0, p1, p2, q0, q1, q2⟩ := HF4.out.r
    go_wp2_with fail
    obtain ⟨k0, k1, k2⟩ := set3 (w := W4) (k := w.heap.size + 1) (x := .string nm) (y := .int .i64 ar) (z := .slice (some ⟨gx, 0, none⟩) rows.length rows.length) p0 p1 p2
    refine bodyPost_ret (v := .tuple #[.agg #[.string nm, .int .i64 ar, .slice (some ⟨gx, 0, none⟩) rows.length rows.length], .bool false]) (by simp [results, Try.results143, go_sem, k0, k1, k2]) rfl ⟨_, fp, by rw [HWHY.out], ?_, HF4.out.n, ?_⟩
    · rw [insR, HWHY.out]
      exact rowsC.ow_base (ow_setCell (ow_setCell (ow_setCell HF4.out.o HF4.out.not1 _) HF4.out.not1 _) HF4.out.not1 _) (by omega)
    · exact ((HF4.out.b.setCell (by show _ ≤ w.heap.size + 1; omega) _).setCell (by show _ ≤ w.heap.size + 1; omega) _).setCell (by show _ ≤ w.heap.size + 1; omega) _
  have HWHY := Lib.hid (show insOk nm ar rows row = true from decide_eq_true ⟨HTP.out, HROW.out, HNIN.out, h8⟩)
  have h8i : ¬ (rows.length : Int) = 8 := by omega
  have HPUT := Lib.hid (show putR rows row = Cd.ins rows i row by rw [putR_split HTP.out.2.2.2.2.2 HFP2.out, if_neg HNIN.out])
  have HXL := Lib.hid HF4.out.x.lt
  have HCP := Lib.hid (copy_ints _ row S2 W4.drew (rd_drew (HV.out W4 HF4.out.b)) HRL.out)
  have HINS := Lib.hid (fun Wa (hb : Below W4.heap.size W4 Wa) b u f hu (hrow : rowC.ow Wa (w.heap.size + 2) [u] row f) hfd hdis => insert_rows gx rows.length i rows fp (w.heap.size + 2) Wa (HF4.out.later hb).o HF4.out.n rfl HIL.out HTP.out.2.2.2.1 b u row f hu hrow hfd hdis (by have := hb.size; have := HXL.out; have := HF4.out.g; omega))
  obtain ⟨y0, y1, y2, g0, g1, g2⟩ := HF4.out.x
  go_wp2_with fail
  go_region_law (first | (go_simp; go_at_call 88; refine HCP.out.mono ?_; rintro e wq ⟨gr, cr, rfl, hor, hbq⟩; (have hq := undrew hbq); (have hba := below_then hq (below_alloc wq (.cells #[.slice (some ⟨gr, 0, none⟩) row.length cr] 25 (0, 0)))); (have HBA := Lib.hid hba); (have HOR := Lib.hid hor); (have hqz := hq.size); (have k2 := (HF4.out.x.later hq).c2); (have m2 := (HF4.out.x.later hba).c2); clear hbq hq hba hor) | (go_simp; go_at_call 145; refine (HINS.out _ HBA.out wq.heap.size (.slice (some ⟨gr, 0, none⟩) row.length cr) [gr] (World.cell?_alloc_mark _ _ _ _ 0) (rowC.ow_base (Cd.ow_later HOR.out (below_alloc _ _)) (by have := HF4.out.g; have := HXL.out; show _ ≤ W4.heap.size; omega)) (by simp) (fun x hx q => by have h1 := (rowC.ow_lt HOR.out x hx).1; have h2 := (rowsC.ow_lt HF4.out.o x q).2; have h3 : W4.drew.heap.size = W4.heap.size := rfl; omega)).mono ?_; rintro e wp ⟨g5, c5, fp5, rfl, ho5, hn5, hs5, ht5⟩; (have HO5 := Lib.hid ho5); (have HN5 := Lib.hid hn5); (have HS5 := Lib.hid hs5); (have HT5 := Lib.hid ht5); (have hpz := ht5.size); (have j0 := ((HF4.out.x.later HBA.out).touched ht5 HF4.out.d).c0); (have j1 := ((HF4.out.x.later HBA.out).touched ht5 HF4.out.d).c1); (have j2 := ((HF4.out.x.later HBA.out).touched ht5 HF4.out.d).c2); (have l0 := ((HF4.out.x.later HBA.out).touched ht5 HF4.out.d).f0); (have l1 := ((HF4.out.x.later HBA.out).touched ht5 HF4.out.d).f1); (have l2 := ((HF4.out.x.later HBA.out).touched ht5 HF4.out.d).f2); clear ho5 hn5 hs5 ht5))
  all_goals
    have hbw := below_then HF4.out.b HBA.out
    have hT : w.heap.size ∉ fp := fun q => by have := (rowsC.ow_lt HF4.out.o _ q).1; omega
    have hX5 : X ∉ fp5 := fun q => by
      have hx := HXL.out
      have h3 : W4.drew.heap.size = W4.heap.size := rfl
      rcases HS5.out X q with q | q | q
      · exact HF4.out.d q
      · have := (rowC.ow_lt HOR.out X q).1; omega
      · have := HBA.out.size; omega
    have hx2 := Loc3.set2 ((HF4.out.x.later HBA.out).touched HT5.out HF4.out.d) (.slice (some ⟨g5, 0, none⟩) (rows.length + 1) c5)
    have HF5 := Lib.hid (show Fr w X nm ar (.slice a rows.length cap) (.slice (some ⟨g5, 0, none⟩) (rows.length + 1) c5) _ _ _ (Cd.ins rows i row) fp5 (wp.setCell ⟨X, 2, none⟩ (.slice (some ⟨g5, 0, none⟩) (rows.length + 1) c5)) from
      ⟨(HT5.out.below hbw (fun b hb => by have := (rowsC.ow_lt HF4.out.o b hb).1; omega)).setCell (by show _ ≤ X; have := HF4.out.g; omega) _, ((HF4.out.t.later HBA.out).touched HT5.out hT).set_far (by show X ≠ _; have := HF4.out.g; omega) _, ((HF4.out.r.later HBA.out).touched HT5.out HF4.out.not1).set_far (by show X ≠ _; have := HF4.out.g; omega) _, hx2,
        ow_setCell HO5.out hX5 _, HN5.out, hX5, HF4.out.g⟩)
    clear hbw hT hX5 hx2 y0 y1 y2 g0 g1 g2 j0 j1 j2 l0 l1 l2 d0 d1 d2 k2 m2 hpz hqz
    obtain ⟨y0, y1, y2, _, _, _⟩ := HF5.out.x
    obtain ⟨p0, p1, p2, q0, q1, q2⟩ := HF5.out.r
    go_wp2_with fail
    obtain ⟨k0, k1, k2⟩ := set3 (w := (wp.setCell ⟨X, 2, none⟩ (.slice (some ⟨g5, 0, none⟩) (rows.length + 1) c5))) (k := w.heap.size + 1) (x := .string nm) (y := .int .i64 ar) (z := .slice (some ⟨g5, 0, none⟩) (rows.length + 1) c5) p0 p1 p2
    refine bodyPost_ret (v := .tuple #[.agg #[.string nm, .int .i64 ar, .slice (some ⟨g5, 0, none⟩) (rows.length + 1) c5], .bool true]) (by simp [results, Try.results143, go_sem, k0, k1, k2]) rfl ⟨_, fp5, by rw [HWHY.out], ?_, HF5.out.n, ?_⟩
    · rw [insR, HWHY.out, if_pos rfl, HPUT.out]
      exact rowsC.ow_base (ow_setCell (ow_setCell (ow_setCell HF5.out.o HF5.out.not1 _) HF5.out.not1 _) HF5.out.not1 _) (by omega)
    · exact ((HF5.out.b.setCell (by show _ ≤ w.heap.size + 1; omega) _).setCell (by show _ ≤ w.heap.size + 1; omega) _).setCell (by show _ ≤ w.heap.size + 1; omega) _
end Go.Proofs.Ytdjgaffiildijab.TabImp

namespace Go.Proofs.Ytdjgaffiildijab.UpdApp
open Go Go.RowKit Byt Ints IntsLaw Cd Rows2 Tab SlMath TabOpen TabElem SlTable Db TabSpec DbMath DbExact Exact Upd UpdMath UpdFmt
open DbSpec (LookAns lk_some lk_none)
open DbAcc (DbAns)
open TabImp (impl_insert impl_delete)

theorem laterU_drew {a w : World} (h : LaterU a w) : LaterU a w.drew := Below.drew h
theorem laterU_alloc {a w : World} (h : LaterU a w) (o : Obj) : LaterU a (w.alloc o) := below_then h (below_alloc w o)
theorem laterU_set3 {a w : World} {k : Nat} {x y z : Value} (h : LaterU a w) (hk : a.heap.size ≤ k) : LaterU a (((w.setCell ⟨k, 0, none⟩ x).setCell ⟨k, 1, none⟩ y).setCell ⟨k, 2, none⟩ z) :=
  ((Below.setCell h hk _).setCell hk _).setCell hk _
theorem laterU_size {a w : World} (h : LaterU a w) : a.heap.size ≤ w.heap.size := Below.size h
theorem locU_new {W wq : World} {x0 x1 x2 : Value} {T : TypeId} (hb : Below (W.alloc (.cells #[x0, x1, x2] T (0, 0))).heap.size (W.alloc (.cells #[x0, x1, x2] T (0, 0))) wq) : Loc3 wq W.heap.size x0 x1 x2 :=
  (Loc3.of (start1 W _ rfl).1).later hb
theorem newU_lt {W wq : World} {x0 x1 x2 : Value} {T : TypeId} (_ : Below (W.alloc (.cells #[x0, x1, x2] T (0, 0))).heap.size (W.alloc (.cells #[x0, x1, x2] T (0, 0))) wq) : W.heap.size < (W.alloc (.cells #[x0, x1, x2] T (0, 0))).heap.size := by rw [size_alloc]; omega
theorem locU_new3 {W wq : World} {x0 x1 x2 : Value} {T : TypeId} (hb : Below (W.alloc (.cells #[x0, x1, x2] T (0, 0))).drew.heap.size (W.alloc (.cells #[x0, x1, x2] T (0, 0))).drew wq) : Loc3 wq W.heap.size x0 x1 x2 :=
  (loc_drew (Loc3.of (start1 W _ rfl).1)).later hb
theorem newU_lt3 {W wq : World} {x0 x1 x2 : Value} {T : TypeId} (_ : Below (W.alloc (.cells #[x0, x1, x2] T (0, 0))).drew.heap.size (W.alloc (.cells #[x0, x1, x2] T (0, 0))).drew wq) : W.heap.size < (W.alloc (.cells #[x0, x1, x2] T (0, 0))).drew.heap.size := by
  show W.heap.size < (W.alloc (.cells #[x0, x1, x2] T (0, 0))).heap.size
  rw [size_alloc]; omega
/-- A local table, made behind W1. -/
def MadeT (W1 : World) (nm : ByteArray) (ar : Int) (rows : List (List Int)) (s8 : Value) (wx : World) : Prop :=
  ∃ k a c fp, s8 = .pointer (some ⟨k, 0, none⟩) ∧ W1.heap.size ≤ k ∧ Loc3 wx k (.string nm) (.int .i64 ar) (.slice a rows.length c) ∧ rowsC.ow wx W1.heap.size [.slice a rows.length c] rows fp ∧ fp.Nodup ∧ Below W1.heap.size W1 wx
theorem madeT {W1 wq : World} {k : Nat} {a : Option Addr} {c n : Nat} {x0 x1 x2 : Value} {nm : ByteArray} {ar : Int} {rows : List (List Int)} {fp : List Nat} (kk : LaterU W1 wq) (hb : W1.heap.size ≤ k) (GL : Loc3 wq k x0 x1 x2)
    (HO : rowsC.ow wq W1.heap.size [.slice a n c] rows fp) (hn : n = rows.length) (hnd : fp.Nodup) (hbn : k ∉ fp) :
    MadeT W1 nm ar rows (.pointer (some ⟨k, 0, none⟩)) (((wq.setCell ⟨k, 0, none⟩ (.string nm)).setCell ⟨k, 1, none⟩ (.int .i64 ar)).setCell ⟨k, 2, none⟩ (.slice a n c)) := by
  subst hn
  obtain ⟨c0, c1, c2, f0, f1, f2⟩ := GL
  obtain ⟨k0, k1, k2⟩ := set3 (w := wq) (k := k) (x := .string nm) (y := .int .i64 ar) (z := .slice a rows.length c) c0 c1 c2
  exact ⟨k, a, c, fp, rfl, hb, ⟨k0, k1, k2, by simpa using f0, by simpa using f1, by simpa using f2⟩, ow_setCell (ow_setCell (ow_setCell HO hbn _) hbn _) hbn _, hnd, ((Below.setCell kk hb _).setCell hb _).setCell hb _⟩
theorem madeT2 {W1 wq : World} {a : Option Addr} {c n : Nat} {T : TypeId} {nm : ByteArray} {ar : Int} {rows : List (List Int)} {fp : List Nat} (kk : LaterU W1 wq)
    (HO : rowsC.ow wq W1.heap.size [.slice a n c] rows fp) (hn : n = rows.length) (hnd : fp.Nodup) :
    MadeT W1 nm ar rows (.pointer (some ⟨wq.heap.size, 0, none⟩)) (wq.alloc (.cells #[.string nm, .int .i64 ar, .slice a n c] T (0, 0))) := by
  subst hn
  exact ⟨wq.heap.size, a, c, fp, rfl, Below.size kk, Loc3.of (start1 wq _ rfl).1, Cd.ow_later HO (below_alloc _ _), hnd, below_then kk (below_alloc _ _)⟩

theorem m_apply_true (w : World) : (method 281 119 (.agg #[]) "loop.example/g01921/impl.applyTo").run Try.prog w = .ok (141, .agg #[]) w := by kernel_rfl
set_option maxRecDepth 100000 in
set_option maxHeartbeats 1600000 in
theorem apply_true (nm : ByteArray) (ar : Int) (u v : Value) (rows : List (List Int)) (row : List Int) (S S2 : Nat → Prop) (w : World) (hr : rowsC.rd w S [u] rows) (hv : rowC.rd w S2 [v] row) (hrw : rowsWt rows ≤ 1048577) (hnm : nm.size ≤ 1048577) (hrl : row.length ≤ 1048577) :
    Calls Try.prog 141 #[.agg #[], .agg #[.string nm, .int .i64 ar, u], v] w fun e w' => ∃ u' fp, e = .returned (.tuple #[.agg #[.string nm, .int .i64 ar, u'], .bool (insOk nm ar rows row)]) ∧ rowsC.ow w' w.heap.size [u'] (insR nm ar rows row) fp ∧ fp.Nodup ∧ Below w.heap.size w w' := by
  have HC := Lib.hid (fun w' (hb : Below w.heap.size w w') => impl_insert nm ar u v rows row S S2 w' (Cd.later hr hb) (Cd.later hv hb) hrw hnm hrl)
  obtain ⟨a, cap, rfl, hlm⟩ := rows_form hr
  clear hr hv
  go_enter Try.func141, Try.ntmps141
  go_wp2_with fail
  generalize hW : ((w.alloc _).alloc _).alloc _ = W
  obtain ⟨r0, r1, r2, hz, hb0⟩ := start3 w _ _ _ hW
  clear hW r0
  refine (HC.out W hb0).mono ?_
  rintro e w1 ⟨u', fp, rfl, how, hnd, hb1⟩
  obtain ⟨a1, c1, rfl⟩ := Cd.ow_slice how
  have HX := Lib.hid ((Loc3.of r2).later hb1)
  have HOW := Lib.hid how
  have HND := Lib.hid hnd
  have HB := Lib.hid (below_then hb0 hb1)
  have HZ := Lib.hid hz
  clear how hnd hb1 hb0 r1 r2 hz
  obtain ⟨p0, p1, p2, q0, q1, q2⟩ := HX.out
  go_wp2_with fail
  obtain ⟨k0, k1, k2⟩ := set3 (w := w1) (k := w.heap.size + 2) (x := .string nm) (y := .int .i64 ar) (z := .slice a1 (insR nm ar rows row).length c1) p0 p1 p2
  refine bodyPost_ret (v := .tuple #[.agg #[.string nm, .int .i64 ar, .slice a1 (insR nm ar rows row).length c1], .bool (insOk nm ar rows row)]) (by simp [results, Try.results141, go_sem, k0, k1, k2]) rfl ⟨_, fp, rfl, ?_, HND.out, ?_⟩
  · have hn : w.heap.size + 2 ∉ fp := fun q => by
      have h1 := (rowsC.ow_lt HOW.out _ q).1
      have h2 := HZ.out
      omega
    exact ow_setCell (ow_setCell (ow_setCell (rowsC.ow_base HOW.out (by have := HZ.out; omega)) hn _) hn _) hn _
  · exact ((HB.out.setCell (by show _ ≤ w.heap.size + 2; omega) _).setCell (by show _ ≤ w.heap.size + 2; omega) _).setCell (by show _ ≤ w.heap.size + 2; omega) _

theorem m_apply_false (w : World) : (method 281 120 (.agg #[]) "loop.example/g01921/impl.applyTo").run Try.prog w = .ok (151, .agg #[]) w := by kernel_rfl
set_option maxRecDepth 100000 in
set_option maxHeartbeats 1600000 in
theorem apply_false (nm : ByteArray) (ar : Int) (u v : Value) (rows : List (List Int)) (row : List Int) (S S2 : Nat → Prop) (w : World) (hr : rowsC.rd w S [u] rows) (hv : rowC.rd w S2 [v] row) (hrw : rowsWt rows ≤ 1048577) (hnm : nm.size ≤ 1048577) :
    Calls Try.prog 151 #[.agg #[], .agg #[.string nm, .int .i64 ar, u], v] w fun e w' => ∃ u' fp, e = .returned (.tuple #[.agg #[.string nm, .int .i64 ar, u'], .bool (hasR nm ar rows row)]) ∧ rowsC.ow w' w.heap.size [u'] (delR nm ar rows row) fp ∧ fp.Nodup ∧ Below w.heap.size w w' := by
  have HC := Lib.hid (fun w' (hb : Below w.heap.size w w') => impl_delete nm ar u v rows row S S2 w' (Cd.later hr hb) (Cd.later hv hb) hrw hnm)
  obtain ⟨a, cap, rfl, hlm⟩ := rows_form hr
  clear hr hv
  go_enter Try.func151, Try.ntmps151
  go_wp2_with fail
  generalize hW : ((w.alloc _).alloc _).alloc _ = W
  obtain ⟨r0, r1, r2, hz, hb0⟩ := start3 w _ _ _ hW
  clear hW r0
  refine (HC.out W hb0).mono ?_
  rintro e w1 ⟨u', fp, rfl, how, hnd, hb1⟩
  obtain ⟨a1, c1, rfl⟩ := Cd.ow_slice how
  have HX := Lib.hid ((Loc3.of r2).later hb1)
  have HOW := Lib.hid how
  have HND := Lib.hid hnd
  have HB := Lib.hid (below_then hb0 hb1)
  have HZ := Lib.hid hz
  clear how hnd hb1 hb0 r1 r2 hz
  obtain ⟨p0, p1, p2, q0, q1, q2⟩ := HX.out
  go_wp2_with fail
  obtain ⟨k0, k1, k2⟩ := set3 (w := w1) (k := w.heap.size + 2) (x := .string nm) (y := .int .i64 ar) (z := .slice a1 (delR nm ar rows row).length c1) p0 p1 p2
  refine bodyPost_ret (v := .tuple #[.agg #[.string nm, .int .i64 ar, .slice a1 (delR nm ar rows row).length c1], .bool (hasR nm ar rows row)]) (by simp [results, Try.results151, go_sem, k0, k1, k2]) rfl ⟨_, fp, rfl, ?_, HND.out, ?_⟩
  · have hn : w.heap.size + 2 ∉ fp := fun q => by
      have h1 := (rowsC.ow_lt HOW.out _ q).1
      have h2 := HZ.out
      omega
    exact ow_setCell (ow_setCell (ow_setCell (rowsC.ow_base HOW.out (by have := HZ.out; omega)) hn _) hn _) hn _
  · exact ((HB.out.setCell (by show _ ≤ w.heap.size + 2; omega) _).setCell (by show _ ≤ w.heap.size + 2; omega) _).setCell (by show _ ≤ w.heap.size + 2; omega) _

set_option maxRecDepth 100000 in
set_option maxHeartbeats 6400000 in
theorem impl_apply_true (u v : Value) (l : List T3) (nm : ByteArray) (row : List Int) (S S2 : Nat → Prop) (w : World) (h1 : tabsC.rd w S [u] l) (h2 : rowC.rd w S2 [v] row) (hw : wtS l ≤ 1048577) (hrl : row.length ≤ 1048577) (hs : nm.size ≤ 1048576) :
    Calls Try.prog 26 #[.agg #[u], .agg #[.string nm, .bool true, v]] w fun e w' => DbAns (appL l nm true row) (appOk l nm true row) w e w' := by
  have HL := Lib.hid (fun w' (hb : Below w.heap.size w w') => DbImp.impl_look u l nm S w' (Cd.later h1 hb) hw hs)
  have HDC := Lib.hid (fun w' (hb : Below w.heap.size w w') => DbImp.impl_dbcopy u l S w' (Cd.later h1 hb) hw)
  have HV := Lib.hid (fun w' (hb : Below w.heap.size w w') => Cd.later h2 hb)
  have HR := Lib.hid (fun w' (hb : Below w.heap.size w w') => Cd.later h1 hb)
  have HW := Lib.hid hw
  have HRL := Lib.hid hrl
  obtain ⟨a1, cap1, rfl, hl1⟩ := Cd.sl_form h1
  obtain ⟨a2, cap2, rfl, hl2⟩ := row_form h2
  clear h1 h2 hw hrl hs
  have HAP := Lib.hid (fun (T : T3) (hT : rowsWt T.2.2 ≤ 40 ∧ T.1.size ≤ 40) u' S' w' (h : rowsC.rd w' S' [u'] T.2.2) (hb : Below w.heap.size w w') =>
    (show Calls Try.prog 141 #[.agg #[], .agg #[.string T.1, .int .i64 T.2.1, u'], .slice a2 row.length cap2] w' fun e w'' => ∃ u'' fp, e = .returned (.tuple #[.agg #[.string T.1, .int .i64 T.2.1, u''], .bool (chOk T true row)]) ∧ rowsC.ow w'' w'.heap.size [u''] (chR T true row) fp ∧ fp.Nodup ∧ Below w'.heap.size w' w'' from apply_true T.1 T.2.1 u' (.slice a2 row.length cap2) T.2.2 row S' S2 w' h (HV.out w' hb) (by omega) (by omega) (by have := HRL.out; omega)))
  have HCH := Lib.hid (fun w' => change_of nm true (.slice a2 row.length cap2) w')
  change Hid (∀ w', Calls _ _ _ _ fun e w'' => e = .returned (.iface 119 (.agg #[])) ∧ _) at HCH
  go_enter Try.func26, Try.ntmps26
  go_wp2_with fail
  generalize hW : ((w.alloc _).alloc _).alloc _ = W
  obtain ⟨r0, r1, r2, hz, hb0⟩ := start3 w _ _ _ hW
  have HC0 := Lib.hid (Loc1.of r0)
  have HC1 := Lib.hid (Loc3.of r1)
  have HC2 := Lib.hid (Loc1.of r2)
  have HB0 := Lib.hid hb0
  have HZ := Lib.hid hz
  clear hW r0 r1 r2 hz hb0
  refine (HL.out _ HB0.out).mono ?_
  rintro e w1 ⟨v1, fp, rfl, ho, hn, hb1⟩
  obtain ⟨a3, c3, rfl⟩ := Cd.ow_slice ho
  have HB1 := Lib.hid (below_then HB0.out hb1)
  have HC0a := Lib.hid (HC0.out.later hb1)
  have HC1a := Lib.hid (HC1.out.later hb1)
  have HC2a := Lib.hid (HC2.out.later hb1)
  have HZ1 := Lib.hid (show w.heap.size + 3 ≤ w1.heap.size by have := hb1.size; have := HZ.out; omega)
  have HO := Lib.hid ho
  clear ho hn hb1 HC0 HC1 HC2
  cases hl : lookL l nm with
  | none =>
    have HA := Lib.hid (app_none (appT_none (b := true) (row := row) hl))
    rw [lk_none hl]
    clear HO hl HCH HAP
    have q0 := HC0a.out.c0
    have q1 := HC0a.out.lt
    go_wp2_with fail
    refine (HDC.out _ (below_then HB1.out (below_alloc _ _))).mono ?_
    rintro e w3 ⟨a4, c4, f3, rfl, ho3, hn3, hb3⟩
    have HC3 := Lib.hid (Loc1.later (HC2a.out.later (below_alloc _ _)) hb3)
    have y0 := HC3.out.c0
    have y1 := HC3.out.f0
    have HX := Lib.hid (ans_far ho3 hn3 (below_then HB1.out (below_alloc _ _)) hb3 (Y := w.heap.size + 2) (by omega) (by rw [size_alloc]; have := HZ1.out; omega) HA.out.1.symm HA.out.2.symm)
    clear ho3 hn3 hb3 q0 q1
    go_wp2_with fail
    have k0 : (w3.setCell ⟨w.heap.size + 2, 0, none⟩ (.slice a4 l.length c4)).cell? ⟨w.heap.size + 2, 0, none⟩ = some (.slice a4 l.length c4) := World.cell?_setCell_same _ _ _ y0
    refine bodyPost_ret (v := .tuple #[.agg #[.slice a4 l.length c4], .bool false]) (by simp [results, Try.results26, go_sem, k0]) rfl ?_
    exact HX.out
  | some T =>
    obtain ⟨hdb, hmem, hnmT, hok⟩ := look_ok hl
    have hw40 := wt_rows (wt_ok hok)
    have HOK := Lib.hid hok
    have HW40 := Lib.hid hw40
    have HLK := Lib.hid hl
    rw [lk_some hl] at HO ⊢
    clear hdb hmem hnmT hok hw40 hl
    go_upto_region 4 with fail
    generalize hW2 : w1.alloc _ = W2
    obtain ⟨s0, sz, sb⟩ := start1 w1 _ hW2
    have HT6 := Lib.hid (Loc3.of s0)
    have HC1b := Lib.hid (HC1a.out.later sb)
    have HB2 := Lib.hid (below_then HB1.out sb)
    have HC0b := Lib.hid (HC0a.out.later sb)
    have HC2b := Lib.hid (HC2a.out.later sb)
    have HO2 := Lib.hid (Cd.ow_later HO.out sb)
    have HZ2 := Lib.hid sz
    have S7 := Lib.hid (fun wx (h : LaterU W2 wx) => And.intro (HC1b.out.later h).c0 (And.intro (HC1b.out.later h).c1 (And.intro (HC1b.out.later h).c2 (And.intro (HT6.out.later h).c0 (And.intro (HT6.out.later h).c1 (And.intro (HT6.out.later h).c2 h))))))
    have HA2 := Lib.hid (fun w' (h : LaterU W2 w') => HAP.out T HW40.out _ _ w' (rowsC.ow_rd (Cd.ow_later HO2.out h)) (below_then HB2.out h))
    clear hW2 s0 sz sb HAP
    have hm := m_apply_true
    have kk : LaterU W2 W2.drew := laterU_drew (Below.refl _ W2)
    obtain ⟨h0, h1, h2, h3, h4, h5, h6⟩ := S7.out _ kk
    go_cut [8, 9] (fun s8 s9 wx => s9 = .bool (chOk T true row) ∧ MadeT W2 T.1 T.2.1 (chR T true row) s8 wx)
    case first =>
      generalize chOk T true row = ck at *
      generalize chR T true row = cr at *
      go_region_held3 (fun wx => wx.cell? ⟨w.heap.size + 1, 0, none⟩ = some (.string nm) ∧ wx.cell? ⟨w.heap.size + 1, 1, none⟩ = some (.bool true) ∧ wx.cell? ⟨w.heap.size + 1, 2, none⟩ = some (.slice a2 row.length cap2) ∧ wx.cell? ⟨w1.heap.size, 0, none⟩ = some (.string T.1) ∧ wx.cell? ⟨w1.heap.size, 1, none⟩ = some (.int .i64 T.2.1) ∧ wx.cell? ⟨w1.heap.size, 2, none⟩ = some (.slice a3 T.2.2.length c3) ∧ LaterU W2 wx)
        ((first | exact S7.out _ (by first | assumption | exact laterU_drew (Below.refl _ W2) | exact laterU_alloc (by first | assumption | exact laterU_drew (Below.refl _ W2)) _ | exact laterU_set3 (by first | assumption | exact laterU_alloc (by assumption) _) (laterU_size (by first | assumption | exact Below.refl _ _)))))
        (first | (go_at_call 47; refine (HCH.out _).mono ?_; rintro e wq ⟨rfl, hbq⟩; (have kk : LaterU W2 wq := below_then (by first | assumption | exact laterU_alloc (by assumption) _ | exact laterU_drew (laterU_alloc (Below.refl _ W2) _) | exact laterU_drew (Below.refl _ W2)) hbq); (first | (have GB := Lib.hid GL.out.lt; have GL := Lib.hid (GL.out.later hbq)) | (have GB := Lib.hid (newU_lt hbq); have GL := Lib.hid (locU_new hbq)) | (have GB := Lib.hid (newU_lt3 hbq); have GL := Lib.hid (locU_new3 hbq)) | skip); obtain ⟨h0, h1, h2, h3, h4, h5, h6⟩ := S7.out _ kk; clear hbq) | (go_at_call 141; refine (HA2.out _ (by first | assumption | exact laterU_alloc (by assumption) _)).mono ?_; rintro e wq ⟨u5, f5, rfl, how, hnd, hbq⟩; obtain ⟨a5, c5, rfl⟩ := Cd.ow_slice how; (have kk : LaterU W2 wq := below_then (by first | assumption | exact laterU_alloc (by assumption) _ | exact laterU_drew (laterU_alloc (Below.refl _ W2) _) | exact laterU_drew (Below.refl _ W2)) hbq); (first | (have GB := Lib.hid GL.out.lt; have GL := Lib.hid (GL.out.later hbq)) | (have GB := Lib.hid (newU_lt hbq); have GL := Lib.hid (locU_new hbq)) | (have GB := Lib.hid (newU_lt3 hbq); have GL := Lib.hid (locU_new3 hbq)) | skip); obtain ⟨h0, h1, h2, h3, h4, h5, h6⟩ := S7.out _ kk; (have HO5 := Lib.hid (rowsC.ow_base how (laterU_size (a := W2) (by first | assumption | exact laterU_alloc (by assumption) _)))); (have HLT := Lib.hid (rowsC.ow_lt how)); (have HND := Lib.hid hnd); (first | (have x0 := GL.out.c0; have x1 := GL.out.c1; have x2 := GL.out.c2; have f0 := GL.out.f0; have f1 := GL.out.f1; have f2 := GL.out.f2) | skip); clear hbq how hnd))
      all_goals
        go_wp2_with fail
        go_meet
        refine ⟨rfl, ?_⟩
        first
          | (have GG := GL.out; exact madeT (by assumption) (laterU_size (by first | assumption | exact Below.refl _ _)) GG HO5.out rfl HND.out (fun q => by have h1 := (HLT.out _ q).1; have h2 := GB.out; omega))
          | (with_reducible exact madeT2 (by assumption) HO5.out rfl HND.out)
    case rest =>
      obtain ⟨rfl, k, a5, c5, f5, rfl, hk, hx, how, hnd, hl⟩ := hcut
      clear h0 h1 h2 h3 h4 h5 h6 kk hm S7 HA2 HCH
      have HBS := Lib.hid (below_then HB2.out hl)
      have HC0d := Lib.hid (HC0b.out.later hl)
      have HC2d := Lib.hid (HC2b.out.later hl)
      have HTX := Lib.hid hx
      have HO4 := Lib.hid how
      have HSS := Lib.hid (show w.heap.size + 2 < wc.heap.size by have := HZ1.out; have := HZ2.out; have := hl.size; omega)
      have HKK := Lib.hid hk
      have HND := Lib.hid hnd
      clear hx how hnd hk hl
      obtain ⟨x0, x1, x2, _, _, _⟩ := HTX.out
      have q0 := HC0d.out.c0
      cases hk : chOk T true row
      · have HA := Lib.hid (app_none (appT_no (b := true) (row := row) HLK.out hk))
        clear hk
        go_wp2_with fail
        refine (HDC.out _ HBS.out).mono ?_
        rintro e w6 ⟨a6, c6, f6, rfl, ho6, hn6, hb6⟩
        have HC6 := Lib.hid (HC2d.out.later hb6)
        have y0 := HC6.out.c0
        have y1 := HC6.out.f0
        have HX := Lib.hid (ans_far ho6 hn6 HBS.out hb6 (Y := w.heap.size + 2) (by omega) HSS.out HA.out.1.symm HA.out.2.symm)
        clear ho6 hn6 hb6 x0 x1 x2 q0
        go_wp2_with fail
        have k0 : (w6.setCell ⟨w.heap.size + 2, 0, none⟩ (.slice a6 l.length c6)).cell? ⟨w.heap.size + 2, 0, none⟩ = some (.slice a6 l.length c6) := World.cell?_setCell_same _ _ _ y0
        refine bodyPost_ret (v := .tuple #[.agg #[.slice a6 l.length c6], .bool false]) (by simp [results, Try.results26, go_sem, k0]) rfl ?_
        exact HX.out
      · have HA := Lib.hid (app_some (appT_yes (b := true) (row := row) HLK.out hk))
        have HWC := Lib.hid (wt_ok (ok_ch HOK.out hk))
        clear hk
        go_wp2_with fail
        refine (DbImp.impl_set _ l (chT T true row) a5 c5 S _ _ (HR.out _ HBS.out) (chT_rd (rowsC.ow_rd HO4.out) HOK.out) HW.out (by have := HWC.out; omega)).mono ?_
        rintro e w6 ⟨u6, f6, rfl, ho6, hn6, hb6⟩
        obtain ⟨a6, c6, rfl⟩ := Cd.ow_slice (c := tabC) ho6
        have HC6 := Lib.hid (HC2d.out.later hb6)
        have y0 := HC6.out.c0
        have y1 := HC6.out.f0
        have HX := Lib.hid (ans_far ho6 hn6 HBS.out hb6 (Y := w.heap.size + 2) (by omega) HSS.out HA.out.1.symm HA.out.2.symm)
        clear ho6 hn6 hb6 x0 x1 x2 q0
        go_wp2_with fail
        have k0 := World.cell?_setCell_same _ _ (.slice a6 (setL l (chT T true row)).length c6) y0
        refine bodyPost_ret (v := .tuple #[.agg #[.slice a6 (setL l (chT T true row)).length c6], .bool (setOk l (chT T true row))]) (by simp [results, Try.results26, go_sem, k0]) rfl ?_
        exact HX.out
set_option maxRecDepth 100000 in
set_option maxHeartbeats 6400000 in
theorem impl_apply_false (u v : Value) (l : List T3) (nm : ByteArray) (row : List Int) (S S2 : Nat → Prop) (w : World) (h1 : tabsC.rd w S [u] l) (h2 : rowC.rd w S2 [v] row) (hw : wtS l ≤ 1048577) (hrl : row.length ≤ 1048577) (hs : nm.size ≤ 1048576) :
    Calls Try.prog 26 #[.agg #[u], .agg #[.string nm, .bool false, v]] w fun e w' => DbAns (appL l nm false row) (appOk l nm false row) w e w' := by
  have HL := Lib.hid (fun w' (hb : Below w.heap.size w w') => DbImp.impl_look u l nm S w' (Cd.later h1 hb) hw hs)
  have HDC := Lib.hid (fun w' (hb : Below w.heap.size w w') => DbImp.impl_dbcopy u l S w' (Cd.later h1 hb) hw)
  have HV := Lib.hid (fun w' (hb : Below w.heap.size w w') => Cd.later h2 hb)
  have HR := Lib.hid (fun w' (hb : Below w.heap.size w w') => Cd.later h1 hb)
  have HW := Lib.hid hw
  have HRL := Lib.hid hrl
  obtain ⟨a1, cap1, rfl, hl1⟩ := Cd.sl_form h1
  obtain ⟨a2, cap2, rfl, hl2⟩ := row_form h2
  clear h1 h2 hw hrl hs
  have HAP := Lib.hid (fun (T : T3) (hT : rowsWt T.2.2 ≤ 40 ∧ T.1.size ≤ 40) u' S' w' (h : rowsC.rd w' S' [u'] T.2.2) (hb : Below w.heap.size w w') =>
    (show Calls Try.prog 151 #[.agg #[], .agg #[.string T.1, .int .i64 T.2.1, u'], .slice a2 row.length cap2] w' fun e w'' => ∃ u'' fp, e = .returned (.tuple #[.agg #[.string T.1, .int .i64 T.2.1, u''], .bool (chOk T false row)]) ∧ rowsC.ow w'' w'.heap.size [u''] (chR T false row) fp ∧ fp.Nodup ∧ Below w'.heap.size w' w'' from apply_false T.1 T.2.1 u' (.slice a2 row.length cap2) T.2.2 row S' S2 w' h (HV.out w' hb) (by omega) (by omega)))
  have HCH := Lib.hid (fun w' => change_of nm false (.slice a2 row.length cap2) w')
  change Hid (∀ w', Calls _ _ _ _ fun e w'' => e = .returned (.iface 120 (.agg #[])) ∧ _) at HCH
  go_enter Try.func26, Try.ntmps26
  go_wp2_with fail
  generalize hW : ((w.alloc _).alloc _).alloc _ = W
  obtain ⟨r0, r1, r2, hz, hb0⟩ := start3 w _ _ _ hW
  have HC0 := Lib.hid (Loc1.of r0)
  have HC1 := Lib.hid (Loc3.of r1)
  have HC2 := Lib.hid (Loc1.of r2)
  have HB0 := Lib.hid hb0
  have HZ := Lib.hid hz
  clear hW r0 r1 r2 hz hb0
  refine (HL.out _ HB0.out).mono ?_
  rintro e w1 ⟨v1, fp, rfl, ho, hn, hb1⟩
  obtain ⟨a3, c3, rfl⟩ := Cd.ow_slice ho
  have HB1 := Lib.hid (below_then HB0.out hb1)
  have HC0a := Lib.hid (HC0.out.later hb1)
  have HC1a := Lib.hid (HC1.out.later hb1)
  have HC2a := Lib.hid (HC2.out.later hb1)
  have HZ1 := Lib.hid (show w.heap.size + 3 ≤ w1.heap.size by have := hb1.size; have := HZ.out; omega)
  have HO := Lib.hid ho
  clear ho hn hb1 HC0 HC1 HC2
  cases hl : lookL l nm with
  | none =>
    have HA := Lib.hid (app_none (appT_none (b := false) (row := row) hl))
    rw [lk_none hl]
    clear HO hl HCH HAP
    have q0 := HC0a.out.c0
    have q1 := HC0a.out.lt
    go_wp2_with fail
    refine (HDC.out _ (below_then HB1.out (below_alloc _ _))).mono ?_
    rintro e w3 ⟨a4, c4, f3, rfl, ho3, hn3, hb3⟩
    have HC3 := Lib.hid (Loc1.later (HC2a.out.later (below_alloc _ _)) hb3)
    have y0 := HC3.out.c0
    have y1 := HC3.out.f0
    have HX := Lib.hid (ans_far ho3 hn3 (below_then HB1.out (below_alloc _ _)) hb3 (Y := w.heap.size + 2) (by omega) (by rw [size_alloc]; have := HZ1.out; omega) HA.out.1.symm HA.out.2.symm)
    clear ho3 hn3 hb3 q0 q1
    go_wp2_with fail
    have k0 : (w3.setCell ⟨w.heap.size + 2, 0, none⟩ (.slice a4 l.length c4)).cell? ⟨w.heap.size + 2, 0, none⟩ = some (.slice a4 l.length c4) := World.cell?_setCell_same _ _ _ y0
    refine bodyPost_ret (v := .tuple #[.agg #[.slice a4 l.length c4], .bool false]) (by simp [results, Try.results26, go_sem, k0]) rfl ?_
    exact HX.out
  | some T =>
    obtain ⟨hdb, hmem, hnmT, hok⟩ := look_ok hl
    have hw40 := wt_rows (wt_ok hok)
    have HOK := Lib.hid hok
    have HW40 := Lib.hid hw40
    have HLK := Lib.hid hl
    rw [lk_some hl] at HO ⊢
    clear hdb hmem hnmT hok hw40 hl
    go_upto_region 4 with fail
    generalize hW2 : w1.alloc _ = W2
    obtain ⟨s0, sz, sb⟩ := start1 w1 _ hW2
    have HT6 := Lib.hid (Loc3.of s0)
    have HC1b := Lib.hid (HC1a.out.later sb)
    have HB2 := Lib.hid (below_then HB1.out sb)
    have HC0b := Lib.hid (HC0a.out.later sb)
    have HC2b := Lib.hid (HC2a.out.later sb)
    have HO2 := Lib.hid (Cd.ow_later HO.out sb)
    have HZ2 := Lib.hid sz
    have S7 := Lib.hid (fun wx (h : LaterU W2 wx) => And.intro (HC1b.out.later h).c0 (And.intro (HC1b.out.later h).c1 (And.intro (HC1b.out.later h).c2 (And.intro (HT6.out.later h).c0 (And.intro (HT6.out.later h).c1 (And.intro (HT6.out.later h).c2 h))))))
    have HA2 := Lib.hid (fun w' (h : LaterU W2 w') => HAP.out T HW40.out _ _ w' (rowsC.ow_rd (Cd.ow_later HO2.out h)) (below_then HB2.out h))
    clear hW2 s0 sz sb HAP
    have hm := m_apply_false
    have kk : LaterU W2 W2.drew := laterU_drew (Below.refl _ W2)
    obtain ⟨h0, h1, h2, h3, h4, h5, h6⟩ := S7.out _ kk
    go_cut [8, 9] (fun s8 s9 wx => s9 = .bool (chOk T false row) ∧ MadeT W2 T.1 T.2.1 (chR T false row) s8 wx)
    case first =>
      generalize chOk T false row = ck at *
      generalize chR T false row = cr at *
      go_region_held3 (fun wx => wx.cell? ⟨w.heap.size + 1, 0, none⟩ = some (.string nm) ∧ wx.cell? ⟨w.heap.size + 1, 1, none⟩ = some (.bool false) ∧ wx.cell? ⟨w.heap.size + 1, 2, none⟩ = some (.slice a2 row.length cap2) ∧ wx.cell? ⟨w1.heap.size, 0, none⟩ = some (.string T.1) ∧ wx.cell? ⟨w1.heap.size, 1, none⟩ = some (.int .i64 T.2.1) ∧ wx.cell? ⟨w1.heap.size, 2, none⟩ = some (.slice a3 T.2.2.length c3) ∧ LaterU W2 wx)
        ((first | exact S7.out _ (by first | assumption | exact laterU_drew (Below.refl _ W2) | exact laterU_alloc (by first | assumption | exact laterU_drew (Below.refl _ W2)) _ | exact laterU_set3 (by first | assumption | exact laterU_alloc (by assumption) _) (laterU_size (by first | assumption | exact Below.refl _ _)))))
        (first | (go_at_call 47; refine (HCH.out _).mono ?_; rintro e wq ⟨rfl, hbq⟩; (have kk : LaterU W2 wq := below_then (by first | assumption | exact laterU_alloc (by assumption) _ | exact laterU_drew (laterU_alloc (Below.refl _ W2) _) | exact laterU_drew (Below.refl _ W2)) hbq); (first | (have GB := Lib.hid GL.out.lt; have GL := Lib.hid (GL.out.later hbq)) | (have GB := Lib.hid (newU_lt hbq); have GL := Lib.hid (locU_new hbq)) | (have GB := Lib.hid (newU_lt3 hbq); have GL := Lib.hid (locU_new3 hbq)) | skip); obtain ⟨h0, h1, h2, h3, h4, h5, h6⟩ := S7.out _ kk; clear hbq) | (go_at_call 151; refine (HA2.out _ (by first | assumption | exact laterU_alloc (by assumption) _)).mono ?_; rintro e wq ⟨u5, f5, rfl, how, hnd, hbq⟩; obtain ⟨a5, c5, rfl⟩ := Cd.ow_slice how; (have kk : LaterU W2 wq := below_then (by first | assumption | exact laterU_alloc (by assumption) _ | exact laterU_drew (laterU_alloc (Below.refl _ W2) _) | exact laterU_drew (Below.refl _ W2)) hbq); (first | (have GB := Lib.hid GL.out.lt; have GL := Lib.hid (GL.out.later hbq)) | (have GB := Lib.hid (newU_lt hbq); have GL := Lib.hid (locU_new hbq)) | (have GB := Lib.hid (newU_lt3 hbq); have GL := Lib.hid (locU_new3 hbq)) | skip); obtain ⟨h0, h1, h2, h3, h4, h5, h6⟩ := S7.out _ kk; (have HO5 := Lib.hid (rowsC.ow_base how (laterU_size (a := W2) (by first | assumption | exact laterU_alloc (by assumption) _)))); (have HLT := Lib.hid (rowsC.ow_lt how)); (have HND := Lib.hid hnd); (first | (have x0 := GL.out.c0; have x1 := GL.out.c1; have x2 := GL.out.c2; have f0 := GL.out.f0; have f1 := GL.out.f1; have f2 := GL.out.f2) | skip); clear hbq how hnd))
      all_goals
        go_wp2_with fail
        go_meet
        refine ⟨rfl, ?_⟩
        first
          | (have GG := GL.out; exact madeT (by assumption) (laterU_size (by first | assumption | exact Below.refl _ _)) GG HO5.out rfl HND.out (fun q => by have h1 := (HLT.out _ q).1; have h2 := GB.out; omega))
          | (with_reducible exact madeT2 (by assumption) HO5.out rfl HND.out)
    case rest =>
      obtain ⟨rfl, k, a5, c5, f5, rfl, hk, hx, how, hnd, hl⟩ := hcut
      clear h0 h1 h2 h3 h4 h5 h6 kk hm S7 HA2 HCH
      have HBS := Lib.hid (below_then HB2.out hl)
      have HC0d := Lib.hid (HC0b.out.later hl)
      have HC2d := Lib.hid (HC2b.out.later hl)
      have HTX := Lib.hid hx
      have HO4 := Lib.hid how
      have HSS := Lib.hid (show w.heap.size + 2 < wc.heap.size by have := HZ1.out; have := HZ2.out; have := hl.size; omega)
      have HKK := Lib.hid hk
      have HND := Lib.hid hnd
      clear hx how hnd hk hl
      obtain ⟨x0, x1, x2, _, _, _⟩ := HTX.out
      have q0 := HC0d.out.c0
      cases hk : chOk T false row
      · have HA := Lib.hid (app_none (appT_no (b := false) (row := row) HLK.out hk))
        clear hk
        go_wp2_with fail
        refine (HDC.out _ HBS.out).mono ?_
        rintro e w6 ⟨a6, c6, f6, rfl, ho6, hn6, hb6⟩
        have HC6 := Lib.hid (HC2d.out.later hb6)
        have y0 := HC6.out.c0
        have y1 := HC6.out.f0
        have HX := Lib.hid (ans_far ho6 hn6 HBS.out hb6 (Y := w.heap.size + 2) (by omega) HSS.out HA.out.1.symm HA.out.2.symm)
        clear ho6 hn6 hb6 x0 x1 x2 q0
        go_wp2_with fail
        have k0 : (w6.setCell ⟨w.heap.size + 2, 0, none⟩ (.slice a6 l.length c6)).cell? ⟨w.heap.size + 2, 0, none⟩ = some (.slice a6 l.length c6) := World.cell?_setCell_same _ _ _ y0
        refine bodyPost_ret (v := .tuple #[.agg #[.slice a6 l.length c6], .bool false]) (by simp [results, Try.results26, go_sem, k0]) rfl ?_
        exact HX.out
      · have HA := Lib.hid (app_some (appT_yes (b := false) (row := row) HLK.out hk))
        have HWC := Lib.hid (wt_ok (ok_ch HOK.out hk))
        clear hk
        go_wp2_with fail
        refine (DbImp.impl_set _ l (chT T false row) a5 c5 S _ _ (HR.out _ HBS.out) (chT_rd (rowsC.ow_rd HO4.out) HOK.out) HW.out (by have := HWC.out; omega)).mono ?_
        rintro e w6 ⟨u6, f6, rfl, ho6, hn6, hb6⟩
        obtain ⟨a6, c6, rfl⟩ := Cd.ow_slice (c := tabC) ho6
        have HC6 := Lib.hid (HC2d.out.later hb6)
        have y0 := HC6.out.c0
        have y1 := HC6.out.f0
        have HX := Lib.hid (ans_far ho6 hn6 HBS.out hb6 (Y := w.heap.size + 2) (by omega) HSS.out HA.out.1.symm HA.out.2.symm)
        clear ho6 hn6 hb6 x0 x1 x2 q0
        go_wp2_with fail
        have k0 := World.cell?_setCell_same _ _ (.slice a6 (setL l (chT T false row)).length c6) y0
        refine bodyPost_ret (v := .tuple #[.agg #[.slice a6 (setL l (chT T false row)).length c6], .bool (setOk l (chT T false row))]) (by simp [results, Try.results26, go_sem, k0]) rfl ?_
        exact HX.out
theorem impl_apply (u v : Value) (l : List T3) (nm : ByteArray) (b : Bool) (row : List Int) (S S2 : Nat → Prop) (w : World) (h1 : tabsC.rd w S [u] l) (h2 : rowC.rd w S2 [v] row) (hw : wtS l ≤ 1048577) (hrl : row.length ≤ 1048577) (hs : nm.size ≤ 1048576) :
    Calls Try.prog 26 #[.agg #[u], .agg #[.string nm, .bool b, v]] w fun e w' => DbAns (appL l nm b row) (appOk l nm b row) w e w' := by
  cases b
  · exact impl_apply_false u v l nm row S S2 w h1 h2 hw hrl hs
  · exact impl_apply_true u v l nm row S S2 w h1 h2 hw hrl hs
end Go.Proofs.Ytdjgaffiildijab.UpdApp

namespace Go.Proofs.Ytdjgaffiildijab.UpdApp
open Go Go.RowKit Byt Ints IntsLaw Cd Rows2 Tab SlMath TabOpen TabElem SlTable Db TabSpec DbMath DbExact Exact Upd UpdMath
open DbAcc (DbAns)

set_option maxRecDepth 100000 in
set_option maxHeartbeats 1600000 in
theorem spec_applyable (u v : Value) (l : List T3) (nm : ByteArray) (b : Bool) (row : List Int) (S S2 : Nat → Prop) (w : World) (h1 : tabsC.rd w S [u] l) (h2 : rowC.rd w S2 [v] row) (hw : wtS l ≤ 1048577) (hrl : row.length ≤ 1048577) :
    Calls Try.prog 8 #[.agg #[u], .agg #[.string nm, .bool b, v]] w fun e w' => e = .returned (.bool (appOk l nm b row)) ∧ Below w.heap.size w w' := by
  have HC := Lib.hid (fun w' (hb : Below w.heap.size w w') => spec_apply u v l nm b row S S2 w' (Cd.later h1 hb) (Cd.later h2 hb) hw hrl)
  obtain ⟨a1, cap1, rfl, hl1⟩ := Cd.sl_form h1
  obtain ⟨a2, cap2, rfl, hl2⟩ := row_form h2
  clear h1 h2
  generalize appOk l nm b row = ok at *
  go_enter Try.func8, Try.ntmps8
  go_wp2_with fail
  generalize hW : (w.alloc _).alloc _ = W
  obtain ⟨r0, r1, hz, hb0⟩ := start2g w _ _ hW
  clear hW r0 r1
  refine (HC.out W hb0).mono ?_
  rintro e w1 ⟨u1, f1, rfl, ho, hn, hb1⟩
  obtain ⟨a3, c3, rfl⟩ := Cd.ow_slice (c := tabC) ho
  have HB := Lib.hid (below_then (below_then hb0 hb1) (below_alloc w1 (.cells #[.slice a3 (appL l nm b row).length c3] 33 (0, 0))))
  clear ho hn hb1 hb0 hz
  go_wp2_with fail
  go_ret
  exact ⟨rfl, HB.out⟩
set_option maxRecDepth 100000 in
set_option maxHeartbeats 1600000 in
theorem impl_applyable (u v : Value) (l : List T3) (nm : ByteArray) (b : Bool) (row : List Int) (S S2 : Nat → Prop) (w : World) (h1 : tabsC.rd w S [u] l) (h2 : rowC.rd w S2 [v] row) (hw : wtS l ≤ 1048577) (hrl : row.length ≤ 1048577) (hs : nm.size ≤ 1048576) :
    Calls Try.prog 11 #[.agg #[u], .agg #[.string nm, .bool b, v]] w fun e w' => e = .returned (.bool (appOk l nm b row)) ∧ Below w.heap.size w w' := by
  have HC := Lib.hid (fun w' (hb : Below w.heap.size w w') => impl_apply u v l nm b row S S2 w' (Cd.later h1 hb) (Cd.later h2 hb) hw hrl hs)
  obtain ⟨a1, cap1, rfl, hl1⟩ := Cd.sl_form h1
  obtain ⟨a2, cap2, rfl, hl2⟩ := row_form h2
  clear h1 h2
  generalize appOk l nm b row = ok at *
  go_enter Try.func11, Try.ntmps11
  go_wp2_with fail
  generalize hW : (w.alloc _).alloc _ = W
  obtain ⟨r0, r1, hz, hb0⟩ := start2g w _ _ hW
  clear hW r0 r1
  refine (HC.out W hb0).mono ?_
  rintro e w1 ⟨u1, f1, rfl, ho, hn, hb1⟩
  obtain ⟨a3, c3, rfl⟩ := Cd.ow_slice (c := tabC) ho
  have HB := Lib.hid (below_then (below_then hb0 hb1) (below_alloc w1 (.cells #[.slice a3 (appL l nm b row).length c3] 33 (0, 0))))
  clear ho hn hb1 hb0 hz
  go_wp2_with fail
  go_ret
  exact ⟨rfl, HB.out⟩
end Go.Proofs.Ytdjgaffiildijab.UpdApp

namespace Go.Proofs.Ytdjgaffiildijab.DbOpen
open Go Go.RowKit Byt Ints IntsLaw Cd Rows2 Fits TabOpen TabElem SlTable Db

set_option maxRecDepth 100000 in
theorem fits_tabs : Fits Try.prog ltabsC 22 := fits_sl Try.underlying22 fits_table (by kernel_rfl)
set_option maxRecDepth 100000 in
theorem fits_db : Fits Try.prog ltabsC 24 := fits_struct Try.underlying24 (fits_one fits_tabs rfl) (by kernel_rfl)
set_option maxRecDepth 100000 in
theorem open_db {H : Type} {enc : TypeId × Value → H} {W : World} {base : Nat} {v : Value} {d : DataW H} {ps : List MemPlace}
    (hval : Value.okWide Try.prog W .any base 24 v) (h : DataW.Trod enc Try.prog W 0 (fun _ => true) true 24 v d ps) :
    ∃ (u : Value) (l : List T3), v = .agg #[u] ∧ tabsC.rd W (· < W.heap.size) [u] l := by
  obtain ⟨cs, l, rfl, hT⟩ := open_st Try.underlying24 fits_db hval h
  have hl := ltabsC.len hT
  obtain ⟨cs⟩ := cs
  match cs, hl, hT with
  | [u], _, hT => exact ⟨u, l, rfl, hT⟩
end Go.Proofs.Ytdjgaffiildijab.DbOpen

namespace Go.Proofs.Ytdjgaffiildijab.WalkIsValidUpdate
open Go Go.RowKit Byt Ints IntsLaw Cd Rows2 Tab TabSpec Exact SlMath TabOpen TabElem Mark SlTable Db DbExact Upd
set_option maxRecDepth 100000 in
set_option maxHeartbeats 6400000 in
theorem walk (v0 : Value) (l0 : List T3) (n1 : ByteArray) (b1 : Bool) (v1 : Value) (l1 : List Int) (B0 : Bool) (w : World) (hr0 : tabsC.rd w (· < w.heap.size) [v0] l0) (hs1 : n1.size ≤ maxLen) (hr1 : rowC.rd w (· < w.heap.size) [v1] l1)
    (HS : wtS l0 ≤ 1048576 → updWt n1 l1 ≤ 1048576 → ∀ (v0 : Value) (S0 : Nat → Prop) (v1 : Value) (S1 : Nat → Prop) (w' : World), tabsC.rd w' S0 [v0] l0 → rowC.rd w' S1 [v1] l1 → Calls Try.prog 8 #[.agg #[v0], .agg #[.string n1, .bool b1, v1]] w' fun e w'' => e = .returned (.bool B0) ∧ Below w'.heap.size w' w'')
    (HI : wtS l0 ≤ 1048576 → updWt n1 l1 ≤ 1048576 → ∀ (v0 : Value) (S0 : Nat → Prop) (v1 : Value) (S1 : Nat → Prop) (w' : World), tabsC.rd w' S0 [v0] l0 → rowC.rd w' S1 [v1] l1 → Calls Try.prog 11 #[.agg #[v0], .agg #[.string n1, .bool b1, v1]] w' fun e w'' => e = .returned (.bool B0) ∧ Below w'.heap.size w' w'') :
    Calls Try.prog 3 #[.agg #[v0], .agg #[.string n1, .bool b1, v1]] w fun e w' => e = .returned (.bool true) ∧ Below w.heap.size w w' := by
  have HSh := Lib.hid HS
  have HIh := Lib.hid HI
  clear HS HI
  have HR0 := Lib.hid hr0
  obtain ⟨q0, c0, rfl, hl0⟩ := Cd.sl_form hr0
  clear hr0
  have HR1 := Lib.hid hr1
  obtain ⟨q1, c1, rfl, hl1, _⟩ := (row_ri hr1).1
  clear hr1
  go_enter Try.func3, Try.ntmps3
  go_wp2_with fail
  generalize hW0 : (w.alloc _).alloc _ = W0
  obtain ⟨rb0, rb1, z0, hb0⟩ := start2g w _ _ hW0
  have HB := Lib.hid hb0
  have LB0 := Lib.hid (Loc1.of rb0)
  have LB1 := Lib.hid (Loc3.of rb1)
  replace HR0 := Lib.hid (Cd.later HR0.out hb0)
  replace HR1 := Lib.hid (Cd.later HR1.out hb0)
  clear hW0 hb0 rb0 rb1
  refine (sz_db _ l0 _ 1048576 W0 HR0.out (by omega)).mono ?_
  rintro e W0z ⟨rfl, hbz0⟩
  replace HB := Lib.hid (below_then HB.out hbz0)
  replace LB0 := Lib.hid (LB0.out.later hbz0)
  replace LB1 := Lib.hid (LB1.out.later hbz0)
  replace HR0 := Lib.hid (Cd.later HR0.out hbz0)
  replace HR1 := Lib.hid (Cd.later HR1.out hbz0)
  have zz0 := hbz0.size
  clear hbz0
  by_cases hk0 : wtS l0 ≤ 1048576
  case neg =>
    rw [left_no hk0]
    clear hk0
    go_wp2_with fail
    go_ret
    exact ⟨rfl, HB.out⟩
  rw [left_yes hk0]
  have HL0 := Lib.hid hk0
  have HX0 := Lib.hid (show wtS l0 ≤ 1048576 by have := HL0.out; omega)
  have hge0 : ¬ (((1048576 - wtS l0 : Nat) : Int) < 0) := by omega
  clear hk0
  have y0a := LB1.out.c0
  have y0b := LB1.out.c1
  have y0c := LB1.out.c2
  go_wp2_with fail
  clear y0a y0b y0c
  refine (sz_upd n1 b1 _ l1 _ (1048576 - wtS l0) W0z hs1 HR1.out (by omega)).mono ?_
  rintro e W1z ⟨rfl, hbz1⟩
  replace HB := Lib.hid (below_then HB.out hbz1)
  replace LB0 := Lib.hid (LB0.out.later hbz1)
  replace LB1 := Lib.hid (LB1.out.later hbz1)
  replace HR0 := Lib.hid (Cd.later HR0.out hbz1)
  replace HR1 := Lib.hid (Cd.later HR1.out hbz1)
  have zz1 := hbz1.size
  clear hbz1
  by_cases hk1 : updWt n1 l1 ≤ (1048576 - wtS l0)
  case neg =>
    rw [left_no hk1]
    clear hk1
    go_wp2_with fail
    go_ret
    exact ⟨rfl, HB.out⟩
  rw [left_yes hk1]
  have HL1 := Lib.hid hk1
  have HX1 := Lib.hid (show updWt n1 l1 ≤ 1048576 by have := HL1.out; omega)
  have hge1 : ¬ ((((1048576 - wtS l0) - updWt n1 l1 : Nat) : Int) < 0) := by omega
  clear hk1
  have HB0 := Lib.hid (show w.heap.size ≤ W1z.heap.size from HB.out.size)
  have hz0 : w.heap.size ≤ W1z.heap.size := HB.out.size
  have y0a := LB0.out.c0
  have y0d := LB0.out.lt
  have y1a := LB1.out.c0
  have y1b := LB1.out.c1
  have y1c := LB1.out.c2
  have y1d := LB1.out.lt
  go_upto_region 8 with fail
  clear y0a y0d y1a y1b y1c y1d
  go_cut [6] (fun s6 wx => s6 = .bool B0 ∧ W1z.heap.size ≤ wx.heap.size ∧ Below w.heap.size w wx ∧ Loc1 wx (w.heap.size) (.slice q0 l0.length c0) ∧ Loc3 wx (w.heap.size + 1) (.string n1) (.bool b1) (.slice q1 l1.length c1) ∧ tabsC.rd wx (· < w.heap.size) [.slice q0 l0.length c0] l0 ∧ rowC.rd wx (· < w.heap.size) [.slice q1 l1.length c1] l1)
  case first =>
    have y0a := LB0.out.c0
    have y1a := LB1.out.c0
    have y1b := LB1.out.c1
    have y1c := LB1.out.c2
    go_region_law (first | (go_simp; go_at_call_of 9 (Value.agg #[.slice q0 l0.length c0]); refine (to_db _ l0 _ W1z.drew (rd_drew HR0.out) (by have := HX0.out; omega)).mono ?_; rintro e wq0 ⟨tv0, tf0, rfl, tow, tnd, hbq⟩; (have hq := undrew hbq); (have hqz0 := hq.size); (have D0HB := Lib.hid (below_then HB.out hq)); (have D0LB0 := Lib.hid (LB0.out.later hq)); (have D0LB1 := Lib.hid (LB1.out.later hq)); (have D0HR0 := Lib.hid (Cd.later HR0.out hq)); (have D0HR1 := Lib.hid (Cd.later HR1.out hq)); (have D0O0 := Lib.hid tow); (have u01a := D0LB1.out.c0); (have u01b := D0LB1.out.c1); (have u01c := D0LB1.out.c2); clear hbq hq tow tnd) | (go_simp; go_at_call_of 10 (Value.agg #[.string n1, .bool b1, .slice q1 l1.length c1]); refine (to_upd n1 b1 _ l1 _ wq0 D0HR1.out (by have := HX1.out; unfold updWt at this; omega)).mono ?_; rintro e wq1 ⟨tv1, tf1, rfl, tow, tnd, hbq⟩; (have hq := hbq); (have hqz1 := hq.size); (have D1HB := Lib.hid (below_then D0HB.out hq)); (have D1LB0 := Lib.hid (D0LB0.out.later hq)); (have D1LB1 := Lib.hid (D0LB1.out.later hq)); (have D1HR0 := Lib.hid (Cd.later D0HR0.out hq)); (have D1HR1 := Lib.hid (Cd.later D0HR1.out hq)); (have D1O0 := Lib.hid (Cd.ow_later D0O0.out hq)); (have D1O1 := Lib.hid tow); clear hbq hq tow tnd) | (go_simp; go_at_call 8; refine (HSh.out HX0.out HX1.out _ _ _ _ wq1 (tabsC.ow_rd D1O0.out) (rowC.ow_rd D1O1.out)).mono ?_; rintro e wp ⟨rfl, hq⟩; (have hqzz := hq.size); (have KHB := Lib.hid (below_then D1HB.out hq)); (have KLB0 := Lib.hid (D1LB0.out.later hq)); (have KLB1 := Lib.hid (D1LB1.out.later hq)); (have KHR0 := Lib.hid (Cd.later D1HR0.out hq)); (have KHR1 := Lib.hid (Cd.later D1HR1.out hq)); clear hq))
    all_goals
      go_wp2_with fail
      go_meet
      exact ⟨rfl, by omega, KHB.out, KLB0.out, KLB1.out, KHR0.out, KHR1.out⟩
  case rest =>
    obtain ⟨rfl, zW1, c_HB, c_LB0, c_LB1, c_HR0, c_HR1⟩ := hcut
    clear HB LB0 LB1 HR0 HR1
    have HB := Lib.hid c_HB
    have LB0 := Lib.hid c_LB0
    have LB1 := Lib.hid c_LB1
    have HR0 := Lib.hid c_HR0
    have HR1 := Lib.hid c_HR1
    clear c_HB c_LB0 c_LB1 c_HR0 c_HR1
    generalize wc = W1 at *
    have y0a := LB0.out.c0
    have y0d := LB0.out.lt
    go_wp2_with fail
    clear y0a y0d
    refine (to_db _ l0 _ W1 HR0.out (by have := HX0.out; omega)).mono ?_
    rintro e W2 ⟨x0_v, x0_f, rfl, x0_o, x0_n, hbx⟩
    obtain ⟨x0_a, x0_c, rfl⟩ := Cd.ow_slice (c := tabC) x0_o
    replace HB := Lib.hid (below_then HB.out hbx)
    replace LB0 := Lib.hid (LB0.out.later hbx)
    replace LB1 := Lib.hid (LB1.out.later hbx)
    replace HR0 := Lib.hid (Cd.later HR0.out hbx)
    replace HR1 := Lib.hid (Cd.later HR1.out hbx)
    have zW2 := hbx.size
    clear hbx
    have x0_O := Lib.hid x0_o
    have x0_N := Lib.hid x0_n
    have x0_B := Lib.hid (bound_of x0_o)
    clear x0_o x0_n
    have y0a := LB1.out.c0
    have y0b := LB1.out.c1
    have y0c := LB1.out.c2
    have y0d := LB1.out.lt
    go_wp2_with fail
    clear y0a y0b y0c y0d
    generalize hg : World.alloc W2 _ = W3
    obtain ⟨rg, zW3, hbg⟩ := start1 W2 _ hg
    clear hg
    replace HB := Lib.hid (below_then HB.out hbg)
    replace LB0 := Lib.hid (LB0.out.later hbg)
    replace LB1 := Lib.hid (LB1.out.later hbg)
    replace HR0 := Lib.hid (Cd.later HR0.out hbg)
    replace HR1 := Lib.hid (Cd.later HR1.out hbg)
    replace x0_O := Lib.hid (Cd.ow_later x0_O.out hbg)
    have Lx0 := Lib.hid (Loc1.of rg)
    clear hbg rg
    refine (to_upd n1 b1 _ l1 _ W3 HR1.out (by have := HX1.out; unfold updWt at this; omega)).mono ?_
    rintro e W4 ⟨x1_v, x1_f, rfl, x1_o, x1_n, hbx⟩
    obtain ⟨x1_a, x1_c, rfl⟩ := Cd.ow_slice x1_o
    replace HB := Lib.hid (below_then HB.out hbx)
    replace LB0 := Lib.hid (LB0.out.later hbx)
    replace LB1 := Lib.hid (LB1.out.later hbx)
    replace HR0 := Lib.hid (Cd.later HR0.out hbx)
    replace HR1 := Lib.hid (Cd.later HR1.out hbx)
    replace x0_O := Lib.hid (Cd.ow_later x0_O.out hbx)
    replace Lx0 := Lib.hid (Lx0.out.later hbx)
    have zW4 := hbx.size
    clear hbx
    have x1_O := Lib.hid x1_o
    have x1_N := Lib.hid x1_n
    have x1_B := Lib.hid (bound_of x1_o)
    clear x1_o x1_n
    have y0a := Lx0.out.c0
    have y0d := Lx0.out.lt
    go_wp2_with fail
    clear y0a y0d
    generalize hg : World.alloc W4 _ = W5
    obtain ⟨rg, zW5, hbg⟩ := start1 W4 _ hg
    clear hg
    replace HB := Lib.hid (below_then HB.out hbg)
    replace LB0 := Lib.hid (LB0.out.later hbg)
    replace LB1 := Lib.hid (LB1.out.later hbg)
    replace HR0 := Lib.hid (Cd.later HR0.out hbg)
    replace HR1 := Lib.hid (Cd.later HR1.out hbg)
    replace x0_O := Lib.hid (Cd.ow_later x0_O.out hbg)
    replace Lx0 := Lib.hid (Lx0.out.later hbg)
    replace x1_O := Lib.hid (Cd.ow_later x1_O.out hbg)
    have Lx1 := Lib.hid (Loc3.of rg)
    clear hbg rg
    refine (HIh.out HX0.out HX1.out _ _ _ _ W5 (tabsC.ow_rd x0_O.out) (rowC.ow_rd x1_O.out)).mono ?_
    rintro e W6 ⟨rfl, hbx⟩
    replace HB := Lib.hid (below_then HB.out hbx)
    replace LB0 := Lib.hid (LB0.out.later hbx)
    replace LB1 := Lib.hid (LB1.out.later hbx)
    replace HR0 := Lib.hid (Cd.later HR0.out hbx)
    replace HR1 := Lib.hid (Cd.later HR1.out hbx)
    replace x0_O := Lib.hid (Cd.ow_later x0_O.out hbx)
    replace Lx0 := Lib.hid (Lx0.out.later hbx)
    replace x1_O := Lib.hid (Cd.ow_later x1_O.out hbx)
    replace Lx1 := Lib.hid (Lx1.out.later hbx)
    have zW6 := hbx.size
    clear hbx
    have y0a := Lx0.out.c0
    have y0d := Lx0.out.lt
    have y1a := LB0.out.c0
    have y1d := LB0.out.lt
    go_upto_region 14 with fail
    clear y0a y0d y1a y1d
    go_cut [39] (fun s wx => s = .bool false ∧ W6.heap.size ≤ wx.heap.size ∧ Below w.heap.size w wx ∧ Loc1 wx (w.heap.size) (.slice q0 l0.length c0) ∧ Loc3 wx (w.heap.size + 1) (.string n1) (.bool b1) (.slice q1 l1.length c1) ∧ tabsC.rd wx (· < w.heap.size) [.slice q0 l0.length c0] l0 ∧ rowC.rd wx (· < w.heap.size) [.slice q1 l1.length c1] l1 ∧ tabsC.ow wx (W1.heap.size) [.slice x0_a l0.length x0_c] l0 x0_f ∧ Loc1 wx (W2.heap.size) (.slice x0_a l0.length x0_c) ∧ rowC.ow wx (W3.heap.size) [.slice x1_a l1.length x1_c] l1 x1_f ∧ Loc3 wx (W4.heap.size) (.string n1) (.bool b1) (.slice x1_a l1.length x1_c))
    case first =>
      have HT := Lib.hid (to_db _ l0 _ W6.drew (rd_drew HR0.out) (by have := HX0.out; omega))
      have y0a := Lx0.out.c0
      have y1a := LB0.out.c0
      go_region_law (first | (go_simp; go_at_call 9; refine HT.out.mono ?_; rintro e wq ⟨tv, tf, rfl, tow, tnd, hbq⟩; (have hq := undrew hbq); (have hqz := hq.size); (have GHB := Lib.hid (below_then HB.out hq)); (have GLB0 := Lib.hid (LB0.out.later hq)); (have GLB1 := Lib.hid (LB1.out.later hq)); (have GHR0 := Lib.hid (Cd.later HR0.out hq)); (have GHR1 := Lib.hid (Cd.later HR1.out hq)); (have Gx0_O := Lib.hid (Cd.ow_later x0_O.out hq)); (have GLx0 := Lib.hid (Lx0.out.later hq)); (have Gx1_O := Lib.hid (Cd.ow_later x1_O.out hq)); (have GLx1 := Lib.hid (Lx1.out.later hq)); (have TO := Lib.hid tow); (have k0a := GLx0.out.c0); clear hbq hq tow tnd) | (go_simp; go_at_call 12; refine (eq_db _ _ l0 _ _ wq (tabsC.ow_rd Gx0_O.out) (tabsC.ow_rd TO.out)).mono ?_; rintro e wp ⟨rfl, hq2⟩; (have hqz2 := hq2.size); (have KHB := Lib.hid (below_then GHB.out hq2)); (have KLB0 := Lib.hid (GLB0.out.later hq2)); (have KLB1 := Lib.hid (GLB1.out.later hq2)); (have KHR0 := Lib.hid (Cd.later GHR0.out hq2)); (have KHR1 := Lib.hid (Cd.later GHR1.out hq2)); (have Kx0_O := Lib.hid (Cd.ow_later Gx0_O.out hq2)); (have KLx0 := Lib.hid (GLx0.out.later hq2)); (have Kx1_O := Lib.hid (Cd.ow_later Gx1_O.out hq2)); (have KLx1 := Lib.hid (GLx1.out.later hq2)); clear hq2))
      all_goals
        go_wp2_with fail
        go_meet
        exact ⟨rfl, by omega, KHB.out, KLB0.out, KLB1.out, KHR0.out, KHR1.out, Kx0_O.out, KLx0.out, Kx1_O.out, KLx1.out⟩
    case rest =>
      obtain ⟨rfl, zW7, c_HB, c_LB0, c_LB1, c_HR0, c_HR1, c_x0_O, c_Lx0, c_x1_O, c_Lx1⟩ := hcut
      clear HB LB0 LB1 HR0 HR1 x0_O Lx0 x1_O Lx1
      have HB := Lib.hid c_HB
      have LB0 := Lib.hid c_LB0
      have LB1 := Lib.hid c_LB1
      have HR0 := Lib.hid c_HR0
      have HR1 := Lib.hid c_HR1
      have x0_O := Lib.hid c_x0_O
      have Lx0 := Lib.hid c_Lx0
      have x1_O := Lib.hid c_x1_O
      have Lx1 := Lib.hid c_Lx1
      clear c_HB c_LB0 c_LB1 c_HR0 c_HR1 c_x0_O c_Lx0 c_x1_O c_Lx1
      generalize wc = W7 at *
      have y0a := Lx1.out.c0
      have y0b := Lx1.out.c1
      have y0c := Lx1.out.c2
      have y0d := Lx1.out.lt
      have y1a := LB1.out.c0
      have y1b := LB1.out.c1
      have y1c := LB1.out.c2
      have y1d := LB1.out.lt
      go_upto_region 16 with fail
      clear y0a y0b y0c y0d y1a y1b y1c y1d
      go_cut [44] (fun s wx => s = .bool false ∧ W7.heap.size ≤ wx.heap.size ∧ Below w.heap.size w wx ∧ Loc1 wx (w.heap.size) (.slice q0 l0.length c0) ∧ Loc3 wx (w.heap.size + 1) (.string n1) (.bool b1) (.slice q1 l1.length c1) ∧ tabsC.rd wx (· < w.heap.size) [.slice q0 l0.length c0] l0 ∧ rowC.rd wx (· < w.heap.size) [.slice q1 l1.length c1] l1 ∧ tabsC.ow wx (W1.heap.size) [.slice x0_a l0.length x0_c] l0 x0_f ∧ Loc1 wx (W2.heap.size) (.slice x0_a l0.length x0_c) ∧ rowC.ow wx (W3.heap.size) [.slice x1_a l1.length x1_c] l1 x1_f ∧ Loc3 wx (W4.heap.size) (.string n1) (.bool b1) (.slice x1_a l1.length x1_c))
      case first =>
        have HT := Lib.hid (to_upd n1 b1 _ l1 _ W7.drew (rd_drew HR1.out) (by have := HX1.out; unfold updWt at this; omega))
        have y0a := Lx1.out.c0
        have y1a := LB1.out.c0
        have y0b := Lx1.out.c1
        have y1b := LB1.out.c1
        have y0c := Lx1.out.c2
        have y1c := LB1.out.c2
        go_region_law (first | (go_simp; go_at_call 10; refine HT.out.mono ?_; rintro e wq ⟨tv, tf, rfl, tow, tnd, hbq⟩; (have hq := undrew hbq); (have hqz := hq.size); (have GHB := Lib.hid (below_then HB.out hq)); (have GLB0 := Lib.hid (LB0.out.later hq)); (have GLB1 := Lib.hid (LB1.out.later hq)); (have GHR0 := Lib.hid (Cd.later HR0.out hq)); (have GHR1 := Lib.hid (Cd.later HR1.out hq)); (have Gx0_O := Lib.hid (Cd.ow_later x0_O.out hq)); (have GLx0 := Lib.hid (Lx0.out.later hq)); (have Gx1_O := Lib.hid (Cd.ow_later x1_O.out hq)); (have GLx1 := Lib.hid (Lx1.out.later hq)); (have TO := Lib.hid tow); (have k0a := GLx1.out.c0); (have k0b := GLx1.out.c1); (have k0c := GLx1.out.c2); clear hbq hq tow tnd) | (go_simp; go_at_call 13; refine (eq_upd n1 b1 _ _ l1 _ _ wq (rowC.ow_rd Gx1_O.out) (rowC.ow_rd TO.out)).mono ?_; rintro e wp ⟨rfl, hq2⟩; (have hqz2 := hq2.size); (have KHB := Lib.hid (below_then GHB.out hq2)); (have KLB0 := Lib.hid (GLB0.out.later hq2)); (have KLB1 := Lib.hid (GLB1.out.later hq2)); (have KHR0 := Lib.hid (Cd.later GHR0.out hq2)); (have KHR1 := Lib.hid (Cd.later GHR1.out hq2)); (have Kx0_O := Lib.hid (Cd.ow_later Gx0_O.out hq2)); (have KLx0 := Lib.hid (GLx0.out.later hq2)); (have Kx1_O := Lib.hid (Cd.ow_later Gx1_O.out hq2)); (have KLx1 := Lib.hid (GLx1.out.later hq2)); clear hq2))
        all_goals
          go_wp2_with fail
          go_meet
          exact ⟨rfl, by omega, KHB.out, KLB0.out, KLB1.out, KHR0.out, KHR1.out, Kx0_O.out, KLx0.out, Kx1_O.out, KLx1.out⟩
      case rest =>
        obtain ⟨rfl, zW8, c_HB, c_LB0, c_LB1, c_HR0, c_HR1, c_x0_O, c_Lx0, c_x1_O, c_Lx1⟩ := hcut
        clear HB LB0 LB1 HR0 HR1 x0_O Lx0 x1_O Lx1
        have HB := Lib.hid c_HB
        have LB0 := Lib.hid c_LB0
        have LB1 := Lib.hid c_LB1
        have HR0 := Lib.hid c_HR0
        have HR1 := Lib.hid c_HR1
        have x0_O := Lib.hid c_x0_O
        have Lx0 := Lib.hid c_Lx0
        have x1_O := Lib.hid c_x1_O
        have Lx1 := Lib.hid c_Lx1
        clear c_HB c_LB0 c_LB1 c_HR0 c_HR1 c_x0_O c_Lx0 c_x1_O c_Lx1
        generalize wc = W8 at *
        go_wp2_with fail
        go_ret
        exact ⟨rfl, HB.out⟩
end Go.Proofs.Ytdjgaffiildijab.WalkIsValidUpdate
