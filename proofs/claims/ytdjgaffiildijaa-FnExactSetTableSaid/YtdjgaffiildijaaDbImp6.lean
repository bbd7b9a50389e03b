/- Databases: the program's SetTable. -/
import Derived.Test.YtdjgaffiildijaaDbImp5
namespace Go.Proofs.Ytdjgaffiildijaa.DbImp
open Go Go.RowKit Byt Ints IntsLaw Cd Rows2 Tab SlMath TabOpen TabElem SlTable Db TabSpec DbMath TabImp DbMap DbExact DbSort
open Go.Maps (Keyed string_keyed IsMap Tidy)
open DbSpec (LaterD drewD row1 rows_cell name_cell at3)
open DbAcc (DbAns)

theorem Stand.set {F : ByteArray → Option TabV} {G : ByteArray → Option T3} {S S2 : Nat → Prop} {w : World} (h : Stand F G S w) {t : TabV} {T : T3} (hn : t.nm = T.1) (hw : wtT T ≤ 1048577) (hr : tabC.rd w S2 t.us T) : Stand (setF F T.1 t) (setG G T.1 T) (fun b => S b ∨ S2 b) w := fun x => by
  unfold setF setG
  by_cases e : x = T.1
  · rw [if_pos e, if_pos e]; exact .inr ⟨t, T, rfl, rfl, hn.trans e.symm, hw, tabC.mono hr fun _ _ q => .inr q⟩
  · rw [if_neg e, if_neg e]
    exact (h x).imp id fun ⟨t, U, h1, h2, h3, h4, h5⟩ => ⟨t, U, h1, h2, h3, h4, tabC.mono h5 fun _ _ q => .inl q⟩
theorem set_eq {l R : List T3} {T : T3} (ha : AscP l) (hR : AscP R) (h : ∀ U, U ∈ R ↔ setG (findN l) T.1 T U.1 = some U) : R = putL T l := by
  refine asc_unique hR (asc_putL ha) fun U => ?_
  rw [h, mem_putL ha]
  unfold setG
  by_cases e : U.1 = T.1
  · rw [if_pos e]
    constructor
    · intro q; injection q with q; exact .inl q.symm
    · rintro (q | ⟨_, q⟩)
      · rw [q]
      · exact absurd e q
  · rw [if_neg e]
    constructor
    · exact fun q => .inr ⟨(findN_some q).1, e⟩
    · rintro (q | ⟨q, _⟩)
      · exact absurd (by rw [q]) e
      · exact findN_of_asc ha q
theorem put_size {w : World} {S : Nat → Prop} {a : Option Addr} {l : List T3} {ts : List TabV} (h : HeldT w S a l ts) (ha : AscP l) (T : T3) : (if (entF ts T.1).isSome then l.length else l.length + 1) = (putL T l).length := by
  rw [len_putL ha]
  rcases entF_find h T.1 with ⟨q1, q2⟩ | ⟨U, t, q1, q2, _⟩ <;> rw [q1, q2] <;> rfl

set_option maxRecDepth 100000 in
set_option maxHeartbeats 3200000 in
theorem impl_set (u : Value) (l : List T3) (T : T3) (at_ : Option Addr) (cc : Nat) (S S2 : Nat → Prop) (w : World) (h1 : tabsC.rd w S [u] l) (h2 : tabC.rd w S2 [.string T.1, .int .i64 T.2.1, .slice at_ T.2.2.length cc] T) (hw : wtS l ≤ 1048577) (hwt : wtT T ≤ 1048577) :
    Calls Try.prog 55 #[.agg #[u], .agg #[.string T.1, .int .i64 T.2.1, .slice at_ T.2.2.length cc]] w fun e w' => DbAns (setL l T) (setOk l T) w e w' := by
  obtain ⟨a1, cap1, rfl, hl1⟩ := Cd.sl_form h1
  obtain ⟨ts, ht⟩ := held_of h1
  have HT := Lib.hid (fun w' (hb : Below w.heap.size w w') => HeldT.later ht hb)
  have HNA := Lib.hid (fun w' (hb : Below w.heap.size w w') => impl_byname a1 cap1 l ts S w' (Cd.later h1 hb) (HeldT.later ht hb))
  have HDC := Lib.hid (fun w' (hb : Below w.heap.size w w') => impl_dbcopy _ l S w' (Cd.later h1 hb) hw)
  have HV := Lib.hid (fun w' (hb : Below w.heap.size w w') => impl_dbok _ l S w' (Cd.later h1 hb))
  have HVT := Lib.hid (fun w' (hb : Below w.heap.size w w') => val_elem_i _ T S2 w' (Cd.later h2 hb))
  have HRT := Lib.hid (fun w' (hb : Below w.heap.size w w') => Cd.later h2 hb)
  have hns : T.1.size ≤ maxLen := by obtain ⟨u, _, h, _⟩ := tab_cells h2; exact h
  have HK := Lib.hid (key_of hns)
  have HWT := Lib.hid hw
  have HWT2 := Lib.hid hwt
  clear h1 h2 ht hw hwt hns
  go_enter Try.func55, Try.ntmps55
  go_wp2_with fail
  generalize hW : ((w.alloc _).alloc _).alloc _ = W
  obtain ⟨r0, r1, r2, hz, hb0⟩ := start3 w _ _ _ hW
  have HC0 := Lib.hid (Loc1.of r0)
  have HC1 := Lib.hid (Loc3.of r1)
  have HC2 := Lib.hid (Loc1.of r2)
  have HZZ := Lib.hid hz
  have HB0 := Lib.hid hb0
  clear hW r0 r1 r2 hz hb0
  refine (HNA.out _ HB0.out).mono ?_
  rintro e w1 ⟨B, D, n, rfl, hBl, hown, hn6, hm, hb1⟩
  have HB1 := Lib.hid (below_then HB0.out hb1)
  have HC0a := Lib.hid (HC0.out.later hb1)
  have HC1a := Lib.hid (HC1.out.later hb1)
  have HC2a := Lib.hid (HC2.out.later hb1)
  have HBL := Lib.hid (show w.heap.size + 3 ≤ B by have := HZZ.out; omega)
  have HM := Lib.hid (hm.put T.1 ⟨T.1, T.2.1, at_, T.2.2.length, cc⟩)
  have q0 := HC0a.out.c0
  have q1 := HC1a.out.c0
  have q2 := HC1a.out.c1
  have q3 := HC1a.out.c2
  clear hb1 hm hBl
  go_wp2_with (first
    | (at_mapUpdate; refine wpList_mapUpdate_own _ rfl _ _ _ 85 rfl 9 28 law Try.underlying85 tabR B n D rfl hown (by unfold maxLen; omega) _ _ (keyL T.1) rfl rfl HK.out _ [] (tabR_mk ⟨T.1, T.2.1, at_, T.2.2.length, cc⟩) ?_; intro w2 hown2 hg2; (have q0' := (HC0a.out.touched (touch_grown hg2) (by have := HBL.out; simp; omega)).c0); go_frame))
  have HO2 := Lib.hid (show Owns w2 B (n + 1) (D.put (keyL T.1) (.held (TabV.val ⟨T.1, T.2.1, at_, T.2.2.length, cc⟩))) from hown2)
  have htg := touch_grown hg2
  have HB2 := Lib.hid (Cd.Touch.below HB1.out htg (fun b hb => by rw [List.mem_singleton.1 hb]; have := HBL.out; omega))
  have HC0b := Lib.hid (HC0a.out.touched htg (by have := HBL.out; simp; omega))
  have HC1b := Lib.hid (HC1a.out.touched htg (by have := HBL.out; simp; omega))
  have HC2b := Lib.hid (HC2a.out.touched htg (by have := HBL.out; simp; omega))
  clear hown hown2 hg2 htg q0 q1 q2 q3
  refine (HV.out _ HB2.out).mono ?_
  rintro e w3 ⟨rfl, hb3⟩
  have HB3 := Lib.hid (below_then HB2.out hb3)
  have HC0c := Lib.hid (HC0b.out.later hb3)
  have HC1c := Lib.hid (HC1b.out.later hb3)
  have HC2c := Lib.hid (HC2b.out.later hb3)
  have HO3 := Lib.hid (Owns.later HO2.out hb3)
  clear hb3 q0'
  have q0 := HC0c.out.c0
  have q1 := HC1c.out.c0
  have q2 := HC1c.out.c1
  have q3 := HC1c.out.c2
  cases hv : dbOk l
  · have HNO := Lib.hid (show setOk l T = false by unfold setOk; rw [hv]; rfl)
    go_wp2_with fail
    refine (HDC.out _ HB3.out).mono ?_
    rintro e w9 ⟨a9, c9, f9, rfl, ho9, hn9, hb9⟩
    have HC9 := Lib.hid (HC2c.out.later hb9)
    have y0 := HC9.out.c0
    have y1 := HC9.out.f0
    have HA := Lib.hid (DbAns.copy (b := setOk l T) (l' := setL l T) (Y := w.heap.size + 2) ho9 hn9 HB3.out hb9 (by omega) (World.block_lt_of_cell? _ _ HC2c.out.c0) (by unfold setL; rw [HNO.out]; rfl) HNO.out)
    clear ho9 hn9 hb9
    go_wp2_with fail
    have k0 : (w9.setCell ⟨w.heap.size + 2, 0, none⟩ (.slice a9 l.length c9)).cell? ⟨w.heap.size + 2, 0, none⟩ = some (.slice a9 l.length c9) := World.cell?_setCell_same _ _ _ y0
    refine bodyPost_ret (v := .tuple #[.agg #[.slice a9 l.length c9], .bool false]) (by simp [results, Try.results55, go_sem, k0]) rfl ?_
    exact HA.out
  have HP := Lib.hid (dbOk_iff.1 hv)
  have HVV := Lib.hid hv
  have HM2 := Lib.hid (show MapIs (D.put (keyL T.1) (.held (TabV.val ⟨T.1, T.2.1, at_, T.2.2.length, cc⟩))) (setF (entF ts) T.1 ⟨T.1, T.2.1, at_, T.2.2.length, cc⟩) (putL T l).length from by
    have h := HM.out
    rw [hv] at h
    exact h.eq rfl (put_size (HT.out w (Below.refl _ _)) HP.out.2.2 T))
  clear hv HM
  go_wp2_with fail
  refine (HVT.out _ HB3.out).mono ?_
  rintro e w4 ⟨rfl, hb4⟩
  have HB4 := Lib.hid (below_then HB3.out hb4)
  have HC0d := Lib.hid (HC0c.out.later hb4)
  have HC2d := Lib.hid (HC2c.out.later hb4)
  have HO4 := Lib.hid (Owns.later HO3.out hb4)
  clear hb4 q0 q1 q2 q3
  have q0 := HC0d.out.c0
  cases hT : okT T
  · have HNO := Lib.hid (show setOk l T = false by unfold setOk; rw [hT]; simp)
    go_wp2_with fail
    refine (HDC.out _ HB4.out).mono ?_
    rintro e w9 ⟨a9, c9, f9, rfl, ho9, hn9, hb9⟩
    have HC9 := Lib.hid (HC2d.out.later hb9)
    have y0 := HC9.out.c0
    have y1 := HC9.out.f0
    have HA := Lib.hid (DbAns.copy (b := setOk l T) (l' := setL l T) (Y := w.heap.size + 2) ho9 hn9 HB4.out hb9 (by omega) (World.block_lt_of_cell? _ _ HC2d.out.c0) (by unfold setL; rw [HNO.out]; rfl) HNO.out)
    clear ho9 hn9 hb9
    go_wp2_with fail
    have k0 : (w9.setCell ⟨w.heap.size + 2, 0, none⟩ (.slice a9 l.length c9)).cell? ⟨w.heap.size + 2, 0, none⟩ = some (.slice a9 l.length c9) := World.cell?_setCell_same _ _ _ y0
    refine bodyPost_ret (v := .tuple #[.agg #[.slice a9 l.length c9], .bool false]) (by simp [results, Try.results55, go_sem, k0]) rfl ?_
    exact HA.out
  have HTV := Lib.hid hT
  clear hT
  have hlen := World.ownsMap.len HO4.out Try.underlying85 3
  rw [HM2.out.size] at hlen
  by_cases h6 : (putL T l).length ≤ 6
  case neg =>
    have HNO := Lib.hid (show setOk l T = false by unfold setOk; rw [decide_eq_false h6]; simp)
    have h6' : ((6 : Int) < ((putL T l).length : Int)) = True := by simp only [eq_iff_iff, iff_true]; omega
    have h6'' : (6 < (putL T l).length) = True := by simp only [eq_iff_iff, iff_true]; omega
    generalize (putL T l).length = q at *
    clear h6
    go_wp2_with fail
    refine (HDC.out _ HB4.out).mono ?_
    rintro e w9 ⟨a9, c9, f9, rfl, ho9, hn9, hb9⟩
    have HC9 := Lib.hid (HC2d.out.later hb9)
    have y0 := HC9.out.c0
    have y1 := HC9.out.f0
    have HA := Lib.hid (DbAns.copy (b := setOk l T) (l' := setL l T) (Y := w.heap.size + 2) ho9 hn9 HB4.out hb9 (by omega) (World.block_lt_of_cell? _ _ HC2d.out.c0) (by unfold setL; rw [HNO.out]; rfl) HNO.out)
    clear ho9 hn9 hb9
    go_wp2_with fail
    have k0 : (w9.setCell ⟨w.heap.size + 2, 0, none⟩ (.slice a9 l.length c9)).cell? ⟨w.heap.size + 2, 0, none⟩ = some (.slice a9 l.length c9) := World.cell?_setCell_same _ _ _ y0
    refine bodyPost_ret (v := .tuple #[.agg #[.slice a9 l.length c9], .bool false]) (by simp [results, Try.results55, go_sem, k0]) rfl ?_
    exact HA.out
  have HYES := Lib.hid (show setOk l T = true by unfold setOk; rw [HVV.out, HTV.out, decide_eq_true h6]; rfl)
  have HL6 := Lib.hid h6
  have h6' : ((6 : Int) < ((putL T l).length : Int)) = False := by simp only [eq_iff_iff, iff_false]; omega
  have h6'' : (6 < (putL T l).length) = False := by simp only [eq_iff_iff, iff_false]; omega
  clear h6
  generalize (putL T l).length = q at *
  go_wp2_with fail
  refine (impl_sorted B (n + 1) _ _ _ _ _ w4 HO4.out HM2.out (by have := HL6.out; omega) ((stand_of (HT.out w4 HB4.out) HWT.out).set rfl HWT2.out (HRT.out w4 HB4.out))).mono ?_
  rintro e w5 ⟨R, a5, c5, f5, rfl, ho5, hn5, hR, hmem, hb5⟩
  have HE := Lib.hid (set_eq HP.out.2.2 hR hmem)
  have HC5 := Lib.hid (HC2d.out.later hb5)
  have y0 := HC5.out.c0
  have y1 := HC5.out.f0
  have HO5 := Lib.hid ho5
  have HN5 := Lib.hid hn5
  have HB5 := Lib.hid (below_then HB4.out hb5)
  have HS4 := Lib.hid (World.block_lt_of_cell? _ _ HC2d.out.c0)
  clear ho5 hn5 hb5 hR hmem
  go_wp2_with fail
  have k0 : (w5.setCell ⟨w.heap.size + 2, 0, none⟩ (.slice a5 R.length c5)).cell? ⟨w.heap.size + 2, 0, none⟩ = some (.slice a5 R.length c5) := World.cell?_setCell_same _ _ _ y0
  refine bodyPost_ret (v := .tuple #[.agg #[.slice a5 R.length c5], .bool true]) (by simp [results, Try.results55, go_sem, k0]) rfl ?_
  have e : setL l T = R := by unfold setL; rw [HYES.out, HE.out]; rfl
  refine ⟨.slice a5 R.length c5, f5, by rw [HYES.out], ?_, HN5.out, HB5.out.setCell (by show _ ≤ w.heap.size + 2; omega) _⟩
  rw [e]
  exact ow_setCell ((Cd.sl _ tabC).ow_base HO5.out (by have := HS4.out; omega)) (fun q => by have := ((Cd.sl _ tabC).ow_lt HO5.out _ q).1; have := HS4.out; simp only at *; omega) _
end Go.Proofs.Ytdjgaffiildijaa.DbImp
