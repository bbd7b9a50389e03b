/- Databases: the program's map of tables and its look-up. -/
import Derived.Test.YtnoennmhifmolaaDbMap
import Derived.Test.YtnoennmhifmolaaDbAcc
import Derived.Test.YtnoennmhifmolaaTabImp5
namespace Go.Proofs.Ytnoennmhifmolaa.DbImp
open Go Go.RowKit Byt Ints IntsLaw Cd Rows2 Tab SlMath TabOpen TabElem SlTable Db TabSpec DbMath TabImp DbMap DbExact
open Go.Maps (Keyed string_keyed IsMap Tidy)
open DbSpec (LaterD drewD row1 rows_cell name_cell lkT lk_none lk_some LookAns zeroT)

theorem law : Keyed Try.prog 9 := string_keyed Try.underlying9
theorem zeroE (w : World) : (zeroValue 59).run Try.prog w = .ok (.agg #[.string ⟨#[]⟩, .int .i64 0, .slice none 0 0]) w := by kernel_rfl
theorem key_of {s : ByteArray} (h : s.size ≤ maxLen) : keyOf Try.prog 9 (.string s) = some (keyL s) := WideMaps.keyOf_string_mk Try.underlying9 h
abbrev Owns (w : World) (B n : Nat) (D : DataW Value) : Prop := w.ownsMap Try.prog 9 tabR B n D
theorem grown_of {w w' : World} (h : Below w.heap.size w w') (row : Option Nat) : w.grownBy w' row := ⟨h.os, h.tape, h.output, h.size, fun i hi _ => h.block i hi⟩
theorem touch_grown {w w' : World} {b : Nat} (h : w.grownBy w' (some b)) : Cd.Touch [b] w w' := ⟨h.os, h.tape, h.output, h.size, fun k hk hn => h.block k hk (by simpa using hn)⟩
theorem Owns.later {w w' : World} {B n : Nat} {D : DataW Value} (h : Owns w B n D) (hb : Below w.heap.size w w') : Owns w' B n D := World.ownsMap.kept h (grown_of hb none) (by simp)
/-- The tables by their names; none of an invalid database. -/
def NamesAns (l : List T3) (ts : List TabV) (w : World) (e : Ending) (w' : World) : Prop :=
  ∃ B D n, e = .returned (.map (some B)) ∧ w.heap.size ≤ B ∧ Owns w' B n D ∧ n ≤ 6 ∧ MapIs D (entF (if dbOk l then ts else [])) (if dbOk l then l.length else 0) ∧ Below w.heap.size w w'
theorem names_ne {w : World} {S : Nat → Prop} {a : Option Addr} {l : List T3} {ts : List TabV} (h : HeldT w S a l ts) (ha : AscP l) {k : Nat} (hk : k < l.length) (hk' : k < ts.length) : ∀ u ∈ ts.take k, u.nm ≠ ts[k].nm := by
  intro u hu e
  obtain ⟨i, hi, rfl⟩ := List.getElem_of_mem hu
  rw [List.length_take] at hi
  rw [List.getElem_take, (h.2 i (by omega) (by omega)).1, (h.2 k hk hk').1] at e
  exact ltB_ne (List.pairwise_iff_getElem.1 ha i k (by omega) hk (by omega)) e

set_option maxRecDepth 100000 in
set_option maxHeartbeats 1600000 in
theorem impl_byname (a1 : Option Addr) (cap1 : Nat) (l : List T3) (ts : List TabV) (S : Nat → Prop) (w : World) (h1 : tabsC.rd w S [.slice a1 l.length cap1] l) (ht : HeldT w S a1 l ts) :
    Calls Try.prog 88 #[.agg #[.slice a1 l.length cap1]] w fun e w' => NamesAns l ts w e w' := by
  have HT := Lib.hid (fun w' (hb : Below w.heap.size w w') => HeldT.later ht hb)
  have HV := Lib.hid (fun w' (hb : Below w.heap.size w w') => impl_dbok _ l S w' (Cd.later h1 hb))
  have HL := Lib.hid ht.1
  have hmm := @run_makeMap Try.prog
  clear h1 ht
  go_enter Try.func88, Try.ntmps88
  go_wp2_with fail
  have hM0 := World.ownsMap_made (w.alloc (.cells #[.slice a1 l.length cap1] 33 (0, 0))) Try.prog 9 tabR
  rw [size_alloc] at hM0
  generalize hW : (w.alloc _).alloc _ = W at *
  have HM0 := Lib.hid (show Owns W (w.heap.size + 1) 0 (.map []) from hM0)
  clear hM0
  obtain ⟨r0, r1, hz, hb0⟩ := start2g w _ _ hW
  have HC0 := Lib.hid (Loc1.of r0)
  have HB0 := Lib.hid hb0
  have HZ := Lib.hid hz
  clear hW r0 r1 hz
  refine (HV.out _ hb0).mono ?_
  rintro e w1 ⟨rfl, hb1⟩
  have HM1 := Lib.hid (Owns.later HM0.out hb1)
  have HB1 := Lib.hid (below_then HB0.out hb1)
  have c0 := (HC0.out.later hb1).c0
  have HS1 := Lib.hid (show w.heap.size + 2 ≤ w1.heap.size by have := hb1.size; have := HZ.out; omega)
  clear hb0 hb1 hmm
  cases hv : dbOk l
  · have HVV := Lib.hid hv
    go_wp2_with fail
    go_ret
    exact ⟨_, _, _, rfl, Nat.le_succ _, HM1.out, by omega, by rw [HVV.out]; exact MapIs.start, HB1.out⟩
  have HVV := Lib.hid hv
  have H6 := Lib.hid (dbOk_iff.1 hv)
  have hl6 : l.length ≤ 6 := H6.out.1
  clear hv
  go_wp2_with fail
  go_loopw [14] (fun i wr => ∃ (k : Nat) (D : DataW Value), k ≤ l.length ∧ i = .int .i64 k ∧ Owns wr (w.heap.size + 1) k D ∧ MapIs D (entF (ts.take k)) k ∧ Cd.Touch [w.heap.size + 1] w1 wr) (fun i _ => l.length - (intOf i).toNat)
  case atStart => exact ⟨0, .map [], Nat.zero_le _, rfl, HM1.out, MapIs.start, Cd.Touch.refl _ _⟩
  case round =>
    obtain ⟨k, D, hk, rfl, hown, hm, hto⟩ := hrel
    have HBW := Lib.hid (Cd.Touch.below HB1.out hto (fun b hb => by rw [List.mem_singleton.1 hb]; exact Nat.le_succ _))
    have HTO := Lib.hid hto
    have HM := Lib.hid hm
    have HSR := Lib.hid (Nat.le_trans HS1.out hto.size)
    clear c0 hto hm
    by_cases hlt : k < l.length
    · have hlt' : k < ts.length := by rw [HL.out]; exact hlt
      obtain ⟨hnm, ⟨b, off, rfl, hbB, hat⟩, hu⟩ := (HT.out wr HBW.out).2 k hlt hlt'
      have HNE := Lib.hid (names_ne (HT.out wr HBW.out) H6.out.2.2 hlt hlt')
      have HTK := Lib.hid (show ts.take (k + 1) = ts.take k ++ [ts[k]] from List.take_succ_eq_append_getElem hlt')
      have hns : (ts[k]).nm.size ≤ maxLen := by rw [hnm]; obtain ⟨u, _, h, _⟩ := tab_cells hu; exact h
      have p0 := hat 0 (by simp [TabV.us])
      have p1 := hat 1 (by simp [TabV.us])
      have p2 := hat 2 (by simp [TabV.us])
      simp only [TabV.us, List.getElem_cons_zero, List.getElem_cons_succ, Nat.add_zero] at p0 p1 p2
      have i1 : (0 : Int) ≤ (k : Int) := by omega
      have i2 : (k : Int) < (l.length : Int) := by omega
      have i3 := HSR.out
      have hn6 : k < maxLen := by have := H6.out.1; unfold maxLen; omega
      clear hu hat hnm
      generalize ts[k] = t at *
      have hownA := World.ownsMap.alloc hown (.cells #[.string t.nm, .int .i64 t.ar, .slice t.a t.n t.c] 59 (0, 0))
      go_wp2_with (first
        | (at_mapUpdate; refine wpList_mapUpdate_own _ rfl _ _ _ 102 rfl 9 59 law Try.underlying102 tabR (w.heap.size + 1) k D rfl hownA hn6 _ _ (keyL t.nm) rfl rfl (key_of hns) _ [] (tabR_mk t) ?_; intro w2 hown2 hg2; go_frame)
        | go_in)
      have HT2 := Lib.hid (HTO.out.trans ((Cd.Touch.of_below (below_alloc wr _)).trans (touch_grown hg2)))
      have HO2 := Lib.hid hown2
      have HM2 := Lib.hid (show MapIs (D.put (keyL t.nm) (.held t.val)) (entF (ts.take (k + 1))) (k + 1) from by
        have h := HM.out.put t.nm t
        rw [HTK.out, entF_more HNE.out]
        exact h.eq rfl (by rw [entF_none HNE.out]; rfl))
      clear hg2 hown2 hown hownA
      go_wp2_with fail
      go_roundw
      case rel => exact ⟨k + 1, _, by omega, by go_num, HO2.out, HM2.out, HT2.out⟩
      case measure => simp [intOf]; omega
    · have ek : k = l.length := by omega
      subst ek
      have HO := Lib.hid hown
      clear hown
      go_wp2_with fail
      go_ret
      refine ⟨_, _, _, rfl, Nat.le_succ _, HO.out, H6.out.1, ?_, HBW.out⟩
      rw [HVV.out]
      have h := HM.out
      rw [← HL.out, List.take_length] at h
      exact h.eq rfl HL.out

theorem copy_rows_i (us : List Value) (T : T3) (S : Nat → Prop) (w : World) (hu : tabC.rd w S us T) (hw : wtT T ≤ 1048577) :
    Calls Try.prog 89 #[.agg us.toArray] w fun e w' => ∃ a c fp, e = .returned (.agg #[.string T.1, .int .i64 T.2.1, .slice a T.2.2.length c]) ∧ rowsC.ow w' w.heap.size [.slice a T.2.2.length c] T.2.2 fp ∧ fp.Nodup ∧ Below w.heap.size w w' := by
  obtain ⟨u, rfl, h1, h2, h3⟩ := tab_cells hu
  refine (copy_table T.1 T.2.1 u T.2.2 S w h3 (by unfold wtT tabWt at hw; omega) (by unfold wtT tabWt at hw; omega)).mono ?_
  rintro e w' ⟨g, fp, rfl, how, hnd, hb⟩
  exact ⟨_, _, fp, rfl, how, hnd, hb⟩
theorem find_wt {l : List T3} {s : ByteArray} {T : T3} (h : findN l s = some T) : wtT T ≤ wtS l := by
  obtain ⟨k, hk, rfl⟩ := List.getElem_of_mem (findN_some h).1
  have := sumN_mem wtT hk
  unfold wtS
  omega
set_option maxRecDepth 100000 in
set_option maxHeartbeats 1600000 in
theorem impl_look (u : Value) (l : List T3) (nm : ByteArray) (S : Nat → Prop) (w : World) (h1 : tabsC.rd w S [u] l) (hw : wtS l ≤ 1048577) (hs : nm.size ≤ 1048576) :
    Calls Try.prog 62 #[.agg #[u], .string nm] w fun e w' => LookAns l nm w e w' := by
  obtain ⟨a1, cap1, rfl, hl1⟩ := Cd.sl_form h1
  obtain ⟨ts, ht⟩ := held_of h1
  have HT := Lib.hid (fun w' (hb : Below w.heap.size w w') => HeldT.later ht hb)
  have HNA := Lib.hid (fun w' (hb : Below w.heap.size w w') => impl_byname a1 cap1 l ts S w' (Cd.later h1 hb) (HeldT.later ht hb))
  have HK := Lib.hid (key_of (s := nm) (by unfold maxLen; omega))
  have HWT := Lib.hid hw
  clear h1 ht hw hs
  go_enter Try.func62, Try.ntmps62
  go_wp2_with fail
  generalize hW : (w.alloc _).alloc _ = W
  obtain ⟨r0, r1, hz, hb0⟩ := start2g w _ _ hW
  have HC1 := Lib.hid r1
  have HB0 := Lib.hid hb0
  have HZ := Lib.hid hz
  clear hW r0 r1 hz hb0
  refine (HNA.out _ HB0.out).mono ?_
  rintro e w1 ⟨B, D, n, rfl, hBl, hown, _, hm, hb1⟩
  have HC2 := Lib.hid ((hb1.block (w.heap.size + 1) (by have := HZ.out; omega)).trans HC1.out)
  have HB1 := Lib.hid (below_then HB0.out hb1)
  have HS1 := Lib.hid (show w.heap.size + 1 < w1.heap.size by have := hb1.size; have := HZ.out; omega)
  have HM := Lib.hid hm
  clear hb1 hm hBl
  have hcase : (lookL l nm = none ∧ entF (if dbOk l then ts else []) nm = none) ∨ ∃ T t, lookL l nm = some T ∧ entF (if dbOk l then ts else []) nm = some t ∧ findN l nm = some T ∧ ∀ w', Below w.heap.size w w' → tabC.rd w' S t.us T := by
    unfold lookL
    cases hv : dbOk l
    · exact .inl ⟨rfl, rfl⟩
    · rcases entF_find (HT.out w (Below.refl _ _)) nm with ⟨q1, q2⟩ | ⟨T, t, q1, q2, q3⟩
      · exact .inl ⟨q1, q2⟩
      · exact .inr ⟨T, t, q1, q2, q1, fun w' hb => Cd.later q3 hb⟩
  rcases hcase with ⟨hl, he⟩ | ⟨T, t, hl, he, hf, hr⟩
  · have hh : Maps.has D (keyL nm) = false := by rw [HM.out.has, he]; rfl
    have HLK := Lib.hid hl
    clear hl he
    obtain ⟨n0, n1, n2, g0, g1, g2⟩ := row3 HC2.out
    have hs1 := HS1.out
    go_wp2_with (first
      | (at_lookup; refine wpList_lookup_own_ok _ rfl _ _ 102 rfl 9 59 law Try.underlying102 tabR (zeroE _) (.held (.agg #[.string ⟨#[]⟩, .int .i64 0, .slice none 0 0])) [] rfl B n D rfl hown _ (keyL nm) rfl HK.out ?_; intro v ps hv; obtain ⟨t, rfl, _⟩ := tabR_inv hv; unfold TabV.val; rw [hh]; clear hv))
    have G := set3 (w := w1) (k := w.heap.size + 1) (x := .string ⟨#[]⟩) (y := .int .i64 0) (z := .slice none 0 0) n0 n1 n2
    have HB4 : Below w.heap.size w (((w1.setCell ⟨w.heap.size + 1, 0, none⟩ (.string ⟨#[]⟩)).setCell ⟨w.heap.size + 1, 1, none⟩ (.int .i64 0)).setCell ⟨w.heap.size + 1, 2, none⟩ (.slice none 0 0)) := ((HB1.out.setCell (by show _ ≤ w.heap.size + 1; omega) _).setCell (by show _ ≤ w.heap.size + 1; omega) _).setCell (by show _ ≤ w.heap.size + 1; omega) _
    have hx : w.heap.size + 1 < (((w1.setCell ⟨w.heap.size + 1, 0, none⟩ (.string ⟨#[]⟩)).setCell ⟨w.heap.size + 1, 1, none⟩ (.int .i64 0)).setCell ⟨w.heap.size + 1, 2, none⟩ (.slice none 0 0)).heap.size := by simpa using hs1
    generalize (((w1.setCell ⟨w.heap.size + 1, 0, none⟩ (.string ⟨#[]⟩)).setCell ⟨w.heap.size + 1, 1, none⟩ (.int .i64 0)).setCell ⟨w.heap.size + 1, 2, none⟩ (.slice none 0 0)) = w4 at *
    have hbA := below_alloc w4 (.cells #[.string t.nm, .int .i64 t.ar, .slice t.a t.n t.c] 59 (0, 0))
    have k0 := (hbA.cell (p := ⟨w.heap.size + 1, 0, none⟩) hx).trans G.1
    have k1 := (hbA.cell (p := ⟨w.heap.size + 1, 1, none⟩) hx).trans G.2.1
    have k2 := (hbA.cell (p := ⟨w.heap.size + 1, 2, none⟩) hx).trans G.2.2
    have HBA := Lib.hid (below_then HB4 hbA)
    clear hbA
    refine bodyPost_ret (v := .tuple #[.agg #[.string ⟨#[]⟩, .int .i64 0, .slice none 0 0], .bool false]) (by simp [results, Try.results62, go_sem, k0, k1, k2]) rfl (LookAns.none HLK.out HBA.out)
  · have hh : Maps.has D (keyL nm) = true := by rw [HM.out.has, he]; rfl
    have hat := HM.out.at_ nm t (.held (.agg #[.string ⟨#[]⟩, .int .i64 0, .slice none 0 0])) he
    have HLK := Lib.hid hl
    have HCP := Lib.hid (fun w' (hb : Below w.heap.size w w') => copy_rows_i t.us T S w' (hr w' hb) (by have := find_wt hf; have := HWT.out; omega))
    clear hl he hf hr
    go_wp2_with (first
      | (at_lookup; refine wpList_lookup_own_ok _ rfl _ _ 102 rfl 9 59 law Try.underlying102 tabR (zeroE _) (.held (.agg #[.string ⟨#[]⟩, .int .i64 0, .slice none 0 0])) [] rfl B n D rfl hown _ (keyL nm) rfl HK.out ?_; intro v ps hv; rw [hat] at hv; obtain ⟨t', rfl, ht'⟩ := tabR_inv hv; (have ht' : t.val = t'.val := by injection ht' with q _; injection q); rw [← ht', hh]; unfold TabV.val; clear hv ht'))
    have hbA := below_alloc w1 (.cells #[.string t.nm, .int .i64 t.ar, .slice t.a t.n t.c] 59 (0, 0))
    have HB2 := Lib.hid (below_then HB1.out hbA)
    have HC3 := Lib.hid (hbA.block (w.heap.size + 1) HS1.out |>.trans HC2.out)
    have HS2 := Lib.hid (Nat.lt_of_lt_of_le HS1.out hbA.size)
    refine (HCP.out _ HB2.out).mono ?_
    rintro e w3 ⟨a3, c3, fp, rfl, ho, hn, hb3⟩
    have HB4 := Lib.hid (below_then HB2.out hb3)
    obtain ⟨m0, m1, m2, f0, f1, f2⟩ := row3 ((hb3.block (w.heap.size + 1) HS2.out).trans HC3.out)
    have HO := Lib.hid ho
    have HN := Lib.hid hn
    clear ho hn hb3 hbA
    go_wp2_with fail
    have G0 := set3 (w := w3) (k := w.heap.size + 1) (x := .string T.1) (y := .int .i64 T.2.1) (z := .slice a3 T.2.2.length c3) m0 m1 m2
    have hfar : w.heap.size + 1 ∉ fp := fun q => by have := (rowsC.ow_lt HO.out _ q).1; have := HS2.out; omega
    refine bodyPost_ret (v := .tuple #[.agg #[.string T.1, .int .i64 T.2.1, .slice a3 T.2.2.length c3], .bool true]) (by simp [results, Try.results62, go_sem, G0.1, G0.2.1, G0.2.2]) rfl (LookAns.some HLK.out ?_ HN.out ?_)
    · exact ow_setCell (ow_setCell (ow_setCell (rowsC.ow_base HO.out (by have := HS2.out; omega)) hfar _) hfar _) hfar _
    · exact ((HB4.out.setCell (by show _ ≤ w.heap.size + 1; omega) _).setCell (by show _ ≤ w.heap.size + 1; omega) _).setCell (by show _ ≤ w.heap.size + 1; omega) _
end Go.Proofs.Ytnoennmhifmolaa.DbImp
