/- Texts that the proof rests on, one behind the other. -/
import Derived.Test.YtdkhgeknjekkoaaGreatMg2EvaluateQuery
import Derived.Test.YtdkhgeknjekkoaaGreatQrySpec2
import Derived.Test.YtdkhgeknjekkoaaGreatMg1EvaluateQuery
import Derived.Deep.RegionHeld3
import Derived.Deep.QuietTactic
import Derived.Test.YtdkhgeknjekkoaaGreatAnsSpec2
import Derived.Test.YtdkhgeknjekkoaaGreatQgMath
import Derived.Test.YtdkhgeknjekkoaaGreatQrySpec1
import Derived.Test.YtdkhgeknjekkoaaGreatTabFmt
import Derived.Test.YtdkhgeknjekkoaaGreatCdN
import Derived.Test.YtdkhgeknjekkoaaGreatTabParse
import Derived.Test.YtdkhgeknjekkoaaGreatShelf
import Derived.Deep.RegionLaw
import Derived.Lib.Join
import Derived.Test.YtdkhgeknjekkoaaGreatByt
import Derived.Test.YtdkhgeknjekkoaaGreatSlAtom
import Derived.Lib.IndexMore
import Derived.Lib.SplitLaws
import Derived.StillTailTactics
import Derived.Test.YtdkhgeknjekkoaaGreatExact
import Derived.Test.YtdkhgeknjekkoaaGreatAtom

namespace Go.Proofs.YtdkhgeknjekkoaaGreat.DbImp
open Go Go.RowKit Byt Ints IntsLaw Cd Rows2 Tab SlMath TabOpen TabElem SlTable Db TabSpec DbMath TabImp DbMap DbExact
open Go.Maps (Keyed string_keyed IsMap Tidy)
open DbSpec (LaterD drewD row1 rows_cell name_cell lkT lk_none lk_some LookAns zeroT)

theorem law : Keyed Tryz.prog 9 := string_keyed Tryz.underlying9
theorem zeroE (w : World) : (zeroValue 44).run Tryz.prog w = .ok (.agg #[.string ⟨#[]⟩, .int .i64 0, .slice none 0 0]) w := by kernel_rfl
theorem key_of {s : ByteArray} (h : s.size ≤ maxLen) : keyOf Tryz.prog 9 (.string s) = some (keyL s) := WideMaps.keyOf_string_mk Tryz.underlying9 h
abbrev Owns (w : World) (B n : Nat) (D : DataW Value) : Prop := w.ownsMap Tryz.prog 9 tabR B n D
theorem grown_of {w w' : World} (h : Below w.heap.size w w') (row : Option Nat) : w.grownBy w' row := ⟨h.os, h.tape, h.output, h.size, fun i hi _ => h.block i hi⟩
theorem touch_grown {w w' : World} {b : Nat} (h : w.grownBy w' (some b)) : Cd.Touch [b] w w' := ⟨h.os, h.tape, h.output, h.size, fun k hk hn => h.block k hk (by simpa using hn)⟩
theorem Owns.later {w w' : World} {B n : Nat} {D : DataW Value} (h : Owns w B n D) (hb : Below w.heap.size w w') : Owns w' B n D := World.ownsMap.kept h (grown_of hb none) (by simp)
/-- The tables by their names; none of an invalid database. -/
def NamesAns (l : List T3) (ts : List TabV) (w : World) (e : Ending) (w' : World) : Prop :=
  ∃ B D n, e = .returned (.map (some B)) ∧ w.heap.size ≤ B ∧ Owns w' B n D ∧ n ≤ 6 ∧ MapIs D (entF (if dbOk l then ts else [])) (if dbOk l then l.length else 0) ∧ Below w.heap.size w w'
theorem names_ne {w : World} {S : Nat → Prop} {a : Option Addr} {l : List T3} {ts : List TabV} (h : HeldT w S a l ts) (ha : AscP l) {k : Nat} (hk : k < l.length) (hk' : k < ts.length) : ∀ u ∈ ts.take k, u.nm ≠ ts[k].nm := by
  intro u hu e
  obtain ⟨i, hi, rfl⟩ := List.getElem_of_mem hu
  rw [List.length_take] at hi
  rw [List.getElem_take, (h.2 i (by omega) (by omega)).1, (h.2 k hk hk').1] at e
  exact ltB_ne (List.pairwise_iff_getElem.1 ha i k (by omega) hk (by omega)) e

set_option maxRecDepth 100000 in
set_option maxHeartbeats 1600000 in
theorem impl_byname (a1 : Option Addr) (cap1 : Nat) (l : List T3) (ts : List TabV) (S : Nat → Prop) (w : World) (h1 : tabsC.rd w S [.slice a1 l.length cap1] l) (ht : HeldT w S a1 l ts) :
    Calls Tryz.prog 90 #[.agg #[.slice a1 l.length cap1]] w fun e w' => NamesAns l ts w e w' := by
  have HT := Lib.hid (fun w' (hb : Below w.heap.size w w') => HeldT.later ht hb)
  have HV := Lib.hid (fun w' (hb : Below w.heap.size w w') => impl_dbok _ l S w' (Cd.later h1 hb))
  have HL := Lib.hid ht.1
  have hmm := @run_makeMap Tryz.prog
  clear h1 ht
  go_enter Tryz.func90, Tryz.ntmps90
  go_wp2_with fail
  have hM0 := World.ownsMap_made (w.alloc (.cells #[.slice a1 l.length cap1] 26 (0, 0))) Tryz.prog 9 tabR
  rw [size_alloc] at hM0
  generalize hW : (w.alloc _).alloc _ = W at *
  have HM0 := Lib.hid (show Owns W (w.heap.size + 1) 0 (.map []) from hM0)
  clear hM0
  obtain ⟨r0, r1, hz, hb0⟩ := start2g w _ _ hW
  have HC0 := Lib.hid (Loc1.of r0)
  have HB0 := Lib.hid hb0
  have HZ := Lib.hid hz
  clear hW r0 r1 hz
  refine (HV.out _ hb0).mono ?_
  rintro e w1 ⟨rfl, hb1⟩
  have HM1 := Lib.hid (Owns.later HM0.out hb1)
  have HB1 := Lib.hid (below_then HB0.out hb1)
  have c0 := (HC0.out.later hb1).c0
  have HS1 := Lib.hid (show w.heap.size + 2 ≤ w1.heap.size by have := hb1.size; have := HZ.out; omega)
  clear hb0 hb1 hmm
  cases hv : dbOk l
  · have HVV := Lib.hid hv
    go_wp2_with fail
    go_ret
    exact ⟨_, _, _, rfl, Nat.le_succ _, HM1.out, by omega, by rw [HVV.out]; exact MapIs.start, HB1.out⟩
  have HVV := Lib.hid hv
  have H6 := Lib.hid (dbOk_iff.1 hv)
  have hl6 : l.length ≤ 6 := H6.out.1
  clear hv
  go_wp2_with fail
  go_loopw [14] (fun i wr => ∃ (k : Nat) (D : DataW Value), k ≤ l.length ∧ i = .int .i64 k ∧ Owns wr (w.heap.size + 1) k D ∧ MapIs D (entF (ts.take k)) k ∧ Cd.Touch [w.heap.size + 1] w1 wr) (fun i _ => l.length - (intOf i).toNat)
  case atStart => exact ⟨0, .map [], Nat.zero_le _, rfl, HM1.out, MapIs.start, Cd.Touch.refl _ _⟩
  case round =>
    obtain ⟨k, D, hk, rfl, hown, hm, hto⟩ := hrel
    have HBW := Lib.hid (Cd.Touch.below HB1.out hto (fun b hb => by rw [List.mem_singleton.1 hb]; exact Nat.le_succ _))
    have HTO := Lib.hid hto
    have HM := Lib.hid hm
    have HSR := Lib.hid (Nat.le_trans HS1.out hto.size)
    clear c0 hto hm
    by_cases hlt : k < l.length
    · have hlt' : k < ts.length := by rw [HL.out]; exact hlt
      obtain ⟨hnm, ⟨b, off, rfl, hbB, hat⟩, hu⟩ := (HT.out wr HBW.out).2 k hlt hlt'
      have HNE := Lib.hid (names_ne (HT.out wr HBW.out) H6.out.2.2 hlt hlt')
      have HTK := Lib.hid (show ts.take (k + 1) = ts.take k ++ [ts[k]] from List.take_succ_eq_append_getElem hlt')
      have hns : (ts[k]).nm.size ≤ maxLen := by rw [hnm]; obtain ⟨u, _, h, _⟩ := tab_cells hu; exact h
      have p0 := hat 0 (by simp [TabV.us])
      have p1 := hat 1 (by simp [TabV.us])
      have p2 := hat 2 (by simp [TabV.us])
      simp only [TabV.us, List.getElem_cons_zero, List.getElem_cons_succ, Nat.add_zero] at p0 p1 p2
      have i1 : (0 : Int) ≤ (k : Int) := by omega
      have i2 : (k : Int) < (l.length : Int) := by omega
      have i3 := HSR.out
      have hn6 : k < maxLen := by have := H6.out.1; unfold maxLen; omega
      clear hu hat hnm
      generalize ts[k] = t at *
      have hownA := World.ownsMap.alloc hown (.cells #[.string t.nm, .int .i64 t.ar, .slice t.a t.n t.c] 44 (0, 0))
      go_wp2_with (first
        | (at_mapUpdate; refine wpList_mapUpdate_own _ rfl _ _ _ 113 rfl 9 44 law Tryz.underlying113 tabR (w.heap.size + 1) k D rfl hownA hn6 _ _ (keyL t.nm) rfl rfl (key_of hns) _ [] (tabR_mk t) ?_; intro w2 hown2 hg2; go_frame)
        | go_in)
      have HT2 := Lib.hid (HTO.out.trans ((Cd.Touch.of_below (below_alloc wr _)).trans (touch_grown hg2)))
      have HO2 := Lib.hid hown2
      have HM2 := Lib.hid (show MapIs (D.put (keyL t.nm) (.held t.val)) (entF (ts.take (k + 1))) (k + 1) from by
        have h := HM.out.put t.nm t
        rw [HTK.out, entF_more HNE.out]
        exact h.eq rfl (by rw [entF_none HNE.out]; rfl))
      clear hg2 hown2 hown hownA
      go_wp2_with fail
      go_roundw
      case rel => exact ⟨k + 1, _, by omega, by go_num, HO2.out, HM2.out, HT2.out⟩
      case measure => simp [intOf]; omega
    · have ek : k = l.length := by omega
      subst ek
      have HO := Lib.hid hown
      clear hown
      go_wp2_with fail
      go_ret
      refine ⟨_, _, _, rfl, Nat.le_succ _, HO.out, H6.out.1, ?_, HBW.out⟩
      rw [HVV.out]
      have h := HM.out
      rw [← HL.out, List.take_length] at h
      exact h.eq rfl HL.out

theorem copy_rows_i (us : List Value) (T : T3) (S : Nat → Prop) (w : World) (hu : tabC.rd w S us T) (hw : wtT T ≤ 1048577) :
    Calls Tryz.prog 91 #[.agg us.toArray] w fun e w' => ∃ a c fp, e = .returned (.agg #[.string T.1, .int .i64 T.2.1, .slice a T.2.2.length c]) ∧ rowsC.ow w' w.heap.size [.slice a T.2.2.length c] T.2.2 fp ∧ fp.Nodup ∧ Below w.heap.size w w' := by
  obtain ⟨u, rfl, h1, h2, h3⟩ := tab_cells hu
  refine (copy_table T.1 T.2.1 u T.2.2 S w h3 (by unfold wtT tabWt at hw; omega) (by unfold wtT tabWt at hw; omega)).mono ?_
  rintro e w' ⟨g, fp, rfl, how, hnd, hb⟩
  exact ⟨_, _, fp, rfl, how, hnd, hb⟩
theorem find_wt {l : List T3} {s : ByteArray} {T : T3} (h : findN l s = some T) : wtT T ≤ wtS l := by
  obtain ⟨k, hk, rfl⟩ := List.getElem_of_mem (findN_some h).1
  have := sumN_mem wtT hk
  unfold wtS
  omega
set_option maxRecDepth 100000 in
set_option maxHeartbeats 1600000 in
theorem impl_look (u : Value) (l : List T3) (nm : ByteArray) (S : Nat → Prop) (w : World) (h1 : tabsC.rd w S [u] l) (hw : wtS l ≤ 1048577) (hs : nm.size ≤ 1048576) :
    Calls Tryz.prog 47 #[.agg #[u], .string nm] w fun e w' => LookAns l nm w e w' := by
  obtain ⟨a1, cap1, rfl, hl1⟩ := Cd.sl_form h1
  obtain ⟨ts, ht⟩ := held_of h1
  have HT := Lib.hid (fun w' (hb : Below w.heap.size w w') => HeldT.later ht hb)
  have HNA := Lib.hid (fun w' (hb : Below w.heap.size w w') => impl_byname a1 cap1 l ts S w' (Cd.later h1 hb) (HeldT.later ht hb))
  have HK := Lib.hid (key_of (s := nm) (by unfold maxLen; omega))
  have HWT := Lib.hid hw
  clear h1 ht hw hs
  go_enter Tryz.func47, Tryz.ntmps47
  go_wp2_with fail
  generalize hW : (w.alloc _).alloc _ = W
  obtain ⟨r0, r1, hz, hb0⟩ := start2g w _ _ hW
  have HC1 := Lib.hid r1
  have HB0 := Lib.hid hb0
  have HZ := Lib.hid hz
  clear hW r0 r1 hz hb0
  refine (HNA.out _ HB0.out).mono ?_
  rintro e w1 ⟨B, D, n, rfl, hBl, hown, _, hm, hb1⟩
  have HC2 := Lib.hid ((hb1.block (w.heap.size + 1) (by have := HZ.out; omega)).trans HC1.out)
  have HB1 := Lib.hid (below_then HB0.out hb1)
  have HS1 := Lib.hid (show w.heap.size + 1 < w1.heap.size by have := hb1.size; have := HZ.out; omega)
  have HM := Lib.hid hm
  clear hb1 hm hBl
  have hcase : (lookL l nm = none ∧ entF (if dbOk l then ts else []) nm = none) ∨ ∃ T t, lookL l nm = some T ∧ entF (if dbOk l then ts else []) nm = some t ∧ findN l nm = some T ∧ ∀ w', Below w.heap.size w w' → tabC.rd w' S t.us T := by
    unfold lookL
    cases hv : dbOk l
    · exact .inl ⟨rfl, rfl⟩
    · rcases entF_find (HT.out w (Below.refl _ _)) nm with ⟨q1, q2⟩ | ⟨T, t, q1, q2, q3⟩
      · exact .inl ⟨q1, q2⟩
      · exact .inr ⟨T, t, q1, q2, q1, fun w' hb => Cd.later q3 hb⟩
  rcases hcase with ⟨hl, he⟩ | ⟨T, t, hl, he, hf, hr⟩
  · have hh : Maps.has D (keyL nm) = false := by rw [HM.out.has, he]; rfl
    have HLK := Lib.hid hl
    clear hl he
    obtain ⟨n0, n1, n2, g0, g1, g2⟩ := row3 HC2.out
    have hs1 := HS1.out
    go_wp2_with (first
      | (at_lookup; refine wpList_lookup_own_ok _ rfl _ _ 113 rfl 9 44 law Tryz.underlying113 tabR (zeroE _) (.held (.agg #[.string ⟨#[]⟩, .int .i64 0, .slice none 0 0])) [] rfl B n D rfl hown _ (keyL nm) rfl HK.out ?_; intro v ps hv; obtain ⟨t, rfl, _⟩ := tabR_inv hv; unfold TabV.val; rw [hh]; clear hv))
    have G := set3 (w := w1) (k := w.heap.size + 1) (x := .string ⟨#[]⟩) (y := .int .i64 0) (z := .slice none 0 0) n0 n1 n2
    have HB4 : Below w.heap.size w (((w1.setCell ⟨w.heap.size + 1, 0, none⟩ (.string ⟨#[]⟩)).setCell ⟨w.heap.size + 1, 1, none⟩ (.int .i64 0)).setCell ⟨w.heap.size + 1, 2, none⟩ (.slice none 0 0)) := ((HB1.out.setCell (by show _ ≤ w.heap.size + 1; omega) _).setCell (by show _ ≤ w.heap.size + 1; omega) _).setCell (by show _ ≤ w.heap.size + 1; omega) _
    have hx : w.heap.size + 1 < (((w1.setCell ⟨w.heap.size + 1, 0, none⟩ (.string ⟨#[]⟩)).setCell ⟨w.heap.size + 1, 1, none⟩ (.int .i64 0)).setCell ⟨w.heap.size + 1, 2, none⟩ (.slice none 0 0)).heap.size := by simpa using hs1
    generalize (((w1.setCell ⟨w.heap.size + 1, 0, none⟩ (.string ⟨#[]⟩)).setCell ⟨w.heap.size + 1, 1, none⟩ (.int .i64 0)).setCell ⟨w.heap.size + 1, 2, none⟩ (.slice none 0 0)) = w4 at *
    have hbA := below_alloc w4 (.cells #[.string t.nm, .int .i64 t.ar, .slice t.a t.n t.c] 44 (0, 0))
    have k0 := (hbA.cell (p := ⟨w.heap.size + 1, 0, none⟩) hx).trans G.1
    have k1 := (hbA.cell (p := ⟨w.heap.size + 1, 1, none⟩) hx).trans G.2.1
    have k2 := (hbA.cell (p := ⟨w.heap.size + 1, 2, none⟩) hx).trans G.2.2
    have HBA := Lib.hid (below_then HB4 hbA)
    clear hbA
    refine bodyPost_ret (v := .tuple #[.agg #[.string ⟨#[]⟩, .int .i64 0, .slice none 0 0], .bool false]) (by simp [results, Tryz.results47, go_sem, k0, k1, k2]) rfl (LookAns.none HLK.out HBA.out)
  · have hh : Maps.has D (keyL nm) = true := by rw [HM.out.has, he]; rfl
    have hat := HM.out.at_ nm t (.held (.agg #[.string ⟨#[]⟩, .int .i64 0, .slice none 0 0])) he
    have HLK := Lib.hid hl
    have HCP := Lib.hid (fun w' (hb : Below w.heap.size w w') => copy_rows_i t.us T S w' (hr w' hb) (by have := find_wt hf; have := HWT.out; omega))
    clear hl he hf hr
    go_wp2_with (first
      | (at_lookup; refine wpList_lookup_own_ok _ rfl _ _ 113 rfl 9 44 law Tryz.underlying113 tabR (zeroE _) (.held (.agg #[.string ⟨#[]⟩, .int .i64 0, .slice none 0 0])) [] rfl B n D rfl hown _ (keyL nm) rfl HK.out ?_; intro v ps hv; rw [hat] at hv; obtain ⟨t', rfl, ht'⟩ := tabR_inv hv; (have ht' : t.val = t'.val := by injection ht' with q _; injection q); rw [← ht', hh]; unfold TabV.val; clear hv ht'))
    have hbA := below_alloc w1 (.cells #[.string t.nm, .int .i64 t.ar, .slice t.a t.n t.c] 44 (0, 0))
    have HB2 := Lib.hid (below_then HB1.out hbA)
    have HC3 := Lib.hid (hbA.block (w.heap.size + 1) HS1.out |>.trans HC2.out)
    have HS2 := Lib.hid (Nat.lt_of_lt_of_le HS1.out hbA.size)
    refine (HCP.out _ HB2.out).mono ?_
    rintro e w3 ⟨a3, c3, fp, rfl, ho, hn, hb3⟩
    have HB4 := Lib.hid (below_then HB2.out hb3)
    obtain ⟨m0, m1, m2, f0, f1, f2⟩ := row3 ((hb3.block (w.heap.size + 1) HS2.out).trans HC3.out)
    have HO := Lib.hid ho
    have HN := Lib.hid hn
    clear ho hn hb3 hbA
    go_wp2_with fail
    have G0 := set3 (w := w3) (k := w.heap.size + 1) (x := .string T.1) (y := .int .i64 T.2.1) (z := .slice a3 T.2.2.length c3) m0 m1 m2
    have hfar : w.heap.size + 1 ∉ fp := fun q => by have := (rowsC.ow_lt HO.out _ q).1; have := HS2.out; omega
    refine bodyPost_ret (v := .tuple #[.agg #[.string T.1, .int .i64 T.2.1, .slice a3 T.2.2.length c3], .bool true]) (by simp [results, Tryz.results47, go_sem, G0.1, G0.2.1, G0.2.2]) rfl (LookAns.some HLK.out ?_ HN.out ?_)
    · exact ow_setCell (ow_setCell (ow_setCell (rowsC.ow_base HO.out (by have := HS2.out; omega)) hfar _) hfar _) hfar _
    · exact ((HB4.out.setCell (by show _ ≤ w.heap.size + 1; omega) _).setCell (by show _ ≤ w.heap.size + 1; omega) _).setCell (by show _ ≤ w.heap.size + 1; omega) _
end Go.Proofs.YtdkhgeknjekkoaaGreat.DbImp

namespace Go.Proofs.YtdkhgeknjekkoaaGreat.QryFor
open Go Go.RowKit Byt Ints IntsLaw Cd Rows2 Tab TabSpec Exact Atom QryMath QrySpec QryImp MkAtom SlMath
open TabOpen (tabC)
open Db (tabsC)
open DbExact (Loc1)

/-- The table of the atom is there, and it has as many columns. -/
def fitA (d : List TabElem.T3) (A : A2) : Bool := (DbMath.lookL d A.1).isSome && decide ((DbSpec.lkT d A.1).2.1 = (A.2.length : Int))
def forP (d : List TabElem.T3) (n : Int) (l : List A2) : Prop := qOk n l = true ∧ ∀ A ∈ l, fitA d A = true
instance (d : List TabElem.T3) (n : Int) (l : List A2) : Decidable (forP d n l) := by unfold forP; infer_instance
def forOk (d : List TabElem.T3) (n : Int) (l : List A2) : Bool := decide (forP d n l)
theorem fit_more {d : List TabElem.T3} {l : List A2} {k : Nat} (hk : k < l.length) (h : ∀ A ∈ l.take k, fitA d A = true) (h0 : fitA d l[k] = true) : ∀ A ∈ l.take (k + 1), fitA d A = true := by
  rw [List.take_succ_eq_append_getElem hk]
  intro A hA
  rcases List.mem_append.1 hA with q | q
  · exact h A q
  · rw [List.mem_singleton.1 q]; exact h0
set_option maxRecDepth 100000 in
set_option maxHeartbeats 1600000 in
theorem impl_for (u v : Value) (d : List TabElem.T3) (n : Int) (l : List A2) (S1 S2 : Nat → Prop) (w : World) (h1 : tabsC.rd w S1 [u] d) (h2 : atomsC.rd w S2 [v] l) (hw : SlTable.wtS d ≤ 1048577) (hs : ∀ A ∈ l, A.1.size ≤ 1048576) :
    Calls Tryz.prog 44 #[.agg #[u], .agg #[.int .i64 n, v]] w fun e w' => e = .returned (.bool (forOk d n l)) ∧ Below w.heap.size w w' := by
  have HL := Lib.hid (fun nm (h : nm.size ≤ 1048576) w' (hb : Below w.heap.size w w') => DbImp.impl_look u d nm S1 w' (Cd.later h1 hb) hw h)
  have HV := Lib.hid (fun w' (hb : Below w.heap.size w w') => impl_valid n v l S2 w' (Cd.later h2 hb))
  have HR := Lib.hid (fun w' (hb : Below w.heap.size w w') => Cd.later h2 hb)
  have HSZ := Lib.hid hs
  obtain ⟨a1, cap1, rfl, _⟩ := Cd.sl_form h1
  obtain ⟨a, cap, rfl, _⟩ := Cd.sl_form h2
  clear h1 h2 hs hw
  cases hq : qOk n l
  · have HZ := Lib.hid (show forOk d n l = false from decide_eq_false fun q => absurd (hq.symm.trans q.1) (by decide))
    rw [hq] at HV
    clear hq
    go_enter Tryz.func44, Tryz.ntmps44
    go_wp2_with fail
    have HB := Lib.hid (below_then (below_alloc w (.cells #[.slice a1 d.length cap1] 26 (0, 0))) (below_alloc _ (.cells #[.int .i64 n, .slice a l.length cap] 29 (0, 0))))
    refine (HV.out _ HB.out).mono ?_
    rintro e w1 ⟨rfl, hb1⟩
    have HB1 := Lib.hid (below_then HB.out hb1)
    clear hb1
    go_wp2_with fail
    go_ret
    exact ⟨ret_b HZ.out.symm, HB1.out⟩
  rw [hq] at HV
  have HQ := Lib.hid hq
  clear hq
  go_enter Tryz.func44, Tryz.ntmps44
  go_wp2_with fail
  generalize hW : (w.alloc _).alloc _ = W
  obtain ⟨r0, r1, _, hb0⟩ := start2g w _ _ hW
  have HC1 := Lib.hid (Loc1.of r0)
  have HC2 := Lib.hid (Loc2.of r1)
  have HB := Lib.hid hb0
  clear hW r0 r1 hb0
  refine (HV.out _ HB.out).mono ?_
  rintro e w1 ⟨rfl, hb1⟩
  have HB1 := Lib.hid (below_then HB.out hb1)
  have HD1 := Lib.hid (HC1.out.later hb1)
  have HD2 := Lib.hid (HC2.out.later hb1)
  have c1 := HD2.out.c1
  clear hb1
  go_wp2_with fail
  clear c1
  go_loopw [15] (fun i wr => ∃ k : Nat, k ≤ l.length ∧ i = .int .i64 k ∧ Hid (∀ A ∈ l.take k, fitA d A = true) ∧ Below w1.heap.size w1 wr) (fun i _ => l.length - (intOf i).toNat)
  case atStart => exact ⟨0, Nat.zero_le _, rfl, Lib.hid (fun x hx => by simp at hx), Below.refl _ _⟩
  case round =>
    obtain ⟨k, hk, rfl, hal, hbw⟩ := hrel
    have HBW := Lib.hid hbw
    by_cases hlt : k < l.length
    · obtain ⟨b, off, cap', au, cu, e1, hbB, c0, c1, hs1, hu, _⟩ := atom_at2 (HR.out wr (below_then HB1.out hbw)) hlt
      injection e1 with e1 e2 e3
      subst e1 e3
      have p1 : (0 : Int) ≤ (k : Int) := by omega
      have p2 : (k : Int) < (l.length : Int) := by omega
      have hAl := below_alloc wr (.cells #[.string l[k].1, .slice au l[k].2.length cu] 48 (0, 0))
      have HLK := Lib.hid (HL.out l[k].1 (HSZ.out _ (List.getElem_mem hlt)) _ (below_then HB1.out (below_then hbw hAl)))
      have HC5 := Lib.hid (Loc2.of (row_alloc wr (.cells #[.string l[k].1, .slice au l[k].2.length cu] 48 (0, 0))))
      have HB2 := Lib.hid (below_then hbw hAl)
      have y0 := (HD1.out.later hbw).c0
      have yl := (HD1.out.later hbw).lt
      have HYES := Lib.hid (fun h => fit_more hlt hal.out h)
      have HNO := Lib.hid (show fitA d l[k] = false → forOk d n l = false from fun h => decide_eq_false fun q => absurd (h.symm.trans (q.2 _ (List.getElem_mem hlt))) (by decide))
      have HLT := Lib.hid hlt
      clear hu hbw hAl
      unfold fitA at HYES HNO
      generalize l[k].1 = nm at *
      generalize l[k].2.length = ln at *
      go_wp2_with fail
      generalize hW1 : wr.alloc _ = W1 at *
      clear hW1
      refine HLK.out.mono ?_
      rintro e w2 ⟨tv, fp, rfl, ho, _, hb2⟩
      obtain ⟨ta, tc, rfl⟩ := Cd.ow_slice (c := rowC) ho
      have HB3 := Lib.hid (below_then HB2.out hb2)
      have z1 := (HC5.out.later hb2).c1
      have zl := (HC5.out.later hb2).lt
      generalize (DbSpec.lkT d nm) = T at *
      clear hb2 ho
      cases hf : (DbMath.lookL d nm).isSome
      · have HZ := Lib.hid (HNO.out (by rw [hf]; rfl))
        clear hf
        go_wp2_with fail
        go_ret
        exact ⟨ret_b HZ.out.symm, below_then HB1.out (below_then HB3.out (below_alloc _ _))⟩
      · by_cases hx : T.2.1 = (ln : Int)
        · have HY := Lib.hid (HYES.out (by rw [hf, decide_eq_true hx]; rfl))
          have t1 : (T.2.1 != (ln : Int)) = false := by rw [bne_eq_false_iff_eq]; exact hx
          clear hf hx
          go_wp2_with fail
          go_roundw
          case rel => exact ⟨k + 1, by have := HLT.out; omega, by go_num, HY, below_then HB3.out (below_alloc _ _)⟩
          case measure => have := HLT.out; simp [intOf]; omega
        · have HZ := Lib.hid (HNO.out (by rw [hf, decide_eq_false hx]; rfl))
          have t1 : (T.2.1 != (ln : Int)) = true := by rw [bne_iff_ne]; exact hx
          clear hf hx
          go_wp2_with fail
          go_ret
          exact ⟨ret_b HZ.out.symm, below_then HB1.out (below_then HB3.out (below_alloc _ _))⟩
    · have ek : k = l.length := by omega
      subst ek
      rw [List.take_length] at hal
      have HZ := Lib.hid (show forOk d n l = true from decide_eq_true ⟨HQ.out, hal.out⟩)
      clear hbw
      go_wp2_with fail
      go_ret
      exact ⟨ret_b HZ.out.symm, below_then HB1.out HBW.out⟩
def LaterQ (w w' : World) : Prop := Below w.heap.size w w'
theorem later_alloc {a w : World} (h : LaterQ a w) (o : Obj) : LaterQ a (w.alloc o) := below_then h (below_alloc w o)
theorem later_set3 {a w : World} {k : Nat} {x y z : Value} (h : LaterQ a w) (hk : a.heap.size ≤ k) : LaterQ a (((w.setCell ⟨k, 0, none⟩ x).setCell ⟨k, 1, none⟩ y).setCell ⟨k, 2, none⟩ z) :=
  ((Below.setCell h hk _).setCell hk _).setCell hk _
theorem later_drewA (a : World) (o : Obj) : LaterQ a (a.alloc o).drew := Below.drew (later_alloc (Below.refl _ a) o)
theorem later_size {a w : World} (h : LaterQ a w) : a.heap.size ≤ w.heap.size := Below.size h
theorem locQ_new {W wq : World} {x0 x1 x2 : Value} {T : TypeId} (hb : Below (W.alloc (.cells #[x0, x1, x2] T (0, 0))).heap.size (W.alloc (.cells #[x0, x1, x2] T (0, 0))) wq) : Loc3 wq W.heap.size x0 x1 x2 :=
  (Loc3.of (start1 W _ rfl).1).later hb
theorem locQ_new' {W wq : World} {x0 x1 x2 : Value} {T : TypeId} (hb : Below (W.drew.alloc (.cells #[x0, x1, x2] T (0, 0))).heap.size (W.drew.alloc (.cells #[x0, x1, x2] T (0, 0))) wq) : Loc3 wq W.heap.size x0 x1 x2 := locQ_new (W := W.drew) hb
theorem locQ_new3 {W wq : World} {x0 x1 x2 : Value} {T : TypeId} (hb : Below (W.alloc (.cells #[x0, x1, x2] T (0, 0))).drew.heap.size (W.alloc (.cells #[x0, x1, x2] T (0, 0))).drew wq) : Loc3 wq W.heap.size x0 x1 x2 :=
  (loc_drew (Loc3.of (start1 W _ rfl).1)).later hb
/-- A local table, made behind W. -/
def MadeT (W : World) (nm : ByteArray) (ar : Int) (s : Value) (wx : World) : Prop :=
  ∃ k v, s = .pointer (some ⟨k, 0, none⟩) ∧ W.heap.size ≤ k ∧ Loc3 wx k (.string nm) (.int .i64 ar) v ∧ LaterQ W wx
theorem madeT {W wq : World} {k : Nat} {x0 x1 x2 v : Value} {nm : ByteArray} {ar : Int} (kk : LaterQ W wq) (hb : W.heap.size ≤ k) (GL : Loc3 wq k x0 x1 x2) :
    MadeT W nm ar (.pointer (some ⟨k, 0, none⟩)) (((wq.setCell ⟨k, 0, none⟩ (.string nm)).setCell ⟨k, 1, none⟩ (.int .i64 ar)).setCell ⟨k, 2, none⟩ v) := by
  obtain ⟨c0, c1, c2, f0, f1, f2⟩ := GL
  obtain ⟨k0, k1, k2⟩ := set3 (w := wq) (k := k) (x := .string nm) (y := .int .i64 ar) (z := v) c0 c1 c2
  exact ⟨k, v, rfl, hb, ⟨k0, k1, k2, by simpa using f0, by simpa using f1, by simpa using f2⟩, later_set3 kk hb⟩
theorem madeT2 {W wq : World} {v : Value} {T : TypeId} {nm : ByteArray} {ar : Int} (kk : LaterQ W wq) :
    MadeT W nm ar (.pointer (some ⟨wq.heap.size, 0, none⟩)) (wq.alloc (.cells #[.string nm, .int .i64 ar, v] T (0, 0))) :=
  ⟨wq.heap.size, v, rfl, later_size kk, Loc3.of (start1 wq _ rfl).1, later_alloc kk _⟩
set_option maxRecDepth 100000 in
set_option maxHeartbeats 3200000 in
theorem spec_for (u v : Value) (d : List TabElem.T3) (n : Int) (l : List A2) (S1 S2 : Nat → Prop) (w : World) (h1 : tabsC.rd w S1 [u] d) (h2 : atomsC.rd w S2 [v] l) (hw : SlTable.wtS d ≤ 1048577) :
    Calls Tryz.prog 50 #[.agg #[u], .agg #[.int .i64 n, v]] w fun e w' => e = .returned (.bool (forOk d n l)) ∧ Below w.heap.size w w' := by
  have HL := Lib.hid (fun nm w' (hb : Below w.heap.size w w') => DbSpec.spec_look u d nm S1 w' (Cd.later h1 hb) hw)
  have HV := Lib.hid (fun w' (hb : Below w.heap.size w w') => spec_valid n v l S2 w' (Cd.later h2 hb))
  have HR := Lib.hid (fun w' (hb : Below w.heap.size w w') => Cd.later h2 hb)
  obtain ⟨a1, cap1, rfl, _⟩ := Cd.sl_form h1
  obtain ⟨a, cap, rfl, _⟩ := Cd.sl_form h2
  clear h1 h2 hw
  cases hq : qOk n l
  · have HZ := Lib.hid (show forOk d n l = false from decide_eq_false fun q => absurd (hq.symm.trans q.1) (by decide))
    rw [hq] at HV
    clear hq
    go_enter Tryz.func50, Tryz.ntmps50
    go_wp2_with fail
    have HB := Lib.hid (below_then (below_alloc w (.cells #[.slice a1 d.length cap1] 26 (0, 0))) (below_alloc _ (.cells #[.int .i64 n, .slice a l.length cap] 29 (0, 0))))
    refine (HV.out _ HB.out).mono ?_
    rintro e w1 ⟨rfl, hb1⟩
    have HB1 := Lib.hid (below_then HB.out hb1)
    clear hb1
    go_wp2_with fail
    go_ret
    exact ⟨ret_b HZ.out.symm, HB1.out⟩
  rw [hq] at HV
  have HQ := Lib.hid hq
  clear hq
  go_enter Tryz.func50, Tryz.ntmps50
  go_wp2_with fail
  generalize hW : (w.alloc _).alloc _ = W
  obtain ⟨r0, r1, _, hb0⟩ := start2g w _ _ hW
  have HC1 := Lib.hid (Loc1.of r0)
  have HC2 := Lib.hid (Loc2.of r1)
  have HB := Lib.hid hb0
  clear hW r0 r1 hb0
  refine (HV.out _ HB.out).mono ?_
  rintro e w1 ⟨rfl, hb1⟩
  have HB1 := Lib.hid (below_then HB.out hb1)
  have HD1 := Lib.hid (HC1.out.later hb1)
  have HD2 := Lib.hid (HC2.out.later hb1)
  clear hb1
  go_wp2_with fail
  go_loopw [5] (fun i wr => ∃ k : Nat, k ≤ l.length ∧ i = .int .i64 k ∧ Hid (∀ A ∈ l.take k, fitA d A = true) ∧ Below w1.heap.size w1 wr) (fun i _ => l.length - (intOf i).toNat)
  case atStart => exact ⟨0, Nat.zero_le _, rfl, Lib.hid (fun x hx => by simp at hx), Below.refl _ _⟩
  case round =>
    obtain ⟨k, hk, rfl, hal, hbw⟩ := hrel
    have HBW := Lib.hid hbw
    have g1 := (HD2.out.later hbw).c1
    by_cases hlt : k < l.length
    · obtain ⟨b, off, cap', au, cu, e1, hbB, c0, c1, hs1, hu, _⟩ := atom_at2 (HR.out wr (below_then HB1.out hbw)) hlt
      injection e1 with e1 e2 e3
      subst e1 e3
      have p1 : (0 : Int) ≤ (k : Int) := by omega
      have p2 : (k : Int) < (l.length : Int) := by omega
      have HLK := Lib.hid (fun w' (hq : LaterQ wr w') => HL.out l[k].1 w' (below_then HB1.out (below_then hbw hq)))
      have g0 := (HD1.out.later hbw).c0
      have HYES := Lib.hid (fun h => fit_more hlt hal.out h)
      have HNO := Lib.hid (show fitA d l[k] = false → forOk d n l = false from fun h => decide_eq_false fun q => absurd (h.symm.trans (q.2 _ (List.getElem_mem hlt))) (by decide))
      have HLT := Lib.hid hlt
      have gl1 := (HD1.out.later hbw).lt
      have gl2 := (HD2.out.later hbw).lt
      have HSQ := Lib.hid (fun wx (h : LaterQ wr wx) => (show wx.cell? ⟨w.heap.size, 0, none⟩ = some (.slice a1 d.length cap1) ∧ wx.cell? ⟨w.heap.size + 1, 1, none⟩ = some (.slice (some ⟨b, off, none⟩) l.length cap) ∧ wx.cell? ⟨b, off + k * 2, none⟩ = some (.string l[k].1) ∧ LaterQ wr wx from ⟨(Below.cell h (p := ⟨w.heap.size, 0, none⟩) gl1).trans g0, (Below.cell h (p := ⟨w.heap.size + 1, 1, none⟩) gl2).trans g1, (Below.cell h (p := ⟨b, off + k * 2, none⟩) hbB).trans c0, h⟩))
      have HSV := Lib.hid (fun wx (h : LaterQ wr wx) => (Below.cell h (p := ⟨b, off + k * 2 + 1, none⟩) hbB).trans c1)
      clear hu hbw c1 gl1 gl2
      unfold fitA at HYES HNO
      generalize l[k].1 = nm at *
      generalize l[k].2.length = ln at *
      go_upto_region 6 with fail
      have kk : LaterQ wr wr.drew := (Below.refl _ wr).drew
      generalize hT : DbSpec.lkT d nm = T at *
      generalize hf : (DbMath.lookL d nm).isSome = fb at *
      go_cut [6, 7] (fun s6 s7 wx => s7 = .bool fb ∧ MadeT wr T.1 T.2.1 s6 wx)
      case first =>
        go_region_held3 (fun wx => wx.cell? ⟨w.heap.size, 0, none⟩ = some (.slice a1 d.length cap1) ∧ wx.cell? ⟨w.heap.size + 1, 1, none⟩ = some (.slice (some ⟨b, off, none⟩) l.length cap) ∧ wx.cell? ⟨b, off + k * 2, none⟩ = some (.string nm) ∧ LaterQ wr wx)
          ((refine HSQ.out _ ?_; first | assumption | exact Below.drew (Below.refl _ wr) | exact later_alloc (by assumption) _ | exact later_drewA wr _ | exact later_set3 (by first | assumption | exact later_alloc (by assumption) _) (later_size (by first | assumption | exact Below.refl _ _))))
          (first | (go_at_call 19; refine (HLK.out _ (by first | assumption | exact later_alloc (by assumption) _ | exact later_drewA wr _)).mono ?_; rintro e wq ⟨tv, fp, rfl, how, hnd, hbq⟩; obtain ⟨ta, tc, rfl⟩ := Cd.ow_slice (c := rowC) how; (have kk : LaterQ wr wq := (show Below wr.heap.size wr wq by refine below_then (show LaterQ wr _ from ?_) hbq; first | assumption | exact later_alloc (by assumption) _ | exact later_drewA wr _)); rw [hT, hf]; (first | (have GL := Lib.hid (GL.out.later hbq)) | (have GL := Lib.hid (locQ_new' hbq)) | (have GL := Lib.hid (locQ_new hbq)) | (have GL := Lib.hid (locQ_new3 hbq)) | skip); (first | (have x0 := GL.out.c0; have x1 := GL.out.c1; have x2 := GL.out.c2; have f0 := GL.out.f0; have f1 := GL.out.f1; have f2 := GL.out.f2) | skip); (have hS := HSQ.out wq kk); (have k0 := hS.1); (have k1 := hS.2.1); (have k2 := hS.2.2.1); clear hbq how hnd hS))
        all_goals
          go_wp2_with fail
          go_meet
          refine ⟨rfl, ?_⟩
          first
            | (have GG := GL.out; exact madeT (by assumption) (later_size (by first | assumption | exact Below.refl _ _)) GG)
            | (with_reducible exact madeT2 (by assumption))
      case rest =>
        obtain ⟨rfl, kp, tv, rfl, hkp, hl3, hlat⟩ := hcut
        have q1 := (HSQ.out _ hlat).2.1
        have q2 := HSV.out _ hlat
        have q3 := hl3.c1
        have HLAT := Lib.hid hlat
        clear kk hlat hkp
        cases fb
        · have HZ := Lib.hid (HNO.out rfl)
          go_wp2
          go_quiet (fail)
          go_wp2
          go_ret
          exact ⟨ret_b HZ.out.symm, QryImp.below_drewN (below_then HB1.out (below_then HBW.out HLAT.out))⟩
        · by_cases hx : T.2.1 = (ln : Int)
          · have HY := Lib.hid (HYES.out (by rw [decide_eq_true hx]; rfl))
            have t1 : (T.2.1 != (ln : Int)) = false := by rw [bne_eq_false_iff_eq]; exact hx
            clear hx
            go_wp2
            go_quiet (fail)
            go_wp2
            go_roundw
            case rel => exact ⟨k + 1, by have := HLT.out; omega, by go_num, HY, QryImp.below_drewN (below_then HBW.out HLAT.out)⟩
            case measure => have := HLT.out; simp [intOf]; omega
          · have HZ := Lib.hid (HNO.out (by rw [decide_eq_false hx]; rfl))
            have t1 : (T.2.1 != (ln : Int)) = true := by rw [bne_iff_ne]; exact hx
            clear hx
            go_wp2
            go_quiet (fail)
            go_wp2
            go_ret
            exact ⟨ret_b HZ.out.symm, QryImp.below_drewN (below_then HB1.out (below_then HBW.out HLAT.out))⟩
    · have ek : k = l.length := by omega
      subst ek
      rw [List.take_length] at hal
      have HZ := Lib.hid (show forOk d n l = true from decide_eq_true ⟨HQ.out, hal.out⟩)
      clear hbw
      go_wp2_with fail
      go_ret
      exact ⟨ret_b HZ.out.symm, below_then HB1.out HBW.out⟩
end Go.Proofs.YtdkhgeknjekkoaaGreat.QryFor

namespace Go.Proofs.YtdkhgeknjekkoaaGreat.AnsQ
open Go Go.RowKit Byt Ints IntsLaw Cd Rows2 Tab TabSpec Exact Atom QryMath QrySpec QryImp AnsMath SlMath TabOpen TabElem QgMath AnsSpec DbMath DbSpec QryFor

theorem bs_cons (x : Int) (l : List Int) : bs (x :: l) = 2 ^ x.toNat ||| bs l := by
  unfold bs
  show bsF (0 ||| 2 ^ x.toNat) l = _
  rw [Nat.zero_or, bsF_or]
  rfl
theorem bs_test : ∀ (l : List Int) (v : Nat), (bs l).testBit v = true ↔ ∃ x ∈ l, x.toNat = v
  | [], v => by
    show (0 : Nat).testBit v = true ↔ _
    simp
  | x :: l, v => by
    rw [bs_cons, Nat.testBit_or, Bool.or_eq_true, bs_test l v, Nat.testBit_two_pow, decide_eq_true_eq]
    simp
theorem mem_varsL {s : Nat} {v : Int} : v ∈ varsL s ↔ ∃ k : Nat, k < 4 ∧ s.testBit k = true ∧ v = (k : Int) := by
  unfold varsL varsTo
  rw [List.mem_map]
  constructor
  · rintro ⟨k, hk, rfl⟩
    rw [List.mem_filter, List.mem_range] at hk
    refine ⟨k, hk.1, ?_, rfl⟩
    rw [Nat.testBit_eq_decide_div_mod_eq, decide_eq_true_eq]
    simpa using hk.2
  · rintro ⟨k, hk, ht, rfl⟩
    refine ⟨k, ?_, rfl⟩
    rw [List.mem_filter, List.mem_range]
    refine ⟨hk, ?_⟩
    rw [Nat.testBit_eq_decide_div_mod_eq, decide_eq_true_eq] at ht
    simpa using ht
theorem nodup_varsL (s : Nat) : (varsL s).Nodup := by
  unfold varsL varsTo
  rw [List.nodup_iff_pairwise_ne, List.pairwise_map]
  refine List.Pairwise.imp ?_ (List.Pairwise.filter _ (List.nodup_iff_pairwise_ne.1 List.nodup_range))
  intro a b h e
  exact h (by injection e)
theorem varsL_bd {s : Nat} : ∀ v ∈ varsL s, 0 ≤ v ∧ v < 4 := fun v hv => by
  obtain ⟨k, hk, _, rfl⟩ := mem_varsL.1 hv
  omega
theorem varsL_len (s : Nat) : (varsL s).length ≤ 4 := varsTo_len s 4

/-- The atoms of a mask, in order. -/
def selA (l : List A2) (t : Nat) : Nat → List A2
  | 0 => []
  | k + 1 => if t / 2 ^ k % 2 = 1 then selA l t k ++ [l.getD k (⟨#[]⟩, [])] else selA l t k
theorem selA_yes {l : List A2} {t k : Nat} (h : k < l.length) (ht : t / 2 ^ k % 2 = 1) : selA l t (k + 1) = selA l t k ++ [l[k]] := by
  show (if _ then _ else _) = _
  rw [if_pos ht]
  simp [h]
theorem selA_no {l : List A2} {t k : Nat} (ht : ¬ t / 2 ^ k % 2 = 1) : selA l t (k + 1) = selA l t k := by
  show (if _ then _ else _) = _
  rw [if_neg ht]
theorem selA_len (l : List A2) (t : Nat) : ∀ k, (selA l t k).length ≤ k
  | 0 => Nat.le_refl _
  | k + 1 => by
    have := selA_len l t k
    show (if _ then _ else _ : List A2).length ≤ _
    split
    · rw [List.length_append]
      simp
      omega
    · omega
theorem selA_mem {l : List A2} {t : Nat} : ∀ k, k ≤ l.length → ∀ A ∈ selA l t k, A ∈ l
  | 0, _, A, h => by cases h
  | k + 1, hk, A, h => by
    by_cases ht : t / 2 ^ k % 2 = 1
    · rw [selA_yes (by omega) ht] at h
      rcases List.mem_append.1 h with q | q
      · exact selA_mem k (by omega) A q
      · rw [List.mem_singleton.1 q]; exact List.getElem_mem _
    · rw [selA_no ht] at h
      exact selA_mem k (by omega) A h
theorem sel_all {l : List A2} {t : Nat} : ∀ k, k ≤ l.length → ∀ x, x ∈ selV l t k ↔ ∃ A ∈ selA l t k, x ∈ A.2
  | 0, _, x => by
    show x ∈ [] ↔ ∃ A ∈ [], _
    simp
  | k + 1, hk, x => by
    by_cases ht : t / 2 ^ k % 2 = 1
    · rw [selA_yes (by omega) ht, selV_yes (by omega) ht, List.mem_append, sel_all k (by omega) x]
      constructor
      · rintro (⟨A, hA, h⟩ | h)
        · exact ⟨A, List.mem_append_left _ hA, h⟩
        · exact ⟨_, List.mem_append_right _ (List.mem_singleton.2 rfl), h⟩
      · rintro ⟨A, hA, h⟩
        rcases List.mem_append.1 hA with q | q
        · exact .inl ⟨A, q, h⟩
        · rw [List.mem_singleton.1 q] at h; exact .inr h
    · rw [selA_no ht, selV_no ht]
      exact sel_all k (by omega) x
/-- The relations of the atoms. -/
def relsQ (d : List T3) (al : List A2) : List Rel := al.map fun A => relOf (lkT d A.1) A
theorem rels_map (d : List T3) (al : List A2) : rels (al.map fun A => lkT d A.1) al = relsQ d al := by
  unfold rels relsQ
  induction al with
  | nil => rfl
  | cons A al ih => simp only [List.map_cons, List.zipWith_cons_cons, ih]
theorem nodup_asc {l : List (List Int)} (h : Asc l) : l.Nodup := by
  rw [List.nodup_iff_pairwise_ne]
  refine List.Pairwise.imp ?_ h
  intro a b hab e
  subst e
  rw [cmpR_self] at hab
  omega
theorem for_tab {d : List T3} {n : Int} {l : List A2} (h : forOk d n l = true) {A : A2} (hA : A ∈ l) : okT (lkT d A.1) = true ∧ (lkT d A.1).2.1 = (A.2.length : Int) ∧ (lookL d A.1).isSome = true := by
  have hf := (of_decide_eq_true h).2 A hA
  unfold fitA at hf
  rw [Bool.and_eq_true, decide_eq_true_eq] at hf
  obtain ⟨T, hT⟩ := Option.isSome_iff_exists.1 hf.1
  refine ⟨?_, hf.2, hf.1⟩
  rw [lk_some hT]
  unfold lookL at hT
  split at hT
  · rename_i hd
    exact (dbOk_iff.1 hd).2.1 T (findN_some hT).1
  · cases hT
theorem for_qp {d : List T3} {n : Int} {l : List A2} (h : forOk d n l = true) : QP n l := qOk_iff.1 (of_decide_eq_true h).1
theorem rel_ok {d : List T3} {n : Int} {l : List A2} (h : forOk d n l = true) {A : A2} (hA : A ∈ l) : RelOk (relOf (lkT d A.1) A) := by
  obtain ⟨h1, h2, _⟩ := for_tab h hA
  have hP : TabP _ _ _ := of_decide_eq_true h1
  obtain ⟨_, _, _, h8, hrow, hasc⟩ := hP
  refine ⟨h8, nodup_asc hasc, fun v hv => ((for_qp h).in4 A hA v hv).1, fun row hr => ?_⟩
  have := of_decide_eq_true (hrow row hr)
  refine ⟨?_, this.2⟩
  have e := this.1
  rw [h2] at e
  show row.length = A.2.length
  omega
theorem cover {d : List T3} {n : Int} {l : List A2} (h : forOk d n l = true) (t : Nat) : Cover (varsL (bs (selV l t l.length))) (relsQ d (selA l t l.length)) where
  ok R hR := by
    obtain ⟨A, hA, rfl⟩ := List.mem_map.1 hR
    exact rel_ok h (selA_mem _ (Nat.le_refl _) A hA)
  nd := nodup_varsL _
  pos v hv := (varsL_bd v hv).1
  sub R hR v hv := by
    obtain ⟨A, hA, rfl⟩ := List.mem_map.1 hR
    have h4 := (for_qp h).in4 A (selA_mem _ (Nat.le_refl _) A hA) v hv
    exact mem_varsL.2 ⟨v.toNat, by omega, (bs_test _ _).2 ⟨v, (sel_all _ (Nat.le_refl _) v).2 ⟨A, hA, hv⟩, rfl⟩, by omega⟩
  all v hv := by
    obtain ⟨k, hk, ht, rfl⟩ := mem_varsL.1 hv
    obtain ⟨x, hx, e⟩ := (bs_test _ _).1 ht
    obtain ⟨A, hA, hxA⟩ := (sel_all _ (Nat.le_refl _) x).1 hx
    have h4 := (for_qp h).in4 A (selA_mem _ (Nat.le_refl _) A hA) x hxA
    refine ⟨_, List.mem_map.2 ⟨A, hA, rfl⟩, ?_⟩
    show ((k : Nat) : Int) ∈ A.2
    rw [← e, show ((x.toNat : Nat) : Int) = x by omega]
    exact hxA
theorem rels_in {d : List T3} {n : Int} {l : List A2} (h : forOk d n l = true) (t : Nat) : ∀ R ∈ relsQ d (selA l t l.length), ∀ v ∈ R.1, 0 ≤ v ∧ v < 4 := fun R hR v hv => varsL_bd v ((cover h t).sub R hR v hv)
theorem rels_le {d : List T3} {n : Int} {l : List A2} (h : forOk d n l = true) (t : Nat) : (relsQ d (selA l t l.length)).length ≤ 4 := by
  unfold relsQ
  rw [List.length_map]
  exact Nat.le_trans (selA_len l t _) (for_qp h).2.2.2.1

/-! What a mask's answer is. -/
def evOk (d : List T3) (n : Int) (l : List A2) (m : Int) : Bool := forOk d n l && decide (1 ≤ m ∧ m ≤ (fm n l : Int))
def evV (d : List T3) (n : Int) (l : List A2) (m : Int) : List Int := if evOk d n l m then varsL (mB n l m) else []
def evR (d : List T3) (n : Int) (l : List A2) (m : Int) : List (List Int) := if evOk d n l m then walkL (varsL (mB n l m)) (relsQ d (selA l m.toNat l.length)) (varsL (mB n l m)).length [] else []
theorem evOk_iff {d : List T3} {n m : Int} {l : List A2} : evOk d n l m = true ↔ forOk d n l = true ∧ 1 ≤ m ∧ m ≤ (fm n l : Int) := by
  unfold evOk
  rw [Bool.and_eq_true, decide_eq_true_eq]
theorem evOk_mB {d : List T3} {n m : Int} {l : List A2} (h : evOk d n l m = true) : ∃ t : Nat, m = (t : Int) ∧ 1 ≤ t ∧ t < 16 ∧ t < 2 ^ l.length ∧ mB n l m = bs (selV l t l.length) := by
  obtain ⟨h1, h2, h3⟩ := evOk_iff.1 h
  obtain ⟨t, rfl⟩ := Int.eq_ofNat_of_zero_le (show 0 ≤ m by omega)
  have hmo := fm_mOk (n := n) (l := l) (t := t) (by omega) (by omega)
  have hfl := fm_lt n l
  obtain ⟨t', e, _, hlt⟩ := mOk_fm hmo
  have e2 : t = t' := by omega
  subst e2
  refine ⟨t, rfl, by omega, by omega, hlt, ?_⟩
  rw [mB_yes hmo]
  rfl
theorem ev_len (d : List T3) (n m : Int) (l : List A2) : (evR d n l m).length ≤ 4096 := by
  unfold evR
  split
  · rename_i h
    obtain ⟨t, rfl, _, _, _, hb⟩ := evOk_mB h
    have hf := (evOk_iff.1 h).1
    have hc := cover hf t
    rw [hb]
    have hp : (ansM (varsL (bs (selV l t l.length))) (relsQ d (selA l t l.length))).Perm (walkL (varsL (bs (selV l t l.length))) (relsQ d (selA l t l.length)) (varsL (bs (selV l t l.length))).length []) := by
      refine (List.perm_ext_iff_of_nodup (nodup_ansM hc) ?_).2 fun r => mem_ansM hc r
      exact nodup_asc (asc_walkL _ _)
    show (walkL _ (relsQ d (selA l t l.length)) _ _).length ≤ _
    rw [← hp.length_eq]
    exact len_ansM hc.ok (rels_le hf t)
  · simp
end Go.Proofs.YtdkhgeknjekkoaaGreat.AnsQ

namespace Go.Proofs.YtdkhgeknjekkoaaGreat.QryFmt
open Go Go.RowKit Byt Ints IntsLaw Cd Rows2 Tab TabSpec Exact Atom QryMath QrySpec
open TabParse (strC strsC info_str)

theorem vnm_in {x : Int} (h : 0 ≤ x ∧ x < 4) : vnm x = ⟨#[vb x]⟩ := if_pos h
set_option maxRecDepth 100000 in
theorem spec_names (v : Value) (l : List Int) (B : Nat) (w : World) (hr : RI w v l B) (h4 : In4 l) (h3 : l.length ≤ 4) :
    Calls Tryz.prog 61 #[v] w fun e w' => e = .returned (.string ⟨(l.map vb).toArray⟩) ∧ w = w' := by
  have HR := Lib.hid hr
  have H4 := Lib.hid h4
  obtain ⟨a, cap, rfl, hlm, _⟩ := hr
  clear h4
  go_enter Tryz.func61, Tryz.ntmps61
  go_wp2
  go_loop [3, 4] (fun s i => ∃ k : Nat, k ≤ l.length ∧ i = .int .i64 k ∧ s = .string ⟨((l.take k).map vb).toArray⟩) (fun _ i => l.length - (intOf i).toNat)
  case atStart => exact ⟨0, Nat.zero_le _, rfl, by simp⟩
  case round =>
    obtain ⟨k, hk, rfl, rfl⟩ := hrel
    by_cases hlt : k < l.length
    · obtain ⟨b, off, cap', e1, hbB, hc⟩ := ri_at HR.out hlt
      injection e1 with e1 e2 e3
      subst e1 e3
      have p1 : (0 : Int) ≤ (k : Int) := by omega
      have p2 : (k : Int) < (l.length : Int) := by omega
      have hsn := fun w => spec_name l[k] w
      have HS := Lib.hid hsn
      rw [vnm_in (H4.out _ (List.getElem_mem hlt))] at HS
      have HT := Lib.hid (show (⟨((l.take (k + 1)).map vb).toArray⟩ : ByteArray) = ⟨((l.take k).map vb).toArray⟩ ++ ⟨#[vb l[k]]⟩ by
        rw [List.take_succ_eq_append_getElem hlt, List.map_append]
        simp [ByteArray.mk_append_mk])
      have hpl : ((l.take k).map vb).length ≤ 4 := by rw [List.length_map, List.length_take]; omega
      have HPL := Lib.hid hpl
      have hsz : (⟨((l.take k).map vb).toArray⟩ : ByteArray).size ≤ 4 := by show ((l.take k).map vb).toArray.size ≤ 4; rw [List.size_toArray]; exact hpl
      clear hsn hpl
      generalize l[k] = z at *
      generalize (⟨((l.take k).map vb).toArray⟩ : ByteArray) = P at *
      have l1 : ¬ 9223372036854775807 < P.size + 1 := by omega
      go_wp2_with (go_at_call 111; refine (HS.out _).mono ?_; rintro e w1 ⟨rfl, rfl⟩)
      go_round
      case rel => exact ⟨k + 1, by omega, by go_num, by rw [HT.out]⟩
      case measure => simp [intOf]; omega
    · have ek : k = l.length := by omega
      subst ek
      rw [List.take_length] at *
      go_wp2
      go_ret
      exact ⟨rfl, rfl⟩
theorem strs_at {w : World} {S : Nat → Prop} {v : Value} {l : List ByteArray} (h : strsC.rd w S [v] l) {j : Nat} (hj : j < l.length) :
    ∃ b off cap, v = .slice (some ⟨b, off, none⟩) l.length cap ∧ b < w.heap.size ∧ w.cell? ⟨b, off + j, none⟩ = some (.string l[j]) := by
  obtain ⟨b, off, cap, us, e1, _, hb, hat, hu⟩ := Cd.sl_at h hj
  obtain ⟨rfl, _⟩ := hu
  have c0 := hat 0 (by simp)
  simp only [List.getElem_cons_zero, Nat.add_zero, show strC.n = 1 from rfl, Nat.mul_one] at c0
  exact ⟨b, off, cap, e1, hb, c0⟩
def KeptF (w w' : World) : Prop := Below w.heap.size w w'
/-- Strings joined. -/
theorem join_strs (g : Nat) (xs : List ByteArray) (sep : ByteArray) (fp : List Nat) (w : World) (base : Nat) (how : strsC.ow w base [.slice (some ⟨g, 0, none⟩) xs.length xs.length] xs fp) (h8 : xs.length ≤ 8) (hl : (Lib.join (xs.map (·.data.toList)) sep.data.toList).length ≤ 100) :
    Calls Tryz.prog 105 #[.slice (some ⟨g, 0, none⟩) xs.length xs.length, .string sep] w fun e w' => e = .returned (.string ⟨(Lib.join (xs.map (·.data.toList)) sep.data.toList).toArray⟩) ∧ Below w.heap.size w w' := by
  have hg : g < w.heap.size := by
    obtain ⟨v, xss, fps, e1, hown, _, _⟩ := how
    injection e1 with e1 _
    subst e1
    rcases hown.2 with ⟨e1, _⟩ | ⟨g', cap', cur, e1, _, hgg, _⟩
    · cases e1
    · simp only [Value.slice.injEq, Option.some.injEq, Addr.mk.injEq, and_true] at e1
      obtain ⟨rfl, _, _⟩ := e1
      exact (Array.getElem?_eq_some_iff.1 hgg).1
  exact Tryz.strings_Join g 0 xs.length xs sep w (fun j x hj => by
    obtain ⟨hj1, hj2⟩ := List.getElem?_eq_some_iff.1 hj
    obtain ⟨b, off, cap, e1, _, hc⟩ := strs_at (strsC.ow_rd how) hj1
    simp only [Value.slice.injEq, Option.some.injEq, Addr.mk.injEq, and_true] at e1
    obtain ⟨⟨rfl, rfl⟩, _, _⟩ := e1
    rw [← hj2]
    exact hc) hg (by omega) (Nat.le_refl _) (by omega)

def nmL (l : List Int) : List ByteArray := l.map vnm
set_option maxRecDepth 100000 in
set_option maxHeartbeats 1600000 in
theorem map_names (v : Value) (l : List Int) (S : Nat → Prop) (w : World) (hr : rowC.rd w S [v] l) (h8 : l.length ≤ 8) :
    Calls Tryz.prog 106 #[v, .func (.func 107) #[] #[]] w fun e w' => ∃ g fp, e = .returned (.slice (some ⟨g, 0, none⟩) l.length l.length) ∧ strsC.ow w' w.heap.size [.slice (some ⟨g, 0, none⟩) l.length l.length] (nmL l) fp ∧ fp.Nodup ∧ Below w.heap.size w w' := by
  obtain ⟨i0, hi, hz0, hz1, hz2⟩ := info_parts info_str
  have HR := Lib.hid (fun w' (hb : Below w.heap.size w w') => Cd.later hr hb)
  obtain ⟨a, cap, rfl, hlm, _⟩ := (row_ri hr).1
  clear hr
  go_enter Tryz.func106, Tryz.ntmps106
  go_wp2_with (at_make; refine wpList_make_own _ rfl _ _ 127 rfl w.heap.size 9 i0 (.string ⟨#[]⟩) 1 Tryz.underlying127 hi hz0 hz1 _ _ _ l.length rfl rfl rfl (by rw [hz2]; omega) (by unfold maxLen; omega) (Nat.le_refl _) ?_)
  intro w1 hown0 hg0
  have how1 : strsC.ow w1 w.heap.size [.slice (some ⟨w.heap.size, 0, none⟩) 0 l.length] [] [w.heap.size] := ⟨_, [], [], rfl, hown0, trivial, rfl⟩
  have hb1 : Below w.heap.size w w1 := (Below.refl _ _).grown hg0 (Nat.le_refl _) (by simp)
  clear hown0 hg0
  go_wp2_with fail
  go_loopw [5, 13] (fun o i wr => ∃ (k : Nat) (fp : List Nat), k ≤ l.length ∧ i = .int .i64 k ∧ o = .slice (some ⟨w.heap.size, 0, none⟩) k l.length ∧ strsC.ow wr w.heap.size [.slice (some ⟨w.heap.size, 0, none⟩) k l.length] (nmL (l.take k)) fp ∧ fp.Nodup ∧ Below w.heap.size w wr) (fun _ i _ => l.length - (intOf i).toNat)
  case atStart => exact ⟨0, _, Nat.zero_le _, rfl, rfl, how1, by simp, hb1⟩
  case round =>
    obtain ⟨k, fp, hk, rfl, rfl, how, hnd, hb⟩ := hrel
    by_cases hlt : k < l.length
    · obtain ⟨b, off, cap', e1, hbB, hc⟩ := ri_at (row_ri (HR.out wr hb)).1 hlt
      injection e1 with e1 e2 e3
      subst e1 e3
      have HC := Lib.hid (impl_name l[k] wr)
      have HOW := Lib.hid how
      have HND := Lib.hid hnd
      have HB := Lib.hid hb
      have HT := Lib.hid (show nmL (l.take (k + 1)) = nmL (l.take k) ++ [vnm l[k]] by unfold nmL; rw [List.take_succ_eq_append_getElem hlt, List.map_append]; rfl)
      have HSZ := Lib.hid (show (vnm l[k]).size ≤ maxLen by
        unfold vnm
        split
        · exact (show 1 ≤ maxLen by decide)
        · exact Nat.zero_le _)
      have HL := Lib.hid (show k = (nmL (l.take k)).length by unfold nmL; rw [List.length_map, List.length_take]; omega)
      clear how hnd hb how1 hb1
      generalize vnm l[k] = r at *
      generalize l[k] = z at *
      go_wp2_with fail
      refine HC.out.mono ?_
      rintro e w2 ⟨rfl, rfl⟩
      have hb2 : Below wr.heap.size wr wr := Below.refl _ _
      have hbA : Below wr.heap.size wr (wr.alloc (.cells #[.string r] 9 (0, 0))) := below_alloc _ _
      have HOW2 := Lib.hid (Cd.ow_later (Cd.ow_later HOW.out hb2) hbA)
      have HB2 := Lib.hid (below_then (below_then HB.out hb2) hbA)
      have HBS := Lib.hid (show w.heap.size ≤ (wr.alloc (.cells #[.string r] 9 (0, 0))).heap.size by rw [size_alloc]; have := HB.out.size; omega)
      have HCELL := Lib.hid (show (wr.alloc (.cells #[.string r] 9 (0, 0))).cell? ⟨wr.heap.size, 0, none⟩ = some (.string r) from World.cell?_alloc_mark _ _ _ _ 0)
      clear hbA hb2
      go_wp2_with (at_builtin; refine Cd.wpList_appendR (c := strC) rfl rfl (.tmp 17) (.tmp 21) 127 rfl w.heap.size 9 (.string ⟨#[]⟩) 16 Tryz.underlying127 info_str rfl (by decide) w.heap.size l.length k (nmL (l.take k)) fp rfl HL.out HOW2.out HND.out (by omega) wr.heap.size (.string r) rfl HCELL.out r [] ⟨rfl, HSZ.out, rfl⟩ List.nodup_nil (fun b hb => by cases hb) (by omega) HBS.out ?_)
      intro w3 fp3 ho3 hn3 hsub3 ht3
      have HB3 := Lib.hid (ht3.below HB2.out (fun b hb => (strsC.ow_lt HOW.out b hb).1))
      rw [← HT.out] at ho3
      clear ht3 hsub3
      go_wp2_with fail
      go_roundw
      case rel => exact ⟨k + 1, fp3, by omega, by go_num, rfl, ho3, hn3, HB3.out⟩
      case measure => simp [intOf]; omega
    · have ek : k = l.length := by omega
      subst ek
      rw [List.take_length] at how
      go_wp2_with fail
      go_ret
      exact ⟨_, fp, rfl, how, hnd, hb⟩
theorem join_names (l : List Int) (h : In4 l) : Lib.join ((l.map vnm).map (·.data.toList)) [] = l.map vb := by
  have : ∀ l : List Int, In4 l → (l.map vnm).map (·.data.toList) = l.map fun x => [vb x] := by
    intro l
    induction l with
    | nil => intro _; rfl
    | cons x xs ih =>
      intro h
      rw [List.map_cons, List.map_cons, List.map_cons, ih fun y hy => h y (List.mem_cons_of_mem _ hy), vnm_in (h x List.mem_cons_self)]
  rw [this l h]
  clear this h
  unfold Lib.join
  induction l with
  | nil => rfl
  | cons x xs ih =>
    cases xs with
    | nil => rfl
    | cons y ys =>
      simp only [List.intercalate, List.map_cons, List.intersperse, List.flatten_cons] at ih ⊢
      rw [ih]
      rfl
set_option maxRecDepth 100000 in
theorem format_vars (u : Value) (vs : List Int) (S : Nat → Prop) (w : World) (hr : rowC.rd w S [u] vs) (h4 : In4 vs) (h8 : vs.length ≤ 8) :
    Calls Tryz.prog 58 #[u] w fun e w' => e = .returned (.string ⟨(vs.map vb).toArray⟩) ∧ Below w.heap.size w w' := by
  have HMP := Lib.hid (map_names u vs S w hr h8)
  have HJ := Lib.hid (fun g fp w' base (how : strsC.ow w' base [.slice (some ⟨g, 0, none⟩) vs.length vs.length] (nmL vs) fp) => (show Calls Tryz.prog 105 #[.slice (some ⟨g, 0, none⟩) vs.length vs.length, .string ⟨#[]⟩] w' fun e w'' => e = .returned (.string ⟨(vs.map vb).toArray⟩) ∧ Below w'.heap.size w' w'' from by
    have hl : (vs.map vnm).length = vs.length := List.length_map ..
    have h := join_strs g (vs.map vnm) ⟨#[]⟩ fp w' base (by rw [hl]; exact how) (by omega) (by rw [show (ByteArray.mk #[]).data.toList = [] from rfl, join_names vs h4, List.length_map]; omega)
    rw [hl, show (ByteArray.mk #[]).data.toList = [] from rfl, join_names vs h4] at h
    exact h))
  obtain ⟨a, cap, rfl, hlm, _⟩ := (row_ri hr).1
  clear hr h4 h8
  go_enter Tryz.func58, Tryz.ntmps58
  go_wp2_with fail
  refine HMP.out.mono ?_
  rintro e w1 ⟨g, fp, rfl, how, hnd, hb1⟩
  have HJ1 := Lib.hid (HJ.out g fp w1 _ how)
  have HB1 := Lib.hid hb1
  clear how hnd hb1
  go_wp2_with fail
  refine HJ1.out.mono ?_
  rintro e w2 ⟨rfl, hb2⟩
  have HB2 := Lib.hid (below_then HB1.out hb2)
  clear hb2
  go_wp2_with fail
  go_ret
  exact ⟨rfl, HB2.out⟩
end Go.Proofs.YtdkhgeknjekkoaaGreat.QryFmt

namespace Go.Proofs.YtdkhgeknjekkoaaGreat.QryFmt
open Go Go.RowKit Byt Ints IntsLaw Cd Rows2 Tab TabSpec Exact Atom QryMath QrySpec QryImp MkAtom SlMath

set_option maxRecDepth 100000 in
set_option maxHeartbeats 3200000 in
theorem spec_fmt (n : Int) (u : Value) (l : List A2) (S : Nat → Prop) (w : World) (hr : atomsC.rd w S [u] l) :
    Calls Tryz.prog 153 #[.agg #[.int .i64 n, u]] w fun e w' => e = .returned (.string (fmtQ n l)) ∧ Below w.heap.size w w' := by
  have HR := Lib.hid (fun w' (hb : Below w.heap.size w w') => Cd.later hr hb)
  have HV := Lib.hid (fun w' (hb : Below w.heap.size w w') => spec_valid n u l S w' (Cd.later hr hb))
  obtain ⟨a, cap, rfl, hlm⟩ := Cd.sl_form hr
  clear hr
  have HC := Lib.hid (Loc2.of (row_alloc w (.cells #[.int .i64 n, .slice a l.length cap] 29)))
  have HB := Lib.hid (below_alloc w (.cells #[.int .i64 n, .slice a l.length cap] 29))
  cases hq : qOk n l
  · have HZ := Lib.hid (fmtQ_no hq)
    rw [hq] at HV
    clear hq
    go_enter Tryz.func153, Tryz.ntmps153
    go_wp2_with fail
    generalize w.alloc _ = W at *
    go_loopw [3, 4] (fun s i wr => s = .string ⟨#[]⟩ ∧ i = .int .i64 0 ∧ wr = W) (fun _ _ _ => 0)
    case atStart => exact ⟨rfl, rfl, rfl⟩
    case round =>
      obtain ⟨rfl, rfl, rfl⟩ := hrel
      have c0 := HC.out.c0
      have c1 := HC.out.c1
      by_cases h0 : (0 : Int) < (l.length : Int)
      · go_wp2_with fail
        refine (HV.out _ HB.out).mono ?_
        rintro e w1 ⟨rfl, hb1⟩
        have HB1 := Lib.hid (below_then HB.out hb1)
        clear hb1
        go_wp2_with fail
        go_ret
        exact ⟨ret_str HZ.out.symm, HB1.out⟩
      · go_wp2_with fail
        go_ret
        exact ⟨ret_str HZ.out.symm, HB.out⟩
  rw [hq] at HV
  have HZ := Lib.hid (fmtQ_yes hq)
  have hp := qOk_iff.1 hq
  have HP := Lib.hid hp
  have hlen := hp.2.2.2.1
  clear hq hp
  go_enter Tryz.func153, Tryz.ntmps153
  go_wp2_with fail
  generalize w.alloc _ = W at *
  go_loopw [3, 4] (fun s i wr => ∃ k : Nat, k ≤ l.length ∧ i = .int .i64 k ∧ s = .string ⟨(qB (l.take k)).toArray⟩ ∧ Below W.heap.size W wr) (fun _ i _ => l.length - (intOf i).toNat)
  case atStart => exact ⟨0, Nat.zero_le _, rfl, by simp [qB], Below.refl _ _⟩
  case round =>
    obtain ⟨k, hk, rfl, rfl, hbw⟩ := hrel
    have HBW := Lib.hid hbw
    have c0 := (HC.out.later hbw).c0
    have c1 := (HC.out.later hbw).c1
    have HCW := Lib.hid (HC.out.later hbw)
    have HVW := Lib.hid (HV.out wr (below_then HB.out hbw))
    by_cases hlt : k < l.length
    · obtain ⟨b, off, cap', au, cu, e1, hbB, d0, d1, hs1, hu, hroom⟩ := atom_at2 (HR.out wr (below_then HB.out hbw)) hlt
      injection e1 with e1 e2 e3
      subst e1 e3
      have p1 : (0 : Int) ≤ (k : Int) := by omega
      have p2 : (k : Int) < (l.length : Int) := by omega
      have p5 : (k : Int) < 4 := by omega
      have hat := HP.out.2.2.2.2.1 _ (List.getElem_mem hlt)
      have h4 := HP.out.in4 _ (List.getElem_mem hlt)
      have hD : (⟨(l[k].2.map vb).toArray⟩ : ByteArray).size ≤ 3 := by show (l[k].2.map vb).toArray.size ≤ 3; rw [List.size_toArray, List.length_map]; exact hat.2.2.1
      have hN := hat.name
      have hPs : (⟨(qB (l.take k)).toArray⟩ : ByteArray).size ≤ 28 := by
        show (qB (l.take k)).toArray.size ≤ 28
        rw [List.size_toArray]
        have := qB_len_le (l := l.take k) (fun A hA => ⟨(HP.out.2.2.2.2.1 A (List.mem_of_mem_take hA)).name, (HP.out.2.2.2.2.1 A (List.mem_of_mem_take hA)).2.2.1⟩)
        rw [List.length_take] at this
        omega
      have HNX0 := Lib.hid (show k = 0 → (⟨(qB (l.take (k + 1))).toArray⟩ : ByteArray) = ⟨(qB (l.take k)).toArray⟩ ++ l[k].1 ++ ⟨#[40]⟩ ++ ⟨(l[k].2.map vb).toArray⟩ ++ ⟨#[41]⟩ from fun h => by
        subst h
        rw [qB_one hlt]
        generalize l[0] = A
        obtain ⟨⟨⟨nl⟩⟩, vs⟩ := A
        simp [atomB, qB, ByteArray.mk_append_mk])
      have HNX1 := Lib.hid (show 0 < k → (⟨(qB (l.take (k + 1))).toArray⟩ : ByteArray) = ⟨(qB (l.take k)).toArray⟩ ++ ⟨#[32]⟩ ++ l[k].1 ++ ⟨#[40]⟩ ++ ⟨(l[k].2.map vb).toArray⟩ ++ ⟨#[41]⟩ from fun h => by
        rw [qB_succ hlt h]
        generalize l[k] = A
        obtain ⟨⟨⟨nl⟩⟩, vs⟩ := A
        simp [atomB, ByteArray.mk_append_mk])
      have HNM := Lib.hid (fun w' (hb : Below wr.heap.size wr w') => (show ∀ q, Calls Tryz.prog 61 #[.slice au l[k].2.length cu] (w'.drewN q) fun e w'' => e = .returned (.string ⟨(l[k].2.map vb).toArray⟩) ∧ w'' = w'.drewN q from fun q => (spec_names _ l[k].2 _ (w'.drewN q) (ri_drewN (row_ri (Cd.later hu hb)).1 q) h4 (by have := hat.2.2.1; omega)).mono fun _ _ h => ⟨h.1, h.2.symm⟩))
      have HD := Lib.hid (And.intro (And.intro hbB d0) d1)
      have HN := Lib.hid hN
      have HDS := Lib.hid hD
      have HPS := Lib.hid hPs
      have HLT := Lib.hid hlt
      clear hu hbw hat h4 hN hD hPs d0 d1
      generalize (⟨(qB (l.take k)).toArray⟩ : ByteArray) = P at *
      generalize (⟨(l[k].2.map vb).toArray⟩ : ByteArray) = D at *
      generalize l[k].1 = N at *
      generalize l[k].2.length = ln at *
      go_wp2_with fail
      refine HVW.out.mono ?_
      rintro e w1 ⟨rfl, hb1⟩
      have HB1 := Lib.hid (below_then HBW.out hb1)
      have y0 := (HCW.out.later hb1).c0
      have y1 := (HCW.out.later hb1).c1
      have z0 := (hb1.cell (p := ⟨b, off + k * 2, none⟩) HD.out.1.1).trans HD.out.1.2
      have z1 := (hb1.cell (p := ⟨b, off + k * 2 + 1, none⟩) HD.out.1.1).trans HD.out.2
      have HNM1 := Lib.hid (HNM.out w1 hb1)
      clear hb1 c0 c1
      by_cases hk0 : k = 0
      · have HNX := Lib.hid (HNX0.out hk0)
        have l1 : ¬ 9223372036854775807 < P.size + N.size := by have := HPS.out; have := HN.out; omega
        have l2 : ¬ 9223372036854775807 < P.size + N.size + 1 := by have := HPS.out; have := HN.out; omega
        have l3 : ¬ 9223372036854775807 < P.size + N.size + 1 + D.size := by have := HPS.out; have := HN.out; have := HDS.out; omega
        have l4 : ¬ 9223372036854775807 < P.size + N.size + 1 + D.size + 1 := by have := HPS.out; have := HN.out; have := HDS.out; omega
        have k0 : ¬ 0 < (k : Int) := by omega
        have k1 : ¬ 0 < k := by omega
        clear hk0
        go_wp2
        go_quiet (first | (go_at_call 61; refine Calls.quiet_of_same (HNM1.out _)))
        go_wp2
        go_roundw
        case rel => exact ⟨k + 1, by have := HLT.out; omega, by go_num, by rw [HNX.out], QryImp.below_drewN HB1.out⟩
        case measure => have := HLT.out; simp [intOf]; omega
      · have HNX := Lib.hid (HNX1.out (by omega))
        have l0 : ¬ 9223372036854775807 < P.size + 1 := by have := HPS.out; omega
        have l1 : ¬ 9223372036854775807 < P.size + 1 + N.size := by have := HPS.out; have := HN.out; omega
        have l2 : ¬ 9223372036854775807 < P.size + 1 + N.size + 1 := by have := HPS.out; have := HN.out; omega
        have l3 : ¬ 9223372036854775807 < P.size + 1 + N.size + 1 + D.size := by have := HPS.out; have := HN.out; have := HDS.out; omega
        have l4 : ¬ 9223372036854775807 < P.size + 1 + N.size + 1 + D.size + 1 := by have := HPS.out; have := HN.out; have := HDS.out; omega
        have k0 : 0 < (k : Int) := by omega
        have k1 : 0 < k := by omega
        clear hk0
        go_wp2
        go_quiet (first | (go_at_call 61; refine Calls.quiet_of_same (HNM1.out _)))
        go_wp2
        go_roundw
        case rel => exact ⟨k + 1, by have := HLT.out; omega, by go_num, by rw [HNX.out], QryImp.below_drewN HB1.out⟩
        case measure => have := HLT.out; simp [intOf]; omega
    · have ek : k = l.length := by omega
      subst ek
      rw [List.take_length] at *
      clear hbw
      go_wp2_with fail
      go_ret
      exact ⟨ret_str HZ.out.symm, below_then HB.out HBW.out⟩
end Go.Proofs.YtdkhgeknjekkoaaGreat.QryFmt

namespace Go.Proofs.YtdkhgeknjekkoaaGreat.QryFmt
open Go Go.RowKit Byt Ints IntsLaw Cd Rows2 Tab TabSpec Exact Atom QryMath QrySpec QryImp MkAtom SlMath
open TabParse (strC strsC info_str)

theorem qB_join : ∀ l : List (ByteArray × List Int), Lib.join (l.map atomB) [32] = qB l
  | [] => rfl
  | [A] => by simp [qB, Lib.join, List.intercalate]
  | A :: B :: As => by
    have := qB_join (B :: As)
    simp only [Lib.join, List.intercalate, List.map_cons, List.intersperse, List.flatten_cons] at this ⊢
    rw [this]
    simp [qB]
end Go.Proofs.YtdkhgeknjekkoaaGreat.QryFmt

namespace Go.Proofs.YtdkhgeknjekkoaaGreat.Draw
open Go Go.RowKit Byt

/-- v is a slice of the bytes l, which lie below block B. -/
def Reads (w : World) (v : Value) (l : List UInt8) (B : Nat) : Prop :=
  ∃ (a : Option Addr) (cap : Nat), v = .slice a l.length cap ∧ l.length ≤ 9223372036854775807 ∧
    (l = [] ∨ ∃ b off, a = some ⟨b, off, none⟩ ∧ b < B ∧ ∀ t, (h : t < l.length) → w.cell? ⟨b, off + t, none⟩ = some (.int .u8 (l[t].toNat : Int)))

theorem Reads.later {w w' : World} {v : Value} {l : List UInt8} {B : Nat} (h : Reads w v l B) (hb : Below B w w') : Reads w' v l B := by
  obtain ⟨a, cap, hv, hl, hc⟩ := h
  refine ⟨a, cap, hv, hl, hc.imp id ?_⟩
  rintro ⟨b, off, ha, hB, hcell⟩
  exact ⟨b, off, ha, hB, fun t ht => (hb.cell (p := ⟨b, off + t, none⟩) hB).trans (hcell t ht)⟩
end Go.Proofs.YtdkhgeknjekkoaaGreat.Draw

namespace Go.Proofs.YtdkhgeknjekkoaaGreat.QryPar
open Go Go.RowKit Byt Ints IntsLaw Cd Rows2 Tab TabSpec Exact Atom QryMath QrySpec QryImp MkAtom SlMath Draw
open TabParse (strC strsC info_str cutB ba)
open QryFmt (KeptF strs_at)

theorem info_atom : (Tryz.prog.info? 48).map (fun i => (i.zero, i.size, i.bytes)) = some (some (.agg #[.string ⟨#[]⟩, .slice none 0 0]), 2, 40) := by kernel_rfl
theorem at2 {w : World} {b : Nat} {x y : Value} {e : TypeId} (h : w.heap[b]? = some (.cells #[x, y] e (0, 0))) : Cd.At w b 0 [x, y] := fun j hj => by
  obtain ⟨h0, h1, _⟩ := row2 h
  match j, hj with
  | 0, _ => exact h0
  | 1, _ => exact h1

/-- The number of a variable's name, -1 of any other byte. -/
def ix (b : UInt8) : Int := Lib.indexByte [88, 89, 90, 85] b
def ixs (l : List UInt8) : List Int := l.map ix
theorem ix_vb {x : Int} (h : 0 ≤ x ∧ x < 4) : ix (vb x) = x := by
  rcases c4 h with rfl | rfl | rfl | rfl <;> decide
theorem ix_bd (b : UInt8) : -1 ≤ ix b ∧ ix b ≤ 3 := by
  unfold ix
  simp only [Lib.indexByte]
  (repeat' split) <;> simp
/-- The atom that the program reads of a word. -/
def atI (x : List UInt8) : A2 := (⟨(Lib.cut (Lib.trimSuffix x [41]) [40]).1.toArray⟩, ixs (Lib.cut (Lib.trimSuffix x [41]) [40]).2.1)
theorem index_hit (c : UInt8) : ∀ (a b : List UInt8), c ∉ a → Lib.index (a ++ c :: b) [c] = a.length
  | [], b, _ => by simp [Lib.index, List.isPrefixOf]
  | x :: a, b, h => by
    have hx : ¬ c = x := fun q => h (by rw [q]; exact List.mem_cons_self)
    have ih := index_hit c a b (fun q => h (List.mem_cons_of_mem _ q))
    have hp : List.isPrefixOf [c] (x :: (a ++ c :: b)) = false := by
      have : (c == x) = false := by rw [beq_eq_false_iff_ne]; exact hx
      simp [List.isPrefixOf, this]
    show Lib.index (x :: (a ++ c :: b)) [c] = _
    unfold Lib.index
    rw [hp, ih]
    have : ((a.length : Int) == -1) = false := by rw [beq_eq_false_iff_ne]; omega
    rw [this]
    simp
theorem cut_hit (c : UInt8) (a b : List UInt8) (h : c ∉ a) : Lib.cut (a ++ c :: b) [c] = (a, b, true) := by
  unfold Lib.cut
  rw [index_hit c a b h, if_pos (by omega)]
  simp
theorem cut_bd (c : UInt8) (l : List UInt8) : (Lib.cut l [c]).1.length ≤ l.length ∧ (Lib.cut l [c]).2.1.length ≤ l.length := by
  unfold Lib.cut
  split
  · simp only [List.length_take, List.length_drop]
    omega
  · simp
theorem trim_bd (l p : List UInt8) : (Lib.trimSuffix l p).length ≤ l.length := by
  unfold Lib.trimSuffix
  split
  · rw [List.length_take]; omega
  · exact Nat.le_refl _
theorem trim_hit (l : List UInt8) : Lib.trimSuffix (l ++ [41]) [41] = l := by
  unfold Lib.trimSuffix Lib.hasSuffix
  have : List.isSuffixOf [41] (l ++ [41]) = true := by
    rw [List.isSuffixOf_iff_suffix]
    exact List.suffix_append l [41]
  rw [this]
  simp
theorem atI_atomB {n : Int} {A : A2} (h : AtP n A) (h4 : n ≤ 4) : atI (atomB A) = A := by
  have hn := of_decide_eq_true h.1
  have hl : A.1.data.toList.length = 1 := by rw [Array.length_toList]; exact hn.1
  obtain ⟨⟨⟨nm⟩⟩, vs⟩ := A
  match nm, hl with
  | [y], _ =>
    have hv : ∀ vs : List Int, In4 vs → ixs (vs.map vb) = vs := by
      intro vs
      induction vs with
      | nil => intro _; rfl
      | cons x xs ih =>
        intro hi
        have h1 := ih fun y hy => hi y (List.mem_cons_of_mem _ hy)
        unfold ixs at *
        rw [List.map_cons, List.map_cons, ix_vb (hi x List.mem_cons_self), h1]
    have hin : In4 vs := fun x hx => by have := h.2.2.2.1 x hx; omega
    have hy : (40 : UInt8) ∉ [y] := by
      intro q
      rw [List.mem_singleton] at q
      have h2 := hn.2.1
      simp only [List.headD_cons] at h2
      rw [← q] at h2
      exact absurd h2 (by decide)
    have e : atomB (⟨⟨[y]⟩⟩, vs) = ([y] ++ 40 :: vs.map vb) ++ [41] := by simp [atomB]
    unfold atI
    rw [e, trim_hit, cut_hit 40 _ _ hy]
    simp only
    rw [hv vs hin]
/-- The words of a string, as the program cuts it. -/
def wordsK (l : List UInt8) : List (List UInt8) := Lib.splitK [32] 0 (Lib.count l [32]) l
theorem words_of : ∀ (x : List UInt8) (xs : List (List UInt8)), (∀ y ∈ x :: xs, ∀ b ∈ y, b ≠ (32 : UInt8)) → wordsK (x ++ (xs.map fun y => 32 :: y).flatten) = x :: xs
  | x, [], h => by
    have h0 : x.count 32 = 0 := List.count_eq_zero.2 fun q => h x List.mem_cons_self 32 q rfl
    unfold wordsK
    simp only [List.map_nil, List.flatten_nil, List.append_nil]
    rw [Lib.count_one, h0]
    rfl
  | x, y :: ys, h => by
    have h0 : x.count 32 = 0 := List.count_eq_zero.2 fun q => h x List.mem_cons_self 32 q rfl
    have ih := words_of y ys fun z hz => h z (List.mem_cons_of_mem _ hz)
    have hnx : (32 : UInt8) ∉ x := fun q => h x List.mem_cons_self 32 q rfl
    have e : x ++ ((y :: ys).map fun y => 32 :: y).flatten = x ++ 32 :: (y ++ (ys.map fun y => 32 :: y).flatten) := by simp
    unfold wordsK at *
    rw [e]
    generalize y ++ (ys.map fun y => 32 :: y).flatten = t at *
    have hc : Lib.count (x ++ 32 :: t) [32] = Lib.count t [32] + 1 := by
      rw [Lib.count_one, Lib.count_one, List.count_append, h0, List.count_cons_self]
      omega
    rw [hc]
    unfold Lib.splitK
    rw [index_hit 32 x t hnx]
    have hne : ((x.length : Int) == -1) = false := by rw [beq_eq_false_iff_ne]; omega
    rw [hne]
    simp only [Bool.false_eq_true, if_false, Int.toNat_natCast, Nat.add_zero, List.length_cons, List.length_nil]
    have e1 : (x ++ 32 :: t).take x.length = x := by simp
    have e2 : (x ++ 32 :: t).drop (x.length + (0 + 1)) = t := by
      rw [List.drop_append]
      simp
    rw [e1, e2, ih]
theorem words_qB {n : Int} {l : List A2} (h : QP n l) : wordsK (qB l) = l.map atomB := by
  have ha := h.2.2.2.2.1
  have h1 := h.2.2.1
  match l, h1 with
  | A :: As, _ =>
    have := words_of (atomB A) (As.map atomB) (fun y hy => by
      have hy2 : y ∈ (A :: As).map atomB := hy
      obtain ⟨B, hB, rfl⟩ := List.mem_map.1 hy2
      exact noSp_atomB (ha B hB))
    rw [List.map_map] at this
    exact this
def iL (s : ByteArray) : List A2 := (wordsK s.data.toList).map atI
def iN (s : ByteArray) : Int := mx (allV (iL s))
def iOk (s : ByteArray) : Bool := qOk (iN s) (iL s) && decide (fmtQ (iN s) (iL s) = s)
theorem iOk_iff {s : ByteArray} : iOk s = true ↔ qOk (iN s) (iL s) = true ∧ fmtQ (iN s) (iL s) = s := by unfold iOk; simp
theorem i_of_p {s : ByteArray} (h : pOk s = true) : iOk s = true ∧ iN s = pN s ∧ iL s = pL s := by
  obtain ⟨h1, h2⟩ := pOk_iff.1 h
  have hq := qOk_iff.1 h1
  have e : s.data.toList = qB (pL s) := by
    conv => lhs; rw [← h2, fmtQ_yes h1]
  have e2 : iL s = pL s := by
    unfold iL
    rw [e, words_qB hq, List.map_map]
    have : ∀ A ∈ pL s, (atI ∘ atomB) A = A := fun A hA => atI_atomB (hq.2.2.2.2.1 A hA) hq.2.1
    rw [List.map_congr_left this, List.map_id']
  have e3 : iN s = pN s := by unfold iN; rw [e2, mx_all hq]
  exact ⟨by unfold iOk; rw [e2, e3, h1, h2]; simp, e3, e2⟩
theorem p_of_i {s : ByteArray} (h : iOk s = true) : pOk s = true := by
  obtain ⟨h1, h2⟩ := iOk_iff.1 h
  exact (of_fmt h1 h2).2.2.2
theorem i_no {s : ByteArray} (h : iOk s = false) : pOk s = false := by
  cases hp : pOk s
  · rfl
  · rw [(i_of_p hp).1] at h; cases h
/-- What is read of a string. -/
def QAns (s : ByteArray) (w : World) (e : Ending) (w' : World) : Prop :=
  ∃ u fp, e = .returned (.tuple #[.agg #[.int .i64 (if pOk s then pN s else 0), u], .bool (pOk s)]) ∧ atomsC.ow w' w.heap.size [u] (if pOk s then pL s else []) fp ∧ fp.Nodup ∧ Below w.heap.size w w'
theorem QAns.no {s : ByteArray} {w w' : World} (h : pOk s = false) (hb : Below w.heap.size w w') : QAns s w (.returned (.tuple #[.agg #[.int .i64 0, .slice none 0 0], .bool false])) w' :=
  ⟨.slice none 0 0, [], by simp [h], by rw [h]; exact Cd.ow_nil _ _, by simp, hb⟩
theorem QAns.yes {s : ByteArray} {w w' : World} {n : Int} {l : List A2} {u : Value} {fp : List Nat} (h : pOk s = true) (e1 : n = pN s) (e2 : l = pL s) (ho : atomsC.ow w' w.heap.size [u] l fp) (hn : fp.Nodup) (hb : Below w.heap.size w w') : QAns s w (.returned (.tuple #[.agg #[.int .i64 n, u], .bool true])) w' := by
  subst e1 e2
  exact ⟨u, fp, by simp [h], by rw [h]; exact ho, hn, hb⟩

end Go.Proofs.YtdkhgeknjekkoaaGreat.QryPar

namespace Go.Proofs.YtdkhgeknjekkoaaGreat.AnsC
open Go Go.RowKit Byt Ints IntsLaw Cd Rows2 Tab TabSpec Exact Atom

/-- An answer: its variables and its rows. -/
abbrev ansC : Cd (List Int × List (List Int)) := Cd.pair rowC rowsC
theorem ans_ow {w : World} {base : Nat} {v1 v2 : Value} {V : List Int} {R : List (List Int)} {f1 f2 : List Nat} (h1 : rowC.ow w base [v1] V f1) (h2 : rowsC.ow w base [v2] R f2) : ansC.ow w base [v1, v2] (V, R) (f1 ++ f2) := ⟨[v1], [v2], f1, f2, rfl, rfl, h1, h2⟩
theorem ans_rd {w : World} {S : Nat → Prop} {v1 v2 : Value} {V : List Int} {R : List (List Int)} (h1 : rowC.rd w S [v1] V) (h2 : rowsC.rd w S [v2] R) : ansC.rd w S [v1, v2] (V, R) := ⟨[v1], [v2], rfl, h1, h2⟩
theorem ans_parts {w : World} {base : Nat} {v1 v2 : Value} {V : List Int} {R : List (List Int)} {fp : List Nat} (h : ansC.ow w base [v1, v2] (V, R) fp) : ∃ f1 f2, fp = f1 ++ f2 ∧ rowC.ow w base [v1] V f1 ∧ rowsC.ow w base [v2] R f2 := by
  obtain ⟨u1, u2, f1, f2, e, rfl, h1, h2⟩ := h
  have l1 := rowC.len (rowC.ow_rd h1)
  match u1, l1 with
  | [x], _ =>
    simp only [List.cons_append, List.nil_append, List.cons.injEq] at e
    obtain ⟨rfl, rfl⟩ := e
    exact ⟨f1, f2, rfl, h1, h2⟩
theorem ans_reads {w : World} {S : Nat → Prop} {v1 v2 : Value} {V : List Int} {R : List (List Int)} (h : ansC.rd w S [v1, v2] (V, R)) : rowC.rd w S [v1] V ∧ rowsC.rd w S [v2] R := by
  obtain ⟨u1, u2, e, h1, h2⟩ := h
  have l1 := rowC.len h1
  match u1, l1 with
  | [x], _ =>
    simp only [List.cons_append, List.nil_append, List.cons.injEq] at e
    obtain ⟨rfl, rfl⟩ := e
    exact ⟨h1, h2⟩
theorem ans_form {w : World} {S : Nat → Prop} {v1 v2 : Value} {V : List Int} {R : List (List Int)} (h : ansC.rd w S [v1, v2] (V, R)) : ∃ a c a' c', v1 = .slice a V.length c ∧ v2 = .slice a' R.length c' ∧ V.length ≤ 9223372036854775807 ∧ R.length ≤ 9223372036854775807 := by
  obtain ⟨h1, h2⟩ := ans_reads h
  obtain ⟨a, c, rfl, l1⟩ := row_form h1
  obtain ⟨a', c', rfl, l2⟩ := rows_form h2
  exact ⟨a, c, a', c', rfl, rfl, l1, l2⟩
theorem ans_shape {w : World} {base : Nat} {v1 v2 : Value} {V : List Int} {R : List (List Int)} {fp : List Nat} (h : ansC.ow w base [v1, v2] (V, R) fp) : ∃ a c a' c', v1 = .slice a V.length c ∧ v2 = .slice a' R.length c' := by
  obtain ⟨a, c, a', c', e1, e2, _⟩ := ans_form (ansC.ow_rd h)
  exact ⟨a, c, a', c', e1, e2⟩
def ansWt (V : List Int) (R : List (List Int)) : Nat := V.length + rowsWt R
end Go.Proofs.YtdkhgeknjekkoaaGreat.AnsC

namespace Go.Proofs.YtdkhgeknjekkoaaGreat.AnsEv
open Go Go.RowKit Byt Ints IntsLaw Cd Rows2 Tab TabSpec Exact Atom QryMath QrySpec QryImp MkAtom AnsMath SlMath TabOpen TabElem QgMath AnsSpec AnsQ DbMath DbSpec Db DbExact QryFor AnsC

/-- Two cells as they are. -/
def raw2 : Cd (Value × Value) where
  n := 2
  rd _ _ us a := us = [a.1, a.2] ∧ a.1.oneCell' = true ∧ a.2.oneCell' = true
  ow _ _ us a fp := us = [a.1, a.2] ∧ (a.1.oneCell' = true ∧ a.2.oneCell' = true) ∧ fp = []
  pos := by decide
  len h := by rw [h.1]; rfl
  one h := by
    rw [h.1]
    intro u hu
    rcases List.mem_cons.1 hu with rfl | q
    · exact h.2.1
    · rw [List.mem_singleton.1 q]; exact h.2.2
  keep h _ := h
  mono h _ := h
  ow_rd h := ⟨h.1, h.2.1⟩
  ow_keep h _ := h
  ow_lt h := by rw [h.2.2]; intro b hb; cases hb
  ow_base h _ := h
theorem raw_rd {α : Type} {c : Cd α} (hn : c.n = 2) {e : TypeId} {w : World} {base : Nat} {v : Value} {ps : List (Value × Value)} {fp : List Nat} {l : List α} {S : Nat → Prop} (ho : (Cd.sl e raw2).ow w base [v] ps fp) (hl : ps.length = l.length)
    (he : ∀ i (h : i < ps.length) (h' : i < l.length), c.rd w S [ps[i].1, ps[i].2] l[i]) (hS : ∀ b ∈ fp, S b) : (Cd.sl e c).rd w S [v] l := by
  obtain ⟨ad, cap, e1, hlm, hc⟩ := (Cd.sl e raw2).ow_rd ho
  injection e1 with e1 _
  subst e1
  refine ⟨ad, cap, by rw [hl], hl ▸ hlm, ?_⟩
  rcases hc with h0 | ⟨b, off, e1, hb, hlt, hcell⟩
  · left
    exact List.eq_nil_of_length_eq_zero (by rw [← hl, h0]; rfl)
  · right
    refine ⟨b, off, e1, hS b hb, hlt, fun t ht => ?_⟩
    obtain ⟨xs, h1, h2⟩ := hcell t (by omega)
    have h3 : xs = [ps[t].1, ps[t].2] := h2.1
    subst h3
    exact ⟨_, by rw [hn]; exact h1, he t _ ht⟩

def EvAns (V : List Int) (R : List (List Int)) (ok : Bool) (w : World) (e : Ending) (w' : World) : Prop :=
  ∃ v1 v2 fp, e = .returned (.tuple #[.agg #[v1, v2], .bool ok]) ∧ ansC.ow w' w.heap.size [v1, v2] (V, R) fp ∧ fp.Nodup ∧ Below w.heap.size w w'
theorem EvAns.no {w w' : World} (hb : Below w.heap.size w w') : EvAns [] [] false w (.returned (.tuple #[.agg #[.slice none 0 0, .slice none 0 0], .bool false])) w' :=
  ⟨_, _, [], rfl, ans_ow (Cd.ow_nil _ _) (Cd.ow_nil _ _), by simp, hb⟩
theorem ev_no {d : List T3} {n m : Int} {l : List A2} (h : evOk d n l m = false) : evV d n l m = [] ∧ evR d n l m = [] := by unfold evV evR; rw [h]; exact ⟨rfl, rfl⟩
theorem Loc2.set_both {w : World} {X : Nat} {a b : Value} (h : Atom.Loc2 w X a b) (x y : Value) : Atom.Loc2 ((w.setCell ⟨X, 0, none⟩ x).setCell ⟨X, 1, none⟩ y) X x y := by
  obtain ⟨h1, h2⟩ := set2 (w := w) (k := X) (x := x) (y := y) h.c0 h.c1
  exact ⟨h1, h2, by simpa using h.f0, by simpa using h.f1⟩

/-- A local table whose rows the call owns, made behind W. -/
def MadeO (W : World) (T : T3) (s : Value) (wx : World) : Prop :=
  ∃ k ta tc fp, s = .pointer (some ⟨k, 0, none⟩) ∧ W.heap.size ≤ k ∧ Loc3 wx k (.string T.1) (.int .i64 T.2.1) (.slice ta T.2.2.length tc) ∧ rowsC.ow wx W.heap.size [.slice ta T.2.2.length tc] T.2.2 fp ∧ fp.Nodup ∧ LaterQ W wx
theorem madeO {W wq : World} {k B : Nat} {x0 x1 x2 : Value} {T : T3} {ta : Option Addr} {tc : Nat} {fp : List Nat} (kk : LaterQ W wq) (hb : W.heap.size ≤ k) (GL : Loc3 wq k x0 x1 x2)
    (how : rowsC.ow wq B [.slice ta T.2.2.length tc] T.2.2 fp) (hnd : fp.Nodup) (hB : k < B) :
    MadeO W T (.pointer (some ⟨k, 0, none⟩)) (((wq.setCell ⟨k, 0, none⟩ (.string T.1)).setCell ⟨k, 1, none⟩ (.int .i64 T.2.1)).setCell ⟨k, 2, none⟩ (.slice ta T.2.2.length tc)) := by
  obtain ⟨c0, c1, c2, f0, f1, f2⟩ := GL
  obtain ⟨k0, k1, k2⟩ := set3 (w := wq) (k := k) (x := .string T.1) (y := .int .i64 T.2.1) (z := .slice ta T.2.2.length tc) c0 c1 c2
  have hk : k ∉ fp := fun q => by have := (rowsC.ow_lt how k q).1; omega
  exact ⟨k, ta, tc, fp, rfl, hb, ⟨k0, k1, k2, by simpa using f0, by simpa using f1, by simpa using f2⟩, ow_setCell (c := rowsC) (ow_setCell (c := rowsC) (ow_setCell (c := rowsC) (rowsC.ow_base how (by omega)) hk _) hk _) hk _, hnd, later_set3 kk hb⟩
theorem madeO2 {W wq : World} {B : Nat} {e : TypeId} {T : T3} {ta : Option Addr} {tc : Nat} {fp : List Nat} (kk : LaterQ W wq) (how : rowsC.ow wq B [.slice ta T.2.2.length tc] T.2.2 fp) (hnd : fp.Nodup) (hB : W.heap.size ≤ B) :
    MadeO W T (.pointer (some ⟨wq.heap.size, 0, none⟩)) (wq.alloc (.cells #[.string T.1, .int .i64 T.2.1, .slice ta T.2.2.length tc] e (0, 0))) :=
  ⟨wq.heap.size, ta, tc, fp, rfl, later_size kk, Loc3.of (start1 wq _ rfl).1, Cd.ow_later (rowsC.ow_base how hB) (below_alloc wq _), hnd, later_alloc kk _⟩
end Go.Proofs.YtdkhgeknjekkoaaGreat.AnsEv

namespace Go.Proofs.YtdkhgeknjekkoaaGreat.QryImp
open Go Go.RowKit Byt Ints IntsLaw Cd Rows2 Tab TabSpec Exact Atom QryMath QrySpec MkAtom SlMath

theorem pow_len {k : Nat} (h : k ≤ 4) : IntKind.i64.wrap (2 ^ k) = 2 ^ k ∧ (1 : Int) ≤ 2 ^ k ∧ (2 : Int) ^ k ≤ 16 := by
  have : k = 0 ∨ k = 1 ∨ k = 2 ∨ k = 3 ∨ k = 4 := by omega
  rcases this with rfl | rfl | rfl | rfl | rfl <;> decide
theorem mOk_nat {n : Int} {l : List A2} {m : Int} (h : mOk n l m = true) : qOk n l = true ∧ l.length ≤ 4 ∧ ∃ t : Nat, m = (t : Int) ∧ t < 16 := by
  unfold mOk at h
  rw [Bool.and_eq_true, decide_eq_true_eq] at h
  have h4 := (qOk_iff.1 h.1).2.2.2.1
  obtain ⟨t, rfl⟩ := Int.eq_ofNat_of_zero_le h.2.1
  have := (pow_len h4).2.2
  exact ⟨h.1, h4, t, rfl, by omega⟩
set_option maxRecDepth 100000 in
theorem spec_mask (n m : Int) (u : Value) (l : List A2) (S : Nat → Prop) (w : World) (hr : atomsC.rd w S [u] l) :
    Calls Tryz.prog 99 #[.agg #[.int .i64 n, u], .int .i64 m] w fun e w' => e = .returned (.bool (mOk n l m)) ∧ Below w.heap.size w w' := by
  have HV := Lib.hid (fun w' (hb : Below w.heap.size w w') => spec_valid n u l S w' (Cd.later hr hb))
  obtain ⟨a, cap, rfl, hlm⟩ := Cd.sl_form hr
  clear hr
  have HC := Lib.hid (Loc2.of (row_alloc w (.cells #[.int .i64 n, .slice a l.length cap] 29)))
  have HB := Lib.hid (below_alloc w (.cells #[.int .i64 n, .slice a l.length cap] 29))
  cases hq : qOk n l
  · have HZ := Lib.hid (show mOk n l m = false by unfold mOk; rw [hq]; rfl)
    rw [hq] at HV
    clear hq
    go_enter Tryz.func99, Tryz.ntmps99
    go_wp2_with fail
    generalize w.alloc _ = W at *
    refine (HV.out _ HB.out).mono ?_
    rintro e w1 ⟨rfl, hb1⟩
    have HB1 := Lib.hid (below_then HB.out hb1)
    clear hb1
    go_wp2_with fail
    go_ret
    exact ⟨ret_b HZ.out.symm, HB1.out⟩
  rw [hq] at HV
  have h4 := (qOk_iff.1 hq).2.2.2.1
  have hpw := pow_len h4
  have hI := fun w => Fixed.l1In_any m 0 (2 ^ l.length - 1) w
  have HZ := Lib.hid (show (decide (0 ≤ m) && decide (m ≤ 2 ^ l.length - 1)) = mOk n l m by
    unfold mOk
    rw [hq, Bool.true_and, Bool.eq_iff_iff, Bool.and_eq_true, decide_eq_true_eq, decide_eq_true_eq, decide_eq_true_eq]
    omega)
  have HI := Lib.hid hI
  rw [HZ.out] at HI
  have q1 := hpw.1
  have q2 := hpw.2.1
  have q3 := hpw.2.2
  have q4 : IntKind.i64.wrap (2 ^ l.length - 1) = 2 ^ l.length - 1 := by rw [IntKind.wrap_i64]; omega
  have q5 : (l.length : Int) ≤ 64 := by omega
  have q6 : ((l.length : Int)).toNat = l.length := by omega
  clear hq hpw h4 hI
  generalize mOk n l m = z at *
  go_enter Tryz.func99, Tryz.ntmps99
  go_wp2_with fail
  generalize w.alloc _ = W at *
  refine (HV.out _ HB.out).mono ?_
  rintro e w1 ⟨rfl, hb1⟩
  have HB1 := Lib.hid (below_then HB.out hb1)
  have c0 := (HC.out.later hb1).c0
  have c1 := (HC.out.later hb1).c1
  clear hb1
  go_wp2_with (go_at_call 51; refine (HI.out _).mono ?_; rintro e w1 ⟨rfl, rfl⟩)
  go_ret
  exact ⟨rfl, HB1.out⟩
set_option maxRecDepth 100000 in
set_option maxHeartbeats 1600000 in
theorem spec_bits (n : Int) (m : Nat) (u : Value) (l : List A2) (S : Nat → Prop) (w : World) (hr : atomsC.rd w S [u] l) (hm : m < 16) (hl4 : l.length ≤ 4) (h4 : ∀ A ∈ l, In4 A.2) (h3 : ∀ A ∈ l, A.2.length ≤ 3) :
    Calls Tryz.prog 101 #[.agg #[.int .i64 n, u], .int .i64 (m : Int)] w fun e w' => e = .returned (.int .i64 (bs (selV l m l.length) : Int)) ∧ Below w.heap.size w w' := by
  have HR := Lib.hid (fun w' (hb : Below w.heap.size w w') => Cd.later hr hb)
  obtain ⟨a, cap, rfl, hlm⟩ := Cd.sl_form hr
  have H4 := Lib.hid h4
  have H3 := Lib.hid h3
  clear hr h4 h3
  go_enter Tryz.func101, Tryz.ntmps101
  go_wp2_with fail
  generalize hW : w.alloc _ = W
  obtain ⟨r0, _, hb0⟩ := start1 w _ hW
  have HC := Lib.hid (Loc2.of r0)
  have HB := Lib.hid hb0
  have HRW := Lib.hid (HR.out W hb0)
  clear hW r0 hb0
  have g1 := HC.out.c1
  go_loop [5, 6] (fun x i => ∃ k : Nat, k ≤ l.length ∧ i = .int .i64 k ∧ x = .int .i64 (bs (selV l m k) : Int)) (fun _ i => l.length - (intOf i).toNat)
  case atStart => exact ⟨0, Nat.zero_le _, rfl, rfl⟩
  case round =>
    obtain ⟨k, hk, rfl, rfl⟩ := hrel
    by_cases hlt : k < l.length
    · obtain ⟨b, off, cap', au, cu, e1, hbB, c0, c1, hs1, hu, hroom⟩ := atom_at2 HRW.out hlt
      injection e1 with e1 e2 e3
      subst e1 e3
      have p1 : (0 : Int) ≤ (k : Int) := by omega
      have p2 : (k : Int) < (l.length : Int) := by omega
      have hbit := bit_at hm k
      have p3 : (k : Int) ≤ 64 := by omega
      have p4 : ((k : Int)).toNat = k := by omega
      have HPRE := Lib.hid (selV_in4 H4.out m k hk)
      have hA4 := H4.out _ (List.getElem_mem hlt)
      have hA3 := H3.out _ (List.getElem_mem hlt)
      have HRI := Lib.hid (row_ri hu).1
      have HLT := Lib.hid hlt
      have HNY := Lib.hid (fun h => selV_yes (l := l) (m := m) hlt h)
      have HNN := Lib.hid (fun h => selV_no (l := l) (m := m) (k := k) h)
      clear hu
      generalize hA : l[k] = A at *
      generalize selV l m k = pre at *
      clear hA hroom
      by_cases hx : m / 2 ^ k % 2 = 1
      · rw [hx] at hbit
        have HNX := Lib.hid (HNY.out hx)
        clear hx
        go_wp2_with fail
        go_loop [5, 7] (fun x i => ∃ j : Nat, j ≤ A.2.length ∧ i = .int .i64 j ∧ x = .int .i64 (bs (pre ++ A.2.take j) : Int)) (fun _ i => A.2.length - (intOf i).toNat)
        case atStart => exact ⟨0, Nat.zero_le _, rfl, by simp⟩
        case round =>
          obtain ⟨j, hj, rfl, rfl⟩ := hrel
          by_cases hjl : j < A.2.length
          · obtain ⟨b2, off2, cap2, e1, hbB2, hc2⟩ := ri_at HRI.out hjl
            injection e1 with e1 e2 e3
            subst e1 e3
            have i1 : (0 : Int) ≤ (j : Int) := by omega
            have i2 : (j : Int) < (A.2.length : Int) := by omega
            have hz4 := hA4 _ (List.getElem_mem hjl)
            have hpre : In4 (pre ++ A.2.take j) := fun x hx' => by
              rcases List.mem_append.1 hx' with q | q
              · exact HPRE.out x q
              · exact hA4 x (List.mem_of_mem_take q)
            have hor := or_nat (bs_lt hpre) (pow4n hz4)
            have HNJ := Lib.hid (show bs (pre ++ A.2.take (j + 1)) = bs (pre ++ A.2.take j) ||| 2 ^ A.2[j].toNat by rw [List.take_succ_eq_append_getElem hjl, ← List.append_assoc, bs_snoc])
            clear hpre
            generalize bs (pre ++ A.2.take j) = sn at *
            generalize A.2[j] = z at *
            rcases c4 hz4 with rfl | rfl | rfl | rfl
            all_goals
              go_wp2
              go_round
              case rel => exact ⟨j + 1, by omega, by go_num, by rw [HNJ.out]; first | rfl | exact congrArg _ hor⟩
              case measure => simp [intOf]; omega
          · have ej : j = A.2.length := by omega
            subst ej
            rw [List.take_length] at *
            go_wp2
            go_round
            case rel => exact ⟨k + 1, by have := HLT.out; omega, by go_num, by rw [HNX.out]⟩
            case measure => have := HLT.out; simp [intOf]; omega
      · have hz : m / 2 ^ k % 2 = 0 := by omega
        rw [hz] at hbit
        have HNX := Lib.hid (HNN.out hx)
        clear hx hz
        go_wp2_with fail
        go_loop [5, 7] (fun x i => i = .int .i64 ((0 : Nat) : Int) ∧ x = .int .i64 (bs pre : Int)) (fun _ _ => 0)
        case atStart => exact ⟨rfl, rfl⟩
        case round =>
          obtain ⟨rfl, rfl⟩ := hrel
          by_cases hjl : (0 : Int) < (A.2.length : Int)
          · go_wp2
            go_round
            case rel => exact ⟨k + 1, by have := HLT.out; omega, by go_num, by rw [HNX.out]⟩
            case measure => have := HLT.out; simp [intOf]; omega
          · go_wp2
            go_round
            case rel => exact ⟨k + 1, by have := HLT.out; omega, by go_num, by rw [HNX.out]⟩
            case measure => have := HLT.out; simp [intOf]; omega
    · have ek : k = l.length := by omega
      subst ek
      go_wp2_with fail
      go_ret
      exact ⟨rfl, HB.out⟩
theorem mask_facts {n m : Int} {l : List A2} (h : mOk n l m = true) : ∃ t : Nat, m = (t : Int) ∧ t < 16 ∧ l.length ≤ 4 ∧ (∀ A ∈ l, In4 A.2) ∧ (∀ A ∈ l, A.2.length ≤ 3) ∧ mB n l m = bs (selV l t l.length) := by
  obtain ⟨hq, h4, t, rfl, ht⟩ := mOk_nat h
  have hp := qOk_iff.1 hq
  refine ⟨t, rfl, ht, h4, hp.in4, fun A hA => (hp.2.2.2.2.1 A hA).2.2.1, ?_⟩
  rw [mB_yes h]
  rfl
set_option maxRecDepth 100000 in
theorem spec_maskvars (n m : Int) (u : Value) (l : List A2) (S : Nat → Prop) (w : World) (hr : atomsC.rd w S [u] l) :
    Calls Tryz.prog 52 #[.agg #[.int .i64 n, u], .int .i64 m] w fun e w' => ∃ v' fp, e = .returned v' ∧ rowC.ow w' w.heap.size [v'] (varsL (mB n l m)) fp ∧ fp.Nodup ∧ Below w.heap.size w w' := by
  have HV := Lib.hid (fun w' (hb : Below w.heap.size w w') => spec_mask n m u l S w' (Cd.later hr hb))
  have HR := Lib.hid (fun w' (hb : Below w.heap.size w w') => Cd.later hr hb)
  obtain ⟨a, cap, rfl, hlm⟩ := Cd.sl_form hr
  clear hr
  have HC := Lib.hid (Loc2.of (row_alloc w (.cells #[.int .i64 n, .slice a l.length cap] 29)))
  have HB := Lib.hid (below_alloc w (.cells #[.int .i64 n, .slice a l.length cap] 29))
  cases hq : mOk n l m
  · have HZ := Lib.hid (show varsL (mB n l m) = [] by rw [mB_no hq]; exact varsL_zero)
    rw [hq] at HV
    clear hq
    go_enter Tryz.func52, Tryz.ntmps52
    go_wp2_with fail
    generalize w.alloc _ = W at *
    refine (HV.out _ HB.out).mono ?_
    rintro e w1 ⟨rfl, hb1⟩
    have HB1 := Lib.hid (below_then HB.out hb1)
    clear hb1
    have HE := Lib.hid (And.intro (Ints.OwnI.empty w1 w.heap.size 3 HB1.out.size) (below_then HB1.out (below_alloc w1 (.cells #[] 3))))
    go_wp2_with fail
    go_ret
    exact ⟨_, _, rfl, by rw [HZ.out]; exact Cd.ow_of_own HE.out.1 (fun x hx => by cases hx), Cd.own_nodup, HE.out.2⟩
  rw [hq] at HV
  obtain ⟨t, rfl, ht, hl4, h4, h3, hmb⟩ := mask_facts hq
  rw [hmb]
  have h16 : bs (selV l t l.length) < 16 := bs_lt (selV_in4 h4 _ _ (Nat.le_refl _))
  have HBI := Lib.hid (fun w' (hb : Below w.heap.size w w') => spec_bits n t (.slice a l.length cap) l S w' (HR.out w' hb) ht hl4 h4 h3)
  have HL := Lib.hid (fun w' => spec_list (bs (selV l t l.length)) w' h16)
  clear hq hmb h4 h3 h16
  generalize bs (selV l t l.length) = s at *
  go_enter Tryz.func52, Tryz.ntmps52
  go_wp2_with fail
  generalize w.alloc _ = W at *
  refine (HV.out _ HB.out).mono ?_
  rintro e w1 ⟨rfl, hb1⟩
  have HB1 := Lib.hid (below_then HB.out hb1)
  have c0 := (HC.out.later hb1).c0
  have c1 := (HC.out.later hb1).c1
  clear hb1
  go_wp2_with fail
  refine (HBI.out _ HB1.out).mono ?_
  rintro e w2 ⟨rfl, hb2⟩
  have HB2 := Lib.hid (below_then HB1.out hb2)
  clear hb2
  go_wp2_with fail
  refine (HL.out w2).mono ?_
  rintro e w3 ⟨v', fp, rfl, ho, hn, hb3⟩
  have HO := Lib.hid (And.intro (rowC.ow_base ho HB2.out.size) (And.intro hn (below_then HB2.out hb3)))
  clear ho hn hb3
  go_wp2_with fail
  go_ret
  exact ⟨_, fp, rfl, HO.out.1, HO.out.2.1, HO.out.2.2⟩
set_option maxRecDepth 100000 in
set_option maxHeartbeats 1600000 in
theorem impl_varsof (n m : Int) (u : Value) (l : List A2) (S : Nat → Prop) (w : World) (hr : atomsC.rd w S [u] l) :
    Calls Tryz.prog 92 #[.agg #[.int .i64 n, u], .int .i64 m] w fun e w' => e = .returned (.int .i64 (mB n l m : Int)) ∧ Below w.heap.size w w' := by
  have HV := Lib.hid (fun w' (hb : Below w.heap.size w w') => impl_valid n u l S w' (Cd.later hr hb))
  have HR := Lib.hid (fun w' (hb : Below w.heap.size w w') => Cd.later hr hb)
  obtain ⟨a, cap, rfl, hlm⟩ := Cd.sl_form hr
  clear hr
  have HC := Lib.hid (Loc2.of (row_alloc w (.cells #[.int .i64 n, .slice a l.length cap] 29)))
  have HB := Lib.hid (below_alloc w (.cells #[.int .i64 n, .slice a l.length cap] 29))
  cases hq : qOk n l
  · have HZ := Lib.hid (show ((mB n l m : Nat) : Int) = 0 by rw [mB_no (show mOk n l m = false by unfold mOk; rw [hq]; rfl)]; rfl)
    rw [hq] at HV
    clear hq
    go_enter Tryz.func92, Tryz.ntmps92
    go_wp2_with fail
    generalize w.alloc _ = W at *
    refine (HV.out _ HB.out).mono ?_
    rintro e w1 ⟨rfl, hb1⟩
    have HB1 := Lib.hid (below_then HB.out hb1)
    clear hb1
    go_wp2_with fail
    go_ret
    exact ⟨ret_int HZ.out.symm, HB1.out⟩
  rw [hq] at HV
  have h4 := (qOk_iff.1 hq).2.2.2.1
  have hpw := pow_len h4
  have q1 := hpw.1
  have q2 := hpw.2.1
  have q3 := hpw.2.2
  have q5 : (l.length : Int) ≤ 64 := by omega
  have q6 : ((l.length : Int)).toNat = l.length := by omega
  clear hpw
  by_cases hm : 0 ≤ m ∧ m < 2 ^ l.length
  case neg =>
    have HZ := Lib.hid (show ((mB n l m : Nat) : Int) = 0 by rw [mB_no (show mOk n l m = false by unfold mOk; rw [hq, decide_eq_false hm]; rfl)]; rfl)
    clear hq
    by_cases hm0 : m < 0
    · clear hm
      go_enter Tryz.func92, Tryz.ntmps92
      go_wp2_with fail
      generalize w.alloc _ = W at *
      refine (HV.out _ HB.out).mono ?_
      rintro e w1 ⟨rfl, hb1⟩
      have HB1 := Lib.hid (below_then HB.out hb1)
      clear hb1
      go_wp2_with fail
      go_ret
      exact ⟨ret_int HZ.out.symm, HB1.out⟩
    · have hmg : (2 : Int) ^ l.length ≤ m := by omega
      clear hm
      go_enter Tryz.func92, Tryz.ntmps92
      go_wp2_with fail
      generalize w.alloc _ = W at *
      refine (HV.out _ HB.out).mono ?_
      rintro e w1 ⟨rfl, hb1⟩
      have HB1 := Lib.hid (below_then HB.out hb1)
      have c0 := (HC.out.later hb1).c0
      have c1 := (HC.out.later hb1).c1
      clear hb1
      go_wp2_with fail
      go_ret
      exact ⟨ret_int HZ.out.symm, HB1.out⟩
  obtain ⟨t, rfl, ht, _, h44, h3, hmb⟩ := mask_facts (show mOk n l m = true by unfold mOk; rw [hq, decide_eq_true hm]; rfl)
  rw [hmb]
  have H4 := Lib.hid h44
  have m1 : ¬ ((t : Int) < 0) := by omega
  have m2 : ¬ ((2 : Int) ^ l.length ≤ (t : Int)) := by omega
  clear hq hm hmb h44 h3
  go_enter Tryz.func92, Tryz.ntmps92
  go_wp2_with fail
  generalize w.alloc _ = W at *
  refine (HV.out _ HB.out).mono ?_
  rintro e w1 ⟨rfl, hb1⟩
  have HB1 := Lib.hid (below_then HB.out hb1)
  have HC1 := Lib.hid (HC.out.later hb1)
  have c0 := HC1.out.c0
  have c1 := HC1.out.c1
  clear hb1
  go_wp2_with fail
  clear c0 c1 m1 m2 q1 q2 q3 q5 q6
  go_loopw [5, 26] (fun x i wr => ∃ k : Nat, k ≤ l.length ∧ i = .int .i64 k ∧ x = .int .i64 (bs (selV l t k) : Int) ∧ Below w1.heap.size w1 wr) (fun _ i _ => l.length - (intOf i).toNat)
  case atStart => exact ⟨0, Nat.zero_le _, rfl, rfl, Below.refl _ _⟩
  case round =>
    obtain ⟨k, hk, rfl, rfl, hbw⟩ := hrel
    have HBW := Lib.hid hbw
    by_cases hlt : k < l.length
    · obtain ⟨b, off, cap', au, cu, e1, hbB, c0, c1, hs1, hu, hroom⟩ := atom_at2 (HR.out wr (below_then HB1.out hbw)) hlt
      injection e1 with e1 e2 e3
      subst e1 e3
      have p1 : (0 : Int) ≤ (k : Int) := by omega
      have p2 : (k : Int) < (l.length : Int) := by omega
      have hbit := bit_at ht k
      have p3 : (k : Int) ≤ 64 := by omega
      have p4 : ((k : Int)).toNat = k := by omega
      have HRU := Lib.hid hu
      have HLT := Lib.hid hlt
      have hAl := below_alloc wr (.cells #[.string l[k].1, .slice au l[k].2.length cu] 48 (0, 0))
      have HB2 := Lib.hid (below_then HBW.out hAl)
      have HA4 := Lib.hid (H4.out _ (List.getElem_mem hlt))
      clear hu hbw
      by_cases hx : t / 2 ^ k % 2 = 1
      · have HNX := Lib.hid (show bs (selV l t (k + 1)) = bs (selV l t k) ||| bs l[k].2 by rw [selV_yes hlt hx, bs_app]; rfl)
        have hor := or_nat (bs_lt (selV_in4 H4.out t k hk)) (bs_lt HA4.out)
        have HBS := Lib.hid (bit_set (.slice au l[k].2.length cu) l[k].2 _ _ (row_ri (Cd.later HRU.out hAl)).1 HA4.out)
        rw [hx] at hbit
        clear hx hAl
        generalize bs (selV l t k) = s at *
        generalize bs l[k].2 = s2 at *
        go_wp2_with fail
        refine HBS.out.mono ?_
        rintro e w3 ⟨rfl, rfl⟩
        go_wp2_with fail
        go_roundw
        case rel => exact ⟨k + 1, by have := HLT.out; omega, by go_num, by rw [HNX.out], HB2.out⟩
        case measure => have := HLT.out; simp [intOf]; omega
      · have HNX := Lib.hid (show bs (selV l t (k + 1)) = bs (selV l t k) by rw [selV_no hx])
        have hz : t / 2 ^ k % 2 = 0 := by omega
        rw [hz] at hbit
        clear hx hz hAl
        generalize bs (selV l t k) = s at *
        go_wp2_with fail
        go_roundw
        case rel => exact ⟨k + 1, by have := HLT.out; omega, by go_num, by rw [HNX.out], HB2.out⟩
        case measure => have := HLT.out; simp [intOf]; omega
    · have ek : k = l.length := by omega
      subst ek
      clear hbw
      go_wp2_with fail
      go_ret
      exact ⟨rfl, below_then HB1.out HBW.out⟩
set_option maxRecDepth 100000 in
theorem impl_maskvars (n m : Int) (u : Value) (l : List A2) (S : Nat → Prop) (w : World) (hr : atomsC.rd w S [u] l) :
    Calls Tryz.prog 48 #[.agg #[.int .i64 n, u], .int .i64 m] w fun e w' => ∃ v' fp, e = .returned v' ∧ rowC.ow w' w.heap.size [v'] (varsL (mB n l m)) fp ∧ fp.Nodup ∧ Below w.heap.size w w' := by
  have HV := Lib.hid (fun w' (hb : Below w.heap.size w w') => impl_varsof n m u l S w' (Cd.later hr hb))
  have HL := Lib.hid (fun w' => impl_list (mB n l m) w' (mB_lt n l m))
  obtain ⟨a, cap, rfl, hlm⟩ := Cd.sl_form hr
  clear hr
  have HB := Lib.hid (below_alloc w (.cells #[.int .i64 n, .slice a l.length cap] 29))
  generalize mB n l m = s at *
  go_enter Tryz.func48, Tryz.ntmps48
  go_wp2_with fail
  generalize w.alloc _ = W at *
  refine (HV.out _ HB.out).mono ?_
  rintro e w1 ⟨rfl, hb1⟩
  have HB2 := Lib.hid (below_then HB.out hb1)
  clear hb1
  go_wp2_with fail
  refine (HL.out w1).mono ?_
  rintro e w3 ⟨v', fp, rfl, ho, hn, hb3⟩
  have HO := Lib.hid (And.intro (rowC.ow_base ho HB2.out.size) (And.intro hn (below_then HB2.out hb3)))
  clear ho hn hb3
  go_wp2_with fail
  go_ret
  exact ⟨_, fp, rfl, HO.out.1, HO.out.2.1, HO.out.2.2⟩
end Go.Proofs.YtdkhgeknjekkoaaGreat.QryImp
