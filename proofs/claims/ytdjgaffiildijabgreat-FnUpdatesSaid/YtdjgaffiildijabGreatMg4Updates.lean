/- Texts that the proof rests on, one behind the other. -/
import Derived.Test.YtdjgaffiildijabGreatDbAcc
import Derived.Deep.QuietTactic
import Derived.BigQuiet
import Derived.Test.YtdjgaffiildijabGreatMg3Updates
import Derived.Test.YtdjgaffiildijabGreatDbValid
import Derived.Test.YtdjgaffiildijabGreatMg1Updates
import Derived.Sort.Grow
import Derived.Test.YtdjgaffiildijabGreatDbLook
import Derived.Test.YtdjgaffiildijabGreatDbExact
import Derived.Maps.OwnSet
import Derived.Maps.RangeWalk

namespace Go.Proofs.YtdjgaffiildijabGreat.DbAcc
open Go Go.RowKit Byt Ints IntsLaw Cd Rows2 Tab SlMath TabOpen TabElem SlTable Db TabSpec DbMath DbSpec DbExact

/-- Has a table been met that does not lie ahead of T? -/
def putB (T : T3) (l : List T3) : Bool := !(l.all fun U => ltB U.1 T.1)
def curP (T : T3) (l : List T3) : List T3 := if putB T l then putL T l else l
theorem putB_no {T : T3} {l : List T3} : putB T l = false ↔ ∀ U ∈ l, ltB U.1 T.1 = true := by unfold putB; simp
theorem putB_yes {T : T3} {l : List T3} : putB T l = true ↔ ∃ U ∈ l, ltB U.1 T.1 = false := by unfold putB; simp
theorem putB_more {T U : T3} {l : List T3} : putB T (l ++ [U]) = (putB T l || !ltB U.1 T.1) := by unfold putB; simp [Bool.not_and]
/-- None yet, and the next does not lie ahead. -/
theorem curP_first {T U : T3} {l : List T3} (h : putB T l = false) (hu : ltB U.1 T.1 = false) : putB T (l ++ [U]) = true ∧ curP T (l ++ [U]) = if U.1 = T.1 then l ++ [T] else l ++ [T] ++ [U] := by
  have h1 : putB T (l ++ [U]) = true := by rw [putB_more, h, hu]; rfl
  refine ⟨h1, ?_⟩
  unfold curP
  rw [if_pos h1, putL_all (putB_no.1 h)]
  show l ++ (if ltB U.1 T.1 = true then U :: putL T [] else if U.1 = T.1 then [T] else [T, U]) = _
  rw [hu, if_neg (by simp)]
  split
  · rfl
  · simp
theorem curP_next {T U : T3} {l : List T3} (h : putB T l = false) (hu : ltB U.1 T.1 = true) : putB T (l ++ [U]) = false ∧ curP T (l ++ [U]) = l ++ [U] := by
  have h1 : putB T (l ++ [U]) = false := by rw [putB_more, h, hu]; rfl
  exact ⟨h1, by unfold curP; rw [h1]; rfl⟩
theorem curP_past {T U : T3} {l : List T3} (h : putB T l = true) : putB T (l ++ [U]) = true ∧ curP T (l ++ [U]) = curP T l ++ [U] := by
  have h1 : putB T (l ++ [U]) = true := by rw [putB_more, h]; rfl
  refine ⟨h1, ?_⟩
  unfold curP
  rw [if_pos h1, if_pos h]
  exact putL_past (putB_yes.1 h) _
theorem curP_no {T : T3} {l : List T3} (h : putB T l = false) : curP T l = l := by unfold curP; rw [h]; rfl
/-- In an ascending list whatever follows one that does not lie ahead of T has another name. -/
theorem past_ne {T : T3} {l : List T3} {k : Nat} (ha : AscP l) (hk : k < l.length) (h : putB T (l.take k) = true) : (l[k]).1 ≠ T.1 := by
  obtain ⟨U, hU, hu⟩ := putB_yes.1 h
  obtain ⟨i, hi, rfl⟩ := List.getElem_of_mem hU
  rw [List.length_take] at hi
  rw [List.getElem_take] at hu
  have hlt := List.pairwise_iff_getElem.1 ha i k (by omega) hk (by omega)
  intro e
  unfold ltT at hlt
  rw [e, hu] at hlt
  cases hlt
theorem curP_all {T : T3} {l : List T3} (h : putB T l = true) : curP T l = putL T l := by unfold curP; rw [if_pos h]
theorem putL_none {T : T3} {l : List T3} (h : putB T l = false) : putL T l = l ++ [T] := by
  have := putL_all (putB_no.1 h) []
  rw [List.append_nil] at this
  exact this
theorem below_drewN (w : World) (n : Nat) : Below w.heap.size w (w.drewN n) := ⟨rfl, rfl, rfl, Nat.le_refl _, fun _ _ => rfl⟩
theorem len_curP (T : T3) (l : List T3) (ha : AscP l) : (curP T l).length ≤ l.length + 1 := by
  unfold curP
  split
  · rw [len_putL ha]; split <;> omega
  · omega

set_option maxRecDepth 100000 in
set_option maxHeartbeats 3200000 in
theorem spec_set (u : Value) (l : List T3) (T : T3) (at_ : Option Addr) (cc : Nat) (S S2 : Nat → Prop) (w : World) (h1 : tabsC.rd w S [u] l) (h2 : tabC.rd w S2 [.string T.1, .int .i64 T.2.1, .slice at_ T.2.2.length cc] T) (hw : wtS l ≤ 1048577) (hwt : wtT T ≤ 1048577) :
    Calls Tryz.prog 28 #[.agg #[u], .agg #[.string T.1, .int .i64 T.2.1, .slice at_ T.2.2.length cc]] w fun e w' => DbAns (setL l T) (setOk l T) w e w' := by
  have HR1 := Lib.hid (fun w' (hb : Below w.heap.size w w') => Cd.later h1 hb)
  have HV := Lib.hid (fun w' (hb : Below w.heap.size w w') => spec_dbok u l S w' (Cd.later h1 hb))
  have HVT := Lib.hid (fun w' (hb : Below w.heap.size w w') => val_elem _ T S2 w' (Cd.later h2 hb))
  have HCT := Lib.hid (fun w' (hb : Below w.heap.size w w') => copy_elem _ T S2 w' (Cd.later h2 hb) (by omega))
  have HDC := Lib.hid (fun w' (hb : Below w.heap.size w w') => spec_dbcopy u l S w' (Cd.later h1 hb) (by omega))
  obtain ⟨a1, cap1, rfl, hl1⟩ := Cd.sl_form h1
  have HWT := Lib.hid hw
  clear h1 h2 hw hwt
  go_enter Tryz.func28, Tryz.ntmps28
  go_wp2_with fail
  generalize hW : ((w.alloc _).alloc _).alloc _ = W
  obtain ⟨r0, r1, r2, hz, hb0⟩ := start3 w _ _ _ hW
  have HC0 := Lib.hid (Loc1.of r0)
  have HC1 := Lib.hid (Loc3.of r1)
  have HC2 := Lib.hid (Loc1.of r2)
  have HZZ := Lib.hid hz
  have HB0 := Lib.hid hb0
  clear hW r0 r1 r2 hz hb0
  refine (HV.out _ HB0.out).mono ?_
  rintro e w1 ⟨rfl, hb1⟩
  have HB1 := Lib.hid (below_then HB0.out hb1)
  have HC0a := Lib.hid (HC0.out.later hb1)
  have HC1a := Lib.hid (HC1.out.later hb1)
  have HC2a := Lib.hid (HC2.out.later hb1)
  have HS1 := Lib.hid (show w.heap.size + 3 ≤ w1.heap.size by have := hb1.size; have := HZZ.out; omega)
  have q0 := HC0a.out.c0
  have q1 := HC1a.out.c0
  have q2 := HC1a.out.c1
  have q3 := HC1a.out.c2
  clear hb1
  cases hv : dbOk l
  · have HNO := Lib.hid (show setOk l T = false by unfold setOk; rw [hv]; rfl)
    go_wp2_with fail
    refine (HDC.out _ HB1.out).mono ?_
    rintro e w9 ⟨u9, f9, rfl, ho9, hn9, hb9⟩
    obtain ⟨a9, c9, rfl⟩ := Cd.ow_slice (c := tabC) ho9
    have HC9 := Lib.hid (HC2a.out.later hb9)
    have y0 := HC9.out.c0
    have y1 := HC9.out.f0
    have HA := Lib.hid (DbAns.copy (b := setOk l T) (l' := setL l T) (Y := w.heap.size + 2) ho9 hn9 HB1.out hb9 (by omega) (World.block_lt_of_cell? _ _ HC2a.out.c0) (by unfold setL; rw [HNO.out]; rfl) HNO.out)
    clear ho9 hn9 hb9
    go_wp2_with fail
    have k0 : (w9.setCell ⟨w.heap.size + 2, 0, none⟩ (.slice a9 l.length c9)).cell? ⟨w.heap.size + 2, 0, none⟩ = some (.slice a9 l.length c9) := World.cell?_setCell_same _ _ _ y0
    refine bodyPost_ret (v := .tuple #[.agg #[.slice a9 l.length c9], .bool false]) (by simp [results, Tryz.results28, go_sem, k0]) rfl ?_
    exact HA.out
  have HP := Lib.hid (dbOk_iff.1 hv)
  have HVV := Lib.hid hv
  clear hv
  go_wp2_with fail
  refine (HVT.out _ HB1.out).mono ?_
  rintro e w2 ⟨rfl, hb2⟩
  have HB2 := Lib.hid (below_then HB1.out hb2)
  have HC0b := Lib.hid (HC0a.out.later hb2)
  have HC1b := Lib.hid (HC1a.out.later hb2)
  have HC2b := Lib.hid (HC2a.out.later hb2)
  have HS2 := Lib.hid (show w.heap.size + 3 ≤ w2.heap.size by have := hb2.size; have := HS1.out; omega)
  clear hb2 q0 q1 q2 q3
  have q0 := HC0b.out.c0
  cases hT : okT T
  · have HNO := Lib.hid (show setOk l T = false by unfold setOk; rw [hT]; simp)
    go_wp2_with fail
    refine (HDC.out _ HB2.out).mono ?_
    rintro e w9 ⟨u9, f9, rfl, ho9, hn9, hb9⟩
    obtain ⟨a9, c9, rfl⟩ := Cd.ow_slice (c := tabC) ho9
    have HC9 := Lib.hid (HC2b.out.later hb9)
    have y0 := HC9.out.c0
    have y1 := HC9.out.f0
    have HA := Lib.hid (DbAns.copy (b := setOk l T) (l' := setL l T) (Y := w.heap.size + 2) ho9 hn9 HB2.out hb9 (by omega) (World.block_lt_of_cell? _ _ HC2b.out.c0) (by unfold setL; rw [HNO.out]; rfl) HNO.out)
    clear ho9 hn9 hb9
    go_wp2_with fail
    have k0 : (w9.setCell ⟨w.heap.size + 2, 0, none⟩ (.slice a9 l.length c9)).cell? ⟨w.heap.size + 2, 0, none⟩ = some (.slice a9 l.length c9) := World.cell?_setCell_same _ _ _ y0
    refine bodyPost_ret (v := .tuple #[.agg #[.slice a9 l.length c9], .bool false]) (by simp [results, Tryz.results28, go_sem, k0]) rfl ?_
    exact HA.out
  have HTV := Lib.hid hT
  clear hT
  go_wp2_with fail
  generalize hg : World.alloc w2 _ = WF
  obtain ⟨r0, hz, hb0⟩ := start1 w2 _ hg
  have HACC0 := Lib.hid (AccS.start r0)
  have HBF := Lib.hid (below_then HB2.out hb0)
  have HD0 := Lib.hid (HC0b.out.later hb0)
  have HD1 := Lib.hid (HC1b.out.later hb0)
  have HD2 := Lib.hid (HC2b.out.later hb0)
  clear hg r0 hz hb0 q0
  go_loopw [7, 8] (fun pt i wr => ∃ (k : Nat) (a : Option Addr) (c : Nat) (fp : List Nat), k ≤ l.length ∧ pt = .bool (putB T (l.take k)) ∧ i = .int .i64 k ∧ AccS WF wr w2.heap.size (curP T (l.take k)) a c fp) (fun _ i _ => l.length - (intOf i).toNat)
  case atStart => exact ⟨0, none, 0, [], Nat.zero_le _, rfl, rfl, HACC0.out⟩
  case round =>
    obtain ⟨k, a, c, fp, hk, rfl, rfl, hacc⟩ := hrel
    have HACC := Lib.hid hacc
    have hX : w.heap.size + 2 < w2.heap.size := by have := HS2.out; omega
    have x0 := (HACC.out.loc1 HD0.out (by omega)).c0
    have x1 := (HACC.out.loc1 HD0.out (by omega)).lt
    have z0 := (HACC.out.loc3 HD1.out (by omega)).c0
    have z1 := (HACC.out.loc3 HD1.out (by omega)).c1
    have z2 := (HACC.out.loc3 HD1.out (by omega)).c2
    have z3 := (HACC.out.loc3 HD1.out (by omega)).lt
    have HBW := Lib.hid (HACC.out.below HBF.out (by omega))
    clear hacc
    by_cases hlt : k < l.length
    · obtain ⟨b, off, cap', us, e1, _, hbB, hat, hu⟩ := Cd.sl_at (HR1.out w (Below.refl _ _)) hlt
      injection e1 with e1 e2 e3
      subst e1 e3
      obtain ⟨x, y, z, rfl⟩ := len_list (tabC.len hu)
      have p0 := hat 0 (by simp)
      have p1 := hat 1 (by simp)
      have p2 := hat 2 (by simp)
      simp only [List.getElem_cons_zero, List.getElem_cons_succ, Nat.add_zero, show tabC.n = 3 from rfl] at p0 p1 p2
      have ht3 : wtT l[k] ≤ 1073741824 := by have := sumN_mem wtT hlt; have := HWT.out; unfold wtS at this; omega
      have HCU := Lib.hid (fun w' (hq : Below w.heap.size w w') => copy_elem [x, y, z] l[k] _ w' (Cd.later hu hq) ht3)
      have hx := name_cell hu
      have HAC : AscP (l.take k) := List.Pairwise.sublist (List.take_sublist _ _) HP.out.2.2
      have HLL := Lib.hid (show (curP T (l.take k)).length + 2 ≤ 1000000000 by have h1 := len_curP T (l.take k) HAC; rw [List.length_take] at h1; have h2 := HP.out.1; omega)
      have HTK := Lib.hid (show l.take (k + 1) = l.take k ++ [l[k]] from List.take_succ_eq_append_getElem hlt)
      have HPN := Lib.hid (fun h => past_ne (T := T) HP.out.2.2 hlt h)
      have HCELL := Lib.hid (And.intro p0 (And.intro p1 (And.intro p2 hbB)))
      replace p0 := (HBW.out.cell (p := ⟨b, off + k * 3, none⟩) hbB).trans p0
      replace p1 := (HBW.out.cell (p := ⟨b, off + k * 3 + 1, none⟩) hbB).trans p1
      replace p2 := (HBW.out.cell (p := ⟨b, off + k * 3 + 2, none⟩) hbB).trans p2
      have i1 : (0 : Int) ≤ (k : Int) := by omega
      have i2 : (k : Int) < (l.length : Int) := by omega
      have i3 : l.length ≤ 6 := HP.out.1
      clear hu hat e2 ht3 HAC
      generalize l[k] = U at *
      subst hx
      generalize l.take k = pre at *
      obtain ⟨cur, hcur⟩ : ∃ cur, curP T pre = cur := ⟨_, rfl⟩
      rw [hcur] at HACC HLL
      have HCUR := Lib.hid hcur
      clear hcur
      cases hput : putB T pre
      · have HPU := Lib.hid hput
        replace HCUR := Lib.hid (show pre = cur from (curP_no hput).symm.trans HCUR.out)
        clear hput
        cases hcm : Op.bytesLess U.1.toList T.1.toList
        · have HF := Lib.hid (curP_first (U := U) HPU.out hcm)
          go_wp2_with fail
          go_quiet (fail)
          have hdq := below_drewN wr nq
          replace HACC := Lib.hid (HACC.out.later hdq)
          clear x0 x1 z0 z1 z2 z3 p0 p1 p2 hbB
          clear hdq
          generalize World.drewN wr nq = wr1 at *
          have hbX := HACC.out.below HBF.out (by omega)
          have x0 := (HACC.out.loc1 HD0.out (by omega)).c0
          have x1 := (HACC.out.loc1 HD0.out (by omega)).lt
          have z0 := (HACC.out.loc3 HD1.out (by omega)).c0
          have z1 := (HACC.out.loc3 HD1.out (by omega)).c1
          have z2 := (HACC.out.loc3 HD1.out (by omega)).c2
          have z3 := (HACC.out.loc3 HD1.out (by omega)).lt
          have p0 := (hbX.cell (p := ⟨b, off + k * 3, none⟩) HCELL.out.2.2.2).trans HCELL.out.1
          have p1 := (hbX.cell (p := ⟨b, off + k * 3 + 1, none⟩) HCELL.out.2.2.2).trans HCELL.out.2.1
          have p2 := (hbX.cell (p := ⟨b, off + k * 3 + 2, none⟩) HCELL.out.2.2.2).trans HCELL.out.2.2.1
          have hbB := Nat.lt_of_lt_of_le HCELL.out.2.2.2 hbX.size
          have HBX := Lib.hid hbX
          clear hbX
          clear hcm
          go_wp2_with fail
          refine (HCT.out _ HBX.out).mono ?_
          rintro e w2t ⟨a2t, c2t, f2t, rfl, ho2, hn2, hb2⟩
          have h2 := HACC.out.later hb2
          have d2 := h2.cell
          have dl := World.block_lt_of_cell? _ _ d2
          have hl := HACC.out.laid hb2 ho2 hn2 51
          have H3 := Lib.hid hl.1
          have HLD := Lib.hid hl.2
          clear ho2 hn2 hb2 h2 hl HACC
          go_wp2_with (at_builtin; refine Cd.wpList_appendN (c := tabC) rfl (.tmp 46) (.tmp 48) 24 rfl WF.heap.size 51 (.agg #[.string ⟨#[]⟩, .int .i64 0, .slice none 0 0]) 3 48 rfl Tryz.underlying24 info_x rfl (by decide) _ cur fp rfl H3.out.ow H3.out.nd (w2t.heap.size + 1) _ rfl HLD.out.at_ T f2t HLD.out.ow HLD.out.nd HLD.out.far (by have := HLL.out; omega) H3.out.sz ?_)
          intro gt cap4t w4t fp4t ho4 hn4 _ ht4
          have HACC := Lib.hid (H3.out.app (cur' := cur ++ [T]) (n := cur.length + 1) (by simp) ht4 ho4 hn4)
          obtain ⟨e2, g2⟩ := H3.out.fcell ht4
          clear ho4 hn4 ht4 H3 HLD d2 dl
          clear x0 x1 z0 z1 z2 z3 p0 p1 p2 hbB
          clear HBX
          go_upto_region 12 with fail
          generalize World.setCell w4t _ _ = wA at *
          obtain ⟨cur1, hcur⟩ : ∃ q, cur ++ [T] = q := ⟨_, rfl⟩
          rw [hcur] at HACC
          have HCcur1 := Lib.hid hcur
          clear hcur e2 g2
          have hbX := HACC.out.below HBF.out (by omega)
          have x0 := (HACC.out.loc1 HD0.out (by omega)).c0
          have x1 := (HACC.out.loc1 HD0.out (by omega)).lt
          have z0 := (HACC.out.loc3 HD1.out (by omega)).c0
          have z1 := (HACC.out.loc3 HD1.out (by omega)).c1
          have z2 := (HACC.out.loc3 HD1.out (by omega)).c2
          have z3 := (HACC.out.loc3 HD1.out (by omega)).lt
          have p0 := (hbX.cell (p := ⟨b, off + k * 3, none⟩) HCELL.out.2.2.2).trans HCELL.out.1
          have p1 := (hbX.cell (p := ⟨b, off + k * 3 + 1, none⟩) HCELL.out.2.2.2).trans HCELL.out.2.1
          have p2 := (hbX.cell (p := ⟨b, off + k * 3 + 2, none⟩) HCELL.out.2.2.2).trans HCELL.out.2.2.1
          have hbB := Nat.lt_of_lt_of_le HCELL.out.2.2.2 hbX.size
          have HBX := Lib.hid hbX
          clear hbX
          by_cases he : U.1 = T.1
          · have he2 : (U.1.toList == T.1.toList) = true := by rw [eqB]; exact decide_eq_true he
            have HE := Lib.hid he
            clear he
            go_quiet (fail)
            have hdq := below_drewN wA nq
            replace HACC := Lib.hid (HACC.out.later hdq)
            clear x0 x1 z0 z1 z2 z3 p0 p1 p2 hbB
            clear hdq
            generalize World.drewN wA nq = wB at *
            have hbX := HACC.out.below HBF.out (by omega)
            have x0 := (HACC.out.loc1 HD0.out (by omega)).c0
            have x1 := (HACC.out.loc1 HD0.out (by omega)).lt
            have z0 := (HACC.out.loc3 HD1.out (by omega)).c0
            have z1 := (HACC.out.loc3 HD1.out (by omega)).c1
            have z2 := (HACC.out.loc3 HD1.out (by omega)).c2
            have z3 := (HACC.out.loc3 HD1.out (by omega)).lt
            have p0 := (hbX.cell (p := ⟨b, off + k * 3, none⟩) HCELL.out.2.2.2).trans HCELL.out.1
            have p1 := (hbX.cell (p := ⟨b, off + k * 3 + 1, none⟩) HCELL.out.2.2.2).trans HCELL.out.2.1
            have p2 := (hbX.cell (p := ⟨b, off + k * 3 + 2, none⟩) HCELL.out.2.2.2).trans HCELL.out.2.2.1
            have hbB := Nat.lt_of_lt_of_le HCELL.out.2.2.2 hbX.size
            have HBX := Lib.hid hbX
            clear hbX
            clear he2
            go_wp2_with fail
            go_roundw
            case rel => exact ⟨k + 1, some ⟨gt, 0, none⟩, cap4t, fp4t, by omega, by rw [HTK.out, HF.out.1], by go_num, HACC.out.shift (by rw [HTK.out]; exact (by rw [HF.out.2, if_pos HE.out, HCUR.out, HCcur1.out]))⟩
            case measure => simp [intOf]; omega
          · have he2 : (U.1.toList == T.1.toList) = false := by rw [eqB]; exact decide_eq_false he
            have HE := Lib.hid he
            have HLL1 := Lib.hid (show cur1.length + 1 ≤ 1000000000 by rw [← HCcur1.out, List.length_append]; have := HLL.out; simp; omega)
            clear he
            go_quiet (fail)
            have hdq := below_drewN wA nq
            replace HACC := Lib.hid (HACC.out.later hdq)
            clear x0 x1 z0 z1 z2 z3 p0 p1 p2 hbB
            clear hdq
            generalize World.drewN wA nq = wB at *
            have hbX := HACC.out.below HBF.out (by omega)
            have x0 := (HACC.out.loc1 HD0.out (by omega)).c0
            have x1 := (HACC.out.loc1 HD0.out (by omega)).lt
            have z0 := (HACC.out.loc3 HD1.out (by omega)).c0
            have z1 := (HACC.out.loc3 HD1.out (by omega)).c1
            have z2 := (HACC.out.loc3 HD1.out (by omega)).c2
            have z3 := (HACC.out.loc3 HD1.out (by omega)).lt
            have p0 := (hbX.cell (p := ⟨b, off + k * 3, none⟩) HCELL.out.2.2.2).trans HCELL.out.1
            have p1 := (hbX.cell (p := ⟨b, off + k * 3 + 1, none⟩) HCELL.out.2.2.2).trans HCELL.out.2.1
            have p2 := (hbX.cell (p := ⟨b, off + k * 3 + 2, none⟩) HCELL.out.2.2.2).trans HCELL.out.2.2.1
            have hbB := Nat.lt_of_lt_of_le HCELL.out.2.2.2 hbX.size
            have HBX := Lib.hid hbX
            clear hbX
            clear he2
            go_wp2_with fail
            refine (HCU.out _ HBX.out).mono ?_
            rintro e w2u ⟨a2u, c2u, f2u, rfl, ho2, hn2, hb2⟩
            have h2 := HACC.out.later hb2
            have d2 := h2.cell
            have dl := World.block_lt_of_cell? _ _ d2
            have hl := HACC.out.laid hb2 ho2 hn2 51
            have H3 := Lib.hid hl.1
            have HLD := Lib.hid hl.2
            clear ho2 hn2 hb2 h2 hl HACC
            go_wp2_with (at_builtin; refine Cd.wpList_appendN (c := tabC) rfl (.tmp 67) (.tmp 69) 24 rfl WF.heap.size 51 (.agg #[.string ⟨#[]⟩, .int .i64 0, .slice none 0 0]) 3 48 rfl Tryz.underlying24 info_x rfl (by decide) _ cur1 fp4t rfl H3.out.ow H3.out.nd (w2u.heap.size + 1) _ rfl HLD.out.at_ U f2u HLD.out.ow HLD.out.nd HLD.out.far HLL1.out H3.out.sz ?_)
            intro gu cap4u w4u fp4u ho4 hn4 _ ht4
            have HACC := Lib.hid (H3.out.app (cur' := cur1 ++ [U]) (n := cur1.length + 1) (by simp) ht4 ho4 hn4)
            obtain ⟨e2, g2⟩ := H3.out.fcell ht4
            clear ho4 hn4 ht4 H3 HLD d2 dl
            clear x0 x1 z0 z1 z2 z3 p0 p1 p2 hbB
            clear HBX
            go_wp2_with fail
            go_roundw
            case rel => exact ⟨k + 1, some ⟨gu, 0, none⟩, cap4u, fp4u, by omega, by rw [HTK.out, HF.out.1], by go_num, HACC.out.shift (by rw [HTK.out]; exact (by rw [HF.out.2, if_neg HE.out, HCUR.out, HCcur1.out]))⟩
            case measure => simp [intOf]; omega
        · have HF := Lib.hid (curP_next (U := U) HPU.out hcm)
          have he2 : (U.1.toList == T.1.toList) = false := by rw [eqB]; exact decide_eq_false (ltB_ne hcm)
          go_wp2_with fail
          go_quiet (fail)
          have hdq := below_drewN wr nq
          replace HACC := Lib.hid (HACC.out.later hdq)
          clear x0 x1 z0 z1 z2 z3 p0 p1 p2 hbB
          clear hdq
          generalize World.drewN wr nq = wr1 at *
          have hbX := HACC.out.below HBF.out (by omega)
          have x0 := (HACC.out.loc1 HD0.out (by omega)).c0
          have x1 := (HACC.out.loc1 HD0.out (by omega)).lt
          have z0 := (HACC.out.loc3 HD1.out (by omega)).c0
          have z1 := (HACC.out.loc3 HD1.out (by omega)).c1
          have z2 := (HACC.out.loc3 HD1.out (by omega)).c2
          have z3 := (HACC.out.loc3 HD1.out (by omega)).lt
          have p0 := (hbX.cell (p := ⟨b, off + k * 3, none⟩) HCELL.out.2.2.2).trans HCELL.out.1
          have p1 := (hbX.cell (p := ⟨b, off + k * 3 + 1, none⟩) HCELL.out.2.2.2).trans HCELL.out.2.1
          have p2 := (hbX.cell (p := ⟨b, off + k * 3 + 2, none⟩) HCELL.out.2.2.2).trans HCELL.out.2.2.1
          have hbB := Nat.lt_of_lt_of_le HCELL.out.2.2.2 hbX.size
          have HBX := Lib.hid hbX
          clear hbX
          clear hcm
          go_wp2_with fail
          go_quiet (fail)
          have hdq := below_drewN wr1 nq
          replace HACC := Lib.hid (HACC.out.later hdq)
          clear x0 x1 z0 z1 z2 z3 p0 p1 p2 hbB
          clear hdq
          generalize World.drewN wr1 nq = wB at *
          have hbX := HACC.out.below HBF.out (by omega)
          have x0 := (HACC.out.loc1 HD0.out (by omega)).c0
          have x1 := (HACC.out.loc1 HD0.out (by omega)).lt
          have z0 := (HACC.out.loc3 HD1.out (by omega)).c0
          have z1 := (HACC.out.loc3 HD1.out (by omega)).c1
          have z2 := (HACC.out.loc3 HD1.out (by omega)).c2
          have z3 := (HACC.out.loc3 HD1.out (by omega)).lt
          have p0 := (hbX.cell (p := ⟨b, off + k * 3, none⟩) HCELL.out.2.2.2).trans HCELL.out.1
          have p1 := (hbX.cell (p := ⟨b, off + k * 3 + 1, none⟩) HCELL.out.2.2.2).trans HCELL.out.2.1
          have p2 := (hbX.cell (p := ⟨b, off + k * 3 + 2, none⟩) HCELL.out.2.2.2).trans HCELL.out.2.2.1
          have hbB := Nat.lt_of_lt_of_le HCELL.out.2.2.2 hbX.size
          have HBX := Lib.hid hbX
          clear hbX
          clear he2
          go_wp2_with fail
          refine (HCU.out _ HBX.out).mono ?_
          rintro e w2u ⟨a2u, c2u, f2u, rfl, ho2, hn2, hb2⟩
          have h2 := HACC.out.later hb2
          have d2 := h2.cell
          have dl := World.block_lt_of_cell? _ _ d2
          have hl := HACC.out.laid hb2 ho2 hn2 51
          have H3 := Lib.hid hl.1
          have HLD := Lib.hid hl.2
          clear ho2 hn2 hb2 h2 hl HACC
          go_wp2_with (at_builtin; refine Cd.wpList_appendN (c := tabC) rfl (.tmp 67) (.tmp 69) 24 rfl WF.heap.size 51 (.agg #[.string ⟨#[]⟩, .int .i64 0, .slice none 0 0]) 3 48 rfl Tryz.underlying24 info_x rfl (by decide) _ cur fp rfl H3.out.ow H3.out.nd (w2u.heap.size + 1) _ rfl HLD.out.at_ U f2u HLD.out.ow HLD.out.nd HLD.out.far (by have := HLL.out; omega) H3.out.sz ?_)
          intro gu cap4u w4u fp4u ho4 hn4 _ ht4
          have HACC := Lib.hid (H3.out.app (cur' := cur ++ [U]) (n := cur.length + 1) (by simp) ht4 ho4 hn4)
          obtain ⟨e2, g2⟩ := H3.out.fcell ht4
          clear ho4 hn4 ht4 H3 HLD d2 dl
          clear x0 x1 z0 z1 z2 z3 p0 p1 p2 hbB
          clear HBX
          go_wp2_with fail
          go_roundw
          case rel => exact ⟨k + 1, some ⟨gu, 0, none⟩, cap4u, fp4u, by omega, by rw [HTK.out, HF.out.1], by go_num, HACC.out.shift (by rw [HTK.out]; exact (by rw [HF.out.2, HCUR.out]))⟩
          case measure => simp [intOf]; omega
      · have HF := Lib.hid (curP_past (U := U) hput)
        have he2 : (U.1.toList == T.1.toList) = false := by rw [eqB]; exact decide_eq_false (HPN.out hput)
        clear hput
        go_wp2_with fail
        go_quiet (fail)
        have hdq := below_drewN wr nq
        replace HACC := Lib.hid (HACC.out.later hdq)
        clear x0 x1 z0 z1 z2 z3 p0 p1 p2 hbB
        clear hdq
        generalize World.drewN wr nq = wr1 at *
        have hbX := HACC.out.below HBF.out (by omega)
        have x0 := (HACC.out.loc1 HD0.out (by omega)).c0
        have x1 := (HACC.out.loc1 HD0.out (by omega)).lt
        have z0 := (HACC.out.loc3 HD1.out (by omega)).c0
        have z1 := (HACC.out.loc3 HD1.out (by omega)).c1
        have z2 := (HACC.out.loc3 HD1.out (by omega)).c2
        have z3 := (HACC.out.loc3 HD1.out (by omega)).lt
        have p0 := (hbX.cell (p := ⟨b, off + k * 3, none⟩) HCELL.out.2.2.2).trans HCELL.out.1
        have p1 := (hbX.cell (p := ⟨b, off + k * 3 + 1, none⟩) HCELL.out.2.2.2).trans HCELL.out.2.1
        have p2 := (hbX.cell (p := ⟨b, off + k * 3 + 2, none⟩) HCELL.out.2.2.2).trans HCELL.out.2.2.1
        have hbB := Nat.lt_of_lt_of_le HCELL.out.2.2.2 hbX.size
        have HBX := Lib.hid hbX
        clear hbX
        go_wp2_with fail
        go_quiet (fail)
        have hdq := below_drewN wr1 nq
        replace HACC := Lib.hid (HACC.out.later hdq)
        clear x0 x1 z0 z1 z2 z3 p0 p1 p2 hbB
        clear hdq
        generalize World.drewN wr1 nq = wB at *
        have hbX := HACC.out.below HBF.out (by omega)
        have x0 := (HACC.out.loc1 HD0.out (by omega)).c0
        have x1 := (HACC.out.loc1 HD0.out (by omega)).lt
        have z0 := (HACC.out.loc3 HD1.out (by omega)).c0
        have z1 := (HACC.out.loc3 HD1.out (by omega)).c1
        have z2 := (HACC.out.loc3 HD1.out (by omega)).c2
        have z3 := (HACC.out.loc3 HD1.out (by omega)).lt
        have p0 := (hbX.cell (p := ⟨b, off + k * 3, none⟩) HCELL.out.2.2.2).trans HCELL.out.1
        have p1 := (hbX.cell (p := ⟨b, off + k * 3 + 1, none⟩) HCELL.out.2.2.2).trans HCELL.out.2.1
        have p2 := (hbX.cell (p := ⟨b, off + k * 3 + 2, none⟩) HCELL.out.2.2.2).trans HCELL.out.2.2.1
        have hbB := Nat.lt_of_lt_of_le HCELL.out.2.2.2 hbX.size
        have HBX := Lib.hid hbX
        clear hbX
        clear he2
        go_wp2_with fail
        refine (HCU.out _ HBX.out).mono ?_
        rintro e w2u ⟨a2u, c2u, f2u, rfl, ho2, hn2, hb2⟩
        have h2 := HACC.out.later hb2
        have d2 := h2.cell
        have dl := World.block_lt_of_cell? _ _ d2
        have hl := HACC.out.laid hb2 ho2 hn2 51
        have H3 := Lib.hid hl.1
        have HLD := Lib.hid hl.2
        clear ho2 hn2 hb2 h2 hl HACC
        go_wp2_with (at_builtin; refine Cd.wpList_appendN (c := tabC) rfl (.tmp 67) (.tmp 69) 24 rfl WF.heap.size 51 (.agg #[.string ⟨#[]⟩, .int .i64 0, .slice none 0 0]) 3 48 rfl Tryz.underlying24 info_x rfl (by decide) _ cur fp rfl H3.out.ow H3.out.nd (w2u.heap.size + 1) _ rfl HLD.out.at_ U f2u HLD.out.ow HLD.out.nd HLD.out.far (by have := HLL.out; omega) H3.out.sz ?_)
        intro gu cap4u w4u fp4u ho4 hn4 _ ht4
        have HACC := Lib.hid (H3.out.app (cur' := cur ++ [U]) (n := cur.length + 1) (by simp) ht4 ho4 hn4)
        obtain ⟨e2, g2⟩ := H3.out.fcell ht4
        clear ho4 hn4 ht4 H3 HLD d2 dl
        clear x0 x1 z0 z1 z2 z3 p0 p1 p2 hbB
        clear HBX
        go_wp2_with fail
        go_roundw
        case rel => exact ⟨k + 1, some ⟨gu, 0, none⟩, cap4u, fp4u, by omega, by rw [HTK.out, HF.out.1], by go_num, HACC.out.shift (by rw [HTK.out]; exact (by rw [HF.out.2, HCUR.out]))⟩
        case measure => simp [intOf]; omega
    · have ek : k = l.length := by omega
      subst ek
      rw [List.take_length] at HACC
      have i3 : l.length ≤ 6 := HP.out.1
      obtain ⟨cur, hcur⟩ : ∃ cur, curP T l = cur := ⟨_, rfl⟩
      rw [hcur] at HACC
      rw [List.take_length]
      cases hput : putB T l
      · have HCUR := Lib.hid (show l = cur from (curP_no hput).symm.trans hcur)
        have HPN := Lib.hid (putL_none hput)
        have HLL := Lib.hid (show cur.length + 1 ≤ 1000000000 by rw [← HCUR.out]; omega)
        have HBX := Lib.hid HBW.out
        clear hput hcur
        go_wp2_with fail
        refine (HCT.out _ HBX.out).mono ?_
        rintro e w2t ⟨a2t, c2t, f2t, rfl, ho2, hn2, hb2⟩
        have h2 := HACC.out.later hb2
        have d2 := h2.cell
        have dl := World.block_lt_of_cell? _ _ d2
        have hl := HACC.out.laid hb2 ho2 hn2 51
        have H3 := Lib.hid hl.1
        have HLD := Lib.hid hl.2
        clear ho2 hn2 hb2 h2 hl HACC
        go_wp2_with (at_builtin; refine Cd.wpList_appendN (c := tabC) rfl (.tmp 77) (.tmp 79) 24 rfl WF.heap.size 51 (.agg #[.string ⟨#[]⟩, .int .i64 0, .slice none 0 0]) 3 48 rfl Tryz.underlying24 info_x rfl (by decide) _ cur fp rfl H3.out.ow H3.out.nd (w2t.heap.size + 1) _ rfl HLD.out.at_ T f2t HLD.out.ow HLD.out.nd HLD.out.far HLL.out H3.out.sz ?_)
        intro gt cap4t w4t fp4t ho4 hn4 _ ht4
        have HACC := Lib.hid (H3.out.app (cur' := cur ++ [T]) (n := cur.length + 1) (by simp) ht4 ho4 hn4)
        obtain ⟨e2, g2⟩ := H3.out.fcell ht4
        clear ho4 hn4 ht4 H3 HLD d2 dl
        clear x0 x1 z0 z1 z2 z3 HBX
        go_upto_region 18 with fail
        generalize World.setCell w4t _ _ = wA at *
        obtain ⟨cur1, hcur⟩ : ∃ q, cur ++ [T] = q := ⟨_, rfl⟩
        rw [hcur] at HACC
        have HCcur1 := Lib.hid hcur
        clear hcur e2 g2
        have HCL := Lib.hid (show cur1 = putL T l by rw [HPN.out, ← HCcur1.out, ← HCUR.out])
        have hbX := HACC.out.below HBF.out (by omega)
        have HBX := Lib.hid hbX
        have x0 := (HACC.out.loc1 HD0.out (by omega)).c0
        have x6 := HACC.out.cell
        have HVX := Lib.hid (spec_dbok _ cur1 _ _ (tabsC.ow_rd HACC.out.ow))
        clear hbX
        go_wp2_with fail
        refine HVX.out.mono ?_
        rintro e wv ⟨rfl, hbv⟩
        replace HACC := Lib.hid (HACC.out.later hbv)
        have HBV := Lib.hid (below_then HBX.out hbv)
        clear hbv x0 x6
        have x0 := (HACC.out.loc1 HD0.out (by omega)).c0
        have x6 := HACC.out.cell
        have hy := HACC.out.loc1 HD2.out (by omega)
        have y0 := hy.c0
        have y1 := hy.f0
        have HY := Lib.hid hy
        clear hy
        cases hvx : dbOk cur1
        · have HNO := Lib.hid (show setOk l T = false by unfold setOk; rw [HVV.out, HTV.out]; have := dbOk_putL HVV.out HTV.out; rw [← HCL.out, hvx] at this; rw [← HCL.out, ← this]; rfl)
          clear y0 y1 hvx
          go_wp2_with fail
          refine (HDC.out _ HBV.out).mono ?_
          rintro e w9 ⟨u9, f9, rfl, ho9, hn9, hb9⟩
          obtain ⟨a9, c9, rfl⟩ := Cd.ow_slice (c := tabC) ho9
          have HC9 := Lib.hid (HY.out.later hb9)
          have y0 := HC9.out.c0
          have y1 := HC9.out.f0
          have HA := Lib.hid (DbAns.copy (b := setOk l T) (l' := setL l T) (Y := w.heap.size + 2) ho9 hn9 HBV.out hb9 (by omega) (World.block_lt_of_cell? _ _ HY.out.c0) (by unfold setL; rw [HNO.out]; rfl) HNO.out)
          clear ho9 hn9 hb9
          go_wp2_with fail
          have k0 : (w9.setCell ⟨w.heap.size + 2, 0, none⟩ (.slice a9 l.length c9)).cell? ⟨w.heap.size + 2, 0, none⟩ = some (.slice a9 l.length c9) := World.cell?_setCell_same _ _ _ y0
          refine bodyPost_ret (v := .tuple #[.agg #[.slice a9 l.length c9], .bool false]) (by simp [results, Tryz.results28, go_sem, k0]) rfl ?_
          exact HA.out
        · have HYES := Lib.hid (show setOk l T = true by unfold setOk; rw [HVV.out, HTV.out]; have := dbOk_putL HVV.out HTV.out; rw [← HCL.out, hvx] at this; rw [← HCL.out, ← this]; rfl)
          clear hvx
          go_wp2_with fail
          have k0 : (wv.setCell ⟨w.heap.size + 2, 0, none⟩ (.slice (some ⟨gt, 0, none⟩) cur1.length cap4t)).cell? ⟨w.heap.size + 2, 0, none⟩ = some (.slice (some ⟨gt, 0, none⟩) cur1.length cap4t) := World.cell?_setCell_same _ _ _ HY.out.c0
          refine bodyPost_ret (v := .tuple #[.agg #[.slice (some ⟨gt, 0, none⟩) cur1.length cap4t], .bool true]) (by simp [results, Tryz.results28, go_sem, k0]) rfl ?_
          exact HACC.out.ans (Y := w.heap.size + 2) HBF.out (by omega) (by omega) HD2.out.lt (by unfold setL; rw [HYES.out, HCL.out]; rfl) HYES.out
      · have HCL := Lib.hid (show cur = putL T l from hcur.symm.trans (curP_all hput))
        clear hput hcur
        go_upto_region 18 with fail
        clear x0 x1 z0 z1 z2 z3
        have hbX := HACC.out.below HBF.out (by omega)
        have HBX := Lib.hid hbX
        have x0 := (HACC.out.loc1 HD0.out (by omega)).c0
        have x6 := HACC.out.cell
        have HVX := Lib.hid (spec_dbok _ cur _ _ (tabsC.ow_rd HACC.out.ow))
        clear hbX
        go_wp2_with fail
        refine HVX.out.mono ?_
        rintro e wv ⟨rfl, hbv⟩
        replace HACC := Lib.hid (HACC.out.later hbv)
        have HBV := Lib.hid (below_then HBX.out hbv)
        clear hbv x0 x6
        have x0 := (HACC.out.loc1 HD0.out (by omega)).c0
        have x6 := HACC.out.cell
        have hy := HACC.out.loc1 HD2.out (by omega)
        have y0 := hy.c0
        have y1 := hy.f0
        have HY := Lib.hid hy
        clear hy
        cases hvx : dbOk cur
        · have HNO := Lib.hid (show setOk l T = false by unfold setOk; rw [HVV.out, HTV.out]; have := dbOk_putL HVV.out HTV.out; rw [← HCL.out, hvx] at this; rw [← HCL.out, ← this]; rfl)
          clear y0 y1 hvx
          go_wp2_with fail
          refine (HDC.out _ HBV.out).mono ?_
          rintro e w9 ⟨u9, f9, rfl, ho9, hn9, hb9⟩
          obtain ⟨a9, c9, rfl⟩ := Cd.ow_slice (c := tabC) ho9
          have HC9 := Lib.hid (HY.out.later hb9)
          have y0 := HC9.out.c0
          have y1 := HC9.out.f0
          have HA := Lib.hid (DbAns.copy (b := setOk l T) (l' := setL l T) (Y := w.heap.size + 2) ho9 hn9 HBV.out hb9 (by omega) (World.block_lt_of_cell? _ _ HY.out.c0) (by unfold setL; rw [HNO.out]; rfl) HNO.out)
          clear ho9 hn9 hb9
          go_wp2_with fail
          have k0 : (w9.setCell ⟨w.heap.size + 2, 0, none⟩ (.slice a9 l.length c9)).cell? ⟨w.heap.size + 2, 0, none⟩ = some (.slice a9 l.length c9) := World.cell?_setCell_same _ _ _ y0
          refine bodyPost_ret (v := .tuple #[.agg #[.slice a9 l.length c9], .bool false]) (by simp [results, Tryz.results28, go_sem, k0]) rfl ?_
          exact HA.out
        · have HYES := Lib.hid (show setOk l T = true by unfold setOk; rw [HVV.out, HTV.out]; have := dbOk_putL HVV.out HTV.out; rw [← HCL.out, hvx] at this; rw [← HCL.out, ← this]; rfl)
          clear hvx
          go_wp2_with fail
          have k0 : (wv.setCell ⟨w.heap.size + 2, 0, none⟩ (.slice a cur.length c)).cell? ⟨w.heap.size + 2, 0, none⟩ = some (.slice a cur.length c) := World.cell?_setCell_same _ _ _ HY.out.c0
          refine bodyPost_ret (v := .tuple #[.agg #[.slice a cur.length c], .bool true]) (by simp [results, Tryz.results28, go_sem, k0]) rfl ?_
          exact HACC.out.ans (Y := w.heap.size + 2) HBF.out (by omega) (by omega) HD2.out.lt (by unfold setL; rw [HYES.out, HCL.out]; rfl) HYES.out
end Go.Proofs.YtdjgaffiildijabGreat.DbAcc

namespace Go.Proofs.YtdjgaffiildijabGreat.UpdApp
open Go Go.RowKit Byt Ints IntsLaw Cd Rows2 Tab SlMath TabOpen TabElem SlTable Db TabSpec DbMath DbExact Upd UpdMath
open DbSpec (LookAns lk_some lk_none)
open DbAcc (DbAns)

theorem tab_rd {w : World} {S : Nat → Prop} {nm : ByteArray} {ar : Int} {u : Value} {rows : List (List Int)} (h : rowsC.rd w S [u] rows) (hs : nm.size ≤ maxLen) (ha : -9223372036854775808 ≤ ar ∧ ar ≤ 9223372036854775807) : tabC.rd w S [.string nm, .int .i64 ar, u] (nm, ar, rows) :=
  ⟨[.string nm], [.int .i64 ar, u], rfl, ⟨rfl, hs⟩, ⟨[.int .i64 ar], [u], rfl, ⟨rfl, ha⟩, h⟩⟩
theorem okT_bd {T : T3} (h : okT T = true) : T.1.size = 1 ∧ (1 ≤ T.2.1 ∧ T.2.1 ≤ 3) := by
  have htp : TabP T.1 T.2.1 T.2.2 := of_decide_eq_true h
  exact ⟨(of_decide_eq_true htp.1).1, htp.2.1, htp.2.2.1⟩
theorem chT_rd {w : World} {S : Nat → Prop} {T : T3} {b : Bool} {row : List Int} {u : Value} (h : rowsC.rd w S [u] (chR T b row)) (hk : okT T = true) : tabC.rd w S [.string T.1, .int .i64 T.2.1, u] (chT T b row) :=
  tab_rd h (by have := (okT_bd hk).1; unfold maxLen; omega) (by have := (okT_bd hk).2; omega)
theorem wt_rows {T : T3} (h : wtT T ≤ 40) : rowsWt T.2.2 ≤ 40 ∧ T.1.size ≤ 40 := by unfold wtT tabWt at h; omega
/-- The answer of a database that is stored in block Y, out of another answer. -/
theorem ans_far {w w1 w2 : World} {l : List T3} {b : Bool} {u : Value} {fp : List Nat} (ho : tabsC.ow w2 w1.heap.size [u] l fp) (hn : fp.Nodup) (hb1 : Below w.heap.size w w1) (hb : Below w1.heap.size w1 w2) {Y : Nat} (hY : w.heap.size ≤ Y) (hY1 : Y < w1.heap.size) {l' : List T3} {b' : Bool} (el : l = l') (eb : b = b') :
    DbAns l' b' w (.returned (.tuple #[.agg #[u], .bool b])) (w2.setCell ⟨Y, 0, none⟩ u) := by
  subst el eb
  exact ⟨u, fp, rfl, ow_setCell ((Cd.sl _ tabC).ow_base ho hb1.size) (fun q => by have := ((Cd.sl _ tabC).ow_lt ho _ q).1; simp only at this; omega) _, hn, (below_then hb1 hb).setCell hY _⟩
theorem ans_alloc {w w' : World} {l : List T3} {b : Bool} {e : Ending} (h : DbAns l b w e w') (o : Obj) : DbAns l b w e (w'.alloc o) := by
  obtain ⟨u, fp, h1, h2, h3, h4⟩ := h
  exact ⟨u, fp, h1, Cd.ow_later h2 (below_alloc _ _), h3, below_then h4 (below_alloc _ _)⟩

set_option maxRecDepth 100000 in
set_option maxHeartbeats 3200000 in
theorem spec_apply_true (u v : Value) (l : List T3) (nm : ByteArray) (row : List Int) (S S2 : Nat → Prop) (w : World) (h1 : tabsC.rd w S [u] l) (h2 : rowC.rd w S2 [v] row) (hw : wtS l ≤ 1048577) (hrl : row.length ≤ 1048577) :
    Calls Tryz.prog 7 #[.agg #[u], .agg #[.string nm, .bool true, v]] w fun e w' => DbAns (appL l nm true row) (appOk l nm true row) w e w' := by
  have HL := Lib.hid (fun w' (hb : Below w.heap.size w w') => DbSpec.spec_look u l nm S w' (Cd.later h1 hb) hw)
  have HDC := Lib.hid (fun w' (hb : Below w.heap.size w w') => DbSpec.spec_dbcopy u l S w' (Cd.later h1 hb) (by omega))
  have HV := Lib.hid (fun w' (hb : Below w.heap.size w w') => Cd.later h2 hb)
  have HR := Lib.hid (fun w' (hb : Below w.heap.size w w') => Cd.later h1 hb)
  have HW := Lib.hid hw
  have HRL := Lib.hid hrl
  obtain ⟨a1, cap1, rfl, hl1⟩ := Cd.sl_form h1
  obtain ⟨a2, cap2, rfl, hl2⟩ := row_form h2
  clear h1 h2 hw hrl
  have HCH := Lib.hid (fun (T : T3) (hT : rowsWt T.2.2 ≤ 40) u' S' w' (h : rowsC.rd w' S' [u'] T.2.2) (hb : Below w.heap.size w w') =>
    (show Calls Tryz.prog 26 #[.agg #[.string T.1, .int .i64 T.2.1, u'], .slice a2 row.length cap2] w' fun e w'' => ∃ u'' fp, e = .returned (.tuple #[.agg #[.string T.1, .int .i64 T.2.1, u''], .bool (chOk T true row)]) ∧ rowsC.ow w'' w'.heap.size [u''] (chR T true row) fp ∧ fp.Nodup ∧ Below w'.heap.size w' w'' from TabSpec.spec_insert T.1 T.2.1 u' (.slice a2 row.length cap2) T.2.2 row S' S2 w' h (HV.out w' hb) (by omega) (by have := HRL.out; omega)))
  go_enter Tryz.func7, Tryz.ntmps7
  go_wp2_with fail
  generalize hW : ((w.alloc _).alloc _).alloc _ = W
  obtain ⟨r0, r1, r2, hz, hb0⟩ := start3 w _ _ _ hW
  have HC0 := Lib.hid (Loc1.of r0)
  have HC1 := Lib.hid (Loc3.of r1)
  have HC2 := Lib.hid (Loc1.of r2)
  have HB0 := Lib.hid hb0
  have HZ := Lib.hid hz
  clear hW r0 r1 r2 hz hb0
  refine (HL.out _ HB0.out).mono ?_
  rintro e w1 ⟨v1, fp, rfl, ho, hn, hb1⟩
  obtain ⟨a3, c3, rfl⟩ := Cd.ow_slice ho
  have HB1 := Lib.hid (below_then HB0.out hb1)
  have HC0a := Lib.hid (HC0.out.later hb1)
  have HC1a := Lib.hid (HC1.out.later hb1)
  have HC2a := Lib.hid (HC2.out.later hb1)
  have HZ1 := Lib.hid (show w.heap.size + 3 ≤ w1.heap.size by have := hb1.size; have := HZ.out; omega)
  have HO := Lib.hid ho
  clear ho hn hb1 HC0 HC1 HC2
  cases hl : lookL l nm with
  | none =>
    have HA := Lib.hid (app_none (appT_none (b := true) (row := row) hl))
    rw [lk_none hl]
    clear HO hl
    have q0 := HC0a.out.c0
    have q1 := HC0a.out.lt
    go_wp2_with fail
    refine (HDC.out _ (below_then HB1.out (below_alloc _ _))).mono ?_
    rintro e w3 ⟨u3, f3, rfl, ho3, hn3, hb3⟩
    obtain ⟨a4, c4, rfl⟩ := Cd.ow_slice (c := tabC) ho3
    have HC3 := Lib.hid (Loc1.later (HC2a.out.later (below_alloc _ _)) hb3)
    have y0 := HC3.out.c0
    have y1 := HC3.out.f0
    have HX := Lib.hid (ans_far ho3 hn3 (below_then HB1.out (below_alloc _ _)) hb3 (Y := w.heap.size + 2) (by omega) (by rw [size_alloc]; have := HZ1.out; omega) HA.out.1.symm HA.out.2.symm)
    clear ho3 hn3 hb3 q0 q1
    go_wp2_with fail
    have k0 : (w3.setCell ⟨w.heap.size + 2, 0, none⟩ (.slice a4 l.length c4)).cell? ⟨w.heap.size + 2, 0, none⟩ = some (.slice a4 l.length c4) := World.cell?_setCell_same _ _ _ y0
    refine bodyPost_ret (v := .tuple #[.agg #[.slice a4 l.length c4], .bool false]) (by simp [results, Tryz.results7, go_sem, k0]) rfl ?_
    exact HX.out
  | some T =>
    obtain ⟨hdb, hmem, hnmT, hok⟩ := look_ok hl
    have hw40 := wt_rows (wt_ok hok)
    have HOK := Lib.hid hok
    have HW40 := Lib.hid hw40
    have HLK := Lib.hid hl
    rw [lk_some hl] at HO ⊢
    clear hdb hmem hnmT hok hw40 hl
    go_upto_region 6 with fail
    generalize hW2 : (w1.alloc _).alloc _ = W2
    obtain ⟨s0, s1, sz, sb⟩ := start2g w1 _ _ hW2
    have HT6 := Lib.hid (Loc3.of s0)
    have HC1b := Lib.hid (HC1a.out.later sb)
    have HT8 := Lib.hid (Loc3.of s1)
    have HB2 := Lib.hid (below_then HB1.out sb)
    have HC0b := Lib.hid (HC0a.out.later sb)
    have HC2b := Lib.hid (HC2a.out.later sb)
    have HO2 := Lib.hid (Cd.ow_later HO.out sb)
    have HZ2 := Lib.hid sz
    clear hW2 s0 s1 sz sb
    have q0 := HC1b.out.c0
    have q1 := HC1b.out.c1
    have q2 := HC1b.out.c2
    obtain ⟨q3, q4, q5, _, _, _⟩ := HT6.out
    go_wp2_with fail
    clear q0 q1 q2 q3 q4 q5
    refine (HCH.out T HW40.out.1 _ _ W2 (rowsC.ow_rd HO2.out) HB2.out).mono ?_
    rintro e w3 ⟨u3, f3, rfl, ho3, hn3, hb3⟩
    obtain ⟨a5, c5, rfl⟩ := Cd.ow_slice ho3
    have HB3 := Lib.hid (below_then HB2.out hb3)
    have HC0c := Lib.hid (HC0b.out.later hb3)
    have HC2c := Lib.hid (HC2b.out.later hb3)
    have HT8c := Lib.hid (HT8.out.later hb3)
    have HO3 := Lib.hid ho3
    have HZ3 := Lib.hid (show w1.heap.size + 2 ≤ w3.heap.size by have := hb3.size; have := HZ2.out; omega)
    clear ho3 hn3 hb3
    obtain ⟨x0, x1, x2, g0, g1, g2⟩ := HT8c.out
    have q0 := HC0c.out.c0
    have n1 : ¬ (w.heap.size = w1.heap.size + 1) := by have := HZ1.out; omega
    have n2 : ¬ (w1.heap.size + 1 = w.heap.size) := by have := HZ1.out; omega
    have HBS := Lib.hid (show Below w.heap.size w (((w3.setCell ⟨w1.heap.size + 1, 0, none⟩ (.string T.1)).setCell ⟨w1.heap.size + 1, 1, none⟩ (.int .i64 T.2.1)).setCell ⟨w1.heap.size + 1, 2, none⟩ (.slice a5 (chR T true row).length c5)) from
      ((HB3.out.setCell (by show _ ≤ w1.heap.size + 1; have := HZ1.out; omega) _).setCell (by show _ ≤ w1.heap.size + 1; have := HZ1.out; omega) _).setCell (by show _ ≤ w1.heap.size + 1; have := HZ1.out; omega) _)
    have HC2d := Lib.hid (show Loc1 (((w3.setCell ⟨w1.heap.size + 1, 0, none⟩ (.string T.1)).setCell ⟨w1.heap.size + 1, 1, none⟩ (.int .i64 T.2.1)).setCell ⟨w1.heap.size + 1, 2, none⟩ (.slice a5 (chR T true row).length c5)) (w.heap.size + 2) (.slice none 0 0) from
      ((HC2c.out.set_far (by show w1.heap.size + 1 ≠ _; have := HZ1.out; omega) _).set_far (by show w1.heap.size + 1 ≠ _; have := HZ1.out; omega) _).set_far (by show w1.heap.size + 1 ≠ _; have := HZ1.out; omega) _)
    have HSS := Lib.hid (show w.heap.size + 2 < (((w3.setCell ⟨w1.heap.size + 1, 0, none⟩ (.string T.1)).setCell ⟨w1.heap.size + 1, 1, none⟩ (.int .i64 T.2.1)).setCell ⟨w1.heap.size + 1, 2, none⟩ (.slice a5 (chR T true row).length c5)).heap.size by have := HZ1.out; have := HZ3.out; simp; omega)
    have HO4 := Lib.hid (show rowsC.ow (((w3.setCell ⟨w1.heap.size + 1, 0, none⟩ (.string T.1)).setCell ⟨w1.heap.size + 1, 1, none⟩ (.int .i64 T.2.1)).setCell ⟨w1.heap.size + 1, 2, none⟩ (.slice a5 (chR T true row).length c5)) W2.heap.size [.slice a5 (chR T true row).length c5] (chR T true row) f3 from by
      have hn : w1.heap.size + 1 ∉ f3 := fun q => by have := (rowsC.ow_lt HO3.out _ q).1; have := HZ2.out; omega
      exact ow_setCell (ow_setCell (ow_setCell HO3.out hn _) hn _) hn _)
    obtain ⟨z0, z1, z2⟩ := set3 (x := .string T.1) (y := .int .i64 T.2.1) (z := .slice a5 (chR T true row).length c5) x0 x1 x2
    cases hk : chOk T true row
    · have HA := Lib.hid (app_none (appT_no (b := true) (row := row) HLK.out hk))
      clear hk z0 z1 z2
      go_wp2_with fail
      refine (HDC.out _ HBS.out).mono ?_
      rintro e w6 ⟨u6, f6, rfl, ho6, hn6, hb6⟩
      obtain ⟨a6, c6, rfl⟩ := Cd.ow_slice (c := tabC) ho6
      have HC6 := Lib.hid (HC2d.out.later hb6)
      have y0 := HC6.out.c0
      have y1 := HC6.out.f0
      have HX := Lib.hid (ans_far ho6 hn6 HBS.out hb6 (Y := w.heap.size + 2) (by omega) HSS.out HA.out.1.symm HA.out.2.symm)
      clear ho6 hn6 hb6 x0 x1 x2 g0 g1 g2 q0
      go_wp2_with fail
      have k0 : (w6.setCell ⟨w.heap.size + 2, 0, none⟩ (.slice a6 l.length c6)).cell? ⟨w.heap.size + 2, 0, none⟩ = some (.slice a6 l.length c6) := World.cell?_setCell_same _ _ _ y0
      refine bodyPost_ret (v := .tuple #[.agg #[.slice a6 l.length c6], .bool false]) (by simp [results, Tryz.results7, go_sem, k0]) rfl ?_
      exact HX.out
    · have HA := Lib.hid (app_some (appT_yes (b := true) (row := row) HLK.out hk))
      have HWC := Lib.hid (wt_ok (ok_ch HOK.out hk))
      clear hk
      go_wp2_with fail
      refine (DbAcc.spec_set _ l (chT T true row) a5 c5 S _ _ (HR.out _ HBS.out) (chT_rd (rowsC.ow_rd HO4.out) HOK.out) HW.out (by have := HWC.out; omega)).mono ?_
      rintro e w6 ⟨u6, f6, rfl, ho6, hn6, hb6⟩
      obtain ⟨a6, c6, rfl⟩ := Cd.ow_slice (c := tabC) ho6
      have HC6 := Lib.hid (HC2d.out.later hb6)
      have y0 := HC6.out.c0
      have y1 := HC6.out.f0
      have HX := Lib.hid (ans_far ho6 hn6 HBS.out hb6 (Y := w.heap.size + 2) (by omega) HSS.out HA.out.1.symm HA.out.2.symm)
      have m0 := cell_alloc_some (World.cell?_setCell_same _ _ (.slice a6 (setL l (chT T true row)).length c6) y0) (.cells #[.slice a6 (setL l (chT T true row)).length c6] 26 (0, 0))
      have M0 := Lib.hid m0
      have y2 := HC6.out.lt
      clear ho6 hn6 hb6 x0 x1 x2 g0 g1 g2 q0 z0 z1 z2 m0
      go_wp2_with fail
      have k0 := M0.out
      refine bodyPost_ret (v := .tuple #[.agg #[.slice a6 (setL l (chT T true row)).length c6], .bool (setOk l (chT T true row))]) (by simp [results, Tryz.results7, go_sem, k0]) rfl ?_
      exact ans_alloc HX.out _
set_option maxRecDepth 100000 in
set_option maxHeartbeats 3200000 in
theorem spec_apply_false (u v : Value) (l : List T3) (nm : ByteArray) (row : List Int) (S S2 : Nat → Prop) (w : World) (h1 : tabsC.rd w S [u] l) (h2 : rowC.rd w S2 [v] row) (hw : wtS l ≤ 1048577) (hrl : row.length ≤ 1048577) :
    Calls Tryz.prog 7 #[.agg #[u], .agg #[.string nm, .bool false, v]] w fun e w' => DbAns (appL l nm false row) (appOk l nm false row) w e w' := by
  have HL := Lib.hid (fun w' (hb : Below w.heap.size w w') => DbSpec.spec_look u l nm S w' (Cd.later h1 hb) hw)
  have HDC := Lib.hid (fun w' (hb : Below w.heap.size w w') => DbSpec.spec_dbcopy u l S w' (Cd.later h1 hb) (by omega))
  have HV := Lib.hid (fun w' (hb : Below w.heap.size w w') => Cd.later h2 hb)
  have HR := Lib.hid (fun w' (hb : Below w.heap.size w w') => Cd.later h1 hb)
  have HW := Lib.hid hw
  have HRL := Lib.hid hrl
  obtain ⟨a1, cap1, rfl, hl1⟩ := Cd.sl_form h1
  obtain ⟨a2, cap2, rfl, hl2⟩ := row_form h2
  clear h1 h2 hw hrl
  have HCH := Lib.hid (fun (T : T3) (hT : rowsWt T.2.2 ≤ 40) u' S' w' (h : rowsC.rd w' S' [u'] T.2.2) (hb : Below w.heap.size w w') =>
    (show Calls Tryz.prog 27 #[.agg #[.string T.1, .int .i64 T.2.1, u'], .slice a2 row.length cap2] w' fun e w'' => ∃ u'' fp, e = .returned (.tuple #[.agg #[.string T.1, .int .i64 T.2.1, u''], .bool (chOk T false row)]) ∧ rowsC.ow w'' w'.heap.size [u''] (chR T false row) fp ∧ fp.Nodup ∧ Below w'.heap.size w' w'' from TabSpec.spec_delete T.1 T.2.1 u' (.slice a2 row.length cap2) T.2.2 row S' S2 w' h (HV.out w' hb) (by omega)))
  go_enter Tryz.func7, Tryz.ntmps7
  go_wp2_with fail
  generalize hW : ((w.alloc _).alloc _).alloc _ = W
  obtain ⟨r0, r1, r2, hz, hb0⟩ := start3 w _ _ _ hW
  have HC0 := Lib.hid (Loc1.of r0)
  have HC1 := Lib.hid (Loc3.of r1)
  have HC2 := Lib.hid (Loc1.of r2)
  have HB0 := Lib.hid hb0
  have HZ := Lib.hid hz
  clear hW r0 r1 r2 hz hb0
  refine (HL.out _ HB0.out).mono ?_
  rintro e w1 ⟨v1, fp, rfl, ho, hn, hb1⟩
  obtain ⟨a3, c3, rfl⟩ := Cd.ow_slice ho
  have HB1 := Lib.hid (below_then HB0.out hb1)
  have HC0a := Lib.hid (HC0.out.later hb1)
  have HC1a := Lib.hid (HC1.out.later hb1)
  have HC2a := Lib.hid (HC2.out.later hb1)
  have HZ1 := Lib.hid (show w.heap.size + 3 ≤ w1.heap.size by have := hb1.size; have := HZ.out; omega)
  have HO := Lib.hid ho
  clear ho hn hb1 HC0 HC1 HC2
  cases hl : lookL l nm with
  | none =>
    have HA := Lib.hid (app_none (appT_none (b := false) (row := row) hl))
    rw [lk_none hl]
    clear HO hl
    have q0 := HC0a.out.c0
    have q1 := HC0a.out.lt
    go_wp2_with fail
    refine (HDC.out _ (below_then HB1.out (below_alloc _ _))).mono ?_
    rintro e w3 ⟨u3, f3, rfl, ho3, hn3, hb3⟩
    obtain ⟨a4, c4, rfl⟩ := Cd.ow_slice (c := tabC) ho3
    have HC3 := Lib.hid (Loc1.later (HC2a.out.later (below_alloc _ _)) hb3)
    have y0 := HC3.out.c0
    have y1 := HC3.out.f0
    have HX := Lib.hid (ans_far ho3 hn3 (below_then HB1.out (below_alloc _ _)) hb3 (Y := w.heap.size + 2) (by omega) (by rw [size_alloc]; have := HZ1.out; omega) HA.out.1.symm HA.out.2.symm)
    clear ho3 hn3 hb3 q0 q1
    go_wp2_with fail
    have k0 : (w3.setCell ⟨w.heap.size + 2, 0, none⟩ (.slice a4 l.length c4)).cell? ⟨w.heap.size + 2, 0, none⟩ = some (.slice a4 l.length c4) := World.cell?_setCell_same _ _ _ y0
    refine bodyPost_ret (v := .tuple #[.agg #[.slice a4 l.length c4], .bool false]) (by simp [results, Tryz.results7, go_sem, k0]) rfl ?_
    exact HX.out
  | some T =>
    obtain ⟨hdb, hmem, hnmT, hok⟩ := look_ok hl
    have hw40 := wt_rows (wt_ok hok)
    have HOK := Lib.hid hok
    have HW40 := Lib.hid hw40
    have HLK := Lib.hid hl
    rw [lk_some hl] at HO ⊢
    clear hdb hmem hnmT hok hw40 hl
    go_upto_region 6 with fail
    generalize hW2 : (w1.alloc _).alloc _ = W2
    obtain ⟨s0, s1, sz, sb⟩ := start2g w1 _ _ hW2
    have HT6 := Lib.hid (Loc3.of s0)
    have HC1b := Lib.hid (HC1a.out.later sb)
    have HT8 := Lib.hid (Loc3.of s1)
    have HB2 := Lib.hid (below_then HB1.out sb)
    have HC0b := Lib.hid (HC0a.out.later sb)
    have HC2b := Lib.hid (HC2a.out.later sb)
    have HO2 := Lib.hid (Cd.ow_later HO.out sb)
    have HZ2 := Lib.hid sz
    clear hW2 s0 s1 sz sb
    have q0 := HC1b.out.c0
    have q1 := HC1b.out.c1
    have q2 := HC1b.out.c2
    obtain ⟨q3, q4, q5, _, _, _⟩ := HT6.out
    go_wp2_with fail
    clear q0 q1 q2 q3 q4 q5
    refine (HCH.out T HW40.out.1 _ _ W2 (rowsC.ow_rd HO2.out) HB2.out).mono ?_
    rintro e w3 ⟨u3, f3, rfl, ho3, hn3, hb3⟩
    obtain ⟨a5, c5, rfl⟩ := Cd.ow_slice ho3
    have HB3 := Lib.hid (below_then HB2.out hb3)
    have HC0c := Lib.hid (HC0b.out.later hb3)
    have HC2c := Lib.hid (HC2b.out.later hb3)
    have HT8c := Lib.hid (HT8.out.later hb3)
    have HO3 := Lib.hid ho3
    have HZ3 := Lib.hid (show w1.heap.size + 2 ≤ w3.heap.size by have := hb3.size; have := HZ2.out; omega)
    clear ho3 hn3 hb3
    obtain ⟨x0, x1, x2, g0, g1, g2⟩ := HT8c.out
    have q0 := HC0c.out.c0
    have n1 : ¬ (w.heap.size = w1.heap.size + 1) := by have := HZ1.out; omega
    have n2 : ¬ (w1.heap.size + 1 = w.heap.size) := by have := HZ1.out; omega
    have HBS := Lib.hid (show Below w.heap.size w (((w3.setCell ⟨w1.heap.size + 1, 0, none⟩ (.string T.1)).setCell ⟨w1.heap.size + 1, 1, none⟩ (.int .i64 T.2.1)).setCell ⟨w1.heap.size + 1, 2, none⟩ (.slice a5 (chR T false row).length c5)) from
      ((HB3.out.setCell (by show _ ≤ w1.heap.size + 1; have := HZ1.out; omega) _).setCell (by show _ ≤ w1.heap.size + 1; have := HZ1.out; omega) _).setCell (by show _ ≤ w1.heap.size + 1; have := HZ1.out; omega) _)
    have HC2d := Lib.hid (show Loc1 (((w3.setCell ⟨w1.heap.size + 1, 0, none⟩ (.string T.1)).setCell ⟨w1.heap.size + 1, 1, none⟩ (.int .i64 T.2.1)).setCell ⟨w1.heap.size + 1, 2, none⟩ (.slice a5 (chR T false row).length c5)) (w.heap.size + 2) (.slice none 0 0) from
      ((HC2c.out.set_far (by show w1.heap.size + 1 ≠ _; have := HZ1.out; omega) _).set_far (by show w1.heap.size + 1 ≠ _; have := HZ1.out; omega) _).set_far (by show w1.heap.size + 1 ≠ _; have := HZ1.out; omega) _)
    have HSS := Lib.hid (show w.heap.size + 2 < (((w3.setCell ⟨w1.heap.size + 1, 0, none⟩ (.string T.1)).setCell ⟨w1.heap.size + 1, 1, none⟩ (.int .i64 T.2.1)).setCell ⟨w1.heap.size + 1, 2, none⟩ (.slice a5 (chR T false row).length c5)).heap.size by have := HZ1.out; have := HZ3.out; simp; omega)
    have HO4 := Lib.hid (show rowsC.ow (((w3.setCell ⟨w1.heap.size + 1, 0, none⟩ (.string T.1)).setCell ⟨w1.heap.size + 1, 1, none⟩ (.int .i64 T.2.1)).setCell ⟨w1.heap.size + 1, 2, none⟩ (.slice a5 (chR T false row).length c5)) W2.heap.size [.slice a5 (chR T false row).length c5] (chR T false row) f3 from by
      have hn : w1.heap.size + 1 ∉ f3 := fun q => by have := (rowsC.ow_lt HO3.out _ q).1; have := HZ2.out; omega
      exact ow_setCell (ow_setCell (ow_setCell HO3.out hn _) hn _) hn _)
    obtain ⟨z0, z1, z2⟩ := set3 (x := .string T.1) (y := .int .i64 T.2.1) (z := .slice a5 (chR T false row).length c5) x0 x1 x2
    cases hk : chOk T false row
    · have HA := Lib.hid (app_none (appT_no (b := false) (row := row) HLK.out hk))
      clear hk z0 z1 z2
      go_wp2_with fail
      refine (HDC.out _ HBS.out).mono ?_
      rintro e w6 ⟨u6, f6, rfl, ho6, hn6, hb6⟩
      obtain ⟨a6, c6, rfl⟩ := Cd.ow_slice (c := tabC) ho6
      have HC6 := Lib.hid (HC2d.out.later hb6)
      have y0 := HC6.out.c0
      have y1 := HC6.out.f0
      have HX := Lib.hid (ans_far ho6 hn6 HBS.out hb6 (Y := w.heap.size + 2) (by omega) HSS.out HA.out.1.symm HA.out.2.symm)
      clear ho6 hn6 hb6 x0 x1 x2 g0 g1 g2 q0
      go_wp2_with fail
      have k0 : (w6.setCell ⟨w.heap.size + 2, 0, none⟩ (.slice a6 l.length c6)).cell? ⟨w.heap.size + 2, 0, none⟩ = some (.slice a6 l.length c6) := World.cell?_setCell_same _ _ _ y0
      refine bodyPost_ret (v := .tuple #[.agg #[.slice a6 l.length c6], .bool false]) (by simp [results, Tryz.results7, go_sem, k0]) rfl ?_
      exact HX.out
    · have HA := Lib.hid (app_some (appT_yes (b := false) (row := row) HLK.out hk))
      have HWC := Lib.hid (wt_ok (ok_ch HOK.out hk))
      clear hk
      go_wp2_with fail
      refine (DbAcc.spec_set _ l (chT T false row) a5 c5 S _ _ (HR.out _ HBS.out) (chT_rd (rowsC.ow_rd HO4.out) HOK.out) HW.out (by have := HWC.out; omega)).mono ?_
      rintro e w6 ⟨u6, f6, rfl, ho6, hn6, hb6⟩
      obtain ⟨a6, c6, rfl⟩ := Cd.ow_slice (c := tabC) ho6
      have HC6 := Lib.hid (HC2d.out.later hb6)
      have y0 := HC6.out.c0
      have y1 := HC6.out.f0
      have HX := Lib.hid (ans_far ho6 hn6 HBS.out hb6 (Y := w.heap.size + 2) (by omega) HSS.out HA.out.1.symm HA.out.2.symm)
      have m0 := cell_alloc_some (World.cell?_setCell_same _ _ (.slice a6 (setL l (chT T false row)).length c6) y0) (.cells #[.slice a6 (setL l (chT T false row)).length c6] 26 (0, 0))
      have M0 := Lib.hid m0
      have y2 := HC6.out.lt
      clear ho6 hn6 hb6 x0 x1 x2 g0 g1 g2 q0 z0 z1 z2 m0
      go_wp2_with fail
      have k0 := M0.out
      refine bodyPost_ret (v := .tuple #[.agg #[.slice a6 (setL l (chT T false row)).length c6], .bool (setOk l (chT T false row))]) (by simp [results, Tryz.results7, go_sem, k0]) rfl ?_
      exact ans_alloc HX.out _
theorem spec_apply (u v : Value) (l : List T3) (nm : ByteArray) (b : Bool) (row : List Int) (S S2 : Nat → Prop) (w : World) (h1 : tabsC.rd w S [u] l) (h2 : rowC.rd w S2 [v] row) (hw : wtS l ≤ 1048577) (hrl : row.length ≤ 1048577) :
    Calls Tryz.prog 7 #[.agg #[u], .agg #[.string nm, .bool b, v]] w fun e w' => DbAns (appL l nm b row) (appOk l nm b row) w e w' := by
  cases b
  · exact spec_apply_false u v l nm row S S2 w h1 h2 hw hrl
  · exact spec_apply_true u v l nm row S S2 w h1 h2 hw hrl
end Go.Proofs.YtdjgaffiildijabGreat.UpdApp

namespace Go.Proofs.YtdjgaffiildijabGreat.DbImp
open Go Go.RowKit Byt Ints IntsLaw Cd Rows2 Tab SlMath TabOpen TabElem SlTable Db TabSpec DbMath DbSpec TabImp

def cmpN (a b : ByteArray) : Int := if ltB a b then -1 else if ltB b a then 1 else 0
theorem cmpN_lt (a b : ByteArray) : cmpN a b < 0 ↔ ltB a b = true := by
  unfold cmpN
  split
  · rename_i h; simp [h]
  · rename_i h
    split <;> simp [h]
theorem gtr_eq (a b : ByteArray) (h : ltB a b = false) : (!(ltB a b || a.toList == b.toList)) = ltB b a := by
  rw [h, eqB]
  by_cases e : a = b
  · subst e; rw [ltB_irrefl]; simp
  · rw [decide_eq_false e]
    cases k : ltB b a
    · exact absurd (ltB_tri h k) e
    · rfl
theorem less_eq (a b : ByteArray) : Op.bytesLess a.toList b.toList = ltB a b := rfl
theorem nan_str (a : ByteArray) (w : World) : Calls Tryz.prog 89 #[.string a] w fun e w' => e = .returned (.bool false) ∧ w = w' := by
  go_enter Tryz.func89, Tryz.ntmps89
  go_wp2_with fail
  go_ret
  exact ⟨by simp, rfl⟩
set_option maxRecDepth 100000 in
theorem cmp_str (a b : ByteArray) (w : World) : Calls Tryz.prog 85 #[.string a, .string b] w fun e w' => e = .returned (.int .i64 (cmpN a b)) ∧ w = w' := by
  cases h : ltB a b
  · have hg := gtr_eq a b h
    have HC := Lib.hid (show cmpN a b = if ltB b a then 1 else 0 by unfold cmpN; rw [h]; rfl)
    rw [h] at hg
    have h' : Op.bytesLess a.toList b.toList = false := h
    cases k : ltB b a
    · rw [k] at hg HC
      have hg' : (a.toList == b.toList) = true := by simpa using hg
      clear hg h
      go_enter Tryz.func85, Tryz.ntmps85
      go_wp2_with (first | (go_at_call 89; refine (nan_str _ _).mono ?_; rintro e w' ⟨rfl, rfl⟩))
      go_ret
      exact ⟨by rw [HC.out]; rfl, rfl⟩
    · rw [k] at hg HC
      have hg' : (a.toList == b.toList) = false := by simpa using hg
      clear hg h
      go_enter Tryz.func85, Tryz.ntmps85
      go_wp2_with (first | (go_at_call 89; refine (nan_str _ _).mono ?_; rintro e w' ⟨rfl, rfl⟩))
      go_ret
      exact ⟨by rw [HC.out]; rfl, rfl⟩
  · have HC := Lib.hid (show cmpN a b = -1 by unfold cmpN; rw [h]; rfl)
    have h' : Op.bytesLess a.toList b.toList = true := h
    clear h
    go_enter Tryz.func85, Tryz.ntmps85
    go_wp2_with (first | (go_at_call 89; refine (nan_str _ _).mono ?_; rintro e w' ⟨rfl, rfl⟩))
    go_ret
    exact ⟨by rw [HC.out]; rfl, rfl⟩
theorem grow_two (w : World) (o1 o2 : Obj) : (w.alloc o1).alloc o2 = Sort.grow w #[o1, o2] := by
  show ({ w with heap := (w.heap.push o1).push o2 } : World) = { w with heap := w.heap ++ #[o1, o2] }
  rw [show (w.heap.push o1).push o2 = w.heap ++ #[o1, o2] by apply Array.ext'; simp]
set_option maxRecDepth 100000 in
theorem cmp_names (a b : ByteArray) (y z y' z' : Value) (w : World) : Calls Tryz.prog 78 #[.agg #[.string a, y, z], .agg #[.string b, y', z']] w fun e w' => e = .returned (.int .i64 (cmpN a b)) ∧ ∃ os, w' = Sort.grow w os := by
  have HC := Lib.hid (fun w' => cmp_str a b w')
  go_enter Tryz.func78, Tryz.ntmps78
  go_wp2_with fail
  refine (HC.out _).mono ?_
  rintro e w' ⟨rfl, rfl⟩
  go_wp2_with fail
  go_ret
  exact ⟨rfl, #[_, _], grow_two w _ _⟩
theorem below_grow (w : World) (os : Array Obj) : Below w.heap.size w (Sort.grow w os) :=
  ⟨rfl, rfl, rfl, by show _ ≤ (w.heap ++ os).size; rw [Array.size_append]; omega, fun k hk => by show (w.heap ++ os)[k]? = w.heap[k]?; rw [Array.getElem?_append_left hk]⟩
theorem val_elem_i (us : List Value) (T : T3) (S : Nat → Prop) (w : World) (hu : tabC.rd w S us T) :
    Calls Tryz.prog 53 #[.agg us.toArray] w fun e w' => e = .returned (.bool (okT T)) ∧ Below w.heap.size w w' := by
  obtain ⟨u, rfl, _, _, h3⟩ := tab_cells hu
  exact impl_valid T.1 T.2.1 u T.2.2 S w h3
set_option maxRecDepth 100000 in
set_option maxHeartbeats 1600000 in
theorem impl_dbok (u : Value) (l : List T3) (S : Nat → Prop) (w : World) (h1 : tabsC.rd w S [u] l) :
    Calls Tryz.prog 52 #[.agg #[u]] w fun e w' => e = .returned (.bool (dbOk l)) ∧ Below w.heap.size w w' := by
  have HR1 := Lib.hid (fun w' (hb : Below w.heap.size w w') => Cd.later h1 hb)
  obtain ⟨a1, cap1, rfl, hl1⟩ := Cd.sl_form h1
  clear h1
  by_cases h6 : 6 < l.length
  · have HZ := Lib.hid (show dbOk l = false from dbOk_no.2 fun q => by have := q.1; omega)
    have h6' : ((6 : Int) < (l.length : Int)) = True := by simp only [eq_iff_iff, iff_true]; omega
    go_enter Tryz.func52, Tryz.ntmps52
    go_wp2_with fail
    go_ret
    exact ⟨DbSpec.ret_b HZ.out.symm, below_alloc _ _⟩
  have H6 := Lib.hid (show l.length ≤ 6 by omega)
  have h6' : ((6 : Int) < (l.length : Int)) = False := by simp only [eq_iff_iff, iff_false]; omega
  go_enter Tryz.func52, Tryz.ntmps52
  go_wp2_with fail
  generalize hW : w.alloc _ = W
  obtain ⟨r0, hz, hb0⟩ := start1 w _ hW
  have HC0 := Lib.hid (row1 r0).1
  have HLT0 := Lib.hid (show w.heap.size < W.heap.size by omega)
  have HB0 := Lib.hid hb0
  clear hW r0 hz hb0
  go_loopw [12] (fun i wr => ∃ k : Nat, k ≤ l.length ∧ i = .int .i64 k ∧ (∀ T ∈ l.take k, okT T = true) ∧ AscP (l.take k) ∧ Below W.heap.size W wr) (fun i _ => l.length - (intOf i).toNat)
  case atStart => exact ⟨0, Nat.zero_le _, rfl, by simp, by simp [AscP], Below.refl _ _⟩
  case round =>
    obtain ⟨k, hk, rfl, hok, has, hb⟩ := hrel
    have x0 := (hb.cell (p := ⟨w.heap.size, 0, none⟩) HLT0.out).trans HC0.out
    have HOK := Lib.hid hok
    have HAS := Lib.hid has
    have HBW := Lib.hid (below_then HB0.out hb)
    have HWR := Lib.hid hb
    have HX0 := Lib.hid (And.intro x0 (World.block_lt_of_cell? _ _ x0))
    clear hok has
    by_cases hlt : k < l.length
    · obtain ⟨b, off, cap', us, e1, _, hbB, hat, hu⟩ := Cd.sl_at (HR1.out wr HBW.out) hlt
      injection e1 with e1 e2 e3
      subst e1 e3
      obtain ⟨x, y, z, rfl⟩ := len_list (tabC.len hu)
      have p0 := hat 0 (by simp)
      have p1 := hat 1 (by simp)
      have p2 := hat 2 (by simp)
      simp only [List.getElem_cons_zero, List.getElem_cons_succ, Nat.add_zero, show tabC.n = 3 from rfl] at p0 p1 p2
      obtain ⟨nk, hnk⟩ : ∃ nk, nk = (l[k]).1 := ⟨_, rfl⟩
      obtain rfl : x = .string nk := by rw [hnk]; exact name_cell hu
      obtain ⟨rk, hrk⟩ : ∃ rk, rk = (l[k]).2.1 := ⟨_, rfl⟩
      obtain ⟨qk, hqk⟩ : ∃ qk, qk = (l[k]).2.2.length := ⟨_, rfl⟩
      obtain ⟨ak, ck, hsh⟩ : ∃ a c, [y, z] = [.int .i64 rk, .slice a qk c] := by
        obtain ⟨u, e, _, _, h3⟩ := tab_cells hu
        obtain ⟨a, c, rfl, _⟩ := rows_form h3
        injection e with _ e
        exact ⟨a, c, by rw [hrk, hqk]; exact e⟩
      injection hsh with hy hsh
      injection hsh with hzz
      subst hy hzz
      have HNK := Lib.hid hnk
      have HE := Lib.hid (fun w' (hq : LaterD wr w') => val_elem_i [.string nk, .int .i64 rk, .slice ak qk ck] l[k] _ w' (Cd.later hu hq))
      have HBB := Lib.hid hbB
      have i1 : (0 : Int) ≤ (k : Int) := by omega
      have i2 : (k : Int) < (l.length : Int) := by omega
      clear hnk hu hat hbB e2 hrk hqk
      go_upto_region 6 with fail
      generalize hg : World.alloc wr _ = w1
      obtain ⟨rg, zg, hbg⟩ := start1 wr _ hg
      have HBG := Lib.hid hbg
      obtain ⟨g0, g1, g2, _, _, _⟩ := row3 rg
      have n0 := (hbg.cell (p := ⟨w.heap.size, 0, none⟩) HX0.out.2).trans HX0.out.1
      have HG := Lib.hid (And.intro n0 (And.intro g0 (And.intro g1 g2)))
      have HGL := Lib.hid (show w.heap.size < w1.heap.size ∧ wr.heap.size < w1.heap.size ∧ b < w1.heap.size from ⟨by have := HX0.out.2; have := hbg.size; simp only at *; omega, by omega, by have := HBB.out; have := hbg.size; omega⟩)
      have kk : LaterD w1 w1.drew := drewD (Below.refl _ w1)
      have kw : LaterD wr w1.drew := drewD hbg
      clear hg rg zg hbg x0 p0 p1 p2
      cases hT : okT l[k]
      · rw [hT] at HE
        have HZ := Lib.hid (show dbOk l = false from dbOk_no.2 fun q => by have := q.2.1 _ (List.getElem_mem hlt); rw [hT] at this; cases this)
        clear hT
        refine wp_region_held_drew (S := fun wx => wx.cell? ⟨w.heap.size, 0, none⟩ = some (.slice (some ⟨b, off, none⟩) l.length cap1) ∧ wx.cell? ⟨wr.heap.size, 0, none⟩ = some (.string nk) ∧ wx.cell? ⟨wr.heap.size, 1, none⟩ = some (.int .i64 rk) ∧ wx.cell? ⟨wr.heap.size, 2, none⟩ = some (.slice ak qk ck) ∧ LaterD w1 wx) (by kernel_rfl) ?_ (fun hHeld => ?_)
        · (refine ⟨?_, ?_, ?_, ?_, ?_⟩ <;> first | assumption | (simp [*]; done))
        refine RegH.takeH (i := 0) (v := ?_) rfl (by kernel_rfl) (by kernel_rfl) (by kernel_rfl) (fun _ _ _ h => h) (Or.inl ⟨by rfl, ?_⟩) (by assumption) ?_
        rotate_left
        · (intro wS hSw; (try dsimp only at hSw); go_simp; try (with_reducible rfl))
        try simp only [Act.put, List.setIfInBounds_toArray, List.set_cons_zero, List.set_cons_succ]
        refine RegH.consH (i := 1) rfl (by kernel_rfl) (fun K hK => ?_)
        go_simp
        go_at_call 53
        refine (HE.out _ kw).mono ?_
        rintro e wq ⟨rfl, hbq⟩
        have kq : LaterD w1 wq := below_then (show Below w1.heap.size w1 w1.drew from kk) hbq
        have n0 := (Below.cell kq (p := ⟨w.heap.size, 0, none⟩) HGL.out.1).trans HG.out.1
        have n1 := (Below.cell kq (p := ⟨wr.heap.size, 0, none⟩) HGL.out.2.1).trans HG.out.2.1
        have n2 := (Below.cell kq (p := ⟨wr.heap.size, 1, none⟩) HGL.out.2.1).trans HG.out.2.2.1
        have n3 := (Below.cell kq (p := ⟨wr.heap.size, 2, none⟩) HGL.out.2.1).trans HG.out.2.2.2
        clear hbq
        go_wp2_with fail
        refine hK.out _ _ ?_ (fun hHeld => ?_)
        · (refine ⟨?_, ?_, ?_, ?_, ?_⟩ <;> first | assumption | (simp [*]; done))
        clear hK K
        try simp only [Act.put, List.setIfInBounds_toArray, List.set_cons_zero, List.set_cons_succ]
        refine RegH.takeH (i := 2) (v := ?_) rfl (by kernel_rfl) (by kernel_rfl) (by kernel_rfl) (fun _ _ _ h => h) (Or.inl ⟨by rfl, ?_⟩) (by assumption) ?_
        rotate_left
        · (intro wS hSw; (try dsimp only at hSw); go_simp; try (with_reducible rfl))
        try simp only [Act.put, List.setIfInBounds_toArray, List.set_cons_zero, List.set_cons_succ]
        refine RegH.takeH (i := 3) (v := ?_) rfl (by kernel_rfl) (by kernel_rfl) (by kernel_rfl) (fun _ _ _ h => h) (Or.inl ⟨by rfl, ?_⟩) (by assumption) ?_
        rotate_left
        · (intro wS hSw; (try dsimp only at hSw); go_simp; try (with_reducible rfl))
        try simp only [Act.put, List.setIfInBounds_toArray, List.set_cons_zero, List.set_cons_succ]
        refine RegH.takeH (i := 4) rfl (by kernel_rfl) (by kernel_rfl) (by kernel_rfl) (fun _ _ _ h => h) (Or.inr ⟨by rfl, rfl⟩) (by assumption) ?_
        try simp only [Act.put, List.setIfInBounds_toArray, List.set_cons_zero, List.set_cons_succ]
        refine RegH.takeH (i := 5) rfl (by kernel_rfl) (by kernel_rfl) (by kernel_rfl) (fun _ _ _ h => h) (Or.inr ⟨by rfl, rfl⟩) (by assumption) ?_
        try simp only [Act.put, List.setIfInBounds_toArray, List.set_cons_zero, List.set_cons_succ]
        refine RegH.takeH (i := 6) rfl (by kernel_rfl) (by kernel_rfl) (by kernel_rfl) (fun _ _ _ h => h) (Or.inr ⟨by rfl, rfl⟩) (by assumption) ?_
        try simp only [Act.put, List.setIfInBounds_toArray, List.set_cons_zero, List.set_cons_succ]
        refine RegH.takeH (i := 7) rfl (by kernel_rfl) (by kernel_rfl) (by kernel_rfl) (fun _ _ _ h => h) (Or.inr ⟨by rfl, rfl⟩) (by assumption) ?_
        try simp only [Act.put, List.setIfInBounds_toArray, List.set_cons_zero, List.set_cons_succ]
        refine RegH.takeH (i := 8) rfl (by kernel_rfl) (by kernel_rfl) (by kernel_rfl) (fun _ _ _ h => h) (Or.inr ⟨by rfl, rfl⟩) (by assumption) ?_
        try simp only [Act.put, List.setIfInBounds_toArray, List.set_cons_zero, List.set_cons_succ]
        refine RegH.takeH (i := 9) rfl (by kernel_rfl) (by kernel_rfl) (by kernel_rfl) (fun _ _ _ h => h) (Or.inr ⟨by rfl, rfl⟩) (by assumption) ?_
        try simp only [Act.put, List.setIfInBounds_toArray, List.set_cons_zero, List.set_cons_succ]
        refine RegH.takeH (i := 10) rfl (by kernel_rfl) (by kernel_rfl) (by kernel_rfl) (fun _ _ _ h => h) (Or.inr ⟨by rfl, rfl⟩) (by assumption) ?_
        try simp only [Act.put, List.setIfInBounds_toArray, List.set_cons_zero, List.set_cons_succ]
        refine RegH.takeH (i := 11) rfl (by kernel_rfl) (by kernel_rfl) (by kernel_rfl) (fun _ _ _ h => h) (Or.inr ⟨by rfl, rfl⟩) (by assumption) ?_
        try simp only [Act.put, List.setIfInBounds_toArray, List.set_cons_zero, List.set_cons_succ]
        refine RegH.takeH (i := 12) rfl (by kernel_rfl) (by kernel_rfl) (by kernel_rfl) (fun _ _ _ h => h) (Or.inr ⟨by rfl, rfl⟩) (by assumption) ?_
        try simp only [Act.put, List.setIfInBounds_toArray, List.set_cons_zero, List.set_cons_succ]
        refine RegH.takeH (i := 13) rfl (by kernel_rfl) (by kernel_rfl) (by kernel_rfl) (fun _ _ _ h => h) (Or.inr ⟨by rfl, rfl⟩) (by assumption) ?_
        try simp only [Act.put, List.setIfInBounds_toArray, List.set_cons_zero, List.set_cons_succ]
        refine RegH.takeH (i := 14) rfl (by kernel_rfl) (by kernel_rfl) (by kernel_rfl) (fun _ _ _ h => h) (Or.inr ⟨by rfl, rfl⟩) (by assumption) ?_
        try simp only [Act.put, List.setIfInBounds_toArray, List.set_cons_zero, List.set_cons_succ]
        refine RegH.takeH (i := 15) rfl (by kernel_rfl) (by kernel_rfl) (by kernel_rfl) (fun _ _ _ h => h) (Or.inr ⟨by rfl, rfl⟩) (by assumption) ?_
        try simp only [Act.put, List.setIfInBounds_toArray, List.set_cons_zero, List.set_cons_succ]
        refine RegH.takeH (i := 16) rfl (by kernel_rfl) (by kernel_rfl) (by kernel_rfl) (fun _ _ _ h => h) (Or.inr ⟨by rfl, rfl⟩) (by assumption) ?_
        try simp only [Act.put, List.setIfInBounds_toArray, List.set_cons_zero, List.set_cons_succ]
        refine RegH.takeH (i := 17) (v := ?_) rfl (by kernel_rfl) (by kernel_rfl) (by kernel_rfl) (fun _ _ _ h => h) (Or.inl ⟨by rfl, ?_⟩) (by assumption) ?_
        rotate_left
        · (intro wS hSw; (try dsimp only at hSw); go_simp; try (with_reducible rfl))
        try simp only [Act.put, List.setIfInBounds_toArray, List.set_cons_zero, List.set_cons_succ]
        refine wpAnyH_done (by kernel_rfl) ?_ _
        go_wp2_with fail
        go_ret
        exact ⟨DbSpec.ret_b HZ.out.symm, below_then HBW.out (below_then (show Below wr.heap.size wr w1 from HBG.out) (show Below w1.heap.size w1 wq from kq))⟩
      · rw [hT] at HE
        have HN1 := Lib.hid (ok_more HOK.out hlt hT)
        clear hT
        by_cases hk0 : k = 0
        · have hg1 : ((0 : Int) < (k : Int)) = False := by simp only [eq_iff_iff, iff_false]; omega
          have hg2 : (0 < k) = False := by simp only [eq_iff_iff, iff_false]; omega
          have HN2 := Lib.hid (asc_more HAS.out hlt (fun j e _ => by omega))
          clear hk0
          refine wp_region_held_drew (S := fun wx => wx.cell? ⟨w.heap.size, 0, none⟩ = some (.slice (some ⟨b, off, none⟩) l.length cap1) ∧ wx.cell? ⟨wr.heap.size, 0, none⟩ = some (.string nk) ∧ wx.cell? ⟨wr.heap.size, 1, none⟩ = some (.int .i64 rk) ∧ wx.cell? ⟨wr.heap.size, 2, none⟩ = some (.slice ak qk ck) ∧ LaterD w1 wx) (by kernel_rfl) ?_ (fun hHeld => ?_)
          · (refine ⟨?_, ?_, ?_, ?_, ?_⟩ <;> first | assumption | (simp [*]; done))
          refine RegH.takeH (i := 0) (v := ?_) rfl (by kernel_rfl) (by kernel_rfl) (by kernel_rfl) (fun _ _ _ h => h) (Or.inl ⟨by rfl, ?_⟩) (by assumption) ?_
          rotate_left
          · (intro wS hSw; (try dsimp only at hSw); go_simp; try (with_reducible rfl))
          try simp only [Act.put, List.setIfInBounds_toArray, List.set_cons_zero, List.set_cons_succ]
          refine RegH.consH (i := 1) rfl (by kernel_rfl) (fun K hK => ?_)
          go_simp
          go_at_call 53
          refine (HE.out _ kw).mono ?_
          rintro e wq ⟨rfl, hbq⟩
          have kq : LaterD w1 wq := below_then (show Below w1.heap.size w1 w1.drew from kk) hbq
          have n0 := (Below.cell kq (p := ⟨w.heap.size, 0, none⟩) HGL.out.1).trans HG.out.1
          have n1 := (Below.cell kq (p := ⟨wr.heap.size, 0, none⟩) HGL.out.2.1).trans HG.out.2.1
          have n2 := (Below.cell kq (p := ⟨wr.heap.size, 1, none⟩) HGL.out.2.1).trans HG.out.2.2.1
          have n3 := (Below.cell kq (p := ⟨wr.heap.size, 2, none⟩) HGL.out.2.1).trans HG.out.2.2.2
          clear hbq
          go_wp2_with fail
          refine hK.out _ _ ?_ (fun hHeld => ?_)
          · (refine ⟨?_, ?_, ?_, ?_, ?_⟩ <;> first | assumption | (simp [*]; done))
          clear hK K
          try simp only [Act.put, List.setIfInBounds_toArray, List.set_cons_zero, List.set_cons_succ]
          refine RegH.takeH (i := 2) (v := ?_) rfl (by kernel_rfl) (by kernel_rfl) (by kernel_rfl) (fun _ _ _ h => h) (Or.inl ⟨by rfl, ?_⟩) (by assumption) ?_
          rotate_left
          · (intro wS hSw; (try dsimp only at hSw); go_simp; try (with_reducible rfl))
          try simp only [Act.put, List.setIfInBounds_toArray, List.set_cons_zero, List.set_cons_succ]
          refine RegH.takeH (i := 3) (v := ?_) rfl (by kernel_rfl) (by kernel_rfl) (by kernel_rfl) (fun _ _ _ h => h) (Or.inl ⟨by rfl, ?_⟩) (by assumption) ?_
          rotate_left
          · (intro wS hSw; (try dsimp only at hSw); go_simp; try (with_reducible rfl))
          try simp only [Act.put, List.setIfInBounds_toArray, List.set_cons_zero, List.set_cons_succ]
          refine RegH.takeH (i := 4) (v := ?_) rfl (by kernel_rfl) (by kernel_rfl) (by kernel_rfl) (fun _ _ _ h => h) (Or.inl ⟨by rfl, ?_⟩) (by assumption) ?_
          rotate_left
          · (intro wS hSw; (try dsimp only at hSw); go_simp; try (with_reducible rfl))
          try simp only [Act.put, List.setIfInBounds_toArray, List.set_cons_zero, List.set_cons_succ]
          refine RegH.takeH (i := 5) (v := ?_) rfl (by kernel_rfl) (by kernel_rfl) (by kernel_rfl) (fun _ _ _ h => h) (Or.inl ⟨by rfl, ?_⟩) (by assumption) ?_
          rotate_left
          · (intro wS hSw; (try dsimp only at hSw); go_simp; try (with_reducible rfl))
          try simp only [Act.put, List.setIfInBounds_toArray, List.set_cons_zero, List.set_cons_succ]
          refine RegH.takeH (i := 6) (v := ?_) rfl (by kernel_rfl) (by kernel_rfl) (by kernel_rfl) (fun _ _ _ h => h) (Or.inl ⟨by rfl, ?_⟩) (by assumption) ?_
          rotate_left
          · (intro wS hSw; (try dsimp only at hSw); go_simp; try (with_reducible rfl))
          try simp only [Act.put, List.setIfInBounds_toArray, List.set_cons_zero, List.set_cons_succ]
          refine RegH.takeH (i := 7) rfl (by kernel_rfl) (by kernel_rfl) (by kernel_rfl) (fun _ _ _ h => h) (Or.inr ⟨by rfl, rfl⟩) (by assumption) ?_
          try simp only [Act.put, List.setIfInBounds_toArray, List.set_cons_zero, List.set_cons_succ]
          refine RegH.takeH (i := 8) rfl (by kernel_rfl) (by kernel_rfl) (by kernel_rfl) (fun _ _ _ h => h) (Or.inr ⟨by rfl, rfl⟩) (by assumption) ?_
          try simp only [Act.put, List.setIfInBounds_toArray, List.set_cons_zero, List.set_cons_succ]
          refine RegH.takeH (i := 9) rfl (by kernel_rfl) (by kernel_rfl) (by kernel_rfl) (fun _ _ _ h => h) (Or.inr ⟨by rfl, rfl⟩) (by assumption) ?_
          try simp only [Act.put, List.setIfInBounds_toArray, List.set_cons_zero, List.set_cons_succ]
          refine RegH.takeH (i := 10) rfl (by kernel_rfl) (by kernel_rfl) (by kernel_rfl) (fun _ _ _ h => h) (Or.inr ⟨by rfl, rfl⟩) (by assumption) ?_
          try simp only [Act.put, List.setIfInBounds_toArray, List.set_cons_zero, List.set_cons_succ]
          refine RegH.takeH (i := 11) rfl (by kernel_rfl) (by kernel_rfl) (by kernel_rfl) (fun _ _ _ h => h) (Or.inr ⟨by rfl, rfl⟩) (by assumption) ?_
          try simp only [Act.put, List.setIfInBounds_toArray, List.set_cons_zero, List.set_cons_succ]
          refine RegH.takeH (i := 12) rfl (by kernel_rfl) (by kernel_rfl) (by kernel_rfl) (fun _ _ _ h => h) (Or.inr ⟨by rfl, rfl⟩) (by assumption) ?_
          try simp only [Act.put, List.setIfInBounds_toArray, List.set_cons_zero, List.set_cons_succ]
          refine RegH.takeH (i := 13) rfl (by kernel_rfl) (by kernel_rfl) (by kernel_rfl) (fun _ _ _ h => h) (Or.inr ⟨by rfl, rfl⟩) (by assumption) ?_
          try simp only [Act.put, List.setIfInBounds_toArray, List.set_cons_zero, List.set_cons_succ]
          refine RegH.takeH (i := 14) rfl (by kernel_rfl) (by kernel_rfl) (by kernel_rfl) (fun _ _ _ h => h) (Or.inr ⟨by rfl, rfl⟩) (by assumption) ?_
          try simp only [Act.put, List.setIfInBounds_toArray, List.set_cons_zero, List.set_cons_succ]
          refine RegH.takeH (i := 15) rfl (by kernel_rfl) (by kernel_rfl) (by kernel_rfl) (fun _ _ _ h => h) (Or.inr ⟨by rfl, rfl⟩) (by assumption) ?_
          try simp only [Act.put, List.setIfInBounds_toArray, List.set_cons_zero, List.set_cons_succ]
          refine RegH.takeH (i := 16) (v := ?_) rfl (by kernel_rfl) (by kernel_rfl) (by kernel_rfl) (fun _ _ _ h => h) (Or.inl ⟨by rfl, ?_⟩) (by assumption) ?_
          rotate_left
          · (intro wS hSw; (try dsimp only at hSw); go_simp; try (with_reducible rfl))
          try simp only [Act.put, List.setIfInBounds_toArray, List.set_cons_zero, List.set_cons_succ]
          refine RegH.takeH (i := 17) (v := ?_) rfl (by kernel_rfl) (by kernel_rfl) (by kernel_rfl) (fun _ _ _ h => h) (Or.inl ⟨by rfl, ?_⟩) (by assumption) ?_
          rotate_left
          · (intro wS hSw; (try dsimp only at hSw); go_simp; try (with_reducible rfl))
          try simp only [Act.put, List.setIfInBounds_toArray, List.set_cons_zero, List.set_cons_succ]
          refine wpAnyH_done (by kernel_rfl) ?_ _
          go_wp2_with fail
          go_roundw
          case rel => exact ⟨k + 1, by omega, by go_num, HN1.out, HN2.out, below_then HWR.out (below_then (show Below wr.heap.size wr w1 from HBG.out) (show Below w1.heap.size w1 wq from kq))⟩
          case measure => simp [intOf]; omega
        · have hg1 : ((0 : Int) < (k : Int)) = True := by simp only [eq_iff_iff, iff_true]; omega
          have hg2 : (0 < k) = True := by simp only [eq_iff_iff, iff_true]; omega
          obtain ⟨j, hj⟩ : ∃ j, k = j + 1 := ⟨k - 1, by omega⟩
          have hjl : j < l.length := by omega
          obtain ⟨b', off', cap'', vs, e1, _, _, hat, hu⟩ := Cd.sl_at (HR1.out w1 (below_then HBW.out HBG.out)) hjl
          injection e1 with e1 g1 g2
          injection e1 with e1
          injection e1 with e1 e2
          subst e1 e2
          clear g1 g2
          obtain ⟨x', y', z', rfl⟩ := len_list (tabC.len hu)
          have q0 := hat 0 (by simp)
          have q1 := hat 1 (by simp)
          have q2 := hat 2 (by simp)
          simp only [List.getElem_cons_zero, List.getElem_cons_succ, Nat.add_zero, show tabC.n = 3 from rfl] at q0 q1 q2
          obtain ⟨nj, hnj⟩ : ∃ nj, nj = (l[j]).1 := ⟨_, rfl⟩
          obtain rfl : x' = .string nj := by rw [hnj]; exact name_cell hu
          obtain ⟨rj, hrj⟩ : ∃ rj, rj = (l[j]).2.1 := ⟨_, rfl⟩
          obtain ⟨qj, hqj⟩ : ∃ qj, qj = (l[j]).2.2.length := ⟨_, rfl⟩
          obtain ⟨aj, cj, hsh⟩ : ∃ a c, [y', z'] = [.int .i64 rj, .slice a qj c] := by
            obtain ⟨u, e, _, _, h3⟩ := tab_cells hu
            obtain ⟨a, c, rfl, _⟩ := rows_form h3
            injection e with _ e
            exact ⟨a, c, by rw [hrj, hqj]; exact e⟩
          injection hsh with hy hsh
          injection hsh with hzz
          subst hy hzz
          have HQ := Lib.hid (And.intro q0 (And.intro q1 q2))
          have HNJ := Lib.hid (show nj = (l[j]).1 from hnj)
          have j1 : (k : Int) - 1 = (j : Int) := by omega
          have j2 : IntKind.i64.wrap (j : Int) = (j : Int) := by rw [IntKind.wrap_i64]; omega
          have j3 : (0 : Int) ≤ (j : Int) := by omega
          have j4 : (j : Int) < (l.length : Int) := by omega
          have HJ := Lib.hid hj
          have q0' : w1.drew.cell? ⟨b, off + j * 3, none⟩ = some (.string nj) := q0
          have q1' : w1.drew.cell? ⟨b, off + j * 3 + 1, none⟩ = some (.int .i64 rj) := q1
          have q2' : w1.drew.cell? ⟨b, off + j * 3 + 2, none⟩ = some (.slice aj qj cj) := q2
          clear hat hu hk0 hnj hj hrj hqj
          cases hlt2 : ltB nj nk
          · have HZ := Lib.hid (show dbOk l = false from dbOk_no.2 fun q => by have e := HJ.out; subst e; have := asc_at q.2.2 hlt; rw [← HNJ.out, ← HNK.out, hlt2] at this; cases this)
            obtain ⟨c, hc, hc0⟩ : ∃ c, cmpN nj nk = c ∧ (0 ≤ c) = True := ⟨_, rfl, by simp only [eq_iff_iff, iff_true]; have := cmpN_lt nj nk; rw [hlt2] at this; simp at this; exact this⟩
            have HCN := Lib.hid hc
            clear hc
            refine wp_region_held_drew (S := fun wx => wx.cell? ⟨w.heap.size, 0, none⟩ = some (.slice (some ⟨b, off, none⟩) l.length cap1) ∧ wx.cell? ⟨wr.heap.size, 0, none⟩ = some (.string nk) ∧ wx.cell? ⟨wr.heap.size, 1, none⟩ = some (.int .i64 rk) ∧ wx.cell? ⟨wr.heap.size, 2, none⟩ = some (.slice ak qk ck) ∧ wx.cell? ⟨b, off + j * 3, none⟩ = some (.string nj) ∧ wx.cell? ⟨b, off + j * 3 + 1, none⟩ = some (.int .i64 rj) ∧ wx.cell? ⟨b, off + j * 3 + 2, none⟩ = some (.slice aj qj cj) ∧ LaterD w1 wx) (by kernel_rfl) ?_ (fun hHeld => ?_)
            · (refine ⟨?_, ?_, ?_, ?_, ?_, ?_, ?_, ?_⟩ <;> first | assumption | (simp [*]; done))
            refine RegH.takeH (i := 0) (v := ?_) rfl (by kernel_rfl) (by kernel_rfl) (by kernel_rfl) (fun _ _ _ h => h) (Or.inl ⟨by rfl, ?_⟩) (by assumption) ?_
            rotate_left
            · (intro wS hSw; (try dsimp only at hSw); go_simp; try (with_reducible rfl))
            try simp only [Act.put, List.setIfInBounds_toArray, List.set_cons_zero, List.set_cons_succ]
            refine RegH.consH (i := 1) rfl (by kernel_rfl) (fun K hK => ?_)
            go_simp
            go_at_call 53
            refine (HE.out _ kw).mono ?_
            rintro e wq ⟨rfl, hbq⟩
            have kq : LaterD w1 wq := below_then (show Below w1.heap.size w1 w1.drew from kk) hbq
            have n0 := (Below.cell kq (p := ⟨w.heap.size, 0, none⟩) HGL.out.1).trans HG.out.1
            have n1 := (Below.cell kq (p := ⟨wr.heap.size, 0, none⟩) HGL.out.2.1).trans HG.out.2.1
            have n2 := (Below.cell kq (p := ⟨wr.heap.size, 1, none⟩) HGL.out.2.1).trans HG.out.2.2.1
            have n3 := (Below.cell kq (p := ⟨wr.heap.size, 2, none⟩) HGL.out.2.1).trans HG.out.2.2.2
            have n4 := (Below.cell kq (p := ⟨b, off + j * 3, none⟩) HGL.out.2.2).trans HQ.out.1
            have n5 := (Below.cell kq (p := ⟨b, off + j * 3 + 1, none⟩) HGL.out.2.2).trans HQ.out.2.1
            have n6 := (Below.cell kq (p := ⟨b, off + j * 3 + 2, none⟩) HGL.out.2.2).trans HQ.out.2.2
            clear hbq
            go_wp2_with fail
            refine hK.out _ _ ?_ (fun hHeld => ?_)
            · (refine ⟨?_, ?_, ?_, ?_, ?_, ?_, ?_, ?_⟩ <;> first | assumption | (simp [*]; done))
            clear hK K
            try simp only [Act.put, List.setIfInBounds_toArray, List.set_cons_zero, List.set_cons_succ]
            refine RegH.takeH (i := 2) (v := ?_) rfl (by kernel_rfl) (by kernel_rfl) (by kernel_rfl) (fun _ _ _ h => h) (Or.inl ⟨by rfl, ?_⟩) (by assumption) ?_
            rotate_left
            · (intro wS hSw; (try dsimp only at hSw); go_simp; try (with_reducible rfl))
            try simp only [Act.put, List.setIfInBounds_toArray, List.set_cons_zero, List.set_cons_succ]
            refine RegH.takeH (i := 3) (v := ?_) rfl (by kernel_rfl) (by kernel_rfl) (by kernel_rfl) (fun _ _ _ h => h) (Or.inl ⟨by rfl, ?_⟩) (by assumption) ?_
            rotate_left
            · (intro wS hSw; (try dsimp only at hSw); go_simp; try (with_reducible rfl))
            try simp only [Act.put, List.setIfInBounds_toArray, List.set_cons_zero, List.set_cons_succ]
            refine RegH.takeH (i := 4) (v := ?_) rfl (by kernel_rfl) (by kernel_rfl) (by kernel_rfl) (fun _ _ _ h => h) (Or.inl ⟨by rfl, ?_⟩) (by assumption) ?_
            rotate_left
            · (intro wS hSw; (try dsimp only at hSw); go_simp; try (with_reducible rfl))
            try simp only [Act.put, List.setIfInBounds_toArray, List.set_cons_zero, List.set_cons_succ]
            refine RegH.takeH (i := 5) (v := ?_) rfl (by kernel_rfl) (by kernel_rfl) (by kernel_rfl) (fun _ _ _ h => h) (Or.inl ⟨by rfl, ?_⟩) (by assumption) ?_
            rotate_left
            · (intro wS hSw; (try dsimp only at hSw); go_simp; try (with_reducible rfl))
            try simp only [Act.put, List.setIfInBounds_toArray, List.set_cons_zero, List.set_cons_succ]
            refine RegH.takeH (i := 6) (v := ?_) rfl (by kernel_rfl) (by kernel_rfl) (by kernel_rfl) (fun _ _ _ h => h) (Or.inl ⟨by rfl, ?_⟩) (by assumption) ?_
            rotate_left
            · (intro wS hSw; (try dsimp only at hSw); go_simp; try (with_reducible rfl))
            try simp only [Act.put, List.setIfInBounds_toArray, List.set_cons_zero, List.set_cons_succ]
            refine RegH.takeH (i := 7) (v := ?_) rfl (by kernel_rfl) (by kernel_rfl) (by kernel_rfl) (fun _ _ _ h => h) (Or.inl ⟨by rfl, ?_⟩) (by assumption) ?_
            rotate_left
            · (intro wS hSw; (try dsimp only at hSw); go_simp; try (with_reducible rfl))
            try simp only [Act.put, List.setIfInBounds_toArray, List.set_cons_zero, List.set_cons_succ]
            refine RegH.takeH (i := 8) (v := ?_) rfl (by kernel_rfl) (by kernel_rfl) (by kernel_rfl) (fun _ _ _ h => h) (Or.inl ⟨by rfl, ?_⟩) (by assumption) ?_
            rotate_left
            · (intro wS hSw; (try dsimp only at hSw); go_simp; try (with_reducible rfl))
            try simp only [Act.put, List.setIfInBounds_toArray, List.set_cons_zero, List.set_cons_succ]
            refine RegH.takeH (i := 9) (v := ?_) rfl (by kernel_rfl) (by kernel_rfl) (by kernel_rfl) (fun _ _ _ h => h) (Or.inl ⟨by rfl, ?_⟩) (by assumption) ?_
            rotate_left
            · (intro wS hSw; (try dsimp only at hSw); go_simp; try (with_reducible rfl))
            try simp only [Act.put, List.setIfInBounds_toArray, List.set_cons_zero, List.set_cons_succ]
            refine RegH.takeH (i := 10) (v := ?_) rfl (by kernel_rfl) (by kernel_rfl) (by kernel_rfl) (fun _ _ _ h => h) (Or.inl ⟨by rfl, ?_⟩) (by assumption) ?_
            rotate_left
            · (intro wS hSw; (try dsimp only at hSw); go_simp; try (with_reducible rfl))
            try simp only [Act.put, List.setIfInBounds_toArray, List.set_cons_zero, List.set_cons_succ]
            refine RegH.takeH (i := 11) (v := ?_) rfl (by kernel_rfl) (by kernel_rfl) (by kernel_rfl) (fun _ _ _ h => h) (Or.inl ⟨by rfl, ?_⟩) (by assumption) ?_
            rotate_left
            · (intro wS hSw; (try dsimp only at hSw); go_simp; try (with_reducible rfl))
            try simp only [Act.put, List.setIfInBounds_toArray, List.set_cons_zero, List.set_cons_succ]
            refine RegH.takeH (i := 12) (v := ?_) rfl (by kernel_rfl) (by kernel_rfl) (by kernel_rfl) (fun _ _ _ h => h) (Or.inl ⟨by rfl, ?_⟩) (by assumption) ?_
            rotate_left
            · (intro wS hSw; (try dsimp only at hSw); go_simp; try (with_reducible rfl))
            try simp only [Act.put, List.setIfInBounds_toArray, List.set_cons_zero, List.set_cons_succ]
            refine RegH.takeH (i := 13) (v := ?_) rfl (by kernel_rfl) (by kernel_rfl) (by kernel_rfl) (fun _ _ _ h => h) (Or.inl ⟨by rfl, ?_⟩) (by assumption) ?_
            rotate_left
            · (intro wS hSw; (try dsimp only at hSw); go_simp; try (with_reducible rfl))
            try simp only [Act.put, List.setIfInBounds_toArray, List.set_cons_zero, List.set_cons_succ]
            refine RegH.consH (i := 14) rfl (by kernel_rfl) (fun K hK => ?_)
            go_simp
            go_at_call 78
            refine (cmp_names nj nk _ _ _ _ _).mono ?_
            rintro e wp ⟨rfl, os, hwp⟩
            have kp : LaterD w1 wp := below_then (show Below w1.heap.size w1 wq from kq) (by rw [hwp]; exact below_grow _ _)
            have n0 := (Below.cell kp (p := ⟨w.heap.size, 0, none⟩) HGL.out.1).trans HG.out.1
            have n1 := (Below.cell kp (p := ⟨wr.heap.size, 0, none⟩) HGL.out.2.1).trans HG.out.2.1
            have n2 := (Below.cell kp (p := ⟨wr.heap.size, 1, none⟩) HGL.out.2.1).trans HG.out.2.2.1
            have n3 := (Below.cell kp (p := ⟨wr.heap.size, 2, none⟩) HGL.out.2.1).trans HG.out.2.2.2
            have n4 := (Below.cell kp (p := ⟨b, off + j * 3, none⟩) HGL.out.2.2).trans HQ.out.1
            have n5 := (Below.cell kp (p := ⟨b, off + j * 3 + 1, none⟩) HGL.out.2.2).trans HQ.out.2.1
            have n6 := (Below.cell kp (p := ⟨b, off + j * 3 + 2, none⟩) HGL.out.2.2).trans HQ.out.2.2
            clear hwp
            rw [HCN.out]
            go_wp2_with fail
            refine hK.out _ _ ?_ (fun hHeld => ?_)
            · (refine ⟨?_, ?_, ?_, ?_, ?_, ?_, ?_, ?_⟩ <;> first | assumption | (simp [*]; done))
            clear hK K
            try simp only [Act.put, List.setIfInBounds_toArray, List.set_cons_zero, List.set_cons_succ]
            refine RegH.takeH (i := 15) (v := ?_) rfl (by kernel_rfl) (by kernel_rfl) (by kernel_rfl) (fun _ _ _ h => h) (Or.inl ⟨by rfl, ?_⟩) (by assumption) ?_
            rotate_left
            · (intro wS hSw; (try dsimp only at hSw); go_simp; try (with_reducible rfl))
            try simp only [Act.put, List.setIfInBounds_toArray, List.set_cons_zero, List.set_cons_succ]
            refine RegH.takeH (i := 16) (v := ?_) rfl (by kernel_rfl) (by kernel_rfl) (by kernel_rfl) (fun _ _ _ h => h) (Or.inl ⟨by rfl, ?_⟩) (by assumption) ?_
            rotate_left
            · (intro wS hSw; (try dsimp only at hSw); go_simp; try (with_reducible rfl))
            try simp only [Act.put, List.setIfInBounds_toArray, List.set_cons_zero, List.set_cons_succ]
            refine RegH.takeH (i := 17) (v := ?_) rfl (by kernel_rfl) (by kernel_rfl) (by kernel_rfl) (fun _ _ _ h => h) (Or.inl ⟨by rfl, ?_⟩) (by assumption) ?_
            rotate_left
            · (intro wS hSw; (try dsimp only at hSw); go_simp; try (with_reducible rfl))
            try simp only [Act.put, List.setIfInBounds_toArray, List.set_cons_zero, List.set_cons_succ]
            refine wpAnyH_done (by kernel_rfl) ?_ _
            go_wp2_with fail
            go_ret
            exact ⟨DbSpec.ret_b HZ.out.symm, below_then HBW.out (below_then (show Below wr.heap.size wr w1 from HBG.out) (show Below w1.heap.size w1 wp from kp))⟩
          · have HN2 := Lib.hid (asc_more HAS.out hlt (fun i e hi => by have e2 := HJ.out; obtain rfl : i = j := (by omega); rw [← HNJ.out, ← HNK.out]; exact hlt2))
            obtain ⟨c, hc, hc0⟩ : ∃ c, cmpN nj nk = c ∧ (0 ≤ c) = False := ⟨_, rfl, by simp only [eq_iff_iff, iff_false]; have := (cmpN_lt nj nk).2 hlt2; omega⟩
            have HCN := Lib.hid hc
            clear hc
            refine wp_region_held_drew (S := fun wx => wx.cell? ⟨w.heap.size, 0, none⟩ = some (.slice (some ⟨b, off, none⟩) l.length cap1) ∧ wx.cell? ⟨wr.heap.size, 0, none⟩ = some (.string nk) ∧ wx.cell? ⟨wr.heap.size, 1, none⟩ = some (.int .i64 rk) ∧ wx.cell? ⟨wr.heap.size, 2, none⟩ = some (.slice ak qk ck) ∧ wx.cell? ⟨b, off + j * 3, none⟩ = some (.string nj) ∧ wx.cell? ⟨b, off + j * 3 + 1, none⟩ = some (.int .i64 rj) ∧ wx.cell? ⟨b, off + j * 3 + 2, none⟩ = some (.slice aj qj cj) ∧ LaterD w1 wx) (by kernel_rfl) ?_ (fun hHeld => ?_)
            · (refine ⟨?_, ?_, ?_, ?_, ?_, ?_, ?_, ?_⟩ <;> first | assumption | (simp [*]; done))
            refine RegH.takeH (i := 0) (v := ?_) rfl (by kernel_rfl) (by kernel_rfl) (by kernel_rfl) (fun _ _ _ h => h) (Or.inl ⟨by rfl, ?_⟩) (by assumption) ?_
            rotate_left
            · (intro wS hSw; (try dsimp only at hSw); go_simp; try (with_reducible rfl))
            try simp only [Act.put, List.setIfInBounds_toArray, List.set_cons_zero, List.set_cons_succ]
            refine RegH.consH (i := 1) rfl (by kernel_rfl) (fun K hK => ?_)
            go_simp
            go_at_call 53
            refine (HE.out _ kw).mono ?_
            rintro e wq ⟨rfl, hbq⟩
            have kq : LaterD w1 wq := below_then (show Below w1.heap.size w1 w1.drew from kk) hbq
            have n0 := (Below.cell kq (p := ⟨w.heap.size, 0, none⟩) HGL.out.1).trans HG.out.1
            have n1 := (Below.cell kq (p := ⟨wr.heap.size, 0, none⟩) HGL.out.2.1).trans HG.out.2.1
            have n2 := (Below.cell kq (p := ⟨wr.heap.size, 1, none⟩) HGL.out.2.1).trans HG.out.2.2.1
            have n3 := (Below.cell kq (p := ⟨wr.heap.size, 2, none⟩) HGL.out.2.1).trans HG.out.2.2.2
            have n4 := (Below.cell kq (p := ⟨b, off + j * 3, none⟩) HGL.out.2.2).trans HQ.out.1
            have n5 := (Below.cell kq (p := ⟨b, off + j * 3 + 1, none⟩) HGL.out.2.2).trans HQ.out.2.1
            have n6 := (Below.cell kq (p := ⟨b, off + j * 3 + 2, none⟩) HGL.out.2.2).trans HQ.out.2.2
            clear hbq
            go_wp2_with fail
            refine hK.out _ _ ?_ (fun hHeld => ?_)
            · (refine ⟨?_, ?_, ?_, ?_, ?_, ?_, ?_, ?_⟩ <;> first | assumption | (simp [*]; done))
            clear hK K
            try simp only [Act.put, List.setIfInBounds_toArray, List.set_cons_zero, List.set_cons_succ]
            refine RegH.takeH (i := 2) (v := ?_) rfl (by kernel_rfl) (by kernel_rfl) (by kernel_rfl) (fun _ _ _ h => h) (Or.inl ⟨by rfl, ?_⟩) (by assumption) ?_
            rotate_left
            · (intro wS hSw; (try dsimp only at hSw); go_simp; try (with_reducible rfl))
            try simp only [Act.put, List.setIfInBounds_toArray, List.set_cons_zero, List.set_cons_succ]
            refine RegH.takeH (i := 3) (v := ?_) rfl (by kernel_rfl) (by kernel_rfl) (by kernel_rfl) (fun _ _ _ h => h) (Or.inl ⟨by rfl, ?_⟩) (by assumption) ?_
            rotate_left
            · (intro wS hSw; (try dsimp only at hSw); go_simp; try (with_reducible rfl))
            try simp only [Act.put, List.setIfInBounds_toArray, List.set_cons_zero, List.set_cons_succ]
            refine RegH.takeH (i := 4) (v := ?_) rfl (by kernel_rfl) (by kernel_rfl) (by kernel_rfl) (fun _ _ _ h => h) (Or.inl ⟨by rfl, ?_⟩) (by assumption) ?_
            rotate_left
            · (intro wS hSw; (try dsimp only at hSw); go_simp; try (with_reducible rfl))
            try simp only [Act.put, List.setIfInBounds_toArray, List.set_cons_zero, List.set_cons_succ]
            refine RegH.takeH (i := 5) (v := ?_) rfl (by kernel_rfl) (by kernel_rfl) (by kernel_rfl) (fun _ _ _ h => h) (Or.inl ⟨by rfl, ?_⟩) (by assumption) ?_
            rotate_left
            · (intro wS hSw; (try dsimp only at hSw); go_simp; try (with_reducible rfl))
            try simp only [Act.put, List.setIfInBounds_toArray, List.set_cons_zero, List.set_cons_succ]
            refine RegH.takeH (i := 6) (v := ?_) rfl (by kernel_rfl) (by kernel_rfl) (by kernel_rfl) (fun _ _ _ h => h) (Or.inl ⟨by rfl, ?_⟩) (by assumption) ?_
            rotate_left
            · (intro wS hSw; (try dsimp only at hSw); go_simp; try (with_reducible rfl))
            try simp only [Act.put, List.setIfInBounds_toArray, List.set_cons_zero, List.set_cons_succ]
            refine RegH.takeH (i := 7) (v := ?_) rfl (by kernel_rfl) (by kernel_rfl) (by kernel_rfl) (fun _ _ _ h => h) (Or.inl ⟨by rfl, ?_⟩) (by assumption) ?_
            rotate_left
            · (intro wS hSw; (try dsimp only at hSw); go_simp; try (with_reducible rfl))
            try simp only [Act.put, List.setIfInBounds_toArray, List.set_cons_zero, List.set_cons_succ]
            refine RegH.takeH (i := 8) (v := ?_) rfl (by kernel_rfl) (by kernel_rfl) (by kernel_rfl) (fun _ _ _ h => h) (Or.inl ⟨by rfl, ?_⟩) (by assumption) ?_
            rotate_left
            · (intro wS hSw; (try dsimp only at hSw); go_simp; try (with_reducible rfl))
            try simp only [Act.put, List.setIfInBounds_toArray, List.set_cons_zero, List.set_cons_succ]
            refine RegH.takeH (i := 9) (v := ?_) rfl (by kernel_rfl) (by kernel_rfl) (by kernel_rfl) (fun _ _ _ h => h) (Or.inl ⟨by rfl, ?_⟩) (by assumption) ?_
            rotate_left
            · (intro wS hSw; (try dsimp only at hSw); go_simp; try (with_reducible rfl))
            try simp only [Act.put, List.setIfInBounds_toArray, List.set_cons_zero, List.set_cons_succ]
            refine RegH.takeH (i := 10) (v := ?_) rfl (by kernel_rfl) (by kernel_rfl) (by kernel_rfl) (fun _ _ _ h => h) (Or.inl ⟨by rfl, ?_⟩) (by assumption) ?_
            rotate_left
            · (intro wS hSw; (try dsimp only at hSw); go_simp; try (with_reducible rfl))
            try simp only [Act.put, List.setIfInBounds_toArray, List.set_cons_zero, List.set_cons_succ]
            refine RegH.takeH (i := 11) (v := ?_) rfl (by kernel_rfl) (by kernel_rfl) (by kernel_rfl) (fun _ _ _ h => h) (Or.inl ⟨by rfl, ?_⟩) (by assumption) ?_
            rotate_left
            · (intro wS hSw; (try dsimp only at hSw); go_simp; try (with_reducible rfl))
            try simp only [Act.put, List.setIfInBounds_toArray, List.set_cons_zero, List.set_cons_succ]
            refine RegH.takeH (i := 12) (v := ?_) rfl (by kernel_rfl) (by kernel_rfl) (by kernel_rfl) (fun _ _ _ h => h) (Or.inl ⟨by rfl, ?_⟩) (by assumption) ?_
            rotate_left
            · (intro wS hSw; (try dsimp only at hSw); go_simp; try (with_reducible rfl))
            try simp only [Act.put, List.setIfInBounds_toArray, List.set_cons_zero, List.set_cons_succ]
            refine RegH.takeH (i := 13) (v := ?_) rfl (by kernel_rfl) (by kernel_rfl) (by kernel_rfl) (fun _ _ _ h => h) (Or.inl ⟨by rfl, ?_⟩) (by assumption) ?_
            rotate_left
            · (intro wS hSw; (try dsimp only at hSw); go_simp; try (with_reducible rfl))
            try simp only [Act.put, List.setIfInBounds_toArray, List.set_cons_zero, List.set_cons_succ]
            refine RegH.consH (i := 14) rfl (by kernel_rfl) (fun K hK => ?_)
            go_simp
            go_at_call 78
            refine (cmp_names nj nk _ _ _ _ _).mono ?_
            rintro e wp ⟨rfl, os, hwp⟩
            have kp : LaterD w1 wp := below_then (show Below w1.heap.size w1 wq from kq) (by rw [hwp]; exact below_grow _ _)
            have n0 := (Below.cell kp (p := ⟨w.heap.size, 0, none⟩) HGL.out.1).trans HG.out.1
            have n1 := (Below.cell kp (p := ⟨wr.heap.size, 0, none⟩) HGL.out.2.1).trans HG.out.2.1
            have n2 := (Below.cell kp (p := ⟨wr.heap.size, 1, none⟩) HGL.out.2.1).trans HG.out.2.2.1
            have n3 := (Below.cell kp (p := ⟨wr.heap.size, 2, none⟩) HGL.out.2.1).trans HG.out.2.2.2
            have n4 := (Below.cell kp (p := ⟨b, off + j * 3, none⟩) HGL.out.2.2).trans HQ.out.1
            have n5 := (Below.cell kp (p := ⟨b, off + j * 3 + 1, none⟩) HGL.out.2.2).trans HQ.out.2.1
            have n6 := (Below.cell kp (p := ⟨b, off + j * 3 + 2, none⟩) HGL.out.2.2).trans HQ.out.2.2
            clear hwp
            rw [HCN.out]
            go_wp2_with fail
            refine hK.out _ _ ?_ (fun hHeld => ?_)
            · (refine ⟨?_, ?_, ?_, ?_, ?_, ?_, ?_, ?_⟩ <;> first | assumption | (simp [*]; done))
            clear hK K
            try simp only [Act.put, List.setIfInBounds_toArray, List.set_cons_zero, List.set_cons_succ]
            refine RegH.takeH (i := 15) (v := ?_) rfl (by kernel_rfl) (by kernel_rfl) (by kernel_rfl) (fun _ _ _ h => h) (Or.inl ⟨by rfl, ?_⟩) (by assumption) ?_
            rotate_left
            · (intro wS hSw; (try dsimp only at hSw); go_simp; try (with_reducible rfl))
            try simp only [Act.put, List.setIfInBounds_toArray, List.set_cons_zero, List.set_cons_succ]
            refine RegH.takeH (i := 16) (v := ?_) rfl (by kernel_rfl) (by kernel_rfl) (by kernel_rfl) (fun _ _ _ h => h) (Or.inl ⟨by rfl, ?_⟩) (by assumption) ?_
            rotate_left
            · (intro wS hSw; (try dsimp only at hSw); go_simp; try (with_reducible rfl))
            try simp only [Act.put, List.setIfInBounds_toArray, List.set_cons_zero, List.set_cons_succ]
            refine RegH.takeH (i := 17) (v := ?_) rfl (by kernel_rfl) (by kernel_rfl) (by kernel_rfl) (fun _ _ _ h => h) (Or.inl ⟨by rfl, ?_⟩) (by assumption) ?_
            rotate_left
            · (intro wS hSw; (try dsimp only at hSw); go_simp; try (with_reducible rfl))
            try simp only [Act.put, List.setIfInBounds_toArray, List.set_cons_zero, List.set_cons_succ]
            refine wpAnyH_done (by kernel_rfl) ?_ _
            go_wp2_with fail
            go_roundw
            case rel => exact ⟨k + 1, by omega, by go_num, HN1.out, HN2.out, below_then HWR.out (below_then (show Below wr.heap.size wr w1 from HBG.out) (show Below w1.heap.size w1 wp from kp))⟩
            case measure => simp [intOf]; omega
    · have ek : k = l.length := by omega
      subst ek
      have HP := Lib.hid (show dbOk l = true from by
        have h1 := HOK.out
        have h2 := HAS.out
        rw [List.take_length] at h1 h2
        exact dbOk_iff.2 ⟨H6.out, h1, h2⟩)
      go_wp2_with fail
      go_ret
      exact ⟨DbSpec.ret_b HP.out.symm, HBW.out⟩
end Go.Proofs.YtdjgaffiildijabGreat.DbImp

namespace Go.Proofs.YtdjgaffiildijabGreat.DbImp
open Go Go.RowKit Byt Ints IntsLaw Cd Rows2 Tab SlMath TabOpen TabElem SlTable Db TabSpec DbMath TabImp
open DbSpec (LaterD drewD row1 rows_cell cntRows_succ cntRows_take cntRows_le name_cell sameT_iff take_ne take_eq)

/-- The cells of an element. -/
theorem elem_form {w : World} {S : Nat → Prop} {us : List Value} {T : T3} (h : tabC.rd w S us T) : ∃ a c, us = [.string T.1, .int .i64 T.2.1, .slice a T.2.2.length c] := by
  obtain ⟨u, rfl, _, _, h3⟩ := tab_cells h
  obtain ⟨a, c, rfl, _⟩ := rows_form h3
  exact ⟨a, c, rfl⟩

theorem eqt_elem_i (us vs : List Value) (T U : T3) (S S2 : Nat → Prop) (w : World) (hu : tabC.rd w S us T) (hv : tabC.rd w S2 vs U) :
    Calls Tryz.prog 32 #[.agg us.toArray, .agg vs.toArray] w fun e w' => e = .returned (.bool (decide (T = U))) ∧ Below w.heap.size w w' := by
  obtain ⟨u, rfl, _, _, h3⟩ := tab_cells hu
  obtain ⟨u2, rfl, _, _, h4⟩ := tab_cells hv
  have h := impl_equal T.1 U.1 T.2.1 U.2.1 u u2 T.2.2 U.2.2 S S2 w h3 h4
  rw [sameT_iff] at h
  exact h
set_option maxRecDepth 100000 in
set_option maxHeartbeats 1600000 in
theorem equal_func (u1 u2 : Value) (l1 l2 : List T3) (S1 S2 : Nat → Prop) (w : World) (h1 : tabsC.rd w S1 [u1] l1) (h2 : tabsC.rd w S2 [u2] l2) :
    Calls Tryz.prog 31 #[u1, u2, .func (.func 32) #[] #[]] w fun e w' => e = .returned (.bool (decide (l1 = l2))) ∧ Below w.heap.size w w' := by
  have HR1 := Lib.hid (fun w' (hb : Below w.heap.size w w') => Cd.later h1 hb)
  have HR2 := Lib.hid (fun w' (hb : Below w.heap.size w w') => Cd.later h2 hb)
  obtain ⟨a1, cap1, rfl, hl1⟩ := Cd.sl_form h1
  obtain ⟨a2, cap2, rfl, hl2⟩ := Cd.sl_form h2
  clear h1 h2
  by_cases hlen : l1.length = l2.length
  case neg =>
    have HZ := Lib.hid (show decide (l1 = l2) = false from decide_eq_false fun q => hlen (by rw [q]))
    have ht : ((l1.length : Int) != (l2.length : Int)) = true := by rw [bne_iff_ne]; omega
    go_enter Tryz.func31, Tryz.ntmps31
    go_wp2_with fail
    go_ret
    exact ⟨DbSpec.ret_b HZ.out.symm, Below.refl _ _⟩
  have HLEN := Lib.hid hlen
  rw [hlen]
  clear hlen
  go_enter Tryz.func31, Tryz.ntmps31
  go_wp2_with fail
  go_loopw [17] (fun i wr => ∃ k : Nat, k ≤ l2.length ∧ i = .int .i64 k ∧ l1.take k = l2.take k ∧ Below w.heap.size w wr) (fun i _ => l2.length - (intOf i).toNat)
  case atStart => exact ⟨0, Nat.zero_le _, rfl, by simp, Below.refl _ _⟩
  case round =>
    obtain ⟨k, hk, rfl, htk, hb⟩ := hrel
    have HTK := Lib.hid htk
    have HBW := Lib.hid hb
    clear htk
    by_cases hlt : k < l2.length
    · have hlt1 : k < l1.length := by rw [HLEN.out]; exact hlt
      obtain ⟨b, off, cap', us, e1, _, hbB, hat, hu⟩ := Cd.sl_at (HR1.out wr HBW.out) hlt1
      rw [HLEN.out] at e1
      injection e1 with e1 e2 e3
      subst e1 e3
      obtain ⟨az, cz, rfl⟩ := elem_form hu
      have p0 := hat 0 (by simp)
      have p1 := hat 1 (by simp)
      have p2 := hat 2 (by simp)
      obtain ⟨b', off', cap', us, e1, _, hbB', hat', hu'⟩ := Cd.sl_at (HR2.out wr HBW.out) hlt
      injection e1 with e1 e2 e3
      subst e1 e3
      obtain ⟨ay, cy, rfl⟩ := elem_form hu'
      have q0 := hat' 0 (by simp)
      have q1 := hat' 1 (by simp)
      have q2 := hat' 2 (by simp)
      simp only [List.getElem_cons_zero, List.getElem_cons_succ, Nat.add_zero, show tabC.n = 3 from rfl] at p0 p1 p2 q0 q1 q2
      have HE := Lib.hid (fun w' (hq : LaterD wr w') => eqt_elem_i _ _ l1[k] l2[k] _ _ w' (Cd.later hu hq) (Cd.later hu' hq))
      have HF1 := Lib.hid (fun e : l1[k] = l2[k] => take_eq hlt1 hlt HTK.out e)
      have HF0 := Lib.hid (fun e : l1[k] ≠ l2[k] => take_ne hlt1 hlt e)
      have i1 : (0 : Int) ≤ (k : Int) := by omega
      have i2 : (k : Int) < (l2.length : Int) := by omega
      have kk : LaterD wr ((wr.alloc (.cells #[.string (l1[k]).1, .int .i64 (l1[k]).2.1, .slice az (l1[k]).2.2.length cz] 51 (0, 0))).alloc (.cells #[.string (l2[k]).1, .int .i64 (l2[k]).2.1, .slice ay (l2[k]).2.2.length cy] 51 (0, 0))) := below_then (below_alloc _ _) (below_alloc _ _)
      clear hu hu' hat hat' hb e2
      generalize l1[k] = T at *
      generalize l2[k] = U at *
      go_wp2_with fail
      refine (HE.out _ kk).mono ?_
      rintro e w2 ⟨rfl, hb2⟩
      have HB2 := Lib.hid (below_then HBW.out (below_then (show Below wr.heap.size wr _ from kk) hb2))
      clear hb2 kk
      by_cases hT : T = U
      · have HT := Lib.hid (HF1.out hT)
        rw [show decide (T = U) = true from decide_eq_true hT]
        clear hT
        go_wp2_with fail
        go_roundw
        case rel => exact ⟨k + 1, by omega, by go_num, HT.out, HB2.out⟩
        case measure => simp [intOf]; omega
      · have HZ := Lib.hid (show decide (l1 = l2) = false from decide_eq_false (HF0.out hT))
        rw [show decide (T = U) = false from decide_eq_false hT]
        clear hT
        go_wp2_with fail
        go_ret
        exact ⟨DbSpec.ret_b HZ.out.symm, HB2.out⟩
    · have ek : k = l2.length := by omega
      subst ek
      have HZ := Lib.hid (show decide (l1 = l2) = true from decide_eq_true (by
        have h := HTK.out
        rw [List.take_length, List.take_of_length_le (by rw [HLEN.out]; exact Nat.le_refl _)] at h
        exact h))
      go_wp2_with fail
      go_ret
      exact ⟨DbSpec.ret_b HZ.out.symm, HBW.out⟩
set_option maxRecDepth 100000 in
theorem impl_eqdb (u1 u2 : Value) (l1 l2 : List T3) (S1 S2 : Nat → Prop) (w : World) (h1 : tabsC.rd w S1 [u1] l1) (h2 : tabsC.rd w S2 [u2] l2) :
    Calls Tryz.prog 10 #[.agg #[u1], .agg #[u2]] w fun e w' => e = .returned (.bool (decide (l1 = l2))) ∧ Below w.heap.size w w' := by
  have HE := Lib.hid (fun w' (hb : Below w.heap.size w w') => equal_func u1 u2 l1 l2 S1 S2 w' (Cd.later h1 hb) (Cd.later h2 hb))
  obtain ⟨a1, cap1, rfl, hl1⟩ := Cd.sl_form h1
  obtain ⟨a2, cap2, rfl, hl2⟩ := Cd.sl_form h2
  clear h1 h2
  go_enter Tryz.func10, Tryz.ntmps10
  go_wp2_with fail
  refine (HE.out _ (below_then (below_alloc _ _) (below_alloc _ _))).mono ?_
  rintro e w2 ⟨rfl, hb2⟩
  have HB2 := Lib.hid (below_then (below_then (below_alloc w _) (below_alloc _ _)) hb2)
  clear hb2
  go_wp2_with fail
  go_ret
  exact ⟨rfl, HB2.out⟩
end Go.Proofs.YtdjgaffiildijabGreat.DbImp

namespace Go.Proofs.YtdjgaffiildijabGreat.DbMap
open Go Go.RowKit Byt Ints IntsLaw Cd Rows2 Tab SlMath TabOpen TabElem SlTable Db TabSpec DbMath DbImp DbExact
open Go.Maps (Keyed string_keyed IsMap Tidy)
open DbSpec (LaterD drewD row1 rows_cell name_cell)

/-- A table's value in a map: it stands for itself. -/
def tabR : Value → Option (DataW Value × List MemPlace)
  | .agg ⟨[.string a, .int .i64 b, .slice c d e]⟩ => some (.held (.agg #[.string a, .int .i64 b, .slice c d e]), [])
  | _ => none
structure TabV where
  nm : ByteArray
  ar : Int
  a : Option Addr
  n : Nat
  c : Nat
def TabV.us (t : TabV) : List Value := [.string t.nm, .int .i64 t.ar, .slice t.a t.n t.c]
def TabV.val (t : TabV) : Value := .agg #[.string t.nm, .int .i64 t.ar, .slice t.a t.n t.c]
theorem tabR_mk (t : TabV) : tabR t.val = some (.held t.val, []) := rfl
theorem tabR_inv {v : Value} {y : DataW Value × List MemPlace} (h : tabR v = some y) : ∃ t : TabV, v = t.val ∧ y = (.held v, []) := by
  unfold tabR at h
  split at h
  · injection h with h
    exact ⟨⟨_, _, _, _, _⟩, rfl, h.symm⟩
  · cases h
def keyL (s : ByteArray) : Lit := .string s.data.toList
theorem keyL_ne {s t : ByteArray} (h : s ≠ t) : keyL s ≠ keyL t := fun q => h (by
  unfold keyL at q
  injection q with q
  cases s
  cases t
  simp only [Array.toList_inj] at q
  rw [q])
theorem keyL_lit (s : ByteArray) : WideAt.IsKeyLit (keyL s) := trivial

/-- A map that has just the entries of f, n of them. -/
structure MapIs (D : DataW Value) (f : ByteArray → Option TabV) (n : Nat) : Prop where
  tidy : Tidy D
  has : ∀ s, Maps.has D (keyL s) = (f s).isSome
  at_ : ∀ s t z, f s = some t → D.atKey (keyL s) z = .held t.val
  size : Maps.size D = n
def setF (f : ByteArray → Option TabV) (s : ByteArray) (t : TabV) : ByteArray → Option TabV := fun x => if x = s then some t else f x
def delF (f : ByteArray → Option TabV) (s : ByteArray) : ByteArray → Option TabV := fun x => if x = s then none else f x
theorem MapIs.start : MapIs (.map []) (fun _ => none) 0 := ⟨Maps.tidy_empty, fun _ => rfl, (fun _ _ _ h => by cases h), rfl⟩
theorem MapIs.put {D : DataW Value} {f : ByteArray → Option TabV} {n : Nat} (h : MapIs D f n) (s : ByteArray) (t : TabV) : MapIs (D.put (keyL s) (.held t.val)) (setF f s t) (if (f s).isSome then n else n + 1) := by
  refine ⟨h.tidy.put (keyL_lit s) _, fun x => ?_, fun x y z hy => ?_, ?_⟩
  · by_cases e : x = s
    · subst e
      rw [Maps.has_put_same h.tidy.isMap (keyL_lit x), setF, if_pos rfl]
      rfl
    · rw [Maps.has_put_other (keyL_ne e), h.has, setF, if_neg e]
  · by_cases e : x = s
    · subst e
      rw [setF, if_pos rfl] at hy
      injection hy with hy
      rw [Maps.atKey_put_same h.tidy.isMap (keyL_lit x), hy]
    · rw [setF, if_neg e] at hy
      rw [Maps.atKey_put_other (keyL_ne e)]
      exact h.at_ x y z hy
  · rw [Maps.size_put h.tidy, h.has, h.size]
theorem MapIs.del {D : DataW Value} {f : ByteArray → Option TabV} {n : Nat} (h : MapIs D f n) (s : ByteArray) : MapIs (D.del (keyL s)) (delF f s) (if (f s).isSome then n - 1 else n) := by
  refine ⟨h.tidy.del _, fun x => ?_, fun x y z hy => ?_, ?_⟩
  · by_cases e : x = s
    · subst e
      rw [Maps.has_del_same, delF, if_pos rfl]
      rfl
    · rw [Maps.has_del_other (keyL_ne e), h.has, delF, if_neg e]
  · by_cases e : x = s
    · rw [delF, if_pos e] at hy; cases hy
    · rw [delF, if_neg e] at hy
      rw [Maps.atKey_del_other (keyL_ne e)]
      exact h.at_ x y z hy
  · have := Maps.size_del h.tidy (k := keyL s)
    rw [h.has, h.size] at this
    split at this <;> rename_i q <;> simp only [q] <;> simp <;> omega
theorem MapIs.eq {D : DataW Value} {f g : ByteArray → Option TabV} {n m : Nat} (h : MapIs D f n) (e : f = g) (e2 : n = m) : MapIs D g m := e ▸ e2 ▸ h

/-- The tables of a list, each with its cells. -/
def HeldT (w : World) (S : Nat → Prop) (a : Option Addr) (l : List T3) (ts : List TabV) : Prop :=
  ts.length = l.length ∧ ∀ k (h : k < l.length) (h' : k < ts.length), ts[k].nm = l[k].1 ∧ (∃ b off, a = some ⟨b, off, none⟩ ∧ b < w.heap.size ∧ Cd.At w b (off + k * 3) ts[k].us) ∧ tabC.rd w S ts[k].us l[k]
theorem HeldT.later {w w' : World} {S : Nat → Prop} {a : Option Addr} {l : List T3} {ts : List TabV} (h : HeldT w S a l ts) (hb : Below w.heap.size w w') : HeldT w' S a l ts := by
  refine ⟨h.1, fun k hk hk' => ?_⟩
  obtain ⟨h0, ⟨b, off, e, hl, hat⟩, hr⟩ := h.2 k hk hk'
  exact ⟨h0, ⟨b, off, e, Nat.lt_of_lt_of_le hl hb.size, fun j hj => (hb.cell (p := ⟨b, off + k * 3 + j, none⟩) hl).trans (hat j hj)⟩, Cd.later hr hb⟩
theorem mk_list {α : Type} {P : Nat → α → Prop} : ∀ (n : Nat), (∀ k, k < n → ∃ x, P k x) → ∃ xs : List α, xs.length = n ∧ ∀ k (h : k < xs.length), P k xs[k]
  | 0, _ => ⟨[], rfl, fun k h => by simp at h⟩
  | n + 1, h => by
    obtain ⟨xs, hl, hp⟩ := mk_list n (fun k hk => h k (by omega))
    obtain ⟨x, hx⟩ := h n (by omega)
    refine ⟨xs ++ [x], by simp [hl], fun k hk => ?_⟩
    by_cases e : k < xs.length
    · rw [List.getElem_append_left e]; exact hp k e
    · have hk' : k < xs.length + 1 := by simpa using hk
      obtain rfl : k = n := by omega
      rw [List.getElem_append_right (by omega)]
      simpa [hl] using hx
theorem held_of {w : World} {S : Nat → Prop} {a : Option Addr} {l : List T3} {n cap : Nat} (h : tabsC.rd w S [.slice a n cap] l) : ∃ ts, HeldT w S a l ts := by
  obtain ⟨ts, hl, hp⟩ := mk_list (P := fun k (t : TabV) => ∀ (h : k < l.length), t.nm = l[k].1 ∧ (∃ b off, a = some ⟨b, off, none⟩ ∧ b < w.heap.size ∧ Cd.At w b (off + k * 3) t.us) ∧ tabC.rd w S t.us l[k]) l.length (fun k hk => by
    obtain ⟨b, off, cap', us, e, _, hb, hat, hu⟩ := Cd.sl_at h hk
    obtain ⟨a2, c2, rfl⟩ := elem_form hu
    injection e with e _ _
    exact ⟨⟨(l[k]).1, (l[k]).2.1, a2, (l[k]).2.2.length, c2⟩, fun _ => ⟨rfl, ⟨b, off, e, hb, hat⟩, hu⟩⟩)
  exact ⟨ts, hl, fun k hk hk' => hp k hk' hk⟩
/-- The entry of a name. -/
def entF (ts : List TabV) : ByteArray → Option TabV := fun s => ts.find? (fun t => decide (t.nm = s))
theorem entF_nil : entF [] = fun _ => none := rfl
theorem entF_more {ts : List TabV} {t : TabV} (h : ∀ u ∈ ts, u.nm ≠ t.nm) : entF (ts ++ [t]) = setF (entF ts) t.nm t := by
  funext s
  unfold entF setF
  rw [List.find?_append]
  by_cases e : s = t.nm
  · subst e
    rw [if_pos rfl, List.find?_eq_none.2 (fun u hu => by simpa using h u hu)]
    simp
  · rw [if_neg e]
    have : List.find? (fun u => decide (u.nm = s)) [t] = none := by simp; exact fun q => e q.symm
    rw [this]
    simp
theorem entF_none {ts : List TabV} {t : TabV} (h : ∀ u ∈ ts, u.nm ≠ t.nm) : (entF ts t.nm).isSome = false := by
  unfold entF
  rw [List.find?_eq_none.2 (fun u hu => by simpa using h u hu)]
  rfl
theorem entF_find {w : World} {S : Nat → Prop} {a : Option Addr} {l : List T3} {ts : List TabV} (h : HeldT w S a l ts) (s : ByteArray) :
    (findN l s = none ∧ entF ts s = none) ∨ ∃ T t, findN l s = some T ∧ entF ts s = some t ∧ tabC.rd w S t.us T := by
  obtain ⟨hl, h⟩ := h
  unfold findN entF
  induction ts generalizing l a with
  | nil =>
    obtain rfl : l = [] := List.length_eq_zero_iff.1 hl.symm
    exact .inl ⟨rfl, rfl⟩
  | cons t ts ih =>
    cases l with
    | nil => simp at hl
    | cons T l =>
      have h0 := h 0 (by simp) (by simp)
      simp only [List.getElem_cons_zero] at h0
      by_cases e : t.nm = s
      · refine .inr ⟨T, t, ?_, ?_, h0.2.2⟩
        · rw [List.find?_cons_of_pos (by simpa [h0.1] using e)]
        · rw [List.find?_cons_of_pos (by simpa using e)]
      · rw [List.find?_cons_of_neg (by simpa [h0.1] using e), List.find?_cons_of_neg (by simpa using e)]
        refine ih (a := a.map fun p => ⟨p.block, p.off + 3, none⟩) (by simpa using hl) fun k hk hk' => ?_
        obtain ⟨g0, ⟨b, off, rfl, g1, g2⟩, g3⟩ := h (k + 1) (by simpa using hk) (by simpa using hk')
        simp only [List.getElem_cons_succ] at g0 g2 g3
        exact ⟨g0, ⟨b, off + 3, rfl, g1, fun j hj => by have := g2 j hj; rw [show off + 3 + k * 3 = off + (k + 1) * 3 by omega]; exact this⟩, g3⟩
end Go.Proofs.YtdjgaffiildijabGreat.DbMap
