/- Databases: the model's SetTable. -/
import Derived.Test.YtdjgaffiildijabDbAcc
import Derived.Deep.QuietTactic
import Derived.BigQuiet
namespace Go.Proofs.Ytdjgaffiildijab.DbAcc
open Go Go.RowKit Byt Ints IntsLaw Cd Rows2 Tab SlMath TabOpen TabElem SlTable Db TabSpec DbMath DbSpec DbExact

/-- Has a table been met that does not lie ahead of T? -/
def putB (T : T3) (l : List T3) : Bool := !(l.all fun U => ltB U.1 T.1)
def curP (T : T3) (l : List T3) : List T3 := if putB T l then putL T l else l
theorem putB_no {T : T3} {l : List T3} : putB T l = false ↔ ∀ U ∈ l, ltB U.1 T.1 = true := by unfold putB; simp
theorem putB_yes {T : T3} {l : List T3} : putB T l = true ↔ ∃ U ∈ l, ltB U.1 T.1 = false := by unfold putB; simp
theorem putB_more {T U : T3} {l : List T3} : putB T (l ++ [U]) = (putB T l || !ltB U.1 T.1) := by unfold putB; simp [Bool.not_and]
/-- None yet, and the next does not lie ahead. -/
theorem curP_first {T U : T3} {l : List T3} (h : putB T l = false) (hu : ltB U.1 T.1 = false) : putB T (l ++ [U]) = true ∧ curP T (l ++ [U]) = if U.1 = T.1 then l ++ [T] else l ++ [T] ++ [U] := by
  have h1 : putB T (l ++ [U]) = true := by rw [putB_more, h, hu]; rfl
  refine ⟨h1, ?_⟩
  unfold curP
  rw [if_pos h1, putL_all (putB_no.1 h)]
  show l ++ (if ltB U.1 T.1 = true then U :: putL T [] else if U.1 = T.1 then [T] else [T, U]) = _
  rw [hu, if_neg (by simp)]
  split
  · rfl
  · simp
theorem curP_next {T U : T3} {l : List T3} (h : putB T l = false) (hu : ltB U.1 T.1 = true) : putB T (l ++ [U]) = false ∧ curP T (l ++ [U]) = l ++ [U] := by
  have h1 : putB T (l ++ [U]) = false := by rw [putB_more, h, hu]; rfl
  exact ⟨h1, by unfold curP; rw [h1]; rfl⟩
theorem curP_past {T U : T3} {l : List T3} (h : putB T l = true) : putB T (l ++ [U]) = true ∧ curP T (l ++ [U]) = curP T l ++ [U] := by
  have h1 : putB T (l ++ [U]) = true := by rw [putB_more, h]; rfl
  refine ⟨h1, ?_⟩
  unfold curP
  rw [if_pos h1, if_pos h]
  exact putL_past (putB_yes.1 h) _
theorem curP_no {T : T3} {l : List T3} (h : putB T l = false) : curP T l = l := by unfold curP; rw [h]; rfl
/-- In an ascending list whatever follows one that does not lie ahead of T has another name. -/
theorem past_ne {T : T3} {l : List T3} {k : Nat} (ha : AscP l) (hk : k < l.length) (h : putB T (l.take k) = true) : (l[k]).1 ≠ T.1 := by
  obtain ⟨U, hU, hu⟩ := putB_yes.1 h
  obtain ⟨i, hi, rfl⟩ := List.getElem_of_mem hU
  rw [List.length_take] at hi
  rw [List.getElem_take] at hu
  have hlt := List.pairwise_iff_getElem.1 ha i k (by omega) hk (by omega)
  intro e
  unfold ltT at hlt
  rw [e, hu] at hlt
  cases hlt
theorem curP_all {T : T3} {l : List T3} (h : putB T l = true) : curP T l = putL T l := by unfold curP; rw [if_pos h]
theorem putL_none {T : T3} {l : List T3} (h : putB T l = false) : putL T l = l ++ [T] := by
  have := putL_all (putB_no.1 h) []
  rw [List.append_nil] at this
  exact this
theorem below_drewN (w : World) (n : Nat) : Below w.heap.size w (w.drewN n) := ⟨rfl, rfl, rfl, Nat.le_refl _, fun _ _ => rfl⟩
theorem len_curP (T : T3) (l : List T3) (ha : AscP l) : (curP T l).length ≤ l.length + 1 := by
  unfold curP
  split
  · rw [len_putL ha]; split <;> omega
  · omega

set_option maxRecDepth 100000 in
set_option maxHeartbeats 3200000 in
theorem spec_set (u : Value) (l : List T3) (T : T3) (at_ : Option Addr) (cc : Nat) (S S2 : Nat → Prop) (w : World) (h1 : tabsC.rd w S [u] l) (h2 : tabC.rd w S2 [.string T.1, .int .i64 T.2.1, .slice at_ T.2.2.length cc] T) (hw : wtS l ≤ 1048577) (hwt : wtT T ≤ 1048577) :
    Calls Try.prog 44 #[.agg #[u], .agg #[.string T.1, .int .i64 T.2.1, .slice at_ T.2.2.length cc]] w fun e w' => DbAns (setL l T) (setOk l T) w e w' := by
  have HR1 := Lib.hid (fun w' (hb : Below w.heap.size w w') => Cd.later h1 hb)
  have HV := Lib.hid (fun w' (hb : Below w.heap.size w w') => spec_dbok u l S w' (Cd.later h1 hb))
  have HVT := Lib.hid (fun w' (hb : Below w.heap.size w w') => val_elem _ T S2 w' (Cd.later h2 hb))
  have HCT := Lib.hid (fun w' (hb : Below w.heap.size w w') => copy_elem _ T S2 w' (Cd.later h2 hb) (by omega))
  have HDC := Lib.hid (fun w' (hb : Below w.heap.size w w') => spec_dbcopy u l S w' (Cd.later h1 hb) (by omega))
  obtain ⟨a1, cap1, rfl, hl1⟩ := Cd.sl_form h1
  have HWT := Lib.hid hw
  clear h1 h2 hw hwt
  go_enter Try.func44, Try.ntmps44
  go_wp2_with fail
  generalize hW : ((w.alloc _).alloc _).alloc _ = W
  obtain ⟨r0, r1, r2, hz, hb0⟩ := start3 w _ _ _ hW
  have HC0 := Lib.hid (Loc1.of r0)
  have HC1 := Lib.hid (Loc3.of r1)
  have HC2 := Lib.hid (Loc1.of r2)
  have HZZ := Lib.hid hz
  have HB0 := Lib.hid hb0
  clear hW r0 r1 r2 hz hb0
  refine (HV.out _ HB0.out).mono ?_
  rintro e w1 ⟨rfl, hb1⟩
  have HB1 := Lib.hid (below_then HB0.out hb1)
  have HC0a := Lib.hid (HC0.out.later hb1)
  have HC1a := Lib.hid (HC1.out.later hb1)
  have HC2a := Lib.hid (HC2.out.later hb1)
  have HS1 := Lib.hid (show w.heap.size + 3 ≤ w1.heap.size by have := hb1.size; have := HZZ.out; omega)
  have q0 := HC0a.out.c0
  have q1 := HC1a.out.c0
  have q2 := HC1a.out.c1
  have q3 := HC1a.out.c2
  clear hb1
  cases hv : dbOk l
  · have HNO := Lib.hid (show setOk l T = false by unfold setOk; rw [hv]; rfl)
    go_wp2_with fail
    refine (HDC.out _ HB1.out).mono ?_
    rintro e w9 ⟨u9, f9, rfl, ho9, hn9, hb9⟩
    obtain ⟨a9, c9, rfl⟩ := Cd.ow_slice (c := tabC) ho9
    have HC9 := Lib.hid (HC2a.out.later hb9)
    have y0 := HC9.out.c0
    have y1 := HC9.out.f0
    have HA := Lib.hid (DbAns.copy (b := setOk l T) (l' := setL l T) (Y := w.heap.size + 2) ho9 hn9 HB1.out hb9 (by omega) (World.block_lt_of_cell? _ _ HC2a.out.c0) (by unfold setL; rw [HNO.out]; rfl) HNO.out)
    clear ho9 hn9 hb9
    go_wp2_with fail
    have k0 : (w9.setCell ⟨w.heap.size + 2, 0, none⟩ (.slice a9 l.length c9)).cell? ⟨w.heap.size + 2, 0, none⟩ = some (.slice a9 l.length c9) := World.cell?_setCell_same _ _ _ y0
    refine bodyPost_ret (v := .tuple #[.agg #[.slice a9 l.length c9], .bool false]) (by simp [results, Try.results44, go_sem, k0]) rfl ?_
    exact HA.out
  have HP := Lib.hid (dbOk_iff.1 hv)
  have HVV := Lib.hid hv
  clear hv
  go_wp2_with fail
  refine (HVT.out _ HB1.out).mono ?_
  rintro e w2 ⟨rfl, hb2⟩
  have HB2 := Lib.hid (below_then HB1.out hb2)
  have HC0b := Lib.hid (HC0a.out.later hb2)
  have HC1b := Lib.hid (HC1a.out.later hb2)
  have HC2b := Lib.hid (HC2a.out.later hb2)
  have HS2 := Lib.hid (show w.heap.size + 3 ≤ w2.heap.size by have := hb2.size; have := HS1.out; omega)
  clear hb2 q0 q1 q2 q3
  have q0 := HC0b.out.c0
  cases hT : okT T
  · have HNO := Lib.hid (show setOk l T = false by unfold setOk; rw [hT]; simp)
    go_wp2_with fail
    refine (HDC.out _ HB2.out).mono ?_
    rintro e w9 ⟨u9, f9, rfl, ho9, hn9, hb9⟩
    obtain ⟨a9, c9, rfl⟩ := Cd.ow_slice (c := tabC) ho9
    have HC9 := Lib.hid (HC2b.out.later hb9)
    have y0 := HC9.out.c0
    have y1 := HC9.out.f0
    have HA := Lib.hid (DbAns.copy (b := setOk l T) (l' := setL l T) (Y := w.heap.size + 2) ho9 hn9 HB2.out hb9 (by omega) (World.block_lt_of_cell? _ _ HC2b.out.c0) (by unfold setL; rw [HNO.out]; rfl) HNO.out)
    clear ho9 hn9 hb9
    go_wp2_with fail
    have k0 : (w9.setCell ⟨w.heap.size + 2, 0, none⟩ (.slice a9 l.length c9)).cell? ⟨w.heap.size + 2, 0, none⟩ = some (.slice a9 l.length c9) := World.cell?_setCell_same _ _ _ y0
    refine bodyPost_ret (v := .tuple #[.agg #[.slice a9 l.length c9], .bool false]) (by simp [results, Try.results44, go_sem, k0]) rfl ?_
    exact HA.out
  have HTV := Lib.hid hT
  clear hT
  go_wp2_with fail
  generalize hg : World.alloc w2 _ = WF
  obtain ⟨r0, hz, hb0⟩ := start1 w2 _ hg
  have HACC0 := Lib.hid (AccS.start r0)
  have HBF := Lib.hid (below_then HB2.out hb0)
  have HD0 := Lib.hid (HC0b.out.later hb0)
  have HD1 := Lib.hid (HC1b.out.later hb0)
  have HD2 := Lib.hid (HC2b.out.later hb0)
  clear hg r0 hz hb0 q0
  go_loopw [7, 8] (fun pt i wr => ∃ (k : Nat) (a : Option Addr) (c : Nat) (fp : List Nat), k ≤ l.length ∧ pt = .bool (putB T (l.take k)) ∧ i = .int .i64 k ∧ AccS WF wr w2.heap.size (curP T (l.take k)) a c fp) (fun _ i _ => l.length - (intOf i).toNat)
  case atStart => exact ⟨0, none, 0, [], Nat.zero_le _, rfl, rfl, HACC0.out⟩
  case round =>
    obtain ⟨k, a, c, fp, hk, rfl, rfl, hacc⟩ := hrel
    have HACC := Lib.hid hacc
    have hX : w.heap.size + 2 < w2.heap.size := by have := HS2.out; omega
    have x0 := (HACC.out.loc1 HD0.out (by omega)).c0
    have x1 := (HACC.out.loc1 HD0.out (by omega)).lt
    have z0 := (HACC.out.loc3 HD1.out (by omega)).c0
    have z1 := (HACC.out.loc3 HD1.out (by omega)).c1
    have z2 := (HACC.out.loc3 HD1.out (by omega)).c2
    have z3 := (HACC.out.loc3 HD1.out (by omega)).lt
    have HBW := Lib.hid (HACC.out.below HBF.out (by omega))
    clear hacc
    by_cases hlt : k < l.length
    · obtain ⟨b, off, cap', us, e1, _, hbB, hat, hu⟩ := Cd.sl_at (HR1.out w (Below.refl _ _)) hlt
      injection e1 with e1 e2 e3
      subst e1 e3
      obtain ⟨x, y, z, rfl⟩ := len_list (tabC.len hu)
      have p0 := hat 0 (by simp)
      have p1 := hat 1 (by simp)
      have p2 := hat 2 (by simp)
      simp only [List.getElem_cons_zero, List.getElem_cons_succ, Nat.add_zero, show tabC.n = 3 from rfl] at p0 p1 p2
      have ht3 : wtT l[k] ≤ 1073741824 := by have := sumN_mem wtT hlt; have := HWT.out; unfold wtS at this; omega
      have HCU := Lib.hid (fun w' (hq : Below w.heap.size w w') => copy_elem [x, y, z] l[k] _ w' (Cd.later hu hq) ht3)
      have hx := name_cell hu
      have HAC : AscP (l.take k) := List.Pairwise.sublist (List.take_sublist _ _) HP.out.2.2
      have HLL := Lib.hid (show (curP T (l.take k)).length + 2 ≤ 1000000000 by have h1 := len_curP T (l.take k) HAC; rw [List.length_take] at h1; have h2 := HP.out.1; omega)
      have HTK := Lib.hid (show l.take (k + 1) = l.take k ++ [l[k]] from List.take_succ_eq_append_getElem hlt)
      have HPN := Lib.hid (fun h => past_ne (T := T) HP.out.2.2 hlt h)
      have HCELL := Lib.hid (And.intro p0 (And.intro p1 (And.intro p2 hbB)))
      replace p0 := (HBW.out.cell (p := ⟨b, off + k * 3, none⟩) hbB).trans p0
      replace p1 := (HBW.out.cell (p := ⟨b, off + k * 3 + 1, none⟩) hbB).trans p1
      replace p2 := (HBW.out.cell (p := ⟨b, off + k * 3 + 2, none⟩) hbB).trans p2
      have i1 : (0 : Int) ≤ (k : Int) := by omega
      have i2 : (k : Int) < (l.length : Int) := by omega
      have i3 : l.length ≤ 6 := HP.out.1
      clear hu hat e2 ht3 HAC
      generalize l[k] = U at *
      subst hx
      generalize l.take k = pre at *
      obtain ⟨cur, hcur⟩ : ∃ cur, curP T pre = cur := ⟨_, rfl⟩
      rw [hcur] at HACC HLL
      have HCUR := Lib.hid hcur
      clear hcur
      cases hput : putB T pre
      · have HPU := Lib.hid hput
        replace HCUR := Lib.hid (show pre = cur from (curP_no hput).symm.trans HCUR.out)
        clear hput
        cases hcm : Op.bytesLess U.1.toList T.1.toList
        · have HF := Lib.hid (curP_first (U := U) HPU.out hcm)
          go_wp2_with fail
          go_quiet (fail)
          have hdq := below_drewN wr nq
          replace HACC := Lib.hid (HACC.out.later hdq)
          clear x0 x1 z0 z1 z2 z3 p0 p1 p2 hbB
          clear hdq
          generalize World.drewN wr nq = wr1 at *
          have hbX := HACC.out.below HBF.out (by omega)
          have x0 := (HACC.out.loc1 HD0.out (by omega)).c0
          have x1 := (HACC.out.loc1 HD0.out (by omega)).lt
          have z0 := (HACC.out.loc3 HD1.out (by omega)).c0
          have z1 := (HACC.out.loc3 HD1.out (by omega)).c1
          have z2 := (HACC.out.loc3 HD1.out (by omega)).c2
          have z3 := (HACC.out.loc3 HD1.out (by omega)).lt
          have p0 := (hbX.cell (p := ⟨b, off + k * 3, none⟩) HCELL.out.2.2.2).trans HCELL.out.1
          have p1 := (hbX.cell (p := ⟨b, off + k * 3 + 1, none⟩) HCELL.out.2.2.2).trans HCELL.out.2.1
          have p2 := (hbX.cell (p := ⟨b, off + k * 3 + 2, none⟩) HCELL.out.2.2.2).trans HCELL.out.2.2.1
          have hbB := Nat.lt_of_lt_of_le HCELL.out.2.2.2 hbX.size
          have HBX := Lib.hid hbX
          clear hbX
          clear hcm
          go_wp2_with fail
          refine (HCT.out _ HBX.out).mono ?_
          rintro e w2t ⟨a2t, c2t, f2t, rfl, ho2, hn2, hb2⟩
          have h2 := HACC.out.later hb2
          have d2 := h2.cell
          have dl := World.block_lt_of_cell? _ _ d2
          have hl := HACC.out.laid hb2 ho2 hn2 74
          have H3 := Lib.hid hl.1
          have HLD := Lib.hid hl.2
          clear ho2 hn2 hb2 h2 hl HACC
          go_wp2_with (at_builtin; refine Cd.wpList_appendN (c := tabC) rfl (.tmp 46) (.tmp 48) 31 rfl WF.heap.size 74 (.agg #[.string ⟨#[]⟩, .int .i64 0, .slice none 0 0]) 3 48 rfl Try.underlying31 info_x rfl (by decide) _ cur fp rfl H3.out.ow H3.out.nd (w2t.heap.size + 1) _ rfl HLD.out.at_ T f2t HLD.out.ow HLD.out.nd HLD.out.far (by have := HLL.out; omega) H3.out.sz ?_)
          intro gt cap4t w4t fp4t ho4 hn4 _ ht4
          have HACC := Lib.hid (H3.out.app (cur' := cur ++ [T]) (n := cur.length + 1) (by simp) ht4 ho4 hn4)
          obtain ⟨e2, g2⟩ := H3.out.fcell ht4
          clear ho4 hn4 ht4 H3 HLD d2 dl
          clear x0 x1 z0 z1 z2 z3 p0 p1 p2 hbB
          clear HBX
          go_upto_region 12 with fail
          generalize World.setCell w4t _ _ = wA at *
          obtain ⟨cur1, hcur⟩ : ∃ q, cur ++ [T] = q := ⟨_, rfl⟩
          rw [hcur] at HACC
          have HCcur1 := Lib.hid hcur
          clear hcur e2 g2
          have hbX := HACC.out.below HBF.out (by omega)
          have x0 := (HACC.out.loc1 HD0.out (by omega)).c0
          have x1 := (HACC.out.loc1 HD0.out (by omega)).lt
          have z0 := (HACC.out.loc3 HD1.out (by omega)).c0
          have z1 := (HACC.out.loc3 HD1.out (by omega)).c1
          have z2 := (HACC.out.loc3 HD1.out (by omega)).c2
          have z3 := (HACC.out.loc3 HD1.out (by omega)).lt
          have p0 := (hbX.cell (p := ⟨b, off + k * 3, none⟩) HCELL.out.2.2.2).trans HCELL.out.1
          have p1 := (hbX.cell (p := ⟨b, off + k * 3 + 1, none⟩) HCELL.out.2.2.2).trans HCELL.out.2.1
          have p2 := (hbX.cell (p := ⟨b, off + k * 3 + 2, none⟩) HCELL.out.2.2.2).trans HCELL.out.2.2.1
          have hbB := Nat.lt_of_lt_of_le HCELL.out.2.2.2 hbX.size
          have HBX := Lib.hid hbX
          clear hbX
          by_cases he : U.1 = T.1
          · have he2 : (U.1.toList == T.1.toList) = true := by rw [eqB]; exact decide_eq_true he
            have HE := Lib.hid he
            clear he
            go_quiet (fail)
            have hdq := below_drewN wA nq
            replace HACC := Lib.hid (HACC.out.later hdq)
            clear x0 x1 z0 z1 z2 z3 p0 p1 p2 hbB
            clear hdq
            generalize World.drewN wA nq = wB at *
            have hbX := HACC.out.below HBF.out (by omega)
            have x0 := (HACC.out.loc1 HD0.out (by omega)).c0
            have x1 := (HACC.out.loc1 HD0.out (by omega)).lt
            have z0 := (HACC.out.loc3 HD1.out (by omega)).c0
            have z1 := (HACC.out.loc3 HD1.out (by omega)).c1
            have z2 := (HACC.out.loc3 HD1.out (by omega)).c2
            have z3 := (HACC.out.loc3 HD1.out (by omega)).lt
            have p0 := (hbX.cell (p := ⟨b, off + k * 3, none⟩) HCELL.out.2.2.2).trans HCELL.out.1
            have p1 := (hbX.cell (p := ⟨b, off + k * 3 + 1, none⟩) HCELL.out.2.2.2).trans HCELL.out.2.1
            have p2 := (hbX.cell (p := ⟨b, off + k * 3 + 2, none⟩) HCELL.out.2.2.2).trans HCELL.out.2.2.1
            have hbB := Nat.lt_of_lt_of_le HCELL.out.2.2.2 hbX.size
            have HBX := Lib.hid hbX
            clear hbX
            clear he2
            go_wp2_with fail
            go_roundw
            case rel => exact ⟨k + 1, some ⟨gt, 0, none⟩, cap4t, fp4t, by omega, by rw [HTK.out, HF.out.1], by go_num, HACC.out.shift (by rw [HTK.out]; exact (by rw [HF.out.2, if_pos HE.out, HCUR.out, HCcur1.out]))⟩
            case measure => simp [intOf]; omega
          · have he2 : (U.1.toList == T.1.toList) = false := by rw [eqB]; exact decide_eq_false he
            have HE := Lib.hid he
            have HLL1 := Lib.hid (show cur1.length + 1 ≤ 1000000000 by rw [← HCcur1.out, List.length_append]; have := HLL.out; simp; omega)
            clear he
            go_quiet (fail)
            have hdq := below_drewN wA nq
            replace HACC := Lib.hid (HACC.out.later hdq)
            clear x0 x1 z0 z1 z2 z3 p0 p1 p2 hbB
            clear hdq
            generalize World.drewN wA nq = wB at *
            have hbX := HACC.out.below HBF.out (by omega)
            have x0 := (HACC.out.loc1 HD0.out (by omega)).c0
            have x1 := (HACC.out.loc1 HD0.out (by omega)).lt
            have z0 := (HACC.out.loc3 HD1.out (by omega)).c0
            have z1 := (HACC.out.loc3 HD1.out (by omega)).c1
            have z2 := (HACC.out.loc3 HD1.out (by omega)).c2
            have z3 := (HACC.out.loc3 HD1.out (by omega)).lt
            have p0 := (hbX.cell (p := ⟨b, off + k * 3, none⟩) HCELL.out.2.2.2).trans HCELL.out.1
            have p1 := (hbX.cell (p := ⟨b, off + k * 3 + 1, none⟩) HCELL.out.2.2.2).trans HCELL.out.2.1
            have p2 := (hbX.cell (p := ⟨b, off + k * 3 + 2, none⟩) HCELL.out.2.2.2).trans HCELL.out.2.2.1
            have hbB := Nat.lt_of_lt_of_le HCELL.out.2.2.2 hbX.size
            have HBX := Lib.hid hbX
            clear hbX
            clear he2
            go_wp2_with fail
            refine (HCU.out _ HBX.out).mono ?_
            rintro e w2u ⟨a2u, c2u, f2u, rfl, ho2, hn2, hb2⟩
            have h2 := HACC.out.later hb2
            have d2 := h2.cell
            have dl := World.block_lt_of_cell? _ _ d2
            have hl := HACC.out.laid hb2 ho2 hn2 74
            have H3 := Lib.hid hl.1
            have HLD := Lib.hid hl.2
            clear ho2 hn2 hb2 h2 hl HACC
            go_wp2_with (at_builtin; refine Cd.wpList_appendN (c := tabC) rfl (.tmp 67) (.tmp 69) 31 rfl WF.heap.size 74 (.agg #[.string ⟨#[]⟩, .int .i64 0, .slice none 0 0]) 3 48 rfl Try.underlying31 info_x rfl (by decide) _ cur1 fp4t rfl H3.out.ow H3.out.nd (w2u.heap.size + 1) _ rfl HLD.out.at_ U f2u HLD.out.ow HLD.out.nd HLD.out.far HLL1.out H3.out.sz ?_)
            intro gu cap4u w4u fp4u ho4 hn4 _ ht4
            have HACC := Lib.hid (H3.out.app (cur' := cur1 ++ [U]) (n := cur1.length + 1) (by simp) ht4 ho4 hn4)
            obtain ⟨e2, g2⟩ := H3.out.fcell ht4
            clear ho4 hn4 ht4 H3 HLD d2 dl
            clear x0 x1 z0 z1 z2 z3 p0 p1 p2 hbB
            clear HBX
            go_wp2_with fail
            go_roundw
            case rel => exact ⟨k + 1, some ⟨gu, 0, none⟩, cap4u, fp4u, by omega, by rw [HTK.out, HF.out.1], by go_num, HACC.out.shift (by rw [HTK.out]; exact (by rw [HF.out.2, if_neg HE.out, HCUR.out, HCcur1.out]))⟩
            case measure => simp [intOf]; omega
        · have HF := Lib.hid (curP_next (U := U) HPU.out hcm)
          have he2 : (U.1.toList == T.1.toList) = false := by rw [eqB]; exact decide_eq_false (ltB_ne hcm)
          go_wp2_with fail
          go_quiet (fail)
          have hdq := below_drewN wr nq
          replace HACC := Lib.hid (HACC.out.later hdq)
          clear x0 x1 z0 z1 z2 z3 p0 p1 p2 hbB
          clear hdq
          generalize World.drewN wr nq = wr1 at *
          have hbX := HACC.out.below HBF.out (by omega)
          have x0 := (HACC.out.loc1 HD0.out (by omega)).c0
          have x1 := (HACC.out.loc1 HD0.out (by omega)).lt
          have z0 := (HACC.out.loc3 HD1.out (by omega)).c0
          have z1 := (HACC.out.loc3 HD1.out (by omega)).c1
          have z2 := (HACC.out.loc3 HD1.out (by omega)).c2
          have z3 := (HACC.out.loc3 HD1.out (by omega)).lt
          have p0 := (hbX.cell (p := ⟨b, off + k * 3, none⟩) HCELL.out.2.2.2).trans HCELL.out.1
          have p1 := (hbX.cell (p := ⟨b, off + k * 3 + 1, none⟩) HCELL.out.2.2.2).trans HCELL.out.2.1
          have p2 := (hbX.cell (p := ⟨b, off + k * 3 + 2, none⟩) HCELL.out.2.2.2).trans HCELL.out.2.2.1
          have hbB := Nat.lt_of_lt_of_le HCELL.out.2.2.2 hbX.size
          have HBX := Lib.hid hbX
          clear hbX
          clear hcm
          go_wp2_with fail
          go_quiet (fail)
          have hdq := below_drewN wr1 nq
          replace HACC := Lib.hid (HACC.out.later hdq)
          clear x0 x1 z0 z1 z2 z3 p0 p1 p2 hbB
          clear hdq
          generalize World.drewN wr1 nq = wB at *
          have hbX := HACC.out.below HBF.out (by omega)
          have x0 := (HACC.out.loc1 HD0.out (by omega)).c0
          have x1 := (HACC.out.loc1 HD0.out (by omega)).lt
          have z0 := (HACC.out.loc3 HD1.out (by omega)).c0
          have z1 := (HACC.out.loc3 HD1.out (by omega)).c1
          have z2 := (HACC.out.loc3 HD1.out (by omega)).c2
          have z3 := (HACC.out.loc3 HD1.out (by omega)).lt
          have p0 := (hbX.cell (p := ⟨b, off + k * 3, none⟩) HCELL.out.2.2.2).trans HCELL.out.1
          have p1 := (hbX.cell (p := ⟨b, off + k * 3 + 1, none⟩) HCELL.out.2.2.2).trans HCELL.out.2.1
          have p2 := (hbX.cell (p := ⟨b, off + k * 3 + 2, none⟩) HCELL.out.2.2.2).trans HCELL.out.2.2.1
          have hbB := Nat.lt_of_lt_of_le HCELL.out.2.2.2 hbX.size
          have HBX := Lib.hid hbX
          clear hbX
          clear he2
          go_wp2_with fail
          refine (HCU.out _ HBX.out).mono ?_
          rintro e w2u ⟨a2u, c2u, f2u, rfl, ho2, hn2, hb2⟩
          have h2 := HACC.out.later hb2
          have d2 := h2.cell
          have dl := World.block_lt_of_cell? _ _ d2
          have hl := HACC.out.laid hb2 ho2 hn2 74
          have H3 := Lib.hid hl.1
          have HLD := Lib.hid hl.2
          clear ho2 hn2 hb2 h2 hl HACC
          go_wp2_with (at_builtin; refine Cd.wpList_appendN (c := tabC) rfl (.tmp 67) (.tmp 69) 31 rfl WF.heap.size 74 (.agg #[.string ⟨#[]⟩, .int .i64 0, .slice none 0 0]) 3 48 rfl Try.underlying31 info_x rfl (by decide) _ cur fp rfl H3.out.ow H3.out.nd (w2u.heap.size + 1) _ rfl HLD.out.at_ U f2u HLD.out.ow HLD.out.nd HLD.out.far (by have := HLL.out; omega) H3.out.sz ?_)
          intro gu cap4u w4u fp4u ho4 hn4 _ ht4
          have HACC := Lib.hid (H3.out.app (cur' := cur ++ [U]) (n := cur.length + 1) (by simp) ht4 ho4 hn4)
          obtain ⟨e2, g2⟩ := H3.out.fcell ht4
          clear ho4 hn4 ht4 H3 HLD d2 dl
          clear x0 x1 z0 z1 z2 z3 p0 p1 p2 hbB
          clear HBX
          go_wp2_with fail
          go_roundw
          case rel => exact ⟨k + 1, some ⟨gu, 0, none⟩, cap4u, fp4u, by omega, by rw [HTK.out, HF.out.1], by go_num, HACC.out.shift (by rw [HTK.out]; exact (by rw [HF.out.2, HCUR.out]))⟩
          case measure => simp [intOf]; omega
      · have HF := Lib.hid (curP_past (U := U) hput)
        have he2 : (U.1.toList == T.1.toList) = false := by rw [eqB]; exact decide_eq_false (HPN.out hput)
        clear hput
        go_wp2_with fail
        go_quiet (fail)
        have hdq := below_drewN wr nq
        replace HACC := Lib.hid (HACC.out.later hdq)
        clear x0 x1 z0 z1 z2 z3 p0 p1 p2 hbB
        clear hdq
        generalize World.drewN wr nq = wr1 at *
        have hbX := HACC.out.below HBF.out (by omega)
        have x0 := (HACC.out.loc1 HD0.out (by omega)).c0
        have x1 := (HACC.out.loc1 HD0.out (by omega)).lt
        have z0 := (HACC.out.loc3 HD1.out (by omega)).c0
        have z1 := (HACC.out.loc3 HD1.out (by omega)).c1
        have z2 := (HACC.out.loc3 HD1.out (by omega)).c2
        have z3 := (HACC.out.loc3 HD1.out (by omega)).lt
        have p0 := (hbX.cell (p := ⟨b, off + k * 3, none⟩) HCELL.out.2.2.2).trans HCELL.out.1
        have p1 := (hbX.cell (p := ⟨b, off + k * 3 + 1, none⟩) HCELL.out.2.2.2).trans HCELL.out.2.1
        have p2 := (hbX.cell (p := ⟨b, off + k * 3 + 2, none⟩) HCELL.out.2.2.2).trans HCELL.out.2.2.1
        have hbB := Nat.lt_of_lt_of_le HCELL.out.2.2.2 hbX.size
        have HBX := Lib.hid hbX
        clear hbX
        go_wp2_with fail
        go_quiet (fail)
        have hdq := below_drewN wr1 nq
        replace HACC := Lib.hid (HACC.out.later hdq)
        clear x0 x1 z0 z1 z2 z3 p0 p1 p2 hbB
        clear hdq
        generalize World.drewN wr1 nq = wB at *
        have hbX := HACC.out.below HBF.out (by omega)
        have x0 := (HACC.out.loc1 HD0.out (by omega)).c0
        have x1 := (HACC.out.loc1 HD0.out (by omega)).lt
        have z0 := (HACC.out.loc3 HD1.out (by omega)).c0
        have z1 := (HACC.out.loc3 HD1.out (by omega)).c1
        have z2 := (HACC.out.loc3 HD1.out (by omega)).c2
        have z3 := (HACC.out.loc3 HD1.out (by omega)).lt
        have p0 := (hbX.cell (p := ⟨b, off + k * 3, none⟩) HCELL.out.2.2.2).trans HCELL.out.1
        have p1 := (hbX.cell (p := ⟨b, off + k * 3 + 1, none⟩) HCELL.out.2.2.2).trans HCELL.out.2.1
        have p2 := (hbX.cell (p := ⟨b, off + k * 3 + 2, none⟩) HCELL.out.2.2.2).trans HCELL.out.2.2.1
        have hbB := Nat.lt_of_lt_of_le HCELL.out.2.2.2 hbX.size
        have HBX := Lib.hid hbX
        clear hbX
        clear he2
        go_wp2_with fail
        refine (HCU.out _ HBX.out).mono ?_
        rintro e w2u ⟨a2u, c2u, f2u, rfl, ho2, hn2, hb2⟩
        have h2 := HACC.out.later hb2
        have d2 := h2.cell
        have dl := World.block_lt_of_cell? _ _ d2
        have hl := HACC.out.laid hb2 ho2 hn2 74
        have H3 := Lib.hid hl.1
        have HLD := Lib.hid hl.2
        clear ho2 hn2 hb2 h2 hl HACC
        go_wp2_with (at_builtin; refine Cd.wpList_appendN (c := tabC) rfl (.tmp 67) (.tmp 69) 31 rfl WF.heap.size 74 (.agg #[.string ⟨#[]⟩, .int .i64 0, .slice none 0 0]) 3 48 rfl Try.underlying31 info_x rfl (by decide) _ cur fp rfl H3.out.ow H3.out.nd (w2u.heap.size + 1) _ rfl HLD.out.at_ U f2u HLD.out.ow HLD.out.nd HLD.out.far (by have := HLL.out; omega) H3.out.sz ?_)
        intro gu cap4u w4u fp4u ho4 hn4 _ ht4
        have HACC := Lib.hid (H3.out.app (cur' := cur ++ [U]) (n := cur.length + 1) (by simp) ht4 ho4 hn4)
        obtain ⟨e2, g2⟩ := H3.out.fcell ht4
        clear ho4 hn4 ht4 H3 HLD d2 dl
        clear x0 x1 z0 z1 z2 z3 p0 p1 p2 hbB
        clear HBX
        go_wp2_with fail
        go_roundw
        case rel => exact ⟨k + 1, some ⟨gu, 0, none⟩, cap4u, fp4u, by omega, by rw [HTK.out, HF.out.1], by go_num, HACC.out.shift (by rw [HTK.out]; exact (by rw [HF.out.2, HCUR.out]))⟩
        case measure => simp [intOf]; omega
    · have ek : k = l.length := by omega
      subst ek
      rw [List.take_length] at HACC
      have i3 : l.length ≤ 6 := HP.out.1
      obtain ⟨cur, hcur⟩ : ∃ cur, curP T l = cur := ⟨_, rfl⟩
      rw [hcur] at HACC
      rw [List.take_length]
      cases hput : putB T l
      · have HCUR := Lib.hid (show l = cur from (curP_no hput).symm.trans hcur)
        have HPN := Lib.hid (putL_none hput)
        have HLL := Lib.hid (show cur.length + 1 ≤ 1000000000 by rw [← HCUR.out]; omega)
        have HBX := Lib.hid HBW.out
        clear hput hcur
        go_wp2_with fail
        refine (HCT.out _ HBX.out).mono ?_
        rintro e w2t ⟨a2t, c2t, f2t, rfl, ho2, hn2, hb2⟩
        have h2 := HACC.out.later hb2
        have d2 := h2.cell
        have dl := World.block_lt_of_cell? _ _ d2
        have hl := HACC.out.laid hb2 ho2 hn2 74
        have H3 := Lib.hid hl.1
        have HLD := Lib.hid hl.2
        clear ho2 hn2 hb2 h2 hl HACC
        go_wp2_with (at_builtin; refine Cd.wpList_appendN (c := tabC) rfl (.tmp 77) (.tmp 79) 31 rfl WF.heap.size 74 (.agg #[.string ⟨#[]⟩, .int .i64 0, .slice none 0 0]) 3 48 rfl Try.underlying31 info_x rfl (by decide) _ cur fp rfl H3.out.ow H3.out.nd (w2t.heap.size + 1) _ rfl HLD.out.at_ T f2t HLD.out.ow HLD.out.nd HLD.out.far HLL.out H3.out.sz ?_)
        intro gt cap4t w4t fp4t ho4 hn4 _ ht4
        have HACC := Lib.hid (H3.out.app (cur' := cur ++ [T]) (n := cur.length + 1) (by simp) ht4 ho4 hn4)
        obtain ⟨e2, g2⟩ := H3.out.fcell ht4
        clear ho4 hn4 ht4 H3 HLD d2 dl
        clear x0 x1 z0 z1 z2 z3 HBX
        go_upto_region 18 with fail
        generalize World.setCell w4t _ _ = wA at *
        obtain ⟨cur1, hcur⟩ : ∃ q, cur ++ [T] = q := ⟨_, rfl⟩
        rw [hcur] at HACC
        have HCcur1 := Lib.hid hcur
        clear hcur e2 g2
        have HCL := Lib.hid (show cur1 = putL T l by rw [HPN.out, ← HCcur1.out, ← HCUR.out])
        have hbX := HACC.out.below HBF.out (by omega)
        have HBX := Lib.hid hbX
        have x0 := (HACC.out.loc1 HD0.out (by omega)).c0
        have x6 := HACC.out.cell
        have HVX := Lib.hid (spec_dbok _ cur1 _ _ (tabsC.ow_rd HACC.out.ow))
        clear hbX
        go_wp2_with fail
        refine HVX.out.mono ?_
        rintro e wv ⟨rfl, hbv⟩
        replace HACC := Lib.hid (HACC.out.later hbv)
        have HBV := Lib.hid (below_then HBX.out hbv)
        clear hbv x0 x6
        have x0 := (HACC.out.loc1 HD0.out (by omega)).c0
        have x6 := HACC.out.cell
        have hy := HACC.out.loc1 HD2.out (by omega)
        have y0 := hy.c0
        have y1 := hy.f0
        have HY := Lib.hid hy
        clear hy
        cases hvx : dbOk cur1
        · have HNO := Lib.hid (show setOk l T = false by unfold setOk; rw [HVV.out, HTV.out]; have := dbOk_putL HVV.out HTV.out; rw [← HCL.out, hvx] at this; rw [← HCL.out, ← this]; rfl)
          clear y0 y1 hvx
          go_wp2_with fail
          refine (HDC.out _ HBV.out).mono ?_
          rintro e w9 ⟨u9, f9, rfl, ho9, hn9, hb9⟩
          obtain ⟨a9, c9, rfl⟩ := Cd.ow_slice (c := tabC) ho9
          have HC9 := Lib.hid (HY.out.later hb9)
          have y0 := HC9.out.c0
          have y1 := HC9.out.f0
          have HA := Lib.hid (DbAns.copy (b := setOk l T) (l' := setL l T) (Y := w.heap.size + 2) ho9 hn9 HBV.out hb9 (by omega) (World.block_lt_of_cell? _ _ HY.out.c0) (by unfold setL; rw [HNO.out]; rfl) HNO.out)
          clear ho9 hn9 hb9
          go_wp2_with fail
          have k0 : (w9.setCell ⟨w.heap.size + 2, 0, none⟩ (.slice a9 l.length c9)).cell? ⟨w.heap.size + 2, 0, none⟩ = some (.slice a9 l.length c9) := World.cell?_setCell_same _ _ _ y0
          refine bodyPost_ret (v := .tuple #[.agg #[.slice a9 l.length c9], .bool false]) (by simp [results, Try.results44, go_sem, k0]) rfl ?_
          exact HA.out
        · have HYES := Lib.hid (show setOk l T = true by unfold setOk; rw [HVV.out, HTV.out]; have := dbOk_putL HVV.out HTV.out; rw [← HCL.out, hvx] at this; rw [← HCL.out, ← this]; rfl)
          clear hvx
          go_wp2_with fail
          have k0 : (wv.setCell ⟨w.heap.size + 2, 0, none⟩ (.slice (some ⟨gt, 0, none⟩) cur1.length cap4t)).cell? ⟨w.heap.size + 2, 0, none⟩ = some (.slice (some ⟨gt, 0, none⟩) cur1.length cap4t) := World.cell?_setCell_same _ _ _ HY.out.c0
          refine bodyPost_ret (v := .tuple #[.agg #[.slice (some ⟨gt, 0, none⟩) cur1.length cap4t], .bool true]) (by simp [results, Try.results44, go_sem, k0]) rfl ?_
          exact HACC.out.ans (Y := w.heap.size + 2) HBF.out (by omega) (by omega) HD2.out.lt (by unfold setL; rw [HYES.out, HCL.out]; rfl) HYES.out
      · have HCL := Lib.hid (show cur = putL T l from hcur.symm.trans (curP_all hput))
        clear hput hcur
        go_upto_region 18 with fail
        clear x0 x1 z0 z1 z2 z3
        have hbX := HACC.out.below HBF.out (by omega)
        have HBX := Lib.hid hbX
        have x0 := (HACC.out.loc1 HD0.out (by omega)).c0
        have x6 := HACC.out.cell
        have HVX := Lib.hid (spec_dbok _ cur _ _ (tabsC.ow_rd HACC.out.ow))
        clear hbX
        go_wp2_with fail
        refine HVX.out.mono ?_
        rintro e wv ⟨rfl, hbv⟩
        replace HACC := Lib.hid (HACC.out.later hbv)
        have HBV := Lib.hid (below_then HBX.out hbv)
        clear hbv x0 x6
        have x0 := (HACC.out.loc1 HD0.out (by omega)).c0
        have x6 := HACC.out.cell
        have hy := HACC.out.loc1 HD2.out (by omega)
        have y0 := hy.c0
        have y1 := hy.f0
        have HY := Lib.hid hy
        clear hy
        cases hvx : dbOk cur
        · have HNO := Lib.hid (show setOk l T = false by unfold setOk; rw [HVV.out, HTV.out]; have := dbOk_putL HVV.out HTV.out; rw [← HCL.out, hvx] at this; rw [← HCL.out, ← this]; rfl)
          clear y0 y1 hvx
          go_wp2_with fail
          refine (HDC.out _ HBV.out).mono ?_
          rintro e w9 ⟨u9, f9, rfl, ho9, hn9, hb9⟩
          obtain ⟨a9, c9, rfl⟩ := Cd.ow_slice (c := tabC) ho9
          have HC9 := Lib.hid (HY.out.later hb9)
          have y0 := HC9.out.c0
          have y1 := HC9.out.f0
          have HA := Lib.hid (DbAns.copy (b := setOk l T) (l' := setL l T) (Y := w.heap.size + 2) ho9 hn9 HBV.out hb9 (by omega) (World.block_lt_of_cell? _ _ HY.out.c0) (by unfold setL; rw [HNO.out]; rfl) HNO.out)
          clear ho9 hn9 hb9
          go_wp2_with fail
          have k0 : (w9.setCell ⟨w.heap.size + 2, 0, none⟩ (.slice a9 l.length c9)).cell? ⟨w.heap.size + 2, 0, none⟩ = some (.slice a9 l.length c9) := World.cell?_setCell_same _ _ _ y0
          refine bodyPost_ret (v := .tuple #[.agg #[.slice a9 l.length c9], .bool false]) (by simp [results, Try.results44, go_sem, k0]) rfl ?_
          exact HA.out
        · have HYES := Lib.hid (show setOk l T = true by unfold setOk; rw [HVV.out, HTV.out]; have := dbOk_putL HVV.out HTV.out; rw [← HCL.out, hvx] at this; rw [← HCL.out, ← this]; rfl)
          clear hvx
          go_wp2_with fail
          have k0 : (wv.setCell ⟨w.heap.size + 2, 0, none⟩ (.slice a cur.length c)).cell? ⟨w.heap.size + 2, 0, none⟩ = some (.slice a cur.length c) := World.cell?_setCell_same _ _ _ HY.out.c0
          refine bodyPost_ret (v := .tuple #[.agg #[.slice a cur.length c], .bool true]) (by simp [results, Try.results44, go_sem, k0]) rfl ?_
          exact HACC.out.ans (Y := w.heap.size + 2) HBF.out (by omega) (by omega) HD2.out.lt (by unfold setL; rw [HYES.out, HCL.out]; rfl) HYES.out
end Go.Proofs.Ytdjgaffiildijab.DbAcc
