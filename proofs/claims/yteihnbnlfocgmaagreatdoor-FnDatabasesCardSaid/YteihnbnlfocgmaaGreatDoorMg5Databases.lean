/- Texts that the proof rests on, one behind the other. -/
import Derived.Test.YteihnbnlfocgmaaGreatDoorMg2Databases
import Derived.Test.YteihnbnlfocgmaaGreatDoorMg3Databases
import Derived.Test.YteihnbnlfocgmaaGreatDoorMg4Databases
import Derived.Test.YteihnbnlfocgmaaGreatDoorTabImp2
import Derived.Test.YteihnbnlfocgmaaGreatDoorRegH
import Derived.Deep.DeepCutAuto
import Derived.Deep.RegionHeld3

namespace Go.Proofs.YteihnbnlfocgmaaGreatDoor.DbWalk
open Go Go.RowKit Byt Ints IntsLaw Draw Cd Rows2 Tab SlMath TabOpen TabElem SlTable Db TabSpec DbMath DbSpec DbExact TabFmt TabParse ParMath ParImp DbFmt DbParse DbImp DbFact DbDraw Exact

theorem tabrd {w : World} {S : Nat → Prop} {nm : ByteArray} {ar : Int} {u : Value} {rows : List (List Int)} (h : rowsC.rd w S [u] rows) (hT : OkD (nm, ar, rows)) : tabC.rd w S [.string nm, .int .i64 ar, u] (nm, ar, rows) :=
  ⟨[.string nm], [.int .i64 ar, u], rfl, ⟨rfl, by have h : nm.size ≤ 2 := hT.1; show nm.size ≤ maxLen; unfold maxLen; omega⟩, ⟨[.int .i64 ar], [u], rfl, ⟨rfl, by have h : -1 ≤ ar ∧ ar ≤ 4 := hT.2.1; show -9223372036854775808 ≤ ar ∧ ar ≤ 9223372036854775807; omega⟩, h⟩⟩
theorem wt_drawn {T : T3} (h : OkD T) : wtT T ≤ 34 := by
  obtain ⟨h1, _, h2⟩ := h
  unfold wtT tabWt
  omega
theorem same_self (nm : ByteArray) (ar : Int) (rows : List (List Int)) : sameT nm nm ar ar rows rows = true := decide_eq_true ⟨rfl, rfl, rfl⟩
/-- What is known of the list with the table. -/
structure SetF (l R : List T3) (nm : ByteArray) (ar : Int) (rows : List (List Int)) : Prop where
  ok : dbOk R = true
  wt : wtS R ≤ 300
  lk : lookL R nm = some (nm, ar, rows)
  rm : remOk R nm = true
  had : remOk l nm = true → remR R nm = remR l nm
  not : remOk l nm = false → remR R nm = l
  cnt : cntL R = cntL (remR R nm) + rows.length
  wz : wtS (remR R nm) ≤ 300
theorem sum_mono {f g : T3 → Nat} : ∀ (l : List T3), (∀ T ∈ l, f T ≤ g T) → sumN f l ≤ sumN g l
  | [], _ => by simp [sumN]
  | T :: l, h => by
    have h1 := sum_mono (f := f) (g := g) l (fun x hx => h x (List.mem_cons.2 (.inr hx)))
    have h2 := h T List.mem_cons_self
    rw [sumN_cons, sumN_cons]
    omega
theorem cnt_le (l : List T3) : cntL l ≤ wtS l := by
  unfold cntL
  split
  · have := sum_mono (f := fun T : T3 => T.2.2.length) (g := wtT) l fun T _ => by unfold wtT tabWt rowsWt; omega
    unfold wtS cntRows
    omega
  · omega
theorem set_all (l : List T3) (nm : ByteArray) (ar : Int) (rows : List (List Int)) :
    (setOk l (nm, ar, rows) = true → SetF l (setL l (nm, ar, rows)) nm ar rows) ∧ (setOk l (nm, ar, rows) = false → setL l (nm, ar, rows) = l) := by
  refine ⟨fun h => ?_, set_no⟩
  obtain ⟨h1, h2, h3, h4, h5, h6, h7⟩ := set_facts h
  exact ⟨h1, wts_ok h1, h2, h3, h4, h5, h6, wts_ok h7⟩

set_option maxRecDepth 100000 in
set_option maxHeartbeats 6400000 in
theorem walk (v : Value) (l : List UInt8) (w : World) (hr : Reads w v l w.heap.size) (hrd : Ready w) :
    Calls Tryz.prog 3 #[v] w fun e w' => e = .returned (.bool true) ∧ Below w.heap.size w w' := by
  by_cases hbig : 1048576 < l.length
  · go_enter Tryz.func3, Tryz.ntmps3
    go_wp2_with fail
    refine (big_any v l w.heap.size w hr).mono ?_
    rintro e w1 ⟨rfl, rfl⟩
    rw [decide_eq_true hbig]
    go_wp2_with fail
    go_ret
    exact ⟨rfl, Below.refl _ _⟩
  have HRD := Lib.hid (fun w' (hb : Below w.heap.size w w') => ready_later hb hrd)
  have HBIG := Lib.hid (big_any v l w.heap.size w hr)
  have HD1 := Lib.hid (draw_set v l w hr)
  clear hr hrd
  go_enter Tryz.func3, Tryz.ntmps3
  go_wp2_with fail
  refine HBIG.out.mono ?_
  rintro e w1 ⟨rfl, rfl⟩
  rw [decide_eq_false hbig]
  clear hbig HBIG
  go_wp2_with fail
  refine HD1.out.mono ?_
  rintro e W1 ⟨u, nm, ar, y, Ts, rows, rfl, hdb, hlen, hok, hrw, hokT, hb1⟩
  obtain ⟨ad, cd, rfl, _⟩ := Cd.sl_form hdb
  obtain ⟨au, cu, rfl, _⟩ := rows_form hrw
  have HB := Lib.hid hb1
  have HD := Lib.hid hdb
  have HT := Lib.hid hrw
  have HWS := Lib.hid (wts_drawn hlen hok)
  have HWT := Lib.hid (wt_drawn hokT)
  have HOT := Lib.hid hokT
  clear hb1 hdb hlen hok hrw hokT HD1
  have HIS := Lib.hid (fun (w' : World) (hd : tabsC.rd w' (· < W1.heap.size) [.slice ad Ts.length cd] Ts) (ht : rowsC.rd w' (· < W1.heap.size) [.slice au rows.length cu] rows) => (show Calls Tryz.prog 6 #[.agg #[.slice ad Ts.length cd], .agg #[.string nm, .int .i64 ar, .slice au rows.length cu]] w' (DbAcc.DbAns (setL Ts (nm, ar, rows)) (setOk Ts (nm, ar, rows)) w') from impl_set _ Ts (nm, ar, rows) au cu _ _ w' hd (tabrd ht HOT.out) (by have := HWS.out; omega) (by have := HWT.out; omega)))
  have HSS := Lib.hid (fun (w' : World) (hd : tabsC.rd w' (· < W1.heap.size) [.slice ad Ts.length cd] Ts) (ht : rowsC.rd w' (· < W1.heap.size) [.slice au rows.length cu] rows) => (show Calls Tryz.prog 7 #[.agg #[.slice ad Ts.length cd], .agg #[.string nm, .int .i64 ar, .slice au rows.length cu]] w' (DbAcc.DbAns (setL Ts (nm, ar, rows)) (setOk Ts (nm, ar, rows)) w') from DbAcc.spec_set _ Ts (nm, ar, rows) au cu _ _ w' hd (tabrd ht HOT.out) (by have := HWS.out; omega) (by have := HWT.out; omega)))
  have HA := Lib.hid (set_all Ts nm ar rows)
  have HRS := Lib.hid (fun (w' : World) (hd : tabsC.rd w' (· < W1.heap.size) [.slice ad Ts.length cd] Ts) => DbAcc.spec_rem _ Ts nm _ w' hd (by have := HWS.out; omega))
  generalize setOk Ts (nm, ar, rows) = ib at *
  generalize setL Ts (nm, ar, rows) = R at *
  go_wp2_with fail
  generalize hg : World.alloc (World.alloc W1 _) _ = W2
  obtain ⟨rg, rg2, zg, hbg⟩ := start2g W1 _ _ hg
  clear hg
  replace HB := Lib.hid (below_then HB.out hbg)
  replace HD := Lib.hid (Cd.later HD.out hbg)
  replace HT := Lib.hid (Cd.later HT.out hbg)
  have L3 := Lib.hid (Loc1.of rg)
  have L4 := Lib.hid (Loc3.of rg2)
  clear hbg zg rg rg2
  refine (HIS.out W2 HD.out HT.out).mono ?_
  rintro e W3 ⟨ux, fx, rfl, hyo, _, hbx⟩
  replace HB := Lib.hid (below_then HB.out hbx)
  replace HD := Lib.hid (Cd.later HD.out hbx)
  replace HT := Lib.hid (Cd.later HT.out hbx)
  replace L3 := Lib.hid (L3.out.later hbx)
  replace L4 := Lib.hid (L4.out.later hbx)
  clear hbx
  obtain ⟨ax, cx, rfl⟩ := Cd.ow_slice (c := tabC) hyo
  have HX := Lib.hid (Cd.reads hyo)
  clear hyo
  have y0a := L3.out.c0
  have y0d := L3.out.lt
  have y1a := L4.out.c0
  have y1b := L4.out.c1
  have y1c := L4.out.c2
  have y1d := L4.out.lt
  go_wp2_with fail
  clear y0a y0d y1a y1b y1c y1d
  generalize hg : World.alloc W3 _ = W4
  obtain ⟨rg, zg, hbg⟩ := start1 W3 _ hg
  clear hg
  replace HB := Lib.hid (below_then HB.out hbg)
  replace HD := Lib.hid (Cd.later HD.out hbg)
  replace HT := Lib.hid (Cd.later HT.out hbg)
  replace L3 := Lib.hid (L3.out.later hbg)
  replace L4 := Lib.hid (L4.out.later hbg)
  replace HX := Lib.hid (Cd.later HX.out hbg)
  have L5 := Lib.hid (Loc1.of rg)
  clear hbg zg rg
  refine (HSS.out W4 HD.out HT.out).mono ?_
  rintro e W5 ⟨us, fs, rfl, hyo, _, hbx⟩
  replace HB := Lib.hid (below_then HB.out hbx)
  replace HD := Lib.hid (Cd.later HD.out hbx)
  replace HT := Lib.hid (Cd.later HT.out hbx)
  replace L3 := Lib.hid (L3.out.later hbx)
  replace L4 := Lib.hid (L4.out.later hbx)
  replace HX := Lib.hid (Cd.later HX.out hbx)
  replace L5 := Lib.hid (L5.out.later hbx)
  clear hbx
  obtain ⟨aso, cso, rfl⟩ := Cd.ow_slice (c := tabC) hyo
  clear hyo HIS HSS
  go_upto_if 40 with fail
  generalize hg : World.alloc W5 _ = W6
  obtain ⟨rg, zg, hbg⟩ := start1 W5 _ hg
  clear hg
  replace HB := Lib.hid (below_then HB.out hbg)
  replace HD := Lib.hid (Cd.later HD.out hbg)
  replace HT := Lib.hid (Cd.later HT.out hbg)
  replace L3 := Lib.hid (L3.out.later hbg)
  replace L4 := Lib.hid (L4.out.later hbg)
  replace HX := Lib.hid (Cd.later HX.out hbg)
  replace L5 := Lib.hid (L5.out.later hbg)
  have L7 := Lib.hid (Loc1.of rg)
  clear hbg zg rg
  clear L7
  go_cut [] (fun wx => Below w.heap.size w wx ∧ Loc1 wx (W1.heap.size) (.slice ad Ts.length cd) ∧ tabsC.rd wx (· < W1.heap.size) [.slice ad Ts.length cd] Ts)
  case first =>
    as_aux_lemma =>
      cases ib
      case false =>
        obtain rfl : R = Ts := HA.out.2 rfl
        have y0a := L5.out.c0
        have y0d := L5.out.lt
        have y1a := L3.out.c0
        have y1d := L3.out.lt
        go_wp2_with fail
        clear y0a y0d y1a y1d
        have HE := Lib.hid (impl_eqdb _ _ _ _ _ _ W6 HX.out HD.out)
        rw [decide_eq_true rfl] at HE
        refine (HE.out).mono ?_
        rintro e W7 ⟨rfl, hbx⟩
        replace HB := Lib.hid (below_then HB.out hbx)
        replace HD := Lib.hid (Cd.later HD.out hbx)
        replace HT := Lib.hid (Cd.later HT.out hbx)
        replace L3 := Lib.hid (L3.out.later hbx)
        replace L4 := Lib.hid (L4.out.later hbx)
        replace HX := Lib.hid (Cd.later HX.out hbx)
        replace L5 := Lib.hid (L5.out.later hbx)
        clear hbx
        go_wp2_with fail
        go_meet
        exact ⟨HB.out, L3.out, HD.out⟩
      case true =>
        have HF := Lib.hid (HA.out.1 rfl)
        clear HA
        have HLK := Lib.hid (fun (w' : World) (S : Nat → Prop) (hx : tabsC.rd w' S [.slice ax R.length cx] R) => (show Calls Tryz.prog 8 #[.agg #[.slice ax R.length cx], .string nm] w' fun e w'' => ∃ v fp, e = .returned (.tuple #[.agg #[.string nm, .int .i64 ar, v], .bool true]) ∧ rowsC.ow w'' w'.heap.size [v] rows fp ∧ fp.Nodup ∧ Below w'.heap.size w' w'' from by
          have h := impl_look _ R nm S w' hx (by have := HF.out.wt; omega) (by have := HOT.out.1; simp only at this; omega)
          unfold LookAns at h
          rw [lk_some HF.out.lk, HF.out.lk] at h
          exact h))
        have HRI := Lib.hid (fun (w' : World) (S : Nat → Prop) (hx : tabsC.rd w' S [.slice ax R.length cx] R) => (show Calls Tryz.prog 11 #[.agg #[.slice ax R.length cx], .string nm] w' (DbAcc.DbAns (remR R nm) true w') from by
          have h := impl_rem _ R nm S w' hx (by have := HF.out.wt; omega) (by have := HOT.out.1; simp only at this; omega)
          rw [HF.out.rm] at h
          exact h))
        have HVX := Lib.hid (fun (w' : World) (S : Nat → Prop) (hx : tabsC.rd w' S [.slice ax R.length cx] R) => (show Calls Tryz.prog 10 #[.agg #[.slice ax R.length cx]] w' fun e w'' => e = .returned (.bool true) ∧ Below w'.heap.size w' w'' from by
          have h := impl_dbok _ R S w' hx
          rw [HF.out.ok] at h
          exact h))
        have y0a := L5.out.c0
        have y0d := L5.out.lt
        have y1a := L4.out.c0
        have y1b := L4.out.c1
        have y1c := L4.out.c2
        have y1d := L4.out.lt
        go_wp2_with fail
        clear y0a y0d y1a y1b y1c y1d
        refine (HLK.out W6 _ HX.out).mono ?_
        rintro e W8 ⟨uy, fy, rfl, hyo, _, hbx⟩
        replace HB := Lib.hid (below_then HB.out hbx)
        replace HD := Lib.hid (Cd.later HD.out hbx)
        replace HT := Lib.hid (Cd.later HT.out hbx)
        replace L3 := Lib.hid (L3.out.later hbx)
        replace L4 := Lib.hid (L4.out.later hbx)
        replace HX := Lib.hid (Cd.later HX.out hbx)
        replace L5 := Lib.hid (L5.out.later hbx)
        clear hbx
        obtain ⟨ay, cy, rfl⟩ := Cd.ow_slice hyo
        have HY := Lib.hid (Cd.reads hyo)
        clear hyo HLK
        have y0a := L4.out.c0
        have y0b := L4.out.c1
        have y0c := L4.out.c2
        have y0d := L4.out.lt
        have y1a := L5.out.c0
        have y1d := L5.out.lt
        go_wp2_with fail
        clear y0a y0b y0c y0d y1a y1d
        generalize hg : World.alloc W8 _ = W9
        obtain ⟨rg, zg, hbg⟩ := start1 W8 _ hg
        clear hg
        replace HB := Lib.hid (below_then HB.out hbg)
        replace HD := Lib.hid (Cd.later HD.out hbg)
        replace HT := Lib.hid (Cd.later HT.out hbg)
        replace L3 := Lib.hid (L3.out.later hbg)
        replace L4 := Lib.hid (L4.out.later hbg)
        replace HX := Lib.hid (Cd.later HX.out hbg)
        replace L5 := Lib.hid (L5.out.later hbg)
        replace HY := Lib.hid (Cd.later HY.out hbg)
        have L9 := Lib.hid (Loc3.of rg)
        clear hbg zg rg
        have HE := Lib.hid (TabImp.impl_equal nm nm ar ar _ _ _ _ _ _ W9 HY.out HT.out)
        rw [same_self] at HE
        refine (HE.out).mono ?_
        rintro e W10 ⟨rfl, hbx⟩
        replace HB := Lib.hid (below_then HB.out hbx)
        replace HD := Lib.hid (Cd.later HD.out hbx)
        replace HT := Lib.hid (Cd.later HT.out hbx)
        replace L3 := Lib.hid (L3.out.later hbx)
        replace L4 := Lib.hid (L4.out.later hbx)
        replace HX := Lib.hid (Cd.later HX.out hbx)
        replace L5 := Lib.hid (L5.out.later hbx)
        replace HY := Lib.hid (Cd.later HY.out hbx)
        replace L9 := Lib.hid (L9.out.later hbx)
        clear hbx
        clear HE
        have y0a := L5.out.c0
        have y0d := L5.out.lt
        have y1a := L9.out.c0
        have y1b := L9.out.c1
        have y1c := L9.out.c2
        have y1d := L9.out.lt
        have y2a := L4.out.c0
        have y2b := L4.out.c1
        have y2c := L4.out.c2
        have y2d := L4.out.lt
        go_wp2_with fail
        clear y0a y0d y1a y1b y1c y1d y2a y2b y2c y2d
        refine (HVX.out W10 _ HX.out).mono ?_
        rintro e W11 ⟨rfl, hbx⟩
        replace HB := Lib.hid (below_then HB.out hbx)
        replace HD := Lib.hid (Cd.later HD.out hbx)
        replace HT := Lib.hid (Cd.later HT.out hbx)
        replace L3 := Lib.hid (L3.out.later hbx)
        replace L4 := Lib.hid (L4.out.later hbx)
        replace HX := Lib.hid (Cd.later HX.out hbx)
        replace L5 := Lib.hid (L5.out.later hbx)
        replace HY := Lib.hid (Cd.later HY.out hbx)
        replace L9 := Lib.hid (L9.out.later hbx)
        clear hbx
        clear HVX
        clear HY
        have y0a := L5.out.c0
        have y0d := L5.out.lt
        have y1a := L4.out.c0
        have y1b := L4.out.c1
        have y1c := L4.out.c2
        have y1d := L4.out.lt
        go_wp2_with fail
        clear y0a y0d y1a y1b y1c y1d
        clear L9
        refine (HRI.out W11 _ HX.out).mono ?_
        rintro e W12 ⟨uz, fz, rfl, hyo, _, hbx⟩
        replace HB := Lib.hid (below_then HB.out hbx)
        replace HD := Lib.hid (Cd.later HD.out hbx)
        replace HT := Lib.hid (Cd.later HT.out hbx)
        replace L3 := Lib.hid (L3.out.later hbx)
        replace L4 := Lib.hid (L4.out.later hbx)
        replace HX := Lib.hid (Cd.later HX.out hbx)
        replace L5 := Lib.hid (L5.out.later hbx)
        clear hbx
        have HZF := Lib.hid (And.intro HF.out.had HF.out.not)
        have HCN := Lib.hid (show ((cntL R : Nat) : Int) = (cntL (remR R nm) : Int) + (rows.length : Int) by have := HF.out.cnt; omega)
        have HCB := Lib.hid (show cntL (remR R nm) ≤ 300 ∧ cntL R ≤ 300 from ⟨Nat.le_trans (cnt_le _) HF.out.wz, Nat.le_trans (cnt_le _) HF.out.wt⟩)
        have HWZ := Lib.hid HF.out.wz
        have HWR := Lib.hid HF.out.wt
        generalize remR R nm = Z at *
        obtain ⟨az, cz, rfl⟩ := Cd.ow_slice (c := tabC) hyo
        have HZ := Lib.hid (Cd.reads hyo)
        clear hyo
        clear HRI HF
        have y0a := L3.out.c0
        have y0d := L3.out.lt
        have y1a := L4.out.c0
        have y1b := L4.out.c1
        have y1c := L4.out.c2
        have y1d := L4.out.lt
        go_wp2_with fail
        clear y0a y0d y1a y1b y1c y1d
        generalize hg : World.alloc W12 _ = W13
        obtain ⟨rg, zg, hbg⟩ := start1 W12 _ hg
        clear hg
        replace HB := Lib.hid (below_then HB.out hbg)
        replace HD := Lib.hid (Cd.later HD.out hbg)
        replace HT := Lib.hid (Cd.later HT.out hbg)
        replace L3 := Lib.hid (L3.out.later hbg)
        replace L4 := Lib.hid (L4.out.later hbg)
        replace HX := Lib.hid (Cd.later HX.out hbg)
        replace L5 := Lib.hid (L5.out.later hbg)
        replace HZ := Lib.hid (Cd.later HZ.out hbg)
        have L11 := Lib.hid (Loc1.of rg)
        clear hbg zg rg
        refine (HRS.out W13 HD.out).mono ?_
        rintro e W14 ⟨uw, fw, rfl, hyo, _, hbx⟩
        replace HB := Lib.hid (below_then HB.out hbx)
        replace HD := Lib.hid (Cd.later HD.out hbx)
        replace HT := Lib.hid (Cd.later HT.out hbx)
        replace L3 := Lib.hid (L3.out.later hbx)
        replace L4 := Lib.hid (L4.out.later hbx)
        replace HX := Lib.hid (Cd.later HX.out hbx)
        replace L5 := Lib.hid (L5.out.later hbx)
        replace HZ := Lib.hid (Cd.later HZ.out hbx)
        replace L11 := Lib.hid (L11.out.later hbx)
        clear hbx
        clear HRS
        generalize remR Ts nm = Wd at *
        generalize remOk Ts nm = had at *
        obtain ⟨aw, cw, rfl⟩ := Cd.ow_slice (c := tabC) hyo
        have HW := Lib.hid (Cd.reads hyo)
        clear hyo
        go_upto_region 14 with fail
        generalize hg : World.alloc W14 _ = W15
        obtain ⟨rg, zg, hbg⟩ := start1 W14 _ hg
        clear hg
        replace HB := Lib.hid (below_then HB.out hbg)
        replace HD := Lib.hid (Cd.later HD.out hbg)
        replace HT := Lib.hid (Cd.later HT.out hbg)
        replace L3 := Lib.hid (L3.out.later hbg)
        replace L4 := Lib.hid (L4.out.later hbg)
        replace HX := Lib.hid (Cd.later HX.out hbg)
        replace L5 := Lib.hid (L5.out.later hbg)
        replace HZ := Lib.hid (Cd.later HZ.out hbg)
        replace L11 := Lib.hid (L11.out.later hbg)
        replace HW := Lib.hid (Cd.later HW.out hbg)
        have L13 := Lib.hid (Loc1.of rg)
        clear hbg zg rg
        go_cut [106] (fun s106 wx => s106 = .bool false ∧ Below w.heap.size w wx ∧ Loc1 wx (W1.heap.size) (.slice ad Ts.length cd) ∧ tabsC.rd wx (· < W1.heap.size) [.slice ad Ts.length cd] Ts)
        case first =>
          as_aux_lemma =>
            have HCX := Lib.hid (fun w' (hb : LaterD W15 w') => (show Calls Tryz.prog 14 #[.agg #[.slice ax R.length cx]] w' fun e w'' => e = .returned (.int .i64 ((cntL Z : Int) + (rows.length : Int))) ∧ Below w'.heap.size w' w'' from by
              have h := impl_count _ R _ w' (Cd.later HX.out hb) (by have := HWR.out; omega)
              rw [HCN.out] at h
              exact h))
            have HCZ := Lib.hid (fun w' (hb : LaterD W15 w') => impl_count _ Z _ w' (Cd.later HZ.out hb) (by have := HWZ.out; omega))
            have hcb1 := HCB.out.1
            have hcb2 : ((cntL R : Nat) : Int) ≤ 300 := by have := HCB.out.2; omega
            rw [HCN.out] at hcb2
            have hwr : IntKind.i64.wrap ((cntL Z : Int) + (rows.length : Int)) = (cntL Z : Int) + (rows.length : Int) := by rw [IntKind.wrap_i64]; omega
            have kk : LaterD W15 W15.drew := DbSpec.drewD (Below.refl _ W15)
            have q0a := L3.out.c0
            have q1a := L4.out.c0
            have q1b := L4.out.c1
            have q1c := L4.out.c2
            have q2a := L5.out.c0
            have q3a := L11.out.c0
            have q4a := L13.out.c0
            cases had
            case false =>
              have HE := Lib.hid (fun w' (hb : LaterD W15 w') => (show Calls Tryz.prog 13 #[.agg #[.slice az Z.length cz], .agg #[.slice ad Ts.length cd]] w' fun e w'' => e = .returned (.bool true) ∧ Below w'.heap.size w' w'' from by
                have h := spec_eqdb _ _ Z Ts _ _ w' (Cd.later HZ.out hb) (Cd.later HD.out hb)
                rw [decide_eq_true (HZF.out.2 rfl)] at h
                exact h))
              refine wp_region_held_drew (S := (fun wx => wx.cell? ⟨W1.heap.size, 0, none⟩ = some (.slice ad Ts.length cd) ∧ wx.cell? ⟨W3.heap.size, 0, none⟩ = some (.slice ax R.length cx) ∧ wx.cell? ⟨W12.heap.size, 0, none⟩ = some (.slice az Z.length cz) ∧ wx.cell? ⟨W14.heap.size, 0, none⟩ = some (.slice aw Wd.length cw) ∧ wx.cell? ⟨W1.heap.size + 1, 0, none⟩ = some (.string nm) ∧ wx.cell? ⟨W1.heap.size + 1, 1, none⟩ = some (.int .i64 ar) ∧ wx.cell? ⟨W1.heap.size + 1, 2, none⟩ = some (.slice au rows.length cu) ∧ LaterD W15 wx)) (by kernel_rfl) ?_ (fun hHeld => ?_)
              · (refine ⟨?_, ?_, ?_, ?_, ?_, ?_, ?_, ?_⟩ <;> first | assumption | (simp [*]; done))
              refine RegH.takeH (i := 0) (v := ?_) rfl (by kernel_rfl) (by kernel_rfl) (by kernel_rfl) (fun _ _ _ h => h) (Or.inl ⟨by rfl, ?_⟩) (by assumption) ?_
              rotate_left
              · (intro wS hSw; (try dsimp only at hSw); go_simp; try (with_reducible rfl))
              try simp only [Act.put, List.setIfInBounds_toArray, List.set_cons_zero, List.set_cons_succ]
              refine RegH.takeH (i := 1) (v := ?_) rfl (by kernel_rfl) (by kernel_rfl) (by kernel_rfl) (fun _ _ _ h => h) (Or.inl ⟨by rfl, ?_⟩) (by assumption) ?_
              rotate_left
              · (intro wS hSw; (try dsimp only at hSw); go_simp; try (with_reducible rfl))
              try simp only [Act.put, List.setIfInBounds_toArray, List.set_cons_zero, List.set_cons_succ]
              refine RegH.takeH (i := 2) (v := ?_) rfl (by kernel_rfl) (by kernel_rfl) (by kernel_rfl) (fun _ _ _ h => h) (Or.inl ⟨by rfl, ?_⟩) (by assumption) ?_
              rotate_left
              · (intro wS hSw; (try dsimp only at hSw); go_simp; try (with_reducible rfl))
              try simp only [Act.put, List.setIfInBounds_toArray, List.set_cons_zero, List.set_cons_succ]
              refine RegH.takeH (i := 3) (v := ?_) rfl (by kernel_rfl) (by kernel_rfl) (by kernel_rfl) (fun _ _ _ h => h) (Or.inl ⟨by rfl, ?_⟩) (by assumption) ?_
              rotate_left
              · (intro wS hSw; (try dsimp only at hSw); go_simp; try (with_reducible rfl))
              try simp only [Act.put, List.setIfInBounds_toArray, List.set_cons_zero, List.set_cons_succ]
              refine RegH.takeH (i := 4) (v := ?_) rfl (by kernel_rfl) (by kernel_rfl) (by kernel_rfl) (fun _ _ _ h => h) (Or.inl ⟨by rfl, ?_⟩) (by assumption) ?_
              rotate_left
              · (intro wS hSw; (try dsimp only at hSw); go_simp; try (with_reducible rfl))
              try simp only [Act.put, List.setIfInBounds_toArray, List.set_cons_zero, List.set_cons_succ]
              refine RegH.takeH (i := 5) rfl (by kernel_rfl) (by kernel_rfl) (by kernel_rfl) (fun _ _ _ h => h) (Or.inr ⟨by rfl, rfl⟩) (by assumption) ?_
              try simp only [Act.put, List.setIfInBounds_toArray, List.set_cons_zero, List.set_cons_succ]
              refine RegH.takeH (i := 6) rfl (by kernel_rfl) (by kernel_rfl) (by kernel_rfl) (fun _ _ _ h => h) (Or.inr ⟨by rfl, rfl⟩) (by assumption) ?_
              try simp only [Act.put, List.setIfInBounds_toArray, List.set_cons_zero, List.set_cons_succ]
              refine RegH.takeH (i := 7) rfl (by kernel_rfl) (by kernel_rfl) (by kernel_rfl) (fun _ _ _ h => h) (Or.inr ⟨by rfl, rfl⟩) (by assumption) ?_
              try simp only [Act.put, List.setIfInBounds_toArray, List.set_cons_zero, List.set_cons_succ]
              refine RegH.takeH (i := 8) rfl (by kernel_rfl) (by kernel_rfl) (by kernel_rfl) (fun _ _ _ h => h) (Or.inr ⟨by rfl, rfl⟩) (by assumption) ?_
              try simp only [Act.put, List.setIfInBounds_toArray, List.set_cons_zero, List.set_cons_succ]
              refine RegH.takeH (i := 9) (v := ?_) rfl (by kernel_rfl) (by kernel_rfl) (by kernel_rfl) (fun _ _ _ h => h) (Or.inl ⟨by rfl, ?_⟩) (by assumption) ?_
              rotate_left
              · (intro wS hSw; (try dsimp only at hSw); go_simp; try (with_reducible rfl))
              try simp only [Act.put, List.setIfInBounds_toArray, List.set_cons_zero, List.set_cons_succ]
              refine RegH.takeH (i := 10) (v := ?_) rfl (by kernel_rfl) (by kernel_rfl) (by kernel_rfl) (fun _ _ _ h => h) (Or.inl ⟨by rfl, ?_⟩) (by assumption) ?_
              rotate_left
              · (intro wS hSw; (try dsimp only at hSw); go_simp; try (with_reducible rfl))
              try simp only [Act.put, List.setIfInBounds_toArray, List.set_cons_zero, List.set_cons_succ]
              refine RegH.takeH (i := 11) (v := ?_) rfl (by kernel_rfl) (by kernel_rfl) (by kernel_rfl) (fun _ _ _ h => h) (Or.inl ⟨by rfl, ?_⟩) (by assumption) ?_
              rotate_left
              · (intro wS hSw; (try dsimp only at hSw); go_simp; try (with_reducible rfl))
              try simp only [Act.put, List.setIfInBounds_toArray, List.set_cons_zero, List.set_cons_succ]
              refine RegH.takeH (i := 12) (v := ?_) rfl (by kernel_rfl) (by kernel_rfl) (by kernel_rfl) (fun _ _ _ h => h) (Or.inl ⟨by rfl, ?_⟩) (by assumption) ?_
              rotate_left
              · (intro wS hSw; (try dsimp only at hSw); go_simp; try (with_reducible rfl))
              try simp only [Act.put, List.setIfInBounds_toArray, List.set_cons_zero, List.set_cons_succ]
              refine RegH.takeH (i := 13) (v := ?_) rfl (by kernel_rfl) (by kernel_rfl) (by kernel_rfl) (fun _ _ _ h => h) (Or.inl ⟨by rfl, ?_⟩) (by assumption) ?_
              rotate_left
              · (intro wS hSw; (try dsimp only at hSw); go_simp; try (with_reducible rfl))
              try simp only [Act.put, List.setIfInBounds_toArray, List.set_cons_zero, List.set_cons_succ]
              refine RegH.takeH (i := 14) (v := ?_) rfl (by kernel_rfl) (by kernel_rfl) (by kernel_rfl) (fun _ _ _ h => h) (Or.inl ⟨by rfl, ?_⟩) (by assumption) ?_
              rotate_left
              · (intro wS hSw; (try dsimp only at hSw); go_simp; try (with_reducible rfl))
              try simp only [Act.put, List.setIfInBounds_toArray, List.set_cons_zero, List.set_cons_succ]
              refine RegH.takeH (i := 15) (v := ?_) rfl (by kernel_rfl) (by kernel_rfl) (by kernel_rfl) (fun _ _ _ h => h) (Or.inl ⟨by rfl, ?_⟩) (by assumption) ?_
              rotate_left
              · (intro wS hSw; (try dsimp only at hSw); go_simp; try (with_reducible rfl))
              try simp only [Act.put, List.setIfInBounds_toArray, List.set_cons_zero, List.set_cons_succ]
              refine RegH.takeH (i := 16) (v := ?_) rfl (by kernel_rfl) (by kernel_rfl) (by kernel_rfl) (fun _ _ _ h => h) (Or.inl ⟨by rfl, ?_⟩) (by assumption) ?_
              rotate_left
              · (intro wS hSw; (try dsimp only at hSw); go_simp; try (with_reducible rfl))
              try simp only [Act.put, List.setIfInBounds_toArray, List.set_cons_zero, List.set_cons_succ]
              refine RegH.consH (i := 17) rfl (by kernel_rfl) (fun K hK => ?_)
              go_simp
              go_at_call 13
              refine (HE.out _ kk).mono ?_
              rintro e wq1 ⟨rfl, hbq⟩
              have kq1 : LaterD W15 wq1 := below_then (show Below W15.heap.size W15 W15.drew from kk) hbq
              have n1_00 := (L3.out.later (show Below W15.heap.size W15 wq1 from kq1)).c0
              have n1_10 := (L5.out.later (show Below W15.heap.size W15 wq1 from kq1)).c0
              have n1_20 := (L11.out.later (show Below W15.heap.size W15 wq1 from kq1)).c0
              have n1_30 := (L13.out.later (show Below W15.heap.size W15 wq1 from kq1)).c0
              have n1_40 := (L4.out.later (show Below W15.heap.size W15 wq1 from kq1)).c0
              have n1_41 := (L4.out.later (show Below W15.heap.size W15 wq1 from kq1)).c1
              have n1_42 := (L4.out.later (show Below W15.heap.size W15 wq1 from kq1)).c2
              clear hbq
              go_wp2_with fail
              refine hK.out _ _ ?_ (fun hHeld => ?_)
              · (refine ⟨?_, ?_, ?_, ?_, ?_, ?_, ?_, ?_⟩ <;> first | assumption | (simp [*]; done))
              clear hK K
              try simp only [Act.put, List.setIfInBounds_toArray, List.set_cons_zero, List.set_cons_succ]
              refine RegH.takeH (i := 18) (v := ?_) rfl (by kernel_rfl) (by kernel_rfl) (by kernel_rfl) (fun _ _ _ h => h) (Or.inl ⟨by rfl, ?_⟩) (by assumption) ?_
              rotate_left
              · (intro wS hSw; (try dsimp only at hSw); go_simp; try (with_reducible rfl))
              try simp only [Act.put, List.setIfInBounds_toArray, List.set_cons_zero, List.set_cons_succ]
              refine RegH.takeH (i := 19) (v := ?_) rfl (by kernel_rfl) (by kernel_rfl) (by kernel_rfl) (fun _ _ _ h => h) (Or.inl ⟨by rfl, ?_⟩) (by assumption) ?_
              rotate_left
              · (intro wS hSw; (try dsimp only at hSw); go_simp; try (with_reducible rfl))
              try simp only [Act.put, List.setIfInBounds_toArray, List.set_cons_zero, List.set_cons_succ]
              refine RegH.takeH (i := 20) (v := ?_) rfl (by kernel_rfl) (by kernel_rfl) (by kernel_rfl) (fun _ _ _ h => h) (Or.inl ⟨by rfl, ?_⟩) (by assumption) ?_
              rotate_left
              · (intro wS hSw; (try dsimp only at hSw); go_simp; try (with_reducible rfl))
              try simp only [Act.put, List.setIfInBounds_toArray, List.set_cons_zero, List.set_cons_succ]
              refine RegH.takeH (i := 21) (v := ?_) rfl (by kernel_rfl) (by kernel_rfl) (by kernel_rfl) (fun _ _ _ h => h) (Or.inl ⟨by rfl, ?_⟩) (by assumption) ?_
              rotate_left
              · (intro wS hSw; (try dsimp only at hSw); go_simp; try (with_reducible rfl))
              try simp only [Act.put, List.setIfInBounds_toArray, List.set_cons_zero, List.set_cons_succ]
              refine RegH.takeH (i := 22) (v := ?_) rfl (by kernel_rfl) (by kernel_rfl) (by kernel_rfl) (fun _ _ _ h => h) (Or.inl ⟨by rfl, ?_⟩) (by assumption) ?_
              rotate_left
              · (intro wS hSw; (try dsimp only at hSw); go_simp; try (with_reducible rfl))
              try simp only [Act.put, List.setIfInBounds_toArray, List.set_cons_zero, List.set_cons_succ]
              refine RegH.takeH (i := 24) (v := ?_) rfl (by kernel_rfl) (by kernel_rfl) (by kernel_rfl) (fun _ _ _ h => h) (Or.inl ⟨by rfl, ?_⟩) (by assumption) ?_
              rotate_left
              · (intro wS hSw; (try dsimp only at hSw); go_simp; try (with_reducible rfl))
              try simp only [Act.put, List.setIfInBounds_toArray, List.set_cons_zero, List.set_cons_succ]
              refine RegH.takeH (i := 26) (v := ?_) rfl (by kernel_rfl) (by kernel_rfl) (by kernel_rfl) (fun _ _ _ h => h) (Or.inl ⟨by rfl, ?_⟩) (by assumption) ?_
              rotate_left
              · (intro wS hSw; (try dsimp only at hSw); go_simp; try (with_reducible rfl))
              try simp only [Act.put, List.setIfInBounds_toArray, List.set_cons_zero, List.set_cons_succ]
              refine RegH.takeH (i := 27) (v := ?_) rfl (by kernel_rfl) (by kernel_rfl) (by kernel_rfl) (fun _ _ _ h => h) (Or.inl ⟨by rfl, ?_⟩) (by assumption) ?_
              rotate_left
              · (intro wS hSw; (try dsimp only at hSw); go_simp; try (with_reducible rfl))
              try simp only [Act.put, List.setIfInBounds_toArray, List.set_cons_zero, List.set_cons_succ]
              refine RegH.takeH (i := 28) (v := ?_) rfl (by kernel_rfl) (by kernel_rfl) (by kernel_rfl) (fun _ _ _ h => h) (Or.inl ⟨by rfl, ?_⟩) (by assumption) ?_
              rotate_left
              · (intro wS hSw; (try dsimp only at hSw); go_simp; try (with_reducible rfl))
              try simp only [Act.put, List.setIfInBounds_toArray, List.set_cons_zero, List.set_cons_succ]
              refine RegH.consH (i := 23) rfl (by kernel_rfl) (fun K hK => ?_)
              go_simp
              go_at_call 14
              refine (HCX.out _ kq1).mono ?_
              rintro e wq2 ⟨rfl, hbq⟩
              have kq2 : LaterD W15 wq2 := below_then (show Below W15.heap.size W15 wq1 from kq1) hbq
              have n2_00 := (L3.out.later (show Below W15.heap.size W15 wq2 from kq2)).c0
              have n2_10 := (L5.out.later (show Below W15.heap.size W15 wq2 from kq2)).c0
              have n2_20 := (L11.out.later (show Below W15.heap.size W15 wq2 from kq2)).c0
              have n2_30 := (L13.out.later (show Below W15.heap.size W15 wq2 from kq2)).c0
              have n2_40 := (L4.out.later (show Below W15.heap.size W15 wq2 from kq2)).c0
              have n2_41 := (L4.out.later (show Below W15.heap.size W15 wq2 from kq2)).c1
              have n2_42 := (L4.out.later (show Below W15.heap.size W15 wq2 from kq2)).c2
              clear hbq
              go_wp2_with fail
              refine hK.out _ _ ?_ (fun hHeld => ?_)
              · (refine ⟨?_, ?_, ?_, ?_, ?_, ?_, ?_, ?_⟩ <;> first | assumption | (simp [*]; done))
              clear hK K
              try simp only [Act.put, List.setIfInBounds_toArray, List.set_cons_zero, List.set_cons_succ]
              refine RegH.consH (i := 25) rfl (by kernel_rfl) (fun K hK => ?_)
              go_simp
              go_at_call 14
              refine (HCZ.out _ kq2).mono ?_
              rintro e wq3 ⟨rfl, hbq⟩
              have kq3 : LaterD W15 wq3 := below_then (show Below W15.heap.size W15 wq2 from kq2) hbq
              have n3_00 := (L3.out.later (show Below W15.heap.size W15 wq3 from kq3)).c0
              have n3_10 := (L5.out.later (show Below W15.heap.size W15 wq3 from kq3)).c0
              have n3_20 := (L11.out.later (show Below W15.heap.size W15 wq3 from kq3)).c0
              have n3_30 := (L13.out.later (show Below W15.heap.size W15 wq3 from kq3)).c0
              have n3_40 := (L4.out.later (show Below W15.heap.size W15 wq3 from kq3)).c0
              have n3_41 := (L4.out.later (show Below W15.heap.size W15 wq3 from kq3)).c1
              have n3_42 := (L4.out.later (show Below W15.heap.size W15 wq3 from kq3)).c2
              clear hbq
              go_wp2_with fail
              refine hK.out _ _ ?_ (fun hHeld => ?_)
              · (refine ⟨?_, ?_, ?_, ?_, ?_, ?_, ?_, ?_⟩ <;> first | assumption | (simp [*]; done))
              clear hK K
              try simp only [Act.put, List.setIfInBounds_toArray, List.set_cons_zero, List.set_cons_succ]
              refine RegH.takeH (i := 29) (v := ?_) rfl (by kernel_rfl) (by kernel_rfl) (by kernel_rfl) (fun _ _ _ h => h) (Or.inl ⟨by rfl, ?_⟩) (by assumption) ?_
              rotate_left
              · (intro wS hSw; (try dsimp only at hSw); go_simp; try (with_reducible rfl))
              try simp only [Act.put, List.setIfInBounds_toArray, List.set_cons_zero, List.set_cons_succ]
              refine RegH.takeH (i := 30) (v := ?_) rfl (by kernel_rfl) (by kernel_rfl) (by kernel_rfl) (fun _ _ _ h => h) (Or.inl ⟨by rfl, ?_⟩) (by assumption) ?_
              rotate_left
              · (intro wS hSw; (try dsimp only at hSw); go_simp; try (with_reducible rfl))
              try simp only [Act.put, List.setIfInBounds_toArray, List.set_cons_zero, List.set_cons_succ]
              refine RegH.takeH (i := 31) (v := ?_) rfl (by kernel_rfl) (by kernel_rfl) (by kernel_rfl) (fun _ _ _ h => h) (Or.inl ⟨by rfl, ?_⟩) (by assumption) ?_
              rotate_left
              · (intro wS hSw; (try dsimp only at hSw); go_simp; try (with_reducible rfl))
              try simp only [Act.put, List.setIfInBounds_toArray, List.set_cons_zero, List.set_cons_succ]
              refine wpAnyH_done (by kernel_rfl) ?_ _
              have G := Lib.hid (show Below w.heap.size w wq3 ∧ Loc1 wq3 (W1.heap.size) (.slice ad Ts.length cd) ∧ tabsC.rd wq3 (· < W1.heap.size) [.slice ad Ts.length cd] Ts from ⟨below_then HB.out (show Below W15.heap.size W15 wq3 from kq3), L3.out.later (show Below W15.heap.size W15 wq3 from kq3), Cd.later HD.out (show Below W15.heap.size W15 wq3 from kq3)⟩)
              go_wp2_with fail
              go_meet
              exact ⟨rfl, G.out⟩
            case true =>
              have HE := Lib.hid (fun w' (hb : LaterD W15 w') => (show Calls Tryz.prog 13 #[.agg #[.slice az Z.length cz], .agg #[.slice aw Wd.length cw]] w' fun e w'' => e = .returned (.bool true) ∧ Below w'.heap.size w' w'' from by
                have h := spec_eqdb _ _ Z Wd _ _ w' (Cd.later HZ.out hb) (Cd.later HW.out hb)
                rw [decide_eq_true (HZF.out.1 rfl)] at h
                exact h))
              refine wp_region_held_drew (S := (fun wx => wx.cell? ⟨W1.heap.size, 0, none⟩ = some (.slice ad Ts.length cd) ∧ wx.cell? ⟨W3.heap.size, 0, none⟩ = some (.slice ax R.length cx) ∧ wx.cell? ⟨W12.heap.size, 0, none⟩ = some (.slice az Z.length cz) ∧ wx.cell? ⟨W14.heap.size, 0, none⟩ = some (.slice aw Wd.length cw) ∧ wx.cell? ⟨W1.heap.size + 1, 0, none⟩ = some (.string nm) ∧ wx.cell? ⟨W1.heap.size + 1, 1, none⟩ = some (.int .i64 ar) ∧ wx.cell? ⟨W1.heap.size + 1, 2, none⟩ = some (.slice au rows.length cu) ∧ LaterD W15 wx)) (by kernel_rfl) ?_ (fun hHeld => ?_)
              · (refine ⟨?_, ?_, ?_, ?_, ?_, ?_, ?_, ?_⟩ <;> first | assumption | (simp [*]; done))
              refine RegH.takeH (i := 0) (v := ?_) rfl (by kernel_rfl) (by kernel_rfl) (by kernel_rfl) (fun _ _ _ h => h) (Or.inl ⟨by rfl, ?_⟩) (by assumption) ?_
              rotate_left
              · (intro wS hSw; (try dsimp only at hSw); go_simp; try (with_reducible rfl))
              try simp only [Act.put, List.setIfInBounds_toArray, List.set_cons_zero, List.set_cons_succ]
              refine RegH.takeH (i := 1) (v := ?_) rfl (by kernel_rfl) (by kernel_rfl) (by kernel_rfl) (fun _ _ _ h => h) (Or.inl ⟨by rfl, ?_⟩) (by assumption) ?_
              rotate_left
              · (intro wS hSw; (try dsimp only at hSw); go_simp; try (with_reducible rfl))
              try simp only [Act.put, List.setIfInBounds_toArray, List.set_cons_zero, List.set_cons_succ]
              refine RegH.takeH (i := 2) (v := ?_) rfl (by kernel_rfl) (by kernel_rfl) (by kernel_rfl) (fun _ _ _ h => h) (Or.inl ⟨by rfl, ?_⟩) (by assumption) ?_
              rotate_left
              · (intro wS hSw; (try dsimp only at hSw); go_simp; try (with_reducible rfl))
              try simp only [Act.put, List.setIfInBounds_toArray, List.set_cons_zero, List.set_cons_succ]
              refine RegH.takeH (i := 3) (v := ?_) rfl (by kernel_rfl) (by kernel_rfl) (by kernel_rfl) (fun _ _ _ h => h) (Or.inl ⟨by rfl, ?_⟩) (by assumption) ?_
              rotate_left
              · (intro wS hSw; (try dsimp only at hSw); go_simp; try (with_reducible rfl))
              try simp only [Act.put, List.setIfInBounds_toArray, List.set_cons_zero, List.set_cons_succ]
              refine RegH.takeH (i := 4) (v := ?_) rfl (by kernel_rfl) (by kernel_rfl) (by kernel_rfl) (fun _ _ _ h => h) (Or.inl ⟨by rfl, ?_⟩) (by assumption) ?_
              rotate_left
              · (intro wS hSw; (try dsimp only at hSw); go_simp; try (with_reducible rfl))
              try simp only [Act.put, List.setIfInBounds_toArray, List.set_cons_zero, List.set_cons_succ]
              refine RegH.takeH (i := 5) (v := ?_) rfl (by kernel_rfl) (by kernel_rfl) (by kernel_rfl) (fun _ _ _ h => h) (Or.inl ⟨by rfl, ?_⟩) (by assumption) ?_
              rotate_left
              · (intro wS hSw; (try dsimp only at hSw); go_simp; try (with_reducible rfl))
              try simp only [Act.put, List.setIfInBounds_toArray, List.set_cons_zero, List.set_cons_succ]
              refine RegH.takeH (i := 6) (v := ?_) rfl (by kernel_rfl) (by kernel_rfl) (by kernel_rfl) (fun _ _ _ h => h) (Or.inl ⟨by rfl, ?_⟩) (by assumption) ?_
              rotate_left
              · (intro wS hSw; (try dsimp only at hSw); go_simp; try (with_reducible rfl))
              try simp only [Act.put, List.setIfInBounds_toArray, List.set_cons_zero, List.set_cons_succ]
              refine RegH.consH (i := 7) rfl (by kernel_rfl) (fun K hK => ?_)
              go_simp
              go_at_call 13
              refine (HE.out _ kk).mono ?_
              rintro e wq1 ⟨rfl, hbq⟩
              have kq1 : LaterD W15 wq1 := below_then (show Below W15.heap.size W15 W15.drew from kk) hbq
              have n1_00 := (L3.out.later (show Below W15.heap.size W15 wq1 from kq1)).c0
              have n1_10 := (L5.out.later (show Below W15.heap.size W15 wq1 from kq1)).c0
              have n1_20 := (L11.out.later (show Below W15.heap.size W15 wq1 from kq1)).c0
              have n1_30 := (L13.out.later (show Below W15.heap.size W15 wq1 from kq1)).c0
              have n1_40 := (L4.out.later (show Below W15.heap.size W15 wq1 from kq1)).c0
              have n1_41 := (L4.out.later (show Below W15.heap.size W15 wq1 from kq1)).c1
              have n1_42 := (L4.out.later (show Below W15.heap.size W15 wq1 from kq1)).c2
              clear hbq
              go_wp2_with fail
              refine hK.out _ _ ?_ (fun hHeld => ?_)
              · (refine ⟨?_, ?_, ?_, ?_, ?_, ?_, ?_, ?_⟩ <;> first | assumption | (simp [*]; done))
              clear hK K
              try simp only [Act.put, List.setIfInBounds_toArray, List.set_cons_zero, List.set_cons_succ]
              refine RegH.takeH (i := 8) (v := ?_) rfl (by kernel_rfl) (by kernel_rfl) (by kernel_rfl) (fun _ _ _ h => h) (Or.inl ⟨by rfl, ?_⟩) (by assumption) ?_
              rotate_left
              · (intro wS hSw; (try dsimp only at hSw); go_simp; try (with_reducible rfl))
              try simp only [Act.put, List.setIfInBounds_toArray, List.set_cons_zero, List.set_cons_succ]
              refine RegH.takeH (i := 9) (v := ?_) rfl (by kernel_rfl) (by kernel_rfl) (by kernel_rfl) (fun _ _ _ h => h) (Or.inl ⟨by rfl, ?_⟩) (by assumption) ?_
              rotate_left
              · (intro wS hSw; (try dsimp only at hSw); go_simp; try (with_reducible rfl))
              try simp only [Act.put, List.setIfInBounds_toArray, List.set_cons_zero, List.set_cons_succ]
              refine RegH.takeH (i := 10) (v := ?_) rfl (by kernel_rfl) (by kernel_rfl) (by kernel_rfl) (fun _ _ _ h => h) (Or.inl ⟨by rfl, ?_⟩) (by assumption) ?_
              rotate_left
              · (intro wS hSw; (try dsimp only at hSw); go_simp; try (with_reducible rfl))
              try simp only [Act.put, List.setIfInBounds_toArray, List.set_cons_zero, List.set_cons_succ]
              refine RegH.takeH (i := 11) (v := ?_) rfl (by kernel_rfl) (by kernel_rfl) (by kernel_rfl) (fun _ _ _ h => h) (Or.inl ⟨by rfl, ?_⟩) (by assumption) ?_
              rotate_left
              · (intro wS hSw; (try dsimp only at hSw); go_simp; try (with_reducible rfl))
              try simp only [Act.put, List.setIfInBounds_toArray, List.set_cons_zero, List.set_cons_succ]
              refine RegH.takeH (i := 12) (v := ?_) rfl (by kernel_rfl) (by kernel_rfl) (by kernel_rfl) (fun _ _ _ h => h) (Or.inl ⟨by rfl, ?_⟩) (by assumption) ?_
              rotate_left
              · (intro wS hSw; (try dsimp only at hSw); go_simp; try (with_reducible rfl))
              try simp only [Act.put, List.setIfInBounds_toArray, List.set_cons_zero, List.set_cons_succ]
              refine RegH.takeH (i := 13) (v := ?_) rfl (by kernel_rfl) (by kernel_rfl) (by kernel_rfl) (fun _ _ _ h => h) (Or.inl ⟨by rfl, ?_⟩) (by assumption) ?_
              rotate_left
              · (intro wS hSw; (try dsimp only at hSw); go_simp; try (with_reducible rfl))
              try simp only [Act.put, List.setIfInBounds_toArray, List.set_cons_zero, List.set_cons_succ]
              refine RegH.takeH (i := 14) (v := ?_) rfl (by kernel_rfl) (by kernel_rfl) (by kernel_rfl) (fun _ _ _ h => h) (Or.inl ⟨by rfl, ?_⟩) (by assumption) ?_
              rotate_left
              · (intro wS hSw; (try dsimp only at hSw); go_simp; try (with_reducible rfl))
              try simp only [Act.put, List.setIfInBounds_toArray, List.set_cons_zero, List.set_cons_succ]
              refine RegH.takeH (i := 15) rfl (by kernel_rfl) (by kernel_rfl) (by kernel_rfl) (fun _ _ _ h => h) (Or.inr ⟨by rfl, rfl⟩) (by assumption) ?_
              try simp only [Act.put, List.setIfInBounds_toArray, List.set_cons_zero, List.set_cons_succ]
              refine RegH.takeH (i := 16) rfl (by kernel_rfl) (by kernel_rfl) (by kernel_rfl) (fun _ _ _ h => h) (Or.inr ⟨by rfl, rfl⟩) (by assumption) ?_
              try simp only [Act.put, List.setIfInBounds_toArray, List.set_cons_zero, List.set_cons_succ]
              refine RegH.takeH (i := 17) rfl (by kernel_rfl) (by kernel_rfl) (by kernel_rfl) (fun _ _ _ h => h) (Or.inr ⟨by rfl, rfl⟩) (by assumption) ?_
              try simp only [Act.put, List.setIfInBounds_toArray, List.set_cons_zero, List.set_cons_succ]
              refine RegH.takeH (i := 18) rfl (by kernel_rfl) (by kernel_rfl) (by kernel_rfl) (fun _ _ _ h => h) (Or.inr ⟨by rfl, rfl⟩) (by assumption) ?_
              try simp only [Act.put, List.setIfInBounds_toArray, List.set_cons_zero, List.set_cons_succ]
              refine RegH.takeH (i := 19) (v := ?_) rfl (by kernel_rfl) (by kernel_rfl) (by kernel_rfl) (fun _ _ _ h => h) (Or.inl ⟨by rfl, ?_⟩) (by assumption) ?_
              rotate_left
              · (intro wS hSw; (try dsimp only at hSw); go_simp; try (with_reducible rfl))
              try simp only [Act.put, List.setIfInBounds_toArray, List.set_cons_zero, List.set_cons_succ]
              refine RegH.takeH (i := 20) (v := ?_) rfl (by kernel_rfl) (by kernel_rfl) (by kernel_rfl) (fun _ _ _ h => h) (Or.inl ⟨by rfl, ?_⟩) (by assumption) ?_
              rotate_left
              · (intro wS hSw; (try dsimp only at hSw); go_simp; try (with_reducible rfl))
              try simp only [Act.put, List.setIfInBounds_toArray, List.set_cons_zero, List.set_cons_succ]
              refine RegH.takeH (i := 21) (v := ?_) rfl (by kernel_rfl) (by kernel_rfl) (by kernel_rfl) (fun _ _ _ h => h) (Or.inl ⟨by rfl, ?_⟩) (by assumption) ?_
              rotate_left
              · (intro wS hSw; (try dsimp only at hSw); go_simp; try (with_reducible rfl))
              try simp only [Act.put, List.setIfInBounds_toArray, List.set_cons_zero, List.set_cons_succ]
              refine RegH.takeH (i := 22) (v := ?_) rfl (by kernel_rfl) (by kernel_rfl) (by kernel_rfl) (fun _ _ _ h => h) (Or.inl ⟨by rfl, ?_⟩) (by assumption) ?_
              rotate_left
              · (intro wS hSw; (try dsimp only at hSw); go_simp; try (with_reducible rfl))
              try simp only [Act.put, List.setIfInBounds_toArray, List.set_cons_zero, List.set_cons_succ]
              refine RegH.takeH (i := 24) (v := ?_) rfl (by kernel_rfl) (by kernel_rfl) (by kernel_rfl) (fun _ _ _ h => h) (Or.inl ⟨by rfl, ?_⟩) (by assumption) ?_
              rotate_left
              · (intro wS hSw; (try dsimp only at hSw); go_simp; try (with_reducible rfl))
              try simp only [Act.put, List.setIfInBounds_toArray, List.set_cons_zero, List.set_cons_succ]
              refine RegH.takeH (i := 26) (v := ?_) rfl (by kernel_rfl) (by kernel_rfl) (by kernel_rfl) (fun _ _ _ h => h) (Or.inl ⟨by rfl, ?_⟩) (by assumption) ?_
              rotate_left
              · (intro wS hSw; (try dsimp only at hSw); go_simp; try (with_reducible rfl))
              try simp only [Act.put, List.setIfInBounds_toArray, List.set_cons_zero, List.set_cons_succ]
              refine RegH.takeH (i := 27) (v := ?_) rfl (by kernel_rfl) (by kernel_rfl) (by kernel_rfl) (fun _ _ _ h => h) (Or.inl ⟨by rfl, ?_⟩) (by assumption) ?_
              rotate_left
              · (intro wS hSw; (try dsimp only at hSw); go_simp; try (with_reducible rfl))
              try simp only [Act.put, List.setIfInBounds_toArray, List.set_cons_zero, List.set_cons_succ]
              refine RegH.takeH (i := 28) (v := ?_) rfl (by kernel_rfl) (by kernel_rfl) (by kernel_rfl) (fun _ _ _ h => h) (Or.inl ⟨by rfl, ?_⟩) (by assumption) ?_
              rotate_left
              · (intro wS hSw; (try dsimp only at hSw); go_simp; try (with_reducible rfl))
              try simp only [Act.put, List.setIfInBounds_toArray, List.set_cons_zero, List.set_cons_succ]
              refine RegH.consH (i := 23) rfl (by kernel_rfl) (fun K hK => ?_)
              go_simp
              go_at_call 14
              refine (HCX.out _ kq1).mono ?_
              rintro e wq2 ⟨rfl, hbq⟩
              have kq2 : LaterD W15 wq2 := below_then (show Below W15.heap.size W15 wq1 from kq1) hbq
              have n2_00 := (L3.out.later (show Below W15.heap.size W15 wq2 from kq2)).c0
              have n2_10 := (L5.out.later (show Below W15.heap.size W15 wq2 from kq2)).c0
              have n2_20 := (L11.out.later (show Below W15.heap.size W15 wq2 from kq2)).c0
              have n2_30 := (L13.out.later (show Below W15.heap.size W15 wq2 from kq2)).c0
              have n2_40 := (L4.out.later (show Below W15.heap.size W15 wq2 from kq2)).c0
              have n2_41 := (L4.out.later (show Below W15.heap.size W15 wq2 from kq2)).c1
              have n2_42 := (L4.out.later (show Below W15.heap.size W15 wq2 from kq2)).c2
              clear hbq
              go_wp2_with fail
              refine hK.out _ _ ?_ (fun hHeld => ?_)
              · (refine ⟨?_, ?_, ?_, ?_, ?_, ?_, ?_, ?_⟩ <;> first | assumption | (simp [*]; done))
              clear hK K
              try simp only [Act.put, List.setIfInBounds_toArray, List.set_cons_zero, List.set_cons_succ]
              refine RegH.consH (i := 25) rfl (by kernel_rfl) (fun K hK => ?_)
              go_simp
              go_at_call 14
              refine (HCZ.out _ kq2).mono ?_
              rintro e wq3 ⟨rfl, hbq⟩
              have kq3 : LaterD W15 wq3 := below_then (show Below W15.heap.size W15 wq2 from kq2) hbq
              have n3_00 := (L3.out.later (show Below W15.heap.size W15 wq3 from kq3)).c0
              have n3_10 := (L5.out.later (show Below W15.heap.size W15 wq3 from kq3)).c0
              have n3_20 := (L11.out.later (show Below W15.heap.size W15 wq3 from kq3)).c0
              have n3_30 := (L13.out.later (show Below W15.heap.size W15 wq3 from kq3)).c0
              have n3_40 := (L4.out.later (show Below W15.heap.size W15 wq3 from kq3)).c0
              have n3_41 := (L4.out.later (show Below W15.heap.size W15 wq3 from kq3)).c1
              have n3_42 := (L4.out.later (show Below W15.heap.size W15 wq3 from kq3)).c2
              clear hbq
              go_wp2_with fail
              refine hK.out _ _ ?_ (fun hHeld => ?_)
              · (refine ⟨?_, ?_, ?_, ?_, ?_, ?_, ?_, ?_⟩ <;> first | assumption | (simp [*]; done))
              clear hK K
              try simp only [Act.put, List.setIfInBounds_toArray, List.set_cons_zero, List.set_cons_succ]
              refine RegH.takeH (i := 29) (v := ?_) rfl (by kernel_rfl) (by kernel_rfl) (by kernel_rfl) (fun _ _ _ h => h) (Or.inl ⟨by rfl, ?_⟩) (by assumption) ?_
              rotate_left
              · (intro wS hSw; (try dsimp only at hSw); go_simp; try (with_reducible rfl))
              try simp only [Act.put, List.setIfInBounds_toArray, List.set_cons_zero, List.set_cons_succ]
              refine RegH.takeH (i := 30) (v := ?_) rfl (by kernel_rfl) (by kernel_rfl) (by kernel_rfl) (fun _ _ _ h => h) (Or.inl ⟨by rfl, ?_⟩) (by assumption) ?_
              rotate_left
              · (intro wS hSw; (try dsimp only at hSw); go_simp; try (with_reducible rfl))
              try simp only [Act.put, List.setIfInBounds_toArray, List.set_cons_zero, List.set_cons_succ]
              refine RegH.takeH (i := 31) (v := ?_) rfl (by kernel_rfl) (by kernel_rfl) (by kernel_rfl) (fun _ _ _ h => h) (Or.inl ⟨by rfl, ?_⟩) (by assumption) ?_
              rotate_left
              · (intro wS hSw; (try dsimp only at hSw); go_simp; try (with_reducible rfl))
              try simp only [Act.put, List.setIfInBounds_toArray, List.set_cons_zero, List.set_cons_succ]
              refine wpAnyH_done (by kernel_rfl) ?_ _
              have G := Lib.hid (show Below w.heap.size w wq3 ∧ Loc1 wq3 (W1.heap.size) (.slice ad Ts.length cd) ∧ tabsC.rd wq3 (· < W1.heap.size) [.slice ad Ts.length cd] Ts from ⟨below_then HB.out (show Below W15.heap.size W15 wq3 from kq3), L3.out.later (show Below W15.heap.size W15 wq3 from kq3), Cd.later HD.out (show Below W15.heap.size W15 wq3 from kq3)⟩)
              go_wp2_with fail
              go_meet
              exact ⟨rfl, G.out⟩
        case rest =>
        obtain ⟨rfl, c_HB, c_L3, c_HD⟩ := hcut
        clear HB HD HT L3 L4 HX L5 HZ L11 HW L13
        have HB := Lib.hid c_HB
        have L3 := Lib.hid c_L3
        have HD := Lib.hid c_HD
        clear c_HB c_L3 c_HD
        generalize wc = W16 at *
        go_wp2_with fail
        go_meet
        exact ⟨HB.out, L3.out, HD.out⟩
  case rest =>
  obtain ⟨c_HB, c_L3, c_HD⟩ := hcut
  clear HB HD HT L3 L4 HX L5
  have HB := Lib.hid c_HB
  have L3 := Lib.hid c_L3
  have HD := Lib.hid c_HD
  clear c_HB c_L3 c_HD
  generalize wc = W17 at *
  clear HA HRS
  have y0a := L3.out.c0
  have y0d := L3.out.lt
  go_wp2_with fail
  clear y0a y0d
  have HFM := Lib.hid (impl_fmtdb _ Ts _ W17 HD.out (HRD.out _ HB.out).1)
  have HPF := Lib.hid (par_fmtD Ts)
  have HSZ := Lib.hid (fmtD_size Ts)
  have HP := Lib.hid (fun w' (hb : Below w.heap.size w w') => (show Calls Tryz.prog 17 #[.string (fmtD Ts)] w' (DbAcc.DbAns (parL (fmtD Ts)) true w') from by
    have h := impl_parsedb (fmtD Ts) w' HSZ.out (HRD.out _ hb)
    rw [HPF.out.1] at h
    exact h))
  have HSF := Lib.hid (fun w' (hd : tabsC.rd w' (· < W1.heap.size) [.slice ad Ts.length cd] Ts) => spec_fmtdb _ Ts _ w' hd)
  have HVS := Lib.hid (fun w' (hd : tabsC.rd w' (· < W1.heap.size) [.slice ad Ts.length cd] Ts) => DbSpec.spec_dbok _ Ts _ w' hd)
  have HPB := Lib.hid HPF.out.2
  clear HPF HSZ
  generalize parL (fmtD Ts) = Y at *
  generalize fmtD Ts = fs at *
  refine (HFM.out).mono ?_
  rintro e W18 ⟨rfl, hbx⟩
  replace HB := Lib.hid (below_then HB.out hbx)
  replace HD := Lib.hid (Cd.later HD.out hbx)
  replace L3 := Lib.hid (L3.out.later hbx)
  clear hbx
  clear HFM
  go_wp2_with fail
  refine (HP.out W18 HB.out).mono ?_
  rintro e W19 ⟨uy, fy, rfl, hyo, _, hbx⟩
  replace HB := Lib.hid (below_then HB.out hbx)
  replace HD := Lib.hid (Cd.later HD.out hbx)
  replace L3 := Lib.hid (L3.out.later hbx)
  clear hbx
  clear HP
  obtain ⟨ay, cy, rfl⟩ := Cd.ow_slice (c := tabC) hyo
  have HY := Lib.hid (Cd.reads hyo)
  clear hyo
  have y0a := L3.out.c0
  have y0d := L3.out.lt
  go_wp2_with fail
  clear y0a y0d
  generalize hg : World.alloc W19 _ = W20
  obtain ⟨rg, zg, hbg⟩ := start1 W19 _ hg
  clear hg
  replace HB := Lib.hid (below_then HB.out hbg)
  replace HD := Lib.hid (Cd.later HD.out hbg)
  replace L3 := Lib.hid (L3.out.later hbg)
  replace HY := Lib.hid (Cd.later HY.out hbg)
  have L16 := Lib.hid (Loc1.of rg)
  clear hbg zg rg
  refine (HSF.out W20 HD.out).mono ?_
  rintro e W21 ⟨rfl, hbx⟩
  replace HB := Lib.hid (below_then HB.out hbx)
  replace HD := Lib.hid (Cd.later HD.out hbx)
  replace L3 := Lib.hid (L3.out.later hbx)
  replace HY := Lib.hid (Cd.later HY.out hbx)
  replace L16 := Lib.hid (L16.out.later hbx)
  clear hbx
  clear HSF
  have y0a := L3.out.c0
  have y0d := L3.out.lt
  have y1a := L16.out.c0
  have y1d := L16.out.lt
  go_wp2_with fail
  clear y0a y0d y1a y1d
  cases hdb : dbOk Ts
  case false =>
    rw [hdb] at HVS
    refine (HVS.out W21 HD.out).mono ?_
    rintro e W22 ⟨rfl, hbx⟩
    replace HB := Lib.hid (below_then HB.out hbx)
    replace HD := Lib.hid (Cd.later HD.out hbx)
    replace L3 := Lib.hid (L3.out.later hbx)
    replace HY := Lib.hid (Cd.later HY.out hbx)
    replace L16 := Lib.hid (L16.out.later hbx)
    clear hbx
    have y0a := L3.out.c0
    have y0d := L3.out.lt
    have y1a := L16.out.c0
    have y1d := L16.out.lt
    go_wp2_with fail
    clear y0a y0d y1a y1d
    go_ret
    exact ⟨rfl, HB.out⟩
  case true =>
    rw [hdb] at HVS
    refine (HVS.out W21 HD.out).mono ?_
    rintro e W23 ⟨rfl, hbx⟩
    replace HB := Lib.hid (below_then HB.out hbx)
    replace HD := Lib.hid (Cd.later HD.out hbx)
    replace L3 := Lib.hid (L3.out.later hbx)
    replace HY := Lib.hid (Cd.later HY.out hbx)
    replace L16 := Lib.hid (L16.out.later hbx)
    clear hbx
    have y0a := L3.out.c0
    have y0d := L3.out.lt
    have y1a := L16.out.c0
    have y1d := L16.out.lt
    go_wp2_with fail
    clear y0a y0d y1a y1d
    obtain rfl := HPB.out hdb
    have HE := Lib.hid (spec_eqdb _ _ _ _ _ _ W23 HY.out HD.out)
    rw [decide_eq_true rfl] at HE
    refine (HE.out).mono ?_
    rintro e W24 ⟨rfl, hbx⟩
    replace HB := Lib.hid (below_then HB.out hbx)
    replace HD := Lib.hid (Cd.later HD.out hbx)
    replace L3 := Lib.hid (L3.out.later hbx)
    replace HY := Lib.hid (Cd.later HY.out hbx)
    replace L16 := Lib.hid (L16.out.later hbx)
    clear hbx
    have y0a := L3.out.c0
    have y0d := L3.out.lt
    have y1a := L16.out.c0
    have y1d := L16.out.lt
    go_wp2_with fail
    clear y0a y0d y1a y1d
    go_ret
    exact ⟨rfl, HB.out⟩
end Go.Proofs.YteihnbnlfocgmaaGreatDoor.DbWalk
