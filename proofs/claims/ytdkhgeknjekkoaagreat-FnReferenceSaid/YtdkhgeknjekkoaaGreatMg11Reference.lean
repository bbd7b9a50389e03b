/- Texts that the proof rests on, one behind the other. -/
import Derived.Test.YtdkhgeknjekkoaaGreatMg10Reference
import Derived.Test.YtdkhgeknjekkoaaGreatMg8Reference
import Derived.Test.YtdkhgeknjekkoaaGreatTabOpen

namespace Go.Proofs.YtdkhgeknjekkoaaGreat.AnsEv
open Go Go.RowKit Byt Ints IntsLaw Cd Rows2 Tab TabSpec Exact Atom QryMath QrySpec QryImp MkAtom AnsMath SlMath TabOpen TabElem QgMath AnsSpec AnsQ DbMath DbSpec Db DbExact QryFor AnsC

set_option maxRecDepth 100000 in
set_option maxHeartbeats 3200000 in
theorem impl_true (u v : Value) (d : List T3) (n : Int) (l : List A2) (S1 S2 : Nat → Prop) (w : World) (h1 : tabsC.rd w S1 [u] d) (h2 : atomsC.rd w S2 [v] l) (hw : SlTable.wtS d ≤ 1048577) (hs : ∀ A ∈ l, A.1.size ≤ 1048576) :
    Calls Tryz.prog 21 #[.agg #[u], .agg #[.int .i64 n, v]] w fun e w' => ∃ v' fp, e = .returned v' ∧ rowC.ow w' w.heap.size [v'] (tsL d n l) fp ∧ fp.Nodup ∧ Below w.heap.size w w' := by
  obtain ⟨i0, hi, hz0, hz1, hz2⟩ := info_parts info_i64
  have HF := Lib.hid (fun w' (hb : Below w.heap.size w w') => impl_for u v d n l S1 S2 w' (Cd.later h1 hb) (Cd.later h2 hb) hw hs)
  have HFM := Lib.hid (fun w' (hb : Below w.heap.size w w') => QgImp.impl_full n v l S2 w' (Cd.later h2 hb))
  have HC := Lib.hid (fun w' (hb : Below w.heap.size w w') => QgImp.impl_cm n v l S2 w' (Cd.later h2 hb))
  have HS := Lib.hid (fun m w' (hb : Below w.heap.size w w') => impl_sub u v d n m l S1 S2 w' (Cd.later h1 hb) (Cd.later h2 hb) hw hs)
  obtain ⟨a1, cap1, rfl, _⟩ := Cd.sl_form h1
  obtain ⟨a, cap, rfl, _⟩ := Cd.sl_form h2
  clear h1 h2 hw hs
  have hfl := fm_lt n l
  go_enter Tryz.func21, Tryz.ntmps21
  go_wp2_with fail
  generalize hW : (w.alloc _).alloc _ = W
  obtain ⟨r0, r1, hz, hb0⟩ := start2g w _ _ hW
  have L1 := Lib.hid (Loc1.of r0)
  have L2 := Lib.hid (Atom.Loc2.of r1)
  have HB := Lib.hid hb0
  have HZ := Lib.hid hz
  clear hW r0 r1 hb0 hz
  refine (HF.out _ HB.out).mono ?_
  rintro e w1 ⟨rfl, hb1⟩
  have HB1 := Lib.hid (below_then HB.out hb1)
  have M1 := Lib.hid (L1.out.later hb1)
  have M2 := Lib.hid (L2.out.later hb1)
  have HS1 := Lib.hid (show w.heap.size + 2 ≤ w1.heap.size by have := HZ.out; have := hb1.size; omega)
  clear hb1 L1 L2
  cases hfo : forOk d n l
  · have HZR := Lib.hid (tsL_no hfo)
    clear hfo hi hz0 hz1 hz2
    go_wp2_with fail
    go_ret
    exact ⟨_, [], rfl, by rw [HZR.out]; exact Cd.ow_nil _ _, by simp, HB1.out⟩
  have HZR := Lib.hid (tsL_yes hfo)
  have HALL := Lib.hid (tsI_all d n l)
  have HMEM := Lib.hid (fun x (h : x ∈ cmL n l) => mem_fil.1 h)
  have HZ0 := Lib.hid (tsI_zero d n l (cmL n l))
  have HTL := Lib.hid (fun k => tsI_len d n l (cmL n l) k)
  have HCL := Lib.hid (show (cmL n l).length ≤ 17 by have := fil_len (conn (gr l)) (fm n l + 1); unfold cmL; omega)
  clear hfo
  have HTS := Lib.hid (fun (k : Nat) (t : Nat) (hk : k < (cmL n l).length) (ht : (cmL n l)[k] = (t : Int)) => tsI_succ (d := d) (n := n) (l := l) hk ht)
  generalize tsI d n l (cmL n l) = ts at *
  generalize cmL n l = c at *
  generalize fm n l = F at *
  have y0 := M2.out.c0
  have y1 := M2.out.c1
  go_wp2_with fail
  refine (HFM.out _ HB1.out).mono ?_
  rintro e w2 ⟨rfl, hb2⟩
  have HB2 := Lib.hid (below_then HB1.out hb2)
  replace M1 := Lib.hid (M1.out.later hb2)
  replace M2 := Lib.hid (M2.out.later hb2)
  have HS2 := Lib.hid (Nat.le_trans HS1.out hb2.size)
  have p0 : (F : Int) < 16 := by omega
  have p1 : (0 : Int) ≤ (F : Int) := by omega
  clear hb2 y0 y1
  go_wp2_with (at_make; refine wpList_make_full _ rfl _ _ 32 rfl (w.heap.size + 2) 3 i0 (.int .i64 0) 1 Tryz.underlying32 hi hz0 hz1 _ _ _ _ (F + 1) rfl rfl rfl rfl (by rw [hz2]; omega) (by unfold maxLen; omega) HS2.out ?_)
  intro w3 hown0 hg0
  have hown1 := OwnI.made hown0
  have hb3 : Below w2.heap.size w2 w3 := (Below.refl _ _).grown hg0 (Nat.le_refl _) (by simp)
  have HO := Lib.hid (show rowC.ow w3 (w.heap.size + 2) [.slice (some ⟨w2.heap.size, 0, none⟩) (F + 1) (F + 1)] (ts 0) [w2.heap.size] from by rw [HZ0.out]; exact Cd.ow_of_own hown1 (fun x hx => by rw [List.eq_of_mem_replicate hx]; omega))
  have HB3 := Lib.hid (below_then HB2.out hb3)
  replace M1 := Lib.hid (M1.out.later hb3)
  replace M2 := Lib.hid (M2.out.later hb3)
  have HS3 := Lib.hid (Nat.le_trans HS2.out hb3.size)
  clear hown0 hg0 hown1 hb3 hi hz0 hz1 hz2
  have y0 := M2.out.c0
  have y1 := M2.out.c1
  have HGG := Lib.hid (show w.heap.size + 2 ≤ w2.heap.size from HS2.out)
  generalize w2.heap.size = g at *
  go_wp2_with fail
  refine (HC.out _ HB3.out).mono ?_
  rintro e w4 ⟨cv, fC, rfl, hoc, hnc, hb4⟩
  obtain ⟨ac, cc, rfl⟩ := Cd.ow_slice hoc
  have HO4 := Lib.hid (Cd.ow_later HO.out hb4)
  have HFC := Lib.hid (show g ∉ fC from fun q => by
    have h1 := (rowC.ow_lt hoc g q).1
    have h2 := (rowC.ow_lt HO.out g (by simp)).2
    omega)
  have HOC := Lib.hid (rowC.ow_base hoc HS3.out)
  have HB4 := Lib.hid (below_then HB3.out hb4)
  replace M1 := Lib.hid (M1.out.later hb4)
  replace M2 := Lib.hid (M2.out.later hb4)
  clear hoc hnc hb4 y0 y1
  go_wp2_with fail
  go_loopw [19] (fun i wr => ∃ (k : Nat) (fp : List Nat), k ≤ c.length ∧ i = .int .i64 k ∧ rowC.ow wr (w.heap.size + 2) [.slice (some ⟨g, 0, none⟩) (F + 1) (F + 1)] (ts k) fp ∧ fp.Nodup ∧ rowC.ow wr (w.heap.size + 2) [.slice ac c.length cc] c fC ∧ Loc1 wr w.heap.size (.slice a1 d.length cap1) ∧ Atom.Loc2 wr (w.heap.size + 1) (.int .i64 n) (.slice a l.length cap) ∧ Below w.heap.size w wr) (fun i _ => c.length - (intOf i).toNat)
  case atStart => exact ⟨0, _, Nat.zero_le _, rfl, HO4.out, by simp, HOC.out, M1.out, M2.out, HB4.out⟩
  case round =>
    obtain ⟨k, fp, hk, rfl, how, hnd, hoc, hl1, hl2, hb⟩ := hrel
    have HOW := Lib.hid how
    have HND := Lib.hid hnd
    have HOC := Lib.hid hoc
    have HB0 := Lib.hid hb
    have HL1 := Lib.hid hl1
    have HL2 := Lib.hid hl2
    by_cases hlt : k < c.length
    · obtain ⟨bl, ol, cl', e1, _, hcl⟩ := ri_at (row_ri (rowC.ow_rd hoc)).1 hlt
      injection e1 with e1 e2 e3
      subst e1 e3
      obtain ⟨t, htF, _, ht⟩ := HMEM.out _ (List.getElem_mem hlt)
      rw [ht] at hcl
      have HTS1 := Lib.hid (HTS.out k t hlt ht)
      have hlen : (ts k).length = F + 1 := HTL.out k
      have htl : t < (ts k).length := by omega
      have HTL1 := Lib.hid htl
      obtain ⟨cu, cf, hcell, hrest⟩ := Cd.ow_at (c := Cd.int) rfl how htl
      have hfz := Cd.ow_frozen how t
      have HCE := Lib.hid (And.intro hcell hfz)
      have i1 : (0 : Int) ≤ (k : Int) := by omega
      have i2 : (k : Int) < (c.length : Int) := by omega
      have i3 : (0 : Int) ≤ (t : Int) := by omega
      have i4 : (t : Int) < (F : Int) + 1 := by omega
      have i5 : (k : Int) < 17 := by have := HCL.out; omega
      have x0 := hl1.c0
      have x1 := hl2.c0
      have x2 := hl2.c1
      have HLT := Lib.hid hlt
      have HSK := Lib.hid (HS.out (t : Int) _ HB0.out)
      have HSB := Lib.hid (sub_bd d n l (t : Int))
      clear how hnd hoc hl1 hl2 hb ht hrest hlen htl hcell hfz hlt e2
      generalize subN d n l (t : Int) = z at *
      go_wp2_with fail
      refine HSK.out.mono ?_
      rintro e w5 ⟨rfl, hb5⟩
      have c5 := (hb5.cell (World.block_lt_of_cell? wr _ HCE.out.1)).trans HCE.out.1
      have f5 := (hb5.frozen (World.block_lt_of_cell? wr _ HCE.out.1)).trans HCE.out.2
      have HO5 := Lib.hid (Cd.ow_later HOW.out hb5)
      have HC5 := Lib.hid (Cd.ow_later HOC.out hb5)
      have HL5 := Lib.hid (HL1.out.later hb5)
      have HM5 := Lib.hid (HL2.out.later hb5)
      have HB5 := Lib.hid (below_then HB0.out hb5)
      clear hb5 x0 x1 x2
      go_wp2_with fail
      obtain ⟨fp', ho6, hn6, _⟩ := Cd.ow_put (c := Cd.int) rfl HO5.out HND.out (u := .int .i64 z) (a := z) (f := []) ⟨rfl, by have := HSB.out; omega, rfl⟩ (by simp) (by simp) HTL1.out
      have HO6 := Lib.hid (show rowC.ow (w5.setCell ⟨g, t, none⟩ (.int .i64 z)) (w.heap.size + 2) [.slice (some ⟨g, 0, none⟩) (F + 1) (F + 1)] (ts (k + 1)) fp' from by rw [HTS1.out]; exact ho6)
      have HN6 := Lib.hid hn6
      clear ho6 hn6 c5 f5
      go_roundw
      case rel => exact ⟨k + 1, fp', by have := HLT.out; omega, by go_num, HO6.out, HN6.out, ow_setCell (c := rowC) HC5.out HFC.out _, HL5.out.set_far (by have := HGG.out; show g ≠ w.heap.size; omega) _, HM5.out.set_far (by have := HGG.out; show g ≠ w.heap.size + 1; omega) _, HB5.out.setCell (by have := HGG.out; show w.heap.size ≤ g; omega) _⟩
      case measure => have := HLT.out; simp [intOf]; omega
    · have ek : k = c.length := by omega
      subst ek
      have HR := Lib.hid (show rowC.ow wr w.heap.size [.slice (some ⟨g, 0, none⟩) (F + 1) (F + 1)] (tsL d n l) fp from by rw [HZR.out, ← HALL.out]; exact rowC.ow_base how (by omega))
      clear how hnd hoc hl1 hl2 hb hlt hk
      go_wp2_with fail
      go_ret
      exact ⟨_, fp, rfl, HR.out, HND.out, HB0.out⟩
end Go.Proofs.YtdkhgeknjekkoaaGreat.AnsEv

namespace Go.Proofs.YtdkhgeknjekkoaaGreat.AnsEv
open Go Go.RowKit Byt Ints IntsLaw Cd Rows2 Tab TabSpec Exact Atom QryMath QrySpec QryImp MkAtom AnsMath SlMath TabOpen TabElem QgMath AnsSpec AnsQ DbMath DbSpec Db DbExact QryFor AnsC

theorem startE {w W : World} {dv : Value} {n : Int} {qv : Value} {e3 e4 e6 : TypeId} (h : ((w.alloc (.cells #[dv] e3 (0, 0))).alloc (.cells #[.int .i64 n, qv] e4 (0, 0))).alloc (.cells #[.slice none 0 0, .slice none 0 0] e6 (0, 0)) = W) :
    Loc1 W w.heap.size dv ∧ Atom.Loc2 W (w.heap.size + 1) (.int .i64 n) qv ∧ Atom.Loc2 W (w.heap.size + 1 + 1) (.slice none 0 0) (.slice none 0 0) ∧ Below w.heap.size w W ∧ W.heap.size = w.heap.size + 3 := by
  obtain ⟨r0, r1, r2, hz, hb0⟩ := start3 w _ _ _ h
  exact ⟨Loc1.of r0, Atom.Loc2.of r1, Atom.Loc2.of r2, hb0, hz⟩

theorem cell_set2 {w : World} {k b o : Nat} {x y v : Value} (h : w.cell? ⟨b, o, none⟩ = some v) (hb : b ≠ k) : ((w.setCell ⟨k, 0, none⟩ x).setCell ⟨k, 1, none⟩ y).cell? ⟨b, o, none⟩ = some v :=
  (World.cell?_of_block (w := w) (a := ⟨b, o, none⟩) ((Below.heap_setCell (w.setCell ⟨k, 0, none⟩ x) ⟨k, 1, none⟩ y b hb).trans (Below.heap_setCell w ⟨k, 0, none⟩ x b hb))).trans h
set_option maxRecDepth 100000 in
set_option maxHeartbeats 3200000 in
theorem impl_all (u v : Value) (d : List T3) (n : Int) (l : List A2) (S1 S2 : Nat → Prop) (w : World) (h1 : tabsC.rd w S1 [u] d) (h2 : atomsC.rd w S2 [v] l) (hw : SlTable.wtS d ≤ 1048577) (hs : ∀ A ∈ l, A.1.size ≤ 1048576) :
    Calls Tryz.prog 22 #[.agg #[u], .agg #[.int .i64 n, v]] w fun e w' => EvAns (evV d n l (fm n l)) (evR d n l (fm n l)) (evOk d n l (fm n l)) w e w' := by
  have HFM := Lib.hid (fun w' (hb : Below w.heap.size w w') => QgImp.impl_full n v l S2 w' (Cd.later h2 hb))
  have HEV := Lib.hid (fun w' (hb : Below w.heap.size w w') => impl_eval u v d n (fm n l) l S1 S2 w' (Cd.later h1 hb) (Cd.later h2 hb) hw hs)
  obtain ⟨a1, cap1, rfl, _⟩ := Cd.sl_form h1
  obtain ⟨a, cap, rfl, _⟩ := Cd.sl_form h2
  clear h1 h2 hw hs
  generalize evV d n l (fm n l) = V at *
  generalize evR d n l (fm n l) = R at *
  generalize evOk d n l (fm n l) = ok at *
  generalize (fm n l : Int) = F at *
  go_enter Tryz.func22, Tryz.ntmps22
  go_upto_region 1 with fail
  generalize hW : ((w.alloc _).alloc _).alloc _ = W
  obtain ⟨l3, l4, l6, hb0, hz⟩ := startE hW
  clear hW
  have HB := Lib.hid hb0
  have HZ := Lib.hid hz
  have L6 := Lib.hid l6
  have HSQ := Lib.hid (fun wx (h : LaterQ W wx) => (show wx.cell? ⟨w.heap.size, 0, none⟩ = some (.slice a1 d.length cap1) ∧ wx.cell? ⟨w.heap.size + 1, 0, none⟩ = some (.int .i64 n) ∧ wx.cell? ⟨w.heap.size + 1, 1, none⟩ = some (.slice a l.length cap) from
    ⟨(Below.cell h (p := ⟨w.heap.size, 0, none⟩) l3.lt).trans l3.c0, (Below.cell h (p := ⟨w.heap.size + 1, 0, none⟩) l4.lt).trans l4.c0, (Below.cell h (p := ⟨w.heap.size + 1, 1, none⟩) l4.lt).trans l4.c1⟩))
  have y0 := l3.c0
  have y1 := l4.c0
  have y2 := l4.c1
  clear l3 l4 l6 hb0 hz
  have kk : LaterQ W W.drew := (Below.refl _ W).drew
  go_region_held3 (fun wx => wx.cell? ⟨w.heap.size, 0, none⟩ = some (.slice a1 d.length cap1) ∧ wx.cell? ⟨w.heap.size + 1, 0, none⟩ = some (.int .i64 n) ∧ wx.cell? ⟨w.heap.size + 1, 1, none⟩ = some (.slice a l.length cap))
    (first | exact ⟨by assumption, by assumption, by assumption⟩ | exact ⟨cell_set2 (by assumption) (by omega), cell_set2 (by assumption) (by omega), cell_set2 (by assumption) (by omega)⟩)
    (first
      | (go_at_call 45; refine (HFM.out _ (below_then HB.out (show LaterQ W _ by assumption))).mono ?_; rintro e wq ⟨rfl, hbq⟩; (have kk : LaterQ W wq := below_then (by assumption) hbq); (have hS := HSQ.out wq kk); (have k0 := hS.1); (have k1 := hS.2.1); (have k2 := hS.2.2); clear hbq hS)
      | (go_at_call 10; refine (HEV.out _ (below_then HB.out (show LaterQ W _ by assumption))).mono ?_; rintro e wp ⟨v1, v2, fp, rfl, how, hnd, hbq⟩; obtain ⟨b1, j1, b2, j2, rfl, rfl⟩ := ans_shape how; (have HOW := Lib.hid (And.intro how hnd)); (have HKQ := Lib.hid (show LaterQ W _ by assumption)); (have kk : LaterQ W wp := below_then (by assumption) hbq); (have HK := Lib.hid kk); (have hS := HSQ.out wp kk); (have k0 := hS.1); (have k1 := hS.2.1); (have k2 := hS.2.2); (have c0 := (L6.out.later kk).c0); (have c1 := (L6.out.later kk).c1); (have f0 := (L6.out.later kk).f0); (have f1 := (L6.out.later kk).f1); clear hbq hS how hnd))
  all_goals
    go_wp2_with fail
    have g := Loc2.set_both (L6.out.later HK.out) (.slice b1 V.length j1) (.slice b2 R.length j2)
    have g0 := g.c0
    have g1 := g.c1
    have hsz := HKQ.out.size
    have HNO := Lib.hid (show w.heap.size + 1 + 1 ∉ fp from fun q => by have := (ansC.ow_lt HOW.out.1 _ q).1; have := HZ.out; omega)
    have HBB := Lib.hid (below_then HB.out HK.out)
    refine bodyPost_ret (v := .tuple #[.agg #[.slice b1 V.length j1, .slice b2 R.length j2], .bool ok]) (by simp [results, Tryz.results22, go_sem, g0, g1]) rfl
      ⟨_, _, fp, rfl, ow_setCell (c := ansC) (ow_setCell (c := ansC) (ansC.ow_base HOW.out.1 (by have := HB.out.size; omega)) HNO.out _) HNO.out _, HOW.out.2, (HBB.out.setCell (by show _ ≤ w.heap.size + 1 + 1; omega) _).setCell (by show _ ≤ w.heap.size + 1 + 1; omega) _⟩
end Go.Proofs.YtdkhgeknjekkoaaGreat.AnsEv

namespace Go.Proofs.YtdkhgeknjekkoaaGreat.MkAns
open Go Go.RowKit Byt Ints IntsLaw Cd Rows2 Tab TabSpec Exact Atom AnsC

theorem set_both {w : World} {X : Nat} {a b : Value} (h : Loc2 w X a b) (x y : Value) : Loc2 ((w.setCell ⟨X, 0, none⟩ x).setCell ⟨X, 1, none⟩ y) X x y := by
  obtain ⟨h1, h2⟩ := set2 (w := w) (k := X) (x := x) (y := y) h.c0 h.c1
  exact ⟨h1, h2, by simpa using h.f0, by simpa using h.f1⟩


/-! What an argument of the laws reads as. -/
end Go.Proofs.YtdkhgeknjekkoaaGreat.MkAns
