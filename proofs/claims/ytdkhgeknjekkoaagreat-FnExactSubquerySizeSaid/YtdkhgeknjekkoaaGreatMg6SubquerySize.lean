/- Texts that the proof rests on, one behind the other. -/
import Derived.Test.YtdkhgeknjekkoaaGreatMg3SubquerySize
import Derived.Test.YtdkhgeknjekkoaaGreatMg5SubquerySize
import Derived.Test.YtdkhgeknjekkoaaGreatMg4SubquerySize
import Derived.Test.YtdkhgeknjekkoaaGreatDb
import Derived.Test.YtdkhgeknjekkoaaGreatTabOpen
import Derived.Test.YtdkhgeknjekkoaaGreatMg2SubquerySize
import Derived.Deep.DeepCutAuto
import Derived.Test.YtdkhgeknjekkoaaGreatQry

namespace Go.Proofs.YtdkhgeknjekkoaaGreat.AnsEv
open Go Go.RowKit Byt Ints IntsLaw Cd Rows2 Tab TabSpec Exact Atom QryMath QrySpec QryImp MkAtom AnsMath SlMath TabOpen TabElem QgMath AnsSpec AnsQ DbMath DbSpec Db DbExact QryFor AnsC AnsImp

theorem varsTo_stop {t L : Nat} (h : t < 2 ^ L) : ∀ d, varsTo t (L + d) = varsTo t L
  | 0 => rfl
  | d + 1 => by
    have hz : t / 2 ^ (L + d) = 0 := Nat.div_eq_of_lt (Nat.lt_of_lt_of_le h (Nat.pow_le_pow_right (by decide) (by omega)))
    rw [show L + (d + 1) = (L + d) + 1 by omega, varsTo_no (by rw [hz]; decide), varsTo_stop h d]
def atG (l : List A2) (v : Int) : A2 := l.getD v.toNat (⟨#[]⟩, [])
theorem selA_vars (l : List A2) (t : Nat) : ∀ k, k ≤ l.length → selA l t k = (varsTo t k).map (atG l)
  | 0, _ => rfl
  | k + 1, hk => by
    by_cases ht : t / 2 ^ k % 2 = 1
    · rw [selA_yes (by omega) ht, varsTo_yes ht, List.map_append, ← selA_vars l t k (by omega), List.map_singleton]
      unfold atG
      simp [show k < l.length by omega]
    · rw [selA_no ht, varsTo_no ht, selA_vars l t k (by omega)]
theorem selA_list {l : List A2} {t : Nat} (h4 : l.length ≤ 4) (ht : t < 2 ^ l.length) : selA l t l.length = (varsL t).map (atG l) := by
  rw [selA_vars l t _ (Nat.le_refl _)]
  unfold varsL
  rw [← varsTo_stop ht (4 - l.length), show l.length + (4 - l.length) = 4 by omega]
theorem vars_lt {l : List A2} {t : Nat} (h4 : l.length ≤ 4) (ht : t < 2 ^ l.length) : ∀ v ∈ varsL t, 0 ≤ v ∧ v < l.length := by
  unfold varsL
  rw [show (4 : Nat) = l.length + (4 - l.length) by omega, varsTo_stop ht]
  intro v hv
  unfold varsTo at hv
  obtain ⟨k, hk, rfl⟩ := List.mem_map.1 hv
  have := List.mem_range.1 (List.mem_filter.1 hk).1
  show 0 ≤ (k : Int) ∧ (k : Int) < _
  omega
theorem maL_nat {t : Nat} (h : t < 16) : maL (t : Int) = varsL t := by
  unfold maL
  rw [if_pos (by omega)]
  rfl

def rawsR : Cd (List (Value × Value)) := Cd.sl 80 raw2
theorem info_rel : (Tryz.prog.info? 80).map (fun i => (i.zero, i.size, i.bytes)) = some (some (.agg #[.slice none 0 0, .slice none 0 0]), 2, 48) := by kernel_rfl
/-- The relations so far: the atoms' variables where they lie, the rows in blocks that the loop leaves alone. -/
def PsI (w : World) (S : Nat → Prop) (wr : World) (d : List T3) (ps : List (Value × Value)) (al : List A2) (f1 : List Nat) : Prop :=
  ps.length = al.length ∧ ∀ i (h : i < ps.length) (h' : i < al.length), rowC.rd w S [ps[i].1] al[i].2 ∧ rowsC.rd wr (fun b => b ∉ f1) [ps[i].2] (lkT d al[i].1).2.2
theorem PsI.later {w : World} {S : Nat → Prop} {wr w' : World} {d : List T3} {ps : List (Value × Value)} {al : List A2} {f1 : List Nat} (h : PsI w S wr d ps al f1) (hb : Below wr.heap.size wr w') : PsI w S w' d ps al f1 :=
  ⟨h.1, fun i h1 h2 => ⟨(h.2 i h1 h2).1, Cd.later (h.2 i h1 h2).2 hb⟩⟩
theorem PsI.touched {w : World} {S : Nat → Prop} {wr w' : World} {d : List T3} {ps : List (Value × Value)} {al : List A2} {f1 f' : List Nat} (h : PsI w S wr d ps al f1) (ht : Cd.Touch f1 wr w') (hs : ∀ b ∈ f', b ∈ f1 ∨ wr.heap.size ≤ b) : PsI w S w' d ps al f' :=
  ⟨h.1, fun i h1 h2 => ⟨(h.2 i h1 h2).1, Cd.mono _ (Cd.touched (Cd.mono _ (h.2 i h1 h2).2 (T := fun b => b ∉ f1 ∧ b < wr.heap.size) (fun b hb hn => ⟨hn, hb⟩)) ht (fun b hb q => q.1 hb)) (fun b _ hn q => by
    rcases hs b q with r | r
    · exact hn.1 r
    · have := hn.2; omega)⟩⟩
theorem PsI.snoc {w : World} {S : Nat → Prop} {wr : World} {d : List T3} {ps : List (Value × Value)} {al : List A2} {f1 : List Nat} (h : PsI w S wr d ps al f1) {x y : Value} {A : A2} (k1 : rowC.rd w S [x] A.2) (k2 : rowsC.rd wr (fun b => b ∉ f1) [y] (lkT d A.1).2.2) : PsI w S wr d (ps ++ [(x, y)]) (al ++ [A]) f1 := by
  refine ⟨by rw [List.length_append, List.length_append, h.1]; rfl, fun i h1 h2 => ?_⟩
  by_cases hi : i < ps.length
  · have hi2 : i < al.length := by rw [← h.1]; exact hi
    rw [List.getElem_append_left hi, List.getElem_append_left hi2]
    exact h.2 i hi hi2
  · have e : i = ps.length := by rw [List.length_append] at h1; simp at h1; omega
    subst e
    have e2 : ps.length = al.length := h.1
    simp only [List.getElem_append_right (Nat.le_refl _), Nat.sub_self, List.getElem_cons_zero]
    rw [List.getElem_append_right (by omega)]
    simp only [e2, Nat.sub_self, List.getElem_cons_zero]
    exact ⟨k1, k2⟩
/-- What the program's loop keeps. -/
structure EvI (w wr : World) (dv : Value) (n : Int) (qv : Value) (ps : List (Value × Value)) (V : List Int) (o1 lv : Value) (f1 fL : List Nat) : Prop where
  c3 : Loc1 wr w.heap.size dv
  c4 : Atom.Loc2 wr (w.heap.size + 1) (.int .i64 n) qv
  c6 : Atom.Loc2 wr (w.heap.size + 1 + 1) (.slice none 0 0) (.slice none 0 0)
  t : rawsR.ow wr (w.heap.size + 3) [o1] ps f1
  tn : f1.Nodup
  a : rowC.ow wr (w.heap.size + 3) [lv] V fL
  dis : ∀ b ∈ fL, b ∉ f1
  hb : Below w.heap.size w wr
  sz : w.heap.size + 3 ≤ wr.heap.size
theorem EvI.later {w wr w' : World} {dv : Value} {n : Int} {qv : Value} {ps : List (Value × Value)} {V : List Int} {o1 lv : Value} {f1 fL : List Nat} (h : EvI w wr dv n qv ps V o1 lv f1 fL) (hb : Below wr.heap.size wr w') : EvI w w' dv n qv ps V o1 lv f1 fL :=
  ⟨h.c3.later hb, h.c4.later hb, h.c6.later hb, Cd.ow_later h.t hb, h.tn, Cd.ow_later h.a hb, h.dis, below_then h.hb hb, Nat.le_trans h.sz hb.size⟩
theorem EvI.f1_ge {w wr : World} {dv : Value} {n : Int} {qv : Value} {ps : List (Value × Value)} {V : List Int} {o1 lv : Value} {f1 fL : List Nat} (h : EvI w wr dv n qv ps V o1 lv f1 fL) : ∀ b ∈ f1, w.heap.size + 3 ≤ b ∧ b < wr.heap.size := fun b hb => rawsR.ow_lt h.t b hb
theorem EvI.put {w wA w5 : World} {dv : Value} {n : Int} {qv : Value} {ps ps' : List (Value × Value)} {V : List Int} {o1 lv o' : Value} {f1 fL f' : List Nat} (h : EvI w wA dv n qv ps V o1 lv f1 fL) (ho : rawsR.ow w5 (w.heap.size + 3) [o'] ps' f') (hn : f'.Nodup)
    (hs : ∀ b ∈ f', b ∈ f1 ∨ b ∈ ([] : List Nat) ∨ wA.heap.size ≤ b) (ht : Cd.Touch f1 wA w5) : EvI w w5 dv n qv ps' V o' lv f' fL := by
  have h1 := h.f1_ge
  refine ⟨h.c3.touched ht (fun q => by have := h1 _ q; omega), h.c4.touched ht (fun q => by have := h1 _ q; omega), h.c6.touched ht (fun q => by have := h1 _ q; omega), ho, hn, Cd.ow_touched h.a ht h.dis, fun b hb q => ?_, Cd.Touch.below h.hb ht (fun b hb => by have := h1 b hb; omega), Nat.le_trans h.sz ht.size⟩
  rcases hs b q with r | r | r
  · exact h.dis b hb r
  · cases r
  · have := (rowC.ow_lt h.a b hb).2; omega
theorem start_ev {w W : World} {dv : Value} {n : Int} {qv : Value} {e3 e4 e6 : TypeId} (h : ((w.alloc (.cells #[dv] e3 (0, 0))).alloc (.cells #[.int .i64 n, qv] e4 (0, 0))).alloc (.cells #[.slice none 0 0, .slice none 0 0] e6 (0, 0)) = W) :
    Loc1 W w.heap.size dv ∧ Atom.Loc2 W (w.heap.size + 1) (.int .i64 n) qv ∧ Atom.Loc2 W (w.heap.size + 1 + 1) (.slice none 0 0) (.slice none 0 0) ∧ Below w.heap.size w W ∧ W.heap.size = w.heap.size + 3 := by
  obtain ⟨r0, r1, r2, hz, hb0⟩ := start3 w _ _ _ h
  exact ⟨Loc1.of r0, Atom.Loc2.of r1, Atom.Loc2.of r2, hb0, hz⟩
theorem ltI_alloc (w : World) (o : Obj) : w.heap.size < (w.alloc o).heap.size := by rw [size_alloc]; exact Nat.lt_succ_self _

set_option maxRecDepth 100000 in
set_option maxHeartbeats 6400000 in
theorem impl_eval (u v : Value) (d : List T3) (n m : Int) (l : List A2) (S1 S2 : Nat → Prop) (w : World) (h1 : tabsC.rd w S1 [u] d) (h2 : atomsC.rd w S2 [v] l) (hw : SlTable.wtS d ≤ 1048577) (hs : ∀ A ∈ l, A.1.size ≤ 1048576) :
    Calls Tryz.prog 10 #[.agg #[u], .agg #[.int .i64 n, v], .int .i64 m] w fun e w' => EvAns (evV d n l m) (evR d n l m) (evOk d n l m) w e w' := by
  have HF := Lib.hid (fun w' (hb : Below w.heap.size w w') => impl_for u v d n l S1 S2 w' (Cd.later h1 hb) (Cd.later h2 hb) hw hs)
  have HFM := Lib.hid (fun w' (hb : Below w.heap.size w w') => QgImp.impl_full n v l S2 w' (Cd.later h2 hb))
  have HMV := Lib.hid (fun w' (hb : Below w.heap.size w w') => impl_maskvars n m v l S2 w' (Cd.later h2 hb))
  have HL := Lib.hid (fun nm (hnm : nm.size ≤ 1048576) w' (hb : Below w.heap.size w w') => DbImp.impl_look u d nm S1 w' (Cd.later h1 hb) hw hnm)
  have HRD := Lib.hid h2
  have HSZ := Lib.hid hs
  obtain ⟨a1, cap1, rfl, _⟩ := Cd.sl_form h1
  obtain ⟨a, cap, rfl, _⟩ := Cd.sl_form h2
  clear h1 h2 hw hs
  cases hfo : forOk d n l
  · have hno : evOk d n l m = false := by unfold evOk; rw [hfo]; rfl
    rw [(ev_no hno).1, (ev_no hno).2, hno]
    rw [hfo] at HF
    clear hfo hno
    go_enter Tryz.func10, Tryz.ntmps10
    go_wp2_with fail
    generalize hW : ((w.alloc _).alloc _).alloc _ = W
    obtain ⟨l3, l4, l6, hb0, hz⟩ := start_ev hW
    clear hW
    refine (HF.out _ hb0).mono ?_
    rintro e w1 ⟨rfl, hb1⟩
    have c0 := (l6.later hb1).c0
    have c1 := (l6.later hb1).c1
    have f0 := (l6.later hb1).f0
    have f1 := (l6.later hb1).f1
    have HB := Lib.hid (below_then hb0 hb1)
    have HK := Lib.hid (Loc2.set_both (l6.later hb1) (.slice none 0 0) (.slice none 0 0))
    clear hb0 hb1 l3 l4 l6 hz
    go_wp2_with fail
    have k0 := HK.out.c0
    have k1 := HK.out.c1
    refine bodyPost_ret (v := .tuple #[.agg #[.slice none 0 0, .slice none 0 0], .bool false]) (by simp [results, Tryz.results10, go_sem, k0, k1]) rfl (EvAns.no ((HB.out.setCell (by show _ ≤ w.heap.size + 1 + 1; omega) _).setCell (by show _ ≤ w.heap.size + 1 + 1; omega) _))
  rw [hfo] at HF
  by_cases hm1 : m < 1
  · have hno : evOk d n l m = false := by unfold evOk; rw [hfo, decide_eq_false (by omega)]; rfl
    rw [(ev_no hno).1, (ev_no hno).2, hno]
    clear hfo hno
    go_enter Tryz.func10, Tryz.ntmps10
    go_wp2_with fail
    generalize hW : ((w.alloc _).alloc _).alloc _ = W
    obtain ⟨l3, l4, l6, hb0, hz⟩ := start_ev hW
    clear hW
    refine (HF.out _ hb0).mono ?_
    rintro e w1 ⟨rfl, hb1⟩
    have c0 := (l6.later hb1).c0
    have c1 := (l6.later hb1).c1
    have f0 := (l6.later hb1).f0
    have f1 := (l6.later hb1).f1
    have HB := Lib.hid (below_then hb0 hb1)
    have HK := Lib.hid (Loc2.set_both (l6.later hb1) (.slice none 0 0) (.slice none 0 0))
    clear hb0 hb1 l3 l4 l6 hz
    go_wp2_with fail
    have k0 := HK.out.c0
    have k1 := HK.out.c1
    refine bodyPost_ret (v := .tuple #[.agg #[.slice none 0 0, .slice none 0 0], .bool false]) (by simp [results, Tryz.results10, go_sem, k0, k1]) rfl (EvAns.no ((HB.out.setCell (by show _ ≤ w.heap.size + 1 + 1; omega) _).setCell (by show _ ≤ w.heap.size + 1 + 1; omega) _))
  by_cases hm2 : (fm n l : Int) < m
  · have hno : evOk d n l m = false := by unfold evOk; rw [hfo, decide_eq_false (by omega)]; rfl
    rw [(ev_no hno).1, (ev_no hno).2, hno]
    clear hfo hno
    generalize (fm n l : Int) = F at *
    go_enter Tryz.func10, Tryz.ntmps10
    go_wp2_with fail
    generalize hW : ((w.alloc _).alloc _).alloc _ = W
    obtain ⟨l3, l4, l6, hb0, hz⟩ := start_ev hW
    clear hW
    refine (HF.out _ hb0).mono ?_
    rintro e w1 ⟨rfl, hb1⟩
    have L6 := Lib.hid (l6.later hb1)
    have y0 := (l4.later hb1).c0
    have y1 := (l4.later hb1).c1
    have HB := Lib.hid (below_then hb0 hb1)
    clear hb0 hb1 l3 l4 l6 hz
    go_wp2_with fail
    refine (HFM.out _ HB.out).mono ?_
    rintro e w2 ⟨rfl, hb2⟩
    have HB2 := Lib.hid (below_then HB.out hb2)
    have l6 := L6.out.later hb2
    have c0 := l6.c0
    have c1 := l6.c1
    have f0 := l6.f0
    have f1 := l6.f1
    have HK := Lib.hid (Loc2.set_both l6 (.slice none 0 0) (.slice none 0 0))
    clear hb2 l6 y0 y1
    go_wp2_with fail
    have k0 := HK.out.c0
    have k1 := HK.out.c1
    refine bodyPost_ret (v := .tuple #[.agg #[.slice none 0 0, .slice none 0 0], .bool false]) (by simp [results, Tryz.results10, go_sem, k0, k1]) rfl (EvAns.no ((HB2.out.setCell (by show _ ≤ w.heap.size + 1 + 1; omega) _).setCell (by show _ ≤ w.heap.size + 1 + 1; omega) _))
  have hok : evOk d n l m = true := by unfold evOk; rw [hfo, decide_eq_true (by omega)]; rfl
  obtain ⟨t, rfl, ht1, ht16, htl, hmb⟩ := evOk_mB hok
  have HOK := Lib.hid hok
  have HFO := Lib.hid hfo
  have HQP := Lib.hid (for_qp hfo)
  have HMB := Lib.hid hmb
  have HT := Lib.hid (And.intro ht16 htl)
  have HMA := Lib.hid (fun w' => QgImp.impl_maskatoms (t : Int) w')
  rw [maL_nat ht16] at HMA
  clear hfo hok ht1 htl hmb
  have HF1 := Lib.hid hm2
  generalize (fm n l : Int) = F at *
  have q1 : ¬ (t : Int) < 1 := hm1
  have q2 : ¬ F < (t : Int) := hm2
  clear hm1 hm2
  go_enter Tryz.func10, Tryz.ntmps10
  go_wp2_with fail
  generalize hW : ((w.alloc _).alloc _).alloc _ = W
  obtain ⟨l3, l4, l6, hb0, hz⟩ := start_ev hW
  clear hW
  refine (HF.out _ hb0).mono ?_
  rintro e w1 ⟨rfl, hb1⟩
  have L3 := Lib.hid (l3.later hb1)
  have L4 := Lib.hid (l4.later hb1)
  have L6 := Lib.hid (l6.later hb1)
  have HB := Lib.hid (below_then hb0 hb1)
  have HZ := Lib.hid (show w.heap.size + 3 ≤ w1.heap.size by have := hb1.size; omega)
  clear hb0 hb1 l3 l4 l6 hz
  have y0 := L4.out.c0
  have y1 := L4.out.c1
  go_wp2_with fail
  refine (HFM.out _ HB.out).mono ?_
  rintro e w2 ⟨rfl, hb2⟩
  have HB2 := Lib.hid (below_then HB.out hb2)
  have HZ2 := Lib.hid (show w.heap.size + 3 ≤ w2.heap.size by have := hb2.size; have := HZ.out; omega)
  replace L3 := Lib.hid (L3.out.later hb2)
  replace L4 := Lib.hid (L4.out.later hb2)
  replace L6 := Lib.hid (L6.out.later hb2)
  clear hb2 y0 y1
  go_wp2_with fail
  refine (HMA.out w2).mono ?_
  rintro e w3 ⟨lv, fL, rfl, hol, hnl, hb3⟩
  obtain ⟨al, cl, rfl⟩ := Cd.ow_slice hol
  have hst : EvI w w3 (.slice a1 d.length cap1) n (.slice a l.length cap) [] (varsL t) (.slice none 0 0) (.slice al (varsL t).length cl) [] fL :=
    ⟨L3.out.later hb3, L4.out.later hb3, L6.out.later hb3, Cd.ow_nil _ _, by simp, rowC.ow_base hol HZ2.out, fun _ _ q => by simp at q, below_then HB2.out hb3, Nat.le_trans HZ2.out hb3.size⟩
  have HST := Lib.hid hst
  have HVB := Lib.hid (vars_lt HQP.out.2.2.2.1 HT.out.2)
  have HV4 := Lib.hid (varsL_len t)
  have HSL := Lib.hid (selA_list HQP.out.2.2.2.1 HT.out.2)
  clear hst L3 L4 L6 HZ HZ2 HB HB2 hol hnl hb3
  generalize varsL t = V at *
  go_wp2_with fail
  go_loopw [8, 32] (fun o1 i wr => ∃ (k : Nat) (f1 : List Nat) (ps : List (Value × Value)), k ≤ V.length ∧ i = .int .i64 k ∧ EvI w wr (.slice a1 d.length cap1) n (.slice a l.length cap) ps V o1 (.slice al V.length cl) f1 fL ∧ Hid (PsI w S2 wr d ps ((V.take k).map (atG l)) f1)) (fun _ i _ => V.length - (intOf i).toNat)
  case atStart => exact ⟨0, _, [], Nat.zero_le _, rfl, HST.out, Lib.hid ⟨rfl, fun i h => by simp at h⟩⟩
  case round =>
    obtain ⟨k, f1, ps, hk, rfl, hst, hps⟩ := hrel
    obtain ⟨ao1, co1, rfl⟩ := Cd.ow_slice (c := raw2) hst.t
    have HST := Lib.hid hst
    by_cases hlt : k < V.length
    · obtain ⟨bl, ol, cl', e1, _, hcl⟩ := ri_at (row_ri (rowC.ow_rd hst.a)).1 hlt
      injection e1 with e1 e2 e3
      subst e1 e3
      have hvb := HVB.out _ (List.getElem_mem hlt)
      have y1 := hst.c4.c1
      obtain ⟨z, hz⟩ := Int.eq_ofNat_of_zero_le hvb.1
      have hzl : z < l.length := by omega
      obtain ⟨b, off, cap', us, e1, hSb, hbB, hat, hu⟩ := Cd.sl_at HRD.out hzl
      injection e1 with e1 e2 e3
      subst e1 e3
      obtain ⟨ua, rfl, hsz, hua⟩ := atom_cells hu
      obtain ⟨au, cu, rfl, _⟩ := row_form hua
      have q0 := hat 0 (by simp)
      have q1' := hat 1 (by simp)
      simp only [List.getElem_cons_zero, List.getElem_cons_succ, Nat.add_zero, show atomC.n = 2 from rfl] at q0 q1'
      have HQ := Lib.hid (And.intro q0 (And.intro q1' hbB))
      have p1 : (0 : Int) ≤ (k : Int) := by omega
      have p2 : (k : Int) < (V.length : Int) := by omega
      have p5 : (k : Int) < 4 := by have := HV4.out; omega
      have i1 : (0 : Int) ≤ (z : Int) := by omega
      have i2 : (z : Int) < (l.length : Int) := by omega
      have HLT := Lib.hid hlt
      have HTK := Lib.hid (show (V.take (k + 1)).map (atG l) = (V.take k).map (atG l) ++ [l[z]] by
        rw [List.take_succ_eq_append_getElem hlt, List.map_append, List.map_singleton, hz]
        unfold atG
        simp [hzl])
      rw [hz] at hcl
      have hft := for_tab HFO.out (List.getElem_mem hzl)
      have HSOME := Lib.hid hft.2.2
      have HNS := Lib.hid (HSZ.out _ (List.getElem_mem hzl))
      have HUA := Lib.hid hua
      have HPS := Lib.hid hps.out
      clear hu hat q0 q1' hua e2 hft hst hps hvb hz hsz hSb
      generalize l[z] = A at *
      clear hzl hlt
      generalize hTT : lkT d A.1 = T at *
      have HLK := Lib.hid (fun w' (hq : LaterQ wr w') => (show Calls Tryz.prog 47 #[.agg #[.slice a1 d.length cap1], .string A.1] w' fun e w'' => ∃ ta tc fp, e = .returned (.tuple #[.agg #[.string T.1, .int .i64 T.2.1, .slice ta T.2.2.length tc], .bool true]) ∧ rowsC.ow w'' w'.heap.size [.slice ta T.2.2.length tc] T.2.2 fp ∧ fp.Nodup ∧ Below w'.heap.size w' w'' from
        (HL.out A.1 HNS.out w' (below_then HST.out.hb hq)).mono (by
          rintro e w'' ⟨tv, fp, rfl, how, hnd, hbq⟩
          rw [hTT] at how ⊢
          rw [HSOME.out]
          obtain ⟨ta, tc, rfl⟩ := Cd.ow_slice (c := rowC) how
          exact ⟨ta, tc, fp, rfl, how, hnd, hbq⟩)))
      have HTT := Lib.hid hTT
      have hq0 := (HST.out.hb.cell (p := ⟨b, off + z * 2, none⟩) HQ.out.2.2).trans HQ.out.1
      have lb : b < wr.heap.size := Nat.lt_of_lt_of_le HQ.out.2.2 HST.out.hb.size
      have g0 := HST.out.c3.c0
      have gl0 := HST.out.c3.lt
      have gl1 := HST.out.c4.lt
      have HSQ := Lib.hid (fun wx (h : LaterQ wr wx) => (show wx.cell? ⟨w.heap.size, 0, none⟩ = some (.slice a1 d.length cap1) ∧ wx.cell? ⟨w.heap.size + 1, 1, none⟩ = some (.slice (some ⟨b, off, none⟩) l.length cap) ∧ wx.cell? ⟨b, off + z * 2, none⟩ = some (.string A.1) ∧ LaterQ wr wx from
        ⟨(Below.cell h (p := ⟨w.heap.size, 0, none⟩) gl0).trans g0, (Below.cell h (p := ⟨w.heap.size + 1, 1, none⟩) gl1).trans y1, (Below.cell h (p := ⟨b, off + z * 2, none⟩) lb).trans hq0, h⟩))
      clear hq0 lb g0 gl0 gl1 hTT y1
      go_upto_region 7 with fail
      have kk : LaterQ wr wr.drew := (Below.refl _ wr).drew
      go_cut [11, 12] (fun s11 s12 wx => s12 = .bool true ∧ MadeO wr T s11 wx)
      case first =>
        go_region_held3 (fun wx => wx.cell? ⟨w.heap.size, 0, none⟩ = some (.slice a1 d.length cap1) ∧ wx.cell? ⟨w.heap.size + 1, 1, none⟩ = some (.slice (some ⟨b, off, none⟩) l.length cap) ∧ wx.cell? ⟨b, off + z * 2, none⟩ = some (.string A.1) ∧ LaterQ wr wx)
          ((refine HSQ.out _ ?_; first | assumption | exact Below.drew (Below.refl _ wr) | exact later_alloc (by assumption) _ | exact later_drewA wr _ | exact later_set3 (by first | assumption | exact later_alloc (by assumption) _) (later_size (by first | assumption | exact Below.refl _ _))))
          (first | (go_at_call 47; refine (HLK.out _ (by first | assumption | exact later_alloc (by assumption) _ | exact later_drewA wr _)).mono ?_; rintro e wq ⟨ta, tc, fT, rfl, how, hnd, hbq⟩; (have kk : LaterQ wr wq := (show Below wr.heap.size wr wq by refine below_then (show LaterQ wr _ from ?_) hbq; first | assumption | exact later_alloc (by assumption) _ | exact later_drewA wr _)); (have HOW := Lib.hid (And.intro how hnd)); (first | (have GL := Lib.hid (GL.out.later hbq)) | (have GL := Lib.hid (locQ_new' hbq)) | (have GL := Lib.hid (locQ_new hbq)) | (have GL := Lib.hid (locQ_new3 hbq)) | skip); (first | (have x0 := GL.out.c0; have x1 := GL.out.c1; have x2 := GL.out.c2; have f0 := GL.out.f0; have f1 := GL.out.f1; have f2 := GL.out.f2) | skip); (have hS := HSQ.out wq kk); (have k0 := hS.1); (have k1 := hS.2.1); (have k2 := hS.2.2.1); clear hbq how hnd hS))
        all_goals
          go_wp2_with fail
          go_meet
          refine ⟨rfl, ?_⟩
          first
            | (have GG := GL.out; exact madeO (by assumption) (later_size (by first | assumption | exact Below.refl _ _)) GG HOW.out.1 HOW.out.2 (ltI_alloc _ _))
            | ((with_reducible refine madeO2 (by assumption) HOW.out.1 HOW.out.2 ?_); exact Nat.le_refl wr.heap.size)
      case rest =>
        obtain ⟨rfl, kp, ta, tc, fT, rfl, hkp, hl3, hoT, hnT, hlat⟩ := hcut
        have hX := HST.out.later hlat
        have HX := Lib.hid hX
        have x2 := hl3.c2
        have z1 := hX.c4.c1
        have r1 := (hX.hb.cell (p := ⟨b, off + z * 2 + 1, none⟩) HQ.out.2.2).trans HQ.out.2.1
        have hA : Below wc.heap.size wc (wc.drew.alloc (.cells #[.slice au A.2.length cu, .slice ta T.2.2.length tc] 80 (0, 0))) := (Below.drew (Below.refl _ wc)).alloc (Nat.le_refl _) _
        have HXA := Lib.hid (hX.later hA)
        have HPA := Lib.hid (PsI.later (PsI.later HPS.out hlat) hA)
        have HRW := Lib.hid (show rowsC.rd (wc.drew.alloc (.cells #[.slice au A.2.length cu, .slice ta T.2.2.length tc] 80 (0, 0))) (fun b => b ∉ f1) [.slice ta T.2.2.length tc] T.2.2 from Cd.later (Cd.mono _ (rowsC.ow_rd hoT) (fun b _ hb q => by
          have h1 := (rowsC.ow_lt hoT b hb).1
          have h2 := (HST.out.f1_ge b q).2
          omega)) hA)
        have HAT := Lib.hid (QryPar.at2 (row_alloc wc.drew (.cells #[.slice au A.2.length cu, .slice ta T.2.2.length tc] 80 (0, 0))))
        have HPL := Lib.hid (show ps.length + 1 ≤ 1000000000 by have h0 := HPS.out.1; rw [List.length_map, List.length_take] at h0; have := HV4.out; omega)
        clear hX hA hl3 hoT hnT hlat hkp kk
        generalize T.2.2.length = tn at *
        go_wp2_with fail
        go_region_law (first | (refine Cd.step_appendN (c := raw2) rfl (.tmp 47) (.tmp 57) 78 rfl (w.heap.size + 3) 80 (.agg #[.slice none 0 0, .slice none 0 0]) 2 48 rfl Tryz.underlying78 info_rel rfl (by decide) (.slice ao1 ps.length co1) ps f1 rfl HXA.out.t HXA.out.tn wc.heap.size [.slice au A.2.length cu, .slice ta tn tc] rfl HAT.out (.slice au A.2.length cu, .slice ta tn tc) [] ⟨rfl, ⟨rfl, rfl⟩, rfl⟩ (by simp) (by simp) HPL.out HXA.out.sz ?_; intro g6 cap6 w6 f6 ho6 hn6 hs6 ht6))
        all_goals
          have HY := Lib.hid (HXA.out.put ho6 hn6 (by rw [size_alloc]; simpa using hs6) ht6)
          have HP6 := Lib.hid (show PsI w S2 w6 d (ps ++ [(.slice au A.2.length cu, .slice ta tn tc)]) ((V.take (k + 1)).map (atG l)) f6 by
            rw [HTK.out]
            exact (HPA.out.snoc HUA.out (by rw [HTT.out]; exact HRW.out)).touched ht6 (fun b hb => by
              rcases hs6 b hb with q | q | q
              · exact .inl q
              · cases q
              · exact .inr (by rw [size_alloc]; simpa using q)))
          clear ho6 hn6 hs6 ht6 x2 z1 r1
          go_wp2_with fail
          go_roundw
          case rel => exact ⟨k + 1, f6, _, by have := HLT.out; omega, by go_num, HY.out, HP6⟩
          case measure => have := HLT.out; simp [intOf]; omega
    · have ek : k = V.length := by omega
      subst ek
      rw [List.take_length, ← HSL.out] at hps
      have HPS := Lib.hid hps.out
      have hfo := HFO.out
      have hcov := AnsQ.cover hfo t
      have hrin := rels_in hfo t
      have hrle := rels_le hfo t
      rw [← HMB.out] at hcov
      have HVL := Lib.hid (varsL_len (mB n l (t : Int)))
      have HVB2 := Lib.hid (varsL_bd (s := mB n l (t : Int)))
      have HRES := Lib.hid (show evV d n l (t : Int) = varsL (mB n l (t : Int)) ∧ evR d n l (t : Int) = walkL (varsL (mB n l (t : Int))) (relsQ d (selA l t l.length)) (varsL (mB n l (t : Int))).length [] by
        unfold evV evR
        rw [HOK.out]
        exact ⟨rfl, rfl⟩)
      have HJC := Lib.hid (And.intro hcov (And.intro hrin hrle))
      have y0 := hst.c4.c0
      have y1 := hst.c4.c1
      clear hps hlt hk hst hfo hcov hrin hrle
      generalize varsL (mB n l (t : Int)) = vs at *
      generalize selA l t l.length = LA at *
      go_wp2_with fail
      refine (HMV.out _ HST.out.hb).mono ?_
      rintro e w5 ⟨uv, fv, rfl, hov, hnv, hb5⟩
      obtain ⟨av, cv, rfl⟩ := Cd.ow_slice hov
      have hX := HST.out.later hb5
      have HXA := Lib.hid hX
      have HOV := Lib.hid (rowC.ow_base hov HST.out.hb.size)
      have HNV := Lib.hid hnv
      have HVG := Lib.hid (show ∀ b ∈ fv, w.heap.size + 3 ≤ b from fun b hb => Nat.le_trans HST.out.sz (rowC.ow_lt hov b hb).1)
      have hlen : ps.length = (relsQ d LA).length := by unfold relsQ; rw [List.length_map]; exact HPS.out.1
      have hrel := raw_rd (c := relC) rfl hX.t hlen (S := fun _ => True) (fun i h h' => by
        have hi : i < LA.length := by rw [← HPS.out.1]; exact h
        have e1 : (relsQ d LA)[i] = relOf (lkT d LA[i].1) LA[i] := List.getElem_map ..
        rw [e1]
        obtain ⟨k1, k2⟩ := HPS.out.2 i h hi
        exact ⟨[_], [_], rfl, Cd.mono _ (Cd.below (c := rowC) (Cd.mono _ k1 (T := (· < w.heap.size)) fun b hb _ => hb) hX.hb) fun _ _ _ => trivial, Cd.mono _ (Cd.later k2 hb5) fun _ _ _ => trivial⟩) (fun _ _ => trivial)
      have HCALL := Lib.hid (impl_join _ _ vs (relsQ d LA) _ _ w5 (rowC.ow_rd hov) hrel HJC.out.1 HJC.out.2.1 HVB2.out HVL.out HJC.out.2.2)
      clear hX hov hnv hb5 hlen hrel y0 y1
      go_wp2_with fail
      refine HCALL.out.mono ?_
      rintro e w6 ⟨rv, fr, rfl, hor, hnr, hb6⟩
      obtain ⟨ar, cr, rfl⟩ := Cd.ow_slice (c := rowC) hor
      have hY := HXA.out.later hb6
      have HY := Lib.hid hY.hb
      have HOV2 := Lib.hid (Cd.ow_later HOV.out hb6)
      have HOR := Lib.hid (rowsC.ow_base hor HXA.out.hb.size)
      have HNR := Lib.hid (show (fv ++ fr).Nodup from List.nodup_append.2 ⟨HNV.out, hnr, fun a ha b hb q => by
        have h1 := (rowC.ow_lt HOV.out a ha).2
        have h2 := (rowsC.ow_lt hor b hb).1
        omega⟩)
      have HFV := Lib.hid (show w.heap.size + 1 + 1 ∉ fv ++ fr from fun q => by
        rcases List.mem_append.1 q with q | q
        · have := HVG.out _ q; omega
        · have h2 := (rowsC.ow_lt hor _ q).1
          have h3 := HXA.out.sz
          omega)
      have c0 := hY.c6.c0
      have c1 := hY.c6.c1
      have f0 := hY.c6.f0
      have f1 := hY.c6.f1
      have HK := Lib.hid (Loc2.set_both hY.c6 (.slice av vs.length cv) (.slice ar (walkL vs (relsQ d LA) vs.length []).length cr))
      clear hY hor hnr hb6
      go_wp2_with fail
      have k0 := HK.out.c0
      have k1 := HK.out.c1
      refine bodyPost_ret (v := .tuple #[.agg #[.slice av vs.length cv, .slice ar (walkL vs (relsQ d LA) vs.length []).length cr], .bool true]) (by simp [results, Tryz.results10, go_sem, k0, k1]) rfl
        (by
          rw [HRES.out.1, HRES.out.2, HOK.out]
          exact ⟨_, _, fv ++ fr, rfl, Tab.ow_setCell (c := ansC) (Tab.ow_setCell (c := ansC) (ans_ow HOV2.out HOR.out) HFV.out _) HFV.out _, HNR.out, (HY.out.setCell (by show _ ≤ w.heap.size + 1 + 1; omega) _).setCell (by show _ ≤ w.heap.size + 1 + 1; omega) _⟩)
end Go.Proofs.YtdkhgeknjekkoaaGreat.AnsEv

namespace Go.Proofs.YtdkhgeknjekkoaaGreat.AnsEv
open Go Go.RowKit Byt Ints IntsLaw Cd Rows2 Tab TabSpec Exact Atom QryMath QrySpec QryImp MkAtom AnsMath SlMath TabOpen TabElem QgMath AnsSpec AnsQ DbMath DbSpec Db DbExact QryFor AnsC

def subN (d : List T3) (n : Int) (l : List A2) (m : Int) : Int := if evOk d n l m then ((evR d n l m).length : Int) else -1
theorem subN_no {d : List T3} {n m : Int} {l : List A2} (h : evOk d n l m = false) : subN d n l m = -1 := by unfold subN; rw [h]; rfl
theorem subN_yes {d : List T3} {n m : Int} {l : List A2} (h : evOk d n l m = true) : subN d n l m = ((evR d n l m).length : Int) := by unfold subN; rw [h]; rfl
set_option maxRecDepth 100000 in
set_option maxHeartbeats 1600000 in
theorem spec_sub (u v : Value) (d : List T3) (n m : Int) (l : List A2) (S1 S2 : Nat → Prop) (w : World) (h1 : tabsC.rd w S1 [u] d) (h2 : atomsC.rd w S2 [v] l) (hw : SlTable.wtS d ≤ 1048577) :
    Calls Tryz.prog 14 #[.agg #[u], .agg #[.int .i64 n, v], .int .i64 m] w fun e w' => e = .returned (.int .i64 (subN d n l m)) ∧ Below w.heap.size w w' := by
  have HE := Lib.hid (fun w' (hb : Below w.heap.size w w') => spec_eval u v d n m l S1 S2 w' (Cd.later h1 hb) (Cd.later h2 hb) hw)
  obtain ⟨a1, cap1, rfl, _⟩ := Cd.sl_form h1
  obtain ⟨a, cap, rfl, _⟩ := Cd.sl_form h2
  clear h1 h2 hw
  go_enter Tryz.func14, Tryz.ntmps14
  go_wp2_with fail
  have HB := Lib.hid (below_then (below_alloc w (.cells #[.slice a1 d.length cap1] 26 (0, 0))) (below_alloc _ (.cells #[.int .i64 n, .slice a l.length cap] 29 (0, 0))))
  refine (HE.out _ HB.out).mono ?_
  rintro e w1 ⟨v1, v2, fp, rfl, ho, _, hb1⟩
  obtain ⟨b1, k1, b2, k2, rfl, rfl⟩ := ans_shape ho
  have HB1 := Lib.hid (below_then HB.out hb1)
  clear ho hb1
  cases hok : evOk d n l m
  · have HZ := Lib.hid (subN_no hok)
    clear hok
    go_wp2_with fail
    go_ret
    exact ⟨ret_int HZ.out.symm, below_then HB1.out (below_alloc _ _)⟩
  · have HZ := Lib.hid (subN_yes hok)
    clear hok
    go_wp2_with fail
    go_ret
    exact ⟨ret_int HZ.out.symm, below_then HB1.out (below_alloc _ _)⟩
set_option maxRecDepth 100000 in
set_option maxHeartbeats 1600000 in
theorem impl_sub (u v : Value) (d : List T3) (n m : Int) (l : List A2) (S1 S2 : Nat → Prop) (w : World) (h1 : tabsC.rd w S1 [u] d) (h2 : atomsC.rd w S2 [v] l) (hw : SlTable.wtS d ≤ 1048577) (hs : ∀ A ∈ l, A.1.size ≤ 1048576) :
    Calls Tryz.prog 13 #[.agg #[u], .agg #[.int .i64 n, v], .int .i64 m] w fun e w' => e = .returned (.int .i64 (subN d n l m)) ∧ Below w.heap.size w w' := by
  have HE := Lib.hid (fun w' (hb : Below w.heap.size w w') => impl_eval u v d n m l S1 S2 w' (Cd.later h1 hb) (Cd.later h2 hb) hw hs)
  obtain ⟨a1, cap1, rfl, _⟩ := Cd.sl_form h1
  obtain ⟨a, cap, rfl, _⟩ := Cd.sl_form h2
  clear h1 h2 hw hs
  go_enter Tryz.func13, Tryz.ntmps13
  go_wp2_with fail
  have HB := Lib.hid (below_then (below_alloc w (.cells #[.slice a1 d.length cap1] 26 (0, 0))) (below_alloc _ (.cells #[.int .i64 n, .slice a l.length cap] 29 (0, 0))))
  refine (HE.out _ HB.out).mono ?_
  rintro e w1 ⟨v1, v2, fp, rfl, ho, _, hb1⟩
  obtain ⟨b1, k1, b2, k2, rfl, rfl⟩ := ans_shape ho
  have HB1 := Lib.hid (below_then HB.out hb1)
  clear ho hb1
  cases hok : evOk d n l m
  · have HZ := Lib.hid (subN_no hok)
    clear hok
    go_wp2_with fail
    go_ret
    exact ⟨ret_int HZ.out.symm, below_then HB1.out (below_alloc _ _)⟩
  · have HZ := Lib.hid (subN_yes hok)
    clear hok
    go_wp2_with fail
    go_ret
    exact ⟨ret_int HZ.out.symm, below_then HB1.out (below_alloc _ _)⟩
end Go.Proofs.YtdkhgeknjekkoaaGreat.AnsEv

namespace Go.Proofs.YtdkhgeknjekkoaaGreat.DbOpen
open Go Go.RowKit Byt Ints IntsLaw Cd Rows2 Fits TabOpen TabElem SlTable Db

set_option maxRecDepth 100000 in
theorem fits_tabs : Fits Tryz.prog ltabsC 54 := fits_sl Tryz.underlying54 fits_table (by kernel_rfl)
set_option maxRecDepth 100000 in
theorem fits_db : Fits Tryz.prog ltabsC 56 := fits_struct Tryz.underlying56 (fits_one fits_tabs rfl) (by kernel_rfl)
set_option maxRecDepth 100000 in
theorem open_db {H : Type} {enc : TypeId × Value → H} {W : World} {base : Nat} {v : Value} {d : DataW H} {ps : List MemPlace}
    (hval : Value.okWide Tryz.prog W .any base 56 v) (h : DataW.Trod enc Tryz.prog W 0 (fun _ => true) true 56 v d ps) :
    ∃ (u : Value) (l : List T3), v = .agg #[u] ∧ tabsC.rd W (· < W.heap.size) [u] l := by
  obtain ⟨cs, l, rfl, hT⟩ := open_st Tryz.underlying56 fits_db hval h
  have hl := ltabsC.len hT
  obtain ⟨cs⟩ := cs
  match cs, hl, hT with
  | [u], _, hT => exact ⟨u, l, rfl, hT⟩
end Go.Proofs.YtdkhgeknjekkoaaGreat.DbOpen

namespace Go.Proofs.YtdkhgeknjekkoaaGreat.WalkSubquerySize
open Go Go.RowKit Byt Ints IntsLaw Cd Rows2 Tab TabSpec Exact SlMath TabOpen TabElem Mark SlTable Db DbExact Atom MkAtom Qry
set_option maxRecDepth 100000 in
set_option maxHeartbeats 6400000 in
theorem walk (v0 : Value) (l0 : List T3) (r1 : Int) (v1 : Value) (l1 : List A2) (a2 : Int) (B0 : Int) (w : World) (hr0 : tabsC.rd w (· < w.heap.size) [v0] l0) (hr1 : atomsC.rd w (· < w.heap.size) [v1] l1)
    (HS : wtS l0 ≤ 1048576 → SlAtom.wtS l1 ≤ 1048576 → ∀ (v0 : Value) (S0 : Nat → Prop) (v1 : Value) (S1 : Nat → Prop) (w' : World), tabsC.rd w' S0 [v0] l0 → atomsC.rd w' S1 [v1] l1 → Calls Tryz.prog 14 #[.agg #[v0], .agg #[.int .i64 r1, v1], .int .i64 a2] w' fun e w'' => e = .returned (.int .i64 B0) ∧ Below w'.heap.size w' w'')
    (HI : wtS l0 ≤ 1048576 → SlAtom.wtS l1 ≤ 1048576 → ∀ (v0 : Value) (S0 : Nat → Prop) (v1 : Value) (S1 : Nat → Prop) (w' : World), tabsC.rd w' S0 [v0] l0 → atomsC.rd w' S1 [v1] l1 → Calls Tryz.prog 13 #[.agg #[v0], .agg #[.int .i64 r1, v1], .int .i64 a2] w' fun e w'' => e = .returned (.int .i64 B0) ∧ Below w'.heap.size w' w'') :
    Calls Tryz.prog 6 #[.agg #[v0], .agg #[.int .i64 r1, v1], .int .i64 a2] w fun e w' => e = .returned (.bool true) ∧ Below w.heap.size w w' := by
  have HSh := Lib.hid HS
  have HIh := Lib.hid HI
  clear HS HI
  have HR0 := Lib.hid hr0
  obtain ⟨q0, c0, rfl, hl0⟩ := Cd.sl_form hr0
  clear hr0
  have HR1 := Lib.hid hr1
  obtain ⟨q1, c1, rfl, hl1⟩ := Cd.sl_form hr1
  clear hr1
  go_enter Tryz.func6, Tryz.ntmps6
  go_wp2_with fail
  generalize hW0 : (w.alloc _).alloc _ = W0
  obtain ⟨rb0, rb1, z0, hb0⟩ := start2g w _ _ hW0
  have HB := Lib.hid hb0
  have LB0 := Lib.hid (Loc1.of rb0)
  have LB1 := Lib.hid (Loc2.of rb1)
  replace HR0 := Lib.hid (Cd.later HR0.out hb0)
  replace HR1 := Lib.hid (Cd.later HR1.out hb0)
  clear hW0 hb0 rb0 rb1
  refine (sz_db _ l0 _ 1048576 W0 HR0.out (by omega)).mono ?_
  rintro e W0z ⟨rfl, hbz0⟩
  replace HB := Lib.hid (below_then HB.out hbz0)
  replace LB0 := Lib.hid (LB0.out.later hbz0)
  replace LB1 := Lib.hid (LB1.out.later hbz0)
  replace HR0 := Lib.hid (Cd.later HR0.out hbz0)
  replace HR1 := Lib.hid (Cd.later HR1.out hbz0)
  have zz0 := hbz0.size
  clear hbz0
  by_cases hk0 : wtS l0 ≤ 1048576
  case neg =>
    rw [left_no hk0]
    clear hk0
    go_wp2_with fail
    go_ret
    exact ⟨rfl, HB.out⟩
  rw [left_yes hk0]
  have HL0 := Lib.hid hk0
  have HX0 := Lib.hid (show wtS l0 ≤ 1048576 by have := HL0.out; omega)
  have hge0 : ¬ (((1048576 - wtS l0 : Nat) : Int) < 0) := by omega
  clear hk0
  have y0a := LB1.out.c0
  have y0b := LB1.out.c1
  go_wp2_with fail
  clear y0a y0b
  refine (sz_q r1 _ l1 _ (1048576 - wtS l0) W0z HR1.out (by omega)).mono ?_
  rintro e W1z ⟨rfl, hbz1⟩
  replace HB := Lib.hid (below_then HB.out hbz1)
  replace LB0 := Lib.hid (LB0.out.later hbz1)
  replace LB1 := Lib.hid (LB1.out.later hbz1)
  replace HR0 := Lib.hid (Cd.later HR0.out hbz1)
  replace HR1 := Lib.hid (Cd.later HR1.out hbz1)
  have zz1 := hbz1.size
  clear hbz1
  by_cases hk1 : SlAtom.wtS l1 ≤ (1048576 - wtS l0)
  case neg =>
    rw [left_no hk1]
    clear hk1
    go_wp2_with fail
    go_ret
    exact ⟨rfl, HB.out⟩
  rw [left_yes hk1]
  have HL1 := Lib.hid hk1
  have HX1 := Lib.hid (show SlAtom.wtS l1 ≤ 1048576 by have := HL1.out; omega)
  have hge1 : ¬ ((((1048576 - wtS l0) - SlAtom.wtS l1 : Nat) : Int) < 0) := by omega
  clear hk1
  have HB0 := Lib.hid (show w.heap.size ≤ W1z.heap.size from HB.out.size)
  have hz0 : w.heap.size ≤ W1z.heap.size := HB.out.size
  have y0a := LB0.out.c0
  have y0d := LB0.out.lt
  have y1a := LB1.out.c0
  have y1b := LB1.out.c1
  have y1d := LB1.out.lt
  go_upto_region 8 with fail
  clear y0a y0d y1a y1b y1d
  go_cut [8] (fun s8 wx => s8 = .int .i64 B0 ∧ W1z.heap.size ≤ wx.heap.size ∧ Below w.heap.size w wx ∧ Loc1 wx (w.heap.size) (.slice q0 l0.length c0) ∧ Loc2 wx (w.heap.size + 1) (.int .i64 r1) (.slice q1 l1.length c1) ∧ tabsC.rd wx (· < w.heap.size) [.slice q0 l0.length c0] l0 ∧ atomsC.rd wx (· < w.heap.size) [.slice q1 l1.length c1] l1)
  case first =>
    have y0a := LB0.out.c0
    have y1a := LB1.out.c0
    have y1b := LB1.out.c1
    go_region_law (first | (go_simp; go_at_call_of 28 (Value.agg #[.slice q0 l0.length c0]); refine (to_db _ l0 _ W1z.drew (rd_drew HR0.out) (by have := HX0.out; omega)).mono ?_; rintro e wq0 ⟨tv0, tf0, rfl, tow, tnd, hbq⟩; (have hq := undrew hbq); (have hqz0 := hq.size); (have D0HB := Lib.hid (below_then HB.out hq)); (have D0LB0 := Lib.hid (LB0.out.later hq)); (have D0LB1 := Lib.hid (LB1.out.later hq)); (have D0HR0 := Lib.hid (Cd.later HR0.out hq)); (have D0HR1 := Lib.hid (Cd.later HR1.out hq)); (have D0O0 := Lib.hid tow); (have u01a := D0LB1.out.c0); (have u01b := D0LB1.out.c1); clear hbq hq tow tnd) | (go_simp; go_at_call_of 29 (Value.agg #[.int .i64 r1, .slice q1 l1.length c1]); refine (to_q r1 _ l1 _ wq0 D0HR1.out (by have := HX1.out; omega)).mono ?_; rintro e wq1 ⟨tv1, tf1, rfl, tow, tnd, hbq⟩; (have hq := hbq); (have hqz1 := hq.size); (have D1HB := Lib.hid (below_then D0HB.out hq)); (have D1LB0 := Lib.hid (D0LB0.out.later hq)); (have D1LB1 := Lib.hid (D0LB1.out.later hq)); (have D1HR0 := Lib.hid (Cd.later D0HR0.out hq)); (have D1HR1 := Lib.hid (Cd.later D0HR1.out hq)); (have D1O0 := Lib.hid (Cd.ow_later D0O0.out hq)); (have D1O1 := Lib.hid tow); clear hbq hq tow tnd) | (go_simp; go_at_call 14; refine (HSh.out HX0.out HX1.out _ _ _ _ wq1 (tabsC.ow_rd D1O0.out) (atomsC.ow_rd D1O1.out)).mono ?_; rintro e wp ⟨rfl, hq⟩; (have hqzz := hq.size); (have KHB := Lib.hid (below_then D1HB.out hq)); (have KLB0 := Lib.hid (D1LB0.out.later hq)); (have KLB1 := Lib.hid (D1LB1.out.later hq)); (have KHR0 := Lib.hid (Cd.later D1HR0.out hq)); (have KHR1 := Lib.hid (Cd.later D1HR1.out hq)); clear hq))
    all_goals
      go_wp2_with fail
      go_meet
      exact ⟨rfl, by omega, KHB.out, KLB0.out, KLB1.out, KHR0.out, KHR1.out⟩
  case rest =>
    obtain ⟨rfl, zW1, c_HB, c_LB0, c_LB1, c_HR0, c_HR1⟩ := hcut
    clear HB LB0 LB1 HR0 HR1
    have HB := Lib.hid c_HB
    have LB0 := Lib.hid c_LB0
    have LB1 := Lib.hid c_LB1
    have HR0 := Lib.hid c_HR0
    have HR1 := Lib.hid c_HR1
    clear c_HB c_LB0 c_LB1 c_HR0 c_HR1
    generalize wc = W1 at *
    have y0a := LB0.out.c0
    have y0d := LB0.out.lt
    go_wp2_with fail
    clear y0a y0d
    refine (to_db _ l0 _ W1 HR0.out (by have := HX0.out; omega)).mono ?_
    rintro e W2 ⟨x0_v, x0_f, rfl, x0_o, x0_n, hbx⟩
    obtain ⟨x0_a, x0_c, rfl⟩ := Cd.ow_slice (c := tabC) x0_o
    replace HB := Lib.hid (below_then HB.out hbx)
    replace LB0 := Lib.hid (LB0.out.later hbx)
    replace LB1 := Lib.hid (LB1.out.later hbx)
    replace HR0 := Lib.hid (Cd.later HR0.out hbx)
    replace HR1 := Lib.hid (Cd.later HR1.out hbx)
    have zW2 := hbx.size
    clear hbx
    have x0_O := Lib.hid x0_o
    have x0_N := Lib.hid x0_n
    have x0_B := Lib.hid (bound_of x0_o)
    clear x0_o x0_n
    have y0a := LB1.out.c0
    have y0b := LB1.out.c1
    have y0d := LB1.out.lt
    go_wp2_with fail
    clear y0a y0b y0d
    generalize hg : World.alloc W2 _ = W3
    obtain ⟨rg, zW3, hbg⟩ := start1 W2 _ hg
    clear hg
    replace HB := Lib.hid (below_then HB.out hbg)
    replace LB0 := Lib.hid (LB0.out.later hbg)
    replace LB1 := Lib.hid (LB1.out.later hbg)
    replace HR0 := Lib.hid (Cd.later HR0.out hbg)
    replace HR1 := Lib.hid (Cd.later HR1.out hbg)
    replace x0_O := Lib.hid (Cd.ow_later x0_O.out hbg)
    have Lx0 := Lib.hid (Loc1.of rg)
    clear hbg rg
    refine (to_q r1 _ l1 _ W3 HR1.out (by have := HX1.out; omega)).mono ?_
    rintro e W4 ⟨x1_v, x1_f, rfl, x1_o, x1_n, hbx⟩
    obtain ⟨x1_a, x1_c, rfl⟩ := Cd.ow_slice (c := atomC) x1_o
    replace HB := Lib.hid (below_then HB.out hbx)
    replace LB0 := Lib.hid (LB0.out.later hbx)
    replace LB1 := Lib.hid (LB1.out.later hbx)
    replace HR0 := Lib.hid (Cd.later HR0.out hbx)
    replace HR1 := Lib.hid (Cd.later HR1.out hbx)
    replace x0_O := Lib.hid (Cd.ow_later x0_O.out hbx)
    replace Lx0 := Lib.hid (Lx0.out.later hbx)
    have zW4 := hbx.size
    clear hbx
    have x1_O := Lib.hid x1_o
    have x1_N := Lib.hid x1_n
    have x1_B := Lib.hid (bound_of x1_o)
    clear x1_o x1_n
    have y0a := Lx0.out.c0
    have y0d := Lx0.out.lt
    go_wp2_with fail
    clear y0a y0d
    generalize hg : World.alloc W4 _ = W5
    obtain ⟨rg, zW5, hbg⟩ := start1 W4 _ hg
    clear hg
    replace HB := Lib.hid (below_then HB.out hbg)
    replace LB0 := Lib.hid (LB0.out.later hbg)
    replace LB1 := Lib.hid (LB1.out.later hbg)
    replace HR0 := Lib.hid (Cd.later HR0.out hbg)
    replace HR1 := Lib.hid (Cd.later HR1.out hbg)
    replace x0_O := Lib.hid (Cd.ow_later x0_O.out hbg)
    replace Lx0 := Lib.hid (Lx0.out.later hbg)
    replace x1_O := Lib.hid (Cd.ow_later x1_O.out hbg)
    have Lx1 := Lib.hid (Loc2.of rg)
    clear hbg rg
    refine (HIh.out HX0.out HX1.out _ _ _ _ W5 (tabsC.ow_rd x0_O.out) (atomsC.ow_rd x1_O.out)).mono ?_
    rintro e W6 ⟨rfl, hbx⟩
    replace HB := Lib.hid (below_then HB.out hbx)
    replace LB0 := Lib.hid (LB0.out.later hbx)
    replace LB1 := Lib.hid (LB1.out.later hbx)
    replace HR0 := Lib.hid (Cd.later HR0.out hbx)
    replace HR1 := Lib.hid (Cd.later HR1.out hbx)
    replace x0_O := Lib.hid (Cd.ow_later x0_O.out hbx)
    replace Lx0 := Lib.hid (Lx0.out.later hbx)
    replace x1_O := Lib.hid (Cd.ow_later x1_O.out hbx)
    replace Lx1 := Lib.hid (Lx1.out.later hbx)
    have zW6 := hbx.size
    clear hbx
    have y0a := Lx0.out.c0
    have y0d := Lx0.out.lt
    have y1a := LB0.out.c0
    have y1d := LB0.out.lt
    go_upto_region 14 with fail
    clear y0a y0d y1a y1d
    go_cut [43] (fun s wx => s = .bool false ∧ W6.heap.size ≤ wx.heap.size ∧ Below w.heap.size w wx ∧ Loc1 wx (w.heap.size) (.slice q0 l0.length c0) ∧ Loc2 wx (w.heap.size + 1) (.int .i64 r1) (.slice q1 l1.length c1) ∧ tabsC.rd wx (· < w.heap.size) [.slice q0 l0.length c0] l0 ∧ atomsC.rd wx (· < w.heap.size) [.slice q1 l1.length c1] l1 ∧ tabsC.ow wx (W1.heap.size) [.slice x0_a l0.length x0_c] l0 x0_f ∧ Loc1 wx (W2.heap.size) (.slice x0_a l0.length x0_c) ∧ atomsC.ow wx (W3.heap.size) [.slice x1_a l1.length x1_c] l1 x1_f ∧ Loc2 wx (W4.heap.size) (.int .i64 r1) (.slice x1_a l1.length x1_c))
    case first =>
      have HT := Lib.hid (to_db _ l0 _ W6.drew (rd_drew HR0.out) (by have := HX0.out; omega))
      have y0a := Lx0.out.c0
      have y1a := LB0.out.c0
      go_region_law (first | (go_simp; go_at_call 28; refine HT.out.mono ?_; rintro e wq ⟨tv, tf, rfl, tow, tnd, hbq⟩; (have hq := undrew hbq); (have hqz := hq.size); (have GHB := Lib.hid (below_then HB.out hq)); (have GLB0 := Lib.hid (LB0.out.later hq)); (have GLB1 := Lib.hid (LB1.out.later hq)); (have GHR0 := Lib.hid (Cd.later HR0.out hq)); (have GHR1 := Lib.hid (Cd.later HR1.out hq)); (have Gx0_O := Lib.hid (Cd.ow_later x0_O.out hq)); (have GLx0 := Lib.hid (Lx0.out.later hq)); (have Gx1_O := Lib.hid (Cd.ow_later x1_O.out hq)); (have GLx1 := Lib.hid (Lx1.out.later hq)); (have TO := Lib.hid tow); (have k0a := GLx0.out.c0); clear hbq hq tow tnd) | (go_simp; go_at_call 31; refine (eq_db _ _ l0 _ _ wq (tabsC.ow_rd Gx0_O.out) (tabsC.ow_rd TO.out)).mono ?_; rintro e wp ⟨rfl, hq2⟩; (have hqz2 := hq2.size); (have KHB := Lib.hid (below_then GHB.out hq2)); (have KLB0 := Lib.hid (GLB0.out.later hq2)); (have KLB1 := Lib.hid (GLB1.out.later hq2)); (have KHR0 := Lib.hid (Cd.later GHR0.out hq2)); (have KHR1 := Lib.hid (Cd.later GHR1.out hq2)); (have Kx0_O := Lib.hid (Cd.ow_later Gx0_O.out hq2)); (have KLx0 := Lib.hid (GLx0.out.later hq2)); (have Kx1_O := Lib.hid (Cd.ow_later Gx1_O.out hq2)); (have KLx1 := Lib.hid (GLx1.out.later hq2)); clear hq2))
      all_goals
        go_wp2_with fail
        go_meet
        exact ⟨rfl, by omega, KHB.out, KLB0.out, KLB1.out, KHR0.out, KHR1.out, Kx0_O.out, KLx0.out, Kx1_O.out, KLx1.out⟩
    case rest =>
      obtain ⟨rfl, zW7, c_HB, c_LB0, c_LB1, c_HR0, c_HR1, c_x0_O, c_Lx0, c_x1_O, c_Lx1⟩ := hcut
      clear HB LB0 LB1 HR0 HR1 x0_O Lx0 x1_O Lx1
      have HB := Lib.hid c_HB
      have LB0 := Lib.hid c_LB0
      have LB1 := Lib.hid c_LB1
      have HR0 := Lib.hid c_HR0
      have HR1 := Lib.hid c_HR1
      have x0_O := Lib.hid c_x0_O
      have Lx0 := Lib.hid c_Lx0
      have x1_O := Lib.hid c_x1_O
      have Lx1 := Lib.hid c_Lx1
      clear c_HB c_LB0 c_LB1 c_HR0 c_HR1 c_x0_O c_Lx0 c_x1_O c_Lx1
      generalize wc = W7 at *
      have y0a := Lx1.out.c0
      have y0b := Lx1.out.c1
      have y0d := Lx1.out.lt
      have y1a := LB1.out.c0
      have y1b := LB1.out.c1
      have y1d := LB1.out.lt
      go_upto_region 16 with fail
      clear y0a y0b y0d y1a y1b y1d
      go_cut [48] (fun s wx => s = .bool false ∧ W7.heap.size ≤ wx.heap.size ∧ Below w.heap.size w wx ∧ Loc1 wx (w.heap.size) (.slice q0 l0.length c0) ∧ Loc2 wx (w.heap.size + 1) (.int .i64 r1) (.slice q1 l1.length c1) ∧ tabsC.rd wx (· < w.heap.size) [.slice q0 l0.length c0] l0 ∧ atomsC.rd wx (· < w.heap.size) [.slice q1 l1.length c1] l1 ∧ tabsC.ow wx (W1.heap.size) [.slice x0_a l0.length x0_c] l0 x0_f ∧ Loc1 wx (W2.heap.size) (.slice x0_a l0.length x0_c) ∧ atomsC.ow wx (W3.heap.size) [.slice x1_a l1.length x1_c] l1 x1_f ∧ Loc2 wx (W4.heap.size) (.int .i64 r1) (.slice x1_a l1.length x1_c))
      case first =>
        have HT := Lib.hid (to_q r1 _ l1 _ W7.drew (rd_drew HR1.out) (by have := HX1.out; omega))
        have y0a := Lx1.out.c0
        have y1a := LB1.out.c0
        have y0b := Lx1.out.c1
        have y1b := LB1.out.c1
        go_region_law (first | (go_simp; go_at_call 29; refine HT.out.mono ?_; rintro e wq ⟨tv, tf, rfl, tow, tnd, hbq⟩; (have hq := undrew hbq); (have hqz := hq.size); (have GHB := Lib.hid (below_then HB.out hq)); (have GLB0 := Lib.hid (LB0.out.later hq)); (have GLB1 := Lib.hid (LB1.out.later hq)); (have GHR0 := Lib.hid (Cd.later HR0.out hq)); (have GHR1 := Lib.hid (Cd.later HR1.out hq)); (have Gx0_O := Lib.hid (Cd.ow_later x0_O.out hq)); (have GLx0 := Lib.hid (Lx0.out.later hq)); (have Gx1_O := Lib.hid (Cd.ow_later x1_O.out hq)); (have GLx1 := Lib.hid (Lx1.out.later hq)); (have TO := Lib.hid tow); (have k0a := GLx1.out.c0); (have k0b := GLx1.out.c1); clear hbq hq tow tnd) | (go_simp; go_at_call 32; refine (eq_q r1 _ _ l1 _ _ wq (atomsC.ow_rd Gx1_O.out) (atomsC.ow_rd TO.out)).mono ?_; rintro e wp ⟨rfl, hq2⟩; (have hqz2 := hq2.size); (have KHB := Lib.hid (below_then GHB.out hq2)); (have KLB0 := Lib.hid (GLB0.out.later hq2)); (have KLB1 := Lib.hid (GLB1.out.later hq2)); (have KHR0 := Lib.hid (Cd.later GHR0.out hq2)); (have KHR1 := Lib.hid (Cd.later GHR1.out hq2)); (have Kx0_O := Lib.hid (Cd.ow_later Gx0_O.out hq2)); (have KLx0 := Lib.hid (GLx0.out.later hq2)); (have Kx1_O := Lib.hid (Cd.ow_later Gx1_O.out hq2)); (have KLx1 := Lib.hid (GLx1.out.later hq2)); clear hq2))
        all_goals
          go_wp2_with fail
          go_meet
          exact ⟨rfl, by omega, KHB.out, KLB0.out, KLB1.out, KHR0.out, KHR1.out, Kx0_O.out, KLx0.out, Kx1_O.out, KLx1.out⟩
      case rest =>
        obtain ⟨rfl, zW8, c_HB, c_LB0, c_LB1, c_HR0, c_HR1, c_x0_O, c_Lx0, c_x1_O, c_Lx1⟩ := hcut
        clear HB LB0 LB1 HR0 HR1 x0_O Lx0 x1_O Lx1
        have HB := Lib.hid c_HB
        have LB0 := Lib.hid c_LB0
        have LB1 := Lib.hid c_LB1
        have HR0 := Lib.hid c_HR0
        have HR1 := Lib.hid c_HR1
        have x0_O := Lib.hid c_x0_O
        have Lx0 := Lib.hid c_Lx0
        have x1_O := Lib.hid c_x1_O
        have Lx1 := Lib.hid c_Lx1
        clear c_HB c_LB0 c_LB1 c_HR0 c_HR1 c_x0_O c_Lx0 c_x1_O c_Lx1
        generalize wc = W8 at *
        go_wp2_with fail
        go_ret
        exact ⟨rfl, HB.out⟩
end Go.Proofs.YtdkhgeknjekkoaaGreat.WalkSubquerySize
