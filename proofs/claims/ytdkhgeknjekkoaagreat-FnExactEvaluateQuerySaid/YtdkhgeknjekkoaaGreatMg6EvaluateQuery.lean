/- Texts that the proof rests on, one behind the other. -/
import Derived.Test.YtdkhgeknjekkoaaGreatMg3EvaluateQuery
import Derived.Test.YtdkhgeknjekkoaaGreatMg5EvaluateQuery
import Derived.Test.YtdkhgeknjekkoaaGreatMg4EvaluateQuery
import Derived.Test.YtdkhgeknjekkoaaGreatDb
import Derived.Test.YtdkhgeknjekkoaaGreatTabOpen

namespace Go.Proofs.YtdkhgeknjekkoaaGreat.AnsEv
open Go Go.RowKit Byt Ints IntsLaw Cd Rows2 Tab TabSpec Exact Atom QryMath QrySpec QryImp MkAtom AnsMath SlMath TabOpen TabElem QgMath AnsSpec AnsQ DbMath DbSpec Db DbExact QryFor AnsC AnsImp

theorem varsTo_stop {t L : Nat} (h : t < 2 ^ L) : ∀ d, varsTo t (L + d) = varsTo t L
  | 0 => rfl
  | d + 1 => by
    have hz : t / 2 ^ (L + d) = 0 := Nat.div_eq_of_lt (Nat.lt_of_lt_of_le h (Nat.pow_le_pow_right (by decide) (by omega)))
    rw [show L + (d + 1) = (L + d) + 1 by omega, varsTo_no (by rw [hz]; decide), varsTo_stop h d]
def atG (l : List A2) (v : Int) : A2 := l.getD v.toNat (⟨#[]⟩, [])
theorem selA_vars (l : List A2) (t : Nat) : ∀ k, k ≤ l.length → selA l t k = (varsTo t k).map (atG l)
  | 0, _ => rfl
  | k + 1, hk => by
    by_cases ht : t / 2 ^ k % 2 = 1
    · rw [selA_yes (by omega) ht, varsTo_yes ht, List.map_append, ← selA_vars l t k (by omega), List.map_singleton]
      unfold atG
      simp [show k < l.length by omega]
    · rw [selA_no ht, varsTo_no ht, selA_vars l t k (by omega)]
theorem selA_list {l : List A2} {t : Nat} (h4 : l.length ≤ 4) (ht : t < 2 ^ l.length) : selA l t l.length = (varsL t).map (atG l) := by
  rw [selA_vars l t _ (Nat.le_refl _)]
  unfold varsL
  rw [← varsTo_stop ht (4 - l.length), show l.length + (4 - l.length) = 4 by omega]
theorem vars_lt {l : List A2} {t : Nat} (h4 : l.length ≤ 4) (ht : t < 2 ^ l.length) : ∀ v ∈ varsL t, 0 ≤ v ∧ v < l.length := by
  unfold varsL
  rw [show (4 : Nat) = l.length + (4 - l.length) by omega, varsTo_stop ht]
  intro v hv
  unfold varsTo at hv
  obtain ⟨k, hk, rfl⟩ := List.mem_map.1 hv
  have := List.mem_range.1 (List.mem_filter.1 hk).1
  show 0 ≤ (k : Int) ∧ (k : Int) < _
  omega
theorem maL_nat {t : Nat} (h : t < 16) : maL (t : Int) = varsL t := by
  unfold maL
  rw [if_pos (by omega)]
  rfl

def rawsR : Cd (List (Value × Value)) := Cd.sl 80 raw2
theorem info_rel : (Tryz.prog.info? 80).map (fun i => (i.zero, i.size, i.bytes)) = some (some (.agg #[.slice none 0 0, .slice none 0 0]), 2, 48) := by kernel_rfl
/-- The relations so far: the atoms' variables where they lie, the rows in blocks that the loop leaves alone. -/
def PsI (w : World) (S : Nat → Prop) (wr : World) (d : List T3) (ps : List (Value × Value)) (al : List A2) (f1 : List Nat) : Prop :=
  ps.length = al.length ∧ ∀ i (h : i < ps.length) (h' : i < al.length), rowC.rd w S [ps[i].1] al[i].2 ∧ rowsC.rd wr (fun b => b ∉ f1) [ps[i].2] (lkT d al[i].1).2.2
theorem PsI.later {w : World} {S : Nat → Prop} {wr w' : World} {d : List T3} {ps : List (Value × Value)} {al : List A2} {f1 : List Nat} (h : PsI w S wr d ps al f1) (hb : Below wr.heap.size wr w') : PsI w S w' d ps al f1 :=
  ⟨h.1, fun i h1 h2 => ⟨(h.2 i h1 h2).1, Cd.later (h.2 i h1 h2).2 hb⟩⟩
theorem PsI.touched {w : World} {S : Nat → Prop} {wr w' : World} {d : List T3} {ps : List (Value × Value)} {al : List A2} {f1 f' : List Nat} (h : PsI w S wr d ps al f1) (ht : Cd.Touch f1 wr w') (hs : ∀ b ∈ f', b ∈ f1 ∨ wr.heap.size ≤ b) : PsI w S w' d ps al f' :=
  ⟨h.1, fun i h1 h2 => ⟨(h.2 i h1 h2).1, Cd.mono _ (Cd.touched (Cd.mono _ (h.2 i h1 h2).2 (T := fun b => b ∉ f1 ∧ b < wr.heap.size) (fun b hb hn => ⟨hn, hb⟩)) ht (fun b hb q => q.1 hb)) (fun b _ hn q => by
    rcases hs b q with r | r
    · exact hn.1 r
    · have := hn.2; omega)⟩⟩
theorem PsI.snoc {w : World} {S : Nat → Prop} {wr : World} {d : List T3} {ps : List (Value × Value)} {al : List A2} {f1 : List Nat} (h : PsI w S wr d ps al f1) {x y : Value} {A : A2} (k1 : rowC.rd w S [x] A.2) (k2 : rowsC.rd wr (fun b => b ∉ f1) [y] (lkT d A.1).2.2) : PsI w S wr d (ps ++ [(x, y)]) (al ++ [A]) f1 := by
  refine ⟨by rw [List.length_append, List.length_append, h.1]; rfl, fun i h1 h2 => ?_⟩
  by_cases hi : i < ps.length
  · have hi2 : i < al.length := by rw [← h.1]; exact hi
    rw [List.getElem_append_left hi, List.getElem_append_left hi2]
    exact h.2 i hi hi2
  · have e : i = ps.length := by rw [List.length_append] at h1; simp at h1; omega
    subst e
    have e2 : ps.length = al.length := h.1
    simp only [List.getElem_append_right (Nat.le_refl _), Nat.sub_self, List.getElem_cons_zero]
    rw [List.getElem_append_right (by omega)]
    simp only [e2, Nat.sub_self, List.getElem_cons_zero]
    exact ⟨k1, k2⟩
/-- What the program's loop keeps. -/
structure EvI (w wr : World) (dv : Value) (n : Int) (qv : Value) (ps : List (Value × Value)) (V : List Int) (o1 lv : Value) (f1 fL : List Nat) : Prop where
  c3 : Loc1 wr w.heap.size dv
  c4 : Atom.Loc2 wr (w.heap.size + 1) (.int .i64 n) qv
  c6 : Atom.Loc2 wr (w.heap.size + 1 + 1) (.slice none 0 0) (.slice none 0 0)
  t : rawsR.ow wr (w.heap.size + 3) [o1] ps f1
  tn : f1.Nodup
  a : rowC.ow wr (w.heap.size + 3) [lv] V fL
  dis : ∀ b ∈ fL, b ∉ f1
  hb : Below w.heap.size w wr
  sz : w.heap.size + 3 ≤ wr.heap.size
theorem EvI.later {w wr w' : World} {dv : Value} {n : Int} {qv : Value} {ps : List (Value × Value)} {V : List Int} {o1 lv : Value} {f1 fL : List Nat} (h : EvI w wr dv n qv ps V o1 lv f1 fL) (hb : Below wr.heap.size wr w') : EvI w w' dv n qv ps V o1 lv f1 fL :=
  ⟨h.c3.later hb, h.c4.later hb, h.c6.later hb, Cd.ow_later h.t hb, h.tn, Cd.ow_later h.a hb, h.dis, below_then h.hb hb, Nat.le_trans h.sz hb.size⟩
theorem EvI.f1_ge {w wr : World} {dv : Value} {n : Int} {qv : Value} {ps : List (Value × Value)} {V : List Int} {o1 lv : Value} {f1 fL : List Nat} (h : EvI w wr dv n qv ps V o1 lv f1 fL) : ∀ b ∈ f1, w.heap.size + 3 ≤ b ∧ b < wr.heap.size := fun b hb => rawsR.ow_lt h.t b hb
theorem EvI.put {w wA w5 : World} {dv : Value} {n : Int} {qv : Value} {ps ps' : List (Value × Value)} {V : List Int} {o1 lv o' : Value} {f1 fL f' : List Nat} (h : EvI w wA dv n qv ps V o1 lv f1 fL) (ho : rawsR.ow w5 (w.heap.size + 3) [o'] ps' f') (hn : f'.Nodup)
    (hs : ∀ b ∈ f', b ∈ f1 ∨ b ∈ ([] : List Nat) ∨ wA.heap.size ≤ b) (ht : Cd.Touch f1 wA w5) : EvI w w5 dv n qv ps' V o' lv f' fL := by
  have h1 := h.f1_ge
  refine ⟨h.c3.touched ht (fun q => by have := h1 _ q; omega), h.c4.touched ht (fun q => by have := h1 _ q; omega), h.c6.touched ht (fun q => by have := h1 _ q; omega), ho, hn, Cd.ow_touched h.a ht h.dis, fun b hb q => ?_, Cd.Touch.below h.hb ht (fun b hb => by have := h1 b hb; omega), Nat.le_trans h.sz ht.size⟩
  rcases hs b q with r | r | r
  · exact h.dis b hb r
  · cases r
  · have := (rowC.ow_lt h.a b hb).2; omega
theorem start_ev {w W : World} {dv : Value} {n : Int} {qv : Value} {e3 e4 e6 : TypeId} (h : ((w.alloc (.cells #[dv] e3 (0, 0))).alloc (.cells #[.int .i64 n, qv] e4 (0, 0))).alloc (.cells #[.slice none 0 0, .slice none 0 0] e6 (0, 0)) = W) :
    Loc1 W w.heap.size dv ∧ Atom.Loc2 W (w.heap.size + 1) (.int .i64 n) qv ∧ Atom.Loc2 W (w.heap.size + 1 + 1) (.slice none 0 0) (.slice none 0 0) ∧ Below w.heap.size w W ∧ W.heap.size = w.heap.size + 3 := by
  obtain ⟨r0, r1, r2, hz, hb0⟩ := start3 w _ _ _ h
  exact ⟨Loc1.of r0, Atom.Loc2.of r1, Atom.Loc2.of r2, hb0, hz⟩
theorem ltI_alloc (w : World) (o : Obj) : w.heap.size < (w.alloc o).heap.size := by rw [size_alloc]; exact Nat.lt_succ_self _

set_option maxRecDepth 100000 in
set_option maxHeartbeats 6400000 in
theorem impl_eval (u v : Value) (d : List T3) (n m : Int) (l : List A2) (S1 S2 : Nat → Prop) (w : World) (h1 : tabsC.rd w S1 [u] d) (h2 : atomsC.rd w S2 [v] l) (hw : SlTable.wtS d ≤ 1048577) (hs : ∀ A ∈ l, A.1.size ≤ 1048576) :
    Calls Tryz.prog 10 #[.agg #[u], .agg #[.int .i64 n, v], .int .i64 m] w fun e w' => EvAns (evV d n l m) (evR d n l m) (evOk d n l m) w e w' := by
  have HF := Lib.hid (fun w' (hb : Below w.heap.size w w') => impl_for u v d n l S1 S2 w' (Cd.later h1 hb) (Cd.later h2 hb) hw hs)
  have HFM := Lib.hid (fun w' (hb : Below w.heap.size w w') => QgImp.impl_full n v l S2 w' (Cd.later h2 hb))
  have HMV := Lib.hid (fun w' (hb : Below w.heap.size w w') => impl_maskvars n m v l S2 w' (Cd.later h2 hb))
  have HL := Lib.hid (fun nm (hnm : nm.size ≤ 1048576) w' (hb : Below w.heap.size w w') => DbImp.impl_look u d nm S1 w' (Cd.later h1 hb) hw hnm)
  have HRD := Lib.hid h2
  have HSZ := Lib.hid hs
  obtain ⟨a1, cap1, rfl, _⟩ := Cd.sl_form h1
  obtain ⟨a, cap, rfl, _⟩ := Cd.sl_form h2
  clear h1 h2 hw hs
  cases hfo : forOk d n l
  · have hno : evOk d n l m = false := by unfold evOk; rw [hfo]; rfl
    rw [(ev_no hno).1, (ev_no hno).2, hno]
    rw [hfo] at HF
    clear hfo hno
    go_enter Tryz.func10, Tryz.ntmps10
    go_wp2_with fail
    generalize hW : ((w.alloc _).alloc _).alloc _ = W
    obtain ⟨l3, l4, l6, hb0, hz⟩ := start_ev hW
    clear hW
    refine (HF.out _ hb0).mono ?_
    rintro e w1 ⟨rfl, hb1⟩
    have c0 := (l6.later hb1).c0
    have c1 := (l6.later hb1).c1
    have f0 := (l6.later hb1).f0
    have f1 := (l6.later hb1).f1
    have HB := Lib.hid (below_then hb0 hb1)
    have HK := Lib.hid (Loc2.set_both (l6.later hb1) (.slice none 0 0) (.slice none 0 0))
    clear hb0 hb1 l3 l4 l6 hz
    go_wp2_with fail
    have k0 := HK.out.c0
    have k1 := HK.out.c1
    refine bodyPost_ret (v := .tuple #[.agg #[.slice none 0 0, .slice none 0 0], .bool false]) (by simp [results, Tryz.results10, go_sem, k0, k1]) rfl (EvAns.no ((HB.out.setCell (by show _ ≤ w.heap.size + 1 + 1; omega) _).setCell (by show _ ≤ w.heap.size + 1 + 1; omega) _))
  rw [hfo] at HF
  by_cases hm1 : m < 1
  · have hno : evOk d n l m = false := by unfold evOk; rw [hfo, decide_eq_false (by omega)]; rfl
    rw [(ev_no hno).1, (ev_no hno).2, hno]
    clear hfo hno
    go_enter Tryz.func10, Tryz.ntmps10
    go_wp2_with fail
    generalize hW : ((w.alloc _).alloc _).alloc _ = W
    obtain ⟨l3, l4, l6, hb0, hz⟩ := start_ev hW
    clear hW
    refine (HF.out _ hb0).mono ?_
    rintro e w1 ⟨rfl, hb1⟩
    have c0 := (l6.later hb1).c0
    have c1 := (l6.later hb1).c1
    have f0 := (l6.later hb1).f0
    have f1 := (l6.later hb1).f1
    have HB := Lib.hid (below_then hb0 hb1)
    have HK := Lib.hid (Loc2.set_both (l6.later hb1) (.slice none 0 0) (.slice none 0 0))
    clear hb0 hb1 l3 l4 l6 hz
    go_wp2_with fail
    have k0 := HK.out.c0
    have k1 := HK.out.c1
    refine bodyPost_ret (v := .tuple #[.agg #[.slice none 0 0, .slice none 0 0], .bool false]) (by simp [results, Tryz.results10, go_sem, k0, k1]) rfl (EvAns.no ((HB.out.setCell (by show _ ≤ w.heap.size + 1 + 1; omega) _).setCell (by show _ ≤ w.heap.size + 1 + 1; omega) _))
  by_cases hm2 : (fm n l : Int) < m
  · have hno : evOk d n l m = false := by unfold evOk; rw [hfo, decide_eq_false (by omega)]; rfl
    rw [(ev_no hno).1, (ev_no hno).2, hno]
    clear hfo hno
    generalize (fm n l : Int) = F at *
    go_enter Tryz.func10, Tryz.ntmps10
    go_wp2_with fail
    generalize hW : ((w.alloc _).alloc _).alloc _ = W
    obtain ⟨l3, l4, l6, hb0, hz⟩ := start_ev hW
    clear hW
    refine (HF.out _ hb0).mono ?_
    rintro e w1 ⟨rfl, hb1⟩
    have L6 := Lib.hid (l6.later hb1)
    have y0 := (l4.later hb1).c0
    have y1 := (l4.later hb1).c1
    have HB := Lib.hid (below_then hb0 hb1)
    clear hb0 hb1 l3 l4 l6 hz
    go_wp2_with fail
    refine (HFM.out _ HB.out).mono ?_
    rintro e w2 ⟨rfl, hb2⟩
    have HB2 := Lib.hid (below_then HB.out hb2)
    have l6 := L6.out.later hb2
    have c0 := l6.c0
    have c1 := l6.c1
    have f0 := l6.f0
    have f1 := l6.f1
    have HK := Lib.hid (Loc2.set_both l6 (.slice none 0 0) (.slice none 0 0))
    clear hb2 l6 y0 y1
    go_wp2_with fail
    have k0 := HK.out.c0
    have k1 := HK.out.c1
    refine bodyPost_ret (v := .tuple #[.agg #[.slice none 0 0, .slice none 0 0], .bool false]) (by simp [results, Tryz.results10, go_sem, k0, k1]) rfl (EvAns.no ((HB2.out.setCell (by show _ ≤ w.heap.size + 1 + 1; omega) _).setCell (by show _ ≤ w.heap.size + 1 + 1; omega) _))
  have hok : evOk d n l m = true := by unfold evOk; rw [hfo, decide_eq_true (by omega)]; rfl
  obtain ⟨t, rfl, ht1, ht16, htl, hmb⟩ := evOk_mB hok
  have HOK := Lib.hid hok
  have HFO := Lib.hid hfo
  have HQP := Lib.hid (for_qp hfo)
  have HMB := Lib.hid hmb
  have HT := Lib.hid (And.intro ht16 htl)
  have HMA := Lib.hid (fun w' => QgImp.impl_maskatoms (t : Int) w')
  rw [maL_nat ht16] at HMA
  clear hfo hok ht1 htl hmb
  have HF1 := Lib.hid hm2
  generalize (fm n l : Int) = F at *
  have q1 : ¬ (t : Int) < 1 := hm1
  have q2 : ¬ F < (t : Int) := hm2
  clear hm1 hm2
  go_enter Tryz.func10, Tryz.ntmps10
  go_wp2_with fail
  generalize hW : ((w.alloc _).alloc _).alloc _ = W
  obtain ⟨l3, l4, l6, hb0, hz⟩ := start_ev hW
  clear hW
  refine (HF.out _ hb0).mono ?_
  rintro e w1 ⟨rfl, hb1⟩
  have L3 := Lib.hid (l3.later hb1)
  have L4 := Lib.hid (l4.later hb1)
  have L6 := Lib.hid (l6.later hb1)
  have HB := Lib.hid (below_then hb0 hb1)
  have HZ := Lib.hid (show w.heap.size + 3 ≤ w1.heap.size by have := hb1.size; omega)
  clear hb0 hb1 l3 l4 l6 hz
  have y0 := L4.out.c0
  have y1 := L4.out.c1
  go_wp2_with fail
  refine (HFM.out _ HB.out).mono ?_
  rintro e w2 ⟨rfl, hb2⟩
  have HB2 := Lib.hid (below_then HB.out hb2)
  have HZ2 := Lib.hid (show w.heap.size + 3 ≤ w2.heap.size by have := hb2.size; have := HZ.out; omega)
  replace L3 := Lib.hid (L3.out.later hb2)
  replace L4 := Lib.hid (L4.out.later hb2)
  replace L6 := Lib.hid (L6.out.later hb2)
  clear hb2 y0 y1
  go_wp2_with fail
  refine (HMA.out w2).mono ?_
  rintro e w3 ⟨lv, fL, rfl, hol, hnl, hb3⟩
  obtain ⟨al, cl, rfl⟩ := Cd.ow_slice hol
  have hst : EvI w w3 (.slice a1 d.length cap1) n (.slice a l.length cap) [] (varsL t) (.slice none 0 0) (.slice al (varsL t).length cl) [] fL :=
    ⟨L3.out.later hb3, L4.out.later hb3, L6.out.later hb3, Cd.ow_nil _ _, by simp, rowC.ow_base hol HZ2.out, fun _ _ q => by simp at q, below_then HB2.out hb3, Nat.le_trans HZ2.out hb3.size⟩
  have HST := Lib.hid hst
  have HVB := Lib.hid (vars_lt HQP.out.2.2.2.1 HT.out.2)
  have HV4 := Lib.hid (varsL_len t)
  have HSL := Lib.hid (selA_list HQP.out.2.2.2.1 HT.out.2)
  clear hst L3 L4 L6 HZ HZ2 HB HB2 hol hnl hb3
  generalize varsL t = V at *
  go_wp2_with fail
  go_loopw [8, 32] (fun o1 i wr => ∃ (k : Nat) (f1 : List Nat) (ps : List (Value × Value)), k ≤ V.length ∧ i = .int .i64 k ∧ EvI w wr (.slice a1 d.length cap1) n (.slice a l.length cap) ps V o1 (.slice al V.length cl) f1 fL ∧ Hid (PsI w S2 wr d ps ((V.take k).map (atG l)) f1)) (fun _ i _ => V.length - (intOf i).toNat)
  case atStart => exact ⟨0, _, [], Nat.zero_le _, rfl, HST.out, Lib.hid ⟨rfl, fun i h => by simp at h⟩⟩
  case round =>
    obtain ⟨k, f1, ps, hk, rfl, hst, hps⟩ := hrel
    obtain ⟨ao1, co1, rfl⟩ := Cd.ow_slice (c := raw2) hst.t
    have HST := Lib.hid hst
    by_cases hlt : k < V.length
    · obtain ⟨bl, ol, cl', e1, _, hcl⟩ := ri_at (row_ri (rowC.ow_rd hst.a)).1 hlt
      injection e1 with e1 e2 e3
      subst e1 e3
      have hvb := HVB.out _ (List.getElem_mem hlt)
      have y1 := hst.c4.c1
      obtain ⟨z, hz⟩ := Int.eq_ofNat_of_zero_le hvb.1
      have hzl : z < l.length := by omega
      obtain ⟨b, off, cap', us, e1, hSb, hbB, hat, hu⟩ := Cd.sl_at HRD.out hzl
      injection e1 with e1 e2 e3
      subst e1 e3
      obtain ⟨ua, rfl, hsz, hua⟩ := atom_cells hu
      obtain ⟨au, cu, rfl, _⟩ := row_form hua
      have q0 := hat 0 (by simp)
      have q1' := hat 1 (by simp)
      simp only [List.getElem_cons_zero, List.getElem_cons_succ, Nat.add_zero, show atomC.n = 2 from rfl] at q0 q1'
      have HQ := Lib.hid (And.intro q0 (And.intro q1' hbB))
      have p1 : (0 : Int) ≤ (k : Int) := by omega
      have p2 : (k : Int) < (V.length : Int) := by omega
      have p5 : (k : Int) < 4 := by have := HV4.out; omega
      have i1 : (0 : Int) ≤ (z : Int) := by omega
      have i2 : (z : Int) < (l.length : Int) := by omega
      have HLT := Lib.hid hlt
      have HTK := Lib.hid (show (V.take (k + 1)).map (atG l) = (V.take k).map (atG l) ++ [l[z]] by
        rw [List.take_succ_eq_append_getElem hlt, List.map_append, List.map_singleton, hz]
        unfold atG
        simp [hzl])
      rw [hz] at hcl
      have hft := for_tab HFO.out (List.getElem_mem hzl)
      have HSOME := Lib.hid hft.2.2
      have HNS := Lib.hid (HSZ.out _ (List.getElem_mem hzl))
      have HUA := Lib.hid hua
      have HPS := Lib.hid hps.out
      clear hu hat q0 q1' hua e2 hft hst hps hvb hz hsz hSb
      generalize l[z] = A at *
      clear hzl hlt
      generalize hTT : lkT d A.1 = T at *
      have HLK := Lib.hid (fun w' (hq : LaterQ wr w') => (show Calls Tryz.prog 47 #[.agg #[.slice a1 d.length cap1], .string A.1] w' fun e w'' => ∃ ta tc fp, e = .returned (.tuple #[.agg #[.string T.1, .int .i64 T.2.1, .slice ta T.2.2.length tc], .bool true]) ∧ rowsC.ow w'' w'.heap.size [.slice ta T.2.2.length tc] T.2.2 fp ∧ fp.Nodup ∧ Below w'.heap.size w' w'' from
        (HL.out A.1 HNS.out w' (below_then HST.out.hb hq)).mono (by
          rintro e w'' ⟨tv, fp, rfl, how, hnd, hbq⟩
          rw [hTT] at how ⊢
          rw [HSOME.out]
          obtain ⟨ta, tc, rfl⟩ := Cd.ow_slice (c := rowC) how
          exact ⟨ta, tc, fp, rfl, how, hnd, hbq⟩)))
      have HTT := Lib.hid hTT
      have hq0 := (HST.out.hb.cell (p := ⟨b, off + z * 2, none⟩) HQ.out.2.2).trans HQ.out.1
      have lb : b < wr.heap.size := Nat.lt_of_lt_of_le HQ.out.2.2 HST.out.hb.size
      have g0 := HST.out.c3.c0
      have gl0 := HST.out.c3.lt
      have gl1 := HST.out.c4.lt
      have HSQ := Lib.hid (fun wx (h : LaterQ wr wx) => (show wx.cell? ⟨w.heap.size, 0, none⟩ = some (.slice a1 d.length cap1) ∧ wx.cell? ⟨w.heap.size + 1, 1, none⟩ = some (.slice (some ⟨b, off, none⟩) l.length cap) ∧ wx.cell? ⟨b, off + z * 2, none⟩ = some (.string A.1) ∧ LaterQ wr wx from
        ⟨(Below.cell h (p := ⟨w.heap.size, 0, none⟩) gl0).trans g0, (Below.cell h (p := ⟨w.heap.size + 1, 1, none⟩) gl1).trans y1, (Below.cell h (p := ⟨b, off + z * 2, none⟩) lb).trans hq0, h⟩))
      clear hq0 lb g0 gl0 gl1 hTT y1
      go_upto_region 7 with fail
      have kk : LaterQ wr wr.drew := (Below.refl _ wr).drew
      go_cut [11, 12] (fun s11 s12 wx => s12 = .bool true ∧ MadeO wr T s11 wx)
      case first =>
        go_region_held3 (fun wx => wx.cell? ⟨w.heap.size, 0, none⟩ = some (.slice a1 d.length cap1) ∧ wx.cell? ⟨w.heap.size + 1, 1, none⟩ = some (.slice (some ⟨b, off, none⟩) l.length cap) ∧ wx.cell? ⟨b, off + z * 2, none⟩ = some (.string A.1) ∧ LaterQ wr wx)
          ((refine HSQ.out _ ?_; first | assumption | exact Below.drew (Below.refl _ wr) | exact later_alloc (by assumption) _ | exact later_drewA wr _ | exact later_set3 (by first | assumption | exact later_alloc (by assumption) _) (later_size (by first | assumption | exact Below.refl _ _))))
          (first | (go_at_call 47; refine (HLK.out _ (by first | assumption | exact later_alloc (by assumption) _ | exact later_drewA wr _)).mono ?_; rintro e wq ⟨ta, tc, fT, rfl, how, hnd, hbq⟩; (have kk : LaterQ wr wq := (show Below wr.heap.size wr wq by refine below_then (show LaterQ wr _ from ?_) hbq; first | assumption | exact later_alloc (by assumption) _ | exact later_drewA wr _)); (have HOW := Lib.hid (And.intro how hnd)); (first | (have GL := Lib.hid (GL.out.later hbq)) | (have GL := Lib.hid (locQ_new' hbq)) | (have GL := Lib.hid (locQ_new hbq)) | (have GL := Lib.hid (locQ_new3 hbq)) | skip); (first | (have x0 := GL.out.c0; have x1 := GL.out.c1; have x2 := GL.out.c2; have f0 := GL.out.f0; have f1 := GL.out.f1; have f2 := GL.out.f2) | skip); (have hS := HSQ.out wq kk); (have k0 := hS.1); (have k1 := hS.2.1); (have k2 := hS.2.2.1); clear hbq how hnd hS))
        all_goals
          go_wp2_with fail
          go_meet
          refine ⟨rfl, ?_⟩
          first
            | (have GG := GL.out; exact madeO (by assumption) (later_size (by first | assumption | exact Below.refl _ _)) GG HOW.out.1 HOW.out.2 (ltI_alloc _ _))
            | ((with_reducible refine madeO2 (by assumption) HOW.out.1 HOW.out.2 ?_); exact Nat.le_refl wr.heap.size)
      case rest =>
        obtain ⟨rfl, kp, ta, tc, fT, rfl, hkp, hl3, hoT, hnT, hlat⟩ := hcut
        have hX := HST.out.later hlat
        have HX := Lib.hid hX
        have x2 := hl3.c2
        have z1 := hX.c4.c1
        have r1 := (hX.hb.cell (p := ⟨b, off + z * 2 + 1, none⟩) HQ.out.2.2).trans HQ.out.2.1
        have hA : Below wc.heap.size wc (wc.drew.alloc (.cells #[.slice au A.2.length cu, .slice ta T.2.2.length tc] 80 (0, 0))) := (Below.drew (Below.refl _ wc)).alloc (Nat.le_refl _) _
        have HXA := Lib.hid (hX.later hA)
        have HPA := Lib.hid (PsI.later (PsI.later HPS.out hlat) hA)
        have HRW := Lib.hid (show rowsC.rd (wc.drew.alloc (.cells #[.slice au A.2.length cu, .slice ta T.2.2.length tc] 80 (0, 0))) (fun b => b ∉ f1) [.slice ta T.2.2.length tc] T.2.2 from Cd.later (Cd.mono _ (rowsC.ow_rd hoT) (fun b _ hb q => by
          have h1 := (rowsC.ow_lt hoT b hb).1
          have h2 := (HST.out.f1_ge b q).2
          omega)) hA)
        have HAT := Lib.hid (QryPar.at2 (row_alloc wc.drew (.cells #[.slice au A.2.length cu, .slice ta T.2.2.length tc] 80 (0, 0))))
        have HPL := Lib.hid (show ps.length + 1 ≤ 1000000000 by have h0 := HPS.out.1; rw [List.length_map, List.length_take] at h0; have := HV4.out; omega)
        clear hX hA hl3 hoT hnT hlat hkp kk
        generalize T.2.2.length = tn at *
        go_wp2_with fail
        go_region_law (first | (refine Cd.step_appendN (c := raw2) rfl (.tmp 47) (.tmp 57) 78 rfl (w.heap.size + 3) 80 (.agg #[.slice none 0 0, .slice none 0 0]) 2 48 rfl Tryz.underlying78 info_rel rfl (by decide) (.slice ao1 ps.length co1) ps f1 rfl HXA.out.t HXA.out.tn wc.heap.size [.slice au A.2.length cu, .slice ta tn tc] rfl HAT.out (.slice au A.2.length cu, .slice ta tn tc) [] ⟨rfl, ⟨rfl, rfl⟩, rfl⟩ (by simp) (by simp) HPL.out HXA.out.sz ?_; intro g6 cap6 w6 f6 ho6 hn6 hs6 ht6))
        all_goals
          have HY := Lib.hid (HXA.out.put ho6 hn6 (by rw [size_alloc]; simpa using hs6) ht6)
          have HP6 := Lib.hid (show PsI w S2 w6 d (ps ++ [(.slice au A.2.length cu, .slice ta tn tc)]) ((V.take (k + 1)).map (atG l)) f6 by
            rw [HTK.out]
            exact (HPA.out.snoc HUA.out (by rw [HTT.out]; exact HRW.out)).touched ht6 (fun b hb => by
              rcases hs6 b hb with q | q | q
              · exact .inl q
              · cases q
              · exact .inr (by rw [size_alloc]; simpa using q)))
          clear ho6 hn6 hs6 ht6 x2 z1 r1
          go_wp2_with fail
          go_roundw
          case rel => exact ⟨k + 1, f6, _, by have := HLT.out; omega, by go_num, HY.out, HP6⟩
          case measure => have := HLT.out; simp [intOf]; omega
    · have ek : k = V.length := by omega
      subst ek
      rw [List.take_length, ← HSL.out] at hps
      have HPS := Lib.hid hps.out
      have hfo := HFO.out
      have hcov := AnsQ.cover hfo t
      have hrin := rels_in hfo t
      have hrle := rels_le hfo t
      rw [← HMB.out] at hcov
      have HVL := Lib.hid (varsL_len (mB n l (t : Int)))
      have HVB2 := Lib.hid (varsL_bd (s := mB n l (t : Int)))
      have HRES := Lib.hid (show evV d n l (t : Int) = varsL (mB n l (t : Int)) ∧ evR d n l (t : Int) = walkL (varsL (mB n l (t : Int))) (relsQ d (selA l t l.length)) (varsL (mB n l (t : Int))).length [] by
        unfold evV evR
        rw [HOK.out]
        exact ⟨rfl, rfl⟩)
      have HJC := Lib.hid (And.intro hcov (And.intro hrin hrle))
      have y0 := hst.c4.c0
      have y1 := hst.c4.c1
      clear hps hlt hk hst hfo hcov hrin hrle
      generalize varsL (mB n l (t : Int)) = vs at *
      generalize selA l t l.length = LA at *
      go_wp2_with fail
      refine (HMV.out _ HST.out.hb).mono ?_
      rintro e w5 ⟨uv, fv, rfl, hov, hnv, hb5⟩
      obtain ⟨av, cv, rfl⟩ := Cd.ow_slice hov
      have hX := HST.out.later hb5
      have HXA := Lib.hid hX
      have HOV := Lib.hid (rowC.ow_base hov HST.out.hb.size)
      have HNV := Lib.hid hnv
      have HVG := Lib.hid (show ∀ b ∈ fv, w.heap.size + 3 ≤ b from fun b hb => Nat.le_trans HST.out.sz (rowC.ow_lt hov b hb).1)
      have hlen : ps.length = (relsQ d LA).length := by unfold relsQ; rw [List.length_map]; exact HPS.out.1
      have hrel := raw_rd (c := relC) rfl hX.t hlen (S := fun _ => True) (fun i h h' => by
        have hi : i < LA.length := by rw [← HPS.out.1]; exact h
        have e1 : (relsQ d LA)[i] = relOf (lkT d LA[i].1) LA[i] := List.getElem_map ..
        rw [e1]
        obtain ⟨k1, k2⟩ := HPS.out.2 i h hi
        exact ⟨[_], [_], rfl, Cd.mono _ (Cd.below (c := rowC) (Cd.mono _ k1 (T := (· < w.heap.size)) fun b hb _ => hb) hX.hb) fun _ _ _ => trivial, Cd.mono _ (Cd.later k2 hb5) fun _ _ _ => trivial⟩) (fun _ _ => trivial)
      have HCALL := Lib.hid (impl_join _ _ vs (relsQ d LA) _ _ w5 (rowC.ow_rd hov) hrel HJC.out.1 HJC.out.2.1 HVB2.out HVL.out HJC.out.2.2)
      clear hX hov hnv hb5 hlen hrel y0 y1
      go_wp2_with fail
      refine HCALL.out.mono ?_
      rintro e w6 ⟨rv, fr, rfl, hor, hnr, hb6⟩
      obtain ⟨ar, cr, rfl⟩ := Cd.ow_slice (c := rowC) hor
      have hY := HXA.out.later hb6
      have HY := Lib.hid hY.hb
      have HOV2 := Lib.hid (Cd.ow_later HOV.out hb6)
      have HOR := Lib.hid (rowsC.ow_base hor HXA.out.hb.size)
      have HNR := Lib.hid (show (fv ++ fr).Nodup from List.nodup_append.2 ⟨HNV.out, hnr, fun a ha b hb q => by
        have h1 := (rowC.ow_lt HOV.out a ha).2
        have h2 := (rowsC.ow_lt hor b hb).1
        omega⟩)
      have HFV := Lib.hid (show w.heap.size + 1 + 1 ∉ fv ++ fr from fun q => by
        rcases List.mem_append.1 q with q | q
        · have := HVG.out _ q; omega
        · have h2 := (rowsC.ow_lt hor _ q).1
          have h3 := HXA.out.sz
          omega)
      have c0 := hY.c6.c0
      have c1 := hY.c6.c1
      have f0 := hY.c6.f0
      have f1 := hY.c6.f1
      have HK := Lib.hid (Loc2.set_both hY.c6 (.slice av vs.length cv) (.slice ar (walkL vs (relsQ d LA) vs.length []).length cr))
      clear hY hor hnr hb6
      go_wp2_with fail
      have k0 := HK.out.c0
      have k1 := HK.out.c1
      refine bodyPost_ret (v := .tuple #[.agg #[.slice av vs.length cv, .slice ar (walkL vs (relsQ d LA) vs.length []).length cr], .bool true]) (by simp [results, Tryz.results10, go_sem, k0, k1]) rfl
        (by
          rw [HRES.out.1, HRES.out.2, HOK.out]
          exact ⟨_, _, fv ++ fr, rfl, Tab.ow_setCell (c := ansC) (Tab.ow_setCell (c := ansC) (ans_ow HOV2.out HOR.out) HFV.out _) HFV.out _, HNR.out, (HY.out.setCell (by show _ ≤ w.heap.size + 1 + 1; omega) _).setCell (by show _ ≤ w.heap.size + 1 + 1; omega) _⟩)
end Go.Proofs.YtdkhgeknjekkoaaGreat.AnsEv

namespace Go.Proofs.YtdkhgeknjekkoaaGreat.AnsEv
open Go Go.RowKit Byt Ints IntsLaw Cd Rows2 Tab TabSpec Exact Atom QryMath QrySpec QryImp MkAtom AnsMath SlMath TabOpen TabElem QgMath AnsSpec AnsQ DbMath DbSpec Db DbExact QryFor AnsC

def subN (d : List T3) (n : Int) (l : List A2) (m : Int) : Int := if evOk d n l m then ((evR d n l m).length : Int) else -1
theorem subN_no {d : List T3} {n m : Int} {l : List A2} (h : evOk d n l m = false) : subN d n l m = -1 := by unfold subN; rw [h]; rfl
theorem subN_yes {d : List T3} {n m : Int} {l : List A2} (h : evOk d n l m = true) : subN d n l m = ((evR d n l m).length : Int) := by unfold subN; rw [h]; rfl
set_option maxRecDepth 100000 in
set_option maxHeartbeats 1600000 in
theorem spec_sub (u v : Value) (d : List T3) (n m : Int) (l : List A2) (S1 S2 : Nat → Prop) (w : World) (h1 : tabsC.rd w S1 [u] d) (h2 : atomsC.rd w S2 [v] l) (hw : SlTable.wtS d ≤ 1048577) :
    Calls Tryz.prog 14 #[.agg #[u], .agg #[.int .i64 n, v], .int .i64 m] w fun e w' => e = .returned (.int .i64 (subN d n l m)) ∧ Below w.heap.size w w' := by
  have HE := Lib.hid (fun w' (hb : Below w.heap.size w w') => spec_eval u v d n m l S1 S2 w' (Cd.later h1 hb) (Cd.later h2 hb) hw)
  obtain ⟨a1, cap1, rfl, _⟩ := Cd.sl_form h1
  obtain ⟨a, cap, rfl, _⟩ := Cd.sl_form h2
  clear h1 h2 hw
  go_enter Tryz.func14, Tryz.ntmps14
  go_wp2_with fail
  have HB := Lib.hid (below_then (below_alloc w (.cells #[.slice a1 d.length cap1] 26 (0, 0))) (below_alloc _ (.cells #[.int .i64 n, .slice a l.length cap] 29 (0, 0))))
  refine (HE.out _ HB.out).mono ?_
  rintro e w1 ⟨v1, v2, fp, rfl, ho, _, hb1⟩
  obtain ⟨b1, k1, b2, k2, rfl, rfl⟩ := ans_shape ho
  have HB1 := Lib.hid (below_then HB.out hb1)
  clear ho hb1
  cases hok : evOk d n l m
  · have HZ := Lib.hid (subN_no hok)
    clear hok
    go_wp2_with fail
    go_ret
    exact ⟨ret_int HZ.out.symm, below_then HB1.out (below_alloc _ _)⟩
  · have HZ := Lib.hid (subN_yes hok)
    clear hok
    go_wp2_with fail
    go_ret
    exact ⟨ret_int HZ.out.symm, below_then HB1.out (below_alloc _ _)⟩
set_option maxRecDepth 100000 in
set_option maxHeartbeats 1600000 in
theorem impl_sub (u v : Value) (d : List T3) (n m : Int) (l : List A2) (S1 S2 : Nat → Prop) (w : World) (h1 : tabsC.rd w S1 [u] d) (h2 : atomsC.rd w S2 [v] l) (hw : SlTable.wtS d ≤ 1048577) (hs : ∀ A ∈ l, A.1.size ≤ 1048576) :
    Calls Tryz.prog 13 #[.agg #[u], .agg #[.int .i64 n, v], .int .i64 m] w fun e w' => e = .returned (.int .i64 (subN d n l m)) ∧ Below w.heap.size w w' := by
  have HE := Lib.hid (fun w' (hb : Below w.heap.size w w') => impl_eval u v d n m l S1 S2 w' (Cd.later h1 hb) (Cd.later h2 hb) hw hs)
  obtain ⟨a1, cap1, rfl, _⟩ := Cd.sl_form h1
  obtain ⟨a, cap, rfl, _⟩ := Cd.sl_form h2
  clear h1 h2 hw hs
  go_enter Tryz.func13, Tryz.ntmps13
  go_wp2_with fail
  have HB := Lib.hid (below_then (below_alloc w (.cells #[.slice a1 d.length cap1] 26 (0, 0))) (below_alloc _ (.cells #[.int .i64 n, .slice a l.length cap] 29 (0, 0))))
  refine (HE.out _ HB.out).mono ?_
  rintro e w1 ⟨v1, v2, fp, rfl, ho, _, hb1⟩
  obtain ⟨b1, k1, b2, k2, rfl, rfl⟩ := ans_shape ho
  have HB1 := Lib.hid (below_then HB.out hb1)
  clear ho hb1
  cases hok : evOk d n l m
  · have HZ := Lib.hid (subN_no hok)
    clear hok
    go_wp2_with fail
    go_ret
    exact ⟨ret_int HZ.out.symm, below_then HB1.out (below_alloc _ _)⟩
  · have HZ := Lib.hid (subN_yes hok)
    clear hok
    go_wp2_with fail
    go_ret
    exact ⟨ret_int HZ.out.symm, below_then HB1.out (below_alloc _ _)⟩
end Go.Proofs.YtdkhgeknjekkoaaGreat.AnsEv

namespace Go.Proofs.YtdkhgeknjekkoaaGreat.AnsEv
open Go Go.RowKit Byt Ints IntsLaw Cd Rows2 Tab TabSpec Exact Atom QryMath QrySpec QryImp MkAtom AnsMath SlMath TabOpen TabElem QgMath AnsSpec AnsQ DbMath DbSpec Db DbExact QryFor AnsC

/-- A local answer, made behind W. -/
def MadeE (W : World) (V : List Int) (R : List (List Int)) (s : Value) (wx : World) : Prop :=
  ∃ k v1 v2 fp, s = .pointer (some ⟨k, 0, none⟩) ∧ W.heap.size ≤ k ∧ Atom.Loc2 wx k v1 v2 ∧ ansC.ow wx W.heap.size [v1, v2] (V, R) fp ∧ fp.Nodup ∧ LaterQ W wx
theorem later_set2 {a w : World} {k : Nat} {x y : Value} (h : LaterQ a w) (hk : a.heap.size ≤ k) : LaterQ a ((w.setCell ⟨k, 0, none⟩ x).setCell ⟨k, 1, none⟩ y) := (Below.setCell h hk _).setCell hk _
theorem locE_new {W wq : World} {x0 x1 : Value} {T : TypeId} (hb : Below (W.alloc (.cells #[x0, x1] T (0, 0))).heap.size (W.alloc (.cells #[x0, x1] T (0, 0))) wq) : Atom.Loc2 wq W.heap.size x0 x1 := (Atom.Loc2.of (start1 W _ rfl).1).later hb
theorem locE_new' {W wq : World} {x0 x1 : Value} {T : TypeId} (hb : Below (W.drew.alloc (.cells #[x0, x1] T (0, 0))).heap.size (W.drew.alloc (.cells #[x0, x1] T (0, 0))) wq) : Atom.Loc2 wq W.heap.size x0 x1 := locE_new (W := W.drew) hb
theorem locE_new3 {W wq : World} {x0 x1 : Value} {T : TypeId} (hb : Below (W.alloc (.cells #[x0, x1] T (0, 0))).drew.heap.size (W.alloc (.cells #[x0, x1] T (0, 0))).drew wq) : Atom.Loc2 wq W.heap.size x0 x1 := ((Atom.Loc2.of (start1 W _ rfl).1).drew).later hb
theorem madeE {W wq : World} {k B : Nat} {x0 x1 v1 v2 : Value} {V : List Int} {R : List (List Int)} {fp : List Nat} (kk : LaterQ W wq) (hb : W.heap.size ≤ k) (GL : Atom.Loc2 wq k x0 x1) (how : ansC.ow wq B [v1, v2] (V, R) fp) (hnd : fp.Nodup) (hB : k < B) :
    MadeE W V R (.pointer (some ⟨k, 0, none⟩)) ((wq.setCell ⟨k, 0, none⟩ v1).setCell ⟨k, 1, none⟩ v2) := by
  have hk : k ∉ fp := fun q => by have := (ansC.ow_lt how k q).1; omega
  exact ⟨k, v1, v2, fp, rfl, hb, Loc2.set_both GL v1 v2, ow_setCell (c := ansC) (ow_setCell (c := ansC) (ansC.ow_base how (by omega)) hk _) hk _, hnd, later_set2 kk hb⟩
theorem madeE2 {W wq : World} {B : Nat} {e : TypeId} {v1 v2 : Value} {V : List Int} {R : List (List Int)} {fp : List Nat} (kk : LaterQ W wq) (how : ansC.ow wq B [v1, v2] (V, R) fp) (hnd : fp.Nodup) (hB : W.heap.size ≤ B) :
    MadeE W V R (.pointer (some ⟨wq.heap.size, 0, none⟩)) (wq.alloc (.cells #[v1, v2] e (0, 0))) :=
  ⟨wq.heap.size, v1, v2, fp, rfl, later_size kk, Atom.Loc2.of (start1 wq _ rfl).1, Cd.ow_later (ansC.ow_base how hB) (below_alloc wq _), hnd, later_alloc kk _⟩
theorem ltE_alloc (w : World) (o : Obj) : w.heap.size < (w.alloc o).heap.size := by rw [size_alloc]; exact Nat.lt_succ_self _
theorem startE {w W : World} {dv : Value} {n : Int} {qv : Value} {e3 e4 e6 : TypeId} (h : ((w.alloc (.cells #[dv] e3 (0, 0))).alloc (.cells #[.int .i64 n, qv] e4 (0, 0))).alloc (.cells #[.slice none 0 0, .slice none 0 0] e6 (0, 0)) = W) :
    Loc1 W w.heap.size dv ∧ Atom.Loc2 W (w.heap.size + 1) (.int .i64 n) qv ∧ Atom.Loc2 W (w.heap.size + 1 + 1) (.slice none 0 0) (.slice none 0 0) ∧ Below w.heap.size w W ∧ W.heap.size = w.heap.size + 3 := by
  obtain ⟨r0, r1, r2, hz, hb0⟩ := start3 w _ _ _ h
  exact ⟨Loc1.of r0, Atom.Loc2.of r1, Atom.Loc2.of r2, hb0, hz⟩

theorem cell_set2 {w : World} {k b o : Nat} {x y v : Value} (h : w.cell? ⟨b, o, none⟩ = some v) (hb : b ≠ k) : ((w.setCell ⟨k, 0, none⟩ x).setCell ⟨k, 1, none⟩ y).cell? ⟨b, o, none⟩ = some v :=
  (World.cell?_of_block (w := w) (a := ⟨b, o, none⟩) ((Below.heap_setCell (w.setCell ⟨k, 0, none⟩ x) ⟨k, 1, none⟩ y b hb).trans (Below.heap_setCell w ⟨k, 0, none⟩ x b hb))).trans h
set_option maxRecDepth 100000 in
set_option maxHeartbeats 3200000 in
theorem spec_all (u v : Value) (d : List T3) (n : Int) (l : List A2) (S1 S2 : Nat → Prop) (w : World) (h1 : tabsC.rd w S1 [u] d) (h2 : atomsC.rd w S2 [v] l) (hw : SlTable.wtS d ≤ 1048577) :
    Calls Tryz.prog 37 #[.agg #[u], .agg #[.int .i64 n, v]] w fun e w' => EvAns (evV d n l (fm n l)) (evR d n l (fm n l)) (evOk d n l (fm n l)) w e w' := by
  have HFM := Lib.hid (fun w' (hb : Below w.heap.size w w') => QgSpec.spec_full n v l S2 w' (Cd.later h2 hb))
  have HEV := Lib.hid (fun w' (hb : Below w.heap.size w w') => spec_eval u v d n (fm n l) l S1 S2 w' (Cd.later h1 hb) (Cd.later h2 hb) hw)
  obtain ⟨a1, cap1, rfl, _⟩ := Cd.sl_form h1
  obtain ⟨a, cap, rfl, _⟩ := Cd.sl_form h2
  clear h1 h2 hw
  generalize evV d n l (fm n l) = V at *
  generalize evR d n l (fm n l) = R at *
  generalize evOk d n l (fm n l) = ok at *
  generalize (fm n l : Int) = F at *
  go_enter Tryz.func37, Tryz.ntmps37
  go_upto_region 1 with fail
  generalize hW : ((w.alloc _).alloc _).alloc _ = W
  obtain ⟨l3, l4, l6, hb0, hz⟩ := startE hW
  clear hW
  have HB := Lib.hid hb0
  have HZ := Lib.hid hz
  have L6 := Lib.hid l6
  have HSQ := Lib.hid (fun wx (h : LaterQ W wx) => (show wx.cell? ⟨w.heap.size, 0, none⟩ = some (.slice a1 d.length cap1) ∧ wx.cell? ⟨w.heap.size + 1, 0, none⟩ = some (.int .i64 n) ∧ wx.cell? ⟨w.heap.size + 1, 1, none⟩ = some (.slice a l.length cap) ∧ LaterQ W wx from
    ⟨(Below.cell h (p := ⟨w.heap.size, 0, none⟩) l3.lt).trans l3.c0, (Below.cell h (p := ⟨w.heap.size + 1, 0, none⟩) l4.lt).trans l4.c0, (Below.cell h (p := ⟨w.heap.size + 1, 1, none⟩) l4.lt).trans l4.c1, h⟩))
  clear l3 l4 l6 hb0 hz
  have kk : LaterQ W W.drew := (Below.refl _ W).drew
  go_cut [6, 7] (fun s6 s7 wx => s7 = .bool ok ∧ MadeE W V R s6 wx)
  case first =>
    go_region_held3 (fun wx => wx.cell? ⟨w.heap.size, 0, none⟩ = some (.slice a1 d.length cap1) ∧ wx.cell? ⟨w.heap.size + 1, 0, none⟩ = some (.int .i64 n) ∧ wx.cell? ⟨w.heap.size + 1, 1, none⟩ = some (.slice a l.length cap) ∧ LaterQ W wx)
      ((refine HSQ.out _ ?_; first | assumption | exact Below.drew (Below.refl _ W) | exact later_alloc (by assumption) _ | exact later_drewA W _ | exact later_set2 (by first | assumption | exact later_alloc (by assumption) _) (later_size (by first | assumption | exact Below.refl _ _))))
      (first
        | (go_at_call 25; refine (HFM.out _ (below_then HB.out (show LaterQ W _ from ?_))).mono ?_; (first | assumption | exact later_alloc (by assumption) _ | exact later_drewA W _); rintro e wq ⟨rfl, hbq⟩; (have kk : LaterQ W wq := (show Below W.heap.size W wq by refine below_then (show LaterQ W _ from ?_) hbq; first | assumption | exact later_alloc (by assumption) _ | exact later_drewA W _)); (first | (have GL := Lib.hid (GL.out.later hbq)) | (have GL := Lib.hid (locE_new' hbq)) | (have GL := Lib.hid (locE_new hbq)) | (have GL := Lib.hid (locE_new3 hbq)) | skip); (first | (have x0 := GL.out.c0; have x1 := GL.out.c1; have f0 := GL.out.f0; have f1 := GL.out.f1) | skip); (have hS := HSQ.out wq kk); (have k0 := hS.1); (have k1 := hS.2.1); (have k2 := hS.2.2.1); clear hbq hS)
        | (go_at_call 11; refine (HEV.out _ (below_then HB.out (show LaterQ W _ from ?_))).mono ?_; (first | assumption | exact later_alloc (by assumption) _ | exact later_drewA W _); rintro e wp ⟨v1, v2, fp, rfl, how, hnd, hbq⟩; obtain ⟨b1, j1, b2, j2, rfl, rfl⟩ := ans_shape how; (have HOW := Lib.hid (And.intro how hnd)); (have HLE := Lib.hid hbq.size); (first | (have HKB := Lib.hid (GL.out.lt)) | skip); (have kk : LaterQ W wp := (show Below W.heap.size W wp by refine below_then (show LaterQ W _ from ?_) hbq; first | assumption | exact later_alloc (by assumption) _ | exact later_drewA W _)); (first | (have GL := Lib.hid (GL.out.later hbq)) | (have GL := Lib.hid (locE_new' hbq)) | (have GL := Lib.hid (locE_new hbq)) | (have GL := Lib.hid (locE_new3 hbq)) | skip); (first | (have x0 := GL.out.c0; have x1 := GL.out.c1; have f0 := GL.out.f0; have f1 := GL.out.f1) | skip); (have hS := HSQ.out wp kk); (have k0 := hS.1); (have k1 := hS.2.1); (have k2 := hS.2.2.1); clear hbq hS how hnd))
    all_goals
      go_wp2_with fail
      go_meet
      refine ⟨rfl, ?_⟩
      first
        | (have GG := GL.out; exact madeE (by assumption) (later_size (by first | assumption | exact Below.refl _ _)) GG HOW.out.1 HOW.out.2 (by first | exact HKB.out | exact ltE_alloc _ _))
        | ((with_reducible refine madeE2 (by assumption) HOW.out.1 HOW.out.2 ?_); exact later_size (by assumption))
  case rest =>
    obtain ⟨rfl, kp, v1, v2, fp, rfl, hkp, hl2, hoA, hnA, hlat⟩ := hcut
    obtain ⟨b1, j1, b2, j2, rfl, rfl⟩ := ans_shape hoA
    have x0 := hl2.c0
    have x1 := hl2.c1
    have hy := L6.out.later hlat
    have c0 := hy.c0
    have c1 := hy.c1
    have f0 := hy.f0
    have f1 := hy.f1
    have HK := Lib.hid (Loc2.set_both hy (.slice b1 V.length j1) (.slice b2 R.length j2))
    have HBB := Lib.hid (below_then HB.out hlat)
    have HNO := Lib.hid (show w.heap.size + 1 + 1 ∉ fp from fun q => by have := (ansC.ow_lt hoA _ q).1; have := HZ.out; omega)
    have HOA := Lib.hid (ansC.ow_base hoA HB.out.size)
    have HNA := Lib.hid hnA
    clear hl2 hoA hnA hlat hy kk hkp
    go_wp2_with fail
    have k0 := HK.out.c0
    have k1 := HK.out.c1
    refine bodyPost_ret (v := .tuple #[.agg #[.slice b1 V.length j1, .slice b2 R.length j2], .bool ok]) (by simp [results, Tryz.results37, go_sem, k0, k1]) rfl
      ⟨_, _, fp, rfl, ow_setCell (c := ansC) (ow_setCell (c := ansC) HOA.out HNO.out _) HNO.out _, HNA.out, (HBB.out.setCell (by show _ ≤ w.heap.size + 1 + 1; omega) _).setCell (by show _ ≤ w.heap.size + 1 + 1; omega) _⟩
set_option maxRecDepth 100000 in
set_option maxHeartbeats 3200000 in
theorem impl_all (u v : Value) (d : List T3) (n : Int) (l : List A2) (S1 S2 : Nat → Prop) (w : World) (h1 : tabsC.rd w S1 [u] d) (h2 : atomsC.rd w S2 [v] l) (hw : SlTable.wtS d ≤ 1048577) (hs : ∀ A ∈ l, A.1.size ≤ 1048576) :
    Calls Tryz.prog 22 #[.agg #[u], .agg #[.int .i64 n, v]] w fun e w' => EvAns (evV d n l (fm n l)) (evR d n l (fm n l)) (evOk d n l (fm n l)) w e w' := by
  have HFM := Lib.hid (fun w' (hb : Below w.heap.size w w') => QgImp.impl_full n v l S2 w' (Cd.later h2 hb))
  have HEV := Lib.hid (fun w' (hb : Below w.heap.size w w') => impl_eval u v d n (fm n l) l S1 S2 w' (Cd.later h1 hb) (Cd.later h2 hb) hw hs)
  obtain ⟨a1, cap1, rfl, _⟩ := Cd.sl_form h1
  obtain ⟨a, cap, rfl, _⟩ := Cd.sl_form h2
  clear h1 h2 hw hs
  generalize evV d n l (fm n l) = V at *
  generalize evR d n l (fm n l) = R at *
  generalize evOk d n l (fm n l) = ok at *
  generalize (fm n l : Int) = F at *
  go_enter Tryz.func22, Tryz.ntmps22
  go_upto_region 1 with fail
  generalize hW : ((w.alloc _).alloc _).alloc _ = W
  obtain ⟨l3, l4, l6, hb0, hz⟩ := startE hW
  clear hW
  have HB := Lib.hid hb0
  have HZ := Lib.hid hz
  have L6 := Lib.hid l6
  have HSQ := Lib.hid (fun wx (h : LaterQ W wx) => (show wx.cell? ⟨w.heap.size, 0, none⟩ = some (.slice a1 d.length cap1) ∧ wx.cell? ⟨w.heap.size + 1, 0, none⟩ = some (.int .i64 n) ∧ wx.cell? ⟨w.heap.size + 1, 1, none⟩ = some (.slice a l.length cap) from
    ⟨(Below.cell h (p := ⟨w.heap.size, 0, none⟩) l3.lt).trans l3.c0, (Below.cell h (p := ⟨w.heap.size + 1, 0, none⟩) l4.lt).trans l4.c0, (Below.cell h (p := ⟨w.heap.size + 1, 1, none⟩) l4.lt).trans l4.c1⟩))
  have y0 := l3.c0
  have y1 := l4.c0
  have y2 := l4.c1
  clear l3 l4 l6 hb0 hz
  have kk : LaterQ W W.drew := (Below.refl _ W).drew
  go_region_held3 (fun wx => wx.cell? ⟨w.heap.size, 0, none⟩ = some (.slice a1 d.length cap1) ∧ wx.cell? ⟨w.heap.size + 1, 0, none⟩ = some (.int .i64 n) ∧ wx.cell? ⟨w.heap.size + 1, 1, none⟩ = some (.slice a l.length cap))
    (first | exact ⟨by assumption, by assumption, by assumption⟩ | exact ⟨cell_set2 (by assumption) (by omega), cell_set2 (by assumption) (by omega), cell_set2 (by assumption) (by omega)⟩)
    (first
      | (go_at_call 45; refine (HFM.out _ (below_then HB.out (show LaterQ W _ by assumption))).mono ?_; rintro e wq ⟨rfl, hbq⟩; (have kk : LaterQ W wq := below_then (by assumption) hbq); (have hS := HSQ.out wq kk); (have k0 := hS.1); (have k1 := hS.2.1); (have k2 := hS.2.2); clear hbq hS)
      | (go_at_call 10; refine (HEV.out _ (below_then HB.out (show LaterQ W _ by assumption))).mono ?_; rintro e wp ⟨v1, v2, fp, rfl, how, hnd, hbq⟩; obtain ⟨b1, j1, b2, j2, rfl, rfl⟩ := ans_shape how; (have HOW := Lib.hid (And.intro how hnd)); (have HKQ := Lib.hid (show LaterQ W _ by assumption)); (have kk : LaterQ W wp := below_then (by assumption) hbq); (have HK := Lib.hid kk); (have hS := HSQ.out wp kk); (have k0 := hS.1); (have k1 := hS.2.1); (have k2 := hS.2.2); (have c0 := (L6.out.later kk).c0); (have c1 := (L6.out.later kk).c1); (have f0 := (L6.out.later kk).f0); (have f1 := (L6.out.later kk).f1); clear hbq hS how hnd))
  all_goals
    go_wp2_with fail
    have g := Loc2.set_both (L6.out.later HK.out) (.slice b1 V.length j1) (.slice b2 R.length j2)
    have g0 := g.c0
    have g1 := g.c1
    have hsz := HKQ.out.size
    have HNO := Lib.hid (show w.heap.size + 1 + 1 ∉ fp from fun q => by have := (ansC.ow_lt HOW.out.1 _ q).1; have := HZ.out; omega)
    have HBB := Lib.hid (below_then HB.out HK.out)
    refine bodyPost_ret (v := .tuple #[.agg #[.slice b1 V.length j1, .slice b2 R.length j2], .bool ok]) (by simp [results, Tryz.results22, go_sem, g0, g1]) rfl
      ⟨_, _, fp, rfl, ow_setCell (c := ansC) (ow_setCell (c := ansC) (ansC.ow_base HOW.out.1 (by have := HB.out.size; omega)) HNO.out _) HNO.out _, HOW.out.2, (HBB.out.setCell (by show _ ≤ w.heap.size + 1 + 1; omega) _).setCell (by show _ ≤ w.heap.size + 1 + 1; omega) _⟩
end Go.Proofs.YtdkhgeknjekkoaaGreat.AnsEv

namespace Go.Proofs.YtdkhgeknjekkoaaGreat.DbOpen
open Go Go.RowKit Byt Ints IntsLaw Cd Rows2 Fits TabOpen TabElem SlTable Db

set_option maxRecDepth 100000 in
theorem fits_tabs : Fits Tryz.prog ltabsC 54 := fits_sl Tryz.underlying54 fits_table (by kernel_rfl)
set_option maxRecDepth 100000 in
theorem fits_db : Fits Tryz.prog ltabsC 56 := fits_struct Tryz.underlying56 (fits_one fits_tabs rfl) (by kernel_rfl)
set_option maxRecDepth 100000 in
theorem open_db {H : Type} {enc : TypeId × Value → H} {W : World} {base : Nat} {v : Value} {d : DataW H} {ps : List MemPlace}
    (hval : Value.okWide Tryz.prog W .any base 56 v) (h : DataW.Trod enc Tryz.prog W 0 (fun _ => true) true 56 v d ps) :
    ∃ (u : Value) (l : List T3), v = .agg #[u] ∧ tabsC.rd W (· < W.heap.size) [u] l := by
  obtain ⟨cs, l, rfl, hT⟩ := open_st Tryz.underlying56 fits_db hval h
  have hl := ltabsC.len hT
  obtain ⟨cs⟩ := cs
  match cs, hl, hT with
  | [u], _, hT => exact ⟨u, l, rfl, hT⟩
end Go.Proofs.YtdkhgeknjekkoaaGreat.DbOpen

namespace Go.Proofs.YtdkhgeknjekkoaaGreat.MkAns
open Go Go.RowKit Byt Ints IntsLaw Cd Rows2 Tab TabSpec Exact Atom AnsC

theorem set_both {w : World} {X : Nat} {a b : Value} (h : Loc2 w X a b) (x y : Value) : Loc2 ((w.setCell ⟨X, 0, none⟩ x).setCell ⟨X, 1, none⟩ y) X x y := by
  obtain ⟨h1, h2⟩ := set2 (w := w) (k := X) (x := x) (y := y) h.c0 h.c1
  exact ⟨h1, h2, by simpa using h.f0, by simpa using h.f1⟩


set_option maxRecDepth 100000 in
theorem eq_ans (u1 u2 v1 v2 : Value) (V : List Int) (R : List (List Int)) (S1 S2 : Nat → Prop) (w : World) (h1 : ansC.rd w S1 [u1, u2] (V, R)) (h2 : ansC.rd w S2 [v1, v2] (V, R)) :
    Calls Tryz.prog 30 #[.agg #[u1, u2], .agg #[v1, v2]] w fun e w' => e = .returned (.bool true) ∧ Below w.heap.size w w' := by
  obtain ⟨g1, g2⟩ := ans_reads h1
  obtain ⟨k1, k2⟩ := ans_reads h2
  have HC1 := Lib.hid (fun w' (hb : Below w.heap.size w w') => eq_i u1 v1 V S1 S2 w' (Cd.later g1 hb) (Cd.later k1 hb))
  have HC2 := Lib.hid (fun w' (hb : Below w.heap.size w w') => eq_r u2 v2 R S1 S2 w' (Cd.later g2 hb) (Cd.later k2 hb))
  clear h1 h2 g1 g2 k1 k2
  go_enter Tryz.func30, Tryz.ntmps30
  go_wp2_with fail
  generalize hW : (w.alloc _).alloc _ = W
  obtain ⟨r0, r1, hz, hb0⟩ := start2g w _ _ hW
  clear hW
  refine (HC1.out _ hb0).mono ?_
  rintro e w1 ⟨rfl, hq⟩
  have HB := Lib.hid (below_then hb0 hq)
  have LA := Lib.hid ((Loc2.of r0).later hq)
  have LB := Lib.hid ((Loc2.of r1).later hq)
  clear hb0 hq r0 r1
  have y0 := LA.out.c1
  have y1 := LB.out.c1
  go_wp2_with fail
  refine (HC2.out _ HB.out).mono ?_
  rintro e w2 ⟨rfl, hq⟩
  have HB2 := Lib.hid (below_then HB.out hq)
  clear hq y0 y1
  go_wp2_with fail
  go_ret
  exact ⟨rfl, HB2.out⟩

set_option maxRecDepth 100000 in
set_option maxHeartbeats 800000 in
theorem mark_ans (v1 v2 : Value) (V : List Int) (R : List (List Int)) (base k0 : Nat) (fp : List Nat) (w : World) (h : ansC.ow w base [v1, v2] (V, R) fp) (hnd : fp.Nodup) (hl : V.length + R.flatten.length ≤ 1048577) (hk0 : k0 ≤ 400000000) :
    Calls Tryz.prog 35 #[.agg #[v1, v2], .int .i64 k0] w fun e w' => e = .returned (.int .i64 ((k0 + (V.length + R.flatten.length) : Nat) : Int)) ∧ ansC.ow w' base [v1, v2] (marks (k0 : Nat) V.length, mrows (k0 + V.length) R) fp ∧ Cd.Touch fp w w' := by
  obtain ⟨f1, f2, rfl, h1, h2⟩ := ans_parts h
  have hnd' := List.nodup_append.1 hnd
  have HC1 := Lib.hid (mark_i v1 V base k0 f1 _ (Cd.ow_later h1 (below_alloc w (.cells #[v1, v2] 35 (0, 0)))) (by omega) (by omega))
  have HC2 := Lib.hid (fun w' (ht : Cd.Touch f1 (w.alloc (.cells #[v1, v2] 35 (0, 0))) w') => mark_rows v2 R base (k0 + V.length) f2 w' (Cd.ow_touched (Cd.ow_later h2 (below_alloc w (.cells #[v1, v2] 35 (0, 0)))) ht (fun b hb q => hnd'.2.2 b q b hb rfl)) hnd'.2.1 (by omega) (by omega))
  have HE := Lib.hid (show ((k0 + V.length + R.flatten.length : Nat) : Int) = ((k0 + (V.length + R.flatten.length) : Nat) : Int) by omega)
  have HLC := Lib.hid (Loc2.of (row_alloc w (.cells #[v1, v2] 35 (0, 0))))
  have HB := Lib.hid (below_alloc w (.cells #[v1, v2] 35 (0, 0)))
  have HF1 := Lib.hid (fun b (hb : b ∈ f1) => (rowC.ow_lt h1 b hb).2)
  have HF2 := Lib.hid (fun b (hb : b ∈ f1) (q : b ∈ f2) => hnd'.2.2 b hb b q rfl)
  rw [HE.out] at HC2
  clear h h1 h2 hnd hnd' hl hk0
  generalize ((k0 + (V.length + R.flatten.length) : Nat) : Int) = z at *
  go_enter Tryz.func35, Tryz.ntmps35
  go_wp2_with fail
  generalize w.alloc _ = W at *
  refine HC1.out.mono ?_
  rintro e w1 ⟨rfl, ho1, ht1⟩
  have y1 := (HLC.out.touched ht1 (fun q => by have := HF1.out _ q; omega)).c1
  have HO1 := Lib.hid ho1
  have HT1 := Lib.hid ht1
  have HCC := Lib.hid (HC2.out w1 ht1)
  clear ho1 ht1
  generalize hq : ((k0 + V.length : Nat) : Int) = zq at *
  go_wp2_with fail
  refine HCC.out.mono ?_
  rintro e w2 ⟨rfl, ho2, ht2⟩
  have HO2 := Lib.hid (Cd.ow_touched HO1.out ht2 (fun b hb q => HF2.out b hb q))
  have HO3 := Lib.hid ho2
  have HT := Lib.hid (((Cd.Touch.of_below HB.out).trans (HT1.out.mono fun b hb => List.mem_append_left _ hb)).trans (ht2.mono fun b hb => List.mem_append_right _ hb))
  clear ho2 ht2 y1
  go_wp2_with fail
  go_ret
  exact ⟨rfl, ans_ow HO2.out HO3.out, HT.out⟩

set_option maxRecDepth 100000 in
theorem held_ans (v1 v2 : Value) (V : List Int) (R : List (List Int)) (S : Nat → Prop) (k0 : Nat) (w : World) (h : ansC.rd w S [v1, v2] (marks (k0 : Nat) V.length, mrows (k0 + V.length) R)) (hl : V.length + R.flatten.length ≤ 1048577) (hk0 : k0 ≤ 400000000) :
    Calls Tryz.prog 36 #[.agg #[v1, v2], .int .i64 k0] w fun e w' => e = .returned (.int .i64 ((k0 + (V.length + R.flatten.length) : Nat) : Int)) ∧ Below w.heap.size w w' := by
  obtain ⟨h1, h2⟩ := ans_reads h
  have HC1 := Lib.hid (fun w' (hb : Below w.heap.size w w') => held_i v1 V.length S k0 w' (Cd.later h1 hb) (by omega) (by omega))
  have HC2 := Lib.hid (fun w' (hb : Below w.heap.size w w') => held_r v2 R S (k0 + V.length) w' (Cd.later h2 hb) (by omega) (by omega))
  have HE := Lib.hid (show ((k0 + V.length + R.flatten.length : Nat) : Int) = ((k0 + (V.length + R.flatten.length) : Nat) : Int) by omega)
  have hp1 : ¬ (((k0 + V.length : Nat) : Int) < 0) := by omega
  have hp2 : ¬ (((k0 + (V.length + R.flatten.length) : Nat) : Int) < 0) := by omega
  have HLC := Lib.hid (Loc2.of (row_alloc w (.cells #[v1, v2] 35 (0, 0))))
  have HB := Lib.hid (below_alloc w (.cells #[v1, v2] 35 (0, 0)))
  rw [HE.out] at HC2
  clear h h1 h2 hl hk0
  generalize ((k0 + (V.length + R.flatten.length) : Nat) : Int) = z at *
  generalize ((k0 + V.length : Nat) : Int) = zq at *
  go_enter Tryz.func36, Tryz.ntmps36
  go_wp2_with fail
  generalize w.alloc _ = W at *
  refine (HC1.out _ HB.out).mono ?_
  rintro e w1 ⟨rfl, hb1⟩
  have y1 := (HLC.out.later hb1).c1
  have HB1 := Lib.hid (below_then HB.out hb1)
  clear hb1
  go_wp2_with fail
  refine (HC2.out _ HB1.out).mono ?_
  rintro e w2 ⟨rfl, hb2⟩
  have HB2 := Lib.hid (below_then HB1.out hb2)
  clear hb2 y1
  go_wp2_with fail
  go_ret
  exact ⟨rfl, HB2.out⟩

/-! What an argument of the laws reads as. -/
end Go.Proofs.YtdkhgeknjekkoaaGreat.MkAns
