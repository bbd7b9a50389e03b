/- Texts that the proof rests on, one behind the other. -/
import Derived.Test.YtdkhgeknjekkoaaGreatMg3TrueSizes
import Derived.Test.YtdkhgeknjekkoaaGreatMg5TrueSizes
import Derived.Test.YtdkhgeknjekkoaaGreatMg4TrueSizes
import Derived.Test.YtdkhgeknjekkoaaGreatDb
import Derived.Test.YtdkhgeknjekkoaaGreatTabOpen
import Derived.Test.YtdkhgeknjekkoaaGreatMg2TrueSizes
import Derived.Deep.DeepCutAuto
import Derived.Test.YtdkhgeknjekkoaaGreatQry
import Derived.Test.YtdkhgeknjekkoaaGreatMg1TrueSizes

namespace Go.Proofs.YtdkhgeknjekkoaaGreat.AnsEv
open Go Go.RowKit Byt Ints IntsLaw Cd Rows2 Tab TabSpec Exact Atom QryMath QrySpec QryImp MkAtom AnsMath SlMath TabOpen TabElem QgMath AnsSpec AnsQ DbMath DbSpec Db DbExact QryFor AnsC AnsImp

theorem varsTo_stop {t L : Nat} (h : t < 2 ^ L) : ∀ d, varsTo t (L + d) = varsTo t L
  | 0 => rfl
  | d + 1 => by
    have hz : t / 2 ^ (L + d) = 0 := Nat.div_eq_of_lt (Nat.lt_of_lt_of_le h (Nat.pow_le_pow_right (by decide) (by omega)))
    rw [show L + (d + 1) = (L + d) + 1 by omega, varsTo_no (by rw [hz]; decide), varsTo_stop h d]
def atG (l : List A2) (v : Int) : A2 := l.getD v.toNat (⟨#[]⟩, [])
theorem selA_vars (l : List A2) (t : Nat) : ∀ k, k ≤ l.length → selA l t k = (varsTo t k).map (atG l)
  | 0, _ => rfl
  | k + 1, hk => by
    by_cases ht : t / 2 ^ k % 2 = 1
    · rw [selA_yes (by omega) ht, varsTo_yes ht, List.map_append, ← selA_vars l t k (by omega), List.map_singleton]
      unfold atG
      simp [show k < l.length by omega]
    · rw [selA_no ht, varsTo_no ht, selA_vars l t k (by omega)]
theorem selA_list {l : List A2} {t : Nat} (h4 : l.length ≤ 4) (ht : t < 2 ^ l.length) : selA l t l.length = (varsL t).map (atG l) := by
  rw [selA_vars l t _ (Nat.le_refl _)]
  unfold varsL
  rw [← varsTo_stop ht (4 - l.length), show l.length + (4 - l.length) = 4 by omega]
theorem vars_lt {l : List A2} {t : Nat} (h4 : l.length ≤ 4) (ht : t < 2 ^ l.length) : ∀ v ∈ varsL t, 0 ≤ v ∧ v < l.length := by
  unfold varsL
  rw [show (4 : Nat) = l.length + (4 - l.length) by omega, varsTo_stop ht]
  intro v hv
  unfold varsTo at hv
  obtain ⟨k, hk, rfl⟩ := List.mem_map.1 hv
  have := List.mem_range.1 (List.mem_filter.1 hk).1
  show 0 ≤ (k : Int) ∧ (k : Int) < _
  omega
theorem maL_nat {t : Nat} (h : t < 16) : maL (t : Int) = varsL t := by
  unfold maL
  rw [if_pos (by omega)]
  rfl

def rawsR : Cd (List (Value × Value)) := Cd.sl 80 raw2
theorem info_rel : (Tryz.prog.info? 80).map (fun i => (i.zero, i.size, i.bytes)) = some (some (.agg #[.slice none 0 0, .slice none 0 0]), 2, 48) := by kernel_rfl
/-- The relations so far: the atoms' variables where they lie, the rows in blocks that the loop leaves alone. -/
def PsI (w : World) (S : Nat → Prop) (wr : World) (d : List T3) (ps : List (Value × Value)) (al : List A2) (f1 : List Nat) : Prop :=
  ps.length = al.length ∧ ∀ i (h : i < ps.length) (h' : i < al.length), rowC.rd w S [ps[i].1] al[i].2 ∧ rowsC.rd wr (fun b => b ∉ f1) [ps[i].2] (lkT d al[i].1).2.2
theorem PsI.later {w : World} {S : Nat → Prop} {wr w' : World} {d : List T3} {ps : List (Value × Value)} {al : List A2} {f1 : List Nat} (h : PsI w S wr d ps al f1) (hb : Below wr.heap.size wr w') : PsI w S w' d ps al f1 :=
  ⟨h.1, fun i h1 h2 => ⟨(h.2 i h1 h2).1, Cd.later (h.2 i h1 h2).2 hb⟩⟩
theorem PsI.touched {w : World} {S : Nat → Prop} {wr w' : World} {d : List T3} {ps : List (Value × Value)} {al : List A2} {f1 f' : List Nat} (h : PsI w S wr d ps al f1) (ht : Cd.Touch f1 wr w') (hs : ∀ b ∈ f', b ∈ f1 ∨ wr.heap.size ≤ b) : PsI w S w' d ps al f' :=
  ⟨h.1, fun i h1 h2 => ⟨(h.2 i h1 h2).1, Cd.mono _ (Cd.touched (Cd.mono _ (h.2 i h1 h2).2 (T := fun b => b ∉ f1 ∧ b < wr.heap.size) (fun b hb hn => ⟨hn, hb⟩)) ht (fun b hb q => q.1 hb)) (fun b _ hn q => by
    rcases hs b q with r | r
    · exact hn.1 r
    · have := hn.2; omega)⟩⟩
theorem PsI.snoc {w : World} {S : Nat → Prop} {wr : World} {d : List T3} {ps : List (Value × Value)} {al : List A2} {f1 : List Nat} (h : PsI w S wr d ps al f1) {x y : Value} {A : A2} (k1 : rowC.rd w S [x] A.2) (k2 : rowsC.rd wr (fun b => b ∉ f1) [y] (lkT d A.1).2.2) : PsI w S wr d (ps ++ [(x, y)]) (al ++ [A]) f1 := by
  refine ⟨by rw [List.length_append, List.length_append, h.1]; rfl, fun i h1 h2 => ?_⟩
  by_cases hi : i < ps.length
  · have hi2 : i < al.length := by rw [← h.1]; exact hi
    rw [List.getElem_append_left hi, List.getElem_append_left hi2]
    exact h.2 i hi hi2
  · have e : i = ps.length := by rw [List.length_append] at h1; simp at h1; omega
    subst e
    have e2 : ps.length = al.length := h.1
    simp only [List.getElem_append_right (Nat.le_refl _), Nat.sub_self, List.getElem_cons_zero]
    rw [List.getElem_append_right (by omega)]
    simp only [e2, Nat.sub_self, List.getElem_cons_zero]
    exact ⟨k1, k2⟩
/-- What the program's loop keeps. -/
structure EvI (w wr : World) (dv : Value) (n : Int) (qv : Value) (ps : List (Value × Value)) (V : List Int) (o1 lv : Value) (f1 fL : List Nat) : Prop where
  c3 : Loc1 wr w.heap.size dv
  c4 : Atom.Loc2 wr (w.heap.size + 1) (.int .i64 n) qv
  c6 : Atom.Loc2 wr (w.heap.size + 1 + 1) (.slice none 0 0) (.slice none 0 0)
  t : rawsR.ow wr (w.heap.size + 3) [o1] ps f1
  tn : f1.Nodup
  a : rowC.ow wr (w.heap.size + 3) [lv] V fL
  dis : ∀ b ∈ fL, b ∉ f1
  hb : Below w.heap.size w wr
  sz : w.heap.size + 3 ≤ wr.heap.size
theorem EvI.later {w wr w' : World} {dv : Value} {n : Int} {qv : Value} {ps : List (Value × Value)} {V : List Int} {o1 lv : Value} {f1 fL : List Nat} (h : EvI w wr dv n qv ps V o1 lv f1 fL) (hb : Below wr.heap.size wr w') : EvI w w' dv n qv ps V o1 lv f1 fL :=
  ⟨h.c3.later hb, h.c4.later hb, h.c6.later hb, Cd.ow_later h.t hb, h.tn, Cd.ow_later h.a hb, h.dis, below_then h.hb hb, Nat.le_trans h.sz hb.size⟩
theorem EvI.f1_ge {w wr : World} {dv : Value} {n : Int} {qv : Value} {ps : List (Value × Value)} {V : List Int} {o1 lv : Value} {f1 fL : List Nat} (h : EvI w wr dv n qv ps V o1 lv f1 fL) : ∀ b ∈ f1, w.heap.size + 3 ≤ b ∧ b < wr.heap.size := fun b hb => rawsR.ow_lt h.t b hb
theorem EvI.put {w wA w5 : World} {dv : Value} {n : Int} {qv : Value} {ps ps' : List (Value × Value)} {V : List Int} {o1 lv o' : Value} {f1 fL f' : List Nat} (h : EvI w wA dv n qv ps V o1 lv f1 fL) (ho : rawsR.ow w5 (w.heap.size + 3) [o'] ps' f') (hn : f'.Nodup)
    (hs : ∀ b ∈ f', b ∈ f1 ∨ b ∈ ([] : List Nat) ∨ wA.heap.size ≤ b) (ht : Cd.Touch f1 wA w5) : EvI w w5 dv n qv ps' V o' lv f' fL := by
  have h1 := h.f1_ge
  refine ⟨h.c3.touched ht (fun q => by have := h1 _ q; omega), h.c4.touched ht (fun q => by have := h1 _ q; omega), h.c6.touched ht (fun q => by have := h1 _ q; omega), ho, hn, Cd.ow_touched h.a ht h.dis, fun b hb q => ?_, Cd.Touch.below h.hb ht (fun b hb => by have := h1 b hb; omega), Nat.le_trans h.sz ht.size⟩
  rcases hs b q with r | r | r
  · exact h.dis b hb r
  · cases r
  · have := (rowC.ow_lt h.a b hb).2; omega
theorem start_ev {w W : World} {dv : Value} {n : Int} {qv : Value} {e3 e4 e6 : TypeId} (h : ((w.alloc (.cells #[dv] e3 (0, 0))).alloc (.cells #[.int .i64 n, qv] e4 (0, 0))).alloc (.cells #[.slice none 0 0, .slice none 0 0] e6 (0, 0)) = W) :
    Loc1 W w.heap.size dv ∧ Atom.Loc2 W (w.heap.size + 1) (.int .i64 n) qv ∧ Atom.Loc2 W (w.heap.size + 1 + 1) (.slice none 0 0) (.slice none 0 0) ∧ Below w.heap.size w W ∧ W.heap.size = w.heap.size + 3 := by
  obtain ⟨r0, r1, r2, hz, hb0⟩ := start3 w _ _ _ h
  exact ⟨Loc1.of r0, Atom.Loc2.of r1, Atom.Loc2.of r2, hb0, hz⟩
theorem ltI_alloc (w : World) (o : Obj) : w.heap.size < (w.alloc o).heap.size := by rw [size_alloc]; exact Nat.lt_succ_self _

set_option maxRecDepth 100000 in
set_option maxHeartbeats 6400000 in
theorem impl_eval (u v : Value) (d : List T3) (n m : Int) (l : List A2) (S1 S2 : Nat → Prop) (w : World) (h1 : tabsC.rd w S1 [u] d) (h2 : atomsC.rd w S2 [v] l) (hw : SlTable.wtS d ≤ 1048577) (hs : ∀ A ∈ l, A.1.size ≤ 1048576) :
    Calls Tryz.prog 10 #[.agg #[u], .agg #[.int .i64 n, v], .int .i64 m] w fun e w' => EvAns (evV d n l m) (evR d n l m) (evOk d n l m) w e w' := by
  have HF := Lib.hid (fun w' (hb : Below w.heap.size w w') => impl_for u v d n l S1 S2 w' (Cd.later h1 hb) (Cd.later h2 hb) hw hs)
  have HFM := Lib.hid (fun w' (hb : Below w.heap.size w w') => QgImp.impl_full n v l S2 w' (Cd.later h2 hb))
  have HMV := Lib.hid (fun w' (hb : Below w.heap.size w w') => impl_maskvars n m v l S2 w' (Cd.later h2 hb))
  have HL := Lib.hid (fun nm (hnm : nm.size ≤ 1048576) w' (hb : Below w.heap.size w w') => DbImp.impl_look u d nm S1 w' (Cd.later h1 hb) hw hnm)
  have HRD := Lib.hid h2
  have HSZ := Lib.hid hs
  obtain ⟨a1, cap1, rfl, _⟩ := Cd.sl_form h1
  obtain ⟨a, cap, rfl, _⟩ := Cd.sl_form h2
  clear h1 h2 hw hs
  cases hfo : forOk d n l
  · have hno : evOk d n l m = false := by unfold evOk; rw [hfo]; rfl
    rw [(ev_no hno).1, (ev_no hno).2, hno]
    rw [hfo] at HF
    clear hfo hno
    go_enter Tryz.func10, Tryz.ntmps10
    go_wp2_with fail
    generalize hW : ((w.alloc _).alloc _).alloc _ = W
    obtain ⟨l3, l4, l6, hb0, hz⟩ := start_ev hW
    clear hW
    refine (HF.out _ hb0).mono ?_
    rintro e w1 ⟨rfl, hb1⟩
    have c0 := (l6.later hb1).c0
    have c1 := (l6.later hb1).c1
    have f0 := (l6.later hb1).f0
    have f1 := (l6.later hb1).f1
    have HB := Lib.hid (below_then hb0 hb1)
    have HK := Lib.hid (Loc2.set_both (l6.later hb1) (.slice none 0 0) (.slice none 0 0))
    clear hb0 hb1 l3 l4 l6 hz
    go_wp2_with fail
    have k0 := HK.out.c0
    have k1 := HK.out.c1
    refine bodyPost_ret (v := .tuple #[.agg #[.slice none 0 0, .slice none 0 0], .bool false]) (by simp [results, Tryz.results10, go_sem, k0, k1]) rfl (EvAns.no ((HB.out.setCell (by show _ ≤ w.heap.size + 1 + 1; omega) _).setCell (by show _ ≤ w.heap.size + 1 + 1; omega) _))
  rw [hfo] at HF
  by_cases hm1 : m < 1
  · have hno : evOk d n l m = false := by unfold evOk; rw [hfo, decide_eq_false (by omega)]; rfl
    rw [(ev_no hno).1, (ev_no hno).2, hno]
    clear hfo hno
    go_enter Tryz.func10, Tryz.ntmps10
    go_wp2_with fail
    generalize hW : ((w.alloc _).alloc _).alloc _ = W
    obtain ⟨l3, l4, l6, hb0, hz⟩ := start_ev hW
    clear hW
    refine (HF.out _ hb0).mono ?_
    rintro e w1 ⟨rfl, hb1⟩
    have c0 := (l6.later hb1).c0
    have c1 := (l6.later hb1).c1
    have f0 := (l6.later hb1).f0
    have f1 := (l6.later hb1).f1
    have HB := Lib.hid (below_then hb0 hb1)
    have HK := Lib.hid (Loc2.set_both (l6.later hb1) (.slice none 0 0) (.slice none 0 0))
    clear hb0 hb1 l3 l4 l6 hz
    go_wp2_with fail
    have k0 := HK.out.c0
    have k1 := HK.out.c1
    refine bodyPost_ret (v := .tuple #[.agg #[.slice none 0 0, .slice none 0 0], .bool false]) (by simp [results, Tryz.results10, go_sem, k0, k1]) rfl (EvAns.no ((HB.out.setCell (by show _ ≤ w.heap.size + 1 + 1; omega) _).setCell (by show _ ≤ w.heap.size + 1 + 1; omega) _))
  by_cases hm2 : (fm n l : Int) < m
  · have hno : evOk d n l m = false := by unfold evOk; rw [hfo, decide_eq_false (by omega)]; rfl
    rw [(ev_no hno).1, (ev_no hno).2, hno]
    clear hfo hno
    generalize (fm n l : Int) = F at *
    go_enter Tryz.func10, Tryz.ntmps10
    go_wp2_with fail
    generalize hW : ((w.alloc _).alloc _).alloc _ = W
    obtain ⟨l3, l4, l6, hb0, hz⟩ := start_ev hW
    clear hW
    refine (HF.out _ hb0).mono ?_
    rintro e w1 ⟨rfl, hb1⟩
    have L6 := Lib.hid (l6.later hb1)
    have y0 := (l4.later hb1).c0
    have y1 := (l4.later hb1).c1
    have HB := Lib.hid (below_then hb0 hb1)
    clear hb0 hb1 l3 l4 l6 hz
    go_wp2_with fail
    refine (HFM.out _ HB.out).mono ?_
    rintro e w2 ⟨rfl, hb2⟩
    have HB2 := Lib.hid (below_then HB.out hb2)
    have l6 := L6.out.later hb2
    have c0 := l6.c0
    have c1 := l6.c1
    have f0 := l6.f0
    have f1 := l6.f1
    have HK := Lib.hid (Loc2.set_both l6 (.slice none 0 0) (.slice none 0 0))
    clear hb2 l6 y0 y1
    go_wp2_with fail
    have k0 := HK.out.c0
    have k1 := HK.out.c1
    refine bodyPost_ret (v := .tuple #[.agg #[.slice none 0 0, .slice none 0 0], .bool false]) (by simp [results, Tryz.results10, go_sem, k0, k1]) rfl (EvAns.no ((HB2.out.setCell (by show _ ≤ w.heap.size + 1 + 1; omega) _).setCell (by show _ ≤ w.heap.size + 1 + 1; omega) _))
  have hok : evOk d n l m = true := by unfold evOk; rw [hfo, decide_eq_true (by omega)]; rfl
  obtain ⟨t, rfl, ht1, ht16, htl, hmb⟩ := evOk_mB hok
  have HOK := Lib.hid hok
  have HFO := Lib.hid hfo
  have HQP := Lib.hid (for_qp hfo)
  have HMB := Lib.hid hmb
  have HT := Lib.hid (And.intro ht16 htl)
  have HMA := Lib.hid (fun w' => QgImp.impl_maskatoms (t : Int) w')
  rw [maL_nat ht16] at HMA
  clear hfo hok ht1 htl hmb
  have HF1 := Lib.hid hm2
  generalize (fm n l : Int) = F at *
  have q1 : ¬ (t : Int) < 1 := hm1
  have q2 : ¬ F < (t : Int) := hm2
  clear hm1 hm2
  go_enter Tryz.func10, Tryz.ntmps10
  go_wp2_with fail
  generalize hW : ((w.alloc _).alloc _).alloc _ = W
  obtain ⟨l3, l4, l6, hb0, hz⟩ := start_ev hW
  clear hW
  refine (HF.out _ hb0).mono ?_
  rintro e w1 ⟨rfl, hb1⟩
  have L3 := Lib.hid (l3.later hb1)
  have L4 := Lib.hid (l4.later hb1)
  have L6 := Lib.hid (l6.later hb1)
  have HB := Lib.hid (below_then hb0 hb1)
  have HZ := Lib.hid (show w.heap.size + 3 ≤ w1.heap.size by have := hb1.size; omega)
  clear hb0 hb1 l3 l4 l6 hz
  have y0 := L4.out.c0
  have y1 := L4.out.c1
  go_wp2_with fail
  refine (HFM.out _ HB.out).mono ?_
  rintro e w2 ⟨rfl, hb2⟩
  have HB2 := Lib.hid (below_then HB.out hb2)
  have HZ2 := Lib.hid (show w.heap.size + 3 ≤ w2.heap.size by have := hb2.size; have := HZ.out; omega)
  replace L3 := Lib.hid (L3.out.later hb2)
  replace L4 := Lib.hid (L4.out.later hb2)
  replace L6 := Lib.hid (L6.out.later hb2)
  clear hb2 y0 y1
  go_wp2_with fail
  refine (HMA.out w2).mono ?_
  rintro e w3 ⟨lv, fL, rfl, hol, hnl, hb3⟩
  obtain ⟨al, cl, rfl⟩ := Cd.ow_slice hol
  have hst : EvI w w3 (.slice a1 d.length cap1) n (.slice a l.length cap) [] (varsL t) (.slice none 0 0) (.slice al (varsL t).length cl) [] fL :=
    ⟨L3.out.later hb3, L4.out.later hb3, L6.out.later hb3, Cd.ow_nil _ _, by simp, rowC.ow_base hol HZ2.out, fun _ _ q => by simp at q, below_then HB2.out hb3, Nat.le_trans HZ2.out hb3.size⟩
  have HST := Lib.hid hst
  have HVB := Lib.hid (vars_lt HQP.out.2.2.2.1 HT.out.2)
  have HV4 := Lib.hid (varsL_len t)
  have HSL := Lib.hid (selA_list HQP.out.2.2.2.1 HT.out.2)
  clear hst L3 L4 L6 HZ HZ2 HB HB2 hol hnl hb3
  generalize varsL t = V at *
  go_wp2_with fail
  go_loopw [8, 32] (fun o1 i wr => ∃ (k : Nat) (f1 : List Nat) (ps : List (Value × Value)), k ≤ V.length ∧ i = .int .i64 k ∧ EvI w wr (.slice a1 d.length cap1) n (.slice a l.length cap) ps V o1 (.slice al V.length cl) f1 fL ∧ Hid (PsI w S2 wr d ps ((V.take k).map (atG l)) f1)) (fun _ i _ => V.length - (intOf i).toNat)
  case atStart => exact ⟨0, _, [], Nat.zero_le _, rfl, HST.out, Lib.hid ⟨rfl, fun i h => by simp at h⟩⟩
  case round =>
    obtain ⟨k, f1, ps, hk, rfl, hst, hps⟩ := hrel
    obtain ⟨ao1, co1, rfl⟩ := Cd.ow_slice (c := raw2) hst.t
    have HST := Lib.hid hst
    by_cases hlt : k < V.length
    · obtain ⟨bl, ol, cl', e1, _, hcl⟩ := ri_at (row_ri (rowC.ow_rd hst.a)).1 hlt
      injection e1 with e1 e2 e3
      subst e1 e3
      have hvb := HVB.out _ (List.getElem_mem hlt)
      have y1 := hst.c4.c1
      obtain ⟨z, hz⟩ := Int.eq_ofNat_of_zero_le hvb.1
      have hzl : z < l.length := by omega
      obtain ⟨b, off, cap', us, e1, hSb, hbB, hat, hu⟩ := Cd.sl_at HRD.out hzl
      injection e1 with e1 e2 e3
      subst e1 e3
      obtain ⟨ua, rfl, hsz, hua⟩ := atom_cells hu
      obtain ⟨au, cu, rfl, _⟩ := row_form hua
      have q0 := hat 0 (by simp)
      have q1' := hat 1 (by simp)
      simp only [List.getElem_cons_zero, List.getElem_cons_succ, Nat.add_zero, show atomC.n = 2 from rfl] at q0 q1'
      have HQ := Lib.hid (And.intro q0 (And.intro q1' hbB))
      have p1 : (0 : Int) ≤ (k : Int) := by omega
      have p2 : (k : Int) < (V.length : Int) := by omega
      have p5 : (k : Int) < 4 := by have := HV4.out; omega
      have i1 : (0 : Int) ≤ (z : Int) := by omega
      have i2 : (z : Int) < (l.length : Int) := by omega
      have HLT := Lib.hid hlt
      have HTK := Lib.hid (show (V.take (k + 1)).map (atG l) = (V.take k).map (atG l) ++ [l[z]] by
        rw [List.take_succ_eq_append_getElem hlt, List.map_append, List.map_singleton, hz]
        unfold atG
        simp [hzl])
      rw [hz] at hcl
      have hft := for_tab HFO.out (List.getElem_mem hzl)
      have HSOME := Lib.hid hft.2.2
      have HNS := Lib.hid (HSZ.out _ (List.getElem_mem hzl))
      have HUA := Lib.hid hua
      have HPS := Lib.hid hps.out
      clear hu hat q0 q1' hua e2 hft hst hps hvb hz hsz hSb
      generalize l[z] = A at *
      clear hzl hlt
      generalize hTT : lkT d A.1 = T at *
      have HLK := Lib.hid (fun w' (hq : LaterQ wr w') => (show Calls Tryz.prog 47 #[.agg #[.slice a1 d.length cap1], .string A.1] w' fun e w'' => ∃ ta tc fp, e = .returned (.tuple #[.agg #[.string T.1, .int .i64 T.2.1, .slice ta T.2.2.length tc], .bool true]) ∧ rowsC.ow w'' w'.heap.size [.slice ta T.2.2.length tc] T.2.2 fp ∧ fp.Nodup ∧ Below w'.heap.size w' w'' from
        (HL.out A.1 HNS.out w' (below_then HST.out.hb hq)).mono (by
          rintro e w'' ⟨tv, fp, rfl, how, hnd, hbq⟩
          rw [hTT] at how ⊢
          rw [HSOME.out]
          obtain ⟨ta, tc, rfl⟩ := Cd.ow_slice (c := rowC) how
          exact ⟨ta, tc, fp, rfl, how, hnd, hbq⟩)))
      have HTT := Lib.hid hTT
      have hq0 := (HST.out.hb.cell (p := ⟨b, off + z * 2, none⟩) HQ.out.2.2).trans HQ.out.1
      have lb : b < wr.heap.size := Nat.lt_of_lt_of_le HQ.out.2.2 HST.out.hb.size
      have g0 := HST.out.c3.c0
      have gl0 := HST.out.c3.lt
      have gl1 := HST.out.c4.lt
      have HSQ := Lib.hid (fun wx (h : LaterQ wr wx) => (show wx.cell? ⟨w.heap.size, 0, none⟩ = some (.slice a1 d.length cap1) ∧ wx.cell? ⟨w.heap.size + 1, 1, none⟩ = some (.slice (some ⟨b, off, none⟩) l.length cap) ∧ wx.cell? ⟨b, off + z * 2, none⟩ = some (.string A.1) ∧ LaterQ wr wx from
        ⟨(Below.cell h (p := ⟨w.heap.size, 0, none⟩) gl0).trans g0, (Below.cell h (p := ⟨w.heap.size + 1, 1, none⟩) gl1).trans y1, (Below.cell h (p := ⟨b, off + z * 2, none⟩) lb).trans hq0, h⟩))
      clear hq0 lb g0 gl0 gl1 hTT y1
      go_upto_region 7 with fail
      have kk : LaterQ wr wr.drew := (Below.refl _ wr).drew
      go_cut [11, 12] (fun s11 s12 wx => s12 = .bool true ∧ MadeO wr T s11 wx)
      case first =>
        go_region_held3 (fun wx => wx.cell? ⟨w.heap.size, 0, none⟩ = some (.slice a1 d.length cap1) ∧ wx.cell? ⟨w.heap.size + 1, 1, none⟩ = some (.slice (some ⟨b, off, none⟩) l.length cap) ∧ wx.cell? ⟨b, off + z * 2, none⟩ = some (.string A.1) ∧ LaterQ wr wx)
          ((refine HSQ.out _ ?_; first | assumption | exact Below.drew (Below.refl _ wr) | exact later_alloc (by assumption) _ | exact later_drewA wr _ | exact later_set3 (by first | assumption | exact later_alloc (by assumption) _) (later_size (by first | assumption | exact Below.refl _ _))))
          (first | (go_at_call 47; refine (HLK.out _ (by first | assumption | exact later_alloc (by assumption) _ | exact later_drewA wr _)).mono ?_; rintro e wq ⟨ta, tc, fT, rfl, how, hnd, hbq⟩; (have kk : LaterQ wr wq := (show Below wr.heap.size wr wq by refine below_then (show LaterQ wr _ from ?_) hbq; first | assumption | exact later_alloc (by assumption) _ | exact later_drewA wr _)); (have HOW := Lib.hid (And.intro how hnd)); (first | (have GL := Lib.hid (GL.out.later hbq)) | (have GL := Lib.hid (locQ_new' hbq)) | (have GL := Lib.hid (locQ_new hbq)) | (have GL := Lib.hid (locQ_new3 hbq)) | skip); (first | (have x0 := GL.out.c0; have x1 := GL.out.c1; have x2 := GL.out.c2; have f0 := GL.out.f0; have f1 := GL.out.f1; have f2 := GL.out.f2) | skip); (have hS := HSQ.out wq kk); (have k0 := hS.1); (have k1 := hS.2.1); (have k2 := hS.2.2.1); clear hbq how hnd hS))
        all_goals
          go_wp2_with fail
          go_meet
          refine ⟨rfl, ?_⟩
          first
            | (have GG := GL.out; exact madeO (by assumption) (later_size (by first | assumption | exact Below.refl _ _)) GG HOW.out.1 HOW.out.2 (ltI_alloc _ _))
            | ((with_reducible refine madeO2 (by assumption) HOW.out.1 HOW.out.2 ?_); exact Nat.le_refl wr.heap.size)
      case rest =>
        obtain ⟨rfl, kp, ta, tc, fT, rfl, hkp, hl3, hoT, hnT, hlat⟩ := hcut
        have hX := HST.out.later hlat
        have HX := Lib.hid hX
        have x2 := hl3.c2
        have z1 := hX.c4.c1
        have r1 := (hX.hb.cell (p := ⟨b, off + z * 2 + 1, none⟩) HQ.out.2.2).trans HQ.out.2.1
        have hA : Below wc.heap.size wc (wc.drew.alloc (.cells #[.slice au A.2.length cu, .slice ta T.2.2.length tc] 80 (0, 0))) := (Below.drew (Below.refl _ wc)).alloc (Nat.le_refl _) _
        have HXA := Lib.hid (hX.later hA)
        have HPA := Lib.hid (PsI.later (PsI.later HPS.out hlat) hA)
        have HRW := Lib.hid (show rowsC.rd (wc.drew.alloc (.cells #[.slice au A.2.length cu, .slice ta T.2.2.length tc] 80 (0, 0))) (fun b => b ∉ f1) [.slice ta T.2.2.length tc] T.2.2 from Cd.later (Cd.mono _ (rowsC.ow_rd hoT) (fun b _ hb q => by
          have h1 := (rowsC.ow_lt hoT b hb).1
          have h2 := (HST.out.f1_ge b q).2
          omega)) hA)
        have HAT := Lib.hid (QryPar.at2 (row_alloc wc.drew (.cells #[.slice au A.2.length cu, .slice ta T.2.2.length tc] 80 (0, 0))))
        have HPL := Lib.hid (show ps.length + 1 ≤ 1000000000 by have h0 := HPS.out.1; rw [List.length_map, List.length_take] at h0; have := HV4.out; omega)
        clear hX hA hl3 hoT hnT hlat hkp kk
        generalize T.2.2.length = tn at *
        go_wp2_with fail
        go_region_law (first | (refine Cd.step_appendN (c := raw2) rfl (.tmp 47) (.tmp 57) 78 rfl (w.heap.size + 3) 80 (.agg #[.slice none 0 0, .slice none 0 0]) 2 48 rfl Tryz.underlying78 info_rel rfl (by decide) (.slice ao1 ps.length co1) ps f1 rfl HXA.out.t HXA.out.tn wc.heap.size [.slice au A.2.length cu, .slice ta tn tc] rfl HAT.out (.slice au A.2.length cu, .slice ta tn tc) [] ⟨rfl, ⟨rfl, rfl⟩, rfl⟩ (by simp) (by simp) HPL.out HXA.out.sz ?_; intro g6 cap6 w6 f6 ho6 hn6 hs6 ht6))
        all_goals
          have HY := Lib.hid (HXA.out.put ho6 hn6 (by rw [size_alloc]; simpa using hs6) ht6)
          have HP6 := Lib.hid (show PsI w S2 w6 d (ps ++ [(.slice au A.2.length cu, .slice ta tn tc)]) ((V.take (k + 1)).map (atG l)) f6 by
            rw [HTK.out]
            exact (HPA.out.snoc HUA.out (by rw [HTT.out]; exact HRW.out)).touched ht6 (fun b hb => by
              rcases hs6 b hb with q | q | q
              · exact .inl q
              · cases q
              · exact .inr (by rw [size_alloc]; simpa using q)))
          clear ho6 hn6 hs6 ht6 x2 z1 r1
          go_wp2_with fail
          go_roundw
          case rel => exact ⟨k + 1, f6, _, by have := HLT.out; omega, by go_num, HY.out, HP6⟩
          case measure => have := HLT.out; simp [intOf]; omega
    · have ek : k = V.length := by omega
      subst ek
      rw [List.take_length, ← HSL.out] at hps
      have HPS := Lib.hid hps.out
      have hfo := HFO.out
      have hcov := AnsQ.cover hfo t
      have hrin := rels_in hfo t
      have hrle := rels_le hfo t
      rw [← HMB.out] at hcov
      have HVL := Lib.hid (varsL_len (mB n l (t : Int)))
      have HVB2 := Lib.hid (varsL_bd (s := mB n l (t : Int)))
      have HRES := Lib.hid (show evV d n l (t : Int) = varsL (mB n l (t : Int)) ∧ evR d n l (t : Int) = walkL (varsL (mB n l (t : Int))) (relsQ d (selA l t l.length)) (varsL (mB n l (t : Int))).length [] by
        unfold evV evR
        rw [HOK.out]
        exact ⟨rfl, rfl⟩)
      have HJC := Lib.hid (And.intro hcov (And.intro hrin hrle))
      have y0 := hst.c4.c0
      have y1 := hst.c4.c1
      clear hps hlt hk hst hfo hcov hrin hrle
      generalize varsL (mB n l (t : Int)) = vs at *
      generalize selA l t l.length = LA at *
      go_wp2_with fail
      refine (HMV.out _ HST.out.hb).mono ?_
      rintro e w5 ⟨uv, fv, rfl, hov, hnv, hb5⟩
      obtain ⟨av, cv, rfl⟩ := Cd.ow_slice hov
      have hX := HST.out.later hb5
      have HXA := Lib.hid hX
      have HOV := Lib.hid (rowC.ow_base hov HST.out.hb.size)
      have HNV := Lib.hid hnv
      have HVG := Lib.hid (show ∀ b ∈ fv, w.heap.size + 3 ≤ b from fun b hb => Nat.le_trans HST.out.sz (rowC.ow_lt hov b hb).1)
      have hlen : ps.length = (relsQ d LA).length := by unfold relsQ; rw [List.length_map]; exact HPS.out.1
      have hrel := raw_rd (c := relC) rfl hX.t hlen (S := fun _ => True) (fun i h h' => by
        have hi : i < LA.length := by rw [← HPS.out.1]; exact h
        have e1 : (relsQ d LA)[i] = relOf (lkT d LA[i].1) LA[i] := List.getElem_map ..
        rw [e1]
        obtain ⟨k1, k2⟩ := HPS.out.2 i h hi
        exact ⟨[_], [_], rfl, Cd.mono _ (Cd.below (c := rowC) (Cd.mono _ k1 (T := (· < w.heap.size)) fun b hb _ => hb) hX.hb) fun _ _ _ => trivial, Cd.mono _ (Cd.later k2 hb5) fun _ _ _ => trivial⟩) (fun _ _ => trivial)
      have HCALL := Lib.hid (impl_join _ _ vs (relsQ d LA) _ _ w5 (rowC.ow_rd hov) hrel HJC.out.1 HJC.out.2.1 HVB2.out HVL.out HJC.out.2.2)
      clear hX hov hnv hb5 hlen hrel y0 y1
      go_wp2_with fail
      refine HCALL.out.mono ?_
      rintro e w6 ⟨rv, fr, rfl, hor, hnr, hb6⟩
      obtain ⟨ar, cr, rfl⟩ := Cd.ow_slice (c := rowC) hor
      have hY := HXA.out.later hb6
      have HY := Lib.hid hY.hb
      have HOV2 := Lib.hid (Cd.ow_later HOV.out hb6)
      have HOR := Lib.hid (rowsC.ow_base hor HXA.out.hb.size)
      have HNR := Lib.hid (show (fv ++ fr).Nodup from List.nodup_append.2 ⟨HNV.out, hnr, fun a ha b hb q => by
        have h1 := (rowC.ow_lt HOV.out a ha).2
        have h2 := (rowsC.ow_lt hor b hb).1
        omega⟩)
      have HFV := Lib.hid (show w.heap.size + 1 + 1 ∉ fv ++ fr from fun q => by
        rcases List.mem_append.1 q with q | q
        · have := HVG.out _ q; omega
        · have h2 := (rowsC.ow_lt hor _ q).1
          have h3 := HXA.out.sz
          omega)
      have c0 := hY.c6.c0
      have c1 := hY.c6.c1
      have f0 := hY.c6.f0
      have f1 := hY.c6.f1
      have HK := Lib.hid (Loc2.set_both hY.c6 (.slice av vs.length cv) (.slice ar (walkL vs (relsQ d LA) vs.length []).length cr))
      clear hY hor hnr hb6
      go_wp2_with fail
      have k0 := HK.out.c0
      have k1 := HK.out.c1
      refine bodyPost_ret (v := .tuple #[.agg #[.slice av vs.length cv, .slice ar (walkL vs (relsQ d LA) vs.length []).length cr], .bool true]) (by simp [results, Tryz.results10, go_sem, k0, k1]) rfl
        (by
          rw [HRES.out.1, HRES.out.2, HOK.out]
          exact ⟨_, _, fv ++ fr, rfl, Tab.ow_setCell (c := ansC) (Tab.ow_setCell (c := ansC) (ans_ow HOV2.out HOR.out) HFV.out _) HFV.out _, HNR.out, (HY.out.setCell (by show _ ≤ w.heap.size + 1 + 1; omega) _).setCell (by show _ ≤ w.heap.size + 1 + 1; omega) _⟩)
end Go.Proofs.YtdkhgeknjekkoaaGreat.AnsEv

namespace Go.Proofs.YtdkhgeknjekkoaaGreat.AnsEv
open Go Go.RowKit Byt Ints IntsLaw Cd Rows2 Tab TabSpec Exact Atom QryMath QrySpec QryImp MkAtom AnsMath SlMath TabOpen TabElem QgMath AnsSpec AnsQ DbMath DbSpec Db DbExact QryFor AnsC

def subN (d : List T3) (n : Int) (l : List A2) (m : Int) : Int := if evOk d n l m then ((evR d n l m).length : Int) else -1
theorem subN_no {d : List T3} {n m : Int} {l : List A2} (h : evOk d n l m = false) : subN d n l m = -1 := by unfold subN; rw [h]; rfl
theorem subN_yes {d : List T3} {n m : Int} {l : List A2} (h : evOk d n l m = true) : subN d n l m = ((evR d n l m).length : Int) := by unfold subN; rw [h]; rfl
set_option maxRecDepth 100000 in
set_option maxHeartbeats 1600000 in
theorem spec_sub (u v : Value) (d : List T3) (n m : Int) (l : List A2) (S1 S2 : Nat → Prop) (w : World) (h1 : tabsC.rd w S1 [u] d) (h2 : atomsC.rd w S2 [v] l) (hw : SlTable.wtS d ≤ 1048577) :
    Calls Tryz.prog 14 #[.agg #[u], .agg #[.int .i64 n, v], .int .i64 m] w fun e w' => e = .returned (.int .i64 (subN d n l m)) ∧ Below w.heap.size w w' := by
  have HE := Lib.hid (fun w' (hb : Below w.heap.size w w') => spec_eval u v d n m l S1 S2 w' (Cd.later h1 hb) (Cd.later h2 hb) hw)
  obtain ⟨a1, cap1, rfl, _⟩ := Cd.sl_form h1
  obtain ⟨a, cap, rfl, _⟩ := Cd.sl_form h2
  clear h1 h2 hw
  go_enter Tryz.func14, Tryz.ntmps14
  go_wp2_with fail
  have HB := Lib.hid (below_then (below_alloc w (.cells #[.slice a1 d.length cap1] 26 (0, 0))) (below_alloc _ (.cells #[.int .i64 n, .slice a l.length cap] 29 (0, 0))))
  refine (HE.out _ HB.out).mono ?_
  rintro e w1 ⟨v1, v2, fp, rfl, ho, _, hb1⟩
  obtain ⟨b1, k1, b2, k2, rfl, rfl⟩ := ans_shape ho
  have HB1 := Lib.hid (below_then HB.out hb1)
  clear ho hb1
  cases hok : evOk d n l m
  · have HZ := Lib.hid (subN_no hok)
    clear hok
    go_wp2_with fail
    go_ret
    exact ⟨ret_int HZ.out.symm, below_then HB1.out (below_alloc _ _)⟩
  · have HZ := Lib.hid (subN_yes hok)
    clear hok
    go_wp2_with fail
    go_ret
    exact ⟨ret_int HZ.out.symm, below_then HB1.out (below_alloc _ _)⟩
set_option maxRecDepth 100000 in
set_option maxHeartbeats 1600000 in
theorem impl_sub (u v : Value) (d : List T3) (n m : Int) (l : List A2) (S1 S2 : Nat → Prop) (w : World) (h1 : tabsC.rd w S1 [u] d) (h2 : atomsC.rd w S2 [v] l) (hw : SlTable.wtS d ≤ 1048577) (hs : ∀ A ∈ l, A.1.size ≤ 1048576) :
    Calls Tryz.prog 13 #[.agg #[u], .agg #[.int .i64 n, v], .int .i64 m] w fun e w' => e = .returned (.int .i64 (subN d n l m)) ∧ Below w.heap.size w w' := by
  have HE := Lib.hid (fun w' (hb : Below w.heap.size w w') => impl_eval u v d n m l S1 S2 w' (Cd.later h1 hb) (Cd.later h2 hb) hw hs)
  obtain ⟨a1, cap1, rfl, _⟩ := Cd.sl_form h1
  obtain ⟨a, cap, rfl, _⟩ := Cd.sl_form h2
  clear h1 h2 hw hs
  go_enter Tryz.func13, Tryz.ntmps13
  go_wp2_with fail
  have HB := Lib.hid (below_then (below_alloc w (.cells #[.slice a1 d.length cap1] 26 (0, 0))) (below_alloc _ (.cells #[.int .i64 n, .slice a l.length cap] 29 (0, 0))))
  refine (HE.out _ HB.out).mono ?_
  rintro e w1 ⟨v1, v2, fp, rfl, ho, _, hb1⟩
  obtain ⟨b1, k1, b2, k2, rfl, rfl⟩ := ans_shape ho
  have HB1 := Lib.hid (below_then HB.out hb1)
  clear ho hb1
  cases hok : evOk d n l m
  · have HZ := Lib.hid (subN_no hok)
    clear hok
    go_wp2_with fail
    go_ret
    exact ⟨ret_int HZ.out.symm, below_then HB1.out (below_alloc _ _)⟩
  · have HZ := Lib.hid (subN_yes hok)
    clear hok
    go_wp2_with fail
    go_ret
    exact ⟨ret_int HZ.out.symm, below_then HB1.out (below_alloc _ _)⟩
end Go.Proofs.YtdkhgeknjekkoaaGreat.AnsEv

namespace Go.Proofs.YtdkhgeknjekkoaaGreat.AnsEv
open Go Go.RowKit Byt Ints IntsLaw Cd Rows2 Tab TabSpec Exact Atom QryMath QrySpec QryImp MkAtom AnsMath SlMath TabOpen TabElem QgMath AnsSpec AnsQ DbMath DbSpec Db DbExact QryFor AnsC

/-- The size at a mask: of one that is not connected, 0. -/
def szAt (d : List T3) (n : Int) (l : List A2) (x : Nat) : Int := if conn (gr l) x then subN d n l (x : Int) else 0
def tsTo (d : List T3) (n : Int) (l : List A2) (k : Nat) : List Int := (List.range k).map (szAt d n l)
def tsL (d : List T3) (n : Int) (l : List A2) : List Int := if forOk d n l then tsTo d n l (fm n l + 1) else []
theorem tsTo_succ (d : List T3) (n : Int) (l : List A2) (k : Nat) : tsTo d n l (k + 1) = tsTo d n l k ++ [szAt d n l k] := by
  unfold tsTo
  rw [List.range_succ, List.map_append]
  rfl
theorem sub_bd (d : List T3) (n : Int) (l : List A2) (m : Int) : -1 ≤ subN d n l m ∧ subN d n l m ≤ 4096 := by
  have := ev_len d n m l
  unfold subN
  split <;> omega
theorem szAt_bd (d : List T3) (n : Int) (l : List A2) (x : Nat) : -1 ≤ szAt d n l x ∧ szAt d n l x ≤ 4096 := by
  have := sub_bd d n l (x : Int)
  unfold szAt
  split <;> omega
theorem szAt_no {d : List T3} {n : Int} {l : List A2} {x : Nat} (h : conn (gr l) x = false) : szAt d n l x = 0 := by unfold szAt; rw [h]; rfl
theorem szAt_yes {d : List T3} {n : Int} {l : List A2} {x : Nat} (h : conn (gr l) x = true) : szAt d n l x = subN d n l (x : Int) := by unfold szAt; rw [h]; rfl
theorem tsL_no {d : List T3} {n : Int} {l : List A2} (h : forOk d n l = false) : tsL d n l = [] := by unfold tsL; rw [h]; rfl
theorem tsL_yes {d : List T3} {n : Int} {l : List A2} (h : forOk d n l = true) : tsL d n l = tsTo d n l (fm n l + 1) := by unfold tsL; rw [h]; rfl
theorem tsL_len (d : List T3) (n : Int) (l : List A2) : (tsL d n l).length ≤ 16 := by
  have := fm_lt n l
  unfold tsL tsTo
  split
  · rw [List.length_map, List.length_range]; omega
  · simp
/-- The sizes so far: at the masks that were dealt with. -/
def tsI (d : List T3) (n : Int) (l : List A2) (c : List Int) (k : Nat) : List Int := (List.range (fm n l + 1)).map fun x : Nat => if hasI (c.take k) (x : Int) then subN d n l (x : Int) else 0
theorem tsI_zero (d : List T3) (n : Int) (l : List A2) (c : List Int) : tsI d n l c 0 = List.replicate (fm n l + 1) 0 := by
  unfold tsI hasI
  refine List.ext_getElem (by simp) fun x h1 h2 => ?_
  simp
theorem tsI_len (d : List T3) (n : Int) (l : List A2) (c : List Int) (k : Nat) : (tsI d n l c k).length = fm n l + 1 := by unfold tsI; rw [List.length_map, List.length_range]
theorem tsI_succ {d : List T3} {n : Int} {l : List A2} {c : List Int} {k t : Nat} (hk : k < c.length) (ht : c[k] = (t : Int)) : tsI d n l c (k + 1) = (tsI d n l c k).set t (subN d n l (t : Int)) := by
  refine List.ext_getElem (by rw [List.length_set, tsI_len, tsI_len]) fun x h1 h2 => ?_
  rw [List.getElem_set]
  have hg : ∀ j (h : x < (tsI d n l c j).length), (tsI d n l c j)[x] = if hasI (c.take j) (x : Int) then subN d n l (x : Int) else 0 := fun j h => by
    have := List.getElem_map (fun x : Nat => if hasI (c.take j) (x : Int) then subN d n l (x : Int) else 0) (l := List.range (fm n l + 1)) (i := x) (h := h)
    rw [List.getElem_range] at this
    exact this
  rw [hg, hg]
  have hh : hasI (c.take (k + 1)) (x : Int) = (hasI (c.take k) (x : Int) || decide (t = x)) := by
    unfold hasI
    rw [List.take_succ_eq_append_getElem hk, ht]
    rw [Bool.eq_iff_iff]
    simp only [List.contains_iff_mem, List.mem_append, List.mem_singleton, Bool.or_eq_true, decide_eq_true_eq]
    exact or_congr Iff.rfl ⟨fun q => by omega, fun q => by omega⟩
  rw [hh]
  by_cases e : t = x
  · subst e
    simp
  · rw [if_neg e, decide_eq_false e, Bool.or_false]
theorem tsI_all (d : List T3) (n : Int) (l : List A2) : tsI d n l (cmL n l) (cmL n l).length = tsTo d n l (fm n l + 1) := by
  unfold tsI tsTo
  refine List.map_congr_left fun x hx => ?_
  have hx := List.mem_range.1 hx
  rw [List.take_length]
  unfold szAt hasI
  have : (cmL n l).contains (x : Int) = conn (gr l) x := by
    rw [Bool.eq_iff_iff, List.contains_iff_mem]
    unfold cmL
    rw [mem_fil]
    constructor
    · rintro ⟨y, _, h, e⟩
      have : x = y := by omega
      rw [this]; exact h
    · intro h
      exact ⟨x, hx, h, rfl⟩
  rw [this]

set_option maxRecDepth 100000 in
set_option maxHeartbeats 3200000 in
theorem spec_true (u v : Value) (d : List T3) (n : Int) (l : List A2) (S1 S2 : Nat → Prop) (w : World) (h1 : tabsC.rd w S1 [u] d) (h2 : atomsC.rd w S2 [v] l) (hw : SlTable.wtS d ≤ 1048577) :
    Calls Tryz.prog 24 #[.agg #[u], .agg #[.int .i64 n, v]] w fun e w' => ∃ v' fp, e = .returned v' ∧ rowC.ow w' w.heap.size [v'] (tsL d n l) fp ∧ fp.Nodup ∧ Below w.heap.size w w' := by
  have HF := Lib.hid (fun w' (hb : Below w.heap.size w w') => spec_for u v d n l S1 S2 w' (Cd.later h1 hb) (Cd.later h2 hb) hw)
  have HFM := Lib.hid (fun w' (hb : Below w.heap.size w w') => QgSpec.spec_full n v l S2 w' (Cd.later h2 hb))
  have HC := Lib.hid (fun m w' (hb : Below w.heap.size w w') => QgSpec.spec_conn n m v l S2 w' (Cd.later h2 hb))
  have HS := Lib.hid (fun m w' (hb : Below w.heap.size w w') => spec_sub u v d n m l S1 S2 w' (Cd.later h1 hb) (Cd.later h2 hb) hw)
  obtain ⟨a1, cap1, rfl, _⟩ := Cd.sl_form h1
  obtain ⟨a, cap, rfl, _⟩ := Cd.sl_form h2
  clear h1 h2 hw
  have hfl := fm_lt n l
  go_enter Tryz.func24, Tryz.ntmps24
  go_wp2_with fail
  generalize hW : (w.alloc _).alloc _ = W
  obtain ⟨r0, r1, hz, hb0⟩ := start2g w _ _ hW
  have L1 := Lib.hid (Loc1.of r0)
  have L2 := Lib.hid (Atom.Loc2.of r1)
  have HB := Lib.hid hb0
  have HZ := Lib.hid hz
  have hX : W.heap.size = w.heap.size + 1 + 1 := hz
  have ho := Cd.ow_empty (e := 3) (c := Cd.int) W w.heap.size hb0.size
  have ho2 := Cd.ow_empty (e := 3) (c := Cd.int) W (w.heap.size + 2) (by omega)
  rw [hX] at ho ho2
  have HO := Lib.hid ho
  have HO2 := Lib.hid (show rowC.ow (W.alloc (.cells #[] 3)) (w.heap.size + 2) [.slice (some ⟨w.heap.size + 1 + 1, 0, none⟩) 0 0] [] [w.heap.size + 1 + 1] from ho2)
  clear hX ho ho2
  have HBA := Lib.hid (below_alloc W (.cells #[] 3))
  clear hW r0 r1 hb0 hz
  cases hfo : forOk d n l
  · have HZR := Lib.hid (tsL_no hfo)
    rw [hfo] at HF
    clear hfo
    generalize hF : fm n l = F at *
    clear hF
    have z0 := (L1.out.later HBA.out).c0
    have zl := (L1.out.later HBA.out).lt
    have y0 := (L2.out.later HBA.out).c0
    have y1 := (L2.out.later HBA.out).c1
    have yl := (L2.out.later HBA.out).lt
    have HBW := Lib.hid (below_then HB.out HBA.out)
    clear HBA
    generalize hW2 : W.alloc _ = W2 at *
    clear hW2
    go_loopw [5, 6] (fun o i wr => o = .slice (some ⟨w.heap.size + 1 + 1, 0, none⟩) 0 0 ∧ i = .int .i64 0 ∧ wr = W2) (fun _ _ _ => 1)
    case atStart => exact ⟨rfl, rfl, rfl⟩
    case round =>
      obtain ⟨rfl, rfl, rfl⟩ := hrel
      have p1 : (0 : Int) ≤ (F : Int) := by omega
      go_wp2_with fail
      refine (HFM.out _ HBW.out).mono ?_
      rintro e w1 ⟨rfl, hb1⟩
      have z0 := (hb1.cell zl).trans z0
      have y0 := (hb1.cell (p := ⟨w.heap.size + 1, 0, none⟩) yl).trans y0
      have y1 := (hb1.cell (p := ⟨w.heap.size + 1, 1, none⟩) yl).trans y1
      have HB1 := Lib.hid (below_then HBW.out hb1)
      have HO1 := Lib.hid (Cd.ow_later HO.out hb1)
      clear hb1
      go_wp2_with fail
      refine (HF.out _ HB1.out).mono ?_
      rintro e w2 ⟨rfl, hb2⟩
      have HB2 := Lib.hid (below_then HB1.out hb2)
      have HO9 := Lib.hid (Cd.ow_later HO1.out hb2)
      clear hb2
      go_wp2_with fail
      go_ret
      first
        | exact ⟨_, _, rfl, by rw [HZR.out]; exact HO9.out, by simp, HB2.out⟩
        | exact ⟨_, rfl, _, by rw [HZR.out]; exact HO9.out, by simp, HB2.out⟩
  have HZR := Lib.hid (tsL_yes hfo)
  rw [hfo] at HF
  have HCN := Lib.hid (fun (k : Nat) (hk : k ≤ fm n l) w' (hb : Below w.heap.size w w') => (show Calls _ _ _ _ _ from by have := HC.out (k : Int) w' hb; rw [QgImp.cOk_le hk] at this; exact this))
  clear hfo HC
  generalize hF : fm n l = F at *
  clear hF
  have HL1 := Lib.hid (L1.out.later HBA.out)
  have HL2 := Lib.hid (L2.out.later HBA.out)
  have HBW := Lib.hid (below_then HB.out HBA.out)
  clear HBA HO L1 L2
  generalize hW2 : W.alloc _ = W2 at *
  clear hW2
  go_loopw [5, 6] (fun o i wr => ∃ (k : Nat) (fp : List Nat), k ≤ F + 1 ∧ i = .int .i64 k ∧ rowC.ow wr (w.heap.size + 2) [o] (tsTo d n l k) fp ∧ fp.Nodup ∧ Loc1 wr w.heap.size (.slice a1 d.length cap1) ∧ Atom.Loc2 wr (w.heap.size + 1) (.int .i64 n) (.slice a l.length cap) ∧ Below w.heap.size w wr ∧ w.heap.size + 2 ≤ wr.heap.size) (fun _ i _ => F + 1 - (intOf i).toNat)
  case atStart => exact ⟨0, _, by omega, rfl, HO2.out, by simp, HL1.out, HL2.out, HBW.out, by have h := (rowC.ow_lt HO2.out (w.heap.size + 1 + 1) (by simp)).2; omega⟩
  case round =>
    obtain ⟨k, fp, hk, rfl, how, hnd, hl1, hl2, hb, hsz⟩ := hrel
    obtain ⟨ao, co, rfl⟩ := Cd.ow_slice how
    have HOW := Lib.hid how
    have HND := Lib.hid hnd
    have HB0 := Lib.hid hb
    have HSZ := Lib.hid hsz
    have y0 := hl2.c0
    have y1 := hl2.c1
    have HL1 := Lib.hid hl1
    have HL2 := Lib.hid hl2
    have HTL := Lib.hid (show (tsTo d n l k).length = k by unfold tsTo; rw [List.length_map, List.length_range])
    have HNX := Lib.hid (tsTo_succ d n l k)
    have HBD := Lib.hid (szAt_bd d n l k)
    have p1 : (0 : Int) ≤ (k : Int) := by omega
    have p0 : (k : Int) ≤ 16 := by omega
    clear how hnd hl1 hl2 hb hsz
    generalize hout : tsTo d n l k = out at *
    have HOUT := Lib.hid hout
    clear hout
    by_cases hkF : (k : Int) ≤ (F : Int)
    · have hkF' : k ≤ F := by omega
      have HKF := Lib.hid hkF'
      have HCK := Lib.hid (HCN.out k hkF')
      clear hkF'
      go_wp2_with fail
      refine (HFM.out _ HB0.out).mono ?_
      rintro e w1 ⟨rfl, hb1⟩
      have HB1 := Lib.hid (below_then HB0.out hb1)
      have HOW1 := Lib.hid (Cd.ow_later HOW.out hb1)
      have M1 := Lib.hid (HL1.out.later hb1)
      have M2 := Lib.hid (HL2.out.later hb1)
      have HS1 := Lib.hid (Nat.le_trans HSZ.out hb1.size)
      clear hb1 y0 y1
      have x0 := M1.out.c0
      have x1 := M2.out.c0
      have x2 := M2.out.c1
      go_wp2_with fail
      refine (HF.out _ HB1.out).mono ?_
      rintro e w2 ⟨rfl, hb2⟩
      have HB2 := Lib.hid (below_then HB1.out hb2)
      have HOW2 := Lib.hid (Cd.ow_later HOW1.out hb2)
      replace M1 := Lib.hid (M1.out.later hb2)
      replace M2 := Lib.hid (M2.out.later hb2)
      have HS2 := Lib.hid (Nat.le_trans HS1.out hb2.size)
      clear hb2 x0 x1 x2
      have x1 := M2.out.c0
      have x2 := M2.out.c1
      go_wp2_with fail
      refine (HCK.out _ HB2.out).mono ?_
      rintro e w3 ⟨rfl, hb3⟩
      have HB3 := Lib.hid (below_then HB2.out hb3)
      have HOW3 := Lib.hid (Cd.ow_later HOW2.out hb3)
      replace M1 := Lib.hid (M1.out.later hb3)
      replace M2 := Lib.hid (M2.out.later hb3)
      have HS3 := Lib.hid (Nat.le_trans HS2.out hb3.size)
      clear hb3 x1 x2
      cases hc : conn (gr l) k
      · have HV := Lib.hid (szAt_no (d := d) (n := n) hc)
        clear hc
        have hAl := below_alloc w3 (.cells #[.int .i64 0] 3)
        have A1 := Lib.hid (Cd.ow_later HOW3.out hAl)
        have A2 := Lib.hid (show (w3.alloc (.cells #[.int .i64 0] 3)).cell? ⟨w3.heap.size, 0, none⟩ = some (.int .i64 0) by simp)
        have A3 := Lib.hid (show Cd.int.ow (w3.alloc (.cells #[.int .i64 0] 3)) (w.heap.size + 2) [.int .i64 0] (0 : Int) [] from ⟨rfl, by omega, rfl⟩)
        have A4 := Lib.hid (Nat.le_trans HS3.out hAl.size)
        have A5 := Lib.hid (below_then HB3.out hAl)
        have A6 := Lib.hid (M1.out.later hAl)
        have A7 := Lib.hid (M2.out.later hAl)
        clear hAl
        go_wp2_with (at_builtin; refine Cd.wpList_appendE (c := Cd.int) rfl rfl (.tmp 27) (.tmp 29) 32 rfl (w.heap.size + 2) 3 (.int .i64 0) 8 Tryz.underlying32 info_i64 rfl (by decide) _ out fp rfl A1.out HND.out _ _ rfl A2.out _ _ A3.out (by simp) (by simp) (by have := HTL.out; omega) A4.out ?_)
        intro g capn w5 f5 ho5 hn5 hs5 ht5
        have hfp := rowC.ow_lt A1.out
        have B1 := Lib.hid (show rowC.ow w5 (w.heap.size + 2) [_] (out ++ [0]) f5 from ho5)
        have B2 := Lib.hid hn5
        have B3 := Lib.hid (A6.out.touched ht5 (fun q => by have := (hfp _ q).1; omega))
        have B4 := Lib.hid (A7.out.touched ht5 (fun q => by have := (hfp _ q).1; omega))
        have B5 := Lib.hid (Cd.Touch.below A5.out ht5 (fun b hb => by have := (hfp b hb).1; omega))
        have B6 := Lib.hid (Nat.le_trans A4.out ht5.size)
        clear ho5 hn5 hs5 ht5 hfp
        go_wp2_with fail
        go_roundw
        case rel => exact ⟨k + 1, f5, by have := HKF.out; omega, by go_num, by rw [HNX.out, HV.out]; exact B1.out, B2.out, B3.out, B4.out, B5.out, B6.out⟩
        case measure => have := HKF.out; simp [intOf]; omega
      · have HV := Lib.hid (szAt_yes (d := d) (n := n) hc)
        clear hc
        have x0 := M1.out.c0
        have x1 := M2.out.c0
        have x2 := M2.out.c1
        rw [HV.out] at HBD
        have HSK := Lib.hid (HS.out (k : Int) _ HB3.out)
        generalize subN d n l (k : Int) = z at *
        go_wp2_with fail
        refine HSK.out.mono ?_
        rintro e w4 ⟨rfl, hb4⟩
        have hAl := below_then hb4 (below_alloc w4 (.cells #[.int .i64 z] 3))
        have A1 := Lib.hid (Cd.ow_later HOW3.out hAl)
        have A2 := Lib.hid (show (w4.alloc (.cells #[.int .i64 z] 3)).cell? ⟨w4.heap.size, 0, none⟩ = some (.int .i64 z) by simp)
        have A3 := Lib.hid (show Cd.int.ow (w4.alloc (.cells #[.int .i64 z] 3)) (w.heap.size + 2) [.int .i64 z] z [] from ⟨rfl, by have := HBD.out; omega, rfl⟩)
        have A4 := Lib.hid (Nat.le_trans HS3.out hAl.size)
        have A5 := Lib.hid (below_then HB3.out hAl)
        have A6 := Lib.hid (M1.out.later hAl)
        have A7 := Lib.hid (M2.out.later hAl)
        clear hAl hb4 x0 x1 x2
        go_wp2_with (at_builtin; refine Cd.wpList_appendE (c := Cd.int) rfl rfl (.tmp 27) (.tmp 29) 32 rfl (w.heap.size + 2) 3 (.int .i64 0) 8 Tryz.underlying32 info_i64 rfl (by decide) _ out fp rfl A1.out HND.out _ _ rfl A2.out _ _ A3.out (by simp) (by simp) (by have := HTL.out; omega) A4.out ?_)
        intro g capn w5 f5 ho5 hn5 hs5 ht5
        have hfp := rowC.ow_lt A1.out
        have B1 := Lib.hid (show rowC.ow w5 (w.heap.size + 2) [_] (out ++ [z]) f5 from ho5)
        have B2 := Lib.hid hn5
        have B3 := Lib.hid (A6.out.touched ht5 (fun q => by have := (hfp _ q).1; omega))
        have B4 := Lib.hid (A7.out.touched ht5 (fun q => by have := (hfp _ q).1; omega))
        have B5 := Lib.hid (Cd.Touch.below A5.out ht5 (fun b hb => by have := (hfp b hb).1; omega))
        have B6 := Lib.hid (Nat.le_trans A4.out ht5.size)
        clear ho5 hn5 hs5 ht5 hfp
        go_wp2_with fail
        go_roundw
        case rel => exact ⟨k + 1, f5, by have := HKF.out; omega, by go_num, by rw [HNX.out, HV.out]; exact B1.out, B2.out, B3.out, B4.out, B5.out, B6.out⟩
        case measure => have := HKF.out; simp [intOf]; omega
    · have ek : k = F + 1 := by omega
      have hkF' : ¬ k ≤ F := by omega
      have HEK := Lib.hid ek
      clear ek
      go_wp2_with fail
      refine (HFM.out _ HB0.out).mono ?_
      rintro e w1 ⟨rfl, hb1⟩
      have HB1 := Lib.hid (below_then HB0.out hb1)
      have HOW1 := Lib.hid (rowC.ow_base (Cd.ow_later HOW.out hb1) (show w.heap.size ≤ w.heap.size + 2 by omega))
      clear hb1 y0 y1
      have HTT := Lib.hid (show tsL d n l = out by rw [HZR.out, ← HEK.out, HOUT.out])
      go_wp2_with fail
      go_ret
      first
        | exact ⟨_, fp, rfl, by rw [HTT.out]; exact HOW1.out, HND.out, HB1.out⟩
        | exact ⟨_, rfl, fp, by rw [HTT.out]; exact HOW1.out, HND.out, HB1.out⟩
end Go.Proofs.YtdkhgeknjekkoaaGreat.AnsEv

namespace Go.Proofs.YtdkhgeknjekkoaaGreat.AnsEv
open Go Go.RowKit Byt Ints IntsLaw Cd Rows2 Tab TabSpec Exact Atom QryMath QrySpec QryImp MkAtom AnsMath SlMath TabOpen TabElem QgMath AnsSpec AnsQ DbMath DbSpec Db DbExact QryFor AnsC

set_option maxRecDepth 100000 in
set_option maxHeartbeats 3200000 in
theorem impl_true (u v : Value) (d : List T3) (n : Int) (l : List A2) (S1 S2 : Nat → Prop) (w : World) (h1 : tabsC.rd w S1 [u] d) (h2 : atomsC.rd w S2 [v] l) (hw : SlTable.wtS d ≤ 1048577) (hs : ∀ A ∈ l, A.1.size ≤ 1048576) :
    Calls Tryz.prog 21 #[.agg #[u], .agg #[.int .i64 n, v]] w fun e w' => ∃ v' fp, e = .returned v' ∧ rowC.ow w' w.heap.size [v'] (tsL d n l) fp ∧ fp.Nodup ∧ Below w.heap.size w w' := by
  obtain ⟨i0, hi, hz0, hz1, hz2⟩ := info_parts info_i64
  have HF := Lib.hid (fun w' (hb : Below w.heap.size w w') => impl_for u v d n l S1 S2 w' (Cd.later h1 hb) (Cd.later h2 hb) hw hs)
  have HFM := Lib.hid (fun w' (hb : Below w.heap.size w w') => QgImp.impl_full n v l S2 w' (Cd.later h2 hb))
  have HC := Lib.hid (fun w' (hb : Below w.heap.size w w') => QgImp.impl_cm n v l S2 w' (Cd.later h2 hb))
  have HS := Lib.hid (fun m w' (hb : Below w.heap.size w w') => impl_sub u v d n m l S1 S2 w' (Cd.later h1 hb) (Cd.later h2 hb) hw hs)
  obtain ⟨a1, cap1, rfl, _⟩ := Cd.sl_form h1
  obtain ⟨a, cap, rfl, _⟩ := Cd.sl_form h2
  clear h1 h2 hw hs
  have hfl := fm_lt n l
  go_enter Tryz.func21, Tryz.ntmps21
  go_wp2_with fail
  generalize hW : (w.alloc _).alloc _ = W
  obtain ⟨r0, r1, hz, hb0⟩ := start2g w _ _ hW
  have L1 := Lib.hid (Loc1.of r0)
  have L2 := Lib.hid (Atom.Loc2.of r1)
  have HB := Lib.hid hb0
  have HZ := Lib.hid hz
  clear hW r0 r1 hb0 hz
  refine (HF.out _ HB.out).mono ?_
  rintro e w1 ⟨rfl, hb1⟩
  have HB1 := Lib.hid (below_then HB.out hb1)
  have M1 := Lib.hid (L1.out.later hb1)
  have M2 := Lib.hid (L2.out.later hb1)
  have HS1 := Lib.hid (show w.heap.size + 2 ≤ w1.heap.size by have := HZ.out; have := hb1.size; omega)
  clear hb1 L1 L2
  cases hfo : forOk d n l
  · have HZR := Lib.hid (tsL_no hfo)
    clear hfo hi hz0 hz1 hz2
    go_wp2_with fail
    go_ret
    exact ⟨_, [], rfl, by rw [HZR.out]; exact Cd.ow_nil _ _, by simp, HB1.out⟩
  have HZR := Lib.hid (tsL_yes hfo)
  have HALL := Lib.hid (tsI_all d n l)
  have HMEM := Lib.hid (fun x (h : x ∈ cmL n l) => mem_fil.1 h)
  have HZ0 := Lib.hid (tsI_zero d n l (cmL n l))
  have HTL := Lib.hid (fun k => tsI_len d n l (cmL n l) k)
  have HCL := Lib.hid (show (cmL n l).length ≤ 17 by have := fil_len (conn (gr l)) (fm n l + 1); unfold cmL; omega)
  clear hfo
  have HTS := Lib.hid (fun (k : Nat) (t : Nat) (hk : k < (cmL n l).length) (ht : (cmL n l)[k] = (t : Int)) => tsI_succ (d := d) (n := n) (l := l) hk ht)
  generalize tsI d n l (cmL n l) = ts at *
  generalize cmL n l = c at *
  generalize fm n l = F at *
  have y0 := M2.out.c0
  have y1 := M2.out.c1
  go_wp2_with fail
  refine (HFM.out _ HB1.out).mono ?_
  rintro e w2 ⟨rfl, hb2⟩
  have HB2 := Lib.hid (below_then HB1.out hb2)
  replace M1 := Lib.hid (M1.out.later hb2)
  replace M2 := Lib.hid (M2.out.later hb2)
  have HS2 := Lib.hid (Nat.le_trans HS1.out hb2.size)
  have p0 : (F : Int) < 16 := by omega
  have p1 : (0 : Int) ≤ (F : Int) := by omega
  clear hb2 y0 y1
  go_wp2_with (at_make; refine wpList_make_full _ rfl _ _ 32 rfl (w.heap.size + 2) 3 i0 (.int .i64 0) 1 Tryz.underlying32 hi hz0 hz1 _ _ _ _ (F + 1) rfl rfl rfl rfl (by rw [hz2]; omega) (by unfold maxLen; omega) HS2.out ?_)
  intro w3 hown0 hg0
  have hown1 := OwnI.made hown0
  have hb3 : Below w2.heap.size w2 w3 := (Below.refl _ _).grown hg0 (Nat.le_refl _) (by simp)
  have HO := Lib.hid (show rowC.ow w3 (w.heap.size + 2) [.slice (some ⟨w2.heap.size, 0, none⟩) (F + 1) (F + 1)] (ts 0) [w2.heap.size] from by rw [HZ0.out]; exact Cd.ow_of_own hown1 (fun x hx => by rw [List.eq_of_mem_replicate hx]; omega))
  have HB3 := Lib.hid (below_then HB2.out hb3)
  replace M1 := Lib.hid (M1.out.later hb3)
  replace M2 := Lib.hid (M2.out.later hb3)
  have HS3 := Lib.hid (Nat.le_trans HS2.out hb3.size)
  clear hown0 hg0 hown1 hb3 hi hz0 hz1 hz2
  have y0 := M2.out.c0
  have y1 := M2.out.c1
  have HGG := Lib.hid (show w.heap.size + 2 ≤ w2.heap.size from HS2.out)
  generalize w2.heap.size = g at *
  go_wp2_with fail
  refine (HC.out _ HB3.out).mono ?_
  rintro e w4 ⟨cv, fC, rfl, hoc, hnc, hb4⟩
  obtain ⟨ac, cc, rfl⟩ := Cd.ow_slice hoc
  have HO4 := Lib.hid (Cd.ow_later HO.out hb4)
  have HFC := Lib.hid (show g ∉ fC from fun q => by
    have h1 := (rowC.ow_lt hoc g q).1
    have h2 := (rowC.ow_lt HO.out g (by simp)).2
    omega)
  have HOC := Lib.hid (rowC.ow_base hoc HS3.out)
  have HB4 := Lib.hid (below_then HB3.out hb4)
  replace M1 := Lib.hid (M1.out.later hb4)
  replace M2 := Lib.hid (M2.out.later hb4)
  clear hoc hnc hb4 y0 y1
  go_wp2_with fail
  go_loopw [19] (fun i wr => ∃ (k : Nat) (fp : List Nat), k ≤ c.length ∧ i = .int .i64 k ∧ rowC.ow wr (w.heap.size + 2) [.slice (some ⟨g, 0, none⟩) (F + 1) (F + 1)] (ts k) fp ∧ fp.Nodup ∧ rowC.ow wr (w.heap.size + 2) [.slice ac c.length cc] c fC ∧ Loc1 wr w.heap.size (.slice a1 d.length cap1) ∧ Atom.Loc2 wr (w.heap.size + 1) (.int .i64 n) (.slice a l.length cap) ∧ Below w.heap.size w wr) (fun i _ => c.length - (intOf i).toNat)
  case atStart => exact ⟨0, _, Nat.zero_le _, rfl, HO4.out, by simp, HOC.out, M1.out, M2.out, HB4.out⟩
  case round =>
    obtain ⟨k, fp, hk, rfl, how, hnd, hoc, hl1, hl2, hb⟩ := hrel
    have HOW := Lib.hid how
    have HND := Lib.hid hnd
    have HOC := Lib.hid hoc
    have HB0 := Lib.hid hb
    have HL1 := Lib.hid hl1
    have HL2 := Lib.hid hl2
    by_cases hlt : k < c.length
    · obtain ⟨bl, ol, cl', e1, _, hcl⟩ := ri_at (row_ri (rowC.ow_rd hoc)).1 hlt
      injection e1 with e1 e2 e3
      subst e1 e3
      obtain ⟨t, htF, _, ht⟩ := HMEM.out _ (List.getElem_mem hlt)
      rw [ht] at hcl
      have HTS1 := Lib.hid (HTS.out k t hlt ht)
      have hlen : (ts k).length = F + 1 := HTL.out k
      have htl : t < (ts k).length := by omega
      have HTL1 := Lib.hid htl
      obtain ⟨cu, cf, hcell, hrest⟩ := Cd.ow_at (c := Cd.int) rfl how htl
      have hfz := Cd.ow_frozen how t
      have HCE := Lib.hid (And.intro hcell hfz)
      have i1 : (0 : Int) ≤ (k : Int) := by omega
      have i2 : (k : Int) < (c.length : Int) := by omega
      have i3 : (0 : Int) ≤ (t : Int) := by omega
      have i4 : (t : Int) < (F : Int) + 1 := by omega
      have i5 : (k : Int) < 17 := by have := HCL.out; omega
      have x0 := hl1.c0
      have x1 := hl2.c0
      have x2 := hl2.c1
      have HLT := Lib.hid hlt
      have HSK := Lib.hid (HS.out (t : Int) _ HB0.out)
      have HSB := Lib.hid (sub_bd d n l (t : Int))
      clear how hnd hoc hl1 hl2 hb ht hrest hlen htl hcell hfz hlt e2
      generalize subN d n l (t : Int) = z at *
      go_wp2_with fail
      refine HSK.out.mono ?_
      rintro e w5 ⟨rfl, hb5⟩
      have c5 := (hb5.cell (World.block_lt_of_cell? wr _ HCE.out.1)).trans HCE.out.1
      have f5 := (hb5.frozen (World.block_lt_of_cell? wr _ HCE.out.1)).trans HCE.out.2
      have HO5 := Lib.hid (Cd.ow_later HOW.out hb5)
      have HC5 := Lib.hid (Cd.ow_later HOC.out hb5)
      have HL5 := Lib.hid (HL1.out.later hb5)
      have HM5 := Lib.hid (HL2.out.later hb5)
      have HB5 := Lib.hid (below_then HB0.out hb5)
      clear hb5 x0 x1 x2
      go_wp2_with fail
      obtain ⟨fp', ho6, hn6, _⟩ := Cd.ow_put (c := Cd.int) rfl HO5.out HND.out (u := .int .i64 z) (a := z) (f := []) ⟨rfl, by have := HSB.out; omega, rfl⟩ (by simp) (by simp) HTL1.out
      have HO6 := Lib.hid (show rowC.ow (w5.setCell ⟨g, t, none⟩ (.int .i64 z)) (w.heap.size + 2) [.slice (some ⟨g, 0, none⟩) (F + 1) (F + 1)] (ts (k + 1)) fp' from by rw [HTS1.out]; exact ho6)
      have HN6 := Lib.hid hn6
      clear ho6 hn6 c5 f5
      go_roundw
      case rel => exact ⟨k + 1, fp', by have := HLT.out; omega, by go_num, HO6.out, HN6.out, ow_setCell (c := rowC) HC5.out HFC.out _, HL5.out.set_far (by have := HGG.out; show g ≠ w.heap.size; omega) _, HM5.out.set_far (by have := HGG.out; show g ≠ w.heap.size + 1; omega) _, HB5.out.setCell (by have := HGG.out; show w.heap.size ≤ g; omega) _⟩
      case measure => have := HLT.out; simp [intOf]; omega
    · have ek : k = c.length := by omega
      subst ek
      have HR := Lib.hid (show rowC.ow wr w.heap.size [.slice (some ⟨g, 0, none⟩) (F + 1) (F + 1)] (tsL d n l) fp from by rw [HZR.out, ← HALL.out]; exact rowC.ow_base how (by omega))
      clear how hnd hoc hl1 hl2 hb hlt hk
      go_wp2_with fail
      go_ret
      exact ⟨_, fp, rfl, HR.out, HND.out, HB0.out⟩
end Go.Proofs.YtdkhgeknjekkoaaGreat.AnsEv

namespace Go.Proofs.YtdkhgeknjekkoaaGreat.DbOpen
open Go Go.RowKit Byt Ints IntsLaw Cd Rows2 Fits TabOpen TabElem SlTable Db

set_option maxRecDepth 100000 in
theorem fits_tabs : Fits Tryz.prog ltabsC 54 := fits_sl Tryz.underlying54 fits_table (by kernel_rfl)
set_option maxRecDepth 100000 in
theorem fits_db : Fits Tryz.prog ltabsC 56 := fits_struct Tryz.underlying56 (fits_one fits_tabs rfl) (by kernel_rfl)
set_option maxRecDepth 100000 in
theorem open_db {H : Type} {enc : TypeId × Value → H} {W : World} {base : Nat} {v : Value} {d : DataW H} {ps : List MemPlace}
    (hval : Value.okWide Tryz.prog W .any base 56 v) (h : DataW.Trod enc Tryz.prog W 0 (fun _ => true) true 56 v d ps) :
    ∃ (u : Value) (l : List T3), v = .agg #[u] ∧ tabsC.rd W (· < W.heap.size) [u] l := by
  obtain ⟨cs, l, rfl, hT⟩ := open_st Tryz.underlying56 fits_db hval h
  have hl := ltabsC.len hT
  obtain ⟨cs⟩ := cs
  match cs, hl, hT with
  | [u], _, hT => exact ⟨u, l, rfl, hT⟩
end Go.Proofs.YtdkhgeknjekkoaaGreat.DbOpen

namespace Go.Proofs.YtdkhgeknjekkoaaGreat.WalkTrueSizes
open Go Go.RowKit Byt Ints IntsLaw Cd Rows2 Tab TabSpec Exact SlMath TabOpen TabElem Mark SlTable Db DbExact Atom MkAtom Qry
set_option maxRecDepth 100000 in
set_option maxHeartbeats 6400000 in
theorem walk (v0 : Value) (l0 : List T3) (r1 : Int) (v1 : Value) (l1 : List A2) (R0 : List Int) (w : World) (hr0 : tabsC.rd w (· < w.heap.size) [v0] l0) (hr1 : atomsC.rd w (· < w.heap.size) [v1] l1) (hw0 : wtS l0 ≤ 1048576 → SlAtom.wtS l1 ≤ 1048576 → (R0.length ≤ 1048577))
    (HS : wtS l0 ≤ 1048576 → SlAtom.wtS l1 ≤ 1048576 → ∀ (v0 : Value) (S0 : Nat → Prop) (v1 : Value) (S1 : Nat → Prop) (w' : World), tabsC.rd w' S0 [v0] l0 → atomsC.rd w' S1 [v1] l1 → Calls Tryz.prog 24 #[.agg #[v0], .agg #[.int .i64 r1, v1]] w' fun e w'' => ∃ u0 f0, e = .returned (u0) ∧ rowC.ow w'' w'.heap.size [u0] R0 f0 ∧ f0.Nodup ∧ Below w'.heap.size w' w'')
    (HI : wtS l0 ≤ 1048576 → SlAtom.wtS l1 ≤ 1048576 → ∀ (v0 : Value) (S0 : Nat → Prop) (v1 : Value) (S1 : Nat → Prop) (w' : World), tabsC.rd w' S0 [v0] l0 → atomsC.rd w' S1 [v1] l1 → Calls Tryz.prog 21 #[.agg #[v0], .agg #[.int .i64 r1, v1]] w' fun e w'' => ∃ u0 f0, e = .returned (u0) ∧ rowC.ow w'' w'.heap.size [u0] R0 f0 ∧ f0.Nodup ∧ Below w'.heap.size w' w'') :
    Calls Tryz.prog 7 #[.agg #[v0], .agg #[.int .i64 r1, v1]] w fun e w' => e = .returned (.bool true) ∧ Below w.heap.size w w' := by
  have HSh := Lib.hid HS
  have HIh := Lib.hid HI
  clear HS HI
  have HR0 := Lib.hid hr0
  obtain ⟨q0, c0, rfl, hl0⟩ := Cd.sl_form hr0
  clear hr0
  have HR1 := Lib.hid hr1
  obtain ⟨q1, c1, rfl, hl1⟩ := Cd.sl_form hr1
  clear hr1
  go_enter Tryz.func7, Tryz.ntmps7
  go_wp2_with fail
  generalize hW0 : (w.alloc _).alloc _ = W0
  obtain ⟨rb0, rb1, z0, hb0⟩ := start2g w _ _ hW0
  have HB := Lib.hid hb0
  have LB0 := Lib.hid (Loc1.of rb0)
  have LB1 := Lib.hid (Loc2.of rb1)
  replace HR0 := Lib.hid (Cd.later HR0.out hb0)
  replace HR1 := Lib.hid (Cd.later HR1.out hb0)
  clear hW0 hb0 rb0 rb1
  refine (sz_db _ l0 _ 1048576 W0 HR0.out (by omega)).mono ?_
  rintro e W0z ⟨rfl, hbz0⟩
  replace HB := Lib.hid (below_then HB.out hbz0)
  replace LB0 := Lib.hid (LB0.out.later hbz0)
  replace LB1 := Lib.hid (LB1.out.later hbz0)
  replace HR0 := Lib.hid (Cd.later HR0.out hbz0)
  replace HR1 := Lib.hid (Cd.later HR1.out hbz0)
  have zz0 := hbz0.size
  clear hbz0
  by_cases hk0 : wtS l0 ≤ 1048576
  case neg =>
    rw [left_no hk0]
    clear hk0
    go_wp2_with fail
    go_ret
    exact ⟨rfl, HB.out⟩
  rw [left_yes hk0]
  have HL0 := Lib.hid hk0
  have HX0 := Lib.hid (show wtS l0 ≤ 1048576 by have := HL0.out; omega)
  have hge0 : ¬ (((1048576 - wtS l0 : Nat) : Int) < 0) := by omega
  clear hk0
  have y0a := LB1.out.c0
  have y0b := LB1.out.c1
  go_wp2_with fail
  clear y0a y0b
  refine (sz_q r1 _ l1 _ (1048576 - wtS l0) W0z HR1.out (by omega)).mono ?_
  rintro e W1z ⟨rfl, hbz1⟩
  replace HB := Lib.hid (below_then HB.out hbz1)
  replace LB0 := Lib.hid (LB0.out.later hbz1)
  replace LB1 := Lib.hid (LB1.out.later hbz1)
  replace HR0 := Lib.hid (Cd.later HR0.out hbz1)
  replace HR1 := Lib.hid (Cd.later HR1.out hbz1)
  have zz1 := hbz1.size
  clear hbz1
  by_cases hk1 : SlAtom.wtS l1 ≤ (1048576 - wtS l0)
  case neg =>
    rw [left_no hk1]
    clear hk1
    go_wp2_with fail
    go_ret
    exact ⟨rfl, HB.out⟩
  rw [left_yes hk1]
  have HL1 := Lib.hid hk1
  have HX1 := Lib.hid (show SlAtom.wtS l1 ≤ 1048576 by have := HL1.out; omega)
  have hge1 : ¬ ((((1048576 - wtS l0) - SlAtom.wtS l1 : Nat) : Int) < 0) := by omega
  clear hk1
  have HW0 := Lib.hid (hw0 HX0.out HX1.out)
  clear hw0
  have HB0 := Lib.hid (show w.heap.size ≤ W1z.heap.size from HB.out.size)
  have hz0 : w.heap.size ≤ W1z.heap.size := HB.out.size
  have y0a := LB0.out.c0
  have y0d := LB0.out.lt
  have y1a := LB1.out.c0
  have y1b := LB1.out.c1
  have y1d := LB1.out.lt
  go_upto_region 8 with fail
  clear y0a y0d y1a y1b y1d
  go_cut [6] (fun s6 wx => ∃ (a_ : Option Addr) (c_ : Nat) (f_ : List Nat), s6 = .slice a_ R0.length c_ ∧ W1z.heap.size ≤ wx.heap.size ∧ rowC.ow wx W1z.heap.size [.slice a_ R0.length c_] R0 f_ ∧ f_.Nodup ∧ Below w.heap.size w wx ∧ Loc1 wx (w.heap.size) (.slice q0 l0.length c0) ∧ Loc2 wx (w.heap.size + 1) (.int .i64 r1) (.slice q1 l1.length c1) ∧ tabsC.rd wx (· < w.heap.size) [.slice q0 l0.length c0] l0 ∧ atomsC.rd wx (· < w.heap.size) [.slice q1 l1.length c1] l1)
  case first =>
    have hd : Below W1z.heap.size W1z W1z.drew := Below.drew (Below.refl _ _)
    have u1 := Lib.hid (below_then HB.out hd)
    have u2 := Lib.hid (LB0.out.later hd)
    have u3 := Lib.hid (LB1.out.later hd)
    have u4 := Lib.hid (Cd.later HR0.out hd)
    have u5 := Lib.hid (Cd.later HR1.out hd)
    have szd := hd.size
    refine wp_region_held_drew (S := fun wx => Loc1 wx (w.heap.size) (.slice q0 l0.length c0) ∧ Loc2 wx (w.heap.size + 1) (.int .i64 r1) (.slice q1 l1.length c1)) (by kernel_rfl) ?_ (fun hHeld => ?_)
    · exact ⟨u2.out, u3.out⟩
    clear hd
    generalize World.drew W1z = wyd at *
    refine RegH.takeH (i := 0) (v := ?_) rfl (by kernel_rfl) (by kernel_rfl) (by kernel_rfl) (fun _ _ _ h => h) (Or.inl ⟨by rfl, ?_⟩) (by assumption) ?_
    rotate_left
    · (intro wS hSw; (try dsimp only at hSw); (obtain ⟨s_LB0, s_LB1⟩ := hSw); (have r0a := s_LB0.c0); (have r1a := s_LB1.c0); (have r1b := s_LB1.c1); go_simp; try (with_reducible rfl))
    try simp only [Act.put, List.setIfInBounds_toArray, List.set_cons_zero, List.set_cons_succ]
    refine RegH.takeH (i := 2) (v := ?_) rfl (by kernel_rfl) (by kernel_rfl) (by kernel_rfl) (fun _ _ _ h => h) (Or.inl ⟨by rfl, ?_⟩) (by assumption) ?_
    rotate_left
    · (intro wS hSw; (try dsimp only at hSw); (obtain ⟨s_LB0, s_LB1⟩ := hSw); (have r0a := s_LB0.c0); (have r1a := s_LB1.c0); (have r1b := s_LB1.c1); go_simp; try (with_reducible rfl))
    try simp only [Act.put, List.setIfInBounds_toArray, List.set_cons_zero, List.set_cons_succ]
    refine RegH.consH (i := 1) rfl (by kernel_rfl) (fun K hK => ?_)
    go_simp
    go_at_call 28
    refine (to_db _ l0 _ wyd u4.out (by have := HX0.out; omega)).mono ?_
    rintro e wy6 ⟨tv0, tf0, rfl, tow, tnd, hq⟩
    have u7 := Lib.hid (below_then u1.out hq)
    have u8 := Lib.hid (u2.out.later hq)
    have u9 := Lib.hid (u3.out.later hq)
    have u10 := Lib.hid (Cd.later u4.out hq)
    have u11 := Lib.hid (Cd.later u5.out hq)
    have szwy6 := hq.size
    have v12 := Lib.hid tow
    clear hq tow tnd
    (try go_wp2_with fail)
    refine hK.out _ _ ?_ (fun hHeld => ?_)
    · exact ⟨u8.out, u9.out⟩
    clear hK K
    try simp only [Act.put, List.setIfInBounds_toArray, List.set_cons_zero, List.set_cons_succ]
    refine RegH.consH (i := 3) rfl (by kernel_rfl) (fun K hK => ?_)
    go_simp
    go_at_call 29
    refine (to_q r1 _ l1 _ wy6 u11.out (by have := HX1.out; omega)).mono ?_
    rintro e wy13 ⟨tv1, tf1, rfl, tow, tnd, hq⟩
    have u14 := Lib.hid (below_then u7.out hq)
    have u15 := Lib.hid (u8.out.later hq)
    have u16 := Lib.hid (u9.out.later hq)
    have u17 := Lib.hid (Cd.later u10.out hq)
    have u18 := Lib.hid (Cd.later u11.out hq)
    have v19 := Lib.hid (Cd.ow_later v12.out hq)
    have szwy13 := hq.size
    have v20 := Lib.hid tow
    clear hq tow tnd
    (try go_wp2_with fail)
    refine hK.out _ _ ?_ (fun hHeld => ?_)
    · exact ⟨u15.out, u16.out⟩
    clear hK K
    try simp only [Act.put, List.setIfInBounds_toArray, List.set_cons_zero, List.set_cons_succ]
    refine RegH.consH (i := 4) rfl (by kernel_rfl) (fun K hK => ?_)
    go_simp
    go_at_call 24
    refine (HSh.out HX0.out HX1.out _ _ _ _ wy13 (tabsC.ow_rd v19.out) (atomsC.ow_rd v20.out)).mono ?_
    rintro e wy21 ⟨ru, rf, rfl, tow, tnd, hq⟩
    obtain ⟨ra, rc, rfl⟩ := Cd.ow_slice tow
    have u22 := Lib.hid (below_then u14.out hq)
    have u23 := Lib.hid (u15.out.later hq)
    have u24 := Lib.hid (u16.out.later hq)
    have u25 := Lib.hid (Cd.later u17.out hq)
    have u26 := Lib.hid (Cd.later u18.out hq)
    have szwy21 := hq.size
    have v27 := Lib.hid tow
    have HRN := Lib.hid tnd
    have HRL := Lib.hid (bound_of tow)
    clear hq tow tnd
    (try go_wp2_with fail)
    refine hK.out _ _ ?_ (fun hHeld => ?_)
    · exact ⟨u23.out, u24.out⟩
    clear hK K
    try simp only [Act.put, List.setIfInBounds_toArray, List.set_cons_zero, List.set_cons_succ]
    refine RegH.takeH (i := 5) (v := ?_) rfl (by kernel_rfl) (by kernel_rfl) (by kernel_rfl) (fun _ _ _ h => h) (Or.inl ⟨by rfl, ?_⟩) (by assumption) ?_
    rotate_left
    · (intro wS hSw; (try dsimp only at hSw); (obtain ⟨s_LB0, s_LB1⟩ := hSw); (have r0a := s_LB0.c0); (have r1a := s_LB1.c0); (have r1b := s_LB1.c1); go_simp; try (with_reducible rfl))
    try simp only [Act.put, List.setIfInBounds_toArray, List.set_cons_zero, List.set_cons_succ]
    refine wpAnyH_done (by kernel_rfl) ?_ _
    go_wp2_with fail
    go_meet
    exact ⟨ra, rc, rf, rfl, by omega, Cd.ow_base _ v27.out (by omega), HRN.out, u22.out, u23.out, u24.out, u25.out, u26.out⟩
  case rest =>
    obtain ⟨w0_a, w0_c, w0_f, rfl, zW1, cO, cN, c_HB, c_LB0, c_LB1, c_HR0, c_HR1⟩ := hcut
    clear HB LB0 LB1 HR0 HR1
    have HB := Lib.hid c_HB
    have LB0 := Lib.hid c_LB0
    have LB1 := Lib.hid c_LB1
    have HR0 := Lib.hid c_HR0
    have HR1 := Lib.hid c_HR1
    clear c_HB c_LB0 c_LB1 c_HR0 c_HR1
    have w0_O := Lib.hid cO
    have w0_N := Lib.hid cN
    have w0_B := Lib.hid (bound_of cO)
    clear cO cN
    generalize wc = W1 at *
    have y0a := LB0.out.c0
    have y0d := LB0.out.lt
    go_wp2_with fail
    clear y0a y0d
    refine (to_db _ l0 _ W1 HR0.out (by have := HX0.out; omega)).mono ?_
    rintro e W2 ⟨x0_v, x0_f, rfl, x0_o, x0_n, hbx⟩
    obtain ⟨x0_a, x0_c, rfl⟩ := Cd.ow_slice (c := tabC) x0_o
    replace HB := Lib.hid (below_then HB.out hbx)
    replace LB0 := Lib.hid (LB0.out.later hbx)
    replace LB1 := Lib.hid (LB1.out.later hbx)
    replace HR0 := Lib.hid (Cd.later HR0.out hbx)
    replace HR1 := Lib.hid (Cd.later HR1.out hbx)
    replace w0_O := Lib.hid (Cd.ow_later w0_O.out hbx)
    have zW2 := hbx.size
    clear hbx
    have x0_O := Lib.hid x0_o
    have x0_N := Lib.hid x0_n
    have x0_B := Lib.hid (bound_of x0_o)
    clear x0_o x0_n
    have y0a := LB1.out.c0
    have y0b := LB1.out.c1
    have y0d := LB1.out.lt
    go_wp2_with fail
    clear y0a y0b y0d
    generalize hg : World.alloc W2 _ = W3
    obtain ⟨rg, zW3, hbg⟩ := start1 W2 _ hg
    clear hg
    replace HB := Lib.hid (below_then HB.out hbg)
    replace LB0 := Lib.hid (LB0.out.later hbg)
    replace LB1 := Lib.hid (LB1.out.later hbg)
    replace HR0 := Lib.hid (Cd.later HR0.out hbg)
    replace HR1 := Lib.hid (Cd.later HR1.out hbg)
    replace w0_O := Lib.hid (Cd.ow_later w0_O.out hbg)
    replace x0_O := Lib.hid (Cd.ow_later x0_O.out hbg)
    have Lx0 := Lib.hid (Loc1.of rg)
    clear hbg rg
    refine (to_q r1 _ l1 _ W3 HR1.out (by have := HX1.out; omega)).mono ?_
    rintro e W4 ⟨x1_v, x1_f, rfl, x1_o, x1_n, hbx⟩
    obtain ⟨x1_a, x1_c, rfl⟩ := Cd.ow_slice (c := atomC) x1_o
    replace HB := Lib.hid (below_then HB.out hbx)
    replace LB0 := Lib.hid (LB0.out.later hbx)
    replace LB1 := Lib.hid (LB1.out.later hbx)
    replace HR0 := Lib.hid (Cd.later HR0.out hbx)
    replace HR1 := Lib.hid (Cd.later HR1.out hbx)
    replace w0_O := Lib.hid (Cd.ow_later w0_O.out hbx)
    replace x0_O := Lib.hid (Cd.ow_later x0_O.out hbx)
    replace Lx0 := Lib.hid (Lx0.out.later hbx)
    have zW4 := hbx.size
    clear hbx
    have x1_O := Lib.hid x1_o
    have x1_N := Lib.hid x1_n
    have x1_B := Lib.hid (bound_of x1_o)
    clear x1_o x1_n
    have y0a := Lx0.out.c0
    have y0d := Lx0.out.lt
    go_wp2_with fail
    clear y0a y0d
    generalize hg : World.alloc W4 _ = W5
    obtain ⟨rg, zW5, hbg⟩ := start1 W4 _ hg
    clear hg
    replace HB := Lib.hid (below_then HB.out hbg)
    replace LB0 := Lib.hid (LB0.out.later hbg)
    replace LB1 := Lib.hid (LB1.out.later hbg)
    replace HR0 := Lib.hid (Cd.later HR0.out hbg)
    replace HR1 := Lib.hid (Cd.later HR1.out hbg)
    replace w0_O := Lib.hid (Cd.ow_later w0_O.out hbg)
    replace x0_O := Lib.hid (Cd.ow_later x0_O.out hbg)
    replace Lx0 := Lib.hid (Lx0.out.later hbg)
    replace x1_O := Lib.hid (Cd.ow_later x1_O.out hbg)
    have Lx1 := Lib.hid (Loc2.of rg)
    clear hbg rg
    refine (HIh.out HX0.out HX1.out _ _ _ _ W5 (tabsC.ow_rd x0_O.out) (atomsC.ow_rd x1_O.out)).mono ?_
    rintro e W6 ⟨g0_v, g0_f, rfl, g0_o, g0_n, hbx⟩
    obtain ⟨g0_a, g0_c, rfl⟩ := Cd.ow_slice g0_o
    replace HB := Lib.hid (below_then HB.out hbx)
    replace LB0 := Lib.hid (LB0.out.later hbx)
    replace LB1 := Lib.hid (LB1.out.later hbx)
    replace HR0 := Lib.hid (Cd.later HR0.out hbx)
    replace HR1 := Lib.hid (Cd.later HR1.out hbx)
    replace w0_O := Lib.hid (Cd.ow_later w0_O.out hbx)
    replace x0_O := Lib.hid (Cd.ow_later x0_O.out hbx)
    replace Lx0 := Lib.hid (Lx0.out.later hbx)
    replace x1_O := Lib.hid (Cd.ow_later x1_O.out hbx)
    replace Lx1 := Lib.hid (Lx1.out.later hbx)
    have zW6 := hbx.size
    clear hbx
    have g0_O := Lib.hid g0_o
    have g0_N := Lib.hid g0_n
    have g0_B := Lib.hid (bound_of g0_o)
    clear g0_o g0_n
    go_wp2_with fail
    refine (eq_i _ _ R0 _ _ W6 (rowC.ow_rd g0_O.out) (rowC.ow_rd w0_O.out)).mono ?_
    rintro e W7 ⟨rfl, hbx⟩
    replace HB := Lib.hid (below_then HB.out hbx)
    replace LB0 := Lib.hid (LB0.out.later hbx)
    replace LB1 := Lib.hid (LB1.out.later hbx)
    replace HR0 := Lib.hid (Cd.later HR0.out hbx)
    replace HR1 := Lib.hid (Cd.later HR1.out hbx)
    replace w0_O := Lib.hid (Cd.ow_later w0_O.out hbx)
    replace x0_O := Lib.hid (Cd.ow_later x0_O.out hbx)
    replace Lx0 := Lib.hid (Lx0.out.later hbx)
    replace x1_O := Lib.hid (Cd.ow_later x1_O.out hbx)
    replace Lx1 := Lib.hid (Lx1.out.later hbx)
    replace g0_O := Lib.hid (Cd.ow_later g0_O.out hbx)
    have zW7 := hbx.size
    clear hbx
    have y0a := Lx0.out.c0
    have y0d := Lx0.out.lt
    have y1a := LB0.out.c0
    have y1d := LB0.out.lt
    go_upto_region 14 with fail
    clear y0a y0d y1a y1d
    go_cut [44] (fun s wx => s = .bool false ∧ W7.heap.size ≤ wx.heap.size ∧ Below w.heap.size w wx ∧ Loc1 wx (w.heap.size) (.slice q0 l0.length c0) ∧ Loc2 wx (w.heap.size + 1) (.int .i64 r1) (.slice q1 l1.length c1) ∧ tabsC.rd wx (· < w.heap.size) [.slice q0 l0.length c0] l0 ∧ atomsC.rd wx (· < w.heap.size) [.slice q1 l1.length c1] l1 ∧ rowC.ow wx (W1z.heap.size) [.slice w0_a R0.length w0_c] R0 w0_f ∧ tabsC.ow wx (W1.heap.size) [.slice x0_a l0.length x0_c] l0 x0_f ∧ Loc1 wx (W2.heap.size) (.slice x0_a l0.length x0_c) ∧ atomsC.ow wx (W3.heap.size) [.slice x1_a l1.length x1_c] l1 x1_f ∧ Loc2 wx (W4.heap.size) (.int .i64 r1) (.slice x1_a l1.length x1_c) ∧ rowC.ow wx (W5.heap.size) [.slice g0_a R0.length g0_c] R0 g0_f)
    case first =>
      have HT := Lib.hid (to_db _ l0 _ W7.drew (rd_drew HR0.out) (by have := HX0.out; omega))
      have y0a := Lx0.out.c0
      have y1a := LB0.out.c0
      go_region_law (first | (go_simp; go_at_call 28; refine HT.out.mono ?_; rintro e wq ⟨tv, tf, rfl, tow, tnd, hbq⟩; (have hq := undrew hbq); (have hqz := hq.size); (have GHB := Lib.hid (below_then HB.out hq)); (have GLB0 := Lib.hid (LB0.out.later hq)); (have GLB1 := Lib.hid (LB1.out.later hq)); (have GHR0 := Lib.hid (Cd.later HR0.out hq)); (have GHR1 := Lib.hid (Cd.later HR1.out hq)); (have Gw0_O := Lib.hid (Cd.ow_later w0_O.out hq)); (have Gx0_O := Lib.hid (Cd.ow_later x0_O.out hq)); (have GLx0 := Lib.hid (Lx0.out.later hq)); (have Gx1_O := Lib.hid (Cd.ow_later x1_O.out hq)); (have GLx1 := Lib.hid (Lx1.out.later hq)); (have Gg0_O := Lib.hid (Cd.ow_later g0_O.out hq)); (have TO := Lib.hid tow); (have k0a := GLx0.out.c0); clear hbq hq tow tnd) | (go_simp; go_at_call 31; refine (eq_db _ _ l0 _ _ wq (tabsC.ow_rd Gx0_O.out) (tabsC.ow_rd TO.out)).mono ?_; rintro e wp ⟨rfl, hq2⟩; (have hqz2 := hq2.size); (have KHB := Lib.hid (below_then GHB.out hq2)); (have KLB0 := Lib.hid (GLB0.out.later hq2)); (have KLB1 := Lib.hid (GLB1.out.later hq2)); (have KHR0 := Lib.hid (Cd.later GHR0.out hq2)); (have KHR1 := Lib.hid (Cd.later GHR1.out hq2)); (have Kw0_O := Lib.hid (Cd.ow_later Gw0_O.out hq2)); (have Kx0_O := Lib.hid (Cd.ow_later Gx0_O.out hq2)); (have KLx0 := Lib.hid (GLx0.out.later hq2)); (have Kx1_O := Lib.hid (Cd.ow_later Gx1_O.out hq2)); (have KLx1 := Lib.hid (GLx1.out.later hq2)); (have Kg0_O := Lib.hid (Cd.ow_later Gg0_O.out hq2)); clear hq2))
      all_goals
        go_wp2_with fail
        go_meet
        exact ⟨rfl, by omega, KHB.out, KLB0.out, KLB1.out, KHR0.out, KHR1.out, Kw0_O.out, Kx0_O.out, KLx0.out, Kx1_O.out, KLx1.out, Kg0_O.out⟩
    case rest =>
      obtain ⟨rfl, zW8, c_HB, c_LB0, c_LB1, c_HR0, c_HR1, c_w0_O, c_x0_O, c_Lx0, c_x1_O, c_Lx1, c_g0_O⟩ := hcut
      clear HB LB0 LB1 HR0 HR1 w0_O x0_O Lx0 x1_O Lx1 g0_O
      have HB := Lib.hid c_HB
      have LB0 := Lib.hid c_LB0
      have LB1 := Lib.hid c_LB1
      have HR0 := Lib.hid c_HR0
      have HR1 := Lib.hid c_HR1
      have w0_O := Lib.hid c_w0_O
      have x0_O := Lib.hid c_x0_O
      have Lx0 := Lib.hid c_Lx0
      have x1_O := Lib.hid c_x1_O
      have Lx1 := Lib.hid c_Lx1
      have g0_O := Lib.hid c_g0_O
      clear c_HB c_LB0 c_LB1 c_HR0 c_HR1 c_w0_O c_x0_O c_Lx0 c_x1_O c_Lx1 c_g0_O
      generalize wc = W8 at *
      have y0a := Lx1.out.c0
      have y0b := Lx1.out.c1
      have y0d := Lx1.out.lt
      have y1a := LB1.out.c0
      have y1b := LB1.out.c1
      have y1d := LB1.out.lt
      go_upto_region 16 with fail
      clear y0a y0b y0d y1a y1b y1d
      go_cut [49] (fun s wx => s = .bool false ∧ W8.heap.size ≤ wx.heap.size ∧ Below w.heap.size w wx ∧ Loc1 wx (w.heap.size) (.slice q0 l0.length c0) ∧ Loc2 wx (w.heap.size + 1) (.int .i64 r1) (.slice q1 l1.length c1) ∧ tabsC.rd wx (· < w.heap.size) [.slice q0 l0.length c0] l0 ∧ atomsC.rd wx (· < w.heap.size) [.slice q1 l1.length c1] l1 ∧ rowC.ow wx (W1z.heap.size) [.slice w0_a R0.length w0_c] R0 w0_f ∧ tabsC.ow wx (W1.heap.size) [.slice x0_a l0.length x0_c] l0 x0_f ∧ Loc1 wx (W2.heap.size) (.slice x0_a l0.length x0_c) ∧ atomsC.ow wx (W3.heap.size) [.slice x1_a l1.length x1_c] l1 x1_f ∧ Loc2 wx (W4.heap.size) (.int .i64 r1) (.slice x1_a l1.length x1_c) ∧ rowC.ow wx (W5.heap.size) [.slice g0_a R0.length g0_c] R0 g0_f)
      case first =>
        have HT := Lib.hid (to_q r1 _ l1 _ W8.drew (rd_drew HR1.out) (by have := HX1.out; omega))
        have y0a := Lx1.out.c0
        have y1a := LB1.out.c0
        have y0b := Lx1.out.c1
        have y1b := LB1.out.c1
        go_region_law (first | (go_simp; go_at_call 29; refine HT.out.mono ?_; rintro e wq ⟨tv, tf, rfl, tow, tnd, hbq⟩; (have hq := undrew hbq); (have hqz := hq.size); (have GHB := Lib.hid (below_then HB.out hq)); (have GLB0 := Lib.hid (LB0.out.later hq)); (have GLB1 := Lib.hid (LB1.out.later hq)); (have GHR0 := Lib.hid (Cd.later HR0.out hq)); (have GHR1 := Lib.hid (Cd.later HR1.out hq)); (have Gw0_O := Lib.hid (Cd.ow_later w0_O.out hq)); (have Gx0_O := Lib.hid (Cd.ow_later x0_O.out hq)); (have GLx0 := Lib.hid (Lx0.out.later hq)); (have Gx1_O := Lib.hid (Cd.ow_later x1_O.out hq)); (have GLx1 := Lib.hid (Lx1.out.later hq)); (have Gg0_O := Lib.hid (Cd.ow_later g0_O.out hq)); (have TO := Lib.hid tow); (have k0a := GLx1.out.c0); (have k0b := GLx1.out.c1); clear hbq hq tow tnd) | (go_simp; go_at_call 32; refine (eq_q r1 _ _ l1 _ _ wq (atomsC.ow_rd Gx1_O.out) (atomsC.ow_rd TO.out)).mono ?_; rintro e wp ⟨rfl, hq2⟩; (have hqz2 := hq2.size); (have KHB := Lib.hid (below_then GHB.out hq2)); (have KLB0 := Lib.hid (GLB0.out.later hq2)); (have KLB1 := Lib.hid (GLB1.out.later hq2)); (have KHR0 := Lib.hid (Cd.later GHR0.out hq2)); (have KHR1 := Lib.hid (Cd.later GHR1.out hq2)); (have Kw0_O := Lib.hid (Cd.ow_later Gw0_O.out hq2)); (have Kx0_O := Lib.hid (Cd.ow_later Gx0_O.out hq2)); (have KLx0 := Lib.hid (GLx0.out.later hq2)); (have Kx1_O := Lib.hid (Cd.ow_later Gx1_O.out hq2)); (have KLx1 := Lib.hid (GLx1.out.later hq2)); (have Kg0_O := Lib.hid (Cd.ow_later Gg0_O.out hq2)); clear hq2))
        all_goals
          go_wp2_with fail
          go_meet
          exact ⟨rfl, by omega, KHB.out, KLB0.out, KLB1.out, KHR0.out, KHR1.out, Kw0_O.out, Kx0_O.out, KLx0.out, Kx1_O.out, KLx1.out, Kg0_O.out⟩
      case rest =>
        obtain ⟨rfl, zW9, c_HB, c_LB0, c_LB1, c_HR0, c_HR1, c_w0_O, c_x0_O, c_Lx0, c_x1_O, c_Lx1, c_g0_O⟩ := hcut
        clear HB LB0 LB1 HR0 HR1 w0_O x0_O Lx0 x1_O Lx1 g0_O
        have HB := Lib.hid c_HB
        have LB0 := Lib.hid c_LB0
        have LB1 := Lib.hid c_LB1
        have HR0 := Lib.hid c_HR0
        have HR1 := Lib.hid c_HR1
        have w0_O := Lib.hid c_w0_O
        have x0_O := Lib.hid c_x0_O
        have Lx0 := Lib.hid c_Lx0
        have x1_O := Lib.hid c_x1_O
        have Lx1 := Lib.hid c_Lx1
        have g0_O := Lib.hid c_g0_O
        clear c_HB c_LB0 c_LB1 c_HR0 c_HR1 c_w0_O c_x0_O c_Lx0 c_x1_O c_Lx1 c_g0_O
        generalize wc = W9 at *
        have y0a := Lx0.out.c0
        have y0d := Lx0.out.lt
        go_wp2_with fail
        clear y0a y0d
        have HMK := Lib.hid (mark_db _ l0 _ (1) x0_f W9 x0_O.out x0_N.out (cnts_of HX0.out).1 (cnts_of HX0.out).2 (by omega) (by omega))
        obtain ⟨kk0, hkk0⟩ : ∃ kk, 1 + sumN cntT l0 = kk := ⟨_, rfl⟩
        have bkk0 : kk0 ≤ 4194309 ∧ 1 ≤ kk0 := by have := (show sumN cntT l0 ≤ 4194308 from (cnts_of HX0.out).1); omega
        rw [hkk0] at HMK
        have Hkk0 := Lib.hid hkk0
        clear hkk0
        refine HMK.out.mono ?_
        rintro e W10 ⟨rfl, x0_o, ht⟩
        have zW10 := ht.size
        replace HB := Lib.hid (Cd.Touch.below HB.out ht (fun b hb => by have := x0_B.out b hb; have := HB0.out; omega))
        replace LB0 := Lib.hid (LB0.out.touched ht (fun q => by have := x0_B.out _ q; have := HB0.out; omega))
        replace LB1 := Lib.hid (LB1.out.touched ht (fun q => by have := x0_B.out _ q; have := HB0.out; omega))
        replace HR0 := Lib.hid (Cd.touched HR0.out ht (fun b hb q => by have := x0_B.out b hb; have := HB0.out; omega))
        replace HR1 := Lib.hid (Cd.touched HR1.out ht (fun b hb q => by have := x0_B.out b hb; have := HB0.out; omega))
        replace w0_O := Lib.hid (Cd.ow_touched w0_O.out ht (fun b hb q => by have := x0_B.out b q; have := w0_B.out b hb; omega))
        replace Lx0 := Lib.hid (Lx0.out.touched ht (fun q => by have := x0_B.out _ q; have := HB0.out; omega))
        replace x1_O := Lib.hid (Cd.ow_touched x1_O.out ht (fun b hb q => by have := x0_B.out b q; have := x1_B.out b hb; omega))
        replace Lx1 := Lib.hid (Lx1.out.touched ht (fun q => by have := x0_B.out _ q; have := HB0.out; omega))
        replace g0_O := Lib.hid (Cd.ow_touched g0_O.out ht (fun b hb q => by have := x0_B.out b q; have := g0_B.out b hb; omega))
        have x0_M := Lib.hid x0_o
        clear x0_o ht
        have y0a := Lx1.out.c0
        have y0b := Lx1.out.c1
        have y0d := Lx1.out.lt
        go_wp2_with fail
        clear y0a y0b y0d
        have HMK := Lib.hid (mark_q r1 _ l1 _ (kk0) x1_f W10 x1_O.out x1_N.out (cntsA_of HX1.out).1 (cntsA_of HX1.out).2 (by omega) (by omega))
        obtain ⟨kk1, hkk1⟩ : ∃ kk, kk0 + sumN cntA l1 = kk := ⟨_, rfl⟩
        have bkk1 : kk1 ≤ 8388617 ∧ 1 ≤ kk1 := by have := (show sumN cntA l1 ≤ 4194308 from (cntsA_of HX1.out).1); omega
        rw [hkk1] at HMK
        have Hkk1 := Lib.hid hkk1
        clear hkk1
        refine HMK.out.mono ?_
        rintro e W11 ⟨rfl, x1_o, ht⟩
        have zW11 := ht.size
        replace HB := Lib.hid (Cd.Touch.below HB.out ht (fun b hb => by have := x1_B.out b hb; have := HB0.out; omega))
        replace LB0 := Lib.hid (LB0.out.touched ht (fun q => by have := x1_B.out _ q; have := HB0.out; omega))
        replace LB1 := Lib.hid (LB1.out.touched ht (fun q => by have := x1_B.out _ q; have := HB0.out; omega))
        replace HR0 := Lib.hid (Cd.touched HR0.out ht (fun b hb q => by have := x1_B.out b hb; have := HB0.out; omega))
        replace HR1 := Lib.hid (Cd.touched HR1.out ht (fun b hb q => by have := x1_B.out b hb; have := HB0.out; omega))
        replace w0_O := Lib.hid (Cd.ow_touched w0_O.out ht (fun b hb q => by have := x1_B.out b q; have := w0_B.out b hb; omega))
        replace Lx0 := Lib.hid (Lx0.out.touched ht (fun q => by have := x1_B.out _ q; have := HB0.out; omega))
        replace Lx1 := Lib.hid (Lx1.out.touched ht (fun q => by have := x1_B.out _ q; have := HB0.out; omega))
        replace g0_O := Lib.hid (Cd.ow_touched g0_O.out ht (fun b hb q => by have := x1_B.out b q; have := g0_B.out b hb; omega))
        replace x0_M := Lib.hid (Cd.ow_touched x0_M.out ht (fun b hb q => by have := x1_B.out b q; have := x0_B.out b hb; omega))
        have x1_M := Lib.hid x1_o
        clear x1_o ht
        go_wp2_with fail
        refine (eq_i _ _ R0 _ _ W11 (rowC.ow_rd g0_O.out) (rowC.ow_rd w0_O.out)).mono ?_
        rintro e W12 ⟨rfl, hbx⟩
        replace HB := Lib.hid (below_then HB.out hbx)
        replace LB0 := Lib.hid (LB0.out.later hbx)
        replace LB1 := Lib.hid (LB1.out.later hbx)
        replace HR0 := Lib.hid (Cd.later HR0.out hbx)
        replace HR1 := Lib.hid (Cd.later HR1.out hbx)
        replace w0_O := Lib.hid (Cd.ow_later w0_O.out hbx)
        replace Lx0 := Lib.hid (Lx0.out.later hbx)
        replace Lx1 := Lib.hid (Lx1.out.later hbx)
        replace g0_O := Lib.hid (Cd.ow_later g0_O.out hbx)
        replace x0_M := Lib.hid (Cd.ow_later x0_M.out hbx)
        replace x1_M := Lib.hid (Cd.ow_later x1_M.out hbx)
        have zW12 := hbx.size
        clear hbx
        go_wp2_with fail
        have HMK := Lib.hid (mark_i _ R0 _ (1) g0_f W12 g0_O.out HW0.out (by omega))
        obtain ⟨mm, hmm⟩ : ∃ kk, 1 + R0.length = kk := ⟨_, rfl⟩
        have bmm : mm ≤ 1048578 := by have := (show R0.length ≤ 1048577 from HW0.out); omega
        rw [hmm] at HMK
        have Hmm := Lib.hid hmm
        clear hmm
        refine HMK.out.mono ?_
        rintro e W13 ⟨rfl, g0_o, ht⟩
        have zW13 := ht.size
        replace HB := Lib.hid (Cd.Touch.below HB.out ht (fun b hb => by have := g0_B.out b hb; have := HB0.out; omega))
        replace LB0 := Lib.hid (LB0.out.touched ht (fun q => by have := g0_B.out _ q; have := HB0.out; omega))
        replace LB1 := Lib.hid (LB1.out.touched ht (fun q => by have := g0_B.out _ q; have := HB0.out; omega))
        replace HR0 := Lib.hid (Cd.touched HR0.out ht (fun b hb q => by have := g0_B.out b hb; have := HB0.out; omega))
        replace HR1 := Lib.hid (Cd.touched HR1.out ht (fun b hb q => by have := g0_B.out b hb; have := HB0.out; omega))
        replace w0_O := Lib.hid (Cd.ow_touched w0_O.out ht (fun b hb q => by have := g0_B.out b q; have := w0_B.out b hb; omega))
        replace Lx0 := Lib.hid (Lx0.out.touched ht (fun q => by have := g0_B.out _ q; have := HB0.out; omega))
        replace Lx1 := Lib.hid (Lx1.out.touched ht (fun q => by have := g0_B.out _ q; have := HB0.out; omega))
        replace x0_M := Lib.hid (Cd.ow_touched x0_M.out ht (fun b hb q => by have := g0_B.out b q; have := x0_B.out b hb; omega))
        replace x1_M := Lib.hid (Cd.ow_touched x1_M.out ht (fun b hb q => by have := g0_B.out b q; have := x1_B.out b hb; omega))
        have g0_M := Lib.hid g0_o
        clear g0_o ht
        go_wp2_with fail
        have HHD := Lib.hid (held_i _ R0.length _ 1 W13 (rowC.ow_rd g0_M.out) HW0.out (by omega))
        rw [Hmm.out] at HHD
        refine HHD.out.mono ?_
        rintro e W14 ⟨rfl, hbx⟩
        replace HB := Lib.hid (below_then HB.out hbx)
        replace LB0 := Lib.hid (LB0.out.later hbx)
        replace LB1 := Lib.hid (LB1.out.later hbx)
        replace HR0 := Lib.hid (Cd.later HR0.out hbx)
        replace HR1 := Lib.hid (Cd.later HR1.out hbx)
        replace w0_O := Lib.hid (Cd.ow_later w0_O.out hbx)
        replace Lx0 := Lib.hid (Lx0.out.later hbx)
        replace Lx1 := Lib.hid (Lx1.out.later hbx)
        replace x0_M := Lib.hid (Cd.ow_later x0_M.out hbx)
        replace x1_M := Lib.hid (Cd.ow_later x1_M.out hbx)
        replace g0_M := Lib.hid (Cd.ow_later g0_M.out hbx)
        have zW14 := hbx.size
        clear hbx
        have y0a := LB0.out.c0
        have y0d := LB0.out.lt
        have y1a := LB1.out.c0
        have y1b := LB1.out.c1
        have y1d := LB1.out.lt
        go_upto_region 31 with fail
        clear y0a y0d y1a y1b y1d
        go_cut [13] (fun s13 wx => ∃ (a_ : Option Addr) (c_ : Nat) (f_ : List Nat), s13 = .slice a_ R0.length c_ ∧ W14.heap.size ≤ wx.heap.size ∧ rowC.ow wx W14.heap.size [.slice a_ R0.length c_] R0 f_ ∧ f_.Nodup ∧ Below w.heap.size w wx ∧ Loc1 wx (w.heap.size) (.slice q0 l0.length c0) ∧ Loc2 wx (w.heap.size + 1) (.int .i64 r1) (.slice q1 l1.length c1) ∧ tabsC.rd wx (· < w.heap.size) [.slice q0 l0.length c0] l0 ∧ atomsC.rd wx (· < w.heap.size) [.slice q1 l1.length c1] l1 ∧ rowC.ow wx (W1z.heap.size) [.slice w0_a R0.length w0_c] R0 w0_f ∧ Loc1 wx (W2.heap.size) (.slice x0_a l0.length x0_c) ∧ Loc2 wx (W4.heap.size) (.int .i64 r1) (.slice x1_a l1.length x1_c) ∧ tabsC.ow wx (W1.heap.size) [.slice x0_a l0.length x0_c] (mkS mkT cntT (1) l0) x0_f ∧ atomsC.ow wx (W3.heap.size) [.slice x1_a l1.length x1_c] (mkS mkA cntA (kk0) l1) x1_f ∧ rowC.ow wx (W5.heap.size) [.slice g0_a R0.length g0_c] (marks (1 : Nat) R0.length) g0_f)
        case first =>
          have hd : Below W14.heap.size W14 W14.drew := Below.drew (Below.refl _ _)
          have u1 := Lib.hid (below_then HB.out hd)
          have u2 := Lib.hid (LB0.out.later hd)
          have u3 := Lib.hid (LB1.out.later hd)
          have u4 := Lib.hid (Cd.later HR0.out hd)
          have u5 := Lib.hid (Cd.later HR1.out hd)
          have u6 := Lib.hid (Cd.ow_later w0_O.out hd)
          have u7 := Lib.hid (Lx0.out.later hd)
          have u8 := Lib.hid (Lx1.out.later hd)
          have u9 := Lib.hid (Cd.ow_later x0_M.out hd)
          have u10 := Lib.hid (Cd.ow_later x1_M.out hd)
          have u11 := Lib.hid (Cd.ow_later g0_M.out hd)
          have szd := hd.size
          refine wp_region_held_drew (S := fun wx => Loc1 wx (w.heap.size) (.slice q0 l0.length c0) ∧ Loc2 wx (w.heap.size + 1) (.int .i64 r1) (.slice q1 l1.length c1)) (by kernel_rfl) ?_ (fun hHeld => ?_)
          · exact ⟨u2.out, u3.out⟩
          clear hd
          generalize World.drew W14 = wyd at *
          refine RegH.takeH (i := 0) (v := ?_) rfl (by kernel_rfl) (by kernel_rfl) (by kernel_rfl) (fun _ _ _ h => h) (Or.inl ⟨by rfl, ?_⟩) (by assumption) ?_
          rotate_left
          · (intro wS hSw; (try dsimp only at hSw); (obtain ⟨s_LB0, s_LB1⟩ := hSw); (have r0a := s_LB0.c0); (have r1a := s_LB1.c0); (have r1b := s_LB1.c1); go_simp; try (with_reducible rfl))
          try simp only [Act.put, List.setIfInBounds_toArray, List.set_cons_zero, List.set_cons_succ]
          refine RegH.takeH (i := 2) (v := ?_) rfl (by kernel_rfl) (by kernel_rfl) (by kernel_rfl) (fun _ _ _ h => h) (Or.inl ⟨by rfl, ?_⟩) (by assumption) ?_
          rotate_left
          · (intro wS hSw; (try dsimp only at hSw); (obtain ⟨s_LB0, s_LB1⟩ := hSw); (have r0a := s_LB0.c0); (have r1a := s_LB1.c0); (have r1b := s_LB1.c1); go_simp; try (with_reducible rfl))
          try simp only [Act.put, List.setIfInBounds_toArray, List.set_cons_zero, List.set_cons_succ]
          refine RegH.consH (i := 1) rfl (by kernel_rfl) (fun K hK => ?_)
          go_simp
          go_at_call 28
          refine (to_db _ l0 _ wyd u4.out (by have := HX0.out; omega)).mono ?_
          rintro e wy12 ⟨tv0, tf0, rfl, tow, tnd, hq⟩
          have u13 := Lib.hid (below_then u1.out hq)
          have u14 := Lib.hid (u2.out.later hq)
          have u15 := Lib.hid (u3.out.later hq)
          have u16 := Lib.hid (Cd.later u4.out hq)
          have u17 := Lib.hid (Cd.later u5.out hq)
          have u18 := Lib.hid (Cd.ow_later u6.out hq)
          have u19 := Lib.hid (u7.out.later hq)
          have u20 := Lib.hid (u8.out.later hq)
          have u21 := Lib.hid (Cd.ow_later u9.out hq)
          have u22 := Lib.hid (Cd.ow_later u10.out hq)
          have u23 := Lib.hid (Cd.ow_later u11.out hq)
          have szwy12 := hq.size
          have v24 := Lib.hid tow
          clear hq tow tnd
          (try go_wp2_with fail)
          refine hK.out _ _ ?_ (fun hHeld => ?_)
          · exact ⟨u14.out, u15.out⟩
          clear hK K
          try simp only [Act.put, List.setIfInBounds_toArray, List.set_cons_zero, List.set_cons_succ]
          refine RegH.consH (i := 3) rfl (by kernel_rfl) (fun K hK => ?_)
          go_simp
          go_at_call 29
          refine (to_q r1 _ l1 _ wy12 u17.out (by have := HX1.out; omega)).mono ?_
          rintro e wy25 ⟨tv1, tf1, rfl, tow, tnd, hq⟩
          have u26 := Lib.hid (below_then u13.out hq)
          have u27 := Lib.hid (u14.out.later hq)
          have u28 := Lib.hid (u15.out.later hq)
          have u29 := Lib.hid (Cd.later u16.out hq)
          have u30 := Lib.hid (Cd.later u17.out hq)
          have u31 := Lib.hid (Cd.ow_later u18.out hq)
          have u32 := Lib.hid (u19.out.later hq)
          have u33 := Lib.hid (u20.out.later hq)
          have u34 := Lib.hid (Cd.ow_later u21.out hq)
          have u35 := Lib.hid (Cd.ow_later u22.out hq)
          have u36 := Lib.hid (Cd.ow_later u23.out hq)
          have v37 := Lib.hid (Cd.ow_later v24.out hq)
          have szwy25 := hq.size
          have v38 := Lib.hid tow
          clear hq tow tnd
          (try go_wp2_with fail)
          refine hK.out _ _ ?_ (fun hHeld => ?_)
          · exact ⟨u27.out, u28.out⟩
          clear hK K
          try simp only [Act.put, List.setIfInBounds_toArray, List.set_cons_zero, List.set_cons_succ]
          refine RegH.consH (i := 4) rfl (by kernel_rfl) (fun K hK => ?_)
          go_simp
          go_at_call 21
          refine (HIh.out HX0.out HX1.out _ _ _ _ wy25 (tabsC.ow_rd v37.out) (atomsC.ow_rd v38.out)).mono ?_
          rintro e wy39 ⟨ru, rf, rfl, tow, tnd, hq⟩
          obtain ⟨ra, rc, rfl⟩ := Cd.ow_slice tow
          have u40 := Lib.hid (below_then u26.out hq)
          have u41 := Lib.hid (u27.out.later hq)
          have u42 := Lib.hid (u28.out.later hq)
          have u43 := Lib.hid (Cd.later u29.out hq)
          have u44 := Lib.hid (Cd.later u30.out hq)
          have u45 := Lib.hid (Cd.ow_later u31.out hq)
          have u46 := Lib.hid (u32.out.later hq)
          have u47 := Lib.hid (u33.out.later hq)
          have u48 := Lib.hid (Cd.ow_later u34.out hq)
          have u49 := Lib.hid (Cd.ow_later u35.out hq)
          have u50 := Lib.hid (Cd.ow_later u36.out hq)
          have szwy39 := hq.size
          have v51 := Lib.hid tow
          have HRN := Lib.hid tnd
          have HRL := Lib.hid (bound_of tow)
          clear hq tow tnd
          (try go_wp2_with fail)
          refine hK.out _ _ ?_ (fun hHeld => ?_)
          · exact ⟨u41.out, u42.out⟩
          clear hK K
          try simp only [Act.put, List.setIfInBounds_toArray, List.set_cons_zero, List.set_cons_succ]
          refine RegH.takeH (i := 5) (v := ?_) rfl (by kernel_rfl) (by kernel_rfl) (by kernel_rfl) (fun _ _ _ h => h) (Or.inl ⟨by rfl, ?_⟩) (by assumption) ?_
          rotate_left
          · (intro wS hSw; (try dsimp only at hSw); (obtain ⟨s_LB0, s_LB1⟩ := hSw); (have r0a := s_LB0.c0); (have r1a := s_LB1.c0); (have r1b := s_LB1.c1); go_simp; try (with_reducible rfl))
          try simp only [Act.put, List.setIfInBounds_toArray, List.set_cons_zero, List.set_cons_succ]
          refine wpAnyH_done (by kernel_rfl) ?_ _
          go_wp2_with fail
          go_meet
          exact ⟨ra, rc, rf, rfl, by omega, Cd.ow_base _ v51.out (by omega), HRN.out, u40.out, u41.out, u42.out, u43.out, u44.out, u45.out, u46.out, u47.out, u48.out, u49.out, u50.out⟩
        case rest =>
          obtain ⟨y0_a, y0_c, y0_f, rfl, zW15, cO, cN, c_HB, c_LB0, c_LB1, c_HR0, c_HR1, c_w0_O, c_Lx0, c_Lx1, c_x0_M, c_x1_M, c_g0_M⟩ := hcut
          clear HB LB0 LB1 HR0 HR1 w0_O Lx0 Lx1 x0_M x1_M g0_M
          have HB := Lib.hid c_HB
          have LB0 := Lib.hid c_LB0
          have LB1 := Lib.hid c_LB1
          have HR0 := Lib.hid c_HR0
          have HR1 := Lib.hid c_HR1
          have w0_O := Lib.hid c_w0_O
          have Lx0 := Lib.hid c_Lx0
          have Lx1 := Lib.hid c_Lx1
          have x0_M := Lib.hid c_x0_M
          have x1_M := Lib.hid c_x1_M
          have g0_M := Lib.hid c_g0_M
          clear c_HB c_LB0 c_LB1 c_HR0 c_HR1 c_w0_O c_Lx0 c_Lx1 c_x0_M c_x1_M c_g0_M
          have y0_O := Lib.hid cO
          have y0_N := Lib.hid cN
          have y0_B := Lib.hid (bound_of cO)
          clear cO cN
          generalize wc = W15 at *
          go_wp2_with fail
          refine (eq_i _ _ R0 _ _ W15 (rowC.ow_rd y0_O.out) (rowC.ow_rd w0_O.out)).mono ?_
          rintro e W16 ⟨rfl, hbx⟩
          replace HB := Lib.hid (below_then HB.out hbx)
          replace LB0 := Lib.hid (LB0.out.later hbx)
          replace LB1 := Lib.hid (LB1.out.later hbx)
          replace HR0 := Lib.hid (Cd.later HR0.out hbx)
          replace HR1 := Lib.hid (Cd.later HR1.out hbx)
          replace w0_O := Lib.hid (Cd.ow_later w0_O.out hbx)
          replace Lx0 := Lib.hid (Lx0.out.later hbx)
          replace Lx1 := Lib.hid (Lx1.out.later hbx)
          replace x0_M := Lib.hid (Cd.ow_later x0_M.out hbx)
          replace x1_M := Lib.hid (Cd.ow_later x1_M.out hbx)
          replace g0_M := Lib.hid (Cd.ow_later g0_M.out hbx)
          replace y0_O := Lib.hid (Cd.ow_later y0_O.out hbx)
          have zW16 := hbx.size
          clear hbx
          go_wp2_with fail
          have HHD := Lib.hid (held_i _ R0.length _ 1 W16 (rowC.ow_rd g0_M.out) HW0.out (by omega))
          rw [Hmm.out] at HHD
          refine HHD.out.mono ?_
          rintro e W17 ⟨rfl, hbx⟩
          replace HB := Lib.hid (below_then HB.out hbx)
          replace LB0 := Lib.hid (LB0.out.later hbx)
          replace LB1 := Lib.hid (LB1.out.later hbx)
          replace HR0 := Lib.hid (Cd.later HR0.out hbx)
          replace HR1 := Lib.hid (Cd.later HR1.out hbx)
          replace w0_O := Lib.hid (Cd.ow_later w0_O.out hbx)
          replace Lx0 := Lib.hid (Lx0.out.later hbx)
          replace Lx1 := Lib.hid (Lx1.out.later hbx)
          replace x0_M := Lib.hid (Cd.ow_later x0_M.out hbx)
          replace x1_M := Lib.hid (Cd.ow_later x1_M.out hbx)
          replace g0_M := Lib.hid (Cd.ow_later g0_M.out hbx)
          replace y0_O := Lib.hid (Cd.ow_later y0_O.out hbx)
          have zW17 := hbx.size
          clear hbx
          go_wp2_with fail
          go_ret
          exact ⟨rfl, HB.out⟩
end Go.Proofs.YtdkhgeknjekkoaaGreat.WalkTrueSizes
