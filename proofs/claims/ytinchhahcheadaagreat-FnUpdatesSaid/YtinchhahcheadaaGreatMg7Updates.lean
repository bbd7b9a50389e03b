/- Texts that the proof rests on, one behind the other. -/
import Derived.Test.YtinchhahcheadaaGreatMg6Updates
import Derived.Lib.AppendZerosOnto
import Derived.Laws.CopyOwn
import Derived.Deep.RegionLaw
import Derived.Test.YtinchhahcheadaaGreatMg1Updates
import Derived.Test.YtinchhahcheadaaGreatTabIns
import Derived.Test.YtinchhahcheadaaGreatMg5Updates
import Derived.Test.YtinchhahcheadaaGreatUpdFmt
import Derived.Deep.DeepCutAuto
import Derived.Test.YtinchhahcheadaaGreatUpd
import Derived.Test.YtinchhahcheadaaGreatSlMath
import Derived.Test.YtinchhahcheadaaGreatMg4Updates
import Derived.Deep.DeepMust
import Derived.Test.YtinchhahcheadaaGreatTabSpec2
import Derived.Test.YtinchhahcheadaaGreatTabImp2
import Derived.Test.YtinchhahcheadaaGreatTabImp5

namespace Go.Proofs.YtinchhahcheadaaGreat.TabImp
open Go Go.RowKit Byt Ints IntsLaw Cd Rows2 Tab TabSpec Exact

def InsAns (n : Nat) (rows : List (List Int)) (row : List Int) (i : Nat) (fp f : List Nat) (base : Nat) (w : World) (e : Ending) (w' : World) : Prop :=
  ∃ g' c' fp', e = .returned (.slice (some ⟨g', 0, none⟩) (n + 1) c') ∧ rowsC.ow w' base [.slice (some ⟨g', 0, none⟩) (n + 1) c'] (Cd.ins rows i row) fp' ∧ fp'.Nodup ∧ (∀ x ∈ fp', x ∈ fp ∨ x ∈ f ∨ w.heap.size ≤ x) ∧ Cd.Touch fp w w'

set_option maxRecDepth 100000 in
theorem insert_end (g n : Nat) (rows : List (List Int)) (fp : List Nat) (base : Nat) (w : World) (how : rowsC.ow w base [.slice (some ⟨g, 0, none⟩) n n] rows fp) (hnd : fp.Nodup) (hnl : n = rows.length) (hn8 : n ≤ 8) (b : Nat) (u : Value) (row : List Int) (f : List Nat) (hu : w.cell? ⟨b, 0, none⟩ = some u) (hrow : rowC.ow w base [u] row f) (hfd : f.Nodup) (hdis : ∀ x ∈ f, x ∉ fp) (hbase : base ≤ w.heap.size) :
    Calls Tryz.prog 125 #[.slice (some ⟨g, 0, none⟩) n n, .int .i64 n, .slice (some ⟨b, 0, none⟩) 1 1] w fun e w' => InsAns n rows row n fp f base w e w' := by
  have HOW := Lib.hid how
  have HND := Lib.hid hnd
  have HU := Lib.hid hu
  have HROW := Lib.hid hrow
  have HFD := Lib.hid hfd
  have HDIS := Lib.hid hdis
  have HB := Lib.hid hbase
  have HNL := Lib.hid hnl
  clear how hnd hu hrow hfd hdis hbase hnl
  go_enter Tryz.func125, Tryz.ntmps125
  go_wp2_with (at_builtin; refine Cd.wpList_appendE (c := rowC) rfl rfl (.tmp 23) (.tmp 24) 49 rfl base 27 (.slice none 0 0) 24 Tryz.underlying49 info_ints rfl (by decide) (.slice (some ⟨g, 0, none⟩) n n) rows fp rfl HOW.out HND.out b u rfl HU.out row f HROW.out HFD.out HDIS.out (by have := HNL.out; omega) HB.out ?_)
  intro g' c' w' fp' h1 h2 h3 h4
  rw [← HNL.out] at h1 ⊢
  go_wp2_with fail
  go_ret
  have e1 : Cd.ins rows n row = rows ++ [row] := by
    unfold Cd.ins
    rw [List.take_of_length_le (by have := HNL.out; omega), List.drop_eq_nil_of_le (by have := HNL.out; omega)]
  exact ⟨g', c', fp', rfl, by rw [e1]; exact h1, h2, h3, h4⟩
theorem add_at (b o j : Nat) : (⟨b, o, none⟩ : Addr).add j = ⟨b, o + j, none⟩ := by unfold Addr.add; split <;> simp_all
theorem splice2 {us zs : List Value} {u : Value} {i n G : Nat} (hl : us.length = n) (hi : i < n) (hz : zs.length = G - i) (hG : n + 1 ≤ G) :
    (splice (splice (us.take i ++ zs) i [u]) (i + 1) (us.drop i)).length = G ∧ (splice (splice (us.take i ++ zs) i [u]) (i + 1) (us.drop i)).take (n + 1) = Cd.ins us i u := by
  have h1 : (us.take i).length = i := by rw [List.length_take]; omega
  have h2 : (us.drop i).length = n - i := by rw [List.length_drop]; omega
  have e1 : splice (us.take i ++ zs) i [u] = us.take i ++ ([u] ++ zs.drop 1) := by
    unfold splice
    rw [List.take_left' h1, List.length_singleton, List.drop_append, List.drop_eq_nil_of_le (show (us.take i).length ≤ i + 1 by omega), h1]
    simp
  have e2 : splice (us.take i ++ ([u] ++ zs.drop 1)) (i + 1) (us.drop i) = us.take i ++ [u] ++ (us.drop i ++ (zs.drop 1).drop (n - i)) := by
    rw [show us.take i ++ ([u] ++ zs.drop 1) = (us.take i ++ [u]) ++ zs.drop 1 from (List.append_assoc _ _ _).symm]
    unfold splice
    rw [List.take_left' (show (us.take i ++ [u]).length = i + 1 by rw [List.length_append, h1]; rfl), h2, List.drop_append]
    rw [List.drop_eq_nil_of_le (show (us.take i ++ [u]).length ≤ i + 1 + (n - i) by rw [List.length_append, h1, List.length_singleton]; omega)]
    rw [show i + 1 + (n - i) - (us.take i ++ [u]).length = n - i by rw [List.length_append, h1, List.length_singleton]; omega]
    rfl
  rw [e1, e2]
  constructor
  · simp only [List.length_append, List.length_drop, List.length_singleton, h1, h2, hz]
    omega
  · rw [← List.append_assoc, List.take_left' (by simp only [List.length_append, List.length_singleton, h1, h2]; omega)]
    unfold Cd.ins
    rw [List.append_assoc]
    rfl

set_option maxRecDepth 100000 in
set_option maxHeartbeats 3200000 in
theorem insert_grow (g n i : Nat) (rows : List (List Int)) (fp : List Nat) (base : Nat) (w : World) (how : rowsC.ow w base [.slice (some ⟨g, 0, none⟩) n n] rows fp) (hnd : fp.Nodup) (hnl : n = rows.length) (hi : i < n) (hn8 : n ≤ 8) (b : Nat) (u : Value) (row : List Int) (f : List Nat) (hu : w.cell? ⟨b, 0, none⟩ = some u) (hrow : rowC.ow w base [u] row f) (hfd : f.Nodup) (hdis : ∀ x ∈ f, x ∉ fp) (hbase : base ≤ w.heap.size) :
    Calls Tryz.prog 125 #[.slice (some ⟨g, 0, none⟩) n n, .int .i64 i, .slice (some ⟨b, 0, none⟩) 1 1] w fun e w' => InsAns n rows row i fp f base w e w' := by
  obtain ⟨i0, hi0, hz0, hz1, hz2⟩ := info_parts info_ints
  obtain ⟨cur, xss, fps, hg, hcs, hnl2, hnc, hcm, hb, ht, hE, hfp⟩ := Cd.ow_bare (c := rowC) rfl how
  clear hnl2
  have h1 := hE.one
  have hlen : xss.flatten.length = n := by rw [hE.flatten_len, hnl]; exact Nat.mul_one _
  have hu1 : u.oneCell' = true := rowC.one (rowC.ow_rd hrow) u (List.mem_singleton.2 rfl)
  have hcell : ∀ j v, xss.flatten[j]? = some v → w.cell? ⟨g, j, none⟩ = some v := fun j v hj => by
    have hjl : j < n := by rw [← hlen]; exact (List.getElem?_eq_some_iff.1 hj).1
    have : (cur.toList.take n)[j]? = xss.flatten[j]? := by rw [ht]
    rw [List.getElem?_take, if_pos hjl, Array.getElem?_toList, hj] at this
    simp [World.cell?, hg, this]
  have hgw : g < w.heap.size := (Array.getElem?_eq_some_iff.1 hg).1
  have hbw : b < w.heap.size := World.block_lt_of_cell? w _ hu
  obtain ⟨us, hus⟩ : ∃ us, us = xss.flatten := ⟨_, rfl⟩
  rw [← hus] at hcell hlen ht h1
  -- the append of a make
  obtain ⟨G, hG⟩ : ∃ G, G = grownCap w (n + 1) n 27 := ⟨_, rfl⟩
  obtain ⟨zs, hzs⟩ : ∃ zs : List Value, zs = (Builtin.zeroCells (Value.slice none 0 0).cells (n + 1 - i)).toList ++ (Builtin.zeroCells (Value.slice none 0 0).cells (G - (n + 1))).toList := ⟨_, rfl⟩
  have hGn : n + 1 ≤ G := by rw [hG]; exact grownCap_ge w _ _ _
  have hGm : G ≤ maxLen := by rw [hG]; exact grownCap_le_maxLen w _ _ _ (by unfold maxLen; omega)
  have hzl : zs.length = G - i := by
    rw [hzs]
    simp [Builtin.zeroCells, Value.cells]
    omega
  have hrun : ∀ ty, (Builtin.append_ #[49, 3] ty #[.slice (some ⟨g, 0, none⟩) i n, .int .i64 ((n : Int) + 1 - (i : Int))]).run Tryz.prog w = .ok (.slice (some ⟨w.heap.size, 0, none⟩) (n + 1) G) (w.drew.alloc (.cells (us.take i ++ zs).toArray 27 (0, 0))) := fun ty => by
    have hold : (Builtin.firstCells i0.size i (.slice (some ⟨g, 0, none⟩) i n)).run Tryz.prog w.drew = .ok (us.take i).toArray w.drew := by
      rw [hz1]
      exact run_firstCells_some w.drew 1 i ⟨g, 0, none⟩ i n (us.take i) (by rw [List.length_take]; omega) (fun j v hj => by
        rw [add_at, Nat.zero_add]
        rw [List.getElem?_take] at hj
        split at hj
        · exact hcell j v hj
        · cases hj)
    have h := Lib.run_append_grow_zeros w 49 3 ty 27 i0 _ .i64 .i64 Tryz.underlying49 Tryz.underlying3 hi0 hz0 (some ⟨g, 0, none⟩) i n (us.take i) hold (n + 1 - i) (by omega) (by rw [hz1]; omega) (by omega) (by omega) (by rw [hz2]; omega) (by rw [show i + (n + 1 - i) = n + 1 by omega, hz2]; exact growslice_fits (by omega) (by omega))
    rw [show i + (n + 1 - i) = n + 1 by omega, ← hG] at h
    rw [show ((n + 1 - i : Nat) : Int) = (n : Int) + 1 - (i : Int) by omega] at h
    rw [h, hzs]
    congr 3
    simp
  obtain ⟨sl1, sl2⟩ := splice2 (u := u) hlen hi hzl hGn
  have HRUN := Lib.hid hrun
  have HUS := Lib.hid hus
  have HLEN := Lib.hid hlen
  have HZL := Lib.hid hzl
  have HGN := Lib.hid hGn
  have HGM := Lib.hid hGm
  have HCELL := Lib.hid hcell
  have HU := Lib.hid hu
  have HROW := Lib.hid hrow
  have HFD := Lib.hid hfd
  have HDIS := Lib.hid hdis
  have HB := Lib.hid hbase
  have HNL := Lib.hid hnl
  have HND := Lib.hid hnd
  have HE := Lib.hid hE
  have HFP := Lib.hid hfp
  have HH := Lib.hid (And.intro hgw hbw)
  have H1 := Lib.hid h1
  have HU1 := Lib.hid hu1
  have HHB := Lib.hid hb
  have HS1 := Lib.hid sl1
  have HS2 := Lib.hid sl2
  have HSZ := Lib.hid (show (Tryz.prog.info? 27).map (·.size) = some 1 by rw [hi0]; simp [hz1])
  have HOWK := Lib.hid how
  clear hrun hus hlen hzl hGn hGm hcell hu hrow hfd hdis hbase hnl hnd hE hfp hgw hbw h1 hu1 hb sl1 sl2 hG hzs hi0 hz0 hz1 hz2 hg hcs hnc hcm ht how
  have p1 : ¬ ((i : Int) = (n : Int)) := by omega
  have p2 : (n : Int) < (n : Int) + 1 := by omega
  have p3 : ¬ (n = i) := by omega
  have p4 : ¬ (G = i) := by have := HGN.out; omega
  have p5 : ¬ (G = i + 1) := by have := HGN.out; omega
  have p6 : i ≤ n := by omega
  have p7 : i ≤ n + 1 := by omega
  have p8 : n + 1 ≤ G := HGN.out
  have p9 : IntKind.i64.wrap ((i : Int) + 1) = (i : Int) + 1 := by rw [IntKind.wrap_i64]; omega
  have p10 : (0 : Int) ≤ (i : Int) + 1 := by omega
  have p11 : ((i : Int) + 1).toNat = i + 1 := by omega
  have p12 : G ≤ 9223372036854775807 := by have := HGM.out; unfold maxLen at this; omega
  generalize hW1 : w.drew.alloc (.cells (us.take i ++ zs).toArray 27 (0, 0)) = W1 at HRUN
  have hg1 : W1.heap[w.heap.size]? = some (.cells (us.take i ++ zs).toArray 27 (0, 0)) := by rw [← hW1]; exact heap_alloc_new w.drew _
  have hb1 : Below w.heap.size w W1 := by
    have := below_alloc w.drew (.cells (us.take i ++ zs).toArray 27 (0, 0))
    rw [hW1] at this
    exact ⟨this.os, this.tape, this.output, this.size, this.block⟩
  have HG1 := Lib.hid hg1
  have HB1 := Lib.hid hb1
  clear hW1 hg1 hb1
  have ql : (us.take i ++ zs).length = G := by rw [List.length_append, List.length_take, HZL.out, HLEN.out]; omega
  have hn1 : [u].length = Nat.min 1 (n + 1 - i) := (Nat.min_eq_left (show 1 ≤ n + 1 - i by omega)).symm
  have hfit1 : i + [u].length ≤ (us.take i ++ zs).length := by rw [ql]; simp; omega
  have hone1 : ∀ v ∈ [u], v.oneCell' = true := fun v hv => by rw [List.mem_singleton.1 hv]; exact HU1.out
  have hpos1 : 0 < [u].length → (some ⟨w.heap.size, i, none⟩ : Option Addr) = some ⟨w.heap.size, i, none⟩ ∧ ∃ ad, (some ⟨b, 0, none⟩ : Option Addr) = some ad ∧ ∀ j v, [u][j]? = some v → W1.cell? (ad.add j) = some v := fun _ => ⟨rfl, ⟨b, 0, none⟩, rfl, fun j v hj => by
    match j, hj with
    | 0, hj =>
      rw [add_at, HB1.out.cell (p := ⟨b, 0, none⟩) HH.out.2, HU.out]
      simpa using hj⟩
  have hdl : (us.drop i).length = n - i := by rw [List.length_drop, HLEN.out]
  have hn2 : (us.drop i).length = Nat.min (n - i) (n + 1 - (i + 1)) := by rw [hdl]; exact (Nat.min_eq_left (by omega)).symm
  have hfit2 : i + 1 + (us.drop i).length ≤ (splice (us.take i ++ zs) i [u]).length := by rw [length_splice _ _ _ hfit1, ql, hdl]; omega
  have hone2 : ∀ v ∈ us.drop i, v.oneCell' = true := fun v hv => H1.out v (List.mem_of_mem_drop hv)
  have hpos2 : ∀ W : World, Below w.heap.size w W → 0 < (us.drop i).length → (some ⟨w.heap.size, i + 1, none⟩ : Option Addr) = some ⟨w.heap.size, i + 1, none⟩ ∧ ∃ ad, (some ⟨g, i, none⟩ : Option Addr) = some ad ∧ ∀ j v, (us.drop i)[j]? = some v → W.cell? (ad.add j) = some v := fun W hW _ => ⟨rfl, ⟨g, i, none⟩, rfl, fun j v hj => by
    rw [add_at, hW.cell (p := ⟨g, i + j, none⟩) HH.out.1]
    rw [List.getElem?_drop] at hj
    exact HCELL.out _ _ hj⟩
  have HN1 := Lib.hid hn1
  have HN2 := Lib.hid hn2
  have HF1 := Lib.hid hfit1
  have HF2 := Lib.hid hfit2
  have HO1 := Lib.hid hone1
  have HO2 := Lib.hid hone2
  have HP1 := Lib.hid hpos1
  have HP2 := Lib.hid hpos2
  clear ql hn1 hfit1 hone1 hpos1 hdl hn2 hfit2 hone2 hpos2
  go_enter Tryz.func125, Tryz.ntmps125
  go_wp2_with (first
    | (at_builtin; refine Lib.wpList_append_run _ rfl _ _ _ _ rfl _ _ rfl rfl _ _ (HRUN.out _) ?_)
    | (with_reducible refine wpList_copy_splice rfl (.tmp 43) (.tmp 44) 49 49 rfl 27 Tryz.underlying49 HSZ.out (some ⟨w.heap.size, i, none⟩) (some ⟨b, 0, none⟩) (n + 1 - i) (G - i) 1 1 rfl rfl w.heap.size i (us.take i ++ zs) 27 HG1.out [u] HN1.out HP1.out HF1.out HO1.out w.heap.size w HB1.out (Nat.le_refl _) ?_))
  intro w2 hg2 hb2
  have HG2 := Lib.hid (show w2.drew.heap[w.heap.size]? = _ from hg2.out)
  have HB2 := Lib.hid (show Below w.heap.size w w2.drew from ⟨hb2.os, hb2.tape, hb2.output, hb2.size, hb2.block⟩)
  clear hg2 hb2
  go_wp2_with fail
  go_region_law (refine step_copy_splice rfl (.tmp 50) (.tmp 53) 49 49 rfl 27 Tryz.underlying49 HSZ.out (some ⟨w.heap.size, i + 1, none⟩) (some ⟨g, i, none⟩) (n + 1 - (i + 1)) (G - (i + 1)) (n - i) (n - i) (by simp [Act.eval, Act.put]) (by simp [Act.eval, Act.put]) w.heap.size (i + 1) (splice (us.take i ++ zs) i [u]) 27 HG2.out (us.drop i) HN2.out (fun h => ⟨rfl, (HP2.out w2.drew HB2.out h).2⟩) HF2.out HO2.out w.heap.size w HB2.out (Nat.le_refl _) ?_; intro w4 hg4 hb4)
  all_goals
    go_wp2_with fail
    go_ret
    have hfl : ∀ x ∈ fps.flatten, x < w.heap.size := fun x hx => (rowsC.ow_lt HOWK.out x (by rw [HFP.out]; exact List.mem_cons_of_mem _ hx)).2
    have hnn : (rowsC.ow w base [.slice (some ⟨g, 0, none⟩) n n] rows fp) := HOWK.out
    have hfn : fps.flatten.Nodup := (List.nodup_cons.1 (by rw [← HFP.out]; exact HND.out)).2
    have hdd : ∀ x ∈ f, x ∉ fps.flatten := fun x hx q => HDIS.out x hx (by rw [HFP.out]; exact List.mem_cons_of_mem _ q)
    refine ⟨w.heap.size, G, w.heap.size :: (Cd.ins fps i f).flatten, rfl, Cd.ow_bared (c := rowC) rfl hg4.out ?_ ?_ HGN.out HGM.out HB.out ?_ (Cd.Each.ins (c := rowC) (w := w4) (HE.out.imp fun x a f' hf' hq => rowC.ow_keep hq fun y hy => hb4.block y (rowC.ow_lt hq y hy).2) (rowC.ow_keep HROW.out fun y hy => hb4.block y (rowC.ow_lt HROW.out y hy).2) i), ?_, ?_, Cd.Touch.of_below hb4⟩
    · rw [List.size_toArray]; exact HS1.out
    · rw [Cd.ins_length, ← HNL.out]
    · rw [show ((splice (splice (us.take i ++ zs) i [u]) (i + 1) (us.drop i)).toArray).toList = _ from rfl, HS2.out, HUS.out, Cd.flatten_ins_one (c := rowC) rfl HE.out i]
    · rw [List.nodup_cons]
      refine ⟨fun q => ?_, Cd.nodup_ins hfn HFD.out hdd i⟩
      rcases Cd.mem_ins q with q | q
      · have := hfl _ q; omega
      · have := (rowC.ow_lt HROW.out _ q).2; omega
    · intro x hx
      rcases List.mem_cons.1 hx with rfl | q
      · exact .inr (.inr (Nat.le_refl _))
      · rcases Cd.mem_ins q with q | q
        · exact .inl (by rw [HFP.out]; exact List.mem_cons_of_mem _ q)
        · exact .inr (.inl q)
theorem insert_rows (g n i : Nat) (rows : List (List Int)) (fp : List Nat) (base : Nat) (w : World) (how : rowsC.ow w base [.slice (some ⟨g, 0, none⟩) n n] rows fp) (hnd : fp.Nodup) (hnl : n = rows.length) (hi : i ≤ n) (hn8 : n ≤ 8) (b : Nat) (u : Value) (row : List Int) (f : List Nat) (hu : w.cell? ⟨b, 0, none⟩ = some u) (hrow : rowC.ow w base [u] row f) (hfd : f.Nodup) (hdis : ∀ x ∈ f, x ∉ fp) (hbase : base ≤ w.heap.size) :
    Calls Tryz.prog 125 #[.slice (some ⟨g, 0, none⟩) n n, .int .i64 i, .slice (some ⟨b, 0, none⟩) 1 1] w fun e w' => InsAns n rows row i fp f base w e w' := by
  by_cases h : i = n
  · subst h
    exact insert_end g i rows fp base w how hnd hnl hn8 b u row f hu hrow hfd hdis hbase
  · exact insert_grow g n i rows fp base w how hnd hnl (by omega) hn8 b u row f hu hrow hfd hdis hbase
end Go.Proofs.YtinchhahcheadaaGreat.TabImp

namespace Go.Proofs.YtinchhahcheadaaGreat.TabImp
open Go Go.RowKit Byt Ints IntsLaw Cd Rows2 Tab TabSpec Exact

set_option maxRecDepth 100000 in
set_option maxHeartbeats 3200000 in
theorem impl_insert (nm : ByteArray) (ar : Int) (u v : Value) (rows : List (List Int)) (row : List Int) (S S2 : Nat → Prop) (w : World) (hr : rowsC.rd w S [u] rows) (hv : rowC.rd w S2 [v] row) (hrw : rowsWt rows ≤ 1048577) (hnm : nm.size ≤ 1048577) (hrl : row.length ≤ 1048577) :
    Calls Tryz.prog 123 #[.agg #[.string nm, .int .i64 ar, u], v] w fun e w' => ∃ u' fp, e = .returned (.tuple #[.agg #[.string nm, .int .i64 ar, u'], .bool (insOk nm ar rows row)]) ∧ rowsC.ow w' w.heap.size [u'] (insR nm ar rows row) fp ∧ fp.Nodup ∧ Below w.heap.size w w' := by
  have HR := Lib.hid (fun w' (hb : Below w.heap.size w w') => Cd.later hr hb)
  have HV := Lib.hid (fun w' (hb : Below w.heap.size w w') => Cd.later hv hb)
  have HWT := Lib.hid hrw
  have HNM := Lib.hid hnm
  have HRL := Lib.hid hrl
  obtain ⟨a, cap, rfl, hlm⟩ := rows_form hr
  obtain ⟨av, cv, rfl, _⟩ := (row_ri hv).1
  clear hr hv hrw hnm hrl
  go_enter Tryz.func123, Tryz.ntmps123
  go_wp2_with fail
  generalize hW : (w.alloc _).alloc _ = W
  obtain ⟨r0, r1, hz, hb0⟩ := start2g w _ _ hW
  clear hW
  refine (copy_table nm ar _ rows S W (HR.out W hb0) HWT.out HNM.out).mono ?_
  rintro e W1 ⟨gx, fp, rfl, how, hnd, hb1⟩
  have l0 := (Loc3.of r0).later hb1
  have l1 := (Loc3.of r1).later hb1
  have hs1 := hb1.size
  have HFR := Lib.hid (show Fr w W1.heap.size nm ar (.slice a rows.length cap) (.slice (some ⟨gx, 0, none⟩) rows.length rows.length) _ _ _ rows fp (W1.alloc (.cells #[.string nm, .int .i64 ar, .slice (some ⟨gx, 0, none⟩) rows.length rows.length] 51 (0, 0))) from
    ⟨below_then (below_then hb0 hb1) (below_alloc _ _), l0.later (below_alloc _ _), l1.later (below_alloc _ _), Loc3.of (row_alloc _ _), Cd.ow_later (rowsC.ow_base how (by omega)) (below_alloc _ _), hnd, fun q => by have := (rowsC.ow_lt how _ q).2; omega, by omega⟩)
  obtain ⟨d0, d1, d2, _, _, _⟩ := l0
  have hH : w.heap.size < W1.heap.size := by omega
  have HN := Lib.hid (And.intro hH (show w.heap.size + 1 < W1.heap.size by omega))
  clear r0 r1 hz hb0 hb1 how hnd l1 hs1
  go_wp2_with fail
  generalize hW2 : W1.alloc _ = W2 at *
  generalize W1.heap.size = X at *
  clear hW2 d0 d1 d2 hH
  have HFD := Lib.hid (find_row nm ar _ _ rows row S S2 W2 (HR.out W2 HFR.out.b) (HV.out W2 HFR.out.b))
  refine HFD.out.mono ?_
  rintro e W3 ⟨i, rfl, hfd, hil, hb3⟩
  have HF := Lib.hid (HFR.out.later hb3)
  have HFP := Lib.hid hfd
  have HIL := Lib.hid hil
  clear hb3 hfd hil
  by_cases hin : hasR nm ar rows row = true
  case pos =>
    have HWHY := Lib.hid (show insOk nm ar rows row = false from decide_eq_false fun q => q.2.2.1 (of_decide_eq_true hin).2)
    rw [hin]
    clear hin
    obtain ⟨y0, y1, y2, _, _, _⟩ := HF.out.x
    obtain ⟨p0, p1, p2, q0, q1, q2⟩ := HF.out.r
    go_wp2_with fail
    obtain ⟨k0, k1, k2⟩ := set3 (w := W3) (k := w.heap.size + 1) (x := .string nm) (y := .int .i64 ar) (z := .slice (some ⟨gx, 0, none⟩) rows.length rows.length) p0 p1 p2
    refine bodyPost_ret (v := .tuple #[.agg #[.string nm, .int .i64 ar, .slice (some ⟨gx, 0, none⟩) rows.length rows.length], .bool false]) (by simp [results, Tryz.results123, go_sem, k0, k1, k2]) rfl ⟨_, fp, by rw [HWHY.out], ?_, HF.out.n, ?_⟩
    · rw [insR, HWHY.out]
      exact rowsC.ow_base (ow_setCell (ow_setCell (ow_setCell HF.out.o HF.out.not1 _) HF.out.not1 _) HF.out.not1 _) (by omega)
    · exact ((HF.out.b.setCell (by show _ ≤ w.heap.size + 1; omega) _).setCell (by show _ ≤ w.heap.size + 1; omega) _).setCell (by show _ ≤ w.heap.size + 1; omega) _
  have hin : hasR nm ar rows row = false := by simpa using hin
  rw [hin]
  have HV1 := Lib.hid (impl_valid nm ar _ rows S W3 (HR.out W3 HF.out.b))
  obtain ⟨d0, d1, d2, _, _, _⟩ := HF.out.t
  by_cases hok : tabOk nm ar rows = true
  case neg =>
    have hok : tabOk nm ar rows = false := by simpa using hok
    rw [hok] at HV1
    have HWHY := Lib.hid (show insOk nm ar rows row = false from decide_eq_false fun q => of_decide_eq_false hok q.1)
    clear hok hin
    go_wp2_with fail
    refine HV1.out.mono ?_
    rintro e W4 ⟨rfl, hb4⟩
    have HF4 := Lib.hid (HF.out.later hb4)
    clear hb4 d0 d1 d2
    obtain ⟨y0, y1, y2, _, _, _⟩ := HF4.out.x
    obtain ⟨p0, p1, p2, q0, q1, q2⟩ := HF4.out.r
    go_wp2_with fail
    obtain ⟨k0, k1, k2⟩ := set3 (w := W4) (k := w.heap.size + 1) (x := .string nm) (y := .int .i64 ar) (z := .slice (some ⟨gx, 0, none⟩) rows.length rows.length) p0 p1 p2
    refine bodyPost_ret (v := .tuple #[.agg #[.string nm, .int .i64 ar, .slice (some ⟨gx, 0, none⟩) rows.length rows.length], .bool false]) (by simp [results, Tryz.results123, go_sem, k0, k1, k2]) rfl ⟨_, fp, by rw [HWHY.out], ?_, HF4.out.n, ?_⟩
    · rw [insR, HWHY.out]
      exact rowsC.ow_base (ow_setCell (ow_setCell (ow_setCell HF4.out.o HF4.out.not1 _) HF4.out.not1 _) HF4.out.not1 _) (by omega)
    · exact ((HF4.out.b.setCell (by show _ ≤ w.heap.size + 1; omega) _).setCell (by show _ ≤ w.heap.size + 1; omega) _).setCell (by show _ ≤ w.heap.size + 1; omega) _
  rw [hok] at HV1
  have HTP := Lib.hid (show TabP nm ar rows from of_decide_eq_true hok)
  have HFP2 := Lib.hid (HFP.out hok)
  have HNIN := Lib.hid (show row ∉ rows from fun q => by rw [hasR_yes hok q] at hin; cases hin)
  clear hok hin
  go_wp2_with fail
  refine HV1.out.mono ?_
  rintro e W4 ⟨rfl, hb4⟩
  have HF4 := Lib.hid (HF.out.later hb4)
  clear hb4 d0 d1 d2
  obtain ⟨d0, d1, d2, _, _, _⟩ := HF4.out.t
  have HRW := Lib.hid (is_row _ row ar _ W4 (row_ri (HV.out W4 HF4.out.b)).1)
  by_cases hrow : rowOk row ar = true
  case neg =>
    have hrow : rowOk row ar = false := by simpa using hrow
    rw [hrow] at HRW
    have HWHY := Lib.hid (show insOk nm ar rows row = false from decide_eq_false fun q => by have := q.2.1; rw [hrow] at this; exact absurd this (by decide))
    clear hrow
    go_wp2_with fail
    refine HRW.out.mono ?_
    rintro e W5 ⟨rfl, rfl⟩
    clear d0 d1 d2
    obtain ⟨y0, y1, y2, _, _, _⟩ := HF4.out.x
    obtain ⟨p0, p1, p2, q0, q1, q2⟩ := HF4.out.r
    go_wp2_with fail
    obtain ⟨k0, k1, k2⟩ := set3 (w := W4) (k := w.heap.size + 1) (x := .string nm) (y := .int .i64 ar) (z := .slice (some ⟨gx, 0, none⟩) rows.length rows.length) p0 p1 p2
    refine bodyPost_ret (v := .tuple #[.agg #[.string nm, .int .i64 ar, .slice (some ⟨gx, 0, none⟩) rows.length rows.length], .bool false]) (by simp [results, Tryz.results123, go_sem, k0, k1, k2]) rfl ⟨_, fp, by rw [HWHY.out], ?_, HF4.out.n, ?_⟩
    · rw [insR, HWHY.out]
      exact rowsC.ow_base (ow_setCell (ow_setCell (ow_setCell HF4.out.o HF4.out.not1 _) HF4.out.not1 _) HF4.out.not1 _) (by omega)
    · exact ((HF4.out.b.setCell (by show _ ≤ w.heap.size + 1; omega) _).setCell (by show _ ≤ w.heap.size + 1; omega) _).setCell (by show _ ≤ w.heap.size + 1; omega) _
  rw [hrow] at HRW
  have HROW := Lib.hid hrow
  clear hrow
  go_wp2_with fail
  refine HRW.out.mono ?_
  rintro e W5 ⟨rfl, rfl⟩
  by_cases h8 : rows.length = 8
  case pos =>
    have HWHY := Lib.hid (show insOk nm ar rows row = false from decide_eq_false fun q => q.2.2.2 h8)
    have h8a : ((rows.length : Int) == 8) = true := by rw [beq_iff_eq]; omega
    have h8b : decide (rows.length = 8) = true := decide_eq_true h8
    clear h8
    obtain ⟨y0, y1, y2, _, _, _⟩ := HF4.out.x
    obtain ⟨p0, p1, p2, q0, q1, q2⟩ := HF4.out.r
    go_wp2_with fail
    obtain ⟨k0, k1, k2⟩ := set3 (w := W4) (k := w.heap.size + 1) (x := .string nm) (y := .int .i64 ar) (z := .slice (some ⟨gx, 0, none⟩) rows.length rows.length) p0 p1 p2
    refine bodyPost_ret (v := .tuple #[.agg #[.string nm, .int .i64 ar, .slice (some ⟨gx, 0, none⟩) rows.length rows.length], .bool false]) (by simp [results, Tryz.results123, go_sem, k0, k1, k2]) rfl ⟨_, fp, by rw [HWHY.out], ?_, HF4.out.n, ?_⟩
    · rw [insR, HWHY.out]
      exact rowsC.ow_base (ow_setCell (ow_setCell (ow_setCell HF4.out.o HF4.out.not1 _) HF4.out.not1 _) HF4.out.not1 _) (by omega)
    · exact ((HF4.out.b.setCell (by show _ ≤ w.heap.size + 1; omega) _).setCell (by show _ ≤ w.heap.size + 1; omega) _).setCell (by show _ ≤ w.heap.size + 1; omega) _
  have HWHY := Lib.hid (show insOk nm ar rows row = true from decide_eq_true ⟨HTP.out, HROW.out, HNIN.out, h8⟩)
  have h8i : ¬ (rows.length : Int) = 8 := by omega
  have HPUT := Lib.hid (show putR rows row = Cd.ins rows i row by rw [putR_split HTP.out.2.2.2.2.2 HFP2.out, if_neg HNIN.out])
  have HXL := Lib.hid HF4.out.x.lt
  have HCP := Lib.hid (copy_ints _ row S2 W4.drew (rd_drew (HV.out W4 HF4.out.b)) HRL.out)
  have HINS := Lib.hid (fun Wa (hb : Below W4.heap.size W4 Wa) b u f hu (hrow : rowC.ow Wa (w.heap.size + 2) [u] row f) hfd hdis => insert_rows gx rows.length i rows fp (w.heap.size + 2) Wa (HF4.out.later hb).o HF4.out.n rfl HIL.out HTP.out.2.2.2.1 b u row f hu hrow hfd hdis (by have := hb.size; have := HXL.out; have := HF4.out.g; omega))
  obtain ⟨y0, y1, y2, g0, g1, g2⟩ := HF4.out.x
  go_wp2_with fail
  go_region_law (first | (go_simp; go_at_call 30; refine HCP.out.mono ?_; rintro e wq ⟨gr, cr, rfl, hor, hbq⟩; (have hq := undrew hbq); (have hba := below_then hq (below_alloc wq (.cells #[.slice (some ⟨gr, 0, none⟩) row.length cr] 27 (0, 0)))); (have HBA := Lib.hid hba); (have HOR := Lib.hid hor); (have hqz := hq.size); (have k2 := (HF4.out.x.later hq).c2); (have m2 := (HF4.out.x.later hba).c2); clear hbq hq hba hor) | (go_simp; go_at_call 125; refine (HINS.out _ HBA.out wq.heap.size (.slice (some ⟨gr, 0, none⟩) row.length cr) [gr] (World.cell?_alloc_mark _ _ _ _ 0) (rowC.ow_base (Cd.ow_later HOR.out (below_alloc _ _)) (by have := HF4.out.g; have := HXL.out; show _ ≤ W4.heap.size; omega)) (by simp) (fun x hx q => by have h1 := (rowC.ow_lt HOR.out x hx).1; have h2 := (rowsC.ow_lt HF4.out.o x q).2; have h3 : W4.drew.heap.size = W4.heap.size := rfl; omega)).mono ?_; rintro e wp ⟨g5, c5, fp5, rfl, ho5, hn5, hs5, ht5⟩; (have HO5 := Lib.hid ho5); (have HN5 := Lib.hid hn5); (have HS5 := Lib.hid hs5); (have HT5 := Lib.hid ht5); (have hpz := ht5.size); (have j0 := ((HF4.out.x.later HBA.out).touched ht5 HF4.out.d).c0); (have j1 := ((HF4.out.x.later HBA.out).touched ht5 HF4.out.d).c1); (have j2 := ((HF4.out.x.later HBA.out).touched ht5 HF4.out.d).c2); (have l0 := ((HF4.out.x.later HBA.out).touched ht5 HF4.out.d).f0); (have l1 := ((HF4.out.x.later HBA.out).touched ht5 HF4.out.d).f1); (have l2 := ((HF4.out.x.later HBA.out).touched ht5 HF4.out.d).f2); clear ho5 hn5 hs5 ht5))
  all_goals
    have hbw := below_then HF4.out.b HBA.out
    have hT : w.heap.size ∉ fp := fun q => by have := (rowsC.ow_lt HF4.out.o _ q).1; omega
    have hX5 : X ∉ fp5 := fun q => by
      have hx := HXL.out
      have h3 : W4.drew.heap.size = W4.heap.size := rfl
      rcases HS5.out X q with q | q | q
      · exact HF4.out.d q
      · have := (rowC.ow_lt HOR.out X q).1; omega
      · have := HBA.out.size; omega
    have hx2 := Loc3.set2 ((HF4.out.x.later HBA.out).touched HT5.out HF4.out.d) (.slice (some ⟨g5, 0, none⟩) (rows.length + 1) c5)
    have HF5 := Lib.hid (show Fr w X nm ar (.slice a rows.length cap) (.slice (some ⟨g5, 0, none⟩) (rows.length + 1) c5) _ _ _ (Cd.ins rows i row) fp5 (wp.setCell ⟨X, 2, none⟩ (.slice (some ⟨g5, 0, none⟩) (rows.length + 1) c5)) from
      ⟨(HT5.out.below hbw (fun b hb => by have := (rowsC.ow_lt HF4.out.o b hb).1; omega)).setCell (by show _ ≤ X; have := HF4.out.g; omega) _, ((HF4.out.t.later HBA.out).touched HT5.out hT).set_far (by show X ≠ _; have := HF4.out.g; omega) _, ((HF4.out.r.later HBA.out).touched HT5.out HF4.out.not1).set_far (by show X ≠ _; have := HF4.out.g; omega) _, hx2,
        ow_setCell HO5.out hX5 _, HN5.out, hX5, HF4.out.g⟩)
    clear hbw hT hX5 hx2 y0 y1 y2 g0 g1 g2 j0 j1 j2 l0 l1 l2 d0 d1 d2 k2 m2 hpz hqz
    obtain ⟨y0, y1, y2, _, _, _⟩ := HF5.out.x
    obtain ⟨p0, p1, p2, q0, q1, q2⟩ := HF5.out.r
    go_wp2_with fail
    obtain ⟨k0, k1, k2⟩ := set3 (w := (wp.setCell ⟨X, 2, none⟩ (.slice (some ⟨g5, 0, none⟩) (rows.length + 1) c5))) (k := w.heap.size + 1) (x := .string nm) (y := .int .i64 ar) (z := .slice (some ⟨g5, 0, none⟩) (rows.length + 1) c5) p0 p1 p2
    refine bodyPost_ret (v := .tuple #[.agg #[.string nm, .int .i64 ar, .slice (some ⟨g5, 0, none⟩) (rows.length + 1) c5], .bool true]) (by simp [results, Tryz.results123, go_sem, k0, k1, k2]) rfl ⟨_, fp5, by rw [HWHY.out], ?_, HF5.out.n, ?_⟩
    · rw [insR, HWHY.out, if_pos rfl, HPUT.out]
      exact rowsC.ow_base (ow_setCell (ow_setCell (ow_setCell HF5.out.o HF5.out.not1 _) HF5.out.not1 _) HF5.out.not1 _) (by omega)
    · exact ((HF5.out.b.setCell (by show _ ≤ w.heap.size + 1; omega) _).setCell (by show _ ≤ w.heap.size + 1; omega) _).setCell (by show _ ≤ w.heap.size + 1; omega) _
end Go.Proofs.YtinchhahcheadaaGreat.TabImp

namespace Go.Proofs.YtinchhahcheadaaGreat.UpdApp
open Go Go.RowKit Byt Ints IntsLaw Cd Rows2 Tab SlMath TabOpen TabElem SlTable Db TabSpec DbMath DbExact Exact Upd UpdMath UpdFmt
open DbSpec (LookAns lk_some lk_none)
open DbAcc (DbAns)
open TabImp (impl_insert impl_delete)

theorem laterU_drew {a w : World} (h : LaterU a w) : LaterU a w.drew := Below.drew h
theorem laterU_alloc {a w : World} (h : LaterU a w) (o : Obj) : LaterU a (w.alloc o) := below_then h (below_alloc w o)
theorem laterU_set3 {a w : World} {k : Nat} {x y z : Value} (h : LaterU a w) (hk : a.heap.size ≤ k) : LaterU a (((w.setCell ⟨k, 0, none⟩ x).setCell ⟨k, 1, none⟩ y).setCell ⟨k, 2, none⟩ z) :=
  ((Below.setCell h hk _).setCell hk _).setCell hk _
theorem laterU_size {a w : World} (h : LaterU a w) : a.heap.size ≤ w.heap.size := Below.size h
theorem locU_new {W wq : World} {x0 x1 x2 : Value} {T : TypeId} (hb : Below (W.alloc (.cells #[x0, x1, x2] T (0, 0))).heap.size (W.alloc (.cells #[x0, x1, x2] T (0, 0))) wq) : Loc3 wq W.heap.size x0 x1 x2 :=
  (Loc3.of (start1 W _ rfl).1).later hb
theorem newU_lt {W wq : World} {x0 x1 x2 : Value} {T : TypeId} (_ : Below (W.alloc (.cells #[x0, x1, x2] T (0, 0))).heap.size (W.alloc (.cells #[x0, x1, x2] T (0, 0))) wq) : W.heap.size < (W.alloc (.cells #[x0, x1, x2] T (0, 0))).heap.size := by rw [size_alloc]; omega
theorem locU_new3 {W wq : World} {x0 x1 x2 : Value} {T : TypeId} (hb : Below (W.alloc (.cells #[x0, x1, x2] T (0, 0))).drew.heap.size (W.alloc (.cells #[x0, x1, x2] T (0, 0))).drew wq) : Loc3 wq W.heap.size x0 x1 x2 :=
  (loc_drew (Loc3.of (start1 W _ rfl).1)).later hb
theorem newU_lt3 {W wq : World} {x0 x1 x2 : Value} {T : TypeId} (_ : Below (W.alloc (.cells #[x0, x1, x2] T (0, 0))).drew.heap.size (W.alloc (.cells #[x0, x1, x2] T (0, 0))).drew wq) : W.heap.size < (W.alloc (.cells #[x0, x1, x2] T (0, 0))).drew.heap.size := by
  show W.heap.size < (W.alloc (.cells #[x0, x1, x2] T (0, 0))).heap.size
  rw [size_alloc]; omega
/-- A local table, made behind W1. -/
def MadeT (W1 : World) (nm : ByteArray) (ar : Int) (rows : List (List Int)) (s8 : Value) (wx : World) : Prop :=
  ∃ k a c fp, s8 = .pointer (some ⟨k, 0, none⟩) ∧ W1.heap.size ≤ k ∧ Loc3 wx k (.string nm) (.int .i64 ar) (.slice a rows.length c) ∧ rowsC.ow wx W1.heap.size [.slice a rows.length c] rows fp ∧ fp.Nodup ∧ Below W1.heap.size W1 wx
theorem madeT {W1 wq : World} {k : Nat} {a : Option Addr} {c n : Nat} {x0 x1 x2 : Value} {nm : ByteArray} {ar : Int} {rows : List (List Int)} {fp : List Nat} (kk : LaterU W1 wq) (hb : W1.heap.size ≤ k) (GL : Loc3 wq k x0 x1 x2)
    (HO : rowsC.ow wq W1.heap.size [.slice a n c] rows fp) (hn : n = rows.length) (hnd : fp.Nodup) (hbn : k ∉ fp) :
    MadeT W1 nm ar rows (.pointer (some ⟨k, 0, none⟩)) (((wq.setCell ⟨k, 0, none⟩ (.string nm)).setCell ⟨k, 1, none⟩ (.int .i64 ar)).setCell ⟨k, 2, none⟩ (.slice a n c)) := by
  subst hn
  obtain ⟨c0, c1, c2, f0, f1, f2⟩ := GL
  obtain ⟨k0, k1, k2⟩ := set3 (w := wq) (k := k) (x := .string nm) (y := .int .i64 ar) (z := .slice a rows.length c) c0 c1 c2
  exact ⟨k, a, c, fp, rfl, hb, ⟨k0, k1, k2, by simpa using f0, by simpa using f1, by simpa using f2⟩, ow_setCell (ow_setCell (ow_setCell HO hbn _) hbn _) hbn _, hnd, ((Below.setCell kk hb _).setCell hb _).setCell hb _⟩
theorem madeT2 {W1 wq : World} {a : Option Addr} {c n : Nat} {T : TypeId} {nm : ByteArray} {ar : Int} {rows : List (List Int)} {fp : List Nat} (kk : LaterU W1 wq)
    (HO : rowsC.ow wq W1.heap.size [.slice a n c] rows fp) (hn : n = rows.length) (hnd : fp.Nodup) :
    MadeT W1 nm ar rows (.pointer (some ⟨wq.heap.size, 0, none⟩)) (wq.alloc (.cells #[.string nm, .int .i64 ar, .slice a n c] T (0, 0))) := by
  subst hn
  exact ⟨wq.heap.size, a, c, fp, rfl, Below.size kk, Loc3.of (start1 wq _ rfl).1, Cd.ow_later HO (below_alloc _ _), hnd, below_then kk (below_alloc _ _)⟩

theorem m_apply_true (w : World) : (method 259 73 (.agg #[]) "loop.example/g01921/impl.applyTo").run Tryz.prog w = .ok (122, .agg #[]) w := by kernel_rfl
set_option maxRecDepth 100000 in
set_option maxHeartbeats 1600000 in
theorem apply_true (nm : ByteArray) (ar : Int) (u v : Value) (rows : List (List Int)) (row : List Int) (S S2 : Nat → Prop) (w : World) (hr : rowsC.rd w S [u] rows) (hv : rowC.rd w S2 [v] row) (hrw : rowsWt rows ≤ 1048577) (hnm : nm.size ≤ 1048577) (hrl : row.length ≤ 1048577) :
    Calls Tryz.prog 122 #[.agg #[], .agg #[.string nm, .int .i64 ar, u], v] w fun e w' => ∃ u' fp, e = .returned (.tuple #[.agg #[.string nm, .int .i64 ar, u'], .bool (insOk nm ar rows row)]) ∧ rowsC.ow w' w.heap.size [u'] (insR nm ar rows row) fp ∧ fp.Nodup ∧ Below w.heap.size w w' := by
  have HC := Lib.hid (fun w' (hb : Below w.heap.size w w') => impl_insert nm ar u v rows row S S2 w' (Cd.later hr hb) (Cd.later hv hb) hrw hnm hrl)
  obtain ⟨a, cap, rfl, hlm⟩ := rows_form hr
  clear hr hv
  go_enter Tryz.func122, Tryz.ntmps122
  go_wp2_with fail
  generalize hW : ((w.alloc _).alloc _).alloc _ = W
  obtain ⟨r0, r1, r2, hz, hb0⟩ := start3 w _ _ _ hW
  clear hW r0
  refine (HC.out W hb0).mono ?_
  rintro e w1 ⟨u', fp, rfl, how, hnd, hb1⟩
  obtain ⟨a1, c1, rfl⟩ := Cd.ow_slice how
  have HX := Lib.hid ((Loc3.of r2).later hb1)
  have HOW := Lib.hid how
  have HND := Lib.hid hnd
  have HB := Lib.hid (below_then hb0 hb1)
  have HZ := Lib.hid hz
  clear how hnd hb1 hb0 r1 r2 hz
  obtain ⟨p0, p1, p2, q0, q1, q2⟩ := HX.out
  go_wp2_with fail
  obtain ⟨k0, k1, k2⟩ := set3 (w := w1) (k := w.heap.size + 2) (x := .string nm) (y := .int .i64 ar) (z := .slice a1 (insR nm ar rows row).length c1) p0 p1 p2
  refine bodyPost_ret (v := .tuple #[.agg #[.string nm, .int .i64 ar, .slice a1 (insR nm ar rows row).length c1], .bool (insOk nm ar rows row)]) (by simp [results, Tryz.results122, go_sem, k0, k1, k2]) rfl ⟨_, fp, rfl, ?_, HND.out, ?_⟩
  · have hn : w.heap.size + 2 ∉ fp := fun q => by
      have h1 := (rowsC.ow_lt HOW.out _ q).1
      have h2 := HZ.out
      omega
    exact ow_setCell (ow_setCell (ow_setCell (rowsC.ow_base HOW.out (by have := HZ.out; omega)) hn _) hn _) hn _
  · exact ((HB.out.setCell (by show _ ≤ w.heap.size + 2; omega) _).setCell (by show _ ≤ w.heap.size + 2; omega) _).setCell (by show _ ≤ w.heap.size + 2; omega) _

theorem m_apply_false (w : World) : (method 259 82 (.agg #[]) "loop.example/g01921/impl.applyTo").run Tryz.prog w = .ok (131, .agg #[]) w := by kernel_rfl
set_option maxRecDepth 100000 in
set_option maxHeartbeats 1600000 in
theorem apply_false (nm : ByteArray) (ar : Int) (u v : Value) (rows : List (List Int)) (row : List Int) (S S2 : Nat → Prop) (w : World) (hr : rowsC.rd w S [u] rows) (hv : rowC.rd w S2 [v] row) (hrw : rowsWt rows ≤ 1048577) (hnm : nm.size ≤ 1048577) :
    Calls Tryz.prog 131 #[.agg #[], .agg #[.string nm, .int .i64 ar, u], v] w fun e w' => ∃ u' fp, e = .returned (.tuple #[.agg #[.string nm, .int .i64 ar, u'], .bool (hasR nm ar rows row)]) ∧ rowsC.ow w' w.heap.size [u'] (delR nm ar rows row) fp ∧ fp.Nodup ∧ Below w.heap.size w w' := by
  have HC := Lib.hid (fun w' (hb : Below w.heap.size w w') => impl_delete nm ar u v rows row S S2 w' (Cd.later hr hb) (Cd.later hv hb) hrw hnm)
  obtain ⟨a, cap, rfl, hlm⟩ := rows_form hr
  clear hr hv
  go_enter Tryz.func131, Tryz.ntmps131
  go_wp2_with fail
  generalize hW : ((w.alloc _).alloc _).alloc _ = W
  obtain ⟨r0, r1, r2, hz, hb0⟩ := start3 w _ _ _ hW
  clear hW r0
  refine (HC.out W hb0).mono ?_
  rintro e w1 ⟨u', fp, rfl, how, hnd, hb1⟩
  obtain ⟨a1, c1, rfl⟩ := Cd.ow_slice how
  have HX := Lib.hid ((Loc3.of r2).later hb1)
  have HOW := Lib.hid how
  have HND := Lib.hid hnd
  have HB := Lib.hid (below_then hb0 hb1)
  have HZ := Lib.hid hz
  clear how hnd hb1 hb0 r1 r2 hz
  obtain ⟨p0, p1, p2, q0, q1, q2⟩ := HX.out
  go_wp2_with fail
  obtain ⟨k0, k1, k2⟩ := set3 (w := w1) (k := w.heap.size + 2) (x := .string nm) (y := .int .i64 ar) (z := .slice a1 (delR nm ar rows row).length c1) p0 p1 p2
  refine bodyPost_ret (v := .tuple #[.agg #[.string nm, .int .i64 ar, .slice a1 (delR nm ar rows row).length c1], .bool (hasR nm ar rows row)]) (by simp [results, Tryz.results131, go_sem, k0, k1, k2]) rfl ⟨_, fp, rfl, ?_, HND.out, ?_⟩
  · have hn : w.heap.size + 2 ∉ fp := fun q => by
      have h1 := (rowsC.ow_lt HOW.out _ q).1
      have h2 := HZ.out
      omega
    exact ow_setCell (ow_setCell (ow_setCell (rowsC.ow_base HOW.out (by have := HZ.out; omega)) hn _) hn _) hn _
  · exact ((HB.out.setCell (by show _ ≤ w.heap.size + 2; omega) _).setCell (by show _ ≤ w.heap.size + 2; omega) _).setCell (by show _ ≤ w.heap.size + 2; omega) _

set_option maxRecDepth 100000 in
set_option maxHeartbeats 6400000 in
theorem impl_apply_true (u v : Value) (l : List T3) (nm : ByteArray) (row : List Int) (S S2 : Nat → Prop) (w : World) (h1 : tabsC.rd w S [u] l) (h2 : rowC.rd w S2 [v] row) (hw : wtS l ≤ 1048577) (hrl : row.length ≤ 1048577) (hs : nm.size ≤ 1048576) :
    Calls Tryz.prog 6 #[.agg #[u], .agg #[.string nm, .bool true, v]] w fun e w' => DbAns (appL l nm true row) (appOk l nm true row) w e w' := by
  have HL := Lib.hid (fun w' (hb : Below w.heap.size w w') => DbImp.impl_look u l nm S w' (Cd.later h1 hb) hw hs)
  have HDC := Lib.hid (fun w' (hb : Below w.heap.size w w') => DbImp.impl_dbcopy u l S w' (Cd.later h1 hb) hw)
  have HV := Lib.hid (fun w' (hb : Below w.heap.size w w') => Cd.later h2 hb)
  have HR := Lib.hid (fun w' (hb : Below w.heap.size w w') => Cd.later h1 hb)
  have HW := Lib.hid hw
  have HRL := Lib.hid hrl
  obtain ⟨a1, cap1, rfl, hl1⟩ := Cd.sl_form h1
  obtain ⟨a2, cap2, rfl, hl2⟩ := row_form h2
  clear h1 h2 hw hrl hs
  have HAP := Lib.hid (fun (T : T3) (hT : rowsWt T.2.2 ≤ 40 ∧ T.1.size ≤ 40) u' S' w' (h : rowsC.rd w' S' [u'] T.2.2) (hb : Below w.heap.size w w') =>
    (show Calls Tryz.prog 122 #[.agg #[], .agg #[.string T.1, .int .i64 T.2.1, u'], .slice a2 row.length cap2] w' fun e w'' => ∃ u'' fp, e = .returned (.tuple #[.agg #[.string T.1, .int .i64 T.2.1, u''], .bool (chOk T true row)]) ∧ rowsC.ow w'' w'.heap.size [u''] (chR T true row) fp ∧ fp.Nodup ∧ Below w'.heap.size w' w'' from apply_true T.1 T.2.1 u' (.slice a2 row.length cap2) T.2.2 row S' S2 w' h (HV.out w' hb) (by omega) (by omega) (by have := HRL.out; omega)))
  have HCH := Lib.hid (fun w' => change_of nm true (.slice a2 row.length cap2) w')
  change Hid (∀ w', Calls _ _ _ _ fun e w'' => e = .returned (.iface 73 (.agg #[])) ∧ _) at HCH
  go_enter Tryz.func6, Tryz.ntmps6
  go_wp2_with fail
  generalize hW : ((w.alloc _).alloc _).alloc _ = W
  obtain ⟨r0, r1, r2, hz, hb0⟩ := start3 w _ _ _ hW
  have HC0 := Lib.hid (Loc1.of r0)
  have HC1 := Lib.hid (Loc3.of r1)
  have HC2 := Lib.hid (Loc1.of r2)
  have HB0 := Lib.hid hb0
  have HZ := Lib.hid hz
  clear hW r0 r1 r2 hz hb0
  refine (HL.out _ HB0.out).mono ?_
  rintro e w1 ⟨v1, fp, rfl, ho, hn, hb1⟩
  obtain ⟨a3, c3, rfl⟩ := Cd.ow_slice ho
  have HB1 := Lib.hid (below_then HB0.out hb1)
  have HC0a := Lib.hid (HC0.out.later hb1)
  have HC1a := Lib.hid (HC1.out.later hb1)
  have HC2a := Lib.hid (HC2.out.later hb1)
  have HZ1 := Lib.hid (show w.heap.size + 3 ≤ w1.heap.size by have := hb1.size; have := HZ.out; omega)
  have HO := Lib.hid ho
  clear ho hn hb1 HC0 HC1 HC2
  cases hl : lookL l nm with
  | none =>
    have HA := Lib.hid (app_none (appT_none (b := true) (row := row) hl))
    rw [lk_none hl]
    clear HO hl HCH HAP
    have q0 := HC0a.out.c0
    have q1 := HC0a.out.lt
    go_wp2_with fail
    refine (HDC.out _ (below_then HB1.out (below_alloc _ _))).mono ?_
    rintro e w3 ⟨a4, c4, f3, rfl, ho3, hn3, hb3⟩
    have HC3 := Lib.hid (Loc1.later (HC2a.out.later (below_alloc _ _)) hb3)
    have y0 := HC3.out.c0
    have y1 := HC3.out.f0
    have HX := Lib.hid (ans_far ho3 hn3 (below_then HB1.out (below_alloc _ _)) hb3 (Y := w.heap.size + 2) (by omega) (by rw [size_alloc]; have := HZ1.out; omega) HA.out.1.symm HA.out.2.symm)
    clear ho3 hn3 hb3 q0 q1
    go_wp2_with fail
    have k0 : (w3.setCell ⟨w.heap.size + 2, 0, none⟩ (.slice a4 l.length c4)).cell? ⟨w.heap.size + 2, 0, none⟩ = some (.slice a4 l.length c4) := World.cell?_setCell_same _ _ _ y0
    refine bodyPost_ret (v := .tuple #[.agg #[.slice a4 l.length c4], .bool false]) (by simp [results, Tryz.results6, go_sem, k0]) rfl ?_
    exact HX.out
  | some T =>
    obtain ⟨hdb, hmem, hnmT, hok⟩ := look_ok hl
    have hw40 := wt_rows (wt_ok hok)
    have HOK := Lib.hid hok
    have HW40 := Lib.hid hw40
    have HLK := Lib.hid hl
    rw [lk_some hl] at HO ⊢
    clear hdb hmem hnmT hok hw40 hl
    go_upto_region 4 with fail
    generalize hW2 : w1.alloc _ = W2
    obtain ⟨s0, sz, sb⟩ := start1 w1 _ hW2
    have HT6 := Lib.hid (Loc3.of s0)
    have HC1b := Lib.hid (HC1a.out.later sb)
    have HB2 := Lib.hid (below_then HB1.out sb)
    have HC0b := Lib.hid (HC0a.out.later sb)
    have HC2b := Lib.hid (HC2a.out.later sb)
    have HO2 := Lib.hid (Cd.ow_later HO.out sb)
    have HZ2 := Lib.hid sz
    have S7 := Lib.hid (fun wx (h : LaterU W2 wx) => And.intro (HC1b.out.later h).c0 (And.intro (HC1b.out.later h).c1 (And.intro (HC1b.out.later h).c2 (And.intro (HT6.out.later h).c0 (And.intro (HT6.out.later h).c1 (And.intro (HT6.out.later h).c2 h))))))
    have HA2 := Lib.hid (fun w' (h : LaterU W2 w') => HAP.out T HW40.out _ _ w' (rowsC.ow_rd (Cd.ow_later HO2.out h)) (below_then HB2.out h))
    clear hW2 s0 sz sb HAP
    have hm := m_apply_true
    have kk : LaterU W2 W2.drew := laterU_drew (Below.refl _ W2)
    obtain ⟨h0, h1, h2, h3, h4, h5, h6⟩ := S7.out _ kk
    go_cut [8, 9] (fun s8 s9 wx => s9 = .bool (chOk T true row) ∧ MadeT W2 T.1 T.2.1 (chR T true row) s8 wx)
    case first =>
      generalize chOk T true row = ck at *
      generalize chR T true row = cr at *
      go_region_held3 (fun wx => wx.cell? ⟨w.heap.size + 1, 0, none⟩ = some (.string nm) ∧ wx.cell? ⟨w.heap.size + 1, 1, none⟩ = some (.bool true) ∧ wx.cell? ⟨w.heap.size + 1, 2, none⟩ = some (.slice a2 row.length cap2) ∧ wx.cell? ⟨w1.heap.size, 0, none⟩ = some (.string T.1) ∧ wx.cell? ⟨w1.heap.size, 1, none⟩ = some (.int .i64 T.2.1) ∧ wx.cell? ⟨w1.heap.size, 2, none⟩ = some (.slice a3 T.2.2.length c3) ∧ LaterU W2 wx)
        ((first | exact S7.out _ (by first | assumption | exact laterU_drew (Below.refl _ W2) | exact laterU_alloc (by first | assumption | exact laterU_drew (Below.refl _ W2)) _ | exact laterU_set3 (by first | assumption | exact laterU_alloc (by assumption) _) (laterU_size (by first | assumption | exact Below.refl _ _)))))
        (first | (go_at_call 22; refine (HCH.out _).mono ?_; rintro e wq ⟨rfl, hbq⟩; (have kk : LaterU W2 wq := below_then (by first | assumption | exact laterU_alloc (by assumption) _ | exact laterU_drew (laterU_alloc (Below.refl _ W2) _) | exact laterU_drew (Below.refl _ W2)) hbq); (first | (have GB := Lib.hid GL.out.lt; have GL := Lib.hid (GL.out.later hbq)) | (have GB := Lib.hid (newU_lt hbq); have GL := Lib.hid (locU_new hbq)) | (have GB := Lib.hid (newU_lt3 hbq); have GL := Lib.hid (locU_new3 hbq)) | skip); obtain ⟨h0, h1, h2, h3, h4, h5, h6⟩ := S7.out _ kk; clear hbq) | (go_at_call 122; refine (HA2.out _ (by first | assumption | exact laterU_alloc (by assumption) _)).mono ?_; rintro e wq ⟨u5, f5, rfl, how, hnd, hbq⟩; obtain ⟨a5, c5, rfl⟩ := Cd.ow_slice how; (have kk : LaterU W2 wq := below_then (by first | assumption | exact laterU_alloc (by assumption) _ | exact laterU_drew (laterU_alloc (Below.refl _ W2) _) | exact laterU_drew (Below.refl _ W2)) hbq); (first | (have GB := Lib.hid GL.out.lt; have GL := Lib.hid (GL.out.later hbq)) | (have GB := Lib.hid (newU_lt hbq); have GL := Lib.hid (locU_new hbq)) | (have GB := Lib.hid (newU_lt3 hbq); have GL := Lib.hid (locU_new3 hbq)) | skip); obtain ⟨h0, h1, h2, h3, h4, h5, h6⟩ := S7.out _ kk; (have HO5 := Lib.hid (rowsC.ow_base how (laterU_size (a := W2) (by first | assumption | exact laterU_alloc (by assumption) _)))); (have HLT := Lib.hid (rowsC.ow_lt how)); (have HND := Lib.hid hnd); (first | (have x0 := GL.out.c0; have x1 := GL.out.c1; have x2 := GL.out.c2; have f0 := GL.out.f0; have f1 := GL.out.f1; have f2 := GL.out.f2) | skip); clear hbq how hnd))
      all_goals
        go_wp2_with fail
        go_meet
        refine ⟨rfl, ?_⟩
        first
          | (have GG := GL.out; exact madeT (by assumption) (laterU_size (by first | assumption | exact Below.refl _ _)) GG HO5.out rfl HND.out (fun q => by have h1 := (HLT.out _ q).1; have h2 := GB.out; omega))
          | (with_reducible exact madeT2 (by assumption) HO5.out rfl HND.out)
    case rest =>
      obtain ⟨rfl, k, a5, c5, f5, rfl, hk, hx, how, hnd, hl⟩ := hcut
      clear h0 h1 h2 h3 h4 h5 h6 kk hm S7 HA2 HCH
      have HBS := Lib.hid (below_then HB2.out hl)
      have HC0d := Lib.hid (HC0b.out.later hl)
      have HC2d := Lib.hid (HC2b.out.later hl)
      have HTX := Lib.hid hx
      have HO4 := Lib.hid how
      have HSS := Lib.hid (show w.heap.size + 2 < wc.heap.size by have := HZ1.out; have := HZ2.out; have := hl.size; omega)
      have HKK := Lib.hid hk
      have HND := Lib.hid hnd
      clear hx how hnd hk hl
      obtain ⟨x0, x1, x2, _, _, _⟩ := HTX.out
      have q0 := HC0d.out.c0
      cases hk : chOk T true row
      · have HA := Lib.hid (app_none (appT_no (b := true) (row := row) HLK.out hk))
        clear hk
        go_wp2_with fail
        refine (HDC.out _ HBS.out).mono ?_
        rintro e w6 ⟨a6, c6, f6, rfl, ho6, hn6, hb6⟩
        have HC6 := Lib.hid (HC2d.out.later hb6)
        have y0 := HC6.out.c0
        have y1 := HC6.out.f0
        have HX := Lib.hid (ans_far ho6 hn6 HBS.out hb6 (Y := w.heap.size + 2) (by omega) HSS.out HA.out.1.symm HA.out.2.symm)
        clear ho6 hn6 hb6 x0 x1 x2 q0
        go_wp2_with fail
        have k0 : (w6.setCell ⟨w.heap.size + 2, 0, none⟩ (.slice a6 l.length c6)).cell? ⟨w.heap.size + 2, 0, none⟩ = some (.slice a6 l.length c6) := World.cell?_setCell_same _ _ _ y0
        refine bodyPost_ret (v := .tuple #[.agg #[.slice a6 l.length c6], .bool false]) (by simp [results, Tryz.results6, go_sem, k0]) rfl ?_
        exact HX.out
      · have HA := Lib.hid (app_some (appT_yes (b := true) (row := row) HLK.out hk))
        have HWC := Lib.hid (wt_ok (ok_ch HOK.out hk))
        clear hk
        go_wp2_with fail
        refine (DbImp.impl_set _ l (chT T true row) a5 c5 S _ _ (HR.out _ HBS.out) (chT_rd (rowsC.ow_rd HO4.out) HOK.out) HW.out (by have := HWC.out; omega)).mono ?_
        rintro e w6 ⟨u6, f6, rfl, ho6, hn6, hb6⟩
        obtain ⟨a6, c6, rfl⟩ := Cd.ow_slice (c := tabC) ho6
        have HC6 := Lib.hid (HC2d.out.later hb6)
        have y0 := HC6.out.c0
        have y1 := HC6.out.f0
        have HX := Lib.hid (ans_far ho6 hn6 HBS.out hb6 (Y := w.heap.size + 2) (by omega) HSS.out HA.out.1.symm HA.out.2.symm)
        clear ho6 hn6 hb6 x0 x1 x2 q0
        go_wp2_with fail
        have k0 := World.cell?_setCell_same _ _ (.slice a6 (setL l (chT T true row)).length c6) y0
        refine bodyPost_ret (v := .tuple #[.agg #[.slice a6 (setL l (chT T true row)).length c6], .bool (setOk l (chT T true row))]) (by simp [results, Tryz.results6, go_sem, k0]) rfl ?_
        exact HX.out
set_option maxRecDepth 100000 in
set_option maxHeartbeats 6400000 in
theorem impl_apply_false (u v : Value) (l : List T3) (nm : ByteArray) (row : List Int) (S S2 : Nat → Prop) (w : World) (h1 : tabsC.rd w S [u] l) (h2 : rowC.rd w S2 [v] row) (hw : wtS l ≤ 1048577) (hrl : row.length ≤ 1048577) (hs : nm.size ≤ 1048576) :
    Calls Tryz.prog 6 #[.agg #[u], .agg #[.string nm, .bool false, v]] w fun e w' => DbAns (appL l nm false row) (appOk l nm false row) w e w' := by
  have HL := Lib.hid (fun w' (hb : Below w.heap.size w w') => DbImp.impl_look u l nm S w' (Cd.later h1 hb) hw hs)
  have HDC := Lib.hid (fun w' (hb : Below w.heap.size w w') => DbImp.impl_dbcopy u l S w' (Cd.later h1 hb) hw)
  have HV := Lib.hid (fun w' (hb : Below w.heap.size w w') => Cd.later h2 hb)
  have HR := Lib.hid (fun w' (hb : Below w.heap.size w w') => Cd.later h1 hb)
  have HW := Lib.hid hw
  have HRL := Lib.hid hrl
  obtain ⟨a1, cap1, rfl, hl1⟩ := Cd.sl_form h1
  obtain ⟨a2, cap2, rfl, hl2⟩ := row_form h2
  clear h1 h2 hw hrl hs
  have HAP := Lib.hid (fun (T : T3) (hT : rowsWt T.2.2 ≤ 40 ∧ T.1.size ≤ 40) u' S' w' (h : rowsC.rd w' S' [u'] T.2.2) (hb : Below w.heap.size w w') =>
    (show Calls Tryz.prog 131 #[.agg #[], .agg #[.string T.1, .int .i64 T.2.1, u'], .slice a2 row.length cap2] w' fun e w'' => ∃ u'' fp, e = .returned (.tuple #[.agg #[.string T.1, .int .i64 T.2.1, u''], .bool (chOk T false row)]) ∧ rowsC.ow w'' w'.heap.size [u''] (chR T false row) fp ∧ fp.Nodup ∧ Below w'.heap.size w' w'' from apply_false T.1 T.2.1 u' (.slice a2 row.length cap2) T.2.2 row S' S2 w' h (HV.out w' hb) (by omega) (by omega)))
  have HCH := Lib.hid (fun w' => change_of nm false (.slice a2 row.length cap2) w')
  change Hid (∀ w', Calls _ _ _ _ fun e w'' => e = .returned (.iface 82 (.agg #[])) ∧ _) at HCH
  go_enter Tryz.func6, Tryz.ntmps6
  go_wp2_with fail
  generalize hW : ((w.alloc _).alloc _).alloc _ = W
  obtain ⟨r0, r1, r2, hz, hb0⟩ := start3 w _ _ _ hW
  have HC0 := Lib.hid (Loc1.of r0)
  have HC1 := Lib.hid (Loc3.of r1)
  have HC2 := Lib.hid (Loc1.of r2)
  have HB0 := Lib.hid hb0
  have HZ := Lib.hid hz
  clear hW r0 r1 r2 hz hb0
  refine (HL.out _ HB0.out).mono ?_
  rintro e w1 ⟨v1, fp, rfl, ho, hn, hb1⟩
  obtain ⟨a3, c3, rfl⟩ := Cd.ow_slice ho
  have HB1 := Lib.hid (below_then HB0.out hb1)
  have HC0a := Lib.hid (HC0.out.later hb1)
  have HC1a := Lib.hid (HC1.out.later hb1)
  have HC2a := Lib.hid (HC2.out.later hb1)
  have HZ1 := Lib.hid (show w.heap.size + 3 ≤ w1.heap.size by have := hb1.size; have := HZ.out; omega)
  have HO := Lib.hid ho
  clear ho hn hb1 HC0 HC1 HC2
  cases hl : lookL l nm with
  | none =>
    have HA := Lib.hid (app_none (appT_none (b := false) (row := row) hl))
    rw [lk_none hl]
    clear HO hl HCH HAP
    have q0 := HC0a.out.c0
    have q1 := HC0a.out.lt
    go_wp2_with fail
    refine (HDC.out _ (below_then HB1.out (below_alloc _ _))).mono ?_
    rintro e w3 ⟨a4, c4, f3, rfl, ho3, hn3, hb3⟩
    have HC3 := Lib.hid (Loc1.later (HC2a.out.later (below_alloc _ _)) hb3)
    have y0 := HC3.out.c0
    have y1 := HC3.out.f0
    have HX := Lib.hid (ans_far ho3 hn3 (below_then HB1.out (below_alloc _ _)) hb3 (Y := w.heap.size + 2) (by omega) (by rw [size_alloc]; have := HZ1.out; omega) HA.out.1.symm HA.out.2.symm)
    clear ho3 hn3 hb3 q0 q1
    go_wp2_with fail
    have k0 : (w3.setCell ⟨w.heap.size + 2, 0, none⟩ (.slice a4 l.length c4)).cell? ⟨w.heap.size + 2, 0, none⟩ = some (.slice a4 l.length c4) := World.cell?_setCell_same _ _ _ y0
    refine bodyPost_ret (v := .tuple #[.agg #[.slice a4 l.length c4], .bool false]) (by simp [results, Tryz.results6, go_sem, k0]) rfl ?_
    exact HX.out
  | some T =>
    obtain ⟨hdb, hmem, hnmT, hok⟩ := look_ok hl
    have hw40 := wt_rows (wt_ok hok)
    have HOK := Lib.hid hok
    have HW40 := Lib.hid hw40
    have HLK := Lib.hid hl
    rw [lk_some hl] at HO ⊢
    clear hdb hmem hnmT hok hw40 hl
    go_upto_region 4 with fail
    generalize hW2 : w1.alloc _ = W2
    obtain ⟨s0, sz, sb⟩ := start1 w1 _ hW2
    have HT6 := Lib.hid (Loc3.of s0)
    have HC1b := Lib.hid (HC1a.out.later sb)
    have HB2 := Lib.hid (below_then HB1.out sb)
    have HC0b := Lib.hid (HC0a.out.later sb)
    have HC2b := Lib.hid (HC2a.out.later sb)
    have HO2 := Lib.hid (Cd.ow_later HO.out sb)
    have HZ2 := Lib.hid sz
    have S7 := Lib.hid (fun wx (h : LaterU W2 wx) => And.intro (HC1b.out.later h).c0 (And.intro (HC1b.out.later h).c1 (And.intro (HC1b.out.later h).c2 (And.intro (HT6.out.later h).c0 (And.intro (HT6.out.later h).c1 (And.intro (HT6.out.later h).c2 h))))))
    have HA2 := Lib.hid (fun w' (h : LaterU W2 w') => HAP.out T HW40.out _ _ w' (rowsC.ow_rd (Cd.ow_later HO2.out h)) (below_then HB2.out h))
    clear hW2 s0 sz sb HAP
    have hm := m_apply_false
    have kk : LaterU W2 W2.drew := laterU_drew (Below.refl _ W2)
    obtain ⟨h0, h1, h2, h3, h4, h5, h6⟩ := S7.out _ kk
    go_cut [8, 9] (fun s8 s9 wx => s9 = .bool (chOk T false row) ∧ MadeT W2 T.1 T.2.1 (chR T false row) s8 wx)
    case first =>
      generalize chOk T false row = ck at *
      generalize chR T false row = cr at *
      go_region_held3 (fun wx => wx.cell? ⟨w.heap.size + 1, 0, none⟩ = some (.string nm) ∧ wx.cell? ⟨w.heap.size + 1, 1, none⟩ = some (.bool false) ∧ wx.cell? ⟨w.heap.size + 1, 2, none⟩ = some (.slice a2 row.length cap2) ∧ wx.cell? ⟨w1.heap.size, 0, none⟩ = some (.string T.1) ∧ wx.cell? ⟨w1.heap.size, 1, none⟩ = some (.int .i64 T.2.1) ∧ wx.cell? ⟨w1.heap.size, 2, none⟩ = some (.slice a3 T.2.2.length c3) ∧ LaterU W2 wx)
        ((first | exact S7.out _ (by first | assumption | exact laterU_drew (Below.refl _ W2) | exact laterU_alloc (by first | assumption | exact laterU_drew (Below.refl _ W2)) _ | exact laterU_set3 (by first | assumption | exact laterU_alloc (by assumption) _) (laterU_size (by first | assumption | exact Below.refl _ _)))))
        (first | (go_at_call 22; refine (HCH.out _).mono ?_; rintro e wq ⟨rfl, hbq⟩; (have kk : LaterU W2 wq := below_then (by first | assumption | exact laterU_alloc (by assumption) _ | exact laterU_drew (laterU_alloc (Below.refl _ W2) _) | exact laterU_drew (Below.refl _ W2)) hbq); (first | (have GB := Lib.hid GL.out.lt; have GL := Lib.hid (GL.out.later hbq)) | (have GB := Lib.hid (newU_lt hbq); have GL := Lib.hid (locU_new hbq)) | (have GB := Lib.hid (newU_lt3 hbq); have GL := Lib.hid (locU_new3 hbq)) | skip); obtain ⟨h0, h1, h2, h3, h4, h5, h6⟩ := S7.out _ kk; clear hbq) | (go_at_call 131; refine (HA2.out _ (by first | assumption | exact laterU_alloc (by assumption) _)).mono ?_; rintro e wq ⟨u5, f5, rfl, how, hnd, hbq⟩; obtain ⟨a5, c5, rfl⟩ := Cd.ow_slice how; (have kk : LaterU W2 wq := below_then (by first | assumption | exact laterU_alloc (by assumption) _ | exact laterU_drew (laterU_alloc (Below.refl _ W2) _) | exact laterU_drew (Below.refl _ W2)) hbq); (first | (have GB := Lib.hid GL.out.lt; have GL := Lib.hid (GL.out.later hbq)) | (have GB := Lib.hid (newU_lt hbq); have GL := Lib.hid (locU_new hbq)) | (have GB := Lib.hid (newU_lt3 hbq); have GL := Lib.hid (locU_new3 hbq)) | skip); obtain ⟨h0, h1, h2, h3, h4, h5, h6⟩ := S7.out _ kk; (have HO5 := Lib.hid (rowsC.ow_base how (laterU_size (a := W2) (by first | assumption | exact laterU_alloc (by assumption) _)))); (have HLT := Lib.hid (rowsC.ow_lt how)); (have HND := Lib.hid hnd); (first | (have x0 := GL.out.c0; have x1 := GL.out.c1; have x2 := GL.out.c2; have f0 := GL.out.f0; have f1 := GL.out.f1; have f2 := GL.out.f2) | skip); clear hbq how hnd))
      all_goals
        go_wp2_with fail
        go_meet
        refine ⟨rfl, ?_⟩
        first
          | (have GG := GL.out; exact madeT (by assumption) (laterU_size (by first | assumption | exact Below.refl _ _)) GG HO5.out rfl HND.out (fun q => by have h1 := (HLT.out _ q).1; have h2 := GB.out; omega))
          | (with_reducible exact madeT2 (by assumption) HO5.out rfl HND.out)
    case rest =>
      obtain ⟨rfl, k, a5, c5, f5, rfl, hk, hx, how, hnd, hl⟩ := hcut
      clear h0 h1 h2 h3 h4 h5 h6 kk hm S7 HA2 HCH
      have HBS := Lib.hid (below_then HB2.out hl)
      have HC0d := Lib.hid (HC0b.out.later hl)
      have HC2d := Lib.hid (HC2b.out.later hl)
      have HTX := Lib.hid hx
      have HO4 := Lib.hid how
      have HSS := Lib.hid (show w.heap.size + 2 < wc.heap.size by have := HZ1.out; have := HZ2.out; have := hl.size; omega)
      have HKK := Lib.hid hk
      have HND := Lib.hid hnd
      clear hx how hnd hk hl
      obtain ⟨x0, x1, x2, _, _, _⟩ := HTX.out
      have q0 := HC0d.out.c0
      cases hk : chOk T false row
      · have HA := Lib.hid (app_none (appT_no (b := false) (row := row) HLK.out hk))
        clear hk
        go_wp2_with fail
        refine (HDC.out _ HBS.out).mono ?_
        rintro e w6 ⟨a6, c6, f6, rfl, ho6, hn6, hb6⟩
        have HC6 := Lib.hid (HC2d.out.later hb6)
        have y0 := HC6.out.c0
        have y1 := HC6.out.f0
        have HX := Lib.hid (ans_far ho6 hn6 HBS.out hb6 (Y := w.heap.size + 2) (by omega) HSS.out HA.out.1.symm HA.out.2.symm)
        clear ho6 hn6 hb6 x0 x1 x2 q0
        go_wp2_with fail
        have k0 : (w6.setCell ⟨w.heap.size + 2, 0, none⟩ (.slice a6 l.length c6)).cell? ⟨w.heap.size + 2, 0, none⟩ = some (.slice a6 l.length c6) := World.cell?_setCell_same _ _ _ y0
        refine bodyPost_ret (v := .tuple #[.agg #[.slice a6 l.length c6], .bool false]) (by simp [results, Tryz.results6, go_sem, k0]) rfl ?_
        exact HX.out
      · have HA := Lib.hid (app_some (appT_yes (b := false) (row := row) HLK.out hk))
        have HWC := Lib.hid (wt_ok (ok_ch HOK.out hk))
        clear hk
        go_wp2_with fail
        refine (DbImp.impl_set _ l (chT T false row) a5 c5 S _ _ (HR.out _ HBS.out) (chT_rd (rowsC.ow_rd HO4.out) HOK.out) HW.out (by have := HWC.out; omega)).mono ?_
        rintro e w6 ⟨u6, f6, rfl, ho6, hn6, hb6⟩
        obtain ⟨a6, c6, rfl⟩ := Cd.ow_slice (c := tabC) ho6
        have HC6 := Lib.hid (HC2d.out.later hb6)
        have y0 := HC6.out.c0
        have y1 := HC6.out.f0
        have HX := Lib.hid (ans_far ho6 hn6 HBS.out hb6 (Y := w.heap.size + 2) (by omega) HSS.out HA.out.1.symm HA.out.2.symm)
        clear ho6 hn6 hb6 x0 x1 x2 q0
        go_wp2_with fail
        have k0 := World.cell?_setCell_same _ _ (.slice a6 (setL l (chT T false row)).length c6) y0
        refine bodyPost_ret (v := .tuple #[.agg #[.slice a6 (setL l (chT T false row)).length c6], .bool (setOk l (chT T false row))]) (by simp [results, Tryz.results6, go_sem, k0]) rfl ?_
        exact HX.out
theorem impl_apply (u v : Value) (l : List T3) (nm : ByteArray) (b : Bool) (row : List Int) (S S2 : Nat → Prop) (w : World) (h1 : tabsC.rd w S [u] l) (h2 : rowC.rd w S2 [v] row) (hw : wtS l ≤ 1048577) (hrl : row.length ≤ 1048577) (hs : nm.size ≤ 1048576) :
    Calls Tryz.prog 6 #[.agg #[u], .agg #[.string nm, .bool b, v]] w fun e w' => DbAns (appL l nm b row) (appOk l nm b row) w e w' := by
  cases b
  · exact impl_apply_false u v l nm row S S2 w h1 h2 hw hrl hs
  · exact impl_apply_true u v l nm row S S2 w h1 h2 hw hrl hs
end Go.Proofs.YtinchhahcheadaaGreat.UpdApp

namespace Go.Proofs.YtinchhahcheadaaGreat.SlUpdate
open Go Go.RowKit Byt Ints IntsLaw Cd Rows2 Tab SlMath Upd
theorem len_list {us : List Value} (h : us.length = 3) : ∃ x0 x1 x2, us = [x0, x1, x2] := by
  match us, h with
  | [x0, x1, x2], _ => exact ⟨x0, x1, x2, rfl⟩
/-- The size of a slice, as the laws count it. -/
def wtS (l : List U3) : Nat := l.length + sumN wtU l

theorem info_x : (Tryz.prog.info? 29).map (fun i => (i.zero, i.size, i.bytes)) = some (some (.agg #[.string ⟨#[]⟩, .bool false, .slice none 0 0]), 3, 48) := by kernel_rfl

end Go.Proofs.YtinchhahcheadaaGreat.SlUpdate

namespace Go.Proofs.YtinchhahcheadaaGreat.UpdAll
open Go Go.RowKit Byt Ints IntsLaw Cd Rows2 Tab SlMath TabOpen TabElem SlTable Db TabSpec DbMath DbExact Exact Upd UpdMath UpdFmt UpdApp
open DbAcc (DbAns)

def updsC : Cd (List U3) := Cd.sl 29 updC
/-- A database and a number. -/
def NAns (l : List T3) (n : Nat) (w : World) (e : Ending) (w' : World) : Prop :=
  ∃ u fp, e = .returned (.tuple #[.agg #[u], .int .i64 n]) ∧ tabsC.ow w' w.heap.size [u] l fp ∧ fp.Nodup ∧ Below w.heap.size w w'
/-- In the loop: the database at hand in block X, the result's cell ahead of it. -/
structure AllS (w : World) (X : Nat) (cur : List T3) (a : Option Addr) (c : Nat) (fp : List Nat) (wr : World) : Prop where
  lx : Loc1 wr X (.slice a cur.length c)
  lr : Loc1 wr (w.heap.size + 1) (.slice none 0 0)
  ow : tabsC.ow wr (w.heap.size + 2) [.slice a cur.length c] cur fp
  nd : fp.Nodup
  xb : w.heap.size + 1 < X
  b : Below w.heap.size w wr
  wt : wtS cur ≤ 1048577
theorem AllS.later {w : World} {X : Nat} {cur : List T3} {a : Option Addr} {c : Nat} {fp : List Nat} {wr w' : World} (h : AllS w X cur a c fp wr) (hb : Below wr.heap.size wr w') : AllS w X cur a c fp w' :=
  ⟨h.lx.later hb, h.lr.later hb, Cd.ow_later h.ow hb, h.nd, h.xb, below_then h.b hb, h.wt⟩
theorem AllS.done {w : World} {X : Nat} {cur : List T3} {a : Option Addr} {c : Nat} {fp : List Nat} {wr : World} (h : AllS w X cur a c fp wr) {R : List T3} {n N : Nat} (e1 : cur = R) (e2 : n = N) :
    NAns R N w (.returned (.tuple #[.agg #[.slice a cur.length c], .int .i64 n])) (wr.setCell ⟨w.heap.size + 1, 0, none⟩ (.slice a cur.length c)) := by
  subst e1 e2
  refine ⟨_, fp, rfl, ow_setCell ((Cd.sl _ tabC).ow_base h.ow (by omega)) (fun q => by have := ((Cd.sl _ tabC).ow_lt h.ow _ q).1; simp only at this; omega) _, h.nd, h.b.setCell (by show _ ≤ w.heap.size + 1; omega) _⟩
/-- A local database, made behind W1. -/
def MadeD (W1 : World) (l : List T3) (s8 : Value) (wx : World) : Prop :=
  ∃ k a c fp, s8 = .pointer (some ⟨k, 0, none⟩) ∧ W1.heap.size ≤ k ∧ Loc1 wx k (.slice a l.length c) ∧ tabsC.ow wx W1.heap.size [.slice a l.length c] l fp ∧ fp.Nodup ∧ Below W1.heap.size W1 wx
theorem madeD {W1 wq : World} {k : Nat} {a : Option Addr} {c n : Nat} {x : Value} {l : List T3} {fp : List Nat} (kk : LaterU W1 wq) (hb : W1.heap.size ≤ k) (GL : Loc1 wq k x)
    (HO : tabsC.ow wq W1.heap.size [.slice a n c] l fp) (hn : n = l.length) (hnd : fp.Nodup) (hbn : k ∉ fp) : MadeD W1 l (.pointer (some ⟨k, 0, none⟩)) (wq.setCell ⟨k, 0, none⟩ (.slice a n c)) := by
  subst hn
  exact ⟨k, a, c, fp, rfl, hb, GL.set _, ow_setCell HO hbn _, hnd, Below.setCell kk hb _⟩
theorem madeD2 {W1 wq : World} {a : Option Addr} {c n : Nat} {T : TypeId} {l : List T3} {fp : List Nat} (kk : LaterU W1 wq)
    (HO : tabsC.ow wq W1.heap.size [.slice a n c] l fp) (hn : n = l.length) (hnd : fp.Nodup) : MadeD W1 l (.pointer (some ⟨wq.heap.size, 0, none⟩)) (wq.alloc (.cells #[.slice a n c] T (0, 0))) := by
  subst hn
  exact ⟨wq.heap.size, a, c, fp, rfl, Below.size kk, Loc1.of (start1 wq _ rfl).1, Cd.ow_later HO (below_alloc _ _), hnd, below_then kk (below_alloc _ _)⟩
theorem AllS.next {w : World} {X : Nat} {cur : List T3} {a : Option Addr} {c : Nat} {fp : List Nat} {wr : World} (h : AllS w X cur a c fp wr) {l : List T3} {a' : Option Addr} {c' : Nat} {fp' : List Nat} {wx : World}
    (ho : tabsC.ow wx wr.heap.size [.slice a' l.length c'] l fp') (hn : fp'.Nodup) (hb : Below wr.heap.size wr wx) (hw : wtS l ≤ 1048577) : AllS w X l a' c' fp' (wx.setCell ⟨X, 0, none⟩ (.slice a' l.length c')) := by
  have h1 := h.later hb
  have hX := h.lx.lt
  have hR := h.lr.lt
  have hxb := h.xb
  refine ⟨h1.lx.set _, h1.lr.set_far (by show X ≠ _; omega) _, ow_setCell ((Cd.sl _ tabC).ow_base ho (by omega)) (fun q => by have := ((Cd.sl _ tabC).ow_lt ho _ q).1; simp only at this; omega) _, hn, hxb, h1.b.setCell (by show _ ≤ X; omega) _, hw⟩
theorem laterU_set1 {a w : World} {k : Nat} {x : Value} (h : LaterU a w) (hk : a.heap.size ≤ k) : LaterU a (w.setCell ⟨k, 0, none⟩ x) := Below.setCell h hk _
theorem locD_new {W wq : World} {x : Value} {T : TypeId} (hb : Below (W.alloc (.cells #[x] T (0, 0))).heap.size (W.alloc (.cells #[x] T (0, 0))) wq) : Loc1 wq W.heap.size x :=
  (Loc1.of (start1 W _ rfl).1).later hb
theorem newD_lt {W wq : World} {x : Value} {T : TypeId} (_ : Below (W.alloc (.cells #[x] T (0, 0))).heap.size (W.alloc (.cells #[x] T (0, 0))) wq) : W.heap.size < (W.alloc (.cells #[x] T (0, 0))).heap.size := by rw [size_alloc]; omega
theorem locD_new3 {W wq : World} {x : Value} {T : TypeId} (hb : Below (W.alloc (.cells #[x] T (0, 0))).drew.heap.size (W.alloc (.cells #[x] T (0, 0))).drew wq) : Loc1 wq W.heap.size x :=
  (Loc1.of (start1 W _ rfl).1).drew.later hb
theorem newD_lt3 {W wq : World} {x : Value} {T : TypeId} (_ : Below (W.alloc (.cells #[x] T (0, 0))).drew.heap.size (W.alloc (.cells #[x] T (0, 0))).drew wq) : W.heap.size < (W.alloc (.cells #[x] T (0, 0))).drew.heap.size := by
  show W.heap.size < (W.alloc (.cells #[x] T (0, 0))).heap.size
  rw [size_alloc]; omega
theorem upd_wt {us : List U3} {k : Nat} (h : k < us.length) (hw : SlUpdate.wtS us ≤ 1048577) : us[k].2.2.length ≤ 1048577 ∧ us[k].1.size ≤ 1048576 := by
  have h1 := sumN_mem wtU h
  have h2 : wtU us[k] = us[k].1.size + us[k].2.2.length := rfl
  unfold SlUpdate.wtS at hw
  have : 0 < us.length := by omega
  omega

set_option maxRecDepth 100000 in
set_option maxHeartbeats 6400000 in
theorem spec_applyall (u v : Value) (l : List T3) (us : List U3) (S S2 : Nat → Prop) (w : World) (h1 : tabsC.rd w S [u] l) (h2 : updsC.rd w S2 [v] us) (hw : wtS l ≤ 1048577) (hu : SlUpdate.wtS us ≤ 1048577) :
    Calls Tryz.prog 13 #[.agg #[u], v] w fun e w' => NAns (allL l us).1 (allL l us).2 w e w' := by
  have HDC := Lib.hid (fun w' (hb : Below w.heap.size w w') => DbSpec.spec_dbcopy u l S w' (Cd.later h1 hb) (by omega))
  have HU := Lib.hid (fun w' (hb : Below w.heap.size w w') => Cd.later h2 hb)
  have HW := Lib.hid hw
  have HUW := Lib.hid hu
  obtain ⟨a1, cap1, rfl, hl1⟩ := Cd.sl_form h1
  obtain ⟨a2, cap2, rfl, hl2⟩ := Cd.sl_form h2
  clear h1 h2 hw hu
  obtain ⟨R, N, hRN⟩ : ∃ R N, allL l us = (R, N) := ⟨_, _, rfl⟩
  rw [hRN]
  have HRN := Lib.hid hRN
  clear hRN
  go_enter Tryz.func13, Tryz.ntmps13
  go_wp2_with fail
  generalize hW : (w.alloc _).alloc _ = W
  obtain ⟨r0, r1, hz, hb0⟩ := start2g w _ _ hW
  have HC1 := Lib.hid (Loc1.of r1)
  have HB0 := Lib.hid hb0
  have HZ := Lib.hid hz
  clear hW r0 r1 hz hb0
  refine (HDC.out W HB0.out).mono ?_
  rintro e w1 ⟨u3, f3, rfl, ho3, hn3, hb3⟩
  obtain ⟨a3, c3, rfl⟩ := Cd.ow_slice (c := tabC) ho3
  have HS := Lib.hid (show AllS w w1.heap.size l a3 c3 f3 (w1.alloc (.cells #[.slice a3 l.length c3] 26 (0, 0))) from
    ⟨Loc1.of (row_alloc _ _), (HC1.out.later hb3).later (below_alloc _ _), Cd.ow_later ((Cd.sl _ tabC).ow_base ho3 (by have := HZ.out; omega)) (below_alloc _ _), hn3, by have := HZ.out; have := hb3.size; omega, below_then (below_then HB0.out hb3) (below_alloc _ _), HW.out⟩)
  clear ho3 hn3 hb3 HC1
  go_wp2_with fail
  generalize w1.alloc _ = W2 at *
  generalize w1.heap.size = X at *
  go_loopw [7] (fun i wr => ∃ (k : Nat) (cur : List T3) (a : Option Addr) (c : Nat) (fp : List Nat) (m : Nat), k ≤ us.length ∧ i = .int .i64 k ∧ allL cur (us.drop k) = (R, m) ∧ k + m = N ∧ AllS w X cur a c fp wr) (fun i _ => us.length - (intOf i).toNat)
  case atStart => exact ⟨0, l, a3, c3, f3, N, Nat.zero_le _, rfl, HRN.out, Nat.zero_add _, HS.out⟩
  case round =>
    obtain ⟨k, cur, a, c, fp, m, hk, rfl, hall, hm, hst⟩ := hrel
    have HST := Lib.hid hst
    have HALL := Lib.hid hall
    have HM := Lib.hid hm
    clear hst hall hm
    have q0 := HST.out.lx.c0
    by_cases hlt : k < us.length
    · obtain ⟨b, off, cap', xs, e1, _, hbB, hat, hu⟩ := Cd.sl_at (HU.out wr HST.out.b) hlt
      injection e1 with e1 e2 e3
      subst e1 e3
      obtain ⟨x0, x1, x2, rfl⟩ := SlUpdate.len_list (updC.len hu)
      have c0 := hat 0 (by simp)
      have c1 := hat 1 (by simp)
      have c2 := hat 2 (by simp)
      simp only [List.getElem_cons_zero, List.getElem_cons_succ, Nat.add_zero, show updC.n = 3 from rfl] at c0 c1 c2
      obtain ⟨uu, exs, hns, hrow⟩ := upd_cells hu
      simp only [List.cons.injEq, and_true] at exs
      obtain ⟨rfl, rfl, rfl⟩ := exs
      have HAP := Lib.hid (fun w' (hb : LaterU wr w') => spec_apply _ x2 cur us[k].1 us[k].2.1 us[k].2.2 _ _ w' (tabsC.ow_rd (Cd.ow_later HST.out.ow hb)) (Cd.later hrow hb) HST.out.wt (upd_wt hlt HUW.out).1)
      have HGO := Lib.hid (allL_go (l := cur) hlt)
      have HSTOP := Lib.hid (allL_stop (l := cur) hlt)
      have HWN := Lib.hid (app_wt (nm := us[k].1) (b := us[k].2.1) (row := us[k].2.2) HST.out.wt)
      have p1 : (0 : Int) ≤ (k : Int) := by omega
      have p2 : (k : Int) < (us.length : Int) := by omega
      have S7 := Lib.hid (fun wx (h : LaterU wr wx) => And.intro (HST.out.lx.later h).c0 (And.intro ((Below.cell h hbB).trans c0) (And.intro ((Below.cell h hbB).trans c1) (And.intro ((Below.cell h hbB).trans c2) h))))
      clear hu hat hrow hns hbB c0 c1 c2
      generalize us[k].1 = nm at *
      generalize us[k].2.1 = bb at *
      generalize us[k].2.2 = row at *
      go_upto_region 5 with fail
      have kk : LaterU wr wr.drew := Below.drew (Below.refl _ wr)
      obtain ⟨h0, h1, h2, h3, h4⟩ := S7.out _ kk
      go_cut [8, 9] (fun s8 s9 wx => s9 = .bool (appOk cur nm bb row) ∧ MadeD wr (appL cur nm bb row) s8 wx)
      case first =>
        generalize appOk cur nm bb row = ok at *
        generalize appL cur nm bb row = ln at *
        go_region_held3 (fun wx => wx.cell? ⟨X, 0, none⟩ = some (.slice a cur.length c) ∧ wx.cell? ⟨b, off + k * 3, none⟩ = some (.string nm) ∧ wx.cell? ⟨b, off + k * 3 + 1, none⟩ = some (.bool bb) ∧ wx.cell? ⟨b, off + k * 3 + 2, none⟩ = some x2 ∧ LaterU wr wx)
          ((first | exact S7.out _ (by first | assumption | exact laterU_drew (Below.refl _ wr) | exact laterU_alloc (by first | assumption | exact laterU_drew (Below.refl _ wr)) _ | exact laterU_set1 (by first | assumption | exact laterU_alloc (by assumption) _) (laterU_size (by first | assumption | exact Below.refl _ _)))))
          (first | (go_at_call 7; refine (HAP.out _ (by first | assumption | exact laterU_drew (laterU_alloc (Below.refl _ wr) _) | exact laterU_alloc (by assumption) _)).mono ?_; rintro e wq ⟨u5, f5, rfl, how, hnd, hbq⟩; obtain ⟨a5, c5, rfl⟩ := Cd.ow_slice (c := tabC) how; (have kk : LaterU wr wq := below_then (by first | assumption | exact laterU_alloc (by assumption) _ | exact laterU_drew (laterU_alloc (Below.refl _ wr) _) | exact laterU_drew (Below.refl _ wr)) hbq); (first | (have GB := Lib.hid GL.out.lt; have GL := Lib.hid (GL.out.later hbq)) | (have GB := Lib.hid (newD_lt hbq); have GL := Lib.hid (locD_new hbq)) | (have GB := Lib.hid (newD_lt3 hbq); have GL := Lib.hid (locD_new3 hbq)) | skip); obtain ⟨h0, h1, h2, h3, h4⟩ := S7.out _ kk; (have HO5 := Lib.hid (tabsC.ow_base how (laterU_size (a := wr) (by first | assumption | exact laterU_drew (laterU_alloc (Below.refl _ wr) _) | exact laterU_alloc (by assumption) _)))); (have HLT := Lib.hid (tabsC.ow_lt how)); (have HND := Lib.hid hnd); (first | (have x0 := GL.out.c0; have f0 := GL.out.f0) | skip); clear hbq how hnd))
        all_goals
          go_wp2_with fail
          go_meet
          refine ⟨rfl, ?_⟩
          first
            | (have GG := GL.out; exact madeD (by assumption) (laterU_size (by first | assumption | exact Below.refl _ _)) GG HO5.out rfl HND.out (fun q => by have h1 := (HLT.out _ q).1; have h2 := GB.out; omega))
            | (with_reducible exact madeD2 (by assumption) HO5.out rfl HND.out)
      case rest =>
        obtain ⟨rfl, kb, a5, c5, f5, rfl, hk5, hx, how, hnd, hl⟩ := hcut
        clear h0 h1 h2 h3 h4 kk S7 HAP q0
        have HSL := Lib.hid (HST.out.later hl)
        have HLX := Lib.hid hx
        have HNX := Lib.hid (HST.out.next how hnd hl HWN.out)
        have y0 := hx.c0
        have z0 := HSL.out.lx.c0
        have z1 := HSL.out.lx.f0
        have z2 := HSL.out.lr.c0
        have z3 := HSL.out.lr.f0
        clear hx how hnd hk5 hl
        cases hk : appOk cur nm bb row
        · have HE := Lib.hid (HSTOP.out hk)
          have hRm := HALL.out
          rw [HE.out] at hRm
          injection hRm with hR hm0
          have HR1 := Lib.hid hR
          have HM1 := Lib.hid (show k = N by have := HM.out; omega)
          clear hR hm0 hk
          go_wp2_with fail
          have k0 := World.cell?_setCell_same _ _ (.slice a cur.length c) z2
          refine bodyPost_ret (v := .tuple #[.agg #[.slice a cur.length c], .int .i64 k]) (by simp [results, Tryz.results13, go_sem, k0]) rfl (HSL.out.done HR1.out HM1.out)
        · have HE := Lib.hid (HGO.out hk)
          have hRm := HALL.out
          rw [HE.out] at hRm
          injection hRm with hR hm0
          have HR1 := Lib.hid (show allL (appL cur nm bb row) (us.drop (k + 1)) = (R, (allL (appL cur nm bb row) (us.drop (k + 1))).2) by rw [← hR])
          have HM1 := Lib.hid (show (k + 1) + (allL (appL cur nm bb row) (us.drop (k + 1))).2 = N by have := HM.out; omega)
          clear hR hm0 hk
          go_wp2_with fail
          go_roundw
          case rel => exact ⟨k + 1, _, _, _, _, _, by omega, by go_num, HR1.out, HM1.out, HNX.out⟩
          case measure => simp [intOf]; omega
    · have ek : k = us.length := by omega
      subst ek
      have hRm := HALL.out
      rw [allL_end] at hRm
      injection hRm with hR hm0
      have HR1 := Lib.hid hR
      have HM1 := Lib.hid (show us.length = N by have := HM.out; omega)
      have z2 := HST.out.lr.c0
      have z3 := HST.out.lr.f0
      clear hR hm0
      go_wp2_with fail
      have k0 := World.cell?_setCell_same _ _ (.slice a cur.length c) z2
      refine bodyPost_ret (v := .tuple #[.agg #[.slice a cur.length c], .int .i64 us.length]) (by simp [results, Tryz.results13, go_sem, k0]) rfl (HST.out.done HR1.out HM1.out)
end Go.Proofs.YtinchhahcheadaaGreat.UpdAll

namespace Go.Proofs.YtinchhahcheadaaGreat.UpdDraw
open Go Go.RowKit Byt Ints IntsLaw IntsWalk Draw LocDraw Cd Rows2 Tab TabDraw SlMath TabOpen TabElem SlTable Db TabSpec DbMath DbSpec DbExact DbAcc DbDraw Upd UpdMath UpdAll

theorem upOk_app {l : List T3} {nm : ByteArray} {b : Bool} {row : List Int} (h : UpOk l) : UpOk (appL l nm b row) := by
  cases hk : appOk l nm b row
  · rw [app_no hk]; exact h
  · have hd := dbOk_iff.1 (app_valid hk)
    refine ⟨by have := hd.1; omega, fun T hT => ?_⟩
    have h1 := hd.2.1 T hT
    have h2 := UpdMath.wt_ok h1
    have htp : TabP T.1 T.2.1 T.2.2 := of_decide_eq_true h1
    have h3 : T.1.size = 1 := (of_decide_eq_true htp.1).1
    unfold wtT tabWt at h2
    exact ⟨by omega, by omega⟩
theorem upOk_wt : ∀ {l : List T3}, (∀ T ∈ l, T.1.size ≤ 2 ∧ rowsWt T.2.2 ≤ 40) → sumN wtT l ≤ 100 * l.length
  | [], _ => by simp [sumN]
  | T :: l, h => by
    have h1 := upOk_wt (l := l) (fun x hx => h x (List.mem_cons.2 (.inr hx)))
    have h2 := h T List.mem_cons_self
    have h3 : wtT T ≤ 100 := by unfold wtT tabWt; omega
    rw [sumN_cons, List.length_cons, Nat.mul_add]
    omega
theorem upOk_wts {l : List T3} (h : UpOk l) : wtS l ≤ 1000 := by
  have h1 := upOk_wt h.2
  have h2 := h.1
  unfold wtS
  omega
/-- In the drawing of a list: the database at hand in block X, the list so far. -/
structure LS (w : World) (c : Nat) (v : Value) (l : List UInt8) (X : Nat) (cur : List T3) (a : Option Addr) (k : Nat) (fp : List Nat) (us : List U3) (o : Value) (fo : List Nat) (W : World) : Prop where
  lx : Loc1 W X (.slice a cur.length k)
  ow : tabsC.ow W (w.heap.size + 1) [.slice a cur.length k] cur fp
  nd : fp.Nodup
  xf : X ∉ fp
  ol : updsC.ow W (w.heap.size + 1) [o] us fo
  nl : fo.Nodup
  xo : X ∉ fo
  dis : ∀ b ∈ fo, b ∉ fp
  ub : ∀ U ∈ us, U.1.size ≤ 2 ∧ U.2.2.length ≤ 40
  ok : UpOk cur
  xb : w.heap.size + 1 ≤ X
  cb : c < w.heap.size
  cu : Cur W c v l
  gr : w.grownBy W (some c)
section
variable {w : World} {c : Nat} {v : Value} {l : List UInt8} {X : Nat} {cur : List T3} {a : Option Addr} {k : Nat} {fp : List Nat} {us : List U3} {o : Value} {fo : List Nat} {W W' : World}
theorem LS.grown (h : LS w c v l X cur a k fp us o fo W) (hg : W.grownBy W' (some c)) (hc : Cur W' c v l) : LS w c v l X cur a k fp us o fo W' :=
  have h1 := h.cb
  have h2 := h.xb
  ⟨loc1_grown h.lx hg (by omega), ow_grown h.ow hg (by omega), h.nd, h.xf, ow_grown h.ol hg (by omega), h.nl, h.xo, h.dis, h.ub, h.ok, h2, h1, hc, grown_trans h.gr hg⟩
theorem LS.alloc (h : LS w c v l X cur a k fp us o fo W) (ob : Obj) : LS w c v l X cur a k fp us o fo (W.alloc ob) := h.grown (World.grownBy_alloc W ob (some c)) (cur_allocI ob h.cu)
/-- An update is appended. -/
theorem LS.app (h : LS w c v l X cur a k fp us o fo W) {U : U3} (hU : U.1.size ≤ 2 ∧ U.2.2.length ≤ 40) {o' : Value} {fo' : List Nat} (ht : Cd.Touch fo W W') (ho : updsC.ow W' (w.heap.size + 1) [o'] (us ++ [U]) fo') (hn : fo'.Nodup) (hx : X ∉ fo') (hd : ∀ b ∈ fo', b ∉ fp) :
    LS w c v l X cur a k fp (us ++ [U]) o' fo' W' := by
  have h1 := h.cb
  have hlow : ∀ b, b < w.heap.size + 1 → b ∉ fo := fun b hb q => by have := ((Cd.sl _ updC).ow_lt h.ol b q).1; omega
  obtain ⟨i, x, hi, hh⟩ := h.cu
  refine ⟨h.lx.touched ht h.xo, Cd.ow_touched h.ow ht (fun b hb q => h.dis b q hb), h.nd, h.xf, ho, hn, hx, hd, fun V hV => ?_, h.ok, h.xb, h1, ⟨i, x, hi, ht.row hh (hlow _ (by omega))⟩,
    ⟨ht.os.trans h.gr.os, ht.tape.trans h.gr.tape, ht.output.trans h.gr.output, Nat.le_trans h.gr.size ht.size, fun j hj hne => (ht.block j (by have := h.gr.size; omega) (hlow _ (by omega))).trans (h.gr.block j hj hne)⟩⟩
  rcases List.mem_append.1 hV with q | q
  · exact h.ub V q
  · rw [List.mem_singleton.1 q]; exact hU
/-- The next database is stored. -/
theorem LS.next (h : LS w c v l X cur a k fp us o fo W) (hb : Below W.heap.size W W') {cur' : List T3} {a' : Option Addr} {k' : Nat} {fp' : List Nat} (ho : tabsC.ow W' W.heap.size [.slice a' cur'.length k'] cur' fp') (hn : fp'.Nodup) (hok : UpOk cur') :
    LS w c v l X cur' a' k' fp' us o fo (W'.setCell ⟨X, 0, none⟩ (.slice a' cur'.length k')) := by
  have h1 := h.cb
  have h2 := h.xb
  have hX := h.lx.lt
  have hs := h.gr.size
  have hx : X ∉ fp' := fun q => by have := ((Cd.sl _ tabC).ow_lt ho _ q).1; omega
  exact ⟨(h.lx.later hb).set _, ow_setCell ((Cd.sl _ tabC).ow_base ho (by omega)) hx _, hn, hx, ow_setCell (Cd.ow_later h.ol hb) h.xo _, h.nl, h.xo, fun b hb1 hb2 => by have q1 := ((Cd.sl _ updC).ow_lt h.ol b hb1).2; have q2 := ((Cd.sl _ tabC).ow_lt ho b hb2).1; omega,
    h.ub, hok, h2, h1, cur_farI _ (cur_below h.cu hb (cur_size h.cu)) (by show c ≠ X; omega), grown_newI _ (grown_trans h.gr (grown_below hb (some c))) (by show _ ≤ X; omega)⟩
end
/-- A drawn list of updates. -/
def ListAns (w : World) (c : Nat) (v : Value) (l : List UInt8) (e : Ending) (w' : World) : Prop :=
  ∃ (o : Value) (us : List U3) (f : List Nat), e = .returned o ∧ updsC.ow w' (w.heap.size + 1) [o] us f ∧ us.length ≤ 6 ∧ (∀ U ∈ us, U.1.size ≤ 2 ∧ U.2.2.length ≤ 40) ∧ Cur w' c v l ∧ w.grownBy w' (some c)

set_option maxRecDepth 100000 in
set_option maxHeartbeats 6400000 in
theorem list_any (c : Nat) (v : Value) (l : List UInt8) (B : Nat) (u : Value) (Ts : List T3) (w : World) (hc : Cur w c v l) (hr : Reads w v l B) (hB : B ≤ c) (hd : tabsC.rd w (OldS w c) [u] Ts) (hok : UpOk Ts) :
    Calls Tryz.prog 35 #[.pointer (some ⟨c, 0, none⟩), .agg #[u], .int .i64 6] w (ListAns w c v l) := by
  have hcs := cur_size hc
  have HR := Lib.hid (fun w' (hg : w.grownBy w' (some c)) => hr.later (below_of hg hB hcs))
  have HC := Lib.hid hc
  have HOK := Lib.hid hok
  have HCP := Lib.hid (fun w' (hb : Below w.heap.size w w') => DbSpec.spec_dbcopy u Ts _ w' (Cd.later hd hb) (by have := upOk_wts hok; omega))
  obtain ⟨ad, cd, rfl, _⟩ := Cd.sl_form hd
  have hO := Cd.ow_empty (e := 29) (c := updC) (w.alloc (.cells #[.slice ad Ts.length cd] 26 (0, 0))) (w.heap.size + 1) (by rw [size_alloc]; omega)
  rw [size_alloc] at hO
  clear hc hr hd hok
  go_enter Tryz.func35, Tryz.ntmps35
  go_wp2_with fail
  generalize hW : (w.alloc _).alloc _ = W0 at hO ⊢
  obtain ⟨r0, r1, hz, hb0⟩ := start2g w _ _ hW
  have HO := Lib.hid hO
  have HB0 := Lib.hid hb0
  have HZ := Lib.hid hz
  clear hW r0 r1 hz hb0 hO
  refine (HCP.out W0 HB0.out).mono ?_
  rintro e w1 ⟨u1, f1, rfl, ho1, hn1, hb1⟩
  obtain ⟨a1, k1, rfl⟩ := Cd.ow_slice (c := tabC) ho1
  have HS := Lib.hid (show LS w c v l w1.heap.size Ts a1 k1 f1 [] (.slice (some ⟨w.heap.size + 1, 0, none⟩) 0 0) [w.heap.size + 1] (w1.alloc (.cells #[.slice a1 Ts.length k1] 26 (0, 0))) from by
    have hzz := HZ.out
    have hs1 := hb1.size
    have hlt : ∀ b ∈ f1, w.heap.size + 2 ≤ b ∧ b < w1.heap.size := fun b q => by have := (Cd.sl _ tabC).ow_lt ho1 b q; omega
    exact ⟨Loc1.of (row_alloc _ _), Cd.ow_later ((Cd.sl _ tabC).ow_base ho1 (by omega)) (below_alloc _ _), hn1, fun q => by have := (hlt _ q).2; omega, Cd.ow_later (Cd.ow_later HO.out hb1) (below_alloc _ _), by simp, by simp; omega, fun b hb q => by rw [List.mem_singleton.1 hb] at q; have := (hlt _ q).1; omega, by simp, HOK.out, by omega, hcs, cur_allocI _ (cur_below (cur_below HC.out HB0.out hcs) hb1 (by omega)), grown_allocI _ (grown_trans (grown_below HB0.out (some c)) (grown_below hb1 (some c)))⟩)
  clear ho1 hn1 hb1 HC HO HOK HCP
  go_wp2_with fail
  generalize w1.alloc _ = W2 at *
  generalize w1.heap.size = X at *
  refine (below_any 7 c v l B W2 HS.out.cu (HR.out _ HS.out.gr) hB).mono ?_
  rintro e w3 ⟨x, rfl, hx0, hx7, hc3, hg3⟩
  obtain ⟨n, rfl⟩ := Int.eq_ofNat_of_zero_le hx0
  have hn6 : n ≤ 6 := by have := hx7 (by decide); omega
  have HS3 := Lib.hid (HS.out.grown hg3 hc3)
  clear hx0 hx7 hc3 hg3 HS
  go_wp2_with fail
  go_loopw [7, 9] (fun o m wr => ∃ (k : Nat) (cur : List T3) (a : Option Addr) (kk : Nat) (fp : List Nat) (us : List U3) (fo : List Nat), k + us.length ≤ 6 ∧ m = .int .i64 k ∧ LS w c v l X cur a kk fp us o fo wr) (fun _ m _ => (intOf m).toNat)
  case atStart => exact ⟨n, _, _, _, _, [], _, by simpa using hn6, rfl, HS3.out⟩
  case round =>
    obtain ⟨k, cur, a, kk, fp, us, fo, hk, rfl, hst⟩ := hrel
    obtain ⟨ao, ko, rfl⟩ := Cd.ow_slice (c := updC) hst.ol
    have HS := Lib.hid hst
    clear hst HS3
    by_cases hlt : 0 < k
    · have i1 : (0 : Int) < (k : Int) := by omega
      have q0 := HS.out.lx.c0
      have HUP := Lib.hid (up_any c v l B _ cur wr HS.out.cu (HR.out _ HS.out.gr) hB (rd_new HS.out.ow (by have := HS.out.cb; omega)) HS.out.ok)
      go_wp2_with fail
      refine HUP.out.mono ?_
      rintro e w5 ⟨nm, b, y, row, f, rfl, hro, hrn, hnm, hrl, hc5, hg5⟩
      obtain ⟨ay, ky, rfl⟩ := Cd.ow_slice hro
      have hS5 := HS.out.grown hg5 hc5
      have hA := (hS5.alloc (.cells #[.string nm, .bool b, .slice ay row.length ky] 29 (0, 0))).alloc (.cells #[.string nm, .bool b, .slice ay row.length ky] 29 (0, 0))
      have hbA := Tab.below_then (below_alloc w5 (.cells #[.string nm, .bool b, .slice ay row.length ky] 29 (0, 0))) (below_alloc (w5.alloc (.cells #[.string nm, .bool b, .slice ay row.length ky] 29 (0, 0))) (.cells #[.string nm, .bool b, .slice ay row.length ky] 29 (0, 0)))
      have hs5 := hg5.size
      have hsw := HS.out.gr.size
      have hcb := HS.out.cb
      have hXr := HS.out.lx.lt
      have hwr : w.heap.size + 1 ≤ wr.heap.size := by have := HS.out.xb; omega
      have HRO := Lib.hid (Cd.ow_later hro hbA)
      have HFO := Lib.hid (fun b (q : b ∈ fo) => ((Cd.sl _ updC).ow_lt HS.out.ol b q).2)
      have HFP := Lib.hid (fun b (q : b ∈ fp) => ((Cd.sl _ tabC).ow_lt HS.out.ow b q).2)
      have HFF := Lib.hid (fun b (q : b ∈ f) => (rowC.ow_lt hro b q))
      have HLL := Lib.hid (show us.length + 1 ≤ 1000000000 by omega)
      have HAT := Lib.hid (show Cd.At ((w5.alloc (.cells #[.string nm, .bool b, .slice ay row.length ky] 29 (0, 0))).alloc (.cells #[.string nm, .bool b, .slice ay row.length ky] 29 (0, 0))) (w5.heap.size + 1) 0 [.string nm, .bool b, .slice ay row.length ky] from
        at3 (by have := row_alloc (w5.alloc (.cells #[.string nm, .bool b, .slice ay row.length ky] 29 (0, 0))) (.cells #[.string nm, .bool b, .slice ay row.length ky] 29 (0, 0)); rw [size_alloc] at this; exact this))
      have HQ := Lib.hid ((Loc3.of (row_alloc w5 (.cells #[.string nm, .bool b, .slice ay row.length ky] 29 (0, 0)))).later (below_alloc (w5.alloc (.cells #[.string nm, .bool b, .slice ay row.length ky] 29 (0, 0))) (.cells #[.string nm, .bool b, .slice ay row.length ky] 29 (0, 0))))
      have HU := Lib.hid (show ((nm, b, row) : U3).1.size ≤ 2 ∧ ((nm, b, row) : U3).2.2.length ≤ 40 from ⟨hnm, hrl⟩)
      have HA := Lib.hid hA
      have HRN := Lib.hid hrn
      have hszA : w.heap.size + 1 ≤ ((w5.alloc (.cells #[.string nm, .bool b, .slice ay row.length ky] 29 (0, 0))).alloc (.cells #[.string nm, .bool b, .slice ay row.length ky] 29 (0, 0))).heap.size := by rw [size_alloc, size_alloc]; omega
      have HSA := Lib.hid hszA
      have HXB := Lib.hid HS.out.xb
      clear hS5 hA hbA hro hrn hnm hrl hc5 hg5 HUP HS q0 hszA
      go_wp2_with (at_builtin; go_must (refine Cd.wpList_appendN (c := updC) rfl (.tmp 25) (.tmp 27) 37 rfl (w.heap.size + 1) 29 (.agg #[.string ⟨#[]⟩, .bool false, .slice none 0 0]) 3 48 rfl Tryz.underlying37 SlUpdate.info_x rfl (by decide) _ us fo rfl HA.out.ol HA.out.nl (w5.heap.size + 1) _ rfl HAT.out (nm, b, row) f (upd_ow (rowC.ow_base HRO.out (by omega)) (by have h : nm.size ≤ 2 := HU.out.1; show nm.size ≤ maxLen; unfold maxLen; omega)) HRN.out (fun b q q2 => by have h1 := (HFF.out b q).1; have h2 := HFO.out b q2; omega) HLL.out HSA.out ?_))
      intro g cap w8 fo8 ho8 hn8 hs8 ht8
      have HA8 := Lib.hid (HA.out.app HU.out ht8 ho8 hn8 (fun q => by
        rcases hs8 X q with q | q | q
        · exact HA.out.xo q
        · have := (HFF.out X q).1; omega
        · omega) (fun b q q2 => by
        have h2 := HFP.out b q2
        rcases hs8 b q with q | q | q
        · exact HA.out.dis b q q2
        · have := (HFF.out b q).1; omega
        · omega))
      have HQ8 := Lib.hid (HQ.out.touched ht8 (fun q => by have := HFO.out _ q; omega))
      have HR8 := Lib.hid (Cd.ow_touched HRO.out ht8 (fun b q q2 => by have h1 := (HFF.out b q).1; have h2 := HFO.out b q2; omega))
      clear ho8 hn8 hs8 ht8
      have m0 := HA8.out.lx.c0
      obtain ⟨n0, n1, n2, _, _, _⟩ := HQ8.out
      go_wp2_with fail
      refine (UpdApp.spec_apply _ _ cur nm b row _ _ w8 ((Cd.sl _ tabC).ow_rd HA8.out.ow) (rowC.ow_rd HR8.out) (by have := upOk_wts HA8.out.ok; omega) (by have h : row.length ≤ 40 := HU.out.2; omega)).mono ?_
      rintro e w9 ⟨u9, f9, rfl, ho9, hn9, hb9⟩
      obtain ⟨a9, k9, rfl⟩ := Cd.ow_slice (c := tabC) ho9
      have HA9 := Lib.hid (HA8.out.next hb9 ho9 hn9 (upOk_app HA8.out.ok))
      have HL9 := Lib.hid (HA8.out.lx.later hb9)
      clear ho9 hn9 hb9 m0 n0 n1 n2
      obtain ⟨m0, m1⟩ := HL9.out
      have hw1 : IntKind.i64.wrap ((k : Int) - 1) = ((k - 1 : Nat) : Int) := by rw [IntKind.wrap_i64]; omega
      go_wp2_with fail
      go_roundw
      case rel => exact ⟨k - 1, _, a9, k9, f9, us ++ [(nm, b, row)], fo8, by rw [List.length_append]; simp; omega, by go_num, HA9.out⟩
      case measure => simp [intOf]; omega
    · have i1 : ¬ ((0 : Int) < (k : Int)) := by omega
      go_wp2_with fail
      go_ret
      exact ⟨_, us, fo, rfl, HS.out.ol, by omega, HS.out.ub, HS.out.cu, HS.out.gr⟩
end Go.Proofs.YtinchhahcheadaaGreat.UpdDraw

namespace Go.Proofs.YtinchhahcheadaaGreat.UpdDraw
open Go Go.RowKit Byt Ints IntsLaw IntsWalk Draw LocDraw Cd Rows2 Tab TabDraw SlMath TabOpen TabElem SlTable Db TabSpec DbMath DbSpec DbExact DbAcc DbDraw Upd UpdMath UpdAll

/-- A drawn database and a drawn list of updates. -/
def UpdsDraw (w : World) (e : Ending) (w' : World) : Prop :=
  ∃ (u : Value) (Ts : List T3) (o : Value) (us : List U3), e = .returned (.tuple #[.agg #[u], o]) ∧ tabsC.rd w' (fun b => w.heap.size ≤ b ∧ b < w'.heap.size) [u] Ts ∧ Ts.length ≤ 7 ∧ (∀ T ∈ Ts, OkD T) ∧
    updsC.rd w' (fun b => w.heap.size ≤ b ∧ b < w'.heap.size) [o] us ∧ us.length ≤ 6 ∧ (∀ U ∈ us, U.1.size ≤ 2 ∧ U.2.2.length ≤ 40) ∧ Below w.heap.size w w'
/-- In the drawing: the result's cell, the cursor behind it, the local database in block X. -/
structure T4 (w : World) (c : Nat) (v : Value) (l : List UInt8) (X : Nat) (u : Value) (Ts : List T3) (W : World) : Prop where
  lx : Loc1 W X u
  lr : ∃ a, Loc1 W w.heap.size a
  rd : tabsC.rd W (fun b => c + 1 ≤ b ∧ b < W.heap.size) [u] Ts
  xb : c < X
  cb : w.heap.size < c
  cu : Cur W c v l
  bl : Below w.heap.size w W
section
variable {w : World} {c : Nat} {v : Value} {l : List UInt8} {X : Nat} {u : Value} {Ts : List T3} {W W' : World}
theorem T4.grown (h : T4 w c v l X u Ts W) (hg : W.grownBy W' (some c)) (hc : Cur W' c v l) : T4 w c v l X u Ts W' :=
  have h1 := h.cb
  have h2 := h.xb
  have ⟨_, h3⟩ := h.lr
  ⟨loc1_grown h.lx hg (by omega), ⟨_, loc1_grown h3 hg (by omega)⟩, rd_grown h.rd hg (Nat.lt_succ_self c), h2, h1, hc, h.bl.trans (below_of hg (by omega) (cur_size h.cu))⟩
theorem T4.drew (h : T4 w c v l X u Ts W) : T4 w c v l X u Ts W.drew :=
  have ⟨_, h3⟩ := h.lr
  ⟨h.lx.drew, ⟨_, h3.drew⟩, tabsC.keep h.rd fun _ _ _ => rfl, h.xb, h.cb, h.cu, Below.drew h.bl⟩
theorem T4.base (h : T4 w c v l X u Ts W) : c + 1 ≤ W.heap.size := by
  have := h.lx.lt
  have := h.xb
  omega
theorem T4.setD (h : T4 w c v l X u Ts W) (x : Value) : T4 w c v l X u Ts (W.setCell ⟨w.heap.size, 0, none⟩ x) :=
  have h1 := h.cb
  have h2 := h.xb
  have ⟨_, h3⟩ := h.lr
  ⟨h.lx.set_far (by show w.heap.size ≠ X; omega) _, ⟨_, h3.set _⟩, rd_setN h.rd (by show w.heap.size < c + 1; omega) x, h2, h1, cur_farI _ h.cu (by show c ≠ w.heap.size; omega), h.bl.setCell (Nat.le_refl _) _⟩
theorem T4.all (h : T4 w c v l X u Ts W) : W.cell? ⟨X, 0, none⟩ = some u ∧ T4 w c v l X u Ts W := ⟨h.lx.c0, h⟩
end

set_option maxRecDepth 100000 in
set_option maxHeartbeats 3200000 in
theorem draw_upds (v : Value) (l : List UInt8) (w : World) (hr : Reads w v l w.heap.size) :
    Calls Tryz.prog 11 #[v] w (UpdsDraw w) := by
  have HR := Lib.hid (fun w' (hb : Below w.heap.size w w') => hr.later hb)
  have HN := Lib.hid (fun B w' (hr : Reads w' v l B) => new_any v l B w' hr)
  clear hr
  go_enter Tryz.func11, Tryz.ntmps11
  go_wp2_with fail
  generalize hW : w.alloc _ = W0
  obtain ⟨r0, hz, hb0⟩ := start1 w _ hW
  clear hW
  refine (HN.out _ W0 (HR.out _ hb0)).mono ?_
  rintro e w1 ⟨rfl, hc1, hg1⟩
  have hb1 : Below W0.heap.size W0 w1 := ⟨hg1.os, hg1.tape, hg1.output, hg1.size, fun k hk => hg1.block k hk (by simp)⟩
  have HB1 := Lib.hid (Tab.below_then hb0 hb1)
  have HL1 := Lib.hid ((Loc1.of r0).later hb1)
  have hcs1 := cur_size hc1
  have HC1 := Lib.hid hc1
  obtain ⟨c, hcc⟩ : ∃ c, W0.heap.size = c := ⟨_, rfl⟩
  rw [hcc] at HC1 hcs1
  rw [hcc]
  have hcw : w.heap.size < c := by omega
  have HCW := Lib.hid hcw
  have hBc : w.heap.size ≤ c := by omega
  clear r0 hz hb0 hb1 hc1 hg1 HN hcc hcw
  have HD := Lib.hid (dbany_any c v l w.heap.size w1 HC1.out (HR.out _ HB1.out) hBc)
  go_wp2_with fail
  refine HD.out.mono ?_
  rintro e w2 ⟨u, Ts, rfl, hrd, hlen, hok, hc2, hg2⟩
  obtain ⟨ad, cd, rfl, _⟩ := Cd.sl_form hrd
  have hcw := HCW.out
  have hst : T4 w c v l w2.heap.size (.slice ad Ts.length cd) Ts (w2.alloc (.cells #[.slice ad Ts.length cd] 26 (0, 0))) := by
    have hs2 := hg2.size
    refine ⟨Loc1.of (row_alloc _ _), ⟨_, (loc1_grown HL1.out hg2 (by omega)).later (below_alloc _ _)⟩, ?_, by omega, by omega, cur_allocI _ hc2, Tab.below_then (HB1.out.trans (below_of hg2 hBc hcs1)) (below_alloc _ _)⟩
    exact tabsC.mono (Cd.later hrd (below_alloc _ _)) fun b _ hb => ⟨by omega, by rw [size_alloc]; omega⟩
  have HS := Lib.hid hst
  have HLEN := Lib.hid hlen
  have HOK := Lib.hid hok
  clear hst hrd hlen hok hc2 hg2 HD HL1 HB1 HC1 hcs1 hcw
  go_upto_region 3 with fail
  generalize w2.alloc _ = W2 at *
  generalize w2.heap.size = X at *
  have z0 := HS.out.lx.c0
  obtain ⟨zz, z1⟩ := HS.out.lr
  obtain ⟨z3, z4⟩ := z1
  have HT := Lib.hid (fun W' (h : T4 w c v l X (.slice ad Ts.length cd) Ts W') => list_any c v l w.heap.size _ Ts W' h.cu (HR.out _ h.bl) hBc h.rd (upOk_of HLEN.out HOK.out))
  have hs0 := HS.out.drew
  go_region_held3 (fun wx => wx.cell? ⟨X, 0, none⟩ = some (.slice ad Ts.length cd) ∧ T4 w c v l X (.slice ad Ts.length cd) Ts wx)
    (exact T4.all (by first | assumption | exact T4.setD (by assumption) _))
    (first | (go_at_call 35; refine (HT.out _ (by assumption)).mono ?_; rintro e w5 ⟨o, us, f, rfl, how, hul, hub, hc5, hg5⟩; obtain ⟨a5, cap5, rfl⟩ := Cd.ow_slice (c := updC) how; (have hs5 : T4 w c v l X (.slice ad Ts.length cd) Ts w5 := T4.grown (by assumption) hg5 hc5); (have HRD := Lib.hid (rd_new how (Nat.le_succ_of_le (T4.base (by assumption))))); (have HUL := Lib.hid hul); (have HUB := Lib.hid hub); (have y0 := hs5.lx.c0); obtain ⟨_, y3, y4⟩ := hs5.lr; clear how hul hub hc5 hg5))
  all_goals
    go_wp2_with fail
    have hd := hs5.setD (.slice ad Ts.length cd)
    have k0 : (w5.setCell ⟨w.heap.size, 0, none⟩ (.slice ad Ts.length cd)).cell? ⟨w.heap.size, 0, none⟩ = some (.slice ad Ts.length cd) := World.cell?_setCell_same _ _ _ y3
    have hR := rd_setN HRD.out (p := ⟨w.heap.size, 0, none⟩) (by have := HCW.out; show w.heap.size < c + 1; omega) (.slice ad Ts.length cd)
    have hD4 := tabsC.mono hd.rd (fun q hlt hq => (⟨by have := HCW.out; have h := hq.1; omega, hlt⟩ : w.heap.size ≤ q ∧ q < _))
    have hR4 := (Cd.sl _ updC).mono hR (fun q hlt hq => (⟨by have := HCW.out; have h := hq.1; omega, hlt⟩ : w.heap.size ≤ q ∧ q < _))
    exact bodyPost_ret (v := .tuple #[.agg #[.slice ad Ts.length cd], .slice a5 us.length cap5]) (by simp [results, Tryz.results11, go_sem, k0]) rfl ⟨_, Ts, _, us, rfl, hD4, HLEN.out, HOK.out, hR4, HUL.out, HUB.out, hd.bl⟩
end Go.Proofs.YtinchhahcheadaaGreat.UpdDraw

namespace Go.Proofs.YtinchhahcheadaaGreat.UpdApp
open Go Go.RowKit Byt Ints IntsLaw Cd Rows2 Tab SlMath TabOpen TabElem SlTable Db TabSpec DbMath DbExact Exact Upd UpdMath
open DbAcc (DbAns)

set_option maxRecDepth 100000 in
set_option maxHeartbeats 1600000 in
theorem impl_applyable (u v : Value) (l : List T3) (nm : ByteArray) (b : Bool) (row : List Int) (S S2 : Nat → Prop) (w : World) (h1 : tabsC.rd w S [u] l) (h2 : rowC.rd w S2 [v] row) (hw : wtS l ≤ 1048577) (hrl : row.length ≤ 1048577) (hs : nm.size ≤ 1048576) :
    Calls Tryz.prog 8 #[.agg #[u], .agg #[.string nm, .bool b, v]] w fun e w' => e = .returned (.bool (appOk l nm b row)) ∧ Below w.heap.size w w' := by
  have HC := Lib.hid (fun w' (hb : Below w.heap.size w w') => impl_apply u v l nm b row S S2 w' (Cd.later h1 hb) (Cd.later h2 hb) hw hrl hs)
  obtain ⟨a1, cap1, rfl, hl1⟩ := Cd.sl_form h1
  obtain ⟨a2, cap2, rfl, hl2⟩ := row_form h2
  clear h1 h2
  generalize appOk l nm b row = ok at *
  go_enter Tryz.func8, Tryz.ntmps8
  go_wp2_with fail
  generalize hW : (w.alloc _).alloc _ = W
  obtain ⟨r0, r1, hz, hb0⟩ := start2g w _ _ hW
  clear hW r0 r1
  refine (HC.out W hb0).mono ?_
  rintro e w1 ⟨u1, f1, rfl, ho, hn, hb1⟩
  obtain ⟨a3, c3, rfl⟩ := Cd.ow_slice (c := tabC) ho
  have HB := Lib.hid (below_then (below_then hb0 hb1) (below_alloc w1 (.cells #[.slice a3 (appL l nm b row).length c3] 26 (0, 0))))
  clear ho hn hb1 hb0 hz
  go_wp2_with fail
  go_ret
  exact ⟨rfl, HB.out⟩
end Go.Proofs.YtinchhahcheadaaGreat.UpdApp

namespace Go.Proofs.YtinchhahcheadaaGreat.UpdOps
open Go Go.RowKit Byt Ints IntsLaw Cd Rows2 Tab TabSpec Exact Upd
open TabImp (str_clone copy_ints slices_equal)

theorem cmpR_zero (a b : List Int) : (cmpR a b == 0) = decide (a = b) := by
  by_cases h : a = b
  · subst h; rw [cmpR_self]; simp
  · rw [decide_eq_false h, beq_eq_false_iff_ne]
    exact fun q => h (cmpR_eq q)
/-- Are they one update? -/
def sameU (n1 n2 : ByteArray) (b1 b2 : Bool) (r1 r2 : List Int) : Bool := decide (n1 = n2 ∧ b1 = b2 ∧ r1 = r2)

set_option maxRecDepth 100000 in
set_option maxHeartbeats 1600000 in
theorem impl_equal (n1 n2 : ByteArray) (b1 b2 : Bool) (u1 u2 : Value) (r1 r2 : List Int) (S1 S2 : Nat → Prop) (w : World) (h1 : rowC.rd w S1 [u1] r1) (h2 : rowC.rd w S2 [u2] r2) :
    Calls Tryz.prog 18 #[.agg #[.string n1, .bool b1, u1], .agg #[.string n2, .bool b2, u2]] w fun e w' => e = .returned (.bool (sameU n1 n2 b1 b2 r1 r2)) ∧ Below w.heap.size w w' := by
  have HC := Lib.hid (fun w' (hb : Below w.heap.size w w') => slices_equal u1 u2 r1 r2 _ _ w' (row_ri (Cd.later h1 hb)).1 (row_ri (Cd.later h2 hb)).1)
  have hb0 := below_then (below_alloc w (.cells #[.string n1, .bool b1, u1] 29 (0, 0))) (below_alloc _ (.cells #[.string n2, .bool b2, u2] 29 (0, 0)))
  have HB := Lib.hid hb0
  clear h1 h2 hb0
  by_cases hn : n1 = n2
  case neg =>
    have HZ := Lib.hid (show sameU n1 n2 b1 b2 r1 r2 = false from decide_eq_false fun q => hn q.1)
    have t1 := str_ne hn
    clear hn
    go_enter Tryz.func18, Tryz.ntmps18
    go_wp2_with fail
    go_ret
    exact ⟨ret_b HZ.out.symm, HB.out⟩
  subst hn
  have t1 : (n1.toList == n1.toList) = true := by simp
  by_cases ha : b1 = b2
  case neg =>
    have HZ := Lib.hid (show sameU n1 n1 b1 b2 r1 r2 = false from decide_eq_false fun q => ha q.2.1)
    have t2 : (b1 == b2) = false := by rw [beq_eq_false_iff_ne]; exact ha
    clear ha
    go_enter Tryz.func18, Tryz.ntmps18
    go_wp2_with fail
    go_ret
    exact ⟨ret_b HZ.out.symm, HB.out⟩
  subst ha
  have t2 : (b1 == b1) = true := by simp
  have HS := Lib.hid (show sameU n1 n1 b1 b1 r1 r2 = decide (r1 = r2) by unfold sameU; simp)
  generalize decide (r1 = r2) = z at *
  go_enter Tryz.func18, Tryz.ntmps18
  go_wp2_with (go_at_call 47; refine (HC.out _ HB.out).mono ?_; rintro e w1 ⟨rfl, m1, rfl⟩)
  go_ret
  exact ⟨ret_b HS.out.symm, ⟨HB.out.os, HB.out.tape, HB.out.output, HB.out.size, HB.out.block⟩⟩

set_option maxRecDepth 100000 in
set_option maxHeartbeats 3200000 in
theorem impl_invert (nm : ByteArray) (b : Bool) (u : Value) (row : List Int) (S : Nat → Prop) (w : World) (hr : rowC.rd w S [u] row) (hrl : row.length ≤ 1048577) (hnm : nm.size ≤ 1048577) :
    Calls Tryz.prog 9 #[.agg #[.string nm, .bool b, u]] w fun e w' => ∃ u' fp, e = .returned (.agg #[.string nm, .bool (!b), u']) ∧ rowC.ow w' w.heap.size [u'] row fp ∧ fp.Nodup ∧ Below w.heap.size w w' := by
  have HR := Lib.hid (fun w' (hb : Below w.heap.size w w') => Cd.later hr hb)
  have HRL := Lib.hid hrl
  have HNM := Lib.hid hnm
  obtain ⟨a, cap, rfl, hlm⟩ := row_form hr
  clear hr hrl hnm
  go_enter Tryz.func9, Tryz.ntmps9
  go_wp2_with fail
  generalize hW : (w.alloc _).alloc _ = W
  obtain ⟨r0, r1, hz, hb0⟩ := start2g w _ _ hW
  clear hW
  have HT := Lib.hid (Loc3.of r0)
  have HX := Lib.hid (Loc3.of r1)
  have HB := Lib.hid hb0
  have HZ := Lib.hid hz
  have HCL := Lib.hid (str_clone nm W.drew HNM.out)
  have HMAP := Lib.hid (fun w' (hb : Below W.heap.size W w') => copy_ints (.slice a row.length cap) row S w' (Cd.later (HR.out W HB.out) hb) HRL.out)
  clear r0 r1 hb0 hz
  have y0 := HT.out.c0
  have y1 := HT.out.c1
  have y2 := HT.out.c2
  go_region_law (first | (go_simp; go_at_call 29; refine HCL.out.mono ?_; rintro e wq ⟨rfl, hbq⟩; (have hq := undrew hbq); (have HQ := Lib.hid hq); (have hqz := hq.size); (have k0 := (HT.out.later hq).c0); (have k1 := (HT.out.later hq).c1); (have k2 := (HT.out.later hq).c2); clear hbq hq) | (go_simp; go_at_call 30; refine (HMAP.out wq HQ.out).mono ?_; rintro e wp ⟨g, cc, rfl, how, hbp⟩; (have HP := Lib.hid (below_then HQ.out hbp)); (have hpz := hbp.size); (have HOW := Lib.hid how); (have j0 := (HT.out.later HP.out).c0); (have j1 := (HT.out.later HP.out).c1); (have j2 := (HT.out.later HP.out).c2); (have i0 := (HX.out.later HP.out).c0); (have i1 := (HX.out.later HP.out).c1); (have i2 := (HX.out.later HP.out).c2); (have f0 := (HX.out.later HP.out).f0); (have f1 := (HX.out.later HP.out).f1); (have f2 := (HX.out.later HP.out).f2); clear hbp how))
  all_goals
    obtain ⟨k0, k1, k2⟩ := set3 (w := wp) (k := w.heap.size + 1) (x := .string nm) (y := .bool (!b)) (z := .slice (some ⟨g, 0, none⟩) row.length cc) i0 i1 i2
    clear y0 y1 y2 j0 j1 j2 i0 i1 i2 f0 f1 f2
    go_wp2_with fail
    refine bodyPost_ret (v := .agg #[.string nm, .bool (!b), .slice (some ⟨g, 0, none⟩) row.length cc]) (by simp [results, Tryz.results9, go_sem, k0, k1, k2]) rfl ⟨_, [g], rfl, ?_, by simp, ?_⟩
    · have hn : w.heap.size + 1 ∉ [g] := fun q => by
        have h1 := (rowC.ow_lt HOW.out _ q).1
        have h2 := HZ.out
        have h3 := HQ.out.size
        omega
      exact ow_setCell (ow_setCell (ow_setCell (rowC.ow_base HOW.out (by have := HZ.out; have := HQ.out.size; omega)) hn _) hn _) hn _
    · have hb := below_then HB.out HP.out
      exact ((hb.setCell (by show _ ≤ w.heap.size + 1; omega) _).setCell (by show _ ≤ w.heap.size + 1; omega) _).setCell (by show _ ≤ w.heap.size + 1; omega) _

end Go.Proofs.YtinchhahcheadaaGreat.UpdOps

namespace Go.Proofs.YtinchhahcheadaaGreat.UpdAll
open Go Go.RowKit Byt Ints IntsLaw Cd Rows2 Tab SlMath TabOpen TabElem SlTable Db TabSpec DbMath DbExact Exact Upd UpdMath UpdFmt UpdApp
open DbAcc (DbAns)

theorem nans_alloc {w w' : World} {l : List T3} {n : Nat} {e : Ending} (h : NAns l n w e w') (o : Obj) : NAns l n w e (w'.alloc o) := by
  obtain ⟨u, fp, h1, h2, h3, h4⟩ := h
  exact ⟨u, fp, h1, Cd.ow_later h2 (below_alloc _ _), h3, below_then h4 (below_alloc _ _)⟩
set_option maxRecDepth 100000 in
set_option maxHeartbeats 6400000 in
theorem impl_applyall (u v : Value) (l : List T3) (us : List U3) (S S2 : Nat → Prop) (w : World) (h1 : tabsC.rd w S [u] l) (h2 : updsC.rd w S2 [v] us) (hw : wtS l ≤ 1048577) (hu : SlUpdate.wtS us ≤ 1048577) :
    Calls Tryz.prog 12 #[.agg #[u], v] w fun e w' => NAns (allL l us).1 (allL l us).2 w e w' := by
  have HDC := Lib.hid (fun w' (hb : Below w.heap.size w w') => DbImp.impl_dbcopy u l S w' (Cd.later h1 hb) hw)
  have HU := Lib.hid (fun w' (hb : Below w.heap.size w w') => Cd.later h2 hb)
  have HW := Lib.hid hw
  have HUW := Lib.hid hu
  obtain ⟨a1, cap1, rfl, hl1⟩ := Cd.sl_form h1
  obtain ⟨a2, cap2, rfl, hl2⟩ := Cd.sl_form h2
  clear h1 h2 hw hu
  obtain ⟨R, N, hRN⟩ : ∃ R N, allL l us = (R, N) := ⟨_, _, rfl⟩
  rw [hRN]
  have HRN := Lib.hid hRN
  clear hRN
  go_enter Tryz.func12, Tryz.ntmps12
  go_wp2_with fail
  generalize hW : (w.alloc _).alloc _ = W
  obtain ⟨r0, r1, hz, hb0⟩ := start2g w _ _ hW
  have HC1 := Lib.hid (Loc1.of r1)
  have HB0 := Lib.hid hb0
  have HZ := Lib.hid hz
  clear hW r0 r1 hz hb0
  refine (HDC.out W HB0.out).mono ?_
  rintro e w1 ⟨a3, c3, f3, rfl, ho3, hn3, hb3⟩
  have HS := Lib.hid (show AllS w w1.heap.size l a3 c3 f3 (w1.alloc (.cells #[.slice a3 l.length c3] 26 (0, 0))) from
    ⟨Loc1.of (row_alloc _ _), (HC1.out.later hb3).later (below_alloc _ _), Cd.ow_later ((Cd.sl _ tabC).ow_base ho3 (by have := HZ.out; omega)) (below_alloc _ _), hn3, by have := HZ.out; have := hb3.size; omega, below_then (below_then HB0.out hb3) (below_alloc _ _), HW.out⟩)
  clear ho3 hn3 hb3 HC1
  go_wp2_with fail
  generalize w1.alloc _ = W2 at *
  generalize w1.heap.size = X at *
  go_loopw [15] (fun i wr => ∃ (k : Nat) (cur : List T3) (a : Option Addr) (c : Nat) (fp : List Nat) (m : Nat), k ≤ us.length ∧ i = .int .i64 k ∧ allL cur (us.drop k) = (R, m) ∧ k + m = N ∧ AllS w X cur a c fp wr) (fun i _ => us.length - (intOf i).toNat)
  case atStart => exact ⟨0, l, a3, c3, f3, N, Nat.zero_le _, rfl, HRN.out, Nat.zero_add _, HS.out⟩
  case round =>
    obtain ⟨k, cur, a, c, fp, m, hk, rfl, hall, hm, hst⟩ := hrel
    have HST := Lib.hid hst
    have HALL := Lib.hid hall
    have HM := Lib.hid hm
    clear hst hall hm
    by_cases hlt : k < us.length
    · obtain ⟨b, off, cap', xs, e1, _, hbB, hat, hu⟩ := Cd.sl_at (HU.out wr HST.out.b) hlt
      injection e1 with e1 e2 e3
      subst e1 e3
      obtain ⟨x0, x1, x2, rfl⟩ := SlUpdate.len_list (updC.len hu)
      have c0 := hat 0 (by simp)
      have c1 := hat 1 (by simp)
      have c2 := hat 2 (by simp)
      simp only [List.getElem_cons_zero, List.getElem_cons_succ, Nat.add_zero, show updC.n = 3 from rfl] at c0 c1 c2
      obtain ⟨uu, exs, hns, hrow⟩ := upd_cells hu
      simp only [List.cons.injEq, and_true] at exs
      obtain ⟨rfl, rfl, rfl⟩ := exs
      obtain ⟨a6, c6, rfl, _⟩ := row_form hrow
      have HAP := Lib.hid (fun w' (hb : LaterU wr w') => impl_apply _ _ cur us[k].1 us[k].2.1 us[k].2.2 _ _ w' (tabsC.ow_rd (Cd.ow_later HST.out.ow hb)) (Cd.later hrow hb) HST.out.wt (upd_wt hlt HUW.out).1 (upd_wt hlt HUW.out).2)
      have HGO := Lib.hid (allL_go (l := cur) hlt)
      have HSTOP := Lib.hid (allL_stop (l := cur) hlt)
      have HWN := Lib.hid (app_wt (nm := us[k].1) (b := us[k].2.1) (row := us[k].2.2) HST.out.wt)
      have p1 : (0 : Int) ≤ (k : Int) := by omega
      have p2 : (k : Int) < (us.length : Int) := by omega
      have q0 := HST.out.lx.c0
      have q1 := HST.out.lx.lt
      clear hu hat hrow hns hbB
      generalize us[k].1 = nm at *
      generalize us[k].2.1 = bb at *
      generalize us[k].2.2 = row at *
      go_wp2_with fail
      refine (HAP.out _ (below_alloc _ _)).mono ?_
      rintro e w5 ⟨u5, f5, rfl, how, hnd, hb5⟩
      obtain ⟨a5, c5, rfl⟩ := Cd.ow_slice (c := tabC) how
      have hbw := below_then (below_alloc wr _) hb5
      have HS5 := Lib.hid (HST.out.later hbw)
      have HNX := Lib.hid (HST.out.next ((Cd.sl _ tabC).ow_base how (by rw [size_alloc]; omega)) hnd hbw HWN.out)
      have z0 := HS5.out.lx.c0
      have z1 := HS5.out.lx.f0
      have z2 := HS5.out.lr.c0
      have z3 := HS5.out.lr.f0
      have z4 := HS5.out.lx.lt
      have z5 := HS5.out.lr.lt
      clear how hnd hb5 hbw q0 q1 HAP
      cases hk : appOk cur nm bb row
      · have HE := Lib.hid (HSTOP.out hk)
        have hRm := HALL.out
        rw [HE.out] at hRm
        injection hRm with hR hm0
        have HR1 := Lib.hid hR
        have HM1 := Lib.hid (show k = N by have := HM.out; omega)
        clear hR hm0 hk
        have M0 := Lib.hid (cell_alloc_some (World.cell?_setCell_same _ _ (.slice a cur.length c) z2) (.cells #[.slice a5 (appL cur nm bb row).length c5] 26 (0, 0)))
        go_wp2_with fail
        have k0 := M0.out
        refine bodyPost_ret (v := .tuple #[.agg #[.slice a cur.length c], .int .i64 k]) (by simp [results, Tryz.results12, go_sem, k0]) rfl (nans_alloc (HS5.out.done HR1.out HM1.out) _)
      · have HE := Lib.hid (HGO.out hk)
        have hRm := HALL.out
        rw [HE.out] at hRm
        injection hRm with hR hm0
        have HR1 := Lib.hid (show allL (appL cur nm bb row) (us.drop (k + 1)) = (R, (allL (appL cur nm bb row) (us.drop (k + 1))).2) by rw [← hR])
        have HM1 := Lib.hid (show (k + 1) + (allL (appL cur nm bb row) (us.drop (k + 1))).2 = N by have := HM.out; omega)
        clear hR hm0 hk
        go_wp2_with fail
        go_roundw
        case rel => exact ⟨k + 1, _, _, _, _, _, by omega, by go_num, HR1.out, HM1.out, HNX.out.later (below_alloc _ _)⟩
        case measure => simp [intOf]; omega
    · have ek : k = us.length := by omega
      subst ek
      have hRm := HALL.out
      rw [allL_end] at hRm
      injection hRm with hR hm0
      have HR1 := Lib.hid hR
      have HM1 := Lib.hid (show us.length = N by have := HM.out; omega)
      have z0 := HST.out.lx.c0
      have z2 := HST.out.lr.c0
      have z3 := HST.out.lr.f0
      clear hR hm0
      go_wp2_with fail
      have k0 := World.cell?_setCell_same _ _ (.slice a cur.length c) z2
      refine bodyPost_ret (v := .tuple #[.agg #[.slice a cur.length c], .int .i64 us.length]) (by simp [results, Tryz.results12, go_sem, k0]) rfl (HST.out.done HR1.out HM1.out)
end Go.Proofs.YtinchhahcheadaaGreat.UpdAll
