/- Tables: inserting: the program's function. -/
import Derived.Test.YtdjgaffiildijabGreatDoorTabImp7
import Derived.Lib.AppendZerosOnto
import Derived.Laws.CopyOwn
import Derived.Deep.RegionLaw
import Derived.Test.YtdjgaffiildijabGreatDoorTabMath
import Derived.Test.YtdjgaffiildijabGreatDoorTabIns
namespace Go.Proofs.YtdjgaffiildijabGreatDoor.TabImp
open Go Go.RowKit Byt Ints IntsLaw Cd Rows2 Tab TabSpec Exact

def InsAns (n : Nat) (rows : List (List Int)) (row : List Int) (i : Nat) (fp f : List Nat) (base : Nat) (w : World) (e : Ending) (w' : World) : Prop :=
  ∃ g' c' fp', e = .returned (.slice (some ⟨g', 0, none⟩) (n + 1) c') ∧ rowsC.ow w' base [.slice (some ⟨g', 0, none⟩) (n + 1) c'] (Cd.ins rows i row) fp' ∧ fp'.Nodup ∧ (∀ x ∈ fp', x ∈ fp ∨ x ∈ f ∨ w.heap.size ≤ x) ∧ Cd.Touch fp w w'

set_option maxRecDepth 100000 in
theorem insert_end (g n : Nat) (rows : List (List Int)) (fp : List Nat) (base : Nat) (w : World) (how : rowsC.ow w base [.slice (some ⟨g, 0, none⟩) n n] rows fp) (hnd : fp.Nodup) (hnl : n = rows.length) (hn8 : n ≤ 8) (b : Nat) (u : Value) (row : List Int) (f : List Nat) (hu : w.cell? ⟨b, 0, none⟩ = some u) (hrow : rowC.ow w base [u] row f) (hfd : f.Nodup) (hdis : ∀ x ∈ f, x ∉ fp) (hbase : base ≤ w.heap.size) :
    Calls Tryz.prog 49 #[.slice (some ⟨g, 0, none⟩) n n, .int .i64 n, .slice (some ⟨b, 0, none⟩) 1 1] w fun e w' => InsAns n rows row n fp f base w e w' := by
  have HOW := Lib.hid how
  have HND := Lib.hid hnd
  have HU := Lib.hid hu
  have HROW := Lib.hid hrow
  have HFD := Lib.hid hfd
  have HDIS := Lib.hid hdis
  have HB := Lib.hid hbase
  have HNL := Lib.hid hnl
  clear how hnd hu hrow hfd hdis hbase hnl
  go_enter Tryz.func49, Tryz.ntmps49
  go_wp2_with (at_builtin; refine Cd.wpList_appendE (c := rowC) rfl rfl (.tmp 23) (.tmp 24) 32 rfl base 35 (.slice none 0 0) 24 Tryz.underlying32 info_ints rfl (by decide) (.slice (some ⟨g, 0, none⟩) n n) rows fp rfl HOW.out HND.out b u rfl HU.out row f HROW.out HFD.out HDIS.out (by have := HNL.out; omega) HB.out ?_)
  intro g' c' w' fp' h1 h2 h3 h4
  rw [← HNL.out] at h1 ⊢
  go_wp2_with fail
  go_ret
  have e1 : Cd.ins rows n row = rows ++ [row] := by
    unfold Cd.ins
    rw [List.take_of_length_le (by have := HNL.out; omega), List.drop_eq_nil_of_le (by have := HNL.out; omega)]
  exact ⟨g', c', fp', rfl, by rw [e1]; exact h1, h2, h3, h4⟩
theorem add_at (b o j : Nat) : (⟨b, o, none⟩ : Addr).add j = ⟨b, o + j, none⟩ := by unfold Addr.add; split <;> simp_all
theorem splice2 {us zs : List Value} {u : Value} {i n G : Nat} (hl : us.length = n) (hi : i < n) (hz : zs.length = G - i) (hG : n + 1 ≤ G) :
    (splice (splice (us.take i ++ zs) i [u]) (i + 1) (us.drop i)).length = G ∧ (splice (splice (us.take i ++ zs) i [u]) (i + 1) (us.drop i)).take (n + 1) = Cd.ins us i u := by
  have h1 : (us.take i).length = i := by rw [List.length_take]; omega
  have h2 : (us.drop i).length = n - i := by rw [List.length_drop]; omega
  have e1 : splice (us.take i ++ zs) i [u] = us.take i ++ ([u] ++ zs.drop 1) := by
    unfold splice
    rw [List.take_left' h1, List.length_singleton, List.drop_append, List.drop_eq_nil_of_le (show (us.take i).length ≤ i + 1 by omega), h1]
    simp
  have e2 : splice (us.take i ++ ([u] ++ zs.drop 1)) (i + 1) (us.drop i) = us.take i ++ [u] ++ (us.drop i ++ (zs.drop 1).drop (n - i)) := by
    rw [show us.take i ++ ([u] ++ zs.drop 1) = (us.take i ++ [u]) ++ zs.drop 1 from (List.append_assoc _ _ _).symm]
    unfold splice
    rw [List.take_left' (show (us.take i ++ [u]).length = i + 1 by rw [List.length_append, h1]; rfl), h2, List.drop_append]
    rw [List.drop_eq_nil_of_le (show (us.take i ++ [u]).length ≤ i + 1 + (n - i) by rw [List.length_append, h1, List.length_singleton]; omega)]
    rw [show i + 1 + (n - i) - (us.take i ++ [u]).length = n - i by rw [List.length_append, h1, List.length_singleton]; omega]
    rfl
  rw [e1, e2]
  constructor
  · simp only [List.length_append, List.length_drop, List.length_singleton, h1, h2, hz]
    omega
  · rw [← List.append_assoc, List.take_left' (by simp only [List.length_append, List.length_singleton, h1, h2]; omega)]
    unfold Cd.ins
    rw [List.append_assoc]
    rfl

set_option maxRecDepth 100000 in
set_option maxHeartbeats 3200000 in
theorem insert_grow (g n i : Nat) (rows : List (List Int)) (fp : List Nat) (base : Nat) (w : World) (how : rowsC.ow w base [.slice (some ⟨g, 0, none⟩) n n] rows fp) (hnd : fp.Nodup) (hnl : n = rows.length) (hi : i < n) (hn8 : n ≤ 8) (b : Nat) (u : Value) (row : List Int) (f : List Nat) (hu : w.cell? ⟨b, 0, none⟩ = some u) (hrow : rowC.ow w base [u] row f) (hfd : f.Nodup) (hdis : ∀ x ∈ f, x ∉ fp) (hbase : base ≤ w.heap.size) :
    Calls Tryz.prog 49 #[.slice (some ⟨g, 0, none⟩) n n, .int .i64 i, .slice (some ⟨b, 0, none⟩) 1 1] w fun e w' => InsAns n rows row i fp f base w e w' := by
  obtain ⟨i0, hi0, hz0, hz1, hz2⟩ := info_parts info_ints
  obtain ⟨cur, xss, fps, hg, hcs, hnl2, hnc, hcm, hb, ht, hE, hfp⟩ := Cd.ow_bare (c := rowC) rfl how
  clear hnl2
  have h1 := hE.one
  have hlen : xss.flatten.length = n := by rw [hE.flatten_len, hnl]; exact Nat.mul_one _
  have hu1 : u.oneCell' = true := rowC.one (rowC.ow_rd hrow) u (List.mem_singleton.2 rfl)
  have hcell : ∀ j v, xss.flatten[j]? = some v → w.cell? ⟨g, j, none⟩ = some v := fun j v hj => by
    have hjl : j < n := by rw [← hlen]; exact (List.getElem?_eq_some_iff.1 hj).1
    have : (cur.toList.take n)[j]? = xss.flatten[j]? := by rw [ht]
    rw [List.getElem?_take, if_pos hjl, Array.getElem?_toList, hj] at this
    simp [World.cell?, hg, this]
  have hgw : g < w.heap.size := (Array.getElem?_eq_some_iff.1 hg).1
  have hbw : b < w.heap.size := World.block_lt_of_cell? w _ hu
  obtain ⟨us, hus⟩ : ∃ us, us = xss.flatten := ⟨_, rfl⟩
  rw [← hus] at hcell hlen ht h1
  -- the append of a make
  obtain ⟨G, hG⟩ : ∃ G, G = grownCap w (n + 1) n 35 := ⟨_, rfl⟩
  obtain ⟨zs, hzs⟩ : ∃ zs : List Value, zs = (Builtin.zeroCells (Value.slice none 0 0).cells (n + 1 - i)).toList ++ (Builtin.zeroCells (Value.slice none 0 0).cells (G - (n + 1))).toList := ⟨_, rfl⟩
  have hGn : n + 1 ≤ G := by rw [hG]; exact grownCap_ge w _ _ _
  have hGm : G ≤ maxLen := by rw [hG]; exact grownCap_le_maxLen w _ _ _ (by unfold maxLen; omega)
  have hzl : zs.length = G - i := by
    rw [hzs]
    simp [Builtin.zeroCells, Value.cells]
    omega
  have hrun : ∀ ty, (Builtin.append_ #[32, 3] ty #[.slice (some ⟨g, 0, none⟩) i n, .int .i64 ((n : Int) + 1 - (i : Int))]).run Tryz.prog w = .ok (.slice (some ⟨w.heap.size, 0, none⟩) (n + 1) G) (w.drew.alloc (.cells (us.take i ++ zs).toArray 35 (0, 0))) := fun ty => by
    have hold : (Builtin.firstCells i0.size i (.slice (some ⟨g, 0, none⟩) i n)).run Tryz.prog w.drew = .ok (us.take i).toArray w.drew := by
      rw [hz1]
      exact run_firstCells_some w.drew 1 i ⟨g, 0, none⟩ i n (us.take i) (by rw [List.length_take]; omega) (fun j v hj => by
        rw [add_at, Nat.zero_add]
        rw [List.getElem?_take] at hj
        split at hj
        · exact hcell j v hj
        · cases hj)
    have h := Lib.run_append_grow_zeros w 32 3 ty 35 i0 _ .i64 .i64 Tryz.underlying32 Tryz.underlying3 hi0 hz0 (some ⟨g, 0, none⟩) i n (us.take i) hold (n + 1 - i) (by omega) (by rw [hz1]; omega) (by omega) (by omega) (by rw [hz2]; omega) (by rw [show i + (n + 1 - i) = n + 1 by omega, hz2]; exact growslice_fits (by omega) (by omega))
    rw [show i + (n + 1 - i) = n + 1 by omega, ← hG] at h
    rw [show ((n + 1 - i : Nat) : Int) = (n : Int) + 1 - (i : Int) by omega] at h
    rw [h, hzs]
    congr 3
    simp
  obtain ⟨sl1, sl2⟩ := splice2 (u := u) hlen hi hzl hGn
  have HRUN := Lib.hid hrun
  have HUS := Lib.hid hus
  have HLEN := Lib.hid hlen
  have HZL := Lib.hid hzl
  have HGN := Lib.hid hGn
  have HGM := Lib.hid hGm
  have HCELL := Lib.hid hcell
  have HU := Lib.hid hu
  have HROW := Lib.hid hrow
  have HFD := Lib.hid hfd
  have HDIS := Lib.hid hdis
  have HB := Lib.hid hbase
  have HNL := Lib.hid hnl
  have HND := Lib.hid hnd
  have HE := Lib.hid hE
  have HFP := Lib.hid hfp
  have HH := Lib.hid (And.intro hgw hbw)
  have H1 := Lib.hid h1
  have HU1 := Lib.hid hu1
  have HHB := Lib.hid hb
  have HS1 := Lib.hid sl1
  have HS2 := Lib.hid sl2
  have HSZ := Lib.hid (show (Tryz.prog.info? 35).map (·.size) = some 1 by rw [hi0]; simp [hz1])
  have HOWK := Lib.hid how
  clear hrun hus hlen hzl hGn hGm hcell hu hrow hfd hdis hbase hnl hnd hE hfp hgw hbw h1 hu1 hb sl1 sl2 hG hzs hi0 hz0 hz1 hz2 hg hcs hnc hcm ht how
  have p1 : ¬ ((i : Int) = (n : Int)) := by omega
  have p2 : (n : Int) < (n : Int) + 1 := by omega
  have p3 : ¬ (n = i) := by omega
  have p4 : ¬ (G = i) := by have := HGN.out; omega
  have p5 : ¬ (G = i + 1) := by have := HGN.out; omega
  have p6 : i ≤ n := by omega
  have p7 : i ≤ n + 1 := by omega
  have p8 : n + 1 ≤ G := HGN.out
  have p9 : IntKind.i64.wrap ((i : Int) + 1) = (i : Int) + 1 := by rw [IntKind.wrap_i64]; omega
  have p10 : (0 : Int) ≤ (i : Int) + 1 := by omega
  have p11 : ((i : Int) + 1).toNat = i + 1 := by omega
  have p12 : G ≤ 9223372036854775807 := by have := HGM.out; unfold maxLen at this; omega
  generalize hW1 : w.drew.alloc (.cells (us.take i ++ zs).toArray 35 (0, 0)) = W1 at HRUN
  have hg1 : W1.heap[w.heap.size]? = some (.cells (us.take i ++ zs).toArray 35 (0, 0)) := by rw [← hW1]; exact heap_alloc_new w.drew _
  have hb1 : Below w.heap.size w W1 := by
    have := below_alloc w.drew (.cells (us.take i ++ zs).toArray 35 (0, 0))
    rw [hW1] at this
    exact ⟨this.os, this.tape, this.output, this.size, this.block⟩
  have HG1 := Lib.hid hg1
  have HB1 := Lib.hid hb1
  clear hW1 hg1 hb1
  have ql : (us.take i ++ zs).length = G := by rw [List.length_append, List.length_take, HZL.out, HLEN.out]; omega
  have hn1 : [u].length = Nat.min 1 (n + 1 - i) := (Nat.min_eq_left (show 1 ≤ n + 1 - i by omega)).symm
  have hfit1 : i + [u].length ≤ (us.take i ++ zs).length := by rw [ql]; simp; omega
  have hone1 : ∀ v ∈ [u], v.oneCell' = true := fun v hv => by rw [List.mem_singleton.1 hv]; exact HU1.out
  have hpos1 : 0 < [u].length → (some ⟨w.heap.size, i, none⟩ : Option Addr) = some ⟨w.heap.size, i, none⟩ ∧ ∃ ad, (some ⟨b, 0, none⟩ : Option Addr) = some ad ∧ ∀ j v, [u][j]? = some v → W1.cell? (ad.add j) = some v := fun _ => ⟨rfl, ⟨b, 0, none⟩, rfl, fun j v hj => by
    match j, hj with
    | 0, hj =>
      rw [add_at, HB1.out.cell (p := ⟨b, 0, none⟩) HH.out.2, HU.out]
      simpa using hj⟩
  have hdl : (us.drop i).length = n - i := by rw [List.length_drop, HLEN.out]
  have hn2 : (us.drop i).length = Nat.min (n - i) (n + 1 - (i + 1)) := by rw [hdl]; exact (Nat.min_eq_left (by omega)).symm
  have hfit2 : i + 1 + (us.drop i).length ≤ (splice (us.take i ++ zs) i [u]).length := by rw [length_splice _ _ _ hfit1, ql, hdl]; omega
  have hone2 : ∀ v ∈ us.drop i, v.oneCell' = true := fun v hv => H1.out v (List.mem_of_mem_drop hv)
  have hpos2 : ∀ W : World, Below w.heap.size w W → 0 < (us.drop i).length → (some ⟨w.heap.size, i + 1, none⟩ : Option Addr) = some ⟨w.heap.size, i + 1, none⟩ ∧ ∃ ad, (some ⟨g, i, none⟩ : Option Addr) = some ad ∧ ∀ j v, (us.drop i)[j]? = some v → W.cell? (ad.add j) = some v := fun W hW _ => ⟨rfl, ⟨g, i, none⟩, rfl, fun j v hj => by
    rw [add_at, hW.cell (p := ⟨g, i + j, none⟩) HH.out.1]
    rw [List.getElem?_drop] at hj
    exact HCELL.out _ _ hj⟩
  have HN1 := Lib.hid hn1
  have HN2 := Lib.hid hn2
  have HF1 := Lib.hid hfit1
  have HF2 := Lib.hid hfit2
  have HO1 := Lib.hid hone1
  have HO2 := Lib.hid hone2
  have HP1 := Lib.hid hpos1
  have HP2 := Lib.hid hpos2
  clear ql hn1 hfit1 hone1 hpos1 hdl hn2 hfit2 hone2 hpos2
  go_enter Tryz.func49, Tryz.ntmps49
  go_wp2_with (first
    | (at_builtin; refine Lib.wpList_append_run _ rfl _ _ _ _ rfl _ _ rfl rfl _ _ (HRUN.out _) ?_)
    | (with_reducible refine wpList_copy_splice rfl (.tmp 43) (.tmp 44) 32 32 rfl 35 Tryz.underlying32 HSZ.out (some ⟨w.heap.size, i, none⟩) (some ⟨b, 0, none⟩) (n + 1 - i) (G - i) 1 1 rfl rfl w.heap.size i (us.take i ++ zs) 35 HG1.out [u] HN1.out HP1.out HF1.out HO1.out w.heap.size w HB1.out (Nat.le_refl _) ?_))
  intro w2 hg2 hb2
  have HG2 := Lib.hid (show w2.drew.heap[w.heap.size]? = _ from hg2.out)
  have HB2 := Lib.hid (show Below w.heap.size w w2.drew from ⟨hb2.os, hb2.tape, hb2.output, hb2.size, hb2.block⟩)
  clear hg2 hb2
  go_wp2_with fail
  go_region_law (refine step_copy_splice rfl (.tmp 50) (.tmp 53) 32 32 rfl 35 Tryz.underlying32 HSZ.out (some ⟨w.heap.size, i + 1, none⟩) (some ⟨g, i, none⟩) (n + 1 - (i + 1)) (G - (i + 1)) (n - i) (n - i) (by simp [Act.eval, Act.put]) (by simp [Act.eval, Act.put]) w.heap.size (i + 1) (splice (us.take i ++ zs) i [u]) 35 HG2.out (us.drop i) HN2.out (fun h => ⟨rfl, (HP2.out w2.drew HB2.out h).2⟩) HF2.out HO2.out w.heap.size w HB2.out (Nat.le_refl _) ?_; intro w4 hg4 hb4)
  all_goals
    go_wp2_with fail
    go_ret
    have hfl : ∀ x ∈ fps.flatten, x < w.heap.size := fun x hx => (rowsC.ow_lt HOWK.out x (by rw [HFP.out]; exact List.mem_cons_of_mem _ hx)).2
    have hnn : (rowsC.ow w base [.slice (some ⟨g, 0, none⟩) n n] rows fp) := HOWK.out
    have hfn : fps.flatten.Nodup := (List.nodup_cons.1 (by rw [← HFP.out]; exact HND.out)).2
    have hdd : ∀ x ∈ f, x ∉ fps.flatten := fun x hx q => HDIS.out x hx (by rw [HFP.out]; exact List.mem_cons_of_mem _ q)
    refine ⟨w.heap.size, G, w.heap.size :: (Cd.ins fps i f).flatten, rfl, Cd.ow_bared (c := rowC) rfl hg4.out ?_ ?_ HGN.out HGM.out HB.out ?_ (Cd.Each.ins (c := rowC) (w := w4) (HE.out.imp fun x a f' hf' hq => rowC.ow_keep hq fun y hy => hb4.block y (rowC.ow_lt hq y hy).2) (rowC.ow_keep HROW.out fun y hy => hb4.block y (rowC.ow_lt HROW.out y hy).2) i), ?_, ?_, Cd.Touch.of_below hb4⟩
    · rw [List.size_toArray]; exact HS1.out
    · rw [Cd.ins_length, ← HNL.out]
    · rw [show ((splice (splice (us.take i ++ zs) i [u]) (i + 1) (us.drop i)).toArray).toList = _ from rfl, HS2.out, HUS.out, Cd.flatten_ins_one (c := rowC) rfl HE.out i]
    · rw [List.nodup_cons]
      refine ⟨fun q => ?_, Cd.nodup_ins hfn HFD.out hdd i⟩
      rcases Cd.mem_ins q with q | q
      · have := hfl _ q; omega
      · have := (rowC.ow_lt HROW.out _ q).2; omega
    · intro x hx
      rcases List.mem_cons.1 hx with rfl | q
      · exact .inr (.inr (Nat.le_refl _))
      · rcases Cd.mem_ins q with q | q
        · exact .inl (by rw [HFP.out]; exact List.mem_cons_of_mem _ q)
        · exact .inr (.inl q)
theorem insert_rows (g n i : Nat) (rows : List (List Int)) (fp : List Nat) (base : Nat) (w : World) (how : rowsC.ow w base [.slice (some ⟨g, 0, none⟩) n n] rows fp) (hnd : fp.Nodup) (hnl : n = rows.length) (hi : i ≤ n) (hn8 : n ≤ 8) (b : Nat) (u : Value) (row : List Int) (f : List Nat) (hu : w.cell? ⟨b, 0, none⟩ = some u) (hrow : rowC.ow w base [u] row f) (hfd : f.Nodup) (hdis : ∀ x ∈ f, x ∉ fp) (hbase : base ≤ w.heap.size) :
    Calls Tryz.prog 49 #[.slice (some ⟨g, 0, none⟩) n n, .int .i64 i, .slice (some ⟨b, 0, none⟩) 1 1] w fun e w' => InsAns n rows row i fp f base w e w' := by
  by_cases h : i = n
  · subst h
    exact insert_end g i rows fp base w how hnd hnl hn8 b u row f hu hrow hfd hdis hbase
  · exact insert_grow g n i rows fp base w how hnd hnl (by omega) hn8 b u row f hu hrow hfd hdis hbase
end Go.Proofs.YtdjgaffiildijabGreatDoor.TabImp

namespace Go.Proofs.YtdjgaffiildijabGreatDoor.TabImp
open Go Go.RowKit Byt Ints IntsLaw Cd Rows2 Tab TabSpec Exact

set_option maxRecDepth 100000 in
set_option maxHeartbeats 3200000 in
theorem impl_insert (nm : ByteArray) (ar : Int) (u v : Value) (rows : List (List Int)) (row : List Int) (S S2 : Nat → Prop) (w : World) (hr : rowsC.rd w S [u] rows) (hv : rowC.rd w S2 [v] row) (hrw : rowsWt rows ≤ 1048577) (hnm : nm.size ≤ 1048577) (hrl : row.length ≤ 1048577) :
    Calls Tryz.prog 13 #[.agg #[.string nm, .int .i64 ar, u], v] w fun e w' => ∃ u' fp, e = .returned (.tuple #[.agg #[.string nm, .int .i64 ar, u'], .bool (insOk nm ar rows row)]) ∧ rowsC.ow w' w.heap.size [u'] (insR nm ar rows row) fp ∧ fp.Nodup ∧ Below w.heap.size w w' := by
  have HR := Lib.hid (fun w' (hb : Below w.heap.size w w') => Cd.later hr hb)
  have HV := Lib.hid (fun w' (hb : Below w.heap.size w w') => Cd.later hv hb)
  have HWT := Lib.hid hrw
  have HNM := Lib.hid hnm
  have HRL := Lib.hid hrl
  obtain ⟨a, cap, rfl, hlm⟩ := rows_form hr
  obtain ⟨av, cv, rfl, _⟩ := (row_ri hv).1
  clear hr hv hrw hnm hrl
  go_enter Tryz.func13, Tryz.ntmps13
  go_wp2_with fail
  generalize hW : (w.alloc _).alloc _ = W
  obtain ⟨r0, r1, hz, hb0⟩ := start2g w _ _ hW
  clear hW
  refine (copy_table nm ar _ rows S W (HR.out W hb0) HWT.out HNM.out).mono ?_
  rintro e W1 ⟨gx, fp, rfl, how, hnd, hb1⟩
  have l0 := (Loc3.of r0).later hb1
  have l1 := (Loc3.of r1).later hb1
  have hs1 := hb1.size
  have HFR := Lib.hid (show Fr w W1.heap.size nm ar (.slice a rows.length cap) (.slice (some ⟨gx, 0, none⟩) rows.length rows.length) _ _ _ rows fp (W1.alloc (.cells #[.string nm, .int .i64 ar, .slice (some ⟨gx, 0, none⟩) rows.length rows.length] 34 (0, 0))) from
    ⟨below_then (below_then hb0 hb1) (below_alloc _ _), l0.later (below_alloc _ _), l1.later (below_alloc _ _), Loc3.of (row_alloc _ _), Cd.ow_later (rowsC.ow_base how (by omega)) (below_alloc _ _), hnd, fun q => by have := (rowsC.ow_lt how _ q).2; omega, by omega⟩)
  obtain ⟨d0, d1, d2, _, _, _⟩ := l0
  have hH : w.heap.size < W1.heap.size := by omega
  have HN := Lib.hid (And.intro hH (show w.heap.size + 1 < W1.heap.size by omega))
  clear r0 r1 hz hb0 hb1 how hnd l1 hs1
  go_wp2_with fail
  generalize hW2 : W1.alloc _ = W2 at *
  generalize W1.heap.size = X at *
  clear hW2 d0 d1 d2 hH
  have HFD := Lib.hid (find_row nm ar _ _ rows row S S2 W2 (HR.out W2 HFR.out.b) (HV.out W2 HFR.out.b))
  refine HFD.out.mono ?_
  rintro e W3 ⟨i, rfl, hfd, hil, hb3⟩
  have HF := Lib.hid (HFR.out.later hb3)
  have HFP := Lib.hid hfd
  have HIL := Lib.hid hil
  clear hb3 hfd hil
  by_cases hin : hasR nm ar rows row = true
  case pos =>
    have HWHY := Lib.hid (show insOk nm ar rows row = false from decide_eq_false fun q => q.2.2.1 (of_decide_eq_true hin).2)
    rw [hin]
    clear hin
    obtain ⟨y0, y1, y2, _, _, _⟩ := HF.out.x
    obtain ⟨p0, p1, p2, q0, q1, q2⟩ := HF.out.r
    go_wp2_with fail
    obtain ⟨k0, k1, k2⟩ := set3 (w := W3) (k := w.heap.size + 1) (x := .string nm) (y := .int .i64 ar) (z := .slice (some ⟨gx, 0, none⟩) rows.length rows.length) p0 p1 p2
    refine bodyPost_ret (v := .tuple #[.agg #[.string nm, .int .i64 ar, .slice (some ⟨gx, 0, none⟩) rows.length rows.length], .bool false]) (by simp [results, Tryz.results13, go_sem, k0, k1, k2]) rfl ⟨_, fp, by rw [HWHY.out], ?_, HF.out.n, ?_⟩
    · rw [insR, HWHY.out]
      exact rowsC.ow_base (ow_setCell (ow_setCell (ow_setCell HF.out.o HF.out.not1 _) HF.out.not1 _) HF.out.not1 _) (by omega)
    · exact ((HF.out.b.setCell (by show _ ≤ w.heap.size + 1; omega) _).setCell (by show _ ≤ w.heap.size + 1; omega) _).setCell (by show _ ≤ w.heap.size + 1; omega) _
  have hin : hasR nm ar rows row = false := by simpa using hin
  rw [hin]
  have HV1 := Lib.hid (impl_valid nm ar _ rows S W3 (HR.out W3 HF.out.b))
  obtain ⟨d0, d1, d2, _, _, _⟩ := HF.out.t
  by_cases hok : tabOk nm ar rows = true
  case neg =>
    have hok : tabOk nm ar rows = false := by simpa using hok
    rw [hok] at HV1
    have HWHY := Lib.hid (show insOk nm ar rows row = false from decide_eq_false fun q => of_decide_eq_false hok q.1)
    clear hok hin
    go_wp2_with fail
    refine HV1.out.mono ?_
    rintro e W4 ⟨rfl, hb4⟩
    have HF4 := Lib.hid (HF.out.later hb4)
    clear hb4 d0 d1 d2
    obtain ⟨y0, y1, y2, _, _, _⟩ := HF4.out.x
    obtain ⟨p0, p1, p2, q0, q1, q2⟩ := HF4.out.r
    go_wp2_with fail
    obtain ⟨k0, k1, k2⟩ := set3 (w := W4) (k := w.heap.size + 1) (x := .string nm) (y := .int .i64 ar) (z := .slice (some ⟨gx, 0, none⟩) rows.length rows.length) p0 p1 p2
    refine bodyPost_ret (v := .tuple #[.agg #[.string nm, .int .i64 ar, .slice (some ⟨gx, 0, none⟩) rows.length rows.length], .bool false]) (by simp [results, Tryz.results13, go_sem, k0, k1, k2]) rfl ⟨_, fp, by rw [HWHY.out], ?_, HF4.out.n, ?_⟩
    · rw [insR, HWHY.out]
      exact rowsC.ow_base (ow_setCell (ow_setCell (ow_setCell HF4.out.o HF4.out.not1 _) HF4.out.not1 _) HF4.out.not1 _) (by omega)
    · exact ((HF4.out.b.setCell (by show _ ≤ w.heap.size + 1; omega) _).setCell (by show _ ≤ w.heap.size + 1; omega) _).setCell (by show _ ≤ w.heap.size + 1; omega) _
  rw [hok] at HV1
  have HTP := Lib.hid (show TabP nm ar rows from of_decide_eq_true hok)
  have HFP2 := Lib.hid (HFP.out hok)
  have HNIN := Lib.hid (show row ∉ rows from fun q => by rw [hasR_yes hok q] at hin; cases hin)
  clear hok hin
  go_wp2_with fail
  refine HV1.out.mono ?_
  rintro e W4 ⟨rfl, hb4⟩
  have HF4 := Lib.hid (HF.out.later hb4)
  clear hb4 d0 d1 d2
  obtain ⟨d0, d1, d2, _, _, _⟩ := HF4.out.t
  have HRW := Lib.hid (is_row _ row ar _ W4 (row_ri (HV.out W4 HF4.out.b)).1)
  by_cases hrow : rowOk row ar = true
  case neg =>
    have hrow : rowOk row ar = false := by simpa using hrow
    rw [hrow] at HRW
    have HWHY := Lib.hid (show insOk nm ar rows row = false from decide_eq_false fun q => by have := q.2.1; rw [hrow] at this; exact absurd this (by decide))
    clear hrow
    go_wp2_with fail
    refine HRW.out.mono ?_
    rintro e W5 ⟨rfl, rfl⟩
    clear d0 d1 d2
    obtain ⟨y0, y1, y2, _, _, _⟩ := HF4.out.x
    obtain ⟨p0, p1, p2, q0, q1, q2⟩ := HF4.out.r
    go_wp2_with fail
    obtain ⟨k0, k1, k2⟩ := set3 (w := W4) (k := w.heap.size + 1) (x := .string nm) (y := .int .i64 ar) (z := .slice (some ⟨gx, 0, none⟩) rows.length rows.length) p0 p1 p2
    refine bodyPost_ret (v := .tuple #[.agg #[.string nm, .int .i64 ar, .slice (some ⟨gx, 0, none⟩) rows.length rows.length], .bool false]) (by simp [results, Tryz.results13, go_sem, k0, k1, k2]) rfl ⟨_, fp, by rw [HWHY.out], ?_, HF4.out.n, ?_⟩
    · rw [insR, HWHY.out]
      exact rowsC.ow_base (ow_setCell (ow_setCell (ow_setCell HF4.out.o HF4.out.not1 _) HF4.out.not1 _) HF4.out.not1 _) (by omega)
    · exact ((HF4.out.b.setCell (by show _ ≤ w.heap.size + 1; omega) _).setCell (by show _ ≤ w.heap.size + 1; omega) _).setCell (by show _ ≤ w.heap.size + 1; omega) _
  rw [hrow] at HRW
  have HROW := Lib.hid hrow
  clear hrow
  go_wp2_with fail
  refine HRW.out.mono ?_
  rintro e W5 ⟨rfl, rfl⟩
  by_cases h8 : rows.length = 8
  case pos =>
    have HWHY := Lib.hid (show insOk nm ar rows row = false from decide_eq_false fun q => q.2.2.2 h8)
    have h8a : ((rows.length : Int) == 8) = true := by rw [beq_iff_eq]; omega
    have h8b : decide (rows.length = 8) = true := decide_eq_true h8
    clear h8
    obtain ⟨y0, y1, y2, _, _, _⟩ := HF4.out.x
    obtain ⟨p0, p1, p2, q0, q1, q2⟩ := HF4.out.r
    go_wp2_with fail
    obtain ⟨k0, k1, k2⟩ := set3 (w := W4) (k := w.heap.size + 1) (x := .string nm) (y := .int .i64 ar) (z := .slice (some ⟨gx, 0, none⟩) rows.length rows.length) p0 p1 p2
    refine bodyPost_ret (v := .tuple #[.agg #[.string nm, .int .i64 ar, .slice (some ⟨gx, 0, none⟩) rows.length rows.length], .bool false]) (by simp [results, Tryz.results13, go_sem, k0, k1, k2]) rfl ⟨_, fp, by rw [HWHY.out], ?_, HF4.out.n, ?_⟩
    · rw [insR, HWHY.out]
      exact rowsC.ow_base (ow_setCell (ow_setCell (ow_setCell HF4.out.o HF4.out.not1 _) HF4.out.not1 _) HF4.out.not1 _) (by omega)
    · exact ((HF4.out.b.setCell (by show _ ≤ w.heap.size + 1; omega) _).setCell (by show _ ≤ w.heap.size + 1; omega) _).setCell (by show _ ≤ w.heap.size + 1; omega) _
  have HWHY := Lib.hid (show insOk nm ar rows row = true from decide_eq_true ⟨HTP.out, HROW.out, HNIN.out, h8⟩)
  have h8i : ¬ (rows.length : Int) = 8 := by omega
  have HPUT := Lib.hid (show putR rows row = Cd.ins rows i row by rw [putR_split HTP.out.2.2.2.2.2 HFP2.out, if_neg HNIN.out])
  have HXL := Lib.hid HF4.out.x.lt
  have HCP := Lib.hid (copy_ints _ row S2 W4.drew (rd_drew (HV.out W4 HF4.out.b)) HRL.out)
  have HINS := Lib.hid (fun Wa (hb : Below W4.heap.size W4 Wa) b u f hu (hrow : rowC.ow Wa (w.heap.size + 2) [u] row f) hfd hdis => insert_rows gx rows.length i rows fp (w.heap.size + 2) Wa (HF4.out.later hb).o HF4.out.n rfl HIL.out HTP.out.2.2.2.1 b u row f hu hrow hfd hdis (by have := hb.size; have := HXL.out; have := HF4.out.g; omega))
  obtain ⟨y0, y1, y2, g0, g1, g2⟩ := HF4.out.x
  go_wp2_with fail
  go_region_law (first | (go_simp; go_at_call 50; refine HCP.out.mono ?_; rintro e wq ⟨gr, cr, rfl, hor, hbq⟩; (have hq := undrew hbq); (have hba := below_then hq (below_alloc wq (.cells #[.slice (some ⟨gr, 0, none⟩) row.length cr] 35 (0, 0)))); (have HBA := Lib.hid hba); (have HOR := Lib.hid hor); (have hqz := hq.size); (have k2 := (HF4.out.x.later hq).c2); (have m2 := (HF4.out.x.later hba).c2); clear hbq hq hba hor) | (go_simp; go_at_call 49; refine (HINS.out _ HBA.out wq.heap.size (.slice (some ⟨gr, 0, none⟩) row.length cr) [gr] (World.cell?_alloc_mark _ _ _ _ 0) (rowC.ow_base (Cd.ow_later HOR.out (below_alloc _ _)) (by have := HF4.out.g; have := HXL.out; show _ ≤ W4.heap.size; omega)) (by simp) (fun x hx q => by have h1 := (rowC.ow_lt HOR.out x hx).1; have h2 := (rowsC.ow_lt HF4.out.o x q).2; have h3 : W4.drew.heap.size = W4.heap.size := rfl; omega)).mono ?_; rintro e wp ⟨g5, c5, fp5, rfl, ho5, hn5, hs5, ht5⟩; (have HO5 := Lib.hid ho5); (have HN5 := Lib.hid hn5); (have HS5 := Lib.hid hs5); (have HT5 := Lib.hid ht5); (have hpz := ht5.size); (have j0 := ((HF4.out.x.later HBA.out).touched ht5 HF4.out.d).c0); (have j1 := ((HF4.out.x.later HBA.out).touched ht5 HF4.out.d).c1); (have j2 := ((HF4.out.x.later HBA.out).touched ht5 HF4.out.d).c2); (have l0 := ((HF4.out.x.later HBA.out).touched ht5 HF4.out.d).f0); (have l1 := ((HF4.out.x.later HBA.out).touched ht5 HF4.out.d).f1); (have l2 := ((HF4.out.x.later HBA.out).touched ht5 HF4.out.d).f2); clear ho5 hn5 hs5 ht5))
  all_goals
    have hbw := below_then HF4.out.b HBA.out
    have hT : w.heap.size ∉ fp := fun q => by have := (rowsC.ow_lt HF4.out.o _ q).1; omega
    have hX5 : X ∉ fp5 := fun q => by
      have hx := HXL.out
      have h3 : W4.drew.heap.size = W4.heap.size := rfl
      rcases HS5.out X q with q | q | q
      · exact HF4.out.d q
      · have := (rowC.ow_lt HOR.out X q).1; omega
      · have := HBA.out.size; omega
    have hx2 := Loc3.set2 ((HF4.out.x.later HBA.out).touched HT5.out HF4.out.d) (.slice (some ⟨g5, 0, none⟩) (rows.length + 1) c5)
    have HF5 := Lib.hid (show Fr w X nm ar (.slice a rows.length cap) (.slice (some ⟨g5, 0, none⟩) (rows.length + 1) c5) _ _ _ (Cd.ins rows i row) fp5 (wp.setCell ⟨X, 2, none⟩ (.slice (some ⟨g5, 0, none⟩) (rows.length + 1) c5)) from
      ⟨(HT5.out.below hbw (fun b hb => by have := (rowsC.ow_lt HF4.out.o b hb).1; omega)).setCell (by show _ ≤ X; have := HF4.out.g; omega) _, ((HF4.out.t.later HBA.out).touched HT5.out hT).set_far (by show X ≠ _; have := HF4.out.g; omega) _, ((HF4.out.r.later HBA.out).touched HT5.out HF4.out.not1).set_far (by show X ≠ _; have := HF4.out.g; omega) _, hx2,
        ow_setCell HO5.out hX5 _, HN5.out, hX5, HF4.out.g⟩)
    clear hbw hT hX5 hx2 y0 y1 y2 g0 g1 g2 j0 j1 j2 l0 l1 l2 d0 d1 d2 k2 m2 hpz hqz
    obtain ⟨y0, y1, y2, _, _, _⟩ := HF5.out.x
    obtain ⟨p0, p1, p2, q0, q1, q2⟩ := HF5.out.r
    go_wp2_with fail
    obtain ⟨k0, k1, k2⟩ := set3 (w := (wp.setCell ⟨X, 2, none⟩ (.slice (some ⟨g5, 0, none⟩) (rows.length + 1) c5))) (k := w.heap.size + 1) (x := .string nm) (y := .int .i64 ar) (z := .slice (some ⟨g5, 0, none⟩) (rows.length + 1) c5) p0 p1 p2
    refine bodyPost_ret (v := .tuple #[.agg #[.string nm, .int .i64 ar, .slice (some ⟨g5, 0, none⟩) (rows.length + 1) c5], .bool true]) (by simp [results, Tryz.results13, go_sem, k0, k1, k2]) rfl ⟨_, fp5, by rw [HWHY.out], ?_, HF5.out.n, ?_⟩
    · rw [insR, HWHY.out, if_pos rfl, HPUT.out]
      exact rowsC.ow_base (ow_setCell (ow_setCell (ow_setCell HF5.out.o HF5.out.not1 _) HF5.out.not1 _) HF5.out.not1 _) (by omega)
    · exact ((HF5.out.b.setCell (by show _ ≤ w.heap.size + 1; omega) _).setCell (by show _ ≤ w.heap.size + 1; omega) _).setCell (by show _ ≤ w.heap.size + 1; omega) _
end Go.Proofs.YtdjgaffiildijabGreatDoor.TabImp
