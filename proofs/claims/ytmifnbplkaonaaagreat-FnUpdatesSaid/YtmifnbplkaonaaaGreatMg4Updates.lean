/- Texts that the proof rests on, one behind the other. -/
import Derived.Test.YtmifnbplkaonaaaGreatMg3Updates
import Derived.Test.YtmifnbplkaonaaaGreatDbAcc
import Derived.Test.YtmifnbplkaonaaaGreatMg1Updates
import Derived.Test.YtmifnbplkaonaaaGreatMg2Updates
import Derived.Lib.AppendZerosOnto
import Derived.Laws.CopyOwn
import Derived.Deep.RegionLaw
import Derived.Test.YtmifnbplkaonaaaGreatTabIns
import Derived.Deep.DeepCutAuto
import Derived.Test.YtmifnbplkaonaaaGreatUpd
import Derived.Test.YtmifnbplkaonaaaGreatSlMath

namespace Go.Proofs.YtmifnbplkaonaaaGreat.DbImp
open Go Go.RowKit Byt Ints IntsLaw Cd Rows2 Tab SlMath TabOpen TabElem SlTable Db TabSpec DbMath TabImp DbMap DbExact DbSort
open Go.Maps (Keyed string_keyed IsMap Tidy)
open DbSpec (LaterD drewD row1 rows_cell name_cell at3)

theorem key_inv {v : Value} {kl : Lit} (h : keyOf Tryz.prog 9 v = some kl) : ∃ x : ByteArray, v = .string x := by
  rw [keyOf_string Tryz.underlying9] at h
  unfold mapKey at h
  rw [Tryz.underlying9] at h
  split at h <;> simp_all
theorem key_eq {x : ByteArray} {kl : Lit} (h : keyOf Tryz.prog 9 (.string x) = some kl) : kl = keyL x := by
  rw [keyOf_string Tryz.underlying9] at h
  unfold mapKey at h
  rw [Tryz.underlying9] at h
  simp only at h
  split at h
  · injection h with h; exact h.symm
  · cases h
theorem same_key {s t : ByteArray} : (keyL s).sameKey (keyL t) = decide (s = t) := by
  by_cases e : s = t
  · subst e
    rw [decide_eq_true rfl]
    simp [keyL, Lit.sameKey]
  · rw [decide_eq_false e]
    exact Maps.sameKey_ne (keyL_ne e)

/-- What the entries of a map stand for. -/
def Stand (F : ByteArray → Option TabV) (G : ByteArray → Option T3) (S : Nat → Prop) (w : World) : Prop :=
  ∀ s, (F s = none ∧ G s = none) ∨ ∃ t T, F s = some t ∧ G s = some T ∧ t.nm = s ∧ wtT T ≤ 1048577 ∧ tabC.rd w S t.us T
theorem Stand.later {F : ByteArray → Option TabV} {G : ByteArray → Option T3} {S : Nat → Prop} {w w' : World} (h : Stand F G S w) (hb : Below w.heap.size w w') : Stand F G S w' := fun s =>
  (h s).imp id fun ⟨t, T, h1, h2, h3, h4, h5⟩ => ⟨t, T, h1, h2, h3, h4, Cd.later h5 hb⟩
theorem stand_name {w : World} {S : Nat → Prop} {t : TabV} {T : T3} (h : tabC.rd w S t.us T) : T.1 = t.nm := by
  have := name_cell h
  injection this with this
  exact this.symm
/-- The tables that are gathered so far. -/
structure Gath (G : ByteArray → Option T3) (left : Lit → Bool) (cur : List T3) : Prop where
  mem : ∀ T, T ∈ cur ↔ (G T.1 = some T ∧ left (keyL T.1) = false)
  ne : cur.Pairwise fun a b => a.1 ≠ b.1
theorem Gath.start {D : DataW Value} {F : ByteArray → Option TabV} {G : ByteArray → Option T3} {S : Nat → Prop} {w : World} {m : Nat} (hm : MapIs D F m) (hs : Stand F G S w) : Gath G (Maps.has D) [] := by
  refine ⟨fun T => ⟨(fun h => by cases h), (fun ⟨h1, h2⟩ => ?_)⟩, List.Pairwise.nil⟩
  rw [hm.has] at h2
  rcases hs T.1 with ⟨_, q⟩ | ⟨t, T', q, _⟩
  · rw [q] at h1; cases h1
  · rw [q] at h2; cases h2
theorem Gath.step {G : ByteArray → Option T3} {left : Lit → Bool} {cur : List T3} (h : Gath G left cur) {T : T3} (hG : G T.1 = some T) (hl : left (keyL T.1) = true) : Gath G (fun z => left z && !z.sameKey (keyL T.1)) (cur ++ [T]) := by
  refine ⟨fun U => ?_, ?_⟩
  · rw [List.mem_append, List.mem_singleton, h.mem]
    simp only [same_key, Bool.and_eq_false_iff, Bool.not_eq_false', decide_eq_true_eq]
    constructor
    · rintro (⟨q1, q2⟩ | rfl)
      · exact ⟨q1, .inl q2⟩
      · exact ⟨hG, .inr rfl⟩
    · rintro ⟨q1, q2 | q2⟩
      · exact .inl ⟨q1, q2⟩
      · rw [q2, hG] at q1
        injection q1 with q1
        exact .inr q1.symm
  · rw [List.pairwise_append]
    refine ⟨h.ne, List.pairwise_singleton _ _, fun U hU V hV e => ?_⟩
    rw [List.mem_singleton.1 hV] at e
    have := ((h.mem U).1 hU).2
    rw [e, hl] at this
    cases this
/-- All the tables, each name once, in their order. -/
def ListAns (G : ByteArray → Option T3) (w : World) (e : Ending) (w' : World) : Prop :=
  ∃ R a c fp, e = .returned (.agg #[.slice a R.length c]) ∧ tabsC.ow w' w.heap.size [.slice a R.length c] R fp ∧ fp.Nodup ∧ AscP R ∧ (∀ T, T ∈ R ↔ G T.1 = some T) ∧ Below w.heap.size w w'
theorem asc_of {l l' : List T3} (hp : l'.Perm l) (hne : l.Pairwise fun a b => a.1 ≠ b.1) (hs : l'.Pairwise fun a b => ltB b.1 a.1 = false) : AscP l' := by
  have hne' : l'.Pairwise fun a b => a.1 ≠ b.1 := (hp.pairwise_iff fun h => Ne.symm h).2 hne
  unfold AscP ltT
  refine (List.Pairwise.and hs hne').imp fun {a b} ⟨h1, h2⟩ => ?_
  cases q : ltB a.1 b.1
  · exact absurd (ltB_tri q h1) h2
  · rfl
theorem copy_elem_i (us : List Value) (T : T3) (S : Nat → Prop) (w : World) (hu : tabC.rd w S us T) (hw : wtT T ≤ 1048577) :
    Calls Tryz.prog 50 #[.agg us.toArray] w fun e w' => ∃ a c fp, e = .returned (.agg #[.string T.1, .int .i64 T.2.1, .slice a T.2.2.length c]) ∧ tabC.ow w' w.heap.size [.string T.1, .int .i64 T.2.1, .slice a T.2.2.length c] T fp ∧ fp.Nodup ∧ Below w.heap.size w w' := by
  refine (copy_rows_i us T S w hu hw).mono ?_
  obtain ⟨u, _, h1, h2, _⟩ := tab_cells hu
  rintro e w' ⟨a, c, fp, rfl, how, hnd, hb⟩
  exact ⟨a, c, fp, rfl, tab_ow how h1 h2, hnd, hb⟩

set_option maxRecDepth 100000 in
set_option maxHeartbeats 1600000 in
theorem impl_sorted (B n : Nat) (D : DataW Value) (F : ByteArray → Option TabV) (G : ByteArray → Option T3) (m : Nat) (S : Nat → Prop) (w : World) (hown : Owns w B n D) (hm : MapIs D F m) (hm7 : m ≤ 1000) (hst : Stand F G S w) :
    Calls Tryz.prog 54 #[.map (some B)] w fun e w' => ListAns G w e w' := by
  obtain ⟨i0, hi, hz0, hz1, hz2⟩ := info_parts SlTable.info_x
  have HST := Lib.hid (fun w' (hb : Below w.heap.size w w') => hst.later hb)
  have HM := Lib.hid hm
  have hBl := hown.lt
  have HBL := Lib.hid hBl
  have hsize := hm.size
  clear hst
  go_enter Tryz.func54, Tryz.ntmps54
  have hownA := World.ownsMap.alloc hown (.cells #[.slice none 0 0] 26 (0, 0))
  have hA0 := row_alloc w (.cells #[.slice none 0 0] 26 (0, 0))
  have hAb := below_alloc w (.cells #[.slice none 0 0] 26 (0, 0))
  have hAs := size_alloc w (.cells #[.slice none 0 0] 26 (0, 0))
  go_wp2_with (first
    | (at_len; refine wpList_len_own _ rfl _ 78 rfl 9 51 Tryz.underlying78 tabR B n D rfl hownA ?_; rw [hsize])
    | (at_make; refine wpList_make_own _ rfl _ _ 24 rfl (w.heap.size + 1) 51 i0 (.agg #[.string ⟨#[]⟩, .int .i64 0, .slice none 0 0]) 3 Tryz.underlying24 hi hz0 hz1 _ _ _ m rfl rfl rfl (by rw [hz2]; omega) (by unfold maxLen; omega) (by rw [hAs]; exact Nat.le_refl _) ?_))
  intro w1 hown1 hg1
  have HC1 := Lib.hid ((Loc1.of hA0).keep (hg1.block _ (by rw [hAs]; omega) (by simp)))
  have HB1 := Lib.hid (below_then hAb (show Below _ _ w1 from ⟨hg1.os, hg1.tape, hg1.output, hg1.size, fun k hk => hg1.block k hk (by simp)⟩))
  have HM1 := Lib.hid (show Owns w1 B n D from World.ownsMap.kept hownA hg1 (by simp))
  have HS1 := Lib.hid (show w.heap.size + 1 < w1.heap.size from by
    rcases hown1.2 with ⟨h', _⟩ | ⟨g', cap', cur, h', _, hg, _⟩
    · cases h'
    · simp only [Value.slice.injEq, Option.some.injEq, Addr.mk.injEq, and_true, true_and] at h'
      have := (Array.getElem?_eq_some_iff.1 hg).1
      rw [← h'.1] at this
      exact this)
  have HO1 := Lib.hid (show tabsC.ow w1 (w.heap.size + 1) [.slice (some ⟨w.heap.size + 1, 0, none⟩) 0 m] [] [w.heap.size + 1] from ⟨_, [], [], rfl, hown1, trivial, rfl⟩)
  (try rw [hAs])
  clear hownA hA0 hAb hg1 hown1 hAs hown
  have hown2 := HM1.out
  go_wp2_with (first
    | (at_range; refine wpList_range_own _ rfl _ 78 rfl 9 51 law Tryz.underlying78 tabR B n D rfl hown2 ?_; intro w2 hrg2 hg2 hs2))
  go_frame
  have hb2 : Below w1.heap.size w1 w2 := ⟨hg2.os, hg2.tape, hg2.output, hg2.size, fun k hk => hg2.block k hk (by simp)⟩
  have HRG := Lib.hid hrg2
  have HB2 := Lib.hid (below_then HB1.out hb2)
  have HO2 := Lib.hid (Cd.ow_later HO1.out hb2)
  have HC2 := Lib.hid (HC1.out.later hb2)
  clear hrg2 hg2 hb2 hown2
  rw [hsize] at HRG
  go_loopw [3] (fun o wr => ∃ (left : Lit → Bool) (cnt g c : Nat) (cur : List T3) (fp : List Nat), o = .slice (some ⟨g, 0, none⟩) cur.length c ∧ wr.ranges Tryz.prog 9 tabR B w1.heap.size n D left cnt ∧ cur.length + cnt ≤ m ∧ tabsC.ow wr (w.heap.size + 1) [.slice (some ⟨g, 0, none⟩) cur.length c] cur fp ∧ fp.Nodup ∧ w1.heap.size ∉ fp ∧ Gath G left cur ∧ Loc1 wr w.heap.size (.slice none 0 0) ∧ Below w.heap.size w wr ∧ w2.heap.size ≤ wr.heap.size) (fun _ wr => wr.rangeLeft B w1.heap.size)
  case atStart => exact ⟨_, m, w.heap.size + 1, m, [], [w.heap.size + 1], rfl, HRG.out, by simp, HO2.out, by simp, by have := HS1.out; simp; omega, Gath.start HM.out (HST.out w (Below.refl _ _)), HC2.out, HB2.out, Nat.le_refl _⟩
  case round =>
    obtain ⟨left, cnt, g, c, cur, fp, rfl, hrg, hcm, how, hnd, hrf, hga, hlc, hbw, hsw⟩ := hrel
    have HOW := Lib.hid how
    have HND := Lib.hid hnd
    have HGA := Lib.hid hga
    have HLC := Lib.hid hlc
    have HBW := Lib.hid hbw
    have HRF := Lib.hid hrf
    have HSW := Lib.hid hsw
    have HRR := Lib.hid hrg
    clear how hnd hga hlc hbw hrf hsw
    go_wp2_with (first
      | (at_next; refine wpList_next_ranges _ rfl _ rfl 9 law tabR Value.string TabV.val (fun _ _ h => key_inv h) (fun _ _ h => by obtain ⟨t, h, _⟩ := tabR_inv h; exact ⟨t, h⟩) B w1.heap.size n D left cnt rfl hrg ?_ ?_))
    · intro hc0 hl0
      have HL0 := Lib.hid hl0
      clear hl0 hrg
      go_wp2_with fail
      refine (sort_tables g c (w.heap.size + 1) cur fp wr HOW.out HND.out (by omega)).mono ?_
      rintro e w3 ⟨l', fp', rfl, ho3, hn3, hp3, hs3, ht3⟩
      have hlen : l'.length = cur.length := hp3.length_eq
      have hgf : g ∈ fp := by
        obtain ⟨v', xss, fps, e1, _, _, rfl⟩ := HOW.out
        injection e1 with e1 _
        subst e1
        exact List.mem_cons_self
      have hgl := ((Cd.sl _ tabC).ow_lt HOW.out g hgf).1
      have hLC := HLC.out.touched ht3 (by simp; omega)
      have HB3 := Lib.hid (Cd.Touch.below HBW.out ht3 (fun b hb => by rw [List.mem_singleton.1 hb]; omega))
      have HO3 := Lib.hid ho3
      have HN3 := Lib.hid hn3
      have HAS := Lib.hid (asc_of hp3 HGA.out.ne hs3)
      have HME := Lib.hid (show ∀ T, T ∈ l' ↔ G T.1 = some T from fun T => by
        rw [hp3.mem_iff, HGA.out.mem]
        exact ⟨fun h => h.1, fun h => ⟨h, HL0.out _⟩⟩)
      have x0 := hLC.c0
      have x1 := hLC.f0
      rw [← hlen]
      clear ho3 hn3 hp3 hs3 ht3 hlen hLC hgf hgl
      go_wp2_with fail
      have k0 : (w3.setCell ⟨w.heap.size, 0, none⟩ (.slice (some ⟨g, 0, none⟩) l'.length c)).cell? ⟨w.heap.size, 0, none⟩ = some (.slice (some ⟨g, 0, none⟩) l'.length c) := World.cell?_setCell_same _ _ _ x0
      refine bodyPost_ret (v := .agg #[.slice (some ⟨g, 0, none⟩) l'.length c]) (by simp [results, Tryz.results54, go_sem, k0]) rfl ⟨l', _, c, fp', rfl, ?_, HN3.out, HAS.out, HME.out, HB3.out.setCell (Nat.le_refl _) _⟩
      exact ow_setCell ((Cd.sl _ tabC).ow_base HO3.out (Nat.le_succ _)) (fun q => by have := ((Cd.sl _ tabC).ow_lt HO3.out _ q).1; simp only at this; omega) _
    · intro x t kl y1 y2 w3 cnt3 hkx hlx hyt hat hrg3 hlt hg3 hs3 hen
      obtain rfl := key_eq hkx
      obtain ⟨t', ht', hyy⟩ := tabR_inv hyt
      obtain rfl : y1 = .held t.val := by injection hyy
      clear hyy
      have hbk : Cd.Touch [w1.heap.size] wr w3 := touch_grown hg3
      have hHas : Maps.has D (keyL x) = true := Maps.has_true_of_atKey (y := .held t.val) hat
      have hFG : ∃ T, G x = some T ∧ T.1 = x ∧ wtT T ≤ 1048577 ∧ ∀ w', Below w.heap.size w w' → tabC.rd w' S t.us T := by
        rcases HST.out w (Below.refl _ _) x with ⟨q, _⟩ | ⟨t2, T, q1, q2, q3, q4, q5⟩
        · rw [HM.out.has, q] at hHas; cases hHas
        · have e1 := HM.out.at_ x t2 (.held t.val) q1
          rw [hat] at e1
          injection e1 with e1
          have e2 : t = t2 := by
            cases t
            cases t2
            simp only [TabV.val, Value.agg.injEq, Array.mk.injEq, List.cons.injEq, Value.string.injEq, Value.int.injEq, Value.slice.injEq, true_and, and_true] at e1
            simp [e1]
          subst e2
          exact ⟨T, q2, (stand_name q5).trans q3, q4, fun w' hb => Cd.later q5 hb⟩
      obtain ⟨T, hG, hTx, hTw, hTr⟩ := hFG
      have HG := Lib.hid (show G T.1 = some T by rw [hTx]; exact hG)
      have HLX := Lib.hid (show left (keyL T.1) = true by rw [hTx]; exact hlx)
      have HCP := Lib.hid (fun w' (hb : Below w.heap.size w w') => copy_elem_i t.us T S w' (hTr w' hb) hTw)
      have HBW3 := Lib.hid (Cd.Touch.below HBW.out hbk (fun b hb => by rw [List.mem_singleton.1 hb]; have := HS1.out; omega))
      have HOW3 := Lib.hid (Cd.ow_touched HOW.out hbk (fun b hb q => by rw [List.mem_singleton.1 q] at hb; exact HRF.out hb))
      have HLC3 := Lib.hid (HLC.out.touched hbk (by have := HS1.out; simp; omega))
      have HRG3 := Lib.hid hrg3
      have HSW3 := Lib.hid (show w2.heap.size ≤ w3.heap.size by rw [hs3]; exact HSW.out)
      have HX := Lib.hid hTx
      have HCN := Lib.hid (show cnt3 < cnt from hlt)
      clear hkx hyt hat hg3 hHas hG hTw hTr hTx hbk ht' hlx hrg3 hs3
      unfold TabV.val at hen ⊢
      go_wp2_with fail
      have hbA := below_alloc w3 (.cells #[.string t.nm, .int .i64 t.ar, .slice t.a t.n t.c] 51 (0, 0))
      refine (HCP.out _ (below_then HBW3.out hbA)).mono ?_
      rintro e w4 ⟨a4, c4, f4, rfl, ho4, hn4, hb4⟩
      have hbB := below_alloc w4 (.cells #[.string T.1, .int .i64 T.2.1, .slice a4 T.2.2.length c4] 51 (0, 0))
      have HB5 := Lib.hid (below_then (below_then hbA hb4) hbB)
      have HAT := Lib.hid (at3 (w := w4.alloc (.cells #[.string T.1, .int .i64 T.2.1, .slice a4 T.2.2.length c4] 51 (0, 0))) (b := w4.heap.size) (row_alloc w4 _))
      have HOT := Lib.hid (tabC.ow_base (Cd.ow_later ho4 hbB) (show w.heap.size + 1 ≤ _ by have := HSW3.out; have := hbA.size; have := HS1.out; omega))
      have HN4 := Lib.hid hn4
      have HFAR := Lib.hid (show ∀ b ∈ f4, b ∉ fp ∧ w1.heap.size < b from fun b hb => by
        have h1 := (tabC.ow_lt ho4 b hb).1
        have h3 := hbA.size
        refine ⟨fun q => ?_, ?_⟩
        · have h2 := ((Cd.sl _ tabC).ow_lt HOW3.out b q).2
          omega
        · have h4 := HSW3.out
          rw [size_alloc] at h1
          omega)
      have HSB := Lib.hid (show w2.heap.size ≤ (w4.alloc (.cells #[.string T.1, .int .i64 T.2.1, .slice a4 T.2.2.length c4] 51 (0, 0))).heap.size from Nat.le_trans HSW3.out HB5.out.size)
      have t1 : cur.length + 1 ≤ 1000000000 := by omega
      have t2 : w.heap.size + 1 ≤ (w4.alloc (.cells #[.string T.1, .int .i64 T.2.1, .slice a4 T.2.2.length c4] 51 (0, 0))).heap.size := by have := HSB.out; have := HS1.out; omega
      have T3 := Lib.hid (Cd.ow_later HOW3.out HB5.out)
      clear ho4 hn4 hb4 hbA hbB hen
      go_wp2_with (at_builtin; refine Cd.wpList_appendN (c := tabC) rfl (.tmp 15) (.tmp 18) 24 rfl (w.heap.size + 1) 51 (.agg #[.string ⟨#[]⟩, .int .i64 0, .slice none 0 0]) 3 48 rfl Tryz.underlying24 SlTable.info_x rfl (by decide) _ cur fp rfl T3.out HND.out w4.heap.size _ rfl HAT.out T f4 HOT.out HN4.out (fun b hb => (HFAR.out b hb).1) t1 t2 ?_)
      intro g6 c6 w6 fp6 ho6 hn6 hsub6 ht6
      have hfw : ∀ b ∈ fp, w.heap.size + 1 ≤ b := fun b hb => ((Cd.sl _ tabC).ow_lt HOW.out b hb).1
      have HL6 := Lib.hid ((HLC3.out.later HB5.out).touched ht6 (fun q => by have := hfw _ q; omega))
      have HB6 := Lib.hid (Cd.Touch.below (below_then HBW3.out HB5.out) ht6 (fun b hb => by have := hfw b hb; omega))
      have hRGB := World.ranges.kept HRG3.out (grown_of HB5.out none) (by simp) (by simp)
      have hBn : B ∉ fp := fun q => by have := hfw _ q; have := HBL.out; omega
      have HRG6 := Lib.hid (show w6.ranges Tryz.prog 9 tabR B w1.heap.size n D (fun z => left z && !z.sameKey (keyL x)) cnt3 from by
        obtain ⟨es, clock, since, seen, c0, q1, q2, q3, q4, q5, q6⟩ := hRGB
        refine ⟨es, clock, since, seen, c0, (ht6.block B (Array.getElem?_eq_some_iff.1 q1).1 hBn).trans q1, q2, q3, q4, (ht6.block _ (Array.getElem?_eq_some_iff.1 q5).1 HRF.out).trans q5, q6⟩)
      have HO6 := Lib.hid ho6
      have HN6 := Lib.hid hn6
      have HR6 := Lib.hid (show w1.heap.size ∉ fp6 from fun q => by
        rcases hsub6 _ q with h | h | h
        · exact HRF.out h
        · have := (HFAR.out _ h).2; omega
        · have h2 := HSB.out; (try rw [size_alloc] at h2); (try rw [size_alloc] at h); omega)
      have HS6 := Lib.hid (Nat.le_trans HSB.out ht6.size)
      have HG6 := Lib.hid (show Gath G (fun z => left z && !z.sameKey (keyL x)) (cur ++ [T]) from by rw [← HX.out]; exact HGA.out.step HG.out HLX.out)
      clear ho6 hn6 hsub6 ht6 hRGB hBn hfw
      go_wp2_with fail
      go_roundw
      case rel => exact ⟨_, cnt3, g6, c6, cur ++ [T], fp6, by simp, HRG6.out, by have := HCN.out; simp; omega, (by have h := HO6.out; rw [show cur.length + 1 = (cur ++ [T]).length by simp] at h; exact h), HN6.out, HR6.out, HG6.out, HL6.out, HB6.out, HS6.out⟩
      case measure => rw [HRG6.out.left_eq, HRR.out.left_eq]; exact HCN.out
end Go.Proofs.YtmifnbplkaonaaaGreat.DbImp

namespace Go.Proofs.YtmifnbplkaonaaaGreat.DbImp
open Go Go.RowKit Byt Ints IntsLaw Cd Rows2 Tab SlMath TabOpen TabElem SlTable Db TabSpec DbMath TabImp DbMap DbExact DbSort
open Go.Maps (Keyed string_keyed IsMap Tidy)
open DbSpec (LaterD drewD row1 rows_cell name_cell at3)
open DbAcc (DbAns)

set_option maxRecDepth 100000 in
set_option maxHeartbeats 1600000 in
theorem map_tables (u : Value) (l : List T3) (S : Nat → Prop) (w : World) (h1 : tabsC.rd w S [u] l) (hw : wtS l ≤ 1048577) :
    Calls Tryz.prog 51 #[u, .func (.func 50) #[] #[]] w fun e w' => ∃ g c fp, e = .returned (.slice (some ⟨g, 0, none⟩) l.length c) ∧ tabsC.ow w' w.heap.size [.slice (some ⟨g, 0, none⟩) l.length c] l fp ∧ fp.Nodup ∧ Below w.heap.size w w' := by
  obtain ⟨i0, hi, hz0, hz1, hz2⟩ := info_parts SlTable.info_x
  have HR := Lib.hid (fun w' (hb : Below w.heap.size w w') => Cd.later h1 hb)
  have HW := Lib.hid hw
  obtain ⟨a, cap, rfl, hlm⟩ := Cd.sl_form h1
  have hll : l.length ≤ 1048577 := by unfold wtS at hw; omega
  clear h1 hw
  go_enter Tryz.func51, Tryz.ntmps51
  go_wp2_with (at_make; refine wpList_make_own _ rfl _ _ 24 rfl w.heap.size 51 i0 (.agg #[.string ⟨#[]⟩, .int .i64 0, .slice none 0 0]) 3 Tryz.underlying24 hi hz0 hz1 _ _ _ l.length rfl rfl rfl (by rw [hz2]; omega) (by unfold maxLen; omega) (Nat.le_refl _) ?_)
  intro w1 hown0 hg0
  have how1 : tabsC.ow w1 w.heap.size [.slice (some ⟨w.heap.size, 0, none⟩) 0 l.length] [] [w.heap.size] := ⟨_, [], [], rfl, hown0, trivial, rfl⟩
  have hb1 : Below w.heap.size w w1 := ⟨hg0.os, hg0.tape, hg0.output, hg0.size, fun k hk => hg0.block k hk (by simp)⟩
  have HO1 := Lib.hid how1
  have HB1 := Lib.hid hb1
  clear hown0 hg0 how1 hb1
  go_wp2_with fail
  go_loopw [5, 13] (fun o i wr => ∃ (k g c : Nat) (fp : List Nat), k ≤ l.length ∧ i = .int .i64 k ∧ o = .slice (some ⟨g, 0, none⟩) (l.take k).length c ∧ tabsC.ow wr w.heap.size [.slice (some ⟨g, 0, none⟩) (l.take k).length c] (l.take k) fp ∧ fp.Nodup ∧ Below w.heap.size w wr) (fun _ i _ => l.length - (intOf i).toNat)
  case atStart => exact ⟨0, _, _, _, Nat.zero_le _, rfl, rfl, HO1.out, by simp, HB1.out⟩
  case round =>
    obtain ⟨k, g, c, fp, hk, rfl, rfl, how, hnd, hb⟩ := hrel
    by_cases hlt : k < l.length
    · obtain ⟨b, off, cap', us, e1, _, hbB, hat, hu⟩ := Cd.sl_at (HR.out wr hb) hlt
      injection e1 with e1 e2 e3
      subst e1 e3
      obtain ⟨az, cz, rfl⟩ := elem_form hu
      have p0 := hat 0 (by simp)
      have p1 := hat 1 (by simp)
      have p2 := hat 2 (by simp)
      simp only [List.getElem_cons_zero, List.getElem_cons_succ, Nat.add_zero, show tabC.n = 3 from rfl] at p0 p1 p2
      have ht3 : wtT l[k] ≤ 1048577 := by have := sumN_mem wtT hlt; have := HW.out; unfold wtS at this; omega
      have HC := Lib.hid (fun w' (hq : Below wr.heap.size wr w') => copy_elem_i _ l[k] S w' (Cd.later hu hq) ht3)
      have HOW := Lib.hid how
      have HND := Lib.hid hnd
      have HB := Lib.hid hb
      have HT := Lib.hid (show l.take (k + 1) = l.take k ++ [l[k]] from List.take_succ_eq_append_getElem hlt)
      have i1 : (0 : Int) ≤ (k : Int) := by omega
      have i2 : (k : Int) < (l.length : Int) := by omega
      have t1 : (l.take k).length + 1 ≤ 1000000000 := by rw [List.length_take]; omega
      clear hu how hnd hb hat e2 ht3
      generalize l[k] = T at *
      generalize l.take k = cur at *
      go_wp2_with fail
      have hbA := below_alloc wr (.cells #[.string T.1, .int .i64 T.2.1, .slice az T.2.2.length cz] 51 (0, 0))
      refine (HC.out _ hbA).mono ?_
      rintro e w4 ⟨a4, c4, f4, rfl, ho4, hn4, hb4⟩
      have hbB' := below_alloc w4 (.cells #[.string T.1, .int .i64 T.2.1, .slice a4 T.2.2.length c4] 51 (0, 0))
      have HB5 := Lib.hid (below_then (below_then hbA hb4) hbB')
      have HAT := Lib.hid (at3 (w := w4.alloc (.cells #[.string T.1, .int .i64 T.2.1, .slice a4 T.2.2.length c4] 51 (0, 0))) (b := w4.heap.size) (row_alloc w4 _))
      have HOT := Lib.hid (tabC.ow_base (Cd.ow_later ho4 hbB') (show w.heap.size ≤ _ from Nat.le_trans HB.out.size hbA.size))
      have HN4 := Lib.hid hn4
      have HFAR := Lib.hid (show ∀ b ∈ f4, b ∉ fp from fun b hb q => by
        have h1 := (tabC.ow_lt ho4 b hb).1
        have h2 := ((Cd.sl _ tabC).ow_lt HOW.out b q).2
        have h3 := hbA.size
        omega)
      have t2 : w.heap.size ≤ (w4.alloc (.cells #[.string T.1, .int .i64 T.2.1, .slice a4 T.2.2.length c4] 51 (0, 0))).heap.size := Nat.le_trans HB.out.size HB5.out.size
      have HO5 := Lib.hid (Cd.ow_later HOW.out HB5.out)
      clear ho4 hn4 hb4 hbA hbB'
      go_wp2_with (at_builtin; refine Cd.wpList_appendN (c := tabC) rfl (.tmp 17) (.tmp 21) 24 rfl w.heap.size 51 (.agg #[.string ⟨#[]⟩, .int .i64 0, .slice none 0 0]) 3 48 rfl Tryz.underlying24 SlTable.info_x rfl (by decide) _ cur fp rfl HO5.out HND.out w4.heap.size _ rfl HAT.out T f4 HOT.out HN4.out HFAR.out t1 t2 ?_)
      intro g6 c6 w6 fp6 ho6 hn6 _ ht6
      have HB6 := Lib.hid (Cd.Touch.below (below_then HB.out HB5.out) ht6 (fun b hb => ((Cd.sl _ tabC).ow_lt HOW.out b hb).1))
      have HO6 := Lib.hid (show tabsC.ow w6 w.heap.size [.slice (some ⟨g6, 0, none⟩) (cur ++ [T]).length c6] (cur ++ [T]) fp6 from by rw [show (cur ++ [T]).length = cur.length + 1 by simp]; exact ho6)
      have HN6 := Lib.hid hn6
      have HE := Lib.hid (show (cur ++ [T]).length = cur.length + 1 by simp)
      clear ho6 hn6 ht6
      go_wp2_with fail
      go_roundw
      case rel => exact ⟨k + 1, g6, c6, fp6, by omega, by go_num, by rw [HT.out, HE.out], by rw [HT.out]; exact HO6.out, HN6.out, HB6.out⟩
      case measure => simp [intOf]; omega
    · have ek : k = l.length := by omega
      subst ek
      rw [List.take_length] at how ⊢
      go_wp2_with fail
      go_ret
      exact ⟨_, _, fp, rfl, how, hnd, hb⟩
set_option maxRecDepth 100000 in
theorem impl_dbcopy (u : Value) (l : List T3) (S : Nat → Prop) (w : World) (h1 : tabsC.rd w S [u] l) (hw : wtS l ≤ 1048577) :
    Calls Tryz.prog 21 #[.agg #[u]] w fun e w' => ∃ a c fp, e = .returned (.agg #[.slice a l.length c]) ∧ tabsC.ow w' w.heap.size [.slice a l.length c] l fp ∧ fp.Nodup ∧ Below w.heap.size w w' := by
  have HM := Lib.hid (fun w' (hb : Below w.heap.size w w') => map_tables u l S w' (Cd.later h1 hb) hw)
  obtain ⟨a, cap, rfl, hlm⟩ := Cd.sl_form h1
  clear h1
  go_enter Tryz.func21, Tryz.ntmps21
  go_wp2_with fail
  generalize hW : (w.alloc _).alloc _ = W
  obtain ⟨r0, r1, hz, hb0⟩ := start2g w _ _ hW
  have HC1 := Lib.hid (Loc1.of r1)
  have HB0 := Lib.hid hb0
  have HZ := Lib.hid hz
  clear hW r0 r1 hz hb0
  refine (HM.out _ HB0.out).mono ?_
  rintro e w1 ⟨g, c, fp, rfl, ho, hn, hb1⟩
  have HO := Lib.hid ho
  have HN := Lib.hid hn
  have HB1 := Lib.hid (below_then HB0.out hb1)
  have x0 := (HC1.out.later hb1).c0
  have x1 := (HC1.out.later hb1).f0
  clear ho hn hb1
  go_wp2_with fail
  have k0 : (w1.setCell ⟨w.heap.size + 1, 0, none⟩ (.slice (some ⟨g, 0, none⟩) l.length c)).cell? ⟨w.heap.size + 1, 0, none⟩ = some (.slice (some ⟨g, 0, none⟩) l.length c) := World.cell?_setCell_same _ _ _ x0
  refine bodyPost_ret (v := .agg #[.slice (some ⟨g, 0, none⟩) l.length c]) (by simp [results, Tryz.results21, go_sem, k0]) rfl ⟨_, c, fp, rfl, ?_, HN.out, HB1.out.setCell (by show _ ≤ w.heap.size + 1; omega) _⟩
  exact ow_setCell ((Cd.sl _ tabC).ow_base HO.out (by have := HZ.out; omega)) (fun q => by have := ((Cd.sl _ tabC).ow_lt HO.out _ q).1; have := HZ.out; simp only at *; omega) _

/-- What the map of a valid database stands for. -/
theorem stand_of {w : World} {S : Nat → Prop} {a : Option Addr} {l : List T3} {ts : List TabV} (h : HeldT w S a l ts) (hw : wtS l ≤ 1048577) : Stand (entF ts) (findN l) S w := fun s => by
  rcases entF_find h s with ⟨q1, q2⟩ | ⟨T, t, q1, q2, q3⟩
  · exact .inl ⟨q2, q1⟩
  · exact .inr ⟨t, T, q2, q1, by have := stand_name q3; rw [← this]; exact (findN_some q1).2, by have := find_wt q1; omega, q3⟩
def delG (G : ByteArray → Option T3) (s : ByteArray) : ByteArray → Option T3 := fun x => if x = s then none else G x
def setG (G : ByteArray → Option T3) (s : ByteArray) (T : T3) : ByteArray → Option T3 := fun x => if x = s then some T else G x
theorem Stand.del {F : ByteArray → Option TabV} {G : ByteArray → Option T3} {S : Nat → Prop} {w : World} (h : Stand F G S w) (s : ByteArray) : Stand (delF F s) (delG G s) S w := fun x => by
  unfold delF delG
  by_cases e : x = s
  · rw [if_pos e, if_pos e]; exact .inl ⟨rfl, rfl⟩
  · rw [if_neg e, if_neg e]; exact h x
theorem rem_eq {l R : List T3} {nm : ByteArray} (ha : AscP l) (hR : AscP R) (h : ∀ T, T ∈ R ↔ delG (findN l) nm T.1 = some T) : R = remL l nm := by
  refine asc_unique hR (asc_remL ha nm) fun U => ?_
  rw [h, mem_remL]
  unfold delG
  by_cases e : U.1 = nm
  · rw [if_pos e]
    exact ⟨fun q => (by cases q), fun q => absurd e q.2⟩
  · rw [if_neg e]
    exact ⟨fun q => ⟨(findN_some q).1, e⟩, fun q => findN_of_asc ha q.1⟩
end Go.Proofs.YtmifnbplkaonaaaGreat.DbImp

namespace Go.Proofs.YtmifnbplkaonaaaGreat.DbImp
open Go Go.RowKit Byt Ints IntsLaw Cd Rows2 Tab SlMath TabOpen TabElem SlTable Db TabSpec DbMath TabImp DbMap DbExact DbSort
open Go.Maps (Keyed string_keyed IsMap Tidy)
open DbSpec (LaterD drewD row1 rows_cell name_cell at3)
open DbAcc (DbAns)

theorem Stand.set {F : ByteArray → Option TabV} {G : ByteArray → Option T3} {S S2 : Nat → Prop} {w : World} (h : Stand F G S w) {t : TabV} {T : T3} (hn : t.nm = T.1) (hw : wtT T ≤ 1048577) (hr : tabC.rd w S2 t.us T) : Stand (setF F T.1 t) (setG G T.1 T) (fun b => S b ∨ S2 b) w := fun x => by
  unfold setF setG
  by_cases e : x = T.1
  · rw [if_pos e, if_pos e]; exact .inr ⟨t, T, rfl, rfl, hn.trans e.symm, hw, tabC.mono hr fun _ _ q => .inr q⟩
  · rw [if_neg e, if_neg e]
    exact (h x).imp id fun ⟨t, U, h1, h2, h3, h4, h5⟩ => ⟨t, U, h1, h2, h3, h4, tabC.mono h5 fun _ _ q => .inl q⟩
theorem set_eq {l R : List T3} {T : T3} (ha : AscP l) (hR : AscP R) (h : ∀ U, U ∈ R ↔ setG (findN l) T.1 T U.1 = some U) : R = putL T l := by
  refine asc_unique hR (asc_putL ha) fun U => ?_
  rw [h, mem_putL ha]
  unfold setG
  by_cases e : U.1 = T.1
  · rw [if_pos e]
    constructor
    · intro q; injection q with q; exact .inl q.symm
    · rintro (q | ⟨_, q⟩)
      · rw [q]
      · exact absurd e q
  · rw [if_neg e]
    constructor
    · exact fun q => .inr ⟨(findN_some q).1, e⟩
    · rintro (q | ⟨q, _⟩)
      · exact absurd (by rw [q]) e
      · exact findN_of_asc ha q
theorem put_size {w : World} {S : Nat → Prop} {a : Option Addr} {l : List T3} {ts : List TabV} (h : HeldT w S a l ts) (ha : AscP l) (T : T3) : (if (entF ts T.1).isSome then l.length else l.length + 1) = (putL T l).length := by
  rw [len_putL ha]
  rcases entF_find h T.1 with ⟨q1, q2⟩ | ⟨U, t, q1, q2, _⟩ <;> rw [q1, q2] <;> rfl

set_option maxRecDepth 100000 in
set_option maxHeartbeats 3200000 in
theorem impl_set (u : Value) (l : List T3) (T : T3) (at_ : Option Addr) (cc : Nat) (S S2 : Nat → Prop) (w : World) (h1 : tabsC.rd w S [u] l) (h2 : tabC.rd w S2 [.string T.1, .int .i64 T.2.1, .slice at_ T.2.2.length cc] T) (hw : wtS l ≤ 1048577) (hwt : wtT T ≤ 1048577) :
    Calls Tryz.prog 23 #[.agg #[u], .agg #[.string T.1, .int .i64 T.2.1, .slice at_ T.2.2.length cc]] w fun e w' => DbAns (setL l T) (setOk l T) w e w' := by
  obtain ⟨a1, cap1, rfl, hl1⟩ := Cd.sl_form h1
  obtain ⟨ts, ht⟩ := held_of h1
  have HT := Lib.hid (fun w' (hb : Below w.heap.size w w') => HeldT.later ht hb)
  have HNA := Lib.hid (fun w' (hb : Below w.heap.size w w') => impl_byname a1 cap1 l ts S w' (Cd.later h1 hb) (HeldT.later ht hb))
  have HDC := Lib.hid (fun w' (hb : Below w.heap.size w w') => impl_dbcopy _ l S w' (Cd.later h1 hb) hw)
  have HV := Lib.hid (fun w' (hb : Below w.heap.size w w') => impl_dbok _ l S w' (Cd.later h1 hb))
  have HVT := Lib.hid (fun w' (hb : Below w.heap.size w w') => val_elem_i _ T S2 w' (Cd.later h2 hb))
  have HRT := Lib.hid (fun w' (hb : Below w.heap.size w w') => Cd.later h2 hb)
  have hns : T.1.size ≤ maxLen := by obtain ⟨u, _, h, _⟩ := tab_cells h2; exact h
  have HK := Lib.hid (key_of hns)
  have HWT := Lib.hid hw
  have HWT2 := Lib.hid hwt
  clear h1 h2 ht hw hwt hns
  go_enter Tryz.func23, Tryz.ntmps23
  go_wp2_with fail
  generalize hW : ((w.alloc _).alloc _).alloc _ = W
  obtain ⟨r0, r1, r2, hz, hb0⟩ := start3 w _ _ _ hW
  have HC0 := Lib.hid (Loc1.of r0)
  have HC1 := Lib.hid (Loc3.of r1)
  have HC2 := Lib.hid (Loc1.of r2)
  have HZZ := Lib.hid hz
  have HB0 := Lib.hid hb0
  clear hW r0 r1 r2 hz hb0
  refine (HNA.out _ HB0.out).mono ?_
  rintro e w1 ⟨B, D, n, rfl, hBl, hown, hn6, hm, hb1⟩
  have HB1 := Lib.hid (below_then HB0.out hb1)
  have HC0a := Lib.hid (HC0.out.later hb1)
  have HC1a := Lib.hid (HC1.out.later hb1)
  have HC2a := Lib.hid (HC2.out.later hb1)
  have HBL := Lib.hid (show w.heap.size + 3 ≤ B by have := HZZ.out; omega)
  have HM := Lib.hid (hm.put T.1 ⟨T.1, T.2.1, at_, T.2.2.length, cc⟩)
  have q0 := HC0a.out.c0
  have q1 := HC1a.out.c0
  have q2 := HC1a.out.c1
  have q3 := HC1a.out.c2
  clear hb1 hm hBl
  go_wp2_with (first
    | (at_mapUpdate; refine wpList_mapUpdate_own _ rfl _ _ _ 78 rfl 9 51 law Tryz.underlying78 tabR B n D rfl hown (by unfold maxLen; omega) _ _ (keyL T.1) rfl rfl HK.out _ [] (tabR_mk ⟨T.1, T.2.1, at_, T.2.2.length, cc⟩) ?_; intro w2 hown2 hg2; (have q0' := (HC0a.out.touched (touch_grown hg2) (by have := HBL.out; simp; omega)).c0); go_frame))
  have HO2 := Lib.hid (show Owns w2 B (n + 1) (D.put (keyL T.1) (.held (TabV.val ⟨T.1, T.2.1, at_, T.2.2.length, cc⟩))) from hown2)
  have htg := touch_grown hg2
  have HB2 := Lib.hid (Cd.Touch.below HB1.out htg (fun b hb => by rw [List.mem_singleton.1 hb]; have := HBL.out; omega))
  have HC0b := Lib.hid (HC0a.out.touched htg (by have := HBL.out; simp; omega))
  have HC1b := Lib.hid (HC1a.out.touched htg (by have := HBL.out; simp; omega))
  have HC2b := Lib.hid (HC2a.out.touched htg (by have := HBL.out; simp; omega))
  clear hown hown2 hg2 htg q0 q1 q2 q3
  refine (HV.out _ HB2.out).mono ?_
  rintro e w3 ⟨rfl, hb3⟩
  have HB3 := Lib.hid (below_then HB2.out hb3)
  have HC0c := Lib.hid (HC0b.out.later hb3)
  have HC1c := Lib.hid (HC1b.out.later hb3)
  have HC2c := Lib.hid (HC2b.out.later hb3)
  have HO3 := Lib.hid (Owns.later HO2.out hb3)
  clear hb3 q0'
  have q0 := HC0c.out.c0
  have q1 := HC1c.out.c0
  have q2 := HC1c.out.c1
  have q3 := HC1c.out.c2
  cases hv : dbOk l
  · have HNO := Lib.hid (show setOk l T = false by unfold setOk; rw [hv]; rfl)
    go_wp2_with fail
    refine (HDC.out _ HB3.out).mono ?_
    rintro e w9 ⟨a9, c9, f9, rfl, ho9, hn9, hb9⟩
    have HC9 := Lib.hid (HC2c.out.later hb9)
    have y0 := HC9.out.c0
    have y1 := HC9.out.f0
    have HA := Lib.hid (DbAns.copy (b := setOk l T) (l' := setL l T) (Y := w.heap.size + 2) ho9 hn9 HB3.out hb9 (by omega) (World.block_lt_of_cell? _ _ HC2c.out.c0) (by unfold setL; rw [HNO.out]; rfl) HNO.out)
    clear ho9 hn9 hb9
    go_wp2_with fail
    have k0 : (w9.setCell ⟨w.heap.size + 2, 0, none⟩ (.slice a9 l.length c9)).cell? ⟨w.heap.size + 2, 0, none⟩ = some (.slice a9 l.length c9) := World.cell?_setCell_same _ _ _ y0
    refine bodyPost_ret (v := .tuple #[.agg #[.slice a9 l.length c9], .bool false]) (by simp [results, Tryz.results23, go_sem, k0]) rfl ?_
    exact HA.out
  have HP := Lib.hid (dbOk_iff.1 hv)
  have HVV := Lib.hid hv
  have HM2 := Lib.hid (show MapIs (D.put (keyL T.1) (.held (TabV.val ⟨T.1, T.2.1, at_, T.2.2.length, cc⟩))) (setF (entF ts) T.1 ⟨T.1, T.2.1, at_, T.2.2.length, cc⟩) (putL T l).length from by
    have h := HM.out
    rw [hv] at h
    exact h.eq rfl (put_size (HT.out w (Below.refl _ _)) HP.out.2.2 T))
  clear hv HM
  go_wp2_with fail
  refine (HVT.out _ HB3.out).mono ?_
  rintro e w4 ⟨rfl, hb4⟩
  have HB4 := Lib.hid (below_then HB3.out hb4)
  have HC0d := Lib.hid (HC0c.out.later hb4)
  have HC2d := Lib.hid (HC2c.out.later hb4)
  have HO4 := Lib.hid (Owns.later HO3.out hb4)
  clear hb4 q0 q1 q2 q3
  have q0 := HC0d.out.c0
  cases hT : okT T
  · have HNO := Lib.hid (show setOk l T = false by unfold setOk; rw [hT]; simp)
    go_wp2_with fail
    refine (HDC.out _ HB4.out).mono ?_
    rintro e w9 ⟨a9, c9, f9, rfl, ho9, hn9, hb9⟩
    have HC9 := Lib.hid (HC2d.out.later hb9)
    have y0 := HC9.out.c0
    have y1 := HC9.out.f0
    have HA := Lib.hid (DbAns.copy (b := setOk l T) (l' := setL l T) (Y := w.heap.size + 2) ho9 hn9 HB4.out hb9 (by omega) (World.block_lt_of_cell? _ _ HC2d.out.c0) (by unfold setL; rw [HNO.out]; rfl) HNO.out)
    clear ho9 hn9 hb9
    go_wp2_with fail
    have k0 : (w9.setCell ⟨w.heap.size + 2, 0, none⟩ (.slice a9 l.length c9)).cell? ⟨w.heap.size + 2, 0, none⟩ = some (.slice a9 l.length c9) := World.cell?_setCell_same _ _ _ y0
    refine bodyPost_ret (v := .tuple #[.agg #[.slice a9 l.length c9], .bool false]) (by simp [results, Tryz.results23, go_sem, k0]) rfl ?_
    exact HA.out
  have HTV := Lib.hid hT
  clear hT
  have hlen := World.ownsMap.len HO4.out Tryz.underlying78 3
  rw [HM2.out.size] at hlen
  by_cases h6 : (putL T l).length ≤ 6
  case neg =>
    have HNO := Lib.hid (show setOk l T = false by unfold setOk; rw [decide_eq_false h6]; simp)
    have h6' : ((6 : Int) < ((putL T l).length : Int)) = True := by simp only [eq_iff_iff, iff_true]; omega
    have h6'' : (6 < (putL T l).length) = True := by simp only [eq_iff_iff, iff_true]; omega
    generalize (putL T l).length = q at *
    clear h6
    go_wp2_with fail
    refine (HDC.out _ HB4.out).mono ?_
    rintro e w9 ⟨a9, c9, f9, rfl, ho9, hn9, hb9⟩
    have HC9 := Lib.hid (HC2d.out.later hb9)
    have y0 := HC9.out.c0
    have y1 := HC9.out.f0
    have HA := Lib.hid (DbAns.copy (b := setOk l T) (l' := setL l T) (Y := w.heap.size + 2) ho9 hn9 HB4.out hb9 (by omega) (World.block_lt_of_cell? _ _ HC2d.out.c0) (by unfold setL; rw [HNO.out]; rfl) HNO.out)
    clear ho9 hn9 hb9
    go_wp2_with fail
    have k0 : (w9.setCell ⟨w.heap.size + 2, 0, none⟩ (.slice a9 l.length c9)).cell? ⟨w.heap.size + 2, 0, none⟩ = some (.slice a9 l.length c9) := World.cell?_setCell_same _ _ _ y0
    refine bodyPost_ret (v := .tuple #[.agg #[.slice a9 l.length c9], .bool false]) (by simp [results, Tryz.results23, go_sem, k0]) rfl ?_
    exact HA.out
  have HYES := Lib.hid (show setOk l T = true by unfold setOk; rw [HVV.out, HTV.out, decide_eq_true h6]; rfl)
  have HL6 := Lib.hid h6
  have h6' : ((6 : Int) < ((putL T l).length : Int)) = False := by simp only [eq_iff_iff, iff_false]; omega
  have h6'' : (6 < (putL T l).length) = False := by simp only [eq_iff_iff, iff_false]; omega
  clear h6
  generalize (putL T l).length = q at *
  go_wp2_with fail
  refine (impl_sorted B (n + 1) _ _ _ _ _ w4 HO4.out HM2.out (by have := HL6.out; omega) ((stand_of (HT.out w4 HB4.out) HWT.out).set rfl HWT2.out (HRT.out w4 HB4.out))).mono ?_
  rintro e w5 ⟨R, a5, c5, f5, rfl, ho5, hn5, hR, hmem, hb5⟩
  have HE := Lib.hid (set_eq HP.out.2.2 hR hmem)
  have HC5 := Lib.hid (HC2d.out.later hb5)
  have y0 := HC5.out.c0
  have y1 := HC5.out.f0
  have HO5 := Lib.hid ho5
  have HN5 := Lib.hid hn5
  have HB5 := Lib.hid (below_then HB4.out hb5)
  have HS4 := Lib.hid (World.block_lt_of_cell? _ _ HC2d.out.c0)
  clear ho5 hn5 hb5 hR hmem
  go_wp2_with fail
  have k0 : (w5.setCell ⟨w.heap.size + 2, 0, none⟩ (.slice a5 R.length c5)).cell? ⟨w.heap.size + 2, 0, none⟩ = some (.slice a5 R.length c5) := World.cell?_setCell_same _ _ _ y0
  refine bodyPost_ret (v := .tuple #[.agg #[.slice a5 R.length c5], .bool true]) (by simp [results, Tryz.results23, go_sem, k0]) rfl ?_
  have e : setL l T = R := by unfold setL; rw [HYES.out, HE.out]; rfl
  refine ⟨.slice a5 R.length c5, f5, by rw [HYES.out], ?_, HN5.out, HB5.out.setCell (by show _ ≤ w.heap.size + 2; omega) _⟩
  rw [e]
  exact ow_setCell ((Cd.sl _ tabC).ow_base HO5.out (by have := HS4.out; omega)) (fun q => by have := ((Cd.sl _ tabC).ow_lt HO5.out _ q).1; have := HS4.out; simp only at *; omega) _
end Go.Proofs.YtmifnbplkaonaaaGreat.DbImp

namespace Go.Proofs.YtmifnbplkaonaaaGreat.TabImp
open Go Go.RowKit Byt Ints IntsLaw Cd Rows2 Tab TabSpec Exact

theorem dropR_erase {rows : List (List Int)} {row : List Int} {i : Nat} (ha : Asc rows) (hi : i < rows.length) (he : rows[i] = row) : dropR rows row = rows.eraseIdx i := by
  have e : rows = rows.take i ++ rows[i] :: rows.drop (i + 1) := by rw [← drop_at hi, List.take_append_drop]
  have h1 : (rows.take i).filter (fun r => decide (r ≠ row)) = rows.take i := by
    rw [List.filter_eq_self]
    intro r hr
    obtain ⟨t, ht, rfl⟩ := List.getElem_of_mem hr
    have ht' : t < i := by rw [List.length_take] at ht; omega
    rw [List.getElem_take]
    have := asc_lt ha ht' hi
    exact decide_eq_true fun q => by rw [q, he, cmpR_self] at this; omega
  have h2 : (rows.drop (i + 1)).filter (fun r => decide (r ≠ row)) = rows.drop (i + 1) := by
    rw [List.filter_eq_self]
    intro r hr
    obtain ⟨t, ht, rfl⟩ := List.getElem_of_mem hr
    rw [List.length_drop] at ht
    rw [List.getElem_drop]
    have := asc_lt ha (show i < i + 1 + t by omega) (show i + 1 + t < rows.length by omega)
    exact decide_eq_true fun q => by rw [q, he, cmpR_self] at this; omega
  rw [List.eraseIdx_eq_take_drop_succ]
  conv => lhs; rw [dropR, e]
  rw [List.filter_append, h1, List.filter_cons, if_neg (by simp [he]), h2]

theorem flat_erase : ∀ (l : List (List Nat)) (i : Nat), (l.eraseIdx i).flatten.Sublist l.flatten
  | [], i => by cases i <;> exact List.Sublist.refl _
  | x :: xs, 0 => List.sublist_append_right x _
  | x :: xs, i + 1 => (List.Sublist.refl x).append (flat_erase xs i)

set_option maxRecDepth 100000 in
theorem delete_rows (g n cap i : Nat) (rows : List (List Int)) (fp : List Nat) (base : Nat) (w : World) (how : rowsC.ow w base [.slice (some ⟨g, 0, none⟩) n cap] rows fp) (hnd : fp.Nodup) (hi : i < rows.length) :
    Calls Tryz.prog 136 #[.slice (some ⟨g, 0, none⟩) n cap, .int .i64 i, .int .i64 ((i : Int) + 1)] w fun e w' => ∃ fp', e = .returned (.slice (some ⟨g, 0, none⟩) (n - 1) cap) ∧ rowsC.ow w' base [.slice (some ⟨g, 0, none⟩) (n - 1) cap] (rows.eraseIdx i) fp' ∧ fp'.Nodup ∧ (∀ b ∈ fp', b ∈ fp) ∧ Cd.Touch [g] w w' := by
  obtain ⟨i0, hi0, hz0, hz1, hz2⟩ := info_parts info_ints
  obtain ⟨cur, xss, fps, hg, hcs, hnl, hnc, hcm, hb, ht, hE, rfl⟩ := Cd.ow_bare (c := rowC) rfl how
  have h1 := hE.one
  have hlen : xss.flatten.length = rows.length := by rw [hE.flatten_len]; exact Nat.mul_one _
  have hol : (Cd.ones xss.flatten h1).length = rows.length := by rw [Cd.ones_length, hlen]
  have hH := Cd.holds_ones h1 hg ht
  have hd := Tryz.slices_Delete Cd.One.v (fun x => x.one) ⟨.slice none 0 0, rfl⟩ Tryz.zeroValue27 i0 hi0 hz1 g 0 cap i (i + 1) (Cd.ones xss.flatten h1).toArray w hH (by rw [List.size_toArray, hol]; omega) (by unfold maxLen at hcm; omega) (by omega) (by rw [List.size_toArray, hol]; omega)
  rw [List.size_toArray, hol, ← hnl] at hd
  refine hd.mono ?_
  rintro e w' ⟨rfl, q, rfl⟩
  have e1 : i + 1 - i = 1 := by omega
  rw [e1]
  have hsz : ((Cd.ones xss.flatten h1).take i ++ (Cd.ones xss.flatten h1).drop (i + 1) ++ List.replicate 1 (⟨.slice none 0 0, rfl⟩ : Cd.One)).length = n := by
    rw [List.length_append, List.length_append, List.length_take, List.length_drop, List.length_replicate, hol]
    omega
  have hn1 : n - 1 = (rows.eraseIdx i).length := by rw [List.length_eraseIdx, if_pos hi]; omega
  refine ⟨_, rfl, Cd.ow_bared (c := rowC) rfl (Cd.heap_putRow _ _ g _ (show (Sort.ahead w q).heap[g]? = _ from hg)) (by rw [Cd.putCells_size]; exact hcs) hn1 (by omega) hcm hb ?_ ((hE.erase i).imp fun x a f hf hq => rowC.ow_keep hq fun b hbf => ?_), ?_, ?_, ?_⟩
  · rw [Cd.putCells_take _ _ _ (by rw [List.size_toArray, hsz]; omega) (by rw [List.size_toArray, hsz, hcs]; exact hnc)]
    rw [Cd.flatten_erase_one (c := rowC) rfl hE i, List.eraseIdx_eq_take_drop_succ]
    simp only [List.map_append, List.map_take, List.map_drop, Cd.ones_val]
    rw [List.take_append_of_le_length (by rw [List.length_append, List.length_take, List.length_drop, hlen]; omega)]
    exact List.take_of_length_le (by rw [List.length_append, List.length_take, List.length_drop, hlen]; omega)
  · refine Cd.heap_putRow_other _ _ g _ fun q => ?_
    subst q
    have hfl : b ∈ fps.flatten := List.mem_flatten.2 ⟨f, List.mem_of_mem_eraseIdx hf, hbf⟩
    exact (List.nodup_cons.1 hnd).1 hfl
  · rw [List.nodup_cons] at hnd ⊢
    exact ⟨fun q => hnd.1 ((flat_erase _ _).subset q), hnd.2.sublist (flat_erase _ _)⟩
  · intro b hb
    rcases List.mem_cons.1 hb with rfl | q
    · exact List.mem_cons_self
    · exact List.mem_cons_of_mem _ ((flat_erase _ _).subset q)
  · exact (Cd.touch_ahead _ w q).trans (Cd.touch_putRow _ _ g _)

set_option maxRecDepth 100000 in
set_option maxHeartbeats 3200000 in
theorem impl_delete (nm : ByteArray) (ar : Int) (u v : Value) (rows : List (List Int)) (row : List Int) (S S2 : Nat → Prop) (w : World) (hr : rowsC.rd w S [u] rows) (hv : rowC.rd w S2 [v] row) (hrw : rowsWt rows ≤ 1048577) (hnm : nm.size ≤ 1048577) :
    Calls Tryz.prog 135 #[.agg #[.string nm, .int .i64 ar, u], v] w fun e w' => ∃ u' fp, e = .returned (.tuple #[.agg #[.string nm, .int .i64 ar, u'], .bool (hasR nm ar rows row)]) ∧ rowsC.ow w' w.heap.size [u'] (delR nm ar rows row) fp ∧ fp.Nodup ∧ Below w.heap.size w w' := by
  have HR := Lib.hid (fun w' (hb : Below w.heap.size w w') => Cd.later hr hb)
  have HV := Lib.hid (fun w' (hb : Below w.heap.size w w') => Cd.later hv hb)
  have HWT := Lib.hid hrw
  have HNM := Lib.hid hnm
  obtain ⟨a, cap, rfl, hlm⟩ := rows_form hr
  obtain ⟨av, cv, rfl, _⟩ := (row_ri hv).1
  clear hr hv hrw hnm
  go_enter Tryz.func135, Tryz.ntmps135
  go_wp2_with fail
  generalize hW : (w.alloc _).alloc _ = W
  obtain ⟨r0, r1, hz, hb0⟩ := start2g w _ _ hW
  clear hW
  refine (copy_table nm ar _ rows S W (HR.out W hb0) HWT.out HNM.out).mono ?_
  rintro e W1 ⟨gx, fp, rfl, how, hnd, hb1⟩
  have l0 := (Loc3.of r0).later hb1
  have l1 := (Loc3.of r1).later hb1
  have hs1 := hb1.size
  have HFR := Lib.hid (show Fr w W1.heap.size nm ar (.slice a rows.length cap) (.slice (some ⟨gx, 0, none⟩) rows.length rows.length) _ _ _ rows fp (W1.alloc (.cells #[.string nm, .int .i64 ar, .slice (some ⟨gx, 0, none⟩) rows.length rows.length] 51 (0, 0))) from
    ⟨below_then (below_then hb0 hb1) (below_alloc _ _), l0.later (below_alloc _ _), l1.later (below_alloc _ _), Loc3.of (row_alloc _ _), Cd.ow_later (rowsC.ow_base how (by omega)) (below_alloc _ _), hnd, fun q => by have := (rowsC.ow_lt how _ q).2; omega, by omega⟩)
  obtain ⟨d0, d1, d2, _, _, _⟩ := l0
  have hH : w.heap.size < W1.heap.size := by omega
  have HN := Lib.hid (And.intro hH (show w.heap.size + 1 < W1.heap.size by omega))
  clear r0 r1 hz hb0 hb1 how hnd l1 hs1
  go_wp2_with fail
  generalize hW2 : W1.alloc _ = W2 at *
  generalize W1.heap.size = X at *
  clear hW2 d0 d1 d2 hH
  have HFD := Lib.hid (find_row nm ar _ _ rows row S S2 W2 (HR.out W2 HFR.out.b) (HV.out W2 HFR.out.b))
  refine HFD.out.mono ?_
  rintro e W3 ⟨i, rfl, hfd, hil, hb3⟩
  have HF := Lib.hid (HFR.out.later hb3)
  have HFP := Lib.hid hfd
  have HIL := Lib.hid hil
  clear hb3 hfd hil
  by_cases hin : hasR nm ar rows row = true
  case neg =>
    have hin : hasR nm ar rows row = false := by simpa using hin
    have HD := Lib.hid (show delR nm ar rows row = rows by rw [delR, hin]; rfl)
    have HIN := Lib.hid hin
    rw [hin]
    clear hin
    obtain ⟨y0, y1, y2, _, _, _⟩ := HF.out.x
    obtain ⟨p0, p1, p2, q0, q1, q2⟩ := HF.out.r
    go_wp2_with fail
    obtain ⟨k0, k1, k2⟩ := set3 (w := W3) (k := w.heap.size + 1) (x := .string nm) (y := .int .i64 ar) (z := .slice (some ⟨gx, 0, none⟩) rows.length rows.length) p0 p1 p2
    refine bodyPost_ret (v := .tuple #[.agg #[.string nm, .int .i64 ar, .slice (some ⟨gx, 0, none⟩) rows.length rows.length], .bool false]) (by simp [results, Tryz.results135, go_sem, k0, k1, k2]) rfl ⟨_, fp, by rw [HIN.out], ?_, HF.out.n, ?_⟩
    · rw [HD.out]
      exact rowsC.ow_base (ow_setCell (ow_setCell (ow_setCell HF.out.o HF.out.not1 _) HF.out.not1 _) HF.out.not1 _) (by omega)
    · exact ((HF.out.b.setCell (by show _ ≤ w.heap.size + 1; omega) _).setCell (by show _ ≤ w.heap.size + 1; omega) _).setCell (by show _ ≤ w.heap.size + 1; omega) _
  have hP := of_decide_eq_true hin
  have hasc := hP.1.2.2.2.2.2
  obtain ⟨hi, he⟩ := (find_mem hasc (HFP.out (decide_eq_true hP.1))).1 hP.2
  have HD := Lib.hid (show delR nm ar rows row = rows.eraseIdx i by rw [delR, hin, if_pos rfl]; exact dropR_erase hasc hi he)
  have HIN := Lib.hid hin
  rw [hin]
  have HDEL := Lib.hid (delete_rows gx rows.length rows.length i rows fp (w.heap.size + 2) W3 HF.out.o HF.out.n hi)
  have HI := Lib.hid hi
  have hi63 : (i : Int) + 1 ≤ 9223372036854775807 := by have := HWT.out; unfold rowsWt at this; omega
  have HGX := Lib.hid (show gx ∈ fp from by
    obtain ⟨_, _, _, _, _, _, _, _, _, _, _, e1⟩ := Cd.ow_bare (c := rowC) rfl HF.out.o
    rw [e1]; exact List.mem_cons_self)
  clear hin hP hasc hi he
  obtain ⟨y0, y1, y2, g0, g1, g2⟩ := HF.out.x
  go_wp2_with fail
  refine HDEL.out.mono ?_
  rintro e W5 ⟨fp5, rfl, ho5, hn5, hs5, ht5⟩
  have hX : X ∉ [gx] := fun q => HF.out.d (by rw [List.mem_singleton.1 q]; exact HGX.out)
  have hR : w.heap.size + 1 ∉ [gx] := fun q => HF.out.not1 (by rw [List.mem_singleton.1 q]; exact HGX.out)
  have hgx2 := (rowsC.ow_lt HF.out.o gx HGX.out).1
  have hT : w.heap.size ∉ [gx] := fun q => by have := List.mem_singleton.1 q; omega
  have hx2 := Loc3.set2 (HF.out.x.touched ht5 hX) (.slice (some ⟨gx, 0, none⟩) (rows.length - 1) rows.length)
  have HF5 := Lib.hid (show Fr w X nm ar (.slice a rows.length cap) (.slice (some ⟨gx, 0, none⟩) (rows.length - 1) rows.length) _ _ _ (rows.eraseIdx i) fp5 (W5.setCell ⟨X, 2, none⟩ (.slice (some ⟨gx, 0, none⟩) (rows.length - 1) rows.length)) from
    ⟨(ht5.below HF.out.b (fun b hb => by have := List.mem_singleton.1 hb; omega)).setCell (by show _ ≤ X; have := HF.out.g; omega) _, (HF.out.t.touched ht5 hT).set_far (by show X ≠ _; have := HF.out.g; omega) _, (HF.out.r.touched ht5 hR).set_far (by show X ≠ _; have := HF.out.g; omega) _, hx2,
      ow_setCell ho5 (fun q => HF.out.d (hs5 _ q)) _, hn5, fun q => HF.out.d (hs5 _ q), HF.out.g⟩)
  obtain ⟨z0, z1, z2, j0, j1, j2⟩ := HF.out.x.touched ht5 hX
  clear ho5 hn5 hs5 ht5 hX hR hT hx2 y0 y1 y2 g0 g1 g2 hgx2
  obtain ⟨y0, y1, y2, _, _, _⟩ := HF5.out.x
  obtain ⟨p0, p1, p2, q0, q1, q2⟩ := HF5.out.r
  go_wp2_with fail
  obtain ⟨k0, k1, k2⟩ := set3 (w := (W5.setCell ⟨X, 2, none⟩ (.slice (some ⟨gx, 0, none⟩) (rows.length - 1) rows.length))) (k := w.heap.size + 1) (x := .string nm) (y := .int .i64 ar) (z := .slice (some ⟨gx, 0, none⟩) (rows.length - 1) rows.length) p0 p1 p2
  refine bodyPost_ret (v := .tuple #[.agg #[.string nm, .int .i64 ar, .slice (some ⟨gx, 0, none⟩) (rows.length - 1) rows.length], .bool true]) (by simp [results, Tryz.results135, go_sem, k0, k1, k2]) rfl ⟨_, fp5, by rw [HIN.out], ?_, HF5.out.n, ?_⟩
  · rw [HD.out]
    exact rowsC.ow_base (ow_setCell (ow_setCell (ow_setCell HF5.out.o HF5.out.not1 _) HF5.out.not1 _) HF5.out.not1 _) (by omega)
  · exact ((HF5.out.b.setCell (by show _ ≤ w.heap.size + 1; omega) _).setCell (by show _ ≤ w.heap.size + 1; omega) _).setCell (by show _ ≤ w.heap.size + 1; omega) _
end Go.Proofs.YtmifnbplkaonaaaGreat.TabImp

namespace Go.Proofs.YtmifnbplkaonaaaGreat.TabImp
open Go Go.RowKit Byt Ints IntsLaw Cd Rows2 Tab TabSpec Exact

def InsAns (n : Nat) (rows : List (List Int)) (row : List Int) (i : Nat) (fp f : List Nat) (base : Nat) (w : World) (e : Ending) (w' : World) : Prop :=
  ∃ g' c' fp', e = .returned (.slice (some ⟨g', 0, none⟩) (n + 1) c') ∧ rowsC.ow w' base [.slice (some ⟨g', 0, none⟩) (n + 1) c'] (Cd.ins rows i row) fp' ∧ fp'.Nodup ∧ (∀ x ∈ fp', x ∈ fp ∨ x ∈ f ∨ w.heap.size ≤ x) ∧ Cd.Touch fp w w'

set_option maxRecDepth 100000 in
theorem insert_end (g n : Nat) (rows : List (List Int)) (fp : List Nat) (base : Nat) (w : World) (how : rowsC.ow w base [.slice (some ⟨g, 0, none⟩) n n] rows fp) (hnd : fp.Nodup) (hnl : n = rows.length) (hn8 : n ≤ 8) (b : Nat) (u : Value) (row : List Int) (f : List Nat) (hu : w.cell? ⟨b, 0, none⟩ = some u) (hrow : rowC.ow w base [u] row f) (hfd : f.Nodup) (hdis : ∀ x ∈ f, x ∉ fp) (hbase : base ≤ w.heap.size) :
    Calls Tryz.prog 127 #[.slice (some ⟨g, 0, none⟩) n n, .int .i64 n, .slice (some ⟨b, 0, none⟩) 1 1] w fun e w' => InsAns n rows row n fp f base w e w' := by
  have HOW := Lib.hid how
  have HND := Lib.hid hnd
  have HU := Lib.hid hu
  have HROW := Lib.hid hrow
  have HFD := Lib.hid hfd
  have HDIS := Lib.hid hdis
  have HB := Lib.hid hbase
  have HNL := Lib.hid hnl
  clear how hnd hu hrow hfd hdis hbase hnl
  go_enter Tryz.func127, Tryz.ntmps127
  go_wp2_with (at_builtin; refine Cd.wpList_appendE (c := rowC) rfl rfl (.tmp 23) (.tmp 24) 49 rfl base 27 (.slice none 0 0) 24 Tryz.underlying49 info_ints rfl (by decide) (.slice (some ⟨g, 0, none⟩) n n) rows fp rfl HOW.out HND.out b u rfl HU.out row f HROW.out HFD.out HDIS.out (by have := HNL.out; omega) HB.out ?_)
  intro g' c' w' fp' h1 h2 h3 h4
  rw [← HNL.out] at h1 ⊢
  go_wp2_with fail
  go_ret
  have e1 : Cd.ins rows n row = rows ++ [row] := by
    unfold Cd.ins
    rw [List.take_of_length_le (by have := HNL.out; omega), List.drop_eq_nil_of_le (by have := HNL.out; omega)]
  exact ⟨g', c', fp', rfl, by rw [e1]; exact h1, h2, h3, h4⟩
theorem add_at (b o j : Nat) : (⟨b, o, none⟩ : Addr).add j = ⟨b, o + j, none⟩ := by unfold Addr.add; split <;> simp_all
theorem splice2 {us zs : List Value} {u : Value} {i n G : Nat} (hl : us.length = n) (hi : i < n) (hz : zs.length = G - i) (hG : n + 1 ≤ G) :
    (splice (splice (us.take i ++ zs) i [u]) (i + 1) (us.drop i)).length = G ∧ (splice (splice (us.take i ++ zs) i [u]) (i + 1) (us.drop i)).take (n + 1) = Cd.ins us i u := by
  have h1 : (us.take i).length = i := by rw [List.length_take]; omega
  have h2 : (us.drop i).length = n - i := by rw [List.length_drop]; omega
  have e1 : splice (us.take i ++ zs) i [u] = us.take i ++ ([u] ++ zs.drop 1) := by
    unfold splice
    rw [List.take_left' h1, List.length_singleton, List.drop_append, List.drop_eq_nil_of_le (show (us.take i).length ≤ i + 1 by omega), h1]
    simp
  have e2 : splice (us.take i ++ ([u] ++ zs.drop 1)) (i + 1) (us.drop i) = us.take i ++ [u] ++ (us.drop i ++ (zs.drop 1).drop (n - i)) := by
    rw [show us.take i ++ ([u] ++ zs.drop 1) = (us.take i ++ [u]) ++ zs.drop 1 from (List.append_assoc _ _ _).symm]
    unfold splice
    rw [List.take_left' (show (us.take i ++ [u]).length = i + 1 by rw [List.length_append, h1]; rfl), h2, List.drop_append]
    rw [List.drop_eq_nil_of_le (show (us.take i ++ [u]).length ≤ i + 1 + (n - i) by rw [List.length_append, h1, List.length_singleton]; omega)]
    rw [show i + 1 + (n - i) - (us.take i ++ [u]).length = n - i by rw [List.length_append, h1, List.length_singleton]; omega]
    rfl
  rw [e1, e2]
  constructor
  · simp only [List.length_append, List.length_drop, List.length_singleton, h1, h2, hz]
    omega
  · rw [← List.append_assoc, List.take_left' (by simp only [List.length_append, List.length_singleton, h1, h2]; omega)]
    unfold Cd.ins
    rw [List.append_assoc]
    rfl

set_option maxRecDepth 100000 in
set_option maxHeartbeats 3200000 in
theorem insert_grow (g n i : Nat) (rows : List (List Int)) (fp : List Nat) (base : Nat) (w : World) (how : rowsC.ow w base [.slice (some ⟨g, 0, none⟩) n n] rows fp) (hnd : fp.Nodup) (hnl : n = rows.length) (hi : i < n) (hn8 : n ≤ 8) (b : Nat) (u : Value) (row : List Int) (f : List Nat) (hu : w.cell? ⟨b, 0, none⟩ = some u) (hrow : rowC.ow w base [u] row f) (hfd : f.Nodup) (hdis : ∀ x ∈ f, x ∉ fp) (hbase : base ≤ w.heap.size) :
    Calls Tryz.prog 127 #[.slice (some ⟨g, 0, none⟩) n n, .int .i64 i, .slice (some ⟨b, 0, none⟩) 1 1] w fun e w' => InsAns n rows row i fp f base w e w' := by
  obtain ⟨i0, hi0, hz0, hz1, hz2⟩ := info_parts info_ints
  obtain ⟨cur, xss, fps, hg, hcs, hnl2, hnc, hcm, hb, ht, hE, hfp⟩ := Cd.ow_bare (c := rowC) rfl how
  clear hnl2
  have h1 := hE.one
  have hlen : xss.flatten.length = n := by rw [hE.flatten_len, hnl]; exact Nat.mul_one _
  have hu1 : u.oneCell' = true := rowC.one (rowC.ow_rd hrow) u (List.mem_singleton.2 rfl)
  have hcell : ∀ j v, xss.flatten[j]? = some v → w.cell? ⟨g, j, none⟩ = some v := fun j v hj => by
    have hjl : j < n := by rw [← hlen]; exact (List.getElem?_eq_some_iff.1 hj).1
    have : (cur.toList.take n)[j]? = xss.flatten[j]? := by rw [ht]
    rw [List.getElem?_take, if_pos hjl, Array.getElem?_toList, hj] at this
    simp [World.cell?, hg, this]
  have hgw : g < w.heap.size := (Array.getElem?_eq_some_iff.1 hg).1
  have hbw : b < w.heap.size := World.block_lt_of_cell? w _ hu
  obtain ⟨us, hus⟩ : ∃ us, us = xss.flatten := ⟨_, rfl⟩
  rw [← hus] at hcell hlen ht h1
  -- the append of a make
  obtain ⟨G, hG⟩ : ∃ G, G = grownCap w (n + 1) n 27 := ⟨_, rfl⟩
  obtain ⟨zs, hzs⟩ : ∃ zs : List Value, zs = (Builtin.zeroCells (Value.slice none 0 0).cells (n + 1 - i)).toList ++ (Builtin.zeroCells (Value.slice none 0 0).cells (G - (n + 1))).toList := ⟨_, rfl⟩
  have hGn : n + 1 ≤ G := by rw [hG]; exact grownCap_ge w _ _ _
  have hGm : G ≤ maxLen := by rw [hG]; exact grownCap_le_maxLen w _ _ _ (by unfold maxLen; omega)
  have hzl : zs.length = G - i := by
    rw [hzs]
    simp [Builtin.zeroCells, Value.cells]
    omega
  have hrun : ∀ ty, (Builtin.append_ #[49, 3] ty #[.slice (some ⟨g, 0, none⟩) i n, .int .i64 ((n : Int) + 1 - (i : Int))]).run Tryz.prog w = .ok (.slice (some ⟨w.heap.size, 0, none⟩) (n + 1) G) (w.drew.alloc (.cells (us.take i ++ zs).toArray 27 (0, 0))) := fun ty => by
    have hold : (Builtin.firstCells i0.size i (.slice (some ⟨g, 0, none⟩) i n)).run Tryz.prog w.drew = .ok (us.take i).toArray w.drew := by
      rw [hz1]
      exact run_firstCells_some w.drew 1 i ⟨g, 0, none⟩ i n (us.take i) (by rw [List.length_take]; omega) (fun j v hj => by
        rw [add_at, Nat.zero_add]
        rw [List.getElem?_take] at hj
        split at hj
        · exact hcell j v hj
        · cases hj)
    have h := Lib.run_append_grow_zeros w 49 3 ty 27 i0 _ .i64 .i64 Tryz.underlying49 Tryz.underlying3 hi0 hz0 (some ⟨g, 0, none⟩) i n (us.take i) hold (n + 1 - i) (by omega) (by rw [hz1]; omega) (by omega) (by omega) (by rw [hz2]; omega) (by rw [show i + (n + 1 - i) = n + 1 by omega, hz2]; exact growslice_fits (by omega) (by omega))
    rw [show i + (n + 1 - i) = n + 1 by omega, ← hG] at h
    rw [show ((n + 1 - i : Nat) : Int) = (n : Int) + 1 - (i : Int) by omega] at h
    rw [h, hzs]
    congr 3
    simp
  obtain ⟨sl1, sl2⟩ := splice2 (u := u) hlen hi hzl hGn
  have HRUN := Lib.hid hrun
  have HUS := Lib.hid hus
  have HLEN := Lib.hid hlen
  have HZL := Lib.hid hzl
  have HGN := Lib.hid hGn
  have HGM := Lib.hid hGm
  have HCELL := Lib.hid hcell
  have HU := Lib.hid hu
  have HROW := Lib.hid hrow
  have HFD := Lib.hid hfd
  have HDIS := Lib.hid hdis
  have HB := Lib.hid hbase
  have HNL := Lib.hid hnl
  have HND := Lib.hid hnd
  have HE := Lib.hid hE
  have HFP := Lib.hid hfp
  have HH := Lib.hid (And.intro hgw hbw)
  have H1 := Lib.hid h1
  have HU1 := Lib.hid hu1
  have HHB := Lib.hid hb
  have HS1 := Lib.hid sl1
  have HS2 := Lib.hid sl2
  have HSZ := Lib.hid (show (Tryz.prog.info? 27).map (·.size) = some 1 by rw [hi0]; simp [hz1])
  have HOWK := Lib.hid how
  clear hrun hus hlen hzl hGn hGm hcell hu hrow hfd hdis hbase hnl hnd hE hfp hgw hbw h1 hu1 hb sl1 sl2 hG hzs hi0 hz0 hz1 hz2 hg hcs hnc hcm ht how
  have p1 : ¬ ((i : Int) = (n : Int)) := by omega
  have p2 : (n : Int) < (n : Int) + 1 := by omega
  have p3 : ¬ (n = i) := by omega
  have p4 : ¬ (G = i) := by have := HGN.out; omega
  have p5 : ¬ (G = i + 1) := by have := HGN.out; omega
  have p6 : i ≤ n := by omega
  have p7 : i ≤ n + 1 := by omega
  have p8 : n + 1 ≤ G := HGN.out
  have p9 : IntKind.i64.wrap ((i : Int) + 1) = (i : Int) + 1 := by rw [IntKind.wrap_i64]; omega
  have p10 : (0 : Int) ≤ (i : Int) + 1 := by omega
  have p11 : ((i : Int) + 1).toNat = i + 1 := by omega
  have p12 : G ≤ 9223372036854775807 := by have := HGM.out; unfold maxLen at this; omega
  generalize hW1 : w.drew.alloc (.cells (us.take i ++ zs).toArray 27 (0, 0)) = W1 at HRUN
  have hg1 : W1.heap[w.heap.size]? = some (.cells (us.take i ++ zs).toArray 27 (0, 0)) := by rw [← hW1]; exact heap_alloc_new w.drew _
  have hb1 : Below w.heap.size w W1 := by
    have := below_alloc w.drew (.cells (us.take i ++ zs).toArray 27 (0, 0))
    rw [hW1] at this
    exact ⟨this.os, this.tape, this.output, this.size, this.block⟩
  have HG1 := Lib.hid hg1
  have HB1 := Lib.hid hb1
  clear hW1 hg1 hb1
  have ql : (us.take i ++ zs).length = G := by rw [List.length_append, List.length_take, HZL.out, HLEN.out]; omega
  have hn1 : [u].length = Nat.min 1 (n + 1 - i) := (Nat.min_eq_left (show 1 ≤ n + 1 - i by omega)).symm
  have hfit1 : i + [u].length ≤ (us.take i ++ zs).length := by rw [ql]; simp; omega
  have hone1 : ∀ v ∈ [u], v.oneCell' = true := fun v hv => by rw [List.mem_singleton.1 hv]; exact HU1.out
  have hpos1 : 0 < [u].length → (some ⟨w.heap.size, i, none⟩ : Option Addr) = some ⟨w.heap.size, i, none⟩ ∧ ∃ ad, (some ⟨b, 0, none⟩ : Option Addr) = some ad ∧ ∀ j v, [u][j]? = some v → W1.cell? (ad.add j) = some v := fun _ => ⟨rfl, ⟨b, 0, none⟩, rfl, fun j v hj => by
    match j, hj with
    | 0, hj =>
      rw [add_at, HB1.out.cell (p := ⟨b, 0, none⟩) HH.out.2, HU.out]
      simpa using hj⟩
  have hdl : (us.drop i).length = n - i := by rw [List.length_drop, HLEN.out]
  have hn2 : (us.drop i).length = Nat.min (n - i) (n + 1 - (i + 1)) := by rw [hdl]; exact (Nat.min_eq_left (by omega)).symm
  have hfit2 : i + 1 + (us.drop i).length ≤ (splice (us.take i ++ zs) i [u]).length := by rw [length_splice _ _ _ hfit1, ql, hdl]; omega
  have hone2 : ∀ v ∈ us.drop i, v.oneCell' = true := fun v hv => H1.out v (List.mem_of_mem_drop hv)
  have hpos2 : ∀ W : World, Below w.heap.size w W → 0 < (us.drop i).length → (some ⟨w.heap.size, i + 1, none⟩ : Option Addr) = some ⟨w.heap.size, i + 1, none⟩ ∧ ∃ ad, (some ⟨g, i, none⟩ : Option Addr) = some ad ∧ ∀ j v, (us.drop i)[j]? = some v → W.cell? (ad.add j) = some v := fun W hW _ => ⟨rfl, ⟨g, i, none⟩, rfl, fun j v hj => by
    rw [add_at, hW.cell (p := ⟨g, i + j, none⟩) HH.out.1]
    rw [List.getElem?_drop] at hj
    exact HCELL.out _ _ hj⟩
  have HN1 := Lib.hid hn1
  have HN2 := Lib.hid hn2
  have HF1 := Lib.hid hfit1
  have HF2 := Lib.hid hfit2
  have HO1 := Lib.hid hone1
  have HO2 := Lib.hid hone2
  have HP1 := Lib.hid hpos1
  have HP2 := Lib.hid hpos2
  clear ql hn1 hfit1 hone1 hpos1 hdl hn2 hfit2 hone2 hpos2
  go_enter Tryz.func127, Tryz.ntmps127
  go_wp2_with (first
    | (at_builtin; refine Lib.wpList_append_run _ rfl _ _ _ _ rfl _ _ rfl rfl _ _ (HRUN.out _) ?_)
    | (with_reducible refine wpList_copy_splice rfl (.tmp 43) (.tmp 44) 49 49 rfl 27 Tryz.underlying49 HSZ.out (some ⟨w.heap.size, i, none⟩) (some ⟨b, 0, none⟩) (n + 1 - i) (G - i) 1 1 rfl rfl w.heap.size i (us.take i ++ zs) 27 HG1.out [u] HN1.out HP1.out HF1.out HO1.out w.heap.size w HB1.out (Nat.le_refl _) ?_))
  intro w2 hg2 hb2
  have HG2 := Lib.hid (show w2.drew.heap[w.heap.size]? = _ from hg2.out)
  have HB2 := Lib.hid (show Below w.heap.size w w2.drew from ⟨hb2.os, hb2.tape, hb2.output, hb2.size, hb2.block⟩)
  clear hg2 hb2
  go_wp2_with fail
  go_region_law (refine step_copy_splice rfl (.tmp 50) (.tmp 53) 49 49 rfl 27 Tryz.underlying49 HSZ.out (some ⟨w.heap.size, i + 1, none⟩) (some ⟨g, i, none⟩) (n + 1 - (i + 1)) (G - (i + 1)) (n - i) (n - i) (by simp [Act.eval, Act.put]) (by simp [Act.eval, Act.put]) w.heap.size (i + 1) (splice (us.take i ++ zs) i [u]) 27 HG2.out (us.drop i) HN2.out (fun h => ⟨rfl, (HP2.out w2.drew HB2.out h).2⟩) HF2.out HO2.out w.heap.size w HB2.out (Nat.le_refl _) ?_; intro w4 hg4 hb4)
  all_goals
    go_wp2_with fail
    go_ret
    have hfl : ∀ x ∈ fps.flatten, x < w.heap.size := fun x hx => (rowsC.ow_lt HOWK.out x (by rw [HFP.out]; exact List.mem_cons_of_mem _ hx)).2
    have hnn : (rowsC.ow w base [.slice (some ⟨g, 0, none⟩) n n] rows fp) := HOWK.out
    have hfn : fps.flatten.Nodup := (List.nodup_cons.1 (by rw [← HFP.out]; exact HND.out)).2
    have hdd : ∀ x ∈ f, x ∉ fps.flatten := fun x hx q => HDIS.out x hx (by rw [HFP.out]; exact List.mem_cons_of_mem _ q)
    refine ⟨w.heap.size, G, w.heap.size :: (Cd.ins fps i f).flatten, rfl, Cd.ow_bared (c := rowC) rfl hg4.out ?_ ?_ HGN.out HGM.out HB.out ?_ (Cd.Each.ins (c := rowC) (w := w4) (HE.out.imp fun x a f' hf' hq => rowC.ow_keep hq fun y hy => hb4.block y (rowC.ow_lt hq y hy).2) (rowC.ow_keep HROW.out fun y hy => hb4.block y (rowC.ow_lt HROW.out y hy).2) i), ?_, ?_, Cd.Touch.of_below hb4⟩
    · rw [List.size_toArray]; exact HS1.out
    · rw [Cd.ins_length, ← HNL.out]
    · rw [show ((splice (splice (us.take i ++ zs) i [u]) (i + 1) (us.drop i)).toArray).toList = _ from rfl, HS2.out, HUS.out, Cd.flatten_ins_one (c := rowC) rfl HE.out i]
    · rw [List.nodup_cons]
      refine ⟨fun q => ?_, Cd.nodup_ins hfn HFD.out hdd i⟩
      rcases Cd.mem_ins q with q | q
      · have := hfl _ q; omega
      · have := (rowC.ow_lt HROW.out _ q).2; omega
    · intro x hx
      rcases List.mem_cons.1 hx with rfl | q
      · exact .inr (.inr (Nat.le_refl _))
      · rcases Cd.mem_ins q with q | q
        · exact .inl (by rw [HFP.out]; exact List.mem_cons_of_mem _ q)
        · exact .inr (.inl q)
theorem insert_rows (g n i : Nat) (rows : List (List Int)) (fp : List Nat) (base : Nat) (w : World) (how : rowsC.ow w base [.slice (some ⟨g, 0, none⟩) n n] rows fp) (hnd : fp.Nodup) (hnl : n = rows.length) (hi : i ≤ n) (hn8 : n ≤ 8) (b : Nat) (u : Value) (row : List Int) (f : List Nat) (hu : w.cell? ⟨b, 0, none⟩ = some u) (hrow : rowC.ow w base [u] row f) (hfd : f.Nodup) (hdis : ∀ x ∈ f, x ∉ fp) (hbase : base ≤ w.heap.size) :
    Calls Tryz.prog 127 #[.slice (some ⟨g, 0, none⟩) n n, .int .i64 i, .slice (some ⟨b, 0, none⟩) 1 1] w fun e w' => InsAns n rows row i fp f base w e w' := by
  by_cases h : i = n
  · subst h
    exact insert_end g i rows fp base w how hnd hnl hn8 b u row f hu hrow hfd hdis hbase
  · exact insert_grow g n i rows fp base w how hnd hnl (by omega) hn8 b u row f hu hrow hfd hdis hbase
end Go.Proofs.YtmifnbplkaonaaaGreat.TabImp

namespace Go.Proofs.YtmifnbplkaonaaaGreat.TabImp
open Go Go.RowKit Byt Ints IntsLaw Cd Rows2 Tab TabSpec Exact

set_option maxRecDepth 100000 in
set_option maxHeartbeats 3200000 in
theorem impl_insert (nm : ByteArray) (ar : Int) (u v : Value) (rows : List (List Int)) (row : List Int) (S S2 : Nat → Prop) (w : World) (hr : rowsC.rd w S [u] rows) (hv : rowC.rd w S2 [v] row) (hrw : rowsWt rows ≤ 1048577) (hnm : nm.size ≤ 1048577) (hrl : row.length ≤ 1048577) :
    Calls Tryz.prog 125 #[.agg #[.string nm, .int .i64 ar, u], v] w fun e w' => ∃ u' fp, e = .returned (.tuple #[.agg #[.string nm, .int .i64 ar, u'], .bool (insOk nm ar rows row)]) ∧ rowsC.ow w' w.heap.size [u'] (insR nm ar rows row) fp ∧ fp.Nodup ∧ Below w.heap.size w w' := by
  have HR := Lib.hid (fun w' (hb : Below w.heap.size w w') => Cd.later hr hb)
  have HV := Lib.hid (fun w' (hb : Below w.heap.size w w') => Cd.later hv hb)
  have HWT := Lib.hid hrw
  have HNM := Lib.hid hnm
  have HRL := Lib.hid hrl
  obtain ⟨a, cap, rfl, hlm⟩ := rows_form hr
  obtain ⟨av, cv, rfl, _⟩ := (row_ri hv).1
  clear hr hv hrw hnm hrl
  go_enter Tryz.func125, Tryz.ntmps125
  go_wp2_with fail
  generalize hW : (w.alloc _).alloc _ = W
  obtain ⟨r0, r1, hz, hb0⟩ := start2g w _ _ hW
  clear hW
  refine (copy_table nm ar _ rows S W (HR.out W hb0) HWT.out HNM.out).mono ?_
  rintro e W1 ⟨gx, fp, rfl, how, hnd, hb1⟩
  have l0 := (Loc3.of r0).later hb1
  have l1 := (Loc3.of r1).later hb1
  have hs1 := hb1.size
  have HFR := Lib.hid (show Fr w W1.heap.size nm ar (.slice a rows.length cap) (.slice (some ⟨gx, 0, none⟩) rows.length rows.length) _ _ _ rows fp (W1.alloc (.cells #[.string nm, .int .i64 ar, .slice (some ⟨gx, 0, none⟩) rows.length rows.length] 51 (0, 0))) from
    ⟨below_then (below_then hb0 hb1) (below_alloc _ _), l0.later (below_alloc _ _), l1.later (below_alloc _ _), Loc3.of (row_alloc _ _), Cd.ow_later (rowsC.ow_base how (by omega)) (below_alloc _ _), hnd, fun q => by have := (rowsC.ow_lt how _ q).2; omega, by omega⟩)
  obtain ⟨d0, d1, d2, _, _, _⟩ := l0
  have hH : w.heap.size < W1.heap.size := by omega
  have HN := Lib.hid (And.intro hH (show w.heap.size + 1 < W1.heap.size by omega))
  clear r0 r1 hz hb0 hb1 how hnd l1 hs1
  go_wp2_with fail
  generalize hW2 : W1.alloc _ = W2 at *
  generalize W1.heap.size = X at *
  clear hW2 d0 d1 d2 hH
  have HFD := Lib.hid (find_row nm ar _ _ rows row S S2 W2 (HR.out W2 HFR.out.b) (HV.out W2 HFR.out.b))
  refine HFD.out.mono ?_
  rintro e W3 ⟨i, rfl, hfd, hil, hb3⟩
  have HF := Lib.hid (HFR.out.later hb3)
  have HFP := Lib.hid hfd
  have HIL := Lib.hid hil
  clear hb3 hfd hil
  by_cases hin : hasR nm ar rows row = true
  case pos =>
    have HWHY := Lib.hid (show insOk nm ar rows row = false from decide_eq_false fun q => q.2.2.1 (of_decide_eq_true hin).2)
    rw [hin]
    clear hin
    obtain ⟨y0, y1, y2, _, _, _⟩ := HF.out.x
    obtain ⟨p0, p1, p2, q0, q1, q2⟩ := HF.out.r
    go_wp2_with fail
    obtain ⟨k0, k1, k2⟩ := set3 (w := W3) (k := w.heap.size + 1) (x := .string nm) (y := .int .i64 ar) (z := .slice (some ⟨gx, 0, none⟩) rows.length rows.length) p0 p1 p2
    refine bodyPost_ret (v := .tuple #[.agg #[.string nm, .int .i64 ar, .slice (some ⟨gx, 0, none⟩) rows.length rows.length], .bool false]) (by simp [results, Tryz.results125, go_sem, k0, k1, k2]) rfl ⟨_, fp, by rw [HWHY.out], ?_, HF.out.n, ?_⟩
    · rw [insR, HWHY.out]
      exact rowsC.ow_base (ow_setCell (ow_setCell (ow_setCell HF.out.o HF.out.not1 _) HF.out.not1 _) HF.out.not1 _) (by omega)
    · exact ((HF.out.b.setCell (by show _ ≤ w.heap.size + 1; omega) _).setCell (by show _ ≤ w.heap.size + 1; omega) _).setCell (by show _ ≤ w.heap.size + 1; omega) _
  have hin : hasR nm ar rows row = false := by simpa using hin
  rw [hin]
  have HV1 := Lib.hid (impl_valid nm ar _ rows S W3 (HR.out W3 HF.out.b))
  obtain ⟨d0, d1, d2, _, _, _⟩ := HF.out.t
  by_cases hok : tabOk nm ar rows = true
  case neg =>
    have hok : tabOk nm ar rows = false := by simpa using hok
    rw [hok] at HV1
    have HWHY := Lib.hid (show insOk nm ar rows row = false from decide_eq_false fun q => of_decide_eq_false hok q.1)
    clear hok hin
    go_wp2_with fail
    refine HV1.out.mono ?_
    rintro e W4 ⟨rfl, hb4⟩
    have HF4 := Lib.hid (HF.out.later hb4)
    clear hb4 d0 d1 d2
    obtain ⟨y0, y1, y2, _, _, _⟩ := HF4.out.x
    obtain ⟨p0, p1, p2, q0, q1, q2⟩ := HF4.out.r
    go_wp2_with fail
    obtain ⟨k0, k1, k2⟩ := set3 (w := W4) (k := w.heap.size + 1) (x := .string nm) (y := .int .i64 ar) (z := .slice (some ⟨gx, 0, none⟩) rows.length rows.length) p0 p1 p2
    refine bodyPost_ret (v := .tuple #[.agg #[.string nm, .int .i64 ar, .slice (some ⟨gx, 0, none⟩) rows.length rows.length], .bool false]) (by simp [results, Tryz.results125, go_sem, k0, k1, k2]) rfl ⟨_, fp, by rw [HWHY.out], ?_, HF4.out.n, ?_⟩
    · rw [insR, HWHY.out]
      exact rowsC.ow_base (ow_setCell (ow_setCell (ow_setCell HF4.out.o HF4.out.not1 _) HF4.out.not1 _) HF4.out.not1 _) (by omega)
    · exact ((HF4.out.b.setCell (by show _ ≤ w.heap.size + 1; omega) _).setCell (by show _ ≤ w.heap.size + 1; omega) _).setCell (by show _ ≤ w.heap.size + 1; omega) _
  rw [hok] at HV1
  have HTP := Lib.hid (show TabP nm ar rows from of_decide_eq_true hok)
  have HFP2 := Lib.hid (HFP.out hok)
  have HNIN := Lib.hid (show row ∉ rows from fun q => by rw [hasR_yes hok q] at hin; cases hin)
  clear hok hin
  go_wp2_with fail
  refine HV1.out.mono ?_
  rintro e W4 ⟨rfl, hb4⟩
  have HF4 := Lib.hid (HF.out.later hb4)
  clear hb4 d0 d1 d2
  obtain ⟨d0, d1, d2, _, _, _⟩ := HF4.out.t
  have HRW := Lib.hid (is_row _ row ar _ W4 (row_ri (HV.out W4 HF4.out.b)).1)
  by_cases hrow : rowOk row ar = true
  case neg =>
    have hrow : rowOk row ar = false := by simpa using hrow
    rw [hrow] at HRW
    have HWHY := Lib.hid (show insOk nm ar rows row = false from decide_eq_false fun q => by have := q.2.1; rw [hrow] at this; exact absurd this (by decide))
    clear hrow
    go_wp2_with fail
    refine HRW.out.mono ?_
    rintro e W5 ⟨rfl, rfl⟩
    clear d0 d1 d2
    obtain ⟨y0, y1, y2, _, _, _⟩ := HF4.out.x
    obtain ⟨p0, p1, p2, q0, q1, q2⟩ := HF4.out.r
    go_wp2_with fail
    obtain ⟨k0, k1, k2⟩ := set3 (w := W4) (k := w.heap.size + 1) (x := .string nm) (y := .int .i64 ar) (z := .slice (some ⟨gx, 0, none⟩) rows.length rows.length) p0 p1 p2
    refine bodyPost_ret (v := .tuple #[.agg #[.string nm, .int .i64 ar, .slice (some ⟨gx, 0, none⟩) rows.length rows.length], .bool false]) (by simp [results, Tryz.results125, go_sem, k0, k1, k2]) rfl ⟨_, fp, by rw [HWHY.out], ?_, HF4.out.n, ?_⟩
    · rw [insR, HWHY.out]
      exact rowsC.ow_base (ow_setCell (ow_setCell (ow_setCell HF4.out.o HF4.out.not1 _) HF4.out.not1 _) HF4.out.not1 _) (by omega)
    · exact ((HF4.out.b.setCell (by show _ ≤ w.heap.size + 1; omega) _).setCell (by show _ ≤ w.heap.size + 1; omega) _).setCell (by show _ ≤ w.heap.size + 1; omega) _
  rw [hrow] at HRW
  have HROW := Lib.hid hrow
  clear hrow
  go_wp2_with fail
  refine HRW.out.mono ?_
  rintro e W5 ⟨rfl, rfl⟩
  by_cases h8 : rows.length = 8
  case pos =>
    have HWHY := Lib.hid (show insOk nm ar rows row = false from decide_eq_false fun q => q.2.2.2 h8)
    have h8a : ((rows.length : Int) == 8) = true := by rw [beq_iff_eq]; omega
    have h8b : decide (rows.length = 8) = true := decide_eq_true h8
    clear h8
    obtain ⟨y0, y1, y2, _, _, _⟩ := HF4.out.x
    obtain ⟨p0, p1, p2, q0, q1, q2⟩ := HF4.out.r
    go_wp2_with fail
    obtain ⟨k0, k1, k2⟩ := set3 (w := W4) (k := w.heap.size + 1) (x := .string nm) (y := .int .i64 ar) (z := .slice (some ⟨gx, 0, none⟩) rows.length rows.length) p0 p1 p2
    refine bodyPost_ret (v := .tuple #[.agg #[.string nm, .int .i64 ar, .slice (some ⟨gx, 0, none⟩) rows.length rows.length], .bool false]) (by simp [results, Tryz.results125, go_sem, k0, k1, k2]) rfl ⟨_, fp, by rw [HWHY.out], ?_, HF4.out.n, ?_⟩
    · rw [insR, HWHY.out]
      exact rowsC.ow_base (ow_setCell (ow_setCell (ow_setCell HF4.out.o HF4.out.not1 _) HF4.out.not1 _) HF4.out.not1 _) (by omega)
    · exact ((HF4.out.b.setCell (by show _ ≤ w.heap.size + 1; omega) _).setCell (by show _ ≤ w.heap.size + 1; omega) _).setCell (by show _ ≤ w.heap.size + 1; omega) _
  have HWHY := Lib.hid (show insOk nm ar rows row = true from decide_eq_true ⟨HTP.out, HROW.out, HNIN.out, h8⟩)
  have h8i : ¬ (rows.length : Int) = 8 := by omega
  have HPUT := Lib.hid (show putR rows row = Cd.ins rows i row by rw [putR_split HTP.out.2.2.2.2.2 HFP2.out, if_neg HNIN.out])
  have HXL := Lib.hid HF4.out.x.lt
  have HCP := Lib.hid (copy_ints _ row S2 W4.drew (rd_drew (HV.out W4 HF4.out.b)) HRL.out)
  have HINS := Lib.hid (fun Wa (hb : Below W4.heap.size W4 Wa) b u f hu (hrow : rowC.ow Wa (w.heap.size + 2) [u] row f) hfd hdis => insert_rows gx rows.length i rows fp (w.heap.size + 2) Wa (HF4.out.later hb).o HF4.out.n rfl HIL.out HTP.out.2.2.2.1 b u row f hu hrow hfd hdis (by have := hb.size; have := HXL.out; have := HF4.out.g; omega))
  obtain ⟨y0, y1, y2, g0, g1, g2⟩ := HF4.out.x
  go_wp2_with fail
  go_region_law (first | (go_simp; go_at_call 30; refine HCP.out.mono ?_; rintro e wq ⟨gr, cr, rfl, hor, hbq⟩; (have hq := undrew hbq); (have hba := below_then hq (below_alloc wq (.cells #[.slice (some ⟨gr, 0, none⟩) row.length cr] 27 (0, 0)))); (have HBA := Lib.hid hba); (have HOR := Lib.hid hor); (have hqz := hq.size); (have k2 := (HF4.out.x.later hq).c2); (have m2 := (HF4.out.x.later hba).c2); clear hbq hq hba hor) | (go_simp; go_at_call 127; refine (HINS.out _ HBA.out wq.heap.size (.slice (some ⟨gr, 0, none⟩) row.length cr) [gr] (World.cell?_alloc_mark _ _ _ _ 0) (rowC.ow_base (Cd.ow_later HOR.out (below_alloc _ _)) (by have := HF4.out.g; have := HXL.out; show _ ≤ W4.heap.size; omega)) (by simp) (fun x hx q => by have h1 := (rowC.ow_lt HOR.out x hx).1; have h2 := (rowsC.ow_lt HF4.out.o x q).2; have h3 : W4.drew.heap.size = W4.heap.size := rfl; omega)).mono ?_; rintro e wp ⟨g5, c5, fp5, rfl, ho5, hn5, hs5, ht5⟩; (have HO5 := Lib.hid ho5); (have HN5 := Lib.hid hn5); (have HS5 := Lib.hid hs5); (have HT5 := Lib.hid ht5); (have hpz := ht5.size); (have j0 := ((HF4.out.x.later HBA.out).touched ht5 HF4.out.d).c0); (have j1 := ((HF4.out.x.later HBA.out).touched ht5 HF4.out.d).c1); (have j2 := ((HF4.out.x.later HBA.out).touched ht5 HF4.out.d).c2); (have l0 := ((HF4.out.x.later HBA.out).touched ht5 HF4.out.d).f0); (have l1 := ((HF4.out.x.later HBA.out).touched ht5 HF4.out.d).f1); (have l2 := ((HF4.out.x.later HBA.out).touched ht5 HF4.out.d).f2); clear ho5 hn5 hs5 ht5))
  all_goals
    have hbw := below_then HF4.out.b HBA.out
    have hT : w.heap.size ∉ fp := fun q => by have := (rowsC.ow_lt HF4.out.o _ q).1; omega
    have hX5 : X ∉ fp5 := fun q => by
      have hx := HXL.out
      have h3 : W4.drew.heap.size = W4.heap.size := rfl
      rcases HS5.out X q with q | q | q
      · exact HF4.out.d q
      · have := (rowC.ow_lt HOR.out X q).1; omega
      · have := HBA.out.size; omega
    have hx2 := Loc3.set2 ((HF4.out.x.later HBA.out).touched HT5.out HF4.out.d) (.slice (some ⟨g5, 0, none⟩) (rows.length + 1) c5)
    have HF5 := Lib.hid (show Fr w X nm ar (.slice a rows.length cap) (.slice (some ⟨g5, 0, none⟩) (rows.length + 1) c5) _ _ _ (Cd.ins rows i row) fp5 (wp.setCell ⟨X, 2, none⟩ (.slice (some ⟨g5, 0, none⟩) (rows.length + 1) c5)) from
      ⟨(HT5.out.below hbw (fun b hb => by have := (rowsC.ow_lt HF4.out.o b hb).1; omega)).setCell (by show _ ≤ X; have := HF4.out.g; omega) _, ((HF4.out.t.later HBA.out).touched HT5.out hT).set_far (by show X ≠ _; have := HF4.out.g; omega) _, ((HF4.out.r.later HBA.out).touched HT5.out HF4.out.not1).set_far (by show X ≠ _; have := HF4.out.g; omega) _, hx2,
        ow_setCell HO5.out hX5 _, HN5.out, hX5, HF4.out.g⟩)
    clear hbw hT hX5 hx2 y0 y1 y2 g0 g1 g2 j0 j1 j2 l0 l1 l2 d0 d1 d2 k2 m2 hpz hqz
    obtain ⟨y0, y1, y2, _, _, _⟩ := HF5.out.x
    obtain ⟨p0, p1, p2, q0, q1, q2⟩ := HF5.out.r
    go_wp2_with fail
    obtain ⟨k0, k1, k2⟩ := set3 (w := (wp.setCell ⟨X, 2, none⟩ (.slice (some ⟨g5, 0, none⟩) (rows.length + 1) c5))) (k := w.heap.size + 1) (x := .string nm) (y := .int .i64 ar) (z := .slice (some ⟨g5, 0, none⟩) (rows.length + 1) c5) p0 p1 p2
    refine bodyPost_ret (v := .tuple #[.agg #[.string nm, .int .i64 ar, .slice (some ⟨g5, 0, none⟩) (rows.length + 1) c5], .bool true]) (by simp [results, Tryz.results125, go_sem, k0, k1, k2]) rfl ⟨_, fp5, by rw [HWHY.out], ?_, HF5.out.n, ?_⟩
    · rw [insR, HWHY.out, if_pos rfl, HPUT.out]
      exact rowsC.ow_base (ow_setCell (ow_setCell (ow_setCell HF5.out.o HF5.out.not1 _) HF5.out.not1 _) HF5.out.not1 _) (by omega)
    · exact ((HF5.out.b.setCell (by show _ ≤ w.heap.size + 1; omega) _).setCell (by show _ ≤ w.heap.size + 1; omega) _).setCell (by show _ ≤ w.heap.size + 1; omega) _
end Go.Proofs.YtmifnbplkaonaaaGreat.TabImp

namespace Go.Proofs.YtmifnbplkaonaaaGreat.UpdApp
open Go Go.RowKit Byt Ints IntsLaw Cd Rows2 Tab SlMath TabOpen TabElem SlTable Db TabSpec DbMath DbExact Exact Upd UpdMath UpdFmt
open DbSpec (LookAns lk_some lk_none)
open DbAcc (DbAns)
open TabImp (impl_insert impl_delete)

theorem laterU_drew {a w : World} (h : LaterU a w) : LaterU a w.drew := Below.drew h
theorem laterU_alloc {a w : World} (h : LaterU a w) (o : Obj) : LaterU a (w.alloc o) := below_then h (below_alloc w o)
theorem laterU_set3 {a w : World} {k : Nat} {x y z : Value} (h : LaterU a w) (hk : a.heap.size ≤ k) : LaterU a (((w.setCell ⟨k, 0, none⟩ x).setCell ⟨k, 1, none⟩ y).setCell ⟨k, 2, none⟩ z) :=
  ((Below.setCell h hk _).setCell hk _).setCell hk _
theorem laterU_size {a w : World} (h : LaterU a w) : a.heap.size ≤ w.heap.size := Below.size h
theorem locU_new {W wq : World} {x0 x1 x2 : Value} {T : TypeId} (hb : Below (W.alloc (.cells #[x0, x1, x2] T (0, 0))).heap.size (W.alloc (.cells #[x0, x1, x2] T (0, 0))) wq) : Loc3 wq W.heap.size x0 x1 x2 :=
  (Loc3.of (start1 W _ rfl).1).later hb
theorem newU_lt {W wq : World} {x0 x1 x2 : Value} {T : TypeId} (_ : Below (W.alloc (.cells #[x0, x1, x2] T (0, 0))).heap.size (W.alloc (.cells #[x0, x1, x2] T (0, 0))) wq) : W.heap.size < (W.alloc (.cells #[x0, x1, x2] T (0, 0))).heap.size := by rw [size_alloc]; omega
theorem locU_new3 {W wq : World} {x0 x1 x2 : Value} {T : TypeId} (hb : Below (W.alloc (.cells #[x0, x1, x2] T (0, 0))).drew.heap.size (W.alloc (.cells #[x0, x1, x2] T (0, 0))).drew wq) : Loc3 wq W.heap.size x0 x1 x2 :=
  (loc_drew (Loc3.of (start1 W _ rfl).1)).later hb
theorem newU_lt3 {W wq : World} {x0 x1 x2 : Value} {T : TypeId} (_ : Below (W.alloc (.cells #[x0, x1, x2] T (0, 0))).drew.heap.size (W.alloc (.cells #[x0, x1, x2] T (0, 0))).drew wq) : W.heap.size < (W.alloc (.cells #[x0, x1, x2] T (0, 0))).drew.heap.size := by
  show W.heap.size < (W.alloc (.cells #[x0, x1, x2] T (0, 0))).heap.size
  rw [size_alloc]; omega
/-- A local table, made behind W1. -/
def MadeT (W1 : World) (nm : ByteArray) (ar : Int) (rows : List (List Int)) (s8 : Value) (wx : World) : Prop :=
  ∃ k a c fp, s8 = .pointer (some ⟨k, 0, none⟩) ∧ W1.heap.size ≤ k ∧ Loc3 wx k (.string nm) (.int .i64 ar) (.slice a rows.length c) ∧ rowsC.ow wx W1.heap.size [.slice a rows.length c] rows fp ∧ fp.Nodup ∧ Below W1.heap.size W1 wx
theorem madeT {W1 wq : World} {k : Nat} {a : Option Addr} {c n : Nat} {x0 x1 x2 : Value} {nm : ByteArray} {ar : Int} {rows : List (List Int)} {fp : List Nat} (kk : LaterU W1 wq) (hb : W1.heap.size ≤ k) (GL : Loc3 wq k x0 x1 x2)
    (HO : rowsC.ow wq W1.heap.size [.slice a n c] rows fp) (hn : n = rows.length) (hnd : fp.Nodup) (hbn : k ∉ fp) :
    MadeT W1 nm ar rows (.pointer (some ⟨k, 0, none⟩)) (((wq.setCell ⟨k, 0, none⟩ (.string nm)).setCell ⟨k, 1, none⟩ (.int .i64 ar)).setCell ⟨k, 2, none⟩ (.slice a n c)) := by
  subst hn
  obtain ⟨c0, c1, c2, f0, f1, f2⟩ := GL
  obtain ⟨k0, k1, k2⟩ := set3 (w := wq) (k := k) (x := .string nm) (y := .int .i64 ar) (z := .slice a rows.length c) c0 c1 c2
  exact ⟨k, a, c, fp, rfl, hb, ⟨k0, k1, k2, by simpa using f0, by simpa using f1, by simpa using f2⟩, ow_setCell (ow_setCell (ow_setCell HO hbn _) hbn _) hbn _, hnd, ((Below.setCell kk hb _).setCell hb _).setCell hb _⟩
theorem madeT2 {W1 wq : World} {a : Option Addr} {c n : Nat} {T : TypeId} {nm : ByteArray} {ar : Int} {rows : List (List Int)} {fp : List Nat} (kk : LaterU W1 wq)
    (HO : rowsC.ow wq W1.heap.size [.slice a n c] rows fp) (hn : n = rows.length) (hnd : fp.Nodup) :
    MadeT W1 nm ar rows (.pointer (some ⟨wq.heap.size, 0, none⟩)) (wq.alloc (.cells #[.string nm, .int .i64 ar, .slice a n c] T (0, 0))) := by
  subst hn
  exact ⟨wq.heap.size, a, c, fp, rfl, Below.size kk, Loc3.of (start1 wq _ rfl).1, Cd.ow_later HO (below_alloc _ _), hnd, below_then kk (below_alloc _ _)⟩

theorem m_apply_true (w : World) : (method 260 73 (.agg #[]) "loop.example/g01921/impl.applyTo").run Tryz.prog w = .ok (124, .agg #[]) w := by kernel_rfl
set_option maxRecDepth 100000 in
set_option maxHeartbeats 1600000 in
theorem apply_true (nm : ByteArray) (ar : Int) (u v : Value) (rows : List (List Int)) (row : List Int) (S S2 : Nat → Prop) (w : World) (hr : rowsC.rd w S [u] rows) (hv : rowC.rd w S2 [v] row) (hrw : rowsWt rows ≤ 1048577) (hnm : nm.size ≤ 1048577) (hrl : row.length ≤ 1048577) :
    Calls Tryz.prog 124 #[.agg #[], .agg #[.string nm, .int .i64 ar, u], v] w fun e w' => ∃ u' fp, e = .returned (.tuple #[.agg #[.string nm, .int .i64 ar, u'], .bool (insOk nm ar rows row)]) ∧ rowsC.ow w' w.heap.size [u'] (insR nm ar rows row) fp ∧ fp.Nodup ∧ Below w.heap.size w w' := by
  have HC := Lib.hid (fun w' (hb : Below w.heap.size w w') => impl_insert nm ar u v rows row S S2 w' (Cd.later hr hb) (Cd.later hv hb) hrw hnm hrl)
  obtain ⟨a, cap, rfl, hlm⟩ := rows_form hr
  clear hr hv
  go_enter Tryz.func124, Tryz.ntmps124
  go_wp2_with fail
  generalize hW : ((w.alloc _).alloc _).alloc _ = W
  obtain ⟨r0, r1, r2, hz, hb0⟩ := start3 w _ _ _ hW
  clear hW r0
  refine (HC.out W hb0).mono ?_
  rintro e w1 ⟨u', fp, rfl, how, hnd, hb1⟩
  obtain ⟨a1, c1, rfl⟩ := Cd.ow_slice how
  have HX := Lib.hid ((Loc3.of r2).later hb1)
  have HOW := Lib.hid how
  have HND := Lib.hid hnd
  have HB := Lib.hid (below_then hb0 hb1)
  have HZ := Lib.hid hz
  clear how hnd hb1 hb0 r1 r2 hz
  obtain ⟨p0, p1, p2, q0, q1, q2⟩ := HX.out
  go_wp2_with fail
  obtain ⟨k0, k1, k2⟩ := set3 (w := w1) (k := w.heap.size + 2) (x := .string nm) (y := .int .i64 ar) (z := .slice a1 (insR nm ar rows row).length c1) p0 p1 p2
  refine bodyPost_ret (v := .tuple #[.agg #[.string nm, .int .i64 ar, .slice a1 (insR nm ar rows row).length c1], .bool (insOk nm ar rows row)]) (by simp [results, Tryz.results124, go_sem, k0, k1, k2]) rfl ⟨_, fp, rfl, ?_, HND.out, ?_⟩
  · have hn : w.heap.size + 2 ∉ fp := fun q => by
      have h1 := (rowsC.ow_lt HOW.out _ q).1
      have h2 := HZ.out
      omega
    exact ow_setCell (ow_setCell (ow_setCell (rowsC.ow_base HOW.out (by have := HZ.out; omega)) hn _) hn _) hn _
  · exact ((HB.out.setCell (by show _ ≤ w.heap.size + 2; omega) _).setCell (by show _ ≤ w.heap.size + 2; omega) _).setCell (by show _ ≤ w.heap.size + 2; omega) _

theorem m_apply_false (w : World) : (method 260 82 (.agg #[]) "loop.example/g01921/impl.applyTo").run Tryz.prog w = .ok (133, .agg #[]) w := by kernel_rfl
set_option maxRecDepth 100000 in
set_option maxHeartbeats 1600000 in
theorem apply_false (nm : ByteArray) (ar : Int) (u v : Value) (rows : List (List Int)) (row : List Int) (S S2 : Nat → Prop) (w : World) (hr : rowsC.rd w S [u] rows) (hv : rowC.rd w S2 [v] row) (hrw : rowsWt rows ≤ 1048577) (hnm : nm.size ≤ 1048577) :
    Calls Tryz.prog 133 #[.agg #[], .agg #[.string nm, .int .i64 ar, u], v] w fun e w' => ∃ u' fp, e = .returned (.tuple #[.agg #[.string nm, .int .i64 ar, u'], .bool (hasR nm ar rows row)]) ∧ rowsC.ow w' w.heap.size [u'] (delR nm ar rows row) fp ∧ fp.Nodup ∧ Below w.heap.size w w' := by
  have HC := Lib.hid (fun w' (hb : Below w.heap.size w w') => impl_delete nm ar u v rows row S S2 w' (Cd.later hr hb) (Cd.later hv hb) hrw hnm)
  obtain ⟨a, cap, rfl, hlm⟩ := rows_form hr
  clear hr hv
  go_enter Tryz.func133, Tryz.ntmps133
  go_wp2_with fail
  generalize hW : ((w.alloc _).alloc _).alloc _ = W
  obtain ⟨r0, r1, r2, hz, hb0⟩ := start3 w _ _ _ hW
  clear hW r0
  refine (HC.out W hb0).mono ?_
  rintro e w1 ⟨u', fp, rfl, how, hnd, hb1⟩
  obtain ⟨a1, c1, rfl⟩ := Cd.ow_slice how
  have HX := Lib.hid ((Loc3.of r2).later hb1)
  have HOW := Lib.hid how
  have HND := Lib.hid hnd
  have HB := Lib.hid (below_then hb0 hb1)
  have HZ := Lib.hid hz
  clear how hnd hb1 hb0 r1 r2 hz
  obtain ⟨p0, p1, p2, q0, q1, q2⟩ := HX.out
  go_wp2_with fail
  obtain ⟨k0, k1, k2⟩ := set3 (w := w1) (k := w.heap.size + 2) (x := .string nm) (y := .int .i64 ar) (z := .slice a1 (delR nm ar rows row).length c1) p0 p1 p2
  refine bodyPost_ret (v := .tuple #[.agg #[.string nm, .int .i64 ar, .slice a1 (delR nm ar rows row).length c1], .bool (hasR nm ar rows row)]) (by simp [results, Tryz.results133, go_sem, k0, k1, k2]) rfl ⟨_, fp, rfl, ?_, HND.out, ?_⟩
  · have hn : w.heap.size + 2 ∉ fp := fun q => by
      have h1 := (rowsC.ow_lt HOW.out _ q).1
      have h2 := HZ.out
      omega
    exact ow_setCell (ow_setCell (ow_setCell (rowsC.ow_base HOW.out (by have := HZ.out; omega)) hn _) hn _) hn _
  · exact ((HB.out.setCell (by show _ ≤ w.heap.size + 2; omega) _).setCell (by show _ ≤ w.heap.size + 2; omega) _).setCell (by show _ ≤ w.heap.size + 2; omega) _

set_option maxRecDepth 100000 in
set_option maxHeartbeats 6400000 in
theorem impl_apply_true (u v : Value) (l : List T3) (nm : ByteArray) (row : List Int) (S S2 : Nat → Prop) (w : World) (h1 : tabsC.rd w S [u] l) (h2 : rowC.rd w S2 [v] row) (hw : wtS l ≤ 1048577) (hrl : row.length ≤ 1048577) (hs : nm.size ≤ 1048576) :
    Calls Tryz.prog 6 #[.agg #[u], .agg #[.string nm, .bool true, v]] w fun e w' => DbAns (appL l nm true row) (appOk l nm true row) w e w' := by
  have HL := Lib.hid (fun w' (hb : Below w.heap.size w w') => DbImp.impl_look u l nm S w' (Cd.later h1 hb) hw hs)
  have HDC := Lib.hid (fun w' (hb : Below w.heap.size w w') => DbImp.impl_dbcopy u l S w' (Cd.later h1 hb) hw)
  have HV := Lib.hid (fun w' (hb : Below w.heap.size w w') => Cd.later h2 hb)
  have HR := Lib.hid (fun w' (hb : Below w.heap.size w w') => Cd.later h1 hb)
  have HW := Lib.hid hw
  have HRL := Lib.hid hrl
  obtain ⟨a1, cap1, rfl, hl1⟩ := Cd.sl_form h1
  obtain ⟨a2, cap2, rfl, hl2⟩ := row_form h2
  clear h1 h2 hw hrl hs
  have HAP := Lib.hid (fun (T : T3) (hT : rowsWt T.2.2 ≤ 40 ∧ T.1.size ≤ 40) u' S' w' (h : rowsC.rd w' S' [u'] T.2.2) (hb : Below w.heap.size w w') =>
    (show Calls Tryz.prog 124 #[.agg #[], .agg #[.string T.1, .int .i64 T.2.1, u'], .slice a2 row.length cap2] w' fun e w'' => ∃ u'' fp, e = .returned (.tuple #[.agg #[.string T.1, .int .i64 T.2.1, u''], .bool (chOk T true row)]) ∧ rowsC.ow w'' w'.heap.size [u''] (chR T true row) fp ∧ fp.Nodup ∧ Below w'.heap.size w' w'' from apply_true T.1 T.2.1 u' (.slice a2 row.length cap2) T.2.2 row S' S2 w' h (HV.out w' hb) (by omega) (by omega) (by have := HRL.out; omega)))
  have HCH := Lib.hid (fun w' => change_of nm true (.slice a2 row.length cap2) w')
  change Hid (∀ w', Calls _ _ _ _ fun e w'' => e = .returned (.iface 73 (.agg #[])) ∧ _) at HCH
  go_enter Tryz.func6, Tryz.ntmps6
  go_wp2_with fail
  generalize hW : ((w.alloc _).alloc _).alloc _ = W
  obtain ⟨r0, r1, r2, hz, hb0⟩ := start3 w _ _ _ hW
  have HC0 := Lib.hid (Loc1.of r0)
  have HC1 := Lib.hid (Loc3.of r1)
  have HC2 := Lib.hid (Loc1.of r2)
  have HB0 := Lib.hid hb0
  have HZ := Lib.hid hz
  clear hW r0 r1 r2 hz hb0
  refine (HL.out _ HB0.out).mono ?_
  rintro e w1 ⟨v1, fp, rfl, ho, hn, hb1⟩
  obtain ⟨a3, c3, rfl⟩ := Cd.ow_slice ho
  have HB1 := Lib.hid (below_then HB0.out hb1)
  have HC0a := Lib.hid (HC0.out.later hb1)
  have HC1a := Lib.hid (HC1.out.later hb1)
  have HC2a := Lib.hid (HC2.out.later hb1)
  have HZ1 := Lib.hid (show w.heap.size + 3 ≤ w1.heap.size by have := hb1.size; have := HZ.out; omega)
  have HO := Lib.hid ho
  clear ho hn hb1 HC0 HC1 HC2
  cases hl : lookL l nm with
  | none =>
    have HA := Lib.hid (app_none (appT_none (b := true) (row := row) hl))
    rw [lk_none hl]
    clear HO hl HCH HAP
    have q0 := HC0a.out.c0
    have q1 := HC0a.out.lt
    go_wp2_with fail
    refine (HDC.out _ (below_then HB1.out (below_alloc _ _))).mono ?_
    rintro e w3 ⟨a4, c4, f3, rfl, ho3, hn3, hb3⟩
    have HC3 := Lib.hid (Loc1.later (HC2a.out.later (below_alloc _ _)) hb3)
    have y0 := HC3.out.c0
    have y1 := HC3.out.f0
    have HX := Lib.hid (ans_far ho3 hn3 (below_then HB1.out (below_alloc _ _)) hb3 (Y := w.heap.size + 2) (by omega) (by rw [size_alloc]; have := HZ1.out; omega) HA.out.1.symm HA.out.2.symm)
    clear ho3 hn3 hb3 q0 q1
    go_wp2_with fail
    have k0 : (w3.setCell ⟨w.heap.size + 2, 0, none⟩ (.slice a4 l.length c4)).cell? ⟨w.heap.size + 2, 0, none⟩ = some (.slice a4 l.length c4) := World.cell?_setCell_same _ _ _ y0
    refine bodyPost_ret (v := .tuple #[.agg #[.slice a4 l.length c4], .bool false]) (by simp [results, Tryz.results6, go_sem, k0]) rfl ?_
    exact HX.out
  | some T =>
    obtain ⟨hdb, hmem, hnmT, hok⟩ := look_ok hl
    have hw40 := wt_rows (wt_ok hok)
    have HOK := Lib.hid hok
    have HW40 := Lib.hid hw40
    have HLK := Lib.hid hl
    rw [lk_some hl] at HO ⊢
    clear hdb hmem hnmT hok hw40 hl
    go_upto_region 4 with fail
    generalize hW2 : w1.alloc _ = W2
    obtain ⟨s0, sz, sb⟩ := start1 w1 _ hW2
    have HT6 := Lib.hid (Loc3.of s0)
    have HC1b := Lib.hid (HC1a.out.later sb)
    have HB2 := Lib.hid (below_then HB1.out sb)
    have HC0b := Lib.hid (HC0a.out.later sb)
    have HC2b := Lib.hid (HC2a.out.later sb)
    have HO2 := Lib.hid (Cd.ow_later HO.out sb)
    have HZ2 := Lib.hid sz
    have S7 := Lib.hid (fun wx (h : LaterU W2 wx) => And.intro (HC1b.out.later h).c0 (And.intro (HC1b.out.later h).c1 (And.intro (HC1b.out.later h).c2 (And.intro (HT6.out.later h).c0 (And.intro (HT6.out.later h).c1 (And.intro (HT6.out.later h).c2 h))))))
    have HA2 := Lib.hid (fun w' (h : LaterU W2 w') => HAP.out T HW40.out _ _ w' (rowsC.ow_rd (Cd.ow_later HO2.out h)) (below_then HB2.out h))
    clear hW2 s0 sz sb HAP
    have hm := m_apply_true
    have kk : LaterU W2 W2.drew := laterU_drew (Below.refl _ W2)
    obtain ⟨h0, h1, h2, h3, h4, h5, h6⟩ := S7.out _ kk
    go_cut [8, 9] (fun s8 s9 wx => s9 = .bool (chOk T true row) ∧ MadeT W2 T.1 T.2.1 (chR T true row) s8 wx)
    case first =>
      generalize chOk T true row = ck at *
      generalize chR T true row = cr at *
      go_region_held3 (fun wx => wx.cell? ⟨w.heap.size + 1, 0, none⟩ = some (.string nm) ∧ wx.cell? ⟨w.heap.size + 1, 1, none⟩ = some (.bool true) ∧ wx.cell? ⟨w.heap.size + 1, 2, none⟩ = some (.slice a2 row.length cap2) ∧ wx.cell? ⟨w1.heap.size, 0, none⟩ = some (.string T.1) ∧ wx.cell? ⟨w1.heap.size, 1, none⟩ = some (.int .i64 T.2.1) ∧ wx.cell? ⟨w1.heap.size, 2, none⟩ = some (.slice a3 T.2.2.length c3) ∧ LaterU W2 wx)
        ((first | exact S7.out _ (by first | assumption | exact laterU_drew (Below.refl _ W2) | exact laterU_alloc (by first | assumption | exact laterU_drew (Below.refl _ W2)) _ | exact laterU_set3 (by first | assumption | exact laterU_alloc (by assumption) _) (laterU_size (by first | assumption | exact Below.refl _ _)))))
        (first | (go_at_call 22; refine (HCH.out _).mono ?_; rintro e wq ⟨rfl, hbq⟩; (have kk : LaterU W2 wq := below_then (by first | assumption | exact laterU_alloc (by assumption) _ | exact laterU_drew (laterU_alloc (Below.refl _ W2) _) | exact laterU_drew (Below.refl _ W2)) hbq); (first | (have GB := Lib.hid GL.out.lt; have GL := Lib.hid (GL.out.later hbq)) | (have GB := Lib.hid (newU_lt hbq); have GL := Lib.hid (locU_new hbq)) | (have GB := Lib.hid (newU_lt3 hbq); have GL := Lib.hid (locU_new3 hbq)) | skip); obtain ⟨h0, h1, h2, h3, h4, h5, h6⟩ := S7.out _ kk; clear hbq) | (go_at_call 124; refine (HA2.out _ (by first | assumption | exact laterU_alloc (by assumption) _)).mono ?_; rintro e wq ⟨u5, f5, rfl, how, hnd, hbq⟩; obtain ⟨a5, c5, rfl⟩ := Cd.ow_slice how; (have kk : LaterU W2 wq := below_then (by first | assumption | exact laterU_alloc (by assumption) _ | exact laterU_drew (laterU_alloc (Below.refl _ W2) _) | exact laterU_drew (Below.refl _ W2)) hbq); (first | (have GB := Lib.hid GL.out.lt; have GL := Lib.hid (GL.out.later hbq)) | (have GB := Lib.hid (newU_lt hbq); have GL := Lib.hid (locU_new hbq)) | (have GB := Lib.hid (newU_lt3 hbq); have GL := Lib.hid (locU_new3 hbq)) | skip); obtain ⟨h0, h1, h2, h3, h4, h5, h6⟩ := S7.out _ kk; (have HO5 := Lib.hid (rowsC.ow_base how (laterU_size (a := W2) (by first | assumption | exact laterU_alloc (by assumption) _)))); (have HLT := Lib.hid (rowsC.ow_lt how)); (have HND := Lib.hid hnd); (first | (have x0 := GL.out.c0; have x1 := GL.out.c1; have x2 := GL.out.c2; have f0 := GL.out.f0; have f1 := GL.out.f1; have f2 := GL.out.f2) | skip); clear hbq how hnd))
      all_goals
        go_wp2_with fail
        go_meet
        refine ⟨rfl, ?_⟩
        first
          | (have GG := GL.out; exact madeT (by assumption) (laterU_size (by first | assumption | exact Below.refl _ _)) GG HO5.out rfl HND.out (fun q => by have h1 := (HLT.out _ q).1; have h2 := GB.out; omega))
          | (with_reducible exact madeT2 (by assumption) HO5.out rfl HND.out)
    case rest =>
      obtain ⟨rfl, k, a5, c5, f5, rfl, hk, hx, how, hnd, hl⟩ := hcut
      clear h0 h1 h2 h3 h4 h5 h6 kk hm S7 HA2 HCH
      have HBS := Lib.hid (below_then HB2.out hl)
      have HC0d := Lib.hid (HC0b.out.later hl)
      have HC2d := Lib.hid (HC2b.out.later hl)
      have HTX := Lib.hid hx
      have HO4 := Lib.hid how
      have HSS := Lib.hid (show w.heap.size + 2 < wc.heap.size by have := HZ1.out; have := HZ2.out; have := hl.size; omega)
      have HKK := Lib.hid hk
      have HND := Lib.hid hnd
      clear hx how hnd hk hl
      obtain ⟨x0, x1, x2, _, _, _⟩ := HTX.out
      have q0 := HC0d.out.c0
      cases hk : chOk T true row
      · have HA := Lib.hid (app_none (appT_no (b := true) (row := row) HLK.out hk))
        clear hk
        go_wp2_with fail
        refine (HDC.out _ HBS.out).mono ?_
        rintro e w6 ⟨a6, c6, f6, rfl, ho6, hn6, hb6⟩
        have HC6 := Lib.hid (HC2d.out.later hb6)
        have y0 := HC6.out.c0
        have y1 := HC6.out.f0
        have HX := Lib.hid (ans_far ho6 hn6 HBS.out hb6 (Y := w.heap.size + 2) (by omega) HSS.out HA.out.1.symm HA.out.2.symm)
        clear ho6 hn6 hb6 x0 x1 x2 q0
        go_wp2_with fail
        have k0 : (w6.setCell ⟨w.heap.size + 2, 0, none⟩ (.slice a6 l.length c6)).cell? ⟨w.heap.size + 2, 0, none⟩ = some (.slice a6 l.length c6) := World.cell?_setCell_same _ _ _ y0
        refine bodyPost_ret (v := .tuple #[.agg #[.slice a6 l.length c6], .bool false]) (by simp [results, Tryz.results6, go_sem, k0]) rfl ?_
        exact HX.out
      · have HA := Lib.hid (app_some (appT_yes (b := true) (row := row) HLK.out hk))
        have HWC := Lib.hid (wt_ok (ok_ch HOK.out hk))
        clear hk
        go_wp2_with fail
        refine (DbImp.impl_set _ l (chT T true row) a5 c5 S _ _ (HR.out _ HBS.out) (chT_rd (rowsC.ow_rd HO4.out) HOK.out) HW.out (by have := HWC.out; omega)).mono ?_
        rintro e w6 ⟨u6, f6, rfl, ho6, hn6, hb6⟩
        obtain ⟨a6, c6, rfl⟩ := Cd.ow_slice (c := tabC) ho6
        have HC6 := Lib.hid (HC2d.out.later hb6)
        have y0 := HC6.out.c0
        have y1 := HC6.out.f0
        have HX := Lib.hid (ans_far ho6 hn6 HBS.out hb6 (Y := w.heap.size + 2) (by omega) HSS.out HA.out.1.symm HA.out.2.symm)
        clear ho6 hn6 hb6 x0 x1 x2 q0
        go_wp2_with fail
        have k0 := World.cell?_setCell_same _ _ (.slice a6 (setL l (chT T true row)).length c6) y0
        refine bodyPost_ret (v := .tuple #[.agg #[.slice a6 (setL l (chT T true row)).length c6], .bool (setOk l (chT T true row))]) (by simp [results, Tryz.results6, go_sem, k0]) rfl ?_
        exact HX.out
set_option maxRecDepth 100000 in
set_option maxHeartbeats 6400000 in
theorem impl_apply_false (u v : Value) (l : List T3) (nm : ByteArray) (row : List Int) (S S2 : Nat → Prop) (w : World) (h1 : tabsC.rd w S [u] l) (h2 : rowC.rd w S2 [v] row) (hw : wtS l ≤ 1048577) (hrl : row.length ≤ 1048577) (hs : nm.size ≤ 1048576) :
    Calls Tryz.prog 6 #[.agg #[u], .agg #[.string nm, .bool false, v]] w fun e w' => DbAns (appL l nm false row) (appOk l nm false row) w e w' := by
  have HL := Lib.hid (fun w' (hb : Below w.heap.size w w') => DbImp.impl_look u l nm S w' (Cd.later h1 hb) hw hs)
  have HDC := Lib.hid (fun w' (hb : Below w.heap.size w w') => DbImp.impl_dbcopy u l S w' (Cd.later h1 hb) hw)
  have HV := Lib.hid (fun w' (hb : Below w.heap.size w w') => Cd.later h2 hb)
  have HR := Lib.hid (fun w' (hb : Below w.heap.size w w') => Cd.later h1 hb)
  have HW := Lib.hid hw
  have HRL := Lib.hid hrl
  obtain ⟨a1, cap1, rfl, hl1⟩ := Cd.sl_form h1
  obtain ⟨a2, cap2, rfl, hl2⟩ := row_form h2
  clear h1 h2 hw hrl hs
  have HAP := Lib.hid (fun (T : T3) (hT : rowsWt T.2.2 ≤ 40 ∧ T.1.size ≤ 40) u' S' w' (h : rowsC.rd w' S' [u'] T.2.2) (hb : Below w.heap.size w w') =>
    (show Calls Tryz.prog 133 #[.agg #[], .agg #[.string T.1, .int .i64 T.2.1, u'], .slice a2 row.length cap2] w' fun e w'' => ∃ u'' fp, e = .returned (.tuple #[.agg #[.string T.1, .int .i64 T.2.1, u''], .bool (chOk T false row)]) ∧ rowsC.ow w'' w'.heap.size [u''] (chR T false row) fp ∧ fp.Nodup ∧ Below w'.heap.size w' w'' from apply_false T.1 T.2.1 u' (.slice a2 row.length cap2) T.2.2 row S' S2 w' h (HV.out w' hb) (by omega) (by omega)))
  have HCH := Lib.hid (fun w' => change_of nm false (.slice a2 row.length cap2) w')
  change Hid (∀ w', Calls _ _ _ _ fun e w'' => e = .returned (.iface 82 (.agg #[])) ∧ _) at HCH
  go_enter Tryz.func6, Tryz.ntmps6
  go_wp2_with fail
  generalize hW : ((w.alloc _).alloc _).alloc _ = W
  obtain ⟨r0, r1, r2, hz, hb0⟩ := start3 w _ _ _ hW
  have HC0 := Lib.hid (Loc1.of r0)
  have HC1 := Lib.hid (Loc3.of r1)
  have HC2 := Lib.hid (Loc1.of r2)
  have HB0 := Lib.hid hb0
  have HZ := Lib.hid hz
  clear hW r0 r1 r2 hz hb0
  refine (HL.out _ HB0.out).mono ?_
  rintro e w1 ⟨v1, fp, rfl, ho, hn, hb1⟩
  obtain ⟨a3, c3, rfl⟩ := Cd.ow_slice ho
  have HB1 := Lib.hid (below_then HB0.out hb1)
  have HC0a := Lib.hid (HC0.out.later hb1)
  have HC1a := Lib.hid (HC1.out.later hb1)
  have HC2a := Lib.hid (HC2.out.later hb1)
  have HZ1 := Lib.hid (show w.heap.size + 3 ≤ w1.heap.size by have := hb1.size; have := HZ.out; omega)
  have HO := Lib.hid ho
  clear ho hn hb1 HC0 HC1 HC2
  cases hl : lookL l nm with
  | none =>
    have HA := Lib.hid (app_none (appT_none (b := false) (row := row) hl))
    rw [lk_none hl]
    clear HO hl HCH HAP
    have q0 := HC0a.out.c0
    have q1 := HC0a.out.lt
    go_wp2_with fail
    refine (HDC.out _ (below_then HB1.out (below_alloc _ _))).mono ?_
    rintro e w3 ⟨a4, c4, f3, rfl, ho3, hn3, hb3⟩
    have HC3 := Lib.hid (Loc1.later (HC2a.out.later (below_alloc _ _)) hb3)
    have y0 := HC3.out.c0
    have y1 := HC3.out.f0
    have HX := Lib.hid (ans_far ho3 hn3 (below_then HB1.out (below_alloc _ _)) hb3 (Y := w.heap.size + 2) (by omega) (by rw [size_alloc]; have := HZ1.out; omega) HA.out.1.symm HA.out.2.symm)
    clear ho3 hn3 hb3 q0 q1
    go_wp2_with fail
    have k0 : (w3.setCell ⟨w.heap.size + 2, 0, none⟩ (.slice a4 l.length c4)).cell? ⟨w.heap.size + 2, 0, none⟩ = some (.slice a4 l.length c4) := World.cell?_setCell_same _ _ _ y0
    refine bodyPost_ret (v := .tuple #[.agg #[.slice a4 l.length c4], .bool false]) (by simp [results, Tryz.results6, go_sem, k0]) rfl ?_
    exact HX.out
  | some T =>
    obtain ⟨hdb, hmem, hnmT, hok⟩ := look_ok hl
    have hw40 := wt_rows (wt_ok hok)
    have HOK := Lib.hid hok
    have HW40 := Lib.hid hw40
    have HLK := Lib.hid hl
    rw [lk_some hl] at HO ⊢
    clear hdb hmem hnmT hok hw40 hl
    go_upto_region 4 with fail
    generalize hW2 : w1.alloc _ = W2
    obtain ⟨s0, sz, sb⟩ := start1 w1 _ hW2
    have HT6 := Lib.hid (Loc3.of s0)
    have HC1b := Lib.hid (HC1a.out.later sb)
    have HB2 := Lib.hid (below_then HB1.out sb)
    have HC0b := Lib.hid (HC0a.out.later sb)
    have HC2b := Lib.hid (HC2a.out.later sb)
    have HO2 := Lib.hid (Cd.ow_later HO.out sb)
    have HZ2 := Lib.hid sz
    have S7 := Lib.hid (fun wx (h : LaterU W2 wx) => And.intro (HC1b.out.later h).c0 (And.intro (HC1b.out.later h).c1 (And.intro (HC1b.out.later h).c2 (And.intro (HT6.out.later h).c0 (And.intro (HT6.out.later h).c1 (And.intro (HT6.out.later h).c2 h))))))
    have HA2 := Lib.hid (fun w' (h : LaterU W2 w') => HAP.out T HW40.out _ _ w' (rowsC.ow_rd (Cd.ow_later HO2.out h)) (below_then HB2.out h))
    clear hW2 s0 sz sb HAP
    have hm := m_apply_false
    have kk : LaterU W2 W2.drew := laterU_drew (Below.refl _ W2)
    obtain ⟨h0, h1, h2, h3, h4, h5, h6⟩ := S7.out _ kk
    go_cut [8, 9] (fun s8 s9 wx => s9 = .bool (chOk T false row) ∧ MadeT W2 T.1 T.2.1 (chR T false row) s8 wx)
    case first =>
      generalize chOk T false row = ck at *
      generalize chR T false row = cr at *
      go_region_held3 (fun wx => wx.cell? ⟨w.heap.size + 1, 0, none⟩ = some (.string nm) ∧ wx.cell? ⟨w.heap.size + 1, 1, none⟩ = some (.bool false) ∧ wx.cell? ⟨w.heap.size + 1, 2, none⟩ = some (.slice a2 row.length cap2) ∧ wx.cell? ⟨w1.heap.size, 0, none⟩ = some (.string T.1) ∧ wx.cell? ⟨w1.heap.size, 1, none⟩ = some (.int .i64 T.2.1) ∧ wx.cell? ⟨w1.heap.size, 2, none⟩ = some (.slice a3 T.2.2.length c3) ∧ LaterU W2 wx)
        ((first | exact S7.out _ (by first | assumption | exact laterU_drew (Below.refl _ W2) | exact laterU_alloc (by first | assumption | exact laterU_drew (Below.refl _ W2)) _ | exact laterU_set3 (by first | assumption | exact laterU_alloc (by assumption) _) (laterU_size (by first | assumption | exact Below.refl _ _)))))
        (first | (go_at_call 22; refine (HCH.out _).mono ?_; rintro e wq ⟨rfl, hbq⟩; (have kk : LaterU W2 wq := below_then (by first | assumption | exact laterU_alloc (by assumption) _ | exact laterU_drew (laterU_alloc (Below.refl _ W2) _) | exact laterU_drew (Below.refl _ W2)) hbq); (first | (have GB := Lib.hid GL.out.lt; have GL := Lib.hid (GL.out.later hbq)) | (have GB := Lib.hid (newU_lt hbq); have GL := Lib.hid (locU_new hbq)) | (have GB := Lib.hid (newU_lt3 hbq); have GL := Lib.hid (locU_new3 hbq)) | skip); obtain ⟨h0, h1, h2, h3, h4, h5, h6⟩ := S7.out _ kk; clear hbq) | (go_at_call 133; refine (HA2.out _ (by first | assumption | exact laterU_alloc (by assumption) _)).mono ?_; rintro e wq ⟨u5, f5, rfl, how, hnd, hbq⟩; obtain ⟨a5, c5, rfl⟩ := Cd.ow_slice how; (have kk : LaterU W2 wq := below_then (by first | assumption | exact laterU_alloc (by assumption) _ | exact laterU_drew (laterU_alloc (Below.refl _ W2) _) | exact laterU_drew (Below.refl _ W2)) hbq); (first | (have GB := Lib.hid GL.out.lt; have GL := Lib.hid (GL.out.later hbq)) | (have GB := Lib.hid (newU_lt hbq); have GL := Lib.hid (locU_new hbq)) | (have GB := Lib.hid (newU_lt3 hbq); have GL := Lib.hid (locU_new3 hbq)) | skip); obtain ⟨h0, h1, h2, h3, h4, h5, h6⟩ := S7.out _ kk; (have HO5 := Lib.hid (rowsC.ow_base how (laterU_size (a := W2) (by first | assumption | exact laterU_alloc (by assumption) _)))); (have HLT := Lib.hid (rowsC.ow_lt how)); (have HND := Lib.hid hnd); (first | (have x0 := GL.out.c0; have x1 := GL.out.c1; have x2 := GL.out.c2; have f0 := GL.out.f0; have f1 := GL.out.f1; have f2 := GL.out.f2) | skip); clear hbq how hnd))
      all_goals
        go_wp2_with fail
        go_meet
        refine ⟨rfl, ?_⟩
        first
          | (have GG := GL.out; exact madeT (by assumption) (laterU_size (by first | assumption | exact Below.refl _ _)) GG HO5.out rfl HND.out (fun q => by have h1 := (HLT.out _ q).1; have h2 := GB.out; omega))
          | (with_reducible exact madeT2 (by assumption) HO5.out rfl HND.out)
    case rest =>
      obtain ⟨rfl, k, a5, c5, f5, rfl, hk, hx, how, hnd, hl⟩ := hcut
      clear h0 h1 h2 h3 h4 h5 h6 kk hm S7 HA2 HCH
      have HBS := Lib.hid (below_then HB2.out hl)
      have HC0d := Lib.hid (HC0b.out.later hl)
      have HC2d := Lib.hid (HC2b.out.later hl)
      have HTX := Lib.hid hx
      have HO4 := Lib.hid how
      have HSS := Lib.hid (show w.heap.size + 2 < wc.heap.size by have := HZ1.out; have := HZ2.out; have := hl.size; omega)
      have HKK := Lib.hid hk
      have HND := Lib.hid hnd
      clear hx how hnd hk hl
      obtain ⟨x0, x1, x2, _, _, _⟩ := HTX.out
      have q0 := HC0d.out.c0
      cases hk : chOk T false row
      · have HA := Lib.hid (app_none (appT_no (b := false) (row := row) HLK.out hk))
        clear hk
        go_wp2_with fail
        refine (HDC.out _ HBS.out).mono ?_
        rintro e w6 ⟨a6, c6, f6, rfl, ho6, hn6, hb6⟩
        have HC6 := Lib.hid (HC2d.out.later hb6)
        have y0 := HC6.out.c0
        have y1 := HC6.out.f0
        have HX := Lib.hid (ans_far ho6 hn6 HBS.out hb6 (Y := w.heap.size + 2) (by omega) HSS.out HA.out.1.symm HA.out.2.symm)
        clear ho6 hn6 hb6 x0 x1 x2 q0
        go_wp2_with fail
        have k0 : (w6.setCell ⟨w.heap.size + 2, 0, none⟩ (.slice a6 l.length c6)).cell? ⟨w.heap.size + 2, 0, none⟩ = some (.slice a6 l.length c6) := World.cell?_setCell_same _ _ _ y0
        refine bodyPost_ret (v := .tuple #[.agg #[.slice a6 l.length c6], .bool false]) (by simp [results, Tryz.results6, go_sem, k0]) rfl ?_
        exact HX.out
      · have HA := Lib.hid (app_some (appT_yes (b := false) (row := row) HLK.out hk))
        have HWC := Lib.hid (wt_ok (ok_ch HOK.out hk))
        clear hk
        go_wp2_with fail
        refine (DbImp.impl_set _ l (chT T false row) a5 c5 S _ _ (HR.out _ HBS.out) (chT_rd (rowsC.ow_rd HO4.out) HOK.out) HW.out (by have := HWC.out; omega)).mono ?_
        rintro e w6 ⟨u6, f6, rfl, ho6, hn6, hb6⟩
        obtain ⟨a6, c6, rfl⟩ := Cd.ow_slice (c := tabC) ho6
        have HC6 := Lib.hid (HC2d.out.later hb6)
        have y0 := HC6.out.c0
        have y1 := HC6.out.f0
        have HX := Lib.hid (ans_far ho6 hn6 HBS.out hb6 (Y := w.heap.size + 2) (by omega) HSS.out HA.out.1.symm HA.out.2.symm)
        clear ho6 hn6 hb6 x0 x1 x2 q0
        go_wp2_with fail
        have k0 := World.cell?_setCell_same _ _ (.slice a6 (setL l (chT T false row)).length c6) y0
        refine bodyPost_ret (v := .tuple #[.agg #[.slice a6 (setL l (chT T false row)).length c6], .bool (setOk l (chT T false row))]) (by simp [results, Tryz.results6, go_sem, k0]) rfl ?_
        exact HX.out
theorem impl_apply (u v : Value) (l : List T3) (nm : ByteArray) (b : Bool) (row : List Int) (S S2 : Nat → Prop) (w : World) (h1 : tabsC.rd w S [u] l) (h2 : rowC.rd w S2 [v] row) (hw : wtS l ≤ 1048577) (hrl : row.length ≤ 1048577) (hs : nm.size ≤ 1048576) :
    Calls Tryz.prog 6 #[.agg #[u], .agg #[.string nm, .bool b, v]] w fun e w' => DbAns (appL l nm b row) (appOk l nm b row) w e w' := by
  cases b
  · exact impl_apply_false u v l nm row S S2 w h1 h2 hw hrl hs
  · exact impl_apply_true u v l nm row S S2 w h1 h2 hw hrl hs
end Go.Proofs.YtmifnbplkaonaaaGreat.UpdApp

namespace Go.Proofs.YtmifnbplkaonaaaGreat.SlUpdate
open Go Go.RowKit Byt Ints IntsLaw Cd Rows2 Tab SlMath Upd
theorem len_list {us : List Value} (h : us.length = 3) : ∃ x0 x1 x2, us = [x0, x1, x2] := by
  match us, h with
  | [x0, x1, x2], _ => exact ⟨x0, x1, x2, rfl⟩
/-- The size of a slice, as the laws count it. -/
def wtS (l : List U3) : Nat := l.length + sumN wtU l

theorem info_x : (Tryz.prog.info? 29).map (fun i => (i.zero, i.size, i.bytes)) = some (some (.agg #[.string ⟨#[]⟩, .bool false, .slice none 0 0]), 3, 48) := by kernel_rfl

end Go.Proofs.YtmifnbplkaonaaaGreat.SlUpdate

namespace Go.Proofs.YtmifnbplkaonaaaGreat.UpdAll
open Go Go.RowKit Byt Ints IntsLaw Cd Rows2 Tab SlMath TabOpen TabElem SlTable Db TabSpec DbMath DbExact Exact Upd UpdMath UpdFmt UpdApp
open DbAcc (DbAns)

def updsC : Cd (List U3) := Cd.sl 29 updC
/-- A database and a number. -/
def NAns (l : List T3) (n : Nat) (w : World) (e : Ending) (w' : World) : Prop :=
  ∃ u fp, e = .returned (.tuple #[.agg #[u], .int .i64 n]) ∧ tabsC.ow w' w.heap.size [u] l fp ∧ fp.Nodup ∧ Below w.heap.size w w'
/-- In the loop: the database at hand in block X, the result's cell ahead of it. -/
structure AllS (w : World) (X : Nat) (cur : List T3) (a : Option Addr) (c : Nat) (fp : List Nat) (wr : World) : Prop where
  lx : Loc1 wr X (.slice a cur.length c)
  lr : Loc1 wr (w.heap.size + 1) (.slice none 0 0)
  ow : tabsC.ow wr (w.heap.size + 2) [.slice a cur.length c] cur fp
  nd : fp.Nodup
  xb : w.heap.size + 1 < X
  b : Below w.heap.size w wr
  wt : wtS cur ≤ 1048577
theorem AllS.later {w : World} {X : Nat} {cur : List T3} {a : Option Addr} {c : Nat} {fp : List Nat} {wr w' : World} (h : AllS w X cur a c fp wr) (hb : Below wr.heap.size wr w') : AllS w X cur a c fp w' :=
  ⟨h.lx.later hb, h.lr.later hb, Cd.ow_later h.ow hb, h.nd, h.xb, below_then h.b hb, h.wt⟩
theorem AllS.done {w : World} {X : Nat} {cur : List T3} {a : Option Addr} {c : Nat} {fp : List Nat} {wr : World} (h : AllS w X cur a c fp wr) {R : List T3} {n N : Nat} (e1 : cur = R) (e2 : n = N) :
    NAns R N w (.returned (.tuple #[.agg #[.slice a cur.length c], .int .i64 n])) (wr.setCell ⟨w.heap.size + 1, 0, none⟩ (.slice a cur.length c)) := by
  subst e1 e2
  refine ⟨_, fp, rfl, ow_setCell ((Cd.sl _ tabC).ow_base h.ow (by omega)) (fun q => by have := ((Cd.sl _ tabC).ow_lt h.ow _ q).1; simp only at this; omega) _, h.nd, h.b.setCell (by show _ ≤ w.heap.size + 1; omega) _⟩
/-- A local database, made behind W1. -/
def MadeD (W1 : World) (l : List T3) (s8 : Value) (wx : World) : Prop :=
  ∃ k a c fp, s8 = .pointer (some ⟨k, 0, none⟩) ∧ W1.heap.size ≤ k ∧ Loc1 wx k (.slice a l.length c) ∧ tabsC.ow wx W1.heap.size [.slice a l.length c] l fp ∧ fp.Nodup ∧ Below W1.heap.size W1 wx
theorem madeD {W1 wq : World} {k : Nat} {a : Option Addr} {c n : Nat} {x : Value} {l : List T3} {fp : List Nat} (kk : LaterU W1 wq) (hb : W1.heap.size ≤ k) (GL : Loc1 wq k x)
    (HO : tabsC.ow wq W1.heap.size [.slice a n c] l fp) (hn : n = l.length) (hnd : fp.Nodup) (hbn : k ∉ fp) : MadeD W1 l (.pointer (some ⟨k, 0, none⟩)) (wq.setCell ⟨k, 0, none⟩ (.slice a n c)) := by
  subst hn
  exact ⟨k, a, c, fp, rfl, hb, GL.set _, ow_setCell HO hbn _, hnd, Below.setCell kk hb _⟩
theorem madeD2 {W1 wq : World} {a : Option Addr} {c n : Nat} {T : TypeId} {l : List T3} {fp : List Nat} (kk : LaterU W1 wq)
    (HO : tabsC.ow wq W1.heap.size [.slice a n c] l fp) (hn : n = l.length) (hnd : fp.Nodup) : MadeD W1 l (.pointer (some ⟨wq.heap.size, 0, none⟩)) (wq.alloc (.cells #[.slice a n c] T (0, 0))) := by
  subst hn
  exact ⟨wq.heap.size, a, c, fp, rfl, Below.size kk, Loc1.of (start1 wq _ rfl).1, Cd.ow_later HO (below_alloc _ _), hnd, below_then kk (below_alloc _ _)⟩
theorem AllS.next {w : World} {X : Nat} {cur : List T3} {a : Option Addr} {c : Nat} {fp : List Nat} {wr : World} (h : AllS w X cur a c fp wr) {l : List T3} {a' : Option Addr} {c' : Nat} {fp' : List Nat} {wx : World}
    (ho : tabsC.ow wx wr.heap.size [.slice a' l.length c'] l fp') (hn : fp'.Nodup) (hb : Below wr.heap.size wr wx) (hw : wtS l ≤ 1048577) : AllS w X l a' c' fp' (wx.setCell ⟨X, 0, none⟩ (.slice a' l.length c')) := by
  have h1 := h.later hb
  have hX := h.lx.lt
  have hR := h.lr.lt
  have hxb := h.xb
  refine ⟨h1.lx.set _, h1.lr.set_far (by show X ≠ _; omega) _, ow_setCell ((Cd.sl _ tabC).ow_base ho (by omega)) (fun q => by have := ((Cd.sl _ tabC).ow_lt ho _ q).1; simp only at this; omega) _, hn, hxb, h1.b.setCell (by show _ ≤ X; omega) _, hw⟩
theorem laterU_set1 {a w : World} {k : Nat} {x : Value} (h : LaterU a w) (hk : a.heap.size ≤ k) : LaterU a (w.setCell ⟨k, 0, none⟩ x) := Below.setCell h hk _
theorem locD_new {W wq : World} {x : Value} {T : TypeId} (hb : Below (W.alloc (.cells #[x] T (0, 0))).heap.size (W.alloc (.cells #[x] T (0, 0))) wq) : Loc1 wq W.heap.size x :=
  (Loc1.of (start1 W _ rfl).1).later hb
theorem newD_lt {W wq : World} {x : Value} {T : TypeId} (_ : Below (W.alloc (.cells #[x] T (0, 0))).heap.size (W.alloc (.cells #[x] T (0, 0))) wq) : W.heap.size < (W.alloc (.cells #[x] T (0, 0))).heap.size := by rw [size_alloc]; omega
theorem locD_new3 {W wq : World} {x : Value} {T : TypeId} (hb : Below (W.alloc (.cells #[x] T (0, 0))).drew.heap.size (W.alloc (.cells #[x] T (0, 0))).drew wq) : Loc1 wq W.heap.size x :=
  (Loc1.of (start1 W _ rfl).1).drew.later hb
theorem newD_lt3 {W wq : World} {x : Value} {T : TypeId} (_ : Below (W.alloc (.cells #[x] T (0, 0))).drew.heap.size (W.alloc (.cells #[x] T (0, 0))).drew wq) : W.heap.size < (W.alloc (.cells #[x] T (0, 0))).drew.heap.size := by
  show W.heap.size < (W.alloc (.cells #[x] T (0, 0))).heap.size
  rw [size_alloc]; omega
theorem upd_wt {us : List U3} {k : Nat} (h : k < us.length) (hw : SlUpdate.wtS us ≤ 1048577) : us[k].2.2.length ≤ 1048577 ∧ us[k].1.size ≤ 1048576 := by
  have h1 := sumN_mem wtU h
  have h2 : wtU us[k] = us[k].1.size + us[k].2.2.length := rfl
  unfold SlUpdate.wtS at hw
  have : 0 < us.length := by omega
  omega

set_option maxRecDepth 100000 in
set_option maxHeartbeats 6400000 in
theorem spec_applyall (u v : Value) (l : List T3) (us : List U3) (S S2 : Nat → Prop) (w : World) (h1 : tabsC.rd w S [u] l) (h2 : updsC.rd w S2 [v] us) (hw : wtS l ≤ 1048577) (hu : SlUpdate.wtS us ≤ 1048577) :
    Calls Tryz.prog 13 #[.agg #[u], v] w fun e w' => NAns (allL l us).1 (allL l us).2 w e w' := by
  have HDC := Lib.hid (fun w' (hb : Below w.heap.size w w') => DbSpec.spec_dbcopy u l S w' (Cd.later h1 hb) (by omega))
  have HU := Lib.hid (fun w' (hb : Below w.heap.size w w') => Cd.later h2 hb)
  have HW := Lib.hid hw
  have HUW := Lib.hid hu
  obtain ⟨a1, cap1, rfl, hl1⟩ := Cd.sl_form h1
  obtain ⟨a2, cap2, rfl, hl2⟩ := Cd.sl_form h2
  clear h1 h2 hw hu
  obtain ⟨R, N, hRN⟩ : ∃ R N, allL l us = (R, N) := ⟨_, _, rfl⟩
  rw [hRN]
  have HRN := Lib.hid hRN
  clear hRN
  go_enter Tryz.func13, Tryz.ntmps13
  go_wp2_with fail
  generalize hW : (w.alloc _).alloc _ = W
  obtain ⟨r0, r1, hz, hb0⟩ := start2g w _ _ hW
  have HC1 := Lib.hid (Loc1.of r1)
  have HB0 := Lib.hid hb0
  have HZ := Lib.hid hz
  clear hW r0 r1 hz hb0
  refine (HDC.out W HB0.out).mono ?_
  rintro e w1 ⟨u3, f3, rfl, ho3, hn3, hb3⟩
  obtain ⟨a3, c3, rfl⟩ := Cd.ow_slice (c := tabC) ho3
  have HS := Lib.hid (show AllS w w1.heap.size l a3 c3 f3 (w1.alloc (.cells #[.slice a3 l.length c3] 26 (0, 0))) from
    ⟨Loc1.of (row_alloc _ _), (HC1.out.later hb3).later (below_alloc _ _), Cd.ow_later ((Cd.sl _ tabC).ow_base ho3 (by have := HZ.out; omega)) (below_alloc _ _), hn3, by have := HZ.out; have := hb3.size; omega, below_then (below_then HB0.out hb3) (below_alloc _ _), HW.out⟩)
  clear ho3 hn3 hb3 HC1
  go_wp2_with fail
  generalize w1.alloc _ = W2 at *
  generalize w1.heap.size = X at *
  go_loopw [7] (fun i wr => ∃ (k : Nat) (cur : List T3) (a : Option Addr) (c : Nat) (fp : List Nat) (m : Nat), k ≤ us.length ∧ i = .int .i64 k ∧ allL cur (us.drop k) = (R, m) ∧ k + m = N ∧ AllS w X cur a c fp wr) (fun i _ => us.length - (intOf i).toNat)
  case atStart => exact ⟨0, l, a3, c3, f3, N, Nat.zero_le _, rfl, HRN.out, Nat.zero_add _, HS.out⟩
  case round =>
    obtain ⟨k, cur, a, c, fp, m, hk, rfl, hall, hm, hst⟩ := hrel
    have HST := Lib.hid hst
    have HALL := Lib.hid hall
    have HM := Lib.hid hm
    clear hst hall hm
    have q0 := HST.out.lx.c0
    by_cases hlt : k < us.length
    · obtain ⟨b, off, cap', xs, e1, _, hbB, hat, hu⟩ := Cd.sl_at (HU.out wr HST.out.b) hlt
      injection e1 with e1 e2 e3
      subst e1 e3
      obtain ⟨x0, x1, x2, rfl⟩ := SlUpdate.len_list (updC.len hu)
      have c0 := hat 0 (by simp)
      have c1 := hat 1 (by simp)
      have c2 := hat 2 (by simp)
      simp only [List.getElem_cons_zero, List.getElem_cons_succ, Nat.add_zero, show updC.n = 3 from rfl] at c0 c1 c2
      obtain ⟨uu, exs, hns, hrow⟩ := upd_cells hu
      simp only [List.cons.injEq, and_true] at exs
      obtain ⟨rfl, rfl, rfl⟩ := exs
      have HAP := Lib.hid (fun w' (hb : LaterU wr w') => spec_apply _ x2 cur us[k].1 us[k].2.1 us[k].2.2 _ _ w' (tabsC.ow_rd (Cd.ow_later HST.out.ow hb)) (Cd.later hrow hb) HST.out.wt (upd_wt hlt HUW.out).1)
      have HGO := Lib.hid (allL_go (l := cur) hlt)
      have HSTOP := Lib.hid (allL_stop (l := cur) hlt)
      have HWN := Lib.hid (app_wt (nm := us[k].1) (b := us[k].2.1) (row := us[k].2.2) HST.out.wt)
      have p1 : (0 : Int) ≤ (k : Int) := by omega
      have p2 : (k : Int) < (us.length : Int) := by omega
      have S7 := Lib.hid (fun wx (h : LaterU wr wx) => And.intro (HST.out.lx.later h).c0 (And.intro ((Below.cell h hbB).trans c0) (And.intro ((Below.cell h hbB).trans c1) (And.intro ((Below.cell h hbB).trans c2) h))))
      clear hu hat hrow hns hbB c0 c1 c2
      generalize us[k].1 = nm at *
      generalize us[k].2.1 = bb at *
      generalize us[k].2.2 = row at *
      go_upto_region 5 with fail
      have kk : LaterU wr wr.drew := Below.drew (Below.refl _ wr)
      obtain ⟨h0, h1, h2, h3, h4⟩ := S7.out _ kk
      go_cut [8, 9] (fun s8 s9 wx => s9 = .bool (appOk cur nm bb row) ∧ MadeD wr (appL cur nm bb row) s8 wx)
      case first =>
        generalize appOk cur nm bb row = ok at *
        generalize appL cur nm bb row = ln at *
        go_region_held3 (fun wx => wx.cell? ⟨X, 0, none⟩ = some (.slice a cur.length c) ∧ wx.cell? ⟨b, off + k * 3, none⟩ = some (.string nm) ∧ wx.cell? ⟨b, off + k * 3 + 1, none⟩ = some (.bool bb) ∧ wx.cell? ⟨b, off + k * 3 + 2, none⟩ = some x2 ∧ LaterU wr wx)
          ((first | exact S7.out _ (by first | assumption | exact laterU_drew (Below.refl _ wr) | exact laterU_alloc (by first | assumption | exact laterU_drew (Below.refl _ wr)) _ | exact laterU_set1 (by first | assumption | exact laterU_alloc (by assumption) _) (laterU_size (by first | assumption | exact Below.refl _ _)))))
          (first | (go_at_call 7; refine (HAP.out _ (by first | assumption | exact laterU_drew (laterU_alloc (Below.refl _ wr) _) | exact laterU_alloc (by assumption) _)).mono ?_; rintro e wq ⟨u5, f5, rfl, how, hnd, hbq⟩; obtain ⟨a5, c5, rfl⟩ := Cd.ow_slice (c := tabC) how; (have kk : LaterU wr wq := below_then (by first | assumption | exact laterU_alloc (by assumption) _ | exact laterU_drew (laterU_alloc (Below.refl _ wr) _) | exact laterU_drew (Below.refl _ wr)) hbq); (first | (have GB := Lib.hid GL.out.lt; have GL := Lib.hid (GL.out.later hbq)) | (have GB := Lib.hid (newD_lt hbq); have GL := Lib.hid (locD_new hbq)) | (have GB := Lib.hid (newD_lt3 hbq); have GL := Lib.hid (locD_new3 hbq)) | skip); obtain ⟨h0, h1, h2, h3, h4⟩ := S7.out _ kk; (have HO5 := Lib.hid (tabsC.ow_base how (laterU_size (a := wr) (by first | assumption | exact laterU_drew (laterU_alloc (Below.refl _ wr) _) | exact laterU_alloc (by assumption) _)))); (have HLT := Lib.hid (tabsC.ow_lt how)); (have HND := Lib.hid hnd); (first | (have x0 := GL.out.c0; have f0 := GL.out.f0) | skip); clear hbq how hnd))
        all_goals
          go_wp2_with fail
          go_meet
          refine ⟨rfl, ?_⟩
          first
            | (have GG := GL.out; exact madeD (by assumption) (laterU_size (by first | assumption | exact Below.refl _ _)) GG HO5.out rfl HND.out (fun q => by have h1 := (HLT.out _ q).1; have h2 := GB.out; omega))
            | (with_reducible exact madeD2 (by assumption) HO5.out rfl HND.out)
      case rest =>
        obtain ⟨rfl, kb, a5, c5, f5, rfl, hk5, hx, how, hnd, hl⟩ := hcut
        clear h0 h1 h2 h3 h4 kk S7 HAP q0
        have HSL := Lib.hid (HST.out.later hl)
        have HLX := Lib.hid hx
        have HNX := Lib.hid (HST.out.next how hnd hl HWN.out)
        have y0 := hx.c0
        have z0 := HSL.out.lx.c0
        have z1 := HSL.out.lx.f0
        have z2 := HSL.out.lr.c0
        have z3 := HSL.out.lr.f0
        clear hx how hnd hk5 hl
        cases hk : appOk cur nm bb row
        · have HE := Lib.hid (HSTOP.out hk)
          have hRm := HALL.out
          rw [HE.out] at hRm
          injection hRm with hR hm0
          have HR1 := Lib.hid hR
          have HM1 := Lib.hid (show k = N by have := HM.out; omega)
          clear hR hm0 hk
          go_wp2_with fail
          have k0 := World.cell?_setCell_same _ _ (.slice a cur.length c) z2
          refine bodyPost_ret (v := .tuple #[.agg #[.slice a cur.length c], .int .i64 k]) (by simp [results, Tryz.results13, go_sem, k0]) rfl (HSL.out.done HR1.out HM1.out)
        · have HE := Lib.hid (HGO.out hk)
          have hRm := HALL.out
          rw [HE.out] at hRm
          injection hRm with hR hm0
          have HR1 := Lib.hid (show allL (appL cur nm bb row) (us.drop (k + 1)) = (R, (allL (appL cur nm bb row) (us.drop (k + 1))).2) by rw [← hR])
          have HM1 := Lib.hid (show (k + 1) + (allL (appL cur nm bb row) (us.drop (k + 1))).2 = N by have := HM.out; omega)
          clear hR hm0 hk
          go_wp2_with fail
          go_roundw
          case rel => exact ⟨k + 1, _, _, _, _, _, by omega, by go_num, HR1.out, HM1.out, HNX.out⟩
          case measure => simp [intOf]; omega
    · have ek : k = us.length := by omega
      subst ek
      have hRm := HALL.out
      rw [allL_end] at hRm
      injection hRm with hR hm0
      have HR1 := Lib.hid hR
      have HM1 := Lib.hid (show us.length = N by have := HM.out; omega)
      have z2 := HST.out.lr.c0
      have z3 := HST.out.lr.f0
      clear hR hm0
      go_wp2_with fail
      have k0 := World.cell?_setCell_same _ _ (.slice a cur.length c) z2
      refine bodyPost_ret (v := .tuple #[.agg #[.slice a cur.length c], .int .i64 us.length]) (by simp [results, Tryz.results13, go_sem, k0]) rfl (HST.out.done HR1.out HM1.out)
end Go.Proofs.YtmifnbplkaonaaaGreat.UpdAll
