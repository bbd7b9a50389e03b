/- Databases: the program's list out of a map of tables, sorted. -/
import Derived.Test.YtdjgaffiildijaaDbSort
import Derived.Test.YtdjgaffiildijaaDbImp3
namespace Go.Proofs.Ytdjgaffiildijaa.DbImp
open Go Go.RowKit Byt Ints IntsLaw Cd Rows2 Tab SlMath TabOpen TabElem SlTable Db TabSpec DbMath TabImp DbMap DbExact DbSort
open Go.Maps (Keyed string_keyed IsMap Tidy)
open DbSpec (LaterD drewD row1 rows_cell name_cell at3)

theorem key_inv {v : Value} {kl : Lit} (h : keyOf Try.prog 9 v = some kl) : ∃ x : ByteArray, v = .string x := by
  rw [keyOf_string Try.underlying9] at h
  unfold mapKey at h
  rw [Try.underlying9] at h
  split at h <;> simp_all
theorem key_eq {x : ByteArray} {kl : Lit} (h : keyOf Try.prog 9 (.string x) = some kl) : kl = keyL x := by
  rw [keyOf_string Try.underlying9] at h
  unfold mapKey at h
  rw [Try.underlying9] at h
  simp only at h
  split at h
  · injection h with h; exact h.symm
  · cases h
theorem same_key {s t : ByteArray} : (keyL s).sameKey (keyL t) = decide (s = t) := by
  by_cases e : s = t
  · subst e
    rw [decide_eq_true rfl]
    simp [keyL, Lit.sameKey]
  · rw [decide_eq_false e]
    exact Maps.sameKey_ne (keyL_ne e)

/-- What the entries of a map stand for. -/
def Stand (F : ByteArray → Option TabV) (G : ByteArray → Option T3) (S : Nat → Prop) (w : World) : Prop :=
  ∀ s, (F s = none ∧ G s = none) ∨ ∃ t T, F s = some t ∧ G s = some T ∧ t.nm = s ∧ wtT T ≤ 1048577 ∧ tabC.rd w S t.us T
theorem Stand.later {F : ByteArray → Option TabV} {G : ByteArray → Option T3} {S : Nat → Prop} {w w' : World} (h : Stand F G S w) (hb : Below w.heap.size w w') : Stand F G S w' := fun s =>
  (h s).imp id fun ⟨t, T, h1, h2, h3, h4, h5⟩ => ⟨t, T, h1, h2, h3, h4, Cd.later h5 hb⟩
theorem stand_name {w : World} {S : Nat → Prop} {t : TabV} {T : T3} (h : tabC.rd w S t.us T) : T.1 = t.nm := by
  have := name_cell h
  injection this with this
  exact this.symm
/-- The tables that are gathered so far. -/
structure Gath (G : ByteArray → Option T3) (left : Lit → Bool) (cur : List T3) : Prop where
  mem : ∀ T, T ∈ cur ↔ (G T.1 = some T ∧ left (keyL T.1) = false)
  ne : cur.Pairwise fun a b => a.1 ≠ b.1
theorem Gath.start {D : DataW Value} {F : ByteArray → Option TabV} {G : ByteArray → Option T3} {S : Nat → Prop} {w : World} {m : Nat} (hm : MapIs D F m) (hs : Stand F G S w) : Gath G (Maps.has D) [] := by
  refine ⟨fun T => ⟨(fun h => by cases h), (fun ⟨h1, h2⟩ => ?_)⟩, List.Pairwise.nil⟩
  rw [hm.has] at h2
  rcases hs T.1 with ⟨_, q⟩ | ⟨t, T', q, _⟩
  · rw [q] at h1; cases h1
  · rw [q] at h2; cases h2
theorem Gath.step {G : ByteArray → Option T3} {left : Lit → Bool} {cur : List T3} (h : Gath G left cur) {T : T3} (hG : G T.1 = some T) (hl : left (keyL T.1) = true) : Gath G (fun z => left z && !z.sameKey (keyL T.1)) (cur ++ [T]) := by
  refine ⟨fun U => ?_, ?_⟩
  · rw [List.mem_append, List.mem_singleton, h.mem]
    simp only [same_key, Bool.and_eq_false_iff, Bool.not_eq_false', decide_eq_true_eq]
    constructor
    · rintro (⟨q1, q2⟩ | rfl)
      · exact ⟨q1, .inl q2⟩
      · exact ⟨hG, .inr rfl⟩
    · rintro ⟨q1, q2 | q2⟩
      · exact .inl ⟨q1, q2⟩
      · rw [q2, hG] at q1
        injection q1 with q1
        exact .inr q1.symm
  · rw [List.pairwise_append]
    refine ⟨h.ne, List.pairwise_singleton _ _, fun U hU V hV e => ?_⟩
    rw [List.mem_singleton.1 hV] at e
    have := ((h.mem U).1 hU).2
    rw [e, hl] at this
    cases this
/-- All the tables, each name once, in their order. -/
def ListAns (G : ByteArray → Option T3) (w : World) (e : Ending) (w' : World) : Prop :=
  ∃ R a c fp, e = .returned (.agg #[.slice a R.length c]) ∧ tabsC.ow w' w.heap.size [.slice a R.length c] R fp ∧ fp.Nodup ∧ AscP R ∧ (∀ T, T ∈ R ↔ G T.1 = some T) ∧ Below w.heap.size w w'
theorem asc_of {l l' : List T3} (hp : l'.Perm l) (hne : l.Pairwise fun a b => a.1 ≠ b.1) (hs : l'.Pairwise fun a b => ltB b.1 a.1 = false) : AscP l' := by
  have hne' : l'.Pairwise fun a b => a.1 ≠ b.1 := (hp.pairwise_iff fun h => Ne.symm h).2 hne
  unfold AscP ltT
  refine (List.Pairwise.and hs hne').imp fun {a b} ⟨h1, h2⟩ => ?_
  cases q : ltB a.1 b.1
  · exact absurd (ltB_tri q h1) h2
  · rfl
theorem copy_elem_i (us : List Value) (T : T3) (S : Nat → Prop) (w : World) (hu : tabC.rd w S us T) (hw : wtT T ≤ 1048577) :
    Calls Try.prog 59 #[.agg us.toArray] w fun e w' => ∃ a c fp, e = .returned (.agg #[.string T.1, .int .i64 T.2.1, .slice a T.2.2.length c]) ∧ tabC.ow w' w.heap.size [.string T.1, .int .i64 T.2.1, .slice a T.2.2.length c] T fp ∧ fp.Nodup ∧ Below w.heap.size w w' := by
  refine (copy_rows_i us T S w hu hw).mono ?_
  obtain ⟨u, _, h1, h2, _⟩ := tab_cells hu
  rintro e w' ⟨a, c, fp, rfl, how, hnd, hb⟩
  exact ⟨a, c, fp, rfl, tab_ow how h1 h2, hnd, hb⟩

set_option maxRecDepth 100000 in
set_option maxHeartbeats 1600000 in
theorem impl_sorted (B n : Nat) (D : DataW Value) (F : ByteArray → Option TabV) (G : ByteArray → Option T3) (m : Nat) (S : Nat → Prop) (w : World) (hown : Owns w B n D) (hm : MapIs D F m) (hm7 : m ≤ 1000) (hst : Stand F G S w) :
    Calls Try.prog 88 #[.map (some B)] w fun e w' => ListAns G w e w' := by
  obtain ⟨i0, hi, hz0, hz1, hz2⟩ := info_parts SlTable.info_x
  have HST := Lib.hid (fun w' (hb : Below w.heap.size w w') => hst.later hb)
  have HM := Lib.hid hm
  have hBl := hown.lt
  have HBL := Lib.hid hBl
  have hsize := hm.size
  clear hst
  go_enter Try.func88, Try.ntmps88
  have hownA := World.ownsMap.alloc hown (.cells #[.slice none 0 0] 53 (0, 0))
  have hA0 := row_alloc w (.cells #[.slice none 0 0] 53 (0, 0))
  have hAb := below_alloc w (.cells #[.slice none 0 0] 53 (0, 0))
  have hAs := size_alloc w (.cells #[.slice none 0 0] 53 (0, 0))
  go_wp2_with (first
    | (at_len; refine wpList_len_own _ rfl _ 85 rfl 9 28 Try.underlying85 tabR B n D rfl hownA ?_; rw [hsize])
    | (at_make; refine wpList_make_own _ rfl _ _ 51 rfl (w.heap.size + 1) 28 i0 (.agg #[.string ⟨#[]⟩, .int .i64 0, .slice none 0 0]) 3 Try.underlying51 hi hz0 hz1 _ _ _ m rfl rfl rfl (by rw [hz2]; omega) (by unfold maxLen; omega) (by rw [hAs]; exact Nat.le_refl _) ?_))
  intro w1 hown1 hg1
  have HC1 := Lib.hid ((Loc1.of hA0).keep (hg1.block _ (by rw [hAs]; omega) (by simp)))
  have HB1 := Lib.hid (below_then hAb (show Below _ _ w1 from ⟨hg1.os, hg1.tape, hg1.output, hg1.size, fun k hk => hg1.block k hk (by simp)⟩))
  have HM1 := Lib.hid (show Owns w1 B n D from World.ownsMap.kept hownA hg1 (by simp))
  have HS1 := Lib.hid (show w.heap.size + 1 < w1.heap.size from by
    rcases hown1.2 with ⟨h', _⟩ | ⟨g', cap', cur, h', _, hg, _⟩
    · cases h'
    · simp only [Value.slice.injEq, Option.some.injEq, Addr.mk.injEq, and_true, true_and] at h'
      have := (Array.getElem?_eq_some_iff.1 hg).1
      rw [← h'.1] at this
      exact this)
  have HO1 := Lib.hid (show tabsC.ow w1 (w.heap.size + 1) [.slice (some ⟨w.heap.size + 1, 0, none⟩) 0 m] [] [w.heap.size + 1] from ⟨_, [], [], rfl, hown1, trivial, rfl⟩)
  (try rw [hAs])
  clear hownA hA0 hAb hg1 hown1 hAs hown
  have hown2 := HM1.out
  go_wp2_with (first
    | (at_range; refine wpList_range_own _ rfl _ 85 rfl 9 28 law Try.underlying85 tabR B n D rfl hown2 ?_; intro w2 hrg2 hg2 hs2))
  go_frame
  have hb2 : Below w1.heap.size w1 w2 := ⟨hg2.os, hg2.tape, hg2.output, hg2.size, fun k hk => hg2.block k hk (by simp)⟩
  have HRG := Lib.hid hrg2
  have HB2 := Lib.hid (below_then HB1.out hb2)
  have HO2 := Lib.hid (Cd.ow_later HO1.out hb2)
  have HC2 := Lib.hid (HC1.out.later hb2)
  clear hrg2 hg2 hb2 hown2
  rw [hsize] at HRG
  go_loopw [3] (fun o wr => ∃ (left : Lit → Bool) (cnt g c : Nat) (cur : List T3) (fp : List Nat), o = .slice (some ⟨g, 0, none⟩) cur.length c ∧ wr.ranges Try.prog 9 tabR B w1.heap.size n D left cnt ∧ cur.length + cnt ≤ m ∧ tabsC.ow wr (w.heap.size + 1) [.slice (some ⟨g, 0, none⟩) cur.length c] cur fp ∧ fp.Nodup ∧ w1.heap.size ∉ fp ∧ Gath G left cur ∧ Loc1 wr w.heap.size (.slice none 0 0) ∧ Below w.heap.size w wr ∧ w2.heap.size ≤ wr.heap.size) (fun _ wr => wr.rangeLeft B w1.heap.size)
  case atStart => exact ⟨_, m, w.heap.size + 1, m, [], [w.heap.size + 1], rfl, HRG.out, by simp, HO2.out, by simp, by have := HS1.out; simp; omega, Gath.start HM.out (HST.out w (Below.refl _ _)), HC2.out, HB2.out, Nat.le_refl _⟩
  case round =>
    obtain ⟨left, cnt, g, c, cur, fp, rfl, hrg, hcm, how, hnd, hrf, hga, hlc, hbw, hsw⟩ := hrel
    have HOW := Lib.hid how
    have HND := Lib.hid hnd
    have HGA := Lib.hid hga
    have HLC := Lib.hid hlc
    have HBW := Lib.hid hbw
    have HRF := Lib.hid hrf
    have HSW := Lib.hid hsw
    have HRR := Lib.hid hrg
    clear how hnd hga hlc hbw hrf hsw
    go_wp2_with (first
      | (at_next; refine wpList_next_ranges _ rfl _ rfl 9 law tabR Value.string TabV.val (fun _ _ h => key_inv h) (fun _ _ h => by obtain ⟨t, h, _⟩ := tabR_inv h; exact ⟨t, h⟩) B w1.heap.size n D left cnt rfl hrg ?_ ?_))
    · intro hc0 hl0
      have HL0 := Lib.hid hl0
      clear hl0 hrg
      go_wp2_with fail
      refine (sort_tables g c (w.heap.size + 1) cur fp wr HOW.out HND.out (by omega)).mono ?_
      rintro e w3 ⟨l', fp', rfl, ho3, hn3, hp3, hs3, ht3⟩
      have hlen : l'.length = cur.length := hp3.length_eq
      have hgf : g ∈ fp := by
        obtain ⟨v', xss, fps, e1, _, _, rfl⟩ := HOW.out
        injection e1 with e1 _
        subst e1
        exact List.mem_cons_self
      have hgl := ((Cd.sl _ tabC).ow_lt HOW.out g hgf).1
      have hLC := HLC.out.touched ht3 (by simp; omega)
      have HB3 := Lib.hid (Cd.Touch.below HBW.out ht3 (fun b hb => by rw [List.mem_singleton.1 hb]; omega))
      have HO3 := Lib.hid ho3
      have HN3 := Lib.hid hn3
      have HAS := Lib.hid (asc_of hp3 HGA.out.ne hs3)
      have HME := Lib.hid (show ∀ T, T ∈ l' ↔ G T.1 = some T from fun T => by
        rw [hp3.mem_iff, HGA.out.mem]
        exact ⟨fun h => h.1, fun h => ⟨h, HL0.out _⟩⟩)
      have x0 := hLC.c0
      have x1 := hLC.f0
      rw [← hlen]
      clear ho3 hn3 hp3 hs3 ht3 hlen hLC hgf hgl
      go_wp2_with fail
      have k0 : (w3.setCell ⟨w.heap.size, 0, none⟩ (.slice (some ⟨g, 0, none⟩) l'.length c)).cell? ⟨w.heap.size, 0, none⟩ = some (.slice (some ⟨g, 0, none⟩) l'.length c) := World.cell?_setCell_same _ _ _ x0
      refine bodyPost_ret (v := .agg #[.slice (some ⟨g, 0, none⟩) l'.length c]) (by simp [results, Try.results88, go_sem, k0]) rfl ⟨l', _, c, fp', rfl, ?_, HN3.out, HAS.out, HME.out, HB3.out.setCell (Nat.le_refl _) _⟩
      exact ow_setCell ((Cd.sl _ tabC).ow_base HO3.out (Nat.le_succ _)) (fun q => by have := ((Cd.sl _ tabC).ow_lt HO3.out _ q).1; simp only at this; omega) _
    · intro x t kl y1 y2 w3 cnt3 hkx hlx hyt hat hrg3 hlt hg3 hs3 hen
      obtain rfl := key_eq hkx
      obtain ⟨t', ht', hyy⟩ := tabR_inv hyt
      obtain rfl : y1 = .held t.val := by injection hyy
      clear hyy
      have hbk : Cd.Touch [w1.heap.size] wr w3 := touch_grown hg3
      have hHas : Maps.has D (keyL x) = true := Maps.has_true_of_atKey (y := .held t.val) hat
      have hFG : ∃ T, G x = some T ∧ T.1 = x ∧ wtT T ≤ 1048577 ∧ ∀ w', Below w.heap.size w w' → tabC.rd w' S t.us T := by
        rcases HST.out w (Below.refl _ _) x with ⟨q, _⟩ | ⟨t2, T, q1, q2, q3, q4, q5⟩
        · rw [HM.out.has, q] at hHas; cases hHas
        · have e1 := HM.out.at_ x t2 (.held t.val) q1
          rw [hat] at e1
          injection e1 with e1
          have e2 : t = t2 := by
            cases t
            cases t2
            simp only [TabV.val, Value.agg.injEq, Array.mk.injEq, List.cons.injEq, Value.string.injEq, Value.int.injEq, Value.slice.injEq, true_and, and_true] at e1
            simp [e1]
          subst e2
          exact ⟨T, q2, (stand_name q5).trans q3, q4, fun w' hb => Cd.later q5 hb⟩
      obtain ⟨T, hG, hTx, hTw, hTr⟩ := hFG
      have HG := Lib.hid (show G T.1 = some T by rw [hTx]; exact hG)
      have HLX := Lib.hid (show left (keyL T.1) = true by rw [hTx]; exact hlx)
      have HCP := Lib.hid (fun w' (hb : Below w.heap.size w w') => copy_elem_i t.us T S w' (hTr w' hb) hTw)
      have HBW3 := Lib.hid (Cd.Touch.below HBW.out hbk (fun b hb => by rw [List.mem_singleton.1 hb]; have := HS1.out; omega))
      have HOW3 := Lib.hid (Cd.ow_touched HOW.out hbk (fun b hb q => by rw [List.mem_singleton.1 q] at hb; exact HRF.out hb))
      have HLC3 := Lib.hid (HLC.out.touched hbk (by have := HS1.out; simp; omega))
      have HRG3 := Lib.hid hrg3
      have HSW3 := Lib.hid (show w2.heap.size ≤ w3.heap.size by rw [hs3]; exact HSW.out)
      have HX := Lib.hid hTx
      have HCN := Lib.hid (show cnt3 < cnt from hlt)
      clear hkx hyt hat hg3 hHas hG hTw hTr hTx hbk ht' hlx hrg3 hs3
      unfold TabV.val at hen ⊢
      go_wp2_with fail
      have hbA := below_alloc w3 (.cells #[.string t.nm, .int .i64 t.ar, .slice t.a t.n t.c] 28 (0, 0))
      refine (HCP.out _ (below_then HBW3.out hbA)).mono ?_
      rintro e w4 ⟨a4, c4, f4, rfl, ho4, hn4, hb4⟩
      have hbB := below_alloc w4 (.cells #[.string T.1, .int .i64 T.2.1, .slice a4 T.2.2.length c4] 28 (0, 0))
      have HB5 := Lib.hid (below_then (below_then hbA hb4) hbB)
      have HAT := Lib.hid (at3 (w := w4.alloc (.cells #[.string T.1, .int .i64 T.2.1, .slice a4 T.2.2.length c4] 28 (0, 0))) (b := w4.heap.size) (row_alloc w4 _))
      have HOT := Lib.hid (tabC.ow_base (Cd.ow_later ho4 hbB) (show w.heap.size + 1 ≤ _ by have := HSW3.out; have := hbA.size; have := HS1.out; omega))
      have HN4 := Lib.hid hn4
      have HFAR := Lib.hid (show ∀ b ∈ f4, b ∉ fp ∧ w1.heap.size < b from fun b hb => by
        have h1 := (tabC.ow_lt ho4 b hb).1
        have h3 := hbA.size
        refine ⟨fun q => ?_, ?_⟩
        · have h2 := ((Cd.sl _ tabC).ow_lt HOW3.out b q).2
          omega
        · have h4 := HSW3.out
          rw [size_alloc] at h1
          omega)
      have HSB := Lib.hid (show w2.heap.size ≤ (w4.alloc (.cells #[.string T.1, .int .i64 T.2.1, .slice a4 T.2.2.length c4] 28 (0, 0))).heap.size from Nat.le_trans HSW3.out HB5.out.size)
      have t1 : cur.length + 1 ≤ 1000000000 := by omega
      have t2 : w.heap.size + 1 ≤ (w4.alloc (.cells #[.string T.1, .int .i64 T.2.1, .slice a4 T.2.2.length c4] 28 (0, 0))).heap.size := by have := HSB.out; have := HS1.out; omega
      have T3 := Lib.hid (Cd.ow_later HOW3.out HB5.out)
      clear ho4 hn4 hb4 hbA hbB hen
      go_wp2_with (at_builtin; refine Cd.wpList_appendN (c := tabC) rfl (.tmp 15) (.tmp 18) 51 rfl (w.heap.size + 1) 28 (.agg #[.string ⟨#[]⟩, .int .i64 0, .slice none 0 0]) 3 48 rfl Try.underlying51 SlTable.info_x rfl (by decide) _ cur fp rfl T3.out HND.out w4.heap.size _ rfl HAT.out T f4 HOT.out HN4.out (fun b hb => (HFAR.out b hb).1) t1 t2 ?_)
      intro g6 c6 w6 fp6 ho6 hn6 hsub6 ht6
      have hfw : ∀ b ∈ fp, w.heap.size + 1 ≤ b := fun b hb => ((Cd.sl _ tabC).ow_lt HOW.out b hb).1
      have HL6 := Lib.hid ((HLC3.out.later HB5.out).touched ht6 (fun q => by have := hfw _ q; omega))
      have HB6 := Lib.hid (Cd.Touch.below (below_then HBW3.out HB5.out) ht6 (fun b hb => by have := hfw b hb; omega))
      have hRGB := World.ranges.kept HRG3.out (grown_of HB5.out none) (by simp) (by simp)
      have hBn : B ∉ fp := fun q => by have := hfw _ q; have := HBL.out; omega
      have HRG6 := Lib.hid (show w6.ranges Try.prog 9 tabR B w1.heap.size n D (fun z => left z && !z.sameKey (keyL x)) cnt3 from by
        obtain ⟨es, clock, since, seen, c0, q1, q2, q3, q4, q5, q6⟩ := hRGB
        refine ⟨es, clock, since, seen, c0, (ht6.block B (Array.getElem?_eq_some_iff.1 q1).1 hBn).trans q1, q2, q3, q4, (ht6.block _ (Array.getElem?_eq_some_iff.1 q5).1 HRF.out).trans q5, q6⟩)
      have HO6 := Lib.hid ho6
      have HN6 := Lib.hid hn6
      have HR6 := Lib.hid (show w1.heap.size ∉ fp6 from fun q => by
        rcases hsub6 _ q with h | h | h
        · exact HRF.out h
        · have := (HFAR.out _ h).2; omega
        · have h2 := HSB.out; (try rw [size_alloc] at h2); (try rw [size_alloc] at h); omega)
      have HS6 := Lib.hid (Nat.le_trans HSB.out ht6.size)
      have HG6 := Lib.hid (show Gath G (fun z => left z && !z.sameKey (keyL x)) (cur ++ [T]) from by rw [← HX.out]; exact HGA.out.step HG.out HLX.out)
      clear ho6 hn6 hsub6 ht6 hRGB hBn hfw
      go_wp2_with fail
      go_roundw
      case rel => exact ⟨_, cnt3, g6, c6, cur ++ [T], fp6, by simp, HRG6.out, by have := HCN.out; simp; omega, (by have h := HO6.out; rw [show cur.length + 1 = (cur ++ [T]).length by simp] at h; exact h), HN6.out, HR6.out, HG6.out, HL6.out, HB6.out, HS6.out⟩
      case measure => rw [HRG6.out.left_eq, HRR.out.left_eq]; exact HCN.out
end Go.Proofs.Ytdjgaffiildijaa.DbImp
