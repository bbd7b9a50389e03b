/- Databases: the program's copy, and a table taken away. -/
import Derived.Test.YtdjgaffiildijaaDbImp4
import Derived.Test.YtdjgaffiildijaaDbAcc
namespace Go.Proofs.Ytdjgaffiildijaa.DbImp
open Go Go.RowKit Byt Ints IntsLaw Cd Rows2 Tab SlMath TabOpen TabElem SlTable Db TabSpec DbMath TabImp DbMap DbExact DbSort
open Go.Maps (Keyed string_keyed IsMap Tidy)
open DbSpec (LaterD drewD row1 rows_cell name_cell at3)
open DbAcc (DbAns)

set_option maxRecDepth 100000 in
set_option maxHeartbeats 1600000 in
theorem map_tables (u : Value) (l : List T3) (S : Nat → Prop) (w : World) (h1 : tabsC.rd w S [u] l) (hw : wtS l ≤ 1048577) :
    Calls Try.prog 104 #[u, .func (.func 59) #[] #[]] w fun e w' => ∃ g c fp, e = .returned (.slice (some ⟨g, 0, none⟩) l.length c) ∧ tabsC.ow w' w.heap.size [.slice (some ⟨g, 0, none⟩) l.length c] l fp ∧ fp.Nodup ∧ Below w.heap.size w w' := by
  obtain ⟨i0, hi, hz0, hz1, hz2⟩ := info_parts SlTable.info_x
  have HR := Lib.hid (fun w' (hb : Below w.heap.size w w') => Cd.later h1 hb)
  have HW := Lib.hid hw
  obtain ⟨a, cap, rfl, hlm⟩ := Cd.sl_form h1
  have hll : l.length ≤ 1048577 := by unfold wtS at hw; omega
  clear h1 hw
  go_enter Try.func104, Try.ntmps104
  go_wp2_with (at_make; refine wpList_make_own _ rfl _ _ 51 rfl w.heap.size 28 i0 (.agg #[.string ⟨#[]⟩, .int .i64 0, .slice none 0 0]) 3 Try.underlying51 hi hz0 hz1 _ _ _ l.length rfl rfl rfl (by rw [hz2]; omega) (by unfold maxLen; omega) (Nat.le_refl _) ?_)
  intro w1 hown0 hg0
  have how1 : tabsC.ow w1 w.heap.size [.slice (some ⟨w.heap.size, 0, none⟩) 0 l.length] [] [w.heap.size] := ⟨_, [], [], rfl, hown0, trivial, rfl⟩
  have hb1 : Below w.heap.size w w1 := ⟨hg0.os, hg0.tape, hg0.output, hg0.size, fun k hk => hg0.block k hk (by simp)⟩
  have HO1 := Lib.hid how1
  have HB1 := Lib.hid hb1
  clear hown0 hg0 how1 hb1
  go_wp2_with fail
  go_loopw [5, 13] (fun o i wr => ∃ (k g c : Nat) (fp : List Nat), k ≤ l.length ∧ i = .int .i64 k ∧ o = .slice (some ⟨g, 0, none⟩) (l.take k).length c ∧ tabsC.ow wr w.heap.size [.slice (some ⟨g, 0, none⟩) (l.take k).length c] (l.take k) fp ∧ fp.Nodup ∧ Below w.heap.size w wr) (fun _ i _ => l.length - (intOf i).toNat)
  case atStart => exact ⟨0, _, _, _, Nat.zero_le _, rfl, rfl, HO1.out, by simp, HB1.out⟩
  case round =>
    obtain ⟨k, g, c, fp, hk, rfl, rfl, how, hnd, hb⟩ := hrel
    by_cases hlt : k < l.length
    · obtain ⟨b, off, cap', us, e1, _, hbB, hat, hu⟩ := Cd.sl_at (HR.out wr hb) hlt
      injection e1 with e1 e2 e3
      subst e1 e3
      obtain ⟨az, cz, rfl⟩ := elem_form hu
      have p0 := hat 0 (by simp)
      have p1 := hat 1 (by simp)
      have p2 := hat 2 (by simp)
      simp only [List.getElem_cons_zero, List.getElem_cons_succ, Nat.add_zero, show tabC.n = 3 from rfl] at p0 p1 p2
      have ht3 : wtT l[k] ≤ 1048577 := by have := sumN_mem wtT hlt; have := HW.out; unfold wtS at this; omega
      have HC := Lib.hid (fun w' (hq : Below wr.heap.size wr w') => copy_elem_i _ l[k] S w' (Cd.later hu hq) ht3)
      have HOW := Lib.hid how
      have HND := Lib.hid hnd
      have HB := Lib.hid hb
      have HT := Lib.hid (show l.take (k + 1) = l.take k ++ [l[k]] from List.take_succ_eq_append_getElem hlt)
      have i1 : (0 : Int) ≤ (k : Int) := by omega
      have i2 : (k : Int) < (l.length : Int) := by omega
      have t1 : (l.take k).length + 1 ≤ 1000000000 := by rw [List.length_take]; omega
      clear hu how hnd hb hat e2 ht3
      generalize l[k] = T at *
      generalize l.take k = cur at *
      go_wp2_with fail
      have hbA := below_alloc wr (.cells #[.string T.1, .int .i64 T.2.1, .slice az T.2.2.length cz] 28 (0, 0))
      refine (HC.out _ hbA).mono ?_
      rintro e w4 ⟨a4, c4, f4, rfl, ho4, hn4, hb4⟩
      have hbB' := below_alloc w4 (.cells #[.string T.1, .int .i64 T.2.1, .slice a4 T.2.2.length c4] 28 (0, 0))
      have HB5 := Lib.hid (below_then (below_then hbA hb4) hbB')
      have HAT := Lib.hid (at3 (w := w4.alloc (.cells #[.string T.1, .int .i64 T.2.1, .slice a4 T.2.2.length c4] 28 (0, 0))) (b := w4.heap.size) (row_alloc w4 _))
      have HOT := Lib.hid (tabC.ow_base (Cd.ow_later ho4 hbB') (show w.heap.size ≤ _ from Nat.le_trans HB.out.size hbA.size))
      have HN4 := Lib.hid hn4
      have HFAR := Lib.hid (show ∀ b ∈ f4, b ∉ fp from fun b hb q => by
        have h1 := (tabC.ow_lt ho4 b hb).1
        have h2 := ((Cd.sl _ tabC).ow_lt HOW.out b q).2
        have h3 := hbA.size
        omega)
      have t2 : w.heap.size ≤ (w4.alloc (.cells #[.string T.1, .int .i64 T.2.1, .slice a4 T.2.2.length c4] 28 (0, 0))).heap.size := Nat.le_trans HB.out.size HB5.out.size
      have HO5 := Lib.hid (Cd.ow_later HOW.out HB5.out)
      clear ho4 hn4 hb4 hbA hbB'
      go_wp2_with (at_builtin; refine Cd.wpList_appendN (c := tabC) rfl (.tmp 17) (.tmp 21) 51 rfl w.heap.size 28 (.agg #[.string ⟨#[]⟩, .int .i64 0, .slice none 0 0]) 3 48 rfl Try.underlying51 SlTable.info_x rfl (by decide) _ cur fp rfl HO5.out HND.out w4.heap.size _ rfl HAT.out T f4 HOT.out HN4.out HFAR.out t1 t2 ?_)
      intro g6 c6 w6 fp6 ho6 hn6 _ ht6
      have HB6 := Lib.hid (Cd.Touch.below (below_then HB.out HB5.out) ht6 (fun b hb => ((Cd.sl _ tabC).ow_lt HOW.out b hb).1))
      have HO6 := Lib.hid (show tabsC.ow w6 w.heap.size [.slice (some ⟨g6, 0, none⟩) (cur ++ [T]).length c6] (cur ++ [T]) fp6 from by rw [show (cur ++ [T]).length = cur.length + 1 by simp]; exact ho6)
      have HN6 := Lib.hid hn6
      have HE := Lib.hid (show (cur ++ [T]).length = cur.length + 1 by simp)
      clear ho6 hn6 ht6
      go_wp2_with fail
      go_roundw
      case rel => exact ⟨k + 1, g6, c6, fp6, by omega, by go_num, by rw [HT.out, HE.out], by rw [HT.out]; exact HO6.out, HN6.out, HB6.out⟩
      case measure => simp [intOf]; omega
    · have ek : k = l.length := by omega
      subst ek
      rw [List.take_length] at how ⊢
      go_wp2_with fail
      go_ret
      exact ⟨_, _, fp, rfl, how, hnd, hb⟩
set_option maxRecDepth 100000 in
theorem impl_dbcopy (u : Value) (l : List T3) (S : Nat → Prop) (w : World) (h1 : tabsC.rd w S [u] l) (hw : wtS l ≤ 1048577) :
    Calls Try.prog 87 #[.agg #[u]] w fun e w' => ∃ a c fp, e = .returned (.agg #[.slice a l.length c]) ∧ tabsC.ow w' w.heap.size [.slice a l.length c] l fp ∧ fp.Nodup ∧ Below w.heap.size w w' := by
  have HM := Lib.hid (fun w' (hb : Below w.heap.size w w') => map_tables u l S w' (Cd.later h1 hb) hw)
  obtain ⟨a, cap, rfl, hlm⟩ := Cd.sl_form h1
  clear h1
  go_enter Try.func87, Try.ntmps87
  go_wp2_with fail
  generalize hW : (w.alloc _).alloc _ = W
  obtain ⟨r0, r1, hz, hb0⟩ := start2g w _ _ hW
  have HC1 := Lib.hid (Loc1.of r1)
  have HB0 := Lib.hid hb0
  have HZ := Lib.hid hz
  clear hW r0 r1 hz hb0
  refine (HM.out _ HB0.out).mono ?_
  rintro e w1 ⟨g, c, fp, rfl, ho, hn, hb1⟩
  have HO := Lib.hid ho
  have HN := Lib.hid hn
  have HB1 := Lib.hid (below_then HB0.out hb1)
  have x0 := (HC1.out.later hb1).c0
  have x1 := (HC1.out.later hb1).f0
  clear ho hn hb1
  go_wp2_with fail
  have k0 : (w1.setCell ⟨w.heap.size + 1, 0, none⟩ (.slice (some ⟨g, 0, none⟩) l.length c)).cell? ⟨w.heap.size + 1, 0, none⟩ = some (.slice (some ⟨g, 0, none⟩) l.length c) := World.cell?_setCell_same _ _ _ x0
  refine bodyPost_ret (v := .agg #[.slice (some ⟨g, 0, none⟩) l.length c]) (by simp [results, Try.results87, go_sem, k0]) rfl ⟨_, c, fp, rfl, ?_, HN.out, HB1.out.setCell (by show _ ≤ w.heap.size + 1; omega) _⟩
  exact ow_setCell ((Cd.sl _ tabC).ow_base HO.out (by have := HZ.out; omega)) (fun q => by have := ((Cd.sl _ tabC).ow_lt HO.out _ q).1; have := HZ.out; simp only at *; omega) _

/-- What the map of a valid database stands for. -/
theorem stand_of {w : World} {S : Nat → Prop} {a : Option Addr} {l : List T3} {ts : List TabV} (h : HeldT w S a l ts) (hw : wtS l ≤ 1048577) : Stand (entF ts) (findN l) S w := fun s => by
  rcases entF_find h s with ⟨q1, q2⟩ | ⟨T, t, q1, q2, q3⟩
  · exact .inl ⟨q2, q1⟩
  · exact .inr ⟨t, T, q2, q1, by have := stand_name q3; rw [← this]; exact (findN_some q1).2, by have := find_wt q1; omega, q3⟩
def delG (G : ByteArray → Option T3) (s : ByteArray) : ByteArray → Option T3 := fun x => if x = s then none else G x
def setG (G : ByteArray → Option T3) (s : ByteArray) (T : T3) : ByteArray → Option T3 := fun x => if x = s then some T else G x
theorem Stand.del {F : ByteArray → Option TabV} {G : ByteArray → Option T3} {S : Nat → Prop} {w : World} (h : Stand F G S w) (s : ByteArray) : Stand (delF F s) (delG G s) S w := fun x => by
  unfold delF delG
  by_cases e : x = s
  · rw [if_pos e, if_pos e]; exact .inl ⟨rfl, rfl⟩
  · rw [if_neg e, if_neg e]; exact h x
theorem rem_eq {l R : List T3} {nm : ByteArray} (ha : AscP l) (hR : AscP R) (h : ∀ T, T ∈ R ↔ delG (findN l) nm T.1 = some T) : R = remL l nm := by
  refine asc_unique hR (asc_remL ha nm) fun U => ?_
  rw [h, mem_remL]
  unfold delG
  by_cases e : U.1 = nm
  · rw [if_pos e]
    exact ⟨fun q => (by cases q), fun q => absurd e q.2⟩
  · rw [if_neg e]
    exact ⟨fun q => ⟨(findN_some q).1, e⟩, fun q => findN_of_asc ha q.1⟩
set_option maxRecDepth 100000 in
set_option maxHeartbeats 1600000 in
theorem impl_rem (u : Value) (l : List T3) (nm : ByteArray) (S : Nat → Prop) (w : World) (h1 : tabsC.rd w S [u] l) (hw : wtS l ≤ 1048577) (hs : nm.size ≤ 1048576) :
    Calls Try.prog 52 #[.agg #[u], .string nm] w fun e w' => DbAns (remR l nm) (remOk l nm) w e w' := by
  obtain ⟨a1, cap1, rfl, hl1⟩ := Cd.sl_form h1
  obtain ⟨ts, ht⟩ := held_of h1
  have HT := Lib.hid (fun w' (hb : Below w.heap.size w w') => HeldT.later ht hb)
  have HNA := Lib.hid (fun w' (hb : Below w.heap.size w w') => impl_byname a1 cap1 l ts S w' (Cd.later h1 hb) (HeldT.later ht hb))
  have HDC := Lib.hid (fun w' (hb : Below w.heap.size w w') => impl_dbcopy _ l S w' (Cd.later h1 hb) hw)
  have HK := Lib.hid (key_of (s := nm) (by unfold maxLen; omega))
  have HWT := Lib.hid hw
  clear h1 ht hw hs
  go_enter Try.func52, Try.ntmps52
  go_wp2_with fail
  generalize hW : (w.alloc _).alloc _ = W
  obtain ⟨r0, r1, hz, hb0⟩ := start2g w _ _ hW
  have HC0 := Lib.hid (Loc1.of r0)
  have HC1 := Lib.hid (Loc1.of r1)
  have HB0 := Lib.hid hb0
  have HZ := Lib.hid hz
  clear hW r0 r1 hz hb0
  refine (HNA.out _ HB0.out).mono ?_
  rintro e w1 ⟨B, D, n, rfl, hBl, hown, hn6, hm, hb1⟩
  have HC0a := Lib.hid (HC0.out.later hb1)
  have HC1a := Lib.hid (HC1.out.later hb1)
  have HB1 := Lib.hid (below_then HB0.out hb1)
  have HS1 := Lib.hid (show w.heap.size + 1 < w1.heap.size by have := hb1.size; have := HZ.out; omega)
  have HBL := Lib.hid (show w.heap.size + 2 ≤ B by have := HZ.out; omega)
  have HM := Lib.hid hm
  clear hb1 hm hBl
  have q0 := HC0a.out.c0
  have q1 := HC0a.out.lt
  cases hok : remOk l nm
  · have HOK := Lib.hid hok
    have hh : Maps.has D (keyL nm) = false := by
      rw [HM.out.has]
      unfold remOk lookL at hok
      cases hv : dbOk l
      · rfl
      · rw [hv, if_pos rfl] at hok
        rw [if_pos rfl]
        rcases entF_find (HT.out w (Below.refl _ _)) nm with ⟨p1, p2⟩ | ⟨T, t, p1, p2, _⟩
        · rw [p2]; rfl
        · rw [p1] at hok; cases hok
    clear hok
    go_wp2_with (first
      | (at_lookup; refine wpList_lookup_own_ok _ rfl _ _ 85 rfl 9 28 law Try.underlying85 tabR (zeroE _) (.held (.agg #[.string ⟨#[]⟩, .int .i64 0, .slice none 0 0])) [] rfl B n D rfl hown _ (keyL nm) rfl HK.out ?_; intro v ps hv; obtain ⟨t, rfl, _⟩ := tabR_inv hv; unfold TabV.val; rw [hh]; clear hv))
    have hb2 := below_alloc w1 (.cells #[.string t.nm, .int .i64 t.ar, .slice t.a t.n t.c] 28 (0, 0))
    refine (HDC.out _ (below_then HB1.out hb2)).mono ?_
    rintro e w3 ⟨a3, c3, f3, rfl, ho3, hn3, hb3⟩
    have HC3 := Lib.hid ((HC1a.out.later hb2).later hb3)
    have y0 := HC3.out.c0
    have y1 := HC3.out.f0
    have HA := Lib.hid (DbAns.copy (b := remOk l nm) (l' := remR l nm) (Y := w.heap.size + 1) ho3 hn3 (below_then HB1.out hb2) hb3 (by omega) (by have := HS1.out; have := hb2.size; omega) (by unfold remR; rw [HOK.out]; rfl) HOK.out)
    clear ho3 hn3 hb3 hb2
    rw [← HOK.out]
    go_wp2_with fail
    have k0 : (w3.setCell ⟨w.heap.size + 1, 0, none⟩ (.slice a3 l.length c3)).cell? ⟨w.heap.size + 1, 0, none⟩ = some (.slice a3 l.length c3) := World.cell?_setCell_same _ _ _ y0
    refine bodyPost_ret (v := .tuple #[.agg #[.slice a3 l.length c3], .bool false]) (by simp [results, Try.results52, go_sem, k0]) rfl ?_
    exact HA.out
  · have HOK := Lib.hid hok
    have hv : dbOk l = true := by
      unfold remOk lookL at hok
      cases hv : dbOk l
      · rw [hv] at hok; cases hok
      · rfl
    have HASC := Lib.hid (dbOk_iff.1 hv).2.2
    have hm' : MapIs D (entF ts) l.length := by have h := HM.out; rw [hv] at h; exact h
    have hh : Maps.has D (keyL nm) = true := by
      rw [hm'.has]
      unfold remOk lookL at hok
      rw [hv, if_pos rfl] at hok
      rcases entF_find (HT.out w (Below.refl _ _)) nm with ⟨p1, p2⟩ | ⟨T, t, p1, p2, _⟩
      · rw [p1] at hok; cases hok
      · rw [p2]; rfl
    have HM2 := Lib.hid (hm'.del nm)
    have HL6 := Lib.hid (dbOk_iff.1 hv).1
    clear hok hm' hv
    go_wp2_with (first
      | (at_lookup; refine wpList_lookup_own_ok _ rfl _ _ 85 rfl 9 28 law Try.underlying85 tabR (zeroE _) (.held (.agg #[.string ⟨#[]⟩, .int .i64 0, .slice none 0 0])) [] rfl B n D rfl hown _ (keyL nm) rfl HK.out ?_; intro v ps hv; obtain ⟨t, rfl, _⟩ := tabR_inv hv; unfold TabV.val; rw [hh]; clear hv)
      | (at_delete; refine wpList_delete_own _ rfl _ _ 85 9 rfl 28 law Try.underlying85 tabR B n D rfl (World.ownsMap.alloc hown _) _ (keyL nm) rfl HK.out ?_; intro w2 hown2 hturn2; go_frame))
    have HO2 := Lib.hid (show Owns w2 B n (D.del (keyL nm)) from hown2)
    have hb2 := below_alloc w1 (.cells #[.string t.nm, .int .i64 t.ar, .slice t.a t.n t.c] 28 (0, 0))
    have htg := touch_grown hturn2.grown
    have HB2 := Lib.hid (Cd.Touch.below (below_then HB1.out hb2) htg (fun b hb => by rw [List.mem_singleton.1 hb]; have := HBL.out; omega))
    have HC2 := Lib.hid ((HC1a.out.later hb2).touched htg (by have := HBL.out; simp; omega))
    have HS2 := Lib.hid (show w.heap.size + 1 < w2.heap.size by have := HS1.out; have := hb2.size; have := htg.size; omega)
    clear hown hown2 hturn2 htg hb2 q0 q1
    go_wp2_with fail
    refine (impl_sorted B n _ _ _ _ S w2 HO2.out HM2.out (by have := HL6.out; split <;> omega) ((stand_of (HT.out w2 HB2.out) HWT.out).del nm)).mono ?_
    rintro e w3 ⟨R, a3, c3, f3, rfl, ho3, hn3, hR, hmem, hb3⟩
    have HE := Lib.hid (rem_eq HASC.out hR hmem)
    have HC3 := Lib.hid (HC2.out.later hb3)
    have y0 := HC3.out.c0
    have y1 := HC3.out.f0
    have HO3 := Lib.hid ho3
    have HN3 := Lib.hid hn3
    have HB3 := Lib.hid (below_then HB2.out hb3)
    clear ho3 hn3 hb3 hR hmem
    go_wp2_with fail
    have k0 : (w3.setCell ⟨w.heap.size + 1, 0, none⟩ (.slice a3 R.length c3)).cell? ⟨w.heap.size + 1, 0, none⟩ = some (.slice a3 R.length c3) := World.cell?_setCell_same _ _ _ y0
    refine bodyPost_ret (v := .tuple #[.agg #[.slice a3 R.length c3], .bool true]) (by simp [results, Try.results52, go_sem, k0]) rfl ?_
    refine ⟨.slice a3 R.length c3, f3, by rw [HOK.out], ?_, HN3.out, HB3.out.setCell (by show _ ≤ w.heap.size + 1; omega) _⟩
    have e : remR l nm = R := by unfold remR; rw [HOK.out, HE.out]; rfl
    rw [e]
    exact ow_setCell ((Cd.sl _ tabC).ow_base HO3.out (by have := HS2.out; omega)) (fun q => by have := ((Cd.sl _ tabC).ow_lt HO3.out _ q).1; have := HS2.out; simp only at *; omega) _
end Go.Proofs.Ytdjgaffiildijaa.DbImp
