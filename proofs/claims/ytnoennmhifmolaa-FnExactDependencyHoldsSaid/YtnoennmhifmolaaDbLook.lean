/- Databases: the model's look-up and its count of rows. -/
import Derived.Test.YtnoennmhifmolaaDbValid
import Derived.Test.YtnoennmhifmolaaDbCopy
namespace Go.Proofs.Ytnoennmhifmolaa.DbSpec
open Go Go.RowKit Byt Ints IntsLaw Cd Rows2 Tab SlMath TabOpen TabElem SlTable Db TabSpec DbMath

theorem cntRows_succ {l : List T3} {k : Nat} (h : k < l.length) : cntRows (l.take (k + 1)) = cntRows (l.take k) + (l[k]).2.2.length := sumN_succ _ h
theorem cntRows_take (l : List T3) (k : Nat) : cntRows (l.take k) ≤ cntRows l := sumN_take _ l k
theorem cntRows_le : ∀ (l : List T3), cntRows l ≤ wtS l
  | [] => by simp [cntRows, sumN]
  | T :: l => by
    have ih := cntRows_le l
    unfold wtS at *
    rw [sumN_cons, List.length_cons]
    have e : cntRows (T :: l) = T.2.2.length + cntRows l := sumN_cons _ _ _
    have : T.2.2.length ≤ wtT T := by unfold wtT tabWt rowsWt; omega
    omega
theorem rows_cell {w : World} {S : Nat → Prop} {x y z : Value} {T : T3} (h : tabC.rd w S [x, y, z] T) : ∃ a c, z = .slice a T.2.2.length c := by
  obtain ⟨u, e, _, _, h3⟩ := tab_cells h
  obtain ⟨a, c, e2, _⟩ := rows_form h3
  injection e with _ e
  injection e with _ e
  injection e with e _
  exact ⟨a, c, e.trans e2⟩


theorem copy_rows (us : List Value) (T : T3) (S : Nat → Prop) (w : World) (hu : tabC.rd w S us T) (hw : wtT T ≤ 1073741824) :
    Calls Try.prog 87 #[.agg us.toArray] w fun e w' => ∃ a c fp, e = .returned (.agg #[.string T.1, .int .i64 T.2.1, .slice a T.2.2.length c]) ∧ rowsC.ow w' w.heap.size [.slice a T.2.2.length c] T.2.2 fp ∧ fp.Nodup ∧ Below w.heap.size w w' := by
  obtain ⟨u, rfl, h1, h2, h3⟩ := tab_cells hu
  refine (spec_copy T.1 T.2.1 u T.2.2 S w h3 (by unfold wtT tabWt at hw; omega)).mono ?_
  rintro e w' ⟨u', fp, rfl, how, hnd, hb⟩
  obtain ⟨a, c, rfl⟩ := Cd.ow_slice how
  exact ⟨a, c, fp, rfl, how, hnd, hb⟩
def zeroT : T3 := (⟨#[]⟩, 0, [])
def lkT (l : List T3) (nm : ByteArray) : T3 := (lookL l nm).getD zeroT
theorem lk_none {l : List T3} {nm : ByteArray} (h : lookL l nm = none) : lkT l nm = zeroT := by unfold lkT; rw [h]; rfl
theorem lk_some {l : List T3} {nm : ByteArray} {T : T3} (h : lookL l nm = some T) : lkT l nm = T := by unfold lkT; rw [h]; rfl
/-- A table, and whether there is one. -/
def LookAns (l : List T3) (nm : ByteArray) (w : World) (e : Ending) (w' : World) : Prop :=
  ∃ v fp, e = .returned (.tuple #[.agg #[.string (lkT l nm).1, .int .i64 (lkT l nm).2.1, v], .bool (lookL l nm).isSome]) ∧ rowsC.ow w' w.heap.size [v] (lkT l nm).2.2 fp ∧ fp.Nodup ∧ Below w.heap.size w w'
theorem LookAns.none {l : List T3} {nm : ByteArray} {w w' : World} (h : lookL l nm = Option.none) (hb : Below w.heap.size w w') : LookAns l nm w (.returned (.tuple #[.agg #[.string ⟨#[]⟩, .int .i64 0, .slice .none 0 0], .bool false])) w' :=
  ⟨.slice .none 0 0, [], by rw [lk_none h, h]; rfl, by rw [lk_none h]; exact Cd.ow_nil _ _, by simp, hb⟩
theorem LookAns.some {l : List T3} {nm : ByteArray} {w w' : World} {T : T3} {v : Value} {fp : List Nat} (h : lookL l nm = Option.some T) (ho : rowsC.ow w' w.heap.size [v] T.2.2 fp) (hn : fp.Nodup) (hb : Below w.heap.size w w') : LookAns l nm w (.returned (.tuple #[.agg #[.string T.1, .int .i64 T.2.1, v], .bool true])) w' :=
  ⟨v, fp, by rw [lk_some h, h]; rfl, by rw [lk_some h]; exact ho, hn, hb⟩
theorem take_no {l : List T3} {nm : ByteArray} {k : Nat} (h : ∀ T ∈ l.take k, T.1 ≠ nm) (hk : k < l.length) (h0 : (l[k]).1 ≠ nm) : ∀ T ∈ l.take (k + 1), T.1 ≠ nm := by
  intro T hT
  rw [List.take_succ_eq_append_getElem hk] at hT
  rcases List.mem_append.1 hT with q | q
  · exact h T q
  · rw [List.mem_singleton.1 q]; exact h0
set_option maxRecDepth 100000 in
set_option maxHeartbeats 1600000 in
theorem spec_look (u : Value) (l : List T3) (nm : ByteArray) (S : Nat → Prop) (w : World) (h1 : tabsC.rd w S [u] l) (hw : wtS l ≤ 1048577) :
    Calls Try.prog 57 #[.agg #[u], .string nm] w fun e w' => LookAns l nm w e w' := by
  have HR1 := Lib.hid (fun w' (hb : Below w.heap.size w w') => Cd.later h1 hb)
  have HV := Lib.hid (fun w' (hb : Below w.heap.size w w') => spec_dbok u l S w' (Cd.later h1 hb))
  obtain ⟨a1, cap1, rfl, hl1⟩ := Cd.sl_form h1
  have HWT := Lib.hid hw
  clear h1 hw
  go_enter Try.func57, Try.ntmps57
  go_wp2_with fail
  generalize hW : (w.alloc _).alloc _ = W
  obtain ⟨r0, r1, hz, hb0⟩ := start2g w _ _ hW
  have c0 := (row1 r0).1
  have HC0 := Lib.hid (row1 r0).1
  have HC1 := Lib.hid r1
  have HZZ := Lib.hid hz
  have HB0 := Lib.hid hb0
  clear hW r0 r1 hz hb0
  go_loopw [6] (fun i wr => ∃ k : Nat, k ≤ l.length ∧ i = .int .i64 k ∧ (dbOk l = false → k = 0) ∧ (∀ T ∈ l.take k, T.1 ≠ nm) ∧ Below W.heap.size W wr) (fun i _ => l.length - (intOf i).toNat)
  case atStart => exact ⟨0, Nat.zero_le _, rfl, fun _ => rfl, by simp, Below.refl _ _⟩
  case round =>
    obtain ⟨k, hk, rfl, h0, hno, hb⟩ := hrel
    have x0 := (hb.cell (p := ⟨w.heap.size, 0, none⟩) (by have := HZZ.out; show w.heap.size < _; omega)).trans HC0.out
    have HC1' := Lib.hid ((hb.block (w.heap.size + 1) (by have := HZZ.out; omega)).trans HC1.out)
    have HK0 := Lib.hid h0
    have HNO := Lib.hid hno
    have HBW := Lib.hid (below_then HB0.out hb)
    have HWR := Lib.hid hb
    have HX0 := Lib.hid x0
    have HXL := Lib.hid (show w.heap.size + 1 < wr.heap.size by have := HZZ.out; have := hb.size; omega)
    clear c0 h0 hno
    by_cases hlt : k < l.length
    · obtain ⟨b, off, cap', us, e1, _, hbB, hat, hu⟩ := Cd.sl_at (HR1.out wr HBW.out) hlt
      injection e1 with e1 e2 e3
      subst e1 e3
      obtain ⟨x, y, z, rfl⟩ := len_list (tabC.len hu)
      have p0 := hat 0 (by simp)
      have p1 := hat 1 (by simp)
      have p2 := hat 2 (by simp)
      simp only [List.getElem_cons_zero, List.getElem_cons_succ, Nat.add_zero, show tabC.n = 3 from rfl] at p0 p1 p2
      have ht3 : wtT l[k] ≤ 1073741824 := by have := sumN_mem wtT hlt; have := HWT.out; unfold wtS at this; omega
      have HCP := Lib.hid (fun w' (hq : LaterD wr w') => copy_rows [x, y, z] l[k] _ w' (Cd.later hu hq) ht3)
      have hx := name_cell hu
      have HAT := Lib.hid (And.intro p0 (And.intro p1 (And.intro p2 hbB)))
      have HF1 := Lib.hid (fun e : (l[k]).1 = nm => findN_at hlt HNO.out e)
      have HF0 := Lib.hid (fun e : (l[k]).1 ≠ nm => take_no HNO.out hlt e)
      have i1 : (0 : Int) ≤ (k : Int) := by omega
      have i2 : (k : Int) < (l.length : Int) := by omega
      clear hu hat hbB e2 p0 p1 p2 ht3
      generalize l[k] = T at *
      subst hx
      go_wp2_with fail
      refine (HV.out _ HBW.out).mono ?_
      rintro e w2 ⟨rfl, hb2⟩
      have y0 := (hb2.cell (p := ⟨w.heap.size, 0, none⟩) (by have := HXL.out; show w.heap.size < _; omega)).trans HX0.out
      have q0 := (hb2.cell (p := ⟨b, off + k * 3, none⟩) HAT.out.2.2.2).trans HAT.out.1
      have q1 := (hb2.cell (p := ⟨b, off + k * 3 + 1, none⟩) HAT.out.2.2.2).trans HAT.out.2.1
      have q2 := (hb2.cell (p := ⟨b, off + k * 3 + 2, none⟩) HAT.out.2.2.2).trans HAT.out.2.2.1
      have HB2 := Lib.hid (below_then HBW.out hb2)
      have HB3 := Lib.hid (below_then HWR.out hb2)
      have HC2 := Lib.hid ((hb2.block (w.heap.size + 1) HXL.out).trans HC1'.out)
      have HD2 := Lib.hid (show LaterD wr w2 from hb2)
      have HS2 := Lib.hid (show w.heap.size + 1 < w2.heap.size by have := HXL.out; have := hb2.size; omega)
      clear hb2
      cases hv : dbOk l
      · have HZ := Lib.hid (show lookL l nm = none by unfold lookL; rw [hv]; rfl)
        obtain ⟨m0, m1, m2, f0, f1, f2⟩ := row3 HC2.out
        go_wp2_with fail
        have G0 := set3 (w := w2) (k := w.heap.size + 1) (x := .string ⟨#[]⟩) (y := .int .i64 0) (z := .slice none 0 0) m0 m1 m2
        refine bodyPost_ret (v := .tuple #[.agg #[.string ⟨#[]⟩, .int .i64 0, .slice none 0 0], .bool false]) (by simp [results, Try.results57, go_sem, G0.1, G0.2.1, G0.2.2]) rfl (LookAns.none HZ.out ?_)
        exact ((HB2.out.setCell (by show _ ≤ w.heap.size + 1; omega) _).setCell (by show _ ≤ w.heap.size + 1; omega) _).setCell (by show _ ≤ w.heap.size + 1; omega) _
      · have HV2 := Lib.hid hv
        by_cases he : T.1 = nm
        · have HZ := Lib.hid (show lookL l nm = some T by unfold lookL; rw [hv]; exact HF1.out he)
          have he2 : (T.1.toList == nm.toList) = true := by rw [eqB]; exact decide_eq_true he
          clear he
          go_wp2_with fail
          refine (HCP.out _ HD2.out).mono ?_
          rintro e w3 ⟨a3, c3, fp, rfl, ho, hn, hb3⟩
          have HB4 := Lib.hid (below_then HB2.out hb3)
          obtain ⟨m0, m1, m2, f0, f1, f2⟩ := row3 ((hb3.block (w.heap.size + 1) HS2.out).trans HC2.out)
          have HO := Lib.hid ho
          have HN := Lib.hid hn
          clear ho hn hb3
          go_wp2_with fail
          have G0 := set3 (w := w3) (k := w.heap.size + 1) (x := .string T.1) (y := .int .i64 T.2.1) (z := .slice a3 T.2.2.length c3) m0 m1 m2
          have hfar : w.heap.size + 1 ∉ fp := fun q => by have := (rowsC.ow_lt HO.out _ q).1; have := HS2.out; omega
          refine bodyPost_ret (v := .tuple #[.agg #[.string T.1, .int .i64 T.2.1, .slice a3 T.2.2.length c3], .bool true]) (by simp [results, Try.results57, go_sem, G0.1, G0.2.1, G0.2.2]) rfl (LookAns.some HZ.out ?_ HN.out ?_)
          · exact ow_setCell (ow_setCell (ow_setCell (rowsC.ow_base HO.out (by have := HS2.out; omega)) hfar _) hfar _) hfar _
          · exact ((HB4.out.setCell (by show _ ≤ w.heap.size + 1; omega) _).setCell (by show _ ≤ w.heap.size + 1; omega) _).setCell (by show _ ≤ w.heap.size + 1; omega) _
        · have HF := Lib.hid (HF0.out he)
          have he2 : (T.1.toList == nm.toList) = false := by rw [eqB]; exact decide_eq_false he
          clear he
          go_wp2_with fail
          go_roundw
          case rel => exact ⟨k + 1, by omega, by go_num, (fun q => by rw [HV2.out] at q; cases q), HF.out, HB3.out⟩
          case measure => simp [intOf]; omega
    · have ek : k = l.length := by omega
      subst ek
      have HZ := Lib.hid (show lookL l nm = none by
        unfold lookL
        cases hv : dbOk l
        · rfl
        · have := HNO.out; rw [List.take_length] at this; exact findN_none.2 this)
      obtain ⟨m0, m1, m2, f0, f1, f2⟩ := row3 HC1'.out
      go_wp2_with fail
      have G0 := set3 (w := wr) (k := w.heap.size + 1) (x := .string ⟨#[]⟩) (y := .int .i64 0) (z := .slice none 0 0) m0 m1 m2
      refine bodyPost_ret (v := .tuple #[.agg #[.string ⟨#[]⟩, .int .i64 0, .slice none 0 0], .bool false]) (by simp [results, Try.results57, go_sem, G0.1, G0.2.1, G0.2.2]) rfl (LookAns.none HZ.out ?_)
      exact ((HBW.out.setCell (by show _ ≤ w.heap.size + 1; omega) _).setCell (by show _ ≤ w.heap.size + 1; omega) _).setCell (by show _ ≤ w.heap.size + 1; omega) _
end Go.Proofs.Ytnoennmhifmolaa.DbSpec
