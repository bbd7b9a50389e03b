/- Databases: the model's RemoveTable. -/
import Derived.Test.YtdjgaffiildijaaDbAcc
namespace Go.Proofs.Ytdjgaffiildijaa.DbAcc
open Go Go.RowKit Byt Ints IntsLaw Cd Rows2 Tab SlMath TabOpen TabElem SlTable Db TabSpec DbMath DbSpec DbExact

set_option maxRecDepth 100000 in
set_option maxHeartbeats 1600000 in
theorem spec_rem (u : Value) (l : List T3) (nm : ByteArray) (S : Nat → Prop) (w : World) (h1 : tabsC.rd w S [u] l) (hw : wtS l ≤ 1048577) :
    Calls Try.prog 51 #[.agg #[u], .string nm] w fun e w' => DbAns (remR l nm) (remOk l nm) w e w' := by
  have HR1 := Lib.hid (fun w' (hb : Below w.heap.size w w') => Cd.later h1 hb)
  have HLK := Lib.hid (fun w' (hb : Below w.heap.size w w') => spec_look u l nm S w' (Cd.later h1 hb) hw)
  have HDC := Lib.hid (fun w' (hb : Below w.heap.size w w') => spec_dbcopy u l S w' (Cd.later h1 hb) (by omega))
  obtain ⟨a1, cap1, rfl, hl1⟩ := Cd.sl_form h1
  have HWT := Lib.hid hw
  clear h1 hw
  go_enter Try.func51, Try.ntmps51
  go_wp2_with fail
  generalize hW : (w.alloc _).alloc _ = W
  obtain ⟨r0, r1, hz, hb0⟩ := start2g w _ _ hW
  have HC0 := Lib.hid (Loc1.of r0)
  have HC1 := Lib.hid (Loc1.of r1)
  have HZZ := Lib.hid hz
  have HB0 := Lib.hid hb0
  clear hW r0 r1 hz hb0
  refine (HLK.out _ HB0.out).mono ?_
  rintro e w1 ⟨v1, f1, rfl, ho1, hn1, hb1⟩
  obtain ⟨av, cv, rfl⟩ := Cd.ow_slice ho1
  have HB1 := Lib.hid (below_then HB0.out hb1)
  have HC0a := Lib.hid (HC0.out.later hb1)
  have HC1a := Lib.hid (HC1.out.later hb1)
  have HS1 := Lib.hid (show w.heap.size + 2 ≤ w1.heap.size by have := hb1.size; have := HZZ.out; omega)
  clear ho1 hn1 hb1
  have q0 := HC0a.out.c0
  have q1 := HC0a.out.lt
  generalize lkT l nm = LT at *
  cases hok : (lookL l nm).isSome
  · have HOK := Lib.hid (show remOk l nm = false from hok)
    go_wp2_with fail
    have hb2 := below_alloc w1 (.cells #[.string LT.1, .int .i64 LT.2.1, .slice av LT.2.2.length cv] 28 (0, 0))
    refine (HDC.out _ (below_then HB1.out hb2)).mono ?_
    rintro e w3 ⟨u3, f3, rfl, ho3, hn3, hb3⟩
    obtain ⟨a3, c3, rfl⟩ := Cd.ow_slice (c := tabC) ho3
    have HC3 := Lib.hid ((HC1a.out.later hb2).later hb3)
    have y0 := HC3.out.c0
    have y1 := HC3.out.f0
    have HA := Lib.hid (DbAns.copy (b := remOk l nm) (l' := remR l nm) (Y := w.heap.size + 1) ho3 hn3 (below_then HB1.out hb2) hb3 (by omega) (by have := HS1.out; have := hb2.size; omega) (by unfold remR; rw [HOK.out]; rfl) HOK.out)
    clear ho3 hn3 hb3 hb2
    go_wp2_with fail
    have k0 : (w3.setCell ⟨w.heap.size + 1, 0, none⟩ (.slice a3 l.length c3)).cell? ⟨w.heap.size + 1, 0, none⟩ = some (.slice a3 l.length c3) := World.cell?_setCell_same _ _ _ y0
    refine bodyPost_ret (v := .tuple #[.agg #[.slice a3 l.length c3], .bool false]) (by simp [results, Try.results51, go_sem, k0]) rfl ?_
    exact HA.out
  · have HOK := Lib.hid (show remOk l nm = true from hok)
    go_wp2_with fail
    generalize hW : (w1.alloc _).alloc _ = WF
    obtain ⟨r0, r1, hz, hb0⟩ := start2g w1 _ _ hW
    have HACC0 := Lib.hid (AccS.start r1)
    have HZF := Lib.hid hz
    have HBF := Lib.hid (below_then HB1.out hb0)
    have HD0 := Lib.hid (HC0a.out.later hb0)
    have HD1 := Lib.hid (HC1a.out.later hb0)
    clear hW r0 r1 hz hb0 q0 q1
    have c0 := HD0.out.c0
    have c1 := HACC0.out.cell
    go_loopw [9] (fun i wr => ∃ (k : Nat) (a : Option Addr) (c : Nat) (fp : List Nat), k ≤ l.length ∧ i = .int .i64 k ∧ AccS WF wr (w1.heap.size + 1) (remL (l.take k) nm) a c fp) (fun i _ => l.length - (intOf i).toNat)
    case atStart => exact ⟨0, none, 0, [], Nat.zero_le _, rfl, HACC0.out⟩
    case round =>
      obtain ⟨k, a, c, fp, hk, rfl, hacc⟩ := hrel
      have HACC := Lib.hid hacc
      have hX : w.heap.size + 1 < w1.heap.size := by have := HS1.out; omega
      have x0 := (HACC.out.loc1 HD0.out (by omega)).c0
      have x1 := (HACC.out.loc1 HD0.out (by omega)).lt
      clear c0 c1 hacc
      by_cases hlt : k < l.length
      · obtain ⟨b, off, cap', us, e1, _, hbB, hat, hu⟩ := Cd.sl_at (HR1.out wr (HACC.out.below HBF.out (by omega))) hlt
        injection e1 with e1 e2 e3
        subst e1 e3
        obtain ⟨x, y, z, rfl⟩ := len_list (tabC.len hu)
        have p0 := hat 0 (by simp)
        have p1 := hat 1 (by simp)
        have p2 := hat 2 (by simp)
        simp only [List.getElem_cons_zero, List.getElem_cons_succ, Nat.add_zero, show tabC.n = 3 from rfl] at p0 p1 p2
        have ht3 : wtT l[k] ≤ 1073741824 := by have := sumN_mem wtT hlt; have := HWT.out; unfold wtS at this; omega
        have HCP := Lib.hid (copy_elem [x, y, z] l[k] _ wr hu ht3)
        have hx := name_cell hu
        have HLL := Lib.hid (show (remL (l.take k) nm).length + 1 ≤ 1000000000 by have h1 := remL_len (l.take k) nm; rw [List.length_take] at h1; have h2 := HWT.out; unfold wtS at h2; omega)
        have HF1 := Lib.hid (fun e : (l[k]).1 = nm => remL_eq hlt e)
        have HF0 := Lib.hid (fun e : (l[k]).1 ≠ nm => remL_ne hlt e)
        have i1 : (0 : Int) ≤ (k : Int) := by omega
        have i2 : (k : Int) < (l.length : Int) := by omega
        clear hu hat hbB e2 ht3
        generalize l[k] = T at *
        subst hx
        generalize remL (l.take k) nm = cur at *
        by_cases he : T.1 = nm
        · have HF := Lib.hid (HF1.out he)
          have he2 : (T.1.toList == nm.toList) = true := by rw [eqB]; exact decide_eq_true he
          clear he
          go_wp2_with fail
          go_roundw
          case rel => exact ⟨k + 1, a, c, fp, by omega, by go_num, HACC.out.shift HF.out.symm⟩
          case measure => simp [intOf]; omega
        · have HF := Lib.hid (HF0.out he)
          have he2 : (T.1.toList == nm.toList) = false := by rw [eqB]; exact decide_eq_false he
          clear he
          go_wp2_with fail
          refine (HCP.out).mono ?_
          rintro e w2 ⟨a2, c2, f2, rfl, ho2, hn2, hb2⟩
          have h2 := HACC.out.later hb2
          have d2 := h2.cell
          have dl := World.block_lt_of_cell? _ _ d2
          have hl := HACC.out.laid hb2 ho2 hn2 28
          have H3 := Lib.hid hl.1
          have HLD := Lib.hid hl.2
          clear ho2 hn2 hb2 h2 hl HACC
          go_wp2_with (at_builtin; refine Cd.wpList_appendN (c := tabC) rfl (.tmp 44) (.tmp 46) 51 rfl WF.heap.size 28 (.agg #[.string ⟨#[]⟩, .int .i64 0, .slice none 0 0]) 3 48 rfl Try.underlying51 info_x rfl (by decide) _ cur fp rfl H3.out.ow H3.out.nd (w2.heap.size + 1) _ rfl HLD.out.at_ T f2 HLD.out.ow HLD.out.nd HLD.out.far HLL.out H3.out.sz ?_)
          intro g cap4 w4 fp4 ho4 hn4 _ ht4
          have HACC := Lib.hid (H3.out.app (cur' := cur ++ [T]) (n := cur.length + 1) (by simp) ht4 ho4 hn4)
          obtain ⟨e2, g2⟩ := H3.out.fcell ht4
          clear ho4 hn4 ht4 H3 HLD d2 dl
          go_wp2_with fail
          go_roundw
          case rel => exact ⟨k + 1, some ⟨g, 0, none⟩, cap4, fp4, by omega, by go_num, HACC.out.shift HF.out.symm⟩
          case measure => simp [intOf]; omega
      · have ek : k = l.length := by omega
        subst ek
        have HL := Lib.hid (show remL (l.take l.length) nm = remR l nm by rw [List.take_length]; unfold remR; rw [HOK.out]; rfl)
        have hY := HACC.out.loc1 HD1.out (by omega)
        have y0 := hY.c0
        have y1 := hY.f0
        have z0 := HACC.out.cell
        have HY := Lib.hid y0
        have HYF := Lib.hid (show w.heap.size + 1 < WF.heap.size from HD1.out.lt)
        clear hY
        generalize remL (l.take l.length) nm = cur at *
        go_wp2_with fail
        have k0 : (wr.setCell ⟨w.heap.size + 1, 0, none⟩ (.slice a cur.length c)).cell? ⟨w.heap.size + 1, 0, none⟩ = some (.slice a cur.length c) := World.cell?_setCell_same _ _ _ HY.out
        refine bodyPost_ret (v := .tuple #[.agg #[.slice a cur.length c], .bool true]) (by simp [results, Try.results51, go_sem, k0]) rfl ?_
        exact (HACC.out.ans HBF.out (by omega) (by omega) HYF.out HL.out HOK.out)
end Go.Proofs.Ytdjgaffiildijaa.DbAcc
