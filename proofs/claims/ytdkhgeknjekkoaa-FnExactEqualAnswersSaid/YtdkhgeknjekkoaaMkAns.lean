/- What the exact laws do with an answer: sized, copied, compared, marked, looked at. -/
import Derived.Test.YtdkhgeknjekkoaaAnsC
import Derived.Test.YtdkhgeknjekkoaaTabOpen
namespace Go.Proofs.Ytdkhgeknjekkoaa.MkAns
open Go Go.RowKit Byt Ints IntsLaw Cd Rows2 Tab TabSpec Exact Atom AnsC

theorem set_both {w : World} {X : Nat} {a b : Value} (h : Loc2 w X a b) (x y : Value) : Loc2 ((w.setCell ⟨X, 0, none⟩ x).setCell ⟨X, 1, none⟩ y) X x y := by
  obtain ⟨h1, h2⟩ := set2 (w := w) (k := X) (x := x) (y := y) h.c0 h.c1
  exact ⟨h1, h2, by simpa using h.f0, by simpa using h.f1⟩
set_option maxRecDepth 100000 in
theorem sz_ans (v1 v2 : Value) (V : List Int) (R : List (List Int)) (S : Nat → Prop) (L : Nat) (w : World) (hr : ansC.rd w S [v1, v2] (V, R)) (hL : L ≤ 1048576) :
    Calls Try.prog 6 #[.agg #[v1, v2], .int .i64 L] w fun e w' => e = .returned (.int .i64 (leftI L (ansWt V R))) ∧ Below w.heap.size w w' := by
  obtain ⟨h1, h2⟩ := ans_reads hr
  have HC := Lib.hid (fun w' => sz_ints v1 V L w' (row_form h1) hL)
  have HR := Lib.hid (fun w' (hb : Below w.heap.size w w') => Cd.later h2 hb)
  clear hr h1 h2
  by_cases h0 : V.length ≤ L
  case neg =>
    have HZ := Lib.hid (show leftI L (ansWt V R) = -1 from left_no (by unfold ansWt; omega))
    rw [left_no h0] at HC
    clear h0
    go_enter Try.func6, Try.ntmps6
    go_wp2_with fail
    refine (HC.out _).mono ?_
    rintro e w1 ⟨rfl, rfl⟩
    go_wp2_with fail
    go_ret
    exact ⟨ret_int HZ.out.symm, below_alloc _ _⟩
  rw [left_yes h0] at HC
  have HB := Lib.hid (below_alloc w (.cells #[v1, v2] 25 (0, 0)))
  have HC2 := Lib.hid (sz_rows v2 R S (L - V.length) _ (HR.out _ HB.out) (by omega))
  have HW := Lib.hid (show leftI (L - V.length) (rowsWt R) = leftI L (ansWt V R) by
    unfold leftI ansWt
    split <;> split <;> omega)
  rw [HW.out] at HC2
  have hge : ¬ (((L - V.length : Nat) : Int) < 0) := by omega
  have HN := Lib.hid (show leftI L (ansWt V R) < 0 → leftI L (ansWt V R) = -1 by unfold leftI; split <;> omega)
  clear h0
  generalize leftI L (ansWt V R) = z at *
  generalize L - V.length = L2 at *
  go_enter Try.func6, Try.ntmps6
  go_wp2_with fail
  refine (HC.out _).mono ?_
  rintro e w1 ⟨rfl, rfl⟩
  go_wp2_with fail
  refine HC2.out.mono ?_
  rintro e w1 ⟨rfl, rfl⟩
  by_cases hz : z < 0
  · go_wp2_with fail
    go_ret
    exact ⟨ret_int (HN.out hz).symm, HB.out⟩
  · go_wp2_with fail
    go_ret
    exact ⟨rfl, HB.out⟩

set_option maxRecDepth 100000 in
set_option maxHeartbeats 1600000 in
theorem to_ans (v1 v2 : Value) (V : List Int) (R : List (List Int)) (S : Nat → Prop) (w : World) (hr : ansC.rd w S [v1, v2] (V, R)) (hl : ansWt V R ≤ 1048577) :
    Calls Try.prog 8 #[.agg #[v1, v2]] w fun e w' => ∃ u1 u2 fp, e = .returned (.agg #[u1, u2]) ∧ ansC.ow w' w.heap.size [u1, u2] (V, R) fp ∧ fp.Nodup ∧ Below w.heap.size w w' := by
  obtain ⟨h1, h2⟩ := ans_reads hr
  have HC1 := Lib.hid (fun w' (hb : Below w.heap.size w w') => to_i v1 V S w' (Cd.later h1 hb) (by unfold ansWt at hl; omega))

  have h2' : rowsC.rd w (· < w.heap.size) [v2] R := Cd.mono _ h2 fun b hb _ => hb
  have HC3 := Lib.hid (fun w' (hb : Below w.heap.size w w') => to_rows v2 R _ w' (Cd.below (c := rowsC) h2' hb) (by unfold ansWt at hl; omega))
  clear hr h1 h2 hl h2'
  go_enter Try.func8, Try.ntmps8
  go_wp2_with fail
  generalize hW : ((w.alloc _).alloc _).alloc _ = W
  obtain ⟨r0, r1, r2, hz, hb0⟩ := start3 w _ _ _ hW
  clear hW
  refine (HC1.out _ hb0).mono ?_
  rintro e w1 ⟨u1, f1, rfl, ho1, hn1, hb1⟩
  obtain ⟨a1, c1, rfl⟩ := Cd.ow_slice ho1
  have LA := Lib.hid ((Loc2.of r0).later hb1)
  have LB := Lib.hid ((Loc2.of r1).later hb1)
  have LC := Lib.hid ((Loc2.of r2).later hb1)
  have HO1 := Lib.hid ho1
  have HN1 := Lib.hid hn1
  have HB1 := Lib.hid (below_then hb0 hb1)
  have HZ := Lib.hid hz
  have HZ1 := Lib.hid hb1.size
  clear ho1 hn1 hb0 hb1 r0 r1 r2 hz
  have y0 := LA.out.c0
  have y1 := LA.out.c1
  have y2 := LC.out.c0
  have y3 := LC.out.c1
  have y4 := LC.out.f0
  have y5 := LC.out.f1
  have hne : w.heap.size ≠ w.heap.size + 1 + 1 := by omega
  go_upto_region 3 with fail
  have HS0 := Lib.hid (show Below w.heap.size w (w1.setCell ⟨w.heap.size + 1 + 1, 0, none⟩ (.slice a1 V.length c1)) from HB1.out.setCell (by show _ ≤ w.heap.size + 1 + 1; omega) _)
  have hnf : w.heap.size + 1 + 1 ∉ f1 := fun q => by have h1 := (rowC.ow_lt HO1.out _ q).1; have h2 := HZ.out; omega
  have HO2 := Lib.hid (ow_setCell (c := rowC) (p := ⟨w.heap.size + 1 + 1, 0, none⟩) HO1.out hnf (.slice a1 V.length c1))
  have LA2 := Lib.hid (LA.out.set_far (p := ⟨w.heap.size + 1 + 1, 0, none⟩) (by show w.heap.size + 1 + 1 ≠ w.heap.size; omega) (.slice a1 V.length c1))
  have LB2 := Lib.hid (LB.out.set_far (p := ⟨w.heap.size + 1 + 1, 0, none⟩) (by show w.heap.size + 1 + 1 ≠ w.heap.size + 1; omega) (.slice a1 V.length c1))
  have LC2 := Lib.hid (show Loc2 (w1.setCell ⟨w.heap.size + 1 + 1, 0, none⟩ (.slice a1 V.length c1)) (w.heap.size + 1 + 1) (.slice a1 V.length c1) (.slice none 0 0) from
    ⟨World.cell?_setCell_same _ _ _ y2, (World.cell?_setCell_other _ _ _ _ (by simp)).trans y3, by simpa using y4, by simpa using y5⟩)
  have HSZ := Lib.hid (show (w1.setCell ⟨w.heap.size + 1 + 1, 0, none⟩ (.slice a1 V.length c1)).heap.size = w1.heap.size by simp)
  clear y0 y1 y2 y3 y4 y5 LA LB LC hnf
  generalize w1.setCell ⟨w.heap.size + 1 + 1, 0, none⟩ (.slice a1 V.length c1) = W2 at *
  have y1 := LA2.out.c1
  go_wp2_with fail
  refine (HC3.out _ HS0.out).mono ?_
  rintro e w3 ⟨u2, f2, rfl, ho2, hn2, hb3⟩
  obtain ⟨a2, c2, rfl⟩ := Cd.ow_slice (c := rowC) ho2
  have LB3 := Lib.hid (LB2.out.later hb3)
  have LC3 := Lib.hid (LC2.out.later hb3)
  have HO3 := Lib.hid (Cd.ow_later HO2.out hb3)
  have HOR := Lib.hid ho2
  have HNR := Lib.hid (show (f1 ++ f2).Nodup from List.nodup_append.2 ⟨HN1.out, hn2, fun a ha b hb q => by
    have h1 := (rowC.ow_lt HO2.out a ha).2
    have h2 := (rowsC.ow_lt ho2 b hb).1
    omega⟩)
  have HB3 := Lib.hid (below_then HS0.out hb3)
  have HF := Lib.hid (show ∀ k, k < w.heap.size + 3 → k ∉ f1 ++ f2 from fun k hk q => by
    have hz := HZ.out
    have hz1 := HZ1.out
    have hsz := HSZ.out
    rcases List.mem_append.1 q with q | q
    · have := (rowC.ow_lt HO1.out k q).1; omega
    · have := (rowsC.ow_lt ho2 k q).1; omega)
  clear y1 ho2 hn2 hb3
  have x0 := LC3.out.c0
  have x1 := LC3.out.c1
  have x2 := LC3.out.f0
  have x3 := LC3.out.f1
  have z0 := LB3.out.c0
  have z1 := LB3.out.c1
  have z2 := LB3.out.f0
  have z3 := LB3.out.f1
  go_wp2_with fail
  obtain ⟨k0, k1⟩ := set2 (w := w3.setCell ⟨w.heap.size + 1 + 1, 1, none⟩ (.slice a2 R.length c2)) (k := w.heap.size + 1) (x := .slice a1 V.length c1) (y := .slice a2 R.length c2)
    ((World.cell?_setCell_other _ _ _ _ (by simp)).trans z0) ((World.cell?_setCell_other _ _ _ _ (by simp)).trans z1)
  refine bodyPost_ret (v := .agg #[.slice a1 V.length c1, .slice a2 R.length c2]) (by simp [results, Try.results8, go_sem, k0, k1]) rfl ⟨_, _, f1 ++ f2, rfl, ?_, HNR.out, ?_⟩
  · have hn := HF.out
    exact ow_setCell (c := ansC) (ow_setCell (c := ansC) (ow_setCell (c := ansC) (ans_ow (rowC.ow_base HO3.out (by have := HZ.out; omega)) (rowsC.ow_base HOR.out (by have := HSZ.out; have := HZ.out; have := HZ1.out; omega))) (hn _ (by show w.heap.size + 1 + 1 < _; omega)) _) (hn _ (by show w.heap.size + 1 < _; omega)) _) (hn _ (by show w.heap.size + 1 < _; omega)) _
  · exact ((HB3.out.setCell (by show _ ≤ w.heap.size + 1 + 1; omega) _).setCell (by show _ ≤ w.heap.size + 1; omega) _).setCell (by show _ ≤ w.heap.size + 1; omega) _

set_option maxRecDepth 100000 in
theorem eq_ans (u1 u2 v1 v2 : Value) (V : List Int) (R : List (List Int)) (S1 S2 : Nat → Prop) (w : World) (h1 : ansC.rd w S1 [u1, u2] (V, R)) (h2 : ansC.rd w S2 [v1, v2] (V, R)) :
    Calls Try.prog 10 #[.agg #[u1, u2], .agg #[v1, v2]] w fun e w' => e = .returned (.bool true) ∧ Below w.heap.size w w' := by
  obtain ⟨g1, g2⟩ := ans_reads h1
  obtain ⟨k1, k2⟩ := ans_reads h2
  have HC1 := Lib.hid (fun w' (hb : Below w.heap.size w w') => eq_i u1 v1 V S1 S2 w' (Cd.later g1 hb) (Cd.later k1 hb))
  have HC2 := Lib.hid (fun w' (hb : Below w.heap.size w w') => eq_r u2 v2 R S1 S2 w' (Cd.later g2 hb) (Cd.later k2 hb))
  clear h1 h2 g1 g2 k1 k2
  go_enter Try.func10, Try.ntmps10
  go_wp2_with fail
  generalize hW : (w.alloc _).alloc _ = W
  obtain ⟨r0, r1, hz, hb0⟩ := start2g w _ _ hW
  clear hW
  refine (HC1.out _ hb0).mono ?_
  rintro e w1 ⟨rfl, hq⟩
  have HB := Lib.hid (below_then hb0 hq)
  have LA := Lib.hid ((Loc2.of r0).later hq)
  have LB := Lib.hid ((Loc2.of r1).later hq)
  clear hb0 hq r0 r1
  have y0 := LA.out.c1
  have y1 := LB.out.c1
  go_wp2_with fail
  refine (HC2.out _ HB.out).mono ?_
  rintro e w2 ⟨rfl, hq⟩
  have HB2 := Lib.hid (below_then HB.out hq)
  clear hq y0 y1
  go_wp2_with fail
  go_ret
  exact ⟨rfl, HB2.out⟩



/-! What an argument of the laws reads as. -/
open Fits TabOpen in
set_option maxRecDepth 100000 in
theorem fits_ans : Fits Try.prog ansC 25 :=
  fits_struct Try.underlying25 (fits_more fits_row rfl (fits_one (fits_sl Try.underlying23 fits_row (by kernel_rfl)) rfl)) (by kernel_rfl)
open Fits TabOpen in
set_option maxRecDepth 100000 in
theorem open_ans {H : Type} {enc : TypeId × Value → H} {W : World} {base : Nat} {v : Value} {d : DataW H} {ps : List MemPlace}
    (hval : Value.okWide Try.prog W .any base 25 v) (h : DataW.Trod enc Try.prog W 0 (fun _ => true) true 25 v d ps) :
    ∃ (u1 u2 : Value) (V : List Int) (R : List (List Int)), v = .agg #[u1, u2] ∧ ansC.rd W (· < W.heap.size) [u1, u2] (V, R) := by
  obtain ⟨cs, U, rfl, hU⟩ := open_st Try.underlying25 fits_ans hval h
  obtain ⟨x1, x2, hcs, h1, h2⟩ := hU
  have l1 := rowC.len h1
  have l2 := rowsC.len h2
  match x1, x2, l1, l2 with
  | [x], [y], _, _ => exact ⟨x, y, U.1, U.2, by rw [← Array.toArray_toList (xs := cs), hcs]; rfl, ans_rd h1 h2⟩
end Go.Proofs.Ytdkhgeknjekkoaa.MkAns
