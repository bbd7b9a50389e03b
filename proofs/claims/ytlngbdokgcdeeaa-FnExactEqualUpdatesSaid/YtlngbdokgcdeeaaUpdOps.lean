/- Updates: inverted, compared: the model's functions and the program's. -/
import Derived.Test.YtlngbdokgcdeeaaUpd
import Derived.Test.YtlngbdokgcdeeaaTabSpec2
import Derived.Test.YtlngbdokgcdeeaaTabImp2
import Derived.Test.YtlngbdokgcdeeaaTabImp5
namespace Go.Proofs.Ytlngbdokgcdeeaa.UpdOps
open Go Go.RowKit Byt Ints IntsLaw Cd Rows2 Tab TabSpec Exact Upd
open TabImp (str_clone copy_ints slices_equal)

theorem cmpR_zero (a b : List Int) : (cmpR a b == 0) = decide (a = b) := by
  by_cases h : a = b
  · subst h; rw [cmpR_self]; simp
  · rw [decide_eq_false h, beq_eq_false_iff_ne]
    exact fun q => h (cmpR_eq q)
/-- Are they one update? -/
def sameU (n1 n2 : ByteArray) (b1 b2 : Bool) (r1 r2 : List Int) : Bool := decide (n1 = n2 ∧ b1 = b2 ∧ r1 = r2)
set_option maxRecDepth 100000 in
set_option maxHeartbeats 1600000 in
theorem spec_equal (n1 n2 : ByteArray) (b1 b2 : Bool) (u1 u2 : Value) (r1 r2 : List Int) (S1 S2 : Nat → Prop) (w : World) (h1 : rowC.rd w S1 [u1] r1) (h2 : rowC.rd w S2 [u2] r2) :
    Calls Try.prog 20 #[.agg #[.string n1, .bool b1, u1], .agg #[.string n2, .bool b2, u2]] w fun e w' => e = .returned (.bool (sameU n1 n2 b1 b2 r1 r2)) ∧ Below w.heap.size w w' := by
  have HC := Lib.hid (fun w' (hb : Below w.heap.size w w') => spec_cmp u1 u2 r1 r2 _ _ w' (row_ri (Cd.later h1 hb)).1 (row_ri (Cd.later h2 hb)).1)
  have hb0 := below_then (below_alloc w (.cells #[.string n1, .bool b1, u1] 35 (0, 0))) (below_alloc _ (.cells #[.string n2, .bool b2, u2] 35 (0, 0)))
  have HB := Lib.hid hb0
  clear h1 h2 hb0
  by_cases hn : n1 = n2
  case neg =>
    have HZ := Lib.hid (show sameU n1 n2 b1 b2 r1 r2 = false from decide_eq_false fun q => hn q.1)
    have t1 := str_ne hn
    clear hn
    go_enter Try.func20, Try.ntmps20
    go_wp2_with fail
    go_ret
    exact ⟨ret_b HZ.out.symm, HB.out⟩
  subst hn
  have t1 : (n1.toList == n1.toList) = true := by simp
  by_cases ha : b1 = b2
  case neg =>
    have HZ := Lib.hid (show sameU n1 n1 b1 b2 r1 r2 = false from decide_eq_false fun q => ha q.2.1)
    have t2 : (b1 == b2) = false := by rw [beq_eq_false_iff_ne]; exact ha
    clear ha
    go_enter Try.func20, Try.ntmps20
    go_wp2_with fail
    go_ret
    exact ⟨ret_b HZ.out.symm, HB.out⟩
  subst ha
  have t2 : (b1 == b1) = true := by simp
  have HS := Lib.hid (show sameU n1 n1 b1 b1 r1 r2 = decide (r1 = r2) by unfold sameU; simp)
  have tz := cmpR_zero r1 r2
  generalize decide (r1 = r2) = z at *
  generalize cmpR r1 r2 = y at *
  go_enter Try.func20, Try.ntmps20
  go_wp2_with (go_at_call 38; refine (HC.out _ HB.out).mono ?_; rintro e w1 ⟨rfl, m1, rfl⟩)
  go_ret
  exact ⟨ret_b (by rw [HS.out]), ⟨HB.out.os, HB.out.tape, HB.out.output, HB.out.size, HB.out.block⟩⟩

set_option maxRecDepth 100000 in
set_option maxHeartbeats 1600000 in
theorem impl_equal (n1 n2 : ByteArray) (b1 b2 : Bool) (u1 u2 : Value) (r1 r2 : List Int) (S1 S2 : Nat → Prop) (w : World) (h1 : rowC.rd w S1 [u1] r1) (h2 : rowC.rd w S2 [u2] r2) :
    Calls Try.prog 21 #[.agg #[.string n1, .bool b1, u1], .agg #[.string n2, .bool b2, u2]] w fun e w' => e = .returned (.bool (sameU n1 n2 b1 b2 r1 r2)) ∧ Below w.heap.size w w' := by
  have HC := Lib.hid (fun w' (hb : Below w.heap.size w w') => slices_equal u1 u2 r1 r2 _ _ w' (row_ri (Cd.later h1 hb)).1 (row_ri (Cd.later h2 hb)).1)
  have hb0 := below_then (below_alloc w (.cells #[.string n1, .bool b1, u1] 35 (0, 0))) (below_alloc _ (.cells #[.string n2, .bool b2, u2] 35 (0, 0)))
  have HB := Lib.hid hb0
  clear h1 h2 hb0
  by_cases hn : n1 = n2
  case neg =>
    have HZ := Lib.hid (show sameU n1 n2 b1 b2 r1 r2 = false from decide_eq_false fun q => hn q.1)
    have t1 := str_ne hn
    clear hn
    go_enter Try.func21, Try.ntmps21
    go_wp2_with fail
    go_ret
    exact ⟨ret_b HZ.out.symm, HB.out⟩
  subst hn
  have t1 : (n1.toList == n1.toList) = true := by simp
  by_cases ha : b1 = b2
  case neg =>
    have HZ := Lib.hid (show sameU n1 n1 b1 b2 r1 r2 = false from decide_eq_false fun q => ha q.2.1)
    have t2 : (b1 == b2) = false := by rw [beq_eq_false_iff_ne]; exact ha
    clear ha
    go_enter Try.func21, Try.ntmps21
    go_wp2_with fail
    go_ret
    exact ⟨ret_b HZ.out.symm, HB.out⟩
  subst ha
  have t2 : (b1 == b1) = true := by simp
  have HS := Lib.hid (show sameU n1 n1 b1 b1 r1 r2 = decide (r1 = r2) by unfold sameU; simp)
  generalize decide (r1 = r2) = z at *
  go_enter Try.func21, Try.ntmps21
  go_wp2_with (go_at_call 39; refine (HC.out _ HB.out).mono ?_; rintro e w1 ⟨rfl, m1, rfl⟩)
  go_ret
  exact ⟨ret_b HS.out.symm, ⟨HB.out.os, HB.out.tape, HB.out.output, HB.out.size, HB.out.block⟩⟩

set_option maxRecDepth 100000 in
set_option maxHeartbeats 3200000 in
theorem impl_invert (nm : ByteArray) (b : Bool) (u : Value) (row : List Int) (S : Nat → Prop) (w : World) (hr : rowC.rd w S [u] row) (hrl : row.length ≤ 1048577) (hnm : nm.size ≤ 1048577) :
    Calls Try.prog 17 #[.agg #[.string nm, .bool b, u]] w fun e w' => ∃ u' fp, e = .returned (.agg #[.string nm, .bool (!b), u']) ∧ rowC.ow w' w.heap.size [u'] row fp ∧ fp.Nodup ∧ Below w.heap.size w w' := by
  have HR := Lib.hid (fun w' (hb : Below w.heap.size w w') => Cd.later hr hb)
  have HRL := Lib.hid hrl
  have HNM := Lib.hid hnm
  obtain ⟨a, cap, rfl, hlm⟩ := row_form hr
  clear hr hrl hnm
  go_enter Try.func17, Try.ntmps17
  go_wp2_with fail
  generalize hW : (w.alloc _).alloc _ = W
  obtain ⟨r0, r1, hz, hb0⟩ := start2g w _ _ hW
  clear hW
  have HT := Lib.hid (Loc3.of r0)
  have HX := Lib.hid (Loc3.of r1)
  have HB := Lib.hid hb0
  have HZ := Lib.hid hz
  have HCL := Lib.hid (str_clone nm W.drew HNM.out)
  have HMAP := Lib.hid (fun w' (hb : Below W.heap.size W w') => copy_ints (.slice a row.length cap) row S w' (Cd.later (HR.out W HB.out) hb) HRL.out)
  clear r0 r1 hb0 hz
  have y0 := HT.out.c0
  have y1 := HT.out.c1
  have y2 := HT.out.c2
  go_region_law (first | (go_simp; go_at_call 34; refine HCL.out.mono ?_; rintro e wq ⟨rfl, hbq⟩; (have hq := undrew hbq); (have HQ := Lib.hid hq); (have hqz := hq.size); (have k0 := (HT.out.later hq).c0); (have k1 := (HT.out.later hq).c1); (have k2 := (HT.out.later hq).c2); clear hbq hq) | (go_simp; go_at_call 35; refine (HMAP.out wq HQ.out).mono ?_; rintro e wp ⟨g, cc, rfl, how, hbp⟩; (have HP := Lib.hid (below_then HQ.out hbp)); (have hpz := hbp.size); (have HOW := Lib.hid how); (have j0 := (HT.out.later HP.out).c0); (have j1 := (HT.out.later HP.out).c1); (have j2 := (HT.out.later HP.out).c2); (have i0 := (HX.out.later HP.out).c0); (have i1 := (HX.out.later HP.out).c1); (have i2 := (HX.out.later HP.out).c2); (have f0 := (HX.out.later HP.out).f0); (have f1 := (HX.out.later HP.out).f1); (have f2 := (HX.out.later HP.out).f2); clear hbp how))
  all_goals
    obtain ⟨k0, k1, k2⟩ := set3 (w := wp) (k := w.heap.size + 1) (x := .string nm) (y := .bool (!b)) (z := .slice (some ⟨g, 0, none⟩) row.length cc) i0 i1 i2
    clear y0 y1 y2 j0 j1 j2 i0 i1 i2 f0 f1 f2
    go_wp2_with fail
    refine bodyPost_ret (v := .agg #[.string nm, .bool (!b), .slice (some ⟨g, 0, none⟩) row.length cc]) (by simp [results, Try.results17, go_sem, k0, k1, k2]) rfl ⟨_, [g], rfl, ?_, by simp, ?_⟩
    · have hn : w.heap.size + 1 ∉ [g] := fun q => by
        have h1 := (rowC.ow_lt HOW.out _ q).1
        have h2 := HZ.out
        have h3 := HQ.out.size
        omega
      exact ow_setCell (ow_setCell (ow_setCell (rowC.ow_base HOW.out (by have := HZ.out; have := HQ.out.size; omega)) hn _) hn _) hn _
    · have hb := below_then HB.out HP.out
      exact ((hb.setCell (by show _ ≤ w.heap.size + 1; omega) _).setCell (by show _ ≤ w.heap.size + 1; omega) _).setCell (by show _ ≤ w.heap.size + 1; omega) _

set_option maxRecDepth 100000 in
set_option maxHeartbeats 3200000 in
theorem spec_invert (nm : ByteArray) (b : Bool) (u : Value) (row : List Int) (S : Nat → Prop) (w : World) (hr : rowC.rd w S [u] row) (hrl : row.length ≤ 1048577) :
    Calls Try.prog 16 #[.agg #[.string nm, .bool b, u]] w fun e w' => ∃ u' fp, e = .returned (.agg #[.string nm, .bool (!b), u']) ∧ rowC.ow w' w.heap.size [u'] row fp ∧ fp.Nodup ∧ Below w.heap.size w w' := by
  have HR := Lib.hid (fun w' (hb : Below w.heap.size w w') => Cd.later hr hb)
  have HRL := Lib.hid hrl
  obtain ⟨a, cap, rfl, hlm⟩ := row_form hr
  clear hr hrl
  go_enter Try.func16, Try.ntmps16
  go_wp2_with fail
  generalize hW : (w.alloc _).alloc _ = W
  obtain ⟨r0, r1, hz, hb0⟩ := start2g w _ _ hW
  clear hW
  have HT := Lib.hid (Loc3.of r0)
  have HX := Lib.hid (Loc3.of r1)
  have HB := Lib.hid hb0
  have HZ := Lib.hid hz
  have y0 := HT.out.c0
  have y1 := HT.out.c1
  have y2 := HT.out.c2
  have ca0 := cell_alloc_some y0 (.cells #[] 3)
  have ca1 := cell_alloc_some y1 (.cells #[] 3)
  have ca2 := cell_alloc_some y2 (.cells #[] 3)
  have HE := Lib.hid (show rowC.ow (W.alloc (.cells #[] 3)).drew W.heap.size [.slice (some ⟨W.heap.size, 0, none⟩) 0 0] [] [W.heap.size] from rowC.ow_keep (show rowC.ow (W.alloc (.cells #[] 3)) _ _ _ _ from Cd.ow_empty W _ (Nat.le_refl _)) fun _ _ => rfl)
  have HKA := Lib.hid (show rowC.rd (W.alloc (.cells #[] 3)).drew S [.slice a row.length cap] row from rowC.keep (Cd.later (HR.out W HB.out) (below_alloc _ (.cells #[] 3))) fun _ _ _ => rfl)
  have HHA := Lib.hid (show W.heap.size ≤ (W.alloc (.cells #[] 3)).drew.heap.size from (below_alloc W (.cells #[] 3)).size)
  clear r0 r1 hb0 hz
  go_region_law (first | (refine Cd.step_appendRI rfl (.tmp 8) (.tmp 10) 25 rfl W.heap.size 3 Try.underlying25 info_i64 _ [] _ rfl HE.out (.slice a row.length cap) row _ rfl HKA.out (by have := HRL.out; simp; omega) HHA.out ?_; intro v1 w2 f1 ho1 hn1 hs1 ht1; obtain ⟨a1, c1, rfl⟩ := Cd.ow_slice ho1; (have hht := touch_undrew ht1); (have HX2 := Lib.hid (Loc3.touched (Loc3.later HX.out (below_alloc W (.cells #[] 3))) hht (by have := HZ.out; simp; omega))); (have HT2 := Lib.hid (Loc3.touched (Loc3.later HT.out (below_alloc W (.cells #[] 3))) hht (by have := HZ.out; simp; omega))); (have HB2 := Lib.hid (Cd.Touch.below (below_then HB.out (below_alloc W (.cells #[] 3))) hht (fun b hb => by rw [List.mem_singleton.1 hb]; have := HZ.out; omega))); (have HO2 := Lib.hid (show rowC.ow w2 W.heap.size [.slice a1 row.length c1] row f1 from ho1)); (have HN2 := Lib.hid hn1); (have i0 := HX2.out.c0); (have i1 := HX2.out.c1); (have i2 := HX2.out.c2); (have f0 := HX2.out.f0); (have g1 := HX2.out.f1); (have g2 := HX2.out.f2); (have j0 := HT2.out.c0); (have j1 := HT2.out.c1); clear ho1 hn1 hs1 ht1 hht))
  all_goals
    obtain ⟨k0, k1, k2⟩ := set3 (w := w2) (k := w.heap.size + 1) (x := .string nm) (y := .bool (!b)) (z := .slice a1 row.length c1) i0 i1 i2
    clear y0 y1 y2 j0 j1 i0 i1 i2 f0 g1 g2
    go_wp2_with fail
    refine bodyPost_ret (v := .agg #[.string nm, .bool (!b), .slice a1 row.length c1]) (by simp [results, Try.results16, go_sem, k0, k1, k2]) rfl ⟨_, f1, rfl, ?_, HN2.out, ?_⟩
    · have hn : w.heap.size + 1 ∉ f1 := fun q => by
        have h1 := (rowC.ow_lt HO2.out _ q).1
        have h2 := HZ.out
        omega
      exact ow_setCell (ow_setCell (ow_setCell (rowC.ow_base HO2.out (by have := HZ.out; omega)) hn _) hn _) hn _
    · exact ((HB2.out.setCell (by show _ ≤ w.heap.size + 1; omega) _).setCell (by show _ ≤ w.heap.size + 1; omega) _).setCell (by show _ ≤ w.heap.size + 1; omega) _
end Go.Proofs.Ytlngbdokgcdeeaa.UpdOps
