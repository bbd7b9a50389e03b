/- Databases: the program's count of rows and its equality. -/
import Derived.Test.YtdjgaffiildijaaDbImp1
import Derived.Test.YtdjgaffiildijaaDbLook
namespace Go.Proofs.Ytdjgaffiildijaa.DbImp
open Go Go.RowKit Byt Ints IntsLaw Cd Rows2 Tab SlMath TabOpen TabElem SlTable Db TabSpec DbMath TabImp
open DbSpec (LaterD drewD row1 rows_cell cntRows_succ cntRows_take cntRows_le name_cell sameT_iff take_ne take_eq)

/-- The cells of an element. -/
theorem elem_form {w : World} {S : Nat → Prop} {us : List Value} {T : T3} (h : tabC.rd w S us T) : ∃ a c, us = [.string T.1, .int .i64 T.2.1, .slice a T.2.2.length c] := by
  obtain ⟨u, rfl, _, _, h3⟩ := tab_cells h
  obtain ⟨a, c, rfl, _⟩ := rows_form h3
  exact ⟨a, c, rfl⟩
set_option maxRecDepth 100000 in
set_option maxHeartbeats 1600000 in
theorem impl_count (u : Value) (l : List T3) (S : Nat → Prop) (w : World) (h1 : tabsC.rd w S [u] l) (hw : wtS l ≤ 1048576) :
    Calls Try.prog 42 #[.agg #[u]] w fun e w' => e = .returned (.int .i64 ((cntL l : Nat) : Int)) ∧ Below w.heap.size w w' := by
  have HR1 := Lib.hid (fun w' (hb : Below w.heap.size w w') => Cd.later h1 hb)
  have HV := Lib.hid (fun w' (hb : Below w.heap.size w w') => impl_dbok u l S w' (Cd.later h1 hb))
  obtain ⟨a1, cap1, rfl, hl1⟩ := Cd.sl_form h1
  have HCB := Lib.hid (show cntRows l ≤ 1048576 by have := cntRows_le l; omega)
  clear h1
  go_enter Try.func42, Try.ntmps42
  go_wp2_with fail
  generalize hW : w.alloc _ = W
  obtain ⟨r0, hz, hb0⟩ := start1 w _ hW
  have HC0 := Lib.hid (row1 r0).1
  have HB0 := Lib.hid hb0
  clear hW r0 hz
  refine (HV.out _ hb0).mono ?_
  rintro e w1 ⟨rfl, hb1⟩
  have c0 := (hb1.cell (World.block_lt_of_cell? _ _ HC0.out)).trans HC0.out
  have HB1 := Lib.hid (below_then HB0.out hb1)
  clear hb0 hb1
  cases hv : dbOk l
  · have HZ := Lib.hid (show ((cntL l : Nat) : Int) = 0 by unfold cntL; rw [hv]; rfl)
    go_wp2_with fail
    go_ret
    exact ⟨by rw [HZ.out]; rfl, HB1.out⟩
  have HZ := Lib.hid (show cntL l = cntRows l by unfold cntL; rw [hv]; rfl)
  go_wp2_with fail
  go_loopw [3, 12] (fun n i wr => ∃ k : Nat, k ≤ l.length ∧ n = .int .i64 ((cntRows (l.take k) : Nat) : Int) ∧ i = .int .i64 k ∧ Below w1.heap.size w1 wr) (fun _ i _ => l.length - (intOf i).toNat)
  case atStart => exact ⟨0, Nat.zero_le _, rfl, rfl, Below.refl _ _⟩
  case round =>
    obtain ⟨k, hk, rfl, rfl, hb⟩ := hrel
    have HBW := Lib.hid (below_then HB1.out hb)
    have HWR := Lib.hid hb
    clear c0
    by_cases hlt : k < l.length
    · obtain ⟨b, off, cap', us, e1, _, hbB, hat, hu⟩ := Cd.sl_at (HR1.out wr HBW.out) hlt
      injection e1 with e1 e2 e3
      subst e1 e3
      obtain ⟨az, cz, rfl⟩ := elem_form hu
      have p0 := hat 0 (by simp)
      have p1 := hat 1 (by simp)
      have p2 := hat 2 (by simp)
      simp only [List.getElem_cons_zero, List.getElem_cons_succ, Nat.add_zero, show tabC.n = 3 from rfl] at p0 p1 p2
      have HSUM := Lib.hid (show ((cntRows (l.take (k + 1)) : Nat) : Int) = ((cntRows (l.take k) : Nat) : Int) + (((l[k]).2.2.length : Nat) : Int) by rw [cntRows_succ hlt]; omega)
      have i3 : cntRows (l.take k) + (l[k]).2.2.length ≤ 1048576 := by rw [← cntRows_succ hlt]; have := cntRows_take l (k + 1); have := HCB.out; omega
      have i1 : (0 : Int) ≤ (k : Int) := by omega
      have i2 : (k : Int) < (l.length : Int) := by omega
      clear hu hat e2 hb
      generalize l[k] = T at *
      generalize T.2.2.length = q at *
      generalize cntRows (l.take k) = m at *
      go_wp2_with fail
      go_roundw
      case rel => exact ⟨k + 1, by omega, by rw [HSUM.out], by go_num, below_then HWR.out (below_alloc _ _)⟩
      case measure => simp [intOf]; omega
    · have ek : k = l.length := by omega
      subst ek
      have HY := Lib.hid (show ((cntRows (l.take l.length) : Nat) : Int) = ((cntL l : Nat) : Int) by rw [HZ.out, List.take_length])
      go_wp2_with fail
      go_ret
      exact ⟨congrArg (fun x : Int => Ending.returned (.int .i64 x)) HY.out, HBW.out⟩

theorem eqt_elem_i (us vs : List Value) (T U : T3) (S S2 : Nat → Prop) (w : World) (hu : tabC.rd w S us T) (hv : tabC.rd w S2 vs U) :
    Calls Try.prog 28 #[.agg us.toArray, .agg vs.toArray] w fun e w' => e = .returned (.bool (decide (T = U))) ∧ Below w.heap.size w w' := by
  obtain ⟨u, rfl, _, _, h3⟩ := tab_cells hu
  obtain ⟨u2, rfl, _, _, h4⟩ := tab_cells hv
  have h := impl_equal T.1 U.1 T.2.1 U.2.1 u u2 T.2.2 U.2.2 S S2 w h3 h4
  rw [sameT_iff] at h
  exact h
set_option maxRecDepth 100000 in
set_option maxHeartbeats 1600000 in
theorem equal_func (u1 u2 : Value) (l1 l2 : List T3) (S1 S2 : Nat → Prop) (w : World) (h1 : tabsC.rd w S1 [u1] l1) (h2 : tabsC.rd w S2 [u2] l2) :
    Calls Try.prog 82 #[u1, u2, .func (.func 28) #[] #[]] w fun e w' => e = .returned (.bool (decide (l1 = l2))) ∧ Below w.heap.size w w' := by
  have HR1 := Lib.hid (fun w' (hb : Below w.heap.size w w') => Cd.later h1 hb)
  have HR2 := Lib.hid (fun w' (hb : Below w.heap.size w w') => Cd.later h2 hb)
  obtain ⟨a1, cap1, rfl, hl1⟩ := Cd.sl_form h1
  obtain ⟨a2, cap2, rfl, hl2⟩ := Cd.sl_form h2
  clear h1 h2
  by_cases hlen : l1.length = l2.length
  case neg =>
    have HZ := Lib.hid (show decide (l1 = l2) = false from decide_eq_false fun q => hlen (by rw [q]))
    have ht : ((l1.length : Int) != (l2.length : Int)) = true := by rw [bne_iff_ne]; omega
    go_enter Try.func82, Try.ntmps82
    go_wp2_with fail
    go_ret
    exact ⟨DbSpec.ret_b HZ.out.symm, Below.refl _ _⟩
  have HLEN := Lib.hid hlen
  rw [hlen]
  clear hlen
  go_enter Try.func82, Try.ntmps82
  go_wp2_with fail
  go_loopw [17] (fun i wr => ∃ k : Nat, k ≤ l2.length ∧ i = .int .i64 k ∧ l1.take k = l2.take k ∧ Below w.heap.size w wr) (fun i _ => l2.length - (intOf i).toNat)
  case atStart => exact ⟨0, Nat.zero_le _, rfl, by simp, Below.refl _ _⟩
  case round =>
    obtain ⟨k, hk, rfl, htk, hb⟩ := hrel
    have HTK := Lib.hid htk
    have HBW := Lib.hid hb
    clear htk
    by_cases hlt : k < l2.length
    · have hlt1 : k < l1.length := by rw [HLEN.out]; exact hlt
      obtain ⟨b, off, cap', us, e1, _, hbB, hat, hu⟩ := Cd.sl_at (HR1.out wr HBW.out) hlt1
      rw [HLEN.out] at e1
      injection e1 with e1 e2 e3
      subst e1 e3
      obtain ⟨az, cz, rfl⟩ := elem_form hu
      have p0 := hat 0 (by simp)
      have p1 := hat 1 (by simp)
      have p2 := hat 2 (by simp)
      obtain ⟨b', off', cap', us, e1, _, hbB', hat', hu'⟩ := Cd.sl_at (HR2.out wr HBW.out) hlt
      injection e1 with e1 e2 e3
      subst e1 e3
      obtain ⟨ay, cy, rfl⟩ := elem_form hu'
      have q0 := hat' 0 (by simp)
      have q1 := hat' 1 (by simp)
      have q2 := hat' 2 (by simp)
      simp only [List.getElem_cons_zero, List.getElem_cons_succ, Nat.add_zero, show tabC.n = 3 from rfl] at p0 p1 p2 q0 q1 q2
      have HE := Lib.hid (fun w' (hq : LaterD wr w') => eqt_elem_i _ _ l1[k] l2[k] _ _ w' (Cd.later hu hq) (Cd.later hu' hq))
      have HF1 := Lib.hid (fun e : l1[k] = l2[k] => take_eq hlt1 hlt HTK.out e)
      have HF0 := Lib.hid (fun e : l1[k] ≠ l2[k] => take_ne hlt1 hlt e)
      have i1 : (0 : Int) ≤ (k : Int) := by omega
      have i2 : (k : Int) < (l2.length : Int) := by omega
      have kk : LaterD wr ((wr.alloc (.cells #[.string (l1[k]).1, .int .i64 (l1[k]).2.1, .slice az (l1[k]).2.2.length cz] 28 (0, 0))).alloc (.cells #[.string (l2[k]).1, .int .i64 (l2[k]).2.1, .slice ay (l2[k]).2.2.length cy] 28 (0, 0))) := below_then (below_alloc _ _) (below_alloc _ _)
      clear hu hu' hat hat' hb e2
      generalize l1[k] = T at *
      generalize l2[k] = U at *
      go_wp2_with fail
      refine (HE.out _ kk).mono ?_
      rintro e w2 ⟨rfl, hb2⟩
      have HB2 := Lib.hid (below_then HBW.out (below_then (show Below wr.heap.size wr _ from kk) hb2))
      clear hb2 kk
      by_cases hT : T = U
      · have HT := Lib.hid (HF1.out hT)
        rw [show decide (T = U) = true from decide_eq_true hT]
        clear hT
        go_wp2_with fail
        go_roundw
        case rel => exact ⟨k + 1, by omega, by go_num, HT.out, HB2.out⟩
        case measure => simp [intOf]; omega
      · have HZ := Lib.hid (show decide (l1 = l2) = false from decide_eq_false (HF0.out hT))
        rw [show decide (T = U) = false from decide_eq_false hT]
        clear hT
        go_wp2_with fail
        go_ret
        exact ⟨DbSpec.ret_b HZ.out.symm, HB2.out⟩
    · have ek : k = l2.length := by omega
      subst ek
      have HZ := Lib.hid (show decide (l1 = l2) = true from decide_eq_true (by
        have h := HTK.out
        rw [List.take_length, List.take_of_length_le (by rw [HLEN.out]; exact Nat.le_refl _)] at h
        exact h))
      go_wp2_with fail
      go_ret
      exact ⟨DbSpec.ret_b HZ.out.symm, HBW.out⟩
set_option maxRecDepth 100000 in
theorem impl_eqdb (u1 u2 : Value) (l1 l2 : List T3) (S1 S2 : Nat → Prop) (w : World) (h1 : tabsC.rd w S1 [u1] l1) (h2 : tabsC.rd w S2 [u2] l2) :
    Calls Try.prog 45 #[.agg #[u1], .agg #[u2]] w fun e w' => e = .returned (.bool (decide (l1 = l2))) ∧ Below w.heap.size w w' := by
  have HE := Lib.hid (fun w' (hb : Below w.heap.size w w') => equal_func u1 u2 l1 l2 S1 S2 w' (Cd.later h1 hb) (Cd.later h2 hb))
  obtain ⟨a1, cap1, rfl, hl1⟩ := Cd.sl_form h1
  obtain ⟨a2, cap2, rfl, hl2⟩ := Cd.sl_form h2
  clear h1 h2
  go_enter Try.func45, Try.ntmps45
  go_wp2_with fail
  refine (HE.out _ (below_then (below_alloc _ _) (below_alloc _ _))).mono ?_
  rintro e w2 ⟨rfl, hb2⟩
  have HB2 := Lib.hid (below_then (below_then (below_alloc w _) (below_alloc _ _)) hb2)
  clear hb2
  go_wp2_with fail
  go_ret
  exact ⟨rfl, HB2.out⟩
end Go.Proofs.Ytdjgaffiildijaa.DbImp
