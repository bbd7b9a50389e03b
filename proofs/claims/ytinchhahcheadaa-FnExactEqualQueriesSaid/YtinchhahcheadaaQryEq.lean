/- Queries: compared: the model's function and the program's. -/
import Derived.Test.YtinchhahcheadaaQrySpec2
import Derived.Test.YtinchhahcheadaaTabSpec2
import Derived.Test.YtinchhahcheadaaTabImp2
import Derived.Deep.QuietTactic
namespace Go.Proofs.Ytinchhahcheadaa.QryEq
open Go Go.RowKit Byt Ints IntsLaw Cd Rows2 Tab TabSpec Exact Atom QryMath QrySpec QryImp MkAtom SlMath
open TabImp (slices_equal)

theorem cmpR_zero' (a b : List Int) : (cmpR a b == 0) = decide (a = b) := by
  by_cases h : a = b
  · subst h; rw [cmpR_self]; simp
  · rw [decide_eq_false h, beq_eq_false_iff_ne]
    exact fun q => h (cmpR_eq q)
theorem take_same {α : Type} {l1 l2 : List α} {k : Nat} (h1 : k < l1.length) (h2 : k < l2.length) (h : l1.take k = l2.take k) (e : l1[k] = l2[k]) : l1.take (k + 1) = l2.take (k + 1) := by
  rw [List.take_succ_eq_append_getElem h1, List.take_succ_eq_append_getElem h2, h, e]
theorem not_same {α : Type} {l1 l2 : List α} {k : Nat} (h1 : k < l1.length) (h2 : k < l2.length) (e : l1[k] ≠ l2[k]) : l1 ≠ l2 := fun q => by
  subst q
  exact e rfl
theorem all_same {α : Type} {l1 l2 : List α} (hl : l1.length = l2.length) (h : l1.take l2.length = l2.take l2.length) : l1 = l2 := by
  rw [List.take_length, List.take_of_length_le (by omega)] at h
  exact h
/-- Are they one query? -/
def sameQ (n1 n2 : Int) (l1 l2 : List A2) : Bool := decide (n1 = n2 ∧ l1 = l2)
def sameA (n1 : ByteArray) (r1 : List Int) (n2 : ByteArray) (r2 : List Int) : Bool := decide (n1 = n2 ∧ r1 = r2)
set_option maxRecDepth 100000 in
theorem equal_atoms (n1 n2 : ByteArray) (u1 u2 : Value) (r1 r2 : List Int) (S1 S2 : Nat → Prop) (w : World) (h1 : rowC.rd w S1 [u1] r1) (h2 : rowC.rd w S2 [u2] r2) :
    Calls Try.prog 64 #[.agg #[.string n1, u1], .agg #[.string n2, u2]] w fun e w' => e = .returned (.bool (sameA n1 r1 n2 r2)) ∧ Below w.heap.size w w' := by
  have HC := Lib.hid (fun w' (hb : Below w.heap.size w w') => slices_equal u1 u2 r1 r2 _ _ w' (row_ri (Cd.later h1 hb)).1 (row_ri (Cd.later h2 hb)).1)
  have hb0 := below_then (below_alloc w (.cells #[.string n1, u1] 58 (0, 0))) (below_alloc _ (.cells #[.string n2, u2] 58 (0, 0)))
  have HB := Lib.hid hb0
  clear h1 h2 hb0
  by_cases hn : n1 = n2
  case neg =>
    have HZ := Lib.hid (show sameA n1 r1 n2 r2 = false from decide_eq_false fun q => hn q.1)
    have t1 := str_ne hn
    clear hn
    go_enter Try.func64, Try.ntmps64
    go_wp2_with fail
    go_ret
    exact ⟨ret_b HZ.out.symm, HB.out⟩
  subst hn
  have t1 : (n1.toList == n1.toList) = true := by simp
  have HS := Lib.hid (show sameA n1 r1 n1 r2 = decide (r1 = r2) by unfold sameA; simp)
  generalize decide (r1 = r2) = z at *
  go_enter Try.func64, Try.ntmps64
  go_wp2_with (go_at_call 81; refine (HC.out _ HB.out).mono ?_; rintro e w1 ⟨rfl, m1, rfl⟩)
  go_ret
  exact ⟨ret_b HS.out.symm, QryImp.below_drewN HB.out⟩
set_option maxRecDepth 100000 in
set_option maxHeartbeats 1600000 in
theorem equal_func (u1 u2 : Value) (l1 l2 : List A2) (S1 S2 : Nat → Prop) (w : World) (h1 : atomsC.rd w S1 [u1] l1) (h2 : atomsC.rd w S2 [u2] l2) :
    Calls Try.prog 63 #[u1, u2, .func (.func 64) #[] #[]] w fun e w' => e = .returned (.bool (decide (l1 = l2))) ∧ Below w.heap.size w w' := by
  have HR1 := Lib.hid (fun w' (hb : Below w.heap.size w w') => Cd.later h1 hb)
  have HR2 := Lib.hid (fun w' (hb : Below w.heap.size w w') => Cd.later h2 hb)
  obtain ⟨a1, cap1, rfl, hl1⟩ := Cd.sl_form h1
  obtain ⟨a2, cap2, rfl, hl2⟩ := Cd.sl_form h2
  clear h1 h2
  by_cases hlen : l1.length = l2.length
  case neg =>
    have HZ := Lib.hid (show decide (l1 = l2) = false from decide_eq_false fun q => hlen (by rw [q]))
    have ht : ((l1.length : Int) != (l2.length : Int)) = true := by rw [bne_iff_ne]; omega
    go_enter Try.func63, Try.ntmps63
    go_wp2_with fail
    go_ret
    exact ⟨ret_b HZ.out.symm, Below.refl _ _⟩
  have HLEN := Lib.hid hlen
  rw [hlen]
  clear hlen
  go_enter Try.func63, Try.ntmps63
  go_wp2_with fail
  go_loopw [17] (fun i wr => ∃ k : Nat, k ≤ l2.length ∧ i = .int .i64 k ∧ Hid (l1.take k = l2.take k) ∧ Below w.heap.size w wr) (fun i _ => l2.length - (intOf i).toNat)
  case atStart => exact ⟨0, Nat.zero_le _, rfl, Lib.hid (by simp), Below.refl _ _⟩
  case round =>
    obtain ⟨k, hk, rfl, HTK, hb⟩ := hrel
    have HBW := Lib.hid hb
    by_cases hlt : k < l2.length
    · have hlt1 : k < l1.length := by rw [HLEN.out]; exact hlt
      obtain ⟨b, off, cap', au, cu, e1, hbB, c0, c1, hs1, hu, _⟩ := atom_at2 (HR1.out wr HBW.out) hlt1
      rw [HLEN.out] at e1
      injection e1 with e1 e2 e3
      subst e1 e3
      obtain ⟨b', off', cap', av, cv, e1, hbB', d0, d1, hs2, hv, _⟩ := atom_at2 (HR2.out wr HBW.out) hlt
      injection e1 with e1 e2 e3
      subst e1 e3
      have HE := Lib.hid (fun w' (hq : Below wr.heap.size wr w') => equal_atoms l1[k].1 l2[k].1 _ _ l1[k].2 l2[k].2 _ _ w' (Cd.later hu hq) (Cd.later hv hq))
      have HF1 := Lib.hid (fun e : l1[k] = l2[k] => take_same hlt1 hlt HTK.out e)
      have HF0 := Lib.hid (fun e : l1[k] ≠ l2[k] => not_same hlt1 hlt e)
      have i1 : (0 : Int) ≤ (k : Int) := by omega
      have i2 : (k : Int) < (l2.length : Int) := by omega
      have kk := Lib.hid (below_then (below_alloc wr (.cells #[.string l1[k].1, .slice au l1[k].2.length cu] 58 (0, 0))) (below_alloc _ (.cells #[.string l2[k].1, .slice av l2[k].2.length cv] 58 (0, 0))))
      have HLT := Lib.hid hlt
      clear hu hv hb e2
      generalize l1[k] = T at *
      generalize l2[k] = U at *
      go_wp2_with fail
      refine (HE.out _ kk.out).mono ?_
      rintro e w2 ⟨rfl, hb2⟩
      have HB2 := Lib.hid (below_then HBW.out (below_then kk.out hb2))
      clear hb2 kk
      by_cases hT : T = U
      · have HT := Lib.hid (HF1.out hT)
        rw [show sameA T.1 T.2 U.1 U.2 = true from decide_eq_true ⟨by rw [hT], by rw [hT]⟩]
        clear hT
        go_wp2_with fail
        go_roundw
        case rel => exact ⟨k + 1, by have := HLT.out; omega, by go_num, HT, HB2.out⟩
        case measure => have := HLT.out; simp [intOf]; omega
      · have HZ := Lib.hid (show decide (l1 = l2) = false from decide_eq_false (HF0.out hT))
        rw [show sameA T.1 T.2 U.1 U.2 = false from decide_eq_false fun q => hT (Prod.ext q.1 q.2)]
        clear hT
        go_wp2_with fail
        go_ret
        exact ⟨ret_b HZ.out.symm, HB2.out⟩
    · have ek : k = l2.length := by omega
      subst ek
      have HZ := Lib.hid (show decide (l1 = l2) = true from decide_eq_true (all_same HLEN.out HTK.out))
      go_wp2_with fail
      go_ret
      exact ⟨ret_b HZ.out.symm, HBW.out⟩
set_option maxRecDepth 100000 in
theorem impl_eqq (n1 n2 : Int) (u1 u2 : Value) (l1 l2 : List A2) (S1 S2 : Nat → Prop) (w : World) (h1 : atomsC.rd w S1 [u1] l1) (h2 : atomsC.rd w S2 [u2] l2) :
    Calls Try.prog 39 #[.agg #[.int .i64 n1, u1], .agg #[.int .i64 n2, u2]] w fun e w' => e = .returned (.bool (sameQ n1 n2 l1 l2)) ∧ Below w.heap.size w w' := by
  have HE := Lib.hid (fun w' (hb : Below w.heap.size w w') => equal_func u1 u2 l1 l2 S1 S2 w' (Cd.later h1 hb) (Cd.later h2 hb))
  obtain ⟨a1, cap1, rfl, hl1⟩ := Cd.sl_form h1
  obtain ⟨a2, cap2, rfl, hl2⟩ := Cd.sl_form h2
  clear h1 h2
  have HB := Lib.hid (below_then (below_alloc w (.cells #[.int .i64 n1, .slice a1 l1.length cap1] 29 (0, 0))) (below_alloc _ (.cells #[.int .i64 n2, .slice a2 l2.length cap2] 29 (0, 0))))
  by_cases hn : n1 = n2
  case neg =>
    have HZ := Lib.hid (show sameQ n1 n2 l1 l2 = false from decide_eq_false fun q => hn q.1)
    have t1 : (n1 == n2) = false := beq_eq_false_iff_ne.2 hn
    clear hn
    go_enter Try.func39, Try.ntmps39
    go_wp2_with fail
    go_ret
    exact ⟨ret_b HZ.out.symm, HB.out⟩
  subst hn
  have HS := Lib.hid (show sameQ n1 n1 l1 l2 = decide (l1 = l2) by unfold sameQ; simp)
  have t1 : (n1 == n1) = true := by simp
  generalize decide (l1 = l2) = z at *
  go_enter Try.func39, Try.ntmps39
  go_wp2_with fail
  refine (HE.out _ HB.out).mono ?_
  rintro e w2 ⟨rfl, hb2⟩
  have HB2 := Lib.hid (below_then HB.out hb2)
  clear hb2
  go_wp2_with fail
  go_ret
  exact ⟨ret_b HS.out.symm, HB2.out⟩
set_option maxRecDepth 100000 in
set_option maxHeartbeats 3200000 in
theorem spec_eqq (n1 n2 : Int) (u1 u2 : Value) (l1 l2 : List A2) (S1 S2 : Nat → Prop) (w : World) (h1 : atomsC.rd w S1 [u1] l1) (h2 : atomsC.rd w S2 [u2] l2) :
    Calls Try.prog 38 #[.agg #[.int .i64 n1, u1], .agg #[.int .i64 n2, u2]] w fun e w' => e = .returned (.bool (sameQ n1 n2 l1 l2)) ∧ Below w.heap.size w w' := by
  have HR1 := Lib.hid (fun w' (hb : Below w.heap.size w w') => Cd.later h1 hb)
  have HR2 := Lib.hid (fun w' (hb : Below w.heap.size w w') => Cd.later h2 hb)
  obtain ⟨a1, cap1, rfl, hl1⟩ := Cd.sl_form h1
  obtain ⟨a2, cap2, rfl, hl2⟩ := Cd.sl_form h2
  clear h1 h2
  by_cases hn : n1 = n2
  case neg =>
    have HZ := Lib.hid (show sameQ n1 n2 l1 l2 = false from decide_eq_false fun q => hn q.1)
    have t1 : (n1 == n2) = false := beq_eq_false_iff_ne.2 hn
    have t2 : (n1 != n2) = true := bne_iff_ne.2 hn
    clear hn
    go_enter Try.func38, Try.ntmps38
    go_wp2_with fail
    go_ret
    exact ⟨ret_b HZ.out.symm, below_then (below_alloc _ _) (below_alloc _ _)⟩
  subst hn
  have t1 : (n1 != n1) = false := by simp
  by_cases hlen : l1.length = l2.length
  case neg =>
    have HZ := Lib.hid (show sameQ n1 n1 l1 l2 = false from decide_eq_false fun q => hlen (by rw [q.2]))
    have ht : ((l1.length : Int) != (l2.length : Int)) = true := by rw [bne_iff_ne]; omega
    go_enter Try.func38, Try.ntmps38
    go_wp2_with fail
    go_ret
    exact ⟨ret_b HZ.out.symm, below_then (below_alloc _ _) (below_alloc _ _)⟩
  have HLEN := Lib.hid hlen
  have ht : ((l1.length : Int) != (l2.length : Int)) = false := by rw [bne_eq_false_iff_eq]; omega
  clear hlen
  go_enter Try.func38, Try.ntmps38
  go_wp2_with fail
  generalize hW : (w.alloc _).alloc _ = W
  obtain ⟨r0, r1, hz, hb0⟩ := start2g w _ _ hW
  have HC1 := Lib.hid (Loc2.of r0)
  have HC2 := Lib.hid (Loc2.of r1)
  have HB := Lib.hid hb0
  have HRW1 := Lib.hid (HR1.out W hb0)
  have HRW2 := Lib.hid (HR2.out W hb0)
  clear hW r0 r1 hz hb0 ht t1
  go_loopw [5] (fun i wr => ∃ k m : Nat, k ≤ l1.length ∧ i = .int .i64 k ∧ Hid (l1.take k = l2.take k) ∧ wr = W.drewN m) (fun i _ => l1.length - (intOf i).toNat)
  case atStart => exact ⟨0, 0, Nat.zero_le _, rfl, Lib.hid (by simp), rfl⟩
  case round =>
    obtain ⟨k, m, hk, rfl, HTK, hwr⟩ := hrel
    have x0 := (loc2_drewN (m := m) HC1.out).c0
    have x1 := (loc2_drewN (m := m) HC1.out).c1
    have y0 := (loc2_drewN (m := m) HC2.out).c0
    have y1 := (loc2_drewN (m := m) HC2.out).c1
    have hr1 := rd_drewN HRW1.out m
    have hr2 := rd_drewN HRW2.out m
    rw [← hwr] at x0 x1 y0 y1 hr1 hr2
    have HWR := Lib.hid hwr
    clear hwr
    by_cases hlt : k < l1.length
    · have hlt2 : k < l2.length := by rw [← HLEN.out]; exact hlt
      obtain ⟨b, off, cap', au, cu, e1, hbB, c0, c1, hs1, hu, _⟩ := atom_at2 hr1 hlt
      injection e1 with e1 e2 e3
      subst e1 e3
      obtain ⟨b', off', cap', av, cv, e1, hbB', d0, d1, hs2, hv, _⟩ := atom_at2 hr2 hlt2
      injection e1 with e1 e2 e3
      subst e1 e3
      have i1 : (0 : Int) ≤ (k : Int) := by omega
      have i2 : (k : Int) < (l1.length : Int) := by omega
      have i3 : (k : Int) < (l2.length : Int) := by omega
      have HF1 := Lib.hid (fun e : l1[k] = l2[k] => take_same hlt hlt2 HTK.out e)
      have HF0 := Lib.hid (fun e : l1[k] ≠ l2[k] => (show sameQ n1 n1 l1 l2 = false from decide_eq_false fun q => not_same hlt hlt2 e q.2))
      have HC := Lib.hid (fun q => spec_cmp (.slice au l1[k].2.length cu) (.slice av l2[k].2.length cv) l1[k].2 l2[k].2 _ _ (wr.drewN q) (ri_drewN (row_ri hu).1 q) (ri_drewN (row_ri hv).1 q))
      have tz := cmpR_zero' l1[k].2 l2[k].2
      have HLT := Lib.hid hlt
      clear hu hv hr1 hr2
      generalize l1[k] = T at *
      generalize l2[k] = U at *
      by_cases hnm : T.1 = U.1
      case neg =>
        have HZ := Lib.hid (HF0.out fun q => hnm (by rw [q]))
        have t3 := str_ne hnm
        clear hnm tz
        go_wp2
        go_quiet (fail)
        go_wp2
        go_ret
        exact ⟨ret_b HZ.out.symm, by rw [HWR.out]; exact QryImp.below_drewN (QryImp.below_drewN HB.out)⟩
      have t3 : (T.1.toList == U.1.toList) = true := by rw [hnm]; simp
      by_cases hv : T.2 = U.2
      · have HT := Lib.hid (HF1.out (Prod.ext hnm hv))
        rw [decide_eq_true hv] at tz
        clear hnm hv
        generalize cmpR T.2 U.2 = y at *
        obtain rfl : y = 0 := beq_iff_eq.1 tz
        clear tz
        go_wp2
        go_quiet (first | (go_at_call 62; refine Calls.quiet_of (HC.out _)))
        go_wp2
        go_roundw
        case rel => exact ⟨k + 1, _, by have := HLT.out; omega, by go_num, HT, by rw [HWR.out, World.drewN_drewN]⟩
        case measure => have := HLT.out; simp [intOf]; omega
      · have HZ := Lib.hid (HF0.out fun q => hv (by rw [q]))
        rw [decide_eq_false hv] at tz
        clear hnm hv
        generalize cmpR T.2 U.2 = y at *
        have ty : (y != 0) = true := by rw [bne_iff_ne]; exact beq_eq_false_iff_ne.1 tz
        clear tz
        go_wp2
        go_quiet (first | (go_at_call 62; refine Calls.quiet_of (HC.out _)))
        go_wp2
        go_ret
        exact ⟨ret_b HZ.out.symm, by rw [HWR.out]; exact QryImp.below_drewN (QryImp.below_drewN HB.out)⟩
    · have ek : k = l1.length := by omega
      subst ek
      have HZ := Lib.hid (show sameQ n1 n1 l1 l2 = true from decide_eq_true ⟨rfl, (all_same HLEN.out.symm HTK.out.symm).symm⟩)
      clear hr1 hr2
      go_wp2
      go_ret
      exact ⟨ret_b HZ.out.symm, by rw [HWR.out]; exact QryImp.below_drewN HB.out⟩
end Go.Proofs.Ytinchhahcheadaa.QryEq
