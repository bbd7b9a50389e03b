/- Inclusions: the program's questions, and the values that are missing. -/
import Derived.Test.YtnoennmhifmolaaDepCol
import Derived.Test.YtnoennmhifmolaaDbImp3
import Derived.Test.YtnoennmhifmolaaDepSpec2
namespace Go.Proofs.Ytnoennmhifmolaa.DepImp
open Go Go.RowKit Byt Ints IntsLaw Cd Rows2 Tab SlMath TabOpen TabElem SlTable Db TabSpec Exact DbMath Dep Inc QryMath DepMath DbExact DepSpec
open DbSpec (lkT LookAns zeroT)
open DegMath (colsOk)

theorem own_back {w0 w : World} {base : Nat} {v : Value} {l : List Int} (h : OwnI w base 3 v l) (hin : InR l) (hb : w0.heap.size ≤ base) : ∃ fp, rowC.ow w w0.heap.size [v] l fp ∧ fp.Nodup :=
  ⟨_, rowC.ow_base (Cd.ow_of_own h hin) hb, Cd.own_nodup⟩
set_option maxRecDepth 100000 in
set_option maxHeartbeats 1600000 in
theorem impl_hascol (u : Value) (l : List T3) (nm : ByteArray) (c : Int) (S : Nat → Prop) (w : World) (h1 : tabsC.rd w S [u] l) (hw : wtS l ≤ 1048577) (hs : nm.size ≤ 1048576) :
    Calls Try.prog 84 #[.agg #[u], .string nm, .int .i64 c] w fun e w' => e = .returned (.bool ((lookL l nm).isSome && colB c (lkT l nm).2.1)) ∧ Below w.heap.size w w' := by
  have HLK := Lib.hid (fun w' (hb : Below w.heap.size w w') => DbImp.impl_look u l nm S w' (Cd.later h1 hb) hw hs)
  obtain ⟨a1, cap1, rfl, hl1⟩ := Cd.sl_form h1
  clear h1 hw hs
  generalize hR : ((lookL l nm).isSome && colB c (lkT l nm).2.1) = R
  have HR := Lib.hid hR
  clear hR
  go_enter Try.func84, Try.ntmps84
  go_wp2_with fail
  generalize hW : w.alloc _ = W
  obtain ⟨r0, z0, hb0⟩ := start1 w _ hW
  have HB0 := Lib.hid hb0
  clear hW r0
  refine (HLK.out W hb0).mono ?_
  rintro e w1 ⟨vt, fp, rfl, how, hnd, hb1⟩
  obtain ⟨a3, c3, rfl⟩ := Cd.ow_slice (c := rowC) how
  have HB1 := Lib.hid (below_then HB0.out hb1)
  clear hb0 hb1 how hnd HLK
  generalize lkT l nm = T at *
  have HC := Lib.hid (fun w' => impl_col c T.2.1 w')
  generalize colB c T.2.1 = b at *
  generalize (lookL l nm).isSome = q at *
  cases q
  · go_wp2_with fail
    go_ret
    exact ⟨ret_b (by rw [← HR.out]; rfl), below_then HB1.out (below_alloc _ _)⟩
  · go_wp2_with fail
    refine (HC.out _).mono ?_
    rintro e w2 ⟨rfl, rfl⟩
    go_wp2_with fail
    go_ret
    exact ⟨ret_b (by rw [← HR.out]; rfl), below_then HB1.out (below_alloc _ _)⟩
set_option maxRecDepth 100000 in
set_option maxHeartbeats 1600000 in
theorem impl_isinc (u : Value) (l : List T3) (n1 : ByteArray) (c1 : Int) (n2 : ByteArray) (c2 : Int) (S : Nat → Prop) (w : World) (h1 : tabsC.rd w S [u] l) (hw : wtS l ≤ 1048577) (hs1 : n1.size ≤ 1048576) (hs2 : n2.size ≤ 1048576) :
    Calls Try.prog 50 #[.agg #[u], .agg #[.string n1, .int .i64 c1, .string n2, .int .i64 c2]] w fun e w' => e = .returned (.bool (incOk l n1 c1 n2 c2)) ∧ Below w.heap.size w w' := by
  have HC1 := Lib.hid (fun w' (hb : Below w.heap.size w w') => impl_hascol u l n1 c1 S w' (Cd.later h1 hb) hw hs1)
  have HC2 := Lib.hid (fun w' (hb : Below w.heap.size w w') => impl_hascol u l n2 c2 S w' (Cd.later h1 hb) hw hs2)
  have HZ := Lib.hid (show incOk l n1 c1 n2 c2 = (((lookL l n1).isSome && colB c1 (lkT l n1).2.1) && ((lookL l n2).isSome && colB c2 (lkT l n2).2.1)) from rfl)
  obtain ⟨a1, cap1, rfl, hl1⟩ := Cd.sl_form h1
  clear h1 hw hs1 hs2
  generalize ((lookL l n1).isSome && colB c1 (lkT l n1).2.1) = b1 at *
  generalize ((lookL l n2).isSome && colB c2 (lkT l n2).2.1) = b2 at *
  go_enter Try.func50, Try.ntmps50
  go_wp2_with fail
  generalize hW : (w.alloc _).alloc _ = W
  obtain ⟨r0, r1, hz, hb0⟩ := start2g w _ _ hW
  have L0 := Lib.hid (Loc1.of r0)
  have L1 := Lib.hid (Loc4.of r1)
  have HB0 := Lib.hid hb0
  clear hW r0 r1 hz
  refine (HC1.out W hb0).mono ?_
  rintro e w1 ⟨rfl, hb1⟩
  have HB1 := Lib.hid (below_then HB0.out hb1)
  replace L0 := Lib.hid (L0.out.later hb1)
  replace L1 := Lib.hid (L1.out.later hb1)
  clear hb0 hb1
  have y0 := L0.out.c0
  have y1 := L1.out.c2
  have y2 := L1.out.c3
  cases b1
  · go_wp2_with fail
    go_ret
    exact ⟨ret_b (by rw [HZ.out]; rfl), HB1.out⟩
  · go_wp2_with fail
    refine (HC2.out _ HB1.out).mono ?_
    rintro e w2 ⟨rfl, hb2⟩
    have HB2 := Lib.hid (below_then HB1.out hb2)
    clear hb2
    go_wp2_with fail
    go_ret
    exact ⟨ret_b (by rw [HZ.out]; rfl), HB2.out⟩
/-- The index of the first row that has the value. -/
def ixO (rows : List (List Int)) (c v : Int) (k : Nat) : Int := match rows with
  | [] => -1
  | r :: rs => if r.getD c.toNat 0 = v then (k : Int) else ixO rs c v (k + 1)
theorem ixO_occ (c v : Int) : ∀ (rows : List (List Int)) (k : Nat), decide (0 ≤ ixO rows c v k) = occB rows c v
  | [], k => rfl
  | r :: rs, k => by
    have ih := ixO_occ c v rs (k + 1)
    unfold ixO occB
    rw [List.any_cons]
    by_cases h : r.getD c.toNat 0 = v
    · rw [if_pos h, decide_eq_true h, Bool.true_or]
      exact decide_eq_true (by omega)
    · rw [if_neg h, decide_eq_false h, Bool.false_or]
      exact ih
theorem ixO_drop {rows : List (List Int)} {c v : Int} {k : Nat} (h : k < rows.length) : ixO (rows.drop k) c v k = if (rows[k]).getD c.toNat 0 = v then (k : Int) else ixO (rows.drop (k + 1)) c v (k + 1) := by
  rw [List.drop_eq_getElem_cons h]
  rfl
theorem impl_hit (x : Value) (r : List Int) (B : Nat) (w : World) (hr : RI w x r B) (t : Nat) (v : Int) (bc bv : Nat) (ht : t < r.length) (hc : w.cell? ⟨bc, 0, none⟩ = some (.int .i64 (t : Int))) (hv : w.cell? ⟨bv, 0, none⟩ = some (.int .i64 v)) :
    Calls Try.prog 100 #[x, .pointer (some ⟨bc, 0, none⟩), .pointer (some ⟨bv, 0, none⟩)] w fun e w' => e = .returned (.bool (decide (r.getD t 0 = v))) ∧ ∃ m, w' = w.drewN m := by
  obtain ⟨b, off, cap, rfl, hbB, hcell⟩ := ri_at hr ht
  have hg : r[t] = r.getD t 0 := by simp [ht]
  rw [hg] at hcell
  obtain ⟨_, _, _, hlm, _⟩ := hr
  have p1 : (0 : Int) ≤ (t : Int) := by omega
  have p2 : (t : Int) < (r.length : Int) := by omega
  generalize r.getD t 0 = z at *
  clear hg
  by_cases he : z = v
  · have t1 : (z == v) = true := beq_iff_eq.2 he
    have HZ := Lib.hid (show decide (z = v) = true from decide_eq_true he)
    clear he
    go_enter Try.func100, Try.ntmps100
    go_wp2
    go_quiet (fail)
    go_wp2
    go_ret
    exact ⟨ret_b HZ.out.symm, ⟨_, rfl⟩⟩
  · have t1 : (z == v) = false := beq_eq_false_iff_ne.2 he
    have HZ := Lib.hid (show decide (z = v) = false from decide_eq_false he)
    clear he
    go_enter Try.func100, Try.ntmps100
    go_wp2
    go_quiet (fail)
    go_wp2
    go_ret
    exact ⟨ret_b HZ.out.symm, ⟨_, rfl⟩⟩
set_option maxRecDepth 100000 in
theorem impl_hitix (u : Value) (rows : List (List Int)) (S : Nat → Prop) (w : World) (hr : rowsC.rd w S [u] rows) (t : Nat) (v : Int) (bc bv : Nat) (ht : ∀ r ∈ rows, t < r.length) (hc : w.cell? ⟨bc, 0, none⟩ = some (.int .i64 (t : Int))) (hv : w.cell? ⟨bv, 0, none⟩ = some (.int .i64 v)) :
    Calls Try.prog 99 #[u, .func (.func 100) #[] #[.pointer (some ⟨bc, 0, none⟩), .pointer (some ⟨bv, 0, none⟩)]] w fun e w' => e = .returned (.int .i64 (ixO rows t v 0)) ∧ ∃ m, w' = w.drewN m := by
  have HR := Lib.hid (fun m => rd_drewN hr m)
  have HTL := Lib.hid ht
  have HCC := Lib.hid hc
  have HCV := Lib.hid hv
  obtain ⟨a, cap, rfl, hlm⟩ := rows_form hr
  clear hr ht hc hv
  go_enter Try.func99, Try.ntmps99
  go_wp2_with fail
  go_loopw [8] (fun i wr => ∃ k m : Nat, k ≤ rows.length ∧ i = .int .i64 k ∧ Hid (ixO rows t v 0 = ixO (rows.drop k) t v k) ∧ wr = w.drewN m) (fun i _ => rows.length - (intOf i).toNat)
  case atStart => exact ⟨0, 0, Nat.zero_le _, rfl, Lib.hid rfl, rfl⟩
  case round =>
    obtain ⟨k, m, hk, rfl, hl, hwr⟩ := hrel
    have HWR := Lib.hid hwr
    by_cases hlt : k < rows.length
    · have HRM := HR.out m
      rw [← hwr] at HRM
      obtain ⟨b, off, cap', x, e1, hbB, hc, hx⟩ := rows_at HRM hlt
      injection e1 with e1 e2 e3
      subst e1 e3
      have HI := Lib.hid (impl_hit x rows[k] _ wr (row_ri hx).1 t v bc bv (HTL.out _ (List.getElem_mem hlt)) (by rw [hwr]; exact HCC.out) (by rw [hwr]; exact HCV.out))
      have p1 : (0 : Int) ≤ (k : Int) := by omega
      have p2 : (k : Int) < (rows.length : Int) := by omega
      have hd := ixO_drop (c := (t : Int)) (v := v) hlt
      rw [Int.toNat_natCast] at hd
      clear hx hwr HRM
      by_cases hs : (rows[k]).getD t 0 = v
      · rw [decide_eq_true hs] at HI
        rw [if_pos hs] at hd
        have HZ := Lib.hid (show ixO rows t v 0 = (k : Int) from hl.out.trans hd)
        clear hs hd
        go_wp2_with (go_at_call 100; refine HI.out.mono ?_; rintro e w1 ⟨rfl, m1, rfl⟩)
        go_ret
        exact ⟨ret_int HZ.out.symm, by rw [HWR.out, World.drewN_drewN]; exact ⟨_, rfl⟩⟩
      · rw [decide_eq_false hs] at HI
        rw [if_neg hs] at hd
        have hl2 := Lib.hid (show ixO rows t v 0 = ixO (rows.drop (k + 1)) t v (k + 1) from hl.out.trans hd)
        clear hs hd
        go_wp2_with (go_at_call 100; refine HI.out.mono ?_; rintro e w1 ⟨rfl, m1, rfl⟩)
        go_roundw
        case rel => exact ⟨k + 1, m + m1, by omega, by go_num, hl2, by rw [HWR.out, World.drewN_drewN]⟩
        case measure => simp [intOf]; omega
    · clear hwr
      have HZ := Lib.hid (show ixO rows t v 0 = -1 by rw [hl.out, List.drop_eq_nil_of_le (by omega)]; rfl)
      go_wp2_with fail
      go_ret
      exact ⟨ret_int HZ.out.symm, m, HWR.out⟩
theorem impl_hitany (u : Value) (rows : List (List Int)) (S : Nat → Prop) (w : World) (hr : rowsC.rd w S [u] rows) (t : Nat) (v : Int) (bc bv : Nat) (ht : ∀ r ∈ rows, t < r.length) (hc : w.cell? ⟨bc, 0, none⟩ = some (.int .i64 (t : Int))) (hv : w.cell? ⟨bv, 0, none⟩ = some (.int .i64 v)) :
    Calls Try.prog 82 #[u, .func (.func 100) #[] #[.pointer (some ⟨bc, 0, none⟩), .pointer (some ⟨bv, 0, none⟩)]] w fun e w' => e = .returned (.bool (occB rows t v)) ∧ ∃ m, w' = w.drewN m := by
  have HI := Lib.hid (impl_hitix u rows S w hr t v bc bv ht hc hv)
  have HB := Lib.hid (ixO_occ (t : Int) v rows 0)
  obtain ⟨a, cap, rfl, hlm⟩ := rows_form hr
  clear hr
  generalize ixO rows t v 0 = z at *
  go_enter Try.func82, Try.ntmps82
  go_wp2_with fail
  refine HI.out.mono ?_
  rintro e w1 ⟨rfl, m1, rfl⟩
  go_wp2_with fail
  go_ret
  exact ⟨ret_b HB.out, ⟨_, rfl⟩⟩
theorem impl_occurs (u : Value) (rows : List (List Int)) (S : Nat → Prop) (w : World) (hr : rowsC.rd w S [u] rows) (t : Nat) (v : Int) (ht : ∀ r ∈ rows, t < r.length) :
    Calls Try.prog 85 #[.int .i64 v, u, .int .i64 (t : Int)] w fun e w' => e = .returned (.bool (occB rows t v)) ∧ Below w.heap.size w w' := by
  have HI := Lib.hid (fun w' (hb : Below w.heap.size w w') bc bv hc hv => impl_hitany u rows S w' (Cd.later hr hb) t v bc bv ht hc hv)
  obtain ⟨a, cap, rfl, hlm⟩ := rows_form hr
  clear hr ht
  go_enter Try.func85, Try.ntmps85
  go_wp2_with fail
  generalize hW : (w.alloc _).alloc _ = W
  obtain ⟨r0, r1, hz, hb0⟩ := start2g w _ _ hW
  clear hW hz
  refine (HI.out W hb0 _ _ (by simp [World.cell?, r1]) (by simp [World.cell?, r0])).mono ?_
  rintro e w1 ⟨rfl, m1, rfl⟩
  have HB := Lib.hid (dnD (m := m1) hb0)
  clear r0 r1 hb0
  go_wp2_with fail
  go_ret
  exact ⟨rfl, HB.out⟩
set_option maxRecDepth 100000 in
set_option maxHeartbeats 6400000 in
theorem impl_mis (u : Value) (l : List T3) (n1 : ByteArray) (c1 : Int) (n2 : ByteArray) (c2 : Int) (S : Nat → Prop) (w : World) (h1 : tabsC.rd w S [u] l) (hw : wtS l ≤ 1048577) (hs1 : n1.size ≤ 1048576) (hs2 : n2.size ≤ 1048576) :
    Calls Try.prog 54 #[.agg #[u], .agg #[.string n1, .int .i64 c1, .string n2, .int .i64 c2]] w fun e w' => MisAns l n1 c1 n2 c2 w e w' := by
  have HLK := Lib.hid (fun nm w' (hs : nm.size ≤ 1048576) (hb : Below w.heap.size w w') => DbImp.impl_look u l nm S w' (Cd.later h1 hb) hw hs)
  have HIS := Lib.hid (fun w' (hb : Below w.heap.size w w') => impl_isinc u l n1 c1 n2 c2 S w' (Cd.later h1 hb) hw hs1 hs2)
  have HS12 := Lib.hid (And.intro hs1 hs2)
  obtain ⟨a1, cap1, rfl, hl1⟩ := Cd.sl_form h1
  clear h1 hw hs1 hs2
  go_enter Try.func54, Try.ntmps54
  go_wp2_with fail
  generalize hW : (w.alloc _).alloc _ = W
  obtain ⟨r0, r1, hz, hb0⟩ := start2g w _ _ hW
  have L0 := Lib.hid (Loc1.of r0)
  have L1 := Lib.hid (Loc4.of r1)
  have HB0 := Lib.hid hb0
  clear hW r0 r1 hz
  refine (HIS.out W hb0).mono ?_
  rintro e w0 ⟨rfl, hb0'⟩
  replace HB0 := Lib.hid (below_then HB0.out hb0')
  replace L0 := Lib.hid (L0.out.later hb0')
  replace L1 := Lib.hid (L1.out.later hb0')
  clear hb0 hb0' HIS
  cases hok : incOk l n1 c1 n2 c2
  · have HZ := Lib.hid (misL_no hok)
    clear hok
    go_wp2_with fail
    go_ret
    exact ⟨_, [], rfl, by rw [HZ.out]; exact Cd.ow_nil _ _, by simp, HB0.out⟩
  obtain ⟨⟨hq1, hc1⟩, hq2, hc2⟩ := inc_parts hok
  have HZ := Lib.hid (misL_yes hok)
  have HFA := Lib.hid (found_of hq1)
  have HFB := Lib.hid (found_of hq2)
  obtain ⟨ta, rfl, hta, hra⟩ := col_at HFA.out hc1
  obtain ⟨tb, rfl, htb, hrb⟩ := col_at HFB.out hc2
  have HRA := Lib.hid hra
  have HRB := Lib.hid hrb
  clear hok hq1 hq2 hc1 hc2 hra hrb
  have y0 := L0.out.c0
  have y1 := L1.out.c0
  go_wp2_with fail
  refine (HLK.out n1 w0 HS12.out.1 HB0.out).mono ?_
  rintro e w1 ⟨va, fa, rfl, hoa, hna, hb1⟩
  obtain ⟨aa, ca, rfl⟩ := Cd.ow_slice (c := rowC) hoa
  replace L0 := Lib.hid (L0.out.later hb1)
  replace L1 := Lib.hid (L1.out.later hb1)
  have HB1 := Lib.hid (below_then HB0.out hb1)
  have HOA := Lib.hid (rowsC.ow_rd hoa)
  clear hb1 hoa hna HB0 y0 y1
  have y0 := L0.out.c0
  have yd0 := L0.out.lt
  have y1 := L1.out.c2
  have yd1 := L1.out.lt
  generalize hTA : lkT l n1 = TA at *
  go_wp2_with fail
  generalize hg : World.alloc w1 _ = w2
  obtain ⟨rg, z2, hbg⟩ := start1 w1 _ hg
  clear hg y0 yd0 y1 yd1
  have LA := Lib.hid (Loc3.of rg)
  replace L0 := Lib.hid (L0.out.later hbg)
  replace L1 := Lib.hid (L1.out.later hbg)
  replace HOA := Lib.hid (Cd.later HOA.out hbg)
  have HB2 := Lib.hid (below_then HB1.out hbg)
  clear rg hbg HB1 z2
  refine (HLK.out n2 w2 HS12.out.2 HB2.out).mono ?_
  rintro e w3 ⟨vb, fb, rfl, hob, hnb, hb3⟩
  obtain ⟨ab, cb, rfl⟩ := Cd.ow_slice (c := rowC) hob
  replace LA := Lib.hid (LA.out.later hb3)
  replace L1 := Lib.hid (L1.out.later hb3)
  replace HOA := Lib.hid (Cd.later HOA.out hb3)
  have HB3 := Lib.hid (below_then HB2.out hb3)
  have HOB := Lib.hid (rowsC.ow_rd hob)
  clear hob hnb hb3 HB2 HLK L0
  generalize hTB : lkT l n2 = TB at *
  have hla := found_len HFA.out
  have hlb := found_len HFB.out
  clear hTA hTB HFA HFB
  obtain ⟨nmA, arA, ra⟩ := TA
  obtain ⟨nmB, arB, rb⟩ := TB
  simp only at *
  go_wp2_with fail
  generalize hg : World.alloc w3 _ = w4
  obtain ⟨rg, z4, hbg⟩ := start1 w3 _ hg
  clear hg
  have LB := Lib.hid (Loc3.of rg)
  replace LA := Lib.hid (LA.out.later hbg)
  replace L1 := Lib.hid (L1.out.later hbg)
  replace HOA := Lib.hid (Cd.later HOA.out hbg)
  replace HOB := Lib.hid (Cd.later HOB.out hbg)
  have HB4 := Lib.hid (below_then HB3.out hbg)
  clear rg hbg HB3 z4
  go_loopw [9, 29] (fun o i wr => ∃ (k : Nat), k ≤ 10 ∧ i = .int .i64 k ∧ OwnI wr w4.heap.size 3 o (misTo ra rb ta tb k) ∧ Below w4.heap.size w4 wr) (fun _ i _ => 10 - (intOf i).toNat)
  case atStart => exact ⟨0, Nat.zero_le _, rfl, OwnI.nil _ _ _, Below.refl _ _⟩
  case round =>
    obtain ⟨k, hk, rfl, hown, hb⟩ := hrel
    have HB := Lib.hid hb
    by_cases hlt : k < 10
    case neg =>
      have ek : k = 10 := by omega
      subst ek
      obtain ⟨fp, q1, q2⟩ := own_back (w0 := w) hown (inr_misTo ra rb ta tb 10 (by decide)) HB4.out.size
      have HO := Lib.hid (And.intro q1 q2)
      clear hown hb q1 q2
      go_wp2_with fail
      go_ret
      exact ⟨_, fp, rfl, by rw [HZ.out]; exact HO.out.1, HO.out.2, below_then HB4.out HB.out⟩
    have XA := Lib.hid (LA.out.later hb)
    have XB := Lib.hid (LB.out.later hb)
    have X1 := Lib.hid (L1.out.later hb)
    have HCA := Lib.hid (impl_occurs _ ra _ wr (Cd.later HOA.out hb) ta (k : Int) HRA.out)
    have HCB := Lib.hid (fun w' (hq : Below wr.heap.size wr w') => impl_occurs _ rb _ w' (Cd.later (Cd.later HOB.out HB.out) hq) tb (k : Int) HRB.out)
    have HOWN := Lib.hid hown
    clear hb hown
    have y0 := XA.out.c2
    have y1 := X1.out.c1
    go_wp2_with fail
    refine HCA.out.mono ?_
    rintro e w5 ⟨rfl, hb5⟩
    have HB5 := Lib.hid hb5
    clear hb5 y0 y1
    cases hoa : occB ra (ta : Int) (k : Int)
    · have HNX := Lib.hid (misTo_no1 (rb := rb) (cb := (tb : Int)) hoa)
      have HO5 := Lib.hid (OwnI.later HOWN.out HB5.out)
      clear hoa
      generalize misTo ra rb (ta : Int) (tb : Int) k = out at *
      go_wp2_with fail
      go_roundw
      case rel => exact ⟨k + 1, by omega, by go_num, by rw [HNX.out]; exact HO5.out, below_then HB.out HB5.out⟩
      case measure => simp [intOf]; omega
    have z0 := (XB.out.later HB5.out).c2
    have z1 := (X1.out.later HB5.out).c3
    go_wp2_with fail
    refine (HCB.out w5 HB5.out).mono ?_
    rintro e w6 ⟨rfl, hb6⟩
    have HB6 := Lib.hid (below_then HB5.out hb6)
    clear hb6 z0 z1
    have HO6 := Lib.hid (OwnI.later HOWN.out HB6.out)
    have HBB := Lib.hid (below_then HB.out HB6.out)
    cases hob : occB rb (tb : Int) (k : Int)
    · have HNX := Lib.hid (misTo_yes hoa hob)
      have hlen : (misTo ra rb ta tb k).length + 1 ≤ 1000000000000 := by have := misTo_len ra rb ta tb k; omega
      have hbs : w4.heap.size ≤ w6.heap.size := HBB.out.size
      have hown := HO6.out
      clear hoa hob
      generalize misTo ra rb (ta : Int) (tb : Int) k = out at *
      go_wp2_with (first | (at_builtin; refine wp_appendI rfl (.tmp 47) (.tmp 49) 25 rfl w4.heap.size 3 Try.underlying25 info_i64 _ _ rfl hown _ rfl hlen hbs ?_))
      intro v' w7 hown7 hb7
      go_wp2_with fail
      go_roundw
      case rel => exact ⟨k + 1, by omega, by go_num, by rw [HNX.out]; exact hown7, HBB.out.trans hb7⟩
      case measure => simp [intOf]; omega
    · have HNX := Lib.hid (misTo_no2 (ra := ra) (ca := (ta : Int)) hob)
      clear hoa hob
      generalize misTo ra rb (ta : Int) (tb : Int) k = out at *
      go_wp2_with fail
      go_roundw
      case rel => exact ⟨k + 1, by omega, by go_num, by rw [HNX.out]; exact HO6.out, HBB.out⟩
      case measure => simp [intOf]; omega
set_option maxRecDepth 100000 in
set_option maxHeartbeats 1600000 in
theorem impl_holdi (u : Value) (l : List T3) (n1 : ByteArray) (c1 : Int) (n2 : ByteArray) (c2 : Int) (S : Nat → Prop) (w : World) (h1 : tabsC.rd w S [u] l) (hw : wtS l ≤ 1048577) (hs1 : n1.size ≤ 1048576) (hs2 : n2.size ≤ 1048576) :
    Calls Try.prog 52 #[.agg #[u], .agg #[.string n1, .int .i64 c1, .string n2, .int .i64 c2]] w fun e w' => e = .returned (.bool (holdsI l n1 c1 n2 c2)) ∧ Below w.heap.size w w' := by
  have HIS := Lib.hid (fun w' (hb : Below w.heap.size w w') => impl_isinc u l n1 c1 n2 c2 S w' (Cd.later h1 hb) hw hs1 hs2)
  have HMS := Lib.hid (fun w' (hb : Below w.heap.size w w') => impl_mis u l n1 c1 n2 c2 S w' (Cd.later h1 hb) hw hs1 hs2)
  have HLM := Lib.hid (misL_len l n1 c1 n2 c2)
  obtain ⟨a1, cap1, rfl, hl1⟩ := Cd.sl_form h1
  clear h1 hw hs1 hs2
  have HZ := Lib.hid (show holdsI l n1 c1 n2 c2 = (incOk l n1 c1 n2 c2 && decide ((misL l n1 c1 n2 c2).length = 0)) from rfl)
  go_enter Try.func52, Try.ntmps52
  go_wp2_with fail
  generalize hW : (w.alloc _).alloc _ = W
  obtain ⟨r0, r1, hz, hb0⟩ := start2g w _ _ hW
  have L0 := Lib.hid (Loc1.of r0)
  have L1 := Lib.hid (Loc4.of r1)
  have HB0 := Lib.hid hb0
  clear hW r0 r1 hz
  refine (HIS.out W hb0).mono ?_
  rintro e w1 ⟨rfl, hb1⟩
  have HB1 := Lib.hid (below_then HB0.out hb1)
  replace L0 := Lib.hid (L0.out.later hb1)
  replace L1 := Lib.hid (L1.out.later hb1)
  clear hb0 hb1
  have y0 := L0.out.c0
  have y1 := L1.out.c0
  have y2 := L1.out.c1
  have y3 := L1.out.c2
  have y4 := L1.out.c3
  cases hok : incOk l n1 c1 n2 c2
  · have HE := Lib.hid (show holdsI l n1 c1 n2 c2 = false by rw [HZ.out, hok]; rfl)
    clear hok
    go_wp2_with fail
    go_ret
    exact ⟨ret_b HE.out.symm, HB1.out⟩
  have HE := Lib.hid (show holdsI l n1 c1 n2 c2 = decide ((misL l n1 c1 n2 c2).length = 0) by rw [HZ.out, hok]; rfl)
  clear hok
  go_wp2_with fail
  refine (HMS.out w1 HB1.out).mono ?_
  rintro e w2 ⟨v, f, rfl, ho, hn, hb2⟩
  obtain ⟨a2, c2', rfl⟩ := Cd.ow_slice ho
  have HB2 := Lib.hid (below_then HB1.out hb2)
  have hlm := HLM.out
  clear ho hn hb2 HMS HIS
  generalize (misL l n1 c1 n2 c2).length = m at *
  go_wp2_with fail
  go_ret
  exact ⟨ret_b (by rw [HE.out]; by_cases q : m = 0 <;> simp [q]), HB2.out⟩
end Go.Proofs.Ytnoennmhifmolaa.DepImp
