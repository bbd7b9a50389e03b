/- Queries: the variables of the atoms in a mask. -/
import Derived.Test.YtklamhnecncenaaQrySpec2
namespace Go.Proofs.Ytklamhnecncenaa.QryImp
open Go Go.RowKit Byt Ints IntsLaw Cd Rows2 Tab TabSpec Exact Atom QryMath QrySpec MkAtom SlMath

theorem pow_len {k : Nat} (h : k ≤ 4) : IntKind.i64.wrap (2 ^ k) = 2 ^ k ∧ (1 : Int) ≤ 2 ^ k ∧ (2 : Int) ^ k ≤ 16 := by
  have : k = 0 ∨ k = 1 ∨ k = 2 ∨ k = 3 ∨ k = 4 := by omega
  rcases this with rfl | rfl | rfl | rfl | rfl <;> decide
theorem mOk_nat {n : Int} {l : List A2} {m : Int} (h : mOk n l m = true) : qOk n l = true ∧ l.length ≤ 4 ∧ ∃ t : Nat, m = (t : Int) ∧ t < 16 := by
  unfold mOk at h
  rw [Bool.and_eq_true, decide_eq_true_eq] at h
  have h4 := (qOk_iff.1 h.1).2.2.2.1
  obtain ⟨t, rfl⟩ := Int.eq_ofNat_of_zero_le h.2.1
  have := (pow_len h4).2.2
  exact ⟨h.1, h4, t, rfl, by omega⟩
set_option maxRecDepth 100000 in
theorem spec_mask (n m : Int) (u : Value) (l : List A2) (S : Nat → Prop) (w : World) (hr : atomsC.rd w S [u] l) :
    Calls Try.prog 96 #[.agg #[.int .i64 n, u], .int .i64 m] w fun e w' => e = .returned (.bool (mOk n l m)) ∧ Below w.heap.size w w' := by
  have HV := Lib.hid (fun w' (hb : Below w.heap.size w w') => spec_valid n u l S w' (Cd.later hr hb))
  obtain ⟨a, cap, rfl, hlm⟩ := Cd.sl_form hr
  clear hr
  have HC := Lib.hid (Loc2.of (row_alloc w (.cells #[.int .i64 n, .slice a l.length cap] 60)))
  have HB := Lib.hid (below_alloc w (.cells #[.int .i64 n, .slice a l.length cap] 60))
  cases hq : qOk n l
  · have HZ := Lib.hid (show mOk n l m = false by unfold mOk; rw [hq]; rfl)
    rw [hq] at HV
    clear hq
    go_enter Try.func96, Try.ntmps96
    go_wp2_with fail
    generalize w.alloc _ = W at *
    refine (HV.out _ HB.out).mono ?_
    rintro e w1 ⟨rfl, hb1⟩
    have HB1 := Lib.hid (below_then HB.out hb1)
    clear hb1
    go_wp2_with fail
    go_ret
    exact ⟨ret_b HZ.out.symm, HB1.out⟩
  rw [hq] at HV
  have h4 := (qOk_iff.1 hq).2.2.2.1
  have hpw := pow_len h4
  have hI := fun w => Fixed.l1In_any m 0 (2 ^ l.length - 1) w
  have HZ := Lib.hid (show (decide (0 ≤ m) && decide (m ≤ 2 ^ l.length - 1)) = mOk n l m by
    unfold mOk
    rw [hq, Bool.true_and, Bool.eq_iff_iff, Bool.and_eq_true, decide_eq_true_eq, decide_eq_true_eq, decide_eq_true_eq]
    omega)
  have HI := Lib.hid hI
  rw [HZ.out] at HI
  have q1 := hpw.1
  have q2 := hpw.2.1
  have q3 := hpw.2.2
  have q4 : IntKind.i64.wrap (2 ^ l.length - 1) = 2 ^ l.length - 1 := by rw [IntKind.wrap_i64]; omega
  have q5 : (l.length : Int) ≤ 64 := by omega
  have q6 : ((l.length : Int)).toNat = l.length := by omega
  clear hq hpw h4 hI
  generalize mOk n l m = z at *
  go_enter Try.func96, Try.ntmps96
  go_wp2_with fail
  generalize w.alloc _ = W at *
  refine (HV.out _ HB.out).mono ?_
  rintro e w1 ⟨rfl, hb1⟩
  have HB1 := Lib.hid (below_then HB.out hb1)
  have c0 := (HC.out.later hb1).c0
  have c1 := (HC.out.later hb1).c1
  clear hb1
  go_wp2_with (go_at_call 69; refine (HI.out _).mono ?_; rintro e w1 ⟨rfl, rfl⟩)
  go_ret
  exact ⟨rfl, HB1.out⟩
set_option maxRecDepth 100000 in
set_option maxHeartbeats 1600000 in
theorem spec_bits (n : Int) (m : Nat) (u : Value) (l : List A2) (S : Nat → Prop) (w : World) (hr : atomsC.rd w S [u] l) (hm : m < 16) (hl4 : l.length ≤ 4) (h4 : ∀ A ∈ l, In4 A.2) (h3 : ∀ A ∈ l, A.2.length ≤ 3) :
    Calls Try.prog 135 #[.agg #[.int .i64 n, u], .int .i64 (m : Int)] w fun e w' => e = .returned (.int .i64 (bs (selV l m l.length) : Int)) ∧ Below w.heap.size w w' := by
  have HR := Lib.hid (fun w' (hb : Below w.heap.size w w') => Cd.later hr hb)
  obtain ⟨a, cap, rfl, hlm⟩ := Cd.sl_form hr
  have H4 := Lib.hid h4
  have H3 := Lib.hid h3
  clear hr h4 h3
  go_enter Try.func135, Try.ntmps135
  go_wp2_with fail
  generalize hW : w.alloc _ = W
  obtain ⟨r0, _, hb0⟩ := start1 w _ hW
  have HC := Lib.hid (Loc2.of r0)
  have HB := Lib.hid hb0
  have HRW := Lib.hid (HR.out W hb0)
  clear hW r0 hb0
  have g1 := HC.out.c1
  go_loop [5, 6] (fun x i => ∃ k : Nat, k ≤ l.length ∧ i = .int .i64 k ∧ x = .int .i64 (bs (selV l m k) : Int)) (fun _ i => l.length - (intOf i).toNat)
  case atStart => exact ⟨0, Nat.zero_le _, rfl, rfl⟩
  case round =>
    obtain ⟨k, hk, rfl, rfl⟩ := hrel
    by_cases hlt : k < l.length
    · obtain ⟨b, off, cap', au, cu, e1, hbB, c0, c1, hs1, hu, hroom⟩ := atom_at2 HRW.out hlt
      injection e1 with e1 e2 e3
      subst e1 e3
      have p1 : (0 : Int) ≤ (k : Int) := by omega
      have p2 : (k : Int) < (l.length : Int) := by omega
      have hbit := bit_at hm k
      have p3 : (k : Int) ≤ 64 := by omega
      have p4 : ((k : Int)).toNat = k := by omega
      have HPRE := Lib.hid (selV_in4 H4.out m k hk)
      have hA4 := H4.out _ (List.getElem_mem hlt)
      have hA3 := H3.out _ (List.getElem_mem hlt)
      have HRI := Lib.hid (row_ri hu).1
      have HLT := Lib.hid hlt
      have HNY := Lib.hid (fun h => selV_yes (l := l) (m := m) hlt h)
      have HNN := Lib.hid (fun h => selV_no (l := l) (m := m) (k := k) h)
      clear hu
      generalize hA : l[k] = A at *
      generalize selV l m k = pre at *
      clear hA hroom
      by_cases hx : m / 2 ^ k % 2 = 1
      · rw [hx] at hbit
        have HNX := Lib.hid (HNY.out hx)
        clear hx
        go_wp2_with fail
        go_loop [5, 7] (fun x i => ∃ j : Nat, j ≤ A.2.length ∧ i = .int .i64 j ∧ x = .int .i64 (bs (pre ++ A.2.take j) : Int)) (fun _ i => A.2.length - (intOf i).toNat)
        case atStart => exact ⟨0, Nat.zero_le _, rfl, by simp⟩
        case round =>
          obtain ⟨j, hj, rfl, rfl⟩ := hrel
          by_cases hjl : j < A.2.length
          · obtain ⟨b2, off2, cap2, e1, hbB2, hc2⟩ := ri_at HRI.out hjl
            injection e1 with e1 e2 e3
            subst e1 e3
            have i1 : (0 : Int) ≤ (j : Int) := by omega
            have i2 : (j : Int) < (A.2.length : Int) := by omega
            have hz4 := hA4 _ (List.getElem_mem hjl)
            have hpre : In4 (pre ++ A.2.take j) := fun x hx' => by
              rcases List.mem_append.1 hx' with q | q
              · exact HPRE.out x q
              · exact hA4 x (List.mem_of_mem_take q)
            have hor := or_nat (bs_lt hpre) (pow4n hz4)
            have HNJ := Lib.hid (show bs (pre ++ A.2.take (j + 1)) = bs (pre ++ A.2.take j) ||| 2 ^ A.2[j].toNat by rw [List.take_succ_eq_append_getElem hjl, ← List.append_assoc, bs_snoc])
            clear hpre
            generalize bs (pre ++ A.2.take j) = sn at *
            generalize A.2[j] = z at *
            rcases c4 hz4 with rfl | rfl | rfl | rfl
            all_goals
              go_wp2
              go_round
              case rel => exact ⟨j + 1, by omega, by go_num, by rw [HNJ.out]; first | rfl | exact congrArg _ hor⟩
              case measure => simp [intOf]; omega
          · have ej : j = A.2.length := by omega
            subst ej
            rw [List.take_length] at *
            go_wp2
            go_round
            case rel => exact ⟨k + 1, by have := HLT.out; omega, by go_num, by rw [HNX.out]⟩
            case measure => have := HLT.out; simp [intOf]; omega
      · have hz : m / 2 ^ k % 2 = 0 := by omega
        rw [hz] at hbit
        have HNX := Lib.hid (HNN.out hx)
        clear hx hz
        go_wp2_with fail
        go_loop [5, 7] (fun x i => i = .int .i64 ((0 : Nat) : Int) ∧ x = .int .i64 (bs pre : Int)) (fun _ _ => 0)
        case atStart => exact ⟨rfl, rfl⟩
        case round =>
          obtain ⟨rfl, rfl⟩ := hrel
          by_cases hjl : (0 : Int) < (A.2.length : Int)
          · go_wp2
            go_round
            case rel => exact ⟨k + 1, by have := HLT.out; omega, by go_num, by rw [HNX.out]⟩
            case measure => have := HLT.out; simp [intOf]; omega
          · go_wp2
            go_round
            case rel => exact ⟨k + 1, by have := HLT.out; omega, by go_num, by rw [HNX.out]⟩
            case measure => have := HLT.out; simp [intOf]; omega
    · have ek : k = l.length := by omega
      subst ek
      go_wp2_with fail
      go_ret
      exact ⟨rfl, HB.out⟩
theorem mask_facts {n m : Int} {l : List A2} (h : mOk n l m = true) : ∃ t : Nat, m = (t : Int) ∧ t < 16 ∧ l.length ≤ 4 ∧ (∀ A ∈ l, In4 A.2) ∧ (∀ A ∈ l, A.2.length ≤ 3) ∧ mB n l m = bs (selV l t l.length) := by
  obtain ⟨hq, h4, t, rfl, ht⟩ := mOk_nat h
  have hp := qOk_iff.1 hq
  refine ⟨t, rfl, ht, h4, hp.in4, fun A hA => (hp.2.2.2.2.1 A hA).2.2.1, ?_⟩
  rw [mB_yes h]
  rfl
set_option maxRecDepth 100000 in
theorem spec_maskvars (n m : Int) (u : Value) (l : List A2) (S : Nat → Prop) (w : World) (hr : atomsC.rd w S [u] l) :
    Calls Try.prog 99 #[.agg #[.int .i64 n, u], .int .i64 m] w fun e w' => ∃ v' fp, e = .returned v' ∧ rowC.ow w' w.heap.size [v'] (varsL (mB n l m)) fp ∧ fp.Nodup ∧ Below w.heap.size w w' := by
  have HV := Lib.hid (fun w' (hb : Below w.heap.size w w') => spec_mask n m u l S w' (Cd.later hr hb))
  have HR := Lib.hid (fun w' (hb : Below w.heap.size w w') => Cd.later hr hb)
  obtain ⟨a, cap, rfl, hlm⟩ := Cd.sl_form hr
  clear hr
  have HC := Lib.hid (Loc2.of (row_alloc w (.cells #[.int .i64 n, .slice a l.length cap] 60)))
  have HB := Lib.hid (below_alloc w (.cells #[.int .i64 n, .slice a l.length cap] 60))
  cases hq : mOk n l m
  · have HZ := Lib.hid (show varsL (mB n l m) = [] by rw [mB_no hq]; exact varsL_zero)
    rw [hq] at HV
    clear hq
    go_enter Try.func99, Try.ntmps99
    go_wp2_with fail
    generalize w.alloc _ = W at *
    refine (HV.out _ HB.out).mono ?_
    rintro e w1 ⟨rfl, hb1⟩
    have HB1 := Lib.hid (below_then HB.out hb1)
    clear hb1
    have HE := Lib.hid (And.intro (Ints.OwnI.empty w1 w.heap.size 3 HB1.out.size) (below_then HB1.out (below_alloc w1 (.cells #[] 3))))
    go_wp2_with fail
    go_ret
    exact ⟨_, _, rfl, by rw [HZ.out]; exact Cd.ow_of_own HE.out.1 (fun x hx => by cases hx), Cd.own_nodup, HE.out.2⟩
  rw [hq] at HV
  obtain ⟨t, rfl, ht, hl4, h4, h3, hmb⟩ := mask_facts hq
  rw [hmb]
  have h16 : bs (selV l t l.length) < 16 := bs_lt (selV_in4 h4 _ _ (Nat.le_refl _))
  have HBI := Lib.hid (fun w' (hb : Below w.heap.size w w') => spec_bits n t (.slice a l.length cap) l S w' (HR.out w' hb) ht hl4 h4 h3)
  have HL := Lib.hid (fun w' => spec_list (bs (selV l t l.length)) w' h16)
  clear hq hmb h4 h3 h16
  generalize bs (selV l t l.length) = s at *
  go_enter Try.func99, Try.ntmps99
  go_wp2_with fail
  generalize w.alloc _ = W at *
  refine (HV.out _ HB.out).mono ?_
  rintro e w1 ⟨rfl, hb1⟩
  have HB1 := Lib.hid (below_then HB.out hb1)
  have c0 := (HC.out.later hb1).c0
  have c1 := (HC.out.later hb1).c1
  clear hb1
  go_wp2_with fail
  refine (HBI.out _ HB1.out).mono ?_
  rintro e w2 ⟨rfl, hb2⟩
  have HB2 := Lib.hid (below_then HB1.out hb2)
  clear hb2
  go_wp2_with fail
  refine (HL.out w2).mono ?_
  rintro e w3 ⟨v', fp, rfl, ho, hn, hb3⟩
  have HO := Lib.hid (And.intro (rowC.ow_base ho HB2.out.size) (And.intro hn (below_then HB2.out hb3)))
  clear ho hn hb3
  go_wp2_with fail
  go_ret
  exact ⟨_, fp, rfl, HO.out.1, HO.out.2.1, HO.out.2.2⟩
set_option maxRecDepth 100000 in
set_option maxHeartbeats 1600000 in
theorem impl_varsof (n m : Int) (u : Value) (l : List A2) (S : Nat → Prop) (w : World) (hr : atomsC.rd w S [u] l) :
    Calls Try.prog 101 #[.agg #[.int .i64 n, u], .int .i64 m] w fun e w' => e = .returned (.int .i64 (mB n l m : Int)) ∧ Below w.heap.size w w' := by
  have HV := Lib.hid (fun w' (hb : Below w.heap.size w w') => impl_valid n u l S w' (Cd.later hr hb))
  have HR := Lib.hid (fun w' (hb : Below w.heap.size w w') => Cd.later hr hb)
  obtain ⟨a, cap, rfl, hlm⟩ := Cd.sl_form hr
  clear hr
  have HC := Lib.hid (Loc2.of (row_alloc w (.cells #[.int .i64 n, .slice a l.length cap] 60)))
  have HB := Lib.hid (below_alloc w (.cells #[.int .i64 n, .slice a l.length cap] 60))
  cases hq : qOk n l
  · have HZ := Lib.hid (show ((mB n l m : Nat) : Int) = 0 by rw [mB_no (show mOk n l m = false by unfold mOk; rw [hq]; rfl)]; rfl)
    rw [hq] at HV
    clear hq
    go_enter Try.func101, Try.ntmps101
    go_wp2_with fail
    generalize w.alloc _ = W at *
    refine (HV.out _ HB.out).mono ?_
    rintro e w1 ⟨rfl, hb1⟩
    have HB1 := Lib.hid (below_then HB.out hb1)
    clear hb1
    go_wp2_with fail
    go_ret
    exact ⟨ret_int HZ.out.symm, HB1.out⟩
  rw [hq] at HV
  have h4 := (qOk_iff.1 hq).2.2.2.1
  have hpw := pow_len h4
  have q1 := hpw.1
  have q2 := hpw.2.1
  have q3 := hpw.2.2
  have q5 : (l.length : Int) ≤ 64 := by omega
  have q6 : ((l.length : Int)).toNat = l.length := by omega
  clear hpw
  by_cases hm : 0 ≤ m ∧ m < 2 ^ l.length
  case neg =>
    have HZ := Lib.hid (show ((mB n l m : Nat) : Int) = 0 by rw [mB_no (show mOk n l m = false by unfold mOk; rw [hq, decide_eq_false hm]; rfl)]; rfl)
    clear hq
    by_cases hm0 : m < 0
    · clear hm
      go_enter Try.func101, Try.ntmps101
      go_wp2_with fail
      generalize w.alloc _ = W at *
      refine (HV.out _ HB.out).mono ?_
      rintro e w1 ⟨rfl, hb1⟩
      have HB1 := Lib.hid (below_then HB.out hb1)
      clear hb1
      go_wp2_with fail
      go_ret
      exact ⟨ret_int HZ.out.symm, HB1.out⟩
    · have hmg : (2 : Int) ^ l.length ≤ m := by omega
      clear hm
      go_enter Try.func101, Try.ntmps101
      go_wp2_with fail
      generalize w.alloc _ = W at *
      refine (HV.out _ HB.out).mono ?_
      rintro e w1 ⟨rfl, hb1⟩
      have HB1 := Lib.hid (below_then HB.out hb1)
      have c0 := (HC.out.later hb1).c0
      have c1 := (HC.out.later hb1).c1
      clear hb1
      go_wp2_with fail
      go_ret
      exact ⟨ret_int HZ.out.symm, HB1.out⟩
  obtain ⟨t, rfl, ht, _, h44, h3, hmb⟩ := mask_facts (show mOk n l m = true by unfold mOk; rw [hq, decide_eq_true hm]; rfl)
  rw [hmb]
  have H4 := Lib.hid h44
  have m1 : ¬ ((t : Int) < 0) := by omega
  have m2 : ¬ ((2 : Int) ^ l.length ≤ (t : Int)) := by omega
  clear hq hm hmb h44 h3
  go_enter Try.func101, Try.ntmps101
  go_wp2_with fail
  generalize w.alloc _ = W at *
  refine (HV.out _ HB.out).mono ?_
  rintro e w1 ⟨rfl, hb1⟩
  have HB1 := Lib.hid (below_then HB.out hb1)
  have HC1 := Lib.hid (HC.out.later hb1)
  have c0 := HC1.out.c0
  have c1 := HC1.out.c1
  clear hb1
  go_wp2_with fail
  clear c0 c1 m1 m2 q1 q2 q3 q5 q6
  go_loopw [5, 26] (fun x i wr => ∃ k : Nat, k ≤ l.length ∧ i = .int .i64 k ∧ x = .int .i64 (bs (selV l t k) : Int) ∧ Below w1.heap.size w1 wr) (fun _ i _ => l.length - (intOf i).toNat)
  case atStart => exact ⟨0, Nat.zero_le _, rfl, rfl, Below.refl _ _⟩
  case round =>
    obtain ⟨k, hk, rfl, rfl, hbw⟩ := hrel
    have HBW := Lib.hid hbw
    by_cases hlt : k < l.length
    · obtain ⟨b, off, cap', au, cu, e1, hbB, c0, c1, hs1, hu, hroom⟩ := atom_at2 (HR.out wr (below_then HB1.out hbw)) hlt
      injection e1 with e1 e2 e3
      subst e1 e3
      have p1 : (0 : Int) ≤ (k : Int) := by omega
      have p2 : (k : Int) < (l.length : Int) := by omega
      have hbit := bit_at ht k
      have p3 : (k : Int) ≤ 64 := by omega
      have p4 : ((k : Int)).toNat = k := by omega
      have HRU := Lib.hid hu
      have HLT := Lib.hid hlt
      have hAl := below_alloc wr (.cells #[.string l[k].1, .slice au l[k].2.length cu] 130 (0, 0))
      have HB2 := Lib.hid (below_then HBW.out hAl)
      have HA4 := Lib.hid (H4.out _ (List.getElem_mem hlt))
      clear hu hbw
      by_cases hx : t / 2 ^ k % 2 = 1
      · have HNX := Lib.hid (show bs (selV l t (k + 1)) = bs (selV l t k) ||| bs l[k].2 by rw [selV_yes hlt hx, bs_app]; rfl)
        have hor := or_nat (bs_lt (selV_in4 H4.out t k hk)) (bs_lt HA4.out)
        have HBS := Lib.hid (bit_set (.slice au l[k].2.length cu) l[k].2 _ _ (row_ri (Cd.later HRU.out hAl)).1 HA4.out)
        rw [hx] at hbit
        clear hx hAl
        generalize bs (selV l t k) = s at *
        generalize bs l[k].2 = s2 at *
        go_wp2_with fail
        refine HBS.out.mono ?_
        rintro e w3 ⟨rfl, rfl⟩
        go_wp2_with fail
        go_roundw
        case rel => exact ⟨k + 1, by have := HLT.out; omega, by go_num, by rw [HNX.out], HB2.out⟩
        case measure => have := HLT.out; simp [intOf]; omega
      · have HNX := Lib.hid (show bs (selV l t (k + 1)) = bs (selV l t k) by rw [selV_no hx])
        have hz : t / 2 ^ k % 2 = 0 := by omega
        rw [hz] at hbit
        clear hx hz hAl
        generalize bs (selV l t k) = s at *
        go_wp2_with fail
        go_roundw
        case rel => exact ⟨k + 1, by have := HLT.out; omega, by go_num, by rw [HNX.out], HB2.out⟩
        case measure => have := HLT.out; simp [intOf]; omega
    · have ek : k = l.length := by omega
      subst ek
      clear hbw
      go_wp2_with fail
      go_ret
      exact ⟨rfl, below_then HB1.out HBW.out⟩
end Go.Proofs.Ytklamhnecncenaa.QryImp
