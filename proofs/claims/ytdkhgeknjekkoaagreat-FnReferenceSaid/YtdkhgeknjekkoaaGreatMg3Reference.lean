/- Texts that the proof rests on, one behind the other. -/
import Derived.Test.YtdkhgeknjekkoaaGreatMg2Reference
import Derived.Test.YtdkhgeknjekkoaaGreatMkTable
import Derived.Test.YtdkhgeknjekkoaaGreatTabCopy
import Derived.Test.YtdkhgeknjekkoaaGreatTabSpec2
import Derived.Test.YtdkhgeknjekkoaaGreatTabElem
import Derived.Test.YtdkhgeknjekkoaaGreatTabSpec

namespace Go.Proofs.YtdkhgeknjekkoaaGreat.QgSpec
open Go Go.RowKit Byt Ints IntsLaw Cd Rows2 Tab TabSpec Exact Atom QryMath QrySpec QryImp MkAtom SlMath QgMath

def Kp (w w' : World) : Prop := Below w.heap.size w w'
theorem kp_drew {w w' : World} (h : Kp w w') : Kp w w'.drew := Below.drew h
theorem bd_drew (w : World) : Below w.heap.size w w.drew := ⟨rfl, rfl, rfl, Nat.le_refl _, fun _ _ => rfl⟩
theorem pow_w {k : Nat} (h : k ≤ 4) : IntKind.i64.wrap (2 ^ k) = 2 ^ k := (pow_len h).1
theorem or_pow {x k : Nat} (hx : x < 16) (hk : k < 4) : bits .or .i64 (x : Int) (2 ^ k) = ((x ||| 2 ^ k : Nat) : Int) := by
  have h : 2 ^ k < 16 := by
    have : 2 ^ k < 2 ^ 4 := Nat.pow_lt_pow_right (by decide) hk
    omega
  rw [pow_cast, or_nat hx h]
theorem or_lt {x y : Nat} (hx : x < 16) (hy : y < 16) : x ||| y < 16 := Nat.or_lt_two_pow (n := 4) hx hy
theorem and_lt {x : Nat} (y : Nat) (hx : x < 16) : x &&& y < 16 := Nat.lt_of_le_of_lt Nat.and_le_left hx
theorem sel_lt {l : List A2} (h : ∀ A ∈ l, In4 A.2) (t : Nat) : bs (selV l t l.length) < 16 := bs_lt (selV_in4 h t _ (Nat.le_refl _))
set_option maxRecDepth 100000 in
theorem spec_full (n : Int) (u : Value) (l : List A2) (S : Nat → Prop) (w : World) (hr : atomsC.rd w S [u] l) :
    Calls Tryz.prog 25 #[.agg #[.int .i64 n, u]] w fun e w' => e = .returned (.int .i64 (fm n l : Int)) ∧ Below w.heap.size w w' := by
  have HV := Lib.hid (fun w' (hb : Below w.heap.size w w') => spec_valid n u l S w' (Cd.later hr hb))
  obtain ⟨a, cap, rfl, hlm⟩ := Cd.sl_form hr
  clear hr
  have HC := Lib.hid (Loc2.of (row_alloc w (.cells #[.int .i64 n, .slice a l.length cap] 29)))
  have HB := Lib.hid (below_alloc w (.cells #[.int .i64 n, .slice a l.length cap] 29))
  cases hq : qOk n l
  · have HZ := Lib.hid (show (0 : Int) = ((fm n l : Nat) : Int) by rw [fm_no hq]; rfl)
    rw [hq] at HV
    clear hq
    go_enter Tryz.func25, Tryz.ntmps25
    go_wp2_with fail
    generalize w.alloc _ = W at *
    refine (HV.out _ HB.out).mono ?_
    rintro e w1 ⟨rfl, hb1⟩
    have HB1 := Lib.hid (below_then HB.out hb1)
    clear hb1
    go_wp2_with fail
    go_ret
    exact ⟨ret_int HZ.out, HB1.out⟩
  rw [hq] at HV
  have h4 := (qOk_iff.1 hq).2.2.2.1
  have hpw := pow_len h4
  have HZ := Lib.hid (show (2 : Int) ^ l.length - 1 = ((fm n l : Nat) : Int) by
    rw [fm_yes hq, pow_cast]
    have := Nat.two_pow_pos l.length
    omega)
  have q1 := hpw.1
  have q2 := hpw.2.1
  have q3 := hpw.2.2
  have q4 : IntKind.i64.wrap (2 ^ l.length - 1) = 2 ^ l.length - 1 := by rw [IntKind.wrap_i64]; omega
  have q5 : (l.length : Int) ≤ 64 := by omega
  have q6 : ((l.length : Int)).toNat = l.length := by omega
  clear hq hpw h4
  go_enter Tryz.func25, Tryz.ntmps25
  go_wp2_with fail
  generalize w.alloc _ = W at *
  refine (HV.out _ HB.out).mono ?_
  rintro e w1 ⟨rfl, hb1⟩
  have HB1 := Lib.hid (below_then HB.out hb1)
  have c0 := (HC.out.later hb1).c0
  have c1 := (HC.out.later hb1).c1
  clear hb1
  go_wp2_with fail
  go_ret
  exact ⟨ret_int HZ.out, HB1.out⟩
set_option maxRecDepth 100000 in
set_option maxHeartbeats 1600000 in
theorem spec_maskatoms (m : Int) (w : World) :
    Calls Tryz.prog 18 #[.int .i64 m] w fun e w' => ∃ v' fp, e = .returned v' ∧ rowC.ow w' w.heap.size [v'] (maL m) fp ∧ fp.Nodup ∧ Below w.heap.size w w' := by
  have HW := Lib.hid (And.intro (Ints.OwnI.empty w w.heap.size 3 (Nat.le_refl _)) (below_alloc w (.cells #[] 3)))
  by_cases hm : 0 ≤ m ∧ m < 16
  case neg =>
    have HZ := Lib.hid (show maL m = [] from if_neg hm)
    have HI := Lib.hid (fun w => Fixed.l1In_no (x := m) (a := 0) (b := 15) (by omega) w)
    clear hm
    go_enter Tryz.func18, Tryz.ntmps18
    go_wp2_with fail
    go_loopw [3, 4] (fun o i wr => i = .int .i64 0 ∧ OwnI wr w.heap.size 3 o [] ∧ Below w.heap.size w wr) (fun _ _ _ => 0)
    case atStart => exact ⟨rfl, HW.out.1, HW.out.2⟩
    case round =>
      obtain ⟨rfl, hown, hb⟩ := hrel
      have HO := Lib.hid hown
      have HB := Lib.hid hb
      clear hown hb
      go_wp2_with (go_at_call 51; refine (HI.out _).mono ?_; rintro e w1 ⟨rfl, rfl⟩)
      go_ret
      exact ⟨_, _, rfl, by rw [HZ.out]; exact Cd.ow_of_own HO.out (fun x hx => by cases hx), Cd.own_nodup, HB.out⟩
  obtain ⟨s, rfl⟩ : ∃ s : Nat, m = (s : Int) := ⟨m.toNat, by omega⟩
  have hs : s < 16 := by omega
  have HZ := Lib.hid (show maL (s : Int) = varsL s by unfold maL; rw [if_pos hm, Int.toNat_natCast])
  have HI := Lib.hid (fun w => Fixed.l1In_yes (x := (s : Int)) (a := 0) (b := 15) (by omega) (by omega) w)
  clear hm
  go_enter Tryz.func18, Tryz.ntmps18
  go_wp2_with fail
  go_loopw [3, 4] (fun o i wr => ∃ (k : Nat), k ≤ 4 ∧ i = .int .i64 k ∧ OwnI wr w.heap.size 3 o (varsTo s k) ∧ Below w.heap.size w wr) (fun _ i _ => 4 - (intOf i).toNat)
  case atStart => exact ⟨0, Nat.zero_le _, rfl, HW.out.1, HW.out.2⟩
  case round =>
    obtain ⟨k, hk, rfl, hown, hb⟩ := hrel
    have HB := Lib.hid hb
    have hbs := hb.size
    by_cases hlt : k < 4
    · have hbit := bit_at hs k
      have p1 : (0 : Int) ≤ (k : Int) := by omega
      have p2 : (k : Int) < 4 := by omega
      have p3 : (k : Int) ≤ 64 := by omega
      have p4 : ((k : Int)).toNat = k := by omega
      have hlen : (varsTo s k).length + 1 ≤ 1000000000000 := by have := varsTo_len s k; omega
      by_cases hx : s / 2 ^ k % 2 = 1
      · have HNX := Lib.hid (varsTo_yes hx)
        rw [hx] at hbit
        clear hx hb
        generalize varsTo s k = out at *
        go_wp2_with (first | (go_at_call 51; refine (HI.out _).mono ?_; rintro e w1 ⟨rfl, rfl⟩) | (at_builtin; refine wp_appendI rfl (.tmp 19) (.tmp 21) 32 rfl w.heap.size 3 Tryz.underlying32 info_i64 _ _ rfl hown _ rfl hlen hbs ?_))
        intro v' w5 hown5 hb5
        go_wp2_with fail
        go_roundw
        case rel => exact ⟨k + 1, by omega, by go_num, by rw [HNX.out]; exact hown5, HB.out.trans hb5⟩
        case measure => simp [intOf]; omega
      · have HNX := Lib.hid (varsTo_no hx)
        have hz : s / 2 ^ k % 2 = 0 := by omega
        rw [hz] at hbit
        clear hx hb hz
        go_wp2_with (go_at_call 51; refine (HI.out _).mono ?_; rintro e w1 ⟨rfl, rfl⟩)
        go_roundw
        case rel => exact ⟨k + 1, by omega, by go_num, by rw [HNX.out]; exact hown, HB.out⟩
        case measure => simp [intOf]; omega
    · have ek : k = 4 := by omega
      subst ek
      have HO := Lib.hid hown
      clear hown hb
      go_wp2_with fail
      go_ret
      exact ⟨_, _, rfl, by rw [HZ.out]; exact Cd.ow_of_own HO.out (inr_varsTo s 4 (by decide)), Cd.own_nodup, HB.out⟩
set_option maxRecDepth 100000 in
set_option maxHeartbeats 3200000 in
theorem spec_near (n : Int) (t : Nat) (u : Value) (l : List A2) (S : Nat → Prop) (w : World) (hr : atomsC.rd w S [u] l) (ht : t < 16) (hl4 : l.length ≤ 4) (h4 : ∀ A ∈ l, In4 A.2) (h3 : ∀ A ∈ l, A.2.length ≤ 3) :
    Calls Tryz.prog 146 #[.agg #[.int .i64 n, u], .int .i64 (t : Int)] w fun e w' => e = .returned (.int .i64 (near (gr l) t : Int)) ∧ Below w.heap.size w w' := by
  have HBT := Lib.hid (fun w' (hb : Below w.heap.size w w') => spec_bits n t u l S w' (Cd.later hr hb) ht hl4 h4 h3)
  have HBK := Lib.hid (fun (k : Nat) (hk : k < l.length) w' (hb : Below w.heap.size w w') => spec_bits n (2 ^ k) u l S w' (Cd.later hr hb) (by have : 2 ^ k < 2 ^ 4 := Nat.pow_lt_pow_right (by decide) (by omega); omega) hl4 h4 h3)
  obtain ⟨a, cap, rfl, hlm⟩ := Cd.sl_form hr
  have HS16 := Lib.hid (sel_lt h4 t)
  have HV16 := Lib.hid (fun i => V_lt h4 i)
  have HGL := Lib.hid (gr_lt l)
  have HEND := Lib.hid (near_len hl4 t)
  have HSA := Lib.hid (fun (k : Nat) (hk : k < 4) (h0 : t / 2 ^ k % 2 = 0) => sel_and hl4 hk h0)
  have HNT := Lib.hid (fun k (hk : k ≤ 4) => nearTo_lt _ (gr_lt l) t ht k hk)
  have HL4 := Lib.hid hl4
  clear hr h4 h3
  have HC := Lib.hid (Loc2.of (row_alloc w (.cells #[.int .i64 n, .slice a l.length cap] 29)))
  have HB := Lib.hid (below_alloc w (.cells #[.int .i64 n, .slice a l.length cap] 29))
  generalize gr l = G at *
  go_enter Tryz.func146, Tryz.ntmps146
  go_wp2_with fail
  generalize w.alloc _ = W at *
  refine (HBT.out _ HB.out).mono ?_
  rintro e w1 ⟨rfl, hb1⟩
  have HB1 := Lib.hid (below_then HB.out hb1)
  have HC1 := Lib.hid (HC.out.later hb1)
  clear hb1
  generalize bs (selV l t l.length) = s at *
  go_wp2_with fail
  go_loopw [5, 7] (fun x i wr => ∃ k : Nat, k ≤ l.length ∧ i = .int .i64 k ∧ x = .int .i64 (nearTo G t k : Int) ∧ Below w1.heap.size w1 wr) (fun _ i _ => l.length - (intOf i).toNat)
  case atStart => exact ⟨0, Nat.zero_le _, rfl, rfl, Below.refl _ _⟩
  case round =>
    obtain ⟨k, hk, rfl, rfl, hbw⟩ := hrel
    have HBW := Lib.hid hbw
    have HLQ := Lib.hid (HC1.out.later hbw)
    have c0 := HLQ.out.c0
    have c1 := HLQ.out.c1
    have HKP := Lib.hid (show Below w.heap.size w wr from below_then HB1.out hbw)
    by_cases hlt : k < l.length
    · have hk4 : k < 4 := by have := HL4.out; omega
      have p1 : (0 : Int) ≤ (k : Int) := by omega
      have p2 : (k : Int) < (l.length : Int) := by omega
      have p3 : (k : Int) ≤ 64 := by omega
      have p4 : ((k : Int)).toNat = k := by omega
      have hbit := bit_at ht k
      have HLT := Lib.hid hlt
      have hpw := pow_w (show k ≤ 4 by omega)
      have HX16 := Lib.hid (HNT.out k (by omega))
      have kk : Kp w wr.drew := kp_drew (show Kp w wr from HKP.out)
      by_cases hx : t / 2 ^ k % 2 = 0
      · have HCK := Lib.hid (fun w' (hb : Below w.heap.size w w') => (HBK.out k hlt w' hb))
        have e1 : bs (selV l (2 ^ k) l.length) = V l k := sel_one_in HL4.out hlt
        rw [e1] at HCK
        have e2 : (((2 ^ k : Nat)) : Int) = (2 : Int) ^ k := (pow_cast k).symm
        rw [e2] at HCK
        have hand := and_nat (HV16.out k) HS16.out
        have hsa := HSA.out k hk4 hx
        have HNXT := Lib.hid (show nearTo G t (k + 1) = if nx G t k then nearTo G t k ||| 2 ^ k else nearTo G t k from rfl)
        have HNX0 := Lib.hid (show nx G t k = anyA G t k by unfold nx; rw [hx]; rfl)
        have hor := or_pow HX16.out hk4
        rw [hx] at hbit
        generalize nearTo G t k = x at *
        generalize V l k = v at *
        clear hx hbw e1 e2 hk4 hlt
        cases hany : anyA G t k
        · rw [hany] at hsa HNX0
          have hz : v &&& s = 0 := by simpa using hsa
          rw [hz] at hand
          have HNX := Lib.hid (show nearTo G t (k + 1) = x by rw [HNXT.out, HNX0.out]; rfl)
          clear hz hsa hany hor HNXT HNX0
          go_wp2_with fail
          refine wp_region_held_drew (S := fun wx => wx.cell? ⟨w.heap.size, 0, none⟩ = some (.int .i64 n) ∧ wx.cell? ⟨w.heap.size, 1, none⟩ = some (.slice a l.length cap) ∧ Kp w wx) (by kernel_rfl) ?_ (fun hHeld => ?_)
          · (refine ⟨?_, ?_, ?_⟩ <;> first | assumption | (simp [*]; done))
          refine RegH.takeH (i := 0) (v := ?_) rfl (by kernel_rfl) (by kernel_rfl) (by kernel_rfl) (fun _ _ _ h => h) (Or.inl ⟨by rfl, ?_⟩) (by assumption) ?_
          rotate_left
          · (intro wS hSw; (try dsimp only at hSw); go_simp; try (with_reducible rfl))
          try simp only [Act.put, List.setIfInBounds_toArray, List.set_cons_zero, List.set_cons_succ]
          refine RegH.takeH (i := 1) (v := ?_) rfl (by kernel_rfl) (by kernel_rfl) (by kernel_rfl) (fun _ _ _ h => h) (Or.inl ⟨by rfl, ?_⟩) (by assumption) ?_
          rotate_left
          · (intro wS hSw; (try dsimp only at hSw); go_simp; try (with_reducible rfl))
          try simp only [Act.put, List.setIfInBounds_toArray, List.set_cons_zero, List.set_cons_succ]
          refine RegH.takeH (i := 2) (v := ?_) rfl (by kernel_rfl) (by kernel_rfl) (by kernel_rfl) (fun _ _ _ h => h) (Or.inl ⟨by rfl, ?_⟩) (by assumption) ?_
          rotate_left
          · (intro wS hSw; (try dsimp only at hSw); go_simp; try (with_reducible rfl))
          try simp only [Act.put, List.setIfInBounds_toArray, List.set_cons_zero, List.set_cons_succ]
          refine RegH.takeH (i := 3) (v := ?_) rfl (by kernel_rfl) (by kernel_rfl) (by kernel_rfl) (fun _ _ _ h => h) (Or.inl ⟨by rfl, ?_⟩) (by assumption) ?_
          rotate_left
          · (intro wS hSw; (try dsimp only at hSw); go_simp; try (with_reducible rfl))
          try simp only [Act.put, List.setIfInBounds_toArray, List.set_cons_zero, List.set_cons_succ]
          refine RegH.takeH (i := 4) (v := ?_) rfl (by kernel_rfl) (by kernel_rfl) (by kernel_rfl) (fun _ _ _ h => h) (Or.inl ⟨by rfl, ?_⟩) (by assumption) ?_
          rotate_left
          · (intro wS hSw; (try dsimp only at hSw); go_simp; try (with_reducible rfl))
          try simp only [Act.put, List.setIfInBounds_toArray, List.set_cons_zero, List.set_cons_succ]
          refine RegH.takeH (i := 5) (v := ?_) rfl (by kernel_rfl) (by kernel_rfl) (by kernel_rfl) (fun _ _ _ h => h) (Or.inl ⟨by rfl, ?_⟩) (by assumption) ?_
          rotate_left
          · (intro wS hSw; (try dsimp only at hSw); go_simp; try (with_reducible rfl))
          try simp only [Act.put, List.setIfInBounds_toArray, List.set_cons_zero, List.set_cons_succ]
          refine RegH.takeH (i := 6) (v := ?_) rfl (by kernel_rfl) (by kernel_rfl) (by kernel_rfl) (fun _ _ _ h => h) (Or.inl ⟨by rfl, ?_⟩) (by assumption) ?_
          rotate_left
          · (intro wS hSw; (try dsimp only at hSw); go_simp; try (with_reducible rfl))
          try simp only [Act.put, List.setIfInBounds_toArray, List.set_cons_zero, List.set_cons_succ]
          refine RegH.takeH (i := 7) (v := ?_) rfl (by kernel_rfl) (by kernel_rfl) (by kernel_rfl) (fun _ _ _ h => h) (Or.inl ⟨by rfl, ?_⟩) (by assumption) ?_
          rotate_left
          · (intro wS hSw; (try dsimp only at hSw); go_simp; try (with_reducible rfl))
          try simp only [Act.put, List.setIfInBounds_toArray, List.set_cons_zero, List.set_cons_succ]
          refine RegH.takeH (i := 8) (v := ?_) rfl (by kernel_rfl) (by kernel_rfl) (by kernel_rfl) (fun _ _ _ h => h) (Or.inl ⟨by rfl, ?_⟩) (by assumption) ?_
          rotate_left
          · (intro wS hSw; (try dsimp only at hSw); go_simp; try (with_reducible rfl))
          try simp only [Act.put, List.setIfInBounds_toArray, List.set_cons_zero, List.set_cons_succ]
          refine RegH.takeH (i := 10) (v := ?_) rfl (by kernel_rfl) (by kernel_rfl) (by kernel_rfl) (fun _ _ _ h => h) (Or.inl ⟨by rfl, ?_⟩) (by assumption) ?_
          rotate_left
          · (intro wS hSw; (try dsimp only at hSw); go_simp; try (with_reducible rfl))
          try simp only [Act.put, List.setIfInBounds_toArray, List.set_cons_zero, List.set_cons_succ]
          refine RegH.consH (i := 9) rfl (by kernel_rfl) (fun K hK => ?_)
          go_simp
          go_at_call 101
          refine (HCK.out _ (show Below w.heap.size w wr.drew from kk)).mono ?_
          rintro e wq ⟨rfl, hbq⟩
          have kq : Kp w wq := below_then (show Below w.heap.size w wr.drew from kk) hbq
          have HBQ := Lib.hid (below_then (bd_drew wr) hbq)
          have n0 := (HLQ.out.later HBQ.out).c0
          have n1 := (HLQ.out.later HBQ.out).c1
          clear hbq
          go_wp2_with fail
          refine hK.out _ _ ?_ (fun hHeld => ?_)
          · (refine ⟨?_, ?_, ?_⟩ <;> first | assumption | (simp [*]; done))
          clear hK K
          try simp only [Act.put, List.setIfInBounds_toArray, List.set_cons_zero, List.set_cons_succ]
          refine RegH.takeH (i := 11) (v := ?_) rfl (by kernel_rfl) (by kernel_rfl) (by kernel_rfl) (fun _ _ _ h => h) (Or.inl ⟨by rfl, ?_⟩) (by assumption) ?_
          rotate_left
          · (intro wS hSw; (try dsimp only at hSw); go_simp; try (with_reducible rfl))
          try simp only [Act.put, List.setIfInBounds_toArray, List.set_cons_zero, List.set_cons_succ]
          refine RegH.takeH (i := 12) (v := ?_) rfl (by kernel_rfl) (by kernel_rfl) (by kernel_rfl) (fun _ _ _ h => h) (Or.inl ⟨by rfl, ?_⟩) (by assumption) ?_
          rotate_left
          · (intro wS hSw; (try dsimp only at hSw); go_simp; try (with_reducible rfl))
          try simp only [Act.put, List.setIfInBounds_toArray, List.set_cons_zero, List.set_cons_succ]
          refine RegH.takeH (i := 13) (v := ?_) rfl (by kernel_rfl) (by kernel_rfl) (by kernel_rfl) (fun _ _ _ h => h) (Or.inl ⟨by rfl, ?_⟩) (by assumption) ?_
          rotate_left
          · (intro wS hSw; (try dsimp only at hSw); go_simp; try (with_reducible rfl))
          try simp only [Act.put, List.setIfInBounds_toArray, List.set_cons_zero, List.set_cons_succ]
          refine wpAnyH_done (by kernel_rfl) ?_ _
          go_wp2_with fail
          go_roundw
          case rel => exact ⟨k + 1, HLT.out, by go_num, by rw [HNX.out], below_then HBW.out HBQ.out⟩
          case measure => have := HLT.out; simp [intOf]; omega
        · rw [hany] at hsa HNX0
          have hz : ¬ (v &&& s = 0) := by simpa using hsa
          have HNX := Lib.hid (show nearTo G t (k + 1) = x ||| 2 ^ k by rw [HNXT.out, HNX0.out]; rfl)
          have hz2 : (((v &&& s : Nat) : Int) == 0) = false := by rw [beq_eq_false_iff_ne]; omega
          have hz3 : ¬ (((v &&& s : Nat) : Int) = 0) := by omega
          clear hsa hany HNXT HNX0
          generalize v &&& s = z at *
          go_wp2_with fail
          refine wp_region_held_drew (S := fun wx => wx.cell? ⟨w.heap.size, 0, none⟩ = some (.int .i64 n) ∧ wx.cell? ⟨w.heap.size, 1, none⟩ = some (.slice a l.length cap) ∧ Kp w wx) (by kernel_rfl) ?_ (fun hHeld => ?_)
          · (refine ⟨?_, ?_, ?_⟩ <;> first | assumption | (simp [*]; done))
          refine RegH.takeH (i := 0) (v := ?_) rfl (by kernel_rfl) (by kernel_rfl) (by kernel_rfl) (fun _ _ _ h => h) (Or.inl ⟨by rfl, ?_⟩) (by assumption) ?_
          rotate_left
          · (intro wS hSw; (try dsimp only at hSw); go_simp; try (with_reducible rfl))
          try simp only [Act.put, List.setIfInBounds_toArray, List.set_cons_zero, List.set_cons_succ]
          refine RegH.takeH (i := 1) (v := ?_) rfl (by kernel_rfl) (by kernel_rfl) (by kernel_rfl) (fun _ _ _ h => h) (Or.inl ⟨by rfl, ?_⟩) (by assumption) ?_
          rotate_left
          · (intro wS hSw; (try dsimp only at hSw); go_simp; try (with_reducible rfl))
          try simp only [Act.put, List.setIfInBounds_toArray, List.set_cons_zero, List.set_cons_succ]
          refine RegH.takeH (i := 2) (v := ?_) rfl (by kernel_rfl) (by kernel_rfl) (by kernel_rfl) (fun _ _ _ h => h) (Or.inl ⟨by rfl, ?_⟩) (by assumption) ?_
          rotate_left
          · (intro wS hSw; (try dsimp only at hSw); go_simp; try (with_reducible rfl))
          try simp only [Act.put, List.setIfInBounds_toArray, List.set_cons_zero, List.set_cons_succ]
          refine RegH.takeH (i := 3) (v := ?_) rfl (by kernel_rfl) (by kernel_rfl) (by kernel_rfl) (fun _ _ _ h => h) (Or.inl ⟨by rfl, ?_⟩) (by assumption) ?_
          rotate_left
          · (intro wS hSw; (try dsimp only at hSw); go_simp; try (with_reducible rfl))
          try simp only [Act.put, List.setIfInBounds_toArray, List.set_cons_zero, List.set_cons_succ]
          refine RegH.takeH (i := 4) (v := ?_) rfl (by kernel_rfl) (by kernel_rfl) (by kernel_rfl) (fun _ _ _ h => h) (Or.inl ⟨by rfl, ?_⟩) (by assumption) ?_
          rotate_left
          · (intro wS hSw; (try dsimp only at hSw); go_simp; try (with_reducible rfl))
          try simp only [Act.put, List.setIfInBounds_toArray, List.set_cons_zero, List.set_cons_succ]
          refine RegH.takeH (i := 5) (v := ?_) rfl (by kernel_rfl) (by kernel_rfl) (by kernel_rfl) (fun _ _ _ h => h) (Or.inl ⟨by rfl, ?_⟩) (by assumption) ?_
          rotate_left
          · (intro wS hSw; (try dsimp only at hSw); go_simp; try (with_reducible rfl))
          try simp only [Act.put, List.setIfInBounds_toArray, List.set_cons_zero, List.set_cons_succ]
          refine RegH.takeH (i := 6) (v := ?_) rfl (by kernel_rfl) (by kernel_rfl) (by kernel_rfl) (fun _ _ _ h => h) (Or.inl ⟨by rfl, ?_⟩) (by assumption) ?_
          rotate_left
          · (intro wS hSw; (try dsimp only at hSw); go_simp; try (with_reducible rfl))
          try simp only [Act.put, List.setIfInBounds_toArray, List.set_cons_zero, List.set_cons_succ]
          refine RegH.takeH (i := 7) (v := ?_) rfl (by kernel_rfl) (by kernel_rfl) (by kernel_rfl) (fun _ _ _ h => h) (Or.inl ⟨by rfl, ?_⟩) (by assumption) ?_
          rotate_left
          · (intro wS hSw; (try dsimp only at hSw); go_simp; try (with_reducible rfl))
          try simp only [Act.put, List.setIfInBounds_toArray, List.set_cons_zero, List.set_cons_succ]
          refine RegH.takeH (i := 8) (v := ?_) rfl (by kernel_rfl) (by kernel_rfl) (by kernel_rfl) (fun _ _ _ h => h) (Or.inl ⟨by rfl, ?_⟩) (by assumption) ?_
          rotate_left
          · (intro wS hSw; (try dsimp only at hSw); go_simp; try (with_reducible rfl))
          try simp only [Act.put, List.setIfInBounds_toArray, List.set_cons_zero, List.set_cons_succ]
          refine RegH.takeH (i := 10) (v := ?_) rfl (by kernel_rfl) (by kernel_rfl) (by kernel_rfl) (fun _ _ _ h => h) (Or.inl ⟨by rfl, ?_⟩) (by assumption) ?_
          rotate_left
          · (intro wS hSw; (try dsimp only at hSw); go_simp; try (with_reducible rfl))
          try simp only [Act.put, List.setIfInBounds_toArray, List.set_cons_zero, List.set_cons_succ]
          refine RegH.consH (i := 9) rfl (by kernel_rfl) (fun K hK => ?_)
          go_simp
          go_at_call 101
          refine (HCK.out _ (show Below w.heap.size w wr.drew from kk)).mono ?_
          rintro e wq ⟨rfl, hbq⟩
          have kq : Kp w wq := below_then (show Below w.heap.size w wr.drew from kk) hbq
          have HBQ := Lib.hid (below_then (bd_drew wr) hbq)
          have n0 := (HLQ.out.later HBQ.out).c0
          have n1 := (HLQ.out.later HBQ.out).c1
          clear hbq
          go_wp2_with fail
          refine hK.out _ _ ?_ (fun hHeld => ?_)
          · (refine ⟨?_, ?_, ?_⟩ <;> first | assumption | (simp [*]; done))
          clear hK K
          try simp only [Act.put, List.setIfInBounds_toArray, List.set_cons_zero, List.set_cons_succ]
          refine RegH.takeH (i := 11) (v := ?_) rfl (by kernel_rfl) (by kernel_rfl) (by kernel_rfl) (fun _ _ _ h => h) (Or.inl ⟨by rfl, ?_⟩) (by assumption) ?_
          rotate_left
          · (intro wS hSw; (try dsimp only at hSw); go_simp; try (with_reducible rfl))
          try simp only [Act.put, List.setIfInBounds_toArray, List.set_cons_zero, List.set_cons_succ]
          refine RegH.takeH (i := 12) (v := ?_) rfl (by kernel_rfl) (by kernel_rfl) (by kernel_rfl) (fun _ _ _ h => h) (Or.inl ⟨by rfl, ?_⟩) (by assumption) ?_
          rotate_left
          · (intro wS hSw; (try dsimp only at hSw); go_simp; try (with_reducible rfl))
          try simp only [Act.put, List.setIfInBounds_toArray, List.set_cons_zero, List.set_cons_succ]
          refine RegH.takeH (i := 13) (v := ?_) rfl (by kernel_rfl) (by kernel_rfl) (by kernel_rfl) (fun _ _ _ h => h) (Or.inl ⟨by rfl, ?_⟩) (by assumption) ?_
          rotate_left
          · (intro wS hSw; (try dsimp only at hSw); go_simp; try (with_reducible rfl))
          try simp only [Act.put, List.setIfInBounds_toArray, List.set_cons_zero, List.set_cons_succ]
          refine wpAnyH_done (by kernel_rfl) ?_ _
          go_wp2_with fail
          go_roundw
          case rel => exact ⟨k + 1, HLT.out, by go_num, by rw [HNX.out], below_then HBW.out HBQ.out⟩
          case measure => have := HLT.out; simp [intOf]; omega
      · have hx1 : t / 2 ^ k % 2 = 1 := by omega
        have HNX := Lib.hid (show nearTo G t (k + 1) = nearTo G t k by
          rw [nearTo]
          have : nx G t k = false := by unfold nx; rw [hx1]; rfl
          rw [this]
          rfl)
        rw [hx1] at hbit
        generalize nearTo G t k = x at *
        clear hx hx1 hbw hk4 hlt
        go_wp2_with fail
        refine wp_region_held_drew (S := fun wx => wx.cell? ⟨w.heap.size, 0, none⟩ = some (.int .i64 n) ∧ wx.cell? ⟨w.heap.size, 1, none⟩ = some (.slice a l.length cap) ∧ Kp w wx) (by kernel_rfl) ?_ (fun hHeld => ?_)
        · (refine ⟨?_, ?_, ?_⟩ <;> first | assumption | (simp [*]; done))
        refine RegH.takeH (i := 0) (v := ?_) rfl (by kernel_rfl) (by kernel_rfl) (by kernel_rfl) (fun _ _ _ h => h) (Or.inl ⟨by rfl, ?_⟩) (by assumption) ?_
        rotate_left
        · (intro wS hSw; (try dsimp only at hSw); go_simp; try (with_reducible rfl))
        try simp only [Act.put, List.setIfInBounds_toArray, List.set_cons_zero, List.set_cons_succ]
        refine RegH.takeH (i := 1) (v := ?_) rfl (by kernel_rfl) (by kernel_rfl) (by kernel_rfl) (fun _ _ _ h => h) (Or.inl ⟨by rfl, ?_⟩) (by assumption) ?_
        rotate_left
        · (intro wS hSw; (try dsimp only at hSw); go_simp; try (with_reducible rfl))
        try simp only [Act.put, List.setIfInBounds_toArray, List.set_cons_zero, List.set_cons_succ]
        refine RegH.takeH (i := 2) (v := ?_) rfl (by kernel_rfl) (by kernel_rfl) (by kernel_rfl) (fun _ _ _ h => h) (Or.inl ⟨by rfl, ?_⟩) (by assumption) ?_
        rotate_left
        · (intro wS hSw; (try dsimp only at hSw); go_simp; try (with_reducible rfl))
        try simp only [Act.put, List.setIfInBounds_toArray, List.set_cons_zero, List.set_cons_succ]
        refine RegH.takeH (i := 3) (v := ?_) rfl (by kernel_rfl) (by kernel_rfl) (by kernel_rfl) (fun _ _ _ h => h) (Or.inl ⟨by rfl, ?_⟩) (by assumption) ?_
        rotate_left
        · (intro wS hSw; (try dsimp only at hSw); go_simp; try (with_reducible rfl))
        try simp only [Act.put, List.setIfInBounds_toArray, List.set_cons_zero, List.set_cons_succ]
        refine RegH.takeH (i := 4) (v := ?_) rfl (by kernel_rfl) (by kernel_rfl) (by kernel_rfl) (fun _ _ _ h => h) (Or.inl ⟨by rfl, ?_⟩) (by assumption) ?_
        rotate_left
        · (intro wS hSw; (try dsimp only at hSw); go_simp; try (with_reducible rfl))
        try simp only [Act.put, List.setIfInBounds_toArray, List.set_cons_zero, List.set_cons_succ]
        refine RegH.takeH (i := 5) (v := ?_) rfl (by kernel_rfl) (by kernel_rfl) (by kernel_rfl) (fun _ _ _ h => h) (Or.inl ⟨by rfl, ?_⟩) (by assumption) ?_
        rotate_left
        · (intro wS hSw; (try dsimp only at hSw); go_simp; try (with_reducible rfl))
        try simp only [Act.put, List.setIfInBounds_toArray, List.set_cons_zero, List.set_cons_succ]
        refine RegH.takeH (i := 6) rfl (by kernel_rfl) (by kernel_rfl) (by kernel_rfl) (fun _ _ _ h => h) (Or.inr ⟨by rfl, rfl⟩) (by assumption) ?_
        try simp only [Act.put, List.setIfInBounds_toArray, List.set_cons_zero, List.set_cons_succ]
        refine RegH.takeH (i := 7) rfl (by kernel_rfl) (by kernel_rfl) (by kernel_rfl) (fun _ _ _ h => h) (Or.inr ⟨by rfl, rfl⟩) (by assumption) ?_
        try simp only [Act.put, List.setIfInBounds_toArray, List.set_cons_zero, List.set_cons_succ]
        refine RegH.takeH (i := 8) rfl (by kernel_rfl) (by kernel_rfl) (by kernel_rfl) (fun _ _ _ h => h) (Or.inr ⟨by rfl, rfl⟩) (by assumption) ?_
        try simp only [Act.put, List.setIfInBounds_toArray, List.set_cons_zero, List.set_cons_succ]
        refine RegH.takeH (i := 9) rfl (by kernel_rfl) (by kernel_rfl) (by kernel_rfl) (fun _ _ _ h => h) (Or.inr ⟨by rfl, rfl⟩) (by assumption) ?_
        try simp only [Act.put, List.setIfInBounds_toArray, List.set_cons_zero, List.set_cons_succ]
        refine RegH.takeH (i := 10) rfl (by kernel_rfl) (by kernel_rfl) (by kernel_rfl) (fun _ _ _ h => h) (Or.inr ⟨by rfl, rfl⟩) (by assumption) ?_
        try simp only [Act.put, List.setIfInBounds_toArray, List.set_cons_zero, List.set_cons_succ]
        refine RegH.takeH (i := 11) rfl (by kernel_rfl) (by kernel_rfl) (by kernel_rfl) (fun _ _ _ h => h) (Or.inr ⟨by rfl, rfl⟩) (by assumption) ?_
        try simp only [Act.put, List.setIfInBounds_toArray, List.set_cons_zero, List.set_cons_succ]
        refine RegH.takeH (i := 12) rfl (by kernel_rfl) (by kernel_rfl) (by kernel_rfl) (fun _ _ _ h => h) (Or.inr ⟨by rfl, rfl⟩) (by assumption) ?_
        try simp only [Act.put, List.setIfInBounds_toArray, List.set_cons_zero, List.set_cons_succ]
        refine RegH.takeH (i := 13) (v := ?_) rfl (by kernel_rfl) (by kernel_rfl) (by kernel_rfl) (fun _ _ _ h => h) (Or.inl ⟨by rfl, ?_⟩) (by assumption) ?_
        rotate_left
        · (intro wS hSw; (try dsimp only at hSw); go_simp; try (with_reducible rfl))
        try simp only [Act.put, List.setIfInBounds_toArray, List.set_cons_zero, List.set_cons_succ]
        refine wpAnyH_done (by kernel_rfl) ?_ _
        go_wp2_with fail
        go_roundw
        case rel => exact ⟨k + 1, HLT.out, by go_num, by rw [HNX.out], below_then HBW.out ⟨rfl, rfl, rfl, Nat.le_refl _, fun _ _ => rfl⟩⟩
        case measure => have := HLT.out; simp [intOf]; omega
    · have ek : k = l.length := by omega
      subst ek
      rw [HEND.out]
      clear hbw
      go_wp2_with fail
      go_ret
      exact ⟨rfl, HKP.out⟩
set_option maxRecDepth 100000 in
set_option maxHeartbeats 1600000 in
theorem spec_joined (n : Int) (m : Nat) (u : Value) (l : List A2) (S : Nat → Prop) (w : World) (hr : atomsC.rd w S [u] l) (hq : qOk n l = true) (h1 : 1 ≤ m) (hm : m < 2 ^ l.length) :
    Calls Tryz.prog 115 #[.agg #[.int .i64 n, u], .int .i64 (m : Int)] w fun e w' => e = .returned (.bool (conn (gr l) m)) ∧ Below w.heap.size w w' := by
  have hp := qOk_iff.1 hq
  have hl4 := hp.2.2.2.1
  have h16 : m < 16 := by
    have : 2 ^ l.length ≤ 2 ^ 4 := Nat.pow_le_pow_right (by decide) hl4
    omega
  have HNR := Lib.hid (fun (t : Nat) (ht : t < 16) w' (hb : Below w.heap.size w w') => spec_near n t u l S w' (Cd.later hr hb) ht hl4 hp.in4 (fun A hA => (hp.2.2.2.2.1 A hA).2.2.1))
  obtain ⟨a, cap, rfl, hlm⟩ := Cd.sl_form hr
  have HGL := Lib.hid (gr_lt l)
  have HIT := Lib.hid (fun k (hk : k ≤ 6) => it_lt _ (gr_lt l) m h16 k hk)
  have HZ := Lib.hid (show (((it (gr l) m l.length : Nat) : Int) == (m : Int)) = conn (gr l) m by
    rw [it_len hl4 hm h1]
    unfold conn
    have : (m != 0) = true := by rw [bne_iff_ne]; omega
    rw [this, Bool.true_and, Bool.eq_iff_iff, beq_iff_eq, beq_iff_eq]
    omega)
  have hlow := low_bits m h16
  have HL4 := Lib.hid hl4
  have HM16 := Lib.hid h16
  have hneg : IntKind.i64.wrap (-(m : Int)) = -(m : Int) := by rw [IntKind.wrap_i64]; omega
  clear hr hq hp hm h1
  have HC := Lib.hid (Loc2.of (row_alloc w (.cells #[.int .i64 n, .slice a l.length cap] 29)))
  have HB := Lib.hid (below_alloc w (.cells #[.int .i64 n, .slice a l.length cap] 29))
  generalize gr l = G at *
  go_enter Tryz.func115, Tryz.ntmps115
  go_wp2_with fail
  generalize w.alloc _ = W at *
  clear hlow hneg h16 hl4
  go_loopw [5, 6] (fun x i wr => ∃ k : Nat, k ≤ l.length ∧ i = .int .i64 k ∧ x = .int .i64 (it G m k : Int) ∧ Below W.heap.size W wr) (fun _ i _ => l.length - (intOf i).toNat)
  case atStart => exact ⟨0, Nat.zero_le _, rfl, rfl, Below.refl _ _⟩
  case round =>
    obtain ⟨k, hk, rfl, rfl, hbw⟩ := hrel
    have HBW := Lib.hid hbw
    have HLQ := Lib.hid (HC.out.later hbw)
    have c0 := HLQ.out.c0
    have c1 := HLQ.out.c1
    have HKP := Lib.hid (show Below w.heap.size w wr from below_then HB.out hbw)
    by_cases hlt : k < l.length
    · have HLT := Lib.hid hlt
      have p1 : (0 : Int) ≤ (k : Int) := by omega
      have p2 : (k : Int) < (l.length : Int) := by omega
      have p3 : (l.length : Int) ≤ 4 := by have := HL4.out; omega
      have hx := HIT.out k (by have := HL4.out; omega)
      have HNX := Lib.hid (show it G m (k + 1) = it G m k ||| (near G (it G m k) &&& m) from rfl)
      have hn16 := near_lt G HGL.out _ hx
      have hand := and_nat hn16 HM16.out
      have hor := or_nat hx (and_lt m hn16)
      have HNC := Lib.hid (HNR.out _ hx wr HKP.out)
      clear hbw hx hn16 hlt
      generalize it G m k = x at *
      generalize near G x = y at *
      go_wp2_with fail
      refine HNC.out.mono ?_
      rintro e w2 ⟨rfl, hb2⟩
      have HB2 := Lib.hid (below_then HBW.out hb2)
      clear hb2
      go_wp2_with fail
      go_roundw
      case rel => exact ⟨k + 1, HLT.out, by go_num, by rw [HNX.out], HB2.out⟩
      case measure => have := HLT.out; simp [intOf]; omega
    · have ek : k = l.length := by omega
      subst ek
      clear hbw
      generalize it G m l.length = x at *
      go_wp2_with fail
      go_ret
      exact ⟨ret_b HZ.out, HKP.out⟩
set_option maxRecDepth 100000 in
theorem spec_conn (n m : Int) (u : Value) (l : List A2) (S : Nat → Prop) (w : World) (hr : atomsC.rd w S [u] l) :
    Calls Tryz.prog 68 #[.agg #[.int .i64 n, u], .int .i64 m] w fun e w' => e = .returned (.bool (cOk n l m)) ∧ Below w.heap.size w w' := by
  have HV := Lib.hid (fun w' (hb : Below w.heap.size w w') => spec_mask n m u l S w' (Cd.later hr hb))
  have HR := Lib.hid (fun w' (hb : Below w.heap.size w w') => Cd.later hr hb)
  obtain ⟨a, cap, rfl, hlm⟩ := Cd.sl_form hr
  clear hr
  have HC := Lib.hid (Loc2.of (row_alloc w (.cells #[.int .i64 n, .slice a l.length cap] 29)))
  have HB := Lib.hid (below_alloc w (.cells #[.int .i64 n, .slice a l.length cap] 29))
  cases hq : mOk n l m
  · have HZ := Lib.hid (show false = cOk n l m by unfold cOk; rw [hq]; rfl)
    rw [hq] at HV
    clear hq
    go_enter Tryz.func68, Tryz.ntmps68
    go_wp2_with fail
    generalize w.alloc _ = W at *
    refine (HV.out _ HB.out).mono ?_
    rintro e w1 ⟨rfl, hb1⟩
    have HB1 := Lib.hid (below_then HB.out hb1)
    clear hb1
    go_wp2_with fail
    go_ret
    exact ⟨ret_b HZ.out, HB1.out⟩
  rw [hq] at HV
  obtain ⟨t, rfl, _, htl⟩ := mOk_fm hq
  by_cases h0 : t = 0
  · have HZ := Lib.hid (show false = cOk n l (t : Int) by unfold cOk; rw [h0]; exact (Bool.and_false _).symm)
    subst h0
    have q1 : ¬ ((0 : Int) < ((0 : Nat) : Int)) := by omega
    clear hq
    go_enter Tryz.func68, Tryz.ntmps68
    go_wp2_with fail
    generalize w.alloc _ = W at *
    refine (HV.out _ HB.out).mono ?_
    rintro e w1 ⟨rfl, hb1⟩
    have HB1 := Lib.hid (below_then HB.out hb1)
    clear hb1
    go_wp2_with fail
    go_ret
    exact ⟨ret_b HZ.out, HB1.out⟩
  have h1 : 1 ≤ t := by omega
  have HZ := Lib.hid (show conn (gr l) t = cOk n l (t : Int) by unfold cOk; rw [hq]; rfl)
  have HJ := Lib.hid (fun w' (hb : Below w.heap.size w w') => spec_joined n t (.slice a l.length cap) l S w' (HR.out w' hb) (mOk_iff.1 hq).1 h1 htl)
  have q1 : (0 : Int) < (t : Int) := by omega
  clear hq htl h1 h0
  generalize conn (gr l) t = z at *
  go_enter Tryz.func68, Tryz.ntmps68
  go_wp2_with fail
  generalize w.alloc _ = W at *
  refine (HV.out _ HB.out).mono ?_
  rintro e w1 ⟨rfl, hb1⟩
  have HB1 := Lib.hid (below_then HB.out hb1)
  have c0 := (HC.out.later hb1).c0
  have c1 := (HC.out.later hb1).c1
  clear hb1
  go_wp2_with fail
  refine (HJ.out _ HB1.out).mono ?_
  rintro e w2 ⟨rfl, hb2⟩
  have HB2 := Lib.hid (below_then HB1.out hb2)
  clear hb2
  go_wp2_with fail
  go_ret
  exact ⟨ret_b HZ.out, HB2.out⟩
end Go.Proofs.YtdkhgeknjekkoaaGreat.QgSpec

namespace Go.Proofs.YtdkhgeknjekkoaaGreat.QgSpec
open Go Go.RowKit Byt Ints IntsLaw Cd Rows2 Tab TabSpec Exact Atom QryMath QrySpec QryImp MkAtom SlMath QgMath

theorem ow_back {w0 w : World} {base : Nat} {v : Value} {l : List Int} (h : OwnI w base 3 v l) (hin : InR l) (hb : w0.heap.size ≤ base) : ∃ fp, rowC.ow w w0.heap.size [v] l fp ∧ fp.Nodup :=
  ⟨_, rowC.ow_base (Cd.ow_of_own h hin) hb, Cd.own_nodup⟩
end Go.Proofs.YtdkhgeknjekkoaaGreat.QgSpec

namespace Go.Proofs.YtdkhgeknjekkoaaGreat.QgDraw
open Go Go.RowKit Byt Ints IntsLaw Cd Rows2 Tab TabSpec Exact Atom QryMath QrySpec QryImp MkAtom SlMath Draw QryPar QryDraw QgMath QgSpec
open TabParse (strC strsC info_str)

theorem reads_up {w : World} {v : Value} {l : List UInt8} {B B' : Nat} (h : Reads w v l B) (hB : B ≤ B') : Reads w v l B' := by
  obtain ⟨a, cap, hv, hl, hc⟩ := h
  refine ⟨a, cap, hv, hl, hc.imp id ?_⟩
  rintro ⟨b, off, ha, hb, hcell⟩
  exact ⟨b, off, ha, by omega, hcell⟩
set_option maxRecDepth 100000 in
set_option maxHeartbeats 1600000 in
theorem mask_any (c : Nat) (v : Value) (l : List UInt8) (B : Nat) (w : World) (h : CR w c v l B) (n : Int) (a : Option Addr) (k cap : Nat) (hk : k ≤ 100) :
    Calls Tryz.prog 43 #[.pointer (some ⟨c, 0, none⟩), .agg #[.int .i64 n, .slice a k cap]] w fun e w' => ∃ m : Int, e = .returned (.int .i64 m) ∧ CR w' c v l B ∧ Cd.Touch [c] w w' := by
  have HC := Lib.hid (Loc2.of (row_alloc w (.cells #[.int .i64 n, .slice a k cap] 29)))
  have HB := Lib.hid (below_alloc w (.cells #[.int .i64 n, .slice a k cap] 29))
  have HCR := Lib.hid (h.later HB.out)
  have hlt := h.lt
  have HLT := Lib.hid hlt
  clear h hlt
  go_enter Tryz.func43, Tryz.ntmps43
  go_wp2_with fail
  generalize w.alloc _ = W at *
  refine (once_cr 10 c v l B W HCR.out).mono ?_
  rintro e w1 ⟨b, rfl, hc1, ht1⟩
  have HC1 := Lib.hid hc1
  have HT1 := Lib.hid (Cd.Touch.trans (Cd.Touch.of_below (fp := [c]) HB.out) ht1)
  have HL1 := Lib.hid (HC.out.touched ht1 (by have := HLT.out; simp; omega))
  clear hc1 ht1
  cases b
  · have c0 := HL1.out.c0
    have c1 := HL1.out.c1
    have q0 : (0 : Int) ≤ (k : Int) := by omega
    have q1 : (k : Int) ≤ 100 := by omega
    by_cases h4 : (k : Int) < 4
    · have q2 : min (4 : Int) (k : Int) = (k : Int) := by omega
      have q3 : ((k : Int)).toNat = k := by omega
      have q4 : ¬ ((4 : Int) ≤ (k : Int)) := by omega
      go_wp2_with fail
      refine (below_cr _ c v l B w1 HC1.out).mono ?_
      rintro e w2 ⟨x, rfl, _, _, hc2, ht2⟩
      have HA := Lib.hid (And.intro hc2 (Cd.Touch.trans HT1.out ht2))
      clear hc2 ht2
      go_wp2_with fail
      go_ret
      exact ⟨x, rfl, HA.out.1, HA.out.2⟩
    · have q2 : min (4 : Int) (k : Int) = 4 := by omega
      have q4 : (4 : Int) ≤ (k : Int) := by omega
      go_wp2_with fail
      refine (below_cr _ c v l B w1 HC1.out).mono ?_
      rintro e w2 ⟨x, rfl, _, _, hc2, ht2⟩
      have HA := Lib.hid (And.intro hc2 (Cd.Touch.trans HT1.out ht2))
      clear hc2 ht2
      go_wp2_with fail
      go_ret
      exact ⟨x, rfl, HA.out.1, HA.out.2⟩
  · have HAL := Lib.hid (HC1.out.later (below_alloc w1 (.cells (([-1, 0, 16, 9223372036854775807] : List Int).map fun z => Value.int .i64 z).toArray 3)))
    have HP := Lib.hid (pickI_cr [-1, 0, 16, 9223372036854775807] w1.heap.size (by simp) (by simp) c v l B _ HAL.out (by have := HC1.out.lt; omega) (LocDraw.list_cellsI _ w1 3))
    have HBA := Lib.hid (below_alloc w1 (.cells (([-1, 0, 16, 9223372036854775807] : List Int).map fun z => Value.int .i64 z).toArray 3))
    go_wp2_with fail
    refine HP.out.mono ?_
    rintro e w2 ⟨x, _, rfl, hc2, ht2⟩
    have HA := Lib.hid (And.intro hc2 (Cd.Touch.trans HT1.out (Cd.Touch.trans (Cd.Touch.of_below HBA.out) ht2)))
    clear hc2 ht2
    go_wp2_with fail
    go_ret
    exact ⟨x, rfl, HA.out.1, HA.out.2⟩
end Go.Proofs.YtdkhgeknjekkoaaGreat.QgDraw

namespace Go.Proofs.YtdkhgeknjekkoaaGreat.Db
open Go Go.RowKit Byt Ints IntsLaw Cd Rows2 Tab SlMath TabOpen TabElem Mark SlTable

def tabsC : Cd (List T3) := Cd.sl 44 tabC
end Go.Proofs.YtdkhgeknjekkoaaGreat.Db

namespace Go.Proofs.YtdkhgeknjekkoaaGreat.DbSpec
open Go Go.RowKit Byt Ints IntsLaw Cd Rows2 Tab SlMath TabOpen TabElem SlTable Db TabSpec

/-- One table, said of its cells. -/
theorem sameT_iff {a b : T3} : sameT a.1 b.1 a.2.1 b.2.1 a.2.2 b.2.2 = decide (a = b) := by
  obtain ⟨a1, a2, a3⟩ := a
  obtain ⟨b1, b2, b3⟩ := b
  unfold sameT
  simp
theorem row1 {w : World} {k : Nat} {a : Value} {e : TypeId} (h : w.heap[k]? = some (.cells #[a] e (0, 0))) : w.cell? ⟨k, 0, none⟩ = some a ∧ w.frozen? ⟨k, 0, none⟩ = false := ⟨by simp [World.cell?, h], by simp [World.frozen?, h]⟩
theorem ret_b {a b : Bool} (h : a = b) : Ending.returned (.bool a) = Ending.returned (.bool b) := by rw [h]
def LaterD (w w' : World) : Prop := Below w.heap.size w w'
theorem take_ne {l1 l2 : List T3} {k : Nat} (h1 : k < l1.length) (h2 : k < l2.length) (h : l1[k] ≠ l2[k]) : l1 ≠ l2 := fun q => h (by simp [q])
theorem take_eq {l1 l2 : List T3} {k : Nat} (h1 : k < l1.length) (h2 : k < l2.length) (ht : l1.take k = l2.take k) (h : l1[k] = l2[k]) : l1.take (k + 1) = l2.take (k + 1) := by
  rw [List.take_succ_eq_append_getElem h1, List.take_succ_eq_append_getElem h2, ht, h]

end Go.Proofs.YtdkhgeknjekkoaaGreat.DbSpec

namespace Go.Proofs.YtdkhgeknjekkoaaGreat.DbMath
open Go Go.RowKit Byt Ints IntsLaw Cd Rows2 Tab TabOpen TabElem TabSpec

theorem bytesLess_iff : ∀ (x y : List UInt8), Op.bytesLess x y = true ↔ x < y
  | _, [] => by simp [Op.bytesLess]
  | [], _ :: _ => by simp [Op.bytesLess]
  | a :: x, b :: y => by simp [Op.bytesLess, bytesLess_iff x y, List.cons_lt_cons_iff]
/-- The order of names. -/
def ltB (a b : ByteArray) : Bool := Op.bytesLess a.toList b.toList
theorem ltB_iff (a b : ByteArray) : ltB a b = true ↔ a.data.toList < b.data.toList := by
  unfold ltB
  rw [bytesLess_iff, ByteArray.toList_eq, ByteArray.toList_eq]
theorem eqB (a b : ByteArray) : (a.toList == b.toList) = decide (a = b) := by
  rw [ByteArray.toList_eq, ByteArray.toList_eq]
  by_cases h : a = b
  · subst h; simp
  · rw [decide_eq_false h, beq_eq_false_iff_ne]
    intro q
    apply h
    cases a
    cases b
    simp only [Array.toList_inj] at q
    rw [q]
theorem ltB_irrefl (a : ByteArray) : ltB a a = false := by
  cases h : ltB a a
  · rfl
  · exact absurd ((ltB_iff a a).1 h) (List.lt_irrefl _)
theorem ltB_trans {a b c : ByteArray} (h : ltB a b = true) (k : ltB b c = true) : ltB a c = true := (ltB_iff a c).2 (List.lt_trans ((ltB_iff a b).1 h) ((ltB_iff b c).1 k))
theorem ltB_tri {a b : ByteArray} (h : ltB a b = false) (k : ltB b a = false) : a = b := by
  have h1 : ¬ a.data.toList < b.data.toList := fun q => by rw [(ltB_iff a b).2 q] at h; cases h
  have h2 : ¬ b.data.toList < a.data.toList := fun q => by rw [(ltB_iff b a).2 q] at k; cases k
  have h3 : a.data.toList = b.data.toList := List.le_antisymm (List.not_lt.1 h2) (List.not_lt.1 h1)
  cases a
  cases b
  simp only [Array.toList_inj] at h3
  rw [h3]
theorem ltB_ne {a b : ByteArray} (h : ltB a b = true) : a ≠ b := fun q => by rw [q, ltB_irrefl] at h; cases h

def okT (T : T3) : Bool := tabOk T.1 T.2.1 T.2.2
def ltT (a b : T3) : Prop := ltB a.1 b.1 = true
instance (a b : T3) : Decidable (ltT a b) := by unfold ltT; infer_instance
def AscP (l : List T3) : Prop := l.Pairwise ltT
instance (l : List T3) : Decidable (AscP l) := by unfold AscP; infer_instance
def DbP (l : List T3) : Prop := l.length ≤ 6 ∧ (∀ T ∈ l, okT T = true) ∧ AscP l
instance (l : List T3) : Decidable (DbP l) := by unfold DbP; infer_instance
def dbOk (l : List T3) : Bool := decide (DbP l)
theorem dbOk_iff {l : List T3} : dbOk l = true ↔ DbP l := decide_eq_true_iff
theorem dbOk_no {l : List T3} : dbOk l = false ↔ ¬ DbP l := decide_eq_false_iff_not
theorem asc_more {l : List T3} {k : Nat} (h : AscP (l.take k)) (hk : k < l.length) (h0 : ∀ j, k = j + 1 → (hj : j < l.length) → ltB l[j].1 l[k].1 = true) : AscP (l.take (k + 1)) := by
  unfold AscP at *
  rw [List.take_succ_eq_append_getElem hk, List.pairwise_append]
  refine ⟨h, List.pairwise_singleton _ _, fun a ha b hb => ?_⟩
  rw [List.mem_singleton.1 hb]
  cases k with
  | zero => simp at ha
  | succ j =>
    have hj : j < l.length := by omega
    have hl := h0 j rfl hj
    obtain ⟨i, hi, rfl⟩ := List.getElem_of_mem ha
    rw [List.length_take] at hi
    rw [List.getElem_take]
    by_cases e : i = j
    · subst e; exact hl
    · have hp := List.pairwise_iff_getElem.1 h i j (by rw [List.length_take]; omega) (by rw [List.length_take]; omega) (by omega)
      rw [List.getElem_take, List.getElem_take] at hp
      exact ltB_trans hp hl
theorem asc_at {l : List T3} (h : AscP l) {j : Nat} (hj : j + 1 < l.length) : ltB l[j].1 l[j + 1].1 = true := List.pairwise_iff_getElem.1 h j (j + 1) (by omega) hj (by omega)
theorem ok_more {l : List T3} {k : Nat} (h : ∀ T ∈ l.take k, okT T = true) (hk : k < l.length) (h0 : okT l[k] = true) : ∀ T ∈ l.take (k + 1), okT T = true := by
  intro T hT
  rw [List.take_succ_eq_append_getElem hk] at hT
  rcases List.mem_append.1 hT with q | q
  · exact h T q
  · rw [List.mem_singleton.1 q]; exact h0
def findN (l : List T3) (nm : ByteArray) : Option T3 := l.find? (fun T => decide (T.1 = nm))
def lookL (l : List T3) (nm : ByteArray) : Option T3 := if dbOk l then findN l nm else none
theorem findN_none {l : List T3} {nm : ByteArray} : findN l nm = none ↔ ∀ T ∈ l, T.1 ≠ nm := by
  unfold findN
  rw [List.find?_eq_none]
  simp
theorem findN_some {l : List T3} {nm : ByteArray} {T : T3} (h : findN l nm = some T) : T ∈ l ∧ T.1 = nm := by
  unfold findN at h
  exact ⟨List.mem_of_find?_eq_some h, by have := List.find?_some h; simpa using this⟩
theorem findN_at {l : List T3} {nm : ByteArray} {k : Nat} (hk : k < l.length) (h0 : ∀ T ∈ l.take k, T.1 ≠ nm) (h1 : l[k].1 = nm) : findN l nm = some l[k] := by
  unfold findN
  rw [List.find?_eq_some_iff_getElem]
  refine ⟨by simpa using h1, k, hk, rfl, fun j hj => ?_⟩
  have : l[j] ∈ l.take k := List.mem_iff_getElem.2 ⟨j, by rw [List.length_take]; omega, by rw [List.getElem_take]⟩
  simpa using h0 _ this
def cntRows (l : List T3) : Nat := SlMath.sumN (fun T => T.2.2.length) l
end Go.Proofs.YtdkhgeknjekkoaaGreat.DbMath
