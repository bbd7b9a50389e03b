/- Texts that the proof rests on, one behind the other. -/
import Derived.Test.YtdkhgeknjekkoaaGreatMg3EvaluateQuery
import Derived.Test.YtdkhgeknjekkoaaGreatQgMath
import Derived.Test.YtdkhgeknjekkoaaGreatMg1EvaluateQuery
import Derived.Test.YtdkhgeknjekkoaaGreatSlTable
import Derived.Test.YtdkhgeknjekkoaaGreatAnsMath
import Derived.Test.YtdkhgeknjekkoaaGreatAtom
import Derived.Deep.QuietTactic
import Derived.BigQuiet
import Derived.Test.YtdkhgeknjekkoaaGreatDbSpec

namespace Go.Proofs.YtdkhgeknjekkoaaGreat.QgSpec
open Go Go.RowKit Byt Ints IntsLaw Cd Rows2 Tab TabSpec Exact Atom QryMath QrySpec QryImp MkAtom SlMath QgMath

def Kp (w w' : World) : Prop := Below w.heap.size w w'
theorem kp_drew {w w' : World} (h : Kp w w') : Kp w w'.drew := Below.drew h
theorem bd_drew (w : World) : Below w.heap.size w w.drew := ⟨rfl, rfl, rfl, Nat.le_refl _, fun _ _ => rfl⟩
theorem pow_w {k : Nat} (h : k ≤ 4) : IntKind.i64.wrap (2 ^ k) = 2 ^ k := (pow_len h).1
theorem or_pow {x k : Nat} (hx : x < 16) (hk : k < 4) : bits .or .i64 (x : Int) (2 ^ k) = ((x ||| 2 ^ k : Nat) : Int) := by
  have h : 2 ^ k < 16 := by
    have : 2 ^ k < 2 ^ 4 := Nat.pow_lt_pow_right (by decide) hk
    omega
  rw [pow_cast, or_nat hx h]
theorem or_lt {x y : Nat} (hx : x < 16) (hy : y < 16) : x ||| y < 16 := Nat.or_lt_two_pow (n := 4) hx hy
theorem and_lt {x : Nat} (y : Nat) (hx : x < 16) : x &&& y < 16 := Nat.lt_of_le_of_lt Nat.and_le_left hx
theorem sel_lt {l : List A2} (h : ∀ A ∈ l, In4 A.2) (t : Nat) : bs (selV l t l.length) < 16 := bs_lt (selV_in4 h t _ (Nat.le_refl _))
set_option maxRecDepth 100000 in
theorem spec_full (n : Int) (u : Value) (l : List A2) (S : Nat → Prop) (w : World) (hr : atomsC.rd w S [u] l) :
    Calls Tryz.prog 25 #[.agg #[.int .i64 n, u]] w fun e w' => e = .returned (.int .i64 (fm n l : Int)) ∧ Below w.heap.size w w' := by
  have HV := Lib.hid (fun w' (hb : Below w.heap.size w w') => spec_valid n u l S w' (Cd.later hr hb))
  obtain ⟨a, cap, rfl, hlm⟩ := Cd.sl_form hr
  clear hr
  have HC := Lib.hid (Loc2.of (row_alloc w (.cells #[.int .i64 n, .slice a l.length cap] 29)))
  have HB := Lib.hid (below_alloc w (.cells #[.int .i64 n, .slice a l.length cap] 29))
  cases hq : qOk n l
  · have HZ := Lib.hid (show (0 : Int) = ((fm n l : Nat) : Int) by rw [fm_no hq]; rfl)
    rw [hq] at HV
    clear hq
    go_enter Tryz.func25, Tryz.ntmps25
    go_wp2_with fail
    generalize w.alloc _ = W at *
    refine (HV.out _ HB.out).mono ?_
    rintro e w1 ⟨rfl, hb1⟩
    have HB1 := Lib.hid (below_then HB.out hb1)
    clear hb1
    go_wp2_with fail
    go_ret
    exact ⟨ret_int HZ.out, HB1.out⟩
  rw [hq] at HV
  have h4 := (qOk_iff.1 hq).2.2.2.1
  have hpw := pow_len h4
  have HZ := Lib.hid (show (2 : Int) ^ l.length - 1 = ((fm n l : Nat) : Int) by
    rw [fm_yes hq, pow_cast]
    have := Nat.two_pow_pos l.length
    omega)
  have q1 := hpw.1
  have q2 := hpw.2.1
  have q3 := hpw.2.2
  have q4 : IntKind.i64.wrap (2 ^ l.length - 1) = 2 ^ l.length - 1 := by rw [IntKind.wrap_i64]; omega
  have q5 : (l.length : Int) ≤ 64 := by omega
  have q6 : ((l.length : Int)).toNat = l.length := by omega
  clear hq hpw h4
  go_enter Tryz.func25, Tryz.ntmps25
  go_wp2_with fail
  generalize w.alloc _ = W at *
  refine (HV.out _ HB.out).mono ?_
  rintro e w1 ⟨rfl, hb1⟩
  have HB1 := Lib.hid (below_then HB.out hb1)
  have c0 := (HC.out.later hb1).c0
  have c1 := (HC.out.later hb1).c1
  clear hb1
  go_wp2_with fail
  go_ret
  exact ⟨ret_int HZ.out, HB1.out⟩
set_option maxRecDepth 100000 in
set_option maxHeartbeats 1600000 in
theorem spec_maskatoms (m : Int) (w : World) :
    Calls Tryz.prog 18 #[.int .i64 m] w fun e w' => ∃ v' fp, e = .returned v' ∧ rowC.ow w' w.heap.size [v'] (maL m) fp ∧ fp.Nodup ∧ Below w.heap.size w w' := by
  have HW := Lib.hid (And.intro (Ints.OwnI.empty w w.heap.size 3 (Nat.le_refl _)) (below_alloc w (.cells #[] 3)))
  by_cases hm : 0 ≤ m ∧ m < 16
  case neg =>
    have HZ := Lib.hid (show maL m = [] from if_neg hm)
    have HI := Lib.hid (fun w => Fixed.l1In_no (x := m) (a := 0) (b := 15) (by omega) w)
    clear hm
    go_enter Tryz.func18, Tryz.ntmps18
    go_wp2_with fail
    go_loopw [3, 4] (fun o i wr => i = .int .i64 0 ∧ OwnI wr w.heap.size 3 o [] ∧ Below w.heap.size w wr) (fun _ _ _ => 0)
    case atStart => exact ⟨rfl, HW.out.1, HW.out.2⟩
    case round =>
      obtain ⟨rfl, hown, hb⟩ := hrel
      have HO := Lib.hid hown
      have HB := Lib.hid hb
      clear hown hb
      go_wp2_with (go_at_call 51; refine (HI.out _).mono ?_; rintro e w1 ⟨rfl, rfl⟩)
      go_ret
      exact ⟨_, _, rfl, by rw [HZ.out]; exact Cd.ow_of_own HO.out (fun x hx => by cases hx), Cd.own_nodup, HB.out⟩
  obtain ⟨s, rfl⟩ : ∃ s : Nat, m = (s : Int) := ⟨m.toNat, by omega⟩
  have hs : s < 16 := by omega
  have HZ := Lib.hid (show maL (s : Int) = varsL s by unfold maL; rw [if_pos hm, Int.toNat_natCast])
  have HI := Lib.hid (fun w => Fixed.l1In_yes (x := (s : Int)) (a := 0) (b := 15) (by omega) (by omega) w)
  clear hm
  go_enter Tryz.func18, Tryz.ntmps18
  go_wp2_with fail
  go_loopw [3, 4] (fun o i wr => ∃ (k : Nat), k ≤ 4 ∧ i = .int .i64 k ∧ OwnI wr w.heap.size 3 o (varsTo s k) ∧ Below w.heap.size w wr) (fun _ i _ => 4 - (intOf i).toNat)
  case atStart => exact ⟨0, Nat.zero_le _, rfl, HW.out.1, HW.out.2⟩
  case round =>
    obtain ⟨k, hk, rfl, hown, hb⟩ := hrel
    have HB := Lib.hid hb
    have hbs := hb.size
    by_cases hlt : k < 4
    · have hbit := bit_at hs k
      have p1 : (0 : Int) ≤ (k : Int) := by omega
      have p2 : (k : Int) < 4 := by omega
      have p3 : (k : Int) ≤ 64 := by omega
      have p4 : ((k : Int)).toNat = k := by omega
      have hlen : (varsTo s k).length + 1 ≤ 1000000000000 := by have := varsTo_len s k; omega
      by_cases hx : s / 2 ^ k % 2 = 1
      · have HNX := Lib.hid (varsTo_yes hx)
        rw [hx] at hbit
        clear hx hb
        generalize varsTo s k = out at *
        go_wp2_with (first | (go_at_call 51; refine (HI.out _).mono ?_; rintro e w1 ⟨rfl, rfl⟩) | (at_builtin; refine wp_appendI rfl (.tmp 19) (.tmp 21) 32 rfl w.heap.size 3 Tryz.underlying32 info_i64 _ _ rfl hown _ rfl hlen hbs ?_))
        intro v' w5 hown5 hb5
        go_wp2_with fail
        go_roundw
        case rel => exact ⟨k + 1, by omega, by go_num, by rw [HNX.out]; exact hown5, HB.out.trans hb5⟩
        case measure => simp [intOf]; omega
      · have HNX := Lib.hid (varsTo_no hx)
        have hz : s / 2 ^ k % 2 = 0 := by omega
        rw [hz] at hbit
        clear hx hb hz
        go_wp2_with (go_at_call 51; refine (HI.out _).mono ?_; rintro e w1 ⟨rfl, rfl⟩)
        go_roundw
        case rel => exact ⟨k + 1, by omega, by go_num, by rw [HNX.out]; exact hown, HB.out⟩
        case measure => simp [intOf]; omega
    · have ek : k = 4 := by omega
      subst ek
      have HO := Lib.hid hown
      clear hown hb
      go_wp2_with fail
      go_ret
      exact ⟨_, _, rfl, by rw [HZ.out]; exact Cd.ow_of_own HO.out (inr_varsTo s 4 (by decide)), Cd.own_nodup, HB.out⟩
set_option maxRecDepth 100000 in
set_option maxHeartbeats 3200000 in
theorem spec_near (n : Int) (t : Nat) (u : Value) (l : List A2) (S : Nat → Prop) (w : World) (hr : atomsC.rd w S [u] l) (ht : t < 16) (hl4 : l.length ≤ 4) (h4 : ∀ A ∈ l, In4 A.2) (h3 : ∀ A ∈ l, A.2.length ≤ 3) :
    Calls Tryz.prog 146 #[.agg #[.int .i64 n, u], .int .i64 (t : Int)] w fun e w' => e = .returned (.int .i64 (near (gr l) t : Int)) ∧ Below w.heap.size w w' := by
  have HBT := Lib.hid (fun w' (hb : Below w.heap.size w w') => spec_bits n t u l S w' (Cd.later hr hb) ht hl4 h4 h3)
  have HBK := Lib.hid (fun (k : Nat) (hk : k < l.length) w' (hb : Below w.heap.size w w') => spec_bits n (2 ^ k) u l S w' (Cd.later hr hb) (by have : 2 ^ k < 2 ^ 4 := Nat.pow_lt_pow_right (by decide) (by omega); omega) hl4 h4 h3)
  obtain ⟨a, cap, rfl, hlm⟩ := Cd.sl_form hr
  have HS16 := Lib.hid (sel_lt h4 t)
  have HV16 := Lib.hid (fun i => V_lt h4 i)
  have HGL := Lib.hid (gr_lt l)
  have HEND := Lib.hid (near_len hl4 t)
  have HSA := Lib.hid (fun (k : Nat) (hk : k < 4) (h0 : t / 2 ^ k % 2 = 0) => sel_and hl4 hk h0)
  have HNT := Lib.hid (fun k (hk : k ≤ 4) => nearTo_lt _ (gr_lt l) t ht k hk)
  have HL4 := Lib.hid hl4
  clear hr h4 h3
  have HC := Lib.hid (Loc2.of (row_alloc w (.cells #[.int .i64 n, .slice a l.length cap] 29)))
  have HB := Lib.hid (below_alloc w (.cells #[.int .i64 n, .slice a l.length cap] 29))
  generalize gr l = G at *
  go_enter Tryz.func146, Tryz.ntmps146
  go_wp2_with fail
  generalize w.alloc _ = W at *
  refine (HBT.out _ HB.out).mono ?_
  rintro e w1 ⟨rfl, hb1⟩
  have HB1 := Lib.hid (below_then HB.out hb1)
  have HC1 := Lib.hid (HC.out.later hb1)
  clear hb1
  generalize bs (selV l t l.length) = s at *
  go_wp2_with fail
  go_loopw [5, 7] (fun x i wr => ∃ k : Nat, k ≤ l.length ∧ i = .int .i64 k ∧ x = .int .i64 (nearTo G t k : Int) ∧ Below w1.heap.size w1 wr) (fun _ i _ => l.length - (intOf i).toNat)
  case atStart => exact ⟨0, Nat.zero_le _, rfl, rfl, Below.refl _ _⟩
  case round =>
    obtain ⟨k, hk, rfl, rfl, hbw⟩ := hrel
    have HBW := Lib.hid hbw
    have HLQ := Lib.hid (HC1.out.later hbw)
    have c0 := HLQ.out.c0
    have c1 := HLQ.out.c1
    have HKP := Lib.hid (show Below w.heap.size w wr from below_then HB1.out hbw)
    by_cases hlt : k < l.length
    · have hk4 : k < 4 := by have := HL4.out; omega
      have p1 : (0 : Int) ≤ (k : Int) := by omega
      have p2 : (k : Int) < (l.length : Int) := by omega
      have p3 : (k : Int) ≤ 64 := by omega
      have p4 : ((k : Int)).toNat = k := by omega
      have hbit := bit_at ht k
      have HLT := Lib.hid hlt
      have hpw := pow_w (show k ≤ 4 by omega)
      have HX16 := Lib.hid (HNT.out k (by omega))
      have kk : Kp w wr.drew := kp_drew (show Kp w wr from HKP.out)
      by_cases hx : t / 2 ^ k % 2 = 0
      · have HCK := Lib.hid (fun w' (hb : Below w.heap.size w w') => (HBK.out k hlt w' hb))
        have e1 : bs (selV l (2 ^ k) l.length) = V l k := sel_one_in HL4.out hlt
        rw [e1] at HCK
        have e2 : (((2 ^ k : Nat)) : Int) = (2 : Int) ^ k := (pow_cast k).symm
        rw [e2] at HCK
        have hand := and_nat (HV16.out k) HS16.out
        have hsa := HSA.out k hk4 hx
        have HNXT := Lib.hid (show nearTo G t (k + 1) = if nx G t k then nearTo G t k ||| 2 ^ k else nearTo G t k from rfl)
        have HNX0 := Lib.hid (show nx G t k = anyA G t k by unfold nx; rw [hx]; rfl)
        have hor := or_pow HX16.out hk4
        rw [hx] at hbit
        generalize nearTo G t k = x at *
        generalize V l k = v at *
        clear hx hbw e1 e2 hk4 hlt
        cases hany : anyA G t k
        · rw [hany] at hsa HNX0
          have hz : v &&& s = 0 := by simpa using hsa
          rw [hz] at hand
          have HNX := Lib.hid (show nearTo G t (k + 1) = x by rw [HNXT.out, HNX0.out]; rfl)
          clear hz hsa hany hor HNXT HNX0
          go_wp2_with fail
          refine wp_region_held_drew (S := fun wx => wx.cell? ⟨w.heap.size, 0, none⟩ = some (.int .i64 n) ∧ wx.cell? ⟨w.heap.size, 1, none⟩ = some (.slice a l.length cap) ∧ Kp w wx) (by kernel_rfl) ?_ (fun hHeld => ?_)
          · (refine ⟨?_, ?_, ?_⟩ <;> first | assumption | (simp [*]; done))
          refine RegH.takeH (i := 0) (v := ?_) rfl (by kernel_rfl) (by kernel_rfl) (by kernel_rfl) (fun _ _ _ h => h) (Or.inl ⟨by rfl, ?_⟩) (by assumption) ?_
          rotate_left
          · (intro wS hSw; (try dsimp only at hSw); go_simp; try (with_reducible rfl))
          try simp only [Act.put, List.setIfInBounds_toArray, List.set_cons_zero, List.set_cons_succ]
          refine RegH.takeH (i := 1) (v := ?_) rfl (by kernel_rfl) (by kernel_rfl) (by kernel_rfl) (fun _ _ _ h => h) (Or.inl ⟨by rfl, ?_⟩) (by assumption) ?_
          rotate_left
          · (intro wS hSw; (try dsimp only at hSw); go_simp; try (with_reducible rfl))
          try simp only [Act.put, List.setIfInBounds_toArray, List.set_cons_zero, List.set_cons_succ]
          refine RegH.takeH (i := 2) (v := ?_) rfl (by kernel_rfl) (by kernel_rfl) (by kernel_rfl) (fun _ _ _ h => h) (Or.inl ⟨by rfl, ?_⟩) (by assumption) ?_
          rotate_left
          · (intro wS hSw; (try dsimp only at hSw); go_simp; try (with_reducible rfl))
          try simp only [Act.put, List.setIfInBounds_toArray, List.set_cons_zero, List.set_cons_succ]
          refine RegH.takeH (i := 3) (v := ?_) rfl (by kernel_rfl) (by kernel_rfl) (by kernel_rfl) (fun _ _ _ h => h) (Or.inl ⟨by rfl, ?_⟩) (by assumption) ?_
          rotate_left
          · (intro wS hSw; (try dsimp only at hSw); go_simp; try (with_reducible rfl))
          try simp only [Act.put, List.setIfInBounds_toArray, List.set_cons_zero, List.set_cons_succ]
          refine RegH.takeH (i := 4) (v := ?_) rfl (by kernel_rfl) (by kernel_rfl) (by kernel_rfl) (fun _ _ _ h => h) (Or.inl ⟨by rfl, ?_⟩) (by assumption) ?_
          rotate_left
          · (intro wS hSw; (try dsimp only at hSw); go_simp; try (with_reducible rfl))
          try simp only [Act.put, List.setIfInBounds_toArray, List.set_cons_zero, List.set_cons_succ]
          refine RegH.takeH (i := 5) (v := ?_) rfl (by kernel_rfl) (by kernel_rfl) (by kernel_rfl) (fun _ _ _ h => h) (Or.inl ⟨by rfl, ?_⟩) (by assumption) ?_
          rotate_left
          · (intro wS hSw; (try dsimp only at hSw); go_simp; try (with_reducible rfl))
          try simp only [Act.put, List.setIfInBounds_toArray, List.set_cons_zero, List.set_cons_succ]
          refine RegH.takeH (i := 6) (v := ?_) rfl (by kernel_rfl) (by kernel_rfl) (by kernel_rfl) (fun _ _ _ h => h) (Or.inl ⟨by rfl, ?_⟩) (by assumption) ?_
          rotate_left
          · (intro wS hSw; (try dsimp only at hSw); go_simp; try (with_reducible rfl))
          try simp only [Act.put, List.setIfInBounds_toArray, List.set_cons_zero, List.set_cons_succ]
          refine RegH.takeH (i := 7) (v := ?_) rfl (by kernel_rfl) (by kernel_rfl) (by kernel_rfl) (fun _ _ _ h => h) (Or.inl ⟨by rfl, ?_⟩) (by assumption) ?_
          rotate_left
          · (intro wS hSw; (try dsimp only at hSw); go_simp; try (with_reducible rfl))
          try simp only [Act.put, List.setIfInBounds_toArray, List.set_cons_zero, List.set_cons_succ]
          refine RegH.takeH (i := 8) (v := ?_) rfl (by kernel_rfl) (by kernel_rfl) (by kernel_rfl) (fun _ _ _ h => h) (Or.inl ⟨by rfl, ?_⟩) (by assumption) ?_
          rotate_left
          · (intro wS hSw; (try dsimp only at hSw); go_simp; try (with_reducible rfl))
          try simp only [Act.put, List.setIfInBounds_toArray, List.set_cons_zero, List.set_cons_succ]
          refine RegH.takeH (i := 10) (v := ?_) rfl (by kernel_rfl) (by kernel_rfl) (by kernel_rfl) (fun _ _ _ h => h) (Or.inl ⟨by rfl, ?_⟩) (by assumption) ?_
          rotate_left
          · (intro wS hSw; (try dsimp only at hSw); go_simp; try (with_reducible rfl))
          try simp only [Act.put, List.setIfInBounds_toArray, List.set_cons_zero, List.set_cons_succ]
          refine RegH.consH (i := 9) rfl (by kernel_rfl) (fun K hK => ?_)
          go_simp
          go_at_call 101
          refine (HCK.out _ (show Below w.heap.size w wr.drew from kk)).mono ?_
          rintro e wq ⟨rfl, hbq⟩
          have kq : Kp w wq := below_then (show Below w.heap.size w wr.drew from kk) hbq
          have HBQ := Lib.hid (below_then (bd_drew wr) hbq)
          have n0 := (HLQ.out.later HBQ.out).c0
          have n1 := (HLQ.out.later HBQ.out).c1
          clear hbq
          go_wp2_with fail
          refine hK.out _ _ ?_ (fun hHeld => ?_)
          · (refine ⟨?_, ?_, ?_⟩ <;> first | assumption | (simp [*]; done))
          clear hK K
          try simp only [Act.put, List.setIfInBounds_toArray, List.set_cons_zero, List.set_cons_succ]
          refine RegH.takeH (i := 11) (v := ?_) rfl (by kernel_rfl) (by kernel_rfl) (by kernel_rfl) (fun _ _ _ h => h) (Or.inl ⟨by rfl, ?_⟩) (by assumption) ?_
          rotate_left
          · (intro wS hSw; (try dsimp only at hSw); go_simp; try (with_reducible rfl))
          try simp only [Act.put, List.setIfInBounds_toArray, List.set_cons_zero, List.set_cons_succ]
          refine RegH.takeH (i := 12) (v := ?_) rfl (by kernel_rfl) (by kernel_rfl) (by kernel_rfl) (fun _ _ _ h => h) (Or.inl ⟨by rfl, ?_⟩) (by assumption) ?_
          rotate_left
          · (intro wS hSw; (try dsimp only at hSw); go_simp; try (with_reducible rfl))
          try simp only [Act.put, List.setIfInBounds_toArray, List.set_cons_zero, List.set_cons_succ]
          refine RegH.takeH (i := 13) (v := ?_) rfl (by kernel_rfl) (by kernel_rfl) (by kernel_rfl) (fun _ _ _ h => h) (Or.inl ⟨by rfl, ?_⟩) (by assumption) ?_
          rotate_left
          · (intro wS hSw; (try dsimp only at hSw); go_simp; try (with_reducible rfl))
          try simp only [Act.put, List.setIfInBounds_toArray, List.set_cons_zero, List.set_cons_succ]
          refine wpAnyH_done (by kernel_rfl) ?_ _
          go_wp2_with fail
          go_roundw
          case rel => exact ⟨k + 1, HLT.out, by go_num, by rw [HNX.out], below_then HBW.out HBQ.out⟩
          case measure => have := HLT.out; simp [intOf]; omega
        · rw [hany] at hsa HNX0
          have hz : ¬ (v &&& s = 0) := by simpa using hsa
          have HNX := Lib.hid (show nearTo G t (k + 1) = x ||| 2 ^ k by rw [HNXT.out, HNX0.out]; rfl)
          have hz2 : (((v &&& s : Nat) : Int) == 0) = false := by rw [beq_eq_false_iff_ne]; omega
          have hz3 : ¬ (((v &&& s : Nat) : Int) = 0) := by omega
          clear hsa hany HNXT HNX0
          generalize v &&& s = z at *
          go_wp2_with fail
          refine wp_region_held_drew (S := fun wx => wx.cell? ⟨w.heap.size, 0, none⟩ = some (.int .i64 n) ∧ wx.cell? ⟨w.heap.size, 1, none⟩ = some (.slice a l.length cap) ∧ Kp w wx) (by kernel_rfl) ?_ (fun hHeld => ?_)
          · (refine ⟨?_, ?_, ?_⟩ <;> first | assumption | (simp [*]; done))
          refine RegH.takeH (i := 0) (v := ?_) rfl (by kernel_rfl) (by kernel_rfl) (by kernel_rfl) (fun _ _ _ h => h) (Or.inl ⟨by rfl, ?_⟩) (by assumption) ?_
          rotate_left
          · (intro wS hSw; (try dsimp only at hSw); go_simp; try (with_reducible rfl))
          try simp only [Act.put, List.setIfInBounds_toArray, List.set_cons_zero, List.set_cons_succ]
          refine RegH.takeH (i := 1) (v := ?_) rfl (by kernel_rfl) (by kernel_rfl) (by kernel_rfl) (fun _ _ _ h => h) (Or.inl ⟨by rfl, ?_⟩) (by assumption) ?_
          rotate_left
          · (intro wS hSw; (try dsimp only at hSw); go_simp; try (with_reducible rfl))
          try simp only [Act.put, List.setIfInBounds_toArray, List.set_cons_zero, List.set_cons_succ]
          refine RegH.takeH (i := 2) (v := ?_) rfl (by kernel_rfl) (by kernel_rfl) (by kernel_rfl) (fun _ _ _ h => h) (Or.inl ⟨by rfl, ?_⟩) (by assumption) ?_
          rotate_left
          · (intro wS hSw; (try dsimp only at hSw); go_simp; try (with_reducible rfl))
          try simp only [Act.put, List.setIfInBounds_toArray, List.set_cons_zero, List.set_cons_succ]
          refine RegH.takeH (i := 3) (v := ?_) rfl (by kernel_rfl) (by kernel_rfl) (by kernel_rfl) (fun _ _ _ h => h) (Or.inl ⟨by rfl, ?_⟩) (by assumption) ?_
          rotate_left
          · (intro wS hSw; (try dsimp only at hSw); go_simp; try (with_reducible rfl))
          try simp only [Act.put, List.setIfInBounds_toArray, List.set_cons_zero, List.set_cons_succ]
          refine RegH.takeH (i := 4) (v := ?_) rfl (by kernel_rfl) (by kernel_rfl) (by kernel_rfl) (fun _ _ _ h => h) (Or.inl ⟨by rfl, ?_⟩) (by assumption) ?_
          rotate_left
          · (intro wS hSw; (try dsimp only at hSw); go_simp; try (with_reducible rfl))
          try simp only [Act.put, List.setIfInBounds_toArray, List.set_cons_zero, List.set_cons_succ]
          refine RegH.takeH (i := 5) (v := ?_) rfl (by kernel_rfl) (by kernel_rfl) (by kernel_rfl) (fun _ _ _ h => h) (Or.inl ⟨by rfl, ?_⟩) (by assumption) ?_
          rotate_left
          · (intro wS hSw; (try dsimp only at hSw); go_simp; try (with_reducible rfl))
          try simp only [Act.put, List.setIfInBounds_toArray, List.set_cons_zero, List.set_cons_succ]
          refine RegH.takeH (i := 6) (v := ?_) rfl (by kernel_rfl) (by kernel_rfl) (by kernel_rfl) (fun _ _ _ h => h) (Or.inl ⟨by rfl, ?_⟩) (by assumption) ?_
          rotate_left
          · (intro wS hSw; (try dsimp only at hSw); go_simp; try (with_reducible rfl))
          try simp only [Act.put, List.setIfInBounds_toArray, List.set_cons_zero, List.set_cons_succ]
          refine RegH.takeH (i := 7) (v := ?_) rfl (by kernel_rfl) (by kernel_rfl) (by kernel_rfl) (fun _ _ _ h => h) (Or.inl ⟨by rfl, ?_⟩) (by assumption) ?_
          rotate_left
          · (intro wS hSw; (try dsimp only at hSw); go_simp; try (with_reducible rfl))
          try simp only [Act.put, List.setIfInBounds_toArray, List.set_cons_zero, List.set_cons_succ]
          refine RegH.takeH (i := 8) (v := ?_) rfl (by kernel_rfl) (by kernel_rfl) (by kernel_rfl) (fun _ _ _ h => h) (Or.inl ⟨by rfl, ?_⟩) (by assumption) ?_
          rotate_left
          · (intro wS hSw; (try dsimp only at hSw); go_simp; try (with_reducible rfl))
          try simp only [Act.put, List.setIfInBounds_toArray, List.set_cons_zero, List.set_cons_succ]
          refine RegH.takeH (i := 10) (v := ?_) rfl (by kernel_rfl) (by kernel_rfl) (by kernel_rfl) (fun _ _ _ h => h) (Or.inl ⟨by rfl, ?_⟩) (by assumption) ?_
          rotate_left
          · (intro wS hSw; (try dsimp only at hSw); go_simp; try (with_reducible rfl))
          try simp only [Act.put, List.setIfInBounds_toArray, List.set_cons_zero, List.set_cons_succ]
          refine RegH.consH (i := 9) rfl (by kernel_rfl) (fun K hK => ?_)
          go_simp
          go_at_call 101
          refine (HCK.out _ (show Below w.heap.size w wr.drew from kk)).mono ?_
          rintro e wq ⟨rfl, hbq⟩
          have kq : Kp w wq := below_then (show Below w.heap.size w wr.drew from kk) hbq
          have HBQ := Lib.hid (below_then (bd_drew wr) hbq)
          have n0 := (HLQ.out.later HBQ.out).c0
          have n1 := (HLQ.out.later HBQ.out).c1
          clear hbq
          go_wp2_with fail
          refine hK.out _ _ ?_ (fun hHeld => ?_)
          · (refine ⟨?_, ?_, ?_⟩ <;> first | assumption | (simp [*]; done))
          clear hK K
          try simp only [Act.put, List.setIfInBounds_toArray, List.set_cons_zero, List.set_cons_succ]
          refine RegH.takeH (i := 11) (v := ?_) rfl (by kernel_rfl) (by kernel_rfl) (by kernel_rfl) (fun _ _ _ h => h) (Or.inl ⟨by rfl, ?_⟩) (by assumption) ?_
          rotate_left
          · (intro wS hSw; (try dsimp only at hSw); go_simp; try (with_reducible rfl))
          try simp only [Act.put, List.setIfInBounds_toArray, List.set_cons_zero, List.set_cons_succ]
          refine RegH.takeH (i := 12) (v := ?_) rfl (by kernel_rfl) (by kernel_rfl) (by kernel_rfl) (fun _ _ _ h => h) (Or.inl ⟨by rfl, ?_⟩) (by assumption) ?_
          rotate_left
          · (intro wS hSw; (try dsimp only at hSw); go_simp; try (with_reducible rfl))
          try simp only [Act.put, List.setIfInBounds_toArray, List.set_cons_zero, List.set_cons_succ]
          refine RegH.takeH (i := 13) (v := ?_) rfl (by kernel_rfl) (by kernel_rfl) (by kernel_rfl) (fun _ _ _ h => h) (Or.inl ⟨by rfl, ?_⟩) (by assumption) ?_
          rotate_left
          · (intro wS hSw; (try dsimp only at hSw); go_simp; try (with_reducible rfl))
          try simp only [Act.put, List.setIfInBounds_toArray, List.set_cons_zero, List.set_cons_succ]
          refine wpAnyH_done (by kernel_rfl) ?_ _
          go_wp2_with fail
          go_roundw
          case rel => exact ⟨k + 1, HLT.out, by go_num, by rw [HNX.out], below_then HBW.out HBQ.out⟩
          case measure => have := HLT.out; simp [intOf]; omega
      · have hx1 : t / 2 ^ k % 2 = 1 := by omega
        have HNX := Lib.hid (show nearTo G t (k + 1) = nearTo G t k by
          rw [nearTo]
          have : nx G t k = false := by unfold nx; rw [hx1]; rfl
          rw [this]
          rfl)
        rw [hx1] at hbit
        generalize nearTo G t k = x at *
        clear hx hx1 hbw hk4 hlt
        go_wp2_with fail
        refine wp_region_held_drew (S := fun wx => wx.cell? ⟨w.heap.size, 0, none⟩ = some (.int .i64 n) ∧ wx.cell? ⟨w.heap.size, 1, none⟩ = some (.slice a l.length cap) ∧ Kp w wx) (by kernel_rfl) ?_ (fun hHeld => ?_)
        · (refine ⟨?_, ?_, ?_⟩ <;> first | assumption | (simp [*]; done))
        refine RegH.takeH (i := 0) (v := ?_) rfl (by kernel_rfl) (by kernel_rfl) (by kernel_rfl) (fun _ _ _ h => h) (Or.inl ⟨by rfl, ?_⟩) (by assumption) ?_
        rotate_left
        · (intro wS hSw; (try dsimp only at hSw); go_simp; try (with_reducible rfl))
        try simp only [Act.put, List.setIfInBounds_toArray, List.set_cons_zero, List.set_cons_succ]
        refine RegH.takeH (i := 1) (v := ?_) rfl (by kernel_rfl) (by kernel_rfl) (by kernel_rfl) (fun _ _ _ h => h) (Or.inl ⟨by rfl, ?_⟩) (by assumption) ?_
        rotate_left
        · (intro wS hSw; (try dsimp only at hSw); go_simp; try (with_reducible rfl))
        try simp only [Act.put, List.setIfInBounds_toArray, List.set_cons_zero, List.set_cons_succ]
        refine RegH.takeH (i := 2) (v := ?_) rfl (by kernel_rfl) (by kernel_rfl) (by kernel_rfl) (fun _ _ _ h => h) (Or.inl ⟨by rfl, ?_⟩) (by assumption) ?_
        rotate_left
        · (intro wS hSw; (try dsimp only at hSw); go_simp; try (with_reducible rfl))
        try simp only [Act.put, List.setIfInBounds_toArray, List.set_cons_zero, List.set_cons_succ]
        refine RegH.takeH (i := 3) (v := ?_) rfl (by kernel_rfl) (by kernel_rfl) (by kernel_rfl) (fun _ _ _ h => h) (Or.inl ⟨by rfl, ?_⟩) (by assumption) ?_
        rotate_left
        · (intro wS hSw; (try dsimp only at hSw); go_simp; try (with_reducible rfl))
        try simp only [Act.put, List.setIfInBounds_toArray, List.set_cons_zero, List.set_cons_succ]
        refine RegH.takeH (i := 4) (v := ?_) rfl (by kernel_rfl) (by kernel_rfl) (by kernel_rfl) (fun _ _ _ h => h) (Or.inl ⟨by rfl, ?_⟩) (by assumption) ?_
        rotate_left
        · (intro wS hSw; (try dsimp only at hSw); go_simp; try (with_reducible rfl))
        try simp only [Act.put, List.setIfInBounds_toArray, List.set_cons_zero, List.set_cons_succ]
        refine RegH.takeH (i := 5) (v := ?_) rfl (by kernel_rfl) (by kernel_rfl) (by kernel_rfl) (fun _ _ _ h => h) (Or.inl ⟨by rfl, ?_⟩) (by assumption) ?_
        rotate_left
        · (intro wS hSw; (try dsimp only at hSw); go_simp; try (with_reducible rfl))
        try simp only [Act.put, List.setIfInBounds_toArray, List.set_cons_zero, List.set_cons_succ]
        refine RegH.takeH (i := 6) rfl (by kernel_rfl) (by kernel_rfl) (by kernel_rfl) (fun _ _ _ h => h) (Or.inr ⟨by rfl, rfl⟩) (by assumption) ?_
        try simp only [Act.put, List.setIfInBounds_toArray, List.set_cons_zero, List.set_cons_succ]
        refine RegH.takeH (i := 7) rfl (by kernel_rfl) (by kernel_rfl) (by kernel_rfl) (fun _ _ _ h => h) (Or.inr ⟨by rfl, rfl⟩) (by assumption) ?_
        try simp only [Act.put, List.setIfInBounds_toArray, List.set_cons_zero, List.set_cons_succ]
        refine RegH.takeH (i := 8) rfl (by kernel_rfl) (by kernel_rfl) (by kernel_rfl) (fun _ _ _ h => h) (Or.inr ⟨by rfl, rfl⟩) (by assumption) ?_
        try simp only [Act.put, List.setIfInBounds_toArray, List.set_cons_zero, List.set_cons_succ]
        refine RegH.takeH (i := 9) rfl (by kernel_rfl) (by kernel_rfl) (by kernel_rfl) (fun _ _ _ h => h) (Or.inr ⟨by rfl, rfl⟩) (by assumption) ?_
        try simp only [Act.put, List.setIfInBounds_toArray, List.set_cons_zero, List.set_cons_succ]
        refine RegH.takeH (i := 10) rfl (by kernel_rfl) (by kernel_rfl) (by kernel_rfl) (fun _ _ _ h => h) (Or.inr ⟨by rfl, rfl⟩) (by assumption) ?_
        try simp only [Act.put, List.setIfInBounds_toArray, List.set_cons_zero, List.set_cons_succ]
        refine RegH.takeH (i := 11) rfl (by kernel_rfl) (by kernel_rfl) (by kernel_rfl) (fun _ _ _ h => h) (Or.inr ⟨by rfl, rfl⟩) (by assumption) ?_
        try simp only [Act.put, List.setIfInBounds_toArray, List.set_cons_zero, List.set_cons_succ]
        refine RegH.takeH (i := 12) rfl (by kernel_rfl) (by kernel_rfl) (by kernel_rfl) (fun _ _ _ h => h) (Or.inr ⟨by rfl, rfl⟩) (by assumption) ?_
        try simp only [Act.put, List.setIfInBounds_toArray, List.set_cons_zero, List.set_cons_succ]
        refine RegH.takeH (i := 13) (v := ?_) rfl (by kernel_rfl) (by kernel_rfl) (by kernel_rfl) (fun _ _ _ h => h) (Or.inl ⟨by rfl, ?_⟩) (by assumption) ?_
        rotate_left
        · (intro wS hSw; (try dsimp only at hSw); go_simp; try (with_reducible rfl))
        try simp only [Act.put, List.setIfInBounds_toArray, List.set_cons_zero, List.set_cons_succ]
        refine wpAnyH_done (by kernel_rfl) ?_ _
        go_wp2_with fail
        go_roundw
        case rel => exact ⟨k + 1, HLT.out, by go_num, by rw [HNX.out], below_then HBW.out ⟨rfl, rfl, rfl, Nat.le_refl _, fun _ _ => rfl⟩⟩
        case measure => have := HLT.out; simp [intOf]; omega
    · have ek : k = l.length := by omega
      subst ek
      rw [HEND.out]
      clear hbw
      go_wp2_with fail
      go_ret
      exact ⟨rfl, HKP.out⟩
set_option maxRecDepth 100000 in
set_option maxHeartbeats 1600000 in
theorem spec_joined (n : Int) (m : Nat) (u : Value) (l : List A2) (S : Nat → Prop) (w : World) (hr : atomsC.rd w S [u] l) (hq : qOk n l = true) (h1 : 1 ≤ m) (hm : m < 2 ^ l.length) :
    Calls Tryz.prog 115 #[.agg #[.int .i64 n, u], .int .i64 (m : Int)] w fun e w' => e = .returned (.bool (conn (gr l) m)) ∧ Below w.heap.size w w' := by
  have hp := qOk_iff.1 hq
  have hl4 := hp.2.2.2.1
  have h16 : m < 16 := by
    have : 2 ^ l.length ≤ 2 ^ 4 := Nat.pow_le_pow_right (by decide) hl4
    omega
  have HNR := Lib.hid (fun (t : Nat) (ht : t < 16) w' (hb : Below w.heap.size w w') => spec_near n t u l S w' (Cd.later hr hb) ht hl4 hp.in4 (fun A hA => (hp.2.2.2.2.1 A hA).2.2.1))
  obtain ⟨a, cap, rfl, hlm⟩ := Cd.sl_form hr
  have HGL := Lib.hid (gr_lt l)
  have HIT := Lib.hid (fun k (hk : k ≤ 6) => it_lt _ (gr_lt l) m h16 k hk)
  have HZ := Lib.hid (show (((it (gr l) m l.length : Nat) : Int) == (m : Int)) = conn (gr l) m by
    rw [it_len hl4 hm h1]
    unfold conn
    have : (m != 0) = true := by rw [bne_iff_ne]; omega
    rw [this, Bool.true_and, Bool.eq_iff_iff, beq_iff_eq, beq_iff_eq]
    omega)
  have hlow := low_bits m h16
  have HL4 := Lib.hid hl4
  have HM16 := Lib.hid h16
  have hneg : IntKind.i64.wrap (-(m : Int)) = -(m : Int) := by rw [IntKind.wrap_i64]; omega
  clear hr hq hp hm h1
  have HC := Lib.hid (Loc2.of (row_alloc w (.cells #[.int .i64 n, .slice a l.length cap] 29)))
  have HB := Lib.hid (below_alloc w (.cells #[.int .i64 n, .slice a l.length cap] 29))
  generalize gr l = G at *
  go_enter Tryz.func115, Tryz.ntmps115
  go_wp2_with fail
  generalize w.alloc _ = W at *
  clear hlow hneg h16 hl4
  go_loopw [5, 6] (fun x i wr => ∃ k : Nat, k ≤ l.length ∧ i = .int .i64 k ∧ x = .int .i64 (it G m k : Int) ∧ Below W.heap.size W wr) (fun _ i _ => l.length - (intOf i).toNat)
  case atStart => exact ⟨0, Nat.zero_le _, rfl, rfl, Below.refl _ _⟩
  case round =>
    obtain ⟨k, hk, rfl, rfl, hbw⟩ := hrel
    have HBW := Lib.hid hbw
    have HLQ := Lib.hid (HC.out.later hbw)
    have c0 := HLQ.out.c0
    have c1 := HLQ.out.c1
    have HKP := Lib.hid (show Below w.heap.size w wr from below_then HB.out hbw)
    by_cases hlt : k < l.length
    · have HLT := Lib.hid hlt
      have p1 : (0 : Int) ≤ (k : Int) := by omega
      have p2 : (k : Int) < (l.length : Int) := by omega
      have p3 : (l.length : Int) ≤ 4 := by have := HL4.out; omega
      have hx := HIT.out k (by have := HL4.out; omega)
      have HNX := Lib.hid (show it G m (k + 1) = it G m k ||| (near G (it G m k) &&& m) from rfl)
      have hn16 := near_lt G HGL.out _ hx
      have hand := and_nat hn16 HM16.out
      have hor := or_nat hx (and_lt m hn16)
      have HNC := Lib.hid (HNR.out _ hx wr HKP.out)
      clear hbw hx hn16 hlt
      generalize it G m k = x at *
      generalize near G x = y at *
      go_wp2_with fail
      refine HNC.out.mono ?_
      rintro e w2 ⟨rfl, hb2⟩
      have HB2 := Lib.hid (below_then HBW.out hb2)
      clear hb2
      go_wp2_with fail
      go_roundw
      case rel => exact ⟨k + 1, HLT.out, by go_num, by rw [HNX.out], HB2.out⟩
      case measure => have := HLT.out; simp [intOf]; omega
    · have ek : k = l.length := by omega
      subst ek
      clear hbw
      generalize it G m l.length = x at *
      go_wp2_with fail
      go_ret
      exact ⟨ret_b HZ.out, HKP.out⟩
set_option maxRecDepth 100000 in
theorem spec_conn (n m : Int) (u : Value) (l : List A2) (S : Nat → Prop) (w : World) (hr : atomsC.rd w S [u] l) :
    Calls Tryz.prog 68 #[.agg #[.int .i64 n, u], .int .i64 m] w fun e w' => e = .returned (.bool (cOk n l m)) ∧ Below w.heap.size w w' := by
  have HV := Lib.hid (fun w' (hb : Below w.heap.size w w') => spec_mask n m u l S w' (Cd.later hr hb))
  have HR := Lib.hid (fun w' (hb : Below w.heap.size w w') => Cd.later hr hb)
  obtain ⟨a, cap, rfl, hlm⟩ := Cd.sl_form hr
  clear hr
  have HC := Lib.hid (Loc2.of (row_alloc w (.cells #[.int .i64 n, .slice a l.length cap] 29)))
  have HB := Lib.hid (below_alloc w (.cells #[.int .i64 n, .slice a l.length cap] 29))
  cases hq : mOk n l m
  · have HZ := Lib.hid (show false = cOk n l m by unfold cOk; rw [hq]; rfl)
    rw [hq] at HV
    clear hq
    go_enter Tryz.func68, Tryz.ntmps68
    go_wp2_with fail
    generalize w.alloc _ = W at *
    refine (HV.out _ HB.out).mono ?_
    rintro e w1 ⟨rfl, hb1⟩
    have HB1 := Lib.hid (below_then HB.out hb1)
    clear hb1
    go_wp2_with fail
    go_ret
    exact ⟨ret_b HZ.out, HB1.out⟩
  rw [hq] at HV
  obtain ⟨t, rfl, _, htl⟩ := mOk_fm hq
  by_cases h0 : t = 0
  · have HZ := Lib.hid (show false = cOk n l (t : Int) by unfold cOk; rw [h0]; exact (Bool.and_false _).symm)
    subst h0
    have q1 : ¬ ((0 : Int) < ((0 : Nat) : Int)) := by omega
    clear hq
    go_enter Tryz.func68, Tryz.ntmps68
    go_wp2_with fail
    generalize w.alloc _ = W at *
    refine (HV.out _ HB.out).mono ?_
    rintro e w1 ⟨rfl, hb1⟩
    have HB1 := Lib.hid (below_then HB.out hb1)
    clear hb1
    go_wp2_with fail
    go_ret
    exact ⟨ret_b HZ.out, HB1.out⟩
  have h1 : 1 ≤ t := by omega
  have HZ := Lib.hid (show conn (gr l) t = cOk n l (t : Int) by unfold cOk; rw [hq]; rfl)
  have HJ := Lib.hid (fun w' (hb : Below w.heap.size w w') => spec_joined n t (.slice a l.length cap) l S w' (HR.out w' hb) (mOk_iff.1 hq).1 h1 htl)
  have q1 : (0 : Int) < (t : Int) := by omega
  clear hq htl h1 h0
  generalize conn (gr l) t = z at *
  go_enter Tryz.func68, Tryz.ntmps68
  go_wp2_with fail
  generalize w.alloc _ = W at *
  refine (HV.out _ HB.out).mono ?_
  rintro e w1 ⟨rfl, hb1⟩
  have HB1 := Lib.hid (below_then HB.out hb1)
  have c0 := (HC.out.later hb1).c0
  have c1 := (HC.out.later hb1).c1
  clear hb1
  go_wp2_with fail
  refine (HJ.out _ HB1.out).mono ?_
  rintro e w2 ⟨rfl, hb2⟩
  have HB2 := Lib.hid (below_then HB1.out hb2)
  clear hb2
  go_wp2_with fail
  go_ret
  exact ⟨ret_b HZ.out, HB2.out⟩
end Go.Proofs.YtdkhgeknjekkoaaGreat.QgSpec

namespace Go.Proofs.YtdkhgeknjekkoaaGreat.QgSpec
open Go Go.RowKit Byt Ints IntsLaw Cd Rows2 Tab TabSpec Exact Atom QryMath QrySpec QryImp MkAtom SlMath QgMath

theorem fm_pow {n : Int} {l : List A2} {t : Nat} (h1 : 1 ≤ t) (h : t ≤ fm n l) : t < 2 ^ l.length := by
  have := (mOk_iff.1 (fm_mOk h1 h)).2.2
  rw [pow_cast] at this
  omega
theorem fm_q {n : Int} {l : List A2} {t : Nat} (h1 : 1 ≤ t) (h : t ≤ fm n l) : qOk n l = true := (mOk_iff.1 (fm_mOk h1 h)).1
theorem split_zero (G t : Nat) : isSplit G t 0 = false := by unfold isSplit; rw [conn_zero, Bool.false_and, Bool.and_false]
theorem ow_back {w0 w : World} {base : Nat} {v : Value} {l : List Int} (h : OwnI w base 3 v l) (hin : InR l) (hb : w0.heap.size ≤ base) : ∃ fp, rowC.ow w w0.heap.size [v] l fp ∧ fp.Nodup :=
  ⟨_, rowC.ow_base (Cd.ow_of_own h hin) hb, Cd.own_nodup⟩
end Go.Proofs.YtdkhgeknjekkoaaGreat.QgSpec

namespace Go.Proofs.YtdkhgeknjekkoaaGreat.AnsEv
open Go Go.RowKit Byt Ints IntsLaw Cd Rows2 Tab TabSpec Exact Atom QryMath QrySpec QryImp MkAtom AnsMath SlMath TabOpen TabElem QgMath AnsSpec AnsQ DbMath DbSpec Db DbExact QryFor AnsC

def rawsA : Cd (List (Value × Value)) := Cd.sl 48 raw2
/-- The cells of the atoms chosen. -/
def PsOk (w : World) (S : Nat → Prop) (ps : List (Value × Value)) (al : List A2) : Prop := ps.length = al.length ∧ ∀ i (h : i < ps.length) (h' : i < al.length), atomC.rd w S [ps[i].1, ps[i].2] al[i]
theorem PsOk.snoc {w : World} {S : Nat → Prop} {ps : List (Value × Value)} {al : List A2} (h : PsOk w S ps al) {x y : Value} {A : A2} (k : atomC.rd w S [x, y] A) : PsOk w S (ps ++ [(x, y)]) (al ++ [A]) := by
  refine ⟨by rw [List.length_append, List.length_append, h.1]; rfl, fun i h1 h2 => ?_⟩
  by_cases hi : i < ps.length
  · have hi2 : i < al.length := by rw [← h.1]; exact hi
    rw [List.getElem_append_left hi, List.getElem_append_left hi2]
    exact h.2 i hi hi2
  · have e : i = ps.length := by rw [List.length_append] at h1; simp at h1; omega
    subst e
    have e2 : ps.length = al.length := h.1
    simp only [List.getElem_append_right (Nat.le_refl _), Nat.sub_self, List.getElem_cons_zero]
    rw [List.getElem_append_right (by omega)]
    simp only [e2, Nat.sub_self, List.getElem_cons_zero]
    exact k
/-- What the model's loop keeps. -/
structure EvS (w wr : World) (dv : Value) (n : Int) (qv : Value) (ts : List T3) (ps : List (Value × Value)) (o1 o2 : Value) (f1 f2 : List Nat) : Prop where
  c3 : Loc1 wr w.heap.size dv
  c4 : Atom.Loc2 wr (w.heap.size + 1) (.int .i64 n) qv
  c6 : Atom.Loc2 wr (w.heap.size + 1 + 1) (.slice none 0 0) (.slice none 0 0)
  t : tabsC.ow wr (w.heap.size + 3) [o1] ts f1
  tn : f1.Nodup
  a : rawsA.ow wr (w.heap.size + 3) [o2] ps f2
  an : f2.Nodup
  dis : ∀ b ∈ f1, b ∉ f2
  hb : Below w.heap.size w wr
  sz : w.heap.size + 3 ≤ wr.heap.size
theorem EvS.later {w wr w' : World} {dv : Value} {n : Int} {qv : Value} {ts : List T3} {ps : List (Value × Value)} {o1 o2 : Value} {f1 f2 : List Nat} (h : EvS w wr dv n qv ts ps o1 o2 f1 f2) (hb : Below wr.heap.size wr w') : EvS w w' dv n qv ts ps o1 o2 f1 f2 :=
  ⟨h.c3.later hb, h.c4.later hb, h.c6.later hb, Cd.ow_later h.t hb, h.tn, Cd.ow_later h.a hb, h.an, h.dis, below_then h.hb hb, Nat.le_trans h.sz hb.size⟩
theorem EvS.f1_ge {w wr : World} {dv : Value} {n : Int} {qv : Value} {ts : List T3} {ps : List (Value × Value)} {o1 o2 : Value} {f1 f2 : List Nat} (h : EvS w wr dv n qv ts ps o1 o2 f1 f2) : ∀ b ∈ f1, w.heap.size + 3 ≤ b ∧ b < wr.heap.size := fun b hb => tabsC.ow_lt h.t b hb
theorem EvS.f2_ge {w wr : World} {dv : Value} {n : Int} {qv : Value} {ts : List T3} {ps : List (Value × Value)} {o1 o2 : Value} {f1 f2 : List Nat} (h : EvS w wr dv n qv ts ps o1 o2 f1 f2) : ∀ b ∈ f2, w.heap.size + 3 ≤ b ∧ b < wr.heap.size := fun b hb => rawsA.ow_lt h.a b hb
theorem lt_alloc (w : World) (o : Obj) : w.heap.size < (w.alloc o).heap.size := by rw [size_alloc]; exact Nat.lt_succ_self _
/-- A table appended. -/
theorem EvS.tab {w wA w5 : World} {dv : Value} {n : Int} {qv : Value} {ts ts' : List T3} {ps : List (Value × Value)} {o1 o2 o' : Value} {f1 f2 f' fT : List Nat} (h : EvS w wA dv n qv ts ps o1 o2 f1 f2) (ho : tabsC.ow w5 (w.heap.size + 3) [o'] ts' f') (hn : f'.Nodup)
    (hs : ∀ b ∈ f', b ∈ f1 ∨ b ∈ fT ∨ wA.heap.size ≤ b) (ht : Cd.Touch f1 wA w5) (hd : ∀ b ∈ fT, b ∉ f2) : EvS w w5 dv n qv ts' ps o' o2 f' f2 := by
  have h1 := h.f1_ge
  have h2 := h.f2_ge
  refine ⟨h.c3.touched ht (fun q => by have := h1 _ q; omega), h.c4.touched ht (fun q => by have := h1 _ q; omega), h.c6.touched ht (fun q => by have := h1 _ q; omega), ho, hn, Cd.ow_touched h.a ht (fun b hb q => h.dis b q hb), h.an, fun b hb q => ?_, Cd.Touch.below h.hb ht (fun b hb => by have := h1 b hb; omega), Nat.le_trans h.sz ht.size⟩
  rcases hs b hb with r | r | r
  · exact h.dis b r q
  · exact hd b r q
  · have := h2 b q; omega
/-- An atom appended. -/
theorem EvS.atm {w wA w5 : World} {dv : Value} {n : Int} {qv : Value} {ts : List T3} {ps ps' : List (Value × Value)} {o1 o2 o' : Value} {f1 f2 f' : List Nat} (h : EvS w wA dv n qv ts ps o1 o2 f1 f2) (ho : rawsA.ow w5 (w.heap.size + 3) [o'] ps' f') (hn : f'.Nodup)
    (hs : ∀ b ∈ f', b ∈ f2 ∨ b ∈ ([] : List Nat) ∨ wA.heap.size ≤ b) (ht : Cd.Touch f2 wA w5) : EvS w w5 dv n qv ts ps' o1 o' f1 f' := by
  have h1 := h.f1_ge
  have h2 := h.f2_ge
  refine ⟨h.c3.touched ht (fun q => by have := h2 _ q; omega), h.c4.touched ht (fun q => by have := h2 _ q; omega), h.c6.touched ht (fun q => by have := h2 _ q; omega), Cd.ow_touched h.t ht (fun b hb q => h.dis b hb q), h.tn, ho, hn, fun b hb q => ?_, Cd.Touch.below h.hb ht (fun b hb => by have := h2 b hb; omega), Nat.le_trans h.sz ht.size⟩
  rcases hs b q with r | r | r
  · exact h.dis b hb r
  · cases r
  · have := h1 b hb; omega
theorem EvS.start {w W : World} {dv : Value} {n : Int} {qv : Value} {e3 e4 e6 : TypeId} (h : ((w.alloc (.cells #[dv] e3 (0, 0))).alloc (.cells #[.int .i64 n, qv] e4 (0, 0))).alloc (.cells #[.slice none 0 0, .slice none 0 0] e6 (0, 0)) = W) :
    Loc1 W w.heap.size dv ∧ Atom.Loc2 W (w.heap.size + 1) (.int .i64 n) qv ∧ Atom.Loc2 W (w.heap.size + 1 + 1) (.slice none 0 0) (.slice none 0 0) ∧ Below w.heap.size w W ∧ W.heap.size = w.heap.size + 3 := by
  obtain ⟨r0, r1, r2, hz, hb0⟩ := start3 w _ _ _ h
  exact ⟨Loc1.of r0, Atom.Loc2.of r1, Atom.Loc2.of r2, hb0, hz⟩

set_option maxRecDepth 100000 in
set_option maxHeartbeats 6400000 in
theorem spec_eval (u v : Value) (d : List T3) (n m : Int) (l : List A2) (S1 S2 : Nat → Prop) (w : World) (h1 : tabsC.rd w S1 [u] d) (h2 : atomsC.rd w S2 [v] l) (hw : SlTable.wtS d ≤ 1048577) :
    Calls Tryz.prog 11 #[.agg #[u], .agg #[.int .i64 n, v], .int .i64 m] w fun e w' => EvAns (evV d n l m) (evR d n l m) (evOk d n l m) w e w' := by
  have HF := Lib.hid (fun w' (hb : Below w.heap.size w w') => spec_for u v d n l S1 S2 w' (Cd.later h1 hb) (Cd.later h2 hb) hw)
  have HFM := Lib.hid (fun w' (hb : Below w.heap.size w w') => QgSpec.spec_full n v l S2 w' (Cd.later h2 hb))
  have HMV := Lib.hid (fun w' (hb : Below w.heap.size w w') => spec_maskvars n m v l S2 w' (Cd.later h2 hb))
  have HL := Lib.hid (fun nm w' (hb : Below w.heap.size w w') => spec_look u d nm S1 w' (Cd.later h1 hb) hw)
  have HRD := Lib.hid h2
  obtain ⟨a1, cap1, rfl, _⟩ := Cd.sl_form h1
  obtain ⟨a, cap, rfl, _⟩ := Cd.sl_form h2
  clear h1 h2 hw
  cases hfo : forOk d n l
  · have hno : evOk d n l m = false := by unfold evOk; rw [hfo]; rfl
    rw [(ev_no hno).1, (ev_no hno).2, hno]
    rw [hfo] at HF
    clear hfo hno
    go_enter Tryz.func11, Tryz.ntmps11
    go_wp2_with fail
    generalize hW : ((w.alloc _).alloc _).alloc _ = W
    obtain ⟨l3, l4, l6, hb0, hz⟩ := EvS.start hW
    clear hW
    refine (HF.out _ hb0).mono ?_
    rintro e w1 ⟨rfl, hb1⟩
    have c0 := (l6.later hb1).c0
    have c1 := (l6.later hb1).c1
    have f0 := (l6.later hb1).f0
    have f1 := (l6.later hb1).f1
    have HB := Lib.hid (below_then hb0 hb1)
    have HK := Lib.hid (Loc2.set_both (l6.later hb1) (.slice none 0 0) (.slice none 0 0))
    clear hb0 hb1 l3 l4 l6 hz
    go_wp2_with fail
    have k0 := HK.out.c0
    have k1 := HK.out.c1
    refine bodyPost_ret (v := .tuple #[.agg #[.slice none 0 0, .slice none 0 0], .bool false]) (by simp [results, Tryz.results11, go_sem, k0, k1]) rfl (EvAns.no ((HB.out.setCell (by show _ ≤ w.heap.size + 1 + 1; omega) _).setCell (by show _ ≤ w.heap.size + 1 + 1; omega) _))
  rw [hfo] at HF
  by_cases hrg : 1 ≤ m ∧ m ≤ (fm n l : Int)
  case neg =>
    have hno : evOk d n l m = false := by unfold evOk; rw [hfo, decide_eq_false hrg]; rfl
    rw [(ev_no hno).1, (ev_no hno).2, hno]
    have HI := Lib.hid (fun w => Fixed.l1In_no hrg w)
    clear hfo hno hrg
    generalize (fm n l : Int) = F at *
    go_enter Tryz.func11, Tryz.ntmps11
    go_wp2_with fail
    generalize hW : ((w.alloc _).alloc _).alloc _ = W
    obtain ⟨l3, l4, l6, hb0, hz⟩ := EvS.start hW
    clear hW
    refine (HF.out _ hb0).mono ?_
    rintro e w1 ⟨rfl, hb1⟩
    have L4 := Lib.hid (l4.later hb1)
    have L6 := Lib.hid (l6.later hb1)
    have HB := Lib.hid (below_then hb0 hb1)
    clear hb0 hb1 l3 l4 l6 hz
    have y0 := L4.out.c0
    have y1 := L4.out.c1
    go_wp2_with fail
    refine (HFM.out _ HB.out).mono ?_
    rintro e w2 ⟨rfl, hb2⟩
    have HB2 := Lib.hid (below_then HB.out hb2)
    have l6 := L6.out.later hb2
    have c0 := l6.c0
    have c1 := l6.c1
    have f0 := l6.f0
    have f1 := l6.f1
    have HK := Lib.hid (Loc2.set_both l6 (.slice none 0 0) (.slice none 0 0))
    clear hb2 l6 y0 y1
    go_wp2_with (go_at_call 51; refine (HI.out _).mono ?_; rintro e w3 ⟨rfl, rfl⟩)
    have k0 := HK.out.c0
    have k1 := HK.out.c1
    refine bodyPost_ret (v := .tuple #[.agg #[.slice none 0 0, .slice none 0 0], .bool false]) (by simp [results, Tryz.results11, go_sem, k0, k1]) rfl (EvAns.no ((HB2.out.setCell (by show _ ≤ w.heap.size + 1 + 1; omega) _).setCell (by show _ ≤ w.heap.size + 1 + 1; omega) _))
  have hok : evOk d n l m = true := by unfold evOk; rw [hfo, decide_eq_true hrg]; rfl
  obtain ⟨t, rfl, ht1, ht16, htl, hmb⟩ := evOk_mB hok
  have HI := Lib.hid (fun w => Fixed.l1In_yes hrg.1 hrg.2 w)
  have HOK := Lib.hid hok
  have HFO := Lib.hid hfo
  have HQP := Lib.hid (for_qp hfo)
  have HMB := Lib.hid hmb
  have HT := Lib.hid (And.intro ht16 htl)
  clear hfo hrg hok ht1 htl hmb
  generalize (fm n l : Int) = F at *
  go_enter Tryz.func11, Tryz.ntmps11
  go_wp2_with fail
  generalize hW : ((w.alloc _).alloc _).alloc _ = W
  obtain ⟨l3, l4, l6, hb0, hz⟩ := EvS.start hW
  clear hW
  refine (HF.out _ hb0).mono ?_
  rintro e w1 ⟨rfl, hb1⟩
  have L3 := Lib.hid (l3.later hb1)
  have L4 := Lib.hid (l4.later hb1)
  have L6 := Lib.hid (l6.later hb1)
  have HB := Lib.hid (below_then hb0 hb1)
  have HZ := Lib.hid (show w.heap.size + 3 ≤ w1.heap.size by have := hb1.size; omega)
  clear hb0 hb1 l3 l4 l6 hz
  have y0 := L4.out.c0
  have y1 := L4.out.c1
  go_wp2_with fail
  refine (HFM.out _ HB.out).mono ?_
  rintro e w2 ⟨rfl, hb2⟩
  have HB2 := Lib.hid (below_then HB.out hb2)
  have HZ2 := Lib.hid (show w.heap.size + 3 ≤ w2.heap.size by have := hb2.size; have := HZ.out; omega)
  replace L3 := Lib.hid (L3.out.later hb2)
  replace L4 := Lib.hid (L4.out.later hb2)
  replace L6 := Lib.hid (L6.out.later hb2)
  clear hb2 y0 y1
  go_wp2_with (go_at_call 51; refine (HI.out _).mono ?_; rintro e w3 ⟨rfl, rfl⟩)
  have hst : EvS w ((w2.alloc (.cells #[] 44)).alloc (.cells #[] 48)) (.slice a1 d.length cap1) n (.slice a l.length cap) [] [] (.slice (some ⟨w2.heap.size, 0, none⟩) 0 0) (.slice (some ⟨w2.heap.size + 1, 0, none⟩) 0 0) [w2.heap.size] [w2.heap.size + 1] := by
    have hb := below_then (below_alloc w2 (.cells #[] 44)) (below_alloc _ (.cells #[] 48))
    have hz1 := size_alloc w2 (.cells #[] 44)
    have e1 := Cd.ow_later (Cd.ow_empty (e := 44) (c := tabC) w2 (w.heap.size + 3) HZ2.out) (below_alloc (w2.alloc (.cells #[] 44)) (.cells #[] 48))
    have e2 := Cd.ow_empty (e := 48) (c := raw2) (w2.alloc (.cells #[] 44)) (w.heap.size + 3) (by have := HZ2.out; omega)
    rw [hz1] at e2
    exact ⟨L3.out.later hb, L4.out.later hb, L6.out.later hb, e1, by simp, e2, by simp, by simp, below_then HB2.out hb, Nat.le_trans HZ2.out hb.size⟩
  generalize (w2.alloc _).alloc _ = W2 at *
  generalize w2.heap.size + 1 = X1 at *
  generalize w2.heap.size = X0 at *
  have HST := Lib.hid hst
  clear hst L3 L4 L6 HZ HZ2 HB HB2
  go_loopw [8, 9, 10] (fun o1 o2 i wr => ∃ (k : Nat) (f1 f2 : List Nat) (ps : List (Value × Value)), k ≤ l.length ∧ i = .int .i64 k ∧ EvS w wr (.slice a1 d.length cap1) n (.slice a l.length cap) ((selA l t k).map fun A => lkT d A.1) ps o1 o2 f1 f2 ∧ Hid (PsOk w S2 ps (selA l t k))) (fun _ _ i _ => l.length - (intOf i).toNat)
  case atStart => exact ⟨0, _, _, [], Nat.zero_le _, rfl, HST.out, Lib.hid ⟨rfl, fun i h => by simp at h⟩⟩
  case round =>
    obtain ⟨k, f1, f2, ps, hk, rfl, hst, hps⟩ := hrel
    obtain ⟨ao1, co1, rfl⟩ := Cd.ow_slice (c := tabC) hst.t
    obtain ⟨ao2, co2, rfl⟩ := Cd.ow_slice (c := raw2) hst.a
    have HST := Lib.hid hst
    have y1 := hst.c4.c1
    clear hst
    by_cases hlt : k < l.length
    · obtain ⟨b, off, cap', us, e1, hSb, hbB, hat, hu⟩ := Cd.sl_at HRD.out hlt
      injection e1 with e1 e2 e3
      subst e1 e3
      obtain ⟨ua, rfl, hsz, hua⟩ := atom_cells hu
      have q0 := hat 0 (by simp)
      have q1 := hat 1 (by simp)
      simp only [List.getElem_cons_zero, List.getElem_cons_succ, Nat.add_zero, show atomC.n = 2 from rfl] at q0 q1
      have HQ := Lib.hid (And.intro q0 (And.intro q1 hbB))
      have hbit := bit_at ht16 k
      have HL4 := Lib.hid HQP.out.2.2.2.1
      have p1 : (0 : Int) ≤ (k : Int) := by omega
      have p2 : (k : Int) < (l.length : Int) := by omega
      have p3 : (k : Int) ≤ 64 := by have := HL4.out; omega
      have p4 : ((k : Int)).toNat = k := by omega
      have p5 : (k : Int) < 4 := by have := HL4.out; omega
      have HLT := Lib.hid hlt
      by_cases hx : t / 2 ^ k % 2 = 1
      case neg =>
        have h0 : t / 2 ^ k % 2 = 0 := by omega
        rw [h0] at hbit
        have HNX := Lib.hid (selA_no (l := l) hx)
        clear hx h0 hu hat q0 q1 hua e2
        go_wp2_with fail
        go_roundw
        case rel => exact ⟨k + 1, f1, f2, ps, by have := HLT.out; omega, by go_num, by rw [HNX.out]; exact HST.out, by rw [HNX.out]; exact hps⟩
        case measure => have := HLT.out; simp [intOf]; omega
      rw [hx] at hbit
      have HNX := Lib.hid (selA_yes hlt hx)
      have HPS := Lib.hid (PsOk.snoc hps.out hu)
      have hft := for_tab HFO.out (List.getElem_mem hlt)
      have HSOME := Lib.hid hft.2.2
      have HOKT := Lib.hid hft.1
      clear hx hu hat q0 q1 hua e2 hft hps
      generalize l[k] = A at *
      clear hlt
      generalize hTT : lkT d A.1 = T at *
      have HLK := Lib.hid (fun w' (hq : LaterQ wr w') => (show Calls Tryz.prog 19 #[.agg #[.slice a1 d.length cap1], .string A.1] w' fun e w'' => ∃ ta tc fp, e = .returned (.tuple #[.agg #[.string T.1, .int .i64 T.2.1, .slice ta T.2.2.length tc], .bool true]) ∧ rowsC.ow w'' w'.heap.size [.slice ta T.2.2.length tc] T.2.2 fp ∧ fp.Nodup ∧ Below w'.heap.size w' w'' from
        (HL.out A.1 w' (below_then HST.out.hb hq)).mono (by
          rintro e w'' ⟨tv, fp, rfl, how, hnd, hbq⟩
          rw [hTT] at how ⊢
          rw [HSOME.out]
          obtain ⟨ta, tc, rfl⟩ := Cd.ow_slice (c := rowC) how
          exact ⟨ta, tc, fp, rfl, how, hnd, hbq⟩)))
      have HTT := Lib.hid hTT
      clear hTT
      have HLL := Lib.hid (show ((selA l t k).map fun A => lkT d A.1).length + 1 ≤ 1000000000 by rw [List.length_map]; have h1 := selA_len l t k; have h2 := HL4.out; omega)
      have HT2 := Lib.hid (show (selA l t k ++ [A]).map (fun A => lkT d A.1) = (selA l t k).map (fun A => lkT d A.1) ++ [T] by rw [List.map_append, List.map_singleton, HTT.out])
      generalize (selA l t k).map (fun A => lkT d A.1) = LT at *
      have hq0 := (HST.out.hb.cell (p := ⟨b, off + k * 2, none⟩) HQ.out.2.2).trans HQ.out.1
      have lb : b < wr.heap.size := Nat.lt_of_lt_of_le HQ.out.2.2 HST.out.hb.size
      have g0 := HST.out.c3.c0
      have gl0 := HST.out.c3.lt
      have gl1 := HST.out.c4.lt
      have HSQ := Lib.hid (fun wx (h : LaterQ wr wx) => (show wx.cell? ⟨w.heap.size, 0, none⟩ = some (.slice a1 d.length cap1) ∧ wx.cell? ⟨w.heap.size + 1, 1, none⟩ = some (.slice (some ⟨b, off, none⟩) l.length cap) ∧ wx.cell? ⟨b, off + k * 2, none⟩ = some (.string A.1) ∧ LaterQ wr wx from
        ⟨(Below.cell h (p := ⟨w.heap.size, 0, none⟩) gl0).trans g0, (Below.cell h (p := ⟨w.heap.size + 1, 1, none⟩) gl1).trans y1, (Below.cell h (p := ⟨b, off + k * 2, none⟩) lb).trans hq0, h⟩))
      clear hq0 lb g0 gl0 gl1
      go_upto_region 9 with fail
      have kk : LaterQ wr wr.drew := (Below.refl _ wr).drew
      go_cut [11, 12] (fun s11 s12 wx => s12 = .bool true ∧ MadeO wr T s11 wx)
      case first =>
        go_region_held3 (fun wx => wx.cell? ⟨w.heap.size, 0, none⟩ = some (.slice a1 d.length cap1) ∧ wx.cell? ⟨w.heap.size + 1, 1, none⟩ = some (.slice (some ⟨b, off, none⟩) l.length cap) ∧ wx.cell? ⟨b, off + k * 2, none⟩ = some (.string A.1) ∧ LaterQ wr wx)
          ((refine HSQ.out _ ?_; first | assumption | exact Below.drew (Below.refl _ wr) | exact later_alloc (by assumption) _ | exact later_drewA wr _ | exact later_set3 (by first | assumption | exact later_alloc (by assumption) _) (later_size (by first | assumption | exact Below.refl _ _))))
          (first | (go_at_call 19; refine (HLK.out _ (by first | assumption | exact later_alloc (by assumption) _ | exact later_drewA wr _)).mono ?_; rintro e wq ⟨ta, tc, fT, rfl, how, hnd, hbq⟩; (have kk : LaterQ wr wq := (show Below wr.heap.size wr wq by refine below_then (show LaterQ wr _ from ?_) hbq; first | assumption | exact later_alloc (by assumption) _ | exact later_drewA wr _)); (have HOW := Lib.hid (And.intro how hnd)); (first | (have GL := Lib.hid (GL.out.later hbq)) | (have GL := Lib.hid (locQ_new' hbq)) | (have GL := Lib.hid (locQ_new hbq)) | (have GL := Lib.hid (locQ_new3 hbq)) | skip); (first | (have x0 := GL.out.c0; have x1 := GL.out.c1; have x2 := GL.out.c2; have f0 := GL.out.f0; have f1 := GL.out.f1; have f2 := GL.out.f2) | skip); (have hS := HSQ.out wq kk); (have k0 := hS.1); (have k1 := hS.2.1); (have k2 := hS.2.2.1); clear hbq how hnd hS))
        all_goals
          go_wp2_with fail
          go_meet
          refine ⟨rfl, ?_⟩
          first
            | (have GG := GL.out; exact madeO (by assumption) (later_size (by first | assumption | exact Below.refl _ _)) GG HOW.out.1 HOW.out.2 (lt_alloc _ _))
            | ((with_reducible refine madeO2 (by assumption) HOW.out.1 HOW.out.2 ?_); exact Nat.le_refl wr.heap.size)
      case rest =>
        obtain ⟨rfl, kp, ta, tc, fT, rfl, hkp, hl3, hoT, hnT, hlat⟩ := hcut
        have hX := HST.out.later hlat
        have HX := Lib.hid hX
        have x0 := hl3.c0
        have x1 := hl3.c1
        have x2 := hl3.c2
        have hA := below_alloc wc (.cells #[.string T.1, .int .i64 T.2.1, .slice ta T.2.2.length tc] 44 (0, 0))
        have HXA := Lib.hid (hX.later hA)
        have htp : TabP _ _ _ := of_decide_eq_true HOKT.out
        have HOT := Lib.hid (tab_ow (nm := T.1) (ar := T.2.1) (Cd.ow_later (rowsC.ow_base hoT HST.out.sz) hA) (show T.1.size ≤ maxLen by have := (of_decide_eq_true htp.1).1; unfold maxLen; omega) (by have := htp.2.1; have := htp.2.2.1; omega))
        have HAT := Lib.hid (at3 (row_alloc wc (.cells #[.string T.1, .int .i64 T.2.1, .slice ta T.2.2.length tc] 44 (0, 0))))
        have HFA := Lib.hid (show ∀ b ∈ fT, b ∉ f1 from fun b hb q => by
          have h1 := (rowsC.ow_lt hoT b hb).1
          have h2 := (HST.out.f1_ge b q).2
          omega)
        have HFB := Lib.hid (show ∀ b ∈ fT, b ∉ f2 from fun b hb q => by
          have h1 := (rowsC.ow_lt hoT b hb).1
          have h2 := (HST.out.f2_ge b q).2
          omega)
        have HPL := Lib.hid (show ps.length + 1 ≤ 1000000000 by have h0 := HPS.out.1; rw [List.length_append, List.length_append] at h0; simp at h0; have h1 := selA_len l t k; have h2 := HL4.out; omega)
        have HNT := Lib.hid hnT
        clear hX hA htp hl3 hoT hnT hlat hkp kk y1
        go_wp2_with (at_builtin; refine Cd.wpList_appendN (c := tabC) rfl (.tmp 51) (.tmp 53) 24 rfl (w.heap.size + 3) 44 (.agg #[.string ⟨#[]⟩, .int .i64 0, .slice none 0 0]) 3 48 rfl Tryz.underlying24 SlTable.info_x rfl (by decide) _ LT f1 rfl HXA.out.t HXA.out.tn wc.heap.size _ rfl HAT.out T fT HOT.out HNT.out HFA.out HLL.out HXA.out.sz ?_)
        intro g5 cap5 w5 f5 ho5 hn5 hs5 ht5
        have hY := HXA.out.tab ho5 hn5 (by rw [size_alloc]; exact hs5) ht5 HFB.out
        have HY := Lib.hid hY
        have z1 := hY.c4.c1
        have r0 := (hY.hb.cell (p := ⟨b, off + k * 2, none⟩) HQ.out.2.2).trans HQ.out.1
        have r1 := (hY.hb.cell (p := ⟨b, off + k * 2 + 1, none⟩) HQ.out.2.2).trans HQ.out.2.1
        have HYA := Lib.hid (hY.later (below_alloc w5 (.cells #[.string A.1, ua] 48 (0, 0))))
        have HAT2 := Lib.hid (QryPar.at2 (row_alloc w5 (.cells #[.string A.1, ua] 48 (0, 0))))
        have HUA := Lib.hid (show ua.oneCell' = true from by
          have := atomC.one (HPS.out.2 ps.length (by simp) (by have h0 := HPS.out.1; rw [← h0]; simp))
          simp at this
          exact this.2)
        clear hY ho5 hn5 hs5 ht5 x0 x1 x2
        go_wp2_with (at_builtin; refine Cd.wpList_appendN (c := raw2) rfl (.tmp 55) (.tmp 61) 27 rfl (w.heap.size + 3) 48 (.agg #[.string ⟨#[]⟩, .slice none 0 0]) 2 40 rfl Tryz.underlying27 QryPar.info_atom rfl (by decide) _ ps f2 rfl HYA.out.a HYA.out.an w5.heap.size _ rfl HAT2.out (.string A.1, ua) [] ⟨rfl, ⟨rfl, HUA.out⟩, rfl⟩ (by simp) (by simp) HPL.out HYA.out.sz ?_)
        intro g6 cap6 w6 f6 ho6 hn6 hs6 ht6
        have HZZ := Lib.hid (HYA.out.atm ho6 hn6 (by rw [size_alloc]; simpa using hs6) ht6)
        clear ho6 hn6 hs6 ht6 z1 r0 r1
        go_wp2_with fail
        go_roundw
        case rel => exact ⟨k + 1, f5, f6, _, by have := HLT.out; omega, by go_num, by rw [HNX.out, HT2.out]; exact HZZ.out, by rw [HNX.out]; exact HPS⟩
        case measure => have := HLT.out; simp [intOf]; omega
    · have ek : k = l.length := by omega
      subst ek
      have HPS := Lib.hid hps.out
      have hLEN := HPS.out.1
      have HVL := Lib.hid (varsL_len (mB n l (t : Int)))
      have HRES := Lib.hid (show evV d n l (t : Int) = varsL (mB n l (t : Int)) ∧ evR d n l (t : Int) = walkL (varsL (mB n l (t : Int))) (rels ((selA l t l.length).map fun A => lkT d A.1) (selA l t l.length)) (varsL (mB n l (t : Int))).length [] by
        rw [rels_map]
        unfold evV evR
        rw [HOK.out]
        exact ⟨rfl, rfl⟩)
      have HWALK := Lib.hid (spec_walk ((selA l t l.length).map fun A => lkT d A.1) (selA l t l.length) (List.length_map ..) (fun i h h' r hr => by
        rw [List.getElem_map] at hr
        exact ((rel_ok HFO.out (selA_mem _ (Nat.le_refl _) _ (List.getElem_mem h'))).2.2.2 r hr).1) (varsL (mB n l (t : Int))) HVL.out (varsL (mB n l (t : Int))).length)
      clear hps hlt hk
      generalize varsL (mB n l (t : Int)) = vs at *
      generalize (selA l t l.length).map (fun A => lkT d A.1) = LT at *
      generalize selA l t l.length = LA at *
      have y0 := HST.out.c4.c0
      go_wp2_with fail
      refine (HMV.out _ HST.out.hb).mono ?_
      rintro e w5 ⟨uv, fv, rfl, hov, hnv, hb5⟩
      obtain ⟨av, cv, rfl⟩ := Cd.ow_slice hov
      have hX := HST.out.later hb5
      have hA := below_alloc w5 (.cells #[] 3)
      have HXA := Lib.hid (hX.later hA)
      have HOV := Lib.hid (Cd.ow_later (rowC.ow_base hov HST.out.hb.size) hA)
      have HNV := Lib.hid hnv
      have HVG := Lib.hid (show ∀ b ∈ fv, w.heap.size + 3 ≤ b from fun b hb => Nat.le_trans HST.out.sz (rowC.ow_lt hov b hb).1)
      have hrd2 := raw_rd (c := atomC) rfl HXA.out.a hLEN (S := fun b => b ∈ f2 ∨ b < w.heap.size) (fun i h h' => Cd.mono _ (Cd.below (c := atomC) (Cd.mono _ (HPS.out.2 i h h') fun b hb _ => hb) HXA.out.hb) fun b _ hb => .inr hb) (fun b hb => .inl hb)
      have hrd1 := tabsC.ow_rd HXA.out.t
      have hrd3 := rowC.ow_rd HOV.out
      have hrd4 : rowC.rd (w5.alloc (.cells #[] 3)) (fun b => b ∈ [w5.heap.size]) [.slice (some ⟨w5.heap.size, 0, none⟩) 0 0] [] := rowC.ow_rd (Cd.ow_empty (e := 3) (c := Cd.int) w5 0 (Nat.zero_le _))
      have HCALL := Lib.hid (HWALK.out [] _ _ _ _ _ _ _ _ _ hrd1 hrd2 hrd3 hrd4 (by simp))
      clear hrd1 hrd2 hrd3 hrd4 hX hA hov hnv hb5 hLEN y0 y1
      go_wp2_with fail
      refine HCALL.out.mono ?_
      rintro e w6 ⟨rv, fr, rfl, hor, hnr, hb6⟩
      obtain ⟨ar, cr, rfl⟩ := Cd.ow_slice (c := rowC) hor
      have hY := HXA.out.later hb6
      have HY := Lib.hid hY.hb
      have HL6 := Lib.hid hY.c6
      have HOV2 := Lib.hid (Cd.ow_later HOV.out hb6)
      have HOR := Lib.hid (rowsC.ow_base hor HXA.out.hb.size)
      have HNR := Lib.hid (show (fv ++ fr).Nodup from List.nodup_append.2 ⟨HNV.out, hnr, fun a ha b hb q => by
        have h1 := (rowC.ow_lt HOV.out a ha).2
        have h2 := (rowsC.ow_lt hor b hb).1
        omega⟩)
      have HFV := Lib.hid (show w.heap.size + 1 + 1 ∉ fv ++ fr from fun q => by
        rcases List.mem_append.1 q with q | q
        · have := HVG.out _ q; omega
        · have h2 := (rowsC.ow_lt hor _ q).1
          have h3 := HXA.out.sz
          omega)
      have c0 := hY.c6.c0
      have c1 := hY.c6.c1
      have f0 := hY.c6.f0
      have f1 := hY.c6.f1
      have HK := Lib.hid (Loc2.set_both hY.c6 (.slice av vs.length cv) (.slice ar (walkL vs (rels LT LA) vs.length []).length cr))
      clear hY hor hnr hb6
      go_wp2_with fail
      have k0 := HK.out.c0
      have k1 := HK.out.c1
      refine bodyPost_ret (v := .tuple #[.agg #[.slice av vs.length cv, .slice ar (walkL vs (rels LT LA) vs.length []).length cr], .bool true]) (by simp [results, Tryz.results11, go_sem, k0, k1]) rfl
        (by
          rw [HRES.out.1, HRES.out.2, HOK.out]
          exact ⟨_, _, fv ++ fr, rfl, Tab.ow_setCell (c := ansC) (Tab.ow_setCell (c := ansC) (ans_ow HOV2.out HOR.out) HFV.out _) HFV.out _, HNR.out, (HY.out.setCell (by show _ ≤ w.heap.size + 1 + 1; omega) _).setCell (by show _ ≤ w.heap.size + 1 + 1; omega) _⟩)
end Go.Proofs.YtdkhgeknjekkoaaGreat.AnsEv

namespace Go.Proofs.YtdkhgeknjekkoaaGreat.AnsImp
open Go Go.RowKit Byt Ints IntsLaw Cd Rows2 Tab TabSpec Exact Atom AnsMath

def arrV (f : Nat → Int) : Value := .agg #[.int .i64 (f 0), .int .i64 (f 1), .int .i64 (f 2), .int .i64 (f 3)]
def arrO (f : Nat → Int) (e : TypeId) : Obj := .cells #[.int .i64 (f 0), .int .i64 (f 1), .int .i64 (f 2), .int .i64 (f 3)] e (0, 0)
/-- Four cells of a block. -/
structure Loc4 (w : World) (X : Nat) (a b c d : Int) : Prop where
  c0 : w.cell? ⟨X, 0, none⟩ = some (.int .i64 a)
  c1 : w.cell? ⟨X, 1, none⟩ = some (.int .i64 b)
  c2 : w.cell? ⟨X, 2, none⟩ = some (.int .i64 c)
  c3 : w.cell? ⟨X, 3, none⟩ = some (.int .i64 d)
  f0 : w.frozen? ⟨X, 0, none⟩ = false
  f1 : w.frozen? ⟨X, 1, none⟩ = false
  f2 : w.frozen? ⟨X, 2, none⟩ = false
  f3 : w.frozen? ⟨X, 3, none⟩ = false
theorem Loc4.of {w : World} {X : Nat} {a b c d : Int} {e : TypeId} (h : w.heap[X]? = some (.cells #[.int .i64 a, .int .i64 b, .int .i64 c, .int .i64 d] e (0, 0))) : Loc4 w X a b c d :=
  ⟨by simp [World.cell?, h], by simp [World.cell?, h], by simp [World.cell?, h], by simp [World.cell?, h], by simp [World.frozen?, h], by simp [World.frozen?, h], by simp [World.frozen?, h], by simp [World.frozen?, h]⟩
theorem Loc4.keep {w w' : World} {X : Nat} {a b c d : Int} (h : Loc4 w X a b c d) (hk : w'.heap[X]? = w.heap[X]?) : Loc4 w' X a b c d :=
  ⟨(World.cell?_of_block (w := w) (a := ⟨X, 0, none⟩) hk).trans h.c0, (World.cell?_of_block (w := w) (a := ⟨X, 1, none⟩) hk).trans h.c1, (World.cell?_of_block (w := w) (a := ⟨X, 2, none⟩) hk).trans h.c2, (World.cell?_of_block (w := w) (a := ⟨X, 3, none⟩) hk).trans h.c3,
    (World.frozen?_of_block (w := w) (a := ⟨X, 0, none⟩) hk).trans h.f0, (World.frozen?_of_block (w := w) (a := ⟨X, 1, none⟩) hk).trans h.f1, (World.frozen?_of_block (w := w) (a := ⟨X, 2, none⟩) hk).trans h.f2, (World.frozen?_of_block (w := w) (a := ⟨X, 3, none⟩) hk).trans h.f3⟩
theorem Loc4.lt {w : World} {X : Nat} {a b c d : Int} (h : Loc4 w X a b c d) : X < w.heap.size := World.block_lt_of_cell? w _ h.c0
theorem Loc4.touched {w w' : World} {X : Nat} {a b c d : Int} {fp : List Nat} (h : Loc4 w X a b c d) (ht : Cd.Touch fp w w') (hn : X ∉ fp) : Loc4 w' X a b c d := h.keep (ht.block X h.lt hn)
theorem Loc4.later {w w' : World} {X : Nat} {a b c d : Int} (h : Loc4 w X a b c d) (hb : Below w.heap.size w w') : Loc4 w' X a b c d := h.keep (hb.block X h.lt)
theorem Loc4.drew {w : World} {X : Nat} {a b c d : Int} (h : Loc4 w X a b c d) : Loc4 w.drew X a b c d := ⟨h.c0, h.c1, h.c2, h.c3, h.f0, h.f1, h.f2, h.f3⟩
theorem Loc4.drewN {w : World} {X m : Nat} {a b c d : Int} (h : Loc4 w X a b c d) : Loc4 (w.drewN m) X a b c d := ⟨h.c0, h.c1, h.c2, h.c3, h.f0, h.f1, h.f2, h.f3⟩
theorem Loc4.far {w : World} {X : Nat} {a b c d : Int} (h : Loc4 w X a b c d) {p : Addr} (hp : X ≠ p.block) (v : Value) : Loc4 (w.setCell p v) X a b c d := h.keep (Below.heap_setCell w p v X hp)
theorem Loc4.set0 {w : World} {X : Nat} {a b c d : Int} (h : Loc4 w X a b c d) (x : Int) : Loc4 (w.setCell ⟨X, 0, none⟩ (.int .i64 x)) X x b c d :=
  ⟨World.cell?_setCell_same _ _ _ h.c0, (World.cell?_setCell_other _ _ _ _ (by simp)).trans h.c1, (World.cell?_setCell_other _ _ _ _ (by simp)).trans h.c2, (World.cell?_setCell_other _ _ _ _ (by simp)).trans h.c3, by simpa using h.f0, by simpa using h.f1, by simpa using h.f2, by simpa using h.f3⟩
theorem Loc4.set1 {w : World} {X : Nat} {a b c d : Int} (h : Loc4 w X a b c d) (x : Int) : Loc4 (w.setCell ⟨X, 1, none⟩ (.int .i64 x)) X a x c d :=
  ⟨(World.cell?_setCell_other _ _ _ _ (by simp)).trans h.c0, World.cell?_setCell_same _ _ _ h.c1, (World.cell?_setCell_other _ _ _ _ (by simp)).trans h.c2, (World.cell?_setCell_other _ _ _ _ (by simp)).trans h.c3, by simpa using h.f0, by simpa using h.f1, by simpa using h.f2, by simpa using h.f3⟩
theorem Loc4.set2 {w : World} {X : Nat} {a b c d : Int} (h : Loc4 w X a b c d) (x : Int) : Loc4 (w.setCell ⟨X, 2, none⟩ (.int .i64 x)) X a b x d :=
  ⟨(World.cell?_setCell_other _ _ _ _ (by simp)).trans h.c0, (World.cell?_setCell_other _ _ _ _ (by simp)).trans h.c1, World.cell?_setCell_same _ _ _ h.c2, (World.cell?_setCell_other _ _ _ _ (by simp)).trans h.c3, by simpa using h.f0, by simpa using h.f1, by simpa using h.f2, by simpa using h.f3⟩
theorem Loc4.set3 {w : World} {X : Nat} {a b c d : Int} (h : Loc4 w X a b c d) (x : Int) : Loc4 (w.setCell ⟨X, 3, none⟩ (.int .i64 x)) X a b c x :=
  ⟨(World.cell?_setCell_other _ _ _ _ (by simp)).trans h.c0, (World.cell?_setCell_other _ _ _ _ (by simp)).trans h.c1, (World.cell?_setCell_other _ _ _ _ (by simp)).trans h.c2, World.cell?_setCell_same _ _ _ h.c3, by simpa using h.f0, by simpa using h.f1, by simpa using h.f2, by simpa using h.f3⟩
/-- All four written. -/
theorem Loc4.all {w : World} {X : Nat} {a b c d : Int} (h : Loc4 w X a b c d) (x y z u : Int) :
    Loc4 ((((w.setCell ⟨X, 0, none⟩ (.int .i64 x)).setCell ⟨X, 1, none⟩ (.int .i64 y)).setCell ⟨X, 2, none⟩ (.int .i64 z)).setCell ⟨X, 3, none⟩ (.int .i64 u)) X x y z u := (((h.set0 x).set1 y).set2 z).set3 u
theorem below_set4 {B : Nat} {a w : World} {X : Nat} {x y z u : Value} (h : Below B a w) (hX : B ≤ X) :
    Below B a ((((w.setCell ⟨X, 0, none⟩ x).setCell ⟨X, 1, none⟩ y).setCell ⟨X, 2, none⟩ z).setCell ⟨X, 3, none⟩ u) := (((h.setCell hX _).setCell hX _).setCell hX _).setCell hX _

set_option maxRecDepth 100000 in
set_option maxHeartbeats 1600000 in
theorem impl_empty (w : World) : Calls Tryz.prog 96 #[] w fun e w' => e = .returned (arrV emp) ∧ Below w.heap.size w w' := by
  go_enter Tryz.func96, Tryz.ntmps96
  go_wp2_with fail
  generalize hW : (w.alloc _).alloc _ = W
  obtain ⟨r0, r1, hz, hb0⟩ := start2g w _ _ hW
  have L0 := Lib.hid (Loc4.of r0)
  have L1 := Lib.hid (Loc4.of r1)
  have HB := Lib.hid hb0
  clear hW r0 r1 hb0
  go_loopw [3] (fun s wr => ∃ k : Nat, k ≤ 4 ∧ s = .int .i64 k ∧ Loc4 wr w.heap.size 0 0 0 0 ∧ Loc4 wr (w.heap.size + 1) (if 0 < k then -1 else 0) (if 1 < k then -1 else 0) (if 2 < k then -1 else 0) (if 3 < k then -1 else 0) ∧ Below w.heap.size w wr) (fun s _ => 4 - (intOf s).toNat)
  case atStart => exact ⟨0, by omega, rfl, L0.out, L1.out, HB.out⟩
  case round =>
    obtain ⟨k, hk, rfl, h0, h1, hb⟩ := hrel
    have H0 := Lib.hid h0
    have HBW := Lib.hid hb
    have hk5 : k = 0 ∨ k = 1 ∨ k = 2 ∨ k = 3 ∨ k = 4 := by omega
    rcases hk5 with rfl | rfl | rfl | rfl | rfl
    · simp at h1
      have H1 := Lib.hid h1
      have c0 := h1.c0
      have f0 := h1.f0
      clear h0 h1 hb hk
      go_wp2_with fail
      go_roundw
      case rel => exact ⟨1, by omega, rfl, H0.out.far (by simp) _, by simpa using H1.out.set0 (-1), HBW.out.setCell (by simp) _⟩
      case measure => simp [intOf]
    · simp at h1
      have H1 := Lib.hid h1
      have c1 := h1.c1
      have f1 := h1.f1
      clear h0 h1 hb hk
      go_wp2_with fail
      go_roundw
      case rel => exact ⟨2, by omega, rfl, H0.out.far (by simp) _, by simpa using H1.out.set1 (-1), HBW.out.setCell (by simp) _⟩
      case measure => simp [intOf]
    · simp at h1
      have H1 := Lib.hid h1
      have c2 := h1.c2
      have f2 := h1.f2
      clear h0 h1 hb hk
      go_wp2_with fail
      go_roundw
      case rel => exact ⟨3, by omega, rfl, H0.out.far (by simp) _, by simpa using H1.out.set2 (-1), HBW.out.setCell (by simp) _⟩
      case measure => simp [intOf]
    · simp at h1
      have H1 := Lib.hid h1
      have c3 := h1.c3
      have f3 := h1.f3
      clear h0 h1 hb hk
      go_wp2_with fail
      go_roundw
      case rel => exact ⟨4, by omega, rfl, H0.out.far (by simp) _, by simpa using H1.out.set3 (-1), HBW.out.setCell (by simp) _⟩
      case measure => simp [intOf]
    · simp at h1
      have c0 := h1.c0
      have c1 := h1.c1
      have c2 := h1.c2
      have c3 := h1.c3
      have d0 := h0.c0
      have d1 := h0.c1
      have d2 := h0.c2
      have d3 := h0.c3
      have f0 := h0.f0
      have f1 := h0.f1
      have f2 := h0.f2
      have f3 := h0.f3
      have HQ := Lib.hid (h0.all (-1) (-1) (-1) (-1))
      clear h0 h1 hb hk
      go_wp2_with fail
      have g0 := HQ.out.c0
      have g1 := HQ.out.c1
      have g2 := HQ.out.c2
      have g3 := HQ.out.c3
      refine bodyPost_ret (v := arrV emp) (by simp [results, Tryz.results96, go_sem, g0, g1, g2, g3, arrV, emp]) rfl ⟨rfl, below_set4 HBW.out (Nat.le_refl _)⟩
end Go.Proofs.YtdkhgeknjekkoaaGreat.AnsImp

namespace Go.Proofs.YtdkhgeknjekkoaaGreat.AnsImp
open Go Go.RowKit Byt Ints IntsLaw Cd Rows2 Tab TabSpec Exact Atom AnsMath

def stepF (g : Nat → Int) (p : Int × Int) : Option (Nat → Int) := if g p.1.toNat ≠ -1 ∧ g p.1.toNat ≠ p.2 then none else some (upd g p.1.toNat p.2)
theorem extF_snoc : ∀ (zs : List (Int × Int)) (f : Nat → Int) (p : Int × Int), extF f (zs ++ [p]) = (extF f zs).bind fun g => stepF g p
  | [], f, p => by
    show extF f [p] = stepF f p
    unfold extF stepF
    split <;> rfl
  | z :: zs, f, p => by
    show extF f (z :: (zs ++ [p])) = _
    unfold extF
    split
    · rfl
    · exact extF_snoc zs _ p
theorem extF_stop {zs : List (Int × Int)} {f : Nat → Int} (h : extF f zs = none) (ys : List (Int × Int)) : extF f (zs ++ ys) = none := by
  induction ys generalizing zs with
  | nil => rw [List.append_nil]; exact h
  | cons y ys ih =>
    rw [show zs ++ y :: ys = (zs ++ [y]) ++ ys by simp]
    exact ih (by rw [extF_snoc, h]; rfl)
def extV (r : Option (Nat → Int)) : Value := .tuple #[arrV (r.getD fun _ => 0), .bool r.isSome]
theorem zip_more {vs row : List Int} (hl : row.length = vs.length) {k : Nat} (hk : k < vs.length) : (vs.zip row).take (k + 1) = (vs.zip row).take k ++ [(vs[k], row[k]'(by omega))] := by
  have h : k < (vs.zip row).length := by rw [List.length_zip]; omega
  rw [List.take_succ_eq_append_getElem h, List.getElem_zip]
theorem ext_yes {f g : Nat → Int} {vs row : List Int} (hl : row.length = vs.length) {k : Nat} (hk : k < vs.length) (hg : extF f ((vs.zip row).take k) = some g) {v x : Int} (hv : vs[k] = v) (hx : row[k]'(by omega) = x)
    (h : g v.toNat = -1 ∨ g v.toNat = x) : extF f ((vs.zip row).take (k + 1)) = some (upd g v.toNat x) := by
  subst hv hx
  rw [zip_more hl hk, extF_snoc, hg]
  show stepF g _ = _
  unfold stepF
  rw [if_neg]
  intro q
  rcases h with r | r
  · exact q.1 r
  · exact q.2 r
theorem ext_no {f g : Nat → Int} {vs row : List Int} (hl : row.length = vs.length) {k : Nat} (hk : k < vs.length) (hg : extF f ((vs.zip row).take k) = some g) {v x : Int} (hv : vs[k] = v) (hx : row[k]'(by omega) = x)
    (h1 : g v.toNat ≠ -1) (h2 : g v.toNat ≠ x) : extF f (vs.zip row) = none := by
  subst hv hx
  rw [← List.take_append_drop (k + 1) (vs.zip row)]
  refine extF_stop ?_ _
  rw [zip_more hl hk, extF_snoc, hg]
  show stepF g _ = _
  unfold stepF
  rw [if_pos ⟨h1, h2⟩]
theorem dn_below {B m : Nat} {w w' : World} (h : Below B w w') : Below B w (w'.drewN m) := ⟨h.os, h.tape, h.output, h.size, h.block⟩
abbrev LocF (w : World) (X : Nat) (g : Nat → Int) : Prop := Loc4 w X (g 0) (g 1) (g 2) (g 3)

set_option maxRecDepth 100000 in
set_option maxHeartbeats 6400000 in
theorem impl_extend (f : Nat → Int) (vv rv : Value) (vs row : List Int) (S1 S2 : Nat → Prop) (w : World) (h1 : rowC.rd w S1 [vv] vs) (h2 : rowC.rd w S2 [rv] row) (h4 : ∀ v ∈ vs, 0 ≤ v ∧ v < 4) (hl : row.length = vs.length) :
    Calls Tryz.prog 95 #[arrV f, vv, rv] w fun e w' => e = .returned (extV (extF f (vs.zip row))) ∧ Below w.heap.size w w' := by
  have HR1 := Lib.hid (fun w' (hb : Below w.heap.size w w') => row_ri (Cd.later h1 hb))
  have HR2 := Lib.hid (fun w' (hb : Below w.heap.size w w') => row_ri (Cd.later h2 hb))
  obtain ⟨a1, c1, rfl, hl1⟩ := row_form h1
  obtain ⟨a2, c2, rfl, hl2⟩ := row_form h2
  have H4 := Lib.hid h4
  have HL := Lib.hid hl
  clear h1 h2 h4 hl
  unfold arrV
  go_enter Tryz.func95, Tryz.ntmps95
  go_wp2_with fail
  generalize hW : (w.alloc _).alloc _ = W
  obtain ⟨r0, r1, hz, hb0⟩ := start2g w _ _ hW
  have L0 := Lib.hid (Loc4.of r0)
  have L1 := Lib.hid (Loc4.of r1)
  have HB := Lib.hid hb0
  clear hW r0 r1 hb0
  go_loopw [12] (fun s wr => ∃ (k : Nat) (g : Nat → Int), k ≤ vs.length ∧ s = .int .i64 k ∧ Hid (extF f ((vs.zip row).take k) = some g) ∧ LocF wr w.heap.size g ∧ Loc4 wr (w.heap.size + 1) 0 0 0 0 ∧ Below w.heap.size w wr) (fun s _ => vs.length - (intOf s).toNat)
  case atStart => exact ⟨0, f, Nat.zero_le _, rfl, Lib.hid rfl, L0.out, L1.out, HB.out⟩
  case round =>
    obtain ⟨k, g, hk, rfl, hg, h0, h1, hb⟩ := hrel
    have HBW := Lib.hid hb
    have H1 := Lib.hid h1
    have H0 := Lib.hid h0
    by_cases hlt : k < vs.length
    · have hlt2 : k < row.length := by rw [HL.out]; exact hlt
      obtain ⟨b, off, cap', e1, _, hx1⟩ := ri_at (HR1.out wr hb).1 hlt
      injection e1 with e1 e2 e3
      subst e1 e3
      obtain ⟨b', off', cap', e1, _, hx2⟩ := ri_at (HR2.out wr hb).1 hlt2
      injection e1 with e1 e2 e3
      subst e1 e3
      have hv4 := H4.out _ (List.getElem_mem hlt)
      have HLT := Lib.hid hlt
      have p1 : (0 : Int) ≤ (k : Int) := by omega
      have p2 : (k : Int) < (vs.length : Int) := by omega
      have p3 : (k : Int) < (row.length : Int) := by omega
      have HYES := Lib.hid (fun (v x : Int) (hv : vs[k] = v) (hx : row[k] = x) (h : g v.toNat = -1 ∨ g v.toNat = x) => ext_yes HL.out hlt hg.out hv hx h)
      have HNO := Lib.hid (fun (v x : Int) (hv : vs[k] = v) (hx : row[k] = x) (h : g v.toNat ≠ -1) (h' : g v.toNat ≠ x) => ext_no HL.out hlt hg.out hv hx h h')
      have c0 := h0.c0
      have c1 := h0.c1
      have c2 := h0.c2
      have c3 := h0.c3
      have f0 := h0.f0
      have f1 := h0.f1
      have f2 := h0.f2
      have f3 := h0.f3
      have HVE := Lib.hid (rfl : vs[k] = vs[k])
      clear h0 h1 hb hg
      generalize hve : vs[k] = v at *
      generalize hxe : row[k] = x at *
      have HVK := Lib.hid hve
      have HXK := Lib.hid hxe
      clear hve hxe HVE
      have hv5 : v = 0 ∨ v = 1 ∨ v = 2 ∨ v = 3 := by omega
      clear hv4
      rcases hv5 with rfl | rfl | rfl | rfl
      · by_cases hm : g 0 = -1
        · have t1 : (g 0 != -1) = false := by rw [bne_eq_false_iff_eq]; exact hm
          have HE := Lib.hid (HYES.out _ _ rfl rfl (Or.inl hm))
          clear hm HYES HNO
          generalize g 0 = z at *
          go_wp2
          go_quiet (fail)
          go_wp2
          go_roundw
          case rel => exact ⟨k + 1, _, by have := HLT.out; omega, by go_num, HE, H0.out.drewN.set0 x, H1.out.drewN.far (by simp) _, (dn_below HBW.out).setCell (Nat.le_refl _) _⟩
          case measure => have := HLT.out; simp [intOf]; omega
        · have t1 : (g 0 != -1) = true := by rw [bne_iff_ne]; exact hm
          by_cases hx : g 0 = x
          · have t2 : (g 0 != x) = false := by rw [bne_eq_false_iff_eq]; exact hx
            have HE := Lib.hid (HYES.out _ _ rfl rfl (Or.inr hx))
            clear hm hx HYES HNO
            go_wp2
            go_quiet (fail)
            go_wp2
            go_roundw
            case rel => exact ⟨k + 1, _, by have := HLT.out; omega, by go_num, HE, H0.out.drewN.set0 x, H1.out.drewN.far (by simp) _, (dn_below HBW.out).setCell (Nat.le_refl _) _⟩
            case measure => have := HLT.out; simp [intOf]; omega
          · have t2 : (g 0 != x) = true := by rw [bne_iff_ne]; exact hx
            have HE := Lib.hid (HNO.out _ _ rfl rfl hm hx)
            have d0 := H1.out.c0
            have d1 := H1.out.c1
            have d2 := H1.out.c2
            have d3 := H1.out.c3
            have e0 := H1.out.f0
            have e1 := H1.out.f1
            have e2 := H1.out.f2
            have e3 := H1.out.f3
            clear hm hx HYES HNO
            go_wp2
            go_quiet (fail)
            go_wp2
            rename_i nq
            have HQ := Lib.hid ((H1.out.drewN (m := nq)).all 0 0 0 0)
            have g0 := HQ.out.c0
            have g1 := HQ.out.c1
            have g2 := HQ.out.c2
            have g3 := HQ.out.c3
            refine bodyPost_ret (v := extV none) (by simp [results, Tryz.results95, go_sem, g0, g1, g2, g3, arrV, extV]) rfl ⟨by rw [HE.out], below_set4 (dn_below HBW.out) (by omega)⟩
      · by_cases hm : g 1 = -1
        · have t1 : (g 1 != -1) = false := by rw [bne_eq_false_iff_eq]; exact hm
          have HE := Lib.hid (HYES.out _ _ rfl rfl (Or.inl hm))
          clear hm HYES HNO
          generalize g 1 = z at *
          go_wp2
          go_quiet (fail)
          go_wp2
          go_roundw
          case rel => exact ⟨k + 1, _, by have := HLT.out; omega, by go_num, HE, H0.out.drewN.set1 x, H1.out.drewN.far (by simp) _, (dn_below HBW.out).setCell (Nat.le_refl _) _⟩
          case measure => have := HLT.out; simp [intOf]; omega
        · have t1 : (g 1 != -1) = true := by rw [bne_iff_ne]; exact hm
          by_cases hx : g 1 = x
          · have t2 : (g 1 != x) = false := by rw [bne_eq_false_iff_eq]; exact hx
            have HE := Lib.hid (HYES.out _ _ rfl rfl (Or.inr hx))
            clear hm hx HYES HNO
            go_wp2
            go_quiet (fail)
            go_wp2
            go_roundw
            case rel => exact ⟨k + 1, _, by have := HLT.out; omega, by go_num, HE, H0.out.drewN.set1 x, H1.out.drewN.far (by simp) _, (dn_below HBW.out).setCell (Nat.le_refl _) _⟩
            case measure => have := HLT.out; simp [intOf]; omega
          · have t2 : (g 1 != x) = true := by rw [bne_iff_ne]; exact hx
            have HE := Lib.hid (HNO.out _ _ rfl rfl hm hx)
            have d0 := H1.out.c0
            have d1 := H1.out.c1
            have d2 := H1.out.c2
            have d3 := H1.out.c3
            have e0 := H1.out.f0
            have e1 := H1.out.f1
            have e2 := H1.out.f2
            have e3 := H1.out.f3
            clear hm hx HYES HNO
            go_wp2
            go_quiet (fail)
            go_wp2
            rename_i nq
            have HQ := Lib.hid ((H1.out.drewN (m := nq)).all 0 0 0 0)
            have g0 := HQ.out.c0
            have g1 := HQ.out.c1
            have g2 := HQ.out.c2
            have g3 := HQ.out.c3
            refine bodyPost_ret (v := extV none) (by simp [results, Tryz.results95, go_sem, g0, g1, g2, g3, arrV, extV]) rfl ⟨by rw [HE.out], below_set4 (dn_below HBW.out) (by omega)⟩
      · by_cases hm : g 2 = -1
        · have t1 : (g 2 != -1) = false := by rw [bne_eq_false_iff_eq]; exact hm
          have HE := Lib.hid (HYES.out _ _ rfl rfl (Or.inl hm))
          clear hm HYES HNO
          generalize g 2 = z at *
          go_wp2
          go_quiet (fail)
          go_wp2
          go_roundw
          case rel => exact ⟨k + 1, _, by have := HLT.out; omega, by go_num, HE, H0.out.drewN.set2 x, H1.out.drewN.far (by simp) _, (dn_below HBW.out).setCell (Nat.le_refl _) _⟩
          case measure => have := HLT.out; simp [intOf]; omega
        · have t1 : (g 2 != -1) = true := by rw [bne_iff_ne]; exact hm
          by_cases hx : g 2 = x
          · have t2 : (g 2 != x) = false := by rw [bne_eq_false_iff_eq]; exact hx
            have HE := Lib.hid (HYES.out _ _ rfl rfl (Or.inr hx))
            clear hm hx HYES HNO
            go_wp2
            go_quiet (fail)
            go_wp2
            go_roundw
            case rel => exact ⟨k + 1, _, by have := HLT.out; omega, by go_num, HE, H0.out.drewN.set2 x, H1.out.drewN.far (by simp) _, (dn_below HBW.out).setCell (Nat.le_refl _) _⟩
            case measure => have := HLT.out; simp [intOf]; omega
          · have t2 : (g 2 != x) = true := by rw [bne_iff_ne]; exact hx
            have HE := Lib.hid (HNO.out _ _ rfl rfl hm hx)
            have d0 := H1.out.c0
            have d1 := H1.out.c1
            have d2 := H1.out.c2
            have d3 := H1.out.c3
            have e0 := H1.out.f0
            have e1 := H1.out.f1
            have e2 := H1.out.f2
            have e3 := H1.out.f3
            clear hm hx HYES HNO
            go_wp2
            go_quiet (fail)
            go_wp2
            rename_i nq
            have HQ := Lib.hid ((H1.out.drewN (m := nq)).all 0 0 0 0)
            have g0 := HQ.out.c0
            have g1 := HQ.out.c1
            have g2 := HQ.out.c2
            have g3 := HQ.out.c3
            refine bodyPost_ret (v := extV none) (by simp [results, Tryz.results95, go_sem, g0, g1, g2, g3, arrV, extV]) rfl ⟨by rw [HE.out], below_set4 (dn_below HBW.out) (by omega)⟩
      · by_cases hm : g 3 = -1
        · have t1 : (g 3 != -1) = false := by rw [bne_eq_false_iff_eq]; exact hm
          have HE := Lib.hid (HYES.out _ _ rfl rfl (Or.inl hm))
          clear hm HYES HNO
          generalize g 3 = z at *
          go_wp2
          go_quiet (fail)
          go_wp2
          go_roundw
          case rel => exact ⟨k + 1, _, by have := HLT.out; omega, by go_num, HE, H0.out.drewN.set3 x, H1.out.drewN.far (by simp) _, (dn_below HBW.out).setCell (Nat.le_refl _) _⟩
          case measure => have := HLT.out; simp [intOf]; omega
        · have t1 : (g 3 != -1) = true := by rw [bne_iff_ne]; exact hm
          by_cases hx : g 3 = x
          · have t2 : (g 3 != x) = false := by rw [bne_eq_false_iff_eq]; exact hx
            have HE := Lib.hid (HYES.out _ _ rfl rfl (Or.inr hx))
            clear hm hx HYES HNO
            go_wp2
            go_quiet (fail)
            go_wp2
            go_roundw
            case rel => exact ⟨k + 1, _, by have := HLT.out; omega, by go_num, HE, H0.out.drewN.set3 x, H1.out.drewN.far (by simp) _, (dn_below HBW.out).setCell (Nat.le_refl _) _⟩
            case measure => have := HLT.out; simp [intOf]; omega
          · have t2 : (g 3 != x) = true := by rw [bne_iff_ne]; exact hx
            have HE := Lib.hid (HNO.out _ _ rfl rfl hm hx)
            have d0 := H1.out.c0
            have d1 := H1.out.c1
            have d2 := H1.out.c2
            have d3 := H1.out.c3
            have e0 := H1.out.f0
            have e1 := H1.out.f1
            have e2 := H1.out.f2
            have e3 := H1.out.f3
            clear hm hx HYES HNO
            go_wp2
            go_quiet (fail)
            go_wp2
            rename_i nq
            have HQ := Lib.hid ((H1.out.drewN (m := nq)).all 0 0 0 0)
            have g0 := HQ.out.c0
            have g1 := HQ.out.c1
            have g2 := HQ.out.c2
            have g3 := HQ.out.c3
            refine bodyPost_ret (v := extV none) (by simp [results, Tryz.results95, go_sem, g0, g1, g2, g3, arrV, extV]) rfl ⟨by rw [HE.out], below_set4 (dn_below HBW.out) (by omega)⟩
    · have ek : k = vs.length := by omega
      subst ek
      have hzl : (vs.zip row).length = vs.length := by rw [List.length_zip, HL.out]; omega
      have hgo := hg.out
      rw [← hzl, List.take_length] at hgo
      have HE := Lib.hid hgo
      have c0 := h0.c0
      have c1 := h0.c1
      have c2 := h0.c2
      have c3 := h0.c3
      have d0 := h1.c0
      have d1 := h1.c1
      have d2 := h1.c2
      have d3 := h1.c3
      have e0 := h1.f0
      have e1 := h1.f1
      have e2 := h1.f2
      have e3 := h1.f3
      have HQ := Lib.hid (h1.all (g 0) (g 1) (g 2) (g 3))
      clear h0 h1 hb hg hgo hzl
      go_wp2_with fail
      have g0 := HQ.out.c0
      have g1 := HQ.out.c1
      have g2 := HQ.out.c2
      have g3 := HQ.out.c3
      refine bodyPost_ret (v := extV (some g)) (by simp [results, Tryz.results95, go_sem, g0, g1, g2, g3, arrV, extV]) rfl ⟨by rw [HE.out], below_set4 HBW.out (by omega)⟩
end Go.Proofs.YtdkhgeknjekkoaaGreat.AnsImp

namespace Go.Proofs.YtdkhgeknjekkoaaGreat.AnsImp
open Go Go.RowKit Byt Ints IntsLaw Cd Rows2 Tab TabSpec Exact Atom AnsMath TabImp

theorem ext_bd : ∀ {zs : List (Int × Int)} {f g : Nat → Int}, extF f zs = some g → (∀ v, -1 ≤ f v ∧ f v ≤ 9) → (∀ p ∈ zs, 0 ≤ p.2 ∧ p.2 ≤ 9) → ∀ v, -1 ≤ g v ∧ g v ≤ 9
  | [], f, g, h, hf, _ => by
    injection h with h
    subst h
    exact hf
  | p :: ps, f, g, h, hf, hz => by
    unfold extF at h
    split at h
    · cases h
    · refine ext_bd h (fun v => ?_) fun q hq => hz q (List.mem_cons.2 (.inr hq))
      unfold upd
      split
      · have := hz p (List.mem_cons.2 (.inl rfl))
        omega
      · exact hf v
theorem emp_bd : ∀ v, -1 ≤ emp v ∧ emp v ≤ 9 := fun v => by unfold emp; omega
/-- What a row of the next relation gives. -/
def stepM (f : Nat → Int) (vars : List Int) (rest : List Rel) (row : List Int) : List (Nat → Int) := match extF f (vars.zip row) with | none => [] | some g => matF g rest
def upTo (f : Nat → Int) (R : Rel) (rest : List Rel) (k : Nat) : List (Nat → Int) := (R.2.take k).flatMap (stepM f R.1 rest)
theorem upTo_succ {f : Nat → Int} {R : Rel} {rest : List Rel} {k : Nat} (hk : k < R.2.length) : upTo f R rest (k + 1) = upTo f R rest k ++ stepM f R.1 rest R.2[k] := by
  unfold upTo
  rw [List.take_succ_eq_append_getElem hk, List.flatMap_append]
  simp
theorem upTo_all (f : Nat → Int) (R : Rel) (rest : List Rel) : upTo f R rest R.2.length = matF f (R :: rest) := by
  unfold upTo
  rw [List.take_length]
  rfl
theorem len_step {f : Nat → Int} {vars : List Int} {rest : List Rel} {row : List Int} (h : ∀ R ∈ rest, RelOk R) : (stepM f vars rest row).length ≤ 8 ^ rest.length := by
  unfold stepM
  split
  · simp
  · exact len_mat h
theorem len_upTo {f : Nat → Int} {R : Rel} {rest : List Rel} (h : ∀ R ∈ rest, RelOk R) (k : Nat) : (upTo f R rest k).length ≤ k * 8 ^ rest.length := by
  have := len_flatMap_le (stepM f R.1 rest) (8 ^ rest.length) (R.2.take k) fun row _ => len_step h
  rw [List.length_take] at this
  exact Nat.le_trans this (Nat.mul_le_mul_right _ (Nat.min_le_left _ _))
def arrL (f : Nat → Int) : List Int := [f 0, f 1, f 2, f 3]
theorem sel_arr {f : Nat → Int} {vs : List Int} (h : ∀ v ∈ vs, 0 ≤ v ∧ v < 4) : selOk (arrL f) vs = true ∧ selR (arrL f) vs = selF vs f := by
  refine ⟨decide_eq_true fun c hc => h c hc, ?_⟩
  unfold selR selF
  refine List.map_congr_left fun v hv => ?_
  have hv4 := h v hv
  have : v = 0 ∨ v = 1 ∨ v = 2 ∨ v = 3 := by omega
  rcases this with rfl | rfl | rfl | rfl <;> rfl
theorem arr_rd {w : World} {X : Nat} {f : Nat → Int} {c : Nat} (h : LocF w X f) (hb : ∀ v, -1 ≤ f v ∧ f v ≤ 9) : rowC.rd w (fun b => b = X) [.slice (some ⟨X, 0, none⟩) 4 c] (arrL f) := by
  refine ⟨_, c, rfl, by simp [arrL], .inr ⟨X, 0, rfl, rfl, h.lt, fun t ht => ⟨[.int .i64 (arrL f)[t]], fun j hj => ?_, rfl, ?_⟩⟩⟩
  · have hj0 : j = 0 := by simpa using hj
    subst hj0
    have ht4 : t < 4 := by simpa [arrL] using ht
    have : t = 0 ∨ t = 1 ∨ t = 2 ∨ t = 3 := by omega
    rcases this with rfl | rfl | rfl | rfl
    · exact h.c0
    · exact h.c1
    · exact h.c2
    · exact h.c3
  · have ht4 : t < 4 := by simpa [arrL] using ht
    have : t = 0 ∨ t = 1 ∨ t = 2 ∨ t = 3 := by omega
    have h0 := hb 0
    have h1 := hb 1
    have h2 := hb 2
    have h3 := hb 3
    rcases this with rfl | rfl | rfl | rfl
    · show _ ≤ f 0 ∧ f 0 ≤ _; omega
    · show _ ≤ f 1 ∧ f 1 ≤ _; omega
    · show _ ≤ f 2 ∧ f 2 ≤ _; omega
    · show _ ≤ f 3 ∧ f 3 ≤ _; omega
abbrev relC : Cd Rel := Cd.pair rowC rowsC

def relsC : Cd (List Rel) := Cd.sl 80 relC
theorem rel_cells {w : World} {S : Nat → Prop} {cs : List Value} {R : Rel} (h : relC.rd w S cs R) : ∃ a c a' c', cs = [.slice a R.1.length c, .slice a' R.2.length c'] ∧ rowC.rd w S [.slice a R.1.length c] R.1 ∧ rowsC.rd w S [.slice a' R.2.length c'] R.2 := by
  obtain ⟨u1, u2, rfl, h1, h2⟩ := h
  have l1 := rowC.len h1
  have l2 := rowsC.len h2
  match u1, u2, l1, l2 with
  | [x], [y], _, _ =>
    obtain ⟨a, c, rfl, _⟩ := row_form h1
    obtain ⟨a', c', rfl, _⟩ := rows_form h2
    exact ⟨a, c, a', c', rfl, h1, h2⟩
def cloV (bR bV bO bM : Nat) : Value := .func (.func 93) #[] #[.pointer (some ⟨bR, 0, none⟩), .pointer (some ⟨bV, 0, none⟩), .pointer (some ⟨bO, 0, none⟩), .pointer (some ⟨bM, 0, none⟩)]
/-- The variables that the closure captures, and what they lead to. -/
structure EnvJ (w : World) (l : List Rel) (vs : List Int) (S : Nat → Prop) (ur uv : Value) (B0 bR bV bO bM : Nat) : Prop where
  r : w.cell? ⟨bR, 0, none⟩ = some ur
  v : w.cell? ⟨bV, 0, none⟩ = some uv
  m : w.cell? ⟨bM, 0, none⟩ = some (cloV bR bV bO bM)
  hr : relsC.rd w S [ur] l
  hv : rowC.rd w S [uv] vs
  nR : bR ≠ bO
  nV : bV ≠ bO
  nM : bM ≠ bO
  nS : ¬ S bO
  lR : bR < B0
  lV : bV < B0
  lO : bO < B0
  lM : bM < B0
  lS : ∀ b, S b → b < B0
  le : B0 ≤ w.heap.size
theorem EnvJ.touched {w w' : World} {l : List Rel} {vs : List Int} {S : Nat → Prop} {ur uv : Value} {B0 bR bV bO bM : Nat} {fp : List Nat} (h : EnvJ w l vs S ur uv B0 bR bV bO bM) (ht : Cd.Touch (bO :: fp) w w') (hf : ∀ b ∈ fp, B0 ≤ b) : EnvJ w' l vs S ur uv B0 bR bV bO bM := by
  have hno : ∀ b, b < B0 → b ≠ bO → b ∉ bO :: fp := fun b hb hne q => by
    rcases List.mem_cons.1 q with e | e
    · exact hne e
    · have := hf b e; omega
  exact ⟨ht.cell h.r (hno _ h.lR h.nR), ht.cell h.v (hno _ h.lV h.nV), ht.cell h.m (hno _ h.lM h.nM), Cd.touched h.hr ht (fun b hb q => hno b (h.lS b q) (fun e => h.nS (e ▸ q)) hb), Cd.touched h.hv ht (fun b hb q => hno b (h.lS b q) (fun e => h.nS (e ▸ q)) hb),
    h.nR, h.nV, h.nM, h.nS, h.lR, h.lV, h.lO, h.lM, h.lS, Nat.le_trans h.le ht.size⟩
theorem EnvJ.later {w w' : World} {l : List Rel} {vs : List Int} {S : Nat → Prop} {ur uv : Value} {B0 bR bV bO bM : Nat} (h : EnvJ w l vs S ur uv B0 bR bV bO bM) (hb : Below w.heap.size w w') : EnvJ w' l vs S ur uv B0 bR bV bO bM :=
  h.touched (fp := []) (Cd.Touch.of_below hb) (fun _ hb => by cases hb)
/-- The rows so far, in the variable bO. -/
structure StJ (w : World) (B0 bO : Nat) (M : List (List Int)) (o : Value) (fp : List Nat) : Prop where
  c : w.cell? ⟨bO, 0, none⟩ = some o
  f : w.frozen? ⟨bO, 0, none⟩ = false
  ow : rowsC.ow w B0 [o] M fp
  nd : fp.Nodup
theorem StJ.later {w w' : World} {B0 bO : Nat} {M : List (List Int)} {o : Value} {fp : List Nat} (h : StJ w B0 bO M o fp) (hb : Below w.heap.size w w') : StJ w' B0 bO M o fp :=
  ⟨(hb.cell (World.block_lt_of_cell? w _ h.c)).trans h.c, (hb.frozen (World.block_lt_of_cell? w _ h.c)).trans h.f, Cd.ow_later h.ow hb, h.nd⟩
def JAns (B0 bO : Nat) (fp : List Nat) (M : List (List Int)) (w w' : World) : Prop := ∃ o' fp', StJ w' B0 bO M o' fp' ∧ (∀ b ∈ fp', b ∈ fp ∨ w.heap.size ≤ b) ∧ Cd.Touch (bO :: fp) w w'
theorem JAns.start {B0 bO : Nat} {fp : List Nat} {M : List (List Int)} {w w' : World} {o : Value} (h : StJ w B0 bO M o fp) (hb : Below w.heap.size w w') : JAns B0 bO fp M w w' := ⟨o, fp, h.later hb, fun _ hq => .inl hq, Cd.Touch.of_below hb⟩
theorem touch_chain {bO : Nat} {fp fp1 : List Nat} {w w1 w2 : World} (h : Cd.Touch (bO :: fp) w w1) (hs : ∀ b ∈ fp1, b ∈ fp ∨ w.heap.size ≤ b) (k : Cd.Touch (bO :: fp1) w1 w2) : Cd.Touch (bO :: fp) w w2 :=
  ⟨k.os.trans h.os, k.tape.trans h.tape, k.output.trans h.output, Nat.le_trans h.size k.size, fun i hi hn => (k.block i (Nat.lt_of_lt_of_le hi h.size) (fun q => by
    rcases List.mem_cons.1 q with e | e
    · exact hn (List.mem_cons.2 (.inl e))
    · rcases hs i e with r | r
      · exact hn (List.mem_cons.2 (.inr r))
      · omega)).trans (h.block i hi hn)⟩
theorem JAns.trans {B0 bO : Nat} {fp fp1 : List Nat} {M : List (List Int)} {w w1 w2 : World} (h : Cd.Touch (bO :: fp) w w1) (hs : ∀ b ∈ fp1, b ∈ fp ∨ w.heap.size ≤ b) (k : JAns B0 bO fp1 M w1 w2) : JAns B0 bO fp M w w2 := by
  obtain ⟨o', fp', h1, h2, h3⟩ := k
  refine ⟨o', fp', h1, fun b hb => ?_, touch_chain h hs h3⟩
  rcases h2 b hb with q | q
  · exact hs b q
  · have := h.size
    exact .inr (by omega)
def CloC (l : List Rel) (vs : List Int) (S : Nat → Prop) (B0 bR bV bO bM i : Nat) : Prop :=
  ∀ (f : Nat → Int) (w : World) (ur uv o : Value) (M : List (List Int)) (fp : List Nat), (∀ v, -1 ≤ f v ∧ f v ≤ 9) → EnvJ w l vs S ur uv B0 bR bV bO bM → StJ w B0 bO M o fp → M.length + 8 ^ (l.length - i) ≤ 1000000 →
    Calls Tryz.prog 93 #[arrV f, .int .i64 (i : Int), .pointer (some ⟨bR, 0, none⟩), .pointer (some ⟨bV, 0, none⟩), .pointer (some ⟨bO, 0, none⟩), .pointer (some ⟨bM, 0, none⟩)] w
      fun e w' => e = .returned (.tuple #[]) ∧ JAns B0 bO fp (M ++ (matF f (l.drop i)).map (selF vs)) w w'

set_option maxRecDepth 100000 in
set_option maxHeartbeats 3200000 in
theorem clo_base (l : List Rel) (vs : List Int) (h4 : ∀ v ∈ vs, 0 ≤ v ∧ v < 4) (hv4 : vs.length ≤ 4) (S : Nat → Prop) (B0 bR bV bO bM : Nat) : CloC l vs S B0 bR bV bO bM l.length := by
  intro f w ur uv o M fp hf henv hst hM
  have HF := Lib.hid hf
  have hsel := sel_arr (f := f) h4
  rw [show (matF f (l.drop l.length)).map (selF vs) = [selF vs f] by rw [List.drop_length]; rfl]
  have hML : M.length + 1 ≤ 1000000 := by simpa using hM
  have HML := Lib.hid hML
  obtain ⟨a1, c1, rfl, hl1⟩ := Cd.sl_form henv.hr
  obtain ⟨a2, c2, rfl, hl2⟩ := row_form henv.hv
  obtain ⟨ao, co, rfl⟩ := Cd.ow_slice (c := rowC) hst.ow
  have HX := Lib.hid (Loc4.of (row_alloc w (arrO f 117)))
  have HB := Lib.hid (below_alloc w (arrO f 117))
  have HE := Lib.hid (henv.later HB.out)
  have HS := Lib.hid (hst.later HB.out)
  have HSZ := Lib.hid (size_alloc w (arrO f 117))
  have HLE := Lib.hid henv.le
  have HNO := Lib.hid (show bO ∉ fp from fun q => by have := (rowsC.ow_lt hst.ow _ q).1; have := henv.lO; omega)
  have HV4 := Lib.hid hv4
  have HFP := Lib.hid (rowsC.ow_lt hst.ow)
  have HND := Lib.hid hst.nd
  clear henv hst hf hM h4 hML hv4
  unfold arrV
  unfold arrO at HX HB HE HS HSZ
  go_enter Tryz.func93, Tryz.ntmps93
  go_upto_region 1 with fail
  generalize w.alloc _ = W at *
  have y1 := HE.out.r
  have y2 := HE.out.v
  have HSEL := Lib.hid (fun w' (hq : DbSpec.LaterD W w') => impl_select _ _ (arrL f) vs _ S w' (Cd.later (arr_rd (c := 4) HX.out HF.out) hq) (Cd.later HE.out.hv hq) (by have := HV4.out; omega))
  have HLV := Lib.hid (show bV < W.heap.size by have := HE.out.lV; have := HE.out.le; omega)
  have HY2 := Lib.hid y2
  have kk : DbSpec.LaterD W W.drew := (Below.refl _ W).drew
  go_wp2_with fail
  clear y1
  go_region_held3 (fun wx => wx.cell? ⟨bV, 0, none⟩ = some (.slice a2 vs.length c2) ∧ DbSpec.LaterD W wx)
    (exact ⟨(Below.cell (by assumption : DbSpec.LaterD W _) (p := ⟨bV, 0, none⟩) HLV.out).trans HY2.out, by assumption⟩)
    (first | (go_at_call 94; refine (HSEL.out _ (by assumption)).mono ?_; rintro e wq ⟨su, sf, rfl, sow, snd, hbq⟩; obtain ⟨sa, sc, rfl⟩ := Cd.ow_slice sow; (have kk : DbSpec.LaterD W wq := below_then (by assumption) hbq); (have SOW := Lib.hid sow); (have SND := Lib.hid snd); clear hbq sow snd))
  all_goals
    have hkk : Below W.heap.size W wq := by assumption
    have hsow := SOW.out
    rw [hsel.1, if_pos rfl, hsel.2] at hsow
    have hfar : ∀ b ∈ sf, W.heap.size ≤ b := fun b hb => (rowC.ow_lt hsow b hb).1
    have S1 := Lib.hid (HS.out.later hkk)
    have HSF := Lib.hid (show ∀ b ∈ sf, b ∉ fp from fun b hb q => by
      have h1 := hfar b hb
      have h2 := (HFP.out b q).2
      have h3 := HSZ.out
      omega)
    have HFAR := Lib.hid hfar
    generalize hel : (selF vs f).length = sl at *
    have A1 := Lib.hid (Cd.ow_later S1.out.ow (below_alloc wq (.cells #[.slice sa sl sc] 32)))
    have A2 := Lib.hid (show (wq.alloc (.cells #[.slice sa sl sc] 32)).cell? ⟨wq.heap.size, 0, none⟩ = some (.slice sa sl sc) by simp)
    have A3 := Lib.hid (Cd.ow_later (rowC.ow_base hsow (show B0 ≤ _ from HE.out.le)) (below_alloc wq (.cells #[.slice sa sl sc] 32)))
    have A4 := Lib.hid (show B0 ≤ (wq.alloc (.cells #[.slice sa sl sc] 32)).heap.size by rw [size_alloc]; have := hkk.size; have := HSZ.out; have := HLE.out; omega)
    have AB := Lib.hid (below_then (below_then HB.out hkk) (below_alloc wq (.cells #[.slice sa sl sc] 32)))
    have AS := Lib.hid (S1.out.later (below_alloc wq (.cells #[.slice sa sl sc] 32)))
    have z1 := S1.out.c
    have HBO := Lib.hid (show bO < B0 from HE.out.lO)
    clear hsow hel hfar y2 hkk
    go_wp2_with (at_builtin; refine Cd.wpList_appendE (c := rowC) rfl rfl (.tmp 24) (.tmp 26) 33 rfl B0 32 (.slice none 0 0) 24 Tryz.underlying33 info_ints rfl (by decide) _ M fp rfl A1.out HND.out _ _ rfl A2.out _ sf A3.out SND.out HSF.out (by have := HML.out; omega) A4.out ?_)
    intro g cap w5 f5 ho5 hn5 hs5 ht5
    have z5 := ht5.cell AS.out.c HNO.out
    have e5 := (World.frozen?_of_block (w := _) (a := ⟨bO, 0, none⟩) (ht5.block bO (World.block_lt_of_cell? _ _ AS.out.c) HNO.out)).trans AS.out.f
    have O5 := Lib.hid ho5
    have N5 := Lib.hid hn5
    have S5 := Lib.hid hs5
    have T5 := Lib.hid ht5
    have Z5 := Lib.hid (And.intro z5 e5)
    clear ho5 hn5 hs5 ht5 z1
    go_wp2_with fail
    have hno5 : bO ∉ f5 := fun q => by have := (rowsC.ow_lt O5.out bO q).1; have := HBO.out; omega
    refine bodyPost_ret (v := .tuple #[]) (by simp [results, Tryz.results93, go_sem]) rfl ⟨rfl, _, f5, ⟨World.cell?_setCell_same _ _ _ Z5.out.1, by simpa using Z5.out.2, ow_setCell (c := rowsC) O5.out hno5 _, N5.out⟩, fun b hb => ?_, ((Cd.Touch.of_below AB.out).trans (T5.out.mono fun b hb => List.mem_cons.2 (.inr hb))).trans ⟨rfl, rfl, rfl, by simp, fun k _ hn => Below.heap_setCell _ _ _ k (fun e => hn (List.mem_cons.2 (.inl e)))⟩⟩
    rcases S5.out b hb with q | q | q
    · exact .inl q
    · have h1 := HFAR.out b q
      have h2 := HSZ.out
      exact .inr (by omega)
    · have h1 := AB.out.size
      rw [size_alloc] at h1
      exact .inr (by omega)
end Go.Proofs.YtdkhgeknjekkoaaGreat.AnsImp
