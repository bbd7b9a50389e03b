/- Texts that the proof rests on, one behind the other. -/
import Derived.Test.YtklamhnecncenaaMg2QueryGraph
import Derived.Test.YtklamhnecncenaaMg1QueryGraph

namespace Go.Proofs.Ytklamhnecncenaa.QgSpec
open Go Go.RowKit Byt Ints IntsLaw Cd Rows2 Tab TabSpec Exact Atom QryMath QrySpec QryImp MkAtom SlMath QgMath

def Kp (w w' : World) : Prop := Below w.heap.size w w'
theorem kp_drew {w w' : World} (h : Kp w w') : Kp w w'.drew := Below.drew h
theorem bd_drew (w : World) : Below w.heap.size w w.drew := ⟨rfl, rfl, rfl, Nat.le_refl _, fun _ _ => rfl⟩
theorem pow_w {k : Nat} (h : k ≤ 4) : IntKind.i64.wrap (2 ^ k) = 2 ^ k := (pow_len h).1
theorem or_pow {x k : Nat} (hx : x < 16) (hk : k < 4) : bits .or .i64 (x : Int) (2 ^ k) = ((x ||| 2 ^ k : Nat) : Int) := by
  have h : 2 ^ k < 16 := by
    have : 2 ^ k < 2 ^ 4 := Nat.pow_lt_pow_right (by decide) hk
    omega
  rw [pow_cast, or_nat hx h]
theorem or_lt {x y : Nat} (hx : x < 16) (hy : y < 16) : x ||| y < 16 := Nat.or_lt_two_pow (n := 4) hx hy
theorem and_lt {x : Nat} (y : Nat) (hx : x < 16) : x &&& y < 16 := Nat.lt_of_le_of_lt Nat.and_le_left hx
theorem sel_lt {l : List A2} (h : ∀ A ∈ l, In4 A.2) (t : Nat) : bs (selV l t l.length) < 16 := bs_lt (selV_in4 h t _ (Nat.le_refl _))
set_option maxRecDepth 100000 in
theorem spec_full (n : Int) (u : Value) (l : List A2) (S : Nat → Prop) (w : World) (hr : atomsC.rd w S [u] l) :
    Calls Try.prog 52 #[.agg #[.int .i64 n, u]] w fun e w' => e = .returned (.int .i64 (fm n l : Int)) ∧ Below w.heap.size w w' := by
  have HV := Lib.hid (fun w' (hb : Below w.heap.size w w') => spec_valid n u l S w' (Cd.later hr hb))
  obtain ⟨a, cap, rfl, hlm⟩ := Cd.sl_form hr
  clear hr
  have HC := Lib.hid (Loc2.of (row_alloc w (.cells #[.int .i64 n, .slice a l.length cap] 60)))
  have HB := Lib.hid (below_alloc w (.cells #[.int .i64 n, .slice a l.length cap] 60))
  cases hq : qOk n l
  · have HZ := Lib.hid (show (0 : Int) = ((fm n l : Nat) : Int) by rw [fm_no hq]; rfl)
    rw [hq] at HV
    clear hq
    go_enter Try.func52, Try.ntmps52
    go_wp2_with fail
    generalize w.alloc _ = W at *
    refine (HV.out _ HB.out).mono ?_
    rintro e w1 ⟨rfl, hb1⟩
    have HB1 := Lib.hid (below_then HB.out hb1)
    clear hb1
    go_wp2_with fail
    go_ret
    exact ⟨ret_int HZ.out, HB1.out⟩
  rw [hq] at HV
  have h4 := (qOk_iff.1 hq).2.2.2.1
  have hpw := pow_len h4
  have HZ := Lib.hid (show (2 : Int) ^ l.length - 1 = ((fm n l : Nat) : Int) by
    rw [fm_yes hq, pow_cast]
    have := Nat.two_pow_pos l.length
    omega)
  have q1 := hpw.1
  have q2 := hpw.2.1
  have q3 := hpw.2.2
  have q4 : IntKind.i64.wrap (2 ^ l.length - 1) = 2 ^ l.length - 1 := by rw [IntKind.wrap_i64]; omega
  have q5 : (l.length : Int) ≤ 64 := by omega
  have q6 : ((l.length : Int)).toNat = l.length := by omega
  clear hq hpw h4
  go_enter Try.func52, Try.ntmps52
  go_wp2_with fail
  generalize w.alloc _ = W at *
  refine (HV.out _ HB.out).mono ?_
  rintro e w1 ⟨rfl, hb1⟩
  have HB1 := Lib.hid (below_then HB.out hb1)
  have c0 := (HC.out.later hb1).c0
  have c1 := (HC.out.later hb1).c1
  clear hb1
  go_wp2_with fail
  go_ret
  exact ⟨ret_int HZ.out, HB1.out⟩
set_option maxRecDepth 100000 in
set_option maxHeartbeats 3200000 in
theorem spec_near (n : Int) (t : Nat) (u : Value) (l : List A2) (S : Nat → Prop) (w : World) (hr : atomsC.rd w S [u] l) (ht : t < 16) (hl4 : l.length ≤ 4) (h4 : ∀ A ∈ l, In4 A.2) (h3 : ∀ A ∈ l, A.2.length ≤ 3) :
    Calls Try.prog 103 #[.agg #[.int .i64 n, u], .int .i64 (t : Int)] w fun e w' => e = .returned (.int .i64 (near (gr l) t : Int)) ∧ Below w.heap.size w w' := by
  have HBT := Lib.hid (fun w' (hb : Below w.heap.size w w') => spec_bits n t u l S w' (Cd.later hr hb) ht hl4 h4 h3)
  have HBK := Lib.hid (fun (k : Nat) (hk : k < l.length) w' (hb : Below w.heap.size w w') => spec_bits n (2 ^ k) u l S w' (Cd.later hr hb) (by have : 2 ^ k < 2 ^ 4 := Nat.pow_lt_pow_right (by decide) (by omega); omega) hl4 h4 h3)
  obtain ⟨a, cap, rfl, hlm⟩ := Cd.sl_form hr
  have HS16 := Lib.hid (sel_lt h4 t)
  have HV16 := Lib.hid (fun i => V_lt h4 i)
  have HGL := Lib.hid (gr_lt l)
  have HEND := Lib.hid (near_len hl4 t)
  have HSA := Lib.hid (fun (k : Nat) (hk : k < 4) (h0 : t / 2 ^ k % 2 = 0) => sel_and hl4 hk h0)
  have HNT := Lib.hid (fun k (hk : k ≤ 4) => nearTo_lt _ (gr_lt l) t ht k hk)
  have HL4 := Lib.hid hl4
  clear hr h4 h3
  have HC := Lib.hid (Loc2.of (row_alloc w (.cells #[.int .i64 n, .slice a l.length cap] 60)))
  have HB := Lib.hid (below_alloc w (.cells #[.int .i64 n, .slice a l.length cap] 60))
  generalize gr l = G at *
  go_enter Try.func103, Try.ntmps103
  go_wp2_with fail
  generalize w.alloc _ = W at *
  refine (HBT.out _ HB.out).mono ?_
  rintro e w1 ⟨rfl, hb1⟩
  have HB1 := Lib.hid (below_then HB.out hb1)
  have HC1 := Lib.hid (HC.out.later hb1)
  clear hb1
  generalize bs (selV l t l.length) = s at *
  go_wp2_with fail
  go_loopw [5, 7] (fun x i wr => ∃ k : Nat, k ≤ l.length ∧ i = .int .i64 k ∧ x = .int .i64 (nearTo G t k : Int) ∧ Below w1.heap.size w1 wr) (fun _ i _ => l.length - (intOf i).toNat)
  case atStart => exact ⟨0, Nat.zero_le _, rfl, rfl, Below.refl _ _⟩
  case round =>
    obtain ⟨k, hk, rfl, rfl, hbw⟩ := hrel
    have HBW := Lib.hid hbw
    have HLQ := Lib.hid (HC1.out.later hbw)
    have c0 := HLQ.out.c0
    have c1 := HLQ.out.c1
    have HKP := Lib.hid (show Below w.heap.size w wr from below_then HB1.out hbw)
    by_cases hlt : k < l.length
    · have hk4 : k < 4 := by have := HL4.out; omega
      have p1 : (0 : Int) ≤ (k : Int) := by omega
      have p2 : (k : Int) < (l.length : Int) := by omega
      have p3 : (k : Int) ≤ 64 := by omega
      have p4 : ((k : Int)).toNat = k := by omega
      have hbit := bit_at ht k
      have HLT := Lib.hid hlt
      have hpw := pow_w (show k ≤ 4 by omega)
      have HX16 := Lib.hid (HNT.out k (by omega))
      have kk : Kp w wr.drew := kp_drew (show Kp w wr from HKP.out)
      by_cases hx : t / 2 ^ k % 2 = 0
      · have HCK := Lib.hid (fun w' (hb : Below w.heap.size w w') => (HBK.out k hlt w' hb))
        have e1 : bs (selV l (2 ^ k) l.length) = V l k := sel_one_in HL4.out hlt
        rw [e1] at HCK
        have e2 : (((2 ^ k : Nat)) : Int) = (2 : Int) ^ k := (pow_cast k).symm
        rw [e2] at HCK
        have hand := and_nat (HV16.out k) HS16.out
        have hsa := HSA.out k hk4 hx
        have HNXT := Lib.hid (show nearTo G t (k + 1) = if nx G t k then nearTo G t k ||| 2 ^ k else nearTo G t k from rfl)
        have HNX0 := Lib.hid (show nx G t k = anyA G t k by unfold nx; rw [hx]; rfl)
        have hor := or_pow HX16.out hk4
        rw [hx] at hbit
        generalize nearTo G t k = x at *
        generalize V l k = v at *
        clear hx hbw e1 e2 hk4 hlt
        cases hany : anyA G t k
        · rw [hany] at hsa HNX0
          have hz : v &&& s = 0 := by simpa using hsa
          rw [hz] at hand
          have HNX := Lib.hid (show nearTo G t (k + 1) = x by rw [HNXT.out, HNX0.out]; rfl)
          clear hz hsa hany hor HNXT HNX0
          go_wp2_with fail
          refine wp_region_held_drew (S := fun wx => wx.cell? ⟨w.heap.size, 0, none⟩ = some (.int .i64 n) ∧ wx.cell? ⟨w.heap.size, 1, none⟩ = some (.slice a l.length cap) ∧ Kp w wx) (by kernel_rfl) ?_ (fun hHeld => ?_)
          · (refine ⟨?_, ?_, ?_⟩ <;> first | assumption | (simp [*]; done))
          refine RegH.takeH (i := 0) (v := ?_) rfl (by kernel_rfl) (by kernel_rfl) (by kernel_rfl) (fun _ _ _ h => h) (Or.inl ⟨by rfl, ?_⟩) (by assumption) ?_
          rotate_left
          · (intro wS hSw; (try dsimp only at hSw); go_simp; try (with_reducible rfl))
          try simp only [Act.put, List.setIfInBounds_toArray, List.set_cons_zero, List.set_cons_succ]
          refine RegH.takeH (i := 1) (v := ?_) rfl (by kernel_rfl) (by kernel_rfl) (by kernel_rfl) (fun _ _ _ h => h) (Or.inl ⟨by rfl, ?_⟩) (by assumption) ?_
          rotate_left
          · (intro wS hSw; (try dsimp only at hSw); go_simp; try (with_reducible rfl))
          try simp only [Act.put, List.setIfInBounds_toArray, List.set_cons_zero, List.set_cons_succ]
          refine RegH.takeH (i := 2) (v := ?_) rfl (by kernel_rfl) (by kernel_rfl) (by kernel_rfl) (fun _ _ _ h => h) (Or.inl ⟨by rfl, ?_⟩) (by assumption) ?_
          rotate_left
          · (intro wS hSw; (try dsimp only at hSw); go_simp; try (with_reducible rfl))
          try simp only [Act.put, List.setIfInBounds_toArray, List.set_cons_zero, List.set_cons_succ]
          refine RegH.takeH (i := 3) (v := ?_) rfl (by kernel_rfl) (by kernel_rfl) (by kernel_rfl) (fun _ _ _ h => h) (Or.inl ⟨by rfl, ?_⟩) (by assumption) ?_
          rotate_left
          · (intro wS hSw; (try dsimp only at hSw); go_simp; try (with_reducible rfl))
          try simp only [Act.put, List.setIfInBounds_toArray, List.set_cons_zero, List.set_cons_succ]
          refine RegH.takeH (i := 4) (v := ?_) rfl (by kernel_rfl) (by kernel_rfl) (by kernel_rfl) (fun _ _ _ h => h) (Or.inl ⟨by rfl, ?_⟩) (by assumption) ?_
          rotate_left
          · (intro wS hSw; (try dsimp only at hSw); go_simp; try (with_reducible rfl))
          try simp only [Act.put, List.setIfInBounds_toArray, List.set_cons_zero, List.set_cons_succ]
          refine RegH.takeH (i := 5) (v := ?_) rfl (by kernel_rfl) (by kernel_rfl) (by kernel_rfl) (fun _ _ _ h => h) (Or.inl ⟨by rfl, ?_⟩) (by assumption) ?_
          rotate_left
          · (intro wS hSw; (try dsimp only at hSw); go_simp; try (with_reducible rfl))
          try simp only [Act.put, List.setIfInBounds_toArray, List.set_cons_zero, List.set_cons_succ]
          refine RegH.takeH (i := 6) (v := ?_) rfl (by kernel_rfl) (by kernel_rfl) (by kernel_rfl) (fun _ _ _ h => h) (Or.inl ⟨by rfl, ?_⟩) (by assumption) ?_
          rotate_left
          · (intro wS hSw; (try dsimp only at hSw); go_simp; try (with_reducible rfl))
          try simp only [Act.put, List.setIfInBounds_toArray, List.set_cons_zero, List.set_cons_succ]
          refine RegH.takeH (i := 7) (v := ?_) rfl (by kernel_rfl) (by kernel_rfl) (by kernel_rfl) (fun _ _ _ h => h) (Or.inl ⟨by rfl, ?_⟩) (by assumption) ?_
          rotate_left
          · (intro wS hSw; (try dsimp only at hSw); go_simp; try (with_reducible rfl))
          try simp only [Act.put, List.setIfInBounds_toArray, List.set_cons_zero, List.set_cons_succ]
          refine RegH.takeH (i := 8) (v := ?_) rfl (by kernel_rfl) (by kernel_rfl) (by kernel_rfl) (fun _ _ _ h => h) (Or.inl ⟨by rfl, ?_⟩) (by assumption) ?_
          rotate_left
          · (intro wS hSw; (try dsimp only at hSw); go_simp; try (with_reducible rfl))
          try simp only [Act.put, List.setIfInBounds_toArray, List.set_cons_zero, List.set_cons_succ]
          refine RegH.takeH (i := 10) (v := ?_) rfl (by kernel_rfl) (by kernel_rfl) (by kernel_rfl) (fun _ _ _ h => h) (Or.inl ⟨by rfl, ?_⟩) (by assumption) ?_
          rotate_left
          · (intro wS hSw; (try dsimp only at hSw); go_simp; try (with_reducible rfl))
          try simp only [Act.put, List.setIfInBounds_toArray, List.set_cons_zero, List.set_cons_succ]
          refine RegH.consH (i := 9) rfl (by kernel_rfl) (fun K hK => ?_)
          go_simp
          go_at_call 135
          refine (HCK.out _ (show Below w.heap.size w wr.drew from kk)).mono ?_
          rintro e wq ⟨rfl, hbq⟩
          have kq : Kp w wq := below_then (show Below w.heap.size w wr.drew from kk) hbq
          have HBQ := Lib.hid (below_then (bd_drew wr) hbq)
          have n0 := (HLQ.out.later HBQ.out).c0
          have n1 := (HLQ.out.later HBQ.out).c1
          clear hbq
          go_wp2_with fail
          refine hK.out _ _ ?_ (fun hHeld => ?_)
          · (refine ⟨?_, ?_, ?_⟩ <;> first | assumption | (simp [*]; done))
          clear hK K
          try simp only [Act.put, List.setIfInBounds_toArray, List.set_cons_zero, List.set_cons_succ]
          refine RegH.takeH (i := 11) (v := ?_) rfl (by kernel_rfl) (by kernel_rfl) (by kernel_rfl) (fun _ _ _ h => h) (Or.inl ⟨by rfl, ?_⟩) (by assumption) ?_
          rotate_left
          · (intro wS hSw; (try dsimp only at hSw); go_simp; try (with_reducible rfl))
          try simp only [Act.put, List.setIfInBounds_toArray, List.set_cons_zero, List.set_cons_succ]
          refine RegH.takeH (i := 12) (v := ?_) rfl (by kernel_rfl) (by kernel_rfl) (by kernel_rfl) (fun _ _ _ h => h) (Or.inl ⟨by rfl, ?_⟩) (by assumption) ?_
          rotate_left
          · (intro wS hSw; (try dsimp only at hSw); go_simp; try (with_reducible rfl))
          try simp only [Act.put, List.setIfInBounds_toArray, List.set_cons_zero, List.set_cons_succ]
          refine RegH.takeH (i := 13) (v := ?_) rfl (by kernel_rfl) (by kernel_rfl) (by kernel_rfl) (fun _ _ _ h => h) (Or.inl ⟨by rfl, ?_⟩) (by assumption) ?_
          rotate_left
          · (intro wS hSw; (try dsimp only at hSw); go_simp; try (with_reducible rfl))
          try simp only [Act.put, List.setIfInBounds_toArray, List.set_cons_zero, List.set_cons_succ]
          refine wpAnyH_done (by kernel_rfl) ?_ _
          go_wp2_with fail
          go_roundw
          case rel => exact ⟨k + 1, HLT.out, by go_num, by rw [HNX.out], below_then HBW.out HBQ.out⟩
          case measure => have := HLT.out; simp [intOf]; omega
        · rw [hany] at hsa HNX0
          have hz : ¬ (v &&& s = 0) := by simpa using hsa
          have HNX := Lib.hid (show nearTo G t (k + 1) = x ||| 2 ^ k by rw [HNXT.out, HNX0.out]; rfl)
          have hz2 : (((v &&& s : Nat) : Int) == 0) = false := by rw [beq_eq_false_iff_ne]; omega
          have hz3 : ¬ (((v &&& s : Nat) : Int) = 0) := by omega
          clear hsa hany HNXT HNX0
          generalize v &&& s = z at *
          go_wp2_with fail
          refine wp_region_held_drew (S := fun wx => wx.cell? ⟨w.heap.size, 0, none⟩ = some (.int .i64 n) ∧ wx.cell? ⟨w.heap.size, 1, none⟩ = some (.slice a l.length cap) ∧ Kp w wx) (by kernel_rfl) ?_ (fun hHeld => ?_)
          · (refine ⟨?_, ?_, ?_⟩ <;> first | assumption | (simp [*]; done))
          refine RegH.takeH (i := 0) (v := ?_) rfl (by kernel_rfl) (by kernel_rfl) (by kernel_rfl) (fun _ _ _ h => h) (Or.inl ⟨by rfl, ?_⟩) (by assumption) ?_
          rotate_left
          · (intro wS hSw; (try dsimp only at hSw); go_simp; try (with_reducible rfl))
          try simp only [Act.put, List.setIfInBounds_toArray, List.set_cons_zero, List.set_cons_succ]
          refine RegH.takeH (i := 1) (v := ?_) rfl (by kernel_rfl) (by kernel_rfl) (by kernel_rfl) (fun _ _ _ h => h) (Or.inl ⟨by rfl, ?_⟩) (by assumption) ?_
          rotate_left
          · (intro wS hSw; (try dsimp only at hSw); go_simp; try (with_reducible rfl))
          try simp only [Act.put, List.setIfInBounds_toArray, List.set_cons_zero, List.set_cons_succ]
          refine RegH.takeH (i := 2) (v := ?_) rfl (by kernel_rfl) (by kernel_rfl) (by kernel_rfl) (fun _ _ _ h => h) (Or.inl ⟨by rfl, ?_⟩) (by assumption) ?_
          rotate_left
          · (intro wS hSw; (try dsimp only at hSw); go_simp; try (with_reducible rfl))
          try simp only [Act.put, List.setIfInBounds_toArray, List.set_cons_zero, List.set_cons_succ]
          refine RegH.takeH (i := 3) (v := ?_) rfl (by kernel_rfl) (by kernel_rfl) (by kernel_rfl) (fun _ _ _ h => h) (Or.inl ⟨by rfl, ?_⟩) (by assumption) ?_
          rotate_left
          · (intro wS hSw; (try dsimp only at hSw); go_simp; try (with_reducible rfl))
          try simp only [Act.put, List.setIfInBounds_toArray, List.set_cons_zero, List.set_cons_succ]
          refine RegH.takeH (i := 4) (v := ?_) rfl (by kernel_rfl) (by kernel_rfl) (by kernel_rfl) (fun _ _ _ h => h) (Or.inl ⟨by rfl, ?_⟩) (by assumption) ?_
          rotate_left
          · (intro wS hSw; (try dsimp only at hSw); go_simp; try (with_reducible rfl))
          try simp only [Act.put, List.setIfInBounds_toArray, List.set_cons_zero, List.set_cons_succ]
          refine RegH.takeH (i := 5) (v := ?_) rfl (by kernel_rfl) (by kernel_rfl) (by kernel_rfl) (fun _ _ _ h => h) (Or.inl ⟨by rfl, ?_⟩) (by assumption) ?_
          rotate_left
          · (intro wS hSw; (try dsimp only at hSw); go_simp; try (with_reducible rfl))
          try simp only [Act.put, List.setIfInBounds_toArray, List.set_cons_zero, List.set_cons_succ]
          refine RegH.takeH (i := 6) (v := ?_) rfl (by kernel_rfl) (by kernel_rfl) (by kernel_rfl) (fun _ _ _ h => h) (Or.inl ⟨by rfl, ?_⟩) (by assumption) ?_
          rotate_left
          · (intro wS hSw; (try dsimp only at hSw); go_simp; try (with_reducible rfl))
          try simp only [Act.put, List.setIfInBounds_toArray, List.set_cons_zero, List.set_cons_succ]
          refine RegH.takeH (i := 7) (v := ?_) rfl (by kernel_rfl) (by kernel_rfl) (by kernel_rfl) (fun _ _ _ h => h) (Or.inl ⟨by rfl, ?_⟩) (by assumption) ?_
          rotate_left
          · (intro wS hSw; (try dsimp only at hSw); go_simp; try (with_reducible rfl))
          try simp only [Act.put, List.setIfInBounds_toArray, List.set_cons_zero, List.set_cons_succ]
          refine RegH.takeH (i := 8) (v := ?_) rfl (by kernel_rfl) (by kernel_rfl) (by kernel_rfl) (fun _ _ _ h => h) (Or.inl ⟨by rfl, ?_⟩) (by assumption) ?_
          rotate_left
          · (intro wS hSw; (try dsimp only at hSw); go_simp; try (with_reducible rfl))
          try simp only [Act.put, List.setIfInBounds_toArray, List.set_cons_zero, List.set_cons_succ]
          refine RegH.takeH (i := 10) (v := ?_) rfl (by kernel_rfl) (by kernel_rfl) (by kernel_rfl) (fun _ _ _ h => h) (Or.inl ⟨by rfl, ?_⟩) (by assumption) ?_
          rotate_left
          · (intro wS hSw; (try dsimp only at hSw); go_simp; try (with_reducible rfl))
          try simp only [Act.put, List.setIfInBounds_toArray, List.set_cons_zero, List.set_cons_succ]
          refine RegH.consH (i := 9) rfl (by kernel_rfl) (fun K hK => ?_)
          go_simp
          go_at_call 135
          refine (HCK.out _ (show Below w.heap.size w wr.drew from kk)).mono ?_
          rintro e wq ⟨rfl, hbq⟩
          have kq : Kp w wq := below_then (show Below w.heap.size w wr.drew from kk) hbq
          have HBQ := Lib.hid (below_then (bd_drew wr) hbq)
          have n0 := (HLQ.out.later HBQ.out).c0
          have n1 := (HLQ.out.later HBQ.out).c1
          clear hbq
          go_wp2_with fail
          refine hK.out _ _ ?_ (fun hHeld => ?_)
          · (refine ⟨?_, ?_, ?_⟩ <;> first | assumption | (simp [*]; done))
          clear hK K
          try simp only [Act.put, List.setIfInBounds_toArray, List.set_cons_zero, List.set_cons_succ]
          refine RegH.takeH (i := 11) (v := ?_) rfl (by kernel_rfl) (by kernel_rfl) (by kernel_rfl) (fun _ _ _ h => h) (Or.inl ⟨by rfl, ?_⟩) (by assumption) ?_
          rotate_left
          · (intro wS hSw; (try dsimp only at hSw); go_simp; try (with_reducible rfl))
          try simp only [Act.put, List.setIfInBounds_toArray, List.set_cons_zero, List.set_cons_succ]
          refine RegH.takeH (i := 12) (v := ?_) rfl (by kernel_rfl) (by kernel_rfl) (by kernel_rfl) (fun _ _ _ h => h) (Or.inl ⟨by rfl, ?_⟩) (by assumption) ?_
          rotate_left
          · (intro wS hSw; (try dsimp only at hSw); go_simp; try (with_reducible rfl))
          try simp only [Act.put, List.setIfInBounds_toArray, List.set_cons_zero, List.set_cons_succ]
          refine RegH.takeH (i := 13) (v := ?_) rfl (by kernel_rfl) (by kernel_rfl) (by kernel_rfl) (fun _ _ _ h => h) (Or.inl ⟨by rfl, ?_⟩) (by assumption) ?_
          rotate_left
          · (intro wS hSw; (try dsimp only at hSw); go_simp; try (with_reducible rfl))
          try simp only [Act.put, List.setIfInBounds_toArray, List.set_cons_zero, List.set_cons_succ]
          refine wpAnyH_done (by kernel_rfl) ?_ _
          go_wp2_with fail
          go_roundw
          case rel => exact ⟨k + 1, HLT.out, by go_num, by rw [HNX.out], below_then HBW.out HBQ.out⟩
          case measure => have := HLT.out; simp [intOf]; omega
      · have hx1 : t / 2 ^ k % 2 = 1 := by omega
        have HNX := Lib.hid (show nearTo G t (k + 1) = nearTo G t k by
          rw [nearTo]
          have : nx G t k = false := by unfold nx; rw [hx1]; rfl
          rw [this]
          rfl)
        rw [hx1] at hbit
        generalize nearTo G t k = x at *
        clear hx hx1 hbw hk4 hlt
        go_wp2_with fail
        refine wp_region_held_drew (S := fun wx => wx.cell? ⟨w.heap.size, 0, none⟩ = some (.int .i64 n) ∧ wx.cell? ⟨w.heap.size, 1, none⟩ = some (.slice a l.length cap) ∧ Kp w wx) (by kernel_rfl) ?_ (fun hHeld => ?_)
        · (refine ⟨?_, ?_, ?_⟩ <;> first | assumption | (simp [*]; done))
        refine RegH.takeH (i := 0) (v := ?_) rfl (by kernel_rfl) (by kernel_rfl) (by kernel_rfl) (fun _ _ _ h => h) (Or.inl ⟨by rfl, ?_⟩) (by assumption) ?_
        rotate_left
        · (intro wS hSw; (try dsimp only at hSw); go_simp; try (with_reducible rfl))
        try simp only [Act.put, List.setIfInBounds_toArray, List.set_cons_zero, List.set_cons_succ]
        refine RegH.takeH (i := 1) (v := ?_) rfl (by kernel_rfl) (by kernel_rfl) (by kernel_rfl) (fun _ _ _ h => h) (Or.inl ⟨by rfl, ?_⟩) (by assumption) ?_
        rotate_left
        · (intro wS hSw; (try dsimp only at hSw); go_simp; try (with_reducible rfl))
        try simp only [Act.put, List.setIfInBounds_toArray, List.set_cons_zero, List.set_cons_succ]
        refine RegH.takeH (i := 2) (v := ?_) rfl (by kernel_rfl) (by kernel_rfl) (by kernel_rfl) (fun _ _ _ h => h) (Or.inl ⟨by rfl, ?_⟩) (by assumption) ?_
        rotate_left
        · (intro wS hSw; (try dsimp only at hSw); go_simp; try (with_reducible rfl))
        try simp only [Act.put, List.setIfInBounds_toArray, List.set_cons_zero, List.set_cons_succ]
        refine RegH.takeH (i := 3) (v := ?_) rfl (by kernel_rfl) (by kernel_rfl) (by kernel_rfl) (fun _ _ _ h => h) (Or.inl ⟨by rfl, ?_⟩) (by assumption) ?_
        rotate_left
        · (intro wS hSw; (try dsimp only at hSw); go_simp; try (with_reducible rfl))
        try simp only [Act.put, List.setIfInBounds_toArray, List.set_cons_zero, List.set_cons_succ]
        refine RegH.takeH (i := 4) (v := ?_) rfl (by kernel_rfl) (by kernel_rfl) (by kernel_rfl) (fun _ _ _ h => h) (Or.inl ⟨by rfl, ?_⟩) (by assumption) ?_
        rotate_left
        · (intro wS hSw; (try dsimp only at hSw); go_simp; try (with_reducible rfl))
        try simp only [Act.put, List.setIfInBounds_toArray, List.set_cons_zero, List.set_cons_succ]
        refine RegH.takeH (i := 5) (v := ?_) rfl (by kernel_rfl) (by kernel_rfl) (by kernel_rfl) (fun _ _ _ h => h) (Or.inl ⟨by rfl, ?_⟩) (by assumption) ?_
        rotate_left
        · (intro wS hSw; (try dsimp only at hSw); go_simp; try (with_reducible rfl))
        try simp only [Act.put, List.setIfInBounds_toArray, List.set_cons_zero, List.set_cons_succ]
        refine RegH.takeH (i := 6) rfl (by kernel_rfl) (by kernel_rfl) (by kernel_rfl) (fun _ _ _ h => h) (Or.inr ⟨by rfl, rfl⟩) (by assumption) ?_
        try simp only [Act.put, List.setIfInBounds_toArray, List.set_cons_zero, List.set_cons_succ]
        refine RegH.takeH (i := 7) rfl (by kernel_rfl) (by kernel_rfl) (by kernel_rfl) (fun _ _ _ h => h) (Or.inr ⟨by rfl, rfl⟩) (by assumption) ?_
        try simp only [Act.put, List.setIfInBounds_toArray, List.set_cons_zero, List.set_cons_succ]
        refine RegH.takeH (i := 8) rfl (by kernel_rfl) (by kernel_rfl) (by kernel_rfl) (fun _ _ _ h => h) (Or.inr ⟨by rfl, rfl⟩) (by assumption) ?_
        try simp only [Act.put, List.setIfInBounds_toArray, List.set_cons_zero, List.set_cons_succ]
        refine RegH.takeH (i := 9) rfl (by kernel_rfl) (by kernel_rfl) (by kernel_rfl) (fun _ _ _ h => h) (Or.inr ⟨by rfl, rfl⟩) (by assumption) ?_
        try simp only [Act.put, List.setIfInBounds_toArray, List.set_cons_zero, List.set_cons_succ]
        refine RegH.takeH (i := 10) rfl (by kernel_rfl) (by kernel_rfl) (by kernel_rfl) (fun _ _ _ h => h) (Or.inr ⟨by rfl, rfl⟩) (by assumption) ?_
        try simp only [Act.put, List.setIfInBounds_toArray, List.set_cons_zero, List.set_cons_succ]
        refine RegH.takeH (i := 11) rfl (by kernel_rfl) (by kernel_rfl) (by kernel_rfl) (fun _ _ _ h => h) (Or.inr ⟨by rfl, rfl⟩) (by assumption) ?_
        try simp only [Act.put, List.setIfInBounds_toArray, List.set_cons_zero, List.set_cons_succ]
        refine RegH.takeH (i := 12) rfl (by kernel_rfl) (by kernel_rfl) (by kernel_rfl) (fun _ _ _ h => h) (Or.inr ⟨by rfl, rfl⟩) (by assumption) ?_
        try simp only [Act.put, List.setIfInBounds_toArray, List.set_cons_zero, List.set_cons_succ]
        refine RegH.takeH (i := 13) (v := ?_) rfl (by kernel_rfl) (by kernel_rfl) (by kernel_rfl) (fun _ _ _ h => h) (Or.inl ⟨by rfl, ?_⟩) (by assumption) ?_
        rotate_left
        · (intro wS hSw; (try dsimp only at hSw); go_simp; try (with_reducible rfl))
        try simp only [Act.put, List.setIfInBounds_toArray, List.set_cons_zero, List.set_cons_succ]
        refine wpAnyH_done (by kernel_rfl) ?_ _
        go_wp2_with fail
        go_roundw
        case rel => exact ⟨k + 1, HLT.out, by go_num, by rw [HNX.out], below_then HBW.out ⟨rfl, rfl, rfl, Nat.le_refl _, fun _ _ => rfl⟩⟩
        case measure => have := HLT.out; simp [intOf]; omega
    · have ek : k = l.length := by omega
      subst ek
      rw [HEND.out]
      clear hbw
      go_wp2_with fail
      go_ret
      exact ⟨rfl, HKP.out⟩
set_option maxRecDepth 100000 in
theorem spec_nbm (n m : Int) (u : Value) (l : List A2) (S : Nat → Prop) (w : World) (hr : atomsC.rd w S [u] l) :
    Calls Try.prog 59 #[.agg #[.int .i64 n, u], .int .i64 m] w fun e w' => e = .returned (.int .i64 (nb n l m : Int)) ∧ Below w.heap.size w w' := by
  have HV := Lib.hid (fun w' (hb : Below w.heap.size w w') => spec_mask n m u l S w' (Cd.later hr hb))
  have HR := Lib.hid (fun w' (hb : Below w.heap.size w w') => Cd.later hr hb)
  obtain ⟨a, cap, rfl, hlm⟩ := Cd.sl_form hr
  clear hr
  have HC := Lib.hid (Loc2.of (row_alloc w (.cells #[.int .i64 n, .slice a l.length cap] 60)))
  have HB := Lib.hid (below_alloc w (.cells #[.int .i64 n, .slice a l.length cap] 60))
  cases hq : mOk n l m
  · have HZ := Lib.hid (show (0 : Int) = ((nb n l m : Nat) : Int) by rw [nb_no hq]; rfl)
    rw [hq] at HV
    clear hq
    go_enter Try.func59, Try.ntmps59
    go_wp2_with fail
    generalize w.alloc _ = W at *
    refine (HV.out _ HB.out).mono ?_
    rintro e w1 ⟨rfl, hb1⟩
    have HB1 := Lib.hid (below_then HB.out hb1)
    clear hb1
    go_wp2_with fail
    go_ret
    exact ⟨ret_int HZ.out, HB1.out⟩
  rw [hq] at HV
  obtain ⟨t, rfl, ht, hl4, h4, h3, _⟩ := mask_facts hq
  have HZ := Lib.hid (show (near (gr l) t : Int) = ((nb n l (t : Int) : Nat) : Int) by rw [nb_yes hq]; rfl)
  have HNR := Lib.hid (fun w' (hb : Below w.heap.size w w') => spec_near n t (.slice a l.length cap) l S w' (HR.out w' hb) ht hl4 h4 h3)
  clear hq h4 h3
  generalize near (gr l) t = s at *
  go_enter Try.func59, Try.ntmps59
  go_wp2_with fail
  generalize w.alloc _ = W at *
  refine (HV.out _ HB.out).mono ?_
  rintro e w1 ⟨rfl, hb1⟩
  have HB1 := Lib.hid (below_then HB.out hb1)
  have c0 := (HC.out.later hb1).c0
  have c1 := (HC.out.later hb1).c1
  clear hb1
  go_wp2_with fail
  refine (HNR.out _ HB1.out).mono ?_
  rintro e w2 ⟨rfl, hb2⟩
  have HB2 := Lib.hid (below_then HB1.out hb2)
  clear hb2
  go_wp2_with fail
  go_ret
  exact ⟨ret_int HZ.out, HB2.out⟩
set_option maxRecDepth 100000 in
set_option maxHeartbeats 1600000 in
theorem spec_joined (n : Int) (m : Nat) (u : Value) (l : List A2) (S : Nat → Prop) (w : World) (hr : atomsC.rd w S [u] l) (hq : qOk n l = true) (h1 : 1 ≤ m) (hm : m < 2 ^ l.length) :
    Calls Try.prog 95 #[.agg #[.int .i64 n, u], .int .i64 (m : Int)] w fun e w' => e = .returned (.bool (conn (gr l) m)) ∧ Below w.heap.size w w' := by
  have hp := qOk_iff.1 hq
  have hl4 := hp.2.2.2.1
  have h16 : m < 16 := by
    have : 2 ^ l.length ≤ 2 ^ 4 := Nat.pow_le_pow_right (by decide) hl4
    omega
  have HNR := Lib.hid (fun (t : Nat) (ht : t < 16) w' (hb : Below w.heap.size w w') => spec_near n t u l S w' (Cd.later hr hb) ht hl4 hp.in4 (fun A hA => (hp.2.2.2.2.1 A hA).2.2.1))
  obtain ⟨a, cap, rfl, hlm⟩ := Cd.sl_form hr
  have HGL := Lib.hid (gr_lt l)
  have HIT := Lib.hid (fun k (hk : k ≤ 6) => it_lt _ (gr_lt l) m h16 k hk)
  have HZ := Lib.hid (show (((it (gr l) m l.length : Nat) : Int) == (m : Int)) = conn (gr l) m by
    rw [it_len hl4 hm h1]
    unfold conn
    have : (m != 0) = true := by rw [bne_iff_ne]; omega
    rw [this, Bool.true_and, Bool.eq_iff_iff, beq_iff_eq, beq_iff_eq]
    omega)
  have hlow := low_bits m h16
  have HL4 := Lib.hid hl4
  have HM16 := Lib.hid h16
  have hneg : IntKind.i64.wrap (-(m : Int)) = -(m : Int) := by rw [IntKind.wrap_i64]; omega
  clear hr hq hp hm h1
  have HC := Lib.hid (Loc2.of (row_alloc w (.cells #[.int .i64 n, .slice a l.length cap] 60)))
  have HB := Lib.hid (below_alloc w (.cells #[.int .i64 n, .slice a l.length cap] 60))
  generalize gr l = G at *
  go_enter Try.func95, Try.ntmps95
  go_wp2_with fail
  generalize w.alloc _ = W at *
  clear hlow hneg h16 hl4
  go_loopw [5, 6] (fun x i wr => ∃ k : Nat, k ≤ l.length ∧ i = .int .i64 k ∧ x = .int .i64 (it G m k : Int) ∧ Below W.heap.size W wr) (fun _ i _ => l.length - (intOf i).toNat)
  case atStart => exact ⟨0, Nat.zero_le _, rfl, rfl, Below.refl _ _⟩
  case round =>
    obtain ⟨k, hk, rfl, rfl, hbw⟩ := hrel
    have HBW := Lib.hid hbw
    have HLQ := Lib.hid (HC.out.later hbw)
    have c0 := HLQ.out.c0
    have c1 := HLQ.out.c1
    have HKP := Lib.hid (show Below w.heap.size w wr from below_then HB.out hbw)
    by_cases hlt : k < l.length
    · have HLT := Lib.hid hlt
      have p1 : (0 : Int) ≤ (k : Int) := by omega
      have p2 : (k : Int) < (l.length : Int) := by omega
      have p3 : (l.length : Int) ≤ 4 := by have := HL4.out; omega
      have hx := HIT.out k (by have := HL4.out; omega)
      have HNX := Lib.hid (show it G m (k + 1) = it G m k ||| (near G (it G m k) &&& m) from rfl)
      have hn16 := near_lt G HGL.out _ hx
      have hand := and_nat hn16 HM16.out
      have hor := or_nat hx (and_lt m hn16)
      have HNC := Lib.hid (HNR.out _ hx wr HKP.out)
      clear hbw hx hn16 hlt
      generalize it G m k = x at *
      generalize near G x = y at *
      go_wp2_with fail
      refine HNC.out.mono ?_
      rintro e w2 ⟨rfl, hb2⟩
      have HB2 := Lib.hid (below_then HBW.out hb2)
      clear hb2
      go_wp2_with fail
      go_roundw
      case rel => exact ⟨k + 1, HLT.out, by go_num, by rw [HNX.out], HB2.out⟩
      case measure => have := HLT.out; simp [intOf]; omega
    · have ek : k = l.length := by omega
      subst ek
      clear hbw
      generalize it G m l.length = x at *
      go_wp2_with fail
      go_ret
      exact ⟨ret_b HZ.out, HKP.out⟩
set_option maxRecDepth 100000 in
theorem spec_conn (n m : Int) (u : Value) (l : List A2) (S : Nat → Prop) (w : World) (hr : atomsC.rd w S [u] l) :
    Calls Try.prog 50 #[.agg #[.int .i64 n, u], .int .i64 m] w fun e w' => e = .returned (.bool (cOk n l m)) ∧ Below w.heap.size w w' := by
  have HV := Lib.hid (fun w' (hb : Below w.heap.size w w') => spec_mask n m u l S w' (Cd.later hr hb))
  have HR := Lib.hid (fun w' (hb : Below w.heap.size w w') => Cd.later hr hb)
  obtain ⟨a, cap, rfl, hlm⟩ := Cd.sl_form hr
  clear hr
  have HC := Lib.hid (Loc2.of (row_alloc w (.cells #[.int .i64 n, .slice a l.length cap] 60)))
  have HB := Lib.hid (below_alloc w (.cells #[.int .i64 n, .slice a l.length cap] 60))
  cases hq : mOk n l m
  · have HZ := Lib.hid (show false = cOk n l m by unfold cOk; rw [hq]; rfl)
    rw [hq] at HV
    clear hq
    go_enter Try.func50, Try.ntmps50
    go_wp2_with fail
    generalize w.alloc _ = W at *
    refine (HV.out _ HB.out).mono ?_
    rintro e w1 ⟨rfl, hb1⟩
    have HB1 := Lib.hid (below_then HB.out hb1)
    clear hb1
    go_wp2_with fail
    go_ret
    exact ⟨ret_b HZ.out, HB1.out⟩
  rw [hq] at HV
  obtain ⟨t, rfl, _, htl⟩ := mOk_fm hq
  by_cases h0 : t = 0
  · have HZ := Lib.hid (show false = cOk n l (t : Int) by unfold cOk; rw [h0]; exact (Bool.and_false _).symm)
    subst h0
    have q1 : ¬ ((0 : Int) < ((0 : Nat) : Int)) := by omega
    clear hq
    go_enter Try.func50, Try.ntmps50
    go_wp2_with fail
    generalize w.alloc _ = W at *
    refine (HV.out _ HB.out).mono ?_
    rintro e w1 ⟨rfl, hb1⟩
    have HB1 := Lib.hid (below_then HB.out hb1)
    clear hb1
    go_wp2_with fail
    go_ret
    exact ⟨ret_b HZ.out, HB1.out⟩
  have h1 : 1 ≤ t := by omega
  have HZ := Lib.hid (show conn (gr l) t = cOk n l (t : Int) by unfold cOk; rw [hq]; rfl)
  have HJ := Lib.hid (fun w' (hb : Below w.heap.size w w') => spec_joined n t (.slice a l.length cap) l S w' (HR.out w' hb) (mOk_iff.1 hq).1 h1 htl)
  have q1 : (0 : Int) < (t : Int) := by omega
  clear hq htl h1 h0
  generalize conn (gr l) t = z at *
  go_enter Try.func50, Try.ntmps50
  go_wp2_with fail
  generalize w.alloc _ = W at *
  refine (HV.out _ HB.out).mono ?_
  rintro e w1 ⟨rfl, hb1⟩
  have HB1 := Lib.hid (below_then HB.out hb1)
  have c0 := (HC.out.later hb1).c0
  have c1 := (HC.out.later hb1).c1
  clear hb1
  go_wp2_with fail
  refine (HJ.out _ HB1.out).mono ?_
  rintro e w2 ⟨rfl, hb2⟩
  have HB2 := Lib.hid (below_then HB1.out hb2)
  clear hb2
  go_wp2_with fail
  go_ret
  exact ⟨ret_b HZ.out, HB2.out⟩
end Go.Proofs.Ytklamhnecncenaa.QgSpec

namespace Go.Proofs.Ytklamhnecncenaa.QgSpec
open Go Go.RowKit Byt Ints IntsLaw Cd Rows2 Tab TabSpec Exact Atom QryMath QrySpec QryImp MkAtom SlMath QgMath

theorem fm_pow {n : Int} {l : List A2} {t : Nat} (h1 : 1 ≤ t) (h : t ≤ fm n l) : t < 2 ^ l.length := by
  have := (mOk_iff.1 (fm_mOk h1 h)).2.2
  rw [pow_cast] at this
  omega
theorem fm_q {n : Int} {l : List A2} {t : Nat} (h1 : 1 ≤ t) (h : t ≤ fm n l) : qOk n l = true := (mOk_iff.1 (fm_mOk h1 h)).1
theorem split_zero (G t : Nat) : isSplit G t 0 = false := by unfold isSplit; rw [conn_zero, Bool.false_and, Bool.and_false]
theorem ow_back {w0 w : World} {base : Nat} {v : Value} {l : List Int} (h : OwnI w base 3 v l) (hin : InR l) (hb : w0.heap.size ≤ base) : ∃ fp, rowC.ow w w0.heap.size [v] l fp ∧ fp.Nodup :=
  ⟨_, rowC.ow_base (Cd.ow_of_own h hin) hb, Cd.own_nodup⟩
set_option maxRecDepth 100000 in
set_option maxHeartbeats 1600000 in
theorem spec_cm (n : Int) (u : Value) (l : List A2) (S : Nat → Prop) (w : World) (hr : atomsC.rd w S [u] l) :
    Calls Try.prog 56 #[.agg #[.int .i64 n, u]] w fun e w' => ∃ v' fp, e = .returned v' ∧ rowC.ow w' w.heap.size [v'] (cmL n l) fp ∧ fp.Nodup ∧ Below w.heap.size w w' := by
  have HFM := Lib.hid (fun w' (hb : Below w.heap.size w w') => spec_full n u l S w' (Cd.later hr hb))
  have HJ := Lib.hid (fun (m : Nat) (h1 : 1 ≤ m) (hm : m ≤ fm n l) w' (hb : Below w.heap.size w w') => spec_joined n m u l S w' (Cd.later hr hb) (fm_q h1 hm) h1 (fm_pow h1 hm))
  have HF16 := Lib.hid (fm_lt n l)
  obtain ⟨a, cap, rfl, hlm⟩ := Cd.sl_form hr
  have HZ := Lib.hid (show cmL n l = fil (conn (gr l)) (fm n l + 1) from rfl)
  clear hr
  generalize cmL n l = R at *
  generalize fm n l = F at *
  generalize gr l = G at *
  go_enter Try.func56, Try.ntmps56
  go_wp2_with fail
  generalize hW : w.alloc _ = W
  obtain ⟨r0, hz, hb0⟩ := start1 w _ hW
  have HC := Lib.hid (Loc2.of r0)
  have HB0 := Lib.hid hb0
  have HSZ := Lib.hid hz
  have HE := Lib.hid (Ints.OwnI.empty W W.heap.size 3 (Nat.le_refl _))
  clear hW r0 hb0 hz
  generalize hW2 : W.alloc _ = W2 at *
  obtain ⟨_, _, hb1⟩ := start1 W _ hW2
  have HB1 := Lib.hid hb1
  clear hW2 hb1
  refine (HFM.out _ (below_then HB0.out HB1.out)).mono ?_
  rintro e w3 ⟨rfl, hb3⟩
  have HB3 := Lib.hid (below_then HB1.out hb3)
  have HE3 := Lib.hid (HE.out.later hb3)
  clear hb3
  go_wp2_with fail
  go_loopw [3, 5] (fun o i wr => ∃ (k : Nat), 1 ≤ k ∧ k ≤ F + 1 ∧ i = .int .i64 k ∧ OwnI wr W.heap.size 3 o (fil (conn G) k) ∧ Below W.heap.size W wr) (fun _ i _ => F + 1 - (intOf i).toNat)
  case atStart => exact ⟨1, Nat.le_refl _, by omega, rfl, by rw [fil_one (conn_zero G), ← HSZ.out]; exact HE3.out, HB3.out⟩
  case round =>
    obtain ⟨k, hk1, hk, rfl, hown, hb⟩ := hrel
    have HLQ := Lib.hid (HC.out.later hb)
    have c0 := HLQ.out.c0
    have c1 := HLQ.out.c1
    have HB := Lib.hid hb
    have HF := HF16.out
    by_cases hlt : k ≤ F
    · have p1 : (0 : Int) ≤ (k : Int) := by omega
      have p2 : (k : Int) ≤ (F : Int) := by omega
      have p3 : (F : Int) < 16 := by omega
      have HJ1 := Lib.hid (HJ.out k hk1 hlt wr (below_then HB0.out hb))
      have HLT := Lib.hid (And.intro hk1 hlt)
      have hlen : (fil (conn G) k).length + 1 ≤ 1000000000000 := by have := fil_len (conn G) k; omega
      have HOW := Lib.hid hown
      clear hb hown hk1 hk hlt
      cases hx : conn G k
      · have HNX := Lib.hid (fil_no hx)
        rw [hx] at HJ1
        clear hx
        go_wp2_with fail
        refine HJ1.out.mono ?_
        rintro e w4 ⟨rfl, hb4⟩
        have HB4 := Lib.hid (below_then HB.out hb4)
        have HO4 := Lib.hid (HOW.out.later hb4)
        clear hb4
        go_wp2_with fail
        go_roundw
        case rel => exact ⟨k + 1, by omega, by have := HLT.out.2; omega, by go_num, by rw [HNX.out]; exact HO4.out, HB4.out⟩
        case measure => have := HLT.out.2; simp [intOf]; omega
      · have HNX := Lib.hid (fil_yes hx)
        rw [hx] at HJ1
        clear hx
        generalize fil (conn G) k = out at *
        go_wp2_with fail
        refine HJ1.out.mono ?_
        rintro e w4 ⟨rfl, hb4⟩
        have HB4 := Lib.hid (below_then HB.out hb4)
        have hown4 := HOW.out.later hb4
        have hbs := HB4.out.size
        clear hb4
        go_wp2_with (first | (at_builtin; refine wp_appendI rfl (.tmp 17) (.tmp 19) 24 rfl W.heap.size 3 Try.underlying24 info_i64 _ _ rfl hown4 _ rfl hlen hbs ?_))
        intro v' w5 hown5 hb5
        go_wp2_with fail
        go_roundw
        case rel => exact ⟨k + 1, by omega, by have := HLT.out.2; omega, by go_num, by rw [HNX.out]; exact hown5, HB4.out.trans hb5⟩
        case measure => have := HLT.out.2; simp [intOf]; omega
    · have ek : k = F + 1 := by omega
      subst ek
      rw [← HZ.out] at hown
      obtain ⟨fp, q1, q2⟩ := ow_back (w0 := w) hown (by rw [HZ.out]; exact inr_fil _ _ (by omega)) (by have := HSZ.out; omega)
      have HO := Lib.hid (And.intro q1 q2)
      have p2 : ¬ ((F : Int) + 1 ≤ (F : Int)) := by omega
      clear hown hb q1 q2 hk1 hk hlt
      go_wp2_with fail
      go_ret
      exact ⟨_, rfl, fp, HO.out.1, HO.out.2, below_then HB0.out HB.out⟩
set_option maxRecDepth 100000 in
set_option maxHeartbeats 1600000 in
theorem spec_js (n m : Int) (u : Value) (l : List A2) (S : Nat → Prop) (w : World) (hr : atomsC.rd w S [u] l) :
    Calls Try.prog 48 #[.agg #[.int .i64 n, u], .int .i64 m] w fun e w' => ∃ v' fp, e = .returned v' ∧ rowC.ow w' w.heap.size [v'] (jsL n l m) fp ∧ fp.Nodup ∧ Below w.heap.size w w' := by
  have HCN := Lib.hid (fun w' (hb : Below w.heap.size w w') => spec_conn n m u l S w' (Cd.later hr hb))
  have HJ := Lib.hid (fun (m : Nat) (h1 : 1 ≤ m) (hm : m ≤ fm n l) w' (hb : Below w.heap.size w w') => spec_joined n m u l S w' (Cd.later hr hb) (fm_q h1 hm) h1 (fm_pow h1 hm))
  obtain ⟨a, cap, rfl, hlm⟩ := Cd.sl_form hr
  clear hr
  cases hq : cOk n l m
  · have HZ := Lib.hid (jsL_no hq)
    rw [hq] at HCN
    clear hq HJ
    go_enter Try.func48, Try.ntmps48
    go_wp2_with fail
    generalize hW : w.alloc _ = W
    obtain ⟨r0, hz, hb0⟩ := start1 w _ hW
    have HB0 := Lib.hid hb0
    have HSZ := Lib.hid hz
    have HE := Lib.hid (Ints.OwnI.empty W W.heap.size 3 (Nat.le_refl _))
    clear hW r0 hb0 hz
    generalize hW2 : W.alloc _ = W2 at *
    obtain ⟨_, _, hb1⟩ := start1 W _ hW2
    have HB1 := Lib.hid (below_then HB0.out hb1)
    clear hW2 hb1
    refine (HCN.out _ HB1.out).mono ?_
    rintro e w3 ⟨rfl, hb3⟩
    have HB3 := Lib.hid (below_then HB1.out hb3)
    obtain ⟨fp, q1, q2⟩ := ow_back (w0 := w) (HE.out.later hb3) (fun x hx => by cases hx) (by have := HSZ.out; omega)
    rw [HSZ.out] at q1
    have HO := Lib.hid (And.intro q1 q2)
    clear hb3 q1 q2
    go_wp2_with fail
    go_ret
    exact ⟨_, fp, rfl, by rw [HZ.out]; exact HO.out.1, HO.out.2, HB3.out⟩
  rw [hq] at HCN
  obtain ⟨t, rfl, htf, _, h1, hcn⟩ := cOk_fm hq
  have HF16 := Lib.hid (show t < 16 by have := fm_lt n l; omega)
  have HTF := Lib.hid htf
  have HZ := Lib.hid (jsL_yes hq)
  clear hq htf hcn
  generalize jsL n l (t : Int) = R at *
  generalize fm n l = F at *
  generalize gr l = G at *
  go_enter Try.func48, Try.ntmps48
  go_wp2_with fail
  generalize hW : w.alloc _ = W
  obtain ⟨r0, hz, hb0⟩ := start1 w _ hW
  have HC := Lib.hid (Loc2.of r0)
  have HB0 := Lib.hid hb0
  have HSZ := Lib.hid hz
  have HE := Lib.hid (Ints.OwnI.empty W W.heap.size 3 (Nat.le_refl _))
  clear hW r0 hb0 hz
  generalize hW2 : W.alloc _ = W2 at *
  obtain ⟨_, _, hb1⟩ := start1 W _ hW2
  have HB1 := Lib.hid hb1
  clear hW2 hb1
  refine (HCN.out _ (below_then HB0.out HB1.out)).mono ?_
  rintro e w3 ⟨rfl, hb3⟩
  have HB3 := Lib.hid (below_then HB1.out hb3)
  have HE3 := Lib.hid (HE.out.later hb3)
  have H1 := Lib.hid h1
  clear hb3 h1
  go_wp2_with fail
  go_loopw [5, 6] (fun o i wr => ∃ (k : Nat), 1 ≤ k ∧ k ≤ t ∧ i = .int .i64 k ∧ OwnI wr W.heap.size 3 o (fil (isSplit G t) k) ∧ Below W.heap.size W wr) (fun _ i _ => t - (intOf i).toNat)
  case atStart => exact ⟨1, Nat.le_refl _, H1.out, rfl, by rw [fil_one (split_zero G t), ← HSZ.out]; exact HE3.out, HB3.out⟩
  case round =>
    obtain ⟨k, hk1, hk, rfl, hown, hb⟩ := hrel
    have HLQ := Lib.hid (HC.out.later hb)
    have c0 := HLQ.out.c0
    have c1 := HLQ.out.c1
    have HB := Lib.hid hb
    by_cases hlt : k < t
    · have p1 : (0 : Int) ≤ (k : Int) := by omega
      have p2 : (k : Int) < (t : Int) := by omega
      have p3 : (t : Int) < 16 := by have := HF16.out; omega
      have HKP := Lib.hid (below_then HB0.out hb)
      have HJ1 := Lib.hid (fun w' (hq : Below w.heap.size w w') => HJ.out k hk1 (by have := HTF.out; omega) w' hq)
      have HJ2 := Lib.hid (fun w' (hq : Below w.heap.size w w') => HJ.out (t - k) (by omega) (by have := HTF.out; omega) w' hq)
      have e1 : ((t - k : Nat) : Int) = (t : Int) - (k : Int) := by omega
      rw [e1] at HJ2
      have hand := and_nat (show k < 16 by omega) HF16.out
      have HLT := Lib.hid (And.intro hk1 hlt)
      have hlen : (fil (isSplit G t) k).length + 1 ≤ 1000000000000 := by have := fil_len (isSplit G t) k; omega
      have HOW := Lib.hid hown
      clear hb hown hk1 hk hlt e1
      by_cases hs : k &&& t = k
      · rw [hs] at hand
        cases hx : conn G k
        · have HNX := Lib.hid (fil_no (p := isSplit G t) (k := k) (by unfold isSplit; rw [hx, Bool.false_and, Bool.and_false]))
          rw [hx] at HJ1
          clear hx hs
          go_wp2_with fail
          refine (HJ1.out _ HKP.out).mono ?_
          rintro e w4 ⟨rfl, hb4⟩
          have HB4 := Lib.hid (below_then HB.out hb4)
          have HO4 := Lib.hid (HOW.out.later hb4)
          clear hb4
          go_wp2_with fail
          go_roundw
          case rel => exact ⟨k + 1, by omega, by have := HLT.out.2; omega, by go_num, by rw [HNX.out]; exact HO4.out, HB4.out⟩
          case measure => have := HLT.out.2; simp [intOf]; omega
        · rw [hx] at HJ1
          cases hy : conn G (t - k)
          · have HNX := Lib.hid (fil_no (p := isSplit G t) (k := k) (by unfold isSplit; rw [hy, Bool.and_false, Bool.and_false]))
            rw [hy] at HJ2
            clear hx hy hs
            go_wp2_with fail
            refine (HJ1.out _ HKP.out).mono ?_
            rintro e w4 ⟨rfl, hb4⟩
            have HB4 := Lib.hid (below_then HB.out hb4)
            have HO4 := Lib.hid (HOW.out.later hb4)
            have HL4 := Lib.hid (HLQ.out.later hb4)
            have c0 := HL4.out.c0
            have c1 := HL4.out.c1
            have HK4 := Lib.hid (below_then HKP.out hb4)
            clear hb4
            go_wp2_with fail
            refine (HJ2.out _ HK4.out).mono ?_
            rintro e w5 ⟨rfl, hb5⟩
            have HB5 := Lib.hid (below_then HB4.out hb5)
            have HO5 := Lib.hid (HO4.out.later hb5)
            clear hb5
            go_wp2_with fail
            go_roundw
            case rel => exact ⟨k + 1, by omega, by have := HLT.out.2; omega, by go_num, by rw [HNX.out]; exact HO5.out, HB5.out⟩
            case measure => have := HLT.out.2; simp [intOf]; omega
          · have HNX := Lib.hid (fil_yes (p := isSplit G t) (k := k) (by unfold isSplit; rw [hx, hy, hs]; simp))
            rw [hy] at HJ2
            clear hx hy hs
            generalize fil (isSplit G t) k = out at *
            go_wp2_with fail
            refine (HJ1.out _ HKP.out).mono ?_
            rintro e w4 ⟨rfl, hb4⟩
            have HB4 := Lib.hid (below_then HB.out hb4)
            have HO4 := Lib.hid (HOW.out.later hb4)
            have HL4 := Lib.hid (HLQ.out.later hb4)
            have c0 := HL4.out.c0
            have c1 := HL4.out.c1
            have HK4 := Lib.hid (below_then HKP.out hb4)
            clear hb4
            go_wp2_with fail
            refine (HJ2.out _ HK4.out).mono ?_
            rintro e w5 ⟨rfl, hb5⟩
            have HB5 := Lib.hid (below_then HB4.out hb5)
            have hown5 := HO4.out.later hb5
            have hbs := HB5.out.size
            clear hb5
            go_wp2_with (first | (at_builtin; refine wp_appendI rfl (.tmp 35) (.tmp 37) 24 rfl W.heap.size 3 Try.underlying24 info_i64 _ _ rfl hown5 _ rfl hlen hbs ?_))
            intro v' w6 hown6 hb6
            go_wp2_with fail
            go_roundw
            case rel => exact ⟨k + 1, by omega, by have := HLT.out.2; omega, by go_num, by rw [HNX.out]; exact hown6, HB5.out.trans hb6⟩
            case measure => have := HLT.out.2; simp [intOf]; omega
      · have HNX := Lib.hid (fil_no (p := isSplit G t) (k := k) (by unfold isSplit; rw [beq_eq_false_iff_ne.2 hs, Bool.false_and]))
        have hz2 : (((k &&& t : Nat) : Int) == (k : Int)) = false := by rw [beq_eq_false_iff_ne]; omega
        have hz3 : ¬ (((k &&& t : Nat) : Int) = (k : Int)) := by omega
        clear hs
        generalize k &&& t = z at *
        go_wp2_with fail
        go_roundw
        case rel => exact ⟨k + 1, by omega, by have := HLT.out.2; omega, by go_num, by rw [HNX.out]; exact HOW.out, HB.out⟩
        case measure => have := HLT.out.2; simp [intOf]; omega
    · have ek : k = t := by omega
      subst ek
      rw [← HZ.out] at hown
      obtain ⟨fp, q1, q2⟩ := ow_back (w0 := w) hown (by rw [HZ.out]; exact inr_fil _ _ (by have := HF16.out; omega)) (by have := HSZ.out; omega)
      have HO := Lib.hid (And.intro q1 q2)
      clear hown hb q1 q2 hk1 hk hlt
      go_wp2_with fail
      go_ret
      exact ⟨_, fp, rfl, HO.out.1, HO.out.2, below_then HB0.out HB.out⟩
end Go.Proofs.Ytklamhnecncenaa.QgSpec

namespace Go.Proofs.Ytklamhnecncenaa.QgDraw
open Go Go.RowKit Byt Ints IntsLaw Cd Rows2 Tab TabSpec Exact Atom QryMath QrySpec QryImp MkAtom SlMath Draw QryPar QryDraw QgMath QgSpec
open TabParse (strC strsC info_str)

theorem reads_up {w : World} {v : Value} {l : List UInt8} {B B' : Nat} (h : Reads w v l B) (hB : B ≤ B') : Reads w v l B' := by
  obtain ⟨a, cap, hv, hl, hc⟩ := h
  refine ⟨a, cap, hv, hl, hc.imp id ?_⟩
  rintro ⟨b, off, ha, hb, hcell⟩
  exact ⟨b, off, ha, by omega, hcell⟩
set_option maxRecDepth 100000 in
set_option maxHeartbeats 1600000 in
theorem mask_any (c : Nat) (v : Value) (l : List UInt8) (B : Nat) (w : World) (h : CR w c v l B) (n : Int) (a : Option Addr) (k cap : Nat) (hk : k ≤ 100) :
    Calls Try.prog 131 #[.pointer (some ⟨c, 0, none⟩), .agg #[.int .i64 n, .slice a k cap]] w fun e w' => ∃ m : Int, e = .returned (.int .i64 m) ∧ CR w' c v l B ∧ Cd.Touch [c] w w' := by
  have HC := Lib.hid (Loc2.of (row_alloc w (.cells #[.int .i64 n, .slice a k cap] 60)))
  have HB := Lib.hid (below_alloc w (.cells #[.int .i64 n, .slice a k cap] 60))
  have HCR := Lib.hid (h.later HB.out)
  have hlt := h.lt
  have HLT := Lib.hid hlt
  clear h hlt
  go_enter Try.func131, Try.ntmps131
  go_wp2_with fail
  generalize w.alloc _ = W at *
  refine (once_cr 10 c v l B W HCR.out).mono ?_
  rintro e w1 ⟨b, rfl, hc1, ht1⟩
  have HC1 := Lib.hid hc1
  have HT1 := Lib.hid (Cd.Touch.trans (Cd.Touch.of_below (fp := [c]) HB.out) ht1)
  have HL1 := Lib.hid (HC.out.touched ht1 (by have := HLT.out; simp; omega))
  clear hc1 ht1
  cases b
  · have c0 := HL1.out.c0
    have c1 := HL1.out.c1
    have q0 : (0 : Int) ≤ (k : Int) := by omega
    have q1 : (k : Int) ≤ 100 := by omega
    by_cases h4 : (k : Int) < 4
    · have q2 : min (4 : Int) (k : Int) = (k : Int) := by omega
      have q3 : ((k : Int)).toNat = k := by omega
      have q4 : ¬ ((4 : Int) ≤ (k : Int)) := by omega
      go_wp2_with fail
      refine (below_cr _ c v l B w1 HC1.out).mono ?_
      rintro e w2 ⟨x, rfl, _, _, hc2, ht2⟩
      have HA := Lib.hid (And.intro hc2 (Cd.Touch.trans HT1.out ht2))
      clear hc2 ht2
      go_wp2_with fail
      go_ret
      exact ⟨x, rfl, HA.out.1, HA.out.2⟩
    · have q2 : min (4 : Int) (k : Int) = 4 := by omega
      have q4 : (4 : Int) ≤ (k : Int) := by omega
      go_wp2_with fail
      refine (below_cr _ c v l B w1 HC1.out).mono ?_
      rintro e w2 ⟨x, rfl, _, _, hc2, ht2⟩
      have HA := Lib.hid (And.intro hc2 (Cd.Touch.trans HT1.out ht2))
      clear hc2 ht2
      go_wp2_with fail
      go_ret
      exact ⟨x, rfl, HA.out.1, HA.out.2⟩
  · have HAL := Lib.hid (HC1.out.later (below_alloc w1 (.cells (([-1, 0, 16, 9223372036854775807] : List Int).map fun z => Value.int .i64 z).toArray 3)))
    have HP := Lib.hid (pickI_cr [-1, 0, 16, 9223372036854775807] w1.heap.size (by simp) (by simp) c v l B _ HAL.out (by have := HC1.out.lt; omega) (LocDraw.list_cellsI _ w1 3))
    have HBA := Lib.hid (below_alloc w1 (.cells (([-1, 0, 16, 9223372036854775807] : List Int).map fun z => Value.int .i64 z).toArray 3))
    go_wp2_with fail
    refine HP.out.mono ?_
    rintro e w2 ⟨x, _, rfl, hc2, ht2⟩
    have HA := Lib.hid (And.intro hc2 (Cd.Touch.trans HT1.out (Cd.Touch.trans (Cd.Touch.of_below HBA.out) ht2)))
    clear hc2 ht2
    go_wp2_with fail
    go_ret
    exact ⟨x, rfl, HA.out.1, HA.out.2⟩
/-- A drawn query and a mask. -/
def MDrawn (w : World) (e : Ending) (w' : World) : Prop :=
  ∃ n u L m, e = .returned (.tuple #[.agg #[.int .i64 n, u], .int .i64 m]) ∧ atomsC.rd w' (fun b => w.heap.size ≤ b ∧ b < w'.heap.size) [u] L ∧ (-9223372036854775808 ≤ n ∧ n ≤ 9223372036854775807) ∧ OkQ L ∧ Below w.heap.size w w'
set_option maxRecDepth 100000 in
set_option maxHeartbeats 3200000 in
theorem both_any (v : Value) (l : List UInt8) (w : World) (B : Nat) (hr : Reads w v l B) (hB : B ≤ w.heap.size) :
    Calls Try.prog 94 #[v] w (MDrawn w) := by
  replace hr := reads_up hr hB
  have HR := Lib.hid (fun w' (hb : Below w.heap.size w w') => hr.later hb)
  have HN := Lib.hid (fun B w' (hr : Reads w' v l B) => new_any v l B w' hr)
  clear hr
  go_enter Try.func94, Try.ntmps94
  go_wp2_with fail
  generalize hW : w.alloc _ = W0
  obtain ⟨r0, hz, hb0⟩ := start1 w _ hW
  clear hW
  refine (HN.out _ W0 (HR.out _ hb0)).mono ?_
  rintro e w1 ⟨rfl, hc1, hg1⟩
  have hb1 : Below W0.heap.size W0 w1 := ⟨hg1.os, hg1.tape, hg1.output, hg1.size, fun k hk => hg1.block k hk (by simp)⟩
  have HB1 := Lib.hid (below_then hb0 hb1)
  have HL1 := Lib.hid ((Loc2.of r0).later hb1)
  have hlt1 := cur_size hc1
  have HC1 := Lib.hid (show CR w1 W0.heap.size v l w.heap.size from ⟨hc1, HR.out _ HB1.out, by omega⟩)
  have hcw : w.heap.size < W0.heap.size := by omega
  obtain ⟨c, hcc⟩ : ∃ c, W0.heap.size = c := ⟨_, rfl⟩
  rw [hcc] at HC1 hcw hlt1
  rw [hcc]
  have HCW := Lib.hid hcw
  have HLT := Lib.hid hlt1
  clear r0 hz hb0 hb1 hc1 hg1 HN hcc hcw hlt1
  have HD := Lib.hid (any_any c v l w.heap.size w1 HC1.out)
  go_wp2_with fail
  refine HD.out.mono ?_
  rintro e w2 ⟨n, u, L, fp, rfl, how, _, hn, hok, hc2, ht2⟩
  obtain ⟨al, cl, rfl⟩ := Cd.ow_slice (c := atomC) how
  have hst : QT w c v l w.heap.size w2.heap.size n (.slice al L.length cl) L fp (w2.alloc (.cells #[.int .i64 n, .slice al L.length cl] 60 (0, 0))) := by
    have hA := below_alloc w2 (.cells #[.int .i64 n, .slice al L.length cl] 60 (0, 0))
    have hs2 := ht2.size
    have h1 := HLT.out
    have h2 := HCW.out
    exact ⟨Loc2.of (row_alloc _ _), ⟨_, _, (HL1.out.touched ht2 (by simp; omega)).later hA⟩, Cd.ow_later (atomsC.ow_base how (by omega)) hA, hc2.later hA, HCW.out, Nat.le_refl _, by omega, below_then (Cd.Touch.below HB1.out ht2 (fun b hb => by rw [List.mem_singleton.1 hb]; omega)) hA⟩
  have HS := Lib.hid hst
  have HOK := Lib.hid (And.intro hn hok)
  have HK := Lib.hid (show L.length ≤ 100 by have := hok.2.1; omega)
  clear hst how hn hok hc2 ht2 HD HL1 HB1 HC1
  go_wp2_with fail
  generalize w2.alloc _ = W2 at *
  generalize w2.heap.size = X at *
  refine (once_cr 3 c v l w.heap.size W2 HS.out.cu).mono ?_
  rintro e w3 ⟨b, rfl, hc3, ht3⟩
  have HS3 := Lib.hid (HS.out.grown ht3 hc3)
  clear hc3 ht3
  have z0 := HS3.out.lx.c0
  have z1 := HS3.out.lx.c1
  obtain ⟨ra, rb, r0, r1, rf0, rf1⟩ := HS3.out.lr
  have hs0 := HS3.out.drew
  cases b
  · have HMK := Lib.hid (fun W' (h : QT w c v l w.heap.size X n (.slice al L.length cl) L fp W') => mask_any c v l w.heap.size W' h.cu n al L.length cl HK.out)
    go_upto_region 5 with fail
    go_region_held3 (fun wx => wx.cell? ⟨X, 0, none⟩ = some (.int .i64 n) ∧ wx.cell? ⟨X, 1, none⟩ = some (.slice al L.length cl) ∧ QT w c v l w.heap.size X n (.slice al L.length cl) L fp wx)
      (exact QT.all (by first | assumption | exact QT.setR (by assumption) _ _))
      (first | (go_at_call 131; refine (HMK.out _ (by assumption)).mono ?_; rintro e w5 ⟨x, rfl, hc5, ht5⟩; (have hs5 : QT w c v l w.heap.size X n (.slice al L.length cl) L fp w5 := QT.grown (by assumption) ht5 hc5); (have y0 := hs5.lx.c0); (have y1 := hs5.lx.c1); obtain ⟨ya, yb, y2, y3, y4, y5⟩ := hs5.lr; clear hc5 ht5))
    all_goals
      obtain ⟨k0, k1, hf⟩ := hs5.fin (.int .i64 n) (.slice al L.length cl)
      go_wp2_with fail
      exact bodyPost_ret (v := .tuple #[.agg #[.int .i64 n, .slice al L.length cl], .int .i64 x]) (by simp [results, Try.results94, go_sem, k0, k1]) rfl ⟨n, _, L, x, rfl, hf.rd, HOK.out.1, HOK.out.2, hf.bl⟩
  · have HFL := Lib.hid (fun W' (h : QT w c v l w.heap.size X n (.slice al L.length cl) L fp W') => spec_full n (.slice al L.length cl) L _ W' h.rd)
    generalize fm n L = F at *
    go_upto_region 4 with fail
    go_region_held3 (fun wx => wx.cell? ⟨X, 0, none⟩ = some (.int .i64 n) ∧ wx.cell? ⟨X, 1, none⟩ = some (.slice al L.length cl) ∧ QT w c v l w.heap.size X n (.slice al L.length cl) L fp wx)
      (exact QT.all (by first | assumption | exact QT.setR (by assumption) _ _))
      (first | (go_at_call 52; refine (HFL.out _ (by assumption)).mono ?_; rintro e w5 ⟨rfl, hb5⟩; (have hs5 : QT w c v l w.heap.size X n (.slice al L.length cl) L fp w5 := QT.later (by assumption) hb5); (have y0 := hs5.lx.c0); (have y1 := hs5.lx.c1); obtain ⟨ya, yb, y2, y3, y4, y5⟩ := hs5.lr; clear hb5))
    all_goals
      obtain ⟨k0, k1, hf⟩ := hs5.fin (.int .i64 n) (.slice al L.length cl)
      go_wp2_with fail
      exact bodyPost_ret (v := .tuple #[.agg #[.int .i64 n, .slice al L.length cl], .int .i64 F]) (by simp [results, Try.results94, go_sem, k0, k1]) rfl ⟨n, _, L, F, rfl, hf.rd, HOK.out.1, HOK.out.2, hf.bl⟩
set_option maxRecDepth 100000 in
set_option maxHeartbeats 1600000 in
theorem draw_splits (v : Value) (l : List UInt8) (w : World) (hr : Reads w v l w.heap.size) :
    Calls Try.prog 45 #[v] w (MDrawn w) := by
  have HR := Lib.hid (fun w' (hb : Below w.heap.size w w') => hr.later hb)
  clear hr
  go_enter Try.func45, Try.ntmps45
  go_wp2_with fail
  generalize hW : w.alloc _ = W0
  obtain ⟨r0, hz, hb0⟩ := start1 w _ hW
  have HL := Lib.hid (Loc2.of r0)
  have HB0 := Lib.hid hb0
  have HZ := Lib.hid hz
  clear hW r0
  refine (both_any v l W0 w.heap.size (HR.out _ hb0) (by omega)).mono ?_
  rintro e w1 ⟨n, u, L, m, rfl, hrd, hn, hok, hb1⟩
  obtain ⟨al, cl, rfl, _⟩ := Cd.sl_form hrd
  have HB1 := Lib.hid (below_then HB0.out hb1)
  have hA := below_alloc w1 (.cells #[.int .i64 n, .slice al L.length cl] 60 (0, 0))
  have hl2 := (HL.out.later hb1).later hA
  have HL2 := Lib.hid hl2
  have HRD := Lib.hid (Cd.later hrd hA)
  have HB2 := Lib.hid (below_then HB1.out hA)
  have HOK := Lib.hid (And.intro hn hok)
  have HZ1 := Lib.hid (And.intro hb1.size hA.size)
  obtain ⟨g0, g1, gf0, gf1⟩ := HL2.out
  have HX := Lib.hid (Loc2.of (row_alloc w1 (.cells #[.int .i64 n, .slice al L.length cl] 60 (0, 0))))
  clear hrd hn hok hb1 hb0 hz hA hl2
  go_wp2_with fail
  generalize w1.alloc _ = W2 at *
  obtain ⟨k0, k1⟩ := set2 (w := W2) (k := w.heap.size) (x := .int .i64 n) (y := .slice al L.length cl) g0 g1
  refine bodyPost_ret (v := .tuple #[.agg #[.int .i64 n, .slice al L.length cl], .int .i64 m]) (by simp [results, Try.results45, go_sem, k0, k1]) rfl ⟨n, _, L, m, rfl, ?_, HOK.out.1, HOK.out.2, (HB2.out.setCell (Nat.le_refl _) _).setCell (Nat.le_refl _) _⟩
  refine atomsC.mono (atomsC.keep (w' := (W2.setCell ⟨w.heap.size, 0, none⟩ (.int .i64 n)).setCell ⟨w.heap.size, 1, none⟩ (.slice al L.length cl)) HRD.out fun b hb _ => ?_) fun b _ hb => ?_
  · have := HZ.out
    rw [Below.heap_setCell _ _ _ _ (by show b ≠ w.heap.size; omega), Below.heap_setCell _ _ _ _ (by show b ≠ w.heap.size; omega)]
  · have h1 := HZ.out
    have h2 := HZ1.out
    refine ⟨by omega, ?_⟩
    simp only [World.size_setCell]
    omega
end Go.Proofs.Ytklamhnecncenaa.QgDraw

namespace Go.Proofs.Ytklamhnecncenaa.QgTree
open Go Go.RowKit Byt Ints IntsLaw Cd Rows2 Tab TabSpec Exact Atom QryMath QrySpec QryImp MkAtom SlMath QgMath QgSpec

def trees (G : Nat) : Nat → Nat → Nat
  | 0, _ => 0
  | f + 1, m => if (splits G m).isEmpty then 1 else ((splits G m).map fun p => trees G f p * trees G f (m - p)).sum
/-- The number of join trees of a connected mask. -/
def T (G m : Nat) : Nat := trees G 4 m
theorem trees_deep : ∀ G < 64, ∀ m < 15, trees G 4 m = trees G 3 m := by decide +kernel
theorem split_some : ∀ G < 64, ∀ m < 16, conn G m = true → ¬ (m &&& (m - 1) = 0) → splits G m ≠ [] := by decide +kernel
theorem single_sub : ∀ m < 16, m &&& (m - 1) = 0 → ∀ p < m, p &&& m = p → p = 0 := by decide +kernel
theorem splits_mem {G m p : Nat} (h : p ∈ splits G m) : p < m ∧ isSplit G m p = true := by
  unfold splits at h
  obtain ⟨h1, h2⟩ := List.mem_filter.1 h
  exact ⟨List.mem_range.1 h1, h2⟩
theorem isSplit_iff {G m p : Nat} : isSplit G m p = true ↔ p &&& m = p ∧ conn G p = true ∧ conn G (m - p) = true := by
  unfold isSplit
  rw [Bool.and_eq_true, Bool.and_eq_true, beq_iff_eq]
theorem conn_pos {G m : Nat} (h : conn G m = true) : 1 ≤ m := by
  rcases Nat.eq_zero_or_pos m with q | q
  · subst q; cases h
  · exact q
theorem split_none {G m : Nat} (hm : m < 16) (h : m &&& (m - 1) = 0) : splits G m = [] := by
  rw [List.eq_nil_iff_forall_not_mem]
  intro p hp
  obtain ⟨h1, h2⟩ := splits_mem hp
  obtain ⟨h3, h4, _⟩ := isSplit_iff.1 h2
  have := single_sub m hm h p h1 h3
  have := conn_pos h4
  omega
theorem sum_le {l : List Nat} {B : Nat} (h : ∀ x ∈ l, x ≤ B) : l.sum ≤ l.length * B := by
  induction l with
  | nil => simp
  | cons x xs ih =>
    have h1 := h x List.mem_cons_self
    have h2 := ih fun y hy => h y (List.mem_cons_of_mem _ hy)
    rw [List.sum_cons, List.length_cons, Nat.succ_mul]
    omega
theorem splits_len (G m : Nat) (h : m ≤ 16) : (splits G m).length ≤ 16 := by
  unfold splits
  refine Nat.le_trans (List.length_filter_le _ _) ?_
  rw [List.length_range]
  exact h
theorem trees_le (G f B : Nat) (hB : ∀ m, m ≤ 16 → trees G f m ≤ B) : ∀ m, m ≤ 16 → trees G (f + 1) m ≤ 1 + 16 * (B * B) := fun m hm => by
  rw [trees]
  split
  · omega
  · have h1 : ((splits G m).map fun p => trees G f p * trees G f (m - p)).sum ≤ _ := sum_le (B := B * B) fun x hx => by
      obtain ⟨p, hp, rfl⟩ := List.mem_map.1 hx
      have h2 := (splits_mem hp).1
      exact Nat.mul_le_mul (hB p (by omega)) (hB (m - p) (by omega))
    rw [List.length_map] at h1
    have h3 := Nat.mul_le_mul_right (B * B) (splits_len G m hm)
    omega
theorem trees3_le (G m : Nat) (h : m ≤ 16) : trees G 3 m ≤ 1336337 := by
  have h0 : ∀ m, m ≤ 16 → trees G 0 m ≤ 0 := fun _ _ => Nat.le_refl _
  have h1 := trees_le G 0 0 h0
  have h2 := trees_le G 1 _ h1
  have h3 := trees_le G 2 _ h2
  exact Nat.le_trans (h3 m h) (by decide)
theorem T_le {G m : Nat} (hG : G < 64) (h : m < 15) : T G m ≤ 1336337 := by
  unfold T
  rw [trees_deep G hG m h]
  exact trees3_le G m (by omega)
theorem T_single {G m : Nat} (h : splits G m = []) : T G m = 1 := by unfold T; rw [trees, h]; rfl
/-- The trees of the splits in a list. -/
def csum (G t : Nat) (X : List Int) : Nat := (X.map fun p => T G p.toNat * T G (t - p.toNat)).sum
theorem csum_snoc (G t : Nat) (X : List Int) (p : Int) : csum G t (X ++ [p]) = csum G t X + T G p.toNat * T G (t - p.toNat) := by simp [csum]
theorem fil_splits (G t : Nat) : fil (isSplit G t) t = (splits G t).map Int.ofNat := rfl
theorem T_sum {G t : Nat} (hG : G < 64) (ht : t < 16) (h : splits G t ≠ []) : csum G t (fil (isSplit G t) t) = T G t := by
  unfold csum
  rw [fil_splits, List.map_map]
  have e : T G t = ((splits G t).map fun p => trees G 3 p * trees G 3 (t - p)).sum := by
    unfold T
    rw [trees]
    cases hs : splits G t with
    | nil => exact absurd hs h
    | cons x xs => rfl
  rw [e]
  congr 1
  refine List.map_congr_left fun p hp => ?_
  obtain ⟨h1, h2⟩ := splits_mem hp
  have h3 := conn_pos (isSplit_iff.1 h2).2.1
  show T G (Int.ofNat p).toNat * T G (t - (Int.ofNat p).toNat) = _
  rw [Int.ofNat_eq_natCast, Int.toNat_natCast]
  unfold T
  rw [trees_deep G hG p (by omega), trees_deep G hG (t - p) (by omega)]
theorem fil_nil {G t : Nat} : fil (isSplit G t) t = [] ↔ splits G t = [] := by rw [fil_splits, List.map_eq_nil_iff]
theorem fil_mem {G t : Nat} {x : Int} (h : x ∈ fil (isSplit G t) t) : ∃ p : Nat, x = (p : Int) ∧ p < t ∧ 1 ≤ p ∧ conn G p = true ∧ conn G (t - p) = true ∧ p &&& t = p := by
  obtain ⟨p, h1, h2, rfl⟩ := mem_fil.1 h
  obtain ⟨h3, h4, h5⟩ := isSplit_iff.1 h2
  exact ⟨p, rfl, h1, conn_pos h4, h4, h5, h3⟩
theorem csum_le {G t : Nat} (hG : G < 64) (ht : t < 16) {X : List Int} (h : ∀ x ∈ X, ∃ p : Nat, x = (p : Int) ∧ p < t ∧ 1 ≤ p) : csum G t X ≤ X.length * 1785796577569 := by
  unfold csum
  have h1 : (X.map fun p => T G p.toNat * T G (t - p.toNat)).sum ≤ _ := sum_le (B := 1785796577569) fun y hy => by
    obtain ⟨x, hx, rfl⟩ := List.mem_map.1 hy
    obtain ⟨p, rfl, h2, h3⟩ := h x hx
    rw [Int.toNat_natCast]
    exact Nat.le_trans (Nat.mul_le_mul (T_le hG (show p < 15 by omega)) (T_le hG (show t - p < 15 by omega))) (by decide)
  rw [List.length_map] at h1
  exact h1
/-- What the functions answer. -/
def ct (n : Int) (l : List A2) (m : Int) : Nat := if cOk n l m then T (gr l) m.toNat else 0
theorem ct_no {n m : Int} {l : List A2} (h : cOk n l m = false) : ct n l m = 0 := by unfold ct; rw [h]; rfl
theorem ct_yes {n : Int} {t : Nat} {l : List A2} (h : cOk n l (t : Int) = true) : ct n l (t : Int) = T (gr l) t := by unfold ct; rw [h]; rfl
theorem cOk_part {n : Int} {l : List A2} {t p : Nat} (h : cOk n l (t : Int) = true) (hp : p ≤ t) (hc : conn (gr l) p = true) : cOk n l (p : Int) = true := by
  obtain ⟨t', e, h1, _⟩ := cOk_fm h
  have e2 : t = t' := by omega
  subst e2
  rw [cOk_iff]
  exact ⟨fm_mOk (conn_pos hc) (by omega), by rw [Int.toNat_natCast]; exact hc⟩
theorem mul_w {x y : Nat} (hx : x ≤ 1336337) (hy : y ≤ 1336337) : IntKind.i64.wrap ((x : Int) * (y : Int)) = (x : Int) * (y : Int) := by
  have h := Nat.mul_le_mul hx hy
  have e : (x : Int) * (y : Int) = ((x * y : Nat) : Int) := by push_cast; rfl
  rw [e, IntKind.wrap_i64]
  omega
theorem add_w {c x y : Nat} (hc : c ≤ 28572745241104) (hx : x ≤ 1336337) (hy : y ≤ 1336337) : IntKind.i64.wrap ((c : Int) + (x : Int) * (y : Int)) = (c : Int) + (x : Int) * (y : Int) := by
  have h := Nat.mul_le_mul hx hy
  have e : (x : Int) * (y : Int) = ((x * y : Nat) : Int) := by push_cast; rfl
  rw [e, IntKind.wrap_i64]
  omega
set_option maxRecDepth 100000 in
set_option maxHeartbeats 3200000 in
theorem spec_rec (n : Int) (u : Value) (l : List A2) (S : Nat → Prop) (w0 : World) (hr0 : atomsC.rd w0 S [u] l) (b : Nat) : ∀ (t : Nat), t ≤ b → cOk n l (t : Int) = true → ∀ (w : World), Below w0.heap.size w0 w →
    Calls Try.prog 62 #[.agg #[.int .i64 n, u], .int .i64 (t : Int)] w fun e w' => e = .returned (.int .i64 (T (gr l) t : Int)) ∧ Below w.heap.size w w' := by
  induction b with
  | zero =>
    intro t ht hc
    obtain ⟨t', e, _, _, h1, _⟩ := cOk_fm hc
    omega
  | succ b ih =>
  intro t ht hc w hb0
  have hr := Cd.later hr0 hb0
  have IH := Lib.hid (fun (p : Nat) (hp : p < t) (hcp : cOk n l (p : Int) = true) w' (hb : Below w.heap.size w w') => ih p (by omega) hcp w' (below_then hb0 hb))
  have HCN := Lib.hid (fun w' (hb : Below w.heap.size w w') => spec_conn n (t : Int) u l S w' (Cd.later hr hb))
  have HJS := Lib.hid (fun w' (hb : Below w.heap.size w w') => spec_js n (t : Int) u l S w' (Cd.later hr hb))
  rw [hc] at HCN
  rw [jsL_yes hc] at HJS
  have hG := gr_lt l
  have ht16 : t < 16 := by
    obtain ⟨t', e, h1, _⟩ := cOk_fm hc
    have := fm_lt n l
    omega
  have hcn : conn (gr l) t = true := (cOk_iff.1 hc).2
  have ht1 := conn_pos hcn
  have HMEM := Lib.hid (fun x (h : x ∈ fil (isSplit (gr l) t) t) => fil_mem h)
  have HPART := Lib.hid (fun (p : Nat) (hp : p ≤ t) (h : conn (gr l) p = true) => cOk_part hc hp h)
  have HTL := Lib.hid (fun (m : Nat) (h : m < 15) => T_le (G := gr l) hG h)
  have HCL := Lib.hid (fun (X : List Int) (h : ∀ x ∈ X, ∃ p : Nat, x = (p : Int) ∧ p < t ∧ 1 ≤ p) => csum_le hG ht16 h)
  have HXL := Lib.hid (fil_len (isSplit (gr l) t) t)
  have h1 := and_nat ht16 (show t - 1 < 16 by omega)
  have e1 : ((t - 1 : Nat) : Int) = (t : Int) - 1 := by omega
  rw [e1] at h1
  have q1 : (1 : Int) ≤ (t : Int) := by omega
  have q2 : (t : Int) < 16 := by omega
  have HT16 := Lib.hid ht16
  obtain ⟨a, cap, rfl, hlm⟩ := Cd.sl_form hr
  clear hr hr0 hb0 ih e1
  have HC := Lib.hid (Loc2.of (row_alloc w (.cells #[.int .i64 n, .slice a l.length cap] 60)))
  have HB := Lib.hid (below_alloc w (.cells #[.int .i64 n, .slice a l.length cap] 60))
  by_cases hs : t &&& (t - 1) = 0
  · have HZ := Lib.hid (T_single (split_none (G := gr l) ht16 hs))
    rw [hs] at h1
    clear hs hG ht16 hcn ht1 hc
    go_enter Try.func62, Try.ntmps62
    go_wp2_with fail
    generalize w.alloc _ = W at *
    refine (HCN.out _ HB.out).mono ?_
    rintro e w1 ⟨rfl, hb1⟩
    have HB1 := Lib.hid (below_then HB.out hb1)
    have c0 := (HC.out.later hb1).c0
    have c1 := (HC.out.later hb1).c1
    clear hb1
    go_wp2_with fail
    refine (HJS.out _ HB1.out).mono ?_
    rintro e w2 ⟨x', fx, rfl, _, _, hb2⟩
    have HB2 := Lib.hid (below_then HB1.out hb2)
    clear hb2
    go_wp2_with fail
    go_ret
    exact ⟨ret_int (by rw [HZ.out]; rfl), HB2.out⟩
  have HZ := Lib.hid (T_sum hG ht16 (split_some _ hG t ht16 hcn hs))
  have h2 : (((t &&& (t - 1) : Nat) : Int) == 0) = false := by rw [beq_eq_false_iff_ne]; omega
  have h3 : ¬ (((t &&& (t - 1) : Nat) : Int) = 0) := by omega
  clear hG ht16 hcn ht1 hc hs
  generalize t &&& (t - 1) = z at *
  generalize fil (isSplit (gr l) t) t = X at *
  generalize gr l = G at *
  go_enter Try.func62, Try.ntmps62
  go_wp2_with fail
  generalize w.alloc _ = W at *
  refine (HCN.out _ HB.out).mono ?_
  rintro e w1 ⟨rfl, hb1⟩
  have HB1 := Lib.hid (below_then HB.out hb1)
  have HC1 := Lib.hid (HC.out.later hb1)
  have c0 := HC1.out.c0
  have c1 := HC1.out.c1
  clear hb1
  go_wp2_with fail
  refine (HJS.out _ HB1.out).mono ?_
  rintro e w2 ⟨x', fx, rfl, hox, _, hb2⟩
  have HB2 := Lib.hid (below_then HB1.out hb2)
  have HC2 := Lib.hid (HC1.out.later hb2)
  have HXR := Lib.hid (rowC.ow_rd hox)
  obtain ⟨ax, cx, rfl, _⟩ := (row_ri (rowC.ow_rd hox)).1
  clear hb2 hox c0 c1
  go_wp2_with fail
  clear h1 h2 h3
  go_loopw [6, 7] (fun s i wr => ∃ k : Nat, k ≤ X.length ∧ i = .int .i64 k ∧ s = .int .i64 (csum G t (X.take k) : Int) ∧ Below w2.heap.size w2 wr) (fun _ i _ => X.length - (intOf i).toNat)
  case atStart => exact ⟨0, Nat.zero_le _, rfl, rfl, Below.refl _ _⟩
  case round =>
    obtain ⟨k, hk, rfl, rfl, hbw⟩ := hrel
    have HBW := Lib.hid hbw
    have HLQ := Lib.hid (HC2.out.later hbw)
    have c0 := HLQ.out.c0
    have c1 := HLQ.out.c1
    have HKP := Lib.hid (show Below w.heap.size w wr from below_then HB2.out hbw)
    have hxr := Cd.later HXR.out hbw
    by_cases hlt : k < X.length
    · obtain ⟨b1, off, cap', e1, hbB, hcell⟩ := ri_at (row_ri hxr).1 hlt
      injection e1 with e1 e2 e3
      subst e1 e3
      have HNX := Lib.hid (show csum G t (X.take (k + 1)) = csum G t (X.take k) + T G X[k].toNat * T G (t - X[k].toNat) by rw [List.take_succ_eq_append_getElem hlt, csum_snoc])
      have hcs : csum G t (X.take k) ≤ 28572745241104 := by
        have h1 := HCL.out (X.take k) (fun x hx => by
          obtain ⟨p, e, h1, h2, _⟩ := HMEM.out x (List.mem_of_mem_take hx)
          exact ⟨p, e, h1, h2⟩)
        have h2 := HXL.out
        have h3 := HT16.out
        rw [List.length_take] at h1
        have h4 : min k X.length ≤ 16 := by omega
        have h5 := Nat.mul_le_mul_right 1785796577569 h4
        omega
      obtain ⟨p, hxp, hpt, hp1, hcp, hcq, hsub⟩ := HMEM.out _ (List.getElem_mem hlt)
      rw [hxp] at hcell HNX
      rw [Int.toNat_natCast] at HNX
      have p1 : (0 : Int) ≤ (k : Int) := by omega
      have p2 : (k : Int) < (X.length : Int) := by omega
      have p3 : (X.length : Int) ≤ 16 := by have := HXL.out; have := HT16.out; omega
      have p4 : (p : Int) < (t : Int) := by omega
      have p5 : (0 : Int) ≤ (p : Int) := by omega
      have H1 := Lib.hid (fun w' (hb : Below w.heap.size w w') => IH.out p hpt (HPART.out p (by omega) hcp) w' hb)
      have H2 := Lib.hid (fun w' (hb : Below w.heap.size w w') => IH.out (t - p) (by omega) (HPART.out (t - p) (by omega) hcq) w' hb)
      have e4 : ((t - p : Nat) : Int) = (t : Int) - (p : Int) := by omega
      rw [e4] at H2
      have hx6 := HTL.out p (by have := HT16.out; omega)
      have hy6 := HTL.out (t - p) (by have := HT16.out; omega)
      have hsw : IntKind.i64.wrap ((t : Int) - (p : Int)) = (t : Int) - (p : Int) := by rw [IntKind.wrap_i64]; omega
      have hmul := mul_w hx6 hy6
      have hadd := add_w hcs hx6 hy6
      have HLT := Lib.hid (And.intro hlt hbB)
      have kk : Kp w wr.drew := kp_drew (show Kp w wr from HKP.out)
      clear hbw hxr hcs hxp hpt hp1 hcp hcq hsub hx6 hy6 e4 hlt hbB e2
      generalize csum G t (X.take k) = s at *
      generalize T G p = x at *
      generalize T G (t - p) = y at *
      go_wp2_with fail
      have HCE := Lib.hid hcell
      refine wp_region_held_drew (S := fun wx => wx.cell? ⟨w.heap.size, 0, none⟩ = some (.int .i64 n) ∧ wx.cell? ⟨w.heap.size, 1, none⟩ = some (.slice a l.length cap) ∧ wx.cell? ⟨b1, off + k, none⟩ = some (.int .i64 (p : Int)) ∧ Kp w wx) (by kernel_rfl) ?_ (fun hHeld => ?_)
      · (refine ⟨?_, ?_, ?_, ?_⟩ <;> first | assumption | (simp [*]; done))
      refine RegH.takeH (i := 0) (v := ?_) rfl (by kernel_rfl) (by kernel_rfl) (by kernel_rfl) (fun _ _ _ h => h) (Or.inl ⟨by rfl, ?_⟩) (by assumption) ?_
      rotate_left
      · (intro wS hSw; (try dsimp only at hSw); go_simp; try (with_reducible rfl))
      try simp only [Act.put, List.setIfInBounds_toArray, List.set_cons_zero, List.set_cons_succ]
      refine RegH.takeH (i := 1) (v := ?_) rfl (by kernel_rfl) (by kernel_rfl) (by kernel_rfl) (fun _ _ _ h => h) (Or.inl ⟨by rfl, ?_⟩) (by assumption) ?_
      rotate_left
      · (intro wS hSw; (try dsimp only at hSw); go_simp; try (with_reducible rfl))
      try simp only [Act.put, List.setIfInBounds_toArray, List.set_cons_zero, List.set_cons_succ]
      refine RegH.takeH (i := 2) (v := ?_) rfl (by kernel_rfl) (by kernel_rfl) (by kernel_rfl) (fun _ _ _ h => h) (Or.inl ⟨by rfl, ?_⟩) (by assumption) ?_
      rotate_left
      · (intro wS hSw; (try dsimp only at hSw); go_simp; try (with_reducible rfl))
      try simp only [Act.put, List.setIfInBounds_toArray, List.set_cons_zero, List.set_cons_succ]
      refine RegH.takeH (i := 3) (v := ?_) rfl (by kernel_rfl) (by kernel_rfl) (by kernel_rfl) (fun _ _ _ h => h) (Or.inl ⟨by rfl, ?_⟩) (by assumption) ?_
      rotate_left
      · (intro wS hSw; (try dsimp only at hSw); go_simp; try (with_reducible rfl))
      try simp only [Act.put, List.setIfInBounds_toArray, List.set_cons_zero, List.set_cons_succ]
      refine RegH.takeH (i := 4) (v := ?_) rfl (by kernel_rfl) (by kernel_rfl) (by kernel_rfl) (fun _ _ _ h => h) (Or.inl ⟨by rfl, ?_⟩) (by assumption) ?_
      rotate_left
      · (intro wS hSw; (try dsimp only at hSw); go_simp; try (with_reducible rfl))
      try simp only [Act.put, List.setIfInBounds_toArray, List.set_cons_zero, List.set_cons_succ]
      refine RegH.takeH (i := 5) (v := ?_) rfl (by kernel_rfl) (by kernel_rfl) (by kernel_rfl) (fun _ _ _ h => h) (Or.inl ⟨by rfl, ?_⟩) (by assumption) ?_
      rotate_left
      · (intro wS hSw; (try dsimp only at hSw); go_simp; try (with_reducible rfl))
      try simp only [Act.put, List.setIfInBounds_toArray, List.set_cons_zero, List.set_cons_succ]
      refine RegH.takeH (i := 7) (v := ?_) rfl (by kernel_rfl) (by kernel_rfl) (by kernel_rfl) (fun _ _ _ h => h) (Or.inl ⟨by rfl, ?_⟩) (by assumption) ?_
      rotate_left
      · (intro wS hSw; (try dsimp only at hSw); go_simp; try (with_reducible rfl))
      try simp only [Act.put, List.setIfInBounds_toArray, List.set_cons_zero, List.set_cons_succ]
      refine RegH.takeH (i := 8) (v := ?_) rfl (by kernel_rfl) (by kernel_rfl) (by kernel_rfl) (fun _ _ _ h => h) (Or.inl ⟨by rfl, ?_⟩) (by assumption) ?_
      rotate_left
      · (intro wS hSw; (try dsimp only at hSw); go_simp; try (with_reducible rfl))
      try simp only [Act.put, List.setIfInBounds_toArray, List.set_cons_zero, List.set_cons_succ]
      refine RegH.takeH (i := 9) (v := ?_) rfl (by kernel_rfl) (by kernel_rfl) (by kernel_rfl) (fun _ _ _ h => h) (Or.inl ⟨by rfl, ?_⟩) (by assumption) ?_
      rotate_left
      · (intro wS hSw; (try dsimp only at hSw); go_simp; try (with_reducible rfl))
      try simp only [Act.put, List.setIfInBounds_toArray, List.set_cons_zero, List.set_cons_succ]
      refine RegH.takeH (i := 10) (v := ?_) rfl (by kernel_rfl) (by kernel_rfl) (by kernel_rfl) (fun _ _ _ h => h) (Or.inl ⟨by rfl, ?_⟩) (by assumption) ?_
      rotate_left
      · (intro wS hSw; (try dsimp only at hSw); go_simp; try (with_reducible rfl))
      try simp only [Act.put, List.setIfInBounds_toArray, List.set_cons_zero, List.set_cons_succ]
      refine RegH.takeH (i := 11) (v := ?_) rfl (by kernel_rfl) (by kernel_rfl) (by kernel_rfl) (fun _ _ _ h => h) (Or.inl ⟨by rfl, ?_⟩) (by assumption) ?_
      rotate_left
      · (intro wS hSw; (try dsimp only at hSw); go_simp; try (with_reducible rfl))
      try simp only [Act.put, List.setIfInBounds_toArray, List.set_cons_zero, List.set_cons_succ]
      refine RegH.takeH (i := 12) (v := ?_) rfl (by kernel_rfl) (by kernel_rfl) (by kernel_rfl) (fun _ _ _ h => h) (Or.inl ⟨by rfl, ?_⟩) (by assumption) ?_
      rotate_left
      · (intro wS hSw; (try dsimp only at hSw); go_simp; try (with_reducible rfl))
      try simp only [Act.put, List.setIfInBounds_toArray, List.set_cons_zero, List.set_cons_succ]
      refine RegH.takeH (i := 13) (v := ?_) rfl (by kernel_rfl) (by kernel_rfl) (by kernel_rfl) (fun _ _ _ h => h) (Or.inl ⟨by rfl, ?_⟩) (by assumption) ?_
      rotate_left
      · (intro wS hSw; (try dsimp only at hSw); go_simp; try (with_reducible rfl))
      try simp only [Act.put, List.setIfInBounds_toArray, List.set_cons_zero, List.set_cons_succ]
      refine RegH.consH (i := 6) rfl (by kernel_rfl) (fun K hK => ?_)
      go_simp
      go_at_call 62
      refine (H1.out _ (show Below w.heap.size w wr.drew from kk)).mono ?_
      rintro e wq ⟨rfl, hbq⟩
      have kq : Kp w wq := below_then (show Below w.heap.size w wr.drew from kk) hbq
      have HBQwq := Lib.hid (below_then (bd_drew wr) hbq)
      have n0wq := (HLQ.out.later HBQwq.out).c0
      have n1wq := (HLQ.out.later HBQwq.out).c1
      have n2wq := (Below.cell HBQwq.out (p := ⟨b1, off + k, none⟩) HLT.out.2).trans HCE.out
      clear hbq
      go_wp2_with fail
      refine hK.out _ _ ?_ (fun hHeld => ?_)
      · (refine ⟨?_, ?_, ?_, ?_⟩ <;> first | assumption | (simp [*]; done))
      clear hK K
      try simp only [Act.put, List.setIfInBounds_toArray, List.set_cons_zero, List.set_cons_succ]
      refine RegH.consH (i := 14) rfl (by kernel_rfl) (fun K hK => ?_)
      go_simp
      go_at_call 62
      refine (H2.out _ (show Below w.heap.size w wq from kq)).mono ?_
      rintro e wp ⟨rfl, hbq⟩
      have kp : Kp w wp := below_then (show Below w.heap.size w wq from kq) hbq
      have HBQwp := Lib.hid (below_then HBQwq.out hbq)
      have n0wp := (HLQ.out.later HBQwp.out).c0
      have n1wp := (HLQ.out.later HBQwp.out).c1
      have n2wp := (Below.cell HBQwp.out (p := ⟨b1, off + k, none⟩) HLT.out.2).trans HCE.out
      clear hbq
      go_wp2_with fail
      refine hK.out _ _ ?_ (fun hHeld => ?_)
      · (refine ⟨?_, ?_, ?_, ?_⟩ <;> first | assumption | (simp [*]; done))
      clear hK K
      try simp only [Act.put, List.setIfInBounds_toArray, List.set_cons_zero, List.set_cons_succ]
      refine RegH.takeH (i := 15) (v := ?_) rfl (by kernel_rfl) (by kernel_rfl) (by kernel_rfl) (fun _ _ _ h => h) (Or.inl ⟨by rfl, ?_⟩) (by assumption) ?_
      rotate_left
      · (intro wS hSw; (try dsimp only at hSw); go_simp; try (with_reducible rfl))
      try simp only [Act.put, List.setIfInBounds_toArray, List.set_cons_zero, List.set_cons_succ]
      refine RegH.takeH (i := 16) (v := ?_) rfl (by kernel_rfl) (by kernel_rfl) (by kernel_rfl) (fun _ _ _ h => h) (Or.inl ⟨by rfl, ?_⟩) (by assumption) ?_
      rotate_left
      · (intro wS hSw; (try dsimp only at hSw); go_simp; try (with_reducible rfl))
      try simp only [Act.put, List.setIfInBounds_toArray, List.set_cons_zero, List.set_cons_succ]
      refine RegH.takeH (i := 17) (v := ?_) rfl (by kernel_rfl) (by kernel_rfl) (by kernel_rfl) (fun _ _ _ h => h) (Or.inl ⟨by rfl, ?_⟩) (by assumption) ?_
      rotate_left
      · (intro wS hSw; (try dsimp only at hSw); go_simp; try (with_reducible rfl))
      try simp only [Act.put, List.setIfInBounds_toArray, List.set_cons_zero, List.set_cons_succ]
      refine wpAnyH_done (by kernel_rfl) ?_ _
      go_wp2_with fail
      go_roundw
      case rel => exact ⟨k + 1, HLT.out.1, by go_num, by rw [HNX.out]; push_cast; rfl, below_then HBW.out HBQwp.out⟩
      case measure => have := HLT.out.1; simp [intOf]; omega
    · have ek : k = X.length := by omega
      subst ek
      rw [List.take_length, HZ.out]
      clear hbw
      go_wp2_with fail
      go_ret
      exact ⟨rfl, HKP.out⟩
set_option maxRecDepth 100000 in
theorem spec_trees (n m : Int) (u : Value) (l : List A2) (S : Nat → Prop) (w : World) (hr : atomsC.rd w S [u] l) :
    Calls Try.prog 62 #[.agg #[.int .i64 n, u], .int .i64 m] w fun e w' => e = .returned (.int .i64 (ct n l m : Int)) ∧ Below w.heap.size w w' := by
  cases hc : cOk n l m
  · have HZ := Lib.hid (show (0 : Int) = ((ct n l m : Nat) : Int) by rw [ct_no hc]; rfl)
    have HCN := Lib.hid (fun w' (hb : Below w.heap.size w w') => spec_conn n m u l S w' (Cd.later hr hb))
    rw [hc] at HCN
    obtain ⟨a, cap, rfl, hlm⟩ := Cd.sl_form hr
    clear hr hc
    have HC := Lib.hid (Loc2.of (row_alloc w (.cells #[.int .i64 n, .slice a l.length cap] 60)))
    have HB := Lib.hid (below_alloc w (.cells #[.int .i64 n, .slice a l.length cap] 60))
    go_enter Try.func62, Try.ntmps62
    go_wp2_with fail
    generalize w.alloc _ = W at *
    refine (HCN.out _ HB.out).mono ?_
    rintro e w1 ⟨rfl, hb1⟩
    have HB1 := Lib.hid (below_then HB.out hb1)
    clear hb1
    go_wp2_with fail
    go_ret
    exact ⟨ret_int HZ.out, HB1.out⟩
  · obtain ⟨t, rfl, _⟩ := cOk_fm hc
    rw [ct_yes hc]
    exact spec_rec n u l S w hr t t (Nat.le_refl _) hc w (Below.refl _ _)
end Go.Proofs.Ytklamhnecncenaa.QgTree
