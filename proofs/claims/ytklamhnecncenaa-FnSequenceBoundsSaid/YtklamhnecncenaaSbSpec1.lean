/- Bounds from degree sequences: the model's bounds. -/
import Derived.Test.YtklamhnecncenaaSbMath
import Derived.Test.YtklamhnecncenaaDegSpec1
namespace Go.Proofs.Ytklamhnecncenaa.SbSpec
open Go Go.RowKit Byt Ints IntsLaw Cd Rows2 Tab TabSpec Exact DegMath DegSpec SbMath

set_option maxRecDepth 100000 in
set_option maxHeartbeats 1600000 in
theorem spec_pair (v1 v2 : Value) (a b : List Int) (B1 B2 : Nat) (w : World) (h1 : RI w v1 a B1) (h2 : RI w v2 b B2) :
    Calls Try.prog 16 #[v1, v2] w fun e w' => e = .returned (.int .i64 (pairL a b)) ∧ ∃ m, w' = w.drewN m := by
  have HA := Lib.hid (fun m => spec_seq v1 a B1 (w.drewN m) (ri_dn h1 m))
  have HB := Lib.hid (fun m => spec_seq v2 b B2 (w.drewN m) (ri_dn h2 m))
  have HV1 := Lib.hid (fun m => ri_dn h1 m)
  have HV2 := Lib.hid (fun m => ri_dn h2 m)
  have HBD := Lib.hid (show seqOk a = true → seqOk b = true → ∀ k, 0 ≤ mulL (a.take k) (b.take k) ∧ mulL (a.take k) (b.take k) ≤ 512 from fun q1 q2 k => mul_bd8 (of_decide_eq_true q1) (of_decide_eq_true q2) k)
  have HP8 := Lib.hid (show seqOk a = true → seqOk b = true → (∀ x ∈ a, 1 ≤ x ∧ x ≤ 8) ∧ ∀ x ∈ b, 1 ≤ x ∧ x ≤ 8 from fun q1 q2 => ⟨fun x => pos8 (of_decide_eq_true q1), fun x => pos8 (of_decide_eq_true q2)⟩)
  have HNO1 := Lib.hid (show seqOk a = false → pairL a b = 0 from pair_no1)
  have HNO2 := Lib.hid (show seqOk b = false → pairL a b = 0 from pair_no2)
  have HEND := Lib.hid (show seqOk a = true → seqOk b = true → ∀ k, a.length ≤ k ∨ b.length ≤ k → pairL a b = mulL (a.take k) (b.take k) from fun q1 q2 k hk => by rw [pair_yes q1 q2, mul_take hk])
  have HZR := Lib.hid (show ∀ k, a.length ≤ k ∨ b.length ≤ k → k = 0 → pairL a b = 0 from fun k hk h0 => by
    subst h0
    unfold pairL
    split
    · rw [← mul_take hk]; rfl
    · rfl)
  obtain ⟨a1, c1, rfl, hl1, _⟩ := h1
  obtain ⟨a2, c2, rfl, hl2, _⟩ := h2
  generalize seqOk a = qa at *
  generalize seqOk b = qb at *
  go_enter Try.func16, Try.ntmps16
  go_wp2_with fail
  go_loopw [5, 6] (fun n i wr => ∃ k m : Nat, k ≤ a.length ∧ k ≤ b.length ∧ i = .int .i64 k ∧ n = .int .i64 (mulL (a.take k) (b.take k)) ∧ Hid (k = 0 ∨ (qa = true ∧ qb = true)) ∧ wr = w.drewN m) (fun _ i _ => a.length - (intOf i).toNat)
  case atStart => exact ⟨0, 0, Nat.zero_le _, Nat.zero_le _, rfl, rfl, Lib.hid (.inl rfl), rfl⟩
  case round =>
    obtain ⟨k, m, hk1, hk2, rfl, rfl, hz, hwr⟩ := hrel
    have hri1 := HV1.out m
    have hri2 := HV2.out m
    rw [← hwr] at hri1 hri2
    have HWR := Lib.hid hwr
    clear hwr
    have HAM := Lib.hid (fun j => HA.out (m + j))
    have HBM := Lib.hid (fun j => HB.out (m + j))
    have HWJ := Lib.hid (show ∀ j, w.drewN (m + j) = wr.drewN j from fun j => by rw [HWR.out, World.drewN_drewN])
    have p1 : (0 : Int) ≤ (k : Int) := by omega
    by_cases hlt1 : k < a.length
    case neg =>
      have hend : a.length ≤ k ∨ b.length ≤ k := .inl (by omega)
      have n1 : ¬ ((k : Int) < (a.length : Int)) := by omega
      have HZ := Lib.hid (show pairL a b = mulL (a.take k) (b.take k) from by
        rcases hz.out with h | ⟨h, h'⟩
        · rw [HZR.out k hend h, h]; rfl
        · exact HEND.out h h' k hend)
      clear hend
      generalize mulL (a.take k) (b.take k) = s at *
      go_wp2_with fail
      go_ret
      exact ⟨ret_int HZ.out.symm, _, HWR.out⟩
    have n1 : (k : Int) < (a.length : Int) := by omega
    by_cases hlt2 : k < b.length
    case neg =>
      have hend : a.length ≤ k ∨ b.length ≤ k := .inr (by omega)
      have n2 : ¬ ((k : Int) < (b.length : Int)) := by omega
      have HZ := Lib.hid (show pairL a b = mulL (a.take k) (b.take k) from by
        rcases hz.out with h | ⟨h, h'⟩
        · rw [HZR.out k hend h, h]; rfl
        · exact HEND.out h h' k hend)
      clear hend
      generalize mulL (a.take k) (b.take k) = s at *
      go_wp2_with fail
      go_ret
      exact ⟨ret_int HZ.out.symm, _, HWR.out⟩
    have n2 : (k : Int) < (b.length : Int) := by omega
    have HC1 := Lib.hid (show Calls Try.prog 19 #[_] wr fun e w' => e = .returned (.bool qa) ∧ ∃ j, w' = wr.drewN j from by
      have h := HAM.out 0
      rw [HWJ.out] at h
      exact h)
    cases qa
    · have HZ := Lib.hid (show pairL a b = mulL (a.take k) (b.take k) from by
        rcases hz.out with h | ⟨h, _⟩
        · rw [HNO1.out rfl, h]; rfl
        · cases h)
      clear hz
      generalize mulL (a.take k) (b.take k) = s at *
      go_wp2_with fail
      refine HC1.out.mono ?_
      rintro e w1 ⟨rfl, j, rfl⟩
      go_wp2_with fail
      go_ret
      exact ⟨ret_int HZ.out.symm, _, by rw [HWR.out, World.drewN_drewN]⟩
    have HC2 := Lib.hid (show ∀ j, Calls Try.prog 19 #[_] (wr.drewN j) fun e w' => e = .returned (.bool qb) ∧ ∃ j', w' = (wr.drewN j).drewN j' from fun j => by
      have h := HBM.out j
      rw [HWJ.out] at h
      exact h)
    cases qb
    · have HZ := Lib.hid (show pairL a b = mulL (a.take k) (b.take k) from by
        rcases hz.out with h | ⟨_, h⟩
        · rw [HNO2.out rfl, h]; rfl
        · cases h)
      clear hz
      generalize mulL (a.take k) (b.take k) = s at *
      go_wp2_with fail
      refine HC1.out.mono ?_
      rintro e w1 ⟨rfl, j, rfl⟩
      go_wp2_with fail
      refine (HC2.out _).mono ?_
      rintro e w2 ⟨rfl, j', rfl⟩
      go_wp2_with fail
      go_ret
      exact ⟨ret_int HZ.out.symm, _, by rw [HWR.out, World.drewN_drewN]⟩
    obtain ⟨b1, o1, cap1, e1, hb1, hc1⟩ := ri_at hri1 hlt1
    injection e1 with e1 e2 e3
    subst e1 e3
    obtain ⟨b2, o2, cap2, e1, hb2, hc2⟩ := ri_at hri2 hlt2
    injection e1 with e1 e2 e3
    subst e1 e3
    have HNX := Lib.hid (mul_next hlt1 hlt2)
    obtain ⟨s1, s2⟩ := HBD.out rfl rfl k
    obtain ⟨s3, s4⟩ := HBD.out rfl rfl (k + 1)
    obtain ⟨x1, x2⟩ := (HP8.out rfl rfl).1 _ (List.getElem_mem hlt1)
    obtain ⟨y1, y2⟩ := (HP8.out rfl rfl).2 _ (List.getElem_mem hlt2)
    have z1 : 0 ≤ a[k] * b[k] := Int.mul_nonneg (by omega) (by omega)
    have z2 : a[k] * b[k] ≤ 64 := (show _ ≤ (8 : Int) * 8 from Int.mul_le_mul x2 y2 (by omega) (by omega))
    rw [HNX.out] at s3 s4
    clear hz
    generalize hs : mulL (a.take k) (b.take k) = s at *
    generalize a[k] = x at *
    generalize b[k] = y at *
    go_wp2_with fail
    refine HC1.out.mono ?_
    rintro e w1 ⟨rfl, j, rfl⟩
    go_wp2_with fail
    refine (HC2.out _).mono ?_
    rintro e w2 ⟨rfl, j', rfl⟩
    have hd1 : ((wr.drewN j).drewN j').cell? ⟨b1, o1 + k, none⟩ = some (.int .i64 x) := hc1
    have hd2 : ((wr.drewN j).drewN j').cell? ⟨b2, o2 + k, none⟩ = some (.int .i64 y) := hc2
    have m1 : IntKind.i64.wrap (x * y) = x * y := by rw [IntKind.wrap_i64]; omega
    have m2 : IntKind.i64.wrap (s + x * y) = s + x * y := by rw [IntKind.wrap_i64]; omega
    go_wp2_with fail
    go_quiet (fail)
    go_wp2_with fail
    go_roundw
    case rel => exact ⟨k + 1, _, by omega, by omega, by go_num, by rw [HNX.out], Lib.hid (by simp), by rw [HWR.out, World.drewN_drewN]⟩
    case measure => simp [intOf]; omega
set_option maxRecDepth 100000 in
set_option maxHeartbeats 1600000 in
theorem spec_norm (v : Value) (l : List Int) (p : Int) (B : Nat) (w : World) (hr : RI w v l B) :
    Calls Try.prog 34 #[v, .int .i64 p] w fun e w' => e = .returned (.int .i64 (normL l p)) ∧ ∃ m, w' = w.drewN m := by
  have HS := Lib.hid (fun m => spec_seq v l B (w.drewN m) (ri_dn hr m))
  have HV := Lib.hid (fun m => ri_dn hr m)
  have HNO := Lib.hid (show seqOk l = false → normL l p = 0 from norm_no p)
  have HNP := Lib.hid (show ¬ (1 ≤ p ∧ p ≤ 3) → normL l p = 0 from norm_nop)
  have HNE := Lib.hid (show l.length = 0 → normL l p = 0 from fun h => by
    rw [List.eq_nil_of_length_eq_zero h]
    unfold normL
    split <;> rfl)
  have HSQ := Lib.hid (show seqOk l = true → SeqP l from fun h => of_decide_eq_true h)
  have HYS := Lib.hid (show seqOk l = true → ∀ P : Nat, p = (P : Int) → 1 ≤ P ∧ P ≤ 3 → normL l p = powS l P from fun h P hP hb => by rw [hP]; exact norm_yes h hb)
  obtain ⟨a, cap, rfl, hlm, _⟩ := hr
  generalize seqOk l = q at *
  by_cases hgood : q = true ∧ 1 ≤ p ∧ p ≤ 3
  case neg =>
    have HZ := Lib.hid (show normL l p = 0 from by
      cases hq : q
      · exact HNO.out hq
      · exact HNP.out fun h => hgood ⟨hq, h⟩)
    have HGD := Lib.hid hgood
    clear hgood
    go_enter Try.func34, Try.ntmps34
    go_wp2_with fail
    go_loopw [5, 6] (fun n i wr => n = .int .i64 0 ∧ i = .int .i64 0 ∧ wr = w) (fun _ _ _ => 0)
    case atStart => exact ⟨rfl, rfl, rfl⟩
    case round =>
      obtain ⟨rfl, rfl, hwr⟩ := hrel
      have hs := HS.out 0
      rw [show w.drewN 0 = wr from by rw [hwr]; rfl] at hs
      have HC := Lib.hid hs
      have HWR := Lib.hid hwr
      clear hwr hs
      by_cases hlt : 0 < l.length
      · have n1 : (0 : Int) < (l.length : Int) := by omega
        cases q
        · go_wp2_with fail
          refine HC.out.mono ?_
          rintro e w1 ⟨rfl, j, rfl⟩
          go_wp2_with fail
          go_ret
          exact ⟨ret_int HZ.out.symm, _, by rw [HWR.out]⟩
        · have hp : ¬ (1 ≤ p ∧ p ≤ 3) := fun h => HGD.out ⟨rfl, h⟩
          have HI := Lib.hid (fun W => Fixed.l1In_no hp W)
          clear hp
          go_wp2_with fail
          refine HC.out.mono ?_
          rintro e w1 ⟨rfl, j, rfl⟩
          go_wp2_with fail
          refine (HI.out _).mono ?_
          rintro e w2 ⟨rfl, rfl⟩
          go_wp2_with fail
          go_ret
          exact ⟨ret_int HZ.out.symm, _, by rw [HWR.out]⟩
      · have n1 : ¬ ((0 : Int) < (l.length : Int)) := by omega
        go_wp2_with fail
        go_ret
        exact ⟨ret_int HZ.out.symm, 0, HWR.out⟩
  obtain ⟨rfl, hp1, hp3⟩ := hgood
  obtain ⟨P, rfl⟩ := Int.eq_ofNat_of_zero_le (show 0 ≤ p by omega)
  have hP1 : 1 ≤ P := by omega
  have hP3 : P ≤ 3 := by omega
  have hsp := HSQ.out rfl
  have HBD := Lib.hid (show ∀ k, 0 ≤ powS (l.take k) P ∧ powS (l.take k) P ≤ 4096 from fun k => powS_bd8 hP3 hsp k)
  have HP8 := Lib.hid (show ∀ x ∈ l, 1 ≤ x ∧ x ≤ 8 from fun x => pos8 hsp)
  have HEND := Lib.hid (show normL l (P : Int) = powS (l.take l.length) P from by rw [List.take_length]; exact HYS.out rfl P rfl ⟨hP1, hP3⟩)
  have HI := Lib.hid (fun W => Fixed.l1In_yes hp1 hp3 W)
  have HPW := Lib.hid (show ∀ (x : Int) (j : Nat), 1 ≤ x → x ≤ 8 → j ≤ 3 → 0 ≤ powI x j ∧ powI x j ≤ 512 from fun x j h1 h2 h3 => by
    obtain ⟨q1, q2⟩ := pow_bd (show 0 ≤ x by omega) h2 j
    have h8 : powI 8 j ≤ 512 := by
      obtain h | h | h | h : j = 0 ∨ j = 1 ∨ j = 2 ∨ j = 3 := by omega
      all_goals subst h; decide
    omega)
  clear hsp hp1 hp3
  go_enter Try.func34, Try.ntmps34
  go_wp2_with fail
  go_loopw [5, 6] (fun n i wr => ∃ k m : Nat, k ≤ l.length ∧ i = .int .i64 k ∧ n = .int .i64 (powS (l.take k) P) ∧ wr = w.drewN m) (fun _ i _ => l.length - (intOf i).toNat)
  case atStart => exact ⟨0, 0, Nat.zero_le _, rfl, rfl, rfl⟩
  case round =>
    obtain ⟨k, m, hk, rfl, rfl, hwr⟩ := hrel
    have hri := HV.out m
    have hs := HS.out m
    rw [← hwr] at hri hs
    have HC := Lib.hid hs
    have HWR := Lib.hid hwr
    clear hwr hs
    by_cases hlt : k < l.length
    · have p1 : (0 : Int) ≤ (k : Int) := by omega
      have p2 : (k : Int) < (l.length : Int) := by omega
      obtain ⟨b, off, cap', e1, hbB, hc⟩ := ri_at hri hlt
      injection e1 with e1 e2 e3
      subst e1 e3
      have HNX := Lib.hid (powS_next P hlt)
      obtain ⟨s1, s2⟩ := HBD.out k
      obtain ⟨s3, s4⟩ := HBD.out (k + 1)
      obtain ⟨x1, x2⟩ := HP8.out _ (List.getElem_mem hlt)
      rw [HNX.out] at s3 s4
      generalize hs : powS (l.take k) P = s at *
      generalize l[k] = z at *
      go_wp2_with fail
      refine HC.out.mono ?_
      rintro e w1 ⟨rfl, j, rfl⟩
      go_wp2_with fail
      refine (HI.out _).mono ?_
      rintro e w2 ⟨rfl, rfl⟩
      have hc1 : (wr.drewN j).cell? ⟨b, off + k, none⟩ = some (.int .i64 z) := hc
      have HWJ := Lib.hid (show ∃ m', wr.drewN j = w.drewN m' from ⟨_, by rw [HWR.out, World.drewN_drewN]⟩)
      generalize wr.drewN j = w0 at *
      go_wp2_with fail
      go_loop [7, 8] (fun x i => ∃ t : Nat, t ≤ P ∧ i = .int .i64 t ∧ x = .int .i64 (powI z t)) (fun _ i => P - (intOf i).toNat)
      case atStart => exact ⟨0, Nat.zero_le _, rfl, rfl⟩
      case round =>
        obtain ⟨t, ht, rfl, rfl⟩ := hrel
        by_cases htp : t < P
        · have t1 : (t : Int) < (P : Int) := by omega
          have t2 : (t : Int) ≤ 3 := by omega
          have HPX := Lib.hid (show powI z (t + 1) = powI z t * z from rfl)
          obtain ⟨u1, u2⟩ := HPW.out z t x1 x2 (by omega)
          obtain ⟨u3, u4⟩ := HPW.out z (t + 1) x1 x2 (by omega)
          rw [HPX.out] at u3 u4
          generalize powI z t = y at *
          have m1 : IntKind.i64.wrap (y * z) = y * z := by rw [IntKind.wrap_i64]; omega
          go_wp2_with fail
          go_round
          case rel => exact ⟨t + 1, by omega, by go_num, by rw [HPX.out]⟩
          case measure => simp [intOf]; omega
        · obtain rfl : t = P := by omega
          have t1 : ¬ ((t : Int) < (t : Int)) := by omega
          obtain ⟨u1, u2⟩ := HPW.out z t x1 x2 (by omega)
          generalize powI z t = y at *
          go_wp2_with fail
          go_roundw
          case rel => exact ⟨k + 1, _, by omega, by go_num, by rw [HNX.out], HWJ.out.choose_spec⟩
          case measure => simp [intOf]; omega
    · have ek : k = l.length := by omega
      subst ek
      generalize powS (l.take l.length) P = s at *
      go_wp2_with fail
      go_ret
      exact ⟨ret_int HEND.out.symm, _, HWR.out⟩
set_option maxRecDepth 100000 in
set_option maxHeartbeats 1600000 in
theorem spec_root (n k : Int) (w : World) :
    Calls Try.prog 29 #[.int .i64 n, .int .i64 k] w fun e w' => e = .returned (.int .i64 (rootI n k)) ∧ w = w' := by
  by_cases hn : 0 ≤ n ∧ n ≤ 1000000
  case neg =>
    have HZ := Lib.hid (show rootI n k = -1 from root_no fun q => hn ⟨q.1, q.2.1⟩)
    have HI := Lib.hid (fun W => Fixed.l1In_no hn W)
    clear hn
    go_enter Try.func29, Try.ntmps29
    go_wp2_with fail
    refine (HI.out _).mono ?_
    rintro e w1 ⟨rfl, rfl⟩
    go_wp2_with fail
    go_ret
    exact ⟨ret_int HZ.out.symm, rfl⟩
  have HI1 := Lib.hid (fun W => Fixed.l1In_yes hn.1 hn.2 W)
  by_cases hk : 1 ≤ k ∧ k ≤ 3
  case neg =>
    have HZ := Lib.hid (show rootI n k = -1 from root_no fun q => hk q.2.2)
    have HI := Lib.hid (fun W => Fixed.l1In_no hk W)
    clear hn hk
    go_enter Try.func29, Try.ntmps29
    go_wp2_with fail
    refine (HI1.out _).mono ?_
    rintro e w1 ⟨rfl, rfl⟩
    go_wp2_with fail
    refine (HI.out _).mono ?_
    rintro e w1 ⟨rfl, rfl⟩
    go_wp2_with fail
    go_ret
    exact ⟨ret_int HZ.out.symm, rfl⟩
  have HI2 := Lib.hid (fun W => Fixed.l1In_yes hk.1 hk.2 W)
  obtain ⟨K, rfl⟩ := Int.eq_ofNat_of_zero_le (show 0 ≤ k by omega)
  obtain ⟨hn0, hn6⟩ := hn
  have hK1 : 1 ≤ K := by omega
  have hK3 : K ≤ 3 := by omega
  clear hk
  by_cases hone : K = 1
  · subst hone
    have HZ := Lib.hid (show rootI n ((1 : Nat) : Int) = n from root_one ⟨hn0, hn6⟩)
    go_enter Try.func29, Try.ntmps29
    go_wp2_with fail
    refine (HI1.out _).mono ?_
    rintro e w1 ⟨rfl, rfl⟩
    go_wp2_with fail
    refine (HI2.out _).mono ?_
    rintro e w1 ⟨rfl, rfl⟩
    go_wp2_with fail
    go_ret
    exact ⟨ret_int HZ.out.symm, rfl⟩
  have hone' : ¬ (K : Int) = 1 := by omega
  have HSM := Lib.hid (show ∀ r : Nat, powI (r : Int) K ≤ n → r ≤ 1000 from fun r h => by
    by_cases h1 : r ≤ 1000
    · exact h1
    · have h2 : powI 1001 2 ≤ powI (r : Int) K := by
        obtain rfl | rfl : K = 2 ∨ K = 3 := by omega
        · exact pow_mono (by omega) (by omega) 2
        · exact Int.le_trans (by decide) (pow_mono (x := 1001) (by omega) (by omega) 3)
      have h3 : powI 1001 2 = 1002001 := by decide
      omega)
  have HPW := Lib.hid (show ∀ r j : Nat, r ≤ 1000 → j ≤ 3 → 0 ≤ powI ((r : Int) + 1) j ∧ powI ((r : Int) + 1) j ≤ 2000000000 from fun r j h1 h3 => by
    obtain ⟨q1, q2⟩ := pow_bd (x := (r : Int) + 1) (m := 1001) (by omega) (by omega) j
    have h8 : powI 1001 j ≤ 2000000000 := by
      obtain h | h | h | h : j = 0 ∨ j = 1 ∨ j = 2 ∨ j = 3 := by omega
      all_goals subst h; decide
    omega)
  have HEND := Lib.hid (show ∀ r : Nat, powI (r : Int) K ≤ n → n < powI ((r : Int) + 1) K → rootI n (K : Int) = (r : Int) from fun r h1 h2 => root_is (by omega) h1 h2)
  have HST := Lib.hid (show powI ((0 : Nat) : Int) K ≤ n from by
    obtain rfl | rfl : K = 2 ∨ K = 3 := by omega
    all_goals simp [powI]; omega)
  have HRN := Lib.hid (show ∀ r : Nat, powI ((r : Int) + 1) K ≤ n → (r : Int) < n from fun r h => by
    obtain ⟨j, rfl⟩ : ∃ j, K = j + 1 := ⟨K - 1, by omega⟩
    have := pow_ge (x := (r : Int) + 1) (by omega) j
    omega)
  go_enter Try.func29, Try.ntmps29
  go_wp2_with fail
  refine (HI1.out _).mono ?_
  rintro e w1 ⟨rfl, rfl⟩
  go_wp2_with fail
  refine (HI2.out _).mono ?_
  rintro e w1 ⟨rfl, rfl⟩
  go_wp2_with fail
  go_loop [5] (fun r => ∃ t : Nat, r = .int .i64 t ∧ Hid (powI (t : Int) K ≤ n)) (fun r => n.toNat - (intOf r).toNat)
  case atStart => exact ⟨0, rfl, HST⟩
  case round =>
    obtain ⟨t, rfl, ht⟩ := hrel
    have hts := HSM.out t ht.out
    have t0 : (t : Int) ≤ 1000 := by omega
    go_wp2_with fail
    go_loop [6, 7] (fun x i => ∃ j : Nat, j ≤ K ∧ i = .int .i64 j ∧ x = .int .i64 (powI ((t : Int) + 1) j)) (fun _ i => K - (intOf i).toNat)
    case atStart => exact ⟨0, Nat.zero_le _, rfl, rfl⟩
    case round =>
      obtain ⟨j, hj, rfl, rfl⟩ := hrel
      by_cases hjk : j < K
      · have t1 : (j : Int) < (K : Int) := by omega
        have t2 : (j : Int) ≤ 3 := by omega
        have HPX := Lib.hid (show powI ((t : Int) + 1) (j + 1) = powI ((t : Int) + 1) j * ((t : Int) + 1) from rfl)
        obtain ⟨u1, u2⟩ := HPW.out t j hts (by omega)
        obtain ⟨u3, u4⟩ := HPW.out t (j + 1) hts (by omega)
        rw [HPX.out] at u3 u4
        generalize powI ((t : Int) + 1) j = y at *
        have m1 : IntKind.i64.wrap (y * ((t : Int) + 1)) = y * ((t : Int) + 1) := by rw [IntKind.wrap_i64]; omega
        go_wp2_with fail
        go_round
        case rel => exact ⟨j + 1, by omega, by go_num, by rw [HPX.out]⟩
        case measure => simp [intOf]; omega
      · obtain rfl : j = K := by omega
        have t1 : ¬ ((j : Int) < (j : Int)) := by omega
        by_cases hgt : n < powI ((t : Int) + 1) j
        · have HZ := Lib.hid (HEND.out t ht.out hgt)
          generalize powI ((t : Int) + 1) j = y at *
          go_wp2_with fail
          go_ret
          exact ⟨ret_int HZ.out.symm, rfl⟩
        · have HNX := Lib.hid (show powI ((t + 1 : Nat) : Int) j ≤ n from by push_cast; omega)
          have HLT := Lib.hid (HRN.out t (by omega))
          generalize powI ((t : Int) + 1) j = y at *
          go_wp2_with fail
          go_round
          case rel => exact ⟨t + 1, by go_num, HNX⟩
          case measure => have := HLT.out; simp [intOf]; omega
set_option maxRecDepth 100000 in
set_option maxHeartbeats 1600000 in
theorem spec_cau (v1 v2 : Value) (a b : List Int) (B1 B2 : Nat) (w : World) (h1 : RI w v1 a B1) (h2 : RI w v2 b B2) :
    Calls Try.prog 35 #[v1, v2] w fun e w' => e = .returned (.int .i64 (cauL a b)) ∧ ∃ m, w' = w.drewN m := by
  have HA := Lib.hid (spec_seq v1 a B1 w h1)
  have HB := Lib.hid (fun m => spec_seq v2 b B2 (w.drewN m) (ri_dn h2 m))
  have HNA := Lib.hid (fun m => spec_norm v1 a 2 B1 (w.drewN m) (ri_dn h1 m))
  have HNB := Lib.hid (fun m => spec_norm v2 b 2 B2 (w.drewN m) (ri_dn h2 m))
  have HNO1 := Lib.hid (show seqOk a = false → cauL a b = 0 from cau_no1)
  have HNO2 := Lib.hid (show seqOk b = false → cauL a b = 0 from cau_no2)
  have HRT := Lib.hid (fun W => spec_root (normL a 2 * normL b 2) 2 W)
  rw [cau_root] at HRT
  obtain ⟨s1, s2⟩ := norm2_mul a b
  obtain ⟨s3, s4⟩ := norm2_bd a
  obtain ⟨s5, s6⟩ := norm2_bd b
  obtain ⟨a1, c1, rfl, hl1, _⟩ := h1
  obtain ⟨a2, c2, rfl, hl2, _⟩ := h2
  generalize seqOk a = qa at *
  generalize seqOk b = qb at *
  generalize cauL a b = R at *
  generalize normL a 2 = x at *
  generalize normL b 2 = y at *
  have m1 : IntKind.i64.wrap (x * y) = x * y := by rw [IntKind.wrap_i64]; omega
  cases qa
  · have HZ := Lib.hid (HNO1.out rfl)
    go_enter Try.func35, Try.ntmps35
    go_wp2_with fail
    refine HA.out.mono ?_
    rintro e w1 ⟨rfl, j1, rfl⟩
    go_wp2_with fail
    go_ret
    exact ⟨ret_int HZ.out.symm, _, rfl⟩
  cases qb
  · have HZ := Lib.hid (HNO2.out rfl)
    go_enter Try.func35, Try.ntmps35
    go_wp2_with fail
    refine HA.out.mono ?_
    rintro e w1 ⟨rfl, j1, rfl⟩
    go_wp2_with fail
    refine (HB.out _).mono ?_
    rintro e w1 ⟨rfl, j2, rfl⟩
    go_wp2_with fail
    go_ret
    exact ⟨ret_int HZ.out.symm, _, rfl⟩
  have HDD := Lib.hid (show ∀ i j, (w.drewN i).drewN j = w.drewN (i + j) from fun i j => World.drewN_drewN ..)
  go_enter Try.func35, Try.ntmps35
  go_wp2_with fail
  refine HA.out.mono ?_
  rintro e w1 ⟨rfl, j1, rfl⟩
  go_wp2_with fail
  refine (HB.out _).mono ?_
  rintro e w1 ⟨rfl, j2, rfl⟩
  rw [HDD.out]
  go_wp2_with fail
  refine (HNA.out _).mono ?_
  rintro e w1 ⟨rfl, j3, rfl⟩
  rw [HDD.out]
  go_wp2_with fail
  refine (HNB.out _).mono ?_
  rintro e w1 ⟨rfl, j4, rfl⟩
  rw [HDD.out]
  go_wp2_with fail
  refine (HRT.out _).mono ?_
  rintro e w1 ⟨rfl, rfl⟩
  go_wp2_with fail
  go_ret
  exact ⟨rfl, _, rfl⟩
set_option maxRecDepth 100000 in
set_option maxHeartbeats 1600000 in
theorem spec_mxd (v1 v2 : Value) (a b : List Int) (B1 B2 : Nat) (w : World) (h1 : RI w v1 a B1) (h2 : RI w v2 b B2) :
    Calls Try.prog 36 #[v1, v2] w fun e w' => e = .returned (.int .i64 (mxdL a b)) ∧ ∃ m, w' = w.drewN m := by
  have HA := Lib.hid (spec_seq v1 a B1 w h1)
  have HB := Lib.hid (fun m => spec_seq v2 b B2 (w.drewN m) (ri_dn h2 m))
  have HTA := Lib.hid (fun m => spec_total v1 a B1 (w.drewN m) (ri_dn h1 m))
  have HTB := Lib.hid (fun m => spec_total v2 b B2 (w.drewN m) (ri_dn h2 m))
  have HV1 := Lib.hid (fun m => ri_dn h1 m)
  have HV2 := Lib.hid (fun m => ri_dn h2 m)
  have HNO1 := Lib.hid (show seqOk a = false ∨ a.length = 0 → mxdL a b = 0 from fun h => mxd_no1 (h.imp id List.eq_nil_of_length_eq_zero))
  have HNO2 := Lib.hid (show seqOk b = false ∨ b.length = 0 → mxdL a b = 0 from fun h => mxd_no2 (h.imp id List.eq_nil_of_length_eq_zero))
  have HT1 := Lib.hid (show seqOk a = true → topL a 1 = a.headD 0 from top_one)
  have HT2 := Lib.hid (show seqOk b = true → topL b 1 = b.headD 0 from top_one)
  have HEQ := Lib.hid (show mxdL a b = min (totL a * topL b 1) (totL b * topL a 1) from rfl)
  obtain ⟨⟨s1, s2⟩, s3, s4⟩ := mxd_bd a b
  obtain ⟨a1, c1, rfl, hl1, hz1⟩ := h1
  obtain ⟨a2, c2, rfl, hl2, hz2⟩ := h2
  clear hz1 hz2
  have HDD := Lib.hid (show ∀ i j, (w.drewN i).drewN j = w.drewN (i + j) from fun i j => World.drewN_drewN ..)
  generalize seqOk a = qa at *
  generalize seqOk b = qb at *
  generalize mxdL a b = R at *
  cases qa
  · have HZ := Lib.hid (HNO1.out (.inl rfl))
    go_enter Try.func36, Try.ntmps36
    go_wp2_with fail
    refine HA.out.mono ?_
    rintro e w1 ⟨rfl, j1, rfl⟩
    go_wp2_with fail
    go_ret
    exact ⟨ret_int HZ.out.symm, _, rfl⟩
  cases qb
  · have HZ := Lib.hid (HNO2.out (.inl rfl))
    go_enter Try.func36, Try.ntmps36
    go_wp2_with fail
    refine HA.out.mono ?_
    rintro e w1 ⟨rfl, j1, rfl⟩
    go_wp2_with fail
    refine (HB.out _).mono ?_
    rintro e w1 ⟨rfl, j2, rfl⟩
    rw [HDD.out]
    go_wp2_with fail
    go_ret
    exact ⟨ret_int HZ.out.symm, _, rfl⟩
  by_cases ha0 : a.length = 0
  · have HZ := Lib.hid (HNO1.out (.inr ha0))
    clear HTA HTB HV1 HV2 HNO1 HNO2 HT1 HT2 HEQ
    generalize a.length = N at *
    subst ha0
    go_enter Try.func36, Try.ntmps36
    go_wp2_with fail
    refine HA.out.mono ?_
    rintro e w1 ⟨rfl, j1, rfl⟩
    go_wp2_with fail
    refine (HB.out _).mono ?_
    rintro e w1 ⟨rfl, j2, rfl⟩
    rw [HDD.out]
    go_wp2_with fail
    go_ret
    exact ⟨ret_int HZ.out.symm, _, rfl⟩
  have na : ¬ (a.length : Int) = 0 := by omega
  by_cases hb0 : b.length = 0
  · have HZ := Lib.hid (HNO2.out (.inr hb0))
    clear HTA HTB HV1 HV2 HNO1 HNO2 HT1 HT2 HEQ
    generalize b.length = N at *
    subst hb0
    go_enter Try.func36, Try.ntmps36
    go_wp2_with fail
    refine HA.out.mono ?_
    rintro e w1 ⟨rfl, j1, rfl⟩
    go_wp2_with fail
    refine (HB.out _).mono ?_
    rintro e w1 ⟨rfl, j2, rfl⟩
    rw [HDD.out]
    go_wp2_with fail
    go_ret
    exact ⟨ret_int HZ.out.symm, _, rfl⟩
  have nb : ¬ (b.length : Int) = 0 := by omega
  have na2 : ((a.length : Int) == 0) = false := beq_eq_false_iff_ne.2 na
  have nb2 : ((b.length : Int) == 0) = false := beq_eq_false_iff_ne.2 nb
  have qa1 : (0 : Int) < (a.length : Int) := by omega
  have qb1 : (0 : Int) < (b.length : Int) := by omega
  have pa : 0 < a.length := by omega
  have pb : 0 < b.length := by omega
  have e1 : topL a 1 = a[0] := by rw [HT1.out rfl]; cases a with | nil => cases pa | cons x l => rfl
  have e2 : topL b 1 = b[0] := by rw [HT2.out rfl]; cases b with | nil => cases pb | cons x l => rfl
  rw [e1, e2] at HEQ
  rw [e2] at s1 s2
  rw [e1] at s3 s4
  obtain ⟨g1, o1, k1, q1, hg1, hc1⟩ := ri_at (HV1.out 0) pa
  injection q1 with q1 q2 q3
  subst q1 q3
  obtain ⟨g2, o2, k2, q1, hg2, hc2⟩ := ri_at (HV2.out 0) pb
  injection q1 with q1 q2 q3
  subst q1 q3
  rw [Nat.add_zero] at hc1 hc2
  clear e1 e2
  generalize a[0] = x at *
  generalize b[0] = y at *
  generalize totL a = ta at *
  generalize totL b = tb at *
  have m1 : IntKind.i64.wrap (ta * y) = ta * y := by rw [IntKind.wrap_i64]; omega
  have m2 : IntKind.i64.wrap (tb * x) = tb * x := by rw [IntKind.wrap_i64]; omega
  go_enter Try.func36, Try.ntmps36
  go_wp2_with fail
  refine HA.out.mono ?_
  rintro e w1 ⟨rfl, j1, rfl⟩
  go_wp2_with fail
  refine (HB.out _).mono ?_
  rintro e w1 ⟨rfl, j2, rfl⟩
  rw [HDD.out]
  have hd1 : (w.drewN (j1 + j2)).cell? ⟨g1, o1, none⟩ = some (.int .i64 x) := hc1
  have hd2 : (w.drewN (j1 + j2)).cell? ⟨g2, o2, none⟩ = some (.int .i64 y) := hc2
  have HTA2 := Lib.hid (show ∀ q, Calls Try.prog 21 #[_] ((w.drewN (j1 + j2)).drewN q) fun e w' => e = .returned (.int .i64 ta) ∧ ∃ m, w' = ((w.drewN (j1 + j2)).drewN q).drewN m from fun q => by
    rw [HDD.out]
    exact HTA.out _)
  have HTB2 := Lib.hid (show ∀ q, Calls Try.prog 21 #[_] ((w.drewN (j1 + j2)).drewN q) fun e w' => e = .returned (.int .i64 tb) ∧ ∃ m, w' = ((w.drewN (j1 + j2)).drewN q).drewN m from fun q => by
    rw [HDD.out]
    exact HTB.out _)
  generalize hWW : w.drewN (j1 + j2) = W at *
  have HWW := Lib.hid hWW.symm
  clear hWW
  go_wp2_with fail
  go_quiet (first | (go_at_call 21; first | with_reducible exact Calls.quiet_of (HTA2.out _) | with_reducible exact Calls.quiet_of (HTB2.out _)))
  go_wp2_with fail
  all_goals go_ret
  all_goals exact ⟨ret_int (by have := HEQ.out; omega), _, by rw [HWW.out, HDD.out]⟩
/-- A sequence built. -/
def SeqAns (l : List Int) (w : World) (e : Ending) (w' : World) : Prop :=
  ∃ (v : Value) (fp : List Nat), e = .returned v ∧ rowC.ow w' w.heap.size [v] l fp ∧ fp.Nodup ∧ Below w.heap.size w w'
set_option maxRecDepth 100000 in
set_option maxHeartbeats 1600000 in
theorem spec_from (t g : Int) (w : World) :
    Calls Try.prog 37 #[.int .i64 t, .int .i64 g] w fun e w' => SeqAns (sfnL t g) w e w' := by
  have hbs : w.heap.size ≤ w.heap.size := Nat.le_refl _
  have HE := Lib.hid (And.intro (Ints.OwnI.empty w w.heap.size 3 hbs) ((Below.refl w.heap.size w).alloc hbs (.cells #[] 3)))
  by_cases ht : 0 ≤ t ∧ t ≤ 8
  case neg =>
    have HZ := Lib.hid (show sfnL t g = [] from sfn_no fun q => ht ⟨q.1, q.2.1⟩)
    have HI := Lib.hid (fun W => Fixed.l1In_no ht W)
    clear ht
    go_enter Try.func37, Try.ntmps37
    go_wp2_with fail
    refine (HI.out _).mono ?_
    rintro e w1 ⟨rfl, rfl⟩
    go_wp2_with fail
    go_ret
    exact ⟨_, _, rfl, by rw [HZ.out]; exact Cd.ow_of_own HE.out.1 (fun x hx => by cases hx), Cd.own_nodup, HE.out.2⟩
  have HI := Lib.hid (fun W => Fixed.l1In_yes ht.1 ht.2 W)
  by_cases hg : g < 1
  · have HZ := Lib.hid (show sfnL t g = [] from sfn_no fun q => by omega)
    go_enter Try.func37, Try.ntmps37
    go_wp2_with fail
    refine (HI.out _).mono ?_
    rintro e w1 ⟨rfl, rfl⟩
    go_wp2_with fail
    go_ret
    exact ⟨_, _, rfl, by rw [HZ.out]; exact Cd.ow_of_own HE.out.1 (fun x hx => by cases hx), Cd.own_nodup, HE.out.2⟩
  obtain ⟨T, rfl⟩ := Int.eq_ofNat_of_zero_le ht.1
  obtain ⟨G, rfl⟩ := Int.eq_ofNat_of_zero_le (show 0 ≤ g by omega)
  have hT : T ≤ 8 := by omega
  have hG : 1 ≤ G := by omega
  have HEQ := Lib.hid (sfn_yes ⟨hT, hG⟩)
  have HST := Lib.hid (fun (k : Nat) (h : G ≤ k) => sfn_step h hG)
  have HBG := Lib.hid (fun (k : Nat) (h : k < G) (h0 : 0 < k) => sfn_big h h0)
  have HZR := Lib.hid (sfn_zero G)
  have HM8 := Lib.hid (fun (x : Int) (h : x ∈ sfnN T G) => sfn_mem hT h)
  clear ht
  go_enter Try.func37, Try.ntmps37
  go_wp2_with fail
  refine (HI.out _).mono ?_
  rintro e w1 ⟨rfl, rfl⟩
  go_wp2_with fail
  go_loopw [0, 5] (fun t o wr => ∃ (k : Nat) (out : List Int), t = .int .i64 k ∧ k ≤ 8 ∧ out.length + k ≤ 8 ∧ Hid (sfnN T G = out ++ sfnN k G) ∧ OwnI wr w.heap.size 3 o out ∧ Below w.heap.size w wr) (fun t _ _ => (intOf t).toNat)
  case atStart => exact ⟨T, [], rfl, hT, by simpa using hT, Lib.hid rfl, HE.out.1, HE.out.2⟩
  case round =>
    obtain ⟨k, out, rfl, hk8, hlk, heq, hown, hb⟩ := hrel
    have hbs := hb.size
    have HB := Lib.hid hb
    have hlen : out.length + 1 ≤ 1000000000000 := by omega
    by_cases hk0 : k = 0
    · subst hk0
      have HZ := Lib.hid (show sfnL (T : Int) (G : Int) = out from by rw [HEQ.out, heq.out, HZR.out, List.append_nil])
      have HIN := Lib.hid (show InR out from fun x hx => by
        have := HM8.out x (by rw [heq.out]; exact List.mem_append_left _ hx)
        omega)
      have HO := Lib.hid hown
      clear hown hb
      go_wp2_with fail
      go_ret
      exact ⟨_, _, rfl, by rw [HZ.out]; exact Cd.ow_of_own HO.out HIN.out, Cd.own_nodup, HB.out⟩
    have k0 : (0 : Int) < (k : Int) := by omega
    by_cases hge : G < k
    · have HQ := Lib.hid (show sfnN T G = (out ++ [(G : Int)]) ++ sfnN (k - G) G from by rw [heq.out, HST.out k (by omega), List.append_assoc]; rfl)
      have n1 : (G : Int) < (k : Int) := by omega
      have HCS := Lib.hid (show (k : Int) - (G : Int) = ((k - G : Nat) : Int) from by omega)
      clear hb
      go_wp2_with (at_builtin; refine wp_appendI rfl (.tmp 17) (.tmp 21) 24 rfl w.heap.size 3 Try.underlying24 info_i64 _ _ rfl hown _ rfl hlen hbs ?_)
      intro v' w5 hown5 hb5
      go_wp2_with fail
      go_roundw
      case rel => exact ⟨k - G, _, by rw [HCS.out], by omega, by rw [List.length_append, List.length_singleton]; omega, HQ, hown5, HB.out.trans hb5⟩
      case measure => simp [intOf]; omega
    · have HQ := Lib.hid (show sfnN T G = (out ++ [(k : Int)]) ++ sfnN 0 G from by
        rw [heq.out]
        by_cases e : k = G
        · subst e; rw [HST.out k (Nat.le_refl _), Nat.sub_self, HZR.out, List.append_nil]
        · rw [HBG.out k (by omega) (by omega), HZR.out, List.append_nil])
      have n1 : ¬ (G : Int) < (k : Int) := by omega
      clear hb
      go_wp2_with (at_builtin; refine wp_appendI rfl (.tmp 17) (.tmp 21) 24 rfl w.heap.size 3 Try.underlying24 info_i64 _ _ rfl hown _ rfl hlen hbs ?_)
      intro v' w5 hown5 hb5
      go_wp2_with fail
      go_roundw
      case rel => exact ⟨0, _, by simp, by omega, by rw [List.length_append, List.length_singleton]; omega, HQ, hown5, HB.out.trans hb5⟩
      case measure => simp [intOf]; omega
end Go.Proofs.Ytklamhnecncenaa.SbSpec
