/- Degree sequences: the model's sequences: is it one, its sums, does one dominate another. -/
import Derived.Test.YtklamhnecncenaaDegMath
import Derived.Test.YtklamhnecncenaaRows2
import Derived.BigQuiet
namespace Go.Proofs.Ytklamhnecncenaa.DegSpec
open Go Go.RowKit Byt Ints IntsLaw Cd Rows2 Tab TabSpec Exact DegMath

theorem bq {B m : Nat} (w : World) : Below B w (w.drewN m) := ⟨rfl, rfl, rfl, Nat.le_refl _, fun _ _ => rfl⟩
theorem ri_dn {w : World} {v : Value} {l : List Int} {B : Nat} (h : RI w v l B) (q : Nat) : RI (w.drewN q) v l B := h
theorem seq_sum {l : List Int} (h : SeqP l) : 0 ≤ l.sum ∧ l.sum ≤ 8 := ⟨by have := sum_pos h.1; omega, h.2.1⟩

set_option maxRecDepth 100000 in
set_option maxHeartbeats 1600000 in
theorem spec_seq (v : Value) (l : List Int) (B : Nat) (w : World) (hr : RI w v l B) :
    Calls Try.prog 19 #[v] w fun e w' => e = .returned (.bool (seqOk l)) ∧ ∃ m, w' = w.drewN m := by
  have HV := Lib.hid (fun m => ri_dn hr m)
  obtain ⟨a, cap, rfl, hlm, _⟩ := hr
  go_enter Try.func19, Try.ntmps19
  go_wp2_with fail
  go_loopw [3, 4] (fun n i wr => ∃ k m : Nat, k ≤ l.length ∧ i = .int .i64 k ∧ n = .int .i64 (l.take k).sum ∧ Hid (SeqP (l.take k)) ∧ wr = w.drewN m) (fun _ i _ => l.length - (intOf i).toNat)
  case atStart => exact ⟨0, 0, Nat.zero_le _, rfl, rfl, Lib.hid ⟨fun x hx => by simp at hx, by simp, by simp [Desc]⟩, rfl⟩
  case round =>
    obtain ⟨k, m, hk, rfl, rfl, hsp, hwr⟩ := hrel
    have hri := HV.out m
    rw [← hwr] at hri
    have HWR := Lib.hid hwr
    clear hwr
    by_cases hlt : k < l.length
    · obtain ⟨b, off, cap', e1, hbB, hc⟩ := ri_at hri hlt
      injection e1 with e1 e2 e3
      subst e1 e3
      have p1 : (0 : Int) ≤ (k : Int) := by omega
      have p2 : (k : Int) < (l.length : Int) := by omega
      obtain ⟨s1, s2⟩ := seq_sum hsp.out
      have HNX := Lib.hid (sum_next hlt)
      by_cases hx : 1 ≤ l[k] ∧ l[k] ≤ 8 - (l.take k).sum
      case neg =>
        have HI := Lib.hid (show ∀ q, Calls Try.prog 69 #[.int .i64 l[k], .int .i64 1, .int .i64 (8 - (l.take k).sum)] (wr.drewN q) fun e w' => e = .returned (.bool false) ∧ w' = wr.drewN q from fun q => (Fixed.l1In_no hx _).mono fun _ _ h => ⟨h.1, h.2.symm⟩)
        have HZ := Lib.hid (show seqOk l = false from decide_eq_false (seq_bad1 hlt hx))
        clear hx hri
        generalize l[k] = z at *
        generalize (l.take k).sum = s at *
        have w8 : IntKind.i64.wrap (8 - s) = 8 - s := by rw [IntKind.wrap_i64]; omega
        go_wp2
        go_quiet (first | (go_at_call 69; refine Calls.quiet_of_same (HI.out _)))
        go_wp2
        go_ret
        exact ⟨ret_b HZ.out.symm, _, by rw [HWR.out, World.drewN_drewN]⟩
      have HI := Lib.hid (show ∀ q, Calls Try.prog 69 #[.int .i64 l[k], .int .i64 1, .int .i64 (8 - (l.take k).sum)] (wr.drewN q) fun e w' => e = .returned (.bool true) ∧ w' = wr.drewN q from fun q => (Fixed.l1In_yes hx.1 hx.2 _).mono fun _ _ h => ⟨h.1, h.2.symm⟩)
      by_cases hk0 : k = 0
      · have has2 := Lib.hid (seq_more hsp.out hlt hx (fun j hj => by omega))
        have q0 : ¬ 0 < k := by omega
        have z1 := hx.1
        have z2 := hx.2
        clear hx hk0 hri
        generalize l[k] = z at *
        generalize (l.take k).sum = s at *
        have w8 : IntKind.i64.wrap (8 - s) = 8 - s := by rw [IntKind.wrap_i64]; omega
        go_wp2
        go_quiet (first | (go_at_call 69; refine Calls.quiet_of_same (HI.out _)))
        go_wp2
        go_roundw
        case rel => exact ⟨k + 1, _, by omega, by go_num, by rw [HNX.out]; (try go_num), has2, by rw [HWR.out, World.drewN_drewN]⟩
        case measure => simp [intOf]; omega
      · obtain ⟨j, hj⟩ : ∃ j, k = j + 1 := ⟨k - 1, by omega⟩
        have hjl : j < l.length := by omega
        obtain ⟨b', off', cap', e1, hbB', hc'⟩ := ri_at hri hjl
        injection e1 with e1 e2 e3
        injection e1 with e1
        injection e1 with e1 e2 _
        subst e1 e2 e3
        have p3 : (0 : Int) ≤ (j : Int) := by omega
        have p4 : (j : Int) < (l.length : Int) := by omega
        have p5 : 0 < k := by omega
        have p6 : (k : Int) - 1 = (j : Int) := by omega
        by_cases hcmp : l[k] ≤ l[j]
        · have has2 := Lib.hid (seq_more hsp.out hlt hx (fun j' hj' _ => by
            obtain rfl : j' = j := by omega
            exact hcmp))
          have hge : ¬ l[j] < l[k] := by omega
          have HJ := Lib.hid hj
          have z1 := hx.1
          have z2 := hx.2
          clear hx hj hk0 hcmp hri
          generalize l[k] = z at *
          generalize l[j] = y at *
          generalize (l.take k).sum = s at *
          have w8 : IntKind.i64.wrap (8 - s) = 8 - s := by rw [IntKind.wrap_i64]; omega
          go_wp2
          go_quiet (first | (go_at_call 69; refine Calls.quiet_of_same (HI.out _)))
          go_wp2
          go_roundw
          case rel => exact ⟨k + 1, _, by omega, by go_num, by rw [HNX.out]; (try go_num), has2, by rw [HWR.out, World.drewN_drewN]⟩
          case measure => simp [intOf]; omega
        · have HZ := Lib.hid (show seqOk l = false from decide_eq_false (by
            subst hj
            exact seq_bad2 (by omega) hcmp))
          have hge : l[j] < l[k] := by omega
          have HJ := Lib.hid hj
          clear hx hj hk0 hcmp hri
          generalize l[k] = z at *
          generalize l[j] = y at *
          generalize (l.take k).sum = s at *
          have w8 : IntKind.i64.wrap (8 - s) = 8 - s := by rw [IntKind.wrap_i64]; omega
          go_wp2
          go_quiet (first | (go_at_call 69; refine Calls.quiet_of_same (HI.out _)))
          go_wp2
          go_ret
          exact ⟨ret_b HZ.out.symm, _, by rw [HWR.out, World.drewN_drewN]⟩
    · have ek : k = l.length := by omega
      subst ek
      rw [List.take_length] at hsp
      have HZ := Lib.hid (show seqOk l = true from decide_eq_true hsp.out)
      generalize (l.take l.length).sum = s at *
      go_wp2
      go_ret
      exact ⟨ret_b HZ.out.symm, _, HWR.out⟩
set_option maxRecDepth 100000 in
theorem spec_total (v : Value) (l : List Int) (B : Nat) (w : World) (hr : RI w v l B) :
    Calls Try.prog 21 #[v] w fun e w' => e = .returned (.int .i64 (totL l)) ∧ ∃ m, w' = w.drewN m := by
  have HV := Lib.hid (fun m => ri_dn hr m)
  have HS := Lib.hid (fun m => spec_seq v l B (w.drewN m) (ri_dn hr m))
  obtain ⟨a, cap, rfl, hlm, _⟩ := hr
  have HT := Lib.hid (show ∀ k, seqOk l = true → 0 ≤ (l.take k).sum ∧ (l.take k).sum ≤ 8 from fun k h => seq_sum (seq_take (of_decide_eq_true h) k))
  have HP := Lib.hid (show ∀ k (h : k < l.length), seqOk l = true → (l.take (k + 1)).sum = (l.take k).sum + l[k] from fun k h _ => sum_next h)
  have HE := Lib.hid (show seqOk l = true → totL l = (l.take l.length).sum from fun h => by unfold totL; rw [if_pos h, List.take_length])
  have HF := Lib.hid (show seqOk l = false → totL l = 0 from fun h => by unfold totL; rw [h]; rfl)
  generalize seqOk l = q at *
  go_enter Try.func21, Try.ntmps21
  go_wp2_with fail
  go_loopw [3, 4] (fun n i wr => ∃ k m : Nat, k ≤ l.length ∧ i = .int .i64 k ∧ n = .int .i64 (if q then (l.take k).sum else 0) ∧ wr = w.drewN m) (fun _ i _ => l.length - (intOf i).toNat)
  case atStart => exact ⟨0, 0, Nat.zero_le _, rfl, by cases q <;> rfl, rfl⟩
  case round =>
    obtain ⟨k, m, hk, rfl, rfl, hwr⟩ := hrel
    have hri := HV.out m
    have hsq := HS.out m
    rw [← hwr] at hri hsq
    have HSQ := Lib.hid hsq
    have HWR := Lib.hid hwr
    clear hwr hsq
    by_cases hlt : k < l.length
    · have p1 : (0 : Int) ≤ (k : Int) := by omega
      have p2 : (k : Int) < (l.length : Int) := by omega
      cases q
      · have HZ := Lib.hid (HF.out rfl)
        go_wp2_with fail
        refine HSQ.out.mono ?_
        rintro e w1 ⟨rfl, m1, rfl⟩
        go_wp2_with fail
        go_ret
        exact ⟨ret_int HZ.out.symm, _, by rw [HWR.out, World.drewN_drewN]⟩
      · obtain ⟨s1, s2⟩ := HT.out k rfl
        obtain ⟨s3, s4⟩ := HT.out (k + 1) rfl
        have HNX := Lib.hid (HP.out k hlt rfl)
        have s5 := HNX.out
        obtain ⟨b, off, cap', e1, hbB, hc⟩ := ri_at hri hlt
        injection e1 with e1 e2 e3
        subst e1 e3
        simp only [if_true] at *
        generalize l[k] = z at *
        generalize (l.take k).sum = s at *
        go_wp2_with fail
        refine HSQ.out.mono ?_
        rintro e w1 ⟨rfl, m1, rfl⟩
        have hc1 : (wr.drewN m1).cell? ⟨b, off + k, none⟩ = some (.int .i64 z) := hc
        go_wp2_with fail
        go_roundw
        case rel => exact ⟨k + 1, _, by omega, by go_num, by (try simp only [if_true]); rw [HNX.out]; (try go_num), by rw [HWR.out, World.drewN_drewN]⟩
        case measure => simp [intOf]; omega
    · have ek : k = l.length := by omega
      subst ek
      have HZ := Lib.hid (show totL l = if q then (l.take l.length).sum else 0 from by cases q; exact HF.out rfl; exact HE.out rfl)
      generalize (if q then (l.take l.length).sum else 0) = s at *
      go_wp2_with fail
      go_ret
      exact ⟨ret_int HZ.out.symm, _, HWR.out⟩
set_option maxRecDepth 100000 in
theorem spec_top (v : Value) (l : List Int) (K : Int) (B : Nat) (w : World) (hr : RI w v l B) :
    Calls Try.prog 71 #[v, .int .i64 K] w fun e w' => e = .returned (.int .i64 (topL l K)) ∧ ∃ m, w' = w.drewN m := by
  have HV := Lib.hid (fun m => ri_dn hr m)
  have HS := Lib.hid (fun m => spec_seq v l B (w.drewN m) (ri_dn hr m))
  obtain ⟨a, cap, rfl, hlm, _⟩ := hr
  have HT := Lib.hid (show ∀ k, seqOk l = true → 0 ≤ (l.take k).sum ∧ (l.take k).sum ≤ 8 from fun k h => seq_sum (seq_take (of_decide_eq_true h) k))
  have HP := Lib.hid (show ∀ k (h : k < l.length), seqOk l = true → (l.take (k + 1)).sum = (l.take k).sum + l[k] from fun k h _ => sum_next h)
  have HE := Lib.hid (show ∀ k : Nat, (k = l.length ∧ (k : Int) ≤ K) ∨ ((k : Int) = K) ∨ (k = 0 ∧ K ≤ 0) → topL l K = if seqOk l then (l.take k).sum else 0 from fun k h => by
    unfold topL
    rcases h with ⟨h, h2⟩ | h | ⟨h, h2⟩
    · rw [List.take_of_length_le (show l.length ≤ K.toNat by omega), h, List.take_length]
    · rw [← h, Int.toNat_natCast]
    · rw [h, show K.toNat = 0 by omega])
  have HF := Lib.hid (show seqOk l = false → topL l K = 0 from fun h => by unfold topL; rw [h]; rfl)
  generalize seqOk l = q at *
  go_enter Try.func71, Try.ntmps71
  go_wp2_with fail
  go_loopw [5, 6] (fun n i wr => ∃ k m : Nat, k ≤ l.length ∧ (k = 0 ∨ (k : Int) ≤ K) ∧ i = .int .i64 k ∧ n = .int .i64 (if q then (l.take k).sum else 0) ∧ wr = w.drewN m) (fun _ i _ => l.length - (intOf i).toNat)
  case atStart => exact ⟨0, 0, Nat.zero_le _, .inl rfl, rfl, by cases q <;> rfl, rfl⟩
  case round =>
    obtain ⟨k, m, hk, hkK, rfl, rfl, hwr⟩ := hrel
    have hri := HV.out m
    have hsq := HS.out m
    rw [← hwr] at hri hsq
    have HSQ := Lib.hid hsq
    have HWR := Lib.hid hwr
    clear hwr hsq
    by_cases hlt : k < l.length
    · have p1 : (0 : Int) ≤ (k : Int) := by omega
      have p2 : (k : Int) < (l.length : Int) := by omega
      by_cases hK : (k : Int) < K
      · cases q
        · have HZ := Lib.hid (HF.out rfl)
          clear hkK
          go_wp2_with fail
          refine HSQ.out.mono ?_
          rintro e w1 ⟨rfl, m1, rfl⟩
          go_wp2_with fail
          go_ret
          exact ⟨ret_int HZ.out.symm, _, by rw [HWR.out, World.drewN_drewN]⟩
        · obtain ⟨s1, s2⟩ := HT.out k rfl
          obtain ⟨s3, s4⟩ := HT.out (k + 1) rfl
          have HNX := Lib.hid (HP.out k hlt rfl)
          have s5 := HNX.out
          obtain ⟨b, off, cap', e1, hbB, hc⟩ := ri_at hri hlt
          injection e1 with e1 e2 e3
          subst e1 e3
          clear hkK
          simp only [if_true] at *
          generalize l[k] = z at *
          generalize (l.take k).sum = s at *
          go_wp2_with fail
          refine HSQ.out.mono ?_
          rintro e w1 ⟨rfl, m1, rfl⟩
          have hc1 : (wr.drewN m1).cell? ⟨b, off + k, none⟩ = some (.int .i64 z) := hc
          go_wp2_with fail
          go_roundw
          case rel => exact ⟨k + 1, _, by omega, .inr (by omega), by go_num, by (try simp only [if_true]); rw [HNX.out]; (try go_num), by rw [HWR.out, World.drewN_drewN]⟩
          case measure => simp [intOf]; omega
      · have HZ := Lib.hid (HE.out k (by omega))
        generalize (if q then (l.take k).sum else 0) = s at *
        clear hkK
        go_wp2_with fail
        go_ret
        exact ⟨ret_int HZ.out.symm, _, HWR.out⟩
    · have HZ := Lib.hid (HE.out k (by omega))
      have p3 : ¬ ((k : Int) < (l.length : Int)) := by omega
      generalize (if q then (l.take k).sum else 0) = s at *
      clear hkK
      go_wp2_with fail
      go_ret
      exact ⟨ret_int HZ.out.symm, _, HWR.out⟩
set_option maxRecDepth 100000 in
theorem spec_dom (v1 v2 : Value) (a b : List Int) (B1 B2 : Nat) (w : World) (h1 : RI w v1 a B1) (h2 : RI w v2 b B2) :
    Calls Try.prog 22 #[v1, v2] w fun e w' => e = .returned (.bool (domL a b)) ∧ ∃ m, w' = w.drewN m := by
  have HA := Lib.hid (spec_seq v1 a B1 w h1)
  have HB := Lib.hid (fun m => spec_seq v2 b B2 (w.drewN m) (ri_dn h2 m))
  have HTA := Lib.hid (fun m K => spec_top v1 a K B1 (w.drewN m) (ri_dn h1 m))
  have HTB := Lib.hid (fun m K => spec_top v2 b K B2 (w.drewN m) (ri_dn h2 m))
  cases qa : seqOk a
  · rw [qa] at HA
    have HZ := Lib.hid (dom_no1 (b := b) qa)
    clear qa h1 h2
    go_enter Try.func22, Try.ntmps22
    go_wp2_with fail
    refine HA.out.mono ?_
    rintro e w1 ⟨rfl, m1, rfl⟩
    go_wp2_with fail
    go_ret
    exact ⟨ret_b HZ.out.symm, _, rfl⟩
  cases qb : seqOk b
  · rw [qa] at HA
    rw [qb] at HB
    have HZ := Lib.hid (dom_no2 (a := a) qb)
    clear qa qb h1 h2
    go_enter Try.func22, Try.ntmps22
    go_wp2_with fail
    refine HA.out.mono ?_
    rintro e w1 ⟨rfl, m1, rfl⟩
    go_wp2_with fail
    refine (HB.out _).mono ?_
    rintro e w1 ⟨rfl, m2, rfl⟩
    go_wp2_with fail
    go_ret
    exact ⟨ret_b HZ.out.symm, _, by (first | rfl | rw [World.drewN_drewN])⟩
  rw [qa] at HA
  rw [qb] at HB
  have HNO := Lib.hid (fun (k : Nat) (h : k < 9) => dom_no (a := a) (b := b) h)
  have HYES := Lib.hid (dom_yes qa qb)
  have HBD := Lib.hid (fun k => And.intro (top_bd a k) (top_bd b k))
  clear qa qb h1 h2
  go_enter Try.func22, Try.ntmps22
  go_wp2_with fail
  refine HA.out.mono ?_
  rintro e w1 ⟨rfl, m1, rfl⟩
  go_wp2_with fail
  refine (HB.out _).mono ?_
  rintro e w1 ⟨rfl, m2, rfl⟩
  (try rw [World.drewN_drewN])
  generalize m1 + m2 = m0
  go_wp2_with fail
  go_loopw [5] (fun i wr => ∃ k m : Nat, 1 ≤ k ∧ k ≤ 9 ∧ i = .int .i64 k ∧ Hid (∀ j : Nat, j < k → topL b (j : Int) ≤ topL a (j : Int)) ∧ wr = w.drewN m) (fun i _ => 9 - (intOf i).toNat)
  case atStart => exact ⟨1, _, by omega, by omega, rfl, Lib.hid (fun j hj => by
    obtain rfl : j = 0 := by omega
    rw [top_neg (by decide), top_neg (by decide)]
    exact Int.le_refl _), rfl⟩
  case round =>
    obtain ⟨k, m, hk1, hk9, rfl, hall, rfl⟩ := hrel
    by_cases hlt : k ≤ 8
    · have p1 : (k : Int) ≤ 8 := by omega
      obtain ⟨⟨a1, a2⟩, b1, b2⟩ := HBD.out (k : Int)
      by_cases hc : topL a (k : Int) < topL b (k : Int)
      · have HZ := Lib.hid (HNO.out k (by omega) hc)
        have HX := Lib.hid (HTA.out m (k : Int))
        have HY := Lib.hid (fun m => HTB.out m (k : Int))
        generalize topL a (k : Int) = x at *
        generalize topL b (k : Int) = y at *
        go_wp2_with fail
        refine HX.out.mono ?_
        rintro e w1 ⟨rfl, m1, rfl⟩
        go_wp2_with fail
        (try rw [World.drewN_drewN])
        refine (HY.out _).mono ?_
        rintro e w1 ⟨rfl, m2, rfl⟩
        (try rw [World.drewN_drewN])
        go_wp2_with fail
        go_ret
        exact ⟨ret_b HZ.out.symm, _, rfl⟩
      · have hall2 := Lib.hid (show ∀ j : Nat, j < k + 1 → topL b (j : Int) ≤ topL a (j : Int) from fun j hj => by
          by_cases e : j = k
          · subst e; omega
          · exact hall.out j (by omega))
        have HX := Lib.hid (HTA.out m (k : Int))
        have HY := Lib.hid (fun m => HTB.out m (k : Int))
        generalize topL a (k : Int) = x at *
        generalize topL b (k : Int) = y at *
        go_wp2_with fail
        refine HX.out.mono ?_
        rintro e w1 ⟨rfl, m1, rfl⟩
        go_wp2_with fail
        (try rw [World.drewN_drewN])
        refine (HY.out _).mono ?_
        rintro e w1 ⟨rfl, m2, rfl⟩
        (try rw [World.drewN_drewN])
        go_wp2_with fail
        go_roundw
        case rel => exact ⟨k + 1, _, by omega, by omega, by go_num, hall2, rfl⟩
        case measure => simp [intOf]; omega
    · have ek : k = 9 := by omega
      subst ek
      have HZ := Lib.hid (HYES.out hall.out)
      go_wp2_with fail
      go_ret
      exact ⟨ret_b HZ.out.symm, _, rfl⟩
end Go.Proofs.Ytklamhnecncenaa.DegSpec
