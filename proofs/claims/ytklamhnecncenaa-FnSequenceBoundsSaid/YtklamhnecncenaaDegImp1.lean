/- Degree sequences: the program's sequences: is it one, its sums, does one dominate another. -/
import Derived.Test.YtklamhnecncenaaDegSpec1
namespace Go.Proofs.Ytklamhnecncenaa.DegImp
open Go Go.RowKit Byt Ints IntsLaw Cd Rows2 Tab TabSpec Exact DegMath DegSpec

/-- A list whose slice has room for it. -/
def Room (v : Value) (l : List Int) : Prop := (v = .slice none 0 0 ∧ l = []) ∨ ∃ b off cap, v = .slice (some ⟨b, off, none⟩) l.length cap ∧ l.length ≤ cap ∧ cap ≤ maxLen
def RoomRd (w : World) (S : Nat → Prop) (v : Value) (l : List Int) : Prop := rowC.rd w S [v] l ∧ Room v l
theorem room_ow {w : World} {base : Nat} {v : Value} {l : List Int} {fp : List Nat} (h : rowC.ow w base [v] l fp) : Room v l := by
  obtain ⟨hown, _, _⟩ := row_own h
  rcases hown.2 with ⟨h1, h2⟩ | ⟨g', cap', cur, h1, _, _, h3, h4, _⟩
  · exact .inl ⟨h1, List.eq_nil_of_length_eq_zero h2⟩
  · exact .inr ⟨g', 0, cap', h1, h3, h4⟩
theorem room_rd {w : World} {base : Nat} {v : Value} {l : List Int} {fp : List Nat} (h : rowC.ow w base [v] l fp) : RoomRd w (fun b => b ∈ fp) v l := ⟨rowC.ow_rd h, room_ow h⟩
theorem ow_two {w : World} {base : Nat} {v : Value} {l : List Int} {fp : List Nat} (h : rowC.ow w base [v] l fp) : (v = .slice none 0 0 ∧ l = []) ∨ ∃ g cap, v = .slice (some ⟨g, 0, none⟩) l.length cap := by
  obtain ⟨hown, _, _⟩ := row_own h
  rcases hown.2 with ⟨h1, h2⟩ | ⟨g', cap', cur, h1, _⟩
  · exact .inl ⟨h1, List.eq_nil_of_length_eq_zero h2⟩
  · exact .inr ⟨g', cap', h1⟩

set_option maxRecDepth 100000 in
set_option maxHeartbeats 1600000 in
theorem impl_seq (v : Value) (l : List Int) (B : Nat) (w : World) (hr : RI w v l B) :
    Calls Try.prog 116 #[v] w fun e w' => e = .returned (.bool (seqOk l)) ∧ w = w' := by
  have HR := Lib.hid hr
  obtain ⟨a, cap, rfl, hlm, _⟩ := hr
  go_enter Try.func116, Try.ntmps116
  go_wp2_with fail
  go_loop [3, 8] (fun r i => ∃ k : Nat, k ≤ l.length ∧ i = .int .i64 k ∧ r = .int .i64 (8 - (l.take k).sum) ∧ Hid (SeqP (l.take k))) (fun _ i => l.length - (intOf i).toNat)
  case atStart => exact ⟨0, Nat.zero_le _, rfl, rfl, Lib.hid ⟨fun x hx => by simp at hx, by simp, by simp [Desc]⟩⟩
  case round =>
    obtain ⟨k, hk, rfl, rfl, hsp⟩ := hrel
    by_cases hlt : k < l.length
    · obtain ⟨b, off, cap', e1, hbB, hc⟩ := ri_at HR.out hlt
      injection e1 with e1 e2 e3
      subst e1 e3
      have p1 : (0 : Int) ≤ (k : Int) := by omega
      have p2 : (k : Int) < (l.length : Int) := by omega
      obtain ⟨s1, s2⟩ := seq_sum hsp.out
      have HNX := Lib.hid (sum_next hlt)
      by_cases hx0 : l[k] < 1
      · have HZ := Lib.hid (show seqOk l = false from decide_eq_false (seq_bad1 hlt (by omega)))
        generalize l[k] = z at *
        generalize (l.take k).sum = s at *
        go_wp2_with fail
        go_ret
        exact ⟨ret_b HZ.out.symm, rfl⟩
      by_cases hx4 : 8 - (l.take k).sum < l[k]
      · have HZ := Lib.hid (show seqOk l = false from decide_eq_false (seq_bad1 hlt (by omega)))
        generalize l[k] = z at *
        generalize (l.take k).sum = s at *
        go_wp2_with fail
        go_ret
        exact ⟨ret_b HZ.out.symm, rfl⟩
      by_cases hk0 : k = 0
      · have has2 := Lib.hid (seq_more hsp.out hlt (by omega) (fun j hj => by omega))
        have q0 : ¬ 0 < k := by omega
        clear hk0
        generalize l[k] = z at *
        generalize (l.take k).sum = s at *
        go_wp2_with fail
        go_round
        case rel => exact ⟨k + 1, by omega, by go_num, by rw [HNX.out]; go_num, has2⟩
        case measure => simp [intOf]; omega
      · obtain ⟨j, hj⟩ : ∃ j, k = j + 1 := ⟨k - 1, by omega⟩
        have hjl : j < l.length := by omega
        obtain ⟨b', off', cap', e1, hbB', hc'⟩ := ri_at HR.out hjl
        injection e1 with e1 e2 e3
        injection e1 with e1
        injection e1 with e1 e2 _
        subst e1 e2 e3
        have p3 : (0 : Int) ≤ (j : Int) := by omega
        have p4 : (j : Int) < (l.length : Int) := by omega
        have p5 : 0 < k := by omega
        have p6 : (k : Int) - 1 = (j : Int) := by omega
        by_cases hcmp : l[k] ≤ l[j]
        · have has2 := Lib.hid (seq_more hsp.out hlt (by omega) (fun j' hj' _ => by
            obtain rfl : j' = j := by omega
            exact hcmp))
          have hge : ¬ l[j] < l[k] := by omega
          have HJ := Lib.hid hj
          clear hj hk0 hcmp
          generalize l[k] = z at *
          generalize l[j] = y at *
          generalize (l.take k).sum = s at *
          go_wp2_with fail
          go_round
          case rel => exact ⟨k + 1, by omega, by go_num, by rw [HNX.out]; go_num, has2⟩
          case measure => simp [intOf]; omega
        · have HZ := Lib.hid (show seqOk l = false from decide_eq_false (by
            subst hj
            exact seq_bad2 (by omega) hcmp))
          have hge : l[j] < l[k] := by omega
          have HJ := Lib.hid hj
          clear hj hk0 hcmp
          generalize l[k] = z at *
          generalize l[j] = y at *
          generalize (l.take k).sum = s at *
          go_wp2_with fail
          go_ret
          exact ⟨ret_b HZ.out.symm, rfl⟩
    · have ek : k = l.length := by omega
      subst ek
      rw [List.take_length] at hsp
      have HZ := Lib.hid (show seqOk l = true from decide_eq_true hsp.out)
      generalize (l.take l.length).sum = s at *
      go_wp2_with fail
      go_ret
      exact ⟨ret_b HZ.out.symm, rfl⟩
set_option maxRecDepth 100000 in
set_option maxHeartbeats 1600000 in
theorem impl_top (v : Value) (l : List Int) (K : Int) (B : Nat) (w : World) (hr : RI w v l B) (hm : Room v l) :
    Calls Try.prog 68 #[v, .int .i64 K] w fun e w' => e = .returned (.int .i64 (topL l K)) ∧ w = w' := by
  by_cases hK : K < 1
  · have HZ := Lib.hid (top_neg (l := l) hK)
    clear hr hm
    go_enter Try.func68, Try.ntmps68
    go_wp2_with fail
    go_ret
    exact ⟨ret_int HZ.out.symm, rfl⟩
  have HS := Lib.hid (impl_seq v l B w hr)
  cases hq : seqOk l
  · rw [hq] at HS
    have HZ := Lib.hid (show topL l K = 0 by unfold topL; rw [hq]; rfl)
    clear hr hm hq
    go_enter Try.func68, Try.ntmps68
    go_wp2_with fail
    refine HS.out.mono ?_
    rintro e w1 ⟨rfl, rfl⟩
    go_wp2_with fail
    go_ret
    exact ⟨ret_int HZ.out.symm, rfl⟩
  rw [hq] at HS
  have HT := Lib.hid (show ∀ k, 0 ≤ (l.take k).sum ∧ (l.take k).sum ≤ 8 from fun k => seq_sum (seq_take (of_decide_eq_true hq) k))
  have HP := Lib.hid (fun (k : Nat) (h : k < l.length) => sum_next h)
  rcases hm with ⟨rfl, rfl⟩ | ⟨b, off, cap, rfl, hlc, hcm⟩
  · have HZ := Lib.hid (show topL [] K = 0 by unfold topL; rw [hq]; simp)
    have k1 : ¬ K ≤ 0 := by omega
    have k2 : min K 0 = 0 := by omega
    clear hr hq HT HP
    go_enter Try.func68, Try.ntmps68
    go_wp2_with fail
    refine HS.out.mono ?_
    rintro e w1 ⟨rfl, rfl⟩
    go_wp2_with fail
    go_loop [5, 22] (fun s i => s = .int .i64 0 ∧ i = .int .i64 0) (fun _ _ => 0)
    case atStart => exact ⟨rfl, rfl⟩
    case round =>
      obtain ⟨rfl, rfl⟩ := hrel
      go_wp2_with fail
      go_ret
      exact ⟨ret_int HZ.out.symm, rfl⟩
  have HR := Lib.hid hr
  have hll : l.length ≤ 9223372036854775807 := by unfold maxLen at hcm; omega
  by_cases hKl : K ≤ (l.length : Int)
  · obtain ⟨n, rfl⟩ := Int.eq_ofNat_of_zero_le (show 0 ≤ K by omega)
    have HZ := Lib.hid (show (l.take n).sum = topL l (n : Int) by unfold topL; rw [if_pos hq, Int.toNat_natCast])
    have hnl : n ≤ l.length := by omega
    have n1 : (0 : Int) ≤ (n : Int) := by omega
    have n2 : (n : Int) ≤ (cap : Int) := by omega
    have n3 : n ≤ cap := by omega
    clear hr hq hlc hcm
    go_enter Try.func68, Try.ntmps68
    go_wp2_with fail
    refine HS.out.mono ?_
    rintro e w1 ⟨rfl, rfl⟩
    go_wp2_with fail
    go_loop [5, 22] (fun s i => ∃ k : Nat, k ≤ n ∧ i = .int .i64 k ∧ s = .int .i64 (l.take k).sum) (fun _ i => n - (intOf i).toNat)
    case atStart => exact ⟨0, Nat.zero_le _, rfl, rfl⟩
    case round =>
      obtain ⟨k, hk, rfl, rfl⟩ := hrel
      by_cases hlt : k < n
      · have hkl : k < l.length := by omega
        obtain ⟨b', off', cap', e1, hbB, hc⟩ := ri_at HR.out hkl
        injection e1 with e1 e2 e3
        injection e1 with e1
        injection e1 with e1 e4 _
        subst e1 e4
        have p1 : (0 : Int) ≤ (k : Int) := by omega
        have p2 : (k : Int) < (n : Int) := by omega
        obtain ⟨s1, s2⟩ := HT.out k
        obtain ⟨s3, s4⟩ := HT.out (k + 1)
        have HNX := Lib.hid (HP.out k hkl)
        have s5 := HNX.out
        generalize l[k] = z at *
        generalize (l.take k).sum = s at *
        go_wp2_with fail
        go_round
        case rel => exact ⟨k + 1, by omega, by go_num, by rw [HNX.out]; (try go_num)⟩
        case measure => simp [intOf]; omega
      · have ek : k = n := by omega
        subst ek
        generalize (l.take k).sum = s at *
        go_wp2_with fail
        go_ret
        exact ⟨ret_int HZ.out, rfl⟩
  · have HZ := Lib.hid (show (l.take l.length).sum = topL l K by unfold topL; rw [if_pos hq, List.take_of_length_le (show l.length ≤ K.toNat by omega), List.take_length])
    have n1 : (0 : Int) ≤ (l.length : Int) := by omega
    have n2 : (l.length : Int) ≤ (cap : Int) := by omega
    have n3 : l.length ≤ cap := by omega
    have hnl : l.length ≤ l.length := Nat.le_refl _
    clear hr hq hlc hcm
    go_enter Try.func68, Try.ntmps68
    go_wp2_with fail
    refine HS.out.mono ?_
    rintro e w1 ⟨rfl, rfl⟩
    go_wp2_with fail
    go_loop [5, 22] (fun s i => ∃ k : Nat, k ≤ l.length ∧ i = .int .i64 k ∧ s = .int .i64 (l.take k).sum) (fun _ i => l.length - (intOf i).toNat)
    case atStart => exact ⟨0, Nat.zero_le _, rfl, rfl⟩
    case round =>
      obtain ⟨k, hk, rfl, rfl⟩ := hrel
      by_cases hlt : k < l.length
      · have hkl : k < l.length := by omega
        obtain ⟨b', off', cap', e1, hbB, hc⟩ := ri_at HR.out hkl
        injection e1 with e1 e2 e3
        injection e1 with e1
        injection e1 with e1 e4 _
        subst e1 e4
        have p1 : (0 : Int) ≤ (k : Int) := by omega
        have p2 : (k : Int) < (l.length : Int) := by omega
        obtain ⟨s1, s2⟩ := HT.out k
        obtain ⟨s3, s4⟩ := HT.out (k + 1)
        have HNX := Lib.hid (HP.out k hkl)
        have s5 := HNX.out
        generalize l[k] = z at *
        generalize (l.take k).sum = s at *
        go_wp2_with fail
        go_round
        case rel => exact ⟨k + 1, by omega, by go_num, by rw [HNX.out]; (try go_num)⟩
        case measure => simp [intOf]; omega
      · have ek : k = l.length := by omega
        subst ek
        rw [List.take_length] at *
        generalize l.sum = s at *
        go_wp2_with fail
        go_ret
        exact ⟨ret_int HZ.out, rfl⟩
theorem impl_total (v : Value) (l : List Int) (B : Nat) (w : World) (hr : RI w v l B) (hm : Room v l) :
    Calls Try.prog 31 #[v] w fun e w' => e = .returned (.int .i64 (totL l)) ∧ w = w' := by
  have HT := Lib.hid (impl_top v l (l.length : Int) B w hr hm)
  have HZ := Lib.hid (tot_top l)
  obtain ⟨a, cap, rfl, hlm, _⟩ := hr
  clear hm
  generalize topL l (l.length : Int) = t at *
  go_enter Try.func31, Try.ntmps31
  go_wp2_with fail
  refine HT.out.mono ?_
  rintro e w1 ⟨rfl, rfl⟩
  go_wp2_with fail
  go_ret
  exact ⟨ret_int HZ.out.symm, rfl⟩
end Go.Proofs.Ytklamhnecncenaa.DegImp
