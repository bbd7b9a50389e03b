/- Degree sequences: the program's sequences: is it one, its sums, does one dominate another. -/
import Derived.Test.YtnjomgefmoehhaaDegSpec1
namespace Go.Proofs.Ytnjomgefmoehhaa.DegImp
open Go Go.RowKit Byt Ints IntsLaw Cd Rows2 Tab TabSpec Exact DegMath DegSpec

/-- A list whose slice has room for it. -/
def Room (v : Value) (l : List Int) : Prop := (v = .slice none 0 0 ∧ l = []) ∨ ∃ b off cap, v = .slice (some ⟨b, off, none⟩) l.length cap ∧ l.length ≤ cap ∧ cap ≤ maxLen
def RoomRd (w : World) (S : Nat → Prop) (v : Value) (l : List Int) : Prop := rowC.rd w S [v] l ∧ Room v l
theorem room_ow {w : World} {base : Nat} {v : Value} {l : List Int} {fp : List Nat} (h : rowC.ow w base [v] l fp) : Room v l := by
  obtain ⟨hown, _, _⟩ := row_own h
  rcases hown.2 with ⟨h1, h2⟩ | ⟨g', cap', cur, h1, _, _, h3, h4, _⟩
  · exact .inl ⟨h1, List.eq_nil_of_length_eq_zero h2⟩
  · exact .inr ⟨g', 0, cap', h1, h3, h4⟩
theorem room_rd {w : World} {base : Nat} {v : Value} {l : List Int} {fp : List Nat} (h : rowC.ow w base [v] l fp) : RoomRd w (fun b => b ∈ fp) v l := ⟨rowC.ow_rd h, room_ow h⟩

set_option maxRecDepth 100000 in
set_option maxHeartbeats 1600000 in
theorem impl_asc (v : Value) (V : List Int) (L : Int) (B : Nat) (w : World) (hr : RI w v V B) :
    Calls Try.prog 44 #[v, .int .i64 L] w fun e w' => e = .returned (.bool (colsOk V L)) ∧ w = w' := by
  have HR := Lib.hid hr
  obtain ⟨a, cap, rfl, hlm, _⟩ := hr
  go_enter Try.func44, Try.ntmps44
  go_wp2_with fail
  go_loop [9] (fun i => ∃ k : Nat, k ≤ V.length ∧ i = .int .i64 k ∧ Hid (ColP (V.take k) L)) (fun i => V.length - (intOf i).toNat)
  case atStart => exact ⟨0, Nat.zero_le _, rfl, Lib.hid ⟨fun x hx => by simp at hx, by simp⟩⟩
  case round =>
    obtain ⟨k, hk, rfl, hvp⟩ := hrel
    by_cases hlt : k < V.length
    · obtain ⟨b, off, cap', e1, hbB, hc⟩ := ri_at HR.out hlt
      injection e1 with e1 e2 e3
      subst e1 e3
      have p1 : (0 : Int) ≤ (k : Int) := by omega
      have p2 : (k : Int) < (V.length : Int) := by omega
      by_cases hx0 : V[k] < 0
      · have HZ := Lib.hid (show colsOk V L = false from decide_eq_false fun q => by have := q.1 _ (List.getElem_mem hlt); omega)
        generalize V[k] = z at *
        go_wp2_with fail
        go_ret
        exact ⟨ret_b HZ.out.symm, rfl⟩
      by_cases hx4 : L ≤ V[k]
      · have HZ := Lib.hid (show colsOk V L = false from decide_eq_false fun q => by have := q.1 _ (List.getElem_mem hlt); omega)
        generalize V[k] = z at *
        go_wp2_with fail
        go_ret
        exact ⟨ret_b HZ.out.symm, rfl⟩
      by_cases hk0 : k = 0
      · have has2 := Lib.hid (col_more hvp.out hlt (by omega) (fun j hj => by omega))
        have q0 : ¬ 0 < k := by omega
        clear hk0
        generalize V[k] = z at *
        go_wp2_with fail
        go_round
        case rel => exact ⟨k + 1, by omega, by go_num, has2⟩
        case measure => simp [intOf]; omega
      · obtain ⟨j, hj⟩ : ∃ j, k = j + 1 := ⟨k - 1, by omega⟩
        have hjl : j < V.length := by omega
        obtain ⟨b', off', cap', e1, hbB', hc'⟩ := ri_at HR.out hjl
        injection e1 with e1 e2 e3
        injection e1 with e1
        injection e1 with e1 e2 _
        subst e1 e2 e3
        have p3 : (0 : Int) ≤ (j : Int) := by omega
        have p4 : (j : Int) < (V.length : Int) := by omega
        have p5 : 0 < k := by omega
        have p6 : (k : Int) - 1 = (j : Int) := by omega
        by_cases hcmp : V[j] < V[k]
        · have has2 := Lib.hid (col_more hvp.out hlt (by omega) (fun j' hj' _ => by
            obtain rfl : j' = j := by omega
            exact hcmp))
          have hge : ¬ V[k] ≤ V[j] := by omega
          have HJ := Lib.hid hj
          clear hj hk0 hcmp
          generalize V[k] = z at *
          generalize V[j] = y at *
          go_wp2_with fail
          go_round
          case rel => exact ⟨k + 1, by omega, by go_num, has2⟩
          case measure => simp [intOf]; omega
        · have HZ := Lib.hid (show colsOk V L = false from decide_eq_false (by
            subst hj
            exact col_bad (by omega) hcmp))
          have hge : V[k] ≤ V[j] := by omega
          have HJ := Lib.hid hj
          clear hj hk0 hcmp
          generalize V[k] = z at *
          generalize V[j] = y at *
          go_wp2_with fail
          go_ret
          exact ⟨ret_b HZ.out.symm, rfl⟩
    · have ek : k = V.length := by omega
      subst ek
      rw [List.take_length] at hvp
      have HZ := Lib.hid (show colsOk V L = true from decide_eq_true hvp.out)
      go_wp2_with fail
      go_ret
      exact ⟨ret_b HZ.out.symm, rfl⟩
set_option maxRecDepth 100000 in
set_option maxHeartbeats 1600000 in
theorem impl_seq (v : Value) (l : List Int) (B : Nat) (w : World) (hr : RI w v l B) :
    Calls Try.prog 17 #[v] w fun e w' => e = .returned (.bool (seqOk l)) ∧ w = w' := by
  have HR := Lib.hid hr
  obtain ⟨a, cap, rfl, hlm, _⟩ := hr
  go_enter Try.func17, Try.ntmps17
  go_wp2_with fail
  go_loop [3, 8] (fun r i => ∃ k : Nat, k ≤ l.length ∧ i = .int .i64 k ∧ r = .int .i64 (8 - (l.take k).sum) ∧ Hid (SeqP (l.take k))) (fun _ i => l.length - (intOf i).toNat)
  case atStart => exact ⟨0, Nat.zero_le _, rfl, rfl, Lib.hid ⟨fun x hx => by simp at hx, by simp, by simp [Desc]⟩⟩
  case round =>
    obtain ⟨k, hk, rfl, rfl, hsp⟩ := hrel
    by_cases hlt : k < l.length
    · obtain ⟨b, off, cap', e1, hbB, hc⟩ := ri_at HR.out hlt
      injection e1 with e1 e2 e3
      subst e1 e3
      have p1 : (0 : Int) ≤ (k : Int) := by omega
      have p2 : (k : Int) < (l.length : Int) := by omega
      obtain ⟨s1, s2⟩ := seq_sum hsp.out
      have HNX := Lib.hid (sum_next hlt)
      by_cases hx0 : l[k] < 1
      · have HZ := Lib.hid (show seqOk l = false from decide_eq_false (seq_bad1 hlt (by omega)))
        generalize l[k] = z at *
        generalize (l.take k).sum = s at *
        go_wp2_with fail
        go_ret
        exact ⟨ret_b HZ.out.symm, rfl⟩
      by_cases hx4 : 8 - (l.take k).sum < l[k]
      · have HZ := Lib.hid (show seqOk l = false from decide_eq_false (seq_bad1 hlt (by omega)))
        generalize l[k] = z at *
        generalize (l.take k).sum = s at *
        go_wp2_with fail
        go_ret
        exact ⟨ret_b HZ.out.symm, rfl⟩
      by_cases hk0 : k = 0
      · have has2 := Lib.hid (seq_more hsp.out hlt (by omega) (fun j hj => by omega))
        have q0 : ¬ 0 < k := by omega
        clear hk0
        generalize l[k] = z at *
        generalize (l.take k).sum = s at *
        go_wp2_with fail
        go_round
        case rel => exact ⟨k + 1, by omega, by go_num, by rw [HNX.out]; go_num, has2⟩
        case measure => simp [intOf]; omega
      · obtain ⟨j, hj⟩ : ∃ j, k = j + 1 := ⟨k - 1, by omega⟩
        have hjl : j < l.length := by omega
        obtain ⟨b', off', cap', e1, hbB', hc'⟩ := ri_at HR.out hjl
        injection e1 with e1 e2 e3
        injection e1 with e1
        injection e1 with e1 e2 _
        subst e1 e2 e3
        have p3 : (0 : Int) ≤ (j : Int) := by omega
        have p4 : (j : Int) < (l.length : Int) := by omega
        have p5 : 0 < k := by omega
        have p6 : (k : Int) - 1 = (j : Int) := by omega
        by_cases hcmp : l[k] ≤ l[j]
        · have has2 := Lib.hid (seq_more hsp.out hlt (by omega) (fun j' hj' _ => by
            obtain rfl : j' = j := by omega
            exact hcmp))
          have hge : ¬ l[j] < l[k] := by omega
          have HJ := Lib.hid hj
          clear hj hk0 hcmp
          generalize l[k] = z at *
          generalize l[j] = y at *
          generalize (l.take k).sum = s at *
          go_wp2_with fail
          go_round
          case rel => exact ⟨k + 1, by omega, by go_num, by rw [HNX.out]; go_num, has2⟩
          case measure => simp [intOf]; omega
        · have HZ := Lib.hid (show seqOk l = false from decide_eq_false (by
            subst hj
            exact seq_bad2 (by omega) hcmp))
          have hge : l[j] < l[k] := by omega
          have HJ := Lib.hid hj
          clear hj hk0 hcmp
          generalize l[k] = z at *
          generalize l[j] = y at *
          generalize (l.take k).sum = s at *
          go_wp2_with fail
          go_ret
          exact ⟨ret_b HZ.out.symm, rfl⟩
    · have ek : k = l.length := by omega
      subst ek
      rw [List.take_length] at hsp
      have HZ := Lib.hid (show seqOk l = true from decide_eq_true hsp.out)
      generalize (l.take l.length).sum = s at *
      go_wp2_with fail
      go_ret
      exact ⟨ret_b HZ.out.symm, rfl⟩
set_option maxRecDepth 100000 in
set_option maxHeartbeats 1600000 in
theorem impl_top (v : Value) (l : List Int) (K : Int) (B : Nat) (w : World) (hr : RI w v l B) (hm : Room v l) :
    Calls Try.prog 23 #[v, .int .i64 K] w fun e w' => e = .returned (.int .i64 (topL l K)) ∧ w = w' := by
  by_cases hK : K < 1
  · have HZ := Lib.hid (top_neg (l := l) hK)
    clear hr hm
    go_enter Try.func23, Try.ntmps23
    go_wp2_with fail
    go_ret
    exact ⟨ret_int HZ.out.symm, rfl⟩
  have HS := Lib.hid (impl_seq v l B w hr)
  cases hq : seqOk l
  · rw [hq] at HS
    have HZ := Lib.hid (show topL l K = 0 by unfold topL; rw [hq]; rfl)
    clear hr hm hq
    go_enter Try.func23, Try.ntmps23
    go_wp2_with fail
    refine HS.out.mono ?_
    rintro e w1 ⟨rfl, rfl⟩
    go_wp2_with fail
    go_ret
    exact ⟨ret_int HZ.out.symm, rfl⟩
  rw [hq] at HS
  have HT := Lib.hid (show ∀ k, 0 ≤ (l.take k).sum ∧ (l.take k).sum ≤ 8 from fun k => seq_sum (seq_take (of_decide_eq_true hq) k))
  have HP := Lib.hid (fun (k : Nat) (h : k < l.length) => sum_next h)
  rcases hm with ⟨rfl, rfl⟩ | ⟨b, off, cap, rfl, hlc, hcm⟩
  · have HZ := Lib.hid (show topL [] K = 0 by unfold topL; rw [hq]; simp)
    have k1 : ¬ K ≤ 0 := by omega
    have k2 : min K 0 = 0 := by omega
    clear hr hq HT HP
    go_enter Try.func23, Try.ntmps23
    go_wp2_with fail
    refine HS.out.mono ?_
    rintro e w1 ⟨rfl, rfl⟩
    go_wp2_with fail
    go_loop [5, 22] (fun s i => s = .int .i64 0 ∧ i = .int .i64 0) (fun _ _ => 0)
    case atStart => exact ⟨rfl, rfl⟩
    case round =>
      obtain ⟨rfl, rfl⟩ := hrel
      go_wp2_with fail
      go_ret
      exact ⟨ret_int HZ.out.symm, rfl⟩
  have HR := Lib.hid hr
  have hll : l.length ≤ 9223372036854775807 := by unfold maxLen at hcm; omega
  by_cases hKl : K ≤ (l.length : Int)
  · obtain ⟨n, rfl⟩ := Int.eq_ofNat_of_zero_le (show 0 ≤ K by omega)
    have HZ := Lib.hid (show (l.take n).sum = topL l (n : Int) by unfold topL; rw [if_pos hq, Int.toNat_natCast])
    have hnl : n ≤ l.length := by omega
    have n1 : (0 : Int) ≤ (n : Int) := by omega
    have n2 : (n : Int) ≤ (cap : Int) := by omega
    have n3 : n ≤ cap := by omega
    clear hr hq hlc hcm
    go_enter Try.func23, Try.ntmps23
    go_wp2_with fail
    refine HS.out.mono ?_
    rintro e w1 ⟨rfl, rfl⟩
    go_wp2_with fail
    go_loop [5, 22] (fun s i => ∃ k : Nat, k ≤ n ∧ i = .int .i64 k ∧ s = .int .i64 (l.take k).sum) (fun _ i => n - (intOf i).toNat)
    case atStart => exact ⟨0, Nat.zero_le _, rfl, rfl⟩
    case round =>
      obtain ⟨k, hk, rfl, rfl⟩ := hrel
      by_cases hlt : k < n
      · have hkl : k < l.length := by omega
        obtain ⟨b', off', cap', e1, hbB, hc⟩ := ri_at HR.out hkl
        injection e1 with e1 e2 e3
        injection e1 with e1
        injection e1 with e1 e4 _
        subst e1 e4
        have p1 : (0 : Int) ≤ (k : Int) := by omega
        have p2 : (k : Int) < (n : Int) := by omega
        obtain ⟨s1, s2⟩ := HT.out k
        obtain ⟨s3, s4⟩ := HT.out (k + 1)
        have HNX := Lib.hid (HP.out k hkl)
        have s5 := HNX.out
        generalize l[k] = z at *
        generalize (l.take k).sum = s at *
        go_wp2_with fail
        go_round
        case rel => exact ⟨k + 1, by omega, by go_num, by rw [HNX.out]; (try go_num)⟩
        case measure => simp [intOf]; omega
      · have ek : k = n := by omega
        subst ek
        generalize (l.take k).sum = s at *
        go_wp2_with fail
        go_ret
        exact ⟨ret_int HZ.out, rfl⟩
  · have HZ := Lib.hid (show (l.take l.length).sum = topL l K by unfold topL; rw [if_pos hq, List.take_of_length_le (show l.length ≤ K.toNat by omega), List.take_length])
    have n1 : (0 : Int) ≤ (l.length : Int) := by omega
    have n2 : (l.length : Int) ≤ (cap : Int) := by omega
    have n3 : l.length ≤ cap := by omega
    have hnl : l.length ≤ l.length := Nat.le_refl _
    clear hr hq hlc hcm
    go_enter Try.func23, Try.ntmps23
    go_wp2_with fail
    refine HS.out.mono ?_
    rintro e w1 ⟨rfl, rfl⟩
    go_wp2_with fail
    go_loop [5, 22] (fun s i => ∃ k : Nat, k ≤ l.length ∧ i = .int .i64 k ∧ s = .int .i64 (l.take k).sum) (fun _ i => l.length - (intOf i).toNat)
    case atStart => exact ⟨0, Nat.zero_le _, rfl, rfl⟩
    case round =>
      obtain ⟨k, hk, rfl, rfl⟩ := hrel
      by_cases hlt : k < l.length
      · have hkl : k < l.length := by omega
        obtain ⟨b', off', cap', e1, hbB, hc⟩ := ri_at HR.out hkl
        injection e1 with e1 e2 e3
        injection e1 with e1
        injection e1 with e1 e4 _
        subst e1 e4
        have p1 : (0 : Int) ≤ (k : Int) := by omega
        have p2 : (k : Int) < (l.length : Int) := by omega
        obtain ⟨s1, s2⟩ := HT.out k
        obtain ⟨s3, s4⟩ := HT.out (k + 1)
        have HNX := Lib.hid (HP.out k hkl)
        have s5 := HNX.out
        generalize l[k] = z at *
        generalize (l.take k).sum = s at *
        go_wp2_with fail
        go_round
        case rel => exact ⟨k + 1, by omega, by go_num, by rw [HNX.out]; (try go_num)⟩
        case measure => simp [intOf]; omega
      · have ek : k = l.length := by omega
        subst ek
        rw [List.take_length] at *
        generalize l.sum = s at *
        go_wp2_with fail
        go_ret
        exact ⟨ret_int HZ.out, rfl⟩
theorem impl_total (v : Value) (l : List Int) (B : Nat) (w : World) (hr : RI w v l B) (hm : Room v l) :
    Calls Try.prog 18 #[v] w fun e w' => e = .returned (.int .i64 (totL l)) ∧ w = w' := by
  have HT := Lib.hid (impl_top v l (l.length : Int) B w hr hm)
  have HZ := Lib.hid (tot_top l)
  obtain ⟨a, cap, rfl, hlm, _⟩ := hr
  clear hm
  generalize topL l (l.length : Int) = t at *
  go_enter Try.func18, Try.ntmps18
  go_wp2_with fail
  refine HT.out.mono ?_
  rintro e w1 ⟨rfl, rfl⟩
  go_wp2_with fail
  go_ret
  exact ⟨ret_int HZ.out.symm, rfl⟩
set_option maxRecDepth 100000 in
theorem impl_dom (v1 v2 : Value) (a b : List Int) (B1 B2 : Nat) (w : World) (h1 : RI w v1 a B1) (h2 : RI w v2 b B2) (hm1 : Room v1 a) (hm2 : Room v2 b) :
    Calls Try.prog 21 #[v1, v2] w fun e w' => e = .returned (.bool (domL a b)) ∧ w = w' := by
  have HA := Lib.hid (impl_seq v1 a B1 w h1)
  have HB := Lib.hid (impl_seq v2 b B2 w h2)
  have HTA := Lib.hid (fun K => impl_top v1 a K B1 w h1 hm1)
  have HTB := Lib.hid (fun K => impl_top v2 b K B2 w h2 hm2)
  obtain ⟨a2, c2, rfl, hl2, _⟩ := h2
  obtain ⟨a1, c1, rfl, hl1, _⟩ := h1
  clear hm1 hm2
  cases qa : seqOk a
  · rw [qa] at HA
    have HZ := Lib.hid (dom_no1 (b := b) qa)
    clear qa
    go_enter Try.func21, Try.ntmps21
    go_wp2_with fail
    refine HA.out.mono ?_
    rintro e w1 ⟨rfl, rfl⟩
    go_wp2_with fail
    go_ret
    exact ⟨ret_b HZ.out.symm, rfl⟩
  cases qb : seqOk b
  · rw [qa] at HA
    rw [qb] at HB
    have HZ := Lib.hid (dom_no2 (a := a) qb)
    clear qa qb
    go_enter Try.func21, Try.ntmps21
    go_wp2_with fail
    refine HA.out.mono ?_
    rintro e w1 ⟨rfl, rfl⟩
    go_wp2_with fail
    refine HB.out.mono ?_
    rintro e w1 ⟨rfl, rfl⟩
    go_wp2_with fail
    go_ret
    exact ⟨ret_b HZ.out.symm, rfl⟩
  rw [qa] at HA
  rw [qb] at HB
  have hb8 : b.length ≤ 8 := seq_len (of_decide_eq_true qb)
  have HNO := Lib.hid (fun (k : Nat) (h : k < 9) => dom_no (a := a) (b := b) h)
  have HYES := Lib.hid (dom_len qa qb)
  have HBD := Lib.hid (fun k => And.intro (top_bd a k) (top_bd b k))
  clear qa qb
  go_enter Try.func21, Try.ntmps21
  go_wp2_with fail
  refine HA.out.mono ?_
  rintro e w1 ⟨rfl, rfl⟩
  go_wp2_with fail
  refine HB.out.mono ?_
  rintro e w1 ⟨rfl, rfl⟩
  go_wp2_with fail
  go_loop [16] (fun i => ∃ k : Nat, k ≤ b.length ∧ i = .int .i64 k ∧ Hid (∀ j : Nat, j < k → topL b ((j : Int) + 1) ≤ topL a ((j : Int) + 1))) (fun i => b.length - (intOf i).toNat)
  case atStart => exact ⟨0, Nat.zero_le _, rfl, Lib.hid (fun j hj => by omega)⟩
  case round =>
    obtain ⟨k, hk, rfl, hall⟩ := hrel
    by_cases hlt : k < b.length
    · obtain ⟨⟨a1, a2⟩, b1, b2⟩ := HBD.out ((k : Int) + 1)
      have p1 : (k : Int) < (b.length : Int) := by omega
      have HX := Lib.hid (HTA.out ((k : Int) + 1))
      have HY := Lib.hid (HTB.out ((k : Int) + 1))
      by_cases hc : topL a ((k : Int) + 1) < topL b ((k : Int) + 1)
      · have HZ := Lib.hid (HNO.out (k + 1) (by omega) (by push_cast; exact hc))
        generalize topL a ((k : Int) + 1) = x at *
        generalize topL b ((k : Int) + 1) = y at *
        go_wp2_with fail
        refine HX.out.mono ?_
        rintro e w1 ⟨rfl, rfl⟩
        go_wp2_with fail
        refine HY.out.mono ?_
        rintro e w1 ⟨rfl, rfl⟩
        go_wp2_with fail
        go_ret
        exact ⟨ret_b HZ.out.symm, rfl⟩
      · have hall2 := Lib.hid (show ∀ j : Nat, j < k + 1 → topL b ((j : Int) + 1) ≤ topL a ((j : Int) + 1) from fun j hj => by
          by_cases e : j = k
          · subst e; omega
          · exact hall.out j (by omega))
        generalize topL a ((k : Int) + 1) = x at *
        generalize topL b ((k : Int) + 1) = y at *
        go_wp2_with fail
        refine HX.out.mono ?_
        rintro e w1 ⟨rfl, rfl⟩
        go_wp2_with fail
        refine HY.out.mono ?_
        rintro e w1 ⟨rfl, rfl⟩
        go_wp2_with fail
        go_round
        case rel => exact ⟨k + 1, by omega, by go_num, hall2⟩
        case measure => simp [intOf]; omega
    · have ek : k = b.length := by omega
      subst ek
      have HZ := Lib.hid (HYES.out hall.out)
      go_wp2_with fail
      go_ret
      exact ⟨ret_b HZ.out.symm, rfl⟩
end Go.Proofs.Ytnjomgefmoehhaa.DegImp
