/- The model's reader of decimal numbers. -/
import Derived.Test.YtkmhfgedbkkihaaDoorRatSplit
namespace Go.Proofs.YtkmhfgedbkkihaaDoor.RatNum
open Go Go.RowKit Byt Ratio RatGcd RatMake RatOps RatTo Format RatFmt ParsePlain RatSplit
open Go.Lib (decDigits itoa)

theorem take_snoc (s : ByteArray) (k : Nat) (h : k < s.size) : s.data.toList.take (k + 1) = s.data.toList.take k ++ [s[k]] := by
  rw [List.take_succ_eq_append_getElem (by simpa using h)]; rfl
theorem dv_bound10 (l : List UInt8) (k : Nat) (h : k ≤ 10) : dv (l.take k) < 10000000000 := by
  have h1 := dv_lt (l.take k)
  have h2 : (l.take k).length ≤ 10 := by rw [List.length_take]; omega
  exact Nat.lt_of_lt_of_le h1 (Nat.pow_le_pow_right (n := 10) (by decide) h2)
theorem neg_at (s : ByteArray) (h : 0 < s.size) : neg s.data.toList = (s[0] == 45) := by
  have hl : 0 < s.data.toList.length := by rw [Array.length_toList]; exact h
  unfold neg
  rw [List.head?_eq_getElem?, List.getElem?_eq_getElem hl]
  rfl
/-- What a call comes to. -/
def AnsN (s : ByteArray) (w : World) (e : Ending) (w' : World) : Prop :=
  ∃ v : Int, e = .returned (.int .i64 v) ∧ (-100000000000 < v ∧ v < 100000000000) ∧ Fit s.data.toList v ∧ w = w'
theorem fit_nodigit {l : List UInt8} {d : ByteArray} {k : Nat} (hd : rest l = d.data.toList) (hk : k < d.size) (hb : ¬ isd d[k] = true) : Fit l 0 := fun n _ _ h => by
  have hs := ParsePlain.shape h.symm
  rw [hd] at hs
  exact absurd (hs _ (List.getElem_mem (show k < d.data.toList.length by rw [Array.length_toList]; exact hk))) hb
theorem fit_long {l : List UInt8} {d : ByteArray} (hd : rest l = d.data.toList) (hk : 11 ≤ d.size) : Fit l 0 := fun n h1 h2 h => by
  have := rest_len_itoa h1 h2
  rw [← h, hd, Array.length_toList] at this
  have e : d.data.size = d.size := rfl
  omega
theorem fit_V {l : List UInt8} {v : Int} (h : V l = v) : Fit l v := fun n _ _ e => by
  rw [← h, e, V_itoa]

set_option maxRecDepth 100000 in
set_option maxHeartbeats 800000 in
theorem l2num_any (s : ByteArray) (w : World) (hs : s.size ≤ 9223372036854775807) :
    Calls Tryd.prog 42 #[.string s] w (AnsN s w) := by
  by_cases hpos : 0 < s.size
  case neg =>
    have h0 : s.size = 0 := by omega
    have hnil : s.data.toList = [] := List.eq_nil_of_length_eq_zero (by rw [Array.length_toList]; exact h0)
    have F := Lib.hid (show Fit s.data.toList 0 from fun n _ _ h => absurd (h.symm.trans hnil) (itoa_ne n))
    clear hnil
    go_enter Tryd.func42, Tryd.ntmps42
    go_wp2
    go_loop [2, 3, 5] (fun _ n i => n = .int .i64 0 ∧ i = .int .i64 0) (fun _ _ i => 0)
    case atStart => exact ⟨rfl, rfl⟩
    case round =>
      obtain ⟨rfl, rfl⟩ := hrel
      go_wp2
      go_ret
      exact ⟨0, rfl, by omega, F.out, rfl⟩
  have hn0 := neg_at s hpos
  by_cases h45 : s[0] = 45
  case pos =>
    have hneg : neg s.data.toList = true := by rw [hn0, h45]; rfl
    have t0 : ((s[0].toNat : Int) == 45) = true := by rw [h45]; rfl
    have hrest : rest s.data.toList = (s.extract 1 s.size).data.toList := by
      unfold rest
      rw [if_pos hneg]
      simp [ByteArray.data_extract, List.take_of_length_le]
    have hdz : (s.extract 1 s.size).size ≤ 9223372036854775807 := by simp; omega
    obtain ⟨d, hd⟩ : ∃ d : ByteArray, d = s.extract 1 s.size := ⟨_, rfl⟩
    rw [← hd] at hrest hdz
    have hV : V s.data.toList = -(dv d.data.toList : Int) := by
      unfold V
      rw [hneg, ← hrest, dv_rest]
      rfl
    have hdl : d.data.toList.length = d.size := Array.length_toList
    have HR := Lib.hid hrest
    have HV := Lib.hid hV
    have HL := Lib.hid hdl
    clear hrest hV hdl hneg hn0 h45
    go_enter Tryd.func42, Tryd.ntmps42
    go_wp2_with fail
    rw [← hd]
    clear hd
    go_loop [2, 3, 5] (fun r n i => ∃ k : Nat, r = .int .i64 0 ∧ k ≤ d.size ∧ (0 < k → d.size ≤ 10) ∧ i = .int .i64 k ∧ n = .int .i64 (dv (d.data.toList.take k) : Nat)) (fun _ _ i => d.size - (intOf i).toNat)
    case atStart => exact ⟨0, rfl, Nat.zero_le _, fun h => absurd h (Nat.lt_irrefl _), rfl, rfl⟩
    case round =>
      obtain ⟨k, rfl, hk, hk10, rfl, rfl⟩ := hrel
      by_cases hlong : 11 ≤ d.size
      · obtain rfl : k = 0 := by omega
        have F := Lib.hid (fit_long HR.out hlong)
        have hz : dv (d.data.toList.take 0) = 0 := rfl
        rw [hz]
        clear hz
        go_wp2
        all_goals go_ret
        all_goals exact ⟨0, rfl, by omega, F.out, rfl⟩
      · by_cases hlt : k < d.size
        · have hby := d[k].toNat_lt
          by_cases hi : isd d[k] = true
          · have hr : 48 ≤ d[k].toNat ∧ d[k].toNat ≤ 57 := by unfold isd at hi; simpa using hi
            obtain ⟨hr1, hr2⟩ := hr
            have hb := dv_bound10 d.data.toList k (by omega)
            have hd1 := Lib.hid (dv_snoc (d.data.toList.take k) d[k])
            have ht := Lib.hid (take_snoc d k hlt)
            have Hi := Lib.hid hi
            clear hi
            generalize dv (d.data.toList.take k) = m at *
            go_wp2
            go_round
            case rel => exact ⟨k + 1, rfl, by omega, fun _ => by omega, by go_num, by rw [ht.out, hd1.out, if_pos Hi.out]; go_num⟩
            case measure => simp [intOf]; omega
          · have F := Lib.hid (fit_nodigit HR.out hlt hi)
            have hr : ¬ (48 ≤ d[k].toNat ∧ d[k].toNat ≤ 57) := by unfold isd at hi; simpa using hi
            clear hi
            by_cases h48 : d[k].toNat < 48
            · clear hr
              go_wp2
              all_goals go_ret
              all_goals exact ⟨0, rfl, by omega, F.out, rfl⟩
            · have h57 : 57 < d[k].toNat := by omega
              clear hr
              go_wp2
              all_goals go_ret
              all_goals exact ⟨0, rfl, by omega, F.out, rfl⟩
        · have ek : k = d.size := by omega
          subst ek
          have hb := dv_bound10 d.data.toList d.size (by omega)
          have etake : d.data.toList.take d.size = d.data.toList := List.take_of_length_le (by rw [HL.out]; exact Nat.le_refl _)
          rw [etake] at hb
          rw [etake]
          clear etake
          have F := Lib.hid (fit_V HV.out)
          generalize dv d.data.toList = m at *
          go_wp2
          go_ret
          exact ⟨_, ret_int (by omega), by omega, F.out, rfl⟩
  case neg =>
    have t0 : ((s[0].toNat : Int) == 45) = false := by
      rw [beq_eq_false_iff_ne]
      intro q
      exact h45 (UInt8.toNat_inj.1 (by show s[0].toNat = 45; omega))
    have hneg : neg s.data.toList = false := by rw [hn0]; simpa using h45
    have hrest : rest s.data.toList = s.data.toList := by
      unfold rest
      rw [hneg]
      rfl
    have hV : V s.data.toList = (dv s.data.toList : Int) := by
      unfold V
      rw [hneg]
      rfl
    have hdl : s.data.toList.length = s.size := Array.length_toList
    have HR := Lib.hid hrest
    have HV := Lib.hid hV
    have HL := Lib.hid hdl
    clear hrest hV hdl hneg hn0 h45
    go_enter Tryd.func42, Tryd.ntmps42
    go_wp2_with fail
    go_loop [2, 3, 5] (fun r n i => ∃ k : Nat, r = .int .i64 0 ∧ k ≤ s.size ∧ (0 < k → s.size ≤ 10) ∧ i = .int .i64 k ∧ n = .int .i64 (dv (s.data.toList.take k) : Nat)) (fun _ _ i => s.size - (intOf i).toNat)
    case atStart => exact ⟨0, rfl, Nat.zero_le _, fun h => absurd h (Nat.lt_irrefl _), rfl, rfl⟩
    case round =>
      obtain ⟨k, rfl, hk, hk10, rfl, rfl⟩ := hrel
      by_cases hlong : 11 ≤ s.size
      · obtain rfl : k = 0 := by omega
        have F := Lib.hid (fit_long HR.out hlong)
        have hz : dv (s.data.toList.take 0) = 0 := rfl
        rw [hz]
        clear hz
        go_wp2
        all_goals go_ret
        all_goals exact ⟨0, rfl, by omega, F.out, rfl⟩
      · by_cases hlt : k < s.size
        · have hby := s[k].toNat_lt
          by_cases hi : isd s[k] = true
          · have hr : 48 ≤ s[k].toNat ∧ s[k].toNat ≤ 57 := by unfold isd at hi; simpa using hi
            obtain ⟨hr1, hr2⟩ := hr
            have hb := dv_bound10 s.data.toList k (by omega)
            have hd1 := Lib.hid (dv_snoc (s.data.toList.take k) s[k])
            have ht := Lib.hid (take_snoc s k hlt)
            have Hi := Lib.hid hi
            clear hi
            generalize dv (s.data.toList.take k) = m at *
            go_wp2
            go_round
            case rel => exact ⟨k + 1, rfl, by omega, fun _ => by omega, by go_num, by rw [ht.out, hd1.out, if_pos Hi.out]; go_num⟩
            case measure => simp [intOf]; omega
          · have F := Lib.hid (fit_nodigit HR.out hlt hi)
            have hr : ¬ (48 ≤ s[k].toNat ∧ s[k].toNat ≤ 57) := by unfold isd at hi; simpa using hi
            clear hi
            by_cases h48 : s[k].toNat < 48
            · clear hr
              go_wp2
              all_goals go_ret
              all_goals exact ⟨0, rfl, by omega, F.out, rfl⟩
            · have h57 : 57 < s[k].toNat := by omega
              clear hr
              go_wp2
              all_goals go_ret
              all_goals exact ⟨0, rfl, by omega, F.out, rfl⟩
        · have ek : k = s.size := by omega
          subst ek
          have hb := dv_bound10 s.data.toList s.size (by omega)
          have etake : s.data.toList.take s.size = s.data.toList := List.take_of_length_le (by rw [HL.out]; exact Nat.le_refl _)
          rw [etake] at hb
          rw [etake]
          clear etake
          have F := Lib.hid (fit_V HV.out)
          generalize dv s.data.toList = m at *
          go_wp2
          go_ret
          exact ⟨_, ret_int (by omega), by omega, F.out, rfl⟩
end Go.Proofs.YtkmhfgedbkkihaaDoor.RatNum
