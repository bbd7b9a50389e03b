/- Bits of a mask as a list: the program's function. -/
import Derived.Test.YtnoennmhifmolaaQryVars
import Derived.Test.YtnoennmhifmolaaShelf
namespace Go.Proofs.Ytnoennmhifmolaa.QrySpec
open Go Go.RowKit Byt Ints IntsLaw Cd Rows2 Tab TabSpec Exact QryMath

theorem bitLen_vars : ∀ s < 16, varsTo s (Lib.bitLen s) = varsL s ∧ Lib.bitLen s ≤ 4 := by decide
set_option maxRecDepth 100000 in
set_option maxHeartbeats 1600000 in
theorem impl_list (s : Nat) (w : World) (hs : s < 16) :
    Calls Try.prog 79 #[.int .i64 (s : Int)] w fun e w' => ∃ v' fp, e = .returned v' ∧ rowC.ow w' w.heap.size [v'] (varsL s) fp ∧ fp.Nodup ∧ Below w.heap.size w w' := by
  have HL0 : Calls Try.prog 93 #[.int .u64 (s : Int)] w fun e w' => e = .returned (.int .i64 (Lib.bitLen (s : Int).toNat)) ∧ w = w' := (Try.bits_Len (s : Int) w (by omega) (by omega)).mono fun _ _ h => ⟨h.1, h.2.symm⟩
  have HL := Lib.hid HL0
  clear HL0
  have HV := Lib.hid (bitLen_vars s hs)
  rw [show (s : Int).toNat = s by omega] at HL
  generalize Lib.bitLen s = n at *
  have hw64 : IntKind.u64.wrap (s : Int) = (s : Int) := by rw [IntKind.wrap_u64]; omega
  go_enter Try.func79, Try.ntmps79
  go_wp2_with (go_at_call 93; refine HL.out.mono ?_; rintro e w1 ⟨rfl, rfl⟩)
  go_loopw [3, 8] (fun o i wr => ∃ (k : Nat), k ≤ n ∧ i = .int .i64 k ∧ OwnI wr w.heap.size 3 o (varsTo s k) ∧ Below w.heap.size w wr) (fun _ i _ => n - (intOf i).toNat)
  case atStart => exact ⟨0, Nat.zero_le _, rfl, OwnI.nil _ _ _, Below.refl _ _⟩
  case round =>
    obtain ⟨k, hk, rfl, hown, hb⟩ := hrel
    have HB := Lib.hid hb
    have hbs := hb.size
    have hn4 := HV.out.2
    by_cases hlt : k < n
    · have hbit := bit_at hs k
      have p1 : (0 : Int) ≤ (k : Int) := by omega
      have p2 : (k : Int) < (n : Int) := by omega
      have p3 : (k : Int) ≤ 64 := by omega
      have p4 : ((k : Int)).toNat = k := by omega
      have hlen : (varsTo s k).length + 1 ≤ 1000000000000 := by have := varsTo_len s k; omega
      by_cases hx : s / 2 ^ k % 2 = 1
      · have HNX := Lib.hid (varsTo_yes hx)
        rw [hx] at hbit
        clear hx hb
        generalize varsTo s k = out at *
        go_wp2_with (first | (at_builtin; refine wp_appendI rfl (.tmp 16) (.tmp 18) 25 rfl w.heap.size 3 Try.underlying25 info_i64 _ _ rfl hown _ rfl hlen hbs ?_))
        intro v' w5 hown5 hb5
        go_wp2_with fail
        go_roundw
        case rel => exact ⟨k + 1, by omega, by go_num, by rw [HNX.out]; exact hown5, HB.out.trans hb5⟩
        case measure => simp [intOf]; omega
      · have HNX := Lib.hid (varsTo_no hx)
        have hz : s / 2 ^ k % 2 = 0 := by omega
        rw [hz] at hbit
        clear hx hb hz
        go_wp2_with fail
        go_roundw
        case rel => exact ⟨k + 1, by omega, by go_num, by rw [HNX.out]; exact hown, HB.out⟩
        case measure => simp [intOf]; omega
    · have ek : k = n := by omega
      subst ek
      have HO := Lib.hid (show OwnI wr w.heap.size 3 _ (varsL s) from by rw [← HV.out.1]; exact hown)
      clear hown hb
      go_wp2_with fail
      go_ret
      exact ⟨_, _, rfl, Cd.ow_of_own HO.out (inr_varsTo s 4 (by decide)), Cd.own_nodup, HB.out⟩
end Go.Proofs.Ytnoennmhifmolaa.QrySpec
