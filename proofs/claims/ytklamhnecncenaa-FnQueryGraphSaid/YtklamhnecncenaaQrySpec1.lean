/- Queries: names of variables, bit sets as lists, columns: the model's functions and the program's. -/
import Derived.Test.YtklamhnecncenaaQryMath
import Derived.Test.YtklamhnecncenaaTabSel
import Derived.Test.YtklamhnecncenaaBit
import Derived.Deep.DeepCutAuto
namespace Go.Proofs.Ytklamhnecncenaa.QrySpec
open Go Go.RowKit Byt Ints IntsLaw Cd Rows2 Tab TabSpec Exact Atom QryMath

set_option maxRecDepth 100000 in
theorem spec_has (v : Value) (l : List Int) (x : Int) (B : Nat) (w : World) (hr : RI w v l B) :
    Calls Try.prog 100 #[v, .int .i64 x] w fun e w' => e = .returned (.bool (hasI l x)) ∧ w = w' := by
  have HR := Lib.hid hr
  obtain ⟨a, cap, rfl, hlm, _⟩ := hr
  go_enter Try.func100, Try.ntmps100
  go_wp2
  go_loop [5] (fun i => ∃ k : Nat, k ≤ l.length ∧ i = .int .i64 k ∧ Hid (∀ y ∈ l.take k, y ≠ x)) (fun i => l.length - (intOf i).toNat)
  case atStart => exact ⟨0, Nat.zero_le _, rfl, Lib.hid (fun x hx => by simp at hx)⟩
  case round =>
    obtain ⟨k, hk, rfl, hl⟩ := hrel
    by_cases hlt : k < l.length
    · obtain ⟨b, off, cap', e1, hbB, hc⟩ := ri_at HR.out hlt
      injection e1 with e1 e2 e3
      subst e1 e3
      have p1 : (0 : Int) ≤ (k : Int) := by omega
      have p2 : (k : Int) < (l.length : Int) := by omega
      by_cases hx : l[k] = x
      · have HZ := Lib.hid (show hasI l x = true by unfold hasI; rw [List.contains_iff_mem, ← hx]; exact List.getElem_mem hlt)
        have t1 : (l[k] == x) = true := beq_iff_eq.2 hx
        clear hx
        go_wp2
        go_ret
        exact ⟨ret_b HZ.out.symm, rfl⟩
      · have hl2 := Lib.hid (show ∀ y ∈ l.take (k + 1), y ≠ x by
          rw [List.take_succ_eq_append_getElem hlt]
          intro y hy
          rcases List.mem_append.1 hy with q | q
          · exact hl.out y q
          · rw [List.mem_singleton.1 q]; exact hx)
        have t1 : (l[k] == x) = false := beq_eq_false_iff_ne.2 hx
        clear hx
        go_wp2
        go_round
        case rel => exact ⟨k + 1, by omega, by go_num, hl2⟩
        case measure => simp [intOf]; omega
    · have ek : k = l.length := by omega
      subst ek
      have HZ := Lib.hid (show hasI l x = false by
        unfold hasI
        have h := hl.out
        rw [List.take_length] at h
        rw [Bool.eq_false_iff]
        intro q
        rw [List.contains_iff_mem] at q
        exact h x q rfl)
      go_wp2
      go_ret
      exact ⟨ret_b HZ.out.symm, rfl⟩

theorem vn_no {v : Int} (h : ¬ (0 ≤ v ∧ v < 4)) : vnm v = ⟨#[]⟩ := if_neg h
theorem spec_name (v : Int) (w : World) : Calls Try.prog 170 #[.int .i64 v] w fun e w' => e = .returned (.string (vnm v)) ∧ w = w' := by
  by_cases h : 0 ≤ v ∧ v ≤ 3
  · have HI := Lib.hid (fun w => Fixed.l1In_yes h.1 h.2 w)
    have hc : v = 0 ∨ v = 1 ∨ v = 2 ∨ v = 3 := by omega
    rcases hc with rfl | rfl | rfl | rfl
    all_goals
      clear h
      go_enter Try.func170, Try.ntmps170
      go_wp2_with (go_at_call 69; refine (HI.out _).mono ?_; rintro e w1 ⟨rfl, rfl⟩)
      go_ret
      exact ⟨rfl, rfl⟩
  · have HI := Lib.hid (fun w => Fixed.l1In_no h w)
    have HZ := Lib.hid (vn_no (v := v) (by omega))
    clear h
    go_enter Try.func170, Try.ntmps170
    go_wp2_with (go_at_call 69; refine (HI.out _).mono ?_; rintro e w1 ⟨rfl, rfl⟩)
    go_ret
    exact ⟨ret_str HZ.out.symm, rfl⟩

theorem bit_at {s : Nat} (h : s < 16) (k : Nat) : bits .and .i64 ((s : Int) / 2 ^ k) 1 = ((s / 2 ^ k % 2 : Nat) : Int) := by
  have e : ((s : Int) / 2 ^ k) = ((s / 2 ^ k : Nat) : Int) := by push_cast; rfl
  have hd := Nat.div_le_self s (2 ^ k)
  rw [e]
  generalize s / 2 ^ k = d at *
  have h1 := Bit.i64_mask 1 (by decide) (d : Int) (by omega) (by omega)
  rw [show (1 : Int) = 2 ^ 1 - 1 from rfl, h1]
  omega
set_option maxRecDepth 100000 in
set_option maxHeartbeats 1600000 in
theorem spec_list (s : Nat) (w : World) (hs : s < 16) :
    Calls Try.prog 134 #[.int .i64 (s : Int)] w fun e w' => ∃ v' fp, e = .returned v' ∧ rowC.ow w' w.heap.size [v'] (varsL s) fp ∧ fp.Nodup ∧ Below w.heap.size w w' := by
  have HW := Lib.hid (And.intro (Ints.OwnI.empty w w.heap.size 3 (Nat.le_refl _)) (below_alloc w (.cells #[] 3)))
  go_enter Try.func134, Try.ntmps134
  go_wp2_with fail
  go_loopw [3, 4] (fun o i wr => ∃ (k : Nat), k ≤ 4 ∧ i = .int .i64 k ∧ OwnI wr w.heap.size 3 o (varsTo s k) ∧ Below w.heap.size w wr) (fun _ i _ => 4 - (intOf i).toNat)
  case atStart => exact ⟨0, Nat.zero_le _, rfl, HW.out.1, HW.out.2⟩
  case round =>
    obtain ⟨k, hk, rfl, hown, hb⟩ := hrel
    have HB := Lib.hid hb
    have hbs := hb.size
    by_cases hlt : k < 4
    · have hbit := bit_at hs k
      have p1 : (0 : Int) ≤ (k : Int) := by omega
      have p2 : (k : Int) < 4 := by omega
      have p3 : (k : Int) ≤ 64 := by omega
      have p4 : ((k : Int)).toNat = k := by omega
      have hlen : (varsTo s k).length + 1 ≤ 1000000000000 := by have := varsTo_len s k; omega
      by_cases hx : s / 2 ^ k % 2 = 1
      · have HNX := Lib.hid (varsTo_yes hx)
        rw [hx] at hbit
        clear hx hb
        generalize varsTo s k = out at *
        go_wp2_with (first | (at_builtin; refine wp_appendI rfl (.tmp 15) (.tmp 17) 24 rfl w.heap.size 3 Try.underlying24 info_i64 _ _ rfl hown _ rfl hlen hbs ?_))
        intro v' w5 hown5 hb5
        go_wp2_with fail
        go_roundw
        case rel => exact ⟨k + 1, by omega, by go_num, by rw [HNX.out]; exact hown5, HB.out.trans hb5⟩
        case measure => simp [intOf]; omega
      · have HNX := Lib.hid (varsTo_no hx)
        have hz : s / 2 ^ k % 2 = 0 := by omega
        rw [hz] at hbit
        clear hx hb hz
        go_wp2_with fail
        go_roundw
        case rel => exact ⟨k + 1, by omega, by go_num, by rw [HNX.out]; exact hown, HB.out⟩
        case measure => simp [intOf]; omega
    · have ek : k = 4 := by omega
      subst ek
      have HO := Lib.hid hown
      clear hown hb
      go_wp2_with fail
      go_ret
      exact ⟨_, _, rfl, Cd.ow_of_own HO.out (inr_varsTo s 4 (by decide)), Cd.own_nodup, HB.out⟩
end Go.Proofs.Ytklamhnecncenaa.QrySpec
