/- Tables: is a table valid, are two the same; the columns of a row: the program's functions. -/
import Derived.Test.YteihnbnlfocgmaaGreatDoorTabImp1
import Derived.Test.YteihnbnlfocgmaaGreatDoorTabSel
namespace Go.Proofs.YteihnbnlfocgmaaGreatDoor.TabImp
open Go Go.RowKit Byt Ints IntsLaw Cd Rows2 Tab TabSpec

def rowsOk (rows : List (List Int)) (ar : Int) : Bool := decide ((∀ r ∈ rows, rowOk r ar = true) ∧ Asc rows)
set_option maxRecDepth 100000 in
set_option maxHeartbeats 1600000 in
theorem are_rows (ar : Int) (u : Value) (rows : List (List Int)) (S : Nat → Prop) (w : World) (hr : rowsC.rd w S [u] rows) :
    Calls Tryz.prog 53 #[u, .int .i64 ar] w fun e w' => e = .returned (.bool (rowsOk rows ar)) ∧ w = w' := by
  obtain ⟨a, cap, rfl, hlm⟩ := rows_form hr
  have HR := Lib.hid hr
  have HOK := Lib.hid (show (∀ r ∈ rows, rowOk r ar = true) → Asc rows → rowsOk rows ar = true from fun q1 q2 => decide_eq_true ⟨q1, q2⟩)
  have HNO1 := Lib.hid (show ∀ r ∈ rows, rowOk r ar = false → rowsOk rows ar = false from fun r hr h => decide_eq_false fun q => by have := q.1 r hr; rw [h] at this; exact absurd this (by decide))
  have HNO2 := Lib.hid (show ¬ Asc rows → rowsOk rows ar = false from fun h => decide_eq_false fun q => h q.2)
  clear hr
  go_enter Tryz.func53, Tryz.ntmps53
  go_wp2_with fail
  go_loop [9] (fun i => ∃ k : Nat, k ≤ rows.length ∧ i = .int .i64 k ∧ Hid (∀ r ∈ rows.take k, rowOk r ar = true) ∧ Hid (Asc (rows.take k))) (fun i => rows.length - (intOf i).toNat)
  case atStart => exact ⟨0, Nat.zero_le _, rfl, Lib.hid (fun x hx => by simp at hx), Lib.hid List.Pairwise.nil⟩
  case round =>
    obtain ⟨k, hk, rfl, hro, has⟩ := hrel
    by_cases hlt : k < rows.length
    · obtain ⟨b, off, cap', v, e1, hbB, hc, hv⟩ := rows_at HR.out hlt
      injection e1 with e1 e2 e3
      subst e1 e3
      have p1 : (0 : Int) ≤ (k : Int) := by omega
      have p2 : (k : Int) < (rows.length : Int) := by omega
      have HROW := Lib.hid (is_row v rows[k] ar _ w (row_ri hv).1)
      by_cases hok : rowOk rows[k] ar = true
      case neg =>
        have hok : rowOk rows[k] ar = false := by simpa using hok
        rw [hok] at HROW
        have HZ := Lib.hid (HNO1.out _ (List.getElem_mem hlt) hok)
        clear hok hv
        go_wp2_with (go_at_call 80; refine HROW.out.mono ?_; rintro e w1 ⟨rfl, rfl⟩)
        go_ret
        exact ⟨ret_b HZ.out.symm, rfl⟩
      rw [hok] at HROW
      have hro2 := Lib.hid (show ∀ r ∈ rows.take (k + 1), rowOk r ar = true by
        rw [List.take_succ_eq_append_getElem hlt]
        intro x hx'
        rcases List.mem_append.1 hx' with q | q
        · exact hro.out x q
        · rw [List.mem_singleton.1 q]; exact hok)
      clear hok
      by_cases hk0 : k = 0
      · have has2 := Lib.hid (asc_more has.out hlt (fun j hj => by omega))
        have q0 : ¬ 0 < k := by omega
        clear hv hk0
        go_wp2_with (go_at_call 80; refine HROW.out.mono ?_; rintro e w1 ⟨rfl, rfl⟩)
        go_round
        case rel => exact ⟨k + 1, by omega, by go_num, hro2, has2⟩
        case measure => simp [intOf]; omega
      · obtain ⟨j, hj⟩ : ∃ j, k = j + 1 := ⟨k - 1, by omega⟩
        have hjl : j < rows.length := by omega
        obtain ⟨b', off', cap', v', e1, hbB', hc', hv'⟩ := rows_at HR.out hjl
        injection e1 with e1 e2 e3
        injection e1 with e1
        injection e1 with e1 e2 _
        subst e1 e2 e3
        have HC := Lib.hid (impl_cmp v' v (rows[j]'hjl) rows[k] _ _ w (row_ri hv').1 (row_ri hv).1)
        have hbd := cmpR_bd (rows[j]'hjl) rows[k]
        have p3 : (0 : Int) ≤ (j : Int) := by omega
        have p4 : (j : Int) < (rows.length : Int) := by omega
        have p5 : 0 < k := by omega
        have p6 : (k : Int) - 1 = (j : Int) := by omega
        by_cases hcmp : cmpR (rows[j]'hjl) rows[k] < 0
        · have has2 := Lib.hid (asc_more has.out hlt (fun j' hj hj' => by
            obtain rfl : j' = j := by omega
            exact hcmp))
          have hge : ¬ (0 : Int) ≤ cmpR (rows[j]'hjl) rows[k] := by omega
          have HJ := Lib.hid hj
          clear hv hv' hj hk0 hcmp hbd
          generalize cmpR (rows[j]'hjl) rows[k] = z at *
          go_wp2_with (first | (go_at_call 80; refine HROW.out.mono ?_; rintro e w1 ⟨rfl, rfl⟩) | (go_at_call 81; refine HC.out.mono ?_; rintro e w1 ⟨rfl, rfl⟩))
          go_round
          case rel => exact ⟨k + 1, by omega, by go_num, hro2, has2⟩
          case measure => simp [intOf]; omega
        · have HZ := Lib.hid (HNO2.out (by
            subst hj
            exact asc_bad (by omega) hcmp))
          have hge : (0 : Int) ≤ cmpR (rows[j]'hjl) rows[k] := by omega
          have HJ := Lib.hid hj
          clear hv hv' hj hk0 hcmp hbd
          generalize cmpR (rows[j]'hjl) rows[k] = z at *
          go_wp2_with (first | (go_at_call 80; refine HROW.out.mono ?_; rintro e w1 ⟨rfl, rfl⟩) | (go_at_call 81; refine HC.out.mono ?_; rintro e w1 ⟨rfl, rfl⟩))
          go_ret
          exact ⟨ret_b HZ.out.symm, rfl⟩
    · have ek : k = rows.length := by omega
      subst ek
      rw [List.take_length] at *
      have HZ := Lib.hid (HOK.out hro.out has.out)
      go_wp2
      go_ret
      exact ⟨ret_b HZ.out.symm, rfl⟩
set_option maxRecDepth 100000 in
set_option maxHeartbeats 1600000 in
theorem impl_valid (nm : ByteArray) (ar : Int) (u : Value) (rows : List (List Int)) (S : Nat → Prop) (w : World) (hr : rowsC.rd w S [u] rows) :
    Calls Tryz.prog 27 #[.agg #[.string nm, .int .i64 ar, u]] w fun e w' => e = .returned (.bool (tabOk nm ar rows)) ∧ Below w.heap.size w w' := by
  obtain ⟨a, cap, rfl, hlm⟩ := rows_form hr
  by_cases hnm : nameOk nm = true
  case neg =>
    have hnm : nameOk nm = false := by simpa using hnm
    have HNM := Lib.hid (fun w => is_name_at hnm w)
    have HZ := Lib.hid (show tabOk nm ar rows = false from decide_eq_false fun q => absurd (hnm.symm.trans q.1) (by decide))
    clear hnm hr
    go_enter Tryz.func27, Tryz.ntmps27
    go_wp2_with (go_at_call 51; refine (HNM.out _).mono ?_; rintro e w1 ⟨rfl, rfl⟩)
    go_ret
    exact ⟨ret_b HZ.out.symm, below_alloc _ _⟩
  have HNM := Lib.hid (fun w => is_name_at hnm w)
  by_cases har : 1 ≤ ar ∧ ar ≤ 3
  case neg =>
    have HIN := Lib.hid (fun w => is_arity_at (k := ar) (decide_eq_false har) w)
    have HZ := Lib.hid (show tabOk nm ar rows = false from decide_eq_false fun q => har ⟨q.2.1, q.2.2.1⟩)
    clear hnm hr har
    go_enter Tryz.func27, Tryz.ntmps27
    go_wp2_with (first | (go_at_call 51; refine (HNM.out _).mono ?_; rintro e w1 ⟨rfl, rfl⟩) | (go_at_call 52; refine (HIN.out _).mono ?_; rintro e w1 ⟨rfl, rfl⟩))
    go_ret
    exact ⟨ret_b HZ.out.symm, below_alloc _ _⟩
  have HIN := Lib.hid (fun w => is_arity_at (k := ar) (decide_eq_true har) w)
  by_cases h8 : (rows.length : Int) ≤ 8
  case neg =>
    have HZ := Lib.hid (show tabOk nm ar rows = false from decide_eq_false fun q => by have := q.2.2.2.1; omega)
    have h8' : ¬ rows.length ≤ 8 := by omega
    clear hnm hr har
    go_enter Tryz.func27, Tryz.ntmps27
    go_wp2_with (first | (go_at_call 51; refine (HNM.out _).mono ?_; rintro e w1 ⟨rfl, rfl⟩) | (go_at_call 52; refine (HIN.out _).mono ?_; rintro e w1 ⟨rfl, rfl⟩))
    go_ret
    exact ⟨ret_b HZ.out.symm, below_alloc _ _⟩
  have h8' : rows.length ≤ 8 := by omega
  have HZ := Lib.hid (show rowsOk rows ar = tabOk nm ar rows from decide_eq_decide.2 ⟨fun q => ⟨hnm, har.1, har.2, h8', q.1, q.2⟩, fun q => ⟨q.2.2.2.2.1, q.2.2.2.2.2⟩⟩)
  have HRO := Lib.hid (are_rows ar _ rows S _ (Cd.later hr (below_alloc w (.cells #[.string nm, .int .i64 ar, .slice a rows.length cap] 29 (0, 0)))))
  clear hnm har hr
  generalize rowsOk rows ar = z at *
  go_enter Tryz.func27, Tryz.ntmps27
  go_wp2_with (first | (go_at_call 51; refine (HNM.out _).mono ?_; rintro e w1 ⟨rfl, rfl⟩) | (go_at_call 52; refine (HIN.out _).mono ?_; rintro e w1 ⟨rfl, rfl⟩) | (go_at_call 53; refine HRO.out.mono ?_; rintro e w1 ⟨rfl, rfl⟩))
  go_ret
  exact ⟨ret_b HZ.out, below_alloc _ _⟩

set_option maxRecDepth 100000 in
theorem slices_equal (v1 v2 : Value) (a b : List Int) (B1 B2 : Nat) (w : World) (h1 : RI w v1 a B1) (h2 : RI w v2 b B2) :
    Calls Tryz.prog 64 #[v1, v2] w fun e w' => e = .returned (.bool (decide (a = b))) ∧ ∃ m, w' = w.drewN m := by
  have hr1 := Lib.hid h1
  have hr2 := Lib.hid h2
  obtain ⟨a1, cap1, rfl, hl1, hc1⟩ := h1
  obtain ⟨a2, cap2, rfl, hl2, hc2⟩ := h2
  clear hc1 hc2
  by_cases hlen : a.length = b.length
  case neg =>
    have HZ := Lib.hid (show decide (a = b) = false from decide_eq_false fun q => hlen (by rw [q]))
    have t1 : ((a.length : Int) != (b.length : Int)) = true := by rw [bne_iff_ne]; omega
    clear hlen
    go_enter Tryz.func64, Tryz.ntmps64
    go_wp2_with fail
    go_ret
    exact ⟨ret_b HZ.out.symm, 0, rfl⟩
  have t1 : ((a.length : Int) != (b.length : Int)) = false := by rw [bne_eq_false_iff_eq]; omega
  have HL := Lib.hid hlen
  clear hlen
  go_enter Tryz.func64, Tryz.ntmps64
  go_wp2
  go_loopw [13] (fun i wr => ∃ k m : Nat, k ≤ a.length ∧ i = .int .i64 k ∧ Hid (a.take k = b.take k) ∧ wr = w.drewN m) (fun i _ => a.length - (intOf i).toNat)
  case atStart => exact ⟨0, 0, Nat.zero_le _, rfl, Lib.hid rfl, rfl⟩
  case round =>
    obtain ⟨k, m, hk, rfl, htk, rfl⟩ := hrel
    by_cases hlt : k < a.length
    · have hlt2 : k < b.length := by have := HL.out; omega
      obtain ⟨x, xo, xc, e1, _, hx⟩ := ri_at hr1.out hlt
      injection e1 with e1 e2 e3
      subst e1 e3
      obtain ⟨y, yo, yc, e1, _, hy⟩ := ri_at hr2.out hlt2
      injection e1 with e1 e2 e3
      subst e1 e3
      have p1 : (0 : Int) ≤ (k : Int) := by omega
      have p2 : (k : Int) < (a.length : Int) := by omega
      have p3 : (k : Int) < (b.length : Int) := by omega
      by_cases hz : a[k] = b[k]
      · have htk2 := Lib.hid (show a.take (k + 1) = b.take (k + 1) by rw [List.take_succ_eq_append_getElem hlt, List.take_succ_eq_append_getElem hlt2, htk.out, hz])
        have tz : (a[k] != b[k]) = false := by rw [bne_eq_false_iff_eq]; exact hz
        clear hz
        go_wp2
        go_quiet (fail)
        go_wp2
        go_roundw
        case rel => exact ⟨k + 1, _, by omega, by go_num, htk2, rfl⟩
        case measure => simp [intOf]; omega
      · have HZ := Lib.hid (show decide (a = b) = false from decide_eq_false fun q => hz (by simp only [q]))
        have tz : (a[k] != b[k]) = true := by rw [bne_iff_ne]; exact hz
        clear hz
        go_wp2
        go_quiet (fail)
        go_wp2
        go_ret
        exact ⟨ret_b HZ.out.symm, dn2 _ _ _⟩
    · have ek : k = a.length := by omega
      subst ek
      have HZ := Lib.hid (show decide (a = b) = true from decide_eq_true (by
        have := htk.out
        rw [List.take_length, HL.out, List.take_length] at this
        exact this))
      go_wp2
      go_ret
      exact ⟨ret_b HZ.out.symm, m, rfl⟩
theorem slices_equal_at {v1 v2 : Value} {a b : List Int} {B1 B2 : Nat} {w : World} (h1 : RI w v1 a B1) (h2 : RI w v2 b B2) {r : Bool} (h : decide (a = b) = r) :
    Calls Tryz.prog 64 #[v1, v2] w fun e w' => e = .returned (.bool r) ∧ ∃ m, w' = w.drewN m := by
  subst h
  exact slices_equal v1 v2 a b B1 B2 w h1 h2

set_option maxRecDepth 100000 in
set_option maxHeartbeats 800000 in
theorem equal_func (v1 v2 : Value) (r1 r2 : List (List Int)) (S1 S2 : Nat → Prop) (w : World) (h1 : rowsC.rd w S1 [v1] r1) (h2 : rowsC.rd w S2 [v2] r2) :
    Calls Tryz.prog 63 #[v1, v2, .func (.func 64) #[] #[]] w fun e w' => e = .returned (.bool (decide (r1 = r2))) ∧ ∃ m, w' = w.drewN m := by
  have HR1 := Lib.hid (fun m => rd_drewN h1 m)
  have HR2 := Lib.hid (fun m => rd_drewN h2 m)
  obtain ⟨b1, cap1, rfl, hl1⟩ := rows_form h1
  obtain ⟨b2, cap2, rfl, hl2⟩ := rows_form h2
  clear h1 h2
  by_cases hlen : r1.length = r2.length
  case neg =>
    have HZ := Lib.hid (show decide (r1 = r2) = false from decide_eq_false fun q => hlen (by rw [q]))
    have t1 : ((r1.length : Int) != (r2.length : Int)) = true := by rw [bne_iff_ne]; omega
    clear hlen
    go_enter Tryz.func63, Tryz.ntmps63
    go_wp2_with fail
    go_ret
    exact ⟨ret_b HZ.out.symm, 0, rfl⟩
  have t1 : ((r1.length : Int) != (r2.length : Int)) = false := by rw [bne_eq_false_iff_eq]; omega
  have HL := Lib.hid hlen
  clear hlen
  go_enter Tryz.func63, Tryz.ntmps63
  go_wp2_with fail
  go_loopw [17] (fun i wr => ∃ k m : Nat, k ≤ r1.length ∧ i = .int .i64 k ∧ Hid (r1.take k = r2.take k) ∧ wr = w.drewN m) (fun i _ => r1.length - (intOf i).toNat)
  case atStart => exact ⟨0, 0, Nat.zero_le _, rfl, Lib.hid rfl, rfl⟩
  case round =>
    obtain ⟨k, m, hk, rfl, htk, hwr⟩ := hrel
    have HWR := Lib.hid hwr
    by_cases hlt : k < r1.length
    · have hlt2 : k < r2.length := by have := HL.out; omega
      obtain ⟨b, off, cap', v, e1, hbB, hc, hv⟩ := rows_at (HR1.out m) hlt
      injection e1 with e1 e2 e3
      subst e1 e3
      obtain ⟨b', off', cap', v', e1, hbB', hc', hv'⟩ := rows_at (HR2.out m) hlt2
      injection e1 with e1 e2 e3
      subst e1 e3
      rw [← hwr] at hc hc' hv hv'
      clear hwr
      have p1 : (0 : Int) ≤ (k : Int) := by omega
      have p2 : (k : Int) < (r1.length : Int) := by omega
      have p3 : (k : Int) < (r2.length : Int) := by omega
      by_cases hz : r1[k] = r2[k]
      · have htk2 := Lib.hid (show r1.take (k + 1) = r2.take (k + 1) by rw [List.take_succ_eq_append_getElem hlt, List.take_succ_eq_append_getElem hlt2, htk.out, hz])
        have HC := Lib.hid (slices_equal_at (row_ri hv).1 (row_ri hv').1 (decide_eq_true hz))
        clear hz hv hv'
        go_wp2_with (go_at_call 64; refine HC.out.mono ?_; rintro e w1 ⟨rfl, m1, rfl⟩)
        go_roundw
        case rel => exact ⟨k + 1, _, by omega, by go_num, htk2, by rw [HWR.out, World.drewN_drewN]⟩
        case measure => simp [intOf]; omega
      · have HZ := Lib.hid (show decide (r1 = r2) = false from decide_eq_false fun q => hz (by simp only [q]))
        have HC := Lib.hid (slices_equal_at (row_ri hv).1 (row_ri hv').1 (decide_eq_false hz))
        clear hz hv hv'
        go_wp2_with (go_at_call 64; refine HC.out.mono ?_; rintro e w1 ⟨rfl, m1, rfl⟩)
        go_ret
        exact ⟨ret_b HZ.out.symm, _, by rw [HWR.out, World.drewN_drewN]⟩
    · have ek : k = r1.length := by omega
      subst ek
      clear hwr
      have HZ := Lib.hid (show decide (r1 = r2) = true from decide_eq_true (by
        have := htk.out
        rw [List.take_length, HL.out, List.take_length] at this
        exact this))
      go_wp2_with fail
      go_ret
      exact ⟨ret_b HZ.out.symm, m, HWR.out⟩

set_option maxRecDepth 100000 in
theorem equal_rows (v1 v2 : Value) (r1 r2 : List (List Int)) (S1 S2 : Nat → Prop) (w : World) (h1 : rowsC.rd w S1 [v1] r1) (h2 : rowsC.rd w S2 [v2] r2) :
    Calls Tryz.prog 34 #[v1, v2] w fun e w' => e = .returned (.bool (decide (r1 = r2))) ∧ ∃ m, w' = w.drewN m := by
  have HC := Lib.hid (equal_func v1 v2 r1 r2 S1 S2 w h1 h2)
  obtain ⟨b1, cap1, rfl, hl1⟩ := rows_form h1
  obtain ⟨b2, cap2, rfl, hl2⟩ := rows_form h2
  clear h1 h2
  generalize decide (r1 = r2) = z at *
  go_enter Tryz.func34, Tryz.ntmps34
  go_wp2_with (go_at_call 63; refine HC.out.mono ?_; rintro e w1 ⟨rfl, m1, rfl⟩)
  go_ret
  exact ⟨rfl, m1, rfl⟩
set_option maxRecDepth 100000 in
set_option maxHeartbeats 1600000 in
theorem impl_equal (n1 n2 : ByteArray) (a1 a2 : Int) (u1 u2 : Value) (r1 r2 : List (List Int)) (S1 S2 : Nat → Prop) (w : World) (h1 : rowsC.rd w S1 [u1] r1) (h2 : rowsC.rd w S2 [u2] r2) :
    Calls Tryz.prog 9 #[.agg #[.string n1, .int .i64 a1, u1], .agg #[.string n2, .int .i64 a2, u2]] w fun e w' => e = .returned (.bool (sameT n1 n2 a1 a2 r1 r2)) ∧ Below w.heap.size w w' := by
  have HC := Lib.hid (fun w' (hb : Below w.heap.size w w') => equal_rows u1 u2 r1 r2 S1 S2 w' (Cd.later h1 hb) (Cd.later h2 hb))
  have hb0 := below_then (below_alloc w (.cells #[.string n1, .int .i64 a1, u1] 29 (0, 0))) (below_alloc _ (.cells #[.string n2, .int .i64 a2, u2] 29 (0, 0)))
  obtain ⟨b1, cap1, rfl, hl1⟩ := rows_form h1
  obtain ⟨b2, cap2, rfl, hl2⟩ := rows_form h2
  have HB := Lib.hid hb0
  clear h1 h2 hb0
  by_cases hn : n1 = n2
  case neg =>
    have HZ := Lib.hid (show sameT n1 n2 a1 a2 r1 r2 = false from decide_eq_false fun q => hn q.1)
    have t1 := str_ne hn
    clear hn
    go_enter Tryz.func9, Tryz.ntmps9
    go_wp2_with fail
    go_ret
    exact ⟨ret_b HZ.out.symm, HB.out⟩
  subst hn
  by_cases ha : a1 = a2
  case neg =>
    have HZ := Lib.hid (show sameT n1 n1 a1 a2 r1 r2 = false from decide_eq_false fun q => ha q.2.1)
    have t1 : (a1 == a2) = false := by rw [beq_eq_false_iff_ne]; exact ha
    clear ha
    go_enter Tryz.func9, Tryz.ntmps9
    go_wp2_with fail
    go_ret
    exact ⟨ret_b HZ.out.symm, HB.out⟩
  subst ha
  have HS := Lib.hid (show sameT n1 n1 a1 a1 r1 r2 = decide (r1 = r2) by unfold sameT; simp)
  generalize decide (r1 = r2) = z at *
  have t1 : (a1 == a1) = true := by simp
  have t2 : (n1.toList == n1.toList) = true := by simp
  go_enter Tryz.func9, Tryz.ntmps9
  go_wp2_with (go_at_call 34; refine (HC.out _ HB.out).mono ?_; rintro e w1 ⟨rfl, m1, rfl⟩)
  go_ret
  exact ⟨ret_b HS.out.symm, ⟨HB.out.os, HB.out.tape, HB.out.output, HB.out.size, HB.out.block⟩⟩

end Go.Proofs.YteihnbnlfocgmaaGreatDoor.TabImp
