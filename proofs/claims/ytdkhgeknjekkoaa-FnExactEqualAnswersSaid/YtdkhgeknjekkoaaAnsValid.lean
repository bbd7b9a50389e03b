/- Answers: is one valid, are two the same: the model's functions and the program's. -/
import Derived.Test.YtdkhgeknjekkoaaAnsC
import Derived.Test.YtdkhgeknjekkoaaTabImp2
namespace Go.Proofs.Ytdkhgeknjekkoaa.AnsValid
open Go Go.RowKit Byt Ints IntsLaw Cd Rows2 Tab TabSpec Exact Atom AnsC TabImp

theorem dnB {B m : Nat} {w w' : World} (h : Below B w w') : Below B w (w'.drewN m) := ⟨h.os, h.tape, h.output, h.size, h.block⟩
/-- Variables, ascending. -/
def VP (l : List Int) : Prop := (∀ x ∈ l, 0 ≤ x ∧ x < 4) ∧ l.Pairwise (· < ·)
instance (l : List Int) : Decidable (VP l) := by unfold VP; infer_instance
def varsOk (l : List Int) : Bool := decide (VP l)
theorem vp_more {l : List Int} {k : Nat} (h : VP (l.take k)) (hk : k < l.length) (hx : 0 ≤ l[k] ∧ l[k] < 4) (h0 : ∀ j, k = j + 1 → (hj : j < l.length) → l[j] < l[k]) : VP (l.take (k + 1)) := by
  rw [List.take_succ_eq_append_getElem hk]
  refine ⟨fun x hx' => ?_, ?_⟩
  · rcases List.mem_append.1 hx' with q | q
    · exact h.1 x q
    · rw [List.mem_singleton.1 q]; exact hx
  · rw [List.pairwise_append]
    refine ⟨h.2, List.pairwise_singleton .., fun a ha b hb => ?_⟩
    rw [List.mem_singleton.1 hb]
    obtain ⟨i, hi, rfl⟩ := List.getElem_of_mem ha
    have hik : i < k := by rw [List.length_take] at hi; omega
    rw [List.getElem_take]
    obtain ⟨q, rfl⟩ : ∃ q, k = q + 1 := ⟨k - 1, by omega⟩
    have hl := h0 q rfl (by omega)
    by_cases e : i = q
    · subst e; exact hl
    · have hp := List.pairwise_iff_getElem.1 h.2 i q (by rw [List.length_take]; omega) (by rw [List.length_take]; omega) (by omega)
      rw [List.getElem_take, List.getElem_take] at hp
      omega
theorem vp_bad {l : List Int} {j : Nat} (hj : j + 1 < l.length) (h : ¬ l[j] < l[j + 1]) : ¬ VP l := fun q => h (List.pairwise_iff_getElem.1 q.2 j (j + 1) (by omega) hj (by omega))
def ansOk (V : List Int) (R : List (List Int)) : Bool := varsOk V && rowsOk R (V.length : Int)
theorem ans_no {V : List Int} {R : List (List Int)} (h : ¬ VP V) : ansOk V R = false := by unfold ansOk varsOk; rw [decide_eq_false h]; rfl
theorem ans_yes {V : List Int} {R : List (List Int)} (h : VP V) : ansOk V R = rowsOk R (V.length : Int) := by unfold ansOk varsOk; rw [decide_eq_true h]; rfl
def sameA (V1 V2 : List Int) (R1 R2 : List (List Int)) : Bool := decide (V1 = V2 ∧ R1 = R2)
theorem lenV {V : List Int} (h : VP V) : V.length ≤ 4 := by
  have hb : ∀ i (hi : i < V.length), (i : Int) ≤ V[i] := by
    intro i
    induction i with
    | zero => intro hi; exact (h.1 _ (List.getElem_mem hi)).1
    | succ i ih =>
      intro hi
      have h1 := ih (by omega)
      have h2 := List.pairwise_iff_getElem.1 h.2 i (i + 1) (by omega) hi (by omega)
      have h3 : V[i] < V[i + 1] := h2
      omega
  by_cases q : V.length ≤ 4
  · exact q
  · have h1 := hb 4 (by omega)
    have h2 := (h.1 _ (List.getElem_mem (show 4 < V.length by omega))).2
    omega

set_option maxRecDepth 100000 in
set_option maxHeartbeats 3200000 in
theorem spec_validans (v1 v2 : Value) (V : List Int) (rows : List (List Int)) (S : Nat → Prop) (w : World) (hr : ansC.rd w S [v1, v2] (V, rows)) :
    Calls Try.prog 7 #[.agg #[v1, v2]] w fun e w' => e = .returned (.bool (ansOk V rows)) ∧ Below w.heap.size w w' := by
  obtain ⟨hr1, hr2⟩ := ans_reads hr
  have HV := Lib.hid (fun w' (hb : Below w.heap.size w w') => (row_ri (Cd.later hr1 hb)).1)
  have HR := Lib.hid (fun w' (hb : Below w.heap.size w w') => Cd.later hr2 hb)
  obtain ⟨a1, c1, rfl, hl1⟩ := row_form hr1
  obtain ⟨a, cap, rfl, hlm⟩ := rows_form hr2
  clear hr hr1 hr2
  go_enter Try.func7, Try.ntmps7
  go_wp2_with fail
  generalize hW : w.alloc _ = W
  obtain ⟨r0, _, hb0⟩ := start1 w _ hW
  clear hW
  have HB := Lib.hid hb0
  have HRW := Lib.hid (Atom.Loc2.of r0)
  clear r0 hb0
  go_loopw [3] (fun i wr => ∃ k m : Nat, k ≤ V.length ∧ i = .int .i64 k ∧ Hid (VP (V.take k)) ∧ wr = W.drewN m) (fun i _ => V.length - (intOf i).toNat)
  case atStart => exact ⟨0, 0, Nat.zero_le _, rfl, Lib.hid ⟨fun x hx => by simp at hx, by simp⟩, rfl⟩
  case round =>
    obtain ⟨k, m, hk, rfl, hvp, hwr⟩ := hrel
    have HBW := Lib.hid (show Below w.heap.size w wr by rw [hwr]; exact dnB HB.out)
    have g0 : wr.cell? ⟨w.heap.size, 0, none⟩ = some (.slice a1 V.length c1) := by rw [hwr]; exact HRW.out.c0
    have HWR := Lib.hid hwr
    clear hwr
    by_cases hlt : k < V.length
    · have hri := HV.out wr HBW.out
      obtain ⟨b, off, cap', e1, hbB, hc⟩ := ri_at hri hlt
      injection e1 with e1 e2 e3
      subst e1 e3
      have p1 : (0 : Int) ≤ (k : Int) := by omega
      have p2 : (k : Int) < (V.length : Int) := by omega
      by_cases hx : 0 ≤ V[k] ∧ V[k] ≤ 3
      case neg =>
        have HI := Lib.hid (show ∀ q, Calls Try.prog 17 #[.int .i64 V[k], .int .i64 0, .int .i64 3] (wr.drewN q) fun e w' => e = .returned (.bool false) ∧ w' = wr.drewN q from fun q => (Fixed.l1In_no hx (wr.drewN q)).mono fun _ _ h => ⟨h.1, h.2.symm⟩)
        have HZ := Lib.hid (show ansOk V rows = false from ans_no fun q => by have := q.1 _ (List.getElem_mem hlt); omega)
        clear hx hri
        generalize V[k] = z at *
        go_wp2
        go_quiet (first | (go_at_call 17; refine Calls.quiet_of_same (HI.out _)))
        go_wp2
        go_ret
        exact ⟨ret_b HZ.out.symm, dnB HBW.out⟩
      have HI := Lib.hid (show ∀ q, Calls Try.prog 17 #[.int .i64 V[k], .int .i64 0, .int .i64 3] (wr.drewN q) fun e w' => e = .returned (.bool true) ∧ w' = wr.drewN q from fun q => (Fixed.l1In_yes hx.1 hx.2 (wr.drewN q)).mono fun _ _ h => ⟨h.1, h.2.symm⟩)
      by_cases hk0 : k = 0
      · have has2 := Lib.hid (vp_more hvp.out hlt (by omega) (fun j hj => by omega))
        have q0 : ¬ 0 < k := by omega
        clear hx hri hk0
        generalize V[k] = z at *
        go_wp2
        go_quiet (first | (go_at_call 17; refine Calls.quiet_of_same (HI.out _)))
        go_wp2
        go_roundw
        case rel => exact ⟨k + 1, _, by omega, by go_num, has2, by rw [HWR.out, World.drewN_drewN]⟩
        case measure => simp [intOf]; omega
      · obtain ⟨j, hj⟩ : ∃ j, k = j + 1 := ⟨k - 1, by omega⟩
        have hjl : j < V.length := by omega
        obtain ⟨b', off', cap', e1, hbB', hc'⟩ := ri_at hri hjl
        injection e1 with e1 e2 e3
        injection e1 with e1
        injection e1 with e1 e2 _
        subst e1 e2 e3
        have p3 : (0 : Int) ≤ (j : Int) := by omega
        have p4 : (j : Int) < (V.length : Int) := by omega
        have p5 : 0 < k := by omega
        have p6 : (k : Int) - 1 = (j : Int) := by omega
        by_cases hcmp : V[j] < V[k]
        · have has2 := Lib.hid (vp_more hvp.out hlt (by omega) (fun j' hj' _ => by
            obtain rfl : j' = j := by omega
            exact hcmp))
          have hge : ¬ V[k] ≤ V[j] := by omega
          have HJ := Lib.hid hj
          clear hx hri hj hk0 hcmp
          generalize V[k] = z at *
          generalize V[j] = y at *
          go_wp2
          go_quiet (first | (go_at_call 17; refine Calls.quiet_of_same (HI.out _)))
          go_wp2
          go_roundw
          case rel => exact ⟨k + 1, _, by omega, by go_num, has2, by rw [HWR.out, World.drewN_drewN]⟩
          case measure => simp [intOf]; omega
        · have HZ := Lib.hid (show ansOk V rows = false from ans_no (by
            subst hj
            exact vp_bad (by omega) hcmp))
          have hge : V[k] ≤ V[j] := by omega
          have HJ := Lib.hid hj
          clear hx hri hj hk0 hcmp
          generalize V[k] = z at *
          generalize V[j] = y at *
          go_wp2
          go_quiet (first | (go_at_call 17; refine Calls.quiet_of_same (HI.out _)))
          go_wp2
          go_ret
          exact ⟨ret_b HZ.out.symm, dnB HBW.out⟩
    · have ek : k = V.length := by omega
      subst ek
      rw [List.take_length] at hvp
      have HA := Lib.hid (ans_yes (R := rows) hvp.out)
      have HOK := Lib.hid (show (∀ r ∈ rows, rowOk r (V.length : Int) = true) → Asc rows → ansOk V rows = true from fun q1 q2 => by rw [HA.out]; exact decide_eq_true ⟨q1, q2⟩)
      have HNO1 := Lib.hid (show ∀ r ∈ rows, rowOk r (V.length : Int) = false → ansOk V rows = false from fun r hr h => by rw [HA.out]; exact decide_eq_false fun q => by have := q.1 r hr; rw [h] at this; exact absurd this (by decide))
      have HNO2 := Lib.hid (show ¬ Asc rows → ansOk V rows = false from fun h => by rw [HA.out]; exact decide_eq_false fun q => h q.2)
      clear HA hvp
      have HN := Lib.hid (rfl : (V.length : Int) = (V.length : Int))
      go_wp2_with fail
      generalize wr = w0 at *
      clear g0
      go_loopw [4] (fun i wr => ∃ k m : Nat, k ≤ rows.length ∧ i = .int .i64 k ∧ Hid (∀ r ∈ rows.take k, rowOk r (V.length : Int) = true) ∧ Hid (Asc (rows.take k)) ∧ wr = W.drewN m) (fun i _ => rows.length - (intOf i).toNat)
      case atStart => exact ⟨0, _, Nat.zero_le _, rfl, Lib.hid (fun x hx => by simp at hx), Lib.hid List.Pairwise.nil, HWR.out⟩
      case round =>
        obtain ⟨k, m, hk, rfl, hro, has, hwr⟩ := hrel
        have hbw : Below w.heap.size w wr := by rw [hwr]; exact dnB HB.out
        have d0 : wr.cell? ⟨w.heap.size, 0, none⟩ = some (.slice a1 V.length c1) := by rw [hwr]; exact HRW.out.c0
        have d1 : wr.cell? ⟨w.heap.size, 1, none⟩ = some (.slice a rows.length cap) := by rw [hwr]; exact HRW.out.c1
        have HWR := Lib.hid hwr
        have HBW := Lib.hid hbw
        clear hwr hbw
        by_cases hlt : k < rows.length
        · obtain ⟨b, off, cap', v, e1, hbB, hc, hv⟩ := rows_at (HR.out wr HBW.out) hlt
          injection e1 with e1 e2 e3
          subst e1 e3
          have p1 : (0 : Int) ≤ (k : Int) := by omega
          have p2 : (k : Int) < (rows.length : Int) := by omega
          have HROW := Lib.hid (show ∀ q, Calls Try.prog 18 #[v, .int .i64 (V.length : Int)] (wr.drewN q) fun e w' => e = .returned (.bool (rowOk rows[k] (V.length : Int))) ∧ w' = wr.drewN q from fun q => (spec_row v rows[k] (V.length : Int) _ (wr.drewN q) (row_ri (rd_drewN hv q)).1).mono fun _ _ h => ⟨h.1, h.2.symm⟩)
          by_cases hok : rowOk rows[k] (V.length : Int) = true
          case neg =>
            have hok : rowOk rows[k] (V.length : Int) = false := by simpa using hok
            rw [hok] at HROW
            have HZ := Lib.hid (HNO1.out _ (List.getElem_mem hlt) hok)
            clear hok hv
            go_wp2
            go_quiet (first | (go_at_call 18; refine Calls.quiet_of_same (HROW.out _)))
            go_wp2
            go_ret
            exact ⟨ret_b HZ.out.symm, HBW.out.trans ⟨rfl, rfl, rfl, Nat.le_refl _, fun _ _ => rfl⟩⟩
          rw [hok] at HROW
          have hro2 := Lib.hid (show ∀ r ∈ rows.take (k + 1), rowOk r (V.length : Int) = true by
            rw [List.take_succ_eq_append_getElem hlt]
            intro x hx'
            rcases List.mem_append.1 hx' with q | q
            · exact hro.out x q
            · rw [List.mem_singleton.1 q]; exact hok)
          clear hok
          by_cases hk0 : k = 0
          · have has2 := Lib.hid (asc_more has.out hlt (fun j hj => by omega))
            have q0 : ¬ 0 < k := by omega
            clear hv hk0
            go_wp2
            go_quiet (first | (go_at_call 18; refine Calls.quiet_of_same (HROW.out _)))
            go_wp2
            go_roundw
            case rel => exact ⟨k + 1, _, by omega, by go_num, hro2, has2, by rw [HWR.out, World.drewN_drewN]⟩
            case measure => simp [intOf]; omega
          · obtain ⟨j, hj⟩ : ∃ j, k = j + 1 := ⟨k - 1, by omega⟩
            have hjl : j < rows.length := by omega
            obtain ⟨b', off', cap', v', e1, hbB', hc', hv'⟩ := rows_at (HR.out wr HBW.out) hjl
            injection e1 with e1 e2 e3
            injection e1 with e1
            injection e1 with e1 e2 _
            subst e1 e2 e3
            have HC := Lib.hid (fun q => spec_cmp v' v (rows[j]'hjl) rows[k] _ _ (wr.drewN q) (row_ri (rd_drewN hv' q)).1 (row_ri (rd_drewN hv q)).1)
            have hbd := cmpR_bd (rows[j]'hjl) rows[k]
            have p3 : (0 : Int) ≤ (j : Int) := by omega
            have p4 : (j : Int) < (rows.length : Int) := by omega
            have p5 : 0 < k := by omega
            have p6 : (k : Int) - 1 = (j : Int) := by omega
            by_cases hcmp : cmpR (rows[j]'hjl) rows[k] < 0
            · have has2 := Lib.hid (asc_more has.out hlt (fun j' hj hj' => by
                obtain rfl : j' = j := by omega
                exact hcmp))
              have hge : ¬ (0 : Int) ≤ cmpR (rows[j]'hjl) rows[k] := by omega
              have HJ := Lib.hid hj
              clear hv hv' hj hk0 hcmp hbd
              generalize cmpR (rows[j]'hjl) rows[k] = z at *
              go_wp2
              go_quiet (first | (go_at_call 18; refine Calls.quiet_of_same (HROW.out _)) | (go_at_call 19; refine Calls.quiet_of (HC.out _)))
              go_wp2
              go_roundw
              case rel => exact ⟨k + 1, _, by omega, by go_num, hro2, has2, by rw [HWR.out, World.drewN_drewN]⟩
              case measure => simp [intOf]; omega
            · have HZ := Lib.hid (HNO2.out (by
                subst hj
                exact asc_bad (by omega) hcmp))
              have hge : (0 : Int) ≤ cmpR (rows[j]'hjl) rows[k] := by omega
              have HJ := Lib.hid hj
              clear hv hv' hj hk0 hcmp hbd
              generalize cmpR (rows[j]'hjl) rows[k] = z at *
              go_wp2
              go_quiet (first | (go_at_call 18; refine Calls.quiet_of_same (HROW.out _)) | (go_at_call 19; refine Calls.quiet_of (HC.out _)))
              go_wp2
              go_ret
              exact ⟨ret_b HZ.out.symm, HBW.out.trans ⟨rfl, rfl, rfl, Nat.le_refl _, fun _ _ => rfl⟩⟩
        · have ek : k = rows.length := by omega
          subst ek
          rw [List.take_length] at *
          have HZ := Lib.hid (HOK.out hro.out has.out)
          go_wp2
          go_ret
          exact ⟨ret_b HZ.out.symm, HBW.out⟩
set_option maxRecDepth 100000 in
set_option maxHeartbeats 1600000 in
theorem impl_asc (v : Value) (V : List Int) (B : Nat) (w : World) (hr : RI w v V B) :
    Calls Try.prog 22 #[v, .int .i64 4] w fun e w' => e = .returned (.bool (varsOk V)) ∧ w = w' := by
  have HR := Lib.hid hr
  obtain ⟨a, cap, rfl, hlm, _⟩ := hr
  go_enter Try.func22, Try.ntmps22
  go_wp2_with fail
  go_loop [9] (fun i => ∃ k : Nat, k ≤ V.length ∧ i = .int .i64 k ∧ Hid (VP (V.take k))) (fun i => V.length - (intOf i).toNat)
  case atStart => exact ⟨0, Nat.zero_le _, rfl, Lib.hid ⟨fun x hx => by simp at hx, by simp⟩⟩
  case round =>
    obtain ⟨k, hk, rfl, hvp⟩ := hrel
    by_cases hlt : k < V.length
    · obtain ⟨b, off, cap', e1, hbB, hc⟩ := ri_at HR.out hlt
      injection e1 with e1 e2 e3
      subst e1 e3
      have p1 : (0 : Int) ≤ (k : Int) := by omega
      have p2 : (k : Int) < (V.length : Int) := by omega
      by_cases hx0 : V[k] < 0
      · have HZ := Lib.hid (show varsOk V = false from decide_eq_false fun q => by have := q.1 _ (List.getElem_mem hlt); omega)
        generalize V[k] = z at *
        go_wp2_with fail
        go_ret
        exact ⟨ret_b HZ.out.symm, rfl⟩
      by_cases hx4 : 4 ≤ V[k]
      · have HZ := Lib.hid (show varsOk V = false from decide_eq_false fun q => by have := q.1 _ (List.getElem_mem hlt); omega)
        generalize V[k] = z at *
        go_wp2_with fail
        go_ret
        exact ⟨ret_b HZ.out.symm, rfl⟩
      by_cases hk0 : k = 0
      · have has2 := Lib.hid (vp_more hvp.out hlt (by omega) (fun j hj => by omega))
        have q0 : ¬ 0 < k := by omega
        clear hk0
        generalize V[k] = z at *
        go_wp2_with fail
        go_round
        case rel => exact ⟨k + 1, by omega, by go_num, has2⟩
        case measure => simp [intOf]; omega
      · obtain ⟨j, hj⟩ : ∃ j, k = j + 1 := ⟨k - 1, by omega⟩
        have hjl : j < V.length := by omega
        obtain ⟨b', off', cap', e1, hbB', hc'⟩ := ri_at HR.out hjl
        injection e1 with e1 e2 e3
        injection e1 with e1
        injection e1 with e1 e2 _
        subst e1 e2 e3
        have p3 : (0 : Int) ≤ (j : Int) := by omega
        have p4 : (j : Int) < (V.length : Int) := by omega
        have p5 : 0 < k := by omega
        have p6 : (k : Int) - 1 = (j : Int) := by omega
        by_cases hcmp : V[j] < V[k]
        · have has2 := Lib.hid (vp_more hvp.out hlt (by omega) (fun j' hj' _ => by
            obtain rfl : j' = j := by omega
            exact hcmp))
          have hge : ¬ V[k] ≤ V[j] := by omega
          have HJ := Lib.hid hj
          clear hj hk0 hcmp
          generalize V[k] = z at *
          generalize V[j] = y at *
          go_wp2_with fail
          go_round
          case rel => exact ⟨k + 1, by omega, by go_num, has2⟩
          case measure => simp [intOf]; omega
        · have HZ := Lib.hid (show varsOk V = false from decide_eq_false (by
            subst hj
            exact vp_bad (by omega) hcmp))
          have hge : V[k] ≤ V[j] := by omega
          have HJ := Lib.hid hj
          clear hj hk0 hcmp
          generalize V[k] = z at *
          generalize V[j] = y at *
          go_wp2_with fail
          go_ret
          exact ⟨ret_b HZ.out.symm, rfl⟩
    · have ek : k = V.length := by omega
      subst ek
      rw [List.take_length] at hvp
      have HZ := Lib.hid (show varsOk V = true from decide_eq_true hvp.out)
      go_wp2_with fail
      go_ret
      exact ⟨ret_b HZ.out.symm, rfl⟩
set_option maxRecDepth 100000 in
theorem impl_validans (v1 v2 : Value) (V : List Int) (R : List (List Int)) (S : Nat → Prop) (w : World) (hr : ansC.rd w S [v1, v2] (V, R)) :
    Calls Try.prog 9 #[.agg #[v1, v2]] w fun e w' => e = .returned (.bool (ansOk V R)) ∧ Below w.heap.size w w' := by
  obtain ⟨hr1, hr2⟩ := ans_reads hr
  have HA := Lib.hid (impl_asc v1 V _ _ (row_ri (Cd.later hr1 (below_alloc w (.cells #[v1, v2] 28 (0, 0))))).1)
  have HR := Lib.hid (are_rows (V.length : Int) v2 R S _ (Cd.later hr2 (below_alloc w (.cells #[v1, v2] 28 (0, 0)))))
  have HZ := Lib.hid (show (varsOk V && rowsOk R (V.length : Int)) = ansOk V R from rfl)
  obtain ⟨a1, c1, rfl, hl1⟩ := row_form hr1
  obtain ⟨a, cap, rfl, hlm⟩ := rows_form hr2
  clear hr hr1 hr2
  generalize rowsOk R (V.length : Int) = z at *
  generalize ansOk V R = ok at *
  cases hv : varsOk V
  · rw [hv] at HA HZ
    clear hv
    go_enter Try.func9, Try.ntmps9
    go_wp2_with (first | (go_at_call 22; refine HA.out.mono ?_; rintro e w1 ⟨rfl, rfl⟩) | (go_at_call 23; refine HR.out.mono ?_; rintro e w1 ⟨rfl, rfl⟩))
    go_ret
    exact ⟨ret_b HZ.out, below_alloc _ _⟩
  · rw [hv] at HA HZ
    clear hv
    go_enter Try.func9, Try.ntmps9
    go_wp2_with (first | (go_at_call 22; refine HA.out.mono ?_; rintro e w1 ⟨rfl, rfl⟩) | (go_at_call 23; refine HR.out.mono ?_; rintro e w1 ⟨rfl, rfl⟩))
    go_ret
    exact ⟨ret_b HZ.out, below_alloc _ _⟩
set_option maxRecDepth 100000 in
set_option maxHeartbeats 800000 in
theorem impl_equalans (u1 u2 v1 v2 : Value) (V1 V2 : List Int) (R1 R2 : List (List Int)) (S1 S2 : Nat → Prop) (w : World) (h1 : ansC.rd w S1 [u1, u2] (V1, R1)) (h2 : ansC.rd w S2 [v1, v2] (V2, R2)) :
    Calls Try.prog 12 #[.agg #[u1, u2], .agg #[v1, v2]] w fun e w' => e = .returned (.bool (sameA V1 V2 R1 R2)) ∧ Below w.heap.size w w' := by
  obtain ⟨g1, g2⟩ := ans_reads h1
  obtain ⟨k1, k2⟩ := ans_reads h2
  have HE := Lib.hid (fun w' (hb : Below w.heap.size w w') => slices_equal u1 v1 V1 V2 _ _ w' (row_ri (Cd.later g1 hb)).1 (row_ri (Cd.later k1 hb)).1)
  have HR := Lib.hid (fun w' (hb : Below w.heap.size w w') => equal_rows u2 v2 R1 R2 S1 S2 w' (Cd.later g2 hb) (Cd.later k2 hb))
  have HB := Lib.hid (below_then (below_alloc w (.cells #[u1, u2] 28 (0, 0))) (below_alloc _ (.cells #[v1, v2] 28 (0, 0))))
  have HL1 := Lib.hid (Atom.Loc2.of (row_older (row_alloc w (.cells #[u1, u2] 28 (0, 0))) (.cells #[v1, v2] 28 (0, 0))))
  have r00 := row_alloc (w.alloc (.cells #[u1, u2] 28 (0, 0))) (.cells #[v1, v2] 28 (0, 0))
  rw [size_alloc] at r00
  have HL2 := Lib.hid (Atom.Loc2.of r00)
  clear r00
  obtain ⟨a1, c1, a2, c2, rfl, rfl, _, _⟩ := ans_form h1
  obtain ⟨b1, d1, b2, d2, rfl, rfl, _, _⟩ := ans_form h2
  clear h1 h2 g1 g2 k1 k2
  have HZ := Lib.hid (show sameA V1 V2 R1 R2 = (decide (V1 = V2) && decide (R1 = R2)) by unfold sameA; exact Bool.decide_and ..)
  generalize decide (R1 = R2) = z at *
  generalize sameA V1 V2 R1 R2 = ok at *
  cases hv : decide (V1 = V2)
  · rw [hv] at HE HZ
    clear hv
    go_enter Try.func12, Try.ntmps12
    go_wp2_with (first | (go_at_call 26; refine (HE.out _ HB.out).mono ?_; rintro e w1 ⟨rfl, m1, rfl⟩))
    go_ret
    exact ⟨ret_b HZ.out.symm, dnB HB.out⟩
  · rw [hv] at HE HZ
    clear hv
    go_enter Try.func12, Try.ntmps12
    go_upto_region 1 with fail
    generalize (w.alloc _).alloc _ = W at *
    have y0 := HL1.out.c0
    have y1 := HL1.out.c1
    have y2 := HL2.out.c0
    have y3 := HL2.out.c1
    have HRN := Lib.hid (fun q => HR.out (W.drewN q) (dnB HB.out))
    go_wp2_with (first | (go_at_call 26; refine (HE.out _ HB.out).mono ?_; rintro e w1 ⟨rfl, m1, rfl⟩) | (go_at_call 27; refine (HRN.out m1).mono ?_; rintro e w2 ⟨rfl, m2, rfl⟩))
    go_ret
    exact ⟨ret_b (by rw [HZ.out]; rfl), by first | exact dnB HB.out | exact dnB (dnB HB.out)⟩
set_option maxRecDepth 100000 in
set_option maxHeartbeats 1600000 in
theorem spec_equalans (u1 u2 v1 v2 : Value) (V1 V2 : List Int) (r1 r2 : List (List Int)) (S1 S2 : Nat → Prop) (w : World) (h1 : ansC.rd w S1 [u1, u2] (V1, r1)) (h2 : ansC.rd w S2 [v1, v2] (V2, r2)) :
    Calls Try.prog 11 #[.agg #[u1, u2], .agg #[v1, v2]] w fun e w' => e = .returned (.bool (sameA V1 V2 r1 r2)) ∧ Below w.heap.size w w' := by
  obtain ⟨g1, g2⟩ := ans_reads h1
  obtain ⟨k1, k2⟩ := ans_reads h2
  have HR1 := Lib.hid (fun w' (hb : Below w.heap.size w w') => Cd.later g2 hb)
  have HR2 := Lib.hid (fun w' (hb : Below w.heap.size w w') => Cd.later k2 hb)
  have HE := Lib.hid (fun w' (hb : Below w.heap.size w w') => spec_cmp u1 v1 V1 V2 _ _ w' (row_ri (Cd.later g1 hb)).1 (row_ri (Cd.later k1 hb)).1)
  obtain ⟨a1, c1, b1, cap1, rfl, rfl, _, hl1⟩ := ans_form h1
  obtain ⟨a2, c2, b2, cap2, rfl, rfl, _, hl2⟩ := ans_form h2
  clear h1 h2 g1 g2 k1 k2
  go_enter Try.func11, Try.ntmps11
  go_upto_region 1 with fail
  generalize hW : (w.alloc _).alloc _ = W
  obtain ⟨r0, r00, hz, hb0⟩ := start2g w _ _ hW
  have HB := Lib.hid hb0
  have HL1 := Lib.hid (Atom.Loc2.of r0)
  have HL2 := Lib.hid (Atom.Loc2.of r00)
  clear hW r0 r00 hz hb0
  have y0 := HL1.out.c0
  have y1 := HL1.out.c1
  have y2 := HL2.out.c0
  have y3 := HL2.out.c1
  by_cases hv : cmpR V1 V2 = 0
  case neg =>
    have HZ := Lib.hid (show sameA V1 V2 r1 r2 = false from decide_eq_false fun q => hv (by rw [q.1]; exact cmpR_self _))
    have t1 : (cmpR V1 V2 != 0) = true := by rw [bne_iff_ne]; exact hv
    generalize cmpR V1 V2 = z at *
    clear hv
    go_wp2_with (first | (go_at_call 19; refine (HE.out _ HB.out).mono ?_; rintro e w1 ⟨rfl, m1, rfl⟩))
    go_ret
    exact ⟨ret_b HZ.out.symm, dnB HB.out⟩
  have hVV := cmpR_eq hv
  rw [hv] at HE
  by_cases hlen : r1.length = r2.length
  case neg =>
    have HZ := Lib.hid (show sameA V1 V2 r1 r2 = false from decide_eq_false fun q => hlen (by rw [q.2]))
    have t1 : ((r1.length : Int) != (r2.length : Int)) = true := by rw [bne_iff_ne]; omega
    clear hv hVV hlen
    go_wp2_with (first | (go_at_call 19; refine (HE.out _ HB.out).mono ?_; rintro e w1 ⟨rfl, m1, rfl⟩))
    go_ret
    exact ⟨ret_b HZ.out.symm, dnB HB.out⟩
  have t1 : ((r1.length : Int) != (r2.length : Int)) = false := by rw [bne_eq_false_iff_eq]; omega
  have HL := Lib.hid hlen
  have HVV := Lib.hid hVV
  clear hlen hv hVV
  go_wp2_with (first | (go_at_call 19; refine (HE.out _ HB.out).mono ?_; rintro e w1 ⟨rfl, m1, rfl⟩))
  clear y0 y1 y2 y3
  go_loopw [5] (fun i wr => ∃ k m : Nat, k ≤ r1.length ∧ i = .int .i64 k ∧ Hid (r1.take k = r2.take k) ∧ wr = W.drewN m) (fun i _ => r1.length - (intOf i).toNat)
  case atStart => exact ⟨0, m1, Nat.zero_le _, rfl, Lib.hid rfl, rfl⟩
  case round =>
    obtain ⟨k, m, hk, rfl, htk, hwr⟩ := hrel
    have HBW := Lib.hid (show Below w.heap.size w wr by rw [hwr]; exact dnB HB.out)
    have d1 : wr.cell? ⟨w.heap.size, 1, none⟩ = some (.slice b1 r1.length cap1) := by rw [hwr]; exact HL1.out.c1
    have d2 : wr.cell? ⟨w.heap.size + 1, 1, none⟩ = some (.slice b2 r2.length cap2) := by rw [hwr]; exact HL2.out.c1
    have HWR := Lib.hid hwr
    clear hwr
    by_cases hlt : k < r1.length
    · have hlt2 : k < r2.length := by have := HL.out; omega
      obtain ⟨b, off, cap', v, e1, hbB, hc, hv⟩ := rows_at (HR1.out wr HBW.out) hlt
      injection e1 with e1 e2 e3
      subst e1 e3
      obtain ⟨b', off', cap', v', e1, hbB', hc', hv'⟩ := rows_at (HR2.out wr HBW.out) hlt2
      injection e1 with e1 e2 e3
      subst e1 e3
      have p1 : (0 : Int) ≤ (k : Int) := by omega
      have p2 : (k : Int) < (r1.length : Int) := by omega
      have p3 : (k : Int) < (r2.length : Int) := by omega
      have HC := Lib.hid (fun q => spec_cmp v v' r1[k] r2[k] _ _ (wr.drewN q) (row_ri (rd_drewN hv q)).1 (row_ri (rd_drewN hv' q)).1)
      clear hv hv'
      by_cases hz : cmpR r1[k] r2[k] = 0
      · have htk2 := Lib.hid (show r1.take (k + 1) = r2.take (k + 1) by rw [List.take_succ_eq_append_getElem hlt, List.take_succ_eq_append_getElem hlt2, htk.out, cmpR_eq hz])
        rw [hz] at HC
        clear hz
        go_wp2
        go_quiet (first | (go_at_call 19; refine Calls.quiet_of (HC.out _)))
        go_wp2
        go_roundw
        case rel => exact ⟨k + 1, _, by omega, by go_num, htk2, by rw [HWR.out, World.drewN_drewN]⟩
        case measure => simp [intOf]; omega
      · have HZ := Lib.hid (show sameA V1 V2 r1 r2 = false from decide_eq_false fun q => hz (by
          have e : r1[k] = r2[k] := by simp only [q.2]
          rw [e]
          exact cmpR_self _))
        have tz : (cmpR r1[k] r2[k] != 0) = true := by rw [bne_iff_ne]; exact hz
        generalize cmpR r1[k] r2[k] = z at *
        go_wp2
        go_quiet (first | (go_at_call 19; refine Calls.quiet_of (HC.out _)))
        go_wp2
        go_ret
        exact ⟨ret_b HZ.out.symm, dnB HBW.out⟩
    · have ek : k = r1.length := by omega
      subst ek
      have HZ := Lib.hid (show sameA V1 V2 r1 r2 = true from decide_eq_true ⟨HVV.out, by
        have := htk.out
        rw [List.take_length, HL.out, List.take_length] at this
        exact this⟩)
      go_wp2
      go_ret
      exact ⟨ret_b HZ.out.symm, HBW.out⟩
end Go.Proofs.Ytdkhgeknjekkoaa.AnsValid
