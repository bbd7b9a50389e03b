/- Degree sequences: the model's columns and groups. -/
import Derived.Test.YtnoennmhifmolaaDegCol
import Derived.Test.YtnoennmhifmolaaExact
import Derived.BigQuiet
import Derived.Test.YtnoennmhifmolaaTabSpec2
import Derived.Test.YtnoennmhifmolaaTabPut
import Derived.Test.YtnoennmhifmolaaTabCopy
import Derived.Test.YtnoennmhifmolaaTabSel
namespace Go.Proofs.Ytnoennmhifmolaa.DegSpec
open Go Go.RowKit Byt Ints IntsLaw Cd Rows2 Tab TabSpec Exact DegMath

theorem dnB {B m : Nat} {w w' : World} (h : Below B w w') : Below B w (w'.drewN m) := ⟨h.os, h.tape, h.output, h.size, h.block⟩
theorem col_len {V : List Int} {n : Int} (h : ColP V n) (hn : n ≤ 3) : V.length ≤ 3 := by
  have hb : ∀ i (hi : i < V.length), (i : Int) ≤ V[i] := by
    intro i
    induction i with
    | zero => intro hi; exact (h.1 _ (List.getElem_mem hi)).1
    | succ i ih =>
      intro hi
      have h1 := ih (by omega)
      have h2 := List.pairwise_iff_getElem.1 h.2 i (i + 1) (by omega) hi (by omega)
      have h3 : V[i] < V[i + 1] := h2
      omega
  by_cases q : V.length ≤ 3
  · exact q
  · have h1 := hb 3 (by omega)
    have h2 := (h.1 _ (List.getElem_mem (show 3 < V.length by omega))).2
    omega
theorem gc_no1 {nm : ByteArray} {ar : Int} {rows : List (List Int)} {cols : List Int} (h : ¬ ColP cols (IntKind.i64.wrap (ar - 1) + 1)) : gcOk nm ar rows cols = false := by
  unfold gcOk
  cases ht : tabOk nm ar rows
  · rfl
  · have hT : TabP nm ar rows := of_decide_eq_true ht
    have e : IntKind.i64.wrap (ar - 1) + 1 = ar := by
      rw [IntKind.wrap_i64]
      have := hT.2.1
      have := hT.2.2.1
      omega
    rw [e] at h
    exact decide_eq_false h
theorem gc_yes {nm : ByteArray} {ar : Int} {rows : List (List Int)} {cols : List Int} (h : ColP cols (IntKind.i64.wrap (ar - 1) + 1)) : gcOk nm ar rows cols = tabOk nm ar rows := by
  unfold gcOk
  cases ht : tabOk nm ar rows
  · rfl
  · have hT : TabP nm ar rows := of_decide_eq_true ht
    have e : IntKind.i64.wrap (ar - 1) + 1 = ar := by
      rw [IntKind.wrap_i64]
      have := hT.2.1
      have := hT.2.2.1
      omega
    rw [e] at h
    exact decide_eq_true h

set_option maxRecDepth 100000 in
set_option maxHeartbeats 3200000 in
theorem spec_cols (nm : ByteArray) (ar : Int) (u v : Value) (rows : List (List Int)) (V : List Int) (S S2 : Nat → Prop) (w : World) (hr : rowsC.rd w S [u] rows) (hv : rowC.rd w S2 [v] V) :
    Calls Try.prog 58 #[.agg #[.string nm, .int .i64 ar, u], v] w fun e w' => e = .returned (.bool (gcOk nm ar rows V)) ∧ Below w.heap.size w w' := by
  have HV := Lib.hid (fun w' (hb : Below w.heap.size w w') => (row_ri (Cd.later hv hb)).1)
  have HR := Lib.hid (fun w' (hb : Below w.heap.size w w') => Cd.later hr hb)
  obtain ⟨a1, c1, rfl, hl1⟩ := (row_ri hv).1
  obtain ⟨a, cap, rfl, hlm⟩ := rows_form hr
  have HNO := Lib.hid (fun (h : ¬ ColP V (IntKind.i64.wrap (ar - 1) + 1)) => gc_no1 (nm := nm) (rows := rows) h)
  have HYES := Lib.hid (fun (h : ColP V (IntKind.i64.wrap (ar - 1) + 1)) => gc_yes (nm := nm) (rows := rows) h)
  clear hr hv
  generalize hL : IntKind.i64.wrap (ar - 1) = L at *
  go_enter Try.func58, Try.ntmps58
  go_wp2_with fail
  generalize hW : w.alloc _ = W
  obtain ⟨r0, _, hb0⟩ := start1 w _ hW
  clear hW
  have HB := Lib.hid hb0
  have HRW := Lib.hid (Loc3.of r0)
  clear r0 hb0
  go_loopw [5] (fun i wr => ∃ k m : Nat, k ≤ V.length ∧ i = .int .i64 k ∧ Hid (ColP (V.take k) (L + 1)) ∧ wr = W.drewN m) (fun i _ => V.length - (intOf i).toNat)
  case atStart => exact ⟨0, 0, Nat.zero_le _, rfl, Lib.hid ⟨fun x hx => by simp at hx, by simp⟩, rfl⟩
  case round =>
    obtain ⟨k, m, hk, rfl, hvp, hwr⟩ := hrel
    have HBW := Lib.hid (show Below w.heap.size w wr by rw [hwr]; exact dnB HB.out)
    have g1 : wr.cell? ⟨w.heap.size, 1, none⟩ = some (.int .i64 ar) := by rw [hwr]; exact HRW.out.c1
    have HG := Lib.hid (show Loc3 wr w.heap.size (.string nm) (.int .i64 ar) (.slice a rows.length cap) by rw [hwr]; exact ⟨HRW.out.c0, HRW.out.c1, HRW.out.c2, HRW.out.f0, HRW.out.f1, HRW.out.f2⟩)
    have HWR := Lib.hid hwr
    clear hwr
    by_cases hlt : k < V.length
    · have hri := HV.out wr HBW.out
      obtain ⟨b, off, cap', e1, hbB, hc⟩ := ri_at hri hlt
      injection e1 with e1 e2 e3
      subst e1 e3
      have p1 : (0 : Int) ≤ (k : Int) := by omega
      have p2 : (k : Int) < (V.length : Int) := by omega
      by_cases hx : 0 ≤ V[k] ∧ V[k] ≤ L
      case neg =>
        have HI := Lib.hid (show ∀ q, Calls Try.prog 59 #[.int .i64 V[k], .int .i64 0, .int .i64 L] (wr.drewN q) fun e w' => e = .returned (.bool false) ∧ w' = wr.drewN q from fun q => (Fixed.l1In_no hx (wr.drewN q)).mono fun _ _ h => ⟨h.1, h.2.symm⟩)
        have HZ := Lib.hid (show gcOk nm ar rows V = false from HNO.out fun q => by have := q.1 _ (List.getElem_mem hlt); omega)
        clear hx hri
        generalize V[k] = z at *
        go_wp2
        go_quiet (first | (go_at_call 59; refine Calls.quiet_of_same (HI.out _)))
        go_wp2
        go_ret
        exact ⟨ret_b HZ.out.symm, dnB HBW.out⟩
      have HI := Lib.hid (show ∀ q, Calls Try.prog 59 #[.int .i64 V[k], .int .i64 0, .int .i64 L] (wr.drewN q) fun e w' => e = .returned (.bool true) ∧ w' = wr.drewN q from fun q => (Fixed.l1In_yes hx.1 hx.2 (wr.drewN q)).mono fun _ _ h => ⟨h.1, h.2.symm⟩)
      by_cases hk0 : k = 0
      · have has2 := Lib.hid (col_more hvp.out hlt (by omega) (fun j hj => by omega))
        have q0 : ¬ 0 < k := by omega
        clear hx hri hk0
        generalize V[k] = z at *
        go_wp2
        go_quiet (first | (go_at_call 59; refine Calls.quiet_of_same (HI.out _)))
        go_wp2
        go_roundw
        case rel => exact ⟨k + 1, _, by omega, by go_num, has2, by rw [HWR.out, World.drewN_drewN]⟩
        case measure => simp [intOf]; omega
      · obtain ⟨j, hj⟩ : ∃ j, k = j + 1 := ⟨k - 1, by omega⟩
        have hjl : j < V.length := by omega
        obtain ⟨b', off', cap', e1, hbB', hc'⟩ := ri_at hri hjl
        injection e1 with e1 e2 e3
        injection e1 with e1
        injection e1 with e1 e2 _
        subst e1 e2 e3
        have p3 : (0 : Int) ≤ (j : Int) := by omega
        have p4 : (j : Int) < (V.length : Int) := by omega
        have p5 : 0 < k := by omega
        have p6 : (k : Int) - 1 = (j : Int) := by omega
        by_cases hcmp : V[j] < V[k]
        · have has2 := Lib.hid (col_more hvp.out hlt (by omega) (fun j' hj' _ => by
            obtain rfl : j' = j := by omega
            exact hcmp))
          have hge : ¬ V[k] ≤ V[j] := by omega
          have HJ := Lib.hid hj
          clear hx hri hj hk0 hcmp
          generalize V[k] = z at *
          generalize V[j] = y at *
          go_wp2
          go_quiet (first | (go_at_call 59; refine Calls.quiet_of_same (HI.out _)))
          go_wp2
          go_roundw
          case rel => exact ⟨k + 1, _, by omega, by go_num, has2, by rw [HWR.out, World.drewN_drewN]⟩
          case measure => simp [intOf]; omega
        · have HZ := Lib.hid (show gcOk nm ar rows V = false from HNO.out (by
            subst hj
            exact col_bad (by omega) hcmp))
          have hge : V[k] ≤ V[j] := by omega
          have HJ := Lib.hid hj
          clear hx hri hj hk0 hcmp
          generalize V[k] = z at *
          generalize V[j] = y at *
          go_wp2
          go_quiet (first | (go_at_call 59; refine Calls.quiet_of_same (HI.out _)))
          go_wp2
          go_ret
          exact ⟨ret_b HZ.out.symm, dnB HBW.out⟩
    · have ek : k = V.length := by omega
      subst ek
      rw [List.take_length] at hvp
      have HZ := Lib.hid (HYES.out hvp.out)
      have HC := Lib.hid (spec_valid nm ar _ rows S wr (HR.out wr HBW.out))
      obtain ⟨d0, d1, d2, _, _, _⟩ := HG.out
      generalize tabOk nm ar rows = tb at *
      clear g1
      go_wp2_with fail
      refine HC.out.mono ?_
      rintro e w1 ⟨rfl, hb1⟩
      have HB1 := Lib.hid (below_then HBW.out hb1)
      clear hb1
      go_wp2_with fail
      go_ret
      exact ⟨ret_b HZ.out.symm, HB1.out⟩
end Go.Proofs.Ytnoennmhifmolaa.DegSpec
