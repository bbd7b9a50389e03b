/- Tables: the model's functions that look for a row and that compare tables. -/
import Derived.Test.YteihnbnlfocgmaaGreatDoorTabSpec
namespace Go.Proofs.YteihnbnlfocgmaaGreatDoor.TabSpec
open Go Go.RowKit Byt Ints IntsLaw Cd Rows2 Tab

theorem str_ne {a b : ByteArray} (h : a ≠ b) : (a.toList == b.toList) = false := by
  rw [ByteArray.toList_eq, ByteArray.toList_eq, beq_eq_false_iff_ne]
  intro q
  cases a
  cases b
  exact h (congrArg ByteArray.mk (Array.toList_inj.1 q))

/-- Is the table valid and the row in it? -/
def hasR (nm : ByteArray) (ar : Int) (rows : List (List Int)) (row : List Int) : Bool := decide (TabP nm ar rows ∧ row ∈ rows)
theorem hasR_yes {nm : ByteArray} {ar : Int} {rows : List (List Int)} {row : List Int} (h : tabOk nm ar rows = true) (hr : row ∈ rows) : hasR nm ar rows row = true := decide_eq_true ⟨of_decide_eq_true h, hr⟩
theorem hasR_no1 {nm : ByteArray} {ar : Int} {rows : List (List Int)} {row : List Int} (h : tabOk nm ar rows = false) : hasR nm ar rows row = false := decide_eq_false fun q => of_decide_eq_false h q.1
theorem hasR_no2 {nm : ByteArray} {ar : Int} {rows : List (List Int)} {row : List Int} (hr : row ∉ rows) : hasR nm ar rows row = false := decide_eq_false fun q => hr q.2


/-- Are they one table? -/
def sameT (n1 n2 : ByteArray) (a1 a2 : Int) (r1 r2 : List (List Int)) : Bool := decide (n1 = n2 ∧ a1 = a2 ∧ r1 = r2)
set_option maxRecDepth 100000 in
set_option maxHeartbeats 1600000 in
theorem spec_equal (n1 n2 : ByteArray) (a1 a2 : Int) (u1 u2 : Value) (r1 r2 : List (List Int)) (S1 S2 : Nat → Prop) (w : World) (h1 : rowsC.rd w S1 [u1] r1) (h2 : rowsC.rd w S2 [u2] r2) :
    Calls Tryz.prog 37 #[.agg #[.string n1, .int .i64 a1, u1], .agg #[.string n2, .int .i64 a2, u2]] w fun e w' => e = .returned (.bool (sameT n1 n2 a1 a2 r1 r2)) ∧ Below w.heap.size w w' := by
  have HR1 := Lib.hid (fun w' (hb : Below w.heap.size w w') => Cd.later h1 hb)
  have HR2 := Lib.hid (fun w' (hb : Below w.heap.size w w') => Cd.later h2 hb)
  obtain ⟨b1, cap1, rfl, hl1⟩ := rows_form h1
  obtain ⟨b2, cap2, rfl, hl2⟩ := rows_form h2
  have hb0 := below_then (below_alloc w (.cells #[.string n1, .int .i64 a1, .slice b1 r1.length cap1] 29 (0, 0))) (below_alloc _ (.cells #[.string n2, .int .i64 a2, .slice b2 r2.length cap2] 29 (0, 0)))
  have HB := Lib.hid hb0
  clear h1 h2 hb0
  by_cases hn : n1 = n2
  case neg =>
    have HZ := Lib.hid (show sameT n1 n2 a1 a2 r1 r2 = false from decide_eq_false fun q => hn q.1)
    have t1 := str_ne hn
    clear hn
    go_enter Tryz.func37, Tryz.ntmps37
    go_wp2_with fail
    go_ret
    exact ⟨ret_b HZ.out.symm, HB.out⟩
  subst hn
  by_cases ha : a1 = a2
  case neg =>
    have HZ := Lib.hid (show sameT n1 n1 a1 a2 r1 r2 = false from decide_eq_false fun q => ha q.2.1)
    have t1 : (a1 != a2) = true := by rw [bne_iff_ne]; exact ha
    clear ha
    go_enter Tryz.func37, Tryz.ntmps37
    go_wp2_with fail
    go_ret
    exact ⟨ret_b HZ.out.symm, HB.out⟩
  subst ha
  by_cases hlen : r1.length = r2.length
  case neg =>
    have HZ := Lib.hid (show sameT n1 n1 a1 a1 r1 r2 = false from decide_eq_false fun q => hlen (by rw [q.2.2]))
    have t1 : ((r1.length : Int) != (r2.length : Int)) = true := by rw [bne_iff_ne]; omega
    go_enter Tryz.func37, Tryz.ntmps37
    go_wp2_with fail
    go_ret
    exact ⟨ret_b HZ.out.symm, HB.out⟩
  have t1 : ((r1.length : Int) != (r2.length : Int)) = false := by rw [bne_eq_false_iff_eq]; omega
  have HL := Lib.hid hlen
  clear hlen
  go_enter Tryz.func37, Tryz.ntmps37
  go_wp2_with fail
  generalize hW : (w.alloc _).alloc _ = W
  have r0 := row_older (row_alloc w (.cells #[.string n1, .int .i64 a1, .slice b1 r1.length cap1] 29 (0, 0))) (.cells #[.string n1, .int .i64 a1, .slice b2 r2.length cap2] 29 (0, 0))
  have r00 := row_alloc (w.alloc (.cells #[.string n1, .int .i64 a1, .slice b1 r1.length cap1] 29 (0, 0))) (.cells #[.string n1, .int .i64 a1, .slice b2 r2.length cap2] 29 (0, 0))
  rw [size_alloc] at r00
  rw [hW] at HB r0 r00
  have HRW := Lib.hid r0
  have HRW2 := Lib.hid r00
  clear hW r0 r00
  go_loopw [5] (fun i wr => ∃ k m : Nat, k ≤ r1.length ∧ i = .int .i64 k ∧ Hid (r1.take k = r2.take k) ∧ wr = W.drewN m) (fun i _ => r1.length - (intOf i).toNat)
  case atStart => exact ⟨0, 0, Nat.zero_le _, rfl, Lib.hid rfl, rfl⟩
  case round =>
    obtain ⟨k, m, hk, rfl, htk, hwr⟩ := hrel
    have hbw : Below w.heap.size w wr := by rw [hwr]; exact ⟨HB.out.os, HB.out.tape, HB.out.output, HB.out.size, HB.out.block⟩
    obtain ⟨d0, d1, d2, _, _, _⟩ := row3 (show wr.heap[w.heap.size]? = _ by rw [hwr]; exact HRW.out)
    obtain ⟨c0, c1, c2, _, _, _⟩ := row3 (show wr.heap[w.heap.size + 1]? = _ by rw [hwr]; exact HRW2.out)
    have HWR := Lib.hid hwr
    have HBW := Lib.hid hbw
    clear hwr hbw
    by_cases hlt : k < r1.length
    · have hlt2 : k < r2.length := by have := HL.out; omega
      obtain ⟨b, off, cap', v, e1, hbB, hc, hv⟩ := rows_at (HR1.out wr HBW.out) hlt
      injection e1 with e1 e2 e3
      subst e1 e3
      obtain ⟨b', off', cap', v', e1, hbB', hc', hv'⟩ := rows_at (HR2.out wr HBW.out) hlt2
      injection e1 with e1 e2 e3
      subst e1 e3
      have p1 : (0 : Int) ≤ (k : Int) := by omega
      have p2 : (k : Int) < (r1.length : Int) := by omega
      have p3 : (k : Int) < (r2.length : Int) := by omega
      have HC := Lib.hid (fun q => spec_cmp v v' r1[k] r2[k] _ _ (wr.drewN q) (row_ri (rd_drewN hv q)).1 (row_ri (rd_drewN hv' q)).1)
      clear hv hv'
      by_cases hz : cmpR r1[k] r2[k] = 0
      · have htk2 := Lib.hid (show r1.take (k + 1) = r2.take (k + 1) by rw [List.take_succ_eq_append_getElem hlt, List.take_succ_eq_append_getElem hlt2, htk.out, cmpR_eq hz])
        rw [hz] at HC
        clear hz
        go_wp2
        go_quiet (first | (go_at_call 59; refine Calls.quiet_of (HC.out _)))
        go_wp2
        go_roundw
        case rel => exact ⟨k + 1, _, by omega, by go_num, htk2, by rw [HWR.out, World.drewN_drewN]⟩
        case measure => simp [intOf]; omega
      · have HZ := Lib.hid (show sameT n1 n1 a1 a1 r1 r2 = false from decide_eq_false fun q => hz (by
          have e : r1[k] = r2[k] := by simp only [q.2.2]
          rw [e]
          exact cmpR_self _))
        have tz : (cmpR r1[k] r2[k] != 0) = true := by rw [bne_iff_ne]; exact hz
        generalize cmpR r1[k] r2[k] = z at *
        go_wp2
        go_quiet (first | (go_at_call 59; refine Calls.quiet_of (HC.out _)))
        go_wp2
        go_ret
        exact ⟨ret_b HZ.out.symm, HBW.out.trans ⟨rfl, rfl, rfl, Nat.le_refl _, fun _ _ => rfl⟩⟩
    · have ek : k = r1.length := by omega
      subst ek
      have HZ := Lib.hid (show sameT n1 n1 a1 a1 r1 r2 = true from decide_eq_true ⟨rfl, rfl, by
        have := htk.out
        rw [List.take_length, HL.out, List.take_length] at this
        exact this⟩)
      go_wp2
      go_ret
      exact ⟨ret_b HZ.out.symm, HBW.out⟩
end Go.Proofs.YteihnbnlfocgmaaGreatDoor.TabSpec
