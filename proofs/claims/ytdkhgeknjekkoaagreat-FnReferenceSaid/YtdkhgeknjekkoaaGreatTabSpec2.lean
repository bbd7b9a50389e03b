/- Tables: the model's functions that look for a row and that compare tables. -/
import Derived.Test.YtdkhgeknjekkoaaGreatTabSpec
namespace Go.Proofs.YtdkhgeknjekkoaaGreat.TabSpec
open Go Go.RowKit Byt Ints IntsLaw Cd Rows2 Tab

theorem str_ne {a b : ByteArray} (h : a ≠ b) : (a.toList == b.toList) = false := by
  rw [ByteArray.toList_eq, ByteArray.toList_eq, beq_eq_false_iff_ne]
  intro q
  cases a
  cases b
  exact h (congrArg ByteArray.mk (Array.toList_inj.1 q))

/-- Is the table valid and the row in it? -/
def hasR (nm : ByteArray) (ar : Int) (rows : List (List Int)) (row : List Int) : Bool := decide (TabP nm ar rows ∧ row ∈ rows)
theorem hasR_yes {nm : ByteArray} {ar : Int} {rows : List (List Int)} {row : List Int} (h : tabOk nm ar rows = true) (hr : row ∈ rows) : hasR nm ar rows row = true := decide_eq_true ⟨of_decide_eq_true h, hr⟩
theorem hasR_no1 {nm : ByteArray} {ar : Int} {rows : List (List Int)} {row : List Int} (h : tabOk nm ar rows = false) : hasR nm ar rows row = false := decide_eq_false fun q => of_decide_eq_false h q.1
theorem hasR_no2 {nm : ByteArray} {ar : Int} {rows : List (List Int)} {row : List Int} (hr : row ∉ rows) : hasR nm ar rows row = false := decide_eq_false fun q => hr q.2

set_option maxRecDepth 100000 in
set_option maxHeartbeats 1600000 in
theorem spec_contains (nm : ByteArray) (ar : Int) (u v : Value) (rows : List (List Int)) (row : List Int) (S S2 : Nat → Prop) (w : World) (hr : rowsC.rd w S [u] rows) (hv : rowC.rd w S2 [v] row) :
    Calls Tryz.prog 20 #[.agg #[.string nm, .int .i64 ar, u], v] w fun e w' => e = .returned (.bool (hasR nm ar rows row)) ∧ Below w.heap.size w w' := by
  have HR := Lib.hid (fun w' (hb : Below w.heap.size w w') => Cd.later hr hb)
  have HV := Lib.hid (fun w' (hb : Below w.heap.size w w') => Cd.later hv hb)
  obtain ⟨a, cap, rfl, hlm⟩ := rows_form hr
  clear hr hv
  go_enter Tryz.func20, Tryz.ntmps20
  go_wp2_with fail
  generalize hW : w.alloc _ = W
  obtain ⟨r0, _, hb0⟩ := start1 w _ hW
  clear hW
  have HB := Lib.hid hb0
  have HRW := Lib.hid r0
  clear r0 hb0
  go_loopw [5] (fun i wr => ∃ k : Nat, k ≤ rows.length ∧ i = .int .i64 k ∧ Hid (row ∉ rows.take k) ∧ Below W.heap.size W wr) (fun i _ => rows.length - (intOf i).toNat)
  case atStart => exact ⟨0, Nat.zero_le _, rfl, Lib.hid (by simp), Below.refl _ _⟩
  case round =>
    obtain ⟨k, hk, rfl, hno, hbw⟩ := hrel
    have HBW := Lib.hid (below_then HB.out hbw)
    obtain ⟨d0, d1, d2, _, _, _⟩ := row3 (row_later HRW.out hbw)
    have HBW0 := Lib.hid hbw
    clear hbw
    by_cases hlt : k < rows.length
    · have p2 : (k : Int) < (rows.length : Int) := by omega
      have HV1 := Lib.hid (spec_valid nm ar _ rows S wr (HR.out wr HBW.out))
      by_cases hok : tabOk nm ar rows = true
      case neg =>
        have hok : tabOk nm ar rows = false := by simpa using hok
        rw [hok] at HV1
        have HZ := Lib.hid (hasR_no1 (row := row) hok)
        clear hok
        go_wp2_with fail
        refine HV1.out.mono ?_
        rintro e w1 ⟨rfl, hb1⟩
        have HB1 := Lib.hid (below_then HBW.out hb1)
        clear hb1
        go_wp2_with fail
        go_ret
        exact ⟨ret_b HZ.out.symm, HB1.out⟩
      rw [hok] at HV1
      obtain ⟨b, off, cap', v', e1, hbB, hc, hv'⟩ := rows_at (HR.out wr HBW.out) hlt
      injection e1 with e1 e2 e3
      subst e1 e3
      have HOK := Lib.hid hok
      have HV' := Lib.hid hv'
      clear hok hv' hc
      go_wp2_with fail
      refine HV1.out.mono ?_
      rintro e w1 ⟨rfl, hb1⟩
      have HB1 := Lib.hid (below_then HBW.out hb1)
      have HB10 := Lib.hid (below_then HBW0.out hb1)
      obtain ⟨d0, d1, d2, _, _, _⟩ := row3 (row_later HRW.out HB10.out)
      obtain ⟨b', off', cap', v2, e1, hbB', hc, hv2⟩ := rows_at (HR.out w1 HB1.out) hlt
      injection e1 with e1 e2 e3
      injection e1 with e1
      injection e1 with e1 e2 _
      subst e1 e2 e3
      have HC := Lib.hid (spec_cmp v2 v rows[k] row _ _ w1 (row_ri hv2).1 (row_ri (HV.out w1 HB1.out)).1)
      have hbd := cmpR_bd rows[k] row
      clear hb1 hv2
      by_cases hz : cmpR rows[k] row = 0
      · rw [hz] at HC
        have HZ := Lib.hid (hasR_yes HOK.out (show row ∈ rows by rw [← cmpR_eq hz]; exact List.getElem_mem hlt))
        clear hz hbd
        go_wp2_with fail
        refine HC.out.mono ?_
        rintro e w2 ⟨rfl, hq⟩
        have HB2 := Lib.hid (below_then HB1.out (below_q hq))
        clear hq
        go_wp2_with fail
        go_ret
        exact ⟨ret_b HZ.out.symm, HB2.out⟩
      · have hno2 := Lib.hid (show row ∉ rows.take (k + 1) by
          rw [List.take_succ_eq_append_getElem hlt]
          intro q
          rcases List.mem_append.1 q with q | q
          · exact hno.out q
          · exact hz (by rw [← List.mem_singleton.1 q]; exact cmpR_self _))
        generalize cmpR rows[k] row = z at *
        go_wp2_with fail
        refine HC.out.mono ?_
        rintro e w2 ⟨rfl, hq⟩
        have HB2 := Lib.hid (below_then HB10.out (below_q hq))
        clear hq
        go_wp2_with fail
        go_roundw
        case rel => exact ⟨k + 1, by omega, by go_num, hno2, HB2.out⟩
        case measure => simp [intOf]; omega
    · have ek : k = rows.length := by omega
      subst ek
      rw [List.take_length] at *
      have HZ := Lib.hid (hasR_no2 (nm := nm) (ar := ar) hno.out)
      go_wp2_with fail
      go_ret
      exact ⟨ret_b HZ.out.symm, HBW.out⟩

/-- Are they one table? -/
def sameT (n1 n2 : ByteArray) (a1 a2 : Int) (r1 r2 : List (List Int)) : Bool := decide (n1 = n2 ∧ a1 = a2 ∧ r1 = r2)
end Go.Proofs.YtdkhgeknjekkoaaGreat.TabSpec
