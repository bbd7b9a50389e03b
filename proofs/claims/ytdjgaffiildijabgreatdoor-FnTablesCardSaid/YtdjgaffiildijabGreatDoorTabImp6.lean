/- Tables: where a row lies: the program's functions. -/
import Derived.Test.YtdjgaffiildijabGreatDoorTabImp2
import Derived.Test.YtdjgaffiildijabGreatDoorTabDel
import Derived.Test.YtdjgaffiildijabGreatDoorExact
namespace Go.Proofs.YtdjgaffiildijabGreatDoor.TabImp
open Go Go.RowKit Byt Ints IntsLaw Cd Rows2 Tab TabSpec Exact

/-- How many rows lie before row. -/
def FindP (rows : List (List Int)) (row : List Int) (i : Nat) : Prop :=
  i ≤ rows.length ∧ (∀ t, (h : t < rows.length) → t < i → cmpR rows[t] row < 0) ∧ (∀ t, (h : t < rows.length) → i ≤ t → 0 ≤ cmpR rows[t] row)
theorem asc_lt {rows : List (List Int)} (h : Asc rows) {s t : Nat} (hs : s < t) (ht : t < rows.length) : cmpR rows[s] rows[t] < 0 := List.pairwise_iff_getElem.1 h s t (by omega) ht hs
theorem find_mem {rows : List (List Int)} {row : List Int} {i : Nat} (ha : Asc rows) (h : FindP rows row i) : row ∈ rows ↔ ∃ h : i < rows.length, rows[i] = row := by
  constructor
  · intro hm
    obtain ⟨t, ht, rfl⟩ := List.getElem_of_mem hm
    by_cases e : t = i
    · subst e; exact ⟨ht, rfl⟩
    · by_cases hlt : t < i
      · have := h.2.1 t ht hlt
        rw [cmpR_self] at this
        omega
      · have h1 := asc_lt ha (show i < t by omega) ht
        have h2 := h.2.2 i (by omega) (Nat.le_refl _)
        omega
  · rintro ⟨hi, rfl⟩
    exact List.getElem_mem hi
theorem asc_before {rows : List (List Int)} {row : List Int} (ha : Asc rows) {s t : Nat} (hst : s ≤ t) (ht : t < rows.length) (h : cmpR rows[t] row < 0) : cmpR rows[s] row < 0 := by
  by_cases e : s = t
  · subst e; exact h
  · exact cmpR_trans (asc_lt ha (by omega) ht) h

def SearchAns (rows : List (List Int)) (row : List Int) (w : World) (e : Ending) (w' : World) : Prop :=
  ∃ i : Nat, e = .returned (.tuple #[.int .i64 i, .bool (decide (row ∈ rows))]) ∧ FindP rows row i ∧ w = w'

set_option maxRecDepth 100000 in
set_option maxHeartbeats 1600000 in
theorem search (u v : Value) (rows : List (List Int)) (row : List Int) (S S2 : Nat → Prop) (w : World) (hr : rowsC.rd w S [u] rows) (hv : rowC.rd w S2 [v] row) (ha : Asc rows) (hl : rows.length ≤ 8) :
    Calls Tryz.prog 102 #[u, v, .func (.func 67) #[] #[]] w fun e w' => SearchAns rows row w e w' := by
  have HR := Lib.hid hr
  have HV := Lib.hid (row_ri hv).1
  have HA := Lib.hid ha
  obtain ⟨a, cap, rfl, hlm⟩ := rows_form hr
  clear hr hv ha
  go_enter Tryz.func102, Tryz.ntmps102
  go_wp2
  go_loop [9, 10] (fun s9 s10 => ∃ lo hi : Nat, s9 = .int .i64 lo ∧ s10 = .int .i64 hi ∧ lo ≤ hi ∧ hi ≤ rows.length ∧ Hid ((∀ t, (h : t < rows.length) → t < lo → cmpR rows[t] row < 0) ∧ (∀ t, (h : t < rows.length) → hi ≤ t → 0 ≤ cmpR rows[t] row))) (fun s9 s10 => (intOf s10).toNat - (intOf s9).toNat)
  case atStart => exact ⟨0, rows.length, rfl, rfl, Nat.zero_le _, Nat.le_refl _, Lib.hid ⟨fun t h1 h2 => by omega, fun t h1 h2 => by omega⟩⟩
  case round =>
    obtain ⟨lo, hi, rfl, rfl, hlh, hin, I⟩ := hrel
    by_cases hlt : lo < hi
    · have hm : (lo + hi) / 2 < rows.length := by omega
      obtain ⟨b, off, cap', x, e1, hbB, hc, hx⟩ := rows_at HR.out hm
      injection e1 with e1 e2 e3
      subst e1 e3
      have HC := Lib.hid (impl_cmp x v rows[(lo + hi) / 2] row _ _ w (row_ri hx).1 HV.out)
      have q1 : ((lo : Int) + (hi : Int)) / 2 = (((lo + hi) / 2 : Nat) : Int) := by omega
      have q2 : (0 : Int) ≤ (((lo + hi) / 2 : Nat) : Int) := by omega
      have q3 : (((lo + hi) / 2 : Nat) : Int) < (rows.length : Int) := by omega
      have hbd := cmpR_bd rows[(lo + hi) / 2] row
      by_cases hyx : cmpR rows[(lo + hi) / 2] row < 0
      · have I2 := Lib.hid (show (∀ t, (h : t < rows.length) → t < (lo + hi) / 2 + 1 → cmpR rows[t] row < 0) ∧ (∀ t, (h : t < rows.length) → hi ≤ t → 0 ≤ cmpR rows[t] row) from ⟨fun t h1 h2 => asc_before HA.out (by omega) hm hyx, I.out.2⟩)
        have hsz : (lo + hi) / 2 + 1 ≤ hi := by omega
        have HM := Lib.hid (show hi - ((lo + hi) / 2 + 1) < hi - lo by omega)
        clear hx
        generalize cmpR rows[(lo + hi) / 2] row = z at *
        generalize hh : (lo + hi) / 2 = h at *
        clear hh
        go_wp2_with (go_at_call 67; refine HC.out.mono ?_; rintro e w1 ⟨rfl, rfl⟩)
        go_round
        case rel => exact ⟨h + 1, hi, by go_num, rfl, hsz, hin, I2⟩
        case measure => simp [intOf]; have := HM.out; omega
      · have hge : (0 : Int) ≤ cmpR rows[(lo + hi) / 2] row := by omega
        have I2 := Lib.hid (show (∀ t, (h : t < rows.length) → t < lo → cmpR rows[t] row < 0) ∧ (∀ t, (h : t < rows.length) → (lo + hi) / 2 ≤ t → 0 ≤ cmpR rows[t] row) from ⟨I.out.1, fun t h1 h2 => Int.not_lt.1 fun q => hyx (asc_before HA.out h2 h1 q)⟩)
        have hsz : lo ≤ (lo + hi) / 2 := by omega
        have hsz2 : (lo + hi) / 2 ≤ rows.length := by omega
        have HM := Lib.hid (show (lo + hi) / 2 - lo < hi - lo by omega)
        clear hx hyx
        generalize cmpR rows[(lo + hi) / 2] row = z at *
        generalize hh : (lo + hi) / 2 = h at *
        clear hh
        go_wp2_with (go_at_call 67; refine HC.out.mono ?_; rintro e w1 ⟨rfl, rfl⟩)
        go_round
        case rel => exact ⟨lo, h, rfl, by go_num, hsz, hsz2, I2⟩
        case measure => simp [intOf]; have := HM.out; omega
    · obtain rfl : hi = lo := by omega
      have HF := Lib.hid (show FindP rows row hi from ⟨hin, I.out.1, I.out.2⟩)
      by_cases hn : hi < rows.length
      · obtain ⟨b, off, cap', x, e1, hbB, hc, hx⟩ := rows_at HR.out hn
        injection e1 with e1 e2 e3
        subst e1 e3
        have HC := Lib.hid (impl_cmp x v rows[hi] row _ _ w (row_ri hx).1 HV.out)
        have q3 : (hi : Int) < (rows.length : Int) := by omega
        by_cases hz : cmpR rows[hi] row = 0
        · have HZ := Lib.hid (show decide (row ∈ rows) = true from decide_eq_true ((find_mem HA.out HF.out).2 ⟨hn, cmpR_eq hz⟩))
          rw [hz] at HC
          clear hx hz
          go_wp2_with (go_at_call 67; refine HC.out.mono ?_; rintro e w1 ⟨rfl, rfl⟩)
          go_ret2
          exact ⟨hi, by rw [HZ.out]; rfl, HF.out, rfl⟩
        · have HZ := Lib.hid (show decide (row ∈ rows) = false from decide_eq_false fun q => by
            obtain ⟨h1, h2⟩ := (find_mem HA.out HF.out).1 q
            exact hz (by rw [h2]; exact cmpR_self _))
          have tz : (cmpR rows[hi] row == 0) = false := by rw [beq_eq_false_iff_ne]; exact hz
          clear hx hz
          generalize cmpR rows[hi] row = z at *
          go_wp2_with (go_at_call 67; refine HC.out.mono ?_; rintro e w1 ⟨rfl, rfl⟩)
          go_ret2
          exact ⟨hi, by rw [HZ.out]; rfl, HF.out, rfl⟩
      · have HZ := Lib.hid (show decide (row ∈ rows) = false from decide_eq_false fun q => by
          obtain ⟨h1, h2⟩ := (find_mem HA.out HF.out).1 q
          exact hn h1)
        go_wp2
        go_ret2
        exact ⟨hi, by rw [HZ.out]; rfl, HF.out, rfl⟩

def FindAns (nm : ByteArray) (ar : Int) (rows : List (List Int)) (row : List Int) (w : World) (e : Ending) (w' : World) : Prop :=
  ∃ i : Nat, e = .returned (.tuple #[.int .i64 i, .bool (hasR nm ar rows row)]) ∧ (tabOk nm ar rows = true → FindP rows row i) ∧ i ≤ rows.length ∧ Below w.heap.size w w'

set_option maxRecDepth 100000 in
set_option maxHeartbeats 1600000 in
theorem find_row (nm : ByteArray) (ar : Int) (u v : Value) (rows : List (List Int)) (row : List Int) (S S2 : Nat → Prop) (w : World) (hr : rowsC.rd w S [u] rows) (hv : rowC.rd w S2 [v] row) :
    Calls Tryz.prog 47 #[.agg #[.string nm, .int .i64 ar, u], v] w fun e w' => FindAns nm ar rows row w e w' := by
  have HR := Lib.hid (fun w' (hb : Below w.heap.size w w') => Cd.later hr hb)
  have HV := Lib.hid (fun w' (hb : Below w.heap.size w w') => Cd.later hv hb)
  obtain ⟨a, cap, rfl, hlm⟩ := rows_form hr
  clear hr hv
  go_enter Tryz.func47, Tryz.ntmps47
  go_wp2_with fail
  generalize hW : w.alloc _ = W
  obtain ⟨r0, _, hb0⟩ := start1 w _ hW
  clear hW
  have HV1 := Lib.hid (impl_valid nm ar _ rows S W (HR.out W hb0))
  by_cases hok : tabOk nm ar rows = true
  case neg =>
    have hok : tabOk nm ar rows = false := by simpa using hok
    rw [hok] at HV1
    have HH := Lib.hid (hasR_no1 (row := row) hok)
    have HB := Lib.hid hb0
    have HOK := Lib.hid hok
    clear hok r0 hb0
    refine HV1.out.mono ?_
    rintro e W1 ⟨rfl, hb1⟩
    go_wp2_with fail
    go_ret2
    exact ⟨0, by rw [HH.out]; rfl, (fun q => by rw [HOK.out] at q; cases q), Nat.zero_le _, below_then HB.out hb1⟩
  rw [hok] at HV1
  have hP : TabP nm ar rows := of_decide_eq_true hok
  have HP := Lib.hid hP
  have HB := Lib.hid hb0
  have HRW := Lib.hid r0
  clear hok r0 hb0 hP
  refine HV1.out.mono ?_
  rintro e W1 ⟨rfl, hb1⟩
  have HB1 := Lib.hid (below_then HB.out hb1)
  obtain ⟨d0, d1, d2, _, _, _⟩ := row3 (row_later HRW.out hb1)
  have HS := Lib.hid (search _ v rows row S S2 W1 (HR.out W1 HB1.out) (HV.out W1 HB1.out) HP.out.2.2.2.2.2 HP.out.2.2.2.1)
  clear hb1
  go_wp2_with fail
  refine HS.out.mono ?_
  rintro e W2 ⟨i, rfl, hf, rfl⟩
  have HF := Lib.hid hf
  have HH := Lib.hid (show decide (row ∈ rows) = hasR nm ar rows row by
    unfold hasR
    congr 1
    exact propext ⟨fun q => ⟨HP.out, q⟩, fun q => q.2⟩)
  clear hf
  generalize decide (row ∈ rows) = z at *
  go_wp2_with fail
  go_ret2
  exact ⟨i, by rw [← HH.out]; rfl, (fun _ => HF.out), HF.out.1, HB1.out⟩

set_option maxRecDepth 100000 in
theorem impl_contains (nm : ByteArray) (ar : Int) (u v : Value) (rows : List (List Int)) (row : List Int) (S S2 : Nat → Prop) (w : World) (hr : rowsC.rd w S [u] rows) (hv : rowC.rd w S2 [v] row) :
    Calls Tryz.prog 16 #[.agg #[.string nm, .int .i64 ar, u], v] w fun e w' => e = .returned (.bool (hasR nm ar rows row)) ∧ Below w.heap.size w w' := by
  have HR := Lib.hid (fun w' (hb : Below w.heap.size w w') => Cd.later hr hb)
  have HV := Lib.hid (fun w' (hb : Below w.heap.size w w') => Cd.later hv hb)
  obtain ⟨a, cap, rfl, hlm⟩ := rows_form hr
  clear hr hv
  go_enter Tryz.func16, Tryz.ntmps16
  go_wp2_with fail
  generalize hW : w.alloc _ = W
  obtain ⟨r0, _, hb0⟩ := start1 w _ hW
  clear hW
  have HB := Lib.hid hb0
  have HF := Lib.hid (find_row nm ar _ v rows row S S2 W (HR.out W hb0) (HV.out W hb0))
  clear r0 hb0
  refine HF.out.mono ?_
  rintro e W1 ⟨i, rfl, _, _, hb1⟩
  have HB1 := Lib.hid (below_then HB.out hb1)
  clear hb1
  go_wp2_with fail
  go_ret
  exact ⟨rfl, HB1.out⟩
end Go.Proofs.YtdjgaffiildijabGreatDoor.TabImp
