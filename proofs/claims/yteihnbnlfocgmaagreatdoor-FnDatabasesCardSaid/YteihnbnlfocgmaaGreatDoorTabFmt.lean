/- Tables: the model's format. -/
import Derived.Test.YteihnbnlfocgmaaGreatDoorTabSpec2
import Derived.Test.YteihnbnlfocgmaaGreatDoorFormat
import Derived.Test.YteihnbnlfocgmaaGreatDoorTabCopy
import Derived.Deep.DeepCutAuto
namespace Go.Proofs.YteihnbnlfocgmaaGreatDoor.TabFmt
open Go Go.RowKit Byt Ints IntsLaw Cd Rows2 Tab TabSpec
open Go.Lib (decDigits itoa)

/-- The digits of small numbers. -/
def digB (l : List Int) : List UInt8 := l.map fun x => UInt8.ofNat (48 + x.toNat)
theorem itoa_digit {x : Int} (h : 0 ≤ x ∧ x ≤ 9) : itoa x = [UInt8.ofNat (48 + x.toNat)] := by
  unfold itoa
  rw [if_neg (by omega), decDigits, dif_pos (by omega)]
theorem digB_len (l : List Int) : (digB l).length = l.length := by simp [digB]
/-- The rows' digits, separated by blanks. -/
def rowsB : List (List Int) → List UInt8
  | [] => []
  | [r] => digB r
  | r :: s :: rs => digB r ++ 32 :: rowsB (s :: rs)
theorem rowsB_snoc : ∀ (l : List (List Int)) (r : List Int), rowsB (l ++ [r]) = if l = [] then digB r else rowsB l ++ 32 :: digB r
  | [], r => by simp [rowsB]
  | [a], r => by simp [rowsB]
  | a :: b :: l, r => by
    have := rowsB_snoc (b :: l) r
    rw [if_neg (by simp)] at this
    rw [if_neg (by simp)]
    show digB a ++ 32 :: rowsB ((b :: l) ++ [r]) = _
    rw [this]
    simp [rowsB]
/-- A valid table's format. -/
def tabB (nm : ByteArray) (ar : Int) (rows : List (List Int)) : List UInt8 := nm.data.toList ++ UInt8.ofNat (48 + ar.toNat) :: 58 :: rowsB rows
def fmtT (nm : ByteArray) (ar : Int) (rows : List (List Int)) : ByteArray := ⟨(if tabOk nm ar rows then tabB nm ar rows else []).toArray⟩

set_option maxRecDepth 100000 in
theorem spec_digits (v : Value) (l : List Int) (B : Nat) (w : World) (hr : RI w v l B) (hB : B ≤ w.heap.size) (hin : ∀ x ∈ l, 0 ≤ x ∧ x ≤ 9) (hl : l.length ≤ 1000000) :
    Calls Tryz.prog 78 #[v] w fun e w' => e = .returned (.string ⟨(digB l).toArray⟩) ∧ Below w.heap.size w w' := by
  have HR := Lib.hid (fun w' (hb : Below w.heap.size w w') => (hr.mono hB).later hb)
  have HIN := Lib.hid hin
  obtain ⟨a, cap, rfl, hlm, _⟩ := hr
  clear hin
  go_enter Tryz.func78, Tryz.ntmps78
  go_wp2
  go_loopw [3, 4] (fun o i wr => ∃ k : Nat, k ≤ l.length ∧ i = .int .i64 k ∧ o = .string ⟨(digB (l.take k)).toArray⟩ ∧ Below w.heap.size w wr) (fun _ i _ => l.length - (intOf i).toNat)
  case atStart => exact ⟨0, Nat.zero_le _, rfl, rfl, Below.refl _ _⟩
  case round =>
    obtain ⟨k, hk, rfl, rfl, hb⟩ := hrel
    by_cases hlt : k < l.length
    · obtain ⟨b, off, cap', e1, hbB, hc⟩ := ri_at (HR.out wr hb) hlt
      injection e1 with e1 e2 e3
      subst e1 e3
      have hx := HIN.out _ (List.getElem_mem hlt)
      have hf := Format.spec_any l[k] wr ⟨by omega, by omega⟩
      rw [itoa_digit hx] at hf
      have HF := Lib.hid hf
      have HB := Lib.hid hb
      have hlen : (digB (l.take k)).length ≤ 1000000 := by rw [digB_len, List.length_take]; omega
      have l3 : ¬ 9223372036854775807 < (digB (l.take k)).length + 1 := by omega
      have HT := Lib.hid (show digB (l.take (k + 1)) = digB (l.take k) ++ [UInt8.ofNat (48 + l[k].toNat)] by unfold digB; rw [List.take_succ_eq_append_getElem hlt, List.map_append]; rfl)
      clear hf hb hx
      generalize digB (l.take k) = cur at *
      generalize UInt8.ofNat (48 + l[k].toNat) = z at *
      go_wp2_with (first | (go_at_call 77; refine HF.out.mono ?_; rintro e w1 ⟨rfl, hb1⟩))
      go_roundw
      case rel => exact ⟨k + 1, by omega, by go_num, by rw [HT.out]; simp [ByteArray.mk_append_mk], below_then HB.out hb1⟩
      case measure => simp [intOf]; omega
    · have ek : k = l.length := by omega
      subst ek
      rw [List.take_length]
      go_wp2_with fail
      go_ret
      exact ⟨rfl, hb⟩

theorem rowsB_len : ∀ (l : List (List Int)), (rowsB l).length ≤ rowsWt l
  | [] => by simp [rowsB]
  | [r] => by simp [rowsB, digB, rowsWt]
  | r :: s :: rs => by
    have := rowsB_len (s :: rs)
    have h : rowsWt (r :: s :: rs) = rowsWt (s :: rs) + r.length + 1 := by simp [rowsWt]; omega
    rw [h]
    show (digB r ++ 32 :: rowsB (s :: rs)).length ≤ _
    rw [List.length_append, List.length_cons, digB_len]
    omega
/-- The format, up to row k. -/
def headB (nl : List UInt8) (ar : Int) : List UInt8 := nl ++ [UInt8.ofNat (48 + ar.toNat), 58]
theorem tabB_head (nl : List UInt8) (ar : Int) (rows : List (List Int)) : tabB ⟨⟨nl⟩⟩ ar rows = headB nl ar ++ rowsB rows := by simp [tabB, headB]

set_option maxRecDepth 100000 in
set_option maxHeartbeats 1600000 in
theorem spec_fmt (nm : ByteArray) (ar : Int) (u : Value) (rows : List (List Int)) (S : Nat → Prop) (w : World) (hr : rowsC.rd w S [u] rows) :
    Calls Tryz.prog 46 #[.agg #[.string nm, .int .i64 ar, u]] w fun e w' => e = .returned (.string (fmtT nm ar rows)) ∧ Below w.heap.size w w' := by
  have HR := Lib.hid (fun w' (hb : Below w.heap.size w w') => Cd.later hr hb)
  obtain ⟨a, cap, rfl, hlm⟩ := rows_form hr
  clear hr
  go_enter Tryz.func46, Tryz.ntmps46
  go_wp2_with fail
  generalize hW : w.alloc _ = W
  obtain ⟨r0, _, hb0⟩ := start1 w _ hW
  clear hW
  have HV := Lib.hid (spec_valid nm ar _ rows S W (HR.out W hb0))
  by_cases hok : tabOk nm ar rows = true
  case neg =>
    have hok : tabOk nm ar rows = false := by simpa using hok
    rw [hok] at HV
    have HZ := Lib.hid (show fmtT nm ar rows = ⟨#[]⟩ by unfold fmtT; rw [hok]; rfl)
    have HB := Lib.hid hb0
    clear hok r0 hb0
    refine HV.out.mono ?_
    rintro e w1 ⟨rfl, hb1⟩
    have HB1 := Lib.hid (below_then HB.out hb1)
    clear hb1
    go_wp2_with fail
    go_ret
    exact ⟨ret_str HZ.out.symm, HB1.out⟩
  rw [hok] at HV
  have htp : TabP nm ar rows := of_decide_eq_true hok
  have HZ := Lib.hid (show fmtT nm ar rows = ⟨(tabB nm ar rows).toArray⟩ by unfold fmtT; rw [hok]; rfl)
  obtain ⟨⟨nl⟩⟩ := nm
  have HNL := Lib.hid (show nl.length = 1 by have := of_decide_eq_true htp.1; exact this.1)
  have har := And.intro htp.2.1 htp.2.2.1
  have HROW := Lib.hid (show ∀ r ∈ rows, (r.length : Int) = ar ∧ ∀ x ∈ r, 0 ≤ x ∧ x ≤ 9 from fun r hr => rowOk_iff.1 (htp.2.2.2.2.1 r hr))
  have h8 := htp.2.2.2.1
  have HWT := Lib.hid (show ∀ k, rowsWt (rows.take k) ≤ 100 by
    have : ∀ l : List (List Int), (∀ r ∈ l, r.length ≤ 3) → rowsWt l ≤ 4 * l.length := by
      intro l
      induction l with
      | nil => intro _; simp [rowsWt]
      | cons r rs ih =>
        intro h
        have h1 := ih (fun x hx => h x (List.mem_cons.2 (.inr hx)))
        have h2 := h r (List.mem_cons.2 (.inl rfl))
        simp [rowsWt] at *
        omega
    intro k
    have h1 := this (rows.take k) (fun r hr => by have := (HROW.out r (List.mem_of_mem_take hr)).1; omega)
    rw [List.length_take] at h1
    omega)
  clear hok htp
  refine HV.out.mono ?_
  rintro e W1 ⟨rfl, hb1⟩
  have HB := Lib.hid (below_then hb0 hb1)
  have HL := Lib.hid ((Loc3.of r0).later hb1)
  clear hb0 hb1 r0
  have hf := Format.spec_any ar W1.drew ⟨by omega, by omega⟩
  rw [itoa_digit ⟨by omega, by omega⟩] at hf
  have HF := Lib.hid hf
  have HH := Lib.hid (show headB nl ar = nl ++ [UInt8.ofNat (48 + ar.toNat), 58] from rfl)
  clear hf
  generalize UInt8.ofNat (48 + ar.toNat) = d at *
  go_upto_region 3 with fail
  go_cut [3] (fun s wx => s = .string ⟨(headB nl ar).toArray⟩ ∧ Below w.heap.size w wx ∧ Loc3 wx w.heap.size (.string ⟨⟨nl⟩⟩) (.int .i64 ar) (.slice a rows.length cap))
  case first =>
    have y0 := HL.out.c0
    have y1 := HL.out.c1
    have l1 : ¬ 9223372036854775807 < nl.length + 1 := by have := HNL.out; omega
    have l2 : ¬ 9223372036854775807 < nl.length + 1 + 1 := by have := HNL.out; omega
    go_region_law (first | (go_simp; go_at_call 77; refine HF.out.mono ?_; rintro e wq ⟨rfl, hbq⟩; (have GB := Lib.hid (below_then HB.out (show Below W1.heap.size W1 wq from ⟨hbq.os, hbq.tape, hbq.output, hbq.size, hbq.block⟩))); (have GL := Lib.hid (HL.out.later (show Below W1.heap.size W1 wq from ⟨hbq.os, hbq.tape, hbq.output, hbq.size, hbq.block⟩))); (have z0 := GL.out.c0); clear hbq))
    all_goals
      go_wp2_with fail
      go_meet
      exact ⟨by rw [HH.out]; simp [ByteArray.mk_append_mk], GB.out, GL.out⟩
  case rest =>
    obtain ⟨rfl, hbc, hlc⟩ := hcut
    have HBC := Lib.hid hbc
    have HLC := Lib.hid hlc
    have HHL := Lib.hid (show (headB nl ar).length = 3 by rw [HH.out]; simp [HNL.out])
    have HTB := Lib.hid (tabB_head nl ar rows)
    clear hbc hlc
    generalize headB nl ar = hd at *
    generalize wc = W2 at *
    go_wp2_with fail
    go_loopw [3, 4] (fun o i wr => ∃ k : Nat, k ≤ rows.length ∧ i = .int .i64 k ∧ o = .string ⟨(hd ++ rowsB (rows.take k)).toArray⟩ ∧ Below W2.heap.size W2 wr) (fun _ i _ => rows.length - (intOf i).toNat)
    case atStart => exact ⟨0, Nat.zero_le _, rfl, by simp [rowsB], Below.refl _ _⟩
    case round =>
      obtain ⟨k, hk, rfl, rfl, hbw⟩ := hrel
      have HBW := Lib.hid hbw
      have HBR := Lib.hid (below_then HBC.out hbw)
      obtain ⟨d0, d1, d2, _, _, _⟩ := HLC.out.later hbw
      clear hbw
      by_cases hlt : k < rows.length
      · obtain ⟨b, off, cap', v', e1, hbB, hc, hv'⟩ := rows_at (HR.out wr HBR.out) hlt
        injection e1 with e1 e2 e3
        subst e1 e3
        have hrow := HROW.out _ (List.getElem_mem hlt)
        have HD := Lib.hid (spec_digits v' rows[k] _ wr (row_ri hv').1 (Nat.le_refl _) hrow.2 (by omega))
        have HSN := Lib.hid (show rowsB (rows.take (k + 1)) = if rows.take k = [] then digB rows[k] else rowsB (rows.take k) ++ 32 :: digB rows[k] by rw [List.take_succ_eq_append_getElem hlt, rowsB_snoc])
        have hbl : (rowsB (rows.take k)).length ≤ 100 := Nat.le_trans (rowsB_len _) (HWT.out k)
        have hdl : (digB rows[k]).length ≤ 3 := by rw [digB_len]; omega
        have hhl := HHL.out
        have l1 : ¬ 9223372036854775807 < hd.length + (rowsB (rows.take k)).length + 1 := by omega
        have l2 : ¬ 9223372036854775807 < hd.length + (rowsB (rows.take k)).length + 1 + (digB rows[k]).length := by omega
        have l3 : ¬ 9223372036854775807 < hd.length + (rowsB (rows.take k)).length + (digB rows[k]).length := by omega
        clear hv' hrow hhl
        by_cases h0 : k = 0
        · have HE := Lib.hid (show rowsB (rows.take (k + 1)) = rowsB (rows.take k) ++ digB rows[k] by
            have q : rows.take k = [] := by rw [h0]; rfl
            rw [HSN.out, if_pos q, q]
            rfl)
          have hn : ¬ 0 < k := by omega
          clear h0
          generalize rowsB (rows.take k) = cur at *
          generalize digB rows[k] = dg at *
          go_wp2_with (first | (go_at_call 78; refine HD.out.mono ?_; rintro e w1 ⟨rfl, hb1⟩))
          go_roundw
          case rel => exact ⟨k + 1, by omega, by go_num, by rw [HE.out]; simp [ByteArray.mk_append_mk], below_then HBW.out hb1⟩
          case measure => simp [intOf]; omega
        · have HE := Lib.hid (show rowsB (rows.take (k + 1)) = rowsB (rows.take k) ++ 32 :: digB rows[k] by
            rw [HSN.out, if_neg]
            intro q
            have q2 : (rows.take k).length = 0 := by rw [q]; rfl
            rw [List.length_take] at q2
            omega)
          have hn : 0 < k := by omega
          clear h0
          generalize rowsB (rows.take k) = cur at *
          generalize digB rows[k] = dg at *
          go_wp2_with (first | (go_at_call 78; refine HD.out.mono ?_; rintro e w1 ⟨rfl, hb1⟩))
          go_roundw
          case rel => exact ⟨k + 1, by omega, by go_num, by rw [HE.out]; simp [ByteArray.mk_append_mk], below_then HBW.out hb1⟩
          case measure => simp [intOf]; omega
      · have ek : k = rows.length := by omega
        subst ek
        rw [List.take_length]
        go_wp2_with fail
        go_ret
        exact ⟨ret_str (by rw [HZ.out, HTB.out]), HBR.out⟩
end Go.Proofs.YteihnbnlfocgmaaGreatDoor.TabFmt
