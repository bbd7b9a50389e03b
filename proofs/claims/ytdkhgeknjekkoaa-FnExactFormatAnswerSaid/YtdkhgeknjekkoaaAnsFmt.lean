/- Answers: their format: the model's function and the program's. -/
import Derived.Test.YtdkhgeknjekkoaaAnsValid
import Derived.Test.YtdkhgeknjekkoaaFmtImp2
import Derived.Test.YtdkhgeknjekkoaaQryNames
namespace Go.Proofs.Ytdkhgeknjekkoaa.AnsFmt
open Go Go.RowKit Byt Ints IntsLaw Cd Rows2 Tab TabSpec Exact Atom AnsC TabImp AnsValid TabFmt QryMath QrySpec QryFmt

/-- A valid answer's format. -/
def fmtA (V : List Int) (R : List (List Int)) : ByteArray := ⟨(if ansOk V R then V.map vb ++ 58 :: rowsB R else []).toArray⟩
theorem ansOk_parts {V : List Int} {R : List (List Int)} (h : ansOk V R = true) : VP V ∧ ∀ r ∈ R, (r.length : Int) = V.length ∧ ∀ x ∈ r, 0 ≤ x ∧ x ≤ 9 := by
  by_cases hv : VP V
  · rw [ans_yes hv] at h
    exact ⟨hv, fun r hr => rowOk_iff.1 ((of_decide_eq_true h).1 r hr)⟩
  · rw [ans_no hv] at h
    exact absurd h (by decide)
theorem rowsWt_take (R : List (List Int)) (k : Nat) : rowsWt (R.take k) ≤ rowsWt R := by
  have h : rowsWt R = rowsWt (R.take k) + rowsWt (R.drop k) := by
    unfold rowsWt
    conv => lhs; rw [← List.take_append_drop k R]
    rw [List.length_append, List.flatten_append, List.length_append]
    omega
  omega
theorem rowsB_take (R : List (List Int)) (k : Nat) : (rowsB (R.take k)).length ≤ rowsWt R := Nat.le_trans (rowsB_len _) (rowsWt_take R k)

set_option maxRecDepth 100000 in
set_option maxHeartbeats 1600000 in
theorem spec_fmtans (v1 v2 : Value) (V : List Int) (rows : List (List Int)) (S : Nat → Prop) (w : World) (hr : ansC.rd w S [v1, v2] (V, rows)) (hwt : ansWt V rows ≤ 1048577) :
    Calls Try.prog 13 #[.agg #[v1, v2]] w fun e w' => e = .returned (.string (fmtA V rows)) ∧ Below w.heap.size w w' := by
  have HA := Lib.hid (fun w' (hb : Below w.heap.size w w') => spec_validans v1 v2 V rows S w' (Cd.later hr hb))
  obtain ⟨hr1, hr2⟩ := ans_reads hr
  have HV := Lib.hid (fun w' (hb : Below w.heap.size w w') => (row_ri (Cd.later hr1 hb)).1)
  have HR := Lib.hid (fun w' (hb : Below w.heap.size w w') => Cd.later hr2 hb)
  obtain ⟨a1, c1, rfl, hl1⟩ := row_form hr1
  obtain ⟨a, cap, rfl, hlm⟩ := rows_form hr2
  clear hr hr1 hr2
  go_enter Try.func13, Try.ntmps13
  go_wp2_with fail
  generalize hW : w.alloc _ = W
  obtain ⟨r0, _, hb0⟩ := start1 w _ hW
  clear hW
  have HAV := Lib.hid (HA.out W hb0)
  by_cases hok : ansOk V rows = true
  case neg =>
    have hok : ansOk V rows = false := by simpa using hok
    rw [hok] at HAV
    have HZ := Lib.hid (show fmtA V rows = ⟨#[]⟩ by unfold fmtA; rw [hok]; rfl)
    have HB := Lib.hid hb0
    clear hok r0 hb0
    refine HAV.out.mono ?_
    rintro e w1 ⟨rfl, hb1⟩
    have HB1 := Lib.hid (below_then HB.out hb1)
    clear hb1
    go_wp2_with fail
    go_ret
    exact ⟨ret_str HZ.out.symm, HB1.out⟩
  rw [hok] at HAV
  have hZ : fmtA V rows = ⟨(V.map vb ++ 58 :: rowsB rows).toArray⟩ := by unfold fmtA; rw [hok]; rfl
  have HP := Lib.hid (ansOk_parts hok)
  have hv4 : V.length ≤ 4 := lenV HP.out.1
  have hbr : ∀ k, (rowsB (rows.take k)).length ≤ 1048577 := fun k => by have := rowsB_take rows k; unfold ansWt at hwt; omega
  have HBR := Lib.hid hbr
  have HROW := Lib.hid (show ∀ r ∈ rows, r.length ≤ 4 ∧ ∀ x ∈ r, 0 ≤ x ∧ x ≤ 9 from fun r hr => by
    have := HP.out.2 r hr
    exact ⟨by omega, this.2⟩)
  have hIn : In4 V := HP.out.1.1
  have HNM := Lib.hid (fun w' (hb : Below w.heap.size w w') => spec_names (.slice a1 V.length c1) V _ w' (HV.out w' hb) hIn hv4)
  have hHL : (V.map vb ++ [58]).length ≤ 5 := by simp; omega
  have hsv : (⟨(V.map vb).toArray⟩ : ByteArray).size ≤ 4 := by show (V.map vb).toArray.size ≤ 4; rw [List.size_toArray, List.length_map]; exact hv4
  have HHD := Lib.hid (show (⟨(V.map vb).toArray⟩ : ByteArray) ++ ⟨#[58]⟩ = ⟨(V.map vb ++ [58]).toArray⟩ by simp [ByteArray.mk_append_mk])
  have HZ := Lib.hid (show fmtA V rows = ⟨((V.map vb ++ [58]) ++ rowsB rows).toArray⟩ by rw [hZ]; simp)
  have HHL := Lib.hid hHL
  have HSV := Lib.hid hsv
  clear hok hwt hv4 hbr hIn hHL hZ hsv HP
  refine HAV.out.mono ?_
  rintro e W1 ⟨rfl, hb1⟩
  have HB := Lib.hid (below_then hb0 hb1)
  have HL := Lib.hid ((Atom.Loc2.of r0).later hb1)
  clear hb0 hb1 r0
  have HN1 := Lib.hid (HNM.out W1 HB.out)
  have y0 := HL.out.c0
  generalize (⟨(V.map vb).toArray⟩ : ByteArray) = D at *
  generalize V.map vb ++ [58] = hd at *
  have l0 : ¬ 9223372036854775807 < D.size + 1 := by have := HSV.out; omega
  go_wp2_with (first | (go_at_call 28; refine HN1.out.mono ?_; rintro e wq ⟨rfl, rfl⟩))
  go_loopw [3, 4] (fun o i wr => ∃ k : Nat, k ≤ rows.length ∧ i = .int .i64 k ∧ o = .string ⟨(hd ++ rowsB (rows.take k)).toArray⟩ ∧ Below W1.heap.size W1 wr) (fun _ i _ => rows.length - (intOf i).toNat)
  case atStart => exact ⟨0, Nat.zero_le _, rfl, by rw [HHD.out]; simp [rowsB], Below.refl _ _⟩
  case round =>
    obtain ⟨k, hk, rfl, rfl, hbw⟩ := hrel
    have HBW := Lib.hid hbw
    have HBT := Lib.hid (below_then HB.out hbw)
    have d1 := (HL.out.later hbw).c1
    clear hbw
    by_cases hlt : k < rows.length
    · obtain ⟨b, off, cap', v', e1, hbB, hc, hv'⟩ := rows_at (HR.out wr HBT.out) hlt
      injection e1 with e1 e2 e3
      subst e1 e3
      have hrow := HROW.out _ (List.getElem_mem hlt)
      have HD := Lib.hid (spec_digits v' rows[k] _ wr (row_ri hv').1 (Nat.le_refl _) hrow.2 (by omega))
      have HSN := Lib.hid (show rowsB (rows.take (k + 1)) = if rows.take k = [] then digB rows[k] else rowsB (rows.take k) ++ 32 :: digB rows[k] by rw [List.take_succ_eq_append_getElem hlt, rowsB_snoc])
      have hbl := HBR.out k
      have hdl : (digB rows[k]).length ≤ 4 := by rw [digB_len]; omega
      have hhl := HHL.out
      have l1 : ¬ 9223372036854775807 < hd.length + (rowsB (rows.take k)).length + 1 := by omega
      have l2 : ¬ 9223372036854775807 < hd.length + (rowsB (rows.take k)).length + 1 + (digB rows[k]).length := by omega
      have l3 : ¬ 9223372036854775807 < hd.length + (rowsB (rows.take k)).length + (digB rows[k]).length := by omega
      clear hv' hrow hhl
      by_cases h0 : k = 0
      · have HE := Lib.hid (show rowsB (rows.take (k + 1)) = rowsB (rows.take k) ++ digB rows[k] by
          have q : rows.take k = [] := by rw [h0]; rfl
          rw [HSN.out, if_pos q, q]
          rfl)
        have hn : ¬ 0 < k := by omega
        clear h0
        generalize rowsB (rows.take k) = cur at *
        generalize digB rows[k] = dg at *
        go_wp2_with (first | (go_at_call 29; refine HD.out.mono ?_; rintro e w1 ⟨rfl, hb1⟩))
        go_roundw
        case rel => exact ⟨k + 1, by omega, by go_num, by rw [HE.out]; simp [ByteArray.mk_append_mk], below_then HBW.out hb1⟩
        case measure => simp [intOf]; omega
      · have HE := Lib.hid (show rowsB (rows.take (k + 1)) = rowsB (rows.take k) ++ 32 :: digB rows[k] by
          rw [HSN.out, if_neg]
          intro q
          have q2 : (rows.take k).length = 0 := by rw [q]; rfl
          rw [List.length_take] at q2
          omega)
        have hn : 0 < k := by omega
        clear h0
        generalize rowsB (rows.take k) = cur at *
        generalize digB rows[k] = dg at *
        go_wp2_with (first | (go_at_call 29; refine HD.out.mono ?_; rintro e w1 ⟨rfl, hb1⟩))
        go_roundw
        case rel => exact ⟨k + 1, by omega, by go_num, by rw [HE.out]; simp [ByteArray.mk_append_mk], below_then HBW.out hb1⟩
        case measure => simp [intOf]; omega
    · have ek : k = rows.length := by omega
      subst ek
      rw [List.take_length]
      go_wp2_with fail
      go_ret
      exact ⟨ret_str (by rw [HZ.out]), HBT.out⟩

set_option maxRecDepth 100000 in
set_option maxHeartbeats 3200000 in
theorem impl_fmtans (v1 v2 : Value) (V : List Int) (rows : List (List Int)) (S : Nat → Prop) (w : World) (hr : ansC.rd w S [v1, v2] (V, rows)) (hwt : ansWt V rows ≤ 1048577) :
    Calls Try.prog 14 #[.agg #[v1, v2]] w fun e w' => e = .returned (.string (fmtA V rows)) ∧ Below w.heap.size w w' := by
  have HA := Lib.hid (fun w' (hb : Below w.heap.size w w') => impl_validans v1 v2 V rows S w' (Cd.later hr hb))
  obtain ⟨hr1, hr2⟩ := ans_reads hr
  have HV := Lib.hid (fun w' (hb : Below w.heap.size w w') => Cd.later hr1 hb)
  have HR := Lib.hid (fun w' (hb : Below w.heap.size w w') => Cd.later hr2 hb)
  obtain ⟨a1, c1, rfl, hl1⟩ := row_form hr1
  obtain ⟨a, cap, rfl, hlm⟩ := rows_form hr2
  clear hr hr1 hr2
  go_enter Try.func14, Try.ntmps14
  go_wp2_with fail
  generalize hW : w.alloc _ = W
  obtain ⟨r0, _, hb0⟩ := start1 w _ hW
  clear hW
  have HAV := Lib.hid (HA.out W hb0)
  by_cases hok : ansOk V rows = true
  case neg =>
    have hok : ansOk V rows = false := by simpa using hok
    rw [hok] at HAV
    have HZ := Lib.hid (show fmtA V rows = ⟨#[]⟩ by unfold fmtA; rw [hok]; rfl)
    have HB := Lib.hid hb0
    clear hok r0 hb0
    refine HAV.out.mono ?_
    rintro e w1 ⟨rfl, hb1⟩
    have HB1 := Lib.hid (below_then HB.out hb1)
    clear hb1
    go_wp2_with fail
    go_ret
    exact ⟨ret_str HZ.out.symm, HB1.out⟩
  rw [hok] at HAV
  have hZ : fmtA V rows = ⟨(V.map vb ++ 58 :: rowsB rows).toArray⟩ := by unfold fmtA; rw [hok]; rfl
  have HP := Lib.hid (ansOk_parts hok)
  have hv4 : V.length ≤ 4 := lenV HP.out.1
  have hrl : rows.length ≤ 1048577 ∧ (rowsB rows).length ≤ 1048577 := by
    have := rowsB_len rows
    unfold ansWt at hwt
    have h2 : rows.length ≤ rowsWt rows := by unfold rowsWt; omega
    omega
  have HRL := Lib.hid hrl
  have HROW := Lib.hid (show ∀ r ∈ rows, r.length ≤ 4 ∧ ∀ x ∈ r, 0 ≤ x ∧ x ≤ 9 from fun r hr => by
    have := HP.out.2 r hr
    exact ⟨by omega, this.2⟩)
  have hIn : In4 V := HP.out.1.1
  have HNM := Lib.hid (fun w' (hb : Below w.heap.size w w') => format_vars (.slice a1 V.length c1) V S w' (HV.out w' hb) hIn (by omega))
  have hsv : (⟨(V.map vb).toArray⟩ : ByteArray).size ≤ 4 := by show (V.map vb).toArray.size ≤ 4; rw [List.size_toArray, List.length_map]; exact hv4
  have HZ := Lib.hid (show fmtA V rows = (⟨(V.map vb).toArray⟩ : ByteArray) ++ ⟨#[58]⟩ ++ ⟨(rowsB rows).toArray⟩ by rw [hZ]; simp [ByteArray.mk_append_mk])
  have HSV := Lib.hid hsv
  have hsr : (⟨(rowsB rows).toArray⟩ : ByteArray).size ≤ 1048577 := by show (rowsB rows).toArray.size ≤ _; rw [List.size_toArray]; exact hrl.2
  have HSR := Lib.hid hsr
  have HFR := Lib.hid (fun w' (hb : Below w.heap.size w w') => format_rows (.slice a rows.length cap) rows S w' (HR.out w' hb) HRL.out.1 HROW.out HRL.out.2)
  clear hok hwt hv4 hrl hIn hZ hsv HP hsr
  refine HAV.out.mono ?_
  rintro e w1 ⟨rfl, hb1⟩
  have HB1 := Lib.hid (below_then hb0 hb1)
  have HT := Lib.hid ((Atom.Loc2.of r0).later hb1)
  clear hb0 hb1 r0
  generalize (⟨(V.map vb).toArray⟩ : ByteArray) = D at *
  generalize (⟨(rowsB rows).toArray⟩ : ByteArray) = E at *
  have HV1 := Lib.hid (fun w' (hb : Later w1 w') => HNM.out w' (below_then HB1.out hb))
  have HR1 := Lib.hid (fun w' (hb : Later w1 w') => HFR.out w' (below_then HB1.out hb))
  have y0 := HT.out.c0
  have y1 := HT.out.c1
  have kk : Later w1 w1.drew := (Below.refl _ w1).drew
  have l1 : ¬ 9223372036854775807 < D.size + 1 := by have := HSV.out; omega
  have l3 : ¬ 9223372036854775807 < D.size + 1 + E.size := by have := HSV.out; have := HSR.out; omega
  go_wp2_with fail
  go_region_held3 (fun wx => wx.cell? ⟨w.heap.size, 0, none⟩ = some (.slice a1 V.length c1) ∧ wx.cell? ⟨w.heap.size, 1, none⟩ = some (.slice a rows.length cap) ∧ Later w1 wx)
    ((refine ⟨?_, ?_, ?_⟩ <;> first | assumption | (simp [*]; done)))
    (first | (go_at_call 30; refine (HV1.out _ (by assumption)).mono ?_; rintro e wq ⟨rfl, hbq⟩; (have kk : Later w1 wq := below_then (by assumption) hbq); (have k0 := (HT.out.later kk).c0); (have k1 := (HT.out.later kk).c1); clear hbq) | (go_at_call 31; refine (HR1.out _ (by assumption)).mono ?_; rintro e wj ⟨rfl, hbj⟩; (have kk : Later w1 wj := below_then (by assumption) hbj); (have k0 := (HT.out.later kk).c0); (have k1 := (HT.out.later kk).c1); clear hbj))
  all_goals
    go_wp2_with fail
    go_ret
    exact ⟨ret_str (by rw [HZ.out]), below_then HB1.out (by assumption)⟩
end Go.Proofs.Ytdkhgeknjekkoaa.AnsFmt
