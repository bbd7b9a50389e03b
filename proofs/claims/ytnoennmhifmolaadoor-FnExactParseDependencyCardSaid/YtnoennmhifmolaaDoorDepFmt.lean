/- Dependencies and inclusions: their formats: the model's functions and the program's. -/
import Derived.Test.YtnoennmhifmolaaDoorDepCol
import Derived.Test.YtnoennmhifmolaaDoorInc
import Derived.Test.YtnoennmhifmolaaDoorTabFmt
import Derived.Test.YtnoennmhifmolaaDoorTabImp1
import Derived.Test.YtnoennmhifmolaaDoorDig
import Derived.Test.YtnoennmhifmolaaDoorShelf
import Derived.Deep.RegionHeld3
import Derived.BigQuiet
namespace Go.Proofs.YtnoennmhifmolaaDoor.DepFmt
open Go Go.RowKit Byt Ints IntsLaw Cd Rows2 Tab TabSpec Exact Dep Inc TabFmt QryMath DepMath
open DegMath (colsOk ColP col_more col_bad)
open TabImp (is_name_at)

theorem dnF {B m : Nat} {w w' : World} (h : Below B w w') : Below B w (w'.drewN m) := ⟨h.os, h.tape, h.output, h.size, h.block⟩
theorem in_col3F (c : Int) : (decide ((0 : Int) ≤ c) && decide (c ≤ 2)) = colB c 3 := by
  unfold colB
  rw [← Bool.decide_and]
  exact decide_eq_decide.2 ⟨fun h => ⟨h.1, by omega⟩, fun h => ⟨h.1, by omega⟩⟩
set_option maxRecDepth 100000 in
set_option maxHeartbeats 1600000 in
theorem spec_rises (v : Value) (V : List Int) (B : Nat) (w : World) (hv : RI w v V B) :
    Calls Tryd.prog 44 #[v] w fun e w' => e = .returned (.bool (colsOk V 3)) ∧ Below w.heap.size w w' := by
  have HV := Lib.hid (fun q => (show RI (w.drewN q) v V B from hv))
  obtain ⟨a1, c1, rfl, hl1, _⟩ := hv
  go_enter Tryd.func44, Tryd.ntmps44
  go_wp2_with fail
  go_loopw [3] (fun i wr => ∃ k m : Nat, k ≤ V.length ∧ i = .int .i64 k ∧ Hid (ColP (V.take k) 3) ∧ wr = w.drewN m) (fun i _ => V.length - (intOf i).toNat)
  case atStart => exact ⟨0, 0, Nat.zero_le _, rfl, Lib.hid ⟨fun x hx => by simp at hx, by simp⟩, rfl⟩
  case round =>
    obtain ⟨k, m, hk, rfl, hvp, hwr⟩ := hrel
    have HWR := Lib.hid hwr
    have hri := HV.out m
    rw [← hwr] at hri
    clear hwr
    by_cases hlt : k < V.length
    · obtain ⟨b, off, cap', e1, hbB, hc⟩ := ri_at hri hlt
      injection e1 with e1 e2 e3
      subst e1 e3
      have p1 : (0 : Int) ≤ (k : Int) := by omega
      have p2 : (k : Int) < (V.length : Int) := by omega
      by_cases hx : 0 ≤ V[k] ∧ V[k] ≤ 2
      case neg =>
        have HI := Lib.hid (show ∀ q, Calls Tryd.prog 35 #[.int .i64 V[k], .int .i64 0, .int .i64 2] (wr.drewN q) fun e w' => e = .returned (.bool false) ∧ w' = wr.drewN q from fun q => (Fixed.l1In_no hx (wr.drewN q)).mono fun _ _ h => ⟨h.1, h.2.symm⟩)
        have HZ := Lib.hid (show colsOk V 3 = false from decide_eq_false fun q => hx ⟨(q.1 _ (List.getElem_mem hlt)).1, by have := (q.1 _ (List.getElem_mem hlt)).2; omega⟩)
        clear hx hri
        generalize V[k] = z at *
        go_wp2
        go_quiet (first | (go_at_call 35; refine Calls.quiet_of_same (HI.out _)))
        go_wp2
        go_ret
        exact ⟨ret_b HZ.out.symm, by rw [HWR.out, World.drewN_drewN]; exact dnF (Below.refl _ _)⟩
      have HI := Lib.hid (show ∀ q, Calls Tryd.prog 35 #[.int .i64 V[k], .int .i64 0, .int .i64 2] (wr.drewN q) fun e w' => e = .returned (.bool true) ∧ w' = wr.drewN q from fun q => (Fixed.l1In_yes hx.1 hx.2 (wr.drewN q)).mono fun _ _ h => ⟨h.1, h.2.symm⟩)
      by_cases hk0 : k = 0
      · have has2 := Lib.hid (col_more hvp.out hlt (by omega) (fun j hj => by omega))
        have q0 : ¬ 0 < k := by omega
        clear hx hri hk0
        generalize V[k] = z at *
        go_wp2
        go_quiet (first | (go_at_call 35; refine Calls.quiet_of_same (HI.out _)))
        go_wp2
        go_roundw
        case rel => exact ⟨k + 1, _, by omega, by go_num, has2, by rw [HWR.out, World.drewN_drewN]⟩
        case measure => simp [intOf]; omega
      · obtain ⟨j, hj⟩ : ∃ j, k = j + 1 := ⟨k - 1, by omega⟩
        have hjl : j < V.length := by omega
        obtain ⟨b', off', cap', e1, hbB', hc'⟩ := ri_at hri hjl
        injection e1 with e1 e2 e3
        injection e1 with e1
        injection e1 with e1 e2 _
        subst e1 e2 e3
        have p3 : (0 : Int) ≤ (j : Int) := by omega
        have p4 : (j : Int) < (V.length : Int) := by omega
        have p5 : 0 < k := by omega
        have p6 : (k : Int) - 1 = (j : Int) := by omega
        by_cases hcmp : V[j] < V[k]
        · have has2 := Lib.hid (col_more hvp.out hlt (by omega) (fun j' hj' _ => by
            obtain rfl : j' = j := by omega
            exact hcmp))
          have hge : ¬ V[k] ≤ V[j] := by omega
          have HJ := Lib.hid hj
          clear hx hri hj hk0 hcmp
          generalize V[k] = z at *
          generalize V[j] = y at *
          go_wp2
          go_quiet (first | (go_at_call 35; refine Calls.quiet_of_same (HI.out _)))
          go_wp2
          go_roundw
          case rel => exact ⟨k + 1, _, by omega, by go_num, has2, by rw [HWR.out, World.drewN_drewN]⟩
          case measure => simp [intOf]; omega
        · have HZ := Lib.hid (show colsOk V 3 = false from decide_eq_false (by
            subst hj
            exact col_bad (by omega) hcmp))
          have hge : V[k] ≤ V[j] := by omega
          have HJ := Lib.hid hj
          clear hx hri hj hk0 hcmp
          generalize V[k] = z at *
          generalize V[j] = y at *
          go_wp2
          go_quiet (first | (go_at_call 35; refine Calls.quiet_of_same (HI.out _)))
          go_wp2
          go_ret
          exact ⟨ret_b HZ.out.symm, by rw [HWR.out, World.drewN_drewN]; exact dnF (Below.refl _ _)⟩
    · have ek : k = V.length := by omega
      subst ek
      rw [List.take_length] at hvp
      have HZ := Lib.hid (show colsOk V 3 = true from decide_eq_true hvp.out)
      clear hri
      go_wp2_with fail
      go_ret
      exact ⟨ret_b HZ.out.symm, by rw [HWR.out]; exact dnF (Below.refl _ _)⟩

/-! ### a dependency's format -/
def fdOk (nm : ByteArray) (V : List Int) (t : Int) : Bool := nameOk nm && colsD (nm, V, t) 3
def dig1 (t : Int) : UInt8 := UInt8.ofNat (48 + t.toNat)
def depB (nm : ByteArray) (V : List Int) (t : Int) : List UInt8 := nm.data.toList ++ digB V ++ [62] ++ [dig1 t]
def fmtD (nm : ByteArray) (V : List Int) (t : Int) : ByteArray := ⟨(if fdOk nm V t then depB nm V t else []).toArray⟩
theorem fmtD_no {nm : ByteArray} {V : List Int} {t : Int} (h : fdOk nm V t = false) : fmtD nm V t = ⟨#[]⟩ := by unfold fmtD; rw [h]; rfl
theorem fmtD_yes {nm : ByteArray} {V : List Int} {t : Int} (h : fdOk nm V t = true) : fmtD nm V t = ⟨(depB nm V t).toArray⟩ := by unfold fmtD; rw [h]; rfl
def LaterF (w w' : World) : Prop := Below w.heap.size w w'
theorem len3 {V : List Int} (h : colsOk V 3 = true) : V.length ≤ 3 ∧ ∀ x ∈ V, 0 ≤ x ∧ x ≤ 2 := by
  have hC : ColP V 3 := of_decide_eq_true h
  refine ⟨?_, fun x hx => by have := hC.1 x hx; omega⟩
  exact len_col (cl := V) ⟨hC.1, hC.2.imp fun q e => by omega⟩
theorem fd_parts {nm : ByteArray} {V : List Int} {t : Int} (h1 : nameOk nm = true) (h2 : colsD (nm, V, t) 3 = true) : nm.size = 1 ∧ V.length ≤ 3 ∧ (∀ x ∈ V, 0 ≤ x ∧ x ≤ 9) ∧ 0 ≤ t ∧ t ≤ 2 := by
  unfold colsD at h2
  simp only [Bool.and_eq_true] at h2
  obtain ⟨a, b⟩ := len3 h2.1.1
  have c := colB_iff.1 h2.1.2
  exact ⟨(of_decide_eq_true h1).1, a, fun x hx => by have := b x hx; omega, c.1, by omega⟩
set_option maxRecDepth 100000 in
set_option maxHeartbeats 3200000 in
theorem spec_fmtd (nm : ByteArray) (V : List Int) (t : Int) (v : Value) (S : Nat → Prop) (w : World) (hr : rowC.rd w S [v] V) :
    Calls Tryd.prog 20 #[.agg #[.string nm, v, .int .i64 t]] w fun e w' => e = .returned (.string (fmtD nm V t)) ∧ Below w.heap.size w w' := by
  have HR := Lib.hid (fun w' (hb : Below w.heap.size w w') => (row_ri (Cd.later hr hb)).1)
  obtain ⟨a, cap, rfl, hlm, _⟩ := (row_ri hr).1
  clear hr
  have HN := Lib.hid (fun w' => spec_name nm w')
  go_enter Tryd.func20, Tryd.ntmps20
  go_wp2_with fail
  generalize hW : w.alloc _ = W
  obtain ⟨r0, z0, hb0⟩ := start1 w _ hW
  clear hW z0
  have HT := Lib.hid (Loc3.of r0)
  have HB := Lib.hid hb0
  clear r0 hb0
  have y0 := HT.out.c0
  have y1 := HT.out.c1
  have y2 := HT.out.c2
  refine (HN.out W).mono ?_
  rintro e w1 ⟨rfl, rfl⟩
  cases hn : nameOk nm
  · have HZ := Lib.hid (fmtD_no (V := V) (t := t) (show fdOk nm V t = false by unfold fdOk; rw [hn]; rfl))
    clear hn
    go_wp2_with fail
    go_ret
    exact ⟨ret_str HZ.out.symm, HB.out⟩
  have HRS := Lib.hid (spec_rises _ V _ W (HR.out W HB.out))
  go_wp2_with fail
  refine HRS.out.mono ?_
  rintro e w2 ⟨rfl, hb2⟩
  have HB2 := Lib.hid (below_then HB.out hb2)
  have HT2 := Lib.hid (HT.out.later hb2)
  clear hb2 y0 y1 y2 HT
  have y0 := HT2.out.c0
  have y1 := HT2.out.c1
  have y2 := HT2.out.c2
  cases hc : colsOk V 3
  · have HZ := Lib.hid (fmtD_no (nm := nm) (t := t) (show fdOk nm V t = false by unfold fdOk colsD; rw [hn, hc]; rfl))
    clear hn hc
    go_wp2_with fail
    go_ret
    exact ⟨ret_str HZ.out.symm, HB2.out⟩
  have HI := Lib.hid (fun w' => Fixed.l1In_any t 0 2 w')
  rw [in_col3F] at HI
  cases ht : colB t 3
  · have HZ := Lib.hid (fmtD_no (nm := nm) (show fdOk nm V t = false by unfold fdOk colsD; rw [hn, ht]; simp))
    rw [ht] at HI
    clear hn hc ht
    go_wp2_with fail
    refine (HI.out _).mono ?_
    rintro e w3 ⟨rfl, rfl⟩
    go_wp2_with fail
    go_ret
    exact ⟨ret_str HZ.out.symm, HB2.out⟩
  rw [ht] at HI
  have HH := Lib.hid (QrySpec.spec_has _ V t _ w2 (HR.out w2 HB2.out))
  cases hh : hasI V t
  case true =>
    have HZ := Lib.hid (fmtD_no (nm := nm) (show fdOk nm V t = false by unfold fdOk colsD; rw [hn, hh]; simp))
    rw [hh] at HH
    clear hn hc ht hh
    go_wp2_with fail
    refine (HI.out _).mono ?_
    rintro e w3 ⟨rfl, rfl⟩
    go_wp2_with fail
    refine HH.out.mono ?_
    rintro e w3 ⟨rfl, rfl⟩
    go_wp2_with fail
    go_ret
    exact ⟨ret_str HZ.out.symm, HB2.out⟩
  rw [hh] at HH
  have hcd : colsD (nm, V, t) 3 = true := by unfold colsD; rw [hc, ht, hh]; rfl
  have HZ := Lib.hid (fmtD_yes (show fdOk nm V t = true by unfold fdOk; rw [hn, hcd]; rfl))
  obtain ⟨f1, f2, f3, f4, f5⟩ := fd_parts hn hcd
  obtain ⟨⟨nl⟩⟩ := nm
  have hnl : nl.length = 1 := f1
  have HDG := Lib.hid (fun w' (hb : Below w.heap.size w w') => spec_digits (.slice a V.length cap) V _ w' (HR.out w' hb) (Nat.le_refl _) f3 (by omega))
  have HFI := Lib.hid (fun w' => Format.spec_any t w' (by omega))
  rw [TabFmt.itoa_digit ⟨f4, by omega⟩] at HFI
  have hdl : (digB V).length ≤ 3 := by rw [digB_len]; exact f2
  have HFIN := Lib.hid (show depB ⟨⟨nl⟩⟩ V t = nl ++ digB V ++ [62] ++ [UInt8.ofNat (48 + t.toNat)] from rfl)
  clear hn hc ht hh hcd f1 f2 f3 f4 f5
  generalize digB V = dg at *
  generalize UInt8.ofNat (48 + t.toNat) = dz at *
  have l1 : ¬ 9223372036854775807 < nl.length + dg.length := by omega
  have l2 : ¬ 9223372036854775807 < nl.length + dg.length + 1 := by omega
  have l3 : ¬ 9223372036854775807 < nl.length + dg.length + 1 + 1 := by omega
  clear hnl hdl
  go_wp2_with fail
  refine (HI.out _).mono ?_
  rintro e w3 ⟨rfl, rfl⟩
  go_wp2_with fail
  refine HH.out.mono ?_
  rintro e w3 ⟨rfl, rfl⟩
  go_wp2_with fail
  have kk : LaterF w2 w2.drew := (Below.refl _ w2).drew
  go_region_held3 (fun wx => wx.cell? ⟨w.heap.size, 0, none⟩ = some (.string ⟨⟨nl⟩⟩) ∧ wx.cell? ⟨w.heap.size, 1, none⟩ = some (.slice a V.length cap) ∧ wx.cell? ⟨w.heap.size, 2, none⟩ = some (.int .i64 t) ∧ LaterF w2 wx)
    ((refine ⟨?_, ?_, ?_, ?_⟩ <;> first | assumption | (simp [*]; done)))
    (first | (go_at_call 46; refine (HDG.out _ (below_then HB2.out (by assumption))).mono ?_; rintro e wq ⟨rfl, hbq⟩; (have kk : LaterF w2 wq := below_then (by assumption) hbq); (have k0 := (HT2.out.later kk).c0); (have k1 := (HT2.out.later kk).c1); (have k2 := (HT2.out.later kk).c2); clear hbq) | (go_at_call 42; refine (HFI.out _).mono ?_; rintro e wq ⟨rfl, hbq⟩; (have kk : LaterF w2 wq := below_then (by assumption) hbq); (have k0 := (HT2.out.later kk).c0); (have k1 := (HT2.out.later kk).c1); (have k2 := (HT2.out.later kk).c2); clear hbq))
  all_goals
    go_wp2_with fail
    go_ret
    exact ⟨ret_str (by rw [HZ.out, HFIN.out]; simp [ByteArray.mk_append_mk]), below_then HB2.out (by assumption)⟩
set_option maxRecDepth 100000 in
set_option maxHeartbeats 3200000 in
theorem impl_fmtd (nm : ByteArray) (V : List Int) (t : Int) (v : Value) (S : Nat → Prop) (w : World) (hr : rowC.rd w S [v] V) (htab : Format.Tab w) :
    Calls Tryd.prog 22 #[.agg #[.string nm, v, .int .i64 t]] w fun e w' => e = .returned (.string (fmtD nm V t)) ∧ Below w.heap.size w w' := by
  have HR := Lib.hid (fun w' (hb : Below w.heap.size w w') => Cd.later hr hb)
  have HTB := Lib.hid (fun w' (hb : Below w.heap.size w w') => Format.tab_later hb htab)
  obtain ⟨a, cap, rfl, hlm, _⟩ := (row_ri hr).1
  clear hr htab
  go_enter Tryd.func22, Tryd.ntmps22
  go_wp2_with fail
  generalize hW : w.alloc _ = W
  obtain ⟨r0, z0, hb0⟩ := start1 w _ hW
  clear hW z0
  have HT := Lib.hid (Loc3.of r0)
  have HB := Lib.hid hb0
  clear r0 hb0
  have y0 := HT.out.c0
  have y1 := HT.out.c1
  have y2 := HT.out.c2
  cases hn : nameOk nm
  · have HZ := Lib.hid (fmtD_no (V := V) (t := t) (show fdOk nm V t = false by unfold fdOk; rw [hn]; rfl))
    refine (is_name_at hn W).mono ?_
    rintro e w1 ⟨rfl, rfl⟩
    clear hn
    go_wp2_with fail
    go_ret
    exact ⟨ret_str HZ.out.symm, HB.out⟩
  refine (is_name_at hn W).mono ?_
  rintro e w1 ⟨rfl, rfl⟩
  have HC := Lib.hid (DepImp.impl_below nm _ V t 3 _ W (HR.out W HB.out))
  go_wp2_with fail
  refine HC.out.mono ?_
  rintro e w2 ⟨rfl, hb2⟩
  have HB2 := Lib.hid (below_then HB.out hb2)
  have HT2 := Lib.hid (HT.out.later hb2)
  clear hb2 y0 y1 y2 HT HC
  have y0 := HT2.out.c0
  have y1 := HT2.out.c1
  have y2 := HT2.out.c2
  cases hcd : colsD (nm, V, t) 3
  · have HZ := Lib.hid (fmtD_no (show fdOk nm V t = false by unfold fdOk; rw [hn, hcd]; rfl))
    clear hn hcd
    go_wp2_with fail
    go_ret
    exact ⟨ret_str HZ.out.symm, HB2.out⟩
  have HZ := Lib.hid (fmtD_yes (show fdOk nm V t = true by unfold fdOk; rw [hn, hcd]; rfl))
  obtain ⟨f1, f2, f3, f4, f5⟩ := fd_parts hn hcd
  obtain ⟨⟨nl⟩⟩ := nm
  have hnl : nl.length = 1 := f1
  have HDG := Lib.hid (fun w' (hb : Below w.heap.size w w') => (show Calls Tryd.prog 49 #[.slice a V.length cap] w' fun e w'' => e = .returned (.string ⟨(digB V).toArray⟩) ∧ Below w'.heap.size w' w'' from Dig.format_digits (.slice a V.length cap) V _ w' (row_ri (HR.out w' hb)).1 (Nat.le_refl _) (by omega) f3))
  have HFI := Lib.hid (fun w' (hb : Below w.heap.size w w') => Format.impl_any t w' (by omega) (HTB.out w' hb))
  rw [show Lib.itoa t = [UInt8.ofNat (48 + t.toNat)] from TabFmt.itoa_digit ⟨f4, by omega⟩] at HFI
  have hdl : (digB V).length ≤ 3 := by rw [digB_len]; exact f2
  have HFIN := Lib.hid (show depB ⟨⟨nl⟩⟩ V t = nl ++ digB V ++ [62] ++ [UInt8.ofNat (48 + t.toNat)] from rfl)
  clear hn hcd f1 f2 f3 f4 f5
  generalize digB V = dg at *
  generalize UInt8.ofNat (48 + t.toNat) = dz at *
  have l1 : ¬ 9223372036854775807 < nl.length + dg.length := by omega
  have l2 : ¬ 9223372036854775807 < nl.length + dg.length + 1 := by omega
  have l3 : ¬ 9223372036854775807 < nl.length + dg.length + 1 + 1 := by omega
  clear hnl hdl
  go_wp2_with fail
  have kk : LaterF w2 w2.drew := (Below.refl _ w2).drew
  go_region_held3 (fun wx => wx.cell? ⟨w.heap.size, 0, none⟩ = some (.string ⟨⟨nl⟩⟩) ∧ wx.cell? ⟨w.heap.size, 1, none⟩ = some (.slice a V.length cap) ∧ wx.cell? ⟨w.heap.size, 2, none⟩ = some (.int .i64 t) ∧ LaterF w2 wx)
    ((refine ⟨?_, ?_, ?_, ?_⟩ <;> first | assumption | (simp [*]; done)))
    (first | (go_at_call 49; refine (HDG.out _ (below_then HB2.out (by assumption))).mono ?_; rintro e wq ⟨rfl, hbq⟩; (have kk : LaterF w2 wq := below_then (by assumption) hbq); (have k0 := (HT2.out.later kk).c0); (have k1 := (HT2.out.later kk).c1); (have k2 := (HT2.out.later kk).c2); clear hbq) | (go_at_call 38; refine (HFI.out _ (below_then HB2.out (by assumption))).mono ?_; rintro e wq ⟨rfl, hbq⟩; (have kk : LaterF w2 wq := below_then (by assumption) hbq); (have k0 := (HT2.out.later kk).c0); (have k1 := (HT2.out.later kk).c1); (have k2 := (HT2.out.later kk).c2); clear hbq))
  all_goals
    go_wp2_with fail
    go_ret
    exact ⟨ret_str (by rw [HZ.out, HFIN.out]; simp [ByteArray.mk_append_mk]), below_then HB2.out (by assumption)⟩
end Go.Proofs.YtnoennmhifmolaaDoor.DepFmt
