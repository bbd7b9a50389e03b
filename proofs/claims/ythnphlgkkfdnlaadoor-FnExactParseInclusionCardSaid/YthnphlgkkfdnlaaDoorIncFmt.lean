/- Inclusions: their format: the model's function and the program's. -/
import Derived.Test.YthnphlgkkfdnlaaDoorDepCol
import Derived.Test.YthnphlgkkfdnlaaDoorInc
import Derived.Test.YthnphlgkkfdnlaaDoorTabFmt
import Derived.Test.YthnphlgkkfdnlaaDoorTabImp1
import Derived.Test.YthnphlgkkfdnlaaDoorShelf
import Derived.Deep.RegionHeld3
namespace Go.Proofs.YthnphlgkkfdnlaaDoor.IncFmt
open Go Go.RowKit Byt Ints IntsLaw Cd Rows2 Tab TabSpec Exact Inc TabFmt DepMath
open TabImp (is_name_at)

theorem in_col3I (c : Int) : (decide ((0 : Int) ≤ c) && decide (c ≤ 2)) = colB c 3 := by
  unfold colB
  rw [← Bool.decide_and]
  exact decide_eq_decide.2 ⟨fun h => ⟨h.1, by omega⟩, fun h => ⟨h.1, by omega⟩⟩
def fiOk (n1 : ByteArray) (c1 : Int) (n2 : ByteArray) (c2 : Int) : Bool := nameOk n1 && nameOk n2 && colB c1 3 && colB c2 3
def incB (n1 : ByteArray) (c1 : Int) (n2 : ByteArray) (c2 : Int) : List UInt8 := n1.data.toList ++ [UInt8.ofNat (48 + c1.toNat)] ++ [60] ++ n2.data.toList ++ [UInt8.ofNat (48 + c2.toNat)]
def fmtI (n1 : ByteArray) (c1 : Int) (n2 : ByteArray) (c2 : Int) : ByteArray := ⟨(if fiOk n1 c1 n2 c2 then incB n1 c1 n2 c2 else []).toArray⟩
theorem fmtI_no {n1 n2 : ByteArray} {c1 c2 : Int} (h : fiOk n1 c1 n2 c2 = false) : fmtI n1 c1 n2 c2 = ⟨#[]⟩ := by unfold fmtI; rw [h]; rfl
theorem fmtI_yes {n1 n2 : ByteArray} {c1 c2 : Int} (h : fiOk n1 c1 n2 c2 = true) : fmtI n1 c1 n2 c2 = ⟨(incB n1 c1 n2 c2).toArray⟩ := by unfold fmtI; rw [h]; rfl
def LaterI (w w' : World) : Prop := Below w.heap.size w w'
set_option maxRecDepth 100000 in
set_option maxHeartbeats 3200000 in
theorem spec_fmti (n1 : ByteArray) (c1 : Int) (n2 : ByteArray) (c2 : Int) (w : World) :
    Calls Tryd.prog 16 #[.agg #[.string n1, .int .i64 c1, .string n2, .int .i64 c2]] w fun e w' => e = .returned (.string (fmtI n1 c1 n2 c2)) ∧ Below w.heap.size w w' := by
  have HN := Lib.hid (fun nm w' => spec_name nm w')
  go_enter Tryd.func16, Tryd.ntmps16
  go_wp2_with fail
  generalize hW : w.alloc _ = W
  obtain ⟨r0, z0, hb0⟩ := start1 w _ hW
  clear hW z0
  have HT := Lib.hid (Loc4.of r0)
  have HB := Lib.hid hb0
  clear r0 hb0
  have y0 := HT.out.c0
  have y1 := HT.out.c1
  have y2 := HT.out.c2
  have y3 := HT.out.c3
  have HI := Lib.hid (fun c w' => Fixed.l1In_any c 0 2 w')
  refine (HN.out n1 W).mono ?_
  rintro e w1 ⟨rfl, rfl⟩
  cases h1 : nameOk n1
  · have HZ := Lib.hid (fmtI_no (n2 := n2) (c1 := c1) (c2 := c2) (show fiOk n1 c1 n2 c2 = false by unfold fiOk; rw [h1]; rfl))
    clear h1
    go_wp2_with fail
    go_ret
    exact ⟨ret_str HZ.out.symm, HB.out⟩
  go_wp2_with fail
  refine (HN.out n2 W).mono ?_
  rintro e w1 ⟨rfl, rfl⟩
  cases h2 : nameOk n2
  · have HZ := Lib.hid (fmtI_no (n1 := n1) (c1 := c1) (c2 := c2) (show fiOk n1 c1 n2 c2 = false by unfold fiOk; rw [h2]; simp))
    clear h1 h2
    go_wp2_with fail
    go_ret
    exact ⟨ret_str HZ.out.symm, HB.out⟩
  have HI1 := Lib.hid (HI.out c1)
  have HI2 := Lib.hid (HI.out c2)
  rw [in_col3I] at HI1 HI2
  cases hc1 : colB c1 3
  · have HZ := Lib.hid (fmtI_no (n1 := n1) (n2 := n2) (c2 := c2) (show fiOk n1 c1 n2 c2 = false by unfold fiOk; rw [hc1]; simp))
    rw [hc1] at HI1
    clear h1 h2 hc1
    go_wp2_with fail
    refine (HI1.out _).mono ?_
    rintro e w3 ⟨rfl, rfl⟩
    go_wp2_with fail
    go_ret
    exact ⟨ret_str HZ.out.symm, HB.out⟩
  rw [hc1] at HI1
  cases hc2 : colB c2 3
  · have HZ := Lib.hid (fmtI_no (n1 := n1) (n2 := n2) (c1 := c1) (show fiOk n1 c1 n2 c2 = false by unfold fiOk; rw [hc2]; simp))
    rw [hc2] at HI2
    clear h1 h2 hc1 hc2
    go_wp2_with fail
    refine (HI1.out _).mono ?_
    rintro e w3 ⟨rfl, rfl⟩
    go_wp2_with fail
    refine (HI2.out _).mono ?_
    rintro e w3 ⟨rfl, rfl⟩
    go_wp2_with fail
    go_ret
    exact ⟨ret_str HZ.out.symm, HB.out⟩
  rw [hc2] at HI2
  have HZ := Lib.hid (fmtI_yes (show fiOk n1 c1 n2 c2 = true by unfold fiOk; rw [h1, h2, hc1, hc2]; rfl))
  have q1 := colB_iff.1 hc1
  have q2 := colB_iff.1 hc2
  obtain ⟨⟨nl⟩⟩ := n1
  obtain ⟨⟨ml⟩⟩ := n2
  have hnl : nl.length = 1 := (of_decide_eq_true h1).1
  have hml : ml.length = 1 := (of_decide_eq_true h2).1
  have HF1 := Lib.hid (fun w' => Format.spec_any c1 w' (by omega))
  have HF2 := Lib.hid (fun w' => Format.spec_any c2 w' (by omega))
  rw [TabFmt.itoa_digit ⟨q1.1, by omega⟩] at HF1
  rw [TabFmt.itoa_digit ⟨q2.1, by omega⟩] at HF2
  have HFIN := Lib.hid (show incB ⟨⟨nl⟩⟩ c1 ⟨⟨ml⟩⟩ c2 = nl ++ [UInt8.ofNat (48 + c1.toNat)] ++ [60] ++ ml ++ [UInt8.ofNat (48 + c2.toNat)] from rfl)
  clear h1 h2 hc1 hc2 q1 q2 HN HI
  generalize UInt8.ofNat (48 + c1.toNat) = dy at *
  generalize UInt8.ofNat (48 + c2.toNat) = dz at *
  have l1 : ¬ 9223372036854775807 < nl.length + 1 := by omega
  have l2 : ¬ 9223372036854775807 < nl.length + 1 + 1 := by omega
  have l3 : ¬ 9223372036854775807 < nl.length + 1 + 1 + ml.length := by omega
  have l4 : ¬ 9223372036854775807 < nl.length + 1 + 1 + ml.length + 1 := by omega
  clear hnl hml
  go_wp2_with fail
  refine (HI1.out _).mono ?_
  rintro e w3 ⟨rfl, rfl⟩
  go_wp2_with fail
  refine (HI2.out _).mono ?_
  rintro e w3 ⟨rfl, rfl⟩
  go_wp2_with fail
  have kk : LaterI W W.drew := (Below.refl _ W).drew
  go_region_held3 (fun wx => wx.cell? ⟨w.heap.size, 0, none⟩ = some (.string ⟨⟨nl⟩⟩) ∧ wx.cell? ⟨w.heap.size, 1, none⟩ = some (.int .i64 c1) ∧ wx.cell? ⟨w.heap.size, 2, none⟩ = some (.string ⟨⟨ml⟩⟩) ∧ wx.cell? ⟨w.heap.size, 3, none⟩ = some (.int .i64 c2) ∧ LaterI W wx)
    ((refine ⟨?_, ?_, ?_, ?_, ?_⟩ <;> first | assumption | (simp [*]; done)))
    (first | (go_at_call_of 31 (Value.int .i64 c1); refine (HF1.out _).mono ?_; rintro e wq ⟨rfl, hbq⟩; (have kk : LaterI W wq := below_then (by assumption) hbq); (have k0 := (HT.out.later kk).c0); (have k1 := (HT.out.later kk).c1); (have k2 := (HT.out.later kk).c2); (have k3 := (HT.out.later kk).c3); clear hbq) | (go_at_call_of 31 (Value.int .i64 c2); refine (HF2.out _).mono ?_; rintro e wq ⟨rfl, hbq⟩; (have kk : LaterI W wq := below_then (by assumption) hbq); (have k0 := (HT.out.later kk).c0); (have k1 := (HT.out.later kk).c1); (have k2 := (HT.out.later kk).c2); (have k3 := (HT.out.later kk).c3); clear hbq))
  all_goals
    go_wp2_with fail
    go_ret
    exact ⟨ret_str (by rw [HZ.out, HFIN.out]; simp [ByteArray.mk_append_mk]), below_then HB.out (by assumption)⟩
set_option maxRecDepth 100000 in
set_option maxHeartbeats 3200000 in
theorem impl_fmti (n1 : ByteArray) (c1 : Int) (n2 : ByteArray) (c2 : Int) (w : World) (htab : Format.Tab w) :
    Calls Tryd.prog 14 #[.agg #[.string n1, .int .i64 c1, .string n2, .int .i64 c2]] w fun e w' => e = .returned (.string (fmtI n1 c1 n2 c2)) ∧ Below w.heap.size w w' := by
  have HTB := Lib.hid (fun w' (hb : Below w.heap.size w w') => Format.tab_later hb htab)
  clear htab
  go_enter Tryd.func14, Tryd.ntmps14
  go_wp2_with fail
  generalize hW : w.alloc _ = W
  obtain ⟨r0, z0, hb0⟩ := start1 w _ hW
  clear hW z0
  have HT := Lib.hid (Loc4.of r0)
  have HB := Lib.hid hb0
  clear r0 hb0
  have y0 := HT.out.c0
  have y1 := HT.out.c1
  have y2 := HT.out.c2
  have y3 := HT.out.c3
  have HI1 := Lib.hid (fun w' => DepImp.impl_col c1 3 w')
  have HI2 := Lib.hid (fun w' => DepImp.impl_col c2 3 w')
  cases h1 : nameOk n1
  · have HZ := Lib.hid (fmtI_no (n2 := n2) (c1 := c1) (c2 := c2) (show fiOk n1 c1 n2 c2 = false by unfold fiOk; rw [h1]; rfl))
    refine (is_name_at h1 W).mono ?_
    rintro e w1 ⟨rfl, rfl⟩
    clear h1
    go_wp2_with fail
    go_ret
    exact ⟨ret_str HZ.out.symm, HB.out⟩
  refine (is_name_at h1 W).mono ?_
  rintro e w1 ⟨rfl, rfl⟩
  cases hc1 : colB c1 3
  · have HZ := Lib.hid (fmtI_no (n1 := n1) (n2 := n2) (c2 := c2) (show fiOk n1 c1 n2 c2 = false by unfold fiOk; rw [hc1]; simp))
    rw [hc1] at HI1
    clear h1 hc1
    go_wp2_with fail
    refine (HI1.out _).mono ?_
    rintro e w3 ⟨rfl, rfl⟩
    go_wp2_with fail
    go_ret
    exact ⟨ret_str HZ.out.symm, HB.out⟩
  rw [hc1] at HI1
  go_wp2_with fail
  refine (HI1.out _).mono ?_
  rintro e w3 ⟨rfl, rfl⟩
  go_wp2_with fail
  cases h2 : nameOk n2
  · have HZ := Lib.hid (fmtI_no (n1 := n1) (c1 := c1) (c2 := c2) (show fiOk n1 c1 n2 c2 = false by unfold fiOk; rw [h2]; simp))
    refine (is_name_at h2 W).mono ?_
    rintro e w1 ⟨rfl, rfl⟩
    clear h1 h2 hc1
    go_wp2_with fail
    go_ret
    exact ⟨ret_str HZ.out.symm, HB.out⟩
  refine (is_name_at h2 W).mono ?_
  rintro e w1 ⟨rfl, rfl⟩
  cases hc2 : colB c2 3
  · have HZ := Lib.hid (fmtI_no (n1 := n1) (n2 := n2) (c1 := c1) (show fiOk n1 c1 n2 c2 = false by unfold fiOk; rw [hc2]; simp))
    rw [hc2] at HI2
    clear h1 h2 hc1 hc2
    go_wp2_with fail
    refine (HI2.out _).mono ?_
    rintro e w3 ⟨rfl, rfl⟩
    go_wp2_with fail
    go_ret
    exact ⟨ret_str HZ.out.symm, HB.out⟩
  rw [hc2] at HI2
  have HZ := Lib.hid (fmtI_yes (show fiOk n1 c1 n2 c2 = true by unfold fiOk; rw [h1, h2, hc1, hc2]; rfl))
  have q1 := colB_iff.1 hc1
  have q2 := colB_iff.1 hc2
  obtain ⟨⟨nl⟩⟩ := n1
  obtain ⟨⟨ml⟩⟩ := n2
  have hnl : nl.length = 1 := (of_decide_eq_true h1).1
  have hml : ml.length = 1 := (of_decide_eq_true h2).1
  have HF1 := Lib.hid (fun w' (hb : Below w.heap.size w w') => Format.impl_any c1 w' (by omega) (HTB.out w' hb))
  have HF2 := Lib.hid (fun w' (hb : Below w.heap.size w w') => Format.impl_any c2 w' (by omega) (HTB.out w' hb))
  rw [show Lib.itoa c1 = [UInt8.ofNat (48 + c1.toNat)] from TabFmt.itoa_digit ⟨q1.1, by omega⟩] at HF1
  rw [show Lib.itoa c2 = [UInt8.ofNat (48 + c2.toNat)] from TabFmt.itoa_digit ⟨q2.1, by omega⟩] at HF2
  have HFIN := Lib.hid (show incB ⟨⟨nl⟩⟩ c1 ⟨⟨ml⟩⟩ c2 = nl ++ [UInt8.ofNat (48 + c1.toNat)] ++ [60] ++ ml ++ [UInt8.ofNat (48 + c2.toNat)] from rfl)
  clear h1 h2 hc1 hc2 q1 q2
  generalize UInt8.ofNat (48 + c1.toNat) = dy at *
  generalize UInt8.ofNat (48 + c2.toNat) = dz at *
  have l1 : ¬ 9223372036854775807 < nl.length + 1 := by omega
  have l2 : ¬ 9223372036854775807 < nl.length + 1 + 1 := by omega
  have l3 : ¬ 9223372036854775807 < nl.length + 1 + 1 + ml.length := by omega
  have l4 : ¬ 9223372036854775807 < nl.length + 1 + 1 + ml.length + 1 := by omega
  clear hnl hml
  go_wp2_with fail
  refine (HI2.out _).mono ?_
  rintro e w3 ⟨rfl, rfl⟩
  go_wp2_with fail
  have kk : LaterI W W.drew := (Below.refl _ W).drew
  go_region_held3 (fun wx => wx.cell? ⟨w.heap.size, 0, none⟩ = some (.string ⟨⟨nl⟩⟩) ∧ wx.cell? ⟨w.heap.size, 1, none⟩ = some (.int .i64 c1) ∧ wx.cell? ⟨w.heap.size, 2, none⟩ = some (.string ⟨⟨ml⟩⟩) ∧ wx.cell? ⟨w.heap.size, 3, none⟩ = some (.int .i64 c2) ∧ LaterI W wx)
    ((refine ⟨?_, ?_, ?_, ?_, ?_⟩ <;> first | assumption | (simp [*]; done)))
    (first | (go_at_call_of 27 (Value.int .i64 c1); refine (HF1.out _ (below_then HB.out (by assumption))).mono ?_; rintro e wq ⟨rfl, hbq⟩; (have kk : LaterI W wq := below_then (by assumption) hbq); (have k0 := (HT.out.later kk).c0); (have k1 := (HT.out.later kk).c1); (have k2 := (HT.out.later kk).c2); (have k3 := (HT.out.later kk).c3); clear hbq) | (go_at_call_of 27 (Value.int .i64 c2); refine (HF2.out _ (below_then HB.out (by assumption))).mono ?_; rintro e wq ⟨rfl, hbq⟩; (have kk : LaterI W wq := below_then (by assumption) hbq); (have k0 := (HT.out.later kk).c0); (have k1 := (HT.out.later kk).c1); (have k2 := (HT.out.later kk).c2); (have k3 := (HT.out.later kk).c3); clear hbq))
  all_goals
    go_wp2_with fail
    go_ret
    exact ⟨ret_str (by rw [HZ.out, HFIN.out]; simp [ByteArray.mk_append_mk]), below_then HB.out (by assumption)⟩
end Go.Proofs.YthnphlgkkfdnlaaDoor.IncFmt
