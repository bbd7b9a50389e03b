/- Updates: their format: the model's function. -/
import Derived.Test.YtinchhahcheadaaGreatUpdFmt
namespace Go.Proofs.YtinchhahcheadaaGreat.UpdFmt
open Go Go.RowKit Byt Ints IntsLaw Cd Rows2 Tab TabSpec Exact Upd TabFmt

set_option maxRecDepth 100000 in
set_option maxHeartbeats 3200000 in
theorem spec_fmtu (nm : ByteArray) (b : Bool) (u : Value) (row : List Int) (S : Nat → Prop) (w : World) (hr : rowC.rd w S [u] row) :
    Calls Tryz.prog 17 #[.agg #[.string nm, .bool b, u]] w fun e w' => e = .returned (.string (fmtU nm b row)) ∧ Below w.heap.size w w' := by
  have HR := Lib.hid (fun w' (hb : Below w.heap.size w w') => Cd.later hr hb)
  obtain ⟨a, cap, rfl, hlm⟩ := row_form hr
  clear hr
  have HN := Lib.hid (fun w' => spec_name nm w')
  have HRW := Lib.hid (fun w' (hb : Below w.heap.size w w') => spec_row (.slice a row.length cap) row row.length _ w' (row_ri (HR.out w' hb)).1)
  have HA := Lib.hid (fun w' => Fixed.l1In_any row.length 1 3 w')
  cases hn : nameOk nm
  · have HZ := Lib.hid (fmtU_no (b := b) (show updOk nm row = false by unfold updOk; rw [hn]; rfl))
    rw [hn] at HN
    clear hn
    go_enter Tryz.func17, Tryz.ntmps17
    go_wp2_with (go_at_call 43; refine (HN.out _).mono ?_; rintro e w1 ⟨rfl, rfl⟩)
    go_ret
    exact ⟨ret_str HZ.out.symm, below_alloc _ _⟩
  rw [hn] at HN
  cases hk : rowOk row row.length
  · have HZ := Lib.hid (fmtU_no (b := b) (show updOk nm row = false by unfold updOk; rw [hk]; simp))
    rw [hk] at HRW
    clear hn hk
    go_enter Tryz.func17, Tryz.ntmps17
    go_wp2_with (first | (go_at_call 43; refine (HN.out _).mono ?_; rintro e w1 ⟨rfl, rfl⟩) | (go_at_call 44; refine (HRW.out _ (below_alloc _ _)).mono ?_; rintro e w1 ⟨rfl, rfl⟩))
    go_ret
    exact ⟨ret_str HZ.out.symm, below_alloc _ _⟩
  rw [hk] at HRW
  have HAA := Lib.hid (show (decide (1 ≤ (row.length : Int)) && decide ((row.length : Int) ≤ 3)) = decide (1 ≤ (row.length : Int) ∧ (row.length : Int) ≤ 3) by simp)
  rw [HAA.out] at HA
  cases ha : decide (1 ≤ (row.length : Int) ∧ (row.length : Int) ≤ 3)
  · have HZ := Lib.hid (fmtU_no (b := b) (show updOk nm row = false by unfold updOk; rw [ha, hn]; rfl))
    rw [ha] at HA
    clear hn hk ha HAA
    go_enter Tryz.func17, Tryz.ntmps17
    go_wp2_with (first | (go_at_call 43; refine (HN.out _).mono ?_; rintro e w1 ⟨rfl, rfl⟩) | (go_at_call 44; refine (HRW.out _ (below_alloc _ _)).mono ?_; rintro e w1 ⟨rfl, rfl⟩) | (go_at_call 45; refine (HA.out _).mono ?_; rintro e w1 ⟨rfl, rfl⟩))
    go_ret
    exact ⟨ret_str HZ.out.symm, below_alloc _ _⟩
  rw [ha] at HA
  have HZ := Lib.hid (fmtU_yes (b := b) (show updOk nm row = true by unfold updOk; rw [ha, hn, hk]; rfl))
  have hrk := rowOk_iff.1 hk
  have hal : row.length ≤ 3 := by have := of_decide_eq_true ha; omega
  obtain ⟨⟨nl⟩⟩ := nm
  have hnl : nl.length = 1 := by have := of_decide_eq_true hn; exact this.1
  have HDG := Lib.hid (fun w' (hb : Below w.heap.size w w') => spec_digits (.slice a row.length cap) row _ w' (row_ri (HR.out w' hb)).1 (Nat.le_refl _) hrk.2 (by omega))
  have hdl : (digB row).length ≤ 3 := by rw [digB_len]; exact hal
  have HFIN := Lib.hid (show updB ⟨⟨nl⟩⟩ b row = [signB b] ++ nl ++ digB row by simp [updB])
  have HT := Lib.hid (Loc3.of (row_alloc w (.cells #[.string ⟨⟨nl⟩⟩, .bool b, .slice a row.length cap] 29)))
  have HB := Lib.hid (below_alloc w (.cells #[.string ⟨⟨nl⟩⟩, .bool b, .slice a row.length cap] 29))
  clear hn ha hk hrk hal HAA
  generalize digB row = dg at *
  have l1 : ¬ 9223372036854775807 < nl.length + 1 := by omega
  have l2 : ¬ 9223372036854775807 < nl.length + 1 + dg.length := by omega
  have l3 : ¬ 9223372036854775807 < 1 + nl.length := by omega
  have l4 : ¬ 9223372036854775807 < 1 + nl.length + dg.length := by omega
  clear hnl hdl
  go_enter Tryz.func17, Tryz.ntmps17
  cases b
  all_goals
    go_wp2_with (first | (go_at_call 43; refine (HN.out _).mono ?_; rintro e w1 ⟨rfl, rfl⟩) | (go_at_call 44; refine (HRW.out _ (below_alloc _ _)).mono ?_; rintro e w1 ⟨rfl, rfl⟩) | (go_at_call 45; refine (HA.out _).mono ?_; rintro e w1 ⟨rfl, rfl⟩))
    generalize w.alloc _ = W at *
    have y0 := HT.out.c0
    have y1 := HT.out.c1
    have y2 := HT.out.c2
    have kk : LaterU W W.drew := (Below.refl _ W).drew
    go_region_held3 (fun wx => wx.cell? ⟨w.heap.size, 0, none⟩ = some (.string ⟨⟨nl⟩⟩) ∧ wx.cell? ⟨w.heap.size, 2, none⟩ = some (.slice a row.length cap) ∧ LaterU W wx)
      ((refine ⟨?_, ?_, ?_⟩ <;> first | assumption | (simp [*]; done)))
      (first | (go_at_call 46; refine (HDG.out _ (below_then HB.out (by assumption))).mono ?_; rintro e wq ⟨rfl, hbq⟩; (have kk : LaterU W wq := below_then (by assumption) hbq); (have k0 := (HT.out.later kk).c0); (have k2 := (HT.out.later kk).c2); clear hbq))
    all_goals
      go_wp2_with fail
      go_ret
      exact ⟨ret_str (by rw [HZ.out, HFIN.out]; simp [ByteArray.mk_append_mk, signB]), below_then HB.out (by assumption)⟩
end Go.Proofs.YtinchhahcheadaaGreat.UpdFmt
