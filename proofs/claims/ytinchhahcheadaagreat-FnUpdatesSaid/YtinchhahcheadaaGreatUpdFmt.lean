/- Updates: their format: the model's function and the program's. -/
import Derived.Test.YtinchhahcheadaaGreatUpd
import Derived.Test.YtinchhahcheadaaGreatTabSpec2
import Derived.Test.YtinchhahcheadaaGreatTabImp1
import Derived.Test.YtinchhahcheadaaGreatTabFmt
import Derived.Test.YtinchhahcheadaaGreatDig
namespace Go.Proofs.YtinchhahcheadaaGreat.UpdFmt
open Go Go.RowKit Byt Ints IntsLaw Cd Rows2 Tab TabSpec Exact Upd TabFmt
open TabImp (is_name_at is_arity_at is_row)

def updOk (nm : ByteArray) (row : List Int) : Bool := nameOk nm && decide (1 ≤ (row.length : Int) ∧ (row.length : Int) ≤ 3) && rowOk row row.length
def signB (b : Bool) : UInt8 := if b then 43 else 45
def updB (nm : ByteArray) (b : Bool) (row : List Int) : List UInt8 := signB b :: (nm.data.toList ++ digB row)
def fmtU (nm : ByteArray) (b : Bool) (row : List Int) : ByteArray := ⟨(if updOk nm row then updB nm b row else []).toArray⟩
theorem fmtU_no {nm : ByteArray} {b : Bool} {row : List Int} (h : updOk nm row = false) : fmtU nm b row = ⟨#[]⟩ := by unfold fmtU; rw [h]; rfl
theorem fmtU_yes {nm : ByteArray} {b : Bool} {row : List Int} (h : updOk nm row = true) : fmtU nm b row = ⟨(updB nm b row).toArray⟩ := by unfold fmtU; rw [h]; rfl

/-- The kind of an update, as the program holds it. -/
def chV (b : Bool) : Value := if b then .iface 73 (.agg #[]) else .iface 82 (.agg #[])
set_option maxRecDepth 100000 in
theorem change_of (nm : ByteArray) (b : Bool) (u : Value) (w : World) :
    Calls Tryz.prog 22 #[.agg #[.string nm, .bool b, u]] w fun e w' => e = .returned (chV b) ∧ Below w.heap.size w w' := by
  cases b
  · go_enter Tryz.func22, Tryz.ntmps22
    go_wp2_with fail
    go_ret
    exact ⟨rfl, below_alloc _ _⟩
  · go_enter Tryz.func22, Tryz.ntmps22
    go_wp2_with fail
    go_ret
    exact ⟨rfl, below_alloc _ _⟩
theorem sign_ins (w : World) : Calls Tryz.prog 40 #[.agg #[]] w fun e w' => e = .returned (.string ⟨#[43]⟩) ∧ Below w.heap.size w w' := by
  go_enter Tryz.func40, Tryz.ntmps40
  go_wp2_with fail
  go_ret
  exact ⟨rfl, below_alloc _ _⟩
theorem sign_del (w : World) : Calls Tryz.prog 132 #[.agg #[]] w fun e w' => e = .returned (.string ⟨#[45]⟩) ∧ Below w.heap.size w w' := by
  go_enter Tryz.func132, Tryz.ntmps132
  go_wp2_with fail
  go_ret
  exact ⟨rfl, below_alloc _ _⟩
theorem m_sign_ins (w : World) : (method 259 73 (.agg #[]) "loop.example/g01921/impl.sign").run Tryz.prog w = .ok (40, .agg #[]) w := by kernel_rfl
theorem m_sign_del (w : World) : (method 259 82 (.agg #[]) "loop.example/g01921/impl.sign").run Tryz.prog w = .ok (132, .agg #[]) w := by kernel_rfl

def LaterU (w w' : World) : Prop := Below w.heap.size w w'
set_option maxRecDepth 100000 in
set_option maxHeartbeats 3200000 in
theorem impl_fmtu (nm : ByteArray) (b : Bool) (u : Value) (row : List Int) (S : Nat → Prop) (w : World) (hr : rowC.rd w S [u] row) :
    Calls Tryz.prog 14 #[.agg #[.string nm, .bool b, u]] w fun e w' => e = .returned (.string (fmtU nm b row)) ∧ Below w.heap.size w w' := by
  have HR := Lib.hid (fun w' (hb : Below w.heap.size w w') => Cd.later hr hb)
  obtain ⟨a, cap, rfl, hlm⟩ := row_form hr
  clear hr
  cases hn : nameOk nm
  · have HZ := Lib.hid (fmtU_no (b := b) (show updOk nm row = false by unfold updOk; rw [hn]; rfl))
    have HN := Lib.hid (fun w' => is_name_at hn w')
    clear hn
    go_enter Tryz.func14, Tryz.ntmps14
    go_wp2_with (go_at_call 36; refine (HN.out _).mono ?_; rintro e w1 ⟨rfl, rfl⟩)
    go_ret
    exact ⟨ret_str HZ.out.symm, below_alloc _ _⟩
  have HN := Lib.hid (fun w' => is_name_at hn w')
  cases ha : decide (1 ≤ (row.length : Int) ∧ (row.length : Int) ≤ 3)
  · have HZ := Lib.hid (fmtU_no (b := b) (show updOk nm row = false by unfold updOk; rw [ha, hn]; rfl))
    have HA := Lib.hid (fun w' => is_arity_at ha w')
    clear hn ha
    go_enter Tryz.func14, Tryz.ntmps14
    go_wp2_with (first | (go_at_call 36; refine (HN.out _).mono ?_; rintro e w1 ⟨rfl, rfl⟩) | (go_at_call 37; refine (HA.out _).mono ?_; rintro e w1 ⟨rfl, rfl⟩))
    go_ret
    exact ⟨ret_str HZ.out.symm, below_alloc _ _⟩
  have HA := Lib.hid (fun w' => is_arity_at ha w')
  have HRW := Lib.hid (fun w' (hb : Below w.heap.size w w') => is_row (.slice a row.length cap) row row.length _ w' (row_ri (HR.out w' hb)).1)
  cases hk : rowOk row row.length
  · have HZ := Lib.hid (fmtU_no (b := b) (show updOk nm row = false by unfold updOk; rw [ha, hn, hk]; rfl))
    rw [hk] at HRW
    clear hn ha hk
    go_enter Tryz.func14, Tryz.ntmps14
    go_wp2_with (first | (go_at_call 36; refine (HN.out _).mono ?_; rintro e w1 ⟨rfl, rfl⟩) | (go_at_call 37; refine (HA.out _).mono ?_; rintro e w1 ⟨rfl, rfl⟩) | (go_at_call 38; refine (HRW.out _ (below_alloc _ _)).mono ?_; rintro e w1 ⟨rfl, rfl⟩))
    go_ret
    exact ⟨ret_str HZ.out.symm, below_alloc _ _⟩
  have HZ := Lib.hid (fmtU_yes (b := b) (show updOk nm row = true by unfold updOk; rw [ha, hn, hk]; rfl))
  rw [hk] at HRW
  have hrk := rowOk_iff.1 hk
  have hal : row.length ≤ 3 := by have := of_decide_eq_true ha; omega
  obtain ⟨⟨nl⟩⟩ := nm
  have hnl : nl.length = 1 := by have := of_decide_eq_true hn; exact this.1
  have HDG := Lib.hid (fun w' (hb : Below w.heap.size w w') => (show Calls Tryz.prog 39 #[.slice a row.length cap] w' fun e w'' => e = .returned (.string ⟨(digB row).toArray⟩) ∧ Below w'.heap.size w' w'' from Dig.format_digits (.slice a row.length cap) row _ w' (row_ri (HR.out w' hb)).1 (Nat.le_refl _) (by omega) hrk.2))
  have hdl : (digB row).length ≤ 3 := by rw [digB_len]; exact hal
  have HFIN := Lib.hid (show updB ⟨⟨nl⟩⟩ b row = [signB b] ++ nl ++ digB row by simp [updB])
  clear hn ha hk hrk hal
  generalize digB row = dg at *
  go_enter Tryz.func14, Tryz.ntmps14
  go_wp2_with (first | (go_at_call 36; refine (HN.out _).mono ?_; rintro e w1 ⟨rfl, rfl⟩) | (go_at_call 37; refine (HA.out _).mono ?_; rintro e w1 ⟨rfl, rfl⟩) | (go_at_call 38; refine (HRW.out _ (below_alloc _ _)).mono ?_; rintro e w1 ⟨rfl, rfl⟩) | fail)
  have HT := Lib.hid (Loc3.of (row_alloc w (.cells #[.string ⟨⟨nl⟩⟩, .bool b, .slice a row.length cap] 29)))
  have HB := Lib.hid (below_alloc w (.cells #[.string ⟨⟨nl⟩⟩, .bool b, .slice a row.length cap] 29))
  generalize w.alloc _ = W at *
  have y0 := HT.out.c0
  have y1 := HT.out.c1
  have y2 := HT.out.c2
  have kk : LaterU W W.drew := (Below.refl _ W).drew
  have l1 : ¬ 9223372036854775807 < nl.length + 1 := by omega
  have l2 : ¬ 9223372036854775807 < nl.length + 1 + dg.length := by omega
  have l3 : ¬ 9223372036854775807 < 1 + nl.length := by omega
  have l4 : ¬ 9223372036854775807 < 1 + nl.length + dg.length := by omega
  clear hnl hdl
  have HCH := Lib.hid (fun w' => change_of ⟨⟨nl⟩⟩ b (.slice a row.length cap) w')
  cases b
  · have hm := m_sign_del
    have HSG := Lib.hid sign_del
    change Hid (∀ w', Calls _ _ _ _ fun e w'' => e = .returned (.iface 82 (.agg #[])) ∧ _) at HCH
    go_region_held3 (fun wx => wx.cell? ⟨w.heap.size, 0, none⟩ = some (.string ⟨⟨nl⟩⟩) ∧ wx.cell? ⟨w.heap.size, 1, none⟩ = some (.bool false) ∧ wx.cell? ⟨w.heap.size, 2, none⟩ = some (.slice a row.length cap) ∧ LaterU W wx)
      ((refine ⟨?_, ?_, ?_, ?_⟩ <;> first | assumption | (simp [*]; done)))
      (first | (go_at_call 22; refine (HCH.out _).mono ?_; rintro e wq ⟨rfl, hbq⟩; (have kk : LaterU W wq := below_then (by assumption) hbq); (have k0 := (HT.out.later kk).c0); (have k1 := (HT.out.later kk).c1); (have k2 := (HT.out.later kk).c2); clear hbq) | (go_at_call 132; refine (HSG.out _).mono ?_; rintro e wq ⟨rfl, hbq⟩; (have kk : LaterU W wq := below_then (by assumption) hbq); (have k0 := (HT.out.later kk).c0); (have k1 := (HT.out.later kk).c1); (have k2 := (HT.out.later kk).c2); clear hbq) | (go_at_call 39; refine (HDG.out _ (below_then HB.out (by assumption))).mono ?_; rintro e wq ⟨rfl, hbq⟩; (have kk : LaterU W wq := below_then (by assumption) hbq); (have k0 := (HT.out.later kk).c0); (have k1 := (HT.out.later kk).c1); (have k2 := (HT.out.later kk).c2); clear hbq))
    all_goals
      go_wp2_with fail
      go_ret
      exact ⟨ret_str (by rw [HZ.out, HFIN.out]; simp [ByteArray.mk_append_mk, signB]), below_then HB.out (by assumption)⟩
  · have hm := m_sign_ins
    have HSG := Lib.hid sign_ins
    change Hid (∀ w', Calls _ _ _ _ fun e w'' => e = .returned (.iface 73 (.agg #[])) ∧ _) at HCH
    go_region_held3 (fun wx => wx.cell? ⟨w.heap.size, 0, none⟩ = some (.string ⟨⟨nl⟩⟩) ∧ wx.cell? ⟨w.heap.size, 1, none⟩ = some (.bool true) ∧ wx.cell? ⟨w.heap.size, 2, none⟩ = some (.slice a row.length cap) ∧ LaterU W wx)
      ((refine ⟨?_, ?_, ?_, ?_⟩ <;> first | assumption | (simp [*]; done)))
      (first | (go_at_call 22; refine (HCH.out _).mono ?_; rintro e wq ⟨rfl, hbq⟩; (have kk : LaterU W wq := below_then (by assumption) hbq); (have k0 := (HT.out.later kk).c0); (have k1 := (HT.out.later kk).c1); (have k2 := (HT.out.later kk).c2); clear hbq) | (go_at_call 40; refine (HSG.out _).mono ?_; rintro e wq ⟨rfl, hbq⟩; (have kk : LaterU W wq := below_then (by assumption) hbq); (have k0 := (HT.out.later kk).c0); (have k1 := (HT.out.later kk).c1); (have k2 := (HT.out.later kk).c2); clear hbq) | (go_at_call 39; refine (HDG.out _ (below_then HB.out (by assumption))).mono ?_; rintro e wq ⟨rfl, hbq⟩; (have kk : LaterU W wq := below_then (by assumption) hbq); (have k0 := (HT.out.later kk).c0); (have k1 := (HT.out.later kk).c1); (have k2 := (HT.out.later kk).c2); clear hbq))
    all_goals
      go_wp2_with fail
      go_ret
      exact ⟨ret_str (by rw [HZ.out, HFIN.out]; simp [ByteArray.mk_append_mk, signB]), below_then HB.out (by assumption)⟩
end Go.Proofs.YtinchhahcheadaaGreat.UpdFmt
