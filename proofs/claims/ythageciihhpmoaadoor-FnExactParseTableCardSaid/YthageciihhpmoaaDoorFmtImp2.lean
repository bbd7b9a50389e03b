/- Tables: the program's format of a table. -/
import Derived.Test.YthageciihhpmoaaDoorFmtImp
namespace Go.Proofs.YthageciihhpmoaaDoor.TabImp
open Go Go.RowKit Byt Ints IntsLaw Cd Rows2 Tab TabSpec Exact TabFmt TabParse

/-- What was stands as it was. -/
def Later (w w' : World) : Prop := Below w.heap.size w w'
theorem join_owned (g : Nat) (rows : List (List Int)) (fp : List Nat) (w : World) (base : Nat) (how : strsC.ow w base [.slice (some ⟨g, 0, none⟩) rows.length rows.length] (digS rows) fp) (h8 : rows.length ≤ 8) (hl : (rowsB rows).length ≤ 100) :
    Calls Tryd.prog 21 #[.slice (some ⟨g, 0, none⟩) rows.length rows.length, .string ⟨#[32]⟩] w fun e w' => e = .returned (.string ⟨(rowsB rows).toArray⟩) ∧ Below w.heap.size w w' := by
  have hlen : (digS rows).length = rows.length := by unfold digS; rw [List.length_map]
  have hg : g < w.heap.size := by
    obtain ⟨v, xss, fps, e1, hown, _, _⟩ := how
    injection e1 with e1 _
    subst e1
    rcases hown.2 with ⟨e1, _⟩ | ⟨g', cap', cur, e1, _, hgg, _⟩
    · cases e1
    · simp only [Value.slice.injEq, Option.some.injEq, Addr.mk.injEq, and_true] at e1
      obtain ⟨rfl, _, _⟩ := e1
      exact (Array.getElem?_eq_some_iff.1 hgg).1
  have h := Tryd.strings_Join g 0 rows.length (digS rows) ⟨#[32]⟩ w (fun j x hj => by
    obtain ⟨hj1, hj2⟩ := List.getElem?_eq_some_iff.1 hj
    obtain ⟨b, off, cap, e1, _, hc⟩ := strs_at (strsC.ow_rd how) hj1
    simp only [Value.slice.injEq, Option.some.injEq, Addr.mk.injEq, and_true] at e1
    obtain ⟨⟨rfl, rfl⟩, _, _⟩ := e1
    rw [← hj2]
    exact hc) hg (by rw [hlen]; omega) (by rw [hlen]; exact Nat.le_refl _) (by rw [show (ByteArray.mk #[32]).data.toList = [32] from rfl, rowsB_join]; omega)
  rw [hlen, show (ByteArray.mk #[32]).data.toList = [32] from rfl, rowsB_join] at h
  exact h

set_option maxRecDepth 100000 in
set_option maxHeartbeats 3200000 in
theorem impl_fmt (nm : ByteArray) (ar : Int) (u : Value) (rows : List (List Int)) (S : Nat → Prop) (w : World) (hr : rowsC.rd w S [u] rows) (ht : Format.Tab w) :
    Calls Tryd.prog 8 #[.agg #[.string nm, .int .i64 ar, u]] w fun e w' => e = .returned (.string (fmtT nm ar rows)) ∧ Below w.heap.size w w' := by
  have HR := Lib.hid (fun w' (hb : Below w.heap.size w w') => Cd.later hr hb)
  have HTB := Lib.hid (fun w' (hb : Below w.heap.size w w') => Format.tab_later hb ht)
  obtain ⟨a, cap, rfl, hlm⟩ := rows_form hr
  clear hr ht
  go_enter Tryd.func8, Tryd.ntmps8
  go_wp2_with fail
  generalize hW : w.alloc _ = W
  obtain ⟨r0, _, hb0⟩ := start1 w _ hW
  clear hW
  have HV := Lib.hid (impl_valid nm ar _ rows S W (HR.out W hb0))
  by_cases hok : tabOk nm ar rows = true
  case neg =>
    have hok : tabOk nm ar rows = false := by simpa using hok
    rw [hok] at HV
    have HZ := Lib.hid (show fmtT nm ar rows = ⟨#[]⟩ by unfold fmtT; rw [hok]; rfl)
    have HB := Lib.hid hb0
    clear hok r0 hb0
    refine HV.out.mono ?_
    rintro e w1 ⟨rfl, hb1⟩
    have HB1 := Lib.hid (below_then HB.out hb1)
    clear hb1
    go_wp2_with fail
    go_ret
    exact ⟨ret_str HZ.out.symm, HB1.out⟩
  rw [hok] at HV
  have htp : TabP nm ar rows := of_decide_eq_true hok
  have HZ := Lib.hid (show fmtT nm ar rows = ⟨(tabB nm ar rows).toArray⟩ by unfold fmtT; rw [hok]; rfl)
  obtain ⟨⟨nl⟩⟩ := nm
  have hnl : nl.length = 1 := by have := of_decide_eq_true htp.1; exact this.1
  have har := And.intro htp.2.1 htp.2.2.1
  have HROW := Lib.hid (show ∀ r ∈ rows, r.length ≤ 3 ∧ ∀ x ∈ r, 0 ≤ x ∧ x ≤ 9 from fun r hr => by
    have := rowOk_iff.1 (htp.2.2.2.2.1 r hr)
    exact ⟨by omega, this.2⟩)
  have H8 := Lib.hid htp.2.2.2.1
  have HWT := Lib.hid (show rowsWt rows ≤ 100 by
    have : ∀ l : List (List Int), (∀ r ∈ l, r.length ≤ 3) → rowsWt l ≤ 4 * l.length := by
      intro l
      induction l with
      | nil => intro _; simp [rowsWt]
      | cons r rs ih =>
        intro h
        have h1 := ih (fun x hx => h x (List.mem_cons.2 (.inr hx)))
        have h2 := h r (List.mem_cons.2 (.inl rfl))
        simp [rowsWt] at *
        omega
    have h1 := this rows (fun r hr => (HROW.out r hr).1)
    have := H8.out
    omega)
  have HJL := Lib.hid (show (rowsB rows).length ≤ 100 by have := rowsB_len rows; have := HWT.out; omega)
  have HB := Lib.hid hb0
  have HT0 := Lib.hid (Loc3.of r0)
  have HNL := Lib.hid hnl
  have HAR := Lib.hid har
  clear hok r0 hb0 htp hnl har
  refine HV.out.mono ?_
  rintro e w1 ⟨rfl, hb1⟩
  have HB1 := Lib.hid (below_then HB.out hb1)
  have HT := Lib.hid (HT0.out.later hb1)
  have HD : Lib.itoa ar = [UInt8.ofNat (48 + ar.toNat)] := itoa_digit ⟨by have := HAR.out.1; omega, by have := HAR.out.2; omega⟩
  have HFI := Lib.hid (fun w' (hb : Later w1 w') => (show Calls Tryd.prog 20 #[.int .i64 ar] w' fun e w'' => e = .returned (.string ⟨[UInt8.ofNat (48 + ar.toNat)].toArray⟩) ∧ Below w'.heap.size w' w'' from by
    have h := Format.impl_any ar w' ⟨by have := HAR.out.1; omega, by have := HAR.out.2; omega⟩ (HTB.out w' (below_then HB1.out hb))
    rw [HD] at h
    exact h))
  have HMP := Lib.hid (fun w' (hb : Later w1 w') => map_fmt (.slice a rows.length cap) rows S w' (Cd.later (HR.out w1 HB1.out) hb) H8.out HROW.out)
  have HFIN := Lib.hid (show (tabB ⟨⟨nl⟩⟩ ar rows) = nl ++ [UInt8.ofNat (48 + ar.toNat)] ++ [58] ++ rowsB rows by simp [tabB])
  clear HD hb1
  have y0 := HT.out.c0
  have y1 := HT.out.c1
  have y2 := HT.out.c2
  have kk : Later w1 w1.drew := (Below.refl _ w1).drew
  have l1 : ¬ 9223372036854775807 < nl.length + 1 := by have := HNL.out; omega
  have l2 : ¬ 9223372036854775807 < nl.length + 1 + 1 := by have := HNL.out; omega
  have l3 : ¬ 9223372036854775807 < nl.length + 1 + 1 + (rowsB rows).length := by have := HNL.out; have := HJL.out; omega
  generalize UInt8.ofNat (48 + ar.toNat) = z at *
  go_wp2_with fail
  go_region_held3 (fun wx => wx.cell? ⟨w.heap.size, 0, none⟩ = some (.string ⟨⟨nl⟩⟩) ∧ wx.cell? ⟨w.heap.size, 1, none⟩ = some (.int .i64 ar) ∧ wx.cell? ⟨w.heap.size, 2, none⟩ = some (.slice a rows.length cap) ∧ Later w1 wx)
    ((refine ⟨?_, ?_, ?_, ?_⟩ <;> first | assumption | (simp [*]; done)))
    (first | (go_at_call 20; refine (HFI.out _ (by assumption)).mono ?_; rintro e wq ⟨rfl, hbq⟩; (have kk : Later w1 wq := below_then (by assumption) hbq); (first | (have HOW := Lib.hid (Cd.ow_later HOW.out hbq)) | skip); (have k0 := (HT.out.later kk).c0); (have k1 := (HT.out.later kk).c1); (have k2 := (HT.out.later kk).c2); clear hbq) | (go_at_call 22; refine (HMP.out _ (by assumption)).mono ?_; rintro e wp ⟨g, fp, rfl, how, hnd, hbp⟩; (have kk : Later w1 wp := below_then (by assumption) hbp); (have HOW := Lib.hid how); (have k0 := (HT.out.later kk).c0); (have k1 := (HT.out.later kk).c1); (have k2 := (HT.out.later kk).c2); clear hbp how hnd) | (go_at_call 21; refine (join_owned g rows fp _ _ HOW.out H8.out HJL.out).mono ?_; rintro e wj ⟨rfl, hbj⟩; (have kk : Later w1 wj := below_then (by assumption) hbj); (have k0 := (HT.out.later kk).c0); (have k1 := (HT.out.later kk).c1); (have k2 := (HT.out.later kk).c2); clear hbj))
  all_goals
    go_wp2_with fail
    go_ret
    exact ⟨ret_str (by rw [HZ.out, HFIN.out]; simp [ByteArray.mk_append_mk]), below_then HB1.out (by assumption)⟩
end Go.Proofs.YthageciihhpmoaaDoor.TabImp
