/- Tables: the program's format of a table. -/
import Derived.Test.YtdjgaffiildijabGreatDoorTabImp2
import Derived.Test.YtdjgaffiildijabGreatDoorTabFmt
import Derived.Test.YtdjgaffiildijabGreatDoorTabParse
import Derived.Test.YtdjgaffiildijabGreatDoorDig
import Derived.Test.YtdjgaffiildijabGreatDoorCdRoom
import Derived.Test.YtdjgaffiildijabGreatDoorExact
import Derived.Test.YtdjgaffiildijabGreatDoorShelf
import Derived.Deep.RegionLaw
namespace Go.Proofs.YtdjgaffiildijabGreatDoor.TabImp
open Go Go.RowKit Byt Ints IntsLaw Cd Rows2 Tab TabSpec Exact TabFmt TabParse

/-- The digits of each row. -/
def digS (rows : List (List Int)) : List ByteArray := rows.map fun r => ⟨(digB r).toArray⟩

set_option maxRecDepth 100000 in
set_option maxHeartbeats 1600000 in
theorem map_fmt (v : Value) (l : List (List Int)) (S : Nat → Prop) (w : World) (hr : rowsC.rd w S [v] l) (h8 : l.length ≤ 1048577) (hok : ∀ r ∈ l, r.length ≤ 4 ∧ ∀ x ∈ r, 0 ≤ x ∧ x ≤ 9) :
    Calls Tryz.prog 113 #[v, .func (.func 114) #[] #[]] w fun e w' => ∃ g fp, e = .returned (.slice (some ⟨g, 0, none⟩) l.length l.length) ∧ strsC.ow w' w.heap.size [.slice (some ⟨g, 0, none⟩) l.length l.length] (digS l) fp ∧ fp.Nodup ∧ Below w.heap.size w w' := by
  obtain ⟨i0, hi, hz0, hz1, hz2⟩ := info_parts info_str
  have HR := Lib.hid (fun w' (hb : Below w.heap.size w w') => Cd.later hr hb)
  have HOK := Lib.hid hok
  obtain ⟨a, cap, rfl, hlm⟩ := rows_form hr
  clear hr hok
  go_enter Tryz.func113, Tryz.ntmps113
  go_wp2_with (at_make; refine wpList_make_own _ rfl _ _ 56 rfl w.heap.size 9 i0 (.string ⟨#[]⟩) 1 Tryz.underlying56 hi hz0 hz1 _ _ _ l.length rfl rfl rfl (by rw [hz2]; omega) (by unfold maxLen; omega) (Nat.le_refl _) ?_)
  intro w1 hown0 hg0
  have how1 : strsC.ow w1 w.heap.size [.slice (some ⟨w.heap.size, 0, none⟩) 0 l.length] [] [w.heap.size] := ⟨_, [], [], rfl, hown0, trivial, rfl⟩
  have hb1 : Below w.heap.size w w1 := (Below.refl _ _).grown hg0 (Nat.le_refl _) (by simp)
  clear hown0 hg0
  go_wp2_with fail
  go_loopw [5, 13] (fun o i wr => ∃ (k : Nat) (fp : List Nat), k ≤ l.length ∧ i = .int .i64 k ∧ o = .slice (some ⟨w.heap.size, 0, none⟩) k l.length ∧ strsC.ow wr w.heap.size [.slice (some ⟨w.heap.size, 0, none⟩) k l.length] (digS (l.take k)) fp ∧ fp.Nodup ∧ Below w.heap.size w wr) (fun _ i _ => l.length - (intOf i).toNat)
  case atStart => exact ⟨0, _, Nat.zero_le _, rfl, rfl, how1, by simp, hb1⟩
  case round =>
    obtain ⟨k, fp, hk, rfl, rfl, how, hnd, hb⟩ := hrel
    by_cases hlt : k < l.length
    · obtain ⟨b, off, cap', u, e1, hbB, hc, hu⟩ := rows_at (HR.out wr hb) hlt
      injection e1 with e1 e2 e3
      subst e1 e3
      obtain ⟨hr3, hr9⟩ := HOK.out _ (List.getElem_mem hlt)
      have HC := Lib.hid (Dig.format_digits u l[k] _ wr (row_ri hu).1 (Nat.le_refl _) (by omega) hr9)
      have HOW := Lib.hid how
      have HND := Lib.hid hnd
      have HB := Lib.hid hb
      have HT := Lib.hid (show digS (l.take (k + 1)) = digS (l.take k) ++ [⟨(digB l[k]).toArray⟩] by unfold digS; rw [List.take_succ_eq_append_getElem hlt, List.map_append]; rfl)
      have hsz : (⟨(digB l[k]).toArray⟩ : ByteArray).size ≤ maxLen := by show (digB l[k]).toArray.size ≤ maxLen; rw [List.size_toArray, digB_len]; unfold maxLen; omega
      have HSZ := Lib.hid hsz
      have HL := Lib.hid (show k = (digS (l.take k)).length by unfold digS; rw [List.length_map, List.length_take]; omega)
      clear hu how hnd hb how1 hb1 hr3 hr9 hsz
      change Hid (Calls _ _ _ _ fun e w' => e = .returned (.string ⟨(digB l[k]).toArray⟩) ∧ _) at HC
      generalize (⟨(digB l[k]).toArray⟩ : ByteArray) = r at *
      go_wp2_with fail
      refine HC.out.mono ?_
      rintro e w2 ⟨rfl, hb2⟩
      have hbA : Below w2.heap.size w2 (w2.alloc (.cells #[.string r] 9 (0, 0))) := below_alloc _ _
      have HOW2 := Lib.hid (Cd.ow_later (Cd.ow_later HOW.out hb2) hbA)
      have HB2 := Lib.hid (below_then (below_then HB.out hb2) hbA)
      have HBS := Lib.hid (show w.heap.size ≤ (w2.alloc (.cells #[.string r] 9 (0, 0))).heap.size by rw [size_alloc]; have := HB.out.size; have := hb2.size; omega)
      have HCELL := Lib.hid (show (w2.alloc (.cells #[.string r] 9 (0, 0))).cell? ⟨w2.heap.size, 0, none⟩ = some (.string r) from World.cell?_alloc_mark _ _ _ _ 0)
      clear hbA hb2
      go_wp2_with (at_builtin; refine Cd.wpList_appendR (c := strC) rfl rfl (.tmp 17) (.tmp 21) 56 rfl w.heap.size 9 (.string ⟨#[]⟩) 16 Tryz.underlying56 info_str rfl (by decide) w.heap.size l.length k (digS (l.take k)) fp rfl HL.out HOW2.out HND.out (by omega) w2.heap.size (.string r) rfl HCELL.out r [] ⟨rfl, HSZ.out, rfl⟩ List.nodup_nil (fun b hb => by cases hb) (by omega) HBS.out ?_)
      intro w3 fp3 ho3 hn3 hsub3 ht3
      have HB3 := Lib.hid (ht3.below HB2.out (fun b hb => (strsC.ow_lt HOW.out b hb).1))
      rw [← HT.out] at ho3
      clear ht3 hsub3
      go_wp2_with fail
      go_roundw
      case rel => exact ⟨k + 1, fp3, by omega, by go_num, rfl, ho3, hn3, HB3.out⟩
      case measure => simp [intOf]; omega
    · have ek : k = l.length := by omega
      subst ek
      rw [List.take_length] at how
      go_wp2_with fail
      go_ret
      exact ⟨_, fp, rfl, how, hnd, hb⟩

theorem rowsB_join : ∀ rows : List (List Int), Lib.join ((digS rows).map (·.data.toList)) [32] = rowsB rows
  | [] => rfl
  | [r] => by simp [digS, rowsB, Lib.join, List.intercalate]
  | r :: s :: rs => by
    have := rowsB_join (s :: rs)
    simp only [digS, List.map_cons, Lib.join, List.intercalate, List.intersperse, List.flatten_cons] at this ⊢
    rw [this]
    simp [rowsB]
end Go.Proofs.YtdjgaffiildijabGreatDoor.TabImp

namespace Go.Proofs.YtdjgaffiildijabGreatDoor.TabImp
open Go Go.RowKit Byt Ints IntsLaw Cd Rows2 Tab TabSpec Exact TabFmt TabParse

/-- What was stands as it was. -/
def Later (w w' : World) : Prop := Below w.heap.size w w'
theorem join_owned (g : Nat) (rows : List (List Int)) (fp : List Nat) (w : World) (base : Nat) (how : strsC.ow w base [.slice (some ⟨g, 0, none⟩) rows.length rows.length] (digS rows) fp) (h8 : rows.length ≤ 1048577) (hl : (rowsB rows).length ≤ 1048577) :
    Calls Tryz.prog 92 #[.slice (some ⟨g, 0, none⟩) rows.length rows.length, .string ⟨#[32]⟩] w fun e w' => e = .returned (.string ⟨(rowsB rows).toArray⟩) ∧ Below w.heap.size w w' := by
  have hlen : (digS rows).length = rows.length := by unfold digS; rw [List.length_map]
  have hg : g < w.heap.size := by
    obtain ⟨v, xss, fps, e1, hown, _, _⟩ := how
    injection e1 with e1 _
    subst e1
    rcases hown.2 with ⟨e1, _⟩ | ⟨g', cap', cur, e1, _, hgg, _⟩
    · cases e1
    · simp only [Value.slice.injEq, Option.some.injEq, Addr.mk.injEq, and_true] at e1
      obtain ⟨rfl, _, _⟩ := e1
      exact (Array.getElem?_eq_some_iff.1 hgg).1
  have h := Tryz.strings_Join g 0 rows.length (digS rows) ⟨#[32]⟩ w (fun j x hj => by
    obtain ⟨hj1, hj2⟩ := List.getElem?_eq_some_iff.1 hj
    obtain ⟨b, off, cap, e1, _, hc⟩ := strs_at (strsC.ow_rd how) hj1
    simp only [Value.slice.injEq, Option.some.injEq, Addr.mk.injEq, and_true] at e1
    obtain ⟨⟨rfl, rfl⟩, _, _⟩ := e1
    rw [← hj2]
    exact hc) hg (by rw [hlen]; omega) (by rw [hlen]; exact Nat.le_refl _) (by rw [show (ByteArray.mk #[32]).data.toList = [32] from rfl, rowsB_join]; omega)
  rw [hlen, show (ByteArray.mk #[32]).data.toList = [32] from rfl, rowsB_join] at h
  exact h

set_option maxRecDepth 100000 in
theorem format_rows (u : Value) (rows : List (List Int)) (S : Nat → Prop) (w : World) (hr : rowsC.rd w S [u] rows) (h8 : rows.length ≤ 1048577) (hok : ∀ r ∈ rows, r.length ≤ 4 ∧ ∀ x ∈ r, 0 ≤ x ∧ x ≤ 9) (hl : (rowsB rows).length ≤ 1048577) :
    Calls Tryz.prog 74 #[u] w fun e w' => e = .returned (.string ⟨(rowsB rows).toArray⟩) ∧ Below w.heap.size w w' := by
  have HMP := Lib.hid (map_fmt u rows S w hr h8 hok)
  have H8 := Lib.hid h8
  have HL := Lib.hid hl
  obtain ⟨a, cap, rfl, hlm⟩ := rows_form hr
  clear hr h8 hok hl
  go_enter Tryz.func74, Tryz.ntmps74
  go_wp2_with fail
  refine HMP.out.mono ?_
  rintro e w1 ⟨g, fp, rfl, how, hnd, hb1⟩
  have HJ := Lib.hid (join_owned g rows fp w1 _ how H8.out HL.out)
  have HB1 := Lib.hid hb1
  clear how hnd hb1
  go_wp2_with fail
  refine HJ.out.mono ?_
  rintro e w2 ⟨rfl, hb2⟩
  have HB2 := Lib.hid (below_then HB1.out hb2)
  clear hb2
  go_wp2_with fail
  go_ret
  exact ⟨rfl, HB2.out⟩
set_option maxRecDepth 100000 in
set_option maxHeartbeats 3200000 in
theorem impl_fmt (nm : ByteArray) (ar : Int) (u : Value) (rows : List (List Int)) (S : Nat → Prop) (w : World) (hr : rowsC.rd w S [u] rows) (ht : Format.Tab w) :
    Calls Tryz.prog 23 #[.agg #[.string nm, .int .i64 ar, u]] w fun e w' => e = .returned (.string (fmtT nm ar rows)) ∧ Below w.heap.size w w' := by
  have HR := Lib.hid (fun w' (hb : Below w.heap.size w w') => Cd.later hr hb)
  have HTB := Lib.hid (fun w' (hb : Below w.heap.size w w') => Format.tab_later hb ht)
  obtain ⟨a, cap, rfl, hlm⟩ := rows_form hr
  clear hr ht
  go_enter Tryz.func23, Tryz.ntmps23
  go_wp2_with fail
  generalize hW : w.alloc _ = W
  obtain ⟨r0, _, hb0⟩ := start1 w _ hW
  clear hW
  have HV := Lib.hid (impl_valid nm ar _ rows S W (HR.out W hb0))
  by_cases hok : tabOk nm ar rows = true
  case neg =>
    have hok : tabOk nm ar rows = false := by simpa using hok
    rw [hok] at HV
    have HZ := Lib.hid (show fmtT nm ar rows = ⟨#[]⟩ by unfold fmtT; rw [hok]; rfl)
    have HB := Lib.hid hb0
    clear hok r0 hb0
    refine HV.out.mono ?_
    rintro e w1 ⟨rfl, hb1⟩
    have HB1 := Lib.hid (below_then HB.out hb1)
    clear hb1
    go_wp2_with fail
    go_ret
    exact ⟨ret_str HZ.out.symm, HB1.out⟩
  rw [hok] at HV
  have htp : TabP nm ar rows := of_decide_eq_true hok
  have HZ := Lib.hid (show fmtT nm ar rows = ⟨(tabB nm ar rows).toArray⟩ by unfold fmtT; rw [hok]; rfl)
  obtain ⟨⟨nl⟩⟩ := nm
  have hnl : nl.length = 1 := by have := of_decide_eq_true htp.1; exact this.1
  have har := And.intro htp.2.1 htp.2.2.1
  have HROW := Lib.hid (show ∀ r ∈ rows, r.length ≤ 3 ∧ ∀ x ∈ r, 0 ≤ x ∧ x ≤ 9 from fun r hr => by
    have := rowOk_iff.1 (htp.2.2.2.2.1 r hr)
    exact ⟨by omega, this.2⟩)
  have H8 := Lib.hid htp.2.2.2.1
  have HWT := Lib.hid (show rowsWt rows ≤ 100 by
    have : ∀ l : List (List Int), (∀ r ∈ l, r.length ≤ 3) → rowsWt l ≤ 4 * l.length := by
      intro l
      induction l with
      | nil => intro _; simp [rowsWt]
      | cons r rs ih =>
        intro h
        have h1 := ih (fun x hx => h x (List.mem_cons.2 (.inr hx)))
        have h2 := h r (List.mem_cons.2 (.inl rfl))
        simp [rowsWt] at *
        omega
    have h1 := this rows (fun r hr => (HROW.out r hr).1)
    have := H8.out
    omega)
  have HJL := Lib.hid (show (rowsB rows).length ≤ 100 by have := rowsB_len rows; have := HWT.out; omega)
  have HB := Lib.hid hb0
  have HT0 := Lib.hid (Loc3.of r0)
  have HNL := Lib.hid hnl
  have HAR := Lib.hid har
  clear hok r0 hb0 htp hnl har
  refine HV.out.mono ?_
  rintro e w1 ⟨rfl, hb1⟩
  have HB1 := Lib.hid (below_then HB.out hb1)
  have HT := Lib.hid (HT0.out.later hb1)
  have HD : Lib.itoa ar = [UInt8.ofNat (48 + ar.toNat)] := itoa_digit ⟨by have := HAR.out.1; omega, by have := HAR.out.2; omega⟩
  have HFI := Lib.hid (fun w' (hb : Later w1 w') => (show Calls Tryz.prog 73 #[.int .i64 ar] w' fun e w'' => e = .returned (.string ⟨[UInt8.ofNat (48 + ar.toNat)].toArray⟩) ∧ Below w'.heap.size w' w'' from by
    have h := Format.impl_any ar w' ⟨by have := HAR.out.1; omega, by have := HAR.out.2; omega⟩ (HTB.out w' (below_then HB1.out hb))
    rw [HD] at h
    exact h))
  have HMP := Lib.hid (fun w' (hb : Later w1 w') => format_rows (.slice a rows.length cap) rows S w' (Cd.later (HR.out w1 HB1.out) hb) (by have := H8.out; omega) (fun r hr => ⟨by have := (HROW.out r hr).1; omega, (HROW.out r hr).2⟩) (by have := HJL.out; omega))
  have HFIN := Lib.hid (show (tabB ⟨⟨nl⟩⟩ ar rows) = nl ++ [UInt8.ofNat (48 + ar.toNat)] ++ [58] ++ rowsB rows by simp [tabB])
  clear HD hb1
  have y0 := HT.out.c0
  have y1 := HT.out.c1
  have y2 := HT.out.c2
  have kk : Later w1 w1.drew := (Below.refl _ w1).drew
  have l1 : ¬ 9223372036854775807 < nl.length + 1 := by have := HNL.out; omega
  have l2 : ¬ 9223372036854775807 < nl.length + 1 + 1 := by have := HNL.out; omega
  have l3 : ¬ 9223372036854775807 < nl.length + 1 + 1 + (rowsB rows).length := by have := HNL.out; have := HJL.out; omega
  generalize UInt8.ofNat (48 + ar.toNat) = z at *
  go_wp2_with fail
  go_region_held3 (fun wx => wx.cell? ⟨w.heap.size, 0, none⟩ = some (.string ⟨⟨nl⟩⟩) ∧ wx.cell? ⟨w.heap.size, 1, none⟩ = some (.int .i64 ar) ∧ wx.cell? ⟨w.heap.size, 2, none⟩ = some (.slice a rows.length cap) ∧ Later w1 wx)
    ((refine ⟨?_, ?_, ?_, ?_⟩ <;> first | assumption | (simp [*]; done)))
    (first | (go_at_call 73; refine (HFI.out _ (by assumption)).mono ?_; rintro e wq ⟨rfl, hbq⟩; (have kk : Later w1 wq := below_then (by assumption) hbq); (have k0 := (HT.out.later kk).c0); (have k1 := (HT.out.later kk).c1); (have k2 := (HT.out.later kk).c2); clear hbq) | (go_at_call 74; refine (HMP.out _ (by assumption)).mono ?_; rintro e wj ⟨rfl, hbj⟩; (have kk : Later w1 wj := below_then (by assumption) hbj); (have k0 := (HT.out.later kk).c0); (have k1 := (HT.out.later kk).c1); (have k2 := (HT.out.later kk).c2); clear hbj))
  all_goals
    go_wp2_with fail
    go_ret
    exact ⟨ret_str (by rw [HZ.out, HFIN.out]; simp [ByteArray.mk_append_mk]), below_then HB1.out (by assumption)⟩
end Go.Proofs.YtdjgaffiildijabGreatDoor.TabImp
