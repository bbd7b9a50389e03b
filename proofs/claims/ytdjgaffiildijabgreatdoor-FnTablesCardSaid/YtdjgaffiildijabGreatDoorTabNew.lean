/- Tables: the model's making of a table. -/
import Derived.Test.YtdjgaffiildijabGreatDoorTabDel
import Derived.StillTailTactics
namespace Go.Proofs.YtdjgaffiildijabGreatDoor.TabSpec
open Go Go.RowKit Byt Ints IntsLaw Cd Rows2 Tab

theorem putStep_wt (row : List Int) (st : List (List Int) × Bool) (r : List Int) : rowsWt (putStep row st r).1 + (!(putStep row st r).2).toNat * (row.length + 1) ≤ rowsWt st.1 + (!st.2).toNat * (row.length + 1) + r.length + 1 := by
  obtain ⟨o, p⟩ := st
  unfold putStep
  by_cases h1 : cmpR r row = 0
  · rw [if_pos h1]
    cases p <;> simp [rowsWt] <;> omega
  · rw [if_neg h1]
    cases p with
    | false =>
      by_cases h2 : 0 < cmpR r row
      · rw [if_pos ⟨h2, rfl⟩]; simp [rowsWt]; omega
      · rw [if_neg (fun q => h2 q.1)]; simp [rowsWt]; omega
    | true =>
      rw [if_neg (fun q => by simp at q)]; simp [rowsWt]; omega
theorem putF_wt (row : List Int) : ∀ (l : List (List Int)) (st : List (List Int) × Bool), rowsWt (l.foldl (putStep row) st).1 + (!(l.foldl (putStep row) st).2).toNat * (row.length + 1) ≤ rowsWt st.1 + (!st.2).toNat * (row.length + 1) + rowsWt l
  | [], st => Nat.le_add_right _ _
  | r :: rs, st => by
    have h1 := putF_wt row rs (putStep row st r)
    have h2 := putStep_wt row st r
    have h3 : rowsWt (r :: rs) = rowsWt rs + r.length + 1 := by simp [rowsWt]; omega
    rw [List.foldl_cons, h3]
    omega
theorem putR_wt (rows : List (List Int)) (row : List Int) : rowsWt (putR rows row) ≤ rowsWt rows + row.length + 1 := by
  have h := putF_wt row rows ([], false)
  have e : rows.foldl (putStep row) ([], false) = putF rows row := rfl
  have e0 : rowsWt [] = 0 := rfl
  rw [e] at h
  unfold putR
  generalize putF rows row = st at *
  obtain ⟨o, p⟩ := st
  cases p with
  | true =>
    simp at h ⊢
    omega
  | false =>
    have e1 : rowsWt (o ++ [row]) = rowsWt o + (row.length + 1) := by simp [rowsWt]; omega
    simp at h ⊢
    omega

/-- The rows put one by one, up to the ninth. -/
def newR (acc : List (List Int)) : List (List Int) → List (List Int)
  | [] => acc
  | r :: rs => if acc.length ≤ 8 then newR (putR acc r) rs else acc
theorem newR_big {acc : List (List Int)} (h : ¬ acc.length ≤ 8) : ∀ l, newR acc l = acc
  | [] => rfl
  | _ :: _ => by rw [newR, if_neg h]
theorem newR_next {acc rows : List (List Int)} {k : Nat} (h : k < rows.length) (h8 : acc.length ≤ 8) : newR acc (rows.drop k) = newR (putR acc rows[k]) (rows.drop (k + 1)) := by rw [drop_at h, newR, if_pos h8]
def newOk (nm : ByteArray) (ar : Int) (rows : List (List Int)) : Bool := tabOk nm ar (newR [] rows)

/-- What is answered. -/
def NewAns (nm : ByteArray) (ar : Int) (rows : List (List Int)) (w : World) (e : Ending) (w' : World) : Prop :=
  ∃ u' fp, e = .returned (.tuple #[.agg #[.string (if newOk nm ar rows then nm else ⟨#[]⟩), .int .i64 (if newOk nm ar rows then ar else 0), u'], .bool (newOk nm ar rows)]) ∧ rowsC.ow w' w.heap.size [u'] (if newOk nm ar rows then newR [] rows else []) fp ∧ fp.Nodup ∧ Below w.heap.size w w'

set_option maxRecDepth 100000 in
set_option maxHeartbeats 3200000 in
theorem spec_new (nm : ByteArray) (ar : Int) (u : Value) (rows : List (List Int)) (S : Nat → Prop) (w : World) (hr : rowsC.rd w S [u] rows) (hrw : rowsWt rows ≤ 1048577) :
    Calls Tryz.prog 21 #[.string nm, .int .i64 ar, u] w fun e w' => NewAns nm ar rows w e w' := by
  have HR := Lib.hid (fun w' (hb : Below w.heap.size w w') => Cd.later hr hb)
  have HWT := Lib.hid hrw
  have hll : rows.length ≤ 1048577 := by unfold rowsWt at hrw; omega
  obtain ⟨a, cap, rfl, hlm⟩ := rows_form hr
  clear hr hrw
  go_enter Tryz.func21, Tryz.ntmps21
  go_wp2_with fail
  generalize hW : (w.alloc _).alloc _ = W
  obtain ⟨r0, r1, hz, hb0⟩ := start2g w _ _ hW
  clear hW
  have HR0 := Lib.hid (Loc3.of r0)
  have HR1 := Lib.hid (Loc3.of r1)
  have HB := Lib.hid hb0
  have HZ := Lib.hid hz
  clear r0 r1 hb0 hz
  go_loopw [9] (fun i wr => ∃ (k : Nat) (o : Value) (acc : List (List Int)) (fp : List Nat), k ≤ rows.length ∧ i = .int .i64 k ∧ Hid (newR acc (rows.drop k) = newR [] rows) ∧ Hid (rowsWt acc ≤ rowsWt (rows.take k)) ∧ rowsC.ow wr (w.heap.size + 2) [o] acc fp ∧ fp.Nodup ∧ Below w.heap.size w wr ∧ Loc3 wr w.heap.size (.string ⟨#[]⟩) (.int .i64 0) (.slice none 0 0) ∧ Loc3 wr (w.heap.size + 1) (.string nm) (.int .i64 ar) o) (fun i _ => rows.length - (intOf i).toNat)
  case atStart => exact ⟨0, _, [], [], Nat.zero_le _, rfl, Lib.hid rfl, Lib.hid (by simp [rowsWt]), Cd.ow_nil _ _, by simp, HB.out, HR0.out, HR1.out⟩
  case round =>
    obtain ⟨k, o, acc, fp, hk, rfl, HN, HA, how, hnd, hbw, hl0, hl1⟩ := hrel
    obtain ⟨x0, x1, x2, g0, g1, g2⟩ := hl1
    have HX := Lib.hid (Loc3.mk x0 x1 x2 g0 g1 g2)
    have HL0 := Lib.hid hl0
    have HOW := Lib.hid how
    have HND := Lib.hid hnd
    have HBW := Lib.hid hbw
    obtain ⟨ao, co, rfl⟩ := Cd.ow_slice how
    clear how hnd hbw hl0
    by_cases hgo : k < rows.length ∧ acc.length ≤ 8
    · obtain ⟨hlt, h8⟩ := hgo
      obtain ⟨b, off, cap', v', e1, hbB, hc, hv'⟩ := rows_at (HR.out wr HBW.out) hlt
      injection e1 with e1 e2 e3
      subst e1 e3
      have p1 : (0 : Int) ≤ (k : Int) := by omega
      have p2 : (k : Int) < (rows.length : Int) := by omega
      have HTK := Lib.hid (show rowsWt (rows.take (k + 1)) = rowsWt (rows.take k) + rows[k].length + 1 by
        unfold rowsWt
        rw [take_flat hlt, List.length_take, List.length_take]
        omega)
      have HTL := Lib.hid (show rowsWt (rows.take (k + 1)) ≤ rowsWt rows by
        unfold rowsWt
        have := take_flat_le rows (k + 1)
        rw [List.length_take]
        omega)
      have HPUT := Lib.hid (spec_put _ v' acc rows[k] _ S wr.drew (rowsC.keep (w' := wr.drew) (rowsC.ow_rd HOW.out) fun _ _ _ => rfl) (rowC.keep (w' := wr.drew) (show rowC.rd wr S [v'] rows[k] from hv') fun _ _ _ => rfl) (by have := HA.out; have := HTK.out; have := HTL.out; have := HWT.out; omega) (by have := HTK.out; have := HTL.out; have := HWT.out; omega))
      clear hv'
      have HK8 := Lib.hid h8
      have HSZ := Lib.hid HX.out.lt
      go_wp2
      go_still_tail 6, (by kernel_rfl)
      change wpList _ _ _ _ _ wr.drew
      go_wp2_with fail
      refine HPUT.out.mono ?_
      rintro e w2 ⟨v2, fp2, rfl, ho2, hn2, hb2⟩
      obtain ⟨a2, c2, rfl⟩ := rows_slice ho2
      have hb3 : Below wr.heap.size wr w2 := ⟨hb2.os, hb2.tape, hb2.output, hb2.size, hb2.block⟩
      have HX2 := Lib.hid (HX.out.later hb3)
      have HL2 := Lib.hid (HL0.out.later hb3)
      have HB2 := Lib.hid (below_then HBW.out hb3)
      have HO2 := Lib.hid (show rowsC.ow w2 wr.heap.size _ _ _ from ho2)
      obtain ⟨x0, x1, x2, g0, g1, g2⟩ := HX2.out
      clear ho2 hb2 hb3
      have HNX := Lib.hid ((newR_next hlt HK8.out).symm.trans HN.out)
      have HWX := Lib.hid (show rowsWt (putR acc rows[k]) ≤ rowsWt (rows.take (k + 1)) by have := putR_wt acc rows[k]; have := HTK.out; have := HA.out; omega)
      go_wp2
      go_roundw
      case rel =>
        refine ⟨k + 1, .slice a2 (putR acc rows[k]).length c2, putR acc rows[k], fp2, by omega, by go_num, HNX, HWX, ?_, hn2, HB2.out.setCell (by show _ ≤ w.heap.size + 1; omega) _, HL2.out.set_far (by show w.heap.size + 1 ≠ _; omega) _, HX2.out.set2 _⟩
        exact ow_setCell (rowsC.ow_base HO2.out (by have := HSZ.out; omega)) (fun q => by have := (rowsC.ow_lt HO2.out _ q).1; have := HSZ.out; simp at *; omega) _
      case measure => simp [intOf]; omega
    · by_cases hlt : k < rows.length
      · have h8 : ¬ acc.length ≤ 8 := fun q => hgo ⟨hlt, q⟩
        have HE := Lib.hid ((newR_big h8 _).symm.trans HN.out)
        clear hgo
        have HV := Lib.hid (spec_valid nm ar _ acc _ wr (rowsC.ow_rd HOW.out))
        by_cases hok : tabOk nm ar acc = true
        · rw [hok] at HV
          have HWHY := Lib.hid (show newOk nm ar rows = true by unfold newOk; rw [← HE.out]; exact hok)
          clear hok
          go_wp2_with fail
          refine HV.out.mono ?_
          rintro e w2 ⟨rfl, hb2⟩
          have HX2 := Lib.hid (HX.out.later hb2)
          have HB2 := Lib.hid (below_then HBW.out hb2)
          have HO2 := Lib.hid (Cd.ow_later HOW.out hb2)
          obtain ⟨x0, x1, x2, g0, g1, g2⟩ := HX2.out
          obtain ⟨p0, p1, p2, q0, q1, q2⟩ := HL0.out.later hb2
          clear hb2
          go_wp2_with fail
          obtain ⟨k0, k1, k2⟩ := set3 (w := w2) (k := w.heap.size) (x := .string nm) (y := .int .i64 ar) (z := .slice ao acc.length co) p0 p1 p2
          refine bodyPost_ret (v := .tuple #[.agg #[.string nm, .int .i64 ar, .slice ao acc.length co], .bool true]) (by simp [results, Tryz.results21, go_sem, k0, k1, k2]) rfl ⟨.slice ao acc.length co, fp, by simp [HWHY.out], ?_, HND.out, ?_⟩
          · rw [HWHY.out, if_pos rfl, ← HE.out]
            have hn : w.heap.size ∉ fp := fun q => by have := (rowsC.ow_lt HO2.out _ q).1; omega
            exact rowsC.ow_base (ow_setCell (ow_setCell (ow_setCell HO2.out hn _) hn _) hn _) (by omega)
          · exact ((HB2.out.setCell (Nat.le_refl _) _).setCell (Nat.le_refl _) _).setCell (Nat.le_refl _) _
        · have hok : tabOk nm ar acc = false := by simpa using hok
          rw [hok] at HV
          have HWHY := Lib.hid (show newOk nm ar rows = false by unfold newOk; rw [← HE.out]; exact hok)
          clear hok
          go_wp2_with fail
          refine HV.out.mono ?_
          rintro e w2 ⟨rfl, hb2⟩
          have HB2 := Lib.hid (below_then HBW.out hb2)
          obtain ⟨p0, p1, p2, q0, q1, q2⟩ := HL0.out.later hb2
          clear hb2
          go_wp2_with fail
          obtain ⟨k0, k1, k2⟩ := set3 (w := w2) (k := w.heap.size) (x := .string ⟨#[]⟩) (y := .int .i64 0) (z := .slice none 0 0) p0 p1 p2
          refine bodyPost_ret (v := .tuple #[.agg #[.string ⟨#[]⟩, .int .i64 0, .slice none 0 0], .bool false]) (by simp [results, Tryz.results21, go_sem, k0, k1, k2]) rfl ⟨.slice none 0 0, [], by simp [HWHY.out], ?_, by simp, ?_⟩
          · rw [HWHY.out]
            exact Cd.ow_nil _ _
          · exact ((HB2.out.setCell (Nat.le_refl _) _).setCell (Nat.le_refl _) _).setCell (Nat.le_refl _) _
      · have ek : k = rows.length := by omega
        have HE := Lib.hid (show acc = newR [] rows by have := HN.out; rw [ek, List.drop_length] at this; exact this)
        clear hgo ek
        have HV := Lib.hid (spec_valid nm ar _ acc _ wr (rowsC.ow_rd HOW.out))
        by_cases hok : tabOk nm ar acc = true
        · rw [hok] at HV
          have HWHY := Lib.hid (show newOk nm ar rows = true by unfold newOk; rw [← HE.out]; exact hok)
          clear hok
          go_wp2_with fail
          refine HV.out.mono ?_
          rintro e w2 ⟨rfl, hb2⟩
          have HX2 := Lib.hid (HX.out.later hb2)
          have HB2 := Lib.hid (below_then HBW.out hb2)
          have HO2 := Lib.hid (Cd.ow_later HOW.out hb2)
          obtain ⟨x0, x1, x2, g0, g1, g2⟩ := HX2.out
          obtain ⟨p0, p1, p2, q0, q1, q2⟩ := HL0.out.later hb2
          clear hb2
          go_wp2_with fail
          obtain ⟨k0, k1, k2⟩ := set3 (w := w2) (k := w.heap.size) (x := .string nm) (y := .int .i64 ar) (z := .slice ao acc.length co) p0 p1 p2
          refine bodyPost_ret (v := .tuple #[.agg #[.string nm, .int .i64 ar, .slice ao acc.length co], .bool true]) (by simp [results, Tryz.results21, go_sem, k0, k1, k2]) rfl ⟨.slice ao acc.length co, fp, by simp [HWHY.out], ?_, HND.out, ?_⟩
          · rw [HWHY.out, if_pos rfl, ← HE.out]
            have hn : w.heap.size ∉ fp := fun q => by have := (rowsC.ow_lt HO2.out _ q).1; omega
            exact rowsC.ow_base (ow_setCell (ow_setCell (ow_setCell HO2.out hn _) hn _) hn _) (by omega)
          · exact ((HB2.out.setCell (Nat.le_refl _) _).setCell (Nat.le_refl _) _).setCell (Nat.le_refl _) _
        · have hok : tabOk nm ar acc = false := by simpa using hok
          rw [hok] at HV
          have HWHY := Lib.hid (show newOk nm ar rows = false by unfold newOk; rw [← HE.out]; exact hok)
          clear hok
          go_wp2_with fail
          refine HV.out.mono ?_
          rintro e w2 ⟨rfl, hb2⟩
          have HB2 := Lib.hid (below_then HBW.out hb2)
          obtain ⟨p0, p1, p2, q0, q1, q2⟩ := HL0.out.later hb2
          clear hb2
          go_wp2_with fail
          obtain ⟨k0, k1, k2⟩ := set3 (w := w2) (k := w.heap.size) (x := .string ⟨#[]⟩) (y := .int .i64 0) (z := .slice none 0 0) p0 p1 p2
          refine bodyPost_ret (v := .tuple #[.agg #[.string ⟨#[]⟩, .int .i64 0, .slice none 0 0], .bool false]) (by simp [results, Tryz.results21, go_sem, k0, k1, k2]) rfl ⟨.slice none 0 0, [], by simp [HWHY.out], ?_, by simp, ?_⟩
          · rw [HWHY.out]
            exact Cd.ow_nil _ _
          · exact ((HB2.out.setCell (Nat.le_refl _) _).setCell (Nat.le_refl _) _).setCell (Nat.le_refl _) _
end Go.Proofs.YtdjgaffiildijabGreatDoor.TabSpec
