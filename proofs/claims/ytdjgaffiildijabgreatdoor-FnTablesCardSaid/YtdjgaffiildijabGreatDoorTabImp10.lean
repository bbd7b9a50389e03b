/- Tables: making: the program's function. -/
import Derived.Test.YtdjgaffiildijabGreatDoorSort
import Derived.Test.YtdjgaffiildijabGreatDoorTabImp5
namespace Go.Proofs.YtdjgaffiildijabGreatDoor.TabImp
open Go Go.RowKit Byt Ints IntsLaw Cd Rows2 Tab TabSpec Exact

theorem rows_vals {w : World} {S : Nat → Prop} {a : Option Addr} {n c : Nat} {rows : List (List Int)} (h : rowsC.rd w S [.slice a n c] rows) :
    ∃ us : List Value, us.length = rows.length ∧ (∀ t, (h : t < us.length) → (h' : t < rows.length) → rowC.rd w S [us[t]] rows[t]) ∧ (0 < n → ∃ b off, a = some ⟨b, off, none⟩ ∧ b < w.heap.size ∧ ∀ j v, us[j]? = some v → w.cell? ⟨b, off + j, none⟩ = some v) := by
  obtain ⟨ad, cap, e, _, hc⟩ := h
  injection e with e _
  injection e with e1 e2 e3
  subst e1 e2 e3
  rcases hc with rfl | ⟨b, off, rfl, hS, hb, hc⟩
  · exact ⟨[], rfl, fun t h => by simp at h, fun h => by simp at h⟩
  have hall : ∀ t, (h : t < rows.length) → ∃ u, w.cell? ⟨b, off + t, none⟩ = some u ∧ rowC.rd w S [u] rows[t] := fun t ht => by
    obtain ⟨xs, h1, h2⟩ := hc t ht
    have hl := rowC.len h2
    match xs, hl with
    | [u], _ =>
      have := h1 0 (by simp)
      exact ⟨u, by simpa [rowC, Cd.sl] using this, h2⟩
  have hget : ∀ t, (h : t < ((List.range rows.length).map fun t => (w.cell? ⟨b, off + t, none⟩).getD (.slice none 0 0)).length) → w.cell? ⟨b, off + t, none⟩ = some ((List.range rows.length).map fun t => (w.cell? ⟨b, off + t, none⟩).getD (.slice none 0 0))[t] := fun t ht => by
    obtain ⟨u, h1, _⟩ := hall t (by simpa using ht)
    rw [List.getElem_map, List.getElem_range, h1]
    rfl
  refine ⟨(List.range rows.length).map fun t => (w.cell? ⟨b, off + t, none⟩).getD (.slice none 0 0), by simp, fun t ht ht' => ?_, fun _ => ⟨b, off, rfl, hb, fun j v hj => ?_⟩⟩
  · obtain ⟨u, h1, h2⟩ := hall t ht'
    have h3 := hget t ht
    rw [h1] at h3
    injection h3 with h3
    rw [← h3]
    exact h2
  · obtain ⟨hj1, hj2⟩ := List.getElem?_eq_some_iff.1 hj
    rw [hget j hj1, hj2]
theorem lie_rd {w : World} {g cap : Nat} {S : Nat → Prop} {c : List (List Int)} (h : Lie w g S c) (hg : g < w.heap.size) (hl : c.length ≤ 1048577) : rowsC.rd w (· < w.heap.size) [.slice (some ⟨g, 0, none⟩) c.length cap] c := by
  refine ⟨_, cap, rfl, by omega, .inr ⟨g, 0, rfl, hg, hg, fun t ht => ?_⟩⟩
  obtain ⟨u, h1, _, h3⟩ := h t ht
  refine ⟨[u], fun j hj => ?_, rowC.mono h3 fun b hb _ => hb⟩
  have : j = 0 := by simpa using hj
  subst this
  simpa [rowC, Cd.sl] using h1
theorem Lie.later {w w' : World} {g : Nat} {S : Nat → Prop} {c : List (List Int)} (h : Lie w g S c) (hg : g < w.heap.size) (hb : Below w.heap.size w w') : Lie w' g S c := fun t ht => by
  obtain ⟨u, h1, h2, h3⟩ := h t ht
  exact ⟨u, (hb.cell (p := ⟨g, t, none⟩) hg).trans h1, (hb.frozen (p := ⟨g, t, none⟩) hg).trans h2, Cd.later h3 hb⟩
/-- What the sorted and cut list says of the model's. -/
theorem new_same {nm : ByteArray} {ar : Int} {rows l' : List (List Int)} (hs : Srt l') (hm : ∀ r, r ∈ l' ↔ r ∈ rows) :
    newOk nm ar rows = tabOk nm ar (compT l' l'.length) ∧ (tabOk nm ar (compT l' l'.length) = true → newR [] rows = compT l' l'.length) := by
  obtain ⟨h1, h2, _⟩ := compT_sorted hs l'.length (Nat.le_refl _)
  have hmem : ∀ r, r ∈ compT l' l'.length ↔ r ∈ rows := fun r => by
    rw [h2 r, ← hm r]
    constructor
    · rintro ⟨t, ht, _, rfl⟩
      exact List.getElem_mem ht
    · intro q
      obtain ⟨t, ht, rfl⟩ := List.getElem_of_mem q
      exact ⟨t, ht, ht, rfl⟩
  obtain ⟨h3, h4⟩ := new_of h1 hmem
  unfold newOk
  rcases Nat.lt_or_ge 8 (compT l' l'.length).length with q | q
  · have e1 : tabOk nm ar (compT l' l'.length) = false := decide_eq_false fun p => by have := p.2.2.2.1; omega
    have e2 : tabOk nm ar (newR [] rows) = false := decide_eq_false fun p => by have := p.2.2.2.1; have := h4 q; omega
    rw [e1, e2]
    exact ⟨rfl, fun p => by cases p⟩
  · rw [h3 q]
    exact ⟨rfl, fun _ => rfl⟩
theorem tab_wt {nm : ByteArray} {ar : Int} {c : List (List Int)} (h : tabOk nm ar c = true) : rowsWt c ≤ 1048577 ∧ nm.size ≤ 1048577 := by
  have hP : TabP nm ar c := of_decide_eq_true h
  have h1 : nm.size = 1 := (of_decide_eq_true hP.1 : _ ∧ _).1
  have h5 := hP.2.2.1
  have h6 := hP.2.2.2.1
  have h7 : ∀ (l : List (List Int)) (n : Nat), (∀ r ∈ l, r.length ≤ n) → l.flatten.length ≤ l.length * n := by
    intro l n
    induction l with
    | nil => intro _; simp
    | cons x xs ih =>
      intro h
      have := ih fun r hr => h r (List.mem_cons_of_mem _ hr)
      have := h x List.mem_cons_self
      rw [List.flatten_cons, List.length_append, List.length_cons, Nat.add_mul]
      omega
  have h8 := h7 c 3 fun r hr => by
    have := (rowOk_iff.1 (hP.2.2.2.2.1 r hr)).1
    omega
  unfold rowsWt
  omega

set_option maxRecDepth 100000 in
set_option maxHeartbeats 3200000 in
theorem impl_new (nm : ByteArray) (ar : Int) (u : Value) (rows : List (List Int)) (S : Nat → Prop) (w : World) (hr : rowsC.rd w S [u] rows) (hrw : rowsWt rows ≤ 1048577) :
    Calls Tryz.prog 20 #[.string nm, .int .i64 ar, u] w fun e w' => NewAns nm ar rows w e w' := by
  have hr2 : rowsC.rd w (· < w.heap.size) [u] rows := rowsC.mono hr fun b hb _ => hb
  have hll : rows.length ≤ 1048577 := by unfold rowsWt at hrw; omega
  obtain ⟨a, cap, rfl, hlm⟩ := rows_form hr2
  obtain ⟨us, hul, hus, huc⟩ := rows_vals hr2
  have HUL := Lib.hid hul
  have HUS := Lib.hid hus
  have HUC := Lib.hid huc
  clear hr hr2 hrw hul hus huc
  go_enter Tryz.func20, Tryz.ntmps20
  go_wp2_with fail
  generalize hW : w.alloc _ = W
  obtain ⟨r0, hz, hb0⟩ := start1 w _ hW
  clear hW
  have HR0 := Lib.hid (Loc3.of r0)
  have HB := Lib.hid hb0
  have HZ := Lib.hid hz
  have hone : ∀ v ∈ us, v.oneCell' = true := fun v hv => by
    obtain ⟨t, ht, rfl⟩ := List.getElem_of_mem hv
    exact rowC.one (HUS.out t ht (by rw [← HUL.out]; exact ht)) _ (List.mem_singleton.2 rfl)
  have HCP := Lib.hid (copy_cells_row a rows.length cap us W HUL.out hll (fun h0 => by
    obtain ⟨b, off, e, hb, hc⟩ := HUC.out h0
    exact ⟨b, off, e, by have := HB.out.size; omega, fun j v hj => (HB.out.cell (p := ⟨b, off + j, none⟩) hb).trans (hc j v hj)⟩) hone)
  have HG := Lib.hid (show W.heap.size = w.heap.size + 1 from hz)
  clear r0 hz hb0 hone
  generalize hg : W.heap.size = g at HCP HG
  refine HCP.out.mono ?_
  rintro e W1 ⟨rfl, hown, hb1⟩
  obtain ⟨cur, hcur, hcs⟩ : ∃ cur : Array Value, W1.heap[g]? = some (.cells cur 35 (0, 0)) ∧ cur.toList.take rows.length = us := by
    rcases hown.2 with ⟨e1, _⟩ | ⟨g', cap', cur, e1, _, hgg, _, _, _, ht⟩
    · cases e1
    · simp only [Value.slice.injEq, Option.some.injEq, Addr.mk.injEq, and_true, true_and] at e1
      obtain ⟨rfl, rfl⟩ := e1
      exact ⟨cur, hgg, by rw [Nat.mul_one] at ht; exact ht⟩
  have hb1' : Below W.heap.size W W1 := by rw [hg]; exact hb1
  have HB1 := Lib.hid (below_then HB.out hb1')
  have HL1 := Lib.hid (HR0.out.later hb1')
  have hgw1 : g < W1.heap.size := (Array.getElem?_eq_some_iff.1 hcur).1
  have HSORT := Lib.hid (sort_rows g rows.length w.heap.size rows us W1 HUL.out (fun t ht ht' => Cd.below (HUS.out t ht ht') HB1.out) (by have := HG.out; omega) hgw1 (fun t ht => by
    have h1 : (cur.toList.take rows.length)[t]? = us[t]? := by rw [hcs]
    rw [List.getElem?_take, if_pos (by rw [← HUL.out]; exact ht), Array.getElem?_toList, List.getElem?_eq_getElem ht] at h1
    exact ⟨by simp [World.cell?, hcur, h1], by simp [World.frozen?, hcur]⟩) hll)
  have HGW1 := Lib.hid hgw1
  clear hown hb1 hb1' hcur hcs HCP hgw1
  go_wp2_with fail
  refine HSORT.out.mono ?_
  rintro e W2 ⟨l', rfl, hlen, hmem, hsrt, hlie, ht2⟩
  have hgS : ¬ g < w.heap.size := by have := HG.out; omega
  have HCOMP := Lib.hid (compact g rows.length (· < w.heap.size) l' W2 hlie hgS (by omega) hll)
  rw [hlen] at HCOMP
  have HNW := Lib.hid (fun nm ar => new_same (nm := nm) (ar := ar) hsrt hmem)
  have HCL := Lib.hid (show (compT l' l'.length).length ≤ 1048577 by have := compT_le l' l'.length; omega)
  have HGW := Lib.hid hgS
  have HT2 := Lib.hid ht2
  clear hlie hgS hsrt hmem ht2 HSORT
  go_wp2_with fail
  refine HCOMP.out.mono ?_
  rintro e W3 ⟨rfl, hl3, ht3⟩
  have hg1 : w.heap.size ∉ [g] := fun q => by have := List.mem_singleton.1 q; have := HG.out; omega
  have HB3 := Lib.hid ((HT2.out.trans ht3).below HB1.out (fun b hb => by have := List.mem_singleton.1 hb; have := HG.out; omega))
  have HL3 := Lib.hid ((HL1.out.touched HT2.out hg1).touched ht3 hg1)
  have HLI := Lib.hid hl3
  have hg3 : g < W3.heap.size := by have := (HT2.out.trans ht3).size; have := HB1.out.size; have h5 := HL3.out.lt; have h6 := HG.out; exact Nat.lt_of_lt_of_le (show g < W1.heap.size from HGW1.out) (by omega)
  have HG3 := Lib.hid hg3
  generalize compT l' l'.length = c at *
  clear hl3 ht3 hg1 hg3 HCOMP
  go_wp2_with fail
  have HB4 := Lib.hid (below_then HB3.out (below_alloc W3 (.cells #[.string nm, .int .i64 ar, .slice (some ⟨g, 0, none⟩) c.length rows.length] 34 (0, 0))))
  have HL4 := Lib.hid (HL3.out.later (below_alloc W3 (.cells #[.string nm, .int .i64 ar, .slice (some ⟨g, 0, none⟩) c.length rows.length] 34 (0, 0))))
  have HX4 := Lib.hid (Loc3.of (row_alloc W3 (.cells #[.string nm, .int .i64 ar, .slice (some ⟨g, 0, none⟩) c.length rows.length] 34 (0, 0))))
  have HLI4 := Lib.hid (HLI.out.later HG3.out (below_alloc W3 (.cells #[.string nm, .int .i64 ar, .slice (some ⟨g, 0, none⟩) c.length rows.length] 34 (0, 0))))
  have HG4 := Lib.hid (show g < (W3.alloc (.cells #[.string nm, .int .i64 ar, .slice (some ⟨g, 0, none⟩) c.length rows.length] 34 (0, 0))).heap.size by rw [size_alloc]; have := HG3.out; omega)
  generalize hW4 : W3.alloc _ = W4 at *
  generalize W3.heap.size = X at *
  clear hW4
  have HV := Lib.hid (impl_valid nm ar _ c _ W4 (lie_rd (cap := rows.length) HLI4.out HG4.out HCL.out))
  by_cases hok : tabOk nm ar c = true
  · rw [hok] at HV
    have HWHY := Lib.hid (show newOk nm ar rows = true from (HNW.out nm ar).1.trans hok)
    have HNR := Lib.hid ((HNW.out nm ar).2 hok)
    obtain ⟨hw1, hw2⟩ := tab_wt hok
    have HWT := Lib.hid hw1
    have HNM := Lib.hid hw2
    clear hok hw1 hw2
    refine HV.out.mono ?_
    rintro e W5 ⟨rfl, hb5⟩
    have HB5 := Lib.hid (below_then HB4.out hb5)
    have HL5 := Lib.hid (HL4.out.later hb5)
    have HCT := Lib.hid (copy_table nm ar _ c _ W5 (Cd.later (lie_rd (cap := rows.length) HLI4.out HG4.out HCL.out) hb5) HWT.out HNM.out)
    obtain ⟨x0, x1, x2, _, _, _⟩ := HX4.out.later hb5
    clear hb5
    go_wp2_with fail
    refine HCT.out.mono ?_
    rintro e W6 ⟨g6, fp, rfl, how, hnd, hb6⟩
    have HB6 := Lib.hid (below_then HB5.out hb6)
    have HO6 := Lib.hid how
    have HN6 := Lib.hid hnd
    have HW5 := Lib.hid HB5.out.size
    have HL5S := Lib.hid HL5.out.lt
    obtain ⟨p0, p1, p2, q0, q1, q2⟩ := HL5.out.later hb6
    clear how hnd hb6 x0 x1 x2
    go_wp2_with fail
    obtain ⟨k0, k1, k2⟩ := set3 (w := W6) (k := w.heap.size) (x := .string nm) (y := .int .i64 ar) (z := .slice (some ⟨g6, 0, none⟩) c.length c.length) p0 p1 p2
    refine bodyPost_ret (v := .tuple #[.agg #[.string nm, .int .i64 ar, .slice (some ⟨g6, 0, none⟩) c.length c.length], .bool true]) (by simp [results, Tryz.results20, go_sem, k0, k1, k2]) rfl ⟨.slice (some ⟨g6, 0, none⟩) c.length c.length, fp, by simp [HWHY.out], ?_, HN6.out, ?_⟩
    · rw [HWHY.out, if_pos rfl, HNR.out]
      have hn : w.heap.size ∉ fp := fun q => by have := (rowsC.ow_lt HO6.out _ q).1; have := HL5S.out; omega
      exact rowsC.ow_base (ow_setCell (ow_setCell (ow_setCell HO6.out hn _) hn _) hn _) HW5.out
    · exact ((HB6.out.setCell (Nat.le_refl _) _).setCell (Nat.le_refl _) _).setCell (Nat.le_refl _) _
  · have hok : tabOk nm ar c = false := by simpa using hok
    rw [hok] at HV
    have HWHY := Lib.hid (show newOk nm ar rows = false from (HNW.out nm ar).1.trans hok)
    clear hok
    refine HV.out.mono ?_
    rintro e W5 ⟨rfl, hb5⟩
    have HB5 := Lib.hid (below_then HB4.out hb5)
    obtain ⟨p0, p1, p2, q0, q1, q2⟩ := HL4.out.later hb5
    clear hb5
    go_wp2_with fail
    obtain ⟨k0, k1, k2⟩ := set3 (w := W5) (k := w.heap.size) (x := .string ⟨#[]⟩) (y := .int .i64 0) (z := .slice none 0 0) p0 p1 p2
    refine bodyPost_ret (v := .tuple #[.agg #[.string ⟨#[]⟩, .int .i64 0, .slice none 0 0], .bool false]) (by simp [results, Tryz.results20, go_sem, k0, k1, k2]) rfl ⟨.slice none 0 0, [], by simp [HWHY.out], ?_, by simp, ?_⟩
    · rw [HWHY.out]
      exact Cd.ow_nil _ _
    · exact ((HB5.out.setCell (Nat.le_refl _) _).setCell (Nat.le_refl _) _).setCell (Nat.le_refl _) _
end Go.Proofs.YtdjgaffiildijabGreatDoor.TabImp
