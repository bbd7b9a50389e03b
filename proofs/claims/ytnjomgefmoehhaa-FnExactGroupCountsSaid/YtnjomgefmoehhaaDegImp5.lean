/- Degree sequences: the program's sequence of a table and its greatest degree. -/
import Derived.Test.YtnjomgefmoehhaaDegImp4
namespace Go.Proofs.Ytnjomgefmoehhaa.DegImp
open Go Go.RowKit Byt Ints IntsLaw Cd Rows2 Tab TabSpec TabImp Exact DegMath DegSpec

theorem ow_two {w : World} {base : Nat} {v : Value} {l : List Int} {fp : List Nat} (h : rowC.ow w base [v] l fp) : (v = .slice none 0 0 ∧ l = []) ∨ ∃ g cap, v = .slice (some ⟨g, 0, none⟩) l.length cap := by
  obtain ⟨hown, _, _⟩ := row_own h
  rcases hown.2 with ⟨h1, h2⟩ | ⟨g', cap', cur, h1, _⟩
  · exact .inl ⟨h1, List.eq_nil_of_length_eq_zero h2⟩
  · exact .inr ⟨g', cap', h1⟩
set_option maxRecDepth 100000 in
theorem impl_deg (nm : ByteArray) (ar : Int) (u v : Value) (rows : List (List Int)) (V : List Int) (S S2 : Nat → Prop) (w : World) (hr : rowsC.rd w S [u] rows) (hv : rowC.rd w S2 [v] V) :
    Calls Try.prog 13 #[.agg #[.string nm, .int .i64 ar, u], v] w fun e w' => DegAns nm ar rows V w e w' := by
  have HG := Lib.hid (fun w' (hb : Below w.heap.size w w') => impl_groups nm ar u v rows V S S2 w' (Cd.later hr hb) (Cd.later hv hb))
  have HN8 := Lib.hid (show (gcN nm ar rows V).length ≤ 1000000 by have := gc_len (nm := nm) (ar := ar) (rows := rows) (cols := V); have := gcV_len (nm := nm) (ar := ar) (rows := rows) (cols := V); omega)
  have HDL := Lib.hid (show degL nm ar rows V = downL (gcN nm ar rows V) from rfl)
  obtain ⟨a, cap, rfl, hlm⟩ := rows_form hr
  obtain ⟨a1, c1, rfl, hl1⟩ := (row_ri hv).1
  clear hr hv
  go_enter Try.func13, Try.ntmps13
  go_wp2_with fail
  generalize hW : w.alloc _ = W
  obtain ⟨r0, _, hb0⟩ := start1 w _ hW
  have HB := Lib.hid hb0
  have hL := Loc3.of r0
  have d0 := hL.c0
  have d1 := hL.c1
  have d2 := hL.c2
  clear hW r0 hb0 hL
  go_wp2_with fail
  refine (HG.out W HB.out).mono ?_
  rintro e w1 ⟨u1, u2, f1, f2, rfl, ho1, ho2, hn1, hn2, hd, hb1⟩
  have HB1 := Lib.hid (below_then HB.out hb1)
  have HO2 := Lib.hid (rowC.ow_base ho2 HB.out.size)
  rcases ow_two ho2 with ⟨rfl, hl0⟩ | ⟨g, c, rfl⟩
  · have HZ := Lib.hid (show degL nm ar rows V = [] by unfold degL; rw [hl0]; simp [downL])
    have HS := Lib.hid (sort_nil w1)
    clear ho1 ho2 hn1 hn2 hd hb1 hl0
    go_wp2_with fail
    refine HS.out.mono ?_
    rintro e w2 ⟨rfl, rfl⟩
    go_wp2_with fail
    go_ret
    exact ⟨_, [], rfl, by rw [HZ.out]; exact Cd.ow_nil _ _, by simp, HB1.out⟩
  · have HS := Lib.hid (sort_down g c w.heap.size _ _ w1 HO2.out HN8.out)
    have HGF := Lib.hid (show w.heap.size ≤ g from (rowC.ow_lt HO2.out g (by obtain ⟨_, _, _, h, _⟩ := row_parts ho2; rw [h]; simp)).1)
    clear ho1 ho2 hn1 hn2 hd hb1
    go_wp2_with fail
    refine HS.out.mono ?_
    rintro e w2 ⟨rfl, ho, ht⟩
    have F1 := Lib.hid ho
    have F3 := Lib.hid (Cd.Touch.below HB1.out ht (fun b hb => by rw [List.mem_singleton.1 hb]; exact HGF.out))
    clear ho ht
    go_wp2_with fail
    go_ret
    exact ⟨_, _, rfl, by rw [HDL.out]; exact F1.out, by simp, F3.out⟩
set_option maxRecDepth 100000 in
theorem impl_max (nm : ByteArray) (ar : Int) (u v : Value) (rows : List (List Int)) (V : List Int) (S S2 : Nat → Prop) (w : World) (hr : rowsC.rd w S [u] rows) (hv : rowC.rd w S2 [v] V) :
    Calls Try.prog 19 #[.agg #[.string nm, .int .i64 ar, u], v] w fun e w' => e = .returned (.int .i64 (maxL nm ar rows V)) ∧ Below w.heap.size w w' := by
  have HG := Lib.hid (fun w' (hb : Below w.heap.size w w') => impl_deg nm ar u v rows V S S2 w' (Cd.later hr hb) (Cd.later hv hb))
  have HML := Lib.hid (show maxL nm ar rows V = (degL nm ar rows V).headD 0 from rfl)
  obtain ⟨a, cap, rfl, hlm⟩ := rows_form hr
  obtain ⟨a1, c1, rfl, hl1⟩ := (row_ri hv).1
  clear hr hv
  go_enter Try.func19, Try.ntmps19
  go_wp2_with fail
  generalize hW : w.alloc _ = W
  obtain ⟨r0, _, hb0⟩ := start1 w _ hW
  have HB := Lib.hid hb0
  have hL := Loc3.of r0
  have d0 := hL.c0
  have d1 := hL.c1
  have d2 := hL.c2
  clear hW r0 hb0 hL
  go_wp2_with fail
  refine (HG.out W HB.out).mono ?_
  rintro e w1 ⟨u1, f1, rfl, ho1, hn1, hb1⟩
  have HB1 := Lib.hid (below_then HB.out hb1)
  have hri := (row_ri (rowC.ow_rd ho1)).1
  clear ho1 hn1 hb1
  generalize degL nm ar rows V = D at *
  cases D with
  | nil =>
    obtain ⟨a3, c3, rfl, _⟩ := hri
    go_wp2_with fail
    go_ret
    exact ⟨ret_int HML.out.symm, HB1.out⟩
  | cons x xs =>
    obtain ⟨b, off, cap', rfl, hbB, hc⟩ := ri_at hri (k := 0) (by simp)
    have hl3 := hri
    obtain ⟨a3, c3, e3, hl3, _⟩ := hl3
    simp only [Nat.add_zero, List.getElem_cons_zero, List.length_cons] at hc hl3
    have q1 : (((xs.length + 1 : Nat) : Int) == 0) = false := by rw [beq_eq_false_iff_ne]; omega
    have q2 : (0 : Int) < ((xs.length + 1 : Nat) : Int) := by omega
    clear hri e3
    go_wp2_with fail
    go_ret
    exact ⟨ret_int HML.out.symm, HB1.out⟩
end Go.Proofs.Ytnjomgefmoehhaa.DegImp
