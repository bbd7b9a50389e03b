/- Degree sequences: the model's sequence of a table and its greatest degree. -/
import Derived.Test.YtklamhnecncenaaDegSpec4
namespace Go.Proofs.Ytklamhnecncenaa.DegSpec
open Go Go.RowKit Byt Ints IntsLaw Cd Rows2 Tab TabSpec Exact DegMath

def DegAns (nm : ByteArray) (ar : Int) (rows : List (List Int)) (cols : List Int) (w : World) (e : Ending) (w' : World) : Prop :=
  ∃ u fp, e = .returned u ∧ rowC.ow w' w.heap.size [u] (degL nm ar rows cols) fp ∧ fp.Nodup ∧ Below w.heap.size w w'
set_option maxRecDepth 100000 in
theorem spec_deg (nm : ByteArray) (ar : Int) (u v : Value) (rows : List (List Int)) (V : List Int) (S S2 : Nat → Prop) (w : World) (hr : rowsC.rd w S [u] rows) (hv : rowC.rd w S2 [v] V) :
    Calls Try.prog 28 #[.agg #[.string nm, .int .i64 ar, u], v] w fun e w' => DegAns nm ar rows V w e w' := by
  have HG := Lib.hid (fun w' (hb : Below w.heap.size w w') => spec_groups nm ar u v rows V S S2 w' (Cd.later hr hb) (Cd.later hv hb))
  have HN8 := Lib.hid (show (gcN nm ar rows V).length ≤ 1000000 by have := gc_len (nm := nm) (ar := ar) (rows := rows) (cols := V); have := gcV_len (nm := nm) (ar := ar) (rows := rows) (cols := V); omega)
  have HDL := Lib.hid (show degL nm ar rows V = downL (gcN nm ar rows V) from rfl)
  obtain ⟨a, cap, rfl, hlm⟩ := rows_form hr
  obtain ⟨a1, c1, rfl, hl1⟩ := (row_ri hv).1
  clear hr hv
  go_enter Try.func28, Try.ntmps28
  go_wp2_with fail
  generalize hW : w.alloc _ = W
  obtain ⟨r0, _, hb0⟩ := start1 w _ hW
  have HB := Lib.hid hb0
  have hL := Loc3.of r0
  have d0 := hL.c0
  have d1 := hL.c1
  have d2 := hL.c2
  clear hW r0 hb0 hL
  go_wp2_with fail
  refine (HG.out W HB.out).mono ?_
  rintro e w1 ⟨u1, u2, f1, f2, rfl, ho1, ho2, hn1, hn2, hd, hb1⟩
  have HB1 := Lib.hid (below_then HB.out hb1)
  have HD := Lib.hid (spec_down u2 _ _ w1 (rowC.ow_rd ho2) HN8.out)
  clear ho1 ho2 hn1 hn2 hd hb1
  go_wp2_with fail
  refine HD.out.mono ?_
  rintro e w2 ⟨g, c, fp, rfl, ho, hn, hb2⟩
  have F1 := Lib.hid (rowC.ow_base ho HB1.out.size)
  have F2 := Lib.hid hn
  have F3 := Lib.hid (below_then HB1.out hb2)
  clear ho hn hb2
  go_wp2_with fail
  go_ret
  exact ⟨_, fp, rfl, by rw [HDL.out]; exact F1.out, F2.out, F3.out⟩
end Go.Proofs.Ytklamhnecncenaa.DegSpec
