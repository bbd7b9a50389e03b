/- Degree sequences: drawn: a table with columns, two sequences: the laws' draws. -/
import Derived.Test.YtklamhnecncenaaDegDraw3
import Derived.Test.YtklamhnecncenaaDegImp1
import Derived.Test.YtklamhnecncenaaDegSpec5
namespace Go.Proofs.Ytklamhnecncenaa.DegDraw
open Go Go.RowKit Byt Ints IntsLaw Draw LocDraw Cd Rows2 Tab TabSpec Exact DegMath DegSpec TabDraw

set_option maxRecDepth 100000 in
set_option maxHeartbeats 1600000 in
theorem draw_deg (v : Value) (l : List UInt8) (w : World) (hr : Reads w v l w.heap.size) :
    Calls Try.prog 23 #[v] w fun e w' => PairAns w e w' := by
  have HR := Lib.hid (fun w' (hb : Below w.heap.size w w') => hr.later hb)
  clear hr
  go_enter Try.func23, Try.ntmps23
  go_wp2_with fail
  generalize hW : w.alloc _ = W0
  obtain ⟨r0, hz, hb0⟩ := start1 w _ hW
  clear hW
  have HX0 := Lib.hid (Loc3.of r0)
  have HB0 := Lib.hid hb0
  have hrd : Reads W0 v l W0.heap.size := by
    obtain ⟨a, cap, h1, h2, h3⟩ := HR.out _ hb0
    refine ⟨a, cap, h1, h2, h3.imp id ?_⟩
    rintro ⟨b, off, e, hb, hc⟩
    exact ⟨b, off, e, by omega, hc⟩
  have HC := Lib.hid (pair_any v l W0 hrd)
  clear r0 hb0 hrd
  refine HC.out.mono ?_
  rintro e w1 ⟨nm, ar, u, rows, f1, u2, cols, f2, rfl, hnm, har, ho1, ho2, hcl, hb1⟩
  obtain ⟨a, c, rfl⟩ := rows_slice ho1
  obtain ⟨a2, c2, rfl⟩ := Cd.ow_slice (c := Cd.int) ho2
  have HX1 := Lib.hid (HX0.out.later hb1)
  have HB1 := Lib.hid (Tab.below_then HB0.out hb1)
  have HO1 := Lib.hid ho1
  have HO2 := Lib.hid ho2
  have HZ := Lib.hid hz
  clear hb1 ho1 ho2 HC HX0 HB0 hz
  have HXA := Lib.hid (HX1.out.later (below_alloc w1 (.cells #[.string nm, .int .i64 ar, .slice a rows.length c] 34)))
  have HOA := Lib.hid (Cd.ow_later HO1.out (below_alloc w1 (.cells #[.string nm, .int .i64 ar, .slice a rows.length c] 34)))
  have HOB := Lib.hid (Cd.ow_later HO2.out (below_alloc w1 (.cells #[.string nm, .int .i64 ar, .slice a rows.length c] 34)))
  have HBA := Lib.hid (Tab.below_then HB1.out (below_alloc w1 (.cells #[.string nm, .int .i64 ar, .slice a rows.length c] 34)))
  obtain ⟨x0, x1, x2, g0, g1, g2⟩ := HXA.out
  go_wp2_with fail
  obtain ⟨k0, k1, k2⟩ := set3 (w := w1.alloc (.cells #[.string nm, .int .i64 ar, .slice a rows.length c] 34)) (k := w.heap.size) (x := .string nm) (y := .int .i64 ar) (z := .slice a rows.length c) x0 x1 x2
  have hn1 : w.heap.size ∉ f1 := fun q => by have := (rowsC.ow_lt HO1.out _ q).1; have := HZ.out; omega
  have hn2 : w.heap.size ∉ f2 := fun q => by have := (rowC.ow_lt HO2.out _ q).1; have := HZ.out; omega
  refine bodyPost_ret (v := .tuple #[.agg #[.string nm, .int .i64 ar, .slice a rows.length c], .slice a2 cols.length c2]) (by simp [results, Try.results23, go_sem, k0, k1, k2]) rfl ⟨nm, ar, _, rows, f1, _, cols, f2, rfl, hnm, har, ?_, ?_, hcl, ?_⟩
  · exact ow_setCell (ow_setCell (ow_setCell (rowsC.ow_base HOA.out (by have := HZ.out; omega)) hn1 _) hn1 _) hn1 _
  · exact ow_setCell (ow_setCell (ow_setCell (rowC.ow_base HOB.out (by have := HZ.out; omega)) hn2 _) hn2 _) hn2 _
  · exact ((HBA.out.setCell (Nat.le_refl _) _).setCell (Nat.le_refl _) _).setCell (Nat.le_refl _) _
/-- Two sequences, drawn. -/
def TwoAns (w : World) (e : Ending) (w' : World) : Prop :=
  ∃ (u1 : Value) (a : List Int) (f1 : List Nat) (u2 : Value) (b : List Int) (f2 : List Nat), e = .returned (.tuple #[u1, u2]) ∧ rowC.ow w' w.heap.size [u1] a f1 ∧ rowC.ow w' w.heap.size [u2] b f2 ∧ a.length ≤ 9 ∧ b.length ≤ 9 ∧ Below w.heap.size w w'
end Go.Proofs.Ytklamhnecncenaa.DegDraw
