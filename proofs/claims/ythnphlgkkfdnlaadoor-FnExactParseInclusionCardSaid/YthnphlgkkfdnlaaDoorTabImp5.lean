/- Tables: the copy of a table: the program's function. -/
import Derived.Test.YthnphlgkkfdnlaaDoorTabImp4
import Derived.Test.YthnphlgkkfdnlaaDoorShelf
import Derived.Deep.RegionLaw
namespace Go.Proofs.YthnphlgkkfdnlaaDoor.TabImp
open Go Go.RowKit Byt Ints IntsLaw Cd Rows2 Tab TabSpec Exact

theorem str_clone (s : ByteArray) (w : World) (hs : s.size ≤ 1048577) :
    Calls Tryd.prog 28 #[.string s] w fun e w' => e = .returned (.string s) ∧ Below w.heap.size w w' := by
  have HC := Lib.hid (Tryd.stringslite_Clone s w (by omega))
  clear hs
  go_enter Tryd.func28, Tryd.ntmps28
  go_wp2_with (go_at_call 42; refine HC.out.mono ?_; rintro e w1 ⟨rfl, hb⟩)
  go_ret
  exact ⟨rfl, hb⟩

set_option maxRecDepth 100000 in
set_option maxHeartbeats 3200000 in
theorem copy_table (nm : ByteArray) (ar : Int) (u : Value) (rows : List (List Int)) (S : Nat → Prop) (w : World) (hr : rowsC.rd w S [u] rows) (hrw : rowsWt rows ≤ 1048577) (hnm : nm.size ≤ 1048577) :
    Calls Tryd.prog 36 #[.agg #[.string nm, .int .i64 ar, u]] w fun e w' => ∃ g fp, e = .returned (.agg #[.string nm, .int .i64 ar, .slice (some ⟨g, 0, none⟩) rows.length rows.length]) ∧ rowsC.ow w' w.heap.size [.slice (some ⟨g, 0, none⟩) rows.length rows.length] rows fp ∧ fp.Nodup ∧ Below w.heap.size w w' := by
  have HR := Lib.hid (fun w' (hb : Below w.heap.size w w') => Cd.later hr hb)
  have HWT := Lib.hid hrw
  have HNM := Lib.hid hnm
  obtain ⟨a, cap, rfl, hlm⟩ := rows_form hr
  clear hr hrw hnm
  go_enter Tryd.func36, Tryd.ntmps36
  go_wp2_with fail
  generalize hW : (w.alloc _).alloc _ = W
  obtain ⟨r0, r1, hz, hb0⟩ := start2g w _ _ hW
  clear hW
  have HT := Lib.hid (Loc3.of r0)
  have HX := Lib.hid (Loc3.of r1)
  have HB := Lib.hid hb0
  have HZ := Lib.hid hz
  have HCL := Lib.hid (str_clone nm W.drew HNM.out)
  have HMAP := Lib.hid (fun w' (hb : Below W.heap.size W w') => map_copy (.slice a rows.length cap) rows S w' (Cd.later (HR.out W HB.out) hb) HWT.out)
  clear r0 r1 hb0 hz
  have y0 := HT.out.c0
  have y1 := HT.out.c1
  have y2 := HT.out.c2
  go_region_law (first | (go_simp; go_at_call 28; refine HCL.out.mono ?_; rintro e wq ⟨rfl, hbq⟩; (have hq := undrew hbq); (have HQ := Lib.hid hq); (have hqz := hq.size); (have k0 := (HT.out.later hq).c0); (have k1 := (HT.out.later hq).c1); (have k2 := (HT.out.later hq).c2); clear hbq hq) | (go_simp; go_at_call 51; refine (HMAP.out wq HQ.out).mono ?_; rintro e wp ⟨g, fp, rfl, how, hnd, hbp⟩; (have HP := Lib.hid (below_then HQ.out hbp)); (have hpz := hbp.size); (have HOW := Lib.hid how); (have HND := Lib.hid hnd); (have j0 := (HT.out.later HP.out).c0); (have j1 := (HT.out.later HP.out).c1); (have j2 := (HT.out.later HP.out).c2); (have i0 := (HX.out.later HP.out).c0); (have i1 := (HX.out.later HP.out).c1); (have i2 := (HX.out.later HP.out).c2); (have f0 := (HX.out.later HP.out).f0); (have f1 := (HX.out.later HP.out).f1); (have f2 := (HX.out.later HP.out).f2); clear hbp how hnd))
  all_goals
    obtain ⟨k0, k1, k2⟩ := set3 (w := wp) (k := w.heap.size + 1) (x := .string nm) (y := .int .i64 ar) (z := .slice (some ⟨g, 0, none⟩) rows.length rows.length) i0 i1 i2
    clear y0 y1 y2 j0 j1 j2 i0 i1 i2 f0 f1 f2
    go_wp2_with fail
    refine bodyPost_ret (v := .agg #[.string nm, .int .i64 ar, .slice (some ⟨g, 0, none⟩) rows.length rows.length]) (by simp [results, Tryd.results36, go_sem, k0, k1, k2]) rfl ⟨g, fp, rfl, ?_, HND.out, ?_⟩
    · have hn : w.heap.size + 1 ∉ fp := fun q => by
        have h1 := (rowsC.ow_lt HOW.out _ q).1
        have h2 := HZ.out
        omega
      exact ow_setCell (ow_setCell (ow_setCell (rowsC.ow_base HOW.out (by have := HZ.out; omega)) hn _) hn _) hn _
    · have hb := below_then HB.out HP.out
      exact ((hb.setCell (by show _ ≤ w.heap.size + 1; omega) _).setCell (by show _ ≤ w.heap.size + 1; omega) _).setCell (by show _ ≤ w.heap.size + 1; omega) _
end Go.Proofs.YthnphlgkkfdnlaaDoor.TabImp
