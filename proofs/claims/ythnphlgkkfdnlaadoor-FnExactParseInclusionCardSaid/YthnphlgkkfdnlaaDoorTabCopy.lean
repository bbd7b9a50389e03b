/- Tables: the model's copy. -/
import Derived.Test.YthnphlgkkfdnlaaDoorTabPut
import Derived.Deep.RegionLaw
import Derived.Deep.RegionHeld3
namespace Go.Proofs.YthnphlgkkfdnlaaDoor.TabSpec
open Go Go.RowKit Byt Ints IntsLaw Cd Rows2 Tab

theorem cell_alloc_some {w : World} {p : Addr} {v : Value} (h : w.cell? p = some v) (o : Obj) : (w.alloc o).cell? p = some v := ((below_alloc w o).cell (World.block_lt_of_cell? w p h)).trans h

/-- The three cells of a local variable. -/
structure Loc3 (w : World) (X : Nat) (a b c : Value) : Prop where
  c0 : w.cell? ⟨X, 0, none⟩ = some a
  c1 : w.cell? ⟨X, 1, none⟩ = some b
  c2 : w.cell? ⟨X, 2, none⟩ = some c
  f0 : w.frozen? ⟨X, 0, none⟩ = false
  f1 : w.frozen? ⟨X, 1, none⟩ = false
  f2 : w.frozen? ⟨X, 2, none⟩ = false
theorem Loc3.of {w : World} {X : Nat} {a b c : Value} {e : TypeId} (h : w.heap[X]? = some (.cells #[a, b, c] e (0, 0))) : Loc3 w X a b c := by
  obtain ⟨h1, h2, h3, h4, h5, h6⟩ := row3 h
  exact ⟨h1, h2, h3, h4, h5, h6⟩
theorem Loc3.keep {w w' : World} {X : Nat} {a b c : Value} (h : Loc3 w X a b c) (hk : w'.heap[X]? = w.heap[X]?) : Loc3 w' X a b c :=
  ⟨(World.cell?_of_block (w := w) (a := ⟨X, 0, none⟩) hk).trans h.c0, (World.cell?_of_block (w := w) (a := ⟨X, 1, none⟩) hk).trans h.c1, (World.cell?_of_block (w := w) (a := ⟨X, 2, none⟩) hk).trans h.c2,
    (World.frozen?_of_block (w := w) (a := ⟨X, 0, none⟩) hk).trans h.f0, (World.frozen?_of_block (w := w) (a := ⟨X, 1, none⟩) hk).trans h.f1, (World.frozen?_of_block (w := w) (a := ⟨X, 2, none⟩) hk).trans h.f2⟩
theorem Loc3.lt {w : World} {X : Nat} {a b c : Value} (h : Loc3 w X a b c) : X < w.heap.size := World.block_lt_of_cell? w _ h.c0
theorem Loc3.touched {w w' : World} {X : Nat} {a b c : Value} {fp : List Nat} (h : Loc3 w X a b c) (ht : Cd.Touch fp w w') (hn : X ∉ fp) : Loc3 w' X a b c := h.keep (ht.block X h.lt hn)
theorem Loc3.later {w w' : World} {X : Nat} {a b c : Value} (h : Loc3 w X a b c) (hb : Below w.heap.size w w') : Loc3 w' X a b c := h.keep (hb.block X h.lt)
theorem Loc3.set2 {w : World} {X : Nat} {a b c : Value} (h : Loc3 w X a b c) (v : Value) : Loc3 (w.setCell ⟨X, 2, none⟩ v) X a b v := by
  refine ⟨?_, ?_, World.cell?_setCell_same _ _ _ h.c2, ?_, ?_, ?_⟩
  · rw [World.cell?_setCell_other _ _ _ _ (by simp)]; exact h.c0
  · rw [World.cell?_setCell_other _ _ _ _ (by simp)]; exact h.c1
  · simpa using h.f0
  · simpa using h.f1
  · simpa using h.f2
theorem Loc3.set_far {w : World} {X : Nat} {a b c : Value} (h : Loc3 w X a b c) {p : Addr} (hp : p.block ≠ X) (v : Value) : Loc3 (w.setCell p v) X a b c := h.keep (Below.heap_setCell w p v X (fun q => hp q.symm))
theorem touch_undrew {fp : List Nat} {w w' : World} (h : Cd.Touch fp w.drew w') : Cd.Touch fp w w' := ⟨h.os, h.tape, h.output, h.size, h.block⟩

set_option maxRecDepth 100000 in
set_option maxHeartbeats 3200000 in
theorem spec_copy (nm : ByteArray) (ar : Int) (u : Value) (rows : List (List Int)) (S : Nat → Prop) (w : World) (hr : rowsC.rd w S [u] rows) (hrw : rowsWt rows ≤ 1073741824) :
    Calls Tryd.prog 40 #[.agg #[.string nm, .int .i64 ar, u]] w fun e w' => ∃ u' fp, e = .returned (.agg #[.string nm, .int .i64 ar, u']) ∧ rowsC.ow w' w.heap.size [u'] rows fp ∧ fp.Nodup ∧ Below w.heap.size w w' := by
  have HR := Lib.hid (fun w' (hb : Below w.heap.size w w') => Cd.later hr hb)
  have HWT := Lib.hid hrw
  have hll : rows.length ≤ 1073741824 := by unfold rowsWt at hrw; omega
  obtain ⟨a, cap, rfl, hlm⟩ := rows_form hr
  clear hr hrw
  go_enter Tryd.func40, Tryd.ntmps40
  go_wp2_with fail
  generalize hW : ((w.alloc _).alloc _).alloc _ = W
  obtain ⟨r0, r1, r2, hz, hb0⟩ := start3 w _ _ _ hW
  clear hW
  have HB := Lib.hid hb0
  have HZ := Lib.hid hz
  have HR0 := Lib.hid r0
  have HR1 := Lib.hid r1
  have HR2 := Lib.hid r2
  clear r0 r1 r2 hb0 hz
  go_loopw [4] (fun i wr => ∃ (k : Nat) (o : Value) (fp : List Nat), k ≤ rows.length ∧ i = .int .i64 k ∧ rowsC.ow wr (w.heap.size + 3) [o] (rows.take k) fp ∧ fp.Nodup ∧ Below (w.heap.size + 2) W wr ∧ Loc3 wr (w.heap.size + 2) (.string nm) (.int .i64 ar) o) (fun i _ => rows.length - (intOf i).toNat)
  case atStart => exact ⟨0, .slice none 0 0, [], Nat.zero_le _, rfl, Cd.ow_nil _ _, by simp, Below.refl _ _, Loc3.of HR2.out⟩
  case round =>
    obtain ⟨k, o, fp, hk, rfl, how, hnd, hbw, hx⟩ := hrel
    have hbw0 : Below w.heap.size w wr := HB.out.trans (hbw.mono (by omega))
    obtain ⟨d0, d1, d2, _, _, _⟩ := Loc3.keep (Loc3.of HR0.out) (hbw.block w.heap.size (by omega))
    obtain ⟨x0, x1, x2, g0, g1, g2⟩ := hx
    have HX := Lib.hid (Loc3.mk x0 x1 x2 g0 g1 g2)
    have HOW := Lib.hid how
    have HND := Lib.hid hnd
    have HBW := Lib.hid hbw
    have HBW0 := Lib.hid hbw0
    obtain ⟨ao, co, ho⟩ := Cd.ow_slice how
    rw [List.length_take, Nat.min_eq_left hk] at ho
    subst ho
    clear how hnd hbw hbw0
    by_cases hlt : k < rows.length
    · obtain ⟨b, off, cap', v', e1, hbB, hc, hv'⟩ := rows_at (HR.out wr HBW0.out) hlt
      injection e1 with e1 e2 e3
      subst e1 e3
      have HK := Lib.hid (show rowC.rd wr S [v'] rows[k] from hv')
      have p1 : (0 : Int) ≤ (k : Int) := by omega
      have p2 : (k : Int) < (rows.length : Int) := by omega
      clear hv'
      have ca1 := cell_alloc_some d2 (.cells #[] 3)
      have ca2 := cell_alloc_some x2 (.cells #[] 3)
      have ca3 := cell_alloc_some hc (.cells #[] 3)
      have HL2 := Lib.hid (show rows[k].length ≤ 1073741824 by have := HWT.out; have := row_len hlt; unfold rowsWt at *; omega)
      have HL1 := Lib.hid (show (rows.take k).length + 1 ≤ 1000000000000 by rw [List.length_take]; omega)
      have HH := Lib.hid (show w.heap.size + 3 ≤ wr.heap.size by have := HBW.out.size; have := HZ.out; omega)
      have HE := Lib.hid (show rowC.ow (wr.alloc (.cells #[] 3)).drew (w.heap.size + 3) [.slice (some ⟨wr.heap.size, 0, none⟩) 0 0] [] [wr.heap.size] from rowC.ow_keep (show rowC.ow (wr.alloc (.cells #[] 3)) _ _ _ _ from Cd.ow_empty wr _ HH.out) fun _ _ => rfl)
      have HKA := Lib.hid (show rowC.rd (wr.alloc (.cells #[] 3)).drew S [v'] rows[k] from rowC.keep (Cd.later HK.out (below_alloc _ (.cells #[] 3))) fun _ _ _ => rfl)
      have HHA := Lib.hid (show w.heap.size + 3 ≤ (wr.alloc (.cells #[] 3)).drew.heap.size from Nat.le_trans HH.out (below_alloc wr (.cells #[] 3)).size)
      go_wp2
      go_region_law (first | (refine Cd.step_appendRI rfl (.tmp 19) (.tmp 24) 31 rfl (w.heap.size + 3) 3 Tryd.underlying31 info_i64 _ [] _ rfl HE.out v' rows[k] _ rfl HKA.out (by have := HL2.out; simp; omega) HHA.out ?_; intro v1 w2 f1 ho1 hn1 hs1 ht1; obtain ⟨a1, c1, rfl⟩ := Cd.ow_slice ho1; (have hht := touch_undrew ht1); (have HCP := Lib.hid (copied (c := rowsC) (d := rowC) HOW.out HH.out ho1 (by simpa using hs1) hht (.cells #[.slice a1 (rows[k]).length c1] 31))); (have kc : (w2.alloc (.cells #[.slice a1 (rows[k]).length c1] 31)).cell? ⟨w2.heap.size, 0, none⟩ = some (.slice a1 (rows[k]).length c1) := by simp); (have KC := Lib.hid kc); (have KN := Lib.hid hn1); (have HX2 := Lib.hid (Loc3.touched (Loc3.later HX.out (below_alloc wr (.cells #[] 3))) hht (by have := HH.out; simp; omega))); (have y2 := HX2.out.c2); (have HX3 := Lib.hid (Loc3.later HX2.out (below_alloc w2 (.cells #[.slice a1 (rows[k]).length c1] 31)))); (have z2 := HX3.out.c2); clear kc ho1 hs1 ht1 hn1 hht) | (refine Cd.step_appendE (c := rowC) rfl rfl (.tmp 18) (.tmp 26) 40 rfl (w.heap.size + 3) 31 (.slice none 0 0) 24 Tryd.underlying40 info_ints rfl (by decide) _ _ _ rfl HCP.out.1 HND.out _ _ rfl KC.out _ _ HCP.out.2.1 KN.out HCP.out.2.2.1 HL1.out HCP.out.2.2.2.2 ?_; intro g capA w3 fp3 ho3 hn3 hs3 ht3; (have HO3 := Lib.hid ho3); (have HN3 := Lib.hid hn3); (have HX4 := Lib.hid (Loc3.touched HX3.out ht3 (fun q => by have := (rowsC.ow_lt HOW.out _ q).1; omega))); (have q2 := HX4.out.c2); (have qf := HX4.out.f2); (have HB4 := Lib.hid (Below.trans HBW.out (Below.trans (HCP.out.2.2.2.1.mono (by have := HH.out; omega)) ⟨ht3.os, ht3.tape, ht3.output, ht3.size, fun i hi => ht3.block i (by have := HCP.out.2.2.2.2; omega) (fun q => by have := (rowsC.ow_lt HOW.out _ q).1; omega)⟩))); clear ho3 hn3 hs3 ht3))
      all_goals
        go_wp2
        go_roundw
        case rel =>
          have hkl : (rows.take k).length = k := by rw [List.length_take]; omega
          have h3 := HO3.out
          rw [hkl] at h3
          refine ⟨k + 1, .slice (some ⟨g, 0, none⟩) (k + 1) capA, fp3, by omega, by go_num, ?_, HN3.out, ?_, ?_⟩
          · rw [List.take_succ_eq_append_getElem hlt]
            exact ow_setCell h3 (fun q => by have := (rowsC.ow_lt h3 _ q).1; simp at this; omega) _
          · exact HB4.out.setCell (by simp) _
          · exact Loc3.set2 HX4.out _
        case measure => simp [intOf]; omega
    · have ek : k = rows.length := by omega
      subst ek
      have how := HOW.out
      rw [List.take_length] at how
      obtain ⟨p0, p1, p2, q0, q1, q2⟩ := Loc3.keep (Loc3.of HR1.out) (HBW.out.block (w.heap.size + 1) (by omega))
      have HOW2 := Lib.hid how
      clear how
      go_wp2_with fail
      obtain ⟨k0, k1, k2⟩ := set3 (w := wr) (k := w.heap.size + 1) (x := .string nm) (y := .int .i64 ar) (z := .slice ao rows.length co) p0 p1 p2
      refine bodyPost_ret (v := .agg #[.string nm, .int .i64 ar, .slice ao rows.length co]) (by simp [results, Tryd.results40, go_sem, k0, k1, k2]) rfl ⟨_, fp, rfl, ?_, HND.out, ?_⟩
      · have hn : ∀ k, k < w.heap.size + 3 → k ∉ fp := fun k hk q => by
          have h1 := (rowsC.ow_lt HOW2.out k q).1
          omega
        exact ow_setCell (ow_setCell (ow_setCell (rowsC.ow_base HOW2.out (by omega)) (hn _ (by show w.heap.size + 1 < _; omega)) _) (hn _ (by show w.heap.size + 1 < _; omega)) _) (hn _ (by show w.heap.size + 1 < _; omega)) _
      · exact ((HBW0.out.setCell (by show _ ≤ w.heap.size + 1; omega) _).setCell (by show _ ≤ w.heap.size + 1; omega) _).setCell (by show _ ≤ w.heap.size + 1; omega) _
end Go.Proofs.YthnphlgkkfdnlaaDoor.TabSpec
