/- Bounds from degree sequences: drawn: two sequences, a number and a root, another code: the laws' draws. -/
import Derived.Test.YtklamhnecncenaaDegDraw4
namespace Go.Proofs.Ytklamhnecncenaa.SbDraw
open Go Go.RowKit Byt Ints IntsLaw Draw LocDraw Cd Rows2 Tab TabSpec Exact DegMath DegSpec DegDraw

theorem reads_up {w w' : World} {v : Value} {l : List UInt8} (h : Reads w v l w.heap.size) (hb : Below w.heap.size w w') : Reads w' v l w'.heap.size := by
  obtain ⟨a, cap, h1, h2, h3⟩ := h.later hb
  refine ⟨a, cap, h1, h2, h3.imp id ?_⟩
  rintro ⟨b, off, e, hq, hc⟩
  exact ⟨b, off, e, Nat.lt_of_lt_of_le hq hb.size, hc⟩
theorem own_reads {w : World} {base : Nat} {e : TypeId} {v : Value} {l : List UInt8} (h : Own w base e v l) : Reads w v l w.heap.size := by
  have h' := h
  rcases h.2 with ⟨h1, h2⟩ | ⟨g, cap, cur, h1, _, hg, _, h5, _⟩
  · obtain rfl : l = [] := List.eq_nil_of_length_eq_zero h2
    exact ⟨none, 0, h1, by simp, .inl rfl⟩
  · subst h1
    refine ⟨_, cap, rfl, by unfold maxLen at h5; omega, .inr ⟨g, 0, rfl, (Array.getElem?_eq_some_iff.1 hg).1, fun t ht => ?_⟩⟩
    rw [Nat.zero_add, Own.cellAt h' rfl t ht]
    simp [ht]
set_option maxRecDepth 100000 in
set_option maxHeartbeats 1600000 in
theorem fresh_any (v : Value) (l : List UInt8) (w : World) (hr : Reads w v l w.heap.size) :
    Calls Try.prog 24 #[v, .int .i64 3] w fun e w' => ∃ v' l', e = .returned v' ∧ Own w' w.heap.size 5 v' l' ∧ Below w.heap.size w w' := by
  have HR := Lib.hid (fun w' (hb : Below w.heap.size w w') => hr.later hb)
  have HO := Lib.hid (show Own (w.alloc (.cells #[.int .u8 3] 5)) w.heap.size 5 (.slice (some ⟨w.heap.size, 0, none⟩) 1 1) [3] from World.ownsRow_lit w #[.int .u8 3] 1 (Nat.le_refl _) (by unfold maxLen; omega) rfl)
  have HB0 := Lib.hid (below_alloc w (.cells #[.int .u8 3] 5))
  obtain ⟨a, cap, rfl, hlm, _⟩ := hr
  go_enter Try.func24, Try.ntmps24
  go_wp2_with fail
  go_loopw [5, 6] (fun o i wr => ∃ (k : Nat) (l' : List UInt8), k ≤ l.length ∧ k ≤ 600 ∧ i = .int .i64 k ∧ l'.length = k + 1 ∧ Own wr w.heap.size 5 o l' ∧ Below w.heap.size w wr) (fun _ i _ => l.length - (intOf i).toNat)
  case atStart => exact ⟨0, [3], Nat.zero_le _, by omega, rfl, rfl, HO.out, HB0.out⟩
  case round =>
    obtain ⟨k, l', hk, hk6, rfl, hl', hown, hb⟩ := hrel
    have HB := Lib.hid hb
    have hbs := hb.size
    have p1 : (0 : Int) ≤ (k : Int) := by omega
    by_cases hlt : k < l.length ∧ k < 600
    · obtain ⟨hlt, h6⟩ := hlt
      obtain ⟨a2, c2, e1, _, hcase⟩ := HR.out wr hb
      injection e1 with e1 e2 e3
      subst e1 e3
      rcases hcase with hnil | ⟨b, off, rfl, hbB, hcell⟩
      · rw [hnil] at hlt; exact absurd hlt (by simp)
      have hc := hcell k hlt
      have p2 : (k : Int) < (l.length : Int) := by omega
      have p3 : (k : Int) < 600 := by omega
      have y2 := (l[k]).toNat_lt
      have hlen : l'.length + 1 ≤ 140737488355328 := by omega
      have q1 : (0 : Int) ≤ (k : Int) % 7 := by omega
      have q2 : (k : Int) % 7 < 7 := by omega
      have q3 : (k : Int).tmod 7 = (k : Int) % 7 := Int.tmod_eq_emod_of_nonneg p1
      clear hcell e2 hb
      generalize l[k].toNat = y at *
      go_wp2_with (at_builtin; refine wp_append1 rfl (.tmp 20) (.tmp 34) 22 rfl w.heap.size 5 Try.underlying22 info_u8 _ _ rfl hown _ rfl (by omega) (by omega) hlen hbs ?_)
      intro v' w5 hown5 hb5
      go_wp2_with fail
      go_roundw
      case rel => exact ⟨k + 1, _, by omega, by omega, by go_num, by rw [List.length_append, hl']; rfl, hown5, HB.out.trans hb5⟩
      case measure => simp [intOf]; omega
    · have HO2 := Lib.hid hown
      clear hown hb
      by_cases h1 : k < l.length
      · have p2 : (k : Int) < (l.length : Int) := by omega
        have p3 : ¬ (k : Int) < 600 := by omega
        go_wp2_with fail
        go_ret
        first | exact ⟨_, _, rfl, HO2.out, HB.out⟩ | exact ⟨_, rfl, ⟨_, HO2.out⟩, HB.out⟩
      · have p2 : ¬ (k : Int) < (l.length : Int) := by omega
        go_wp2_with fail
        go_ret
        first | exact ⟨_, _, rfl, HO2.out, HB.out⟩ | exact ⟨_, rfl, ⟨_, HO2.out⟩, HB.out⟩
set_option maxRecDepth 100000 in
set_option maxHeartbeats 1600000 in
theorem pair11 (v : Value) (l : List UInt8) (w : World) (hr : Reads w v l w.heap.size) :
    Calls Try.prog 66 #[v] w fun e w' => TwoAns w e w' := by
  have HNW := Lib.hid (new_any v l w.heap.size w hr)
  have HR := Lib.hid hr
  clear hr
  go_enter Try.func66, Try.ntmps66
  go_wp2_with fail
  refine HNW.out.mono ?_
  rintro e w1 ⟨rfl, hc1, hg1⟩
  have hb1 : Below w.heap.size w w1 := ⟨hg1.os, hg1.tape, hg1.output, hg1.size, fun k hk => hg1.block k hk (by simp)⟩
  have HC1 := Lib.hid (show CR w1 w.heap.size v l w.heap.size from ⟨hc1, HR.out.later hb1, Nat.le_refl _⟩)
  have HB1 := Lib.hid hb1
  have HZ1 := Lib.hid (show w.heap.size + 1 ≤ w1.heap.size by have := cur_size hc1; omega)
  clear hc1 hg1 hb1 HNW HR
  generalize hcc : w.heap.size = c at *
  have HCC := Lib.hid hcc.symm
  clear hcc
  have HSQ := Lib.hid (fun A (h : CR A c v l c) => seq_any c v l c A h)
  go_wp2_with fail
  refine (HSQ.out w1 HC1.out).mono ?_
  rintro e w2 ⟨u1, a, f1, rfl, hal, hs2⟩
  obtain ⟨a1, c1, rfl⟩ := Cd.ow_slice (c := Cd.int) hs2.ow
  have HAL := Lib.hid hal
  have HS2 := Lib.hid hs2
  have HB2 := Lib.hid (show Below w.heap.size w w2 from Cd.Touch.below (by rw [← HCC.out]; exact HB1.out) hs2.bl (fun b hb => by rw [List.mem_singleton.1 hb, HCC.out]; exact Nat.le_refl _))
  have HBC := Lib.hid (show w.heap.size ≤ w1.heap.size by have := HZ1.out; have := HCC.out; omega)
  have HFIN := Lib.hid (show ∀ (A W : World) (x y : Value) (p q : List Int) (fp fq : List Nat), w1.heap.size ≤ A.heap.size → rowC.ow W w1.heap.size [x] p fp → rowC.ow W A.heap.size [y] q fq → p.length ≤ 9 → q.length ≤ 9 → Below w.heap.size w W → TwoAns w (.returned (.tuple #[x, y])) W from
    fun A W x y p q fp fq h0 h1 h2 h3 h4 h5 => ⟨x, p, fp, y, q, fq, rfl, rowC.ow_base h1 HBC.out, rowC.ow_base h2 (Nat.le_trans HBC.out h0), h3, h4, h5⟩)
  clear hal hs2 HC1 HB1
  go_wp2_with fail
  refine (HSQ.out w2 HS2.out.cr).mono ?_
  rintro e w3 ⟨u2, b, f2, rfl, hbl, hs3⟩
  obtain ⟨a2, c2, rfl⟩ := Cd.ow_slice (c := Cd.int) hs3.ow
  have HF := Lib.hid (HFIN.out w2 w3 _ _ _ _ _ _ HS2.out.bl.size (HS2.out.call hs3.cr hs3.bl).ow hs3.ow HAL.out hbl (Cd.Touch.below HB2.out hs3.bl (fun b hb => by rw [List.mem_singleton.1 hb, HCC.out]; exact Nat.le_refl _)))
  clear hs3 hbl
  go_wp2_with fail
  go_ret2
  exact HF.out
set_option maxRecDepth 100000 in
theorem draw_pair (v : Value) (l : List UInt8) (w : World) (hr : Reads w v l w.heap.size) :
    Calls Try.prog 14 #[v] w fun e w' => TwoAns w e w' := by
  have HP := Lib.hid (pair11 v l w hr)
  obtain ⟨a, cap, rfl, hlm, _⟩ := hr
  go_enter Try.func14, Try.ntmps14
  go_wp2_with fail
  refine HP.out.mono ?_
  rintro e w1 ⟨u1, x, f1, u2, y, f2, rfl, ho1, ho2, hx, hy, hb⟩
  obtain ⟨a1, c1, rfl⟩ := Cd.ow_slice (c := Cd.int) ho1
  obtain ⟨a2, c2, rfl⟩ := Cd.ow_slice (c := Cd.int) ho2
  have HA := Lib.hid (show TwoAns w _ w1 from ⟨_, x, f1, _, y, f2, rfl, ho1, ho2, hx, hy, hb⟩)
  clear ho1 ho2 hb
  go_wp2_with fail
  go_ret2
  exact HA.out
def nn13 : List Int := [-1, 0, 1, 3, 4, 7, 8, 9, 26, 27, 999999, 1000000, 1000001]
theorem nn13_ok : ∀ x ∈ nn13, -1 ≤ x ∧ x ≤ 1000001 := by decide
/-- Two numbers, drawn. -/
def NumAns (w : World) (e : Ending) (w' : World) : Prop := ∃ x k : Int, e = .returned (.tuple #[.int .i64 x, .int .i64 k]) ∧ Below w.heap.size w w'
set_option maxRecDepth 100000 in
set_option maxHeartbeats 1600000 in
theorem draw_root (v : Value) (l : List UInt8) (w : World) (hr : Reads w v l w.heap.size) :
    Calls Try.prog 26 #[v] w fun e w' => NumAns w e w' := by
  have HNW := Lib.hid (new_any v l w.heap.size w hr)
  have HR := Lib.hid hr
  clear hr
  go_enter Try.func26, Try.ntmps26
  go_wp2_with fail
  refine HNW.out.mono ?_
  rintro e w1 ⟨rfl, hc1, hg1⟩
  have hb1 : Below w.heap.size w w1 := ⟨hg1.os, hg1.tape, hg1.output, hg1.size, fun k hk => hg1.block k hk (by simp)⟩
  have hcr := (show CR w1 w.heap.size v l w.heap.size from ⟨hc1, HR.out.later hb1, Nat.le_refl _⟩)
  have HB1 := Lib.hid hb1
  have HON := Lib.hid (once_cr 3 _ v l _ w1 hcr)
  have HTW := Lib.hid (fun (A B : World) (h : Below w.heap.size w A) (ht : Cd.Touch [w.heap.size] A B) => Cd.Touch.below h ht (fun b hb => by rw [List.mem_singleton.1 hb]; exact Nat.le_refl _))
  clear hc1 hg1 hb1 HNW HR hcr
  go_wp2_with fail
  refine HON.out.mono ?_
  rintro e w2 ⟨bb, rfl, hc2, ht2⟩
  have HB2 := Lib.hid (HTW.out _ _ HB1.out ht2)
  cases bb
  · have HBL := Lib.hid (below_cr 5000 _ v l _ w2 hc2)
    clear hc2 ht2 HON
    go_wp2_with fail
    refine HBL.out.mono ?_
    rintro e w3 ⟨x, rfl, hx0, hx1, hc3, ht3⟩
    have HB3 := Lib.hid (HTW.out _ _ HB2.out ht3)
    have HBK := Lib.hid (below_cr 5 _ v l _ w3 hc3)
    clear hx0 hx1 hc3 ht3
    go_wp2_with fail
    refine HBK.out.mono ?_
    rintro e w4 ⟨k, rfl, hk0, hk1, hc4, ht4⟩
    have HB4 := Lib.hid (HTW.out _ _ HB3.out ht4)
    clear hk0 hk1 hc4 ht4
    go_wp2_with fail
    go_ret2
    exact ⟨x, k, rfl, HB4.out⟩
  · have HPK := Lib.hid (pickI_cr nn13 w2.heap.size (by decide) (by decide) _ v l _ _ (hc2.later (below_alloc w2 (.cells (nn13.map fun z => Value.int .i64 z).toArray 3))) (by have := hc2.lt; omega) (list_cellsI nn13 w2 3))
    have HBA := Lib.hid (below_then HB2.out (below_alloc w2 (.cells (nn13.map fun z => Value.int .i64 z).toArray 3)))
    clear hc2 ht2 HON
    go_wp2_with fail
    refine HPK.out.mono ?_
    rintro e w3 ⟨x, hx, rfl, hc3, ht3⟩
    have HB3 := Lib.hid (HTW.out _ _ HBA.out ht3)
    have HBK := Lib.hid (below_cr 6 _ v l _ w3 hc3)
    clear hx hc3 ht3
    go_wp2_with fail
    refine HBK.out.mono ?_
    rintro e w4 ⟨k, rfl, hk0, hk1, hc4, ht4⟩
    have HB4 := Lib.hid (HTW.out _ _ HB3.out ht4)
    have hk2 := hk1 (by omega)
    clear hk1 hc4 ht4
    go_wp2_with fail
    go_ret2
    exact ⟨x, k - 1, rfl, HB4.out⟩
end Go.Proofs.Ytklamhnecncenaa.SbDraw
