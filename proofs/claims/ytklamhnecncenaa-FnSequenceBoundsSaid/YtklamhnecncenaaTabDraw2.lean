/- How the laws draw tables: any table. -/
import Derived.Test.YtklamhnecncenaaTabDraw
namespace Go.Proofs.Ytklamhnecncenaa.TabSpec
open Go Go.RowKit Byt Ints IntsLaw IntsWalk Draw LocDraw Cd Rows2 Tab TabDraw

theorem Loc3.set0 {w : World} {X : Nat} {a b c : Value} (h : Loc3 w X a b c) (v : Value) : Loc3 (w.setCell ⟨X, 0, none⟩ v) X v b c := by
  refine ⟨World.cell?_setCell_same _ _ _ h.c0, ?_, ?_, ?_, ?_, ?_⟩
  · rw [World.cell?_setCell_other _ _ _ _ (by simp)]; exact h.c1
  · rw [World.cell?_setCell_other _ _ _ _ (by simp)]; exact h.c2
  · simpa using h.f0
  · simpa using h.f1
  · simpa using h.f2
theorem Loc3.set1 {w : World} {X : Nat} {a b c : Value} (h : Loc3 w X a b c) (v : Value) : Loc3 (w.setCell ⟨X, 1, none⟩ v) X a v c := by
  refine ⟨?_, World.cell?_setCell_same _ _ _ h.c1, ?_, ?_, ?_, ?_⟩
  · rw [World.cell?_setCell_other _ _ _ _ (by simp)]; exact h.c0
  · rw [World.cell?_setCell_other _ _ _ _ (by simp)]; exact h.c2
  · simpa using h.f0
  · simpa using h.f1
  · simpa using h.f2

/-- In the drawing of a table: the result's cells, the local table in block X, the cursor. -/
structure St (w : World) (c : Nat) (v : Value) (l : List UInt8) (X : Nat) (nm : ByteArray) (ar : Int) (u : Value) (rows : List (List Int)) (fp : List Nat) (W : World) : Prop where
  how : rowsC.ow W (w.heap.size + 1) [u] rows fp
  nd : fp.Nodup
  xn : X ∉ fp
  lx : Loc3 W X (.string nm) (.int .i64 ar) u
  lr : Loc3 W w.heap.size (.string ⟨#[]⟩) (.int .i64 0) (.slice none 0 0)
  xb : w.heap.size < X
  cb : c < w.heap.size
  cu : Cur W c v l
  gr : w.grownBy W (some c)
theorem St.alloc {w : World} {c : Nat} {v : Value} {l : List UInt8} {X : Nat} {nm : ByteArray} {ar : Int} {u : Value} {rows : List (List Int)} {fp : List Nat} {W : World} (h : St w c v l X nm ar u rows fp W) (o : Obj) : St w c v l X nm ar u rows fp (W.alloc o) :=
  ⟨Cd.ow_later h.how (below_alloc W o), h.nd, h.xn, h.lx.later (below_alloc W o), h.lr.later (below_alloc W o), h.xb, h.cb, cur_allocI o h.cu, grown_allocI o h.gr⟩
theorem St.grown {w : World} {c : Nat} {v : Value} {l : List UInt8} {X : Nat} {nm : ByteArray} {ar : Int} {u : Value} {rows : List (List Int)} {fp : List Nat} {W W' : World} (h : St w c v l X nm ar u rows fp W) (hg : W.grownBy W' (some c)) (hc : Cur W' c v l) : St w c v l X nm ar u rows fp W' :=
  have h1 := h.cb
  have h2 := h.xb
  ⟨ow_grown h.how hg (by omega), h.nd, h.xn, loc_grown h.lx hg (by omega), loc_grown h.lr hg (by omega), h.xb, h.cb, hc, grown_trans h.gr hg⟩
theorem St.set0 {w : World} {c : Nat} {v : Value} {l : List UInt8} {X : Nat} {nm : ByteArray} {ar : Int} {u : Value} {rows : List (List Int)} {fp : List Nat} {W : World} (h : St w c v l X nm ar u rows fp W) (nm' : ByteArray) : St w c v l X nm' ar u rows fp (W.setCell ⟨X, 0, none⟩ (.string nm')) :=
  have h1 := h.cb
  have h2 := h.xb
  ⟨ow_setCell h.how h.xn _, h.nd, h.xn, Loc3.set0 h.lx _, Loc3.set_far h.lr (by show X ≠ _; omega) _, h.xb, h.cb, cur_farI _ h.cu (by show c ≠ X; omega), grown_newI _ h.gr (by show _ ≤ X; omega)⟩
theorem St.set1 {w : World} {c : Nat} {v : Value} {l : List UInt8} {X : Nat} {nm : ByteArray} {ar : Int} {u : Value} {rows : List (List Int)} {fp : List Nat} {W : World} (h : St w c v l X nm ar u rows fp W) (ar' : Int) : St w c v l X nm ar' u rows fp (W.setCell ⟨X, 1, none⟩ (.int .i64 ar')) :=
  have h1 := h.cb
  have h2 := h.xb
  ⟨ow_setCell h.how h.xn _, h.nd, h.xn, Loc3.set1 h.lx _, Loc3.set_far h.lr (by show X ≠ _; omega) _, h.xb, h.cb, cur_farI _ h.cu (by show c ≠ X; omega), grown_newI _ h.gr (by show _ ≤ X; omega)⟩
theorem St.touched {w : World} {c : Nat} {v : Value} {l : List UInt8} {X : Nat} {nm : ByteArray} {ar : Int} {u : Value} {rows : List (List Int)} {fp : List Nat} {W W' : World} (h : St w c v l X nm ar u rows fp W) (ht : Cd.Touch fp W W') : Loc3 W' X (.string nm) (.int .i64 ar) u := h.lx.touched ht h.xn
theorem St.app {w : World} {c : Nat} {v : Value} {l : List UInt8} {X : Nat} {nm : ByteArray} {ar : Int} {u u' : Value} {rows rows' : List (List Int)} {fp fp' f : List Nat} {W W' : World} (h : St w c v l X nm ar u rows fp W) (ht : Cd.Touch fp W W')
    (ho : rowsC.ow W' (w.heap.size + 1) [u'] rows' fp') (hn : fp'.Nodup) (hs : ∀ b ∈ fp', b ∈ fp ∨ b ∈ f ∨ W.heap.size ≤ b) (hf : X ∉ f) : St w c v l X nm ar u' rows' fp' (W'.setCell ⟨X, 2, none⟩ u') := by
  have h1 := h.cb
  have h2 := h.xb
  have h3 := h.lx.lt
  have hx : X ∉ fp' := fun q => by
    rcases hs X q with q | q | q
    · exact h.xn q
    · exact hf q
    · omega
  have hfp : ∀ b ∈ fp, w.heap.size + 1 ≤ b := fun b hb => (rowsC.ow_lt h.how b hb).1
  refine ⟨ow_setCell ho hx _, hn, hx, Loc3.set2 (h.lx.touched ht h.xn) _, Loc3.set_far (h.lr.touched ht (fun q => by have := hfp _ q; omega)) (by show X ≠ _; omega) _, h.xb, h.cb, ?_, ?_⟩
  · refine cur_farI _ ?_ (by show c ≠ X; omega)
    obtain ⟨i, x, hi, hh⟩ := h.cu
    exact ⟨i, x, hi, ht.row hh (fun q => by have := hfp _ q; omega)⟩
  · refine grown_newI _ ?_ (by show _ ≤ X; omega)
    exact ⟨ht.os.trans h.gr.os, ht.tape.trans h.gr.tape, ht.output.trans h.gr.output, Nat.le_trans h.gr.size ht.size, fun k hk hne => (ht.block k (by have := h.gr.size; omega) (fun q => by have := hfp _ q; omega)).trans (h.gr.block k hk hne)⟩

/-- A drawn table that may be none. -/
def AnyAns (w : World) (c : Nat) (v : Value) (l : List UInt8) (e : Ending) (w' : World) : Prop :=
  ∃ (nm : ByteArray) (ar : Int) (u : Value) (rows : List (List Int)) (fp : List Nat), e = .returned (.agg #[.string nm, .int .i64 ar, u]) ∧ nm.size ≤ 2 ∧ (-1 ≤ ar ∧ ar ≤ 4) ∧ rowsC.ow w' w.heap.size [u] rows fp ∧ fp.Nodup ∧ rowsWt rows ≤ 28 ∧ Cur w' c v l ∧ w.grownBy w' (some c)
theorem St.done {w : World} {c : Nat} {v : Value} {l : List UInt8} {X : Nat} {nm : ByteArray} {ar : Int} {u : Value} {rows : List (List Int)} {fp : List Nat} {W : World} (h : St w c v l X nm ar u rows fp W) (hnm : nm.size ≤ 2) (har : -1 ≤ ar ∧ ar ≤ 4) (hwt : rowsWt rows ≤ 28) (x y z : Value) :
    AnyAns w c v l (.returned (.agg #[.string nm, .int .i64 ar, u])) (((W.setCell ⟨w.heap.size, 0, none⟩ x).setCell ⟨w.heap.size, 1, none⟩ y).setCell ⟨w.heap.size, 2, none⟩ z) := by
  have h1 := h.cb
  have hn : w.heap.size ∉ fp := fun q => by have h1 := (rowsC.ow_lt h.how _ q).1; omega
  have hne : c ≠ w.heap.size := by omega
  exact ⟨nm, ar, u, rows, fp, rfl, hnm, har, ow_setCell (ow_setCell (ow_setCell (rowsC.ow_base h.how (by omega)) hn _) hn _) hn _, h.nd, hwt, cur_farI _ (cur_farI _ (cur_farI _ h.cu hne) hne) hne,
    grown_newI _ (grown_newI _ (grown_newI _ h.gr (Nat.le_refl _)) (Nat.le_refl _)) (Nat.le_refl _)⟩

/-- A row written out. -/
theorem lit_row (W : World) (zs : List Int) (hz : InR zs) (hl : zs.length ≤ 1000) (base : Nat) (hb : base ≤ W.heap.size) : rowC.ow (W.alloc (.cells (zs.map fun z => Value.int .i64 z).toArray 3)) base [.slice (some ⟨W.heap.size, 0, none⟩) zs.length zs.length] zs [W.heap.size] := by
  have h : OwnI (W.alloc (.cells (zs.map fun z => Value.int .i64 z).toArray 3)) base 3 (.slice (some ⟨W.heap.size, 0, none⟩) zs.length zs.length) zs := by
    exact World.ownsRow_lit (base := base) (e := 3) (size := 1) W (zs.map fun z => Value.int .i64 z).toArray zs.length hb (by unfold maxLen; omega) (by simp)
  exact Cd.ow_of_own (e := 3) h hz

theorem row3' (w : World) (q : Value) (e : TypeId) : (w.alloc (.cells #[q] e)).cell? ⟨w.heap.size, 0, none⟩ = some q := by simp
/-- A row written out in a slice of its own, to be appended. -/
structure Lit (w : World) (c : Nat) (v : Value) (l : List UInt8) (X : Nat) (nm : ByteArray) (ar : Int) (u : Value) (rows : List (List Int)) (fp : List Nat) (B : Nat) (zs : List Int) (q : Value) (W2 : World) : Prop where
  st : St w c v l X nm ar u rows fp W2
  cell : W2.cell? ⟨B + 1, 0, none⟩ = some q
  row : rowC.ow W2 (w.heap.size + 1) [q] zs [B]
  far : ∀ b ∈ [B], b ∉ fp
  xf : X ∉ [B]
  sz : w.heap.size + 1 ≤ W2.heap.size
theorem St.lit {w : World} {c : Nat} {v : Value} {l : List UInt8} {X : Nat} {nm : ByteArray} {ar : Int} {u : Value} {rows : List (List Int)} {fp : List Nat} {W : World} (h : St w c v l X nm ar u rows fp W) (zs : List Int) (hz : InR zs) (hl : zs.length ≤ 1000) :
    Lit w c v l X nm ar u rows fp W.heap.size zs (.slice (some ⟨W.heap.size, 0, none⟩) zs.length zs.length) ((W.alloc (.cells (zs.map fun z => Value.int .i64 z).toArray 3)).alloc (.cells #[.slice (some ⟨W.heap.size, 0, none⟩) zs.length zs.length] 24)) := by
  have h0 := h.lx.lt
  have h1 := h.xb
  refine ⟨(h.alloc _).alloc _, ?_, Cd.ow_later (lit_row W zs hz hl _ (by omega)) (below_alloc _ _), fun b hb q => ?_, fun q => ?_, ?_⟩
  · have := row3' (W.alloc (.cells (zs.map fun z => Value.int .i64 z).toArray 3)) (.slice (some ⟨W.heap.size, 0, none⟩) zs.length zs.length) 24
    rw [size_alloc] at this
    exact this
  · rw [List.mem_singleton.1 hb] at q
    have := (rowsC.ow_lt h.how _ q).2
    omega
  · rw [List.mem_singleton.1 q] at h0
    omega
  · rw [size_alloc, size_alloc]
    omega

def ss3 : List ByteArray := [⟨#[114]⟩, ⟨#[115]⟩, ⟨#[116]⟩]
theorem ss3_ok : ∀ t : Fin 3, (ss3.getD t.val ⟨#[]⟩).size ≤ 2 := by decide
def ss4 : List ByteArray := [⟨#[]⟩, ⟨#[82]⟩, ⟨#[114, 115]⟩, ⟨#[122]⟩]
theorem ss4_ok : ∀ t : Fin 4, (ss4.getD t.val ⟨#[]⟩).size ≤ 2 := by decide
def zz3 : List Int := [0, 4, -1]
theorem zz3_ok : ∀ t : Fin 3, -1 ≤ zz3.getD t.val 0 ∧ zz3.getD t.val 0 ≤ 4 := by decide

set_option maxRecDepth 100000 in
set_option maxHeartbeats 1600000 in
theorem tabany_any (c : Nat) (v : Value) (l : List UInt8) (B : Nat) (w : World) (hc : Cur w c v l) (hr : Reads w v l B) (hB : B ≤ c) :
    Calls Try.prog 119 #[.pointer (some ⟨c, 0, none⟩)] w (AnyAns w c v l) := by
  have hcs := cur_size hc
  have HR := Lib.hid (fun w' (hg : w.grownBy w' (some c)) => hr.later (below_of hg hB hcs))
  have HC := Lib.hid hc
  clear hc hr
  go_enter Try.func119, Try.ntmps119
  go_wp2_with fail
  generalize hW : w.alloc _ = W0
  obtain ⟨r0, hz, hb0⟩ := start1 w _ hW
  clear hW
  have HX0 := Lib.hid (Loc3.of r0)
  have HG0 := Lib.hid (grown_below hb0 (some c))
  have HC0 := Lib.hid (cur_below HC.out hb0 hcs)
  have hc1 := cur_allocI (.cells (ss3.map fun z => Value.string z).toArray 9) HC0.out
  have hg1 := grown_allocI (.cells (ss3.map fun z => Value.string z).toArray 9) HG0.out
  have HP := Lib.hid (pickS_any ss3 W0.heap.size (by decide) (by decide) c v l B _ hc1 (HR.out _ hg1) hB (by omega) (list_cellsS ss3 W0 9))
  rw [hz] at HP
  have HG1 := Lib.hid hg1
  have HX1 := Lib.hid (HX0.out.later (below_alloc W0 (.cells (ss3.map fun z => Value.string z).toArray 9)))
  have HZ1 := Lib.hid (show (W0.alloc (.cells (ss3.map fun z => Value.string z).toArray 9)).heap.size = w.heap.size + 2 by rw [size_alloc, hz])
  clear r0 hb0 hc1 hg1 HX0 HG0 HC0
  refine HP.out.mono ?_
  rintro e w2 ⟨t, ht, rfl, hc2, hg2⟩
  have hnm := ss3_ok ⟨t, ht⟩
  simp only at hnm
  generalize ss3.getD t ⟨#[]⟩ = nm at *
  have HX2 := Lib.hid (loc_grown HX1.out hg2 (by omega))
  have HZ2 := Lib.hid (show w.heap.size + 2 ≤ w2.heap.size by have := hg2.size; have := HZ1.out; omega)
  have HG2 := Lib.hid (grown_trans HG1.out hg2)
  have HB2 := Lib.hid (below_any 3 c v l B w2 hc2 (HR.out w2 HG2.out) hB)
  clear hc2 hg2 HX1 HG1 HP HZ1 hz
  go_wp2_with fail
  refine HB2.out.mono ?_
  rintro e w3 ⟨x, rfl, hx0, hx3, hc3, hg3⟩
  obtain ⟨n, rfl⟩ := Int.eq_ofNat_of_zero_le hx0
  have hn : n ≤ 2 := by have := hx3 (by decide); omega
  have HX3 := Lib.hid (loc_grown HX2.out hg3 (by omega))
  have HZ3 := Lib.hid (show w.heap.size + 2 ≤ w3.heap.size by have := hg3.size; have := HZ2.out; omega)
  have HG3 := Lib.hid (grown_trans HG2.out hg3)
  have HT := Lib.hid (tab_any nm (n + 1) (by omega) c v l B w3 hc3 (HR.out w3 HG3.out) hB)
  have en : (((n + 1 : Nat)) : Int) = 1 + (n : Int) := by omega
  rw [en] at HT
  have HEN := Lib.hid en
  clear hx3 hc3 hg3 HX2 HG2 HB2 HZ2 en
  go_wp2_with fail
  refine HT.out.mono ?_
  rintro e w4 ⟨u, rows, fp, rfl, how, hnd, hwt, hc4, hg4⟩
  obtain ⟨a4, cap4, rfl⟩ := Cd.ow_slice how
  have HX4 := Lib.hid (loc_grown HX3.out hg4 (by omega))
  have HG4 := Lib.hid (grown_trans HG3.out hg4)
  have HZ4 := Lib.hid (show w.heap.size + 2 ≤ w4.heap.size by have := hg4.size; have := HZ3.out; omega)
  have HOW := Lib.hid (rowsC.ow_base how (show w.heap.size + 1 ≤ w3.heap.size by have := HZ3.out; omega))
  have HND := Lib.hid hnd
  have HWT := Lib.hid hwt
  have HC4 := Lib.hid hc4
  clear how hnd hwt hc4 hg4 HX3 HG3 HT HZ3
  go_wp2_with fail
  generalize hW : w4.alloc _ = W
  obtain ⟨r0, hz, hb0⟩ := start1 w4 _ hW
  have hst : St w c v l w4.heap.size nm (1 + (n : Int)) (.slice a4 rows.length cap4) rows fp W := ⟨Cd.ow_later HOW.out hb0, HND.out, fun q => Nat.lt_irrefl _ (rowsC.ow_lt HOW.out _ q).2, Loc3.of r0, HX4.out.later hb0, by have := HZ4.out; omega, hcs, cur_below HC4.out hb0 (by have := HZ4.out; omega), grown_trans HG4.out (grown_below hb0 (some c))⟩
  clear hW
  have HST := Lib.hid hst
  generalize w4.heap.size = X at *
  have HB5 := Lib.hid (below_any 12 c v l B W hst.cu (HR.out W hst.gr) hB)
  have har : -1 ≤ 1 + (n : Int) ∧ 1 + (n : Int) ≤ 4 := by omega
  generalize 1 + (n : Int) = ar at *
  clear hst r0 hb0 hz HOW HND HX4 HG4 HC4 HZ4 HEN
  refine HB5.out.mono ?_
  rintro e w5 ⟨x, rfl, hx0, hx12, hc5, hg5⟩
  have HS := Lib.hid (HST.out.grown hg5 hc5)
  clear hx12 hc5 hg5 HST HB5
  by_cases x0 : x = 0
  · subst x0
    have hal := HS.out.alloc (.cells (ss4.map fun z => Value.string z).toArray 9)
    have HP := Lib.hid (pickS_any ss4 w5.heap.size (by decide) (by decide) c v l B _ hal.cu (HR.out _ hal.gr) hB (by have := (cur_size HS.out.cu); omega) (list_cellsS ss4 w5 9))
    have HAL := Lib.hid hal
    clear hal
    go_wp2_with fail
    refine HP.out.mono ?_
    rintro e w6 ⟨t, ht, rfl, hc6, hg6⟩
    have hnm := ss4_ok ⟨t, ht⟩
    simp only at hnm
    generalize ss4.getD t ⟨#[]⟩ = nm' at *
    have HS6 := Lib.hid (HAL.out.grown hg6 hc6)
    have hx0 := HS6.out.lx.c0
    have hf0 := HS6.out.lx.f0
    have HS7 := Lib.hid (HS6.out.set0 nm')
    obtain ⟨p0, p1, p2, q0, q1, q2⟩ := HS7.out.lx
    obtain ⟨g0, g1, g2, f0, f1, f2⟩ := HS7.out.lr
    clear hc6 hg6 HP HAL
    go_wp2_with fail
    obtain ⟨k0, k1, k2⟩ := set3 (w := w6.setCell ⟨X, 0, none⟩ (.string nm')) (k := w.heap.size) (x := .string nm') (y := .int .i64 ar) (z := .slice a4 rows.length cap4) g0 g1 g2
    refine bodyPost_ret (v := .agg #[.string nm', .int .i64 ar, .slice a4 rows.length cap4]) (by simp [results, Try.results119, go_sem, k0, k1, k2]) rfl (HS7.out.done hnm har (by have := HWT.out; omega) _ _ _)
  have tt0 : (x == 0) = false := by rw [beq_eq_false_iff_ne]; exact x0
  by_cases x1 : x = 1
  · subst x1
    clear x0
    have hal := HS.out.alloc (.cells (zz3.map fun z => Value.int .i64 z).toArray 3)
    have HP := Lib.hid (pick_any zz3 w5.heap.size (by decide) (by decide) c v l B _ hal.cu (HR.out _ hal.gr) hB (by have := (cur_size HS.out.cu); omega) (list_cellsI zz3 w5 3))
    have HAL := Lib.hid hal
    clear hal
    go_wp2_with fail
    refine HP.out.mono ?_
    rintro e w6 ⟨t, ht, rfl, hc6, hg6⟩
    have har' := zz3_ok ⟨t, ht⟩
    simp only at har'
    generalize zz3.getD t 0 = ar' at *
    have HS6 := Lib.hid (HAL.out.grown hg6 hc6)
    have hx1 := HS6.out.lx.c1
    have hf1 := HS6.out.lx.f1
    have HS7 := Lib.hid (HS6.out.set1 ar')
    obtain ⟨p0, p1, p2, q0, q1, q2⟩ := HS7.out.lx
    obtain ⟨g0, g1, g2, f0, f1, f2⟩ := HS7.out.lr
    clear hc6 hg6 HP HAL
    go_wp2_with fail
    obtain ⟨k0, k1, k2⟩ := set3 (w := w6.setCell ⟨X, 1, none⟩ (.int .i64 ar')) (k := w.heap.size) (x := .string nm) (y := .int .i64 ar') (z := .slice a4 rows.length cap4) g0 g1 g2
    refine bodyPost_ret (v := .agg #[.string nm, .int .i64 ar', .slice a4 rows.length cap4]) (by simp [results, Try.results119, go_sem, k0, k1, k2]) rfl (HS7.out.done hnm har' (by have := HWT.out; omega) _ _ _)
  have tt1 : (x == 1) = false := by rw [beq_eq_false_iff_ne]; exact x1
  have HL1 := Lib.hid (show rows.length + 1 ≤ 1000000000000 by have := HWT.out; unfold rowsWt at this; omega)
  by_cases x2 : x = 2
  · subst x2
    clear x0 x1
    have HLT := Lib.hid (HS.out.lit [0] (by intro y hy; rw [List.mem_singleton.1 hy]; omega) (by decide))
    have hx2 := cell_alloc_some (cell_alloc_some HS.out.lx.c2 (.cells #[.int .i64 0] 3)) (.cells #[.slice (some ⟨w5.heap.size, 0, none⟩) 1 1] 24)
    have hx2' := HS.out.lx.c2
    go_wp2_with (at_builtin; refine Cd.wpList_appendE (c := rowC) rfl rfl (.tmp 29) (.tmp 31) 32 rfl (w.heap.size + 1) 24 (.slice none 0 0) 24 Try.underlying32 info_ints rfl (by decide) _ rows _ rfl HLT.out.st.how HLT.out.st.nd _ _ rfl HLT.out.cell [0] _ HLT.out.row (by simp) HLT.out.far HL1.out HLT.out.sz ?_)
    intro g cap w6 fp6 ho6 hn6 hs6 ht6
    have hx6 := (HLT.out.st.touched ht6)
    have hx62 := hx6.c2
    have hf62 := hx6.f2
    have HS7 := Lib.hid (HLT.out.st.app ht6 ho6 hn6 (fun b hb => by have := hs6 b hb; rw [List.mem_singleton, size_alloc, size_alloc]; omega) HLT.out.xf)
    obtain ⟨p0, p1, p2, q0, q1, q2⟩ := HS7.out.lx
    obtain ⟨g0, g1, g2, f0, f1, f2⟩ := HS7.out.lr
    clear ho6 hn6 hs6 ht6 hx6 hx2 hx2'
    go_wp2_with fail
    obtain ⟨k0, k1, k2⟩ := set3 (w := w6.setCell ⟨X, 2, none⟩ (.slice (some ⟨g, 0, none⟩) (rows.length + 1) cap)) (k := w.heap.size) (x := .string nm) (y := .int .i64 ar) (z := .slice (some ⟨g, 0, none⟩) (rows.length + 1) cap) g0 g1 g2
    refine bodyPost_ret (v := .agg #[.string nm, .int .i64 ar, .slice (some ⟨g, 0, none⟩) (rows.length + 1) cap]) (by simp [results, Try.results119, go_sem, k0, k1, k2]) rfl (HS7.out.done hnm har (by have := HWT.out; simp [rowsWt] at *; omega) _ _ _)
  have tt2 : (x == 2) = false := by rw [beq_eq_false_iff_ne]; exact x2
  by_cases x3 : x = 3
  · subst x3
    clear x0 x1 x2
    have HLT := Lib.hid (HS.out.lit [9, 9, 10] (by intro y hy; simp at hy; omega) (by decide))
    have hx2' := HS.out.lx.c2
    go_wp2_with (at_builtin; refine Cd.wpList_appendE (c := rowC) rfl rfl (.tmp 37) (.tmp 39) 32 rfl (w.heap.size + 1) 24 (.slice none 0 0) 24 Try.underlying32 info_ints rfl (by decide) _ rows _ rfl HLT.out.st.how HLT.out.st.nd _ _ rfl HLT.out.cell [9, 9, 10] _ HLT.out.row (by simp) HLT.out.far HL1.out HLT.out.sz ?_)
    intro g cap w6 fp6 ho6 hn6 hs6 ht6
    have hx6 := (HLT.out.st.touched ht6)
    have hx62 := hx6.c2
    have hf62 := hx6.f2
    have HS7 := Lib.hid (HLT.out.st.app ht6 ho6 hn6 (fun b hb => by have := hs6 b hb; rw [List.mem_singleton, size_alloc, size_alloc]; omega) HLT.out.xf)
    obtain ⟨p0, p1, p2, q0, q1, q2⟩ := HS7.out.lx
    obtain ⟨g0, g1, g2, f0, f1, f2⟩ := HS7.out.lr
    clear ho6 hn6 hs6 ht6 hx6 hx2'
    go_wp2_with fail
    obtain ⟨k0, k1, k2⟩ := set3 (w := w6.setCell ⟨X, 2, none⟩ (.slice (some ⟨g, 0, none⟩) (rows.length + 1) cap)) (k := w.heap.size) (x := .string nm) (y := .int .i64 ar) (z := .slice (some ⟨g, 0, none⟩) (rows.length + 1) cap) g0 g1 g2
    refine bodyPost_ret (v := .agg #[.string nm, .int .i64 ar, .slice (some ⟨g, 0, none⟩) (rows.length + 1) cap]) (by simp [results, Try.results119, go_sem, k0, k1, k2]) rfl (HS7.out.done hnm har (by have := HWT.out; simp [rowsWt] at *; omega) _ _ _)
  have tt3 : (x == 3) = false := by rw [beq_eq_false_iff_ne]; exact x3
  clear x0 x1 x2 x3
  obtain ⟨p0, p1, p2, q0, q1, q2⟩ := HS.out.lx
  obtain ⟨g0, g1, g2, f0, f1, f2⟩ := HS.out.lr
  go_wp2_with fail
  obtain ⟨k0, k1, k2⟩ := set3 (w := w5) (k := w.heap.size) (x := .string nm) (y := .int .i64 ar) (z := .slice a4 rows.length cap4) g0 g1 g2
  refine bodyPost_ret (v := .agg #[.string nm, .int .i64 ar, .slice a4 rows.length cap4]) (by simp [results, Try.results119, go_sem, k0, k1, k2]) rfl (HS.out.done hnm har (by have := HWT.out; omega) _ _ _)
end Go.Proofs.Ytklamhnecncenaa.TabSpec
