/- Texts that the proof rests on, one behind the other. -/
import Derived.Test.YtdkhgeknjekkoaaGreatMg4Reference
import Derived.Test.YtdkhgeknjekkoaaGreatCdN

namespace Go.Proofs.YtdkhgeknjekkoaaGreat.TabSpec
open Go Go.RowKit Byt Ints IntsLaw IntsWalk Draw LocDraw Cd Rows2 Tab TabDraw

theorem Loc3.set0 {w : World} {X : Nat} {a b c : Value} (h : Loc3 w X a b c) (v : Value) : Loc3 (w.setCell ⟨X, 0, none⟩ v) X v b c := by
  refine ⟨World.cell?_setCell_same _ _ _ h.c0, ?_, ?_, ?_, ?_, ?_⟩
  · rw [World.cell?_setCell_other _ _ _ _ (by simp)]; exact h.c1
  · rw [World.cell?_setCell_other _ _ _ _ (by simp)]; exact h.c2
  · simpa using h.f0
  · simpa using h.f1
  · simpa using h.f2
theorem Loc3.set1 {w : World} {X : Nat} {a b c : Value} (h : Loc3 w X a b c) (v : Value) : Loc3 (w.setCell ⟨X, 1, none⟩ v) X a v c := by
  refine ⟨?_, World.cell?_setCell_same _ _ _ h.c1, ?_, ?_, ?_, ?_⟩
  · rw [World.cell?_setCell_other _ _ _ _ (by simp)]; exact h.c0
  · rw [World.cell?_setCell_other _ _ _ _ (by simp)]; exact h.c2
  · simpa using h.f0
  · simpa using h.f1
  · simpa using h.f2

/-- In the drawing of a table: the result's cells, the local table in block X, the cursor. -/
structure St (w : World) (c : Nat) (v : Value) (l : List UInt8) (X : Nat) (nm : ByteArray) (ar : Int) (u : Value) (rows : List (List Int)) (fp : List Nat) (W : World) : Prop where
  how : rowsC.ow W (w.heap.size + 1) [u] rows fp
  nd : fp.Nodup
  xn : X ∉ fp
  lx : Loc3 W X (.string nm) (.int .i64 ar) u
  lr : Loc3 W w.heap.size (.string ⟨#[]⟩) (.int .i64 0) (.slice none 0 0)
  xb : w.heap.size < X
  cb : c < w.heap.size
  cu : Cur W c v l
  gr : w.grownBy W (some c)
theorem St.alloc {w : World} {c : Nat} {v : Value} {l : List UInt8} {X : Nat} {nm : ByteArray} {ar : Int} {u : Value} {rows : List (List Int)} {fp : List Nat} {W : World} (h : St w c v l X nm ar u rows fp W) (o : Obj) : St w c v l X nm ar u rows fp (W.alloc o) :=
  ⟨Cd.ow_later h.how (below_alloc W o), h.nd, h.xn, h.lx.later (below_alloc W o), h.lr.later (below_alloc W o), h.xb, h.cb, cur_allocI o h.cu, grown_allocI o h.gr⟩
theorem St.grown {w : World} {c : Nat} {v : Value} {l : List UInt8} {X : Nat} {nm : ByteArray} {ar : Int} {u : Value} {rows : List (List Int)} {fp : List Nat} {W W' : World} (h : St w c v l X nm ar u rows fp W) (hg : W.grownBy W' (some c)) (hc : Cur W' c v l) : St w c v l X nm ar u rows fp W' :=
  have h1 := h.cb
  have h2 := h.xb
  ⟨ow_grown h.how hg (by omega), h.nd, h.xn, loc_grown h.lx hg (by omega), loc_grown h.lr hg (by omega), h.xb, h.cb, hc, grown_trans h.gr hg⟩
theorem St.set0 {w : World} {c : Nat} {v : Value} {l : List UInt8} {X : Nat} {nm : ByteArray} {ar : Int} {u : Value} {rows : List (List Int)} {fp : List Nat} {W : World} (h : St w c v l X nm ar u rows fp W) (nm' : ByteArray) : St w c v l X nm' ar u rows fp (W.setCell ⟨X, 0, none⟩ (.string nm')) :=
  have h1 := h.cb
  have h2 := h.xb
  ⟨ow_setCell h.how h.xn _, h.nd, h.xn, Loc3.set0 h.lx _, Loc3.set_far h.lr (by show X ≠ _; omega) _, h.xb, h.cb, cur_farI _ h.cu (by show c ≠ X; omega), grown_newI _ h.gr (by show _ ≤ X; omega)⟩
theorem St.set1 {w : World} {c : Nat} {v : Value} {l : List UInt8} {X : Nat} {nm : ByteArray} {ar : Int} {u : Value} {rows : List (List Int)} {fp : List Nat} {W : World} (h : St w c v l X nm ar u rows fp W) (ar' : Int) : St w c v l X nm ar' u rows fp (W.setCell ⟨X, 1, none⟩ (.int .i64 ar')) :=
  have h1 := h.cb
  have h2 := h.xb
  ⟨ow_setCell h.how h.xn _, h.nd, h.xn, Loc3.set1 h.lx _, Loc3.set_far h.lr (by show X ≠ _; omega) _, h.xb, h.cb, cur_farI _ h.cu (by show c ≠ X; omega), grown_newI _ h.gr (by show _ ≤ X; omega)⟩
theorem St.touched {w : World} {c : Nat} {v : Value} {l : List UInt8} {X : Nat} {nm : ByteArray} {ar : Int} {u : Value} {rows : List (List Int)} {fp : List Nat} {W W' : World} (h : St w c v l X nm ar u rows fp W) (ht : Cd.Touch fp W W') : Loc3 W' X (.string nm) (.int .i64 ar) u := h.lx.touched ht h.xn
theorem St.app {w : World} {c : Nat} {v : Value} {l : List UInt8} {X : Nat} {nm : ByteArray} {ar : Int} {u u' : Value} {rows rows' : List (List Int)} {fp fp' f : List Nat} {W W' : World} (h : St w c v l X nm ar u rows fp W) (ht : Cd.Touch fp W W')
    (ho : rowsC.ow W' (w.heap.size + 1) [u'] rows' fp') (hn : fp'.Nodup) (hs : ∀ b ∈ fp', b ∈ fp ∨ b ∈ f ∨ W.heap.size ≤ b) (hf : X ∉ f) : St w c v l X nm ar u' rows' fp' (W'.setCell ⟨X, 2, none⟩ u') := by
  have h1 := h.cb
  have h2 := h.xb
  have h3 := h.lx.lt
  have hx : X ∉ fp' := fun q => by
    rcases hs X q with q | q | q
    · exact h.xn q
    · exact hf q
    · omega
  have hfp : ∀ b ∈ fp, w.heap.size + 1 ≤ b := fun b hb => (rowsC.ow_lt h.how b hb).1
  refine ⟨ow_setCell ho hx _, hn, hx, Loc3.set2 (h.lx.touched ht h.xn) _, Loc3.set_far (h.lr.touched ht (fun q => by have := hfp _ q; omega)) (by show X ≠ _; omega) _, h.xb, h.cb, ?_, ?_⟩
  · refine cur_farI _ ?_ (by show c ≠ X; omega)
    obtain ⟨i, x, hi, hh⟩ := h.cu
    exact ⟨i, x, hi, ht.row hh (fun q => by have := hfp _ q; omega)⟩
  · refine grown_newI _ ?_ (by show _ ≤ X; omega)
    exact ⟨ht.os.trans h.gr.os, ht.tape.trans h.gr.tape, ht.output.trans h.gr.output, Nat.le_trans h.gr.size ht.size, fun k hk hne => (ht.block k (by have := h.gr.size; omega) (fun q => by have := hfp _ q; omega)).trans (h.gr.block k hk hne)⟩

/-- A drawn table that may be none. -/
def AnyAns (w : World) (c : Nat) (v : Value) (l : List UInt8) (e : Ending) (w' : World) : Prop :=
  ∃ (nm : ByteArray) (ar : Int) (u : Value) (rows : List (List Int)) (fp : List Nat), e = .returned (.agg #[.string nm, .int .i64 ar, u]) ∧ nm.size ≤ 2 ∧ (-1 ≤ ar ∧ ar ≤ 4) ∧ rowsC.ow w' w.heap.size [u] rows fp ∧ fp.Nodup ∧ rowsWt rows ≤ 28 ∧ Cur w' c v l ∧ w.grownBy w' (some c)
theorem St.done {w : World} {c : Nat} {v : Value} {l : List UInt8} {X : Nat} {nm : ByteArray} {ar : Int} {u : Value} {rows : List (List Int)} {fp : List Nat} {W : World} (h : St w c v l X nm ar u rows fp W) (hnm : nm.size ≤ 2) (har : -1 ≤ ar ∧ ar ≤ 4) (hwt : rowsWt rows ≤ 28) (x y z : Value) :
    AnyAns w c v l (.returned (.agg #[.string nm, .int .i64 ar, u])) (((W.setCell ⟨w.heap.size, 0, none⟩ x).setCell ⟨w.heap.size, 1, none⟩ y).setCell ⟨w.heap.size, 2, none⟩ z) := by
  have h1 := h.cb
  have hn : w.heap.size ∉ fp := fun q => by have h1 := (rowsC.ow_lt h.how _ q).1; omega
  have hne : c ≠ w.heap.size := by omega
  exact ⟨nm, ar, u, rows, fp, rfl, hnm, har, ow_setCell (ow_setCell (ow_setCell (rowsC.ow_base h.how (by omega)) hn _) hn _) hn _, h.nd, hwt, cur_farI _ (cur_farI _ (cur_farI _ h.cu hne) hne) hne,
    grown_newI _ (grown_newI _ (grown_newI _ h.gr (Nat.le_refl _)) (Nat.le_refl _)) (Nat.le_refl _)⟩

/-- A row written out. -/
theorem lit_row (W : World) (zs : List Int) (hz : InR zs) (hl : zs.length ≤ 1000) (base : Nat) (hb : base ≤ W.heap.size) : rowC.ow (W.alloc (.cells (zs.map fun z => Value.int .i64 z).toArray 3)) base [.slice (some ⟨W.heap.size, 0, none⟩) zs.length zs.length] zs [W.heap.size] := by
  have h : OwnI (W.alloc (.cells (zs.map fun z => Value.int .i64 z).toArray 3)) base 3 (.slice (some ⟨W.heap.size, 0, none⟩) zs.length zs.length) zs := by
    exact World.ownsRow_lit (base := base) (e := 3) (size := 1) W (zs.map fun z => Value.int .i64 z).toArray zs.length hb (by unfold maxLen; omega) (by simp)
  exact Cd.ow_of_own (e := 3) h hz

theorem row3' (w : World) (q : Value) (e : TypeId) : (w.alloc (.cells #[q] e)).cell? ⟨w.heap.size, 0, none⟩ = some q := by simp
/-- A row written out in a slice of its own, to be appended. -/
structure Lit (w : World) (c : Nat) (v : Value) (l : List UInt8) (X : Nat) (nm : ByteArray) (ar : Int) (u : Value) (rows : List (List Int)) (fp : List Nat) (B : Nat) (zs : List Int) (q : Value) (W2 : World) : Prop where
  st : St w c v l X nm ar u rows fp W2
  cell : W2.cell? ⟨B + 1, 0, none⟩ = some q
  row : rowC.ow W2 (w.heap.size + 1) [q] zs [B]
  far : ∀ b ∈ [B], b ∉ fp
  xf : X ∉ [B]
  sz : w.heap.size + 1 ≤ W2.heap.size
theorem St.lit {w : World} {c : Nat} {v : Value} {l : List UInt8} {X : Nat} {nm : ByteArray} {ar : Int} {u : Value} {rows : List (List Int)} {fp : List Nat} {W : World} (h : St w c v l X nm ar u rows fp W) (zs : List Int) (hz : InR zs) (hl : zs.length ≤ 1000) :
    Lit w c v l X nm ar u rows fp W.heap.size zs (.slice (some ⟨W.heap.size, 0, none⟩) zs.length zs.length) ((W.alloc (.cells (zs.map fun z => Value.int .i64 z).toArray 3)).alloc (.cells #[.slice (some ⟨W.heap.size, 0, none⟩) zs.length zs.length] 32)) := by
  have h0 := h.lx.lt
  have h1 := h.xb
  refine ⟨(h.alloc _).alloc _, ?_, Cd.ow_later (lit_row W zs hz hl _ (by omega)) (below_alloc _ _), fun b hb q => ?_, fun q => ?_, ?_⟩
  · have := row3' (W.alloc (.cells (zs.map fun z => Value.int .i64 z).toArray 3)) (.slice (some ⟨W.heap.size, 0, none⟩) zs.length zs.length) 32
    rw [size_alloc] at this
    exact this
  · rw [List.mem_singleton.1 hb] at q
    have := (rowsC.ow_lt h.how _ q).2
    omega
  · rw [List.mem_singleton.1 q] at h0
    omega
  · rw [size_alloc, size_alloc]
    omega

def ss3 : List ByteArray := [⟨#[114]⟩, ⟨#[115]⟩, ⟨#[116]⟩]
theorem ss3_ok : ∀ t : Fin 3, (ss3.getD t.val ⟨#[]⟩).size ≤ 2 := by decide
def ss4 : List ByteArray := [⟨#[]⟩, ⟨#[82]⟩, ⟨#[114, 115]⟩, ⟨#[122]⟩]
theorem ss4_ok : ∀ t : Fin 4, (ss4.getD t.val ⟨#[]⟩).size ≤ 2 := by decide
def zz3 : List Int := [0, 4, -1]
theorem zz3_ok : ∀ t : Fin 3, -1 ≤ zz3.getD t.val 0 ∧ zz3.getD t.val 0 ≤ 4 := by decide

set_option maxRecDepth 100000 in
set_option maxHeartbeats 1600000 in
theorem tabany_any (c : Nat) (v : Value) (l : List UInt8) (B : Nat) (w : World) (hc : Cur w c v l) (hr : Reads w v l B) (hB : B ≤ c) :
    Calls Tryz.prog 127 #[.pointer (some ⟨c, 0, none⟩)] w (AnyAns w c v l) := by
  have hcs := cur_size hc
  have HR := Lib.hid (fun w' (hg : w.grownBy w' (some c)) => hr.later (below_of hg hB hcs))
  have HC := Lib.hid hc
  clear hc hr
  go_enter Tryz.func127, Tryz.ntmps127
  go_wp2_with fail
  generalize hW : w.alloc _ = W0
  obtain ⟨r0, hz, hb0⟩ := start1 w _ hW
  clear hW
  have HX0 := Lib.hid (Loc3.of r0)
  have HG0 := Lib.hid (grown_below hb0 (some c))
  have HC0 := Lib.hid (cur_below HC.out hb0 hcs)
  have hc1 := cur_allocI (.cells (ss3.map fun z => Value.string z).toArray 9) HC0.out
  have hg1 := grown_allocI (.cells (ss3.map fun z => Value.string z).toArray 9) HG0.out
  have HP := Lib.hid (pickS_any ss3 W0.heap.size (by decide) (by decide) c v l B _ hc1 (HR.out _ hg1) hB (by omega) (list_cellsS ss3 W0 9))
  rw [hz] at HP
  have HG1 := Lib.hid hg1
  have HX1 := Lib.hid (HX0.out.later (below_alloc W0 (.cells (ss3.map fun z => Value.string z).toArray 9)))
  have HZ1 := Lib.hid (show (W0.alloc (.cells (ss3.map fun z => Value.string z).toArray 9)).heap.size = w.heap.size + 2 by rw [size_alloc, hz])
  clear r0 hb0 hc1 hg1 HX0 HG0 HC0
  refine HP.out.mono ?_
  rintro e w2 ⟨t, ht, rfl, hc2, hg2⟩
  have hnm := ss3_ok ⟨t, ht⟩
  simp only at hnm
  generalize ss3.getD t ⟨#[]⟩ = nm at *
  have HX2 := Lib.hid (loc_grown HX1.out hg2 (by omega))
  have HZ2 := Lib.hid (show w.heap.size + 2 ≤ w2.heap.size by have := hg2.size; have := HZ1.out; omega)
  have HG2 := Lib.hid (grown_trans HG1.out hg2)
  have HB2 := Lib.hid (below_any 3 c v l B w2 hc2 (HR.out w2 HG2.out) hB)
  clear hc2 hg2 HX1 HG1 HP HZ1 hz
  go_wp2_with fail
  refine HB2.out.mono ?_
  rintro e w3 ⟨x, rfl, hx0, hx3, hc3, hg3⟩
  obtain ⟨n, rfl⟩ := Int.eq_ofNat_of_zero_le hx0
  have hn : n ≤ 2 := by have := hx3 (by decide); omega
  have HX3 := Lib.hid (loc_grown HX2.out hg3 (by omega))
  have HZ3 := Lib.hid (show w.heap.size + 2 ≤ w3.heap.size by have := hg3.size; have := HZ2.out; omega)
  have HG3 := Lib.hid (grown_trans HG2.out hg3)
  have HT := Lib.hid (tab_any nm (n + 1) (by omega) c v l B w3 hc3 (HR.out w3 HG3.out) hB)
  have en : (((n + 1 : Nat)) : Int) = 1 + (n : Int) := by omega
  rw [en] at HT
  have HEN := Lib.hid en
  clear hx3 hc3 hg3 HX2 HG2 HB2 HZ2 en
  go_wp2_with fail
  refine HT.out.mono ?_
  rintro e w4 ⟨u, rows, fp, rfl, how, hnd, hwt, hc4, hg4⟩
  obtain ⟨a4, cap4, rfl⟩ := Cd.ow_slice how
  have HX4 := Lib.hid (loc_grown HX3.out hg4 (by omega))
  have HG4 := Lib.hid (grown_trans HG3.out hg4)
  have HZ4 := Lib.hid (show w.heap.size + 2 ≤ w4.heap.size by have := hg4.size; have := HZ3.out; omega)
  have HOW := Lib.hid (rowsC.ow_base how (show w.heap.size + 1 ≤ w3.heap.size by have := HZ3.out; omega))
  have HND := Lib.hid hnd
  have HWT := Lib.hid hwt
  have HC4 := Lib.hid hc4
  clear how hnd hwt hc4 hg4 HX3 HG3 HT HZ3
  go_wp2_with fail
  generalize hW : w4.alloc _ = W
  obtain ⟨r0, hz, hb0⟩ := start1 w4 _ hW
  have hst : St w c v l w4.heap.size nm (1 + (n : Int)) (.slice a4 rows.length cap4) rows fp W := ⟨Cd.ow_later HOW.out hb0, HND.out, fun q => Nat.lt_irrefl _ (rowsC.ow_lt HOW.out _ q).2, Loc3.of r0, HX4.out.later hb0, by have := HZ4.out; omega, hcs, cur_below HC4.out hb0 (by have := HZ4.out; omega), grown_trans HG4.out (grown_below hb0 (some c))⟩
  clear hW
  have HST := Lib.hid hst
  generalize w4.heap.size = X at *
  have HB5 := Lib.hid (below_any 12 c v l B W hst.cu (HR.out W hst.gr) hB)
  have har : -1 ≤ 1 + (n : Int) ∧ 1 + (n : Int) ≤ 4 := by omega
  generalize 1 + (n : Int) = ar at *
  clear hst r0 hb0 hz HOW HND HX4 HG4 HC4 HZ4 HEN
  refine HB5.out.mono ?_
  rintro e w5 ⟨x, rfl, hx0, hx12, hc5, hg5⟩
  have HS := Lib.hid (HST.out.grown hg5 hc5)
  clear hx12 hc5 hg5 HST HB5
  by_cases x0 : x = 0
  · subst x0
    have hal := HS.out.alloc (.cells (ss4.map fun z => Value.string z).toArray 9)
    have HP := Lib.hid (pickS_any ss4 w5.heap.size (by decide) (by decide) c v l B _ hal.cu (HR.out _ hal.gr) hB (by have := (cur_size HS.out.cu); omega) (list_cellsS ss4 w5 9))
    have HAL := Lib.hid hal
    clear hal
    go_wp2_with fail
    refine HP.out.mono ?_
    rintro e w6 ⟨t, ht, rfl, hc6, hg6⟩
    have hnm := ss4_ok ⟨t, ht⟩
    simp only at hnm
    generalize ss4.getD t ⟨#[]⟩ = nm' at *
    have HS6 := Lib.hid (HAL.out.grown hg6 hc6)
    have hx0 := HS6.out.lx.c0
    have hf0 := HS6.out.lx.f0
    have HS7 := Lib.hid (HS6.out.set0 nm')
    obtain ⟨p0, p1, p2, q0, q1, q2⟩ := HS7.out.lx
    obtain ⟨g0, g1, g2, f0, f1, f2⟩ := HS7.out.lr
    clear hc6 hg6 HP HAL
    go_wp2_with fail
    obtain ⟨k0, k1, k2⟩ := set3 (w := w6.setCell ⟨X, 0, none⟩ (.string nm')) (k := w.heap.size) (x := .string nm') (y := .int .i64 ar) (z := .slice a4 rows.length cap4) g0 g1 g2
    refine bodyPost_ret (v := .agg #[.string nm', .int .i64 ar, .slice a4 rows.length cap4]) (by simp [results, Tryz.results127, go_sem, k0, k1, k2]) rfl (HS7.out.done hnm har (by have := HWT.out; omega) _ _ _)
  have tt0 : (x == 0) = false := by rw [beq_eq_false_iff_ne]; exact x0
  by_cases x1 : x = 1
  · subst x1
    clear x0
    have hal := HS.out.alloc (.cells (zz3.map fun z => Value.int .i64 z).toArray 3)
    have HP := Lib.hid (pick_any zz3 w5.heap.size (by decide) (by decide) c v l B _ hal.cu (HR.out _ hal.gr) hB (by have := (cur_size HS.out.cu); omega) (list_cellsI zz3 w5 3))
    have HAL := Lib.hid hal
    clear hal
    go_wp2_with fail
    refine HP.out.mono ?_
    rintro e w6 ⟨t, ht, rfl, hc6, hg6⟩
    have har' := zz3_ok ⟨t, ht⟩
    simp only at har'
    generalize zz3.getD t 0 = ar' at *
    have HS6 := Lib.hid (HAL.out.grown hg6 hc6)
    have hx1 := HS6.out.lx.c1
    have hf1 := HS6.out.lx.f1
    have HS7 := Lib.hid (HS6.out.set1 ar')
    obtain ⟨p0, p1, p2, q0, q1, q2⟩ := HS7.out.lx
    obtain ⟨g0, g1, g2, f0, f1, f2⟩ := HS7.out.lr
    clear hc6 hg6 HP HAL
    go_wp2_with fail
    obtain ⟨k0, k1, k2⟩ := set3 (w := w6.setCell ⟨X, 1, none⟩ (.int .i64 ar')) (k := w.heap.size) (x := .string nm) (y := .int .i64 ar') (z := .slice a4 rows.length cap4) g0 g1 g2
    refine bodyPost_ret (v := .agg #[.string nm, .int .i64 ar', .slice a4 rows.length cap4]) (by simp [results, Tryz.results127, go_sem, k0, k1, k2]) rfl (HS7.out.done hnm har' (by have := HWT.out; omega) _ _ _)
  have tt1 : (x == 1) = false := by rw [beq_eq_false_iff_ne]; exact x1
  have HL1 := Lib.hid (show rows.length + 1 ≤ 1000000000000 by have := HWT.out; unfold rowsWt at this; omega)
  by_cases x2 : x = 2
  · subst x2
    clear x0 x1
    have HLT := Lib.hid (HS.out.lit [0] (by intro y hy; rw [List.mem_singleton.1 hy]; omega) (by decide))
    have hx2 := cell_alloc_some (cell_alloc_some HS.out.lx.c2 (.cells #[.int .i64 0] 3)) (.cells #[.slice (some ⟨w5.heap.size, 0, none⟩) 1 1] 32)
    have hx2' := HS.out.lx.c2
    go_wp2_with (at_builtin; refine Cd.wpList_appendE (c := rowC) rfl rfl (.tmp 29) (.tmp 31) 33 rfl (w.heap.size + 1) 32 (.slice none 0 0) 24 Tryz.underlying33 info_ints rfl (by decide) _ rows _ rfl HLT.out.st.how HLT.out.st.nd _ _ rfl HLT.out.cell [0] _ HLT.out.row (by simp) HLT.out.far HL1.out HLT.out.sz ?_)
    intro g cap w6 fp6 ho6 hn6 hs6 ht6
    have hx6 := (HLT.out.st.touched ht6)
    have hx62 := hx6.c2
    have hf62 := hx6.f2
    have HS7 := Lib.hid (HLT.out.st.app ht6 ho6 hn6 (fun b hb => by have := hs6 b hb; rw [List.mem_singleton, size_alloc, size_alloc]; omega) HLT.out.xf)
    obtain ⟨p0, p1, p2, q0, q1, q2⟩ := HS7.out.lx
    obtain ⟨g0, g1, g2, f0, f1, f2⟩ := HS7.out.lr
    clear ho6 hn6 hs6 ht6 hx6 hx2 hx2'
    go_wp2_with fail
    obtain ⟨k0, k1, k2⟩ := set3 (w := w6.setCell ⟨X, 2, none⟩ (.slice (some ⟨g, 0, none⟩) (rows.length + 1) cap)) (k := w.heap.size) (x := .string nm) (y := .int .i64 ar) (z := .slice (some ⟨g, 0, none⟩) (rows.length + 1) cap) g0 g1 g2
    refine bodyPost_ret (v := .agg #[.string nm, .int .i64 ar, .slice (some ⟨g, 0, none⟩) (rows.length + 1) cap]) (by simp [results, Tryz.results127, go_sem, k0, k1, k2]) rfl (HS7.out.done hnm har (by have := HWT.out; simp [rowsWt] at *; omega) _ _ _)
  have tt2 : (x == 2) = false := by rw [beq_eq_false_iff_ne]; exact x2
  by_cases x3 : x = 3
  · subst x3
    clear x0 x1 x2
    have HLT := Lib.hid (HS.out.lit [9, 9, 10] (by intro y hy; simp at hy; omega) (by decide))
    have hx2' := HS.out.lx.c2
    go_wp2_with (at_builtin; refine Cd.wpList_appendE (c := rowC) rfl rfl (.tmp 37) (.tmp 39) 33 rfl (w.heap.size + 1) 32 (.slice none 0 0) 24 Tryz.underlying33 info_ints rfl (by decide) _ rows _ rfl HLT.out.st.how HLT.out.st.nd _ _ rfl HLT.out.cell [9, 9, 10] _ HLT.out.row (by simp) HLT.out.far HL1.out HLT.out.sz ?_)
    intro g cap w6 fp6 ho6 hn6 hs6 ht6
    have hx6 := (HLT.out.st.touched ht6)
    have hx62 := hx6.c2
    have hf62 := hx6.f2
    have HS7 := Lib.hid (HLT.out.st.app ht6 ho6 hn6 (fun b hb => by have := hs6 b hb; rw [List.mem_singleton, size_alloc, size_alloc]; omega) HLT.out.xf)
    obtain ⟨p0, p1, p2, q0, q1, q2⟩ := HS7.out.lx
    obtain ⟨g0, g1, g2, f0, f1, f2⟩ := HS7.out.lr
    clear ho6 hn6 hs6 ht6 hx6 hx2'
    go_wp2_with fail
    obtain ⟨k0, k1, k2⟩ := set3 (w := w6.setCell ⟨X, 2, none⟩ (.slice (some ⟨g, 0, none⟩) (rows.length + 1) cap)) (k := w.heap.size) (x := .string nm) (y := .int .i64 ar) (z := .slice (some ⟨g, 0, none⟩) (rows.length + 1) cap) g0 g1 g2
    refine bodyPost_ret (v := .agg #[.string nm, .int .i64 ar, .slice (some ⟨g, 0, none⟩) (rows.length + 1) cap]) (by simp [results, Tryz.results127, go_sem, k0, k1, k2]) rfl (HS7.out.done hnm har (by have := HWT.out; simp [rowsWt] at *; omega) _ _ _)
  have tt3 : (x == 3) = false := by rw [beq_eq_false_iff_ne]; exact x3
  clear x0 x1 x2 x3
  obtain ⟨p0, p1, p2, q0, q1, q2⟩ := HS.out.lx
  obtain ⟨g0, g1, g2, f0, f1, f2⟩ := HS.out.lr
  go_wp2_with fail
  obtain ⟨k0, k1, k2⟩ := set3 (w := w5) (k := w.heap.size) (x := .string nm) (y := .int .i64 ar) (z := .slice a4 rows.length cap4) g0 g1 g2
  refine bodyPost_ret (v := .agg #[.string nm, .int .i64 ar, .slice a4 rows.length cap4]) (by simp [results, Tryz.results127, go_sem, k0, k1, k2]) rfl (HS.out.done hnm har (by have := HWT.out; omega) _ _ _)
end Go.Proofs.YtdkhgeknjekkoaaGreat.TabSpec

namespace Go.Proofs.YtdkhgeknjekkoaaGreat.DbDraw
open Go Go.RowKit Byt Ints IntsLaw IntsWalk Draw LocDraw Cd Rows2 Tab TabDraw SlMath TabOpen TabElem SlTable Db TabSpec DbMath DbSpec DbExact DbAcc

theorem loc1_grown {w w' : World} {X c : Nat} {a : Value} (h : Loc1 w X a) (hg : w.grownBy w' (some c)) (hn : X ≠ c) : Loc1 w' X a :=
  h.keep (hg.block X h.lt (by intro q; injection q with q; exact hn q))
def nm5 : List ByteArray := [⟨#[114]⟩, ⟨#[115]⟩, ⟨#[116]⟩, ⟨#[117]⟩, ⟨#[118]⟩]
def zv4 : List Int := [2, 3, 4, 6]
def zm4 : List Int := [2, 4, 6, 8]
theorem nm5_ok : ∀ t : Fin 5, (nm5.getD t.val ⟨#[]⟩).size ≤ 2 := by decide
theorem zv4_ok : ∀ t : Fin 4, 0 < zv4.getD t.val 0 ∧ zv4.getD t.val 0 ≤ 6 := by decide
theorem zm4_ok : ∀ t : Fin 4, 0 ≤ zm4.getD t.val 0 ∧ zm4.getD t.val 0 ≤ 8 := by decide

/-- A table that a draw may make. -/
def OkD (T : T3) : Prop := T.1.size ≤ 2 ∧ (-1 ≤ T.2.1 ∧ T.2.1 ≤ 4) ∧ rowsWt T.2.2 ≤ 32
/-- In the drawing of a database: the local one in block X, the names behind it, the cursor. -/
structure DrS (w : World) (c : Nat) (v : Value) (l : List UInt8) (X : Nat) (cur : List T3) (a : Option Addr) (k : Nat) (fp : List Nat) (W : World) : Prop where
  lx : Loc1 W X (.slice a cur.length k)
  lr : Loc1 W w.heap.size (.slice none 0 0)
  nm : ∀ t, t < 5 → W.cell? ⟨X + 1, t, none⟩ = some (.string (nm5.getD t ⟨#[]⟩))
  ow : tabsC.ow W (X + 2) [.slice a cur.length k] cur fp
  nd : fp.Nodup
  ok : ∀ T ∈ cur, OkD T
  xb : w.heap.size < X
  cb : c < w.heap.size
  sz : X + 2 ≤ W.heap.size
  cu : Cur W c v l
  gr : w.grownBy W (some c)
theorem DrS.grown {w : World} {c : Nat} {v : Value} {l : List UInt8} {X : Nat} {cur : List T3} {a : Option Addr} {k : Nat} {fp : List Nat} {W W' : World} (h : DrS w c v l X cur a k fp W) (hg : W.grownBy W' (some c)) (hc : Cur W' c v l) : DrS w c v l X cur a k fp W' :=
  have h1 := h.cb
  have h2 := h.xb
  ⟨loc1_grown h.lx hg (by omega), loc1_grown h.lr hg (by omega), fun t ht => hg.cell (h.nm t ht) (by intro q; injection q with q; simp only at q; omega), ow_grown h.ow hg (by omega), h.nd, h.ok, h.xb, h.cb, Nat.le_trans h.sz hg.size, hc, grown_trans h.gr hg⟩
theorem DrS.alloc {w : World} {c : Nat} {v : Value} {l : List UInt8} {X : Nat} {cur : List T3} {a : Option Addr} {k : Nat} {fp : List Nat} {W : World} (h : DrS w c v l X cur a k fp W) (o : Obj) : DrS w c v l X cur a k fp (W.alloc o) :=
  h.grown (World.grownBy_alloc W o (some c)) (cur_allocI o h.cu)
/-- A drawn table laid in two cells of its own, to be appended. -/
structure LaidD (X : Nat) (W3 : World) (b : Nat) (us : List Value) (T : T3) (f fp : List Nat) : Prop where
  at_ : Cd.At W3 b 0 us
  ow : tabC.ow W3 (X + 2) us T f
  nd : f.Nodup
  far : ∀ b ∈ f, b ∉ fp
  sz : X + 2 ≤ W3.heap.size
  ok : OkD T
theorem DrS.laid {w : World} {c : Nat} {v : Value} {l : List UInt8} {X : Nat} {cur : List T3} {a : Option Addr} {k : Nat} {fp : List Nat} {W W2 : World} (h : DrS w c v l X cur a k fp W) (hg : W.grownBy W2 (some c)) (hc : Cur W2 c v l)
    {nm : ByteArray} {ar : Int} {y : Value} {rows : List (List Int)} {f : List Nat} (ho : rowsC.ow W2 W.heap.size [y] rows f) (hn : f.Nodup) (hok : OkD (nm, ar, rows)) (e : TypeId) :
    DrS w c v l X cur a k fp ((W2.alloc (.cells #[.string nm, .int .i64 ar, y] e (0, 0))).alloc (.cells #[.string nm, .int .i64 ar, y] e (0, 0))) ∧
    LaidD X ((W2.alloc (.cells #[.string nm, .int .i64 ar, y] e (0, 0))).alloc (.cells #[.string nm, .int .i64 ar, y] e (0, 0))) (W2.heap.size + 1) [.string nm, .int .i64 ar, y] (nm, ar, rows) f fp := by
  have hbA := Tab.below_then (below_alloc W2 (.cells #[.string nm, .int .i64 ar, y] e (0, 0))) (below_alloc (W2.alloc (.cells #[.string nm, .int .i64 ar, y] e (0, 0))) (.cells #[.string nm, .int .i64 ar, y] e (0, 0)))
  have hA := ((h.grown hg hc).alloc (.cells #[.string nm, .int .i64 ar, y] e (0, 0))).alloc (.cells #[.string nm, .int .i64 ar, y] e (0, 0))
  obtain ⟨k1, k2, k3⟩ := hok
  simp only at k1 k2 k3
  refine ⟨hA, ?_, tabC.ow_base (Cd.ow_later (tab_ow ho (by unfold maxLen; omega) (by omega)) hbA) h.sz, hn, fun b hb q => ?_, hA.sz, ⟨k1, k2, k3⟩⟩
  · exact at3 (by have := row_alloc (W2.alloc (.cells #[.string nm, .int .i64 ar, y] e (0, 0))) (.cells #[.string nm, .int .i64 ar, y] e (0, 0)); rw [size_alloc] at this; exact this)
  · have h1 := (rowsC.ow_lt ho b hb).1
    have h2 := ((Cd.sl _ tabC).ow_lt h.ow b q).2
    omega
theorem DrS.fcell {w : World} {c : Nat} {v : Value} {l : List UInt8} {X : Nat} {cur : List T3} {a : Option Addr} {k : Nat} {fp : List Nat} {W W4 : World} (h : DrS w c v l X cur a k fp W) (ht : Cd.Touch fp W W4) : W4.cell? ⟨X, 0, none⟩ = some (.slice a cur.length k) ∧ W4.frozen? ⟨X, 0, none⟩ = false := by
  have hx : X ∉ fp := fun q => by have := ((Cd.sl _ tabC).ow_lt h.ow _ q).1; omega
  exact ⟨(h.lx.touched ht hx).c0, (h.lx.touched ht hx).f0⟩
theorem DrS.app {w : World} {c : Nat} {v : Value} {l : List UInt8} {X : Nat} {cur : List T3} {a : Option Addr} {k : Nat} {fp : List Nat} {W3 W4 : World} (h : DrS w c v l X cur a k fp W3) {T : T3} (hT : OkD T) {g cap : Nat} {fp4 : List Nat} (ht : Cd.Touch fp W3 W4)
    (ho : tabsC.ow W4 (X + 2) [.slice (some ⟨g, 0, none⟩) (cur.length + 1) cap] (cur ++ [T]) fp4) (hn : fp4.Nodup) :
    DrS w c v l X (cur ++ [T]) (some ⟨g, 0, none⟩) cap fp4 (W4.setCell ⟨X, 0, none⟩ (.slice (some ⟨g, 0, none⟩) (cur.length + 1) cap)) := by
  have h1 := h.cb
  have h2 := h.xb
  have h3 := h.sz
  have hfp : ∀ b, b < X + 2 → b ∉ fp := fun b hb q => by have := ((Cd.sl _ tabC).ow_lt h.ow _ q).1; omega
  have hx4 : X ∉ fp4 := fun q => by have := ((Cd.sl _ tabC).ow_lt ho _ q).1; omega
  have e : (cur ++ [T]).length = cur.length + 1 := by simp
  refine ⟨?_, (h.lr.touched ht (hfp _ (by omega))).set_far (by show X ≠ _; omega) _, fun t hlt => ?_, ?_, hn, ?_, h2, h1, ?_, ?_, ?_⟩
  · rw [e]; exact (h.lx.touched ht (hfp _ (by omega))).set _
  · rw [World.cell?_setCell_other _ _ _ _ (by intro q; have e := congrArg Addr.block q; simp only at e; omega)]
    exact ht.cell (h.nm t hlt) (hfp _ (by show X + 1 < _; omega))
  · rw [e]; exact ow_setCell ho hx4 _
  · intro U hU
    rcases List.mem_append.1 hU with q | q
    · exact h.ok U q
    · rw [List.mem_singleton.1 q]; exact hT
  · have := ht.size; simp; omega
  · obtain ⟨i, x, hi, hh⟩ := h.cu
    exact cur_farI _ ⟨i, x, hi, ht.row hh (hfp _ (by omega))⟩ (by show c ≠ X; omega)
  · refine grown_newI _ ?_ (by show _ ≤ X; omega)
    exact ⟨ht.os.trans h.gr.os, ht.tape.trans h.gr.tape, ht.output.trans h.gr.output, Nat.le_trans h.gr.size ht.size, fun j hj hne => (ht.block j (by have := h.gr.size; omega) (hfp _ (by omega))).trans (h.gr.block j hj hne)⟩
/-- A drawn database. -/
def DbDr (n : Nat) (w : World) (c : Nat) (v : Value) (l : List UInt8) (e : Ending) (w' : World) : Prop :=
  ∃ (u : Value) (Ts : List T3) (fp : List Nat), e = .returned (.agg #[u]) ∧ tabsC.ow w' w.heap.size [u] Ts fp ∧ fp.Nodup ∧ Ts.length = n ∧ (∀ T ∈ Ts, OkD T) ∧ Cur w' c v l ∧ w.grownBy w' (some c)
theorem DrS.done {w : World} {c : Nat} {v : Value} {l : List UInt8} {X : Nat} {cur : List T3} {a : Option Addr} {k : Nat} {fp : List Nat} {W : World} (h : DrS w c v l X cur a k fp W) {n : Nat} (hl : cur.length = n) :
    DbDr n w c v l (.returned (.agg #[.slice a cur.length k])) (W.setCell ⟨w.heap.size, 0, none⟩ (.slice a cur.length k)) := by
  have h1 := h.cb
  have h2 := h.xb
  refine ⟨_, cur, fp, rfl, ow_setCell ((Cd.sl _ tabC).ow_base h.ow (by omega)) (fun q => by have := ((Cd.sl _ tabC).ow_lt h.ow _ q).1; simp only at this; omega) _, h.nd, hl, h.ok, cur_farI _ h.cu (by show c ≠ w.heap.size; omega), grown_newI _ h.gr (Nat.le_refl _)⟩
/-- The rows of one table are dropped. -/
theorem DrS.nil {w : World} {c : Nat} {v : Value} {l : List UInt8} {X : Nat} {cur : List T3} {g : Nat} {k : Nat} {fp : List Nat} {W : World} (h : DrS w c v l X cur (some ⟨g, 0, none⟩) k fp W) {t : Nat} (ht : t < cur.length) :
    ∃ cur' fp', cur'.length = cur.length ∧ DrS w c v l X cur' (some ⟨g, 0, none⟩) k fp' (W.setCell ⟨g, t * 3 + 2, none⟩ (.slice none 0 0)) := by
  have h1 := h.cb
  have h2 := h.xb
  have h3 := h.sz
  have hok := h.ok _ (List.getElem_mem ht)
  have hg : g ∈ fp := by
    obtain ⟨v', xss, fps, e1, _, _, rfl⟩ := h.ow
    injection e1 with e1 _
    subst e1
    exact List.mem_append_left _ (by simp [Value.ownBlock])
  have hgx := ((Cd.sl _ tabC).ow_lt h.ow _ hg).1
  obtain ⟨us, f, hul, hat, hof, hfs, hnd, hch⟩ := Cd.ow_elem h.ow ht
  obtain ⟨a', c', rfl⟩ := shape_ow hof
  obtain ⟨fp', ho', hn', hsub, _⟩ := hch (W.setCell ⟨g, t * 3 + 2, none⟩ (.slice none 0 0)) [none, none, some (.slice none 0 0)] (cur[t].1, cur[t].2.1, []) [] rfl
    (tab_ow (Cd.ow_nil _ _) (by have := hok.1; unfold maxLen; omega) (by have := hok.2.1; omega)) rfl (fun b _ _ hb => Below.heap_setCell W _ _ b hb) h.nd List.nodup_nil (by simp)
  have e : (cur.set t (cur[t].1, cur[t].2.1, [])).length = cur.length := by simp
  refine ⟨cur.set t (cur[t].1, cur[t].2.1, []), fp', e, ?_, h.lr.set_far (by show g ≠ _; omega) _, fun j hj => ?_, ?_, hn', fun T hT => ?_, h2, h1, by simpa using h3, cur_farI _ h.cu (by show c ≠ g; omega), grown_newI _ h.gr (by show _ ≤ g; omega)⟩
  · rw [e]; exact h.lx.set_far (by show g ≠ X; omega) _
  · rw [World.cell?_setCell_other _ _ _ _ (by intro q; have e := congrArg Addr.block q; simp only at e; omega)]
    exact h.nm j hj
  · rw [e]; exact ho'
  · rcases List.mem_or_eq_of_mem_set hT with q | q
    · exact h.ok T q
    · rw [q]; exact ⟨hok.1, hok.2.1, by simp [rowsWt]⟩
theorem DrS.drew {w : World} {c : Nat} {v : Value} {l : List UInt8} {X : Nat} {cur : List T3} {a : Option Addr} {k : Nat} {fp : List Nat} {W : World} (h : DrS w c v l X cur a k fp W) : DrS w c v l X cur a k fp W.drew :=
  ⟨h.lx.drew, h.lr.drew, h.nm, tabsC.ow_keep h.ow fun _ _ => rfl, h.nd, h.ok, h.xb, h.cb, h.sz, h.cu, ⟨h.gr.os, h.gr.tape, h.gr.output, h.gr.size, h.gr.block⟩⟩
theorem DrS.rcell {w : World} {c : Nat} {v : Value} {l : List UInt8} {X : Nat} {cur : List T3} {g : Nat} {k : Nat} {fp : List Nat} {W : World} (h : DrS w c v l X cur (some ⟨g, 0, none⟩) k fp W) {t : Nat} (ht : t < cur.length) :
    ∃ u, W.cell? ⟨g, t * 3 + 2, none⟩ = some u ∧ W.frozen? ⟨g, t * 3 + 2, none⟩ = false := by
  obtain ⟨us, f, hul, hat, _⟩ := Cd.ow_elem h.ow ht
  have hul' : us.length = 3 := hul
  exact ⟨_, hat 2 (by omega), Cd.ow_frozen h.ow _⟩
/-- The same for some list of n tables. -/
def DrO (w : World) (c : Nat) (v : Value) (l : List UInt8) (X n g k : Nat) (W : World) : Prop := ∃ cur fp, cur.length = n ∧ DrS w c v l X cur (some ⟨g, 0, none⟩) k fp W
theorem DrO.of {w : World} {c : Nat} {v : Value} {l : List UInt8} {X g k : Nat} {cur : List T3} {fp : List Nat} {W : World} (h : DrS w c v l X cur (some ⟨g, 0, none⟩) k fp W) : DrO w c v l X cur.length g k W := ⟨cur, fp, rfl, h⟩
theorem DrO.grown {w : World} {c : Nat} {v : Value} {l : List UInt8} {X n g k : Nat} {W W' : World} (h : DrO w c v l X n g k W) (hg : W.grownBy W' (some c)) (hc : Cur W' c v l) : DrO w c v l X n g k W' :=
  have ⟨cur, fp, e, hs⟩ := h
  ⟨cur, fp, e, hs.grown hg hc⟩
theorem DrO.nil {w : World} {c : Nat} {v : Value} {l : List UInt8} {X n g k : Nat} {W : World} (h : DrO w c v l X n g k W) {t : Nat} (ht : t < n) : DrO w c v l X n g k (W.setCell ⟨g, t * 3 + 2, none⟩ (.slice none 0 0)) := by
  obtain ⟨cur, fp, rfl, hs⟩ := h
  obtain ⟨cur', fp', e, hs'⟩ := hs.nil ht
  exact ⟨cur', fp', e, hs'⟩
theorem DrO.all {w : World} {c : Nat} {v : Value} {l : List UInt8} {X n g k : Nat} {W : World} (h : DrO w c v l X n g k W) : W.cell? ⟨X, 0, none⟩ = some (.slice (some ⟨g, 0, none⟩) n k) ∧ DrO w c v l X n g k W := by
  obtain ⟨cur, fp, rfl, hs⟩ := h
  exact ⟨hs.lx.c0, ⟨cur, fp, rfl, hs⟩⟩
theorem DrO.res {w : World} {c : Nat} {v : Value} {l : List UInt8} {X n g k : Nat} {W : World} (h : DrO w c v l X n g k W) : W.cell? ⟨w.heap.size, 0, none⟩ = some (.slice none 0 0) ∧ W.frozen? ⟨w.heap.size, 0, none⟩ = false := by
  obtain ⟨cur, fp, rfl, hs⟩ := h
  exact ⟨hs.lr.c0, hs.lr.f0⟩
theorem DrO.rcell {w : World} {c : Nat} {v : Value} {l : List UInt8} {X n g k : Nat} {W : World} (h : DrO w c v l X n g k W) {t : Nat} (ht : t < n) : ∃ u, W.cell? ⟨g, t * 3 + 2, none⟩ = some u ∧ W.frozen? ⟨g, t * 3 + 2, none⟩ = false := by
  obtain ⟨cur, fp, rfl, hs⟩ := h
  exact hs.rcell ht
theorem DrO.below {w : World} {c : Nat} {v : Value} {l : List UInt8} {X n g k : Nat} {W : World} (h : DrO w c v l X n g k W) : Cur W c v l ∧ w.grownBy W (some c) := by
  obtain ⟨cur, fp, rfl, hs⟩ := h
  exact ⟨hs.cu, hs.gr⟩
theorem DrO.done {w : World} {c : Nat} {v : Value} {l : List UInt8} {X n g k : Nat} {W : World} (h : DrO w c v l X n g k W) {m : Nat} (hm : n = m) : DbDr m w c v l (.returned (.agg #[.slice (some ⟨g, 0, none⟩) n k])) (W.setCell ⟨w.heap.size, 0, none⟩ (.slice (some ⟨g, 0, none⟩) n k)) := by
  obtain ⟨cur, fp, rfl, hs⟩ := h
  exact hs.done hm
end Go.Proofs.YtdkhgeknjekkoaaGreat.DbDraw

namespace Go.Proofs.YtdkhgeknjekkoaaGreat.DbDraw
open Go Go.RowKit Byt Ints IntsLaw IntsWalk Draw LocDraw Cd Rows2 Tab TabDraw SlMath TabOpen TabElem SlTable Db TabSpec DbMath DbSpec DbExact DbAcc

theorem list1 (x : UInt8) : (⟨#[x]⟩ : ByteArray).toList = [x] := by simp [ByteArray.toList, ByteArray.toList.loop, ByteArray.size, ByteArray.get!]
theorem toL (x y : UInt8) : ((⟨#[x]⟩ : ByteArray).toList == [y]) = decide (x = y) := by rw [list1]; by_cases h : x = y <;> simp [h]
theorem toN {nm : ByteArray} {x : UInt8} (h : nm ≠ ⟨#[x]⟩) : (nm.toList == [x]) = false := by rw [← list1 x, eqB]; exact decide_eq_false h

set_option maxRecDepth 100000 in
set_option maxHeartbeats 3200000 in
theorem db_any (c : Nat) (v : Value) (l : List UInt8) (B : Nat) (w : World) (hc : Cur w c v l) (hr : Reads w v l B) (hB : B ≤ c) :
    Calls Tryz.prog 81 #[.pointer (some ⟨c, 0, none⟩)] w (DbDr 5 w c v l) := by
  have hcs := cur_size hc
  have HR := Lib.hid (fun w' (hg : w.grownBy w' (some c)) => hr.later (below_of hg hB hcs))
  have HC := Lib.hid hc
  clear hc hr
  go_enter Tryz.func81, Tryz.ntmps81
  go_wp2_with fail
  generalize hW : w.alloc _ = W0
  obtain ⟨r0, hz, hb0⟩ := start1 w _ hW
  clear hW
  have HX0 := Lib.hid (Loc1.of r0)
  have HG0 := Lib.hid (grown_below hb0 (some c))
  have HC0 := Lib.hid (cur_below HC.out hb0 hcs)
  have hc1 := cur_allocI (.cells (zv4.map fun z => Value.int .i64 z).toArray 3) HC0.out
  have hg1 := grown_allocI (.cells (zv4.map fun z => Value.int .i64 z).toArray 3) HG0.out
  have HP := Lib.hid (pick_any zv4 W0.heap.size (by decide) (by decide) c v l B _ hc1 (HR.out _ hg1) hB (by omega) (list_cellsI zv4 W0 3))
  rw [hz] at HP
  have HG1 := Lib.hid hg1
  have HX1 := Lib.hid (HX0.out.later (below_alloc W0 (.cells (zv4.map fun z => Value.int .i64 z).toArray 3)))
  have HZ1 := Lib.hid (show (W0.alloc (.cells (zv4.map fun z => Value.int .i64 z).toArray 3)).heap.size = w.heap.size + 2 by rw [size_alloc, hz])
  clear r0 hb0 hc1 hg1 HX0 HG0 HC0
  refine HP.out.mono ?_
  rintro e w2 ⟨t, ht, rfl, hc2, hg2⟩
  have hv := zv4_ok ⟨t, ht⟩
  simp only at hv
  generalize zv4.getD t 0 = zv at *
  obtain ⟨V, rfl⟩ := Int.eq_ofNat_of_zero_le (show 0 ≤ zv by omega)
  have hV : 0 < V ∧ V ≤ 6 := by omega
  have HX2 := Lib.hid (loc1_grown HX1.out hg2 (by omega))
  have HZ2 := Lib.hid (show w.heap.size + 2 ≤ w2.heap.size by have := hg2.size; have := HZ1.out; omega)
  have HG2 := Lib.hid (grown_trans HG1.out hg2)
  have hc3 := cur_allocI (.cells (zm4.map fun z => Value.int .i64 z).toArray 3) hc2
  have hg3 := grown_allocI (.cells (zm4.map fun z => Value.int .i64 z).toArray 3) HG2.out
  have HP3 := Lib.hid (pick_any zm4 w2.heap.size (by decide) (by decide) c v l B _ hc3 (HR.out _ hg3) hB (by have := HZ2.out; omega) (list_cellsI zm4 w2 3))
  have HX3 := Lib.hid (HX2.out.later (below_alloc w2 (.cells (zm4.map fun z => Value.int .i64 z).toArray 3)))
  have HZ3 := Lib.hid (show w.heap.size + 2 ≤ (w2.alloc (.cells (zm4.map fun z => Value.int .i64 z).toArray 3)).heap.size by rw [size_alloc]; have := HZ2.out; omega)
  have HG3 := Lib.hid hg3
  clear hv hc2 hg2 hc3 hg3 HX1 HG1 HX2 HG2 HP HZ1 hz
  go_wp2_with fail
  refine HP3.out.mono ?_
  rintro e w4 ⟨t4, ht4, rfl, hc4, hg4⟩
  have hm := zm4_ok ⟨t4, ht4⟩
  simp only at hm
  generalize zm4.getD t4 0 = zm at *
  obtain ⟨M, rfl⟩ := Int.eq_ofNat_of_zero_le hm.1
  have hM : M ≤ 8 := by omega
  have HX4 := Lib.hid (loc1_grown HX3.out hg4 (by omega))
  have HG4 := Lib.hid (grown_trans HG3.out hg4)
  have HZ4 := Lib.hid (show w.heap.size + 2 ≤ w4.heap.size by have := hg4.size; have := HZ3.out; omega)
  have HC4 := Lib.hid hc4
  clear hm hc4 hg4 HX3 HG3 HP3 HZ3 HZ2
  go_wp2_with fail
  generalize hW : (w4.alloc _).alloc _ = W
  obtain ⟨r0, r1, hz, hb0⟩ := start2g w4 _ _ hW
  have hst : DrS w c v l w4.heap.size [] none 0 [] W := by
    refine ⟨Loc1.of r0, HX4.out.later hb0, fun t ht => ?_, Cd.ow_nil _ _, by simp, (fun T hT => by cases hT), by have := HZ4.out; omega, hcs, by omega, cur_below HC4.out hb0 (by have := HZ4.out; omega), grown_trans HG4.out (grown_below hb0 (some c))⟩
    rcases (show t = 0 ∨ t = 1 ∨ t = 2 ∨ t = 3 ∨ t = 4 by omega) with rfl | rfl | rfl | rfl | rfl <;> simp [World.cell?, r1, nm5]
  have HST := Lib.hid hst
  clear hW hst r0 r1 hb0 hz HX4 HG4 HC4 HZ4
  generalize w4.heap.size = X at *
  go_loopw [7, 8, 19] (fun _ _ n wr => ∃ (k : Nat) (cur : List T3) (a : Option Addr) (cap : Nat) (fp : List Nat), k ≤ 5 ∧ n = .int .i64 k ∧ cur.length = k ∧ (0 < k → ∃ g, a = some ⟨g, 0, none⟩) ∧ DrS w c v l X cur a cap fp wr) (fun _ _ n _ => 5 - (intOf n).toNat)
  case atStart => exact ⟨0, [], none, 0, [], Nat.zero_le _, rfl, rfl, fun h => absurd h (by decide), HST.out⟩
  case round =>
    obtain ⟨k, cur, a, cap, fp, hk, rfl, hlen, hform, hst⟩ := hrel
    have HFO := Lib.hid hform
    clear hform
    have HS := Lib.hid hst
    have HLEN := Lib.hid hlen
    clear hst hlen
    by_cases hlt : k < 5
    · have hnm := nm5_ok ⟨k, hlt⟩
      have hcell := HS.out.nm k hlt
      simp only at hnm
      generalize nm5.getD k ⟨#[]⟩ = nm at *
      have i1 : (0 : Int) ≤ (k : Int) := by omega
      have i2 : (k : Int) < 5 := by omega
      have HLL := Lib.hid (show cur.length + 1 ≤ 1000000000 by have := HLEN.out; omega)
      by_cases eu : nm = ⟨#[117]⟩
      · subst eu
        generalize hnu : (⟨#[117]⟩ : ByteArray) = nm at *
        have t1 : (nm.toList == [117]) = true := by rw [← hnu]; exact toL 117 117
        have t2 : (nm.toList == [118]) = false := by rw [← hnu]; exact toL 117 118
        clear hnu
        have HT := Lib.hid (tab_gen M V hM hV nm 3 (by decide) c v l B wr HS.out.cu (HR.out wr HS.out.gr) hB)
        rw [show ((3 : Nat) : Int) = 3 from rfl] at HT
        go_wp2_with fail
        refine HT.out.mono ?_
        rintro e w5 ⟨y, rows, f, rfl, how, hnf, hwt, hc5, hg5⟩
        obtain ⟨a5, cap5, rfl⟩ := Cd.ow_slice how
        obtain ⟨hL, hD⟩ := HS.out.laid hg5 hc5 how hnf (nm := nm) (ar := 3) ⟨hnm, by show (-1 : Int) ≤ 3 ∧ (3 : Int) ≤ 4; decide, by show rowsWt rows ≤ 32; omega⟩ 44
        have q1 := (HS.out.grown hg5 hc5).lx.c0
        have q2 : X < w5.heap.size := by have := (HS.out.grown hg5 hc5).sz; omega
        have HL := Lib.hid hL
        have HD := Lib.hid hD
        clear hL hD how hnf hwt hc5 hg5 HT
        go_wp2_with (at_builtin; refine Cd.wpList_appendN (c := tabC) rfl (.tmp 34) (.tmp 36) 24 rfl (X + 2) 44 (.agg #[.string ⟨#[]⟩, .int .i64 0, .slice none 0 0]) 3 48 rfl Tryz.underlying24 info_x rfl (by decide) _ cur fp rfl HL.out.ow HL.out.nd (w5.heap.size + 1) _ rfl HD.out.at_ (nm, 3, rows) f HD.out.ow HD.out.nd HD.out.far HLL.out HD.out.sz ?_)
        intro g cap4 w6 fp6 ho6 hn6 hs6 ht6
        obtain ⟨e0, e1⟩ := HL.out.fcell ht6
        have HA := Lib.hid (HL.out.app HD.out.ok ht6 ho6 hn6)
        clear ho6 hn6 hs6 ht6
        go_wp2_with fail
        go_roundw
        case rel => exact ⟨k + 1, cur ++ [(nm, 3, rows)], _, _, fp6, by omega, by go_num, by rw [List.length_append]; have := HLEN.out; simp; omega, fun _ => ⟨g, rfl⟩, HA.out⟩
        case measure => simp [intOf]; omega
      have t1 : (nm.toList == [117]) = false := by
        exact toN eu
      by_cases ev : nm = ⟨#[118]⟩
      · have t2 : (nm.toList == [118]) = true := by rw [ev]; exact toL 118 118
        clear ev eu
        have HT := Lib.hid (tab_gen M V hM hV nm 1 (by decide) c v l B wr HS.out.cu (HR.out wr HS.out.gr) hB)
        rw [show ((1 : Nat) : Int) = 1 from rfl] at HT
        go_wp2_with fail
        refine HT.out.mono ?_
        rintro e w5 ⟨y, rows, f, rfl, how, hnf, hwt, hc5, hg5⟩
        obtain ⟨a5, cap5, rfl⟩ := Cd.ow_slice how
        obtain ⟨hL, hD⟩ := HS.out.laid hg5 hc5 how hnf (nm := nm) (ar := 1) ⟨hnm, by show (-1 : Int) ≤ 1 ∧ (1 : Int) ≤ 4; decide, by show rowsWt rows ≤ 32; omega⟩ 44
        have q1 := (HS.out.grown hg5 hc5).lx.c0
        have q2 : X < w5.heap.size := by have := (HS.out.grown hg5 hc5).sz; omega
        have HL := Lib.hid hL
        have HD := Lib.hid hD
        clear hL hD how hnf hwt hc5 hg5 HT
        go_wp2_with (at_builtin; refine Cd.wpList_appendN (c := tabC) rfl (.tmp 34) (.tmp 36) 24 rfl (X + 2) 44 (.agg #[.string ⟨#[]⟩, .int .i64 0, .slice none 0 0]) 3 48 rfl Tryz.underlying24 info_x rfl (by decide) _ cur fp rfl HL.out.ow HL.out.nd (w5.heap.size + 1) _ rfl HD.out.at_ (nm, 1, rows) f HD.out.ow HD.out.nd HD.out.far HLL.out HD.out.sz ?_)
        intro g cap4 w6 fp6 ho6 hn6 hs6 ht6
        obtain ⟨e0, e1⟩ := HL.out.fcell ht6
        have HA := Lib.hid (HL.out.app HD.out.ok ht6 ho6 hn6)
        clear ho6 hn6 hs6 ht6
        go_wp2_with fail
        go_roundw
        case rel => exact ⟨k + 1, cur ++ [(nm, 1, rows)], _, _, fp6, by omega, by go_num, by rw [List.length_append]; have := HLEN.out; simp; omega, fun _ => ⟨g, rfl⟩, HA.out⟩
        case measure => simp [intOf]; omega
      · have t2 : (nm.toList == [118]) = false := toN ev
        clear ev eu
        have HT := Lib.hid (tab_gen M V hM hV nm 2 (by decide) c v l B wr HS.out.cu (HR.out wr HS.out.gr) hB)
        rw [show ((2 : Nat) : Int) = 2 from rfl] at HT
        go_wp2_with fail
        refine HT.out.mono ?_
        rintro e w5 ⟨y, rows, f, rfl, how, hnf, hwt, hc5, hg5⟩
        obtain ⟨a5, cap5, rfl⟩ := Cd.ow_slice how
        obtain ⟨hL, hD⟩ := HS.out.laid hg5 hc5 how hnf (nm := nm) (ar := 2) ⟨hnm, by show (-1 : Int) ≤ 2 ∧ (2 : Int) ≤ 4; decide, by show rowsWt rows ≤ 32; omega⟩ 44
        have q1 := (HS.out.grown hg5 hc5).lx.c0
        have q2 : X < w5.heap.size := by have := (HS.out.grown hg5 hc5).sz; omega
        have HL := Lib.hid hL
        have HD := Lib.hid hD
        clear hL hD how hnf hwt hc5 hg5 HT
        go_wp2_with (at_builtin; refine Cd.wpList_appendN (c := tabC) rfl (.tmp 34) (.tmp 36) 24 rfl (X + 2) 44 (.agg #[.string ⟨#[]⟩, .int .i64 0, .slice none 0 0]) 3 48 rfl Tryz.underlying24 info_x rfl (by decide) _ cur fp rfl HL.out.ow HL.out.nd (w5.heap.size + 1) _ rfl HD.out.at_ (nm, 2, rows) f HD.out.ow HD.out.nd HD.out.far HLL.out HD.out.sz ?_)
        intro g cap4 w6 fp6 ho6 hn6 hs6 ht6
        obtain ⟨e0, e1⟩ := HL.out.fcell ht6
        have HA := Lib.hid (HL.out.app HD.out.ok ht6 ho6 hn6)
        clear ho6 hn6 hs6 ht6
        go_wp2_with fail
        go_roundw
        case rel => exact ⟨k + 1, cur ++ [(nm, 2, rows)], _, _, fp6, by omega, by go_num, by rw [List.length_append]; have := HLEN.out; simp; omega, fun _ => ⟨g, rfl⟩, HA.out⟩
        case measure => simp [intOf]; omega
    · have ek : k = 5 := by omega
      subst ek
      have HON := Lib.hid (once_anyI 8 c v l B wr HS.out.cu (HR.out wr HS.out.gr) hB)
      go_wp2_with fail
      refine HON.out.mono ?_
      rintro e w9 ⟨b, rfl, hc9, hg9⟩
      have HS9 := Lib.hid (HS.out.grown hg9 hc9)
      have y0 := HS9.out.lx.c0
      have y1 := HS9.out.lr.c0
      have y2 := HS9.out.lr.f0
      clear hc9 hg9 HON
      cases b
      · go_wp2_with fail
        have k0 : (w9.setCell ⟨w.heap.size, 0, none⟩ (.slice a cur.length cap)).cell? ⟨w.heap.size, 0, none⟩ = some (.slice a cur.length cap) := World.cell?_setCell_same _ _ _ y1
        refine bodyPost_ret (v := .agg #[.slice a cur.length cap]) (by simp [results, Tryz.results81, go_sem, k0]) rfl (HS9.out.done HLEN.out)
      · obtain ⟨g, rfl⟩ := HFO.out (by decide)
        have HB := Lib.hid (fun W' (h : DrO w c v l X cur.length g cap W') => below_any 5 c v l B W' h.below.1 (HR.out _ h.below.2) hB)
        have hs0 : DrO w c v l X cur.length g cap w9.drew := DrO.of HS9.out.drew
        go_wp2_with fail
        go_region_held3 (fun wx => wx.cell? ⟨X, 0, none⟩ = some (.slice (some ⟨g, 0, none⟩) cur.length cap) ∧ DrO w c v l X cur.length g cap wx)
          (exact DrO.all (by first | assumption | exact DrO.nil (by assumption) (by assumption)))
          (first | (go_at_call 87; refine (HB.out _ (by assumption)).mono ?_; rintro e w7 ⟨x, rfl, hx0, hx1, hc7, hg7⟩; obtain ⟨j, rfl⟩ := Int.eq_ofNat_of_zero_le hx0; (have hjl : j < cur.length := by have := hx1 (by decide); have := HLEN.out; omega); (have p1 : (0 : Int) ≤ (j : Int) := by omega); (have p2 : (j : Int) < (cur.length : Int) := by omega); (have hs7 : DrO w c v l X cur.length g cap w7 := DrO.grown (by assumption) hg7 hc7); obtain ⟨u, hu, hf⟩ := hs7.rcell hjl; (have HN := Lib.hid (hs7.nil hjl)); clear hx0 hx1 hc7 hg7))
        all_goals
          have z0 := (DrO.all HN.out).1
          obtain ⟨z1, z2⟩ := DrO.res HN.out
          go_wp2_with fail
          have k0 := World.cell?_setCell_same _ _ (.slice (some ⟨g, 0, none⟩) cur.length cap) z1
          refine bodyPost_ret (v := .agg #[.slice (some ⟨g, 0, none⟩) cur.length cap]) (by simp [results, Tryz.results81, go_sem, k0]) rfl (DrO.done HN.out HLEN.out)
end Go.Proofs.YtdkhgeknjekkoaaGreat.DbDraw

namespace Go.Proofs.YtdkhgeknjekkoaaGreat.Cd
open Go Go.RowKit
namespace Cd
variable {α : Type}

/-- What an append of two elements of several cells leaves. -/
theorem ow_appendedN2 {e : TypeId} {c : Cd α} {w w' : World} {base g cap : Nat} {v : Value} {us us2 : List Value} {l : List α} {y y2 : α} {fp f f2 : List Nat} {xss : List (List Value)} {fps : List (List Nat)}
    (hE : Each c w base xss l fps) (hfp : fp = v.ownBlock.toList ++ fps.flatten) (hd : fp.Nodup) (hlt : ∀ b ∈ fp, b < w.heap.size) (hy : c.ow w base us y f) (hfd : f.Nodup) (hdis : ∀ b ∈ f, b ∉ fp)
    (hy2 : c.ow w base us2 y2 f2) (hfd2 : f2.Nodup) (hdis2 : ∀ b ∈ f2, b ∉ fp) (h12 : ∀ b ∈ f, b ∉ f2)
    (h2 : w'.ownsRow base e c.n (.slice (some ⟨g, 0, none⟩) (l.length + 2) cap) (l.length + 2) (xss.flatten ++ (us ++ us2))) (h3 : w.grownBy w' v.ownBlock) (h4 : v.ownBlock = some g ∨ g = w.heap.size) :
    ∃ fp', (sl e c).ow w' base [.slice (some ⟨g, 0, none⟩) (l.length + 2) cap] (l ++ [y, y2]) fp' ∧ fp'.Nodup ∧ (∀ b ∈ fp', b ∈ fp ∨ b ∈ f ∨ b ∈ f2 ∨ w.heap.size ≤ b) ∧ Touch fp w w' := by
  subst hfp
  have hd' := List.nodup_append.1 hd
  have hkeep : ∀ b, b < w.heap.size → v.ownBlock ≠ some b → w'.heap[b]? = w.heap[b]? := fun b hb hne => h3.block b hb fun q => hne q.symm
  have hin : ∀ b ∈ fps.flatten, w'.heap[b]? = w.heap[b]? := fun b hb => hkeep b (hlt b (List.mem_append_right _ hb)) fun q => hd'.2.2 b (by rw [q]; simp) b hb rfl
  have hf : ∀ b ∈ f, w'.heap[b]? = w.heap[b]? := fun b hb => hkeep b (c.ow_lt hy b hb).2 fun q => hdis b hb (List.mem_append_left _ (by rw [q]; simp))
  have hf2 : ∀ b ∈ f2, w'.heap[b]? = w.heap[b]? := fun b hb => hkeep b (c.ow_lt hy2 b hb).2 fun q => hdis2 b hb (List.mem_append_left _ (by rw [q]; simp))
  have hE2 : Each c w' base ((xss ++ [us]) ++ [us2]) ((l ++ [y]) ++ [y2]) ((fps ++ [f]) ++ [f2]) := ((hE.imp fun x a g hg hq => c.ow_keep hq fun b hb => hin b (List.mem_flatten.2 ⟨g, hg, hb⟩)).snoc (c.ow_keep hy hf)).snoc (c.ow_keep hy2 hf2)
  have el : l ++ [y, y2] = (l ++ [y]) ++ [y2] := by simp
  have hlen : ((l ++ [y]) ++ [y2]).length = l.length + 2 := by simp
  have hgn : ∀ b ∈ fps.flatten ++ (f ++ f2), b ≠ g := fun b hb q => by
    subst q
    rcases h4 with q | q
    · rcases List.mem_append.1 hb with r | r
      · exact hd'.2.2 b (by rw [q]; simp) b r rfl
      · rcases List.mem_append.1 r with r | r
        · exact hdis b r (List.mem_append_left _ (by rw [q]; simp))
        · exact hdis2 b r (List.mem_append_left _ (by rw [q]; simp))
    · rcases List.mem_append.1 hb with r | r
      · have := hlt b (List.mem_append_right _ r)
        omega
      · rcases List.mem_append.1 r with r | r
        · have := (c.ow_lt hy b r).2
          omega
        · have := (c.ow_lt hy2 b r).2
          omega
  have efl : ((fps ++ [f]) ++ [f2]).flatten = fps.flatten ++ (f ++ f2) := by simp
  rw [el]
  refine ⟨_, ⟨_, _, _, rfl, ?_, hE2, rfl⟩, ?_, ?_, ⟨h3.os, h3.tape, h3.output, h3.size, fun k hk hne => hkeep k hk fun q => hne (List.mem_append_left _ (by rw [q]; simp))⟩⟩
  · rw [hlen, List.flatten_append, List.flatten_append]
    simpa using h2
  · rw [efl]
    simp only [Value.ownBlock, Option.toList_some, List.cons_append, List.nil_append, List.nodup_cons]
    refine ⟨fun q => hgn g q rfl, List.nodup_append.2 ⟨hd'.2.1, List.nodup_append.2 ⟨hfd, hfd2, fun a ha b hb q => h12 a ha (q ▸ hb)⟩, fun a ha b hb q => ?_⟩⟩
    subst q
    rcases List.mem_append.1 hb with r | r
    · exact hdis a r (List.mem_append_right _ ha)
    · exact hdis2 a r (List.mem_append_right _ ha)
  · intro b hb
    rw [efl] at hb
    simp only [Value.ownBlock, Option.toList_some, List.cons_append, List.nil_append] at hb
    rcases List.mem_cons.1 hb with rfl | q
    · rcases h4 with q | q
      · exact .inl (List.mem_append_left _ (by rw [q]; simp))
      · exact .inr (.inr (.inr (by omega)))
    · rcases List.mem_append.1 q with r | r
      · exact .inl (List.mem_append_right _ r)
      · rcases List.mem_append.1 r with r | r
        · exact .inr (.inl r)
        · exact .inr (.inr (.inl r))
/-- append(v, y, y2), elements of several cells that the call owns. -/
theorem wp_appendN2 {P : Program} {c : Cd α} {o : Oper} {a : Act} {K : Act → World → Prop} {Q : Exit → Act → World → Prop} {w : World} (s x : Operand) (t : TypeId)
    (ho : o.op = .call { callee := .builtin .append, args := #[s, x], argTypes := #[t, t] })
    (base : Nat) (e : TypeId) (z : Value) (size bytes : Nat) (hn : c.n = size) (ht : P.underlying t = some (.slice e)) (hinfo : (P.info? e).map (fun i => (i.zero, i.size, i.bytes)) = some (some z, size, bytes)) (hzs : z.cells.size = size) (hby : bytes ≤ 10000)
    (v : Value) (l : List α) (fp : List Nat) (hs : a.eval s = v) (how : (sl e c).ow w base [v] l fp) (hd : fp.Nodup) (b : Nat) (us us2 : List Value) (hx : a.eval x = .slice (some ⟨b, 0, none⟩) 2 2) (hu : At w b 0 (us ++ us2))
    (y : α) (f : List Nat) (hy : c.ow w base us y f) (hfd : f.Nodup) (hdis : ∀ b ∈ f, b ∉ fp) (y2 : α) (f2 : List Nat) (hy2 : c.ow w base us2 y2 f2) (hfd2 : f2.Nodup) (hdis2 : ∀ b ∈ f2, b ∉ fp) (h12 : ∀ b ∈ f, b ∉ f2) (hlen : l.length + 2 ≤ 1000000000) (hbase : base ≤ w.heap.size)
    (h : ∀ g cap w' fp', (sl e c).ow w' base [.slice (some ⟨g, 0, none⟩) (l.length + 2) cap] (l ++ [y, y2]) fp' → fp'.Nodup → (∀ b ∈ fp', b ∈ fp ∨ b ∈ f ∨ b ∈ f2 ∨ w.heap.size ≤ b) → Touch fp w w' →
      K (a.put o.dst (.slice (some ⟨g, 0, none⟩) (l.length + 2) cap)) w') : o.wp P a w K Q := by
  obtain ⟨i0, hi, hz0, hz1, hz2⟩ := info_parts hinfo
  have hlt : ∀ b ∈ fp, b < w.heap.size := fun b hb => ((sl e c).ow_lt how b hb).2
  obtain ⟨v', xss, fps, e1, hown, hE, hfp⟩ := how
  injection e1 with e1 _
  subst e1
  have hul : us.length = size := (c.len (c.ow_rd hy)).trans hn
  have hul2 : us2.length = size := (c.len (c.ow_rd hy2)).trans hn
  have hpos : 0 < size := by rw [← hn]; exact c.pos
  rw [hn] at hown
  refine wp_append_lies w s x t ho base e i0 z size bytes ht hi hz0 hz1 hz2 hzs hpos v l.length xss.flatten hs hown ⟨b, 0, none⟩ 2 2 (us ++ us2) hx (by rw [List.length_append]; omega) ?_ (fun u' hu' => ?_) (by decide) (by unfold maxLen; omega) ?_ hbase w.heap.size rfl ?_
  · intro j u' hj
    obtain ⟨hj1, hj2⟩ := List.getElem?_eq_some_iff.1 hj
    have ha : (⟨b, 0, none⟩ : Addr).add j = ⟨b, 0 + j, none⟩ := by unfold Addr.add; split <;> simp_all
    rw [ha, hu j hj1, hj2]
  · rcases List.mem_append.1 hu' with q | q
    · exact c.one (c.ow_rd hy) u' q
    · exact c.one (c.ow_rd hy2) u' q
  · calc (l.length + 2) * bytes ≤ 1000000000 * 10000 := Nat.mul_le_mul hlen hby
      _ ≤ 140737488355328 := by decide
  · intro g cap w' h2 h3 h4 h5
    have h2' : w'.ownsRow base e c.n (.slice (some ⟨g, 0, none⟩) (l.length + 2) cap) (l.length + 2) (xss.flatten ++ (us ++ us2)) := by rw [hn]; exact h2
    obtain ⟨fp', k1, k2, k3, k4⟩ := ow_appendedN2 hE hfp hd hlt hy hfd hdis hy2 hfd2 hdis2 h12 h2' h3 h4
    exact h g cap w' fp' k1 k2 k3 k4
theorem wpList_appendN2 {P : Program} {c : Cd α} {ops : Array Oper} {rest : List Oper} {o : Oper} {a : Act} {Q : Exit → Act → World → Prop} {w : World} (hgd : o.guard = none) (s x : Operand) (t : TypeId)
    (ho : o.op = .call { callee := .builtin .append, args := #[s, x], argTypes := #[t, t] })
    (base : Nat) (e : TypeId) (z : Value) (size bytes : Nat) (hn : c.n = size) (ht : P.underlying t = some (.slice e)) (hinfo : (P.info? e).map (fun i => (i.zero, i.size, i.bytes)) = some (some z, size, bytes)) (hzs : z.cells.size = size) (hby : bytes ≤ 10000)
    (v : Value) (l : List α) (fp : List Nat) (hs : a.eval s = v) (how : (sl e c).ow w base [v] l fp) (hd : fp.Nodup) (b : Nat) (us us2 : List Value) (hx : a.eval x = .slice (some ⟨b, 0, none⟩) 2 2) (hu : At w b 0 (us ++ us2))
    (y : α) (f : List Nat) (hy : c.ow w base us y f) (hfd : f.Nodup) (hdis : ∀ b ∈ f, b ∉ fp) (y2 : α) (f2 : List Nat) (hy2 : c.ow w base us2 y2 f2) (hfd2 : f2.Nodup) (hdis2 : ∀ b ∈ f2, b ∉ fp) (h12 : ∀ b ∈ f, b ∉ f2) (hlen : l.length + 2 ≤ 1000000000) (hbase : base ≤ w.heap.size)
    (h : ∀ g cap w' fp', (sl e c).ow w' base [.slice (some ⟨g, 0, none⟩) (l.length + 2) cap] (l ++ [y, y2]) fp' → fp'.Nodup → (∀ b ∈ fp', b ∈ fp ∨ b ∈ f ∨ b ∈ f2 ∨ w.heap.size ≤ b) → Touch fp w w' →
      wpList P ops Q rest (a.put o.dst (.slice (some ⟨g, 0, none⟩) (l.length + 2) cap)) w') : wpList P ops Q (o :: rest) a w :=
  wpList_plain hgd fun _ hK => wp_appendN2 s x t ho base e z size bytes hn ht hinfo hzs hby v l fp hs how hd b us us2 hx hu y f hy hfd hdis y2 f2 hy2 hfd2 hdis2 h12 hlen hbase fun g cap w' fp' h1 h2 h3 h4 => hK _ _ (h g cap w' fp' h1 h2 h3 h4)

/-- A slice from place j on. -/
theorem rd_drop {e : TypeId} {c : Cd α} {w : World} {S : Nat → Prop} {b off n cap cap' : Nat} {l : List α} (h : (sl e c).rd w S [.slice (some ⟨b, off, none⟩) n cap] l) {j : Nat} (hj : j < l.length) :
    (sl e c).rd w S [.slice (some ⟨b, off + j * c.n, none⟩) (l.length - j) cap'] (l.drop j) := by
  obtain ⟨ad, cap2, e1, hl, h⟩ := h
  injection e1 with e1 _
  injection e1 with e1 e2 e3
  subst e1
  rcases h with rfl | ⟨b', off', e4, hS, hb, hc⟩
  · simp at hj
  · injection e4 with e4
    injection e4 with e4 e5 _
    subst e4 e5
    refine ⟨_, cap', by rw [List.length_drop], by rw [List.length_drop]; omega, .inr ⟨b, off + j * c.n, rfl, hS, hb, fun t ht => ?_⟩⟩
    rw [List.length_drop] at ht
    obtain ⟨xs, h1, h2⟩ := hc (j + t) (by omega)
    refine ⟨xs, ?_, by rw [List.getElem_drop]; exact h2⟩
    have e6 : off + j * c.n + t * c.n = off + (j + t) * c.n := by rw [Nat.add_mul]; omega
    rw [e6]
    exact h1
end Cd
end Go.Proofs.YtdkhgeknjekkoaaGreat.Cd

namespace Go.Proofs.YtdkhgeknjekkoaaGreat.DbDraw
open Go Go.RowKit Byt Ints IntsLaw IntsWalk Draw LocDraw Cd Rows2 Tab TabDraw SlMath TabOpen TabElem SlTable Db TabSpec DbMath DbSpec DbExact DbAcc

theorem rd_new {α : Type} {cd : Cd α} {w : World} {base base' : Nat} {us : List Value} {a : α} {fp : List Nat} (h : cd.ow w base us a fp) (hb : base' ≤ base) : cd.rd w (fun b => base' ≤ b ∧ b < w.heap.size) us a :=
  cd.mono (cd.ow_rd h) fun _ _ hq => ⟨Nat.le_trans hb (cd.ow_lt h _ hq).1, (cd.ow_lt h _ hq).2⟩
/-- A store outside. -/
theorem rd_set {α : Type} {cd : Cd α} {w : World} {S : Nat → Prop} {us : List Value} {a : α} (h : cd.rd w S us a) {p : Addr} (hp : ¬ S p.block) (v : Value) : cd.rd (w.setCell p v) S us a :=
  cd.keep h fun _ hb _ => Below.heap_setCell w p v _ fun q => hp (q ▸ hb)

/-- A drawn database that may be none. -/
def AnyDb (w : World) (c : Nat) (v : Value) (l : List UInt8) (e : Ending) (w' : World) : Prop :=
  ∃ (u : Value) (Ts : List T3), e = .returned (.agg #[u]) ∧ tabsC.rd w' (fun b => w.heap.size < b ∧ b < w'.heap.size) [u] Ts ∧ Ts.length ≤ 7 ∧ (∀ T ∈ Ts, OkD T) ∧ Cur w' c v l ∧ w.grownBy w' (some c)
/-- In the drawing: the result's cell, the local one in block X, the cursor. -/
structure DaS (w : World) (c : Nat) (v : Value) (l : List UInt8) (X : Nat) (cur : List T3) (a : Option Addr) (k : Nat) (fp : List Nat) (W : World) : Prop where
  lx : Loc1 W X (.slice a cur.length k)
  lr : Loc1 W w.heap.size (.slice none 0 0)
  ow : tabsC.ow W (w.heap.size + 1) [.slice a cur.length k] cur fp
  nd : fp.Nodup
  ok : ∀ T ∈ cur, OkD T
  xf : X ∉ fp
  xb : w.heap.size < X
  cb : c < w.heap.size
  cu : Cur W c v l
  gr : w.grownBy W (some c)
theorem DaS.grown {w : World} {c : Nat} {v : Value} {l : List UInt8} {X : Nat} {cur : List T3} {a : Option Addr} {k : Nat} {fp : List Nat} {W W' : World} (h : DaS w c v l X cur a k fp W) (hg : W.grownBy W' (some c)) (hc : Cur W' c v l) : DaS w c v l X cur a k fp W' :=
  have h1 := h.cb
  have h2 := h.xb
  ⟨loc1_grown h.lx hg (by omega), loc1_grown h.lr hg (by omega), ow_grown h.ow hg (by omega), h.nd, h.ok, h.xf, h.xb, h.cb, hc, grown_trans h.gr hg⟩
theorem DaS.alloc {w : World} {c : Nat} {v : Value} {l : List UInt8} {X : Nat} {cur : List T3} {a : Option Addr} {k : Nat} {fp : List Nat} {W : World} (h : DaS w c v l X cur a k fp W) (o : Obj) : DaS w c v l X cur a k fp (W.alloc o) :=
  h.grown (World.grownBy_alloc W o (some c)) (cur_allocI o h.cu)
theorem DaS.drew {w : World} {c : Nat} {v : Value} {l : List UInt8} {X : Nat} {cur : List T3} {a : Option Addr} {k : Nat} {fp : List Nat} {W : World} (h : DaS w c v l X cur a k fp W) : DaS w c v l X cur a k fp W.drew :=
  ⟨h.lx.drew, h.lr.drew, tabsC.ow_keep h.ow fun _ _ => rfl, h.nd, h.ok, h.xf, h.xb, h.cb, h.cu, ⟨h.gr.os, h.gr.tape, h.gr.output, h.gr.size, h.gr.block⟩⟩
theorem DaS.sz {w : World} {c : Nat} {v : Value} {l : List UInt8} {X : Nat} {cur : List T3} {a : Option Addr} {k : Nat} {fp : List Nat} {W : World} (h : DaS w c v l X cur a k fp W) : X < W.heap.size := h.lx.lt
/-- The result is stored. -/
theorem DaS.done {w : World} {c : Nat} {v : Value} {l : List UInt8} {X : Nat} {cur : List T3} {a : Option Addr} {k : Nat} {fp : List Nat} {W : World} (h : DaS w c v l X cur a k fp W) (hl : cur.length ≤ 7) :
    AnyDb w c v l (.returned (.agg #[.slice a cur.length k])) (W.setCell ⟨w.heap.size, 0, none⟩ (.slice a cur.length k)) := by
  have h1 := h.cb
  have hr := rd_new h.ow (Nat.le_refl _)
  refine ⟨_, cur, rfl, ?_, hl, h.ok, cur_farI _ h.cu (by show c ≠ w.heap.size; omega), grown_newI _ h.gr (Nat.le_refl _)⟩
  have := rd_set (p := ⟨w.heap.size, 0, none⟩) hr (by show ¬ (w.heap.size + 1 ≤ w.heap.size ∧ _); omega) (.slice a cur.length k)
  exact tabsC.mono this fun b _ hb => ⟨by omega, by simpa using hb.2⟩
/-- The result is the list from place j on. -/
theorem DaS.doneCut {w : World} {c : Nat} {v : Value} {l : List UInt8} {X : Nat} {cur : List T3} {g : Nat} {k : Nat} {fp : List Nat} {W : World} (h : DaS w c v l X cur (some ⟨g, 0, none⟩) k fp W) (hl : cur.length ≤ 7) {j : Nat} (hj : j < cur.length) (k' : Nat) (x : Value) :
    AnyDb w c v l (.returned (.agg #[.slice (some ⟨g, j * 3, none⟩) (cur.length - j) k'])) ((W.setCell ⟨X, 0, none⟩ x).setCell ⟨w.heap.size, 0, none⟩ (.slice (some ⟨g, j * 3, none⟩) (cur.length - j) k')) := by
  have h1 := h.cb
  have h2 := h.xb
  have ho := ow_setCell (p := ⟨X, 0, none⟩) h.ow h.xf x
  have hr : tabsC.rd (W.setCell ⟨X, 0, none⟩ x) (fun b => w.heap.size + 1 ≤ b ∧ b < (W.setCell ⟨X, 0, none⟩ x).heap.size) [.slice (some ⟨g, 0 + j * tabC.n, none⟩) (cur.length - j) k'] (cur.drop j) := Cd.rd_drop (rd_new ho (Nat.le_refl _)) hj
  rw [show (0 + j * tabC.n) = j * 3 from by show 0 + j * 3 = j * 3; omega] at hr
  refine ⟨_, cur.drop j, rfl, ?_, by rw [List.length_drop]; omega, fun T hT => h.ok T (List.mem_of_mem_drop hT), cur_farI _ (cur_farI _ h.cu (by show c ≠ X; omega)) (by show c ≠ w.heap.size; omega), grown_newI _ (grown_newI _ h.gr (by show _ ≤ X; omega)) (Nat.le_refl _)⟩
  have := rd_set (p := ⟨w.heap.size, 0, none⟩) hr (by show ¬ (w.heap.size + 1 ≤ w.heap.size ∧ _); omega) (.slice (some ⟨g, j * 3, none⟩) (cur.length - j) k')
  exact tabsC.mono this fun b _ hb => ⟨by omega, by simpa using hb.2⟩
/-- A drawn table of its own cells, to be appended. -/
structure LaidA (base X : Nat) (W3 : World) (b : Nat) (us : List Value) (T : T3) (f fp : List Nat) : Prop where
  at_ : Cd.At W3 b 0 us
  ow : tabC.ow W3 base us T f
  nd : f.Nodup
  far : ∀ b ∈ f, b ∉ fp
  xf : X ∉ f
  sz : base ≤ W3.heap.size
  ok : OkD T
theorem DaS.laid {w : World} {c : Nat} {v : Value} {l : List UInt8} {X : Nat} {cur : List T3} {a : Option Addr} {k : Nat} {fp : List Nat} {W W2 : World} (h : DaS w c v l X cur a k fp W) (hg : W.grownBy W2 (some c)) (hc : Cur W2 c v l)
    {nm : ByteArray} {ar : Int} {y : Value} {rows : List (List Int)} {f : List Nat} (ho : rowsC.ow W2 W.heap.size [y] rows f) (hn : f.Nodup) (hok : OkD (nm, ar, rows)) (e : TypeId) :
    DaS w c v l X cur a k fp ((W2.alloc (.cells #[.string nm, .int .i64 ar, y] e (0, 0))).alloc (.cells #[.string nm, .int .i64 ar, y] e (0, 0))) ∧
    LaidA (w.heap.size + 1) X ((W2.alloc (.cells #[.string nm, .int .i64 ar, y] e (0, 0))).alloc (.cells #[.string nm, .int .i64 ar, y] e (0, 0))) (W2.heap.size + 1) [.string nm, .int .i64 ar, y] (nm, ar, rows) f fp := by
  have hbA := Tab.below_then (below_alloc W2 (.cells #[.string nm, .int .i64 ar, y] e (0, 0))) (below_alloc (W2.alloc (.cells #[.string nm, .int .i64 ar, y] e (0, 0))) (.cells #[.string nm, .int .i64 ar, y] e (0, 0)))
  have hA := ((h.grown hg hc).alloc (.cells #[.string nm, .int .i64 ar, y] e (0, 0))).alloc (.cells #[.string nm, .int .i64 ar, y] e (0, 0))
  have hX := h.sz
  have hxb := h.xb
  obtain ⟨k1, k2, k3⟩ := hok
  simp only at k1 k2 k3
  refine ⟨hA, ?_, tabC.ow_base (Cd.ow_later (tab_ow ho (by unfold maxLen; omega) (by omega)) hbA) (by omega), hn, fun b hb q => ?_, fun q => ?_, by have := hA.sz; omega, ⟨k1, k2, k3⟩⟩
  · exact at3 (by have := row_alloc (W2.alloc (.cells #[.string nm, .int .i64 ar, y] e (0, 0))) (.cells #[.string nm, .int .i64 ar, y] e (0, 0)); rw [size_alloc] at this; exact this)
  · have h1 := (rowsC.ow_lt ho b hb).1
    have h2 := ((Cd.sl _ tabC).ow_lt h.ow b q).2
    omega
  · have h1 := (rowsC.ow_lt ho _ q).1
    omega
theorem DaS.fcell {w : World} {c : Nat} {v : Value} {l : List UInt8} {X : Nat} {cur : List T3} {a : Option Addr} {k : Nat} {fp : List Nat} {W W4 : World} (h : DaS w c v l X cur a k fp W) (ht : Cd.Touch fp W W4) : W4.cell? ⟨X, 0, none⟩ = some (.slice a cur.length k) ∧ W4.frozen? ⟨X, 0, none⟩ = false :=
  ⟨(h.lx.touched ht h.xf).c0, (h.lx.touched ht h.xf).f0⟩
theorem DaS.app {w : World} {c : Nat} {v : Value} {l : List UInt8} {X : Nat} {cur cur' : List T3} {a : Option Addr} {k : Nat} {fp : List Nat} {W3 W4 : World} (h : DaS w c v l X cur a k fp W3) (hok : ∀ T ∈ cur', OkD T) {g cap n : Nat} (hn' : n = cur'.length) {fp4 : List Nat} (ht : Cd.Touch fp W3 W4)
    (ho : tabsC.ow W4 (w.heap.size + 1) [.slice (some ⟨g, 0, none⟩) n cap] cur' fp4) (hn : fp4.Nodup) (hx4 : X ∉ fp4) :
    DaS w c v l X cur' (some ⟨g, 0, none⟩) cap fp4 (W4.setCell ⟨X, 0, none⟩ (.slice (some ⟨g, 0, none⟩) n cap)) := by
  subst hn'
  have h1 := h.cb
  have h2 := h.xb
  have hfp : ∀ b, b < w.heap.size + 1 → b ∉ fp := fun b hb q => by have := ((Cd.sl _ tabC).ow_lt h.ow _ q).1; omega
  refine ⟨(h.lx.touched ht h.xf).set _, (h.lr.touched ht (hfp _ (by omega))).set_far (by show X ≠ _; omega) _, ow_setCell ho hx4 _, hn, hok, hx4, h2, h1, ?_, ?_⟩
  · obtain ⟨i, x, hi, hh⟩ := h.cu
    exact cur_farI _ ⟨i, x, hi, ht.row hh (hfp _ (by omega))⟩ (by show c ≠ X; omega)
  · refine grown_newI _ ?_ (by show _ ≤ X; omega)
    exact ⟨ht.os.trans h.gr.os, ht.tape.trans h.gr.tape, ht.output.trans h.gr.output, Nat.le_trans h.gr.size ht.size, fun j hj hne => (ht.block j (by have := h.gr.size; omega) (hfp _ (by omega))).trans (h.gr.block j hj hne)⟩
/-- A table is put at place t. -/
theorem DaS.put {w : World} {c : Nat} {v : Value} {l : List UInt8} {X : Nat} {cur : List T3} {g : Nat} {k : Nat} {fp : List Nat} {W : World} (h : DaS w c v l X cur (some ⟨g, 0, none⟩) k fp W) {nm : ByteArray} {ar : Int} {y : Value} {rows : List (List Int)} {f : List Nat}
    (ho : rowsC.ow W (w.heap.size + 1) [y] rows f) (hn : f.Nodup) (hfar : ∀ b ∈ f, b ∉ fp) (hxf : X ∉ f) (hok : OkD (nm, ar, rows)) {t : Nat} (ht : t < cur.length) :
    ∃ cur' fp', cur'.length = cur.length ∧ DaS w c v l X cur' (some ⟨g, 0, none⟩) k fp' (((W.setCell ⟨g, t * 3, none⟩ (.string nm)).setCell ⟨g, t * 3 + 1, none⟩ (.int .i64 ar)).setCell ⟨g, t * 3 + 2, none⟩ y) := by
  have h1 := h.cb
  have h2 := h.xb
  have hg : g ∈ fp := by
    obtain ⟨v', xss, fps, e1, _, _, rfl⟩ := h.ow
    injection e1 with e1 _
    subst e1
    exact List.mem_append_left _ (by simp [Value.ownBlock])
  have hgx := ((Cd.sl _ tabC).ow_lt h.ow _ hg).1
  have hgX : g ≠ X := fun q => h.xf (by rw [← q]; exact hg)
  obtain ⟨k1, k2, k3⟩ := hok
  simp only at k1 k2 k3
  obtain ⟨fp', ho', hn', hsub⟩ := Cd.ow_putN h.ow h.nd (tab_ow (nm := nm) (ar := ar) ho (by unfold maxLen; omega) (by omega)) hn hfar ht
  have e : (cur.set t (nm, ar, rows)).length = cur.length := by simp
  refine ⟨cur.set t (nm, ar, rows), fp', e, ?_, ((h.lr.set_far (by show g ≠ _; omega) _).set_far (by show g ≠ _; omega) _).set_far (by show g ≠ _; omega) _, ?_, hn', fun T hT => ?_, fun q => ?_, h2, h1, cur_farI _ (cur_farI _ (cur_farI _ h.cu (by show c ≠ g; omega)) (by show c ≠ g; omega)) (by show c ≠ g; omega), grown_newI _ (grown_newI _ (grown_newI _ h.gr (by show _ ≤ g; omega)) (by show _ ≤ g; omega)) (by show _ ≤ g; omega)⟩
  · rw [e]; exact ((h.lx.set_far hgX _).set_far hgX _).set_far hgX _
  · rw [e]; exact ho'
  · rcases List.mem_or_eq_of_mem_set hT with q | q
    · exact h.ok T q
    · rw [q]; exact ⟨k1, k2, k3⟩
  · rcases hsub X q with q | q
    · exact h.xf q
    · exact hxf q
end Go.Proofs.YtdkhgeknjekkoaaGreat.DbDraw

namespace Go.Proofs.YtdkhgeknjekkoaaGreat.DbDraw
open Go Go.RowKit Byt Ints IntsLaw IntsWalk Draw LocDraw Cd Rows2 Tab TabDraw SlMath TabOpen TabElem SlTable Db TabSpec DbMath DbSpec DbExact DbAcc

def nn3 : List ByteArray := [⟨#[97]⟩, ⟨#[119]⟩, ⟨#[122]⟩]
theorem nn3_ok : ∀ t : Fin 3, (nn3.getD t.val ⟨#[]⟩).size ≤ 2 := by decide
theorem ok_app {cur : List T3} {T : T3} (h : ∀ U ∈ cur, OkD U) (hT : OkD T) : ∀ U ∈ cur ++ [T], OkD U := fun U hU => by
  rcases List.mem_append.1 hU with q | q
  · exact h U q
  · rw [List.mem_singleton.1 q]; exact hT
theorem ok_app2 {cur : List T3} {T T2 : T3} (h : ∀ U ∈ cur, OkD U) (hT : OkD T) (hT2 : OkD T2) : ∀ U ∈ cur ++ [T, T2], OkD U := fun U hU => by
  rcases List.mem_append.1 hU with q | q
  · exact h U q
  · rcases List.mem_cons.1 q with q | q
    · rw [q]; exact hT
    · rw [List.mem_singleton.1 q]; exact hT2
/-- Two drawn tables, to be appended at once. -/
structure LaidB (base X : Nat) (W4 : World) (b : Nat) (us us2 : List Value) (T T2 : T3) (f f2 fp : List Nat) : Prop where
  at_ : Cd.At W4 b 0 (us ++ us2)
  ow : tabC.ow W4 base us T f
  nd : f.Nodup
  far : ∀ b ∈ f, b ∉ fp
  xf : X ∉ f
  ow2 : tabC.ow W4 base us2 T2 f2
  nd2 : f2.Nodup
  far2 : ∀ b ∈ f2, b ∉ fp
  xf2 : X ∉ f2
  dis : ∀ b ∈ f, b ∉ f2
  sz : base ≤ W4.heap.size
  ok : OkD T
  ok2 : OkD T2
theorem at6 {W : World} {b : Nat} {x0 x1 x2 x3 x4 x5 : Value} {e : TypeId} (h : W.heap[b]? = some (.cells #[x0, x1, x2, x3, x4, x5] e (0, 0))) : Cd.At W b 0 ([x0, x1, x2] ++ [x3, x4, x5]) := by
  intro j hj
  have : j = 0 ∨ j = 1 ∨ j = 2 ∨ j = 3 ∨ j = 4 ∨ j = 5 := by simp at hj; omega
  rcases this with rfl | rfl | rfl | rfl | rfl | rfl <;> simp [World.cell?, h]
theorem DaS.laid2 {w : World} {c : Nat} {v : Value} {l : List UInt8} {X : Nat} {cur : List T3} {a : Option Addr} {k : Nat} {fp : List Nat} {W w3 w4 : World} (h : DaS w c v l X cur a k fp W) (hg3 : W.grownBy w3 (some c)) (hc3 : Cur w3 c v l)
    {nm nm2 : ByteArray} {ar ar2 : Int} {y y2 : Value} {rows rows2 : List (List Int)} {f f2 : List Nat} (ho : rowsC.ow w3 W.heap.size [y] rows f) (hn : f.Nodup) (hok : OkD (nm, ar, rows)) (e e2 e3 : TypeId)
    (hg4 : (w3.alloc (.cells #[.string nm, .int .i64 ar, y] e (0, 0))).grownBy w4 (some c)) (hc4 : Cur w4 c v l) (ho2 : rowsC.ow w4 (w3.alloc (.cells #[.string nm, .int .i64 ar, y] e (0, 0))).heap.size [y2] rows2 f2) (hn2 : f2.Nodup) (hok2 : OkD (nm2, ar2, rows2)) :
    DaS w c v l X cur a k fp ((w4.alloc (.cells #[.string nm2, .int .i64 ar2, y2] e2 (0, 0))).alloc (.cells #[.string nm, .int .i64 ar, y, .string nm2, .int .i64 ar2, y2] e3 (0, 0))) ∧
    LaidB (w.heap.size + 1) X ((w4.alloc (.cells #[.string nm2, .int .i64 ar2, y2] e2 (0, 0))).alloc (.cells #[.string nm, .int .i64 ar, y, .string nm2, .int .i64 ar2, y2] e3 (0, 0))) (w4.heap.size + 1) [.string nm, .int .i64 ar, y] [.string nm2, .int .i64 ar2, y2] (nm, ar, rows) (nm2, ar2, rows2) f f2 fp := by
  have hbA := Tab.below_then (below_alloc w4 (.cells #[.string nm2, .int .i64 ar2, y2] e2 (0, 0))) (below_alloc (w4.alloc (.cells #[.string nm2, .int .i64 ar2, y2] e2 (0, 0))) (.cells #[.string nm, .int .i64 ar, y, .string nm2, .int .i64 ar2, y2] e3 (0, 0)))
  have h3 := (h.grown hg3 hc3).alloc (.cells #[.string nm, .int .i64 ar, y] e (0, 0))
  have h4 := h3.grown hg4 hc4
  have hA := (h4.alloc (.cells #[.string nm2, .int .i64 ar2, y2] e2 (0, 0))).alloc (.cells #[.string nm, .int .i64 ar, y, .string nm2, .int .i64 ar2, y2] e3 (0, 0))
  have hX := h.sz
  have hxb := h.xb
  have hcb := h.cb
  have hs3 : (w3.alloc (.cells #[.string nm, .int .i64 ar, y] e (0, 0))).heap.size = w3.heap.size + 1 := size_alloc _ _
  have hs30 := hg3.size
  obtain ⟨k1, k2, k3⟩ := hok
  obtain ⟨m1, m2, m3⟩ := hok2
  simp only at k1 k2 k3 m1 m2 m3
  have ho4 : rowsC.ow w4 W.heap.size [y] rows f := ow_grown (Cd.ow_later ho (below_alloc _ (.cells #[.string nm, .int .i64 ar, y] e (0, 0)))) hg4 (by omega)
  refine ⟨hA, at6 (by have := row_alloc (w4.alloc (.cells #[.string nm2, .int .i64 ar2, y2] e2 (0, 0))) (.cells #[.string nm, .int .i64 ar, y, .string nm2, .int .i64 ar2, y2] e3 (0, 0)); rw [size_alloc] at this; exact this),
    tabC.ow_base (Cd.ow_later (tab_ow ho4 (by unfold maxLen; omega) (by omega)) hbA) (by omega), hn, fun b hb q => ?_, fun q => ?_,
    tabC.ow_base (Cd.ow_later (tab_ow ho2 (by unfold maxLen; omega) (by omega)) hbA) (by omega), hn2, fun b hb q => ?_, fun q => ?_, fun b hb q => ?_, by have := hA.sz; omega, ⟨k1, k2, k3⟩, ⟨m1, m2, m3⟩⟩
  · have h1 := (rowsC.ow_lt ho b hb).1
    have h2 := ((Cd.sl _ tabC).ow_lt h.ow b q).2
    omega
  · have h1 := (rowsC.ow_lt ho _ q).1
    omega
  · have h1 := (rowsC.ow_lt ho2 b hb).1
    have h2 := ((Cd.sl _ tabC).ow_lt h.ow b q).2
    omega
  · have h1 := (rowsC.ow_lt ho2 _ q).1
    omega
  · have h1 := (rowsC.ow_lt ho b hb).2
    have h2 := (rowsC.ow_lt ho2 b q).1
    omega

theorem DaS.atPut {w : World} {c : Nat} {v : Value} {l : List UInt8} {X : Nat} {cur : List T3} {g : Nat} {k : Nat} {fp : List Nat} {W w7 : World} (h : DaS w c v l X cur (some ⟨g, 0, none⟩) k fp W) (hg : W.drew.grownBy w7 (some c)) (hc : Cur w7 c v l)
    {Y : Nat} {nm : ByteArray} {ar : Int} {y : Value} {rows : List (List Int)} {f : List Nat} (HY : Loc3 W Y (.string nm) (.int .i64 ar) y) (hYc : Y ≠ c)
    (ho : rowsC.ow W (w.heap.size + 1) [y] rows f) (hn : f.Nodup) (hfar : ∀ b ∈ f, b ∉ fp) (hxf : X ∉ f) (hok : OkD (nm, ar, rows)) {j : Nat} (hj : j < cur.length) :
    w7.cell? ⟨X, 0, none⟩ = some (.slice (some ⟨g, 0, none⟩) cur.length k) ∧ Loc3 w7 Y (.string nm) (.int .i64 ar) y ∧ (∃ u, w7.cell? ⟨g, j * 3, none⟩ = some u) ∧ (∃ u, w7.cell? ⟨g, j * 3 + 1, none⟩ = some u) ∧ (∃ u, w7.cell? ⟨g, j * 3 + 2, none⟩ = some u) ∧
    w7.frozen? ⟨g, j * 3, none⟩ = false ∧ w7.frozen? ⟨g, j * 3 + 1, none⟩ = false ∧ w7.frozen? ⟨g, j * 3 + 2, none⟩ = false ∧
    ∃ cur' fp', cur'.length = cur.length ∧ DaS w c v l X cur' (some ⟨g, 0, none⟩) k fp' (((w7.setCell ⟨g, j * 3, none⟩ (.string nm)).setCell ⟨g, j * 3 + 1, none⟩ (.int .i64 ar)).setCell ⟨g, j * 3 + 2, none⟩ y) := by
  have h7 := h.drew.grown hg hc
  have hcb := h.cb
  obtain ⟨us7, f7, hl7, hat7, _⟩ := Cd.ow_elem h7.ow hj
  have hl3 : us7.length = 3 := hl7
  have h30 : w7.cell? ⟨g, j * 3, none⟩ = some (us7[0]'(by omega)) := hat7 0 (by omega)
  have h31 : w7.cell? ⟨g, j * 3 + 1, none⟩ = some (us7[1]'(by omega)) := hat7 1 (by omega)
  have h32 : w7.cell? ⟨g, j * 3 + 2, none⟩ = some (us7[2]'(by omega)) := hat7 2 (by omega)
  exact ⟨h7.lx.c0, loc_grown (Exact.loc_drew HY) hg hYc, ⟨_, h30⟩, ⟨_, h31⟩, ⟨_, h32⟩, Cd.ow_frozen h7.ow (j * 3), Cd.ow_frozen h7.ow (j * 3 + 1), Cd.ow_frozen h7.ow (j * 3 + 2),
    h7.put (ow_grown (w := W.drew) (rowsC.ow_keep (w' := W.drew) ho (fun _ _ => rfl)) hg (by omega)) hn hfar hxf hok hj⟩

set_option maxRecDepth 100000 in
set_option maxHeartbeats 6400000 in
theorem dbany_any (c : Nat) (v : Value) (l : List UInt8) (B : Nat) (w : World) (hc : Cur w c v l) (hr : Reads w v l B) (hB : B ≤ c) :
    Calls Tryz.prog 85 #[.pointer (some ⟨c, 0, none⟩)] w (AnyDb w c v l) := by
  have hcs := cur_size hc
  have HR := Lib.hid (fun w' (hg : w.grownBy w' (some c)) => hr.later (below_of hg hB hcs))
  have HC := Lib.hid hc
  clear hc hr
  go_enter Tryz.func85, Tryz.ntmps85
  go_wp2_with fail
  generalize hW : w.alloc _ = W0
  obtain ⟨r0, hz, hb0⟩ := start1 w _ hW
  clear hW
  have HX0 := Lib.hid (Loc1.of r0)
  have hg0 := grown_below hb0 (some c)
  have HG0 := Lib.hid hg0
  refine (db_any c v l B W0 (cur_below HC.out hb0 hcs) (HR.out _ hg0) hB).mono ?_
  rintro e w1 ⟨u, Ts, fp, rfl, how, hnd, hlen, hok, hc1, hg1⟩
  obtain ⟨g, k1, rfl, hgb, hgs, hgf⟩ := Cd.ow_form how (by omega)
  have HS := Lib.hid (show DaS w c v l w1.heap.size Ts (some ⟨g, 0, none⟩) k1 fp (w1.alloc (.cells #[.slice (some ⟨g, 0, none⟩) Ts.length k1] 26 (0, 0))) from
    ⟨Loc1.of (row_alloc _ _), (loc1_grown HX0.out hg1 (by omega)).later (below_alloc _ _), Cd.ow_later ((Cd.sl _ tabC).ow_base how (by omega)) (below_alloc _ _), hnd, hok, (fun q => by have := ((Cd.sl _ tabC).ow_lt how _ q).2; omega), by have := hg1.size; omega, hcs, cur_allocI _ hc1, grown_allocI _ (grown_trans HG0.out hg1)⟩)
  have HLEN := Lib.hid hlen
  clear r0 hz hb0 hg0 how hnd hlen hok hc1 hg1 HX0 HG0 hgb hgs hgf
  go_wp2_with fail
  generalize w1.alloc _ = W1 at *
  generalize w1.heap.size = X at *
  have HB1 := Lib.hid (below_any 10 c v l B W1 HS.out.cu (HR.out W1 HS.out.gr) hB)
  refine HB1.out.mono ?_
  rintro e w2 ⟨x, rfl, hx0, hx10, hc2, hg2⟩
  have HS2 := Lib.hid (HS.out.grown hg2 hc2)
  clear hx0 hx10 hc2 hg2 HS HB1
  have HLL := Lib.hid (show Ts.length + 1 ≤ 1000000000 by have := HLEN.out; omega)
  have HLL2 := Lib.hid (show Ts.length + 2 ≤ 1000000000 by have := HLEN.out; omega)
  by_cases x0 : x = 0
  · subst x0
    have HA := Lib.hid (tabany_any c v l B w2 HS2.out.cu (HR.out w2 HS2.out.gr) hB)
    go_wp2_with fail
    refine HA.out.mono ?_
    rintro e w3 ⟨nm, ar, y, rows, f, rfl, hnm, har, ho, hnf, hwt, hc3, hg3⟩
    obtain ⟨a3, c3, rfl⟩ := Cd.ow_slice ho
    go_upto_region 5 with fail
    generalize hW3 : w3.alloc _ = W3
    obtain ⟨s0, sz, sb⟩ := start1 w3 _ hW3
    have HY := Lib.hid (Loc3.of s0)
    have HS3 := Lib.hid (show DaS w c v l X Ts (some ⟨g, 0, none⟩) k1 fp W3 from (HS2.out.grown hg3 hc3).grown (grown_below sb (some c)) (cur_below hc3 sb (cur_size hc3)))
    have HO3 := Lib.hid (Cd.ow_later (rowsC.ow_base ho (show w.heap.size + 1 ≤ w2.heap.size by have := HS2.out.sz; have := HS2.out.xb; omega)) sb)
    have HFF := Lib.hid (show ∀ b ∈ f, b ∉ fp from fun b hb q => by have h1 := (rowsC.ow_lt ho b hb).1; have h2 := ((Cd.sl _ tabC).ow_lt HS2.out.ow b q).2; omega)
    have HXF := Lib.hid (show X ∉ f from fun q => by have h1 := (rowsC.ow_lt ho _ q).1; have h2 := HS2.out.sz; omega)
    have HNF := Lib.hid hnf
    have HOK := Lib.hid (show OkD (nm, ar, rows) from ⟨hnm, har, by show rowsWt rows ≤ 32; omega⟩)
    have HYC := Lib.hid (show w3.heap.size ≠ c by have := HS2.out.cb; have := hg3.size; have := HS2.out.sz; have := HS2.out.xb; omega)
    have hYg : g ≠ w3.heap.size := by
      have h1 := HS2.out.ow
      obtain ⟨g', k', e1, _, h2, _⟩ := Cd.ow_form h1 (by have := HLEN.out; omega)
      injection e1 with e1
      injection e1 with e1
      injection e1 with e1
      subst e1
      have := hg3.size
      omega
    have hXg : g ≠ X := by
      obtain ⟨g', k', e1, _, _, h3⟩ := Cd.ow_form HS2.out.ow (by have := HLEN.out; omega)
      injection e1 with e1
      injection e1 with e1
      injection e1 with e1
      subst e1
      exact fun q => HS2.out.xf (q ▸ h3)
    have HG7 := Lib.hid (And.intro hYg hXg)
    clear hW3 s0 sz sb ho hnf hwt hc3 hg3 hnm har HA HS2 hYg hXg
    have HB := Lib.hid (below_any 5 c v l B W3.drew HS3.out.drew.cu (HR.out _ HS3.out.drew.gr) hB)
    have z0 := HS3.out.lx.c0
    obtain ⟨y0, y1, y2, _, _, _⟩ := HY.out
    go_region_law (first | (go_simp; go_at_call 87; refine HB.out.mono ?_; rintro e w7 ⟨x, rfl, hx0, hx1, hc7, hg7⟩; obtain ⟨j, rfl⟩ := Int.eq_ofNat_of_zero_le hx0; (have hjl : j < Ts.length := by have := hx1 (by decide); have := HLEN.out; omega); (have p1 : (0 : Int) ≤ (j : Int) := by omega); (have p2 : (j : Int) < (Ts.length : Int) := by omega); (have h7 := HS3.out.atPut hg7 hc7 HY.out HYC.out HO3.out HNF.out HFF.out HXF.out HOK.out hjl); obtain ⟨v0, HY7, ⟨u0, h30⟩, ⟨u1, h31⟩, ⟨u2, h32⟩, g30, g31, g32, hn7⟩ := h7; (have HN := Lib.hid hn7); obtain ⟨v1, v2, v3, _, _, _⟩ := HY7; clear hx0 hx1 hc7 hg7 hn7))
    all_goals
      obtain ⟨cur', fp', hl', hs'⟩ := HN.out
      have m0 := hs'.lx.c0
      have m1 := hs'.lr.c0
      have m2 := hs'.lr.f0
      have HS' := Lib.hid hs'
      have HL' := Lib.hid hl'
      clear hs' hl' HN
      go_wp2_with fail
      have k0 := World.cell?_setCell_same _ _ (.slice (some ⟨g, 0, none⟩) cur'.length k1) m1
      refine bodyPost_ret (v := .agg #[.slice (some ⟨g, 0, none⟩) cur'.length k1]) (by simp [results, Tryz.results85, go_sem, k0]) rfl (HS'.out.done (by have := HL'.out; have := HLEN.out; omega))
  have tt0 : (x == 0) = false := by rw [beq_eq_false_iff_ne]; exact x0
  by_cases x1 : x = 1
  · subst x1
    clear x0
    have hal := HS2.out.alloc (.cells (nn3.map fun z => Value.string z).toArray 9)
    have HP := Lib.hid (pickS_any nn3 w2.heap.size (by decide) (by decide) c v l B _ hal.cu (HR.out _ hal.gr) hB (by have := (cur_size HS2.out.cu); omega) (list_cellsS nn3 w2 9))
    have HAL := Lib.hid hal
    clear hal
    go_wp2_with fail
    refine HP.out.mono ?_
    rintro e w3 ⟨t, ht, rfl, hc3, hg3⟩
    have hnm := nn3_ok ⟨t, ht⟩
    simp only at hnm
    generalize nn3.getD t ⟨#[]⟩ = nm at *
    have HS3 := Lib.hid (HAL.out.grown hg3 hc3)
    have HT := Lib.hid (show Calls Tryz.prog 124 #[.pointer (some ⟨c, 0, none⟩), .string nm, .int .i64 2, .int .i64 4, .int .i64 3] w3 (TabGen 4 w3 c v l nm 2) from tab_gen 4 3 (by decide) (by decide) nm 2 (by decide) c v l B w3 HS3.out.cu (HR.out w3 HS3.out.gr) hB)
    clear hc3 hg3 HP HAL
    go_wp2_with fail
    refine HT.out.mono ?_
    rintro e w5 ⟨y, rows, f, rfl, how, hnf, hwt, hc5, hg5⟩
    obtain ⟨a5, cap5, rfl⟩ := Cd.ow_slice how
    obtain ⟨hL, hD⟩ := HS3.out.laid hg5 hc5 how hnf (nm := nm) (ar := 2) ⟨hnm, by show (-1 : Int) ≤ 2 ∧ (2 : Int) ≤ 4; decide, by show rowsWt rows ≤ 32; omega⟩ 44
    have q1 := (HS3.out.grown hg5 hc5).lx.c0
    have q2 : X < w5.heap.size := (HS3.out.grown hg5 hc5).sz
    have HL := Lib.hid hL
    have HD := Lib.hid hD
    clear hL hD how hnf hwt hc5 hg5 HT HS3 HS2
    go_wp2_with (at_builtin; refine Cd.wpList_appendN (c := tabC) rfl (.tmp 30) (.tmp 32) 24 rfl (w.heap.size + 1) 44 (.agg #[.string ⟨#[]⟩, .int .i64 0, .slice none 0 0]) 3 48 rfl Tryz.underlying24 info_x rfl (by decide) _ Ts fp rfl HL.out.ow HL.out.nd (w5.heap.size + 1) _ rfl HD.out.at_ (nm, 2, rows) f HD.out.ow HD.out.nd HD.out.far HLL.out HD.out.sz ?_)
    intro g4 cap4 w6 fp6 ho6 hn6 hs6 ht6
    obtain ⟨e0, e1⟩ := HL.out.fcell ht6
    have HA := Lib.hid (HL.out.app (cur' := Ts ++ [(nm, 2, rows)]) (ok_app HL.out.ok HD.out.ok) (by simp) ht6 ho6 hn6 (fun q => by
      rcases hs6 X q with q | q | q
      · exact HL.out.xf q
      · exact HD.out.xf q
      · have := HL.out.sz; omega))
    have m1 := HA.out.lr.c0
    have m2 := HA.out.lr.f0
    have HLA := Lib.hid (show (Ts ++ [(nm, 2, rows)]).length = Ts.length + 1 by simp)
    clear ho6 hn6 hs6 ht6
    go_wp2_with fail
    have k0 := World.cell?_setCell_same _ _ (.slice (some ⟨g4, 0, none⟩) (Ts.length + 1) cap4) m1
    have hd := HA.out.done (by have := HLA.out; have := HLEN.out; omega)
    rw [HLA.out] at hd
    refine bodyPost_ret (v := .agg #[.slice (some ⟨g4, 0, none⟩) (Ts.length + 1) cap4]) (by simp [results, Tryz.results85, go_sem, k0]) rfl hd
  have tt1 : (x == 1) = false := by rw [beq_eq_false_iff_ne]; exact x1
  by_cases x2 : x = 2
  · subst x2
    clear x0 x1
    go_upto_region 10 with fail
    have HB := Lib.hid (below_any 5 c v l B w2.drew HS2.out.drew.cu (HR.out _ HS2.out.drew.gr) hB)
    have z0 := HS2.out.lx.c0
    have p5 : Ts.length ≤ k1 := by
      obtain ⟨v', xss, fps, e1, hown, _, _⟩ := HS2.out.ow
      injection e1 with e1 _
      subst e1
      rcases hown.2 with ⟨e1, _⟩ | ⟨g', cap', cur', e1, _, _, _, _, _, _⟩
      · cases e1
      · injection e1 with _ e2 e3
        omega
    have p4 : (Ts.length : Int) ≤ (k1 : Int) := by omega
    go_region_law (first | (go_simp; go_at_call 87; refine HB.out.mono ?_; rintro e w7 ⟨x, rfl, hx0, hx1, hc7, hg7⟩; obtain ⟨j, rfl⟩ := Int.eq_ofNat_of_zero_le hx0; (have hjl : j < Ts.length := by have := hx1 (by decide); have := HLEN.out; omega); (have p1 : (0 : Int) ≤ (j : Int) := by omega); (have p2 : (j : Int) ≤ (Ts.length : Int) := by omega); (have p6 : ¬ k1 = j := by omega); (have HS7 := Lib.hid (HS2.out.drew.grown hg7 hc7)); (have HJL := Lib.hid hjl); (have v0 := HS7.out.lx.c0); (have v1 := HS7.out.lx.f0); clear hx0 hx1 hc7 hg7 hjl))
    all_goals
      have m1 : (w7.setCell ⟨X, 0, none⟩ (.slice (some ⟨g, j * 3, none⟩) (Ts.length - j) (k1 - j))).cell? ⟨w.heap.size, 0, none⟩ = some (.slice none 0 0) := (HS7.out.lr.set_far (by have := HS7.out.xb; show X ≠ _; omega) _).c0
      have m2 : w7.frozen? ⟨w.heap.size, 0, none⟩ = false := HS7.out.lr.f0
      go_wp2_with fail
      have k0 := World.cell?_setCell_same _ _ (.slice (some ⟨g, j * 3, none⟩) (Ts.length - j) (k1 - j)) m1
      refine bodyPost_ret (v := .agg #[.slice (some ⟨g, j * 3, none⟩) (Ts.length - j) (k1 - j)]) (by simp [results, Tryz.results85, go_sem, k0]) rfl (HS7.out.doneCut (by have := HLEN.out; omega) HJL.out _ _)
  have tt2 : (x == 2) = false := by rw [beq_eq_false_iff_ne]; exact x2
  by_cases x3 : x = 3
  · subst x3
    clear x0 x1 x2
    have HT := Lib.hid (show Calls Tryz.prog 124 #[.pointer (some ⟨c, 0, none⟩), .string ⟨#[119]⟩, .int .i64 1, .int .i64 2, .int .i64 3] w2 (TabGen 2 w2 c v l ⟨#[119]⟩ 1) from tab_gen 2 3 (by decide) (by decide) ⟨#[119]⟩ 1 (by decide) c v l B w2 HS2.out.cu (HR.out w2 HS2.out.gr) hB)
    go_wp2_with fail
    refine HT.out.mono ?_
    rintro e w3 ⟨y, rows, f, rfl, how, hnf, hwt, hc3, hg3⟩
    obtain ⟨a3, cap3, rfl⟩ := Cd.ow_slice how
    have hs3 := (HS2.out.grown hg3 hc3).alloc (.cells #[.string ⟨#[119]⟩, .int .i64 1, .slice a3 rows.length cap3] 44 (0, 0))
    have HT2 := Lib.hid (show Calls Tryz.prog 124 #[.pointer (some ⟨c, 0, none⟩), .string ⟨#[120]⟩, .int .i64 1, .int .i64 2, .int .i64 3] (w3.alloc (.cells #[.string ⟨#[119]⟩, .int .i64 1, .slice a3 rows.length cap3] 44 (0, 0))) (TabGen 2 (w3.alloc (.cells #[.string ⟨#[119]⟩, .int .i64 1, .slice a3 rows.length cap3] 44 (0, 0))) c v l ⟨#[120]⟩ 1) from tab_gen 2 3 (by decide) (by decide) ⟨#[120]⟩ 1 (by decide) c v l B _ hs3.cu (HR.out _ hs3.gr) hB)
    have HH3 := Lib.hid (And.intro how (And.intro hnf (And.intro hwt (And.intro hc3 hg3))))
    have HY := Lib.hid (Loc3.of (row_alloc w3 (.cells #[.string ⟨#[119]⟩, .int .i64 1, .slice a3 rows.length cap3] 44 (0, 0))))
    have HYC := Lib.hid (show w3.heap.size ≠ c by have := HS2.out.cb; have := hg3.size; have := HS2.out.sz; have := HS2.out.xb; omega)
    clear how hnf hwt hc3 hg3 hs3 HT
    go_wp2_with fail
    refine HT2.out.mono ?_
    rintro e w4 ⟨y2, rows2, f2, rfl, how2, hnf2, hwt2, hc4, hg4⟩
    obtain ⟨a4, cap4, rfl⟩ := Cd.ow_slice how2
    obtain ⟨hL, hD⟩ := HS2.out.laid2 HH3.out.2.2.2.2 HH3.out.2.2.2.1 HH3.out.1 HH3.out.2.1 (nm := ⟨#[119]⟩) (ar := 1) ⟨by show (⟨#[119]⟩ : ByteArray).size ≤ 2; decide, by show (-1 : Int) ≤ 1 ∧ (1 : Int) ≤ 4; decide, by show rowsWt rows ≤ 32; have := HH3.out.2.2.1; omega⟩ 44 44 44 hg4 hc4 how2 hnf2 (nm2 := ⟨#[120]⟩) (ar2 := 1) ⟨by show (⟨#[120]⟩ : ByteArray).size ≤ 2; decide, by show (-1 : Int) ≤ 1 ∧ (1 : Int) ≤ 4; decide, by show rowsWt rows2 ≤ 32; omega⟩
    obtain ⟨q3, q4, q5, _, _, _⟩ := loc_grown HY.out hg4 HYC.out
    have q6 := HY.out.lt
    have hs4 := ((HS2.out.grown HH3.out.2.2.2.2 HH3.out.2.2.2.1).alloc (.cells #[.string ⟨#[119]⟩, .int .i64 1, .slice a3 rows.length cap3] 44 (0, 0))).grown hg4 hc4
    have q1 := hs4.lx.c0
    have q2 : X < w4.heap.size := hs4.sz
    have q7 : w3.heap.size < w4.heap.size := Nat.lt_of_lt_of_le HY.out.lt hg4.size
    have HL := Lib.hid hL
    have HD := Lib.hid hD
    clear hL hD how2 hnf2 hwt2 hc4 hg4 hs4 HT2 HS2 HH3 HY
    go_wp2_with (at_builtin; refine Cd.wpList_appendN2 (c := tabC) rfl (.tmp 50) (.tmp 53) 24 rfl (w.heap.size + 1) 44 (.agg #[.string ⟨#[]⟩, .int .i64 0, .slice none 0 0]) 3 48 rfl Tryz.underlying24 info_x rfl (by decide) _ Ts fp rfl HL.out.ow HL.out.nd (w4.heap.size + 1) _ _ rfl HD.out.at_ (⟨#[119]⟩, 1, rows) f HD.out.ow HD.out.nd HD.out.far (⟨#[120]⟩, 1, rows2) f2 HD.out.ow2 HD.out.nd2 HD.out.far2 HD.out.dis HLL2.out HD.out.sz ?_)
    intro g5 cap5 w6 fp6 ho6 hn6 hs6 ht6
    obtain ⟨e0, e1⟩ := HL.out.fcell ht6
    have HA := Lib.hid (HL.out.app (cur' := Ts ++ [((⟨#[119]⟩, 1, rows) : T3), ((⟨#[120]⟩, 1, rows2) : T3)]) (ok_app2 HL.out.ok HD.out.ok HD.out.ok2) (by simp) ht6 ho6 hn6 (fun q => by
      rcases hs6 X q with q | q | q | q
      · exact HL.out.xf q
      · exact HD.out.xf q
      · exact HD.out.xf2 q
      · have := HL.out.sz; omega))
    have m1 := HA.out.lr.c0
    have m2 := HA.out.lr.f0
    have HLA := Lib.hid (show (Ts ++ [((⟨#[119]⟩, 1, rows) : T3), (⟨#[120]⟩, 1, rows2)]).length = Ts.length + 2 by simp)
    clear ho6 hn6 hs6 ht6
    go_wp2_with fail
    have k0 := World.cell?_setCell_same _ _ (.slice (some ⟨g5, 0, none⟩) (Ts.length + 2) cap5) m1
    have hd := HA.out.done (by have := HLA.out; have := HLEN.out; omega)
    rw [HLA.out] at hd
    refine bodyPost_ret (v := .agg #[.slice (some ⟨g5, 0, none⟩) (Ts.length + 2) cap5]) (by simp [results, Tryz.results85, go_sem, k0]) rfl hd
  have tt3 : (x == 3) = false := by rw [beq_eq_false_iff_ne]; exact x3
  clear x0 x1 x2 x3
  have m0 := HS2.out.lx.c0
  have m1 := HS2.out.lr.c0
  have m2 := HS2.out.lr.f0
  go_wp2_with fail
  have k0 := World.cell?_setCell_same _ _ (.slice (some ⟨g, 0, none⟩) Ts.length k1) m1
  refine bodyPost_ret (v := .agg #[.slice (some ⟨g, 0, none⟩) Ts.length k1]) (by simp [results, Tryz.results85, go_sem, k0]) rfl (HS2.out.done (by have := HLEN.out; omega))
end Go.Proofs.YtdkhgeknjekkoaaGreat.DbDraw
