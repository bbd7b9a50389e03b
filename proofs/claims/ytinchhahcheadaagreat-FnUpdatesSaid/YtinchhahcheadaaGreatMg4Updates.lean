/- Texts that the proof rests on, one behind the other. -/
import Derived.Test.YtinchhahcheadaaGreatMg3Updates
import Derived.Test.YtinchhahcheadaaGreatUpd
import Derived.Test.YtinchhahcheadaaGreatMg1Updates
import Derived.Deep.DeepCutAuto
import Derived.Deep.RegionHeld3

namespace Go.Proofs.YtinchhahcheadaaGreat.TabSpec
open Go Go.RowKit Byt Ints IntsLaw IntsWalk Draw LocDraw Cd Rows2 Tab TabDraw

/-- In the drawing of a table and a row: the result's cells, the cursor behind them, the local table in block X. -/
structure Sb (w : World) (c : Nat) (v : Value) (l : List UInt8) (X : Nat) (nm : ByteArray) (ar : Int) (u : Value) (rows : List (List Int)) (fp : List Nat) (W : World) : Prop where
  how : rowsC.ow W (c + 1) [u] rows fp
  lx : Loc3 W X (.string nm) (.int .i64 ar) u
  lr : Loc3 W w.heap.size (.string ⟨#[]⟩) (.int .i64 0) (.slice none 0 0)
  xb : c < X
  cb : w.heap.size < c
  cu : Cur W c v l
  bl : Below w.heap.size w W
theorem Sb.alloc {w : World} {c : Nat} {v : Value} {l : List UInt8} {X : Nat} {nm : ByteArray} {ar : Int} {u : Value} {rows : List (List Int)} {fp : List Nat} {W : World} (h : Sb w c v l X nm ar u rows fp W) (o : Obj) : Sb w c v l X nm ar u rows fp (W.alloc o) :=
  ⟨Cd.ow_later h.how (below_alloc W o), h.lx.later (below_alloc W o), h.lr.later (below_alloc W o), h.xb, h.cb, cur_allocI o h.cu, Tab.below_then h.bl (below_alloc W o)⟩
theorem Sb.drew {w : World} {c : Nat} {v : Value} {l : List UInt8} {X : Nat} {nm : ByteArray} {ar : Int} {u : Value} {rows : List (List Int)} {fp : List Nat} {W : World} (h : Sb w c v l X nm ar u rows fp W) : Sb w c v l X nm ar u rows fp W.drew :=
  ⟨rowsC.ow_keep h.how fun _ _ => rfl, h.lx.keep rfl, h.lr.keep rfl, h.xb, h.cb, h.cu, Below.drew h.bl⟩
theorem Sb.grown {w : World} {c : Nat} {v : Value} {l : List UInt8} {X : Nat} {nm : ByteArray} {ar : Int} {u : Value} {rows : List (List Int)} {fp : List Nat} {W W' : World} (h : Sb w c v l X nm ar u rows fp W) (hg : W.grownBy W' (some c)) (hc : Cur W' c v l) : Sb w c v l X nm ar u rows fp W' :=
  have h1 := h.cb
  have h2 := h.xb
  ⟨ow_grown h.how hg (by omega), loc_grown h.lx hg (by omega), loc_grown h.lr hg (by omega), h.xb, h.cb, hc, h.bl.trans (below_of hg (by omega) (cur_size h.cu))⟩

theorem Sb.cell {w : World} {c : Nat} {v : Value} {l : List UInt8} {X : Nat} {nm : ByteArray} {ar : Int} {b off cap : Nat} {rows : List (List Int)} {fp : List Nat} {W : World} (h : Sb w c v l X nm ar (.slice (some ⟨b, off, none⟩) rows.length cap) rows fp W) {j : Nat} (hj : j < rows.length) :
    ∃ u, W.cell? ⟨b, off + j, none⟩ = some u ∧ rowC.rd W (· < W.heap.size) [u] rows[j] := by
  obtain ⟨b', off', cap', u, e1, hb, hc, hu⟩ := rows_at (Cd.reads h.how) hj
  injection e1 with e1 e2 e3
  injection e1 with e1
  injection e1 with e4 e5 e6
  subst e4 e5
  exact ⟨u, hc, hu⟩
theorem Sb.touched {w : World} {c : Nat} {v : Value} {l : List UInt8} {X : Nat} {nm : ByteArray} {ar : Int} {u : Value} {rows : List (List Int)} {fp : List Nat} {W W' : World} {L : Nat} (h : Sb w c v l X nm ar u rows fp W) (ht : Cd.Touch [L] W W') (hL : L ∉ fp ∧ X < L) : Sb w c v l X nm ar u rows fp W' := by
  have h1 := h.cb
  have h2 := h.xb
  obtain ⟨h3, h4⟩ := hL
  refine ⟨Cd.ow_touched h.how ht (fun b hb q => h3 (by rw [List.mem_singleton.1 q] at hb; exact hb)), h.lx.touched ht (by simp; omega), h.lr.touched ht (by simp; omega), h.xb, h.cb, ?_, ?_⟩
  · obtain ⟨i, x, hi, hh⟩ := h.cu
    exact ⟨i, x, hi, ht.row hh (by simp; omega)⟩
  · exact Cd.Touch.below h.bl ht (fun b hb => by rw [List.mem_singleton.1 hb]; omega)
theorem Sb.fresh {w : World} {c : Nat} {v : Value} {l : List UInt8} {X : Nat} {nm : ByteArray} {ar : Int} {u : Value} {rows : List (List Int)} {fp : List Nat} {W : World} (h : Sb w c v l X nm ar u rows fp W) : W.heap.size ∉ fp ∧ X < W.heap.size :=
  ⟨fun q => Nat.lt_irrefl _ (rowsC.ow_lt h.how _ q).2, h.lx.lt⟩
theorem Sb.base {w : World} {c : Nat} {v : Value} {l : List UInt8} {X : Nat} {nm : ByteArray} {ar : Int} {u : Value} {rows : List (List Int)} {fp : List Nat} {W : World} (h : Sb w c v l X nm ar u rows fp W) : c + 1 ≤ W.heap.size := by
  have := h.lx.lt
  have := h.xb
  omega

theorem reads_new {α : Type} {c : Cd α} {w : World} {base B : Nat} {us : List Value} {a : α} {fp : List Nat} (h : c.ow w base us a fp) (hb : B ≤ base) : c.rd w (fun b => B ≤ b ∧ b < w.heap.size) us a :=
  c.mono (c.ow_rd h) fun b _ hq => ⟨Nat.le_trans hb (c.ow_lt h b hq).1, (c.ow_lt h b hq).2⟩
/-- A drawn table and a drawn row. -/
def BothAns (w : World) (e : Ending) (w' : World) : Prop :=
  ∃ (nm : ByteArray) (ar : Int) (u v : Value) (rows : List (List Int)) (row : List Int), e = .returned (.tuple #[.agg #[.string nm, .int .i64 ar, u], v]) ∧ nm.size ≤ 2 ∧ (-1 ≤ ar ∧ ar ≤ 4) ∧ rowsC.rd w' (fun b => w.heap.size ≤ b ∧ b < w'.heap.size) [u] rows ∧ rowsWt rows ≤ 28 ∧ rowC.rd w' (fun b => w.heap.size ≤ b ∧ b < w'.heap.size) [v] row ∧ row.length ≤ 28 ∧ Below w.heap.size w w'
theorem Sb.done {w : World} {c : Nat} {v : Value} {l : List UInt8} {X : Nat} {nm : ByteArray} {ar : Int} {u : Value} {rows : List (List Int)} {fp : List Nat} {W : World} (h : Sb w c v l X nm ar u rows fp W) (hnm : nm.size ≤ 2) (har : -1 ≤ ar ∧ ar ≤ 4) (hwt : rowsWt rows ≤ 28) {v' : Value} {row : List Int} {f : List Nat} (hv : rowC.ow W (c + 1) [v'] row f) (hvl : row.length ≤ 28) (x y z : Value) :
    BothAns w (.returned (.tuple #[.agg #[.string nm, .int .i64 ar, u], v'])) (((W.setCell ⟨w.heap.size, 0, none⟩ x).setCell ⟨w.heap.size, 1, none⟩ y).setCell ⟨w.heap.size, 2, none⟩ z) := by
  have h1 := h.cb
  have hn : w.heap.size ∉ fp := fun q => by have h1 := (rowsC.ow_lt h.how _ q).1; omega
  have hn2 : w.heap.size ∉ f := fun q => by have h1 := (rowC.ow_lt hv _ q).1; omega
  exact ⟨nm, ar, u, v', rows, row, rfl, hnm, har, reads_new (ow_setCell (ow_setCell (ow_setCell h.how hn _) hn _) hn _) (by omega), hwt, reads_new (ow_setCell (ow_setCell (ow_setCell hv hn2 _) hn2 _) hn2 _) (by omega), hvl,
    ((h.bl.setCell (Nat.le_refl _) _).setCell (Nat.le_refl _) _).setCell (Nat.le_refl _) _⟩

/-- The same, behind the result's store too. -/
structure S4 (w : World) (c : Nat) (v : Value) (l : List UInt8) (X : Nat) (nm : ByteArray) (ar : Int) (u : Value) (rows : List (List Int)) (fp : List Nat) (W : World) : Prop where
  how : rowsC.ow W (c + 1) [u] rows fp
  lx : Loc3 W X (.string nm) (.int .i64 ar) u
  lr : ∃ p q r, Loc3 W w.heap.size p q r
  xb : c < X
  cb : w.heap.size < c
  cu : Cur W c v l
  bl : Below w.heap.size w W
theorem S4.of {w : World} {c : Nat} {v : Value} {l : List UInt8} {X : Nat} {nm : ByteArray} {ar : Int} {u : Value} {rows : List (List Int)} {fp : List Nat} {W : World} (h : Sb w c v l X nm ar u rows fp W) : S4 w c v l X nm ar u rows fp W := ⟨h.how, h.lx, ⟨_, _, _, h.lr⟩, h.xb, h.cb, h.cu, h.bl⟩
theorem S4.alloc {w : World} {c : Nat} {v : Value} {l : List UInt8} {X : Nat} {nm : ByteArray} {ar : Int} {u : Value} {rows : List (List Int)} {fp : List Nat} {W : World} (h : S4 w c v l X nm ar u rows fp W) (o : Obj) : S4 w c v l X nm ar u rows fp (W.alloc o) :=
  have ⟨_, _, _, hl⟩ := h.lr
  ⟨Cd.ow_later h.how (below_alloc W o), h.lx.later (below_alloc W o), ⟨_, _, _, hl.later (below_alloc W o)⟩, h.xb, h.cb, cur_allocI o h.cu, Tab.below_then h.bl (below_alloc W o)⟩
theorem S4.drew {w : World} {c : Nat} {v : Value} {l : List UInt8} {X : Nat} {nm : ByteArray} {ar : Int} {u : Value} {rows : List (List Int)} {fp : List Nat} {W : World} (h : S4 w c v l X nm ar u rows fp W) : S4 w c v l X nm ar u rows fp W.drew :=
  have ⟨_, _, _, hl⟩ := h.lr
  ⟨rowsC.ow_keep h.how fun _ _ => rfl, h.lx.keep rfl, ⟨_, _, _, hl.keep rfl⟩, h.xb, h.cb, h.cu, Below.drew h.bl⟩
theorem S4.grown {w : World} {c : Nat} {v : Value} {l : List UInt8} {X : Nat} {nm : ByteArray} {ar : Int} {u : Value} {rows : List (List Int)} {fp : List Nat} {W W' : World} (h : S4 w c v l X nm ar u rows fp W) (hg : W.grownBy W' (some c)) (hc : Cur W' c v l) : S4 w c v l X nm ar u rows fp W' :=
  have h1 := h.cb
  have h2 := h.xb
  have ⟨_, _, _, hl⟩ := h.lr
  ⟨ow_grown h.how hg (by omega), loc_grown h.lx hg (by omega), ⟨_, _, _, loc_grown hl hg (by omega)⟩, h.xb, h.cb, hc, h.bl.trans (below_of hg (by omega) (cur_size h.cu))⟩
theorem S4.fresh {w : World} {c : Nat} {v : Value} {l : List UInt8} {X : Nat} {nm : ByteArray} {ar : Int} {u : Value} {rows : List (List Int)} {fp : List Nat} {W : World} (h : S4 w c v l X nm ar u rows fp W) : W.heap.size ∉ fp ∧ X < W.heap.size :=
  ⟨fun q => Nat.lt_irrefl _ (rowsC.ow_lt h.how _ q).2, h.lx.lt⟩
theorem S4.base {w : World} {c : Nat} {v : Value} {l : List UInt8} {X : Nat} {nm : ByteArray} {ar : Int} {u : Value} {rows : List (List Int)} {fp : List Nat} {W : World} (h : S4 w c v l X nm ar u rows fp W) : c + 1 ≤ W.heap.size := by
  have := h.lx.lt
  have := h.xb
  omega
theorem S4.touched {w : World} {c : Nat} {v : Value} {l : List UInt8} {X : Nat} {nm : ByteArray} {ar : Int} {u : Value} {rows : List (List Int)} {fp : List Nat} {W W' : World} {L : Nat} (h : S4 w c v l X nm ar u rows fp W) (ht : Cd.Touch [L] W W') (hL : L ∉ fp ∧ X < L) : S4 w c v l X nm ar u rows fp W' := by
  have h1 := h.cb
  have h2 := h.xb
  obtain ⟨h3, h4⟩ := hL
  obtain ⟨_, _, _, hl⟩ := h.lr
  refine ⟨Cd.ow_touched h.how ht (fun b hb q => h3 (by rw [List.mem_singleton.1 q] at hb; exact hb)), h.lx.touched ht (by simp; omega), ⟨_, _, _, hl.touched ht (by simp; omega)⟩, h.xb, h.cb, ?_, ?_⟩
  · obtain ⟨i, x, hi, hh⟩ := h.cu
    exact ⟨i, x, hi, ht.row hh (by simp; omega)⟩
  · exact Cd.Touch.below h.bl ht (fun b hb => by rw [List.mem_singleton.1 hb]; omega)
theorem S4.cell {w : World} {c : Nat} {v : Value} {l : List UInt8} {X : Nat} {nm : ByteArray} {ar : Int} {b off cap : Nat} {rows : List (List Int)} {fp : List Nat} {W : World} (h : S4 w c v l X nm ar (.slice (some ⟨b, off, none⟩) rows.length cap) rows fp W) {j : Nat} (hj : j < rows.length) :
    ∃ u, W.cell? ⟨b, off + j, none⟩ = some u ∧ rowC.rd W (· < W.heap.size) [u] rows[j] := by
  obtain ⟨b', off', cap', u, e1, hb, hc, hu⟩ := rows_at (Cd.reads h.how) hj
  injection e1 with e1 e2 e3
  injection e1 with e1
  injection e1 with e4 e5 e6
  subst e4 e5
  exact ⟨u, hc, hu⟩
theorem S4.store {w : World} {c : Nat} {v : Value} {l : List UInt8} {X : Nat} {nm : ByteArray} {ar : Int} {u : Value} {rows : List (List Int)} {fp : List Nat} {W : World} (h : S4 w c v l X nm ar u rows fp W) (x y z : Value) :
    S4 w c v l X nm ar u rows fp (((W.setCell ⟨w.heap.size, 0, none⟩ x).setCell ⟨w.heap.size, 1, none⟩ y).setCell ⟨w.heap.size, 2, none⟩ z) := by
  have h1 := h.cb
  have h2 := h.xb
  obtain ⟨p, q, r, hl⟩ := h.lr
  have hn : w.heap.size ∉ fp := fun q => by have h1 := (rowsC.ow_lt h.how _ q).1; omega
  have hne : c ≠ w.heap.size := by omega
  have hx : X ≠ w.heap.size := by omega
  obtain ⟨c0, c1, c2, f0, f1, f2⟩ := hl
  obtain ⟨k0, k1, k2⟩ := set3 (w := W) (k := w.heap.size) (x := x) (y := y) (z := z) c0 c1 c2
  exact ⟨ow_setCell (ow_setCell (ow_setCell h.how hn _) hn _) hn _, Loc3.set_far (Loc3.set_far (Loc3.set_far h.lx hx.symm _) hx.symm _) hx.symm _, ⟨_, _, _, k0, k1, k2, by simpa using f0, by simpa using f1, by simpa using f2⟩, h.xb, h.cb,
    cur_farI _ (cur_farI _ (cur_farI _ h.cu hne) hne) hne, ((h.bl.setCell (Nat.le_refl _) _).setCell (Nat.le_refl _) _).setCell (Nat.le_refl _) _⟩
theorem S4.all {w : World} {c : Nat} {v : Value} {l : List UInt8} {X : Nat} {nm : ByteArray} {ar : Int} {u : Value} {rows : List (List Int)} {fp : List Nat} {W : World} (h : S4 w c v l X nm ar u rows fp W) : W.cell? ⟨X, 0, none⟩ = some (.string nm) ∧ W.cell? ⟨X, 1, none⟩ = some (.int .i64 ar) ∧ W.cell? ⟨X, 2, none⟩ = some u ∧ S4 w c v l X nm ar u rows fp W :=
  ⟨h.lx.c0, h.lx.c1, h.lx.c2, h⟩
theorem S4.done {w : World} {c : Nat} {v : Value} {l : List UInt8} {X : Nat} {nm : ByteArray} {ar : Int} {u : Value} {rows : List (List Int)} {fp : List Nat} {W : World} (h : S4 w c v l X nm ar u rows fp W) (hnm : nm.size ≤ 2) (har : -1 ≤ ar ∧ ar ≤ 4) (hwt : rowsWt rows ≤ 28) {v' : Value} {row : List Int} {f : List Nat} (hv : rowC.ow W (c + 1) [v'] row f) (hvl : row.length ≤ 28) (x y z : Value) :
    BothAns w (.returned (.tuple #[.agg #[.string nm, .int .i64 ar, u], v'])) (((W.setCell ⟨w.heap.size, 0, none⟩ x).setCell ⟨w.heap.size, 1, none⟩ y).setCell ⟨w.heap.size, 2, none⟩ z) := by
  have h1 := h.cb
  have hn : w.heap.size ∉ fp := fun q => by have h1 := (rowsC.ow_lt h.how _ q).1; omega
  have hn2 : w.heap.size ∉ f := fun q => by have h1 := (rowC.ow_lt hv _ q).1; omega
  exact ⟨nm, ar, u, v', rows, row, rfl, hnm, har, reads_new (ow_setCell (ow_setCell (ow_setCell h.how hn _) hn _) hn _) (by omega), hwt, reads_new (ow_setCell (ow_setCell (ow_setCell hv hn2 _) hn2 _) hn2 _) (by omega), hvl,
    ((h.bl.setCell (Nat.le_refl _) _).setCell (Nat.le_refl _) _).setCell (Nat.le_refl _) _⟩
/-- An empty slice of the call's own. -/
structure Emp (c X : Nat) (fp : List Nat) (L : Nat) (W : World) : Prop where
  how : rowC.ow W (c + 1) [.slice (some ⟨L, 0, none⟩) 0 0] [] [L]
  far : L ∉ fp ∧ X < L
theorem S4.emp {w : World} {c : Nat} {v : Value} {l : List UInt8} {X : Nat} {nm : ByteArray} {ar : Int} {u : Value} {rows : List (List Int)} {fp : List Nat} {W : World} (h : S4 w c v l X nm ar u rows fp W) : Emp c X fp W.heap.size (W.alloc (.cells #[] 3)) :=
  ⟨Cd.ow_empty W _ h.base, h.fresh⟩
theorem Emp.grown {c X : Nat} {fp : List Nat} {L : Nat} {W W' : World} (h : Emp c X fp L W) (hg : W.grownBy W' (some c)) : Emp c X fp L W' := ⟨ow_grown h.how hg (Nat.lt_succ_self c), h.far⟩
theorem S4.emp_grown {w : World} {c : Nat} {v : Value} {l : List UInt8} {X : Nat} {nm : ByteArray} {ar : Int} {u : Value} {rows : List (List Int)} {fp : List Nat} {W W' : World} (h : S4 w c v l X nm ar u rows fp W) (hg : (W.alloc (.cells #[] 3)).grownBy W' (some c)) : Emp c X fp W.heap.size W' := h.emp.grown hg
theorem S4.emp_grown' {w : World} {c : Nat} {v : Value} {l : List UInt8} {X : Nat} {nm : ByteArray} {ar : Int} {u : Value} {rows : List (List Int)} {fp : List Nat} {W W' : World} (h : S4 w c v l X nm ar u rows fp W.drew) (hg : (W.drew.alloc (.cells #[] 3)).grownBy W' (some c)) : Emp c X fp W.heap.size W' := h.emp.grown hg

/-- The same, and block bb holds what it held. -/
structure S5 (w : World) (c : Nat) (v : Value) (l : List UInt8) (X : Nat) (nm : ByteArray) (ar : Int) (u : Value) (rows : List (List Int)) (fp : List Nat) (bb oo : Nat) (U : Nat → Value) (W : World) : Prop where
  st : S4 w c v l X nm ar u rows fp W
  mem : bb ∈ fp
  el : ∀ j, j < rows.length → W.cell? ⟨bb, oo + j, none⟩ = some (U j)
theorem S5.keep {w : World} {c : Nat} {v : Value} {l : List UInt8} {X : Nat} {nm : ByteArray} {ar : Int} {u : Value} {rows : List (List Int)} {fp : List Nat} {bb oo : Nat} {U : Nat → Value} {W W' : World} (h : S5 w c v l X nm ar u rows fp bb oo U W) (h' : S4 w c v l X nm ar u rows fp W') (e : W'.heap[bb]? = W.heap[bb]?) : S5 w c v l X nm ar u rows fp bb oo U W' :=
  ⟨h', h.mem, fun j hj => by
    have := h.el j hj
    unfold World.cell? at *
    rw [e]
    exact this⟩
theorem S5.alloc {w : World} {c : Nat} {v : Value} {l : List UInt8} {X : Nat} {nm : ByteArray} {ar : Int} {u : Value} {rows : List (List Int)} {fp : List Nat} {bb oo : Nat} {U : Nat → Value} {W : World} (h : S5 w c v l X nm ar u rows fp bb oo U W) (o : Obj) : S5 w c v l X nm ar u rows fp bb oo U (W.alloc o) :=
  h.keep (h.st.alloc o) ((below_alloc W o).block bb (rowsC.ow_lt h.st.how bb h.mem).2)
theorem S5.grown {w : World} {c : Nat} {v : Value} {l : List UInt8} {X : Nat} {nm : ByteArray} {ar : Int} {u : Value} {rows : List (List Int)} {fp : List Nat} {bb oo : Nat} {U : Nat → Value} {W W' : World} (h : S5 w c v l X nm ar u rows fp bb oo U W) (hg : W.grownBy W' (some c)) (hc : Cur W' c v l) : S5 w c v l X nm ar u rows fp bb oo U W' :=
  h.keep (h.st.grown hg hc) (hg.block bb (rowsC.ow_lt h.st.how bb h.mem).2 (by intro q; injection q with q; have := (rowsC.ow_lt h.st.how bb h.mem).1; omega))
theorem S5.touched {w : World} {c : Nat} {v : Value} {l : List UInt8} {X : Nat} {nm : ByteArray} {ar : Int} {u : Value} {rows : List (List Int)} {fp : List Nat} {bb oo : Nat} {U : Nat → Value} {W W' : World} {L : Nat} (h : S5 w c v l X nm ar u rows fp bb oo U W) (ht : Cd.Touch [L] W W') (hL : L ∉ fp ∧ X < L) : S5 w c v l X nm ar u rows fp bb oo U W' :=
  h.keep (h.st.touched ht hL) (ht.block bb (rowsC.ow_lt h.st.how bb h.mem).2 (by rw [List.mem_singleton]; intro q; exact hL.1 (q ▸ h.mem)))
theorem S5.store {w : World} {c : Nat} {v : Value} {l : List UInt8} {X : Nat} {nm : ByteArray} {ar : Int} {u : Value} {rows : List (List Int)} {fp : List Nat} {bb oo : Nat} {U : Nat → Value} {W : World} (h : S5 w c v l X nm ar u rows fp bb oo U W) (x y z : Value) :
    S5 w c v l X nm ar u rows fp bb oo U (((W.setCell ⟨w.heap.size, 0, none⟩ x).setCell ⟨w.heap.size, 1, none⟩ y).setCell ⟨w.heap.size, 2, none⟩ z) := by
  have hb : bb ≠ w.heap.size := by have := (rowsC.ow_lt h.st.how bb h.mem).1; have := h.st.cb; omega
  refine h.keep (h.st.store x y z) ?_
  rw [Below.heap_setCell _ _ _ _ (by exact hb), Below.heap_setCell _ _ _ _ (by exact hb), Below.heap_setCell _ _ _ _ (by exact hb)]
theorem S5.all {w : World} {c : Nat} {v : Value} {l : List UInt8} {X : Nat} {nm : ByteArray} {ar : Int} {u : Value} {rows : List (List Int)} {fp : List Nat} {bb oo : Nat} {U : Nat → Value} {W : World} (h : S5 w c v l X nm ar u rows fp bb oo U W) : W.cell? ⟨X, 0, none⟩ = some (.string nm) ∧ W.cell? ⟨X, 1, none⟩ = some (.int .i64 ar) ∧ W.cell? ⟨X, 2, none⟩ = some u ∧ (∀ j, j < rows.length → W.cell? ⟨bb, oo + j, none⟩ = some (U j)) ∧ S5 w c v l X nm ar u rows fp bb oo U W :=
  ⟨h.st.lx.c0, h.st.lx.c1, h.st.lx.c2, h.el, h⟩
theorem minmax (ar : Int) : ∃ n : Nat, n ≤ 3 ∧ (n : Int) = (if 0 < (if ar < 3 then ar else 3) then (if ar < 3 then ar else 3) else 0) :=
  ⟨(if 0 < (if ar < 3 then ar else 3) then (if ar < 3 then ar else 3) else 0).toNat, by split <;> split at * <;> omega, by split <;> split at * <;> omega⟩

end Go.Proofs.YtinchhahcheadaaGreat.TabSpec

namespace Go.Proofs.YtinchhahcheadaaGreat.UpdDraw
open Go Go.RowKit Byt Ints IntsLaw IntsWalk Draw LocDraw Cd Rows2 Tab TabDraw SlMath TabOpen TabElem SlTable Db TabSpec DbMath DbSpec DbExact DbAcc DbDraw Upd

/-- A drawn update. -/
def UpAns (w : World) (c : Nat) (v : Value) (l : List UInt8) (e : Ending) (w' : World) : Prop :=
  ∃ (nm : ByteArray) (b : Bool) (y : Value) (row : List Int) (f : List Nat), e = .returned (.agg #[.string nm, .bool b, y]) ∧ rowC.ow w' w.heap.size [y] row f ∧ f.Nodup ∧ nm.size ≤ 2 ∧ row.length ≤ 40 ∧ Cur w' c v l ∧ w.grownBy w' (some c)
/-- What the drawing of an update asks of the tables. -/
def UpOk (Ts : List T3) : Prop := Ts.length ≤ 7 ∧ ∀ T ∈ Ts, T.1.size ≤ 2 ∧ rowsWt T.2.2 ≤ 40
abbrev OldS (w : World) (c : Nat) : Nat → Prop := fun b => c + 1 ≤ b ∧ b < w.heap.size
/-- In the drawing: the database's box, the result's cells, the cursor. -/
structure U0 (w : World) (c : Nat) (v : Value) (l : List UInt8) (u : Value) (W : World) : Prop where
  lx : Loc1 W w.heap.size u
  lr : Loc3 W (w.heap.size + 1) (.string ⟨#[]⟩) (.bool false) (.slice none 0 0)
  cb : c < w.heap.size
  cu : Cur W c v l
  gr : w.grownBy W (some c)
section
variable {w : World} {c : Nat} {v : Value} {l : List UInt8} {u : Value} {W W' : World}
theorem U0.grown (h : U0 w c v l u W) (hg : W.grownBy W' (some c)) (hc : Cur W' c v l) : U0 w c v l u W' :=
  have h1 := h.cb
  ⟨loc1_grown h.lx hg (by omega), loc_grown h.lr hg (by omega), h1, hc, grown_trans h.gr hg⟩
theorem U0.alloc (h : U0 w c v l u W) (o : Obj) : U0 w c v l u (W.alloc o) := h.grown (World.grownBy_alloc W o (some c)) (cur_allocI o h.cu)
theorem U0.drew (h : U0 w c v l u W) : U0 w c v l u W.drew :=
  ⟨h.lx.drew, h.lr.keep rfl, h.cb, h.cu, ⟨h.gr.os, h.gr.tape, h.gr.output, h.gr.size, h.gr.block⟩⟩
theorem U0.set (h : U0 w c v l u W) {p : Addr} (hp : w.heap.size + 2 ≤ p.block) (x : Value) : U0 w c v l u (W.setCell p x) :=
  have h1 := h.cb
  ⟨h.lx.set_far (by omega) _, h.lr.set_far (by omega) _, h1, cur_farI _ h.cu (by omega), grown_newI _ h.gr (by omega)⟩
theorem U0.old (h : U0 w c v l u W) {b o : Nat} (h1 : c + 1 ≤ b) (h2 : b < w.heap.size) : W.cell? ⟨b, o, none⟩ = w.cell? ⟨b, o, none⟩ := by
  have := h.gr.block b h2 (by intro q; injection q with q; omega)
  unfold World.cell?
  rw [this]
theorem U0.rd {α : Type} {cd : Cd α} {us : List Value} {a : α} (h : U0 w c v l u W) (hr : cd.rd w (OldS w c) us a) : cd.rd W (OldS w c) us a :=
  cd.keep hr fun b hb hlt => h.gr.block b hlt (by intro q; injection q with q; have := hb.1; omega)
theorem U0.sz (h : U0 w c v l u W) : w.heap.size + 2 ≤ W.heap.size := h.lr.lt
theorem U0.touched (h : U0 w c v l u W) {f : List Nat} (ht : Cd.Touch f W W') (hf : ∀ b ∈ f, w.heap.size + 2 ≤ b) : U0 w c v l u W' := by
  have h1 := h.cb
  have hn : ∀ b, b < w.heap.size + 2 → b ∉ f := fun b hb q => by have := hf b q; omega
  obtain ⟨i, x, hi, hh⟩ := h.cu
  exact ⟨h.lx.touched ht (hn _ (by omega)), h.lr.touched ht (hn _ (by omega)), h1, ⟨i, x, hi, ht.row hh (hn _ (by omega))⟩,
    ⟨ht.os.trans h.gr.os, ht.tape.trans h.gr.tape, ht.output.trans h.gr.output, Nat.le_trans h.gr.size ht.size, fun j hj hne => (ht.block j (by have := h.gr.size; omega) (hn _ (by omega))).trans (h.gr.block j hj hne)⟩⟩
/-- The update under way in block q, its row beside. -/
structure U2 (w : World) (c : Nat) (v : Value) (l : List UInt8) (u : Value) (q : Nat) (nm : ByteArray) (b : Bool) (y : Value) (row : List Int) (f : List Nat) (W : World) : Prop where
  st : U0 w c v l u W
  lq : Loc3 W q (.string nm) (.bool b) y
  ow : rowC.ow W (w.heap.size + 2) [y] row f
  nd : f.Nodup
  qb : w.heap.size + 2 ≤ q
  qf : q ∉ f
  nb : nm.size ≤ 2
  rb : row.length ≤ 40
variable {q : Nat} {nm : ByteArray} {b : Bool} {y : Value} {row : List Int} {f : List Nat}
theorem U2.grown (h : U2 w c v l u q nm b y row f W) (hg : W.grownBy W' (some c)) (hc : Cur W' c v l) : U2 w c v l u q nm b y row f W' :=
  have h1 := h.st.cb
  have h2 := h.qb
  ⟨h.st.grown hg hc, loc_grown h.lq hg (by omega), ow_grown h.ow hg (by omega), h.nd, h2, h.qf, h.nb, h.rb⟩
theorem U2.alloc (h : U2 w c v l u q nm b y row f W) (o : Obj) : U2 w c v l u q nm b y row f (W.alloc o) := h.grown (World.grownBy_alloc W o (some c)) (cur_allocI o h.st.cu)
theorem U2.setN (h : U2 w c v l u q nm b y row f W) {nm' : ByteArray} (hn : nm'.size ≤ 2) : U2 w c v l u q nm' b y row f (W.setCell ⟨q, 0, none⟩ (.string nm')) := by
  obtain ⟨c0, c1, c2, f0, f1, f2⟩ := h.lq
  have o1 : (⟨q, 0, none⟩ : Addr) ≠ ⟨q, 1, none⟩ := by simp
  have o2 : (⟨q, 0, none⟩ : Addr) ≠ ⟨q, 2, none⟩ := by simp
  exact ⟨h.st.set h.qb _, ⟨World.cell?_setCell_same _ _ _ c0, (World.cell?_setCell_other _ _ _ _ o1).trans c1, (World.cell?_setCell_other _ _ _ _ o2).trans c2, by simpa using f0, by simpa using f1, by simpa using f2⟩, ow_setCell h.ow h.qf _, h.nd, h.qb, h.qf, hn, h.rb⟩
theorem U2.setB (h : U2 w c v l u q nm b y row f W) (b' : Bool) : U2 w c v l u q nm b' y row f (W.setCell ⟨q, 1, none⟩ (.bool b')) := by
  obtain ⟨c0, c1, c2, f0, f1, f2⟩ := h.lq
  have o1 : (⟨q, 1, none⟩ : Addr) ≠ ⟨q, 0, none⟩ := by simp
  have o2 : (⟨q, 1, none⟩ : Addr) ≠ ⟨q, 2, none⟩ := by simp
  exact ⟨h.st.set h.qb _, ⟨(World.cell?_setCell_other _ _ _ _ o1).trans c0, World.cell?_setCell_same _ _ _ c1, (World.cell?_setCell_other _ _ _ _ o2).trans c2, by simpa using f0, by simpa using f1, by simpa using f2⟩, ow_setCell h.ow h.qf _, h.nd, h.qb, h.qf, h.nb, h.rb⟩
theorem U2.setR (h : U2 w c v l u q nm b y row f W) {y' : Value} {row' : List Int} {f' : List Nat} (ho : rowC.ow W (w.heap.size + 2) [y'] row' f') (hn : f'.Nodup) (hq : q ∉ f') (hr : row'.length ≤ 40) : U2 w c v l u q nm b y' row' f' (W.setCell ⟨q, 2, none⟩ y') := by
  obtain ⟨c0, c1, c2, f0, f1, f2⟩ := h.lq
  have o1 : (⟨q, 2, none⟩ : Addr) ≠ ⟨q, 0, none⟩ := by simp
  have o2 : (⟨q, 2, none⟩ : Addr) ≠ ⟨q, 1, none⟩ := by simp
  exact ⟨h.st.set h.qb _, ⟨(World.cell?_setCell_other _ _ _ _ o1).trans c0, (World.cell?_setCell_other _ _ _ _ o2).trans c1, World.cell?_setCell_same _ _ _ c2, by simpa using f0, by simpa using f1, by simpa using f2⟩, ow_setCell ho hq _, hn, h.qb, hq, h.nb, hr⟩
/-- The result is stored. -/
theorem U2.done (h : U2 w c v l u q nm b y row f W) : UpAns w c v l (.returned (.agg #[.string nm, .bool b, y])) (((W.setCell ⟨w.heap.size + 1, 0, none⟩ (.string nm)).setCell ⟨w.heap.size + 1, 1, none⟩ (.bool b)).setCell ⟨w.heap.size + 1, 2, none⟩ y) := by
  have h1 := h.st.cb
  have hf : w.heap.size + 1 ∉ f := fun q => by have := (rowC.ow_lt h.ow _ q).1; omega
  have hc : c ≠ w.heap.size + 1 := by omega
  have hs : w.heap.size ≤ w.heap.size + 1 := by omega
  exact ⟨nm, b, y, row, f, rfl, ow_setCell (ow_setCell (ow_setCell (rowC.ow_base h.ow (by omega)) hf _) hf _) hf _, h.nd, h.nb, h.rb, cur_farI _ (cur_farI _ (cur_farI _ h.st.cu hc) hc) hc, grown_newI _ (grown_newI _ (grown_newI _ h.st.gr hs) hs) hs⟩
/-- The chosen table beside, in block p. -/
structure U1 (w : World) (c : Nat) (v : Value) (l : List UInt8) (u : Value) (p : Nat) (T : T3) (z : Value) (W : World) : Prop where
  st : U0 w c v l u W
  lp : Loc3 W p (.string T.1) (.int .i64 T.2.1) z
  rt : rowsC.rd w (OldS w c) [z] T.2.2
  pb : w.heap.size + 2 ≤ p
variable {p : Nat} {T : T3} {z : Value}
theorem U1.grown (h : U1 w c v l u p T z W) (hg : W.grownBy W' (some c)) (hc : Cur W' c v l) : U1 w c v l u p T z W' :=
  have h1 := h.st.cb
  have h2 := h.pb
  ⟨h.st.grown hg hc, loc_grown h.lp hg (by omega), h.rt, h2⟩
theorem U1.alloc (h : U1 w c v l u p T z W) (o : Obj) : U1 w c v l u p T z (W.alloc o) := h.grown (World.grownBy_alloc W o (some c)) (cur_allocI o h.st.cu)
theorem U1.drew (h : U1 w c v l u p T z W) : U1 w c v l u p T z W.drew := ⟨h.st.drew, h.lp.keep rfl, h.rt, h.pb⟩
theorem U1.set (h : U1 w c v l u p T z W) {a : Addr} (ha : w.heap.size + 2 ≤ a.block) (hp : a.block ≠ p) (x : Value) : U1 w c v l u p T z (W.setCell a x) := ⟨h.st.set ha x, h.lp.set_far hp _, h.rt, h.pb⟩
end
end Go.Proofs.YtinchhahcheadaaGreat.UpdDraw

namespace Go.Proofs.YtinchhahcheadaaGreat.UpdDraw
open Go Go.RowKit Byt Ints IntsLaw IntsWalk Draw LocDraw Cd Rows2 Tab TabDraw SlMath TabOpen TabElem SlTable Db TabSpec DbMath DbSpec DbExact DbAcc DbDraw Upd

def ww3 : List ByteArray := [⟨#[]⟩, ⟨#[119]⟩, ⟨#[114]⟩]
theorem ww3_ok : ∀ t : Fin 3, (ww3.getD t.val ⟨#[]⟩).size ≤ 2 := by decide
theorem U1.touched {w : World} {c : Nat} {v : Value} {l : List UInt8} {u : Value} {W W' : World} {p : Nat} {T : T3} {z : Value} {L : Nat} (h : U1 w c v l u p T z W) (ht : Cd.Touch [L] W W') (h1 : w.heap.size + 2 ≤ L) (h2 : L ≠ p) : U1 w c v l u p T z W' :=
  ⟨h.st.touched ht (fun b hb => by rw [List.mem_singleton.1 hb]; exact h1), h.lp.touched ht (by simp; exact fun q => h2 q.symm), h.rt, h.pb⟩
theorem rows_atS {w : World} {S : Nat → Prop} {v : Value} {l : List (List Int)} (h : rowsC.rd w S [v] l) {k : Nat} (hk : k < l.length) :
    ∃ b off cap u, v = .slice (some ⟨b, off, none⟩) l.length cap ∧ S b ∧ w.cell? ⟨b, off + k, none⟩ = some u ∧ rowC.rd w S [u] l[k] := by
  obtain ⟨ad, cap, e, _, hc⟩ := h
  injection e with e _
  subst e
  rcases hc with rfl | ⟨b, off, rfl, hS, hb, hc⟩
  · simp at hk
  obtain ⟨xs, h1, h2⟩ := hc k hk
  have hl := rowC.len h2
  match xs, hl with
  | [u], _ =>
    refine ⟨b, off, cap, u, rfl, hS, ?_, h2⟩
    have := h1 0 (by simp)
    simpa [rowC, Cd.sl] using this
theorem len3 {us : List Value} (h : us.length = 3) : ∃ x y z, us = [x, y, z] := by
  match us, h with
  | [x, y, z], _ => exact ⟨x, y, z, rfl⟩

set_option maxRecDepth 100000 in
set_option maxHeartbeats 6400000 in
theorem up_any (c : Nat) (v : Value) (l : List UInt8) (B : Nat) (u : Value) (Ts : List T3) (w : World) (hc : Cur w c v l) (hr : Reads w v l B) (hB : B ≤ c) (hd : tabsC.rd w (OldS w c) [u] Ts) (hok : UpOk Ts) :
    Calls Tryz.prog 48 #[.pointer (some ⟨c, 0, none⟩), .agg #[u]] w (UpAns w c v l) := by
  have hcs := cur_size hc
  have HR := Lib.hid (fun w' (hg : w.grownBy w' (some c)) => hr.later (below_of hg hB hcs))
  have HC := Lib.hid hc
  have HD := Lib.hid hd
  have HOK := Lib.hid hok
  obtain ⟨ad, cd, rfl, _⟩ := Cd.sl_form hd
  clear hc hr hd hok
  go_enter Tryz.func48, Tryz.ntmps48
  go_upto_region 1 with fail
  generalize hW : (w.alloc _).alloc _ = W
  obtain ⟨r0, r1, hz, hb0⟩ := start2g w _ _ hW
  have HS := Lib.hid (show U0 w c v l (.slice ad Ts.length cd) W from ⟨Loc1.of r0, Loc3.of r1, hcs, cur_below HC.out hb0 hcs, grown_below hb0 (some c)⟩)
  clear hW r0 r1 hz hb0 HC
  have x0 := HS.out.lx.c0
  have HBL := Lib.hid (fun (n : Int) W' (h : U0 w c v l (.slice ad Ts.length cd) W') => below_any n c v l B W' h.cu (HR.out _ h.gr) hB)
  have HON := Lib.hid (fun W' (h : U0 w c v l (.slice ad Ts.length cd) W') => once_anyI 2 c v l B W' h.cu (HR.out _ h.gr) hB)
  have HSO := Lib.hid (fun (n : Nat) (hn : n ≤ 3) W' (h : U0 w c v l (.slice ad Ts.length cd) W') => some_any n (by omega) c v l B W' h.cu (HR.out _ h.gr) hB)
  have HPK := Lib.hid (fun W' (h : U0 w c v l (.slice ad Ts.length cd) W') => pickS_any ww3 W'.heap.size (by decide) (by decide) c v l B (W'.alloc (.cells (ww3.map fun z => Value.string z).toArray 9)) (h.alloc _).cu (HR.out _ (h.alloc _).gr) hB (by have := h.cb; have := h.sz; omega) (list_cellsS ww3 W' 9))
  clear HR
  by_cases h0 : Ts.length = 0
  · have h0' : ((Ts.length : Nat) : Int) = 0 := by omega
    have hU := HS.out.alloc (.cells #[.int .i64 0, .int .i64 1] 3)
    obtain ⟨m0, m1, m2, n0, n1, n2⟩ := hU.lr
    go_wp2_with fail
    obtain ⟨k0, k1, k2⟩ := set3 (w := W.alloc (.cells #[.int .i64 0, .int .i64 1] 3)) (k := w.heap.size + 1) (x := .string ⟨#[114]⟩) (y := .bool true) (z := .slice (some ⟨W.heap.size, 0, none⟩) 2 2) m0 m1 m2
    refine bodyPost_ret (v := .agg #[.string ⟨#[114]⟩, .bool true, .slice (some ⟨W.heap.size, 0, none⟩) 2 2]) (by simp [results, Tryz.results48, go_sem, k0, k1, k2]) rfl ?_
    have hs := HS.out.sz
    have hcb := HS.out.cb
    have ho := lit_row W [0, 1] (by intro x hx; simp at hx; omega) (by simp) (w.heap.size + 2) hs
    have hf : w.heap.size + 1 ∉ [W.heap.size] := by simp; omega
    have hne : c ≠ w.heap.size + 1 := by omega
    have hle : w.heap.size ≤ w.heap.size + 1 := by omega
    exact ⟨⟨#[114]⟩, true, _, [0, 1], [W.heap.size], rfl, ow_setCell (ow_setCell (ow_setCell (rowC.ow_base ho (by omega)) hf _) hf _) hf _, by simp, by decide, by simp, cur_farI _ (cur_farI _ (cur_farI _ hU.cu hne) hne) hne, grown_newI _ (grown_newI _ (grown_newI _ hU.gr hle) hle) hle⟩
  have h0' : ((Ts.length : Nat) : Int) ≠ 0 := by omega
  have hpos : 0 < Ts.length := by omega
  go_upto_region 3 with fail
  go_cut [5] (fun s5 wx => ∃ (p : Nat) (j : Nat) (hj : j < Ts.length) (a : Option Addr) (k : Nat), s5 = .pointer (some ⟨p, 0, none⟩) ∧ U1 w c v l (.slice ad Ts.length cd) p Ts[j] (.slice a (Ts[j]).2.2.length k) wx)
  case first =>
    as_aux_lemma =>
      have hst : U0 w c v l (.slice ad Ts.length cd) W.drew := HS.out.drew
      have hHeld0 := hst
      refine wp_region_held_drew (S := fun wx => U0 w c v l (.slice ad Ts.length cd) wx) (by kernel_rfl) hst (fun hHeld => ?_)
      clear hHeld0 hst
      refine RegH.takeH (i := 0) (v := ?_) rfl (by kernel_rfl) (by kernel_rfl) (by kernel_rfl) (fun _ _ _ h => h) (Or.inl ⟨by rfl, ?_⟩) (by assumption) ?_
      rotate_left
      · (intro wS hSw; (try dsimp only at hSw); (have rr := hSw.lx.c0); go_simp; try (with_reducible rfl))
      try simp only [Act.put, List.setIfInBounds_toArray, List.set_cons_zero, List.set_cons_succ]
      refine RegH.takeH (i := 1) (v := ?_) rfl (by kernel_rfl) (by kernel_rfl) (by kernel_rfl) (fun _ _ _ h => h) (Or.inl ⟨by rfl, ?_⟩) (by assumption) ?_
      rotate_left
      · (intro wS hSw; (try dsimp only at hSw); (have rr := hSw.lx.c0); go_simp; try (with_reducible rfl))
      try simp only [Act.put, List.setIfInBounds_toArray, List.set_cons_zero, List.set_cons_succ]
      refine RegH.takeH (i := 2) (v := ?_) rfl (by kernel_rfl) (by kernel_rfl) (by kernel_rfl) (fun _ _ _ h => h) (Or.inl ⟨by rfl, ?_⟩) (by assumption) ?_
      rotate_left
      · (intro wS hSw; (try dsimp only at hSw); (have rr := hSw.lx.c0); go_simp; try (with_reducible rfl))
      try simp only [Act.put, List.setIfInBounds_toArray, List.set_cons_zero, List.set_cons_succ]
      refine RegH.takeH (i := 3) (v := ?_) rfl (by kernel_rfl) (by kernel_rfl) (by kernel_rfl) (fun _ _ _ h => h) (Or.inl ⟨by rfl, ?_⟩) (by assumption) ?_
      rotate_left
      · (intro wS hSw; (try dsimp only at hSw); (have rr := hSw.lx.c0); go_simp; try (with_reducible rfl))
      try simp only [Act.put, List.setIfInBounds_toArray, List.set_cons_zero, List.set_cons_succ]
      refine RegH.takeH (i := 4) (v := ?_) rfl (by kernel_rfl) (by kernel_rfl) (by kernel_rfl) (fun _ _ _ h => h) (Or.inl ⟨by rfl, ?_⟩) (by assumption) ?_
      rotate_left
      · (intro wS hSw; (try dsimp only at hSw); (have rr := hSw.lx.c0); go_simp; try (with_reducible rfl))
      try simp only [Act.put, List.setIfInBounds_toArray, List.set_cons_zero, List.set_cons_succ]
      refine RegH.takeH (i := 5) (v := ?_) rfl (by kernel_rfl) (by kernel_rfl) (by kernel_rfl) (fun _ _ _ h => h) (Or.inl ⟨by rfl, ?_⟩) (by assumption) ?_
      rotate_left
      · (intro wS hSw; (try dsimp only at hSw); (have rr := hSw.lx.c0); go_simp; try (with_reducible rfl))
      try simp only [Act.put, List.setIfInBounds_toArray, List.set_cons_zero, List.set_cons_succ]
      refine RegH.consH2 (i := 6) (j := 9) rfl rfl (by kernel_rfl) (fun K hK => ?_) (fun K hK => ?_)
      · skip
        go_simp
        go_at_call 64
        refine (HBL.out _ _ hHeld).mono ?_
        rintro e w7 ⟨x, rfl, hx0, hx1, hc7, hg7⟩
        obtain ⟨j, rfl⟩ := Int.eq_ofNat_of_zero_le hx0
        have hjl : j < Ts.length := by have := hx1 (by omega); omega
        have p1 : (0 : Int) ≤ (j : Int) := by omega
        have p2 : (j : Int) < (Ts.length : Int) := by omega
        have hs7 : U0 w c v l (.slice ad Ts.length cd) w7 := hHeld.grown hg7 hc7
        refine hK.out _ _ ?_ (fun hHeld => ?_)
        · exact hs7
        clear hK K
        try simp only [Act.put, List.setIfInBounds_toArray, List.set_cons_zero, List.set_cons_succ]
        obtain ⟨b, off, cap', us, e1, hbS, hbB, hat, hu⟩ := Cd.sl_at HD.out hjl
        injection e1 with e1 e2 e3
        subst e1
        have HE := Lib.hid hu
        obtain ⟨tu, rfl, tb1, tb2, tb3⟩ := tab_cells hu
        obtain ⟨ta, tc, rfl, _⟩ := rows_form tb3
        have q0 := hat 0 (by simp)
        have q1 := hat 1 (by simp)
        have q2 := hat 2 (by simp)
        simp only [List.getElem_cons_zero, List.getElem_cons_succ, Nat.add_zero, show tabC.n = 3 from rfl] at q0 q1 q2
        have HTB := Lib.hid tb3
        obtain ⟨hb1, hb2⟩ := hbS
        clear hat hu e2 e3 tb1 tb2 tb3 HE
        refine RegH.takeH (i := 7) (v := ?_) rfl (by kernel_rfl) (by kernel_rfl) (by kernel_rfl) (fun _ _ _ h => h) (Or.inl ⟨by rfl, ?_⟩) (by assumption) ?_
        rotate_left
        · (intro wS hSw; (try dsimp only at hSw); (have rr := hSw.lx.c0); (have r0 := (hSw.old (o := off + j * 3) hb1 hb2).trans q0); (have r1 := (hSw.old (o := off + j * 3 + 1) hb1 hb2).trans q1); (have r2 := (hSw.old (o := off + j * 3 + 2) hb1 hb2).trans q2); go_simp; try (with_reducible rfl))
        try simp only [Act.put, List.setIfInBounds_toArray, List.set_cons_zero, List.set_cons_succ]
        refine RegH.takeH (i := 8) (v := ?_) rfl (by kernel_rfl) (by kernel_rfl) (by kernel_rfl) (fun _ _ _ h => h) (Or.inl ⟨by rfl, ?_⟩) (by assumption) ?_
        rotate_left
        · (intro wS hSw; (try dsimp only at hSw); (have rr := hSw.lx.c0); (have r0 := (hSw.old (o := off + j * 3) hb1 hb2).trans q0); (have r1 := (hSw.old (o := off + j * 3 + 1) hb1 hb2).trans q1); (have r2 := (hSw.old (o := off + j * 3 + 2) hb1 hb2).trans q2); go_simp; try (with_reducible rfl))
        try simp only [Act.put, List.setIfInBounds_toArray, List.set_cons_zero, List.set_cons_succ]
        have hs7b : U0 w c v l (.slice (some ⟨b, off, none⟩) Ts.length cd) w7 := hHeld
        refine RegH.consH (i := 9) rfl (by kernel_rfl) (fun K hK => ?_)
        go_simp
        refine hK.out _ _ ?_ (fun hHeld => ?_)
        · exact hs7b.alloc _
        clear hK K
        try simp only [Act.put, List.setIfInBounds_toArray, List.set_cons_zero, List.set_cons_succ]
        refine RegH.consH (i := 10) rfl (by kernel_rfl) (fun K hK => ?_)
        go_simp
        refine hK.out _ _ ?_ (fun hHeld => ?_)
        · exact hs7b.alloc _
        clear hK K
        try simp only [Act.put, List.setIfInBounds_toArray, List.set_cons_zero, List.set_cons_succ]
        refine wpAnyH_done (by kernel_rfl) ?_ _
        go_wp2_with fail
        go_meet
        exact ⟨w7.heap.size, j, hjl, ta, tc, rfl, hHeld, Loc3.of (row_alloc w7 _), HTB.out, hs7b.sz⟩
      · skip
        go_simp
        have hs8 := hHeld.alloc (.cells #[.string ⟨#[]⟩, .int .i64 0, .slice none 0 0] 51 (0, 0))
        have HL0 := Lib.hid (Loc3.of (row_alloc W.drew (.cells #[.string ⟨#[]⟩, .int .i64 0, .slice none 0 0] 51 (0, 0))))
        have HPB := Lib.hid (show w.heap.size + 2 ≤ W.heap.size from hHeld.sz)
        refine hK.out _ _ ?_ (fun hHeld => ?_)
        · exact hs8
        clear hK K
        try simp only [Act.put, List.setIfInBounds_toArray, List.set_cons_zero, List.set_cons_succ]
        refine RegH.consH (i := 6) rfl (by kernel_rfl) (fun K hK => ?_)
        go_simp
        go_at_call 64
        refine (HBL.out _ _ hHeld).mono ?_
        rintro e w7 ⟨x, rfl, hx0, hx1, hc7, hg7⟩
        obtain ⟨j, rfl⟩ := Int.eq_ofNat_of_zero_le hx0
        have hjl : j < Ts.length := by have := hx1 (by omega); omega
        have p1 : (0 : Int) ≤ (j : Int) := by omega
        have p2 : (j : Int) < (Ts.length : Int) := by omega
        have hs7 : U0 w c v l (.slice ad Ts.length cd) w7 := hHeld.grown hg7 hc7
        have HLQ := Lib.hid (show Loc3 w7 W.heap.size (.string ⟨#[]⟩) (.int .i64 0) (.slice none 0 0) from loc_grown HL0.out hg7 (by have := hHeld.cb; have := HPB.out; show W.heap.size ≠ c; omega))
        refine hK.out _ _ ?_ (fun hHeld => ?_)
        · exact hs7
        clear hK K
        try simp only [Act.put, List.setIfInBounds_toArray, List.set_cons_zero, List.set_cons_succ]
        obtain ⟨b, off, cap', us, e1, hbS, hbB, hat, hu⟩ := Cd.sl_at HD.out hjl
        injection e1 with e1 e2 e3
        subst e1
        have HE := Lib.hid hu
        obtain ⟨tu, rfl, tb1, tb2, tb3⟩ := tab_cells hu
        obtain ⟨ta, tc, rfl, _⟩ := rows_form tb3
        have q0 := hat 0 (by simp)
        have q1 := hat 1 (by simp)
        have q2 := hat 2 (by simp)
        simp only [List.getElem_cons_zero, List.getElem_cons_succ, Nat.add_zero, show tabC.n = 3 from rfl] at q0 q1 q2
        have HTB := Lib.hid tb3
        obtain ⟨hb1, hb2⟩ := hbS
        clear hat hu e2 e3 tb1 tb2 tb3 HE
        refine RegH.takeH (i := 7) (v := ?_) rfl (by kernel_rfl) (by kernel_rfl) (by kernel_rfl) (fun _ _ _ h => h) (Or.inl ⟨by rfl, ?_⟩) (by assumption) ?_
        rotate_left
        · (intro wS hSw; (try dsimp only at hSw); (have rr := hSw.lx.c0); (have r0 := (hSw.old (o := off + j * 3) hb1 hb2).trans q0); (have r1 := (hSw.old (o := off + j * 3 + 1) hb1 hb2).trans q1); (have r2 := (hSw.old (o := off + j * 3 + 2) hb1 hb2).trans q2); go_simp; try (with_reducible rfl))
        try simp only [Act.put, List.setIfInBounds_toArray, List.set_cons_zero, List.set_cons_succ]
        refine RegH.takeH (i := 8) (v := ?_) rfl (by kernel_rfl) (by kernel_rfl) (by kernel_rfl) (fun _ _ _ h => h) (Or.inl ⟨by rfl, ?_⟩) (by assumption) ?_
        rotate_left
        · (intro wS hSw; (try dsimp only at hSw); (have rr := hSw.lx.c0); (have r0 := (hSw.old (o := off + j * 3) hb1 hb2).trans q0); (have r1 := (hSw.old (o := off + j * 3 + 1) hb1 hb2).trans q1); (have r2 := (hSw.old (o := off + j * 3 + 2) hb1 hb2).trans q2); go_simp; try (with_reducible rfl))
        try simp only [Act.put, List.setIfInBounds_toArray, List.set_cons_zero, List.set_cons_succ]
        obtain ⟨k0, k1, k2, k3, k4, k5⟩ := HLQ.out
        refine RegH.consH (i := 10) rfl (by kernel_rfl) (fun K hK => ?_)
        go_simp
        have hpb : w.heap.size + 2 ≤ W.heap.size := HPB.out
        refine hK.out _ _ ?_ (fun hHeld => ?_)
        · exact ((hHeld.set (p := ⟨W.heap.size, 0, none⟩) hpb _).set (p := ⟨W.heap.size, 1, none⟩) hpb _).set (p := ⟨W.heap.size, 2, none⟩) hpb _
        clear hK K
        try simp only [Act.put, List.setIfInBounds_toArray, List.set_cons_zero, List.set_cons_succ]
        refine wpAnyH_done (by kernel_rfl) ?_ _
        go_wp2_with fail
        go_meet
        obtain ⟨j0, j1, j2⟩ := set3 (k := W.heap.size) (x := .string (Ts[j]).1) (y := .int .i64 (Ts[j]).2.1) (z := .slice ta (Ts[j]).2.2.length tc) k0 k1 k2
        exact ⟨W.heap.size, j, hjl, ta, tc, rfl, hHeld, ⟨j0, j1, j2, by simpa using k3, by simpa using k4, by simpa using k5⟩, HTB.out, hpb⟩
  case rest =>
  obtain ⟨p, j, hj, ta, tc, rfl, hu1⟩ := hcut
  have HT := Lib.hid (HOK.out.2 Ts[j] (List.getElem_mem hj))
  have HU1 := Lib.hid hu1
  clear hu1 HD x0 HS
  generalize Ts[j] = T at *
  generalize wc = W1 at *
  obtain ⟨y0, y1, y2, _, _, _⟩ := HU1.out.lp
  go_upto_region 5 with fail
  generalize hW : W1.alloc _ = W2
  obtain ⟨r0, hz, hb0⟩ := start1 W1 _ hW
  have HQ := Lib.hid (Loc3.of r0)
  have HU2 := Lib.hid (HU1.out.grown (grown_below hb0 (some c)) (cur_below HU1.out.st.cu hb0 (cur_size HU1.out.st.cu)))
  have HPQ := Lib.hid (show p < W1.heap.size from HU1.out.lp.lt)
  clear hW r0 hz hb0 y0 y1 y2 HU1
  generalize W1.heap.size = q at *
  obtain ⟨y0, y1, y2, _, _, _⟩ := HU2.out.lp
  go_cut [32] (fun s32 wx => ∃ b : Bool, s32 = .bool b ∧ (b = true → 0 < T.2.2.length) ∧ Loc3 wx q (.string T.1) (.bool true) (.slice none 0 0) ∧ U1 w c v l (.slice ad Ts.length cd) p T (.slice ta T.2.2.length tc) wx)
  case first =>
    as_aux_lemma =>
      by_cases hl0 : T.2.2.length = 0
      · have hl1 : ¬ ((0 : Int) < (T.2.2.length : Int)) := by omega
        go_wp2_with fail
        go_meet
        exact ⟨false, rfl, (fun q => by cases q), HQ.out, HU2.out⟩
      · have hl1 : (0 : Int) < (T.2.2.length : Int) := by omega
        go_wp2_with fail
        refine (HON.out _ HU2.out.st).mono ?_
        rintro e w3 ⟨b, rfl, hc3, hg3⟩
        have HQ3 := Lib.hid (loc_grown HQ.out hg3 (by have := HU2.out.st.cb; have := HU2.out.pb; have := HPQ.out; omega))
        have HU3 := Lib.hid (HU2.out.grown hg3 hc3)
        clear hc3 hg3
        go_wp2_with fail
        go_meet
        exact ⟨b, rfl, (fun _ => by omega), HQ3.out, HU3.out⟩
  case rest =>
  obtain ⟨b, rfl, hbl, hq, hu⟩ := hcut
  clear y0 y1 y2 HQ HU2
  have HQ := Lib.hid hq
  have HU := Lib.hid hu
  have HBL2 := Lib.hid hbl
  clear hq hu hbl
  generalize wc = W3 at *
  go_upto_if 32 with fail
  go_cut [] (fun wx => ∃ (b : Bool) (ay : Option Addr) (ky : Nat) (row : List Int) (f : List Nat), U2 w c v l (.slice ad Ts.length cd) q T.1 b (.slice ay row.length ky) row f wx)
  case first =>
    as_aux_lemma =>
      obtain ⟨y0, y1, y2, _, _, _⟩ := HU.out.lp
      obtain ⟨z0, z1, z2, f0, f1, f2⟩ := HQ.out
      cases b
      case false =>
        have HST := Lib.hid (fun (w5 : World) (u5 : Value) (ls : List Int) (hg5 : W3.grownBy w5 (some c)) (hc5 : Cur w5 c v l) (ho5 : OwnI w5 W3.heap.size 3 u5 ls) (hi5 : InR ls) (hl5 : ls.length ≤ 4) =>
          (show ∃ a k f, u5 = .slice a ls.length k ∧ Loc3 w5 q (.string T.1) (.bool true) (.slice none 0 0) ∧ U2 w c v l (.slice ad Ts.length cd) q T.1 true (.slice a ls.length k) ls f (w5.setCell ⟨q, 2, none⟩ (.slice a ls.length k)) from by
            have hcb := HU.out.st.cb
            have hpb := HU.out.pb
            have hpq := HPQ.out
            have hq5 := loc_grown HQ.out hg5 (show q ≠ c by omega)
            have hrow : rowC.ow w5 (w.heap.size + 2) [u5] ls u5.ownBlock.toList := Cd.ow_of_own (e := 3) (ho5.base_mono HU.out.st.sz) hi5
            have hrow2 : rowC.ow w5 W3.heap.size [u5] ls u5.ownBlock.toList := Cd.ow_of_own (e := 3) ho5 hi5
            obtain ⟨a, k, rfl⟩ := Cd.ow_slice hrow
            have hu2 : U2 w c v l (.slice ad Ts.length cd) q T.1 true (.slice none 0 0) [] [] w5 := ⟨HU.out.st.grown hg5 hc5, hq5, Cd.ow_nil _ _, by simp, by omega, by simp, HT.out.1, by simp⟩
            exact ⟨a, k, _, rfl, hq5, hu2.setR hrow (by cases (Value.slice a ls.length k).ownBlock <;> simp) (fun hm => by have h1 := (rowC.ow_lt hrow2 q hm).1; have h2 := HQ.out.lt; omega) (by omega)⟩))
        by_cases h3 : T.2.1 < 3
        · by_cases h4 : 0 < T.2.1
          · obtain ⟨n, hn⟩ := Int.eq_ofNat_of_zero_le (show 0 ≤ T.2.1 by omega)
            have HQS := Lib.hid (HSO.out n (by omega) W3 HU.out.st)
            have HN := Lib.hid (show n ≤ 3 by omega)
            rw [show ((n : Nat) : Int) = T.2.1 from hn.symm] at HQS
            clear hn
            go_wp2_with fail
            refine HQS.out.mono ?_
            rintro e w5 ⟨u5, ls, rfl, ho5, hl5, hi5, hc5, hg5⟩
            obtain ⟨a5, k5, f5, rfl, ⟨e0, e1, e2, g0, g1, g2⟩, hu5⟩ := HST.out w5 u5 ls hg5 hc5 ho5 hi5 (by have := HN.out; omega)
            have HU5 := Lib.hid hu5
            clear hu5 ho5 hl5 hi5 hc5 hg5
            go_wp2_with fail
            go_meet
            exact ⟨true, a5, k5, ls, f5, HU5.out⟩
          · have HQS := Lib.hid (HSO.out 0 (by omega) W3 HU.out.st)
            have HN := Lib.hid (show 0 ≤ 3 by omega)
            rw [show ((0 : Nat) : Int) = 0 from rfl] at HQS
            go_wp2_with fail
            refine HQS.out.mono ?_
            rintro e w5 ⟨u5, ls, rfl, ho5, hl5, hi5, hc5, hg5⟩
            obtain ⟨a5, k5, f5, rfl, ⟨e0, e1, e2, g0, g1, g2⟩, hu5⟩ := HST.out w5 u5 ls hg5 hc5 ho5 hi5 (by have := HN.out; omega)
            have HU5 := Lib.hid hu5
            clear hu5 ho5 hl5 hi5 hc5 hg5
            go_wp2_with fail
            go_meet
            exact ⟨true, a5, k5, ls, f5, HU5.out⟩
        · have h4 : ¬ (T.2.1 < 3) := h3
          have HQS := Lib.hid (HSO.out 3 (by omega) W3 HU.out.st)
          have HN := Lib.hid (show 3 ≤ 3 by omega)
          rw [show ((3 : Nat) : Int) = 3 from rfl] at HQS
          go_wp2_with fail
          refine HQS.out.mono ?_
          rintro e w5 ⟨u5, ls, rfl, ho5, hl5, hi5, hc5, hg5⟩
          obtain ⟨a5, k5, f5, rfl, ⟨e0, e1, e2, g0, g1, g2⟩, hu5⟩ := HST.out w5 u5 ls hg5 hc5 ho5 hi5 (by have := HN.out; omega)
          have HU5 := Lib.hid hu5
          clear hu5 ho5 hl5 hi5 hc5 hg5
          go_wp2_with fail
          go_meet
          exact ⟨true, a5, k5, ls, f5, HU5.out⟩
      case true =>
        have hlen : 0 < T.2.2.length := HBL2.out rfl
        have hlen2 : (0 : Int) < (T.2.2.length : Int) := by omega
        go_upto_region 7 with fail
        have hpb := HU.out.pb
        have hpq := HPQ.out
        have hu4 := HU.out.set (a := ⟨q, 1, none⟩) (show w.heap.size + 2 ≤ q by omega) (show q ≠ p by omega) (.bool false)
        have hq4 : Loc3 (W3.setCell ⟨q, 1, none⟩ (.bool false)) q (.string T.1) (.bool false) (.slice none 0 0) := by
          have o1 : (⟨q, 1, none⟩ : Addr) ≠ ⟨q, 0, none⟩ := by simp
          have o2 : (⟨q, 1, none⟩ : Addr) ≠ ⟨q, 2, none⟩ := by simp
          exact ⟨(World.cell?_setCell_other _ _ _ _ o1).trans z0, World.cell?_setCell_same _ _ _ z1, (World.cell?_setCell_other _ _ _ _ o2).trans z2, by simpa using f0, by simpa using f1, by simpa using f2⟩
        clear y0 y1 y2 z0 z1 z2 f0 f1 f2 HU HQ
        generalize W3.setCell ⟨q, 1, none⟩ (.bool false) = W4 at *
        refine wp_region_held_drew (S := fun wx => U1 w c v l (.slice ad Ts.length cd) p T (.slice ta T.2.2.length tc) wx ∧ ∃ y, Loc3 wx q (.string T.1) (.bool false) y) (by kernel_rfl) ⟨hu4.drew, _, hq4.keep rfl⟩ (fun hHeld => ?_)
        have hq4d : Loc3 W4.drew q (.string T.1) (.bool false) (.slice none 0 0) := hq4.keep rfl
        have hu4d := hu4.drew
        clear hq4 hu4
        refine RegH.takeH (i := 1) (v := ?_) rfl (by kernel_rfl) (by kernel_rfl) (by kernel_rfl) (fun _ _ _ h => h) (Or.inl ⟨by rfl, ?_⟩) (by assumption) ?_
        rotate_left
        · (intro wS hSw; (try dsimp only at hSw); (obtain ⟨r0, r1, r2, _, _, _⟩ := hSw.1.lp); go_simp; try (with_reducible rfl))
        try simp only [Act.put, List.setIfInBounds_toArray, List.set_cons_zero, List.set_cons_succ]
        refine RegH.takeH (i := 2) (v := ?_) rfl (by kernel_rfl) (by kernel_rfl) (by kernel_rfl) (fun _ _ _ h => h) (Or.inl ⟨by rfl, ?_⟩) (by assumption) ?_
        rotate_left
        · (intro wS hSw; (try dsimp only at hSw); (obtain ⟨r0, r1, r2, _, _, _⟩ := hSw.1.lp); go_simp; try (with_reducible rfl))
        try simp only [Act.put, List.setIfInBounds_toArray, List.set_cons_zero, List.set_cons_succ]
        refine RegH.takeH (i := 3) (v := ?_) rfl (by kernel_rfl) (by kernel_rfl) (by kernel_rfl) (fun _ _ _ h => h) (Or.inl ⟨by rfl, ?_⟩) (by assumption) ?_
        rotate_left
        · (intro wS hSw; (try dsimp only at hSw); (obtain ⟨r0, r1, r2, _, _, _⟩ := hSw.1.lp); go_simp; try (with_reducible rfl))
        try simp only [Act.put, List.setIfInBounds_toArray, List.set_cons_zero, List.set_cons_succ]
        refine RegH.takeH (i := 4) (v := ?_) rfl (by kernel_rfl) (by kernel_rfl) (by kernel_rfl) (fun _ _ _ h => h) (Or.inl ⟨by rfl, ?_⟩) (by assumption) ?_
        rotate_left
        · (intro wS hSw; (try dsimp only at hSw); (obtain ⟨r0, r1, r2, _, _, _⟩ := hSw.1.lp); go_simp; try (with_reducible rfl))
        try simp only [Act.put, List.setIfInBounds_toArray, List.set_cons_zero, List.set_cons_succ]
        refine RegH.takeH (i := 5) (v := ?_) rfl (by kernel_rfl) (by kernel_rfl) (by kernel_rfl) (fun _ _ _ h => h) (Or.inl ⟨by rfl, ?_⟩) (by assumption) ?_
        rotate_left
        · (intro wS hSw; (try dsimp only at hSw); (obtain ⟨r0, r1, r2, _, _, _⟩ := hSw.1.lp); go_simp; try (with_reducible rfl))
        try simp only [Act.put, List.setIfInBounds_toArray, List.set_cons_zero, List.set_cons_succ]
        refine RegH.takeH (i := 6) (v := ?_) rfl (by kernel_rfl) (by kernel_rfl) (by kernel_rfl) (fun _ _ _ h => h) (Or.inl ⟨by rfl, ?_⟩) (by assumption) ?_
        rotate_left
        · (intro wS hSw; (try dsimp only at hSw); (obtain ⟨r0, r1, r2, _, _, _⟩ := hSw.1.lp); go_simp; try (with_reducible rfl))
        try simp only [Act.put, List.setIfInBounds_toArray, List.set_cons_zero, List.set_cons_succ]
        refine RegH.consH2 (i := 0) (j := 7) rfl rfl (by kernel_rfl) (fun K hK => ?_) (fun K hK => ?_)
        · skip
          go_simp
          have HE0 := Lib.hid (Cd.ow_empty (e := 3) (c := Cd.int) W4.drew (w.heap.size + 2) hu4d.st.sz)
          have hu5 := hu4d.alloc (.cells #[] 3)
          have hq5 := hq4d.later (below_alloc W4.drew (.cells #[] 3))
          have hL : W4.heap.size ≠ q ∧ W4.heap.size ≠ p ∧ w.heap.size + 2 ≤ W4.heap.size := by have h1 := hq4d.lt; have h2 := hu4d.lp.lt; have h3 := hu4d.st.sz; simp only [show W4.drew.heap = W4.heap from rfl] at h1 h2 h3; omega
          refine hK.out _ _ ?_ (fun hHeld => ?_)
          · exact ⟨hu5, _, hq5⟩
          clear hK K
          try simp only [Act.put, List.setIfInBounds_toArray, List.set_cons_zero, List.set_cons_succ]
          refine RegH.consH (i := 7) rfl (by kernel_rfl) (fun K hK => ?_)
          go_simp
          go_at_call 64
          refine (HBL.out _ _ (hu5).st).mono ?_
          rintro e w7 ⟨x, rfl, hx0, hx1, hc7, hg7⟩
          obtain ⟨j, rfl⟩ := Int.eq_ofNat_of_zero_le hx0
          have hjl : j < T.2.2.length := by have := hx1 (by omega); omega
          have p1 : (0 : Int) ≤ (j : Int) := by omega
          have p2 : (j : Int) < (T.2.2.length : Int) := by omega
          have hu7 := (hu5).grown hg7 hc7
          have hq7 := loc_grown (hq5) hg7 (show q ≠ c by have := hu7.st.cb; omega)
          have HEM := Lib.hid (ow_grown HE0.out hg7 (show c < w.heap.size + 2 by have := hu7.st.cb; omega))
          refine hK.out _ _ ?_ (fun hHeld => ?_)
          · exact ⟨hu7, _, hq7⟩
          clear hK K
          try simp only [Act.put, List.setIfInBounds_toArray, List.set_cons_zero, List.set_cons_succ]
          have hun := hu7
          have hqn := hq7
          clear hx0 hx1 hc7 hg7
          obtain ⟨bb, oo, kk', uj, e1, hbS, hcj, huj⟩ := rows_atS hu7.rt hjl
          injection e1 with e1 e2 e3
          subst e1
          refine RegH.takeH (i := 8) (v := ?_) rfl (by kernel_rfl) (by kernel_rfl) (by kernel_rfl) (fun _ _ _ h => h) (Or.inl ⟨by rfl, ?_⟩) (by assumption) ?_
          rotate_left
          · (intro wS hSw; (try dsimp only at hSw); (have rr := (hSw.1.st.old (o := oo + j) hbS.1 hbS.2).trans hcj); go_simp; try (with_reducible rfl))
          try simp only [Act.put, List.setIfInBounds_toArray, List.set_cons_zero, List.set_cons_succ]
          refine RegH.takeH (i := 9) (v := ?_) rfl (by kernel_rfl) (by kernel_rfl) (by kernel_rfl) (fun _ _ _ h => h) (Or.inl ⟨by rfl, ?_⟩) (by assumption) ?_
          rotate_left
          · (intro wS hSw; (try dsimp only at hSw); (have rr := (hSw.1.st.old (o := oo + j) hbS.1 hbS.2).trans hcj); go_simp; try (with_reducible rfl))
          try simp only [Act.put, List.setIfInBounds_toArray, List.set_cons_zero, List.set_cons_succ]
          have HKA := Lib.hid (hun.st.rd huj)
          have hRL : (T.2.2[j]).length ≤ 40 := by have h1 := HT.out.2; unfold rowsWt at h1; have h2 := row_len hjl; omega
          have hszn := hun.st.sz
          refine RegH.consH (i := 10) rfl (by kernel_rfl) (fun K hK => ?_)
          refine Cd.step_appendRI rfl (.tmp 34) (.tmp 43) 27 rfl (w.heap.size + 2) 3 Tryz.underlying27 info_i64 _ [] [_] rfl HEM.out uj T.2.2[j] _ rfl HKA.out (by rw [List.length_nil]; omega) hszn ?_
          intro v1 w8 f1 ho1 hn1 hs1 ht1
          obtain ⟨a1, c1, rfl⟩ := Cd.ow_slice ho1
          have hLq : W4.heap.size ≠ q ∧ W4.heap.size ≠ p ∧ w.heap.size + 2 ≤ W4.heap.size := hL
          have hu8 := U1.touched hun ht1 hLq.2.2 hLq.2.1
          have hq8 := hqn.touched ht1 (by simp; exact fun q => hLq.1 q.symm)
          have hqlt := hqn.lt
          have hqf : q ∉ f1 := fun hm => by rcases hs1 q hm with h | h; exact hLq.1 (List.mem_singleton.1 h).symm; omega
          have HU9 := Lib.hid (show U2 w c v l (.slice _ Ts.length cd) q T.1 false (.slice a1 (T.2.2[j]).length c1) (T.2.2[j]) f1 (w8.setCell ⟨q, 2, none⟩ (.slice a1 (T.2.2[j]).length c1)) from U2.setR (y := .slice none 0 0) (row := []) (f := []) ⟨hu8.st, hq8, Cd.ow_nil _ _, by simp, by omega, by simp, HT.out.1, by simp⟩ ho1 hn1 hqf hRL)
          clear ho1 hn1 hs1 ht1 hqf
          refine hK.out _ _ ?_ (fun hHeld => ?_)
          · exact ⟨hu8, _, hq8⟩
          clear hK K
          try simp only [Act.put, List.setIfInBounds_toArray, List.set_cons_zero, List.set_cons_succ]
          refine RegH.takeH (i := 11) (v := ?_) rfl (by kernel_rfl) (by kernel_rfl) (by kernel_rfl) (fun _ _ _ h => h) (Or.inl ⟨by rfl, ?_⟩) (by assumption) ?_
          rotate_left
          · (intro wS hSw; (try dsimp only at hSw); skip; go_simp; try (with_reducible rfl))
          try simp only [Act.put, List.setIfInBounds_toArray, List.set_cons_zero, List.set_cons_succ]
          obtain ⟨s0, s1, s2, t0, t1, t2⟩ := hq8
          refine RegH.consH (i := 12) rfl (by kernel_rfl) (fun K hK => ?_)
          go_simp
          refine hK.out _ _ ?_ (fun hHeld => ?_)
          · exact ⟨hu8.set (a := ⟨q, 2, none⟩) (show w.heap.size + 2 ≤ q by omega) (show q ≠ p by omega) _, _, HU9.out.lq⟩
          clear hK K
          try simp only [Act.put, List.setIfInBounds_toArray, List.set_cons_zero, List.set_cons_succ]
          refine wpAnyH_done (by kernel_rfl) ?_ _
          go_wp2_with fail
          go_meet
          exact ⟨false, a1, c1, T.2.2[j], f1, HU9.out⟩
        · skip
          go_simp
          go_at_call 64
          refine (HBL.out _ _ (hu4d).st).mono ?_
          rintro e w7 ⟨x, rfl, hx0, hx1, hc7, hg7⟩
          obtain ⟨j, rfl⟩ := Int.eq_ofNat_of_zero_le hx0
          have hjl : j < T.2.2.length := by have := hx1 (by omega); omega
          have p1 : (0 : Int) ≤ (j : Int) := by omega
          have p2 : (j : Int) < (T.2.2.length : Int) := by omega
          have hu7 := (hu4d).grown hg7 hc7
          have hq7 := loc_grown (hq4d) hg7 (show q ≠ c by have := hu7.st.cb; omega)
          refine hK.out _ _ ?_ (fun hHeld => ?_)
          · exact ⟨hu7, _, hq7⟩
          clear hK K
          try simp only [Act.put, List.setIfInBounds_toArray, List.set_cons_zero, List.set_cons_succ]
          obtain ⟨bb, oo, kk', uj, e1, hbS, hcj, huj⟩ := rows_atS hu7.rt hjl
          injection e1 with e1 e2 e3
          subst e1
          refine RegH.takeH (i := 8) (v := ?_) rfl (by kernel_rfl) (by kernel_rfl) (by kernel_rfl) (fun _ _ _ h => h) (Or.inl ⟨by rfl, ?_⟩) (by assumption) ?_
          rotate_left
          · (intro wS hSw; (try dsimp only at hSw); (have rr := (hSw.1.st.old (o := oo + j) hbS.1 hbS.2).trans hcj); go_simp; try (with_reducible rfl))
          try simp only [Act.put, List.setIfInBounds_toArray, List.set_cons_zero, List.set_cons_succ]
          refine RegH.takeH (i := 9) (v := ?_) rfl (by kernel_rfl) (by kernel_rfl) (by kernel_rfl) (fun _ _ _ h => h) (Or.inl ⟨by rfl, ?_⟩) (by assumption) ?_
          rotate_left
          · (intro wS hSw; (try dsimp only at hSw); (have rr := (hSw.1.st.old (o := oo + j) hbS.1 hbS.2).trans hcj); go_simp; try (with_reducible rfl))
          try simp only [Act.put, List.setIfInBounds_toArray, List.set_cons_zero, List.set_cons_succ]
          refine RegH.consH (i := 0) rfl (by kernel_rfl) (fun K hK => ?_)
          go_simp
          have HEM := Lib.hid (Cd.ow_empty (e := 3) (c := Cd.int) w7 (w.heap.size + 2) hu7.st.sz)
          have hL : w7.heap.size ≠ q ∧ w7.heap.size ≠ p ∧ w.heap.size + 2 ≤ w7.heap.size := by have h1 := hq7.lt; have h2 := hu7.lp.lt; have h3 := hu7.st.sz; omega
          have hun := hu7.alloc (.cells #[] 3)
          have hqn := hq7.later (below_alloc w7 (.cells #[] 3))
          refine hK.out _ _ ?_ (fun hHeld => ?_)
          · exact ⟨hun, _, hqn⟩
          clear hK K
          try simp only [Act.put, List.setIfInBounds_toArray, List.set_cons_zero, List.set_cons_succ]
          clear hx0 hx1 hc7 hg7
          have HKA := Lib.hid (hun.st.rd huj)
          have hRL : (T.2.2[j]).length ≤ 40 := by have h1 := HT.out.2; unfold rowsWt at h1; have h2 := row_len hjl; omega
          have hszn := hun.st.sz
          refine RegH.consH (i := 10) rfl (by kernel_rfl) (fun K hK => ?_)
          refine Cd.step_appendRI rfl (.tmp 34) (.tmp 43) 27 rfl (w.heap.size + 2) 3 Tryz.underlying27 info_i64 _ [] [_] rfl HEM.out uj T.2.2[j] _ rfl HKA.out (by rw [List.length_nil]; omega) hszn ?_
          intro v1 w8 f1 ho1 hn1 hs1 ht1
          obtain ⟨a1, c1, rfl⟩ := Cd.ow_slice ho1
          have hLq : w7.heap.size ≠ q ∧ w7.heap.size ≠ p ∧ w.heap.size + 2 ≤ w7.heap.size := hL
          have hu8 := U1.touched hun ht1 hLq.2.2 hLq.2.1
          have hq8 := hqn.touched ht1 (by simp; exact fun q => hLq.1 q.symm)
          have hqlt := hqn.lt
          have hqf : q ∉ f1 := fun hm => by rcases hs1 q hm with h | h; exact hLq.1 (List.mem_singleton.1 h).symm; omega
          have HU9 := Lib.hid (show U2 w c v l (.slice _ Ts.length cd) q T.1 false (.slice a1 (T.2.2[j]).length c1) (T.2.2[j]) f1 (w8.setCell ⟨q, 2, none⟩ (.slice a1 (T.2.2[j]).length c1)) from U2.setR (y := .slice none 0 0) (row := []) (f := []) ⟨hu8.st, hq8, Cd.ow_nil _ _, by simp, by omega, by simp, HT.out.1, by simp⟩ ho1 hn1 hqf hRL)
          clear ho1 hn1 hs1 ht1 hqf
          refine hK.out _ _ ?_ (fun hHeld => ?_)
          · exact ⟨hu8, _, hq8⟩
          clear hK K
          try simp only [Act.put, List.setIfInBounds_toArray, List.set_cons_zero, List.set_cons_succ]
          refine RegH.takeH (i := 11) (v := ?_) rfl (by kernel_rfl) (by kernel_rfl) (by kernel_rfl) (fun _ _ _ h => h) (Or.inl ⟨by rfl, ?_⟩) (by assumption) ?_
          rotate_left
          · (intro wS hSw; (try dsimp only at hSw); skip; go_simp; try (with_reducible rfl))
          try simp only [Act.put, List.setIfInBounds_toArray, List.set_cons_zero, List.set_cons_succ]
          obtain ⟨s0, s1, s2, t0, t1, t2⟩ := hq8
          refine RegH.consH (i := 12) rfl (by kernel_rfl) (fun K hK => ?_)
          go_simp
          refine hK.out _ _ ?_ (fun hHeld => ?_)
          · exact ⟨hu8.set (a := ⟨q, 2, none⟩) (show w.heap.size + 2 ≤ q by omega) (show q ≠ p by omega) _, _, HU9.out.lq⟩
          clear hK K
          try simp only [Act.put, List.setIfInBounds_toArray, List.set_cons_zero, List.set_cons_succ]
          refine wpAnyH_done (by kernel_rfl) ?_ _
          go_wp2_with fail
          go_meet
          exact ⟨false, a1, c1, T.2.2[j], f1, HU9.out⟩
  case rest =>
  obtain ⟨b, ay, ky, row, f, hu⟩ := hcut
  clear HQ HU HBL2
  have HU := Lib.hid hu
  clear hu
  generalize wc = W5 at *
  go_wp2_with fail
  refine (HBL.out _ _ HU.out.st).mono ?_
  rintro e w6 ⟨x, rfl, hx0, hx1, hc6, hg6⟩
  have HU6 := Lib.hid (HU.out.grown hg6 hc6)
  clear hx0 hx1 hc6 hg6 HU
  by_cases x0 : x = 0
  · subst x0
    go_wp2_with fail
    refine (HPK.out _ HU6.out.st).mono ?_
    rintro e w7 ⟨t, ht, rfl, hc7, hg7⟩
    have hnm := ww3_ok ⟨t, ht⟩
    simp only at hnm
    generalize ww3.getD t ⟨#[]⟩ = nm at *
    have HU7 := Lib.hid ((HU6.out.alloc (.cells (ww3.map fun z => Value.string z).toArray 9)).grown hg7 hc7)
    have HU8 := Lib.hid (HU7.out.setN hnm)
    clear hc7 hg7 HU6
    obtain ⟨a0, a1, a2, b0, b1, b2⟩ := HU7.out.lq
    clear a1 a2 b1 b2
    obtain ⟨c0, c1, c2, d0, d1, d2⟩ := HU8.out.lq
    obtain ⟨m0, m1, m2, n0, n1, n2⟩ := HU8.out.st.lr
    go_wp2_with fail
    obtain ⟨k0, k1, k2⟩ := set3 (w := w7.setCell ⟨q, 0, none⟩ (.string nm)) (k := w.heap.size + 1) (x := .string nm) (y := .bool (b)) (z := .slice ay row.length ky) m0 m1 m2
    exact bodyPost_ret (v := .agg #[.string nm, .bool (b), .slice ay row.length ky]) (by simp [results, Tryz.results48, go_sem, k0, k1, k2]) rfl HU8.out.done
  have tt0 : (x == 0) = false := by rw [beq_eq_false_iff_ne]; exact x0
  by_cases x1 : x = 1
  · subst x1
    clear x0
    have HU8 := Lib.hid (HU6.out.setB !b)
    obtain ⟨a0, a1, a2, b0, b1, b2⟩ := HU6.out.lq
    clear a0 a2 b0 b2
    obtain ⟨c0, c1, c2, d0, d1, d2⟩ := HU8.out.lq
    obtain ⟨m0, m1, m2, n0, n1, n2⟩ := HU8.out.st.lr
    go_wp2_with fail
    obtain ⟨k0, k1, k2⟩ := set3 (w := w6.setCell ⟨q, 1, none⟩ (.bool !b)) (k := w.heap.size + 1) (x := .string T.1) (y := .bool (!b)) (z := .slice ay row.length ky) m0 m1 m2
    exact bodyPost_ret (v := .agg #[.string T.1, .bool (!b), .slice ay row.length ky]) (by simp [results, Tryz.results48, go_sem, k0, k1, k2]) rfl HU8.out.done
  have tt1 : (x == 1) = false := by rw [beq_eq_false_iff_ne]; exact x1
  have HU8 := HU6
  obtain ⟨c0, c1, c2, d0, d1, d2⟩ := HU8.out.lq
  obtain ⟨m0, m1, m2, n0, n1, n2⟩ := HU8.out.st.lr
  go_wp2_with fail
  obtain ⟨k0, k1, k2⟩ := set3 (w := w6) (k := w.heap.size + 1) (x := .string T.1) (y := .bool (b)) (z := .slice ay row.length ky) m0 m1 m2
  exact bodyPost_ret (v := .agg #[.string T.1, .bool (b), .slice ay row.length ky]) (by simp [results, Tryz.results48, go_sem, k0, k1, k2]) rfl HU8.out.done
end Go.Proofs.YtinchhahcheadaaGreat.UpdDraw

namespace Go.Proofs.YtinchhahcheadaaGreat.DbDraw
open Go Go.RowKit Byt Ints IntsLaw IntsWalk Draw LocDraw Cd Rows2 Tab TabDraw SlMath TabOpen TabElem SlTable Db TabSpec DbMath DbSpec DbExact DbAcc

def nn5 : List ByteArray := [⟨#[97]⟩, ⟨#[114]⟩, ⟨#[114, 114]⟩, ⟨#[116]⟩, ⟨#[122]⟩]
theorem nn5_ok : ∀ t : Fin 5, (nn5.getD t.val ⟨#[]⟩).size ≤ 2 := by decide
/-- A drawn database and a drawn table. -/
def SetDraw (w : World) (e : Ending) (w' : World) : Prop :=
  ∃ (u : Value) (nm : ByteArray) (ar : Int) (y : Value) (Ts : List T3) (rows : List (List Int)), e = .returned (.tuple #[.agg #[u], .agg #[.string nm, .int .i64 ar, y]]) ∧ tabsC.rd w' (· < w'.heap.size) [u] Ts ∧ Ts.length ≤ 7 ∧ (∀ T ∈ Ts, OkD T) ∧
    rowsC.rd w' (· < w'.heap.size) [y] rows ∧ OkD (nm, ar, rows) ∧ Below w.heap.size w w'
/-- In the drawing: the results' cells, the cursor behind them, the local database in block X. -/
structure T5 (w : World) (c : Nat) (v : Value) (l : List UInt8) (X : Nat) (u : Value) (Ts : List T3) (W : World) : Prop where
  lx : Loc1 W X u
  lr : ∃ a, Loc1 W w.heap.size a
  lt : ∃ a b d, Loc3 W (w.heap.size + 1) a b d
  rd : tabsC.rd W (fun b => c + 1 ≤ b ∧ b < W.heap.size) [u] Ts
  xb : c < X
  cb : w.heap.size + 1 < c
  cu : Cur W c v l
  bl : Below w.heap.size w W
section
variable {w : World} {c : Nat} {v : Value} {l : List UInt8} {X : Nat} {u : Value} {Ts : List T3} {W W' : World}
theorem T5.grown (h : T5 w c v l X u Ts W) (hg : W.grownBy W' (some c)) (hc : Cur W' c v l) : T5 w c v l X u Ts W' :=
  have h1 := h.cb
  have h2 := h.xb
  have ⟨_, h3⟩ := h.lr
  have ⟨_, _, _, h4⟩ := h.lt
  ⟨loc1_grown h.lx hg (by omega), ⟨_, loc1_grown h3 hg (by omega)⟩, ⟨_, _, _, loc_grown h4 hg (by omega)⟩, rd_grown h.rd hg (Nat.lt_succ_self c), h2, h1, hc, h.bl.trans (below_of hg (by omega) (cur_size h.cu))⟩
theorem T5.alloc (h : T5 w c v l X u Ts W) (o : Obj) : T5 w c v l X u Ts (W.alloc o) := h.grown (World.grownBy_alloc W o (some c)) (cur_allocI o h.cu)
theorem T5.drew (h : T5 w c v l X u Ts W) : T5 w c v l X u Ts W.drew :=
  have ⟨_, h3⟩ := h.lr
  have ⟨_, _, _, h4⟩ := h.lt
  ⟨h.lx.drew, ⟨_, h3.drew⟩, ⟨_, _, _, h4.keep rfl⟩, tabsC.keep h.rd fun _ _ _ => rfl, h.xb, h.cb, h.cu, Below.drew h.bl⟩
theorem T5.base (h : T5 w c v l X u Ts W) : c + 1 ≤ W.heap.size := by
  have := h.lx.lt
  have := h.xb
  omega
theorem rd_setN {α : Type} {cd : Cd α} {base : Nat} {us : List Value} {a : α} (h : cd.rd W (fun b => base ≤ b ∧ b < W.heap.size) us a) {p : Addr} (hp : p.block < base) (x : Value) : cd.rd (W.setCell p x) (fun b => base ≤ b ∧ b < (W.setCell p x).heap.size) us a :=
  cd.mono (rd_set h (show ¬ (base ≤ p.block ∧ _) from fun q => by have := q.1; omega) x) fun _ _ hb => ⟨hb.1, by simpa using hb.2⟩
theorem T5.setD (h : T5 w c v l X u Ts W) (x : Value) : T5 w c v l X u Ts (W.setCell ⟨w.heap.size, 0, none⟩ x) :=
  have h1 := h.cb
  have h2 := h.xb
  have ⟨_, h3⟩ := h.lr
  have ⟨_, _, _, h4⟩ := h.lt
  ⟨h.lx.set_far (by show w.heap.size ≠ X; omega) _, ⟨_, h3.set _⟩, ⟨_, _, _, h4.set_far (by show w.heap.size ≠ w.heap.size + 1; omega) _⟩, rd_setN h.rd (by show w.heap.size < c + 1; omega) x, h2, h1, cur_farI _ h.cu (by show c ≠ w.heap.size; omega), h.bl.setCell (Nat.le_refl _) _⟩
theorem T5.setT (h : T5 w c v l X u Ts W) (x y z : Value) : T5 w c v l X u Ts (((W.setCell ⟨w.heap.size + 1, 0, none⟩ x).setCell ⟨w.heap.size + 1, 1, none⟩ y).setCell ⟨w.heap.size + 1, 2, none⟩ z) := by
  have h1 := h.cb
  have h2 := h.xb
  obtain ⟨_, h3⟩ := h.lr
  obtain ⟨_, _, _, h4⟩ := h.lt
  have e1 : w.heap.size + 1 ≠ X := by omega
  have e2 : w.heap.size + 1 ≠ w.heap.size := by omega
  have e3 : c ≠ w.heap.size + 1 := by omega
  have e4 : w.heap.size + 1 < c + 1 := by omega
  obtain ⟨c0, c1, c2, f0, f1, f2⟩ := h4
  obtain ⟨k0, k1, k2⟩ := set3 (w := W) (k := w.heap.size + 1) (x := x) (y := y) (z := z) c0 c1 c2
  exact ⟨((h.lx.set_far e1 _).set_far e1 _).set_far e1 _, ⟨_, ((h3.set_far e2 _).set_far e2 _).set_far e2 _⟩, ⟨_, _, _, k0, k1, k2, by simpa using f0, by simpa using f1, by simpa using f2⟩,
    rd_setN (rd_setN (rd_setN h.rd e4 x) e4 y) e4 z, h2, h1, cur_farI _ (cur_farI _ (cur_farI _ h.cu e3) e3) e3, ((h.bl.setCell (Nat.le_succ _) _).setCell (Nat.le_succ _) _).setCell (Nat.le_succ _) _⟩
theorem T5.all (h : T5 w c v l X u Ts W) : W.cell? ⟨X, 0, none⟩ = some u ∧ T5 w c v l X u Ts W := ⟨h.lx.c0, h⟩
theorem T5.end (h : T5 w c v l X u Ts W) {nm : ByteArray} {ar : Int} {y : Value} {rows : List (List Int)} (hr : rowsC.rd W (fun b => c + 1 ≤ b ∧ b < W.heap.size) [y] rows) (hl : Ts.length ≤ 7) (ho : ∀ T ∈ Ts, OkD T) (hT : OkD (nm, ar, rows)) :
    SetDraw w (.returned (.tuple #[.agg #[u], .agg #[.string nm, .int .i64 ar, y]])) W :=
  ⟨u, nm, ar, y, Ts, rows, rfl, tabsC.mono h.rd fun _ _ q => q.2, hl, ho, rowsC.mono hr fun _ _ q => q.2, hT, h.bl⟩
/-- The results are stored, the database first. -/
theorem T5.fin (h : T5 w c v l X u Ts W) {nm : ByteArray} {ar : Int} {y : Value} {rows : List (List Int)} (hr : rowsC.rd W (fun b => c + 1 ≤ b ∧ b < W.heap.size) [y] rows) (hl : Ts.length ≤ 7) (ho : ∀ T ∈ Ts, OkD T) (hT : OkD (nm, ar, rows)) {W' : World}
    (e : W' = (((W.setCell ⟨w.heap.size, 0, none⟩ u).setCell ⟨w.heap.size + 1, 0, none⟩ (.string nm)).setCell ⟨w.heap.size + 1, 1, none⟩ (.int .i64 ar)).setCell ⟨w.heap.size + 1, 2, none⟩ y) :
    W'.cell? ⟨w.heap.size, 0, none⟩ = some u ∧ W'.cell? ⟨w.heap.size + 1, 0, none⟩ = some (.string nm) ∧ W'.cell? ⟨w.heap.size + 1, 1, none⟩ = some (.int .i64 ar) ∧ W'.cell? ⟨w.heap.size + 1, 2, none⟩ = some y ∧ SetDraw w (.returned (.tuple #[.agg #[u], .agg #[.string nm, .int .i64 ar, y]])) W' := by
  subst e
  have h1 := h.cb
  have e4 : w.heap.size + 1 < c + 1 := by omega
  obtain ⟨_, h3⟩ := (h.setD u).lr
  obtain ⟨_, g3⟩ := h.lr
  obtain ⟨_, _, _, c0, c1, c2, _⟩ := (h.setD u).lt
  obtain ⟨k0, k1, k2⟩ := set3 (w := W.setCell ⟨w.heap.size, 0, none⟩ u) (k := w.heap.size + 1) (x := .string nm) (y := .int .i64 ar) (z := y) c0 c1 c2
  exact ⟨far3 (World.cell?_setCell_same _ _ _ g3.c0) (by show w.heap.size ≠ w.heap.size + 1; omega), k0, k1, k2,
    T5.end ((h.setD u).setT _ _ _) (rd_setN (rd_setN (rd_setN (rd_setN hr (by show w.heap.size < c + 1; omega) _) e4 _) e4 _) e4 _) hl ho hT⟩
/-- The same, the table first. -/
theorem T5.fin2 (h : T5 w c v l X u Ts W) {nm : ByteArray} {ar : Int} {y : Value} {rows : List (List Int)} (hr : rowsC.rd W (fun b => c + 1 ≤ b ∧ b < W.heap.size) [y] rows) (hl : Ts.length ≤ 7) (ho : ∀ T ∈ Ts, OkD T) (hT : OkD (nm, ar, rows)) {W' : World}
    (e : W' = (((W.setCell ⟨w.heap.size + 1, 0, none⟩ (.string nm)).setCell ⟨w.heap.size + 1, 1, none⟩ (.int .i64 ar)).setCell ⟨w.heap.size + 1, 2, none⟩ y).setCell ⟨w.heap.size, 0, none⟩ u) :
    W'.cell? ⟨w.heap.size, 0, none⟩ = some u ∧ W'.cell? ⟨w.heap.size + 1, 0, none⟩ = some (.string nm) ∧ W'.cell? ⟨w.heap.size + 1, 1, none⟩ = some (.int .i64 ar) ∧ W'.cell? ⟨w.heap.size + 1, 2, none⟩ = some y ∧ SetDraw w (.returned (.tuple #[.agg #[u], .agg #[.string nm, .int .i64 ar, y]])) W' := by
  subst e
  have h1 := h.cb
  have e4 : w.heap.size + 1 < c + 1 := by omega
  obtain ⟨_, _, _, c0, c1, c2, _⟩ := h.lt
  obtain ⟨_, g3⟩ := (h.setT (.string nm) (.int .i64 ar) y).lr
  obtain ⟨k0, k1, k2⟩ := set3 (w := W) (k := w.heap.size + 1) (x := .string nm) (y := .int .i64 ar) (z := y) c0 c1 c2
  have hn : ∀ i, (⟨w.heap.size, 0, none⟩ : Addr) ≠ ⟨w.heap.size + 1, i, none⟩ := fun i q => by have := congrArg Addr.block q; simp only at this; omega
  refine ⟨World.cell?_setCell_same _ _ _ g3.c0, ?_, ?_, ?_, T5.end ((h.setT _ _ _).setD u) (rd_setN (rd_setN (rd_setN (rd_setN hr e4 _) e4 _) e4 _) (by show w.heap.size < c + 1; omega) _) hl ho hT⟩
  · rw [World.cell?_setCell_other _ _ _ _ (hn _)]; exact k0
  · rw [World.cell?_setCell_other _ _ _ _ (hn _)]; exact k1
  · rw [World.cell?_setCell_other _ _ _ _ (hn _)]; exact k2
end

end Go.Proofs.YtinchhahcheadaaGreat.DbDraw

namespace Go.Proofs.YtinchhahcheadaaGreat.UpdDraw
open Go Go.RowKit Byt Ints IntsLaw IntsWalk Draw LocDraw Cd Rows2 Tab TabDraw SlMath TabOpen TabElem SlTable Db TabSpec DbMath DbSpec DbExact DbAcc DbDraw Upd

/-- A drawn database and a drawn update. -/
def PairDraw (ps : List Value) (w : World) (e : Ending) (w' : World) : Prop :=
  ∃ (u : Value) (Ts : List T3) (nm : ByteArray) (b : Bool) (y : Value) (row : List Int), e = .returned (.tuple (ps ++ [Value.agg #[u], Value.agg #[.string nm, .bool b, y]]).toArray) ∧ tabsC.rd w' (fun b => w.heap.size ≤ b ∧ b < w'.heap.size) [u] Ts ∧ Ts.length ≤ 7 ∧ (∀ T ∈ Ts, OkD T) ∧
    rowC.rd w' (fun b => w.heap.size ≤ b ∧ b < w'.heap.size) [y] row ∧ nm.size ≤ 2 ∧ row.length ≤ 40 ∧ Below w.heap.size w w'
theorem upOk_of {Ts : List T3} (hl : Ts.length ≤ 7) (h : ∀ T ∈ Ts, OkD T) : UpOk Ts := ⟨hl, fun T hT => ⟨(h T hT).1, Nat.le_trans (h T hT).2.2 (by decide)⟩⟩
section
variable {w : World} {c : Nat} {v : Value} {l : List UInt8} {X : Nat} {u : Value} {Ts : List T3} {W W' : World}
/-- The results' cells are stored, the database first. -/
theorem both1 (h : T5 w c v l X u Ts W) {x y z : Value}
    (e : W' = (((W.setCell ⟨w.heap.size, 0, none⟩ u).setCell ⟨w.heap.size + 1, 0, none⟩ x).setCell ⟨w.heap.size + 1, 1, none⟩ y).setCell ⟨w.heap.size + 1, 2, none⟩ z) :
    W'.cell? ⟨w.heap.size, 0, none⟩ = some u ∧ W'.cell? ⟨w.heap.size + 1, 0, none⟩ = some x ∧ W'.cell? ⟨w.heap.size + 1, 1, none⟩ = some y ∧ W'.cell? ⟨w.heap.size + 1, 2, none⟩ = some z ∧ T5 w c v l X u Ts W' ∧
      ∀ row v', rowC.rd W (fun b => c + 1 ≤ b ∧ b < W.heap.size) [v'] row → rowC.rd W' (fun b => c + 1 ≤ b ∧ b < W'.heap.size) [v'] row := by
  subst e
  have h1 := h.cb
  have e4 : w.heap.size + 1 < c + 1 := by omega
  obtain ⟨_, g3⟩ := h.lr
  obtain ⟨_, _, _, c0, c1, c2, _⟩ := (h.setD u).lt
  obtain ⟨k0, k1, k2⟩ := set3 (w := W.setCell ⟨w.heap.size, 0, none⟩ u) (k := w.heap.size + 1) (x := x) (y := y) (z := z) c0 c1 c2
  exact ⟨far3 (World.cell?_setCell_same _ _ _ g3.c0) (by show w.heap.size ≠ w.heap.size + 1; omega), k0, k1, k2, (h.setD u).setT _ _ _,
    fun row v' hr => rd_setN (rd_setN (rd_setN (rd_setN hr (by show w.heap.size < c + 1; omega) _) e4 _) e4 _) e4 _⟩
/-- The same, the update first. -/
theorem both2 (h : T5 w c v l X u Ts W) {x y z : Value}
    (e : W' = (((W.setCell ⟨w.heap.size + 1, 0, none⟩ x).setCell ⟨w.heap.size + 1, 1, none⟩ y).setCell ⟨w.heap.size + 1, 2, none⟩ z).setCell ⟨w.heap.size, 0, none⟩ u) :
    W'.cell? ⟨w.heap.size, 0, none⟩ = some u ∧ W'.cell? ⟨w.heap.size + 1, 0, none⟩ = some x ∧ W'.cell? ⟨w.heap.size + 1, 1, none⟩ = some y ∧ W'.cell? ⟨w.heap.size + 1, 2, none⟩ = some z ∧ T5 w c v l X u Ts W' ∧
      ∀ row v', rowC.rd W (fun b => c + 1 ≤ b ∧ b < W.heap.size) [v'] row → rowC.rd W' (fun b => c + 1 ≤ b ∧ b < W'.heap.size) [v'] row := by
  subst e
  have h1 := h.cb
  have e4 : w.heap.size + 1 < c + 1 := by omega
  obtain ⟨_, _, _, c0, c1, c2, _⟩ := h.lt
  obtain ⟨_, g3⟩ := (h.setT x y z).lr
  obtain ⟨k0, k1, k2⟩ := set3 (w := W) (k := w.heap.size + 1) (x := x) (y := y) (z := z) c0 c1 c2
  have hn : ∀ i, (⟨w.heap.size, 0, none⟩ : Addr) ≠ ⟨w.heap.size + 1, i, none⟩ := fun i q => by have := congrArg Addr.block q; simp only at this; omega
  refine ⟨World.cell?_setCell_same _ _ _ g3.c0, ?_, ?_, ?_, (h.setT _ _ _).setD u, fun row v' hr => rd_setN (rd_setN (rd_setN (rd_setN hr e4 _) e4 _) e4 _) (by show w.heap.size < c + 1; omega) _⟩
  · rw [World.cell?_setCell_other _ _ _ _ (hn _)]; exact k0
  · rw [World.cell?_setCell_other _ _ _ _ (hn _)]; exact k1
  · rw [World.cell?_setCell_other _ _ _ _ (hn _)]; exact k2
end

set_option maxRecDepth 100000 in
set_option maxHeartbeats 3200000 in
theorem pair_any (v : Value) (l : List UInt8) (B : Nat) (w : World) (hr : Reads w v l B) (hBw : B ≤ w.heap.size) :
    Calls Tryz.prog 19 #[v] w (fun e w' => ∃ p, PairDraw [p] w e w') := by
  have HR := Lib.hid (fun w' (hb : Below w.heap.size w w') => hr.later (hb.mono hBw))
  have HN := Lib.hid (fun B w' (hr : Reads w' v l B) => new_any v l B w' hr)
  clear hr
  go_enter Tryz.func19, Tryz.ntmps19
  go_wp2_with fail
  generalize hW : (w.alloc _).alloc _ = W0
  obtain ⟨r0, r1, hz, hb0⟩ := start2g w _ _ hW
  clear hW
  refine (HN.out _ W0 (HR.out _ hb0)).mono ?_
  rintro e w1 ⟨rfl, hc1, hg1⟩
  have hb1 : Below W0.heap.size W0 w1 := ⟨hg1.os, hg1.tape, hg1.output, hg1.size, fun k hk => hg1.block k hk (by simp)⟩
  have HB1 := Lib.hid (Tab.below_then hb0 hb1)
  have HL1 := Lib.hid ((Loc1.of r0).later hb1)
  have HL3 := Lib.hid ((Loc3.of r1).later hb1)
  have hcs1 := cur_size hc1
  have HC1 := Lib.hid hc1
  obtain ⟨c, hcc⟩ : ∃ c, W0.heap.size = c := ⟨_, rfl⟩
  rw [hcc] at HC1 hcs1
  rw [hcc]
  have hcw : w.heap.size + 1 < c := by omega
  have HCW := Lib.hid hcw
  have hBc : B ≤ c := by omega
  clear r0 r1 hz hb0 hb1 hc1 hg1 HN hcc hcw
  have HD := Lib.hid (dbany_any c v l B w1 HC1.out (HR.out _ HB1.out) hBc)
  go_wp2_with fail
  refine HD.out.mono ?_
  rintro e w2 ⟨u, Ts, rfl, hrd, hlen, hok, hc2, hg2⟩
  obtain ⟨ad, cd, rfl, _⟩ := Cd.sl_form hrd
  have hcw := HCW.out
  have hst : T5 w c v l w2.heap.size (.slice ad Ts.length cd) Ts (w2.alloc (.cells #[.slice ad Ts.length cd] 26 (0, 0))) := by
    have hs2 := hg2.size
    refine ⟨Loc1.of (row_alloc _ _), ⟨_, (loc1_grown HL1.out hg2 (by omega)).later (below_alloc _ _)⟩, ⟨_, _, _, (loc_grown HL3.out hg2 (by omega)).later (below_alloc _ _)⟩, ?_, by omega, by omega, cur_allocI _ hc2, Tab.below_then (HB1.out.trans (below_of hg2 (by omega) hcs1)) (below_alloc _ _)⟩
    exact tabsC.mono (Cd.later hrd (below_alloc _ _)) fun b _ hb => ⟨by omega, by rw [size_alloc]; omega⟩
  have HS := Lib.hid hst
  have HLEN := Lib.hid hlen
  have HOK := Lib.hid hok
  clear hst hrd hlen hok hc2 hg2 HD HL1 HL3 HB1 HC1 hcs1 hcw
  go_upto_region 3 with fail
  generalize w2.alloc _ = W2 at *
  generalize w2.heap.size = X at *
  have z0 := HS.out.lx.c0
  obtain ⟨zz, z1⟩ := HS.out.lr
  obtain ⟨za, zb, zc, z2⟩ := HS.out.lt
  obtain ⟨z3, z4⟩ := z1
  obtain ⟨z5, z6, z7, z8, z9, z10⟩ := z2
  have HT := Lib.hid (fun W' (h : T5 w c v l X (.slice ad Ts.length cd) Ts W') => up_any c v l B _ Ts W' h.cu (HR.out _ h.bl) hBc h.rd (upOk_of HLEN.out HOK.out))
  have hs0 := HS.out.drew
  go_region_held3 (fun wx => wx.cell? ⟨X, 0, none⟩ = some (.slice ad Ts.length cd) ∧ T5 w c v l X (.slice ad Ts.length cd) Ts wx)
    (exact T5.all (by first | assumption | exact T5.setD (by assumption) _ | exact T5.setT (by assumption) _ _ _ | exact T5.setT (T5.setD (by assumption) _) _ _ _ | exact T5.setD (T5.setT (by assumption) _ _ _) _))
    (first | (go_at_call 48; refine (HT.out _ (by assumption)).mono ?_; rintro e w5 ⟨nm, b, y, row, f, rfl, how, hnf, hnm, hrl, hc5, hg5⟩; obtain ⟨a5, cap5, rfl⟩ := Cd.ow_slice how; (have hs5 : T5 w c v l X (.slice ad Ts.length cd) Ts w5 := T5.grown (by assumption) hg5 hc5); (have HRD := Lib.hid (rd_new how (T5.base (by assumption)))); (have HNM := Lib.hid hnm); (have HRL := Lib.hid hrl); (have y0 := hs5.lx.c0); obtain ⟨_, y3, y4⟩ := hs5.lr; obtain ⟨_, _, _, y5, y6, y7, y8, y9, y10⟩ := hs5.lt; clear how hnf hnm hrl hc5 hg5))
  all_goals
    go_wp2_with fail
    obtain ⟨k0, k1, k2, k3, hd, hrr⟩ := both1 (x := .string nm) (y := .bool b) (z := .slice a5 row.length cap5) hs5 rfl
    exact bodyPost_ret (v := .tuple #[.pointer (some ⟨c, 0, none⟩), .agg #[.slice ad Ts.length cd], .agg #[.string nm, .bool b, .slice a5 row.length cap5]]) (by simp [results, Tryz.results19, go_sem, k0, k1, k2, k3]) rfl ⟨.pointer (some ⟨c, 0, none⟩), _, Ts, nm, b, _, row, rfl, tabsC.mono hd.rd fun _ _ q => ⟨by have := HCW.out; have := q.1; omega, q.2⟩, HLEN.out, HOK.out, rowC.mono (hrr _ _ HRD.out) fun _ _ q => ⟨by have := HCW.out; have := q.1; omega, q.2⟩, HNM.out, HRL.out, hd.bl⟩

theorem four1 {W : World} {D : Nat} {a x0 x1 x2 u x y z : Value} (h1 : Loc1 W D a) (h3 : Loc3 W (D + 1) x0 x1 x2) {W' : World}
    (e : W' = (((W.setCell ⟨D, 0, none⟩ u).setCell ⟨D + 1, 0, none⟩ x).setCell ⟨D + 1, 1, none⟩ y).setCell ⟨D + 1, 2, none⟩ z) :
    W'.cell? ⟨D, 0, none⟩ = some u ∧ W'.cell? ⟨D + 1, 0, none⟩ = some x ∧ W'.cell? ⟨D + 1, 1, none⟩ = some y ∧ W'.cell? ⟨D + 1, 2, none⟩ = some z ∧ W'.heap.size = W.heap.size ∧ Below D W W' ∧ ∀ b, D + 2 ≤ b → W'.heap[b]? = W.heap[b]? := by
  subst e
  have h4 : Loc3 (W.setCell ⟨D, 0, none⟩ u) (D + 1) x0 x1 x2 := h3.set_far (by show D ≠ D + 1; omega) _
  obtain ⟨k0, k1, k2⟩ := set3 (w := W.setCell ⟨D, 0, none⟩ u) (k := D + 1) (x := x) (y := y) (z := z) h4.c0 h4.c1 h4.c2
  refine ⟨far3 (World.cell?_setCell_same _ _ _ h1.c0) (by show D ≠ D + 1; omega), k0, k1, k2, by simp, ((((Below.refl D W).setCell (Nat.le_refl _) _).setCell (Nat.le_succ _) _).setCell (Nat.le_succ _) _).setCell (Nat.le_succ _) _, fun b hb => ?_⟩
  rw [Below.heap_setCell _ _ _ b (by show b ≠ D + 1; omega), Below.heap_setCell _ _ _ b (by show b ≠ D + 1; omega), Below.heap_setCell _ _ _ b (by show b ≠ D + 1; omega), Below.heap_setCell _ _ _ b (by show b ≠ D; omega)]
theorem four2 {W : World} {D : Nat} {a x0 x1 x2 u x y z : Value} (h1 : Loc1 W D a) (h3 : Loc3 W (D + 1) x0 x1 x2) {W' : World}
    (e : W' = (((W.setCell ⟨D + 1, 0, none⟩ x).setCell ⟨D + 1, 1, none⟩ y).setCell ⟨D + 1, 2, none⟩ z).setCell ⟨D, 0, none⟩ u) :
    W'.cell? ⟨D, 0, none⟩ = some u ∧ W'.cell? ⟨D + 1, 0, none⟩ = some x ∧ W'.cell? ⟨D + 1, 1, none⟩ = some y ∧ W'.cell? ⟨D + 1, 2, none⟩ = some z ∧ W'.heap.size = W.heap.size ∧ Below D W W' ∧ ∀ b, D + 2 ≤ b → W'.heap[b]? = W.heap[b]? := by
  subst e
  obtain ⟨k0, k1, k2⟩ := set3 (w := W) (k := D + 1) (x := x) (y := y) (z := z) h3.c0 h3.c1 h3.c2
  have hn : ∀ i, (⟨D, 0, none⟩ : Addr) ≠ ⟨D + 1, i, none⟩ := fun i q => by have := congrArg Addr.block q; simp only at this; omega
  refine ⟨World.cell?_setCell_same _ _ _ (far3 h1.c0 (by show D ≠ D + 1; omega)), (World.cell?_setCell_other _ _ _ _ (hn _)).trans k0, (World.cell?_setCell_other _ _ _ _ (hn _)).trans k1, (World.cell?_setCell_other _ _ _ _ (hn _)).trans k2, by simp, ((((Below.refl D W).setCell (Nat.le_succ _) _).setCell (Nat.le_succ _) _).setCell (Nat.le_succ _) _).setCell (Nat.le_refl _) _, fun b hb => ?_⟩
  rw [Below.heap_setCell _ _ _ b (by show b ≠ D; omega), Below.heap_setCell _ _ _ b (by show b ≠ D + 1; omega), Below.heap_setCell _ _ _ b (by show b ≠ D + 1; omega), Below.heap_setCell _ _ _ b (by show b ≠ D + 1; omega)]

set_option maxRecDepth 100000 in
set_option maxHeartbeats 6400000 in
theorem draw_upd (v : Value) (l : List UInt8) (w : World) (hr : Reads w v l w.heap.size) :
    Calls Tryz.prog 5 #[v] w (PairDraw [] w) := by
  have HP := Lib.hid (fun w' (hb : Below w.heap.size w w') => pair_any v l w.heap.size w' (hr.later hb) hb.size)
  clear hr
  go_enter Tryz.func5, Tryz.ntmps5
  go_wp2_with fail
  generalize hW : (w.alloc _).alloc _ = W0
  obtain ⟨r0, r1, hz, hb0⟩ := start2g w _ _ hW
  clear hW
  refine (HP.out W0 hb0).mono ?_
  rintro e w1 ⟨pp, u, Ts, nm, b, y, row, he, hd, hlen, hok, hrow, hnm, hrl, hb1⟩
  obtain ⟨ad, cd, rfl, _⟩ := Cd.sl_form hd
  obtain ⟨ar, cr, rfl, _⟩ := Upd.row_form hrow
  simp only [List.cons_append, List.nil_append] at he
  subst he
  have hL1 := (Loc1.of r0).later hb1
  have hL3 := (Loc3.of r1).later hb1
  have HB1 := Lib.hid (Tab.below_then hb0 hb1)
  have HD := Lib.hid hd
  have HRW := Lib.hid hrow
  have HLS := Lib.hid (And.intro hlen (And.intro hnm hrl))
  have HOK := Lib.hid hok
  have HZ := Lib.hid hz
  have HSZ := Lib.hid hb1.size
  clear r0 r1 hz hb0 hd hlen hok hrow hnm hrl hb1 HP
  go_upto_region 2 with fail
  generalize hW : (w1.alloc _).alloc _ = W2
  obtain ⟨q0, q1, qz, hb2⟩ := start2g w1 _ _ hW
  obtain ⟨s0, _⟩ := Loc1.of q0
  obtain ⟨t0, t1, t2, _, _, _⟩ := Loc3.of q1
  have HM1 := Lib.hid (hL1.later hb2).drew
  have HM3 := Lib.hid (show Loc3 W2.drew (w.heap.size + 1) (.string ⟨#[]⟩) (.bool false) (.slice none 0 0) from (hL3.later hb2).keep rfl)
  have HB2 := Lib.hid (Below.drew (Tab.below_then HB1.out hb2))
  have HD2 := Lib.hid (tabsC.keep (w' := W2.drew) (Cd.later HD.out hb2) fun _ _ _ => rfl)
  have HR2 := Lib.hid (rowC.keep (w' := W2.drew) (Cd.later HRW.out hb2) fun _ _ _ => rfl)
  have HS2 := Lib.hid hb2.size
  obtain ⟨z3, z4⟩ := HM1.out
  obtain ⟨z5, z6, z7, z8, z9, z10⟩ := HM3.out
  have s0' : W2.drew.cell? ⟨w1.heap.size, 0, none⟩ = some (.slice ad Ts.length cd) := s0
  have t0' : W2.drew.cell? ⟨w1.heap.size + 1, 0, none⟩ = some (.string nm) := t0
  have t1' : W2.drew.cell? ⟨w1.heap.size + 1, 1, none⟩ = some (.bool b) := t1
  have t2' : W2.drew.cell? ⟨w1.heap.size + 1, 2, none⟩ = some (.slice ar row.length cr) := t2
  have hlt : w.heap.size + 1 < w1.heap.size := by have := HZ.out; have := HSZ.out; omega
  clear hW q0 q1 qz hb2 hL1 hL3 s0 t0 t1 t2
  have hfar : ∀ (d o p o2 : Nat), d ≤ w.heap.size + 1 → w1.heap.size ≤ p → (⟨d, o, none⟩ : Addr) ≠ ⟨p, o2, none⟩ := fun d o p o2 h1 h2 q => by have := congrArg Addr.block q; simp only at this; omega
  have hD0 : w.heap.size ≤ w.heap.size + 1 := by omega
  have hP1 : w1.heap.size ≤ w1.heap.size + 1 := by omega
  have hne : w1.heap.size ≠ w.heap.size + 1 := by omega
  have hne2 : w1.heap.size + 1 ≠ w.heap.size + 1 := by omega
  refine wp_region_held_drew (S := fun wx => wx.cell? ⟨w1.heap.size, 0, none⟩ = some (.slice ad Ts.length cd) ∧ wx.cell? ⟨w1.heap.size + 1, 0, none⟩ = some (.string nm) ∧ wx.cell? ⟨w1.heap.size + 1, 1, none⟩ = some (.bool b) ∧ wx.cell? ⟨w1.heap.size + 1, 2, none⟩ = some (.slice ar row.length cr)) (by kernel_rfl) ⟨s0', t0', t1', t2'⟩ (fun hHeld => ?_)
  refine RegH.takeH (i := 0) (v := ?_) rfl (by kernel_rfl) (by kernel_rfl) (by kernel_rfl) (fun _ _ _ h => h) (Or.inl ⟨by rfl, ?_⟩) (by assumption) ?_
  rotate_left
  · (intro wS hSw; (try dsimp only at hSw); (obtain ⟨r0, r1, r2, r3⟩ := hSw); go_simp; try (with_reducible rfl))
  try simp only [Act.put, List.setIfInBounds_toArray, List.set_cons_zero, List.set_cons_succ]
  refine RegH.takeH (i := 1) (v := ?_) rfl (by kernel_rfl) (by kernel_rfl) (by kernel_rfl) (fun _ _ _ h => h) (Or.inl ⟨by rfl, ?_⟩) (by assumption) ?_
  rotate_left
  · (intro wS hSw; (try dsimp only at hSw); (obtain ⟨r0, r1, r2, r3⟩ := hSw); go_simp; try (with_reducible rfl))
  try simp only [Act.put, List.setIfInBounds_toArray, List.set_cons_zero, List.set_cons_succ]
  clear hHeld
  generalize W2.drew = W3 at *
  have u0 := (World.cell?_setCell_other W3 ⟨w.heap.size, 0, none⟩ _ (.slice ad Ts.length cd) (hfar w.heap.size 0 w1.heap.size 0 hD0 (Nat.le_refl _))).trans s0'
  have u1 := (World.cell?_setCell_other W3 ⟨w.heap.size, 0, none⟩ _ (.slice ad Ts.length cd) (hfar w.heap.size 0 (w1.heap.size + 1) 0 hD0 hP1)).trans t0'
  have u2 := (World.cell?_setCell_other W3 ⟨w.heap.size, 0, none⟩ _ (.slice ad Ts.length cd) (hfar w.heap.size 0 (w1.heap.size + 1) 1 hD0 hP1)).trans t1'
  have u3 := (World.cell?_setCell_other W3 ⟨w.heap.size, 0, none⟩ _ (.slice ad Ts.length cd) (hfar w.heap.size 0 (w1.heap.size + 1) 2 hD0 hP1)).trans t2'
  obtain ⟨v5, v6, v7, v8, v9, v10⟩ := (HM3.out.set_far (p := ⟨w.heap.size, 0, none⟩) (show w.heap.size ≠ w.heap.size + 1 by omega) (.slice ad Ts.length cd))
  refine RegH.consH (i := 2) rfl (by kernel_rfl) (fun K hK => ?_)
  go_simp
  refine hK.out _ _ ?_ (fun hHeld => ?_)
  · exact ⟨u0, u1, u2, u3⟩
  clear hK K
  try simp only [Act.put, List.setIfInBounds_toArray, List.set_cons_zero, List.set_cons_succ]
  refine RegH.consH (i := 3) rfl (by kernel_rfl) (fun K hK => ?_)
  go_simp
  refine hK.out _ _ ?_ (fun hHeld => ?_)
  · exact ⟨far3 u0 hne, far3 u1 hne2, far3 u2 hne2, far3 u3 hne2⟩
  clear hK K
  try simp only [Act.put, List.setIfInBounds_toArray, List.set_cons_zero, List.set_cons_succ]
  refine wpAnyH_done (by kernel_rfl) ?_ _
  · go_wp2_with fail
    obtain ⟨k0, k1, k2, k3, k4, k5, k6⟩ := four1 (D := w.heap.size) (u := .slice ad Ts.length cd) (x := .string nm) (y := .bool b) (z := .slice ar row.length cr) HM1.out HM3.out rfl
    have hD3 := tabsC.keep HD2.out (fun q hq _ => k6 q (by have := HZ.out; have h := hq.1; omega))
    have hR3 := rowC.keep HR2.out (fun q hq _ => k6 q (by have := HZ.out; have h := hq.1; omega))
    have hD4 := tabsC.mono hD3 (fun q hlt hq => (⟨by have := HZ.out; have h := hq.1; omega, hlt⟩ : w.heap.size ≤ q ∧ q < _))
    have hR4 := rowC.mono hR3 (fun q hlt hq => (⟨by have := HZ.out; have h := hq.1; omega, hlt⟩ : w.heap.size ≤ q ∧ q < _))
    have hB4 := HB2.out.trans k5
    refine bodyPost_ret (v := .tuple #[.agg #[.slice ad Ts.length cd], .agg #[.string nm, .bool b, .slice ar row.length cr]]) (by simp [results, Tryz.results5, go_sem, k0, k1, k2, k3]) rfl ?_
    exact ⟨_, Ts, nm, b, _, row, rfl, hD4, HLS.out.1, HOK.out, hR4, HLS.out.2.1, HLS.out.2.2, hB4⟩
end Go.Proofs.YtinchhahcheadaaGreat.UpdDraw
