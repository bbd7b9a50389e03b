/- How the laws draw tables: a table and a row. -/
import Derived.Test.YtdjgaffiildijabGreatDoorTabDraw2
namespace Go.Proofs.YtdjgaffiildijabGreatDoor.TabSpec
open Go Go.RowKit Byt Ints IntsLaw IntsWalk Draw LocDraw Cd Rows2 Tab TabDraw

/-- In the drawing of a table and a row: the result's cells, the cursor behind them, the local table in block X. -/
structure Sb (w : World) (c : Nat) (v : Value) (l : List UInt8) (X : Nat) (nm : ByteArray) (ar : Int) (u : Value) (rows : List (List Int)) (fp : List Nat) (W : World) : Prop where
  how : rowsC.ow W (c + 1) [u] rows fp
  lx : Loc3 W X (.string nm) (.int .i64 ar) u
  lr : Loc3 W w.heap.size (.string ⟨#[]⟩) (.int .i64 0) (.slice none 0 0)
  xb : c < X
  cb : w.heap.size < c
  cu : Cur W c v l
  bl : Below w.heap.size w W
theorem Sb.alloc {w : World} {c : Nat} {v : Value} {l : List UInt8} {X : Nat} {nm : ByteArray} {ar : Int} {u : Value} {rows : List (List Int)} {fp : List Nat} {W : World} (h : Sb w c v l X nm ar u rows fp W) (o : Obj) : Sb w c v l X nm ar u rows fp (W.alloc o) :=
  ⟨Cd.ow_later h.how (below_alloc W o), h.lx.later (below_alloc W o), h.lr.later (below_alloc W o), h.xb, h.cb, cur_allocI o h.cu, Tab.below_then h.bl (below_alloc W o)⟩
theorem Sb.drew {w : World} {c : Nat} {v : Value} {l : List UInt8} {X : Nat} {nm : ByteArray} {ar : Int} {u : Value} {rows : List (List Int)} {fp : List Nat} {W : World} (h : Sb w c v l X nm ar u rows fp W) : Sb w c v l X nm ar u rows fp W.drew :=
  ⟨rowsC.ow_keep h.how fun _ _ => rfl, h.lx.keep rfl, h.lr.keep rfl, h.xb, h.cb, h.cu, Below.drew h.bl⟩
theorem Sb.grown {w : World} {c : Nat} {v : Value} {l : List UInt8} {X : Nat} {nm : ByteArray} {ar : Int} {u : Value} {rows : List (List Int)} {fp : List Nat} {W W' : World} (h : Sb w c v l X nm ar u rows fp W) (hg : W.grownBy W' (some c)) (hc : Cur W' c v l) : Sb w c v l X nm ar u rows fp W' :=
  have h1 := h.cb
  have h2 := h.xb
  ⟨ow_grown h.how hg (by omega), loc_grown h.lx hg (by omega), loc_grown h.lr hg (by omega), h.xb, h.cb, hc, h.bl.trans (below_of hg (by omega) (cur_size h.cu))⟩

theorem Sb.cell {w : World} {c : Nat} {v : Value} {l : List UInt8} {X : Nat} {nm : ByteArray} {ar : Int} {b off cap : Nat} {rows : List (List Int)} {fp : List Nat} {W : World} (h : Sb w c v l X nm ar (.slice (some ⟨b, off, none⟩) rows.length cap) rows fp W) {j : Nat} (hj : j < rows.length) :
    ∃ u, W.cell? ⟨b, off + j, none⟩ = some u ∧ rowC.rd W (· < W.heap.size) [u] rows[j] := by
  obtain ⟨b', off', cap', u, e1, hb, hc, hu⟩ := rows_at (Cd.reads h.how) hj
  injection e1 with e1 e2 e3
  injection e1 with e1
  injection e1 with e4 e5 e6
  subst e4 e5
  exact ⟨u, hc, hu⟩
theorem Sb.touched {w : World} {c : Nat} {v : Value} {l : List UInt8} {X : Nat} {nm : ByteArray} {ar : Int} {u : Value} {rows : List (List Int)} {fp : List Nat} {W W' : World} {L : Nat} (h : Sb w c v l X nm ar u rows fp W) (ht : Cd.Touch [L] W W') (hL : L ∉ fp ∧ X < L) : Sb w c v l X nm ar u rows fp W' := by
  have h1 := h.cb
  have h2 := h.xb
  obtain ⟨h3, h4⟩ := hL
  refine ⟨Cd.ow_touched h.how ht (fun b hb q => h3 (by rw [List.mem_singleton.1 q] at hb; exact hb)), h.lx.touched ht (by simp; omega), h.lr.touched ht (by simp; omega), h.xb, h.cb, ?_, ?_⟩
  · obtain ⟨i, x, hi, hh⟩ := h.cu
    exact ⟨i, x, hi, ht.row hh (by simp; omega)⟩
  · exact Cd.Touch.below h.bl ht (fun b hb => by rw [List.mem_singleton.1 hb]; omega)
theorem Sb.fresh {w : World} {c : Nat} {v : Value} {l : List UInt8} {X : Nat} {nm : ByteArray} {ar : Int} {u : Value} {rows : List (List Int)} {fp : List Nat} {W : World} (h : Sb w c v l X nm ar u rows fp W) : W.heap.size ∉ fp ∧ X < W.heap.size :=
  ⟨fun q => Nat.lt_irrefl _ (rowsC.ow_lt h.how _ q).2, h.lx.lt⟩
theorem Sb.base {w : World} {c : Nat} {v : Value} {l : List UInt8} {X : Nat} {nm : ByteArray} {ar : Int} {u : Value} {rows : List (List Int)} {fp : List Nat} {W : World} (h : Sb w c v l X nm ar u rows fp W) : c + 1 ≤ W.heap.size := by
  have := h.lx.lt
  have := h.xb
  omega

theorem reads_new {α : Type} {c : Cd α} {w : World} {base B : Nat} {us : List Value} {a : α} {fp : List Nat} (h : c.ow w base us a fp) (hb : B ≤ base) : c.rd w (fun b => B ≤ b ∧ b < w.heap.size) us a :=
  c.mono (c.ow_rd h) fun b _ hq => ⟨Nat.le_trans hb (c.ow_lt h b hq).1, (c.ow_lt h b hq).2⟩
/-- A drawn table and a drawn row. -/
def BothAns (w : World) (e : Ending) (w' : World) : Prop :=
  ∃ (nm : ByteArray) (ar : Int) (u v : Value) (rows : List (List Int)) (row : List Int), e = .returned (.tuple #[.agg #[.string nm, .int .i64 ar, u], v]) ∧ nm.size ≤ 2 ∧ (-1 ≤ ar ∧ ar ≤ 4) ∧ rowsC.rd w' (fun b => w.heap.size ≤ b ∧ b < w'.heap.size) [u] rows ∧ rowsWt rows ≤ 28 ∧ rowC.rd w' (fun b => w.heap.size ≤ b ∧ b < w'.heap.size) [v] row ∧ row.length ≤ 28 ∧ Below w.heap.size w w'
theorem Sb.done {w : World} {c : Nat} {v : Value} {l : List UInt8} {X : Nat} {nm : ByteArray} {ar : Int} {u : Value} {rows : List (List Int)} {fp : List Nat} {W : World} (h : Sb w c v l X nm ar u rows fp W) (hnm : nm.size ≤ 2) (har : -1 ≤ ar ∧ ar ≤ 4) (hwt : rowsWt rows ≤ 28) {v' : Value} {row : List Int} {f : List Nat} (hv : rowC.ow W (c + 1) [v'] row f) (hvl : row.length ≤ 28) (x y z : Value) :
    BothAns w (.returned (.tuple #[.agg #[.string nm, .int .i64 ar, u], v'])) (((W.setCell ⟨w.heap.size, 0, none⟩ x).setCell ⟨w.heap.size, 1, none⟩ y).setCell ⟨w.heap.size, 2, none⟩ z) := by
  have h1 := h.cb
  have hn : w.heap.size ∉ fp := fun q => by have h1 := (rowsC.ow_lt h.how _ q).1; omega
  have hn2 : w.heap.size ∉ f := fun q => by have h1 := (rowC.ow_lt hv _ q).1; omega
  exact ⟨nm, ar, u, v', rows, row, rfl, hnm, har, reads_new (ow_setCell (ow_setCell (ow_setCell h.how hn _) hn _) hn _) (by omega), hwt, reads_new (ow_setCell (ow_setCell (ow_setCell hv hn2 _) hn2 _) hn2 _) (by omega), hvl,
    ((h.bl.setCell (Nat.le_refl _) _).setCell (Nat.le_refl _) _).setCell (Nat.le_refl _) _⟩

/-- The same, behind the result's store too. -/
structure S4 (w : World) (c : Nat) (v : Value) (l : List UInt8) (X : Nat) (nm : ByteArray) (ar : Int) (u : Value) (rows : List (List Int)) (fp : List Nat) (W : World) : Prop where
  how : rowsC.ow W (c + 1) [u] rows fp
  lx : Loc3 W X (.string nm) (.int .i64 ar) u
  lr : ∃ p q r, Loc3 W w.heap.size p q r
  xb : c < X
  cb : w.heap.size < c
  cu : Cur W c v l
  bl : Below w.heap.size w W
theorem S4.of {w : World} {c : Nat} {v : Value} {l : List UInt8} {X : Nat} {nm : ByteArray} {ar : Int} {u : Value} {rows : List (List Int)} {fp : List Nat} {W : World} (h : Sb w c v l X nm ar u rows fp W) : S4 w c v l X nm ar u rows fp W := ⟨h.how, h.lx, ⟨_, _, _, h.lr⟩, h.xb, h.cb, h.cu, h.bl⟩
theorem S4.alloc {w : World} {c : Nat} {v : Value} {l : List UInt8} {X : Nat} {nm : ByteArray} {ar : Int} {u : Value} {rows : List (List Int)} {fp : List Nat} {W : World} (h : S4 w c v l X nm ar u rows fp W) (o : Obj) : S4 w c v l X nm ar u rows fp (W.alloc o) :=
  have ⟨_, _, _, hl⟩ := h.lr
  ⟨Cd.ow_later h.how (below_alloc W o), h.lx.later (below_alloc W o), ⟨_, _, _, hl.later (below_alloc W o)⟩, h.xb, h.cb, cur_allocI o h.cu, Tab.below_then h.bl (below_alloc W o)⟩
theorem S4.drew {w : World} {c : Nat} {v : Value} {l : List UInt8} {X : Nat} {nm : ByteArray} {ar : Int} {u : Value} {rows : List (List Int)} {fp : List Nat} {W : World} (h : S4 w c v l X nm ar u rows fp W) : S4 w c v l X nm ar u rows fp W.drew :=
  have ⟨_, _, _, hl⟩ := h.lr
  ⟨rowsC.ow_keep h.how fun _ _ => rfl, h.lx.keep rfl, ⟨_, _, _, hl.keep rfl⟩, h.xb, h.cb, h.cu, Below.drew h.bl⟩
theorem S4.grown {w : World} {c : Nat} {v : Value} {l : List UInt8} {X : Nat} {nm : ByteArray} {ar : Int} {u : Value} {rows : List (List Int)} {fp : List Nat} {W W' : World} (h : S4 w c v l X nm ar u rows fp W) (hg : W.grownBy W' (some c)) (hc : Cur W' c v l) : S4 w c v l X nm ar u rows fp W' :=
  have h1 := h.cb
  have h2 := h.xb
  have ⟨_, _, _, hl⟩ := h.lr
  ⟨ow_grown h.how hg (by omega), loc_grown h.lx hg (by omega), ⟨_, _, _, loc_grown hl hg (by omega)⟩, h.xb, h.cb, hc, h.bl.trans (below_of hg (by omega) (cur_size h.cu))⟩
theorem S4.fresh {w : World} {c : Nat} {v : Value} {l : List UInt8} {X : Nat} {nm : ByteArray} {ar : Int} {u : Value} {rows : List (List Int)} {fp : List Nat} {W : World} (h : S4 w c v l X nm ar u rows fp W) : W.heap.size ∉ fp ∧ X < W.heap.size :=
  ⟨fun q => Nat.lt_irrefl _ (rowsC.ow_lt h.how _ q).2, h.lx.lt⟩
theorem S4.base {w : World} {c : Nat} {v : Value} {l : List UInt8} {X : Nat} {nm : ByteArray} {ar : Int} {u : Value} {rows : List (List Int)} {fp : List Nat} {W : World} (h : S4 w c v l X nm ar u rows fp W) : c + 1 ≤ W.heap.size := by
  have := h.lx.lt
  have := h.xb
  omega
theorem S4.touched {w : World} {c : Nat} {v : Value} {l : List UInt8} {X : Nat} {nm : ByteArray} {ar : Int} {u : Value} {rows : List (List Int)} {fp : List Nat} {W W' : World} {L : Nat} (h : S4 w c v l X nm ar u rows fp W) (ht : Cd.Touch [L] W W') (hL : L ∉ fp ∧ X < L) : S4 w c v l X nm ar u rows fp W' := by
  have h1 := h.cb
  have h2 := h.xb
  obtain ⟨h3, h4⟩ := hL
  obtain ⟨_, _, _, hl⟩ := h.lr
  refine ⟨Cd.ow_touched h.how ht (fun b hb q => h3 (by rw [List.mem_singleton.1 q] at hb; exact hb)), h.lx.touched ht (by simp; omega), ⟨_, _, _, hl.touched ht (by simp; omega)⟩, h.xb, h.cb, ?_, ?_⟩
  · obtain ⟨i, x, hi, hh⟩ := h.cu
    exact ⟨i, x, hi, ht.row hh (by simp; omega)⟩
  · exact Cd.Touch.below h.bl ht (fun b hb => by rw [List.mem_singleton.1 hb]; omega)
theorem S4.cell {w : World} {c : Nat} {v : Value} {l : List UInt8} {X : Nat} {nm : ByteArray} {ar : Int} {b off cap : Nat} {rows : List (List Int)} {fp : List Nat} {W : World} (h : S4 w c v l X nm ar (.slice (some ⟨b, off, none⟩) rows.length cap) rows fp W) {j : Nat} (hj : j < rows.length) :
    ∃ u, W.cell? ⟨b, off + j, none⟩ = some u ∧ rowC.rd W (· < W.heap.size) [u] rows[j] := by
  obtain ⟨b', off', cap', u, e1, hb, hc, hu⟩ := rows_at (Cd.reads h.how) hj
  injection e1 with e1 e2 e3
  injection e1 with e1
  injection e1 with e4 e5 e6
  subst e4 e5
  exact ⟨u, hc, hu⟩
theorem S4.store {w : World} {c : Nat} {v : Value} {l : List UInt8} {X : Nat} {nm : ByteArray} {ar : Int} {u : Value} {rows : List (List Int)} {fp : List Nat} {W : World} (h : S4 w c v l X nm ar u rows fp W) (x y z : Value) :
    S4 w c v l X nm ar u rows fp (((W.setCell ⟨w.heap.size, 0, none⟩ x).setCell ⟨w.heap.size, 1, none⟩ y).setCell ⟨w.heap.size, 2, none⟩ z) := by
  have h1 := h.cb
  have h2 := h.xb
  obtain ⟨p, q, r, hl⟩ := h.lr
  have hn : w.heap.size ∉ fp := fun q => by have h1 := (rowsC.ow_lt h.how _ q).1; omega
  have hne : c ≠ w.heap.size := by omega
  have hx : X ≠ w.heap.size := by omega
  obtain ⟨c0, c1, c2, f0, f1, f2⟩ := hl
  obtain ⟨k0, k1, k2⟩ := set3 (w := W) (k := w.heap.size) (x := x) (y := y) (z := z) c0 c1 c2
  exact ⟨ow_setCell (ow_setCell (ow_setCell h.how hn _) hn _) hn _, Loc3.set_far (Loc3.set_far (Loc3.set_far h.lx hx.symm _) hx.symm _) hx.symm _, ⟨_, _, _, k0, k1, k2, by simpa using f0, by simpa using f1, by simpa using f2⟩, h.xb, h.cb,
    cur_farI _ (cur_farI _ (cur_farI _ h.cu hne) hne) hne, ((h.bl.setCell (Nat.le_refl _) _).setCell (Nat.le_refl _) _).setCell (Nat.le_refl _) _⟩
theorem S4.all {w : World} {c : Nat} {v : Value} {l : List UInt8} {X : Nat} {nm : ByteArray} {ar : Int} {u : Value} {rows : List (List Int)} {fp : List Nat} {W : World} (h : S4 w c v l X nm ar u rows fp W) : W.cell? ⟨X, 0, none⟩ = some (.string nm) ∧ W.cell? ⟨X, 1, none⟩ = some (.int .i64 ar) ∧ W.cell? ⟨X, 2, none⟩ = some u ∧ S4 w c v l X nm ar u rows fp W :=
  ⟨h.lx.c0, h.lx.c1, h.lx.c2, h⟩
theorem S4.done {w : World} {c : Nat} {v : Value} {l : List UInt8} {X : Nat} {nm : ByteArray} {ar : Int} {u : Value} {rows : List (List Int)} {fp : List Nat} {W : World} (h : S4 w c v l X nm ar u rows fp W) (hnm : nm.size ≤ 2) (har : -1 ≤ ar ∧ ar ≤ 4) (hwt : rowsWt rows ≤ 28) {v' : Value} {row : List Int} {f : List Nat} (hv : rowC.ow W (c + 1) [v'] row f) (hvl : row.length ≤ 28) (x y z : Value) :
    BothAns w (.returned (.tuple #[.agg #[.string nm, .int .i64 ar, u], v'])) (((W.setCell ⟨w.heap.size, 0, none⟩ x).setCell ⟨w.heap.size, 1, none⟩ y).setCell ⟨w.heap.size, 2, none⟩ z) := by
  have h1 := h.cb
  have hn : w.heap.size ∉ fp := fun q => by have h1 := (rowsC.ow_lt h.how _ q).1; omega
  have hn2 : w.heap.size ∉ f := fun q => by have h1 := (rowC.ow_lt hv _ q).1; omega
  exact ⟨nm, ar, u, v', rows, row, rfl, hnm, har, reads_new (ow_setCell (ow_setCell (ow_setCell h.how hn _) hn _) hn _) (by omega), hwt, reads_new (ow_setCell (ow_setCell (ow_setCell hv hn2 _) hn2 _) hn2 _) (by omega), hvl,
    ((h.bl.setCell (Nat.le_refl _) _).setCell (Nat.le_refl _) _).setCell (Nat.le_refl _) _⟩
/-- An empty slice of the call's own. -/
structure Emp (c X : Nat) (fp : List Nat) (L : Nat) (W : World) : Prop where
  how : rowC.ow W (c + 1) [.slice (some ⟨L, 0, none⟩) 0 0] [] [L]
  far : L ∉ fp ∧ X < L
theorem S4.emp {w : World} {c : Nat} {v : Value} {l : List UInt8} {X : Nat} {nm : ByteArray} {ar : Int} {u : Value} {rows : List (List Int)} {fp : List Nat} {W : World} (h : S4 w c v l X nm ar u rows fp W) : Emp c X fp W.heap.size (W.alloc (.cells #[] 3)) :=
  ⟨Cd.ow_empty W _ h.base, h.fresh⟩
theorem Emp.grown {c X : Nat} {fp : List Nat} {L : Nat} {W W' : World} (h : Emp c X fp L W) (hg : W.grownBy W' (some c)) : Emp c X fp L W' := ⟨ow_grown h.how hg (Nat.lt_succ_self c), h.far⟩
theorem S4.emp_grown {w : World} {c : Nat} {v : Value} {l : List UInt8} {X : Nat} {nm : ByteArray} {ar : Int} {u : Value} {rows : List (List Int)} {fp : List Nat} {W W' : World} (h : S4 w c v l X nm ar u rows fp W) (hg : (W.alloc (.cells #[] 3)).grownBy W' (some c)) : Emp c X fp W.heap.size W' := h.emp.grown hg
theorem S4.emp_grown' {w : World} {c : Nat} {v : Value} {l : List UInt8} {X : Nat} {nm : ByteArray} {ar : Int} {u : Value} {rows : List (List Int)} {fp : List Nat} {W W' : World} (h : S4 w c v l X nm ar u rows fp W.drew) (hg : (W.drew.alloc (.cells #[] 3)).grownBy W' (some c)) : Emp c X fp W.heap.size W' := h.emp.grown hg

/-- The same, and block bb holds what it held. -/
structure S5 (w : World) (c : Nat) (v : Value) (l : List UInt8) (X : Nat) (nm : ByteArray) (ar : Int) (u : Value) (rows : List (List Int)) (fp : List Nat) (bb oo : Nat) (U : Nat → Value) (W : World) : Prop where
  st : S4 w c v l X nm ar u rows fp W
  mem : bb ∈ fp
  el : ∀ j, j < rows.length → W.cell? ⟨bb, oo + j, none⟩ = some (U j)
theorem S5.keep {w : World} {c : Nat} {v : Value} {l : List UInt8} {X : Nat} {nm : ByteArray} {ar : Int} {u : Value} {rows : List (List Int)} {fp : List Nat} {bb oo : Nat} {U : Nat → Value} {W W' : World} (h : S5 w c v l X nm ar u rows fp bb oo U W) (h' : S4 w c v l X nm ar u rows fp W') (e : W'.heap[bb]? = W.heap[bb]?) : S5 w c v l X nm ar u rows fp bb oo U W' :=
  ⟨h', h.mem, fun j hj => by
    have := h.el j hj
    unfold World.cell? at *
    rw [e]
    exact this⟩
theorem S5.alloc {w : World} {c : Nat} {v : Value} {l : List UInt8} {X : Nat} {nm : ByteArray} {ar : Int} {u : Value} {rows : List (List Int)} {fp : List Nat} {bb oo : Nat} {U : Nat → Value} {W : World} (h : S5 w c v l X nm ar u rows fp bb oo U W) (o : Obj) : S5 w c v l X nm ar u rows fp bb oo U (W.alloc o) :=
  h.keep (h.st.alloc o) ((below_alloc W o).block bb (rowsC.ow_lt h.st.how bb h.mem).2)
theorem S5.grown {w : World} {c : Nat} {v : Value} {l : List UInt8} {X : Nat} {nm : ByteArray} {ar : Int} {u : Value} {rows : List (List Int)} {fp : List Nat} {bb oo : Nat} {U : Nat → Value} {W W' : World} (h : S5 w c v l X nm ar u rows fp bb oo U W) (hg : W.grownBy W' (some c)) (hc : Cur W' c v l) : S5 w c v l X nm ar u rows fp bb oo U W' :=
  h.keep (h.st.grown hg hc) (hg.block bb (rowsC.ow_lt h.st.how bb h.mem).2 (by intro q; injection q with q; have := (rowsC.ow_lt h.st.how bb h.mem).1; omega))
theorem S5.touched {w : World} {c : Nat} {v : Value} {l : List UInt8} {X : Nat} {nm : ByteArray} {ar : Int} {u : Value} {rows : List (List Int)} {fp : List Nat} {bb oo : Nat} {U : Nat → Value} {W W' : World} {L : Nat} (h : S5 w c v l X nm ar u rows fp bb oo U W) (ht : Cd.Touch [L] W W') (hL : L ∉ fp ∧ X < L) : S5 w c v l X nm ar u rows fp bb oo U W' :=
  h.keep (h.st.touched ht hL) (ht.block bb (rowsC.ow_lt h.st.how bb h.mem).2 (by rw [List.mem_singleton]; intro q; exact hL.1 (q ▸ h.mem)))
theorem S5.store {w : World} {c : Nat} {v : Value} {l : List UInt8} {X : Nat} {nm : ByteArray} {ar : Int} {u : Value} {rows : List (List Int)} {fp : List Nat} {bb oo : Nat} {U : Nat → Value} {W : World} (h : S5 w c v l X nm ar u rows fp bb oo U W) (x y z : Value) :
    S5 w c v l X nm ar u rows fp bb oo U (((W.setCell ⟨w.heap.size, 0, none⟩ x).setCell ⟨w.heap.size, 1, none⟩ y).setCell ⟨w.heap.size, 2, none⟩ z) := by
  have hb : bb ≠ w.heap.size := by have := (rowsC.ow_lt h.st.how bb h.mem).1; have := h.st.cb; omega
  refine h.keep (h.st.store x y z) ?_
  rw [Below.heap_setCell _ _ _ _ (by exact hb), Below.heap_setCell _ _ _ _ (by exact hb), Below.heap_setCell _ _ _ _ (by exact hb)]
theorem S5.all {w : World} {c : Nat} {v : Value} {l : List UInt8} {X : Nat} {nm : ByteArray} {ar : Int} {u : Value} {rows : List (List Int)} {fp : List Nat} {bb oo : Nat} {U : Nat → Value} {W : World} (h : S5 w c v l X nm ar u rows fp bb oo U W) : W.cell? ⟨X, 0, none⟩ = some (.string nm) ∧ W.cell? ⟨X, 1, none⟩ = some (.int .i64 ar) ∧ W.cell? ⟨X, 2, none⟩ = some u ∧ (∀ j, j < rows.length → W.cell? ⟨bb, oo + j, none⟩ = some (U j)) ∧ S5 w c v l X nm ar u rows fp bb oo U W :=
  ⟨h.st.lx.c0, h.st.lx.c1, h.st.lx.c2, h.el, h⟩
theorem minmax (ar : Int) : ∃ n : Nat, n ≤ 3 ∧ (n : Int) = (if 0 < (if ar < 3 then ar else 3) then (if ar < 3 then ar else 3) else 0) :=
  ⟨(if 0 < (if ar < 3 then ar else 3) then (if ar < 3 then ar else 3) else 0).toNat, by split <;> split at * <;> omega, by split <;> split at * <;> omega⟩

set_option maxRecDepth 100000 in
set_option maxHeartbeats 3200000 in
theorem both_any (v : Value) (l : List UInt8) (w : World) (hr : Reads w v l w.heap.size) :
    Calls Tryz.prog 45 #[v] w (BothAns w) := by
  have HR := Lib.hid (fun w' (hb : Below w.heap.size w w') => hr.later hb)
  clear hr
  go_enter Tryz.func45, Tryz.ntmps45
  go_wp2_with fail
  generalize hW : w.alloc _ = W0
  obtain ⟨r0, hz, hb0⟩ := start1 w _ hW
  clear hW
  have HX0 := Lib.hid (Loc3.of r0)
  have HB0 := Lib.hid hb0
  have HN := Lib.hid (new_any v l w.heap.size W0 (HR.out _ hb0))
  clear r0 hb0
  refine HN.out.mono ?_
  rintro e w1 ⟨rfl, hc1, hg1⟩
  have hb1 : Below W0.heap.size W0 w1 := ⟨hg1.os, hg1.tape, hg1.output, hg1.size, fun k hk => hg1.block k hk (by simp)⟩
  rw [hz] at hc1
  rw [hz]
  generalize hcc : w.heap.size + 1 = c at *
  have HX1 := Lib.hid (HX0.out.later hb1)
  have HB1 := Lib.hid (Tab.below_then HB0.out hb1)
  have HA := Lib.hid (tabany_any c v l w.heap.size w1 hc1 (HR.out _ HB1.out) (by omega))
  have hcs1 := cur_size hc1
  clear hb1 hc1 hg1 HN HX0 HB0
  go_wp2_with fail
  refine HA.out.mono ?_
  rintro e w2 ⟨nm, ar, u, rows, fp, rfl, hnm, har, how, hnd, hwt, hc2, hg2⟩
  obtain ⟨a2, cap2, rfl⟩ := Cd.ow_slice how
  have HX2 := Lib.hid (loc_grown HX1.out hg2 (by omega))
  have HB2 := Lib.hid (HB1.out.trans (below_of hg2 (by omega) hcs1))
  have hs2 : c < w2.heap.size := cur_size hc2
  have HOW := Lib.hid (rowsC.ow_base how (show c + 1 ≤ w1.heap.size by omega))
  have HC2 := Lib.hid hc2
  have HWT := Lib.hid hwt
  clear how hnd hwt hc2 hg2 HX1 HB1 HA
  have HST := Lib.hid (show ∀ (e : TypeId) (W : World) (n : Nat), n = rows.length → w2.alloc (.cells #[.string nm, .int .i64 ar, .slice a2 n cap2] e) = W → Sb w c v l w2.heap.size nm ar (.slice a2 n cap2) rows fp W from fun e W n hn hW => by
    obtain ⟨r0, hz2, hb2⟩ := start1 w2 _ hW
    subst hn
    exact ⟨Cd.ow_later HOW.out hb2, Loc3.of r0, HX2.out.later hb2, hs2, by omega, cur_below HC2.out hb2 (by omega), Tab.below_then HB2.out hb2⟩)
  by_cases hr0 : rows.length = 0
  · go_wp2_with fail
    generalize hW : w2.alloc _ = W
    have HS := Lib.hid (HST.out _ _ 0 hr0.symm hW)
    clear hW
    generalize w2.heap.size = X at *
    obtain ⟨x0, x1, x2, y0, y1, y2⟩ := HS.out.lx
    obtain ⟨z0, z1, z2, f0, f1, f2⟩ := HS.out.lr
    obtain ⟨n, hn3, hen⟩ := minmax ar
    have HQ := Lib.hid (some_any n (by omega) c v l w.heap.size W.drew HS.out.cu (HR.out _ HS.out.bl.drew) (by omega))
    rw [hen] at HQ
    have HN3 := Lib.hid hn3
    clear hen hn3
    go_region_with (first | (go_at_call 62; refine HQ.out.mono ?_; rintro e w7 ⟨u7, ls, rfl, ho7, hl7, hi7, hc7, hg7⟩; generalize (if 0 < if ar < 3 then ar else 3 then if ar < 3 then ar else 3 else 0) = qq; generalize (if ar < 3 then ar else 3) = qr; (have HS7 := Lib.hid (HS.out.drew.grown hg7 hc7)); (have HO7 := Lib.hid (And.intro ho7 hi7)); (have HL7 := Lib.hid hl7); (obtain ⟨xx0, xx1, xx2, yy0, yy1, yy2⟩ := HS7.out.lx); (obtain ⟨zz0, zz1, zz2, ff0, ff1, ff2⟩ := HS7.out.lr); clear ho7 hl7 hi7 hc7 hg7; go_simp))
    all_goals
      go_wp2_with fail
      obtain ⟨k0, k1, k2⟩ := set3 (w := w7) (k := w.heap.size) (x := .string nm) (y := .int .i64 ar) (z := .slice a2 0 cap2) zz0 zz1 zz2
      refine bodyPost_ret (v := .tuple #[.agg #[.string nm, .int .i64 ar, .slice a2 0 cap2], u7]) (by simp [results, Tryz.results45, go_sem, k0, k1, k2]) rfl (HS7.out.done hnm har HWT.out (row := ls) (show rowC.ow w7 (c + 1) _ _ _ from Cd.ow_of_own (HO7.out.1.base_mono (by have := HS.out.lx.lt; have := HS.out.xb; show _ ≤ W.heap.size; omega)) HO7.out.2) (by have := HL7.out; have := HN3.out; omega) _ _ _)
  · have hr1 : 0 < rows.length := by omega
    have hr2 : (0 : Int) < (rows.length : Int) := by omega
    go_wp2_with fail
    generalize hW : w2.alloc _ = W
    have HS := Lib.hid (HST.out _ _ _ rfl hW)
    clear hW
    generalize w2.heap.size = X at *
    have HON := Lib.hid (once_anyI 2 c v l w.heap.size W HS.out.cu (HR.out _ HS.out.bl) (by omega))
    refine HON.out.mono ?_
    rintro e w3 ⟨b, rfl, hc3, hg3⟩
    have HS3 := Lib.hid (HS.out.grown hg3 hc3)
    clear hc3 hg3 HON
    cases b
    · go_wp2_with fail
      obtain ⟨x0, x1, x2, y0, y1, y2⟩ := HS3.out.lx
      obtain ⟨z0, z1, z2, f0, f1, f2⟩ := HS3.out.lr
      obtain ⟨n, hn3, hen⟩ := minmax ar
      have HQ := Lib.hid (some_any n (by omega) c v l w.heap.size w3.drew HS3.out.cu (HR.out _ HS3.out.bl.drew) (by omega))
      rw [hen] at HQ
      have HN3 := Lib.hid hn3
      clear hen hn3
      go_region_with (first | (go_at_call 62; refine HQ.out.mono ?_; rintro e w7 ⟨u7, ls, rfl, ho7, hl7, hi7, hc7, hg7⟩; generalize (if 0 < if ar < 3 then ar else 3 then if ar < 3 then ar else 3 else 0) = qq; generalize (if ar < 3 then ar else 3) = qr; (have HS7 := Lib.hid (HS3.out.drew.grown hg7 hc7)); (have HO7 := Lib.hid (And.intro ho7 hi7)); (have HL7 := Lib.hid hl7); (obtain ⟨xx0, xx1, xx2, yy0, yy1, yy2⟩ := HS7.out.lx); (obtain ⟨zz0, zz1, zz2, ff0, ff1, ff2⟩ := HS7.out.lr); clear ho7 hl7 hi7 hc7 hg7; go_simp))
      all_goals
        go_wp2_with fail
        obtain ⟨k0, k1, k2⟩ := set3 (w := w7) (k := w.heap.size) (x := .string nm) (y := .int .i64 ar) (z := .slice a2 rows.length cap2) zz0 zz1 zz2
        refine bodyPost_ret (v := .tuple #[.agg #[.string nm, .int .i64 ar, .slice a2 rows.length cap2], u7]) (by simp [results, Tryz.results45, go_sem, k0, k1, k2]) rfl (HS7.out.done hnm har HWT.out (row := ls) (show rowC.ow w7 (c + 1) _ _ _ from Cd.ow_of_own (HO7.out.1.base_mono (by have := HS3.out.lx.lt; have := HS3.out.xb; show _ ≤ w3.heap.size; omega)) HO7.out.2) (by have := HL7.out; have := HN3.out; omega) _ _ _)
    · go_wp2_with fail
      obtain ⟨bb, oo, cc, uu, e1, _, _, _⟩ := rows_at (Cd.reads HS3.out.how) hr1
      injection e1 with e1 e2 e3
      subst e1 e3
      clear e2
      have HALL := Lib.hid (show ∀ j (h : j < rows.length), rows[j].length ≤ 28 from fun j h => by have h1 := HWT.out; unfold rowsWt at h1; have h2 := row_len h; omega)
      have HBB := Lib.hid HS3.out.base
      clear HST HX2 HB2 HOW HC2 HS
      obtain ⟨U, hU⟩ : ∃ U : Nat → Value, ∀ j, j < rows.length → w3.drew.cell? ⟨bb, oo + j, none⟩ = some (U j) := ⟨fun j => (w3.cell? ⟨bb, oo + j, none⟩).getD .nilIface, fun j hj => by
        obtain ⟨u, hu, _⟩ := HS3.out.cell hj
        show w3.cell? ⟨bb, oo + j, none⟩ = some ((w3.cell? ⟨bb, oo + j, none⟩).getD .nilIface)
        rw [hu]
        rfl⟩
      have hmem : bb ∈ fp := by
        obtain ⟨v', xss, fps, e1, _, _, rfl⟩ := HS3.out.how
        injection e1 with e1 _
        subst e1
        exact List.mem_append_left _ (by simp [Value.ownBlock])
      have HA := Lib.hid (fun W' (h : S5 w c v l X nm ar (.slice (some ⟨bb, oo, none⟩) rows.length cap2) rows fp bb oo U W') => below_any rows.length c v l w.heap.size W' h.st.cu (HR.out _ h.st.bl) (by have := h.st.cb; omega))
      have hs0 : S5 w c v l X nm ar (.slice (some ⟨bb, oo, none⟩) rows.length cap2) rows fp bb oo U w3.drew := ⟨(S4.of HS3.out).drew, hmem, hU⟩
      clear hU hmem
      obtain ⟨x0, x1, x2, y0, y1, y2⟩ := HS3.out.lx
      obtain ⟨z0, z1, z2, f0, f1, f2⟩ := HS3.out.lr
      go_region_held3 (fun wx => wx.cell? ⟨X, 0, none⟩ = some (.string nm) ∧ wx.cell? ⟨X, 1, none⟩ = some (.int .i64 ar) ∧ wx.cell? ⟨X, 2, none⟩ = some (.slice (some ⟨bb, oo, none⟩) rows.length cap2) ∧ (∀ j, j < rows.length → wx.cell? ⟨bb, oo + j, none⟩ = some (U j)) ∧ S5 w c v l X nm ar (.slice (some ⟨bb, oo, none⟩) rows.length cap2) rows fp bb oo U wx)
        (exact S5.all (by first | assumption | exact S5.alloc (by assumption) _ | exact S5.store (by first | assumption | exact S5.alloc (by assumption) _) _ _ _))
        (first | (go_at_call 61; refine (HA.out _ (by first | assumption | exact S5.alloc (by assumption) _)).mono ?_; rintro e w7 ⟨x, rfl, hx0, hx1, hc7, hg7⟩; obtain ⟨j, rfl⟩ := Int.eq_ofNat_of_zero_le hx0; (have hjl : j < rows.length := by have := hx1 hr2; omega); (have p1 : (0 : Int) ≤ (j : Int) := by omega); (have p2 : (j : Int) < (rows.length : Int) := by omega); (have hs7 : S5 w c v l X nm ar (.slice (some ⟨bb, oo, none⟩) rows.length cap2) rows fp bb oo U w7 := S5.grown (by first | assumption | exact S5.alloc (by assumption) _) hg7 hc7); obtain ⟨ur, hur, hrr⟩ := hs7.st.cell hjl; obtain rfl : U j = ur := Option.some.inj ((hs7.el j hjl).symm.trans hur); (first | (have HE := Lib.hid (S4.emp_grown' (S5.st (by assumption)) hg7)) | (have HE := Lib.hid (S4.emp_grown (S5.st (by assumption)) hg7)) | skip); (have HKA := Lib.hid hrr); (have HRL := Lib.hid (HALL.out j hjl)); (have HLEN := Lib.hid (show ([] : List Int).length + (rows[j]).length ≤ 1000000000000 from Nat.le_trans (by rw [List.length_nil, Nat.zero_add]; exact HRL.out) (by decide))); clear hx0 hx1 hc7 hg7 hrr) | (refine Cd.step_appendRI rfl (.tmp 19) (.tmp 28) 35 rfl (c + 1) 3 Tryz.underlying35 info_i64 _ [] [_] rfl (by first | exact HE.out.how | exact (S4.emp (S5.st (by assumption))).how) (U j) rows[j] _ rfl (by first | exact HKA.out | exact Cd.later HKA.out (below_alloc _ _)) HLEN.out (S4.base (S5.st (by first | assumption | exact S5.alloc (by assumption) _))) ?_; intro v1 w8 f1 ho1 hn1 hs1 ht1; obtain ⟨a1, c1, rfl⟩ := Cd.ow_slice ho1; (have hs8 : S5 w c v l X nm ar (.slice (some ⟨bb, oo, none⟩) rows.length cap2) rows fp bb oo U w8 := S5.touched (by first | assumption | exact S5.alloc (by assumption) _) ht1 (by first | exact HE.out.far | exact (S4.emp (S5.st (by assumption))).far)); (have HO8 := Lib.hid ho1); (obtain ⟨_, _, _, zz0, zz1, zz2, ff0, ff1, ff2⟩ := hs8.st.lr); clear ho1 hn1 hs1 ht1))
      all_goals
        go_wp2_with fail
        obtain ⟨k0, k1, k2⟩ := set3 (w := w8) (k := w.heap.size) (x := .string nm) (y := .int .i64 ar) (z := .slice (some ⟨bb, oo, none⟩) rows.length cap2) zz0 zz1 zz2
        refine bodyPost_ret (v := .tuple #[.agg #[.string nm, .int .i64 ar, .slice (some ⟨bb, oo, none⟩) rows.length cap2], .slice a1 (rows[j]).length c1]) (by simp [results, Tryz.results45, go_sem, k0, k1, k2]) rfl (hs8.st.done hnm har HWT.out (row := rows[j]) HO8.out HRL.out _ _ _)
end Go.Proofs.YtdjgaffiildijabGreatDoor.TabSpec
