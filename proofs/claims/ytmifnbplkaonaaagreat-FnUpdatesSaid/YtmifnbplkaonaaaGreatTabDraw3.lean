/- How the laws draw tables: a table and a row. -/
import Derived.Test.YtmifnbplkaonaaaGreatTabDraw2
namespace Go.Proofs.YtmifnbplkaonaaaGreat.TabSpec
open Go Go.RowKit Byt Ints IntsLaw IntsWalk Draw LocDraw Cd Rows2 Tab TabDraw

/-- In the drawing of a table and a row: the result's cells, the cursor behind them, the local table in block X. -/
structure Sb (w : World) (c : Nat) (v : Value) (l : List UInt8) (X : Nat) (nm : ByteArray) (ar : Int) (u : Value) (rows : List (List Int)) (fp : List Nat) (W : World) : Prop where
  how : rowsC.ow W (c + 1) [u] rows fp
  lx : Loc3 W X (.string nm) (.int .i64 ar) u
  lr : Loc3 W w.heap.size (.string ⟨#[]⟩) (.int .i64 0) (.slice none 0 0)
  xb : c < X
  cb : w.heap.size < c
  cu : Cur W c v l
  bl : Below w.heap.size w W
theorem Sb.alloc {w : World} {c : Nat} {v : Value} {l : List UInt8} {X : Nat} {nm : ByteArray} {ar : Int} {u : Value} {rows : List (List Int)} {fp : List Nat} {W : World} (h : Sb w c v l X nm ar u rows fp W) (o : Obj) : Sb w c v l X nm ar u rows fp (W.alloc o) :=
  ⟨Cd.ow_later h.how (below_alloc W o), h.lx.later (below_alloc W o), h.lr.later (below_alloc W o), h.xb, h.cb, cur_allocI o h.cu, Tab.below_then h.bl (below_alloc W o)⟩
theorem Sb.drew {w : World} {c : Nat} {v : Value} {l : List UInt8} {X : Nat} {nm : ByteArray} {ar : Int} {u : Value} {rows : List (List Int)} {fp : List Nat} {W : World} (h : Sb w c v l X nm ar u rows fp W) : Sb w c v l X nm ar u rows fp W.drew :=
  ⟨rowsC.ow_keep h.how fun _ _ => rfl, h.lx.keep rfl, h.lr.keep rfl, h.xb, h.cb, h.cu, Below.drew h.bl⟩
theorem Sb.grown {w : World} {c : Nat} {v : Value} {l : List UInt8} {X : Nat} {nm : ByteArray} {ar : Int} {u : Value} {rows : List (List Int)} {fp : List Nat} {W W' : World} (h : Sb w c v l X nm ar u rows fp W) (hg : W.grownBy W' (some c)) (hc : Cur W' c v l) : Sb w c v l X nm ar u rows fp W' :=
  have h1 := h.cb
  have h2 := h.xb
  ⟨ow_grown h.how hg (by omega), loc_grown h.lx hg (by omega), loc_grown h.lr hg (by omega), h.xb, h.cb, hc, h.bl.trans (below_of hg (by omega) (cur_size h.cu))⟩

theorem Sb.cell {w : World} {c : Nat} {v : Value} {l : List UInt8} {X : Nat} {nm : ByteArray} {ar : Int} {b off cap : Nat} {rows : List (List Int)} {fp : List Nat} {W : World} (h : Sb w c v l X nm ar (.slice (some ⟨b, off, none⟩) rows.length cap) rows fp W) {j : Nat} (hj : j < rows.length) :
    ∃ u, W.cell? ⟨b, off + j, none⟩ = some u ∧ rowC.rd W (· < W.heap.size) [u] rows[j] := by
  obtain ⟨b', off', cap', u, e1, hb, hc, hu⟩ := rows_at (Cd.reads h.how) hj
  injection e1 with e1 e2 e3
  injection e1 with e1
  injection e1 with e4 e5 e6
  subst e4 e5
  exact ⟨u, hc, hu⟩
theorem Sb.touched {w : World} {c : Nat} {v : Value} {l : List UInt8} {X : Nat} {nm : ByteArray} {ar : Int} {u : Value} {rows : List (List Int)} {fp : List Nat} {W W' : World} {L : Nat} (h : Sb w c v l X nm ar u rows fp W) (ht : Cd.Touch [L] W W') (hL : L ∉ fp ∧ X < L) : Sb w c v l X nm ar u rows fp W' := by
  have h1 := h.cb
  have h2 := h.xb
  obtain ⟨h3, h4⟩ := hL
  refine ⟨Cd.ow_touched h.how ht (fun b hb q => h3 (by rw [List.mem_singleton.1 q] at hb; exact hb)), h.lx.touched ht (by simp; omega), h.lr.touched ht (by simp; omega), h.xb, h.cb, ?_, ?_⟩
  · obtain ⟨i, x, hi, hh⟩ := h.cu
    exact ⟨i, x, hi, ht.row hh (by simp; omega)⟩
  · exact Cd.Touch.below h.bl ht (fun b hb => by rw [List.mem_singleton.1 hb]; omega)
theorem Sb.fresh {w : World} {c : Nat} {v : Value} {l : List UInt8} {X : Nat} {nm : ByteArray} {ar : Int} {u : Value} {rows : List (List Int)} {fp : List Nat} {W : World} (h : Sb w c v l X nm ar u rows fp W) : W.heap.size ∉ fp ∧ X < W.heap.size :=
  ⟨fun q => Nat.lt_irrefl _ (rowsC.ow_lt h.how _ q).2, h.lx.lt⟩
theorem Sb.base {w : World} {c : Nat} {v : Value} {l : List UInt8} {X : Nat} {nm : ByteArray} {ar : Int} {u : Value} {rows : List (List Int)} {fp : List Nat} {W : World} (h : Sb w c v l X nm ar u rows fp W) : c + 1 ≤ W.heap.size := by
  have := h.lx.lt
  have := h.xb
  omega

theorem reads_new {α : Type} {c : Cd α} {w : World} {base B : Nat} {us : List Value} {a : α} {fp : List Nat} (h : c.ow w base us a fp) (hb : B ≤ base) : c.rd w (fun b => B ≤ b ∧ b < w.heap.size) us a :=
  c.mono (c.ow_rd h) fun b _ hq => ⟨Nat.le_trans hb (c.ow_lt h b hq).1, (c.ow_lt h b hq).2⟩
/-- A drawn table and a drawn row. -/
def BothAns (w : World) (e : Ending) (w' : World) : Prop :=
  ∃ (nm : ByteArray) (ar : Int) (u v : Value) (rows : List (List Int)) (row : List Int), e = .returned (.tuple #[.agg #[.string nm, .int .i64 ar, u], v]) ∧ nm.size ≤ 2 ∧ (-1 ≤ ar ∧ ar ≤ 4) ∧ rowsC.rd w' (fun b => w.heap.size ≤ b ∧ b < w'.heap.size) [u] rows ∧ rowsWt rows ≤ 28 ∧ rowC.rd w' (fun b => w.heap.size ≤ b ∧ b < w'.heap.size) [v] row ∧ row.length ≤ 28 ∧ Below w.heap.size w w'
theorem Sb.done {w : World} {c : Nat} {v : Value} {l : List UInt8} {X : Nat} {nm : ByteArray} {ar : Int} {u : Value} {rows : List (List Int)} {fp : List Nat} {W : World} (h : Sb w c v l X nm ar u rows fp W) (hnm : nm.size ≤ 2) (har : -1 ≤ ar ∧ ar ≤ 4) (hwt : rowsWt rows ≤ 28) {v' : Value} {row : List Int} {f : List Nat} (hv : rowC.ow W (c + 1) [v'] row f) (hvl : row.length ≤ 28) (x y z : Value) :
    BothAns w (.returned (.tuple #[.agg #[.string nm, .int .i64 ar, u], v'])) (((W.setCell ⟨w.heap.size, 0, none⟩ x).setCell ⟨w.heap.size, 1, none⟩ y).setCell ⟨w.heap.size, 2, none⟩ z) := by
  have h1 := h.cb
  have hn : w.heap.size ∉ fp := fun q => by have h1 := (rowsC.ow_lt h.how _ q).1; omega
  have hn2 : w.heap.size ∉ f := fun q => by have h1 := (rowC.ow_lt hv _ q).1; omega
  exact ⟨nm, ar, u, v', rows, row, rfl, hnm, har, reads_new (ow_setCell (ow_setCell (ow_setCell h.how hn _) hn _) hn _) (by omega), hwt, reads_new (ow_setCell (ow_setCell (ow_setCell hv hn2 _) hn2 _) hn2 _) (by omega), hvl,
    ((h.bl.setCell (Nat.le_refl _) _).setCell (Nat.le_refl _) _).setCell (Nat.le_refl _) _⟩

/-- The same, behind the result's store too. -/
structure S4 (w : World) (c : Nat) (v : Value) (l : List UInt8) (X : Nat) (nm : ByteArray) (ar : Int) (u : Value) (rows : List (List Int)) (fp : List Nat) (W : World) : Prop where
  how : rowsC.ow W (c + 1) [u] rows fp
  lx : Loc3 W X (.string nm) (.int .i64 ar) u
  lr : ∃ p q r, Loc3 W w.heap.size p q r
  xb : c < X
  cb : w.heap.size < c
  cu : Cur W c v l
  bl : Below w.heap.size w W
theorem S4.of {w : World} {c : Nat} {v : Value} {l : List UInt8} {X : Nat} {nm : ByteArray} {ar : Int} {u : Value} {rows : List (List Int)} {fp : List Nat} {W : World} (h : Sb w c v l X nm ar u rows fp W) : S4 w c v l X nm ar u rows fp W := ⟨h.how, h.lx, ⟨_, _, _, h.lr⟩, h.xb, h.cb, h.cu, h.bl⟩
theorem S4.alloc {w : World} {c : Nat} {v : Value} {l : List UInt8} {X : Nat} {nm : ByteArray} {ar : Int} {u : Value} {rows : List (List Int)} {fp : List Nat} {W : World} (h : S4 w c v l X nm ar u rows fp W) (o : Obj) : S4 w c v l X nm ar u rows fp (W.alloc o) :=
  have ⟨_, _, _, hl⟩ := h.lr
  ⟨Cd.ow_later h.how (below_alloc W o), h.lx.later (below_alloc W o), ⟨_, _, _, hl.later (below_alloc W o)⟩, h.xb, h.cb, cur_allocI o h.cu, Tab.below_then h.bl (below_alloc W o)⟩
theorem S4.drew {w : World} {c : Nat} {v : Value} {l : List UInt8} {X : Nat} {nm : ByteArray} {ar : Int} {u : Value} {rows : List (List Int)} {fp : List Nat} {W : World} (h : S4 w c v l X nm ar u rows fp W) : S4 w c v l X nm ar u rows fp W.drew :=
  have ⟨_, _, _, hl⟩ := h.lr
  ⟨rowsC.ow_keep h.how fun _ _ => rfl, h.lx.keep rfl, ⟨_, _, _, hl.keep rfl⟩, h.xb, h.cb, h.cu, Below.drew h.bl⟩
theorem S4.grown {w : World} {c : Nat} {v : Value} {l : List UInt8} {X : Nat} {nm : ByteArray} {ar : Int} {u : Value} {rows : List (List Int)} {fp : List Nat} {W W' : World} (h : S4 w c v l X nm ar u rows fp W) (hg : W.grownBy W' (some c)) (hc : Cur W' c v l) : S4 w c v l X nm ar u rows fp W' :=
  have h1 := h.cb
  have h2 := h.xb
  have ⟨_, _, _, hl⟩ := h.lr
  ⟨ow_grown h.how hg (by omega), loc_grown h.lx hg (by omega), ⟨_, _, _, loc_grown hl hg (by omega)⟩, h.xb, h.cb, hc, h.bl.trans (below_of hg (by omega) (cur_size h.cu))⟩
theorem S4.fresh {w : World} {c : Nat} {v : Value} {l : List UInt8} {X : Nat} {nm : ByteArray} {ar : Int} {u : Value} {rows : List (List Int)} {fp : List Nat} {W : World} (h : S4 w c v l X nm ar u rows fp W) : W.heap.size ∉ fp ∧ X < W.heap.size :=
  ⟨fun q => Nat.lt_irrefl _ (rowsC.ow_lt h.how _ q).2, h.lx.lt⟩
theorem S4.base {w : World} {c : Nat} {v : Value} {l : List UInt8} {X : Nat} {nm : ByteArray} {ar : Int} {u : Value} {rows : List (List Int)} {fp : List Nat} {W : World} (h : S4 w c v l X nm ar u rows fp W) : c + 1 ≤ W.heap.size := by
  have := h.lx.lt
  have := h.xb
  omega
theorem S4.touched {w : World} {c : Nat} {v : Value} {l : List UInt8} {X : Nat} {nm : ByteArray} {ar : Int} {u : Value} {rows : List (List Int)} {fp : List Nat} {W W' : World} {L : Nat} (h : S4 w c v l X nm ar u rows fp W) (ht : Cd.Touch [L] W W') (hL : L ∉ fp ∧ X < L) : S4 w c v l X nm ar u rows fp W' := by
  have h1 := h.cb
  have h2 := h.xb
  obtain ⟨h3, h4⟩ := hL
  obtain ⟨_, _, _, hl⟩ := h.lr
  refine ⟨Cd.ow_touched h.how ht (fun b hb q => h3 (by rw [List.mem_singleton.1 q] at hb; exact hb)), h.lx.touched ht (by simp; omega), ⟨_, _, _, hl.touched ht (by simp; omega)⟩, h.xb, h.cb, ?_, ?_⟩
  · obtain ⟨i, x, hi, hh⟩ := h.cu
    exact ⟨i, x, hi, ht.row hh (by simp; omega)⟩
  · exact Cd.Touch.below h.bl ht (fun b hb => by rw [List.mem_singleton.1 hb]; omega)
theorem S4.cell {w : World} {c : Nat} {v : Value} {l : List UInt8} {X : Nat} {nm : ByteArray} {ar : Int} {b off cap : Nat} {rows : List (List Int)} {fp : List Nat} {W : World} (h : S4 w c v l X nm ar (.slice (some ⟨b, off, none⟩) rows.length cap) rows fp W) {j : Nat} (hj : j < rows.length) :
    ∃ u, W.cell? ⟨b, off + j, none⟩ = some u ∧ rowC.rd W (· < W.heap.size) [u] rows[j] := by
  obtain ⟨b', off', cap', u, e1, hb, hc, hu⟩ := rows_at (Cd.reads h.how) hj
  injection e1 with e1 e2 e3
  injection e1 with e1
  injection e1 with e4 e5 e6
  subst e4 e5
  exact ⟨u, hc, hu⟩
theorem S4.store {w : World} {c : Nat} {v : Value} {l : List UInt8} {X : Nat} {nm : ByteArray} {ar : Int} {u : Value} {rows : List (List Int)} {fp : List Nat} {W : World} (h : S4 w c v l X nm ar u rows fp W) (x y z : Value) :
    S4 w c v l X nm ar u rows fp (((W.setCell ⟨w.heap.size, 0, none⟩ x).setCell ⟨w.heap.size, 1, none⟩ y).setCell ⟨w.heap.size, 2, none⟩ z) := by
  have h1 := h.cb
  have h2 := h.xb
  obtain ⟨p, q, r, hl⟩ := h.lr
  have hn : w.heap.size ∉ fp := fun q => by have h1 := (rowsC.ow_lt h.how _ q).1; omega
  have hne : c ≠ w.heap.size := by omega
  have hx : X ≠ w.heap.size := by omega
  obtain ⟨c0, c1, c2, f0, f1, f2⟩ := hl
  obtain ⟨k0, k1, k2⟩ := set3 (w := W) (k := w.heap.size) (x := x) (y := y) (z := z) c0 c1 c2
  exact ⟨ow_setCell (ow_setCell (ow_setCell h.how hn _) hn _) hn _, Loc3.set_far (Loc3.set_far (Loc3.set_far h.lx hx.symm _) hx.symm _) hx.symm _, ⟨_, _, _, k0, k1, k2, by simpa using f0, by simpa using f1, by simpa using f2⟩, h.xb, h.cb,
    cur_farI _ (cur_farI _ (cur_farI _ h.cu hne) hne) hne, ((h.bl.setCell (Nat.le_refl _) _).setCell (Nat.le_refl _) _).setCell (Nat.le_refl _) _⟩
theorem S4.all {w : World} {c : Nat} {v : Value} {l : List UInt8} {X : Nat} {nm : ByteArray} {ar : Int} {u : Value} {rows : List (List Int)} {fp : List Nat} {W : World} (h : S4 w c v l X nm ar u rows fp W) : W.cell? ⟨X, 0, none⟩ = some (.string nm) ∧ W.cell? ⟨X, 1, none⟩ = some (.int .i64 ar) ∧ W.cell? ⟨X, 2, none⟩ = some u ∧ S4 w c v l X nm ar u rows fp W :=
  ⟨h.lx.c0, h.lx.c1, h.lx.c2, h⟩
theorem S4.done {w : World} {c : Nat} {v : Value} {l : List UInt8} {X : Nat} {nm : ByteArray} {ar : Int} {u : Value} {rows : List (List Int)} {fp : List Nat} {W : World} (h : S4 w c v l X nm ar u rows fp W) (hnm : nm.size ≤ 2) (har : -1 ≤ ar ∧ ar ≤ 4) (hwt : rowsWt rows ≤ 28) {v' : Value} {row : List Int} {f : List Nat} (hv : rowC.ow W (c + 1) [v'] row f) (hvl : row.length ≤ 28) (x y z : Value) :
    BothAns w (.returned (.tuple #[.agg #[.string nm, .int .i64 ar, u], v'])) (((W.setCell ⟨w.heap.size, 0, none⟩ x).setCell ⟨w.heap.size, 1, none⟩ y).setCell ⟨w.heap.size, 2, none⟩ z) := by
  have h1 := h.cb
  have hn : w.heap.size ∉ fp := fun q => by have h1 := (rowsC.ow_lt h.how _ q).1; omega
  have hn2 : w.heap.size ∉ f := fun q => by have h1 := (rowC.ow_lt hv _ q).1; omega
  exact ⟨nm, ar, u, v', rows, row, rfl, hnm, har, reads_new (ow_setCell (ow_setCell (ow_setCell h.how hn _) hn _) hn _) (by omega), hwt, reads_new (ow_setCell (ow_setCell (ow_setCell hv hn2 _) hn2 _) hn2 _) (by omega), hvl,
    ((h.bl.setCell (Nat.le_refl _) _).setCell (Nat.le_refl _) _).setCell (Nat.le_refl _) _⟩
/-- An empty slice of the call's own. -/
structure Emp (c X : Nat) (fp : List Nat) (L : Nat) (W : World) : Prop where
  how : rowC.ow W (c + 1) [.slice (some ⟨L, 0, none⟩) 0 0] [] [L]
  far : L ∉ fp ∧ X < L
theorem S4.emp {w : World} {c : Nat} {v : Value} {l : List UInt8} {X : Nat} {nm : ByteArray} {ar : Int} {u : Value} {rows : List (List Int)} {fp : List Nat} {W : World} (h : S4 w c v l X nm ar u rows fp W) : Emp c X fp W.heap.size (W.alloc (.cells #[] 3)) :=
  ⟨Cd.ow_empty W _ h.base, h.fresh⟩
theorem Emp.grown {c X : Nat} {fp : List Nat} {L : Nat} {W W' : World} (h : Emp c X fp L W) (hg : W.grownBy W' (some c)) : Emp c X fp L W' := ⟨ow_grown h.how hg (Nat.lt_succ_self c), h.far⟩
theorem S4.emp_grown {w : World} {c : Nat} {v : Value} {l : List UInt8} {X : Nat} {nm : ByteArray} {ar : Int} {u : Value} {rows : List (List Int)} {fp : List Nat} {W W' : World} (h : S4 w c v l X nm ar u rows fp W) (hg : (W.alloc (.cells #[] 3)).grownBy W' (some c)) : Emp c X fp W.heap.size W' := h.emp.grown hg
theorem S4.emp_grown' {w : World} {c : Nat} {v : Value} {l : List UInt8} {X : Nat} {nm : ByteArray} {ar : Int} {u : Value} {rows : List (List Int)} {fp : List Nat} {W W' : World} (h : S4 w c v l X nm ar u rows fp W.drew) (hg : (W.drew.alloc (.cells #[] 3)).grownBy W' (some c)) : Emp c X fp W.heap.size W' := h.emp.grown hg

/-- The same, and block bb holds what it held. -/
structure S5 (w : World) (c : Nat) (v : Value) (l : List UInt8) (X : Nat) (nm : ByteArray) (ar : Int) (u : Value) (rows : List (List Int)) (fp : List Nat) (bb oo : Nat) (U : Nat → Value) (W : World) : Prop where
  st : S4 w c v l X nm ar u rows fp W
  mem : bb ∈ fp
  el : ∀ j, j < rows.length → W.cell? ⟨bb, oo + j, none⟩ = some (U j)
theorem S5.keep {w : World} {c : Nat} {v : Value} {l : List UInt8} {X : Nat} {nm : ByteArray} {ar : Int} {u : Value} {rows : List (List Int)} {fp : List Nat} {bb oo : Nat} {U : Nat → Value} {W W' : World} (h : S5 w c v l X nm ar u rows fp bb oo U W) (h' : S4 w c v l X nm ar u rows fp W') (e : W'.heap[bb]? = W.heap[bb]?) : S5 w c v l X nm ar u rows fp bb oo U W' :=
  ⟨h', h.mem, fun j hj => by
    have := h.el j hj
    unfold World.cell? at *
    rw [e]
    exact this⟩
theorem S5.alloc {w : World} {c : Nat} {v : Value} {l : List UInt8} {X : Nat} {nm : ByteArray} {ar : Int} {u : Value} {rows : List (List Int)} {fp : List Nat} {bb oo : Nat} {U : Nat → Value} {W : World} (h : S5 w c v l X nm ar u rows fp bb oo U W) (o : Obj) : S5 w c v l X nm ar u rows fp bb oo U (W.alloc o) :=
  h.keep (h.st.alloc o) ((below_alloc W o).block bb (rowsC.ow_lt h.st.how bb h.mem).2)
theorem S5.grown {w : World} {c : Nat} {v : Value} {l : List UInt8} {X : Nat} {nm : ByteArray} {ar : Int} {u : Value} {rows : List (List Int)} {fp : List Nat} {bb oo : Nat} {U : Nat → Value} {W W' : World} (h : S5 w c v l X nm ar u rows fp bb oo U W) (hg : W.grownBy W' (some c)) (hc : Cur W' c v l) : S5 w c v l X nm ar u rows fp bb oo U W' :=
  h.keep (h.st.grown hg hc) (hg.block bb (rowsC.ow_lt h.st.how bb h.mem).2 (by intro q; injection q with q; have := (rowsC.ow_lt h.st.how bb h.mem).1; omega))
theorem S5.touched {w : World} {c : Nat} {v : Value} {l : List UInt8} {X : Nat} {nm : ByteArray} {ar : Int} {u : Value} {rows : List (List Int)} {fp : List Nat} {bb oo : Nat} {U : Nat → Value} {W W' : World} {L : Nat} (h : S5 w c v l X nm ar u rows fp bb oo U W) (ht : Cd.Touch [L] W W') (hL : L ∉ fp ∧ X < L) : S5 w c v l X nm ar u rows fp bb oo U W' :=
  h.keep (h.st.touched ht hL) (ht.block bb (rowsC.ow_lt h.st.how bb h.mem).2 (by rw [List.mem_singleton]; intro q; exact hL.1 (q ▸ h.mem)))
theorem S5.store {w : World} {c : Nat} {v : Value} {l : List UInt8} {X : Nat} {nm : ByteArray} {ar : Int} {u : Value} {rows : List (List Int)} {fp : List Nat} {bb oo : Nat} {U : Nat → Value} {W : World} (h : S5 w c v l X nm ar u rows fp bb oo U W) (x y z : Value) :
    S5 w c v l X nm ar u rows fp bb oo U (((W.setCell ⟨w.heap.size, 0, none⟩ x).setCell ⟨w.heap.size, 1, none⟩ y).setCell ⟨w.heap.size, 2, none⟩ z) := by
  have hb : bb ≠ w.heap.size := by have := (rowsC.ow_lt h.st.how bb h.mem).1; have := h.st.cb; omega
  refine h.keep (h.st.store x y z) ?_
  rw [Below.heap_setCell _ _ _ _ (by exact hb), Below.heap_setCell _ _ _ _ (by exact hb), Below.heap_setCell _ _ _ _ (by exact hb)]
theorem S5.all {w : World} {c : Nat} {v : Value} {l : List UInt8} {X : Nat} {nm : ByteArray} {ar : Int} {u : Value} {rows : List (List Int)} {fp : List Nat} {bb oo : Nat} {U : Nat → Value} {W : World} (h : S5 w c v l X nm ar u rows fp bb oo U W) : W.cell? ⟨X, 0, none⟩ = some (.string nm) ∧ W.cell? ⟨X, 1, none⟩ = some (.int .i64 ar) ∧ W.cell? ⟨X, 2, none⟩ = some u ∧ (∀ j, j < rows.length → W.cell? ⟨bb, oo + j, none⟩ = some (U j)) ∧ S5 w c v l X nm ar u rows fp bb oo U W :=
  ⟨h.st.lx.c0, h.st.lx.c1, h.st.lx.c2, h.el, h⟩
theorem minmax (ar : Int) : ∃ n : Nat, n ≤ 3 ∧ (n : Int) = (if 0 < (if ar < 3 then ar else 3) then (if ar < 3 then ar else 3) else 0) :=
  ⟨(if 0 < (if ar < 3 then ar else 3) then (if ar < 3 then ar else 3) else 0).toNat, by split <;> split at * <;> omega, by split <;> split at * <;> omega⟩

end Go.Proofs.YtmifnbplkaonaaaGreat.TabSpec
