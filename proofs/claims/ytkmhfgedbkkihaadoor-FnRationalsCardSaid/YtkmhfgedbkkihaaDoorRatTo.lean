/- What the laws do with rationals: the argument is copied, two results are compared. -/
import Derived.Test.YtkmhfgedbkkihaaDoorRatOps
import Derived.Deep.RegionHeld3
import Derived.Deep.DeepCutAuto
namespace Go.Proofs.YtkmhfgedbkkihaaDoor.RatTo
open Go Go.RowKit Byt Ratio RatGcd RatMake RatOps

/-- Nothing below the world's size has changed. -/
def Kept (w wx : World) : Prop := Below w.heap.size w wx
theorem kept_drew {w wx : World} (h : Kept w wx) : Kept w wx.drew := Below.drew h
theorem kept_alloc {w wx : World} (o : Obj) (h : Kept w wx) : Kept w (wx.alloc o) := Below.alloc h h.size o
theorem kept_later {w wx w1 : World} (hb : Below wx.heap.size wx w1) (h : Kept w wx) : Kept w w1 := Below.trans h (hb.mono h.size)
theorem kept_refl (w : World) : Kept w w := Below.refl _ _
theorem rcell_later {wx w1 : World} (hb : Below wx.heap.size wx w1) (p : Addr) (v : Value) (h : wx.cell? p = some v) : w1.cell? p = some v := by
  rw [hb.cell (World.block_lt_of_cell? wx p h)]
  exact h
theorem kept_set {w wx : World} {p : Addr} {v : Value} (h : Kept w wx) (hp : w.heap.size ≤ p.block) : Kept w (wx.setCell p v) := Below.setCell h hp v
/-- A block just made, and one made before, behind a call. -/
theorem new_later {W w1 : World} {x0 x1 : Value} {T : TypeId} (hb : Below (W.alloc (.cells #[x0, x1] T (0, 0))).heap.size (W.alloc (.cells #[x0, x1] T (0, 0))) w1) :
    w1.cell? ⟨W.heap.size, 0, none⟩ = some x0 ∧ w1.cell? ⟨W.heap.size, 1, none⟩ = some x1 ∧ w1.frozen? ⟨W.heap.size, 0, none⟩ = false ∧ w1.frozen? ⟨W.heap.size, 1, none⟩ = false :=
  two_cells hb (alloc_at0 W _) (by simp)
theorem new_later' {W w1 : World} {x0 x1 : Value} {T : TypeId} (hb : Below (W.alloc (.cells #[x0, x1] T (0, 0))).drew.heap.size (W.alloc (.cells #[x0, x1] T (0, 0))).drew w1) :
    w1.cell? ⟨W.heap.size, 0, none⟩ = some x0 ∧ w1.cell? ⟨W.heap.size, 1, none⟩ = some x1 ∧ w1.frozen? ⟨W.heap.size, 0, none⟩ = false ∧ w1.frozen? ⟨W.heap.size, 1, none⟩ = false :=
  two_cells hb (show (W.alloc (.cells #[x0, x1] T (0, 0))).heap[W.heap.size]? = _ from alloc_at0 W _) (by show _ < (W.alloc _).heap.size; simp)
theorem set_two {w : World} {b : Nat} {x0 x1 N D : Value} (c0 : w.cell? ⟨b, 0, none⟩ = some x0) (c1 : w.cell? ⟨b, 1, none⟩ = some x1) :
    ((w.setCell ⟨b, 0, none⟩ N).setCell ⟨b, 1, none⟩ D).cell? ⟨b, 0, none⟩ = some N ∧ ((w.setCell ⟨b, 0, none⟩ N).setCell ⟨b, 1, none⟩ D).cell? ⟨b, 1, none⟩ = some D := by
  have e1 : (w.setCell ⟨b, 0, none⟩ N).cell? ⟨b, 0, none⟩ = some N := World.cell?_setCell_same _ _ _ c0
  have e2 : (w.setCell ⟨b, 0, none⟩ N).cell? ⟨b, 1, none⟩ = some x1 := by
    rw [World.cell?_setCell_other _ _ _ _ (by simp)]
    exact c1
  refine ⟨?_, World.cell?_setCell_same _ _ _ e2⟩
  rw [World.cell?_setCell_other _ _ _ _ (by simp)]
  exact e1
theorem old_later {W w1 : World} {b : Nat} {x0 x1 : Value} (hb : Below W.heap.size W w1) (c0 : W.cell? ⟨b, 0, none⟩ = some x0) (c1 : W.cell? ⟨b, 1, none⟩ = some x1) (f0 : W.frozen? ⟨b, 0, none⟩ = false) (f1 : W.frozen? ⟨b, 1, none⟩ = false) :
    w1.cell? ⟨b, 0, none⟩ = some x0 ∧ w1.cell? ⟨b, 1, none⟩ = some x1 ∧ w1.frozen? ⟨b, 0, none⟩ = false ∧ w1.frozen? ⟨b, 1, none⟩ = false := by
  have h : b < W.heap.size := World.block_lt_of_cell? W _ c0
  exact ⟨rcell_later hb _ _ c0, rcell_later hb _ _ c1, (hb.frozen (p := ⟨b, 0, none⟩) h).trans f0, (hb.frozen (p := ⟨b, 1, none⟩) h).trans f1⟩

theorem start2 (w : World) (x0 x1 y0 y1 : Value) (T : TypeId) {W : World} (h : (w.alloc (.cells #[x0, x1] T (0, 0))).alloc (.cells #[y0, y1] T (0, 0)) = W) :
    W.cell? ⟨w.heap.size, 0, none⟩ = some x0 ∧ W.cell? ⟨w.heap.size, 1, none⟩ = some x1 ∧ W.cell? ⟨w.heap.size + 1, 0, none⟩ = some y0 ∧ W.cell? ⟨w.heap.size + 1, 1, none⟩ = some y1 ∧ Kept w W := by
  subst h
  obtain ⟨a, b, _, _⟩ := row_cells (alloc_at1 w (.cells #[x0, x1] T (0, 0)) (.cells #[y0, y1] T (0, 0)))
  obtain ⟨c, d, _, _⟩ := row_cells (alloc_at2 w (.cells #[x0, x1] T (0, 0)) (.cells #[y0, y1] T (0, 0)))
  exact ⟨a, b, c, d, kept_alloc _ (kept_alloc _ (kept_refl w))⟩

set_option maxRecDepth 100000 in
theorem to_rat (n d : Int) (w : World) :
    Calls Tryd.prog 23 #[.agg #[.int .i64 n, .int .i64 d]] w fun e w' => e = .returned (.agg #[.int .i64 n, .int .i64 d]) ∧ Below w.heap.size w w' := by
  go_enter Tryd.func23, Tryd.ntmps23
  go_wp2
  refine bodyPost_ret (v := .agg #[.int .i64 n, .int .i64 d]) (by simp [results, Tryd.results23, go_sem]) rfl ⟨rfl, ?_⟩
  exact (((Below.refl _ _).alloc (Nat.le_refl _) _).alloc (by simp) _).alloc (by simp; omega) _

theorem eq_rat (n d : Int) (w : World) :
    Calls Tryd.prog 25 #[.agg #[.int .i64 n, .int .i64 d], .agg #[.int .i64 n, .int .i64 d]] w fun e w' => e = .returned (.bool true) ∧ Below w.heap.size w w' := by
  go_enter Tryd.func25, Tryd.ntmps25
  go_wp2
  go_ret
  exact ⟨rfl, ((Below.refl _ _).alloc (Nat.le_refl _) _).alloc (by simp) _⟩
end Go.Proofs.YtkmhfgedbkkihaaDoor.RatTo
