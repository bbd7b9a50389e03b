/- How the laws draw updates: the state of the drawing. -/
import Derived.Test.YtmifnbplkaonaaaGreatDbDraw4
import Derived.Test.YtmifnbplkaonaaaGreatUpd
import Derived.Test.YtmifnbplkaonaaaGreatTabDraw3
import Derived.Test.YtmifnbplkaonaaaGreatRegH
import Derived.Deep.DeepCutAuto
namespace Go.Proofs.YtmifnbplkaonaaaGreat.UpdDraw
open Go Go.RowKit Byt Ints IntsLaw IntsWalk Draw LocDraw Cd Rows2 Tab TabDraw SlMath TabOpen TabElem SlTable Db TabSpec DbMath DbSpec DbExact DbAcc DbDraw Upd

/-- A drawn update. -/
def UpAns (w : World) (c : Nat) (v : Value) (l : List UInt8) (e : Ending) (w' : World) : Prop :=
  ∃ (nm : ByteArray) (b : Bool) (y : Value) (row : List Int) (f : List Nat), e = .returned (.agg #[.string nm, .bool b, y]) ∧ rowC.ow w' w.heap.size [y] row f ∧ f.Nodup ∧ nm.size ≤ 2 ∧ row.length ≤ 40 ∧ Cur w' c v l ∧ w.grownBy w' (some c)
/-- What the drawing of an update asks of the tables. -/
def UpOk (Ts : List T3) : Prop := Ts.length ≤ 7 ∧ ∀ T ∈ Ts, T.1.size ≤ 2 ∧ rowsWt T.2.2 ≤ 40
abbrev OldS (w : World) (c : Nat) : Nat → Prop := fun b => c + 1 ≤ b ∧ b < w.heap.size
/-- In the drawing: the database's box, the result's cells, the cursor. -/
structure U0 (w : World) (c : Nat) (v : Value) (l : List UInt8) (u : Value) (W : World) : Prop where
  lx : Loc1 W w.heap.size u
  lr : Loc3 W (w.heap.size + 1) (.string ⟨#[]⟩) (.bool false) (.slice none 0 0)
  cb : c < w.heap.size
  cu : Cur W c v l
  gr : w.grownBy W (some c)
section
variable {w : World} {c : Nat} {v : Value} {l : List UInt8} {u : Value} {W W' : World}
theorem U0.grown (h : U0 w c v l u W) (hg : W.grownBy W' (some c)) (hc : Cur W' c v l) : U0 w c v l u W' :=
  have h1 := h.cb
  ⟨loc1_grown h.lx hg (by omega), loc_grown h.lr hg (by omega), h1, hc, grown_trans h.gr hg⟩
theorem U0.alloc (h : U0 w c v l u W) (o : Obj) : U0 w c v l u (W.alloc o) := h.grown (World.grownBy_alloc W o (some c)) (cur_allocI o h.cu)
theorem U0.drew (h : U0 w c v l u W) : U0 w c v l u W.drew :=
  ⟨h.lx.drew, h.lr.keep rfl, h.cb, h.cu, ⟨h.gr.os, h.gr.tape, h.gr.output, h.gr.size, h.gr.block⟩⟩
theorem U0.set (h : U0 w c v l u W) {p : Addr} (hp : w.heap.size + 2 ≤ p.block) (x : Value) : U0 w c v l u (W.setCell p x) :=
  have h1 := h.cb
  ⟨h.lx.set_far (by omega) _, h.lr.set_far (by omega) _, h1, cur_farI _ h.cu (by omega), grown_newI _ h.gr (by omega)⟩
theorem U0.old (h : U0 w c v l u W) {b o : Nat} (h1 : c + 1 ≤ b) (h2 : b < w.heap.size) : W.cell? ⟨b, o, none⟩ = w.cell? ⟨b, o, none⟩ := by
  have := h.gr.block b h2 (by intro q; injection q with q; omega)
  unfold World.cell?
  rw [this]
theorem U0.rd {α : Type} {cd : Cd α} {us : List Value} {a : α} (h : U0 w c v l u W) (hr : cd.rd w (OldS w c) us a) : cd.rd W (OldS w c) us a :=
  cd.keep hr fun b hb hlt => h.gr.block b hlt (by intro q; injection q with q; have := hb.1; omega)
theorem U0.sz (h : U0 w c v l u W) : w.heap.size + 2 ≤ W.heap.size := h.lr.lt
theorem U0.touched (h : U0 w c v l u W) {f : List Nat} (ht : Cd.Touch f W W') (hf : ∀ b ∈ f, w.heap.size + 2 ≤ b) : U0 w c v l u W' := by
  have h1 := h.cb
  have hn : ∀ b, b < w.heap.size + 2 → b ∉ f := fun b hb q => by have := hf b q; omega
  obtain ⟨i, x, hi, hh⟩ := h.cu
  exact ⟨h.lx.touched ht (hn _ (by omega)), h.lr.touched ht (hn _ (by omega)), h1, ⟨i, x, hi, ht.row hh (hn _ (by omega))⟩,
    ⟨ht.os.trans h.gr.os, ht.tape.trans h.gr.tape, ht.output.trans h.gr.output, Nat.le_trans h.gr.size ht.size, fun j hj hne => (ht.block j (by have := h.gr.size; omega) (hn _ (by omega))).trans (h.gr.block j hj hne)⟩⟩
/-- The update under way in block q, its row beside. -/
structure U2 (w : World) (c : Nat) (v : Value) (l : List UInt8) (u : Value) (q : Nat) (nm : ByteArray) (b : Bool) (y : Value) (row : List Int) (f : List Nat) (W : World) : Prop where
  st : U0 w c v l u W
  lq : Loc3 W q (.string nm) (.bool b) y
  ow : rowC.ow W (w.heap.size + 2) [y] row f
  nd : f.Nodup
  qb : w.heap.size + 2 ≤ q
  qf : q ∉ f
  nb : nm.size ≤ 2
  rb : row.length ≤ 40
variable {q : Nat} {nm : ByteArray} {b : Bool} {y : Value} {row : List Int} {f : List Nat}
theorem U2.grown (h : U2 w c v l u q nm b y row f W) (hg : W.grownBy W' (some c)) (hc : Cur W' c v l) : U2 w c v l u q nm b y row f W' :=
  have h1 := h.st.cb
  have h2 := h.qb
  ⟨h.st.grown hg hc, loc_grown h.lq hg (by omega), ow_grown h.ow hg (by omega), h.nd, h2, h.qf, h.nb, h.rb⟩
theorem U2.alloc (h : U2 w c v l u q nm b y row f W) (o : Obj) : U2 w c v l u q nm b y row f (W.alloc o) := h.grown (World.grownBy_alloc W o (some c)) (cur_allocI o h.st.cu)
theorem U2.setN (h : U2 w c v l u q nm b y row f W) {nm' : ByteArray} (hn : nm'.size ≤ 2) : U2 w c v l u q nm' b y row f (W.setCell ⟨q, 0, none⟩ (.string nm')) := by
  obtain ⟨c0, c1, c2, f0, f1, f2⟩ := h.lq
  have o1 : (⟨q, 0, none⟩ : Addr) ≠ ⟨q, 1, none⟩ := by simp
  have o2 : (⟨q, 0, none⟩ : Addr) ≠ ⟨q, 2, none⟩ := by simp
  exact ⟨h.st.set h.qb _, ⟨World.cell?_setCell_same _ _ _ c0, (World.cell?_setCell_other _ _ _ _ o1).trans c1, (World.cell?_setCell_other _ _ _ _ o2).trans c2, by simpa using f0, by simpa using f1, by simpa using f2⟩, ow_setCell h.ow h.qf _, h.nd, h.qb, h.qf, hn, h.rb⟩
theorem U2.setB (h : U2 w c v l u q nm b y row f W) (b' : Bool) : U2 w c v l u q nm b' y row f (W.setCell ⟨q, 1, none⟩ (.bool b')) := by
  obtain ⟨c0, c1, c2, f0, f1, f2⟩ := h.lq
  have o1 : (⟨q, 1, none⟩ : Addr) ≠ ⟨q, 0, none⟩ := by simp
  have o2 : (⟨q, 1, none⟩ : Addr) ≠ ⟨q, 2, none⟩ := by simp
  exact ⟨h.st.set h.qb _, ⟨(World.cell?_setCell_other _ _ _ _ o1).trans c0, World.cell?_setCell_same _ _ _ c1, (World.cell?_setCell_other _ _ _ _ o2).trans c2, by simpa using f0, by simpa using f1, by simpa using f2⟩, ow_setCell h.ow h.qf _, h.nd, h.qb, h.qf, h.nb, h.rb⟩
theorem U2.setR (h : U2 w c v l u q nm b y row f W) {y' : Value} {row' : List Int} {f' : List Nat} (ho : rowC.ow W (w.heap.size + 2) [y'] row' f') (hn : f'.Nodup) (hq : q ∉ f') (hr : row'.length ≤ 40) : U2 w c v l u q nm b y' row' f' (W.setCell ⟨q, 2, none⟩ y') := by
  obtain ⟨c0, c1, c2, f0, f1, f2⟩ := h.lq
  have o1 : (⟨q, 2, none⟩ : Addr) ≠ ⟨q, 0, none⟩ := by simp
  have o2 : (⟨q, 2, none⟩ : Addr) ≠ ⟨q, 1, none⟩ := by simp
  exact ⟨h.st.set h.qb _, ⟨(World.cell?_setCell_other _ _ _ _ o1).trans c0, (World.cell?_setCell_other _ _ _ _ o2).trans c1, World.cell?_setCell_same _ _ _ c2, by simpa using f0, by simpa using f1, by simpa using f2⟩, ow_setCell ho hq _, hn, h.qb, hq, h.nb, hr⟩
/-- The result is stored. -/
theorem U2.done (h : U2 w c v l u q nm b y row f W) : UpAns w c v l (.returned (.agg #[.string nm, .bool b, y])) (((W.setCell ⟨w.heap.size + 1, 0, none⟩ (.string nm)).setCell ⟨w.heap.size + 1, 1, none⟩ (.bool b)).setCell ⟨w.heap.size + 1, 2, none⟩ y) := by
  have h1 := h.st.cb
  have hf : w.heap.size + 1 ∉ f := fun q => by have := (rowC.ow_lt h.ow _ q).1; omega
  have hc : c ≠ w.heap.size + 1 := by omega
  have hs : w.heap.size ≤ w.heap.size + 1 := by omega
  exact ⟨nm, b, y, row, f, rfl, ow_setCell (ow_setCell (ow_setCell (rowC.ow_base h.ow (by omega)) hf _) hf _) hf _, h.nd, h.nb, h.rb, cur_farI _ (cur_farI _ (cur_farI _ h.st.cu hc) hc) hc, grown_newI _ (grown_newI _ (grown_newI _ h.st.gr hs) hs) hs⟩
/-- The chosen table beside, in block p. -/
structure U1 (w : World) (c : Nat) (v : Value) (l : List UInt8) (u : Value) (p : Nat) (T : T3) (z : Value) (W : World) : Prop where
  st : U0 w c v l u W
  lp : Loc3 W p (.string T.1) (.int .i64 T.2.1) z
  rt : rowsC.rd w (OldS w c) [z] T.2.2
  pb : w.heap.size + 2 ≤ p
variable {p : Nat} {T : T3} {z : Value}
theorem U1.grown (h : U1 w c v l u p T z W) (hg : W.grownBy W' (some c)) (hc : Cur W' c v l) : U1 w c v l u p T z W' :=
  have h1 := h.st.cb
  have h2 := h.pb
  ⟨h.st.grown hg hc, loc_grown h.lp hg (by omega), h.rt, h2⟩
theorem U1.alloc (h : U1 w c v l u p T z W) (o : Obj) : U1 w c v l u p T z (W.alloc o) := h.grown (World.grownBy_alloc W o (some c)) (cur_allocI o h.st.cu)
theorem U1.drew (h : U1 w c v l u p T z W) : U1 w c v l u p T z W.drew := ⟨h.st.drew, h.lp.keep rfl, h.rt, h.pb⟩
theorem U1.set (h : U1 w c v l u p T z W) {a : Addr} (ha : w.heap.size + 2 ≤ a.block) (hp : a.block ≠ p) (x : Value) : U1 w c v l u p T z (W.setCell a x) := ⟨h.st.set ha x, h.lp.set_far hp _, h.rt, h.pb⟩
end
end Go.Proofs.YtmifnbplkaonaaaGreat.UpdDraw
