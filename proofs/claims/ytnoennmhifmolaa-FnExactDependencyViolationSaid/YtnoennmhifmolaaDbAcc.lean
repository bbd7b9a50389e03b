/- A list of tables that a function gathers in a cell of its own: what a copy and an append make of it. -/
import Derived.Test.YtnoennmhifmolaaDbLook
import Derived.Test.YtnoennmhifmolaaDbExact
namespace Go.Proofs.Ytnoennmhifmolaa.DbAcc
open Go Go.RowKit Byt Ints IntsLaw Cd Rows2 Tab SlMath TabOpen TabElem SlTable Db TabSpec DbMath DbSpec DbExact

/-- Behind wF, all but block X is as it was there; X holds a slice that owns cur. -/
structure AccS (wF wr : World) (X : Nat) (cur : List T3) (a : Option Addr) (c : Nat) (fp : List Nat) : Prop where
  cell : wr.cell? ⟨X, 0, none⟩ = some (.slice a cur.length c)
  fz : wr.frozen? ⟨X, 0, none⟩ = false
  ow : tabsC.ow wr wF.heap.size [.slice a cur.length c] cur fp
  nd : fp.Nodup
  tou : Cd.Touch [X] wF wr
  xb : X < wF.heap.size
theorem AccS.sz {wF wr : World} {X c : Nat} {cur : List T3} {a : Option Addr} {fp : List Nat} (h : AccS wF wr X cur a c fp) : wF.heap.size ≤ wr.heap.size := h.tou.size
theorem AccS.start {wF : World} {X : Nat} {e : TypeId} (h : wF.heap[X]? = some (.cells #[.slice none 0 0] e (0, 0))) : AccS wF wF X [] none 0 [] :=
  ⟨by simp [World.cell?, h], by simp [World.frozen?, h], Cd.ow_nil _ _, by simp, Cd.Touch.refl _ _, (Array.getElem?_eq_some_iff.1 h).1⟩
theorem AccS.start' {wF : World} {X : Nat} (h : Loc1 wF X (.slice none 0 0)) : AccS wF wF X [] none 0 [] :=
  ⟨h.c0, h.f0, Cd.ow_nil _ _, by simp, Cd.Touch.refl _ _, h.lt⟩
theorem AccS.later {wF wr w' : World} {X c : Nat} {cur : List T3} {a : Option Addr} {fp : List Nat} (h : AccS wF wr X cur a c fp) (hb : Below wr.heap.size wr w') : AccS wF w' X cur a c fp :=
  ⟨(hb.cell (World.block_lt_of_cell? wr _ h.cell)).trans h.cell, (World.frozen?_of_block (hb.block _ (World.block_lt_of_cell? wr _ h.cell))).trans h.fz, Cd.ow_later h.ow hb, h.nd, h.tou.trans (Cd.Touch.of_below hb), h.xb⟩
theorem AccS.block {wF wr : World} {X c : Nat} {cur : List T3} {a : Option Addr} {fp : List Nat} (h : AccS wF wr X cur a c fp) {k : Nat} (hk : k < wF.heap.size) (hx : k ≠ X) : wr.heap[k]? = wF.heap[k]? := h.tou.block k hk (by simpa using hx)
theorem AccS.get {wF wr : World} {X c : Nat} {cur : List T3} {a : Option Addr} {fp : List Nat} (h : AccS wF wr X cur a c fp) {p : Addr} {v : Value} (hc : wF.cell? p = some v) (hx : p.block ≠ X) : wr.cell? p = some v := h.tou.cell hc (by simpa using hx)
theorem AccS.loc1 {wF wr : World} {X Y c : Nat} {cur : List T3} {a : Option Addr} {fp : List Nat} {v : Value} (h : AccS wF wr X cur a c fp) (hl : Loc1 wF Y v) (hx : Y ≠ X) : Loc1 wr Y v := hl.touched h.tou (by simpa using hx)
theorem AccS.loc3 {wF wr : World} {X Y c : Nat} {cur : List T3} {a : Option Addr} {fp : List Nat} {x y z : Value} (h : AccS wF wr X cur a c fp) (hl : Loc3 wF Y x y z) (hx : Y ≠ X) : Loc3 wr Y x y z := hl.touched h.tou (by simpa using hx)
theorem AccS.below {w wF wr : World} {X c : Nat} {cur : List T3} {a : Option Addr} {fp : List Nat} (h : AccS wF wr X cur a c fp) (hb : Below w.heap.size w wF) (hx : w.heap.size ≤ X) : Below w.heap.size w wr :=
  Cd.Touch.below hb h.tou (fun b hb => by rw [List.mem_singleton.1 hb]; exact hx)
theorem AccS.shift {wF wr : World} {X c : Nat} {cur cur' : List T3} {a : Option Addr} {fp : List Nat} (h : AccS wF wr X cur a c fp) (e : cur = cur') : AccS wF wr X cur' a c fp := e ▸ h
/-- A store into another block that the function made behind wF. -/
theorem AccS.far {wF wr : World} {X c : Nat} {cur : List T3} {a : Option Addr} {fp : List Nat} (h : AccS wF wr X cur a c fp) {p : Addr} (hp : wF.heap.size ≤ p.block) (hn : p.block ∉ fp) (v : Value) : AccS wF (wr.setCell p v) X cur a c fp :=
  ⟨(World.cell?_setCell_other _ _ _ _ (by intro q; have e := congrArg Addr.block q; simp only at e; have := h.xb; omega)).trans h.cell, by simpa using h.fz, ow_setCell h.ow hn v, h.nd,
    ⟨h.tou.os, h.tou.tape, h.tou.output, by simpa using h.tou.size, fun k hk hn => (Below.heap_setCell wr p v k (by omega)).trans (h.tou.block k hk hn)⟩, h.xb⟩
/-- Behind an append and the store of the new slice. -/
theorem AccS.app {wF w3 w4 : World} {X c : Nat} {cur cur' : List T3} {a : Option Addr} {fp fp4 : List Nat} (h : AccS wF w3 X cur a c fp) {g n cap : Nat} (he : n = cur'.length) (ht : Cd.Touch fp w3 w4) (ho : tabsC.ow w4 wF.heap.size [.slice (some ⟨g, 0, none⟩) n cap] cur' fp4) (hn : fp4.Nodup) :
    AccS wF (w4.setCell ⟨X, 0, none⟩ (.slice (some ⟨g, 0, none⟩) n cap)) X cur' (some ⟨g, 0, none⟩) cap fp4 := by
  subst he
  have hx : X ∉ fp := fun q => by have := ((Cd.sl _ tabC).ow_lt h.ow _ q).1; have := h.xb; omega
  have hx4 : X ∉ fp4 := fun q => by have := ((Cd.sl _ tabC).ow_lt ho _ q).1; have := h.xb; omega
  have hl : X < w3.heap.size := World.block_lt_of_cell? w3 _ h.cell
  refine ⟨World.cell?_setCell_same _ _ _ (ht.cell h.cell hx), ?_, ow_setCell ho hx4 _, hn, ?_, h.xb⟩
  · simpa using (World.frozen?_of_block (ht.block _ hl hx)).trans h.fz
  · have hs := h.sz
    refine ⟨ht.os.trans h.tou.os, ht.tape.trans h.tou.tape, ht.output.trans h.tou.output, by simpa using Nat.le_trans hs ht.size, fun k hk hn => ?_⟩
    have hk0 : k ∉ fp := fun q => by have := ((Cd.sl _ tabC).ow_lt h.ow _ q).1; omega
    rw [Below.heap_setCell w4 _ _ k (by simpa using hn)]
    exact (ht.block k (by omega) hk0).trans (h.tou.block k hk hn)
theorem AccS.fcell {wF w3 w4 : World} {X c : Nat} {cur : List T3} {a : Option Addr} {fp : List Nat} (h : AccS wF w3 X cur a c fp) (ht : Cd.Touch fp w3 w4) : w4.cell? ⟨X, 0, none⟩ = some (.slice a cur.length c) ∧ w4.frozen? ⟨X, 0, none⟩ = false := by
  have hx : X ∉ fp := fun q => by have := ((Cd.sl _ tabC).ow_lt h.ow _ q).1; have := h.xb; omega
  exact ⟨ht.cell h.cell hx, (World.frozen?_of_block (ht.block _ (World.block_lt_of_cell? w3 _ h.cell) hx)).trans h.fz⟩

/-- A database and a yes or no. -/
def DbAns (l : List T3) (b : Bool) (w : World) (e : Ending) (w' : World) : Prop :=
  ∃ u fp, e = .returned (.tuple #[.agg #[u], .bool b]) ∧ tabsC.ow w' w.heap.size [u] l fp ∧ fp.Nodup ∧ Below w.heap.size w w'
/-- What was gathered is stored in the cell of the result. -/
theorem AccS.ans {w wF wr : World} {X Y c : Nat} {cur : List T3} {a : Option Addr} {fp : List Nat} (h : AccS wF wr X cur a c fp) (hb : Below w.heap.size w wF) (hx : w.heap.size ≤ X) (hY : w.heap.size ≤ Y) (hYF : Y < wF.heap.size) {l : List T3} {b : Bool} (el : cur = l) (eb : b = true) :
    DbAns l b w (.returned (.tuple #[.agg #[.slice a cur.length c], .bool true])) (wr.setCell ⟨Y, 0, none⟩ (.slice a cur.length c)) := by
  subst el eb
  exact ⟨_, fp, rfl, ow_setCell ((Cd.sl _ tabC).ow_base h.ow hb.size) (fun q => by have := ((Cd.sl _ tabC).ow_lt h.ow _ q).1; simp only at this; omega) _, h.nd, (h.below hb hx).setCell hY _⟩
/-- A copy is stored in the cell of the result. -/
theorem DbAns.copy {w w1 w2 : World} {Y : Nat} {l l' : List T3} {u : Value} {fp : List Nat} (ho : tabsC.ow w2 w1.heap.size [u] l fp) (hn : fp.Nodup) (hb1 : Below w.heap.size w w1) (hb : Below w1.heap.size w1 w2) (hY : w.heap.size ≤ Y) (hY1 : Y < w1.heap.size) {b : Bool} (el : l = l') (eb : b = false) :
    DbAns l' b w (.returned (.tuple #[.agg #[u], .bool false])) (w2.setCell ⟨Y, 0, none⟩ u) := by
  subst el eb
  exact ⟨_, fp, rfl, ow_setCell ((Cd.sl _ tabC).ow_base ho hb1.size) (fun q => by have := ((Cd.sl _ tabC).ow_lt ho _ q).1; simp only at this; omega) _, hn, (below_then hb1 hb).setCell hY _⟩
theorem loc1_at {w w1 : World} {k : Nat} {v : Value} {e : TypeId} (h : w.heap[k]? = some (.cells #[v] e (0, 0))) (hb : Below w.heap.size w w1) : Loc1 w1 k v := (Loc1.of h).later hb
theorem remL_eq {l : List T3} {nm : ByteArray} {k : Nat} (hk : k < l.length) (h : (l[k]).1 = nm) : remL (l.take (k + 1)) nm = remL (l.take k) nm := by
  unfold remL
  rw [List.take_succ_eq_append_getElem hk, List.filter_append]
  simp [h]
theorem remL_ne {l : List T3} {nm : ByteArray} {k : Nat} (hk : k < l.length) (h : (l[k]).1 ≠ nm) : remL (l.take (k + 1)) nm = remL (l.take k) nm ++ [l[k]] := by
  unfold remL
  rw [List.take_succ_eq_append_getElem hk, List.filter_append]
  simp [h]
theorem remL_len (l : List T3) (nm : ByteArray) : (remL l nm).length ≤ l.length := List.length_filter_le _ _

/-- A table copied and laid in two cells of its own, to be appended. -/
structure Laid (wF w3 : World) (b : Nat) (us : List Value) (T : T3) (f fp : List Nat) : Prop where
  at_ : Cd.At w3 b 0 us
  ow : tabC.ow w3 wF.heap.size us T f
  nd : f.Nodup
  far : ∀ b ∈ f, b ∉ fp
theorem AccS.laid {wF wr w2 : World} {X c : Nat} {cur : List T3} {a : Option Addr} {fp : List Nat} (h : AccS wF wr X cur a c fp) (hb : Below wr.heap.size wr w2) {x y z : Value} {T : T3} {f : List Nat} (ho : tabC.ow w2 wr.heap.size [x, y, z] T f) (hn : f.Nodup) (e : TypeId) :
    AccS wF ((w2.alloc (.cells #[x, y, z] e (0, 0))).alloc (.cells #[x, y, z] e (0, 0))) X cur a c fp ∧ Laid wF ((w2.alloc (.cells #[x, y, z] e (0, 0))).alloc (.cells #[x, y, z] e (0, 0))) (w2.heap.size + 1) [x, y, z] T f fp := by
  have hbA := below_then (below_alloc w2 (.cells #[x, y, z] e (0, 0))) (below_alloc (w2.alloc (.cells #[x, y, z] e (0, 0))) (.cells #[x, y, z] e (0, 0)))
  refine ⟨(h.later hb).later hbA, ?_, tabC.ow_base (Cd.ow_later ho hbA) h.sz, hn, fun b hb q => ?_⟩
  · exact at3 (by have := row_alloc (w2.alloc (.cells #[x, y, z] e (0, 0))) (.cells #[x, y, z] e (0, 0)); rw [size_alloc] at this; exact this)
  · have h1 := (tabC.ow_lt ho b hb).1
    have h2 := ((Cd.sl _ tabC).ow_lt h.ow b q).2
    omega
end Go.Proofs.Ytnoennmhifmolaa.DbAcc
