/- Texts that the proof rests on, one behind the other. -/
import Derived.Test.YtdkhgeknjekkoaaGreatMg3Reference
import Derived.Test.YtdkhgeknjekkoaaGreatMg5Reference
import Derived.Test.YtdkhgeknjekkoaaGreatTabSpec
import Derived.Test.YtdkhgeknjekkoaaGreatQrySpec2
import Derived.Test.YtdkhgeknjekkoaaGreatCdN
import Derived.Test.YtdkhgeknjekkoaaGreatTabPut

namespace Go.Proofs.YtdkhgeknjekkoaaGreat.AnsDraw
open Go Go.RowKit Byt Ints IntsLaw Draw Cd Rows2 Tab TabSpec Exact Atom QryMath QrySpec QryImp MkAtom SlMath QryPar QryDraw QgDraw TabOpen TabElem SlTable Db DbMath DbExact DbDraw TabDraw

theorem touch_up {fp : List Nat} {w W : World} (h : Cd.Touch fp w W) {k o : Nat} (hk : w.heap.size ≤ k) (v : Value) : Cd.Touch fp w (W.setCell ⟨k, o, none⟩ v) :=
  ⟨h.os, h.tape, h.output, by simp only [World.size_setCell]; exact h.size, fun b hb hn => (Below.heap_setCell W ⟨k, o, none⟩ v b (by show b ≠ k; omega)).trans (h.block b hb hn)⟩
/-- A database stands in its cells, with the result's cells and the cursor. -/
structure PD (w : World) (c : Nat) (v : Value) (l : List UInt8) (B X : Nat) (u : Value) (Ts : List T3) (W : World) : Prop where
  d : DbExact.Loc1 W X u
  rd1 : ∃ a, DbExact.Loc1 W w.heap.size a
  rq : ∃ a b, Atom.Loc2 W (w.heap.size + 1) a b
  td : tabsC.rd W (fun b => w.heap.size + 2 ≤ b ∧ b ≠ X ∧ b < W.heap.size) [u] Ts
  cu : CR W c v l B
  cb : c < w.heap.size
  xb : w.heap.size + 2 ≤ X
  bl : Cd.Touch [c] w W
/-- And a query in its cells. -/
structure PT (w : World) (c : Nat) (v : Value) (l : List UInt8) (B X Y : Nat) (u : Value) (Ts : List T3) (n : Int) (u2 : Value) (L : List A2) (W : World) : Prop where
  d : DbExact.Loc1 W X u
  q : Atom.Loc2 W Y (.int .i64 n) u2
  rd1 : ∃ a, DbExact.Loc1 W w.heap.size a
  rq : ∃ a b, Atom.Loc2 W (w.heap.size + 1) a b
  td : tabsC.rd W (fun b => w.heap.size + 2 ≤ b ∧ b ≠ X ∧ b ≠ Y ∧ b < W.heap.size) [u] Ts
  tq : atomsC.rd W (fun b => w.heap.size + 2 ≤ b ∧ b ≠ X ∧ b ≠ Y ∧ b < W.heap.size) [u2] L
  cu : CR W c v l B
  cb : c < w.heap.size
  xb : w.heap.size + 2 ≤ X
  xy : X < Y
  bl : Cd.Touch [c] w W
section
variable {w : World} {c : Nat} {v : Value} {l : List UInt8} {B X Y : Nat} {u : Value} {Ts : List T3} {n : Int} {u2 : Value} {L : List A2} {W W' : World}
theorem PD.call (h : PD w c v l B X u Ts W) (ht : Cd.Touch [c] W W') (hc : CR W' c v l B) : PD w c v l B X u Ts W' := by
  obtain ⟨a, ha⟩ := h.rd1
  obtain ⟨x, y, hy⟩ := h.rq
  have h1 := h.cb
  have h2 := h.xb
  have hs := ht.size
  exact ⟨h.d.touched ht (by simp; omega), ⟨a, ha.touched ht (by simp; omega)⟩, ⟨x, y, hy.touched ht (by simp; omega)⟩,
    tabsC.mono (Cd.touched h.td ht fun b hb q => by rw [List.mem_singleton.1 hb] at q; omega) (fun b _ q => ⟨q.1, q.2.1, by omega⟩), hc, h.cb, h.xb, h.bl.trans ht⟩
theorem PD.withQ (h : PD w c v l B X u Ts W) {e : TypeId} {fp : List Nat} (hl : CR W' c v l B) (ht : Cd.Touch [c] W W') (ho : atomsC.ow W' W.heap.size [u2] L fp) :
    PT w c v l B X W'.heap.size u Ts n u2 L (W'.alloc (.cells #[.int .i64 n, u2] e (0, 0))) := by
  have hA := below_alloc W' (.cells #[.int .i64 n, u2] e (0, 0))
  have k := (h.call ht hl).call (Cd.Touch.of_below hA) (hl.later hA)
  have h1 := h.d.lt
  have h2 := h.xb
  have hs := ht.size
  have hz : (W'.alloc (.cells #[.int .i64 n, u2] e (0, 0))).heap.size = W'.heap.size + 1 := size_alloc _ _
  refine ⟨k.d, Atom.Loc2.of (row_alloc W' _), k.rd1, k.rq, ?_, ?_, k.cu, k.cb, k.xb, by omega, k.bl⟩
  · exact tabsC.mono (Cd.later (h.call ht hl).td hA) (fun b _ q => ⟨q.1, q.2.1, by omega, by omega⟩)
  · exact atomsC.mono (Cd.later (atomsC.ow_rd ho) hA) (fun b _ q => by have := atomsC.ow_lt ho b q; exact ⟨by omega, by omega, by omega, by omega⟩)
theorem PT.call (h : PT w c v l B X Y u Ts n u2 L W) (ht : Cd.Touch [c] W W') (hc : CR W' c v l B) : PT w c v l B X Y u Ts n u2 L W' := by
  obtain ⟨a, ha⟩ := h.rd1
  obtain ⟨x, y, hy⟩ := h.rq
  have h1 := h.cb
  have h2 := h.xb
  have h3 := h.xy
  have hs := ht.size
  exact ⟨h.d.touched ht (by simp; omega), h.q.touched ht (by simp; omega), ⟨a, ha.touched ht (by simp; omega)⟩, ⟨x, y, hy.touched ht (by simp; omega)⟩,
    tabsC.mono (Cd.touched h.td ht fun b hb q => by rw [List.mem_singleton.1 hb] at q; omega) (fun b _ q => ⟨q.1, q.2.1, q.2.2.1, by omega⟩),
    atomsC.mono (Cd.touched h.tq ht fun b hb q => by rw [List.mem_singleton.1 hb] at q; omega) (fun b _ q => ⟨q.1, q.2.1, q.2.2.1, by omega⟩), hc, h.cb, h.xb, h.xy, h.bl.trans ht⟩
/-- One of the cells at k, outside what the two read, is stored. -/
theorem PT.far (h : PT w c v l B X Y u Ts n u2 L W) {k o : Nat} (hk : w.heap.size ≤ k) (hn : k < w.heap.size + 2 ∨ k = X ∨ k = Y) (x : Value) :
    tabsC.rd (W.setCell ⟨k, o, none⟩ x) (fun b => w.heap.size + 2 ≤ b ∧ b ≠ X ∧ b ≠ Y ∧ b < (W.setCell ⟨k, o, none⟩ x).heap.size) [u] Ts ∧ atomsC.rd (W.setCell ⟨k, o, none⟩ x) (fun b => w.heap.size + 2 ≤ b ∧ b ≠ X ∧ b ≠ Y ∧ b < (W.setCell ⟨k, o, none⟩ x).heap.size) [u2] L ∧ CR (W.setCell ⟨k, o, none⟩ x) c v l B ∧ Cd.Touch [c] w (W.setCell ⟨k, o, none⟩ x) := by
  have ht := touch_set (w := W) (X := k) (o := o) x
  have h1 := h.cb
  have h2 := h.cu.2.2
  rw [World.size_setCell]
  exact ⟨Cd.touched h.td ht fun b hb q => by rw [List.mem_singleton.1 hb] at q; omega, Cd.touched h.tq ht fun b hb q => by rw [List.mem_singleton.1 hb] at q; omega, h.cu.keep ht (by simp; omega) (fun b hb => by rw [List.mem_singleton.1 hb]; omega), touch_up h.bl hk x⟩
theorem rd_set {α : Type} {cd : Cd α} {us : List Value} {a : α} {X Y k : Nat} {N o : Nat} (h : cd.rd W (fun b => N ≤ b ∧ b ≠ X ∧ b ≠ Y ∧ b < W.heap.size) us a) (hk : k < N ∨ k = X ∨ k = Y) (x : Value) :
    cd.rd (W.setCell ⟨k, o, none⟩ x) (fun b => N ≤ b ∧ b ≠ X ∧ b ≠ Y ∧ b < (W.setCell ⟨k, o, none⟩ x).heap.size) us a := by
  rw [World.size_setCell]
  exact Cd.touched h (touch_set (w := W) (X := k) (o := o) x) fun b hb q => by rw [List.mem_singleton.1 hb] at q; omega
theorem PT.setD (h : PT w c v l B X Y u Ts n u2 L W) {u' : Value} {Ts' : List T3} (hr : tabsC.rd W (fun b => w.heap.size + 2 ≤ b ∧ b ≠ X ∧ b ≠ Y ∧ b < W.heap.size) [u'] Ts') :
    PT w c v l B X Y u' Ts' n u2 L (W.setCell ⟨X, 0, none⟩ u') := by
  obtain ⟨a, ha⟩ := h.rd1
  obtain ⟨x, y, hy⟩ := h.rq
  have h2 := h.xb
  have h3 := h.xy
  obtain ⟨_, k2, k3, k4⟩ := h.far (k := X) (o := 0) (by omega) (Or.inr (Or.inl rfl)) u'
  exact ⟨h.d.set u', h.q.set_far (by show X ≠ Y; omega) _, ⟨a, ha.set_far (by show X ≠ w.heap.size; omega) _⟩, ⟨x, y, hy.set_far (by show X ≠ w.heap.size + 1; omega) _⟩, rd_set hr (Or.inr (Or.inl rfl)) _, k2, k3, h.cb, h.xb, h.xy, k4⟩
theorem PT.setQ (h : PT w c v l B X Y u Ts n u2 L W) {m : Int} {u' : Value} {L' : List A2} (hr : atomsC.rd W (fun b => w.heap.size + 2 ≤ b ∧ b ≠ X ∧ b ≠ Y ∧ b < W.heap.size) [u'] L') :
    PT w c v l B X Y u Ts m u' L' ((W.setCell ⟨Y, 0, none⟩ (.int .i64 m)).setCell ⟨Y, 1, none⟩ u') := by
  obtain ⟨a, ha⟩ := h.rd1
  obtain ⟨x, y, hy⟩ := h.rq
  have h2 := h.xb
  have h3 := h.xy
  obtain ⟨k1, _, k3, k4⟩ := h.far (k := Y) (o := 0) (by omega) (Or.inr (Or.inr rfl)) (.int .i64 m)
  have g2 := loc2_set1 (loc2_set0 h.q (.int .i64 m)) u'
  have hcb := h.cb
  have hbb := h.cu.2.2
  exact ⟨(h.d.set_far (by show Y ≠ X; omega) _).set_far (by show Y ≠ X; omega) _, g2, ⟨a, (ha.set_far (by show Y ≠ w.heap.size; omega) _).set_far (by show Y ≠ w.heap.size; omega) _⟩, ⟨x, y, (hy.set_far (by show Y ≠ w.heap.size + 1; omega) _).set_far (by show Y ≠ w.heap.size + 1; omega) _⟩,
    rd_set k1 (Or.inr (Or.inr rfl)) _, rd_set (rd_set hr (Or.inr (Or.inr rfl)) _) (Or.inr (Or.inr rfl)) _, k3.keep (touch_set _) (by simp; omega) (fun b hb => by rw [List.mem_singleton.1 hb]; omega), h.cb, h.xb, h.xy, touch_up k4 (by omega) _⟩
theorem PT.drew (h : PT w c v l B X Y u Ts n u2 L W) : PT w c v l B X Y u Ts n u2 L W.drew :=
  have hd : Below W.heap.size W W.drew := ⟨rfl, rfl, rfl, Nat.le_refl _, fun _ _ => rfl⟩
  h.call (Cd.Touch.of_below hd) (h.cu.later hd)
theorem PT.setR1 (h : PT w c v l B X Y u Ts n u2 L W) (x : Value) : PT w c v l B X Y u Ts n u2 L (W.setCell ⟨w.heap.size, 0, none⟩ x) := by
  obtain ⟨a, ha⟩ := h.rd1
  obtain ⟨p, q, hq⟩ := h.rq
  have h2 := h.xb
  have h3 := h.xy
  obtain ⟨k1, k2, k3, k4⟩ := h.far (k := w.heap.size) (o := 0) (Nat.le_refl _) (Or.inl (by omega)) x
  exact ⟨h.d.set_far (by show w.heap.size ≠ X; omega) _, h.q.set_far (by show w.heap.size ≠ Y; omega) _, ⟨x, ha.set x⟩, ⟨p, q, hq.set_far (by show w.heap.size ≠ w.heap.size + 1; omega) _⟩, k1, k2, k3, h.cb, h.xb, h.xy, k4⟩
theorem PT.setR2 (h : PT w c v l B X Y u Ts n u2 L W) (x y : Value) : PT w c v l B X Y u Ts n u2 L ((W.setCell ⟨w.heap.size + 1, 0, none⟩ x).setCell ⟨w.heap.size + 1, 1, none⟩ y) := by
  obtain ⟨a, ha⟩ := h.rd1
  obtain ⟨p, q, hq⟩ := h.rq
  have h2 := h.xb
  have h3 := h.xy
  have hcb := h.cb
  have hbb := h.cu.2.2
  obtain ⟨k1, k2, k3, k4⟩ := h.far (k := w.heap.size + 1) (o := 0) (by omega) (Or.inl (by omega)) x
  exact ⟨(h.d.set_far (by show w.heap.size + 1 ≠ X; omega) _).set_far (by show w.heap.size + 1 ≠ X; omega) _, (h.q.set_far (by show w.heap.size + 1 ≠ Y; omega) _).set_far (by show w.heap.size + 1 ≠ Y; omega) _, ⟨a, (ha.set_far (by show w.heap.size + 1 ≠ w.heap.size; omega) _).set_far (by show w.heap.size + 1 ≠ w.heap.size; omega) _⟩, ⟨x, y, loc2_set1 (loc2_set0 hq x) y⟩,
    rd_set k1 (Or.inl (by omega)) _, rd_set k2 (Or.inl (by omega)) _, k3.keep (touch_set _) (by simp; omega) (fun b hb => by rw [List.mem_singleton.1 hb]; omega), h.cb, h.xb, h.xy, touch_up k4 (by omega) _⟩
theorem PT.all (h : PT w c v l B X Y u Ts n u2 L W) : W.cell? ⟨X, 0, none⟩ = some u ∧ W.cell? ⟨Y, 0, none⟩ = some (.int .i64 n) ∧ W.cell? ⟨Y, 1, none⟩ = some u2 ∧ PT w c v l B X Y u Ts n u2 L W := ⟨h.d.c0, h.q.c0, h.q.c1, h⟩
/-- The results are stored. -/
theorem PT.fin (h : PT w c v l B X Y u Ts n u2 L W) :
    ∃ W', W' = ((W.setCell ⟨w.heap.size, 0, none⟩ u).setCell ⟨w.heap.size + 1, 0, none⟩ (.int .i64 n)).setCell ⟨w.heap.size + 1, 1, none⟩ u2 ∧
      W'.cell? ⟨w.heap.size, 0, none⟩ = some u ∧ W'.cell? ⟨w.heap.size + 1, 0, none⟩ = some (.int .i64 n) ∧ W'.cell? ⟨w.heap.size + 1, 1, none⟩ = some u2 ∧
      tabsC.rd W'.drew (fun b => w.heap.size + 2 ≤ b ∧ b < W'.drew.heap.size) [u] Ts ∧ atomsC.rd W'.drew (fun b => w.heap.size + 2 ≤ b ∧ b < W'.drew.heap.size) [u2] L ∧ CR W'.drew c v l B ∧ Cd.Touch [c] w W'.drew := by
  obtain ⟨a, ha⟩ := h.rd1
  obtain ⟨x, y, hy⟩ := h.rq
  have hcb := h.cb
  have hbb := h.cu.2.2
  obtain ⟨k1, k2, k3, k4⟩ := h.far (k := w.heap.size) (o := 0) (Nat.le_refl _) (Or.inl (by omega)) u
  have g2 := loc2_set1 (loc2_set0 (hy.set_far (p := ⟨w.heap.size, 0, none⟩) (by show w.heap.size ≠ w.heap.size + 1; omega) u) (.int .i64 n)) u2
  have g1 := ((ha.set u).set_far (p := ⟨w.heap.size + 1, 0, none⟩) (by show w.heap.size + 1 ≠ w.heap.size; omega) (.int .i64 n)).set_far (p := ⟨w.heap.size + 1, 1, none⟩) (by show w.heap.size + 1 ≠ w.heap.size; omega) u2
  have t1 := rd_set (k := w.heap.size + 1) (o := 1) (rd_set (k := w.heap.size + 1) (o := 0) k1 (Or.inl (by omega)) (.int .i64 n)) (Or.inl (by omega)) u2
  have t2 := rd_set (k := w.heap.size + 1) (o := 1) (rd_set (k := w.heap.size + 1) (o := 0) k2 (Or.inl (by omega)) (.int .i64 n)) (Or.inl (by omega)) u2
  have hc := (k3.keep (touch_set (w := W.setCell ⟨w.heap.size, 0, none⟩ u) (X := w.heap.size + 1) (o := 0) (.int .i64 n)) (by simp; omega) (fun b hb => by rw [List.mem_singleton.1 hb]; omega)).keep (touch_set (o := 1) (X := w.heap.size + 1) u2) (by simp; omega) (fun b hb => by rw [List.mem_singleton.1 hb]; omega)
  have htt := touch_up (touch_up k4 (k := w.heap.size + 1) (o := 0) (by omega) (.int .i64 n)) (k := w.heap.size + 1) (o := 1) (by omega) u2
  have hd : ∀ W : World, Below W.heap.size W W.drew := fun W => ⟨rfl, rfl, rfl, Nat.le_refl _, fun _ _ => rfl⟩
  exact ⟨_, rfl, g1.c0, g2.c0, g2.c1, tabsC.mono (Cd.later t1 (hd _)) fun b _ q => ⟨q.1, q.2.2.2⟩, atomsC.mono (Cd.later t2 (hd _)) fun b _ q => ⟨q.1, q.2.2.2⟩, hc.later (hd _), htt.trans (Cd.Touch.of_below (hd _))⟩
end
/-- A drawn database and query. -/
def PDrawn (c : Nat) (v : Value) (l : List UInt8) (B : Nat) (w : World) (e : Ending) (w' : World) : Prop :=
  ∃ u Ts n u2 L, e = .returned (.tuple #[.agg #[u], .agg #[.int .i64 n, u2]]) ∧ tabsC.rd w' (fun b => w.heap.size + 2 ≤ b ∧ b < w'.heap.size) [u] Ts ∧ atomsC.rd w' (fun b => w.heap.size + 2 ≤ b ∧ b < w'.heap.size) [u2] L ∧ Ts.length ≤ 7 ∧ (∀ T ∈ Ts, OkD T) ∧ (-9223372036854775808 ≤ n ∧ n ≤ 9223372036854775807) ∧ OkQ L ∧ CR w' c v l B ∧ Cd.Touch [c] w w'
set_option maxRecDepth 100000 in
set_option maxHeartbeats 6400000 in
theorem pair_any (c : Nat) (v : Value) (l : List UInt8) (B : Nat) (w : World) (h : CR w c v l B) :
    Calls Tryz.prog 42 #[.pointer (some ⟨c, 0, none⟩)] w (PDrawn c v l B w) := by
  have H := Lib.hid h
  have hcw := h.lt
  have HCW := Lib.hid hcw
  clear h hcw
  go_enter Tryz.func42, Tryz.ntmps42
  go_wp2_with fail
  generalize hW : (w.alloc _).alloc _ = W0
  obtain ⟨r0, r1, hz, hb0⟩ := start2g w _ _ hW
  clear hW
  have HC0 := Lib.hid (H.out.later hb0)
  have HR0 := Lib.hid (And.intro (DbExact.Loc1.of r0) (Atom.Loc2.of r1))
  have HB0 := Lib.hid hb0
  have HZ := Lib.hid hz
  clear r0 r1 hz hb0
  refine (db_any c v l B W0 HC0.out.1 HC0.out.2.1 HC0.out.2.2).mono ?_
  rintro e w1 ⟨u, Ts, fp, rfl, how, hnd, hlen, hok, hc1, hg1⟩
  obtain ⟨ad, cd, rfl⟩ := Cd.ow_slice (c := tabC) how
  have HS1 := Lib.hid (show PD w c v l B w1.heap.size (.slice ad Ts.length cd) Ts (w1.alloc (.cells #[.slice ad Ts.length cd] 26 (0, 0))) from by
    have hA := below_alloc w1 (.cells #[.slice ad Ts.length cd] 26 (0, 0))
    have hT := touch_of hg1
    have hlt := HCW.out
    have hz := HZ.out
    have hs := hg1.size
    have hz1 : (w1.alloc (.cells #[.slice ad Ts.length cd] 26 (0, 0))).heap.size = w1.heap.size + 1 := size_alloc _ _
    refine ⟨DbExact.Loc1.of (row_alloc w1 _), ⟨_, (HR0.out.1.touched hT (by simp; omega)).later hA⟩, ⟨_, _, (HR0.out.2.touched hT (by simp; omega)).later hA⟩, ?_, (HC0.out.after hc1 hg1).later hA, hlt, by omega, ((Cd.Touch.of_below (fp := [c]) HB0.out).trans hT).trans (Cd.Touch.of_below hA)⟩
    exact tabsC.mono (Cd.later (tabsC.ow_rd how) hA) fun b _ q => by have := tabsC.ow_lt how b q; exact ⟨by omega, by omega, by omega⟩)
  have HTS := Lib.hid (And.intro (show Ts.length ≤ 7 by omega) hok)
  clear how hnd hlen hok hc1 hg1 HR0 HB0 HC0
  go_wp2_with fail
  generalize w1.alloc _ = W1 at *
  generalize w1.heap.size = X at *
  refine (query_any c v l B W1 HS1.out.cu).mono ?_
  rintro e w2 ⟨n, u2, L, fq, rfl, hoq, _, hqok, hc2, ht2⟩
  obtain ⟨al, cl, rfl⟩ := Cd.ow_slice (c := atomC) hoq
  have hqp := qOk_iff.1 hqok
  have HS2 := Lib.hid (HS1.out.withQ (n := n) (e := 29) hc2 ht2 hoq)
  have HQ := Lib.hid (And.intro (show -9223372036854775808 ≤ n ∧ n ≤ 9223372036854775807 by have := hqp.1; have := hqp.2.1; omega) (okq_of hqp))
  clear hoq hqok hc2 ht2 hqp HS1
  go_wp2_with fail
  generalize w2.alloc _ = W2 at *
  generalize w2.heap.size = Y at *
  refine (once_cr 14 c v l B W2 HS2.out.cu).mono ?_
  rintro e w3 ⟨b, rfl, hc3, ht3⟩
  have HS3 := Lib.hid (HS2.out.call ht3 hc3)
  clear hc3 ht3 HS2
  cases b
  · go_wp2_with fail
    refine (once_cr 20 c v l B w3 HS3.out.cu).mono ?_
    rintro e w5 ⟨b2, rfl, hc5, ht5⟩
    have HS5 := Lib.hid (HS3.out.call ht5 hc5)
    clear hc5 ht5
    cases b2
    · obtain ⟨rx0, hx0⟩ := HS5.out.rd1
      obtain ⟨rx1, rx2, hx1⟩ := HS5.out.rq
      have z0 := HS5.out.d.c0
      have z1 := HS5.out.q.c0
      have z2 := HS5.out.q.c1
      obtain ⟨g0, g1⟩ := hx0
      obtain ⟨g2, g3, g4, g5⟩ := hx1
      have hs0 := HS5.out.drew
      go_wp2_with fail
      go_region_held3 (fun wx => wx.cell? ⟨X, 0, none⟩ = some (.slice ad Ts.length cd) ∧ wx.cell? ⟨Y, 0, none⟩ = some (.int .i64 n) ∧ wx.cell? ⟨Y, 1, none⟩ = some (.slice al L.length cl) ∧ PT w c v l B X Y (.slice ad Ts.length cd) Ts n (.slice al L.length cl) L wx)
        (exact PT.all (by first | assumption | exact PT.setR1 (by assumption) _ | exact PT.setR2 (by assumption) _ _ | exact PT.setR2 (PT.setR1 (by assumption) _) _ _))
        (fail)
      all_goals
        obtain ⟨W', hW', k0, k1, k2, hrd1, hrd2, hcr, htc⟩ := HS5.out.fin
        go_wp2_with fail
        rw [← hW']
        exact bodyPost_ret (v := .tuple #[.agg #[.slice ad Ts.length cd], .agg #[.int .i64 n, .slice al L.length cl]]) (by simp [results, Tryz.results42, go_sem, k0, k1, k2]) rfl ⟨_, Ts, n, _, L, rfl, hrd1, hrd2, HTS.out.1, HTS.out.2, HQ.out.1, HQ.out.2, hcr, htc⟩
    · go_wp2_with fail
      refine (dbany_any c v l B w5 HS5.out.cu.1 HS5.out.cu.2.1 HS5.out.cu.2.2).mono ?_
      rintro e w6 ⟨u', Ts', rfl, hrd, hlen', hok', hc6, hg6⟩
      obtain ⟨ad', cd', rfl, _⟩ := Cd.sl_form hrd
      have HSC := Lib.hid (HS5.out.call (touch_of hg6) (HS5.out.cu.after hc6 hg6))
      have HS6 := Lib.hid (HSC.out.setD (u' := .slice ad' Ts'.length cd') (Ts' := Ts') (tabsC.mono hrd fun b _ q => by
        have h1 := HS5.out.d.lt
        have h2 := HS5.out.q.lt
        have h3 := HS5.out.xb
        exact ⟨by omega, by omega, by omega, by omega⟩))
      have HTS' := Lib.hid (And.intro hlen' hok')
      have z0 := HSC.out.d.c0
      have z1 := HSC.out.d.f0
      clear hrd hlen' hok' hc6 hg6
      go_wp2_with fail
      clear z0 z1
      generalize w6.setCell ⟨X, 0, none⟩ (.slice ad' Ts'.length cd') = W6 at *
      obtain ⟨rx0, hx0⟩ := HS6.out.rd1
      obtain ⟨rx1, rx2, hx1⟩ := HS6.out.rq
      have z0 := HS6.out.d.c0
      have z1 := HS6.out.q.c0
      have z2 := HS6.out.q.c1
      obtain ⟨g0, g1⟩ := hx0
      obtain ⟨g2, g3, g4, g5⟩ := hx1
      have hs0 := HS6.out.drew
      go_wp2_with fail
      go_region_held3 (fun wx => wx.cell? ⟨X, 0, none⟩ = some (.slice ad' Ts'.length cd') ∧ wx.cell? ⟨Y, 0, none⟩ = some (.int .i64 n) ∧ wx.cell? ⟨Y, 1, none⟩ = some (.slice al L.length cl) ∧ PT w c v l B X Y (.slice ad' Ts'.length cd') Ts' n (.slice al L.length cl) L wx)
        (exact PT.all (by first | assumption | exact PT.setR1 (by assumption) _ | exact PT.setR2 (by assumption) _ _ | exact PT.setR2 (PT.setR1 (by assumption) _) _ _))
        (fail)
      all_goals
        obtain ⟨W', hW', k0, k1, k2, hrd1, hrd2, hcr, htc⟩ := HS6.out.fin
        go_wp2_with fail
        rw [← hW']
        exact bodyPost_ret (v := .tuple #[.agg #[.slice ad' Ts'.length cd'], .agg #[.int .i64 n, .slice al L.length cl]]) (by simp [results, Tryz.results42, go_sem, k0, k1, k2]) rfl ⟨_, Ts', n, _, L, rfl, hrd1, hrd2, HTS'.out.1, HTS'.out.2, HQ.out.1, HQ.out.2, hcr, htc⟩
  · go_wp2_with fail
    refine (any_any c v l B w3 HS3.out.cu).mono ?_
    rintro e w4 ⟨n', u', L', fp', rfl, hoq, _, hn', hok', hc4, ht4⟩
    obtain ⟨al', cl', rfl⟩ := Cd.ow_slice (c := atomC) hoq
    have HSB := Lib.hid (HS3.out.call ht4 hc4)
    have HS4 := Lib.hid (HSB.out.setQ (m := n') (u' := .slice al' L'.length cl') (L' := L') (atomsC.mono (atomsC.ow_rd hoq) fun b _ q => by
      have h0 := atomsC.ow_lt hoq b q
      have h1 := HS3.out.d.lt
      have h2 := HS3.out.q.lt
      have h3 := HS3.out.xb
      exact ⟨by omega, by omega, by omega, by omega⟩))
    have HQ' := Lib.hid (And.intro hn' hok')
    have z0 := HSB.out.q.c0
    have z1 := HSB.out.q.c1
    have z2 := HSB.out.q.f0
    have z3 := HSB.out.q.f1
    clear hoq hn' hok' hc4 ht4
    go_wp2_with fail
    clear z0 z1 z2 z3
    generalize (w4.setCell ⟨Y, 0, none⟩ (.int .i64 n')).setCell ⟨Y, 1, none⟩ (.slice al' L'.length cl') = W4 at *
    refine (once_cr 20 c v l B W4 HS4.out.cu).mono ?_
    rintro e w5 ⟨b2, rfl, hc5, ht5⟩
    have HS5 := Lib.hid (HS4.out.call ht5 hc5)
    clear hc5 ht5
    cases b2
    · obtain ⟨rx0, hx0⟩ := HS5.out.rd1
      obtain ⟨rx1, rx2, hx1⟩ := HS5.out.rq
      have z0 := HS5.out.d.c0
      have z1 := HS5.out.q.c0
      have z2 := HS5.out.q.c1
      obtain ⟨g0, g1⟩ := hx0
      obtain ⟨g2, g3, g4, g5⟩ := hx1
      have hs0 := HS5.out.drew
      go_wp2_with fail
      go_region_held3 (fun wx => wx.cell? ⟨X, 0, none⟩ = some (.slice ad Ts.length cd) ∧ wx.cell? ⟨Y, 0, none⟩ = some (.int .i64 n') ∧ wx.cell? ⟨Y, 1, none⟩ = some (.slice al' L'.length cl') ∧ PT w c v l B X Y (.slice ad Ts.length cd) Ts n' (.slice al' L'.length cl') L' wx)
        (exact PT.all (by first | assumption | exact PT.setR1 (by assumption) _ | exact PT.setR2 (by assumption) _ _ | exact PT.setR2 (PT.setR1 (by assumption) _) _ _))
        (fail)
      all_goals
        obtain ⟨W', hW', k0, k1, k2, hrd1, hrd2, hcr, htc⟩ := HS5.out.fin
        go_wp2_with fail
        rw [← hW']
        exact bodyPost_ret (v := .tuple #[.agg #[.slice ad Ts.length cd], .agg #[.int .i64 n', .slice al' L'.length cl']]) (by simp [results, Tryz.results42, go_sem, k0, k1, k2]) rfl ⟨_, Ts, n', _, L', rfl, hrd1, hrd2, HTS.out.1, HTS.out.2, HQ'.out.1, HQ'.out.2, hcr, htc⟩
    · go_wp2_with fail
      refine (dbany_any c v l B w5 HS5.out.cu.1 HS5.out.cu.2.1 HS5.out.cu.2.2).mono ?_
      rintro e w6 ⟨u', Ts', rfl, hrd, hlen', hok', hc6, hg6⟩
      obtain ⟨ad', cd', rfl, _⟩ := Cd.sl_form hrd
      have HSC := Lib.hid (HS5.out.call (touch_of hg6) (HS5.out.cu.after hc6 hg6))
      have HS6 := Lib.hid (HSC.out.setD (u' := .slice ad' Ts'.length cd') (Ts' := Ts') (tabsC.mono hrd fun b _ q => by
        have h1 := HS5.out.d.lt
        have h2 := HS5.out.q.lt
        have h3 := HS5.out.xb
        exact ⟨by omega, by omega, by omega, by omega⟩))
      have HTS' := Lib.hid (And.intro hlen' hok')
      have z0 := HSC.out.d.c0
      have z1 := HSC.out.d.f0
      clear hrd hlen' hok' hc6 hg6
      go_wp2_with fail
      clear z0 z1
      generalize w6.setCell ⟨X, 0, none⟩ (.slice ad' Ts'.length cd') = W6 at *
      obtain ⟨rx0, hx0⟩ := HS6.out.rd1
      obtain ⟨rx1, rx2, hx1⟩ := HS6.out.rq
      have z0 := HS6.out.d.c0
      have z1 := HS6.out.q.c0
      have z2 := HS6.out.q.c1
      obtain ⟨g0, g1⟩ := hx0
      obtain ⟨g2, g3, g4, g5⟩ := hx1
      have hs0 := HS6.out.drew
      go_wp2_with fail
      go_region_held3 (fun wx => wx.cell? ⟨X, 0, none⟩ = some (.slice ad' Ts'.length cd') ∧ wx.cell? ⟨Y, 0, none⟩ = some (.int .i64 n') ∧ wx.cell? ⟨Y, 1, none⟩ = some (.slice al' L'.length cl') ∧ PT w c v l B X Y (.slice ad' Ts'.length cd') Ts' n' (.slice al' L'.length cl') L' wx)
        (exact PT.all (by first | assumption | exact PT.setR1 (by assumption) _ | exact PT.setR2 (by assumption) _ _ | exact PT.setR2 (PT.setR1 (by assumption) _) _ _))
        (fail)
      all_goals
        obtain ⟨W', hW', k0, k1, k2, hrd1, hrd2, hcr, htc⟩ := HS6.out.fin
        go_wp2_with fail
        rw [← hW']
        exact bodyPost_ret (v := .tuple #[.agg #[.slice ad' Ts'.length cd'], .agg #[.int .i64 n', .slice al' L'.length cl']]) (by simp [results, Tryz.results42, go_sem, k0, k1, k2]) rfl ⟨_, Ts', n', _, L', rfl, hrd1, hrd2, HTS'.out.1, HTS'.out.2, HQ'.out.1, HQ'.out.2, hcr, htc⟩
end Go.Proofs.YtdkhgeknjekkoaaGreat.AnsDraw

namespace Go.Proofs.YtdkhgeknjekkoaaGreat.AnsDraw
open Go Go.RowKit Byt Ints IntsLaw Draw Cd Rows2 Tab TabSpec Exact Atom QryMath QrySpec QryImp MkAtom SlMath QryPar QryDraw QgDraw TabOpen TabElem SlTable Db DbMath DbExact DbDraw TabDraw

/-- A database and a query stand in their cells, behind the cursor. -/
structure PM (w : World) (c : Nat) (v : Value) (l : List UInt8) (X Y : Nat) (u : Value) (Ts : List T3) (n : Int) (u2 : Value) (L : List A2) (W : World) : Prop where
  d : DbExact.Loc1 W X u
  q : Atom.Loc2 W Y (.int .i64 n) u2
  rd1 : ∃ a, DbExact.Loc1 W w.heap.size a
  rq : ∃ a b, Atom.Loc2 W (w.heap.size + 1) a b
  td : tabsC.rd W (fun b => c < b ∧ b ≠ X ∧ b ≠ Y ∧ b < W.heap.size) [u] Ts
  tq : atomsC.rd W (fun b => c < b ∧ b ≠ X ∧ b ≠ Y ∧ b < W.heap.size) [u2] L
  cu : CR W c v l w.heap.size
  cb : w.heap.size + 2 ≤ c
  xb : c < X
  xy : X < Y
  bl : Below w.heap.size w W
section
variable {w : World} {c : Nat} {v : Value} {l : List UInt8} {X Y : Nat} {u : Value} {Ts : List T3} {n : Int} {u2 : Value} {L : List A2} {W W' : World}
theorem PM.call (h : PM w c v l X Y u Ts n u2 L W) (ht : Cd.Touch [c] W W') (hc : CR W' c v l w.heap.size) : PM w c v l X Y u Ts n u2 L W' := by
  obtain ⟨a, ha⟩ := h.rd1
  obtain ⟨x, y, hy⟩ := h.rq
  have h1 := h.cb
  have h2 := h.xb
  have h3 := h.xy
  have hs := ht.size
  exact ⟨h.d.touched ht (by simp; omega), h.q.touched ht (by simp; omega), ⟨a, ha.touched ht (by simp; omega)⟩, ⟨x, y, hy.touched ht (by simp; omega)⟩,
    tabsC.mono (Cd.touched h.td ht fun b hb q => by rw [List.mem_singleton.1 hb] at q; omega) (fun b _ q => ⟨q.1, q.2.1, q.2.2.1, by omega⟩),
    atomsC.mono (Cd.touched h.tq ht fun b hb q => by rw [List.mem_singleton.1 hb] at q; omega) (fun b _ q => ⟨q.1, q.2.1, q.2.2.1, by omega⟩), hc, h.cb, h.xb, h.xy, Cd.Touch.below h.bl ht (fun b hb => by rw [List.mem_singleton.1 hb]; omega)⟩
theorem PM.drew (h : PM w c v l X Y u Ts n u2 L W) : PM w c v l X Y u Ts n u2 L W.drew :=
  have hd : Below W.heap.size W W.drew := ⟨rfl, rfl, rfl, Nat.le_refl _, fun _ _ => rfl⟩
  h.call (Cd.Touch.of_below hd) (h.cu.later hd)
theorem PM.setR1 (h : PM w c v l X Y u Ts n u2 L W) (x : Value) : PM w c v l X Y u Ts n u2 L (W.setCell ⟨w.heap.size, 0, none⟩ x) := by
  obtain ⟨a, ha⟩ := h.rd1
  obtain ⟨p, q, hq⟩ := h.rq
  have h1 := h.cb
  have h2 := h.xb
  have h3 := h.xy
  exact ⟨h.d.set_far (by show w.heap.size ≠ X; omega) _, h.q.set_far (by show w.heap.size ≠ Y; omega) _, ⟨x, ha.set x⟩, ⟨p, q, hq.set_far (by show w.heap.size ≠ w.heap.size + 1; omega) _⟩,
    rd_set (N := c + 1) h.td (Or.inl (by omega)) _, rd_set (N := c + 1) h.tq (Or.inl (by omega)) _, h.cu.keep (touch_set _) (by simp; omega) (fun b hb => by rw [List.mem_singleton.1 hb]; omega), h.cb, h.xb, h.xy, h.bl.setCell (Nat.le_refl _) _⟩
theorem PM.setR2 (h : PM w c v l X Y u Ts n u2 L W) (x y : Value) : PM w c v l X Y u Ts n u2 L ((W.setCell ⟨w.heap.size + 1, 0, none⟩ x).setCell ⟨w.heap.size + 1, 1, none⟩ y) := by
  obtain ⟨a, ha⟩ := h.rd1
  obtain ⟨p, q, hq⟩ := h.rq
  have h1 := h.cb
  have h2 := h.xb
  have h3 := h.xy
  exact ⟨(h.d.set_far (by show w.heap.size + 1 ≠ X; omega) _).set_far (by show w.heap.size + 1 ≠ X; omega) _, (h.q.set_far (by show w.heap.size + 1 ≠ Y; omega) _).set_far (by show w.heap.size + 1 ≠ Y; omega) _, ⟨a, (ha.set_far (by show w.heap.size + 1 ≠ w.heap.size; omega) _).set_far (by show w.heap.size + 1 ≠ w.heap.size; omega) _⟩, ⟨x, y, loc2_set1 (loc2_set0 hq x) y⟩,
    rd_set (N := c + 1) (rd_set (N := c + 1) h.td (Or.inl (by omega)) _) (Or.inl (by omega)) _, rd_set (N := c + 1) (rd_set (N := c + 1) h.tq (Or.inl (by omega)) _) (Or.inl (by omega)) _, (h.cu.keep (touch_set _) (by simp; omega) (fun b hb => by rw [List.mem_singleton.1 hb]; omega)).keep (touch_set _) (by simp; omega) (fun b hb => by rw [List.mem_singleton.1 hb]; omega), h.cb, h.xb, h.xy, (h.bl.setCell (by show _ ≤ w.heap.size + 1; omega) _).setCell (by show _ ≤ w.heap.size + 1; omega) _⟩
theorem PM.all (h : PM w c v l X Y u Ts n u2 L W) : W.cell? ⟨X, 0, none⟩ = some u ∧ W.cell? ⟨Y, 0, none⟩ = some (.int .i64 n) ∧ W.cell? ⟨Y, 1, none⟩ = some u2 ∧ PM w c v l X Y u Ts n u2 L W := ⟨h.d.c0, h.q.c0, h.q.c1, h⟩
theorem PM.fin (h : PM w c v l X Y u Ts n u2 L W) :
    ∃ W', W' = ((W.setCell ⟨w.heap.size, 0, none⟩ u).setCell ⟨w.heap.size + 1, 0, none⟩ (.int .i64 n)).setCell ⟨w.heap.size + 1, 1, none⟩ u2 ∧
      W'.cell? ⟨w.heap.size, 0, none⟩ = some u ∧ W'.cell? ⟨w.heap.size + 1, 0, none⟩ = some (.int .i64 n) ∧ W'.cell? ⟨w.heap.size + 1, 1, none⟩ = some u2 ∧
      tabsC.rd W' (fun b => w.heap.size ≤ b ∧ b < W'.heap.size) [u] Ts ∧ atomsC.rd W' (fun b => w.heap.size ≤ b ∧ b < W'.heap.size) [u2] L ∧ Below w.heap.size w W' := by
  have k := (h.setR1 u).setR2 (.int .i64 n) u2
  obtain ⟨a, ha⟩ := h.rd1
  obtain ⟨x, y, hy⟩ := h.rq
  have hcb := h.cb
  have g2 := loc2_set1 (loc2_set0 (hy.set_far (p := ⟨w.heap.size, 0, none⟩) (by show w.heap.size ≠ w.heap.size + 1; omega) u) (.int .i64 n)) u2
  have g1 := ((ha.set u).set_far (p := ⟨w.heap.size + 1, 0, none⟩) (by show w.heap.size + 1 ≠ w.heap.size; omega) (.int .i64 n)).set_far (p := ⟨w.heap.size + 1, 1, none⟩) (by show w.heap.size + 1 ≠ w.heap.size; omega) u2
  exact ⟨_, rfl, g1.c0, g2.c0, g2.c1, tabsC.mono k.td fun b _ q => ⟨by omega, q.2.2.2⟩, atomsC.mono k.tq fun b _ q => ⟨by omega, q.2.2.2⟩, k.bl⟩
end
/-- What the law draws. -/
def EDrawn (w : World) (e : Ending) (w' : World) : Prop :=
  ∃ u Ts n u2 L m, e = .returned (.tuple #[.agg #[u], .agg #[.int .i64 n, u2], .int .i64 m]) ∧ tabsC.rd w' (fun b => w.heap.size ≤ b ∧ b < w'.heap.size) [u] Ts ∧ atomsC.rd w' (fun b => w.heap.size ≤ b ∧ b < w'.heap.size) [u2] L ∧ Ts.length ≤ 7 ∧ (∀ T ∈ Ts, OkD T) ∧ (-9223372036854775808 ≤ n ∧ n ≤ 9223372036854775807) ∧ OkQ L ∧ Below w.heap.size w w'
set_option maxRecDepth 100000 in
set_option maxHeartbeats 6400000 in
theorem draw_eval (v : Value) (l : List UInt8) (w : World) (hr : Reads w v l w.heap.size) :
    Calls Tryz.prog 9 #[v] w (EDrawn w) := by
  have HR := Lib.hid (fun w' (hb : Below w.heap.size w w') => hr.later hb)
  have HN := Lib.hid (fun B w' (hr : Reads w' v l B) => new_any v l B w' hr)
  clear hr
  go_enter Tryz.func9, Tryz.ntmps9
  go_wp2_with fail
  generalize hW : (w.alloc _).alloc _ = W0
  obtain ⟨r0, r1, hz, hb0⟩ := start2g w _ _ hW
  clear hW
  refine (HN.out _ W0 (HR.out _ hb0)).mono ?_
  rintro e w1 ⟨rfl, hc1, hg1⟩
  have hb1 : Below W0.heap.size W0 w1 := ⟨hg1.os, hg1.tape, hg1.output, hg1.size, fun k hk => hg1.block k hk (by simp)⟩
  have HB1 := Lib.hid (below_then hb0 hb1)
  have HL1 := Lib.hid (And.intro ((DbExact.Loc1.of r0).later hb1) ((Atom.Loc2.of r1).later hb1))
  have hlt1 := cur_size hc1
  have HC1 := Lib.hid (show CR w1 W0.heap.size v l w.heap.size from ⟨hc1, HR.out _ HB1.out, by omega⟩)
  have hcw : w.heap.size + 2 ≤ W0.heap.size := by omega
  obtain ⟨c, hcc⟩ : ∃ c, W0.heap.size = c := ⟨_, rfl⟩
  rw [hcc] at HC1 hcw hlt1
  rw [hcc]
  have HCW := Lib.hid hcw
  have HLT := Lib.hid hlt1
  clear r0 r1 hz hb0 hb1 hc1 hg1 HN hcc hcw hlt1
  have HD := Lib.hid (pair_any c v l w.heap.size w1 HC1.out)
  go_wp2_with fail
  refine HD.out.mono ?_
  rintro e w2 ⟨u, Ts, n, u2, L, rfl, hrd, hrq, hlen, hok, hn, hoq, hc2, ht2⟩
  obtain ⟨ad, cd, rfl, _⟩ := Cd.sl_form hrd
  obtain ⟨al, cl, rfl, _⟩ := Cd.sl_form hrq
  have HOK := Lib.hid (And.intro (And.intro hlen hok) (And.intro hn hoq))
  generalize hD : Value.slice ad Ts.length cd = u at *
  generalize hQ : Value.slice al L.length cl = u2 at *
  have HS0 := Lib.hid (show ∀ W (A1 A2 : Obj), A1 = .cells #[u] 26 (0, 0) → A2 = .cells #[.int .i64 n, u2] 29 (0, 0) → W = (w2.alloc A1).alloc A2 → PM w c v l w2.heap.size (w2.heap.size + 1) u Ts n u2 L W from by
    rintro W A1 A2 rfl rfl rfl
    obtain ⟨p0, p1, pz, pb⟩ := start2g w2 _ _ (rfl : (w2.alloc (.cells #[u] 26 (0, 0))).alloc (.cells #[.int .i64 n, u2] 29 (0, 0)) = _)
    have h1 := HCW.out
    have h2 := HLT.out
    have hs := ht2.size
    exact ⟨DbExact.Loc1.of p0, Atom.Loc2.of p1, ⟨_, (HL1.out.1.touched ht2 (by simp; omega)).later pb⟩, ⟨_, _, (HL1.out.2.touched ht2 (by simp; omega)).later pb⟩,
      tabsC.mono (Cd.later hrd pb) (fun b hb q => ⟨by omega, by omega, by omega, by omega⟩), atomsC.mono (Cd.later hrq pb) (fun b hb q => ⟨by omega, by omega, by omega, by omega⟩),
      hc2.later pb, h1, by omega, by omega, below_then (Cd.Touch.below HB1.out ht2 (fun b hb => by rw [List.mem_singleton.1 hb]; omega)) pb⟩)
  clear hrd hrq hlen hok hn hoq hc2 ht2 HD HL1 HB1 HC1
  subst hD hQ
  go_wp2_with fail
  have HS := Lib.hid (HS0.out _ _ _ rfl rfl rfl)
  clear HS0
  generalize (w2.alloc _).alloc _ = W2 at *
  have HK := Lib.hid (show L.length ≤ 100 by have := HOK.out.2.2.2.1; omega)
  have z0 := HS.out.d.c0
  have z1 := HS.out.q.c0
  have z2 := HS.out.q.c1
  obtain ⟨rx0, g0, g1⟩ := HS.out.rd1
  obtain ⟨rx1, rx2, g2, g3, g4, g5⟩ := HS.out.rq
  have HMK := Lib.hid (fun W' (h : PM w c v l w2.heap.size (w2.heap.size + 1) (.slice ad Ts.length cd) Ts n (.slice al L.length cl) L W') => mask_any c v l w.heap.size W' h.cu n al L.length cl HK.out)
  have hs0 := HS.out.drew
  go_wp2_with fail
  go_region_held3 (fun wx => wx.cell? ⟨w2.heap.size, 0, none⟩ = some (.slice ad Ts.length cd) ∧ wx.cell? ⟨w2.heap.size + 1, 0, none⟩ = some (.int .i64 n) ∧ wx.cell? ⟨w2.heap.size + 1, 1, none⟩ = some (.slice al L.length cl) ∧ PM w c v l w2.heap.size (w2.heap.size + 1) (.slice ad Ts.length cd) Ts n (.slice al L.length cl) L wx)
    (exact PM.all (by first | assumption | exact PM.setR1 (by assumption) _ | exact PM.setR2 (by assumption) _ _ | exact PM.setR2 (PM.setR1 (by assumption) _) _ _))
    (first | (go_at_call 43; refine (HMK.out _ (by assumption)).mono ?_; rintro e w5 ⟨x, rfl, hc5, ht5⟩; (have hs5 : PM w c v l w2.heap.size (w2.heap.size + 1) (.slice ad Ts.length cd) Ts n (.slice al L.length cl) L w5 := PM.call (by assumption) ht5 hc5); (have y0 := hs5.d.c0); (have y1 := hs5.q.c0); (have y2 := hs5.q.c1); obtain ⟨ya, y3, y4⟩ := hs5.rd1; obtain ⟨yb, yc, y5, y6, y7, y8⟩ := hs5.rq; clear hc5 ht5))
  all_goals
    obtain ⟨W', hW', k0, k1, k2, hrd1, hrd2, hbf⟩ := hs5.fin
    go_wp2_with fail
    rw [← hW']
    exact bodyPost_ret (v := .tuple #[.agg #[.slice ad Ts.length cd], .agg #[.int .i64 n, .slice al L.length cl], .int .i64 x]) (by simp [results, Tryz.results9, go_sem, k0, k1, k2]) rfl ⟨_, Ts, n, _, L, x, rfl, hrd1, hrd2, HOK.out.1.1, HOK.out.1.2, HOK.out.2.1, HOK.out.2.2, hbf⟩
end Go.Proofs.YtdkhgeknjekkoaaGreat.AnsDraw

namespace Go.Proofs.YtdkhgeknjekkoaaGreat.AnsMath
open Go Go.RowKit TabSpec

abbrev Rel := List Int × List (List Int)

/-- A row of a table agrees with the values so far. -/
def fitRow (vs row avs tr : List Int) : Bool :=
  (List.range avs.length).all fun k => (List.range row.length).all fun j => decide (vs.getD j 0 ≠ avs.getD k 0) || decide (row.getD j 0 = tr.getD k 0)
def fitR (vs row : List Int) (R : Rel) : Bool := R.2.any fun tr => fitRow vs row R.1 tr
def fitAll (vs row : List Int) (l : List Rel) : Bool := l.all (fitR vs row)
def walkL (vs : List Int) (l : List Rel) : Nat → List Int → List (List Int)
  | 0, row => if fitAll vs row l then [row] else []
  | n + 1, row => if fitAll vs row l then (List.range 10).flatMap fun v : Nat => walkL vs l n (row ++ [(v : Int)]) else []

theorem fitRow_iff {vs row avs tr : List Int} : fitRow vs row avs tr = true ↔ ∀ k < avs.length, ∀ j < row.length, vs.getD j 0 = avs.getD k 0 → row.getD j 0 = tr.getD k 0 := by
  unfold fitRow
  simp only [List.all_eq_true, List.mem_range, Bool.or_eq_true, decide_eq_true_eq]
  constructor
  · intro h k hk j hj e
    rcases h k hk j hj with q | q
    · exact absurd e q
    · exact q
  · intro h k hk j hj
    by_cases e : vs.getD j 0 = avs.getD k 0
    · exact .inr (h k hk j hj e)
    · exact .inl e
theorem fitRow_pre {vs row s avs tr : List Int} (h : fitRow vs (row ++ s) avs tr = true) : fitRow vs row avs tr = true := by
  rw [fitRow_iff] at *
  intro k hk j hj e
  have := h k hk j (by rw [List.length_append]; omega) e
  simp only [List.getD, List.getElem?_append_left hj] at this ⊢
  exact this
theorem fitAll_pre {vs row s : List Int} {l : List Rel} (h : fitAll vs (row ++ s) l = true) : fitAll vs row l = true := by
  unfold fitAll fitR at *
  simp only [List.all_eq_true, List.any_eq_true] at *
  intro R hR
  obtain ⟨tr, h1, h2⟩ := h R hR
  exact ⟨tr, h1, fitRow_pre h2⟩
theorem mem_walkL {vs : List Int} {l : List Rel} : ∀ (n : Nat) (row r : List Int), r ∈ walkL vs l n row ↔ ∃ s : List Int, s.length = n ∧ (∀ x ∈ s, 0 ≤ x ∧ x ≤ 9) ∧ r = row ++ s ∧ fitAll vs r l = true
  | 0, row, r => by
    unfold walkL
    constructor
    · intro h
      split at h
      · have := List.mem_singleton.1 h
        subst this
        exact ⟨[], rfl, by simp, by simp, by assumption⟩
      · cases h
    · rintro ⟨s, hs, _, rfl, h⟩
      have : s = [] := List.eq_nil_of_length_eq_zero hs
      subst this
      simp only [List.append_nil] at h ⊢
      rw [if_pos h]
      exact List.mem_singleton.2 rfl
  | n + 1, row, r => by
    unfold walkL
    constructor
    · intro h
      split at h
      · obtain ⟨v, hv, h1⟩ := List.mem_flatMap.1 h
        obtain ⟨s, h2, h3, h4, h5⟩ := (mem_walkL n _ _).1 h1
        have hv := List.mem_range.1 hv
        refine ⟨(v : Int) :: s, by simp [h2], fun x hx => ?_, by rw [h4, List.append_assoc]; rfl, h5⟩
        rcases List.mem_cons.1 hx with rfl | q
        · omega
        · exact h3 x q
      · cases h
    · rintro ⟨s, hs, hin, rfl, h⟩
      rw [if_pos (fitAll_pre h)]
      match s, hs with
      | x :: s, hs =>
        have hx := hin x (List.mem_cons.2 (.inl rfl))
        refine List.mem_flatMap.2 ⟨x.toNat, List.mem_range.2 (by omega), (mem_walkL n _ _).2 ⟨s, by simpa using hs, fun y hy => hin y (List.mem_cons.2 (.inr hy)), ?_, h⟩⟩
        rw [List.append_assoc, show ((x.toNat : Nat) : Int) = x by omega]
        rfl
theorem cmpR_pre : ∀ (p a b : List Int), cmpR (p ++ a) (p ++ b) = cmpR a b
  | [], _, _ => rfl
  | x :: p, a, b => by
    have e : cmpR (x :: (p ++ a)) (x :: (p ++ b)) = cmpR (p ++ a) (p ++ b) := by
      show (if x < x then -1 else if x < x then 1 else cmpR (p ++ a) (p ++ b)) = _
      rw [if_neg (Int.lt_irrefl x), if_neg (Int.lt_irrefl x)]
    exact e.trans (cmpR_pre p a b)
theorem asc_walkL {vs : List Int} {l : List Rel} : ∀ (n : Nat) (row : List Int), (walkL vs l n row).Pairwise fun a b => cmpR a b < 0
  | 0, row => by
    unfold walkL
    split
    · exact List.pairwise_singleton ..
    · exact List.Pairwise.nil
  | n + 1, row => by
    unfold walkL
    split
    · refine List.pairwise_flatMap.2 ⟨fun v _ => asc_walkL n _, ?_⟩
      refine List.Pairwise.imp ?_ List.pairwise_lt_range
      intro a b hab x hx y hy
      obtain ⟨s, _, _, rfl, _⟩ := (mem_walkL n _ _).1 hx
      obtain ⟨t, _, _, rfl, _⟩ := (mem_walkL n _ _).1 hy
      rw [List.append_assoc, List.append_assoc, cmpR_pre]
      show cmpR ((a : Int) :: s) ((b : Int) :: t) < 0
      unfold cmpR
      rw [if_pos (by omega)]
      decide
    · exact List.Pairwise.nil
theorem len_flatMap_le {α β : Type} (f : α → List β) (c : Nat) : ∀ (l : List α), (∀ a ∈ l, (f a).length ≤ c) → (l.flatMap f).length ≤ l.length * c
  | [], _ => by simp
  | a :: l, h => by
    have h1 := len_flatMap_le f c l fun b hb => h b (List.mem_cons.2 (.inr hb))
    have h2 := h a (List.mem_cons.2 (.inl rfl))
    rw [List.flatMap_cons, List.length_append, List.length_cons, Nat.add_mul]
    omega
theorem len_walkL {vs : List Int} {l : List Rel} : ∀ (n : Nat) (row : List Int), (walkL vs l n row).length ≤ 10 ^ n
  | 0, row => by
    unfold walkL
    split <;> simp
  | n + 1, row => by
    unfold walkL
    split
    · have := len_flatMap_le (fun v : Nat => walkL vs l n (row ++ [(v : Int)])) (10 ^ n) (List.range 10) fun v _ => len_walkL n _
      rw [List.length_range] at this
      rw [Nat.pow_succ, Nat.mul_comm]
      exact this
    · simp

/-! The program's way: an assignment, extended row by row. -/
def upd (f : Nat → Int) (v : Nat) (x : Int) : Nat → Int := fun u => if u = v then x else f u
def extF : (Nat → Int) → List (Int × Int) → Option (Nat → Int)
  | f, [] => some f
  | f, p :: ps => if f p.1.toNat ≠ -1 ∧ f p.1.toNat ≠ p.2 then none else extF (upd f p.1.toNat p.2) ps
def matF (f : Nat → Int) : List Rel → List (Nat → Int)
  | [] => [f]
  | R :: rs => R.2.flatMap fun row => match extF f (R.1.zip row) with | none => [] | some g => matF g rs
def emp : Nat → Int := fun _ => -1
def selF (vs : List Int) (f : Nat → Int) : List Int := vs.map fun v => f v.toNat
def ansM (vs : List Int) (l : List Rel) : List (List Int) := (matF emp l).map (selF vs)

def Agr (t f : Nat → Int) : Prop := ∀ v, f v ≠ -1 → t v = f v
theorem Agr.trans {a b c : Nat → Int} (h : Agr a b) (k : Agr b c) : Agr a c := fun v hv => by
  have := k v hv
  rw [h v (by rw [this]; exact hv), this]
def Sat (t : Nat → Int) (R : Rel) : Prop := ∃ row ∈ R.2, ∀ p ∈ R.1.zip row, t p.1.toNat = p.2
/-- The values of a relation's rows are values. -/
def RelOk (R : Rel) : Prop := R.2.length ≤ 8 ∧ R.2.Nodup ∧ (∀ v ∈ R.1, 0 ≤ v) ∧ ∀ row ∈ R.2, row.length = R.1.length ∧ ∀ x ∈ row, 0 ≤ x ∧ x ≤ 9
theorem zip_snd {a b : List Int} {p : Int × Int} (h : p ∈ a.zip b) : p.2 ∈ b := (List.of_mem_zip h).2
theorem RelOk.ne {R : Rel} (h : RelOk R) {row : List Int} (hr : row ∈ R.2) : ∀ p ∈ R.1.zip row, p.2 ≠ -1 := fun p hp => by
  have := (h.2.2.2 row hr).2 p.2 (zip_snd hp)
  omega
theorem ext_some : ∀ {zs : List (Int × Int)} {f g : Nat → Int}, extF f zs = some g → (∀ p ∈ zs, p.2 ≠ -1) → Agr g f ∧ ∀ p ∈ zs, g p.1.toNat = p.2
  | [], f, g, h, _ => by
    injection h with h
    subst h
    exact ⟨fun _ _ => rfl, fun p hp => by cases hp⟩
  | p :: ps, f, g, h, hn => by
    unfold extF at h
    split at h
    · cases h
    · rename_i hc
      obtain ⟨h1, h2⟩ := ext_some h fun q hq => hn q (List.mem_cons.2 (.inr hq))
      have hp := hn p (List.mem_cons.2 (.inl rfl))
      have hg : g p.1.toNat = p.2 := by
        have := h1 p.1.toNat (by unfold upd; rw [if_pos rfl]; exact hp)
        rw [this]
        unfold upd
        rw [if_pos rfl]
      refine ⟨fun v hv => ?_, fun q hq => ?_⟩
      · by_cases e : v = p.1.toNat
        · subst e
          rw [hg]
          by_cases e2 : f p.1.toNat = p.2
          · exact e2.symm
          · exact absurd ⟨hv, e2⟩ hc
        · have := h1 v (by unfold upd; rw [if_neg e]; exact hv)
          rw [this]
          unfold upd
          rw [if_neg e]
      · rcases List.mem_cons.1 hq with rfl | hq
        · exact hg
        · exact h2 q hq
theorem ext_of {t : Nat → Int} : ∀ {zs : List (Int × Int)} {f : Nat → Int}, (∀ p ∈ zs, p.2 ≠ -1) → Agr t f → (∀ p ∈ zs, t p.1.toNat = p.2) → ∃ g, extF f zs = some g ∧ Agr t g
  | [], f, _, h, _ => ⟨f, rfl, h⟩
  | p :: ps, f, hn, h, hz => by
    have hp := hz p (List.mem_cons.2 (.inl rfl))
    unfold extF
    rw [if_neg (fun q => q.2 (by rw [← hp]; exact (h _ q.1).symm))]
    refine ext_of (fun q hq => hn q (List.mem_cons.2 (.inr hq))) (fun v hv => ?_) fun q hq => hz q (List.mem_cons.2 (.inr hq))
    unfold upd at hv ⊢
    by_cases e : v = p.1.toNat
    · rw [if_pos e, e]; exact hp
    · rw [if_neg e] at hv ⊢
      exact h v hv
theorem mem_mat {f g : Nat → Int} {R : Rel} {rs : List Rel} : g ∈ matF f (R :: rs) ↔ ∃ row ∈ R.2, ∃ h, extF f (R.1.zip row) = some h ∧ g ∈ matF h rs := by
  show g ∈ R.2.flatMap _ ↔ _
  rw [List.mem_flatMap]
  constructor
  · rintro ⟨row, hr, h⟩
    refine ⟨row, hr, ?_⟩
    cases hx : extF f (R.1.zip row) with
    | none => rw [hx] at h; cases h
    | some k => rw [hx] at h; exact ⟨k, rfl, h⟩
  · rintro ⟨row, hr, h, hx, hg⟩
    exact ⟨row, hr, by rw [hx]; exact hg⟩
theorem mat_mem : ∀ {l : List Rel} {f g : Nat → Int}, (∀ R ∈ l, RelOk R) → g ∈ matF f l → Agr g f ∧ ∀ R ∈ l, Sat g R
  | [], f, g, _, h => by
    have := List.mem_singleton.1 h
    subst this
    exact ⟨fun _ _ => rfl, fun R hR => by cases hR⟩
  | R :: rs, f, g, hok, h => by
    obtain ⟨row, hr, k, hx, hg⟩ := mem_mat.1 h
    have hR := hok R (List.mem_cons.2 (.inl rfl))
    obtain ⟨h1, h2⟩ := ext_some hx (hR.ne hr)
    obtain ⟨h3, h4⟩ := mat_mem (fun R hR => hok R (List.mem_cons.2 (.inr hR))) hg
    refine ⟨h3.trans h1, fun Q hQ => ?_⟩
    rcases List.mem_cons.1 hQ with rfl | hQ
    · exact ⟨row, hr, fun p hp => by rw [h3 _ (by rw [h2 p hp]; exact hR.ne hr p hp), h2 p hp]⟩
    · exact h4 Q hQ
theorem mat_of {t : Nat → Int} : ∀ {l : List Rel} {f : Nat → Int}, (∀ R ∈ l, RelOk R) → Agr t f → (∀ R ∈ l, Sat t R) → ∃ g ∈ matF f l, Agr t g
  | [], f, _, h, _ => ⟨f, List.mem_singleton.2 rfl, h⟩
  | R :: rs, f, hok, h, hs => by
    have hR := hok R (List.mem_cons.2 (.inl rfl))
    obtain ⟨row, hr, hz⟩ := hs R (List.mem_cons.2 (.inl rfl))
    obtain ⟨k, hx, hk⟩ := ext_of (hR.ne hr) h hz
    obtain ⟨g, hg, ha⟩ := mat_of (l := rs) (fun R hR => hok R (List.mem_cons.2 (.inr hR))) hk fun Q hQ => hs Q (List.mem_cons.2 (.inr hQ))
    exact ⟨g, mem_mat.2 ⟨row, hr, k, hx, hg⟩, ha⟩
theorem zip_at {a b : List Int} (hl : b.length = a.length) {k : Nat} (hk : k < a.length) : (a[k], b[k]'(by omega)) ∈ a.zip b := by
  have h : k < (a.zip b).length := by rw [List.length_zip]; omega
  have := List.getElem_mem h
  rw [List.getElem_zip] at this
  exact this
theorem mat_pw : ∀ {l : List Rel} {f : Nat → Int}, (∀ R ∈ l, RelOk R) → (matF f l).Pairwise fun g h => ∃ R ∈ l, ∃ v ∈ R.1, g v.toNat ≠ h v.toNat
  | [], f, _ => List.pairwise_singleton ..
  | R :: rs, f, hok => by
    have hR := hok R (List.mem_cons.2 (.inl rfl))
    have hrs : ∀ R ∈ rs, RelOk R := fun Q hQ => hok Q (List.mem_cons.2 (.inr hQ))
    show (R.2.flatMap _).Pairwise _
    refine List.pairwise_flatMap.2 ⟨fun row _ => ?_, ?_⟩
    · split
      · exact List.Pairwise.nil
      · refine List.Pairwise.imp ?_ (mat_pw hrs)
        rintro g h ⟨Q, hQ, v, hv, hne⟩
        exact ⟨Q, List.mem_cons.2 (.inr hQ), v, hv, hne⟩
    · refine List.Pairwise.imp_of_mem ?_ hR.2.1
      intro a b ha hb hab x hx y hy
      have hla := (hR.2.2.2 a ha).1
      have hlb := (hR.2.2.2 b hb).1
      cases hxa : extF f (R.1.zip a) with
      | none => rw [hxa] at hx; cases hx
      | some g =>
      cases hxb : extF f (R.1.zip b) with
      | none => rw [hxb] at hy; cases hy
      | some h =>
      rw [hxa] at hx
      rw [hxb] at hy
      have h1 := (ext_some hxa (hR.ne ha)).2
      have h2 := (ext_some hxb (hR.ne hb)).2
      have h3 := (mat_mem hrs hx).1
      have h4 := (mat_mem hrs hy).1
      refine Classical.byContradiction fun hno => hab (List.ext_getElem (by omega) fun k hk hk' => ?_)
      have p1 := zip_at hla (k := k) (by omega)
      have p2 := zip_at hlb (k := k) (by omega)
      have e1 := h3 _ (by rw [h1 _ p1]; exact hR.ne ha _ p1)
      have e2 := h4 _ (by rw [h2 _ p2]; exact hR.ne hb _ p2)
      rw [h1 _ p1] at e1
      rw [h2 _ p2] at e2
      refine Classical.byContradiction fun hne => hno ⟨R, List.mem_cons.2 (.inl rfl), R.1[k], List.getElem_mem _, ?_⟩
      rw [e1, e2]
      exact hne
theorem len_mat : ∀ {l : List Rel} {f : Nat → Int}, (∀ R ∈ l, RelOk R) → (matF f l).length ≤ 8 ^ l.length
  | [], f, _ => by simp [matF]
  | R :: rs, f, hok => by
    have hR := (hok R (List.mem_cons.2 (.inl rfl))).1
    have hrs : ∀ R ∈ rs, RelOk R := fun Q hQ => hok Q (List.mem_cons.2 (.inr hQ))
    have := len_flatMap_le (fun row => match extF f (R.1.zip row) with | none => [] | some g => matF g rs) (8 ^ rs.length) R.2 fun row _ => by
      split
      · simp
      · exact len_mat hrs
    show (R.2.flatMap _).length ≤ _
    rw [List.length_cons, Nat.pow_succ, Nat.mul_comm]
    exact Nat.le_trans this (Nat.mul_le_mul_right _ hR)

/-- The variables are those of the relations. -/
structure Cover (vs : List Int) (l : List Rel) : Prop where
  ok : ∀ R ∈ l, RelOk R
  nd : vs.Nodup
  pos : ∀ v ∈ vs, 0 ≤ v
  sub : ∀ R ∈ l, ∀ v ∈ R.1, v ∈ vs
  all : ∀ v ∈ vs, ∃ R ∈ l, v ∈ R.1
theorem nodup_ansM {vs : List Int} {l : List Rel} (h : Cover vs l) : (ansM vs l).Nodup := by
  unfold ansM
  rw [List.nodup_iff_pairwise_ne, List.pairwise_map]
  refine List.Pairwise.imp ?_ (mat_pw (f := emp) h.ok)
  rintro a b ⟨R, hR, v, hv, hne⟩ e
  refine hne ?_
  unfold selF at e
  have := List.map_inj_left.1 e v (h.sub R hR v hv)
  exact this
theorem getD_at {l : List Int} {k : Nat} (h : k < l.length) : l.getD k 0 = l[k] := by simp [List.getD, h]
theorem mem_ansM {vs : List Int} {l : List Rel} (h : Cover vs l) (r : List Int) : r ∈ ansM vs l ↔ r ∈ walkL vs l vs.length [] := by
  rw [mem_walkL]
  unfold ansM
  rw [List.mem_map]
  constructor
  · rintro ⟨g, hg, rfl⟩
    obtain ⟨_, hs⟩ := mat_mem h.ok hg
    refine ⟨_, by unfold selF; rw [List.length_map], fun x hx => ?_, (List.nil_append _).symm, ?_⟩
    · unfold selF at hx
      obtain ⟨v, hv, rfl⟩ := List.mem_map.1 hx
      obtain ⟨R, hR, hvR⟩ := h.all v hv
      obtain ⟨row, hrow, hz⟩ := hs R hR
      obtain ⟨k, hk, rfl⟩ := List.getElem_of_mem hvR
      have hl := ((h.ok R hR).2.2.2 row hrow)
      have := hz _ (zip_at hl.1 hk)
      simp only at this
      rw [this]
      exact hl.2 _ (List.getElem_mem _)
    · unfold fitAll fitR
      simp only [List.all_eq_true, List.any_eq_true]
      intro R hR
      obtain ⟨row, hrow, hz⟩ := hs R hR
      refine ⟨row, hrow, fitRow_iff.2 fun k hk j hj e => ?_⟩
      have hl := ((h.ok R hR).2.2.2 row hrow)
      have hj' : j < vs.length := by unfold selF at hj; rwa [List.length_map] at hj
      rw [getD_at hj', getD_at hk] at e
      rw [getD_at hj, getD_at (by omega)]
      have := hz _ (zip_at hl.1 hk)
      simp only at this
      rw [show (selF vs g)[j] = g (vs[j]).toNat from List.getElem_map .., e, this]
  · rintro ⟨s, hs, hin, e, hf⟩
    rw [List.nil_append] at e
    subst e
    have hidx : ∀ v ∈ vs, ∃ j, ∃ hj : j < vs.length, vs[j] = v := fun v hv => by
      obtain ⟨j, hj, e⟩ := List.getElem_of_mem hv
      exact ⟨j, hj, e⟩
    let t : Nat → Int := fun u => r.getD (vs.idxOf (u : Int)) (-1)
    have ht : ∀ j (hj : j < vs.length), t vs[j].toNat = r[j]'(by omega) := fun j hj => by
      have h0 := h.pos _ (List.getElem_mem hj)
      have e1 : vs.idxOf ((vs[j].toNat : Nat) : Int) = j := by
        rw [show ((vs[j].toNat : Nat) : Int) = vs[j] by omega]
        exact h.nd.idxOf_getElem j hj
      show r.getD _ _ = _
      rw [e1]
      simp [List.getD, show j < r.length by omega]
    have hsat : ∀ R ∈ l, Sat t R := fun R hR => by
      unfold fitAll fitR at hf
      simp only [List.all_eq_true, List.any_eq_true] at hf
      obtain ⟨row, hrow, hfr⟩ := hf R hR
      have hl := ((h.ok R hR).2.2.2 row hrow)
      rw [fitRow_iff] at hfr
      refine ⟨row, hrow, fun p hp => ?_⟩
      obtain ⟨k, hk, rfl⟩ := List.getElem_of_mem hp
      rw [List.getElem_zip]
      rw [List.length_zip] at hk
      have hk' : k < R.1.length := by omega
      obtain ⟨j, hj, ej⟩ := hidx _ (h.sub R hR _ (List.getElem_mem hk'))
      show t (R.1[k]).toNat = row[k]
      rw [← ej, ht j hj]
      have := hfr k hk' j (by omega) (by rw [getD_at hj, getD_at hk']; exact ej)
      rw [getD_at (by omega), getD_at (by omega)] at this
      exact this
    obtain ⟨g, hg, ha⟩ := mat_of (f := emp) h.ok (fun v hv => absurd rfl hv) hsat
    refine ⟨g, hg, ?_⟩
    obtain ⟨_, hsg⟩ := mat_mem h.ok hg
    unfold selF
    refine List.ext_getElem (by rw [List.length_map]; omega) fun j hj hj' => ?_
    rw [List.length_map] at hj
    rw [List.getElem_map, ← ht j hj]
    obtain ⟨R, hR, hvR⟩ := h.all _ (List.getElem_mem hj)
    obtain ⟨row, hrow, hz⟩ := hsg R hR
    obtain ⟨k, hk, ek⟩ := List.getElem_of_mem hvR
    have hl := ((h.ok R hR).2.2.2 row hrow)
    have p1 := zip_at hl.1 hk
    have := hz _ p1
    simp only [ek] at this
    exact (ha _ (by rw [this]; exact (h.ok R hR).ne hrow _ p1)).symm
theorem len_ansM {vs : List Int} {l : List Rel} (h : ∀ R ∈ l, RelOk R) (hl : l.length ≤ 4) : (ansM vs l).length ≤ 4096 := by
  unfold ansM
  rw [List.length_map]
  exact Nat.le_trans (len_mat h) (Nat.le_trans (Nat.pow_le_pow_right (by decide) hl) (by decide))
/-- Two strictly ascending lists of the same rows are one. -/
theorem asc_same : ∀ {a b : List (List Int)}, a.Pairwise (fun x y => cmpR x y < 0) → b.Pairwise (fun x y => cmpR x y < 0) → (∀ r, r ∈ a ↔ r ∈ b) → a = b
  | [], [], _, _, _ => rfl
  | [], y :: _, _, _, h => by have := (h y).2 (List.mem_cons.2 (.inl rfl)); cases this
  | x :: _, [], _, _, h => by have := (h x).1 (List.mem_cons.2 (.inl rfl)); cases this
  | x :: xs, y :: ys, ha, hb, h => by
    have ha' := List.pairwise_cons.1 ha
    have hb' := List.pairwise_cons.1 hb
    have hxy : x = y := by
      rcases List.mem_cons.1 ((h x).1 (List.mem_cons.2 (.inl rfl))) with e | e
      · exact e
      · rcases List.mem_cons.1 ((h y).2 (List.mem_cons.2 (.inl rfl))) with e2 | e2
        · exact e2.symm
        · have h1 := hb'.1 x e
          have h2 := ha'.1 y e2
          rw [cmpR_anti] at h1
          omega
    subst hxy
    rw [asc_same ha'.2 hb'.2 fun r => ?_]
    have hr := h r
    constructor
    · intro q
      rcases List.mem_cons.1 (hr.1 (List.mem_cons.2 (.inr q))) with e | e
      · subst e
        have := ha'.1 r q
        rw [cmpR_self] at this
        omega
      · exact e
    · intro q
      rcases List.mem_cons.1 (hr.2 (List.mem_cons.2 (.inr q))) with e | e
      · subst e
        have := hb'.1 r q
        rw [cmpR_self] at this
        omega
      · exact e
/-- The program's rows, sorted, are the model's. -/
theorem sorted_ansM {vs : List Int} {l : List Rel} (h : Cover vs l) {m : List (List Int)} (hp : m.Perm (ansM vs l)) (hs : m.Pairwise fun a b => cmpR a b ≤ 0) : m = walkL vs l vs.length [] := by
  have hn : m.Nodup := hp.nodup_iff.2 (nodup_ansM h)
  refine asc_same ?_ (asc_walkL _ _) fun r => by rw [hp.mem_iff, mem_ansM h]
  refine List.Pairwise.imp ?_ (List.pairwise_and_iff.2 ⟨hs, hn⟩)
  rintro a b ⟨h1, h2⟩
  have : cmpR a b ≠ 0 := fun q => h2 (cmpR_eq q)
  omega
end Go.Proofs.YtdkhgeknjekkoaaGreat.AnsMath

namespace Go.Proofs.YtdkhgeknjekkoaaGreat.AnsSpec
open Go Go.RowKit Byt Ints IntsLaw Cd Rows2 Tab TabSpec Exact Atom QryMath QryImp AnsMath SlMath

theorem loc3_drewN {w : World} {X m : Nat} {a b c : Value} (h : Loc3 w X a b c) : Loc3 (w.drewN m) X a b c := ⟨h.c0, h.c1, h.c2, h.f0, h.f1, h.f2⟩
def cellF (vs row avs tr : List Int) (k j : Nat) : Bool := decide (vs.getD j 0 ≠ avs.getD k 0) || decide (row.getD j 0 = tr.getD k 0)
def fitJ (vs row avs tr : List Int) (k j : Nat) : Bool := (List.range j).all fun i => cellF vs row avs tr k i
def fitK (vs row avs tr : List Int) (k : Nat) : Bool := (List.range k).all fun i => fitJ vs row avs tr i row.length
theorem fitK_all (vs row avs tr : List Int) : fitK vs row avs tr avs.length = fitRow vs row avs tr := rfl
theorem fitJ_succ (vs row avs tr : List Int) (k j : Nat) : fitJ vs row avs tr k (j + 1) = (fitJ vs row avs tr k j && cellF vs row avs tr k j) := by
  unfold fitJ
  rw [List.range_succ, List.all_append]
  simp
theorem fitK_succ (vs row avs tr : List Int) (k : Nat) : fitK vs row avs tr (k + 1) = (fitK vs row avs tr k && fitJ vs row avs tr k row.length) := by
  unfold fitK
  rw [List.range_succ, List.all_append]
  simp
def andJ (vs row avs tr : List Int) (k j : Nat) : Bool := fitK vs row avs tr k && fitJ vs row avs tr k j
theorem andJ_zero (vs row avs tr : List Int) (k : Nat) : andJ vs row avs tr k 0 = fitK vs row avs tr k := by unfold andJ fitJ; simp
theorem andJ_end (vs row avs tr : List Int) (k : Nat) : andJ vs row avs tr k row.length = fitK vs row avs tr (k + 1) := (fitK_succ vs row avs tr k).symm
theorem andJ_succ (vs row avs tr : List Int) (k j : Nat) : andJ vs row avs tr k (j + 1) = (andJ vs row avs tr k j && cellF vs row avs tr k j) := by
  unfold andJ
  rw [fitJ_succ, Bool.and_assoc]
theorem cell_ne {vs row avs tr : List Int} {k j : Nat} (hj : j < vs.length) (hk : k < avs.length) (h : vs[j] ≠ avs[k]) : cellF vs row avs tr k j = true := by
  unfold cellF
  rw [getD_at hj, getD_at hk, decide_eq_true h]
  rfl
theorem cell_eq {vs row avs tr : List Int} {k j : Nat} (hj : j < vs.length) (hk : k < avs.length) (hr : j < row.length) (ht : k < tr.length) (h : vs[j] = avs[k]) : cellF vs row avs tr k j = decide (row[j] = tr[k]) := by
  unfold cellF
  rw [getD_at hj, getD_at hk, getD_at hr, getD_at ht, decide_eq_false (by rw [h]; simp)]
  rfl

set_option maxRecDepth 100000 in
set_option maxHeartbeats 6400000 in
theorem spec_fits (nm : ByteArray) (ar : Int) (u : Value) (rows : List (List Int)) (an : ByteArray) (av : Value) (avs : List Int) (vv rv : Value) (vs row : List Int) (S1 S2 S3 S4 : Nat → Prop) (w : World)
    (h1 : rowsC.rd w S1 [u] rows) (h2 : rowC.rd w S2 [av] avs) (h3 : rowC.rd w S3 [vv] vs) (h4 : rowC.rd w S4 [rv] row) (hlen : row.length ≤ vs.length) (hrow : ∀ r ∈ rows, r.length = avs.length) :
    Calls Tryz.prog 102 #[.agg #[.string nm, .int .i64 ar, u], .agg #[.string an, av], vv, rv] w fun e w' => e = .returned (.bool (fitR vs row (avs, rows))) ∧ Below w.heap.size w w' := by
  have HR1 := Lib.hid (fun w' (hb : Below w.heap.size w w') => Cd.later h1 hb)
  have HR2 := Lib.hid (fun w' (hb : Below w.heap.size w w') => Cd.later h2 hb)
  have HR3 := Lib.hid (fun w' (hb : Below w.heap.size w w') => Cd.later h3 hb)
  have HR4 := Lib.hid (fun w' (hb : Below w.heap.size w w') => Cd.later h4 hb)
  obtain ⟨a1, c1, rfl, hl1⟩ := rows_form h1
  obtain ⟨a2, c2, rfl, hl2⟩ := row_form h2
  obtain ⟨a3, c3, rfl, hl3⟩ := row_form h3
  obtain ⟨a4, c4, rfl, hl4⟩ := row_form h4
  clear h1 h2 h3 h4
  have HROW := Lib.hid hrow
  have HLEN := Lib.hid hlen
  clear hrow hlen
  go_enter Tryz.func102, Tryz.ntmps102
  go_wp2_with fail
  generalize hW : (w.alloc _).alloc _ = W
  obtain ⟨r0, r1, _, hb0⟩ := start2g w _ _ hW
  have L3 := Lib.hid (Loc3.of r0)
  have L2 := Lib.hid (Loc2.of r1)
  have HB := Lib.hid hb0
  replace HR1 := Lib.hid (HR1.out W hb0)
  replace HR2 := Lib.hid (HR2.out W hb0)
  replace HR3 := Lib.hid (HR3.out W hb0)
  replace HR4 := Lib.hid (HR4.out W hb0)
  clear hW r0 r1 hb0
  go_loopw [9] (fun s wr => ∃ i m : Nat, i ≤ rows.length ∧ s = .int .i64 i ∧ Hid (∀ tr ∈ rows.take i, fitRow vs row avs tr = false) ∧ wr = W.drewN m) (fun s _ => rows.length - (intOf s).toNat)
  case atStart => exact ⟨0, 0, Nat.zero_le _, rfl, Lib.hid (fun x hx => by simp at hx), rfl⟩
  case round =>
    obtain ⟨i, m, hi, rfl, hno, hwr⟩ := hrel
    have g2 := (loc3_drewN (m := m) L3.out).c2
    rw [← hwr] at g2
    have HWR := Lib.hid hwr
    clear hwr
    by_cases hlt : i < rows.length
    · obtain ⟨b, off, cap', v, e1, hbB, hc, hv⟩ := rows_at HR1.out hlt
      injection e1 with e1 e2 e3
      subst e1 e3
      have p1 : (0 : Int) ≤ (i : Int) := by omega
      have p2 : (i : Int) < (rows.length : Int) := by omega
      have HLT := Lib.hid hlt
      have HTL := Lib.hid (HROW.out _ (List.getElem_mem hlt))
      have HNX := Lib.hid (show fitRow vs row avs rows[i] = false → ∀ tr ∈ rows.take (i + 1), fitRow vs row avs tr = false from fun h tr ht => by
        rw [List.take_succ_eq_append_getElem hlt] at ht
        rcases List.mem_append.1 ht with q | q
        · exact hno.out tr q
        · rw [List.mem_singleton.1 q]; exact h)
      have HYES := Lib.hid (show fitRow vs row avs rows[i] = true → fitR vs row (avs, rows) = true from fun h => List.any_eq_true.2 ⟨_, List.getElem_mem hlt, h⟩)
      have HC := Lib.hid hc
      have HV := Lib.hid hv
      clear hno hc hv
      generalize rows[i] = tr at *
      clear hlt
      obtain ⟨a5, c5, rfl, hl5⟩ := row_form HV.out
      go_wp2_with fail
      generalize wr = w0 at *
      clear g2
      go_loopw [10, 11] (fun s t wr => ∃ k m : Nat, k ≤ avs.length ∧ t = .int .i64 k ∧ s = .bool (fitK vs row avs tr k) ∧ wr = W.drewN m) (fun _ t _ => avs.length - (intOf t).toNat)
      case atStart => exact ⟨0, _, Nat.zero_le _, rfl, rfl, HWR.out⟩
      case round =>
        obtain ⟨k, m, hk, rfl, rfl, hwr⟩ := hrel
        have y1 := (loc2_drewN (m := m) L2.out).c1
        rw [← hwr] at y1
        have HWR := Lib.hid hwr
        clear hwr
        by_cases hkl : k < avs.length
        · have HKL := Lib.hid hkl
          have i1 : (0 : Int) ≤ (k : Int) := by omega
          have i2 : (k : Int) < (avs.length : Int) := by omega
          have hkt : k < tr.length := by rw [HTL.out]; exact hkl
          have i3 : (k : Int) < (tr.length : Int) := by omega
          go_wp2_with fail
          generalize wr = w0 at *
          clear y1
          go_loopw [10, 12] (fun s t wr => ∃ j m : Nat, j ≤ row.length ∧ t = .int .i64 j ∧ s = .bool (andJ vs row avs tr k j) ∧ wr = W.drewN m) (fun _ t _ => row.length - (intOf t).toNat)
          case atStart => exact ⟨0, _, Nat.zero_le _, rfl, by rw [andJ_zero], HWR.out⟩
          case round =>
            obtain ⟨j, m, hj, rfl, rfl, hwr⟩ := hrel
            by_cases hjl : j < row.length
            · have hjv : j < vs.length := by have := HLEN.out; omega
              have g2 := (loc3_drewN (m := m) L3.out).c2
              have y1 := (loc2_drewN (m := m) L2.out).c1
              have g3 : (W.drewN m).cell? ⟨b, off + i, none⟩ = some (.slice a5 tr.length c5) := HC.out
              obtain ⟨b2, o2, q2, e1, _, hx2⟩ := ri_at (row_ri (rd_drewN HR2.out m)).1 hkl
              injection e1 with e1 e2 e3
              subst e1 e3
              obtain ⟨b3, o3, q3, e1, _, hx3⟩ := ri_at (row_ri (rd_drewN HR3.out m)).1 hjv
              injection e1 with e1 e2 e3
              subst e1 e3
              obtain ⟨b4, o4, q4, e1, _, hx4⟩ := ri_at (row_ri (rd_drewN HR4.out m)).1 hjl
              injection e1 with e1 e2 e3
              subst e1 e3
              obtain ⟨b5, o5, q5, e1, _, hx5⟩ := ri_at (row_ri (rd_drewN HV.out m)).1 hkt
              injection e1 with e1 e2 e3
              subst e1 e3
              rw [← hwr] at g2 y1 g3 hx2 hx3 hx4 hx5
              have HWR := Lib.hid hwr
              have j1 : (0 : Int) ≤ (j : Int) := by omega
              have j2 : (j : Int) < (row.length : Int) := by omega
              have j3 : (j : Int) < (vs.length : Int) := by omega
              have HNJ := Lib.hid (andJ_succ vs row avs tr k j)
              have HNE := Lib.hid (cell_ne (row := row) (tr := tr) hjv hkl)
              have HEQ := Lib.hid (cell_eq hjv hkl hjl hkt)
              clear hwr e2
              generalize hcf : cellF vs row avs tr k j = cf at *
              generalize vs[j] = z3 at *
              generalize avs[k] = z2 at *
              generalize row[j] = z4 at *
              generalize tr[k] = z5 at *
              clear hcf
              cases hs : andJ vs row avs tr k j
              · rw [hs] at HNJ
                clear hs
                go_wp2
                go_quiet (fail)
                go_wp2
                go_roundw
                case rel => exact ⟨j + 1, _, by omega, by go_num, by rw [HNJ.out]; rfl, by rw [HWR.out, World.drewN_drewN]⟩
                case measure => simp [intOf]; omega
              · rw [hs] at HNJ
                clear hs
                by_cases hz : z3 = z2
                · have t1 : (z3 != z2) = false := by rw [bne_eq_false_iff_eq]; exact hz
                  have HE := HEQ.out hz
                  clear hz
                  by_cases hy : z4 = z5
                  · have t2 : (z4 == z5) = true := by rw [beq_iff_eq]; exact hy
                    rw [decide_eq_true hy] at HE
                    subst HE
                    clear hy
                    go_wp2
                    go_quiet (fail)
                    go_wp2
                    go_roundw
                    case rel => exact ⟨j + 1, _, by omega, by go_num, by rw [HNJ.out]; rfl, by rw [HWR.out, World.drewN_drewN]⟩
                    case measure => simp [intOf]; omega
                  · have t2 : (z4 == z5) = false := by rw [beq_eq_false_iff_ne]; exact hy
                    rw [decide_eq_false hy] at HE
                    subst HE
                    clear hy
                    go_wp2
                    go_quiet (fail)
                    go_wp2
                    go_roundw
                    case rel => exact ⟨j + 1, _, by omega, by go_num, by rw [HNJ.out]; rfl, by rw [HWR.out, World.drewN_drewN]⟩
                    case measure => simp [intOf]; omega
                · have t1 : (z3 != z2) = true := by rw [bne_iff_ne]; exact hz
                  have HE := HNE.out hz
                  subst HE
                  clear hz
                  go_wp2
                  go_quiet (fail)
                  go_wp2
                  go_roundw
                  case rel => exact ⟨j + 1, _, by omega, by go_num, by rw [HNJ.out]; rfl, by rw [HWR.out, World.drewN_drewN]⟩
                  case measure => simp [intOf]; omega
            · have ej : j = row.length := by omega
              subst ej
              have HWR := Lib.hid hwr
              clear hwr
              have HEN := Lib.hid (andJ_end vs row avs tr k)
              go_wp2_with fail
              go_roundw
              case rel => exact ⟨k + 1, _, by have := HKL.out; omega, by go_num, by rw [HEN.out], HWR.out⟩
              case measure => have := HKL.out; simp [intOf]; omega
        · have ek : k = avs.length := by omega
          subst ek
          have HF := Lib.hid (fitK_all vs row avs tr)
          rw [HF.out]
          cases hf : fitRow vs row avs tr
          · have HN2 := Lib.hid (HNX.out hf)
            clear hf
            go_wp2_with fail
            go_roundw
            case rel => exact ⟨i + 1, _, by have := HLT.out; omega, by go_num, HN2, HWR.out⟩
            case measure => have := HLT.out; simp [intOf]; omega
          · have HZ := Lib.hid (HYES.out hf)
            clear hf
            go_wp2_with fail
            go_ret
            exact ⟨ret_b HZ.out.symm, by rw [HWR.out]; exact QryImp.below_drewN HB.out⟩
    · have ei : i = rows.length := by omega
      subst ei
      rw [List.take_length] at hno
      have HZ := Lib.hid (show fitR vs row (avs, rows) = false by
        rw [← Bool.not_eq_true]
        intro h
        obtain ⟨tr, ht, hf⟩ := List.any_eq_true.1 h
        rw [hno.out tr ht] at hf
        cases hf)
      clear hno
      go_wp2_with fail
      go_ret
      exact ⟨ret_b HZ.out.symm, by rw [HWR.out]; exact QryImp.below_drewN HB.out⟩
end Go.Proofs.YtdkhgeknjekkoaaGreat.AnsSpec

namespace Go.Proofs.YtdkhgeknjekkoaaGreat.Cd
open Go Go.RowKit Byt Ints
namespace Cd
variable {α : Type}

theorem Each.append {c : Cd α} {w : World} {base : Nat} : ∀ {xss yss : List (List Value)} {l m : List α} {fps gps : List (List Nat)}, Each c w base xss l fps → Each c w base yss m gps → Each c w base (xss ++ yss) (l ++ m) (fps ++ gps)
  | [], _, [], _, [], _, _, k => k
  | _ :: xs, _, _ :: az, _, _ :: fs, _, h, k => ⟨h.1, Each.append (xss := xs) (l := az) (fps := fs) h.2 k⟩
theorem Each.ones {c : Cd α} {w : World} {base : Nat} : ∀ {xss : List (List Value)} {l : List α} {fps : List (List Nat)}, Each c w base xss l fps → ∀ u ∈ xss.flatten, u.oneCell' = true
  | [], [], [], _, u, hu => by simp at hu
  | x :: xs, _ :: az, _ :: fs, h, u, hu => by
    rw [List.flatten_cons] at hu
    rcases List.mem_append.1 hu with q | q
    · exact c.one (c.ow_rd h.1) u q
    · exact Each.ones (xss := xs) (l := az) (fps := fs) h.2 u q
theorem run_append_nil {P : Program} {w : World} (base : Nat) (t ty e : TypeId) (ht : P.underlying t = some (.slice e)) {z : Value} {bytes : Nat} (hinfo : (P.info? e).map (fun i => (i.zero, i.size, i.bytes)) = some (some z, 1, bytes))
    (v : Value) (n : Nat) (cells : List Value) (hown : w.ownsRow base e 1 v n cells) (ad : Option Addr) (cap : Nat) :
    (Builtin.append_ #[t, t] ty #[v, .slice ad 0 cap]).run P w = .ok v w := by
  obtain ⟨i0, hi, hz0, hz1, hz2⟩ := info_parts hinfo
  rcases hown.2 with ⟨rfl, h0⟩ | ⟨g, cap', cur, rfl, _, _, hnc, _⟩
  · cases ad with
    | none => simp [Builtin.append_, run_underlying ht, sizeOf, typeInfo, hi, Builtin.lenOf, Builtin.firstCells]
    | some ad => simp [Builtin.append_, run_underlying ht, sizeOf, typeInfo, hi, Builtin.lenOf, Builtin.firstCells, loadCells, loadCellsFrom]
  · cases ad with
    | none => simp [Builtin.append_, run_underlying ht, sizeOf, typeInfo, hi, Builtin.lenOf, Builtin.firstCells, hnc, storeCells]
    | some ad => simp [Builtin.append_, run_underlying ht, sizeOf, typeInfo, hi, Builtin.lenOf, Builtin.firstCells, hnc, storeCells, loadCells, loadCellsFrom]
theorem run_append_each {P : Program} {c : Cd α} (hn : c.n = 1) {w : World} (base : Nat) (t ty e : TypeId) (z : Value) (bytes : Nat) (ht : P.underlying t = some (.slice e)) (hinfo : (P.info? e).map (fun i => (i.zero, i.size, i.bytes)) = some (some z, 1, bytes)) (hzs : z.cells.size = 1) (hby : bytes ≤ 100)
    (v : Value) (l : List α) (fp : List Nat) (how : (sl e c).ow w base [v] l fp) (hd : fp.Nodup) (y : Value) (m : List α) (fq : List Nat) (hoy : (sl e c).ow w base [y] m fq) (hqd : fq.Nodup) (hdis : ∀ b ∈ fq, b ∉ fp)
    (hlen : l.length + m.length ≤ 1000000000000) (hbase : base ≤ w.heap.size) :
    ∃ v' w' fp', (Builtin.append_ #[t, t] ty #[v, y]).run P w = .ok v' w' ∧ (sl e c).ow w' base [v'] (l ++ m) fp' ∧ fp'.Nodup ∧ (∀ b ∈ fp', b ∈ fp ∨ b ∈ fq ∨ w.heap.size ≤ b) ∧ Touch fp w w' := by
  obtain ⟨i0, hi, hz0, hz1, hz2⟩ := info_parts hinfo
  have hlt : ∀ b ∈ fp, b < w.heap.size := fun b hb => ((sl e c).ow_lt how b hb).2
  have how0 := how
  obtain ⟨v0, xss, fps, e1, hown, hE, hfp⟩ := how
  injection e1 with e1 _
  subst e1
  obtain ⟨y0, yss, gps, e1, hown2, hE2, hfq⟩ := hoy
  injection e1 with e1 _
  subst e1
  rw [hn] at hown hown2
  by_cases h0 : m.length = 0
  · obtain rfl := List.eq_nil_of_length_eq_zero h0
    obtain ⟨ad, cap, rfl⟩ : ∃ ad cap, y = .slice ad 0 cap := by
      rcases hown2.2 with ⟨rfl, _⟩ | ⟨g, cap, cur, rfl, _⟩
      · exact ⟨_, _, rfl⟩
      · exact ⟨_, _, rfl⟩
    exact ⟨v, w, fp, run_append_nil base t ty e ht hinfo v _ _ hown ad cap, by rw [List.append_nil]; exact how0, hd, fun b hb => .inl hb, Touch.refl _ _⟩
  · rcases hown2.2 with ⟨_, h1⟩ | ⟨g2, cap2, cur2, rfl, _, hg2, _⟩
    · exact absurd h1 h0
    have hyl : yss.flatten.length = m.length := by rw [hE2.flatten_len, hn, Nat.mul_one]
    obtain ⟨v', w', hr, h2, h3, _, h5⟩ := run_append_own_at (P := P) w base t ty e i0 z 1 bytes ht hi hz0 hz1 hz2 hzs (by decide) v l.length xss.flatten hown ⟨g2, 0, none⟩ m.length cap2 yss.flatten (by rw [hyl, Nat.mul_one])
      (fun j u hj => by
        have hj' : j < m.length := by
          have := (List.getElem?_eq_some_iff.1 hj).1
          omega
        have ha : (⟨g2, 0, none⟩ : Addr).add j = ⟨g2, j, none⟩ := by unfold Addr.add; split <;> simp_all
        rw [ha, World.ownsRow.cellAt hown2 j (by omega), hj]) hE2.ones (by unfold maxLen; omega)
      (by
        calc (l.length + m.length) * bytes ≤ 1000000000000 * 100 := Nat.mul_le_mul hlen hby
          _ ≤ 140737488355328 := by decide) hbase
    subst hfp hfq
    have hd' := List.nodup_append.1 hd
    have hqd' := List.nodup_append.1 hqd
    have hkeep : ∀ b, b < w.heap.size → v.ownBlock ≠ some b → w'.heap[b]? = w.heap[b]? := fun b hb hne => h3.block b hb fun q => hne q.symm
    have hin : ∀ b ∈ fps.flatten, w'.heap[b]? = w.heap[b]? := fun b hb => hkeep b (hlt b (List.mem_append_right _ hb)) fun q => hd'.2.2 b (by rw [q]; simp) b hb rfl
    have hlt2 : ∀ b ∈ gps.flatten, b < w.heap.size := fun b hb => by
      obtain ⟨f, hf, hq⟩ := List.mem_flatten.1 hb
      obtain ⟨t', ht', rfl⟩ := List.getElem_of_mem hf
      have hl2 := hE2.len
      exact (c.ow_lt (hE2.get t' (by omega) (by omega) ht') b hq).2
    have hin2 : ∀ b ∈ gps.flatten, w'.heap[b]? = w.heap[b]? := fun b hb => hkeep b (hlt2 b hb) fun q => hdis b (List.mem_append_right _ hb) (List.mem_append_left _ (by rw [q]; simp))
    have hE3 : Each c w' base (xss ++ yss) (l ++ m) (fps ++ gps) :=
      (hE.imp fun x a g hg hq => c.ow_keep hq fun b hb => hin b (List.mem_flatten.2 ⟨g, hg, hb⟩)).append (hE2.imp fun x a g hg hq => c.ow_keep hq fun b hb => hin2 b (List.mem_flatten.2 ⟨g, hg, hb⟩))
    have hvn : ∀ b ∈ v'.ownBlock.toList, b ∉ (fps ++ gps).flatten := fun b hb q => by
      rw [List.flatten_append] at q
      rcases h5 with h5 | h5
      · rw [h5] at hb
        rcases List.mem_append.1 q with r | r
        · exact hd'.2.2 b hb b r rfl
        · exact hdis b (List.mem_append_right _ r) (List.mem_append_left _ hb)
      · rw [h5] at hb
        simp at hb
        rcases List.mem_append.1 q with r | r
        · have := hlt b (List.mem_append_right _ r)
          omega
        · have := hlt2 b r
          omega
    refine ⟨v', w', v'.ownBlock.toList ++ (fps ++ gps).flatten, hr, ⟨v', xss ++ yss, fps ++ gps, rfl, ?_, hE3, rfl⟩, ?_, ?_, ⟨h3.os, h3.tape, h3.output, h3.size, fun k hk hne => hkeep k hk fun q => hne (List.mem_append_left _ (by rw [q]; simp))⟩⟩
    · rw [hn, List.length_append, List.flatten_append]
      exact h2
    · refine List.nodup_append.2 ⟨own_nodup, ?_, fun a ha b hb q => hvn a ha (q ▸ hb)⟩
      rw [List.flatten_append]
      exact List.nodup_append.2 ⟨hd'.2.1, hqd'.2.1, fun a ha b hb q => hdis b (List.mem_append_right _ hb) (List.mem_append_right _ (q ▸ ha))⟩
    · intro b hb
      rcases List.mem_append.1 hb with q | q
      · rcases h5 with h5 | h5
        · rw [h5] at q
          exact .inl (List.mem_append_left _ q)
        · rw [h5] at q
          simp at q
          exact .inr (.inr (by omega))
      · rw [List.flatten_append] at q
        rcases List.mem_append.1 q with r | r
        · exact .inl (List.mem_append_right _ r)
        · exact .inr (.inl (List.mem_append_right _ r))
theorem wp_appendEach {P : Program} {c : Cd α} (hn : c.n = 1) {o : Oper} {a : Act} {K : Act → World → Prop} {Q : Exit → Act → World → Prop} {w : World} (s x : Operand) (t : TypeId)
    (ho : o.op = .call { callee := .builtin .append, args := #[s, x], argTypes := #[t, t] })
    (base : Nat) (e : TypeId) (z : Value) (bytes : Nat) (ht : P.underlying t = some (.slice e)) (hinfo : (P.info? e).map (fun i => (i.zero, i.size, i.bytes)) = some (some z, 1, bytes)) (hzs : z.cells.size = 1) (hby : bytes ≤ 100)
    (v : Value) (l : List α) (fp : List Nat) (hs : a.eval s = v) (how : (sl e c).ow w base [v] l fp) (hd : fp.Nodup) (y : Value) (m : List α) (fq : List Nat) (hx : a.eval x = y) (hoy : (sl e c).ow w base [y] m fq) (hqd : fq.Nodup) (hdis : ∀ b ∈ fq, b ∉ fp)
    (hlen : l.length + m.length ≤ 1000000000000) (hbase : base ≤ w.heap.size)
    (h : ∀ v' w' fp', (sl e c).ow w' base [v'] (l ++ m) fp' → fp'.Nodup → (∀ b ∈ fp', b ∈ fp ∨ b ∈ fq ∨ w.heap.size ≤ b) → Touch fp w w' → K (a.put o.dst v') w') : o.wp P a w K Q := by
  obtain ⟨v', w', fp', hr, h2, h3, h4, h5⟩ := run_append_each (P := P) hn base t o.type e z bytes ht hinfo hzs hby v l fp how hd y m fq hoy hqd hdis hlen hbase
  have hq := h v' w' fp' h2 h3 h4 h5
  unfold Oper.wp execOp
  simp only [ho, resolve, invoke, builtin, Sem.run_bind, Sem.run_pure, Result.andThen_ok, List.map_toArray, List.map_cons, List.map_nil, hs, hx, hr]
  exact hq
theorem wpList_appendEach {P : Program} {c : Cd α} (hn : c.n = 1) {ops : Array Oper} {rest : List Oper} {o : Oper} {a : Act} {Q : Exit → Act → World → Prop} {w : World} (hgd : o.guard = none) (s x : Operand) (t : TypeId)
    (ho : o.op = .call { callee := .builtin .append, args := #[s, x], argTypes := #[t, t] })
    (base : Nat) (e : TypeId) (z : Value) (bytes : Nat) (ht : P.underlying t = some (.slice e)) (hinfo : (P.info? e).map (fun i => (i.zero, i.size, i.bytes)) = some (some z, 1, bytes)) (hzs : z.cells.size = 1) (hby : bytes ≤ 100)
    (v : Value) (l : List α) (fp : List Nat) (hs : a.eval s = v) (how : (sl e c).ow w base [v] l fp) (hd : fp.Nodup) (y : Value) (m : List α) (fq : List Nat) (hx : a.eval x = y) (hoy : (sl e c).ow w base [y] m fq) (hqd : fq.Nodup) (hdis : ∀ b ∈ fq, b ∉ fp)
    (hlen : l.length + m.length ≤ 1000000000000) (hbase : base ≤ w.heap.size)
    (h : ∀ v' w' fp', (sl e c).ow w' base [v'] (l ++ m) fp' → fp'.Nodup → (∀ b ∈ fp', b ∈ fp ∨ b ∈ fq ∨ w.heap.size ≤ b) → Touch fp w w' → wpList P ops Q rest (a.put o.dst v') w') : wpList P ops Q (o :: rest) a w :=
  wpList_plain hgd fun _ hK => wp_appendEach hn s x t ho base e z bytes ht hinfo hzs hby v l fp hs how hd y m fq hx hoy hqd hdis hlen hbase fun v' w' fp' h1 h2 h3 h4 => hK _ _ (h v' w' fp' h1 h2 h3 h4)
end Cd
end Go.Proofs.YtdkhgeknjekkoaaGreat.Cd

namespace Go.Proofs.YtdkhgeknjekkoaaGreat.AnsSpec
open Go Go.RowKit Byt Ints IntsLaw Cd Rows2 Tab TabSpec Exact Atom QryMath QryImp AnsMath SlMath TabOpen TabElem DbSpec Db MkAtom

def relOf (T : T3) (A : A2) : Rel := (A.2, T.2.2)
def rels (ts : List T3) (al : List A2) : List Rel := List.zipWith relOf ts al
theorem rels_len {ts : List T3} {al : List A2} (h : ts.length = al.length) : (rels ts al).length = ts.length := by unfold rels; rw [List.length_zipWith]; omega
theorem fitAll_more {vs row : List Int} {l : List Rel} {i : Nat} (h : ∀ R ∈ l.take i, fitR vs row R = true) (hi : i < l.length) (h0 : fitR vs row l[i] = true) : ∀ R ∈ l.take (i + 1), fitR vs row R = true := by
  intro R hR
  rw [List.take_succ_eq_append_getElem hi] at hR
  rcases List.mem_append.1 hR with q | q
  · exact h R q
  · rw [List.mem_singleton.1 q]; exact h0
theorem walk_no {vs row : List Int} {l : List Rel} {n : Nat} {R : Rel} (hR : R ∈ l) (h : fitR vs row R = false) : walkL vs l n row = [] := by
  have hf : fitAll vs row l = false := by
    rw [← Bool.not_eq_true]
    intro q
    unfold fitAll at q
    rw [List.all_eq_true] at q
    have := q R hR
    rw [h] at this
    cases this
  cases n <;> (unfold walkL; rw [hf]; rfl)
theorem walk_zero {vs row : List Int} {l : List Rel} (h : ∀ R ∈ l, fitR vs row R = true) : walkL vs l 0 row = [row] := by
  unfold walkL
  rw [if_pos (by unfold fitAll; rw [List.all_eq_true]; exact h)]
def walkTo (vs : List Int) (l : List Rel) (n : Nat) (row : List Int) (k : Nat) : List (List Int) := (List.range k).flatMap fun v : Nat => walkL vs l n (row ++ [(v : Int)])
theorem walk_succ {vs row : List Int} {l : List Rel} {n : Nat} (h : ∀ R ∈ l, fitR vs row R = true) : walkL vs l (n + 1) row = walkTo vs l n row 10 := by
  unfold walkTo
  rw [walkL.eq_2]
  rw [if_pos (by unfold fitAll; rw [List.all_eq_true]; exact h)]
theorem walkTo_succ (vs : List Int) (l : List Rel) (n : Nat) (row : List Int) (k : Nat) : walkTo vs l n row (k + 1) = walkTo vs l n row k ++ walkL vs l n (row ++ [(k : Int)]) := by
  unfold walkTo
  rw [List.range_succ, List.flatMap_append]
  simp
theorem walkTo_len (vs : List Int) (l : List Rel) (n : Nat) (row : List Int) (k : Nat) : (walkTo vs l n row k).length ≤ k * 10 ^ n := by
  have := len_flatMap_le (fun v : Nat => walkL vs l n (row ++ [(v : Int)])) (10 ^ n) (List.range k) fun v _ => len_walkL n _
  rwa [List.length_range] at this
/-- A slice of one row that the call owns, just made. -/
theorem rows_one {w : World} {base : Nat} {v : Value} {r : List Int} {f : List Nat} {e : TypeId} (h : rowC.ow w base [v] r f) (hn : f.Nodup) (hb : base ≤ w.heap.size) :
    (Cd.sl e rowC).ow (w.alloc (.cells #[v] e)) base [.slice (some ⟨w.heap.size, 0, none⟩) 1 1] [r] (w.heap.size :: f) ∧ (w.heap.size :: f).Nodup := by
  have hlt : ∀ b ∈ f, b < w.heap.size := fun b hb => (rowC.ow_lt h b hb).2
  refine ⟨⟨_, [[v]], [f], rfl, World.ownsRow_lit w #[v] 1 hb (by decide) rfl, ⟨Cd.ow_later h (below_alloc w _), trivial⟩, by simp [Value.ownBlock]⟩, List.nodup_cons.2 ⟨fun q => ?_, hn⟩⟩
  have := hlt _ q
  omega

def WalkC (ts : List T3) (al : List A2) (vs : List Int) (n : Nat) : Prop :=
  ∀ (row : List Int) (u1 u2 vv rv : Value) (S1 S2 S3 S4 : Nat → Prop) (w : World), tabsC.rd w S1 [u1] ts → atomsC.rd w S2 [u2] al → rowC.rd w S3 [vv] vs → rowC.rd w S4 [rv] row → row.length + n = vs.length →
    Calls Tryz.prog 53 #[u1, u2, vv, rv] w fun e w' => ∃ v' fp, e = .returned v' ∧ rowsC.ow w' w.heap.size [v'] (walkL vs (rels ts al) n row) fp ∧ fp.Nodup ∧ Below w.heap.size w w'

set_option maxRecDepth 100000 in
set_option maxHeartbeats 6400000 in
theorem walk_core (ts : List T3) (al : List A2) (hl : ts.length = al.length) (hL : ∀ i (h : i < ts.length) (h' : i < al.length), ∀ r ∈ ts[i].2.2, r.length = al[i].2.length) (vs : List Int) (hv4 : vs.length ≤ 4) (n : Nat)
    (HREC : ∀ k, n = k + 1 → WalkC ts al vs k) : WalkC ts al vs n := by
  intro row u1 u2 vv rv S1 S2 S3 S4 w h1 h2 h3 h4 hn
  have HR1 := Lib.hid (fun w' (hb : Below w.heap.size w w') => Cd.later h1 hb)
  have HR2 := Lib.hid (fun w' (hb : Below w.heap.size w w') => Cd.later h2 hb)
  have HR3 := Lib.hid (fun w' (hb : Below w.heap.size w w') => Cd.later h3 hb)
  have HR4 := Lib.hid (fun w' (hb : Below w.heap.size w w') => Cd.later h4 hb)
  obtain ⟨a1, c1, rfl, hl1⟩ := Cd.sl_form h1
  obtain ⟨a2, c2, rfl, hl2⟩ := Cd.sl_form h2
  obtain ⟨a3, c3, rfl, hl3⟩ := row_form h3
  obtain ⟨a4, c4, rfl, hl4⟩ := row_form h4
  have HIN := Lib.hid (row_ri h4).2
  clear h1 h2 h3 h4
  have HLEN := Lib.hid hl
  have HL := Lib.hid hL
  have HN := Lib.hid hn
  have HV4 := Lib.hid hv4
  have HRE := Lib.hid HREC
  have HRL := Lib.hid (rels_len hl)
  clear hl hL hn hv4 HREC
  go_enter Tryz.func53, Tryz.ntmps53
  go_wp2_with fail
  go_loopw [9] (fun s wr => ∃ i : Nat, i ≤ ts.length ∧ s = .int .i64 i ∧ Hid (∀ R ∈ (rels ts al).take i, fitR vs row R = true) ∧ Below w.heap.size w wr) (fun s _ => ts.length - (intOf s).toNat)
  case atStart => exact ⟨0, Nat.zero_le _, rfl, Lib.hid (fun x hx => by simp at hx), Below.refl _ _⟩
  case round =>
    obtain ⟨i, hi, rfl, hal, hb⟩ := hrel
    have HB := Lib.hid hb
    by_cases hlt : i < ts.length
    · have hlt2 : i < al.length := by rw [← HLEN.out]; exact hlt
      obtain ⟨b, off, cap', us, e1, _, hbB, hat, hu⟩ := Cd.sl_at (HR1.out wr hb) hlt
      injection e1 with e1 e2 e3
      subst e1 e3
      obtain ⟨u, rfl, _, _, hrows⟩ := tab_cells hu
      have p0 := hat 0 (by simp)
      have p1 := hat 1 (by simp)
      have p2 := hat 2 (by simp)
      obtain ⟨b', off', cap', us, e1, _, hbB', hat', hu'⟩ := Cd.sl_at (HR2.out wr hb) hlt2
      injection e1 with e1 e2 e3
      subst e1 e3
      obtain ⟨ua, rfl, _, hua⟩ := atom_cells hu'
      have q0 := hat' 0 (by simp)
      have q1 := hat' 1 (by simp)
      simp only [List.getElem_cons_zero, List.getElem_cons_succ, Nat.add_zero, show tabC.n = 3 from rfl, show atomC.n = 2 from rfl] at p0 p1 p2 q0 q1
      have HE := Lib.hid (fun w' (hq : LaterD wr w') => spec_fits ts[i].1 ts[i].2.1 u ts[i].2.2 al[i].1 ua al[i].2 (.slice a3 vs.length c3) (.slice a4 row.length c4) vs row _ _ _ _ w' (Cd.later hrows hq) (Cd.later hua hq) (HR3.out w' (below_then HB.out hq)) (HR4.out w' (below_then HB.out hq)) (by have := HN.out; omega) (HL.out i hlt hlt2))
      have hri : i < (rels ts al).length := by rw [HRL.out]; exact hlt
      have HEQ : (rels ts al)[i] = (al[i].2, ts[i].2.2) := List.getElem_zipWith ..
      have HMORE := Lib.hid (show fitR vs row (al[i].2, ts[i].2.2) = true → ∀ R ∈ (rels ts al).take (i + 1), fitR vs row R = true from fun h => fitAll_more hal.out hri (by rw [HEQ]; exact h))
      have HNO := Lib.hid (show fitR vs row (al[i].2, ts[i].2.2) = false → walkL vs (rels ts al) n row = [] from fun h => walk_no (R := (al[i].2, ts[i].2.2)) (by rw [← HEQ]; exact List.getElem_mem _) h)
      have i1 : (0 : Int) ≤ (i : Int) := by omega
      have i2 : (i : Int) < (ts.length : Int) := by omega
      have i3 : (i : Int) < (al.length : Int) := by omega
      have HLT := Lib.hid hlt
      have kk : LaterD wr wr.drew := (Below.refl _ wr).drew
      have HSC := Lib.hid (fun wx (h : LaterD wr wx) => (show wx.cell? ⟨b, off + i * 3, none⟩ = some (.string ts[i].1) ∧ wx.cell? ⟨b, off + i * 3 + 1, none⟩ = some (.int .i64 ts[i].2.1) ∧ wx.cell? ⟨b, off + i * 3 + 2, none⟩ = some u ∧ wx.cell? ⟨b', off' + i * 2, none⟩ = some (.string al[i].1) ∧ wx.cell? ⟨b', off' + i * 2 + 1, none⟩ = some ua ∧ LaterD wr wx from
        ⟨(Below.cell h (p := ⟨b, off + i * 3, none⟩) hbB).trans p0, (Below.cell h (p := ⟨b, off + i * 3 + 1, none⟩) hbB).trans p1, (Below.cell h (p := ⟨b, off + i * 3 + 2, none⟩) hbB).trans p2, (Below.cell h (p := ⟨b', off' + i * 2, none⟩) hbB').trans q0, (Below.cell h (p := ⟨b', off' + i * 2 + 1, none⟩) hbB').trans q1, h⟩))
      clear hu hu' hat hat' hb hbB hbB' hal hrows hua HEQ hri p0 p1 p2 q0 q1
      generalize ts[i] = T at *
      generalize al[i] = A at *
      clear hlt hlt2
      generalize fitR vs row (A.2, T.2.2) = fb at *
      generalize T.1 = tn at *
      generalize T.2.1 = ta at *
      generalize A.1 = an at *
      cases fb
      · have HZ := Lib.hid (HNO.out rfl)
        clear HMORE HNO
        go_wp2_with fail
        go_region_held3 (fun wx => wx.cell? ⟨b, off + i * 3, none⟩ = some (.string tn) ∧ wx.cell? ⟨b, off + i * 3 + 1, none⟩ = some (.int .i64 ta) ∧ wx.cell? ⟨b, off + i * 3 + 2, none⟩ = some u ∧ wx.cell? ⟨b', off' + i * 2, none⟩ = some (.string an) ∧ wx.cell? ⟨b', off' + i * 2 + 1, none⟩ = some ua ∧ LaterD wr wx)
          (exact HSC.out _ (by assumption))
          (first | (go_at_call 102; refine (HE.out _ (by assumption)).mono ?_; rintro e wq ⟨rfl, hbq⟩; (have kk : LaterD wr wq := below_then (by assumption) hbq); clear hbq))
        all_goals
          have HBQ := Lib.hid (below_then HB.out (show Below wr.heap.size wr wq by assumption))
          go_wp2_with fail
          go_ret
          exact ⟨_, _, rfl, by rw [HZ.out]; exact Cd.ow_empty _ _ HBQ.out.size, by simp, below_then HBQ.out (below_alloc _ _)⟩
      · have HT := Lib.hid (HMORE.out rfl)
        clear HMORE HNO
        go_wp2_with fail
        go_region_held3 (fun wx => wx.cell? ⟨b, off + i * 3, none⟩ = some (.string tn) ∧ wx.cell? ⟨b, off + i * 3 + 1, none⟩ = some (.int .i64 ta) ∧ wx.cell? ⟨b, off + i * 3 + 2, none⟩ = some u ∧ wx.cell? ⟨b', off' + i * 2, none⟩ = some (.string an) ∧ wx.cell? ⟨b', off' + i * 2 + 1, none⟩ = some ua ∧ LaterD wr wx)
          (exact HSC.out _ (by assumption))
          (first | (go_at_call 102; refine (HE.out _ (by assumption)).mono ?_; rintro e wq ⟨rfl, hbq⟩; (have kk : LaterD wr wq := below_then (by assumption) hbq); clear hbq))
        all_goals
          have HBQ := Lib.hid (below_then HB.out (show Below wr.heap.size wr wq by assumption))
          go_wp2_with fail
          go_roundw
          case rel => exact ⟨i + 1, by have := HLT.out; omega, by go_num, HT.out, HBQ.out⟩
          case measure => have := HLT.out; simp [intOf]; omega
    · have ei : i = ts.length := by omega
      subst ei
      rw [← HRL.out, List.take_length] at hal
      have HAL := Lib.hid hal.out
      clear hal hb
      cases n with
      | zero =>
        have hen : row.length = vs.length := by have := HN.out; omega
        have HZ := Lib.hid (walk_zero HAL.out)
        have t1 : ((row.length : Int) == (vs.length : Int)) = true := by rw [beq_iff_eq]; omega
        have HL2 := Lib.hid (show row.length ≤ 4 by have := HV4.out; omega)
        clear hen
        go_wp2_with (at_builtin; refine Cd.wpList_appendRI rfl (.tmp 36) (.tmp 37) 32 rfl w.heap.size 3 Tryz.underlying32 info_i64 _ [] _ rfl (Cd.ow_empty _ _ HB.out.size) (.slice a4 row.length c4) row _ rfl (HR4.out _ (below_then HB.out (below_alloc _ _))) (by have := HL2.out; simp; omega) (Nat.le_trans HB.out.size (below_alloc _ _).size) ?_)
        intro v1 w2 f1 ho1 hn1 hs1 ht1
        obtain ⟨a5, c5, rfl⟩ := Cd.ow_slice ho1
        have hb2 : Below w.heap.size w w2 := Cd.Touch.below (below_then HB.out (below_alloc wr (.cells #[] 3))) ht1 (fun b hb => by have := HB.out.size; simp only [List.mem_singleton] at hb; omega)
        obtain ⟨k1, k2⟩ := rows_one (e := 32) ho1 hn1 hb2.size
        have A1 := Lib.hid k1
        have A2 := Lib.hid k2
        have A3 := Lib.hid (below_then hb2 (below_alloc w2 (.cells #[.slice a5 ([] ++ row).length c5] 32)))
        clear k1 k2 hb2 ho1 hn1 hs1 ht1
        go_wp2_with fail
        go_ret
        exact ⟨_, _, rfl, by rw [HZ.out]; exact A1.out, A2.out, A3.out⟩
      | succ k =>
        have HREK := Lib.hid (HRE.out k rfl)
        have hne : row.length ≠ vs.length := by have := HN.out; omega
        have HZ := Lib.hid (walk_succ (n := k) HAL.out)
        have t1 : ((row.length : Int) == (vs.length : Int)) = false := by rw [beq_eq_false_iff_ne]; omega
        have HL2 := Lib.hid (show row.length + k + 1 ≤ 4 ∧ k ≤ 3 by have := HV4.out; have := HN.out; omega)
        have HP := Lib.hid (show 10 ^ k ≤ 1000 by
          have := HL2.out.2
          exact Nat.le_trans (Nat.pow_le_pow_right (by decide) this) (by decide))
        have HOE := Lib.hid (Cd.ow_empty (e := 32) (c := rowC) wr w.heap.size HB.out.size)
        clear hne HRE
        go_wp2_with fail
        generalize hW : wr.alloc _ = W at *
        have HBW := Lib.hid (show Below w.heap.size w W by rw [← hW]; exact below_then HB.out (below_alloc _ _))
        clear hW
        generalize wr.heap.size = X at *
        go_loopw [10, 11] (fun o s wr => ∃ (v : Nat) (fp : List Nat), v ≤ 10 ∧ s = .int .i64 v ∧ rowsC.ow wr w.heap.size [o] (walkTo vs (rels ts al) k row v) fp ∧ fp.Nodup ∧ Below w.heap.size w wr) (fun _ s _ => 10 - (intOf s).toNat)
        case atStart => exact ⟨0, _, by omega, rfl, HOE.out, by simp, HBW.out⟩
        case round =>
          obtain ⟨v, fp, hv, rfl, how, hnd, hb⟩ := hrel
          obtain ⟨ao, co, rfl⟩ := Cd.ow_slice (c := rowC) how
          have HOW := Lib.hid how
          have HND := Lib.hid hnd
          have HBR := Lib.hid hb
          have HNX := Lib.hid (walkTo_succ vs (rels ts al) k row v)
          have HTL := Lib.hid (walkTo_len vs (rels ts al) k row v)
          have HWL := Lib.hid (len_walkL (vs := vs) (l := rels ts al) k (row ++ [(v : Int)]))
          clear how hnd hb
          generalize hout : walkTo vs (rels ts al) k row v = out at *
          have HOUT := Lib.hid hout
          clear hout
          by_cases hv9 : (v : Int) ≤ 9
          · have HV9 := Lib.hid hv9
            have hv9' : v ≤ 9 := by omega
            have i1 : (0 : Int) ≤ (v : Int) := by omega
            go_wp2_with (at_builtin; refine Cd.wpList_appendRI rfl (.tmp 49) (.tmp 50) 32 rfl w.heap.size 3 Tryz.underlying32 info_i64 _ [] _ rfl (Cd.ow_empty _ _ HBR.out.size) (.slice a4 row.length c4) row _ rfl (HR4.out _ (below_then HBR.out (below_alloc _ _))) (by have := HL2.out; simp; omega) (Nat.le_trans HBR.out.size (below_alloc _ _).size) ?_)
            intro v1 w2 f1 ho1 hn1 hs1 ht1
            obtain ⟨a5, c5, rfl⟩ := Cd.ow_slice ho1
            obtain ⟨k1, k2, k3, k4, k5⟩ := copied (c := rowsC) (d := rowC) HOW.out HBR.out.size ho1 hs1 ht1 (.cells #[.int .i64 v] 3)
            have kc : (w2.alloc (.cells #[.int .i64 v] 3)).cell? ⟨w2.heap.size, 0, none⟩ = some (.int .i64 v) := by simp
            have B1 := Lib.hid k1
            have B2 := Lib.hid k2
            have B3 := Lib.hid k3
            have B4 := Lib.hid (below_then HBR.out k4)
            have B5 := Lib.hid k5
            have B6 := Lib.hid kc
            have B7 := Lib.hid hn1
            have B8 := Lib.hid (show Cd.int.ow (w2.alloc (.cells #[.int .i64 v] 3)) w.heap.size [.int .i64 (v : Int)] (v : Int) [] from ⟨rfl, by have := HV9.out; omega, rfl⟩)
            clear k1 k2 k3 k4 k5 kc ho1 hs1 ht1 hn1
            go_wp2_with (at_builtin; refine Cd.wpList_appendE (c := Cd.int) rfl rfl (.tmp 51) (.tmp 53) 32 rfl w.heap.size 3 (.int .i64 0) 8 Tryz.underlying32 info_i64 rfl (by decide) _ _ _ rfl B2.out B7.out _ _ rfl B6.out _ _ B8.out (by simp) (by simp) (by have := HL2.out; simp; omega) B5.out ?_)
            intro g cap3 w3 f3 ho3 hn3 hs3 ht3
            have C1 := Lib.hid (Cd.ow_touched B1.out ht3 (fun b hb q => B3.out b q hb))
            have C2 := Lib.hid (Cd.Touch.below B4.out ht3 (fun b hb => (rowC.ow_lt B2.out b hb).1))
            have C3 := Lib.hid (show rowC.rd w3 (fun b => b ∈ f3) [_] ([] ++ row ++ [(v : Int)]) from rowC.ow_rd ho3)
            clear ho3 hn3 hs3 ht3
            have HCALL := Lib.hid (HREK.out ([] ++ row ++ [(v : Int)]) _ _ _ _ _ _ _ _ w3 (HR1.out w3 C2.out) (HR2.out w3 C2.out) (HR3.out w3 C2.out) C3.out (by have := HN.out; simp; omega))
            have e0 : ([] : List Int) ++ row ++ [(v : Int)] = row ++ [(v : Int)] := rfl
            rw [e0] at HCALL
            go_wp2_with fail
            refine HCALL.out.mono ?_
            rintro e w4 ⟨y, fq, rfl, ho4, hn4, hb4⟩
            have D1 := Lib.hid (Cd.ow_later C1.out hb4)
            have D2 := Lib.hid (below_then C2.out hb4)
            have D3 := Lib.hid ((Cd.sl _ rowC).ow_base ho4 C2.out.size)
            have D4 := Lib.hid hn4
            have D5 := Lib.hid (show ∀ b ∈ fq, b ∉ fp from fun b hb q => by
              have h1 := (rowsC.ow_lt ho4 b hb).1
              have h2 := (rowsC.ow_lt C1.out b q).2
              omega)
            have D6 := Lib.hid (show out.length + (walkL vs (rels ts al) k (row ++ [(v : Int)])).length ≤ 1000000000000 by
              have h1 := HTL.out
              have h2 := HWL.out
              have h3 := HP.out
              have h4 : v * 10 ^ k ≤ 10 * 1000 := Nat.mul_le_mul hv h3
              omega)
            clear ho4 hn4 hb4
            obtain ⟨a6, c6, rfl⟩ := Cd.ow_slice (c := rowC) D3.out
            go_wp2_with (at_builtin; refine Cd.wpList_appendEach (c := rowC) rfl rfl (.tmp 45) (.tmp 55) 33 rfl w.heap.size 32 (.slice none 0 0) 24 Tryz.underlying33 info_ints rfl (by decide) _ out fp rfl D1.out HND.out _ _ fq rfl D3.out D4.out D5.out D6.out D2.out.size ?_)
            intro v5 w5 f5 ho5 hn5 hs5 ht5
            obtain ⟨a7, c7, rfl⟩ := Cd.ow_slice (c := rowC) ho5
            have E1 := Lib.hid (show rowsC.ow w5 w.heap.size [_] (out ++ walkL vs (rels ts al) k (row ++ [(v : Int)])) f5 from ho5)
            have E2 := Lib.hid hn5
            have E3 := Lib.hid (Cd.Touch.below D2.out ht5 (fun b hb => (rowsC.ow_lt D1.out b hb).1))
            clear ho5 hn5 hs5 ht5
            go_wp2_with fail
            go_roundw
            case rel => exact ⟨v + 1, f5, by omega, by go_num, by rw [HNX.out]; exact E1.out, E2.out, E3.out⟩
            case measure => simp [intOf]; omega
          · have ev : v = 10 := by omega
            subst ev
            go_wp2_with fail
            go_ret
            first
              | exact ⟨_, fp, rfl, by rw [HZ.out, HOUT.out]; exact HOW.out, HND.out, HBR.out⟩
              | exact ⟨_, rfl, fp, by rw [HZ.out, HOUT.out]; exact HOW.out, HND.out, HBR.out⟩
theorem spec_walk (ts : List T3) (al : List A2) (hl : ts.length = al.length) (hL : ∀ i (h : i < ts.length) (h' : i < al.length), ∀ r ∈ ts[i].2.2, r.length = al[i].2.length) (vs : List Int) (hv4 : vs.length ≤ 4) : ∀ n, WalkC ts al vs n
  | 0 => walk_core ts al hl hL vs hv4 0 fun k h => by omega
  | n + 1 => walk_core ts al hl hL vs hv4 (n + 1) fun k h => by
    have e : k = n := by omega
    subst e
    exact spec_walk ts al hl hL vs hv4 k
end Go.Proofs.YtdkhgeknjekkoaaGreat.AnsSpec
