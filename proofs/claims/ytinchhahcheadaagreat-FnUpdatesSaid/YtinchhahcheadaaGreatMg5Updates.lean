/- Texts that the proof rests on, one behind the other. -/
import Derived.Test.YtinchhahcheadaaGreatMg3Updates
import Derived.Deep.RegionHeld3
import Derived.Test.YtinchhahcheadaaGreatMg4Updates
import Derived.Test.YtinchhahcheadaaGreatMg2Updates
import Derived.Deep.QuietTactic
import Derived.BigQuiet
import Derived.Test.YtinchhahcheadaaGreatMg1Updates

namespace Go.Proofs.YtinchhahcheadaaGreat.DbDraw
open Go Go.RowKit Byt Ints IntsLaw IntsWalk Draw LocDraw Cd Rows2 Tab TabDraw SlMath TabOpen TabElem SlTable Db TabSpec DbMath DbSpec DbExact DbAcc

def nn5 : List ByteArray := [⟨#[97]⟩, ⟨#[114]⟩, ⟨#[114, 114]⟩, ⟨#[116]⟩, ⟨#[122]⟩]
theorem nn5_ok : ∀ t : Fin 5, (nn5.getD t.val ⟨#[]⟩).size ≤ 2 := by decide
/-- A drawn database and a drawn table. -/
def SetDraw (w : World) (e : Ending) (w' : World) : Prop :=
  ∃ (u : Value) (nm : ByteArray) (ar : Int) (y : Value) (Ts : List T3) (rows : List (List Int)), e = .returned (.tuple #[.agg #[u], .agg #[.string nm, .int .i64 ar, y]]) ∧ tabsC.rd w' (· < w'.heap.size) [u] Ts ∧ Ts.length ≤ 7 ∧ (∀ T ∈ Ts, OkD T) ∧
    rowsC.rd w' (· < w'.heap.size) [y] rows ∧ OkD (nm, ar, rows) ∧ Below w.heap.size w w'
/-- In the drawing: the results' cells, the cursor behind them, the local database in block X. -/
structure T5 (w : World) (c : Nat) (v : Value) (l : List UInt8) (X : Nat) (u : Value) (Ts : List T3) (W : World) : Prop where
  lx : Loc1 W X u
  lr : ∃ a, Loc1 W w.heap.size a
  lt : ∃ a b d, Loc3 W (w.heap.size + 1) a b d
  rd : tabsC.rd W (fun b => c + 1 ≤ b ∧ b < W.heap.size) [u] Ts
  xb : c < X
  cb : w.heap.size + 1 < c
  cu : Cur W c v l
  bl : Below w.heap.size w W
section
variable {w : World} {c : Nat} {v : Value} {l : List UInt8} {X : Nat} {u : Value} {Ts : List T3} {W W' : World}
theorem T5.grown (h : T5 w c v l X u Ts W) (hg : W.grownBy W' (some c)) (hc : Cur W' c v l) : T5 w c v l X u Ts W' :=
  have h1 := h.cb
  have h2 := h.xb
  have ⟨_, h3⟩ := h.lr
  have ⟨_, _, _, h4⟩ := h.lt
  ⟨loc1_grown h.lx hg (by omega), ⟨_, loc1_grown h3 hg (by omega)⟩, ⟨_, _, _, loc_grown h4 hg (by omega)⟩, rd_grown h.rd hg (Nat.lt_succ_self c), h2, h1, hc, h.bl.trans (below_of hg (by omega) (cur_size h.cu))⟩
theorem T5.alloc (h : T5 w c v l X u Ts W) (o : Obj) : T5 w c v l X u Ts (W.alloc o) := h.grown (World.grownBy_alloc W o (some c)) (cur_allocI o h.cu)
theorem T5.drew (h : T5 w c v l X u Ts W) : T5 w c v l X u Ts W.drew :=
  have ⟨_, h3⟩ := h.lr
  have ⟨_, _, _, h4⟩ := h.lt
  ⟨h.lx.drew, ⟨_, h3.drew⟩, ⟨_, _, _, h4.keep rfl⟩, tabsC.keep h.rd fun _ _ _ => rfl, h.xb, h.cb, h.cu, Below.drew h.bl⟩
theorem T5.base (h : T5 w c v l X u Ts W) : c + 1 ≤ W.heap.size := by
  have := h.lx.lt
  have := h.xb
  omega
theorem rd_setN {α : Type} {cd : Cd α} {base : Nat} {us : List Value} {a : α} (h : cd.rd W (fun b => base ≤ b ∧ b < W.heap.size) us a) {p : Addr} (hp : p.block < base) (x : Value) : cd.rd (W.setCell p x) (fun b => base ≤ b ∧ b < (W.setCell p x).heap.size) us a :=
  cd.mono (rd_set h (show ¬ (base ≤ p.block ∧ _) from fun q => by have := q.1; omega) x) fun _ _ hb => ⟨hb.1, by simpa using hb.2⟩
theorem T5.setD (h : T5 w c v l X u Ts W) (x : Value) : T5 w c v l X u Ts (W.setCell ⟨w.heap.size, 0, none⟩ x) :=
  have h1 := h.cb
  have h2 := h.xb
  have ⟨_, h3⟩ := h.lr
  have ⟨_, _, _, h4⟩ := h.lt
  ⟨h.lx.set_far (by show w.heap.size ≠ X; omega) _, ⟨_, h3.set _⟩, ⟨_, _, _, h4.set_far (by show w.heap.size ≠ w.heap.size + 1; omega) _⟩, rd_setN h.rd (by show w.heap.size < c + 1; omega) x, h2, h1, cur_farI _ h.cu (by show c ≠ w.heap.size; omega), h.bl.setCell (Nat.le_refl _) _⟩
theorem T5.setT (h : T5 w c v l X u Ts W) (x y z : Value) : T5 w c v l X u Ts (((W.setCell ⟨w.heap.size + 1, 0, none⟩ x).setCell ⟨w.heap.size + 1, 1, none⟩ y).setCell ⟨w.heap.size + 1, 2, none⟩ z) := by
  have h1 := h.cb
  have h2 := h.xb
  obtain ⟨_, h3⟩ := h.lr
  obtain ⟨_, _, _, h4⟩ := h.lt
  have e1 : w.heap.size + 1 ≠ X := by omega
  have e2 : w.heap.size + 1 ≠ w.heap.size := by omega
  have e3 : c ≠ w.heap.size + 1 := by omega
  have e4 : w.heap.size + 1 < c + 1 := by omega
  obtain ⟨c0, c1, c2, f0, f1, f2⟩ := h4
  obtain ⟨k0, k1, k2⟩ := set3 (w := W) (k := w.heap.size + 1) (x := x) (y := y) (z := z) c0 c1 c2
  exact ⟨((h.lx.set_far e1 _).set_far e1 _).set_far e1 _, ⟨_, ((h3.set_far e2 _).set_far e2 _).set_far e2 _⟩, ⟨_, _, _, k0, k1, k2, by simpa using f0, by simpa using f1, by simpa using f2⟩,
    rd_setN (rd_setN (rd_setN h.rd e4 x) e4 y) e4 z, h2, h1, cur_farI _ (cur_farI _ (cur_farI _ h.cu e3) e3) e3, ((h.bl.setCell (Nat.le_succ _) _).setCell (Nat.le_succ _) _).setCell (Nat.le_succ _) _⟩
theorem T5.all (h : T5 w c v l X u Ts W) : W.cell? ⟨X, 0, none⟩ = some u ∧ T5 w c v l X u Ts W := ⟨h.lx.c0, h⟩
theorem T5.end (h : T5 w c v l X u Ts W) {nm : ByteArray} {ar : Int} {y : Value} {rows : List (List Int)} (hr : rowsC.rd W (fun b => c + 1 ≤ b ∧ b < W.heap.size) [y] rows) (hl : Ts.length ≤ 7) (ho : ∀ T ∈ Ts, OkD T) (hT : OkD (nm, ar, rows)) :
    SetDraw w (.returned (.tuple #[.agg #[u], .agg #[.string nm, .int .i64 ar, y]])) W :=
  ⟨u, nm, ar, y, Ts, rows, rfl, tabsC.mono h.rd fun _ _ q => q.2, hl, ho, rowsC.mono hr fun _ _ q => q.2, hT, h.bl⟩
/-- The results are stored, the database first. -/
theorem T5.fin (h : T5 w c v l X u Ts W) {nm : ByteArray} {ar : Int} {y : Value} {rows : List (List Int)} (hr : rowsC.rd W (fun b => c + 1 ≤ b ∧ b < W.heap.size) [y] rows) (hl : Ts.length ≤ 7) (ho : ∀ T ∈ Ts, OkD T) (hT : OkD (nm, ar, rows)) {W' : World}
    (e : W' = (((W.setCell ⟨w.heap.size, 0, none⟩ u).setCell ⟨w.heap.size + 1, 0, none⟩ (.string nm)).setCell ⟨w.heap.size + 1, 1, none⟩ (.int .i64 ar)).setCell ⟨w.heap.size + 1, 2, none⟩ y) :
    W'.cell? ⟨w.heap.size, 0, none⟩ = some u ∧ W'.cell? ⟨w.heap.size + 1, 0, none⟩ = some (.string nm) ∧ W'.cell? ⟨w.heap.size + 1, 1, none⟩ = some (.int .i64 ar) ∧ W'.cell? ⟨w.heap.size + 1, 2, none⟩ = some y ∧ SetDraw w (.returned (.tuple #[.agg #[u], .agg #[.string nm, .int .i64 ar, y]])) W' := by
  subst e
  have h1 := h.cb
  have e4 : w.heap.size + 1 < c + 1 := by omega
  obtain ⟨_, h3⟩ := (h.setD u).lr
  obtain ⟨_, g3⟩ := h.lr
  obtain ⟨_, _, _, c0, c1, c2, _⟩ := (h.setD u).lt
  obtain ⟨k0, k1, k2⟩ := set3 (w := W.setCell ⟨w.heap.size, 0, none⟩ u) (k := w.heap.size + 1) (x := .string nm) (y := .int .i64 ar) (z := y) c0 c1 c2
  exact ⟨far3 (World.cell?_setCell_same _ _ _ g3.c0) (by show w.heap.size ≠ w.heap.size + 1; omega), k0, k1, k2,
    T5.end ((h.setD u).setT _ _ _) (rd_setN (rd_setN (rd_setN (rd_setN hr (by show w.heap.size < c + 1; omega) _) e4 _) e4 _) e4 _) hl ho hT⟩
/-- The same, the table first. -/
theorem T5.fin2 (h : T5 w c v l X u Ts W) {nm : ByteArray} {ar : Int} {y : Value} {rows : List (List Int)} (hr : rowsC.rd W (fun b => c + 1 ≤ b ∧ b < W.heap.size) [y] rows) (hl : Ts.length ≤ 7) (ho : ∀ T ∈ Ts, OkD T) (hT : OkD (nm, ar, rows)) {W' : World}
    (e : W' = (((W.setCell ⟨w.heap.size + 1, 0, none⟩ (.string nm)).setCell ⟨w.heap.size + 1, 1, none⟩ (.int .i64 ar)).setCell ⟨w.heap.size + 1, 2, none⟩ y).setCell ⟨w.heap.size, 0, none⟩ u) :
    W'.cell? ⟨w.heap.size, 0, none⟩ = some u ∧ W'.cell? ⟨w.heap.size + 1, 0, none⟩ = some (.string nm) ∧ W'.cell? ⟨w.heap.size + 1, 1, none⟩ = some (.int .i64 ar) ∧ W'.cell? ⟨w.heap.size + 1, 2, none⟩ = some y ∧ SetDraw w (.returned (.tuple #[.agg #[u], .agg #[.string nm, .int .i64 ar, y]])) W' := by
  subst e
  have h1 := h.cb
  have e4 : w.heap.size + 1 < c + 1 := by omega
  obtain ⟨_, _, _, c0, c1, c2, _⟩ := h.lt
  obtain ⟨_, g3⟩ := (h.setT (.string nm) (.int .i64 ar) y).lr
  obtain ⟨k0, k1, k2⟩ := set3 (w := W) (k := w.heap.size + 1) (x := .string nm) (y := .int .i64 ar) (z := y) c0 c1 c2
  have hn : ∀ i, (⟨w.heap.size, 0, none⟩ : Addr) ≠ ⟨w.heap.size + 1, i, none⟩ := fun i q => by have := congrArg Addr.block q; simp only at this; omega
  refine ⟨World.cell?_setCell_same _ _ _ g3.c0, ?_, ?_, ?_, T5.end ((h.setT _ _ _).setD u) (rd_setN (rd_setN (rd_setN (rd_setN hr e4 _) e4 _) e4 _) (by show w.heap.size < c + 1; omega) _) hl ho hT⟩
  · rw [World.cell?_setCell_other _ _ _ _ (hn _)]; exact k0
  · rw [World.cell?_setCell_other _ _ _ _ (hn _)]; exact k1
  · rw [World.cell?_setCell_other _ _ _ _ (hn _)]; exact k2
end

end Go.Proofs.YtinchhahcheadaaGreat.DbDraw

namespace Go.Proofs.YtinchhahcheadaaGreat.UpdDraw
open Go Go.RowKit Byt Ints IntsLaw IntsWalk Draw LocDraw Cd Rows2 Tab TabDraw SlMath TabOpen TabElem SlTable Db TabSpec DbMath DbSpec DbExact DbAcc DbDraw Upd

/-- A drawn database and a drawn update. -/
def PairDraw (ps : List Value) (w : World) (e : Ending) (w' : World) : Prop :=
  ∃ (u : Value) (Ts : List T3) (nm : ByteArray) (b : Bool) (y : Value) (row : List Int), e = .returned (.tuple (ps ++ [Value.agg #[u], Value.agg #[.string nm, .bool b, y]]).toArray) ∧ tabsC.rd w' (fun b => w.heap.size ≤ b ∧ b < w'.heap.size) [u] Ts ∧ Ts.length ≤ 7 ∧ (∀ T ∈ Ts, OkD T) ∧
    rowC.rd w' (fun b => w.heap.size ≤ b ∧ b < w'.heap.size) [y] row ∧ nm.size ≤ 2 ∧ row.length ≤ 40 ∧ Below w.heap.size w w'
theorem upOk_of {Ts : List T3} (hl : Ts.length ≤ 7) (h : ∀ T ∈ Ts, OkD T) : UpOk Ts := ⟨hl, fun T hT => ⟨(h T hT).1, Nat.le_trans (h T hT).2.2 (by decide)⟩⟩
section
variable {w : World} {c : Nat} {v : Value} {l : List UInt8} {X : Nat} {u : Value} {Ts : List T3} {W W' : World}
/-- The results' cells are stored, the database first. -/
theorem both1 (h : T5 w c v l X u Ts W) {x y z : Value}
    (e : W' = (((W.setCell ⟨w.heap.size, 0, none⟩ u).setCell ⟨w.heap.size + 1, 0, none⟩ x).setCell ⟨w.heap.size + 1, 1, none⟩ y).setCell ⟨w.heap.size + 1, 2, none⟩ z) :
    W'.cell? ⟨w.heap.size, 0, none⟩ = some u ∧ W'.cell? ⟨w.heap.size + 1, 0, none⟩ = some x ∧ W'.cell? ⟨w.heap.size + 1, 1, none⟩ = some y ∧ W'.cell? ⟨w.heap.size + 1, 2, none⟩ = some z ∧ T5 w c v l X u Ts W' ∧
      ∀ row v', rowC.rd W (fun b => c + 1 ≤ b ∧ b < W.heap.size) [v'] row → rowC.rd W' (fun b => c + 1 ≤ b ∧ b < W'.heap.size) [v'] row := by
  subst e
  have h1 := h.cb
  have e4 : w.heap.size + 1 < c + 1 := by omega
  obtain ⟨_, g3⟩ := h.lr
  obtain ⟨_, _, _, c0, c1, c2, _⟩ := (h.setD u).lt
  obtain ⟨k0, k1, k2⟩ := set3 (w := W.setCell ⟨w.heap.size, 0, none⟩ u) (k := w.heap.size + 1) (x := x) (y := y) (z := z) c0 c1 c2
  exact ⟨far3 (World.cell?_setCell_same _ _ _ g3.c0) (by show w.heap.size ≠ w.heap.size + 1; omega), k0, k1, k2, (h.setD u).setT _ _ _,
    fun row v' hr => rd_setN (rd_setN (rd_setN (rd_setN hr (by show w.heap.size < c + 1; omega) _) e4 _) e4 _) e4 _⟩
/-- The same, the update first. -/
theorem both2 (h : T5 w c v l X u Ts W) {x y z : Value}
    (e : W' = (((W.setCell ⟨w.heap.size + 1, 0, none⟩ x).setCell ⟨w.heap.size + 1, 1, none⟩ y).setCell ⟨w.heap.size + 1, 2, none⟩ z).setCell ⟨w.heap.size, 0, none⟩ u) :
    W'.cell? ⟨w.heap.size, 0, none⟩ = some u ∧ W'.cell? ⟨w.heap.size + 1, 0, none⟩ = some x ∧ W'.cell? ⟨w.heap.size + 1, 1, none⟩ = some y ∧ W'.cell? ⟨w.heap.size + 1, 2, none⟩ = some z ∧ T5 w c v l X u Ts W' ∧
      ∀ row v', rowC.rd W (fun b => c + 1 ≤ b ∧ b < W.heap.size) [v'] row → rowC.rd W' (fun b => c + 1 ≤ b ∧ b < W'.heap.size) [v'] row := by
  subst e
  have h1 := h.cb
  have e4 : w.heap.size + 1 < c + 1 := by omega
  obtain ⟨_, _, _, c0, c1, c2, _⟩ := h.lt
  obtain ⟨_, g3⟩ := (h.setT x y z).lr
  obtain ⟨k0, k1, k2⟩ := set3 (w := W) (k := w.heap.size + 1) (x := x) (y := y) (z := z) c0 c1 c2
  have hn : ∀ i, (⟨w.heap.size, 0, none⟩ : Addr) ≠ ⟨w.heap.size + 1, i, none⟩ := fun i q => by have := congrArg Addr.block q; simp only at this; omega
  refine ⟨World.cell?_setCell_same _ _ _ g3.c0, ?_, ?_, ?_, (h.setT _ _ _).setD u, fun row v' hr => rd_setN (rd_setN (rd_setN (rd_setN hr e4 _) e4 _) e4 _) (by show w.heap.size < c + 1; omega) _⟩
  · rw [World.cell?_setCell_other _ _ _ _ (hn _)]; exact k0
  · rw [World.cell?_setCell_other _ _ _ _ (hn _)]; exact k1
  · rw [World.cell?_setCell_other _ _ _ _ (hn _)]; exact k2
end

set_option maxRecDepth 100000 in
set_option maxHeartbeats 3200000 in
theorem pair_any (v : Value) (l : List UInt8) (B : Nat) (w : World) (hr : Reads w v l B) (hBw : B ≤ w.heap.size) :
    Calls Tryz.prog 19 #[v] w (fun e w' => ∃ p, PairDraw [p] w e w') := by
  have HR := Lib.hid (fun w' (hb : Below w.heap.size w w') => hr.later (hb.mono hBw))
  have HN := Lib.hid (fun B w' (hr : Reads w' v l B) => new_any v l B w' hr)
  clear hr
  go_enter Tryz.func19, Tryz.ntmps19
  go_wp2_with fail
  generalize hW : (w.alloc _).alloc _ = W0
  obtain ⟨r0, r1, hz, hb0⟩ := start2g w _ _ hW
  clear hW
  refine (HN.out _ W0 (HR.out _ hb0)).mono ?_
  rintro e w1 ⟨rfl, hc1, hg1⟩
  have hb1 : Below W0.heap.size W0 w1 := ⟨hg1.os, hg1.tape, hg1.output, hg1.size, fun k hk => hg1.block k hk (by simp)⟩
  have HB1 := Lib.hid (Tab.below_then hb0 hb1)
  have HL1 := Lib.hid ((Loc1.of r0).later hb1)
  have HL3 := Lib.hid ((Loc3.of r1).later hb1)
  have hcs1 := cur_size hc1
  have HC1 := Lib.hid hc1
  obtain ⟨c, hcc⟩ : ∃ c, W0.heap.size = c := ⟨_, rfl⟩
  rw [hcc] at HC1 hcs1
  rw [hcc]
  have hcw : w.heap.size + 1 < c := by omega
  have HCW := Lib.hid hcw
  have hBc : B ≤ c := by omega
  clear r0 r1 hz hb0 hb1 hc1 hg1 HN hcc hcw
  have HD := Lib.hid (dbany_any c v l B w1 HC1.out (HR.out _ HB1.out) hBc)
  go_wp2_with fail
  refine HD.out.mono ?_
  rintro e w2 ⟨u, Ts, rfl, hrd, hlen, hok, hc2, hg2⟩
  obtain ⟨ad, cd, rfl, _⟩ := Cd.sl_form hrd
  have hcw := HCW.out
  have hst : T5 w c v l w2.heap.size (.slice ad Ts.length cd) Ts (w2.alloc (.cells #[.slice ad Ts.length cd] 26 (0, 0))) := by
    have hs2 := hg2.size
    refine ⟨Loc1.of (row_alloc _ _), ⟨_, (loc1_grown HL1.out hg2 (by omega)).later (below_alloc _ _)⟩, ⟨_, _, _, (loc_grown HL3.out hg2 (by omega)).later (below_alloc _ _)⟩, ?_, by omega, by omega, cur_allocI _ hc2, Tab.below_then (HB1.out.trans (below_of hg2 (by omega) hcs1)) (below_alloc _ _)⟩
    exact tabsC.mono (Cd.later hrd (below_alloc _ _)) fun b _ hb => ⟨by omega, by rw [size_alloc]; omega⟩
  have HS := Lib.hid hst
  have HLEN := Lib.hid hlen
  have HOK := Lib.hid hok
  clear hst hrd hlen hok hc2 hg2 HD HL1 HL3 HB1 HC1 hcs1 hcw
  go_upto_region 3 with fail
  generalize w2.alloc _ = W2 at *
  generalize w2.heap.size = X at *
  have z0 := HS.out.lx.c0
  obtain ⟨zz, z1⟩ := HS.out.lr
  obtain ⟨za, zb, zc, z2⟩ := HS.out.lt
  obtain ⟨z3, z4⟩ := z1
  obtain ⟨z5, z6, z7, z8, z9, z10⟩ := z2
  have HT := Lib.hid (fun W' (h : T5 w c v l X (.slice ad Ts.length cd) Ts W') => up_any c v l B _ Ts W' h.cu (HR.out _ h.bl) hBc h.rd (upOk_of HLEN.out HOK.out))
  have hs0 := HS.out.drew
  go_region_held3 (fun wx => wx.cell? ⟨X, 0, none⟩ = some (.slice ad Ts.length cd) ∧ T5 w c v l X (.slice ad Ts.length cd) Ts wx)
    (exact T5.all (by first | assumption | exact T5.setD (by assumption) _ | exact T5.setT (by assumption) _ _ _ | exact T5.setT (T5.setD (by assumption) _) _ _ _ | exact T5.setD (T5.setT (by assumption) _ _ _) _))
    (first | (go_at_call 48; refine (HT.out _ (by assumption)).mono ?_; rintro e w5 ⟨nm, b, y, row, f, rfl, how, hnf, hnm, hrl, hc5, hg5⟩; obtain ⟨a5, cap5, rfl⟩ := Cd.ow_slice how; (have hs5 : T5 w c v l X (.slice ad Ts.length cd) Ts w5 := T5.grown (by assumption) hg5 hc5); (have HRD := Lib.hid (rd_new how (T5.base (by assumption)))); (have HNM := Lib.hid hnm); (have HRL := Lib.hid hrl); (have y0 := hs5.lx.c0); obtain ⟨_, y3, y4⟩ := hs5.lr; obtain ⟨_, _, _, y5, y6, y7, y8, y9, y10⟩ := hs5.lt; clear how hnf hnm hrl hc5 hg5))
  all_goals
    go_wp2_with fail
    obtain ⟨k0, k1, k2, k3, hd, hrr⟩ := both1 (x := .string nm) (y := .bool b) (z := .slice a5 row.length cap5) hs5 rfl
    exact bodyPost_ret (v := .tuple #[.pointer (some ⟨c, 0, none⟩), .agg #[.slice ad Ts.length cd], .agg #[.string nm, .bool b, .slice a5 row.length cap5]]) (by simp [results, Tryz.results19, go_sem, k0, k1, k2, k3]) rfl ⟨.pointer (some ⟨c, 0, none⟩), _, Ts, nm, b, _, row, rfl, tabsC.mono hd.rd fun _ _ q => ⟨by have := HCW.out; have := q.1; omega, q.2⟩, HLEN.out, HOK.out, rowC.mono (hrr _ _ HRD.out) fun _ _ q => ⟨by have := HCW.out; have := q.1; omega, q.2⟩, HNM.out, HRL.out, hd.bl⟩

theorem four1 {W : World} {D : Nat} {a x0 x1 x2 u x y z : Value} (h1 : Loc1 W D a) (h3 : Loc3 W (D + 1) x0 x1 x2) {W' : World}
    (e : W' = (((W.setCell ⟨D, 0, none⟩ u).setCell ⟨D + 1, 0, none⟩ x).setCell ⟨D + 1, 1, none⟩ y).setCell ⟨D + 1, 2, none⟩ z) :
    W'.cell? ⟨D, 0, none⟩ = some u ∧ W'.cell? ⟨D + 1, 0, none⟩ = some x ∧ W'.cell? ⟨D + 1, 1, none⟩ = some y ∧ W'.cell? ⟨D + 1, 2, none⟩ = some z ∧ W'.heap.size = W.heap.size ∧ Below D W W' ∧ ∀ b, D + 2 ≤ b → W'.heap[b]? = W.heap[b]? := by
  subst e
  have h4 : Loc3 (W.setCell ⟨D, 0, none⟩ u) (D + 1) x0 x1 x2 := h3.set_far (by show D ≠ D + 1; omega) _
  obtain ⟨k0, k1, k2⟩ := set3 (w := W.setCell ⟨D, 0, none⟩ u) (k := D + 1) (x := x) (y := y) (z := z) h4.c0 h4.c1 h4.c2
  refine ⟨far3 (World.cell?_setCell_same _ _ _ h1.c0) (by show D ≠ D + 1; omega), k0, k1, k2, by simp, ((((Below.refl D W).setCell (Nat.le_refl _) _).setCell (Nat.le_succ _) _).setCell (Nat.le_succ _) _).setCell (Nat.le_succ _) _, fun b hb => ?_⟩
  rw [Below.heap_setCell _ _ _ b (by show b ≠ D + 1; omega), Below.heap_setCell _ _ _ b (by show b ≠ D + 1; omega), Below.heap_setCell _ _ _ b (by show b ≠ D + 1; omega), Below.heap_setCell _ _ _ b (by show b ≠ D; omega)]
theorem four2 {W : World} {D : Nat} {a x0 x1 x2 u x y z : Value} (h1 : Loc1 W D a) (h3 : Loc3 W (D + 1) x0 x1 x2) {W' : World}
    (e : W' = (((W.setCell ⟨D + 1, 0, none⟩ x).setCell ⟨D + 1, 1, none⟩ y).setCell ⟨D + 1, 2, none⟩ z).setCell ⟨D, 0, none⟩ u) :
    W'.cell? ⟨D, 0, none⟩ = some u ∧ W'.cell? ⟨D + 1, 0, none⟩ = some x ∧ W'.cell? ⟨D + 1, 1, none⟩ = some y ∧ W'.cell? ⟨D + 1, 2, none⟩ = some z ∧ W'.heap.size = W.heap.size ∧ Below D W W' ∧ ∀ b, D + 2 ≤ b → W'.heap[b]? = W.heap[b]? := by
  subst e
  obtain ⟨k0, k1, k2⟩ := set3 (w := W) (k := D + 1) (x := x) (y := y) (z := z) h3.c0 h3.c1 h3.c2
  have hn : ∀ i, (⟨D, 0, none⟩ : Addr) ≠ ⟨D + 1, i, none⟩ := fun i q => by have := congrArg Addr.block q; simp only at this; omega
  refine ⟨World.cell?_setCell_same _ _ _ (far3 h1.c0 (by show D ≠ D + 1; omega)), (World.cell?_setCell_other _ _ _ _ (hn _)).trans k0, (World.cell?_setCell_other _ _ _ _ (hn _)).trans k1, (World.cell?_setCell_other _ _ _ _ (hn _)).trans k2, by simp, ((((Below.refl D W).setCell (Nat.le_succ _) _).setCell (Nat.le_succ _) _).setCell (Nat.le_succ _) _).setCell (Nat.le_refl _) _, fun b hb => ?_⟩
  rw [Below.heap_setCell _ _ _ b (by show b ≠ D; omega), Below.heap_setCell _ _ _ b (by show b ≠ D + 1; omega), Below.heap_setCell _ _ _ b (by show b ≠ D + 1; omega), Below.heap_setCell _ _ _ b (by show b ≠ D + 1; omega)]

set_option maxRecDepth 100000 in
set_option maxHeartbeats 6400000 in
theorem draw_upd (v : Value) (l : List UInt8) (w : World) (hr : Reads w v l w.heap.size) :
    Calls Tryz.prog 5 #[v] w (PairDraw [] w) := by
  have HP := Lib.hid (fun w' (hb : Below w.heap.size w w') => pair_any v l w.heap.size w' (hr.later hb) hb.size)
  clear hr
  go_enter Tryz.func5, Tryz.ntmps5
  go_wp2_with fail
  generalize hW : (w.alloc _).alloc _ = W0
  obtain ⟨r0, r1, hz, hb0⟩ := start2g w _ _ hW
  clear hW
  refine (HP.out W0 hb0).mono ?_
  rintro e w1 ⟨pp, u, Ts, nm, b, y, row, he, hd, hlen, hok, hrow, hnm, hrl, hb1⟩
  obtain ⟨ad, cd, rfl, _⟩ := Cd.sl_form hd
  obtain ⟨ar, cr, rfl, _⟩ := Upd.row_form hrow
  simp only [List.cons_append, List.nil_append] at he
  subst he
  have hL1 := (Loc1.of r0).later hb1
  have hL3 := (Loc3.of r1).later hb1
  have HB1 := Lib.hid (Tab.below_then hb0 hb1)
  have HD := Lib.hid hd
  have HRW := Lib.hid hrow
  have HLS := Lib.hid (And.intro hlen (And.intro hnm hrl))
  have HOK := Lib.hid hok
  have HZ := Lib.hid hz
  have HSZ := Lib.hid hb1.size
  clear r0 r1 hz hb0 hd hlen hok hrow hnm hrl hb1 HP
  go_upto_region 2 with fail
  generalize hW : (w1.alloc _).alloc _ = W2
  obtain ⟨q0, q1, qz, hb2⟩ := start2g w1 _ _ hW
  obtain ⟨s0, _⟩ := Loc1.of q0
  obtain ⟨t0, t1, t2, _, _, _⟩ := Loc3.of q1
  have HM1 := Lib.hid (hL1.later hb2).drew
  have HM3 := Lib.hid (show Loc3 W2.drew (w.heap.size + 1) (.string ⟨#[]⟩) (.bool false) (.slice none 0 0) from (hL3.later hb2).keep rfl)
  have HB2 := Lib.hid (Below.drew (Tab.below_then HB1.out hb2))
  have HD2 := Lib.hid (tabsC.keep (w' := W2.drew) (Cd.later HD.out hb2) fun _ _ _ => rfl)
  have HR2 := Lib.hid (rowC.keep (w' := W2.drew) (Cd.later HRW.out hb2) fun _ _ _ => rfl)
  have HS2 := Lib.hid hb2.size
  obtain ⟨z3, z4⟩ := HM1.out
  obtain ⟨z5, z6, z7, z8, z9, z10⟩ := HM3.out
  have s0' : W2.drew.cell? ⟨w1.heap.size, 0, none⟩ = some (.slice ad Ts.length cd) := s0
  have t0' : W2.drew.cell? ⟨w1.heap.size + 1, 0, none⟩ = some (.string nm) := t0
  have t1' : W2.drew.cell? ⟨w1.heap.size + 1, 1, none⟩ = some (.bool b) := t1
  have t2' : W2.drew.cell? ⟨w1.heap.size + 1, 2, none⟩ = some (.slice ar row.length cr) := t2
  have hlt : w.heap.size + 1 < w1.heap.size := by have := HZ.out; have := HSZ.out; omega
  clear hW q0 q1 qz hb2 hL1 hL3 s0 t0 t1 t2
  have hfar : ∀ (d o p o2 : Nat), d ≤ w.heap.size + 1 → w1.heap.size ≤ p → (⟨d, o, none⟩ : Addr) ≠ ⟨p, o2, none⟩ := fun d o p o2 h1 h2 q => by have := congrArg Addr.block q; simp only at this; omega
  have hD0 : w.heap.size ≤ w.heap.size + 1 := by omega
  have hP1 : w1.heap.size ≤ w1.heap.size + 1 := by omega
  have hne : w1.heap.size ≠ w.heap.size + 1 := by omega
  have hne2 : w1.heap.size + 1 ≠ w.heap.size + 1 := by omega
  refine wp_region_held_drew (S := fun wx => wx.cell? ⟨w1.heap.size, 0, none⟩ = some (.slice ad Ts.length cd) ∧ wx.cell? ⟨w1.heap.size + 1, 0, none⟩ = some (.string nm) ∧ wx.cell? ⟨w1.heap.size + 1, 1, none⟩ = some (.bool b) ∧ wx.cell? ⟨w1.heap.size + 1, 2, none⟩ = some (.slice ar row.length cr)) (by kernel_rfl) ⟨s0', t0', t1', t2'⟩ (fun hHeld => ?_)
  refine RegH.takeH (i := 0) (v := ?_) rfl (by kernel_rfl) (by kernel_rfl) (by kernel_rfl) (fun _ _ _ h => h) (Or.inl ⟨by rfl, ?_⟩) (by assumption) ?_
  rotate_left
  · (intro wS hSw; (try dsimp only at hSw); (obtain ⟨r0, r1, r2, r3⟩ := hSw); go_simp; try (with_reducible rfl))
  try simp only [Act.put, List.setIfInBounds_toArray, List.set_cons_zero, List.set_cons_succ]
  refine RegH.takeH (i := 1) (v := ?_) rfl (by kernel_rfl) (by kernel_rfl) (by kernel_rfl) (fun _ _ _ h => h) (Or.inl ⟨by rfl, ?_⟩) (by assumption) ?_
  rotate_left
  · (intro wS hSw; (try dsimp only at hSw); (obtain ⟨r0, r1, r2, r3⟩ := hSw); go_simp; try (with_reducible rfl))
  try simp only [Act.put, List.setIfInBounds_toArray, List.set_cons_zero, List.set_cons_succ]
  clear hHeld
  generalize W2.drew = W3 at *
  have u0 := (World.cell?_setCell_other W3 ⟨w.heap.size, 0, none⟩ _ (.slice ad Ts.length cd) (hfar w.heap.size 0 w1.heap.size 0 hD0 (Nat.le_refl _))).trans s0'
  have u1 := (World.cell?_setCell_other W3 ⟨w.heap.size, 0, none⟩ _ (.slice ad Ts.length cd) (hfar w.heap.size 0 (w1.heap.size + 1) 0 hD0 hP1)).trans t0'
  have u2 := (World.cell?_setCell_other W3 ⟨w.heap.size, 0, none⟩ _ (.slice ad Ts.length cd) (hfar w.heap.size 0 (w1.heap.size + 1) 1 hD0 hP1)).trans t1'
  have u3 := (World.cell?_setCell_other W3 ⟨w.heap.size, 0, none⟩ _ (.slice ad Ts.length cd) (hfar w.heap.size 0 (w1.heap.size + 1) 2 hD0 hP1)).trans t2'
  obtain ⟨v5, v6, v7, v8, v9, v10⟩ := (HM3.out.set_far (p := ⟨w.heap.size, 0, none⟩) (show w.heap.size ≠ w.heap.size + 1 by omega) (.slice ad Ts.length cd))
  refine RegH.consH (i := 2) rfl (by kernel_rfl) (fun K hK => ?_)
  go_simp
  refine hK.out _ _ ?_ (fun hHeld => ?_)
  · exact ⟨u0, u1, u2, u3⟩
  clear hK K
  try simp only [Act.put, List.setIfInBounds_toArray, List.set_cons_zero, List.set_cons_succ]
  refine RegH.consH (i := 3) rfl (by kernel_rfl) (fun K hK => ?_)
  go_simp
  refine hK.out _ _ ?_ (fun hHeld => ?_)
  · exact ⟨far3 u0 hne, far3 u1 hne2, far3 u2 hne2, far3 u3 hne2⟩
  clear hK K
  try simp only [Act.put, List.setIfInBounds_toArray, List.set_cons_zero, List.set_cons_succ]
  refine wpAnyH_done (by kernel_rfl) ?_ _
  · go_wp2_with fail
    obtain ⟨k0, k1, k2, k3, k4, k5, k6⟩ := four1 (D := w.heap.size) (u := .slice ad Ts.length cd) (x := .string nm) (y := .bool b) (z := .slice ar row.length cr) HM1.out HM3.out rfl
    have hD3 := tabsC.keep HD2.out (fun q hq _ => k6 q (by have := HZ.out; have h := hq.1; omega))
    have hR3 := rowC.keep HR2.out (fun q hq _ => k6 q (by have := HZ.out; have h := hq.1; omega))
    have hD4 := tabsC.mono hD3 (fun q hlt hq => (⟨by have := HZ.out; have h := hq.1; omega, hlt⟩ : w.heap.size ≤ q ∧ q < _))
    have hR4 := rowC.mono hR3 (fun q hlt hq => (⟨by have := HZ.out; have h := hq.1; omega, hlt⟩ : w.heap.size ≤ q ∧ q < _))
    have hB4 := HB2.out.trans k5
    refine bodyPost_ret (v := .tuple #[.agg #[.slice ad Ts.length cd], .agg #[.string nm, .bool b, .slice ar row.length cr]]) (by simp [results, Tryz.results5, go_sem, k0, k1, k2, k3]) rfl ?_
    exact ⟨_, Ts, nm, b, _, row, rfl, hD4, HLS.out.1, HOK.out, hR4, HLS.out.2.1, HLS.out.2.2, hB4⟩
end Go.Proofs.YtinchhahcheadaaGreat.UpdDraw

namespace Go.Proofs.YtinchhahcheadaaGreat.DbAcc
open Go Go.RowKit Byt Ints IntsLaw Cd Rows2 Tab SlMath TabOpen TabElem SlTable Db TabSpec DbMath DbSpec DbExact

/-- Has a table been met that does not lie ahead of T? -/
def putB (T : T3) (l : List T3) : Bool := !(l.all fun U => ltB U.1 T.1)
def curP (T : T3) (l : List T3) : List T3 := if putB T l then putL T l else l
theorem putB_no {T : T3} {l : List T3} : putB T l = false ↔ ∀ U ∈ l, ltB U.1 T.1 = true := by unfold putB; simp
theorem putB_yes {T : T3} {l : List T3} : putB T l = true ↔ ∃ U ∈ l, ltB U.1 T.1 = false := by unfold putB; simp
theorem putB_more {T U : T3} {l : List T3} : putB T (l ++ [U]) = (putB T l || !ltB U.1 T.1) := by unfold putB; simp [Bool.not_and]
/-- None yet, and the next does not lie ahead. -/
theorem curP_first {T U : T3} {l : List T3} (h : putB T l = false) (hu : ltB U.1 T.1 = false) : putB T (l ++ [U]) = true ∧ curP T (l ++ [U]) = if U.1 = T.1 then l ++ [T] else l ++ [T] ++ [U] := by
  have h1 : putB T (l ++ [U]) = true := by rw [putB_more, h, hu]; rfl
  refine ⟨h1, ?_⟩
  unfold curP
  rw [if_pos h1, putL_all (putB_no.1 h)]
  show l ++ (if ltB U.1 T.1 = true then U :: putL T [] else if U.1 = T.1 then [T] else [T, U]) = _
  rw [hu, if_neg (by simp)]
  split
  · rfl
  · simp
theorem curP_next {T U : T3} {l : List T3} (h : putB T l = false) (hu : ltB U.1 T.1 = true) : putB T (l ++ [U]) = false ∧ curP T (l ++ [U]) = l ++ [U] := by
  have h1 : putB T (l ++ [U]) = false := by rw [putB_more, h, hu]; rfl
  exact ⟨h1, by unfold curP; rw [h1]; rfl⟩
theorem curP_past {T U : T3} {l : List T3} (h : putB T l = true) : putB T (l ++ [U]) = true ∧ curP T (l ++ [U]) = curP T l ++ [U] := by
  have h1 : putB T (l ++ [U]) = true := by rw [putB_more, h]; rfl
  refine ⟨h1, ?_⟩
  unfold curP
  rw [if_pos h1, if_pos h]
  exact putL_past (putB_yes.1 h) _
theorem curP_no {T : T3} {l : List T3} (h : putB T l = false) : curP T l = l := by unfold curP; rw [h]; rfl
/-- In an ascending list whatever follows one that does not lie ahead of T has another name. -/
theorem past_ne {T : T3} {l : List T3} {k : Nat} (ha : AscP l) (hk : k < l.length) (h : putB T (l.take k) = true) : (l[k]).1 ≠ T.1 := by
  obtain ⟨U, hU, hu⟩ := putB_yes.1 h
  obtain ⟨i, hi, rfl⟩ := List.getElem_of_mem hU
  rw [List.length_take] at hi
  rw [List.getElem_take] at hu
  have hlt := List.pairwise_iff_getElem.1 ha i k (by omega) hk (by omega)
  intro e
  unfold ltT at hlt
  rw [e, hu] at hlt
  cases hlt
theorem curP_all {T : T3} {l : List T3} (h : putB T l = true) : curP T l = putL T l := by unfold curP; rw [if_pos h]
theorem putL_none {T : T3} {l : List T3} (h : putB T l = false) : putL T l = l ++ [T] := by
  have := putL_all (putB_no.1 h) []
  rw [List.append_nil] at this
  exact this
theorem below_drewN (w : World) (n : Nat) : Below w.heap.size w (w.drewN n) := ⟨rfl, rfl, rfl, Nat.le_refl _, fun _ _ => rfl⟩
theorem len_curP (T : T3) (l : List T3) (ha : AscP l) : (curP T l).length ≤ l.length + 1 := by
  unfold curP
  split
  · rw [len_putL ha]; split <;> omega
  · omega

set_option maxRecDepth 100000 in
set_option maxHeartbeats 3200000 in
theorem spec_set (u : Value) (l : List T3) (T : T3) (at_ : Option Addr) (cc : Nat) (S S2 : Nat → Prop) (w : World) (h1 : tabsC.rd w S [u] l) (h2 : tabC.rd w S2 [.string T.1, .int .i64 T.2.1, .slice at_ T.2.2.length cc] T) (hw : wtS l ≤ 1048577) (hwt : wtT T ≤ 1048577) :
    Calls Tryz.prog 28 #[.agg #[u], .agg #[.string T.1, .int .i64 T.2.1, .slice at_ T.2.2.length cc]] w fun e w' => DbAns (setL l T) (setOk l T) w e w' := by
  have HR1 := Lib.hid (fun w' (hb : Below w.heap.size w w') => Cd.later h1 hb)
  have HV := Lib.hid (fun w' (hb : Below w.heap.size w w') => spec_dbok u l S w' (Cd.later h1 hb))
  have HVT := Lib.hid (fun w' (hb : Below w.heap.size w w') => val_elem _ T S2 w' (Cd.later h2 hb))
  have HCT := Lib.hid (fun w' (hb : Below w.heap.size w w') => copy_elem _ T S2 w' (Cd.later h2 hb) (by omega))
  have HDC := Lib.hid (fun w' (hb : Below w.heap.size w w') => spec_dbcopy u l S w' (Cd.later h1 hb) (by omega))
  obtain ⟨a1, cap1, rfl, hl1⟩ := Cd.sl_form h1
  have HWT := Lib.hid hw
  clear h1 h2 hw hwt
  go_enter Tryz.func28, Tryz.ntmps28
  go_wp2_with fail
  generalize hW : ((w.alloc _).alloc _).alloc _ = W
  obtain ⟨r0, r1, r2, hz, hb0⟩ := start3 w _ _ _ hW
  have HC0 := Lib.hid (Loc1.of r0)
  have HC1 := Lib.hid (Loc3.of r1)
  have HC2 := Lib.hid (Loc1.of r2)
  have HZZ := Lib.hid hz
  have HB0 := Lib.hid hb0
  clear hW r0 r1 r2 hz hb0
  refine (HV.out _ HB0.out).mono ?_
  rintro e w1 ⟨rfl, hb1⟩
  have HB1 := Lib.hid (below_then HB0.out hb1)
  have HC0a := Lib.hid (HC0.out.later hb1)
  have HC1a := Lib.hid (HC1.out.later hb1)
  have HC2a := Lib.hid (HC2.out.later hb1)
  have HS1 := Lib.hid (show w.heap.size + 3 ≤ w1.heap.size by have := hb1.size; have := HZZ.out; omega)
  have q0 := HC0a.out.c0
  have q1 := HC1a.out.c0
  have q2 := HC1a.out.c1
  have q3 := HC1a.out.c2
  clear hb1
  cases hv : dbOk l
  · have HNO := Lib.hid (show setOk l T = false by unfold setOk; rw [hv]; rfl)
    go_wp2_with fail
    refine (HDC.out _ HB1.out).mono ?_
    rintro e w9 ⟨u9, f9, rfl, ho9, hn9, hb9⟩
    obtain ⟨a9, c9, rfl⟩ := Cd.ow_slice (c := tabC) ho9
    have HC9 := Lib.hid (HC2a.out.later hb9)
    have y0 := HC9.out.c0
    have y1 := HC9.out.f0
    have HA := Lib.hid (DbAns.copy (b := setOk l T) (l' := setL l T) (Y := w.heap.size + 2) ho9 hn9 HB1.out hb9 (by omega) (World.block_lt_of_cell? _ _ HC2a.out.c0) (by unfold setL; rw [HNO.out]; rfl) HNO.out)
    clear ho9 hn9 hb9
    go_wp2_with fail
    have k0 : (w9.setCell ⟨w.heap.size + 2, 0, none⟩ (.slice a9 l.length c9)).cell? ⟨w.heap.size + 2, 0, none⟩ = some (.slice a9 l.length c9) := World.cell?_setCell_same _ _ _ y0
    refine bodyPost_ret (v := .tuple #[.agg #[.slice a9 l.length c9], .bool false]) (by simp [results, Tryz.results28, go_sem, k0]) rfl ?_
    exact HA.out
  have HP := Lib.hid (dbOk_iff.1 hv)
  have HVV := Lib.hid hv
  clear hv
  go_wp2_with fail
  refine (HVT.out _ HB1.out).mono ?_
  rintro e w2 ⟨rfl, hb2⟩
  have HB2 := Lib.hid (below_then HB1.out hb2)
  have HC0b := Lib.hid (HC0a.out.later hb2)
  have HC1b := Lib.hid (HC1a.out.later hb2)
  have HC2b := Lib.hid (HC2a.out.later hb2)
  have HS2 := Lib.hid (show w.heap.size + 3 ≤ w2.heap.size by have := hb2.size; have := HS1.out; omega)
  clear hb2 q0 q1 q2 q3
  have q0 := HC0b.out.c0
  cases hT : okT T
  · have HNO := Lib.hid (show setOk l T = false by unfold setOk; rw [hT]; simp)
    go_wp2_with fail
    refine (HDC.out _ HB2.out).mono ?_
    rintro e w9 ⟨u9, f9, rfl, ho9, hn9, hb9⟩
    obtain ⟨a9, c9, rfl⟩ := Cd.ow_slice (c := tabC) ho9
    have HC9 := Lib.hid (HC2b.out.later hb9)
    have y0 := HC9.out.c0
    have y1 := HC9.out.f0
    have HA := Lib.hid (DbAns.copy (b := setOk l T) (l' := setL l T) (Y := w.heap.size + 2) ho9 hn9 HB2.out hb9 (by omega) (World.block_lt_of_cell? _ _ HC2b.out.c0) (by unfold setL; rw [HNO.out]; rfl) HNO.out)
    clear ho9 hn9 hb9
    go_wp2_with fail
    have k0 : (w9.setCell ⟨w.heap.size + 2, 0, none⟩ (.slice a9 l.length c9)).cell? ⟨w.heap.size + 2, 0, none⟩ = some (.slice a9 l.length c9) := World.cell?_setCell_same _ _ _ y0
    refine bodyPost_ret (v := .tuple #[.agg #[.slice a9 l.length c9], .bool false]) (by simp [results, Tryz.results28, go_sem, k0]) rfl ?_
    exact HA.out
  have HTV := Lib.hid hT
  clear hT
  go_wp2_with fail
  generalize hg : World.alloc w2 _ = WF
  obtain ⟨r0, hz, hb0⟩ := start1 w2 _ hg
  have HACC0 := Lib.hid (AccS.start r0)
  have HBF := Lib.hid (below_then HB2.out hb0)
  have HD0 := Lib.hid (HC0b.out.later hb0)
  have HD1 := Lib.hid (HC1b.out.later hb0)
  have HD2 := Lib.hid (HC2b.out.later hb0)
  clear hg r0 hz hb0 q0
  go_loopw [7, 8] (fun pt i wr => ∃ (k : Nat) (a : Option Addr) (c : Nat) (fp : List Nat), k ≤ l.length ∧ pt = .bool (putB T (l.take k)) ∧ i = .int .i64 k ∧ AccS WF wr w2.heap.size (curP T (l.take k)) a c fp) (fun _ i _ => l.length - (intOf i).toNat)
  case atStart => exact ⟨0, none, 0, [], Nat.zero_le _, rfl, rfl, HACC0.out⟩
  case round =>
    obtain ⟨k, a, c, fp, hk, rfl, rfl, hacc⟩ := hrel
    have HACC := Lib.hid hacc
    have hX : w.heap.size + 2 < w2.heap.size := by have := HS2.out; omega
    have x0 := (HACC.out.loc1 HD0.out (by omega)).c0
    have x1 := (HACC.out.loc1 HD0.out (by omega)).lt
    have z0 := (HACC.out.loc3 HD1.out (by omega)).c0
    have z1 := (HACC.out.loc3 HD1.out (by omega)).c1
    have z2 := (HACC.out.loc3 HD1.out (by omega)).c2
    have z3 := (HACC.out.loc3 HD1.out (by omega)).lt
    have HBW := Lib.hid (HACC.out.below HBF.out (by omega))
    clear hacc
    by_cases hlt : k < l.length
    · obtain ⟨b, off, cap', us, e1, _, hbB, hat, hu⟩ := Cd.sl_at (HR1.out w (Below.refl _ _)) hlt
      injection e1 with e1 e2 e3
      subst e1 e3
      obtain ⟨x, y, z, rfl⟩ := len_list (tabC.len hu)
      have p0 := hat 0 (by simp)
      have p1 := hat 1 (by simp)
      have p2 := hat 2 (by simp)
      simp only [List.getElem_cons_zero, List.getElem_cons_succ, Nat.add_zero, show tabC.n = 3 from rfl] at p0 p1 p2
      have ht3 : wtT l[k] ≤ 1073741824 := by have := sumN_mem wtT hlt; have := HWT.out; unfold wtS at this; omega
      have HCU := Lib.hid (fun w' (hq : Below w.heap.size w w') => copy_elem [x, y, z] l[k] _ w' (Cd.later hu hq) ht3)
      have hx := name_cell hu
      have HAC : AscP (l.take k) := List.Pairwise.sublist (List.take_sublist _ _) HP.out.2.2
      have HLL := Lib.hid (show (curP T (l.take k)).length + 2 ≤ 1000000000 by have h1 := len_curP T (l.take k) HAC; rw [List.length_take] at h1; have h2 := HP.out.1; omega)
      have HTK := Lib.hid (show l.take (k + 1) = l.take k ++ [l[k]] from List.take_succ_eq_append_getElem hlt)
      have HPN := Lib.hid (fun h => past_ne (T := T) HP.out.2.2 hlt h)
      have HCELL := Lib.hid (And.intro p0 (And.intro p1 (And.intro p2 hbB)))
      replace p0 := (HBW.out.cell (p := ⟨b, off + k * 3, none⟩) hbB).trans p0
      replace p1 := (HBW.out.cell (p := ⟨b, off + k * 3 + 1, none⟩) hbB).trans p1
      replace p2 := (HBW.out.cell (p := ⟨b, off + k * 3 + 2, none⟩) hbB).trans p2
      have i1 : (0 : Int) ≤ (k : Int) := by omega
      have i2 : (k : Int) < (l.length : Int) := by omega
      have i3 : l.length ≤ 6 := HP.out.1
      clear hu hat e2 ht3 HAC
      generalize l[k] = U at *
      subst hx
      generalize l.take k = pre at *
      obtain ⟨cur, hcur⟩ : ∃ cur, curP T pre = cur := ⟨_, rfl⟩
      rw [hcur] at HACC HLL
      have HCUR := Lib.hid hcur
      clear hcur
      cases hput : putB T pre
      · have HPU := Lib.hid hput
        replace HCUR := Lib.hid (show pre = cur from (curP_no hput).symm.trans HCUR.out)
        clear hput
        cases hcm : Op.bytesLess U.1.toList T.1.toList
        · have HF := Lib.hid (curP_first (U := U) HPU.out hcm)
          go_wp2_with fail
          go_quiet (fail)
          have hdq := below_drewN wr nq
          replace HACC := Lib.hid (HACC.out.later hdq)
          clear x0 x1 z0 z1 z2 z3 p0 p1 p2 hbB
          clear hdq
          generalize World.drewN wr nq = wr1 at *
          have hbX := HACC.out.below HBF.out (by omega)
          have x0 := (HACC.out.loc1 HD0.out (by omega)).c0
          have x1 := (HACC.out.loc1 HD0.out (by omega)).lt
          have z0 := (HACC.out.loc3 HD1.out (by omega)).c0
          have z1 := (HACC.out.loc3 HD1.out (by omega)).c1
          have z2 := (HACC.out.loc3 HD1.out (by omega)).c2
          have z3 := (HACC.out.loc3 HD1.out (by omega)).lt
          have p0 := (hbX.cell (p := ⟨b, off + k * 3, none⟩) HCELL.out.2.2.2).trans HCELL.out.1
          have p1 := (hbX.cell (p := ⟨b, off + k * 3 + 1, none⟩) HCELL.out.2.2.2).trans HCELL.out.2.1
          have p2 := (hbX.cell (p := ⟨b, off + k * 3 + 2, none⟩) HCELL.out.2.2.2).trans HCELL.out.2.2.1
          have hbB := Nat.lt_of_lt_of_le HCELL.out.2.2.2 hbX.size
          have HBX := Lib.hid hbX
          clear hbX
          clear hcm
          go_wp2_with fail
          refine (HCT.out _ HBX.out).mono ?_
          rintro e w2t ⟨a2t, c2t, f2t, rfl, ho2, hn2, hb2⟩
          have h2 := HACC.out.later hb2
          have d2 := h2.cell
          have dl := World.block_lt_of_cell? _ _ d2
          have hl := HACC.out.laid hb2 ho2 hn2 51
          have H3 := Lib.hid hl.1
          have HLD := Lib.hid hl.2
          clear ho2 hn2 hb2 h2 hl HACC
          go_wp2_with (at_builtin; refine Cd.wpList_appendN (c := tabC) rfl (.tmp 46) (.tmp 48) 24 rfl WF.heap.size 51 (.agg #[.string ⟨#[]⟩, .int .i64 0, .slice none 0 0]) 3 48 rfl Tryz.underlying24 info_x rfl (by decide) _ cur fp rfl H3.out.ow H3.out.nd (w2t.heap.size + 1) _ rfl HLD.out.at_ T f2t HLD.out.ow HLD.out.nd HLD.out.far (by have := HLL.out; omega) H3.out.sz ?_)
          intro gt cap4t w4t fp4t ho4 hn4 _ ht4
          have HACC := Lib.hid (H3.out.app (cur' := cur ++ [T]) (n := cur.length + 1) (by simp) ht4 ho4 hn4)
          obtain ⟨e2, g2⟩ := H3.out.fcell ht4
          clear ho4 hn4 ht4 H3 HLD d2 dl
          clear x0 x1 z0 z1 z2 z3 p0 p1 p2 hbB
          clear HBX
          go_upto_region 12 with fail
          generalize World.setCell w4t _ _ = wA at *
          obtain ⟨cur1, hcur⟩ : ∃ q, cur ++ [T] = q := ⟨_, rfl⟩
          rw [hcur] at HACC
          have HCcur1 := Lib.hid hcur
          clear hcur e2 g2
          have hbX := HACC.out.below HBF.out (by omega)
          have x0 := (HACC.out.loc1 HD0.out (by omega)).c0
          have x1 := (HACC.out.loc1 HD0.out (by omega)).lt
          have z0 := (HACC.out.loc3 HD1.out (by omega)).c0
          have z1 := (HACC.out.loc3 HD1.out (by omega)).c1
          have z2 := (HACC.out.loc3 HD1.out (by omega)).c2
          have z3 := (HACC.out.loc3 HD1.out (by omega)).lt
          have p0 := (hbX.cell (p := ⟨b, off + k * 3, none⟩) HCELL.out.2.2.2).trans HCELL.out.1
          have p1 := (hbX.cell (p := ⟨b, off + k * 3 + 1, none⟩) HCELL.out.2.2.2).trans HCELL.out.2.1
          have p2 := (hbX.cell (p := ⟨b, off + k * 3 + 2, none⟩) HCELL.out.2.2.2).trans HCELL.out.2.2.1
          have hbB := Nat.lt_of_lt_of_le HCELL.out.2.2.2 hbX.size
          have HBX := Lib.hid hbX
          clear hbX
          by_cases he : U.1 = T.1
          · have he2 : (U.1.toList == T.1.toList) = true := by rw [eqB]; exact decide_eq_true he
            have HE := Lib.hid he
            clear he
            go_quiet (fail)
            have hdq := below_drewN wA nq
            replace HACC := Lib.hid (HACC.out.later hdq)
            clear x0 x1 z0 z1 z2 z3 p0 p1 p2 hbB
            clear hdq
            generalize World.drewN wA nq = wB at *
            have hbX := HACC.out.below HBF.out (by omega)
            have x0 := (HACC.out.loc1 HD0.out (by omega)).c0
            have x1 := (HACC.out.loc1 HD0.out (by omega)).lt
            have z0 := (HACC.out.loc3 HD1.out (by omega)).c0
            have z1 := (HACC.out.loc3 HD1.out (by omega)).c1
            have z2 := (HACC.out.loc3 HD1.out (by omega)).c2
            have z3 := (HACC.out.loc3 HD1.out (by omega)).lt
            have p0 := (hbX.cell (p := ⟨b, off + k * 3, none⟩) HCELL.out.2.2.2).trans HCELL.out.1
            have p1 := (hbX.cell (p := ⟨b, off + k * 3 + 1, none⟩) HCELL.out.2.2.2).trans HCELL.out.2.1
            have p2 := (hbX.cell (p := ⟨b, off + k * 3 + 2, none⟩) HCELL.out.2.2.2).trans HCELL.out.2.2.1
            have hbB := Nat.lt_of_lt_of_le HCELL.out.2.2.2 hbX.size
            have HBX := Lib.hid hbX
            clear hbX
            clear he2
            go_wp2_with fail
            go_roundw
            case rel => exact ⟨k + 1, some ⟨gt, 0, none⟩, cap4t, fp4t, by omega, by rw [HTK.out, HF.out.1], by go_num, HACC.out.shift (by rw [HTK.out]; exact (by rw [HF.out.2, if_pos HE.out, HCUR.out, HCcur1.out]))⟩
            case measure => simp [intOf]; omega
          · have he2 : (U.1.toList == T.1.toList) = false := by rw [eqB]; exact decide_eq_false he
            have HE := Lib.hid he
            have HLL1 := Lib.hid (show cur1.length + 1 ≤ 1000000000 by rw [← HCcur1.out, List.length_append]; have := HLL.out; simp; omega)
            clear he
            go_quiet (fail)
            have hdq := below_drewN wA nq
            replace HACC := Lib.hid (HACC.out.later hdq)
            clear x0 x1 z0 z1 z2 z3 p0 p1 p2 hbB
            clear hdq
            generalize World.drewN wA nq = wB at *
            have hbX := HACC.out.below HBF.out (by omega)
            have x0 := (HACC.out.loc1 HD0.out (by omega)).c0
            have x1 := (HACC.out.loc1 HD0.out (by omega)).lt
            have z0 := (HACC.out.loc3 HD1.out (by omega)).c0
            have z1 := (HACC.out.loc3 HD1.out (by omega)).c1
            have z2 := (HACC.out.loc3 HD1.out (by omega)).c2
            have z3 := (HACC.out.loc3 HD1.out (by omega)).lt
            have p0 := (hbX.cell (p := ⟨b, off + k * 3, none⟩) HCELL.out.2.2.2).trans HCELL.out.1
            have p1 := (hbX.cell (p := ⟨b, off + k * 3 + 1, none⟩) HCELL.out.2.2.2).trans HCELL.out.2.1
            have p2 := (hbX.cell (p := ⟨b, off + k * 3 + 2, none⟩) HCELL.out.2.2.2).trans HCELL.out.2.2.1
            have hbB := Nat.lt_of_lt_of_le HCELL.out.2.2.2 hbX.size
            have HBX := Lib.hid hbX
            clear hbX
            clear he2
            go_wp2_with fail
            refine (HCU.out _ HBX.out).mono ?_
            rintro e w2u ⟨a2u, c2u, f2u, rfl, ho2, hn2, hb2⟩
            have h2 := HACC.out.later hb2
            have d2 := h2.cell
            have dl := World.block_lt_of_cell? _ _ d2
            have hl := HACC.out.laid hb2 ho2 hn2 51
            have H3 := Lib.hid hl.1
            have HLD := Lib.hid hl.2
            clear ho2 hn2 hb2 h2 hl HACC
            go_wp2_with (at_builtin; refine Cd.wpList_appendN (c := tabC) rfl (.tmp 67) (.tmp 69) 24 rfl WF.heap.size 51 (.agg #[.string ⟨#[]⟩, .int .i64 0, .slice none 0 0]) 3 48 rfl Tryz.underlying24 info_x rfl (by decide) _ cur1 fp4t rfl H3.out.ow H3.out.nd (w2u.heap.size + 1) _ rfl HLD.out.at_ U f2u HLD.out.ow HLD.out.nd HLD.out.far HLL1.out H3.out.sz ?_)
            intro gu cap4u w4u fp4u ho4 hn4 _ ht4
            have HACC := Lib.hid (H3.out.app (cur' := cur1 ++ [U]) (n := cur1.length + 1) (by simp) ht4 ho4 hn4)
            obtain ⟨e2, g2⟩ := H3.out.fcell ht4
            clear ho4 hn4 ht4 H3 HLD d2 dl
            clear x0 x1 z0 z1 z2 z3 p0 p1 p2 hbB
            clear HBX
            go_wp2_with fail
            go_roundw
            case rel => exact ⟨k + 1, some ⟨gu, 0, none⟩, cap4u, fp4u, by omega, by rw [HTK.out, HF.out.1], by go_num, HACC.out.shift (by rw [HTK.out]; exact (by rw [HF.out.2, if_neg HE.out, HCUR.out, HCcur1.out]))⟩
            case measure => simp [intOf]; omega
        · have HF := Lib.hid (curP_next (U := U) HPU.out hcm)
          have he2 : (U.1.toList == T.1.toList) = false := by rw [eqB]; exact decide_eq_false (ltB_ne hcm)
          go_wp2_with fail
          go_quiet (fail)
          have hdq := below_drewN wr nq
          replace HACC := Lib.hid (HACC.out.later hdq)
          clear x0 x1 z0 z1 z2 z3 p0 p1 p2 hbB
          clear hdq
          generalize World.drewN wr nq = wr1 at *
          have hbX := HACC.out.below HBF.out (by omega)
          have x0 := (HACC.out.loc1 HD0.out (by omega)).c0
          have x1 := (HACC.out.loc1 HD0.out (by omega)).lt
          have z0 := (HACC.out.loc3 HD1.out (by omega)).c0
          have z1 := (HACC.out.loc3 HD1.out (by omega)).c1
          have z2 := (HACC.out.loc3 HD1.out (by omega)).c2
          have z3 := (HACC.out.loc3 HD1.out (by omega)).lt
          have p0 := (hbX.cell (p := ⟨b, off + k * 3, none⟩) HCELL.out.2.2.2).trans HCELL.out.1
          have p1 := (hbX.cell (p := ⟨b, off + k * 3 + 1, none⟩) HCELL.out.2.2.2).trans HCELL.out.2.1
          have p2 := (hbX.cell (p := ⟨b, off + k * 3 + 2, none⟩) HCELL.out.2.2.2).trans HCELL.out.2.2.1
          have hbB := Nat.lt_of_lt_of_le HCELL.out.2.2.2 hbX.size
          have HBX := Lib.hid hbX
          clear hbX
          clear hcm
          go_wp2_with fail
          go_quiet (fail)
          have hdq := below_drewN wr1 nq
          replace HACC := Lib.hid (HACC.out.later hdq)
          clear x0 x1 z0 z1 z2 z3 p0 p1 p2 hbB
          clear hdq
          generalize World.drewN wr1 nq = wB at *
          have hbX := HACC.out.below HBF.out (by omega)
          have x0 := (HACC.out.loc1 HD0.out (by omega)).c0
          have x1 := (HACC.out.loc1 HD0.out (by omega)).lt
          have z0 := (HACC.out.loc3 HD1.out (by omega)).c0
          have z1 := (HACC.out.loc3 HD1.out (by omega)).c1
          have z2 := (HACC.out.loc3 HD1.out (by omega)).c2
          have z3 := (HACC.out.loc3 HD1.out (by omega)).lt
          have p0 := (hbX.cell (p := ⟨b, off + k * 3, none⟩) HCELL.out.2.2.2).trans HCELL.out.1
          have p1 := (hbX.cell (p := ⟨b, off + k * 3 + 1, none⟩) HCELL.out.2.2.2).trans HCELL.out.2.1
          have p2 := (hbX.cell (p := ⟨b, off + k * 3 + 2, none⟩) HCELL.out.2.2.2).trans HCELL.out.2.2.1
          have hbB := Nat.lt_of_lt_of_le HCELL.out.2.2.2 hbX.size
          have HBX := Lib.hid hbX
          clear hbX
          clear he2
          go_wp2_with fail
          refine (HCU.out _ HBX.out).mono ?_
          rintro e w2u ⟨a2u, c2u, f2u, rfl, ho2, hn2, hb2⟩
          have h2 := HACC.out.later hb2
          have d2 := h2.cell
          have dl := World.block_lt_of_cell? _ _ d2
          have hl := HACC.out.laid hb2 ho2 hn2 51
          have H3 := Lib.hid hl.1
          have HLD := Lib.hid hl.2
          clear ho2 hn2 hb2 h2 hl HACC
          go_wp2_with (at_builtin; refine Cd.wpList_appendN (c := tabC) rfl (.tmp 67) (.tmp 69) 24 rfl WF.heap.size 51 (.agg #[.string ⟨#[]⟩, .int .i64 0, .slice none 0 0]) 3 48 rfl Tryz.underlying24 info_x rfl (by decide) _ cur fp rfl H3.out.ow H3.out.nd (w2u.heap.size + 1) _ rfl HLD.out.at_ U f2u HLD.out.ow HLD.out.nd HLD.out.far (by have := HLL.out; omega) H3.out.sz ?_)
          intro gu cap4u w4u fp4u ho4 hn4 _ ht4
          have HACC := Lib.hid (H3.out.app (cur' := cur ++ [U]) (n := cur.length + 1) (by simp) ht4 ho4 hn4)
          obtain ⟨e2, g2⟩ := H3.out.fcell ht4
          clear ho4 hn4 ht4 H3 HLD d2 dl
          clear x0 x1 z0 z1 z2 z3 p0 p1 p2 hbB
          clear HBX
          go_wp2_with fail
          go_roundw
          case rel => exact ⟨k + 1, some ⟨gu, 0, none⟩, cap4u, fp4u, by omega, by rw [HTK.out, HF.out.1], by go_num, HACC.out.shift (by rw [HTK.out]; exact (by rw [HF.out.2, HCUR.out]))⟩
          case measure => simp [intOf]; omega
      · have HF := Lib.hid (curP_past (U := U) hput)
        have he2 : (U.1.toList == T.1.toList) = false := by rw [eqB]; exact decide_eq_false (HPN.out hput)
        clear hput
        go_wp2_with fail
        go_quiet (fail)
        have hdq := below_drewN wr nq
        replace HACC := Lib.hid (HACC.out.later hdq)
        clear x0 x1 z0 z1 z2 z3 p0 p1 p2 hbB
        clear hdq
        generalize World.drewN wr nq = wr1 at *
        have hbX := HACC.out.below HBF.out (by omega)
        have x0 := (HACC.out.loc1 HD0.out (by omega)).c0
        have x1 := (HACC.out.loc1 HD0.out (by omega)).lt
        have z0 := (HACC.out.loc3 HD1.out (by omega)).c0
        have z1 := (HACC.out.loc3 HD1.out (by omega)).c1
        have z2 := (HACC.out.loc3 HD1.out (by omega)).c2
        have z3 := (HACC.out.loc3 HD1.out (by omega)).lt
        have p0 := (hbX.cell (p := ⟨b, off + k * 3, none⟩) HCELL.out.2.2.2).trans HCELL.out.1
        have p1 := (hbX.cell (p := ⟨b, off + k * 3 + 1, none⟩) HCELL.out.2.2.2).trans HCELL.out.2.1
        have p2 := (hbX.cell (p := ⟨b, off + k * 3 + 2, none⟩) HCELL.out.2.2.2).trans HCELL.out.2.2.1
        have hbB := Nat.lt_of_lt_of_le HCELL.out.2.2.2 hbX.size
        have HBX := Lib.hid hbX
        clear hbX
        go_wp2_with fail
        go_quiet (fail)
        have hdq := below_drewN wr1 nq
        replace HACC := Lib.hid (HACC.out.later hdq)
        clear x0 x1 z0 z1 z2 z3 p0 p1 p2 hbB
        clear hdq
        generalize World.drewN wr1 nq = wB at *
        have hbX := HACC.out.below HBF.out (by omega)
        have x0 := (HACC.out.loc1 HD0.out (by omega)).c0
        have x1 := (HACC.out.loc1 HD0.out (by omega)).lt
        have z0 := (HACC.out.loc3 HD1.out (by omega)).c0
        have z1 := (HACC.out.loc3 HD1.out (by omega)).c1
        have z2 := (HACC.out.loc3 HD1.out (by omega)).c2
        have z3 := (HACC.out.loc3 HD1.out (by omega)).lt
        have p0 := (hbX.cell (p := ⟨b, off + k * 3, none⟩) HCELL.out.2.2.2).trans HCELL.out.1
        have p1 := (hbX.cell (p := ⟨b, off + k * 3 + 1, none⟩) HCELL.out.2.2.2).trans HCELL.out.2.1
        have p2 := (hbX.cell (p := ⟨b, off + k * 3 + 2, none⟩) HCELL.out.2.2.2).trans HCELL.out.2.2.1
        have hbB := Nat.lt_of_lt_of_le HCELL.out.2.2.2 hbX.size
        have HBX := Lib.hid hbX
        clear hbX
        clear he2
        go_wp2_with fail
        refine (HCU.out _ HBX.out).mono ?_
        rintro e w2u ⟨a2u, c2u, f2u, rfl, ho2, hn2, hb2⟩
        have h2 := HACC.out.later hb2
        have d2 := h2.cell
        have dl := World.block_lt_of_cell? _ _ d2
        have hl := HACC.out.laid hb2 ho2 hn2 51
        have H3 := Lib.hid hl.1
        have HLD := Lib.hid hl.2
        clear ho2 hn2 hb2 h2 hl HACC
        go_wp2_with (at_builtin; refine Cd.wpList_appendN (c := tabC) rfl (.tmp 67) (.tmp 69) 24 rfl WF.heap.size 51 (.agg #[.string ⟨#[]⟩, .int .i64 0, .slice none 0 0]) 3 48 rfl Tryz.underlying24 info_x rfl (by decide) _ cur fp rfl H3.out.ow H3.out.nd (w2u.heap.size + 1) _ rfl HLD.out.at_ U f2u HLD.out.ow HLD.out.nd HLD.out.far (by have := HLL.out; omega) H3.out.sz ?_)
        intro gu cap4u w4u fp4u ho4 hn4 _ ht4
        have HACC := Lib.hid (H3.out.app (cur' := cur ++ [U]) (n := cur.length + 1) (by simp) ht4 ho4 hn4)
        obtain ⟨e2, g2⟩ := H3.out.fcell ht4
        clear ho4 hn4 ht4 H3 HLD d2 dl
        clear x0 x1 z0 z1 z2 z3 p0 p1 p2 hbB
        clear HBX
        go_wp2_with fail
        go_roundw
        case rel => exact ⟨k + 1, some ⟨gu, 0, none⟩, cap4u, fp4u, by omega, by rw [HTK.out, HF.out.1], by go_num, HACC.out.shift (by rw [HTK.out]; exact (by rw [HF.out.2, HCUR.out]))⟩
        case measure => simp [intOf]; omega
    · have ek : k = l.length := by omega
      subst ek
      rw [List.take_length] at HACC
      have i3 : l.length ≤ 6 := HP.out.1
      obtain ⟨cur, hcur⟩ : ∃ cur, curP T l = cur := ⟨_, rfl⟩
      rw [hcur] at HACC
      rw [List.take_length]
      cases hput : putB T l
      · have HCUR := Lib.hid (show l = cur from (curP_no hput).symm.trans hcur)
        have HPN := Lib.hid (putL_none hput)
        have HLL := Lib.hid (show cur.length + 1 ≤ 1000000000 by rw [← HCUR.out]; omega)
        have HBX := Lib.hid HBW.out
        clear hput hcur
        go_wp2_with fail
        refine (HCT.out _ HBX.out).mono ?_
        rintro e w2t ⟨a2t, c2t, f2t, rfl, ho2, hn2, hb2⟩
        have h2 := HACC.out.later hb2
        have d2 := h2.cell
        have dl := World.block_lt_of_cell? _ _ d2
        have hl := HACC.out.laid hb2 ho2 hn2 51
        have H3 := Lib.hid hl.1
        have HLD := Lib.hid hl.2
        clear ho2 hn2 hb2 h2 hl HACC
        go_wp2_with (at_builtin; refine Cd.wpList_appendN (c := tabC) rfl (.tmp 77) (.tmp 79) 24 rfl WF.heap.size 51 (.agg #[.string ⟨#[]⟩, .int .i64 0, .slice none 0 0]) 3 48 rfl Tryz.underlying24 info_x rfl (by decide) _ cur fp rfl H3.out.ow H3.out.nd (w2t.heap.size + 1) _ rfl HLD.out.at_ T f2t HLD.out.ow HLD.out.nd HLD.out.far HLL.out H3.out.sz ?_)
        intro gt cap4t w4t fp4t ho4 hn4 _ ht4
        have HACC := Lib.hid (H3.out.app (cur' := cur ++ [T]) (n := cur.length + 1) (by simp) ht4 ho4 hn4)
        obtain ⟨e2, g2⟩ := H3.out.fcell ht4
        clear ho4 hn4 ht4 H3 HLD d2 dl
        clear x0 x1 z0 z1 z2 z3 HBX
        go_upto_region 18 with fail
        generalize World.setCell w4t _ _ = wA at *
        obtain ⟨cur1, hcur⟩ : ∃ q, cur ++ [T] = q := ⟨_, rfl⟩
        rw [hcur] at HACC
        have HCcur1 := Lib.hid hcur
        clear hcur e2 g2
        have HCL := Lib.hid (show cur1 = putL T l by rw [HPN.out, ← HCcur1.out, ← HCUR.out])
        have hbX := HACC.out.below HBF.out (by omega)
        have HBX := Lib.hid hbX
        have x0 := (HACC.out.loc1 HD0.out (by omega)).c0
        have x6 := HACC.out.cell
        have HVX := Lib.hid (spec_dbok _ cur1 _ _ (tabsC.ow_rd HACC.out.ow))
        clear hbX
        go_wp2_with fail
        refine HVX.out.mono ?_
        rintro e wv ⟨rfl, hbv⟩
        replace HACC := Lib.hid (HACC.out.later hbv)
        have HBV := Lib.hid (below_then HBX.out hbv)
        clear hbv x0 x6
        have x0 := (HACC.out.loc1 HD0.out (by omega)).c0
        have x6 := HACC.out.cell
        have hy := HACC.out.loc1 HD2.out (by omega)
        have y0 := hy.c0
        have y1 := hy.f0
        have HY := Lib.hid hy
        clear hy
        cases hvx : dbOk cur1
        · have HNO := Lib.hid (show setOk l T = false by unfold setOk; rw [HVV.out, HTV.out]; have := dbOk_putL HVV.out HTV.out; rw [← HCL.out, hvx] at this; rw [← HCL.out, ← this]; rfl)
          clear y0 y1 hvx
          go_wp2_with fail
          refine (HDC.out _ HBV.out).mono ?_
          rintro e w9 ⟨u9, f9, rfl, ho9, hn9, hb9⟩
          obtain ⟨a9, c9, rfl⟩ := Cd.ow_slice (c := tabC) ho9
          have HC9 := Lib.hid (HY.out.later hb9)
          have y0 := HC9.out.c0
          have y1 := HC9.out.f0
          have HA := Lib.hid (DbAns.copy (b := setOk l T) (l' := setL l T) (Y := w.heap.size + 2) ho9 hn9 HBV.out hb9 (by omega) (World.block_lt_of_cell? _ _ HY.out.c0) (by unfold setL; rw [HNO.out]; rfl) HNO.out)
          clear ho9 hn9 hb9
          go_wp2_with fail
          have k0 : (w9.setCell ⟨w.heap.size + 2, 0, none⟩ (.slice a9 l.length c9)).cell? ⟨w.heap.size + 2, 0, none⟩ = some (.slice a9 l.length c9) := World.cell?_setCell_same _ _ _ y0
          refine bodyPost_ret (v := .tuple #[.agg #[.slice a9 l.length c9], .bool false]) (by simp [results, Tryz.results28, go_sem, k0]) rfl ?_
          exact HA.out
        · have HYES := Lib.hid (show setOk l T = true by unfold setOk; rw [HVV.out, HTV.out]; have := dbOk_putL HVV.out HTV.out; rw [← HCL.out, hvx] at this; rw [← HCL.out, ← this]; rfl)
          clear hvx
          go_wp2_with fail
          have k0 : (wv.setCell ⟨w.heap.size + 2, 0, none⟩ (.slice (some ⟨gt, 0, none⟩) cur1.length cap4t)).cell? ⟨w.heap.size + 2, 0, none⟩ = some (.slice (some ⟨gt, 0, none⟩) cur1.length cap4t) := World.cell?_setCell_same _ _ _ HY.out.c0
          refine bodyPost_ret (v := .tuple #[.agg #[.slice (some ⟨gt, 0, none⟩) cur1.length cap4t], .bool true]) (by simp [results, Tryz.results28, go_sem, k0]) rfl ?_
          exact HACC.out.ans (Y := w.heap.size + 2) HBF.out (by omega) (by omega) HD2.out.lt (by unfold setL; rw [HYES.out, HCL.out]; rfl) HYES.out
      · have HCL := Lib.hid (show cur = putL T l from hcur.symm.trans (curP_all hput))
        clear hput hcur
        go_upto_region 18 with fail
        clear x0 x1 z0 z1 z2 z3
        have hbX := HACC.out.below HBF.out (by omega)
        have HBX := Lib.hid hbX
        have x0 := (HACC.out.loc1 HD0.out (by omega)).c0
        have x6 := HACC.out.cell
        have HVX := Lib.hid (spec_dbok _ cur _ _ (tabsC.ow_rd HACC.out.ow))
        clear hbX
        go_wp2_with fail
        refine HVX.out.mono ?_
        rintro e wv ⟨rfl, hbv⟩
        replace HACC := Lib.hid (HACC.out.later hbv)
        have HBV := Lib.hid (below_then HBX.out hbv)
        clear hbv x0 x6
        have x0 := (HACC.out.loc1 HD0.out (by omega)).c0
        have x6 := HACC.out.cell
        have hy := HACC.out.loc1 HD2.out (by omega)
        have y0 := hy.c0
        have y1 := hy.f0
        have HY := Lib.hid hy
        clear hy
        cases hvx : dbOk cur
        · have HNO := Lib.hid (show setOk l T = false by unfold setOk; rw [HVV.out, HTV.out]; have := dbOk_putL HVV.out HTV.out; rw [← HCL.out, hvx] at this; rw [← HCL.out, ← this]; rfl)
          clear y0 y1 hvx
          go_wp2_with fail
          refine (HDC.out _ HBV.out).mono ?_
          rintro e w9 ⟨u9, f9, rfl, ho9, hn9, hb9⟩
          obtain ⟨a9, c9, rfl⟩ := Cd.ow_slice (c := tabC) ho9
          have HC9 := Lib.hid (HY.out.later hb9)
          have y0 := HC9.out.c0
          have y1 := HC9.out.f0
          have HA := Lib.hid (DbAns.copy (b := setOk l T) (l' := setL l T) (Y := w.heap.size + 2) ho9 hn9 HBV.out hb9 (by omega) (World.block_lt_of_cell? _ _ HY.out.c0) (by unfold setL; rw [HNO.out]; rfl) HNO.out)
          clear ho9 hn9 hb9
          go_wp2_with fail
          have k0 : (w9.setCell ⟨w.heap.size + 2, 0, none⟩ (.slice a9 l.length c9)).cell? ⟨w.heap.size + 2, 0, none⟩ = some (.slice a9 l.length c9) := World.cell?_setCell_same _ _ _ y0
          refine bodyPost_ret (v := .tuple #[.agg #[.slice a9 l.length c9], .bool false]) (by simp [results, Tryz.results28, go_sem, k0]) rfl ?_
          exact HA.out
        · have HYES := Lib.hid (show setOk l T = true by unfold setOk; rw [HVV.out, HTV.out]; have := dbOk_putL HVV.out HTV.out; rw [← HCL.out, hvx] at this; rw [← HCL.out, ← this]; rfl)
          clear hvx
          go_wp2_with fail
          have k0 : (wv.setCell ⟨w.heap.size + 2, 0, none⟩ (.slice a cur.length c)).cell? ⟨w.heap.size + 2, 0, none⟩ = some (.slice a cur.length c) := World.cell?_setCell_same _ _ _ HY.out.c0
          refine bodyPost_ret (v := .tuple #[.agg #[.slice a cur.length c], .bool true]) (by simp [results, Tryz.results28, go_sem, k0]) rfl ?_
          exact HACC.out.ans (Y := w.heap.size + 2) HBF.out (by omega) (by omega) HD2.out.lt (by unfold setL; rw [HYES.out, HCL.out]; rfl) HYES.out
end Go.Proofs.YtinchhahcheadaaGreat.DbAcc

namespace Go.Proofs.YtinchhahcheadaaGreat.UpdApp
open Go Go.RowKit Byt Ints IntsLaw Cd Rows2 Tab SlMath TabOpen TabElem SlTable Db TabSpec DbMath DbExact Upd UpdMath
open DbSpec (LookAns lk_some lk_none)
open DbAcc (DbAns)

theorem tab_rd {w : World} {S : Nat → Prop} {nm : ByteArray} {ar : Int} {u : Value} {rows : List (List Int)} (h : rowsC.rd w S [u] rows) (hs : nm.size ≤ maxLen) (ha : -9223372036854775808 ≤ ar ∧ ar ≤ 9223372036854775807) : tabC.rd w S [.string nm, .int .i64 ar, u] (nm, ar, rows) :=
  ⟨[.string nm], [.int .i64 ar, u], rfl, ⟨rfl, hs⟩, ⟨[.int .i64 ar], [u], rfl, ⟨rfl, ha⟩, h⟩⟩
theorem okT_bd {T : T3} (h : okT T = true) : T.1.size = 1 ∧ (1 ≤ T.2.1 ∧ T.2.1 ≤ 3) := by
  have htp : TabP T.1 T.2.1 T.2.2 := of_decide_eq_true h
  exact ⟨(of_decide_eq_true htp.1).1, htp.2.1, htp.2.2.1⟩
theorem chT_rd {w : World} {S : Nat → Prop} {T : T3} {b : Bool} {row : List Int} {u : Value} (h : rowsC.rd w S [u] (chR T b row)) (hk : okT T = true) : tabC.rd w S [.string T.1, .int .i64 T.2.1, u] (chT T b row) :=
  tab_rd h (by have := (okT_bd hk).1; unfold maxLen; omega) (by have := (okT_bd hk).2; omega)
theorem wt_rows {T : T3} (h : wtT T ≤ 40) : rowsWt T.2.2 ≤ 40 ∧ T.1.size ≤ 40 := by unfold wtT tabWt at h; omega
/-- The answer of a database that is stored in block Y, out of another answer. -/
theorem ans_far {w w1 w2 : World} {l : List T3} {b : Bool} {u : Value} {fp : List Nat} (ho : tabsC.ow w2 w1.heap.size [u] l fp) (hn : fp.Nodup) (hb1 : Below w.heap.size w w1) (hb : Below w1.heap.size w1 w2) {Y : Nat} (hY : w.heap.size ≤ Y) (hY1 : Y < w1.heap.size) {l' : List T3} {b' : Bool} (el : l = l') (eb : b = b') :
    DbAns l' b' w (.returned (.tuple #[.agg #[u], .bool b])) (w2.setCell ⟨Y, 0, none⟩ u) := by
  subst el eb
  exact ⟨u, fp, rfl, ow_setCell ((Cd.sl _ tabC).ow_base ho hb1.size) (fun q => by have := ((Cd.sl _ tabC).ow_lt ho _ q).1; simp only at this; omega) _, hn, (below_then hb1 hb).setCell hY _⟩
theorem ans_alloc {w w' : World} {l : List T3} {b : Bool} {e : Ending} (h : DbAns l b w e w') (o : Obj) : DbAns l b w e (w'.alloc o) := by
  obtain ⟨u, fp, h1, h2, h3, h4⟩ := h
  exact ⟨u, fp, h1, Cd.ow_later h2 (below_alloc _ _), h3, below_then h4 (below_alloc _ _)⟩

set_option maxRecDepth 100000 in
set_option maxHeartbeats 3200000 in
theorem spec_apply_true (u v : Value) (l : List T3) (nm : ByteArray) (row : List Int) (S S2 : Nat → Prop) (w : World) (h1 : tabsC.rd w S [u] l) (h2 : rowC.rd w S2 [v] row) (hw : wtS l ≤ 1048577) (hrl : row.length ≤ 1048577) :
    Calls Tryz.prog 7 #[.agg #[u], .agg #[.string nm, .bool true, v]] w fun e w' => DbAns (appL l nm true row) (appOk l nm true row) w e w' := by
  have HL := Lib.hid (fun w' (hb : Below w.heap.size w w') => DbSpec.spec_look u l nm S w' (Cd.later h1 hb) hw)
  have HDC := Lib.hid (fun w' (hb : Below w.heap.size w w') => DbSpec.spec_dbcopy u l S w' (Cd.later h1 hb) (by omega))
  have HV := Lib.hid (fun w' (hb : Below w.heap.size w w') => Cd.later h2 hb)
  have HR := Lib.hid (fun w' (hb : Below w.heap.size w w') => Cd.later h1 hb)
  have HW := Lib.hid hw
  have HRL := Lib.hid hrl
  obtain ⟨a1, cap1, rfl, hl1⟩ := Cd.sl_form h1
  obtain ⟨a2, cap2, rfl, hl2⟩ := row_form h2
  clear h1 h2 hw hrl
  have HCH := Lib.hid (fun (T : T3) (hT : rowsWt T.2.2 ≤ 40) u' S' w' (h : rowsC.rd w' S' [u'] T.2.2) (hb : Below w.heap.size w w') =>
    (show Calls Tryz.prog 26 #[.agg #[.string T.1, .int .i64 T.2.1, u'], .slice a2 row.length cap2] w' fun e w'' => ∃ u'' fp, e = .returned (.tuple #[.agg #[.string T.1, .int .i64 T.2.1, u''], .bool (chOk T true row)]) ∧ rowsC.ow w'' w'.heap.size [u''] (chR T true row) fp ∧ fp.Nodup ∧ Below w'.heap.size w' w'' from TabSpec.spec_insert T.1 T.2.1 u' (.slice a2 row.length cap2) T.2.2 row S' S2 w' h (HV.out w' hb) (by omega) (by have := HRL.out; omega)))
  go_enter Tryz.func7, Tryz.ntmps7
  go_wp2_with fail
  generalize hW : ((w.alloc _).alloc _).alloc _ = W
  obtain ⟨r0, r1, r2, hz, hb0⟩ := start3 w _ _ _ hW
  have HC0 := Lib.hid (Loc1.of r0)
  have HC1 := Lib.hid (Loc3.of r1)
  have HC2 := Lib.hid (Loc1.of r2)
  have HB0 := Lib.hid hb0
  have HZ := Lib.hid hz
  clear hW r0 r1 r2 hz hb0
  refine (HL.out _ HB0.out).mono ?_
  rintro e w1 ⟨v1, fp, rfl, ho, hn, hb1⟩
  obtain ⟨a3, c3, rfl⟩ := Cd.ow_slice ho
  have HB1 := Lib.hid (below_then HB0.out hb1)
  have HC0a := Lib.hid (HC0.out.later hb1)
  have HC1a := Lib.hid (HC1.out.later hb1)
  have HC2a := Lib.hid (HC2.out.later hb1)
  have HZ1 := Lib.hid (show w.heap.size + 3 ≤ w1.heap.size by have := hb1.size; have := HZ.out; omega)
  have HO := Lib.hid ho
  clear ho hn hb1 HC0 HC1 HC2
  cases hl : lookL l nm with
  | none =>
    have HA := Lib.hid (app_none (appT_none (b := true) (row := row) hl))
    rw [lk_none hl]
    clear HO hl
    have q0 := HC0a.out.c0
    have q1 := HC0a.out.lt
    go_wp2_with fail
    refine (HDC.out _ (below_then HB1.out (below_alloc _ _))).mono ?_
    rintro e w3 ⟨u3, f3, rfl, ho3, hn3, hb3⟩
    obtain ⟨a4, c4, rfl⟩ := Cd.ow_slice (c := tabC) ho3
    have HC3 := Lib.hid (Loc1.later (HC2a.out.later (below_alloc _ _)) hb3)
    have y0 := HC3.out.c0
    have y1 := HC3.out.f0
    have HX := Lib.hid (ans_far ho3 hn3 (below_then HB1.out (below_alloc _ _)) hb3 (Y := w.heap.size + 2) (by omega) (by rw [size_alloc]; have := HZ1.out; omega) HA.out.1.symm HA.out.2.symm)
    clear ho3 hn3 hb3 q0 q1
    go_wp2_with fail
    have k0 : (w3.setCell ⟨w.heap.size + 2, 0, none⟩ (.slice a4 l.length c4)).cell? ⟨w.heap.size + 2, 0, none⟩ = some (.slice a4 l.length c4) := World.cell?_setCell_same _ _ _ y0
    refine bodyPost_ret (v := .tuple #[.agg #[.slice a4 l.length c4], .bool false]) (by simp [results, Tryz.results7, go_sem, k0]) rfl ?_
    exact HX.out
  | some T =>
    obtain ⟨hdb, hmem, hnmT, hok⟩ := look_ok hl
    have hw40 := wt_rows (wt_ok hok)
    have HOK := Lib.hid hok
    have HW40 := Lib.hid hw40
    have HLK := Lib.hid hl
    rw [lk_some hl] at HO ⊢
    clear hdb hmem hnmT hok hw40 hl
    go_upto_region 6 with fail
    generalize hW2 : (w1.alloc _).alloc _ = W2
    obtain ⟨s0, s1, sz, sb⟩ := start2g w1 _ _ hW2
    have HT6 := Lib.hid (Loc3.of s0)
    have HC1b := Lib.hid (HC1a.out.later sb)
    have HT8 := Lib.hid (Loc3.of s1)
    have HB2 := Lib.hid (below_then HB1.out sb)
    have HC0b := Lib.hid (HC0a.out.later sb)
    have HC2b := Lib.hid (HC2a.out.later sb)
    have HO2 := Lib.hid (Cd.ow_later HO.out sb)
    have HZ2 := Lib.hid sz
    clear hW2 s0 s1 sz sb
    have q0 := HC1b.out.c0
    have q1 := HC1b.out.c1
    have q2 := HC1b.out.c2
    obtain ⟨q3, q4, q5, _, _, _⟩ := HT6.out
    go_wp2_with fail
    clear q0 q1 q2 q3 q4 q5
    refine (HCH.out T HW40.out.1 _ _ W2 (rowsC.ow_rd HO2.out) HB2.out).mono ?_
    rintro e w3 ⟨u3, f3, rfl, ho3, hn3, hb3⟩
    obtain ⟨a5, c5, rfl⟩ := Cd.ow_slice ho3
    have HB3 := Lib.hid (below_then HB2.out hb3)
    have HC0c := Lib.hid (HC0b.out.later hb3)
    have HC2c := Lib.hid (HC2b.out.later hb3)
    have HT8c := Lib.hid (HT8.out.later hb3)
    have HO3 := Lib.hid ho3
    have HZ3 := Lib.hid (show w1.heap.size + 2 ≤ w3.heap.size by have := hb3.size; have := HZ2.out; omega)
    clear ho3 hn3 hb3
    obtain ⟨x0, x1, x2, g0, g1, g2⟩ := HT8c.out
    have q0 := HC0c.out.c0
    have n1 : ¬ (w.heap.size = w1.heap.size + 1) := by have := HZ1.out; omega
    have n2 : ¬ (w1.heap.size + 1 = w.heap.size) := by have := HZ1.out; omega
    have HBS := Lib.hid (show Below w.heap.size w (((w3.setCell ⟨w1.heap.size + 1, 0, none⟩ (.string T.1)).setCell ⟨w1.heap.size + 1, 1, none⟩ (.int .i64 T.2.1)).setCell ⟨w1.heap.size + 1, 2, none⟩ (.slice a5 (chR T true row).length c5)) from
      ((HB3.out.setCell (by show _ ≤ w1.heap.size + 1; have := HZ1.out; omega) _).setCell (by show _ ≤ w1.heap.size + 1; have := HZ1.out; omega) _).setCell (by show _ ≤ w1.heap.size + 1; have := HZ1.out; omega) _)
    have HC2d := Lib.hid (show Loc1 (((w3.setCell ⟨w1.heap.size + 1, 0, none⟩ (.string T.1)).setCell ⟨w1.heap.size + 1, 1, none⟩ (.int .i64 T.2.1)).setCell ⟨w1.heap.size + 1, 2, none⟩ (.slice a5 (chR T true row).length c5)) (w.heap.size + 2) (.slice none 0 0) from
      ((HC2c.out.set_far (by show w1.heap.size + 1 ≠ _; have := HZ1.out; omega) _).set_far (by show w1.heap.size + 1 ≠ _; have := HZ1.out; omega) _).set_far (by show w1.heap.size + 1 ≠ _; have := HZ1.out; omega) _)
    have HSS := Lib.hid (show w.heap.size + 2 < (((w3.setCell ⟨w1.heap.size + 1, 0, none⟩ (.string T.1)).setCell ⟨w1.heap.size + 1, 1, none⟩ (.int .i64 T.2.1)).setCell ⟨w1.heap.size + 1, 2, none⟩ (.slice a5 (chR T true row).length c5)).heap.size by have := HZ1.out; have := HZ3.out; simp; omega)
    have HO4 := Lib.hid (show rowsC.ow (((w3.setCell ⟨w1.heap.size + 1, 0, none⟩ (.string T.1)).setCell ⟨w1.heap.size + 1, 1, none⟩ (.int .i64 T.2.1)).setCell ⟨w1.heap.size + 1, 2, none⟩ (.slice a5 (chR T true row).length c5)) W2.heap.size [.slice a5 (chR T true row).length c5] (chR T true row) f3 from by
      have hn : w1.heap.size + 1 ∉ f3 := fun q => by have := (rowsC.ow_lt HO3.out _ q).1; have := HZ2.out; omega
      exact ow_setCell (ow_setCell (ow_setCell HO3.out hn _) hn _) hn _)
    obtain ⟨z0, z1, z2⟩ := set3 (x := .string T.1) (y := .int .i64 T.2.1) (z := .slice a5 (chR T true row).length c5) x0 x1 x2
    cases hk : chOk T true row
    · have HA := Lib.hid (app_none (appT_no (b := true) (row := row) HLK.out hk))
      clear hk z0 z1 z2
      go_wp2_with fail
      refine (HDC.out _ HBS.out).mono ?_
      rintro e w6 ⟨u6, f6, rfl, ho6, hn6, hb6⟩
      obtain ⟨a6, c6, rfl⟩ := Cd.ow_slice (c := tabC) ho6
      have HC6 := Lib.hid (HC2d.out.later hb6)
      have y0 := HC6.out.c0
      have y1 := HC6.out.f0
      have HX := Lib.hid (ans_far ho6 hn6 HBS.out hb6 (Y := w.heap.size + 2) (by omega) HSS.out HA.out.1.symm HA.out.2.symm)
      clear ho6 hn6 hb6 x0 x1 x2 g0 g1 g2 q0
      go_wp2_with fail
      have k0 : (w6.setCell ⟨w.heap.size + 2, 0, none⟩ (.slice a6 l.length c6)).cell? ⟨w.heap.size + 2, 0, none⟩ = some (.slice a6 l.length c6) := World.cell?_setCell_same _ _ _ y0
      refine bodyPost_ret (v := .tuple #[.agg #[.slice a6 l.length c6], .bool false]) (by simp [results, Tryz.results7, go_sem, k0]) rfl ?_
      exact HX.out
    · have HA := Lib.hid (app_some (appT_yes (b := true) (row := row) HLK.out hk))
      have HWC := Lib.hid (wt_ok (ok_ch HOK.out hk))
      clear hk
      go_wp2_with fail
      refine (DbAcc.spec_set _ l (chT T true row) a5 c5 S _ _ (HR.out _ HBS.out) (chT_rd (rowsC.ow_rd HO4.out) HOK.out) HW.out (by have := HWC.out; omega)).mono ?_
      rintro e w6 ⟨u6, f6, rfl, ho6, hn6, hb6⟩
      obtain ⟨a6, c6, rfl⟩ := Cd.ow_slice (c := tabC) ho6
      have HC6 := Lib.hid (HC2d.out.later hb6)
      have y0 := HC6.out.c0
      have y1 := HC6.out.f0
      have HX := Lib.hid (ans_far ho6 hn6 HBS.out hb6 (Y := w.heap.size + 2) (by omega) HSS.out HA.out.1.symm HA.out.2.symm)
      have m0 := cell_alloc_some (World.cell?_setCell_same _ _ (.slice a6 (setL l (chT T true row)).length c6) y0) (.cells #[.slice a6 (setL l (chT T true row)).length c6] 26 (0, 0))
      have M0 := Lib.hid m0
      have y2 := HC6.out.lt
      clear ho6 hn6 hb6 x0 x1 x2 g0 g1 g2 q0 z0 z1 z2 m0
      go_wp2_with fail
      have k0 := M0.out
      refine bodyPost_ret (v := .tuple #[.agg #[.slice a6 (setL l (chT T true row)).length c6], .bool (setOk l (chT T true row))]) (by simp [results, Tryz.results7, go_sem, k0]) rfl ?_
      exact ans_alloc HX.out _
set_option maxRecDepth 100000 in
set_option maxHeartbeats 3200000 in
theorem spec_apply_false (u v : Value) (l : List T3) (nm : ByteArray) (row : List Int) (S S2 : Nat → Prop) (w : World) (h1 : tabsC.rd w S [u] l) (h2 : rowC.rd w S2 [v] row) (hw : wtS l ≤ 1048577) (hrl : row.length ≤ 1048577) :
    Calls Tryz.prog 7 #[.agg #[u], .agg #[.string nm, .bool false, v]] w fun e w' => DbAns (appL l nm false row) (appOk l nm false row) w e w' := by
  have HL := Lib.hid (fun w' (hb : Below w.heap.size w w') => DbSpec.spec_look u l nm S w' (Cd.later h1 hb) hw)
  have HDC := Lib.hid (fun w' (hb : Below w.heap.size w w') => DbSpec.spec_dbcopy u l S w' (Cd.later h1 hb) (by omega))
  have HV := Lib.hid (fun w' (hb : Below w.heap.size w w') => Cd.later h2 hb)
  have HR := Lib.hid (fun w' (hb : Below w.heap.size w w') => Cd.later h1 hb)
  have HW := Lib.hid hw
  have HRL := Lib.hid hrl
  obtain ⟨a1, cap1, rfl, hl1⟩ := Cd.sl_form h1
  obtain ⟨a2, cap2, rfl, hl2⟩ := row_form h2
  clear h1 h2 hw hrl
  have HCH := Lib.hid (fun (T : T3) (hT : rowsWt T.2.2 ≤ 40) u' S' w' (h : rowsC.rd w' S' [u'] T.2.2) (hb : Below w.heap.size w w') =>
    (show Calls Tryz.prog 27 #[.agg #[.string T.1, .int .i64 T.2.1, u'], .slice a2 row.length cap2] w' fun e w'' => ∃ u'' fp, e = .returned (.tuple #[.agg #[.string T.1, .int .i64 T.2.1, u''], .bool (chOk T false row)]) ∧ rowsC.ow w'' w'.heap.size [u''] (chR T false row) fp ∧ fp.Nodup ∧ Below w'.heap.size w' w'' from TabSpec.spec_delete T.1 T.2.1 u' (.slice a2 row.length cap2) T.2.2 row S' S2 w' h (HV.out w' hb) (by omega)))
  go_enter Tryz.func7, Tryz.ntmps7
  go_wp2_with fail
  generalize hW : ((w.alloc _).alloc _).alloc _ = W
  obtain ⟨r0, r1, r2, hz, hb0⟩ := start3 w _ _ _ hW
  have HC0 := Lib.hid (Loc1.of r0)
  have HC1 := Lib.hid (Loc3.of r1)
  have HC2 := Lib.hid (Loc1.of r2)
  have HB0 := Lib.hid hb0
  have HZ := Lib.hid hz
  clear hW r0 r1 r2 hz hb0
  refine (HL.out _ HB0.out).mono ?_
  rintro e w1 ⟨v1, fp, rfl, ho, hn, hb1⟩
  obtain ⟨a3, c3, rfl⟩ := Cd.ow_slice ho
  have HB1 := Lib.hid (below_then HB0.out hb1)
  have HC0a := Lib.hid (HC0.out.later hb1)
  have HC1a := Lib.hid (HC1.out.later hb1)
  have HC2a := Lib.hid (HC2.out.later hb1)
  have HZ1 := Lib.hid (show w.heap.size + 3 ≤ w1.heap.size by have := hb1.size; have := HZ.out; omega)
  have HO := Lib.hid ho
  clear ho hn hb1 HC0 HC1 HC2
  cases hl : lookL l nm with
  | none =>
    have HA := Lib.hid (app_none (appT_none (b := false) (row := row) hl))
    rw [lk_none hl]
    clear HO hl
    have q0 := HC0a.out.c0
    have q1 := HC0a.out.lt
    go_wp2_with fail
    refine (HDC.out _ (below_then HB1.out (below_alloc _ _))).mono ?_
    rintro e w3 ⟨u3, f3, rfl, ho3, hn3, hb3⟩
    obtain ⟨a4, c4, rfl⟩ := Cd.ow_slice (c := tabC) ho3
    have HC3 := Lib.hid (Loc1.later (HC2a.out.later (below_alloc _ _)) hb3)
    have y0 := HC3.out.c0
    have y1 := HC3.out.f0
    have HX := Lib.hid (ans_far ho3 hn3 (below_then HB1.out (below_alloc _ _)) hb3 (Y := w.heap.size + 2) (by omega) (by rw [size_alloc]; have := HZ1.out; omega) HA.out.1.symm HA.out.2.symm)
    clear ho3 hn3 hb3 q0 q1
    go_wp2_with fail
    have k0 : (w3.setCell ⟨w.heap.size + 2, 0, none⟩ (.slice a4 l.length c4)).cell? ⟨w.heap.size + 2, 0, none⟩ = some (.slice a4 l.length c4) := World.cell?_setCell_same _ _ _ y0
    refine bodyPost_ret (v := .tuple #[.agg #[.slice a4 l.length c4], .bool false]) (by simp [results, Tryz.results7, go_sem, k0]) rfl ?_
    exact HX.out
  | some T =>
    obtain ⟨hdb, hmem, hnmT, hok⟩ := look_ok hl
    have hw40 := wt_rows (wt_ok hok)
    have HOK := Lib.hid hok
    have HW40 := Lib.hid hw40
    have HLK := Lib.hid hl
    rw [lk_some hl] at HO ⊢
    clear hdb hmem hnmT hok hw40 hl
    go_upto_region 6 with fail
    generalize hW2 : (w1.alloc _).alloc _ = W2
    obtain ⟨s0, s1, sz, sb⟩ := start2g w1 _ _ hW2
    have HT6 := Lib.hid (Loc3.of s0)
    have HC1b := Lib.hid (HC1a.out.later sb)
    have HT8 := Lib.hid (Loc3.of s1)
    have HB2 := Lib.hid (below_then HB1.out sb)
    have HC0b := Lib.hid (HC0a.out.later sb)
    have HC2b := Lib.hid (HC2a.out.later sb)
    have HO2 := Lib.hid (Cd.ow_later HO.out sb)
    have HZ2 := Lib.hid sz
    clear hW2 s0 s1 sz sb
    have q0 := HC1b.out.c0
    have q1 := HC1b.out.c1
    have q2 := HC1b.out.c2
    obtain ⟨q3, q4, q5, _, _, _⟩ := HT6.out
    go_wp2_with fail
    clear q0 q1 q2 q3 q4 q5
    refine (HCH.out T HW40.out.1 _ _ W2 (rowsC.ow_rd HO2.out) HB2.out).mono ?_
    rintro e w3 ⟨u3, f3, rfl, ho3, hn3, hb3⟩
    obtain ⟨a5, c5, rfl⟩ := Cd.ow_slice ho3
    have HB3 := Lib.hid (below_then HB2.out hb3)
    have HC0c := Lib.hid (HC0b.out.later hb3)
    have HC2c := Lib.hid (HC2b.out.later hb3)
    have HT8c := Lib.hid (HT8.out.later hb3)
    have HO3 := Lib.hid ho3
    have HZ3 := Lib.hid (show w1.heap.size + 2 ≤ w3.heap.size by have := hb3.size; have := HZ2.out; omega)
    clear ho3 hn3 hb3
    obtain ⟨x0, x1, x2, g0, g1, g2⟩ := HT8c.out
    have q0 := HC0c.out.c0
    have n1 : ¬ (w.heap.size = w1.heap.size + 1) := by have := HZ1.out; omega
    have n2 : ¬ (w1.heap.size + 1 = w.heap.size) := by have := HZ1.out; omega
    have HBS := Lib.hid (show Below w.heap.size w (((w3.setCell ⟨w1.heap.size + 1, 0, none⟩ (.string T.1)).setCell ⟨w1.heap.size + 1, 1, none⟩ (.int .i64 T.2.1)).setCell ⟨w1.heap.size + 1, 2, none⟩ (.slice a5 (chR T false row).length c5)) from
      ((HB3.out.setCell (by show _ ≤ w1.heap.size + 1; have := HZ1.out; omega) _).setCell (by show _ ≤ w1.heap.size + 1; have := HZ1.out; omega) _).setCell (by show _ ≤ w1.heap.size + 1; have := HZ1.out; omega) _)
    have HC2d := Lib.hid (show Loc1 (((w3.setCell ⟨w1.heap.size + 1, 0, none⟩ (.string T.1)).setCell ⟨w1.heap.size + 1, 1, none⟩ (.int .i64 T.2.1)).setCell ⟨w1.heap.size + 1, 2, none⟩ (.slice a5 (chR T false row).length c5)) (w.heap.size + 2) (.slice none 0 0) from
      ((HC2c.out.set_far (by show w1.heap.size + 1 ≠ _; have := HZ1.out; omega) _).set_far (by show w1.heap.size + 1 ≠ _; have := HZ1.out; omega) _).set_far (by show w1.heap.size + 1 ≠ _; have := HZ1.out; omega) _)
    have HSS := Lib.hid (show w.heap.size + 2 < (((w3.setCell ⟨w1.heap.size + 1, 0, none⟩ (.string T.1)).setCell ⟨w1.heap.size + 1, 1, none⟩ (.int .i64 T.2.1)).setCell ⟨w1.heap.size + 1, 2, none⟩ (.slice a5 (chR T false row).length c5)).heap.size by have := HZ1.out; have := HZ3.out; simp; omega)
    have HO4 := Lib.hid (show rowsC.ow (((w3.setCell ⟨w1.heap.size + 1, 0, none⟩ (.string T.1)).setCell ⟨w1.heap.size + 1, 1, none⟩ (.int .i64 T.2.1)).setCell ⟨w1.heap.size + 1, 2, none⟩ (.slice a5 (chR T false row).length c5)) W2.heap.size [.slice a5 (chR T false row).length c5] (chR T false row) f3 from by
      have hn : w1.heap.size + 1 ∉ f3 := fun q => by have := (rowsC.ow_lt HO3.out _ q).1; have := HZ2.out; omega
      exact ow_setCell (ow_setCell (ow_setCell HO3.out hn _) hn _) hn _)
    obtain ⟨z0, z1, z2⟩ := set3 (x := .string T.1) (y := .int .i64 T.2.1) (z := .slice a5 (chR T false row).length c5) x0 x1 x2
    cases hk : chOk T false row
    · have HA := Lib.hid (app_none (appT_no (b := false) (row := row) HLK.out hk))
      clear hk z0 z1 z2
      go_wp2_with fail
      refine (HDC.out _ HBS.out).mono ?_
      rintro e w6 ⟨u6, f6, rfl, ho6, hn6, hb6⟩
      obtain ⟨a6, c6, rfl⟩ := Cd.ow_slice (c := tabC) ho6
      have HC6 := Lib.hid (HC2d.out.later hb6)
      have y0 := HC6.out.c0
      have y1 := HC6.out.f0
      have HX := Lib.hid (ans_far ho6 hn6 HBS.out hb6 (Y := w.heap.size + 2) (by omega) HSS.out HA.out.1.symm HA.out.2.symm)
      clear ho6 hn6 hb6 x0 x1 x2 g0 g1 g2 q0
      go_wp2_with fail
      have k0 : (w6.setCell ⟨w.heap.size + 2, 0, none⟩ (.slice a6 l.length c6)).cell? ⟨w.heap.size + 2, 0, none⟩ = some (.slice a6 l.length c6) := World.cell?_setCell_same _ _ _ y0
      refine bodyPost_ret (v := .tuple #[.agg #[.slice a6 l.length c6], .bool false]) (by simp [results, Tryz.results7, go_sem, k0]) rfl ?_
      exact HX.out
    · have HA := Lib.hid (app_some (appT_yes (b := false) (row := row) HLK.out hk))
      have HWC := Lib.hid (wt_ok (ok_ch HOK.out hk))
      clear hk
      go_wp2_with fail
      refine (DbAcc.spec_set _ l (chT T false row) a5 c5 S _ _ (HR.out _ HBS.out) (chT_rd (rowsC.ow_rd HO4.out) HOK.out) HW.out (by have := HWC.out; omega)).mono ?_
      rintro e w6 ⟨u6, f6, rfl, ho6, hn6, hb6⟩
      obtain ⟨a6, c6, rfl⟩ := Cd.ow_slice (c := tabC) ho6
      have HC6 := Lib.hid (HC2d.out.later hb6)
      have y0 := HC6.out.c0
      have y1 := HC6.out.f0
      have HX := Lib.hid (ans_far ho6 hn6 HBS.out hb6 (Y := w.heap.size + 2) (by omega) HSS.out HA.out.1.symm HA.out.2.symm)
      have m0 := cell_alloc_some (World.cell?_setCell_same _ _ (.slice a6 (setL l (chT T false row)).length c6) y0) (.cells #[.slice a6 (setL l (chT T false row)).length c6] 26 (0, 0))
      have M0 := Lib.hid m0
      have y2 := HC6.out.lt
      clear ho6 hn6 hb6 x0 x1 x2 g0 g1 g2 q0 z0 z1 z2 m0
      go_wp2_with fail
      have k0 := M0.out
      refine bodyPost_ret (v := .tuple #[.agg #[.slice a6 (setL l (chT T false row)).length c6], .bool (setOk l (chT T false row))]) (by simp [results, Tryz.results7, go_sem, k0]) rfl ?_
      exact ans_alloc HX.out _
theorem spec_apply (u v : Value) (l : List T3) (nm : ByteArray) (b : Bool) (row : List Int) (S S2 : Nat → Prop) (w : World) (h1 : tabsC.rd w S [u] l) (h2 : rowC.rd w S2 [v] row) (hw : wtS l ≤ 1048577) (hrl : row.length ≤ 1048577) :
    Calls Tryz.prog 7 #[.agg #[u], .agg #[.string nm, .bool b, v]] w fun e w' => DbAns (appL l nm b row) (appOk l nm b row) w e w' := by
  cases b
  · exact spec_apply_false u v l nm row S S2 w h1 h2 hw hrl
  · exact spec_apply_true u v l nm row S S2 w h1 h2 hw hrl
end Go.Proofs.YtinchhahcheadaaGreat.UpdApp
