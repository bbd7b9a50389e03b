/- How the laws draw databases: any database: the state of the drawing. -/
import Derived.Test.YtmifnbplkaonaaaGreatDbDraw2
import Derived.Test.YtmifnbplkaonaaaGreatCdN2
namespace Go.Proofs.YtmifnbplkaonaaaGreat.DbDraw
open Go Go.RowKit Byt Ints IntsLaw IntsWalk Draw LocDraw Cd Rows2 Tab TabDraw SlMath TabOpen TabElem SlTable Db TabSpec DbMath DbSpec DbExact DbAcc

/-- What reads new blocks alone is read later too. -/
theorem rd_grown {α : Type} {cd : Cd α} {w w' : World} {base c : Nat} {us : List Value} {a : α} (h : cd.rd w (fun b => base ≤ b ∧ b < w.heap.size) us a) (hg : w.grownBy w' (some c)) (hc : c < base) : cd.rd w' (fun b => base ≤ b ∧ b < w'.heap.size) us a :=
  cd.mono (cd.keep h fun b hb hlt => hg.block b hlt (by intro q; injection q with q; omega)) fun _ _ hb => ⟨hb.1, Nat.lt_of_lt_of_le hb.2 hg.size⟩
theorem rd_new {α : Type} {cd : Cd α} {w : World} {base base' : Nat} {us : List Value} {a : α} {fp : List Nat} (h : cd.ow w base us a fp) (hb : base' ≤ base) : cd.rd w (fun b => base' ≤ b ∧ b < w.heap.size) us a :=
  cd.mono (cd.ow_rd h) fun _ _ hq => ⟨Nat.le_trans hb (cd.ow_lt h _ hq).1, (cd.ow_lt h _ hq).2⟩
theorem rd_base {α : Type} {cd : Cd α} {w : World} {base base' : Nat} {us : List Value} {a : α} (h : cd.rd w (fun b => base ≤ b ∧ b < w.heap.size) us a) (hb : base' ≤ base) : cd.rd w (fun b => base' ≤ b ∧ b < w.heap.size) us a :=
  cd.mono h fun _ _ hq => ⟨Nat.le_trans hb hq.1, hq.2⟩
/-- A store outside. -/
theorem rd_set {α : Type} {cd : Cd α} {w : World} {S : Nat → Prop} {us : List Value} {a : α} (h : cd.rd w S us a) {p : Addr} (hp : ¬ S p.block) (v : Value) : cd.rd (w.setCell p v) S us a :=
  cd.keep h fun _ hb _ => Below.heap_setCell w p v _ fun q => hp (q ▸ hb)

/-- A drawn database that may be none. -/
def AnyDb (w : World) (c : Nat) (v : Value) (l : List UInt8) (e : Ending) (w' : World) : Prop :=
  ∃ (u : Value) (Ts : List T3), e = .returned (.agg #[u]) ∧ tabsC.rd w' (fun b => w.heap.size < b ∧ b < w'.heap.size) [u] Ts ∧ Ts.length ≤ 7 ∧ (∀ T ∈ Ts, OkD T) ∧ Cur w' c v l ∧ w.grownBy w' (some c)
/-- In the drawing: the result's cell, the local one in block X, the cursor. -/
structure DaS (w : World) (c : Nat) (v : Value) (l : List UInt8) (X : Nat) (cur : List T3) (a : Option Addr) (k : Nat) (fp : List Nat) (W : World) : Prop where
  lx : Loc1 W X (.slice a cur.length k)
  lr : Loc1 W w.heap.size (.slice none 0 0)
  ow : tabsC.ow W (w.heap.size + 1) [.slice a cur.length k] cur fp
  nd : fp.Nodup
  ok : ∀ T ∈ cur, OkD T
  xf : X ∉ fp
  xb : w.heap.size < X
  cb : c < w.heap.size
  cu : Cur W c v l
  gr : w.grownBy W (some c)
theorem DaS.grown {w : World} {c : Nat} {v : Value} {l : List UInt8} {X : Nat} {cur : List T3} {a : Option Addr} {k : Nat} {fp : List Nat} {W W' : World} (h : DaS w c v l X cur a k fp W) (hg : W.grownBy W' (some c)) (hc : Cur W' c v l) : DaS w c v l X cur a k fp W' :=
  have h1 := h.cb
  have h2 := h.xb
  ⟨loc1_grown h.lx hg (by omega), loc1_grown h.lr hg (by omega), ow_grown h.ow hg (by omega), h.nd, h.ok, h.xf, h.xb, h.cb, hc, grown_trans h.gr hg⟩
theorem DaS.alloc {w : World} {c : Nat} {v : Value} {l : List UInt8} {X : Nat} {cur : List T3} {a : Option Addr} {k : Nat} {fp : List Nat} {W : World} (h : DaS w c v l X cur a k fp W) (o : Obj) : DaS w c v l X cur a k fp (W.alloc o) :=
  h.grown (World.grownBy_alloc W o (some c)) (cur_allocI o h.cu)
theorem DaS.drew {w : World} {c : Nat} {v : Value} {l : List UInt8} {X : Nat} {cur : List T3} {a : Option Addr} {k : Nat} {fp : List Nat} {W : World} (h : DaS w c v l X cur a k fp W) : DaS w c v l X cur a k fp W.drew :=
  ⟨h.lx.drew, h.lr.drew, tabsC.ow_keep h.ow fun _ _ => rfl, h.nd, h.ok, h.xf, h.xb, h.cb, h.cu, ⟨h.gr.os, h.gr.tape, h.gr.output, h.gr.size, h.gr.block⟩⟩
theorem DaS.sz {w : World} {c : Nat} {v : Value} {l : List UInt8} {X : Nat} {cur : List T3} {a : Option Addr} {k : Nat} {fp : List Nat} {W : World} (h : DaS w c v l X cur a k fp W) : X < W.heap.size := h.lx.lt
/-- The result is stored. -/
theorem DaS.done {w : World} {c : Nat} {v : Value} {l : List UInt8} {X : Nat} {cur : List T3} {a : Option Addr} {k : Nat} {fp : List Nat} {W : World} (h : DaS w c v l X cur a k fp W) (hl : cur.length ≤ 7) :
    AnyDb w c v l (.returned (.agg #[.slice a cur.length k])) (W.setCell ⟨w.heap.size, 0, none⟩ (.slice a cur.length k)) := by
  have h1 := h.cb
  have hr := rd_new h.ow (Nat.le_refl _)
  refine ⟨_, cur, rfl, ?_, hl, h.ok, cur_farI _ h.cu (by show c ≠ w.heap.size; omega), grown_newI _ h.gr (Nat.le_refl _)⟩
  have := rd_set (p := ⟨w.heap.size, 0, none⟩) hr (by show ¬ (w.heap.size + 1 ≤ w.heap.size ∧ _); omega) (.slice a cur.length k)
  exact tabsC.mono this fun b _ hb => ⟨by omega, by simpa using hb.2⟩
/-- The result is the list from place j on. -/
theorem DaS.doneCut {w : World} {c : Nat} {v : Value} {l : List UInt8} {X : Nat} {cur : List T3} {g : Nat} {k : Nat} {fp : List Nat} {W : World} (h : DaS w c v l X cur (some ⟨g, 0, none⟩) k fp W) (hl : cur.length ≤ 7) {j : Nat} (hj : j < cur.length) (k' : Nat) (x : Value) :
    AnyDb w c v l (.returned (.agg #[.slice (some ⟨g, j * 3, none⟩) (cur.length - j) k'])) ((W.setCell ⟨X, 0, none⟩ x).setCell ⟨w.heap.size, 0, none⟩ (.slice (some ⟨g, j * 3, none⟩) (cur.length - j) k')) := by
  have h1 := h.cb
  have h2 := h.xb
  have ho := ow_setCell (p := ⟨X, 0, none⟩) h.ow h.xf x
  have hr : tabsC.rd (W.setCell ⟨X, 0, none⟩ x) (fun b => w.heap.size + 1 ≤ b ∧ b < (W.setCell ⟨X, 0, none⟩ x).heap.size) [.slice (some ⟨g, 0 + j * tabC.n, none⟩) (cur.length - j) k'] (cur.drop j) := Cd.rd_drop (rd_new ho (Nat.le_refl _)) hj
  rw [show (0 + j * tabC.n) = j * 3 from by show 0 + j * 3 = j * 3; omega] at hr
  refine ⟨_, cur.drop j, rfl, ?_, by rw [List.length_drop]; omega, fun T hT => h.ok T (List.mem_of_mem_drop hT), cur_farI _ (cur_farI _ h.cu (by show c ≠ X; omega)) (by show c ≠ w.heap.size; omega), grown_newI _ (grown_newI _ h.gr (by show _ ≤ X; omega)) (Nat.le_refl _)⟩
  have := rd_set (p := ⟨w.heap.size, 0, none⟩) hr (by show ¬ (w.heap.size + 1 ≤ w.heap.size ∧ _); omega) (.slice (some ⟨g, j * 3, none⟩) (cur.length - j) k')
  exact tabsC.mono this fun b _ hb => ⟨by omega, by simpa using hb.2⟩
/-- A drawn table of its own cells, to be appended. -/
structure LaidA (base X : Nat) (W3 : World) (b : Nat) (us : List Value) (T : T3) (f fp : List Nat) : Prop where
  at_ : Cd.At W3 b 0 us
  ow : tabC.ow W3 base us T f
  nd : f.Nodup
  far : ∀ b ∈ f, b ∉ fp
  xf : X ∉ f
  sz : base ≤ W3.heap.size
  ok : OkD T
theorem DaS.laid {w : World} {c : Nat} {v : Value} {l : List UInt8} {X : Nat} {cur : List T3} {a : Option Addr} {k : Nat} {fp : List Nat} {W W2 : World} (h : DaS w c v l X cur a k fp W) (hg : W.grownBy W2 (some c)) (hc : Cur W2 c v l)
    {nm : ByteArray} {ar : Int} {y : Value} {rows : List (List Int)} {f : List Nat} (ho : rowsC.ow W2 W.heap.size [y] rows f) (hn : f.Nodup) (hok : OkD (nm, ar, rows)) (e : TypeId) :
    DaS w c v l X cur a k fp ((W2.alloc (.cells #[.string nm, .int .i64 ar, y] e (0, 0))).alloc (.cells #[.string nm, .int .i64 ar, y] e (0, 0))) ∧
    LaidA (w.heap.size + 1) X ((W2.alloc (.cells #[.string nm, .int .i64 ar, y] e (0, 0))).alloc (.cells #[.string nm, .int .i64 ar, y] e (0, 0))) (W2.heap.size + 1) [.string nm, .int .i64 ar, y] (nm, ar, rows) f fp := by
  have hbA := Tab.below_then (below_alloc W2 (.cells #[.string nm, .int .i64 ar, y] e (0, 0))) (below_alloc (W2.alloc (.cells #[.string nm, .int .i64 ar, y] e (0, 0))) (.cells #[.string nm, .int .i64 ar, y] e (0, 0)))
  have hA := ((h.grown hg hc).alloc (.cells #[.string nm, .int .i64 ar, y] e (0, 0))).alloc (.cells #[.string nm, .int .i64 ar, y] e (0, 0))
  have hX := h.sz
  have hxb := h.xb
  obtain ⟨k1, k2, k3⟩ := hok
  simp only at k1 k2 k3
  refine ⟨hA, ?_, tabC.ow_base (Cd.ow_later (tab_ow ho (by unfold maxLen; omega) (by omega)) hbA) (by omega), hn, fun b hb q => ?_, fun q => ?_, by have := hA.sz; omega, ⟨k1, k2, k3⟩⟩
  · exact at3 (by have := row_alloc (W2.alloc (.cells #[.string nm, .int .i64 ar, y] e (0, 0))) (.cells #[.string nm, .int .i64 ar, y] e (0, 0)); rw [size_alloc] at this; exact this)
  · have h1 := (rowsC.ow_lt ho b hb).1
    have h2 := ((Cd.sl _ tabC).ow_lt h.ow b q).2
    omega
  · have h1 := (rowsC.ow_lt ho _ q).1
    omega
theorem DaS.fcell {w : World} {c : Nat} {v : Value} {l : List UInt8} {X : Nat} {cur : List T3} {a : Option Addr} {k : Nat} {fp : List Nat} {W W4 : World} (h : DaS w c v l X cur a k fp W) (ht : Cd.Touch fp W W4) : W4.cell? ⟨X, 0, none⟩ = some (.slice a cur.length k) ∧ W4.frozen? ⟨X, 0, none⟩ = false :=
  ⟨(h.lx.touched ht h.xf).c0, (h.lx.touched ht h.xf).f0⟩
theorem DaS.app {w : World} {c : Nat} {v : Value} {l : List UInt8} {X : Nat} {cur cur' : List T3} {a : Option Addr} {k : Nat} {fp : List Nat} {W3 W4 : World} (h : DaS w c v l X cur a k fp W3) (hok : ∀ T ∈ cur', OkD T) {g cap n : Nat} (hn' : n = cur'.length) {fp4 : List Nat} (ht : Cd.Touch fp W3 W4)
    (ho : tabsC.ow W4 (w.heap.size + 1) [.slice (some ⟨g, 0, none⟩) n cap] cur' fp4) (hn : fp4.Nodup) (hx4 : X ∉ fp4) :
    DaS w c v l X cur' (some ⟨g, 0, none⟩) cap fp4 (W4.setCell ⟨X, 0, none⟩ (.slice (some ⟨g, 0, none⟩) n cap)) := by
  subst hn'
  have h1 := h.cb
  have h2 := h.xb
  have hfp : ∀ b, b < w.heap.size + 1 → b ∉ fp := fun b hb q => by have := ((Cd.sl _ tabC).ow_lt h.ow _ q).1; omega
  refine ⟨(h.lx.touched ht h.xf).set _, (h.lr.touched ht (hfp _ (by omega))).set_far (by show X ≠ _; omega) _, ow_setCell ho hx4 _, hn, hok, hx4, h2, h1, ?_, ?_⟩
  · obtain ⟨i, x, hi, hh⟩ := h.cu
    exact cur_farI _ ⟨i, x, hi, ht.row hh (hfp _ (by omega))⟩ (by show c ≠ X; omega)
  · refine grown_newI _ ?_ (by show _ ≤ X; omega)
    exact ⟨ht.os.trans h.gr.os, ht.tape.trans h.gr.tape, ht.output.trans h.gr.output, Nat.le_trans h.gr.size ht.size, fun j hj hne => (ht.block j (by have := h.gr.size; omega) (hfp _ (by omega))).trans (h.gr.block j hj hne)⟩
/-- A table is put at place t. -/
theorem DaS.put {w : World} {c : Nat} {v : Value} {l : List UInt8} {X : Nat} {cur : List T3} {g : Nat} {k : Nat} {fp : List Nat} {W : World} (h : DaS w c v l X cur (some ⟨g, 0, none⟩) k fp W) {nm : ByteArray} {ar : Int} {y : Value} {rows : List (List Int)} {f : List Nat}
    (ho : rowsC.ow W (w.heap.size + 1) [y] rows f) (hn : f.Nodup) (hfar : ∀ b ∈ f, b ∉ fp) (hxf : X ∉ f) (hok : OkD (nm, ar, rows)) {t : Nat} (ht : t < cur.length) :
    ∃ cur' fp', cur'.length = cur.length ∧ DaS w c v l X cur' (some ⟨g, 0, none⟩) k fp' (((W.setCell ⟨g, t * 3, none⟩ (.string nm)).setCell ⟨g, t * 3 + 1, none⟩ (.int .i64 ar)).setCell ⟨g, t * 3 + 2, none⟩ y) := by
  have h1 := h.cb
  have h2 := h.xb
  have hg : g ∈ fp := by
    obtain ⟨v', xss, fps, e1, _, _, rfl⟩ := h.ow
    injection e1 with e1 _
    subst e1
    exact List.mem_append_left _ (by simp [Value.ownBlock])
  have hgx := ((Cd.sl _ tabC).ow_lt h.ow _ hg).1
  have hgX : g ≠ X := fun q => h.xf (by rw [← q]; exact hg)
  obtain ⟨k1, k2, k3⟩ := hok
  simp only at k1 k2 k3
  obtain ⟨fp', ho', hn', hsub⟩ := Cd.ow_putN h.ow h.nd (tab_ow (nm := nm) (ar := ar) ho (by unfold maxLen; omega) (by omega)) hn hfar ht
  have e : (cur.set t (nm, ar, rows)).length = cur.length := by simp
  refine ⟨cur.set t (nm, ar, rows), fp', e, ?_, ((h.lr.set_far (by show g ≠ _; omega) _).set_far (by show g ≠ _; omega) _).set_far (by show g ≠ _; omega) _, ?_, hn', fun T hT => ?_, fun q => ?_, h2, h1, cur_farI _ (cur_farI _ (cur_farI _ h.cu (by show c ≠ g; omega)) (by show c ≠ g; omega)) (by show c ≠ g; omega), grown_newI _ (grown_newI _ (grown_newI _ h.gr (by show _ ≤ g; omega)) (by show _ ≤ g; omega)) (by show _ ≤ g; omega)⟩
  · rw [e]; exact ((h.lx.set_far hgX _).set_far hgX _).set_far hgX _
  · rw [e]; exact ho'
  · rcases List.mem_or_eq_of_mem_set hT with q | q
    · exact h.ok T q
    · rw [q]; exact ⟨k1, k2, k3⟩
  · rcases hsub X q with q | q
    · exact h.xf q
    · exact hxf q
theorem far3 {W : World} {p : Addr} {v : Value} (h : W.cell? p = some v) {g o1 o2 o3 : Nat} {x y z : Value} (hn : p.block ≠ g) : (((W.setCell ⟨g, o1, none⟩ x).setCell ⟨g, o2, none⟩ y).setCell ⟨g, o3, none⟩ z).cell? p = some v := by
  have e : ∀ o, (⟨g, o, none⟩ : Addr) ≠ p := fun o q => hn (congrArg Addr.block q).symm
  rw [World.cell?_setCell_other _ _ _ _ (e _), World.cell?_setCell_other _ _ _ _ (e _), World.cell?_setCell_other _ _ _ _ (e _)]
  exact h
end Go.Proofs.YtmifnbplkaonaaaGreat.DbDraw
