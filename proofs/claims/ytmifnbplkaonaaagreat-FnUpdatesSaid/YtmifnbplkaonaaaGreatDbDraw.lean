/- How the laws draw databases. -/
import Derived.Test.YtmifnbplkaonaaaGreatDbAcc
import Derived.Test.YtmifnbplkaonaaaGreatTabDraw2
namespace Go.Proofs.YtmifnbplkaonaaaGreat.DbDraw
open Go Go.RowKit Byt Ints IntsLaw IntsWalk Draw LocDraw Cd Rows2 Tab TabDraw SlMath TabOpen TabElem SlTable Db TabSpec DbMath DbSpec DbExact DbAcc

theorem loc1_grown {w w' : World} {X c : Nat} {a : Value} (h : Loc1 w X a) (hg : w.grownBy w' (some c)) (hn : X ≠ c) : Loc1 w' X a :=
  h.keep (hg.block X h.lt (by intro q; injection q with q; exact hn q))
def nm5 : List ByteArray := [⟨#[114]⟩, ⟨#[115]⟩, ⟨#[116]⟩, ⟨#[117]⟩, ⟨#[118]⟩]
def zv4 : List Int := [2, 3, 4, 6]
def zm4 : List Int := [2, 4, 6, 8]
theorem nm5_ok : ∀ t : Fin 5, (nm5.getD t.val ⟨#[]⟩).size ≤ 2 := by decide
theorem zv4_ok : ∀ t : Fin 4, 0 < zv4.getD t.val 0 ∧ zv4.getD t.val 0 ≤ 6 := by decide
theorem zm4_ok : ∀ t : Fin 4, 0 ≤ zm4.getD t.val 0 ∧ zm4.getD t.val 0 ≤ 8 := by decide

/-- A table that a draw may make. -/
def OkD (T : T3) : Prop := T.1.size ≤ 2 ∧ (-1 ≤ T.2.1 ∧ T.2.1 ≤ 4) ∧ rowsWt T.2.2 ≤ 32
/-- In the drawing of a database: the local one in block X, the names behind it, the cursor. -/
structure DrS (w : World) (c : Nat) (v : Value) (l : List UInt8) (X : Nat) (cur : List T3) (a : Option Addr) (k : Nat) (fp : List Nat) (W : World) : Prop where
  lx : Loc1 W X (.slice a cur.length k)
  lr : Loc1 W w.heap.size (.slice none 0 0)
  nm : ∀ t, t < 5 → W.cell? ⟨X + 1, t, none⟩ = some (.string (nm5.getD t ⟨#[]⟩))
  ow : tabsC.ow W (X + 2) [.slice a cur.length k] cur fp
  nd : fp.Nodup
  ok : ∀ T ∈ cur, OkD T
  xb : w.heap.size < X
  cb : c < w.heap.size
  sz : X + 2 ≤ W.heap.size
  cu : Cur W c v l
  gr : w.grownBy W (some c)
theorem DrS.grown {w : World} {c : Nat} {v : Value} {l : List UInt8} {X : Nat} {cur : List T3} {a : Option Addr} {k : Nat} {fp : List Nat} {W W' : World} (h : DrS w c v l X cur a k fp W) (hg : W.grownBy W' (some c)) (hc : Cur W' c v l) : DrS w c v l X cur a k fp W' :=
  have h1 := h.cb
  have h2 := h.xb
  ⟨loc1_grown h.lx hg (by omega), loc1_grown h.lr hg (by omega), fun t ht => hg.cell (h.nm t ht) (by intro q; injection q with q; simp only at q; omega), ow_grown h.ow hg (by omega), h.nd, h.ok, h.xb, h.cb, Nat.le_trans h.sz hg.size, hc, grown_trans h.gr hg⟩
theorem DrS.alloc {w : World} {c : Nat} {v : Value} {l : List UInt8} {X : Nat} {cur : List T3} {a : Option Addr} {k : Nat} {fp : List Nat} {W : World} (h : DrS w c v l X cur a k fp W) (o : Obj) : DrS w c v l X cur a k fp (W.alloc o) :=
  h.grown (World.grownBy_alloc W o (some c)) (cur_allocI o h.cu)
/-- A drawn table laid in two cells of its own, to be appended. -/
structure LaidD (X : Nat) (W3 : World) (b : Nat) (us : List Value) (T : T3) (f fp : List Nat) : Prop where
  at_ : Cd.At W3 b 0 us
  ow : tabC.ow W3 (X + 2) us T f
  nd : f.Nodup
  far : ∀ b ∈ f, b ∉ fp
  sz : X + 2 ≤ W3.heap.size
  ok : OkD T
theorem DrS.laid {w : World} {c : Nat} {v : Value} {l : List UInt8} {X : Nat} {cur : List T3} {a : Option Addr} {k : Nat} {fp : List Nat} {W W2 : World} (h : DrS w c v l X cur a k fp W) (hg : W.grownBy W2 (some c)) (hc : Cur W2 c v l)
    {nm : ByteArray} {ar : Int} {y : Value} {rows : List (List Int)} {f : List Nat} (ho : rowsC.ow W2 W.heap.size [y] rows f) (hn : f.Nodup) (hok : OkD (nm, ar, rows)) (e : TypeId) :
    DrS w c v l X cur a k fp ((W2.alloc (.cells #[.string nm, .int .i64 ar, y] e (0, 0))).alloc (.cells #[.string nm, .int .i64 ar, y] e (0, 0))) ∧
    LaidD X ((W2.alloc (.cells #[.string nm, .int .i64 ar, y] e (0, 0))).alloc (.cells #[.string nm, .int .i64 ar, y] e (0, 0))) (W2.heap.size + 1) [.string nm, .int .i64 ar, y] (nm, ar, rows) f fp := by
  have hbA := Tab.below_then (below_alloc W2 (.cells #[.string nm, .int .i64 ar, y] e (0, 0))) (below_alloc (W2.alloc (.cells #[.string nm, .int .i64 ar, y] e (0, 0))) (.cells #[.string nm, .int .i64 ar, y] e (0, 0)))
  have hA := ((h.grown hg hc).alloc (.cells #[.string nm, .int .i64 ar, y] e (0, 0))).alloc (.cells #[.string nm, .int .i64 ar, y] e (0, 0))
  obtain ⟨k1, k2, k3⟩ := hok
  simp only at k1 k2 k3
  refine ⟨hA, ?_, tabC.ow_base (Cd.ow_later (tab_ow ho (by unfold maxLen; omega) (by omega)) hbA) h.sz, hn, fun b hb q => ?_, hA.sz, ⟨k1, k2, k3⟩⟩
  · exact at3 (by have := row_alloc (W2.alloc (.cells #[.string nm, .int .i64 ar, y] e (0, 0))) (.cells #[.string nm, .int .i64 ar, y] e (0, 0)); rw [size_alloc] at this; exact this)
  · have h1 := (rowsC.ow_lt ho b hb).1
    have h2 := ((Cd.sl _ tabC).ow_lt h.ow b q).2
    omega
theorem DrS.fcell {w : World} {c : Nat} {v : Value} {l : List UInt8} {X : Nat} {cur : List T3} {a : Option Addr} {k : Nat} {fp : List Nat} {W W4 : World} (h : DrS w c v l X cur a k fp W) (ht : Cd.Touch fp W W4) : W4.cell? ⟨X, 0, none⟩ = some (.slice a cur.length k) ∧ W4.frozen? ⟨X, 0, none⟩ = false := by
  have hx : X ∉ fp := fun q => by have := ((Cd.sl _ tabC).ow_lt h.ow _ q).1; omega
  exact ⟨(h.lx.touched ht hx).c0, (h.lx.touched ht hx).f0⟩
theorem DrS.app {w : World} {c : Nat} {v : Value} {l : List UInt8} {X : Nat} {cur : List T3} {a : Option Addr} {k : Nat} {fp : List Nat} {W3 W4 : World} (h : DrS w c v l X cur a k fp W3) {T : T3} (hT : OkD T) {g cap : Nat} {fp4 : List Nat} (ht : Cd.Touch fp W3 W4)
    (ho : tabsC.ow W4 (X + 2) [.slice (some ⟨g, 0, none⟩) (cur.length + 1) cap] (cur ++ [T]) fp4) (hn : fp4.Nodup) :
    DrS w c v l X (cur ++ [T]) (some ⟨g, 0, none⟩) cap fp4 (W4.setCell ⟨X, 0, none⟩ (.slice (some ⟨g, 0, none⟩) (cur.length + 1) cap)) := by
  have h1 := h.cb
  have h2 := h.xb
  have h3 := h.sz
  have hfp : ∀ b, b < X + 2 → b ∉ fp := fun b hb q => by have := ((Cd.sl _ tabC).ow_lt h.ow _ q).1; omega
  have hx4 : X ∉ fp4 := fun q => by have := ((Cd.sl _ tabC).ow_lt ho _ q).1; omega
  have e : (cur ++ [T]).length = cur.length + 1 := by simp
  refine ⟨?_, (h.lr.touched ht (hfp _ (by omega))).set_far (by show X ≠ _; omega) _, fun t hlt => ?_, ?_, hn, ?_, h2, h1, ?_, ?_, ?_⟩
  · rw [e]; exact (h.lx.touched ht (hfp _ (by omega))).set _
  · rw [World.cell?_setCell_other _ _ _ _ (by intro q; have e := congrArg Addr.block q; simp only at e; omega)]
    exact ht.cell (h.nm t hlt) (hfp _ (by show X + 1 < _; omega))
  · rw [e]; exact ow_setCell ho hx4 _
  · intro U hU
    rcases List.mem_append.1 hU with q | q
    · exact h.ok U q
    · rw [List.mem_singleton.1 q]; exact hT
  · have := ht.size; simp; omega
  · obtain ⟨i, x, hi, hh⟩ := h.cu
    exact cur_farI _ ⟨i, x, hi, ht.row hh (hfp _ (by omega))⟩ (by show c ≠ X; omega)
  · refine grown_newI _ ?_ (by show _ ≤ X; omega)
    exact ⟨ht.os.trans h.gr.os, ht.tape.trans h.gr.tape, ht.output.trans h.gr.output, Nat.le_trans h.gr.size ht.size, fun j hj hne => (ht.block j (by have := h.gr.size; omega) (hfp _ (by omega))).trans (h.gr.block j hj hne)⟩
/-- A drawn database. -/
def DbDr (n : Nat) (w : World) (c : Nat) (v : Value) (l : List UInt8) (e : Ending) (w' : World) : Prop :=
  ∃ (u : Value) (Ts : List T3) (fp : List Nat), e = .returned (.agg #[u]) ∧ tabsC.ow w' w.heap.size [u] Ts fp ∧ fp.Nodup ∧ Ts.length = n ∧ (∀ T ∈ Ts, OkD T) ∧ Cur w' c v l ∧ w.grownBy w' (some c)
theorem DrS.done {w : World} {c : Nat} {v : Value} {l : List UInt8} {X : Nat} {cur : List T3} {a : Option Addr} {k : Nat} {fp : List Nat} {W : World} (h : DrS w c v l X cur a k fp W) {n : Nat} (hl : cur.length = n) :
    DbDr n w c v l (.returned (.agg #[.slice a cur.length k])) (W.setCell ⟨w.heap.size, 0, none⟩ (.slice a cur.length k)) := by
  have h1 := h.cb
  have h2 := h.xb
  refine ⟨_, cur, fp, rfl, ow_setCell ((Cd.sl _ tabC).ow_base h.ow (by omega)) (fun q => by have := ((Cd.sl _ tabC).ow_lt h.ow _ q).1; simp only at this; omega) _, h.nd, hl, h.ok, cur_farI _ h.cu (by show c ≠ w.heap.size; omega), grown_newI _ h.gr (Nat.le_refl _)⟩
/-- The rows of one table are dropped. -/
theorem DrS.nil {w : World} {c : Nat} {v : Value} {l : List UInt8} {X : Nat} {cur : List T3} {g : Nat} {k : Nat} {fp : List Nat} {W : World} (h : DrS w c v l X cur (some ⟨g, 0, none⟩) k fp W) {t : Nat} (ht : t < cur.length) :
    ∃ cur' fp', cur'.length = cur.length ∧ DrS w c v l X cur' (some ⟨g, 0, none⟩) k fp' (W.setCell ⟨g, t * 3 + 2, none⟩ (.slice none 0 0)) := by
  have h1 := h.cb
  have h2 := h.xb
  have h3 := h.sz
  have hok := h.ok _ (List.getElem_mem ht)
  have hg : g ∈ fp := by
    obtain ⟨v', xss, fps, e1, _, _, rfl⟩ := h.ow
    injection e1 with e1 _
    subst e1
    exact List.mem_append_left _ (by simp [Value.ownBlock])
  have hgx := ((Cd.sl _ tabC).ow_lt h.ow _ hg).1
  obtain ⟨us, f, hul, hat, hof, hfs, hnd, hch⟩ := Cd.ow_elem h.ow ht
  obtain ⟨a', c', rfl⟩ := shape_ow hof
  obtain ⟨fp', ho', hn', hsub, _⟩ := hch (W.setCell ⟨g, t * 3 + 2, none⟩ (.slice none 0 0)) [none, none, some (.slice none 0 0)] (cur[t].1, cur[t].2.1, []) [] rfl
    (tab_ow (Cd.ow_nil _ _) (by have := hok.1; unfold maxLen; omega) (by have := hok.2.1; omega)) rfl (fun b _ _ hb => Below.heap_setCell W _ _ b hb) h.nd List.nodup_nil (by simp)
  have e : (cur.set t (cur[t].1, cur[t].2.1, [])).length = cur.length := by simp
  refine ⟨cur.set t (cur[t].1, cur[t].2.1, []), fp', e, ?_, h.lr.set_far (by show g ≠ _; omega) _, fun j hj => ?_, ?_, hn', fun T hT => ?_, h2, h1, by simpa using h3, cur_farI _ h.cu (by show c ≠ g; omega), grown_newI _ h.gr (by show _ ≤ g; omega)⟩
  · rw [e]; exact h.lx.set_far (by show g ≠ X; omega) _
  · rw [World.cell?_setCell_other _ _ _ _ (by intro q; have e := congrArg Addr.block q; simp only at e; omega)]
    exact h.nm j hj
  · rw [e]; exact ho'
  · rcases List.mem_or_eq_of_mem_set hT with q | q
    · exact h.ok T q
    · rw [q]; exact ⟨hok.1, hok.2.1, by simp [rowsWt]⟩
theorem DrS.drew {w : World} {c : Nat} {v : Value} {l : List UInt8} {X : Nat} {cur : List T3} {a : Option Addr} {k : Nat} {fp : List Nat} {W : World} (h : DrS w c v l X cur a k fp W) : DrS w c v l X cur a k fp W.drew :=
  ⟨h.lx.drew, h.lr.drew, h.nm, tabsC.ow_keep h.ow fun _ _ => rfl, h.nd, h.ok, h.xb, h.cb, h.sz, h.cu, ⟨h.gr.os, h.gr.tape, h.gr.output, h.gr.size, h.gr.block⟩⟩
theorem DrS.rcell {w : World} {c : Nat} {v : Value} {l : List UInt8} {X : Nat} {cur : List T3} {g : Nat} {k : Nat} {fp : List Nat} {W : World} (h : DrS w c v l X cur (some ⟨g, 0, none⟩) k fp W) {t : Nat} (ht : t < cur.length) :
    ∃ u, W.cell? ⟨g, t * 3 + 2, none⟩ = some u ∧ W.frozen? ⟨g, t * 3 + 2, none⟩ = false := by
  obtain ⟨us, f, hul, hat, _⟩ := Cd.ow_elem h.ow ht
  have hul' : us.length = 3 := hul
  exact ⟨_, hat 2 (by omega), Cd.ow_frozen h.ow _⟩
/-- The same for some list of n tables. -/
def DrO (w : World) (c : Nat) (v : Value) (l : List UInt8) (X n g k : Nat) (W : World) : Prop := ∃ cur fp, cur.length = n ∧ DrS w c v l X cur (some ⟨g, 0, none⟩) k fp W
theorem DrO.of {w : World} {c : Nat} {v : Value} {l : List UInt8} {X g k : Nat} {cur : List T3} {fp : List Nat} {W : World} (h : DrS w c v l X cur (some ⟨g, 0, none⟩) k fp W) : DrO w c v l X cur.length g k W := ⟨cur, fp, rfl, h⟩
theorem DrO.grown {w : World} {c : Nat} {v : Value} {l : List UInt8} {X n g k : Nat} {W W' : World} (h : DrO w c v l X n g k W) (hg : W.grownBy W' (some c)) (hc : Cur W' c v l) : DrO w c v l X n g k W' :=
  have ⟨cur, fp, e, hs⟩ := h
  ⟨cur, fp, e, hs.grown hg hc⟩
theorem DrO.nil {w : World} {c : Nat} {v : Value} {l : List UInt8} {X n g k : Nat} {W : World} (h : DrO w c v l X n g k W) {t : Nat} (ht : t < n) : DrO w c v l X n g k (W.setCell ⟨g, t * 3 + 2, none⟩ (.slice none 0 0)) := by
  obtain ⟨cur, fp, rfl, hs⟩ := h
  obtain ⟨cur', fp', e, hs'⟩ := hs.nil ht
  exact ⟨cur', fp', e, hs'⟩
theorem DrO.all {w : World} {c : Nat} {v : Value} {l : List UInt8} {X n g k : Nat} {W : World} (h : DrO w c v l X n g k W) : W.cell? ⟨X, 0, none⟩ = some (.slice (some ⟨g, 0, none⟩) n k) ∧ DrO w c v l X n g k W := by
  obtain ⟨cur, fp, rfl, hs⟩ := h
  exact ⟨hs.lx.c0, ⟨cur, fp, rfl, hs⟩⟩
theorem DrO.res {w : World} {c : Nat} {v : Value} {l : List UInt8} {X n g k : Nat} {W : World} (h : DrO w c v l X n g k W) : W.cell? ⟨w.heap.size, 0, none⟩ = some (.slice none 0 0) ∧ W.frozen? ⟨w.heap.size, 0, none⟩ = false := by
  obtain ⟨cur, fp, rfl, hs⟩ := h
  exact ⟨hs.lr.c0, hs.lr.f0⟩
theorem DrO.rcell {w : World} {c : Nat} {v : Value} {l : List UInt8} {X n g k : Nat} {W : World} (h : DrO w c v l X n g k W) {t : Nat} (ht : t < n) : ∃ u, W.cell? ⟨g, t * 3 + 2, none⟩ = some u ∧ W.frozen? ⟨g, t * 3 + 2, none⟩ = false := by
  obtain ⟨cur, fp, rfl, hs⟩ := h
  exact hs.rcell ht
theorem DrO.below {w : World} {c : Nat} {v : Value} {l : List UInt8} {X n g k : Nat} {W : World} (h : DrO w c v l X n g k W) : Cur W c v l ∧ w.grownBy W (some c) := by
  obtain ⟨cur, fp, rfl, hs⟩ := h
  exact ⟨hs.cu, hs.gr⟩
theorem DrO.done {w : World} {c : Nat} {v : Value} {l : List UInt8} {X n g k : Nat} {W : World} (h : DrO w c v l X n g k W) {m : Nat} (hm : n = m) : DbDr m w c v l (.returned (.agg #[.slice (some ⟨g, 0, none⟩) n k])) (W.setCell ⟨w.heap.size, 0, none⟩ (.slice (some ⟨g, 0, none⟩) n k)) := by
  obtain ⟨cur, fp, rfl, hs⟩ := h
  exact hs.done hm
end Go.Proofs.YtmifnbplkaonaaaGreat.DbDraw
