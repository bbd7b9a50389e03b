/- How the laws draw databases: any database. -/
import Derived.Test.YtmifnbplkaonaaaGreatDbDraw3
namespace Go.Proofs.YtmifnbplkaonaaaGreat.DbDraw
open Go Go.RowKit Byt Ints IntsLaw IntsWalk Draw LocDraw Cd Rows2 Tab TabDraw SlMath TabOpen TabElem SlTable Db TabSpec DbMath DbSpec DbExact DbAcc

def nn3 : List ByteArray := [⟨#[97]⟩, ⟨#[119]⟩, ⟨#[122]⟩]
theorem nn3_ok : ∀ t : Fin 3, (nn3.getD t.val ⟨#[]⟩).size ≤ 2 := by decide
theorem ok_app {cur : List T3} {T : T3} (h : ∀ U ∈ cur, OkD U) (hT : OkD T) : ∀ U ∈ cur ++ [T], OkD U := fun U hU => by
  rcases List.mem_append.1 hU with q | q
  · exact h U q
  · rw [List.mem_singleton.1 q]; exact hT
theorem ok_app2 {cur : List T3} {T T2 : T3} (h : ∀ U ∈ cur, OkD U) (hT : OkD T) (hT2 : OkD T2) : ∀ U ∈ cur ++ [T, T2], OkD U := fun U hU => by
  rcases List.mem_append.1 hU with q | q
  · exact h U q
  · rcases List.mem_cons.1 q with q | q
    · rw [q]; exact hT
    · rw [List.mem_singleton.1 q]; exact hT2
/-- Two drawn tables, to be appended at once. -/
structure LaidB (base X : Nat) (W4 : World) (b : Nat) (us us2 : List Value) (T T2 : T3) (f f2 fp : List Nat) : Prop where
  at_ : Cd.At W4 b 0 (us ++ us2)
  ow : tabC.ow W4 base us T f
  nd : f.Nodup
  far : ∀ b ∈ f, b ∉ fp
  xf : X ∉ f
  ow2 : tabC.ow W4 base us2 T2 f2
  nd2 : f2.Nodup
  far2 : ∀ b ∈ f2, b ∉ fp
  xf2 : X ∉ f2
  dis : ∀ b ∈ f, b ∉ f2
  sz : base ≤ W4.heap.size
  ok : OkD T
  ok2 : OkD T2
theorem at6 {W : World} {b : Nat} {x0 x1 x2 x3 x4 x5 : Value} {e : TypeId} (h : W.heap[b]? = some (.cells #[x0, x1, x2, x3, x4, x5] e (0, 0))) : Cd.At W b 0 ([x0, x1, x2] ++ [x3, x4, x5]) := by
  intro j hj
  have : j = 0 ∨ j = 1 ∨ j = 2 ∨ j = 3 ∨ j = 4 ∨ j = 5 := by simp at hj; omega
  rcases this with rfl | rfl | rfl | rfl | rfl | rfl <;> simp [World.cell?, h]
theorem DaS.laid2 {w : World} {c : Nat} {v : Value} {l : List UInt8} {X : Nat} {cur : List T3} {a : Option Addr} {k : Nat} {fp : List Nat} {W w3 w4 : World} (h : DaS w c v l X cur a k fp W) (hg3 : W.grownBy w3 (some c)) (hc3 : Cur w3 c v l)
    {nm nm2 : ByteArray} {ar ar2 : Int} {y y2 : Value} {rows rows2 : List (List Int)} {f f2 : List Nat} (ho : rowsC.ow w3 W.heap.size [y] rows f) (hn : f.Nodup) (hok : OkD (nm, ar, rows)) (e e2 e3 : TypeId)
    (hg4 : (w3.alloc (.cells #[.string nm, .int .i64 ar, y] e (0, 0))).grownBy w4 (some c)) (hc4 : Cur w4 c v l) (ho2 : rowsC.ow w4 (w3.alloc (.cells #[.string nm, .int .i64 ar, y] e (0, 0))).heap.size [y2] rows2 f2) (hn2 : f2.Nodup) (hok2 : OkD (nm2, ar2, rows2)) :
    DaS w c v l X cur a k fp ((w4.alloc (.cells #[.string nm2, .int .i64 ar2, y2] e2 (0, 0))).alloc (.cells #[.string nm, .int .i64 ar, y, .string nm2, .int .i64 ar2, y2] e3 (0, 0))) ∧
    LaidB (w.heap.size + 1) X ((w4.alloc (.cells #[.string nm2, .int .i64 ar2, y2] e2 (0, 0))).alloc (.cells #[.string nm, .int .i64 ar, y, .string nm2, .int .i64 ar2, y2] e3 (0, 0))) (w4.heap.size + 1) [.string nm, .int .i64 ar, y] [.string nm2, .int .i64 ar2, y2] (nm, ar, rows) (nm2, ar2, rows2) f f2 fp := by
  have hbA := Tab.below_then (below_alloc w4 (.cells #[.string nm2, .int .i64 ar2, y2] e2 (0, 0))) (below_alloc (w4.alloc (.cells #[.string nm2, .int .i64 ar2, y2] e2 (0, 0))) (.cells #[.string nm, .int .i64 ar, y, .string nm2, .int .i64 ar2, y2] e3 (0, 0)))
  have h3 := (h.grown hg3 hc3).alloc (.cells #[.string nm, .int .i64 ar, y] e (0, 0))
  have h4 := h3.grown hg4 hc4
  have hA := (h4.alloc (.cells #[.string nm2, .int .i64 ar2, y2] e2 (0, 0))).alloc (.cells #[.string nm, .int .i64 ar, y, .string nm2, .int .i64 ar2, y2] e3 (0, 0))
  have hX := h.sz
  have hxb := h.xb
  have hcb := h.cb
  have hs3 : (w3.alloc (.cells #[.string nm, .int .i64 ar, y] e (0, 0))).heap.size = w3.heap.size + 1 := size_alloc _ _
  have hs30 := hg3.size
  obtain ⟨k1, k2, k3⟩ := hok
  obtain ⟨m1, m2, m3⟩ := hok2
  simp only at k1 k2 k3 m1 m2 m3
  have ho4 : rowsC.ow w4 W.heap.size [y] rows f := ow_grown (Cd.ow_later ho (below_alloc _ (.cells #[.string nm, .int .i64 ar, y] e (0, 0)))) hg4 (by omega)
  refine ⟨hA, at6 (by have := row_alloc (w4.alloc (.cells #[.string nm2, .int .i64 ar2, y2] e2 (0, 0))) (.cells #[.string nm, .int .i64 ar, y, .string nm2, .int .i64 ar2, y2] e3 (0, 0)); rw [size_alloc] at this; exact this),
    tabC.ow_base (Cd.ow_later (tab_ow ho4 (by unfold maxLen; omega) (by omega)) hbA) (by omega), hn, fun b hb q => ?_, fun q => ?_,
    tabC.ow_base (Cd.ow_later (tab_ow ho2 (by unfold maxLen; omega) (by omega)) hbA) (by omega), hn2, fun b hb q => ?_, fun q => ?_, fun b hb q => ?_, by have := hA.sz; omega, ⟨k1, k2, k3⟩, ⟨m1, m2, m3⟩⟩
  · have h1 := (rowsC.ow_lt ho b hb).1
    have h2 := ((Cd.sl _ tabC).ow_lt h.ow b q).2
    omega
  · have h1 := (rowsC.ow_lt ho _ q).1
    omega
  · have h1 := (rowsC.ow_lt ho2 b hb).1
    have h2 := ((Cd.sl _ tabC).ow_lt h.ow b q).2
    omega
  · have h1 := (rowsC.ow_lt ho2 _ q).1
    omega
  · have h1 := (rowsC.ow_lt ho b hb).2
    have h2 := (rowsC.ow_lt ho2 b q).1
    omega

theorem DaS.atPut {w : World} {c : Nat} {v : Value} {l : List UInt8} {X : Nat} {cur : List T3} {g : Nat} {k : Nat} {fp : List Nat} {W w7 : World} (h : DaS w c v l X cur (some ⟨g, 0, none⟩) k fp W) (hg : W.drew.grownBy w7 (some c)) (hc : Cur w7 c v l)
    {Y : Nat} {nm : ByteArray} {ar : Int} {y : Value} {rows : List (List Int)} {f : List Nat} (HY : Loc3 W Y (.string nm) (.int .i64 ar) y) (hYc : Y ≠ c)
    (ho : rowsC.ow W (w.heap.size + 1) [y] rows f) (hn : f.Nodup) (hfar : ∀ b ∈ f, b ∉ fp) (hxf : X ∉ f) (hok : OkD (nm, ar, rows)) {j : Nat} (hj : j < cur.length) :
    w7.cell? ⟨X, 0, none⟩ = some (.slice (some ⟨g, 0, none⟩) cur.length k) ∧ Loc3 w7 Y (.string nm) (.int .i64 ar) y ∧ (∃ u, w7.cell? ⟨g, j * 3, none⟩ = some u) ∧ (∃ u, w7.cell? ⟨g, j * 3 + 1, none⟩ = some u) ∧ (∃ u, w7.cell? ⟨g, j * 3 + 2, none⟩ = some u) ∧
    w7.frozen? ⟨g, j * 3, none⟩ = false ∧ w7.frozen? ⟨g, j * 3 + 1, none⟩ = false ∧ w7.frozen? ⟨g, j * 3 + 2, none⟩ = false ∧
    ∃ cur' fp', cur'.length = cur.length ∧ DaS w c v l X cur' (some ⟨g, 0, none⟩) k fp' (((w7.setCell ⟨g, j * 3, none⟩ (.string nm)).setCell ⟨g, j * 3 + 1, none⟩ (.int .i64 ar)).setCell ⟨g, j * 3 + 2, none⟩ y) := by
  have h7 := h.drew.grown hg hc
  have hcb := h.cb
  obtain ⟨us7, f7, hl7, hat7, _⟩ := Cd.ow_elem h7.ow hj
  have hl3 : us7.length = 3 := hl7
  have h30 : w7.cell? ⟨g, j * 3, none⟩ = some (us7[0]'(by omega)) := hat7 0 (by omega)
  have h31 : w7.cell? ⟨g, j * 3 + 1, none⟩ = some (us7[1]'(by omega)) := hat7 1 (by omega)
  have h32 : w7.cell? ⟨g, j * 3 + 2, none⟩ = some (us7[2]'(by omega)) := hat7 2 (by omega)
  exact ⟨h7.lx.c0, loc_grown (Exact.loc_drew HY) hg hYc, ⟨_, h30⟩, ⟨_, h31⟩, ⟨_, h32⟩, Cd.ow_frozen h7.ow (j * 3), Cd.ow_frozen h7.ow (j * 3 + 1), Cd.ow_frozen h7.ow (j * 3 + 2),
    h7.put (ow_grown (w := W.drew) (rowsC.ow_keep (w' := W.drew) ho (fun _ _ => rfl)) hg (by omega)) hn hfar hxf hok hj⟩

set_option maxRecDepth 100000 in
set_option maxHeartbeats 6400000 in
theorem dbany_any (c : Nat) (v : Value) (l : List UInt8) (B : Nat) (w : World) (hc : Cur w c v l) (hr : Reads w v l B) (hB : B ≤ c) :
    Calls Tryz.prog 34 #[.pointer (some ⟨c, 0, none⟩)] w (AnyDb w c v l) := by
  have hcs := cur_size hc
  have HR := Lib.hid (fun w' (hg : w.grownBy w' (some c)) => hr.later (below_of hg hB hcs))
  have HC := Lib.hid hc
  clear hc hr
  go_enter Tryz.func34, Tryz.ntmps34
  go_wp2_with fail
  generalize hW : w.alloc _ = W0
  obtain ⟨r0, hz, hb0⟩ := start1 w _ hW
  clear hW
  have HX0 := Lib.hid (Loc1.of r0)
  have hg0 := grown_below hb0 (some c)
  have HG0 := Lib.hid hg0
  refine (db_any c v l B W0 (cur_below HC.out hb0 hcs) (HR.out _ hg0) hB).mono ?_
  rintro e w1 ⟨u, Ts, fp, rfl, how, hnd, hlen, hok, hc1, hg1⟩
  obtain ⟨g, k1, rfl, hgb, hgs, hgf⟩ := Cd.ow_form how (by omega)
  have HS := Lib.hid (show DaS w c v l w1.heap.size Ts (some ⟨g, 0, none⟩) k1 fp (w1.alloc (.cells #[.slice (some ⟨g, 0, none⟩) Ts.length k1] 26 (0, 0))) from
    ⟨Loc1.of (row_alloc _ _), (loc1_grown HX0.out hg1 (by omega)).later (below_alloc _ _), Cd.ow_later ((Cd.sl _ tabC).ow_base how (by omega)) (below_alloc _ _), hnd, hok, (fun q => by have := ((Cd.sl _ tabC).ow_lt how _ q).2; omega), by have := hg1.size; omega, hcs, cur_allocI _ hc1, grown_allocI _ (grown_trans HG0.out hg1)⟩)
  have HLEN := Lib.hid hlen
  clear r0 hz hb0 hg0 how hnd hlen hok hc1 hg1 HX0 HG0 hgb hgs hgf
  go_wp2_with fail
  generalize w1.alloc _ = W1 at *
  generalize w1.heap.size = X at *
  have HB1 := Lib.hid (below_any 10 c v l B W1 HS.out.cu (HR.out W1 HS.out.gr) hB)
  refine HB1.out.mono ?_
  rintro e w2 ⟨x, rfl, hx0, hx10, hc2, hg2⟩
  have HS2 := Lib.hid (HS.out.grown hg2 hc2)
  clear hx0 hx10 hc2 hg2 HS HB1
  have HLL := Lib.hid (show Ts.length + 1 ≤ 1000000000 by have := HLEN.out; omega)
  have HLL2 := Lib.hid (show Ts.length + 2 ≤ 1000000000 by have := HLEN.out; omega)
  by_cases x0 : x = 0
  · subst x0
    have HA := Lib.hid (tabany_any c v l B w2 HS2.out.cu (HR.out w2 HS2.out.gr) hB)
    go_wp2_with fail
    refine HA.out.mono ?_
    rintro e w3 ⟨nm, ar, y, rows, f, rfl, hnm, har, ho, hnf, hwt, hc3, hg3⟩
    obtain ⟨a3, c3, rfl⟩ := Cd.ow_slice ho
    go_upto_region 5 with fail
    generalize hW3 : w3.alloc _ = W3
    obtain ⟨s0, sz, sb⟩ := start1 w3 _ hW3
    have HY := Lib.hid (Loc3.of s0)
    have HS3 := Lib.hid (show DaS w c v l X Ts (some ⟨g, 0, none⟩) k1 fp W3 from (HS2.out.grown hg3 hc3).grown (grown_below sb (some c)) (cur_below hc3 sb (cur_size hc3)))
    have HO3 := Lib.hid (Cd.ow_later (rowsC.ow_base ho (show w.heap.size + 1 ≤ w2.heap.size by have := HS2.out.sz; have := HS2.out.xb; omega)) sb)
    have HFF := Lib.hid (show ∀ b ∈ f, b ∉ fp from fun b hb q => by have h1 := (rowsC.ow_lt ho b hb).1; have h2 := ((Cd.sl _ tabC).ow_lt HS2.out.ow b q).2; omega)
    have HXF := Lib.hid (show X ∉ f from fun q => by have h1 := (rowsC.ow_lt ho _ q).1; have h2 := HS2.out.sz; omega)
    have HNF := Lib.hid hnf
    have HOK := Lib.hid (show OkD (nm, ar, rows) from ⟨hnm, har, by show rowsWt rows ≤ 32; omega⟩)
    have HYC := Lib.hid (show w3.heap.size ≠ c by have := HS2.out.cb; have := hg3.size; have := HS2.out.sz; have := HS2.out.xb; omega)
    have hYg : g ≠ w3.heap.size := by
      have h1 := HS2.out.ow
      obtain ⟨g', k', e1, _, h2, _⟩ := Cd.ow_form h1 (by have := HLEN.out; omega)
      injection e1 with e1
      injection e1 with e1
      injection e1 with e1
      subst e1
      have := hg3.size
      omega
    have hXg : g ≠ X := by
      obtain ⟨g', k', e1, _, _, h3⟩ := Cd.ow_form HS2.out.ow (by have := HLEN.out; omega)
      injection e1 with e1
      injection e1 with e1
      injection e1 with e1
      subst e1
      exact fun q => HS2.out.xf (q ▸ h3)
    have HG7 := Lib.hid (And.intro hYg hXg)
    clear hW3 s0 sz sb ho hnf hwt hc3 hg3 hnm har HA HS2 hYg hXg
    have HB := Lib.hid (below_any 5 c v l B W3.drew HS3.out.drew.cu (HR.out _ HS3.out.drew.gr) hB)
    have z0 := HS3.out.lx.c0
    obtain ⟨y0, y1, y2, _, _, _⟩ := HY.out
    go_region_law (first | (go_simp; go_at_call 64; refine HB.out.mono ?_; rintro e w7 ⟨x, rfl, hx0, hx1, hc7, hg7⟩; obtain ⟨j, rfl⟩ := Int.eq_ofNat_of_zero_le hx0; (have hjl : j < Ts.length := by have := hx1 (by decide); have := HLEN.out; omega); (have p1 : (0 : Int) ≤ (j : Int) := by omega); (have p2 : (j : Int) < (Ts.length : Int) := by omega); (have h7 := HS3.out.atPut hg7 hc7 HY.out HYC.out HO3.out HNF.out HFF.out HXF.out HOK.out hjl); obtain ⟨v0, HY7, ⟨u0, h30⟩, ⟨u1, h31⟩, ⟨u2, h32⟩, g30, g31, g32, hn7⟩ := h7; (have HN := Lib.hid hn7); obtain ⟨v1, v2, v3, _, _, _⟩ := HY7; clear hx0 hx1 hc7 hg7 hn7))
    all_goals
      obtain ⟨cur', fp', hl', hs'⟩ := HN.out
      have m0 := hs'.lx.c0
      have m1 := hs'.lr.c0
      have m2 := hs'.lr.f0
      have HS' := Lib.hid hs'
      have HL' := Lib.hid hl'
      clear hs' hl' HN
      go_wp2_with fail
      have k0 := World.cell?_setCell_same _ _ (.slice (some ⟨g, 0, none⟩) cur'.length k1) m1
      refine bodyPost_ret (v := .agg #[.slice (some ⟨g, 0, none⟩) cur'.length k1]) (by simp [results, Tryz.results34, go_sem, k0]) rfl (HS'.out.done (by have := HL'.out; have := HLEN.out; omega))
  have tt0 : (x == 0) = false := by rw [beq_eq_false_iff_ne]; exact x0
  by_cases x1 : x = 1
  · subst x1
    clear x0
    have hal := HS2.out.alloc (.cells (nn3.map fun z => Value.string z).toArray 9)
    have HP := Lib.hid (pickS_any nn3 w2.heap.size (by decide) (by decide) c v l B _ hal.cu (HR.out _ hal.gr) hB (by have := (cur_size HS2.out.cu); omega) (list_cellsS nn3 w2 9))
    have HAL := Lib.hid hal
    clear hal
    go_wp2_with fail
    refine HP.out.mono ?_
    rintro e w3 ⟨t, ht, rfl, hc3, hg3⟩
    have hnm := nn3_ok ⟨t, ht⟩
    simp only at hnm
    generalize nn3.getD t ⟨#[]⟩ = nm at *
    have HS3 := Lib.hid (HAL.out.grown hg3 hc3)
    have HT := Lib.hid (show Calls Tryz.prog 66 #[.pointer (some ⟨c, 0, none⟩), .string nm, .int .i64 2, .int .i64 4, .int .i64 3] w3 (TabGen 4 w3 c v l nm 2) from tab_gen 4 3 (by decide) (by decide) nm 2 (by decide) c v l B w3 HS3.out.cu (HR.out w3 HS3.out.gr) hB)
    clear hc3 hg3 HP HAL
    go_wp2_with fail
    refine HT.out.mono ?_
    rintro e w5 ⟨y, rows, f, rfl, how, hnf, hwt, hc5, hg5⟩
    obtain ⟨a5, cap5, rfl⟩ := Cd.ow_slice how
    obtain ⟨hL, hD⟩ := HS3.out.laid hg5 hc5 how hnf (nm := nm) (ar := 2) ⟨hnm, by show (-1 : Int) ≤ 2 ∧ (2 : Int) ≤ 4; decide, by show rowsWt rows ≤ 32; omega⟩ 51
    have q1 := (HS3.out.grown hg5 hc5).lx.c0
    have q2 : X < w5.heap.size := (HS3.out.grown hg5 hc5).sz
    have HL := Lib.hid hL
    have HD := Lib.hid hD
    clear hL hD how hnf hwt hc5 hg5 HT HS3 HS2
    go_wp2_with (at_builtin; refine Cd.wpList_appendN (c := tabC) rfl (.tmp 30) (.tmp 32) 24 rfl (w.heap.size + 1) 51 (.agg #[.string ⟨#[]⟩, .int .i64 0, .slice none 0 0]) 3 48 rfl Tryz.underlying24 info_x rfl (by decide) _ Ts fp rfl HL.out.ow HL.out.nd (w5.heap.size + 1) _ rfl HD.out.at_ (nm, 2, rows) f HD.out.ow HD.out.nd HD.out.far HLL.out HD.out.sz ?_)
    intro g4 cap4 w6 fp6 ho6 hn6 hs6 ht6
    obtain ⟨e0, e1⟩ := HL.out.fcell ht6
    have HA := Lib.hid (HL.out.app (cur' := Ts ++ [(nm, 2, rows)]) (ok_app HL.out.ok HD.out.ok) (by simp) ht6 ho6 hn6 (fun q => by
      rcases hs6 X q with q | q | q
      · exact HL.out.xf q
      · exact HD.out.xf q
      · have := HL.out.sz; omega))
    have m1 := HA.out.lr.c0
    have m2 := HA.out.lr.f0
    have HLA := Lib.hid (show (Ts ++ [(nm, 2, rows)]).length = Ts.length + 1 by simp)
    clear ho6 hn6 hs6 ht6
    go_wp2_with fail
    have k0 := World.cell?_setCell_same _ _ (.slice (some ⟨g4, 0, none⟩) (Ts.length + 1) cap4) m1
    have hd := HA.out.done (by have := HLA.out; have := HLEN.out; omega)
    rw [HLA.out] at hd
    refine bodyPost_ret (v := .agg #[.slice (some ⟨g4, 0, none⟩) (Ts.length + 1) cap4]) (by simp [results, Tryz.results34, go_sem, k0]) rfl hd
  have tt1 : (x == 1) = false := by rw [beq_eq_false_iff_ne]; exact x1
  by_cases x2 : x = 2
  · subst x2
    clear x0 x1
    go_upto_region 10 with fail
    have HB := Lib.hid (below_any 5 c v l B w2.drew HS2.out.drew.cu (HR.out _ HS2.out.drew.gr) hB)
    have z0 := HS2.out.lx.c0
    have p5 : Ts.length ≤ k1 := by
      obtain ⟨v', xss, fps, e1, hown, _, _⟩ := HS2.out.ow
      injection e1 with e1 _
      subst e1
      rcases hown.2 with ⟨e1, _⟩ | ⟨g', cap', cur', e1, _, _, _, _, _, _⟩
      · cases e1
      · injection e1 with _ e2 e3
        omega
    have p4 : (Ts.length : Int) ≤ (k1 : Int) := by omega
    go_region_law (first | (go_simp; go_at_call 64; refine HB.out.mono ?_; rintro e w7 ⟨x, rfl, hx0, hx1, hc7, hg7⟩; obtain ⟨j, rfl⟩ := Int.eq_ofNat_of_zero_le hx0; (have hjl : j < Ts.length := by have := hx1 (by decide); have := HLEN.out; omega); (have p1 : (0 : Int) ≤ (j : Int) := by omega); (have p2 : (j : Int) ≤ (Ts.length : Int) := by omega); (have p6 : ¬ k1 = j := by omega); (have HS7 := Lib.hid (HS2.out.drew.grown hg7 hc7)); (have HJL := Lib.hid hjl); (have v0 := HS7.out.lx.c0); (have v1 := HS7.out.lx.f0); clear hx0 hx1 hc7 hg7 hjl))
    all_goals
      have m1 : (w7.setCell ⟨X, 0, none⟩ (.slice (some ⟨g, j * 3, none⟩) (Ts.length - j) (k1 - j))).cell? ⟨w.heap.size, 0, none⟩ = some (.slice none 0 0) := (HS7.out.lr.set_far (by have := HS7.out.xb; show X ≠ _; omega) _).c0
      have m2 : w7.frozen? ⟨w.heap.size, 0, none⟩ = false := HS7.out.lr.f0
      go_wp2_with fail
      have k0 := World.cell?_setCell_same _ _ (.slice (some ⟨g, j * 3, none⟩) (Ts.length - j) (k1 - j)) m1
      refine bodyPost_ret (v := .agg #[.slice (some ⟨g, j * 3, none⟩) (Ts.length - j) (k1 - j)]) (by simp [results, Tryz.results34, go_sem, k0]) rfl (HS7.out.doneCut (by have := HLEN.out; omega) HJL.out _ _)
  have tt2 : (x == 2) = false := by rw [beq_eq_false_iff_ne]; exact x2
  by_cases x3 : x = 3
  · subst x3
    clear x0 x1 x2
    have HT := Lib.hid (show Calls Tryz.prog 66 #[.pointer (some ⟨c, 0, none⟩), .string ⟨#[119]⟩, .int .i64 1, .int .i64 2, .int .i64 3] w2 (TabGen 2 w2 c v l ⟨#[119]⟩ 1) from tab_gen 2 3 (by decide) (by decide) ⟨#[119]⟩ 1 (by decide) c v l B w2 HS2.out.cu (HR.out w2 HS2.out.gr) hB)
    go_wp2_with fail
    refine HT.out.mono ?_
    rintro e w3 ⟨y, rows, f, rfl, how, hnf, hwt, hc3, hg3⟩
    obtain ⟨a3, cap3, rfl⟩ := Cd.ow_slice how
    have hs3 := (HS2.out.grown hg3 hc3).alloc (.cells #[.string ⟨#[119]⟩, .int .i64 1, .slice a3 rows.length cap3] 51 (0, 0))
    have HT2 := Lib.hid (show Calls Tryz.prog 66 #[.pointer (some ⟨c, 0, none⟩), .string ⟨#[120]⟩, .int .i64 1, .int .i64 2, .int .i64 3] (w3.alloc (.cells #[.string ⟨#[119]⟩, .int .i64 1, .slice a3 rows.length cap3] 51 (0, 0))) (TabGen 2 (w3.alloc (.cells #[.string ⟨#[119]⟩, .int .i64 1, .slice a3 rows.length cap3] 51 (0, 0))) c v l ⟨#[120]⟩ 1) from tab_gen 2 3 (by decide) (by decide) ⟨#[120]⟩ 1 (by decide) c v l B _ hs3.cu (HR.out _ hs3.gr) hB)
    have HH3 := Lib.hid (And.intro how (And.intro hnf (And.intro hwt (And.intro hc3 hg3))))
    have HY := Lib.hid (Loc3.of (row_alloc w3 (.cells #[.string ⟨#[119]⟩, .int .i64 1, .slice a3 rows.length cap3] 51 (0, 0))))
    have HYC := Lib.hid (show w3.heap.size ≠ c by have := HS2.out.cb; have := hg3.size; have := HS2.out.sz; have := HS2.out.xb; omega)
    clear how hnf hwt hc3 hg3 hs3 HT
    go_wp2_with fail
    refine HT2.out.mono ?_
    rintro e w4 ⟨y2, rows2, f2, rfl, how2, hnf2, hwt2, hc4, hg4⟩
    obtain ⟨a4, cap4, rfl⟩ := Cd.ow_slice how2
    obtain ⟨hL, hD⟩ := HS2.out.laid2 HH3.out.2.2.2.2 HH3.out.2.2.2.1 HH3.out.1 HH3.out.2.1 (nm := ⟨#[119]⟩) (ar := 1) ⟨by show (⟨#[119]⟩ : ByteArray).size ≤ 2; decide, by show (-1 : Int) ≤ 1 ∧ (1 : Int) ≤ 4; decide, by show rowsWt rows ≤ 32; have := HH3.out.2.2.1; omega⟩ 51 51 51 hg4 hc4 how2 hnf2 (nm2 := ⟨#[120]⟩) (ar2 := 1) ⟨by show (⟨#[120]⟩ : ByteArray).size ≤ 2; decide, by show (-1 : Int) ≤ 1 ∧ (1 : Int) ≤ 4; decide, by show rowsWt rows2 ≤ 32; omega⟩
    obtain ⟨q3, q4, q5, _, _, _⟩ := loc_grown HY.out hg4 HYC.out
    have q6 := HY.out.lt
    have hs4 := ((HS2.out.grown HH3.out.2.2.2.2 HH3.out.2.2.2.1).alloc (.cells #[.string ⟨#[119]⟩, .int .i64 1, .slice a3 rows.length cap3] 51 (0, 0))).grown hg4 hc4
    have q1 := hs4.lx.c0
    have q2 : X < w4.heap.size := hs4.sz
    have q7 : w3.heap.size < w4.heap.size := Nat.lt_of_lt_of_le HY.out.lt hg4.size
    have HL := Lib.hid hL
    have HD := Lib.hid hD
    clear hL hD how2 hnf2 hwt2 hc4 hg4 hs4 HT2 HS2 HH3 HY
    go_wp2_with (at_builtin; refine Cd.wpList_appendN2 (c := tabC) rfl (.tmp 50) (.tmp 53) 24 rfl (w.heap.size + 1) 51 (.agg #[.string ⟨#[]⟩, .int .i64 0, .slice none 0 0]) 3 48 rfl Tryz.underlying24 info_x rfl (by decide) _ Ts fp rfl HL.out.ow HL.out.nd (w4.heap.size + 1) _ _ rfl HD.out.at_ (⟨#[119]⟩, 1, rows) f HD.out.ow HD.out.nd HD.out.far (⟨#[120]⟩, 1, rows2) f2 HD.out.ow2 HD.out.nd2 HD.out.far2 HD.out.dis HLL2.out HD.out.sz ?_)
    intro g5 cap5 w6 fp6 ho6 hn6 hs6 ht6
    obtain ⟨e0, e1⟩ := HL.out.fcell ht6
    have HA := Lib.hid (HL.out.app (cur' := Ts ++ [((⟨#[119]⟩, 1, rows) : T3), ((⟨#[120]⟩, 1, rows2) : T3)]) (ok_app2 HL.out.ok HD.out.ok HD.out.ok2) (by simp) ht6 ho6 hn6 (fun q => by
      rcases hs6 X q with q | q | q | q
      · exact HL.out.xf q
      · exact HD.out.xf q
      · exact HD.out.xf2 q
      · have := HL.out.sz; omega))
    have m1 := HA.out.lr.c0
    have m2 := HA.out.lr.f0
    have HLA := Lib.hid (show (Ts ++ [((⟨#[119]⟩, 1, rows) : T3), (⟨#[120]⟩, 1, rows2)]).length = Ts.length + 2 by simp)
    clear ho6 hn6 hs6 ht6
    go_wp2_with fail
    have k0 := World.cell?_setCell_same _ _ (.slice (some ⟨g5, 0, none⟩) (Ts.length + 2) cap5) m1
    have hd := HA.out.done (by have := HLA.out; have := HLEN.out; omega)
    rw [HLA.out] at hd
    refine bodyPost_ret (v := .agg #[.slice (some ⟨g5, 0, none⟩) (Ts.length + 2) cap5]) (by simp [results, Tryz.results34, go_sem, k0]) rfl hd
  have tt3 : (x == 3) = false := by rw [beq_eq_false_iff_ne]; exact x3
  clear x0 x1 x2 x3
  have m0 := HS2.out.lx.c0
  have m1 := HS2.out.lr.c0
  have m2 := HS2.out.lr.f0
  go_wp2_with fail
  have k0 := World.cell?_setCell_same _ _ (.slice (some ⟨g, 0, none⟩) Ts.length k1) m1
  refine bodyPost_ret (v := .agg #[.slice (some ⟨g, 0, none⟩) Ts.length k1]) (by simp [results, Tryz.results34, go_sem, k0]) rfl (HS2.out.done (by have := HLEN.out; omega))
end Go.Proofs.YtmifnbplkaonaaaGreat.DbDraw
