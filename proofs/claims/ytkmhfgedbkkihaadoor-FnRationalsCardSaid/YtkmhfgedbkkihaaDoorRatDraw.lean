/- How the laws draw rationals. -/
import Derived.Test.YtkmhfgedbkkihaaDoorRatMake
import Derived.Test.YtkmhfgedbkkihaaDoorDraw
import Derived.Deep.RegionHeld3
namespace Go.Proofs.YtkmhfgedbkkihaaDoor.RatDraw
open Go Go.RowKit Byt Ratio RatGcd RatMake Draw

def I64 (n : Int) : Prop := -9223372036854775808 ≤ n ∧ n ≤ 9223372036854775807
def zn : List Int := [0, 1, -1, 2, 2147483647, -2147483647, 2147483648]
def zd : List Int := [1, 0, 2, -1, 2147483647, 2147483648]
def zm : List Int := [0, 6, -6, 9223372036854775807, -9223372036854775808, 4294967294]
def zk : List Int := [0, 1, -4, 9223372036854775807, -9223372036854775808, 2147483648]
theorem zn_ok : ∀ t : Fin 7, -9223372036854775808 ≤ zn.getD t.val 0 ∧ zn.getD t.val 0 ≤ 9223372036854775807 := by decide
theorem zd_ok : ∀ t : Fin 6, -9223372036854775808 ≤ zd.getD t.val 0 ∧ zd.getD t.val 0 ≤ 9223372036854775807 := by decide
theorem zm_ok : ∀ t : Fin 6, -9223372036854775808 ≤ zm.getD t.val 0 ∧ zm.getD t.val 0 ≤ 9223372036854775807 := by decide
theorem zk_ok : ∀ t : Fin 6, -9223372036854775808 ≤ zk.getD t.val 0 ∧ zk.getD t.val 0 ≤ 9223372036854775807 := by decide
theorem list_cells (zs : List Int) (w : World) (T : TypeId) : ∀ t, t < zs.length → (w.alloc (.cells (zs.map fun z => Value.int .i64 z).toArray T (0, 0))).cell? ⟨w.heap.size, t, none⟩ = some (.int .i64 (zs.getD t 0)) := by
  intro t ht
  rw [World.cell?_alloc_mark]
  simp [ht]

theorem row_grown {w w' : World} {c b : Nat} {o : Obj} (hg : w.grownBy w' (some c)) (h : w.heap[b]? = some o) (hne : b ≠ c) : w'.heap[b]? = some o := by
  rw [hg.block b (Array.getElem?_eq_some_iff.1 h).1 (by intro q; injection q with q; exact hne q)]
  exact h
theorem grown_new {w w' : World} {c : Nat} {p : Addr} (u : Value) (h : w.grownBy w' (some c)) (hp : w.heap.size ≤ p.block) : w.grownBy (w'.setCell p u) (some c) :=
  ⟨h.os, h.tape, h.output, by show _ ≤ (w'.setCell p u).heap.size; simp; exact h.size, fun k hk hne => (heap_setCell_other w' p k u (by omega)).trans (h.block k hk hne)⟩
theorem grown_alloc {w w' : World} {c : Nat} (o : Obj) (h : w.grownBy w' (some c)) : w.grownBy (w'.alloc o) (some c) :=
  grown_trans h (World.grownBy_alloc w' o (some c))
theorem cur_far {w : World} {c : Nat} {v : Value} {l : List UInt8} {p : Addr} (u : Value) (h : Cur w c v l) (hp : c ≠ p.block) : Cur (w.setCell p u) c v l := by
  obtain ⟨i, x, hi, hh⟩ := h
  exact ⟨i, x, hi, by rw [heap_setCell_other w p c u hp]; exact hh⟩
theorem cur_alloc {w : World} {c : Nat} {v : Value} {l : List UInt8} (o : Obj) (h : Cur w c v l) : Cur (w.alloc o) c v l :=
  h.kept (World.grownBy_alloc w o none) (by intro q; cases q)
theorem row_two {w : World} {b : Nat} {x0 x1 : Value} {T : TypeId} (h : w.heap[b]? = some (.cells #[x0, x1] T (0, 0))) :
    w.cell? ⟨b, 0, none⟩ = some x0 ∧ w.cell? ⟨b, 1, none⟩ = some x1 ∧ w.frozen? ⟨b, 0, none⟩ = false ∧ w.frozen? ⟨b, 1, none⟩ = false :=
  two_cells (Below.refl (b + 1) w) h (by omega)

set_option maxRecDepth 100000 in
set_option maxHeartbeats 1600000 in
/-- Some rational, valid or not. -/
theorem rat_any (c : Nat) (v : Value) (l : List UInt8) (B : Nat) (w : World) (hc : Cur w c v l) (hr : Reads w v l B) (hB : B ≤ c) :
    Calls Tryd.prog 27 #[.pointer (some ⟨c, 0, none⟩)] w fun e w' => ∃ n d : Int, e = .returned (.agg #[.int .i64 n, .int .i64 d]) ∧ (-9223372036854775808 ≤ n ∧ n ≤ 9223372036854775807) ∧ (-9223372036854775808 ≤ d ∧ d ≤ 9223372036854775807) ∧ Cur w' c v l ∧ w.grownBy w' (some c) := by
  have hcs := cur_size hc
  have hga := World.grownBy_alloc w (.cells #[.int .i64 0, .int .i64 0] 25) (some c)
  have hca := cur_alloc (.cells #[.int .i64 0, .int .i64 0] 25) hc
  have hra := hr.later (below_of hga hB hcs)
  have HA := Lib.hid (And.intro hga (alloc_at0 w (.cells #[.int .i64 0, .int .i64 0] 25)))
  have HC := Lib.hid hca
  clear hga
  go_enter Tryd.func27, Tryd.ntmps27
  go_wp2_with fail
  refine (below_any 8 c v l B _ hca hra hB).mono ?_
  rintro e w1 ⟨x, rfl, hx0, hx8, hc1, hg1⟩
  have hr1 := hra.later (below_of hg1 hB (cur_size hca))
  have R1 := Lib.hid (row_grown hg1 HA.out.2 (by omega))
  have G1 := Lib.hid (grown_trans HA.out.1 hg1)
  have hcs1 := cur_size hc1
  have hsz1 : w.heap.size < w1.heap.size := (Array.getElem?_eq_some_iff.1 R1.out).1
  clear hca hra hg1 hc hr
  by_cases h0 : x = 0
  · have t0 : (x == 0) = true := by rw [h0]; rfl
    clear h0
    have hc2 := cur_alloc (.cells (zn.map fun z => Value.int .i64 z).toArray 3) hc1
    have hr2 := hr1.later (below_of (World.grownBy_alloc w1 (.cells (zn.map fun z => Value.int .i64 z).toArray 3) (some c)) hB hcs1)
    have HP := Lib.hid (pick_any zn w1.heap.size (by decide) (by decide) c v l B _ hc2 hr2 hB (by omega) (list_cells zn w1 3))
    have G2 := Lib.hid (grown_alloc (.cells (zn.map fun z => Value.int .i64 z).toArray 3) G1.out)
    have R2 := Lib.hid (row_alloc (.cells (zn.map fun z => Value.int .i64 z).toArray 3) R1.out)
    have HR2 := Lib.hid hr2
    have HC2 := Lib.hid hc2
    clear hr2 hc2 hr1
    go_wp2_with fail
    refine HP.out.mono ?_
    rintro e w2 ⟨t, ht, rfl, hc3, hg3⟩
    have hn := zn_ok ⟨t, ht⟩
    have hr3 := HR2.out.later (below_of hg3 hB (cur_size HC2.out))
    have G3 := Lib.hid (grown_trans G2.out hg3)
    have R3 := Lib.hid (row_grown hg3 R2.out (by omega))
    have hcs3 := cur_size hc3
    simp only at hn
    generalize zn.getD t 0 = n at *
    clear hg3 HP
    have hc4 := cur_alloc (.cells (zd.map fun z => Value.int .i64 z).toArray 3) hc3
    have hr4 := hr3.later (below_of (World.grownBy_alloc w2 (.cells (zd.map fun z => Value.int .i64 z).toArray 3) (some c)) hB hcs3)
    have HP := Lib.hid (pick_any zd w2.heap.size (by decide) (by decide) c v l B _ hc4 hr4 hB (by omega) (list_cells zd w2 3))
    have G4 := Lib.hid (grown_alloc (.cells (zd.map fun z => Value.int .i64 z).toArray 3) G3.out)
    have R4 := Lib.hid (row_alloc (.cells (zd.map fun z => Value.int .i64 z).toArray 3) R3.out)
    clear hr4 hc4 hr3
    go_wp2_with fail
    refine HP.out.mono ?_
    rintro e w3 ⟨t', ht', rfl, hc5, hg5⟩
    have hd := zd_ok ⟨t', ht'⟩
    have G5 := Lib.hid (grown_trans G4.out hg5)
    obtain ⟨p0, p1, p2, p3⟩ := row_two (row_grown hg5 R4.out (by omega))
    have HC5 := Lib.hid hc5
    simp only at hd
    generalize zd.getD t' 0 = d at *
    clear hg5 HP hc5
    go_wp2_with fail
    refine bodyPost_ret (v := .agg #[.int .i64 n, .int .i64 d]) (by simp [results, Tryd.results27, go_sem, p0, p1]) rfl ⟨n, d, rfl, hn, hd, ?_, ?_⟩
    · exact cur_far _ (cur_far _ HC5.out (Nat.ne_of_lt hcs)) (Nat.ne_of_lt hcs)
    · exact grown_new _ (grown_new _ G5.out (Nat.le_refl _)) (Nat.le_refl _)
  · have t0 : (x == 0) = false := by rw [beq_eq_false_iff_ne]; exact h0
    by_cases h1 : x = 1
    · have t1 : (x == 1) = true := by rw [h1]; rfl
      clear h0 h1
      go_wp2_with fail
      refine (below_any 9 c v l B w1 hc1 hr1 hB).mono ?_
      rintro e w2 ⟨y, rfl, hy0, hy1, hc2, hg2⟩
      have hy := hy1 (by decide)
      obtain ⟨p0, p1, p2, p3⟩ := row_two (row_grown hg2 R1.out (by omega))
      have G2 := Lib.hid (grown_trans G1.out hg2)
      have HC2 := Lib.hid hc2
      clear hg2 hc2 hy1
      go_wp2_with fail
      refine bodyPost_ret (v := .agg #[.int .i64 (y * 2), .int .i64 2]) (by simp [results, Tryd.results27, go_sem, p0, p1]) rfl ⟨y * 2, 2, rfl, by omega, by decide, ?_, ?_⟩
      · exact cur_far _ (cur_far _ HC2.out (Nat.ne_of_lt hcs)) (Nat.ne_of_lt hcs)
      · exact grown_new _ (grown_new _ G2.out (Nat.le_refl _)) (Nat.le_refl _)
    · have t1 : (x == 1) = false := by rw [beq_eq_false_iff_ne]; exact h1
      clear h0 h1
      go_wp2_with fail
      refine (below_any 41 c v l B w1 hc1 hr1 hB).mono ?_
      rintro e w2 ⟨y, rfl, hy0, hy1, hc2, hg2⟩
      have hy := hy1 (by decide)
      have hr2 := hr1.later (below_of hg2 hB (cur_size hc1))
      have R2 := Lib.hid (row_grown hg2 R1.out (by omega))
      have G2 := Lib.hid (grown_trans G1.out hg2)
      clear hg2 hy1
      go_wp2_with fail
      refine (below_any 12 c v l B w2 hc2 hr2 hB).mono ?_
      rintro e w3 ⟨z, rfl, hz0, hz1, hc3, hg3⟩
      have hz := hz1 (by decide)
      have R3 := Lib.hid (row_grown hg3 R2.out (by omega))
      have G3 := Lib.hid (grown_trans G2.out hg3)
      have HC3 := Lib.hid hc3
      have hcs3 := cur_size hc3
      have HM := Lib.hid (spec_make (y - 20) (1 + z) w3 ⟨by omega, by omega⟩ ⟨by omega, by omega⟩)
      have hmb := mk_bounds (y - 20) (1 + z)
      clear hg3 hz1 hc3 hc2 hr2 hr1
      go_wp2_with fail
      refine HM.out.mono ?_
      rintro e w4 ⟨rfl, hb4⟩
      have R4 := row_later hb4 R3.out (Array.getElem?_eq_some_iff.1 R3.out).1
      obtain ⟨p0, p1, p2, p3⟩ := row_two R4
      have hsz4 : w.heap.size < w4.heap.size := (Array.getElem?_eq_some_iff.1 R4).1
      have G4 : w.grownBy w4 (some c) := ⟨hb4.os.trans G3.out.os, hb4.tape.trans G3.out.tape, hb4.output.trans G3.out.output, Nat.le_trans G3.out.size hb4.size, fun k hk hne => (hb4.block k (Nat.lt_of_lt_of_le hk G3.out.size)).trans (G3.out.block k hk hne)⟩
      have HG4 := Lib.hid G4
      have HC4 := Lib.hid (cur_below HC3.out hb4 hcs3)
      clear hb4 HM R4 G4
      generalize mkN (y - 20) (1 + z) = n at *
      generalize mkD (y - 20) (1 + z) = d at *
      go_wp2_with fail
      refine bodyPost_ret (v := .agg #[.int .i64 n, .int .i64 d]) (by simp [results, Tryd.results27, go_sem, World.cell?_alloc_lt, hsz4, p0, p1]) rfl ⟨n, d, rfl, by omega, by omega, ?_, ?_⟩
      · exact cur_alloc _ (cur_far _ (cur_far _ HC4.out (Nat.ne_of_lt hcs)) (Nat.ne_of_lt hcs))
      · exact grown_alloc _ (grown_new _ (grown_new _ HG4.out (Nat.le_refl _)) (Nat.le_refl _))

theorem once_any (n : Int) (c : Nat) (v : Value) (l : List UInt8) (B : Nat) (w : World) (hc : Cur w c v l) (hr : Reads w v l B) (hB : B ≤ c) :
    Calls Tryd.prog 36 #[.pointer (some ⟨c, 0, none⟩), .int .i64 n] w fun e w' => ∃ b : Bool, e = .returned (.bool b) ∧ Cur w' c v l ∧ w.grownBy w' (some c) := by
  have hby := Lib.hid (below_any n c v l B w hc hr hB)
  go_enter Tryd.func36, Tryd.ntmps36
  go_wp2_with fail
  refine hby.out.mono ?_
  rintro e w1 ⟨x, rfl, hx0, hx1, hc1, hg1⟩
  go_wp2_with fail
  go_ret
  exact ⟨x == 0, rfl, hc1, hg1⟩

set_option maxRecDepth 100000 in
set_option maxHeartbeats 1600000 in
/-- Two ints. -/
theorem draw_make (v : Value) (l : List UInt8) (B : Nat) (w : World) (hr : Reads w v l B) (hB : B ≤ w.heap.size) :
    Calls Tryd.prog 19 #[v] w fun e w' => ∃ n d : Int, e = .returned (.tuple #[.int .i64 n, .int .i64 d]) ∧ (-9223372036854775808 ≤ n ∧ n ≤ 9223372036854775807) ∧ (-9223372036854775808 ≤ d ∧ d ≤ 9223372036854775807) ∧ Below B w w' := by
  have h1 := Lib.hid (new_any v l B w hr)
  go_enter Tryd.func19, Tryd.ntmps19
  go_wp2_with fail
  refine h1.out.mono ?_
  rintro e w1 ⟨rfl, hc1, hg1⟩
  have hb1 : Below B w w1 := (Below.refl _ _).grown hg1 hB (by simp)
  have hr1 := hr.later hb1
  have hcs1 := cur_size hc1
  clear hg1
  go_wp2_with fail
  refine (once_any 4 _ v l B w1 hc1 hr1 hB).mono ?_
  rintro e w2 ⟨b, rfl, hc2, hg2⟩
  have hb2 := hb1.trans (below_of hg2 hB hcs1)
  have hr2 := hr.later hb2
  have hcs2 := cur_size hc2
  clear hg2 hr1
  cases b
  · go_wp2_with fail
    refine (below_any 200 _ v l B w2 hc2 hr2 hB).mono ?_
    rintro e w3 ⟨x, rfl, hx0, hx1, hc3, hg3⟩
    have hx := hx1 (by decide)
    have hb3 := hb2.trans (below_of hg3 hB hcs2)
    have hr3 := hr.later hb3
    have hcs3 := cur_size hc3
    clear hg3 hx1 hr2
    go_wp2_with fail
    refine (below_any 60 _ v l B w3 hc3 hr3 hB).mono ?_
    rintro e w4 ⟨y, rfl, hy0, hy1, hc4, hg4⟩
    have hy := hy1 (by decide)
    have hb4 := hb3.trans (below_of hg4 hB hcs3)
    clear hg4 hy1 hr3
    go_wp2_with fail
    go_ret2
    exact ⟨x - 100, y - 30, rfl, by omega, by omega, hb4⟩
  · have hc3 := cur_alloc (.cells (zm.map fun z => Value.int .i64 z).toArray 3) hc2
    have hb3 := Below.alloc hb2 (Nat.le_trans hB (Nat.le_of_lt hcs2)) (.cells (zm.map fun z => Value.int .i64 z).toArray 3)
    have hr3 := hr.later hb3
    have HP := Lib.hid (pick_any zm w2.heap.size (by decide) (by decide) _ v l B _ hc3 hr3 hB (by omega) (list_cells zm w2 3))
    have HB3 := Lib.hid hb3
    have hcs3 := cur_size hc3
    clear hc3 hr3 hr2 hb3
    go_wp2_with fail
    refine HP.out.mono ?_
    rintro e w3 ⟨t, ht, rfl, hc4, hg4⟩
    have hn := zm_ok ⟨t, ht⟩
    have hb4 := HB3.out.trans (below_of hg4 hB hcs3)
    have hcs4 := cur_size hc4
    simp only at hn
    generalize zm.getD t 0 = n at *
    clear hg4 HP
    have hc5 := cur_alloc (.cells (zk.map fun z => Value.int .i64 z).toArray 3) hc4
    have hb5 := Below.alloc hb4 (Nat.le_trans hB (Nat.le_of_lt hcs4)) (.cells (zk.map fun z => Value.int .i64 z).toArray 3)
    have hr5 := hr.later hb5
    have HP := Lib.hid (pick_any zk w3.heap.size (by decide) (by decide) _ v l B _ hc5 hr5 hB (by omega) (list_cells zk w3 3))
    have HB5 := Lib.hid hb5
    have hcs5 := cur_size hc5
    clear hc5 hr5 hb5
    go_wp2_with fail
    refine HP.out.mono ?_
    rintro e w4 ⟨t', ht', rfl, hc6, hg6⟩
    have hd := zk_ok ⟨t', ht'⟩
    have hb6 := HB5.out.trans (below_of hg6 hB hcs5)
    simp only at hd
    generalize zk.getD t' 0 = d at *
    clear hg6 HP
    go_wp2_with fail
    go_ret2
    exact ⟨n, d, rfl, hn, hd, hb6⟩

set_option maxRecDepth 100000 in
set_option maxHeartbeats 1600000 in
/-- Two rationals. -/
theorem draw_pair (v : Value) (l : List UInt8) (B : Nat) (w : World) (hr : Reads w v l B) (hB : B ≤ w.heap.size) :
    Calls Tryd.prog 7 #[v] w fun e w' => ∃ n1 d1 n2 d2 : Int, e = .returned (.tuple #[.agg #[.int .i64 n1, .int .i64 d1], .agg #[.int .i64 n2, .int .i64 d2]]) ∧ (-9223372036854775808 ≤ n1 ∧ n1 ≤ 9223372036854775807) ∧ (-9223372036854775808 ≤ d1 ∧ d1 ≤ 9223372036854775807) ∧ (-9223372036854775808 ≤ n2 ∧ n2 ≤ 9223372036854775807) ∧ (-9223372036854775808 ≤ d2 ∧ d2 ≤ 9223372036854775807) ∧ Below B w w' := by
  have hba : Below B w ((w.alloc (.cells #[.int .i64 0, .int .i64 0] 25)).alloc (.cells #[.int .i64 0, .int .i64 0] 25)) := ((Below.refl _ _).alloc hB _).alloc (by simp; omega) _
  have h1' := new_any v l B _ (hr.later hba)
  rw [show ((w.alloc (.cells #[.int .i64 0, .int .i64 0] 25)).alloc (.cells #[.int .i64 0, .int .i64 0] 25)).heap.size = w.heap.size + 2 by show ((w.heap.push _).push _).size = _; simp] at h1'
  have h1 := Lib.hid h1'
  have HR := Lib.hid (And.intro (alloc_at1 w (.cells #[.int .i64 0, .int .i64 0] 25) (.cells #[.int .i64 0, .int .i64 0] 25)) (alloc_at2 w (.cells #[.int .i64 0, .int .i64 0] 25) (.cells #[.int .i64 0, .int .i64 0] 25)))
  have HBA := Lib.hid hba
  clear hba h1'
  go_enter Tryd.func7, Tryd.ntmps7
  go_wp2_with fail
  refine h1.out.mono ?_
  rintro e w1 ⟨rfl, hc1, hg1⟩
  have hb1 : Below B w w1 := HBA.out.trans ((Below.refl _ _).grown hg1 (by simp; omega) (by simp))
  have rA : w1.heap[w.heap.size]? = some (.cells #[.int .i64 0, .int .i64 0] 25 (0, 0)) := by rw [hg1.block _ (by simp; omega) (by simp)]; exact HR.out.1
  have rB : w1.heap[w.heap.size + 1]? = some (.cells #[.int .i64 0, .int .i64 0] 25 (0, 0)) := by rw [hg1.block _ (by simp) (by simp)]; exact HR.out.2
  have hr1 := hr.later hb1
  have hcs1 := cur_size hc1
  have RA := Lib.hid rA
  have RB := Lib.hid rB
  clear hg1 rA rB
  go_wp2_with fail
  refine (rat_any _ v l B w1 hc1 hr1 (by omega)).mono ?_
  rintro e w2 ⟨n1, d1, rfl, hn1, hd1, hc2, hg2⟩
  have hb2 := hb1.trans (below_of hg2 (by omega) hcs1)
  have RA2 := Lib.hid (row_alloc (.cells #[.int .i64 n1, .int .i64 d1] 25) (row_grown hg2 RA.out (by omega)))
  have RB2 := Lib.hid (row_alloc (.cells #[.int .i64 n1, .int .i64 d1] 25) (row_grown hg2 RB.out (by omega)))
  have R52 := Lib.hid (alloc_at0 w2 (.cells #[.int .i64 n1, .int .i64 d1] 25))
  have hcs2 := cur_size hc2
  have hc3 := cur_alloc (.cells #[.int .i64 n1, .int .i64 d1] 25) hc2
  have hb3 := Below.alloc hb2 (by omega) (.cells #[.int .i64 n1, .int .i64 d1] 25)
  have hr3 := hr.later hb3
  have hz2 : w.heap.size + 2 < w2.heap.size := hcs2
  clear hg2 hr1 hb1 hb2 hc2 hc1
  go_wp2_with fail
  generalize w2.alloc (.cells #[.int .i64 n1, .int .i64 d1] 25) = W3 at *
  obtain ⟨c0, c1, _, _⟩ := row_two R52.out
  have HRA := Lib.hid (rat_any (w.heap.size + 2) v l B W3.drew hc3 hr3 (by omega))
  have HG4 := Lib.hid (fun (w4 : World) (hg4 : W3.drew.grownBy w4 (some (w.heap.size + 2))) => And.intro (row_two (row_grown (w := W3.drew) hg4 RA2.out (by omega))) (And.intro (row_two (row_grown (w := W3.drew) hg4 RB2.out (by omega))) (And.intro (row_two (row_grown (w := W3.drew) hg4 R52.out (by omega))) ((Below.drew hb3).trans (below_of (B := B) (w := W3.drew) hg4 (by omega) (cur_size hc3))))))
  have ne0 : w.heap.size ≠ w2.heap.size := by omega
  have ne1 : w.heap.size + 1 ≠ w2.heap.size := by omega
  go_region_held3 (fun wx => wx.cell? ⟨w2.heap.size, 0, none⟩ = some (.int .i64 n1) ∧ wx.cell? ⟨w2.heap.size, 1, none⟩ = some (.int .i64 d1))
    ((refine ⟨by simp [*, World.cell?_setCell_far], by simp [*, World.cell?_setCell_far]⟩))
    (first | (go_at_call 27; refine HRA.out.mono ?_; rintro e w4 ⟨n2, d2, rfl, hn2, hd2, hc4, hg4⟩; obtain ⟨⟨p0, p1, p2, p3⟩, ⟨q0, q1, q2, q3⟩, ⟨c0, c1, _, _⟩, hb4⟩ := HG4.out w4 hg4))
  go_wp2_with fail
  refine bodyPost_ret (v := .tuple #[.agg #[.int .i64 n1, .int .i64 d1], .agg #[.int .i64 n2, .int .i64 d2]]) (by simp [results, Tryd.results7, go_sem, p0, p1, q0, q1]) rfl ⟨n1, d1, n2, d2, rfl, hn1, hd1, hn2, hd2, ?_⟩
  exact (((hb4.setCell hB _).setCell hB _).setCell (by show B ≤ w.heap.size + 1; omega) _).setCell (by show B ≤ w.heap.size + 1; omega) _
end Go.Proofs.YtkmhfgedbkkihaaDoor.RatDraw
