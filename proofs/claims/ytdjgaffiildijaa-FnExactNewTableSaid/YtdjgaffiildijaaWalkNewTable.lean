/- The walk of the exact law on NewTable, out of the two functions' contracts. -/
import Derived.Test.YtdjgaffiildijaaExact
import Derived.Deep.DeepCutAuto
namespace Go.Proofs.Ytdjgaffiildijaa.WalkNewTable
open Go Go.RowKit Byt Ints IntsLaw Cd Rows2 Tab TabSpec Exact
set_option maxRecDepth 100000 in
set_option maxHeartbeats 6400000 in
theorem walk (a0 : ByteArray) (a1 : Int) (v2 : Value) (l2 : List (List Int)) (N0 : ByteArray) (A0 : Int) (R0 : List (List Int)) (B1 : Bool) (w : World) (hs0 : a0.size ≤ maxLen) (hr2 : rowsC.rd w (· < w.heap.size) [v2] l2) (hw0 : a0.size ≤ 1048576 → rowsWt l2 ≤ 1048576 → R0.flatten.length ≤ 1048577)
    (HS : a0.size ≤ 1048576 → rowsWt l2 ≤ 1048576 → ∀ (v2 : Value) (S2 : Nat → Prop) (w' : World), rowsC.rd w' S2 [v2] l2 → Calls Try.prog 34 #[.string a0, .int .i64 a1, v2] w' fun e w'' => ∃ u0 f0, e = .returned (.tuple #[.agg #[.string N0, .int .i64 A0, u0], .bool B1]) ∧ rowsC.ow w'' w'.heap.size [u0] R0 f0 ∧ f0.Nodup ∧ Below w'.heap.size w' w'')
    (HI : a0.size ≤ 1048576 → rowsWt l2 ≤ 1048576 → ∀ (v2 : Value) (S2 : Nat → Prop) (w' : World), rowsC.rd w' S2 [v2] l2 → Calls Try.prog 36 #[.string a0, .int .i64 a1, v2] w' fun e w'' => ∃ u0 f0, e = .returned (.tuple #[.agg #[.string N0, .int .i64 A0, u0], .bool B1]) ∧ rowsC.ow w'' w'.heap.size [u0] R0 f0 ∧ f0.Nodup ∧ Below w'.heap.size w' w'') :
    Calls Try.prog 8 #[.string a0, .int .i64 a1, v2] w fun e w' => e = .returned (.bool true) ∧ Below w.heap.size w w' := by
  have HSh := Lib.hid HS
  have HIh := Lib.hid HI
  clear HS HI
  have HR2 := Lib.hid hr2
  obtain ⟨q2, c2, rfl, hl2⟩ := rows_form hr2
  clear hr2
  unfold maxLen at hs0
  by_cases hb0 : 1048576 < a0.size
  · go_enter Try.func8, Try.ntmps8
    go_wp2_with fail
    go_ret
    first | exact ⟨rfl, Below.refl _ _⟩ | exact ⟨rfl, below_alloc _ _⟩ | exact ⟨rfl, below_then (below_alloc _ _) (below_alloc _ _)⟩
  have HL0 := Lib.hid (show a0.size ≤ 1048576 by omega)
  go_enter Try.func8, Try.ntmps8
  go_wp2_with fail
  have HB := Lib.hid (Below.refl w.heap.size w)
  refine (sz_rows _ l2 _ 1048576 w HR2.out (by omega)).mono ?_
  rintro e W2z ⟨rfl, rfl⟩
  by_cases hk2 : rowsWt l2 ≤ 1048576
  case neg =>
    rw [left_no hk2]
    clear hk2
    go_wp2_with fail
    go_ret
    exact ⟨rfl, HB.out⟩
  rw [left_yes hk2]
  have HL2 := Lib.hid hk2
  have HX2 := Lib.hid (show rowsWt l2 ≤ 1048576 by have := HL2.out; omega)
  have hge2 : ¬ (((1048576 - rowsWt l2 : Nat) : Int) < 0) := by omega
  clear hk2
  have HW0 := Lib.hid (hw0 HL0.out HX2.out)
  clear hw0
  have HB0 := Lib.hid (show w.heap.size ≤ w.heap.size from HB.out.size)
  have hz0 : w.heap.size ≤ w.heap.size := HB.out.size
  go_wp2_with fail
  refine (to_rows _ l2 _ w HR2.out (by have := HX2.out; omega)).mono ?_
  rintro e W1 ⟨s2_v, s2_f, rfl, s2_o, s2_n, hbx⟩
  obtain ⟨s2_a, s2_c, rfl⟩ := Cd.ow_slice s2_o
  replace HB := Lib.hid (below_then HB.out hbx)
  replace HR2 := Lib.hid (Cd.later HR2.out hbx)
  have zW1 := hbx.size
  clear hbx
  have s2_O := Lib.hid s2_o
  have s2_N := Lib.hid s2_n
  have s2_B := Lib.hid (bound_of s2_o)
  clear s2_o s2_n
  go_wp2_with fail
  refine (HSh.out HL0.out HX2.out _ _ W1 (rowsC.ow_rd s2_O.out)).mono ?_
  rintro e W2 ⟨w0_v, w0_f, rfl, w0_o, w0_n, hbx⟩
  obtain ⟨w0_a, w0_c, rfl⟩ := Cd.ow_slice w0_o
  replace HB := Lib.hid (below_then HB.out hbx)
  replace HR2 := Lib.hid (Cd.later HR2.out hbx)
  replace s2_O := Lib.hid (Cd.ow_later s2_O.out hbx)
  have zW2 := hbx.size
  clear hbx
  have w0_O := Lib.hid w0_o
  have w0_N := Lib.hid w0_n
  have w0_B := Lib.hid (bound_of w0_o)
  clear w0_o w0_n
  go_wp2_with fail
  generalize hg : World.alloc W2 _ = W3
  obtain ⟨rg, zW3, hbg⟩ := start1 W2 _ hg
  clear hg
  replace HB := Lib.hid (below_then HB.out hbg)
  replace HR2 := Lib.hid (Cd.later HR2.out hbg)
  replace w0_O := Lib.hid (Cd.ow_later w0_O.out hbg)
  have Lw0 := Lib.hid (Loc3.of rg)
  clear hbg rg
  refine (to_rows _ l2 _ W3 HR2.out (by have := HX2.out; omega)).mono ?_
  rintro e W4 ⟨x2_v, x2_f, rfl, x2_o, x2_n, hbx⟩
  obtain ⟨x2_a, x2_c, rfl⟩ := Cd.ow_slice x2_o
  replace HB := Lib.hid (below_then HB.out hbx)
  replace HR2 := Lib.hid (Cd.later HR2.out hbx)
  replace w0_O := Lib.hid (Cd.ow_later w0_O.out hbx)
  replace Lw0 := Lib.hid (Lw0.out.later hbx)
  have zW4 := hbx.size
  clear hbx
  have x2_O := Lib.hid x2_o
  have x2_N := Lib.hid x2_n
  have x2_B := Lib.hid (bound_of x2_o)
  clear x2_o x2_n
  go_wp2_with fail
  refine (HIh.out HL0.out HX2.out _ _ W4 (rowsC.ow_rd x2_O.out)).mono ?_
  rintro e W5 ⟨g0_v, g0_f, rfl, g0_o, g0_n, hbx⟩
  obtain ⟨g0_a, g0_c, rfl⟩ := Cd.ow_slice g0_o
  replace HB := Lib.hid (below_then HB.out hbx)
  replace HR2 := Lib.hid (Cd.later HR2.out hbx)
  replace w0_O := Lib.hid (Cd.ow_later w0_O.out hbx)
  replace Lw0 := Lib.hid (Lw0.out.later hbx)
  replace x2_O := Lib.hid (Cd.ow_later x2_O.out hbx)
  have zW5 := hbx.size
  clear hbx
  have g0_O := Lib.hid g0_o
  have g0_N := Lib.hid g0_n
  have g0_B := Lib.hid (bound_of g0_o)
  clear g0_o g0_n
  have y0a := Lw0.out.c0
  have y0b := Lw0.out.c1
  have y0c := Lw0.out.c2
  have y0d := Lw0.out.lt
  go_wp2_with fail
  clear y0a y0b y0c y0d
  generalize hg : World.alloc W5 _ = W6
  obtain ⟨rg, zW6, hbg⟩ := start1 W5 _ hg
  clear hg
  replace HB := Lib.hid (below_then HB.out hbg)
  replace HR2 := Lib.hid (Cd.later HR2.out hbg)
  replace w0_O := Lib.hid (Cd.ow_later w0_O.out hbg)
  replace Lw0 := Lib.hid (Lw0.out.later hbg)
  replace x2_O := Lib.hid (Cd.ow_later x2_O.out hbg)
  replace g0_O := Lib.hid (Cd.ow_later g0_O.out hbg)
  have Lg0 := Lib.hid (Loc3.of rg)
  clear hbg rg
  refine (eq_table N0 A0 _ _ R0 _ _ W6 (rowsC.ow_rd g0_O.out) (rowsC.ow_rd w0_O.out)).mono ?_
  rintro e W7 ⟨rfl, hbx⟩
  replace HB := Lib.hid (below_then HB.out hbx)
  replace HR2 := Lib.hid (Cd.later HR2.out hbx)
  replace w0_O := Lib.hid (Cd.ow_later w0_O.out hbx)
  replace Lw0 := Lib.hid (Lw0.out.later hbx)
  replace x2_O := Lib.hid (Cd.ow_later x2_O.out hbx)
  replace g0_O := Lib.hid (Cd.ow_later g0_O.out hbx)
  replace Lg0 := Lib.hid (Lg0.out.later hbx)
  have zW7 := hbx.size
  clear hbx
  go_wp2_with fail
  refine (to_rows _ l2 _ W7 HR2.out (by have := HX2.out; omega)).mono ?_
  rintro e W8 ⟨k2_v, k2_f, rfl, k2_o, k2_n, hbx⟩
  obtain ⟨k2_a, k2_c, rfl⟩ := Cd.ow_slice k2_o
  replace HB := Lib.hid (below_then HB.out hbx)
  replace HR2 := Lib.hid (Cd.later HR2.out hbx)
  replace w0_O := Lib.hid (Cd.ow_later w0_O.out hbx)
  replace Lw0 := Lib.hid (Lw0.out.later hbx)
  replace x2_O := Lib.hid (Cd.ow_later x2_O.out hbx)
  replace g0_O := Lib.hid (Cd.ow_later g0_O.out hbx)
  replace Lg0 := Lib.hid (Lg0.out.later hbx)
  have zW8 := hbx.size
  clear hbx
  have k2_O := Lib.hid k2_o
  have k2_N := Lib.hid k2_n
  have k2_B := Lib.hid (bound_of k2_o)
  clear k2_o k2_n
  go_wp2_with fail
  refine (eq_r _ _ l2 _ _ W8 (rowsC.ow_rd x2_O.out) (rowsC.ow_rd k2_O.out)).mono ?_
  rintro e W9 ⟨rfl, hbx⟩
  replace HB := Lib.hid (below_then HB.out hbx)
  replace HR2 := Lib.hid (Cd.later HR2.out hbx)
  replace w0_O := Lib.hid (Cd.ow_later w0_O.out hbx)
  replace Lw0 := Lib.hid (Lw0.out.later hbx)
  replace x2_O := Lib.hid (Cd.ow_later x2_O.out hbx)
  replace g0_O := Lib.hid (Cd.ow_later g0_O.out hbx)
  replace Lg0 := Lib.hid (Lg0.out.later hbx)
  have zW9 := hbx.size
  clear hbx
  go_wp2_with fail
  have HMK := Lib.hid (mark_rows _ l2 _ (1) x2_f W9 x2_O.out x2_N.out (by have := HX2.out; unfold rowsWt at this; omega) (by omega))
  obtain ⟨kk2, hkk2⟩ : ∃ kk, 1 + l2.flatten.length = kk := ⟨_, rfl⟩
  have bkk2 : kk2 ≤ 1048578 := by have := (show l2.flatten.length ≤ 1048577 from (by have := HX2.out; unfold rowsWt at this; omega)); omega
  rw [hkk2] at HMK
  have Hkk2 := Lib.hid hkk2
  clear hkk2
  refine HMK.out.mono ?_
  rintro e W10 ⟨rfl, x2_o, ht⟩
  have zW10 := ht.size
  replace HB := Lib.hid (Cd.Touch.below HB.out ht (fun b hb => by have := x2_B.out b hb; have := HB0.out; omega))
  replace HR2 := Lib.hid (Cd.touched HR2.out ht (fun b hb q => by have := x2_B.out b hb; have := HB0.out; omega))
  replace w0_O := Lib.hid (Cd.ow_touched w0_O.out ht (fun b hb q => by have := x2_B.out b q; have := w0_B.out b hb; omega))
  replace Lw0 := Lib.hid (Lw0.out.touched ht (fun q => by have := x2_B.out _ q; have := HB0.out; omega))
  replace g0_O := Lib.hid (Cd.ow_touched g0_O.out ht (fun b hb q => by have := x2_B.out b q; have := g0_B.out b hb; omega))
  replace Lg0 := Lib.hid (Lg0.out.touched ht (fun q => by have := x2_B.out _ q; have := HB0.out; omega))
  have x2_M := Lib.hid x2_o
  clear x2_o ht
  have y0a := Lg0.out.c0
  have y0b := Lg0.out.c1
  have y0c := Lg0.out.c2
  have y0d := Lg0.out.lt
  have y1a := Lw0.out.c0
  have y1b := Lw0.out.c1
  have y1c := Lw0.out.c2
  have y1d := Lw0.out.lt
  go_wp2_with fail
  clear y0a y0b y0c y0d y1a y1b y1c y1d
  refine (eq_table N0 A0 _ _ R0 _ _ W10 (rowsC.ow_rd g0_O.out) (rowsC.ow_rd w0_O.out)).mono ?_
  rintro e W11 ⟨rfl, hbx⟩
  replace HB := Lib.hid (below_then HB.out hbx)
  replace HR2 := Lib.hid (Cd.later HR2.out hbx)
  replace w0_O := Lib.hid (Cd.ow_later w0_O.out hbx)
  replace Lw0 := Lib.hid (Lw0.out.later hbx)
  replace g0_O := Lib.hid (Cd.ow_later g0_O.out hbx)
  replace Lg0 := Lib.hid (Lg0.out.later hbx)
  replace x2_M := Lib.hid (Cd.ow_later x2_M.out hbx)
  have zW11 := hbx.size
  clear hbx
  have y0a := Lg0.out.c0
  have y0b := Lg0.out.c1
  have y0c := Lg0.out.c2
  have y0d := Lg0.out.lt
  go_wp2_with fail
  clear y0a y0b y0c y0d
  have HMK := Lib.hid (mark_table N0 A0 _ R0 _ (1) g0_f W11 g0_O.out g0_N.out HW0.out (by omega))
  obtain ⟨mm, hmm⟩ : ∃ kk, 1 + R0.flatten.length = kk := ⟨_, rfl⟩
  have bmm : mm ≤ 1048578 := by have := (show R0.flatten.length ≤ 1048577 from HW0.out); omega
  rw [hmm] at HMK
  have Hmm := Lib.hid hmm
  clear hmm
  refine HMK.out.mono ?_
  rintro e W12 ⟨rfl, g0_o, ht⟩
  have zW12 := ht.size
  replace HB := Lib.hid (Cd.Touch.below HB.out ht (fun b hb => by have := g0_B.out b hb; have := HB0.out; omega))
  replace HR2 := Lib.hid (Cd.touched HR2.out ht (fun b hb q => by have := g0_B.out b hb; have := HB0.out; omega))
  replace w0_O := Lib.hid (Cd.ow_touched w0_O.out ht (fun b hb q => by have := g0_B.out b q; have := w0_B.out b hb; omega))
  replace Lw0 := Lib.hid (Lw0.out.touched ht (fun q => by have := g0_B.out _ q; have := HB0.out; omega))
  replace Lg0 := Lib.hid (Lg0.out.touched ht (fun q => by have := g0_B.out _ q; have := HB0.out; omega))
  replace x2_M := Lib.hid (Cd.ow_touched x2_M.out ht (fun b hb q => by have := g0_B.out b q; have := x2_B.out b hb; omega))
  have g0_M := Lib.hid g0_o
  clear g0_o ht
  have y0a := Lg0.out.c0
  have y0b := Lg0.out.c1
  have y0c := Lg0.out.c2
  have y0d := Lg0.out.lt
  go_wp2_with fail
  clear y0a y0b y0c y0d
  have HHD := Lib.hid (held_table N0 A0 _ R0 _ 1 W12 (rowsC.ow_rd g0_M.out) HW0.out (by omega))
  rw [Hmm.out] at HHD
  refine HHD.out.mono ?_
  rintro e W13 ⟨rfl, hbx⟩
  replace HB := Lib.hid (below_then HB.out hbx)
  replace HR2 := Lib.hid (Cd.later HR2.out hbx)
  replace w0_O := Lib.hid (Cd.ow_later w0_O.out hbx)
  replace Lw0 := Lib.hid (Lw0.out.later hbx)
  replace Lg0 := Lib.hid (Lg0.out.later hbx)
  replace x2_M := Lib.hid (Cd.ow_later x2_M.out hbx)
  replace g0_M := Lib.hid (Cd.ow_later g0_M.out hbx)
  have zW13 := hbx.size
  clear hbx
  go_wp2_with fail
  refine (to_rows _ l2 _ W13 HR2.out (by have := HX2.out; omega)).mono ?_
  rintro e W14 ⟨h2_v, h2_f, rfl, h2_o, h2_n, hbx⟩
  obtain ⟨h2_a, h2_c, rfl⟩ := Cd.ow_slice h2_o
  replace HB := Lib.hid (below_then HB.out hbx)
  replace HR2 := Lib.hid (Cd.later HR2.out hbx)
  replace w0_O := Lib.hid (Cd.ow_later w0_O.out hbx)
  replace Lw0 := Lib.hid (Lw0.out.later hbx)
  replace Lg0 := Lib.hid (Lg0.out.later hbx)
  replace x2_M := Lib.hid (Cd.ow_later x2_M.out hbx)
  replace g0_M := Lib.hid (Cd.ow_later g0_M.out hbx)
  have zW14 := hbx.size
  clear hbx
  have h2_O := Lib.hid h2_o
  have h2_N := Lib.hid h2_n
  have h2_B := Lib.hid (bound_of h2_o)
  clear h2_o h2_n
  go_wp2_with fail
  refine (HIh.out HL0.out HX2.out _ _ W14 (rowsC.ow_rd h2_O.out)).mono ?_
  rintro e W15 ⟨y0_v, y0_f, rfl, y0_o, y0_n, hbx⟩
  obtain ⟨y0_a, y0_c, rfl⟩ := Cd.ow_slice y0_o
  replace HB := Lib.hid (below_then HB.out hbx)
  replace HR2 := Lib.hid (Cd.later HR2.out hbx)
  replace w0_O := Lib.hid (Cd.ow_later w0_O.out hbx)
  replace Lw0 := Lib.hid (Lw0.out.later hbx)
  replace Lg0 := Lib.hid (Lg0.out.later hbx)
  replace x2_M := Lib.hid (Cd.ow_later x2_M.out hbx)
  replace g0_M := Lib.hid (Cd.ow_later g0_M.out hbx)
  replace h2_O := Lib.hid (Cd.ow_later h2_O.out hbx)
  have zW15 := hbx.size
  clear hbx
  have y0_O := Lib.hid y0_o
  have y0_N := Lib.hid y0_n
  have y0_B := Lib.hid (bound_of y0_o)
  clear y0_o y0_n
  have y0a := Lw0.out.c0
  have y0b := Lw0.out.c1
  have y0c := Lw0.out.c2
  have y0d := Lw0.out.lt
  go_wp2_with fail
  clear y0a y0b y0c y0d
  generalize hg : World.alloc W15 _ = W16
  obtain ⟨rg, zW16, hbg⟩ := start1 W15 _ hg
  clear hg
  replace HB := Lib.hid (below_then HB.out hbg)
  replace HR2 := Lib.hid (Cd.later HR2.out hbg)
  replace w0_O := Lib.hid (Cd.ow_later w0_O.out hbg)
  replace Lw0 := Lib.hid (Lw0.out.later hbg)
  replace Lg0 := Lib.hid (Lg0.out.later hbg)
  replace x2_M := Lib.hid (Cd.ow_later x2_M.out hbg)
  replace g0_M := Lib.hid (Cd.ow_later g0_M.out hbg)
  replace y0_O := Lib.hid (Cd.ow_later y0_O.out hbg)
  have Ly0 := Lib.hid (Loc3.of rg)
  clear hbg rg
  refine (eq_table N0 A0 _ _ R0 _ _ W16 (rowsC.ow_rd y0_O.out) (rowsC.ow_rd w0_O.out)).mono ?_
  rintro e W17 ⟨rfl, hbx⟩
  replace HB := Lib.hid (below_then HB.out hbx)
  replace HR2 := Lib.hid (Cd.later HR2.out hbx)
  replace w0_O := Lib.hid (Cd.ow_later w0_O.out hbx)
  replace Lw0 := Lib.hid (Lw0.out.later hbx)
  replace Lg0 := Lib.hid (Lg0.out.later hbx)
  replace x2_M := Lib.hid (Cd.ow_later x2_M.out hbx)
  replace g0_M := Lib.hid (Cd.ow_later g0_M.out hbx)
  replace y0_O := Lib.hid (Cd.ow_later y0_O.out hbx)
  replace Ly0 := Lib.hid (Ly0.out.later hbx)
  have zW17 := hbx.size
  clear hbx
  have y0a := Lg0.out.c0
  have y0b := Lg0.out.c1
  have y0c := Lg0.out.c2
  have y0d := Lg0.out.lt
  go_wp2_with fail
  clear y0a y0b y0c y0d
  have HHD := Lib.hid (held_table N0 A0 _ R0 _ 1 W17 (rowsC.ow_rd g0_M.out) HW0.out (by omega))
  rw [Hmm.out] at HHD
  refine HHD.out.mono ?_
  rintro e W18 ⟨rfl, hbx⟩
  replace HB := Lib.hid (below_then HB.out hbx)
  replace HR2 := Lib.hid (Cd.later HR2.out hbx)
  replace w0_O := Lib.hid (Cd.ow_later w0_O.out hbx)
  replace Lw0 := Lib.hid (Lw0.out.later hbx)
  replace Lg0 := Lib.hid (Lg0.out.later hbx)
  replace x2_M := Lib.hid (Cd.ow_later x2_M.out hbx)
  replace g0_M := Lib.hid (Cd.ow_later g0_M.out hbx)
  replace y0_O := Lib.hid (Cd.ow_later y0_O.out hbx)
  replace Ly0 := Lib.hid (Ly0.out.later hbx)
  have zW18 := hbx.size
  clear hbx
  go_wp2_with fail
  go_ret
  exact ⟨rfl, HB.out⟩
end Go.Proofs.Ytdjgaffiildijaa.WalkNewTable
