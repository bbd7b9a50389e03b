/- How the laws draw tables: a table and a row to be inserted. -/
import Derived.Test.YtdjgaffiildijabGreatDoorTabDraw2
import Derived.Test.YtdjgaffiildijabGreatDoorTabDraw3
namespace Go.Proofs.YtdjgaffiildijabGreatDoor.TabSpec
open Go Go.RowKit Byt Ints IntsLaw IntsWalk Draw LocDraw Cd Rows2 Tab TabDraw

/-- A drawn name, a drawn arity and drawn rows. -/
def NewDraw (w : World) (e : Ending) (w' : World) : Prop :=
  ∃ (nm : ByteArray) (ar : Int) (u : Value) (rows : List (List Int)), e = .returned (.tuple #[.string nm, .int .i64 ar, u]) ∧ nm.size ≤ 2 ∧ (0 ≤ ar ∧ ar ≤ 4) ∧ rowsC.rd w' (· < w'.heap.size) [u] rows ∧ rowsWt rows ≤ 50 ∧ Below w.heap.size w w'
def ss5 : List ByteArray := [⟨#[114]⟩, ⟨#[115]⟩, ⟨#[114]⟩, ⟨#[]⟩, ⟨#[81]⟩]
theorem ss5_ok : ∀ t : Fin 5, (ss5.getD t.val ⟨#[]⟩).size ≤ 2 := by decide
def zn5 (n : Int) : List Int := [n, n, n, 0, 4]
theorem zn5_ok (n : Int) (h : 0 ≤ n ∧ n ≤ 4) (t : Nat) (ht : t < 5) : 0 ≤ (zn5 n).getD t 0 ∧ (zn5 n).getD t 0 ≤ 4 := by
  rcases (show t = 0 ∨ t = 1 ∨ t = 2 ∨ t = 3 ∨ t = 4 by omega) with rfl | rfl | rfl | rfl | rfl <;> simp [zn5] <;> omega

set_option maxRecDepth 100000 in
set_option maxHeartbeats 1600000 in
theorem draw_new (v : Value) (l : List UInt8) (w : World) (hr : Reads w v l w.heap.size) :
    Calls Tryz.prog 19 #[v] w (NewDraw w) := by
  have HR := Lib.hid (fun w' (hb : Below w.heap.size w w') => hr.later hb)
  have HN := Lib.hid (new_any v l w.heap.size w hr)
  clear hr
  go_enter Tryz.func19, Tryz.ntmps19
  go_wp2_with fail
  refine HN.out.mono ?_
  rintro e w1 ⟨rfl, hc1, hg1⟩
  have hb1 : Below w.heap.size w w1 := ⟨hg1.os, hg1.tape, hg1.output, hg1.size, fun k hk => hg1.block k hk (by simp)⟩
  obtain ⟨c, hcc⟩ : ∃ c, w.heap.size = c := ⟨_, rfl⟩
  rw [hcc] at hc1 hb1
  rw [hcc]
  have HRc := Lib.hid (show ∀ w', Below c w w' → Reads w' v l c from by rw [← hcc]; exact HR.out)
  have HB2 := Lib.hid (below_any 3 c v l c w1 hc1 (HRc.out _ hb1) (Nat.le_refl _))
  have hcs1 := cur_size hc1
  have HB1 := Lib.hid hb1
  clear hc1 hg1 hb1 HN HR
  go_wp2_with fail
  refine HB2.out.mono ?_
  rintro e w2 ⟨x, rfl, hx0, hx3, hc2, hg2⟩
  obtain ⟨n, rfl⟩ := Int.eq_ofNat_of_zero_le hx0
  have hn : n ≤ 2 := by have := hx3 (by decide); omega
  have en : (((n + 1 : Nat)) : Int) = 1 + (n : Int) := by omega
  have HB2' := Lib.hid (HB1.out.trans (below_of hg2 (Nat.le_refl _) hcs1))
  have hcs2 := cur_size hc2
  have HC3 := Lib.hid (cur_allocI (.cells #[] 35) hc2)
  have HB3 := Lib.hid (Below.alloc HB2'.out (Nat.le_of_lt hcs2) (.cells #[] 35))
  have HO3 := Lib.hid (Cd.ow_empty (e := 35) (c := rowC) w2 (c + 1) hcs2)
  have HB4 := Lib.hid (below_any 11 c v l c _ HC3.out (HRc.out _ HB3.out) (Nat.le_refl _))
  have HEN := Lib.hid en
  clear hx3 hc2 hg2 HB2 HB1 en
  go_wp2_with fail
  refine HB4.out.mono ?_
  rintro e w4 ⟨x, rfl, hx0', hx11, hc4, hg4⟩
  obtain ⟨m0, rfl⟩ := Int.eq_ofNat_of_zero_le hx0'
  have hm0 : m0 ≤ 10 := by have := hx11 (by decide); omega
  have HO4 := Lib.hid (ow_grown (cd := rowsC) HO3.out hg4 (Nat.lt_succ_self c))
  have HB5 := Lib.hid (HB3.out.trans (below_of hg4 (Nat.le_refl _) (cur_size HC3.out)))
  have HC4 := Lib.hid hc4
  clear hx11 hc4 hg4 HB4 HO3 HC3 HB3
  go_wp2_with fail
  go_loopw [7, 8] (fun o k wr => ∃ (m : Nat) (rows : List (List Int)) (fp : List Nat), m ≤ 10 ∧ k = .int .i64 m ∧ rowsC.ow wr (c + 1) [o] rows fp ∧ fp.Nodup ∧ rowsWt rows ≤ 5 * (10 - m) ∧ Cur wr c v l ∧ Below c w wr) (fun _ k _ => (intOf k).toNat)
  case atStart => exact ⟨m0, [], _, hm0, rfl, HO4.out, by simp, by simp [rowsWt], HC4.out, HB5.out⟩
  case round =>
    obtain ⟨m, rows, fp, hm, rfl, how, hnd, hwt, hcw, hbw⟩ := hrel
    have hcsw := cur_size hcw
    obtain ⟨ao, co, rfl⟩ := Cd.ow_slice how
    have HOW := Lib.hid how
    have HND := Lib.hid hnd
    have HWT := Lib.hid hwt
    have HCW := Lib.hid hcw
    have HBW := Lib.hid hbw
    clear how hnd hwt hcw hbw
    by_cases hlt : 0 < m
    · have hlt' : (0 : Int) < (m : Int) := by omega
      have HS := Lib.hid (some_any (n + 1) (by omega) c v l c wr HCW.out (HRc.out _ HBW.out) (Nat.le_refl _))
      rw [HEN.out] at HS
      go_wp2_with fail
      refine HS.out.mono ?_
      rintro e w5 ⟨u5, ls, rfl, ho5, hl5, hi5, hc5, hg5⟩
      have hrow : rowC.ow w5 (c + 1) [u5] ls u5.ownBlock.toList := Cd.ow_of_own (e := 3) (ho5.base_mono hcsw) hi5
      have hrow' : rowC.ow w5 wr.heap.size [u5] ls u5.ownBlock.toList := Cd.ow_of_own (e := 3) ho5 hi5
      obtain ⟨a5, c5, rfl⟩ := Cd.ow_slice hrow
      have hfar : ∀ b ∈ (Value.slice a5 ls.length c5).ownBlock.toList, b ∉ fp := fun b hb q => by
        have h1 := (rowC.ow_lt hrow' b hb).1
        have h2 := (rowsC.ow_lt HOW.out b q).2
        omega
      have HF := Lib.hid hfar
      have HO6 := Lib.hid (Cd.ow_later (ow_grown HOW.out hg5 (Nat.lt_succ_self c)) (below_alloc w5 (.cells #[.slice a5 ls.length c5] 35)))
      have HR6 := Lib.hid (Cd.ow_later hrow (below_alloc w5 (.cells #[.slice a5 ls.length c5] 35)))
      have HK6 := Lib.hid (row3' w5 (.slice a5 ls.length c5) 35)
      have HB6 := Lib.hid (Below.alloc (HBW.out.trans (below_of hg5 (Nat.le_refl _) hcsw)) (Nat.le_of_lt (cur_size hc5)) (.cells #[.slice a5 ls.length c5] 35))
      have HC6 := Lib.hid (cur_allocI (.cells #[.slice a5 ls.length c5] 35) hc5)
      have HL6 := Lib.hid (show rows.length + 1 ≤ 1000000000000 by have := HWT.out; unfold rowsWt at this; omega)
      have HZ6 := Lib.hid (show c + 1 ≤ (w5.alloc (.cells #[.slice a5 ls.length c5] 35)).heap.size from cur_size HC6.out)
      have HLS := Lib.hid (show ls.length ≤ 4 by omega)
      clear hrow hrow' ho5 hc5 hg5 hfar HS hl5 hi5
      go_wp2_with (at_builtin; refine Cd.wpList_appendE (c := rowC) rfl rfl (.tmp 21) (.tmp 25) 32 rfl (c + 1) 35 (.slice none 0 0) 24 Tryz.underlying32 info_ints rfl (by decide) _ rows _ rfl HO6.out HND.out _ _ rfl HK6.out ls _ HR6.out Cd.own_nodup HF.out HL6.out HZ6.out ?_)
      intro g cap w7 fp7 ho7 hn7 hs7 ht7
      have HT7 := Lib.hid ht7
      have HO7 := Lib.hid ho7
      have HN7 := Lib.hid hn7
      clear ho7 hn7 hs7 ht7
      go_wp2_with fail
      go_roundw
      case rel =>
        refine ⟨m - 1, _, fp7, by omega, by go_num, HO7.out, HN7.out, ?_, ?_, ?_⟩
        · have h1 := HWT.out
          have h2 := HLS.out
          simp [rowsWt] at *
          omega
        · obtain ⟨i, x, hi, hh⟩ := HC6.out
          exact ⟨i, x, hi, HT7.out.row hh (fun q => by have := (rowsC.ow_lt HO6.out _ q).1; omega)⟩
        · have h6 := HB6.out
          exact ⟨HT7.out.os.trans h6.os, HT7.out.tape.trans h6.tape, HT7.out.output.trans h6.output, Nat.le_trans h6.size HT7.out.size, fun k hk => (HT7.out.block k (by have := HZ6.out; omega) (fun q => by have := (rowsC.ow_lt HO6.out _ q).1; omega)).trans (h6.block k hk)⟩
      case measure => simp [intOf]; omega
    · have hlt' : ¬ (0 : Int) < (m : Int) := by omega
      have ha1 := Below.alloc HBW.out (Nat.le_of_lt hcsw) (.cells (ss5.map fun z => Value.string z).toArray 9)
      have HP := Lib.hid (pickS_any ss5 wr.heap.size (by decide) (by decide) c v l c _ (cur_allocI (.cells (ss5.map fun z => Value.string z).toArray 9) HCW.out) (HRc.out _ ha1) (Nat.le_refl _) (by omega) (list_cellsS ss5 wr 9))
      have HO8 := Lib.hid (Cd.ow_later HOW.out (below_alloc wr (.cells (ss5.map fun z => Value.string z).toArray 9)))
      have HA8 := Lib.hid ha1
      have HCS8 := Lib.hid (cur_size (cur_allocI (.cells (ss5.map fun z => Value.string z).toArray 9) HCW.out))
      have HW50 := Lib.hid (show rowsWt rows ≤ 50 by have := HWT.out; omega)
      clear ha1
      go_wp2_with fail
      refine HP.out.mono ?_
      rintro e w9 ⟨t, ht, rfl, hc9, hg9⟩
      have hnm := ss5_ok ⟨t, ht⟩
      simp only at hnm
      generalize ss5.getD t ⟨#[]⟩ = nm at *
      have HO9 := Lib.hid (ow_grown HO8.out hg9 (Nat.lt_succ_self c))
      have HB9 := Lib.hid (HA8.out.trans (below_of hg9 (Nat.le_refl _) HCS8.out))
      have hcs9 := cur_size hc9
      have har5 : 0 ≤ 1 + (n : Int) ∧ 1 + (n : Int) ≤ 4 := by omega
      have ha10 := Below.alloc HB9.out (Nat.le_of_lt hcs9) (.cells ((zn5 (1 + (n : Int))).map fun z => Value.int .i64 z).toArray 3)
      have HQ := Lib.hid (pick_any (zn5 (1 + (n : Int))) w9.heap.size (by simp [zn5]) (by simp [zn5]) c v l c _ (cur_allocI (.cells ((zn5 (1 + (n : Int))).map fun z => Value.int .i64 z).toArray 3) hc9) (HRc.out _ ha10) (Nat.le_refl _) (by omega) (list_cellsI (zn5 (1 + (n : Int))) w9 3))
      have HO10 := Lib.hid (Cd.ow_later HO9.out (below_alloc w9 (.cells ((zn5 (1 + (n : Int))).map fun z => Value.int .i64 z).toArray 3)))
      have HA10 := Lib.hid ha10
      have HCS10 := Lib.hid (cur_size (cur_allocI (.cells ((zn5 (1 + (n : Int))).map fun z => Value.int .i64 z).toArray 3) hc9))
      clear hc9 hg9 HP ha10
      go_wp2_with fail
      refine HQ.out.mono ?_
      rintro e w11 ⟨t2, ht2, rfl, hc11, hg11⟩
      have har := zn5_ok _ har5 t2 ht2
      generalize (zn5 (1 + (n : Int))).getD t2 0 = ar at *
      have HO11 := Lib.hid (ow_grown HO10.out hg11 (Nat.lt_succ_self c))
      have HB11 := Lib.hid (HA10.out.trans (below_of hg11 (Nat.le_refl _) HCS10.out))
      clear hc11 hg11 HQ
      go_wp2_with fail
      refine bodyPost_ret (v := .tuple #[.string nm, .int .i64 ar, .slice ao rows.length co]) (by simp [results, Tryz.results19, go_sem]) rfl ⟨nm, ar, _, rows, rfl, hnm, har, Cd.reads HO11.out, HW50.out, by rw [hcc]; exact HB11.out⟩
end Go.Proofs.YtdjgaffiildijabGreatDoor.TabSpec

namespace Go.Proofs.YtdjgaffiildijabGreatDoor.TabSpec
open Go Go.RowKit Byt Ints IntsLaw IntsWalk Draw LocDraw Cd Rows2 Tab TabDraw

set_option maxRecDepth 100000 in
set_option maxHeartbeats 1600000 in
theorem draw_ins (v : Value) (l : List UInt8) (w : World) (hr : Reads w v l w.heap.size) :
    Calls Tryz.prog 12 #[v] w (BothAns w) := by
  have HR := Lib.hid (fun w' (hb : Below w.heap.size w w') => hr.later hb)
  clear hr
  go_enter Tryz.func12, Tryz.ntmps12
  go_wp2_with fail
  generalize hW : w.alloc _ = W0
  obtain ⟨r0, hz, hb0⟩ := start1 w _ hW
  clear hW
  have HX0 := Lib.hid (Loc3.of r0)
  have HB0 := Lib.hid hb0
  have hrd : Reads W0 v l W0.heap.size := by
    obtain ⟨a, cap, h1, h2, h3⟩ := HR.out _ hb0
    refine ⟨a, cap, h1, h2, h3.imp id ?_⟩
    rintro ⟨b, off, e, hb, hc⟩
    exact ⟨b, off, e, by omega, hc⟩
  have HC := Lib.hid (both_any v l W0 hrd)
  clear r0 hb0 hrd
  refine HC.out.mono ?_
  rintro e w1 ⟨nm, ar, u, vr, rows, row, rfl, hnm, har, hrw, hwt, hrr, hrl, hb1⟩
  have hfm : ∃ a c, u = .slice a rows.length c := by
    obtain ⟨a, c, e, _⟩ := rows_form hrw
    exact ⟨a, c, e⟩
  obtain ⟨a, c, rfl⟩ := hfm
  have hfr : ∃ a c, vr = .slice a row.length c := by
    obtain ⟨a, c, e, _⟩ := (row_ri hrr).1
    exact ⟨a, c, e⟩
  obtain ⟨ar2, cr2, rfl⟩ := hfr
  have HX1 := Lib.hid (HX0.out.later hb1)
  have HB1 := Lib.hid (Tab.below_then HB0.out hb1)
  have HRW := Lib.hid hrw
  have HRR := Lib.hid hrr
  clear hb1 hrw hrr HC HX0 HB0
  have HXA := Lib.hid (HX1.out.later (below_alloc w1 (.cells #[.string nm, .int .i64 ar, .slice a rows.length c] 34)))
  obtain ⟨x0, x1, x2, f0, f1, f2⟩ := HXA.out
  go_wp2_with fail
  obtain ⟨k0, k1, k2⟩ := set3 (w := w1.alloc (.cells #[.string nm, .int .i64 ar, .slice a rows.length c] 34)) (k := w.heap.size) (x := .string nm) (y := .int .i64 ar) (z := .slice a rows.length c) x0 x1 x2
  refine bodyPost_ret (v := .tuple #[.agg #[.string nm, .int .i64 ar, .slice a rows.length c], .slice ar2 row.length cr2]) (by simp [results, Tryz.results12, go_sem, k0, k1, k2]) rfl ⟨nm, ar, _, _, rows, row, rfl, hnm, har, ?_, hwt, ?_, hrl, ?_⟩
  · refine rowsC.mono (rowsC.keep (Cd.later (rowsC.mono HRW.out fun b _ h => h) (below_alloc w1 (.cells #[.string nm, .int .i64 ar, .slice a rows.length c] 34))) fun b hS hlt => ?_) fun b hb hS => ⟨by omega, hb⟩
    rw [Below.heap_setCell _ _ _ _ (by show b ≠ w.heap.size; omega), Below.heap_setCell _ _ _ _ (by show b ≠ w.heap.size; omega), Below.heap_setCell _ _ _ _ (by show b ≠ w.heap.size; omega)]
  · refine rowC.mono (rowC.keep (Cd.later (rowC.mono HRR.out fun b _ h => h) (below_alloc w1 (.cells #[.string nm, .int .i64 ar, .slice a rows.length c] 34))) fun b hS hlt => ?_) fun b hb hS => ⟨by omega, hb⟩
    rw [Below.heap_setCell _ _ _ _ (by show b ≠ w.heap.size; omega), Below.heap_setCell _ _ _ _ (by show b ≠ w.heap.size; omega), Below.heap_setCell _ _ _ _ (by show b ≠ w.heap.size; omega)]
  · have hb := Tab.below_then HB1.out (below_alloc w1 (.cells #[.string nm, .int .i64 ar, .slice a rows.length c] 34))
    exact ((hb.setCell (Nat.le_refl _) _).setCell (Nat.le_refl _) _).setCell (Nat.le_refl _) _
end Go.Proofs.YtdjgaffiildijabGreatDoor.TabSpec
