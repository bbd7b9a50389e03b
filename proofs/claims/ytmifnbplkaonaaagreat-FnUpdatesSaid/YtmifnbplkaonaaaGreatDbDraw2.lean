/- How the laws draw databases: five tables. -/
import Derived.Test.YtmifnbplkaonaaaGreatDbDraw
namespace Go.Proofs.YtmifnbplkaonaaaGreat.DbDraw
open Go Go.RowKit Byt Ints IntsLaw IntsWalk Draw LocDraw Cd Rows2 Tab TabDraw SlMath TabOpen TabElem SlTable Db TabSpec DbMath DbSpec DbExact DbAcc

theorem list1 (x : UInt8) : (⟨#[x]⟩ : ByteArray).toList = [x] := by simp [ByteArray.toList, ByteArray.toList.loop, ByteArray.size, ByteArray.get!]
theorem toL (x y : UInt8) : ((⟨#[x]⟩ : ByteArray).toList == [y]) = decide (x = y) := by rw [list1]; by_cases h : x = y <;> simp [h]
theorem toN {nm : ByteArray} {x : UInt8} (h : nm ≠ ⟨#[x]⟩) : (nm.toList == [x]) = false := by rw [← list1 x, eqB]; exact decide_eq_false h

set_option maxRecDepth 100000 in
set_option maxHeartbeats 3200000 in
theorem db_any (c : Nat) (v : Value) (l : List UInt8) (B : Nat) (w : World) (hc : Cur w c v l) (hr : Reads w v l B) (hB : B ≤ c) :
    Calls Tryz.prog 63 #[.pointer (some ⟨c, 0, none⟩)] w (DbDr 5 w c v l) := by
  have hcs := cur_size hc
  have HR := Lib.hid (fun w' (hg : w.grownBy w' (some c)) => hr.later (below_of hg hB hcs))
  have HC := Lib.hid hc
  clear hc hr
  go_enter Tryz.func63, Tryz.ntmps63
  go_wp2_with fail
  generalize hW : w.alloc _ = W0
  obtain ⟨r0, hz, hb0⟩ := start1 w _ hW
  clear hW
  have HX0 := Lib.hid (Loc1.of r0)
  have HG0 := Lib.hid (grown_below hb0 (some c))
  have HC0 := Lib.hid (cur_below HC.out hb0 hcs)
  have hc1 := cur_allocI (.cells (zv4.map fun z => Value.int .i64 z).toArray 3) HC0.out
  have hg1 := grown_allocI (.cells (zv4.map fun z => Value.int .i64 z).toArray 3) HG0.out
  have HP := Lib.hid (pick_any zv4 W0.heap.size (by decide) (by decide) c v l B _ hc1 (HR.out _ hg1) hB (by omega) (list_cellsI zv4 W0 3))
  rw [hz] at HP
  have HG1 := Lib.hid hg1
  have HX1 := Lib.hid (HX0.out.later (below_alloc W0 (.cells (zv4.map fun z => Value.int .i64 z).toArray 3)))
  have HZ1 := Lib.hid (show (W0.alloc (.cells (zv4.map fun z => Value.int .i64 z).toArray 3)).heap.size = w.heap.size + 2 by rw [size_alloc, hz])
  clear r0 hb0 hc1 hg1 HX0 HG0 HC0
  refine HP.out.mono ?_
  rintro e w2 ⟨t, ht, rfl, hc2, hg2⟩
  have hv := zv4_ok ⟨t, ht⟩
  simp only at hv
  generalize zv4.getD t 0 = zv at *
  obtain ⟨V, rfl⟩ := Int.eq_ofNat_of_zero_le (show 0 ≤ zv by omega)
  have hV : 0 < V ∧ V ≤ 6 := by omega
  have HX2 := Lib.hid (loc1_grown HX1.out hg2 (by omega))
  have HZ2 := Lib.hid (show w.heap.size + 2 ≤ w2.heap.size by have := hg2.size; have := HZ1.out; omega)
  have HG2 := Lib.hid (grown_trans HG1.out hg2)
  have hc3 := cur_allocI (.cells (zm4.map fun z => Value.int .i64 z).toArray 3) hc2
  have hg3 := grown_allocI (.cells (zm4.map fun z => Value.int .i64 z).toArray 3) HG2.out
  have HP3 := Lib.hid (pick_any zm4 w2.heap.size (by decide) (by decide) c v l B _ hc3 (HR.out _ hg3) hB (by have := HZ2.out; omega) (list_cellsI zm4 w2 3))
  have HX3 := Lib.hid (HX2.out.later (below_alloc w2 (.cells (zm4.map fun z => Value.int .i64 z).toArray 3)))
  have HZ3 := Lib.hid (show w.heap.size + 2 ≤ (w2.alloc (.cells (zm4.map fun z => Value.int .i64 z).toArray 3)).heap.size by rw [size_alloc]; have := HZ2.out; omega)
  have HG3 := Lib.hid hg3
  clear hv hc2 hg2 hc3 hg3 HX1 HG1 HX2 HG2 HP HZ1 hz
  go_wp2_with fail
  refine HP3.out.mono ?_
  rintro e w4 ⟨t4, ht4, rfl, hc4, hg4⟩
  have hm := zm4_ok ⟨t4, ht4⟩
  simp only at hm
  generalize zm4.getD t4 0 = zm at *
  obtain ⟨M, rfl⟩ := Int.eq_ofNat_of_zero_le hm.1
  have hM : M ≤ 8 := by omega
  have HX4 := Lib.hid (loc1_grown HX3.out hg4 (by omega))
  have HG4 := Lib.hid (grown_trans HG3.out hg4)
  have HZ4 := Lib.hid (show w.heap.size + 2 ≤ w4.heap.size by have := hg4.size; have := HZ3.out; omega)
  have HC4 := Lib.hid hc4
  clear hm hc4 hg4 HX3 HG3 HP3 HZ3 HZ2
  go_wp2_with fail
  generalize hW : (w4.alloc _).alloc _ = W
  obtain ⟨r0, r1, hz, hb0⟩ := start2g w4 _ _ hW
  have hst : DrS w c v l w4.heap.size [] none 0 [] W := by
    refine ⟨Loc1.of r0, HX4.out.later hb0, fun t ht => ?_, Cd.ow_nil _ _, by simp, (fun T hT => by cases hT), by have := HZ4.out; omega, hcs, by omega, cur_below HC4.out hb0 (by have := HZ4.out; omega), grown_trans HG4.out (grown_below hb0 (some c))⟩
    rcases (show t = 0 ∨ t = 1 ∨ t = 2 ∨ t = 3 ∨ t = 4 by omega) with rfl | rfl | rfl | rfl | rfl <;> simp [World.cell?, r1, nm5]
  have HST := Lib.hid hst
  clear hW hst r0 r1 hb0 hz HX4 HG4 HC4 HZ4
  generalize w4.heap.size = X at *
  go_loopw [7, 8, 19] (fun _ _ n wr => ∃ (k : Nat) (cur : List T3) (a : Option Addr) (cap : Nat) (fp : List Nat), k ≤ 5 ∧ n = .int .i64 k ∧ cur.length = k ∧ (0 < k → ∃ g, a = some ⟨g, 0, none⟩) ∧ DrS w c v l X cur a cap fp wr) (fun _ _ n _ => 5 - (intOf n).toNat)
  case atStart => exact ⟨0, [], none, 0, [], Nat.zero_le _, rfl, rfl, fun h => absurd h (by decide), HST.out⟩
  case round =>
    obtain ⟨k, cur, a, cap, fp, hk, rfl, hlen, hform, hst⟩ := hrel
    have HFO := Lib.hid hform
    clear hform
    have HS := Lib.hid hst
    have HLEN := Lib.hid hlen
    clear hst hlen
    by_cases hlt : k < 5
    · have hnm := nm5_ok ⟨k, hlt⟩
      have hcell := HS.out.nm k hlt
      simp only at hnm
      generalize nm5.getD k ⟨#[]⟩ = nm at *
      have i1 : (0 : Int) ≤ (k : Int) := by omega
      have i2 : (k : Int) < 5 := by omega
      have HLL := Lib.hid (show cur.length + 1 ≤ 1000000000 by have := HLEN.out; omega)
      by_cases eu : nm = ⟨#[117]⟩
      · subst eu
        generalize hnu : (⟨#[117]⟩ : ByteArray) = nm at *
        have t1 : (nm.toList == [117]) = true := by rw [← hnu]; exact toL 117 117
        have t2 : (nm.toList == [118]) = false := by rw [← hnu]; exact toL 117 118
        clear hnu
        have HT := Lib.hid (tab_gen M V hM hV nm 3 (by decide) c v l B wr HS.out.cu (HR.out wr HS.out.gr) hB)
        rw [show ((3 : Nat) : Int) = 3 from rfl] at HT
        go_wp2_with fail
        refine HT.out.mono ?_
        rintro e w5 ⟨y, rows, f, rfl, how, hnf, hwt, hc5, hg5⟩
        obtain ⟨a5, cap5, rfl⟩ := Cd.ow_slice how
        obtain ⟨hL, hD⟩ := HS.out.laid hg5 hc5 how hnf (nm := nm) (ar := 3) ⟨hnm, by show (-1 : Int) ≤ 3 ∧ (3 : Int) ≤ 4; decide, by show rowsWt rows ≤ 32; omega⟩ 51
        have q1 := (HS.out.grown hg5 hc5).lx.c0
        have q2 : X < w5.heap.size := by have := (HS.out.grown hg5 hc5).sz; omega
        have HL := Lib.hid hL
        have HD := Lib.hid hD
        clear hL hD how hnf hwt hc5 hg5 HT
        go_wp2_with (at_builtin; refine Cd.wpList_appendN (c := tabC) rfl (.tmp 34) (.tmp 36) 24 rfl (X + 2) 51 (.agg #[.string ⟨#[]⟩, .int .i64 0, .slice none 0 0]) 3 48 rfl Tryz.underlying24 info_x rfl (by decide) _ cur fp rfl HL.out.ow HL.out.nd (w5.heap.size + 1) _ rfl HD.out.at_ (nm, 3, rows) f HD.out.ow HD.out.nd HD.out.far HLL.out HD.out.sz ?_)
        intro g cap4 w6 fp6 ho6 hn6 hs6 ht6
        obtain ⟨e0, e1⟩ := HL.out.fcell ht6
        have HA := Lib.hid (HL.out.app HD.out.ok ht6 ho6 hn6)
        clear ho6 hn6 hs6 ht6
        go_wp2_with fail
        go_roundw
        case rel => exact ⟨k + 1, cur ++ [(nm, 3, rows)], _, _, fp6, by omega, by go_num, by rw [List.length_append]; have := HLEN.out; simp; omega, fun _ => ⟨g, rfl⟩, HA.out⟩
        case measure => simp [intOf]; omega
      have t1 : (nm.toList == [117]) = false := by
        exact toN eu
      by_cases ev : nm = ⟨#[118]⟩
      · have t2 : (nm.toList == [118]) = true := by rw [ev]; exact toL 118 118
        clear ev eu
        have HT := Lib.hid (tab_gen M V hM hV nm 1 (by decide) c v l B wr HS.out.cu (HR.out wr HS.out.gr) hB)
        rw [show ((1 : Nat) : Int) = 1 from rfl] at HT
        go_wp2_with fail
        refine HT.out.mono ?_
        rintro e w5 ⟨y, rows, f, rfl, how, hnf, hwt, hc5, hg5⟩
        obtain ⟨a5, cap5, rfl⟩ := Cd.ow_slice how
        obtain ⟨hL, hD⟩ := HS.out.laid hg5 hc5 how hnf (nm := nm) (ar := 1) ⟨hnm, by show (-1 : Int) ≤ 1 ∧ (1 : Int) ≤ 4; decide, by show rowsWt rows ≤ 32; omega⟩ 51
        have q1 := (HS.out.grown hg5 hc5).lx.c0
        have q2 : X < w5.heap.size := by have := (HS.out.grown hg5 hc5).sz; omega
        have HL := Lib.hid hL
        have HD := Lib.hid hD
        clear hL hD how hnf hwt hc5 hg5 HT
        go_wp2_with (at_builtin; refine Cd.wpList_appendN (c := tabC) rfl (.tmp 34) (.tmp 36) 24 rfl (X + 2) 51 (.agg #[.string ⟨#[]⟩, .int .i64 0, .slice none 0 0]) 3 48 rfl Tryz.underlying24 info_x rfl (by decide) _ cur fp rfl HL.out.ow HL.out.nd (w5.heap.size + 1) _ rfl HD.out.at_ (nm, 1, rows) f HD.out.ow HD.out.nd HD.out.far HLL.out HD.out.sz ?_)
        intro g cap4 w6 fp6 ho6 hn6 hs6 ht6
        obtain ⟨e0, e1⟩ := HL.out.fcell ht6
        have HA := Lib.hid (HL.out.app HD.out.ok ht6 ho6 hn6)
        clear ho6 hn6 hs6 ht6
        go_wp2_with fail
        go_roundw
        case rel => exact ⟨k + 1, cur ++ [(nm, 1, rows)], _, _, fp6, by omega, by go_num, by rw [List.length_append]; have := HLEN.out; simp; omega, fun _ => ⟨g, rfl⟩, HA.out⟩
        case measure => simp [intOf]; omega
      · have t2 : (nm.toList == [118]) = false := toN ev
        clear ev eu
        have HT := Lib.hid (tab_gen M V hM hV nm 2 (by decide) c v l B wr HS.out.cu (HR.out wr HS.out.gr) hB)
        rw [show ((2 : Nat) : Int) = 2 from rfl] at HT
        go_wp2_with fail
        refine HT.out.mono ?_
        rintro e w5 ⟨y, rows, f, rfl, how, hnf, hwt, hc5, hg5⟩
        obtain ⟨a5, cap5, rfl⟩ := Cd.ow_slice how
        obtain ⟨hL, hD⟩ := HS.out.laid hg5 hc5 how hnf (nm := nm) (ar := 2) ⟨hnm, by show (-1 : Int) ≤ 2 ∧ (2 : Int) ≤ 4; decide, by show rowsWt rows ≤ 32; omega⟩ 51
        have q1 := (HS.out.grown hg5 hc5).lx.c0
        have q2 : X < w5.heap.size := by have := (HS.out.grown hg5 hc5).sz; omega
        have HL := Lib.hid hL
        have HD := Lib.hid hD
        clear hL hD how hnf hwt hc5 hg5 HT
        go_wp2_with (at_builtin; refine Cd.wpList_appendN (c := tabC) rfl (.tmp 34) (.tmp 36) 24 rfl (X + 2) 51 (.agg #[.string ⟨#[]⟩, .int .i64 0, .slice none 0 0]) 3 48 rfl Tryz.underlying24 info_x rfl (by decide) _ cur fp rfl HL.out.ow HL.out.nd (w5.heap.size + 1) _ rfl HD.out.at_ (nm, 2, rows) f HD.out.ow HD.out.nd HD.out.far HLL.out HD.out.sz ?_)
        intro g cap4 w6 fp6 ho6 hn6 hs6 ht6
        obtain ⟨e0, e1⟩ := HL.out.fcell ht6
        have HA := Lib.hid (HL.out.app HD.out.ok ht6 ho6 hn6)
        clear ho6 hn6 hs6 ht6
        go_wp2_with fail
        go_roundw
        case rel => exact ⟨k + 1, cur ++ [(nm, 2, rows)], _, _, fp6, by omega, by go_num, by rw [List.length_append]; have := HLEN.out; simp; omega, fun _ => ⟨g, rfl⟩, HA.out⟩
        case measure => simp [intOf]; omega
    · have ek : k = 5 := by omega
      subst ek
      have HON := Lib.hid (once_anyI 8 c v l B wr HS.out.cu (HR.out wr HS.out.gr) hB)
      go_wp2_with fail
      refine HON.out.mono ?_
      rintro e w9 ⟨b, rfl, hc9, hg9⟩
      have HS9 := Lib.hid (HS.out.grown hg9 hc9)
      have y0 := HS9.out.lx.c0
      have y1 := HS9.out.lr.c0
      have y2 := HS9.out.lr.f0
      clear hc9 hg9 HON
      cases b
      · go_wp2_with fail
        have k0 : (w9.setCell ⟨w.heap.size, 0, none⟩ (.slice a cur.length cap)).cell? ⟨w.heap.size, 0, none⟩ = some (.slice a cur.length cap) := World.cell?_setCell_same _ _ _ y1
        refine bodyPost_ret (v := .agg #[.slice a cur.length cap]) (by simp [results, Tryz.results63, go_sem, k0]) rfl (HS9.out.done HLEN.out)
      · obtain ⟨g, rfl⟩ := HFO.out (by decide)
        have HB := Lib.hid (fun W' (h : DrO w c v l X cur.length g cap W') => below_any 5 c v l B W' h.below.1 (HR.out _ h.below.2) hB)
        have hs0 : DrO w c v l X cur.length g cap w9.drew := DrO.of HS9.out.drew
        go_wp2_with fail
        go_region_held3 (fun wx => wx.cell? ⟨X, 0, none⟩ = some (.slice (some ⟨g, 0, none⟩) cur.length cap) ∧ DrO w c v l X cur.length g cap wx)
          (exact DrO.all (by first | assumption | exact DrO.nil (by assumption) (by assumption)))
          (first | (go_at_call 64; refine (HB.out _ (by assumption)).mono ?_; rintro e w7 ⟨x, rfl, hx0, hx1, hc7, hg7⟩; obtain ⟨j, rfl⟩ := Int.eq_ofNat_of_zero_le hx0; (have hjl : j < cur.length := by have := hx1 (by decide); have := HLEN.out; omega); (have p1 : (0 : Int) ≤ (j : Int) := by omega); (have p2 : (j : Int) < (cur.length : Int) := by omega); (have hs7 : DrO w c v l X cur.length g cap w7 := DrO.grown (by assumption) hg7 hc7); obtain ⟨u, hu, hf⟩ := hs7.rcell hjl; (have HN := Lib.hid (hs7.nil hjl)); clear hx0 hx1 hc7 hg7))
        all_goals
          have z0 := (DrO.all HN.out).1
          obtain ⟨z1, z2⟩ := DrO.res HN.out
          go_wp2_with fail
          have k0 := World.cell?_setCell_same _ _ (.slice (some ⟨g, 0, none⟩) cur.length cap) z1
          refine bodyPost_ret (v := .agg #[.slice (some ⟨g, 0, none⟩) cur.length cap]) (by simp [results, Tryz.results63, go_sem, k0]) rfl (DrO.done HN.out HLEN.out)
end Go.Proofs.YtmifnbplkaonaaaGreat.DbDraw
