/- Texts that the proof rests on, one behind the other. -/
import Derived.Test.YteihnbnlfocgmaaGreatDoorMg1Databases
import Derived.Test.YteihnbnlfocgmaaGreatDoorDbAcc
import Derived.Test.YteihnbnlfocgmaaGreatDoorDbImp1
import Derived.Test.YteihnbnlfocgmaaGreatDoorDbLook
import Derived.Test.YteihnbnlfocgmaaGreatDoorParMath

namespace Go.Proofs.YteihnbnlfocgmaaGreatDoor.TabDraw
open Go Go.RowKit Byt Ints IntsLaw IntsWalk Draw LocDraw Cd Rows2 Tab TabSpec

theorem list_cellsS (zs : List ByteArray) (w : World) (T : TypeId) : ∀ t, t < zs.length → (w.alloc (.cells (zs.map fun z => Value.string z).toArray T (0, 0))).cell? ⟨w.heap.size, t, none⟩ = some (.string (zs.getD t ⟨#[]⟩)) := by
  intro t ht
  rw [World.cell?_alloc_mark]
  simp [ht]

set_option maxRecDepth 100000 in
set_option maxHeartbeats 800000 in
theorem pickS_any (zs : List ByteArray) (b : Nat) (hzl : 0 < zs.length) (hz64 : zs.length ≤ 100000) (c : Nat) (v : Value) (l : List UInt8) (B : Nat) (w : World) (hc : Cur w c v l) (hr : Reads w v l B) (hB : B ≤ c)
    (hbc : b ≠ c) (hzs : ∀ t, t < zs.length → w.cell? ⟨b, t, none⟩ = some (.string (zs.getD t ⟨#[]⟩))) :
    Calls Tryz.prog 24 #[.pointer (some ⟨c, 0, none⟩), .slice (some ⟨b, 0, none⟩) zs.length zs.length] w fun e w' =>
      ∃ t, t < zs.length ∧ e = .returned (.string (zs.getD t ⟨#[]⟩)) ∧ Cur w' c v l ∧ w.grownBy w' (some c) := by
  have hby := Lib.hid (below_any zs.length c v l B w hc hr hB)
  have Hzs := Lib.hid hzs
  clear hzs
  go_enter Tryz.func24, Tryz.ntmps24
  go_wp2_with fail
  refine hby.out.mono ?_
  rintro e w1 ⟨x, rfl, hx0, hxn, hc1, hg1⟩
  obtain ⟨t, rfl⟩ := Int.eq_ofNat_of_zero_le hx0
  have hxn' := hxn (by omega)
  have ht : t < zs.length := by omega
  have hcell := hg1.cell (Hzs.out t ht) (by intro q; injection q with q; simp only at q; omega)
  clear hxn hxn'
  generalize hq : zs.getD t ⟨#[]⟩ = z at *
  have HQ := Lib.hid hq
  clear hq
  go_wp2_with fail
  go_ret
  exact ⟨t, ht, by rw [HQ.out]; rfl, hc1, hg1⟩

def zl3 : List Int := [0, -1, 10]
theorem zl3_ok : ∀ t : Fin 3, -9223372036854775808 ≤ zl3.getD t.val 0 ∧ zl3.getD t.val 0 ≤ 9223372036854775807 := by decide

theorem grown_below {w w' : World} (h : Below w.heap.size w w') (r : Option Nat) : w.grownBy w' r := ⟨h.os, h.tape, h.output, h.size, fun k hk _ => h.block k hk⟩
theorem loc_grown {w w' : World} {X c : Nat} {a b d : Value} (h : Loc3 w X a b d) (hg : w.grownBy w' (some c)) (hn : X ≠ c) : Loc3 w' X a b d :=
  h.keep (hg.block X h.lt (by intro q; injection q with q; exact hn q))
theorem ow_grown {α : Type} {cd : Cd α} {w w' : World} {base c : Nat} {us : List Value} {a : α} {fp : List Nat} (h : cd.ow w base us a fp) (hg : w.grownBy w' (some c)) (hc : c < base) : cd.ow w' base us a fp :=
  cd.ow_keep h fun b hb => hg.block b (cd.ow_lt h b hb).2 (by intro q; injection q with q; have := (cd.ow_lt h b hb).1; omega)

/-- A drawn table of at most M rows. -/
def TabGen (M : Nat) (w : World) (c : Nat) (v : Value) (l : List UInt8) (nm : ByteArray) (ar : Int) (e : Ending) (w' : World) : Prop :=
  ∃ (u : Value) (rows : List (List Int)) (fp : List Nat), e = .returned (.agg #[.string nm, .int .i64 ar, u]) ∧ rowsC.ow w' w.heap.size [u] rows fp ∧ fp.Nodup ∧ rowsWt rows ≤ 4 * M ∧ Cur w' c v l ∧ w.grownBy w' (some c)
/-- A drawn table. -/
def TabAns (w : World) (c : Nat) (v : Value) (l : List UInt8) (nm : ByteArray) (ar : Int) (e : Ending) (w' : World) : Prop :=
  ∃ (u : Value) (rows : List (List Int)) (fp : List Nat), e = .returned (.agg #[.string nm, .int .i64 ar, u]) ∧ rowsC.ow w' w.heap.size [u] rows fp ∧ fp.Nodup ∧ rowsWt rows ≤ 24 ∧ Cur w' c v l ∧ w.grownBy w' (some c)

set_option maxRecDepth 100000 in
set_option maxHeartbeats 3200000 in
theorem tab_gen (M V : Nat) (hM : M ≤ 8) (hV : 0 < V ∧ V ≤ 6) (nm : ByteArray) (ar : Nat) (har : ar ≤ 3) (c : Nat) (v : Value) (l : List UInt8) (B : Nat) (w : World) (hc : Cur w c v l) (hr : Reads w v l B) (hB : B ≤ c) :
    Calls Tryz.prog 23 #[.pointer (some ⟨c, 0, none⟩), .string nm, .int .i64 ar, .int .i64 M, .int .i64 V] w (TabGen M w c v l nm ar) := by
  have hM8 : (M : Int) ≤ 8 := by omega
  obtain ⟨hV0, hV6⟩ := hV
  have hV8 : (V : Int) ≤ 6 := by omega
  have hV9 : (0 : Int) < (V : Int) := by omega
  have hcs := cur_size hc
  have HR := Lib.hid (fun w' (hg : w.grownBy w' (some c)) => hr.later (below_of hg hB hcs))
  have HC := Lib.hid hc
  clear hc hr
  go_enter Tryz.func23, Tryz.ntmps23
  go_wp2_with fail
  generalize hW : (w.alloc _).alloc _ = W
  obtain ⟨r0, r1, hz, hb0⟩ := start2g w _ _ hW
  clear hW
  have hg0 := grown_below hb0 (some c)
  have hc0 := cur_below HC.out hb0 hcs
  have HG0 := Lib.hid hg0
  have HX0 := Lib.hid (And.intro (Loc3.of r0) (Loc3.of r1))
  have HB0 := Lib.hid (below_any ((M : Int) + 1) c v l B W hc0 (HR.out W hg0) hB)
  clear r0 r1 hb0 hg0 hc0
  refine HB0.out.mono ?_
  rintro e w2 ⟨x, rfl, hx0, hx7, hc2, hg2⟩
  obtain ⟨m0, rfl⟩ := Int.eq_ofNat_of_zero_le hx0
  have hm0 : m0 ≤ M := by have := hx7 (by omega); omega
  have HX2 := Lib.hid (And.intro (loc_grown HX0.out.1 hg2 (by omega)) (loc_grown HX0.out.2 hg2 (by omega)))
  have HZ2 := Lib.hid (show w.heap.size + 2 ≤ w2.heap.size by have := hg2.size; omega)
  have HG2 := Lib.hid (grown_trans HG0.out hg2)
  have HC2 := Lib.hid hc2
  clear hx0 hx7 hc2 hg2 HB0 HX0 HG0 hz
  go_wp2_with fail
  go_loopw [12, 13, 14] (fun n _ _ wr => ∃ (m : Nat) (o : Value) (rows : List (List Int)) (fp : List Nat), m ≤ M ∧ n = .int .i64 m ∧ rowsC.ow wr (w.heap.size + 2) [o] rows fp ∧ fp.Nodup ∧ rowsWt rows ≤ 4 * (M - m) ∧ Loc3 wr (w.heap.size + 1) (.string nm) (.int .i64 ar) o ∧ Loc3 wr w.heap.size (.string ⟨#[]⟩) (.int .i64 0) (.slice none 0 0) ∧ w.heap.size + 2 ≤ wr.heap.size ∧ Cur wr c v l ∧ w.grownBy wr (some c)) (fun n _ _ _ => (intOf n).toNat)
  case atStart => exact ⟨m0, .slice none 0 0, [], [], hm0, rfl, Cd.ow_nil _ _, by simp, by simp [rowsWt], HX2.out.2, HX2.out.1, HZ2.out, HC2.out, HG2.out⟩
  case round =>
    obtain ⟨m, o, rows, fp, hm, rfl, how, hnd, hwt, hx, hz0, hsz, hcw, hgw⟩ := hrel
    obtain ⟨wo, rfl⟩ : ∃ wo : World, wo = wr := ⟨_, rfl⟩
    have HOW := Lib.hid how
    have HND := Lib.hid hnd
    have HWT := Lib.hid hwt
    have HX := Lib.hid hx
    have HZ := Lib.hid hz0
    have HSZ := Lib.hid hsz
    have HCW := Lib.hid hcw
    have HGW := Lib.hid hgw
    clear how hnd hwt hx hz0 hsz hcw hgw
    by_cases hlt : 0 < m
    · have hlt' : (0 : Int) < (m : Int) := by omega
      have HA := Lib.hid (And.intro (OwnI.empty wo wo.heap.size 3 (Nat.le_refl _)) (And.intro (cur_allocI (.cells #[] 3) HCW.out) (World.grownBy_alloc wo (.cells #[] 3) (some c))))
      go_wp2_with fail
      go_loopw [13, 14] (fun q i wr => ∃ (k : Nat) (ls : List Int), k ≤ ar ∧ i = .int .i64 k ∧ OwnI wr wo.heap.size 3 q ls ∧ ls.length = k ∧ InR ls ∧ Cur wr c v l ∧ wo.grownBy wr (some c)) (fun _ i _ => ar - (intOf i).toNat)
      case atStart => exact ⟨0, [], Nat.zero_le _, rfl, HA.out.1, rfl, (fun x hx => by cases hx), HA.out.2.1, HA.out.2.2⟩
      case round =>
        obtain ⟨k, ls, hk, rfl, hown, hlen, hin, hc1, hg1⟩ := hrel
        have HG1 := Lib.hid hg1
        have HO := Lib.hid hown
        have HIN := Lib.hid hin
        have HC1 := Lib.hid hc1
        have hcso : c < wo.heap.size := by have := HSZ.out; omega
        clear hc1 hg1 hown hin
        by_cases hlt2 : k < ar
        · have HB := Lib.hid (below_any V c v l B wr HC1.out (HR.out wr (grown_trans HGW.out HG1.out)) hB)
          have hlt2' : (k : Int) < (ar : Int) := by omega
          go_wp2_with fail
          refine HB.out.mono ?_
          rintro e w2 ⟨x, rfl, hx0, hx5, hc2, hg2⟩
          have hx := hx5 hV9
          have hown2 := owni_kept HO.out hg2 hcso
          have HG2 := Lib.hid (grown_trans HG1.out hg2)
          have HC2 := Lib.hid hc2
          have hs2 : wo.heap.size ≤ w2.heap.size := HG2.out.size
          have hl2 : ls.length + 1 ≤ 1000000000000 := by omega
          have HIN2 := Lib.hid (inr_snoc HIN.out (x := x) ⟨by omega, by omega⟩)
          clear hg2 hc2 hx5
          go_wp2_with (at_builtin; refine wp_appendI rfl (.tmp 32) (.tmp 36) 70 rfl wo.heap.size 3 Tryz.underlying70 info_i64 _ ls rfl hown2 _ rfl hl2 hs2 ?_)
          intro v' w5 hown5 hb5
          go_wp2_with fail
          go_roundw
          case rel => exact ⟨k + 1, _, by omega, by go_num, hown5, by rw [List.length_append, hlen]; rfl, HIN2.out, cur_below HC2.out hb5 hcso, grown_own HG2.out hb5⟩
          case measure => simp [intOf]; omega
        · have ek : k = ar := by omega
          have HW2 := Lib.hid (ow_grown HOW.out HG1.out (by omega))
          have HX2 := Lib.hid (loc_grown HX.out HG1.out (by omega))
          have HZ2 := Lib.hid (loc_grown HZ.out HG1.out (by omega))
          have hx2 := HX2.out.c2
          have hlt2' : ¬ (k : Int) < (ar : Int) := by omega
          have hrd := Cd.reads (show rowC.ow _ _ _ _ _ from Cd.ow_of_own (e := 3) HO.out HIN.out)
          have HWL := Lib.hid (show ls.length ≤ 3 by omega)
          have HP := Lib.hid (spec_put o _ rows ls _ _ wr (Cd.reads HW2.out) hrd (by have := HWT.out; omega) (by have := HWL.out; omega))
          have HSZ2 := Lib.hid (show w.heap.size + 2 ≤ wr.heap.size by have := HSZ.out; have := HG1.out.size; omega)
          have HG3 := Lib.hid (grown_trans HGW.out HG1.out)
          clear hrd
          go_wp2_with fail
          refine HP.out.mono ?_
          rintro e w5 ⟨v5, fp5, rfl, ho5, hn5, hb5⟩
          obtain ⟨a5, c5, rfl⟩ := Cd.ow_slice ho5
          have HO5 := Lib.hid ho5
          have HN5 := Lib.hid hn5
          have HB5 := Lib.hid hb5
          have HX5 := Lib.hid (Loc3.later HX2.out hb5)
          have HZ5 := Lib.hid (Loc3.later HZ2.out hb5)
          have hx5 := HX5.out.c2
          have hf5 := HX5.out.f2
          clear ho5 hn5 hb5 hx2 HP
          go_wp2_with fail
          go_roundw
          case rel =>
            have hs5 := HB5.out.size
            have hs2 := HSZ2.out
            refine ⟨m - 1, _, putR rows ls, fp5, by omega, ?_, ?_, HN5.out, ?_, Loc3.set2 HX5.out _, Loc3.set_far HZ5.out (by show w.heap.size + 1 ≠ w.heap.size; omega) _, ?_, ?_, ?_⟩
            · go_num
            · exact ow_setCell (rowsC.ow_base HO5.out (by omega)) (fun q => by have := (rowsC.ow_lt HO5.out _ q).1; simp at this; omega) _
            · have := putR_wt rows ls; have := HWT.out; have := HWL.out; omega
            · show _ ≤ (w5.setCell _ _).heap.size; simp; omega
            · exact cur_farI _ (cur_below HC1.out HB5.out (by omega)) (by show c ≠ w.heap.size + 1; omega)
            · exact grown_newI _ (grown_own HG3.out (HB5.out.mono (by omega))) (by show w.heap.size ≤ w.heap.size + 1; omega)
          case measure => simp [intOf]; omega
    · have ek : m = 0 := by omega
      subst ek
      obtain ⟨ao, co, rfl⟩ := Cd.ow_slice HOW.out
      obtain ⟨p0, p1, p2, q0, q1, q2⟩ := HZ.out
      obtain ⟨x0, x1, x2, g0, g1, g2⟩ := HX.out
      go_wp2_with fail
      obtain ⟨k0, k1, k2⟩ := set3 (w := wo) (k := w.heap.size) (x := .string nm) (y := .int .i64 ar) (z := .slice ao rows.length co) p0 p1 p2
      refine bodyPost_ret (v := .agg #[.string nm, .int .i64 ar, .slice ao rows.length co]) (by simp [results, Tryz.results23, go_sem, k0, k1, k2]) rfl ⟨_, rows, fp, rfl, ?_, HND.out, by have := HWT.out; omega, ?_, ?_⟩
      · have hn : w.heap.size ∉ fp := fun q => by have h1 := (rowsC.ow_lt HOW.out _ q).1; omega
        exact ow_setCell (ow_setCell (ow_setCell (rowsC.ow_base HOW.out (by omega)) hn _) hn _) hn _
      · have hne : c ≠ w.heap.size := by omega
        exact cur_farI _ (cur_farI _ (cur_farI _ HCW.out hne) hne) hne
      · exact grown_newI _ (grown_newI _ (grown_newI _ HGW.out (Nat.le_refl _)) (Nat.le_refl _)) (Nat.le_refl _)
theorem tab_any (nm : ByteArray) (ar : Nat) (har : ar ≤ 3) (c : Nat) (v : Value) (l : List UInt8) (B : Nat) (w : World) (hc : Cur w c v l) (hr : Reads w v l B) (hB : B ≤ c) :
    Calls Tryz.prog 23 #[.pointer (some ⟨c, 0, none⟩), .string nm, .int .i64 ar, .int .i64 6, .int .i64 4] w (TabAns w c v l nm ar) :=
  tab_gen 6 4 (by decide) (by decide) nm ar har c v l B w hc hr hB
end Go.Proofs.YteihnbnlfocgmaaGreatDoor.TabDraw

namespace Go.Proofs.YteihnbnlfocgmaaGreatDoor.TabSpec
open Go Go.RowKit Byt Ints IntsLaw IntsWalk Draw LocDraw Cd Rows2 Tab TabDraw

theorem Loc3.set0 {w : World} {X : Nat} {a b c : Value} (h : Loc3 w X a b c) (v : Value) : Loc3 (w.setCell ⟨X, 0, none⟩ v) X v b c := by
  refine ⟨World.cell?_setCell_same _ _ _ h.c0, ?_, ?_, ?_, ?_, ?_⟩
  · rw [World.cell?_setCell_other _ _ _ _ (by simp)]; exact h.c1
  · rw [World.cell?_setCell_other _ _ _ _ (by simp)]; exact h.c2
  · simpa using h.f0
  · simpa using h.f1
  · simpa using h.f2
theorem Loc3.set1 {w : World} {X : Nat} {a b c : Value} (h : Loc3 w X a b c) (v : Value) : Loc3 (w.setCell ⟨X, 1, none⟩ v) X a v c := by
  refine ⟨?_, World.cell?_setCell_same _ _ _ h.c1, ?_, ?_, ?_, ?_⟩
  · rw [World.cell?_setCell_other _ _ _ _ (by simp)]; exact h.c0
  · rw [World.cell?_setCell_other _ _ _ _ (by simp)]; exact h.c2
  · simpa using h.f0
  · simpa using h.f1
  · simpa using h.f2

/-- In the drawing of a table: the result's cells, the local table in block X, the cursor. -/
structure St (w : World) (c : Nat) (v : Value) (l : List UInt8) (X : Nat) (nm : ByteArray) (ar : Int) (u : Value) (rows : List (List Int)) (fp : List Nat) (W : World) : Prop where
  how : rowsC.ow W (w.heap.size + 1) [u] rows fp
  nd : fp.Nodup
  xn : X ∉ fp
  lx : Loc3 W X (.string nm) (.int .i64 ar) u
  lr : Loc3 W w.heap.size (.string ⟨#[]⟩) (.int .i64 0) (.slice none 0 0)
  xb : w.heap.size < X
  cb : c < w.heap.size
  cu : Cur W c v l
  gr : w.grownBy W (some c)
theorem St.alloc {w : World} {c : Nat} {v : Value} {l : List UInt8} {X : Nat} {nm : ByteArray} {ar : Int} {u : Value} {rows : List (List Int)} {fp : List Nat} {W : World} (h : St w c v l X nm ar u rows fp W) (o : Obj) : St w c v l X nm ar u rows fp (W.alloc o) :=
  ⟨Cd.ow_later h.how (below_alloc W o), h.nd, h.xn, h.lx.later (below_alloc W o), h.lr.later (below_alloc W o), h.xb, h.cb, cur_allocI o h.cu, grown_allocI o h.gr⟩
theorem St.grown {w : World} {c : Nat} {v : Value} {l : List UInt8} {X : Nat} {nm : ByteArray} {ar : Int} {u : Value} {rows : List (List Int)} {fp : List Nat} {W W' : World} (h : St w c v l X nm ar u rows fp W) (hg : W.grownBy W' (some c)) (hc : Cur W' c v l) : St w c v l X nm ar u rows fp W' :=
  have h1 := h.cb
  have h2 := h.xb
  ⟨ow_grown h.how hg (by omega), h.nd, h.xn, loc_grown h.lx hg (by omega), loc_grown h.lr hg (by omega), h.xb, h.cb, hc, grown_trans h.gr hg⟩
theorem St.set0 {w : World} {c : Nat} {v : Value} {l : List UInt8} {X : Nat} {nm : ByteArray} {ar : Int} {u : Value} {rows : List (List Int)} {fp : List Nat} {W : World} (h : St w c v l X nm ar u rows fp W) (nm' : ByteArray) : St w c v l X nm' ar u rows fp (W.setCell ⟨X, 0, none⟩ (.string nm')) :=
  have h1 := h.cb
  have h2 := h.xb
  ⟨ow_setCell h.how h.xn _, h.nd, h.xn, Loc3.set0 h.lx _, Loc3.set_far h.lr (by show X ≠ _; omega) _, h.xb, h.cb, cur_farI _ h.cu (by show c ≠ X; omega), grown_newI _ h.gr (by show _ ≤ X; omega)⟩
theorem St.set1 {w : World} {c : Nat} {v : Value} {l : List UInt8} {X : Nat} {nm : ByteArray} {ar : Int} {u : Value} {rows : List (List Int)} {fp : List Nat} {W : World} (h : St w c v l X nm ar u rows fp W) (ar' : Int) : St w c v l X nm ar' u rows fp (W.setCell ⟨X, 1, none⟩ (.int .i64 ar')) :=
  have h1 := h.cb
  have h2 := h.xb
  ⟨ow_setCell h.how h.xn _, h.nd, h.xn, Loc3.set1 h.lx _, Loc3.set_far h.lr (by show X ≠ _; omega) _, h.xb, h.cb, cur_farI _ h.cu (by show c ≠ X; omega), grown_newI _ h.gr (by show _ ≤ X; omega)⟩
theorem St.touched {w : World} {c : Nat} {v : Value} {l : List UInt8} {X : Nat} {nm : ByteArray} {ar : Int} {u : Value} {rows : List (List Int)} {fp : List Nat} {W W' : World} (h : St w c v l X nm ar u rows fp W) (ht : Cd.Touch fp W W') : Loc3 W' X (.string nm) (.int .i64 ar) u := h.lx.touched ht h.xn
theorem St.app {w : World} {c : Nat} {v : Value} {l : List UInt8} {X : Nat} {nm : ByteArray} {ar : Int} {u u' : Value} {rows rows' : List (List Int)} {fp fp' f : List Nat} {W W' : World} (h : St w c v l X nm ar u rows fp W) (ht : Cd.Touch fp W W')
    (ho : rowsC.ow W' (w.heap.size + 1) [u'] rows' fp') (hn : fp'.Nodup) (hs : ∀ b ∈ fp', b ∈ fp ∨ b ∈ f ∨ W.heap.size ≤ b) (hf : X ∉ f) : St w c v l X nm ar u' rows' fp' (W'.setCell ⟨X, 2, none⟩ u') := by
  have h1 := h.cb
  have h2 := h.xb
  have h3 := h.lx.lt
  have hx : X ∉ fp' := fun q => by
    rcases hs X q with q | q | q
    · exact h.xn q
    · exact hf q
    · omega
  have hfp : ∀ b ∈ fp, w.heap.size + 1 ≤ b := fun b hb => (rowsC.ow_lt h.how b hb).1
  refine ⟨ow_setCell ho hx _, hn, hx, Loc3.set2 (h.lx.touched ht h.xn) _, Loc3.set_far (h.lr.touched ht (fun q => by have := hfp _ q; omega)) (by show X ≠ _; omega) _, h.xb, h.cb, ?_, ?_⟩
  · refine cur_farI _ ?_ (by show c ≠ X; omega)
    obtain ⟨i, x, hi, hh⟩ := h.cu
    exact ⟨i, x, hi, ht.row hh (fun q => by have := hfp _ q; omega)⟩
  · refine grown_newI _ ?_ (by show _ ≤ X; omega)
    exact ⟨ht.os.trans h.gr.os, ht.tape.trans h.gr.tape, ht.output.trans h.gr.output, Nat.le_trans h.gr.size ht.size, fun k hk hne => (ht.block k (by have := h.gr.size; omega) (fun q => by have := hfp _ q; omega)).trans (h.gr.block k hk hne)⟩

/-- A drawn table that may be none. -/
def AnyAns (w : World) (c : Nat) (v : Value) (l : List UInt8) (e : Ending) (w' : World) : Prop :=
  ∃ (nm : ByteArray) (ar : Int) (u : Value) (rows : List (List Int)) (fp : List Nat), e = .returned (.agg #[.string nm, .int .i64 ar, u]) ∧ nm.size ≤ 2 ∧ (-1 ≤ ar ∧ ar ≤ 4) ∧ rowsC.ow w' w.heap.size [u] rows fp ∧ fp.Nodup ∧ rowsWt rows ≤ 28 ∧ Cur w' c v l ∧ w.grownBy w' (some c)
theorem St.done {w : World} {c : Nat} {v : Value} {l : List UInt8} {X : Nat} {nm : ByteArray} {ar : Int} {u : Value} {rows : List (List Int)} {fp : List Nat} {W : World} (h : St w c v l X nm ar u rows fp W) (hnm : nm.size ≤ 2) (har : -1 ≤ ar ∧ ar ≤ 4) (hwt : rowsWt rows ≤ 28) (x y z : Value) :
    AnyAns w c v l (.returned (.agg #[.string nm, .int .i64 ar, u])) (((W.setCell ⟨w.heap.size, 0, none⟩ x).setCell ⟨w.heap.size, 1, none⟩ y).setCell ⟨w.heap.size, 2, none⟩ z) := by
  have h1 := h.cb
  have hn : w.heap.size ∉ fp := fun q => by have h1 := (rowsC.ow_lt h.how _ q).1; omega
  have hne : c ≠ w.heap.size := by omega
  exact ⟨nm, ar, u, rows, fp, rfl, hnm, har, ow_setCell (ow_setCell (ow_setCell (rowsC.ow_base h.how (by omega)) hn _) hn _) hn _, h.nd, hwt, cur_farI _ (cur_farI _ (cur_farI _ h.cu hne) hne) hne,
    grown_newI _ (grown_newI _ (grown_newI _ h.gr (Nat.le_refl _)) (Nat.le_refl _)) (Nat.le_refl _)⟩

/-- A row written out. -/
theorem lit_row (W : World) (zs : List Int) (hz : InR zs) (hl : zs.length ≤ 1000) (base : Nat) (hb : base ≤ W.heap.size) : rowC.ow (W.alloc (.cells (zs.map fun z => Value.int .i64 z).toArray 3)) base [.slice (some ⟨W.heap.size, 0, none⟩) zs.length zs.length] zs [W.heap.size] := by
  have h : OwnI (W.alloc (.cells (zs.map fun z => Value.int .i64 z).toArray 3)) base 3 (.slice (some ⟨W.heap.size, 0, none⟩) zs.length zs.length) zs := by
    exact World.ownsRow_lit (base := base) (e := 3) (size := 1) W (zs.map fun z => Value.int .i64 z).toArray zs.length hb (by unfold maxLen; omega) (by simp)
  exact Cd.ow_of_own (e := 3) h hz

theorem row3' (w : World) (q : Value) (e : TypeId) : (w.alloc (.cells #[q] e)).cell? ⟨w.heap.size, 0, none⟩ = some q := by simp
/-- A row written out in a slice of its own, to be appended. -/
structure Lit (w : World) (c : Nat) (v : Value) (l : List UInt8) (X : Nat) (nm : ByteArray) (ar : Int) (u : Value) (rows : List (List Int)) (fp : List Nat) (B : Nat) (zs : List Int) (q : Value) (W2 : World) : Prop where
  st : St w c v l X nm ar u rows fp W2
  cell : W2.cell? ⟨B + 1, 0, none⟩ = some q
  row : rowC.ow W2 (w.heap.size + 1) [q] zs [B]
  far : ∀ b ∈ [B], b ∉ fp
  xf : X ∉ [B]
  sz : w.heap.size + 1 ≤ W2.heap.size
theorem St.lit {w : World} {c : Nat} {v : Value} {l : List UInt8} {X : Nat} {nm : ByteArray} {ar : Int} {u : Value} {rows : List (List Int)} {fp : List Nat} {W : World} (h : St w c v l X nm ar u rows fp W) (zs : List Int) (hz : InR zs) (hl : zs.length ≤ 1000) :
    Lit w c v l X nm ar u rows fp W.heap.size zs (.slice (some ⟨W.heap.size, 0, none⟩) zs.length zs.length) ((W.alloc (.cells (zs.map fun z => Value.int .i64 z).toArray 3)).alloc (.cells #[.slice (some ⟨W.heap.size, 0, none⟩) zs.length zs.length] 70)) := by
  have h0 := h.lx.lt
  have h1 := h.xb
  refine ⟨(h.alloc _).alloc _, ?_, Cd.ow_later (lit_row W zs hz hl _ (by omega)) (below_alloc _ _), fun b hb q => ?_, fun q => ?_, ?_⟩
  · have := row3' (W.alloc (.cells (zs.map fun z => Value.int .i64 z).toArray 3)) (.slice (some ⟨W.heap.size, 0, none⟩) zs.length zs.length) 70
    rw [size_alloc] at this
    exact this
  · rw [List.mem_singleton.1 hb] at q
    have := (rowsC.ow_lt h.how _ q).2
    omega
  · rw [List.mem_singleton.1 q] at h0
    omega
  · rw [size_alloc, size_alloc]
    omega

def ss3 : List ByteArray := [⟨#[114]⟩, ⟨#[115]⟩, ⟨#[116]⟩]
theorem ss3_ok : ∀ t : Fin 3, (ss3.getD t.val ⟨#[]⟩).size ≤ 2 := by decide
def ss4 : List ByteArray := [⟨#[]⟩, ⟨#[82]⟩, ⟨#[114, 115]⟩, ⟨#[122]⟩]
theorem ss4_ok : ∀ t : Fin 4, (ss4.getD t.val ⟨#[]⟩).size ≤ 2 := by decide
def zz3 : List Int := [0, 4, -1]
theorem zz3_ok : ∀ t : Fin 3, -1 ≤ zz3.getD t.val 0 ∧ zz3.getD t.val 0 ≤ 4 := by decide

set_option maxRecDepth 100000 in
set_option maxHeartbeats 1600000 in
theorem tabany_any (c : Nat) (v : Value) (l : List UInt8) (B : Nat) (w : World) (hc : Cur w c v l) (hr : Reads w v l B) (hB : B ≤ c) :
    Calls Tryz.prog 25 #[.pointer (some ⟨c, 0, none⟩)] w (AnyAns w c v l) := by
  have hcs := cur_size hc
  have HR := Lib.hid (fun w' (hg : w.grownBy w' (some c)) => hr.later (below_of hg hB hcs))
  have HC := Lib.hid hc
  clear hc hr
  go_enter Tryz.func25, Tryz.ntmps25
  go_wp2_with fail
  generalize hW : w.alloc _ = W0
  obtain ⟨r0, hz, hb0⟩ := start1 w _ hW
  clear hW
  have HX0 := Lib.hid (Loc3.of r0)
  have HG0 := Lib.hid (grown_below hb0 (some c))
  have HC0 := Lib.hid (cur_below HC.out hb0 hcs)
  have hc1 := cur_allocI (.cells (ss3.map fun z => Value.string z).toArray 9) HC0.out
  have hg1 := grown_allocI (.cells (ss3.map fun z => Value.string z).toArray 9) HG0.out
  have HP := Lib.hid (pickS_any ss3 W0.heap.size (by decide) (by decide) c v l B _ hc1 (HR.out _ hg1) hB (by omega) (list_cellsS ss3 W0 9))
  rw [hz] at HP
  have HG1 := Lib.hid hg1
  have HX1 := Lib.hid (HX0.out.later (below_alloc W0 (.cells (ss3.map fun z => Value.string z).toArray 9)))
  have HZ1 := Lib.hid (show (W0.alloc (.cells (ss3.map fun z => Value.string z).toArray 9)).heap.size = w.heap.size + 2 by rw [size_alloc, hz])
  clear r0 hb0 hc1 hg1 HX0 HG0 HC0
  refine HP.out.mono ?_
  rintro e w2 ⟨t, ht, rfl, hc2, hg2⟩
  have hnm := ss3_ok ⟨t, ht⟩
  simp only at hnm
  generalize ss3.getD t ⟨#[]⟩ = nm at *
  have HX2 := Lib.hid (loc_grown HX1.out hg2 (by omega))
  have HZ2 := Lib.hid (show w.heap.size + 2 ≤ w2.heap.size by have := hg2.size; have := HZ1.out; omega)
  have HG2 := Lib.hid (grown_trans HG1.out hg2)
  have HB2 := Lib.hid (below_any 3 c v l B w2 hc2 (HR.out w2 HG2.out) hB)
  clear hc2 hg2 HX1 HG1 HP HZ1 hz
  go_wp2_with fail
  refine HB2.out.mono ?_
  rintro e w3 ⟨x, rfl, hx0, hx3, hc3, hg3⟩
  obtain ⟨n, rfl⟩ := Int.eq_ofNat_of_zero_le hx0
  have hn : n ≤ 2 := by have := hx3 (by decide); omega
  have HX3 := Lib.hid (loc_grown HX2.out hg3 (by omega))
  have HZ3 := Lib.hid (show w.heap.size + 2 ≤ w3.heap.size by have := hg3.size; have := HZ2.out; omega)
  have HG3 := Lib.hid (grown_trans HG2.out hg3)
  have HT := Lib.hid (tab_any nm (n + 1) (by omega) c v l B w3 hc3 (HR.out w3 HG3.out) hB)
  have en : (((n + 1 : Nat)) : Int) = 1 + (n : Int) := by omega
  rw [en] at HT
  have HEN := Lib.hid en
  clear hx3 hc3 hg3 HX2 HG2 HB2 HZ2 en
  go_wp2_with fail
  refine HT.out.mono ?_
  rintro e w4 ⟨u, rows, fp, rfl, how, hnd, hwt, hc4, hg4⟩
  obtain ⟨a4, cap4, rfl⟩ := Cd.ow_slice how
  have HX4 := Lib.hid (loc_grown HX3.out hg4 (by omega))
  have HG4 := Lib.hid (grown_trans HG3.out hg4)
  have HZ4 := Lib.hid (show w.heap.size + 2 ≤ w4.heap.size by have := hg4.size; have := HZ3.out; omega)
  have HOW := Lib.hid (rowsC.ow_base how (show w.heap.size + 1 ≤ w3.heap.size by have := HZ3.out; omega))
  have HND := Lib.hid hnd
  have HWT := Lib.hid hwt
  have HC4 := Lib.hid hc4
  clear how hnd hwt hc4 hg4 HX3 HG3 HT HZ3
  go_wp2_with fail
  generalize hW : w4.alloc _ = W
  obtain ⟨r0, hz, hb0⟩ := start1 w4 _ hW
  have hst : St w c v l w4.heap.size nm (1 + (n : Int)) (.slice a4 rows.length cap4) rows fp W := ⟨Cd.ow_later HOW.out hb0, HND.out, fun q => Nat.lt_irrefl _ (rowsC.ow_lt HOW.out _ q).2, Loc3.of r0, HX4.out.later hb0, by have := HZ4.out; omega, hcs, cur_below HC4.out hb0 (by have := HZ4.out; omega), grown_trans HG4.out (grown_below hb0 (some c))⟩
  clear hW
  have HST := Lib.hid hst
  generalize w4.heap.size = X at *
  have HB5 := Lib.hid (below_any 12 c v l B W hst.cu (HR.out W hst.gr) hB)
  have har : -1 ≤ 1 + (n : Int) ∧ 1 + (n : Int) ≤ 4 := by omega
  generalize 1 + (n : Int) = ar at *
  clear hst r0 hb0 hz HOW HND HX4 HG4 HC4 HZ4 HEN
  refine HB5.out.mono ?_
  rintro e w5 ⟨x, rfl, hx0, hx12, hc5, hg5⟩
  have HS := Lib.hid (HST.out.grown hg5 hc5)
  clear hx12 hc5 hg5 HST HB5
  by_cases x0 : x = 0
  · subst x0
    have hal := HS.out.alloc (.cells (ss4.map fun z => Value.string z).toArray 9)
    have HP := Lib.hid (pickS_any ss4 w5.heap.size (by decide) (by decide) c v l B _ hal.cu (HR.out _ hal.gr) hB (by have := (cur_size HS.out.cu); omega) (list_cellsS ss4 w5 9))
    have HAL := Lib.hid hal
    clear hal
    go_wp2_with fail
    refine HP.out.mono ?_
    rintro e w6 ⟨t, ht, rfl, hc6, hg6⟩
    have hnm := ss4_ok ⟨t, ht⟩
    simp only at hnm
    generalize ss4.getD t ⟨#[]⟩ = nm' at *
    have HS6 := Lib.hid (HAL.out.grown hg6 hc6)
    have hx0 := HS6.out.lx.c0
    have hf0 := HS6.out.lx.f0
    have HS7 := Lib.hid (HS6.out.set0 nm')
    obtain ⟨p0, p1, p2, q0, q1, q2⟩ := HS7.out.lx
    obtain ⟨g0, g1, g2, f0, f1, f2⟩ := HS7.out.lr
    clear hc6 hg6 HP HAL
    go_wp2_with fail
    obtain ⟨k0, k1, k2⟩ := set3 (w := w6.setCell ⟨X, 0, none⟩ (.string nm')) (k := w.heap.size) (x := .string nm') (y := .int .i64 ar) (z := .slice a4 rows.length cap4) g0 g1 g2
    refine bodyPost_ret (v := .agg #[.string nm', .int .i64 ar, .slice a4 rows.length cap4]) (by simp [results, Tryz.results25, go_sem, k0, k1, k2]) rfl (HS7.out.done hnm har (by have := HWT.out; omega) _ _ _)
  have tt0 : (x == 0) = false := by rw [beq_eq_false_iff_ne]; exact x0
  by_cases x1 : x = 1
  · subst x1
    clear x0
    have hal := HS.out.alloc (.cells (zz3.map fun z => Value.int .i64 z).toArray 3)
    have HP := Lib.hid (pick_any zz3 w5.heap.size (by decide) (by decide) c v l B _ hal.cu (HR.out _ hal.gr) hB (by have := (cur_size HS.out.cu); omega) (list_cellsI zz3 w5 3))
    have HAL := Lib.hid hal
    clear hal
    go_wp2_with fail
    refine HP.out.mono ?_
    rintro e w6 ⟨t, ht, rfl, hc6, hg6⟩
    have har' := zz3_ok ⟨t, ht⟩
    simp only at har'
    generalize zz3.getD t 0 = ar' at *
    have HS6 := Lib.hid (HAL.out.grown hg6 hc6)
    have hx1 := HS6.out.lx.c1
    have hf1 := HS6.out.lx.f1
    have HS7 := Lib.hid (HS6.out.set1 ar')
    obtain ⟨p0, p1, p2, q0, q1, q2⟩ := HS7.out.lx
    obtain ⟨g0, g1, g2, f0, f1, f2⟩ := HS7.out.lr
    clear hc6 hg6 HP HAL
    go_wp2_with fail
    obtain ⟨k0, k1, k2⟩ := set3 (w := w6.setCell ⟨X, 1, none⟩ (.int .i64 ar')) (k := w.heap.size) (x := .string nm) (y := .int .i64 ar') (z := .slice a4 rows.length cap4) g0 g1 g2
    refine bodyPost_ret (v := .agg #[.string nm, .int .i64 ar', .slice a4 rows.length cap4]) (by simp [results, Tryz.results25, go_sem, k0, k1, k2]) rfl (HS7.out.done hnm har' (by have := HWT.out; omega) _ _ _)
  have tt1 : (x == 1) = false := by rw [beq_eq_false_iff_ne]; exact x1
  have HL1 := Lib.hid (show rows.length + 1 ≤ 1000000000000 by have := HWT.out; unfold rowsWt at this; omega)
  by_cases x2 : x = 2
  · subst x2
    clear x0 x1
    have HLT := Lib.hid (HS.out.lit [0] (by intro y hy; rw [List.mem_singleton.1 hy]; omega) (by decide))
    have hx2 := cell_alloc_some (cell_alloc_some HS.out.lx.c2 (.cells #[.int .i64 0] 3)) (.cells #[.slice (some ⟨w5.heap.size, 0, none⟩) 1 1] 70)
    have hx2' := HS.out.lx.c2
    go_wp2_with (at_builtin; refine Cd.wpList_appendE (c := rowC) rfl rfl (.tmp 29) (.tmp 31) 27 rfl (w.heap.size + 1) 70 (.slice none 0 0) 24 Tryz.underlying27 info_ints rfl (by decide) _ rows _ rfl HLT.out.st.how HLT.out.st.nd _ _ rfl HLT.out.cell [0] _ HLT.out.row (by simp) HLT.out.far HL1.out HLT.out.sz ?_)
    intro g cap w6 fp6 ho6 hn6 hs6 ht6
    have hx6 := (HLT.out.st.touched ht6)
    have hx62 := hx6.c2
    have hf62 := hx6.f2
    have HS7 := Lib.hid (HLT.out.st.app ht6 ho6 hn6 (fun b hb => by have := hs6 b hb; rw [List.mem_singleton, size_alloc, size_alloc]; omega) HLT.out.xf)
    obtain ⟨p0, p1, p2, q0, q1, q2⟩ := HS7.out.lx
    obtain ⟨g0, g1, g2, f0, f1, f2⟩ := HS7.out.lr
    clear ho6 hn6 hs6 ht6 hx6 hx2 hx2'
    go_wp2_with fail
    obtain ⟨k0, k1, k2⟩ := set3 (w := w6.setCell ⟨X, 2, none⟩ (.slice (some ⟨g, 0, none⟩) (rows.length + 1) cap)) (k := w.heap.size) (x := .string nm) (y := .int .i64 ar) (z := .slice (some ⟨g, 0, none⟩) (rows.length + 1) cap) g0 g1 g2
    refine bodyPost_ret (v := .agg #[.string nm, .int .i64 ar, .slice (some ⟨g, 0, none⟩) (rows.length + 1) cap]) (by simp [results, Tryz.results25, go_sem, k0, k1, k2]) rfl (HS7.out.done hnm har (by have := HWT.out; simp [rowsWt] at *; omega) _ _ _)
  have tt2 : (x == 2) = false := by rw [beq_eq_false_iff_ne]; exact x2
  by_cases x3 : x = 3
  · subst x3
    clear x0 x1 x2
    have HLT := Lib.hid (HS.out.lit [9, 9, 10] (by intro y hy; simp at hy; omega) (by decide))
    have hx2' := HS.out.lx.c2
    go_wp2_with (at_builtin; refine Cd.wpList_appendE (c := rowC) rfl rfl (.tmp 37) (.tmp 39) 27 rfl (w.heap.size + 1) 70 (.slice none 0 0) 24 Tryz.underlying27 info_ints rfl (by decide) _ rows _ rfl HLT.out.st.how HLT.out.st.nd _ _ rfl HLT.out.cell [9, 9, 10] _ HLT.out.row (by simp) HLT.out.far HL1.out HLT.out.sz ?_)
    intro g cap w6 fp6 ho6 hn6 hs6 ht6
    have hx6 := (HLT.out.st.touched ht6)
    have hx62 := hx6.c2
    have hf62 := hx6.f2
    have HS7 := Lib.hid (HLT.out.st.app ht6 ho6 hn6 (fun b hb => by have := hs6 b hb; rw [List.mem_singleton, size_alloc, size_alloc]; omega) HLT.out.xf)
    obtain ⟨p0, p1, p2, q0, q1, q2⟩ := HS7.out.lx
    obtain ⟨g0, g1, g2, f0, f1, f2⟩ := HS7.out.lr
    clear ho6 hn6 hs6 ht6 hx6 hx2'
    go_wp2_with fail
    obtain ⟨k0, k1, k2⟩ := set3 (w := w6.setCell ⟨X, 2, none⟩ (.slice (some ⟨g, 0, none⟩) (rows.length + 1) cap)) (k := w.heap.size) (x := .string nm) (y := .int .i64 ar) (z := .slice (some ⟨g, 0, none⟩) (rows.length + 1) cap) g0 g1 g2
    refine bodyPost_ret (v := .agg #[.string nm, .int .i64 ar, .slice (some ⟨g, 0, none⟩) (rows.length + 1) cap]) (by simp [results, Tryz.results25, go_sem, k0, k1, k2]) rfl (HS7.out.done hnm har (by have := HWT.out; simp [rowsWt] at *; omega) _ _ _)
  have tt3 : (x == 3) = false := by rw [beq_eq_false_iff_ne]; exact x3
  clear x0 x1 x2 x3
  obtain ⟨p0, p1, p2, q0, q1, q2⟩ := HS.out.lx
  obtain ⟨g0, g1, g2, f0, f1, f2⟩ := HS.out.lr
  go_wp2_with fail
  obtain ⟨k0, k1, k2⟩ := set3 (w := w5) (k := w.heap.size) (x := .string nm) (y := .int .i64 ar) (z := .slice a4 rows.length cap4) g0 g1 g2
  refine bodyPost_ret (v := .agg #[.string nm, .int .i64 ar, .slice a4 rows.length cap4]) (by simp [results, Tryz.results25, go_sem, k0, k1, k2]) rfl (HS.out.done hnm har (by have := HWT.out; omega) _ _ _)
end Go.Proofs.YteihnbnlfocgmaaGreatDoor.TabSpec

namespace Go.Proofs.YteihnbnlfocgmaaGreatDoor.DbDraw
open Go Go.RowKit Byt Ints IntsLaw IntsWalk Draw LocDraw Cd Rows2 Tab TabDraw SlMath TabOpen TabElem SlTable Db TabSpec DbMath DbSpec DbExact DbAcc

theorem loc1_grown {w w' : World} {X c : Nat} {a : Value} (h : Loc1 w X a) (hg : w.grownBy w' (some c)) (hn : X ≠ c) : Loc1 w' X a :=
  h.keep (hg.block X h.lt (by intro q; injection q with q; exact hn q))
def nm5 : List ByteArray := [⟨#[114]⟩, ⟨#[115]⟩, ⟨#[116]⟩, ⟨#[117]⟩, ⟨#[118]⟩]
def zv4 : List Int := [2, 3, 4, 6]
def zm4 : List Int := [2, 4, 6, 8]
theorem nm5_ok : ∀ t : Fin 5, (nm5.getD t.val ⟨#[]⟩).size ≤ 2 := by decide
theorem zv4_ok : ∀ t : Fin 4, 0 < zv4.getD t.val 0 ∧ zv4.getD t.val 0 ≤ 6 := by decide
theorem zm4_ok : ∀ t : Fin 4, 0 ≤ zm4.getD t.val 0 ∧ zm4.getD t.val 0 ≤ 8 := by decide

/-- A table that a draw may make. -/
def OkD (T : T3) : Prop := T.1.size ≤ 2 ∧ (-1 ≤ T.2.1 ∧ T.2.1 ≤ 4) ∧ rowsWt T.2.2 ≤ 32
/-- In the drawing of a database: the local one in block X, the names behind it, the cursor. -/
structure DrS (w : World) (c : Nat) (v : Value) (l : List UInt8) (X : Nat) (cur : List T3) (a : Option Addr) (k : Nat) (fp : List Nat) (W : World) : Prop where
  lx : Loc1 W X (.slice a cur.length k)
  lr : Loc1 W w.heap.size (.slice none 0 0)
  nm : ∀ t, t < 5 → W.cell? ⟨X + 1, t, none⟩ = some (.string (nm5.getD t ⟨#[]⟩))
  ow : tabsC.ow W (X + 2) [.slice a cur.length k] cur fp
  nd : fp.Nodup
  ok : ∀ T ∈ cur, OkD T
  xb : w.heap.size < X
  cb : c < w.heap.size
  sz : X + 2 ≤ W.heap.size
  cu : Cur W c v l
  gr : w.grownBy W (some c)
theorem DrS.grown {w : World} {c : Nat} {v : Value} {l : List UInt8} {X : Nat} {cur : List T3} {a : Option Addr} {k : Nat} {fp : List Nat} {W W' : World} (h : DrS w c v l X cur a k fp W) (hg : W.grownBy W' (some c)) (hc : Cur W' c v l) : DrS w c v l X cur a k fp W' :=
  have h1 := h.cb
  have h2 := h.xb
  ⟨loc1_grown h.lx hg (by omega), loc1_grown h.lr hg (by omega), fun t ht => hg.cell (h.nm t ht) (by intro q; injection q with q; simp only at q; omega), ow_grown h.ow hg (by omega), h.nd, h.ok, h.xb, h.cb, Nat.le_trans h.sz hg.size, hc, grown_trans h.gr hg⟩
theorem DrS.alloc {w : World} {c : Nat} {v : Value} {l : List UInt8} {X : Nat} {cur : List T3} {a : Option Addr} {k : Nat} {fp : List Nat} {W : World} (h : DrS w c v l X cur a k fp W) (o : Obj) : DrS w c v l X cur a k fp (W.alloc o) :=
  h.grown (World.grownBy_alloc W o (some c)) (cur_allocI o h.cu)
/-- A drawn table laid in two cells of its own, to be appended. -/
structure LaidD (X : Nat) (W3 : World) (b : Nat) (us : List Value) (T : T3) (f fp : List Nat) : Prop where
  at_ : Cd.At W3 b 0 us
  ow : tabC.ow W3 (X + 2) us T f
  nd : f.Nodup
  far : ∀ b ∈ f, b ∉ fp
  sz : X + 2 ≤ W3.heap.size
  ok : OkD T
theorem DrS.laid {w : World} {c : Nat} {v : Value} {l : List UInt8} {X : Nat} {cur : List T3} {a : Option Addr} {k : Nat} {fp : List Nat} {W W2 : World} (h : DrS w c v l X cur a k fp W) (hg : W.grownBy W2 (some c)) (hc : Cur W2 c v l)
    {nm : ByteArray} {ar : Int} {y : Value} {rows : List (List Int)} {f : List Nat} (ho : rowsC.ow W2 W.heap.size [y] rows f) (hn : f.Nodup) (hok : OkD (nm, ar, rows)) (e : TypeId) :
    DrS w c v l X cur a k fp ((W2.alloc (.cells #[.string nm, .int .i64 ar, y] e (0, 0))).alloc (.cells #[.string nm, .int .i64 ar, y] e (0, 0))) ∧
    LaidD X ((W2.alloc (.cells #[.string nm, .int .i64 ar, y] e (0, 0))).alloc (.cells #[.string nm, .int .i64 ar, y] e (0, 0))) (W2.heap.size + 1) [.string nm, .int .i64 ar, y] (nm, ar, rows) f fp := by
  have hbA := Tab.below_then (below_alloc W2 (.cells #[.string nm, .int .i64 ar, y] e (0, 0))) (below_alloc (W2.alloc (.cells #[.string nm, .int .i64 ar, y] e (0, 0))) (.cells #[.string nm, .int .i64 ar, y] e (0, 0)))
  have hA := ((h.grown hg hc).alloc (.cells #[.string nm, .int .i64 ar, y] e (0, 0))).alloc (.cells #[.string nm, .int .i64 ar, y] e (0, 0))
  obtain ⟨k1, k2, k3⟩ := hok
  simp only at k1 k2 k3
  refine ⟨hA, ?_, tabC.ow_base (Cd.ow_later (tab_ow ho (by unfold maxLen; omega) (by omega)) hbA) h.sz, hn, fun b hb q => ?_, hA.sz, ⟨k1, k2, k3⟩⟩
  · exact at3 (by have := row_alloc (W2.alloc (.cells #[.string nm, .int .i64 ar, y] e (0, 0))) (.cells #[.string nm, .int .i64 ar, y] e (0, 0)); rw [size_alloc] at this; exact this)
  · have h1 := (rowsC.ow_lt ho b hb).1
    have h2 := ((Cd.sl _ tabC).ow_lt h.ow b q).2
    omega
theorem DrS.fcell {w : World} {c : Nat} {v : Value} {l : List UInt8} {X : Nat} {cur : List T3} {a : Option Addr} {k : Nat} {fp : List Nat} {W W4 : World} (h : DrS w c v l X cur a k fp W) (ht : Cd.Touch fp W W4) : W4.cell? ⟨X, 0, none⟩ = some (.slice a cur.length k) ∧ W4.frozen? ⟨X, 0, none⟩ = false := by
  have hx : X ∉ fp := fun q => by have := ((Cd.sl _ tabC).ow_lt h.ow _ q).1; omega
  exact ⟨(h.lx.touched ht hx).c0, (h.lx.touched ht hx).f0⟩
theorem DrS.app {w : World} {c : Nat} {v : Value} {l : List UInt8} {X : Nat} {cur : List T3} {a : Option Addr} {k : Nat} {fp : List Nat} {W3 W4 : World} (h : DrS w c v l X cur a k fp W3) {T : T3} (hT : OkD T) {g cap : Nat} {fp4 : List Nat} (ht : Cd.Touch fp W3 W4)
    (ho : tabsC.ow W4 (X + 2) [.slice (some ⟨g, 0, none⟩) (cur.length + 1) cap] (cur ++ [T]) fp4) (hn : fp4.Nodup) :
    DrS w c v l X (cur ++ [T]) (some ⟨g, 0, none⟩) cap fp4 (W4.setCell ⟨X, 0, none⟩ (.slice (some ⟨g, 0, none⟩) (cur.length + 1) cap)) := by
  have h1 := h.cb
  have h2 := h.xb
  have h3 := h.sz
  have hfp : ∀ b, b < X + 2 → b ∉ fp := fun b hb q => by have := ((Cd.sl _ tabC).ow_lt h.ow _ q).1; omega
  have hx4 : X ∉ fp4 := fun q => by have := ((Cd.sl _ tabC).ow_lt ho _ q).1; omega
  have e : (cur ++ [T]).length = cur.length + 1 := by simp
  refine ⟨?_, (h.lr.touched ht (hfp _ (by omega))).set_far (by show X ≠ _; omega) _, fun t hlt => ?_, ?_, hn, ?_, h2, h1, ?_, ?_, ?_⟩
  · rw [e]; exact (h.lx.touched ht (hfp _ (by omega))).set _
  · rw [World.cell?_setCell_other _ _ _ _ (by intro q; have e := congrArg Addr.block q; simp only at e; omega)]
    exact ht.cell (h.nm t hlt) (hfp _ (by show X + 1 < _; omega))
  · rw [e]; exact ow_setCell ho hx4 _
  · intro U hU
    rcases List.mem_append.1 hU with q | q
    · exact h.ok U q
    · rw [List.mem_singleton.1 q]; exact hT
  · have := ht.size; simp; omega
  · obtain ⟨i, x, hi, hh⟩ := h.cu
    exact cur_farI _ ⟨i, x, hi, ht.row hh (hfp _ (by omega))⟩ (by show c ≠ X; omega)
  · refine grown_newI _ ?_ (by show _ ≤ X; omega)
    exact ⟨ht.os.trans h.gr.os, ht.tape.trans h.gr.tape, ht.output.trans h.gr.output, Nat.le_trans h.gr.size ht.size, fun j hj hne => (ht.block j (by have := h.gr.size; omega) (hfp _ (by omega))).trans (h.gr.block j hj hne)⟩
/-- A drawn database. -/
def DbDr (n : Nat) (w : World) (c : Nat) (v : Value) (l : List UInt8) (e : Ending) (w' : World) : Prop :=
  ∃ (u : Value) (Ts : List T3) (fp : List Nat), e = .returned (.agg #[u]) ∧ tabsC.ow w' w.heap.size [u] Ts fp ∧ fp.Nodup ∧ Ts.length = n ∧ (∀ T ∈ Ts, OkD T) ∧ Cur w' c v l ∧ w.grownBy w' (some c)
theorem DrS.done {w : World} {c : Nat} {v : Value} {l : List UInt8} {X : Nat} {cur : List T3} {a : Option Addr} {k : Nat} {fp : List Nat} {W : World} (h : DrS w c v l X cur a k fp W) {n : Nat} (hl : cur.length = n) :
    DbDr n w c v l (.returned (.agg #[.slice a cur.length k])) (W.setCell ⟨w.heap.size, 0, none⟩ (.slice a cur.length k)) := by
  have h1 := h.cb
  have h2 := h.xb
  refine ⟨_, cur, fp, rfl, ow_setCell ((Cd.sl _ tabC).ow_base h.ow (by omega)) (fun q => by have := ((Cd.sl _ tabC).ow_lt h.ow _ q).1; simp only at this; omega) _, h.nd, hl, h.ok, cur_farI _ h.cu (by show c ≠ w.heap.size; omega), grown_newI _ h.gr (Nat.le_refl _)⟩
/-- The rows of one table are dropped. -/
theorem DrS.nil {w : World} {c : Nat} {v : Value} {l : List UInt8} {X : Nat} {cur : List T3} {g : Nat} {k : Nat} {fp : List Nat} {W : World} (h : DrS w c v l X cur (some ⟨g, 0, none⟩) k fp W) {t : Nat} (ht : t < cur.length) :
    ∃ cur' fp', cur'.length = cur.length ∧ DrS w c v l X cur' (some ⟨g, 0, none⟩) k fp' (W.setCell ⟨g, t * 3 + 2, none⟩ (.slice none 0 0)) := by
  have h1 := h.cb
  have h2 := h.xb
  have h3 := h.sz
  have hok := h.ok _ (List.getElem_mem ht)
  have hg : g ∈ fp := by
    obtain ⟨v', xss, fps, e1, _, _, rfl⟩ := h.ow
    injection e1 with e1 _
    subst e1
    exact List.mem_append_left _ (by simp [Value.ownBlock])
  have hgx := ((Cd.sl _ tabC).ow_lt h.ow _ hg).1
  obtain ⟨us, f, hul, hat, hof, hfs, hnd, hch⟩ := Cd.ow_elem h.ow ht
  obtain ⟨a', c', rfl⟩ := shape_ow hof
  obtain ⟨fp', ho', hn', hsub, _⟩ := hch (W.setCell ⟨g, t * 3 + 2, none⟩ (.slice none 0 0)) [none, none, some (.slice none 0 0)] (cur[t].1, cur[t].2.1, []) [] rfl
    (tab_ow (Cd.ow_nil _ _) (by have := hok.1; unfold maxLen; omega) (by have := hok.2.1; omega)) rfl (fun b _ _ hb => Below.heap_setCell W _ _ b hb) h.nd List.nodup_nil (by simp)
  have e : (cur.set t (cur[t].1, cur[t].2.1, [])).length = cur.length := by simp
  refine ⟨cur.set t (cur[t].1, cur[t].2.1, []), fp', e, ?_, h.lr.set_far (by show g ≠ _; omega) _, fun j hj => ?_, ?_, hn', fun T hT => ?_, h2, h1, by simpa using h3, cur_farI _ h.cu (by show c ≠ g; omega), grown_newI _ h.gr (by show _ ≤ g; omega)⟩
  · rw [e]; exact h.lx.set_far (by show g ≠ X; omega) _
  · rw [World.cell?_setCell_other _ _ _ _ (by intro q; have e := congrArg Addr.block q; simp only at e; omega)]
    exact h.nm j hj
  · rw [e]; exact ho'
  · rcases List.mem_or_eq_of_mem_set hT with q | q
    · exact h.ok T q
    · rw [q]; exact ⟨hok.1, hok.2.1, by simp [rowsWt]⟩
theorem DrS.drew {w : World} {c : Nat} {v : Value} {l : List UInt8} {X : Nat} {cur : List T3} {a : Option Addr} {k : Nat} {fp : List Nat} {W : World} (h : DrS w c v l X cur a k fp W) : DrS w c v l X cur a k fp W.drew :=
  ⟨h.lx.drew, h.lr.drew, h.nm, tabsC.ow_keep h.ow fun _ _ => rfl, h.nd, h.ok, h.xb, h.cb, h.sz, h.cu, ⟨h.gr.os, h.gr.tape, h.gr.output, h.gr.size, h.gr.block⟩⟩
theorem DrS.rcell {w : World} {c : Nat} {v : Value} {l : List UInt8} {X : Nat} {cur : List T3} {g : Nat} {k : Nat} {fp : List Nat} {W : World} (h : DrS w c v l X cur (some ⟨g, 0, none⟩) k fp W) {t : Nat} (ht : t < cur.length) :
    ∃ u, W.cell? ⟨g, t * 3 + 2, none⟩ = some u ∧ W.frozen? ⟨g, t * 3 + 2, none⟩ = false := by
  obtain ⟨us, f, hul, hat, _⟩ := Cd.ow_elem h.ow ht
  have hul' : us.length = 3 := hul
  exact ⟨_, hat 2 (by omega), Cd.ow_frozen h.ow _⟩
/-- The same for some list of n tables. -/
def DrO (w : World) (c : Nat) (v : Value) (l : List UInt8) (X n g k : Nat) (W : World) : Prop := ∃ cur fp, cur.length = n ∧ DrS w c v l X cur (some ⟨g, 0, none⟩) k fp W
theorem DrO.of {w : World} {c : Nat} {v : Value} {l : List UInt8} {X g k : Nat} {cur : List T3} {fp : List Nat} {W : World} (h : DrS w c v l X cur (some ⟨g, 0, none⟩) k fp W) : DrO w c v l X cur.length g k W := ⟨cur, fp, rfl, h⟩
theorem DrO.grown {w : World} {c : Nat} {v : Value} {l : List UInt8} {X n g k : Nat} {W W' : World} (h : DrO w c v l X n g k W) (hg : W.grownBy W' (some c)) (hc : Cur W' c v l) : DrO w c v l X n g k W' :=
  have ⟨cur, fp, e, hs⟩ := h
  ⟨cur, fp, e, hs.grown hg hc⟩
theorem DrO.nil {w : World} {c : Nat} {v : Value} {l : List UInt8} {X n g k : Nat} {W : World} (h : DrO w c v l X n g k W) {t : Nat} (ht : t < n) : DrO w c v l X n g k (W.setCell ⟨g, t * 3 + 2, none⟩ (.slice none 0 0)) := by
  obtain ⟨cur, fp, rfl, hs⟩ := h
  obtain ⟨cur', fp', e, hs'⟩ := hs.nil ht
  exact ⟨cur', fp', e, hs'⟩
theorem DrO.all {w : World} {c : Nat} {v : Value} {l : List UInt8} {X n g k : Nat} {W : World} (h : DrO w c v l X n g k W) : W.cell? ⟨X, 0, none⟩ = some (.slice (some ⟨g, 0, none⟩) n k) ∧ DrO w c v l X n g k W := by
  obtain ⟨cur, fp, rfl, hs⟩ := h
  exact ⟨hs.lx.c0, ⟨cur, fp, rfl, hs⟩⟩
theorem DrO.res {w : World} {c : Nat} {v : Value} {l : List UInt8} {X n g k : Nat} {W : World} (h : DrO w c v l X n g k W) : W.cell? ⟨w.heap.size, 0, none⟩ = some (.slice none 0 0) ∧ W.frozen? ⟨w.heap.size, 0, none⟩ = false := by
  obtain ⟨cur, fp, rfl, hs⟩ := h
  exact ⟨hs.lr.c0, hs.lr.f0⟩
theorem DrO.rcell {w : World} {c : Nat} {v : Value} {l : List UInt8} {X n g k : Nat} {W : World} (h : DrO w c v l X n g k W) {t : Nat} (ht : t < n) : ∃ u, W.cell? ⟨g, t * 3 + 2, none⟩ = some u ∧ W.frozen? ⟨g, t * 3 + 2, none⟩ = false := by
  obtain ⟨cur, fp, rfl, hs⟩ := h
  exact hs.rcell ht
theorem DrO.below {w : World} {c : Nat} {v : Value} {l : List UInt8} {X n g k : Nat} {W : World} (h : DrO w c v l X n g k W) : Cur W c v l ∧ w.grownBy W (some c) := by
  obtain ⟨cur, fp, rfl, hs⟩ := h
  exact ⟨hs.cu, hs.gr⟩
theorem DrO.done {w : World} {c : Nat} {v : Value} {l : List UInt8} {X n g k : Nat} {W : World} (h : DrO w c v l X n g k W) {m : Nat} (hm : n = m) : DbDr m w c v l (.returned (.agg #[.slice (some ⟨g, 0, none⟩) n k])) (W.setCell ⟨w.heap.size, 0, none⟩ (.slice (some ⟨g, 0, none⟩) n k)) := by
  obtain ⟨cur, fp, rfl, hs⟩ := h
  exact hs.done hm
end Go.Proofs.YteihnbnlfocgmaaGreatDoor.DbDraw

namespace Go.Proofs.YteihnbnlfocgmaaGreatDoor.DbImp
open Go Go.RowKit Byt Ints IntsLaw Cd Rows2 Tab SlMath TabOpen TabElem SlTable Db TabSpec DbMath TabImp
open DbSpec (LaterD drewD row1 rows_cell cntRows_succ cntRows_take cntRows_le name_cell sameT_iff take_ne take_eq)

/-- The cells of an element. -/
theorem elem_form {w : World} {S : Nat → Prop} {us : List Value} {T : T3} (h : tabC.rd w S us T) : ∃ a c, us = [.string T.1, .int .i64 T.2.1, .slice a T.2.2.length c] := by
  obtain ⟨u, rfl, _, _, h3⟩ := tab_cells h
  obtain ⟨a, c, rfl, _⟩ := rows_form h3
  exact ⟨a, c, rfl⟩
theorem impl_rowcount (nm : ByteArray) (ar : Int) (a : Option Addr) (n cap : Nat) (w : World) :
    Calls Tryz.prog 39 #[.agg #[.string nm, .int .i64 ar, .slice a n cap]] w fun e w' => e = .returned (.int .i64 (n : Int)) ∧ Below w.heap.size w w' := by
  go_enter Tryz.func39, Tryz.ntmps39
  go_wp2_with fail
  generalize hW : w.alloc _ = W
  obtain ⟨r0, _, hb0⟩ := start1 w _ hW
  have hL := Loc3.of r0
  have d2 := hL.c2
  have HB := Lib.hid hb0
  clear hW r0 hb0 hL
  go_wp2_with fail
  go_ret
  exact ⟨rfl, HB.out⟩
set_option maxRecDepth 100000 in
set_option maxHeartbeats 1600000 in
theorem impl_sumrows (u : Value) (l : List T3) (S : Nat → Prop) (w : World) (h1 : tabsC.rd w S [u] l) (hw : wtS l ≤ 1048576) :
    Calls Tryz.prog 38 #[u, .func (.func 39) #[] #[]] w fun e w' => e = .returned (.int .i64 ((cntRows l : Nat) : Int)) ∧ Below w.heap.size w w' := by
  have HR1 := Lib.hid (fun w' (hb : Below w.heap.size w w') => Cd.later h1 hb)
  obtain ⟨a1, cap1, rfl, hl1⟩ := Cd.sl_form h1
  have HCB := Lib.hid (show cntRows l ≤ 1048576 by have := cntRows_le l; omega)
  clear h1
  go_enter Tryz.func38, Tryz.ntmps38
  go_wp2_with fail
  go_loopw [5, 10] (fun n i wr => ∃ k : Nat, k ≤ l.length ∧ n = .int .i64 ((cntRows (l.take k) : Nat) : Int) ∧ i = .int .i64 k ∧ Below w.heap.size w wr) (fun _ i _ => l.length - (intOf i).toNat)
  case atStart => exact ⟨0, Nat.zero_le _, rfl, rfl, Below.refl _ _⟩
  case round =>
    obtain ⟨k, hk, rfl, rfl, hb⟩ := hrel
    have HWR := Lib.hid hb
    by_cases hlt : k < l.length
    · obtain ⟨b, off, cap', us, e1, _, hbB, hat, hu⟩ := Cd.sl_at (HR1.out wr hb) hlt
      injection e1 with e1 e2 e3
      subst e1 e3
      obtain ⟨az, cz, rfl⟩ := elem_form hu
      have p0 := hat 0 (by simp)
      have p1 := hat 1 (by simp)
      have p2 := hat 2 (by simp)
      simp only [List.getElem_cons_zero, List.getElem_cons_succ, Nat.add_zero, show tabC.n = 3 from rfl] at p0 p1 p2
      have HSUM := Lib.hid (show ((cntRows (l.take (k + 1)) : Nat) : Int) = ((cntRows (l.take k) : Nat) : Int) + (((l[k]).2.2.length : Nat) : Int) by rw [cntRows_succ hlt]; omega)
      have i3 : cntRows (l.take k) + (l[k]).2.2.length ≤ 1048576 := by rw [← cntRows_succ hlt]; have := cntRows_take l (k + 1); have := HCB.out; omega
      have i1 : (0 : Int) ≤ (k : Int) := by omega
      have i2 : (k : Int) < (l.length : Int) := by omega
      clear hu hat e2 hb
      generalize l[k] = T at *
      generalize T.2.2.length = q at *
      generalize cntRows (l.take k) = m at *
      have HRC := Lib.hid (fun W => impl_rowcount T.1 T.2.1 az q cz W)
      have HBA := Lib.hid (below_alloc wr (.cells #[.string T.1, .int .i64 T.2.1, .slice az q cz] 29 (0, 0)))
      have HLC := Lib.hid (Loc3.of (row_alloc wr (.cells #[.string T.1, .int .i64 T.2.1, .slice az q cz] 29 (0, 0))))
      have y0 := HLC.out.c0
      have y1 := HLC.out.c1
      have y2 := HLC.out.c2
      go_wp2_with (go_at_call 39; refine (HRC.out _).mono ?_; rintro e w5 ⟨rfl, hb5⟩)
      have HB5 := Lib.hid (below_then HWR.out (below_then HBA.out hb5))
      clear hb5
      go_wp2_with fail
      go_roundw
      case rel => exact ⟨k + 1, by omega, by rw [HSUM.out], by go_num, HB5.out⟩
      case measure => simp [intOf]; omega
    · have ek : k = l.length := by omega
      subst ek
      have HY := Lib.hid (show ((cntRows (l.take l.length) : Nat) : Int) = ((cntRows l : Nat) : Int) by rw [List.take_length])
      clear hb
      go_wp2_with fail
      go_ret
      exact ⟨congrArg (fun x : Int => Ending.returned (.int .i64 x)) HY.out, HWR.out⟩
set_option maxRecDepth 100000 in
set_option maxHeartbeats 1600000 in
theorem impl_count (u : Value) (l : List T3) (S : Nat → Prop) (w : World) (h1 : tabsC.rd w S [u] l) (hw : wtS l ≤ 1048576) :
    Calls Tryz.prog 14 #[.agg #[u]] w fun e w' => e = .returned (.int .i64 ((cntL l : Nat) : Int)) ∧ Below w.heap.size w w' := by
  have HSR := Lib.hid (fun w' (hb : Below w.heap.size w w') => impl_sumrows u l S w' (Cd.later h1 hb) hw)
  have HV := Lib.hid (fun w' (hb : Below w.heap.size w w') => impl_dbok u l S w' (Cd.later h1 hb))
  obtain ⟨a1, cap1, rfl, hl1⟩ := Cd.sl_form h1
  clear h1
  go_enter Tryz.func14, Tryz.ntmps14
  go_wp2_with fail
  generalize hW : w.alloc _ = W
  obtain ⟨r0, hz, hb0⟩ := start1 w _ hW
  have HC0 := Lib.hid (row1 r0).1
  have HB0 := Lib.hid hb0
  clear hW r0 hz
  refine (HV.out _ hb0).mono ?_
  rintro e w1 ⟨rfl, hb1⟩
  have c0 := (hb1.cell (World.block_lt_of_cell? _ _ HC0.out)).trans HC0.out
  have HB1 := Lib.hid (below_then HB0.out hb1)
  clear hb0 hb1
  cases hv : dbOk l
  · have HZ := Lib.hid (show ((cntL l : Nat) : Int) = 0 by unfold cntL; rw [hv]; rfl)
    go_wp2_with fail
    go_ret
    exact ⟨by rw [HZ.out]; rfl, HB1.out⟩
  have HZ := Lib.hid (show cntL l = cntRows l by unfold cntL; rw [hv]; rfl)
  go_wp2_with fail
  refine (HSR.out w1 HB1.out).mono ?_
  rintro e w2 ⟨rfl, hb2⟩
  have HB2 := Lib.hid (below_then HB1.out hb2)
  clear hb2
  go_wp2_with fail
  go_ret
  exact ⟨congrArg (fun x : Nat => Ending.returned (.int .i64 (x : Int))) HZ.out.symm, HB2.out⟩

theorem eqt_elem_i (us vs : List Value) (T U : T3) (S S2 : Nat → Prop) (w : World) (hu : tabC.rd w S us T) (hv : tabC.rd w S2 vs U) :
    Calls Tryz.prog 9 #[.agg us.toArray, .agg vs.toArray] w fun e w' => e = .returned (.bool (decide (T = U))) ∧ Below w.heap.size w w' := by
  obtain ⟨u, rfl, _, _, h3⟩ := tab_cells hu
  obtain ⟨u2, rfl, _, _, h4⟩ := tab_cells hv
  have h := impl_equal T.1 U.1 T.2.1 U.2.1 u u2 T.2.2 U.2.2 S S2 w h3 h4
  rw [sameT_iff] at h
  exact h
set_option maxRecDepth 100000 in
set_option maxHeartbeats 1600000 in
theorem equal_func (u1 u2 : Value) (l1 l2 : List T3) (S1 S2 : Nat → Prop) (w : World) (h1 : tabsC.rd w S1 [u1] l1) (h2 : tabsC.rd w S2 [u2] l2) :
    Calls Tryz.prog 40 #[u1, u2, .func (.func 9) #[] #[]] w fun e w' => e = .returned (.bool (decide (l1 = l2))) ∧ Below w.heap.size w w' := by
  have HR1 := Lib.hid (fun w' (hb : Below w.heap.size w w') => Cd.later h1 hb)
  have HR2 := Lib.hid (fun w' (hb : Below w.heap.size w w') => Cd.later h2 hb)
  obtain ⟨a1, cap1, rfl, hl1⟩ := Cd.sl_form h1
  obtain ⟨a2, cap2, rfl, hl2⟩ := Cd.sl_form h2
  clear h1 h2
  by_cases hlen : l1.length = l2.length
  case neg =>
    have HZ := Lib.hid (show decide (l1 = l2) = false from decide_eq_false fun q => hlen (by rw [q]))
    have ht : ((l1.length : Int) != (l2.length : Int)) = true := by rw [bne_iff_ne]; omega
    go_enter Tryz.func40, Tryz.ntmps40
    go_wp2_with fail
    go_ret
    exact ⟨DbSpec.ret_b HZ.out.symm, Below.refl _ _⟩
  have HLEN := Lib.hid hlen
  rw [hlen]
  clear hlen
  go_enter Tryz.func40, Tryz.ntmps40
  go_wp2_with fail
  go_loopw [17] (fun i wr => ∃ k : Nat, k ≤ l2.length ∧ i = .int .i64 k ∧ l1.take k = l2.take k ∧ Below w.heap.size w wr) (fun i _ => l2.length - (intOf i).toNat)
  case atStart => exact ⟨0, Nat.zero_le _, rfl, by simp, Below.refl _ _⟩
  case round =>
    obtain ⟨k, hk, rfl, htk, hb⟩ := hrel
    have HTK := Lib.hid htk
    have HBW := Lib.hid hb
    clear htk
    by_cases hlt : k < l2.length
    · have hlt1 : k < l1.length := by rw [HLEN.out]; exact hlt
      obtain ⟨b, off, cap', us, e1, _, hbB, hat, hu⟩ := Cd.sl_at (HR1.out wr HBW.out) hlt1
      rw [HLEN.out] at e1
      injection e1 with e1 e2 e3
      subst e1 e3
      obtain ⟨az, cz, rfl⟩ := elem_form hu
      have p0 := hat 0 (by simp)
      have p1 := hat 1 (by simp)
      have p2 := hat 2 (by simp)
      obtain ⟨b', off', cap', us, e1, _, hbB', hat', hu'⟩ := Cd.sl_at (HR2.out wr HBW.out) hlt
      injection e1 with e1 e2 e3
      subst e1 e3
      obtain ⟨ay, cy, rfl⟩ := elem_form hu'
      have q0 := hat' 0 (by simp)
      have q1 := hat' 1 (by simp)
      have q2 := hat' 2 (by simp)
      simp only [List.getElem_cons_zero, List.getElem_cons_succ, Nat.add_zero, show tabC.n = 3 from rfl] at p0 p1 p2 q0 q1 q2
      have HE := Lib.hid (fun w' (hq : LaterD wr w') => eqt_elem_i _ _ l1[k] l2[k] _ _ w' (Cd.later hu hq) (Cd.later hu' hq))
      have HF1 := Lib.hid (fun e : l1[k] = l2[k] => take_eq hlt1 hlt HTK.out e)
      have HF0 := Lib.hid (fun e : l1[k] ≠ l2[k] => take_ne hlt1 hlt e)
      have i1 : (0 : Int) ≤ (k : Int) := by omega
      have i2 : (k : Int) < (l2.length : Int) := by omega
      have kk : LaterD wr ((wr.alloc (.cells #[.string (l1[k]).1, .int .i64 (l1[k]).2.1, .slice az (l1[k]).2.2.length cz] 29 (0, 0))).alloc (.cells #[.string (l2[k]).1, .int .i64 (l2[k]).2.1, .slice ay (l2[k]).2.2.length cy] 29 (0, 0))) := below_then (below_alloc _ _) (below_alloc _ _)
      clear hu hu' hat hat' hb e2
      generalize l1[k] = T at *
      generalize l2[k] = U at *
      go_wp2_with fail
      refine (HE.out _ kk).mono ?_
      rintro e w2 ⟨rfl, hb2⟩
      have HB2 := Lib.hid (below_then HBW.out (below_then (show Below wr.heap.size wr _ from kk) hb2))
      clear hb2 kk
      by_cases hT : T = U
      · have HT := Lib.hid (HF1.out hT)
        rw [show decide (T = U) = true from decide_eq_true hT]
        clear hT
        go_wp2_with fail
        go_roundw
        case rel => exact ⟨k + 1, by omega, by go_num, HT.out, HB2.out⟩
        case measure => simp [intOf]; omega
      · have HZ := Lib.hid (show decide (l1 = l2) = false from decide_eq_false (HF0.out hT))
        rw [show decide (T = U) = false from decide_eq_false hT]
        clear hT
        go_wp2_with fail
        go_ret
        exact ⟨DbSpec.ret_b HZ.out.symm, HB2.out⟩
    · have ek : k = l2.length := by omega
      subst ek
      have HZ := Lib.hid (show decide (l1 = l2) = true from decide_eq_true (by
        have h := HTK.out
        rw [List.take_length, List.take_of_length_le (by rw [HLEN.out]; exact Nat.le_refl _)] at h
        exact h))
      go_wp2_with fail
      go_ret
      exact ⟨DbSpec.ret_b HZ.out.symm, HBW.out⟩
set_option maxRecDepth 100000 in
theorem impl_eqdb (u1 u2 : Value) (l1 l2 : List T3) (S1 S2 : Nat → Prop) (w : World) (h1 : tabsC.rd w S1 [u1] l1) (h2 : tabsC.rd w S2 [u2] l2) :
    Calls Tryz.prog 15 #[.agg #[u1], .agg #[u2]] w fun e w' => e = .returned (.bool (decide (l1 = l2))) ∧ Below w.heap.size w w' := by
  have HE := Lib.hid (fun w' (hb : Below w.heap.size w w') => equal_func u1 u2 l1 l2 S1 S2 w' (Cd.later h1 hb) (Cd.later h2 hb))
  obtain ⟨a1, cap1, rfl, hl1⟩ := Cd.sl_form h1
  obtain ⟨a2, cap2, rfl, hl2⟩ := Cd.sl_form h2
  clear h1 h2
  go_enter Tryz.func15, Tryz.ntmps15
  go_wp2_with fail
  refine (HE.out _ (below_then (below_alloc _ _) (below_alloc _ _))).mono ?_
  rintro e w2 ⟨rfl, hb2⟩
  have HB2 := Lib.hid (below_then (below_then (below_alloc w _) (below_alloc _ _)) hb2)
  clear hb2
  go_wp2_with fail
  go_ret
  exact ⟨rfl, HB2.out⟩
end Go.Proofs.YteihnbnlfocgmaaGreatDoor.DbImp

namespace Go.Proofs.YteihnbnlfocgmaaGreatDoor.DbFmt
open Go Go.RowKit Byt Ints IntsLaw Cd Rows2 Tab SlMath TabOpen TabElem SlTable Db TabSpec DbMath TabImp TabFmt TabParse
open DbSpec (LaterD row1 name_cell)
open DbImp (elem_form impl_dbok)

def fmtL (T : T3) : List UInt8 := if tabOk T.1 T.2.1 T.2.2 then tabB T.1 T.2.1 T.2.2 else []
theorem fmtL_eq (T : T3) : fmtT T.1 T.2.1 T.2.2 = ⟨(fmtL T).toArray⟩ := rfl
theorem wt4 : ∀ l : List (List Int), (∀ r ∈ l, r.length ≤ 3) → rowsWt l ≤ 4 * l.length
  | [], _ => by simp [rowsWt]
  | r :: rs, h => by
    have h1 := wt4 rs (fun x hx => h x (List.mem_cons.2 (.inr hx)))
    have h2 := h r (List.mem_cons.2 (.inl rfl))
    simp [rowsWt] at *
    omega
theorem fmtL_len (T : T3) : (fmtL T).length ≤ 100 := by
  unfold fmtL
  split
  · rename_i h
    have hp : TabP T.1 T.2.1 T.2.2 := of_decide_eq_true h
    have h1 : T.1.data.toList.length = 1 := by have := of_decide_eq_true hp.1; exact this.1
    have h2 := wt4 T.2.2 (fun r hr => by have := (rowOk_iff.1 (hp.2.2.2.2.1 r hr)).1; have := hp.2.2.1; omega)
    have h3 := rowsB_len T.2.2
    have h4 := hp.2.2.2.1
    unfold tabB
    simp only [List.length_append, List.length_cons]
    omega
  · simp
def joinS : List T3 → List UInt8
  | [] => []
  | [T] => fmtL T
  | T :: U :: l => fmtL T ++ 59 :: joinS (U :: l)
theorem joinS_snoc : ∀ (l : List T3) (T : T3), joinS (l ++ [T]) = if l = [] then fmtL T else joinS l ++ 59 :: fmtL T
  | [], T => by simp [joinS]
  | [a], T => by simp [joinS]
  | a :: b :: l, T => by
    have := joinS_snoc (b :: l) T
    rw [if_neg (by simp)] at this
    rw [if_neg (by simp)]
    show fmtL a ++ 59 :: joinS ((b :: l) ++ [T]) = _
    rw [this]
    simp [joinS]
theorem joinS_len : ∀ (l : List T3), (joinS l).length ≤ 101 * l.length
  | [] => by simp [joinS]
  | [T] => by have := fmtL_len T; simp only [joinS, List.length_cons, List.length_nil]; omega
  | T :: U :: l => by
    have h1 := joinS_len (U :: l)
    have h2 := fmtL_len T
    show (fmtL T ++ 59 :: joinS (U :: l)).length ≤ _
    simp only [List.length_append, List.length_cons] at *
    omega
theorem joinS_join : ∀ l : List T3, Lib.join ((l.map fun T => (⟨(fmtL T).toArray⟩ : ByteArray)).map (·.data.toList)) [59] = joinS l
  | [] => rfl
  | [T] => by simp [joinS, Lib.join, List.intercalate]
  | T :: U :: l => by
    have := joinS_join (U :: l)
    simp only [List.map_cons, Lib.join, List.intercalate, List.intersperse, List.flatten_cons] at this ⊢
    rw [this]
    simp [joinS]
def fmtD (l : List T3) : ByteArray := ⟨(if dbOk l then joinS l else []).toArray⟩
theorem fmtD_no {l : List T3} (h : dbOk l = false) : fmtD l = ⟨#[]⟩ := by unfold fmtD; rw [h]; rfl
theorem fmtD_yes {l : List T3} (h : dbOk l = true) : fmtD l = ⟨(joinS l).toArray⟩ := by unfold fmtD; rw [h]; rfl
theorem ret_s {a b : ByteArray} (h : a = b) : Ending.returned (.string a) = Ending.returned (.string b) := by rw [h]

theorem fmt_elem (us : List Value) (T : T3) (S : Nat → Prop) (w : World) (hu : tabC.rd w S us T) :
    Calls Tryz.prog 46 #[.agg us.toArray] w fun e w' => e = .returned (.string ⟨(fmtL T).toArray⟩) ∧ Below w.heap.size w w' := by
  obtain ⟨u, rfl, _, _, h3⟩ := tab_cells hu
  exact spec_fmt T.1 T.2.1 u T.2.2 S w h3
set_option maxRecDepth 100000 in
set_option maxHeartbeats 1600000 in
theorem spec_fmtdb (u : Value) (l : List T3) (S : Nat → Prop) (w : World) (h1 : tabsC.rd w S [u] l) :
    Calls Tryz.prog 18 #[.agg #[u]] w fun e w' => e = .returned (.string (fmtD l)) ∧ Below w.heap.size w w' := by
  have HR1 := Lib.hid (fun w' (hb : Below w.heap.size w w') => Cd.later h1 hb)
  have HV := Lib.hid (fun w' (hb : Below w.heap.size w w') => DbSpec.spec_dbok u l S w' (Cd.later h1 hb))
  obtain ⟨a1, cap1, rfl, hl1⟩ := Cd.sl_form h1
  clear h1
  go_enter Tryz.func18, Tryz.ntmps18
  go_wp2_with fail
  generalize hW : w.alloc _ = W
  obtain ⟨r0, hz, hb0⟩ := start1 w _ hW
  have c0 := (row1 r0).1
  have HC0 := Lib.hid (row1 r0).1
  have HLT0 := Lib.hid (show w.heap.size < W.heap.size by omega)
  have HB0 := Lib.hid hb0
  clear hW r0 hz hb0
  go_loopw [3, 4] (fun n i wr => ∃ k : Nat, k ≤ l.length ∧ n = .string ⟨(joinS (l.take k)).toArray⟩ ∧ i = .int .i64 k ∧ (dbOk l = false → k = 0) ∧ (0 < k → l.length ≤ 6) ∧ Below W.heap.size W wr) (fun _ i _ => l.length - (intOf i).toNat)
  case atStart => exact ⟨0, Nat.zero_le _, rfl, rfl, fun _ => rfl, by omega, Below.refl _ _⟩
  case round =>
    obtain ⟨k, hk, rfl, rfl, h0, h6, hb⟩ := hrel
    have x0 := (hb.cell (p := ⟨w.heap.size, 0, none⟩) HLT0.out).trans HC0.out
    have HK0 := Lib.hid h0
    have HBW := Lib.hid (below_then HB0.out hb)
    have HWR := Lib.hid hb
    have HX0 := Lib.hid x0
    have HXL := Lib.hid (show w.heap.size < wr.heap.size by have := HLT0.out; have := hb.size; omega)
    clear c0 h0
    by_cases hlt : k < l.length
    · obtain ⟨b, off, cap', us, e1, _, hbB, hat, hu⟩ := Cd.sl_at (HR1.out wr HBW.out) hlt
      injection e1 with e1 e2 e3
      subst e1 e3
      obtain ⟨az, cz, rfl⟩ := elem_form hu
      have p0 := hat 0 (by simp)
      have p1 := hat 1 (by simp)
      have p2 := hat 2 (by simp)
      simp only [List.getElem_cons_zero, List.getElem_cons_succ, Nat.add_zero, show tabC.n = 3 from rfl] at p0 p1 p2
      have HAT := Lib.hid (And.intro p0 (And.intro p1 (And.intro p2 hbB)))
      have HFM := Lib.hid (fun w' (hq : LaterD wr w') => fmt_elem _ l[k] S w' (Cd.later hu hq))
      have HSN := Lib.hid (show joinS (l.take (k + 1)) = if l.take k = [] then fmtL l[k] else joinS (l.take k) ++ 59 :: fmtL l[k] by rw [List.take_succ_eq_append_getElem hlt, joinS_snoc])
      have hf := fmtL_len l[k]
      have i1 : (0 : Int) ≤ (k : Int) := by omega
      have i2 : (k : Int) < (l.length : Int) := by omega
      clear hu hat hbB e2 p0 p1 p2
      generalize l[k] = T at *
      go_wp2_with fail
      refine (HV.out _ HBW.out).mono ?_
      rintro e w2 ⟨rfl, hb2⟩
      have y0 := (hb2.cell (p := ⟨w.heap.size, 0, none⟩) HXL.out).trans HX0.out
      have q0 := (hb2.cell (p := ⟨b, off + k * 3, none⟩) HAT.out.2.2.2).trans HAT.out.1
      have q1 := (hb2.cell (p := ⟨b, off + k * 3 + 1, none⟩) HAT.out.2.2.2).trans HAT.out.2.1
      have q2 := (hb2.cell (p := ⟨b, off + k * 3 + 2, none⟩) HAT.out.2.2.2).trans HAT.out.2.2.1
      have HB2 := Lib.hid (below_then HBW.out hb2)
      have HB3 := Lib.hid (below_then HWR.out hb2)
      have HL2 := Lib.hid (show LaterD wr w2 from hb2)
      clear hb2
      cases hv : dbOk l
      · have HZ := Lib.hid (show (⟨(joinS (l.take k)).toArray⟩ : ByteArray) = fmtD l by rw [HK0.out hv, fmtD_no hv]; rfl)
        go_wp2_with fail
        go_ret
        exact ⟨ret_s HZ.out, HB2.out⟩
      · have HV2 := Lib.hid hv
        have hl6 : l.length ≤ 6 := (dbOk_iff.1 hv).1
        have hcl : (joinS (l.take k)).length ≤ 606 := by have := joinS_len (l.take k); rw [List.length_take] at this; omega
        by_cases h0 : k = 0
        · have HE := Lib.hid (show joinS (l.take (k + 1)) = joinS (l.take k) ++ fmtL T by
            have q : l.take k = [] := by rw [h0]; rfl
            rw [HSN.out, if_pos q, q]
            rfl)
          have hn : ((0 : Int) < (k : Int)) = False := by simp only [eq_iff_iff, iff_false]; omega
          have hn2 : (0 < k) = False := by simp only [eq_iff_iff, iff_false]; omega
          clear h0 h6
          generalize joinS (l.take k) = cur at *
          generalize fmtL T = dg at *
          have l1 : ¬ 9223372036854775807 < cur.length + dg.length := by omega
          go_wp2_with fail
          refine (HFM.out _ HL2.out).mono ?_
          rintro e w3 ⟨rfl, hb3⟩
          have HB4 := Lib.hid (below_then HB3.out hb3)
          clear hb3
          go_wp2_with fail
          go_roundw
          case rel => exact ⟨k + 1, by omega, by rw [HE.out]; simp [ByteArray.mk_append_mk], by go_num, (fun q => by rw [HV2.out] at q; cases q), (fun _ => hl6), HB4.out⟩
          case measure => simp [intOf]; omega
        · have HE := Lib.hid (show joinS (l.take (k + 1)) = joinS (l.take k) ++ 59 :: fmtL T by
            rw [HSN.out, if_neg]
            intro q
            have q2 : (l.take k).length = 0 := by rw [q]; rfl
            rw [List.length_take] at q2
            omega)
          have hn : ((0 : Int) < (k : Int)) = True := by simp only [eq_iff_iff, iff_true]; omega
          have hn2 : (0 < k) = True := by simp only [eq_iff_iff, iff_true]; omega
          clear h0 h6
          generalize joinS (l.take k) = cur at *
          generalize fmtL T = dg at *
          have l1 : ¬ 9223372036854775807 < cur.length + 1 := by omega
          have l2 : ¬ 9223372036854775807 < cur.length + 1 + dg.length := by omega
          go_wp2_with fail
          refine (HFM.out _ HL2.out).mono ?_
          rintro e w3 ⟨rfl, hb3⟩
          have HB4 := Lib.hid (below_then HB3.out hb3)
          clear hb3
          go_wp2_with fail
          go_roundw
          case rel => exact ⟨k + 1, by omega, by rw [HE.out]; simp [ByteArray.mk_append_mk], by go_num, (fun q => by rw [HV2.out] at q; cases q), (fun _ => hl6), HB4.out⟩
          case measure => simp [intOf]; omega
    · have ek : k = l.length := by omega
      subst ek
      have HZ := Lib.hid (show (⟨(joinS (l.take l.length)).toArray⟩ : ByteArray) = fmtD l by
        cases hv : dbOk l
        · rw [HK0.out hv, fmtD_no hv]; rfl
        · rw [List.take_length, fmtD_yes hv])
      go_wp2_with fail
      go_ret
      exact ⟨ret_s HZ.out, HBW.out⟩

theorem fmt_elem_i (us : List Value) (T : T3) (S : Nat → Prop) (w : World) (hu : tabC.rd w S us T) (ht : Format.Tab w) :
    Calls Tryz.prog 43 #[.agg us.toArray] w fun e w' => e = .returned (.string ⟨(fmtL T).toArray⟩) ∧ Below w.heap.size w w' := by
  obtain ⟨u, rfl, _, _, h3⟩ := tab_cells hu
  exact impl_fmt T.1 T.2.1 u T.2.2 S w h3 ht
def strT (l : List T3) : List ByteArray := l.map fun T => ⟨(fmtL T).toArray⟩
set_option maxRecDepth 100000 in
set_option maxHeartbeats 1600000 in
theorem map_fmts (u : Value) (l : List T3) (S : Nat → Prop) (w : World) (h1 : tabsC.rd w S [u] l) (h6 : l.length ≤ 6) (ht : Format.Tab w) :
    Calls Tryz.prog 42 #[u, .func (.func 43) #[] #[]] w fun e w' => ∃ g fp, e = .returned (.slice (some ⟨g, 0, none⟩) l.length l.length) ∧ strsC.ow w' w.heap.size [.slice (some ⟨g, 0, none⟩) l.length l.length] (strT l) fp ∧ fp.Nodup ∧ Below w.heap.size w w' := by
  obtain ⟨i0, hi, hz0, hz1, hz2⟩ := info_parts info_str
  have HR := Lib.hid (fun w' (hb : Below w.heap.size w w') => Cd.later h1 hb)
  have HTB := Lib.hid (fun w' (hb : Below w.heap.size w w') => Format.tab_later hb ht)
  obtain ⟨a, cap, rfl, hlm⟩ := Cd.sl_form h1
  clear h1 ht
  go_enter Tryz.func42, Tryz.ntmps42
  go_wp2_with (at_make; refine wpList_make_own _ rfl _ _ 49 rfl w.heap.size 9 i0 (.string ⟨#[]⟩) 1 Tryz.underlying49 hi hz0 hz1 _ _ _ l.length rfl rfl rfl (by rw [hz2]; omega) (by unfold maxLen; omega) (Nat.le_refl _) ?_)
  intro w1 hown0 hg0
  have how1 : strsC.ow w1 w.heap.size [.slice (some ⟨w.heap.size, 0, none⟩) 0 l.length] [] [w.heap.size] := ⟨_, [], [], rfl, hown0, trivial, rfl⟩
  have hb1 : Below w.heap.size w w1 := ⟨hg0.os, hg0.tape, hg0.output, hg0.size, fun k hk => hg0.block k hk (by simp)⟩
  clear hown0 hg0
  go_wp2_with fail
  go_loopw [5, 13] (fun o i wr => ∃ (k : Nat) (fp : List Nat), k ≤ l.length ∧ i = .int .i64 k ∧ o = .slice (some ⟨w.heap.size, 0, none⟩) k l.length ∧ strsC.ow wr w.heap.size [.slice (some ⟨w.heap.size, 0, none⟩) k l.length] (strT (l.take k)) fp ∧ fp.Nodup ∧ Below w.heap.size w wr) (fun _ i _ => l.length - (intOf i).toNat)
  case atStart => exact ⟨0, _, Nat.zero_le _, rfl, rfl, how1, by simp, hb1⟩
  case round =>
    obtain ⟨k, fp, hk, rfl, rfl, how, hnd, hb⟩ := hrel
    by_cases hlt : k < l.length
    · obtain ⟨b, off, cap', us, e1, _, hbB, hat, hu⟩ := Cd.sl_at (HR.out wr hb) hlt
      injection e1 with e1 e2 e3
      subst e1 e3
      obtain ⟨az, cz, rfl⟩ := elem_form hu
      have p0 := hat 0 (by simp)
      have p1 := hat 1 (by simp)
      have p2 := hat 2 (by simp)
      simp only [List.getElem_cons_zero, List.getElem_cons_succ, Nat.add_zero, show tabC.n = 3 from rfl] at p0 p1 p2
      have HC := Lib.hid (fun w' (hq : Below wr.heap.size wr w') => fmt_elem_i _ l[k] S w' (Cd.later hu hq) (HTB.out w' (below_then hb hq)))
      have HOW := Lib.hid how
      have HND := Lib.hid hnd
      have HB := Lib.hid hb
      have HT := Lib.hid (show strT (l.take (k + 1)) = strT (l.take k) ++ [⟨(fmtL l[k]).toArray⟩] by unfold strT; rw [List.take_succ_eq_append_getElem hlt, List.map_append]; rfl)
      have hsz : (⟨(fmtL l[k]).toArray⟩ : ByteArray).size ≤ maxLen := by show (fmtL l[k]).toArray.size ≤ maxLen; rw [List.size_toArray]; have := fmtL_len l[k]; unfold maxLen; omega
      have HSZ := Lib.hid hsz
      have HL := Lib.hid (show k = (strT (l.take k)).length by unfold strT; rw [List.length_map, List.length_take]; omega)
      have i1 : (0 : Int) ≤ (k : Int) := by omega
      have i2 : (k : Int) < (l.length : Int) := by omega
      clear hu how hnd hb how1 hb1 hsz hat e2
      generalize l[k] = T at *
      generalize (⟨(fmtL T).toArray⟩ : ByteArray) = r at *
      go_wp2_with fail
      have hbX := below_alloc wr (.cells #[.string T.1, .int .i64 T.2.1, .slice az T.2.2.length cz] 29 (0, 0))
      refine (HC.out _ hbX).mono ?_
      rintro e w2 ⟨rfl, hb2⟩
      have hbA : Below w2.heap.size w2 (w2.alloc (.cells #[.string r] 9 (0, 0))) := below_alloc _ _
      have HOW2 := Lib.hid (Cd.ow_later (Cd.ow_later (Cd.ow_later HOW.out hbX) hb2) hbA)
      have HB2 := Lib.hid (below_then (below_then (below_then HB.out hbX) hb2) hbA)
      have HBS := Lib.hid (show w.heap.size ≤ (w2.alloc (.cells #[.string r] 9 (0, 0))).heap.size from HB2.out.size)
      have HCELL := Lib.hid (show (w2.alloc (.cells #[.string r] 9 (0, 0))).cell? ⟨w2.heap.size, 0, none⟩ = some (.string r) from World.cell?_alloc_mark _ _ _ _ 0)
      clear hbA hb2 hbX
      go_wp2_with (at_builtin; refine Cd.wpList_appendR (c := strC) rfl rfl (.tmp 17) (.tmp 21) 49 rfl w.heap.size 9 (.string ⟨#[]⟩) 16 Tryz.underlying49 info_str rfl (by decide) w.heap.size l.length k (strT (l.take k)) fp rfl HL.out HOW2.out HND.out (by omega) w2.heap.size (.string r) rfl HCELL.out r [] ⟨rfl, HSZ.out, rfl⟩ (by simp) (by simp) (by omega) HBS.out ?_)
      intro w3 fp3 ho3 hn3 hsub3 ht3
      have HB3 := Lib.hid (ht3.below HB2.out (fun b hb => (strsC.ow_lt HOW.out b hb).1))
      rw [← HT.out] at ho3
      clear ht3 hsub3
      go_wp2_with fail
      go_roundw
      case rel => exact ⟨k + 1, fp3, by omega, by go_num, rfl, ho3, hn3, HB3.out⟩
      case measure => simp [intOf]; omega
    · have ek : k = l.length := by omega
      subst ek
      rw [List.take_length] at how
      go_wp2_with fail
      go_ret
      exact ⟨_, fp, rfl, how, hnd, hb⟩
theorem join_tabs (g : Nat) (l : List T3) (fp : List Nat) (w : World) (base : Nat) (how : strsC.ow w base [.slice (some ⟨g, 0, none⟩) l.length l.length] (strT l) fp) (h6 : l.length ≤ 6) :
    Calls Tryz.prog 41 #[.slice (some ⟨g, 0, none⟩) l.length l.length, .string ⟨#[59]⟩] w fun e w' => e = .returned (.string ⟨(joinS l).toArray⟩) ∧ Below w.heap.size w w' := by
  have hlen : (strT l).length = l.length := by unfold strT; rw [List.length_map]
  have hg : g < w.heap.size := by
    obtain ⟨v, xss, fps, e1, hown, _, _⟩ := how
    injection e1 with e1 _
    subst e1
    rcases hown.2 with ⟨e1, _⟩ | ⟨g', cap', cur, e1, _, hgg, _⟩
    · cases e1
    · simp only [Value.slice.injEq, Option.some.injEq, Addr.mk.injEq, and_true] at e1
      obtain ⟨rfl, _, _⟩ := e1
      exact (Array.getElem?_eq_some_iff.1 hgg).1
  have h := Tryz.strings_Join g 0 l.length (strT l) ⟨#[59]⟩ w (fun j x hj => by
    obtain ⟨hj1, hj2⟩ := List.getElem?_eq_some_iff.1 hj
    obtain ⟨b, off, cap, e1, _, hc⟩ := strs_at (strsC.ow_rd how) hj1
    simp only [Value.slice.injEq, Option.some.injEq, Addr.mk.injEq, and_true] at e1
    obtain ⟨⟨rfl, rfl⟩, _, _⟩ := e1
    rw [← hj2]
    exact hc) hg (by rw [hlen]; omega) (by rw [hlen]; exact Nat.le_refl _) (by rw [show (ByteArray.mk #[59]).data.toList = [59] from rfl]; unfold strT; rw [joinS_join]; have := joinS_len l; omega)
  rw [hlen, show (ByteArray.mk #[59]).data.toList = [59] from rfl] at h
  unfold strT at h
  rw [joinS_join] at h
  exact h
set_option maxRecDepth 100000 in
set_option maxHeartbeats 1600000 in
theorem impl_fmtdb (u : Value) (l : List T3) (S : Nat → Prop) (w : World) (h1 : tabsC.rd w S [u] l) (ht : Format.Tab w) :
    Calls Tryz.prog 16 #[.agg #[u]] w fun e w' => e = .returned (.string (fmtD l)) ∧ Below w.heap.size w w' := by
  have HV := Lib.hid (fun w' (hb : Below w.heap.size w w') => impl_dbok u l S w' (Cd.later h1 hb))
  have HM := Lib.hid (fun h6 w' (hb : Below w.heap.size w w') => map_fmts u l S w' (Cd.later h1 hb) h6 (Format.tab_later hb ht))
  obtain ⟨a1, cap1, rfl, hl1⟩ := Cd.sl_form h1
  clear h1 ht
  go_enter Tryz.func16, Tryz.ntmps16
  go_wp2_with fail
  generalize hW : w.alloc _ = W
  obtain ⟨r0, hz, hb0⟩ := start1 w _ hW
  have HC0 := Lib.hid (row1 r0).1
  have HB0 := Lib.hid hb0
  clear hW r0 hz
  refine (HV.out _ hb0).mono ?_
  rintro e w1 ⟨rfl, hb1⟩
  have c0 := (hb1.cell (World.block_lt_of_cell? _ _ HC0.out)).trans HC0.out
  have HB1 := Lib.hid (below_then HB0.out hb1)
  clear hb0 hb1
  cases hv : dbOk l
  · have HZ := Lib.hid (fmtD_no hv)
    go_wp2_with fail
    go_ret
    exact ⟨ret_s HZ.out.symm, HB1.out⟩
  have HZ := Lib.hid (fmtD_yes hv)
  have H6 := Lib.hid (dbOk_iff.1 hv).1
  go_wp2_with fail
  refine (HM.out H6.out _ HB1.out).mono ?_
  rintro e w2 ⟨g, fp, rfl, how, hnd, hb2⟩
  have HJ := Lib.hid (join_tabs g l fp w2 _ how H6.out)
  have HB2 := Lib.hid (below_then HB1.out hb2)
  clear how hnd hb2
  go_wp2_with fail
  refine HJ.out.mono ?_
  rintro e w3 ⟨rfl, hb3⟩
  have HB3 := Lib.hid (below_then HB2.out hb3)
  clear hb3
  go_wp2_with fail
  go_ret
  exact ⟨ret_s HZ.out.symm, HB3.out⟩
end Go.Proofs.YteihnbnlfocgmaaGreatDoor.DbFmt

namespace Go.Proofs.YteihnbnlfocgmaaGreatDoor.DbAcc
open Go Go.RowKit Byt Ints IntsLaw Cd Rows2 Tab SlMath TabOpen TabElem SlTable Db TabSpec DbMath DbSpec DbExact

set_option maxRecDepth 100000 in
set_option maxHeartbeats 1600000 in
theorem spec_rem (u : Value) (l : List T3) (nm : ByteArray) (S : Nat → Prop) (w : World) (h1 : tabsC.rd w S [u] l) (hw : wtS l ≤ 1048577) :
    Calls Tryz.prog 12 #[.agg #[u], .string nm] w fun e w' => DbAns (remR l nm) (remOk l nm) w e w' := by
  have HR1 := Lib.hid (fun w' (hb : Below w.heap.size w w') => Cd.later h1 hb)
  have HLK := Lib.hid (fun w' (hb : Below w.heap.size w w') => spec_look u l nm S w' (Cd.later h1 hb) hw)
  have HDC := Lib.hid (fun w' (hb : Below w.heap.size w w') => spec_dbcopy u l S w' (Cd.later h1 hb) (by omega))
  obtain ⟨a1, cap1, rfl, hl1⟩ := Cd.sl_form h1
  have HWT := Lib.hid hw
  clear h1 hw
  go_enter Tryz.func12, Tryz.ntmps12
  go_wp2_with fail
  generalize hW : (w.alloc _).alloc _ = W
  obtain ⟨r0, r1, hz, hb0⟩ := start2g w _ _ hW
  have HC0 := Lib.hid (Loc1.of r0)
  have HC1 := Lib.hid (Loc1.of r1)
  have HZZ := Lib.hid hz
  have HB0 := Lib.hid hb0
  clear hW r0 r1 hz hb0
  refine (HLK.out _ HB0.out).mono ?_
  rintro e w1 ⟨v1, f1, rfl, ho1, hn1, hb1⟩
  obtain ⟨av, cv, rfl⟩ := Cd.ow_slice ho1
  have HB1 := Lib.hid (below_then HB0.out hb1)
  have HC0a := Lib.hid (HC0.out.later hb1)
  have HC1a := Lib.hid (HC1.out.later hb1)
  have HS1 := Lib.hid (show w.heap.size + 2 ≤ w1.heap.size by have := hb1.size; have := HZZ.out; omega)
  clear ho1 hn1 hb1
  have q0 := HC0a.out.c0
  have q1 := HC0a.out.lt
  generalize lkT l nm = LT at *
  cases hok : (lookL l nm).isSome
  · have HOK := Lib.hid (show remOk l nm = false from hok)
    go_wp2_with fail
    have hb2 := below_alloc w1 (.cells #[.string LT.1, .int .i64 LT.2.1, .slice av LT.2.2.length cv] 29 (0, 0))
    refine (HDC.out _ (below_then HB1.out hb2)).mono ?_
    rintro e w3 ⟨u3, f3, rfl, ho3, hn3, hb3⟩
    obtain ⟨a3, c3, rfl⟩ := Cd.ow_slice (c := tabC) ho3
    have HC3 := Lib.hid ((HC1a.out.later hb2).later hb3)
    have y0 := HC3.out.c0
    have y1 := HC3.out.f0
    have HA := Lib.hid (DbAns.copy (b := remOk l nm) (l' := remR l nm) (Y := w.heap.size + 1) ho3 hn3 (below_then HB1.out hb2) hb3 (by omega) (by have := HS1.out; have := hb2.size; omega) (by unfold remR; rw [HOK.out]; rfl) HOK.out)
    clear ho3 hn3 hb3 hb2
    go_wp2_with fail
    have k0 : (w3.setCell ⟨w.heap.size + 1, 0, none⟩ (.slice a3 l.length c3)).cell? ⟨w.heap.size + 1, 0, none⟩ = some (.slice a3 l.length c3) := World.cell?_setCell_same _ _ _ y0
    refine bodyPost_ret (v := .tuple #[.agg #[.slice a3 l.length c3], .bool false]) (by simp [results, Tryz.results12, go_sem, k0]) rfl ?_
    exact HA.out
  · have HOK := Lib.hid (show remOk l nm = true from hok)
    go_wp2_with fail
    generalize hW : (w1.alloc _).alloc _ = WF
    obtain ⟨r0, r1, hz, hb0⟩ := start2g w1 _ _ hW
    have HACC0 := Lib.hid (AccS.start r1)
    have HZF := Lib.hid hz
    have HBF := Lib.hid (below_then HB1.out hb0)
    have HD0 := Lib.hid (HC0a.out.later hb0)
    have HD1 := Lib.hid (HC1a.out.later hb0)
    clear hW r0 r1 hz hb0 q0 q1
    have c0 := HD0.out.c0
    have c1 := HACC0.out.cell
    go_loopw [9] (fun i wr => ∃ (k : Nat) (a : Option Addr) (c : Nat) (fp : List Nat), k ≤ l.length ∧ i = .int .i64 k ∧ AccS WF wr (w1.heap.size + 1) (remL (l.take k) nm) a c fp) (fun i _ => l.length - (intOf i).toNat)
    case atStart => exact ⟨0, none, 0, [], Nat.zero_le _, rfl, HACC0.out⟩
    case round =>
      obtain ⟨k, a, c, fp, hk, rfl, hacc⟩ := hrel
      have HACC := Lib.hid hacc
      have hX : w.heap.size + 1 < w1.heap.size := by have := HS1.out; omega
      have x0 := (HACC.out.loc1 HD0.out (by omega)).c0
      have x1 := (HACC.out.loc1 HD0.out (by omega)).lt
      clear c0 c1 hacc
      by_cases hlt : k < l.length
      · obtain ⟨b, off, cap', us, e1, _, hbB, hat, hu⟩ := Cd.sl_at (HR1.out wr (HACC.out.below HBF.out (by omega))) hlt
        injection e1 with e1 e2 e3
        subst e1 e3
        obtain ⟨x, y, z, rfl⟩ := len_list (tabC.len hu)
        have p0 := hat 0 (by simp)
        have p1 := hat 1 (by simp)
        have p2 := hat 2 (by simp)
        simp only [List.getElem_cons_zero, List.getElem_cons_succ, Nat.add_zero, show tabC.n = 3 from rfl] at p0 p1 p2
        have ht3 : wtT l[k] ≤ 1073741824 := by have := sumN_mem wtT hlt; have := HWT.out; unfold wtS at this; omega
        have HCP := Lib.hid (copy_elem [x, y, z] l[k] _ wr hu ht3)
        have hx := name_cell hu
        have HLL := Lib.hid (show (remL (l.take k) nm).length + 1 ≤ 1000000000 by have h1 := remL_len (l.take k) nm; rw [List.length_take] at h1; have h2 := HWT.out; unfold wtS at h2; omega)
        have HF1 := Lib.hid (fun e : (l[k]).1 = nm => remL_eq hlt e)
        have HF0 := Lib.hid (fun e : (l[k]).1 ≠ nm => remL_ne hlt e)
        have i1 : (0 : Int) ≤ (k : Int) := by omega
        have i2 : (k : Int) < (l.length : Int) := by omega
        clear hu hat hbB e2 ht3
        generalize l[k] = T at *
        subst hx
        generalize remL (l.take k) nm = cur at *
        by_cases he : T.1 = nm
        · have HF := Lib.hid (HF1.out he)
          have he2 : (T.1.toList == nm.toList) = true := by rw [eqB]; exact decide_eq_true he
          clear he
          go_wp2_with fail
          go_roundw
          case rel => exact ⟨k + 1, a, c, fp, by omega, by go_num, HACC.out.shift HF.out.symm⟩
          case measure => simp [intOf]; omega
        · have HF := Lib.hid (HF0.out he)
          have he2 : (T.1.toList == nm.toList) = false := by rw [eqB]; exact decide_eq_false he
          clear he
          go_wp2_with fail
          refine (HCP.out).mono ?_
          rintro e w2 ⟨a2, c2, f2, rfl, ho2, hn2, hb2⟩
          have h2 := HACC.out.later hb2
          have d2 := h2.cell
          have dl := World.block_lt_of_cell? _ _ d2
          have hl := HACC.out.laid hb2 ho2 hn2 29
          have H3 := Lib.hid hl.1
          have HLD := Lib.hid hl.2
          clear ho2 hn2 hb2 h2 hl HACC
          go_wp2_with (at_builtin; refine Cd.wpList_appendN (c := tabC) rfl (.tmp 44) (.tmp 46) 24 rfl WF.heap.size 29 (.agg #[.string ⟨#[]⟩, .int .i64 0, .slice none 0 0]) 3 48 rfl Tryz.underlying24 info_x rfl (by decide) _ cur fp rfl H3.out.ow H3.out.nd (w2.heap.size + 1) _ rfl HLD.out.at_ T f2 HLD.out.ow HLD.out.nd HLD.out.far HLL.out H3.out.sz ?_)
          intro g cap4 w4 fp4 ho4 hn4 _ ht4
          have HACC := Lib.hid (H3.out.app (cur' := cur ++ [T]) (n := cur.length + 1) (by simp) ht4 ho4 hn4)
          obtain ⟨e2, g2⟩ := H3.out.fcell ht4
          clear ho4 hn4 ht4 H3 HLD d2 dl
          go_wp2_with fail
          go_roundw
          case rel => exact ⟨k + 1, some ⟨g, 0, none⟩, cap4, fp4, by omega, by go_num, HACC.out.shift HF.out.symm⟩
          case measure => simp [intOf]; omega
      · have ek : k = l.length := by omega
        subst ek
        have HL := Lib.hid (show remL (l.take l.length) nm = remR l nm by rw [List.take_length]; unfold remR; rw [HOK.out]; rfl)
        have hY := HACC.out.loc1 HD1.out (by omega)
        have y0 := hY.c0
        have y1 := hY.f0
        have z0 := HACC.out.cell
        have HY := Lib.hid y0
        have HYF := Lib.hid (show w.heap.size + 1 < WF.heap.size from HD1.out.lt)
        clear hY
        generalize remL (l.take l.length) nm = cur at *
        go_wp2_with fail
        have k0 : (wr.setCell ⟨w.heap.size + 1, 0, none⟩ (.slice a cur.length c)).cell? ⟨w.heap.size + 1, 0, none⟩ = some (.slice a cur.length c) := World.cell?_setCell_same _ _ _ HY.out
        refine bodyPost_ret (v := .tuple #[.agg #[.slice a cur.length c], .bool true]) (by simp [results, Tryz.results12, go_sem, k0]) rfl ?_
        exact (HACC.out.ans HBF.out (by omega) (by omega) HYF.out HL.out HOK.out)
end Go.Proofs.YteihnbnlfocgmaaGreatDoor.DbAcc

namespace Go.Proofs.YteihnbnlfocgmaaGreatDoor.DbFact
open Go Go.RowKit Byt Ints IntsLaw Cd Rows2 Tab SlMath TabOpen TabElem SlTable Db TabSpec DbMath TabFmt TabParse DbFmt DbParse DbSpec DbAcc

theorem wt_ok {T : T3} (h : okT T = true) : wtT T ≤ 40 := by
  have htp : TabP T.1 T.2.1 T.2.2 := of_decide_eq_true h
  have h1 : T.1.size = 1 := (of_decide_eq_true htp.1).1
  have h2 : ∀ l : List (List Int), (∀ r ∈ l, r.length ≤ 3) → rowsWt l ≤ 4 * l.length := by
    intro l
    induction l with
    | nil => intro _; simp [rowsWt]
    | cons r rs ih =>
      intro h
      have h1 := ih (fun x hx => h x (List.mem_cons.2 (.inr hx)))
      have h2 := h r (List.mem_cons.2 (.inl rfl))
      simp [rowsWt] at *
      omega
  have h3 := h2 T.2.2 (fun r hr => by have := (rowOk_iff.1 (htp.2.2.2.2.1 r hr)).1; have := htp.2.2.1; omega)
  have h4 := htp.2.2.2.1
  unfold wtT tabWt
  omega
theorem sum_le {f : T3 → Nat} {n : Nat} : ∀ {m : List T3}, (∀ T ∈ m, f T ≤ n) → sumN f m ≤ n * m.length
  | [], _ => by simp [sumN]
  | T :: m, h => by
    have h1 := sum_le (f := f) (n := n) (m := m) (fun x hx => h x (List.mem_cons.2 (.inr hx)))
    have h2 := h T (List.mem_cons.2 (.inl rfl))
    rw [sumN_cons, List.length_cons, Nat.mul_add]
    omega
theorem wts_ok {l : List T3} (h : dbOk l = true) : wtS l ≤ 300 := by
  have hd := dbOk_iff.1 h
  have h3 := sum_le (f := wtT) (n := 40) (m := l) (fun T hT => wt_ok (hd.2.1 T hT))
  have h4 := hd.1
  unfold wtS
  omega
theorem wts_drawn {l : List T3} (hl : l.length ≤ 7) (h : ∀ T ∈ l, DbDraw.OkD T) : wtS l ≤ 300 := by
  have h3 := sum_le (f := wtT) (n := 34) (m := l) (fun T hT => by obtain ⟨h1, _, h2⟩ := h T hT; unfold wtT tabWt; omega)
  unfold wtS
  omega
theorem sum_rem (f : T3 → Nat) {T : T3} : ∀ {R : List T3}, AscP R → T ∈ R → sumN f R = sumN f (remL R T.1) + f T
  | [], _, h => by cases h
  | U :: R, ha, h => by
    have ha' := List.pairwise_cons.1 ha
    by_cases e : U.1 = T.1
    · have hUT : U = T := asc_name ha List.mem_cons_self h e
      subst hUT
      have hr : remL (U :: R) U.1 = R := by
        unfold remL
        rw [List.filter_cons_of_neg (by simp), List.filter_eq_self]
        intro V hV
        have := ltB_ne (show ltB U.1 V.1 = true from ha'.1 V hV)
        simpa using fun q => this q.symm
      rw [hr, sumN_cons]
      omega
    · have hT : T ∈ R := by
        rcases List.mem_cons.1 h with q | q
        · exact absurd (by rw [q]) e
        · exact q
      have hr : remL (U :: R) T.1 = U :: remL R T.1 := by
        unfold remL
        rw [List.filter_cons_of_pos (by simpa using e)]
      have ih := sum_rem f ha'.2 hT
      rw [hr, sumN_cons, sumN_cons, ih]
      omega
theorem set_facts {l : List T3} {T : T3} (h : setOk l T = true) :
    dbOk (setL l T) = true ∧ lookL (setL l T) T.1 = some T ∧ remOk (setL l T) T.1 = true ∧ (remOk l T.1 = true → remR (setL l T) T.1 = remR l T.1) ∧ (remOk l T.1 = false → remR (setL l T) T.1 = l) ∧ cntL (setL l T) = cntL (remR (setL l T) T.1) + T.2.2.length ∧ dbOk (remR (setL l T) T.1) = true := by
  have e : setL l T = putL T l := by unfold setL; rw [h]; rfl
  have h' := h
  unfold setOk at h'
  simp only [Bool.and_eq_true] at h'
  obtain ⟨⟨hv, hT⟩, h6⟩ := h'
  have hR : dbOk (putL T l) = true := by rw [dbOk_putL hv hT]; exact h6
  have ha := (dbOk_iff.1 hv).2.2
  have haR := asc_putL (T := T) ha
  have hmem : T ∈ putL T l := (mem_putL ha).2 (.inl rfl)
  have hlook : lookL (putL T l) T.1 = some T := by unfold lookL; rw [hR]; exact findN_of_asc haR hmem
  have hrem : remOk (putL T l) T.1 = true := by unfold remOk; rw [hlook]; rfl
  have hremR : remR (putL T l) T.1 = remL (putL T l) T.1 := by unfold remR; rw [hrem]; rfl
  have hsame : remL (putL T l) T.1 = remL l T.1 := asc_unique (asc_remL haR _) (asc_remL ha _) fun U => by
    rw [mem_remL, mem_remL, mem_putL ha]
    constructor
    · rintro ⟨q | q, r⟩
      · exact absurd (by rw [q]) r
      · exact ⟨q.1, r⟩
    · rintro ⟨q, r⟩
      exact ⟨.inr ⟨q, r⟩, r⟩
  have hdb : dbOk (remL (putL T l) T.1) = true := by
    have hp := dbOk_iff.1 hR
    exact dbOk_iff.2 ⟨Nat.le_trans (List.length_filter_le _ _) hp.1, fun U hU => hp.2.1 U (mem_remL.1 hU).1, asc_remL haR _⟩
  rw [e, hremR]
  refine ⟨hR, hlook, hrem, fun q => ?_, fun q => ?_, ?_, hdb⟩
  · rw [hsame]; unfold remR; rw [q]; rfl
  · rw [hsame]
    unfold remOk lookL at q
    rw [hv] at q
    have hn : findN l T.1 = none := by
      cases hf : findN l T.1 with
      | none => rfl
      | some U => rw [hf] at q; cases q
    unfold remL
    rw [List.filter_eq_self]
    intro U hU
    simpa using findN_none.1 hn U hU
  · unfold cntL
    rw [hR, hdb]
    exact sum_rem (fun T => T.2.2.length) haR hmem
theorem set_no {l : List T3} {T : T3} (h : setOk l T = false) : setL l T = l := by unfold setL; rw [h]; rfl

theorem tab_back {T : T3} (h : okT T = true) : pOk ⟨(fmtL T).toArray⟩ = true ∧ tabP ⟨(fmtL T).toArray⟩ = T ∧ 3 ≤ (fmtL T).length := by
  obtain ⟨g1, g2, _, _, g5, g6, g7⟩ := ParMath.shape (s := fmtT T.1 T.2.1 T.2.2) h rfl
  have e : fmtT T.1 T.2.1 T.2.2 = ⟨(fmtL T).toArray⟩ := fmtL_eq T
  rw [e] at g1 g2 g5 g6 g7
  refine ⟨decide_eq_true ⟨g1, by omega, by rw [g5, g6, g7]; exact e⟩, ?_, by simpa [ByteArray.size] using g1⟩
  show (pNm _, pAr _, pRows _) = T
  rw [g5, g6, g7]
theorem no59_fmt {T : T3} (h : okT T = true) : (59 : UInt8) ∉ fmtL T := by
  have := no59 (tab_back h).1
  simpa using this
theorem cut_joinS : ∀ {l : List T3}, l ≠ [] → (∀ T ∈ l, okT T = true) → cutB 59 (joinS l) = l.map fmtL
  | [], h, _ => absurd rfl h
  | [T], _, h => by
    show cutB 59 (fmtL T) = [fmtL T]
    exact cut_none (no59_fmt (h T List.mem_cons_self))
  | T :: U :: l, _, h => by
    show cutB 59 (fmtL T ++ 59 :: joinS (U :: l)) = _
    rw [cut_first _ (no59_fmt (h T List.mem_cons_self)), cut_joinS (by simp) (fun V hV => h V (List.mem_cons_of_mem _ hV))]
    rfl
/-- A format is read back. -/
theorem par_fmtD (l : List T3) : parOk (fmtD l) = true ∧ (dbOk l = true → parL (fmtD l) = l) := by
  cases h : dbOk l
  · rw [fmtD_no h]
    exact ⟨(par_empty rfl).1, fun q => by cases q⟩
  · have hd := dbOk_iff.1 h
    rw [fmtD_yes h]
    by_cases hl : l = []
    · subst hl
      have := par_empty (s := ⟨(joinS []).toArray⟩) rfl
      exact ⟨this.1, fun _ => this.2⟩
    · have hc : cutB 59 (joinS l) = l.map fmtL := cut_joinS hl hd.2.1
      have hc9 : cuts9 ⟨(joinS l).toArray⟩ = (l.map fmtL).map ba := by
        unfold cuts9
        rw [show (ByteArray.mk (joinS l).toArray).data.toList = joinS l from by simp, hc]
      have hne : (⟨(joinS l).toArray⟩ : ByteArray) ≠ ⟨#[]⟩ := by
        intro q
        have q2 : joinS l = [] := by
          have := congrArg (fun s : ByteArray => s.data.toList) q
          simpa using this
        rw [q2] at hc
        match l, hl, hc, hd with
        | T :: m, _, hc, hd =>
          have h3 := (tab_back (hd.2.1 T List.mem_cons_self)).2.2
          simp only [cutB, List.map_cons, List.cons.injEq] at hc
          rw [← hc.1] at h3
          simp at h3
      have hmap : ((l.map fmtL).map ba).map tabP = l := by
        rw [List.map_map, List.map_map]
        conv => rhs; rw [← List.map_id l]
        exact List.map_congr_left fun T hT => (tab_back (hd.2.1 T hT)).2.1
      have hrd : ReadP ⟨(joinS l).toArray⟩ := by
        refine ⟨fun x hx => ?_, ?_⟩
        · rw [hc9] at hx
          obtain ⟨y, hy, rfl⟩ := List.mem_map.1 hx
          obtain ⟨T, hT, rfl⟩ := List.mem_map.1 hy
          exact (tab_back (hd.2.1 T hT)).1
        · rw [hc9, hmap]
          exact h
      have := par_is hne hrd
      refine ⟨this.1, fun _ => ?_⟩
      rw [this.2, hc9, hmap]
theorem fmtD_size (l : List T3) : (fmtD l).size ≤ 1048576 := by
  unfold fmtD
  cases h : dbOk l
  · exact Nat.zero_le _
  · have h1 := joinS_len l
    have h2 := (dbOk_iff.1 h).1
    show (joinS l).toArray.size ≤ 1048576
    rw [List.size_toArray]
    omega
end Go.Proofs.YteihnbnlfocgmaaGreatDoor.DbFact

namespace Go.Proofs.YteihnbnlfocgmaaGreatDoor.DbDraw
open Go Go.RowKit Byt Ints IntsLaw IntsWalk Draw LocDraw Cd Rows2 Tab TabDraw SlMath TabOpen TabElem SlTable Db TabSpec DbMath DbSpec DbExact DbAcc

theorem list1 (x : UInt8) : (⟨#[x]⟩ : ByteArray).toList = [x] := by simp [ByteArray.toList, ByteArray.toList.loop, ByteArray.size, ByteArray.get!]
theorem toL (x y : UInt8) : ((⟨#[x]⟩ : ByteArray).toList == [y]) = decide (x = y) := by rw [list1]; by_cases h : x = y <;> simp [h]
theorem toN {nm : ByteArray} {x : UInt8} (h : nm ≠ ⟨#[x]⟩) : (nm.toList == [x]) = false := by rw [← list1 x, eqB]; exact decide_eq_false h

set_option maxRecDepth 100000 in
set_option maxHeartbeats 3200000 in
theorem db_any (c : Nat) (v : Value) (l : List UInt8) (B : Nat) (w : World) (hc : Cur w c v l) (hr : Reads w v l B) (hB : B ≤ c) :
    Calls Tryz.prog 47 #[.pointer (some ⟨c, 0, none⟩)] w (DbDr 5 w c v l) := by
  have hcs := cur_size hc
  have HR := Lib.hid (fun w' (hg : w.grownBy w' (some c)) => hr.later (below_of hg hB hcs))
  have HC := Lib.hid hc
  clear hc hr
  go_enter Tryz.func47, Tryz.ntmps47
  go_wp2_with fail
  generalize hW : w.alloc _ = W0
  obtain ⟨r0, hz, hb0⟩ := start1 w _ hW
  clear hW
  have HX0 := Lib.hid (Loc1.of r0)
  have HG0 := Lib.hid (grown_below hb0 (some c))
  have HC0 := Lib.hid (cur_below HC.out hb0 hcs)
  have hc1 := cur_allocI (.cells (zv4.map fun z => Value.int .i64 z).toArray 3) HC0.out
  have hg1 := grown_allocI (.cells (zv4.map fun z => Value.int .i64 z).toArray 3) HG0.out
  have HP := Lib.hid (pick_any zv4 W0.heap.size (by decide) (by decide) c v l B _ hc1 (HR.out _ hg1) hB (by omega) (list_cellsI zv4 W0 3))
  rw [hz] at HP
  have HG1 := Lib.hid hg1
  have HX1 := Lib.hid (HX0.out.later (below_alloc W0 (.cells (zv4.map fun z => Value.int .i64 z).toArray 3)))
  have HZ1 := Lib.hid (show (W0.alloc (.cells (zv4.map fun z => Value.int .i64 z).toArray 3)).heap.size = w.heap.size + 2 by rw [size_alloc, hz])
  clear r0 hb0 hc1 hg1 HX0 HG0 HC0
  refine HP.out.mono ?_
  rintro e w2 ⟨t, ht, rfl, hc2, hg2⟩
  have hv := zv4_ok ⟨t, ht⟩
  simp only at hv
  generalize zv4.getD t 0 = zv at *
  obtain ⟨V, rfl⟩ := Int.eq_ofNat_of_zero_le (show 0 ≤ zv by omega)
  have hV : 0 < V ∧ V ≤ 6 := by omega
  have HX2 := Lib.hid (loc1_grown HX1.out hg2 (by omega))
  have HZ2 := Lib.hid (show w.heap.size + 2 ≤ w2.heap.size by have := hg2.size; have := HZ1.out; omega)
  have HG2 := Lib.hid (grown_trans HG1.out hg2)
  have hc3 := cur_allocI (.cells (zm4.map fun z => Value.int .i64 z).toArray 3) hc2
  have hg3 := grown_allocI (.cells (zm4.map fun z => Value.int .i64 z).toArray 3) HG2.out
  have HP3 := Lib.hid (pick_any zm4 w2.heap.size (by decide) (by decide) c v l B _ hc3 (HR.out _ hg3) hB (by have := HZ2.out; omega) (list_cellsI zm4 w2 3))
  have HX3 := Lib.hid (HX2.out.later (below_alloc w2 (.cells (zm4.map fun z => Value.int .i64 z).toArray 3)))
  have HZ3 := Lib.hid (show w.heap.size + 2 ≤ (w2.alloc (.cells (zm4.map fun z => Value.int .i64 z).toArray 3)).heap.size by rw [size_alloc]; have := HZ2.out; omega)
  have HG3 := Lib.hid hg3
  clear hv hc2 hg2 hc3 hg3 HX1 HG1 HX2 HG2 HP HZ1 hz
  go_wp2_with fail
  refine HP3.out.mono ?_
  rintro e w4 ⟨t4, ht4, rfl, hc4, hg4⟩
  have hm := zm4_ok ⟨t4, ht4⟩
  simp only at hm
  generalize zm4.getD t4 0 = zm at *
  obtain ⟨M, rfl⟩ := Int.eq_ofNat_of_zero_le hm.1
  have hM : M ≤ 8 := by omega
  have HX4 := Lib.hid (loc1_grown HX3.out hg4 (by omega))
  have HG4 := Lib.hid (grown_trans HG3.out hg4)
  have HZ4 := Lib.hid (show w.heap.size + 2 ≤ w4.heap.size by have := hg4.size; have := HZ3.out; omega)
  have HC4 := Lib.hid hc4
  clear hm hc4 hg4 HX3 HG3 HP3 HZ3 HZ2
  go_wp2_with fail
  generalize hW : (w4.alloc _).alloc _ = W
  obtain ⟨r0, r1, hz, hb0⟩ := start2g w4 _ _ hW
  have hst : DrS w c v l w4.heap.size [] none 0 [] W := by
    refine ⟨Loc1.of r0, HX4.out.later hb0, fun t ht => ?_, Cd.ow_nil _ _, by simp, (fun T hT => by cases hT), by have := HZ4.out; omega, hcs, by omega, cur_below HC4.out hb0 (by have := HZ4.out; omega), grown_trans HG4.out (grown_below hb0 (some c))⟩
    rcases (show t = 0 ∨ t = 1 ∨ t = 2 ∨ t = 3 ∨ t = 4 by omega) with rfl | rfl | rfl | rfl | rfl <;> simp [World.cell?, r1, nm5]
  have HST := Lib.hid hst
  clear hW hst r0 r1 hb0 hz HX4 HG4 HC4 HZ4
  generalize w4.heap.size = X at *
  go_loopw [7, 8, 19] (fun _ _ n wr => ∃ (k : Nat) (cur : List T3) (a : Option Addr) (cap : Nat) (fp : List Nat), k ≤ 5 ∧ n = .int .i64 k ∧ cur.length = k ∧ (0 < k → ∃ g, a = some ⟨g, 0, none⟩) ∧ DrS w c v l X cur a cap fp wr) (fun _ _ n _ => 5 - (intOf n).toNat)
  case atStart => exact ⟨0, [], none, 0, [], Nat.zero_le _, rfl, rfl, fun h => absurd h (by decide), HST.out⟩
  case round =>
    obtain ⟨k, cur, a, cap, fp, hk, rfl, hlen, hform, hst⟩ := hrel
    have HFO := Lib.hid hform
    clear hform
    have HS := Lib.hid hst
    have HLEN := Lib.hid hlen
    clear hst hlen
    by_cases hlt : k < 5
    · have hnm := nm5_ok ⟨k, hlt⟩
      have hcell := HS.out.nm k hlt
      simp only at hnm
      generalize nm5.getD k ⟨#[]⟩ = nm at *
      have i1 : (0 : Int) ≤ (k : Int) := by omega
      have i2 : (k : Int) < 5 := by omega
      have HLL := Lib.hid (show cur.length + 1 ≤ 1000000000 by have := HLEN.out; omega)
      by_cases eu : nm = ⟨#[117]⟩
      · subst eu
        generalize hnu : (⟨#[117]⟩ : ByteArray) = nm at *
        have t1 : (nm.toList == [117]) = true := by rw [← hnu]; exact toL 117 117
        have t2 : (nm.toList == [118]) = false := by rw [← hnu]; exact toL 117 118
        clear hnu
        have HT := Lib.hid (tab_gen M V hM hV nm 3 (by decide) c v l B wr HS.out.cu (HR.out wr HS.out.gr) hB)
        rw [show ((3 : Nat) : Int) = 3 from rfl] at HT
        go_wp2_with fail
        refine HT.out.mono ?_
        rintro e w5 ⟨y, rows, f, rfl, how, hnf, hwt, hc5, hg5⟩
        obtain ⟨a5, cap5, rfl⟩ := Cd.ow_slice how
        obtain ⟨hL, hD⟩ := HS.out.laid hg5 hc5 how hnf (nm := nm) (ar := 3) ⟨hnm, by show (-1 : Int) ≤ 3 ∧ (3 : Int) ≤ 4; decide, by show rowsWt rows ≤ 32; omega⟩ 29
        have q1 := (HS.out.grown hg5 hc5).lx.c0
        have q2 : X < w5.heap.size := by have := (HS.out.grown hg5 hc5).sz; omega
        have HL := Lib.hid hL
        have HD := Lib.hid hD
        clear hL hD how hnf hwt hc5 hg5 HT
        go_wp2_with (at_builtin; refine Cd.wpList_appendN (c := tabC) rfl (.tmp 34) (.tmp 36) 24 rfl (X + 2) 29 (.agg #[.string ⟨#[]⟩, .int .i64 0, .slice none 0 0]) 3 48 rfl Tryz.underlying24 info_x rfl (by decide) _ cur fp rfl HL.out.ow HL.out.nd (w5.heap.size + 1) _ rfl HD.out.at_ (nm, 3, rows) f HD.out.ow HD.out.nd HD.out.far HLL.out HD.out.sz ?_)
        intro g cap4 w6 fp6 ho6 hn6 hs6 ht6
        obtain ⟨e0, e1⟩ := HL.out.fcell ht6
        have HA := Lib.hid (HL.out.app HD.out.ok ht6 ho6 hn6)
        clear ho6 hn6 hs6 ht6
        go_wp2_with fail
        go_roundw
        case rel => exact ⟨k + 1, cur ++ [(nm, 3, rows)], _, _, fp6, by omega, by go_num, by rw [List.length_append]; have := HLEN.out; simp; omega, fun _ => ⟨g, rfl⟩, HA.out⟩
        case measure => simp [intOf]; omega
      have t1 : (nm.toList == [117]) = false := by
        exact toN eu
      by_cases ev : nm = ⟨#[118]⟩
      · have t2 : (nm.toList == [118]) = true := by rw [ev]; exact toL 118 118
        clear ev eu
        have HT := Lib.hid (tab_gen M V hM hV nm 1 (by decide) c v l B wr HS.out.cu (HR.out wr HS.out.gr) hB)
        rw [show ((1 : Nat) : Int) = 1 from rfl] at HT
        go_wp2_with fail
        refine HT.out.mono ?_
        rintro e w5 ⟨y, rows, f, rfl, how, hnf, hwt, hc5, hg5⟩
        obtain ⟨a5, cap5, rfl⟩ := Cd.ow_slice how
        obtain ⟨hL, hD⟩ := HS.out.laid hg5 hc5 how hnf (nm := nm) (ar := 1) ⟨hnm, by show (-1 : Int) ≤ 1 ∧ (1 : Int) ≤ 4; decide, by show rowsWt rows ≤ 32; omega⟩ 29
        have q1 := (HS.out.grown hg5 hc5).lx.c0
        have q2 : X < w5.heap.size := by have := (HS.out.grown hg5 hc5).sz; omega
        have HL := Lib.hid hL
        have HD := Lib.hid hD
        clear hL hD how hnf hwt hc5 hg5 HT
        go_wp2_with (at_builtin; refine Cd.wpList_appendN (c := tabC) rfl (.tmp 34) (.tmp 36) 24 rfl (X + 2) 29 (.agg #[.string ⟨#[]⟩, .int .i64 0, .slice none 0 0]) 3 48 rfl Tryz.underlying24 info_x rfl (by decide) _ cur fp rfl HL.out.ow HL.out.nd (w5.heap.size + 1) _ rfl HD.out.at_ (nm, 1, rows) f HD.out.ow HD.out.nd HD.out.far HLL.out HD.out.sz ?_)
        intro g cap4 w6 fp6 ho6 hn6 hs6 ht6
        obtain ⟨e0, e1⟩ := HL.out.fcell ht6
        have HA := Lib.hid (HL.out.app HD.out.ok ht6 ho6 hn6)
        clear ho6 hn6 hs6 ht6
        go_wp2_with fail
        go_roundw
        case rel => exact ⟨k + 1, cur ++ [(nm, 1, rows)], _, _, fp6, by omega, by go_num, by rw [List.length_append]; have := HLEN.out; simp; omega, fun _ => ⟨g, rfl⟩, HA.out⟩
        case measure => simp [intOf]; omega
      · have t2 : (nm.toList == [118]) = false := toN ev
        clear ev eu
        have HT := Lib.hid (tab_gen M V hM hV nm 2 (by decide) c v l B wr HS.out.cu (HR.out wr HS.out.gr) hB)
        rw [show ((2 : Nat) : Int) = 2 from rfl] at HT
        go_wp2_with fail
        refine HT.out.mono ?_
        rintro e w5 ⟨y, rows, f, rfl, how, hnf, hwt, hc5, hg5⟩
        obtain ⟨a5, cap5, rfl⟩ := Cd.ow_slice how
        obtain ⟨hL, hD⟩ := HS.out.laid hg5 hc5 how hnf (nm := nm) (ar := 2) ⟨hnm, by show (-1 : Int) ≤ 2 ∧ (2 : Int) ≤ 4; decide, by show rowsWt rows ≤ 32; omega⟩ 29
        have q1 := (HS.out.grown hg5 hc5).lx.c0
        have q2 : X < w5.heap.size := by have := (HS.out.grown hg5 hc5).sz; omega
        have HL := Lib.hid hL
        have HD := Lib.hid hD
        clear hL hD how hnf hwt hc5 hg5 HT
        go_wp2_with (at_builtin; refine Cd.wpList_appendN (c := tabC) rfl (.tmp 34) (.tmp 36) 24 rfl (X + 2) 29 (.agg #[.string ⟨#[]⟩, .int .i64 0, .slice none 0 0]) 3 48 rfl Tryz.underlying24 info_x rfl (by decide) _ cur fp rfl HL.out.ow HL.out.nd (w5.heap.size + 1) _ rfl HD.out.at_ (nm, 2, rows) f HD.out.ow HD.out.nd HD.out.far HLL.out HD.out.sz ?_)
        intro g cap4 w6 fp6 ho6 hn6 hs6 ht6
        obtain ⟨e0, e1⟩ := HL.out.fcell ht6
        have HA := Lib.hid (HL.out.app HD.out.ok ht6 ho6 hn6)
        clear ho6 hn6 hs6 ht6
        go_wp2_with fail
        go_roundw
        case rel => exact ⟨k + 1, cur ++ [(nm, 2, rows)], _, _, fp6, by omega, by go_num, by rw [List.length_append]; have := HLEN.out; simp; omega, fun _ => ⟨g, rfl⟩, HA.out⟩
        case measure => simp [intOf]; omega
    · have ek : k = 5 := by omega
      subst ek
      have HON := Lib.hid (once_anyI 8 c v l B wr HS.out.cu (HR.out wr HS.out.gr) hB)
      go_wp2_with fail
      refine HON.out.mono ?_
      rintro e w9 ⟨b, rfl, hc9, hg9⟩
      have HS9 := Lib.hid (HS.out.grown hg9 hc9)
      have y0 := HS9.out.lx.c0
      have y1 := HS9.out.lr.c0
      have y2 := HS9.out.lr.f0
      clear hc9 hg9 HON
      cases b
      · go_wp2_with fail
        have k0 : (w9.setCell ⟨w.heap.size, 0, none⟩ (.slice a cur.length cap)).cell? ⟨w.heap.size, 0, none⟩ = some (.slice a cur.length cap) := World.cell?_setCell_same _ _ _ y1
        refine bodyPost_ret (v := .agg #[.slice a cur.length cap]) (by simp [results, Tryz.results47, go_sem, k0]) rfl (HS9.out.done HLEN.out)
      · obtain ⟨g, rfl⟩ := HFO.out (by decide)
        have HB := Lib.hid (fun W' (h : DrO w c v l X cur.length g cap W') => below_any 5 c v l B W' h.below.1 (HR.out _ h.below.2) hB)
        have hs0 : DrO w c v l X cur.length g cap w9.drew := DrO.of HS9.out.drew
        go_wp2_with fail
        go_region_held3 (fun wx => wx.cell? ⟨X, 0, none⟩ = some (.slice (some ⟨g, 0, none⟩) cur.length cap) ∧ DrO w c v l X cur.length g cap wx)
          (exact DrO.all (by first | assumption | exact DrO.nil (by assumption) (by assumption)))
          (first | (go_at_call 48; refine (HB.out _ (by assumption)).mono ?_; rintro e w7 ⟨x, rfl, hx0, hx1, hc7, hg7⟩; obtain ⟨j, rfl⟩ := Int.eq_ofNat_of_zero_le hx0; (have hjl : j < cur.length := by have := hx1 (by decide); have := HLEN.out; omega); (have p1 : (0 : Int) ≤ (j : Int) := by omega); (have p2 : (j : Int) < (cur.length : Int) := by omega); (have hs7 : DrO w c v l X cur.length g cap w7 := DrO.grown (by assumption) hg7 hc7); obtain ⟨u, hu, hf⟩ := hs7.rcell hjl; (have HN := Lib.hid (hs7.nil hjl)); clear hx0 hx1 hc7 hg7))
        all_goals
          have z0 := (DrO.all HN.out).1
          obtain ⟨z1, z2⟩ := DrO.res HN.out
          go_wp2_with fail
          have k0 := World.cell?_setCell_same _ _ (.slice (some ⟨g, 0, none⟩) cur.length cap) z1
          refine bodyPost_ret (v := .agg #[.slice (some ⟨g, 0, none⟩) cur.length cap]) (by simp [results, Tryz.results47, go_sem, k0]) rfl (DrO.done HN.out HLEN.out)
end Go.Proofs.YteihnbnlfocgmaaGreatDoor.DbDraw
