/- How the laws draw tables and rows. -/
import Derived.Test.YtklamhnecncenaaLocDraw
import Derived.Test.YtklamhnecncenaaTabNew
namespace Go.Proofs.Ytklamhnecncenaa.TabDraw
open Go Go.RowKit Byt Ints IntsLaw IntsWalk Draw LocDraw Cd Rows2 Tab TabSpec

theorem list_cellsS (zs : List ByteArray) (w : World) (T : TypeId) : ∀ t, t < zs.length → (w.alloc (.cells (zs.map fun z => Value.string z).toArray T (0, 0))).cell? ⟨w.heap.size, t, none⟩ = some (.string (zs.getD t ⟨#[]⟩)) := by
  intro t ht
  rw [World.cell?_alloc_mark]
  simp [ht]

set_option maxRecDepth 100000 in
set_option maxHeartbeats 800000 in
theorem pickS_any (zs : List ByteArray) (b : Nat) (hzl : 0 < zs.length) (hz64 : zs.length ≤ 100000) (c : Nat) (v : Value) (l : List UInt8) (B : Nat) (w : World) (hc : Cur w c v l) (hr : Reads w v l B) (hB : B ≤ c)
    (hbc : b ≠ c) (hzs : ∀ t, t < zs.length → w.cell? ⟨b, t, none⟩ = some (.string (zs.getD t ⟨#[]⟩))) :
    Calls Try.prog 147 #[.pointer (some ⟨c, 0, none⟩), .slice (some ⟨b, 0, none⟩) zs.length zs.length] w fun e w' =>
      ∃ t, t < zs.length ∧ e = .returned (.string (zs.getD t ⟨#[]⟩)) ∧ Cur w' c v l ∧ w.grownBy w' (some c) := by
  have hby := Lib.hid (below_any zs.length c v l B w hc hr hB)
  have Hzs := Lib.hid hzs
  clear hzs
  go_enter Try.func147, Try.ntmps147
  go_wp2_with fail
  refine hby.out.mono ?_
  rintro e w1 ⟨x, rfl, hx0, hxn, hc1, hg1⟩
  obtain ⟨t, rfl⟩ := Int.eq_ofNat_of_zero_le hx0
  have hxn' := hxn (by omega)
  have ht : t < zs.length := by omega
  have hcell := hg1.cell (Hzs.out t ht) (by intro q; injection q with q; simp only at q; omega)
  clear hxn hxn'
  generalize hq : zs.getD t ⟨#[]⟩ = z at *
  have HQ := Lib.hid hq
  clear hq
  go_wp2_with fail
  go_ret
  exact ⟨t, ht, by rw [HQ.out]; rfl, hc1, hg1⟩

def zl3 : List Int := [0, -1, 10]
theorem zl3_ok : ∀ t : Fin 3, -9223372036854775808 ≤ zl3.getD t.val 0 ∧ zl3.getD t.val 0 ≤ 9223372036854775807 := by decide

theorem grown_below {w w' : World} (h : Below w.heap.size w w') (r : Option Nat) : w.grownBy w' r := ⟨h.os, h.tape, h.output, h.size, fun k hk _ => h.block k hk⟩
theorem loc_grown {w w' : World} {X c : Nat} {a b d : Value} (h : Loc3 w X a b d) (hg : w.grownBy w' (some c)) (hn : X ≠ c) : Loc3 w' X a b d :=
  h.keep (hg.block X h.lt (by intro q; injection q with q; exact hn q))
theorem ow_grown {α : Type} {cd : Cd α} {w w' : World} {base c : Nat} {us : List Value} {a : α} {fp : List Nat} (h : cd.ow w base us a fp) (hg : w.grownBy w' (some c)) (hc : c < base) : cd.ow w' base us a fp :=
  cd.ow_keep h fun b hb => hg.block b (cd.ow_lt h b hb).2 (by intro q; injection q with q; have := (cd.ow_lt h b hb).1; omega)

/-- A drawn table of at most M rows. -/
def TabGen (M : Nat) (w : World) (c : Nat) (v : Value) (l : List UInt8) (nm : ByteArray) (ar : Int) (e : Ending) (w' : World) : Prop :=
  ∃ (u : Value) (rows : List (List Int)) (fp : List Nat), e = .returned (.agg #[.string nm, .int .i64 ar, u]) ∧ rowsC.ow w' w.heap.size [u] rows fp ∧ fp.Nodup ∧ rowsWt rows ≤ 4 * M ∧ Cur w' c v l ∧ w.grownBy w' (some c)
/-- A drawn table. -/
def TabAns (w : World) (c : Nat) (v : Value) (l : List UInt8) (nm : ByteArray) (ar : Int) (e : Ending) (w' : World) : Prop :=
  ∃ (u : Value) (rows : List (List Int)) (fp : List Nat), e = .returned (.agg #[.string nm, .int .i64 ar, u]) ∧ rowsC.ow w' w.heap.size [u] rows fp ∧ fp.Nodup ∧ rowsWt rows ≤ 24 ∧ Cur w' c v l ∧ w.grownBy w' (some c)

set_option maxRecDepth 100000 in
set_option maxHeartbeats 3200000 in
theorem tab_gen (M V : Nat) (hM : M ≤ 8) (hV : 0 < V ∧ V ≤ 6) (nm : ByteArray) (ar : Nat) (har : ar ≤ 3) (c : Nat) (v : Value) (l : List UInt8) (B : Nat) (w : World) (hc : Cur w c v l) (hr : Reads w v l B) (hB : B ≤ c) :
    Calls Try.prog 118 #[.pointer (some ⟨c, 0, none⟩), .string nm, .int .i64 ar, .int .i64 M, .int .i64 V] w (TabGen M w c v l nm ar) := by
  have hM8 : (M : Int) ≤ 8 := by omega
  obtain ⟨hV0, hV6⟩ := hV
  have hV8 : (V : Int) ≤ 6 := by omega
  have hV9 : (0 : Int) < (V : Int) := by omega
  have hcs := cur_size hc
  have HR := Lib.hid (fun w' (hg : w.grownBy w' (some c)) => hr.later (below_of hg hB hcs))
  have HC := Lib.hid hc
  clear hc hr
  go_enter Try.func118, Try.ntmps118
  go_wp2_with fail
  generalize hW : (w.alloc _).alloc _ = W
  obtain ⟨r0, r1, hz, hb0⟩ := start2g w _ _ hW
  clear hW
  have hg0 := grown_below hb0 (some c)
  have hc0 := cur_below HC.out hb0 hcs
  have HG0 := Lib.hid hg0
  have HX0 := Lib.hid (And.intro (Loc3.of r0) (Loc3.of r1))
  have HB0 := Lib.hid (below_any ((M : Int) + 1) c v l B W hc0 (HR.out W hg0) hB)
  clear r0 r1 hb0 hg0 hc0
  refine HB0.out.mono ?_
  rintro e w2 ⟨x, rfl, hx0, hx7, hc2, hg2⟩
  obtain ⟨m0, rfl⟩ := Int.eq_ofNat_of_zero_le hx0
  have hm0 : m0 ≤ M := by have := hx7 (by omega); omega
  have HX2 := Lib.hid (And.intro (loc_grown HX0.out.1 hg2 (by omega)) (loc_grown HX0.out.2 hg2 (by omega)))
  have HZ2 := Lib.hid (show w.heap.size + 2 ≤ w2.heap.size by have := hg2.size; omega)
  have HG2 := Lib.hid (grown_trans HG0.out hg2)
  have HC2 := Lib.hid hc2
  clear hx0 hx7 hc2 hg2 HB0 HX0 HG0 hz
  go_wp2_with fail
  go_loopw [12, 13, 14] (fun n _ _ wr => ∃ (m : Nat) (o : Value) (rows : List (List Int)) (fp : List Nat), m ≤ M ∧ n = .int .i64 m ∧ rowsC.ow wr (w.heap.size + 2) [o] rows fp ∧ fp.Nodup ∧ rowsWt rows ≤ 4 * (M - m) ∧ Loc3 wr (w.heap.size + 1) (.string nm) (.int .i64 ar) o ∧ Loc3 wr w.heap.size (.string ⟨#[]⟩) (.int .i64 0) (.slice none 0 0) ∧ w.heap.size + 2 ≤ wr.heap.size ∧ Cur wr c v l ∧ w.grownBy wr (some c)) (fun n _ _ _ => (intOf n).toNat)
  case atStart => exact ⟨m0, .slice none 0 0, [], [], hm0, rfl, Cd.ow_nil _ _, by simp, by simp [rowsWt], HX2.out.2, HX2.out.1, HZ2.out, HC2.out, HG2.out⟩
  case round =>
    obtain ⟨m, o, rows, fp, hm, rfl, how, hnd, hwt, hx, hz0, hsz, hcw, hgw⟩ := hrel
    obtain ⟨wo, rfl⟩ : ∃ wo : World, wo = wr := ⟨_, rfl⟩
    have HOW := Lib.hid how
    have HND := Lib.hid hnd
    have HWT := Lib.hid hwt
    have HX := Lib.hid hx
    have HZ := Lib.hid hz0
    have HSZ := Lib.hid hsz
    have HCW := Lib.hid hcw
    have HGW := Lib.hid hgw
    clear how hnd hwt hx hz0 hsz hcw hgw
    by_cases hlt : 0 < m
    · have hlt' : (0 : Int) < (m : Int) := by omega
      have HA := Lib.hid (And.intro (OwnI.empty wo wo.heap.size 3 (Nat.le_refl _)) (And.intro (cur_allocI (.cells #[] 3) HCW.out) (World.grownBy_alloc wo (.cells #[] 3) (some c))))
      go_wp2_with fail
      go_loopw [13, 14] (fun q i wr => ∃ (k : Nat) (ls : List Int), k ≤ ar ∧ i = .int .i64 k ∧ OwnI wr wo.heap.size 3 q ls ∧ ls.length = k ∧ InR ls ∧ Cur wr c v l ∧ wo.grownBy wr (some c)) (fun _ i _ => ar - (intOf i).toNat)
      case atStart => exact ⟨0, [], Nat.zero_le _, rfl, HA.out.1, rfl, (fun x hx => by cases hx), HA.out.2.1, HA.out.2.2⟩
      case round =>
        obtain ⟨k, ls, hk, rfl, hown, hlen, hin, hc1, hg1⟩ := hrel
        have HG1 := Lib.hid hg1
        have HO := Lib.hid hown
        have HIN := Lib.hid hin
        have HC1 := Lib.hid hc1
        have hcso : c < wo.heap.size := by have := HSZ.out; omega
        clear hc1 hg1 hown hin
        by_cases hlt2 : k < ar
        · have HB := Lib.hid (below_any V c v l B wr HC1.out (HR.out wr (grown_trans HGW.out HG1.out)) hB)
          have hlt2' : (k : Int) < (ar : Int) := by omega
          go_wp2_with fail
          refine HB.out.mono ?_
          rintro e w2 ⟨x, rfl, hx0, hx5, hc2, hg2⟩
          have hx := hx5 hV9
          have hown2 := owni_kept HO.out hg2 hcso
          have HG2 := Lib.hid (grown_trans HG1.out hg2)
          have HC2 := Lib.hid hc2
          have hs2 : wo.heap.size ≤ w2.heap.size := HG2.out.size
          have hl2 : ls.length + 1 ≤ 1000000000000 := by omega
          have HIN2 := Lib.hid (inr_snoc HIN.out (x := x) ⟨by omega, by omega⟩)
          clear hg2 hc2 hx5
          go_wp2_with (at_builtin; refine wp_appendI rfl (.tmp 32) (.tmp 36) 24 rfl wo.heap.size 3 Try.underlying24 info_i64 _ ls rfl hown2 _ rfl hl2 hs2 ?_)
          intro v' w5 hown5 hb5
          go_wp2_with fail
          go_roundw
          case rel => exact ⟨k + 1, _, by omega, by go_num, hown5, by rw [List.length_append, hlen]; rfl, HIN2.out, cur_below HC2.out hb5 hcso, grown_own HG2.out hb5⟩
          case measure => simp [intOf]; omega
        · have ek : k = ar := by omega
          have HW2 := Lib.hid (ow_grown HOW.out HG1.out (by omega))
          have HX2 := Lib.hid (loc_grown HX.out HG1.out (by omega))
          have HZ2 := Lib.hid (loc_grown HZ.out HG1.out (by omega))
          have hx2 := HX2.out.c2
          have hlt2' : ¬ (k : Int) < (ar : Int) := by omega
          have hrd := Cd.reads (show rowC.ow _ _ _ _ _ from Cd.ow_of_own (e := 3) HO.out HIN.out)
          have HWL := Lib.hid (show ls.length ≤ 3 by omega)
          have HP := Lib.hid (spec_put o _ rows ls _ _ wr (Cd.reads HW2.out) hrd (by have := HWT.out; omega) (by have := HWL.out; omega))
          have HSZ2 := Lib.hid (show w.heap.size + 2 ≤ wr.heap.size by have := HSZ.out; have := HG1.out.size; omega)
          have HG3 := Lib.hid (grown_trans HGW.out HG1.out)
          clear hrd
          go_wp2_with fail
          refine HP.out.mono ?_
          rintro e w5 ⟨v5, fp5, rfl, ho5, hn5, hb5⟩
          obtain ⟨a5, c5, rfl⟩ := Cd.ow_slice ho5
          have HO5 := Lib.hid ho5
          have HN5 := Lib.hid hn5
          have HB5 := Lib.hid hb5
          have HX5 := Lib.hid (Loc3.later HX2.out hb5)
          have HZ5 := Lib.hid (Loc3.later HZ2.out hb5)
          have hx5 := HX5.out.c2
          have hf5 := HX5.out.f2
          clear ho5 hn5 hb5 hx2 HP
          go_wp2_with fail
          go_roundw
          case rel =>
            have hs5 := HB5.out.size
            have hs2 := HSZ2.out
            refine ⟨m - 1, _, putR rows ls, fp5, by omega, ?_, ?_, HN5.out, ?_, Loc3.set2 HX5.out _, Loc3.set_far HZ5.out (by show w.heap.size + 1 ≠ w.heap.size; omega) _, ?_, ?_, ?_⟩
            · go_num
            · exact ow_setCell (rowsC.ow_base HO5.out (by omega)) (fun q => by have := (rowsC.ow_lt HO5.out _ q).1; simp at this; omega) _
            · have := putR_wt rows ls; have := HWT.out; have := HWL.out; omega
            · show _ ≤ (w5.setCell _ _).heap.size; simp; omega
            · exact cur_farI _ (cur_below HC1.out HB5.out (by omega)) (by show c ≠ w.heap.size + 1; omega)
            · exact grown_newI _ (grown_own HG3.out (HB5.out.mono (by omega))) (by show w.heap.size ≤ w.heap.size + 1; omega)
          case measure => simp [intOf]; omega
    · have ek : m = 0 := by omega
      subst ek
      obtain ⟨ao, co, rfl⟩ := Cd.ow_slice HOW.out
      obtain ⟨p0, p1, p2, q0, q1, q2⟩ := HZ.out
      obtain ⟨x0, x1, x2, g0, g1, g2⟩ := HX.out
      go_wp2_with fail
      obtain ⟨k0, k1, k2⟩ := set3 (w := wo) (k := w.heap.size) (x := .string nm) (y := .int .i64 ar) (z := .slice ao rows.length co) p0 p1 p2
      refine bodyPost_ret (v := .agg #[.string nm, .int .i64 ar, .slice ao rows.length co]) (by simp [results, Try.results118, go_sem, k0, k1, k2]) rfl ⟨_, rows, fp, rfl, ?_, HND.out, by have := HWT.out; omega, ?_, ?_⟩
      · have hn : w.heap.size ∉ fp := fun q => by have h1 := (rowsC.ow_lt HOW.out _ q).1; omega
        exact ow_setCell (ow_setCell (ow_setCell (rowsC.ow_base HOW.out (by omega)) hn _) hn _) hn _
      · have hne : c ≠ w.heap.size := by omega
        exact cur_farI _ (cur_farI _ (cur_farI _ HCW.out hne) hne) hne
      · exact grown_newI _ (grown_newI _ (grown_newI _ HGW.out (Nat.le_refl _)) (Nat.le_refl _)) (Nat.le_refl _)
theorem tab_any (nm : ByteArray) (ar : Nat) (har : ar ≤ 3) (c : Nat) (v : Value) (l : List UInt8) (B : Nat) (w : World) (hc : Cur w c v l) (hr : Reads w v l B) (hB : B ≤ c) :
    Calls Try.prog 118 #[.pointer (some ⟨c, 0, none⟩), .string nm, .int .i64 ar, .int .i64 6, .int .i64 4] w (TabAns w c v l nm ar) :=
  tab_gen 6 4 (by decide) (by decide) nm ar har c v l B w hc hr hB
end Go.Proofs.Ytklamhnecncenaa.TabDraw
