/- Texts that the proof rests on, one behind the other. -/
import Derived.Test.YtdjgaffiildijaaGreatDbValid
import Derived.Test.YtdjgaffiildijaaGreatTabImp2
import Derived.Sort.Grow
import Derived.Deep.QuietTactic
import Derived.Test.YtdjgaffiildijaaGreatDbLook
import Derived.Test.YtdjgaffiildijaaGreatDbExact
import Derived.Maps.OwnSet
import Derived.Maps.RangeWalk
import Derived.Test.YtdjgaffiildijaaGreatTabCopy
import Derived.Laws.CopyOwn
import Derived.Test.YtdjgaffiildijaaGreatCdRoom
import Derived.Test.YtdjgaffiildijaaGreatExact
import Derived.Shelf.Small.Bits
import Derived.Shelf.Small.Wraps
import Derived.Shelf.Strconv.Itoa0
import Derived.Shelf.LaysM
import Derived.Shelf.Strconv.Clone
import Derived.Ground.Names2Prog
import Derived.Shelf.Slices.SearchI
import Derived.Ground.SlgnProg
import Derived.Shelf.SlicesE.Delete
import Derived.Ground.SlgfProg
import Derived.Shelf.SlicesE.IndexFunc
import Derived.Test.YtdjgaffiildijaaGreatProg
import Derived.Deep.RegionLaw
import Derived.Test.YtdjgaffiildijaaGreatDbAcc
import Derived.Shelf.SlSortCmp.WholeK
import Derived.Ground.SlsfProg
import Derived.Test.YtdjgaffiildijaaGreatCdCut

namespace Go.Proofs.YtdjgaffiildijaaGreat.DbImp
open Go Go.RowKit Byt Ints IntsLaw Cd Rows2 Tab SlMath TabOpen TabElem SlTable Db TabSpec DbMath DbSpec TabImp

def cmpN (a b : ByteArray) : Int := if ltB a b then -1 else if ltB b a then 1 else 0
theorem cmpN_lt (a b : ByteArray) : cmpN a b < 0 ↔ ltB a b = true := by
  unfold cmpN
  split
  · rename_i h; simp [h]
  · rename_i h
    split <;> simp [h]
theorem gtr_eq (a b : ByteArray) (h : ltB a b = false) : (!(ltB a b || a.toList == b.toList)) = ltB b a := by
  rw [h, eqB]
  by_cases e : a = b
  · subst e; rw [ltB_irrefl]; simp
  · rw [decide_eq_false e]
    cases k : ltB b a
    · exact absurd (ltB_tri h k) e
    · rfl
theorem less_eq (a b : ByteArray) : Op.bytesLess a.toList b.toList = ltB a b := rfl
theorem nan_str (a : ByteArray) (w : World) : Calls Tryz.prog 79 #[.string a] w fun e w' => e = .returned (.bool false) ∧ w = w' := by
  go_enter Tryz.func79, Tryz.ntmps79
  go_wp2_with fail
  go_ret
  exact ⟨by simp, rfl⟩
set_option maxRecDepth 100000 in
theorem cmp_str (a b : ByteArray) (w : World) : Calls Tryz.prog 74 #[.string a, .string b] w fun e w' => e = .returned (.int .i64 (cmpN a b)) ∧ w = w' := by
  cases h : ltB a b
  · have hg := gtr_eq a b h
    have HC := Lib.hid (show cmpN a b = if ltB b a then 1 else 0 by unfold cmpN; rw [h]; rfl)
    rw [h] at hg
    have h' : Op.bytesLess a.toList b.toList = false := h
    cases k : ltB b a
    · rw [k] at hg HC
      have hg' : (a.toList == b.toList) = true := by simpa using hg
      clear hg h
      go_enter Tryz.func74, Tryz.ntmps74
      go_wp2_with (first | (go_at_call 79; refine (nan_str _ _).mono ?_; rintro e w' ⟨rfl, rfl⟩))
      go_ret
      exact ⟨by rw [HC.out]; rfl, rfl⟩
    · rw [k] at hg HC
      have hg' : (a.toList == b.toList) = false := by simpa using hg
      clear hg h
      go_enter Tryz.func74, Tryz.ntmps74
      go_wp2_with (first | (go_at_call 79; refine (nan_str _ _).mono ?_; rintro e w' ⟨rfl, rfl⟩))
      go_ret
      exact ⟨by rw [HC.out]; rfl, rfl⟩
  · have HC := Lib.hid (show cmpN a b = -1 by unfold cmpN; rw [h]; rfl)
    have h' : Op.bytesLess a.toList b.toList = true := h
    clear h
    go_enter Tryz.func74, Tryz.ntmps74
    go_wp2_with (first | (go_at_call 79; refine (nan_str _ _).mono ?_; rintro e w' ⟨rfl, rfl⟩))
    go_ret
    exact ⟨by rw [HC.out]; rfl, rfl⟩
theorem grow_two (w : World) (o1 o2 : Obj) : (w.alloc o1).alloc o2 = Sort.grow w #[o1, o2] := by
  show ({ w with heap := (w.heap.push o1).push o2 } : World) = { w with heap := w.heap ++ #[o1, o2] }
  rw [show (w.heap.push o1).push o2 = w.heap ++ #[o1, o2] by apply Array.ext'; simp]
set_option maxRecDepth 100000 in
theorem cmp_names (a b : ByteArray) (y z y' z' : Value) (w : World) : Calls Tryz.prog 66 #[.agg #[.string a, y, z], .agg #[.string b, y', z']] w fun e w' => e = .returned (.int .i64 (cmpN a b)) ∧ ∃ os, w' = Sort.grow w os := by
  have HC := Lib.hid (fun w' => cmp_str a b w')
  go_enter Tryz.func66, Tryz.ntmps66
  go_wp2_with fail
  refine (HC.out _).mono ?_
  rintro e w' ⟨rfl, rfl⟩
  go_wp2_with fail
  go_ret
  exact ⟨rfl, #[_, _], grow_two w _ _⟩
theorem below_grow (w : World) (os : Array Obj) : Below w.heap.size w (Sort.grow w os) :=
  ⟨rfl, rfl, rfl, by show _ ≤ (w.heap ++ os).size; rw [Array.size_append]; omega, fun k hk => by show (w.heap ++ os)[k]? = w.heap[k]?; rw [Array.getElem?_append_left hk]⟩
theorem val_elem_i (us : List Value) (T : T3) (S : Nat → Prop) (w : World) (hu : tabC.rd w S us T) :
    Calls Tryz.prog 54 #[.agg us.toArray] w fun e w' => e = .returned (.bool (okT T)) ∧ Below w.heap.size w w' := by
  obtain ⟨u, rfl, _, _, h3⟩ := tab_cells hu
  exact impl_valid T.1 T.2.1 u T.2.2 S w h3
set_option maxRecDepth 100000 in
set_option maxHeartbeats 1600000 in
theorem impl_dbok (u : Value) (l : List T3) (S : Nat → Prop) (w : World) (h1 : tabsC.rd w S [u] l) :
    Calls Tryz.prog 53 #[.agg #[u]] w fun e w' => e = .returned (.bool (dbOk l)) ∧ Below w.heap.size w w' := by
  have HR1 := Lib.hid (fun w' (hb : Below w.heap.size w w') => Cd.later h1 hb)
  obtain ⟨a1, cap1, rfl, hl1⟩ := Cd.sl_form h1
  clear h1
  by_cases h6 : 6 < l.length
  · have HZ := Lib.hid (show dbOk l = false from dbOk_no.2 fun q => by have := q.1; omega)
    have h6' : ((6 : Int) < (l.length : Int)) = True := by simp only [eq_iff_iff, iff_true]; omega
    go_enter Tryz.func53, Tryz.ntmps53
    go_wp2_with fail
    go_ret
    exact ⟨DbSpec.ret_b HZ.out.symm, below_alloc _ _⟩
  have H6 := Lib.hid (show l.length ≤ 6 by omega)
  have h6' : ((6 : Int) < (l.length : Int)) = False := by simp only [eq_iff_iff, iff_false]; omega
  go_enter Tryz.func53, Tryz.ntmps53
  go_wp2_with fail
  generalize hW : w.alloc _ = W
  obtain ⟨r0, hz, hb0⟩ := start1 w _ hW
  have HC0 := Lib.hid (row1 r0).1
  have HLT0 := Lib.hid (show w.heap.size < W.heap.size by omega)
  have HB0 := Lib.hid hb0
  clear hW r0 hz hb0
  go_loopw [12] (fun i wr => ∃ k : Nat, k ≤ l.length ∧ i = .int .i64 k ∧ (∀ T ∈ l.take k, okT T = true) ∧ AscP (l.take k) ∧ Below W.heap.size W wr) (fun i _ => l.length - (intOf i).toNat)
  case atStart => exact ⟨0, Nat.zero_le _, rfl, by simp, by simp [AscP], Below.refl _ _⟩
  case round =>
    obtain ⟨k, hk, rfl, hok, has, hb⟩ := hrel
    have x0 := (hb.cell (p := ⟨w.heap.size, 0, none⟩) HLT0.out).trans HC0.out
    have HOK := Lib.hid hok
    have HAS := Lib.hid has
    have HBW := Lib.hid (below_then HB0.out hb)
    have HWR := Lib.hid hb
    have HX0 := Lib.hid (And.intro x0 (World.block_lt_of_cell? _ _ x0))
    clear hok has
    by_cases hlt : k < l.length
    · obtain ⟨b, off, cap', us, e1, _, hbB, hat, hu⟩ := Cd.sl_at (HR1.out wr HBW.out) hlt
      injection e1 with e1 e2 e3
      subst e1 e3
      obtain ⟨x, y, z, rfl⟩ := len_list (tabC.len hu)
      have p0 := hat 0 (by simp)
      have p1 := hat 1 (by simp)
      have p2 := hat 2 (by simp)
      simp only [List.getElem_cons_zero, List.getElem_cons_succ, Nat.add_zero, show tabC.n = 3 from rfl] at p0 p1 p2
      obtain ⟨nk, hnk⟩ : ∃ nk, nk = (l[k]).1 := ⟨_, rfl⟩
      obtain rfl : x = .string nk := by rw [hnk]; exact name_cell hu
      obtain ⟨rk, hrk⟩ : ∃ rk, rk = (l[k]).2.1 := ⟨_, rfl⟩
      obtain ⟨qk, hqk⟩ : ∃ qk, qk = (l[k]).2.2.length := ⟨_, rfl⟩
      obtain ⟨ak, ck, hsh⟩ : ∃ a c, [y, z] = [.int .i64 rk, .slice a qk c] := by
        obtain ⟨u, e, _, _, h3⟩ := tab_cells hu
        obtain ⟨a, c, rfl, _⟩ := rows_form h3
        injection e with _ e
        exact ⟨a, c, by rw [hrk, hqk]; exact e⟩
      injection hsh with hy hsh
      injection hsh with hzz
      subst hy hzz
      have HNK := Lib.hid hnk
      have HE := Lib.hid (fun w' (hq : LaterD wr w') => val_elem_i [.string nk, .int .i64 rk, .slice ak qk ck] l[k] _ w' (Cd.later hu hq))
      have HBB := Lib.hid hbB
      have i1 : (0 : Int) ≤ (k : Int) := by omega
      have i2 : (k : Int) < (l.length : Int) := by omega
      clear hnk hu hat hbB e2 hrk hqk
      go_upto_region 6 with fail
      generalize hg : World.alloc wr _ = w1
      obtain ⟨rg, zg, hbg⟩ := start1 wr _ hg
      have HBG := Lib.hid hbg
      obtain ⟨g0, g1, g2, _, _, _⟩ := row3 rg
      have n0 := (hbg.cell (p := ⟨w.heap.size, 0, none⟩) HX0.out.2).trans HX0.out.1
      have HG := Lib.hid (And.intro n0 (And.intro g0 (And.intro g1 g2)))
      have HGL := Lib.hid (show w.heap.size < w1.heap.size ∧ wr.heap.size < w1.heap.size ∧ b < w1.heap.size from ⟨by have := HX0.out.2; have := hbg.size; simp only at *; omega, by omega, by have := HBB.out; have := hbg.size; omega⟩)
      have kk : LaterD w1 w1.drew := drewD (Below.refl _ w1)
      have kw : LaterD wr w1.drew := drewD hbg
      clear hg rg zg hbg x0 p0 p1 p2
      cases hT : okT l[k]
      · rw [hT] at HE
        have HZ := Lib.hid (show dbOk l = false from dbOk_no.2 fun q => by have := q.2.1 _ (List.getElem_mem hlt); rw [hT] at this; cases this)
        clear hT
        refine wp_region_held_drew (S := fun wx => wx.cell? ⟨w.heap.size, 0, none⟩ = some (.slice (some ⟨b, off, none⟩) l.length cap1) ∧ wx.cell? ⟨wr.heap.size, 0, none⟩ = some (.string nk) ∧ wx.cell? ⟨wr.heap.size, 1, none⟩ = some (.int .i64 rk) ∧ wx.cell? ⟨wr.heap.size, 2, none⟩ = some (.slice ak qk ck) ∧ LaterD w1 wx) (by kernel_rfl) ?_ (fun hHeld => ?_)
        · (refine ⟨?_, ?_, ?_, ?_, ?_⟩ <;> first | assumption | (simp [*]; done))
        refine RegH.takeH (i := 0) (v := ?_) rfl (by kernel_rfl) (by kernel_rfl) (by kernel_rfl) (fun _ _ _ h => h) (Or.inl ⟨by rfl, ?_⟩) (by assumption) ?_
        rotate_left
        · (intro wS hSw; (try dsimp only at hSw); go_simp; try (with_reducible rfl))
        try simp only [Act.put, List.setIfInBounds_toArray, List.set_cons_zero, List.set_cons_succ]
        refine RegH.consH (i := 1) rfl (by kernel_rfl) (fun K hK => ?_)
        go_simp
        go_at_call 54
        refine (HE.out _ kw).mono ?_
        rintro e wq ⟨rfl, hbq⟩
        have kq : LaterD w1 wq := below_then (show Below w1.heap.size w1 w1.drew from kk) hbq
        have n0 := (Below.cell kq (p := ⟨w.heap.size, 0, none⟩) HGL.out.1).trans HG.out.1
        have n1 := (Below.cell kq (p := ⟨wr.heap.size, 0, none⟩) HGL.out.2.1).trans HG.out.2.1
        have n2 := (Below.cell kq (p := ⟨wr.heap.size, 1, none⟩) HGL.out.2.1).trans HG.out.2.2.1
        have n3 := (Below.cell kq (p := ⟨wr.heap.size, 2, none⟩) HGL.out.2.1).trans HG.out.2.2.2
        clear hbq
        go_wp2_with fail
        refine hK.out _ _ ?_ (fun hHeld => ?_)
        · (refine ⟨?_, ?_, ?_, ?_, ?_⟩ <;> first | assumption | (simp [*]; done))
        clear hK K
        try simp only [Act.put, List.setIfInBounds_toArray, List.set_cons_zero, List.set_cons_succ]
        refine RegH.takeH (i := 2) (v := ?_) rfl (by kernel_rfl) (by kernel_rfl) (by kernel_rfl) (fun _ _ _ h => h) (Or.inl ⟨by rfl, ?_⟩) (by assumption) ?_
        rotate_left
        · (intro wS hSw; (try dsimp only at hSw); go_simp; try (with_reducible rfl))
        try simp only [Act.put, List.setIfInBounds_toArray, List.set_cons_zero, List.set_cons_succ]
        refine RegH.takeH (i := 3) (v := ?_) rfl (by kernel_rfl) (by kernel_rfl) (by kernel_rfl) (fun _ _ _ h => h) (Or.inl ⟨by rfl, ?_⟩) (by assumption) ?_
        rotate_left
        · (intro wS hSw; (try dsimp only at hSw); go_simp; try (with_reducible rfl))
        try simp only [Act.put, List.setIfInBounds_toArray, List.set_cons_zero, List.set_cons_succ]
        refine RegH.takeH (i := 4) rfl (by kernel_rfl) (by kernel_rfl) (by kernel_rfl) (fun _ _ _ h => h) (Or.inr ⟨by rfl, rfl⟩) (by assumption) ?_
        try simp only [Act.put, List.setIfInBounds_toArray, List.set_cons_zero, List.set_cons_succ]
        refine RegH.takeH (i := 5) rfl (by kernel_rfl) (by kernel_rfl) (by kernel_rfl) (fun _ _ _ h => h) (Or.inr ⟨by rfl, rfl⟩) (by assumption) ?_
        try simp only [Act.put, List.setIfInBounds_toArray, List.set_cons_zero, List.set_cons_succ]
        refine RegH.takeH (i := 6) rfl (by kernel_rfl) (by kernel_rfl) (by kernel_rfl) (fun _ _ _ h => h) (Or.inr ⟨by rfl, rfl⟩) (by assumption) ?_
        try simp only [Act.put, List.setIfInBounds_toArray, List.set_cons_zero, List.set_cons_succ]
        refine RegH.takeH (i := 7) rfl (by kernel_rfl) (by kernel_rfl) (by kernel_rfl) (fun _ _ _ h => h) (Or.inr ⟨by rfl, rfl⟩) (by assumption) ?_
        try simp only [Act.put, List.setIfInBounds_toArray, List.set_cons_zero, List.set_cons_succ]
        refine RegH.takeH (i := 8) rfl (by kernel_rfl) (by kernel_rfl) (by kernel_rfl) (fun _ _ _ h => h) (Or.inr ⟨by rfl, rfl⟩) (by assumption) ?_
        try simp only [Act.put, List.setIfInBounds_toArray, List.set_cons_zero, List.set_cons_succ]
        refine RegH.takeH (i := 9) rfl (by kernel_rfl) (by kernel_rfl) (by kernel_rfl) (fun _ _ _ h => h) (Or.inr ⟨by rfl, rfl⟩) (by assumption) ?_
        try simp only [Act.put, List.setIfInBounds_toArray, List.set_cons_zero, List.set_cons_succ]
        refine RegH.takeH (i := 10) rfl (by kernel_rfl) (by kernel_rfl) (by kernel_rfl) (fun _ _ _ h => h) (Or.inr ⟨by rfl, rfl⟩) (by assumption) ?_
        try simp only [Act.put, List.setIfInBounds_toArray, List.set_cons_zero, List.set_cons_succ]
        refine RegH.takeH (i := 11) rfl (by kernel_rfl) (by kernel_rfl) (by kernel_rfl) (fun _ _ _ h => h) (Or.inr ⟨by rfl, rfl⟩) (by assumption) ?_
        try simp only [Act.put, List.setIfInBounds_toArray, List.set_cons_zero, List.set_cons_succ]
        refine RegH.takeH (i := 12) rfl (by kernel_rfl) (by kernel_rfl) (by kernel_rfl) (fun _ _ _ h => h) (Or.inr ⟨by rfl, rfl⟩) (by assumption) ?_
        try simp only [Act.put, List.setIfInBounds_toArray, List.set_cons_zero, List.set_cons_succ]
        refine RegH.takeH (i := 13) rfl (by kernel_rfl) (by kernel_rfl) (by kernel_rfl) (fun _ _ _ h => h) (Or.inr ⟨by rfl, rfl⟩) (by assumption) ?_
        try simp only [Act.put, List.setIfInBounds_toArray, List.set_cons_zero, List.set_cons_succ]
        refine RegH.takeH (i := 14) rfl (by kernel_rfl) (by kernel_rfl) (by kernel_rfl) (fun _ _ _ h => h) (Or.inr ⟨by rfl, rfl⟩) (by assumption) ?_
        try simp only [Act.put, List.setIfInBounds_toArray, List.set_cons_zero, List.set_cons_succ]
        refine RegH.takeH (i := 15) rfl (by kernel_rfl) (by kernel_rfl) (by kernel_rfl) (fun _ _ _ h => h) (Or.inr ⟨by rfl, rfl⟩) (by assumption) ?_
        try simp only [Act.put, List.setIfInBounds_toArray, List.set_cons_zero, List.set_cons_succ]
        refine RegH.takeH (i := 16) rfl (by kernel_rfl) (by kernel_rfl) (by kernel_rfl) (fun _ _ _ h => h) (Or.inr ⟨by rfl, rfl⟩) (by assumption) ?_
        try simp only [Act.put, List.setIfInBounds_toArray, List.set_cons_zero, List.set_cons_succ]
        refine RegH.takeH (i := 17) (v := ?_) rfl (by kernel_rfl) (by kernel_rfl) (by kernel_rfl) (fun _ _ _ h => h) (Or.inl ⟨by rfl, ?_⟩) (by assumption) ?_
        rotate_left
        · (intro wS hSw; (try dsimp only at hSw); go_simp; try (with_reducible rfl))
        try simp only [Act.put, List.setIfInBounds_toArray, List.set_cons_zero, List.set_cons_succ]
        refine wpAnyH_done (by kernel_rfl) ?_ _
        go_wp2_with fail
        go_ret
        exact ⟨DbSpec.ret_b HZ.out.symm, below_then HBW.out (below_then (show Below wr.heap.size wr w1 from HBG.out) (show Below w1.heap.size w1 wq from kq))⟩
      · rw [hT] at HE
        have HN1 := Lib.hid (ok_more HOK.out hlt hT)
        clear hT
        by_cases hk0 : k = 0
        · have hg1 : ((0 : Int) < (k : Int)) = False := by simp only [eq_iff_iff, iff_false]; omega
          have hg2 : (0 < k) = False := by simp only [eq_iff_iff, iff_false]; omega
          have HN2 := Lib.hid (asc_more HAS.out hlt (fun j e _ => by omega))
          clear hk0
          refine wp_region_held_drew (S := fun wx => wx.cell? ⟨w.heap.size, 0, none⟩ = some (.slice (some ⟨b, off, none⟩) l.length cap1) ∧ wx.cell? ⟨wr.heap.size, 0, none⟩ = some (.string nk) ∧ wx.cell? ⟨wr.heap.size, 1, none⟩ = some (.int .i64 rk) ∧ wx.cell? ⟨wr.heap.size, 2, none⟩ = some (.slice ak qk ck) ∧ LaterD w1 wx) (by kernel_rfl) ?_ (fun hHeld => ?_)
          · (refine ⟨?_, ?_, ?_, ?_, ?_⟩ <;> first | assumption | (simp [*]; done))
          refine RegH.takeH (i := 0) (v := ?_) rfl (by kernel_rfl) (by kernel_rfl) (by kernel_rfl) (fun _ _ _ h => h) (Or.inl ⟨by rfl, ?_⟩) (by assumption) ?_
          rotate_left
          · (intro wS hSw; (try dsimp only at hSw); go_simp; try (with_reducible rfl))
          try simp only [Act.put, List.setIfInBounds_toArray, List.set_cons_zero, List.set_cons_succ]
          refine RegH.consH (i := 1) rfl (by kernel_rfl) (fun K hK => ?_)
          go_simp
          go_at_call 54
          refine (HE.out _ kw).mono ?_
          rintro e wq ⟨rfl, hbq⟩
          have kq : LaterD w1 wq := below_then (show Below w1.heap.size w1 w1.drew from kk) hbq
          have n0 := (Below.cell kq (p := ⟨w.heap.size, 0, none⟩) HGL.out.1).trans HG.out.1
          have n1 := (Below.cell kq (p := ⟨wr.heap.size, 0, none⟩) HGL.out.2.1).trans HG.out.2.1
          have n2 := (Below.cell kq (p := ⟨wr.heap.size, 1, none⟩) HGL.out.2.1).trans HG.out.2.2.1
          have n3 := (Below.cell kq (p := ⟨wr.heap.size, 2, none⟩) HGL.out.2.1).trans HG.out.2.2.2
          clear hbq
          go_wp2_with fail
          refine hK.out _ _ ?_ (fun hHeld => ?_)
          · (refine ⟨?_, ?_, ?_, ?_, ?_⟩ <;> first | assumption | (simp [*]; done))
          clear hK K
          try simp only [Act.put, List.setIfInBounds_toArray, List.set_cons_zero, List.set_cons_succ]
          refine RegH.takeH (i := 2) (v := ?_) rfl (by kernel_rfl) (by kernel_rfl) (by kernel_rfl) (fun _ _ _ h => h) (Or.inl ⟨by rfl, ?_⟩) (by assumption) ?_
          rotate_left
          · (intro wS hSw; (try dsimp only at hSw); go_simp; try (with_reducible rfl))
          try simp only [Act.put, List.setIfInBounds_toArray, List.set_cons_zero, List.set_cons_succ]
          refine RegH.takeH (i := 3) (v := ?_) rfl (by kernel_rfl) (by kernel_rfl) (by kernel_rfl) (fun _ _ _ h => h) (Or.inl ⟨by rfl, ?_⟩) (by assumption) ?_
          rotate_left
          · (intro wS hSw; (try dsimp only at hSw); go_simp; try (with_reducible rfl))
          try simp only [Act.put, List.setIfInBounds_toArray, List.set_cons_zero, List.set_cons_succ]
          refine RegH.takeH (i := 4) (v := ?_) rfl (by kernel_rfl) (by kernel_rfl) (by kernel_rfl) (fun _ _ _ h => h) (Or.inl ⟨by rfl, ?_⟩) (by assumption) ?_
          rotate_left
          · (intro wS hSw; (try dsimp only at hSw); go_simp; try (with_reducible rfl))
          try simp only [Act.put, List.setIfInBounds_toArray, List.set_cons_zero, List.set_cons_succ]
          refine RegH.takeH (i := 5) (v := ?_) rfl (by kernel_rfl) (by kernel_rfl) (by kernel_rfl) (fun _ _ _ h => h) (Or.inl ⟨by rfl, ?_⟩) (by assumption) ?_
          rotate_left
          · (intro wS hSw; (try dsimp only at hSw); go_simp; try (with_reducible rfl))
          try simp only [Act.put, List.setIfInBounds_toArray, List.set_cons_zero, List.set_cons_succ]
          refine RegH.takeH (i := 6) (v := ?_) rfl (by kernel_rfl) (by kernel_rfl) (by kernel_rfl) (fun _ _ _ h => h) (Or.inl ⟨by rfl, ?_⟩) (by assumption) ?_
          rotate_left
          · (intro wS hSw; (try dsimp only at hSw); go_simp; try (with_reducible rfl))
          try simp only [Act.put, List.setIfInBounds_toArray, List.set_cons_zero, List.set_cons_succ]
          refine RegH.takeH (i := 7) rfl (by kernel_rfl) (by kernel_rfl) (by kernel_rfl) (fun _ _ _ h => h) (Or.inr ⟨by rfl, rfl⟩) (by assumption) ?_
          try simp only [Act.put, List.setIfInBounds_toArray, List.set_cons_zero, List.set_cons_succ]
          refine RegH.takeH (i := 8) rfl (by kernel_rfl) (by kernel_rfl) (by kernel_rfl) (fun _ _ _ h => h) (Or.inr ⟨by rfl, rfl⟩) (by assumption) ?_
          try simp only [Act.put, List.setIfInBounds_toArray, List.set_cons_zero, List.set_cons_succ]
          refine RegH.takeH (i := 9) rfl (by kernel_rfl) (by kernel_rfl) (by kernel_rfl) (fun _ _ _ h => h) (Or.inr ⟨by rfl, rfl⟩) (by assumption) ?_
          try simp only [Act.put, List.setIfInBounds_toArray, List.set_cons_zero, List.set_cons_succ]
          refine RegH.takeH (i := 10) rfl (by kernel_rfl) (by kernel_rfl) (by kernel_rfl) (fun _ _ _ h => h) (Or.inr ⟨by rfl, rfl⟩) (by assumption) ?_
          try simp only [Act.put, List.setIfInBounds_toArray, List.set_cons_zero, List.set_cons_succ]
          refine RegH.takeH (i := 11) rfl (by kernel_rfl) (by kernel_rfl) (by kernel_rfl) (fun _ _ _ h => h) (Or.inr ⟨by rfl, rfl⟩) (by assumption) ?_
          try simp only [Act.put, List.setIfInBounds_toArray, List.set_cons_zero, List.set_cons_succ]
          refine RegH.takeH (i := 12) rfl (by kernel_rfl) (by kernel_rfl) (by kernel_rfl) (fun _ _ _ h => h) (Or.inr ⟨by rfl, rfl⟩) (by assumption) ?_
          try simp only [Act.put, List.setIfInBounds_toArray, List.set_cons_zero, List.set_cons_succ]
          refine RegH.takeH (i := 13) rfl (by kernel_rfl) (by kernel_rfl) (by kernel_rfl) (fun _ _ _ h => h) (Or.inr ⟨by rfl, rfl⟩) (by assumption) ?_
          try simp only [Act.put, List.setIfInBounds_toArray, List.set_cons_zero, List.set_cons_succ]
          refine RegH.takeH (i := 14) rfl (by kernel_rfl) (by kernel_rfl) (by kernel_rfl) (fun _ _ _ h => h) (Or.inr ⟨by rfl, rfl⟩) (by assumption) ?_
          try simp only [Act.put, List.setIfInBounds_toArray, List.set_cons_zero, List.set_cons_succ]
          refine RegH.takeH (i := 15) rfl (by kernel_rfl) (by kernel_rfl) (by kernel_rfl) (fun _ _ _ h => h) (Or.inr ⟨by rfl, rfl⟩) (by assumption) ?_
          try simp only [Act.put, List.setIfInBounds_toArray, List.set_cons_zero, List.set_cons_succ]
          refine RegH.takeH (i := 16) (v := ?_) rfl (by kernel_rfl) (by kernel_rfl) (by kernel_rfl) (fun _ _ _ h => h) (Or.inl ⟨by rfl, ?_⟩) (by assumption) ?_
          rotate_left
          · (intro wS hSw; (try dsimp only at hSw); go_simp; try (with_reducible rfl))
          try simp only [Act.put, List.setIfInBounds_toArray, List.set_cons_zero, List.set_cons_succ]
          refine RegH.takeH (i := 17) (v := ?_) rfl (by kernel_rfl) (by kernel_rfl) (by kernel_rfl) (fun _ _ _ h => h) (Or.inl ⟨by rfl, ?_⟩) (by assumption) ?_
          rotate_left
          · (intro wS hSw; (try dsimp only at hSw); go_simp; try (with_reducible rfl))
          try simp only [Act.put, List.setIfInBounds_toArray, List.set_cons_zero, List.set_cons_succ]
          refine wpAnyH_done (by kernel_rfl) ?_ _
          go_wp2_with fail
          go_roundw
          case rel => exact ⟨k + 1, by omega, by go_num, HN1.out, HN2.out, below_then HWR.out (below_then (show Below wr.heap.size wr w1 from HBG.out) (show Below w1.heap.size w1 wq from kq))⟩
          case measure => simp [intOf]; omega
        · have hg1 : ((0 : Int) < (k : Int)) = True := by simp only [eq_iff_iff, iff_true]; omega
          have hg2 : (0 < k) = True := by simp only [eq_iff_iff, iff_true]; omega
          obtain ⟨j, hj⟩ : ∃ j, k = j + 1 := ⟨k - 1, by omega⟩
          have hjl : j < l.length := by omega
          obtain ⟨b', off', cap'', vs, e1, _, _, hat, hu⟩ := Cd.sl_at (HR1.out w1 (below_then HBW.out HBG.out)) hjl
          injection e1 with e1 g1 g2
          injection e1 with e1
          injection e1 with e1 e2
          subst e1 e2
          clear g1 g2
          obtain ⟨x', y', z', rfl⟩ := len_list (tabC.len hu)
          have q0 := hat 0 (by simp)
          have q1 := hat 1 (by simp)
          have q2 := hat 2 (by simp)
          simp only [List.getElem_cons_zero, List.getElem_cons_succ, Nat.add_zero, show tabC.n = 3 from rfl] at q0 q1 q2
          obtain ⟨nj, hnj⟩ : ∃ nj, nj = (l[j]).1 := ⟨_, rfl⟩
          obtain rfl : x' = .string nj := by rw [hnj]; exact name_cell hu
          obtain ⟨rj, hrj⟩ : ∃ rj, rj = (l[j]).2.1 := ⟨_, rfl⟩
          obtain ⟨qj, hqj⟩ : ∃ qj, qj = (l[j]).2.2.length := ⟨_, rfl⟩
          obtain ⟨aj, cj, hsh⟩ : ∃ a c, [y', z'] = [.int .i64 rj, .slice a qj c] := by
            obtain ⟨u, e, _, _, h3⟩ := tab_cells hu
            obtain ⟨a, c, rfl, _⟩ := rows_form h3
            injection e with _ e
            exact ⟨a, c, by rw [hrj, hqj]; exact e⟩
          injection hsh with hy hsh
          injection hsh with hzz
          subst hy hzz
          have HQ := Lib.hid (And.intro q0 (And.intro q1 q2))
          have HNJ := Lib.hid (show nj = (l[j]).1 from hnj)
          have j1 : (k : Int) - 1 = (j : Int) := by omega
          have j2 : IntKind.i64.wrap (j : Int) = (j : Int) := by rw [IntKind.wrap_i64]; omega
          have j3 : (0 : Int) ≤ (j : Int) := by omega
          have j4 : (j : Int) < (l.length : Int) := by omega
          have HJ := Lib.hid hj
          have q0' : w1.drew.cell? ⟨b, off + j * 3, none⟩ = some (.string nj) := q0
          have q1' : w1.drew.cell? ⟨b, off + j * 3 + 1, none⟩ = some (.int .i64 rj) := q1
          have q2' : w1.drew.cell? ⟨b, off + j * 3 + 2, none⟩ = some (.slice aj qj cj) := q2
          clear hat hu hk0 hnj hj hrj hqj
          cases hlt2 : ltB nj nk
          · have HZ := Lib.hid (show dbOk l = false from dbOk_no.2 fun q => by have e := HJ.out; subst e; have := asc_at q.2.2 hlt; rw [← HNJ.out, ← HNK.out, hlt2] at this; cases this)
            obtain ⟨c, hc, hc0⟩ : ∃ c, cmpN nj nk = c ∧ (0 ≤ c) = True := ⟨_, rfl, by simp only [eq_iff_iff, iff_true]; have := cmpN_lt nj nk; rw [hlt2] at this; simp at this; exact this⟩
            have HCN := Lib.hid hc
            clear hc
            refine wp_region_held_drew (S := fun wx => wx.cell? ⟨w.heap.size, 0, none⟩ = some (.slice (some ⟨b, off, none⟩) l.length cap1) ∧ wx.cell? ⟨wr.heap.size, 0, none⟩ = some (.string nk) ∧ wx.cell? ⟨wr.heap.size, 1, none⟩ = some (.int .i64 rk) ∧ wx.cell? ⟨wr.heap.size, 2, none⟩ = some (.slice ak qk ck) ∧ wx.cell? ⟨b, off + j * 3, none⟩ = some (.string nj) ∧ wx.cell? ⟨b, off + j * 3 + 1, none⟩ = some (.int .i64 rj) ∧ wx.cell? ⟨b, off + j * 3 + 2, none⟩ = some (.slice aj qj cj) ∧ LaterD w1 wx) (by kernel_rfl) ?_ (fun hHeld => ?_)
            · (refine ⟨?_, ?_, ?_, ?_, ?_, ?_, ?_, ?_⟩ <;> first | assumption | (simp [*]; done))
            refine RegH.takeH (i := 0) (v := ?_) rfl (by kernel_rfl) (by kernel_rfl) (by kernel_rfl) (fun _ _ _ h => h) (Or.inl ⟨by rfl, ?_⟩) (by assumption) ?_
            rotate_left
            · (intro wS hSw; (try dsimp only at hSw); go_simp; try (with_reducible rfl))
            try simp only [Act.put, List.setIfInBounds_toArray, List.set_cons_zero, List.set_cons_succ]
            refine RegH.consH (i := 1) rfl (by kernel_rfl) (fun K hK => ?_)
            go_simp
            go_at_call 54
            refine (HE.out _ kw).mono ?_
            rintro e wq ⟨rfl, hbq⟩
            have kq : LaterD w1 wq := below_then (show Below w1.heap.size w1 w1.drew from kk) hbq
            have n0 := (Below.cell kq (p := ⟨w.heap.size, 0, none⟩) HGL.out.1).trans HG.out.1
            have n1 := (Below.cell kq (p := ⟨wr.heap.size, 0, none⟩) HGL.out.2.1).trans HG.out.2.1
            have n2 := (Below.cell kq (p := ⟨wr.heap.size, 1, none⟩) HGL.out.2.1).trans HG.out.2.2.1
            have n3 := (Below.cell kq (p := ⟨wr.heap.size, 2, none⟩) HGL.out.2.1).trans HG.out.2.2.2
            have n4 := (Below.cell kq (p := ⟨b, off + j * 3, none⟩) HGL.out.2.2).trans HQ.out.1
            have n5 := (Below.cell kq (p := ⟨b, off + j * 3 + 1, none⟩) HGL.out.2.2).trans HQ.out.2.1
            have n6 := (Below.cell kq (p := ⟨b, off + j * 3 + 2, none⟩) HGL.out.2.2).trans HQ.out.2.2
            clear hbq
            go_wp2_with fail
            refine hK.out _ _ ?_ (fun hHeld => ?_)
            · (refine ⟨?_, ?_, ?_, ?_, ?_, ?_, ?_, ?_⟩ <;> first | assumption | (simp [*]; done))
            clear hK K
            try simp only [Act.put, List.setIfInBounds_toArray, List.set_cons_zero, List.set_cons_succ]
            refine RegH.takeH (i := 2) (v := ?_) rfl (by kernel_rfl) (by kernel_rfl) (by kernel_rfl) (fun _ _ _ h => h) (Or.inl ⟨by rfl, ?_⟩) (by assumption) ?_
            rotate_left
            · (intro wS hSw; (try dsimp only at hSw); go_simp; try (with_reducible rfl))
            try simp only [Act.put, List.setIfInBounds_toArray, List.set_cons_zero, List.set_cons_succ]
            refine RegH.takeH (i := 3) (v := ?_) rfl (by kernel_rfl) (by kernel_rfl) (by kernel_rfl) (fun _ _ _ h => h) (Or.inl ⟨by rfl, ?_⟩) (by assumption) ?_
            rotate_left
            · (intro wS hSw; (try dsimp only at hSw); go_simp; try (with_reducible rfl))
            try simp only [Act.put, List.setIfInBounds_toArray, List.set_cons_zero, List.set_cons_succ]
            refine RegH.takeH (i := 4) (v := ?_) rfl (by kernel_rfl) (by kernel_rfl) (by kernel_rfl) (fun _ _ _ h => h) (Or.inl ⟨by rfl, ?_⟩) (by assumption) ?_
            rotate_left
            · (intro wS hSw; (try dsimp only at hSw); go_simp; try (with_reducible rfl))
            try simp only [Act.put, List.setIfInBounds_toArray, List.set_cons_zero, List.set_cons_succ]
            refine RegH.takeH (i := 5) (v := ?_) rfl (by kernel_rfl) (by kernel_rfl) (by kernel_rfl) (fun _ _ _ h => h) (Or.inl ⟨by rfl, ?_⟩) (by assumption) ?_
            rotate_left
            · (intro wS hSw; (try dsimp only at hSw); go_simp; try (with_reducible rfl))
            try simp only [Act.put, List.setIfInBounds_toArray, List.set_cons_zero, List.set_cons_succ]
            refine RegH.takeH (i := 6) (v := ?_) rfl (by kernel_rfl) (by kernel_rfl) (by kernel_rfl) (fun _ _ _ h => h) (Or.inl ⟨by rfl, ?_⟩) (by assumption) ?_
            rotate_left
            · (intro wS hSw; (try dsimp only at hSw); go_simp; try (with_reducible rfl))
            try simp only [Act.put, List.setIfInBounds_toArray, List.set_cons_zero, List.set_cons_succ]
            refine RegH.takeH (i := 7) (v := ?_) rfl (by kernel_rfl) (by kernel_rfl) (by kernel_rfl) (fun _ _ _ h => h) (Or.inl ⟨by rfl, ?_⟩) (by assumption) ?_
            rotate_left
            · (intro wS hSw; (try dsimp only at hSw); go_simp; try (with_reducible rfl))
            try simp only [Act.put, List.setIfInBounds_toArray, List.set_cons_zero, List.set_cons_succ]
            refine RegH.takeH (i := 8) (v := ?_) rfl (by kernel_rfl) (by kernel_rfl) (by kernel_rfl) (fun _ _ _ h => h) (Or.inl ⟨by rfl, ?_⟩) (by assumption) ?_
            rotate_left
            · (intro wS hSw; (try dsimp only at hSw); go_simp; try (with_reducible rfl))
            try simp only [Act.put, List.setIfInBounds_toArray, List.set_cons_zero, List.set_cons_succ]
            refine RegH.takeH (i := 9) (v := ?_) rfl (by kernel_rfl) (by kernel_rfl) (by kernel_rfl) (fun _ _ _ h => h) (Or.inl ⟨by rfl, ?_⟩) (by assumption) ?_
            rotate_left
            · (intro wS hSw; (try dsimp only at hSw); go_simp; try (with_reducible rfl))
            try simp only [Act.put, List.setIfInBounds_toArray, List.set_cons_zero, List.set_cons_succ]
            refine RegH.takeH (i := 10) (v := ?_) rfl (by kernel_rfl) (by kernel_rfl) (by kernel_rfl) (fun _ _ _ h => h) (Or.inl ⟨by rfl, ?_⟩) (by assumption) ?_
            rotate_left
            · (intro wS hSw; (try dsimp only at hSw); go_simp; try (with_reducible rfl))
            try simp only [Act.put, List.setIfInBounds_toArray, List.set_cons_zero, List.set_cons_succ]
            refine RegH.takeH (i := 11) (v := ?_) rfl (by kernel_rfl) (by kernel_rfl) (by kernel_rfl) (fun _ _ _ h => h) (Or.inl ⟨by rfl, ?_⟩) (by assumption) ?_
            rotate_left
            · (intro wS hSw; (try dsimp only at hSw); go_simp; try (with_reducible rfl))
            try simp only [Act.put, List.setIfInBounds_toArray, List.set_cons_zero, List.set_cons_succ]
            refine RegH.takeH (i := 12) (v := ?_) rfl (by kernel_rfl) (by kernel_rfl) (by kernel_rfl) (fun _ _ _ h => h) (Or.inl ⟨by rfl, ?_⟩) (by assumption) ?_
            rotate_left
            · (intro wS hSw; (try dsimp only at hSw); go_simp; try (with_reducible rfl))
            try simp only [Act.put, List.setIfInBounds_toArray, List.set_cons_zero, List.set_cons_succ]
            refine RegH.takeH (i := 13) (v := ?_) rfl (by kernel_rfl) (by kernel_rfl) (by kernel_rfl) (fun _ _ _ h => h) (Or.inl ⟨by rfl, ?_⟩) (by assumption) ?_
            rotate_left
            · (intro wS hSw; (try dsimp only at hSw); go_simp; try (with_reducible rfl))
            try simp only [Act.put, List.setIfInBounds_toArray, List.set_cons_zero, List.set_cons_succ]
            refine RegH.consH (i := 14) rfl (by kernel_rfl) (fun K hK => ?_)
            go_simp
            go_at_call 66
            refine (cmp_names nj nk _ _ _ _ _).mono ?_
            rintro e wp ⟨rfl, os, hwp⟩
            have kp : LaterD w1 wp := below_then (show Below w1.heap.size w1 wq from kq) (by rw [hwp]; exact below_grow _ _)
            have n0 := (Below.cell kp (p := ⟨w.heap.size, 0, none⟩) HGL.out.1).trans HG.out.1
            have n1 := (Below.cell kp (p := ⟨wr.heap.size, 0, none⟩) HGL.out.2.1).trans HG.out.2.1
            have n2 := (Below.cell kp (p := ⟨wr.heap.size, 1, none⟩) HGL.out.2.1).trans HG.out.2.2.1
            have n3 := (Below.cell kp (p := ⟨wr.heap.size, 2, none⟩) HGL.out.2.1).trans HG.out.2.2.2
            have n4 := (Below.cell kp (p := ⟨b, off + j * 3, none⟩) HGL.out.2.2).trans HQ.out.1
            have n5 := (Below.cell kp (p := ⟨b, off + j * 3 + 1, none⟩) HGL.out.2.2).trans HQ.out.2.1
            have n6 := (Below.cell kp (p := ⟨b, off + j * 3 + 2, none⟩) HGL.out.2.2).trans HQ.out.2.2
            clear hwp
            rw [HCN.out]
            go_wp2_with fail
            refine hK.out _ _ ?_ (fun hHeld => ?_)
            · (refine ⟨?_, ?_, ?_, ?_, ?_, ?_, ?_, ?_⟩ <;> first | assumption | (simp [*]; done))
            clear hK K
            try simp only [Act.put, List.setIfInBounds_toArray, List.set_cons_zero, List.set_cons_succ]
            refine RegH.takeH (i := 15) (v := ?_) rfl (by kernel_rfl) (by kernel_rfl) (by kernel_rfl) (fun _ _ _ h => h) (Or.inl ⟨by rfl, ?_⟩) (by assumption) ?_
            rotate_left
            · (intro wS hSw; (try dsimp only at hSw); go_simp; try (with_reducible rfl))
            try simp only [Act.put, List.setIfInBounds_toArray, List.set_cons_zero, List.set_cons_succ]
            refine RegH.takeH (i := 16) (v := ?_) rfl (by kernel_rfl) (by kernel_rfl) (by kernel_rfl) (fun _ _ _ h => h) (Or.inl ⟨by rfl, ?_⟩) (by assumption) ?_
            rotate_left
            · (intro wS hSw; (try dsimp only at hSw); go_simp; try (with_reducible rfl))
            try simp only [Act.put, List.setIfInBounds_toArray, List.set_cons_zero, List.set_cons_succ]
            refine RegH.takeH (i := 17) (v := ?_) rfl (by kernel_rfl) (by kernel_rfl) (by kernel_rfl) (fun _ _ _ h => h) (Or.inl ⟨by rfl, ?_⟩) (by assumption) ?_
            rotate_left
            · (intro wS hSw; (try dsimp only at hSw); go_simp; try (with_reducible rfl))
            try simp only [Act.put, List.setIfInBounds_toArray, List.set_cons_zero, List.set_cons_succ]
            refine wpAnyH_done (by kernel_rfl) ?_ _
            go_wp2_with fail
            go_ret
            exact ⟨DbSpec.ret_b HZ.out.symm, below_then HBW.out (below_then (show Below wr.heap.size wr w1 from HBG.out) (show Below w1.heap.size w1 wp from kp))⟩
          · have HN2 := Lib.hid (asc_more HAS.out hlt (fun i e hi => by have e2 := HJ.out; obtain rfl : i = j := (by omega); rw [← HNJ.out, ← HNK.out]; exact hlt2))
            obtain ⟨c, hc, hc0⟩ : ∃ c, cmpN nj nk = c ∧ (0 ≤ c) = False := ⟨_, rfl, by simp only [eq_iff_iff, iff_false]; have := (cmpN_lt nj nk).2 hlt2; omega⟩
            have HCN := Lib.hid hc
            clear hc
            refine wp_region_held_drew (S := fun wx => wx.cell? ⟨w.heap.size, 0, none⟩ = some (.slice (some ⟨b, off, none⟩) l.length cap1) ∧ wx.cell? ⟨wr.heap.size, 0, none⟩ = some (.string nk) ∧ wx.cell? ⟨wr.heap.size, 1, none⟩ = some (.int .i64 rk) ∧ wx.cell? ⟨wr.heap.size, 2, none⟩ = some (.slice ak qk ck) ∧ wx.cell? ⟨b, off + j * 3, none⟩ = some (.string nj) ∧ wx.cell? ⟨b, off + j * 3 + 1, none⟩ = some (.int .i64 rj) ∧ wx.cell? ⟨b, off + j * 3 + 2, none⟩ = some (.slice aj qj cj) ∧ LaterD w1 wx) (by kernel_rfl) ?_ (fun hHeld => ?_)
            · (refine ⟨?_, ?_, ?_, ?_, ?_, ?_, ?_, ?_⟩ <;> first | assumption | (simp [*]; done))
            refine RegH.takeH (i := 0) (v := ?_) rfl (by kernel_rfl) (by kernel_rfl) (by kernel_rfl) (fun _ _ _ h => h) (Or.inl ⟨by rfl, ?_⟩) (by assumption) ?_
            rotate_left
            · (intro wS hSw; (try dsimp only at hSw); go_simp; try (with_reducible rfl))
            try simp only [Act.put, List.setIfInBounds_toArray, List.set_cons_zero, List.set_cons_succ]
            refine RegH.consH (i := 1) rfl (by kernel_rfl) (fun K hK => ?_)
            go_simp
            go_at_call 54
            refine (HE.out _ kw).mono ?_
            rintro e wq ⟨rfl, hbq⟩
            have kq : LaterD w1 wq := below_then (show Below w1.heap.size w1 w1.drew from kk) hbq
            have n0 := (Below.cell kq (p := ⟨w.heap.size, 0, none⟩) HGL.out.1).trans HG.out.1
            have n1 := (Below.cell kq (p := ⟨wr.heap.size, 0, none⟩) HGL.out.2.1).trans HG.out.2.1
            have n2 := (Below.cell kq (p := ⟨wr.heap.size, 1, none⟩) HGL.out.2.1).trans HG.out.2.2.1
            have n3 := (Below.cell kq (p := ⟨wr.heap.size, 2, none⟩) HGL.out.2.1).trans HG.out.2.2.2
            have n4 := (Below.cell kq (p := ⟨b, off + j * 3, none⟩) HGL.out.2.2).trans HQ.out.1
            have n5 := (Below.cell kq (p := ⟨b, off + j * 3 + 1, none⟩) HGL.out.2.2).trans HQ.out.2.1
            have n6 := (Below.cell kq (p := ⟨b, off + j * 3 + 2, none⟩) HGL.out.2.2).trans HQ.out.2.2
            clear hbq
            go_wp2_with fail
            refine hK.out _ _ ?_ (fun hHeld => ?_)
            · (refine ⟨?_, ?_, ?_, ?_, ?_, ?_, ?_, ?_⟩ <;> first | assumption | (simp [*]; done))
            clear hK K
            try simp only [Act.put, List.setIfInBounds_toArray, List.set_cons_zero, List.set_cons_succ]
            refine RegH.takeH (i := 2) (v := ?_) rfl (by kernel_rfl) (by kernel_rfl) (by kernel_rfl) (fun _ _ _ h => h) (Or.inl ⟨by rfl, ?_⟩) (by assumption) ?_
            rotate_left
            · (intro wS hSw; (try dsimp only at hSw); go_simp; try (with_reducible rfl))
            try simp only [Act.put, List.setIfInBounds_toArray, List.set_cons_zero, List.set_cons_succ]
            refine RegH.takeH (i := 3) (v := ?_) rfl (by kernel_rfl) (by kernel_rfl) (by kernel_rfl) (fun _ _ _ h => h) (Or.inl ⟨by rfl, ?_⟩) (by assumption) ?_
            rotate_left
            · (intro wS hSw; (try dsimp only at hSw); go_simp; try (with_reducible rfl))
            try simp only [Act.put, List.setIfInBounds_toArray, List.set_cons_zero, List.set_cons_succ]
            refine RegH.takeH (i := 4) (v := ?_) rfl (by kernel_rfl) (by kernel_rfl) (by kernel_rfl) (fun _ _ _ h => h) (Or.inl ⟨by rfl, ?_⟩) (by assumption) ?_
            rotate_left
            · (intro wS hSw; (try dsimp only at hSw); go_simp; try (with_reducible rfl))
            try simp only [Act.put, List.setIfInBounds_toArray, List.set_cons_zero, List.set_cons_succ]
            refine RegH.takeH (i := 5) (v := ?_) rfl (by kernel_rfl) (by kernel_rfl) (by kernel_rfl) (fun _ _ _ h => h) (Or.inl ⟨by rfl, ?_⟩) (by assumption) ?_
            rotate_left
            · (intro wS hSw; (try dsimp only at hSw); go_simp; try (with_reducible rfl))
            try simp only [Act.put, List.setIfInBounds_toArray, List.set_cons_zero, List.set_cons_succ]
            refine RegH.takeH (i := 6) (v := ?_) rfl (by kernel_rfl) (by kernel_rfl) (by kernel_rfl) (fun _ _ _ h => h) (Or.inl ⟨by rfl, ?_⟩) (by assumption) ?_
            rotate_left
            · (intro wS hSw; (try dsimp only at hSw); go_simp; try (with_reducible rfl))
            try simp only [Act.put, List.setIfInBounds_toArray, List.set_cons_zero, List.set_cons_succ]
            refine RegH.takeH (i := 7) (v := ?_) rfl (by kernel_rfl) (by kernel_rfl) (by kernel_rfl) (fun _ _ _ h => h) (Or.inl ⟨by rfl, ?_⟩) (by assumption) ?_
            rotate_left
            · (intro wS hSw; (try dsimp only at hSw); go_simp; try (with_reducible rfl))
            try simp only [Act.put, List.setIfInBounds_toArray, List.set_cons_zero, List.set_cons_succ]
            refine RegH.takeH (i := 8) (v := ?_) rfl (by kernel_rfl) (by kernel_rfl) (by kernel_rfl) (fun _ _ _ h => h) (Or.inl ⟨by rfl, ?_⟩) (by assumption) ?_
            rotate_left
            · (intro wS hSw; (try dsimp only at hSw); go_simp; try (with_reducible rfl))
            try simp only [Act.put, List.setIfInBounds_toArray, List.set_cons_zero, List.set_cons_succ]
            refine RegH.takeH (i := 9) (v := ?_) rfl (by kernel_rfl) (by kernel_rfl) (by kernel_rfl) (fun _ _ _ h => h) (Or.inl ⟨by rfl, ?_⟩) (by assumption) ?_
            rotate_left
            · (intro wS hSw; (try dsimp only at hSw); go_simp; try (with_reducible rfl))
            try simp only [Act.put, List.setIfInBounds_toArray, List.set_cons_zero, List.set_cons_succ]
            refine RegH.takeH (i := 10) (v := ?_) rfl (by kernel_rfl) (by kernel_rfl) (by kernel_rfl) (fun _ _ _ h => h) (Or.inl ⟨by rfl, ?_⟩) (by assumption) ?_
            rotate_left
            · (intro wS hSw; (try dsimp only at hSw); go_simp; try (with_reducible rfl))
            try simp only [Act.put, List.setIfInBounds_toArray, List.set_cons_zero, List.set_cons_succ]
            refine RegH.takeH (i := 11) (v := ?_) rfl (by kernel_rfl) (by kernel_rfl) (by kernel_rfl) (fun _ _ _ h => h) (Or.inl ⟨by rfl, ?_⟩) (by assumption) ?_
            rotate_left
            · (intro wS hSw; (try dsimp only at hSw); go_simp; try (with_reducible rfl))
            try simp only [Act.put, List.setIfInBounds_toArray, List.set_cons_zero, List.set_cons_succ]
            refine RegH.takeH (i := 12) (v := ?_) rfl (by kernel_rfl) (by kernel_rfl) (by kernel_rfl) (fun _ _ _ h => h) (Or.inl ⟨by rfl, ?_⟩) (by assumption) ?_
            rotate_left
            · (intro wS hSw; (try dsimp only at hSw); go_simp; try (with_reducible rfl))
            try simp only [Act.put, List.setIfInBounds_toArray, List.set_cons_zero, List.set_cons_succ]
            refine RegH.takeH (i := 13) (v := ?_) rfl (by kernel_rfl) (by kernel_rfl) (by kernel_rfl) (fun _ _ _ h => h) (Or.inl ⟨by rfl, ?_⟩) (by assumption) ?_
            rotate_left
            · (intro wS hSw; (try dsimp only at hSw); go_simp; try (with_reducible rfl))
            try simp only [Act.put, List.setIfInBounds_toArray, List.set_cons_zero, List.set_cons_succ]
            refine RegH.consH (i := 14) rfl (by kernel_rfl) (fun K hK => ?_)
            go_simp
            go_at_call 66
            refine (cmp_names nj nk _ _ _ _ _).mono ?_
            rintro e wp ⟨rfl, os, hwp⟩
            have kp : LaterD w1 wp := below_then (show Below w1.heap.size w1 wq from kq) (by rw [hwp]; exact below_grow _ _)
            have n0 := (Below.cell kp (p := ⟨w.heap.size, 0, none⟩) HGL.out.1).trans HG.out.1
            have n1 := (Below.cell kp (p := ⟨wr.heap.size, 0, none⟩) HGL.out.2.1).trans HG.out.2.1
            have n2 := (Below.cell kp (p := ⟨wr.heap.size, 1, none⟩) HGL.out.2.1).trans HG.out.2.2.1
            have n3 := (Below.cell kp (p := ⟨wr.heap.size, 2, none⟩) HGL.out.2.1).trans HG.out.2.2.2
            have n4 := (Below.cell kp (p := ⟨b, off + j * 3, none⟩) HGL.out.2.2).trans HQ.out.1
            have n5 := (Below.cell kp (p := ⟨b, off + j * 3 + 1, none⟩) HGL.out.2.2).trans HQ.out.2.1
            have n6 := (Below.cell kp (p := ⟨b, off + j * 3 + 2, none⟩) HGL.out.2.2).trans HQ.out.2.2
            clear hwp
            rw [HCN.out]
            go_wp2_with fail
            refine hK.out _ _ ?_ (fun hHeld => ?_)
            · (refine ⟨?_, ?_, ?_, ?_, ?_, ?_, ?_, ?_⟩ <;> first | assumption | (simp [*]; done))
            clear hK K
            try simp only [Act.put, List.setIfInBounds_toArray, List.set_cons_zero, List.set_cons_succ]
            refine RegH.takeH (i := 15) (v := ?_) rfl (by kernel_rfl) (by kernel_rfl) (by kernel_rfl) (fun _ _ _ h => h) (Or.inl ⟨by rfl, ?_⟩) (by assumption) ?_
            rotate_left
            · (intro wS hSw; (try dsimp only at hSw); go_simp; try (with_reducible rfl))
            try simp only [Act.put, List.setIfInBounds_toArray, List.set_cons_zero, List.set_cons_succ]
            refine RegH.takeH (i := 16) (v := ?_) rfl (by kernel_rfl) (by kernel_rfl) (by kernel_rfl) (fun _ _ _ h => h) (Or.inl ⟨by rfl, ?_⟩) (by assumption) ?_
            rotate_left
            · (intro wS hSw; (try dsimp only at hSw); go_simp; try (with_reducible rfl))
            try simp only [Act.put, List.setIfInBounds_toArray, List.set_cons_zero, List.set_cons_succ]
            refine RegH.takeH (i := 17) (v := ?_) rfl (by kernel_rfl) (by kernel_rfl) (by kernel_rfl) (fun _ _ _ h => h) (Or.inl ⟨by rfl, ?_⟩) (by assumption) ?_
            rotate_left
            · (intro wS hSw; (try dsimp only at hSw); go_simp; try (with_reducible rfl))
            try simp only [Act.put, List.setIfInBounds_toArray, List.set_cons_zero, List.set_cons_succ]
            refine wpAnyH_done (by kernel_rfl) ?_ _
            go_wp2_with fail
            go_roundw
            case rel => exact ⟨k + 1, by omega, by go_num, HN1.out, HN2.out, below_then HWR.out (below_then (show Below wr.heap.size wr w1 from HBG.out) (show Below w1.heap.size w1 wp from kp))⟩
            case measure => simp [intOf]; omega
    · have ek : k = l.length := by omega
      subst ek
      have HP := Lib.hid (show dbOk l = true from by
        have h1 := HOK.out
        have h2 := HAS.out
        rw [List.take_length] at h1 h2
        exact dbOk_iff.2 ⟨H6.out, h1, h2⟩)
      go_wp2_with fail
      go_ret
      exact ⟨DbSpec.ret_b HP.out.symm, HBW.out⟩
end Go.Proofs.YtdjgaffiildijaaGreat.DbImp

namespace Go.Proofs.YtdjgaffiildijaaGreat.DbImp
open Go Go.RowKit Byt Ints IntsLaw Cd Rows2 Tab SlMath TabOpen TabElem SlTable Db TabSpec DbMath TabImp
open DbSpec (LaterD drewD row1 rows_cell cntRows_succ cntRows_take cntRows_le name_cell sameT_iff take_ne take_eq)

/-- The cells of an element. -/
theorem elem_form {w : World} {S : Nat → Prop} {us : List Value} {T : T3} (h : tabC.rd w S us T) : ∃ a c, us = [.string T.1, .int .i64 T.2.1, .slice a T.2.2.length c] := by
  obtain ⟨u, rfl, _, _, h3⟩ := tab_cells h
  obtain ⟨a, c, rfl, _⟩ := rows_form h3
  exact ⟨a, c, rfl⟩

end Go.Proofs.YtdjgaffiildijaaGreat.DbImp

namespace Go.Proofs.YtdjgaffiildijaaGreat.DbMap
open Go Go.RowKit Byt Ints IntsLaw Cd Rows2 Tab SlMath TabOpen TabElem SlTable Db TabSpec DbMath DbImp DbExact
open Go.Maps (Keyed string_keyed IsMap Tidy)
open DbSpec (LaterD drewD row1 rows_cell name_cell)

/-- A table's value in a map: it stands for itself. -/
def tabR : Value → Option (DataW Value × List MemPlace)
  | .agg ⟨[.string a, .int .i64 b, .slice c d e]⟩ => some (.held (.agg #[.string a, .int .i64 b, .slice c d e]), [])
  | _ => none
structure TabV where
  nm : ByteArray
  ar : Int
  a : Option Addr
  n : Nat
  c : Nat
def TabV.us (t : TabV) : List Value := [.string t.nm, .int .i64 t.ar, .slice t.a t.n t.c]
def TabV.val (t : TabV) : Value := .agg #[.string t.nm, .int .i64 t.ar, .slice t.a t.n t.c]
theorem tabR_mk (t : TabV) : tabR t.val = some (.held t.val, []) := rfl
theorem tabR_inv {v : Value} {y : DataW Value × List MemPlace} (h : tabR v = some y) : ∃ t : TabV, v = t.val ∧ y = (.held v, []) := by
  unfold tabR at h
  split at h
  · injection h with h
    exact ⟨⟨_, _, _, _, _⟩, rfl, h.symm⟩
  · cases h
def keyL (s : ByteArray) : Lit := .string s.data.toList
theorem keyL_ne {s t : ByteArray} (h : s ≠ t) : keyL s ≠ keyL t := fun q => h (by
  unfold keyL at q
  injection q with q
  cases s
  cases t
  simp only [Array.toList_inj] at q
  rw [q])
theorem keyL_lit (s : ByteArray) : WideAt.IsKeyLit (keyL s) := trivial

/-- A map that has just the entries of f, n of them. -/
structure MapIs (D : DataW Value) (f : ByteArray → Option TabV) (n : Nat) : Prop where
  tidy : Tidy D
  has : ∀ s, Maps.has D (keyL s) = (f s).isSome
  at_ : ∀ s t z, f s = some t → D.atKey (keyL s) z = .held t.val
  size : Maps.size D = n
def setF (f : ByteArray → Option TabV) (s : ByteArray) (t : TabV) : ByteArray → Option TabV := fun x => if x = s then some t else f x
def delF (f : ByteArray → Option TabV) (s : ByteArray) : ByteArray → Option TabV := fun x => if x = s then none else f x
theorem MapIs.start : MapIs (.map []) (fun _ => none) 0 := ⟨Maps.tidy_empty, fun _ => rfl, (fun _ _ _ h => by cases h), rfl⟩
theorem MapIs.put {D : DataW Value} {f : ByteArray → Option TabV} {n : Nat} (h : MapIs D f n) (s : ByteArray) (t : TabV) : MapIs (D.put (keyL s) (.held t.val)) (setF f s t) (if (f s).isSome then n else n + 1) := by
  refine ⟨h.tidy.put (keyL_lit s) _, fun x => ?_, fun x y z hy => ?_, ?_⟩
  · by_cases e : x = s
    · subst e
      rw [Maps.has_put_same h.tidy.isMap (keyL_lit x), setF, if_pos rfl]
      rfl
    · rw [Maps.has_put_other (keyL_ne e), h.has, setF, if_neg e]
  · by_cases e : x = s
    · subst e
      rw [setF, if_pos rfl] at hy
      injection hy with hy
      rw [Maps.atKey_put_same h.tidy.isMap (keyL_lit x), hy]
    · rw [setF, if_neg e] at hy
      rw [Maps.atKey_put_other (keyL_ne e)]
      exact h.at_ x y z hy
  · rw [Maps.size_put h.tidy, h.has, h.size]
theorem MapIs.del {D : DataW Value} {f : ByteArray → Option TabV} {n : Nat} (h : MapIs D f n) (s : ByteArray) : MapIs (D.del (keyL s)) (delF f s) (if (f s).isSome then n - 1 else n) := by
  refine ⟨h.tidy.del _, fun x => ?_, fun x y z hy => ?_, ?_⟩
  · by_cases e : x = s
    · subst e
      rw [Maps.has_del_same, delF, if_pos rfl]
      rfl
    · rw [Maps.has_del_other (keyL_ne e), h.has, delF, if_neg e]
  · by_cases e : x = s
    · rw [delF, if_pos e] at hy; cases hy
    · rw [delF, if_neg e] at hy
      rw [Maps.atKey_del_other (keyL_ne e)]
      exact h.at_ x y z hy
  · have := Maps.size_del h.tidy (k := keyL s)
    rw [h.has, h.size] at this
    split at this <;> rename_i q <;> simp only [q] <;> simp <;> omega
theorem MapIs.eq {D : DataW Value} {f g : ByteArray → Option TabV} {n m : Nat} (h : MapIs D f n) (e : f = g) (e2 : n = m) : MapIs D g m := e ▸ e2 ▸ h

/-- The tables of a list, each with its cells. -/
def HeldT (w : World) (S : Nat → Prop) (a : Option Addr) (l : List T3) (ts : List TabV) : Prop :=
  ts.length = l.length ∧ ∀ k (h : k < l.length) (h' : k < ts.length), ts[k].nm = l[k].1 ∧ (∃ b off, a = some ⟨b, off, none⟩ ∧ b < w.heap.size ∧ Cd.At w b (off + k * 3) ts[k].us) ∧ tabC.rd w S ts[k].us l[k]
theorem HeldT.later {w w' : World} {S : Nat → Prop} {a : Option Addr} {l : List T3} {ts : List TabV} (h : HeldT w S a l ts) (hb : Below w.heap.size w w') : HeldT w' S a l ts := by
  refine ⟨h.1, fun k hk hk' => ?_⟩
  obtain ⟨h0, ⟨b, off, e, hl, hat⟩, hr⟩ := h.2 k hk hk'
  exact ⟨h0, ⟨b, off, e, Nat.lt_of_lt_of_le hl hb.size, fun j hj => (hb.cell (p := ⟨b, off + k * 3 + j, none⟩) hl).trans (hat j hj)⟩, Cd.later hr hb⟩
theorem mk_list {α : Type} {P : Nat → α → Prop} : ∀ (n : Nat), (∀ k, k < n → ∃ x, P k x) → ∃ xs : List α, xs.length = n ∧ ∀ k (h : k < xs.length), P k xs[k]
  | 0, _ => ⟨[], rfl, fun k h => by simp at h⟩
  | n + 1, h => by
    obtain ⟨xs, hl, hp⟩ := mk_list n (fun k hk => h k (by omega))
    obtain ⟨x, hx⟩ := h n (by omega)
    refine ⟨xs ++ [x], by simp [hl], fun k hk => ?_⟩
    by_cases e : k < xs.length
    · rw [List.getElem_append_left e]; exact hp k e
    · have hk' : k < xs.length + 1 := by simpa using hk
      obtain rfl : k = n := by omega
      rw [List.getElem_append_right (by omega)]
      simpa [hl] using hx
theorem held_of {w : World} {S : Nat → Prop} {a : Option Addr} {l : List T3} {n cap : Nat} (h : tabsC.rd w S [.slice a n cap] l) : ∃ ts, HeldT w S a l ts := by
  obtain ⟨ts, hl, hp⟩ := mk_list (P := fun k (t : TabV) => ∀ (h : k < l.length), t.nm = l[k].1 ∧ (∃ b off, a = some ⟨b, off, none⟩ ∧ b < w.heap.size ∧ Cd.At w b (off + k * 3) t.us) ∧ tabC.rd w S t.us l[k]) l.length (fun k hk => by
    obtain ⟨b, off, cap', us, e, _, hb, hat, hu⟩ := Cd.sl_at h hk
    obtain ⟨a2, c2, rfl⟩ := elem_form hu
    injection e with e _ _
    exact ⟨⟨(l[k]).1, (l[k]).2.1, a2, (l[k]).2.2.length, c2⟩, fun _ => ⟨rfl, ⟨b, off, e, hb, hat⟩, hu⟩⟩)
  exact ⟨ts, hl, fun k hk hk' => hp k hk' hk⟩
/-- The entry of a name. -/
def entF (ts : List TabV) : ByteArray → Option TabV := fun s => ts.find? (fun t => decide (t.nm = s))
theorem entF_nil : entF [] = fun _ => none := rfl
theorem entF_more {ts : List TabV} {t : TabV} (h : ∀ u ∈ ts, u.nm ≠ t.nm) : entF (ts ++ [t]) = setF (entF ts) t.nm t := by
  funext s
  unfold entF setF
  rw [List.find?_append]
  by_cases e : s = t.nm
  · subst e
    rw [if_pos rfl, List.find?_eq_none.2 (fun u hu => by simpa using h u hu)]
    simp
  · rw [if_neg e]
    have : List.find? (fun u => decide (u.nm = s)) [t] = none := by simp; exact fun q => e q.symm
    rw [this]
    simp
theorem entF_none {ts : List TabV} {t : TabV} (h : ∀ u ∈ ts, u.nm ≠ t.nm) : (entF ts t.nm).isSome = false := by
  unfold entF
  rw [List.find?_eq_none.2 (fun u hu => by simpa using h u hu)]
  rfl
theorem entF_find {w : World} {S : Nat → Prop} {a : Option Addr} {l : List T3} {ts : List TabV} (h : HeldT w S a l ts) (s : ByteArray) :
    (findN l s = none ∧ entF ts s = none) ∨ ∃ T t, findN l s = some T ∧ entF ts s = some t ∧ tabC.rd w S t.us T := by
  obtain ⟨hl, h⟩ := h
  unfold findN entF
  induction ts generalizing l a with
  | nil =>
    obtain rfl : l = [] := List.length_eq_zero_iff.1 hl.symm
    exact .inl ⟨rfl, rfl⟩
  | cons t ts ih =>
    cases l with
    | nil => simp at hl
    | cons T l =>
      have h0 := h 0 (by simp) (by simp)
      simp only [List.getElem_cons_zero] at h0
      by_cases e : t.nm = s
      · refine .inr ⟨T, t, ?_, ?_, h0.2.2⟩
        · rw [List.find?_cons_of_pos (by simpa [h0.1] using e)]
        · rw [List.find?_cons_of_pos (by simpa using e)]
      · rw [List.find?_cons_of_neg (by simpa [h0.1] using e), List.find?_cons_of_neg (by simpa using e)]
        refine ih (a := a.map fun p => ⟨p.block, p.off + 3, none⟩) (by simpa using hl) fun k hk hk' => ?_
        obtain ⟨g0, ⟨b, off, rfl, g1, g2⟩, g3⟩ := h (k + 1) (by simpa using hk) (by simpa using hk')
        simp only [List.getElem_cons_succ] at g0 g2 g3
        exact ⟨g0, ⟨b, off + 3, rfl, g1, fun j hj => by have := g2 j hj; rw [show off + 3 + k * 3 = off + (k + 1) * 3 by omega]; exact this⟩, g3⟩
end Go.Proofs.YtdjgaffiildijaaGreat.DbMap

namespace Go.Proofs.YtdjgaffiildijaaGreat.TabImp
open Go Go.RowKit Byt Ints IntsLaw Cd Rows2 Tab TabSpec

set_option maxRecDepth 100000 in
theorem copy_cells_int (a : Option Addr) (n c : Nat) (us : List Value) (w : World) (hn : us.length = n) (hl : n ≤ 1048577) (hc : 0 < n → ∃ b off, a = some ⟨b, off, none⟩ ∧ b < w.heap.size ∧ ∀ j v, us[j]? = some v → w.cell? ⟨b, off + j, none⟩ = some v) (h1 : ∀ v ∈ us, v.oneCell' = true) :
    Calls Tryz.prog 65 #[.slice a n c] w fun e w' => e = .returned (.slice (some ⟨w.heap.size, 0, none⟩) n n) ∧ w'.ownsRow w.heap.size 3 1 (.slice (some ⟨w.heap.size, 0, none⟩) n n) n us ∧ Below w.heap.size w w' := by
  obtain ⟨i0, hi, hz0, hz1, hz2⟩ := info_parts info_i64
  have HC := Lib.hid hc
  have HU := Lib.hid h1
  clear hc h1
  go_enter Tryz.func65, Tryz.ntmps65
  go_wp2_with (at_make; refine wpList_make_full _ rfl _ _ 25 rfl w.heap.size 3 i0 (.int .i64 0) 1 Tryz.underlying25 hi hz0 hz1 _ _ _ _ n rfl rfl rfl rfl (by rw [hz2]; omega) (by unfold maxLen; omega) (Nat.le_refl _) ?_)
  intro w1 hown0 hg0
  have hb1 : Below w.heap.size w w1 := (Below.refl _ _).grown hg0 (Nat.le_refl _) (by simp)
  obtain ⟨cur, hcur, hlen⟩ : ∃ cur : List Value, w1.heap[w.heap.size]? = some (.cells cur.toArray 3 (0, 0)) ∧ cur.length = n := by
    rcases hown0.2 with ⟨e1, _⟩ | ⟨g, cap, cur, e1, _, hg, _, _, hcs, _⟩
    · cases e1
    · simp only [Value.slice.injEq, Option.some.injEq, Addr.mk.injEq, and_true, true_and] at e1
      obtain ⟨rfl, rfl⟩ := e1
      exact ⟨cur.toList, by simpa using hg, by simpa using hcs⟩
  have HCUR := Lib.hid hcur
  have HLEN := Lib.hid hlen
  have HN := Lib.hid hn
  have HB := Lib.hid hb1
  clear hown0 hg0 hcur hlen hn hb1
  go_wp2_with (with_reducible refine wpList_copy_splice rfl (.tmp 7) (.tmp 8) 25 25 rfl 3 Tryz.underlying25 (by rw [hi]; simp [hz1]) (some ⟨w.heap.size, 0, none⟩) a n n n c rfl rfl w.heap.size 0 cur 3 HCUR.out us (by rw [HN.out]; exact (Nat.min_self n).symm) ?_ (by rw [HN.out, HLEN.out]; omega) HU.out w.heap.size w HB.out (Nat.le_refl _) ?_)
  · intro hp
    obtain ⟨b, off, rfl, hb, hcell⟩ := HC.out (by rw [HN.out] at hp; exact hp)
    first | refine ⟨rfl, ⟨b, off, none⟩, rfl, fun j v hj => ?_⟩ | refine ⟨⟨b, off, none⟩, rfl, fun j v hj => ?_⟩
    have ha : (⟨b, off, none⟩ : Addr).add j = ⟨b, off + j, none⟩ := by unfold Addr.add; split <;> simp_all
    rw [ha]
    exact (HB.out.cell (p := ⟨b, off + j, none⟩) hb).trans (hcell j v hj)
  intro w2 hg2 hb2
  go_wp2_with fail
  go_ret
  refine ⟨rfl, ⟨by rw [HN.out]; omega, .inr ⟨w.heap.size, n, (splice cur 0 us).toArray, rfl, Nat.le_refl _, hg2.out, Nat.le_refl _, by unfold maxLen; omega, ?_, ?_⟩⟩, hb2⟩
  · rw [List.size_toArray, length_splice _ _ _ (by rw [HN.out, HLEN.out]; omega), HLEN.out, Nat.mul_one]
  · have : (splice cur 0 us) = us := by
      unfold splice
      rw [List.take_zero, List.drop_eq_nil_of_le (by rw [HN.out, HLEN.out]; omega)]
      simp
    simp only [this, Nat.mul_one]
    exact List.take_of_length_le (by rw [HN.out]; omega)


theorem copy_ints (v : Value) (l : List Int) (S : Nat → Prop) (w : World) (hr : rowC.rd w S [v] l) (hl : l.length ≤ 1048577) :
    Calls Tryz.prog 65 #[v] w fun e w' => ∃ g c, e = .returned (.slice (some ⟨g, 0, none⟩) l.length c) ∧ rowC.ow w' w.heap.size [.slice (some ⟨g, 0, none⟩) l.length c] l [g] ∧ Below w.heap.size w w' := by
  obtain ⟨⟨a, cap, rfl, hlm, hc⟩, hin⟩ := row_ri hr
  refine (copy_cells_int a l.length cap (l.map iv) w (by simp) hl ?_ ?_).mono ?_
  · intro h0
    rcases hc with h | ⟨b, off, rfl, hb, hcell⟩
    · rw [h] at h0; simp at h0
    · refine ⟨b, off, rfl, hb, fun j v hj => ?_⟩
      have hj' : j < l.length := by
        have := (List.getElem?_eq_some_iff.1 hj).1
        simpa using this
      rw [hcell j hj']
      rw [List.getElem?_map, List.getElem?_eq_getElem hj'] at hj
      exact hj
  · intro v hv
    obtain ⟨x, _, rfl⟩ := List.mem_map.1 hv
    rfl
  · rintro e w' ⟨rfl, hown, hb⟩
    exact ⟨_, _, rfl, Cd.ow_of_own hown hin, hb⟩
end Go.Proofs.YtdjgaffiildijaaGreat.TabImp

namespace Go.Proofs.YtdjgaffiildijaaGreat.TabImp
open Go Go.RowKit Byt Ints IntsLaw Cd Rows2 Tab TabSpec

set_option maxRecDepth 100000 in
set_option maxHeartbeats 1600000 in
theorem map_copy (v : Value) (l : List (List Int)) (S : Nat → Prop) (w : World) (hr : rowsC.rd w S [v] l) (hl : rowsWt l ≤ 1048577) :
    Calls Tryz.prog 64 #[v, .func (.func 65) #[] #[]] w fun e w' => ∃ g fp, e = .returned (.slice (some ⟨g, 0, none⟩) l.length l.length) ∧ rowsC.ow w' w.heap.size [.slice (some ⟨g, 0, none⟩) l.length l.length] l fp ∧ fp.Nodup ∧ Below w.heap.size w w' := by
  obtain ⟨i0, hi, hz0, hz1, hz2⟩ := info_parts info_ints
  have HR := Lib.hid (fun w' (hb : Below w.heap.size w w') => Cd.later hr hb)
  have HW := Lib.hid hl
  obtain ⟨a, cap, rfl, hlm⟩ := rows_form hr
  have hll : l.length ≤ 1048577 := by unfold rowsWt at hl; omega
  clear hr hl
  go_enter Tryz.func64, Tryz.ntmps64
  go_wp2_with (at_make; refine wpList_make_own _ rfl _ _ 54 rfl w.heap.size 25 i0 (.slice none 0 0) 1 Tryz.underlying54 hi hz0 hz1 _ _ _ l.length rfl rfl rfl (by rw [hz2]; omega) (by unfold maxLen; omega) (Nat.le_refl _) ?_)
  intro w1 hown0 hg0
  have how1 : rowsC.ow w1 w.heap.size [.slice (some ⟨w.heap.size, 0, none⟩) 0 l.length] [] [w.heap.size] := ⟨_, [], [], rfl, hown0, trivial, rfl⟩
  have hb1 : Below w.heap.size w w1 := (Below.refl _ _).grown hg0 (Nat.le_refl _) (by simp)
  clear hown0 hg0
  go_wp2_with fail
  go_loopw [5, 13] (fun o i wr => ∃ (k : Nat) (fp : List Nat), k ≤ l.length ∧ i = .int .i64 k ∧ o = .slice (some ⟨w.heap.size, 0, none⟩) k l.length ∧ rowsC.ow wr w.heap.size [.slice (some ⟨w.heap.size, 0, none⟩) k l.length] (l.take k) fp ∧ fp.Nodup ∧ Below w.heap.size w wr) (fun _ i _ => l.length - (intOf i).toNat)
  case atStart => exact ⟨0, _, Nat.zero_le _, rfl, rfl, how1, by simp, hb1⟩
  case round =>
    obtain ⟨k, fp, hk, rfl, rfl, how, hnd, hb⟩ := hrel
    by_cases hlt : k < l.length
    · obtain ⟨b, off, cap', u, e1, hbB, hc, hu⟩ := rows_at (HR.out wr hb) hlt
      injection e1 with e1 e2 e3
      subst e1 e3
      have HC := Lib.hid (copy_ints u l[k] S wr hu (by have := row_len hlt; have := HW.out; unfold rowsWt at this; omega))
      have HOW := Lib.hid how
      have HND := Lib.hid hnd
      have HB := Lib.hid hb
      have HT := Lib.hid (show l.take (k + 1) = l.take k ++ [l[k]] from List.take_succ_eq_append_getElem hlt)
      clear hu how hnd hb how1 hb1
      generalize l[k] = r at *
      go_wp2_with fail
      refine HC.out.mono ?_
      rintro e w2 ⟨g2, c2, rfl, ho2, hb2⟩
      have hsz2 := (rowC.ow_lt ho2 g2 (List.mem_singleton.2 rfl))
      have hbA : Below w2.heap.size w2 (w2.alloc (.cells #[.slice (some ⟨g2, 0, none⟩) r.length c2] 25 (0, 0))) := below_alloc _ _
      have HOW2 := Lib.hid (Cd.ow_later (Cd.ow_later HOW.out hb2) hbA)
      have HO2 := Lib.hid (rowC.ow_base (Cd.ow_later ho2 hbA) HB.out.size)
      have HB2 := Lib.hid (below_then (below_then HB.out hb2) hbA)
      have HDIS := Lib.hid (show ∀ b ∈ [g2], b ∉ fp from fun b hb q => by
        rw [List.mem_singleton.1 hb] at q
        have := (rowsC.ow_lt HOW.out _ q).2
        omega)
      have HBS := Lib.hid (show w.heap.size ≤ (w2.alloc (.cells #[.slice (some ⟨g2, 0, none⟩) r.length c2] 25 (0, 0))).heap.size by rw [size_alloc]; have := HB.out.size; have := hb2.size; omega)
      have HL := Lib.hid (show k = (l.take k).length by rw [List.length_take]; omega)
      have HCELL := Lib.hid (show (w2.alloc (.cells #[.slice (some ⟨g2, 0, none⟩) r.length c2] 25 (0, 0))).cell? ⟨w2.heap.size, 0, none⟩ = some (.slice (some ⟨g2, 0, none⟩) r.length c2) from World.cell?_alloc_mark _ _ _ _ 0)
      clear hsz2 hbA ho2 hb2
      go_wp2_with (at_builtin; refine Cd.wpList_appendR (c := rowC) rfl rfl (.tmp 17) (.tmp 21) 54 rfl w.heap.size 25 (.slice none 0 0) 24 Tryz.underlying54 info_ints rfl (by decide) w.heap.size l.length k (l.take k) fp rfl HL.out HOW2.out HND.out (by omega) w2.heap.size (.slice (some ⟨g2, 0, none⟩) r.length c2) rfl HCELL.out r [g2] HO2.out (by simp) HDIS.out (by omega) HBS.out ?_)
      intro w3 fp3 ho3 hn3 hsub3 ht3
      have HB3 := Lib.hid (ht3.below HB2.out (fun b hb => (rowsC.ow_lt HOW.out b hb).1))
      rw [← HT.out] at ho3
      clear ht3 hsub3
      go_wp2_with fail
      go_roundw
      case rel => exact ⟨k + 1, fp3, by omega, by go_num, rfl, ho3, hn3, HB3.out⟩
      case measure => simp [intOf]; omega
    · have ek : k = l.length := by omega
      subst ek
      rw [List.take_length] at how
      go_wp2_with fail
      go_ret
      exact ⟨_, fp, rfl, how, hnd, hb⟩
end Go.Proofs.YtdjgaffiildijaaGreat.TabImp

namespace Go.Proofs
open Go.Shelf
def Tryz.lays128_ren : Go.Shelf.Ren := ⟨fun | 128 => 91 | n => n, fun | 51 => 116 | 3 => 3 | 4 => 4 | 46 => 104 | 5 => 5 | 9 => 9 | n => n, fun | n => n⟩
theorem Tryz.lays128 : Go.Proofs.Lays.n128 Tryz.prog Tryz.lays128_ren := {
  mixed := by kernel_rfl
  f128 := Tryz.func91.trans (congrArg some (by kernel_rfl))
  t3 := Tryz.underlying3
  a3 := Tryz.isAgg3
  z3 := Tryz.sizeOf3
  v3 := Tryz.zeroValue3
  t4 := Tryz.underlying4
  a4 := Tryz.isAgg4
  z4 := Tryz.sizeOf4
  v4 := Tryz.zeroValue4
  t5 := Tryz.underlying5
  a5 := Tryz.isAgg5
  z5 := Tryz.sizeOf5
  v5 := Tryz.zeroValue5
  t9 := Tryz.underlying9
  a9 := Tryz.isAgg9
  z9 := Tryz.sizeOf9
  v9 := Tryz.zeroValue9
  t46 := Tryz.underlying104
  a46 := Tryz.isAgg104
  z46 := Tryz.sizeOf104
  v46 := Tryz.zeroValue104
  t51 := Tryz.underlying116
  a51 := Tryz.isAgg116
  z51 := Tryz.sizeOf116
  v51 := Tryz.zeroValue116 }
theorem Tryz.bits_Len32 (x : Int) (w : World) (h0 : 0 ≤ x) (h1 : x ≤ 4294967295) :
    Calls Tryz.prog 91 #[.int .u32 x] w fun e w' => e = .returned (.int .i64 (Lib.bitLen x.toNat)) ∧ w' = w := Any.bits_Len32 Tryz.lays128 x w h0 h1
def Tryz.lays125_ren : Go.Shelf.Ren := ⟨fun | 125 => 78 | 128 => 91 | 129 => 92 | n => n, fun | 46 => 104 | 3 => 3 | 51 => 116 | 53 => 118 | 4 => 4 | 5 => 5 | 9 => 9 | n => n, fun | n => n⟩
theorem Tryz.lays125 : Go.Proofs.Lays.n125 Tryz.prog Tryz.lays125_ren := {
  mixed := by kernel_rfl
  f125 := Tryz.func78.trans (congrArg some (by kernel_rfl))
  f128 := Tryz.func91.trans (congrArg some (by kernel_rfl))
  f129 := Tryz.func92.trans (congrArg some (by kernel_rfl))
  t3 := Tryz.underlying3
  a3 := Tryz.isAgg3
  z3 := Tryz.sizeOf3
  v3 := Tryz.zeroValue3
  t4 := Tryz.underlying4
  a4 := Tryz.isAgg4
  z4 := Tryz.sizeOf4
  v4 := Tryz.zeroValue4
  t5 := Tryz.underlying5
  a5 := Tryz.isAgg5
  z5 := Tryz.sizeOf5
  v5 := Tryz.zeroValue5
  t9 := Tryz.underlying9
  a9 := Tryz.isAgg9
  z9 := Tryz.sizeOf9
  v9 := Tryz.zeroValue9
  t46 := Tryz.underlying104
  a46 := Tryz.isAgg104
  z46 := Tryz.sizeOf104
  v46 := Tryz.zeroValue104
  t51 := Tryz.underlying116
  a51 := Tryz.isAgg116
  z51 := Tryz.sizeOf116
  v51 := Tryz.zeroValue116
  t53 := Tryz.underlying118
  a53 := Tryz.isAgg118
  z53 := Tryz.sizeOf118
  v53 := Tryz.zeroValue118 }
theorem Tryz.bits_Len (x : Int) (w : World) (h0 : 0 ≤ x) (h1 : x ≤ 18446744073709551615) :
    Calls Tryz.prog 78 #[.int .u64 x] w fun e w' => e = .returned (.int .i64 (Lib.bitLen x.toNat)) ∧ w' = w := Any.bits_Len Tryz.lays125 x w h0 h1
def Tryz.lays215_ren : Go.Shelf.Ren := ⟨fun | 215 => 100 | n => n, fun | 3 => 3 | 4 => 4 | n => n, fun | n => n⟩
theorem Tryz.lays215 : Go.Proofs.Lays.n215 Tryz.prog Tryz.lays215_ren := {
  mixed := by kernel_rfl
  f215 := Tryz.func100.trans (congrArg some (by kernel_rfl))
  t3 := Tryz.underlying3
  a3 := Tryz.isAgg3
  z3 := Tryz.sizeOf3
  v3 := Tryz.zeroValue3
  t4 := Tryz.underlying4
  a4 := Tryz.isAgg4
  z4 := Tryz.sizeOf4
  v4 := Tryz.zeroValue4 }
open Go.RowKit in
theorem Tryz.cmp_isNaN_int (x : Int) (w : World) :
    Calls Tryz.prog 100 #[.int .i64 x] w fun e w' => e = .returned (.bool false) ∧ w' = w := Any.cmp_isNaN_int Tryz.lays215 x w
def Tryz.lays122_ren : Go.Shelf.Ren := ⟨fun | 122 => 94 | 215 => 100 | n => n, fun | 3 => 3 | 4 => 4 | n => n, fun | n => n⟩
theorem Tryz.lays122 : Go.Proofs.Lays.n122 Tryz.prog Tryz.lays122_ren := {
  mixed := by kernel_rfl
  f122 := Tryz.func94.trans (congrArg some (by kernel_rfl))
  f215 := Tryz.func100.trans (congrArg some (by kernel_rfl))
  t3 := Tryz.underlying3
  a3 := Tryz.isAgg3
  z3 := Tryz.sizeOf3
  v3 := Tryz.zeroValue3
  t4 := Tryz.underlying4
  a4 := Tryz.isAgg4
  z4 := Tryz.sizeOf4
  v4 := Tryz.zeroValue4 }
open Go.RowKit in
theorem Tryz.cmp_Compare_int (x y : Int) (w : World) :
    Calls Tryz.prog 94 #[.int .i64 x, .int .i64 y] w fun e w' => e = .returned (.int .i64 (Lib.compareInt x y)) ∧ w' = w := Any.cmp_Compare_int Tryz.lays122 x y w
def Tryz.lays129_ren : Go.Shelf.Ren := ⟨fun | 129 => 92 | n => n, fun | 53 => 118 | 3 => 3 | 4 => 4 | 46 => 104 | 5 => 5 | 9 => 9 | n => n, fun | n => n⟩
theorem Tryz.lays129 : Go.Proofs.Lays.n129 Tryz.prog Tryz.lays129_ren := {
  mixed := by kernel_rfl
  f129 := Tryz.func92.trans (congrArg some (by kernel_rfl))
  t3 := Tryz.underlying3
  a3 := Tryz.isAgg3
  z3 := Tryz.sizeOf3
  v3 := Tryz.zeroValue3
  t4 := Tryz.underlying4
  a4 := Tryz.isAgg4
  z4 := Tryz.sizeOf4
  v4 := Tryz.zeroValue4
  t5 := Tryz.underlying5
  a5 := Tryz.isAgg5
  z5 := Tryz.sizeOf5
  v5 := Tryz.zeroValue5
  t9 := Tryz.underlying9
  a9 := Tryz.isAgg9
  z9 := Tryz.sizeOf9
  v9 := Tryz.zeroValue9
  t46 := Tryz.underlying104
  a46 := Tryz.isAgg104
  z46 := Tryz.sizeOf104
  v46 := Tryz.zeroValue104
  t53 := Tryz.underlying118
  a53 := Tryz.isAgg118
  z53 := Tryz.sizeOf118
  v53 := Tryz.zeroValue118 }
theorem Tryz.bits_Len64 (x : Int) (w : World) (h0 : 0 ≤ x) (h1 : x ≤ 18446744073709551615) :
    Calls Tryz.prog 92 #[.int .u64 x] w fun e w' => e = .returned (.int .i64 (Lib.bitLen x.toNat)) ∧ w' = w := Any.bits_Len64 Tryz.lays129 x w h0 h1
def Tryz.laysM316_ren : Go.Shelf.Ren := ⟨fun | 316 => 73 | n => n, fun | 9 => 9 | 3 => 3 | 4 => 4 | 37 => 90 | 0 => 0 | 127 => 105 | 5 => 5 | n => n, fun | n => n⟩
theorem Tryz.laysM316 : Go.Proofs.LaysM.n316 Tryz.prog Tryz.laysM316_ren := {
  mixed := by kernel_rfl
  f316 := Tryz.func73.trans (congrArg some (by kernel_rfl))
  t0 := Tryz.underlying0
  a0 := Tryz.isAgg0
  z0 := Tryz.sizeOf0
  v0 := Tryz.zeroValue0
  t3 := Tryz.underlying3
  a3 := Tryz.isAgg3
  z3 := Tryz.sizeOf3
  v3 := Tryz.zeroValue3
  t4 := Tryz.underlying4
  a4 := Tryz.isAgg4
  z4 := Tryz.sizeOf4
  v4 := Tryz.zeroValue4
  t9 := Tryz.underlying9
  a9 := Tryz.isAgg9
  z9 := Tryz.sizeOf9
  v9 := Tryz.zeroValue9
  t37 := Tryz.underlying90
  a37 := Tryz.isAgg90
  z37 := Tryz.sizeOf90
  v37 := Tryz.zeroValue90
  t127 := Tryz.underlying105
  a127 := Tryz.isAgg105
  z127 := Tryz.sizeOf105
  v127 := Tryz.zeroValue105
  t5 := Tryz.underlying5
  a5 := Tryz.isAgg5
  z5 := Tryz.sizeOf5
  v5 := Tryz.zeroValue5
  i0 := by kernel_rfl
  i3 := by kernel_rfl
  i4 := by kernel_rfl
  i5 := by kernel_rfl
  i9 := by kernel_rfl
  i37 := by kernel_rfl
  i127 := by kernel_rfl }
open Go.RowKit in
theorem Tryz.stringslite_Clone (s : ByteArray) (w : World) (hlim : s.size ≤ 281474976710656) :
    Calls Tryz.prog 73 #[.string s] w fun e w' => e = .returned (.string s) ∧ Below w.heap.size w w' := Any.stringslite_Clone Tryz.laysM316 s w hlim
def Tryz.laysNm237_ren : Go.Shelf.Ren := ⟨fun | 37 => 100 | n => n, fun | 3 => 3 | 4 => 4 | n => n, fun | n => n⟩
theorem Tryz.laysNm237 : Go.Proofs.Lays2.n37 Tryz.prog Tryz.laysNm237_ren := {
  mixed := by kernel_rfl
  f37 := Tryz.func100.trans (congrArg some (by kernel_rfl))
  t3 := Tryz.underlying3
  a3 := Tryz.isAgg3
  z3 := Tryz.sizeOf3
  v3 := Tryz.zeroValue3
  t4 := Tryz.underlying4
  a4 := Tryz.isAgg4
  z4 := Tryz.sizeOf4
  v4 := Tryz.zeroValue4 }
open Go.RowKit Go.Lib in
theorem Tryz.cmp_isNaN_int2 (x : Int) (w : World) :
    Calls Tryz.prog 100 #[.int .i64 x] w fun e w' => e = .returned (.bool false) ∧ w' = w := Any.cmp_isNaN_int2 Tryz.laysNm237 x w
def Tryz.laysSlE45_f130_ren : Go.Shelf.Ren := ⟨fun | 45 => 130 | n => n, fun | 22 => 54 | 23 => 25 | 3 => 3 | 4 => 4 | 0 => 0 | n => n, fun | n => n⟩
theorem Tryz.laysSlE45_f130 : Go.Proofs.SlLaysE.n45 Tryz.prog Tryz.laysSlE45_f130_ren := {
  mixed := by kernel_rfl
  f45 := ⟨Tryz.f130.name, by decide, Tryz.func130.trans (congrArg some (by kernel_rfl))⟩
  t0 := Tryz.underlying0
  a0 := Tryz.isAgg0
  z0 := Tryz.sizeOf0
  v0 := Tryz.zeroValue0
  t3 := Tryz.underlying3
  a3 := Tryz.isAgg3
  z3 := Tryz.sizeOf3
  v3 := Tryz.zeroValue3
  t4 := Tryz.underlying4
  a4 := Tryz.isAgg4
  z4 := Tryz.sizeOf4
  v4 := Tryz.zeroValue4
  t22 := Tryz.underlying54
  a22 := Tryz.isAgg54
  z22 := Tryz.sizeOf54
  v22 := Tryz.zeroValue54
  a23 := Tryz.isAgg25
  z23 := Tryz.sizeOf25 }
open Go.RowKit Go.Lib Go.Sort in
theorem Tryz.slices_Delete {α : Type} [Inhabited α] (enc : α → Value) (h1 : OneCell enc) (zr : α) (v23 : ∀ w, (zeroValue 25).run Tryz.prog w = .ok (enc zr) w) (i0 : TypeInfo) (hi0 : Tryz.prog.info? 25 = some i0) (hz1 : i0.size = 1) (blk off cap i j : Nat) (d : Array α) (w : World) (hH : Holds enc w blk off d) (hcap : d.size ≤ cap) (hm : cap ≤ 9223372036854775807) (hij : i ≤ j) (hj : j ≤ d.size) :
    Calls Tryz.prog 130 #[.slice (some ⟨blk, off, none⟩) d.size cap, .int .i64 i, .int .i64 j] w fun e w' => e = .returned (.slice (some ⟨blk, off, none⟩) (d.size - (j - i)) cap) ∧ ∃ q, w' = putRow enc (Sort.ahead w q) blk off (d.toList.take i ++ d.toList.drop j ++ List.replicate (j - i) zr).toArray := AnyE.slices_Delete Tryz.laysSlE45_f130 enc h1 zr v23 i0 hi0 hz1 blk off cap i j d w hH hcap hm hij hj
def Tryz.laysSlH6_f93_ren : Go.Shelf.Ren := ⟨fun | 6 => 93 | n => n, fun | 22 => 25 | 23 => 3 | 25 => 97 | 3 => 3 | 0 => 0 | 4 => 4 | n => n, fun | n => n⟩
theorem Tryz.laysSlH6_f93 : Go.Proofs.SlLaysH.n6 Tryz.prog Tryz.laysSlH6_f93_ren := {
  mixed := by kernel_rfl
  f6 := ⟨Tryz.f93.name, by decide, Tryz.func93.trans (congrArg some (by kernel_rfl))⟩
  t0 := Tryz.underlying0
  a0 := Tryz.isAgg0
  z0 := Tryz.sizeOf0
  v0 := Tryz.zeroValue0
  t3 := Tryz.underlying3
  a3 := Tryz.isAgg3
  z3 := Tryz.sizeOf3
  v3 := Tryz.zeroValue3
  t4 := Tryz.underlying4
  a4 := Tryz.isAgg4
  z4 := Tryz.sizeOf4
  v4 := Tryz.zeroValue4
  t22 := Tryz.underlying25
  a22 := Tryz.isAgg25
  z22 := Tryz.sizeOf25
  v22 := Tryz.zeroValue25
  a23 := Tryz.isAgg3
  z23 := Tryz.sizeOf3
  t25 := Tryz.underlying97
  a25 := Tryz.isAgg97
  z25 := Tryz.sizeOf97
  v25 := Tryz.zeroValue97 }
open Go.RowKit Go.Lib in
theorem Tryz.slices_IndexFunc {α : Type} [Inhabited α] (enc : α → Value) (p : α → Bool) (g : Nat) (lb : Array Value) (eg : ∀ args w, (callFunc g args).run Tryz.prog w = .ok (.enter g args) w) (b off n c : Nat) (zs : List α) (w : World) (hp : PredAt Tryz.prog g lb enc p w) (hz : n ≤ zs.length) (hbig : n ≤ 9223372036854775807) (hc : ∀ j, j < zs.length → w.cell? ⟨b, off + j, none⟩ = some (enc zs[j]!)) :
    Calls Tryz.prog 93 #[.slice (some ⟨b, off, none⟩) n c, .func (.func g) #[] lb] w fun e w' => e = .returned (.int .i64 (Lib.idxBy (fun _ y => p y) (zs.take n) default)) ∧ ∃ q, w' = w.drewN q := AnyE.slices_IndexFunc Tryz.laysSlH6_f93 enc p g lb eg b off n c zs w hp hz hbig hc
open Go.RowKit Go.Lib in
theorem Tryz.slices_IndexFunc_empty {α : Type} [Inhabited α] (a : Option Addr) (c : Nat) (fv : Value) (w : World) :
    Calls Tryz.prog 93 #[.slice a 0 c, fv] w fun e w' => e = .returned (.int .i64 (-1)) ∧ w' = w := AnyE.slices_IndexFunc_empty Tryz.laysSlH6_f93 a c fv w
def Tryz.laysSlH8_f80_ren : Go.Shelf.Ren := ⟨fun | 8 => 80 | 6 => 93 | n => n, fun | 22 => 25 | 23 => 3 | 25 => 97 | 4 => 4 | 3 => 3 | 0 => 0 | n => n, fun | n => n⟩
theorem Tryz.laysSlH8_f80 : Go.Proofs.SlLaysH.n8 Tryz.prog Tryz.laysSlH8_f80_ren := {
  mixed := by kernel_rfl
  f6 := ⟨Tryz.f93.name, by decide, Tryz.func93.trans (congrArg some (by kernel_rfl))⟩
  f8 := ⟨Tryz.f80.name, by decide, Tryz.func80.trans (congrArg some (by kernel_rfl))⟩
  t0 := Tryz.underlying0
  a0 := Tryz.isAgg0
  z0 := Tryz.sizeOf0
  v0 := Tryz.zeroValue0
  t3 := Tryz.underlying3
  a3 := Tryz.isAgg3
  z3 := Tryz.sizeOf3
  v3 := Tryz.zeroValue3
  t4 := Tryz.underlying4
  a4 := Tryz.isAgg4
  z4 := Tryz.sizeOf4
  v4 := Tryz.zeroValue4
  t22 := Tryz.underlying25
  a22 := Tryz.isAgg25
  z22 := Tryz.sizeOf25
  v22 := Tryz.zeroValue25
  a23 := Tryz.isAgg3
  z23 := Tryz.sizeOf3
  t25 := Tryz.underlying97
  a25 := Tryz.isAgg97
  z25 := Tryz.sizeOf97
  v25 := Tryz.zeroValue97 }
open Go.RowKit Go.Lib in
theorem Tryz.slices_ContainsFunc {α : Type} [Inhabited α] (enc : α → Value) (p : α → Bool) (g : Nat) (lb : Array Value) (eg : ∀ args w, (callFunc g args).run Tryz.prog w = .ok (.enter g args) w) (b off n c : Nat) (zs : List α) (w : World) (hp : PredAt Tryz.prog g lb enc p w) (hz : n ≤ zs.length) (hbig : n ≤ 9223372036854775807) (hc : ∀ j, j < zs.length → w.cell? ⟨b, off + j, none⟩ = some (enc zs[j]!)) :
    Calls Tryz.prog 80 #[.slice (some ⟨b, off, none⟩) n c, .func (.func g) #[] lb] w fun e w' => e = .returned (.bool ((zs.take n).any p)) ∧ ∃ q, w' = w.drewN q := AnyE.slices_ContainsFunc Tryz.laysSlH8_f80 enc p g lb eg b off n c zs w hp hz hbig hc
open Go.RowKit Go.Lib in
theorem Tryz.slices_ContainsFunc_empty {α : Type} [Inhabited α] (a : Option Addr) (c : Nat) (fv : Value) (w : World) :
    Calls Tryz.prog 80 #[.slice a 0 c, fv] w fun e w' => e = .returned (.bool false) ∧ w' = w := AnyE.slices_ContainsFunc_empty Tryz.laysSlH8_f80 a c fv w
end Go.Proofs

namespace Go.Proofs.YtdjgaffiildijaaGreat.TabImp
open Go Go.RowKit Byt Ints IntsLaw Cd Rows2 Tab TabSpec Exact

theorem str_clone (s : ByteArray) (w : World) (hs : s.size ≤ 1048577) :
    Calls Tryz.prog 63 #[.string s] w fun e w' => e = .returned (.string s) ∧ Below w.heap.size w w' := by
  have HC := Lib.hid (Tryz.stringslite_Clone s w (by omega))
  clear hs
  go_enter Tryz.func63, Tryz.ntmps63
  go_wp2_with (go_at_call 73; refine HC.out.mono ?_; rintro e w1 ⟨rfl, hb⟩)
  go_ret
  exact ⟨rfl, hb⟩

set_option maxRecDepth 100000 in
set_option maxHeartbeats 3200000 in
theorem copy_table (nm : ByteArray) (ar : Int) (u : Value) (rows : List (List Int)) (S : Nat → Prop) (w : World) (hr : rowsC.rd w S [u] rows) (hrw : rowsWt rows ≤ 1048577) (hnm : nm.size ≤ 1048577) :
    Calls Tryz.prog 51 #[.agg #[.string nm, .int .i64 ar, u]] w fun e w' => ∃ g fp, e = .returned (.agg #[.string nm, .int .i64 ar, .slice (some ⟨g, 0, none⟩) rows.length rows.length]) ∧ rowsC.ow w' w.heap.size [.slice (some ⟨g, 0, none⟩) rows.length rows.length] rows fp ∧ fp.Nodup ∧ Below w.heap.size w w' := by
  have HR := Lib.hid (fun w' (hb : Below w.heap.size w w') => Cd.later hr hb)
  have HWT := Lib.hid hrw
  have HNM := Lib.hid hnm
  obtain ⟨a, cap, rfl, hlm⟩ := rows_form hr
  clear hr hrw hnm
  go_enter Tryz.func51, Tryz.ntmps51
  go_wp2_with fail
  generalize hW : (w.alloc _).alloc _ = W
  obtain ⟨r0, r1, hz, hb0⟩ := start2g w _ _ hW
  clear hW
  have HT := Lib.hid (Loc3.of r0)
  have HX := Lib.hid (Loc3.of r1)
  have HB := Lib.hid hb0
  have HZ := Lib.hid hz
  have HCL := Lib.hid (str_clone nm W.drew HNM.out)
  have HMAP := Lib.hid (fun w' (hb : Below W.heap.size W w') => map_copy (.slice a rows.length cap) rows S w' (Cd.later (HR.out W HB.out) hb) HWT.out)
  clear r0 r1 hb0 hz
  have y0 := HT.out.c0
  have y1 := HT.out.c1
  have y2 := HT.out.c2
  go_region_law (first | (go_simp; go_at_call 63; refine HCL.out.mono ?_; rintro e wq ⟨rfl, hbq⟩; (have hq := undrew hbq); (have HQ := Lib.hid hq); (have hqz := hq.size); (have k0 := (HT.out.later hq).c0); (have k1 := (HT.out.later hq).c1); (have k2 := (HT.out.later hq).c2); clear hbq hq) | (go_simp; go_at_call 64; refine (HMAP.out wq HQ.out).mono ?_; rintro e wp ⟨g, fp, rfl, how, hnd, hbp⟩; (have HP := Lib.hid (below_then HQ.out hbp)); (have hpz := hbp.size); (have HOW := Lib.hid how); (have HND := Lib.hid hnd); (have j0 := (HT.out.later HP.out).c0); (have j1 := (HT.out.later HP.out).c1); (have j2 := (HT.out.later HP.out).c2); (have i0 := (HX.out.later HP.out).c0); (have i1 := (HX.out.later HP.out).c1); (have i2 := (HX.out.later HP.out).c2); (have f0 := (HX.out.later HP.out).f0); (have f1 := (HX.out.later HP.out).f1); (have f2 := (HX.out.later HP.out).f2); clear hbp how hnd))
  all_goals
    obtain ⟨k0, k1, k2⟩ := set3 (w := wp) (k := w.heap.size + 1) (x := .string nm) (y := .int .i64 ar) (z := .slice (some ⟨g, 0, none⟩) rows.length rows.length) i0 i1 i2
    clear y0 y1 y2 j0 j1 j2 i0 i1 i2 f0 f1 f2
    go_wp2_with fail
    refine bodyPost_ret (v := .agg #[.string nm, .int .i64 ar, .slice (some ⟨g, 0, none⟩) rows.length rows.length]) (by simp [results, Tryz.results51, go_sem, k0, k1, k2]) rfl ⟨g, fp, rfl, ?_, HND.out, ?_⟩
    · have hn : w.heap.size + 1 ∉ fp := fun q => by
        have h1 := (rowsC.ow_lt HOW.out _ q).1
        have h2 := HZ.out
        omega
      exact ow_setCell (ow_setCell (ow_setCell (rowsC.ow_base HOW.out (by have := HZ.out; omega)) hn _) hn _) hn _
    · have hb := below_then HB.out HP.out
      exact ((hb.setCell (by show _ ≤ w.heap.size + 1; omega) _).setCell (by show _ ≤ w.heap.size + 1; omega) _).setCell (by show _ ≤ w.heap.size + 1; omega) _
end Go.Proofs.YtdjgaffiildijaaGreat.TabImp

namespace Go.Proofs.YtdjgaffiildijaaGreat.DbImp
open Go Go.RowKit Byt Ints IntsLaw Cd Rows2 Tab SlMath TabOpen TabElem SlTable Db TabSpec DbMath TabImp DbMap DbExact
open Go.Maps (Keyed string_keyed IsMap Tidy)
open DbSpec (LaterD drewD row1 rows_cell name_cell lkT lk_none lk_some LookAns zeroT)

theorem law : Keyed Tryz.prog 9 := string_keyed Tryz.underlying9
theorem zeroE (w : World) : (zeroValue 56).run Tryz.prog w = .ok (.agg #[.string ⟨#[]⟩, .int .i64 0, .slice none 0 0]) w := by kernel_rfl
theorem key_of {s : ByteArray} (h : s.size ≤ maxLen) : keyOf Tryz.prog 9 (.string s) = some (keyL s) := WideMaps.keyOf_string_mk Tryz.underlying9 h
abbrev Owns (w : World) (B n : Nat) (D : DataW Value) : Prop := w.ownsMap Tryz.prog 9 tabR B n D
theorem grown_of {w w' : World} (h : Below w.heap.size w w') (row : Option Nat) : w.grownBy w' row := ⟨h.os, h.tape, h.output, h.size, fun i hi _ => h.block i hi⟩
theorem touch_grown {w w' : World} {b : Nat} (h : w.grownBy w' (some b)) : Cd.Touch [b] w w' := ⟨h.os, h.tape, h.output, h.size, fun k hk hn => h.block k hk (by simpa using hn)⟩
theorem Owns.later {w w' : World} {B n : Nat} {D : DataW Value} (h : Owns w B n D) (hb : Below w.heap.size w w') : Owns w' B n D := World.ownsMap.kept h (grown_of hb none) (by simp)
/-- The tables by their names; none of an invalid database. -/
def NamesAns (l : List T3) (ts : List TabV) (w : World) (e : Ending) (w' : World) : Prop :=
  ∃ B D n, e = .returned (.map (some B)) ∧ w.heap.size ≤ B ∧ Owns w' B n D ∧ n ≤ 6 ∧ MapIs D (entF (if dbOk l then ts else [])) (if dbOk l then l.length else 0) ∧ Below w.heap.size w w'
theorem names_ne {w : World} {S : Nat → Prop} {a : Option Addr} {l : List T3} {ts : List TabV} (h : HeldT w S a l ts) (ha : AscP l) {k : Nat} (hk : k < l.length) (hk' : k < ts.length) : ∀ u ∈ ts.take k, u.nm ≠ ts[k].nm := by
  intro u hu e
  obtain ⟨i, hi, rfl⟩ := List.getElem_of_mem hu
  rw [List.length_take] at hi
  rw [List.getElem_take, (h.2 i (by omega) (by omega)).1, (h.2 k hk hk').1] at e
  exact ltB_ne (List.pairwise_iff_getElem.1 ha i k (by omega) hk (by omega)) e

set_option maxRecDepth 100000 in
set_option maxHeartbeats 1600000 in
theorem impl_byname (a1 : Option Addr) (cap1 : Nat) (l : List T3) (ts : List TabV) (S : Nat → Prop) (w : World) (h1 : tabsC.rd w S [.slice a1 l.length cap1] l) (ht : HeldT w S a1 l ts) :
    Calls Tryz.prog 50 #[.agg #[.slice a1 l.length cap1]] w fun e w' => NamesAns l ts w e w' := by
  have HT := Lib.hid (fun w' (hb : Below w.heap.size w w') => HeldT.later ht hb)
  have HV := Lib.hid (fun w' (hb : Below w.heap.size w w') => impl_dbok _ l S w' (Cd.later h1 hb))
  have HL := Lib.hid ht.1
  have hmm := @run_makeMap Tryz.prog
  clear h1 ht
  go_enter Tryz.func50, Tryz.ntmps50
  go_wp2_with fail
  have hM0 := World.ownsMap_made (w.alloc (.cells #[.slice a1 l.length cap1] 32 (0, 0))) Tryz.prog 9 tabR
  rw [size_alloc] at hM0
  generalize hW : (w.alloc _).alloc _ = W at *
  have HM0 := Lib.hid (show Owns W (w.heap.size + 1) 0 (.map []) from hM0)
  clear hM0
  obtain ⟨r0, r1, hz, hb0⟩ := start2g w _ _ hW
  have HC0 := Lib.hid (Loc1.of r0)
  have HB0 := Lib.hid hb0
  have HZ := Lib.hid hz
  clear hW r0 r1 hz
  refine (HV.out _ hb0).mono ?_
  rintro e w1 ⟨rfl, hb1⟩
  have HM1 := Lib.hid (Owns.later HM0.out hb1)
  have HB1 := Lib.hid (below_then HB0.out hb1)
  have c0 := (HC0.out.later hb1).c0
  have HS1 := Lib.hid (show w.heap.size + 2 ≤ w1.heap.size by have := hb1.size; have := HZ.out; omega)
  clear hb0 hb1 hmm
  cases hv : dbOk l
  · have HVV := Lib.hid hv
    go_wp2_with fail
    go_ret
    exact ⟨_, _, _, rfl, Nat.le_succ _, HM1.out, by omega, by rw [HVV.out]; exact MapIs.start, HB1.out⟩
  have HVV := Lib.hid hv
  have H6 := Lib.hid (dbOk_iff.1 hv)
  have hl6 : l.length ≤ 6 := H6.out.1
  clear hv
  go_wp2_with fail
  go_loopw [14] (fun i wr => ∃ (k : Nat) (D : DataW Value), k ≤ l.length ∧ i = .int .i64 k ∧ Owns wr (w.heap.size + 1) k D ∧ MapIs D (entF (ts.take k)) k ∧ Cd.Touch [w.heap.size + 1] w1 wr) (fun i _ => l.length - (intOf i).toNat)
  case atStart => exact ⟨0, .map [], Nat.zero_le _, rfl, HM1.out, MapIs.start, Cd.Touch.refl _ _⟩
  case round =>
    obtain ⟨k, D, hk, rfl, hown, hm, hto⟩ := hrel
    have HBW := Lib.hid (Cd.Touch.below HB1.out hto (fun b hb => by rw [List.mem_singleton.1 hb]; exact Nat.le_succ _))
    have HTO := Lib.hid hto
    have HM := Lib.hid hm
    have HSR := Lib.hid (Nat.le_trans HS1.out hto.size)
    clear c0 hto hm
    by_cases hlt : k < l.length
    · have hlt' : k < ts.length := by rw [HL.out]; exact hlt
      obtain ⟨hnm, ⟨b, off, rfl, hbB, hat⟩, hu⟩ := (HT.out wr HBW.out).2 k hlt hlt'
      have HNE := Lib.hid (names_ne (HT.out wr HBW.out) H6.out.2.2 hlt hlt')
      have HTK := Lib.hid (show ts.take (k + 1) = ts.take k ++ [ts[k]] from List.take_succ_eq_append_getElem hlt')
      have hns : (ts[k]).nm.size ≤ maxLen := by rw [hnm]; obtain ⟨u, _, h, _⟩ := tab_cells hu; exact h
      have p0 := hat 0 (by simp [TabV.us])
      have p1 := hat 1 (by simp [TabV.us])
      have p2 := hat 2 (by simp [TabV.us])
      simp only [TabV.us, List.getElem_cons_zero, List.getElem_cons_succ, Nat.add_zero] at p0 p1 p2
      have i1 : (0 : Int) ≤ (k : Int) := by omega
      have i2 : (k : Int) < (l.length : Int) := by omega
      have i3 := HSR.out
      have hn6 : k < maxLen := by have := H6.out.1; unfold maxLen; omega
      clear hu hat hnm
      generalize ts[k] = t at *
      have hownA := World.ownsMap.alloc hown (.cells #[.string t.nm, .int .i64 t.ar, .slice t.a t.n t.c] 56 (0, 0))
      go_wp2_with (first
        | (at_mapUpdate; refine wpList_mapUpdate_own _ rfl _ _ _ 81 rfl 9 56 law Tryz.underlying81 tabR (w.heap.size + 1) k D rfl hownA hn6 _ _ (keyL t.nm) rfl rfl (key_of hns) _ [] (tabR_mk t) ?_; intro w2 hown2 hg2; go_frame)
        | go_in)
      have HT2 := Lib.hid (HTO.out.trans ((Cd.Touch.of_below (below_alloc wr _)).trans (touch_grown hg2)))
      have HO2 := Lib.hid hown2
      have HM2 := Lib.hid (show MapIs (D.put (keyL t.nm) (.held t.val)) (entF (ts.take (k + 1))) (k + 1) from by
        have h := HM.out.put t.nm t
        rw [HTK.out, entF_more HNE.out]
        exact h.eq rfl (by rw [entF_none HNE.out]; rfl))
      clear hg2 hown2 hown hownA
      go_wp2_with fail
      go_roundw
      case rel => exact ⟨k + 1, _, by omega, by go_num, HO2.out, HM2.out, HT2.out⟩
      case measure => simp [intOf]; omega
    · have ek : k = l.length := by omega
      subst ek
      have HO := Lib.hid hown
      clear hown
      go_wp2_with fail
      go_ret
      refine ⟨_, _, _, rfl, Nat.le_succ _, HO.out, H6.out.1, ?_, HBW.out⟩
      rw [HVV.out]
      have h := HM.out
      rw [← HL.out, List.take_length] at h
      exact h.eq rfl HL.out

theorem copy_rows_i (us : List Value) (T : T3) (S : Nat → Prop) (w : World) (hu : tabC.rd w S us T) (hw : wtT T ≤ 1048577) :
    Calls Tryz.prog 51 #[.agg us.toArray] w fun e w' => ∃ a c fp, e = .returned (.agg #[.string T.1, .int .i64 T.2.1, .slice a T.2.2.length c]) ∧ rowsC.ow w' w.heap.size [.slice a T.2.2.length c] T.2.2 fp ∧ fp.Nodup ∧ Below w.heap.size w w' := by
  obtain ⟨u, rfl, h1, h2, h3⟩ := tab_cells hu
  refine (copy_table T.1 T.2.1 u T.2.2 S w h3 (by unfold wtT tabWt at hw; omega) (by unfold wtT tabWt at hw; omega)).mono ?_
  rintro e w' ⟨g, fp, rfl, how, hnd, hb⟩
  exact ⟨_, _, fp, rfl, how, hnd, hb⟩
theorem find_wt {l : List T3} {s : ByteArray} {T : T3} (h : findN l s = some T) : wtT T ≤ wtS l := by
  obtain ⟨k, hk, rfl⟩ := List.getElem_of_mem (findN_some h).1
  have := sumN_mem wtT hk
  unfold wtS
  omega
set_option maxRecDepth 100000 in
set_option maxHeartbeats 1600000 in
theorem impl_look (u : Value) (l : List T3) (nm : ByteArray) (S : Nat → Prop) (w : World) (h1 : tabsC.rd w S [u] l) (hw : wtS l ≤ 1048577) (hs : nm.size ≤ 1048576) :
    Calls Tryz.prog 31 #[.agg #[u], .string nm] w fun e w' => LookAns l nm w e w' := by
  obtain ⟨a1, cap1, rfl, hl1⟩ := Cd.sl_form h1
  obtain ⟨ts, ht⟩ := held_of h1
  have HT := Lib.hid (fun w' (hb : Below w.heap.size w w') => HeldT.later ht hb)
  have HNA := Lib.hid (fun w' (hb : Below w.heap.size w w') => impl_byname a1 cap1 l ts S w' (Cd.later h1 hb) (HeldT.later ht hb))
  have HK := Lib.hid (key_of (s := nm) (by unfold maxLen; omega))
  have HWT := Lib.hid hw
  clear h1 ht hw hs
  go_enter Tryz.func31, Tryz.ntmps31
  go_wp2_with fail
  generalize hW : (w.alloc _).alloc _ = W
  obtain ⟨r0, r1, hz, hb0⟩ := start2g w _ _ hW
  have HC1 := Lib.hid r1
  have HB0 := Lib.hid hb0
  have HZ := Lib.hid hz
  clear hW r0 r1 hz hb0
  refine (HNA.out _ HB0.out).mono ?_
  rintro e w1 ⟨B, D, n, rfl, hBl, hown, _, hm, hb1⟩
  have HC2 := Lib.hid ((hb1.block (w.heap.size + 1) (by have := HZ.out; omega)).trans HC1.out)
  have HB1 := Lib.hid (below_then HB0.out hb1)
  have HS1 := Lib.hid (show w.heap.size + 1 < w1.heap.size by have := hb1.size; have := HZ.out; omega)
  have HM := Lib.hid hm
  clear hb1 hm hBl
  have hcase : (lookL l nm = none ∧ entF (if dbOk l then ts else []) nm = none) ∨ ∃ T t, lookL l nm = some T ∧ entF (if dbOk l then ts else []) nm = some t ∧ findN l nm = some T ∧ ∀ w', Below w.heap.size w w' → tabC.rd w' S t.us T := by
    unfold lookL
    cases hv : dbOk l
    · exact .inl ⟨rfl, rfl⟩
    · rcases entF_find (HT.out w (Below.refl _ _)) nm with ⟨q1, q2⟩ | ⟨T, t, q1, q2, q3⟩
      · exact .inl ⟨q1, q2⟩
      · exact .inr ⟨T, t, q1, q2, q1, fun w' hb => Cd.later q3 hb⟩
  rcases hcase with ⟨hl, he⟩ | ⟨T, t, hl, he, hf, hr⟩
  · have hh : Maps.has D (keyL nm) = false := by rw [HM.out.has, he]; rfl
    have HLK := Lib.hid hl
    clear hl he
    obtain ⟨n0, n1, n2, g0, g1, g2⟩ := row3 HC2.out
    have hs1 := HS1.out
    go_wp2_with (first
      | (at_lookup; refine wpList_lookup_own_ok _ rfl _ _ 81 rfl 9 56 law Tryz.underlying81 tabR (zeroE _) (.held (.agg #[.string ⟨#[]⟩, .int .i64 0, .slice none 0 0])) [] rfl B n D rfl hown _ (keyL nm) rfl HK.out ?_; intro v ps hv; obtain ⟨t, rfl, _⟩ := tabR_inv hv; unfold TabV.val; rw [hh]; clear hv))
    have G := set3 (w := w1) (k := w.heap.size + 1) (x := .string ⟨#[]⟩) (y := .int .i64 0) (z := .slice none 0 0) n0 n1 n2
    have HB4 : Below w.heap.size w (((w1.setCell ⟨w.heap.size + 1, 0, none⟩ (.string ⟨#[]⟩)).setCell ⟨w.heap.size + 1, 1, none⟩ (.int .i64 0)).setCell ⟨w.heap.size + 1, 2, none⟩ (.slice none 0 0)) := ((HB1.out.setCell (by show _ ≤ w.heap.size + 1; omega) _).setCell (by show _ ≤ w.heap.size + 1; omega) _).setCell (by show _ ≤ w.heap.size + 1; omega) _
    have hx : w.heap.size + 1 < (((w1.setCell ⟨w.heap.size + 1, 0, none⟩ (.string ⟨#[]⟩)).setCell ⟨w.heap.size + 1, 1, none⟩ (.int .i64 0)).setCell ⟨w.heap.size + 1, 2, none⟩ (.slice none 0 0)).heap.size := by simpa using hs1
    generalize (((w1.setCell ⟨w.heap.size + 1, 0, none⟩ (.string ⟨#[]⟩)).setCell ⟨w.heap.size + 1, 1, none⟩ (.int .i64 0)).setCell ⟨w.heap.size + 1, 2, none⟩ (.slice none 0 0)) = w4 at *
    have hbA := below_alloc w4 (.cells #[.string t.nm, .int .i64 t.ar, .slice t.a t.n t.c] 56 (0, 0))
    have k0 := (hbA.cell (p := ⟨w.heap.size + 1, 0, none⟩) hx).trans G.1
    have k1 := (hbA.cell (p := ⟨w.heap.size + 1, 1, none⟩) hx).trans G.2.1
    have k2 := (hbA.cell (p := ⟨w.heap.size + 1, 2, none⟩) hx).trans G.2.2
    have HBA := Lib.hid (below_then HB4 hbA)
    clear hbA
    refine bodyPost_ret (v := .tuple #[.agg #[.string ⟨#[]⟩, .int .i64 0, .slice none 0 0], .bool false]) (by simp [results, Tryz.results31, go_sem, k0, k1, k2]) rfl (LookAns.none HLK.out HBA.out)
  · have hh : Maps.has D (keyL nm) = true := by rw [HM.out.has, he]; rfl
    have hat := HM.out.at_ nm t (.held (.agg #[.string ⟨#[]⟩, .int .i64 0, .slice none 0 0])) he
    have HLK := Lib.hid hl
    have HCP := Lib.hid (fun w' (hb : Below w.heap.size w w') => copy_rows_i t.us T S w' (hr w' hb) (by have := find_wt hf; have := HWT.out; omega))
    clear hl he hf hr
    go_wp2_with (first
      | (at_lookup; refine wpList_lookup_own_ok _ rfl _ _ 81 rfl 9 56 law Tryz.underlying81 tabR (zeroE _) (.held (.agg #[.string ⟨#[]⟩, .int .i64 0, .slice none 0 0])) [] rfl B n D rfl hown _ (keyL nm) rfl HK.out ?_; intro v ps hv; rw [hat] at hv; obtain ⟨t', rfl, ht'⟩ := tabR_inv hv; (have ht' : t.val = t'.val := by injection ht' with q _; injection q); rw [← ht', hh]; unfold TabV.val; clear hv ht'))
    have hbA := below_alloc w1 (.cells #[.string t.nm, .int .i64 t.ar, .slice t.a t.n t.c] 56 (0, 0))
    have HB2 := Lib.hid (below_then HB1.out hbA)
    have HC3 := Lib.hid (hbA.block (w.heap.size + 1) HS1.out |>.trans HC2.out)
    have HS2 := Lib.hid (Nat.lt_of_lt_of_le HS1.out hbA.size)
    refine (HCP.out _ HB2.out).mono ?_
    rintro e w3 ⟨a3, c3, fp, rfl, ho, hn, hb3⟩
    have HB4 := Lib.hid (below_then HB2.out hb3)
    obtain ⟨m0, m1, m2, f0, f1, f2⟩ := row3 ((hb3.block (w.heap.size + 1) HS2.out).trans HC3.out)
    have HO := Lib.hid ho
    have HN := Lib.hid hn
    clear ho hn hb3 hbA
    go_wp2_with fail
    have G0 := set3 (w := w3) (k := w.heap.size + 1) (x := .string T.1) (y := .int .i64 T.2.1) (z := .slice a3 T.2.2.length c3) m0 m1 m2
    have hfar : w.heap.size + 1 ∉ fp := fun q => by have := (rowsC.ow_lt HO.out _ q).1; have := HS2.out; omega
    refine bodyPost_ret (v := .tuple #[.agg #[.string T.1, .int .i64 T.2.1, .slice a3 T.2.2.length c3], .bool true]) (by simp [results, Tryz.results31, go_sem, G0.1, G0.2.1, G0.2.2]) rfl (LookAns.some HLK.out ?_ HN.out ?_)
    · exact ow_setCell (ow_setCell (ow_setCell (rowsC.ow_base HO.out (by have := HS2.out; omega)) hfar _) hfar _) hfar _
    · exact ((HB4.out.setCell (by show _ ≤ w.heap.size + 1; omega) _).setCell (by show _ ≤ w.heap.size + 1; omega) _).setCell (by show _ ≤ w.heap.size + 1; omega) _
end Go.Proofs.YtdjgaffiildijaaGreat.DbImp

namespace Go.Proofs
open Go.Shelf
def Tryz.laysSk6_ren : Go.Shelf.Ren := ⟨fun | 6 => 70 | 15 => 78 | 14 => 77 | 28 => 91 | 29 => 92 | 20 => 83 | 21 => 84 | 22 => 85 | 23 => 86 | 24 => 87 | 25 => 88 | 26 => 89 | 27 => 90 | 46 => 95 | 47 => 96 | 48 => 97 | 49 => 98 | 50 => 99 | 57 => 101 | n => n, fun | 22 => 30 | 24 => 56 | 25 => 96 | 3 => 3 | 39 => 104 | 0 => 0 | 53 => 116 | 55 => 118 | 4 => 4 | 46 => 109 | 45 => 108 | 50 => 113 | 5 => 5 | 9 => 9 | 66 => 121 | 70 => 125 | 76 => 127 | 77 => 128 | n => n, fun | n => n⟩
theorem Tryz.laysSk6 : Go.Proofs.SlLaysF0.n6 Tryz.prog Tryz.laysSk6_ren := {
  mixed := by kernel_rfl
  f6 := ⟨Tryz.f70.name, by decide, Tryz.func70.trans (congrArg some (by kernel_rfl))⟩
  f14 := ⟨Tryz.f77.name, by decide, Tryz.func77.trans (congrArg some (by kernel_rfl))⟩
  f15 := Tryz.func78.trans (congrArg some (by kernel_rfl))
  f20 := ⟨Tryz.f83.name, by decide, Tryz.func83.trans (congrArg some (by kernel_rfl))⟩
  f21 := ⟨Tryz.f84.name, by decide, Tryz.func84.trans (congrArg some (by kernel_rfl))⟩
  f22 := ⟨Tryz.f85.name, by decide, Tryz.func85.trans (congrArg some (by kernel_rfl))⟩
  f23 := ⟨Tryz.f86.name, by decide, Tryz.func86.trans (congrArg some (by kernel_rfl))⟩
  f24 := ⟨Tryz.f87.name, by decide, Tryz.func87.trans (congrArg some (by kernel_rfl))⟩
  f25 := ⟨Tryz.f88.name, by decide, Tryz.func88.trans (congrArg some (by kernel_rfl))⟩
  f26 := ⟨Tryz.f89.name, by decide, Tryz.func89.trans (congrArg some (by kernel_rfl))⟩
  f27 := ⟨Tryz.f90.name, by decide, Tryz.func90.trans (congrArg some (by kernel_rfl))⟩
  f28 := Tryz.func91.trans (congrArg some (by kernel_rfl))
  f29 := Tryz.func92.trans (congrArg some (by kernel_rfl))
  f46 := ⟨Tryz.f95.name, by decide, Tryz.func95.trans (congrArg some (by kernel_rfl))⟩
  f47 := Tryz.func96.trans (congrArg some (by kernel_rfl))
  f48 := Tryz.func97.trans (congrArg some (by kernel_rfl))
  f49 := ⟨Tryz.f98.name, by decide, Tryz.func98.trans (congrArg some (by kernel_rfl))⟩
  f50 := ⟨Tryz.f99.name, by decide, Tryz.func99.trans (congrArg some (by kernel_rfl))⟩
  f57 := ⟨Tryz.f101.name, by decide, Tryz.func101.trans (congrArg some (by kernel_rfl))⟩
  t0 := Tryz.underlying0
  a0 := Tryz.isAgg0
  z0 := Tryz.sizeOf0
  v0 := Tryz.zeroValue0
  t3 := Tryz.underlying3
  a3 := Tryz.isAgg3
  z3 := Tryz.sizeOf3
  v3 := Tryz.zeroValue3
  t4 := Tryz.underlying4
  a4 := Tryz.isAgg4
  z4 := Tryz.sizeOf4
  v4 := Tryz.zeroValue4
  t5 := Tryz.underlying5
  a5 := Tryz.isAgg5
  z5 := Tryz.sizeOf5
  v5 := Tryz.zeroValue5
  t9 := Tryz.underlying9
  a9 := Tryz.isAgg9
  z9 := Tryz.sizeOf9
  v9 := Tryz.zeroValue9
  t22 := Tryz.underlying30
  a22 := Tryz.isAgg30
  z22 := Tryz.sizeOf30
  v22 := Tryz.zeroValue30
  t25 := Tryz.underlying96
  a25 := Tryz.isAgg96
  z25 := Tryz.sizeOf96
  v25 := Tryz.zeroValue96
  t39 := Tryz.underlying104
  a39 := Tryz.isAgg104
  z39 := Tryz.sizeOf104
  v39 := Tryz.zeroValue104
  t45 := Tryz.underlying108
  a45 := Tryz.isAgg108
  z45 := Tryz.sizeOf108
  v45 := Tryz.zeroValue108
  t46 := Tryz.underlying109
  a46 := Tryz.isAgg109
  z46 := Tryz.sizeOf109
  v46 := Tryz.zeroValue109
  t50 := Tryz.underlying113
  a50 := Tryz.isAgg113
  z50 := Tryz.sizeOf113
  v50 := Tryz.zeroValue113
  t53 := Tryz.underlying116
  a53 := Tryz.isAgg116
  z53 := Tryz.sizeOf116
  v53 := Tryz.zeroValue116
  t55 := Tryz.underlying118
  a55 := Tryz.isAgg118
  z55 := Tryz.sizeOf118
  v55 := Tryz.zeroValue118
  t66 := Tryz.underlying121
  a66 := Tryz.isAgg121
  z66 := Tryz.sizeOf121
  v66 := Tryz.zeroValue121
  t70 := Tryz.underlying125
  a70 := Tryz.isAgg125
  z70 := Tryz.sizeOf125
  v70 := Tryz.zeroValue125
  t76 := Tryz.underlying127
  a76 := Tryz.isAgg127
  z76 := Tryz.sizeOf127
  v76 := Tryz.zeroValue127
  t77 := Tryz.underlying128
  a77 := Tryz.isAgg128
  z77 := Tryz.sizeOf128
  v77 := Tryz.zeroValue128 }
end Go.Proofs

namespace Go.Proofs.YtdjgaffiildijaaGreat.DbSort
open Go Go.RowKit Byt Ints IntsLaw Cd Rows2 Tab SlMath TabOpen TabElem SlTable Db TabSpec DbMath TabImp DbMap DbExact DbImp

/-- A table with its cells and the blocks below it. -/
structure Tri where
  t : TabV
  T : T3
  f : List Nat
instance : Inhabited Tri := ⟨⟨⟨⟨#[]⟩, 0, none, 0, 0⟩, (⟨#[]⟩, 0, []), []⟩⟩
def encT (x : Tri) : List Value := x.t.us
def cfT (x y : Tri) : Int := cmpN x.t.nm y.t.nm
theorem ltOf_cf (x y : Tri) : ltOf cfT x y = ltB x.t.nm y.t.nm := by
  unfold ltOf cfT
  have := cmpN_lt x.t.nm y.t.nm
  cases h : ltB x.t.nm y.t.nm
  · rw [h] at this; simp only [Bool.false_eq_true, iff_false] at this; exact decide_eq_false this
  · rw [h] at this; exact decide_eq_true (this.2 rfl)
theorem swoT : Sort.SWO (ltOf cfT) where
  irrefl x := by rw [ltOf_cf, ltB_irrefl]
  trans x y z h1 h2 := by rw [ltOf_cf] at *; exact ltB_trans h1 h2
  ntrans x y z h1 h2 := by
    rw [ltOf_cf] at *
    cases h : ltB x.t.nm z.t.nm
    · rfl
    · cases q : ltB y.t.nm x.t.nm
      · rw [ltB_tri h1 q] at h; rw [h] at h2; cases h2
      · have := ltB_trans q h; rw [this] at h2; cases h2
theorem tri_each {w : World} {base : Nat} : ∀ {xss : List (List Value)} {l : List T3} {fps : List (List Nat)}, Cd.Each tabC w base xss l fps → ∃ ds : List Tri, ds.map encT = xss ∧ ds.map Tri.T = l ∧ ds.map Tri.f = fps ∧ ∀ x ∈ ds, tabC.ow w base x.t.us x.T x.f
  | [], [], [], _ => ⟨[], rfl, rfl, rfl, fun _ h => by cases h⟩
  | x :: xs, T :: l, f :: fs, h => by
    obtain ⟨ds, h1, h2, h3, h4⟩ := tri_each (xss := xs) (l := l) (fps := fs) h.2
    obtain ⟨a, c, rfl⟩ := shape_ow h.1
    refine ⟨⟨⟨T.1, T.2.1, a, T.2.2.length, c⟩, T, f⟩ :: ds, by rw [List.map_cons, h1]; rfl, by rw [List.map_cons, h2], by rw [List.map_cons, h3], fun y hy => ?_⟩
    rcases List.mem_cons.1 hy with rfl | q
    · exact h.1
    · exact h4 y q
theorem each_tri {w : World} {base : Nat} : ∀ (ds : List Tri), (∀ x ∈ ds, tabC.ow w base x.t.us x.T x.f) → Cd.Each tabC w base (ds.map encT) (ds.map Tri.T) (ds.map Tri.f)
  | [], _ => trivial
  | x :: ds, h => ⟨h x List.mem_cons_self, each_tri ds fun y hy => h y (List.mem_cons_of_mem _ hy)⟩
theorem flat_at : ∀ (ds : List Tri) (j : Nat), j < ds.length * 3 → (ds.map encT).flatten[j]? = some ((encT (ds.toArray[j / 3]!))[j % 3]!)
  | [], j, h => by simp at h
  | x :: ds, j, h => by
    rw [List.map_cons, List.flatten_cons]
    by_cases q : j < 3
    · rw [List.getElem?_append_left (by simpa [encT, TabV.us] using q), Nat.div_eq_of_lt q, Nat.mod_eq_of_lt q]
      have e : (x :: ds).toArray[0]! = x := rfl
      rw [e, getElem!_pos (encT x) j (by simpa [encT, TabV.us] using q), List.getElem?_eq_getElem]
    · have hl : (encT x).length = 3 := rfl
      rw [List.getElem?_append_right (by omega), hl, flat_at ds (j - 3) (by rw [List.length_cons] at h; omega)]
      have e1 : j / 3 = (j - 3) / 3 + 1 := by omega
      have e2 : j % 3 = (j - 3) % 3 := by omega
      rw [e1, e2]
      have hj : (j - 3) / 3 < ds.length := by rw [List.length_cons] at h; omega
      rw [getElem!_pos ds.toArray _ (by simpa using hj), getElem!_pos (x :: ds).toArray _ (by simpa using hj)]
      simp
theorem flat_len : ∀ (ds : List Tri), (ds.map encT).flatten.length = ds.length * 3
  | [] => rfl
  | x :: ds => by rw [List.map_cons, List.flatten_cons, List.length_append, flat_len ds, List.length_cons]; show 3 + _ = _; omega
theorem put_take (ds : List Tri) (cur : Array Value) (h : ds.length * 3 ≤ cur.size) : (Sort.putCells id 0 (Sort.flatK encT 3 ds.toArray) cur).toList.take (ds.length * 3) = (ds.map encT).flatten := by
  apply List.ext_getElem?
  intro j
  by_cases hj : j < ds.length * 3
  · rw [flat_at ds j hj, List.getElem?_take, if_pos hj, Array.getElem?_toList]
    unfold Sort.putCells
    rw [Array.getElem?_mapIdx, Array.getElem?_eq_getElem (by omega)]
    simp only [Option.map_some, Sort.size_flatK, List.size_toArray, Nat.zero_le, true_and, Nat.zero_add, hj, if_true, id, Nat.sub_zero]
    rw [Sort.get_flatK _ _ _ _ (by simpa using hj)]
  · rw [List.getElem?_eq_none (by rw [List.length_take]; omega), List.getElem?_eq_none (by rw [flat_len]; omega)]
theorem heap_grow (w : World) (os : Array Obj) {k : Nat} (h : k < w.heap.size) : (Sort.grow w os).heap[k]? = w.heap[k]? := by
  show (w.heap ++ os)[k]? = w.heap[k]?
  rw [Array.getElem?_append_left h]
theorem heap_sort (w : World) (g m : Nat) (d : Array Tri) (os : Array Obj) (hg : g < w.heap.size) {cur : Array Value} {e : TypeId} (h : w.heap[g]? = some (.cells cur e (0, 0))) :
    (sortWorldK encT 3 w g 0 m d os).heap[g]? = some (.cells (Sort.putCells id 0 (Sort.flatK encT 3 d) cur) e (0, 0)) := by
  unfold sortWorldK
  rw [heap_grow _ os (by rw [Sort.size_putRowK]; exact hg)]
  show (w.heap.modify g _)[g]? = _
  rw [Array.getElem?_modify, if_pos rfl, h]
  rfl
theorem touch_sortK (w : World) (g m : Nat) (d : Array Tri) (os : Array Obj) : Cd.Touch [g] w (sortWorldK encT 3 w g 0 m d os) := by
  unfold sortWorldK
  exact ((Cd.touch_ahead _ w m).trans (Cd.touch_putRow id _ g _)).trans (Cd.Touch.of_below (below_grow _ os))

/-- The same tables, in the order of their names. -/
def SortAns (g cap base : Nat) (l : List T3) (w : World) (e : Ending) (w' : World) : Prop :=
  ∃ l' fp', e = .returned (.tuple #[]) ∧ tabsC.ow w' base [.slice (some ⟨g, 0, none⟩) l'.length cap] l' fp' ∧ fp'.Nodup ∧ l'.Perm l ∧ l'.Pairwise (fun a b => ltB b.1 a.1 = false) ∧ Cd.Touch [g] w w'

set_option maxRecDepth 100000 in
set_option maxHeartbeats 1600000 in
theorem sort_tables (g cap base : Nat) (l : List T3) (fp : List Nat) (w : World) (ho : tabsC.ow w base [.slice (some ⟨g, 0, none⟩) l.length cap] l fp) (hn : fp.Nodup) (hl : l.length ≤ 1000000) :
    Calls Tryz.prog 70 #[.slice (some ⟨g, 0, none⟩) l.length cap, .func (.func 66) #[] #[]] w fun e w' => SortAns g cap base l w e w' := by
  obtain ⟨v', xss, fps, e1, hown, hE, rfl⟩ := ho
  injection e1 with e1 _
  subst e1
  obtain ⟨ds, rfl, rfl, rfl, hds⟩ := tri_each hE
  have hdl : (ds.map Tri.T).length = ds.length := List.length_map ..
  rcases hown.2 with ⟨h', _⟩ | ⟨g', cap', cur, h', hbg, hg, hnc, hcm, hcs, htake⟩
  · cases h'
  simp only [Value.slice.injEq, Option.some.injEq, Addr.mk.injEq, and_true, true_and] at h'
  obtain ⟨rfl, rfl⟩ := h'
  have hgw : g < w.heap.size := (Array.getElem?_eq_some_iff.1 hg).1
  simp only [Value.ownBlock, Option.toList_some, List.cons_append, List.nil_append, List.nodup_cons] at hn
  have hsz : ds.toArray.size = (ds.map Tri.T).length := by rw [hdl]; rfl
  have hH : Sort.HoldsK encT 3 w g 0 ds.toArray := by
    intro j hj
    rw [Sort.size_flatK, List.size_toArray] at hj
    have hc := World.ownsRow.cellAt hown j (by rw [hdl]; exact hj)
    rw [flat_at ds j hj] at hc
    rw [Sort.get_flatK _ _ _ _ (by simpa using hj), Nat.zero_add]
    exact ⟨hc, by simp [World.frozen?, hg]⟩
  have hcmp : CmpLays Tryz.prog 66 #[] encT 3 cfT g 0 ds.toArray.size w := fun m os dk _ x y =>
    (cmp_names x.t.nm y.t.nm _ _ _ _ _).mono fun _ _ ⟨he, os', hw⟩ => ⟨he, 0, os', hw⟩
  have hs := AnyQ.slices_SortFunc Tryz.laysSk6 3 Tryz.isAgg56 Tryz.sizeOf56 encT (fun _ => rfl) (fun x v hv => by simp [encT, TabV.us] at hv; rcases hv with rfl | rfl | rfl <;> rfl) cfT swoT 66 #[] g 0 cap ds.toArray w (enters_of Tryz.func66 (by kernel_rfl) rfl) hcmp hH hgw (by rw [hsz]; omega)
  rw [hsz] at hs
  refine Calls.mono (show Calls Tryz.prog 70 _ w _ from hs) ?_
  rintro e w' ⟨rfl, d', m, os, hP, hS, rfl⟩
  obtain ⟨hp1, _, hp3⟩ := hP
  have hd' : d'.size = ds.length := by rw [hp1]; rfl
  have hp : d'.toList.Perm ds := by
    have e1 : d'.extract 0 (ds.map Tri.T).length = d' := by rw [hdl, ← hd', Array.extract_size]
    have e2 : ds.toArray.extract 0 (ds.map Tri.T).length = ds.toArray := by rw [hdl, show ds.length = ds.toArray.size from rfl, Array.extract_size]
    rw [e1, e2] at hp3
    exact hp3
  have hto := touch_sortK w g m d' os
  have hmem : ∀ x ∈ d'.toList, tabC.ow w base x.t.us x.T x.f := fun x hx => hds x (hp.mem_iff.1 hx)
  have hfl : ((d'.toList.map Tri.f).flatten).Perm ((ds.map Tri.f).flatten) := (hp.map Tri.f).flatten
  have hdd : (d'.toList).length = ds.length := hd'
  have hlen : (d'.toList.map Tri.T).length = ds.length := by rw [List.length_map, hdd]
  have hE' : Cd.Each tabC (sortWorldK encT 3 w g 0 m d' os) base (d'.toList.map encT) (d'.toList.map Tri.T) (d'.toList.map Tri.f) := by
    refine Cd.Each.imp (each_tri d'.toList hmem) fun x a f hf hq => tabC.ow_keep hq fun b hb => hto.block b (tabC.ow_lt hq b hb).2 fun q => ?_
    rw [List.mem_singleton.1 q] at hb
    exact hn.1 (hfl.mem_iff.1 (List.mem_flatten.2 ⟨f, hf, hb⟩))
  have hs' := hd'
  refine ⟨d'.toList.map Tri.T, g :: (d'.toList.map Tri.f).flatten, rfl, ⟨_, _, _, rfl, ⟨?_, .inr ⟨g, cap, _, by rw [hlen], hbg, heap_sort w g m d' os hgw hg, by rw [hlen, ← hdl]; exact hnc, hcm, ?_, ?_⟩⟩, hE', rfl⟩, ?_, hp.map Tri.T, ?_, hto⟩
  · rw [flat_len, hlen, hdd]; rfl
  · unfold Sort.putCells; rw [Array.size_mapIdx]; exact hcs
  · rw [hlen, ← hdd]
    have := put_take d'.toList cur (by rw [hcs, hdd, ← hdl]; exact Nat.mul_le_mul_right _ hnc)
    exact this
  · exact List.nodup_cons.2 ⟨fun q => hn.1 (hfl.mem_iff.1 q), hfl.nodup_iff.2 hn.2⟩
  · rw [List.pairwise_map]
    rw [List.pairwise_iff_getElem]
    intro i j hi hj hij
    have h1 := hS i j (Nat.zero_le _) hij (by rw [hdl, ← hdd]; exact hj)
    rw [ltOf_cf, getElem!_pos d' j (by simpa using hj), getElem!_pos d' i (by simpa using hi)] at h1
    have ei : ∀ x ∈ d'.toList, x.t.nm = x.T.1 := fun x hx => by
      have := DbSpec.name_cell (tabC.ow_rd (hmem x hx))
      injection this
    rw [← ei _ (List.getElem_mem hi), ← ei _ (List.getElem_mem hj), Array.getElem_toList, Array.getElem_toList]
    exact h1
end Go.Proofs.YtdjgaffiildijaaGreat.DbSort
