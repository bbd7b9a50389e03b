/- Databases: the program's order of names and its check. -/
import Derived.Test.YtnoennmhifmolaaDbValid
import Derived.Test.YtnoennmhifmolaaTabImp2
import Derived.Sort.Grow
import Derived.Deep.QuietTactic
namespace Go.Proofs.Ytnoennmhifmolaa.DbImp
open Go Go.RowKit Byt Ints IntsLaw Cd Rows2 Tab SlMath TabOpen TabElem SlTable Db TabSpec DbMath DbSpec TabImp

def cmpN (a b : ByteArray) : Int := if ltB a b then -1 else if ltB b a then 1 else 0
theorem cmpN_lt (a b : ByteArray) : cmpN a b < 0 ↔ ltB a b = true := by
  unfold cmpN
  split
  · rename_i h; simp [h]
  · rename_i h
    split <;> simp [h]
theorem gtr_eq (a b : ByteArray) (h : ltB a b = false) : (!(ltB a b || a.toList == b.toList)) = ltB b a := by
  rw [h, eqB]
  by_cases e : a = b
  · subst e; rw [ltB_irrefl]; simp
  · rw [decide_eq_false e]
    cases k : ltB b a
    · exact absurd (ltB_tri h k) e
    · rfl
theorem less_eq (a b : ByteArray) : Op.bytesLess a.toList b.toList = ltB a b := rfl
theorem nan_str (a : ByteArray) (w : World) : Calls Try.prog 133 #[.string a] w fun e w' => e = .returned (.bool false) ∧ w = w' := by
  go_enter Try.func133, Try.ntmps133
  go_wp2_with fail
  go_ret
  exact ⟨by simp, rfl⟩
set_option maxRecDepth 100000 in
theorem cmp_str (a b : ByteArray) (w : World) : Calls Try.prog 129 #[.string a, .string b] w fun e w' => e = .returned (.int .i64 (cmpN a b)) ∧ w = w' := by
  cases h : ltB a b
  · have hg := gtr_eq a b h
    have HC := Lib.hid (show cmpN a b = if ltB b a then 1 else 0 by unfold cmpN; rw [h]; rfl)
    rw [h] at hg
    have h' : Op.bytesLess a.toList b.toList = false := h
    cases k : ltB b a
    · rw [k] at hg HC
      have hg' : (a.toList == b.toList) = true := by simpa using hg
      clear hg h
      go_enter Try.func129, Try.ntmps129
      go_wp2_with (first | (go_at_call 133; refine (nan_str _ _).mono ?_; rintro e w' ⟨rfl, rfl⟩))
      go_ret
      exact ⟨by rw [HC.out]; rfl, rfl⟩
    · rw [k] at hg HC
      have hg' : (a.toList == b.toList) = false := by simpa using hg
      clear hg h
      go_enter Try.func129, Try.ntmps129
      go_wp2_with (first | (go_at_call 133; refine (nan_str _ _).mono ?_; rintro e w' ⟨rfl, rfl⟩))
      go_ret
      exact ⟨by rw [HC.out]; rfl, rfl⟩
  · have HC := Lib.hid (show cmpN a b = -1 by unfold cmpN; rw [h]; rfl)
    have h' : Op.bytesLess a.toList b.toList = true := h
    clear h
    go_enter Try.func129, Try.ntmps129
    go_wp2_with (first | (go_at_call 133; refine (nan_str _ _).mono ?_; rintro e w' ⟨rfl, rfl⟩))
    go_ret
    exact ⟨by rw [HC.out]; rfl, rfl⟩
theorem grow_two (w : World) (o1 o2 : Obj) : (w.alloc o1).alloc o2 = Sort.grow w #[o1, o2] := by
  show ({ w with heap := (w.heap.push o1).push o2 } : World) = { w with heap := w.heap ++ #[o1, o2] }
  rw [show (w.heap.push o1).push o2 = w.heap ++ #[o1, o2] by apply Array.ext'; simp]
set_option maxRecDepth 100000 in
theorem cmp_names (a b : ByteArray) (y z y' z' : Value) (w : World) : Calls Try.prog 118 #[.agg #[.string a, y, z], .agg #[.string b, y', z']] w fun e w' => e = .returned (.int .i64 (cmpN a b)) ∧ ∃ os, w' = Sort.grow w os := by
  have HC := Lib.hid (fun w' => cmp_str a b w')
  go_enter Try.func118, Try.ntmps118
  go_wp2_with fail
  refine (HC.out _).mono ?_
  rintro e w' ⟨rfl, rfl⟩
  go_wp2_with fail
  go_ret
  exact ⟨rfl, #[_, _], grow_two w _ _⟩
theorem below_grow (w : World) (os : Array Obj) : Below w.heap.size w (Sort.grow w os) :=
  ⟨rfl, rfl, rfl, by show _ ≤ (w.heap ++ os).size; rw [Array.size_append]; omega, fun k hk => by show (w.heap ++ os)[k]? = w.heap[k]?; rw [Array.getElem?_append_left hk]⟩
theorem val_elem_i (us : List Value) (T : T3) (S : Nat → Prop) (w : World) (hu : tabC.rd w S us T) :
    Calls Try.prog 76 #[.agg us.toArray] w fun e w' => e = .returned (.bool (okT T)) ∧ Below w.heap.size w w' := by
  obtain ⟨u, rfl, _, _, h3⟩ := tab_cells hu
  exact impl_valid T.1 T.2.1 u T.2.2 S w h3
set_option maxRecDepth 100000 in
set_option maxHeartbeats 1600000 in
theorem impl_dbok (u : Value) (l : List T3) (S : Nat → Prop) (w : World) (h1 : tabsC.rd w S [u] l) :
    Calls Try.prog 101 #[.agg #[u]] w fun e w' => e = .returned (.bool (dbOk l)) ∧ Below w.heap.size w w' := by
  have HR1 := Lib.hid (fun w' (hb : Below w.heap.size w w') => Cd.later h1 hb)
  obtain ⟨a1, cap1, rfl, hl1⟩ := Cd.sl_form h1
  clear h1
  by_cases h6 : 6 < l.length
  · have HZ := Lib.hid (show dbOk l = false from dbOk_no.2 fun q => by have := q.1; omega)
    have h6' : ((6 : Int) < (l.length : Int)) = True := by simp only [eq_iff_iff, iff_true]; omega
    go_enter Try.func101, Try.ntmps101
    go_wp2_with fail
    go_ret
    exact ⟨DbSpec.ret_b HZ.out.symm, below_alloc _ _⟩
  have H6 := Lib.hid (show l.length ≤ 6 by omega)
  have h6' : ((6 : Int) < (l.length : Int)) = False := by simp only [eq_iff_iff, iff_false]; omega
  go_enter Try.func101, Try.ntmps101
  go_wp2_with fail
  generalize hW : w.alloc _ = W
  obtain ⟨r0, hz, hb0⟩ := start1 w _ hW
  have HC0 := Lib.hid (row1 r0).1
  have HLT0 := Lib.hid (show w.heap.size < W.heap.size by omega)
  have HB0 := Lib.hid hb0
  clear hW r0 hz hb0
  go_loopw [12] (fun i wr => ∃ k : Nat, k ≤ l.length ∧ i = .int .i64 k ∧ (∀ T ∈ l.take k, okT T = true) ∧ AscP (l.take k) ∧ Below W.heap.size W wr) (fun i _ => l.length - (intOf i).toNat)
  case atStart => exact ⟨0, Nat.zero_le _, rfl, by simp, by simp [AscP], Below.refl _ _⟩
  case round =>
    obtain ⟨k, hk, rfl, hok, has, hb⟩ := hrel
    have x0 := (hb.cell (p := ⟨w.heap.size, 0, none⟩) HLT0.out).trans HC0.out
    have HOK := Lib.hid hok
    have HAS := Lib.hid has
    have HBW := Lib.hid (below_then HB0.out hb)
    have HWR := Lib.hid hb
    have HX0 := Lib.hid (And.intro x0 (World.block_lt_of_cell? _ _ x0))
    clear hok has
    by_cases hlt : k < l.length
    · obtain ⟨b, off, cap', us, e1, _, hbB, hat, hu⟩ := Cd.sl_at (HR1.out wr HBW.out) hlt
      injection e1 with e1 e2 e3
      subst e1 e3
      obtain ⟨x, y, z, rfl⟩ := len_list (tabC.len hu)
      have p0 := hat 0 (by simp)
      have p1 := hat 1 (by simp)
      have p2 := hat 2 (by simp)
      simp only [List.getElem_cons_zero, List.getElem_cons_succ, Nat.add_zero, show tabC.n = 3 from rfl] at p0 p1 p2
      obtain ⟨nk, hnk⟩ : ∃ nk, nk = (l[k]).1 := ⟨_, rfl⟩
      obtain rfl : x = .string nk := by rw [hnk]; exact name_cell hu
      obtain ⟨rk, hrk⟩ : ∃ rk, rk = (l[k]).2.1 := ⟨_, rfl⟩
      obtain ⟨qk, hqk⟩ : ∃ qk, qk = (l[k]).2.2.length := ⟨_, rfl⟩
      obtain ⟨ak, ck, hsh⟩ : ∃ a c, [y, z] = [.int .i64 rk, .slice a qk c] := by
        obtain ⟨u, e, _, _, h3⟩ := tab_cells hu
        obtain ⟨a, c, rfl, _⟩ := rows_form h3
        injection e with _ e
        exact ⟨a, c, by rw [hrk, hqk]; exact e⟩
      injection hsh with hy hsh
      injection hsh with hzz
      subst hy hzz
      have HNK := Lib.hid hnk
      have HE := Lib.hid (fun w' (hq : LaterD wr w') => val_elem_i [.string nk, .int .i64 rk, .slice ak qk ck] l[k] _ w' (Cd.later hu hq))
      have HBB := Lib.hid hbB
      have i1 : (0 : Int) ≤ (k : Int) := by omega
      have i2 : (k : Int) < (l.length : Int) := by omega
      clear hnk hu hat hbB e2 hrk hqk
      go_upto_region 6 with fail
      generalize hg : World.alloc wr _ = w1
      obtain ⟨rg, zg, hbg⟩ := start1 wr _ hg
      have HBG := Lib.hid hbg
      obtain ⟨g0, g1, g2, _, _, _⟩ := row3 rg
      have n0 := (hbg.cell (p := ⟨w.heap.size, 0, none⟩) HX0.out.2).trans HX0.out.1
      have HG := Lib.hid (And.intro n0 (And.intro g0 (And.intro g1 g2)))
      have HGL := Lib.hid (show w.heap.size < w1.heap.size ∧ wr.heap.size < w1.heap.size ∧ b < w1.heap.size from ⟨by have := HX0.out.2; have := hbg.size; simp only at *; omega, by omega, by have := HBB.out; have := hbg.size; omega⟩)
      have kk : LaterD w1 w1.drew := drewD (Below.refl _ w1)
      have kw : LaterD wr w1.drew := drewD hbg
      clear hg rg zg hbg x0 p0 p1 p2
      cases hT : okT l[k]
      · rw [hT] at HE
        have HZ := Lib.hid (show dbOk l = false from dbOk_no.2 fun q => by have := q.2.1 _ (List.getElem_mem hlt); rw [hT] at this; cases this)
        clear hT
        refine wp_region_held_drew (S := fun wx => wx.cell? ⟨w.heap.size, 0, none⟩ = some (.slice (some ⟨b, off, none⟩) l.length cap1) ∧ wx.cell? ⟨wr.heap.size, 0, none⟩ = some (.string nk) ∧ wx.cell? ⟨wr.heap.size, 1, none⟩ = some (.int .i64 rk) ∧ wx.cell? ⟨wr.heap.size, 2, none⟩ = some (.slice ak qk ck) ∧ LaterD w1 wx) (by kernel_rfl) ?_ (fun hHeld => ?_)
        · (refine ⟨?_, ?_, ?_, ?_, ?_⟩ <;> first | assumption | (simp [*]; done))
        refine RegH.takeH (i := 0) (v := ?_) rfl (by kernel_rfl) (by kernel_rfl) (by kernel_rfl) (fun _ _ _ h => h) (Or.inl ⟨by rfl, ?_⟩) (by assumption) ?_
        rotate_left
        · (intro wS hSw; (try dsimp only at hSw); go_simp; try (with_reducible rfl))
        try simp only [Act.put, List.setIfInBounds_toArray, List.set_cons_zero, List.set_cons_succ]
        refine RegH.consH (i := 1) rfl (by kernel_rfl) (fun K hK => ?_)
        go_simp
        go_at_call 76
        refine (HE.out _ kw).mono ?_
        rintro e wq ⟨rfl, hbq⟩
        have kq : LaterD w1 wq := below_then (show Below w1.heap.size w1 w1.drew from kk) hbq
        have n0 := (Below.cell kq (p := ⟨w.heap.size, 0, none⟩) HGL.out.1).trans HG.out.1
        have n1 := (Below.cell kq (p := ⟨wr.heap.size, 0, none⟩) HGL.out.2.1).trans HG.out.2.1
        have n2 := (Below.cell kq (p := ⟨wr.heap.size, 1, none⟩) HGL.out.2.1).trans HG.out.2.2.1
        have n3 := (Below.cell kq (p := ⟨wr.heap.size, 2, none⟩) HGL.out.2.1).trans HG.out.2.2.2
        clear hbq
        go_wp2_with fail
        refine hK.out _ _ ?_ (fun hHeld => ?_)
        · (refine ⟨?_, ?_, ?_, ?_, ?_⟩ <;> first | assumption | (simp [*]; done))
        clear hK K
        try simp only [Act.put, List.setIfInBounds_toArray, List.set_cons_zero, List.set_cons_succ]
        refine RegH.takeH (i := 2) (v := ?_) rfl (by kernel_rfl) (by kernel_rfl) (by kernel_rfl) (fun _ _ _ h => h) (Or.inl ⟨by rfl, ?_⟩) (by assumption) ?_
        rotate_left
        · (intro wS hSw; (try dsimp only at hSw); go_simp; try (with_reducible rfl))
        try simp only [Act.put, List.setIfInBounds_toArray, List.set_cons_zero, List.set_cons_succ]
        refine RegH.takeH (i := 3) (v := ?_) rfl (by kernel_rfl) (by kernel_rfl) (by kernel_rfl) (fun _ _ _ h => h) (Or.inl ⟨by rfl, ?_⟩) (by assumption) ?_
        rotate_left
        · (intro wS hSw; (try dsimp only at hSw); go_simp; try (with_reducible rfl))
        try simp only [Act.put, List.setIfInBounds_toArray, List.set_cons_zero, List.set_cons_succ]
        refine RegH.takeH (i := 4) rfl (by kernel_rfl) (by kernel_rfl) (by kernel_rfl) (fun _ _ _ h => h) (Or.inr ⟨by rfl, rfl⟩) (by assumption) ?_
        try simp only [Act.put, List.setIfInBounds_toArray, List.set_cons_zero, List.set_cons_succ]
        refine RegH.takeH (i := 5) rfl (by kernel_rfl) (by kernel_rfl) (by kernel_rfl) (fun _ _ _ h => h) (Or.inr ⟨by rfl, rfl⟩) (by assumption) ?_
        try simp only [Act.put, List.setIfInBounds_toArray, List.set_cons_zero, List.set_cons_succ]
        refine RegH.takeH (i := 6) rfl (by kernel_rfl) (by kernel_rfl) (by kernel_rfl) (fun _ _ _ h => h) (Or.inr ⟨by rfl, rfl⟩) (by assumption) ?_
        try simp only [Act.put, List.setIfInBounds_toArray, List.set_cons_zero, List.set_cons_succ]
        refine RegH.takeH (i := 7) rfl (by kernel_rfl) (by kernel_rfl) (by kernel_rfl) (fun _ _ _ h => h) (Or.inr ⟨by rfl, rfl⟩) (by assumption) ?_
        try simp only [Act.put, List.setIfInBounds_toArray, List.set_cons_zero, List.set_cons_succ]
        refine RegH.takeH (i := 8) rfl (by kernel_rfl) (by kernel_rfl) (by kernel_rfl) (fun _ _ _ h => h) (Or.inr ⟨by rfl, rfl⟩) (by assumption) ?_
        try simp only [Act.put, List.setIfInBounds_toArray, List.set_cons_zero, List.set_cons_succ]
        refine RegH.takeH (i := 9) rfl (by kernel_rfl) (by kernel_rfl) (by kernel_rfl) (fun _ _ _ h => h) (Or.inr ⟨by rfl, rfl⟩) (by assumption) ?_
        try simp only [Act.put, List.setIfInBounds_toArray, List.set_cons_zero, List.set_cons_succ]
        refine RegH.takeH (i := 10) rfl (by kernel_rfl) (by kernel_rfl) (by kernel_rfl) (fun _ _ _ h => h) (Or.inr ⟨by rfl, rfl⟩) (by assumption) ?_
        try simp only [Act.put, List.setIfInBounds_toArray, List.set_cons_zero, List.set_cons_succ]
        refine RegH.takeH (i := 11) rfl (by kernel_rfl) (by kernel_rfl) (by kernel_rfl) (fun _ _ _ h => h) (Or.inr ⟨by rfl, rfl⟩) (by assumption) ?_
        try simp only [Act.put, List.setIfInBounds_toArray, List.set_cons_zero, List.set_cons_succ]
        refine RegH.takeH (i := 12) rfl (by kernel_rfl) (by kernel_rfl) (by kernel_rfl) (fun _ _ _ h => h) (Or.inr ⟨by rfl, rfl⟩) (by assumption) ?_
        try simp only [Act.put, List.setIfInBounds_toArray, List.set_cons_zero, List.set_cons_succ]
        refine RegH.takeH (i := 13) rfl (by kernel_rfl) (by kernel_rfl) (by kernel_rfl) (fun _ _ _ h => h) (Or.inr ⟨by rfl, rfl⟩) (by assumption) ?_
        try simp only [Act.put, List.setIfInBounds_toArray, List.set_cons_zero, List.set_cons_succ]
        refine RegH.takeH (i := 14) rfl (by kernel_rfl) (by kernel_rfl) (by kernel_rfl) (fun _ _ _ h => h) (Or.inr ⟨by rfl, rfl⟩) (by assumption) ?_
        try simp only [Act.put, List.setIfInBounds_toArray, List.set_cons_zero, List.set_cons_succ]
        refine RegH.takeH (i := 15) rfl (by kernel_rfl) (by kernel_rfl) (by kernel_rfl) (fun _ _ _ h => h) (Or.inr ⟨by rfl, rfl⟩) (by assumption) ?_
        try simp only [Act.put, List.setIfInBounds_toArray, List.set_cons_zero, List.set_cons_succ]
        refine RegH.takeH (i := 16) rfl (by kernel_rfl) (by kernel_rfl) (by kernel_rfl) (fun _ _ _ h => h) (Or.inr ⟨by rfl, rfl⟩) (by assumption) ?_
        try simp only [Act.put, List.setIfInBounds_toArray, List.set_cons_zero, List.set_cons_succ]
        refine RegH.takeH (i := 17) (v := ?_) rfl (by kernel_rfl) (by kernel_rfl) (by kernel_rfl) (fun _ _ _ h => h) (Or.inl ⟨by rfl, ?_⟩) (by assumption) ?_
        rotate_left
        · (intro wS hSw; (try dsimp only at hSw); go_simp; try (with_reducible rfl))
        try simp only [Act.put, List.setIfInBounds_toArray, List.set_cons_zero, List.set_cons_succ]
        refine wpAnyH_done (by kernel_rfl) ?_ _
        go_wp2_with fail
        go_ret
        exact ⟨DbSpec.ret_b HZ.out.symm, below_then HBW.out (below_then (show Below wr.heap.size wr w1 from HBG.out) (show Below w1.heap.size w1 wq from kq))⟩
      · rw [hT] at HE
        have HN1 := Lib.hid (ok_more HOK.out hlt hT)
        clear hT
        by_cases hk0 : k = 0
        · have hg1 : ((0 : Int) < (k : Int)) = False := by simp only [eq_iff_iff, iff_false]; omega
          have hg2 : (0 < k) = False := by simp only [eq_iff_iff, iff_false]; omega
          have HN2 := Lib.hid (asc_more HAS.out hlt (fun j e _ => by omega))
          clear hk0
          refine wp_region_held_drew (S := fun wx => wx.cell? ⟨w.heap.size, 0, none⟩ = some (.slice (some ⟨b, off, none⟩) l.length cap1) ∧ wx.cell? ⟨wr.heap.size, 0, none⟩ = some (.string nk) ∧ wx.cell? ⟨wr.heap.size, 1, none⟩ = some (.int .i64 rk) ∧ wx.cell? ⟨wr.heap.size, 2, none⟩ = some (.slice ak qk ck) ∧ LaterD w1 wx) (by kernel_rfl) ?_ (fun hHeld => ?_)
          · (refine ⟨?_, ?_, ?_, ?_, ?_⟩ <;> first | assumption | (simp [*]; done))
          refine RegH.takeH (i := 0) (v := ?_) rfl (by kernel_rfl) (by kernel_rfl) (by kernel_rfl) (fun _ _ _ h => h) (Or.inl ⟨by rfl, ?_⟩) (by assumption) ?_
          rotate_left
          · (intro wS hSw; (try dsimp only at hSw); go_simp; try (with_reducible rfl))
          try simp only [Act.put, List.setIfInBounds_toArray, List.set_cons_zero, List.set_cons_succ]
          refine RegH.consH (i := 1) rfl (by kernel_rfl) (fun K hK => ?_)
          go_simp
          go_at_call 76
          refine (HE.out _ kw).mono ?_
          rintro e wq ⟨rfl, hbq⟩
          have kq : LaterD w1 wq := below_then (show Below w1.heap.size w1 w1.drew from kk) hbq
          have n0 := (Below.cell kq (p := ⟨w.heap.size, 0, none⟩) HGL.out.1).trans HG.out.1
          have n1 := (Below.cell kq (p := ⟨wr.heap.size, 0, none⟩) HGL.out.2.1).trans HG.out.2.1
          have n2 := (Below.cell kq (p := ⟨wr.heap.size, 1, none⟩) HGL.out.2.1).trans HG.out.2.2.1
          have n3 := (Below.cell kq (p := ⟨wr.heap.size, 2, none⟩) HGL.out.2.1).trans HG.out.2.2.2
          clear hbq
          go_wp2_with fail
          refine hK.out _ _ ?_ (fun hHeld => ?_)
          · (refine ⟨?_, ?_, ?_, ?_, ?_⟩ <;> first | assumption | (simp [*]; done))
          clear hK K
          try simp only [Act.put, List.setIfInBounds_toArray, List.set_cons_zero, List.set_cons_succ]
          refine RegH.takeH (i := 2) (v := ?_) rfl (by kernel_rfl) (by kernel_rfl) (by kernel_rfl) (fun _ _ _ h => h) (Or.inl ⟨by rfl, ?_⟩) (by assumption) ?_
          rotate_left
          · (intro wS hSw; (try dsimp only at hSw); go_simp; try (with_reducible rfl))
          try simp only [Act.put, List.setIfInBounds_toArray, List.set_cons_zero, List.set_cons_succ]
          refine RegH.takeH (i := 3) (v := ?_) rfl (by kernel_rfl) (by kernel_rfl) (by kernel_rfl) (fun _ _ _ h => h) (Or.inl ⟨by rfl, ?_⟩) (by assumption) ?_
          rotate_left
          · (intro wS hSw; (try dsimp only at hSw); go_simp; try (with_reducible rfl))
          try simp only [Act.put, List.setIfInBounds_toArray, List.set_cons_zero, List.set_cons_succ]
          refine RegH.takeH (i := 4) (v := ?_) rfl (by kernel_rfl) (by kernel_rfl) (by kernel_rfl) (fun _ _ _ h => h) (Or.inl ⟨by rfl, ?_⟩) (by assumption) ?_
          rotate_left
          · (intro wS hSw; (try dsimp only at hSw); go_simp; try (with_reducible rfl))
          try simp only [Act.put, List.setIfInBounds_toArray, List.set_cons_zero, List.set_cons_succ]
          refine RegH.takeH (i := 5) (v := ?_) rfl (by kernel_rfl) (by kernel_rfl) (by kernel_rfl) (fun _ _ _ h => h) (Or.inl ⟨by rfl, ?_⟩) (by assumption) ?_
          rotate_left
          · (intro wS hSw; (try dsimp only at hSw); go_simp; try (with_reducible rfl))
          try simp only [Act.put, List.setIfInBounds_toArray, List.set_cons_zero, List.set_cons_succ]
          refine RegH.takeH (i := 6) (v := ?_) rfl (by kernel_rfl) (by kernel_rfl) (by kernel_rfl) (fun _ _ _ h => h) (Or.inl ⟨by rfl, ?_⟩) (by assumption) ?_
          rotate_left
          · (intro wS hSw; (try dsimp only at hSw); go_simp; try (with_reducible rfl))
          try simp only [Act.put, List.setIfInBounds_toArray, List.set_cons_zero, List.set_cons_succ]
          refine RegH.takeH (i := 7) rfl (by kernel_rfl) (by kernel_rfl) (by kernel_rfl) (fun _ _ _ h => h) (Or.inr ⟨by rfl, rfl⟩) (by assumption) ?_
          try simp only [Act.put, List.setIfInBounds_toArray, List.set_cons_zero, List.set_cons_succ]
          refine RegH.takeH (i := 8) rfl (by kernel_rfl) (by kernel_rfl) (by kernel_rfl) (fun _ _ _ h => h) (Or.inr ⟨by rfl, rfl⟩) (by assumption) ?_
          try simp only [Act.put, List.setIfInBounds_toArray, List.set_cons_zero, List.set_cons_succ]
          refine RegH.takeH (i := 9) rfl (by kernel_rfl) (by kernel_rfl) (by kernel_rfl) (fun _ _ _ h => h) (Or.inr ⟨by rfl, rfl⟩) (by assumption) ?_
          try simp only [Act.put, List.setIfInBounds_toArray, List.set_cons_zero, List.set_cons_succ]
          refine RegH.takeH (i := 10) rfl (by kernel_rfl) (by kernel_rfl) (by kernel_rfl) (fun _ _ _ h => h) (Or.inr ⟨by rfl, rfl⟩) (by assumption) ?_
          try simp only [Act.put, List.setIfInBounds_toArray, List.set_cons_zero, List.set_cons_succ]
          refine RegH.takeH (i := 11) rfl (by kernel_rfl) (by kernel_rfl) (by kernel_rfl) (fun _ _ _ h => h) (Or.inr ⟨by rfl, rfl⟩) (by assumption) ?_
          try simp only [Act.put, List.setIfInBounds_toArray, List.set_cons_zero, List.set_cons_succ]
          refine RegH.takeH (i := 12) rfl (by kernel_rfl) (by kernel_rfl) (by kernel_rfl) (fun _ _ _ h => h) (Or.inr ⟨by rfl, rfl⟩) (by assumption) ?_
          try simp only [Act.put, List.setIfInBounds_toArray, List.set_cons_zero, List.set_cons_succ]
          refine RegH.takeH (i := 13) rfl (by kernel_rfl) (by kernel_rfl) (by kernel_rfl) (fun _ _ _ h => h) (Or.inr ⟨by rfl, rfl⟩) (by assumption) ?_
          try simp only [Act.put, List.setIfInBounds_toArray, List.set_cons_zero, List.set_cons_succ]
          refine RegH.takeH (i := 14) rfl (by kernel_rfl) (by kernel_rfl) (by kernel_rfl) (fun _ _ _ h => h) (Or.inr ⟨by rfl, rfl⟩) (by assumption) ?_
          try simp only [Act.put, List.setIfInBounds_toArray, List.set_cons_zero, List.set_cons_succ]
          refine RegH.takeH (i := 15) rfl (by kernel_rfl) (by kernel_rfl) (by kernel_rfl) (fun _ _ _ h => h) (Or.inr ⟨by rfl, rfl⟩) (by assumption) ?_
          try simp only [Act.put, List.setIfInBounds_toArray, List.set_cons_zero, List.set_cons_succ]
          refine RegH.takeH (i := 16) (v := ?_) rfl (by kernel_rfl) (by kernel_rfl) (by kernel_rfl) (fun _ _ _ h => h) (Or.inl ⟨by rfl, ?_⟩) (by assumption) ?_
          rotate_left
          · (intro wS hSw; (try dsimp only at hSw); go_simp; try (with_reducible rfl))
          try simp only [Act.put, List.setIfInBounds_toArray, List.set_cons_zero, List.set_cons_succ]
          refine RegH.takeH (i := 17) (v := ?_) rfl (by kernel_rfl) (by kernel_rfl) (by kernel_rfl) (fun _ _ _ h => h) (Or.inl ⟨by rfl, ?_⟩) (by assumption) ?_
          rotate_left
          · (intro wS hSw; (try dsimp only at hSw); go_simp; try (with_reducible rfl))
          try simp only [Act.put, List.setIfInBounds_toArray, List.set_cons_zero, List.set_cons_succ]
          refine wpAnyH_done (by kernel_rfl) ?_ _
          go_wp2_with fail
          go_roundw
          case rel => exact ⟨k + 1, by omega, by go_num, HN1.out, HN2.out, below_then HWR.out (below_then (show Below wr.heap.size wr w1 from HBG.out) (show Below w1.heap.size w1 wq from kq))⟩
          case measure => simp [intOf]; omega
        · have hg1 : ((0 : Int) < (k : Int)) = True := by simp only [eq_iff_iff, iff_true]; omega
          have hg2 : (0 < k) = True := by simp only [eq_iff_iff, iff_true]; omega
          obtain ⟨j, hj⟩ : ∃ j, k = j + 1 := ⟨k - 1, by omega⟩
          have hjl : j < l.length := by omega
          obtain ⟨b', off', cap'', vs, e1, _, _, hat, hu⟩ := Cd.sl_at (HR1.out w1 (below_then HBW.out HBG.out)) hjl
          injection e1 with e1 g1 g2
          injection e1 with e1
          injection e1 with e1 e2
          subst e1 e2
          clear g1 g2
          obtain ⟨x', y', z', rfl⟩ := len_list (tabC.len hu)
          have q0 := hat 0 (by simp)
          have q1 := hat 1 (by simp)
          have q2 := hat 2 (by simp)
          simp only [List.getElem_cons_zero, List.getElem_cons_succ, Nat.add_zero, show tabC.n = 3 from rfl] at q0 q1 q2
          obtain ⟨nj, hnj⟩ : ∃ nj, nj = (l[j]).1 := ⟨_, rfl⟩
          obtain rfl : x' = .string nj := by rw [hnj]; exact name_cell hu
          obtain ⟨rj, hrj⟩ : ∃ rj, rj = (l[j]).2.1 := ⟨_, rfl⟩
          obtain ⟨qj, hqj⟩ : ∃ qj, qj = (l[j]).2.2.length := ⟨_, rfl⟩
          obtain ⟨aj, cj, hsh⟩ : ∃ a c, [y', z'] = [.int .i64 rj, .slice a qj c] := by
            obtain ⟨u, e, _, _, h3⟩ := tab_cells hu
            obtain ⟨a, c, rfl, _⟩ := rows_form h3
            injection e with _ e
            exact ⟨a, c, by rw [hrj, hqj]; exact e⟩
          injection hsh with hy hsh
          injection hsh with hzz
          subst hy hzz
          have HQ := Lib.hid (And.intro q0 (And.intro q1 q2))
          have HNJ := Lib.hid (show nj = (l[j]).1 from hnj)
          have j1 : (k : Int) - 1 = (j : Int) := by omega
          have j2 : IntKind.i64.wrap (j : Int) = (j : Int) := by rw [IntKind.wrap_i64]; omega
          have j3 : (0 : Int) ≤ (j : Int) := by omega
          have j4 : (j : Int) < (l.length : Int) := by omega
          have HJ := Lib.hid hj
          have q0' : w1.drew.cell? ⟨b, off + j * 3, none⟩ = some (.string nj) := q0
          have q1' : w1.drew.cell? ⟨b, off + j * 3 + 1, none⟩ = some (.int .i64 rj) := q1
          have q2' : w1.drew.cell? ⟨b, off + j * 3 + 2, none⟩ = some (.slice aj qj cj) := q2
          clear hat hu hk0 hnj hj hrj hqj
          cases hlt2 : ltB nj nk
          · have HZ := Lib.hid (show dbOk l = false from dbOk_no.2 fun q => by have e := HJ.out; subst e; have := asc_at q.2.2 hlt; rw [← HNJ.out, ← HNK.out, hlt2] at this; cases this)
            obtain ⟨c, hc, hc0⟩ : ∃ c, cmpN nj nk = c ∧ (0 ≤ c) = True := ⟨_, rfl, by simp only [eq_iff_iff, iff_true]; have := cmpN_lt nj nk; rw [hlt2] at this; simp at this; exact this⟩
            have HCN := Lib.hid hc
            clear hc
            refine wp_region_held_drew (S := fun wx => wx.cell? ⟨w.heap.size, 0, none⟩ = some (.slice (some ⟨b, off, none⟩) l.length cap1) ∧ wx.cell? ⟨wr.heap.size, 0, none⟩ = some (.string nk) ∧ wx.cell? ⟨wr.heap.size, 1, none⟩ = some (.int .i64 rk) ∧ wx.cell? ⟨wr.heap.size, 2, none⟩ = some (.slice ak qk ck) ∧ wx.cell? ⟨b, off + j * 3, none⟩ = some (.string nj) ∧ wx.cell? ⟨b, off + j * 3 + 1, none⟩ = some (.int .i64 rj) ∧ wx.cell? ⟨b, off + j * 3 + 2, none⟩ = some (.slice aj qj cj) ∧ LaterD w1 wx) (by kernel_rfl) ?_ (fun hHeld => ?_)
            · (refine ⟨?_, ?_, ?_, ?_, ?_, ?_, ?_, ?_⟩ <;> first | assumption | (simp [*]; done))
            refine RegH.takeH (i := 0) (v := ?_) rfl (by kernel_rfl) (by kernel_rfl) (by kernel_rfl) (fun _ _ _ h => h) (Or.inl ⟨by rfl, ?_⟩) (by assumption) ?_
            rotate_left
            · (intro wS hSw; (try dsimp only at hSw); go_simp; try (with_reducible rfl))
            try simp only [Act.put, List.setIfInBounds_toArray, List.set_cons_zero, List.set_cons_succ]
            refine RegH.consH (i := 1) rfl (by kernel_rfl) (fun K hK => ?_)
            go_simp
            go_at_call 76
            refine (HE.out _ kw).mono ?_
            rintro e wq ⟨rfl, hbq⟩
            have kq : LaterD w1 wq := below_then (show Below w1.heap.size w1 w1.drew from kk) hbq
            have n0 := (Below.cell kq (p := ⟨w.heap.size, 0, none⟩) HGL.out.1).trans HG.out.1
            have n1 := (Below.cell kq (p := ⟨wr.heap.size, 0, none⟩) HGL.out.2.1).trans HG.out.2.1
            have n2 := (Below.cell kq (p := ⟨wr.heap.size, 1, none⟩) HGL.out.2.1).trans HG.out.2.2.1
            have n3 := (Below.cell kq (p := ⟨wr.heap.size, 2, none⟩) HGL.out.2.1).trans HG.out.2.2.2
            have n4 := (Below.cell kq (p := ⟨b, off + j * 3, none⟩) HGL.out.2.2).trans HQ.out.1
            have n5 := (Below.cell kq (p := ⟨b, off + j * 3 + 1, none⟩) HGL.out.2.2).trans HQ.out.2.1
            have n6 := (Below.cell kq (p := ⟨b, off + j * 3 + 2, none⟩) HGL.out.2.2).trans HQ.out.2.2
            clear hbq
            go_wp2_with fail
            refine hK.out _ _ ?_ (fun hHeld => ?_)
            · (refine ⟨?_, ?_, ?_, ?_, ?_, ?_, ?_, ?_⟩ <;> first | assumption | (simp [*]; done))
            clear hK K
            try simp only [Act.put, List.setIfInBounds_toArray, List.set_cons_zero, List.set_cons_succ]
            refine RegH.takeH (i := 2) (v := ?_) rfl (by kernel_rfl) (by kernel_rfl) (by kernel_rfl) (fun _ _ _ h => h) (Or.inl ⟨by rfl, ?_⟩) (by assumption) ?_
            rotate_left
            · (intro wS hSw; (try dsimp only at hSw); go_simp; try (with_reducible rfl))
            try simp only [Act.put, List.setIfInBounds_toArray, List.set_cons_zero, List.set_cons_succ]
            refine RegH.takeH (i := 3) (v := ?_) rfl (by kernel_rfl) (by kernel_rfl) (by kernel_rfl) (fun _ _ _ h => h) (Or.inl ⟨by rfl, ?_⟩) (by assumption) ?_
            rotate_left
            · (intro wS hSw; (try dsimp only at hSw); go_simp; try (with_reducible rfl))
            try simp only [Act.put, List.setIfInBounds_toArray, List.set_cons_zero, List.set_cons_succ]
            refine RegH.takeH (i := 4) (v := ?_) rfl (by kernel_rfl) (by kernel_rfl) (by kernel_rfl) (fun _ _ _ h => h) (Or.inl ⟨by rfl, ?_⟩) (by assumption) ?_
            rotate_left
            · (intro wS hSw; (try dsimp only at hSw); go_simp; try (with_reducible rfl))
            try simp only [Act.put, List.setIfInBounds_toArray, List.set_cons_zero, List.set_cons_succ]
            refine RegH.takeH (i := 5) (v := ?_) rfl (by kernel_rfl) (by kernel_rfl) (by kernel_rfl) (fun _ _ _ h => h) (Or.inl ⟨by rfl, ?_⟩) (by assumption) ?_
            rotate_left
            · (intro wS hSw; (try dsimp only at hSw); go_simp; try (with_reducible rfl))
            try simp only [Act.put, List.setIfInBounds_toArray, List.set_cons_zero, List.set_cons_succ]
            refine RegH.takeH (i := 6) (v := ?_) rfl (by kernel_rfl) (by kernel_rfl) (by kernel_rfl) (fun _ _ _ h => h) (Or.inl ⟨by rfl, ?_⟩) (by assumption) ?_
            rotate_left
            · (intro wS hSw; (try dsimp only at hSw); go_simp; try (with_reducible rfl))
            try simp only [Act.put, List.setIfInBounds_toArray, List.set_cons_zero, List.set_cons_succ]
            refine RegH.takeH (i := 7) (v := ?_) rfl (by kernel_rfl) (by kernel_rfl) (by kernel_rfl) (fun _ _ _ h => h) (Or.inl ⟨by rfl, ?_⟩) (by assumption) ?_
            rotate_left
            · (intro wS hSw; (try dsimp only at hSw); go_simp; try (with_reducible rfl))
            try simp only [Act.put, List.setIfInBounds_toArray, List.set_cons_zero, List.set_cons_succ]
            refine RegH.takeH (i := 8) (v := ?_) rfl (by kernel_rfl) (by kernel_rfl) (by kernel_rfl) (fun _ _ _ h => h) (Or.inl ⟨by rfl, ?_⟩) (by assumption) ?_
            rotate_left
            · (intro wS hSw; (try dsimp only at hSw); go_simp; try (with_reducible rfl))
            try simp only [Act.put, List.setIfInBounds_toArray, List.set_cons_zero, List.set_cons_succ]
            refine RegH.takeH (i := 9) (v := ?_) rfl (by kernel_rfl) (by kernel_rfl) (by kernel_rfl) (fun _ _ _ h => h) (Or.inl ⟨by rfl, ?_⟩) (by assumption) ?_
            rotate_left
            · (intro wS hSw; (try dsimp only at hSw); go_simp; try (with_reducible rfl))
            try simp only [Act.put, List.setIfInBounds_toArray, List.set_cons_zero, List.set_cons_succ]
            refine RegH.takeH (i := 10) (v := ?_) rfl (by kernel_rfl) (by kernel_rfl) (by kernel_rfl) (fun _ _ _ h => h) (Or.inl ⟨by rfl, ?_⟩) (by assumption) ?_
            rotate_left
            · (intro wS hSw; (try dsimp only at hSw); go_simp; try (with_reducible rfl))
            try simp only [Act.put, List.setIfInBounds_toArray, List.set_cons_zero, List.set_cons_succ]
            refine RegH.takeH (i := 11) (v := ?_) rfl (by kernel_rfl) (by kernel_rfl) (by kernel_rfl) (fun _ _ _ h => h) (Or.inl ⟨by rfl, ?_⟩) (by assumption) ?_
            rotate_left
            · (intro wS hSw; (try dsimp only at hSw); go_simp; try (with_reducible rfl))
            try simp only [Act.put, List.setIfInBounds_toArray, List.set_cons_zero, List.set_cons_succ]
            refine RegH.takeH (i := 12) (v := ?_) rfl (by kernel_rfl) (by kernel_rfl) (by kernel_rfl) (fun _ _ _ h => h) (Or.inl ⟨by rfl, ?_⟩) (by assumption) ?_
            rotate_left
            · (intro wS hSw; (try dsimp only at hSw); go_simp; try (with_reducible rfl))
            try simp only [Act.put, List.setIfInBounds_toArray, List.set_cons_zero, List.set_cons_succ]
            refine RegH.takeH (i := 13) (v := ?_) rfl (by kernel_rfl) (by kernel_rfl) (by kernel_rfl) (fun _ _ _ h => h) (Or.inl ⟨by rfl, ?_⟩) (by assumption) ?_
            rotate_left
            · (intro wS hSw; (try dsimp only at hSw); go_simp; try (with_reducible rfl))
            try simp only [Act.put, List.setIfInBounds_toArray, List.set_cons_zero, List.set_cons_succ]
            refine RegH.consH (i := 14) rfl (by kernel_rfl) (fun K hK => ?_)
            go_simp
            go_at_call 118
            refine (cmp_names nj nk _ _ _ _ _).mono ?_
            rintro e wp ⟨rfl, os, hwp⟩
            have kp : LaterD w1 wp := below_then (show Below w1.heap.size w1 wq from kq) (by rw [hwp]; exact below_grow _ _)
            have n0 := (Below.cell kp (p := ⟨w.heap.size, 0, none⟩) HGL.out.1).trans HG.out.1
            have n1 := (Below.cell kp (p := ⟨wr.heap.size, 0, none⟩) HGL.out.2.1).trans HG.out.2.1
            have n2 := (Below.cell kp (p := ⟨wr.heap.size, 1, none⟩) HGL.out.2.1).trans HG.out.2.2.1
            have n3 := (Below.cell kp (p := ⟨wr.heap.size, 2, none⟩) HGL.out.2.1).trans HG.out.2.2.2
            have n4 := (Below.cell kp (p := ⟨b, off + j * 3, none⟩) HGL.out.2.2).trans HQ.out.1
            have n5 := (Below.cell kp (p := ⟨b, off + j * 3 + 1, none⟩) HGL.out.2.2).trans HQ.out.2.1
            have n6 := (Below.cell kp (p := ⟨b, off + j * 3 + 2, none⟩) HGL.out.2.2).trans HQ.out.2.2
            clear hwp
            rw [HCN.out]
            go_wp2_with fail
            refine hK.out _ _ ?_ (fun hHeld => ?_)
            · (refine ⟨?_, ?_, ?_, ?_, ?_, ?_, ?_, ?_⟩ <;> first | assumption | (simp [*]; done))
            clear hK K
            try simp only [Act.put, List.setIfInBounds_toArray, List.set_cons_zero, List.set_cons_succ]
            refine RegH.takeH (i := 15) (v := ?_) rfl (by kernel_rfl) (by kernel_rfl) (by kernel_rfl) (fun _ _ _ h => h) (Or.inl ⟨by rfl, ?_⟩) (by assumption) ?_
            rotate_left
            · (intro wS hSw; (try dsimp only at hSw); go_simp; try (with_reducible rfl))
            try simp only [Act.put, List.setIfInBounds_toArray, List.set_cons_zero, List.set_cons_succ]
            refine RegH.takeH (i := 16) (v := ?_) rfl (by kernel_rfl) (by kernel_rfl) (by kernel_rfl) (fun _ _ _ h => h) (Or.inl ⟨by rfl, ?_⟩) (by assumption) ?_
            rotate_left
            · (intro wS hSw; (try dsimp only at hSw); go_simp; try (with_reducible rfl))
            try simp only [Act.put, List.setIfInBounds_toArray, List.set_cons_zero, List.set_cons_succ]
            refine RegH.takeH (i := 17) (v := ?_) rfl (by kernel_rfl) (by kernel_rfl) (by kernel_rfl) (fun _ _ _ h => h) (Or.inl ⟨by rfl, ?_⟩) (by assumption) ?_
            rotate_left
            · (intro wS hSw; (try dsimp only at hSw); go_simp; try (with_reducible rfl))
            try simp only [Act.put, List.setIfInBounds_toArray, List.set_cons_zero, List.set_cons_succ]
            refine wpAnyH_done (by kernel_rfl) ?_ _
            go_wp2_with fail
            go_ret
            exact ⟨DbSpec.ret_b HZ.out.symm, below_then HBW.out (below_then (show Below wr.heap.size wr w1 from HBG.out) (show Below w1.heap.size w1 wp from kp))⟩
          · have HN2 := Lib.hid (asc_more HAS.out hlt (fun i e hi => by have e2 := HJ.out; obtain rfl : i = j := (by omega); rw [← HNJ.out, ← HNK.out]; exact hlt2))
            obtain ⟨c, hc, hc0⟩ : ∃ c, cmpN nj nk = c ∧ (0 ≤ c) = False := ⟨_, rfl, by simp only [eq_iff_iff, iff_false]; have := (cmpN_lt nj nk).2 hlt2; omega⟩
            have HCN := Lib.hid hc
            clear hc
            refine wp_region_held_drew (S := fun wx => wx.cell? ⟨w.heap.size, 0, none⟩ = some (.slice (some ⟨b, off, none⟩) l.length cap1) ∧ wx.cell? ⟨wr.heap.size, 0, none⟩ = some (.string nk) ∧ wx.cell? ⟨wr.heap.size, 1, none⟩ = some (.int .i64 rk) ∧ wx.cell? ⟨wr.heap.size, 2, none⟩ = some (.slice ak qk ck) ∧ wx.cell? ⟨b, off + j * 3, none⟩ = some (.string nj) ∧ wx.cell? ⟨b, off + j * 3 + 1, none⟩ = some (.int .i64 rj) ∧ wx.cell? ⟨b, off + j * 3 + 2, none⟩ = some (.slice aj qj cj) ∧ LaterD w1 wx) (by kernel_rfl) ?_ (fun hHeld => ?_)
            · (refine ⟨?_, ?_, ?_, ?_, ?_, ?_, ?_, ?_⟩ <;> first | assumption | (simp [*]; done))
            refine RegH.takeH (i := 0) (v := ?_) rfl (by kernel_rfl) (by kernel_rfl) (by kernel_rfl) (fun _ _ _ h => h) (Or.inl ⟨by rfl, ?_⟩) (by assumption) ?_
            rotate_left
            · (intro wS hSw; (try dsimp only at hSw); go_simp; try (with_reducible rfl))
            try simp only [Act.put, List.setIfInBounds_toArray, List.set_cons_zero, List.set_cons_succ]
            refine RegH.consH (i := 1) rfl (by kernel_rfl) (fun K hK => ?_)
            go_simp
            go_at_call 76
            refine (HE.out _ kw).mono ?_
            rintro e wq ⟨rfl, hbq⟩
            have kq : LaterD w1 wq := below_then (show Below w1.heap.size w1 w1.drew from kk) hbq
            have n0 := (Below.cell kq (p := ⟨w.heap.size, 0, none⟩) HGL.out.1).trans HG.out.1
            have n1 := (Below.cell kq (p := ⟨wr.heap.size, 0, none⟩) HGL.out.2.1).trans HG.out.2.1
            have n2 := (Below.cell kq (p := ⟨wr.heap.size, 1, none⟩) HGL.out.2.1).trans HG.out.2.2.1
            have n3 := (Below.cell kq (p := ⟨wr.heap.size, 2, none⟩) HGL.out.2.1).trans HG.out.2.2.2
            have n4 := (Below.cell kq (p := ⟨b, off + j * 3, none⟩) HGL.out.2.2).trans HQ.out.1
            have n5 := (Below.cell kq (p := ⟨b, off + j * 3 + 1, none⟩) HGL.out.2.2).trans HQ.out.2.1
            have n6 := (Below.cell kq (p := ⟨b, off + j * 3 + 2, none⟩) HGL.out.2.2).trans HQ.out.2.2
            clear hbq
            go_wp2_with fail
            refine hK.out _ _ ?_ (fun hHeld => ?_)
            · (refine ⟨?_, ?_, ?_, ?_, ?_, ?_, ?_, ?_⟩ <;> first | assumption | (simp [*]; done))
            clear hK K
            try simp only [Act.put, List.setIfInBounds_toArray, List.set_cons_zero, List.set_cons_succ]
            refine RegH.takeH (i := 2) (v := ?_) rfl (by kernel_rfl) (by kernel_rfl) (by kernel_rfl) (fun _ _ _ h => h) (Or.inl ⟨by rfl, ?_⟩) (by assumption) ?_
            rotate_left
            · (intro wS hSw; (try dsimp only at hSw); go_simp; try (with_reducible rfl))
            try simp only [Act.put, List.setIfInBounds_toArray, List.set_cons_zero, List.set_cons_succ]
            refine RegH.takeH (i := 3) (v := ?_) rfl (by kernel_rfl) (by kernel_rfl) (by kernel_rfl) (fun _ _ _ h => h) (Or.inl ⟨by rfl, ?_⟩) (by assumption) ?_
            rotate_left
            · (intro wS hSw; (try dsimp only at hSw); go_simp; try (with_reducible rfl))
            try simp only [Act.put, List.setIfInBounds_toArray, List.set_cons_zero, List.set_cons_succ]
            refine RegH.takeH (i := 4) (v := ?_) rfl (by kernel_rfl) (by kernel_rfl) (by kernel_rfl) (fun _ _ _ h => h) (Or.inl ⟨by rfl, ?_⟩) (by assumption) ?_
            rotate_left
            · (intro wS hSw; (try dsimp only at hSw); go_simp; try (with_reducible rfl))
            try simp only [Act.put, List.setIfInBounds_toArray, List.set_cons_zero, List.set_cons_succ]
            refine RegH.takeH (i := 5) (v := ?_) rfl (by kernel_rfl) (by kernel_rfl) (by kernel_rfl) (fun _ _ _ h => h) (Or.inl ⟨by rfl, ?_⟩) (by assumption) ?_
            rotate_left
            · (intro wS hSw; (try dsimp only at hSw); go_simp; try (with_reducible rfl))
            try simp only [Act.put, List.setIfInBounds_toArray, List.set_cons_zero, List.set_cons_succ]
            refine RegH.takeH (i := 6) (v := ?_) rfl (by kernel_rfl) (by kernel_rfl) (by kernel_rfl) (fun _ _ _ h => h) (Or.inl ⟨by rfl, ?_⟩) (by assumption) ?_
            rotate_left
            · (intro wS hSw; (try dsimp only at hSw); go_simp; try (with_reducible rfl))
            try simp only [Act.put, List.setIfInBounds_toArray, List.set_cons_zero, List.set_cons_succ]
            refine RegH.takeH (i := 7) (v := ?_) rfl (by kernel_rfl) (by kernel_rfl) (by kernel_rfl) (fun _ _ _ h => h) (Or.inl ⟨by rfl, ?_⟩) (by assumption) ?_
            rotate_left
            · (intro wS hSw; (try dsimp only at hSw); go_simp; try (with_reducible rfl))
            try simp only [Act.put, List.setIfInBounds_toArray, List.set_cons_zero, List.set_cons_succ]
            refine RegH.takeH (i := 8) (v := ?_) rfl (by kernel_rfl) (by kernel_rfl) (by kernel_rfl) (fun _ _ _ h => h) (Or.inl ⟨by rfl, ?_⟩) (by assumption) ?_
            rotate_left
            · (intro wS hSw; (try dsimp only at hSw); go_simp; try (with_reducible rfl))
            try simp only [Act.put, List.setIfInBounds_toArray, List.set_cons_zero, List.set_cons_succ]
            refine RegH.takeH (i := 9) (v := ?_) rfl (by kernel_rfl) (by kernel_rfl) (by kernel_rfl) (fun _ _ _ h => h) (Or.inl ⟨by rfl, ?_⟩) (by assumption) ?_
            rotate_left
            · (intro wS hSw; (try dsimp only at hSw); go_simp; try (with_reducible rfl))
            try simp only [Act.put, List.setIfInBounds_toArray, List.set_cons_zero, List.set_cons_succ]
            refine RegH.takeH (i := 10) (v := ?_) rfl (by kernel_rfl) (by kernel_rfl) (by kernel_rfl) (fun _ _ _ h => h) (Or.inl ⟨by rfl, ?_⟩) (by assumption) ?_
            rotate_left
            · (intro wS hSw; (try dsimp only at hSw); go_simp; try (with_reducible rfl))
            try simp only [Act.put, List.setIfInBounds_toArray, List.set_cons_zero, List.set_cons_succ]
            refine RegH.takeH (i := 11) (v := ?_) rfl (by kernel_rfl) (by kernel_rfl) (by kernel_rfl) (fun _ _ _ h => h) (Or.inl ⟨by rfl, ?_⟩) (by assumption) ?_
            rotate_left
            · (intro wS hSw; (try dsimp only at hSw); go_simp; try (with_reducible rfl))
            try simp only [Act.put, List.setIfInBounds_toArray, List.set_cons_zero, List.set_cons_succ]
            refine RegH.takeH (i := 12) (v := ?_) rfl (by kernel_rfl) (by kernel_rfl) (by kernel_rfl) (fun _ _ _ h => h) (Or.inl ⟨by rfl, ?_⟩) (by assumption) ?_
            rotate_left
            · (intro wS hSw; (try dsimp only at hSw); go_simp; try (with_reducible rfl))
            try simp only [Act.put, List.setIfInBounds_toArray, List.set_cons_zero, List.set_cons_succ]
            refine RegH.takeH (i := 13) (v := ?_) rfl (by kernel_rfl) (by kernel_rfl) (by kernel_rfl) (fun _ _ _ h => h) (Or.inl ⟨by rfl, ?_⟩) (by assumption) ?_
            rotate_left
            · (intro wS hSw; (try dsimp only at hSw); go_simp; try (with_reducible rfl))
            try simp only [Act.put, List.setIfInBounds_toArray, List.set_cons_zero, List.set_cons_succ]
            refine RegH.consH (i := 14) rfl (by kernel_rfl) (fun K hK => ?_)
            go_simp
            go_at_call 118
            refine (cmp_names nj nk _ _ _ _ _).mono ?_
            rintro e wp ⟨rfl, os, hwp⟩
            have kp : LaterD w1 wp := below_then (show Below w1.heap.size w1 wq from kq) (by rw [hwp]; exact below_grow _ _)
            have n0 := (Below.cell kp (p := ⟨w.heap.size, 0, none⟩) HGL.out.1).trans HG.out.1
            have n1 := (Below.cell kp (p := ⟨wr.heap.size, 0, none⟩) HGL.out.2.1).trans HG.out.2.1
            have n2 := (Below.cell kp (p := ⟨wr.heap.size, 1, none⟩) HGL.out.2.1).trans HG.out.2.2.1
            have n3 := (Below.cell kp (p := ⟨wr.heap.size, 2, none⟩) HGL.out.2.1).trans HG.out.2.2.2
            have n4 := (Below.cell kp (p := ⟨b, off + j * 3, none⟩) HGL.out.2.2).trans HQ.out.1
            have n5 := (Below.cell kp (p := ⟨b, off + j * 3 + 1, none⟩) HGL.out.2.2).trans HQ.out.2.1
            have n6 := (Below.cell kp (p := ⟨b, off + j * 3 + 2, none⟩) HGL.out.2.2).trans HQ.out.2.2
            clear hwp
            rw [HCN.out]
            go_wp2_with fail
            refine hK.out _ _ ?_ (fun hHeld => ?_)
            · (refine ⟨?_, ?_, ?_, ?_, ?_, ?_, ?_, ?_⟩ <;> first | assumption | (simp [*]; done))
            clear hK K
            try simp only [Act.put, List.setIfInBounds_toArray, List.set_cons_zero, List.set_cons_succ]
            refine RegH.takeH (i := 15) (v := ?_) rfl (by kernel_rfl) (by kernel_rfl) (by kernel_rfl) (fun _ _ _ h => h) (Or.inl ⟨by rfl, ?_⟩) (by assumption) ?_
            rotate_left
            · (intro wS hSw; (try dsimp only at hSw); go_simp; try (with_reducible rfl))
            try simp only [Act.put, List.setIfInBounds_toArray, List.set_cons_zero, List.set_cons_succ]
            refine RegH.takeH (i := 16) (v := ?_) rfl (by kernel_rfl) (by kernel_rfl) (by kernel_rfl) (fun _ _ _ h => h) (Or.inl ⟨by rfl, ?_⟩) (by assumption) ?_
            rotate_left
            · (intro wS hSw; (try dsimp only at hSw); go_simp; try (with_reducible rfl))
            try simp only [Act.put, List.setIfInBounds_toArray, List.set_cons_zero, List.set_cons_succ]
            refine RegH.takeH (i := 17) (v := ?_) rfl (by kernel_rfl) (by kernel_rfl) (by kernel_rfl) (fun _ _ _ h => h) (Or.inl ⟨by rfl, ?_⟩) (by assumption) ?_
            rotate_left
            · (intro wS hSw; (try dsimp only at hSw); go_simp; try (with_reducible rfl))
            try simp only [Act.put, List.setIfInBounds_toArray, List.set_cons_zero, List.set_cons_succ]
            refine wpAnyH_done (by kernel_rfl) ?_ _
            go_wp2_with fail
            go_roundw
            case rel => exact ⟨k + 1, by omega, by go_num, HN1.out, HN2.out, below_then HWR.out (below_then (show Below wr.heap.size wr w1 from HBG.out) (show Below w1.heap.size w1 wp from kp))⟩
            case measure => simp [intOf]; omega
    · have ek : k = l.length := by omega
      subst ek
      have HP := Lib.hid (show dbOk l = true from by
        have h1 := HOK.out
        have h2 := HAS.out
        rw [List.take_length] at h1 h2
        exact dbOk_iff.2 ⟨H6.out, h1, h2⟩)
      go_wp2_with fail
      go_ret
      exact ⟨DbSpec.ret_b HP.out.symm, HBW.out⟩
end Go.Proofs.Ytnoennmhifmolaa.DbImp
