/- Texts that the proof rests on, one behind the other. -/
import Derived.Test.YtdkhgeknjekkoaaGreatMg3Reference
import Derived.Test.YtdkhgeknjekkoaaGreatMg2Reference
import Derived.Test.YtdkhgeknjekkoaaGreatTabCopy
import Derived.Test.YtdkhgeknjekkoaaGreatExact
import Derived.Test.YtdkhgeknjekkoaaGreatTabIns
import Derived.StillTailTactics
import Derived.Test.YtdkhgeknjekkoaaGreatMg1Reference

namespace Go.Proofs.YtdkhgeknjekkoaaGreat.DbSpec
open Go Go.RowKit Byt Ints IntsLaw Cd Rows2 Tab SlMath TabOpen TabElem SlTable Db TabSpec DbMath

theorem val_elem (us : List Value) (T : T3) (S : Nat → Prop) (w : World) (hu : tabC.rd w S us T) :
    Calls Tryz.prog 65 #[.agg us.toArray] w fun e w' => e = .returned (.bool (okT T)) ∧ Below w.heap.size w w' := by
  obtain ⟨u, rfl, _, _, h3⟩ := tab_cells hu
  exact spec_valid T.1 T.2.1 u T.2.2 S w h3
theorem name_cell {w : World} {S : Nat → Prop} {x y z : Value} {T : T3} (h : tabC.rd w S [x, y, z] T) : x = .string T.1 := by
  obtain ⟨u, e, _⟩ := tab_cells h
  injection e
theorem drewD {w w' : World} (h : LaterD w w') : LaterD w w'.drew := Below.drew h
set_option maxRecDepth 100000 in
set_option maxHeartbeats 1600000 in
theorem spec_dbok (u : Value) (l : List T3) (S : Nat → Prop) (w : World) (h1 : tabsC.rd w S [u] l) :
    Calls Tryz.prog 63 #[.agg #[u]] w fun e w' => e = .returned (.bool (dbOk l)) ∧ Below w.heap.size w w' := by
  have HR1 := Lib.hid (fun w' (hb : Below w.heap.size w w') => Cd.later h1 hb)
  obtain ⟨a1, cap1, rfl, hl1⟩ := Cd.sl_form h1
  clear h1
  go_enter Tryz.func63, Tryz.ntmps63
  go_wp2_with fail
  generalize hW : w.alloc _ = W
  obtain ⟨r0, hz, hb0⟩ := start1 w _ hW
  have c0 := (row1 r0).1
  have HC0 := Lib.hid (row1 r0).1
  have HLT0 := Lib.hid (show w.heap.size < W.heap.size by omega)
  have HB0 := Lib.hid hb0
  clear hW r0 hz hb0
  go_loopw [3] (fun i wr => ∃ k : Nat, k ≤ l.length ∧ i = .int .i64 k ∧ (∀ T ∈ l.take k, okT T = true) ∧ AscP (l.take k) ∧ Below W.heap.size W wr) (fun i _ => l.length - (intOf i).toNat)
  case atStart => exact ⟨0, Nat.zero_le _, rfl, by simp, by simp [AscP], Below.refl _ _⟩
  case round =>
    obtain ⟨k, hk, rfl, hok, has, hb⟩ := hrel
    have x0 := (hb.cell (p := ⟨w.heap.size, 0, none⟩) HLT0.out).trans HC0.out
    have HOK := Lib.hid hok
    have HAS := Lib.hid has
    have HBW := Lib.hid (below_then HB0.out hb)
    have HWR := Lib.hid hb
    have hWr : W.heap.size ≤ wr.heap.size := hb.size
    clear c0 hok has
    by_cases hlt : k < l.length
    · obtain ⟨b, off, cap', us, e1, _, hbB, hat, hu⟩ := Cd.sl_at (HR1.out wr HBW.out) hlt
      injection e1 with e1 e2 e3
      subst e1 e3
      obtain ⟨x, y, z, rfl⟩ := len_list (tabC.len hu)
      have p0 := hat 0 (by simp)
      have p1 := hat 1 (by simp)
      have p2 := hat 2 (by simp)
      simp only [List.getElem_cons_zero, List.getElem_cons_succ, Nat.add_zero, show tabC.n = 3 from rfl] at p0 p1 p2
      obtain ⟨nk, hnk⟩ : ∃ nk, nk = (l[k]).1 := ⟨_, rfl⟩
      obtain rfl : x = .string nk := by rw [hnk]; exact name_cell hu
      have HNK := Lib.hid hnk
      have HE := Lib.hid (fun w' (hq : LaterD wr w') => val_elem [.string nk, y, z] l[k] _ w' (Cd.later hu hq))
      have HALL := Lib.hid (And.intro x0 (And.intro p0 (And.intro p1 p2)))
      have HLTS := Lib.hid (show w.heap.size < wr.heap.size ∧ b < wr.heap.size from ⟨by have := HLT0.out; omega, hbB⟩)
      have i1 : (0 : Int) ≤ (k : Int) := by omega
      have i2 : (k : Int) < (l.length : Int) := by omega
      have kk : LaterD wr wr.drew := drewD (Below.refl _ wr)
      clear hnk hu hat hb hbB e2
      cases hT : okT l[k]
      · rw [hT] at HE
        have HZ := Lib.hid (show dbOk l = false from dbOk_no.2 fun q => by have := q.2.1 _ (List.getElem_mem hlt); rw [hT] at this; cases this)
        clear hT
        go_wp2_with fail
        refine wp_region_held_drew (S := fun wx => wx.cell? ⟨w.heap.size, 0, none⟩ = some (.slice (some ⟨b, off, none⟩) l.length cap1) ∧ wx.cell? ⟨b, off + k * 3, none⟩ = some (.string nk) ∧ wx.cell? ⟨b, off + k * 3 + 1, none⟩ = some y ∧ wx.cell? ⟨b, off + k * 3 + 2, none⟩ = some z ∧ LaterD wr wx) (by kernel_rfl) ?_ (fun hHeld => ?_)
        · (refine ⟨?_, ?_, ?_, ?_, ?_⟩ <;> first | assumption | (simp [*]; done))
        refine RegH.takeH (i := 0) (v := ?_) rfl (by kernel_rfl) (by kernel_rfl) (by kernel_rfl) (fun _ _ _ h => h) (Or.inl ⟨by rfl, ?_⟩) (by assumption) ?_
        rotate_left
        · (intro wS hSw; (try dsimp only at hSw); go_simp; try (with_reducible rfl))
        try simp only [Act.put, List.setIfInBounds_toArray, List.set_cons_zero, List.set_cons_succ]
        refine RegH.takeH (i := 1) (v := ?_) rfl (by kernel_rfl) (by kernel_rfl) (by kernel_rfl) (fun _ _ _ h => h) (Or.inl ⟨by rfl, ?_⟩) (by assumption) ?_
        rotate_left
        · (intro wS hSw; (try dsimp only at hSw); go_simp; try (with_reducible rfl))
        try simp only [Act.put, List.setIfInBounds_toArray, List.set_cons_zero, List.set_cons_succ]
        refine RegH.takeH (i := 2) (v := ?_) rfl (by kernel_rfl) (by kernel_rfl) (by kernel_rfl) (fun _ _ _ h => h) (Or.inl ⟨by rfl, ?_⟩) (by assumption) ?_
        rotate_left
        · (intro wS hSw; (try dsimp only at hSw); go_simp; try (with_reducible rfl))
        try simp only [Act.put, List.setIfInBounds_toArray, List.set_cons_zero, List.set_cons_succ]
        refine RegH.takeH (i := 3) (v := ?_) rfl (by kernel_rfl) (by kernel_rfl) (by kernel_rfl) (fun _ _ _ h => h) (Or.inl ⟨by rfl, ?_⟩) (by assumption) ?_
        rotate_left
        · (intro wS hSw; (try dsimp only at hSw); go_simp; try (with_reducible rfl))
        try simp only [Act.put, List.setIfInBounds_toArray, List.set_cons_zero, List.set_cons_succ]
        refine RegH.takeH (i := 4) (v := ?_) rfl (by kernel_rfl) (by kernel_rfl) (by kernel_rfl) (fun _ _ _ h => h) (Or.inl ⟨by rfl, ?_⟩) (by assumption) ?_
        rotate_left
        · (intro wS hSw; (try dsimp only at hSw); go_simp; try (with_reducible rfl))
        try simp only [Act.put, List.setIfInBounds_toArray, List.set_cons_zero, List.set_cons_succ]
        refine RegH.consH (i := 5) rfl (by kernel_rfl) (fun K hK => ?_)
        go_simp
        go_at_call 65
        refine (HE.out _ kk).mono ?_
        rintro e wq ⟨rfl, hbq⟩
        have kq : LaterD wr wq := below_then (show Below wr.heap.size wr wr.drew from kk) hbq
        have n0 := (Below.cell kq (p := ⟨w.heap.size, 0, none⟩) HLTS.out.1).trans HALL.out.1
        have n1 := (Below.cell kq (p := ⟨b, off + k * 3, none⟩) HLTS.out.2).trans HALL.out.2.1
        have n2 := (Below.cell kq (p := ⟨b, off + k * 3 + 1, none⟩) HLTS.out.2).trans HALL.out.2.2.1
        have n3 := (Below.cell kq (p := ⟨b, off + k * 3 + 2, none⟩) HLTS.out.2).trans HALL.out.2.2.2
        clear hbq
        go_wp2_with fail
        refine hK.out _ _ ?_ (fun hHeld => ?_)
        · (refine ⟨?_, ?_, ?_, ?_, ?_⟩ <;> first | assumption | (simp [*]; done))
        clear hK K
        try simp only [Act.put, List.setIfInBounds_toArray, List.set_cons_zero, List.set_cons_succ]
        refine RegH.takeH (i := 6) (v := ?_) rfl (by kernel_rfl) (by kernel_rfl) (by kernel_rfl) (fun _ _ _ h => h) (Or.inl ⟨by rfl, ?_⟩) (by assumption) ?_
        rotate_left
        · (intro wS hSw; (try dsimp only at hSw); go_simp; try (with_reducible rfl))
        try simp only [Act.put, List.setIfInBounds_toArray, List.set_cons_zero, List.set_cons_succ]
        refine RegH.takeH (i := 7) (v := ?_) rfl (by kernel_rfl) (by kernel_rfl) (by kernel_rfl) (fun _ _ _ h => h) (Or.inl ⟨by rfl, ?_⟩) (by assumption) ?_
        rotate_left
        · (intro wS hSw; (try dsimp only at hSw); go_simp; try (with_reducible rfl))
        try simp only [Act.put, List.setIfInBounds_toArray, List.set_cons_zero, List.set_cons_succ]
        refine RegH.takeH (i := 8) rfl (by kernel_rfl) (by kernel_rfl) (by kernel_rfl) (fun _ _ _ h => h) (Or.inr ⟨by rfl, rfl⟩) (by assumption) ?_
        try simp only [Act.put, List.setIfInBounds_toArray, List.set_cons_zero, List.set_cons_succ]
        refine RegH.takeH (i := 9) rfl (by kernel_rfl) (by kernel_rfl) (by kernel_rfl) (fun _ _ _ h => h) (Or.inr ⟨by rfl, rfl⟩) (by assumption) ?_
        try simp only [Act.put, List.setIfInBounds_toArray, List.set_cons_zero, List.set_cons_succ]
        refine RegH.takeH (i := 10) rfl (by kernel_rfl) (by kernel_rfl) (by kernel_rfl) (fun _ _ _ h => h) (Or.inr ⟨by rfl, rfl⟩) (by assumption) ?_
        try simp only [Act.put, List.setIfInBounds_toArray, List.set_cons_zero, List.set_cons_succ]
        refine RegH.takeH (i := 11) rfl (by kernel_rfl) (by kernel_rfl) (by kernel_rfl) (fun _ _ _ h => h) (Or.inr ⟨by rfl, rfl⟩) (by assumption) ?_
        try simp only [Act.put, List.setIfInBounds_toArray, List.set_cons_zero, List.set_cons_succ]
        refine RegH.takeH (i := 12) rfl (by kernel_rfl) (by kernel_rfl) (by kernel_rfl) (fun _ _ _ h => h) (Or.inr ⟨by rfl, rfl⟩) (by assumption) ?_
        try simp only [Act.put, List.setIfInBounds_toArray, List.set_cons_zero, List.set_cons_succ]
        refine RegH.takeH (i := 13) rfl (by kernel_rfl) (by kernel_rfl) (by kernel_rfl) (fun _ _ _ h => h) (Or.inr ⟨by rfl, rfl⟩) (by assumption) ?_
        try simp only [Act.put, List.setIfInBounds_toArray, List.set_cons_zero, List.set_cons_succ]
        refine RegH.takeH (i := 14) rfl (by kernel_rfl) (by kernel_rfl) (by kernel_rfl) (fun _ _ _ h => h) (Or.inr ⟨by rfl, rfl⟩) (by assumption) ?_
        try simp only [Act.put, List.setIfInBounds_toArray, List.set_cons_zero, List.set_cons_succ]
        refine RegH.takeH (i := 15) rfl (by kernel_rfl) (by kernel_rfl) (by kernel_rfl) (fun _ _ _ h => h) (Or.inr ⟨by rfl, rfl⟩) (by assumption) ?_
        try simp only [Act.put, List.setIfInBounds_toArray, List.set_cons_zero, List.set_cons_succ]
        refine RegH.takeH (i := 16) rfl (by kernel_rfl) (by kernel_rfl) (by kernel_rfl) (fun _ _ _ h => h) (Or.inr ⟨by rfl, rfl⟩) (by assumption) ?_
        try simp only [Act.put, List.setIfInBounds_toArray, List.set_cons_zero, List.set_cons_succ]
        refine RegH.takeH (i := 17) rfl (by kernel_rfl) (by kernel_rfl) (by kernel_rfl) (fun _ _ _ h => h) (Or.inr ⟨by rfl, rfl⟩) (by assumption) ?_
        try simp only [Act.put, List.setIfInBounds_toArray, List.set_cons_zero, List.set_cons_succ]
        refine RegH.takeH (i := 18) rfl (by kernel_rfl) (by kernel_rfl) (by kernel_rfl) (fun _ _ _ h => h) (Or.inr ⟨by rfl, rfl⟩) (by assumption) ?_
        try simp only [Act.put, List.setIfInBounds_toArray, List.set_cons_zero, List.set_cons_succ]
        refine RegH.takeH (i := 19) rfl (by kernel_rfl) (by kernel_rfl) (by kernel_rfl) (fun _ _ _ h => h) (Or.inr ⟨by rfl, rfl⟩) (by assumption) ?_
        try simp only [Act.put, List.setIfInBounds_toArray, List.set_cons_zero, List.set_cons_succ]
        refine RegH.takeH (i := 20) rfl (by kernel_rfl) (by kernel_rfl) (by kernel_rfl) (fun _ _ _ h => h) (Or.inr ⟨by rfl, rfl⟩) (by assumption) ?_
        try simp only [Act.put, List.setIfInBounds_toArray, List.set_cons_zero, List.set_cons_succ]
        refine RegH.takeH (i := 21) rfl (by kernel_rfl) (by kernel_rfl) (by kernel_rfl) (fun _ _ _ h => h) (Or.inr ⟨by rfl, rfl⟩) (by assumption) ?_
        try simp only [Act.put, List.setIfInBounds_toArray, List.set_cons_zero, List.set_cons_succ]
        refine RegH.takeH (i := 22) rfl (by kernel_rfl) (by kernel_rfl) (by kernel_rfl) (fun _ _ _ h => h) (Or.inr ⟨by rfl, rfl⟩) (by assumption) ?_
        try simp only [Act.put, List.setIfInBounds_toArray, List.set_cons_zero, List.set_cons_succ]
        refine RegH.takeH (i := 23) rfl (by kernel_rfl) (by kernel_rfl) (by kernel_rfl) (fun _ _ _ h => h) (Or.inr ⟨by rfl, rfl⟩) (by assumption) ?_
        try simp only [Act.put, List.setIfInBounds_toArray, List.set_cons_zero, List.set_cons_succ]
        refine RegH.takeH (i := 24) rfl (by kernel_rfl) (by kernel_rfl) (by kernel_rfl) (fun _ _ _ h => h) (Or.inr ⟨by rfl, rfl⟩) (by assumption) ?_
        try simp only [Act.put, List.setIfInBounds_toArray, List.set_cons_zero, List.set_cons_succ]
        refine RegH.takeH (i := 25) rfl (by kernel_rfl) (by kernel_rfl) (by kernel_rfl) (fun _ _ _ h => h) (Or.inr ⟨by rfl, rfl⟩) (by assumption) ?_
        try simp only [Act.put, List.setIfInBounds_toArray, List.set_cons_zero, List.set_cons_succ]
        refine RegH.takeH (i := 26) (v := ?_) rfl (by kernel_rfl) (by kernel_rfl) (by kernel_rfl) (fun _ _ _ h => h) (Or.inl ⟨by rfl, ?_⟩) (by assumption) ?_
        rotate_left
        · (intro wS hSw; (try dsimp only at hSw); go_simp; try (with_reducible rfl))
        try simp only [Act.put, List.setIfInBounds_toArray, List.set_cons_zero, List.set_cons_succ]
        refine wpAnyH_done (by kernel_rfl) ?_ _
        go_wp2_with fail
        go_ret
        exact ⟨ret_b HZ.out.symm, below_then HBW.out (show Below wr.heap.size wr wq from kq)⟩
      · rw [hT] at HE
        have HN1 := Lib.hid (ok_more HOK.out hlt hT)
        clear hT
        by_cases hk0 : k = 0
        · have hg1 : ((0 : Int) < (k : Int)) = False := by simp only [eq_iff_iff, iff_false]; omega
          have hg2 : (0 < k) = False := by simp only [eq_iff_iff, iff_false]; omega
          have HN2 := Lib.hid (asc_more HAS.out hlt (fun j e _ => by omega))
          clear hk0
          go_wp2_with fail
          refine wp_region_held_drew (S := fun wx => wx.cell? ⟨w.heap.size, 0, none⟩ = some (.slice (some ⟨b, off, none⟩) l.length cap1) ∧ wx.cell? ⟨b, off + k * 3, none⟩ = some (.string nk) ∧ wx.cell? ⟨b, off + k * 3 + 1, none⟩ = some y ∧ wx.cell? ⟨b, off + k * 3 + 2, none⟩ = some z ∧ LaterD wr wx) (by kernel_rfl) ?_ (fun hHeld => ?_)
          · (refine ⟨?_, ?_, ?_, ?_, ?_⟩ <;> first | assumption | (simp [*]; done))
          refine RegH.takeH (i := 0) (v := ?_) rfl (by kernel_rfl) (by kernel_rfl) (by kernel_rfl) (fun _ _ _ h => h) (Or.inl ⟨by rfl, ?_⟩) (by assumption) ?_
          rotate_left
          · (intro wS hSw; (try dsimp only at hSw); go_simp; try (with_reducible rfl))
          try simp only [Act.put, List.setIfInBounds_toArray, List.set_cons_zero, List.set_cons_succ]
          refine RegH.takeH (i := 1) (v := ?_) rfl (by kernel_rfl) (by kernel_rfl) (by kernel_rfl) (fun _ _ _ h => h) (Or.inl ⟨by rfl, ?_⟩) (by assumption) ?_
          rotate_left
          · (intro wS hSw; (try dsimp only at hSw); go_simp; try (with_reducible rfl))
          try simp only [Act.put, List.setIfInBounds_toArray, List.set_cons_zero, List.set_cons_succ]
          refine RegH.takeH (i := 2) (v := ?_) rfl (by kernel_rfl) (by kernel_rfl) (by kernel_rfl) (fun _ _ _ h => h) (Or.inl ⟨by rfl, ?_⟩) (by assumption) ?_
          rotate_left
          · (intro wS hSw; (try dsimp only at hSw); go_simp; try (with_reducible rfl))
          try simp only [Act.put, List.setIfInBounds_toArray, List.set_cons_zero, List.set_cons_succ]
          refine RegH.takeH (i := 3) (v := ?_) rfl (by kernel_rfl) (by kernel_rfl) (by kernel_rfl) (fun _ _ _ h => h) (Or.inl ⟨by rfl, ?_⟩) (by assumption) ?_
          rotate_left
          · (intro wS hSw; (try dsimp only at hSw); go_simp; try (with_reducible rfl))
          try simp only [Act.put, List.setIfInBounds_toArray, List.set_cons_zero, List.set_cons_succ]
          refine RegH.takeH (i := 4) (v := ?_) rfl (by kernel_rfl) (by kernel_rfl) (by kernel_rfl) (fun _ _ _ h => h) (Or.inl ⟨by rfl, ?_⟩) (by assumption) ?_
          rotate_left
          · (intro wS hSw; (try dsimp only at hSw); go_simp; try (with_reducible rfl))
          try simp only [Act.put, List.setIfInBounds_toArray, List.set_cons_zero, List.set_cons_succ]
          refine RegH.consH (i := 5) rfl (by kernel_rfl) (fun K hK => ?_)
          go_simp
          go_at_call 65
          refine (HE.out _ kk).mono ?_
          rintro e wq ⟨rfl, hbq⟩
          have kq : LaterD wr wq := below_then (show Below wr.heap.size wr wr.drew from kk) hbq
          have n0 := (Below.cell kq (p := ⟨w.heap.size, 0, none⟩) HLTS.out.1).trans HALL.out.1
          have n1 := (Below.cell kq (p := ⟨b, off + k * 3, none⟩) HLTS.out.2).trans HALL.out.2.1
          have n2 := (Below.cell kq (p := ⟨b, off + k * 3 + 1, none⟩) HLTS.out.2).trans HALL.out.2.2.1
          have n3 := (Below.cell kq (p := ⟨b, off + k * 3 + 2, none⟩) HLTS.out.2).trans HALL.out.2.2.2
          clear hbq
          go_wp2_with fail
          refine hK.out _ _ ?_ (fun hHeld => ?_)
          · (refine ⟨?_, ?_, ?_, ?_, ?_⟩ <;> first | assumption | (simp [*]; done))
          clear hK K
          try simp only [Act.put, List.setIfInBounds_toArray, List.set_cons_zero, List.set_cons_succ]
          refine RegH.takeH (i := 6) (v := ?_) rfl (by kernel_rfl) (by kernel_rfl) (by kernel_rfl) (fun _ _ _ h => h) (Or.inl ⟨by rfl, ?_⟩) (by assumption) ?_
          rotate_left
          · (intro wS hSw; (try dsimp only at hSw); go_simp; try (with_reducible rfl))
          try simp only [Act.put, List.setIfInBounds_toArray, List.set_cons_zero, List.set_cons_succ]
          refine RegH.takeH (i := 7) (v := ?_) rfl (by kernel_rfl) (by kernel_rfl) (by kernel_rfl) (fun _ _ _ h => h) (Or.inl ⟨by rfl, ?_⟩) (by assumption) ?_
          rotate_left
          · (intro wS hSw; (try dsimp only at hSw); go_simp; try (with_reducible rfl))
          try simp only [Act.put, List.setIfInBounds_toArray, List.set_cons_zero, List.set_cons_succ]
          refine RegH.takeH (i := 8) (v := ?_) rfl (by kernel_rfl) (by kernel_rfl) (by kernel_rfl) (fun _ _ _ h => h) (Or.inl ⟨by rfl, ?_⟩) (by assumption) ?_
          rotate_left
          · (intro wS hSw; (try dsimp only at hSw); go_simp; try (with_reducible rfl))
          try simp only [Act.put, List.setIfInBounds_toArray, List.set_cons_zero, List.set_cons_succ]
          refine RegH.takeH (i := 9) (v := ?_) rfl (by kernel_rfl) (by kernel_rfl) (by kernel_rfl) (fun _ _ _ h => h) (Or.inl ⟨by rfl, ?_⟩) (by assumption) ?_
          rotate_left
          · (intro wS hSw; (try dsimp only at hSw); go_simp; try (with_reducible rfl))
          try simp only [Act.put, List.setIfInBounds_toArray, List.set_cons_zero, List.set_cons_succ]
          refine RegH.takeH (i := 10) (v := ?_) rfl (by kernel_rfl) (by kernel_rfl) (by kernel_rfl) (fun _ _ _ h => h) (Or.inl ⟨by rfl, ?_⟩) (by assumption) ?_
          rotate_left
          · (intro wS hSw; (try dsimp only at hSw); go_simp; try (with_reducible rfl))
          try simp only [Act.put, List.setIfInBounds_toArray, List.set_cons_zero, List.set_cons_succ]
          refine RegH.takeH (i := 11) rfl (by kernel_rfl) (by kernel_rfl) (by kernel_rfl) (fun _ _ _ h => h) (Or.inr ⟨by rfl, rfl⟩) (by assumption) ?_
          try simp only [Act.put, List.setIfInBounds_toArray, List.set_cons_zero, List.set_cons_succ]
          refine RegH.takeH (i := 12) rfl (by kernel_rfl) (by kernel_rfl) (by kernel_rfl) (fun _ _ _ h => h) (Or.inr ⟨by rfl, rfl⟩) (by assumption) ?_
          try simp only [Act.put, List.setIfInBounds_toArray, List.set_cons_zero, List.set_cons_succ]
          refine RegH.takeH (i := 13) rfl (by kernel_rfl) (by kernel_rfl) (by kernel_rfl) (fun _ _ _ h => h) (Or.inr ⟨by rfl, rfl⟩) (by assumption) ?_
          try simp only [Act.put, List.setIfInBounds_toArray, List.set_cons_zero, List.set_cons_succ]
          refine RegH.takeH (i := 14) rfl (by kernel_rfl) (by kernel_rfl) (by kernel_rfl) (fun _ _ _ h => h) (Or.inr ⟨by rfl, rfl⟩) (by assumption) ?_
          try simp only [Act.put, List.setIfInBounds_toArray, List.set_cons_zero, List.set_cons_succ]
          refine RegH.takeH (i := 15) rfl (by kernel_rfl) (by kernel_rfl) (by kernel_rfl) (fun _ _ _ h => h) (Or.inr ⟨by rfl, rfl⟩) (by assumption) ?_
          try simp only [Act.put, List.setIfInBounds_toArray, List.set_cons_zero, List.set_cons_succ]
          refine RegH.takeH (i := 16) rfl (by kernel_rfl) (by kernel_rfl) (by kernel_rfl) (fun _ _ _ h => h) (Or.inr ⟨by rfl, rfl⟩) (by assumption) ?_
          try simp only [Act.put, List.setIfInBounds_toArray, List.set_cons_zero, List.set_cons_succ]
          refine RegH.takeH (i := 17) rfl (by kernel_rfl) (by kernel_rfl) (by kernel_rfl) (fun _ _ _ h => h) (Or.inr ⟨by rfl, rfl⟩) (by assumption) ?_
          try simp only [Act.put, List.setIfInBounds_toArray, List.set_cons_zero, List.set_cons_succ]
          refine RegH.takeH (i := 18) rfl (by kernel_rfl) (by kernel_rfl) (by kernel_rfl) (fun _ _ _ h => h) (Or.inr ⟨by rfl, rfl⟩) (by assumption) ?_
          try simp only [Act.put, List.setIfInBounds_toArray, List.set_cons_zero, List.set_cons_succ]
          refine RegH.takeH (i := 19) rfl (by kernel_rfl) (by kernel_rfl) (by kernel_rfl) (fun _ _ _ h => h) (Or.inr ⟨by rfl, rfl⟩) (by assumption) ?_
          try simp only [Act.put, List.setIfInBounds_toArray, List.set_cons_zero, List.set_cons_succ]
          refine RegH.takeH (i := 20) rfl (by kernel_rfl) (by kernel_rfl) (by kernel_rfl) (fun _ _ _ h => h) (Or.inr ⟨by rfl, rfl⟩) (by assumption) ?_
          try simp only [Act.put, List.setIfInBounds_toArray, List.set_cons_zero, List.set_cons_succ]
          refine RegH.takeH (i := 21) rfl (by kernel_rfl) (by kernel_rfl) (by kernel_rfl) (fun _ _ _ h => h) (Or.inr ⟨by rfl, rfl⟩) (by assumption) ?_
          try simp only [Act.put, List.setIfInBounds_toArray, List.set_cons_zero, List.set_cons_succ]
          refine RegH.takeH (i := 22) rfl (by kernel_rfl) (by kernel_rfl) (by kernel_rfl) (fun _ _ _ h => h) (Or.inr ⟨by rfl, rfl⟩) (by assumption) ?_
          try simp only [Act.put, List.setIfInBounds_toArray, List.set_cons_zero, List.set_cons_succ]
          refine RegH.takeH (i := 23) rfl (by kernel_rfl) (by kernel_rfl) (by kernel_rfl) (fun _ _ _ h => h) (Or.inr ⟨by rfl, rfl⟩) (by assumption) ?_
          try simp only [Act.put, List.setIfInBounds_toArray, List.set_cons_zero, List.set_cons_succ]
          refine RegH.takeH (i := 24) rfl (by kernel_rfl) (by kernel_rfl) (by kernel_rfl) (fun _ _ _ h => h) (Or.inr ⟨by rfl, rfl⟩) (by assumption) ?_
          try simp only [Act.put, List.setIfInBounds_toArray, List.set_cons_zero, List.set_cons_succ]
          refine RegH.takeH (i := 25) (v := ?_) rfl (by kernel_rfl) (by kernel_rfl) (by kernel_rfl) (fun _ _ _ h => h) (Or.inl ⟨by rfl, ?_⟩) (by assumption) ?_
          rotate_left
          · (intro wS hSw; (try dsimp only at hSw); go_simp; try (with_reducible rfl))
          try simp only [Act.put, List.setIfInBounds_toArray, List.set_cons_zero, List.set_cons_succ]
          refine RegH.takeH (i := 26) (v := ?_) rfl (by kernel_rfl) (by kernel_rfl) (by kernel_rfl) (fun _ _ _ h => h) (Or.inl ⟨by rfl, ?_⟩) (by assumption) ?_
          rotate_left
          · (intro wS hSw; (try dsimp only at hSw); go_simp; try (with_reducible rfl))
          try simp only [Act.put, List.setIfInBounds_toArray, List.set_cons_zero, List.set_cons_succ]
          refine wpAnyH_done (by kernel_rfl) ?_ _
          go_wp2_with fail
          go_roundw
          case rel => exact ⟨k + 1, by omega, by go_num, HN1.out, HN2.out, below_then HWR.out (show Below wr.heap.size wr wq from kq)⟩
          case measure => simp [intOf]; omega
        · have hg1 : ((0 : Int) < (k : Int)) = True := by simp only [eq_iff_iff, iff_true]; omega
          have hg2 : (0 < k) = True := by simp only [eq_iff_iff, iff_true]; omega
          obtain ⟨j, hj⟩ : ∃ j, k = j + 1 := ⟨k - 1, by omega⟩
          have hjl : j < l.length := by omega
          obtain ⟨b', off', cap'', vs, e1, _, _, hat, hu⟩ := Cd.sl_at (HR1.out wr HBW.out) hjl
          injection e1 with e1 g1 g2
          injection e1 with e1
          injection e1 with e1 e2
          subst e1 e2
          clear g1 g2
          obtain ⟨x', y', z', rfl⟩ := len_list (tabC.len hu)
          have q0 := hat 0 (by simp)
          simp only [List.getElem_cons_zero, Nat.add_zero, show tabC.n = 3 from rfl] at q0
          obtain ⟨nj, hnj⟩ : ∃ nj, nj = (l[j]).1 := ⟨_, rfl⟩
          obtain rfl : x' = .string nj := by rw [hnj]; exact name_cell hu
          have HQ := Lib.hid q0
          have HNJ := Lib.hid (show nj = (l[j]).1 from hnj)
          have j1 : (k : Int) - 1 = (j : Int) := by omega
          have j2 : IntKind.i64.wrap (j : Int) = (j : Int) := by rw [IntKind.wrap_i64]; omega
          have j3 : (0 : Int) ≤ (j : Int) := by omega
          have j4 : (j : Int) < (l.length : Int) := by omega
          have HJ := Lib.hid hj
          clear hat hu hk0 hnj hj
          cases hlt2 : Op.bytesLess nj.toList nk.toList
          · have HZ := Lib.hid (show dbOk l = false from dbOk_no.2 fun q => by have e := HJ.out; subst e; have := asc_at q.2.2 hlt; unfold ltB at this; rw [← HNJ.out, ← HNK.out, hlt2] at this; cases this)
            go_wp2_with fail
            refine wp_region_held_drew (S := fun wx => wx.cell? ⟨w.heap.size, 0, none⟩ = some (.slice (some ⟨b, off, none⟩) l.length cap1) ∧ wx.cell? ⟨b, off + k * 3, none⟩ = some (.string nk) ∧ wx.cell? ⟨b, off + k * 3 + 1, none⟩ = some y ∧ wx.cell? ⟨b, off + k * 3 + 2, none⟩ = some z ∧ wx.cell? ⟨b, off + j * 3, none⟩ = some (.string nj) ∧ LaterD wr wx) (by kernel_rfl) ?_ (fun hHeld => ?_)
            · (refine ⟨?_, ?_, ?_, ?_, ?_, ?_⟩ <;> first | assumption | (simp [*]; done))
            refine RegH.takeH (i := 0) (v := ?_) rfl (by kernel_rfl) (by kernel_rfl) (by kernel_rfl) (fun _ _ _ h => h) (Or.inl ⟨by rfl, ?_⟩) (by assumption) ?_
            rotate_left
            · (intro wS hSw; (try dsimp only at hSw); go_simp; try (with_reducible rfl))
            try simp only [Act.put, List.setIfInBounds_toArray, List.set_cons_zero, List.set_cons_succ]
            refine RegH.takeH (i := 1) (v := ?_) rfl (by kernel_rfl) (by kernel_rfl) (by kernel_rfl) (fun _ _ _ h => h) (Or.inl ⟨by rfl, ?_⟩) (by assumption) ?_
            rotate_left
            · (intro wS hSw; (try dsimp only at hSw); go_simp; try (with_reducible rfl))
            try simp only [Act.put, List.setIfInBounds_toArray, List.set_cons_zero, List.set_cons_succ]
            refine RegH.takeH (i := 2) (v := ?_) rfl (by kernel_rfl) (by kernel_rfl) (by kernel_rfl) (fun _ _ _ h => h) (Or.inl ⟨by rfl, ?_⟩) (by assumption) ?_
            rotate_left
            · (intro wS hSw; (try dsimp only at hSw); go_simp; try (with_reducible rfl))
            try simp only [Act.put, List.setIfInBounds_toArray, List.set_cons_zero, List.set_cons_succ]
            refine RegH.takeH (i := 3) (v := ?_) rfl (by kernel_rfl) (by kernel_rfl) (by kernel_rfl) (fun _ _ _ h => h) (Or.inl ⟨by rfl, ?_⟩) (by assumption) ?_
            rotate_left
            · (intro wS hSw; (try dsimp only at hSw); go_simp; try (with_reducible rfl))
            try simp only [Act.put, List.setIfInBounds_toArray, List.set_cons_zero, List.set_cons_succ]
            refine RegH.takeH (i := 4) (v := ?_) rfl (by kernel_rfl) (by kernel_rfl) (by kernel_rfl) (fun _ _ _ h => h) (Or.inl ⟨by rfl, ?_⟩) (by assumption) ?_
            rotate_left
            · (intro wS hSw; (try dsimp only at hSw); go_simp; try (with_reducible rfl))
            try simp only [Act.put, List.setIfInBounds_toArray, List.set_cons_zero, List.set_cons_succ]
            refine RegH.consH (i := 5) rfl (by kernel_rfl) (fun K hK => ?_)
            go_simp
            go_at_call 65
            refine (HE.out _ kk).mono ?_
            rintro e wq ⟨rfl, hbq⟩
            have kq : LaterD wr wq := below_then (show Below wr.heap.size wr wr.drew from kk) hbq
            have n0 := (Below.cell kq (p := ⟨w.heap.size, 0, none⟩) HLTS.out.1).trans HALL.out.1
            have n1 := (Below.cell kq (p := ⟨b, off + k * 3, none⟩) HLTS.out.2).trans HALL.out.2.1
            have n2 := (Below.cell kq (p := ⟨b, off + k * 3 + 1, none⟩) HLTS.out.2).trans HALL.out.2.2.1
            have n3 := (Below.cell kq (p := ⟨b, off + k * 3 + 2, none⟩) HLTS.out.2).trans HALL.out.2.2.2
            have n4 := (Below.cell kq (p := ⟨b, off + j * 3, none⟩) HLTS.out.2).trans HQ.out
            clear hbq
            go_wp2_with fail
            refine hK.out _ _ ?_ (fun hHeld => ?_)
            · (refine ⟨?_, ?_, ?_, ?_, ?_, ?_⟩ <;> first | assumption | (simp [*]; done))
            clear hK K
            try simp only [Act.put, List.setIfInBounds_toArray, List.set_cons_zero, List.set_cons_succ]
            refine RegH.takeH (i := 6) (v := ?_) rfl (by kernel_rfl) (by kernel_rfl) (by kernel_rfl) (fun _ _ _ h => h) (Or.inl ⟨by rfl, ?_⟩) (by assumption) ?_
            rotate_left
            · (intro wS hSw; (try dsimp only at hSw); go_simp; try (with_reducible rfl))
            try simp only [Act.put, List.setIfInBounds_toArray, List.set_cons_zero, List.set_cons_succ]
            refine RegH.takeH (i := 7) (v := ?_) rfl (by kernel_rfl) (by kernel_rfl) (by kernel_rfl) (fun _ _ _ h => h) (Or.inl ⟨by rfl, ?_⟩) (by assumption) ?_
            rotate_left
            · (intro wS hSw; (try dsimp only at hSw); go_simp; try (with_reducible rfl))
            try simp only [Act.put, List.setIfInBounds_toArray, List.set_cons_zero, List.set_cons_succ]
            refine RegH.takeH (i := 8) (v := ?_) rfl (by kernel_rfl) (by kernel_rfl) (by kernel_rfl) (fun _ _ _ h => h) (Or.inl ⟨by rfl, ?_⟩) (by assumption) ?_
            rotate_left
            · (intro wS hSw; (try dsimp only at hSw); go_simp; try (with_reducible rfl))
            try simp only [Act.put, List.setIfInBounds_toArray, List.set_cons_zero, List.set_cons_succ]
            refine RegH.takeH (i := 9) (v := ?_) rfl (by kernel_rfl) (by kernel_rfl) (by kernel_rfl) (fun _ _ _ h => h) (Or.inl ⟨by rfl, ?_⟩) (by assumption) ?_
            rotate_left
            · (intro wS hSw; (try dsimp only at hSw); go_simp; try (with_reducible rfl))
            try simp only [Act.put, List.setIfInBounds_toArray, List.set_cons_zero, List.set_cons_succ]
            refine RegH.takeH (i := 10) (v := ?_) rfl (by kernel_rfl) (by kernel_rfl) (by kernel_rfl) (fun _ _ _ h => h) (Or.inl ⟨by rfl, ?_⟩) (by assumption) ?_
            rotate_left
            · (intro wS hSw; (try dsimp only at hSw); go_simp; try (with_reducible rfl))
            try simp only [Act.put, List.setIfInBounds_toArray, List.set_cons_zero, List.set_cons_succ]
            refine RegH.takeH (i := 11) (v := ?_) rfl (by kernel_rfl) (by kernel_rfl) (by kernel_rfl) (fun _ _ _ h => h) (Or.inl ⟨by rfl, ?_⟩) (by assumption) ?_
            rotate_left
            · (intro wS hSw; (try dsimp only at hSw); go_simp; try (with_reducible rfl))
            try simp only [Act.put, List.setIfInBounds_toArray, List.set_cons_zero, List.set_cons_succ]
            refine RegH.takeH (i := 12) (v := ?_) rfl (by kernel_rfl) (by kernel_rfl) (by kernel_rfl) (fun _ _ _ h => h) (Or.inl ⟨by rfl, ?_⟩) (by assumption) ?_
            rotate_left
            · (intro wS hSw; (try dsimp only at hSw); go_simp; try (with_reducible rfl))
            try simp only [Act.put, List.setIfInBounds_toArray, List.set_cons_zero, List.set_cons_succ]
            refine RegH.takeH (i := 13) (v := ?_) rfl (by kernel_rfl) (by kernel_rfl) (by kernel_rfl) (fun _ _ _ h => h) (Or.inl ⟨by rfl, ?_⟩) (by assumption) ?_
            rotate_left
            · (intro wS hSw; (try dsimp only at hSw); go_simp; try (with_reducible rfl))
            try simp only [Act.put, List.setIfInBounds_toArray, List.set_cons_zero, List.set_cons_succ]
            refine RegH.takeH (i := 14) (v := ?_) rfl (by kernel_rfl) (by kernel_rfl) (by kernel_rfl) (fun _ _ _ h => h) (Or.inl ⟨by rfl, ?_⟩) (by assumption) ?_
            rotate_left
            · (intro wS hSw; (try dsimp only at hSw); go_simp; try (with_reducible rfl))
            try simp only [Act.put, List.setIfInBounds_toArray, List.set_cons_zero, List.set_cons_succ]
            refine RegH.takeH (i := 15) (v := ?_) rfl (by kernel_rfl) (by kernel_rfl) (by kernel_rfl) (fun _ _ _ h => h) (Or.inl ⟨by rfl, ?_⟩) (by assumption) ?_
            rotate_left
            · (intro wS hSw; (try dsimp only at hSw); go_simp; try (with_reducible rfl))
            try simp only [Act.put, List.setIfInBounds_toArray, List.set_cons_zero, List.set_cons_succ]
            refine RegH.takeH (i := 16) (v := ?_) rfl (by kernel_rfl) (by kernel_rfl) (by kernel_rfl) (fun _ _ _ h => h) (Or.inl ⟨by rfl, ?_⟩) (by assumption) ?_
            rotate_left
            · (intro wS hSw; (try dsimp only at hSw); go_simp; try (with_reducible rfl))
            try simp only [Act.put, List.setIfInBounds_toArray, List.set_cons_zero, List.set_cons_succ]
            refine RegH.takeH (i := 17) (v := ?_) rfl (by kernel_rfl) (by kernel_rfl) (by kernel_rfl) (fun _ _ _ h => h) (Or.inl ⟨by rfl, ?_⟩) (by assumption) ?_
            rotate_left
            · (intro wS hSw; (try dsimp only at hSw); go_simp; try (with_reducible rfl))
            try simp only [Act.put, List.setIfInBounds_toArray, List.set_cons_zero, List.set_cons_succ]
            refine RegH.takeH (i := 18) (v := ?_) rfl (by kernel_rfl) (by kernel_rfl) (by kernel_rfl) (fun _ _ _ h => h) (Or.inl ⟨by rfl, ?_⟩) (by assumption) ?_
            rotate_left
            · (intro wS hSw; (try dsimp only at hSw); go_simp; try (with_reducible rfl))
            try simp only [Act.put, List.setIfInBounds_toArray, List.set_cons_zero, List.set_cons_succ]
            refine RegH.takeH (i := 19) (v := ?_) rfl (by kernel_rfl) (by kernel_rfl) (by kernel_rfl) (fun _ _ _ h => h) (Or.inl ⟨by rfl, ?_⟩) (by assumption) ?_
            rotate_left
            · (intro wS hSw; (try dsimp only at hSw); go_simp; try (with_reducible rfl))
            try simp only [Act.put, List.setIfInBounds_toArray, List.set_cons_zero, List.set_cons_succ]
            refine RegH.takeH (i := 20) (v := ?_) rfl (by kernel_rfl) (by kernel_rfl) (by kernel_rfl) (fun _ _ _ h => h) (Or.inl ⟨by rfl, ?_⟩) (by assumption) ?_
            rotate_left
            · (intro wS hSw; (try dsimp only at hSw); go_simp; try (with_reducible rfl))
            try simp only [Act.put, List.setIfInBounds_toArray, List.set_cons_zero, List.set_cons_succ]
            refine RegH.takeH (i := 21) (v := ?_) rfl (by kernel_rfl) (by kernel_rfl) (by kernel_rfl) (fun _ _ _ h => h) (Or.inl ⟨by rfl, ?_⟩) (by assumption) ?_
            rotate_left
            · (intro wS hSw; (try dsimp only at hSw); go_simp; try (with_reducible rfl))
            try simp only [Act.put, List.setIfInBounds_toArray, List.set_cons_zero, List.set_cons_succ]
            refine RegH.takeH (i := 22) (v := ?_) rfl (by kernel_rfl) (by kernel_rfl) (by kernel_rfl) (fun _ _ _ h => h) (Or.inl ⟨by rfl, ?_⟩) (by assumption) ?_
            rotate_left
            · (intro wS hSw; (try dsimp only at hSw); go_simp; try (with_reducible rfl))
            try simp only [Act.put, List.setIfInBounds_toArray, List.set_cons_zero, List.set_cons_succ]
            refine RegH.takeH (i := 23) (v := ?_) rfl (by kernel_rfl) (by kernel_rfl) (by kernel_rfl) (fun _ _ _ h => h) (Or.inl ⟨by rfl, ?_⟩) (by assumption) ?_
            rotate_left
            · (intro wS hSw; (try dsimp only at hSw); go_simp; try (with_reducible rfl))
            try simp only [Act.put, List.setIfInBounds_toArray, List.set_cons_zero, List.set_cons_succ]
            refine RegH.takeH (i := 24) (v := ?_) rfl (by kernel_rfl) (by kernel_rfl) (by kernel_rfl) (fun _ _ _ h => h) (Or.inl ⟨by rfl, ?_⟩) (by assumption) ?_
            rotate_left
            · (intro wS hSw; (try dsimp only at hSw); go_simp; try (with_reducible rfl))
            try simp only [Act.put, List.setIfInBounds_toArray, List.set_cons_zero, List.set_cons_succ]
            refine RegH.takeH (i := 25) (v := ?_) rfl (by kernel_rfl) (by kernel_rfl) (by kernel_rfl) (fun _ _ _ h => h) (Or.inl ⟨by rfl, ?_⟩) (by assumption) ?_
            rotate_left
            · (intro wS hSw; (try dsimp only at hSw); go_simp; try (with_reducible rfl))
            try simp only [Act.put, List.setIfInBounds_toArray, List.set_cons_zero, List.set_cons_succ]
            refine RegH.takeH (i := 26) (v := ?_) rfl (by kernel_rfl) (by kernel_rfl) (by kernel_rfl) (fun _ _ _ h => h) (Or.inl ⟨by rfl, ?_⟩) (by assumption) ?_
            rotate_left
            · (intro wS hSw; (try dsimp only at hSw); go_simp; try (with_reducible rfl))
            try simp only [Act.put, List.setIfInBounds_toArray, List.set_cons_zero, List.set_cons_succ]
            refine wpAnyH_done (by kernel_rfl) ?_ _
            go_wp2_with fail
            go_ret
            exact ⟨ret_b HZ.out.symm, below_then HBW.out (show Below wr.heap.size wr wq from kq)⟩
          · have HN2 := Lib.hid (asc_more HAS.out hlt (fun i e hi => by have e2 := HJ.out; obtain rfl : i = j := (by omega); unfold ltB; rw [← HNJ.out, ← HNK.out]; exact hlt2))
            go_wp2_with fail
            refine wp_region_held_drew (S := fun wx => wx.cell? ⟨w.heap.size, 0, none⟩ = some (.slice (some ⟨b, off, none⟩) l.length cap1) ∧ wx.cell? ⟨b, off + k * 3, none⟩ = some (.string nk) ∧ wx.cell? ⟨b, off + k * 3 + 1, none⟩ = some y ∧ wx.cell? ⟨b, off + k * 3 + 2, none⟩ = some z ∧ wx.cell? ⟨b, off + j * 3, none⟩ = some (.string nj) ∧ LaterD wr wx) (by kernel_rfl) ?_ (fun hHeld => ?_)
            · (refine ⟨?_, ?_, ?_, ?_, ?_, ?_⟩ <;> first | assumption | (simp [*]; done))
            refine RegH.takeH (i := 0) (v := ?_) rfl (by kernel_rfl) (by kernel_rfl) (by kernel_rfl) (fun _ _ _ h => h) (Or.inl ⟨by rfl, ?_⟩) (by assumption) ?_
            rotate_left
            · (intro wS hSw; (try dsimp only at hSw); go_simp; try (with_reducible rfl))
            try simp only [Act.put, List.setIfInBounds_toArray, List.set_cons_zero, List.set_cons_succ]
            refine RegH.takeH (i := 1) (v := ?_) rfl (by kernel_rfl) (by kernel_rfl) (by kernel_rfl) (fun _ _ _ h => h) (Or.inl ⟨by rfl, ?_⟩) (by assumption) ?_
            rotate_left
            · (intro wS hSw; (try dsimp only at hSw); go_simp; try (with_reducible rfl))
            try simp only [Act.put, List.setIfInBounds_toArray, List.set_cons_zero, List.set_cons_succ]
            refine RegH.takeH (i := 2) (v := ?_) rfl (by kernel_rfl) (by kernel_rfl) (by kernel_rfl) (fun _ _ _ h => h) (Or.inl ⟨by rfl, ?_⟩) (by assumption) ?_
            rotate_left
            · (intro wS hSw; (try dsimp only at hSw); go_simp; try (with_reducible rfl))
            try simp only [Act.put, List.setIfInBounds_toArray, List.set_cons_zero, List.set_cons_succ]
            refine RegH.takeH (i := 3) (v := ?_) rfl (by kernel_rfl) (by kernel_rfl) (by kernel_rfl) (fun _ _ _ h => h) (Or.inl ⟨by rfl, ?_⟩) (by assumption) ?_
            rotate_left
            · (intro wS hSw; (try dsimp only at hSw); go_simp; try (with_reducible rfl))
            try simp only [Act.put, List.setIfInBounds_toArray, List.set_cons_zero, List.set_cons_succ]
            refine RegH.takeH (i := 4) (v := ?_) rfl (by kernel_rfl) (by kernel_rfl) (by kernel_rfl) (fun _ _ _ h => h) (Or.inl ⟨by rfl, ?_⟩) (by assumption) ?_
            rotate_left
            · (intro wS hSw; (try dsimp only at hSw); go_simp; try (with_reducible rfl))
            try simp only [Act.put, List.setIfInBounds_toArray, List.set_cons_zero, List.set_cons_succ]
            refine RegH.consH (i := 5) rfl (by kernel_rfl) (fun K hK => ?_)
            go_simp
            go_at_call 65
            refine (HE.out _ kk).mono ?_
            rintro e wq ⟨rfl, hbq⟩
            have kq : LaterD wr wq := below_then (show Below wr.heap.size wr wr.drew from kk) hbq
            have n0 := (Below.cell kq (p := ⟨w.heap.size, 0, none⟩) HLTS.out.1).trans HALL.out.1
            have n1 := (Below.cell kq (p := ⟨b, off + k * 3, none⟩) HLTS.out.2).trans HALL.out.2.1
            have n2 := (Below.cell kq (p := ⟨b, off + k * 3 + 1, none⟩) HLTS.out.2).trans HALL.out.2.2.1
            have n3 := (Below.cell kq (p := ⟨b, off + k * 3 + 2, none⟩) HLTS.out.2).trans HALL.out.2.2.2
            have n4 := (Below.cell kq (p := ⟨b, off + j * 3, none⟩) HLTS.out.2).trans HQ.out
            clear hbq
            go_wp2_with fail
            refine hK.out _ _ ?_ (fun hHeld => ?_)
            · (refine ⟨?_, ?_, ?_, ?_, ?_, ?_⟩ <;> first | assumption | (simp [*]; done))
            clear hK K
            try simp only [Act.put, List.setIfInBounds_toArray, List.set_cons_zero, List.set_cons_succ]
            refine RegH.takeH (i := 6) (v := ?_) rfl (by kernel_rfl) (by kernel_rfl) (by kernel_rfl) (fun _ _ _ h => h) (Or.inl ⟨by rfl, ?_⟩) (by assumption) ?_
            rotate_left
            · (intro wS hSw; (try dsimp only at hSw); go_simp; try (with_reducible rfl))
            try simp only [Act.put, List.setIfInBounds_toArray, List.set_cons_zero, List.set_cons_succ]
            refine RegH.takeH (i := 7) (v := ?_) rfl (by kernel_rfl) (by kernel_rfl) (by kernel_rfl) (fun _ _ _ h => h) (Or.inl ⟨by rfl, ?_⟩) (by assumption) ?_
            rotate_left
            · (intro wS hSw; (try dsimp only at hSw); go_simp; try (with_reducible rfl))
            try simp only [Act.put, List.setIfInBounds_toArray, List.set_cons_zero, List.set_cons_succ]
            refine RegH.takeH (i := 8) (v := ?_) rfl (by kernel_rfl) (by kernel_rfl) (by kernel_rfl) (fun _ _ _ h => h) (Or.inl ⟨by rfl, ?_⟩) (by assumption) ?_
            rotate_left
            · (intro wS hSw; (try dsimp only at hSw); go_simp; try (with_reducible rfl))
            try simp only [Act.put, List.setIfInBounds_toArray, List.set_cons_zero, List.set_cons_succ]
            refine RegH.takeH (i := 9) (v := ?_) rfl (by kernel_rfl) (by kernel_rfl) (by kernel_rfl) (fun _ _ _ h => h) (Or.inl ⟨by rfl, ?_⟩) (by assumption) ?_
            rotate_left
            · (intro wS hSw; (try dsimp only at hSw); go_simp; try (with_reducible rfl))
            try simp only [Act.put, List.setIfInBounds_toArray, List.set_cons_zero, List.set_cons_succ]
            refine RegH.takeH (i := 10) (v := ?_) rfl (by kernel_rfl) (by kernel_rfl) (by kernel_rfl) (fun _ _ _ h => h) (Or.inl ⟨by rfl, ?_⟩) (by assumption) ?_
            rotate_left
            · (intro wS hSw; (try dsimp only at hSw); go_simp; try (with_reducible rfl))
            try simp only [Act.put, List.setIfInBounds_toArray, List.set_cons_zero, List.set_cons_succ]
            refine RegH.takeH (i := 11) (v := ?_) rfl (by kernel_rfl) (by kernel_rfl) (by kernel_rfl) (fun _ _ _ h => h) (Or.inl ⟨by rfl, ?_⟩) (by assumption) ?_
            rotate_left
            · (intro wS hSw; (try dsimp only at hSw); go_simp; try (with_reducible rfl))
            try simp only [Act.put, List.setIfInBounds_toArray, List.set_cons_zero, List.set_cons_succ]
            refine RegH.takeH (i := 12) (v := ?_) rfl (by kernel_rfl) (by kernel_rfl) (by kernel_rfl) (fun _ _ _ h => h) (Or.inl ⟨by rfl, ?_⟩) (by assumption) ?_
            rotate_left
            · (intro wS hSw; (try dsimp only at hSw); go_simp; try (with_reducible rfl))
            try simp only [Act.put, List.setIfInBounds_toArray, List.set_cons_zero, List.set_cons_succ]
            refine RegH.takeH (i := 13) (v := ?_) rfl (by kernel_rfl) (by kernel_rfl) (by kernel_rfl) (fun _ _ _ h => h) (Or.inl ⟨by rfl, ?_⟩) (by assumption) ?_
            rotate_left
            · (intro wS hSw; (try dsimp only at hSw); go_simp; try (with_reducible rfl))
            try simp only [Act.put, List.setIfInBounds_toArray, List.set_cons_zero, List.set_cons_succ]
            refine RegH.takeH (i := 14) (v := ?_) rfl (by kernel_rfl) (by kernel_rfl) (by kernel_rfl) (fun _ _ _ h => h) (Or.inl ⟨by rfl, ?_⟩) (by assumption) ?_
            rotate_left
            · (intro wS hSw; (try dsimp only at hSw); go_simp; try (with_reducible rfl))
            try simp only [Act.put, List.setIfInBounds_toArray, List.set_cons_zero, List.set_cons_succ]
            refine RegH.takeH (i := 15) (v := ?_) rfl (by kernel_rfl) (by kernel_rfl) (by kernel_rfl) (fun _ _ _ h => h) (Or.inl ⟨by rfl, ?_⟩) (by assumption) ?_
            rotate_left
            · (intro wS hSw; (try dsimp only at hSw); go_simp; try (with_reducible rfl))
            try simp only [Act.put, List.setIfInBounds_toArray, List.set_cons_zero, List.set_cons_succ]
            refine RegH.takeH (i := 16) (v := ?_) rfl (by kernel_rfl) (by kernel_rfl) (by kernel_rfl) (fun _ _ _ h => h) (Or.inl ⟨by rfl, ?_⟩) (by assumption) ?_
            rotate_left
            · (intro wS hSw; (try dsimp only at hSw); go_simp; try (with_reducible rfl))
            try simp only [Act.put, List.setIfInBounds_toArray, List.set_cons_zero, List.set_cons_succ]
            refine RegH.takeH (i := 17) (v := ?_) rfl (by kernel_rfl) (by kernel_rfl) (by kernel_rfl) (fun _ _ _ h => h) (Or.inl ⟨by rfl, ?_⟩) (by assumption) ?_
            rotate_left
            · (intro wS hSw; (try dsimp only at hSw); go_simp; try (with_reducible rfl))
            try simp only [Act.put, List.setIfInBounds_toArray, List.set_cons_zero, List.set_cons_succ]
            refine RegH.takeH (i := 18) (v := ?_) rfl (by kernel_rfl) (by kernel_rfl) (by kernel_rfl) (fun _ _ _ h => h) (Or.inl ⟨by rfl, ?_⟩) (by assumption) ?_
            rotate_left
            · (intro wS hSw; (try dsimp only at hSw); go_simp; try (with_reducible rfl))
            try simp only [Act.put, List.setIfInBounds_toArray, List.set_cons_zero, List.set_cons_succ]
            refine RegH.takeH (i := 19) (v := ?_) rfl (by kernel_rfl) (by kernel_rfl) (by kernel_rfl) (fun _ _ _ h => h) (Or.inl ⟨by rfl, ?_⟩) (by assumption) ?_
            rotate_left
            · (intro wS hSw; (try dsimp only at hSw); go_simp; try (with_reducible rfl))
            try simp only [Act.put, List.setIfInBounds_toArray, List.set_cons_zero, List.set_cons_succ]
            refine RegH.takeH (i := 20) (v := ?_) rfl (by kernel_rfl) (by kernel_rfl) (by kernel_rfl) (fun _ _ _ h => h) (Or.inl ⟨by rfl, ?_⟩) (by assumption) ?_
            rotate_left
            · (intro wS hSw; (try dsimp only at hSw); go_simp; try (with_reducible rfl))
            try simp only [Act.put, List.setIfInBounds_toArray, List.set_cons_zero, List.set_cons_succ]
            refine RegH.takeH (i := 21) (v := ?_) rfl (by kernel_rfl) (by kernel_rfl) (by kernel_rfl) (fun _ _ _ h => h) (Or.inl ⟨by rfl, ?_⟩) (by assumption) ?_
            rotate_left
            · (intro wS hSw; (try dsimp only at hSw); go_simp; try (with_reducible rfl))
            try simp only [Act.put, List.setIfInBounds_toArray, List.set_cons_zero, List.set_cons_succ]
            refine RegH.takeH (i := 22) (v := ?_) rfl (by kernel_rfl) (by kernel_rfl) (by kernel_rfl) (fun _ _ _ h => h) (Or.inl ⟨by rfl, ?_⟩) (by assumption) ?_
            rotate_left
            · (intro wS hSw; (try dsimp only at hSw); go_simp; try (with_reducible rfl))
            try simp only [Act.put, List.setIfInBounds_toArray, List.set_cons_zero, List.set_cons_succ]
            refine RegH.takeH (i := 23) (v := ?_) rfl (by kernel_rfl) (by kernel_rfl) (by kernel_rfl) (fun _ _ _ h => h) (Or.inl ⟨by rfl, ?_⟩) (by assumption) ?_
            rotate_left
            · (intro wS hSw; (try dsimp only at hSw); go_simp; try (with_reducible rfl))
            try simp only [Act.put, List.setIfInBounds_toArray, List.set_cons_zero, List.set_cons_succ]
            refine RegH.takeH (i := 24) (v := ?_) rfl (by kernel_rfl) (by kernel_rfl) (by kernel_rfl) (fun _ _ _ h => h) (Or.inl ⟨by rfl, ?_⟩) (by assumption) ?_
            rotate_left
            · (intro wS hSw; (try dsimp only at hSw); go_simp; try (with_reducible rfl))
            try simp only [Act.put, List.setIfInBounds_toArray, List.set_cons_zero, List.set_cons_succ]
            refine RegH.takeH (i := 25) (v := ?_) rfl (by kernel_rfl) (by kernel_rfl) (by kernel_rfl) (fun _ _ _ h => h) (Or.inl ⟨by rfl, ?_⟩) (by assumption) ?_
            rotate_left
            · (intro wS hSw; (try dsimp only at hSw); go_simp; try (with_reducible rfl))
            try simp only [Act.put, List.setIfInBounds_toArray, List.set_cons_zero, List.set_cons_succ]
            refine RegH.takeH (i := 26) (v := ?_) rfl (by kernel_rfl) (by kernel_rfl) (by kernel_rfl) (fun _ _ _ h => h) (Or.inl ⟨by rfl, ?_⟩) (by assumption) ?_
            rotate_left
            · (intro wS hSw; (try dsimp only at hSw); go_simp; try (with_reducible rfl))
            try simp only [Act.put, List.setIfInBounds_toArray, List.set_cons_zero, List.set_cons_succ]
            refine wpAnyH_done (by kernel_rfl) ?_ _
            go_wp2_with fail
            go_roundw
            case rel => exact ⟨k + 1, by omega, by go_num, HN1.out, HN2.out, below_then HWR.out (show Below wr.heap.size wr wq from kq)⟩
            case measure => simp [intOf]; omega
    · have ek : k = l.length := by omega
      subst ek
      have HP := Lib.hid (show dbOk l = decide ((l.length : Int) ≤ 6) from by
        have h1 := HOK.out
        have h2 := HAS.out
        rw [List.take_length] at h1 h2
        unfold dbOk
        exact decide_eq_decide.2 ⟨fun q => by have := q.1; omega, fun q => ⟨by omega, h1, h2⟩⟩)
      go_wp2_with fail
      go_ret
      exact ⟨ret_b HP.out.symm, HBW.out⟩
end Go.Proofs.YtdkhgeknjekkoaaGreat.DbSpec

namespace Go.Proofs.YtdkhgeknjekkoaaGreat.DbSpec
open Go Go.RowKit Byt Ints IntsLaw Cd Rows2 Tab SlMath TabOpen TabElem SlTable Db TabSpec

theorem at3 {w : World} {b : Nat} {x y z : Value} {e : TypeId} (h : w.heap[b]? = some (.cells #[x, y, z] e (0, 0))) : Cd.At w b 0 [x, y, z] := fun j hj => by
  obtain ⟨h0, h1, h2, _⟩ := row3 h
  match j, hj with
  | 0, _ => exact h0
  | 1, _ => exact h1
  | 2, _ => exact h2
end Go.Proofs.YtdkhgeknjekkoaaGreat.DbSpec

namespace Go.Proofs.YtdkhgeknjekkoaaGreat.DbSpec
open Go Go.RowKit Byt Ints IntsLaw Cd Rows2 Tab SlMath TabOpen TabElem SlTable Db TabSpec DbMath

theorem cntRows_succ {l : List T3} {k : Nat} (h : k < l.length) : cntRows (l.take (k + 1)) = cntRows (l.take k) + (l[k]).2.2.length := sumN_succ _ h
theorem cntRows_take (l : List T3) (k : Nat) : cntRows (l.take k) ≤ cntRows l := sumN_take _ l k
theorem cntRows_le : ∀ (l : List T3), cntRows l ≤ wtS l
  | [] => by simp [cntRows, sumN]
  | T :: l => by
    have ih := cntRows_le l
    unfold wtS at *
    rw [sumN_cons, List.length_cons]
    have e : cntRows (T :: l) = T.2.2.length + cntRows l := sumN_cons _ _ _
    have : T.2.2.length ≤ wtT T := by unfold wtT tabWt rowsWt; omega
    omega
theorem rows_cell {w : World} {S : Nat → Prop} {x y z : Value} {T : T3} (h : tabC.rd w S [x, y, z] T) : ∃ a c, z = .slice a T.2.2.length c := by
  obtain ⟨u, e, _, _, h3⟩ := tab_cells h
  obtain ⟨a, c, e2, _⟩ := rows_form h3
  injection e with _ e
  injection e with _ e
  injection e with e _
  exact ⟨a, c, e.trans e2⟩


theorem copy_rows (us : List Value) (T : T3) (S : Nat → Prop) (w : World) (hu : tabC.rd w S us T) (hw : wtT T ≤ 1073741824) :
    Calls Tryz.prog 64 #[.agg us.toArray] w fun e w' => ∃ a c fp, e = .returned (.agg #[.string T.1, .int .i64 T.2.1, .slice a T.2.2.length c]) ∧ rowsC.ow w' w.heap.size [.slice a T.2.2.length c] T.2.2 fp ∧ fp.Nodup ∧ Below w.heap.size w w' := by
  obtain ⟨u, rfl, h1, h2, h3⟩ := tab_cells hu
  refine (spec_copy T.1 T.2.1 u T.2.2 S w h3 (by unfold wtT tabWt at hw; omega)).mono ?_
  rintro e w' ⟨u', fp, rfl, how, hnd, hb⟩
  obtain ⟨a, c, rfl⟩ := Cd.ow_slice how
  exact ⟨a, c, fp, rfl, how, hnd, hb⟩
def zeroT : T3 := (⟨#[]⟩, 0, [])
def lkT (l : List T3) (nm : ByteArray) : T3 := (lookL l nm).getD zeroT
theorem lk_none {l : List T3} {nm : ByteArray} (h : lookL l nm = none) : lkT l nm = zeroT := by unfold lkT; rw [h]; rfl
theorem lk_some {l : List T3} {nm : ByteArray} {T : T3} (h : lookL l nm = some T) : lkT l nm = T := by unfold lkT; rw [h]; rfl
/-- A table, and whether there is one. -/
def LookAns (l : List T3) (nm : ByteArray) (w : World) (e : Ending) (w' : World) : Prop :=
  ∃ v fp, e = .returned (.tuple #[.agg #[.string (lkT l nm).1, .int .i64 (lkT l nm).2.1, v], .bool (lookL l nm).isSome]) ∧ rowsC.ow w' w.heap.size [v] (lkT l nm).2.2 fp ∧ fp.Nodup ∧ Below w.heap.size w w'
theorem LookAns.none {l : List T3} {nm : ByteArray} {w w' : World} (h : lookL l nm = Option.none) (hb : Below w.heap.size w w') : LookAns l nm w (.returned (.tuple #[.agg #[.string ⟨#[]⟩, .int .i64 0, .slice .none 0 0], .bool false])) w' :=
  ⟨.slice .none 0 0, [], by rw [lk_none h, h]; rfl, by rw [lk_none h]; exact Cd.ow_nil _ _, by simp, hb⟩
theorem LookAns.some {l : List T3} {nm : ByteArray} {w w' : World} {T : T3} {v : Value} {fp : List Nat} (h : lookL l nm = Option.some T) (ho : rowsC.ow w' w.heap.size [v] T.2.2 fp) (hn : fp.Nodup) (hb : Below w.heap.size w w') : LookAns l nm w (.returned (.tuple #[.agg #[.string T.1, .int .i64 T.2.1, v], .bool true])) w' :=
  ⟨v, fp, by rw [lk_some h, h]; rfl, by rw [lk_some h]; exact ho, hn, hb⟩
theorem take_no {l : List T3} {nm : ByteArray} {k : Nat} (h : ∀ T ∈ l.take k, T.1 ≠ nm) (hk : k < l.length) (h0 : (l[k]).1 ≠ nm) : ∀ T ∈ l.take (k + 1), T.1 ≠ nm := by
  intro T hT
  rw [List.take_succ_eq_append_getElem hk] at hT
  rcases List.mem_append.1 hT with q | q
  · exact h T q
  · rw [List.mem_singleton.1 q]; exact h0
set_option maxRecDepth 100000 in
set_option maxHeartbeats 1600000 in
theorem spec_look (u : Value) (l : List T3) (nm : ByteArray) (S : Nat → Prop) (w : World) (h1 : tabsC.rd w S [u] l) (hw : wtS l ≤ 1048577) :
    Calls Tryz.prog 19 #[.agg #[u], .string nm] w fun e w' => LookAns l nm w e w' := by
  have HR1 := Lib.hid (fun w' (hb : Below w.heap.size w w') => Cd.later h1 hb)
  have HV := Lib.hid (fun w' (hb : Below w.heap.size w w') => spec_dbok u l S w' (Cd.later h1 hb))
  obtain ⟨a1, cap1, rfl, hl1⟩ := Cd.sl_form h1
  have HWT := Lib.hid hw
  clear h1 hw
  go_enter Tryz.func19, Tryz.ntmps19
  go_wp2_with fail
  generalize hW : (w.alloc _).alloc _ = W
  obtain ⟨r0, r1, hz, hb0⟩ := start2g w _ _ hW
  have c0 := (row1 r0).1
  have HC0 := Lib.hid (row1 r0).1
  have HC1 := Lib.hid r1
  have HZZ := Lib.hid hz
  have HB0 := Lib.hid hb0
  clear hW r0 r1 hz hb0
  go_loopw [6] (fun i wr => ∃ k : Nat, k ≤ l.length ∧ i = .int .i64 k ∧ (dbOk l = false → k = 0) ∧ (∀ T ∈ l.take k, T.1 ≠ nm) ∧ Below W.heap.size W wr) (fun i _ => l.length - (intOf i).toNat)
  case atStart => exact ⟨0, Nat.zero_le _, rfl, fun _ => rfl, by simp, Below.refl _ _⟩
  case round =>
    obtain ⟨k, hk, rfl, h0, hno, hb⟩ := hrel
    have x0 := (hb.cell (p := ⟨w.heap.size, 0, none⟩) (by have := HZZ.out; show w.heap.size < _; omega)).trans HC0.out
    have HC1' := Lib.hid ((hb.block (w.heap.size + 1) (by have := HZZ.out; omega)).trans HC1.out)
    have HK0 := Lib.hid h0
    have HNO := Lib.hid hno
    have HBW := Lib.hid (below_then HB0.out hb)
    have HWR := Lib.hid hb
    have HX0 := Lib.hid x0
    have HXL := Lib.hid (show w.heap.size + 1 < wr.heap.size by have := HZZ.out; have := hb.size; omega)
    clear c0 h0 hno
    by_cases hlt : k < l.length
    · obtain ⟨b, off, cap', us, e1, _, hbB, hat, hu⟩ := Cd.sl_at (HR1.out wr HBW.out) hlt
      injection e1 with e1 e2 e3
      subst e1 e3
      obtain ⟨x, y, z, rfl⟩ := len_list (tabC.len hu)
      have p0 := hat 0 (by simp)
      have p1 := hat 1 (by simp)
      have p2 := hat 2 (by simp)
      simp only [List.getElem_cons_zero, List.getElem_cons_succ, Nat.add_zero, show tabC.n = 3 from rfl] at p0 p1 p2
      have ht3 : wtT l[k] ≤ 1073741824 := by have := sumN_mem wtT hlt; have := HWT.out; unfold wtS at this; omega
      have HCP := Lib.hid (fun w' (hq : LaterD wr w') => copy_rows [x, y, z] l[k] _ w' (Cd.later hu hq) ht3)
      have hx := name_cell hu
      have HAT := Lib.hid (And.intro p0 (And.intro p1 (And.intro p2 hbB)))
      have HF1 := Lib.hid (fun e : (l[k]).1 = nm => findN_at hlt HNO.out e)
      have HF0 := Lib.hid (fun e : (l[k]).1 ≠ nm => take_no HNO.out hlt e)
      have i1 : (0 : Int) ≤ (k : Int) := by omega
      have i2 : (k : Int) < (l.length : Int) := by omega
      clear hu hat hbB e2 p0 p1 p2 ht3
      generalize l[k] = T at *
      subst hx
      go_wp2_with fail
      refine (HV.out _ HBW.out).mono ?_
      rintro e w2 ⟨rfl, hb2⟩
      have y0 := (hb2.cell (p := ⟨w.heap.size, 0, none⟩) (by have := HXL.out; show w.heap.size < _; omega)).trans HX0.out
      have q0 := (hb2.cell (p := ⟨b, off + k * 3, none⟩) HAT.out.2.2.2).trans HAT.out.1
      have q1 := (hb2.cell (p := ⟨b, off + k * 3 + 1, none⟩) HAT.out.2.2.2).trans HAT.out.2.1
      have q2 := (hb2.cell (p := ⟨b, off + k * 3 + 2, none⟩) HAT.out.2.2.2).trans HAT.out.2.2.1
      have HB2 := Lib.hid (below_then HBW.out hb2)
      have HB3 := Lib.hid (below_then HWR.out hb2)
      have HC2 := Lib.hid ((hb2.block (w.heap.size + 1) HXL.out).trans HC1'.out)
      have HD2 := Lib.hid (show LaterD wr w2 from hb2)
      have HS2 := Lib.hid (show w.heap.size + 1 < w2.heap.size by have := HXL.out; have := hb2.size; omega)
      clear hb2
      cases hv : dbOk l
      · have HZ := Lib.hid (show lookL l nm = none by unfold lookL; rw [hv]; rfl)
        obtain ⟨m0, m1, m2, f0, f1, f2⟩ := row3 HC2.out
        go_wp2_with fail
        have G0 := set3 (w := w2) (k := w.heap.size + 1) (x := .string ⟨#[]⟩) (y := .int .i64 0) (z := .slice none 0 0) m0 m1 m2
        refine bodyPost_ret (v := .tuple #[.agg #[.string ⟨#[]⟩, .int .i64 0, .slice none 0 0], .bool false]) (by simp [results, Tryz.results19, go_sem, G0.1, G0.2.1, G0.2.2]) rfl (LookAns.none HZ.out ?_)
        exact ((HB2.out.setCell (by show _ ≤ w.heap.size + 1; omega) _).setCell (by show _ ≤ w.heap.size + 1; omega) _).setCell (by show _ ≤ w.heap.size + 1; omega) _
      · have HV2 := Lib.hid hv
        by_cases he : T.1 = nm
        · have HZ := Lib.hid (show lookL l nm = some T by unfold lookL; rw [hv]; exact HF1.out he)
          have he2 : (T.1.toList == nm.toList) = true := by rw [eqB]; exact decide_eq_true he
          clear he
          go_wp2_with fail
          refine (HCP.out _ HD2.out).mono ?_
          rintro e w3 ⟨a3, c3, fp, rfl, ho, hn, hb3⟩
          have HB4 := Lib.hid (below_then HB2.out hb3)
          obtain ⟨m0, m1, m2, f0, f1, f2⟩ := row3 ((hb3.block (w.heap.size + 1) HS2.out).trans HC2.out)
          have HO := Lib.hid ho
          have HN := Lib.hid hn
          clear ho hn hb3
          go_wp2_with fail
          have G0 := set3 (w := w3) (k := w.heap.size + 1) (x := .string T.1) (y := .int .i64 T.2.1) (z := .slice a3 T.2.2.length c3) m0 m1 m2
          have hfar : w.heap.size + 1 ∉ fp := fun q => by have := (rowsC.ow_lt HO.out _ q).1; have := HS2.out; omega
          refine bodyPost_ret (v := .tuple #[.agg #[.string T.1, .int .i64 T.2.1, .slice a3 T.2.2.length c3], .bool true]) (by simp [results, Tryz.results19, go_sem, G0.1, G0.2.1, G0.2.2]) rfl (LookAns.some HZ.out ?_ HN.out ?_)
          · exact ow_setCell (ow_setCell (ow_setCell (rowsC.ow_base HO.out (by have := HS2.out; omega)) hfar _) hfar _) hfar _
          · exact ((HB4.out.setCell (by show _ ≤ w.heap.size + 1; omega) _).setCell (by show _ ≤ w.heap.size + 1; omega) _).setCell (by show _ ≤ w.heap.size + 1; omega) _
        · have HF := Lib.hid (HF0.out he)
          have he2 : (T.1.toList == nm.toList) = false := by rw [eqB]; exact decide_eq_false he
          clear he
          go_wp2_with fail
          go_roundw
          case rel => exact ⟨k + 1, by omega, by go_num, (fun q => by rw [HV2.out] at q; cases q), HF.out, HB3.out⟩
          case measure => simp [intOf]; omega
    · have ek : k = l.length := by omega
      subst ek
      have HZ := Lib.hid (show lookL l nm = none by
        unfold lookL
        cases hv : dbOk l
        · rfl
        · have := HNO.out; rw [List.take_length] at this; exact findN_none.2 this)
      obtain ⟨m0, m1, m2, f0, f1, f2⟩ := row3 HC1'.out
      go_wp2_with fail
      have G0 := set3 (w := wr) (k := w.heap.size + 1) (x := .string ⟨#[]⟩) (y := .int .i64 0) (z := .slice none 0 0) m0 m1 m2
      refine bodyPost_ret (v := .tuple #[.agg #[.string ⟨#[]⟩, .int .i64 0, .slice none 0 0], .bool false]) (by simp [results, Tryz.results19, go_sem, G0.1, G0.2.1, G0.2.2]) rfl (LookAns.none HZ.out ?_)
      exact ((HBW.out.setCell (by show _ ≤ w.heap.size + 1; omega) _).setCell (by show _ ≤ w.heap.size + 1; omega) _).setCell (by show _ ≤ w.heap.size + 1; omega) _
end Go.Proofs.YtdkhgeknjekkoaaGreat.DbSpec

namespace Go.Proofs.YtdkhgeknjekkoaaGreat.DbExact
open Go Go.RowKit Byt Ints IntsLaw Cd Rows2 Tab TabSpec Exact SlMath TabOpen TabElem Mark SlTable Db

structure Loc1 (w : World) (X : Nat) (a : Value) : Prop where
  c0 : w.cell? ⟨X, 0, none⟩ = some a
  f0 : w.frozen? ⟨X, 0, none⟩ = false
theorem Loc1.of {w : World} {X : Nat} {a : Value} {e : TypeId} (h : w.heap[X]? = some (.cells #[a] e (0, 0))) : Loc1 w X a := ⟨by simp [World.cell?, h], by simp [World.frozen?, h]⟩
theorem Loc1.keep {w w' : World} {X : Nat} {a : Value} (h : Loc1 w X a) (hk : w'.heap[X]? = w.heap[X]?) : Loc1 w' X a :=
  ⟨(World.cell?_of_block (w := w) (a := ⟨X, 0, none⟩) hk).trans h.c0, (World.frozen?_of_block (w := w) (a := ⟨X, 0, none⟩) hk).trans h.f0⟩
theorem Loc1.lt {w : World} {X : Nat} {a : Value} (h : Loc1 w X a) : X < w.heap.size := World.block_lt_of_cell? w _ h.c0
theorem Loc1.touched {w w' : World} {X : Nat} {a : Value} {fp : List Nat} (h : Loc1 w X a) (ht : Cd.Touch fp w w') (hn : X ∉ fp) : Loc1 w' X a := h.keep (ht.block X h.lt hn)
theorem Loc1.later {w w' : World} {X : Nat} {a : Value} (h : Loc1 w X a) (hb : Below w.heap.size w w') : Loc1 w' X a := h.keep (hb.block X h.lt)
theorem Loc1.set {w : World} {X : Nat} {a : Value} (h : Loc1 w X a) (v : Value) : Loc1 (w.setCell ⟨X, 0, none⟩ v) X v := ⟨World.cell?_setCell_same _ _ _ h.c0, by simpa using h.f0⟩
theorem Loc1.set_far {w : World} {X : Nat} {a : Value} (h : Loc1 w X a) {p : Addr} (hp : p.block ≠ X) (v : Value) : Loc1 (w.setCell p v) X a := h.keep (Below.heap_setCell w p v X (fun q => hp q.symm))
theorem Loc1.drew {w : World} {X : Nat} {a : Value} (h : Loc1 w X a) : Loc1 w.drew X a := ⟨h.c0, h.f0⟩

end Go.Proofs.YtdkhgeknjekkoaaGreat.DbExact

namespace Go.Proofs.YtdkhgeknjekkoaaGreat.DbAcc
open Go Go.RowKit Byt Ints IntsLaw Cd Rows2 Tab SlMath TabOpen TabElem SlTable Db TabSpec DbMath DbSpec DbExact

/-- Behind wF, all but block X is as it was there; X holds a slice that owns cur. -/
structure AccS (wF wr : World) (X : Nat) (cur : List T3) (a : Option Addr) (c : Nat) (fp : List Nat) : Prop where
  cell : wr.cell? ⟨X, 0, none⟩ = some (.slice a cur.length c)
  fz : wr.frozen? ⟨X, 0, none⟩ = false
  ow : tabsC.ow wr wF.heap.size [.slice a cur.length c] cur fp
  nd : fp.Nodup
  tou : Cd.Touch [X] wF wr
  xb : X < wF.heap.size
theorem AccS.sz {wF wr : World} {X c : Nat} {cur : List T3} {a : Option Addr} {fp : List Nat} (h : AccS wF wr X cur a c fp) : wF.heap.size ≤ wr.heap.size := h.tou.size
theorem AccS.start {wF : World} {X : Nat} {e : TypeId} (h : wF.heap[X]? = some (.cells #[.slice none 0 0] e (0, 0))) : AccS wF wF X [] none 0 [] :=
  ⟨by simp [World.cell?, h], by simp [World.frozen?, h], Cd.ow_nil _ _, by simp, Cd.Touch.refl _ _, (Array.getElem?_eq_some_iff.1 h).1⟩
theorem AccS.later {wF wr w' : World} {X c : Nat} {cur : List T3} {a : Option Addr} {fp : List Nat} (h : AccS wF wr X cur a c fp) (hb : Below wr.heap.size wr w') : AccS wF w' X cur a c fp :=
  ⟨(hb.cell (World.block_lt_of_cell? wr _ h.cell)).trans h.cell, (World.frozen?_of_block (hb.block _ (World.block_lt_of_cell? wr _ h.cell))).trans h.fz, Cd.ow_later h.ow hb, h.nd, h.tou.trans (Cd.Touch.of_below hb), h.xb⟩
theorem AccS.block {wF wr : World} {X c : Nat} {cur : List T3} {a : Option Addr} {fp : List Nat} (h : AccS wF wr X cur a c fp) {k : Nat} (hk : k < wF.heap.size) (hx : k ≠ X) : wr.heap[k]? = wF.heap[k]? := h.tou.block k hk (by simpa using hx)
theorem AccS.get {wF wr : World} {X c : Nat} {cur : List T3} {a : Option Addr} {fp : List Nat} (h : AccS wF wr X cur a c fp) {p : Addr} {v : Value} (hc : wF.cell? p = some v) (hx : p.block ≠ X) : wr.cell? p = some v := h.tou.cell hc (by simpa using hx)
theorem AccS.below {w wF wr : World} {X c : Nat} {cur : List T3} {a : Option Addr} {fp : List Nat} (h : AccS wF wr X cur a c fp) (hb : Below w.heap.size w wF) (hx : w.heap.size ≤ X) : Below w.heap.size w wr :=
  Cd.Touch.below hb h.tou (fun b hb => by rw [List.mem_singleton.1 hb]; exact hx)
/-- A store into another block that the function made behind wF. -/
theorem AccS.far {wF wr : World} {X c : Nat} {cur : List T3} {a : Option Addr} {fp : List Nat} (h : AccS wF wr X cur a c fp) {p : Addr} (hp : wF.heap.size ≤ p.block) (hn : p.block ∉ fp) (v : Value) : AccS wF (wr.setCell p v) X cur a c fp :=
  ⟨(World.cell?_setCell_other _ _ _ _ (by intro q; have e := congrArg Addr.block q; simp only at e; have := h.xb; omega)).trans h.cell, by simpa using h.fz, ow_setCell h.ow hn v, h.nd,
    ⟨h.tou.os, h.tou.tape, h.tou.output, by simpa using h.tou.size, fun k hk hn => (Below.heap_setCell wr p v k (by omega)).trans (h.tou.block k hk hn)⟩, h.xb⟩
/-- Behind an append and the store of the new slice. -/
theorem AccS.app {wF w3 w4 : World} {X c : Nat} {cur cur' : List T3} {a : Option Addr} {fp fp4 : List Nat} (h : AccS wF w3 X cur a c fp) {g n cap : Nat} (he : n = cur'.length) (ht : Cd.Touch fp w3 w4) (ho : tabsC.ow w4 wF.heap.size [.slice (some ⟨g, 0, none⟩) n cap] cur' fp4) (hn : fp4.Nodup) :
    AccS wF (w4.setCell ⟨X, 0, none⟩ (.slice (some ⟨g, 0, none⟩) n cap)) X cur' (some ⟨g, 0, none⟩) cap fp4 := by
  subst he
  have hx : X ∉ fp := fun q => by have := ((Cd.sl _ tabC).ow_lt h.ow _ q).1; have := h.xb; omega
  have hx4 : X ∉ fp4 := fun q => by have := ((Cd.sl _ tabC).ow_lt ho _ q).1; have := h.xb; omega
  have hl : X < w3.heap.size := World.block_lt_of_cell? w3 _ h.cell
  refine ⟨World.cell?_setCell_same _ _ _ (ht.cell h.cell hx), ?_, ow_setCell ho hx4 _, hn, ?_, h.xb⟩
  · simpa using (World.frozen?_of_block (ht.block _ hl hx)).trans h.fz
  · have hs := h.sz
    refine ⟨ht.os.trans h.tou.os, ht.tape.trans h.tou.tape, ht.output.trans h.tou.output, by simpa using Nat.le_trans hs ht.size, fun k hk hn => ?_⟩
    have hk0 : k ∉ fp := fun q => by have := ((Cd.sl _ tabC).ow_lt h.ow _ q).1; omega
    rw [Below.heap_setCell w4 _ _ k (by simpa using hn)]
    exact (ht.block k (by omega) hk0).trans (h.tou.block k hk hn)
theorem AccS.fcell {wF w3 w4 : World} {X c : Nat} {cur : List T3} {a : Option Addr} {fp : List Nat} (h : AccS wF w3 X cur a c fp) (ht : Cd.Touch fp w3 w4) : w4.cell? ⟨X, 0, none⟩ = some (.slice a cur.length c) ∧ w4.frozen? ⟨X, 0, none⟩ = false := by
  have hx : X ∉ fp := fun q => by have := ((Cd.sl _ tabC).ow_lt h.ow _ q).1; have := h.xb; omega
  exact ⟨ht.cell h.cell hx, (World.frozen?_of_block (ht.block _ (World.block_lt_of_cell? w3 _ h.cell) hx)).trans h.fz⟩

/-- A table copied and laid in two cells of its own, to be appended. -/
structure Laid (wF w3 : World) (b : Nat) (us : List Value) (T : T3) (f fp : List Nat) : Prop where
  at_ : Cd.At w3 b 0 us
  ow : tabC.ow w3 wF.heap.size us T f
  nd : f.Nodup
  far : ∀ b ∈ f, b ∉ fp
theorem AccS.laid {wF wr w2 : World} {X c : Nat} {cur : List T3} {a : Option Addr} {fp : List Nat} (h : AccS wF wr X cur a c fp) (hb : Below wr.heap.size wr w2) {x y z : Value} {T : T3} {f : List Nat} (ho : tabC.ow w2 wr.heap.size [x, y, z] T f) (hn : f.Nodup) (e : TypeId) :
    AccS wF ((w2.alloc (.cells #[x, y, z] e (0, 0))).alloc (.cells #[x, y, z] e (0, 0))) X cur a c fp ∧ Laid wF ((w2.alloc (.cells #[x, y, z] e (0, 0))).alloc (.cells #[x, y, z] e (0, 0))) (w2.heap.size + 1) [x, y, z] T f fp := by
  have hbA := below_then (below_alloc w2 (.cells #[x, y, z] e (0, 0))) (below_alloc (w2.alloc (.cells #[x, y, z] e (0, 0))) (.cells #[x, y, z] e (0, 0)))
  refine ⟨(h.later hb).later hbA, ?_, tabC.ow_base (Cd.ow_later ho hbA) h.sz, hn, fun b hb q => ?_⟩
  · exact at3 (by have := row_alloc (w2.alloc (.cells #[x, y, z] e (0, 0))) (.cells #[x, y, z] e (0, 0)); rw [size_alloc] at this; exact this)
  · have h1 := (tabC.ow_lt ho b hb).1
    have h2 := ((Cd.sl _ tabC).ow_lt h.ow b q).2
    omega
end Go.Proofs.YtdkhgeknjekkoaaGreat.DbAcc

namespace Go.Proofs.YtdkhgeknjekkoaaGreat.TabSpec
open Go Go.RowKit Byt Ints IntsLaw Cd Rows2 Tab

theorem Fr.made {w : World} {X : Nat} {nm : ByteArray} {ar : Int} {tv u0 u' z0 z1 z2 : Value} {rows : List (List Int)} {fp : List Nat} {W : World} (b : Below w.heap.size w W) (t : Loc3 W w.heap.size (.string nm) (.int .i64 ar) tv)
    (r : Loc3 W (w.heap.size + 1) z0 z1 z2) (x : Loc3 W X (.string nm) (.int .i64 ar) u0) (o : rowsC.ow W (w.heap.size + 2) [u'] rows fp) (n : fp.Nodup) (d : X ∉ fp) (g : w.heap.size + 2 ≤ X) : Fr w X nm ar tv u' z0 z1 z2 rows fp (W.setCell ⟨X, 2, none⟩ u') :=
  ⟨b.setCell (by show _ ≤ X; omega) _, t.set_far (by show X ≠ _; omega) _, r.set_far (by show X ≠ _; omega) _, x.set2 _, ow_setCell o d _, n, d, g⟩

end Go.Proofs.YtdkhgeknjekkoaaGreat.TabSpec

namespace Go.Proofs.YtdkhgeknjekkoaaGreat.TabSpec
open Go Go.RowKit Byt Ints IntsLaw Cd Rows2 Tab

theorem putStep_wt (row : List Int) (st : List (List Int) × Bool) (r : List Int) : rowsWt (putStep row st r).1 + (!(putStep row st r).2).toNat * (row.length + 1) ≤ rowsWt st.1 + (!st.2).toNat * (row.length + 1) + r.length + 1 := by
  obtain ⟨o, p⟩ := st
  unfold putStep
  by_cases h1 : cmpR r row = 0
  · rw [if_pos h1]
    cases p <;> simp [rowsWt] <;> omega
  · rw [if_neg h1]
    cases p with
    | false =>
      by_cases h2 : 0 < cmpR r row
      · rw [if_pos ⟨h2, rfl⟩]; simp [rowsWt]; omega
      · rw [if_neg (fun q => h2 q.1)]; simp [rowsWt]; omega
    | true =>
      rw [if_neg (fun q => by simp at q)]; simp [rowsWt]; omega
theorem putF_wt (row : List Int) : ∀ (l : List (List Int)) (st : List (List Int) × Bool), rowsWt (l.foldl (putStep row) st).1 + (!(l.foldl (putStep row) st).2).toNat * (row.length + 1) ≤ rowsWt st.1 + (!st.2).toNat * (row.length + 1) + rowsWt l
  | [], st => Nat.le_add_right _ _
  | r :: rs, st => by
    have h1 := putF_wt row rs (putStep row st r)
    have h2 := putStep_wt row st r
    have h3 : rowsWt (r :: rs) = rowsWt rs + r.length + 1 := by simp [rowsWt]; omega
    rw [List.foldl_cons, h3]
    omega
theorem putR_wt (rows : List (List Int)) (row : List Int) : rowsWt (putR rows row) ≤ rowsWt rows + row.length + 1 := by
  have h := putF_wt row rows ([], false)
  have e : rows.foldl (putStep row) ([], false) = putF rows row := rfl
  have e0 : rowsWt [] = 0 := rfl
  rw [e] at h
  unfold putR
  generalize putF rows row = st at *
  obtain ⟨o, p⟩ := st
  cases p with
  | true =>
    simp at h ⊢
    omega
  | false =>
    have e1 : rowsWt (o ++ [row]) = rowsWt o + (row.length + 1) := by simp [rowsWt]; omega
    simp at h ⊢
    omega

end Go.Proofs.YtdkhgeknjekkoaaGreat.TabSpec

namespace Go.Proofs.YtdkhgeknjekkoaaGreat.TabDraw
open Go Go.RowKit Byt Ints IntsLaw IntsWalk Draw LocDraw Cd Rows2 Tab TabSpec

theorem list_cellsS (zs : List ByteArray) (w : World) (T : TypeId) : ∀ t, t < zs.length → (w.alloc (.cells (zs.map fun z => Value.string z).toArray T (0, 0))).cell? ⟨w.heap.size, t, none⟩ = some (.string (zs.getD t ⟨#[]⟩)) := by
  intro t ht
  rw [World.cell?_alloc_mark]
  simp [ht]

set_option maxRecDepth 100000 in
set_option maxHeartbeats 800000 in
theorem pickS_any (zs : List ByteArray) (b : Nat) (hzl : 0 < zs.length) (hz64 : zs.length ≤ 100000) (c : Nat) (v : Value) (l : List UInt8) (B : Nat) (w : World) (hc : Cur w c v l) (hr : Reads w v l B) (hB : B ≤ c)
    (hbc : b ≠ c) (hzs : ∀ t, t < zs.length → w.cell? ⟨b, t, none⟩ = some (.string (zs.getD t ⟨#[]⟩))) :
    Calls Tryz.prog 126 #[.pointer (some ⟨c, 0, none⟩), .slice (some ⟨b, 0, none⟩) zs.length zs.length] w fun e w' =>
      ∃ t, t < zs.length ∧ e = .returned (.string (zs.getD t ⟨#[]⟩)) ∧ Cur w' c v l ∧ w.grownBy w' (some c) := by
  have hby := Lib.hid (below_any zs.length c v l B w hc hr hB)
  have Hzs := Lib.hid hzs
  clear hzs
  go_enter Tryz.func126, Tryz.ntmps126
  go_wp2_with fail
  refine hby.out.mono ?_
  rintro e w1 ⟨x, rfl, hx0, hxn, hc1, hg1⟩
  obtain ⟨t, rfl⟩ := Int.eq_ofNat_of_zero_le hx0
  have hxn' := hxn (by omega)
  have ht : t < zs.length := by omega
  have hcell := hg1.cell (Hzs.out t ht) (by intro q; injection q with q; simp only at q; omega)
  clear hxn hxn'
  generalize hq : zs.getD t ⟨#[]⟩ = z at *
  have HQ := Lib.hid hq
  clear hq
  go_wp2_with fail
  go_ret
  exact ⟨t, ht, by rw [HQ.out]; rfl, hc1, hg1⟩

theorem grown_below {w w' : World} (h : Below w.heap.size w w') (r : Option Nat) : w.grownBy w' r := ⟨h.os, h.tape, h.output, h.size, fun k hk _ => h.block k hk⟩
theorem loc_grown {w w' : World} {X c : Nat} {a b d : Value} (h : Loc3 w X a b d) (hg : w.grownBy w' (some c)) (hn : X ≠ c) : Loc3 w' X a b d :=
  h.keep (hg.block X h.lt (by intro q; injection q with q; exact hn q))
theorem ow_grown {α : Type} {cd : Cd α} {w w' : World} {base c : Nat} {us : List Value} {a : α} {fp : List Nat} (h : cd.ow w base us a fp) (hg : w.grownBy w' (some c)) (hc : c < base) : cd.ow w' base us a fp :=
  cd.ow_keep h fun b hb => hg.block b (cd.ow_lt h b hb).2 (by intro q; injection q with q; have := (cd.ow_lt h b hb).1; omega)

/-- A drawn table of at most M rows. -/
def TabGen (M : Nat) (w : World) (c : Nat) (v : Value) (l : List UInt8) (nm : ByteArray) (ar : Int) (e : Ending) (w' : World) : Prop :=
  ∃ (u : Value) (rows : List (List Int)) (fp : List Nat), e = .returned (.agg #[.string nm, .int .i64 ar, u]) ∧ rowsC.ow w' w.heap.size [u] rows fp ∧ fp.Nodup ∧ rowsWt rows ≤ 4 * M ∧ Cur w' c v l ∧ w.grownBy w' (some c)
/-- A drawn table. -/
def TabAns (w : World) (c : Nat) (v : Value) (l : List UInt8) (nm : ByteArray) (ar : Int) (e : Ending) (w' : World) : Prop :=
  ∃ (u : Value) (rows : List (List Int)) (fp : List Nat), e = .returned (.agg #[.string nm, .int .i64 ar, u]) ∧ rowsC.ow w' w.heap.size [u] rows fp ∧ fp.Nodup ∧ rowsWt rows ≤ 24 ∧ Cur w' c v l ∧ w.grownBy w' (some c)

set_option maxRecDepth 100000 in
set_option maxHeartbeats 3200000 in
theorem tab_gen (M V : Nat) (hM : M ≤ 8) (hV : 0 < V ∧ V ≤ 6) (nm : ByteArray) (ar : Nat) (har : ar ≤ 3) (c : Nat) (v : Value) (l : List UInt8) (B : Nat) (w : World) (hc : Cur w c v l) (hr : Reads w v l B) (hB : B ≤ c) :
    Calls Tryz.prog 124 #[.pointer (some ⟨c, 0, none⟩), .string nm, .int .i64 ar, .int .i64 M, .int .i64 V] w (TabGen M w c v l nm ar) := by
  have hM8 : (M : Int) ≤ 8 := by omega
  obtain ⟨hV0, hV6⟩ := hV
  have hV8 : (V : Int) ≤ 6 := by omega
  have hV9 : (0 : Int) < (V : Int) := by omega
  have hcs := cur_size hc
  have HR := Lib.hid (fun w' (hg : w.grownBy w' (some c)) => hr.later (below_of hg hB hcs))
  have HC := Lib.hid hc
  clear hc hr
  go_enter Tryz.func124, Tryz.ntmps124
  go_wp2_with fail
  generalize hW : (w.alloc _).alloc _ = W
  obtain ⟨r0, r1, hz, hb0⟩ := start2g w _ _ hW
  clear hW
  have hg0 := grown_below hb0 (some c)
  have hc0 := cur_below HC.out hb0 hcs
  have HG0 := Lib.hid hg0
  have HX0 := Lib.hid (And.intro (Loc3.of r0) (Loc3.of r1))
  have HB0 := Lib.hid (below_any ((M : Int) + 1) c v l B W hc0 (HR.out W hg0) hB)
  clear r0 r1 hb0 hg0 hc0
  refine HB0.out.mono ?_
  rintro e w2 ⟨x, rfl, hx0, hx7, hc2, hg2⟩
  obtain ⟨m0, rfl⟩ := Int.eq_ofNat_of_zero_le hx0
  have hm0 : m0 ≤ M := by have := hx7 (by omega); omega
  have HX2 := Lib.hid (And.intro (loc_grown HX0.out.1 hg2 (by omega)) (loc_grown HX0.out.2 hg2 (by omega)))
  have HZ2 := Lib.hid (show w.heap.size + 2 ≤ w2.heap.size by have := hg2.size; omega)
  have HG2 := Lib.hid (grown_trans HG0.out hg2)
  have HC2 := Lib.hid hc2
  clear hx0 hx7 hc2 hg2 HB0 HX0 HG0 hz
  go_wp2_with fail
  go_loopw [12, 13, 14] (fun n _ _ wr => ∃ (m : Nat) (o : Value) (rows : List (List Int)) (fp : List Nat), m ≤ M ∧ n = .int .i64 m ∧ rowsC.ow wr (w.heap.size + 2) [o] rows fp ∧ fp.Nodup ∧ rowsWt rows ≤ 4 * (M - m) ∧ Loc3 wr (w.heap.size + 1) (.string nm) (.int .i64 ar) o ∧ Loc3 wr w.heap.size (.string ⟨#[]⟩) (.int .i64 0) (.slice none 0 0) ∧ w.heap.size + 2 ≤ wr.heap.size ∧ Cur wr c v l ∧ w.grownBy wr (some c)) (fun n _ _ _ => (intOf n).toNat)
  case atStart => exact ⟨m0, .slice none 0 0, [], [], hm0, rfl, Cd.ow_nil _ _, by simp, by simp [rowsWt], HX2.out.2, HX2.out.1, HZ2.out, HC2.out, HG2.out⟩
  case round =>
    obtain ⟨m, o, rows, fp, hm, rfl, how, hnd, hwt, hx, hz0, hsz, hcw, hgw⟩ := hrel
    obtain ⟨wo, rfl⟩ : ∃ wo : World, wo = wr := ⟨_, rfl⟩
    have HOW := Lib.hid how
    have HND := Lib.hid hnd
    have HWT := Lib.hid hwt
    have HX := Lib.hid hx
    have HZ := Lib.hid hz0
    have HSZ := Lib.hid hsz
    have HCW := Lib.hid hcw
    have HGW := Lib.hid hgw
    clear how hnd hwt hx hz0 hsz hcw hgw
    by_cases hlt : 0 < m
    · have hlt' : (0 : Int) < (m : Int) := by omega
      have HA := Lib.hid (And.intro (OwnI.empty wo wo.heap.size 3 (Nat.le_refl _)) (And.intro (cur_allocI (.cells #[] 3) HCW.out) (World.grownBy_alloc wo (.cells #[] 3) (some c))))
      go_wp2_with fail
      go_loopw [13, 14] (fun q i wr => ∃ (k : Nat) (ls : List Int), k ≤ ar ∧ i = .int .i64 k ∧ OwnI wr wo.heap.size 3 q ls ∧ ls.length = k ∧ InR ls ∧ Cur wr c v l ∧ wo.grownBy wr (some c)) (fun _ i _ => ar - (intOf i).toNat)
      case atStart => exact ⟨0, [], Nat.zero_le _, rfl, HA.out.1, rfl, (fun x hx => by cases hx), HA.out.2.1, HA.out.2.2⟩
      case round =>
        obtain ⟨k, ls, hk, rfl, hown, hlen, hin, hc1, hg1⟩ := hrel
        have HG1 := Lib.hid hg1
        have HO := Lib.hid hown
        have HIN := Lib.hid hin
        have HC1 := Lib.hid hc1
        have hcso : c < wo.heap.size := by have := HSZ.out; omega
        clear hc1 hg1 hown hin
        by_cases hlt2 : k < ar
        · have HB := Lib.hid (below_any V c v l B wr HC1.out (HR.out wr (grown_trans HGW.out HG1.out)) hB)
          have hlt2' : (k : Int) < (ar : Int) := by omega
          go_wp2_with fail
          refine HB.out.mono ?_
          rintro e w2 ⟨x, rfl, hx0, hx5, hc2, hg2⟩
          have hx := hx5 hV9
          have hown2 := owni_kept HO.out hg2 hcso
          have HG2 := Lib.hid (grown_trans HG1.out hg2)
          have HC2 := Lib.hid hc2
          have hs2 : wo.heap.size ≤ w2.heap.size := HG2.out.size
          have hl2 : ls.length + 1 ≤ 1000000000000 := by omega
          have HIN2 := Lib.hid (inr_snoc HIN.out (x := x) ⟨by omega, by omega⟩)
          clear hg2 hc2 hx5
          go_wp2_with (at_builtin; refine wp_appendI rfl (.tmp 32) (.tmp 36) 32 rfl wo.heap.size 3 Tryz.underlying32 info_i64 _ ls rfl hown2 _ rfl hl2 hs2 ?_)
          intro v' w5 hown5 hb5
          go_wp2_with fail
          go_roundw
          case rel => exact ⟨k + 1, _, by omega, by go_num, hown5, by rw [List.length_append, hlen]; rfl, HIN2.out, cur_below HC2.out hb5 hcso, grown_own HG2.out hb5⟩
          case measure => simp [intOf]; omega
        · have ek : k = ar := by omega
          have HW2 := Lib.hid (ow_grown HOW.out HG1.out (by omega))
          have HX2 := Lib.hid (loc_grown HX.out HG1.out (by omega))
          have HZ2 := Lib.hid (loc_grown HZ.out HG1.out (by omega))
          have hx2 := HX2.out.c2
          have hlt2' : ¬ (k : Int) < (ar : Int) := by omega
          have hrd := Cd.reads (show rowC.ow _ _ _ _ _ from Cd.ow_of_own (e := 3) HO.out HIN.out)
          have HWL := Lib.hid (show ls.length ≤ 3 by omega)
          have HP := Lib.hid (spec_put o _ rows ls _ _ wr (Cd.reads HW2.out) hrd (by have := HWT.out; omega) (by have := HWL.out; omega))
          have HSZ2 := Lib.hid (show w.heap.size + 2 ≤ wr.heap.size by have := HSZ.out; have := HG1.out.size; omega)
          have HG3 := Lib.hid (grown_trans HGW.out HG1.out)
          clear hrd
          go_wp2_with fail
          refine HP.out.mono ?_
          rintro e w5 ⟨v5, fp5, rfl, ho5, hn5, hb5⟩
          obtain ⟨a5, c5, rfl⟩ := Cd.ow_slice ho5
          have HO5 := Lib.hid ho5
          have HN5 := Lib.hid hn5
          have HB5 := Lib.hid hb5
          have HX5 := Lib.hid (Loc3.later HX2.out hb5)
          have HZ5 := Lib.hid (Loc3.later HZ2.out hb5)
          have hx5 := HX5.out.c2
          have hf5 := HX5.out.f2
          clear ho5 hn5 hb5 hx2 HP
          go_wp2_with fail
          go_roundw
          case rel =>
            have hs5 := HB5.out.size
            have hs2 := HSZ2.out
            refine ⟨m - 1, _, putR rows ls, fp5, by omega, ?_, ?_, HN5.out, ?_, Loc3.set2 HX5.out _, Loc3.set_far HZ5.out (by show w.heap.size + 1 ≠ w.heap.size; omega) _, ?_, ?_, ?_⟩
            · go_num
            · exact ow_setCell (rowsC.ow_base HO5.out (by omega)) (fun q => by have := (rowsC.ow_lt HO5.out _ q).1; simp at this; omega) _
            · have := putR_wt rows ls; have := HWT.out; have := HWL.out; omega
            · show _ ≤ (w5.setCell _ _).heap.size; simp; omega
            · exact cur_farI _ (cur_below HC1.out HB5.out (by omega)) (by show c ≠ w.heap.size + 1; omega)
            · exact grown_newI _ (grown_own HG3.out (HB5.out.mono (by omega))) (by show w.heap.size ≤ w.heap.size + 1; omega)
          case measure => simp [intOf]; omega
    · have ek : m = 0 := by omega
      subst ek
      obtain ⟨ao, co, rfl⟩ := Cd.ow_slice HOW.out
      obtain ⟨p0, p1, p2, q0, q1, q2⟩ := HZ.out
      obtain ⟨x0, x1, x2, g0, g1, g2⟩ := HX.out
      go_wp2_with fail
      obtain ⟨k0, k1, k2⟩ := set3 (w := wo) (k := w.heap.size) (x := .string nm) (y := .int .i64 ar) (z := .slice ao rows.length co) p0 p1 p2
      refine bodyPost_ret (v := .agg #[.string nm, .int .i64 ar, .slice ao rows.length co]) (by simp [results, Tryz.results124, go_sem, k0, k1, k2]) rfl ⟨_, rows, fp, rfl, ?_, HND.out, by have := HWT.out; omega, ?_, ?_⟩
      · have hn : w.heap.size ∉ fp := fun q => by have h1 := (rowsC.ow_lt HOW.out _ q).1; omega
        exact ow_setCell (ow_setCell (ow_setCell (rowsC.ow_base HOW.out (by omega)) hn _) hn _) hn _
      · have hne : c ≠ w.heap.size := by omega
        exact cur_farI _ (cur_farI _ (cur_farI _ HCW.out hne) hne) hne
      · exact grown_newI _ (grown_newI _ (grown_newI _ HGW.out (Nat.le_refl _)) (Nat.le_refl _)) (Nat.le_refl _)
theorem tab_any (nm : ByteArray) (ar : Nat) (har : ar ≤ 3) (c : Nat) (v : Value) (l : List UInt8) (B : Nat) (w : World) (hc : Cur w c v l) (hr : Reads w v l B) (hB : B ≤ c) :
    Calls Tryz.prog 124 #[.pointer (some ⟨c, 0, none⟩), .string nm, .int .i64 ar, .int .i64 6, .int .i64 4] w (TabAns w c v l nm ar) :=
  tab_gen 6 4 (by decide) (by decide) nm ar har c v l B w hc hr hB
end Go.Proofs.YtdkhgeknjekkoaaGreat.TabDraw
