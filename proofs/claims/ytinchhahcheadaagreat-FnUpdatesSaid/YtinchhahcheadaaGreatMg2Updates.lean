/- Texts that the proof rests on, one behind the other. -/
import Derived.Test.YtinchhahcheadaaGreatMg1Updates
import Derived.Test.YtinchhahcheadaaGreatDbMath
import Derived.Test.YtinchhahcheadaaGreatTabCopy
import Derived.Test.YtinchhahcheadaaGreatExact
import Derived.Test.YtinchhahcheadaaGreatIntsLaw
import Derived.Test.YtinchhahcheadaaGreatRows
import Derived.Test.YtinchhahcheadaaGreatByt
import Derived.Test.YtinchhahcheadaaGreatReads
import Derived.WalkKit
import Derived.WalkSpells
import Derived.WalkLawsBesides
import Derived.Lib.Hide
import Derived.Deep.QuietTactic
import Derived.BigQuiet
import Derived.Deep.RegionWith
import Derived.ProofKit
import Derived.OpenShut
import Derived.Deep.RegionHeld3

namespace Go.Proofs.YtinchhahcheadaaGreat.DbSpec
open Go Go.RowKit Byt Ints IntsLaw Cd Rows2 Tab SlMath TabOpen TabElem SlTable Db TabSpec DbMath

theorem val_elem (us : List Value) (T : T3) (S : Nat → Prop) (w : World) (hu : tabC.rd w S us T) :
    Calls Tryz.prog 57 #[.agg us.toArray] w fun e w' => e = .returned (.bool (okT T)) ∧ Below w.heap.size w w' := by
  obtain ⟨u, rfl, _, _, h3⟩ := tab_cells hu
  exact spec_valid T.1 T.2.1 u T.2.2 S w h3
theorem name_cell {w : World} {S : Nat → Prop} {x y z : Value} {T : T3} (h : tabC.rd w S [x, y, z] T) : x = .string T.1 := by
  obtain ⟨u, e, _⟩ := tab_cells h
  injection e
theorem drewD {w w' : World} (h : LaterD w w') : LaterD w w'.drew := Below.drew h
set_option maxRecDepth 100000 in
set_option maxHeartbeats 1600000 in
theorem spec_dbok (u : Value) (l : List T3) (S : Nat → Prop) (w : World) (h1 : tabsC.rd w S [u] l) :
    Calls Tryz.prog 55 #[.agg #[u]] w fun e w' => e = .returned (.bool (dbOk l)) ∧ Below w.heap.size w w' := by
  have HR1 := Lib.hid (fun w' (hb : Below w.heap.size w w') => Cd.later h1 hb)
  obtain ⟨a1, cap1, rfl, hl1⟩ := Cd.sl_form h1
  clear h1
  go_enter Tryz.func55, Tryz.ntmps55
  go_wp2_with fail
  generalize hW : w.alloc _ = W
  obtain ⟨r0, hz, hb0⟩ := start1 w _ hW
  have c0 := (row1 r0).1
  have HC0 := Lib.hid (row1 r0).1
  have HLT0 := Lib.hid (show w.heap.size < W.heap.size by omega)
  have HB0 := Lib.hid hb0
  clear hW r0 hz hb0
  go_loopw [3] (fun i wr => ∃ k : Nat, k ≤ l.length ∧ i = .int .i64 k ∧ (∀ T ∈ l.take k, okT T = true) ∧ AscP (l.take k) ∧ Below W.heap.size W wr) (fun i _ => l.length - (intOf i).toNat)
  case atStart => exact ⟨0, Nat.zero_le _, rfl, by simp, by simp [AscP], Below.refl _ _⟩
  case round =>
    obtain ⟨k, hk, rfl, hok, has, hb⟩ := hrel
    have x0 := (hb.cell (p := ⟨w.heap.size, 0, none⟩) HLT0.out).trans HC0.out
    have HOK := Lib.hid hok
    have HAS := Lib.hid has
    have HBW := Lib.hid (below_then HB0.out hb)
    have HWR := Lib.hid hb
    have hWr : W.heap.size ≤ wr.heap.size := hb.size
    clear c0 hok has
    by_cases hlt : k < l.length
    · obtain ⟨b, off, cap', us, e1, _, hbB, hat, hu⟩ := Cd.sl_at (HR1.out wr HBW.out) hlt
      injection e1 with e1 e2 e3
      subst e1 e3
      obtain ⟨x, y, z, rfl⟩ := len_list (tabC.len hu)
      have p0 := hat 0 (by simp)
      have p1 := hat 1 (by simp)
      have p2 := hat 2 (by simp)
      simp only [List.getElem_cons_zero, List.getElem_cons_succ, Nat.add_zero, show tabC.n = 3 from rfl] at p0 p1 p2
      obtain ⟨nk, hnk⟩ : ∃ nk, nk = (l[k]).1 := ⟨_, rfl⟩
      obtain rfl : x = .string nk := by rw [hnk]; exact name_cell hu
      have HNK := Lib.hid hnk
      have HE := Lib.hid (fun w' (hq : LaterD wr w') => val_elem [.string nk, y, z] l[k] _ w' (Cd.later hu hq))
      have HALL := Lib.hid (And.intro x0 (And.intro p0 (And.intro p1 p2)))
      have HLTS := Lib.hid (show w.heap.size < wr.heap.size ∧ b < wr.heap.size from ⟨by have := HLT0.out; omega, hbB⟩)
      have i1 : (0 : Int) ≤ (k : Int) := by omega
      have i2 : (k : Int) < (l.length : Int) := by omega
      have kk : LaterD wr wr.drew := drewD (Below.refl _ wr)
      clear hnk hu hat hb hbB e2
      cases hT : okT l[k]
      · rw [hT] at HE
        have HZ := Lib.hid (show dbOk l = false from dbOk_no.2 fun q => by have := q.2.1 _ (List.getElem_mem hlt); rw [hT] at this; cases this)
        clear hT
        go_wp2_with fail
        refine wp_region_held_drew (S := fun wx => wx.cell? ⟨w.heap.size, 0, none⟩ = some (.slice (some ⟨b, off, none⟩) l.length cap1) ∧ wx.cell? ⟨b, off + k * 3, none⟩ = some (.string nk) ∧ wx.cell? ⟨b, off + k * 3 + 1, none⟩ = some y ∧ wx.cell? ⟨b, off + k * 3 + 2, none⟩ = some z ∧ LaterD wr wx) (by kernel_rfl) ?_ (fun hHeld => ?_)
        · (refine ⟨?_, ?_, ?_, ?_, ?_⟩ <;> first | assumption | (simp [*]; done))
        refine RegH.takeH (i := 0) (v := ?_) rfl (by kernel_rfl) (by kernel_rfl) (by kernel_rfl) (fun _ _ _ h => h) (Or.inl ⟨by rfl, ?_⟩) (by assumption) ?_
        rotate_left
        · (intro wS hSw; (try dsimp only at hSw); go_simp; try (with_reducible rfl))
        try simp only [Act.put, List.setIfInBounds_toArray, List.set_cons_zero, List.set_cons_succ]
        refine RegH.takeH (i := 1) (v := ?_) rfl (by kernel_rfl) (by kernel_rfl) (by kernel_rfl) (fun _ _ _ h => h) (Or.inl ⟨by rfl, ?_⟩) (by assumption) ?_
        rotate_left
        · (intro wS hSw; (try dsimp only at hSw); go_simp; try (with_reducible rfl))
        try simp only [Act.put, List.setIfInBounds_toArray, List.set_cons_zero, List.set_cons_succ]
        refine RegH.takeH (i := 2) (v := ?_) rfl (by kernel_rfl) (by kernel_rfl) (by kernel_rfl) (fun _ _ _ h => h) (Or.inl ⟨by rfl, ?_⟩) (by assumption) ?_
        rotate_left
        · (intro wS hSw; (try dsimp only at hSw); go_simp; try (with_reducible rfl))
        try simp only [Act.put, List.setIfInBounds_toArray, List.set_cons_zero, List.set_cons_succ]
        refine RegH.takeH (i := 3) (v := ?_) rfl (by kernel_rfl) (by kernel_rfl) (by kernel_rfl) (fun _ _ _ h => h) (Or.inl ⟨by rfl, ?_⟩) (by assumption) ?_
        rotate_left
        · (intro wS hSw; (try dsimp only at hSw); go_simp; try (with_reducible rfl))
        try simp only [Act.put, List.setIfInBounds_toArray, List.set_cons_zero, List.set_cons_succ]
        refine RegH.takeH (i := 4) (v := ?_) rfl (by kernel_rfl) (by kernel_rfl) (by kernel_rfl) (fun _ _ _ h => h) (Or.inl ⟨by rfl, ?_⟩) (by assumption) ?_
        rotate_left
        · (intro wS hSw; (try dsimp only at hSw); go_simp; try (with_reducible rfl))
        try simp only [Act.put, List.setIfInBounds_toArray, List.set_cons_zero, List.set_cons_succ]
        refine RegH.consH (i := 5) rfl (by kernel_rfl) (fun K hK => ?_)
        go_simp
        go_at_call 57
        refine (HE.out _ kk).mono ?_
        rintro e wq ⟨rfl, hbq⟩
        have kq : LaterD wr wq := below_then (show Below wr.heap.size wr wr.drew from kk) hbq
        have n0 := (Below.cell kq (p := ⟨w.heap.size, 0, none⟩) HLTS.out.1).trans HALL.out.1
        have n1 := (Below.cell kq (p := ⟨b, off + k * 3, none⟩) HLTS.out.2).trans HALL.out.2.1
        have n2 := (Below.cell kq (p := ⟨b, off + k * 3 + 1, none⟩) HLTS.out.2).trans HALL.out.2.2.1
        have n3 := (Below.cell kq (p := ⟨b, off + k * 3 + 2, none⟩) HLTS.out.2).trans HALL.out.2.2.2
        clear hbq
        go_wp2_with fail
        refine hK.out _ _ ?_ (fun hHeld => ?_)
        · (refine ⟨?_, ?_, ?_, ?_, ?_⟩ <;> first | assumption | (simp [*]; done))
        clear hK K
        try simp only [Act.put, List.setIfInBounds_toArray, List.set_cons_zero, List.set_cons_succ]
        refine RegH.takeH (i := 6) (v := ?_) rfl (by kernel_rfl) (by kernel_rfl) (by kernel_rfl) (fun _ _ _ h => h) (Or.inl ⟨by rfl, ?_⟩) (by assumption) ?_
        rotate_left
        · (intro wS hSw; (try dsimp only at hSw); go_simp; try (with_reducible rfl))
        try simp only [Act.put, List.setIfInBounds_toArray, List.set_cons_zero, List.set_cons_succ]
        refine RegH.takeH (i := 7) (v := ?_) rfl (by kernel_rfl) (by kernel_rfl) (by kernel_rfl) (fun _ _ _ h => h) (Or.inl ⟨by rfl, ?_⟩) (by assumption) ?_
        rotate_left
        · (intro wS hSw; (try dsimp only at hSw); go_simp; try (with_reducible rfl))
        try simp only [Act.put, List.setIfInBounds_toArray, List.set_cons_zero, List.set_cons_succ]
        refine RegH.takeH (i := 8) rfl (by kernel_rfl) (by kernel_rfl) (by kernel_rfl) (fun _ _ _ h => h) (Or.inr ⟨by rfl, rfl⟩) (by assumption) ?_
        try simp only [Act.put, List.setIfInBounds_toArray, List.set_cons_zero, List.set_cons_succ]
        refine RegH.takeH (i := 9) rfl (by kernel_rfl) (by kernel_rfl) (by kernel_rfl) (fun _ _ _ h => h) (Or.inr ⟨by rfl, rfl⟩) (by assumption) ?_
        try simp only [Act.put, List.setIfInBounds_toArray, List.set_cons_zero, List.set_cons_succ]
        refine RegH.takeH (i := 10) rfl (by kernel_rfl) (by kernel_rfl) (by kernel_rfl) (fun _ _ _ h => h) (Or.inr ⟨by rfl, rfl⟩) (by assumption) ?_
        try simp only [Act.put, List.setIfInBounds_toArray, List.set_cons_zero, List.set_cons_succ]
        refine RegH.takeH (i := 11) rfl (by kernel_rfl) (by kernel_rfl) (by kernel_rfl) (fun _ _ _ h => h) (Or.inr ⟨by rfl, rfl⟩) (by assumption) ?_
        try simp only [Act.put, List.setIfInBounds_toArray, List.set_cons_zero, List.set_cons_succ]
        refine RegH.takeH (i := 12) rfl (by kernel_rfl) (by kernel_rfl) (by kernel_rfl) (fun _ _ _ h => h) (Or.inr ⟨by rfl, rfl⟩) (by assumption) ?_
        try simp only [Act.put, List.setIfInBounds_toArray, List.set_cons_zero, List.set_cons_succ]
        refine RegH.takeH (i := 13) rfl (by kernel_rfl) (by kernel_rfl) (by kernel_rfl) (fun _ _ _ h => h) (Or.inr ⟨by rfl, rfl⟩) (by assumption) ?_
        try simp only [Act.put, List.setIfInBounds_toArray, List.set_cons_zero, List.set_cons_succ]
        refine RegH.takeH (i := 14) rfl (by kernel_rfl) (by kernel_rfl) (by kernel_rfl) (fun _ _ _ h => h) (Or.inr ⟨by rfl, rfl⟩) (by assumption) ?_
        try simp only [Act.put, List.setIfInBounds_toArray, List.set_cons_zero, List.set_cons_succ]
        refine RegH.takeH (i := 15) rfl (by kernel_rfl) (by kernel_rfl) (by kernel_rfl) (fun _ _ _ h => h) (Or.inr ⟨by rfl, rfl⟩) (by assumption) ?_
        try simp only [Act.put, List.setIfInBounds_toArray, List.set_cons_zero, List.set_cons_succ]
        refine RegH.takeH (i := 16) rfl (by kernel_rfl) (by kernel_rfl) (by kernel_rfl) (fun _ _ _ h => h) (Or.inr ⟨by rfl, rfl⟩) (by assumption) ?_
        try simp only [Act.put, List.setIfInBounds_toArray, List.set_cons_zero, List.set_cons_succ]
        refine RegH.takeH (i := 17) rfl (by kernel_rfl) (by kernel_rfl) (by kernel_rfl) (fun _ _ _ h => h) (Or.inr ⟨by rfl, rfl⟩) (by assumption) ?_
        try simp only [Act.put, List.setIfInBounds_toArray, List.set_cons_zero, List.set_cons_succ]
        refine RegH.takeH (i := 18) rfl (by kernel_rfl) (by kernel_rfl) (by kernel_rfl) (fun _ _ _ h => h) (Or.inr ⟨by rfl, rfl⟩) (by assumption) ?_
        try simp only [Act.put, List.setIfInBounds_toArray, List.set_cons_zero, List.set_cons_succ]
        refine RegH.takeH (i := 19) rfl (by kernel_rfl) (by kernel_rfl) (by kernel_rfl) (fun _ _ _ h => h) (Or.inr ⟨by rfl, rfl⟩) (by assumption) ?_
        try simp only [Act.put, List.setIfInBounds_toArray, List.set_cons_zero, List.set_cons_succ]
        refine RegH.takeH (i := 20) rfl (by kernel_rfl) (by kernel_rfl) (by kernel_rfl) (fun _ _ _ h => h) (Or.inr ⟨by rfl, rfl⟩) (by assumption) ?_
        try simp only [Act.put, List.setIfInBounds_toArray, List.set_cons_zero, List.set_cons_succ]
        refine RegH.takeH (i := 21) rfl (by kernel_rfl) (by kernel_rfl) (by kernel_rfl) (fun _ _ _ h => h) (Or.inr ⟨by rfl, rfl⟩) (by assumption) ?_
        try simp only [Act.put, List.setIfInBounds_toArray, List.set_cons_zero, List.set_cons_succ]
        refine RegH.takeH (i := 22) rfl (by kernel_rfl) (by kernel_rfl) (by kernel_rfl) (fun _ _ _ h => h) (Or.inr ⟨by rfl, rfl⟩) (by assumption) ?_
        try simp only [Act.put, List.setIfInBounds_toArray, List.set_cons_zero, List.set_cons_succ]
        refine RegH.takeH (i := 23) rfl (by kernel_rfl) (by kernel_rfl) (by kernel_rfl) (fun _ _ _ h => h) (Or.inr ⟨by rfl, rfl⟩) (by assumption) ?_
        try simp only [Act.put, List.setIfInBounds_toArray, List.set_cons_zero, List.set_cons_succ]
        refine RegH.takeH (i := 24) rfl (by kernel_rfl) (by kernel_rfl) (by kernel_rfl) (fun _ _ _ h => h) (Or.inr ⟨by rfl, rfl⟩) (by assumption) ?_
        try simp only [Act.put, List.setIfInBounds_toArray, List.set_cons_zero, List.set_cons_succ]
        refine RegH.takeH (i := 25) rfl (by kernel_rfl) (by kernel_rfl) (by kernel_rfl) (fun _ _ _ h => h) (Or.inr ⟨by rfl, rfl⟩) (by assumption) ?_
        try simp only [Act.put, List.setIfInBounds_toArray, List.set_cons_zero, List.set_cons_succ]
        refine RegH.takeH (i := 26) (v := ?_) rfl (by kernel_rfl) (by kernel_rfl) (by kernel_rfl) (fun _ _ _ h => h) (Or.inl ⟨by rfl, ?_⟩) (by assumption) ?_
        rotate_left
        · (intro wS hSw; (try dsimp only at hSw); go_simp; try (with_reducible rfl))
        try simp only [Act.put, List.setIfInBounds_toArray, List.set_cons_zero, List.set_cons_succ]
        refine wpAnyH_done (by kernel_rfl) ?_ _
        go_wp2_with fail
        go_ret
        exact ⟨ret_b HZ.out.symm, below_then HBW.out (show Below wr.heap.size wr wq from kq)⟩
      · rw [hT] at HE
        have HN1 := Lib.hid (ok_more HOK.out hlt hT)
        clear hT
        by_cases hk0 : k = 0
        · have hg1 : ((0 : Int) < (k : Int)) = False := by simp only [eq_iff_iff, iff_false]; omega
          have hg2 : (0 < k) = False := by simp only [eq_iff_iff, iff_false]; omega
          have HN2 := Lib.hid (asc_more HAS.out hlt (fun j e _ => by omega))
          clear hk0
          go_wp2_with fail
          refine wp_region_held_drew (S := fun wx => wx.cell? ⟨w.heap.size, 0, none⟩ = some (.slice (some ⟨b, off, none⟩) l.length cap1) ∧ wx.cell? ⟨b, off + k * 3, none⟩ = some (.string nk) ∧ wx.cell? ⟨b, off + k * 3 + 1, none⟩ = some y ∧ wx.cell? ⟨b, off + k * 3 + 2, none⟩ = some z ∧ LaterD wr wx) (by kernel_rfl) ?_ (fun hHeld => ?_)
          · (refine ⟨?_, ?_, ?_, ?_, ?_⟩ <;> first | assumption | (simp [*]; done))
          refine RegH.takeH (i := 0) (v := ?_) rfl (by kernel_rfl) (by kernel_rfl) (by kernel_rfl) (fun _ _ _ h => h) (Or.inl ⟨by rfl, ?_⟩) (by assumption) ?_
          rotate_left
          · (intro wS hSw; (try dsimp only at hSw); go_simp; try (with_reducible rfl))
          try simp only [Act.put, List.setIfInBounds_toArray, List.set_cons_zero, List.set_cons_succ]
          refine RegH.takeH (i := 1) (v := ?_) rfl (by kernel_rfl) (by kernel_rfl) (by kernel_rfl) (fun _ _ _ h => h) (Or.inl ⟨by rfl, ?_⟩) (by assumption) ?_
          rotate_left
          · (intro wS hSw; (try dsimp only at hSw); go_simp; try (with_reducible rfl))
          try simp only [Act.put, List.setIfInBounds_toArray, List.set_cons_zero, List.set_cons_succ]
          refine RegH.takeH (i := 2) (v := ?_) rfl (by kernel_rfl) (by kernel_rfl) (by kernel_rfl) (fun _ _ _ h => h) (Or.inl ⟨by rfl, ?_⟩) (by assumption) ?_
          rotate_left
          · (intro wS hSw; (try dsimp only at hSw); go_simp; try (with_reducible rfl))
          try simp only [Act.put, List.setIfInBounds_toArray, List.set_cons_zero, List.set_cons_succ]
          refine RegH.takeH (i := 3) (v := ?_) rfl (by kernel_rfl) (by kernel_rfl) (by kernel_rfl) (fun _ _ _ h => h) (Or.inl ⟨by rfl, ?_⟩) (by assumption) ?_
          rotate_left
          · (intro wS hSw; (try dsimp only at hSw); go_simp; try (with_reducible rfl))
          try simp only [Act.put, List.setIfInBounds_toArray, List.set_cons_zero, List.set_cons_succ]
          refine RegH.takeH (i := 4) (v := ?_) rfl (by kernel_rfl) (by kernel_rfl) (by kernel_rfl) (fun _ _ _ h => h) (Or.inl ⟨by rfl, ?_⟩) (by assumption) ?_
          rotate_left
          · (intro wS hSw; (try dsimp only at hSw); go_simp; try (with_reducible rfl))
          try simp only [Act.put, List.setIfInBounds_toArray, List.set_cons_zero, List.set_cons_succ]
          refine RegH.consH (i := 5) rfl (by kernel_rfl) (fun K hK => ?_)
          go_simp
          go_at_call 57
          refine (HE.out _ kk).mono ?_
          rintro e wq ⟨rfl, hbq⟩
          have kq : LaterD wr wq := below_then (show Below wr.heap.size wr wr.drew from kk) hbq
          have n0 := (Below.cell kq (p := ⟨w.heap.size, 0, none⟩) HLTS.out.1).trans HALL.out.1
          have n1 := (Below.cell kq (p := ⟨b, off + k * 3, none⟩) HLTS.out.2).trans HALL.out.2.1
          have n2 := (Below.cell kq (p := ⟨b, off + k * 3 + 1, none⟩) HLTS.out.2).trans HALL.out.2.2.1
          have n3 := (Below.cell kq (p := ⟨b, off + k * 3 + 2, none⟩) HLTS.out.2).trans HALL.out.2.2.2
          clear hbq
          go_wp2_with fail
          refine hK.out _ _ ?_ (fun hHeld => ?_)
          · (refine ⟨?_, ?_, ?_, ?_, ?_⟩ <;> first | assumption | (simp [*]; done))
          clear hK K
          try simp only [Act.put, List.setIfInBounds_toArray, List.set_cons_zero, List.set_cons_succ]
          refine RegH.takeH (i := 6) (v := ?_) rfl (by kernel_rfl) (by kernel_rfl) (by kernel_rfl) (fun _ _ _ h => h) (Or.inl ⟨by rfl, ?_⟩) (by assumption) ?_
          rotate_left
          · (intro wS hSw; (try dsimp only at hSw); go_simp; try (with_reducible rfl))
          try simp only [Act.put, List.setIfInBounds_toArray, List.set_cons_zero, List.set_cons_succ]
          refine RegH.takeH (i := 7) (v := ?_) rfl (by kernel_rfl) (by kernel_rfl) (by kernel_rfl) (fun _ _ _ h => h) (Or.inl ⟨by rfl, ?_⟩) (by assumption) ?_
          rotate_left
          · (intro wS hSw; (try dsimp only at hSw); go_simp; try (with_reducible rfl))
          try simp only [Act.put, List.setIfInBounds_toArray, List.set_cons_zero, List.set_cons_succ]
          refine RegH.takeH (i := 8) (v := ?_) rfl (by kernel_rfl) (by kernel_rfl) (by kernel_rfl) (fun _ _ _ h => h) (Or.inl ⟨by rfl, ?_⟩) (by assumption) ?_
          rotate_left
          · (intro wS hSw; (try dsimp only at hSw); go_simp; try (with_reducible rfl))
          try simp only [Act.put, List.setIfInBounds_toArray, List.set_cons_zero, List.set_cons_succ]
          refine RegH.takeH (i := 9) (v := ?_) rfl (by kernel_rfl) (by kernel_rfl) (by kernel_rfl) (fun _ _ _ h => h) (Or.inl ⟨by rfl, ?_⟩) (by assumption) ?_
          rotate_left
          · (intro wS hSw; (try dsimp only at hSw); go_simp; try (with_reducible rfl))
          try simp only [Act.put, List.setIfInBounds_toArray, List.set_cons_zero, List.set_cons_succ]
          refine RegH.takeH (i := 10) (v := ?_) rfl (by kernel_rfl) (by kernel_rfl) (by kernel_rfl) (fun _ _ _ h => h) (Or.inl ⟨by rfl, ?_⟩) (by assumption) ?_
          rotate_left
          · (intro wS hSw; (try dsimp only at hSw); go_simp; try (with_reducible rfl))
          try simp only [Act.put, List.setIfInBounds_toArray, List.set_cons_zero, List.set_cons_succ]
          refine RegH.takeH (i := 11) rfl (by kernel_rfl) (by kernel_rfl) (by kernel_rfl) (fun _ _ _ h => h) (Or.inr ⟨by rfl, rfl⟩) (by assumption) ?_
          try simp only [Act.put, List.setIfInBounds_toArray, List.set_cons_zero, List.set_cons_succ]
          refine RegH.takeH (i := 12) rfl (by kernel_rfl) (by kernel_rfl) (by kernel_rfl) (fun _ _ _ h => h) (Or.inr ⟨by rfl, rfl⟩) (by assumption) ?_
          try simp only [Act.put, List.setIfInBounds_toArray, List.set_cons_zero, List.set_cons_succ]
          refine RegH.takeH (i := 13) rfl (by kernel_rfl) (by kernel_rfl) (by kernel_rfl) (fun _ _ _ h => h) (Or.inr ⟨by rfl, rfl⟩) (by assumption) ?_
          try simp only [Act.put, List.setIfInBounds_toArray, List.set_cons_zero, List.set_cons_succ]
          refine RegH.takeH (i := 14) rfl (by kernel_rfl) (by kernel_rfl) (by kernel_rfl) (fun _ _ _ h => h) (Or.inr ⟨by rfl, rfl⟩) (by assumption) ?_
          try simp only [Act.put, List.setIfInBounds_toArray, List.set_cons_zero, List.set_cons_succ]
          refine RegH.takeH (i := 15) rfl (by kernel_rfl) (by kernel_rfl) (by kernel_rfl) (fun _ _ _ h => h) (Or.inr ⟨by rfl, rfl⟩) (by assumption) ?_
          try simp only [Act.put, List.setIfInBounds_toArray, List.set_cons_zero, List.set_cons_succ]
          refine RegH.takeH (i := 16) rfl (by kernel_rfl) (by kernel_rfl) (by kernel_rfl) (fun _ _ _ h => h) (Or.inr ⟨by rfl, rfl⟩) (by assumption) ?_
          try simp only [Act.put, List.setIfInBounds_toArray, List.set_cons_zero, List.set_cons_succ]
          refine RegH.takeH (i := 17) rfl (by kernel_rfl) (by kernel_rfl) (by kernel_rfl) (fun _ _ _ h => h) (Or.inr ⟨by rfl, rfl⟩) (by assumption) ?_
          try simp only [Act.put, List.setIfInBounds_toArray, List.set_cons_zero, List.set_cons_succ]
          refine RegH.takeH (i := 18) rfl (by kernel_rfl) (by kernel_rfl) (by kernel_rfl) (fun _ _ _ h => h) (Or.inr ⟨by rfl, rfl⟩) (by assumption) ?_
          try simp only [Act.put, List.setIfInBounds_toArray, List.set_cons_zero, List.set_cons_succ]
          refine RegH.takeH (i := 19) rfl (by kernel_rfl) (by kernel_rfl) (by kernel_rfl) (fun _ _ _ h => h) (Or.inr ⟨by rfl, rfl⟩) (by assumption) ?_
          try simp only [Act.put, List.setIfInBounds_toArray, List.set_cons_zero, List.set_cons_succ]
          refine RegH.takeH (i := 20) rfl (by kernel_rfl) (by kernel_rfl) (by kernel_rfl) (fun _ _ _ h => h) (Or.inr ⟨by rfl, rfl⟩) (by assumption) ?_
          try simp only [Act.put, List.setIfInBounds_toArray, List.set_cons_zero, List.set_cons_succ]
          refine RegH.takeH (i := 21) rfl (by kernel_rfl) (by kernel_rfl) (by kernel_rfl) (fun _ _ _ h => h) (Or.inr ⟨by rfl, rfl⟩) (by assumption) ?_
          try simp only [Act.put, List.setIfInBounds_toArray, List.set_cons_zero, List.set_cons_succ]
          refine RegH.takeH (i := 22) rfl (by kernel_rfl) (by kernel_rfl) (by kernel_rfl) (fun _ _ _ h => h) (Or.inr ⟨by rfl, rfl⟩) (by assumption) ?_
          try simp only [Act.put, List.setIfInBounds_toArray, List.set_cons_zero, List.set_cons_succ]
          refine RegH.takeH (i := 23) rfl (by kernel_rfl) (by kernel_rfl) (by kernel_rfl) (fun _ _ _ h => h) (Or.inr ⟨by rfl, rfl⟩) (by assumption) ?_
          try simp only [Act.put, List.setIfInBounds_toArray, List.set_cons_zero, List.set_cons_succ]
          refine RegH.takeH (i := 24) rfl (by kernel_rfl) (by kernel_rfl) (by kernel_rfl) (fun _ _ _ h => h) (Or.inr ⟨by rfl, rfl⟩) (by assumption) ?_
          try simp only [Act.put, List.setIfInBounds_toArray, List.set_cons_zero, List.set_cons_succ]
          refine RegH.takeH (i := 25) (v := ?_) rfl (by kernel_rfl) (by kernel_rfl) (by kernel_rfl) (fun _ _ _ h => h) (Or.inl ⟨by rfl, ?_⟩) (by assumption) ?_
          rotate_left
          · (intro wS hSw; (try dsimp only at hSw); go_simp; try (with_reducible rfl))
          try simp only [Act.put, List.setIfInBounds_toArray, List.set_cons_zero, List.set_cons_succ]
          refine RegH.takeH (i := 26) (v := ?_) rfl (by kernel_rfl) (by kernel_rfl) (by kernel_rfl) (fun _ _ _ h => h) (Or.inl ⟨by rfl, ?_⟩) (by assumption) ?_
          rotate_left
          · (intro wS hSw; (try dsimp only at hSw); go_simp; try (with_reducible rfl))
          try simp only [Act.put, List.setIfInBounds_toArray, List.set_cons_zero, List.set_cons_succ]
          refine wpAnyH_done (by kernel_rfl) ?_ _
          go_wp2_with fail
          go_roundw
          case rel => exact ⟨k + 1, by omega, by go_num, HN1.out, HN2.out, below_then HWR.out (show Below wr.heap.size wr wq from kq)⟩
          case measure => simp [intOf]; omega
        · have hg1 : ((0 : Int) < (k : Int)) = True := by simp only [eq_iff_iff, iff_true]; omega
          have hg2 : (0 < k) = True := by simp only [eq_iff_iff, iff_true]; omega
          obtain ⟨j, hj⟩ : ∃ j, k = j + 1 := ⟨k - 1, by omega⟩
          have hjl : j < l.length := by omega
          obtain ⟨b', off', cap'', vs, e1, _, _, hat, hu⟩ := Cd.sl_at (HR1.out wr HBW.out) hjl
          injection e1 with e1 g1 g2
          injection e1 with e1
          injection e1 with e1 e2
          subst e1 e2
          clear g1 g2
          obtain ⟨x', y', z', rfl⟩ := len_list (tabC.len hu)
          have q0 := hat 0 (by simp)
          simp only [List.getElem_cons_zero, Nat.add_zero, show tabC.n = 3 from rfl] at q0
          obtain ⟨nj, hnj⟩ : ∃ nj, nj = (l[j]).1 := ⟨_, rfl⟩
          obtain rfl : x' = .string nj := by rw [hnj]; exact name_cell hu
          have HQ := Lib.hid q0
          have HNJ := Lib.hid (show nj = (l[j]).1 from hnj)
          have j1 : (k : Int) - 1 = (j : Int) := by omega
          have j2 : IntKind.i64.wrap (j : Int) = (j : Int) := by rw [IntKind.wrap_i64]; omega
          have j3 : (0 : Int) ≤ (j : Int) := by omega
          have j4 : (j : Int) < (l.length : Int) := by omega
          have HJ := Lib.hid hj
          clear hat hu hk0 hnj hj
          cases hlt2 : Op.bytesLess nj.toList nk.toList
          · have HZ := Lib.hid (show dbOk l = false from dbOk_no.2 fun q => by have e := HJ.out; subst e; have := asc_at q.2.2 hlt; unfold ltB at this; rw [← HNJ.out, ← HNK.out, hlt2] at this; cases this)
            go_wp2_with fail
            refine wp_region_held_drew (S := fun wx => wx.cell? ⟨w.heap.size, 0, none⟩ = some (.slice (some ⟨b, off, none⟩) l.length cap1) ∧ wx.cell? ⟨b, off + k * 3, none⟩ = some (.string nk) ∧ wx.cell? ⟨b, off + k * 3 + 1, none⟩ = some y ∧ wx.cell? ⟨b, off + k * 3 + 2, none⟩ = some z ∧ wx.cell? ⟨b, off + j * 3, none⟩ = some (.string nj) ∧ LaterD wr wx) (by kernel_rfl) ?_ (fun hHeld => ?_)
            · (refine ⟨?_, ?_, ?_, ?_, ?_, ?_⟩ <;> first | assumption | (simp [*]; done))
            refine RegH.takeH (i := 0) (v := ?_) rfl (by kernel_rfl) (by kernel_rfl) (by kernel_rfl) (fun _ _ _ h => h) (Or.inl ⟨by rfl, ?_⟩) (by assumption) ?_
            rotate_left
            · (intro wS hSw; (try dsimp only at hSw); go_simp; try (with_reducible rfl))
            try simp only [Act.put, List.setIfInBounds_toArray, List.set_cons_zero, List.set_cons_succ]
            refine RegH.takeH (i := 1) (v := ?_) rfl (by kernel_rfl) (by kernel_rfl) (by kernel_rfl) (fun _ _ _ h => h) (Or.inl ⟨by rfl, ?_⟩) (by assumption) ?_
            rotate_left
            · (intro wS hSw; (try dsimp only at hSw); go_simp; try (with_reducible rfl))
            try simp only [Act.put, List.setIfInBounds_toArray, List.set_cons_zero, List.set_cons_succ]
            refine RegH.takeH (i := 2) (v := ?_) rfl (by kernel_rfl) (by kernel_rfl) (by kernel_rfl) (fun _ _ _ h => h) (Or.inl ⟨by rfl, ?_⟩) (by assumption) ?_
            rotate_left
            · (intro wS hSw; (try dsimp only at hSw); go_simp; try (with_reducible rfl))
            try simp only [Act.put, List.setIfInBounds_toArray, List.set_cons_zero, List.set_cons_succ]
            refine RegH.takeH (i := 3) (v := ?_) rfl (by kernel_rfl) (by kernel_rfl) (by kernel_rfl) (fun _ _ _ h => h) (Or.inl ⟨by rfl, ?_⟩) (by assumption) ?_
            rotate_left
            · (intro wS hSw; (try dsimp only at hSw); go_simp; try (with_reducible rfl))
            try simp only [Act.put, List.setIfInBounds_toArray, List.set_cons_zero, List.set_cons_succ]
            refine RegH.takeH (i := 4) (v := ?_) rfl (by kernel_rfl) (by kernel_rfl) (by kernel_rfl) (fun _ _ _ h => h) (Or.inl ⟨by rfl, ?_⟩) (by assumption) ?_
            rotate_left
            · (intro wS hSw; (try dsimp only at hSw); go_simp; try (with_reducible rfl))
            try simp only [Act.put, List.setIfInBounds_toArray, List.set_cons_zero, List.set_cons_succ]
            refine RegH.consH (i := 5) rfl (by kernel_rfl) (fun K hK => ?_)
            go_simp
            go_at_call 57
            refine (HE.out _ kk).mono ?_
            rintro e wq ⟨rfl, hbq⟩
            have kq : LaterD wr wq := below_then (show Below wr.heap.size wr wr.drew from kk) hbq
            have n0 := (Below.cell kq (p := ⟨w.heap.size, 0, none⟩) HLTS.out.1).trans HALL.out.1
            have n1 := (Below.cell kq (p := ⟨b, off + k * 3, none⟩) HLTS.out.2).trans HALL.out.2.1
            have n2 := (Below.cell kq (p := ⟨b, off + k * 3 + 1, none⟩) HLTS.out.2).trans HALL.out.2.2.1
            have n3 := (Below.cell kq (p := ⟨b, off + k * 3 + 2, none⟩) HLTS.out.2).trans HALL.out.2.2.2
            have n4 := (Below.cell kq (p := ⟨b, off + j * 3, none⟩) HLTS.out.2).trans HQ.out
            clear hbq
            go_wp2_with fail
            refine hK.out _ _ ?_ (fun hHeld => ?_)
            · (refine ⟨?_, ?_, ?_, ?_, ?_, ?_⟩ <;> first | assumption | (simp [*]; done))
            clear hK K
            try simp only [Act.put, List.setIfInBounds_toArray, List.set_cons_zero, List.set_cons_succ]
            refine RegH.takeH (i := 6) (v := ?_) rfl (by kernel_rfl) (by kernel_rfl) (by kernel_rfl) (fun _ _ _ h => h) (Or.inl ⟨by rfl, ?_⟩) (by assumption) ?_
            rotate_left
            · (intro wS hSw; (try dsimp only at hSw); go_simp; try (with_reducible rfl))
            try simp only [Act.put, List.setIfInBounds_toArray, List.set_cons_zero, List.set_cons_succ]
            refine RegH.takeH (i := 7) (v := ?_) rfl (by kernel_rfl) (by kernel_rfl) (by kernel_rfl) (fun _ _ _ h => h) (Or.inl ⟨by rfl, ?_⟩) (by assumption) ?_
            rotate_left
            · (intro wS hSw; (try dsimp only at hSw); go_simp; try (with_reducible rfl))
            try simp only [Act.put, List.setIfInBounds_toArray, List.set_cons_zero, List.set_cons_succ]
            refine RegH.takeH (i := 8) (v := ?_) rfl (by kernel_rfl) (by kernel_rfl) (by kernel_rfl) (fun _ _ _ h => h) (Or.inl ⟨by rfl, ?_⟩) (by assumption) ?_
            rotate_left
            · (intro wS hSw; (try dsimp only at hSw); go_simp; try (with_reducible rfl))
            try simp only [Act.put, List.setIfInBounds_toArray, List.set_cons_zero, List.set_cons_succ]
            refine RegH.takeH (i := 9) (v := ?_) rfl (by kernel_rfl) (by kernel_rfl) (by kernel_rfl) (fun _ _ _ h => h) (Or.inl ⟨by rfl, ?_⟩) (by assumption) ?_
            rotate_left
            · (intro wS hSw; (try dsimp only at hSw); go_simp; try (with_reducible rfl))
            try simp only [Act.put, List.setIfInBounds_toArray, List.set_cons_zero, List.set_cons_succ]
            refine RegH.takeH (i := 10) (v := ?_) rfl (by kernel_rfl) (by kernel_rfl) (by kernel_rfl) (fun _ _ _ h => h) (Or.inl ⟨by rfl, ?_⟩) (by assumption) ?_
            rotate_left
            · (intro wS hSw; (try dsimp only at hSw); go_simp; try (with_reducible rfl))
            try simp only [Act.put, List.setIfInBounds_toArray, List.set_cons_zero, List.set_cons_succ]
            refine RegH.takeH (i := 11) (v := ?_) rfl (by kernel_rfl) (by kernel_rfl) (by kernel_rfl) (fun _ _ _ h => h) (Or.inl ⟨by rfl, ?_⟩) (by assumption) ?_
            rotate_left
            · (intro wS hSw; (try dsimp only at hSw); go_simp; try (with_reducible rfl))
            try simp only [Act.put, List.setIfInBounds_toArray, List.set_cons_zero, List.set_cons_succ]
            refine RegH.takeH (i := 12) (v := ?_) rfl (by kernel_rfl) (by kernel_rfl) (by kernel_rfl) (fun _ _ _ h => h) (Or.inl ⟨by rfl, ?_⟩) (by assumption) ?_
            rotate_left
            · (intro wS hSw; (try dsimp only at hSw); go_simp; try (with_reducible rfl))
            try simp only [Act.put, List.setIfInBounds_toArray, List.set_cons_zero, List.set_cons_succ]
            refine RegH.takeH (i := 13) (v := ?_) rfl (by kernel_rfl) (by kernel_rfl) (by kernel_rfl) (fun _ _ _ h => h) (Or.inl ⟨by rfl, ?_⟩) (by assumption) ?_
            rotate_left
            · (intro wS hSw; (try dsimp only at hSw); go_simp; try (with_reducible rfl))
            try simp only [Act.put, List.setIfInBounds_toArray, List.set_cons_zero, List.set_cons_succ]
            refine RegH.takeH (i := 14) (v := ?_) rfl (by kernel_rfl) (by kernel_rfl) (by kernel_rfl) (fun _ _ _ h => h) (Or.inl ⟨by rfl, ?_⟩) (by assumption) ?_
            rotate_left
            · (intro wS hSw; (try dsimp only at hSw); go_simp; try (with_reducible rfl))
            try simp only [Act.put, List.setIfInBounds_toArray, List.set_cons_zero, List.set_cons_succ]
            refine RegH.takeH (i := 15) (v := ?_) rfl (by kernel_rfl) (by kernel_rfl) (by kernel_rfl) (fun _ _ _ h => h) (Or.inl ⟨by rfl, ?_⟩) (by assumption) ?_
            rotate_left
            · (intro wS hSw; (try dsimp only at hSw); go_simp; try (with_reducible rfl))
            try simp only [Act.put, List.setIfInBounds_toArray, List.set_cons_zero, List.set_cons_succ]
            refine RegH.takeH (i := 16) (v := ?_) rfl (by kernel_rfl) (by kernel_rfl) (by kernel_rfl) (fun _ _ _ h => h) (Or.inl ⟨by rfl, ?_⟩) (by assumption) ?_
            rotate_left
            · (intro wS hSw; (try dsimp only at hSw); go_simp; try (with_reducible rfl))
            try simp only [Act.put, List.setIfInBounds_toArray, List.set_cons_zero, List.set_cons_succ]
            refine RegH.takeH (i := 17) (v := ?_) rfl (by kernel_rfl) (by kernel_rfl) (by kernel_rfl) (fun _ _ _ h => h) (Or.inl ⟨by rfl, ?_⟩) (by assumption) ?_
            rotate_left
            · (intro wS hSw; (try dsimp only at hSw); go_simp; try (with_reducible rfl))
            try simp only [Act.put, List.setIfInBounds_toArray, List.set_cons_zero, List.set_cons_succ]
            refine RegH.takeH (i := 18) (v := ?_) rfl (by kernel_rfl) (by kernel_rfl) (by kernel_rfl) (fun _ _ _ h => h) (Or.inl ⟨by rfl, ?_⟩) (by assumption) ?_
            rotate_left
            · (intro wS hSw; (try dsimp only at hSw); go_simp; try (with_reducible rfl))
            try simp only [Act.put, List.setIfInBounds_toArray, List.set_cons_zero, List.set_cons_succ]
            refine RegH.takeH (i := 19) (v := ?_) rfl (by kernel_rfl) (by kernel_rfl) (by kernel_rfl) (fun _ _ _ h => h) (Or.inl ⟨by rfl, ?_⟩) (by assumption) ?_
            rotate_left
            · (intro wS hSw; (try dsimp only at hSw); go_simp; try (with_reducible rfl))
            try simp only [Act.put, List.setIfInBounds_toArray, List.set_cons_zero, List.set_cons_succ]
            refine RegH.takeH (i := 20) (v := ?_) rfl (by kernel_rfl) (by kernel_rfl) (by kernel_rfl) (fun _ _ _ h => h) (Or.inl ⟨by rfl, ?_⟩) (by assumption) ?_
            rotate_left
            · (intro wS hSw; (try dsimp only at hSw); go_simp; try (with_reducible rfl))
            try simp only [Act.put, List.setIfInBounds_toArray, List.set_cons_zero, List.set_cons_succ]
            refine RegH.takeH (i := 21) (v := ?_) rfl (by kernel_rfl) (by kernel_rfl) (by kernel_rfl) (fun _ _ _ h => h) (Or.inl ⟨by rfl, ?_⟩) (by assumption) ?_
            rotate_left
            · (intro wS hSw; (try dsimp only at hSw); go_simp; try (with_reducible rfl))
            try simp only [Act.put, List.setIfInBounds_toArray, List.set_cons_zero, List.set_cons_succ]
            refine RegH.takeH (i := 22) (v := ?_) rfl (by kernel_rfl) (by kernel_rfl) (by kernel_rfl) (fun _ _ _ h => h) (Or.inl ⟨by rfl, ?_⟩) (by assumption) ?_
            rotate_left
            · (intro wS hSw; (try dsimp only at hSw); go_simp; try (with_reducible rfl))
            try simp only [Act.put, List.setIfInBounds_toArray, List.set_cons_zero, List.set_cons_succ]
            refine RegH.takeH (i := 23) (v := ?_) rfl (by kernel_rfl) (by kernel_rfl) (by kernel_rfl) (fun _ _ _ h => h) (Or.inl ⟨by rfl, ?_⟩) (by assumption) ?_
            rotate_left
            · (intro wS hSw; (try dsimp only at hSw); go_simp; try (with_reducible rfl))
            try simp only [Act.put, List.setIfInBounds_toArray, List.set_cons_zero, List.set_cons_succ]
            refine RegH.takeH (i := 24) (v := ?_) rfl (by kernel_rfl) (by kernel_rfl) (by kernel_rfl) (fun _ _ _ h => h) (Or.inl ⟨by rfl, ?_⟩) (by assumption) ?_
            rotate_left
            · (intro wS hSw; (try dsimp only at hSw); go_simp; try (with_reducible rfl))
            try simp only [Act.put, List.setIfInBounds_toArray, List.set_cons_zero, List.set_cons_succ]
            refine RegH.takeH (i := 25) (v := ?_) rfl (by kernel_rfl) (by kernel_rfl) (by kernel_rfl) (fun _ _ _ h => h) (Or.inl ⟨by rfl, ?_⟩) (by assumption) ?_
            rotate_left
            · (intro wS hSw; (try dsimp only at hSw); go_simp; try (with_reducible rfl))
            try simp only [Act.put, List.setIfInBounds_toArray, List.set_cons_zero, List.set_cons_succ]
            refine RegH.takeH (i := 26) (v := ?_) rfl (by kernel_rfl) (by kernel_rfl) (by kernel_rfl) (fun _ _ _ h => h) (Or.inl ⟨by rfl, ?_⟩) (by assumption) ?_
            rotate_left
            · (intro wS hSw; (try dsimp only at hSw); go_simp; try (with_reducible rfl))
            try simp only [Act.put, List.setIfInBounds_toArray, List.set_cons_zero, List.set_cons_succ]
            refine wpAnyH_done (by kernel_rfl) ?_ _
            go_wp2_with fail
            go_ret
            exact ⟨ret_b HZ.out.symm, below_then HBW.out (show Below wr.heap.size wr wq from kq)⟩
          · have HN2 := Lib.hid (asc_more HAS.out hlt (fun i e hi => by have e2 := HJ.out; obtain rfl : i = j := (by omega); unfold ltB; rw [← HNJ.out, ← HNK.out]; exact hlt2))
            go_wp2_with fail
            refine wp_region_held_drew (S := fun wx => wx.cell? ⟨w.heap.size, 0, none⟩ = some (.slice (some ⟨b, off, none⟩) l.length cap1) ∧ wx.cell? ⟨b, off + k * 3, none⟩ = some (.string nk) ∧ wx.cell? ⟨b, off + k * 3 + 1, none⟩ = some y ∧ wx.cell? ⟨b, off + k * 3 + 2, none⟩ = some z ∧ wx.cell? ⟨b, off + j * 3, none⟩ = some (.string nj) ∧ LaterD wr wx) (by kernel_rfl) ?_ (fun hHeld => ?_)
            · (refine ⟨?_, ?_, ?_, ?_, ?_, ?_⟩ <;> first | assumption | (simp [*]; done))
            refine RegH.takeH (i := 0) (v := ?_) rfl (by kernel_rfl) (by kernel_rfl) (by kernel_rfl) (fun _ _ _ h => h) (Or.inl ⟨by rfl, ?_⟩) (by assumption) ?_
            rotate_left
            · (intro wS hSw; (try dsimp only at hSw); go_simp; try (with_reducible rfl))
            try simp only [Act.put, List.setIfInBounds_toArray, List.set_cons_zero, List.set_cons_succ]
            refine RegH.takeH (i := 1) (v := ?_) rfl (by kernel_rfl) (by kernel_rfl) (by kernel_rfl) (fun _ _ _ h => h) (Or.inl ⟨by rfl, ?_⟩) (by assumption) ?_
            rotate_left
            · (intro wS hSw; (try dsimp only at hSw); go_simp; try (with_reducible rfl))
            try simp only [Act.put, List.setIfInBounds_toArray, List.set_cons_zero, List.set_cons_succ]
            refine RegH.takeH (i := 2) (v := ?_) rfl (by kernel_rfl) (by kernel_rfl) (by kernel_rfl) (fun _ _ _ h => h) (Or.inl ⟨by rfl, ?_⟩) (by assumption) ?_
            rotate_left
            · (intro wS hSw; (try dsimp only at hSw); go_simp; try (with_reducible rfl))
            try simp only [Act.put, List.setIfInBounds_toArray, List.set_cons_zero, List.set_cons_succ]
            refine RegH.takeH (i := 3) (v := ?_) rfl (by kernel_rfl) (by kernel_rfl) (by kernel_rfl) (fun _ _ _ h => h) (Or.inl ⟨by rfl, ?_⟩) (by assumption) ?_
            rotate_left
            · (intro wS hSw; (try dsimp only at hSw); go_simp; try (with_reducible rfl))
            try simp only [Act.put, List.setIfInBounds_toArray, List.set_cons_zero, List.set_cons_succ]
            refine RegH.takeH (i := 4) (v := ?_) rfl (by kernel_rfl) (by kernel_rfl) (by kernel_rfl) (fun _ _ _ h => h) (Or.inl ⟨by rfl, ?_⟩) (by assumption) ?_
            rotate_left
            · (intro wS hSw; (try dsimp only at hSw); go_simp; try (with_reducible rfl))
            try simp only [Act.put, List.setIfInBounds_toArray, List.set_cons_zero, List.set_cons_succ]
            refine RegH.consH (i := 5) rfl (by kernel_rfl) (fun K hK => ?_)
            go_simp
            go_at_call 57
            refine (HE.out _ kk).mono ?_
            rintro e wq ⟨rfl, hbq⟩
            have kq : LaterD wr wq := below_then (show Below wr.heap.size wr wr.drew from kk) hbq
            have n0 := (Below.cell kq (p := ⟨w.heap.size, 0, none⟩) HLTS.out.1).trans HALL.out.1
            have n1 := (Below.cell kq (p := ⟨b, off + k * 3, none⟩) HLTS.out.2).trans HALL.out.2.1
            have n2 := (Below.cell kq (p := ⟨b, off + k * 3 + 1, none⟩) HLTS.out.2).trans HALL.out.2.2.1
            have n3 := (Below.cell kq (p := ⟨b, off + k * 3 + 2, none⟩) HLTS.out.2).trans HALL.out.2.2.2
            have n4 := (Below.cell kq (p := ⟨b, off + j * 3, none⟩) HLTS.out.2).trans HQ.out
            clear hbq
            go_wp2_with fail
            refine hK.out _ _ ?_ (fun hHeld => ?_)
            · (refine ⟨?_, ?_, ?_, ?_, ?_, ?_⟩ <;> first | assumption | (simp [*]; done))
            clear hK K
            try simp only [Act.put, List.setIfInBounds_toArray, List.set_cons_zero, List.set_cons_succ]
            refine RegH.takeH (i := 6) (v := ?_) rfl (by kernel_rfl) (by kernel_rfl) (by kernel_rfl) (fun _ _ _ h => h) (Or.inl ⟨by rfl, ?_⟩) (by assumption) ?_
            rotate_left
            · (intro wS hSw; (try dsimp only at hSw); go_simp; try (with_reducible rfl))
            try simp only [Act.put, List.setIfInBounds_toArray, List.set_cons_zero, List.set_cons_succ]
            refine RegH.takeH (i := 7) (v := ?_) rfl (by kernel_rfl) (by kernel_rfl) (by kernel_rfl) (fun _ _ _ h => h) (Or.inl ⟨by rfl, ?_⟩) (by assumption) ?_
            rotate_left
            · (intro wS hSw; (try dsimp only at hSw); go_simp; try (with_reducible rfl))
            try simp only [Act.put, List.setIfInBounds_toArray, List.set_cons_zero, List.set_cons_succ]
            refine RegH.takeH (i := 8) (v := ?_) rfl (by kernel_rfl) (by kernel_rfl) (by kernel_rfl) (fun _ _ _ h => h) (Or.inl ⟨by rfl, ?_⟩) (by assumption) ?_
            rotate_left
            · (intro wS hSw; (try dsimp only at hSw); go_simp; try (with_reducible rfl))
            try simp only [Act.put, List.setIfInBounds_toArray, List.set_cons_zero, List.set_cons_succ]
            refine RegH.takeH (i := 9) (v := ?_) rfl (by kernel_rfl) (by kernel_rfl) (by kernel_rfl) (fun _ _ _ h => h) (Or.inl ⟨by rfl, ?_⟩) (by assumption) ?_
            rotate_left
            · (intro wS hSw; (try dsimp only at hSw); go_simp; try (with_reducible rfl))
            try simp only [Act.put, List.setIfInBounds_toArray, List.set_cons_zero, List.set_cons_succ]
            refine RegH.takeH (i := 10) (v := ?_) rfl (by kernel_rfl) (by kernel_rfl) (by kernel_rfl) (fun _ _ _ h => h) (Or.inl ⟨by rfl, ?_⟩) (by assumption) ?_
            rotate_left
            · (intro wS hSw; (try dsimp only at hSw); go_simp; try (with_reducible rfl))
            try simp only [Act.put, List.setIfInBounds_toArray, List.set_cons_zero, List.set_cons_succ]
            refine RegH.takeH (i := 11) (v := ?_) rfl (by kernel_rfl) (by kernel_rfl) (by kernel_rfl) (fun _ _ _ h => h) (Or.inl ⟨by rfl, ?_⟩) (by assumption) ?_
            rotate_left
            · (intro wS hSw; (try dsimp only at hSw); go_simp; try (with_reducible rfl))
            try simp only [Act.put, List.setIfInBounds_toArray, List.set_cons_zero, List.set_cons_succ]
            refine RegH.takeH (i := 12) (v := ?_) rfl (by kernel_rfl) (by kernel_rfl) (by kernel_rfl) (fun _ _ _ h => h) (Or.inl ⟨by rfl, ?_⟩) (by assumption) ?_
            rotate_left
            · (intro wS hSw; (try dsimp only at hSw); go_simp; try (with_reducible rfl))
            try simp only [Act.put, List.setIfInBounds_toArray, List.set_cons_zero, List.set_cons_succ]
            refine RegH.takeH (i := 13) (v := ?_) rfl (by kernel_rfl) (by kernel_rfl) (by kernel_rfl) (fun _ _ _ h => h) (Or.inl ⟨by rfl, ?_⟩) (by assumption) ?_
            rotate_left
            · (intro wS hSw; (try dsimp only at hSw); go_simp; try (with_reducible rfl))
            try simp only [Act.put, List.setIfInBounds_toArray, List.set_cons_zero, List.set_cons_succ]
            refine RegH.takeH (i := 14) (v := ?_) rfl (by kernel_rfl) (by kernel_rfl) (by kernel_rfl) (fun _ _ _ h => h) (Or.inl ⟨by rfl, ?_⟩) (by assumption) ?_
            rotate_left
            · (intro wS hSw; (try dsimp only at hSw); go_simp; try (with_reducible rfl))
            try simp only [Act.put, List.setIfInBounds_toArray, List.set_cons_zero, List.set_cons_succ]
            refine RegH.takeH (i := 15) (v := ?_) rfl (by kernel_rfl) (by kernel_rfl) (by kernel_rfl) (fun _ _ _ h => h) (Or.inl ⟨by rfl, ?_⟩) (by assumption) ?_
            rotate_left
            · (intro wS hSw; (try dsimp only at hSw); go_simp; try (with_reducible rfl))
            try simp only [Act.put, List.setIfInBounds_toArray, List.set_cons_zero, List.set_cons_succ]
            refine RegH.takeH (i := 16) (v := ?_) rfl (by kernel_rfl) (by kernel_rfl) (by kernel_rfl) (fun _ _ _ h => h) (Or.inl ⟨by rfl, ?_⟩) (by assumption) ?_
            rotate_left
            · (intro wS hSw; (try dsimp only at hSw); go_simp; try (with_reducible rfl))
            try simp only [Act.put, List.setIfInBounds_toArray, List.set_cons_zero, List.set_cons_succ]
            refine RegH.takeH (i := 17) (v := ?_) rfl (by kernel_rfl) (by kernel_rfl) (by kernel_rfl) (fun _ _ _ h => h) (Or.inl ⟨by rfl, ?_⟩) (by assumption) ?_
            rotate_left
            · (intro wS hSw; (try dsimp only at hSw); go_simp; try (with_reducible rfl))
            try simp only [Act.put, List.setIfInBounds_toArray, List.set_cons_zero, List.set_cons_succ]
            refine RegH.takeH (i := 18) (v := ?_) rfl (by kernel_rfl) (by kernel_rfl) (by kernel_rfl) (fun _ _ _ h => h) (Or.inl ⟨by rfl, ?_⟩) (by assumption) ?_
            rotate_left
            · (intro wS hSw; (try dsimp only at hSw); go_simp; try (with_reducible rfl))
            try simp only [Act.put, List.setIfInBounds_toArray, List.set_cons_zero, List.set_cons_succ]
            refine RegH.takeH (i := 19) (v := ?_) rfl (by kernel_rfl) (by kernel_rfl) (by kernel_rfl) (fun _ _ _ h => h) (Or.inl ⟨by rfl, ?_⟩) (by assumption) ?_
            rotate_left
            · (intro wS hSw; (try dsimp only at hSw); go_simp; try (with_reducible rfl))
            try simp only [Act.put, List.setIfInBounds_toArray, List.set_cons_zero, List.set_cons_succ]
            refine RegH.takeH (i := 20) (v := ?_) rfl (by kernel_rfl) (by kernel_rfl) (by kernel_rfl) (fun _ _ _ h => h) (Or.inl ⟨by rfl, ?_⟩) (by assumption) ?_
            rotate_left
            · (intro wS hSw; (try dsimp only at hSw); go_simp; try (with_reducible rfl))
            try simp only [Act.put, List.setIfInBounds_toArray, List.set_cons_zero, List.set_cons_succ]
            refine RegH.takeH (i := 21) (v := ?_) rfl (by kernel_rfl) (by kernel_rfl) (by kernel_rfl) (fun _ _ _ h => h) (Or.inl ⟨by rfl, ?_⟩) (by assumption) ?_
            rotate_left
            · (intro wS hSw; (try dsimp only at hSw); go_simp; try (with_reducible rfl))
            try simp only [Act.put, List.setIfInBounds_toArray, List.set_cons_zero, List.set_cons_succ]
            refine RegH.takeH (i := 22) (v := ?_) rfl (by kernel_rfl) (by kernel_rfl) (by kernel_rfl) (fun _ _ _ h => h) (Or.inl ⟨by rfl, ?_⟩) (by assumption) ?_
            rotate_left
            · (intro wS hSw; (try dsimp only at hSw); go_simp; try (with_reducible rfl))
            try simp only [Act.put, List.setIfInBounds_toArray, List.set_cons_zero, List.set_cons_succ]
            refine RegH.takeH (i := 23) (v := ?_) rfl (by kernel_rfl) (by kernel_rfl) (by kernel_rfl) (fun _ _ _ h => h) (Or.inl ⟨by rfl, ?_⟩) (by assumption) ?_
            rotate_left
            · (intro wS hSw; (try dsimp only at hSw); go_simp; try (with_reducible rfl))
            try simp only [Act.put, List.setIfInBounds_toArray, List.set_cons_zero, List.set_cons_succ]
            refine RegH.takeH (i := 24) (v := ?_) rfl (by kernel_rfl) (by kernel_rfl) (by kernel_rfl) (fun _ _ _ h => h) (Or.inl ⟨by rfl, ?_⟩) (by assumption) ?_
            rotate_left
            · (intro wS hSw; (try dsimp only at hSw); go_simp; try (with_reducible rfl))
            try simp only [Act.put, List.setIfInBounds_toArray, List.set_cons_zero, List.set_cons_succ]
            refine RegH.takeH (i := 25) (v := ?_) rfl (by kernel_rfl) (by kernel_rfl) (by kernel_rfl) (fun _ _ _ h => h) (Or.inl ⟨by rfl, ?_⟩) (by assumption) ?_
            rotate_left
            · (intro wS hSw; (try dsimp only at hSw); go_simp; try (with_reducible rfl))
            try simp only [Act.put, List.setIfInBounds_toArray, List.set_cons_zero, List.set_cons_succ]
            refine RegH.takeH (i := 26) (v := ?_) rfl (by kernel_rfl) (by kernel_rfl) (by kernel_rfl) (fun _ _ _ h => h) (Or.inl ⟨by rfl, ?_⟩) (by assumption) ?_
            rotate_left
            · (intro wS hSw; (try dsimp only at hSw); go_simp; try (with_reducible rfl))
            try simp only [Act.put, List.setIfInBounds_toArray, List.set_cons_zero, List.set_cons_succ]
            refine wpAnyH_done (by kernel_rfl) ?_ _
            go_wp2_with fail
            go_roundw
            case rel => exact ⟨k + 1, by omega, by go_num, HN1.out, HN2.out, below_then HWR.out (show Below wr.heap.size wr wq from kq)⟩
            case measure => simp [intOf]; omega
    · have ek : k = l.length := by omega
      subst ek
      have HP := Lib.hid (show dbOk l = decide ((l.length : Int) ≤ 6) from by
        have h1 := HOK.out
        have h2 := HAS.out
        rw [List.take_length] at h1 h2
        unfold dbOk
        exact decide_eq_decide.2 ⟨fun q => by have := q.1; omega, fun q => ⟨by omega, h1, h2⟩⟩)
      go_wp2_with fail
      go_ret
      exact ⟨ret_b HP.out.symm, HBW.out⟩
end Go.Proofs.YtinchhahcheadaaGreat.DbSpec

namespace Go.Proofs.YtinchhahcheadaaGreat.DbSpec
open Go Go.RowKit Byt Ints IntsLaw Cd Rows2 Tab SlMath TabOpen TabElem SlTable Db TabSpec

theorem copy_elem (us : List Value) (T : T3) (S : Nat → Prop) (w : World) (hu : tabC.rd w S us T) (hw : wtT T ≤ 1073741824) :
    Calls Tryz.prog 56 #[.agg us.toArray] w fun e w' => ∃ a c fp, e = .returned (.agg #[.string T.1, .int .i64 T.2.1, .slice a T.2.2.length c]) ∧ tabC.ow w' w.heap.size [.string T.1, .int .i64 T.2.1, .slice a T.2.2.length c] T fp ∧ fp.Nodup ∧ Below w.heap.size w w' := by
  obtain ⟨u, rfl, h1, h2, h3⟩ := tab_cells hu
  refine (spec_copy T.1 T.2.1 u T.2.2 S w h3 (by unfold wtT tabWt at hw; omega)).mono ?_
  rintro e w' ⟨u', fp, rfl, how, hnd, hb⟩
  obtain ⟨a, c, rfl⟩ := Cd.ow_slice how
  exact ⟨a, c, fp, rfl, tab_ow how h1 h2, hnd, hb⟩
theorem at3 {w : World} {b : Nat} {x y z : Value} {e : TypeId} (h : w.heap[b]? = some (.cells #[x, y, z] e (0, 0))) : Cd.At w b 0 [x, y, z] := fun j hj => by
  obtain ⟨h0, h1, h2, _⟩ := row3 h
  match j, hj with
  | 0, _ => exact h0
  | 1, _ => exact h1
  | 2, _ => exact h2
set_option maxRecDepth 100000 in
set_option maxHeartbeats 1600000 in
theorem spec_dbcopy (u : Value) (l : List T3) (S : Nat → Prop) (w : World) (h1 : tabsC.rd w S [u] l) (hw : wtS l ≤ 1000000000) :
    Calls Tryz.prog 25 #[.agg #[u]] w fun e w' => ∃ u' fp, e = .returned (.agg #[u']) ∧ tabsC.ow w' w.heap.size [u'] l fp ∧ fp.Nodup ∧ Below w.heap.size w w' := by
  have HR1 := Lib.hid (fun w' (hb : Below w.heap.size w w') => Cd.later h1 hb)
  have HW := Lib.hid hw
  obtain ⟨a1, cap1, rfl, hl1⟩ := Cd.sl_form h1
  clear h1 hw
  go_enter Tryz.func25, Tryz.ntmps25
  go_wp2_with fail
  generalize hW : ((w.alloc _).alloc _).alloc _ = W
  obtain ⟨r0, r1, r2, hz, hb0⟩ := start3 w _ _ _ hW
  have HC0 := Lib.hid (row1 r0)
  have HC1 := Lib.hid (row1 r1)
  have HC2 := Lib.hid (row1 r2)
  have c2 := (row1 r2).1
  have HZ := Lib.hid hz
  have HB0 := Lib.hid hb0
  clear hW r0 r1 r2 hz hb0
  go_loopw [4] (fun i wr => ∃ (k : Nat) (o : Value) (fp : List Nat), k ≤ l.length ∧ i = .int .i64 k ∧ tabsC.ow wr W.heap.size [o] (l.take k) fp ∧ fp.Nodup ∧ wr.cell? ⟨w.heap.size, 0, none⟩ = some (.slice a1 l.length cap1) ∧ wr.cell? ⟨w.heap.size + 1, 0, none⟩ = some (.slice none 0 0) ∧ wr.frozen? ⟨w.heap.size + 1, 0, none⟩ = false ∧ wr.cell? ⟨w.heap.size + 2, 0, none⟩ = some o ∧ wr.frozen? ⟨w.heap.size + 2, 0, none⟩ = false ∧ W.heap.size ≤ wr.heap.size ∧ Below w.heap.size w wr) (fun i _ => l.length - (intOf i).toNat)
  case atStart => exact ⟨0, .slice none 0 0, [], Nat.zero_le _, rfl, Cd.ow_nil _ _, by simp, HC0.out.1, HC1.out.1, HC1.out.2, HC2.out.1, HC2.out.2, Nat.le_refl _, HB0.out⟩
  case round =>
    obtain ⟨k, o, fp, hk, rfl, how, hnd, x0, x1, y1, x2, y2, hwr, hb⟩ := hrel
    obtain ⟨ao, co, rfl⟩ := Cd.ow_slice (c := tabC) how
    have HOW := Lib.hid how
    have HND := Lib.hid hnd
    have HB := Lib.hid hb
    clear c2 how hnd
    by_cases hlt : k < l.length
    · obtain ⟨b, off, cap', us, e1, _, hbB, hat, hu⟩ := Cd.sl_at (HR1.out wr HB.out) hlt
      injection e1 with e1 e2 e3
      subst e1 e3
      obtain ⟨x, y, z, rfl⟩ := len_list (tabC.len hu)
      have p0 := hat 0 (by simp)
      have p1 := hat 1 (by simp)
      have p2 := hat 2 (by simp)
      simp only [List.getElem_cons_zero, List.getElem_cons_succ, Nat.add_zero, show tabC.n = 3 from rfl] at p0 p1 p2
      have HCP := Lib.hid (copy_elem [x, y, z] l[k] _ wr hu (by have := sumN_mem wtT hlt; have := HW.out; unfold wtS at this; omega))
      have i1 : (0 : Int) ≤ (k : Int) := by omega
      have i2 : (k : Int) < (l.length : Int) := by omega
      have HX := Lib.hid (And.intro x0 (And.intro (And.intro x1 y1) (And.intro x2 y2)))
      have HWR := Lib.hid hwr
      have HTK := Lib.hid (show l.take (k + 1) = l.take k ++ [l[k]] from List.take_succ_eq_append_getElem hlt)
      have HKL := Lib.hid (show k = (l.take k).length by rw [List.length_take]; omega)
      have HLL := Lib.hid (show (l.take k).length + 1 ≤ 1000000000 by rw [List.length_take]; have := HW.out; unfold wtS at this; omega)
      have HLW := Lib.hid (show w.heap.size + 2 < W.heap.size by have := HZ.out; omega)
      clear hu hat e2 hb
      generalize l[k] = T at *
      generalize l.take k = cur at *
      go_wp2_with fail
      refine HCP.out.mono ?_
      rintro e w2 ⟨a2, c2, f2, rfl, ho2, hn2, hb2⟩
      have hs2 := hb2.size
      have d0 := (hb2.cell (World.block_lt_of_cell? wr _ HX.out.1)).trans HX.out.1
      have d2 : w2.cell? ⟨w.heap.size + 1 + 1, 0, none⟩ = some (.slice ao cur.length co) := (hb2.cell (World.block_lt_of_cell? wr _ HX.out.2.2.1)).trans HX.out.2.2.1
      have dl : w.heap.size + 1 + 1 < w2.heap.size := by have := HLW.out; have := HWR.out; omega
      have hbA := below_then (below_alloc w2 (.cells #[.string T.1, .int .i64 T.2.1, .slice a2 T.2.2.length c2] 51 (0, 0))) (below_alloc (w2.alloc (.cells #[.string T.1, .int .i64 T.2.1, .slice a2 T.2.2.length c2] 51 (0, 0))) (.cells #[.string T.1, .int .i64 T.2.1, .slice a2 T.2.2.length c2] 51 (0, 0)))
      have HOW3 := Lib.hid (Cd.ow_later (Cd.ow_later HOW.out hb2) hbA)
      have HOT := Lib.hid (tabC.ow_base (Cd.ow_later ho2 hbA) HWR.out)
      have HAT := Lib.hid (at3 (w := (w2.alloc (.cells #[.string T.1, .int .i64 T.2.1, .slice a2 T.2.2.length c2] 51 (0, 0))).alloc (.cells #[.string T.1, .int .i64 T.2.1, .slice a2 T.2.2.length c2] 51 (0, 0))) (b := w2.heap.size + 1) (by have := row_alloc (w2.alloc (.cells #[.string T.1, .int .i64 T.2.1, .slice a2 T.2.2.length c2] 51 (0, 0))) (.cells #[.string T.1, .int .i64 T.2.1, .slice a2 T.2.2.length c2] 51 (0, 0)); rw [size_alloc] at this; exact this))
      have HFAR := Lib.hid (show ∀ b ∈ f2, b ∉ fp from fun b hb q => by
        have h1 := (tabC.ow_lt ho2 b hb).1
        have h2 := ((Cd.sl _ tabC).ow_lt HOW.out b q).2
        omega)
      have HBS := Lib.hid (show W.heap.size ≤ ((w2.alloc (.cells #[.string T.1, .int .i64 T.2.1, .slice a2 T.2.2.length c2] 51 (0, 0))).alloc (.cells #[.string T.1, .int .i64 T.2.1, .slice a2 T.2.2.length c2] 51 (0, 0))).heap.size by rw [size_alloc, size_alloc]; have := HWR.out; omega)
      have HFP := Lib.hid (show ∀ b ∈ fp, W.heap.size ≤ b from fun b hb => ((Cd.sl _ tabC).ow_lt HOW.out b hb).1)
      have HB3 := Lib.hid (below_then (below_then HB.out hb2) hbA)
      have HX3 := Lib.hid (And.intro (hbA.cell (World.block_lt_of_cell? w2 _ d0) |>.trans d0) (And.intro ((hbA.cell (World.block_lt_of_cell? w2 _ d2)).trans d2) (And.intro ((hbA.cell (World.block_lt_of_cell? w2 _ ((hb2.cell (World.block_lt_of_cell? wr _ HX.out.2.1.1)).trans HX.out.2.1.1))).trans ((hb2.cell (World.block_lt_of_cell? wr _ HX.out.2.1.1)).trans HX.out.2.1.1)) (And.intro (((World.frozen?_of_block (hbA.block _ (by show w.heap.size + 1 < w2.heap.size; omega))).trans (World.frozen?_of_block (hb2.block _ (World.block_lt_of_cell? wr _ HX.out.2.1.1)))).trans HX.out.2.1.2) (((World.frozen?_of_block (hbA.block _ (by show w.heap.size + 2 < w2.heap.size; omega))).trans (World.frozen?_of_block (hb2.block _ (World.block_lt_of_cell? wr _ HX.out.2.2.1)))).trans HX.out.2.2.2)))))
      have HN2 := Lib.hid hn2
      clear ho2 hn2 hb2 hbA x0 x1 y1 x2 y2 p0 p1 p2 hs2
      go_wp2_with (at_builtin; refine Cd.wpList_appendN (c := tabC) rfl (.tmp 21) (.tmp 23) 24 rfl W.heap.size 51 (.agg #[.string ⟨#[]⟩, .int .i64 0, .slice none 0 0]) 3 48 rfl Tryz.underlying24 info_x rfl (by decide) _ cur fp rfl HOW3.out HND.out (w2.heap.size + 1) _ rfl HAT.out T f2 HOT.out HN2.out HFAR.out HLL.out HBS.out ?_)
      intro g cap4 w4 fp4 ho4 hn4 hs4 ht4
      have hn0 : ∀ k, k < W.heap.size → k ∉ fp := fun k hk q => by have := HFP.out k q; omega
      have e0 := ht4.cell HX3.out.1 (hn0 _ (by show w.heap.size < _; have := HLW.out; omega))
      have e1 := ht4.cell HX3.out.2.2.1 (hn0 _ (by show w.heap.size + 1 < _; have := HLW.out; omega))
      have e2 : w4.cell? ⟨w.heap.size + 1 + 1, 0, none⟩ = some (.slice ao cur.length co) := ht4.cell HX3.out.2.1 (hn0 _ (by show w.heap.size + 1 + 1 < _; have := HLW.out; omega))
      have g1 : w4.frozen? ⟨w.heap.size + 1, 0, none⟩ = false := (World.frozen?_of_block (ht4.block _ (by rw [size_alloc, size_alloc]; show w.heap.size + 1 < _; omega) (hn0 _ (by show w.heap.size + 1 < _; have := HLW.out; omega)))).trans HX3.out.2.2.2.1
      have g2 : w4.frozen? ⟨w.heap.size + 1 + 1, 0, none⟩ = false := (World.frozen?_of_block (ht4.block _ (by rw [size_alloc, size_alloc]; show w.heap.size + 2 < _; omega) (hn0 _ (by show w.heap.size + 2 < _; have := HLW.out; omega)))).trans HX3.out.2.2.2.2
      have HE := Lib.hid (And.intro e0 (And.intro e1 (And.intro e2 (And.intro g1 g2))))
      have HB4 := Lib.hid (ht4.below HB3.out (fun b hb => by have := HFP.out b hb; have := HLW.out; omega))
      have HO4 := Lib.hid ho4
      have HN4 := Lib.hid hn4
      have HS4 := Lib.hid (Nat.le_trans HBS.out ht4.size)
      clear ho4 hn4 hs4 ht4 hn0 e0 e1 g1
      go_wp2_with fail
      go_roundw
      case rel =>
        have hx4 : w.heap.size + 1 + 1 ∉ fp4 := fun q => by have := ((Cd.sl _ tabC).ow_lt HO4.out _ q).1; have := HLW.out; omega
        refine ⟨k + 1, .slice (some ⟨g, 0, none⟩) (cur.length + 1) cap4, fp4, by omega, by go_num, ?_, HN4.out, ?_, ?_, ?_, ?_, ?_, ?_, ?_⟩
        · rw [HTK.out]; exact ow_setCell HO4.out hx4 _
        · exact (World.cell?_setCell_other _ _ _ _ (by simp)).trans HE.out.1
        · exact (World.cell?_setCell_other _ _ _ _ (by simp)).trans HE.out.2.1
        · simpa using HE.out.2.2.2.1
        · exact World.cell?_setCell_same _ _ _ HE.out.2.2.1
        · simpa using HE.out.2.2.2.2
        · simpa using HS4.out
        · exact HB4.out.setCell (by show _ ≤ w.heap.size + 1 + 1; omega) _
      case measure => simp [intOf]; omega
    · have ek : k = l.length := by omega
      subst ek
      have HOW1 := Lib.hid (show tabsC.ow wr W.heap.size [.slice ao l.length co] l fp by have := HOW.out; rwa [List.take_length] at this)
      have HF := Lib.hid (fun b (h : b ∈ fp) => ((Cd.sl _ tabC).ow_lt HOW1.out b h).1)
      have x2' : wr.cell? ⟨w.heap.size + 1 + 1, 0, none⟩ = some (.slice ao l.length co) := by rw [List.take_length] at x2; exact x2
      clear HOW x2
      go_wp2_with fail
      have k0 : (wr.setCell ⟨w.heap.size + 1, 0, none⟩ (.slice ao l.length co)).cell? ⟨w.heap.size + 1, 0, none⟩ = some (.slice ao l.length co) :=
        World.cell?_setCell_same _ _ _ x1
      refine bodyPost_ret (v := .agg #[.slice ao l.length co]) (by simp [results, Tryz.results25, go_sem, k0]) rfl ⟨_, fp, rfl, ?_, HND.out, ?_⟩
      · exact ow_setCell (tabsC.ow_base HOW1.out (by have := HZ.out; omega)) (fun q => by have h1 : W.heap.size ≤ w.heap.size + 1 := HF.out _ q; have := HZ.out; omega) _
      · exact HB.out.setCell (by show _ ≤ w.heap.size + 1; omega) _
end Go.Proofs.YtinchhahcheadaaGreat.DbSpec

namespace Go.Proofs.YtinchhahcheadaaGreat.DbSpec
open Go Go.RowKit Byt Ints IntsLaw Cd Rows2 Tab SlMath TabOpen TabElem SlTable Db TabSpec DbMath

theorem cntRows_succ {l : List T3} {k : Nat} (h : k < l.length) : cntRows (l.take (k + 1)) = cntRows (l.take k) + (l[k]).2.2.length := sumN_succ _ h
theorem cntRows_take (l : List T3) (k : Nat) : cntRows (l.take k) ≤ cntRows l := sumN_take _ l k
theorem cntRows_le : ∀ (l : List T3), cntRows l ≤ wtS l
  | [] => by simp [cntRows, sumN]
  | T :: l => by
    have ih := cntRows_le l
    unfold wtS at *
    rw [sumN_cons, List.length_cons]
    have e : cntRows (T :: l) = T.2.2.length + cntRows l := sumN_cons _ _ _
    have : T.2.2.length ≤ wtT T := by unfold wtT tabWt rowsWt; omega
    omega
theorem rows_cell {w : World} {S : Nat → Prop} {x y z : Value} {T : T3} (h : tabC.rd w S [x, y, z] T) : ∃ a c, z = .slice a T.2.2.length c := by
  obtain ⟨u, e, _, _, h3⟩ := tab_cells h
  obtain ⟨a, c, e2, _⟩ := rows_form h3
  injection e with _ e
  injection e with _ e
  injection e with e _
  exact ⟨a, c, e.trans e2⟩


theorem copy_rows (us : List Value) (T : T3) (S : Nat → Prop) (w : World) (hu : tabC.rd w S us T) (hw : wtT T ≤ 1073741824) :
    Calls Tryz.prog 56 #[.agg us.toArray] w fun e w' => ∃ a c fp, e = .returned (.agg #[.string T.1, .int .i64 T.2.1, .slice a T.2.2.length c]) ∧ rowsC.ow w' w.heap.size [.slice a T.2.2.length c] T.2.2 fp ∧ fp.Nodup ∧ Below w.heap.size w w' := by
  obtain ⟨u, rfl, h1, h2, h3⟩ := tab_cells hu
  refine (spec_copy T.1 T.2.1 u T.2.2 S w h3 (by unfold wtT tabWt at hw; omega)).mono ?_
  rintro e w' ⟨u', fp, rfl, how, hnd, hb⟩
  obtain ⟨a, c, rfl⟩ := Cd.ow_slice how
  exact ⟨a, c, fp, rfl, how, hnd, hb⟩
def zeroT : T3 := (⟨#[]⟩, 0, [])
def lkT (l : List T3) (nm : ByteArray) : T3 := (lookL l nm).getD zeroT
theorem lk_none {l : List T3} {nm : ByteArray} (h : lookL l nm = none) : lkT l nm = zeroT := by unfold lkT; rw [h]; rfl
theorem lk_some {l : List T3} {nm : ByteArray} {T : T3} (h : lookL l nm = some T) : lkT l nm = T := by unfold lkT; rw [h]; rfl
/-- A table, and whether there is one. -/
def LookAns (l : List T3) (nm : ByteArray) (w : World) (e : Ending) (w' : World) : Prop :=
  ∃ v fp, e = .returned (.tuple #[.agg #[.string (lkT l nm).1, .int .i64 (lkT l nm).2.1, v], .bool (lookL l nm).isSome]) ∧ rowsC.ow w' w.heap.size [v] (lkT l nm).2.2 fp ∧ fp.Nodup ∧ Below w.heap.size w w'
theorem LookAns.none {l : List T3} {nm : ByteArray} {w w' : World} (h : lookL l nm = Option.none) (hb : Below w.heap.size w w') : LookAns l nm w (.returned (.tuple #[.agg #[.string ⟨#[]⟩, .int .i64 0, .slice .none 0 0], .bool false])) w' :=
  ⟨.slice .none 0 0, [], by rw [lk_none h, h]; rfl, by rw [lk_none h]; exact Cd.ow_nil _ _, by simp, hb⟩
theorem LookAns.some {l : List T3} {nm : ByteArray} {w w' : World} {T : T3} {v : Value} {fp : List Nat} (h : lookL l nm = Option.some T) (ho : rowsC.ow w' w.heap.size [v] T.2.2 fp) (hn : fp.Nodup) (hb : Below w.heap.size w w') : LookAns l nm w (.returned (.tuple #[.agg #[.string T.1, .int .i64 T.2.1, v], .bool true])) w' :=
  ⟨v, fp, by rw [lk_some h, h]; rfl, by rw [lk_some h]; exact ho, hn, hb⟩
theorem take_no {l : List T3} {nm : ByteArray} {k : Nat} (h : ∀ T ∈ l.take k, T.1 ≠ nm) (hk : k < l.length) (h0 : (l[k]).1 ≠ nm) : ∀ T ∈ l.take (k + 1), T.1 ≠ nm := by
  intro T hT
  rw [List.take_succ_eq_append_getElem hk] at hT
  rcases List.mem_append.1 hT with q | q
  · exact h T q
  · rw [List.mem_singleton.1 q]; exact h0
set_option maxRecDepth 100000 in
set_option maxHeartbeats 1600000 in
theorem spec_look (u : Value) (l : List T3) (nm : ByteArray) (S : Nat → Prop) (w : World) (h1 : tabsC.rd w S [u] l) (hw : wtS l ≤ 1048577) :
    Calls Tryz.prog 24 #[.agg #[u], .string nm] w fun e w' => LookAns l nm w e w' := by
  have HR1 := Lib.hid (fun w' (hb : Below w.heap.size w w') => Cd.later h1 hb)
  have HV := Lib.hid (fun w' (hb : Below w.heap.size w w') => spec_dbok u l S w' (Cd.later h1 hb))
  obtain ⟨a1, cap1, rfl, hl1⟩ := Cd.sl_form h1
  have HWT := Lib.hid hw
  clear h1 hw
  go_enter Tryz.func24, Tryz.ntmps24
  go_wp2_with fail
  generalize hW : (w.alloc _).alloc _ = W
  obtain ⟨r0, r1, hz, hb0⟩ := start2g w _ _ hW
  have c0 := (row1 r0).1
  have HC0 := Lib.hid (row1 r0).1
  have HC1 := Lib.hid r1
  have HZZ := Lib.hid hz
  have HB0 := Lib.hid hb0
  clear hW r0 r1 hz hb0
  go_loopw [6] (fun i wr => ∃ k : Nat, k ≤ l.length ∧ i = .int .i64 k ∧ (dbOk l = false → k = 0) ∧ (∀ T ∈ l.take k, T.1 ≠ nm) ∧ Below W.heap.size W wr) (fun i _ => l.length - (intOf i).toNat)
  case atStart => exact ⟨0, Nat.zero_le _, rfl, fun _ => rfl, by simp, Below.refl _ _⟩
  case round =>
    obtain ⟨k, hk, rfl, h0, hno, hb⟩ := hrel
    have x0 := (hb.cell (p := ⟨w.heap.size, 0, none⟩) (by have := HZZ.out; show w.heap.size < _; omega)).trans HC0.out
    have HC1' := Lib.hid ((hb.block (w.heap.size + 1) (by have := HZZ.out; omega)).trans HC1.out)
    have HK0 := Lib.hid h0
    have HNO := Lib.hid hno
    have HBW := Lib.hid (below_then HB0.out hb)
    have HWR := Lib.hid hb
    have HX0 := Lib.hid x0
    have HXL := Lib.hid (show w.heap.size + 1 < wr.heap.size by have := HZZ.out; have := hb.size; omega)
    clear c0 h0 hno
    by_cases hlt : k < l.length
    · obtain ⟨b, off, cap', us, e1, _, hbB, hat, hu⟩ := Cd.sl_at (HR1.out wr HBW.out) hlt
      injection e1 with e1 e2 e3
      subst e1 e3
      obtain ⟨x, y, z, rfl⟩ := len_list (tabC.len hu)
      have p0 := hat 0 (by simp)
      have p1 := hat 1 (by simp)
      have p2 := hat 2 (by simp)
      simp only [List.getElem_cons_zero, List.getElem_cons_succ, Nat.add_zero, show tabC.n = 3 from rfl] at p0 p1 p2
      have ht3 : wtT l[k] ≤ 1073741824 := by have := sumN_mem wtT hlt; have := HWT.out; unfold wtS at this; omega
      have HCP := Lib.hid (fun w' (hq : LaterD wr w') => copy_rows [x, y, z] l[k] _ w' (Cd.later hu hq) ht3)
      have hx := name_cell hu
      have HAT := Lib.hid (And.intro p0 (And.intro p1 (And.intro p2 hbB)))
      have HF1 := Lib.hid (fun e : (l[k]).1 = nm => findN_at hlt HNO.out e)
      have HF0 := Lib.hid (fun e : (l[k]).1 ≠ nm => take_no HNO.out hlt e)
      have i1 : (0 : Int) ≤ (k : Int) := by omega
      have i2 : (k : Int) < (l.length : Int) := by omega
      clear hu hat hbB e2 p0 p1 p2 ht3
      generalize l[k] = T at *
      subst hx
      go_wp2_with fail
      refine (HV.out _ HBW.out).mono ?_
      rintro e w2 ⟨rfl, hb2⟩
      have y0 := (hb2.cell (p := ⟨w.heap.size, 0, none⟩) (by have := HXL.out; show w.heap.size < _; omega)).trans HX0.out
      have q0 := (hb2.cell (p := ⟨b, off + k * 3, none⟩) HAT.out.2.2.2).trans HAT.out.1
      have q1 := (hb2.cell (p := ⟨b, off + k * 3 + 1, none⟩) HAT.out.2.2.2).trans HAT.out.2.1
      have q2 := (hb2.cell (p := ⟨b, off + k * 3 + 2, none⟩) HAT.out.2.2.2).trans HAT.out.2.2.1
      have HB2 := Lib.hid (below_then HBW.out hb2)
      have HB3 := Lib.hid (below_then HWR.out hb2)
      have HC2 := Lib.hid ((hb2.block (w.heap.size + 1) HXL.out).trans HC1'.out)
      have HD2 := Lib.hid (show LaterD wr w2 from hb2)
      have HS2 := Lib.hid (show w.heap.size + 1 < w2.heap.size by have := HXL.out; have := hb2.size; omega)
      clear hb2
      cases hv : dbOk l
      · have HZ := Lib.hid (show lookL l nm = none by unfold lookL; rw [hv]; rfl)
        obtain ⟨m0, m1, m2, f0, f1, f2⟩ := row3 HC2.out
        go_wp2_with fail
        have G0 := set3 (w := w2) (k := w.heap.size + 1) (x := .string ⟨#[]⟩) (y := .int .i64 0) (z := .slice none 0 0) m0 m1 m2
        refine bodyPost_ret (v := .tuple #[.agg #[.string ⟨#[]⟩, .int .i64 0, .slice none 0 0], .bool false]) (by simp [results, Tryz.results24, go_sem, G0.1, G0.2.1, G0.2.2]) rfl (LookAns.none HZ.out ?_)
        exact ((HB2.out.setCell (by show _ ≤ w.heap.size + 1; omega) _).setCell (by show _ ≤ w.heap.size + 1; omega) _).setCell (by show _ ≤ w.heap.size + 1; omega) _
      · have HV2 := Lib.hid hv
        by_cases he : T.1 = nm
        · have HZ := Lib.hid (show lookL l nm = some T by unfold lookL; rw [hv]; exact HF1.out he)
          have he2 : (T.1.toList == nm.toList) = true := by rw [eqB]; exact decide_eq_true he
          clear he
          go_wp2_with fail
          refine (HCP.out _ HD2.out).mono ?_
          rintro e w3 ⟨a3, c3, fp, rfl, ho, hn, hb3⟩
          have HB4 := Lib.hid (below_then HB2.out hb3)
          obtain ⟨m0, m1, m2, f0, f1, f2⟩ := row3 ((hb3.block (w.heap.size + 1) HS2.out).trans HC2.out)
          have HO := Lib.hid ho
          have HN := Lib.hid hn
          clear ho hn hb3
          go_wp2_with fail
          have G0 := set3 (w := w3) (k := w.heap.size + 1) (x := .string T.1) (y := .int .i64 T.2.1) (z := .slice a3 T.2.2.length c3) m0 m1 m2
          have hfar : w.heap.size + 1 ∉ fp := fun q => by have := (rowsC.ow_lt HO.out _ q).1; have := HS2.out; omega
          refine bodyPost_ret (v := .tuple #[.agg #[.string T.1, .int .i64 T.2.1, .slice a3 T.2.2.length c3], .bool true]) (by simp [results, Tryz.results24, go_sem, G0.1, G0.2.1, G0.2.2]) rfl (LookAns.some HZ.out ?_ HN.out ?_)
          · exact ow_setCell (ow_setCell (ow_setCell (rowsC.ow_base HO.out (by have := HS2.out; omega)) hfar _) hfar _) hfar _
          · exact ((HB4.out.setCell (by show _ ≤ w.heap.size + 1; omega) _).setCell (by show _ ≤ w.heap.size + 1; omega) _).setCell (by show _ ≤ w.heap.size + 1; omega) _
        · have HF := Lib.hid (HF0.out he)
          have he2 : (T.1.toList == nm.toList) = false := by rw [eqB]; exact decide_eq_false he
          clear he
          go_wp2_with fail
          go_roundw
          case rel => exact ⟨k + 1, by omega, by go_num, (fun q => by rw [HV2.out] at q; cases q), HF.out, HB3.out⟩
          case measure => simp [intOf]; omega
    · have ek : k = l.length := by omega
      subst ek
      have HZ := Lib.hid (show lookL l nm = none by
        unfold lookL
        cases hv : dbOk l
        · rfl
        · have := HNO.out; rw [List.take_length] at this; exact findN_none.2 this)
      obtain ⟨m0, m1, m2, f0, f1, f2⟩ := row3 HC1'.out
      go_wp2_with fail
      have G0 := set3 (w := wr) (k := w.heap.size + 1) (x := .string ⟨#[]⟩) (y := .int .i64 0) (z := .slice none 0 0) m0 m1 m2
      refine bodyPost_ret (v := .tuple #[.agg #[.string ⟨#[]⟩, .int .i64 0, .slice none 0 0], .bool false]) (by simp [results, Tryz.results24, go_sem, G0.1, G0.2.1, G0.2.2]) rfl (LookAns.none HZ.out ?_)
      exact ((HBW.out.setCell (by show _ ≤ w.heap.size + 1; omega) _).setCell (by show _ ≤ w.heap.size + 1; omega) _).setCell (by show _ ≤ w.heap.size + 1; omega) _
end Go.Proofs.YtinchhahcheadaaGreat.DbSpec

namespace Go.Proofs.YtinchhahcheadaaGreat.DbExact
open Go Go.RowKit Byt Ints IntsLaw Cd Rows2 Tab TabSpec Exact SlMath TabOpen TabElem Mark SlTable Db

structure Loc1 (w : World) (X : Nat) (a : Value) : Prop where
  c0 : w.cell? ⟨X, 0, none⟩ = some a
  f0 : w.frozen? ⟨X, 0, none⟩ = false
theorem Loc1.of {w : World} {X : Nat} {a : Value} {e : TypeId} (h : w.heap[X]? = some (.cells #[a] e (0, 0))) : Loc1 w X a := ⟨by simp [World.cell?, h], by simp [World.frozen?, h]⟩
theorem Loc1.keep {w w' : World} {X : Nat} {a : Value} (h : Loc1 w X a) (hk : w'.heap[X]? = w.heap[X]?) : Loc1 w' X a :=
  ⟨(World.cell?_of_block (w := w) (a := ⟨X, 0, none⟩) hk).trans h.c0, (World.frozen?_of_block (w := w) (a := ⟨X, 0, none⟩) hk).trans h.f0⟩
theorem Loc1.lt {w : World} {X : Nat} {a : Value} (h : Loc1 w X a) : X < w.heap.size := World.block_lt_of_cell? w _ h.c0
theorem Loc1.touched {w w' : World} {X : Nat} {a : Value} {fp : List Nat} (h : Loc1 w X a) (ht : Cd.Touch fp w w') (hn : X ∉ fp) : Loc1 w' X a := h.keep (ht.block X h.lt hn)
theorem Loc1.later {w w' : World} {X : Nat} {a : Value} (h : Loc1 w X a) (hb : Below w.heap.size w w') : Loc1 w' X a := h.keep (hb.block X h.lt)
theorem Loc1.set {w : World} {X : Nat} {a : Value} (h : Loc1 w X a) (v : Value) : Loc1 (w.setCell ⟨X, 0, none⟩ v) X v := ⟨World.cell?_setCell_same _ _ _ h.c0, by simpa using h.f0⟩
theorem Loc1.set_far {w : World} {X : Nat} {a : Value} (h : Loc1 w X a) {p : Addr} (hp : p.block ≠ X) (v : Value) : Loc1 (w.setCell p v) X a := h.keep (Below.heap_setCell w p v X (fun q => hp q.symm))
theorem Loc1.drew {w : World} {X : Nat} {a : Value} (h : Loc1 w X a) : Loc1 w.drew X a := ⟨h.c0, h.f0⟩

theorem cnt_le : ∀ (l : List T3), sumN cntT l ≤ 2 * wtS l
  | [] => by simp [sumN]
  | T :: l => by
    have ih := cnt_le l
    unfold wtS at *
    rw [sumN_cons, sumN_cons, List.length_cons]
    have : cntT T ≤ 2 + wtT T := by unfold cntT wtT tabWt rowsWt; omega
    omega
theorem rows_le {l : List T3} {T : T3} (h : T ∈ l) : T.2.2.flatten.length ≤ wtS l := by
  obtain ⟨k, hk, rfl⟩ := List.getElem_of_mem h
  have h1 := sumN_mem wtT hk
  have h2 : (l[k]).2.2.flatten.length ≤ wtT l[k] := by unfold wtT tabWt rowsWt; omega
  unfold wtS
  omega
theorem cnts_of {l : List T3} (h : wtS l ≤ 1048576) : sumN cntT l ≤ 4194308 ∧ ∀ T ∈ l, T.2.2.flatten.length ≤ 1048577 :=
  ⟨by have := cnt_le l; omega, fun T hT => by have := rows_le hT; omega⟩
end Go.Proofs.YtinchhahcheadaaGreat.DbExact

namespace Go.Proofs.YtinchhahcheadaaGreat.DbAcc
open Go Go.RowKit Byt Ints IntsLaw Cd Rows2 Tab SlMath TabOpen TabElem SlTable Db TabSpec DbMath DbSpec DbExact

/-- Behind wF, all but block X is as it was there; X holds a slice that owns cur. -/
structure AccS (wF wr : World) (X : Nat) (cur : List T3) (a : Option Addr) (c : Nat) (fp : List Nat) : Prop where
  cell : wr.cell? ⟨X, 0, none⟩ = some (.slice a cur.length c)
  fz : wr.frozen? ⟨X, 0, none⟩ = false
  ow : tabsC.ow wr wF.heap.size [.slice a cur.length c] cur fp
  nd : fp.Nodup
  tou : Cd.Touch [X] wF wr
  xb : X < wF.heap.size
theorem AccS.sz {wF wr : World} {X c : Nat} {cur : List T3} {a : Option Addr} {fp : List Nat} (h : AccS wF wr X cur a c fp) : wF.heap.size ≤ wr.heap.size := h.tou.size
theorem AccS.start {wF : World} {X : Nat} {e : TypeId} (h : wF.heap[X]? = some (.cells #[.slice none 0 0] e (0, 0))) : AccS wF wF X [] none 0 [] :=
  ⟨by simp [World.cell?, h], by simp [World.frozen?, h], Cd.ow_nil _ _, by simp, Cd.Touch.refl _ _, (Array.getElem?_eq_some_iff.1 h).1⟩
theorem AccS.start' {wF : World} {X : Nat} (h : Loc1 wF X (.slice none 0 0)) : AccS wF wF X [] none 0 [] :=
  ⟨h.c0, h.f0, Cd.ow_nil _ _, by simp, Cd.Touch.refl _ _, h.lt⟩
theorem AccS.later {wF wr w' : World} {X c : Nat} {cur : List T3} {a : Option Addr} {fp : List Nat} (h : AccS wF wr X cur a c fp) (hb : Below wr.heap.size wr w') : AccS wF w' X cur a c fp :=
  ⟨(hb.cell (World.block_lt_of_cell? wr _ h.cell)).trans h.cell, (World.frozen?_of_block (hb.block _ (World.block_lt_of_cell? wr _ h.cell))).trans h.fz, Cd.ow_later h.ow hb, h.nd, h.tou.trans (Cd.Touch.of_below hb), h.xb⟩
theorem AccS.block {wF wr : World} {X c : Nat} {cur : List T3} {a : Option Addr} {fp : List Nat} (h : AccS wF wr X cur a c fp) {k : Nat} (hk : k < wF.heap.size) (hx : k ≠ X) : wr.heap[k]? = wF.heap[k]? := h.tou.block k hk (by simpa using hx)
theorem AccS.get {wF wr : World} {X c : Nat} {cur : List T3} {a : Option Addr} {fp : List Nat} (h : AccS wF wr X cur a c fp) {p : Addr} {v : Value} (hc : wF.cell? p = some v) (hx : p.block ≠ X) : wr.cell? p = some v := h.tou.cell hc (by simpa using hx)
theorem AccS.loc1 {wF wr : World} {X Y c : Nat} {cur : List T3} {a : Option Addr} {fp : List Nat} {v : Value} (h : AccS wF wr X cur a c fp) (hl : Loc1 wF Y v) (hx : Y ≠ X) : Loc1 wr Y v := hl.touched h.tou (by simpa using hx)
theorem AccS.loc3 {wF wr : World} {X Y c : Nat} {cur : List T3} {a : Option Addr} {fp : List Nat} {x y z : Value} (h : AccS wF wr X cur a c fp) (hl : Loc3 wF Y x y z) (hx : Y ≠ X) : Loc3 wr Y x y z := hl.touched h.tou (by simpa using hx)
theorem AccS.below {w wF wr : World} {X c : Nat} {cur : List T3} {a : Option Addr} {fp : List Nat} (h : AccS wF wr X cur a c fp) (hb : Below w.heap.size w wF) (hx : w.heap.size ≤ X) : Below w.heap.size w wr :=
  Cd.Touch.below hb h.tou (fun b hb => by rw [List.mem_singleton.1 hb]; exact hx)
theorem AccS.shift {wF wr : World} {X c : Nat} {cur cur' : List T3} {a : Option Addr} {fp : List Nat} (h : AccS wF wr X cur a c fp) (e : cur = cur') : AccS wF wr X cur' a c fp := e ▸ h
/-- A store into another block that the function made behind wF. -/
theorem AccS.far {wF wr : World} {X c : Nat} {cur : List T3} {a : Option Addr} {fp : List Nat} (h : AccS wF wr X cur a c fp) {p : Addr} (hp : wF.heap.size ≤ p.block) (hn : p.block ∉ fp) (v : Value) : AccS wF (wr.setCell p v) X cur a c fp :=
  ⟨(World.cell?_setCell_other _ _ _ _ (by intro q; have e := congrArg Addr.block q; simp only at e; have := h.xb; omega)).trans h.cell, by simpa using h.fz, ow_setCell h.ow hn v, h.nd,
    ⟨h.tou.os, h.tou.tape, h.tou.output, by simpa using h.tou.size, fun k hk hn => (Below.heap_setCell wr p v k (by omega)).trans (h.tou.block k hk hn)⟩, h.xb⟩
/-- Behind an append and the store of the new slice. -/
theorem AccS.app {wF w3 w4 : World} {X c : Nat} {cur cur' : List T3} {a : Option Addr} {fp fp4 : List Nat} (h : AccS wF w3 X cur a c fp) {g n cap : Nat} (he : n = cur'.length) (ht : Cd.Touch fp w3 w4) (ho : tabsC.ow w4 wF.heap.size [.slice (some ⟨g, 0, none⟩) n cap] cur' fp4) (hn : fp4.Nodup) :
    AccS wF (w4.setCell ⟨X, 0, none⟩ (.slice (some ⟨g, 0, none⟩) n cap)) X cur' (some ⟨g, 0, none⟩) cap fp4 := by
  subst he
  have hx : X ∉ fp := fun q => by have := ((Cd.sl _ tabC).ow_lt h.ow _ q).1; have := h.xb; omega
  have hx4 : X ∉ fp4 := fun q => by have := ((Cd.sl _ tabC).ow_lt ho _ q).1; have := h.xb; omega
  have hl : X < w3.heap.size := World.block_lt_of_cell? w3 _ h.cell
  refine ⟨World.cell?_setCell_same _ _ _ (ht.cell h.cell hx), ?_, ow_setCell ho hx4 _, hn, ?_, h.xb⟩
  · simpa using (World.frozen?_of_block (ht.block _ hl hx)).trans h.fz
  · have hs := h.sz
    refine ⟨ht.os.trans h.tou.os, ht.tape.trans h.tou.tape, ht.output.trans h.tou.output, by simpa using Nat.le_trans hs ht.size, fun k hk hn => ?_⟩
    have hk0 : k ∉ fp := fun q => by have := ((Cd.sl _ tabC).ow_lt h.ow _ q).1; omega
    rw [Below.heap_setCell w4 _ _ k (by simpa using hn)]
    exact (ht.block k (by omega) hk0).trans (h.tou.block k hk hn)
theorem AccS.fcell {wF w3 w4 : World} {X c : Nat} {cur : List T3} {a : Option Addr} {fp : List Nat} (h : AccS wF w3 X cur a c fp) (ht : Cd.Touch fp w3 w4) : w4.cell? ⟨X, 0, none⟩ = some (.slice a cur.length c) ∧ w4.frozen? ⟨X, 0, none⟩ = false := by
  have hx : X ∉ fp := fun q => by have := ((Cd.sl _ tabC).ow_lt h.ow _ q).1; have := h.xb; omega
  exact ⟨ht.cell h.cell hx, (World.frozen?_of_block (ht.block _ (World.block_lt_of_cell? w3 _ h.cell) hx)).trans h.fz⟩

/-- A database and a yes or no. -/
def DbAns (l : List T3) (b : Bool) (w : World) (e : Ending) (w' : World) : Prop :=
  ∃ u fp, e = .returned (.tuple #[.agg #[u], .bool b]) ∧ tabsC.ow w' w.heap.size [u] l fp ∧ fp.Nodup ∧ Below w.heap.size w w'
/-- What was gathered is stored in the cell of the result. -/
theorem AccS.ans {w wF wr : World} {X Y c : Nat} {cur : List T3} {a : Option Addr} {fp : List Nat} (h : AccS wF wr X cur a c fp) (hb : Below w.heap.size w wF) (hx : w.heap.size ≤ X) (hY : w.heap.size ≤ Y) (hYF : Y < wF.heap.size) {l : List T3} {b : Bool} (el : cur = l) (eb : b = true) :
    DbAns l b w (.returned (.tuple #[.agg #[.slice a cur.length c], .bool true])) (wr.setCell ⟨Y, 0, none⟩ (.slice a cur.length c)) := by
  subst el eb
  exact ⟨_, fp, rfl, ow_setCell ((Cd.sl _ tabC).ow_base h.ow hb.size) (fun q => by have := ((Cd.sl _ tabC).ow_lt h.ow _ q).1; simp only at this; omega) _, h.nd, (h.below hb hx).setCell hY _⟩
/-- A copy is stored in the cell of the result. -/
theorem DbAns.copy {w w1 w2 : World} {Y : Nat} {l l' : List T3} {u : Value} {fp : List Nat} (ho : tabsC.ow w2 w1.heap.size [u] l fp) (hn : fp.Nodup) (hb1 : Below w.heap.size w w1) (hb : Below w1.heap.size w1 w2) (hY : w.heap.size ≤ Y) (hY1 : Y < w1.heap.size) {b : Bool} (el : l = l') (eb : b = false) :
    DbAns l' b w (.returned (.tuple #[.agg #[u], .bool false])) (w2.setCell ⟨Y, 0, none⟩ u) := by
  subst el eb
  exact ⟨_, fp, rfl, ow_setCell ((Cd.sl _ tabC).ow_base ho hb1.size) (fun q => by have := ((Cd.sl _ tabC).ow_lt ho _ q).1; simp only at this; omega) _, hn, (below_then hb1 hb).setCell hY _⟩
theorem loc1_at {w w1 : World} {k : Nat} {v : Value} {e : TypeId} (h : w.heap[k]? = some (.cells #[v] e (0, 0))) (hb : Below w.heap.size w w1) : Loc1 w1 k v := (Loc1.of h).later hb
theorem remL_eq {l : List T3} {nm : ByteArray} {k : Nat} (hk : k < l.length) (h : (l[k]).1 = nm) : remL (l.take (k + 1)) nm = remL (l.take k) nm := by
  unfold remL
  rw [List.take_succ_eq_append_getElem hk, List.filter_append]
  simp [h]
theorem remL_ne {l : List T3} {nm : ByteArray} {k : Nat} (hk : k < l.length) (h : (l[k]).1 ≠ nm) : remL (l.take (k + 1)) nm = remL (l.take k) nm ++ [l[k]] := by
  unfold remL
  rw [List.take_succ_eq_append_getElem hk, List.filter_append]
  simp [h]
theorem remL_len (l : List T3) (nm : ByteArray) : (remL l nm).length ≤ l.length := List.length_filter_le _ _

/-- A table copied and laid in two cells of its own, to be appended. -/
structure Laid (wF w3 : World) (b : Nat) (us : List Value) (T : T3) (f fp : List Nat) : Prop where
  at_ : Cd.At w3 b 0 us
  ow : tabC.ow w3 wF.heap.size us T f
  nd : f.Nodup
  far : ∀ b ∈ f, b ∉ fp
theorem AccS.laid {wF wr w2 : World} {X c : Nat} {cur : List T3} {a : Option Addr} {fp : List Nat} (h : AccS wF wr X cur a c fp) (hb : Below wr.heap.size wr w2) {x y z : Value} {T : T3} {f : List Nat} (ho : tabC.ow w2 wr.heap.size [x, y, z] T f) (hn : f.Nodup) (e : TypeId) :
    AccS wF ((w2.alloc (.cells #[x, y, z] e (0, 0))).alloc (.cells #[x, y, z] e (0, 0))) X cur a c fp ∧ Laid wF ((w2.alloc (.cells #[x, y, z] e (0, 0))).alloc (.cells #[x, y, z] e (0, 0))) (w2.heap.size + 1) [x, y, z] T f fp := by
  have hbA := below_then (below_alloc w2 (.cells #[x, y, z] e (0, 0))) (below_alloc (w2.alloc (.cells #[x, y, z] e (0, 0))) (.cells #[x, y, z] e (0, 0)))
  refine ⟨(h.later hb).later hbA, ?_, tabC.ow_base (Cd.ow_later ho hbA) h.sz, hn, fun b hb q => ?_⟩
  · exact at3 (by have := row_alloc (w2.alloc (.cells #[x, y, z] e (0, 0))) (.cells #[x, y, z] e (0, 0)); rw [size_alloc] at this; exact this)
  · have h1 := (tabC.ow_lt ho b hb).1
    have h2 := ((Cd.sl _ tabC).ow_lt h.ow b q).2
    omega
end Go.Proofs.YtinchhahcheadaaGreat.DbAcc

namespace Go.Proofs.YtinchhahcheadaaGreat.IntsWalk
open Go Go.RowKit Byt Ints IntsLaw

/-- v's own block, if it has one, lies from lo on and below hi. -/
def Bk (v : Value) (lo hi : Nat) : Prop := ∀ k, v.ownBlock = some k → lo ≤ k ∧ k < hi
theorem bk_of {w : World} {base : Nat} {e : TypeId} {v : Value} {l : List Int} (h : OwnI w base e v l) : Bk v base w.heap.size := fun k hk => World.ownsRow.lt h k hk
theorem apart {u v : Value} {a b c d : Nat} (hu : Bk u a b) (hv : Bk v c d) (h : b ≤ c ∨ d ≤ a) : u.ownBlock = none ∨ u.ownBlock ≠ v.ownBlock := by
  cases e : u.ownBlock with
  | none => exact .inl rfl
  | some k =>
    refine .inr fun q => ?_
    have h1 := hu k e
    have h2 := hv k q.symm
    omega
theorem kept_mark {w w' : World} {base : Nat} {e : TypeId} {u v : Value} {l : List Int} (h : OwnI w base e u l) (hg : w.grownBy w' v.ownBlock) (hne : u.ownBlock = none ∨ u.ownBlock ≠ v.ownBlock) : OwnI w' base e u l :=
  World.ownsRow.kept h hg hne
theorem below_mark {w0 w w' : World} {v : Value} {lo hi : Nat} (h : Below w0.heap.size w0 w) (hg : w.grownBy w' v.ownBlock) (hb : Bk v lo hi) (hlo : w0.heap.size ≤ lo) : Below w0.heap.size w0 w' :=
  h.grown hg h.size (fun k hk => Nat.le_trans hlo (hb k hk).1)
theorem below_then {w a b : World} (h : Below w.heap.size w a) (k : Below a.heap.size a b) : Below w.heap.size w b := h.trans (k.mono h.size)
theorem dec_same (l : List Int) : decide (l = l) = true := decide_eq_true rfl
end Go.Proofs.YtinchhahcheadaaGreat.IntsWalk

namespace Go.Proofs.YtinchhahcheadaaGreat.Draw
open Go Go.RowKit Byt

/-- Block c is a cursor over v, which has l's length. -/
def Cur (w : World) (c : Nat) (v : Value) (l : List UInt8) : Prop :=
  ∃ (i : Nat) (h : Int), i ≤ l.length ∧ w.heap[c]? = some (.cells #[v, .int .i64 i, .int .i64 h] 91 (0, 0))

theorem Cur.kept {w w' : World} {c : Nat} {v : Value} {l : List UInt8} {row : Option Nat} (h : Cur w c v l) (hg : w.grownBy w' row) (hne : some c ≠ row) : Cur w' c v l := by
  obtain ⟨i, x, hi, hh⟩ := h
  exact ⟨i, x, hi, by rw [hg.block c (Array.getElem?_eq_some_iff.1 hh).1 hne]; exact hh⟩

theorem cur_size {w : World} {c : Nat} {v : Value} {l : List UInt8} (h : Cur w c v l) : c < w.heap.size := by
  obtain ⟨i, x, hi, hh⟩ := h
  exact (Array.getElem?_eq_some_iff.1 hh).1

theorem cur_set {w : World} {c j : Nat} {cs : Array Value} {T : TypeId} {u : Value} (h : w.heap[c]? = some (.cells cs T (0, 0))) :
    (w.setCell ⟨c, j, none⟩ u).heap[c]? = some (.cells (cs.setIfInBounds j u) T (0, 0)) ∧ w.grownBy (w.setCell ⟨c, j, none⟩ u) (some c) :=
  ⟨heap_setCell_same w c j cs T u h, ⟨rfl, rfl, rfl, by simp, fun k _ hk => heap_setCell_other w ⟨c, j, none⟩ k u (fun e => hk (by simp [e]))⟩⟩

theorem grown_trans {a b c : World} {row : Option Nat} (h : a.grownBy b row) (k : b.grownBy c row) : a.grownBy c row :=
  ⟨k.os.trans h.os, k.tape.trans h.tape, k.output.trans h.output, Nat.le_trans h.size k.size, fun i hi hne => (k.block i (Nat.lt_of_lt_of_le hi h.size) hne).trans (h.block i hi hne)⟩

theorem info_u8 : (Tryz.prog.info? 5).map (fun i => (i.zero, i.size, i.bytes)) = some (some (.int .u8 0), 1, 1) := by kernel_rfl

theorem below_of {w w' : World} {c B : Nat} (h : w.grownBy w' (some c)) (hB : B ≤ c) (hc : c < w.heap.size) : Below B w w' :=
  ⟨h.os, h.tape, h.output, h.size, fun k hk => h.block k (by omega) (by intro q; injection q with q; omega)⟩

theorem low8 (x : Int) : ∃ n : Nat, bits .and .i64 x 255 = (n : Int) ∧ n < 256 := by
  have h : bits .and .i64 x 255 = IntKind.i64.wrap (((BitVec.ofInt 64 x &&& BitVec.ofInt 64 255).toNat : Nat) : Int) := rfl
  have hb : (BitVec.ofInt 64 x &&& BitVec.ofInt 64 255).toNat < 256 := by
    rw [BitVec.toNat_and]
    have : (BitVec.ofInt 64 255).toNat = 255 := by decide
    rw [this]
    exact Nat.lt_of_le_of_lt Nat.and_le_right (by decide)
  refine ⟨_, ?_, hb⟩
  rw [h, IntKind.wrap_i64]
  omega

set_option maxRecDepth 100000 in
set_option maxHeartbeats 800000 in
theorem byte_any (c : Nat) (v : Value) (l : List UInt8) (B : Nat) (w : World) (hc : Cur w c v l) (hr : Reads w v l B) (hB : B ≤ c) :
    Calls Tryz.prog 82 #[.pointer (some ⟨c, 0, none⟩)] w fun e w' => ∃ x : Nat, e = .returned (.int .i64 x) ∧ x < 256 ∧ Cur w' c v l ∧ w.grownBy w' (some c) := by
  obtain ⟨i, h, hi, hh⟩ := hc
  obtain ⟨a, cap, rfl, hl, hcase⟩ := hr
  have c0 := cell_of_row w c 0 _ _ _ hh
  have c1 := cell_of_row w c 1 _ _ _ hh
  have c2 := cell_of_row w c 2 _ _ _ hh
  have f1 := frozen_of_row w c 1 _ _ hh
  have f2 := frozen_of_row w c 2 _ _ hh
  simp only [List.getElem?_toArray, List.getElem?_cons_zero, List.getElem?_cons_succ] at c0 c1 c2
  by_cases hlt : i < l.length
  · rcases hcase with hnil | ⟨b, off, rfl, hbB, hcell⟩
    · subst hnil; simp at hlt
    have cb := hcell i hlt
    go_enter Tryz.func82, Tryz.ntmps82
    go_wp2
    generalize wrap64 (wrap64 (h * 6364136223846793005) + 1442695040888963407) = h1
    obtain ⟨hh1, g1⟩ := cur_set (j := 2) (u := .int .i64 h1) hh
    have cb1 := (g1.cell cb (by intro q; injection q with q; simp only at q; omega))
    generalize w.setCell ⟨c, 2, none⟩ (.int .i64 h1) = w1 at *
    have G1 := Lib.hid g1
    clear g1 c0 c1 c2 f1 f2 cb hh hcell
    have c0 := cell_of_row w1 c 0 _ _ _ hh1
    have c1 := cell_of_row w1 c 1 _ _ _ hh1
    have c2 := cell_of_row w1 c 2 _ _ _ hh1
    have f1 := frozen_of_row w1 c 1 _ _ hh1
    simp only [List.setIfInBounds_toArray, List.set_cons_succ, List.set_cons_zero, List.getElem?_toArray, List.getElem?_cons_zero, List.getElem?_cons_succ] at c0 c1 c2
    have HH := Lib.hid hh1
    clear hh1
    go_quiet (fail)
    go_wp2
    obtain ⟨x, hx, hx256⟩ := low8 (bits BinOp.xor IntKind.i64 (h1 / 8589934592) (h1 / 35184372088832))
    rw [hx]
    clear hx
    have p1 : (0 : Int) ≤ (i : Int) := by omega
    have p2 : (i : Int) < (l.length : Int) := by omega
    go_quiet (fail)
    go_wp2
    go_quiet (fail)
    go_wp2
    go_ret
    obtain ⟨y, hy, hy2⟩ := low8 (wrap64 ((x : Int) + wrap64 (l[i].toNat : Int)))
    refine ⟨y, ret_int hy, hy2, ?_, ?_⟩
    · refine ⟨i + 1, h1, hlt, ?_⟩
      have := (cur_set (j := 1) (u := .int .i64 ((i : Int) + 1)) HH.out).1
      show (w1.setCell _ _).heap[c]? = _
      simpa using this
    · have k := (cur_set (j := 1) (u := .int .i64 ((i : Int) + 1)) HH.out).2
      exact grown_trans G1.out ⟨k.os, k.tape, k.output, k.size, k.block⟩
  · go_enter Tryz.func82, Tryz.ntmps82
    go_wp2
    generalize wrap64 (wrap64 (h * 6364136223846793005) + 1442695040888963407) = h1
    obtain ⟨hh1, g1⟩ := cur_set (j := 2) (u := .int .i64 h1) hh
    generalize w.setCell ⟨c, 2, none⟩ (.int .i64 h1) = w1 at *
    have G1 := Lib.hid g1
    clear g1 c0 c1 c2 f1 f2 hh hcase
    have c0 := cell_of_row w1 c 0 _ _ _ hh1
    have c1 := cell_of_row w1 c 1 _ _ _ hh1
    have c2 := cell_of_row w1 c 2 _ _ _ hh1
    simp only [List.setIfInBounds_toArray, List.set_cons_succ, List.set_cons_zero, List.getElem?_toArray, List.getElem?_cons_zero, List.getElem?_cons_succ] at c0 c1 c2
    have HH := Lib.hid hh1
    clear hh1
    go_quiet (fail)
    go_wp2
    obtain ⟨x, hx, hx256⟩ := low8 (bits BinOp.xor IntKind.i64 (h1 / 8589934592) (h1 / 35184372088832))
    rw [hx]
    clear hx
    go_quiet (fail)
    go_wp2
    go_ret
    refine ⟨x, rfl, hx256, ⟨i, h1, hi, ?_⟩, ?_⟩
    · have := HH.out
      simpa using this
    · exact grown_trans G1.out ⟨rfl, rfl, rfl, Nat.le_refl _, fun _ _ _ => rfl⟩

set_option maxRecDepth 100000 in
set_option maxHeartbeats 800000 in
/-- A draw below n: from 0 to n - 1; 0 where n is not positive. -/
theorem below_any (n : Int) (c : Nat) (v : Value) (l : List UInt8) (B : Nat) (w : World) (hc : Cur w c v l) (hr : Reads w v l B) (hB : B ≤ c) :
    Calls Tryz.prog 64 #[.pointer (some ⟨c, 0, none⟩), .int .i64 n] w fun e w' => ∃ x : Int, e = .returned (.int .i64 x) ∧ 0 ≤ x ∧ (0 < n → x < n) ∧ Cur w' c v l ∧ w.grownBy w' (some c) := by
  by_cases h0 : n ≤ 0
  · go_enter Tryz.func64, Tryz.ntmps64
    go_wp2
    go_ret
    exact ⟨0, rfl, Int.le_refl _, fun h => by omega, hc, ⟨rfl, rfl, rfl, Nat.le_refl _, fun _ _ _ => rfl⟩⟩
  · have hnp : 0 < n := by omega
    by_cases h256 : n ≤ 256
    · have hby := Lib.hid (byte_any c v l B w hc hr hB)
      go_enter Tryz.func64, Tryz.ntmps64
      go_wp2_with (go_at_call 82; refine hby.out.mono ?_; rintro e w1 ⟨x, rfl, hx, hc1, hg1⟩)
      go_ret
      exact ⟨(x : Int) % n, rfl, Int.emod_nonneg _ (by omega), fun _ => Int.emod_lt_of_pos _ hnp, hc1, hg1⟩
    · go_enter Tryz.func64, Tryz.ntmps64
      go_wp2_with fail
      refine (byte_any c v l B w hc hr hB).mono ?_
      rintro e w1 ⟨x1, rfl, hx1, hc1, hg1⟩
      have hr1 := hr.later (below_of hg1 hB (cur_size hc))
      go_wp2_with fail
      refine (byte_any c v l B w1 hc1 hr1 hB).mono ?_
      rintro e w2 ⟨x2, rfl, hx2, hc2, hg2⟩
      have hr2 := hr1.later (below_of hg2 hB (cur_size hc1))
      go_wp2_with fail
      refine (byte_any c v l B w2 hc2 hr2 hB).mono ?_
      rintro e w3 ⟨x3, rfl, hx3, hc3, hg3⟩
      have hr3 := hr2.later (below_of hg3 hB (cur_size hc2))
      go_wp2_with fail
      refine (byte_any c v l B w3 hc3 hr3 hB).mono ?_
      rintro e w4 ⟨x4, rfl, hx4, hc4, hg4⟩
      go_wp2_with fail
      go_ret
      exact ⟨_, rfl, Int.emod_nonneg _ (by omega), fun _ => Int.emod_lt_of_pos _ hnp, hc4, grown_trans (grown_trans (grown_trans hg1 hg2) hg3) hg4⟩

theorem grown_refl (w : World) (row : Option Nat) : w.grownBy w row := ⟨rfl, rfl, rfl, Nat.le_refl _, fun _ _ _ => rfl⟩

set_option maxRecDepth 100000 in
set_option maxHeartbeats 800000 in
/-- A new cursor. -/
theorem new_any (v : Value) (l : List UInt8) (B : Nat) (w : World) (hr : Reads w v l B) :
    Calls Tryz.prog 33 #[v] w fun e w' => e = .returned (.pointer (some ⟨w.heap.size, 0, none⟩)) ∧ Cur w' w.heap.size v l ∧ w.grownBy w' none := by
  obtain ⟨a, cap, rfl, hl, hcase⟩ := hr
  go_enter Tryz.func33, Tryz.ntmps33
  go_wp2
  go_loop [3, 4] (fun h i => ∃ (k : Nat) (x : Int), k ≤ l.length ∧ i = .int .i64 k ∧ h = .int .i64 x) (fun _ i => l.length - (intOf i).toNat)
  case atStart => exact ⟨0, _, Nat.zero_le _, rfl, rfl⟩
  case round =>
    obtain ⟨k, x, hk, rfl, rfl⟩ := hrel
    by_cases hlt : k < l.length
    · rcases hcase with hnil | ⟨b, off, rfl, hbB, hcell⟩
      · subst hnil; simp at hlt
      have cb := hcell k hlt
      clear hcell
      by_cases h4 : k < 4000
      · go_wp2
        go_round
        case rel => exact ⟨k + 1, _, by omega, by go_num, rfl⟩
        case measure => simp [intOf]; omega
      · go_wp2
        go_ret
        refine ⟨rfl, ⟨0, x, Nat.zero_le _, ?_⟩, World.grownBy_alloc _ _ _⟩
        exact heap_alloc_new w _
    · clear hcase
      go_wp2
      all_goals go_ret
      all_goals refine ⟨rfl, ⟨0, x, Nat.zero_le _, ?_⟩, World.grownBy_alloc _ _ _⟩
      all_goals exact heap_alloc_new w _

set_option maxRecDepth 100000 in
set_option maxHeartbeats 800000 in
/-- One of the listed numbers. -/
theorem pick_any (zs : List Int) (b : Nat) (hzl : 0 < zs.length) (hz64 : zs.length ≤ 100000) (c : Nat) (v : Value) (l : List UInt8) (B : Nat) (w : World) (hc : Cur w c v l) (hr : Reads w v l B) (hB : B ≤ c)
    (hbc : b ≠ c) (hzs : ∀ t, t < zs.length → w.cell? ⟨b, t, none⟩ = some (.int .i64 (zs.getD t 0))) :
    Calls Tryz.prog 81 #[.pointer (some ⟨c, 0, none⟩), .slice (some ⟨b, 0, none⟩) zs.length zs.length] w fun e w' =>
      ∃ t, t < zs.length ∧ e = .returned (.int .i64 (zs.getD t 0)) ∧ Cur w' c v l ∧ w.grownBy w' (some c) := by
  have hby := Lib.hid (below_any zs.length c v l B w hc hr hB)
  have Hzs := Lib.hid hzs
  clear hzs
  go_enter Tryz.func81, Tryz.ntmps81
  go_wp2_with fail
  refine hby.out.mono ?_
  rintro e w1 ⟨x, rfl, hx0, hxn, hc1, hg1⟩
  obtain ⟨t, rfl⟩ := Int.eq_ofNat_of_zero_le hx0
  have hxn' := hxn (by omega)
  have ht : t < zs.length := by omega
  have hcell := hg1.cell (Hzs.out t ht) (by intro q; injection q with q; simp only at q; omega)
  clear hxn hxn'
  go_wp2_with fail
  go_ret
  exact ⟨t, ht, ret_int (by simp [ht]), hc1, hg1⟩

/-- The numbers that the laws draw from. -/
def nums : List Int := [-1, 0, 127, 128, 255, 256, 16383, 16384, 65535, 65536, 562949953421311, 562949953421312, 999999999, 1000000000, -999999999, 9223372036854775807, -9223372036854775808]
theorem nums_ok : ∀ t : Fin 17, -9223372036854775808 ≤ nums.getD t.val 0 ∧ nums.getD t.val 0 ≤ 9223372036854775807 := by decide

theorem nums_cells : ∀ t : Fin 17, (#[.int .i64 (-1), .int .i64 0, .int .i64 127, .int .i64 128, .int .i64 255, .int .i64 256, .int .i64 16383, .int .i64 16384, .int .i64 65535, .int .i64 65536, .int .i64 562949953421311, .int .i64 562949953421312, .int .i64 999999999, .int .i64 1000000000, .int .i64 (-999999999), .int .i64 9223372036854775807, .int .i64 (-9223372036854775808)] : Array Value)[t.val]? = some (.int .i64 (nums.getD t.val 0)) := by
  intro t
  obtain ⟨t, ht⟩ := t
  rcases (show t = 0 ∨ t = 1 ∨ t = 2 ∨ t = 3 ∨ t = 4 ∨ t = 5 ∨ t = 6 ∨ t = 7 ∨ t = 8 ∨ t = 9 ∨ t = 10 ∨ t = 11 ∨ t = 12 ∨ t = 13 ∨ t = 14 ∨ t = 15 ∨ t = 16 by omega) with rfl | rfl | rfl | rfl | rfl | rfl | rfl | rfl | rfl | rfl | rfl | rfl | rfl | rfl | rfl | rfl | rfl <;> rfl

theorem wrap_ok (x : Int) : -9223372036854775808 ≤ wrap64 x ∧ wrap64 x ≤ 9223372036854775807 := by
  unfold wrap64
  omega


theorem own_kept {w w' : World} {base c : Nat} {e : TypeId} {v : Value} {l : List UInt8} (h : Own w base e v l) (hg : w.grownBy w' (some c)) (hc : c < base) : Own w' base e v l := by
  refine World.ownsRow.kept h hg ?_
  cases hv : v.ownBlock with
  | none => exact .inl rfl
  | some k =>
    refine .inr ?_
    have := World.ownsRow.lt h k hv
    intro q
    injection q with q
    omega

theorem grown_own {w w1 w2 : World} {c : Nat} (h : w.grownBy w1 (some c)) (hb : Below w.heap.size w1 w2) : w.grownBy w2 (some c) :=
  ⟨hb.os.trans h.os, hb.tape.trans h.tape, hb.output.trans h.output, Nat.le_trans h.size hb.size, fun k hk hne => (hb.block k hk).trans (h.block k hk hne)⟩

theorem cur_below {w w' : World} {B c : Nat} {v : Value} {l : List UInt8} (h : Cur w c v l) (hb : Below B w w') (hc : c < B) : Cur w' c v l := by
  obtain ⟨i, x, hi, hh⟩ := h
  exact ⟨i, x, hi, by rw [hb.block c hc]; exact hh⟩


/-- An argument of type []byte. -/
theorem reads_of {H : Type} {enc : TypeId × Value → H} {P : Program} {W : World} {base : Nat} {t e : TypeId} {v : Value} {d : DataW H} {ps : List MemPlace} (ht : P.underlying t = some (.slice e)) (he : P.underlying e = some (.int .u8)) (hc : P.cellsOf e = 1)
    (hval : Value.okWide P W .any base t v) (hd : DataW.Trod enc P W 0 (fun _ => true) true t v d ps) : ∃ l, Reads W v l W.heap.size := by
  obtain ⟨a, len, cap, rfl⟩ := Go.WideShapes.okWide_slice ht hval
  obtain ⟨fuel, hf⟩ := hd
  rcases Go.ChangeShapes.open_ints ht he hc hf with ⟨hcs, _⟩ | ⟨ad, len', cap', zs, hcs, _, hl, hm, hz, _, hcell, hwz⟩
  · simp [Value.cells] at hcs
    obtain ⟨rfl, rfl, rfl⟩ := hcs
    exact ⟨[], none, 0, rfl, by simp, .inl rfl⟩
  · simp [Value.cells] at hcs
    obtain ⟨rfl, rfl, rfl⟩ := hcs
    simp only [if_true] at hz
    have hml : len ≤ 9223372036854775807 := by unfold maxLen at hm; omega
    have hlen : ((zs.take len).map fun z => UInt8.ofNat z.toNat).length = len := by simp; omega
    refine ⟨(zs.take len).map fun z => UInt8.ofNat z.toNat, some ad, cap, by rw [hlen], by rw [hlen]; exact hml, ?_⟩
    by_cases h0 : len = 0
    · subst h0
      exact .inl rfl
    · have hspot : ad.spot = none := by simpa [Addr.add] using World.cell?_spot (hcell 0 (by omega))
      have hblk : ad.block < W.heap.size := by simpa [Addr.add] using World.block_lt_of_cell? W _ (hcell 0 (by omega))
      obtain ⟨b, off, sp⟩ := ad
      simp only at hspot hblk
      subst hspot
      refine .inr ⟨b, off, rfl, hblk, fun t ht' => ?_⟩
      rw [hlen] at ht'
      have h1 := hcell t (by omega)
      have ha : (⟨b, off, none⟩ : Addr).add t = ⟨b, off + t, none⟩ := by unfold Addr.add; split <;> simp_all
      rw [ha] at h1
      rw [h1]
      have hzt : zs.getD t 0 = zs[t]'(by omega) := by simp [List.getD, show t < zs.length by omega]
      have hw := hwz _ (List.getElem_mem (show t < zs.length by omega))
      rw [hzt]
      simp only [List.getElem_map, List.getElem_take]
      simp [Lit.wf, IntKind.min, IntKind.max, IntKind.signed, IntKind.bits] at hw
      congr 2
      simp
      omega




theorem big_any (v : Value) (l : List UInt8) (B : Nat) (w : World) (hr : Reads w v l B) :
    Calls Tryz.prog 4 #[v] w fun e w' => e = .returned (.bool (decide (1048576 < l.length))) ∧ w = w' := by
  obtain ⟨a, cap, rfl, hl, _⟩ := hr
  go_enter Tryz.func4, Tryz.ntmps4
  go_wp2
  go_ret
  exact ⟨by simp; omega, rfl⟩
end Go.Proofs.YtinchhahcheadaaGreat.Draw

namespace Go.Proofs.YtinchhahcheadaaGreat.LocDraw
open Go Go.RowKit Byt Ints IntsLaw IntsWalk Draw

theorem owni_kept {w w' : World} {base c : Nat} {e : TypeId} {u : Value} {l : List Int} (h : OwnI w base e u l) (hg : w.grownBy w' (some c)) (hc : c < base) : OwnI w' base e u l := by
  refine World.ownsRow.kept h hg ?_
  cases hv : u.ownBlock with
  | none => exact .inl rfl
  | some k =>
    refine .inr ?_
    have := World.ownsRow.lt h k hv
    intro q
    injection q with q
    omega
theorem owni_far {w : World} {base g1 n cap : Nat} {e : TypeId} {l : List Int} {p : Addr} (u : Value) (h : OwnI w base e (.slice (some ⟨g1, 0, none⟩) n cap) l) (hp : g1 ≠ p.block) : OwnI (w.setCell p u) base e (.slice (some ⟨g1, 0, none⟩) n cap) l :=
  World.ownsRow.kept (row := some p.block) h ⟨rfl, rfl, rfl, by simp, fun i _ hne => heap_setCell_other w p i u (by intro q; exact hne (by rw [q]))⟩ (.inr (by simpa [Value.ownBlock] using hp))
theorem wrap_inr (x : Int) : -9223372036854775808 ≤ (if 0 < IntKind.i64.wrap x then IntKind.i64.wrap x else 0) ∧ (if 0 < IntKind.i64.wrap x then IntKind.i64.wrap x else 0) ≤ 9223372036854775807 := by
  rw [IntKind.wrap_i64]
  split <;> omega
theorem list_cellsI (zs : List Int) (w : World) (T : TypeId) : ∀ t, t < zs.length → (w.alloc (.cells (zs.map fun z => Value.int .i64 z).toArray T (0, 0))).cell? ⟨w.heap.size, t, none⟩ = some (.int .i64 (zs.getD t 0)) := by
  intro t ht
  rw [World.cell?_alloc_mark]
  simp [ht]
theorem cur_allocI {w : World} {c : Nat} {v : Value} {l : List UInt8} (o : Obj) (h : Cur w c v l) : Cur (w.alloc o) c v l :=
  h.kept (World.grownBy_alloc w o none) (by intro q; cases q)
theorem grown_allocI {w w' : World} {c : Nat} (o : Obj) (h : w.grownBy w' (some c)) : w.grownBy (w'.alloc o) (some c) :=
  grown_trans h (World.grownBy_alloc w' o (some c))
theorem cur_farI {w : World} {c : Nat} {v : Value} {l : List UInt8} {p : Addr} (u : Value) (h : Cur w c v l) (hp : c ≠ p.block) : Cur (w.setCell p u) c v l := by
  obtain ⟨i, x, hi, hh⟩ := h
  exact ⟨i, x, hi, by rw [heap_setCell_other w p c u hp]; exact hh⟩
theorem grown_newI {w w' : World} {c : Nat} {p : Addr} (u : Value) (h : w.grownBy w' (some c)) (hp : w.heap.size ≤ p.block) : w.grownBy (w'.setCell p u) (some c) :=
  ⟨h.os, h.tape, h.output, by show _ ≤ (w'.setCell p u).heap.size; simp; exact h.size, fun k hk hne => (heap_setCell_other w' p k u (by omega)).trans (h.block k hk hne)⟩
theorem inr_set {l : List Int} (h : InR l) (j : Nat) {x : Int} (hx : -9223372036854775808 ≤ x ∧ x ≤ 9223372036854775807) : InR (l.set j x) := fun y hy => by
  rcases List.mem_or_eq_of_mem_set hy with q | q
  · exact h y q
  · rw [q]; exact hx
theorem inr_snoc {l : List Int} (h : InR l) {x : Int} (hx : -9223372036854775808 ≤ x ∧ x ≤ 9223372036854775807) : InR (l ++ [x]) := fun y hy => by
  rcases List.mem_append.1 hy with q | q
  · exact h y q
  · rw [List.mem_singleton.1 q]; exact hx

theorem form_some {w : World} {base : Nat} {e : TypeId} {o : Value} {ls : List Int} {G n : Nat} (h : OwnI w base e o ls) (hn : ls = [] → o = .slice (some ⟨G, 0, none⟩) 0 0) (hlen : ls.length = n) : ∃ g cap, o = .slice (some ⟨g, 0, none⟩) n cap := by
  subst hlen
  rcases h.form with ⟨_, h2⟩ | ⟨g, cap, h1, _⟩
  · have := hn h2
    subst h2
    exact ⟨G, 0, this⟩
  · exact ⟨g, cap, h1⟩

theorem once_anyI (n : Int) (c : Nat) (v : Value) (l : List UInt8) (B : Nat) (w : World) (hc : Cur w c v l) (hr : Reads w v l B) (hB : B ≤ c) :
    Calls Tryz.prog 75 #[.pointer (some ⟨c, 0, none⟩), .int .i64 n] w fun e w' => ∃ b : Bool, e = .returned (.bool b) ∧ Cur w' c v l ∧ w.grownBy w' (some c) := by
  have hby := Lib.hid (below_any n c v l B w hc hr hB)
  go_enter Tryz.func75, Tryz.ntmps75
  go_wp2_with fail
  refine hby.out.mono ?_
  rintro e w1 ⟨x, rfl, hx0, hx1, hc1, hg1⟩
  go_wp2_with fail
  go_ret
  exact ⟨x == 0, rfl, hc1, hg1⟩

def zl : List Int := [-1, 7, 8, 1000]
theorem zl_ok : ∀ t : Fin 4, -9223372036854775808 ≤ zl.getD t.val 0 ∧ zl.getD t.val 0 ≤ 9223372036854775807 := by decide


def zs15 : List Int := [-1, 0, 1, 2, 4, 5, 16, 17, 64, 1024, 1025, 4096, 4097, 9223372036854775807, -9223372036854775808]
theorem zs15_ok : ∀ t : Fin 15, -9223372036854775808 ≤ zs15.getD t.val 0 ∧ zs15.getD t.val 0 ≤ 9223372036854775807 := by decide
def zs4 : List Int := [0, 1, 4, 8]
theorem zs4_ok : ∀ t : Fin 4, 0 ≤ zs4.getD t.val 0 ∧ zs4.getD t.val 0 ≤ 8 := by decide


end Go.Proofs.YtinchhahcheadaaGreat.LocDraw
