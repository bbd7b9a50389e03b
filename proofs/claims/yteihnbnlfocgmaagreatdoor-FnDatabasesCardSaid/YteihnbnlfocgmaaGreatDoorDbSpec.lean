/- Databases: the model's functions that look. -/
import Derived.Test.YteihnbnlfocgmaaGreatDoorDb
import Derived.Test.YteihnbnlfocgmaaGreatDoorTabSpec2
namespace Go.Proofs.YteihnbnlfocgmaaGreatDoor.DbSpec
open Go Go.RowKit Byt Ints IntsLaw Cd Rows2 Tab SlMath TabOpen TabElem SlTable Db TabSpec

/-- One table, said of its cells. -/
theorem sameT_iff {a b : T3} : sameT a.1 b.1 a.2.1 b.2.1 a.2.2 b.2.2 = decide (a = b) := by
  obtain ⟨a1, a2, a3⟩ := a
  obtain ⟨b1, b2, b3⟩ := b
  unfold sameT
  simp
theorem row1 {w : World} {k : Nat} {a : Value} {e : TypeId} (h : w.heap[k]? = some (.cells #[a] e (0, 0))) : w.cell? ⟨k, 0, none⟩ = some a ∧ w.frozen? ⟨k, 0, none⟩ = false := ⟨by simp [World.cell?, h], by simp [World.frozen?, h]⟩
theorem ret_b {a b : Bool} (h : a = b) : Ending.returned (.bool a) = Ending.returned (.bool b) := by rw [h]
def LaterD (w w' : World) : Prop := Below w.heap.size w w'
theorem take_ne {l1 l2 : List T3} {k : Nat} (h1 : k < l1.length) (h2 : k < l2.length) (h : l1[k] ≠ l2[k]) : l1 ≠ l2 := fun q => h (by simp [q])
theorem take_eq {l1 l2 : List T3} {k : Nat} (h1 : k < l1.length) (h2 : k < l2.length) (ht : l1.take k = l2.take k) (h : l1[k] = l2[k]) : l1.take (k + 1) = l2.take (k + 1) := by
  rw [List.take_succ_eq_append_getElem h1, List.take_succ_eq_append_getElem h2, ht, h]

theorem eqt_elem (us vs : List Value) (T U : T3) (S S2 : Nat → Prop) (w : World) (hu : tabC.rd w S us T) (hv : tabC.rd w S2 vs U) :
    Calls Tryz.prog 37 #[.agg us.toArray, .agg vs.toArray] w fun e w' => e = .returned (.bool (decide (T = U))) ∧ Below w.heap.size w w' := by
  obtain ⟨u, rfl, _, _, h3⟩ := tab_cells hu
  obtain ⟨u2, rfl, _, _, h4⟩ := tab_cells hv
  have h := spec_equal T.1 U.1 T.2.1 U.2.1 u u2 T.2.2 U.2.2 S S2 w h3 h4
  rw [sameT_iff] at h
  exact h
set_option maxRecDepth 100000 in
set_option maxHeartbeats 1600000 in
theorem spec_eqdb (u1 u2 : Value) (l1 l2 : List T3) (S1 S2 : Nat → Prop) (w : World) (h1 : tabsC.rd w S1 [u1] l1) (h2 : tabsC.rd w S2 [u2] l2) :
    Calls Tryz.prog 13 #[.agg #[u1], .agg #[u2]] w fun e w' => e = .returned (.bool (decide (l1 = l2))) ∧ Below w.heap.size w w' := by
  have HR1 := Lib.hid (fun w' (hb : Below w.heap.size w w') => Cd.later h1 hb)
  have HR2 := Lib.hid (fun w' (hb : Below w.heap.size w w') => Cd.later h2 hb)
  obtain ⟨a1, cap1, rfl, hl1⟩ := Cd.sl_form h1
  obtain ⟨a2, cap2, rfl, hl2⟩ := Cd.sl_form h2
  clear h1 h2
  by_cases hlen : l1.length = l2.length
  case neg =>
    have HZ := Lib.hid (show decide (l1 = l2) = false from decide_eq_false fun q => hlen (by rw [q]))
    have ht : ((l1.length : Int) != (l2.length : Int)) = true := by rw [bne_iff_ne]; omega
    go_enter Tryz.func13, Tryz.ntmps13
    go_wp2_with fail
    go_ret
    exact ⟨ret_b HZ.out.symm, below_then (below_alloc _ _) (below_alloc _ _)⟩
  have HLEN := Lib.hid hlen
  rw [hlen]
  clear hlen
  go_enter Tryz.func13, Tryz.ntmps13
  go_wp2_with fail
  generalize hW : (w.alloc _).alloc _ = W
  obtain ⟨r0, r1, hz, hb0⟩ := start2g w _ _ hW
  have c0 := (row1 r0).1
  have c1 := (row1 r1).1
  have HC0 := Lib.hid (And.intro (row1 r0).1 (row1 r1).1)
  have HLT0 := Lib.hid (show w.heap.size + 1 < W.heap.size by omega)
  have HB0 := Lib.hid hb0
  clear hW r0 r1 hz hb0
  go_loopw [5] (fun i wr => ∃ k : Nat, k ≤ l2.length ∧ i = .int .i64 k ∧ l1.take k = l2.take k ∧ Below W.heap.size W wr) (fun i _ => l2.length - (intOf i).toNat)
  case atStart => exact ⟨0, Nat.zero_le _, rfl, by simp, Below.refl _ _⟩
  case round =>
    obtain ⟨k, hk, rfl, htk, hb⟩ := hrel
    have x0 := (hb.cell (p := ⟨w.heap.size, 0, none⟩) (by have := HLT0.out; show w.heap.size < _; omega)).trans HC0.out.1
    have x1 := (hb.cell (p := ⟨w.heap.size + 1, 0, none⟩) HLT0.out).trans HC0.out.2
    have HTK := Lib.hid htk
    have HBW := Lib.hid (below_then HB0.out hb)
    have HWR := Lib.hid hb
    have hWr : W.heap.size ≤ wr.heap.size := hb.size
    clear c0 c1 htk
    by_cases hlt : k < l2.length
    · have hlt1 : k < l1.length := by rw [HLEN.out]; exact hlt
      obtain ⟨b, off, cap', us, e1, _, hbB, hat, hu⟩ := Cd.sl_at (HR1.out wr HBW.out) hlt1
      rw [HLEN.out] at e1
      injection e1 with e1 e2 e3
      subst e1 e3
      obtain ⟨x, y, z, rfl⟩ := len_list (tabC.len hu)
      have p0 := hat 0 (by simp)
      have p1 := hat 1 (by simp)
      have p2 := hat 2 (by simp)
      obtain ⟨b', off', cap', us, e1, _, hbB', hat', hu'⟩ := Cd.sl_at (HR2.out wr HBW.out) hlt
      injection e1 with e1 e2 e3
      subst e1 e3
      obtain ⟨x', y', z', rfl⟩ := len_list (tabC.len hu')
      have q0 := hat' 0 (by simp)
      have q1 := hat' 1 (by simp)
      have q2 := hat' 2 (by simp)
      simp only [List.getElem_cons_zero, List.getElem_cons_succ, Nat.add_zero, show tabC.n = 3 from rfl] at p0 p1 p2 q0 q1 q2
      have HE := Lib.hid (fun w' (hq : LaterD wr w') => eqt_elem [x, y, z] [x', y', z'] l1[k] l2[k] _ _ w' (Cd.later hu hq) (Cd.later hu' hq))
      have HALL := Lib.hid (And.intro (And.intro x0 x1) (And.intro (And.intro p0 (And.intro p1 p2)) (And.intro q0 (And.intro q1 q2))))
      have HLTS := Lib.hid (show w.heap.size + 1 < wr.heap.size ∧ b < wr.heap.size ∧ b' < wr.heap.size from ⟨by have := HLT0.out; omega, hbB, hbB'⟩)
      have i1 : (0 : Int) ≤ (k : Int) := by omega
      have i2 : (k : Int) < (l2.length : Int) := by omega
      have kk : LaterD wr wr.drew := (Below.refl _ wr).drew
      by_cases hT : l1[k] = l2[k]
      · rw [show decide (l1[k] = l2[k]) = true from decide_eq_true hT] at HE
        have HT := Lib.hid (take_eq hlt1 hlt HTK.out hT)
        clear hu hu' hat hat' hb hbB hbB' hT e2 hlt1
        go_wp2_with fail
        go_region_held3 (fun wx => wx.cell? ⟨w.heap.size, 0, none⟩ = some (.slice (some ⟨b, off, none⟩) l2.length cap1) ∧ wx.cell? ⟨w.heap.size + 1, 0, none⟩ = some (.slice (some ⟨b', off', none⟩) l2.length cap2) ∧ wx.cell? ⟨b, off + k * 3, none⟩ = some x ∧ wx.cell? ⟨b, off + k * 3 + 1, none⟩ = some y ∧ wx.cell? ⟨b, off + k * 3 + 2, none⟩ = some z ∧ wx.cell? ⟨b', off' + k * 3, none⟩ = some x' ∧ wx.cell? ⟨b', off' + k * 3 + 1, none⟩ = some y' ∧ wx.cell? ⟨b', off' + k * 3 + 2, none⟩ = some z' ∧ LaterD wr wx)
          ((refine ⟨?_, ?_, ?_, ?_, ?_, ?_, ?_, ?_, ?_⟩ <;> first | assumption | (simp [*]; done)))
          (first | (go_at_call 37; refine (HE.out _ (by assumption)).mono ?_; rintro e wq ⟨rfl, hbq⟩; (have kk : LaterD wr wq := below_then (by assumption) hbq); (have n0 := (Below.cell kk (p := ⟨w.heap.size, 0, none⟩) (by have := HLTS.out.1; show w.heap.size < _; omega)).trans HALL.out.1.1); (have n1 := (Below.cell kk (p := ⟨w.heap.size + 1, 0, none⟩) HLTS.out.1).trans HALL.out.1.2); (have n2 := (Below.cell kk (p := ⟨b, off + k * 3, none⟩) HLTS.out.2.1).trans HALL.out.2.1.1); (have n3 := (Below.cell kk (p := ⟨b, off + k * 3 + 1, none⟩) HLTS.out.2.1).trans HALL.out.2.1.2.1); (have n4 := (Below.cell kk (p := ⟨b, off + k * 3 + 2, none⟩) HLTS.out.2.1).trans HALL.out.2.1.2.2); (have n5 := (Below.cell kk (p := ⟨b', off' + k * 3, none⟩) HLTS.out.2.2).trans HALL.out.2.2.1); (have n6 := (Below.cell kk (p := ⟨b', off' + k * 3 + 1, none⟩) HLTS.out.2.2).trans HALL.out.2.2.2.1); (have n7 := (Below.cell kk (p := ⟨b', off' + k * 3 + 2, none⟩) HLTS.out.2.2).trans HALL.out.2.2.2.2); clear hbq))
        all_goals
          have HBQ := Lib.hid (below_then HBW.out (show Below wr.heap.size wr wq by assumption))
          have HBQ2 := Lib.hid (below_then HWR.out (show Below wr.heap.size wr wq by assumption))
          go_wp2_with fail
          go_roundw
          case rel => exact ⟨k + 1, by omega, by go_num, HT.out, HBQ2.out⟩
          case measure => simp [intOf]; omega
      · rw [show decide (l1[k] = l2[k]) = false from decide_eq_false hT] at HE
        have HZ := Lib.hid (show decide (l1 = l2) = false from decide_eq_false (take_ne hlt1 hlt hT))
        clear hu hu' hat hat' hb hbB hbB' hT e2 hlt1
        go_wp2_with fail
        go_region_held3 (fun wx => wx.cell? ⟨w.heap.size, 0, none⟩ = some (.slice (some ⟨b, off, none⟩) l2.length cap1) ∧ wx.cell? ⟨w.heap.size + 1, 0, none⟩ = some (.slice (some ⟨b', off', none⟩) l2.length cap2) ∧ wx.cell? ⟨b, off + k * 3, none⟩ = some x ∧ wx.cell? ⟨b, off + k * 3 + 1, none⟩ = some y ∧ wx.cell? ⟨b, off + k * 3 + 2, none⟩ = some z ∧ wx.cell? ⟨b', off' + k * 3, none⟩ = some x' ∧ wx.cell? ⟨b', off' + k * 3 + 1, none⟩ = some y' ∧ wx.cell? ⟨b', off' + k * 3 + 2, none⟩ = some z' ∧ LaterD wr wx)
          ((refine ⟨?_, ?_, ?_, ?_, ?_, ?_, ?_, ?_, ?_⟩ <;> first | assumption | (simp [*]; done)))
          (first | (go_at_call 37; refine (HE.out _ (by assumption)).mono ?_; rintro e wq ⟨rfl, hbq⟩; (have kk : LaterD wr wq := below_then (by assumption) hbq); (have n0 := (Below.cell kk (p := ⟨w.heap.size, 0, none⟩) (by have := HLTS.out.1; show w.heap.size < _; omega)).trans HALL.out.1.1); (have n1 := (Below.cell kk (p := ⟨w.heap.size + 1, 0, none⟩) HLTS.out.1).trans HALL.out.1.2); (have n2 := (Below.cell kk (p := ⟨b, off + k * 3, none⟩) HLTS.out.2.1).trans HALL.out.2.1.1); (have n3 := (Below.cell kk (p := ⟨b, off + k * 3 + 1, none⟩) HLTS.out.2.1).trans HALL.out.2.1.2.1); (have n4 := (Below.cell kk (p := ⟨b, off + k * 3 + 2, none⟩) HLTS.out.2.1).trans HALL.out.2.1.2.2); (have n5 := (Below.cell kk (p := ⟨b', off' + k * 3, none⟩) HLTS.out.2.2).trans HALL.out.2.2.1); (have n6 := (Below.cell kk (p := ⟨b', off' + k * 3 + 1, none⟩) HLTS.out.2.2).trans HALL.out.2.2.2.1); (have n7 := (Below.cell kk (p := ⟨b', off' + k * 3 + 2, none⟩) HLTS.out.2.2).trans HALL.out.2.2.2.2); clear hbq))
        all_goals
          have HBQ := Lib.hid (below_then HBW.out (show Below wr.heap.size wr wq by assumption))
          go_wp2_with fail
          go_ret
          exact ⟨ret_b HZ.out.symm, HBQ.out⟩
    · have ek : k = l2.length := by omega
      subst ek
      have HZ := Lib.hid (show decide (l1 = l2) = true from decide_eq_true (by
        have h := HTK.out
        rw [List.take_length, List.take_of_length_le (by rw [HLEN.out]; exact Nat.le_refl _)] at h
        exact h))
      go_wp2_with fail
      go_ret
      exact ⟨ret_b HZ.out.symm, HBW.out⟩
end Go.Proofs.YteihnbnlfocgmaaGreatDoor.DbSpec
