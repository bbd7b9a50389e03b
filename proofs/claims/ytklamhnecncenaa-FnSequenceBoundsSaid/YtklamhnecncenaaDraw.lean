/- The cursor by which the laws draw their inputs: whatever it draws lies in its stated range, and it writes its own block alone. -/
import Derived.Test.YtklamhnecncenaaRows
import Derived.Test.YtklamhnecncenaaByt
import Derived.Test.YtklamhnecncenaaReads
import Derived.WalkKit
import Derived.WalkSpells
import Derived.WalkLawsBesides
import Derived.Lib.Hide
import Derived.Deep.QuietTactic
import Derived.BigQuiet
import Derived.Deep.RegionWith
import Derived.ProofKit
import Derived.OpenShut
namespace Go.Proofs.Ytklamhnecncenaa.Draw
open Go Go.RowKit Byt

/-- Block c is a cursor over v, which has l's length. -/
def Cur (w : World) (c : Nat) (v : Value) (l : List UInt8) : Prop :=
  ∃ (i : Nat) (h : Int), i ≤ l.length ∧ w.heap[c]? = some (.cells #[v, .int .i64 i, .int .i64 h] 116 (0, 0))

theorem Cur.kept {w w' : World} {c : Nat} {v : Value} {l : List UInt8} {row : Option Nat} (h : Cur w c v l) (hg : w.grownBy w' row) (hne : some c ≠ row) : Cur w' c v l := by
  obtain ⟨i, x, hi, hh⟩ := h
  exact ⟨i, x, hi, by rw [hg.block c (Array.getElem?_eq_some_iff.1 hh).1 hne]; exact hh⟩

theorem cur_size {w : World} {c : Nat} {v : Value} {l : List UInt8} (h : Cur w c v l) : c < w.heap.size := by
  obtain ⟨i, x, hi, hh⟩ := h
  exact (Array.getElem?_eq_some_iff.1 hh).1

theorem cur_set {w : World} {c j : Nat} {cs : Array Value} {T : TypeId} {u : Value} (h : w.heap[c]? = some (.cells cs T (0, 0))) :
    (w.setCell ⟨c, j, none⟩ u).heap[c]? = some (.cells (cs.setIfInBounds j u) T (0, 0)) ∧ w.grownBy (w.setCell ⟨c, j, none⟩ u) (some c) :=
  ⟨heap_setCell_same w c j cs T u h, ⟨rfl, rfl, rfl, by simp, fun k _ hk => heap_setCell_other w ⟨c, j, none⟩ k u (fun e => hk (by simp [e]))⟩⟩

theorem grown_trans {a b c : World} {row : Option Nat} (h : a.grownBy b row) (k : b.grownBy c row) : a.grownBy c row :=
  ⟨k.os.trans h.os, k.tape.trans h.tape, k.output.trans h.output, Nat.le_trans h.size k.size, fun i hi hne => (k.block i (Nat.lt_of_lt_of_le hi h.size) hne).trans (h.block i hi hne)⟩

theorem info_u8 : (Try.prog.info? 5).map (fun i => (i.zero, i.size, i.bytes)) = some (some (.int .u8 0), 1, 1) := by kernel_rfl

theorem below_of {w w' : World} {c B : Nat} (h : w.grownBy w' (some c)) (hB : B ≤ c) (hc : c < w.heap.size) : Below B w w' :=
  ⟨h.os, h.tape, h.output, h.size, fun k hk => h.block k (by omega) (by intro q; injection q with q; omega)⟩

theorem low8 (x : Int) : ∃ n : Nat, bits .and .i64 x 255 = (n : Int) ∧ n < 256 := by
  have h : bits .and .i64 x 255 = IntKind.i64.wrap (((BitVec.ofInt 64 x &&& BitVec.ofInt 64 255).toNat : Nat) : Int) := rfl
  have hb : (BitVec.ofInt 64 x &&& BitVec.ofInt 64 255).toNat < 256 := by
    rw [BitVec.toNat_and]
    have : (BitVec.ofInt 64 255).toNat = 255 := by decide
    rw [this]
    exact Nat.lt_of_le_of_lt Nat.and_le_right (by decide)
  refine ⟨_, ?_, hb⟩
  rw [h, IntKind.wrap_i64]
  omega

set_option maxRecDepth 100000 in
set_option maxHeartbeats 800000 in
theorem byte_any (c : Nat) (v : Value) (l : List UInt8) (B : Nat) (w : World) (hc : Cur w c v l) (hr : Reads w v l B) (hB : B ≤ c) :
    Calls Try.prog 121 #[.pointer (some ⟨c, 0, none⟩)] w fun e w' => ∃ x : Nat, e = .returned (.int .i64 x) ∧ x < 256 ∧ Cur w' c v l ∧ w.grownBy w' (some c) := by
  obtain ⟨i, h, hi, hh⟩ := hc
  obtain ⟨a, cap, rfl, hl, hcase⟩ := hr
  have c0 := cell_of_row w c 0 _ _ _ hh
  have c1 := cell_of_row w c 1 _ _ _ hh
  have c2 := cell_of_row w c 2 _ _ _ hh
  have f1 := frozen_of_row w c 1 _ _ hh
  have f2 := frozen_of_row w c 2 _ _ hh
  simp only [List.getElem?_toArray, List.getElem?_cons_zero, List.getElem?_cons_succ] at c0 c1 c2
  by_cases hlt : i < l.length
  · rcases hcase with hnil | ⟨b, off, rfl, hbB, hcell⟩
    · subst hnil; simp at hlt
    have cb := hcell i hlt
    go_enter Try.func121, Try.ntmps121
    go_wp2
    generalize wrap64 (wrap64 (h * 6364136223846793005) + 1442695040888963407) = h1
    obtain ⟨hh1, g1⟩ := cur_set (j := 2) (u := .int .i64 h1) hh
    have cb1 := (g1.cell cb (by intro q; injection q with q; simp only at q; omega))
    generalize w.setCell ⟨c, 2, none⟩ (.int .i64 h1) = w1 at *
    have G1 := Lib.hid g1
    clear g1 c0 c1 c2 f1 f2 cb hh hcell
    have c0 := cell_of_row w1 c 0 _ _ _ hh1
    have c1 := cell_of_row w1 c 1 _ _ _ hh1
    have c2 := cell_of_row w1 c 2 _ _ _ hh1
    have f1 := frozen_of_row w1 c 1 _ _ hh1
    simp only [List.setIfInBounds_toArray, List.set_cons_succ, List.set_cons_zero, List.getElem?_toArray, List.getElem?_cons_zero, List.getElem?_cons_succ] at c0 c1 c2
    have HH := Lib.hid hh1
    clear hh1
    go_quiet (fail)
    go_wp2
    obtain ⟨x, hx, hx256⟩ := low8 (bits BinOp.xor IntKind.i64 (h1 / 8589934592) (h1 / 35184372088832))
    rw [hx]
    clear hx
    have p1 : (0 : Int) ≤ (i : Int) := by omega
    have p2 : (i : Int) < (l.length : Int) := by omega
    go_quiet (fail)
    go_wp2
    go_quiet (fail)
    go_wp2
    go_ret
    obtain ⟨y, hy, hy2⟩ := low8 (wrap64 ((x : Int) + wrap64 (l[i].toNat : Int)))
    refine ⟨y, ret_int hy, hy2, ?_, ?_⟩
    · refine ⟨i + 1, h1, hlt, ?_⟩
      have := (cur_set (j := 1) (u := .int .i64 ((i : Int) + 1)) HH.out).1
      show (w1.setCell _ _).heap[c]? = _
      simpa using this
    · have k := (cur_set (j := 1) (u := .int .i64 ((i : Int) + 1)) HH.out).2
      exact grown_trans G1.out ⟨k.os, k.tape, k.output, k.size, k.block⟩
  · go_enter Try.func121, Try.ntmps121
    go_wp2
    generalize wrap64 (wrap64 (h * 6364136223846793005) + 1442695040888963407) = h1
    obtain ⟨hh1, g1⟩ := cur_set (j := 2) (u := .int .i64 h1) hh
    generalize w.setCell ⟨c, 2, none⟩ (.int .i64 h1) = w1 at *
    have G1 := Lib.hid g1
    clear g1 c0 c1 c2 f1 f2 hh hcase
    have c0 := cell_of_row w1 c 0 _ _ _ hh1
    have c1 := cell_of_row w1 c 1 _ _ _ hh1
    have c2 := cell_of_row w1 c 2 _ _ _ hh1
    simp only [List.setIfInBounds_toArray, List.set_cons_succ, List.set_cons_zero, List.getElem?_toArray, List.getElem?_cons_zero, List.getElem?_cons_succ] at c0 c1 c2
    have HH := Lib.hid hh1
    clear hh1
    go_quiet (fail)
    go_wp2
    obtain ⟨x, hx, hx256⟩ := low8 (bits BinOp.xor IntKind.i64 (h1 / 8589934592) (h1 / 35184372088832))
    rw [hx]
    clear hx
    go_quiet (fail)
    go_wp2
    go_ret
    refine ⟨x, rfl, hx256, ⟨i, h1, hi, ?_⟩, ?_⟩
    · have := HH.out
      simpa using this
    · exact grown_trans G1.out ⟨rfl, rfl, rfl, Nat.le_refl _, fun _ _ _ => rfl⟩

set_option maxRecDepth 100000 in
set_option maxHeartbeats 800000 in
/-- A draw below n: from 0 to n - 1; 0 where n is not positive. -/
theorem below_any (n : Int) (c : Nat) (v : Value) (l : List UInt8) (B : Nat) (w : World) (hc : Cur w c v l) (hr : Reads w v l B) (hB : B ≤ c) :
    Calls Try.prog 79 #[.pointer (some ⟨c, 0, none⟩), .int .i64 n] w fun e w' => ∃ x : Int, e = .returned (.int .i64 x) ∧ 0 ≤ x ∧ (0 < n → x < n) ∧ Cur w' c v l ∧ w.grownBy w' (some c) := by
  by_cases h0 : n ≤ 0
  · go_enter Try.func79, Try.ntmps79
    go_wp2
    go_ret
    exact ⟨0, rfl, Int.le_refl _, fun h => by omega, hc, ⟨rfl, rfl, rfl, Nat.le_refl _, fun _ _ _ => rfl⟩⟩
  · have hnp : 0 < n := by omega
    by_cases h256 : n ≤ 256
    · have hby := Lib.hid (byte_any c v l B w hc hr hB)
      go_enter Try.func79, Try.ntmps79
      go_wp2_with (go_at_call 121; refine hby.out.mono ?_; rintro e w1 ⟨x, rfl, hx, hc1, hg1⟩)
      go_ret
      exact ⟨(x : Int) % n, rfl, Int.emod_nonneg _ (by omega), fun _ => Int.emod_lt_of_pos _ hnp, hc1, hg1⟩
    · go_enter Try.func79, Try.ntmps79
      go_wp2_with fail
      refine (byte_any c v l B w hc hr hB).mono ?_
      rintro e w1 ⟨x1, rfl, hx1, hc1, hg1⟩
      have hr1 := hr.later (below_of hg1 hB (cur_size hc))
      go_wp2_with fail
      refine (byte_any c v l B w1 hc1 hr1 hB).mono ?_
      rintro e w2 ⟨x2, rfl, hx2, hc2, hg2⟩
      have hr2 := hr1.later (below_of hg2 hB (cur_size hc1))
      go_wp2_with fail
      refine (byte_any c v l B w2 hc2 hr2 hB).mono ?_
      rintro e w3 ⟨x3, rfl, hx3, hc3, hg3⟩
      have hr3 := hr2.later (below_of hg3 hB (cur_size hc2))
      go_wp2_with fail
      refine (byte_any c v l B w3 hc3 hr3 hB).mono ?_
      rintro e w4 ⟨x4, rfl, hx4, hc4, hg4⟩
      go_wp2_with fail
      go_ret
      exact ⟨_, rfl, Int.emod_nonneg _ (by omega), fun _ => Int.emod_lt_of_pos _ hnp, hc4, grown_trans (grown_trans (grown_trans hg1 hg2) hg3) hg4⟩

theorem grown_refl (w : World) (row : Option Nat) : w.grownBy w row := ⟨rfl, rfl, rfl, Nat.le_refl _, fun _ _ _ => rfl⟩

set_option maxRecDepth 100000 in
set_option maxHeartbeats 800000 in
/-- A new cursor. -/
theorem new_any (v : Value) (l : List UInt8) (B : Nat) (w : World) (hr : Reads w v l B) :
    Calls Try.prog 76 #[v] w fun e w' => e = .returned (.pointer (some ⟨w.heap.size, 0, none⟩)) ∧ Cur w' w.heap.size v l ∧ w.grownBy w' none := by
  obtain ⟨a, cap, rfl, hl, hcase⟩ := hr
  go_enter Try.func76, Try.ntmps76
  go_wp2
  go_loop [3, 4] (fun h i => ∃ (k : Nat) (x : Int), k ≤ l.length ∧ i = .int .i64 k ∧ h = .int .i64 x) (fun _ i => l.length - (intOf i).toNat)
  case atStart => exact ⟨0, _, Nat.zero_le _, rfl, rfl⟩
  case round =>
    obtain ⟨k, x, hk, rfl, rfl⟩ := hrel
    by_cases hlt : k < l.length
    · rcases hcase with hnil | ⟨b, off, rfl, hbB, hcell⟩
      · subst hnil; simp at hlt
      have cb := hcell k hlt
      clear hcell
      by_cases h4 : k < 4000
      · go_wp2
        go_round
        case rel => exact ⟨k + 1, _, by omega, by go_num, rfl⟩
        case measure => simp [intOf]; omega
      · go_wp2
        go_ret
        refine ⟨rfl, ⟨0, x, Nat.zero_le _, ?_⟩, World.grownBy_alloc _ _ _⟩
        exact heap_alloc_new w _
    · clear hcase
      go_wp2
      all_goals go_ret
      all_goals refine ⟨rfl, ⟨0, x, Nat.zero_le _, ?_⟩, World.grownBy_alloc _ _ _⟩
      all_goals exact heap_alloc_new w _

set_option maxRecDepth 100000 in
set_option maxHeartbeats 800000 in
/-- One of the listed numbers. -/
theorem pick_any (zs : List Int) (b : Nat) (hzl : 0 < zs.length) (hz64 : zs.length ≤ 100000) (c : Nat) (v : Value) (l : List UInt8) (B : Nat) (w : World) (hc : Cur w c v l) (hr : Reads w v l B) (hB : B ≤ c)
    (hbc : b ≠ c) (hzs : ∀ t, t < zs.length → w.cell? ⟨b, t, none⟩ = some (.int .i64 (zs.getD t 0))) :
    Calls Try.prog 78 #[.pointer (some ⟨c, 0, none⟩), .slice (some ⟨b, 0, none⟩) zs.length zs.length] w fun e w' =>
      ∃ t, t < zs.length ∧ e = .returned (.int .i64 (zs.getD t 0)) ∧ Cur w' c v l ∧ w.grownBy w' (some c) := by
  have hby := Lib.hid (below_any zs.length c v l B w hc hr hB)
  have Hzs := Lib.hid hzs
  clear hzs
  go_enter Try.func78, Try.ntmps78
  go_wp2_with fail
  refine hby.out.mono ?_
  rintro e w1 ⟨x, rfl, hx0, hxn, hc1, hg1⟩
  obtain ⟨t, rfl⟩ := Int.eq_ofNat_of_zero_le hx0
  have hxn' := hxn (by omega)
  have ht : t < zs.length := by omega
  have hcell := hg1.cell (Hzs.out t ht) (by intro q; injection q with q; simp only at q; omega)
  clear hxn hxn'
  go_wp2_with fail
  go_ret
  exact ⟨t, ht, ret_int (by simp [ht]), hc1, hg1⟩

/-- The numbers that the laws draw from. -/
def nums : List Int := [-1, 0, 127, 128, 255, 256, 16383, 16384, 65535, 65536, 562949953421311, 562949953421312, 999999999, 1000000000, -999999999, 9223372036854775807, -9223372036854775808]
theorem nums_ok : ∀ t : Fin 17, -9223372036854775808 ≤ nums.getD t.val 0 ∧ nums.getD t.val 0 ≤ 9223372036854775807 := by decide

theorem nums_cells : ∀ t : Fin 17, (#[.int .i64 (-1), .int .i64 0, .int .i64 127, .int .i64 128, .int .i64 255, .int .i64 256, .int .i64 16383, .int .i64 16384, .int .i64 65535, .int .i64 65536, .int .i64 562949953421311, .int .i64 562949953421312, .int .i64 999999999, .int .i64 1000000000, .int .i64 (-999999999), .int .i64 9223372036854775807, .int .i64 (-9223372036854775808)] : Array Value)[t.val]? = some (.int .i64 (nums.getD t.val 0)) := by
  intro t
  obtain ⟨t, ht⟩ := t
  rcases (show t = 0 ∨ t = 1 ∨ t = 2 ∨ t = 3 ∨ t = 4 ∨ t = 5 ∨ t = 6 ∨ t = 7 ∨ t = 8 ∨ t = 9 ∨ t = 10 ∨ t = 11 ∨ t = 12 ∨ t = 13 ∨ t = 14 ∨ t = 15 ∨ t = 16 by omega) with rfl | rfl | rfl | rfl | rfl | rfl | rfl | rfl | rfl | rfl | rfl | rfl | rfl | rfl | rfl | rfl | rfl <;> rfl

theorem wrap_ok (x : Int) : -9223372036854775808 ≤ wrap64 x ∧ wrap64 x ≤ 9223372036854775807 := by
  unfold wrap64
  omega


theorem own_kept {w w' : World} {base c : Nat} {e : TypeId} {v : Value} {l : List UInt8} (h : Own w base e v l) (hg : w.grownBy w' (some c)) (hc : c < base) : Own w' base e v l := by
  refine World.ownsRow.kept h hg ?_
  cases hv : v.ownBlock with
  | none => exact .inl rfl
  | some k =>
    refine .inr ?_
    have := World.ownsRow.lt h k hv
    intro q
    injection q with q
    omega

theorem grown_own {w w1 w2 : World} {c : Nat} (h : w.grownBy w1 (some c)) (hb : Below w.heap.size w1 w2) : w.grownBy w2 (some c) :=
  ⟨hb.os.trans h.os, hb.tape.trans h.tape, hb.output.trans h.output, Nat.le_trans h.size hb.size, fun k hk hne => (hb.block k hk).trans (h.block k hk hne)⟩

theorem cur_below {w w' : World} {B c : Nat} {v : Value} {l : List UInt8} (h : Cur w c v l) (hb : Below B w w') (hc : c < B) : Cur w' c v l := by
  obtain ⟨i, x, hi, hh⟩ := h
  exact ⟨i, x, hi, by rw [hb.block c hc]; exact hh⟩


/-- An argument of type []byte. -/
theorem reads_of {H : Type} {enc : TypeId × Value → H} {P : Program} {W : World} {base : Nat} {t e : TypeId} {v : Value} {d : DataW H} {ps : List MemPlace} (ht : P.underlying t = some (.slice e)) (he : P.underlying e = some (.int .u8)) (hc : P.cellsOf e = 1)
    (hval : Value.okWide P W .any base t v) (hd : DataW.Trod enc P W 0 (fun _ => true) true t v d ps) : ∃ l, Reads W v l W.heap.size := by
  obtain ⟨a, len, cap, rfl⟩ := Go.WideShapes.okWide_slice ht hval
  obtain ⟨fuel, hf⟩ := hd
  rcases Go.ChangeShapes.open_ints ht he hc hf with ⟨hcs, _⟩ | ⟨ad, len', cap', zs, hcs, _, hl, hm, hz, _, hcell, hwz⟩
  · simp [Value.cells] at hcs
    obtain ⟨rfl, rfl, rfl⟩ := hcs
    exact ⟨[], none, 0, rfl, by simp, .inl rfl⟩
  · simp [Value.cells] at hcs
    obtain ⟨rfl, rfl, rfl⟩ := hcs
    simp only [if_true] at hz
    have hml : len ≤ 9223372036854775807 := by unfold maxLen at hm; omega
    have hlen : ((zs.take len).map fun z => UInt8.ofNat z.toNat).length = len := by simp; omega
    refine ⟨(zs.take len).map fun z => UInt8.ofNat z.toNat, some ad, cap, by rw [hlen], by rw [hlen]; exact hml, ?_⟩
    by_cases h0 : len = 0
    · subst h0
      exact .inl rfl
    · have hspot : ad.spot = none := by simpa [Addr.add] using World.cell?_spot (hcell 0 (by omega))
      have hblk : ad.block < W.heap.size := by simpa [Addr.add] using World.block_lt_of_cell? W _ (hcell 0 (by omega))
      obtain ⟨b, off, sp⟩ := ad
      simp only at hspot hblk
      subst hspot
      refine .inr ⟨b, off, rfl, hblk, fun t ht' => ?_⟩
      rw [hlen] at ht'
      have h1 := hcell t (by omega)
      have ha : (⟨b, off, none⟩ : Addr).add t = ⟨b, off + t, none⟩ := by unfold Addr.add; split <;> simp_all
      rw [ha] at h1
      rw [h1]
      have hzt : zs.getD t 0 = zs[t]'(by omega) := by simp [List.getD, show t < zs.length by omega]
      have hw := hwz _ (List.getElem_mem (show t < zs.length by omega))
      rw [hzt]
      simp only [List.getElem_map, List.getElem_take]
      simp [Lit.wf, IntKind.min, IntKind.max, IntKind.signed, IntKind.bits] at hw
      congr 2
      simp
      omega




theorem big_any (v : Value) (l : List UInt8) (B : Nat) (w : World) (hr : Reads w v l B) :
    Calls Try.prog 13 #[v] w fun e w' => e = .returned (.bool (decide (1048576 < l.length))) ∧ w = w' := by
  obtain ⟨a, cap, rfl, hl, _⟩ := hr
  go_enter Try.func13, Try.ntmps13
  go_wp2
  go_ret
  exact ⟨by simp; omega, rfl⟩
end Go.Proofs.Ytklamhnecncenaa.Draw
