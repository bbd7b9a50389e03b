/- Texts that the proof rests on, one behind the other. -/
import Derived.Test.YtdjgaffiildijabDoorIntsLaw
import Derived.Test.YtdjgaffiildijabDoorRows
import Derived.Test.YtdjgaffiildijabDoorByt
import Derived.Test.YtdjgaffiildijabDoorReads
import Derived.WalkKit
import Derived.WalkSpells
import Derived.WalkLawsBesides
import Derived.Lib.Hide
import Derived.Deep.QuietTactic
import Derived.BigQuiet
import Derived.Deep.RegionWith
import Derived.ProofKit
import Derived.OpenShut
import Derived.Deep.RegionHeld3
import Derived.Test.YtdjgaffiildijabDoorQryPar4

namespace Go.Proofs.YtdjgaffiildijabDoor.IntsWalk
open Go Go.RowKit Byt Ints IntsLaw

/-- v's own block, if it has one, lies from lo on and below hi. -/
def Bk (v : Value) (lo hi : Nat) : Prop := ∀ k, v.ownBlock = some k → lo ≤ k ∧ k < hi
theorem bk_of {w : World} {base : Nat} {e : TypeId} {v : Value} {l : List Int} (h : OwnI w base e v l) : Bk v base w.heap.size := fun k hk => World.ownsRow.lt h k hk
theorem apart {u v : Value} {a b c d : Nat} (hu : Bk u a b) (hv : Bk v c d) (h : b ≤ c ∨ d ≤ a) : u.ownBlock = none ∨ u.ownBlock ≠ v.ownBlock := by
  cases e : u.ownBlock with
  | none => exact .inl rfl
  | some k =>
    refine .inr fun q => ?_
    have h1 := hu k e
    have h2 := hv k q.symm
    omega
theorem kept_mark {w w' : World} {base : Nat} {e : TypeId} {u v : Value} {l : List Int} (h : OwnI w base e u l) (hg : w.grownBy w' v.ownBlock) (hne : u.ownBlock = none ∨ u.ownBlock ≠ v.ownBlock) : OwnI w' base e u l :=
  World.ownsRow.kept h hg hne
theorem below_mark {w0 w w' : World} {v : Value} {lo hi : Nat} (h : Below w0.heap.size w0 w) (hg : w.grownBy w' v.ownBlock) (hb : Bk v lo hi) (hlo : w0.heap.size ≤ lo) : Below w0.heap.size w0 w' :=
  h.grown hg h.size (fun k hk => Nat.le_trans hlo (hb k hk).1)
theorem below_then {w a b : World} (h : Below w.heap.size w a) (k : Below a.heap.size a b) : Below w.heap.size w b := h.trans (k.mono h.size)
theorem dec_same (l : List Int) : decide (l = l) = true := decide_eq_true rfl
end Go.Proofs.YtdjgaffiildijabDoor.IntsWalk

namespace Go.Proofs.YtdjgaffiildijabDoor.Draw
open Go Go.RowKit Byt

/-- Block c is a cursor over v, which has l's length. -/
def Cur (w : World) (c : Nat) (v : Value) (l : List UInt8) : Prop :=
  ∃ (i : Nat) (h : Int), i ≤ l.length ∧ w.heap[c]? = some (.cells #[v, .int .i64 i, .int .i64 h] 134 (0, 0))

theorem Cur.kept {w w' : World} {c : Nat} {v : Value} {l : List UInt8} {row : Option Nat} (h : Cur w c v l) (hg : w.grownBy w' row) (hne : some c ≠ row) : Cur w' c v l := by
  obtain ⟨i, x, hi, hh⟩ := h
  exact ⟨i, x, hi, by rw [hg.block c (Array.getElem?_eq_some_iff.1 hh).1 hne]; exact hh⟩

theorem cur_size {w : World} {c : Nat} {v : Value} {l : List UInt8} (h : Cur w c v l) : c < w.heap.size := by
  obtain ⟨i, x, hi, hh⟩ := h
  exact (Array.getElem?_eq_some_iff.1 hh).1

theorem cur_set {w : World} {c j : Nat} {cs : Array Value} {T : TypeId} {u : Value} (h : w.heap[c]? = some (.cells cs T (0, 0))) :
    (w.setCell ⟨c, j, none⟩ u).heap[c]? = some (.cells (cs.setIfInBounds j u) T (0, 0)) ∧ w.grownBy (w.setCell ⟨c, j, none⟩ u) (some c) :=
  ⟨heap_setCell_same w c j cs T u h, ⟨rfl, rfl, rfl, by simp, fun k _ hk => heap_setCell_other w ⟨c, j, none⟩ k u (fun e => hk (by simp [e]))⟩⟩

theorem grown_trans {a b c : World} {row : Option Nat} (h : a.grownBy b row) (k : b.grownBy c row) : a.grownBy c row :=
  ⟨k.os.trans h.os, k.tape.trans h.tape, k.output.trans h.output, Nat.le_trans h.size k.size, fun i hi hne => (k.block i (Nat.lt_of_lt_of_le hi h.size) hne).trans (h.block i hi hne)⟩

theorem info_u8 : (Tryd.prog.info? 5).map (fun i => (i.zero, i.size, i.bytes)) = some (some (.int .u8 0), 1, 1) := by kernel_rfl

theorem below_of {w w' : World} {c B : Nat} (h : w.grownBy w' (some c)) (hB : B ≤ c) (hc : c < w.heap.size) : Below B w w' :=
  ⟨h.os, h.tape, h.output, h.size, fun k hk => h.block k (by omega) (by intro q; injection q with q; omega)⟩

theorem low8 (x : Int) : ∃ n : Nat, bits .and .i64 x 255 = (n : Int) ∧ n < 256 := by
  have h : bits .and .i64 x 255 = IntKind.i64.wrap (((BitVec.ofInt 64 x &&& BitVec.ofInt 64 255).toNat : Nat) : Int) := rfl
  have hb : (BitVec.ofInt 64 x &&& BitVec.ofInt 64 255).toNat < 256 := by
    rw [BitVec.toNat_and]
    have : (BitVec.ofInt 64 255).toNat = 255 := by decide
    rw [this]
    exact Nat.lt_of_le_of_lt Nat.and_le_right (by decide)
  refine ⟨_, ?_, hb⟩
  rw [h, IntKind.wrap_i64]
  omega

set_option maxRecDepth 100000 in
set_option maxHeartbeats 800000 in
theorem byte_any (c : Nat) (v : Value) (l : List UInt8) (B : Nat) (w : World) (hc : Cur w c v l) (hr : Reads w v l B) (hB : B ≤ c) :
    Calls Tryd.prog 126 #[.pointer (some ⟨c, 0, none⟩)] w fun e w' => ∃ x : Nat, e = .returned (.int .i64 x) ∧ x < 256 ∧ Cur w' c v l ∧ w.grownBy w' (some c) := by
  obtain ⟨i, h, hi, hh⟩ := hc
  obtain ⟨a, cap, rfl, hl, hcase⟩ := hr
  have c0 := cell_of_row w c 0 _ _ _ hh
  have c1 := cell_of_row w c 1 _ _ _ hh
  have c2 := cell_of_row w c 2 _ _ _ hh
  have f1 := frozen_of_row w c 1 _ _ hh
  have f2 := frozen_of_row w c 2 _ _ hh
  simp only [List.getElem?_toArray, List.getElem?_cons_zero, List.getElem?_cons_succ] at c0 c1 c2
  by_cases hlt : i < l.length
  · rcases hcase with hnil | ⟨b, off, rfl, hbB, hcell⟩
    · subst hnil; simp at hlt
    have cb := hcell i hlt
    go_enter Tryd.func126, Tryd.ntmps126
    go_wp2
    generalize wrap64 (wrap64 (h * 6364136223846793005) + 1442695040888963407) = h1
    obtain ⟨hh1, g1⟩ := cur_set (j := 2) (u := .int .i64 h1) hh
    have cb1 := (g1.cell cb (by intro q; injection q with q; simp only at q; omega))
    generalize w.setCell ⟨c, 2, none⟩ (.int .i64 h1) = w1 at *
    have G1 := Lib.hid g1
    clear g1 c0 c1 c2 f1 f2 cb hh hcell
    have c0 := cell_of_row w1 c 0 _ _ _ hh1
    have c1 := cell_of_row w1 c 1 _ _ _ hh1
    have c2 := cell_of_row w1 c 2 _ _ _ hh1
    have f1 := frozen_of_row w1 c 1 _ _ hh1
    simp only [List.setIfInBounds_toArray, List.set_cons_succ, List.set_cons_zero, List.getElem?_toArray, List.getElem?_cons_zero, List.getElem?_cons_succ] at c0 c1 c2
    have HH := Lib.hid hh1
    clear hh1
    go_quiet (fail)
    go_wp2
    obtain ⟨x, hx, hx256⟩ := low8 (bits BinOp.xor IntKind.i64 (h1 / 8589934592) (h1 / 35184372088832))
    rw [hx]
    clear hx
    have p1 : (0 : Int) ≤ (i : Int) := by omega
    have p2 : (i : Int) < (l.length : Int) := by omega
    go_quiet (fail)
    go_wp2
    go_quiet (fail)
    go_wp2
    go_ret
    obtain ⟨y, hy, hy2⟩ := low8 (wrap64 ((x : Int) + wrap64 (l[i].toNat : Int)))
    refine ⟨y, ret_int hy, hy2, ?_, ?_⟩
    · refine ⟨i + 1, h1, hlt, ?_⟩
      have := (cur_set (j := 1) (u := .int .i64 ((i : Int) + 1)) HH.out).1
      show (w1.setCell _ _).heap[c]? = _
      simpa using this
    · have k := (cur_set (j := 1) (u := .int .i64 ((i : Int) + 1)) HH.out).2
      exact grown_trans G1.out ⟨k.os, k.tape, k.output, k.size, k.block⟩
  · go_enter Tryd.func126, Tryd.ntmps126
    go_wp2
    generalize wrap64 (wrap64 (h * 6364136223846793005) + 1442695040888963407) = h1
    obtain ⟨hh1, g1⟩ := cur_set (j := 2) (u := .int .i64 h1) hh
    generalize w.setCell ⟨c, 2, none⟩ (.int .i64 h1) = w1 at *
    have G1 := Lib.hid g1
    clear g1 c0 c1 c2 f1 f2 hh hcase
    have c0 := cell_of_row w1 c 0 _ _ _ hh1
    have c1 := cell_of_row w1 c 1 _ _ _ hh1
    have c2 := cell_of_row w1 c 2 _ _ _ hh1
    simp only [List.setIfInBounds_toArray, List.set_cons_succ, List.set_cons_zero, List.getElem?_toArray, List.getElem?_cons_zero, List.getElem?_cons_succ] at c0 c1 c2
    have HH := Lib.hid hh1
    clear hh1
    go_quiet (fail)
    go_wp2
    obtain ⟨x, hx, hx256⟩ := low8 (bits BinOp.xor IntKind.i64 (h1 / 8589934592) (h1 / 35184372088832))
    rw [hx]
    clear hx
    go_quiet (fail)
    go_wp2
    go_ret
    refine ⟨x, rfl, hx256, ⟨i, h1, hi, ?_⟩, ?_⟩
    · have := HH.out
      simpa using this
    · exact grown_trans G1.out ⟨rfl, rfl, rfl, Nat.le_refl _, fun _ _ _ => rfl⟩

set_option maxRecDepth 100000 in
set_option maxHeartbeats 800000 in
/-- A draw below n: from 0 to n - 1; 0 where n is not positive. -/
theorem below_any (n : Int) (c : Nat) (v : Value) (l : List UInt8) (B : Nat) (w : World) (hc : Cur w c v l) (hr : Reads w v l B) (hB : B ≤ c) :
    Calls Tryd.prog 79 #[.pointer (some ⟨c, 0, none⟩), .int .i64 n] w fun e w' => ∃ x : Int, e = .returned (.int .i64 x) ∧ 0 ≤ x ∧ (0 < n → x < n) ∧ Cur w' c v l ∧ w.grownBy w' (some c) := by
  by_cases h0 : n ≤ 0
  · go_enter Tryd.func79, Tryd.ntmps79
    go_wp2
    go_ret
    exact ⟨0, rfl, Int.le_refl _, fun h => by omega, hc, ⟨rfl, rfl, rfl, Nat.le_refl _, fun _ _ _ => rfl⟩⟩
  · have hnp : 0 < n := by omega
    by_cases h256 : n ≤ 256
    · have hby := Lib.hid (byte_any c v l B w hc hr hB)
      go_enter Tryd.func79, Tryd.ntmps79
      go_wp2_with (go_at_call 126; refine hby.out.mono ?_; rintro e w1 ⟨x, rfl, hx, hc1, hg1⟩)
      go_ret
      exact ⟨(x : Int) % n, rfl, Int.emod_nonneg _ (by omega), fun _ => Int.emod_lt_of_pos _ hnp, hc1, hg1⟩
    · go_enter Tryd.func79, Tryd.ntmps79
      go_wp2_with fail
      refine (byte_any c v l B w hc hr hB).mono ?_
      rintro e w1 ⟨x1, rfl, hx1, hc1, hg1⟩
      have hr1 := hr.later (below_of hg1 hB (cur_size hc))
      go_wp2_with fail
      refine (byte_any c v l B w1 hc1 hr1 hB).mono ?_
      rintro e w2 ⟨x2, rfl, hx2, hc2, hg2⟩
      have hr2 := hr1.later (below_of hg2 hB (cur_size hc1))
      go_wp2_with fail
      refine (byte_any c v l B w2 hc2 hr2 hB).mono ?_
      rintro e w3 ⟨x3, rfl, hx3, hc3, hg3⟩
      have hr3 := hr2.later (below_of hg3 hB (cur_size hc2))
      go_wp2_with fail
      refine (byte_any c v l B w3 hc3 hr3 hB).mono ?_
      rintro e w4 ⟨x4, rfl, hx4, hc4, hg4⟩
      go_wp2_with fail
      go_ret
      exact ⟨_, rfl, Int.emod_nonneg _ (by omega), fun _ => Int.emod_lt_of_pos _ hnp, hc4, grown_trans (grown_trans (grown_trans hg1 hg2) hg3) hg4⟩

theorem grown_refl (w : World) (row : Option Nat) : w.grownBy w row := ⟨rfl, rfl, rfl, Nat.le_refl _, fun _ _ _ => rfl⟩

set_option maxRecDepth 100000 in
set_option maxHeartbeats 800000 in
/-- A new cursor. -/
theorem new_any (v : Value) (l : List UInt8) (B : Nat) (w : World) (hr : Reads w v l B) :
    Calls Tryd.prog 77 #[v] w fun e w' => e = .returned (.pointer (some ⟨w.heap.size, 0, none⟩)) ∧ Cur w' w.heap.size v l ∧ w.grownBy w' none := by
  obtain ⟨a, cap, rfl, hl, hcase⟩ := hr
  go_enter Tryd.func77, Tryd.ntmps77
  go_wp2
  go_loop [3, 4] (fun h i => ∃ (k : Nat) (x : Int), k ≤ l.length ∧ i = .int .i64 k ∧ h = .int .i64 x) (fun _ i => l.length - (intOf i).toNat)
  case atStart => exact ⟨0, _, Nat.zero_le _, rfl, rfl⟩
  case round =>
    obtain ⟨k, x, hk, rfl, rfl⟩ := hrel
    by_cases hlt : k < l.length
    · rcases hcase with hnil | ⟨b, off, rfl, hbB, hcell⟩
      · subst hnil; simp at hlt
      have cb := hcell k hlt
      clear hcell
      by_cases h4 : k < 4000
      · go_wp2
        go_round
        case rel => exact ⟨k + 1, _, by omega, by go_num, rfl⟩
        case measure => simp [intOf]; omega
      · go_wp2
        go_ret
        refine ⟨rfl, ⟨0, x, Nat.zero_le _, ?_⟩, World.grownBy_alloc _ _ _⟩
        exact heap_alloc_new w _
    · clear hcase
      go_wp2
      all_goals go_ret
      all_goals refine ⟨rfl, ⟨0, x, Nat.zero_le _, ?_⟩, World.grownBy_alloc _ _ _⟩
      all_goals exact heap_alloc_new w _

set_option maxRecDepth 100000 in
set_option maxHeartbeats 800000 in
/-- One of the listed numbers. -/
theorem pick_any (zs : List Int) (b : Nat) (hzl : 0 < zs.length) (hz64 : zs.length ≤ 100000) (c : Nat) (v : Value) (l : List UInt8) (B : Nat) (w : World) (hc : Cur w c v l) (hr : Reads w v l B) (hB : B ≤ c)
    (hbc : b ≠ c) (hzs : ∀ t, t < zs.length → w.cell? ⟨b, t, none⟩ = some (.int .i64 (zs.getD t 0))) :
    Calls Tryd.prog 124 #[.pointer (some ⟨c, 0, none⟩), .slice (some ⟨b, 0, none⟩) zs.length zs.length] w fun e w' =>
      ∃ t, t < zs.length ∧ e = .returned (.int .i64 (zs.getD t 0)) ∧ Cur w' c v l ∧ w.grownBy w' (some c) := by
  have hby := Lib.hid (below_any zs.length c v l B w hc hr hB)
  have Hzs := Lib.hid hzs
  clear hzs
  go_enter Tryd.func124, Tryd.ntmps124
  go_wp2_with fail
  refine hby.out.mono ?_
  rintro e w1 ⟨x, rfl, hx0, hxn, hc1, hg1⟩
  obtain ⟨t, rfl⟩ := Int.eq_ofNat_of_zero_le hx0
  have hxn' := hxn (by omega)
  have ht : t < zs.length := by omega
  have hcell := hg1.cell (Hzs.out t ht) (by intro q; injection q with q; simp only at q; omega)
  clear hxn hxn'
  go_wp2_with fail
  go_ret
  exact ⟨t, ht, ret_int (by simp [ht]), hc1, hg1⟩

/-- The numbers that the laws draw from. -/
def nums : List Int := [-1, 0, 127, 128, 255, 256, 16383, 16384, 65535, 65536, 562949953421311, 562949953421312, 999999999, 1000000000, -999999999, 9223372036854775807, -9223372036854775808]
theorem nums_ok : ∀ t : Fin 17, -9223372036854775808 ≤ nums.getD t.val 0 ∧ nums.getD t.val 0 ≤ 9223372036854775807 := by decide

theorem nums_cells : ∀ t : Fin 17, (#[.int .i64 (-1), .int .i64 0, .int .i64 127, .int .i64 128, .int .i64 255, .int .i64 256, .int .i64 16383, .int .i64 16384, .int .i64 65535, .int .i64 65536, .int .i64 562949953421311, .int .i64 562949953421312, .int .i64 999999999, .int .i64 1000000000, .int .i64 (-999999999), .int .i64 9223372036854775807, .int .i64 (-9223372036854775808)] : Array Value)[t.val]? = some (.int .i64 (nums.getD t.val 0)) := by
  intro t
  obtain ⟨t, ht⟩ := t
  rcases (show t = 0 ∨ t = 1 ∨ t = 2 ∨ t = 3 ∨ t = 4 ∨ t = 5 ∨ t = 6 ∨ t = 7 ∨ t = 8 ∨ t = 9 ∨ t = 10 ∨ t = 11 ∨ t = 12 ∨ t = 13 ∨ t = 14 ∨ t = 15 ∨ t = 16 by omega) with rfl | rfl | rfl | rfl | rfl | rfl | rfl | rfl | rfl | rfl | rfl | rfl | rfl | rfl | rfl | rfl | rfl <;> rfl

theorem wrap_ok (x : Int) : -9223372036854775808 ≤ wrap64 x ∧ wrap64 x ≤ 9223372036854775807 := by
  unfold wrap64
  omega


theorem own_kept {w w' : World} {base c : Nat} {e : TypeId} {v : Value} {l : List UInt8} (h : Own w base e v l) (hg : w.grownBy w' (some c)) (hc : c < base) : Own w' base e v l := by
  refine World.ownsRow.kept h hg ?_
  cases hv : v.ownBlock with
  | none => exact .inl rfl
  | some k =>
    refine .inr ?_
    have := World.ownsRow.lt h k hv
    intro q
    injection q with q
    omega

theorem grown_own {w w1 w2 : World} {c : Nat} (h : w.grownBy w1 (some c)) (hb : Below w.heap.size w1 w2) : w.grownBy w2 (some c) :=
  ⟨hb.os.trans h.os, hb.tape.trans h.tape, hb.output.trans h.output, Nat.le_trans h.size hb.size, fun k hk hne => (hb.block k hk).trans (h.block k hk hne)⟩

theorem cur_below {w w' : World} {B c : Nat} {v : Value} {l : List UInt8} (h : Cur w c v l) (hb : Below B w w') (hc : c < B) : Cur w' c v l := by
  obtain ⟨i, x, hi, hh⟩ := h
  exact ⟨i, x, hi, by rw [hb.block c hc]; exact hh⟩


/-- An argument of type []byte. -/
theorem reads_of {H : Type} {enc : TypeId × Value → H} {P : Program} {W : World} {base : Nat} {t e : TypeId} {v : Value} {d : DataW H} {ps : List MemPlace} (ht : P.underlying t = some (.slice e)) (he : P.underlying e = some (.int .u8)) (hc : P.cellsOf e = 1)
    (hval : Value.okWide P W .any base t v) (hd : DataW.Trod enc P W 0 (fun _ => true) true t v d ps) : ∃ l, Reads W v l W.heap.size := by
  obtain ⟨a, len, cap, rfl⟩ := Go.WideShapes.okWide_slice ht hval
  obtain ⟨fuel, hf⟩ := hd
  rcases Go.ChangeShapes.open_ints ht he hc hf with ⟨hcs, _⟩ | ⟨ad, len', cap', zs, hcs, _, hl, hm, hz, _, hcell, hwz⟩
  · simp [Value.cells] at hcs
    obtain ⟨rfl, rfl, rfl⟩ := hcs
    exact ⟨[], none, 0, rfl, by simp, .inl rfl⟩
  · simp [Value.cells] at hcs
    obtain ⟨rfl, rfl, rfl⟩ := hcs
    simp only [if_true] at hz
    have hml : len ≤ 9223372036854775807 := by unfold maxLen at hm; omega
    have hlen : ((zs.take len).map fun z => UInt8.ofNat z.toNat).length = len := by simp; omega
    refine ⟨(zs.take len).map fun z => UInt8.ofNat z.toNat, some ad, cap, by rw [hlen], by rw [hlen]; exact hml, ?_⟩
    by_cases h0 : len = 0
    · subst h0
      exact .inl rfl
    · have hspot : ad.spot = none := by simpa [Addr.add] using World.cell?_spot (hcell 0 (by omega))
      have hblk : ad.block < W.heap.size := by simpa [Addr.add] using World.block_lt_of_cell? W _ (hcell 0 (by omega))
      obtain ⟨b, off, sp⟩ := ad
      simp only at hspot hblk
      subst hspot
      refine .inr ⟨b, off, rfl, hblk, fun t ht' => ?_⟩
      rw [hlen] at ht'
      have h1 := hcell t (by omega)
      have ha : (⟨b, off, none⟩ : Addr).add t = ⟨b, off + t, none⟩ := by unfold Addr.add; split <;> simp_all
      rw [ha] at h1
      rw [h1]
      have hzt : zs.getD t 0 = zs[t]'(by omega) := by simp [List.getD, show t < zs.length by omega]
      have hw := hwz _ (List.getElem_mem (show t < zs.length by omega))
      rw [hzt]
      simp only [List.getElem_map, List.getElem_take]
      simp [Lit.wf, IntKind.min, IntKind.max, IntKind.signed, IntKind.bits] at hw
      congr 2
      simp
      omega




theorem big_any (v : Value) (l : List UInt8) (B : Nat) (w : World) (hr : Reads w v l B) :
    Calls Tryd.prog 27 #[v] w fun e w' => e = .returned (.bool (decide (1048576 < l.length))) ∧ w = w' := by
  obtain ⟨a, cap, rfl, hl, _⟩ := hr
  go_enter Tryd.func27, Tryd.ntmps27
  go_wp2
  go_ret
  exact ⟨by simp; omega, rfl⟩
end Go.Proofs.YtdjgaffiildijabDoor.Draw

namespace Go.Proofs.YtdjgaffiildijabDoor.LocDraw
open Go Go.RowKit Byt Ints IntsLaw IntsWalk Draw

theorem owni_kept {w w' : World} {base c : Nat} {e : TypeId} {u : Value} {l : List Int} (h : OwnI w base e u l) (hg : w.grownBy w' (some c)) (hc : c < base) : OwnI w' base e u l := by
  refine World.ownsRow.kept h hg ?_
  cases hv : u.ownBlock with
  | none => exact .inl rfl
  | some k =>
    refine .inr ?_
    have := World.ownsRow.lt h k hv
    intro q
    injection q with q
    omega
theorem owni_far {w : World} {base g1 n cap : Nat} {e : TypeId} {l : List Int} {p : Addr} (u : Value) (h : OwnI w base e (.slice (some ⟨g1, 0, none⟩) n cap) l) (hp : g1 ≠ p.block) : OwnI (w.setCell p u) base e (.slice (some ⟨g1, 0, none⟩) n cap) l :=
  World.ownsRow.kept (row := some p.block) h ⟨rfl, rfl, rfl, by simp, fun i _ hne => heap_setCell_other w p i u (by intro q; exact hne (by rw [q]))⟩ (.inr (by simpa [Value.ownBlock] using hp))
theorem wrap_inr (x : Int) : -9223372036854775808 ≤ (if 0 < IntKind.i64.wrap x then IntKind.i64.wrap x else 0) ∧ (if 0 < IntKind.i64.wrap x then IntKind.i64.wrap x else 0) ≤ 9223372036854775807 := by
  rw [IntKind.wrap_i64]
  split <;> omega
theorem list_cellsI (zs : List Int) (w : World) (T : TypeId) : ∀ t, t < zs.length → (w.alloc (.cells (zs.map fun z => Value.int .i64 z).toArray T (0, 0))).cell? ⟨w.heap.size, t, none⟩ = some (.int .i64 (zs.getD t 0)) := by
  intro t ht
  rw [World.cell?_alloc_mark]
  simp [ht]
theorem cur_allocI {w : World} {c : Nat} {v : Value} {l : List UInt8} (o : Obj) (h : Cur w c v l) : Cur (w.alloc o) c v l :=
  h.kept (World.grownBy_alloc w o none) (by intro q; cases q)
theorem grown_allocI {w w' : World} {c : Nat} (o : Obj) (h : w.grownBy w' (some c)) : w.grownBy (w'.alloc o) (some c) :=
  grown_trans h (World.grownBy_alloc w' o (some c))
theorem cur_farI {w : World} {c : Nat} {v : Value} {l : List UInt8} {p : Addr} (u : Value) (h : Cur w c v l) (hp : c ≠ p.block) : Cur (w.setCell p u) c v l := by
  obtain ⟨i, x, hi, hh⟩ := h
  exact ⟨i, x, hi, by rw [heap_setCell_other w p c u hp]; exact hh⟩
theorem grown_newI {w w' : World} {c : Nat} {p : Addr} (u : Value) (h : w.grownBy w' (some c)) (hp : w.heap.size ≤ p.block) : w.grownBy (w'.setCell p u) (some c) :=
  ⟨h.os, h.tape, h.output, by show _ ≤ (w'.setCell p u).heap.size; simp; exact h.size, fun k hk hne => (heap_setCell_other w' p k u (by omega)).trans (h.block k hk hne)⟩
theorem inr_set {l : List Int} (h : InR l) (j : Nat) {x : Int} (hx : -9223372036854775808 ≤ x ∧ x ≤ 9223372036854775807) : InR (l.set j x) := fun y hy => by
  rcases List.mem_or_eq_of_mem_set hy with q | q
  · exact h y q
  · rw [q]; exact hx
theorem inr_snoc {l : List Int} (h : InR l) {x : Int} (hx : -9223372036854775808 ≤ x ∧ x ≤ 9223372036854775807) : InR (l ++ [x]) := fun y hy => by
  rcases List.mem_append.1 hy with q | q
  · exact h y q
  · rw [List.mem_singleton.1 q]; exact hx

theorem form_some {w : World} {base : Nat} {e : TypeId} {o : Value} {ls : List Int} {G n : Nat} (h : OwnI w base e o ls) (hn : ls = [] → o = .slice (some ⟨G, 0, none⟩) 0 0) (hlen : ls.length = n) : ∃ g cap, o = .slice (some ⟨g, 0, none⟩) n cap := by
  subst hlen
  rcases h.form with ⟨_, h2⟩ | ⟨g, cap, h1, _⟩
  · have := hn h2
    subst h2
    exact ⟨G, 0, this⟩
  · exact ⟨g, cap, h1⟩

theorem once_anyI (n : Int) (c : Nat) (v : Value) (l : List UInt8) (B : Nat) (w : World) (hc : Cur w c v l) (hr : Reads w v l B) (hB : B ≤ c) :
    Calls Tryd.prog 94 #[.pointer (some ⟨c, 0, none⟩), .int .i64 n] w fun e w' => ∃ b : Bool, e = .returned (.bool b) ∧ Cur w' c v l ∧ w.grownBy w' (some c) := by
  have hby := Lib.hid (below_any n c v l B w hc hr hB)
  go_enter Tryd.func94, Tryd.ntmps94
  go_wp2_with fail
  refine hby.out.mono ?_
  rintro e w1 ⟨x, rfl, hx0, hx1, hc1, hg1⟩
  go_wp2_with fail
  go_ret
  exact ⟨x == 0, rfl, hc1, hg1⟩

def zl : List Int := [-1, 7, 8, 1000]
theorem zl_ok : ∀ t : Fin 4, -9223372036854775808 ≤ zl.getD t.val 0 ∧ zl.getD t.val 0 ≤ 9223372036854775807 := by decide


def zs15 : List Int := [-1, 0, 1, 2, 4, 5, 16, 17, 64, 1024, 1025, 4096, 4097, 9223372036854775807, -9223372036854775808]
theorem zs15_ok : ∀ t : Fin 15, -9223372036854775808 ≤ zs15.getD t.val 0 ∧ zs15.getD t.val 0 ≤ 9223372036854775807 := by decide
def zs4 : List Int := [0, 1, 4, 8]
theorem zs4_ok : ∀ t : Fin 4, 0 ≤ zs4.getD t.val 0 ∧ zs4.getD t.val 0 ≤ 8 := by decide


end Go.Proofs.YtdjgaffiildijabDoor.LocDraw

namespace Go.Proofs.YtdjgaffiildijabDoor.QryDraw
open Go Go.RowKit Byt Ints IntsLaw Cd Rows2 Tab TabSpec Exact Atom QryMath QrySpec QryImp MkAtom SlMath Draw QryPar
open TabParse (strC strsC info_str)

set_option maxRecDepth 100000 in
set_option maxHeartbeats 800000 in
theorem pickS_any (zs : List ByteArray) (b : Nat) (hzl : 0 < zs.length) (hz64 : zs.length ≤ 100000) (c : Nat) (v : Value) (l : List UInt8) (B : Nat) (w : World) (hc : Cur w c v l) (hr : Reads w v l B) (hB : B ≤ c)
    (hbc : b ≠ c) (hzs : ∀ t, t < zs.length → w.cell? ⟨b, t, none⟩ = some (.string (zs.getD t ⟨#[]⟩))) :
    Calls Tryd.prog 125 #[.pointer (some ⟨c, 0, none⟩), .slice (some ⟨b, 0, none⟩) zs.length zs.length] w fun e w' =>
      ∃ t, t < zs.length ∧ e = .returned (.string (zs.getD t ⟨#[]⟩)) ∧ Cur w' c v l ∧ w.grownBy w' (some c) := by
  have hby := Lib.hid (below_any zs.length c v l B w hc hr hB)
  have Hzs := Lib.hid hzs
  clear hzs
  go_enter Tryd.func125, Tryd.ntmps125
  go_wp2_with fail
  refine hby.out.mono ?_
  rintro e w1 ⟨x, rfl, hx0, hxn, hc1, hg1⟩
  obtain ⟨t, rfl⟩ := Int.eq_ofNat_of_zero_le hx0
  have hxn' := hxn (by omega)
  have ht : t < zs.length := by omega
  have hcell := hg1.cell (Hzs.out t ht) (by intro q; injection q with q; simp only at q; omega)
  clear hxn hxn'
  generalize hq : zs.getD t ⟨#[]⟩ = z at *
  have HQ := Lib.hid hq
  clear hq
  go_wp2_with fail
  go_ret
  exact ⟨t, ht, by rw [HQ.out]; rfl, hc1, hg1⟩

/-- The cursor and its bytes. -/
def CR (w : World) (c : Nat) (v : Value) (l : List UInt8) (B : Nat) : Prop := Cur w c v l ∧ Reads w v l B ∧ B ≤ c
theorem CR.keep {w w' : World} {c : Nat} {v : Value} {l : List UInt8} {B : Nat} {fp : List Nat} (h : CR w c v l B) (ht : Cd.Touch fp w w') (hc : c ∉ fp) (hfp : ∀ b ∈ fp, B ≤ b) : CR w' c v l B := by
  obtain ⟨h1, h2, h3⟩ := h
  have hlt := cur_size h1
  refine ⟨?_, h2.later ⟨ht.os, ht.tape, ht.output, ht.size, fun k hk => ht.block k (by omega) (fun q => by have := hfp k q; omega)⟩, h3⟩
  obtain ⟨i, x, hi, hh⟩ := h1
  exact ⟨i, x, hi, by rw [ht.block c hlt hc]; exact hh⟩
theorem CR.later {w w' : World} {c : Nat} {v : Value} {l : List UInt8} {B : Nat} (h : CR w c v l B) (hb : Below w.heap.size w w') : CR w' c v l B :=
  h.keep (fp := []) (Cd.Touch.of_below hb) (by simp) (fun b hb => by cases hb)
theorem CR.lt {w : World} {c : Nat} {v : Value} {l : List UInt8} {B : Nat} (h : CR w c v l B) : c < w.heap.size := cur_size h.1
theorem touch_of {w w' : World} {c : Nat} (h : w.grownBy w' (some c)) : Cd.Touch [c] w w' := ⟨h.os, h.tape, h.output, h.size, fun k hk hn => h.block k hk (by simpa using hn)⟩
theorem CR.after {w w' : World} {c : Nat} {v : Value} {l : List UInt8} {B : Nat} (h : CR w c v l B) (hc : Cur w' c v l) (hg : w.grownBy w' (some c)) : CR w' c v l B := by
  obtain ⟨h1, h2, h3⟩ := h
  exact ⟨hc, h2.later (below_of hg h3 (cur_size h1)), h3⟩
theorem below_cr (n : Int) (c : Nat) (v : Value) (l : List UInt8) (B : Nat) (w : World) (h : CR w c v l B) :
    Calls Tryd.prog 79 #[.pointer (some ⟨c, 0, none⟩), .int .i64 n] w fun e w' => ∃ x : Int, e = .returned (.int .i64 x) ∧ 0 ≤ x ∧ (0 < n → x < n) ∧ CR w' c v l B ∧ Cd.Touch [c] w w' := by
  refine (below_any n c v l B w h.1 h.2.1 h.2.2).mono ?_
  rintro e w' ⟨x, rfl, h1, h2, h3, h4⟩
  exact ⟨x, rfl, h1, h2, h.after h3 h4, touch_of h4⟩
theorem once_cr (n : Int) (c : Nat) (v : Value) (l : List UInt8) (B : Nat) (w : World) (h : CR w c v l B) :
    Calls Tryd.prog 94 #[.pointer (some ⟨c, 0, none⟩), .int .i64 n] w fun e w' => ∃ b : Bool, e = .returned (.bool b) ∧ CR w' c v l B ∧ Cd.Touch [c] w w' := by
  refine (LocDraw.once_anyI n c v l B w h.1 h.2.1 h.2.2).mono ?_
  rintro e w' ⟨x, rfl, h3, h4⟩
  exact ⟨x, rfl, h.after h3 h4, touch_of h4⟩
theorem pick_cr (zs : List ByteArray) (b : Nat) (hzl : 0 < zs.length) (hz64 : zs.length ≤ 100000) (c : Nat) (v : Value) (l : List UInt8) (B : Nat) (w : World) (h : CR w c v l B)
    (hbc : b ≠ c) (hzs : ∀ t, t < zs.length → w.cell? ⟨b, t, none⟩ = some (.string (zs.getD t ⟨#[]⟩))) :
    Calls Tryd.prog 125 #[.pointer (some ⟨c, 0, none⟩), .slice (some ⟨b, 0, none⟩) zs.length zs.length] w fun e w' => ∃ s, s ∈ zs ∧ e = .returned (.string s) ∧ CR w' c v l B ∧ Cd.Touch [c] w w' := by
  refine (pickS_any zs b hzl hz64 c v l B w h.1 h.2.1 h.2.2 hbc hzs).mono ?_
  rintro e w' ⟨t, ht, rfl, h3, h4⟩
  exact ⟨_, by rw [List.getD_eq_getElem?_getD, List.getElem?_eq_getElem ht]; exact List.getElem_mem ht, rfl, h.after h3 h4, touch_of h4⟩
theorem pickI_cr (zs : List Int) (b : Nat) (hzl : 0 < zs.length) (hz64 : zs.length ≤ 100000) (c : Nat) (v : Value) (l : List UInt8) (B : Nat) (w : World) (h : CR w c v l B)
    (hbc : b ≠ c) (hzs : ∀ t, t < zs.length → w.cell? ⟨b, t, none⟩ = some (.int .i64 (zs.getD t 0))) :
    Calls Tryd.prog 124 #[.pointer (some ⟨c, 0, none⟩), .slice (some ⟨b, 0, none⟩) zs.length zs.length] w fun e w' => ∃ x, x ∈ zs ∧ e = .returned (.int .i64 x) ∧ CR w' c v l B ∧ Cd.Touch [c] w w' := by
  refine (pick_any zs b hzl hz64 c v l B w h.1 h.2.1 h.2.2 hbc hzs).mono ?_
  rintro e w' ⟨t, ht, rfl, h3, h4⟩
  exact ⟨_, by rw [List.getD_eq_getElem?_getD, List.getElem?_eq_getElem ht]; exact List.getElem_mem ht, rfl, h.after h3 h4, touch_of h4⟩
/-- The known queries. -/
def knownQ : List ByteArray := [⟨#[114, 40, 88, 89, 41]⟩, ⟨#[114, 40, 88, 89, 41, 32, 115, 40, 89, 90, 41]⟩, ⟨#[114, 40, 88, 89, 41, 32, 115, 40, 89, 90, 41, 32, 116, 40, 90, 85, 41]⟩, ⟨#[114, 40, 88, 89, 41, 32, 115, 40, 89, 90, 41, 32, 116, 40, 90, 88, 41]⟩, ⟨#[114, 40, 88, 89, 41, 32, 115, 40, 88, 90, 41, 32, 116, 40, 88, 85, 41]⟩, ⟨#[114, 40, 88, 89, 41, 32, 115, 40, 89, 90, 41, 32, 118, 40, 89, 41]⟩, ⟨#[117, 40, 88, 89, 90, 41, 32, 115, 40, 90, 85, 41]⟩, ⟨#[117, 40, 88, 89, 90, 41, 32, 114, 40, 88, 89, 41, 32, 118, 40, 90, 41]⟩, ⟨#[114, 40, 88, 89, 41, 32, 115, 40, 89, 90, 41, 32, 116, 40, 90, 85, 41, 32, 118, 40, 88, 41]⟩, ⟨#[114, 40, 88, 89, 41, 32, 114, 40, 89, 90, 41]⟩, ⟨#[114, 40, 88, 89, 41, 32, 115, 40, 89, 88, 41]⟩, ⟨#[118, 40, 88, 41, 32, 114, 40, 88, 89, 41, 32, 115, 40, 89, 90, 41, 32, 116, 40, 90, 85, 41]⟩, ⟨#[114, 40, 88, 89, 41, 32, 115, 40, 89, 90, 41, 32, 116, 40, 90, 85, 41, 32, 115, 40, 85, 88, 41]⟩]
theorem known_ok : ∀ s ∈ knownQ, pOk s = true ∧ s.size ≤ 1048576 := by decide +kernel
end Go.Proofs.YtdjgaffiildijabDoor.QryDraw

namespace Go.Proofs.YtdjgaffiildijabDoor.QryDraw
open Go Go.RowKit Byt Ints IntsLaw Cd Rows2 Tab TabSpec Exact Atom QryMath QrySpec QryImp MkAtom SlMath Draw QryPar
open TabParse (strC strsC info_str)

theorem cells_str {w : World} {b : Nat} {zs : List ByteArray} {e : TypeId} (h : w.heap[b]? = some (.cells (zs.map Value.string).toArray e (0, 0))) : ∀ t, t < zs.length → w.cell? ⟨b, t, none⟩ = some (.string (zs.getD t ⟨#[]⟩)) := fun t ht => by
  simp [World.cell?, h, ht]
theorem cells_int {w : World} {b : Nat} {zs : List Int} {e : TypeId} (h : w.heap[b]? = some (.cells (zs.map fun z => Value.int .i64 z).toArray e (0, 0))) : ∀ t, t < zs.length → w.cell? ⟨b, t, none⟩ = some (.int .i64 (zs.getD t 0)) := fun t ht => by
  simp [World.cell?, h, ht]
theorem qans_yes {s : ByteArray} {w : World} {e : Ending} {w' : World} (h : QAns s w e w') (hp : pOk s = true) : ∃ u fp, e = .returned (.tuple #[.agg #[.int .i64 (pN s), u], .bool true]) ∧ atomsC.ow w' w.heap.size [u] (pL s) fp ∧ fp.Nodup ∧ Below w.heap.size w w' := by
  obtain ⟨u, fp, he, ho, hn, hb⟩ := h
  rw [hp] at he ho
  exact ⟨u, fp, he, ho, hn, hb⟩
set_option maxRecDepth 100000 in
set_option maxHeartbeats 6400000 in
theorem query_any (c : Nat) (v : Value) (l : List UInt8) (B : Nat) (w : World) (h : CR w c v l B) :
    Calls Tryd.prog 123 #[.pointer (some ⟨c, 0, none⟩)] w fun e w' => ∃ n u L fp, e = .returned (.agg #[.int .i64 n, u]) ∧ atomsC.ow w' w.heap.size [u] L fp ∧ fp.Nodup ∧ qOk n L = true ∧ CR w' c v l B ∧ Cd.Touch [c] w w' := by
  have H := Lib.hid h
  have hcw := h.lt
  clear h
  go_enter Tryd.func123, Tryd.ntmps123
  go_wp2_with fail
  generalize hW : (w.alloc _).alloc _ = W
  obtain ⟨r0, r1, hz0, hb0⟩ := start2g w _ _ hW
  have HR0 := Lib.hid (Loc2.of r0)
  have hk : W.heap[w.heap.size + 1]? = some (.cells (knownQ.map Value.string).toArray 9 (0, 0)) := r1
  have HP := Lib.hid (pick_cr knownQ (w.heap.size + 1) (by decide) (by decide) c v l B W (H.out.later hb0) (by omega) (cells_str hk))
  have HB0 := Lib.hid hb0
  have HZ0 := Lib.hid hz0
  clear hW r0 r1 hz0 hb0 hk
  refine HP.out.mono ?_
  rintro e w1 ⟨s, hs, rfl, hc1, ht1⟩
  obtain ⟨hp, hsz⟩ := known_ok s hs
  have HPQ := Lib.hid ((spec_parse s w1 hsz).mono fun _ _ q => qans_yes q hp)
  have HQ := Lib.hid (pOk_iff.1 hp).1
  have HC1 := Lib.hid hc1
  have HT1 := Lib.hid ((Cd.Touch.of_below (fp := [c]) HB0.out).trans ht1)
  have HR1 := Lib.hid (HR0.out.touched ht1 (by simp; omega))
  have HZ1 := Lib.hid ht1.size
  generalize pN s = N at *
  generalize pL s = L at *
  clear hp hsz hc1 ht1 hs HP
  go_wp2_with fail
  refine HPQ.out.mono ?_
  rintro e w2 ⟨u2, fq, rfl, ho2, hn2, hb2⟩
  obtain ⟨aq, cq, rfl⟩ := Cd.ow_slice (c := atomC) ho2
  have HO2 := Lib.hid ho2
  have HN2 := Lib.hid hn2
  have HC2 := Lib.hid (HC1.out.later hb2)
  have HT2 := Lib.hid (HT1.out.trans (Cd.Touch.of_below hb2))
  have HR2 := Lib.hid (HR1.out.later hb2)
  have HZ2 := Lib.hid hb2.size
  have HFQ := Lib.hid (fun b (h : b ∈ fq) => atomsC.ow_lt ho2 b h)
  clear ho2 hn2 hb2 HPQ
  go_wp2_with fail
  generalize hW3 : w2.alloc _ = W3
  obtain ⟨rq, hz3, hb3⟩ := start1 w2 _ hW3
  have HQ3 := Lib.hid (Loc2.of rq)
  have HO3 := Lib.hid (Cd.ow_later HO2.out hb3)
  have HC3 := Lib.hid (HC2.out.later hb3)
  have HT3 := Lib.hid (HT2.out.trans (Cd.Touch.of_below hb3))
  have HR3 := Lib.hid (HR2.out.later hb3)
  have HZ3 := Lib.hid hz3
  clear hW3 rq hz3 hb3
  refine (once_cr 4 c v l B W3 HC3.out).mono ?_
  rintro e w4 ⟨bb, rfl, hc4, ht4⟩
  have hcz : c < w.heap.size := hcw
  have HC4 := Lib.hid hc4
  have HT4 := Lib.hid (HT3.out.trans ht4)
  have HR4 := Lib.hid (HR3.out.touched ht4 (by simp; omega))
  have HQ4 := Lib.hid (HQ3.out.touched ht4 (by simp; have := HZ0.out; have := HZ1.out; have := HZ2.out; omega))
  have HO4 := Lib.hid (Cd.ow_touched HO3.out ht4 (fun b hb q => by rw [List.mem_singleton.1 q] at hb; have h1 := (HFQ.out _ hb).1; have h2 := HZ0.out; have h3 := HZ1.out; omega))
  have HZ4 := Lib.hid ht4.size
  have HCW := Lib.hid hcz
  clear hc4 ht4 hcw hcz
  cases bb
  · have y0 := HQ4.out.c0
    have y1 := HQ4.out.c1
    have ykl := HQ4.out.lt
    have x0 := HR4.out.c0
    have x1 := HR4.out.c1
    have xf0 := HR4.out.f0
    have xf1 := HR4.out.f1
    go_wp2_with fail
    obtain ⟨k0, k1⟩ := set2 (w := w4) (k := w.heap.size) (x := .int .i64 N) (y := .slice aq L.length cq) x0 x1
    have hfar : w.heap.size ∉ fq := fun q => by have h1 := (HFQ.out _ q).1; have h2 := HZ0.out; have h3 := HZ1.out; omega
    refine bodyPost_ret (v := .agg #[.int .i64 N, .slice aq L.length cq]) (by simp [results, Tryd.results123, go_sem, k0, k1]) rfl ⟨N, _, L, fq, rfl, ow_setCell (ow_setCell (atomsC.ow_base HO4.out (by have := HZ0.out; have := HZ1.out; omega)) hfar _) hfar _, HN2.out, HQ.out, ?_, ?_⟩
    · exact (HC4.out.keep (touch_set _) (by simp; have := HCW.out; omega) (fun b hb => by rw [List.mem_singleton.1 hb]; have := H.out.2.2; have := HCW.out; omega)).keep (touch_set _) (by simp; have := HCW.out; omega) (fun b hb => by rw [List.mem_singleton.1 hb]; have := H.out.2.2; have := HCW.out; omega)
    · exact touch_old (touch_old HT4.out (touch_set _) (fun y hy => .inr (by rw [List.mem_singleton.1 hy]; exact Nat.le_refl _))) (touch_set _) (fun y hy => .inr (by rw [List.mem_singleton.1 hy]; exact Nat.le_refl _))
  go_wp2_with fail
  generalize hW5 : w4.alloc _ = W5
  obtain ⟨rx, hz5, hb5⟩ := start1 w4 _ hW5
  have HX5 := Lib.hid (Loc2.of rx)
  have HO5 := Lib.hid (Cd.ow_later HO4.out hb5)
  have HC5 := Lib.hid (HC4.out.later hb5)
  have HT5 := Lib.hid (HT4.out.trans (Cd.Touch.of_below hb5))
  have HR5 := Lib.hid (HR4.out.later hb5)
  have HQ5 := Lib.hid (HQ4.out.later hb5)
  have HZ5 := Lib.hid hz5
  clear hW5 rx hz5 hb5
  refine (below_cr 4 c v l B W5 HC5.out).mono ?_
  rintro e w6 ⟨x, rfl, hx0, hx4, hc6, ht6⟩
  obtain ⟨z, rfl⟩ := Int.eq_ofNat_of_zero_le hx0
  have hz4 : z < 4 := by have := hx4 (by decide); omega
  have HC6 := Lib.hid hc6
  have HT6 := Lib.hid (Cd.Touch.mono (fq := [c, w4.heap.size]) ht6 (fun b hb => by rw [List.mem_singleton.1 hb]; simp))
  have HX6 := Lib.hid (HX5.out.touched ht6 (by simp; have := HC4.out.lt; omega))
  clear hx0 hx4 hc6 ht6
  go_wp2_with fail
  have HKX := Lib.hid (show w4.heap.size < W5.heap.size ∧ c < w4.heap.size ∧ B ≤ c ∧ w.heap.size < w4.heap.size ∧ w2.heap.size < w4.heap.size ∧ c < w.heap.size ∧ w.heap.size < w1.heap.size ∧ w1.heap.size ≤ w2.heap.size from ⟨by have := HZ5.out; omega, HC4.out.lt, H.out.2.2, HR4.out.lt, HQ4.out.lt, HCW.out, HR1.out.lt, HZ2.out⟩)
  generalize hkx : w4.heap.size = kx at *
  clear hkx
  go_loopw [7] (fun nn wr => ∃ (z : Nat) (m1 : Int) (sx : Value) (LX : List A2) (fx : List Nat), z ≤ 4 ∧ nn = .int .i64 z ∧ LX.length + z ≤ 4 ∧ 0 ≤ m1 ∧ m1 ≤ 4 ∧ Loc2 wr kx (.int .i64 m1) sx ∧ atomsC.ow wr W5.heap.size [sx] LX fx ∧ fx.Nodup ∧ CR wr c v l B ∧ Cd.Touch [c, kx] W5 wr) (fun nn _ => (intOf nn).toNat)
  case atStart => exact ⟨z + 1, 0, _, [], [], by omega, by congr 1; omega, by simp; omega, by omega, by omega, HX6.out, Cd.ow_nil _ _, by simp, HC6.out, HT6.out⟩
  case round =>
    obtain ⟨z, m1, sx, LX, fx, hz4, rfl, hlz, hm0, hm4, hx, how, hnd, hcr, ht⟩ := hrel
    have HX := Lib.hid hx
    have HOW := Lib.hid how
    have HND := Lib.hid hnd
    have HCR := Lib.hid hcr
    have HT := Lib.hid ht
    have HLZ := Lib.hid (And.intro hz4 hlz)
    have HM1 := Lib.hid (And.intro hm0 hm4)
    clear hx how hnd hcr ht hlz hm0 hm4 hz4
    by_cases hz : 0 < z
    · have hz1 : (0 : Int) < (z : Int) := by omega
      have HZ := Lib.hid hz
      clear hz
      go_wp2_with fail
      refine (below_cr 5 c v l B wr HCR.out).mono ?_
      rintro e wa ⟨x, rfl, hx0, hx5, hca, hta⟩
      obtain ⟨t, rfl⟩ := Int.eq_ofNat_of_zero_le hx0
      have ht5 : t < 5 := by have := hx5 (by decide); omega
      obtain ⟨nm, hnm, hns⟩ : ∃ nm : ByteArray, ([Value.string ⟨#[114]⟩, .string ⟨#[115]⟩, .string ⟨#[116]⟩, .string ⟨#[117]⟩, .string ⟨#[118]⟩] : List Value)[t]'(by simpa using ht5) = .string nm ∧ nm.size ≤ 1 := by
        have : t = 0 ∨ t = 1 ∨ t = 2 ∨ t = 3 ∨ t = 4 := by omega
        rcases this with rfl | rfl | rfl | rfl | rfl <;> exact ⟨_, rfl, by decide⟩
      obtain ⟨m, hm, hm3⟩ : ∃ m : Nat, ([Value.int .i64 2, .int .i64 2, .int .i64 2, .int .i64 3, .int .i64 1] : List Value)[t]'(by simpa using ht5) = .int .i64 (m : Int) ∧ m ≤ 3 := by
        have : t = 0 ∨ t = 1 ∨ t = 2 ∨ t = 3 ∨ t = 4 := by omega
        rcases this with rfl | rfl | rfl | rfl | rfl
        · exact ⟨2, rfl, by decide⟩
        · exact ⟨2, rfl, by decide⟩
        · exact ⟨2, rfl, by decide⟩
        · exact ⟨3, rfl, by decide⟩
        · exact ⟨1, rfl, by decide⟩
      have t0 : (0 : Int) ≤ (t : Int) := by omega
      have t5 : (t : Int) < 5 := by omega
      have HXA := Lib.hid (HX.out.touched hta (by simp; have := HKX.out; omega))
      have HFX := Lib.hid (fun b (h : b ∈ fx) => atomsC.ow_lt HOW.out b h)
      have HOWA := Lib.hid (Cd.ow_touched HOW.out hta (fun b hb q => by rw [List.mem_singleton.1 q] at hb; have h1 := (HFX.out _ hb).1; have h2 := HKX.out; omega))
      have HCA := Lib.hid hca
      have HTA := Lib.hid (HT.out.trans (Cd.Touch.mono (fq := [c, kx]) hta (fun b hb => by rw [List.mem_singleton.1 hb]; simp)))
      have HZA := Lib.hid hta.size
      have HNS := Lib.hid hns
      have HM3 := Lib.hid hm3
      clear hx0 hx5 hca hta hns hm3
      go_wp2_with fail
      generalize hW9 : ((wa.alloc _).alloc _).alloc _ = W9
      obtain ⟨s0, s1, s2, hz9, hb9⟩ := start3 wa _ _ _ hW9
      have HA9 := Lib.hid (Loc2.of s1)
      have HC9 := Lib.hid (HCA.out.later hb9)
      have HX9 := Lib.hid (HXA.out.later hb9)
      have HOW9 := Lib.hid (Cd.ow_later HOWA.out hb9)
      have HT9 := Lib.hid (HTA.out.trans (Cd.Touch.of_below hb9))
      have HZ9 := Lib.hid hz9
      have HKA := Lib.hid (show kx < wa.heap.size + 1 ∧ wa.heap.size + 1 < W9.heap.size ∧ W5.heap.size ≤ wa.heap.size + 1 ∧ W5.heap.size ≤ W9.heap.size ∧ c < wa.heap.size + 1 from ⟨by have := HXA.out.lt; omega, by have := HZ9.out; omega, by have := HTA.out.size; omega, by have := HTA.out.size; have := HZ9.out; omega, by have := HCA.out.lt; omega⟩)
      have HZR := Lib.hid (show wr.heap.size ≤ W9.heap.size ∧ wr.heap.size < wa.heap.size + 1 from by have := HZA.out; have := HZ9.out; omega)
      clear hW9 s0 s1 s2 hz9 hb9 hnm hm HX HOW HXA HOWA HT HTA
      refine (below_cr 4 c v l B W9 HC9.out).mono ?_
      rintro e wb ⟨y, rfl, hy0, hy4, hcb, htb⟩
      obtain ⟨v0, rfl⟩ := Int.eq_ofNat_of_zero_le hy0
      have hv4 : v0 < 4 := by have := hy4 (by decide); omega
      generalize hka : wa.heap.size + 1 = ka at *
      clear hka
      have HAB := Lib.hid (HA9.out.touched htb (by simp; have := HKA.out; omega))
      have HXB := Lib.hid (HX9.out.touched htb (by simp; have := HKX.out; omega))
      have HOWB := Lib.hid (Cd.ow_touched HOW9.out htb (fun b hb q => by rw [List.mem_singleton.1 q] at hb; have h1 := (HFX.out _ hb).1; have h2 := HKX.out; omega))
      have HCB := Lib.hid hcb
      have HTB := Lib.hid (Cd.Touch.mono (fq := [c, kx, ka]) htb (fun b hb => by rw [List.mem_singleton.1 hb]; simp))
      clear hy0 hy4 hcb htb
      go_wp2_with fail
      go_loopw [11, 12] (fun vv ii wr => ∃ (i v1 : Nat) (m1 : Int) (sv : Value) (lv : List Int) (fv : List Nat), i ≤ m ∧ v1 < 4 ∧ ii = .int .i64 i ∧ vv = .int .i64 v1 ∧ lv.length = i ∧ 0 ≤ m1 ∧ m1 ≤ 4 ∧ Loc2 wr kx (.int .i64 m1) sx ∧ Loc2 wr ka (.string nm) sv ∧ rowC.ow wr W9.heap.size [sv] lv fv ∧ fv.Nodup ∧ CR wr c v l B ∧ Cd.Touch [c, kx, ka] W9 wr) (fun _ ii _ => m - (intOf ii).toNat)
      case atStart => exact ⟨0, v0, m1, _, [], [], Nat.zero_le _, hv4, rfl, rfl, rfl, HM1.out.1, HM1.out.2, HXB.out, HAB.out, Cd.ow_nil _ _, by simp, HCB.out, HTB.out⟩
      case round =>
        obtain ⟨i, v1, m2, sv, lv, fv, him, hv14, rfl, rfl, hlv, h20, h24, hx, ha, how, hnd, hcr, ht⟩ := hrel
        have HXJ := Lib.hid hx
        have HAJ := Lib.hid ha
        have HOJ := Lib.hid how
        have HNJ := Lib.hid hnd
        have HCJ := Lib.hid hcr
        have HTJ := Lib.hid ht
        have HFV := Lib.hid (fun b (h : b ∈ fv) => (rowC.ow_lt how b h).1)
        have HLV := Lib.hid hlv
        clear hx ha how hnd hcr ht hlv
        by_cases hi : i < m
        · have HI := Lib.hid hi
          have HV1 := Lib.hid hv14
          obtain ⟨as_, cs_, rfl⟩ := Cd.ow_slice HOJ.out
          have g1 := HAJ.out.c1
          have HDS := Lib.hid (HTJ.out.size)
          have i1 : (i : Int) < (m : Int) := by omega
          have hAl := below_alloc wr (.cells #[.int .i64 (v1 : Int)] 3)
          have HAL := Lib.hid (And.intro (Cd.ow_later HOJ.out hAl) (show (wr.alloc (.cells #[.int .i64 (v1 : Int)] 3)).cell? ⟨wr.heap.size, 0, none⟩ = some (.int .i64 (v1 : Int)) by simp))
          have HA3 := Lib.hid (show Cd.int.ow (wr.alloc (.cells #[.int .i64 (v1 : Int)] 3)) W9.heap.size [.int .i64 (v1 : Int)] (v1 : Int) [] from ⟨rfl, ⟨by omega, by omega⟩, rfl⟩)
          have HAB := Lib.hid (Nat.le_trans HDS.out hAl.size)
          have HXE := Lib.hid (HXJ.out.later hAl)
          have HAE := Lib.hid (HAJ.out.later hAl)
          have HCE := Lib.hid (HCJ.out.later hAl)
          have HTE := Lib.hid (HTJ.out.trans (Cd.Touch.of_below hAl))
          have HLEN := Lib.hid (show lv.length + 1 ≤ 1000000000000 by rw [HLV.out]; have := HM3.out; omega)
          clear hAl hi him hv14
          go_wp2_with (first | (at_builtin; refine Cd.wpList_appendE (c := Cd.int) rfl rfl (.tmp 52) (.tmp 54) 57 rfl W9.heap.size 3 (.int .i64 0) 8 Tryd.underlying57 info_i64 rfl (by decide) _ _ _ rfl HAL.out.1 HNJ.out _ _ rfl HAL.out.2 _ _ HA3.out (by simp) (by simp) HLEN.out HAB.out ?_))
          intro g capn w3 fp3 ho3 hn3 hs3 ht3
          have hkq : kx ∉ fv := fun q => by have h1 := HFV.out _ q; have h2 := HKA.out; omega
          have hka : ka ∉ fv := fun q => by have h1 := HFV.out _ q; have h2 := HKA.out; omega
          have hkc : c ∉ fv := fun q => by have h1 := HFV.out _ q; have h2 := HKA.out; omega
          have HX3 := Lib.hid (HXE.out.touched ht3 hkq)
          have HK3 := Lib.hid (HAE.out.touched ht3 hka)
          have HC3 := Lib.hid (HCE.out.keep ht3 hkc (fun b hb => by have h1 := HFV.out _ hb; have h2 := HKA.out; have h3 := HKX.out; omega))
          have HT3 := Lib.hid (touch_old HTE.out ht3 (fun y hy => .inr (HFV.out y hy)))
          have HO3 := Lib.hid (show rowC.ow w3 W9.heap.size _ (lv ++ [(v1 : Int)]) _ from ho3)
          have HF3 := Lib.hid (fun b (h : b ∈ fp3) => (rowC.ow_lt ho3 b h).1)
          have hne : ¬ kx = ka := by have := HKA.out; omega
          have hne2 : ¬ ka = kx := fun q => hne q.symm
          have HNE := Lib.hid hne
          have HN3 := Lib.hid hn3
          clear ho3 hs3 ht3 hkq hka g1 hn3 hkc
          have q0 := HX3.out.c0
          have qf0 := HX3.out.f0
          have a1 := HK3.out.c1
          have af1 := HK3.out.f1
          have v14 : (v1 : Int) < 4 := by have := HV1.out; omega
          have v10 : (0 : Int) ≤ (v1 : Int) := by omega
          have i3 : (i : Int) < 3 := by have := HI.out; have := HM3.out; omega
          have i0 : (0 : Int) ≤ (i : Int) := by omega
          go_wp2_with fail
          go_roundw
          case rel => exact ⟨i + 1, (v1 + 1) % 4, max m2 ((v1 : Int) + 1), _, _, fp3, HI.out, Nat.mod_lt _ (by decide), by go_num, by go_num, by rw [List.length_append, HLV.out]; rfl, by omega, by omega, loc2_set0 (HX3.out.set_far (fun q => HNE.out q.symm) _) _, (loc2_set1 HK3.out _).set_far (fun q => HNE.out q) _, ow_setCell (ow_setCell HO3.out (fun q => by have h1 := HF3.out _ q; have h2 := HKA.out; simp only at h1; omega) _) (fun q => by have h1 := HF3.out _ q; have h2 := HKA.out; simp only at h1; omega) _, HN3.out, (HC3.out.keep (touch_set _) (by simp; have := HKA.out; omega) (fun b hb => by rw [List.mem_singleton.1 hb]; have := HKA.out; have := HKX.out; omega)).keep (touch_set _) (by simp; have := HKX.out; omega) (fun b hb => by rw [List.mem_singleton.1 hb]; have := HKX.out; omega), touch_old (touch_old HT3.out (touch_set _) (fun y hy => .inl (by rw [List.mem_singleton.1 hy]; simp))) (touch_set _) (fun y hy => .inl (by rw [List.mem_singleton.1 hy]; simp))⟩
          case measure => have := HI.out; simp [intOf]; omega
        · have ei : i = m := by omega
          subst ei
          obtain ⟨asl, csl, rfl⟩ := Cd.ow_slice (c := atomC) HOW9.out
          obtain ⟨av, cv, rfl⟩ := Cd.ow_slice HOJ.out
          have hfar : ∀ b ∈ fx, b ∉ [c, kx, ka] := fun b hb q => by
            have h1 := HFX.out b hb
            have h2 := HKA.out
            have h3 := HKX.out
            have h4 := HZR.out
            simp only [List.mem_cons, List.not_mem_nil, or_false] at q
            omega
          have hOA := Cd.ow_touched HOW9.out HTJ.out hfar
          have hAl := below_alloc wr (.cells #[.string nm, .slice av lv.length cv] 66)
          have HOA := Lib.hid (Cd.ow_later hOA hAl)
          have HAT2 := Lib.hid (at2 (row_alloc wr (.cells #[.string nm, .slice av lv.length cv] 66)))
          have HNZ := Lib.hid (show nm.size ≤ maxLen by have := HNS.out; unfold maxLen; omega)
          have HOT := Lib.hid (atom_ow (nm := nm) (rowC.ow_base (Cd.ow_later HOJ.out hAl) (show W5.heap.size ≤ W9.heap.size by have := HKA.out; omega)) HNZ.out)
          have HFF := Lib.hid (show ∀ b ∈ fv, b ∉ fx from fun b hb q => by
            have h1 := HFV.out b hb
            have h2 := (HFX.out b q).2
            have h3 := HZR.out
            have h4 := HKA.out
            omega)
          have HBS := Lib.hid (show W5.heap.size ≤ (wr.alloc (.cells #[.string nm, .slice av lv.length cv] 66)).heap.size by
            have h1 := hAl.size
            have h2 := HTJ.out.size
            have h3 := HKA.out
            omega)
          have HXE := Lib.hid (HXJ.out.later hAl)
          have HCE := Lib.hid (HCJ.out.later hAl)
          have HTE := Lib.hid (HTJ.out.trans (Cd.Touch.of_below hAl))
          have HLK := Lib.hid (show LX.length + 1 ≤ 1000000000 by have := HLZ.out; omega)
          have i1 : ¬ (i : Int) < (i : Int) := by omega
          have g1 := HXJ.out.c1
          have a0 := HAJ.out.c0
          have a1 := HAJ.out.c1
          clear hAl hOA
          go_wp2_with (first | (at_builtin; refine Cd.wpList_appendN (c := atomC) rfl (.tmp 67) (.tmp 69) 46 rfl W5.heap.size 66 (.agg #[.string ⟨#[]⟩, .slice none 0 0]) 2 40 rfl Tryd.underlying46 info_atom rfl (by decide) _ LX fx rfl HOA.out HND.out wr.heap.size _ rfl HAT2.out (nm, lv) fv HOT.out HNJ.out HFF.out HLK.out HBS.out ?_))
          intro g capn w3 fp3 ho3 hn3 hs3 ht3
          have hkq : kx ∉ fx := fun q => by have h1 := (HFX.out _ q).1; have h2 := HKX.out; omega
          have hkc : c ∉ fx := fun q => by have h1 := (HFX.out _ q).1; have h2 := HKX.out; omega
          have HX3 := Lib.hid (HXE.out.touched ht3 hkq)
          have HC3 := Lib.hid (HCE.out.keep ht3 hkc (fun b hb => by have h1 := (HFX.out _ hb).1; have h3 := HKX.out; omega))
          have HT3 := Lib.hid (touch_old (touch_old HT9.out HTE.out (fun y hy => by
            simp only [List.mem_cons, List.not_mem_nil, or_false] at hy
            rcases hy with r | r | r
            · exact .inl (by rw [r]; simp)
            · exact .inl (by rw [r]; simp)
            · exact .inr (by rw [r]; have := HKA.out; omega))) ht3 (fun y hy => .inr (HFX.out y hy).1))
          have HF3 := Lib.hid (fun b (h : b ∈ fp3) => (atomsC.ow_lt (show atomsC.ow w3 W5.heap.size _ (LX ++ [(nm, lv)]) fp3 from ho3) b h).1)
          have HO3 := Lib.hid (show atomsC.ow w3 W5.heap.size _ (LX ++ [(nm, lv)]) fp3 from ho3)
          have HN3 := Lib.hid hn3
          clear ho3 hn3 hs3 ht3 g1 a0 a1 hkq hkc
          have q1 := HX3.out.c1
          have qf1 := HX3.out.f1
          have z4 : (z : Int) ≤ 4 := by have := HLZ.out; omega
          have z1 : (0 : Int) < (z : Int) := by have := HZ.out; omega
          go_wp2_with fail
          go_roundw
          case rel => exact ⟨z - 1, m2, _, LX ++ [(nm, lv)], fp3, by have := HLZ.out; omega, by have := HZ.out; go_num, by rw [List.length_append]; have := HLZ.out; have := HZ.out; simp only [List.length_cons, List.length_nil]; omega, h20, h24, loc2_set1 HX3.out _, ow_setCell HO3.out (fun q => by have h1 := HF3.out _ q; have h2 := HKX.out; simp only at h1; omega) _, HN3.out, HC3.out.keep (touch_set _) (by simp; have := HKX.out; omega) (fun b hb => by rw [List.mem_singleton.1 hb]; have := HKX.out; omega), touch_old HT3.out (touch_set _) (fun y hy => .inl (by rw [List.mem_singleton.1 hy]; simp))⟩
          case measure => have := HZ.out; simp [intOf]; omega
    · have ez : z = 0 := by omega
      subst ez
      obtain ⟨asl, csl, rfl⟩ := Cd.ow_slice (c := atomC) HOW.out
      have HV := Lib.hid (spec_valid m1 (.slice asl LX.length csl) LX _ wr (atomsC.ow_rd HOW.out))
      have x0 := HX.out.c0
      have x1 := HX.out.c1
      go_wp2_with fail
      clear x0 x1
      refine HV.out.mono ?_
      rintro e w7 ⟨rfl, hb7⟩
      have HX7 := Lib.hid (HX.out.later hb7)
      have HO7 := Lib.hid (Cd.ow_later HOW.out hb7)
      have HC7 := Lib.hid (HCR.out.later hb7)
      have HT7 := Lib.hid (HT.out.trans (Cd.Touch.of_below hb7))
      have HR7 := Lib.hid (HR5.out.touched HT7.out (by simp; have := HKX.out; omega))
      have HQ7 := Lib.hid (HQ5.out.touched HT7.out (by simp; have := HKX.out; omega))
      have HL7 := Lib.hid (Cd.ow_touched HO5.out HT7.out (fun b hb q => by have h1 := HFQ.out b hb; have h2 := HKX.out; simp only [List.mem_cons, List.not_mem_nil, or_false] at q; omega))
      have HTT := Lib.hid (touch_old HT5.out HT7.out (fun y hy => by
        simp only [List.mem_cons, List.not_mem_nil, or_false] at hy
        rcases hy with r | r
        · exact .inl (by rw [r]; simp)
        · exact .inr (by rw [r]; have := HKX.out; omega)))
      clear hb7 HV
      have r0 := HR7.out.c0
      have r1 := HR7.out.c1
      have rf0 := HR7.out.f0
      have rf1 := HR7.out.f1
      have rlt := HR7.out.lt
      cases hv : qOk m1 LX
      · have y0 := HQ7.out.c0
        have y1 := HQ7.out.c1
        have ykl := HQ7.out.lt
        clear hv
        go_wp2_with fail
        obtain ⟨k0, k1⟩ := set2 (w := w7) (k := w.heap.size) (x := .int .i64 N) (y := .slice aq L.length cq) r0 r1
        have hfar : w.heap.size ∉ fq := fun q => by have h1 := (HFQ.out _ q).1; have h2 := HKX.out; omega
        refine bodyPost_ret (v := .agg #[.int .i64 N, .slice aq L.length cq]) (by simp [results, Tryd.results123, go_sem, k0, k1]) rfl ⟨N, _, L, fq, rfl, ow_setCell (ow_setCell (atomsC.ow_base HL7.out (by have := HKX.out; omega)) hfar _) hfar _, HN2.out, HQ.out, ?_, ?_⟩
        · exact (HC7.out.keep (touch_set _) (by simp; have := HCW.out; omega) (fun b hb => by rw [List.mem_singleton.1 hb]; have := H.out.2.2; have := HCW.out; omega)).keep (touch_set _) (by simp; have := HCW.out; omega) (fun b hb => by rw [List.mem_singleton.1 hb]; have := H.out.2.2; have := HCW.out; omega)
        · exact touch_old (touch_old HTT.out (touch_set _) (fun y hy => .inr (by rw [List.mem_singleton.1 hy]; exact Nat.le_refl _))) (touch_set _) (fun y hy => .inr (by rw [List.mem_singleton.1 hy]; exact Nat.le_refl _))
      · have y0 := HX7.out.c0
        have y1 := HX7.out.c1
        have ykl := HX7.out.lt
        have HVV := Lib.hid hv
        clear hv
        go_wp2_with fail
        obtain ⟨k0, k1⟩ := set2 (w := w7) (k := w.heap.size) (x := .int .i64 m1) (y := .slice asl LX.length csl) r0 r1
        have hfar : w.heap.size ∉ fx := fun q => by have h1 := (atomsC.ow_lt HOW.out _ q).1; have h2 := HKX.out; omega
        refine bodyPost_ret (v := .agg #[.int .i64 m1, .slice asl LX.length csl]) (by simp [results, Tryd.results123, go_sem, k0, k1]) rfl ⟨m1, _, LX, fx, rfl, ow_setCell (ow_setCell (atomsC.ow_base HO7.out (by have := HKX.out; omega)) hfar _) hfar _, HND.out, HVV.out, ?_, ?_⟩
        · exact (HC7.out.keep (touch_set _) (by simp; have := HCW.out; omega) (fun b hb => by rw [List.mem_singleton.1 hb]; have := H.out.2.2; have := HCW.out; omega)).keep (touch_set _) (by simp; have := HCW.out; omega) (fun b hb => by rw [List.mem_singleton.1 hb]; have := H.out.2.2; have := HCW.out; omega)
        · exact touch_old (touch_old HTT.out (touch_set _) (fun y hy => .inr (by rw [List.mem_singleton.1 hy]; exact Nat.le_refl _))) (touch_set _) (fun y hy => .inr (by rw [List.mem_singleton.1 hy]; exact Nat.le_refl _))
end Go.Proofs.YtdjgaffiildijabDoor.QryDraw

namespace Go.Proofs.YtdjgaffiildijabDoor.RegH
open Go

def nth : List Oper → Nat → Option Oper
  | [], _ => none
  | o :: _, 0 => some o
  | _ :: l, n + 1 => nth l n
theorem nth_eq : ∀ (l : List Oper) (i : Nat), nth l i = l.toArray[i]?
  | [], _ => by simp [nth]
  | _ :: _, 0 => by simp [nth]
  | _ :: l, n + 1 => by
    rw [nth, nth_eq l n]
    simp
variable {P : Program} {Q : Exit → Act → World → Prop} {md : Region.Mode} {S : World → Prop} {L : List Oper}
theorem takeH {i : Nat} {oi : Oper} {v : Value} {fuel : Nat} {listed : Array Bool} {a : Act} {w : World} (hi : nth L i = some oi)
    (hs : Region.noSelect L.toArray = true) (hf : Region.free md L.toArray listed i = true) (hr : (Region.ready md L.toArray listed).contains i = true)
    (hQ : ∀ c a w, Q (.panic c) (a.put oi.dst v) w → Q (.panic c) a w) (hy : YieldsIf P L.toArray S oi v a) (hS : S w)
    (h : wpAnyH P md L.toArray Q S fuel (listed.setIfInBounds i true) (a.put oi.dst v) w) : wpAnyH P md L.toArray Q S (fuel + 1) listed a w :=
  wpAnyH_take ((nth_eq L i).symm.trans hi) hs hf hr hQ hy hS h
theorem consH {fuel : Nat} {listed : Array Bool} {a : Act} {w : World} {i : Nat} {o : Oper} (ho : nth L i = some o) (hr : Region.ready md L.toArray listed = [i])
    (h : ∀ K' : Act → World → Prop, Shut (∀ a w, S w → (S w → wpAnyH P md L.toArray Q S fuel (listed.setIfInBounds i true) a w) → K' a w) → if Region.wanted o (yielded L.toArray a.tmps) = true then Oper.wp P o a w K' Q else K' (a.put o.dst undef) w) :
    wpAnyH P md L.toArray Q S (fuel + 1) listed a w :=
  wpAnyH_ready hr (by simp) (AllReadyH.cons ((nth_eq L i).symm.trans ho) h AllReadyH.nil)
theorem consH2 {fuel : Nat} {listed : Array Bool} {a : Act} {w : World} {i j : Nat} {o o2 : Oper} (ho : nth L i = some o) (ho2 : nth L j = some o2) (hr : Region.ready md L.toArray listed = [i, j])
    (h : ∀ K' : Act → World → Prop, Shut (∀ a w, S w → (S w → wpAnyH P md L.toArray Q S fuel (listed.setIfInBounds i true) a w) → K' a w) → if Region.wanted o (yielded L.toArray a.tmps) = true then Oper.wp P o a w K' Q else K' (a.put o.dst undef) w)
    (h2 : ∀ K' : Act → World → Prop, Shut (∀ a w, S w → (S w → wpAnyH P md L.toArray Q S fuel (listed.setIfInBounds j true) a w) → K' a w) → if Region.wanted o2 (yielded L.toArray a.tmps) = true then Oper.wp P o2 a w K' Q else K' (a.put o2.dst undef) w) :
    wpAnyH P md L.toArray Q S (fuel + 1) listed a w :=
  wpAnyH_ready hr (by simp) (AllReadyH.cons ((nth_eq L i).symm.trans ho) h (AllReadyH.cons ((nth_eq L j).symm.trans ho2) h2 AllReadyH.nil))
end Go.Proofs.YtdjgaffiildijabDoor.RegH

namespace Go.Proofs.YtdjgaffiildijabDoor.RegE
open Go
open RegH (nth nth_eq)

variable {P : Program} {Q : Exit → Act → World → Prop} {md : Region.Mode} {S : World → Prop}
/-- Whatever order is picked from here on; behind each operation S holds, or number k has come up. -/
def wpAnyE (P : Program) (md : Region.Mode) (ops : Array Oper) (Q : Exit → Act → World → Prop) (S : World → Prop) (k : Nat) : Nat → Array Bool → Act → World → Prop
  | 0, listed, a, w => Region.ready md ops listed = [] ∧ Q .normal a w
  | fuel + 1, listed, a, w =>
    (Region.ready md ops listed = [] → Q .normal a w) ∧
    ∀ i ∈ Region.ready md ops listed, wpOp P ops Q i (fun a' w' => ((listed.setIfInBounds i true).getD k true = true ∨ S w') ∧ wpAnyE P md ops Q S k fuel (listed.setIfInBounds i true) a' w') a w
theorem wpAny_of_e {ops : Array Oper} {k : Nat} : ∀ (fuel : Nat) (listed : Array Bool) (a : Act) (w : World), wpAnyE P md ops Q S k fuel listed a w → wpAny P md ops Q fuel listed a w
  | 0, _, _, _, h => h
  | fuel + 1, _, _, _, h => ⟨h.1, fun i hi => wpOp_mono (fun a' w' h' => wpAny_of_e fuel _ a' w' h'.2) (h.2 i hi)⟩
/-- Number k waits for number i. -/
def waits (md : Region.Mode) (ops : Array Oper) (k i : Nat) : Bool :=
  match ops[k]? with
  | some o => o.after.any fun e => Region.binds md e && e.on == i
  | none => false
theorem getD_set {l : Array Bool} {i k : Nat} (h : k ≠ i) : (l.setIfInBounds i true).getD k true = l.getD k true := by
  simp only [Array.getD_eq_getD_getElem?]
  rw [Array.getElem?_setIfInBounds_ne (Ne.symm h)]
theorem first_e {ops : Array Oper} {k i : Nat} {oi : Oper} {v : Value} (hi : ops[i]? = some oi) (hsel : ∀ (j : Nat) (o : Oper) cs b, ops[j]? = some o → o.op ≠ .select cs b)
    (hQ : ∀ c a w, Q (.panic c) (a.put oi.dst v) w → Q (.panic c) a w) (hki : waits md ops k i = true) (hne : k ≠ i) :
    ∀ (fuel : Nat) (listed : Array Bool) (a : Act) (w : World),
      (∀ j oj, ops[j]? = some oj → j ≠ i → listed.getD j true = false → (∀ e ∈ oj.after, Region.binds md e = true → e.on ≠ i) → oi.apart ops oj = true) →
      i ∈ Region.ready md ops listed → YieldsIf P ops S oi v a → S w → listed.getD k true = false →
      wpAnyE P md ops Q S k fuel (listed.setIfInBounds i true) (a.put oi.dst v) w → wpAnyE P md ops Q S k (fuel + 1) listed a w := by
  intro fuel
  induction fuel with
  | zero =>
    intro listed a w _ hr hy hS hk H
    refine ⟨fun h => (by rw [h] at hr; cases hr), fun j hj => ?_⟩
    by_cases hji : j = i
    · subst hji; exact hy.wpOp hi hS ⟨.inr hS, H⟩
    · have := ready_mono hj hji
      rw [H.1] at this
      cases this
  | succ fuel ih =>
    intro listed a w hfree hr hy hS hk H
    refine ⟨fun h => (by rw [h] at hr; cases hr), fun j hj => ?_⟩
    by_cases hji : j = i
    · subst hji; exact hy.wpOp hi hS ⟨.inr hS, H⟩
    · have h1 := H.2 j (ready_mono hj hji)
      obtain ⟨hjun, oj, hoj, hall⟩ := mem_ready.1 hj
      have hnot : ∀ e ∈ oj.after, Region.binds md e = true → e.on ≠ i := fun e he hb heq => by
        have h1 := hall e he hb
        have h0 := (mem_ready.1 hr).1
        rw [heq] at h1
        rcases Nat.lt_or_ge i listed.size with h' | h'
        · simp [h'] at h0 h1; rw [h0] at h1; cases h1
        · simp [Array.getElem?_eq_none h'] at h1
      have hjk : k ≠ j := fun q => by
        subst q
        unfold waits at hki
        rw [hoj] at hki
        obtain ⟨e, he, hbe⟩ := Array.any_eq_true'.1 hki
        rw [Bool.and_eq_true, beq_iff_eq] at hbe
        exact hnot e he hbe.1 hbe.2
      have h2 := wpOp_putIf hoj (hfree j oj hoj hji hjun hnot) (fun cs b => hsel i oi cs b hi) (fun cs b => hsel j oj cs b hoj) hQ hy h1
      have hfree' : ∀ k ok, ops[k]? = some ok → k ≠ i → (listed.setIfInBounds j true).getD k true = false →
          (∀ e ∈ ok.after, Region.binds md e = true → e.on ≠ i) → oi.apart ops ok = true := fun k ok hk hki hun hno => by
        refine hfree k ok hk hki ?_ hno
        by_cases hjk : j = k
        · subst hjk; exact hjun
        · rwa [getD_set (fun q => hjk q.symm)] at hun
      have hk' : (listed.setIfInBounds j true).getD k true = false := by rw [getD_set hjk]; exact hk
      refine wpOp_mono (fun a' w' h3 => ?_) h2
      have hSw : S w' := by
        rcases h3.2.1 with q | q
        · rw [getD_set hjk, getD_set hne, hk] at q
          cases q
        · exact q
      refine ⟨.inr hSw, ih (listed.setIfInBounds j true) a' w' hfree' (ready_mono hr (Ne.symm hji)) h3.1 hSw hk' ?_⟩
      rw [Array.setIfInBounds_comm _ _ hji]
      exact h3.2.2
variable {L : List Oper}
theorem takeE {k i : Nat} {oi : Oper} {v : Value} {fuel : Nat} {listed : Array Bool} {a : Act} {w : World} (hi : nth L i = some oi)
    (hs : Region.noSelect L.toArray = true) (hf : Region.free md L.toArray listed i = true) (hr : (Region.ready md L.toArray listed).contains i = true)
    (hQ : ∀ c a w, Q (.panic c) (a.put oi.dst v) w → Q (.panic c) a w) (hki : (waits md L.toArray k i && (decide (k ≠ i) && !listed.getD k true)) = true) (hy : YieldsIf P L.toArray S oi v a) (hS : S w)
    (h : wpAnyE P md L.toArray Q S k fuel (listed.setIfInBounds i true) (a.put oi.dst v) w) : wpAnyE P md L.toArray Q S k (fuel + 1) listed a w := by
  rw [Bool.and_eq_true, Bool.and_eq_true, decide_eq_true_eq, Bool.not_eq_true'] at hki
  exact first_e ((nth_eq L i).symm.trans hi) (Region.noSelect_spec hs) hQ hki.1 hki.2.1 fuel listed a w (Region.free_spec ((nth_eq L i).symm.trans hi) hf) (by simpa using hr) hy hS hki.2.2 h
def AllE (P : Program) (md : Region.Mode) (ops : Array Oper) (Q : Exit → Act → World → Prop) (S : World → Prop) (k fuel : Nat) (listed : Array Bool) (a : Act) (w : World) (rs : List Nat) : Prop :=
  ∀ i ∈ rs, wpOp P ops Q i (fun a' w' => ((listed.setIfInBounds i true).getD k true = true ∨ S w') ∧ wpAnyE P md ops Q S k fuel (listed.setIfInBounds i true) a' w') a w
theorem AllE.nil {ops : Array Oper} {k fuel : Nat} {listed : Array Bool} {a : Act} {w : World} : AllE P md ops Q S k fuel listed a w [] := fun _ h => by cases h
theorem AllE.cons {k fuel : Nat} {listed : Array Bool} {a : Act} {w : World} {i : Nat} {o : Oper} {rs : List Nat} (ho : nth L i = some o)
    (h : ∀ K' : Act → World → Prop, Shut (∀ a w, ((listed.setIfInBounds i true).getD k true = true ∨ S w) → wpAnyE P md L.toArray Q S k fuel (listed.setIfInBounds i true) a w → K' a w) → if Region.wanted o (yielded L.toArray a.tmps) = true then Oper.wp P o a w K' Q else K' (a.put o.dst undef) w)
    (hs : AllE P md L.toArray Q S k fuel listed a w rs) : AllE P md L.toArray Q S k fuel listed a w (i :: rs) := fun j hj => by
  rcases List.mem_cons.1 hj with rfl | hj
  · exact wpOp_step ((nth_eq L _).symm.trans ho) (fun K' hK => h K' (fun a w hS hW => hK a w ⟨hS, hW⟩))
  · exact hs j hj
theorem readyE {ops : Array Oper} {k : Nat} {rs : List Nat} {fuel : Nat} {listed : Array Bool} {a : Act} {w : World} (hr : Region.ready md ops listed = rs) (hne : rs ≠ [])
    (h : AllE P md ops Q S k fuel listed a w rs) : wpAnyE P md ops Q S k (fuel + 1) listed a w := ⟨fun h0 => absurd (hr ▸ h0) hne, hr ▸ h⟩
theorem doneE {ops : Array Oper} {k : Nat} {listed : Array Bool} {a : Act} {w : World} (hr : Region.ready md ops listed = []) (h : Q .normal a w) : ∀ fuel, wpAnyE P md ops Q S k fuel listed a w
  | 0 => ⟨hr, h⟩
  | _ + 1 => ⟨fun _ => h, by rw [hr]; simp⟩
theorem startE {id : Nat} {a : Act} {w : World} (k : Nat) (S : World → Prop) (hm : P.follows .mixedOrders = true) (hS : S w.drew)
    (h : S w.drew → wpAnyE P .any L.toArray Q S k L.toArray.size (Array.replicate L.toArray.size false) a w.drew) : (Code.region id L.toArray true).wp P Q a w :=
  wp_region_any hm (wpAny_of_e _ _ _ _ (h hS))
/-- One comes up. -/
theorem consE {k fuel : Nat} {listed : Array Bool} {a : Act} {w : World} {i : Nat} {o : Oper} (ho : nth L i = some o) (hr : Region.ready md L.toArray listed = [i])
    (h : ∀ K' : Act → World → Prop, Shut (∀ a w, ((listed.setIfInBounds i true).getD k true = true ∨ S w) → wpAnyE P md L.toArray Q S k fuel (listed.setIfInBounds i true) a w → K' a w) → if Region.wanted o (yielded L.toArray a.tmps) = true then Oper.wp P o a w K' Q else K' (a.put o.dst undef) w) :
    wpAnyE P md L.toArray Q S k (fuel + 1) listed a w := readyE hr (by simp) (AllE.cons ho h AllE.nil)
/-- One of two. -/
theorem consE2 {k fuel : Nat} {listed : Array Bool} {a : Act} {w : World} {i j : Nat} {o o2 : Oper} (ho : nth L i = some o) (ho2 : nth L j = some o2) (hr : Region.ready md L.toArray listed = [i, j])
    (h : ∀ K' : Act → World → Prop, Shut (∀ a w, ((listed.setIfInBounds i true).getD k true = true ∨ S w) → wpAnyE P md L.toArray Q S k fuel (listed.setIfInBounds i true) a w → K' a w) → if Region.wanted o (yielded L.toArray a.tmps) = true then Oper.wp P o a w K' Q else K' (a.put o.dst undef) w)
    (h2 : ∀ K' : Act → World → Prop, Shut (∀ a w, ((listed.setIfInBounds j true).getD k true = true ∨ S w) → wpAnyE P md L.toArray Q S k fuel (listed.setIfInBounds j true) a w → K' a w) → if Region.wanted o2 (yielded L.toArray a.tmps) = true then Oper.wp P o2 a w K' Q else K' (a.put o2.dst undef) w) :
    wpAnyE P md L.toArray Q S k (fuel + 1) listed a w := readyE hr (by simp) (AllE.cons ho h (AllE.cons ho2 h2 AllE.nil))
end Go.Proofs.YtdjgaffiildijabDoor.RegE

namespace Go.Proofs.YtdjgaffiildijabDoor.QryDraw
open Go Go.RowKit Byt Ints IntsLaw Cd Rows2 Tab TabSpec Exact Atom QryMath QrySpec QryImp MkAtom SlMath Draw QryPar
open TabParse (strC strsC info_str)

/-- What a drawn query's atoms are. -/
def OkQ (L : List A2) : Prop := 1 ≤ L.length ∧ L.length ≤ 5 ∧ ∀ A ∈ L, A.1.size ≤ 1 ∧ A.2.length ≤ 3
theorem okq_of {n : Int} {L : List A2} (h : QP n L) : OkQ L := ⟨h.2.2.1, by have := h.2.2.2.1; omega, fun A hA => ⟨by
  have h1 := of_decide_eq_true (h.2.2.2.2.1 A hA).1
  omega, (h.2.2.2.2.1 A hA).2.2.1⟩⟩
/-- What stays while l7Any draws: the local query at X. -/
structure QS (w : World) (c : Nat) (v : Value) (l : List UInt8) (B X : Nat) (n : Int) (u : Value) (L : List A2) (fp : List Nat) (wx : World) : Prop where
  lx : Loc2 wx X (.int .i64 n) u
  lr : ∃ a b, Loc2 wx w.heap.size a b
  ow : atomsC.ow wx (w.heap.size + 1) [u] L fp
  nd : fp.Nodup
  xf : X ∉ fp
  cu : CR wx c v l B
  cb : c < w.heap.size
  bb : B ≤ c
  xb : w.heap.size < X
  tc : Cd.Touch [c] w wx
section
variable {w : World} {c : Nat} {v : Value} {l : List UInt8} {B X : Nat} {n : Int} {u : Value} {L : List A2} {fp : List Nat} {W W' : World}
theorem QS.later (h : QS w c v l B X n u L fp W) (hb : Below W.heap.size W W') : QS w c v l B X n u L fp W' := by
  obtain ⟨a, b, hr⟩ := h.lr
  exact ⟨h.lx.later hb, ⟨a, b, hr.later hb⟩, Cd.ow_later h.ow hb, h.nd, h.xf, h.cu.later hb, h.cb, h.bb, h.xb, h.tc.trans (Cd.Touch.of_below hb)⟩
theorem QS.drew (h : QS w c v l B X n u L fp W) : QS w c v l B X n u L fp W.drew := h.later ⟨rfl, rfl, rfl, Nat.le_refl _, fun _ _ => rfl⟩
theorem QS.alloc (h : QS w c v l B X n u L fp W) (o : Obj) : QS w c v l B X n u L fp (W.alloc o) := h.later (below_alloc W o)
theorem QS.grown (h : QS w c v l B X n u L fp W) (ht : Cd.Touch [c] W W') (hc : CR W' c v l B) : QS w c v l B X n u L fp W' := by
  obtain ⟨a, b, hr⟩ := h.lr
  have h1 := h.cb
  have h2 := h.xb
  exact ⟨h.lx.touched ht (by simp; omega), ⟨a, b, hr.touched ht (by simp; omega)⟩, Cd.ow_touched h.ow ht (fun b hb q => by rw [List.mem_singleton.1 q] at hb; have := (atomsC.ow_lt h.ow _ hb).1; omega), h.nd, h.xf, hc, h.cb, h.bb, h.xb, h.tc.trans ht⟩
/-- The local query is changed: what its cells hold behind it, and its atoms. -/
theorem QS.become {n' : Int} {u' : Value} {L' : List A2} {fp' fq : List Nat} (h : QS w c v l B X n u L fp W) (ht : Cd.Touch fq W W') (hx : Loc2 W' X (.int .i64 n') u') (ho : atomsC.ow W' (w.heap.size + 1) [u'] L' fp') (hn : fp'.Nodup) (hxf : X ∉ fp') (hf : ∀ b ∈ fq, w.heap.size < b) : QS w c v l B X n' u' L' fp' W' := by
  obtain ⟨a, b, hr⟩ := h.lr
  have h1 := h.cb
  refine ⟨hx, ⟨a, b, hr.touched ht (fun q => by have := hf _ q; omega)⟩, ho, hn, hxf, h.cu.keep ht (fun q => by have := hf _ q; omega) (fun b hb => by have := hf _ hb; have := h.bb; omega), h.cb, h.bb, h.xb, touch_old h.tc ht (fun y hy => .inr (by have := hf _ hy; omega))⟩
end

theorem okq_set {L : List A2} {A : A2} (h : OkQ L) (hA : A.1.size ≤ 1 ∧ A.2.length ≤ 3) : OkQ (L.set 0 A) := by
  refine ⟨by rw [List.length_set]; exact h.1, by rw [List.length_set]; exact h.2.1, fun U hU => ?_⟩
  rcases List.mem_or_eq_of_mem_set hU with q | q
  · exact h.2.2 U q
  · rw [q]; exact hA
theorem okq_app {L : List A2} {A : A2} (h : OkQ L) (h4 : L.length ≤ 4) (hA : A.1.size ≤ 1 ∧ A.2.length ≤ 3) : OkQ (L ++ [A]) := by
  refine ⟨by rw [List.length_append]; have := h.1; omega, by rw [List.length_append]; simp only [List.length_cons, List.length_nil]; omega, fun U hU => ?_⟩
  rcases List.mem_append.1 hU with q | q
  · exact h.2.2 U q
  · rw [List.mem_singleton.1 q]; exact hA
/-- The first atom of the local query: its cells, and what a store into it leaves. -/
theorem QS.first {w : World} {c : Nat} {v : Value} {l : List UInt8} {B X : Nat} {n : Int} {a : Option Addr} {cap : Nat} {L : List A2} {fp : List Nat} {W : World} (h : QS w c v l B X n (.slice a L.length cap) L fp W) (hl : 0 < L.length) (hr : 0 < L[0].2.length) :
    ∃ g g2 k2, a = some ⟨g, 0, none⟩ ∧ W.cell? ⟨g, 0, none⟩ = some (.string L[0].1) ∧ W.cell? ⟨g, 1, none⟩ = some (.slice (some ⟨g2, 0, none⟩) L[0].2.length k2) ∧ W.frozen? ⟨g, 1, none⟩ = false ∧ g ≠ X ∧ g2 ≠ X ∧ g < W.heap.size ∧ g2 < W.heap.size ∧ w.heap.size < g ∧ w.heap.size < g2 ∧ g ≠ g2 ∧
      (∃ x, W.cell? ⟨g2, 0, none⟩ = some (.int .i64 x)) ∧ W.frozen? ⟨g2, 0, none⟩ = false ∧
      (∃ fp', QS w c v l B X n (.slice a L.length cap) (L.set 0 (L[0].1, [])) fp' (W.setCell ⟨g, 1, none⟩ (.slice none 0 0))) ∧
      ∀ y : Int, -9223372036854775808 ≤ y ∧ y ≤ 9223372036854775807 → ∃ fp', QS w c v l B X n (.slice a L.length cap) (L.set 0 (L[0].1, L[0].2.set 0 y)) fp' (W.setCell ⟨g2, 0, none⟩ (.int .i64 y)) := by
  obtain ⟨g, k, e, hg1, hg2, hg3⟩ := Cd.ow_form h.ow hl
  injection e with e1 e2 e3
  subst e1 e3
  obtain ⟨us, f, hl0, hat, hu, hsub, hnd, hcl⟩ := Cd.ow_elem h.ow hl
  obtain ⟨b0, k0, rfl⟩ := shape_ow hu
  have hrow := row_of_atom hu
  obtain ⟨g2, k2, e, hh1, hh2, hh3⟩ := Cd.ow_form hrow hr
  injection e with e1 e2 e3
  subst e1 e3
  have q0 := hat 0 (by simp)
  have q1 := hat 1 (by simp)
  simp only [List.getElem_cons_zero, List.getElem_cons_succ, Nat.add_zero, Nat.zero_mul, Nat.zero_add] at q0 q1
  have hnX : g ≠ X := fun q => h.xf (q ▸ hg3)
  have hnX2 : g2 ≠ X := fun q => h.xf (q ▸ hsub _ hh3)
  have hgg : g ≠ g2 := fun q => (hnd h.nd).2 (q ▸ hh3)
  have hnm : L[0].1.size ≤ maxLen := by
    obtain ⟨u, e, hs, _⟩ := atom_cells (atomC.ow_rd hu)
    exact hs
  obtain ⟨us2, f2, hl2, hat2, hu2, _, _, hcl2⟩ := Cd.ow_elem hrow hr
  have hl2' : us2.length = 1 := hl2
  match us2, hl2' with
  | [x0], _ =>
  have p0 := hat2 0 (by simp)
  simp only [List.getElem_cons_zero, Nat.add_zero, Nat.zero_mul] at p0
  obtain ⟨ex, _, ef⟩ : [x0] = [Value.int .i64 L[0].2[0]] ∧ _ ∧ f2 = [] := hu2
  injection ex with ex _
  subst ex ef
  refine ⟨g, g2, k0, rfl, q0, q1, Cd.ow_frozen h.ow 1, hnX, hnX2, hg2, hh2, by omega, by omega, hgg, ⟨_, p0⟩, Cd.ow_frozen hrow 0, ?_, fun y hy => ?_⟩
  · obtain ⟨fp', h1, h2, h3, _⟩ := hcl (W.setCell ⟨g, 1, none⟩ (.slice none 0 0)) [none, some (.slice none 0 0)] (L[0].1, []) [] rfl (atom_ow (Cd.ow_nil _ _) hnm) (by rw [Nat.zero_mul]; rfl) (fun b _ _ hne => Below.heap_setCell _ _ _ b (by simpa using hne)) h.nd (by simp) (by simp)
    exact ⟨fp', h.become (touch_set (X := g) (o := 1) _) (h.lx.set_far hnX _) h1 h2 (fun q => (h3 _ q).elim h.xf (by simp)) (fun b hb => by rw [List.mem_singleton.1 hb]; omega)⟩
  · obtain ⟨fr, h1, h2, h3, _⟩ := hcl2 (W.setCell ⟨g2, 0, none⟩ (.int .i64 y)) [some (.int .i64 y)] y [] rfl ⟨rfl, hy, rfl⟩ (by rw [Nat.zero_mul]; rfl) (fun b _ _ hne => Below.heap_setCell _ _ _ b (by simpa using hne)) (hnd h.nd).1 (by simp) (by simp)
    obtain ⟨fp', m1, m2, m3, _⟩ := hcl (W.setCell ⟨g2, 0, none⟩ (.int .i64 y)) [none, none] (L[0].1, L[0].2.set 0 y) fr rfl (by
      have := atom_ow (nm := L[0].1) h1 hnm
      exact this) (Below.heap_setCell _ _ _ g (by simpa using hgg)) (fun b _ hb _ => Below.heap_setCell _ _ _ b (fun q => hb (by rw [q]; exact hh3))) h.nd h2 (fun b hb => (h3 b hb).elim .inl (by simp))
    exact ⟨fp', h.become (touch_set (X := g2) (o := 0) _) (h.lx.set_far hnX2 _) m1 m2 (fun q => by
      rcases m3 _ q with r | r
      · exact h.xf r
      · rcases h3 _ r with r | r
        · exact h.xf (hsub _ r)
        · cases r) (fun b hb => by rw [List.mem_singleton.1 hb]; omega)⟩
/-- A query as l7Any draws it. -/
def QDrawn (c : Nat) (v : Value) (l : List UInt8) (B : Nat) (w : World) (e : Ending) (w' : World) : Prop :=
  ∃ n u L fp, e = .returned (.agg #[.int .i64 n, u]) ∧ atomsC.ow w' w.heap.size [u] L fp ∧ fp.Nodup ∧ (-9223372036854775808 ≤ n ∧ n ≤ 9223372036854775807) ∧ OkQ L ∧ CR w' c v l B ∧ Cd.Touch [c] w w'
/-- The result's cells are stored. -/
theorem QS.fin {w : World} {c : Nat} {v : Value} {l : List UInt8} {B X : Nat} {n : Int} {u : Value} {L : List A2} {fp : List Nat} {W : World} (h : QS w c v l B X n u L fp W) (hn : -9223372036854775808 ≤ n ∧ n ≤ 9223372036854775807) (hl : OkQ L) :
    ((W.setCell ⟨w.heap.size, 0, none⟩ (.int .i64 n)).setCell ⟨w.heap.size, 1, none⟩ u).cell? ⟨w.heap.size, 0, none⟩ = some (.int .i64 n) ∧ ((W.setCell ⟨w.heap.size, 0, none⟩ (.int .i64 n)).setCell ⟨w.heap.size, 1, none⟩ u).cell? ⟨w.heap.size, 1, none⟩ = some u ∧
      QDrawn c v l B w (.returned (.agg #[.int .i64 n, u])) ((W.setCell ⟨w.heap.size, 0, none⟩ (.int .i64 n)).setCell ⟨w.heap.size, 1, none⟩ u) := by
  obtain ⟨a, b, hr⟩ := h.lr
  obtain ⟨k0, k1⟩ := set2 (w := W) (k := w.heap.size) (x := .int .i64 n) (y := u) hr.c0 hr.c1
  have hfar : w.heap.size ∉ fp := fun q => by have := (atomsC.ow_lt h.ow _ q).1; omega
  have hcb := h.cb
  have hbb := h.bb
  refine ⟨k0, k1, n, u, L, fp, rfl, ow_setCell (ow_setCell (atomsC.ow_base h.ow (by omega)) hfar _) hfar _, h.nd, hn, hl, ?_, ?_⟩
  · exact (h.cu.keep (touch_set _) (by simp; omega) (fun b hb => by rw [List.mem_singleton.1 hb]; omega)).keep (touch_set _) (by simp; omega) (fun b hb => by rw [List.mem_singleton.1 hb]; omega)
  · exact touch_old (touch_old h.tc (touch_set _) (fun y hy => .inr (by rw [List.mem_singleton.1 hy]; exact Nat.le_refl _))) (touch_set _) (fun y hy => .inr (by rw [List.mem_singleton.1 hy]; exact Nat.le_refl _))
/-- The strings that a drawn atom's name is picked from. -/
def ss3 : List ByteArray := [⟨#[]⟩, ⟨#[119]⟩, ⟨#[114]⟩]
theorem ss3_ok : ∀ s ∈ ss3, s.size ≤ 1 := by decide
/-- A row [0] has been written out, at bi. -/
structure QL (w : World) (c : Nat) (v : Value) (l : List UInt8) (B X : Nat) (n : Int) (u : Value) (L : List A2) (fp : List Nat) (bi : Nat) (W : World) : Prop where
  qs : QS w c v l B X n u L fp W
  row : rowC.ow W (w.heap.size + 1) [.slice (some ⟨bi, 0, none⟩) 1 1] [0] [bi]
  far : bi ∉ fp
  xb : bi ≠ X
  lt : X < W.heap.size
section
variable {w : World} {c : Nat} {v : Value} {l : List UInt8} {B X : Nat} {n : Int} {u : Value} {L : List A2} {fp : List Nat} {W W' : World} {bi : Nat}
theorem QS.base (h : QS w c v l B X n u L fp W) : w.heap.size + 1 ≤ W.heap.size := by have := h.xb; have := h.lx.lt; omega
theorem QS.lit0 (h : QS w c v l B X n u L fp W) : QL w c v l B X n u L fp W.heap.size (W.alloc (.cells #[.int .i64 0] 3)) := by
  have ho : OwnI (W.alloc (.cells #[.int .i64 0] 3)) (w.heap.size + 1) 3 (.slice (some ⟨W.heap.size, 0, none⟩) 1 1) [0] :=
    World.ownsRow_lit (base := w.heap.size + 1) (e := 3) (size := 1) W #[.int .i64 0] 1 h.base (by unfold maxLen; omega) (by simp)
  exact ⟨h.alloc _, Cd.ow_of_own (e := 3) ho (by intro x hx; simp at hx; omega), fun q => by have := (atomsC.ow_lt h.ow _ q).2; omega, by have := h.lx.lt; omega, (h.alloc (.cells #[.int .i64 0] 3)).lx.lt⟩
theorem QL.later (h : QL w c v l B X n u L fp bi W) (hb : Below W.heap.size W W') : QL w c v l B X n u L fp bi W' := ⟨h.qs.later hb, Cd.ow_later h.row hb, h.far, h.xb, Nat.lt_of_lt_of_le h.lt hb.size⟩
theorem QL.grown (h : QL w c v l B X n u L fp bi W) (ht : Cd.Touch [c] W W') (hc : CR W' c v l B) : QL w c v l B X n u L fp bi W' :=
  ⟨h.qs.grown ht hc, Cd.ow_touched h.row ht (fun b hb q => by rw [List.mem_singleton.1 q] at hb; have := (rowC.ow_lt h.row _ hb).1; have := h.qs.cb; omega), h.far, h.xb, Nat.lt_of_lt_of_le h.lt ht.size⟩
theorem QL.laid (h : QL w c v l B X n u L fp bi W) (s : ByteArray) (hs : s.size ≤ maxLen) : Cd.At (W.alloc (.cells #[.string s, .slice (some ⟨bi, 0, none⟩) 1 1] 66)) W.heap.size 0 [.string s, .slice (some ⟨bi, 0, none⟩) 1 1] ∧
    atomC.ow (W.alloc (.cells #[.string s, .slice (some ⟨bi, 0, none⟩) 1 1] 66)) (w.heap.size + 1) [.string s, .slice (some ⟨bi, 0, none⟩) 1 1] (s, [0]) [bi] ∧
    QS w c v l B X n u L fp (W.alloc (.cells #[.string s, .slice (some ⟨bi, 0, none⟩) 1 1] 66)) ∧ w.heap.size + 1 ≤ (W.alloc (.cells #[.string s, .slice (some ⟨bi, 0, none⟩) 1 1] 66)).heap.size :=
  ⟨at2 (row_alloc _ _), atom_ow (Cd.ow_later h.row (below_alloc _ _)) hs, h.qs.alloc _, (h.qs.alloc _).base⟩
theorem QS.app (h : QS w c v l B X n u L fp W) (ht : Cd.Touch fp W W') {g k m : Nat} {fp' : List Nat} {L' : List A2} (ho : atomsC.ow W' (w.heap.size + 1) [.slice (some ⟨g, 0, none⟩) m k] L' fp') (hn : fp'.Nodup) (hf : ∀ b ∈ fp', b ∈ fp ∨ b ∈ [bi] ∨ W.heap.size ≤ b) (hbx : bi ≠ X) (_ : X < W.heap.size ∨ True) :
    QS w c v l B X n (.slice (some ⟨g, 0, none⟩) m k) L' fp' (W'.setCell ⟨X, 1, none⟩ (.slice (some ⟨g, 0, none⟩) m k)) := by
  have hx := h.lx.touched ht h.xf
  have hxf : X ∉ fp' := fun q => by
    rcases hf _ q with r | r | r
    · exact h.xf r
    · exact hbx (List.mem_singleton.1 r).symm
    · have := h.lx.lt; omega
  refine h.become (fq := X :: fp) ((Cd.Touch.mono ht (fun b hb => List.mem_cons_of_mem _ hb)).trans (Cd.Touch.mono (touch_set _) (fun b hb => by rw [List.mem_singleton.1 hb]; simp))) (loc2_set1 hx _) (ow_setCell ho hxf _) hn hxf (fun b hb => ?_)
  rcases List.mem_cons.1 hb with r | r
  · rw [r]; exact h.xb
  · have := (atomsC.ow_lt h.ow _ r).1; omega
end
/-- The numbers that a drawn atom's first variable is picked from. -/
def zz3 : List Int := [-1, 4, 1]
theorem zz3_ok : ∀ y ∈ zz3, -9223372036854775808 ≤ y ∧ y ≤ 9223372036854775807 := by decide
/-- The first atom's variables lie at g2. -/
structure QG (w : World) (c : Nat) (v : Value) (l : List UInt8) (B X : Nat) (n : Int) (u : Value) (L : List A2) (fp : List Nat) (g g2 m k2 : Nat) (W : World) : Prop where
  qs : QS w c v l B X n u L fp W
  cg : W.cell? ⟨g, 1, none⟩ = some (.slice (some ⟨g2, 0, none⟩) m k2)
  gw : w.heap.size < g
section
variable {w : World} {c : Nat} {v : Value} {l : List UInt8} {B X : Nat} {n : Int} {u : Value} {L : List A2} {fp : List Nat} {W W' : World} {g g2 m k2 : Nat}
theorem QG.later (h : QG w c v l B X n u L fp g g2 m k2 W) (hb : Below W.heap.size W W') : QG w c v l B X n u L fp g g2 m k2 W' :=
  ⟨h.qs.later hb, (World.cell?_of_block (w := W) (a := ⟨g, 1, none⟩) (hb.block g (World.block_lt_of_cell? W _ h.cg))).trans h.cg, h.gw⟩
theorem QG.drew (h : QG w c v l B X n u L fp g g2 m k2 W) : QG w c v l B X n u L fp g g2 m k2 W.drew := h.later ⟨rfl, rfl, rfl, Nat.le_refl _, fun _ _ => rfl⟩
theorem QG.grown (h : QG w c v l B X n u L fp g g2 m k2 W) (ht : Cd.Touch [c] W W') (hc : CR W' c v l B) : QG w c v l B X n u L fp g g2 m k2 W' :=
  ⟨h.qs.grown ht hc, ht.cell h.cg (by simp; have := h.gw; have := h.qs.cb; omega), h.gw⟩
end
set_option maxRecDepth 100000 in
set_option maxHeartbeats 6400000 in
theorem any_any (c : Nat) (v : Value) (l : List UInt8) (B : Nat) (w : World) (h : CR w c v l B) :
    Calls Tryd.prog 78 #[.pointer (some ⟨c, 0, none⟩)] w (QDrawn c v l B w) := by
  have H := Lib.hid h
  have hcw := h.lt
  have HCW := Lib.hid hcw
  clear h hcw
  go_enter Tryd.func78, Tryd.ntmps78
  go_wp2_with fail
  generalize hW : w.alloc _ = W0
  obtain ⟨r0, hz0, hb0⟩ := start1 w _ hW
  have HR0 := Lib.hid (Loc2.of r0)
  have HC0 := Lib.hid (H.out.later hb0)
  have HB0 := Lib.hid hb0
  have HZ0 := Lib.hid hz0
  clear hW r0 hz0 hb0
  refine (query_any c v l B W0 HC0.out).mono ?_
  rintro e w1 ⟨n, u, L, fp, rfl, ho1, hn1, hq, hc1, ht1⟩
  obtain ⟨al, cl, rfl⟩ := Cd.ow_slice (c := atomC) ho1
  have HQP := Lib.hid (qOk_iff.1 hq)
  have HS1 := Lib.hid (show QS w c v l B w1.heap.size n (.slice al L.length cl) L fp (w1.alloc (.cells #[.int .i64 n, .slice al L.length cl] 48)) from by
    have hA := below_alloc w1 (.cells #[.int .i64 n, .slice al L.length cl] 48)
    have hz := HZ0.out
    have hlt := HCW.out
    have hz1 := ht1.size
    exact ⟨Loc2.of (row_alloc w1 _), ⟨_, _, (HR0.out.touched ht1 (by simp; omega)).later hA⟩, Cd.ow_later (atomsC.ow_base ho1 (by omega)) hA, hn1, fun q => by have := (atomsC.ow_lt ho1 _ q).2; omega, hc1.later hA, HCW.out, H.out.2.2, by omega, ((Cd.Touch.of_below (fp := [c]) HB0.out).trans ht1).trans (Cd.Touch.of_below hA)⟩)
  clear ho1 hn1 hq hc1 ht1
  go_wp2_with fail
  generalize w1.alloc _ = W1 at *
  generalize w1.heap.size = X at *
  refine (below_cr 14 c v l B W1 HS1.out.cu).mono ?_
  rintro e w2 ⟨x, rfl, hx0, hx14, hc2, ht2⟩
  have HS2 := Lib.hid (HS1.out.grown ht2 hc2)
  have HOK := Lib.hid (okq_of HQP.out)
  have HN := Lib.hid (And.intro HQP.out.1 HQP.out.2.1)
  clear hx14 hc2 ht2 HS1 hx0
  by_cases x0 : x = 0
  · subst x0
    have y0 := HS2.out.lx.c0
    have n1 := HN.out.1
    have n4 := HN.out.2
    have HAL := Lib.hid (HS2.out.alloc (.cells (([0, 5, n + 1, 9223372036854775807] : List Int).map fun z => Value.int .i64 z).toArray 3))
    have HP := Lib.hid (pickI_cr [0, 5, n + 1, 9223372036854775807] w2.heap.size (by simp) (by simp) c v l B _ HAL.out.cu (by have := HS2.out.cu.lt; omega) (LocDraw.list_cellsI _ w2 3))
    go_wp2_with fail
    refine HP.out.mono ?_
    rintro e w3 ⟨y, hy, rfl, hc3, ht3⟩
    have HS3 := Lib.hid (HAL.out.grown ht3 hc3)
    have HY := Lib.hid (show -9223372036854775808 ≤ y ∧ y ≤ 9223372036854775807 by simp at hy; omega)
    have z0 := HS3.out.lx.c0
    have z1 := HS3.out.lx.c1
    have zf := HS3.out.lx.f0
    have HS4 := Lib.hid (HS3.out.become (n' := y) (u' := .slice al L.length cl) (L' := L) (fp' := fp) (touch_set (X := X) (o := 0) (.int .i64 y)) (loc2_set0 HS3.out.lx _) (ow_setCell HS3.out.ow HS3.out.xf _) HS3.out.nd HS3.out.xf (fun b hb => by rw [List.mem_singleton.1 hb]; exact HS3.out.xb))
    clear hy hc3 ht3 HP HAL y0
    obtain ⟨ra, rb, hr⟩ := HS4.out.lr
    obtain ⟨r0, r1, rf0, rf1⟩ := hr
    have rl := HS4.out.tc.size
    go_wp2_with fail
    obtain ⟨k0, k1, hf⟩ := HS4.out.fin HY.out HOK.out
    exact bodyPost_ret (v := .agg #[.int .i64 y, .slice al L.length cl]) (by simp [results, Tryd.results78, go_sem, k0, k1]) rfl hf
  have tt0 : (x == 0) = false := by rw [beq_eq_false_iff_ne]; exact x0
  by_cases x1 : x = 1
  · subst x1
    go_upto_region 6 with fail
    have hq0 := HS2.out.drew
    refine RegE.startE 10 (fun wx => Loc2 wx X (.int .i64 n) (.slice al L.length cl)) (by kernel_rfl) hq0.lx (fun hHeld => ?_)
    refine RegE.takeE (i := 0) (v := ?_) rfl (by kernel_rfl) (by kernel_rfl) (by kernel_rfl) (fun _ _ _ h => h) (by kernel_rfl) (Or.inl ⟨by rfl, ?_⟩) (by assumption) ?_
    rotate_left
    · (intro wS hSw; (try dsimp only at hSw); (have s1 := hSw.c1); go_simp; try (with_reducible rfl))
    try simp only [Act.put, List.setIfInBounds_toArray, List.set_cons_zero, List.set_cons_succ]
    refine RegE.takeE (i := 1) (v := ?_) rfl (by kernel_rfl) (by kernel_rfl) (by kernel_rfl) (fun _ _ _ h => h) (by kernel_rfl) (Or.inl ⟨by rfl, ?_⟩) (by assumption) ?_
    rotate_left
    · (intro wS hSw; (try dsimp only at hSw); (have s1 := hSw.c1); go_simp; try (with_reducible rfl))
    try simp only [Act.put, List.setIfInBounds_toArray, List.set_cons_zero, List.set_cons_succ]
    refine RegE.takeE (i := 2) (v := ?_) rfl (by kernel_rfl) (by kernel_rfl) (by kernel_rfl) (fun _ _ _ h => h) (by kernel_rfl) (Or.inl ⟨by rfl, ?_⟩) (by assumption) ?_
    rotate_left
    · (intro wS hSw; (try dsimp only at hSw); (have s1 := hSw.c1); go_simp; try (with_reducible rfl))
    try simp only [Act.put, List.setIfInBounds_toArray, List.set_cons_zero, List.set_cons_succ]
    refine RegE.consE2 (i := 3) (j := 5) rfl rfl (by kernel_rfl) (fun K hK => ?_) (fun K hK => ?_)
    · go_simp
      have hq := hq0.alloc (.cells (ss3.map Value.string).toArray 9)
      have HSTR := Lib.hid (And.intro (row_alloc w2.drew (.cells (ss3.map Value.string).toArray 9)) (show w2.drew.heap.size ≠ c by have := hq0.cu.lt; omega))
      have hHeld := hq.lx
      refine hK.out _ _ (.inr hHeld) ?_
      clear hK K
      try simp only [Act.put, List.setIfInBounds_toArray, List.set_cons_zero, List.set_cons_succ]
      refine RegE.consE2 (i := 4) (j := 5) rfl rfl (by kernel_rfl) (fun K hK => ?_) (fun K hK => ?_)
      · go_simp
        go_at_call 125
        refine (pick_cr ss3 _ (by decide) (by decide) c v l B _ hq.cu HSTR.out.2 (cells_str (zs := ss3) HSTR.out.1)).mono ?_
        rintro e w3 ⟨s, hs, rfl, hc3, ht3⟩
        have HSS := Lib.hid (ss3_ok s hs)
        replace hq := hq.grown ht3 hc3
        have hHeld := hq.lx
        clear hc3 ht3 hs
        refine hK.out _ _ (.inr hHeld) ?_
        clear hK K
        try simp only [Act.put, List.setIfInBounds_toArray, List.set_cons_zero, List.set_cons_succ]
        refine RegE.consE (i := 5) rfl (by kernel_rfl) (fun K hK => ?_)
        go_simp
        replace hq := hq.lit0
        have hHeld := hq.qs.lx
        refine hK.out _ _ (.inr hHeld) ?_
        clear hK K
        try simp only [Act.put, List.setIfInBounds_toArray, List.set_cons_zero, List.set_cons_succ]
        refine RegE.takeE (i := 6) (v := ?_) rfl (by kernel_rfl) (by kernel_rfl) (by kernel_rfl) (fun _ _ _ h => h) (by kernel_rfl) (Or.inl ⟨by rfl, ?_⟩) (by assumption) ?_
        rotate_left
        · (intro wS hSw; (try dsimp only at hSw); (have s1 := hSw.c1); go_simp; try (with_reducible rfl))
        try simp only [Act.put, List.setIfInBounds_toArray, List.set_cons_zero, List.set_cons_succ]
        refine RegE.consE (i := 7) rfl (by kernel_rfl) (fun K hK => ?_)
        go_simp
        obtain ⟨hA, hO, hq7, hb7⟩ := hq.laid s (by have := HSS.out; unfold maxLen; omega)
        have hHeld := hq7.lx
        try rw [size_alloc] at hA
        refine hK.out _ _ (.inr hHeld) ?_
        clear hK K
        try simp only [Act.put, List.setIfInBounds_toArray, List.set_cons_zero, List.set_cons_succ]
        refine RegE.consE (i := 8) rfl (by kernel_rfl) (fun K hK => ?_)
        refine Cd.step_appendN (c := atomC) rfl (.tmp 20) (.tmp 26) 46 rfl (w.heap.size + 1) 66 (.agg #[.string ⟨#[]⟩, .slice none 0 0]) 2 40 rfl Tryd.underlying46 info_atom rfl (by decide) _ L fp rfl hq7.ow hq7.nd _ _ rfl hA (s, [0]) _ hO (by simp) (by have := hq.far; simpa using this) (by have := HQP.out.2.2.2.1; omega) hb7 ?_
        intro g capn w8 fp8 ho8 hn8 hs8 ht8
        have hx8 := hq7.lx.touched ht8 hq7.xf
        have hHeld := hx8
        refine hK.out _ _ (.inr hHeld) ?_
        clear hK K
        try simp only [Act.put, List.setIfInBounds_toArray, List.set_cons_zero, List.set_cons_succ]
        refine RegE.takeE (i := 9) (v := ?_) rfl (by kernel_rfl) (by kernel_rfl) (by kernel_rfl) (fun _ _ _ h => h) (by kernel_rfl) (Or.inl ⟨by rfl, ?_⟩) (by assumption) ?_
        rotate_left
        · (intro wS hSw; (try dsimp only at hSw); (have s1 := hSw.c1); go_simp; try (with_reducible rfl))
        try simp only [Act.put, List.setIfInBounds_toArray, List.set_cons_zero, List.set_cons_succ]
        have HS9 := Lib.hid (QS.app hq7 ht8 ho8 hn8 hs8 hq.xb (.inr trivial))
        have f1 := hx8.f1
        have f2 := hx8.c1
        have HKO := Lib.hid (okq_app HOK.out HQP.out.2.2.2.1 (A := (s, [0])) ⟨HSS.out, by simp⟩)
        clear hA hO hb7 ho8 hn8 hs8 ht8 hx8 hq7 hq
        refine RegE.consE (i := 10) rfl (by kernel_rfl) (fun K hK => ?_)
        go_simp
        refine hK.out _ _ (.inl (by kernel_rfl)) ?_
        clear hK K
        try simp only [Act.put, List.setIfInBounds_toArray, List.set_cons_zero, List.set_cons_succ]
        refine RegE.doneE (by kernel_rfl) ?_ _
        have m0 := HS9.out.lx.c0
        have m1 := HS9.out.lx.c1
        obtain ⟨ra, rb, hr⟩ := HS9.out.lr
        obtain ⟨r0, r1, rf0, rf1⟩ := hr
        go_wp2_with fail
        obtain ⟨k0, k1, hf⟩ := HS9.out.fin (by have := HN.out; omega) HKO.out
        exact bodyPost_ret (v := .agg #[.int .i64 n, .slice (some ⟨g, 0, none⟩) (L.length + 1) capn]) (by simp [results, Tryd.results78, go_sem, k0, k1]) rfl hf
      · go_simp
        replace HSTR := Lib.hid (And.intro (row_later HSTR.out.1 (below_alloc _ (.cells #[.int .i64 0] 3))) HSTR.out.2)
        replace hq := hq.lit0
        rw [size_alloc] at hq
        replace hq := (show QL w c v l B X n _ L fp (w2.heap.size + 1) _ from hq)
        have hHeld := hq.qs.lx
        refine hK.out _ _ (.inr hHeld) ?_
        clear hK K
        try simp only [Act.put, List.setIfInBounds_toArray, List.set_cons_zero, List.set_cons_succ]
        refine RegE.consE (i := 4) rfl (by kernel_rfl) (fun K hK => ?_)
        go_simp
        go_at_call 125
        refine (pick_cr ss3 _ (by decide) (by decide) c v l B _ hq.qs.cu HSTR.out.2 (cells_str (zs := ss3) HSTR.out.1)).mono ?_
        rintro e w3 ⟨s, hs, rfl, hc3, ht3⟩
        have HSS := Lib.hid (ss3_ok s hs)
        replace hq := hq.grown ht3 hc3
        have hHeld := hq.qs.lx
        clear hc3 ht3 hs
        refine hK.out _ _ (.inr hHeld) ?_
        clear hK K
        try simp only [Act.put, List.setIfInBounds_toArray, List.set_cons_zero, List.set_cons_succ]
        refine RegE.takeE (i := 6) (v := ?_) rfl (by kernel_rfl) (by kernel_rfl) (by kernel_rfl) (fun _ _ _ h => h) (by kernel_rfl) (Or.inl ⟨by rfl, ?_⟩) (by assumption) ?_
        rotate_left
        · (intro wS hSw; (try dsimp only at hSw); (have s1 := hSw.c1); go_simp; try (with_reducible rfl))
        try simp only [Act.put, List.setIfInBounds_toArray, List.set_cons_zero, List.set_cons_succ]
        refine RegE.consE (i := 7) rfl (by kernel_rfl) (fun K hK => ?_)
        go_simp
        obtain ⟨hA, hO, hq7, hb7⟩ := hq.laid s (by have := HSS.out; unfold maxLen; omega)
        have hHeld := hq7.lx
        try rw [size_alloc] at hA
        refine hK.out _ _ (.inr hHeld) ?_
        clear hK K
        try simp only [Act.put, List.setIfInBounds_toArray, List.set_cons_zero, List.set_cons_succ]
        refine RegE.consE (i := 8) rfl (by kernel_rfl) (fun K hK => ?_)
        refine Cd.step_appendN (c := atomC) rfl (.tmp 20) (.tmp 26) 46 rfl (w.heap.size + 1) 66 (.agg #[.string ⟨#[]⟩, .slice none 0 0]) 2 40 rfl Tryd.underlying46 info_atom rfl (by decide) _ L fp rfl hq7.ow hq7.nd _ _ rfl hA (s, [0]) _ hO (by simp) (by have := hq.far; simpa using this) (by have := HQP.out.2.2.2.1; omega) hb7 ?_
        intro g capn w8 fp8 ho8 hn8 hs8 ht8
        have hx8 := hq7.lx.touched ht8 hq7.xf
        have hHeld := hx8
        refine hK.out _ _ (.inr hHeld) ?_
        clear hK K
        try simp only [Act.put, List.setIfInBounds_toArray, List.set_cons_zero, List.set_cons_succ]
        refine RegE.takeE (i := 9) (v := ?_) rfl (by kernel_rfl) (by kernel_rfl) (by kernel_rfl) (fun _ _ _ h => h) (by kernel_rfl) (Or.inl ⟨by rfl, ?_⟩) (by assumption) ?_
        rotate_left
        · (intro wS hSw; (try dsimp only at hSw); (have s1 := hSw.c1); go_simp; try (with_reducible rfl))
        try simp only [Act.put, List.setIfInBounds_toArray, List.set_cons_zero, List.set_cons_succ]
        have HS9 := Lib.hid (QS.app hq7 ht8 ho8 hn8 hs8 hq.xb (.inr trivial))
        have f1 := hx8.f1
        have f2 := hx8.c1
        have HKO := Lib.hid (okq_app HOK.out HQP.out.2.2.2.1 (A := (s, [0])) ⟨HSS.out, by simp⟩)
        clear hA hO hb7 ho8 hn8 hs8 ht8 hx8 hq7 hq
        refine RegE.consE (i := 10) rfl (by kernel_rfl) (fun K hK => ?_)
        go_simp
        refine hK.out _ _ (.inl (by kernel_rfl)) ?_
        clear hK K
        try simp only [Act.put, List.setIfInBounds_toArray, List.set_cons_zero, List.set_cons_succ]
        refine RegE.doneE (by kernel_rfl) ?_ _
        have m0 := HS9.out.lx.c0
        have m1 := HS9.out.lx.c1
        obtain ⟨ra, rb, hr⟩ := HS9.out.lr
        obtain ⟨r0, r1, rf0, rf1⟩ := hr
        go_wp2_with fail
        obtain ⟨k0, k1, hf⟩ := HS9.out.fin (by have := HN.out; omega) HKO.out
        exact bodyPost_ret (v := .agg #[.int .i64 n, .slice (some ⟨g, 0, none⟩) (L.length + 1) capn]) (by simp [results, Tryd.results78, go_sem, k0, k1]) rfl hf
    · go_simp
      have hq := hq0.lit0
      have hHeld := hq.qs.lx
      refine hK.out _ _ (.inr hHeld) ?_
      clear hK K
      try simp only [Act.put, List.setIfInBounds_toArray, List.set_cons_zero, List.set_cons_succ]
      refine RegE.consE (i := 3) rfl (by kernel_rfl) (fun K hK => ?_)
      go_simp
      have hstr := row_alloc (w2.drew.alloc (.cells #[.int .i64 0] 3)) (.cells (ss3.map Value.string).toArray 9)
      rw [size_alloc] at hstr
      have HSTR := Lib.hid (And.intro (show ((w2.drew.alloc (.cells #[.int .i64 0] 3)).alloc (.cells (ss3.map Value.string).toArray 9)).heap[w2.heap.size + 1]? = _ from hstr) (show w2.heap.size + 1 ≠ c by have := HS2.out.cu.lt; omega))
      clear hstr
      replace hq := hq.later (below_alloc _ (.cells (ss3.map Value.string).toArray 9))
      have hHeld := hq.qs.lx
      refine hK.out _ _ (.inr hHeld) ?_
      clear hK K
      try simp only [Act.put, List.setIfInBounds_toArray, List.set_cons_zero, List.set_cons_succ]
      refine RegE.consE (i := 4) rfl (by kernel_rfl) (fun K hK => ?_)
      go_simp
      go_at_call 125
      refine (pick_cr ss3 _ (by decide) (by decide) c v l B _ hq.qs.cu HSTR.out.2 (cells_str (zs := ss3) HSTR.out.1)).mono ?_
      rintro e w3 ⟨s, hs, rfl, hc3, ht3⟩
      have HSS := Lib.hid (ss3_ok s hs)
      replace hq := hq.grown ht3 hc3
      have hHeld := hq.qs.lx
      clear hc3 ht3 hs
      refine hK.out _ _ (.inr hHeld) ?_
      clear hK K
      try simp only [Act.put, List.setIfInBounds_toArray, List.set_cons_zero, List.set_cons_succ]
      refine RegE.takeE (i := 6) (v := ?_) rfl (by kernel_rfl) (by kernel_rfl) (by kernel_rfl) (fun _ _ _ h => h) (by kernel_rfl) (Or.inl ⟨by rfl, ?_⟩) (by assumption) ?_
      rotate_left
      · (intro wS hSw; (try dsimp only at hSw); (have s1 := hSw.c1); go_simp; try (with_reducible rfl))
      try simp only [Act.put, List.setIfInBounds_toArray, List.set_cons_zero, List.set_cons_succ]
      refine RegE.consE (i := 7) rfl (by kernel_rfl) (fun K hK => ?_)
      go_simp
      obtain ⟨hA, hO, hq7, hb7⟩ := hq.laid s (by have := HSS.out; unfold maxLen; omega)
      have hHeld := hq7.lx
      try rw [size_alloc] at hA
      refine hK.out _ _ (.inr hHeld) ?_
      clear hK K
      try simp only [Act.put, List.setIfInBounds_toArray, List.set_cons_zero, List.set_cons_succ]
      refine RegE.consE (i := 8) rfl (by kernel_rfl) (fun K hK => ?_)
      refine Cd.step_appendN (c := atomC) rfl (.tmp 20) (.tmp 26) 46 rfl (w.heap.size + 1) 66 (.agg #[.string ⟨#[]⟩, .slice none 0 0]) 2 40 rfl Tryd.underlying46 info_atom rfl (by decide) _ L fp rfl hq7.ow hq7.nd _ _ rfl hA (s, [0]) _ hO (by simp) (by have := hq.far; simpa using this) (by have := HQP.out.2.2.2.1; omega) hb7 ?_
      intro g capn w8 fp8 ho8 hn8 hs8 ht8
      have hx8 := hq7.lx.touched ht8 hq7.xf
      have hHeld := hx8
      refine hK.out _ _ (.inr hHeld) ?_
      clear hK K
      try simp only [Act.put, List.setIfInBounds_toArray, List.set_cons_zero, List.set_cons_succ]
      refine RegE.takeE (i := 9) (v := ?_) rfl (by kernel_rfl) (by kernel_rfl) (by kernel_rfl) (fun _ _ _ h => h) (by kernel_rfl) (Or.inl ⟨by rfl, ?_⟩) (by assumption) ?_
      rotate_left
      · (intro wS hSw; (try dsimp only at hSw); (have s1 := hSw.c1); go_simp; try (with_reducible rfl))
      try simp only [Act.put, List.setIfInBounds_toArray, List.set_cons_zero, List.set_cons_succ]
      have HS9 := Lib.hid (QS.app hq7 ht8 ho8 hn8 hs8 hq.xb (.inr trivial))
      have f1 := hx8.f1
      have f2 := hx8.c1
      have HKO := Lib.hid (okq_app HOK.out HQP.out.2.2.2.1 (A := (s, [0])) ⟨HSS.out, by simp⟩)
      clear hA hO hb7 ho8 hn8 hs8 ht8 hx8 hq7 hq
      refine RegE.consE (i := 10) rfl (by kernel_rfl) (fun K hK => ?_)
      go_simp
      refine hK.out _ _ (.inl (by kernel_rfl)) ?_
      clear hK K
      try simp only [Act.put, List.setIfInBounds_toArray, List.set_cons_zero, List.set_cons_succ]
      refine RegE.doneE (by kernel_rfl) ?_ _
      have m0 := HS9.out.lx.c0
      have m1 := HS9.out.lx.c1
      obtain ⟨ra, rb, hr⟩ := HS9.out.lr
      obtain ⟨r0, r1, rf0, rf1⟩ := hr
      go_wp2_with fail
      obtain ⟨k0, k1, hf⟩ := HS9.out.fin (by have := HN.out; omega) HKO.out
      exact bodyPost_ret (v := .agg #[.int .i64 n, .slice (some ⟨g, 0, none⟩) (L.length + 1) capn]) (by simp [results, Tryd.results78, go_sem, k0, k1]) rfl hf
  have tt1 : (x == 1) = false := by rw [beq_eq_false_iff_ne]; exact x1
  by_cases x2 : x = 2
  · subst x2
    have hL0 : 0 < L.length := HQP.out.2.2.1
    have hR0 : 0 < L[0].2.length := (HQP.out.2.2.2.2.1 _ (List.getElem_mem hL0)).2.1
    have HA0 := Lib.hid (HOK.out.2.2 _ (List.getElem_mem hL0))
    obtain ⟨g, g2, k2, rfl, q0, q1, qf, hgX, _, hgl, _, _, _, _, _, _, ⟨fp', hS⟩, _⟩ := HS2.out.first hL0 hR0
    have HS3 := Lib.hid hS
    have y0 := HS2.out.lx.c0
    have y1 := HS2.out.lx.c1
    have l1 : (0 : Int) < (L.length : Int) := by omega
    have e0 := HS3.out.lx.c0
    have e1 := HS3.out.lx.c1
    obtain ⟨ra, rb, hr⟩ := HS3.out.lr
    obtain ⟨r0, r1, rf0, rf1⟩ := hr
    clear hS x0 x1
    go_wp2_with fail
    obtain ⟨k0, k1, hf⟩ := HS3.out.fin (by have := HN.out; omega) (okq_set HOK.out (A := (L[0].1, [])) ⟨HA0.out.1, by simp⟩)
    exact bodyPost_ret (v := .agg #[.int .i64 n, .slice (some ⟨g, 0, none⟩) L.length cl]) (by simp [results, Tryd.results78, go_sem, k0, k1]) rfl hf
  have tt2 : (x == 2) = false := by rw [beq_eq_false_iff_ne]; exact x2
  by_cases x3 : x = 3
  · subst x3
    have hL0 : 0 < L.length := HQP.out.2.2.1
    have hR0 : 0 < L[0].2.length := (HQP.out.2.2.2.2.1 _ (List.getElem_mem hL0)).2.1
    have HA0 := Lib.hid (HOK.out.2.2 _ (List.getElem_mem hL0))
    obtain ⟨g, g2, k2, rfl, _, q1, _, _, _, _, _, hwg, _⟩ := HS2.out.first hL0 hR0
    have hq0 : QG w c v l B X n _ L fp g g2 L[0].2.length k2 w2 := ⟨HS2.out, q1, hwg⟩
    clear q1 hwg
    go_upto_region 10 with fail
    have hq := hq0.drew
    have HL1 := Lib.hid (And.intro hL0 hR0)
    have l1 : (0 : Int) < (L.length : Int) := by omega
    have l2 : (0 : Int) < (L[0].2.length : Int) := by omega
    refine RegE.startE 9 (fun wx => Loc2 wx X (.int .i64 n) (.slice (some ⟨g, 0, none⟩) L.length cl) ∧ wx.cell? ⟨g, 1, none⟩ = some (.slice (some ⟨g2, 0, none⟩) L[0].2.length k2)) (by kernel_rfl) (And.intro hq.qs.lx hq.cg) (fun hHeld => ?_)
    refine RegE.takeE (i := 0) (v := ?_) rfl (by kernel_rfl) (by kernel_rfl) (by kernel_rfl) (fun _ _ _ h => h) (by kernel_rfl) (Or.inl ⟨by rfl, ?_⟩) (by assumption) ?_
    rotate_left
    · (intro wS hSw; (try dsimp only at hSw); (obtain ⟨sx, sg⟩ := hSw); (have s1 := sx.c1); go_simp; try (with_reducible rfl))
    try simp only [Act.put, List.setIfInBounds_toArray, List.set_cons_zero, List.set_cons_succ]
    refine RegE.takeE (i := 1) (v := ?_) rfl (by kernel_rfl) (by kernel_rfl) (by kernel_rfl) (fun _ _ _ h => h) (by kernel_rfl) (Or.inl ⟨by rfl, ?_⟩) (by assumption) ?_
    rotate_left
    · (intro wS hSw; (try dsimp only at hSw); (obtain ⟨sx, sg⟩ := hSw); (have s1 := sx.c1); go_simp; try (with_reducible rfl))
    try simp only [Act.put, List.setIfInBounds_toArray, List.set_cons_zero, List.set_cons_succ]
    refine RegE.takeE (i := 2) (v := ?_) rfl (by kernel_rfl) (by kernel_rfl) (by kernel_rfl) (fun _ _ _ h => h) (by kernel_rfl) (Or.inl ⟨by rfl, ?_⟩) (by assumption) ?_
    rotate_left
    · (intro wS hSw; (try dsimp only at hSw); (obtain ⟨sx, sg⟩ := hSw); (have s1 := sx.c1); go_simp; try (with_reducible rfl))
    try simp only [Act.put, List.setIfInBounds_toArray, List.set_cons_zero, List.set_cons_succ]
    refine RegE.takeE (i := 3) (v := ?_) rfl (by kernel_rfl) (by kernel_rfl) (by kernel_rfl) (fun _ _ _ h => h) (by kernel_rfl) (Or.inl ⟨by rfl, ?_⟩) (by assumption) ?_
    rotate_left
    · (intro wS hSw; (try dsimp only at hSw); (obtain ⟨sx, sg⟩ := hSw); (have s1 := sx.c1); go_simp; try (with_reducible rfl))
    try simp only [Act.put, List.setIfInBounds_toArray, List.set_cons_zero, List.set_cons_succ]
    refine RegE.takeE (i := 4) (v := ?_) rfl (by kernel_rfl) (by kernel_rfl) (by kernel_rfl) (fun _ _ _ h => h) (by kernel_rfl) (Or.inl ⟨by rfl, ?_⟩) (by assumption) ?_
    rotate_left
    · (intro wS hSw; (try dsimp only at hSw); (obtain ⟨sx, sg⟩ := hSw); (have s1 := sx.c1); go_simp; try (with_reducible rfl))
    try simp only [Act.put, List.setIfInBounds_toArray, List.set_cons_zero, List.set_cons_succ]
    refine RegE.takeE (i := 5) (v := ?_) rfl (by kernel_rfl) (by kernel_rfl) (by kernel_rfl) (fun _ _ _ h => h) (by kernel_rfl) (Or.inl ⟨by rfl, ?_⟩) (by assumption) ?_
    rotate_left
    · (intro wS hSw; (try dsimp only at hSw); (obtain ⟨sx, sg⟩ := hSw); (have s1 := sx.c1); go_simp; try (with_reducible rfl))
    try simp only [Act.put, List.setIfInBounds_toArray, List.set_cons_zero, List.set_cons_succ]
    refine RegE.consE (i := 6) rfl (by kernel_rfl) (fun K hK => ?_)
    go_simp
    have hstr := LocDraw.list_cellsI zz3 w2.drew 3
    replace hq := hq.later (below_alloc _ (.cells (zz3.map fun z => Value.int .i64 z).toArray 3))
    have hHeld := And.intro hq.qs.lx hq.cg
    refine hK.out _ _ (.inr hHeld) ?_
    clear hK K
    try simp only [Act.put, List.setIfInBounds_toArray, List.set_cons_zero, List.set_cons_succ]
    refine RegE.consE (i := 7) rfl (by kernel_rfl) (fun K hK => ?_)
    go_simp
    go_at_call 124
    refine (pickI_cr zz3 w2.heap.size (by decide) (by decide) c v l B _ hq.qs.cu (by have := HS2.out.cu.lt; omega) hstr).mono ?_
    rintro e w3 ⟨y, hy, rfl, hc3, ht3⟩
    replace hq := hq.grown ht3 hc3
    have hHeld := And.intro hq.qs.lx hq.cg
    have HY := Lib.hid (zz3_ok y hy)
    clear hc3 ht3 hy hstr
    refine hK.out _ _ (.inr hHeld) ?_
    clear hK K
    try simp only [Act.put, List.setIfInBounds_toArray, List.set_cons_zero, List.set_cons_succ]
    refine RegE.takeE (i := 8) (v := ?_) rfl (by kernel_rfl) (by kernel_rfl) (by kernel_rfl) (fun _ _ _ h => h) (by kernel_rfl) (Or.inl ⟨by rfl, ?_⟩) (by assumption) ?_
    rotate_left
    · (intro wS hSw; (try dsimp only at hSw); (obtain ⟨sx, sg⟩ := hSw); (have s1 := sx.c1); go_simp; try (with_reducible rfl))
    try simp only [Act.put, List.setIfInBounds_toArray, List.set_cons_zero, List.set_cons_succ]
    obtain ⟨g', g3, k3, e1, _, q1, _, _, _, _, _, _, _, _, ⟨x9, x9c⟩, x9f, _, hput⟩ := hq.qs.first HL1.out.1 HL1.out.2
    simp only [Option.some.injEq, Addr.mk.injEq, and_true] at e1
    subst e1
    have e2 := q1.symm.trans hq.cg
    simp only [Option.some.injEq, Value.slice.injEq, Addr.mk.injEq, and_true, true_and] at e2
    obtain ⟨rfl, rfl⟩ := e2
    obtain ⟨fp9, hS9⟩ := hput y HY.out
    have HS9 := Lib.hid hS9
    clear hput hS9 q1
    refine RegE.consE (i := 9) rfl (by kernel_rfl) (fun K hK => ?_)
    go_simp
    refine hK.out _ _ (.inl (by kernel_rfl)) ?_
    clear hK K
    try simp only [Act.put, List.setIfInBounds_toArray, List.set_cons_zero, List.set_cons_succ]
    refine RegE.doneE (by kernel_rfl) ?_ _
    have m0 := HS9.out.lx.c0
    have m1 := HS9.out.lx.c1
    obtain ⟨ra, rb, hr⟩ := HS9.out.lr
    obtain ⟨r0, r1, rf0, rf1⟩ := hr
    go_wp2_with fail
    obtain ⟨k0, k1, hf⟩ := HS9.out.fin (by have := HN.out; omega) (okq_set HOK.out (A := (L[0].1, L[0].2.set 0 y)) ⟨HA0.out.1, by rw [List.length_set]; exact HA0.out.2⟩)
    exact bodyPost_ret (v := .agg #[.int .i64 n, .slice (some ⟨g, 0, none⟩) L.length cl]) (by simp [results, Tryd.results78, go_sem, k0, k1]) rfl hf
  have tt3 : (x == 3) = false := by rw [beq_eq_false_iff_ne]; exact x3
  have e0 := HS2.out.lx.c0
  have e1 := HS2.out.lx.c1
  obtain ⟨ra, rb, hr⟩ := HS2.out.lr
  obtain ⟨r0, r1, rf0, rf1⟩ := hr
  clear x0 x1 x2 x3
  go_wp2_with fail
  obtain ⟨k0, k1, hf⟩ := HS2.out.fin (by have := HN.out; omega) HOK.out
  exact bodyPost_ret (v := .agg #[.int .i64 n, .slice al L.length cl]) (by simp [results, Tryd.results78, go_sem, k0, k1]) rfl hf
end Go.Proofs.YtdjgaffiildijabDoor.QryDraw
