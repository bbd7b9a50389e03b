/- How the laws draw sizes and lists of size classes. -/
import Derived.Test.YthageciihhpmoaaIntsWalk
import Derived.Test.YthageciihhpmoaaDraw
import Derived.Deep.RegionHeld3
namespace Go.Proofs.Ythageciihhpmoaa.LocDraw
open Go Go.RowKit Byt Ints IntsLaw IntsWalk Draw

theorem owni_kept {w w' : World} {base c : Nat} {e : TypeId} {u : Value} {l : List Int} (h : OwnI w base e u l) (hg : w.grownBy w' (some c)) (hc : c < base) : OwnI w' base e u l := by
  refine World.ownsRow.kept h hg ?_
  cases hv : u.ownBlock with
  | none => exact .inl rfl
  | some k =>
    refine .inr ?_
    have := World.ownsRow.lt h k hv
    intro q
    injection q with q
    omega
theorem owni_far {w : World} {base g1 n cap : Nat} {e : TypeId} {l : List Int} {p : Addr} (u : Value) (h : OwnI w base e (.slice (some ⟨g1, 0, none⟩) n cap) l) (hp : g1 ≠ p.block) : OwnI (w.setCell p u) base e (.slice (some ⟨g1, 0, none⟩) n cap) l :=
  World.ownsRow.kept (row := some p.block) h ⟨rfl, rfl, rfl, by simp, fun i _ hne => heap_setCell_other w p i u (by intro q; exact hne (by rw [q]))⟩ (.inr (by simpa [Value.ownBlock] using hp))
theorem wrap_inr (x : Int) : -9223372036854775808 ≤ (if 0 < IntKind.i64.wrap x then IntKind.i64.wrap x else 0) ∧ (if 0 < IntKind.i64.wrap x then IntKind.i64.wrap x else 0) ≤ 9223372036854775807 := by
  rw [IntKind.wrap_i64]
  split <;> omega
theorem list_cellsI (zs : List Int) (w : World) (T : TypeId) : ∀ t, t < zs.length → (w.alloc (.cells (zs.map fun z => Value.int .i64 z).toArray T (0, 0))).cell? ⟨w.heap.size, t, none⟩ = some (.int .i64 (zs.getD t 0)) := by
  intro t ht
  rw [World.cell?_alloc_mark]
  simp [ht]
theorem cur_allocI {w : World} {c : Nat} {v : Value} {l : List UInt8} (o : Obj) (h : Cur w c v l) : Cur (w.alloc o) c v l :=
  h.kept (World.grownBy_alloc w o none) (by intro q; cases q)
theorem grown_allocI {w w' : World} {c : Nat} (o : Obj) (h : w.grownBy w' (some c)) : w.grownBy (w'.alloc o) (some c) :=
  grown_trans h (World.grownBy_alloc w' o (some c))
theorem cur_farI {w : World} {c : Nat} {v : Value} {l : List UInt8} {p : Addr} (u : Value) (h : Cur w c v l) (hp : c ≠ p.block) : Cur (w.setCell p u) c v l := by
  obtain ⟨i, x, hi, hh⟩ := h
  exact ⟨i, x, hi, by rw [heap_setCell_other w p c u hp]; exact hh⟩
theorem grown_newI {w w' : World} {c : Nat} {p : Addr} (u : Value) (h : w.grownBy w' (some c)) (hp : w.heap.size ≤ p.block) : w.grownBy (w'.setCell p u) (some c) :=
  ⟨h.os, h.tape, h.output, by show _ ≤ (w'.setCell p u).heap.size; simp; exact h.size, fun k hk hne => (heap_setCell_other w' p k u (by omega)).trans (h.block k hk hne)⟩
theorem inr_set {l : List Int} (h : InR l) (j : Nat) {x : Int} (hx : -9223372036854775808 ≤ x ∧ x ≤ 9223372036854775807) : InR (l.set j x) := fun y hy => by
  rcases List.mem_or_eq_of_mem_set hy with q | q
  · exact h y q
  · rw [q]; exact hx
theorem inr_snoc {l : List Int} (h : InR l) {x : Int} (hx : -9223372036854775808 ≤ x ∧ x ≤ 9223372036854775807) : InR (l ++ [x]) := fun y hy => by
  rcases List.mem_append.1 hy with q | q
  · exact h y q
  · rw [List.mem_singleton.1 q]; exact hx

theorem form_some {w : World} {base : Nat} {e : TypeId} {o : Value} {ls : List Int} {G n : Nat} (h : OwnI w base e o ls) (hn : ls = [] → o = .slice (some ⟨G, 0, none⟩) 0 0) (hlen : ls.length = n) : ∃ g cap, o = .slice (some ⟨g, 0, none⟩) n cap := by
  subst hlen
  rcases h.form with ⟨_, h2⟩ | ⟨g, cap, h1, _⟩
  · have := hn h2
    subst h2
    exact ⟨G, 0, this⟩
  · exact ⟨g, cap, h1⟩

theorem once_anyI (n : Int) (c : Nat) (v : Value) (l : List UInt8) (B : Nat) (w : World) (hc : Cur w c v l) (hr : Reads w v l B) (hB : B ≤ c) :
    Calls Try.prog 83 #[.pointer (some ⟨c, 0, none⟩), .int .i64 n] w fun e w' => ∃ b : Bool, e = .returned (.bool b) ∧ Cur w' c v l ∧ w.grownBy w' (some c) := by
  have hby := Lib.hid (below_any n c v l B w hc hr hB)
  go_enter Try.func83, Try.ntmps83
  go_wp2_with fail
  refine hby.out.mono ?_
  rintro e w1 ⟨x, rfl, hx0, hx1, hc1, hg1⟩
  go_wp2_with fail
  go_ret
  exact ⟨x == 0, rfl, hc1, hg1⟩

def zl : List Int := [-1, 7, 8, 1000]
theorem zl_ok : ∀ t : Fin 4, -9223372036854775808 ≤ zl.getD t.val 0 ∧ zl.getD t.val 0 ≤ 9223372036854775807 := by decide

set_option maxRecDepth 100000 in
set_option maxHeartbeats 1600000 in
theorem loc_any (n : Nat) (hn : n ≤ 20) (c : Nat) (v : Value) (l : List UInt8) (B : Nat) (w : World) (hc : Cur w c v l) (hr : Reads w v l B) (hB : B ≤ c) :
    Calls Try.prog 88 #[.pointer (some ⟨c, 0, none⟩), .int .i64 n] w fun e w' => ∃ (u : Value) (ls : List Int), e = .returned u ∧ OwnI w' w.heap.size 3 u ls ∧ ls.length = n ∧ InR ls ∧ Cur w' c v l ∧ w.grownBy w' (some c) ∧ ∃ g cap, u = .slice (some ⟨g, 0, none⟩) n cap := by
  have hcs := cur_size hc
  have HR := Lib.hid (fun w' (hg : w.grownBy w' (some c)) => hr.later (below_of hg hB hcs))
  have HA := Lib.hid (And.intro (OwnI.empty w w.heap.size 3 (Nat.le_refl _)) (And.intro (cur_allocI (.cells #[] 3) hc) (World.grownBy_alloc w (.cells #[] 3) (some c))))
  clear hc hr
  go_enter Try.func88, Try.ntmps88
  go_wp2_with fail
  go_loopw [5, 6] (fun o i wr => ∃ (k : Nat) (ls : List Int), k ≤ n ∧ i = .int .i64 k ∧ OwnI wr w.heap.size 3 o ls ∧ ls.length = k ∧ InR ls ∧ Cur wr c v l ∧ w.grownBy wr (some c) ∧ (ls = [] → o = .slice (some ⟨w.heap.size, 0, none⟩) 0 0)) (fun _ i _ => n - (intOf i).toNat)
  case atStart => exact ⟨0, [], Nat.zero_le _, rfl, HA.out.1, rfl, (fun x hx => by cases hx), HA.out.2.1, HA.out.2.2, fun _ => rfl⟩
  case round =>
    obtain ⟨k, ls, hk, rfl, hown, hlen, hin, hc1, hg1, hnil⟩ := hrel
    by_cases hlt : k < n
    · have HB := Lib.hid (below_any 5 c v l B wr hc1 (HR.out wr hg1) hB)
      have HG1 := Lib.hid hg1
      have HO := Lib.hid hown
      have HIN := Lib.hid hin
      have hs1 := hg1.size
      clear hc1 hg1 hown hin
      go_wp2_with fail
      refine HB.out.mono ?_
      rintro e w2 ⟨x, rfl, hx0, hx5, hc2, hg2⟩
      have hx := hx5 (by decide)
      have hown2 := owni_kept HO.out hg2 hcs
      have HG2 := Lib.hid (grown_trans HG1.out hg2)
      have HC2 := Lib.hid hc2
      have hs2 : w.heap.size ≤ w2.heap.size := HG2.out.size
      have hl2 : ls.length + 1 ≤ 1000000000000 := by omega
      have HIN2 := Lib.hid (inr_snoc HIN.out (x := x) ⟨by omega, by omega⟩)
      clear hg2 hc2 hx5
      go_wp2_with (at_builtin; refine wp_appendI rfl (.tmp 13) (.tmp 16) 22 rfl w.heap.size 3 Try.underlying22 info_i64 _ ls rfl hown2 _ rfl hl2 hs2 ?_)
      intro v' w5 hown5 hb5
      go_wp2_with fail
      go_roundw
      case rel => exact ⟨k + 1, _, by omega, by go_num, hown5, by rw [List.length_append, hlen]; rfl, HIN2.out, cur_below HC2.out hb5 hcs, grown_own HG2.out hb5, fun q => absurd q (by simp)⟩
      case measure => simp [intOf]; omega
    · have ek : k = n := by omega
      subst ek
      have HF := Lib.hid (form_some hown hnil hlen)
      clear hnil
      by_cases hn0 : 0 < k
      · have HON := Lib.hid (once_anyI 8 c v l B wr hc1 (HR.out wr hg1) hB)
        have HG1 := Lib.hid hg1
        have HO := Lib.hid hown
        have HIN := Lib.hid hin
        clear hc1 hg1 hown hin
        go_wp2_with fail
        refine HON.out.mono ?_
        rintro e w2 ⟨b, rfl, hc2, hg2⟩
        have HO2 := Lib.hid (owni_kept HO.out hg2 hcs)
        have HG2 := Lib.hid (grown_trans HG1.out hg2)
        have HC2 := Lib.hid hc2
        clear hg2 hc2 HON
        cases b
        · go_wp2_with fail
          go_ret
          exact ⟨_, ls, rfl, HO2.out, hlen, HIN.out, HC2.out, HG2.out, HF.out⟩
        · have HB := Lib.hid (below_any k c v l B w2 HC2.out (HR.out w2 HG2.out) hB)
          go_wp2_with fail
          refine HB.out.mono ?_
          rintro e w3 ⟨x, rfl, hx0, hxn, hc3, hg3⟩
          obtain ⟨j, rfl⟩ := Int.eq_ofNat_of_zero_le hx0
          have hj : j < k := by have := hxn (by omega); omega
          have HO3 := Lib.hid (owni_kept HO2.out hg3 hcs)
          have HG3 := Lib.hid (grown_trans HG2.out hg3)
          have hs3 : w.heap.size ≤ w3.heap.size := HG3.out.size
          have hc4 := cur_allocI (.cells (zl.map fun z => Value.int .i64 z).toArray 3) hc3
          have G4 := Lib.hid (grown_allocI (.cells (zl.map fun z => Value.int .i64 z).toArray 3) HG3.out)
          have HP := Lib.hid (pick_any zl w3.heap.size (by decide) (by decide) c v l B _ hc4 (HR.out _ G4.out) hB (by omega) (list_cellsI zl w3 3))
          have HO4 := Lib.hid (HO3.out.alloc (.cells (zl.map fun z => Value.int .i64 z).toArray 3))
          clear hg3 hc3 hc4 hxn HB
          go_wp2_with fail
          refine HP.out.mono ?_
          rintro e w5 ⟨t, ht, rfl, hc5, hg5⟩
          have hz := zl_ok ⟨t, ht⟩
          simp only at hz
          generalize zl.getD t 0 = z at *
          have HO5 := owni_kept HO4.out hg5 hcs
          have HG5 := Lib.hid (grown_trans G4.out hg5)
          have HC5 := Lib.hid hc5
          clear hg5 hc5 HP
          rcases HO5.form with ⟨rfl, h0⟩ | ⟨g, cap, rfl, hbg, hgs⟩
          · rw [h0] at hlen; simp at hlen; omega
          have hcell := HO5.cellAt rfl j (by omega)
          have hfz := HO5.frozenAt rfl j
          have HST := Lib.hid (HO5.stored rfl j z)
          rw [hlen] at HST
          clear HO5
          have hjk : (j : Int) < (k : Int) := by omega
          rw [hlen]
          go_wp2_with fail
          go_ret
          exact ⟨_, ls.set j z, rfl, HST.out, by rw [List.length_set, hlen], inr_set HIN.out j hz, cur_farI _ HC5.out (by show c ≠ g; omega), grown_newI _ HG5.out hbg, g, cap, rfl⟩
      · go_wp2_with fail
        go_ret
        exact ⟨_, ls, rfl, hown, hlen, hin, hc1, hg1, HF.out⟩

def zs15 : List Int := [-1, 0, 1, 2, 4, 5, 16, 17, 64, 1024, 1025, 4096, 4097, 9223372036854775807, -9223372036854775808]
theorem zs15_ok : ∀ t : Fin 15, -9223372036854775808 ≤ zs15.getD t.val 0 ∧ zs15.getD t.val 0 ≤ 9223372036854775807 := by decide
def zs4 : List Int := [0, 1, 4, 8]
theorem zs4_ok : ∀ t : Fin 4, 0 ≤ zs4.getD t.val 0 ∧ zs4.getD t.val 0 ≤ 8 := by decide

set_option maxRecDepth 100000 in
set_option maxHeartbeats 800000 in
theorem draw_size (v : Value) (l : List UInt8) (B : Nat) (w : World) (hr : Reads w v l B) (hB : B ≤ w.heap.size) :
    Calls Try.prog 44 #[v] w fun e w' => ∃ n : Int, e = .returned (.int .i64 n) ∧ (-9223372036854775808 ≤ n ∧ n ≤ 9223372036854775807) ∧ Below B w w' := by
  have h1 := Lib.hid (new_any v l B w hr)
  go_enter Try.func44, Try.ntmps44
  go_wp2_with fail
  refine h1.out.mono ?_
  rintro e w1 ⟨rfl, hc1, hg1⟩
  have hb1 : Below B w w1 := (Below.refl _ _).grown hg1 hB (by simp)
  have hr1 := hr.later hb1
  have hcs1 := cur_size hc1
  clear hg1
  go_wp2_with fail
  refine (once_anyI 3 _ v l B w1 hc1 hr1 hB).mono ?_
  rintro e w2 ⟨b, rfl, hc2, hg2⟩
  have hb2 := hb1.trans (below_of hg2 hB hcs1)
  have hr2 := hr.later hb2
  have hcs2 := cur_size hc2
  clear hg2 hr1
  cases b
  · go_wp2_with fail
    refine (below_any 300 _ v l B w2 hc2 hr2 hB).mono ?_
    rintro e w3 ⟨x, rfl, hx0, hx1, hc3, hg3⟩
    have hx := hx1 (by decide)
    have hb3 := hb2.trans (below_of hg3 hB hcs2)
    clear hg3 hx1 hr2
    go_wp2_with fail
    go_ret
    exact ⟨x, rfl, by omega, hb3⟩
  · have hc3 := cur_allocI (.cells (zs15.map fun z => Value.int .i64 z).toArray 3) hc2
    have hb3 := Below.alloc hb2 (Nat.le_trans hB (Nat.le_of_lt hcs2)) (.cells (zs15.map fun z => Value.int .i64 z).toArray 3)
    have hr3 := hr.later hb3
    have HP := Lib.hid (pick_any zs15 w2.heap.size (by decide) (by decide) _ v l B _ hc3 hr3 hB (by omega) (list_cellsI zs15 w2 3))
    have HB3 := Lib.hid hb3
    have hcs3 := cur_size hc3
    clear hc3 hr3 hr2 hb3
    go_wp2_with fail
    refine HP.out.mono ?_
    rintro e w3 ⟨t, ht, rfl, hc4, hg4⟩
    have hn := zs15_ok ⟨t, ht⟩
    have hb4 := HB3.out.trans (below_of hg4 hB hcs3)
    simp only at hn
    generalize zs15.getD t 0 = n at *
    clear hg4 HP
    go_wp2_with fail
    go_ret
    exact ⟨n, rfl, hn, hb4⟩

/-- Two lists of ints. -/
def AnsD (w : World) (B : Nat) (e : Ending) (w' : World) : Prop :=
  ∃ (u1 u2 : Value) (l1 l2 : List Int), e = .returned (.tuple #[u1, u2]) ∧ OwnI w' w.heap.size 3 u1 l1 ∧ OwnI w' w.heap.size 3 u2 l2 ∧ InR l1 ∧ InR l2 ∧ l1.length ≤ 20 ∧ l2.length ≤ 20 ∧ Below B w w'
set_option maxRecDepth 100000 in
set_option maxHeartbeats 1600000 in
theorem draw_dom (v : Value) (l : List UInt8) (B : Nat) (w : World) (hr : Reads w v l B) (hB : B ≤ w.heap.size) :
    Calls Try.prog 50 #[v] w (AnsD w B) := by
  have h1 := Lib.hid (new_any v l B w hr)
  go_enter Try.func50, Try.ntmps50
  go_wp2_with fail
  refine h1.out.mono ?_
  rintro e w1 ⟨rfl, hc1, hg1⟩
  have hB' : B ≤ w.heap.size := hB
  generalize hcc : w.heap.size = c at *
  have hb1 : Below B w w1 := (Below.refl _ _).grown hg1 (by omega) (by simp)
  have hr1 := hr.later hb1
  have hcs1 := cur_size hc1
  have hc2 := cur_allocI (.cells (zs4.map fun z => Value.int .i64 z).toArray 3) hc1
  have hb2 := Below.alloc hb1 (Nat.le_trans hB (Nat.le_of_lt hcs1)) (.cells (zs4.map fun z => Value.int .i64 z).toArray 3)
  have hr2 := hr.later hb2
  have HP := Lib.hid (pick_any zs4 w1.heap.size (by decide) (by decide) c v l B _ hc2 hr2 hB (by omega) (list_cellsI zs4 w1 3))
  have HB2 := Lib.hid hb2
  have hcs2 := cur_size hc2
  clear hg1 hc1 hr1 hb1 hc2 hr2 hb2
  go_wp2_with fail
  refine HP.out.mono ?_
  rintro e w3 ⟨t, ht, rfl, hc3, hg3⟩
  have hz := zs4_ok ⟨t, ht⟩
  simp only at hz
  obtain ⟨n, hn⟩ := Int.eq_ofNat_of_zero_le hz.1
  have hn8 : n ≤ 8 := by omega
  rw [hn]
  have hb3 := HB2.out.trans (below_of hg3 hB hcs2)
  have hr3 := hr.later hb3
  have hcs3 := cur_size hc3
  clear hg3 HP HB2 hn hz
  go_wp2_with fail
  refine (loc_any n (by omega) c v l B w3 hc3 hr3 hB).mono ?_
  rintro e w4 ⟨u1, l1, rfl, ho4, hl1, hi1, hc4, hg4, g1, cap1, rfl⟩
  have hb4 := hb3.trans (below_of hg4 hB hcs3)
  have hr4 := hr.later hb4
  have hcs4 := cur_size hc4
  have ho4 := ho4.base_mono (base' := c + 1) hcs3
  clear hg4 hb3 hr3
  go_wp2_with fail
  refine (below_any 4 c v l B w4 hc4 hr4 hB).mono ?_
  rintro e w5 ⟨x, rfl, hx0, hx4, hc5, hg5⟩
  have hb5 := hb4.trans (below_of hg5 hB hcs4)
  have hr5 := hr.later hb5
  have hcs5 := cur_size hc5
  have ho5 := owni_kept ho4 hg5 (Nat.lt_succ_self c)
  clear hg5 hb4 hr4 ho4 hx4
  by_cases x0 : x = 0
  · have t0 : (x == 0) = true := by rw [x0]; rfl
    clear x0
    go_wp2_with fail
    refine (loc_any n (by omega) c v l B w5 hc5 hr5 hB).mono ?_
    rintro e w6 ⟨u2, l2, rfl, ho6, hl2, hi2, hc6, hg6, g2, cap2, rfl⟩
    have hb6 := hb5.trans (below_of hg6 hB hcs5)
    have ho7 := owni_kept ho5 hg6 (Nat.lt_succ_self c)
    clear hg6
    go_wp2_with fail
    go_ret2
    exact ⟨_, _, l1, l2, rfl, ho7.base_mono (by omega), ho6.base_mono (by omega), hi1, hi2, by omega, by omega, hb6⟩
  have t0 : (x == 0) = false := by rw [beq_eq_false_iff_ne]; exact x0
  by_cases x1 : x = 1
  · have t1 : (x == 1) = true := by rw [x1]; rfl
    clear x0 x1
    have en : ((n : Int) + 1) = ((n + 1 : Nat) : Int) := by omega
    have HL := Lib.hid (loc_any (n + 1) (by omega) c v l B w5 hc5 hr5 hB)
    rw [← en] at HL
    clear en
    go_wp2_with fail
    refine HL.out.mono ?_
    rintro e w6 ⟨u2, l2, rfl, ho6, hl2, hi2, hc6, hg6, g2, cap2, rfl⟩
    have hb6 := hb5.trans (below_of hg6 hB hcs5)
    have ho7 := owni_kept ho5 hg6 (Nat.lt_succ_self c)
    clear hg6
    go_wp2_with fail
    go_ret2
    exact ⟨_, _, l1, l2, rfl, ho7.base_mono (by omega), ho6.base_mono (by omega), hi1, hi2, by omega, by omega, hb6⟩
  have t1 : (x == 1) = false := by rw [beq_eq_false_iff_ne]; exact x1
  clear x0 x1
  have hg1 : c + 1 ≤ g1 ∧ g1 < w5.heap.size := World.ownsRow.lt ho5 g1 rfl
  have he5 : OwnI (w5.alloc (.cells #[] 3)) w5.heap.size 3 (.slice (some ⟨w5.heap.size, 0, none⟩) 0 0) [] := OwnI.empty w5 _ _ (Nat.le_refl _)
  have hys : ∀ j, (h : j < l1.length) → (w5.alloc (.cells #[] 3)).cell? ⟨g1, j, none⟩ = some (.int .i64 l1[j]) := fun j h => (ho5.alloc _).cellAt hl1 j h
  have HE := Lib.hid he5
  have HYS := Lib.hid hys
  have HO5 := Lib.hid ho5
  have HC5 := Lib.hid hc5
  have hl2 : ([] : List Int).length + l1.length ≤ 1000000000000 := by simp; omega
  have hb5s : w5.heap.size ≤ (w5.alloc (.cells #[] 3)).heap.size := by simp
  clear he5 hys ho5 hc5 hr5
  go_wp2_with (at_builtin; refine wp_appendS rfl (.tmp 32) (.tmp 33) 22 rfl w5.heap.size 3 Try.underlying22 info_i64 _ [] rfl HE.out g1 n cap1 l1 rfl hl1 HYS.out hl2 hb5s ?_)
  intro v' w6 hown6 hb6
  have hba : Below w5.heap.size w5 w6 := ((Below.refl _ _).alloc (Nat.le_refl _) _).trans hb6
  have hu6 := HO5.out.later hba
  have hc6 := cur_below HC5.out hba hcs5
  have hb6' := hb5.trans (hba.mono (by omega))
  have hs6 := hba.size
  have H6 := Lib.hid (And.intro hown6 (And.intro hu6 (And.intro hc6 hb6')))
  clear hown6 hb6 hba hu6 hc6 hb6' HE HYS HO5 HC5
  go_wp2_with fail
  go_loopw [8] (fun i wr => ∃ (k : Nat) (lb : List Int), k ≤ n ∧ i = .int .i64 k ∧ OwnI wr w5.heap.size 3 v' lb ∧ lb.length = n ∧ InR lb ∧ OwnI wr (c + 1) 3 (.slice (some ⟨g1, 0, none⟩) n cap1) l1 ∧ Cur wr c v l ∧ Below B w wr) (fun i _ => n - (intOf i).toNat)
  case atStart => exact ⟨0, l1, Nat.zero_le _, rfl, H6.out.1, hl1, hi1, H6.out.2.1, H6.out.2.2.1, H6.out.2.2.2⟩
  case round =>
    obtain ⟨k, lb, hk, rfl, hob, hlb, hib, hou, hcw, hbw⟩ := hrel
    by_cases hlt : k < n
    · rcases hob.form with ⟨_, h0⟩ | ⟨g, cap, hv, hbg, hgs⟩
      · rw [h0] at hlb; simp at hlb; omega
      rw [hlb] at hv
      subst hv
      have hcell := hob.cellAt hlb k (by omega)
      have hfz := hob.frozenAt hlb k
      have hy := hib _ (List.getElem_mem (show k < lb.length by omega))
      have hcsw := cur_size hcw
      have hrw := hr.later hbw
      have HBL := Lib.hid (below_any 2 c v l B wr.drew hcw hrw hB')
      have hne : g ≠ c := by omega
      have HK := Lib.hid (fun (w7 : World) (hg7 : wr.drew.grownBy w7 (some c)) => And.intro (owni_kept (w := wr.drew) hob hg7 (by omega)) (And.intro (owni_kept (w := wr.drew) hou hg7 (Nat.lt_succ_self c)) ((Below.drew hbw).trans (below_of (w := wr.drew) hg7 hB' hcsw))))
      have hkl : (k : Int) < (lb.length : Int) := by omega
      have hk0 : (0 : Int) ≤ (k : Int) := by omega
      have hkn : (k : Int) < (n : Int) := by omega
      go_wp2_with fail
      go_region_with (first | (go_at_call 85; refine HBL.out.mono ?_; rintro e w7 ⟨z, rfl, hz0, hz1, hc7, hg7⟩; obtain ⟨hob7, hou7, hbw7⟩ := HK.out w7 hg7; have hcell7 := hob7.cellAt hlb k (show k < lb.length by omega); have hfz7 := hob7.frozenAt hlb k))
      all_goals
        have hqb := wrap_inr (lb[k] - z)
        generalize (if 0 < IntKind.i64.wrap (lb[k] - z) then IntKind.i64.wrap (lb[k] - z) else 0) = q at *
        have hst := hob7.stored hlb k q
        have HST := Lib.hid hst
        have HIN := Lib.hid (inr_set hib k hqb)
        clear hst hqb
        have HOU := Lib.hid hou7
        have HC7 := Lib.hid hc7
        have HBW := Lib.hid hbw7
        clear hob7 hou7 hc7 hbw7 hg7 hcell7 hfz7
        go_wp2_with fail
        go_roundw
        case rel =>
          refine ⟨k + 1, lb.set k q, ?_, ?_, HST.out, ?_, HIN.out, ?_, ?_, ?_⟩
          · omega
          · go_num
          · rw [List.length_set, hlb]
          · exact owni_far _ HOU.out (by show g1 ≠ g; omega)
          · exact cur_farI _ HC7.out (by show c ≠ g; omega)
          · exact HBW.out.setCell (by show B ≤ g; omega) _
        case measure => simp [intOf]; omega
    · go_wp2_with fail
      go_ret2
      exact ⟨_, _, l1, lb, rfl, hou.base_mono (by omega), hob.base_mono (by omega), hi1, hib, by omega, by omega, hbw⟩
end Go.Proofs.Ythageciihhpmoaa.LocDraw
