/- Bounds from degree sequences: the program's bounds. -/
import Derived.Test.YtklamhnecncenaaSbImp2
namespace Go.Proofs.Ytklamhnecncenaa.SbImp
open Go Go.RowKit Byt Ints IntsLaw Cd Rows2 Tab TabSpec Exact DegMath DegSpec DegImp SbMath SbSpec SbRep SbZip

theorem impl_min (g cap base : Nat) (L : List (List Int)) (h0 : L ≠ []) (h8 : L.length ≤ 8) (w : World) (hown : OwnI w base 3 (.slice (some ⟨g, 0, none⟩) (L.map fun l => (l.length : Int)).length cap) (L.map fun l => (l.length : Int))) :
    Calls Try.prog 141 #[.slice (some ⟨g, 0, none⟩) L.length cap] w fun e w' => e = .returned (.int .i64 (minL L : Int)) ∧ w = w' := by
  have hown : OwnI w base 3 (.slice (some ⟨g, 0, none⟩) (lens L).length cap) (lens L) := hown
  have hp : 0 < (lens L).length := by rw [lens_len]; exact List.length_pos_iff.2 h0
  have h := Try.slices_Min_int g 0 (lens L).length cap (lens L) w hp (Nat.le_refl _) (by rw [lens_len]; omega) (fun j hj => by
    rw [Nat.zero_add, hown.cellAt rfl j hj]
    simp [hj])
  rw [List.take_length, minOf_lens h0, lens_len] at h
  exact h.mono fun _ _ q => ⟨q.1, q.2.symm⟩
theorem rows_in {w : World} {S : Nat → Prop} {u : Value} {L : List (List Int)} (h : rowsC.rd w S [u] L) : ∀ l ∈ L, InR l := fun l hl => by
  obtain ⟨k, hk, rfl⟩ := List.getElem_of_mem hl
  obtain ⟨_, _, _, x, _, _, _, hx⟩ := rows_at h hk
  exact (row_ri hx).2
theorem col_in {L : List (List Int)} (h : ∀ l ∈ L, InR l) (k : Nat) : InR (colL L k) := fun x hx => by
  obtain ⟨l, hl, rfl⟩ := List.mem_map.1 hx
  by_cases hk : k < l.length
  · have := h l hl _ (List.getElem_mem hk)
    simp [hk]
    exact this
  · simp [hk]
set_option maxRecDepth 100000 in
set_option maxHeartbeats 3200000 in
theorem impl_zip (u : Value) (L : List (List Int)) (S : Nat → Prop) (w : World) (hr : rowsC.rd w S [u] L) (h0 : L ≠ []) (h3 : L.length ≤ 3) (hM : minL L ≤ 8) :
    Calls Try.prog 114 #[u] w fun e w' => ∃ v fp, e = .returned v ∧ rowsC.ow w' w.heap.size [v] (zipL L (minL L)) fp ∧ fp.Nodup ∧ Below w.heap.size w w' := by
  obtain ⟨i0, hi, hz0, hz1, hz2⟩ := info_parts info_ints
  have HLN := Lib.hid (map_lens u L S w hr (by omega))
  have HMN := Lib.hid (fun g cap base W h => impl_min g cap base L h0 (by omega) W h)
  have HCOL := Lib.hid (fun W (hb : Below w.heap.size w W) ix bx hix hcx => map_col u L S W (Cd.later hr hb) (by omega) ix bx hix hcx)
  have HIX := Lib.hid (show ∀ k, k < minL L → ∀ l ∈ L, k < l.length from fun k hk l hl => Nat.lt_of_lt_of_le hk (minL_le hl))
  have HIN := Lib.hid (fun k => col_in (rows_in hr) k)
  have HZL := Lib.hid (zip_len L (minL L))
  have HZA := Lib.hid (fun k (h : k < (zipL L (minL L)).length) => zip_at L (minL L) h)
  have HNE := Lib.hid (show (L.map fun l => (l.length : Int)) ≠ [] from fun q => h0 (List.map_eq_nil_iff.1 q))
  have hmf : ∀ (fn : Fn) (first cap : Array Value) (w : World), (Instr.makeFunc fn first cap).run Try.prog w = .ok (.func fn first cap) w := fun _ _ _ _ => rfl
  obtain ⟨a, cap, rfl, hlm⟩ := rows_form hr
  clear hr h0
  generalize zipL L (minL L) = Z at *
  generalize minL L = M at *
  have n1 : (0 : Int) ≤ (M : Int) := by omega
  have n2 : (M : Int) ≤ 8 := by omega
  go_enter Try.func114, Try.ntmps114
  go_wp2_with fail
  refine HLN.out.mono ?_
  rintro e w1 ⟨v1, rfl, hown1, hb1⟩
  have HLL := Lib.hid (show (L.map fun l => (l.length : Int)).length = L.length from List.length_map _)
  rcases OwnI.form hown1 with ⟨_, hnil⟩ | ⟨g1, cap1, rfl, hg1, hg2⟩
  · exact absurd hnil HNE.out
  have HMN1 := Lib.hid (HMN.out g1 cap1 _ w1 hown1)
  rw [HLL.out]
  have HB1 := Lib.hid hb1
  clear hown1 hb1 hg1 hg2 HLN HMN
  go_wp2_with fail
  refine HMN1.out.mono ?_
  rintro e w2 ⟨rfl, rfl⟩
  go_wp2_with (at_make; refine wpList_make_full _ rfl _ _ 32 rfl w1.heap.size 24 i0 (.slice none 0 0) 1 Try.underlying32 hi hz0 hz1 _ _ _ _ M rfl rfl rfl rfl (by rw [hz2]; omega) (by unfold maxLen; omega) (Nat.le_refl _) ?_)
  intro w2 hown0 hg0
  have hb2 : Below w1.heap.size w1 w2 := (Below.refl _ _).grown hg0 (Nat.le_refl _) (by simp)
  have how : rowsC.ow w2 w1.heap.size [.slice (some ⟨w1.heap.size, 0, none⟩) M M] (List.replicate M []) [w1.heap.size] := by
    rw [toList_madeCells_one] at hown0
    exact Cd.ow_made (c := rowC) (a := []) rfl hown0 (Cd.ow_nil _ _)
  clear hown0 hg0
  go_wp2_with fail
  go_loopw [11] (fun i wr => ∃ (k : Nat) (fp : List Nat), k ≤ M ∧ i = .int .i64 k ∧ rowsC.ow wr w1.heap.size [.slice (some ⟨w1.heap.size, 0, none⟩) M M] (partR Z k) fp ∧ fp.Nodup ∧ w1.heap.size < wr.heap.size ∧ Below w1.heap.size w1 wr) (fun i _ => M - (intOf i).toNat)
  case atStart => exact ⟨0, _, Nat.zero_le _, rfl, by rw [partR_zero, HZL.out]; exact how, by simp, (rowsC.ow_lt how w1.heap.size (by simp)).2, hb2⟩
  case round =>
    obtain ⟨k, fp, hk, rfl, hown, hnd, hsz, hb⟩ := hrel
    by_cases hlt : k < M
    · have HOW := Lib.hid hown
      have HB := Lib.hid hb
      have HND := Lib.hid hnd
      have p1 : (0 : Int) ≤ (k : Int) := by omega
      have p2 : (k : Int) < (M : Int) := by omega
      have hkz : k < Z.length := by rw [HZL.out]; exact hlt
      have hbx := below_alloc wr (.cells #[.int .i64 (k : Int)] 3)
      have HBX := Lib.hid hbx
      have HCX := Lib.hid (show (wr.alloc (.cells #[.int .i64 (k : Int)] 3)).cell? ⟨wr.heap.size, 0, none⟩ = some (.int .i64 (k : Int)) by
        rw [World.cell?_alloc_at _ _ _ _ (by simp)]
        rfl)
      have HSZ := Lib.hid hsz
      have HWX := Lib.hid (fun W (h : Below wr.heap.size wr W) => below_then HB1.out (HB.out.trans (h.mono HB.out.size)))
      clear hown hnd hb how hb2 hbx hsz
      go_wp2_with fail
      generalize hA : wr.alloc _ = A at *
      have hza : A.heap.size = wr.heap.size + 1 := by rw [← hA, size_alloc]
      have HZA2 := Lib.hid hza
      clear hA hza
      have c0 := HCX.out
      refine wp_region_held_drew (S := (fun wx => wx.cell? ⟨wr.heap.size, 0, none⟩ = some (.int .i64 (k : Int)))) (by kernel_rfl) ?_ (fun hHeld => ?_)
      · (first | assumption | (simp [*]; done))
      refine RegH.takeH (i := 0) (v := ?_) rfl (by kernel_rfl) (by kernel_rfl) (by kernel_rfl) (fun _ _ _ h => h) (Or.inl ⟨by rfl, ?_⟩) (by assumption) ?_
      rotate_left
      · (intro wS hSw; (try dsimp only at hSw); go_simp; try (with_reducible rfl))
      try simp only [Act.put, List.setIfInBounds_toArray, List.set_cons_zero, List.set_cons_succ]
      refine RegH.takeH (i := 1) (v := ?_) rfl (by kernel_rfl) (by kernel_rfl) (by kernel_rfl) (fun _ _ _ h => h) (Or.inl ⟨by rfl, ?_⟩) (by assumption) ?_
      rotate_left
      · (intro wS hSw; (try dsimp only at hSw); go_simp; try (with_reducible rfl))
      try simp only [Act.put, List.setIfInBounds_toArray, List.set_cons_zero, List.set_cons_succ]
      refine RegH.takeH (i := 2) (v := ?_) rfl (by kernel_rfl) (by kernel_rfl) (by kernel_rfl) (fun _ _ _ h => h) (Or.inl ⟨by rfl, ?_⟩) (by assumption) ?_
      rotate_left
      · (intro wS hSw; (try dsimp only at hSw); go_simp; try (with_reducible rfl))
      try simp only [Act.put, List.setIfInBounds_toArray, List.set_cons_zero, List.set_cons_succ]
      refine RegH.takeH (i := 3) (v := ?_) rfl (by kernel_rfl) (by kernel_rfl) (by kernel_rfl) (fun _ _ _ h => h) (Or.inl ⟨by rfl, ?_⟩) (by assumption) ?_
      rotate_left
      · (intro wS hSw; (try dsimp only at hSw); go_simp; try (with_reducible rfl))
      try simp only [Act.put, List.setIfInBounds_toArray, List.set_cons_zero, List.set_cons_succ]
      refine RegH.consH (i := 4) rfl (by kernel_rfl) (fun K hK => ?_)
      go_simp
      go_at_call 142
      refine (HCOL.out A.drew (HWX.out _ ⟨HBX.out.os, HBX.out.tape, HBX.out.output, HBX.out.size, HBX.out.block⟩) k wr.heap.size (HIX.out k hlt) HCX.out).mono ?_
      rintro e w3 ⟨v3, rfl, ho3, hb3⟩
      obtain ⟨a3, c3, hv3⟩ := own_slice ho3
      rw [List.length_map] at hv3
      subst hv3
      have HB3 := Lib.hid (show Below wr.heap.size wr w3 from below_then HBX.out (show Below A.heap.size A w3 from ⟨hb3.os, hb3.tape, hb3.output, hb3.size, hb3.block⟩))
      have c1 : w3.cell? ⟨wr.heap.size, 0, none⟩ = some (.int .i64 (k : Int)) := ((show Below A.heap.size A w3 from ⟨hb3.os, hb3.tape, hb3.output, hb3.size, hb3.block⟩).cell (p := ⟨wr.heap.size, 0, none⟩) (World.block_lt_of_cell? _ _ HCX.out)).trans HCX.out
      have C1 := Lib.hid c1
      have hown3 : rowsC.ow w3 w1.heap.size _ _ fp := Cd.ow_later HOW.out HB3.out
      have hpl := partR_length Z k (by omega)
      obtain ⟨u0, f0, hcell, _⟩ := Cd.ow_at (c := rowC) rfl hown3 (t := k) (by rw [hpl]; exact hkz)
      have hf := Cd.ow_frozen hown3 k
      have hrow := rowC.ow_base (Cd.ow_of_own ho3 (HIN.out k)) (show w1.heap.size ≤ A.drew.heap.size from Nat.le_trans (Nat.le_of_lt HSZ.out) (by show wr.heap.size ≤ A.heap.size; have := HZA2.out; omega))
      obtain ⟨fp', hput, hnd', _⟩ := Cd.ow_put (c := rowC) rfl hown3 HND.out hrow Cd.own_nodup (fun q hq hq' => by
          have h1 := (World.ownsRow.lt ho3 q (by simpa using hq)).1
          have h2 := (rowsC.ow_lt HOW.out q hq').2
          have h4 : A.heap.size ≤ q := h1
          have := HZA2.out
          omega) (t := k) (by rw [hpl]; exact hkz)
      have HPUT := Lib.hid (show rowsC.ow (w3.setCell ⟨w1.heap.size, k, none⟩ (.slice a3 L.length c3)) w1.heap.size [.slice (some ⟨w1.heap.size, 0, none⟩) M M] (partR Z (k + 1)) fp' from by rw [← partR_set Z k hkz, HZA.out k hkz]; exact hput)
      have HND2 := Lib.hid hnd'
      have hd := (World.cell?_setCell_far w3 ⟨w1.heap.size, k, none⟩ ⟨wr.heap.size, 0, none⟩ (.slice a3 L.length c3) (Nat.ne_of_lt HSZ.out)).trans C1.out
      have HBF := Lib.hid (show Below w1.heap.size w1 (w3.setCell ⟨w1.heap.size, k, none⟩ (.slice a3 L.length c3)) from (HB.out.trans (HB3.out.mono HB.out.size)).setCell (Nat.le_refl _) _)
      have HSF := Lib.hid (show w1.heap.size < (w3.setCell ⟨w1.heap.size, k, none⟩ (.slice a3 L.length c3)).heap.size from by rw [World.size_setCell]; exact Nat.lt_of_lt_of_le HSZ.out HB3.out.size)
      clear hput hnd' hrow hown3 ho3 hb3
      go_wp2_with fail
      refine hK.out _ _ ?_ (fun hHeld => ?_)
      · (first | assumption | (simp [*]; done))
      clear hK K
      try simp only [Act.put, List.setIfInBounds_toArray, List.set_cons_zero, List.set_cons_succ]
      refine RegH.takeH (i := 5) (v := ?_) rfl (by kernel_rfl) (by kernel_rfl) (by kernel_rfl) (fun _ _ _ h => h) (Or.inl ⟨by rfl, ?_⟩) (by assumption) ?_
      rotate_left
      · (intro wS hSw; (try dsimp only at hSw); go_simp; try (with_reducible rfl))
      try simp only [Act.put, List.setIfInBounds_toArray, List.set_cons_zero, List.set_cons_succ]
      refine RegH.consH (i := 6) rfl (by kernel_rfl) (fun K hK => ?_)
      go_simp
      go_wp2_with fail
      refine hK.out _ _ ?_ (fun hHeld => ?_)
      · (first | assumption | (simp [*]; done))
      clear hK K
      try simp only [Act.put, List.setIfInBounds_toArray, List.set_cons_zero, List.set_cons_succ]
      refine wpAnyH_done (by kernel_rfl) ?_ _
      go_wp2_with fail
      go_roundw
      case rel => exact ⟨k + 1, fp', by omega, by go_num, HPUT.out, HND2.out, HSF.out, HBF.out⟩
      case measure => simp [intOf]; omega
    · have ek : k = M := by omega
      subst ek
      have hz : partR Z k = Z := by rw [← HZL.out, partR_all]
      rw [hz] at hown
      have HO := Lib.hid (rowsC.ow_base hown HB1.out.size)
      have HF := Lib.hid (below_then HB1.out hb)
      have HN := Lib.hid hnd
      clear hown hb hnd hz
      go_wp2_with fail
      go_ret
      exact ⟨_, fp, rfl, HO.out, HN.out, HF.out⟩
set_option maxRecDepth 100000 in
theorem impl_sum (u : Value) (Z : List (List Int)) (S : Nat → Prop) (w : World) (hr : rowsC.rd w S [u] Z) (hZ : Z.length ≤ 8) (hbd : ∀ r ∈ Z, ∀ k, 0 ≤ prodL (r.take k) ∧ prodL (r.take k) ≤ 512) :
    Calls Try.prog 113 #[u, .func (.func 115) #[] #[]] w fun e w' => e = .returned (.int .i64 (sumP Z)) ∧ w = w' := by
  have HR := Lib.hid hr
  have HBD := Lib.hid hbd
  have HPS := Lib.hid (show ∀ k, 0 ≤ sumP (Z.take k) ∧ sumP (Z.take k) ≤ 4096 from fun k => by
    have := sumP_bd (Z := Z.take k) (fun r hq => by have := hbd r (List.mem_of_mem_take hq) r.length; rwa [List.take_length] at this)
    rw [List.length_take] at this
    omega)
  obtain ⟨a, cap, rfl, hlm⟩ := rows_form hr
  clear hr hbd
  go_enter Try.func113, Try.ntmps113
  go_wp2_with fail
  go_loop [5, 10] (fun s i => ∃ k : Nat, k ≤ Z.length ∧ i = .int .i64 k ∧ s = .int .i64 (sumP (Z.take k))) (fun _ i => Z.length - (intOf i).toNat)
  case atStart => exact ⟨0, Nat.zero_le _, rfl, rfl⟩
  case round =>
    obtain ⟨k, hk, rfl, rfl⟩ := hrel
    by_cases hlt : k < Z.length
    · obtain ⟨b, off, cap', x, e1, hbB, hc, hx⟩ := rows_at HR.out hlt
      injection e1 with e1 e2 e3
      subst e1 e3
      have HP := Lib.hid (impl_prod x Z[k] _ w (row_ri hx).1 (fun j => by have := HBD.out _ (List.getElem_mem hlt) j; omega))
      have p1 : (0 : Int) ≤ (k : Int) := by omega
      have p2 : (k : Int) < (Z.length : Int) := by omega
      have HNX := Lib.hid (sum_more hlt)
      obtain ⟨s1, s2⟩ := HPS.out k
      obtain ⟨s3, s4⟩ := HPS.out (k + 1)
      rw [HNX.out] at s3 s4
      clear hx
      generalize sumP (Z.take k) = s at *
      generalize prodL Z[k] = z at *
      go_wp2_with fail
      refine HP.out.mono ?_
      rintro e w1 ⟨rfl, rfl⟩
      go_wp2_with fail
      go_round
      case rel => exact ⟨k + 1, by omega, by go_num, by rw [HNX.out]⟩
      case measure => simp [intOf]; omega
    · have ek : k = Z.length := by omega
      subst ek
      have HZ := Lib.hid (show sumP (Z.take Z.length) = sumP Z by rw [List.take_length])
      generalize sumP (Z.take Z.length) = s at *
      go_wp2_with fail
      go_ret
      exact ⟨ret_int HZ.out, rfl⟩
set_option maxRecDepth 100000 in
theorem impl_sop (u : Value) (L : List (List Int)) (S : Nat → Prop) (w : World) (hr : rowsC.rd w S [u] L) (h0 : L ≠ []) (h3 : L.length ≤ 3) :
    Calls Try.prog 67 #[u] w fun e w' => e = .returned (.int .i64 (sopL L)) ∧ Below w.heap.size w w' := by
  have HA := Lib.hid (impl_any u L S w hr)
  have HR := Lib.hid hr
  obtain ⟨a, cap, rfl, hlm⟩ := rows_form hr
  cases hs : allSeq L
  · rw [hs] at HA
    have HZ := Lib.hid (show sopL L = 0 by unfold sopL; rw [hs]; rfl)
    clear hr hs
    go_enter Try.func67, Try.ntmps67
    go_wp2_with fail
    refine HA.out.mono ?_
    rintro e w1 ⟨rfl, rfl⟩
    go_wp2_with fail
    go_ret
    exact ⟨ret_int HZ.out.symm, Below.refl _ _⟩
  rw [hs] at HA
  have HZ := Lib.hid (show sopL L = sumP (zipL L (minL L)) by unfold sopL; rw [hs]; rfl)
  have h8 := min8 hs h0
  have HZP := Lib.hid (impl_zip _ L S w hr h0 h3 h8)
  have HSM := Lib.hid (fun u' S' W (h : rowsC.rd W S' [u'] (zipL L (minL L))) => impl_sum u' _ S' W h (by rw [zip_len]; exact h8) (fun r hq k => zip_row hs h3 hq k))
  clear hr hs
  generalize zipL L (minL L) = Z at *
  generalize sumP Z = R at *
  go_enter Try.func67, Try.ntmps67
  go_wp2_with fail
  refine HA.out.mono ?_
  rintro e w1 ⟨rfl, rfl⟩
  go_wp2_with fail
  refine HZP.out.mono ?_
  rintro e w1 ⟨v, fp, rfl, hown, _, hb⟩
  obtain ⟨a1, c1, rfl⟩ := rows_slice hown
  have HS1 := Lib.hid (HSM.out _ _ w1 (rowsC.ow_rd hown))
  have HB := Lib.hid hb
  clear hown hb
  go_wp2_with fail
  refine HS1.out.mono ?_
  rintro e w2 ⟨rfl, rfl⟩
  go_wp2_with fail
  go_ret
  exact ⟨ret_int HZ.out.symm, HB.out⟩
theorem cells_at {w : World} {k : Nat} {c : Array Value} {e : TypeId} (h : w.heap[k]? = some (.cells c e (0, 0))) {j : Nat} {x : Value} (hj : c[j]? = some x) : w.cell? ⟨k, j, none⟩ = some x := by
  unfold World.cell?
  rw [h]
  simpa using hj
theorem two_rows {w : World} {S1 S2 : Nat → Prop} {v1 v2 : Value} {a b : List Int} (h1 : rowC.rd w S1 [v1] a) (h2 : rowC.rd w S2 [v2] b) (e : TypeId) : rowsC.rd (w.alloc (.cells #[v1, v2] e)) (fun _ => True) [.slice (some ⟨w.heap.size, 0, none⟩) 2 2] [a, b] := by
  have hb := below_alloc w (.cells #[v1, v2] e)
  have hrow : (w.alloc (.cells #[v1, v2] e)).heap[w.heap.size]? = some (.cells #[v1, v2] e (0, 0)) := row_alloc w _
  refine ⟨_, 2, rfl, by simp, .inr ⟨_, 0, rfl, trivial, by rw [size_alloc]; omega, fun t ht => ?_⟩⟩
  obtain rfl | rfl : t = 0 ∨ t = 1 := by simp at ht; omega
  · refine ⟨[v1], fun j hj => ?_, rowC.mono (Cd.later h1 hb) fun _ _ _ => trivial⟩
    obtain rfl : j = 0 := by simpa using hj
    exact cells_at hrow rfl
  · refine ⟨[v2], fun j hj => ?_, rowC.mono (Cd.later h2 hb) fun _ _ _ => trivial⟩
    obtain rfl : j = 0 := by simpa using hj
    exact cells_at hrow rfl
set_option maxRecDepth 100000 in
theorem impl_pair (v1 v2 : Value) (a b : List Int) (S1 S2 : Nat → Prop) (w : World) (h1 : rowC.rd w S1 [v1] a) (h2 : rowC.rd w S2 [v2] b) :
    Calls Try.prog 15 #[v1, v2] w fun e w' => e = .returned (.int .i64 (pairL a b)) ∧ Below w.heap.size w w' := by
  have HS := Lib.hid (impl_sop _ [a, b] _ _ (two_rows h1 h2 24) (by simp) (by simp))
  rw [sop_pair] at HS
  have HB := Lib.hid (below_alloc w (.cells #[v1, v2] 24))
  obtain ⟨a1, c1, rfl, _⟩ := (row_ri h1).1
  obtain ⟨a2, c2, rfl, _⟩ := (row_ri h2).1
  clear h1 h2
  generalize pairL a b = R at *
  go_enter Try.func15, Try.ntmps15
  go_wp2_with fail
  refine HS.out.mono ?_
  rintro e w1 ⟨rfl, hb⟩
  have HB1 := Lib.hid (below_then HB.out hb)
  clear hb
  go_wp2_with fail
  go_ret
  exact ⟨rfl, HB1.out⟩
set_option maxRecDepth 100000 in
theorem impl_npow (v : Value) (l : List Int) (p : Int) (S : Nat → Prop) (w : World) (hr : rowC.rd w S [v] l) :
    Calls Try.prog 30 #[v, .int .i64 p] w fun e w' => e = .returned (.int .i64 (normL l p)) ∧ Below w.heap.size w w' := by
  have HNM := Lib.hid (impl_norm p w)
  by_cases hp : 1 ≤ p ∧ p ≤ 3
  case neg =>
    have HZ := Lib.hid (norm_nop (l := l) hp)
    rw [decide_eq_false hp] at HNM
    obtain ⟨a, cap, rfl, hlm, _⟩ := (row_ri hr).1
    clear hr hp
    go_enter Try.func30, Try.ntmps30
    go_wp2_with fail
    refine HNM.out.mono ?_
    rintro e w1 ⟨rfl, rfl⟩
    go_wp2_with fail
    go_ret
    exact ⟨ret_int HZ.out.symm, Below.refl _ _⟩
  rw [decide_eq_true hp] at HNM
  obtain ⟨P, rfl⟩ := Int.eq_ofNat_of_zero_le (show 0 ≤ p by omega)
  have hP : 1 ≤ P ∧ P ≤ 3 := by omega
  have HR := Lib.hid hr
  obtain ⟨a, cap, rfl, hlm, _⟩ := (row_ri hr).1
  have HZ := Lib.hid (sop_norm l hP)
  have HREP := Lib.hid (fun W b off c hc => rep_row (.slice a l.length cap) rfl P (by omega) b off c W hc)
  have HROW := Lib.hid (fun w0 W (h : RepRow w0 W 24 (.slice a l.length cap) (.slice none 0 0) P P) (hx : rowC.rd W S [.slice a l.length cap] l) => rep_rows h (by omega) hx)
  have HSP := Lib.hid (fun u S' W (h : rowsC.rd W S' [u] (List.replicate P l)) => impl_sop u _ S' W h (by intro q; have := congrArg List.length q; simp at this; omega) (by rw [List.length_replicate]; omega))
  rw [sop_norm l hP] at HSP
  have HB := Lib.hid (below_alloc w (.cells #[.slice a l.length cap] 24))
  have HC := Lib.hid (show (w.alloc (.cells #[.slice a l.length cap] 24)).cell? ⟨w.heap.size, 0, none⟩ = some (.slice a l.length cap) by
    rw [World.cell?_alloc_at _ _ _ _ (by simp)]
    rfl)
  clear hr hp hP
  generalize normL l (P : Int) = R at *
  go_enter Try.func30, Try.ntmps30
  go_wp2_with fail
  refine HNM.out.mono ?_
  rintro e w1 ⟨rfl, rfl⟩
  go_wp2_with fail
  generalize w.alloc _ = W at *
  refine (HREP.out W _ _ _ HC.out).mono ?_
  rintro e w1 ⟨rfl, hrep⟩
  have HB1 := Lib.hid (below_then HB.out hrep.2)
  have HS1 := Lib.hid (HSP.out _ _ w1 (HROW.out W w1 hrep (Cd.later HR.out HB1.out)))
  clear hrep
  go_wp2_with fail
  refine HS1.out.mono ?_
  rintro e w2 ⟨rfl, hb2⟩
  have HB2 := Lib.hid (below_then HB1.out hb2)
  clear hb2
  go_wp2_with fail
  go_ret
  exact ⟨rfl, HB2.out⟩
set_option maxRecDepth 100000 in
theorem impl_cau (v1 v2 : Value) (a b : List Int) (S1 S2 : Nat → Prop) (w : World) (h1 : rowC.rd w S1 [v1] a) (h2 : rowC.rd w S2 [v2] b) :
    Calls Try.prog 17 #[v1, v2] w fun e w' => e = .returned (.int .i64 (cauL a b)) ∧ Below w.heap.size w w' := by
  have HNA := Lib.hid (impl_npow v1 a 2 S1 w h1)
  have HNB := Lib.hid (fun W (hb : Below w.heap.size w W) => impl_npow v2 b 2 S2 W (Cd.later h2 hb))
  have HRT := Lib.hid (fun W => impl_root (normL a 2 * normL b 2) 2 W)
  rw [cau_root] at HRT
  obtain ⟨s1, s2⟩ := norm2_mul a b
  obtain ⟨a1, c1, rfl, _⟩ := (row_ri h1).1
  obtain ⟨a2, c2, rfl, _⟩ := (row_ri h2).1
  clear h1 h2
  generalize cauL a b = R at *
  generalize normL a 2 = x at *
  generalize normL b 2 = y at *
  have m1 : IntKind.i64.wrap (x * y) = x * y := by rw [IntKind.wrap_i64]; omega
  go_enter Try.func17, Try.ntmps17
  go_wp2_with fail
  refine HNA.out.mono ?_
  rintro e w1 ⟨rfl, hb1⟩
  have HB1 := Lib.hid hb1
  clear hb1
  go_wp2_with fail
  refine (HNB.out w1 HB1.out).mono ?_
  rintro e w2 ⟨rfl, hb2⟩
  have HB2 := Lib.hid (below_then HB1.out hb2)
  clear hb2
  go_wp2_with fail
  refine (HRT.out w2).mono ?_
  rintro e w3 ⟨rfl, hb3⟩
  have HB3 := Lib.hid (below_then HB2.out hb3)
  clear hb3
  go_wp2_with fail
  go_ret
  exact ⟨rfl, HB3.out⟩
set_option maxRecDepth 100000 in
theorem impl_mxd (v1 v2 : Value) (a b : List Int) (B1 B2 : Nat) (w : World) (h1 : RI w v1 a B1) (h2 : RI w v2 b B2) (hm1 : Room v1 a) (hm2 : Room v2 b) :
    Calls Try.prog 18 #[v1, v2] w fun e w' => e = .returned (.int .i64 (mxdL a b)) ∧ w = w' := by
  have HTA := Lib.hid (impl_total v1 a B1 w h1 hm1)
  have HTB := Lib.hid (impl_total v2 b B2 w h2 hm2)
  have HOA := Lib.hid (impl_top v1 a 1 B1 w h1 hm1)
  have HOB := Lib.hid (impl_top v2 b 1 B2 w h2 hm2)
  have HEQ := Lib.hid (show mxdL a b = min (totL a * topL b 1) (totL b * topL a 1) from rfl)
  obtain ⟨⟨s1, s2⟩, s3, s4⟩ := mxd_bd a b
  obtain ⟨a1, c1, rfl, hl1, _⟩ := h1
  obtain ⟨a2, c2, rfl, hl2, _⟩ := h2
  clear hm1 hm2
  generalize mxdL a b = R at *
  generalize totL a = ta at *
  generalize totL b = tb at *
  generalize topL a 1 = x at *
  generalize topL b 1 = y at *
  have m1 : IntKind.i64.wrap (ta * y) = ta * y := by rw [IntKind.wrap_i64]; omega
  have m2 : IntKind.i64.wrap (tb * x) = tb * x := by rw [IntKind.wrap_i64]; omega
  go_enter Try.func18, Try.ntmps18
  go_wp2_with fail
  refine HTA.out.mono ?_
  rintro e w1 ⟨rfl, rfl⟩
  go_wp2_with fail
  refine HOB.out.mono ?_
  rintro e w1 ⟨rfl, rfl⟩
  go_wp2_with fail
  refine HTB.out.mono ?_
  rintro e w1 ⟨rfl, rfl⟩
  go_wp2_with fail
  refine HOA.out.mono ?_
  rintro e w1 ⟨rfl, rfl⟩
  go_wp2_with fail
  all_goals go_ret
  all_goals exact ⟨ret_int (by have := HEQ.out; omega), rfl⟩
end Go.Proofs.Ytklamhnecncenaa.SbImp
