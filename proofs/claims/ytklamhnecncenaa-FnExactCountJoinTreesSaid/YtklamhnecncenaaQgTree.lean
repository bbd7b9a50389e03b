/- The query graph: how many join trees: the model's function. -/
import Derived.Test.YtklamhnecncenaaQgSpec2
namespace Go.Proofs.Ytklamhnecncenaa.QgTree
open Go Go.RowKit Byt Ints IntsLaw Cd Rows2 Tab TabSpec Exact Atom QryMath QrySpec QryImp MkAtom SlMath QgMath QgSpec

def trees (G : Nat) : Nat → Nat → Nat
  | 0, _ => 0
  | f + 1, m => if (splits G m).isEmpty then 1 else ((splits G m).map fun p => trees G f p * trees G f (m - p)).sum
/-- The number of join trees of a connected mask. -/
def T (G m : Nat) : Nat := trees G 4 m
theorem trees_deep : ∀ G < 64, ∀ m < 15, trees G 4 m = trees G 3 m := by decide +kernel
theorem split_some : ∀ G < 64, ∀ m < 16, conn G m = true → ¬ (m &&& (m - 1) = 0) → splits G m ≠ [] := by decide +kernel
theorem single_sub : ∀ m < 16, m &&& (m - 1) = 0 → ∀ p < m, p &&& m = p → p = 0 := by decide +kernel
theorem splits_mem {G m p : Nat} (h : p ∈ splits G m) : p < m ∧ isSplit G m p = true := by
  unfold splits at h
  obtain ⟨h1, h2⟩ := List.mem_filter.1 h
  exact ⟨List.mem_range.1 h1, h2⟩
theorem isSplit_iff {G m p : Nat} : isSplit G m p = true ↔ p &&& m = p ∧ conn G p = true ∧ conn G (m - p) = true := by
  unfold isSplit
  rw [Bool.and_eq_true, Bool.and_eq_true, beq_iff_eq]
theorem conn_pos {G m : Nat} (h : conn G m = true) : 1 ≤ m := by
  rcases Nat.eq_zero_or_pos m with q | q
  · subst q; cases h
  · exact q
theorem split_none {G m : Nat} (hm : m < 16) (h : m &&& (m - 1) = 0) : splits G m = [] := by
  rw [List.eq_nil_iff_forall_not_mem]
  intro p hp
  obtain ⟨h1, h2⟩ := splits_mem hp
  obtain ⟨h3, h4, _⟩ := isSplit_iff.1 h2
  have := single_sub m hm h p h1 h3
  have := conn_pos h4
  omega
theorem sum_le {l : List Nat} {B : Nat} (h : ∀ x ∈ l, x ≤ B) : l.sum ≤ l.length * B := by
  induction l with
  | nil => simp
  | cons x xs ih =>
    have h1 := h x List.mem_cons_self
    have h2 := ih fun y hy => h y (List.mem_cons_of_mem _ hy)
    rw [List.sum_cons, List.length_cons, Nat.succ_mul]
    omega
theorem splits_len (G m : Nat) (h : m ≤ 16) : (splits G m).length ≤ 16 := by
  unfold splits
  refine Nat.le_trans (List.length_filter_le _ _) ?_
  rw [List.length_range]
  exact h
theorem trees_le (G f B : Nat) (hB : ∀ m, m ≤ 16 → trees G f m ≤ B) : ∀ m, m ≤ 16 → trees G (f + 1) m ≤ 1 + 16 * (B * B) := fun m hm => by
  rw [trees]
  split
  · omega
  · have h1 : ((splits G m).map fun p => trees G f p * trees G f (m - p)).sum ≤ _ := sum_le (B := B * B) fun x hx => by
      obtain ⟨p, hp, rfl⟩ := List.mem_map.1 hx
      have h2 := (splits_mem hp).1
      exact Nat.mul_le_mul (hB p (by omega)) (hB (m - p) (by omega))
    rw [List.length_map] at h1
    have h3 := Nat.mul_le_mul_right (B * B) (splits_len G m hm)
    omega
theorem trees3_le (G m : Nat) (h : m ≤ 16) : trees G 3 m ≤ 1336337 := by
  have h0 : ∀ m, m ≤ 16 → trees G 0 m ≤ 0 := fun _ _ => Nat.le_refl _
  have h1 := trees_le G 0 0 h0
  have h2 := trees_le G 1 _ h1
  have h3 := trees_le G 2 _ h2
  exact Nat.le_trans (h3 m h) (by decide)
theorem T_le {G m : Nat} (hG : G < 64) (h : m < 15) : T G m ≤ 1336337 := by
  unfold T
  rw [trees_deep G hG m h]
  exact trees3_le G m (by omega)
theorem T_single {G m : Nat} (h : splits G m = []) : T G m = 1 := by unfold T; rw [trees, h]; rfl
/-- The trees of the splits in a list. -/
def csum (G t : Nat) (X : List Int) : Nat := (X.map fun p => T G p.toNat * T G (t - p.toNat)).sum
theorem csum_snoc (G t : Nat) (X : List Int) (p : Int) : csum G t (X ++ [p]) = csum G t X + T G p.toNat * T G (t - p.toNat) := by simp [csum]
theorem fil_splits (G t : Nat) : fil (isSplit G t) t = (splits G t).map Int.ofNat := rfl
theorem T_sum {G t : Nat} (hG : G < 64) (ht : t < 16) (h : splits G t ≠ []) : csum G t (fil (isSplit G t) t) = T G t := by
  unfold csum
  rw [fil_splits, List.map_map]
  have e : T G t = ((splits G t).map fun p => trees G 3 p * trees G 3 (t - p)).sum := by
    unfold T
    rw [trees]
    cases hs : splits G t with
    | nil => exact absurd hs h
    | cons x xs => rfl
  rw [e]
  congr 1
  refine List.map_congr_left fun p hp => ?_
  obtain ⟨h1, h2⟩ := splits_mem hp
  have h3 := conn_pos (isSplit_iff.1 h2).2.1
  show T G (Int.ofNat p).toNat * T G (t - (Int.ofNat p).toNat) = _
  rw [Int.ofNat_eq_natCast, Int.toNat_natCast]
  unfold T
  rw [trees_deep G hG p (by omega), trees_deep G hG (t - p) (by omega)]
theorem fil_nil {G t : Nat} : fil (isSplit G t) t = [] ↔ splits G t = [] := by rw [fil_splits, List.map_eq_nil_iff]
theorem fil_mem {G t : Nat} {x : Int} (h : x ∈ fil (isSplit G t) t) : ∃ p : Nat, x = (p : Int) ∧ p < t ∧ 1 ≤ p ∧ conn G p = true ∧ conn G (t - p) = true ∧ p &&& t = p := by
  obtain ⟨p, h1, h2, rfl⟩ := mem_fil.1 h
  obtain ⟨h3, h4, h5⟩ := isSplit_iff.1 h2
  exact ⟨p, rfl, h1, conn_pos h4, h4, h5, h3⟩
theorem csum_le {G t : Nat} (hG : G < 64) (ht : t < 16) {X : List Int} (h : ∀ x ∈ X, ∃ p : Nat, x = (p : Int) ∧ p < t ∧ 1 ≤ p) : csum G t X ≤ X.length * 1785796577569 := by
  unfold csum
  have h1 : (X.map fun p => T G p.toNat * T G (t - p.toNat)).sum ≤ _ := sum_le (B := 1785796577569) fun y hy => by
    obtain ⟨x, hx, rfl⟩ := List.mem_map.1 hy
    obtain ⟨p, rfl, h2, h3⟩ := h x hx
    rw [Int.toNat_natCast]
    exact Nat.le_trans (Nat.mul_le_mul (T_le hG (show p < 15 by omega)) (T_le hG (show t - p < 15 by omega))) (by decide)
  rw [List.length_map] at h1
  exact h1
/-- What the functions answer. -/
def ct (n : Int) (l : List A2) (m : Int) : Nat := if cOk n l m then T (gr l) m.toNat else 0
theorem ct_no {n m : Int} {l : List A2} (h : cOk n l m = false) : ct n l m = 0 := by unfold ct; rw [h]; rfl
theorem ct_yes {n : Int} {t : Nat} {l : List A2} (h : cOk n l (t : Int) = true) : ct n l (t : Int) = T (gr l) t := by unfold ct; rw [h]; rfl
theorem cOk_part {n : Int} {l : List A2} {t p : Nat} (h : cOk n l (t : Int) = true) (hp : p ≤ t) (hc : conn (gr l) p = true) : cOk n l (p : Int) = true := by
  obtain ⟨t', e, h1, _⟩ := cOk_fm h
  have e2 : t = t' := by omega
  subst e2
  rw [cOk_iff]
  exact ⟨fm_mOk (conn_pos hc) (by omega), by rw [Int.toNat_natCast]; exact hc⟩
theorem mul_w {x y : Nat} (hx : x ≤ 1336337) (hy : y ≤ 1336337) : IntKind.i64.wrap ((x : Int) * (y : Int)) = (x : Int) * (y : Int) := by
  have h := Nat.mul_le_mul hx hy
  have e : (x : Int) * (y : Int) = ((x * y : Nat) : Int) := by push_cast; rfl
  rw [e, IntKind.wrap_i64]
  omega
theorem add_w {c x y : Nat} (hc : c ≤ 28572745241104) (hx : x ≤ 1336337) (hy : y ≤ 1336337) : IntKind.i64.wrap ((c : Int) + (x : Int) * (y : Int)) = (c : Int) + (x : Int) * (y : Int) := by
  have h := Nat.mul_le_mul hx hy
  have e : (x : Int) * (y : Int) = ((x * y : Nat) : Int) := by push_cast; rfl
  rw [e, IntKind.wrap_i64]
  omega
set_option maxRecDepth 100000 in
set_option maxHeartbeats 3200000 in
theorem spec_rec (n : Int) (u : Value) (l : List A2) (S : Nat → Prop) (w0 : World) (hr0 : atomsC.rd w0 S [u] l) (b : Nat) : ∀ (t : Nat), t ≤ b → cOk n l (t : Int) = true → ∀ (w : World), Below w0.heap.size w0 w →
    Calls Try.prog 62 #[.agg #[.int .i64 n, u], .int .i64 (t : Int)] w fun e w' => e = .returned (.int .i64 (T (gr l) t : Int)) ∧ Below w.heap.size w w' := by
  induction b with
  | zero =>
    intro t ht hc
    obtain ⟨t', e, _, _, h1, _⟩ := cOk_fm hc
    omega
  | succ b ih =>
  intro t ht hc w hb0
  have hr := Cd.later hr0 hb0
  have IH := Lib.hid (fun (p : Nat) (hp : p < t) (hcp : cOk n l (p : Int) = true) w' (hb : Below w.heap.size w w') => ih p (by omega) hcp w' (below_then hb0 hb))
  have HCN := Lib.hid (fun w' (hb : Below w.heap.size w w') => spec_conn n (t : Int) u l S w' (Cd.later hr hb))
  have HJS := Lib.hid (fun w' (hb : Below w.heap.size w w') => spec_js n (t : Int) u l S w' (Cd.later hr hb))
  rw [hc] at HCN
  rw [jsL_yes hc] at HJS
  have hG := gr_lt l
  have ht16 : t < 16 := by
    obtain ⟨t', e, h1, _⟩ := cOk_fm hc
    have := fm_lt n l
    omega
  have hcn : conn (gr l) t = true := (cOk_iff.1 hc).2
  have ht1 := conn_pos hcn
  have HMEM := Lib.hid (fun x (h : x ∈ fil (isSplit (gr l) t) t) => fil_mem h)
  have HPART := Lib.hid (fun (p : Nat) (hp : p ≤ t) (h : conn (gr l) p = true) => cOk_part hc hp h)
  have HTL := Lib.hid (fun (m : Nat) (h : m < 15) => T_le (G := gr l) hG h)
  have HCL := Lib.hid (fun (X : List Int) (h : ∀ x ∈ X, ∃ p : Nat, x = (p : Int) ∧ p < t ∧ 1 ≤ p) => csum_le hG ht16 h)
  have HXL := Lib.hid (fil_len (isSplit (gr l) t) t)
  have h1 := and_nat ht16 (show t - 1 < 16 by omega)
  have e1 : ((t - 1 : Nat) : Int) = (t : Int) - 1 := by omega
  rw [e1] at h1
  have q1 : (1 : Int) ≤ (t : Int) := by omega
  have q2 : (t : Int) < 16 := by omega
  have HT16 := Lib.hid ht16
  obtain ⟨a, cap, rfl, hlm⟩ := Cd.sl_form hr
  clear hr hr0 hb0 ih e1
  have HC := Lib.hid (Loc2.of (row_alloc w (.cells #[.int .i64 n, .slice a l.length cap] 60)))
  have HB := Lib.hid (below_alloc w (.cells #[.int .i64 n, .slice a l.length cap] 60))
  by_cases hs : t &&& (t - 1) = 0
  · have HZ := Lib.hid (T_single (split_none (G := gr l) ht16 hs))
    rw [hs] at h1
    clear hs hG ht16 hcn ht1 hc
    go_enter Try.func62, Try.ntmps62
    go_wp2_with fail
    generalize w.alloc _ = W at *
    refine (HCN.out _ HB.out).mono ?_
    rintro e w1 ⟨rfl, hb1⟩
    have HB1 := Lib.hid (below_then HB.out hb1)
    have c0 := (HC.out.later hb1).c0
    have c1 := (HC.out.later hb1).c1
    clear hb1
    go_wp2_with fail
    refine (HJS.out _ HB1.out).mono ?_
    rintro e w2 ⟨x', fx, rfl, _, _, hb2⟩
    have HB2 := Lib.hid (below_then HB1.out hb2)
    clear hb2
    go_wp2_with fail
    go_ret
    exact ⟨ret_int (by rw [HZ.out]; rfl), HB2.out⟩
  have HZ := Lib.hid (T_sum hG ht16 (split_some _ hG t ht16 hcn hs))
  have h2 : (((t &&& (t - 1) : Nat) : Int) == 0) = false := by rw [beq_eq_false_iff_ne]; omega
  have h3 : ¬ (((t &&& (t - 1) : Nat) : Int) = 0) := by omega
  clear hG ht16 hcn ht1 hc hs
  generalize t &&& (t - 1) = z at *
  generalize fil (isSplit (gr l) t) t = X at *
  generalize gr l = G at *
  go_enter Try.func62, Try.ntmps62
  go_wp2_with fail
  generalize w.alloc _ = W at *
  refine (HCN.out _ HB.out).mono ?_
  rintro e w1 ⟨rfl, hb1⟩
  have HB1 := Lib.hid (below_then HB.out hb1)
  have HC1 := Lib.hid (HC.out.later hb1)
  have c0 := HC1.out.c0
  have c1 := HC1.out.c1
  clear hb1
  go_wp2_with fail
  refine (HJS.out _ HB1.out).mono ?_
  rintro e w2 ⟨x', fx, rfl, hox, _, hb2⟩
  have HB2 := Lib.hid (below_then HB1.out hb2)
  have HC2 := Lib.hid (HC1.out.later hb2)
  have HXR := Lib.hid (rowC.ow_rd hox)
  obtain ⟨ax, cx, rfl, _⟩ := (row_ri (rowC.ow_rd hox)).1
  clear hb2 hox c0 c1
  go_wp2_with fail
  clear h1 h2 h3
  go_loopw [6, 7] (fun s i wr => ∃ k : Nat, k ≤ X.length ∧ i = .int .i64 k ∧ s = .int .i64 (csum G t (X.take k) : Int) ∧ Below w2.heap.size w2 wr) (fun _ i _ => X.length - (intOf i).toNat)
  case atStart => exact ⟨0, Nat.zero_le _, rfl, rfl, Below.refl _ _⟩
  case round =>
    obtain ⟨k, hk, rfl, rfl, hbw⟩ := hrel
    have HBW := Lib.hid hbw
    have HLQ := Lib.hid (HC2.out.later hbw)
    have c0 := HLQ.out.c0
    have c1 := HLQ.out.c1
    have HKP := Lib.hid (show Below w.heap.size w wr from below_then HB2.out hbw)
    have hxr := Cd.later HXR.out hbw
    by_cases hlt : k < X.length
    · obtain ⟨b1, off, cap', e1, hbB, hcell⟩ := ri_at (row_ri hxr).1 hlt
      injection e1 with e1 e2 e3
      subst e1 e3
      have HNX := Lib.hid (show csum G t (X.take (k + 1)) = csum G t (X.take k) + T G X[k].toNat * T G (t - X[k].toNat) by rw [List.take_succ_eq_append_getElem hlt, csum_snoc])
      have hcs : csum G t (X.take k) ≤ 28572745241104 := by
        have h1 := HCL.out (X.take k) (fun x hx => by
          obtain ⟨p, e, h1, h2, _⟩ := HMEM.out x (List.mem_of_mem_take hx)
          exact ⟨p, e, h1, h2⟩)
        have h2 := HXL.out
        have h3 := HT16.out
        rw [List.length_take] at h1
        have h4 : min k X.length ≤ 16 := by omega
        have h5 := Nat.mul_le_mul_right 1785796577569 h4
        omega
      obtain ⟨p, hxp, hpt, hp1, hcp, hcq, hsub⟩ := HMEM.out _ (List.getElem_mem hlt)
      rw [hxp] at hcell HNX
      rw [Int.toNat_natCast] at HNX
      have p1 : (0 : Int) ≤ (k : Int) := by omega
      have p2 : (k : Int) < (X.length : Int) := by omega
      have p3 : (X.length : Int) ≤ 16 := by have := HXL.out; have := HT16.out; omega
      have p4 : (p : Int) < (t : Int) := by omega
      have p5 : (0 : Int) ≤ (p : Int) := by omega
      have H1 := Lib.hid (fun w' (hb : Below w.heap.size w w') => IH.out p hpt (HPART.out p (by omega) hcp) w' hb)
      have H2 := Lib.hid (fun w' (hb : Below w.heap.size w w') => IH.out (t - p) (by omega) (HPART.out (t - p) (by omega) hcq) w' hb)
      have e4 : ((t - p : Nat) : Int) = (t : Int) - (p : Int) := by omega
      rw [e4] at H2
      have hx6 := HTL.out p (by have := HT16.out; omega)
      have hy6 := HTL.out (t - p) (by have := HT16.out; omega)
      have hsw : IntKind.i64.wrap ((t : Int) - (p : Int)) = (t : Int) - (p : Int) := by rw [IntKind.wrap_i64]; omega
      have hmul := mul_w hx6 hy6
      have hadd := add_w hcs hx6 hy6
      have HLT := Lib.hid (And.intro hlt hbB)
      have kk : Kp w wr.drew := kp_drew (show Kp w wr from HKP.out)
      clear hbw hxr hcs hxp hpt hp1 hcp hcq hsub hx6 hy6 e4 hlt hbB e2
      generalize csum G t (X.take k) = s at *
      generalize T G p = x at *
      generalize T G (t - p) = y at *
      go_wp2_with fail
      have HCE := Lib.hid hcell
      refine wp_region_held_drew (S := fun wx => wx.cell? ⟨w.heap.size, 0, none⟩ = some (.int .i64 n) ∧ wx.cell? ⟨w.heap.size, 1, none⟩ = some (.slice a l.length cap) ∧ wx.cell? ⟨b1, off + k, none⟩ = some (.int .i64 (p : Int)) ∧ Kp w wx) (by kernel_rfl) ?_ (fun hHeld => ?_)
      · (refine ⟨?_, ?_, ?_, ?_⟩ <;> first | assumption | (simp [*]; done))
      refine RegH.takeH (i := 0) (v := ?_) rfl (by kernel_rfl) (by kernel_rfl) (by kernel_rfl) (fun _ _ _ h => h) (Or.inl ⟨by rfl, ?_⟩) (by assumption) ?_
      rotate_left
      · (intro wS hSw; (try dsimp only at hSw); go_simp; try (with_reducible rfl))
      try simp only [Act.put, List.setIfInBounds_toArray, List.set_cons_zero, List.set_cons_succ]
      refine RegH.takeH (i := 1) (v := ?_) rfl (by kernel_rfl) (by kernel_rfl) (by kernel_rfl) (fun _ _ _ h => h) (Or.inl ⟨by rfl, ?_⟩) (by assumption) ?_
      rotate_left
      · (intro wS hSw; (try dsimp only at hSw); go_simp; try (with_reducible rfl))
      try simp only [Act.put, List.setIfInBounds_toArray, List.set_cons_zero, List.set_cons_succ]
      refine RegH.takeH (i := 2) (v := ?_) rfl (by kernel_rfl) (by kernel_rfl) (by kernel_rfl) (fun _ _ _ h => h) (Or.inl ⟨by rfl, ?_⟩) (by assumption) ?_
      rotate_left
      · (intro wS hSw; (try dsimp only at hSw); go_simp; try (with_reducible rfl))
      try simp only [Act.put, List.setIfInBounds_toArray, List.set_cons_zero, List.set_cons_succ]
      refine RegH.takeH (i := 3) (v := ?_) rfl (by kernel_rfl) (by kernel_rfl) (by kernel_rfl) (fun _ _ _ h => h) (Or.inl ⟨by rfl, ?_⟩) (by assumption) ?_
      rotate_left
      · (intro wS hSw; (try dsimp only at hSw); go_simp; try (with_reducible rfl))
      try simp only [Act.put, List.setIfInBounds_toArray, List.set_cons_zero, List.set_cons_succ]
      refine RegH.takeH (i := 4) (v := ?_) rfl (by kernel_rfl) (by kernel_rfl) (by kernel_rfl) (fun _ _ _ h => h) (Or.inl ⟨by rfl, ?_⟩) (by assumption) ?_
      rotate_left
      · (intro wS hSw; (try dsimp only at hSw); go_simp; try (with_reducible rfl))
      try simp only [Act.put, List.setIfInBounds_toArray, List.set_cons_zero, List.set_cons_succ]
      refine RegH.takeH (i := 5) (v := ?_) rfl (by kernel_rfl) (by kernel_rfl) (by kernel_rfl) (fun _ _ _ h => h) (Or.inl ⟨by rfl, ?_⟩) (by assumption) ?_
      rotate_left
      · (intro wS hSw; (try dsimp only at hSw); go_simp; try (with_reducible rfl))
      try simp only [Act.put, List.setIfInBounds_toArray, List.set_cons_zero, List.set_cons_succ]
      refine RegH.takeH (i := 7) (v := ?_) rfl (by kernel_rfl) (by kernel_rfl) (by kernel_rfl) (fun _ _ _ h => h) (Or.inl ⟨by rfl, ?_⟩) (by assumption) ?_
      rotate_left
      · (intro wS hSw; (try dsimp only at hSw); go_simp; try (with_reducible rfl))
      try simp only [Act.put, List.setIfInBounds_toArray, List.set_cons_zero, List.set_cons_succ]
      refine RegH.takeH (i := 8) (v := ?_) rfl (by kernel_rfl) (by kernel_rfl) (by kernel_rfl) (fun _ _ _ h => h) (Or.inl ⟨by rfl, ?_⟩) (by assumption) ?_
      rotate_left
      · (intro wS hSw; (try dsimp only at hSw); go_simp; try (with_reducible rfl))
      try simp only [Act.put, List.setIfInBounds_toArray, List.set_cons_zero, List.set_cons_succ]
      refine RegH.takeH (i := 9) (v := ?_) rfl (by kernel_rfl) (by kernel_rfl) (by kernel_rfl) (fun _ _ _ h => h) (Or.inl ⟨by rfl, ?_⟩) (by assumption) ?_
      rotate_left
      · (intro wS hSw; (try dsimp only at hSw); go_simp; try (with_reducible rfl))
      try simp only [Act.put, List.setIfInBounds_toArray, List.set_cons_zero, List.set_cons_succ]
      refine RegH.takeH (i := 10) (v := ?_) rfl (by kernel_rfl) (by kernel_rfl) (by kernel_rfl) (fun _ _ _ h => h) (Or.inl ⟨by rfl, ?_⟩) (by assumption) ?_
      rotate_left
      · (intro wS hSw; (try dsimp only at hSw); go_simp; try (with_reducible rfl))
      try simp only [Act.put, List.setIfInBounds_toArray, List.set_cons_zero, List.set_cons_succ]
      refine RegH.takeH (i := 11) (v := ?_) rfl (by kernel_rfl) (by kernel_rfl) (by kernel_rfl) (fun _ _ _ h => h) (Or.inl ⟨by rfl, ?_⟩) (by assumption) ?_
      rotate_left
      · (intro wS hSw; (try dsimp only at hSw); go_simp; try (with_reducible rfl))
      try simp only [Act.put, List.setIfInBounds_toArray, List.set_cons_zero, List.set_cons_succ]
      refine RegH.takeH (i := 12) (v := ?_) rfl (by kernel_rfl) (by kernel_rfl) (by kernel_rfl) (fun _ _ _ h => h) (Or.inl ⟨by rfl, ?_⟩) (by assumption) ?_
      rotate_left
      · (intro wS hSw; (try dsimp only at hSw); go_simp; try (with_reducible rfl))
      try simp only [Act.put, List.setIfInBounds_toArray, List.set_cons_zero, List.set_cons_succ]
      refine RegH.takeH (i := 13) (v := ?_) rfl (by kernel_rfl) (by kernel_rfl) (by kernel_rfl) (fun _ _ _ h => h) (Or.inl ⟨by rfl, ?_⟩) (by assumption) ?_
      rotate_left
      · (intro wS hSw; (try dsimp only at hSw); go_simp; try (with_reducible rfl))
      try simp only [Act.put, List.setIfInBounds_toArray, List.set_cons_zero, List.set_cons_succ]
      refine RegH.consH (i := 6) rfl (by kernel_rfl) (fun K hK => ?_)
      go_simp
      go_at_call 62
      refine (H1.out _ (show Below w.heap.size w wr.drew from kk)).mono ?_
      rintro e wq ⟨rfl, hbq⟩
      have kq : Kp w wq := below_then (show Below w.heap.size w wr.drew from kk) hbq
      have HBQwq := Lib.hid (below_then (bd_drew wr) hbq)
      have n0wq := (HLQ.out.later HBQwq.out).c0
      have n1wq := (HLQ.out.later HBQwq.out).c1
      have n2wq := (Below.cell HBQwq.out (p := ⟨b1, off + k, none⟩) HLT.out.2).trans HCE.out
      clear hbq
      go_wp2_with fail
      refine hK.out _ _ ?_ (fun hHeld => ?_)
      · (refine ⟨?_, ?_, ?_, ?_⟩ <;> first | assumption | (simp [*]; done))
      clear hK K
      try simp only [Act.put, List.setIfInBounds_toArray, List.set_cons_zero, List.set_cons_succ]
      refine RegH.consH (i := 14) rfl (by kernel_rfl) (fun K hK => ?_)
      go_simp
      go_at_call 62
      refine (H2.out _ (show Below w.heap.size w wq from kq)).mono ?_
      rintro e wp ⟨rfl, hbq⟩
      have kp : Kp w wp := below_then (show Below w.heap.size w wq from kq) hbq
      have HBQwp := Lib.hid (below_then HBQwq.out hbq)
      have n0wp := (HLQ.out.later HBQwp.out).c0
      have n1wp := (HLQ.out.later HBQwp.out).c1
      have n2wp := (Below.cell HBQwp.out (p := ⟨b1, off + k, none⟩) HLT.out.2).trans HCE.out
      clear hbq
      go_wp2_with fail
      refine hK.out _ _ ?_ (fun hHeld => ?_)
      · (refine ⟨?_, ?_, ?_, ?_⟩ <;> first | assumption | (simp [*]; done))
      clear hK K
      try simp only [Act.put, List.setIfInBounds_toArray, List.set_cons_zero, List.set_cons_succ]
      refine RegH.takeH (i := 15) (v := ?_) rfl (by kernel_rfl) (by kernel_rfl) (by kernel_rfl) (fun _ _ _ h => h) (Or.inl ⟨by rfl, ?_⟩) (by assumption) ?_
      rotate_left
      · (intro wS hSw; (try dsimp only at hSw); go_simp; try (with_reducible rfl))
      try simp only [Act.put, List.setIfInBounds_toArray, List.set_cons_zero, List.set_cons_succ]
      refine RegH.takeH (i := 16) (v := ?_) rfl (by kernel_rfl) (by kernel_rfl) (by kernel_rfl) (fun _ _ _ h => h) (Or.inl ⟨by rfl, ?_⟩) (by assumption) ?_
      rotate_left
      · (intro wS hSw; (try dsimp only at hSw); go_simp; try (with_reducible rfl))
      try simp only [Act.put, List.setIfInBounds_toArray, List.set_cons_zero, List.set_cons_succ]
      refine RegH.takeH (i := 17) (v := ?_) rfl (by kernel_rfl) (by kernel_rfl) (by kernel_rfl) (fun _ _ _ h => h) (Or.inl ⟨by rfl, ?_⟩) (by assumption) ?_
      rotate_left
      · (intro wS hSw; (try dsimp only at hSw); go_simp; try (with_reducible rfl))
      try simp only [Act.put, List.setIfInBounds_toArray, List.set_cons_zero, List.set_cons_succ]
      refine wpAnyH_done (by kernel_rfl) ?_ _
      go_wp2_with fail
      go_roundw
      case rel => exact ⟨k + 1, HLT.out.1, by go_num, by rw [HNX.out]; push_cast; rfl, below_then HBW.out HBQwp.out⟩
      case measure => have := HLT.out.1; simp [intOf]; omega
    · have ek : k = X.length := by omega
      subst ek
      rw [List.take_length, HZ.out]
      clear hbw
      go_wp2_with fail
      go_ret
      exact ⟨rfl, HKP.out⟩
set_option maxRecDepth 100000 in
theorem spec_trees (n m : Int) (u : Value) (l : List A2) (S : Nat → Prop) (w : World) (hr : atomsC.rd w S [u] l) :
    Calls Try.prog 62 #[.agg #[.int .i64 n, u], .int .i64 m] w fun e w' => e = .returned (.int .i64 (ct n l m : Int)) ∧ Below w.heap.size w w' := by
  cases hc : cOk n l m
  · have HZ := Lib.hid (show (0 : Int) = ((ct n l m : Nat) : Int) by rw [ct_no hc]; rfl)
    have HCN := Lib.hid (fun w' (hb : Below w.heap.size w w') => spec_conn n m u l S w' (Cd.later hr hb))
    rw [hc] at HCN
    obtain ⟨a, cap, rfl, hlm⟩ := Cd.sl_form hr
    clear hr hc
    have HC := Lib.hid (Loc2.of (row_alloc w (.cells #[.int .i64 n, .slice a l.length cap] 60)))
    have HB := Lib.hid (below_alloc w (.cells #[.int .i64 n, .slice a l.length cap] 60))
    go_enter Try.func62, Try.ntmps62
    go_wp2_with fail
    generalize w.alloc _ = W at *
    refine (HCN.out _ HB.out).mono ?_
    rintro e w1 ⟨rfl, hb1⟩
    have HB1 := Lib.hid (below_then HB.out hb1)
    clear hb1
    go_wp2_with fail
    go_ret
    exact ⟨ret_int HZ.out, HB1.out⟩
  · obtain ⟨t, rfl, _⟩ := cOk_fm hc
    rw [ct_yes hc]
    exact spec_rec n u l S w hr t t (Nat.le_refl _) hc w (Below.refl _ _)
end Go.Proofs.Ytklamhnecncenaa.QgTree
