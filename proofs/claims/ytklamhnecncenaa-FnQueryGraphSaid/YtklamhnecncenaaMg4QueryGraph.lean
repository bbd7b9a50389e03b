/- Texts that the proof rests on, one behind the other. -/
import Derived.Test.YtklamhnecncenaaMg3QueryGraph
import Derived.Test.YtklamhnecncenaaMg2QueryGraph

namespace Go.Proofs.Ytklamhnecncenaa.QgImp
open Go Go.RowKit Byt Ints IntsLaw Cd Rows2 Tab TabSpec Exact Atom QryMath QrySpec QryImp MkAtom SlMath QgMath QgSpec

theorem it_sub : ∀ G < 64, ∀ m < 16, ∀ k ≤ 5, it G m k ≤ m := by decide +kernel
def rr (G m : Nat) : Nat → Nat
  | 0 => 0
  | k + 1 => it G m k
theorem cOk_le {n : Int} {l : List A2} {k : Nat} (h : k ≤ fm n l) : cOk n l (k : Int) = conn (gr l) k := by
  rcases Nat.eq_zero_or_pos k with q | q
  · subst q
    unfold cOk
    exact Bool.and_false _
  · unfold cOk
    rw [fm_mOk q h, Bool.true_and, Int.toNat_natCast]
theorem jsL_len (n : Int) (l : List A2) (m : Int) : (jsL n l m).length ≤ 16 := by
  cases h : cOk n l m
  · rw [jsL_no h]; simp
  · obtain ⟨t, rfl, ht, _⟩ := cOk_fm h
    rw [jsL_yes h]
    have := fil_len (isSplit (gr l) t) t
    have := fm_lt n l
    omega
/-- The neighbours among the atoms of a list. -/
def nbF (G t : Nat) (l : List Int) : Nat := l.foldl (fun s v => if anyA G t v.toNat then s ||| 2 ^ v.toNat else s) 0
theorem nbF_snoc (G t : Nat) (l : List Int) (v : Int) : nbF G t (l ++ [v]) = if anyA G t v.toNat then nbF G t l ||| 2 ^ v.toNat else nbF G t l := by simp [nbF]
theorem nbF_lt (G t : Nat) : ∀ (l : List Int) (s : Nat), s < 16 → In4 l → l.foldl (fun s v => if anyA G t v.toNat then s ||| 2 ^ v.toNat else s) s < 16
  | [], _, hs, _ => hs
  | x :: xs, s, hs, h => by
    refine nbF_lt G t xs _ ?_ fun y hy => h y (List.mem_cons_of_mem _ hy)
    show (if anyA G t x.toNat = true then s ||| 2 ^ x.toNat else s) < 16
    split
    · exact or_lt hs (pow4n (h x List.mem_cons_self))
    · exact hs
theorem nbF_near : ∀ n ≤ 4, ∀ G < 64, G &&& pairs n = G → ∀ t < 2 ^ n, nbF G t (varsL ((2 ^ n - 1) &&& (15 - t))) = near G t := by decide +kernel
theorem vars_bits : ∀ n ≤ 4, ∀ t < 2 ^ n, ∀ v ∈ varsL ((2 ^ n - 1) &&& (15 - t)), v.toNat < n ∧ t / 2 ^ v.toNat % 2 = 0 := by decide +kernel
theorem in4_vars (s : Nat) : In4 (varsL s) := fun x hx => by
  unfold varsL varsTo at hx
  obtain ⟨y, hy, rfl⟩ := List.mem_map.1 hx
  have := List.mem_range.1 (List.mem_filter.1 hy).1
  simp only [Int.ofNat_eq_natCast]
  omega
theorem mB_one {n : Int} {l : List A2} (hq : qOk n l = true) {k : Nat} (hk : k < l.length) : mB n l ((2 ^ k : Nat) : Int) = V l k := by
  have h4 := (qOk_iff.1 hq).2.2.2.1
  have : mOk n l ((2 ^ k : Nat) : Int) = true := by
    rw [mOk_iff, pow_cast]
    have h2 : 2 ^ k < 2 ^ l.length := Nat.pow_lt_pow_right (by decide) hk
    exact ⟨hq, Int.natCast_nonneg _, Int.ofNat_lt.2 h2⟩
  rw [mB_yes this, Int.toNat_natCast]
  exact sel_one_in h4 hk
set_option maxRecDepth 100000 in
theorem impl_full (n : Int) (u : Value) (l : List A2) (S : Nat → Prop) (w : World) (hr : atomsC.rd w S [u] l) :
    Calls Try.prog 51 #[.agg #[.int .i64 n, u]] w fun e w' => e = .returned (.int .i64 (fm n l : Int)) ∧ Below w.heap.size w w' := by
  have HV := Lib.hid (fun w' (hb : Below w.heap.size w w') => impl_valid n u l S w' (Cd.later hr hb))
  obtain ⟨a, cap, rfl, hlm⟩ := Cd.sl_form hr
  clear hr
  have HC := Lib.hid (Loc2.of (row_alloc w (.cells #[.int .i64 n, .slice a l.length cap] 60)))
  have HB := Lib.hid (below_alloc w (.cells #[.int .i64 n, .slice a l.length cap] 60))
  cases hq : qOk n l
  · have HZ := Lib.hid (show (0 : Int) = ((fm n l : Nat) : Int) by rw [fm_no hq]; rfl)
    rw [hq] at HV
    clear hq
    go_enter Try.func51, Try.ntmps51
    go_wp2_with fail
    generalize w.alloc _ = W at *
    refine (HV.out _ HB.out).mono ?_
    rintro e w1 ⟨rfl, hb1⟩
    have HB1 := Lib.hid (below_then HB.out hb1)
    clear hb1
    go_wp2_with fail
    go_ret
    exact ⟨ret_int HZ.out, HB1.out⟩
  rw [hq] at HV
  have h4 := (qOk_iff.1 hq).2.2.2.1
  have hpw := pow_len h4
  have HZ := Lib.hid (show (2 : Int) ^ l.length - 1 = ((fm n l : Nat) : Int) by
    rw [fm_yes hq, pow_cast]
    have := Nat.two_pow_pos l.length
    omega)
  have q1 := hpw.1
  have q2 := hpw.2.1
  have q3 := hpw.2.2
  have q4 : IntKind.i64.wrap (2 ^ l.length - 1) = 2 ^ l.length - 1 := by rw [IntKind.wrap_i64]; omega
  have q5 : (l.length : Int) ≤ 64 := by omega
  have q6 : ((l.length : Int)).toNat = l.length := by omega
  clear hq hpw h4
  go_enter Try.func51, Try.ntmps51
  go_wp2_with fail
  generalize w.alloc _ = W at *
  refine (HV.out _ HB.out).mono ?_
  rintro e w1 ⟨rfl, hb1⟩
  have HB1 := Lib.hid (below_then HB.out hb1)
  have c0 := (HC.out.later hb1).c0
  have c1 := (HC.out.later hb1).c1
  clear hb1
  go_wp2_with fail
  go_ret
  exact ⟨ret_int HZ.out, HB1.out⟩
set_option maxRecDepth 100000 in
theorem impl_maskatoms (m : Int) (w : World) :
    Calls Try.prog 58 #[.int .i64 m] w fun e w' => ∃ v' fp, e = .returned v' ∧ rowC.ow w' w.heap.size [v'] (maL m) fp ∧ fp.Nodup ∧ Below w.heap.size w w' := by
  by_cases hm : 0 ≤ m ∧ m < 16
  case neg =>
    have HZ := Lib.hid (show maL m = [] from if_neg hm)
    have HE := Lib.hid (show rowC.ow w w.heap.size [.slice none 0 0] [] [] from Cd.ow_nil _ _)
    by_cases h0 : m < 0
    · clear hm
      go_enter Try.func58, Try.ntmps58
      go_wp2_with fail
      go_ret
      first | exact ⟨_, [], rfl, by rw [HZ.out]; exact HE.out, by simp, Below.refl _ _⟩ | exact ⟨_, rfl, [], by rw [HZ.out]; exact HE.out, by simp, Below.refl _ _⟩
    · have h1 : (16 : Int) ≤ m := by omega
      clear hm
      go_enter Try.func58, Try.ntmps58
      go_wp2_with fail
      go_ret
      first | exact ⟨_, [], rfl, by rw [HZ.out]; exact HE.out, by simp, Below.refl _ _⟩ | exact ⟨_, rfl, [], by rw [HZ.out]; exact HE.out, by simp, Below.refl _ _⟩
  obtain ⟨s, rfl⟩ : ∃ s : Nat, m = (s : Int) := ⟨m.toNat, by omega⟩
  have HZ := Lib.hid (show maL (s : Int) = varsL s by unfold maL; rw [if_pos hm, Int.toNat_natCast])
  have HL := Lib.hid (impl_list s w (by omega))
  have h0 : ¬ (s : Int) < 0 := by omega
  have h1 : ¬ (16 : Int) ≤ (s : Int) := by omega
  clear hm
  rw [HZ.out]
  generalize varsL s = R at *
  go_enter Try.func58, Try.ntmps58
  go_wp2_with fail
  refine HL.out.mono ?_
  rintro e w1 ⟨v', fp, rfl, ho, hn, hb⟩
  have HO := Lib.hid (And.intro ho (And.intro hn hb))
  clear ho hn hb
  go_wp2_with fail
  go_ret
  exact ⟨_, fp, rfl, HO.out.1, HO.out.2.1, HO.out.2.2⟩
set_option maxRecDepth 100000 in
set_option maxHeartbeats 3200000 in
theorem impl_nbm (n m : Int) (u : Value) (l : List A2) (S : Nat → Prop) (w : World) (hr : atomsC.rd w S [u] l) :
    Calls Try.prog 57 #[.agg #[.int .i64 n, u], .int .i64 m] w fun e w' => e = .returned (.int .i64 (nb n l m : Int)) ∧ Below w.heap.size w w' := by
  have HVO := Lib.hid (fun m w' (hb : Below w.heap.size w w') => impl_varsof n m u l S w' (Cd.later hr hb))
  have HFM := Lib.hid (fun w' (hb : Below w.heap.size w w') => impl_full n u l S w' (Cd.later hr hb))
  obtain ⟨r, hr16, hnot⟩ := not_any (fm_lt n l) m
  have HMA := Lib.hid (fun w' => impl_maskatoms (r : Int) w')
  rw [show maL (r : Int) = varsL r by unfold maL; rw [if_pos (by omega), Int.toNat_natCast]] at HMA
  -- what a round adds
  have HADD : Hid (∃ f : Nat → Nat, f 0 = 0 ∧ f (varsL r).length = nb n l m ∧ (∀ k, k ≤ (varsL r).length → f k < 16) ∧ ∀ k (hk : k < (varsL r).length), ((mB n l ((2 ^ (varsL r)[k].toNat : Nat) : Int) &&& mB n l m = 0) ∧ f (k + 1) = f k) ∨ ((mB n l ((2 ^ (varsL r)[k].toNat : Nat) : Int) &&& mB n l m ≠ 0) ∧ f (k + 1) = f k ||| 2 ^ (varsL r)[k].toNat)) := by
    refine Lib.hid ?_
    cases hq : mOk n l m
    · refine ⟨fun _ => 0, rfl, (nb_no hq).symm, fun _ _ => (by decide : (0 : Nat) < 16), fun k hk => .inl ⟨?_, rfl⟩⟩
      rw [mB_no (m := m) hq, Nat.and_zero]
    · obtain ⟨t, rfl, htf, htl⟩ := mOk_fm hq
      have hqo := (mOk_iff.1 hq).1
      have h4 := (qOk_iff.1 hqo).2.2.2.1
      have er : r = (2 ^ l.length - 1) &&& (15 - t) := by
        have h1 := not_bits (fm n l) (fm_lt n l) t (by have := fm_lt n l; omega)
        rw [hnot, fm_yes hqo] at h1
        exact_mod_cast h1
      have hvb := vars_bits l.length h4 t htl
      rw [← er] at hvb
      have hnn := nbF_near l.length h4 (gr l) (gr_lt l) (gr_pairs h4) t htl
      rw [← er] at hnn
      have hi4 := in4_vars r
      refine ⟨fun k => nbF (gr l) t ((varsL r).take k), rfl, ?_, fun k _ => nbF_lt _ _ _ _ (by decide) fun x hx => hi4 x (List.mem_of_mem_take hx), fun k hk => ?_⟩
      · show nbF (gr l) t ((varsL r).take (varsL r).length) = _
        rw [List.take_length, hnn, nb_yes hq]
        rfl
      · obtain ⟨b1, b2⟩ := hvb _ (List.getElem_mem hk)
        have e1 : mB n l ((2 ^ (varsL r)[k].toNat : Nat) : Int) = V l (varsL r)[k].toNat := mB_one hqo b1
        have e2 : mB n l (t : Int) = bs (selV l t l.length) := mB_yes hq
        have e3 := sel_and h4 (by omega) b2
        have e4 : nbF (gr l) t ((varsL r).take (k + 1)) = if anyA (gr l) t (varsL r)[k].toNat then nbF (gr l) t ((varsL r).take k) ||| 2 ^ (varsL r)[k].toNat else nbF (gr l) t ((varsL r).take k) := by
          rw [List.take_succ_eq_append_getElem hk, nbF_snoc]
        show (_ ∧ nbF (gr l) t ((varsL r).take (k + 1)) = nbF (gr l) t ((varsL r).take k)) ∨ (_ ∧ nbF (gr l) t ((varsL r).take (k + 1)) = nbF (gr l) t ((varsL r).take k) ||| _)
        rw [e1, e2, e4]
        cases hany : anyA (gr l) t (varsL r)[k].toNat
        · rw [hany] at e3
          exact .inl ⟨by simpa using e3, rfl⟩
        · rw [hany] at e3
          exact .inr ⟨by simpa using e3, rfl⟩
  obtain ⟨f, hf0, hfe, hf16, hfs⟩ := HADD.out
  have HFE := Lib.hid hfe
  have HF0 := Lib.hid hf0
  have HF16 := Lib.hid hf16
  have HFS := Lib.hid hfs
  have HI4 := Lib.hid (in4_vars r)
  have HMB := Lib.hid (fun m => mB_lt n l m)
  have HX4 := Lib.hid (show (varsL r).length ≤ 4 from varsTo_len r 4)
  obtain ⟨a, cap, rfl, hlm⟩ := Cd.sl_form hr
  clear hr hfe hf0 hf16 hfs HADD hr16
  have HC := Lib.hid (Loc2.of (row_alloc w (.cells #[.int .i64 n, .slice a l.length cap] 60)))
  have HB := Lib.hid (below_alloc w (.cells #[.int .i64 n, .slice a l.length cap] 60))
  generalize nb n l m = R at *
  generalize fm n l = F at *
  generalize varsL r = X at *
  generalize hs : mB n l m = s at *
  have HS := Lib.hid hs
  clear hs
  go_enter Try.func57, Try.ntmps57
  go_wp2_with fail
  generalize w.alloc _ = W at *
  refine (HVO.out m _ HB.out).mono ?_
  rw [HS.out]
  rintro e w1 ⟨rfl, hb1⟩
  have HB1 := Lib.hid (below_then HB.out hb1)
  have HC1 := Lib.hid (HC.out.later hb1)
  have c0 := HC1.out.c0
  have c1 := HC1.out.c1
  clear hb1
  go_wp2_with fail
  clear c0 c1
  refine (HFM.out _ HB1.out).mono ?_
  rintro e w2 ⟨rfl, hb2⟩
  have HB2 := Lib.hid (below_then HB1.out hb2)
  have HC2 := Lib.hid (HC1.out.later hb2)
  clear hb2
  go_wp2_with fail
  refine (HMA.out _).mono ?_
  rintro e w3 ⟨x', fx, rfl, hox, _, hb3⟩
  have HB3 := Lib.hid (below_then HB2.out hb3)
  have HC3 := Lib.hid (HC2.out.later hb3)
  have HXR := Lib.hid (rowC.ow_rd hox)
  obtain ⟨ax, cx, rfl, _⟩ := (row_ri (rowC.ow_rd hox)).1
  clear hb3 hox
  have q0 : (0 : Int) = ((f 0 : Nat) : Int) := by rw [HF0.out]; rfl
  have HQ0 := Lib.hid q0
  clear q0
  go_wp2_with fail
  go_loopw [6, 18] (fun x i wr => ∃ k : Nat, k ≤ X.length ∧ i = .int .i64 k ∧ x = .int .i64 (f k : Int) ∧ Below w3.heap.size w3 wr) (fun _ i _ => X.length - (intOf i).toNat)
  case atStart => exact ⟨0, Nat.zero_le _, rfl, by rw [← HQ0.out], Below.refl _ _⟩
  case round =>
    obtain ⟨k, hk, rfl, rfl, hbw⟩ := hrel
    have HBW := Lib.hid hbw
    have HLQ := Lib.hid (HC3.out.later hbw)
    have c0 := HLQ.out.c0
    have c1 := HLQ.out.c1
    have HKP := Lib.hid (show Below w.heap.size w wr from below_then HB3.out hbw)
    have hxr := Cd.later HXR.out hbw
    by_cases hlt : k < X.length
    · obtain ⟨b1, off, cap', e1, hbB, hc⟩ := ri_at (row_ri hxr).1 hlt
      injection e1 with e1 e2 e3
      subst e1 e3
      have hstep := HFS.out k hlt
      have hv4 := HI4.out _ (List.getElem_mem hlt)
      have HLT := Lib.hid hlt
      have p1 : (0 : Int) ≤ (k : Int) := by omega
      have p2 : (k : Int) < (X.length : Int) := by omega
      have pX : (X.length : Int) ≤ 4 := by have := HX4.out; omega
      have hx16 := HF16.out k (by omega)
      generalize hX : X[k] = z at *
      obtain ⟨v, rfl⟩ : ∃ v : Nat, z = (v : Int) := ⟨z.toNat, by omega⟩
      rw [Int.toNat_natCast] at hstep
      have p3 : (v : Int) ≤ 64 := by omega
      have p4 : ((v : Int)).toNat = v := by omega
      have p5 : (0 : Int) ≤ (v : Int) := by omega
      have hpw := pow_w (show v ≤ 4 by omega)
      have hor := or_pow hx16 (show v < 4 by omega)
      have hand := and_nat (HMB.out ((2 ^ v : Nat) : Int)) (show s < 16 by rw [← HS.out]; exact HMB.out m)
      have HCK := Lib.hid (fun w' (hb : Below w.heap.size w w') => HVO.out ((2 ^ v : Nat) : Int) w' hb)
      generalize mB n l ((2 ^ v : Nat) : Int) = g at *
      have e2 : (((2 ^ v : Nat)) : Int) = (2 : Int) ^ v := (pow_cast v).symm
      rw [e2] at HCK
      have kk : Kp w wr.drew := kp_drew (show Kp w wr from HKP.out)
      clear hbw e2 hv4 hxr hX hx16
      generalize f k = x at *
      rcases hstep with ⟨hz, hnx⟩ | ⟨hz, hnx⟩
      · rw [hz] at hand
        have HNX := Lib.hid hnx
        clear hz hnx hor
        go_wp2_with fail
        refine wp_region_held_drew (S := fun wx => wx.cell? ⟨w.heap.size, 0, none⟩ = some (.int .i64 n) ∧ wx.cell? ⟨w.heap.size, 1, none⟩ = some (.slice a l.length cap) ∧ Kp w wx) (by kernel_rfl) ?_ (fun hHeld => ?_)
        · (refine ⟨?_, ?_, ?_⟩ <;> first | assumption | (simp [*]; done))
        refine RegH.takeH (i := 0) (v := ?_) rfl (by kernel_rfl) (by kernel_rfl) (by kernel_rfl) (fun _ _ _ h => h) (Or.inl ⟨by rfl, ?_⟩) (by assumption) ?_
        rotate_left
        · (intro wS hSw; (try dsimp only at hSw); go_simp; try (with_reducible rfl))
        try simp only [Act.put, List.setIfInBounds_toArray, List.set_cons_zero, List.set_cons_succ]
        refine RegH.takeH (i := 1) (v := ?_) rfl (by kernel_rfl) (by kernel_rfl) (by kernel_rfl) (fun _ _ _ h => h) (Or.inl ⟨by rfl, ?_⟩) (by assumption) ?_
        rotate_left
        · (intro wS hSw; (try dsimp only at hSw); go_simp; try (with_reducible rfl))
        try simp only [Act.put, List.setIfInBounds_toArray, List.set_cons_zero, List.set_cons_succ]
        refine RegH.takeH (i := 2) (v := ?_) rfl (by kernel_rfl) (by kernel_rfl) (by kernel_rfl) (fun _ _ _ h => h) (Or.inl ⟨by rfl, ?_⟩) (by assumption) ?_
        rotate_left
        · (intro wS hSw; (try dsimp only at hSw); go_simp; try (with_reducible rfl))
        try simp only [Act.put, List.setIfInBounds_toArray, List.set_cons_zero, List.set_cons_succ]
        refine RegH.takeH (i := 4) (v := ?_) rfl (by kernel_rfl) (by kernel_rfl) (by kernel_rfl) (fun _ _ _ h => h) (Or.inl ⟨by rfl, ?_⟩) (by assumption) ?_
        rotate_left
        · (intro wS hSw; (try dsimp only at hSw); go_simp; try (with_reducible rfl))
        try simp only [Act.put, List.setIfInBounds_toArray, List.set_cons_zero, List.set_cons_succ]
        refine RegH.consH (i := 3) rfl (by kernel_rfl) (fun K hK => ?_)
        go_simp
        go_at_call 101
        refine (HCK.out _ (show Below w.heap.size w wr.drew from kk)).mono ?_
        rintro e wq ⟨rfl, hbq⟩
        have kq : Kp w wq := below_then (show Below w.heap.size w wr.drew from kk) hbq
        have HBQ := Lib.hid (below_then (bd_drew wr) hbq)
        have n0 := (HLQ.out.later HBQ.out).c0
        have n1 := (HLQ.out.later HBQ.out).c1
        clear hbq
        go_wp2_with fail
        refine hK.out _ _ ?_ (fun hHeld => ?_)
        · (refine ⟨?_, ?_, ?_⟩ <;> first | assumption | (simp [*]; done))
        clear hK K
        try simp only [Act.put, List.setIfInBounds_toArray, List.set_cons_zero, List.set_cons_succ]
        refine RegH.takeH (i := 5) (v := ?_) rfl (by kernel_rfl) (by kernel_rfl) (by kernel_rfl) (fun _ _ _ h => h) (Or.inl ⟨by rfl, ?_⟩) (by assumption) ?_
        rotate_left
        · (intro wS hSw; (try dsimp only at hSw); go_simp; try (with_reducible rfl))
        try simp only [Act.put, List.setIfInBounds_toArray, List.set_cons_zero, List.set_cons_succ]
        refine RegH.takeH (i := 6) (v := ?_) rfl (by kernel_rfl) (by kernel_rfl) (by kernel_rfl) (fun _ _ _ h => h) (Or.inl ⟨by rfl, ?_⟩) (by assumption) ?_
        rotate_left
        · (intro wS hSw; (try dsimp only at hSw); go_simp; try (with_reducible rfl))
        try simp only [Act.put, List.setIfInBounds_toArray, List.set_cons_zero, List.set_cons_succ]
        refine wpAnyH_done (by kernel_rfl) ?_ _
        go_wp2_with fail
        go_roundw
        case rel => exact ⟨k + 1, HLT.out, by go_num, by rw [HNX.out], below_then HBW.out HBQ.out⟩
        case measure => have := HLT.out; simp [intOf]; omega
      · have HNX := Lib.hid hnx
        have hz2 : (((g &&& s : Nat) : Int) == 0) = false := by rw [beq_eq_false_iff_ne]; omega
        have hz3 : ¬ (((g &&& s : Nat) : Int) = 0) := by omega
        clear hz hnx
        generalize g &&& s = z at *
        go_wp2_with fail
        refine wp_region_held_drew (S := fun wx => wx.cell? ⟨w.heap.size, 0, none⟩ = some (.int .i64 n) ∧ wx.cell? ⟨w.heap.size, 1, none⟩ = some (.slice a l.length cap) ∧ Kp w wx) (by kernel_rfl) ?_ (fun hHeld => ?_)
        · (refine ⟨?_, ?_, ?_⟩ <;> first | assumption | (simp [*]; done))
        refine RegH.takeH (i := 0) (v := ?_) rfl (by kernel_rfl) (by kernel_rfl) (by kernel_rfl) (fun _ _ _ h => h) (Or.inl ⟨by rfl, ?_⟩) (by assumption) ?_
        rotate_left
        · (intro wS hSw; (try dsimp only at hSw); go_simp; try (with_reducible rfl))
        try simp only [Act.put, List.setIfInBounds_toArray, List.set_cons_zero, List.set_cons_succ]
        refine RegH.takeH (i := 1) (v := ?_) rfl (by kernel_rfl) (by kernel_rfl) (by kernel_rfl) (fun _ _ _ h => h) (Or.inl ⟨by rfl, ?_⟩) (by assumption) ?_
        rotate_left
        · (intro wS hSw; (try dsimp only at hSw); go_simp; try (with_reducible rfl))
        try simp only [Act.put, List.setIfInBounds_toArray, List.set_cons_zero, List.set_cons_succ]
        refine RegH.takeH (i := 2) (v := ?_) rfl (by kernel_rfl) (by kernel_rfl) (by kernel_rfl) (fun _ _ _ h => h) (Or.inl ⟨by rfl, ?_⟩) (by assumption) ?_
        rotate_left
        · (intro wS hSw; (try dsimp only at hSw); go_simp; try (with_reducible rfl))
        try simp only [Act.put, List.setIfInBounds_toArray, List.set_cons_zero, List.set_cons_succ]
        refine RegH.takeH (i := 4) (v := ?_) rfl (by kernel_rfl) (by kernel_rfl) (by kernel_rfl) (fun _ _ _ h => h) (Or.inl ⟨by rfl, ?_⟩) (by assumption) ?_
        rotate_left
        · (intro wS hSw; (try dsimp only at hSw); go_simp; try (with_reducible rfl))
        try simp only [Act.put, List.setIfInBounds_toArray, List.set_cons_zero, List.set_cons_succ]
        refine RegH.consH (i := 3) rfl (by kernel_rfl) (fun K hK => ?_)
        go_simp
        go_at_call 101
        refine (HCK.out _ (show Below w.heap.size w wr.drew from kk)).mono ?_
        rintro e wq ⟨rfl, hbq⟩
        have kq : Kp w wq := below_then (show Below w.heap.size w wr.drew from kk) hbq
        have HBQ := Lib.hid (below_then (bd_drew wr) hbq)
        have n0 := (HLQ.out.later HBQ.out).c0
        have n1 := (HLQ.out.later HBQ.out).c1
        clear hbq
        go_wp2_with fail
        refine hK.out _ _ ?_ (fun hHeld => ?_)
        · (refine ⟨?_, ?_, ?_⟩ <;> first | assumption | (simp [*]; done))
        clear hK K
        try simp only [Act.put, List.setIfInBounds_toArray, List.set_cons_zero, List.set_cons_succ]
        refine RegH.takeH (i := 5) (v := ?_) rfl (by kernel_rfl) (by kernel_rfl) (by kernel_rfl) (fun _ _ _ h => h) (Or.inl ⟨by rfl, ?_⟩) (by assumption) ?_
        rotate_left
        · (intro wS hSw; (try dsimp only at hSw); go_simp; try (with_reducible rfl))
        try simp only [Act.put, List.setIfInBounds_toArray, List.set_cons_zero, List.set_cons_succ]
        refine RegH.takeH (i := 6) (v := ?_) rfl (by kernel_rfl) (by kernel_rfl) (by kernel_rfl) (fun _ _ _ h => h) (Or.inl ⟨by rfl, ?_⟩) (by assumption) ?_
        rotate_left
        · (intro wS hSw; (try dsimp only at hSw); go_simp; try (with_reducible rfl))
        try simp only [Act.put, List.setIfInBounds_toArray, List.set_cons_zero, List.set_cons_succ]
        refine wpAnyH_done (by kernel_rfl) ?_ _
        go_wp2_with fail
        go_roundw
        case rel => exact ⟨k + 1, HLT.out, by go_num, by rw [HNX.out], below_then HBW.out HBQ.out⟩
        case measure => have := HLT.out; simp [intOf]; omega
    · have ek : k = X.length := by omega
      subst ek
      clear hbw
      rw [HFE.out]
      go_wp2_with fail
      go_ret
      exact ⟨rfl, HKP.out⟩
set_option maxRecDepth 100000 in
set_option maxHeartbeats 1600000 in
theorem impl_conn (n m : Int) (u : Value) (l : List A2) (S : Nat → Prop) (w : World) (hr : atomsC.rd w S [u] l) :
    Calls Try.prog 49 #[.agg #[.int .i64 n, u], .int .i64 m] w fun e w' => e = .returned (.bool (cOk n l m)) ∧ Below w.heap.size w w' := by
  have HFM := Lib.hid (fun w' (hb : Below w.heap.size w w') => impl_full n u l S w' (Cd.later hr hb))
  have HNB := Lib.hid (fun m w' (hb : Below w.heap.size w w') => impl_nbm n m u l S w' (Cd.later hr hb))
  obtain ⟨a, cap, rfl, hlm⟩ := Cd.sl_form hr
  clear hr
  have HC := Lib.hid (Loc2.of (row_alloc w (.cells #[.int .i64 n, .slice a l.length cap] 60)))
  have HB := Lib.hid (below_alloc w (.cells #[.int .i64 n, .slice a l.length cap] 60))
  by_cases h1 : m < 1
  · have HZ := Lib.hid (show false = cOk n l m by
      cases hc : cOk n l m
      · rfl
      · obtain ⟨t, rfl, _, _, ht, _⟩ := cOk_fm hc
        omega)
    go_enter Try.func49, Try.ntmps49
    go_wp2_with fail
    go_ret
    exact ⟨ret_b HZ.out, HB.out⟩
  by_cases hF : (fm n l : Int) < m
  · have HZ := Lib.hid (show false = cOk n l m by
      cases hc : cOk n l m
      · rfl
      · obtain ⟨t, rfl, ht, _⟩ := cOk_fm hc
        omega)
    generalize fm n l = F at *
    go_enter Try.func49, Try.ntmps49
    go_wp2_with fail
    generalize w.alloc _ = W at *
    refine (HFM.out _ HB.out).mono ?_
    rintro e w1 ⟨rfl, hb1⟩
    have HB1 := Lib.hid (below_then HB.out hb1)
    clear hb1
    go_wp2_with fail
    go_ret
    exact ⟨ret_b HZ.out, HB1.out⟩
  obtain ⟨t, rfl⟩ : ∃ t : Nat, m = (t : Int) := ⟨m.toNat, by omega⟩
  have ht1 : 1 ≤ t := by omega
  have htf : t ≤ fm n l := by omega
  have h16 : t < 16 := by have := fm_lt n l; omega
  have hG := gr_lt l
  have HZ := Lib.hid (show cOk n l (t : Int) = conn (gr l) t from cOk_le htf)
  have HCN := Lib.hid (show ∀ k, k < 5 → it (gr l) t k = it (gr l) t (k + 1) → ((((it (gr l) t k : Nat) : Int)) == (t : Int)) = conn (gr l) t from fun k hk e => by
    have h2 := it_stop _ hG t h16 k hk e
    rw [h2]
    unfold conn
    have : (t != 0) = true := by rw [bne_iff_ne]; omega
    rw [this, Bool.true_and, Bool.eq_iff_iff, beq_iff_eq, beq_iff_eq]
    omega)
  have HNX := Lib.hid (show ∀ k, k ≤ 5 → nb n l ((it (gr l) t k : Nat) : Int) = near (gr l) (it (gr l) t k) from fun k hk => by
    have h2 := it_sub _ hG t h16 k hk
    have h3 : 1 ≤ it (gr l) t k := by
      clear h2
      induction k with
      | zero => exact low_pos t h16 ht1
      | succ k ih => exact Nat.le_trans (ih (by omega)) (it_up _ hG t h16 k (by omega))
    rw [nb_yes (fm_mOk h3 (Nat.le_trans h2 htf)), Int.toNat_natCast])
  have HLOW := Lib.hid (low_pos t h16 ht1)
  have HG := Lib.hid hG
  have HUP := Lib.hid (fun k (hk : k ≤ 5) => it_up _ hG t h16 k hk)
  have HLT16 := Lib.hid (fun k (hk : k ≤ 6) => it_lt _ hG t h16 k hk)
  have HFIVE := Lib.hid (it_five _ hG t h16)
  have hlow := low_bits t h16
  have HT16 := Lib.hid h16
  have hneg : IntKind.i64.wrap (-(t : Int)) = -(t : Int) := by rw [IntKind.wrap_i64]; omega
  have f1 : ¬ (t : Int) < 1 := by omega
  have f2 : ¬ (fm n l : Int) < (t : Int) := by omega
  have f3 : ¬ fm n l < t := by omega
  rw [HZ.out]
  clear h1 hF htf ht1 hG h16 HZ
  generalize fm n l = F at *
  generalize gr l = G at *
  go_enter Try.func49, Try.ntmps49
  go_wp2_with fail
  generalize w.alloc _ = W at *
  refine (HFM.out _ HB.out).mono ?_
  rintro e w1 ⟨rfl, hb1⟩
  have HB1 := Lib.hid (below_then HB.out hb1)
  have HC1 := Lib.hid (HC.out.later hb1)
  clear hb1
  go_wp2_with fail
  clear hlow hneg f1 f2 f3
  go_loopw [5, 6] (fun r x wr => ∃ k : Nat, k ≤ 5 ∧ r = .int .i64 (rr G t k : Int) ∧ x = .int .i64 (it G t k : Int) ∧ Below w1.heap.size w1 wr) (fun r x _ => 32 - (intOf r).toNat - (intOf x).toNat)
  case atStart => exact ⟨0, by decide, rfl, rfl, Below.refl _ _⟩
  case round =>
    obtain ⟨k, hk, rfl, rfl, hbw⟩ := hrel
    have HBW := Lib.hid hbw
    have HLQ := Lib.hid (HC1.out.later hbw)
    have c0 := HLQ.out.c0
    have c1 := HLQ.out.c1
    have HKP := Lib.hid (show Below w.heap.size w wr from below_then HB1.out hbw)
    have hx16 := HLT16.out k (by omega)
    have hle : rr G t k ≤ it G t k := by
      cases k with
      | zero => exact Nat.zero_le _
      | succ k => exact HUP.out k (by omega)
    by_cases he : rr G t k = it G t k
    · obtain ⟨j, hj⟩ : ∃ j, k = j + 1 := by
        cases k with
        | zero =>
          exfalso
          have h1 : (0 : Nat) = low t := he
          have := HLOW.out
          omega
        | succ j => exact ⟨j, rfl⟩
      have he2 : it G t j = it G t (j + 1) := by rw [hj] at he; exact he
      have HR := Lib.hid (HCN.out j (by omega) he2)
      rw [hj, show rr G t (j + 1) = it G t j from rfl, ← he2]
      clear he he2 hj hle hx16 hbw
      generalize it G t j = x at *
      go_wp2_with fail
      go_ret
      exact ⟨ret_b HR.out, HKP.out⟩
    · have hk5 : k < 5 := by
        rcases Nat.lt_or_ge k 5 with q | q
        · exact q
        · exfalso
          have ek : k = 5 := by omega
          subst ek
          exact he HFIVE.out.symm
      have HNE := Lib.hid (show rr G t k < it G t k by omega)
      have t1 : (((rr G t k : Nat) : Int) == ((it G t k : Nat) : Int)) = false := by rw [beq_eq_false_iff_ne]; omega
      have t2 : ¬ (((rr G t k : Nat) : Int) = ((it G t k : Nat) : Int)) := by omega
      have HUPK := Lib.hid (HUP.out k hk)
      have HST := Lib.hid (show it G t (k + 1) = it G t k ||| (near G (it G t k) &&& t) from rfl)
      have hn16 := near_lt G HG.out _ hx16
      have hand := and_nat hn16 HT16.out
      have hor := or_nat hx16 (and_lt t hn16)
      have HNC := Lib.hid (HNB.out ((it G t k : Nat) : Int) wr HKP.out)
      rw [HNX.out k hk] at HNC
      have HRR := Lib.hid (show rr G t (k + 1) = it G t k from rfl)
      have HX16 := Lib.hid hx16
      have HX17 := Lib.hid (HLT16.out (k + 1) (by omega))
      have HK5 := Lib.hid hk5
      clear he hle hbw hx16 hn16 hk5 hk
      generalize rr G t k = r at *
      generalize it G t k = x at *
      generalize near G x = y at *
      go_wp2_with fail
      refine HNC.out.mono ?_
      rintro e w2 ⟨rfl, hb2⟩
      have HB2 := Lib.hid (below_then HBW.out hb2)
      clear hb2
      go_wp2_with fail
      go_roundw
      case rel => exact ⟨k + 1, HK5.out, by rw [HRR.out], by rw [HST.out], HB2.out⟩
      case measure =>
        have h1 := HNE.out
        have h2 := HUPK.out
        have h3 := HX16.out
        have h4 := HX17.out
        have h5 := HST.out
        simp [intOf]
        omega
set_option maxRecDepth 100000 in
set_option maxHeartbeats 1600000 in
theorem impl_cm (n : Int) (u : Value) (l : List A2) (S : Nat → Prop) (w : World) (hr : atomsC.rd w S [u] l) :
    Calls Try.prog 55 #[.agg #[.int .i64 n, u]] w fun e w' => ∃ v' fp, e = .returned v' ∧ rowC.ow w' w.heap.size [v'] (cmL n l) fp ∧ fp.Nodup ∧ Below w.heap.size w w' := by
  have HFM := Lib.hid (fun w' (hb : Below w.heap.size w w') => impl_full n u l S w' (Cd.later hr hb))
  have HJ := Lib.hid (fun (k : Nat) (hk : k ≤ fm n l) w' (hb : Below w.heap.size w w') => (show Calls _ _ _ _ _ from by have := impl_conn n (k : Int) u l S w' (Cd.later hr hb); rw [cOk_le hk] at this; exact this))
  have HF16 := Lib.hid (fm_lt n l)
  obtain ⟨a, cap, rfl, hlm⟩ := Cd.sl_form hr
  have HZ := Lib.hid (show cmL n l = fil (conn (gr l)) (fm n l + 1) from rfl)
  clear hr
  have HC := Lib.hid (Loc2.of (row_alloc w (.cells #[.int .i64 n, .slice a l.length cap] 60)))
  have HB := Lib.hid (below_alloc w (.cells #[.int .i64 n, .slice a l.length cap] 60))
  generalize cmL n l = R at *
  generalize fm n l = F at *
  generalize gr l = G at *
  go_enter Try.func55, Try.ntmps55
  go_wp2_with fail
  generalize w.alloc _ = W at *
  refine (HFM.out _ HB.out).mono ?_
  rintro e w1 ⟨rfl, hb1⟩
  have HB1 := Lib.hid (below_then HB.out hb1)
  have HC1 := Lib.hid (HC.out.later hb1)
  have q1 : (F : Int) < 16 := by have := HF16.out; omega
  clear hb1
  go_wp2_with fail
  go_loopw [3, 8] (fun o i wr => ∃ (k : Nat), k ≤ F + 1 ∧ i = .int .i64 k ∧ OwnI wr w1.heap.size 3 o (fil (conn G) k) ∧ Below w1.heap.size w1 wr) (fun _ i _ => F + 1 - (intOf i).toNat)
  case atStart => exact ⟨0, Nat.zero_le _, rfl, OwnI.nil _ _ _, Below.refl _ _⟩
  case round =>
    obtain ⟨k, hk, rfl, hown, hb⟩ := hrel
    have HLQ := Lib.hid (HC1.out.later hb)
    have c0 := HLQ.out.c0
    have c1 := HLQ.out.c1
    have HBK := Lib.hid hb
    by_cases hlt : k ≤ F
    · have p1 : (0 : Int) ≤ (k : Int) := by omega
      have p2 : (k : Int) < (F : Int) + 1 := by omega
      have HJ1 := Lib.hid (HJ.out k hlt wr (below_then HB1.out hb))
      have HLT := Lib.hid hlt
      have hlen : (fil (conn G) k).length + 1 ≤ 1000000000000 := by have := fil_len (conn G) k; have := HF16.out; omega
      have HOW := Lib.hid hown
      clear hb hown hk hlt
      cases hx : conn G k
      · have HNX := Lib.hid (fil_no hx)
        rw [hx] at HJ1
        clear hx
        go_wp2_with fail
        refine HJ1.out.mono ?_
        rintro e w4 ⟨rfl, hb4⟩
        have HB4 := Lib.hid (below_then HBK.out hb4)
        have HO4 := Lib.hid (HOW.out.later hb4)
        clear hb4
        go_wp2_with fail
        go_roundw
        case rel => exact ⟨k + 1, by have := HLT.out; omega, by go_num, by rw [HNX.out]; exact HO4.out, HB4.out⟩
        case measure => have := HLT.out; simp [intOf]; omega
      · have HNX := Lib.hid (fil_yes hx)
        rw [hx] at HJ1
        clear hx
        generalize fil (conn G) k = out at *
        go_wp2_with fail
        refine HJ1.out.mono ?_
        rintro e w4 ⟨rfl, hb4⟩
        have HB4 := Lib.hid (below_then HBK.out hb4)
        have hown4 := HOW.out.later hb4
        have hbs := HB4.out.size
        clear hb4
        go_wp2_with (first | (at_builtin; refine wp_appendI rfl (.tmp 14) (.tmp 16) 24 rfl w1.heap.size 3 Try.underlying24 info_i64 _ _ rfl hown4 _ rfl hlen hbs ?_))
        intro v' w5 hown5 hb5
        go_wp2_with fail
        go_roundw
        case rel => exact ⟨k + 1, by have := HLT.out; omega, by go_num, by rw [HNX.out]; exact hown5, HB4.out.trans hb5⟩
        case measure => have := HLT.out; simp [intOf]; omega
    · have ek : k = F + 1 := by omega
      subst ek
      rw [← HZ.out] at hown
      obtain ⟨fp, q1, q2⟩ := ow_back (w0 := w) hown (by rw [HZ.out]; exact inr_fil _ _ (by have := HF16.out; omega)) HB1.out.size
      have HO := Lib.hid (And.intro q1 q2)
      clear hown hb q1 q2 hk hlt
      go_wp2_with fail
      go_ret
      first | exact ⟨_, fp, rfl, HO.out.1, HO.out.2, below_then HB1.out HBK.out⟩ | exact ⟨_, rfl, fp, HO.out.1, HO.out.2, below_then HB1.out HBK.out⟩
set_option maxRecDepth 100000 in
set_option maxHeartbeats 1600000 in
theorem impl_js (n m : Int) (u : Value) (l : List A2) (S : Nat → Prop) (w : World) (hr : atomsC.rd w S [u] l) :
    Calls Try.prog 46 #[.agg #[.int .i64 n, u], .int .i64 m] w fun e w' => ∃ v' fp, e = .returned v' ∧ rowC.ow w' w.heap.size [v'] (jsL n l m) fp ∧ fp.Nodup ∧ Below w.heap.size w w' := by
  have HCN := Lib.hid (fun w' (hb : Below w.heap.size w w') => impl_conn n m u l S w' (Cd.later hr hb))
  have HJ := Lib.hid (fun (k : Nat) (hk : k ≤ fm n l) w' (hb : Below w.heap.size w w') => (show Calls _ _ _ _ _ from by have := impl_conn n (k : Int) u l S w' (Cd.later hr hb); rw [cOk_le hk] at this; exact this))
  obtain ⟨a, cap, rfl, hlm⟩ := Cd.sl_form hr
  clear hr
  have HC := Lib.hid (Loc2.of (row_alloc w (.cells #[.int .i64 n, .slice a l.length cap] 60)))
  have HB := Lib.hid (below_alloc w (.cells #[.int .i64 n, .slice a l.length cap] 60))
  cases hq : cOk n l m
  · have HZ := Lib.hid (jsL_no hq)
    rw [hq] at HCN
    clear hq HJ
    go_enter Try.func46, Try.ntmps46
    go_wp2_with fail
    generalize w.alloc _ = W at *
    refine (HCN.out _ HB.out).mono ?_
    rintro e w3 ⟨rfl, hb3⟩
    have HB3 := Lib.hid (below_then HB.out hb3)
    have HE := Lib.hid (show rowC.ow w3 w.heap.size [.slice none 0 0] [] [] from Cd.ow_nil _ _)
    clear hb3
    go_wp2_with fail
    go_ret
    exact ⟨_, _, rfl, by rw [HZ.out]; exact HE.out, by simp, HB3.out⟩
  rw [hq] at HCN
  obtain ⟨t, rfl, htf, _, h1, hcn⟩ := cOk_fm hq
  have HF16 := Lib.hid (show t < 16 by have := fm_lt n l; omega)
  have HTF := Lib.hid htf
  have HZ := Lib.hid (jsL_yes hq)
  clear hq htf hcn h1
  generalize jsL n l (t : Int) = R at *
  generalize fm n l = F at *
  generalize gr l = G at *
  go_enter Try.func46, Try.ntmps46
  go_wp2_with fail
  generalize w.alloc _ = W at *
  refine (HCN.out _ HB.out).mono ?_
  rintro e w1 ⟨rfl, hb3⟩
  have HB1 := Lib.hid (below_then HB.out hb3)
  have HC1 := Lib.hid (HC.out.later hb3)
  clear hb3
  go_wp2_with fail
  go_loopw [5, 12] (fun o i wr => ∃ (k : Nat), k ≤ t ∧ i = .int .i64 k ∧ OwnI wr w1.heap.size 3 o (fil (isSplit G t) k) ∧ Below w1.heap.size w1 wr) (fun _ i _ => t - (intOf i).toNat)
  case atStart => exact ⟨0, Nat.zero_le _, rfl, OwnI.nil _ _ _, Below.refl _ _⟩
  case round =>
    obtain ⟨k, hk, rfl, hown, hb⟩ := hrel
    have HLQ := Lib.hid (HC1.out.later hb)
    have c0 := HLQ.out.c0
    have c1 := HLQ.out.c1
    have HBK := Lib.hid hb
    by_cases hlt : k < t
    · have p1 : (0 : Int) ≤ (k : Int) := by omega
      have p2 : (k : Int) < (t : Int) := by omega
      have p3 : (t : Int) < 16 := by have := HF16.out; omega
      have HKP := Lib.hid (below_then HB1.out hb)
      have HJ1 := Lib.hid (fun w' (hq : Below w.heap.size w w') => HJ.out k (by have := HTF.out; omega) w' hq)
      have HJ2 := Lib.hid (fun w' (hq : Below w.heap.size w w') => HJ.out (t - k) (by have := HTF.out; omega) w' hq)
      have hk16 : k < 16 := by have := HF16.out; omega
      have hand := not_bits k hk16 t HF16.out
      have hns := (not_sub k hk16 t HF16.out).1
      have hnd := not_bits t HF16.out k hk16
      have hnt := (not_sub t HF16.out k hk16).2
      have HLT := Lib.hid hlt
      have hlen : (fil (isSplit G t) k).length + 1 ≤ 1000000000000 := by have := fil_len (isSplit G t) k; omega
      have HOW := Lib.hid hown
      clear hb hown hk hlt hk16
      by_cases hs : k &&& t = k
      · rw [hns.2 hs] at hand
        rw [hnt hs] at hnd
        clear hns hnt
        cases hx : conn G k
        · have HNX := Lib.hid (fil_no (p := isSplit G t) (k := k) (by unfold isSplit; rw [hx, Bool.false_and, Bool.and_false]))
          rw [hx] at HJ1
          clear hx hs
          go_wp2_with fail
          refine (HJ1.out _ HKP.out).mono ?_
          rintro e w4 ⟨rfl, hb4⟩
          have HB4 := Lib.hid (below_then HBK.out hb4)
          have HO4 := Lib.hid (HOW.out.later hb4)
          clear hb4
          go_wp2_with fail
          go_roundw
          case rel => exact ⟨k + 1, by have := HLT.out; omega, by go_num, by rw [HNX.out]; exact HO4.out, HB4.out⟩
          case measure => have := HLT.out; simp [intOf]; omega
        · rw [hx] at HJ1
          cases hy : conn G (t - k)
          · have HNX := Lib.hid (fil_no (p := isSplit G t) (k := k) (by unfold isSplit; rw [hy, Bool.and_false, Bool.and_false]))
            rw [hy] at HJ2
            clear hx hy hs
            generalize t - k = d at *
            go_wp2_with fail
            refine (HJ1.out _ HKP.out).mono ?_
            rintro e w4 ⟨rfl, hb4⟩
            have HB4 := Lib.hid (below_then HBK.out hb4)
            have HO4 := Lib.hid (HOW.out.later hb4)
            have HL4 := Lib.hid (HLQ.out.later hb4)
            have c0 := HL4.out.c0
            have c1 := HL4.out.c1
            have HK4 := Lib.hid (below_then HKP.out hb4)
            clear hb4
            go_wp2_with fail
            refine (HJ2.out _ HK4.out).mono ?_
            rintro e w5 ⟨rfl, hb5⟩
            have HB5 := Lib.hid (below_then HB4.out hb5)
            have HO5 := Lib.hid (HO4.out.later hb5)
            clear hb5
            go_wp2_with fail
            go_roundw
            case rel => exact ⟨k + 1, by have := HLT.out; omega, by go_num, by rw [HNX.out]; exact HO5.out, HB5.out⟩
            case measure => have := HLT.out; simp [intOf]; omega
          · have HNX := Lib.hid (fil_yes (p := isSplit G t) (k := k) (by unfold isSplit; rw [hx, hy, hs]; simp))
            rw [hy] at HJ2
            clear hx hy hs
            generalize t - k = d at *
            generalize fil (isSplit G t) k = out at *
            go_wp2_with fail
            refine (HJ1.out _ HKP.out).mono ?_
            rintro e w4 ⟨rfl, hb4⟩
            have HB4 := Lib.hid (below_then HBK.out hb4)
            have HO4 := Lib.hid (HOW.out.later hb4)
            have HL4 := Lib.hid (HLQ.out.later hb4)
            have c0 := HL4.out.c0
            have c1 := HL4.out.c1
            have HK4 := Lib.hid (below_then HKP.out hb4)
            clear hb4
            go_wp2_with fail
            refine (HJ2.out _ HK4.out).mono ?_
            rintro e w5 ⟨rfl, hb5⟩
            have HB5 := Lib.hid (below_then HB4.out hb5)
            have hown5 := HO4.out.later hb5
            have hbs := HB5.out.size
            clear hb5
            go_wp2_with (first | (at_builtin; refine wp_appendI rfl (.tmp 31) (.tmp 33) 24 rfl w1.heap.size 3 Try.underlying24 info_i64 _ _ rfl hown5 _ rfl hlen hbs ?_))
            intro v' w6 hown6 hb6
            go_wp2_with fail
            go_roundw
            case rel => exact ⟨k + 1, by have := HLT.out; omega, by go_num, by rw [HNX.out]; exact hown6, HB5.out.trans hb6⟩
            case measure => have := HLT.out; simp [intOf]; omega
      · have HNX := Lib.hid (fil_no (p := isSplit G t) (k := k) (by unfold isSplit; rw [beq_eq_false_iff_ne.2 hs, Bool.false_and]))
        have hz1 : ¬ (k &&& (15 - t) = 0) := fun q => hs (hns.1 q)
        clear hs hns hnt hnd
        generalize k &&& (15 - t) = z at *
        have hz2 : (((z : Nat) : Int) == 0) = false := by rw [beq_eq_false_iff_ne]; omega
        have hz3 : ¬ (((z : Nat) : Int) = 0) := by omega
        clear hz1
        go_wp2_with fail
        go_roundw
        case rel => exact ⟨k + 1, by have := HLT.out; omega, by go_num, by rw [HNX.out]; exact HOW.out, HBK.out⟩
        case measure => have := HLT.out; simp [intOf]; omega
    · have ek : k = t := by omega
      subst ek
      rw [← HZ.out] at hown
      obtain ⟨fp, q1, q2⟩ := ow_back (w0 := w) hown (by rw [HZ.out]; exact inr_fil _ _ (by have := HF16.out; omega)) HB1.out.size
      have HO := Lib.hid (And.intro q1 q2)
      clear hown hb q1 q2 hk hlt
      go_wp2_with fail
      go_ret
      first | exact ⟨_, fp, rfl, HO.out.1, HO.out.2, below_then HB1.out HBK.out⟩ | exact ⟨_, rfl, fp, HO.out.1, HO.out.2, below_then HB1.out HBK.out⟩
end Go.Proofs.Ytklamhnecncenaa.QgImp

namespace Go.Proofs.Ytklamhnecncenaa.QryImp
open Go Go.RowKit Byt Ints IntsLaw Cd Rows2 Tab TabSpec Exact Atom QryMath QrySpec MkAtom SlMath

def shB (n : Int) (l : List A2) (a b : Int) : Nat := mB n l a &&& mB n l b
theorem shB_lt (n : Int) (l : List A2) (a b : Int) : shB n l a b < 16 := Nat.lt_of_le_of_lt Nat.and_le_left (mB_lt n l a)
theorem filter_succ {X Y : List Int} {k : Nat} (h : k < X.length) : (X.take (k + 1)).filter (fun x => hasI Y x) = (X.take k).filter (fun x => hasI Y x) ++ (if hasI Y X[k] then [X[k]] else []) := by
  rw [List.take_succ_eq_append_getElem h, List.filter_append]
  congr 1
  simp only [List.filter_cons, List.filter_nil]
set_option maxRecDepth 100000 in
set_option maxHeartbeats 1600000 in
theorem spec_shared (n a b : Int) (u : Value) (l : List A2) (S : Nat → Prop) (w : World) (hr : atomsC.rd w S [u] l) :
    Calls Try.prog 54 #[.agg #[.int .i64 n, u], .int .i64 a, .int .i64 b] w fun e w' => ∃ v' fp, e = .returned v' ∧ rowC.ow w' w.heap.size [v'] (varsL (shB n l a b)) fp ∧ fp.Nodup ∧ Below w.heap.size w w' := by
  have HA := Lib.hid (fun w' (hb : Below w.heap.size w w') => spec_maskvars n a u l S w' (Cd.later hr hb))
  have HBB := Lib.hid (fun w' (hb : Below w.heap.size w w') => spec_maskvars n b u l S w' (Cd.later hr hb))
  have HZ := Lib.hid (show (varsL (mB n l a)).filter (fun x => hasI (varsL (mB n l b)) x) = varsL (shB n l a b) from vars_shared _ (mB_lt n l a) _ (mB_lt n l b))
  have HIN := Lib.hid (show InR (varsL (shB n l a b)) from inr_varsTo _ 4 (by decide))
  have hX4 : (varsL (mB n l a)).length ≤ 4 := varsTo_len _ 4
  obtain ⟨q, cap, rfl, hlm⟩ := Cd.sl_form hr
  clear hr
  generalize varsL (shB n l a b) = R at *
  generalize varsL (mB n l a) = X at *
  generalize varsL (mB n l b) = Y at *
  go_enter Try.func54, Try.ntmps54
  go_wp2_with fail
  generalize hW : w.alloc _ = W
  obtain ⟨r0, hz, hb0⟩ := start1 w _ hW
  have hE := Ints.OwnI.empty W W.heap.size 3 (Nat.le_refl _)
  generalize hW2 : W.alloc _ = W2 at *
  obtain ⟨_, hz2, hb2⟩ := start1 W _ hW2
  have HE := Lib.hid (Cd.ow_of_own hE (fun x hx => by cases hx))
  have HB := Lib.hid (below_then hb0 hb2)
  have HC := Lib.hid ((Loc2.of r0).later hb2)
  have HZS := Lib.hid (And.intro hz hz2)
  clear hW hW2 r0 hb0 hb2 hE hz hz2
  refine (HA.out W2 HB.out).mono ?_
  rintro e w1 ⟨x', fx, rfl, hox, hnx, hb1⟩
  have HOX := Lib.hid hox
  have HE1 := Lib.hid (Cd.ow_later HE.out hb1)
  have HB1 := Lib.hid (below_then HB.out hb1)
  have HC1 := Lib.hid (HC.out.later hb1)
  have HZ1 := Lib.hid hb1.size
  have c0 := HC1.out.c0
  have c1 := HC1.out.c1
  clear hox hnx hb1
  go_wp2_with fail
  clear c0 c1
  refine (HBB.out w1 HB1.out).mono ?_
  rintro e w2 ⟨y', fy, rfl, hoy, hny, hb2⟩
  have HB2 := Lib.hid (below_then HB1.out hb2)
  have HXR := Lib.hid (row_ri (rowC.ow_rd (Cd.ow_later HOX.out hb2))).1
  have HYR := Lib.hid (row_ri (rowC.ow_rd hoy)).1
  have hE2 := Cd.ow_later HE1.out hb2
  obtain ⟨ax, cx, rfl, _⟩ := HXR.out
  obtain ⟨ay, cy, rfl, _⟩ := HYR.out
  have HX2 := Lib.hid (rowC.ow_rd (Cd.ow_later HOX.out hb2))
  have HY2 := Lib.hid (rowC.ow_rd hoy)
  have HFX := Lib.hid (fun b (h : b ∈ fx) => rowC.ow_lt (Cd.ow_later HOX.out hb2) b h)
  have HFY := Lib.hid (fun b (h : b ∈ fy) => rowC.ow_lt hoy b h)
  have hz3 : W.heap.size < w2.heap.size := by have := HZS.out.2; have := HZ1.out; have := hb2.size; omega
  have hz4 : w.heap.size ≤ W.heap.size := by have := HZS.out.1; omega
  have HZ3 := Lib.hid (And.intro hz3 hz4)
  have HE3 := Lib.hid hE2
  have HFW := Lib.hid (show W2.heap.size ≤ w1.heap.size ∧ W.heap.size < W2.heap.size from ⟨HZ1.out, by have := HZS.out.2; omega⟩)
  clear hoy hny hb2 hE2 hz3 hz4
  go_wp2_with fail
  go_loopw [7, 10] (fun o i wr => ∃ (k : Nat) (fp : List Nat), k ≤ X.length ∧ i = .int .i64 k ∧ rowC.ow wr W.heap.size [o] ((X.take k).filter (fun x => hasI Y x)) fp ∧ fp.Nodup ∧ Hid (∀ c ∈ fp, c = W.heap.size ∨ w2.heap.size ≤ c) ∧ Hid (∀ c, c < w2.heap.size → c ≠ W.heap.size → wr.heap[c]? = w2.heap[c]?) ∧ Below w.heap.size w wr ∧ w2.heap.size ≤ wr.heap.size) (fun _ i _ => X.length - (intOf i).toNat)
  case atStart => exact ⟨0, _, Nat.zero_le _, rfl, by rw [← HZS.out.1]; exact HE3.out, Cd.own_nodup, Lib.hid (fun c hc => by left; simpa [Value.ownBlock] using hc), Lib.hid (fun c _ _ => rfl), HB2.out, Nat.le_refl _⟩
  case round =>
    obtain ⟨k, fp, hk, rfl, how, hnd, hfp, hsame, hb, hsz⟩ := hrel
    have hrx := rowC.keep (w' := wr) HX2.out (fun b hS hlt => hsame.out b hlt (by have := (HFX.out b hS).1; have := HFW.out; omega))
    have hry := rowC.keep (w' := wr) HY2.out (fun b hS hlt => hsame.out b hlt (by have := (HFY.out b hS).1; have := HFW.out; omega))
    have HOW := Lib.hid how
    have HND := Lib.hid hnd
    have HB := Lib.hid hb
    have HSZ := Lib.hid hsz
    obtain ⟨ao, co, rfl⟩ := Cd.ow_slice how
    by_cases hlt : k < X.length
    · obtain ⟨b1, off, cap', e1, hbB, hc⟩ := ri_at (row_ri hrx).1 hlt
      injection e1 with e1 e2 e3
      subst e1 e3
      have HXI := Lib.hid ((row_ri hrx).2 _ (List.getElem_mem hlt))
      have HH := Lib.hid (spec_has _ Y X[k] _ wr (row_ri hry).1)
      have p1 : (0 : Int) ≤ (k : Int) := by omega
      have p2 : (k : Int) < (X.length : Int) := by omega
      have hfs := filter_succ (Y := Y) hlt
      have hfl := List.length_filter_le (fun x => hasI Y x) (X.take k)
      rw [List.length_take] at hfl
      clear how hnd hb hrx hry hsz
      cases hh : hasI Y X[k]
      · rw [hh] at HH hfs
        have HNX := Lib.hid hfs
        clear hh hfs hfl
        generalize X[k] = z at *
        go_wp2_with (go_at_call 100; refine HH.out.mono ?_; rintro e w3 ⟨rfl, rfl⟩)
        go_roundw
        case rel => exact ⟨k + 1, fp, by omega, by go_num, by rw [HNX.out]; simpa using HOW.out, HND.out, hfp, hsame, HB.out, HSZ.out⟩
        case measure => simp [intOf]; omega
      · rw [hh] at HH hfs
        have HNX := Lib.hid hfs
        have HFL := Lib.hid hfl
        clear hh hfs hfl
        generalize X[k] = z at *
        generalize (X.take k).filter (fun x => hasI Y x) = out at *
        have HA := Lib.hid (And.intro (Cd.ow_later HOW.out (below_alloc wr (.cells #[.int .i64 z] 3))) (show (wr.alloc (.cells #[.int .i64 z] 3)).cell? ⟨wr.heap.size, 0, none⟩ = some (.int .i64 z) by simp))
        have HA3 := Lib.hid (show Cd.int.ow (wr.alloc (.cells #[.int .i64 z] 3)) W.heap.size [.int .i64 z] z [] from ⟨rfl, HXI.out, rfl⟩)
        have HAB := Lib.hid (show W.heap.size ≤ (wr.alloc (.cells #[.int .i64 z] 3)).heap.size by rw [size_alloc]; have := HZ3.out.1; have := HSZ.out; omega)
        go_wp2_with (first | (go_at_call 100; refine HH.out.mono ?_; rintro e w3 ⟨rfl, rfl⟩) | (at_builtin; refine Cd.wpList_appendE (c := Cd.int) rfl rfl (.tmp 30) (.tmp 35) 24 rfl W.heap.size 3 (.int .i64 0) 8 Try.underlying24 info_i64 rfl (by decide) _ _ _ rfl HA.out.1 HND.out _ _ rfl HA.out.2 _ _ HA3.out (by simp) (by simp) (by have := HFL.out; omega) HAB.out ?_))
        intro g capn w3 fp3 ho3 hn3 hs3 ht3
        have HO3 := Lib.hid (show rowC.ow w3 W.heap.size _ _ _ from ho3)
        have HB3 := Lib.hid (Cd.Touch.below (below_then HB.out (below_alloc wr (.cells #[.int .i64 z] 3))) ht3 (fun b hb => by have h1 := (rowC.ow_lt HOW.out b hb).1; have h2 := HZ3.out.2; omega))
        have HS3 := Lib.hid (show ∀ c ∈ fp3, c = W.heap.size ∨ w2.heap.size ≤ c from fun c hc => by
          have h := hs3 c hc
          have h2 : wr.heap.size ≤ (wr.alloc (.cells #[.int .i64 z] 3)).heap.size := (below_alloc _ _).size
          rcases h with q | q
          · exact hfp.out c q
          · exact .inr (by have := HSZ.out; omega))
        have HM3 := Lib.hid (show ∀ c, c < w2.heap.size → c ≠ W.heap.size → w3.heap[c]? = w2.heap[c]? from fun c h1 h2 => by
          rw [ht3.block c (by rw [size_alloc]; have := HSZ.out; omega) (fun q => by rcases hfp.out c q with r | r <;> omega), (below_alloc wr _).block c (by have := HSZ.out; omega)]
          exact hsame.out c h1 h2)
        have HZ4 := Lib.hid (show w2.heap.size ≤ w3.heap.size by have := ht3.size; rw [size_alloc] at this; have := HSZ.out; omega)
        clear ho3 ht3 hs3
        go_wp2_with fail
        go_roundw
        case rel => exact ⟨k + 1, fp3, by omega, by go_num, by rw [HNX.out]; exact HO3.out, hn3, HS3, HM3, HB3.out, HZ4.out⟩
        case measure => simp [intOf]; omega
    · have ek : k = X.length := by omega
      subst ek
      rw [List.take_length, HZ.out] at how ⊢
      have HO := Lib.hid (rowC.ow_base how HZ3.out.2)
      clear how hb hrx hry hnd hsz
      go_wp2_with fail
      go_ret
      exact ⟨_, fp, rfl, HO.out, HND.out, HB.out⟩
end Go.Proofs.Ytklamhnecncenaa.QryImp

namespace Go.Proofs.Ytklamhnecncenaa.QgFact
open Go Go.RowKit Byt Ints IntsLaw Cd Rows2 Tab TabSpec Exact Atom QryMath QrySpec QryImp MkAtom SlMath QgMath QgSpec QgImp QgTree

theorem split_sym : ∀ G < 64, ∀ m < 16, ∀ p < m, isSplit G m p = true → isSplit G m (m - p) = true := by decide +kernel
theorem split_edge : ∀ G < 64, ∀ m < 16, conn G m = true → ∀ p < m, isSplit G m p = true → ((List.range 4).any fun i => nx G p i && ((m - p) / 2 ^ i % 2 == 1)) = true := by decide +kernel
theorem near_conn : ∀ G < 64, ∀ m < 16, conn G m = true → ∀ i < 4, near G m / 2 ^ i % 2 = 1 → (conn G (m ||| 2 ^ i) && nx G m i) = true := by decide +kernel
theorem vars_some : ∀ s < 16, s ≠ 0 → (varsL s).length ≠ 0 := by decide
theorem vars_bit : ∀ s < 16, ∀ x ∈ varsL s, 0 ≤ x ∧ x < 4 ∧ s / 2 ^ x.toNat % 2 = 1 := by decide
theorem keep_or {x a : Nat} (b : Nat) (h : x &&& a = x) : x &&& (a ||| b) = x := by
  refine Nat.eq_of_testBit_eq fun j => ?_
  have h2 := congrArg (fun y => y.testBit j) h
  simp only [Nat.testBit_and, Nat.testBit_or] at h2 ⊢
  generalize x.testBit j = X at *
  generalize a.testBit j = A at *
  generalize b.testBit j = C at *
  revert h2
  cases X <;> cases A <;> cases C <;> decide
theorem keep_or2 {x b : Nat} (a : Nat) (h : x &&& b = x) : x &&& (a ||| b) = x := by rw [Nat.or_comm]; exact keep_or a h
theorem sel_sub {l : List A2} {q i : Nat} (h : q / 2 ^ i % 2 = 1) : ∀ k, i < k → V l i &&& bs (selV l q k) = V l i
  | 0, hi => absurd hi (by omega)
  | k + 1, hi => by
    rw [bs_sel_succ]
    by_cases e : i = k
    · subst e
      rw [if_pos h]
      exact keep_or2 _ (Nat.and_self _)
    · exact keep_or _ (sel_sub h k (by omega))
theorem V_some {l : List A2} {i x : Nat} (h : (V l i &&& x != 0) = true) : i < l.length := by
  rcases Nat.lt_or_ge i l.length with q | q
  · exact q
  · rw [V_out q, Nat.zero_and] at h
    cases h
theorem edge_vars {n : Int} {l : List A2} {p q i : Nat} (h4 : l.length ≤ 4) (hi : i < 4) (hn : nx (gr l) p i = true) (hb : q / 2 ^ i % 2 = 1) (hp : mOk n l (p : Int) = true) (hq : mOk n l (q : Int) = true) : shB n l (p : Int) (q : Int) ≠ 0 := by
  unfold nx at hn
  rw [Bool.and_eq_true, beq_iff_eq] at hn
  obtain ⟨h0, h1⟩ := hn
  have h2 := sel_and h4 hi h0
  rw [h1] at h2
  have hlt := V_some h2
  have h3 := sel_sub (l := l) hb l.length hlt
  have e1 : mB n l (p : Int) = bs (selV l p l.length) := mB_yes hp
  have e2 : mB n l (q : Int) = bs (selV l q l.length) := mB_yes hq
  unfold shB
  rw [e1, e2]
  intro h5
  have h6 : V l i &&& bs (selV l p l.length) = 0 := by
    rw [← h3, Nat.and_assoc, Nat.and_comm (bs (selV l q l.length)), h5, Nat.and_zero]
  rw [h6] at h2
  cases h2
theorem js_mem {n : Int} {l : List A2} {m x : Int} (h : x ∈ jsL n l m) : ∃ t p : Nat, m = (t : Int) ∧ x = (p : Int) ∧ p < t ∧ t < 16 ∧ hasI (jsL n l m) ((t : Int) - (p : Int)) = true ∧ cOk n l (p : Int) = true ∧ (varsL (shB n l (p : Int) ((t : Int) - (p : Int)))).length ≠ 0 := by
  cases hc : cOk n l m
  · rw [jsL_no hc] at h; cases h
  obtain ⟨t, rfl, htf, _, ht1, hcn⟩ := cOk_fm hc
  have ht16 : t < 16 := by have := fm_lt n l; omega
  have hq := (mOk_iff.1 (cOk_iff.1 hc).1).1
  have h4 := (qOk_iff.1 hq).2.2.2.1
  rw [jsL_yes hc] at h ⊢
  obtain ⟨p, rfl, hpt, hp1, hcp, hcq, _⟩ := fil_mem h
  obtain ⟨p', hp', hsp, e⟩ := mem_fil.1 h
  have e2 : p = p' := by omega
  subst e2
  have hsy := split_sym _ (gr_lt l) t ht16 p hpt hsp
  obtain ⟨i, hi0, hnb⟩ := List.any_eq_true.1 (split_edge _ (gr_lt l) t ht16 hcn p hpt hsp)
  have hi := List.mem_range.1 hi0
  rw [Bool.and_eq_true, beq_iff_eq] at hnb
  obtain ⟨hn, hb⟩ := hnb
  have hcp2 := cOk_part hc (show p ≤ t by omega) hcp
  have hcq2 := cOk_part hc (show t - p ≤ t by omega) hcq
  have hne := edge_vars h4 hi hn hb (cOk_iff.1 hcp2).1 (cOk_iff.1 hcq2).1
  have e3 : ((t - p : Nat) : Int) = (t : Int) - (p : Int) := by omega
  rw [e3] at hne
  refine ⟨t, p, rfl, rfl, hpt, ht16, ?_, hcp2, vars_some _ (shB_lt _ _ _ _) hne⟩
  rw [← e3]
  unfold hasI
  rw [List.contains_iff_mem]
  exact mem_fil.2 ⟨t - p, by omega, hsy, rfl⟩
theorem cm_has (n : Int) (l : List A2) (m : Int) : hasI (cmL n l) m = cOk n l m := by
  unfold hasI
  rw [Bool.eq_iff_iff, List.contains_iff_mem]
  constructor
  · intro h
    obtain ⟨y, hy, hc, rfl⟩ := mem_fil.1 h
    rw [cOk_le (by omega)]
    exact hc
  · intro h
    obtain ⟨t, rfl, ht, _, _, hc⟩ := cOk_fm h
    exact mem_fil.2 ⟨t, by omega, hc, rfl⟩
theorem nb_lt (n : Int) (l : List A2) (m : Int) : nb n l m < 16 := by
  cases h : mOk n l m
  · rw [nb_no h]; decide
  · obtain ⟨t, rfl, ht, _⟩ := mOk_fm h
    rw [nb_yes h]
    exact near_lt _ (gr_lt l) _ (by have := fm_lt n l; rw [Int.toNat_natCast]; omega)
theorem ma_nb (n : Int) (l : List A2) (m : Int) : maL ((nb n l m : Nat) : Int) = varsL (nb n l m) := by
  have := nb_lt n l m
  unfold maL
  rw [if_pos (by omega), Int.toNat_natCast]
theorem near_mem {n : Int} {l : List A2} {m x : Int} (hc : cOk n l m = true) (h : x ∈ varsL (nb n l m)) : ∃ t v : Nat, m = (t : Int) ∧ x = (v : Int) ∧ v < 4 ∧ t < 16 ∧ cOk n l ((t ||| 2 ^ v : Nat) : Int) = true := by
  obtain ⟨t, rfl, htf, htl, ht1, hcn⟩ := cOk_fm hc
  have ht16 : t < 16 := by have := fm_lt n l; omega
  have hm := (cOk_iff.1 hc).1
  have hq := (mOk_iff.1 hm).1
  have h4 := (qOk_iff.1 hq).2.2.2.1
  obtain ⟨h0, h1, h2⟩ := vars_bit _ (nb_lt n l t) x h
  obtain ⟨v, rfl⟩ : ∃ v : Nat, x = (v : Int) := ⟨x.toNat, by omega⟩
  rw [Int.toNat_natCast, nb_yes hm, Int.toNat_natCast] at h2
  obtain ⟨h5, h6⟩ := Bool.and_eq_true_iff.1 (near_conn _ (gr_lt l) t ht16 hcn v (by omega) h2)
  unfold nx at h6
  rw [Bool.and_eq_true, beq_iff_eq] at h6
  have h7 := sel_and h4 (show v < 4 by omega) h6.1
  rw [h6.2] at h7
  have hlt := V_some h7
  have h8 : t ||| 2 ^ v < 2 ^ l.length := Nat.or_lt_two_pow htl (Nat.pow_lt_pow_right (by decide) hlt)
  refine ⟨t, v, rfl, rfl, by omega, ht16, ?_⟩
  rw [cOk_le (by rw [fm_yes hq]; omega)]
  exact h5
theorem js_some {n : Int} {l : List A2} {t : Nat} (hc : cOk n l (t : Int) = true) (hs : ¬ (t &&& (t - 1) = 0)) : (jsL n l (t : Int)).length ≠ 0 := by
  obtain ⟨t', e, htf, _, _, hcn⟩ := cOk_fm hc
  have e2 : t = t' := by omega
  subst e2
  have ht16 : t < 16 := by have := fm_lt n l; omega
  have h := split_some _ (gr_lt l) t ht16 hcn hs
  rw [jsL_yes hc, fil_splits, List.length_map]
  exact fun q => h (List.eq_nil_of_length_eq_zero q)
/-- .. the same, of the mask as a number of Go. -/
theorem js_mem2 {n : Int} {l : List A2} {m x : Int} (h : x ∈ jsL n l m) : ∃ p : Nat, x = (p : Int) ∧ (p : Int) < m ∧ m < 16 ∧ hasI (jsL n l m) (m - (p : Int)) = true ∧ cOk n l (p : Int) = true ∧ (varsL (shB n l (p : Int) (m - (p : Int)))).length ≠ 0 := by
  obtain ⟨t, p, rfl, rfl, h1, h2, h3, h4, h5⟩ := js_mem h
  exact ⟨p, rfl, by omega, by omega, h3, h4, h5⟩
theorem near_mem2 {n : Int} {l : List A2} {m x : Int} (hc : cOk n l m = true) (h : x ∈ varsL (nb n l m)) : ∃ v z : Nat, x = (v : Int) ∧ v < 4 ∧ bits .or .i64 m (2 ^ v) = (z : Int) ∧ cOk n l (z : Int) = true := by
  obtain ⟨t, v, rfl, rfl, h1, h2, h3⟩ := near_mem hc h
  exact ⟨v, _, rfl, h1, or_pow h2 h1, h3⟩
theorem js_some2 {n : Int} {l : List A2} {m : Int} (hc : cOk n l m = true) : ∃ t : Nat, m = (t : Int) ∧ 1 ≤ t ∧ t < 16 ∧ (¬ (t &&& (t - 1) = 0) → (jsL n l m).length ≠ 0) := by
  obtain ⟨t, rfl, h1, _, h2, _⟩ := cOk_fm hc
  have := fm_lt n l
  exact ⟨t, rfl, h2, by omega, fun h => js_some hc h⟩
end Go.Proofs.Ytklamhnecncenaa.QgFact
