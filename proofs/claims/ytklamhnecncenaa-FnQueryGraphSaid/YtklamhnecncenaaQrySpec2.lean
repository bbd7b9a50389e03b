/- Queries: is a query valid: the model's function. -/
import Derived.Test.YtklamhnecncenaaQryImp3
namespace Go.Proofs.Ytklamhnecncenaa.QryImp
open Go Go.RowKit Byt Ints IntsLaw Cd Rows2 Tab TabSpec Exact Atom QryMath QrySpec MkAtom SlMath

theorem ri_take {w : World} {a : Option Addr} {n c : Nat} {l : List Int} {B j : Nat} (h : RI w (.slice a n c) l B) (hj : j ≤ l.length) : RI w (.slice a j c) (l.take j) B := by
  obtain ⟨a', cap, e, hl, hc⟩ := h
  injection e with e1 e2 e3
  subst e1 e3
  have hjl : (l.take j).length = j := by rw [List.length_take]; omega
  refine ⟨a, c, by rw [hjl], by omega, ?_⟩
  rcases hc with h0 | ⟨b, off, e1, hb, hcell⟩
  · left
    rw [h0]
    simp
  · right
    exact ⟨b, off, e1, hb, fun t ht => by rw [List.getElem_take]; exact hcell t (by omega)⟩
theorem ri_drewN {w : World} {v : Value} {l : List Int} {B : Nat} (h : RI w v l B) (q : Nat) : RI (w.drewN q) v l B := h
theorem loc2_drewN {w : World} {X m : Nat} {a b : Value} (h : Loc2 w X a b) : Loc2 (w.drewN m) X a b := ⟨h.c0, h.c1, h.f0, h.f1⟩
/-- The k-th atom, by its cells, with room. -/
theorem atom_at2 {w : World} {S : Nat → Prop} {v : Value} {l : List A2} (h : atomsC.rd w S [v] l) {k : Nat} (hk : k < l.length) :
    ∃ b off cap au cu, v = .slice (some ⟨b, off, none⟩) l.length cap ∧ b < w.heap.size ∧ w.cell? ⟨b, off + k * 2, none⟩ = some (.string l[k].1) ∧ w.cell? ⟨b, off + k * 2 + 1, none⟩ = some (.slice au l[k].2.length cu) ∧ l[k].1.size ≤ maxLen ∧ rowC.rd w S [.slice au l[k].2.length cu] l[k].2 ∧ l[k].2.length ≤ cu := by
  obtain ⟨b, off, cap, us, e1, _, hb, hat, hu⟩ := Cd.sl_at h hk
  have hu0 := hu
  obtain ⟨u, rfl, h1, h3⟩ := atom_cells hu
  obtain ⟨au, cu, rfl, _⟩ := row_form h3
  have c0 := hat 0 (by simp)
  have c1 := hat 1 (by simp)
  simp only [List.getElem_cons_zero, List.getElem_cons_succ, Nat.add_zero, show atomC.n = 2 from rfl] at c0 c1
  exact ⟨b, off, cap, au, cu, e1, hb, c0, c1, h1, h3, atom_room hu0⟩
theorem nodup_take {vs : List Int} {j : Nat} (h : j < vs.length) (hn : (vs.take j).Nodup) (hx : hasI (vs.take j) vs[j] = false) : (vs.take (j + 1)).Nodup := by
  rw [List.take_succ_eq_append_getElem h, List.nodup_append]
  refine ⟨hn, by simp, fun a ha b hb e => ?_⟩
  rw [List.mem_singleton.1 hb] at e
  subst e
  unfold hasI at hx
  rw [← Bool.not_eq_true, List.contains_iff_mem] at hx
  exact hx ha
theorem nodup_bad {vs : List Int} {j : Nat} (h : j < vs.length) (hx : hasI (vs.take j) vs[j] = true) : ¬ vs.Nodup := by
  unfold hasI at hx
  rw [List.contains_iff_mem] at hx
  intro q
  have q2 : (vs.take (j + 1)).Nodup := q.sublist (List.take_sublist _ _)
  rw [List.take_succ_eq_append_getElem h, List.nodup_append] at q2
  exact q2.2.2 _ hx _ (List.mem_singleton.2 rfl) rfl

set_option maxRecDepth 100000 in
set_option maxHeartbeats 3200000 in
theorem spec_valid (n : Int) (u : Value) (l : List A2) (S : Nat → Prop) (w : World) (hr : atomsC.rd w S [u] l) :
    Calls Try.prog 98 #[.agg #[.int .i64 n, u]] w fun e w' => e = .returned (.bool (qOk n l)) ∧ Below w.heap.size w w' := by
  have HR := Lib.hid (fun w' (hb : Below w.heap.size w w') => Cd.later hr hb)
  obtain ⟨a, cap, rfl, hlm⟩ := Cd.sl_form hr
  clear hr
  by_cases hn : 1 ≤ n ∧ n ≤ 4
  case neg =>
    have HI := Lib.hid (fun w => Fixed.l1In_no hn w)
    have HZ := Lib.hid (show qOk n l = false from decide_eq_false fun q => hn ⟨q.1, q.2.1⟩)
    clear hn
    go_enter Try.func98, Try.ntmps98
    go_wp2_with (go_at_call 69; refine (HI.out _).mono ?_; rintro e w1 ⟨rfl, rfl⟩)
    go_ret
    exact ⟨ret_b HZ.out.symm, below_alloc _ _⟩
  have HN := Lib.hid hn
  have HI := Lib.hid (fun w => Fixed.l1In_yes hn.1 hn.2 w)
  by_cases hl : 1 ≤ (l.length : Int) ∧ (l.length : Int) ≤ 4
  case neg =>
    have HI2 := Lib.hid (fun w => Fixed.l1In_no hl w)
    have HZ := Lib.hid (show qOk n l = false from decide_eq_false fun q => hl ⟨by have := q.2.2.1; omega, by have := q.2.2.2.1; omega⟩)
    clear hn hl
    go_enter Try.func98, Try.ntmps98
    go_wp2_with (first | (go_at_call_of 69 (Value.int IntKind.i64 n); refine (HI.out _).mono ?_; rintro e w1 ⟨rfl, rfl⟩) | (go_at_call 69; refine (HI2.out _).mono ?_; rintro e w1 ⟨rfl, rfl⟩))
    go_ret
    exact ⟨ret_b HZ.out.symm, below_alloc _ _⟩
  have HI2 := Lib.hid (fun w => Fixed.l1In_yes hl.1 hl.2 w)
  have HLL := Lib.hid (show 1 ≤ l.length ∧ l.length ≤ 4 by omega)
  clear hn hl
  go_enter Try.func98, Try.ntmps98
  go_wp2_with (first | (go_at_call_of 69 (Value.int IntKind.i64 n); refine (HI.out _).mono ?_; rintro e w1 ⟨rfl, rfl⟩) | (go_at_call 69; refine (HI2.out _).mono ?_; rintro e w1 ⟨rfl, rfl⟩))
  generalize hW : w.alloc _ = W
  obtain ⟨r0, _, hb0⟩ := start1 w _ hW
  have HC := Lib.hid (Loc2.of r0)
  have HB := Lib.hid hb0
  clear hW r0 hb0 HI HI2
  go_loopw [3, 4] (fun s i wr => ∃ k : Nat, k ≤ l.length ∧ i = .int .i64 k ∧ s = .int .i64 (bs (allV (l.take k)) : Int) ∧ Hid (∀ A ∈ l.take k, AtP n A) ∧ Below W.heap.size W wr) (fun _ i _ => l.length - (intOf i).toNat)
  case atStart => exact ⟨0, Nat.zero_le _, rfl, rfl, Lib.hid (fun x hx => by simp at hx), Below.refl _ _⟩
  case round =>
    obtain ⟨k, hk, rfl, rfl, hal, hbw⟩ := hrel
    have HBW := Lib.hid hbw
    have g0 := (HC.out.later hbw).c0
    have g1 := (HC.out.later hbw).c1
    have gl := (HC.out.later hbw).lt
    have HIN := Lib.hid (show ∀ A ∈ l.take k, In4 A.2 from fun A hA x hx => by have h1 := (hal.out A hA).2.2.2.1 x hx; have h2 := HN.out; omega)
    by_cases hlt : k < l.length
    · obtain ⟨b, off, cap', au, cu, e1, hbB, c0, c1, hs1, hu, hroom⟩ := atom_at2 (HR.out wr (below_then HB.out hbw)) hlt
      injection e1 with e1 e2 e3
      subst e1 e3
      have p1 : (0 : Int) ≤ (k : Int) := by omega
      have p2 : (k : Int) < (l.length : Int) := by omega
      have HLT := Lib.hid hlt
      have HNO := Lib.hid (show ¬ AtP n l[k] → qOk n l = false from fun h => decide_eq_false fun q => h (q.2.2.2.2.1 _ (List.getElem_mem hlt)))
      have HAT := Lib.hid (show AtP n l[k] → ∀ A ∈ l.take (k + 1), AtP n A from fun h A hA => by
        rw [List.take_succ_eq_append_getElem hlt] at hA
        rcases List.mem_append.1 hA with q | q
        · exact hal.out A q
        · rw [List.mem_singleton.1 q]; exact h)
      have HNX := Lib.hid (show bs (allV (l.take (k + 1))) = bs (allV (l.take k) ++ l[k].2) by rw [allV_succ hlt]; rfl)
      have hnm0 := fun w => spec_name l[k].1 w
      have HI3 := Lib.hid (fun w => Fixed.l1In_any (l[k].2.length : Int) 1 3 w)
      have HPRE := Lib.hid (in4_all HIN.out)
      generalize allV (l.take k) = pre at *
      generalize hA : l[k] = A at *
      have HU := Lib.hid hu
      have HROOM := Lib.hid hroom
      clear hA hu hbw hroom hal
      cases hnm : nameOk A.1
      · have hnm0 := Lib.hid hnm0
        rw [hnm] at hnm0
        have HZ := Lib.hid (HNO.out fun q => absurd (hnm.symm.trans q.1) (by decide))
        clear hnm
        go_wp2_with (go_at_call 73; refine (hnm0.out _).mono ?_; rintro e w1 ⟨rfl, rfl⟩)
        go_ret
        exact ⟨ret_b HZ.out.symm, below_then HB.out (below_then HBW.out (below_alloc _ _))⟩
      have HNM := Lib.hid hnm0
      rw [hnm] at HNM
      clear hnm0
      cases har : (decide (1 ≤ (A.2.length : Int)) && decide ((A.2.length : Int) ≤ 3))
      · rw [har] at HI3
        have HZ := Lib.hid (HNO.out fun q => by
          rw [Bool.and_eq_false_iff, decide_eq_false_iff_not, decide_eq_false_iff_not] at har
          have h1 := q.2.1
          have h2 := q.2.2.1
          omega)
        clear hnm har
        go_wp2_with (first | (go_at_call 73; refine (HNM.out _).mono ?_; rintro e w1 ⟨rfl, rfl⟩) | (go_at_call 69; refine (HI3.out _).mono ?_; rintro e w1 ⟨rfl, rfl⟩))
        go_ret
        exact ⟨ret_b HZ.out.symm, below_then HB.out (below_then HBW.out (below_alloc _ _))⟩
      rw [har] at HI3
      have HAR := Lib.hid (show 1 ≤ A.2.length ∧ A.2.length ≤ 3 by
        rw [Bool.and_eq_true, decide_eq_true_eq, decide_eq_true_eq] at har
        omega)
      have HNK := Lib.hid hnm
      clear hnm har
      go_wp2_with (first | (go_at_call 73; refine (HNM.out _).mono ?_; rintro e w1 ⟨rfl, rfl⟩) | (go_at_call 69; refine (HI3.out _).mono ?_; rintro e w1 ⟨rfl, rfl⟩))
      generalize wr = w0 at *
      generalize hW1 : w0.alloc _ = W1
      obtain ⟨r1, _, hb1⟩ := start1 w0 _ hW1
      have HC1 := Lib.hid (Loc2.of r1)
      have HB1 := Lib.hid (below_then HBW.out hb1)
      have HU1 := Lib.hid (Cd.later HU.out hb1)
      clear hW1 r1 hb1 g0 g1 gl c0 c1
      go_loopw [3, 6] (fun s i wr => ∃ j m : Nat, j ≤ A.2.length ∧ i = .int .i64 j ∧ s = .int .i64 (bs (pre ++ A.2.take j) : Int) ∧ Hid (∀ x ∈ A.2.take j, 0 ≤ x ∧ x < n) ∧ Hid ((A.2.take j).Nodup) ∧ wr = W1.drewN m) (fun _ i _ => A.2.length - (intOf i).toNat)
      case atStart => exact ⟨0, 0, Nat.zero_le _, rfl, by simp, Lib.hid (fun x hx => by simp at hx), Lib.hid (by simp), rfl⟩
      case round =>
        obtain ⟨j, m, hj, rfl, rfl, hin, hnd, hwr⟩ := hrel
        have g0 := (loc2_drewN (m := m) (HC.out.later HB1.out)).c0
        have g1 := (loc2_drewN (m := m) (HC.out.later HB1.out)).c1
        have y0 := (loc2_drewN (m := m) HC1.out).c0
        have y1 := (loc2_drewN (m := m) HC1.out).c1
        have hri := (row_ri (rd_drewN HU1.out m)).1
        rw [← hwr] at g0 g1 y0 y1 hri
        have HWR := Lib.hid hwr
        clear hwr
        by_cases hjl : j < A.2.length
        · obtain ⟨b2, off2, cap2, e1, hbB2, hc2⟩ := ri_at hri hjl
          injection e1 with e1 e2 e3
          subst e1 e3
          have i1 : (0 : Int) ≤ (j : Int) := by omega
          have i2 : (j : Int) < (A.2.length : Int) := by omega
          have i5 : (j : Int) < 3 := by have := HAR.out; omega
          have i3 : (j : Int) ≤ (cu : Int) := by have := HROOM.out; omega
          have hw1 : IntKind.i64.wrap (n - 1) = n - 1 := by rw [IntKind.wrap_i64]; have := HN.out; omega
          have HH := Lib.hid (show ∀ q, Calls Try.prog 100 #[.slice (some ⟨b2, off2, none⟩) j cu, .int .i64 A.2[j]] (wr.drewN q) fun e w' => e = .returned (.bool (hasI (A.2.take j) A.2[j])) ∧ w' = wr.drewN q from fun q => (spec_has _ _ A.2[j] _ (wr.drewN q) (ri_take (ri_drewN hri q) (by omega))).mono fun _ _ h => ⟨h.1, h.2.symm⟩)
          by_cases hx : 0 ≤ A.2[j] ∧ A.2[j] ≤ n - 1
          case neg =>
            have HI4 := Lib.hid (show ∀ q, Calls Try.prog 69 #[.int .i64 A.2[j], .int .i64 0, .int .i64 (n - 1)] (wr.drewN q) fun e w' => e = .returned (.bool false) ∧ w' = wr.drewN q from fun q => (Fixed.l1In_no hx (wr.drewN q)).mono fun _ _ h => ⟨h.1, h.2.symm⟩)
            have HZ := Lib.hid (HNO.out fun q => by have := q.2.2.2.1 _ (List.getElem_mem hjl); omega)
            clear hx HH hri
            generalize A.2[j] = z at *
            go_wp2
            go_quiet (first | (go_at_call 69; refine Calls.quiet_of_same (HI4.out _)))
            go_wp2
            go_ret
            exact ⟨ret_b HZ.out.symm, by rw [HWR.out]; exact below_drewN (below_drewN (below_then HB.out HB1.out))⟩
          have HI4 := Lib.hid (show ∀ q, Calls Try.prog 69 #[.int .i64 A.2[j], .int .i64 0, .int .i64 (n - 1)] (wr.drewN q) fun e w' => e = .returned (.bool true) ∧ w' = wr.drewN q from fun q => (Fixed.l1In_yes hx.1 hx.2 (wr.drewN q)).mono fun _ _ h => ⟨h.1, h.2.symm⟩)
          cases hh : hasI (A.2.take j) A.2[j]
          · rw [hh] at HH
            have hin2 := Lib.hid (show ∀ x ∈ A.2.take (j + 1), 0 ≤ x ∧ x < n by
              rw [List.take_succ_eq_append_getElem hjl]
              intro x hx'
              rcases List.mem_append.1 hx' with q | q
              · exact hin.out x q
              · rw [List.mem_singleton.1 q]; omega)
            have hnd2 := Lib.hid (nodup_take hjl hnd.out hh)
            have hpre : In4 (pre ++ A.2.take j) := fun x hx' => by
              rcases List.mem_append.1 hx' with q | q
              · exact HPRE.out x q
              · have := hin.out x q; have := HN.out; omega
            have hz4 : 0 ≤ A.2[j] ∧ A.2[j] < 4 := by have := HN.out; omega
            have hor := or_nat (bs_lt hpre) (pow4n hz4)
            have HNJ := Lib.hid (show bs (pre ++ A.2.take (j + 1)) = bs (pre ++ A.2.take j) ||| 2 ^ A.2[j].toNat by rw [List.take_succ_eq_append_getElem hjl, ← List.append_assoc, bs_snoc])
            clear hx hh hri hpre
            generalize bs (pre ++ A.2.take j) = sn at *
            generalize A.2[j] = z at *
            have z0 := hz4.1
            have z1 : z ≤ 64 := by omega
            go_wp2
            go_quiet (first | (go_at_call 69; refine Calls.quiet_of_same (HI4.out _)) | (go_at_call 100; refine Calls.quiet_of_same (HH.out _)))
            rcases c4 hz4 with rfl | rfl | rfl | rfl
            all_goals
              go_wp2
              go_roundw
              case rel => exact ⟨j + 1, _, by omega, by go_num, by rw [HNJ.out]; first | rfl | exact congrArg _ hor, hin2, hnd2, by rw [HWR.out, World.drewN_drewN]⟩
              case measure => simp [intOf]; omega
          · rw [hh] at HH
            have HZ := Lib.hid (HNO.out fun q => nodup_bad hjl hh q.2.2.2.2)
            clear hx hh hri
            generalize A.2[j] = z at *
            go_wp2
            go_quiet (first | (go_at_call 69; refine Calls.quiet_of_same (HI4.out _)) | (go_at_call 100; refine Calls.quiet_of_same (HH.out _)))
            go_wp2
            go_ret
            exact ⟨ret_b HZ.out.symm, by rw [HWR.out]; exact below_drewN (below_drewN (below_then HB.out HB1.out))⟩
        · have ej : j = A.2.length := by omega
          subst ej
          rw [List.take_length] at *
          have HAL := Lib.hid (HAT.out ⟨HNK.out, HAR.out.1, HAR.out.2, hin.out, hnd.out⟩)
          clear hri
          go_wp2
          go_roundw
          case rel => exact ⟨k + 1, by have := HLT.out; omega, by go_num, by rw [HNX.out], HAL, by rw [HWR.out]; exact below_drewN HB1.out⟩
          case measure => have := HLT.out; simp [intOf]; omega
    · have ek : k = l.length := by omega
      subst ek
      rw [List.take_length] at *
      have hpw := pow_n HN.out
      have hs16 := bs_lt (in4_all HIN.out)
      have HZ := Lib.hid (show (((bs (allV l) : Nat) : Int) == 2 ^ n.toNat - 1) = qOk n l by
        rw [Bool.eq_iff_iff, beq_iff_eq, qOk_iff]
        exact ⟨fun q => ⟨HN.out.1, HN.out.2, HLL.out.1, HLL.out.2, hal.out, q⟩, fun q => q.2.2.2.2.2⟩)
      have q1 := hpw.1
      have q2 := hpw.2.1
      have q3 := hpw.2.2
      have q4 : (0 : Int) ≤ n := by have := HN.out; omega
      have q5 : n ≤ 64 := by have := HN.out; omega
      have q6 : IntKind.i64.wrap (2 ^ n.toNat - 1) = 2 ^ n.toNat - 1 := by rw [IntKind.wrap_i64]; omega
      clear hpw hbw
      generalize bs (allV l) = s at *
      go_wp2_with fail
      go_ret
      exact ⟨ret_b HZ.out, below_then HB.out HBW.out⟩
end Go.Proofs.Ytklamhnecncenaa.QryImp
