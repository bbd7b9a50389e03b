/- The query graph: the model's functions: connected masks, splits. -/
import Derived.Test.YtklamhnecncenaaQgSpec1
namespace Go.Proofs.Ytklamhnecncenaa.QgSpec
open Go Go.RowKit Byt Ints IntsLaw Cd Rows2 Tab TabSpec Exact Atom QryMath QrySpec QryImp MkAtom SlMath QgMath

theorem fm_pow {n : Int} {l : List A2} {t : Nat} (h1 : 1 ≤ t) (h : t ≤ fm n l) : t < 2 ^ l.length := by
  have := (mOk_iff.1 (fm_mOk h1 h)).2.2
  rw [pow_cast] at this
  omega
theorem fm_q {n : Int} {l : List A2} {t : Nat} (h1 : 1 ≤ t) (h : t ≤ fm n l) : qOk n l = true := (mOk_iff.1 (fm_mOk h1 h)).1
theorem split_zero (G t : Nat) : isSplit G t 0 = false := by unfold isSplit; rw [conn_zero, Bool.false_and, Bool.and_false]
theorem ow_back {w0 w : World} {base : Nat} {v : Value} {l : List Int} (h : OwnI w base 3 v l) (hin : InR l) (hb : w0.heap.size ≤ base) : ∃ fp, rowC.ow w w0.heap.size [v] l fp ∧ fp.Nodup :=
  ⟨_, rowC.ow_base (Cd.ow_of_own h hin) hb, Cd.own_nodup⟩
set_option maxRecDepth 100000 in
set_option maxHeartbeats 1600000 in
theorem spec_cm (n : Int) (u : Value) (l : List A2) (S : Nat → Prop) (w : World) (hr : atomsC.rd w S [u] l) :
    Calls Try.prog 56 #[.agg #[.int .i64 n, u]] w fun e w' => ∃ v' fp, e = .returned v' ∧ rowC.ow w' w.heap.size [v'] (cmL n l) fp ∧ fp.Nodup ∧ Below w.heap.size w w' := by
  have HFM := Lib.hid (fun w' (hb : Below w.heap.size w w') => spec_full n u l S w' (Cd.later hr hb))
  have HJ := Lib.hid (fun (m : Nat) (h1 : 1 ≤ m) (hm : m ≤ fm n l) w' (hb : Below w.heap.size w w') => spec_joined n m u l S w' (Cd.later hr hb) (fm_q h1 hm) h1 (fm_pow h1 hm))
  have HF16 := Lib.hid (fm_lt n l)
  obtain ⟨a, cap, rfl, hlm⟩ := Cd.sl_form hr
  have HZ := Lib.hid (show cmL n l = fil (conn (gr l)) (fm n l + 1) from rfl)
  clear hr
  generalize cmL n l = R at *
  generalize fm n l = F at *
  generalize gr l = G at *
  go_enter Try.func56, Try.ntmps56
  go_wp2_with fail
  generalize hW : w.alloc _ = W
  obtain ⟨r0, hz, hb0⟩ := start1 w _ hW
  have HC := Lib.hid (Loc2.of r0)
  have HB0 := Lib.hid hb0
  have HSZ := Lib.hid hz
  have HE := Lib.hid (Ints.OwnI.empty W W.heap.size 3 (Nat.le_refl _))
  clear hW r0 hb0 hz
  generalize hW2 : W.alloc _ = W2 at *
  obtain ⟨_, _, hb1⟩ := start1 W _ hW2
  have HB1 := Lib.hid hb1
  clear hW2 hb1
  refine (HFM.out _ (below_then HB0.out HB1.out)).mono ?_
  rintro e w3 ⟨rfl, hb3⟩
  have HB3 := Lib.hid (below_then HB1.out hb3)
  have HE3 := Lib.hid (HE.out.later hb3)
  clear hb3
  go_wp2_with fail
  go_loopw [3, 5] (fun o i wr => ∃ (k : Nat), 1 ≤ k ∧ k ≤ F + 1 ∧ i = .int .i64 k ∧ OwnI wr W.heap.size 3 o (fil (conn G) k) ∧ Below W.heap.size W wr) (fun _ i _ => F + 1 - (intOf i).toNat)
  case atStart => exact ⟨1, Nat.le_refl _, by omega, rfl, by rw [fil_one (conn_zero G), ← HSZ.out]; exact HE3.out, HB3.out⟩
  case round =>
    obtain ⟨k, hk1, hk, rfl, hown, hb⟩ := hrel
    have HLQ := Lib.hid (HC.out.later hb)
    have c0 := HLQ.out.c0
    have c1 := HLQ.out.c1
    have HB := Lib.hid hb
    have HF := HF16.out
    by_cases hlt : k ≤ F
    · have p1 : (0 : Int) ≤ (k : Int) := by omega
      have p2 : (k : Int) ≤ (F : Int) := by omega
      have p3 : (F : Int) < 16 := by omega
      have HJ1 := Lib.hid (HJ.out k hk1 hlt wr (below_then HB0.out hb))
      have HLT := Lib.hid (And.intro hk1 hlt)
      have hlen : (fil (conn G) k).length + 1 ≤ 1000000000000 := by have := fil_len (conn G) k; omega
      have HOW := Lib.hid hown
      clear hb hown hk1 hk hlt
      cases hx : conn G k
      · have HNX := Lib.hid (fil_no hx)
        rw [hx] at HJ1
        clear hx
        go_wp2_with fail
        refine HJ1.out.mono ?_
        rintro e w4 ⟨rfl, hb4⟩
        have HB4 := Lib.hid (below_then HB.out hb4)
        have HO4 := Lib.hid (HOW.out.later hb4)
        clear hb4
        go_wp2_with fail
        go_roundw
        case rel => exact ⟨k + 1, by omega, by have := HLT.out.2; omega, by go_num, by rw [HNX.out]; exact HO4.out, HB4.out⟩
        case measure => have := HLT.out.2; simp [intOf]; omega
      · have HNX := Lib.hid (fil_yes hx)
        rw [hx] at HJ1
        clear hx
        generalize fil (conn G) k = out at *
        go_wp2_with fail
        refine HJ1.out.mono ?_
        rintro e w4 ⟨rfl, hb4⟩
        have HB4 := Lib.hid (below_then HB.out hb4)
        have hown4 := HOW.out.later hb4
        have hbs := HB4.out.size
        clear hb4
        go_wp2_with (first | (at_builtin; refine wp_appendI rfl (.tmp 17) (.tmp 19) 24 rfl W.heap.size 3 Try.underlying24 info_i64 _ _ rfl hown4 _ rfl hlen hbs ?_))
        intro v' w5 hown5 hb5
        go_wp2_with fail
        go_roundw
        case rel => exact ⟨k + 1, by omega, by have := HLT.out.2; omega, by go_num, by rw [HNX.out]; exact hown5, HB4.out.trans hb5⟩
        case measure => have := HLT.out.2; simp [intOf]; omega
    · have ek : k = F + 1 := by omega
      subst ek
      rw [← HZ.out] at hown
      obtain ⟨fp, q1, q2⟩ := ow_back (w0 := w) hown (by rw [HZ.out]; exact inr_fil _ _ (by omega)) (by have := HSZ.out; omega)
      have HO := Lib.hid (And.intro q1 q2)
      have p2 : ¬ ((F : Int) + 1 ≤ (F : Int)) := by omega
      clear hown hb q1 q2 hk1 hk hlt
      go_wp2_with fail
      go_ret
      exact ⟨_, rfl, fp, HO.out.1, HO.out.2, below_then HB0.out HB.out⟩
set_option maxRecDepth 100000 in
set_option maxHeartbeats 1600000 in
theorem spec_js (n m : Int) (u : Value) (l : List A2) (S : Nat → Prop) (w : World) (hr : atomsC.rd w S [u] l) :
    Calls Try.prog 48 #[.agg #[.int .i64 n, u], .int .i64 m] w fun e w' => ∃ v' fp, e = .returned v' ∧ rowC.ow w' w.heap.size [v'] (jsL n l m) fp ∧ fp.Nodup ∧ Below w.heap.size w w' := by
  have HCN := Lib.hid (fun w' (hb : Below w.heap.size w w') => spec_conn n m u l S w' (Cd.later hr hb))
  have HJ := Lib.hid (fun (m : Nat) (h1 : 1 ≤ m) (hm : m ≤ fm n l) w' (hb : Below w.heap.size w w') => spec_joined n m u l S w' (Cd.later hr hb) (fm_q h1 hm) h1 (fm_pow h1 hm))
  obtain ⟨a, cap, rfl, hlm⟩ := Cd.sl_form hr
  clear hr
  cases hq : cOk n l m
  · have HZ := Lib.hid (jsL_no hq)
    rw [hq] at HCN
    clear hq HJ
    go_enter Try.func48, Try.ntmps48
    go_wp2_with fail
    generalize hW : w.alloc _ = W
    obtain ⟨r0, hz, hb0⟩ := start1 w _ hW
    have HB0 := Lib.hid hb0
    have HSZ := Lib.hid hz
    have HE := Lib.hid (Ints.OwnI.empty W W.heap.size 3 (Nat.le_refl _))
    clear hW r0 hb0 hz
    generalize hW2 : W.alloc _ = W2 at *
    obtain ⟨_, _, hb1⟩ := start1 W _ hW2
    have HB1 := Lib.hid (below_then HB0.out hb1)
    clear hW2 hb1
    refine (HCN.out _ HB1.out).mono ?_
    rintro e w3 ⟨rfl, hb3⟩
    have HB3 := Lib.hid (below_then HB1.out hb3)
    obtain ⟨fp, q1, q2⟩ := ow_back (w0 := w) (HE.out.later hb3) (fun x hx => by cases hx) (by have := HSZ.out; omega)
    rw [HSZ.out] at q1
    have HO := Lib.hid (And.intro q1 q2)
    clear hb3 q1 q2
    go_wp2_with fail
    go_ret
    exact ⟨_, fp, rfl, by rw [HZ.out]; exact HO.out.1, HO.out.2, HB3.out⟩
  rw [hq] at HCN
  obtain ⟨t, rfl, htf, _, h1, hcn⟩ := cOk_fm hq
  have HF16 := Lib.hid (show t < 16 by have := fm_lt n l; omega)
  have HTF := Lib.hid htf
  have HZ := Lib.hid (jsL_yes hq)
  clear hq htf hcn
  generalize jsL n l (t : Int) = R at *
  generalize fm n l = F at *
  generalize gr l = G at *
  go_enter Try.func48, Try.ntmps48
  go_wp2_with fail
  generalize hW : w.alloc _ = W
  obtain ⟨r0, hz, hb0⟩ := start1 w _ hW
  have HC := Lib.hid (Loc2.of r0)
  have HB0 := Lib.hid hb0
  have HSZ := Lib.hid hz
  have HE := Lib.hid (Ints.OwnI.empty W W.heap.size 3 (Nat.le_refl _))
  clear hW r0 hb0 hz
  generalize hW2 : W.alloc _ = W2 at *
  obtain ⟨_, _, hb1⟩ := start1 W _ hW2
  have HB1 := Lib.hid hb1
  clear hW2 hb1
  refine (HCN.out _ (below_then HB0.out HB1.out)).mono ?_
  rintro e w3 ⟨rfl, hb3⟩
  have HB3 := Lib.hid (below_then HB1.out hb3)
  have HE3 := Lib.hid (HE.out.later hb3)
  have H1 := Lib.hid h1
  clear hb3 h1
  go_wp2_with fail
  go_loopw [5, 6] (fun o i wr => ∃ (k : Nat), 1 ≤ k ∧ k ≤ t ∧ i = .int .i64 k ∧ OwnI wr W.heap.size 3 o (fil (isSplit G t) k) ∧ Below W.heap.size W wr) (fun _ i _ => t - (intOf i).toNat)
  case atStart => exact ⟨1, Nat.le_refl _, H1.out, rfl, by rw [fil_one (split_zero G t), ← HSZ.out]; exact HE3.out, HB3.out⟩
  case round =>
    obtain ⟨k, hk1, hk, rfl, hown, hb⟩ := hrel
    have HLQ := Lib.hid (HC.out.later hb)
    have c0 := HLQ.out.c0
    have c1 := HLQ.out.c1
    have HB := Lib.hid hb
    by_cases hlt : k < t
    · have p1 : (0 : Int) ≤ (k : Int) := by omega
      have p2 : (k : Int) < (t : Int) := by omega
      have p3 : (t : Int) < 16 := by have := HF16.out; omega
      have HKP := Lib.hid (below_then HB0.out hb)
      have HJ1 := Lib.hid (fun w' (hq : Below w.heap.size w w') => HJ.out k hk1 (by have := HTF.out; omega) w' hq)
      have HJ2 := Lib.hid (fun w' (hq : Below w.heap.size w w') => HJ.out (t - k) (by omega) (by have := HTF.out; omega) w' hq)
      have e1 : ((t - k : Nat) : Int) = (t : Int) - (k : Int) := by omega
      rw [e1] at HJ2
      have hand := and_nat (show k < 16 by omega) HF16.out
      have HLT := Lib.hid (And.intro hk1 hlt)
      have hlen : (fil (isSplit G t) k).length + 1 ≤ 1000000000000 := by have := fil_len (isSplit G t) k; omega
      have HOW := Lib.hid hown
      clear hb hown hk1 hk hlt e1
      by_cases hs : k &&& t = k
      · rw [hs] at hand
        cases hx : conn G k
        · have HNX := Lib.hid (fil_no (p := isSplit G t) (k := k) (by unfold isSplit; rw [hx, Bool.false_and, Bool.and_false]))
          rw [hx] at HJ1
          clear hx hs
          go_wp2_with fail
          refine (HJ1.out _ HKP.out).mono ?_
          rintro e w4 ⟨rfl, hb4⟩
          have HB4 := Lib.hid (below_then HB.out hb4)
          have HO4 := Lib.hid (HOW.out.later hb4)
          clear hb4
          go_wp2_with fail
          go_roundw
          case rel => exact ⟨k + 1, by omega, by have := HLT.out.2; omega, by go_num, by rw [HNX.out]; exact HO4.out, HB4.out⟩
          case measure => have := HLT.out.2; simp [intOf]; omega
        · rw [hx] at HJ1
          cases hy : conn G (t - k)
          · have HNX := Lib.hid (fil_no (p := isSplit G t) (k := k) (by unfold isSplit; rw [hy, Bool.and_false, Bool.and_false]))
            rw [hy] at HJ2
            clear hx hy hs
            go_wp2_with fail
            refine (HJ1.out _ HKP.out).mono ?_
            rintro e w4 ⟨rfl, hb4⟩
            have HB4 := Lib.hid (below_then HB.out hb4)
            have HO4 := Lib.hid (HOW.out.later hb4)
            have HL4 := Lib.hid (HLQ.out.later hb4)
            have c0 := HL4.out.c0
            have c1 := HL4.out.c1
            have HK4 := Lib.hid (below_then HKP.out hb4)
            clear hb4
            go_wp2_with fail
            refine (HJ2.out _ HK4.out).mono ?_
            rintro e w5 ⟨rfl, hb5⟩
            have HB5 := Lib.hid (below_then HB4.out hb5)
            have HO5 := Lib.hid (HO4.out.later hb5)
            clear hb5
            go_wp2_with fail
            go_roundw
            case rel => exact ⟨k + 1, by omega, by have := HLT.out.2; omega, by go_num, by rw [HNX.out]; exact HO5.out, HB5.out⟩
            case measure => have := HLT.out.2; simp [intOf]; omega
          · have HNX := Lib.hid (fil_yes (p := isSplit G t) (k := k) (by unfold isSplit; rw [hx, hy, hs]; simp))
            rw [hy] at HJ2
            clear hx hy hs
            generalize fil (isSplit G t) k = out at *
            go_wp2_with fail
            refine (HJ1.out _ HKP.out).mono ?_
            rintro e w4 ⟨rfl, hb4⟩
            have HB4 := Lib.hid (below_then HB.out hb4)
            have HO4 := Lib.hid (HOW.out.later hb4)
            have HL4 := Lib.hid (HLQ.out.later hb4)
            have c0 := HL4.out.c0
            have c1 := HL4.out.c1
            have HK4 := Lib.hid (below_then HKP.out hb4)
            clear hb4
            go_wp2_with fail
            refine (HJ2.out _ HK4.out).mono ?_
            rintro e w5 ⟨rfl, hb5⟩
            have HB5 := Lib.hid (below_then HB4.out hb5)
            have hown5 := HO4.out.later hb5
            have hbs := HB5.out.size
            clear hb5
            go_wp2_with (first | (at_builtin; refine wp_appendI rfl (.tmp 35) (.tmp 37) 24 rfl W.heap.size 3 Try.underlying24 info_i64 _ _ rfl hown5 _ rfl hlen hbs ?_))
            intro v' w6 hown6 hb6
            go_wp2_with fail
            go_roundw
            case rel => exact ⟨k + 1, by omega, by have := HLT.out.2; omega, by go_num, by rw [HNX.out]; exact hown6, HB5.out.trans hb6⟩
            case measure => have := HLT.out.2; simp [intOf]; omega
      · have HNX := Lib.hid (fil_no (p := isSplit G t) (k := k) (by unfold isSplit; rw [beq_eq_false_iff_ne.2 hs, Bool.false_and]))
        have hz2 : (((k &&& t : Nat) : Int) == (k : Int)) = false := by rw [beq_eq_false_iff_ne]; omega
        have hz3 : ¬ (((k &&& t : Nat) : Int) = (k : Int)) := by omega
        clear hs
        generalize k &&& t = z at *
        go_wp2_with fail
        go_roundw
        case rel => exact ⟨k + 1, by omega, by have := HLT.out.2; omega, by go_num, by rw [HNX.out]; exact HOW.out, HB.out⟩
        case measure => have := HLT.out.2; simp [intOf]; omega
    · have ek : k = t := by omega
      subst ek
      rw [← HZ.out] at hown
      obtain ⟨fp, q1, q2⟩ := ow_back (w0 := w) hown (by rw [HZ.out]; exact inr_fil _ _ (by have := HF16.out; omega)) (by have := HSZ.out; omega)
      have HO := Lib.hid (And.intro q1 q2)
      clear hown hb q1 q2 hk1 hk hlt
      go_wp2_with fail
      go_ret
      exact ⟨_, fp, rfl, HO.out.1, HO.out.2, below_then HB0.out HB.out⟩
end Go.Proofs.Ytklamhnecncenaa.QgSpec
