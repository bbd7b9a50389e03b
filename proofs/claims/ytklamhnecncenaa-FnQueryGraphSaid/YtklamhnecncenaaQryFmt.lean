/- Queries: their format: the model's function. -/
import Derived.Test.YtklamhnecncenaaQrySpec2
import Derived.Test.YtklamhnecncenaaTabFmt
import Derived.Test.YtklamhnecncenaaQryNames
namespace Go.Proofs.Ytklamhnecncenaa.QryFmt
open Go Go.RowKit Byt Ints IntsLaw Cd Rows2 Tab TabSpec Exact Atom QryMath QrySpec QryImp MkAtom SlMath

set_option maxRecDepth 100000 in
set_option maxHeartbeats 3200000 in
theorem spec_fmt (n : Int) (u : Value) (l : List A2) (S : Nat → Prop) (w : World) (hr : atomsC.rd w S [u] l) :
    Calls Try.prog 171 #[.agg #[.int .i64 n, u]] w fun e w' => e = .returned (.string (fmtQ n l)) ∧ Below w.heap.size w w' := by
  have HR := Lib.hid (fun w' (hb : Below w.heap.size w w') => Cd.later hr hb)
  have HV := Lib.hid (fun w' (hb : Below w.heap.size w w') => spec_valid n u l S w' (Cd.later hr hb))
  obtain ⟨a, cap, rfl, hlm⟩ := Cd.sl_form hr
  clear hr
  have HC := Lib.hid (Loc2.of (row_alloc w (.cells #[.int .i64 n, .slice a l.length cap] 60)))
  have HB := Lib.hid (below_alloc w (.cells #[.int .i64 n, .slice a l.length cap] 60))
  cases hq : qOk n l
  · have HZ := Lib.hid (fmtQ_no hq)
    rw [hq] at HV
    clear hq
    go_enter Try.func171, Try.ntmps171
    go_wp2_with fail
    generalize w.alloc _ = W at *
    go_loopw [3, 4] (fun s i wr => s = .string ⟨#[]⟩ ∧ i = .int .i64 0 ∧ wr = W) (fun _ _ _ => 0)
    case atStart => exact ⟨rfl, rfl, rfl⟩
    case round =>
      obtain ⟨rfl, rfl, rfl⟩ := hrel
      have c0 := HC.out.c0
      have c1 := HC.out.c1
      by_cases h0 : (0 : Int) < (l.length : Int)
      · go_wp2_with fail
        refine (HV.out _ HB.out).mono ?_
        rintro e w1 ⟨rfl, hb1⟩
        have HB1 := Lib.hid (below_then HB.out hb1)
        clear hb1
        go_wp2_with fail
        go_ret
        exact ⟨ret_str HZ.out.symm, HB1.out⟩
      · go_wp2_with fail
        go_ret
        exact ⟨ret_str HZ.out.symm, HB.out⟩
  rw [hq] at HV
  have HZ := Lib.hid (fmtQ_yes hq)
  have hp := qOk_iff.1 hq
  have HP := Lib.hid hp
  have hlen := hp.2.2.2.1
  clear hq hp
  go_enter Try.func171, Try.ntmps171
  go_wp2_with fail
  generalize w.alloc _ = W at *
  go_loopw [3, 4] (fun s i wr => ∃ k : Nat, k ≤ l.length ∧ i = .int .i64 k ∧ s = .string ⟨(qB (l.take k)).toArray⟩ ∧ Below W.heap.size W wr) (fun _ i _ => l.length - (intOf i).toNat)
  case atStart => exact ⟨0, Nat.zero_le _, rfl, by simp [qB], Below.refl _ _⟩
  case round =>
    obtain ⟨k, hk, rfl, rfl, hbw⟩ := hrel
    have HBW := Lib.hid hbw
    have c0 := (HC.out.later hbw).c0
    have c1 := (HC.out.later hbw).c1
    have HCW := Lib.hid (HC.out.later hbw)
    have HVW := Lib.hid (HV.out wr (below_then HB.out hbw))
    by_cases hlt : k < l.length
    · obtain ⟨b, off, cap', au, cu, e1, hbB, d0, d1, hs1, hu, hroom⟩ := atom_at2 (HR.out wr (below_then HB.out hbw)) hlt
      injection e1 with e1 e2 e3
      subst e1 e3
      have p1 : (0 : Int) ≤ (k : Int) := by omega
      have p2 : (k : Int) < (l.length : Int) := by omega
      have p5 : (k : Int) < 4 := by omega
      have hat := HP.out.2.2.2.2.1 _ (List.getElem_mem hlt)
      have h4 := HP.out.in4 _ (List.getElem_mem hlt)
      have hD : (⟨(l[k].2.map vb).toArray⟩ : ByteArray).size ≤ 3 := by show (l[k].2.map vb).toArray.size ≤ 3; rw [List.size_toArray, List.length_map]; exact hat.2.2.1
      have hN := hat.name
      have hPs : (⟨(qB (l.take k)).toArray⟩ : ByteArray).size ≤ 28 := by
        show (qB (l.take k)).toArray.size ≤ 28
        rw [List.size_toArray]
        have := qB_len_le (l := l.take k) (fun A hA => ⟨(HP.out.2.2.2.2.1 A (List.mem_of_mem_take hA)).name, (HP.out.2.2.2.2.1 A (List.mem_of_mem_take hA)).2.2.1⟩)
        rw [List.length_take] at this
        omega
      have HNX0 := Lib.hid (show k = 0 → (⟨(qB (l.take (k + 1))).toArray⟩ : ByteArray) = ⟨(qB (l.take k)).toArray⟩ ++ l[k].1 ++ ⟨#[40]⟩ ++ ⟨(l[k].2.map vb).toArray⟩ ++ ⟨#[41]⟩ from fun h => by
        subst h
        rw [qB_one hlt]
        generalize l[0] = A
        obtain ⟨⟨⟨nl⟩⟩, vs⟩ := A
        simp [atomB, qB, ByteArray.mk_append_mk])
      have HNX1 := Lib.hid (show 0 < k → (⟨(qB (l.take (k + 1))).toArray⟩ : ByteArray) = ⟨(qB (l.take k)).toArray⟩ ++ ⟨#[32]⟩ ++ l[k].1 ++ ⟨#[40]⟩ ++ ⟨(l[k].2.map vb).toArray⟩ ++ ⟨#[41]⟩ from fun h => by
        rw [qB_succ hlt h]
        generalize l[k] = A
        obtain ⟨⟨⟨nl⟩⟩, vs⟩ := A
        simp [atomB, ByteArray.mk_append_mk])
      have HNM := Lib.hid (fun w' (hb : Below wr.heap.size wr w') => (show ∀ q, Calls Try.prog 174 #[.slice au l[k].2.length cu] (w'.drewN q) fun e w'' => e = .returned (.string ⟨(l[k].2.map vb).toArray⟩) ∧ w'' = w'.drewN q from fun q => (spec_names _ l[k].2 _ (w'.drewN q) (ri_drewN (row_ri (Cd.later hu hb)).1 q) h4 (by have := hat.2.2.1; omega)).mono fun _ _ h => ⟨h.1, h.2.symm⟩))
      have HD := Lib.hid (And.intro (And.intro hbB d0) d1)
      have HN := Lib.hid hN
      have HDS := Lib.hid hD
      have HPS := Lib.hid hPs
      have HLT := Lib.hid hlt
      clear hu hbw hat h4 hN hD hPs d0 d1
      generalize (⟨(qB (l.take k)).toArray⟩ : ByteArray) = P at *
      generalize (⟨(l[k].2.map vb).toArray⟩ : ByteArray) = D at *
      generalize l[k].1 = N at *
      generalize l[k].2.length = ln at *
      go_wp2_with fail
      refine HVW.out.mono ?_
      rintro e w1 ⟨rfl, hb1⟩
      have HB1 := Lib.hid (below_then HBW.out hb1)
      have y0 := (HCW.out.later hb1).c0
      have y1 := (HCW.out.later hb1).c1
      have z0 := (hb1.cell (p := ⟨b, off + k * 2, none⟩) HD.out.1.1).trans HD.out.1.2
      have z1 := (hb1.cell (p := ⟨b, off + k * 2 + 1, none⟩) HD.out.1.1).trans HD.out.2
      have HNM1 := Lib.hid (HNM.out w1 hb1)
      clear hb1 c0 c1
      by_cases hk0 : k = 0
      · have HNX := Lib.hid (HNX0.out hk0)
        have l1 : ¬ 9223372036854775807 < P.size + N.size := by have := HPS.out; have := HN.out; omega
        have l2 : ¬ 9223372036854775807 < P.size + N.size + 1 := by have := HPS.out; have := HN.out; omega
        have l3 : ¬ 9223372036854775807 < P.size + N.size + 1 + D.size := by have := HPS.out; have := HN.out; have := HDS.out; omega
        have l4 : ¬ 9223372036854775807 < P.size + N.size + 1 + D.size + 1 := by have := HPS.out; have := HN.out; have := HDS.out; omega
        have k0 : ¬ 0 < (k : Int) := by omega
        have k1 : ¬ 0 < k := by omega
        clear hk0
        go_wp2
        go_quiet (first | (go_at_call 174; refine Calls.quiet_of_same (HNM1.out _)))
        go_wp2
        go_roundw
        case rel => exact ⟨k + 1, by have := HLT.out; omega, by go_num, by rw [HNX.out], QryImp.below_drewN HB1.out⟩
        case measure => have := HLT.out; simp [intOf]; omega
      · have HNX := Lib.hid (HNX1.out (by omega))
        have l0 : ¬ 9223372036854775807 < P.size + 1 := by have := HPS.out; omega
        have l1 : ¬ 9223372036854775807 < P.size + 1 + N.size := by have := HPS.out; have := HN.out; omega
        have l2 : ¬ 9223372036854775807 < P.size + 1 + N.size + 1 := by have := HPS.out; have := HN.out; omega
        have l3 : ¬ 9223372036854775807 < P.size + 1 + N.size + 1 + D.size := by have := HPS.out; have := HN.out; have := HDS.out; omega
        have l4 : ¬ 9223372036854775807 < P.size + 1 + N.size + 1 + D.size + 1 := by have := HPS.out; have := HN.out; have := HDS.out; omega
        have k0 : 0 < (k : Int) := by omega
        have k1 : 0 < k := by omega
        clear hk0
        go_wp2
        go_quiet (first | (go_at_call 174; refine Calls.quiet_of_same (HNM1.out _)))
        go_wp2
        go_roundw
        case rel => exact ⟨k + 1, by have := HLT.out; omega, by go_num, by rw [HNX.out], QryImp.below_drewN HB1.out⟩
        case measure => have := HLT.out; simp [intOf]; omega
    · have ek : k = l.length := by omega
      subst ek
      rw [List.take_length] at *
      clear hbw
      go_wp2_with fail
      go_ret
      exact ⟨ret_str HZ.out.symm, below_then HB.out HBW.out⟩
end Go.Proofs.Ytklamhnecncenaa.QryFmt
