/- Queries: is a query valid: the program's function. -/
import Derived.Test.YtklamhnecncenaaQryImp2
namespace Go.Proofs.Ytklamhnecncenaa.QryImp
open Go Go.RowKit Byt Ints IntsLaw Cd Rows2 Tab TabSpec Exact Atom QryMath QrySpec MkAtom SlMath

theorem pow_n {n : Int} (h : 1 ≤ n ∧ n ≤ 4) : IntKind.i64.wrap (2 ^ n.toNat) = 2 ^ n.toNat ∧ (1 : Int) ≤ 2 ^ n.toNat ∧ (2 : Int) ^ n.toNat ≤ 16 := by
  have : n = 1 ∨ n = 2 ∨ n = 3 ∨ n = 4 := by omega
  rcases this with rfl | rfl | rfl | rfl <;> decide
/-- The k-th atom, by its cells. -/
theorem atom_at {w : World} {S : Nat → Prop} {v : Value} {l : List A2} (h : atomsC.rd w S [v] l) {k : Nat} (hk : k < l.length) :
    ∃ b off cap u, v = .slice (some ⟨b, off, none⟩) l.length cap ∧ b < w.heap.size ∧ w.cell? ⟨b, off + k * 2, none⟩ = some (.string l[k].1) ∧ w.cell? ⟨b, off + k * 2 + 1, none⟩ = some u ∧ l[k].1.size ≤ maxLen ∧ rowC.rd w S [u] l[k].2 := by
  obtain ⟨b, off, cap, us, e1, _, hb, hat, hu⟩ := Cd.sl_at h hk
  obtain ⟨u, rfl, h1, h3⟩ := atom_cells hu
  have c0 := hat 0 (by simp)
  have c1 := hat 1 (by simp)
  simp only [List.getElem_cons_zero, List.getElem_cons_succ, Nat.add_zero, show atomC.n = 2 from rfl] at c0 c1
  exact ⟨b, off, cap, u, e1, hb, c0, c1, h1, h3⟩
set_option maxRecDepth 100000 in
set_option maxHeartbeats 1600000 in
theorem impl_valid (n : Int) (u : Value) (l : List A2) (S : Nat → Prop) (w : World) (hr : atomsC.rd w S [u] l) :
    Calls Try.prog 97 #[.agg #[.int .i64 n, u]] w fun e w' => e = .returned (.bool (qOk n l)) ∧ Below w.heap.size w w' := by
  have HR := Lib.hid (fun w' (hb : Below w.heap.size w w') => Cd.later hr hb)
  obtain ⟨a, cap, rfl, hlm⟩ := Cd.sl_form hr
  clear hr
  by_cases hn1 : n < 1
  · have HZ := Lib.hid (show qOk n l = false from decide_eq_false fun q => by have := q.1; omega)
    go_enter Try.func97, Try.ntmps97
    go_wp2
    go_ret
    exact ⟨ret_b HZ.out.symm, below_alloc _ _⟩
  by_cases hn4 : 4 < n
  · have HZ := Lib.hid (show qOk n l = false from decide_eq_false fun q => by have := q.2.1; omega)
    go_enter Try.func97, Try.ntmps97
    go_wp2
    go_ret
    exact ⟨ret_b HZ.out.symm, below_alloc _ _⟩
  by_cases hl1 : (l.length : Int) < 1
  · have HZ := Lib.hid (show qOk n l = false from decide_eq_false fun q => by have := q.2.2.1; omega)
    go_enter Try.func97, Try.ntmps97
    go_wp2
    go_ret
    exact ⟨ret_b HZ.out.symm, below_alloc _ _⟩
  by_cases hl4 : (4 : Int) < (l.length : Int)
  · have HZ := Lib.hid (show qOk n l = false from decide_eq_false fun q => by have := q.2.2.2.1; omega)
    go_enter Try.func97, Try.ntmps97
    go_wp2
    go_ret
    exact ⟨ret_b HZ.out.symm, below_alloc _ _⟩
  have hn : 1 ≤ n ∧ n ≤ 4 := by omega
  have HN := Lib.hid hn
  have HLL := Lib.hid (show 1 ≤ l.length ∧ l.length ≤ 4 by omega)
  go_enter Try.func97, Try.ntmps97
  go_wp2
  clear hn hn1 hn4 hl1 hl4
  generalize hW : w.alloc _ = W
  obtain ⟨r0, _, hb0⟩ := start1 w _ hW
  have HC := Lib.hid (Loc2.of r0)
  have HB := Lib.hid hb0
  clear hW r0 hb0
  go_loopw [3, 29] (fun s i wr => ∃ k : Nat, k ≤ l.length ∧ i = .int .i64 k ∧ s = .int .i64 (bs (allV (l.take k)) : Int) ∧ Hid (∀ A ∈ l.take k, AtP n A) ∧ Below W.heap.size W wr) (fun _ i _ => l.length - (intOf i).toNat)
  case atStart => exact ⟨0, Nat.zero_le _, rfl, rfl, Lib.hid (fun x hx => by simp at hx), Below.refl _ _⟩
  case round =>
    obtain ⟨k, hk, rfl, rfl, hal, hbw⟩ := hrel
    have HBW := Lib.hid hbw
    have g0 := (HC.out.later hbw).c0
    have g1 := (HC.out.later hbw).c1
    have HIN := Lib.hid (show ∀ A ∈ l.take k, In4 A.2 from fun A hA x hx => by have h1 := (hal.out A hA).2.2.2.1 x hx; have h2 := HN.out; omega)
    by_cases hlt : k < l.length
    · obtain ⟨b, off, cap', u1, e1, hbB, c0, c1, hs1, hu⟩ := atom_at (HR.out wr (below_then HB.out hbw)) hlt
      injection e1 with e1 e2 e3
      subst e1 e3
      have p1 : (0 : Int) ≤ (k : Int) := by omega
      have p2 : (k : Int) < (l.length : Int) := by omega
      have HA := Lib.hid (fun w' (hq : Below wr.heap.size wr w') => is_atom l[k].1 u1 l[k].2 n S w' (Cd.later hu hq) HN.out)
      have HRU := Lib.hid hu
      obtain ⟨au, cu, hau, hlu, _⟩ := (row_ri hu).1
      have HLT := Lib.hid hlt
      clear hu hbw
      subst hau
      have hAl := below_alloc wr (.cells #[.string l[k].1, .slice au l[k].2.length cu] 130 (0, 0))
      have HA2 := Lib.hid (HA.out _ hAl)
      have HC5 := Lib.hid (Loc2.of (row_alloc wr (.cells #[.string l[k].1, .slice au l[k].2.length cu] 130 (0, 0))))
      have gl := (HC.out.later HBW.out).lt
      have HBA := Lib.hid hAl
      clear hAl
      go_wp2_with fail
      generalize hW1 : wr.alloc _ = W1 at *
      clear hW1
      refine HA2.out.mono ?_
      rintro e w2 ⟨rfl, hb2⟩
      have HB2 := Lib.hid (below_then HBW.out (below_then HBA.out hb2))
      have y0 := (HC5.out.later hb2).c0
      have y1 := (HC5.out.later hb2).c1
      cases hat : atOk n l[k].1 l[k].2
      · have HZ := Lib.hid (show qOk n l = false from decide_eq_false fun q => absurd (hat.symm.trans (show atOk n l[k].1 l[k].2 = true from atOk_iff.2 (q.2.2.2.2.1 _ (List.getElem_mem HLT.out)))) (by decide))
        clear hat hb2
        go_wp2_with fail
        go_ret
        exact ⟨ret_b HZ.out.symm, below_then HB.out HB2.out⟩
      · have hatp := atOk_iff.1 hat
        have h4 : In4 l[k].2 := fun x hx => by have h1 := hatp.2.2.2.1 x hx; have h2 := HN.out; omega
        have HAL := Lib.hid (show ∀ A ∈ l.take (k + 1), AtP n A by
          rw [List.take_succ_eq_append_getElem HLT.out]
          intro A hA
          rcases List.mem_append.1 hA with q | q
          · exact hal.out A q
          · rw [List.mem_singleton.1 q]; exact hatp)
        have HBS := Lib.hid (bit_set (.slice au l[k].2.length cu) l[k].2 _ w2 (row_ri (Cd.later HRU.out (below_then HBA.out hb2))).1 h4)
        have HNX := Lib.hid (show bs (allV (l.take (k + 1))) = bs (allV (l.take k)) ||| bs l[k].2 by rw [allV_succ HLT.out, bs_app]; rfl)
        have hor := or_nat (bs_lt (in4_all HIN.out)) (bs_lt h4)
        clear hat hatp h4 hb2
        generalize bs (allV (l.take k)) = s at *
        generalize bs l[k].2 = t at *
        go_wp2_with fail
        refine HBS.out.mono ?_
        rintro e w3 ⟨rfl, rfl⟩
        go_wp2_with fail
        go_roundw
        case rel => exact ⟨k + 1, by have := HLT.out; omega, by go_num, by rw [HNX.out], HAL, HB2.out⟩
        case measure => have := HLT.out; simp [intOf]; omega
    · have ek : k = l.length := by omega
      subst ek
      rw [List.take_length] at *
      have hpw := pow_n HN.out
      have hs16 := bs_lt (in4_all HIN.out)
      have HZ := Lib.hid (show (((bs (allV l) : Nat) : Int) == 2 ^ n.toNat - 1) = qOk n l by
        rw [Bool.eq_iff_iff, beq_iff_eq, qOk_iff]
        exact ⟨fun q => ⟨HN.out.1, HN.out.2, HLL.out.1, HLL.out.2, hal.out, q⟩, fun q => q.2.2.2.2.2⟩)
      have q1 := hpw.1
      have q2 := hpw.2.1
      have q3 := hpw.2.2
      have q4 : (0 : Int) ≤ n := by have := HN.out; omega
      have q5 : n ≤ 64 := by have := HN.out; omega
      have q6 : IntKind.i64.wrap (2 ^ n.toNat - 1) = 2 ^ n.toNat - 1 := by rw [IntKind.wrap_i64]; omega
      clear hpw hbw
      generalize bs (allV l) = s at *
      go_wp2_with fail
      go_ret
      exact ⟨ret_b HZ.out, below_then HB.out HBW.out⟩
end Go.Proofs.Ytklamhnecncenaa.QryImp
