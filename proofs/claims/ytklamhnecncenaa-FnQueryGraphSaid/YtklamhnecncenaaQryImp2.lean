/- Queries: is a query valid: the program's functions. -/
import Derived.Test.YtklamhnecncenaaQryImp1
import Derived.Test.YtklamhnecncenaaQry
namespace Go.Proofs.Ytklamhnecncenaa.QryImp
open Go Go.RowKit Byt Ints IntsLaw Cd Rows2 Tab TabSpec Exact Atom QryMath QrySpec MkAtom

/-- The atom fits a query of n variables. -/
def atOk (n : Int) (nm : ByteArray) (vs : List Int) : Bool := decide (AtP n (nm, vs))
theorem atOk_iff {n : Int} {nm : ByteArray} {vs : List Int} : atOk n nm vs = true ↔ AtP n (nm, vs) := by unfold atOk; rw [decide_eq_true_iff]
theorem below_drewN {B m : Nat} {w w' : World} (h : Below B w w') : Below B w (w'.drewN m) := ⟨h.os, h.tape, h.output, h.size, h.block⟩
set_option maxRecDepth 100000 in
set_option maxHeartbeats 1600000 in
theorem is_atom (nm : ByteArray) (u : Value) (vs : List Int) (n : Int) (S : Nat → Prop) (w : World) (hr : rowC.rd w S [u] vs) (hn : 1 ≤ n ∧ n ≤ 4) :
    Calls Try.prog 132 #[.agg #[.string nm, u], .int .i64 n] w fun e w' => e = .returned (.bool (atOk n nm vs)) ∧ Below w.heap.size w w' := by
  have HNM := Lib.hid (fun w => TabImp.is_name nm w)
  have HR := Lib.hid (fun w' (hb : Below w.heap.size w w') => Cd.later hr hb)
  obtain ⟨a, cap, rfl, hlm, _⟩ := (row_ri hr).1
  have HAR := Lib.hid (fun w => TabImp.is_arity (vs.length : Int) w)
  clear hr
  cases hnm : nameOk nm
  · rw [hnm] at HNM
    have HZ := Lib.hid (show atOk n nm vs = false from decide_eq_false fun q => absurd (hnm.symm.trans q.1) (by decide))
    clear hnm
    go_enter Try.func132, Try.ntmps132
    go_wp2_with (go_at_call 150; refine (HNM.out _).mono ?_; rintro e w1 ⟨rfl, rfl⟩)
    go_ret
    exact ⟨ret_b HZ.out.symm, below_alloc _ _⟩
  rw [hnm] at HNM
  cases har : decide (1 ≤ (vs.length : Int) ∧ (vs.length : Int) ≤ 3)
  · rw [har] at HAR
    have HZ := Lib.hid (show atOk n nm vs = false from decide_eq_false fun q => absurd har (by
      rw [decide_eq_false_iff_not]
      have h1 := q.2.1
      have h2 := q.2.2.1
      simp only at h1 h2
      omega))
    clear hnm har
    go_enter Try.func132, Try.ntmps132
    go_wp2_with (first | (go_at_call 150; refine (HNM.out _).mono ?_; rintro e w1 ⟨rfl, rfl⟩) | (go_at_call 151; refine (HAR.out _).mono ?_; rintro e w1 ⟨rfl, rfl⟩))
    go_ret
    exact ⟨ret_b HZ.out.symm, below_alloc _ _⟩
  rw [har] at HAR
  have hlen := of_decide_eq_true har
  have HL := Lib.hid hlen
  have HN := Lib.hid hnm
  clear hnm har hlen
  go_enter Try.func132, Try.ntmps132
  go_wp2_with (first | (go_at_call 150; refine (HNM.out _).mono ?_; rintro e w1 ⟨rfl, rfl⟩) | (go_at_call 151; refine (HAR.out _).mono ?_; rintro e w1 ⟨rfl, rfl⟩))
  generalize hW : w.alloc _ = W
  obtain ⟨r0, _, hb0⟩ := start1 w _ hW
  have HC := Lib.hid (Loc2.of r0)
  have HB := Lib.hid hb0
  have HRW := Lib.hid (HR.out W hb0)
  clear hW r0 hb0
  go_loop [21] (fun i => ∃ k : Nat, k ≤ vs.length ∧ i = .int .i64 k ∧ Hid (∀ y ∈ vs.take k, 0 ≤ y ∧ y < n)) (fun i => vs.length - (intOf i).toNat)
  case atStart => exact ⟨0, Nat.zero_le _, rfl, Lib.hid (fun x hx => by simp at hx)⟩
  case round =>
    obtain ⟨k, hk, rfl, hl⟩ := hrel
    by_cases hlt : k < vs.length
    · obtain ⟨b, off, cap', e1, hbB, hc⟩ := ri_at (row_ri HRW.out).1 hlt
      injection e1 with e1 e2 e3
      subst e1 e3
      have p1 : (0 : Int) ≤ (k : Int) := by omega
      have p2 : (k : Int) < (vs.length : Int) := by omega
      by_cases hx : 0 ≤ vs[k] ∧ vs[k] < n
      · have hl2 := Lib.hid (show ∀ y ∈ vs.take (k + 1), 0 ≤ y ∧ y < n by
          rw [List.take_succ_eq_append_getElem hlt]
          intro y hy
          rcases List.mem_append.1 hy with q | q
          · exact hl.out y q
          · rw [List.mem_singleton.1 q]; exact hx)
        have t1 : ¬ vs[k] < 0 := by omega
        have t2 : ¬ n ≤ vs[k] := by omega
        clear hx
        generalize vs[k] = z at *
        go_wp2
        go_round
        case rel => exact ⟨k + 1, by omega, by go_num, hl2⟩
        case measure => simp [intOf]; omega
      · have HZ := Lib.hid (show atOk n nm vs = false from decide_eq_false fun q => hx (q.2.2.2.1 _ (List.getElem_mem hlt)))
        by_cases t1 : vs[k] < 0
        · clear hx
          generalize vs[k] = z at *
          go_wp2
          go_ret
          exact ⟨ret_b HZ.out.symm, HB.out⟩
        · have t2 : n ≤ vs[k] := by omega
          clear hx
          generalize vs[k] = z at *
          go_wp2
          go_ret
          exact ⟨ret_b HZ.out.symm, HB.out⟩
    · have ek : k = vs.length := by omega
      subst ek
      rw [List.take_length] at hl
      have h4 : In4 vs := fun y hy => by have := hl.out y hy; omega
      have hpn := pop_nodup vs (by have := HL.out; omega) h4
      have HZ := Lib.hid (show (((pop (bs vs) : Nat) : Int) == (vs.length : Int)) = atOk n nm vs by
        rw [Bool.eq_iff_iff, beq_iff_eq, atOk_iff]
        constructor
        · intro q
          have h1 : pop (bs vs) = vs.length := by omega
          exact ⟨HN.out, by have := HL.out; simp only; omega, by have := HL.out; simp only; omega, hl.out, hpn.1 h1⟩
        · intro q
          have h1 := hpn.2 q.2.2.2.2
          omega)
      have HBS := Lib.hid (show ∀ q, Calls Try.prog 133 #[.slice a vs.length cap] (W.drewN q) fun e w' => e = .returned (.int .i64 (bs vs : Int)) ∧ w' = W.drewN q from fun q => (bit_set _ vs _ (W.drewN q) (row_ri (rd_drewN HRW.out q)).1 h4).mono fun _ _ h => ⟨h.1, h.2.symm⟩)
      have hs16 := bs_lt h4
      have HOC := Lib.hid (show ∀ q, Calls Try.prog 156 #[.int .u64 (bs vs : Int)] (W.drewN q) fun e w' => e = .returned (.int .i64 (pop (bs vs) : Int)) ∧ w' = W.drewN q from fun q => (ones (bs vs) (W.drewN q) hs16).mono fun _ _ h => ⟨h.1, h.2.symm⟩)
      have hwr : IntKind.u64.wrap (bs vs : Int) = (bs vs : Int) := by rw [IntKind.wrap_u64]; omega
      have c1 := HC.out.c1
      clear hpn h4 hl
      generalize pop (bs vs) = p at *
      generalize bs vs = s at *
      go_wp2
      go_quiet (first | (go_at_call 133; refine Calls.quiet_of_same (HBS.out _)) | (go_at_call 156; refine Calls.quiet_of_same (HOC.out _)))
      go_wp2
      go_ret
      exact ⟨ret_b HZ.out, below_drewN HB.out⟩
end Go.Proofs.Ytklamhnecncenaa.QryImp
