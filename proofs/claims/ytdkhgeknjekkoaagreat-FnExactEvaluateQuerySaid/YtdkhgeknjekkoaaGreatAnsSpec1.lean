/- Answers: does a partial row fit a table: the model's function. -/
import Derived.Test.YtdkhgeknjekkoaaGreatAnsMath
import Derived.Test.YtdkhgeknjekkoaaGreatQrySpec2
namespace Go.Proofs.YtdkhgeknjekkoaaGreat.AnsSpec
open Go Go.RowKit Byt Ints IntsLaw Cd Rows2 Tab TabSpec Exact Atom QryMath QryImp AnsMath SlMath

theorem loc3_drewN {w : World} {X m : Nat} {a b c : Value} (h : Loc3 w X a b c) : Loc3 (w.drewN m) X a b c := ⟨h.c0, h.c1, h.c2, h.f0, h.f1, h.f2⟩
def cellF (vs row avs tr : List Int) (k j : Nat) : Bool := decide (vs.getD j 0 ≠ avs.getD k 0) || decide (row.getD j 0 = tr.getD k 0)
def fitJ (vs row avs tr : List Int) (k j : Nat) : Bool := (List.range j).all fun i => cellF vs row avs tr k i
def fitK (vs row avs tr : List Int) (k : Nat) : Bool := (List.range k).all fun i => fitJ vs row avs tr i row.length
theorem fitK_all (vs row avs tr : List Int) : fitK vs row avs tr avs.length = fitRow vs row avs tr := rfl
theorem fitJ_succ (vs row avs tr : List Int) (k j : Nat) : fitJ vs row avs tr k (j + 1) = (fitJ vs row avs tr k j && cellF vs row avs tr k j) := by
  unfold fitJ
  rw [List.range_succ, List.all_append]
  simp
theorem fitK_succ (vs row avs tr : List Int) (k : Nat) : fitK vs row avs tr (k + 1) = (fitK vs row avs tr k && fitJ vs row avs tr k row.length) := by
  unfold fitK
  rw [List.range_succ, List.all_append]
  simp
def andJ (vs row avs tr : List Int) (k j : Nat) : Bool := fitK vs row avs tr k && fitJ vs row avs tr k j
theorem andJ_zero (vs row avs tr : List Int) (k : Nat) : andJ vs row avs tr k 0 = fitK vs row avs tr k := by unfold andJ fitJ; simp
theorem andJ_end (vs row avs tr : List Int) (k : Nat) : andJ vs row avs tr k row.length = fitK vs row avs tr (k + 1) := (fitK_succ vs row avs tr k).symm
theorem andJ_succ (vs row avs tr : List Int) (k j : Nat) : andJ vs row avs tr k (j + 1) = (andJ vs row avs tr k j && cellF vs row avs tr k j) := by
  unfold andJ
  rw [fitJ_succ, Bool.and_assoc]
theorem cell_ne {vs row avs tr : List Int} {k j : Nat} (hj : j < vs.length) (hk : k < avs.length) (h : vs[j] ≠ avs[k]) : cellF vs row avs tr k j = true := by
  unfold cellF
  rw [getD_at hj, getD_at hk, decide_eq_true h]
  rfl
theorem cell_eq {vs row avs tr : List Int} {k j : Nat} (hj : j < vs.length) (hk : k < avs.length) (hr : j < row.length) (ht : k < tr.length) (h : vs[j] = avs[k]) : cellF vs row avs tr k j = decide (row[j] = tr[k]) := by
  unfold cellF
  rw [getD_at hj, getD_at hk, getD_at hr, getD_at ht, decide_eq_false (by rw [h]; simp)]
  rfl

set_option maxRecDepth 100000 in
set_option maxHeartbeats 6400000 in
theorem spec_fits (nm : ByteArray) (ar : Int) (u : Value) (rows : List (List Int)) (an : ByteArray) (av : Value) (avs : List Int) (vv rv : Value) (vs row : List Int) (S1 S2 S3 S4 : Nat → Prop) (w : World)
    (h1 : rowsC.rd w S1 [u] rows) (h2 : rowC.rd w S2 [av] avs) (h3 : rowC.rd w S3 [vv] vs) (h4 : rowC.rd w S4 [rv] row) (hlen : row.length ≤ vs.length) (hrow : ∀ r ∈ rows, r.length = avs.length) :
    Calls Tryz.prog 102 #[.agg #[.string nm, .int .i64 ar, u], .agg #[.string an, av], vv, rv] w fun e w' => e = .returned (.bool (fitR vs row (avs, rows))) ∧ Below w.heap.size w w' := by
  have HR1 := Lib.hid (fun w' (hb : Below w.heap.size w w') => Cd.later h1 hb)
  have HR2 := Lib.hid (fun w' (hb : Below w.heap.size w w') => Cd.later h2 hb)
  have HR3 := Lib.hid (fun w' (hb : Below w.heap.size w w') => Cd.later h3 hb)
  have HR4 := Lib.hid (fun w' (hb : Below w.heap.size w w') => Cd.later h4 hb)
  obtain ⟨a1, c1, rfl, hl1⟩ := rows_form h1
  obtain ⟨a2, c2, rfl, hl2⟩ := row_form h2
  obtain ⟨a3, c3, rfl, hl3⟩ := row_form h3
  obtain ⟨a4, c4, rfl, hl4⟩ := row_form h4
  clear h1 h2 h3 h4
  have HROW := Lib.hid hrow
  have HLEN := Lib.hid hlen
  clear hrow hlen
  go_enter Tryz.func102, Tryz.ntmps102
  go_wp2_with fail
  generalize hW : (w.alloc _).alloc _ = W
  obtain ⟨r0, r1, _, hb0⟩ := start2g w _ _ hW
  have L3 := Lib.hid (Loc3.of r0)
  have L2 := Lib.hid (Loc2.of r1)
  have HB := Lib.hid hb0
  replace HR1 := Lib.hid (HR1.out W hb0)
  replace HR2 := Lib.hid (HR2.out W hb0)
  replace HR3 := Lib.hid (HR3.out W hb0)
  replace HR4 := Lib.hid (HR4.out W hb0)
  clear hW r0 r1 hb0
  go_loopw [9] (fun s wr => ∃ i m : Nat, i ≤ rows.length ∧ s = .int .i64 i ∧ Hid (∀ tr ∈ rows.take i, fitRow vs row avs tr = false) ∧ wr = W.drewN m) (fun s _ => rows.length - (intOf s).toNat)
  case atStart => exact ⟨0, 0, Nat.zero_le _, rfl, Lib.hid (fun x hx => by simp at hx), rfl⟩
  case round =>
    obtain ⟨i, m, hi, rfl, hno, hwr⟩ := hrel
    have g2 := (loc3_drewN (m := m) L3.out).c2
    rw [← hwr] at g2
    have HWR := Lib.hid hwr
    clear hwr
    by_cases hlt : i < rows.length
    · obtain ⟨b, off, cap', v, e1, hbB, hc, hv⟩ := rows_at HR1.out hlt
      injection e1 with e1 e2 e3
      subst e1 e3
      have p1 : (0 : Int) ≤ (i : Int) := by omega
      have p2 : (i : Int) < (rows.length : Int) := by omega
      have HLT := Lib.hid hlt
      have HTL := Lib.hid (HROW.out _ (List.getElem_mem hlt))
      have HNX := Lib.hid (show fitRow vs row avs rows[i] = false → ∀ tr ∈ rows.take (i + 1), fitRow vs row avs tr = false from fun h tr ht => by
        rw [List.take_succ_eq_append_getElem hlt] at ht
        rcases List.mem_append.1 ht with q | q
        · exact hno.out tr q
        · rw [List.mem_singleton.1 q]; exact h)
      have HYES := Lib.hid (show fitRow vs row avs rows[i] = true → fitR vs row (avs, rows) = true from fun h => List.any_eq_true.2 ⟨_, List.getElem_mem hlt, h⟩)
      have HC := Lib.hid hc
      have HV := Lib.hid hv
      clear hno hc hv
      generalize rows[i] = tr at *
      clear hlt
      obtain ⟨a5, c5, rfl, hl5⟩ := row_form HV.out
      go_wp2_with fail
      generalize wr = w0 at *
      clear g2
      go_loopw [10, 11] (fun s t wr => ∃ k m : Nat, k ≤ avs.length ∧ t = .int .i64 k ∧ s = .bool (fitK vs row avs tr k) ∧ wr = W.drewN m) (fun _ t _ => avs.length - (intOf t).toNat)
      case atStart => exact ⟨0, _, Nat.zero_le _, rfl, rfl, HWR.out⟩
      case round =>
        obtain ⟨k, m, hk, rfl, rfl, hwr⟩ := hrel
        have y1 := (loc2_drewN (m := m) L2.out).c1
        rw [← hwr] at y1
        have HWR := Lib.hid hwr
        clear hwr
        by_cases hkl : k < avs.length
        · have HKL := Lib.hid hkl
          have i1 : (0 : Int) ≤ (k : Int) := by omega
          have i2 : (k : Int) < (avs.length : Int) := by omega
          have hkt : k < tr.length := by rw [HTL.out]; exact hkl
          have i3 : (k : Int) < (tr.length : Int) := by omega
          go_wp2_with fail
          generalize wr = w0 at *
          clear y1
          go_loopw [10, 12] (fun s t wr => ∃ j m : Nat, j ≤ row.length ∧ t = .int .i64 j ∧ s = .bool (andJ vs row avs tr k j) ∧ wr = W.drewN m) (fun _ t _ => row.length - (intOf t).toNat)
          case atStart => exact ⟨0, _, Nat.zero_le _, rfl, by rw [andJ_zero], HWR.out⟩
          case round =>
            obtain ⟨j, m, hj, rfl, rfl, hwr⟩ := hrel
            by_cases hjl : j < row.length
            · have hjv : j < vs.length := by have := HLEN.out; omega
              have g2 := (loc3_drewN (m := m) L3.out).c2
              have y1 := (loc2_drewN (m := m) L2.out).c1
              have g3 : (W.drewN m).cell? ⟨b, off + i, none⟩ = some (.slice a5 tr.length c5) := HC.out
              obtain ⟨b2, o2, q2, e1, _, hx2⟩ := ri_at (row_ri (rd_drewN HR2.out m)).1 hkl
              injection e1 with e1 e2 e3
              subst e1 e3
              obtain ⟨b3, o3, q3, e1, _, hx3⟩ := ri_at (row_ri (rd_drewN HR3.out m)).1 hjv
              injection e1 with e1 e2 e3
              subst e1 e3
              obtain ⟨b4, o4, q4, e1, _, hx4⟩ := ri_at (row_ri (rd_drewN HR4.out m)).1 hjl
              injection e1 with e1 e2 e3
              subst e1 e3
              obtain ⟨b5, o5, q5, e1, _, hx5⟩ := ri_at (row_ri (rd_drewN HV.out m)).1 hkt
              injection e1 with e1 e2 e3
              subst e1 e3
              rw [← hwr] at g2 y1 g3 hx2 hx3 hx4 hx5
              have HWR := Lib.hid hwr
              have j1 : (0 : Int) ≤ (j : Int) := by omega
              have j2 : (j : Int) < (row.length : Int) := by omega
              have j3 : (j : Int) < (vs.length : Int) := by omega
              have HNJ := Lib.hid (andJ_succ vs row avs tr k j)
              have HNE := Lib.hid (cell_ne (row := row) (tr := tr) hjv hkl)
              have HEQ := Lib.hid (cell_eq hjv hkl hjl hkt)
              clear hwr e2
              generalize hcf : cellF vs row avs tr k j = cf at *
              generalize vs[j] = z3 at *
              generalize avs[k] = z2 at *
              generalize row[j] = z4 at *
              generalize tr[k] = z5 at *
              clear hcf
              cases hs : andJ vs row avs tr k j
              · rw [hs] at HNJ
                clear hs
                go_wp2
                go_quiet (fail)
                go_wp2
                go_roundw
                case rel => exact ⟨j + 1, _, by omega, by go_num, by rw [HNJ.out]; rfl, by rw [HWR.out, World.drewN_drewN]⟩
                case measure => simp [intOf]; omega
              · rw [hs] at HNJ
                clear hs
                by_cases hz : z3 = z2
                · have t1 : (z3 != z2) = false := by rw [bne_eq_false_iff_eq]; exact hz
                  have HE := HEQ.out hz
                  clear hz
                  by_cases hy : z4 = z5
                  · have t2 : (z4 == z5) = true := by rw [beq_iff_eq]; exact hy
                    rw [decide_eq_true hy] at HE
                    subst HE
                    clear hy
                    go_wp2
                    go_quiet (fail)
                    go_wp2
                    go_roundw
                    case rel => exact ⟨j + 1, _, by omega, by go_num, by rw [HNJ.out]; rfl, by rw [HWR.out, World.drewN_drewN]⟩
                    case measure => simp [intOf]; omega
                  · have t2 : (z4 == z5) = false := by rw [beq_eq_false_iff_ne]; exact hy
                    rw [decide_eq_false hy] at HE
                    subst HE
                    clear hy
                    go_wp2
                    go_quiet (fail)
                    go_wp2
                    go_roundw
                    case rel => exact ⟨j + 1, _, by omega, by go_num, by rw [HNJ.out]; rfl, by rw [HWR.out, World.drewN_drewN]⟩
                    case measure => simp [intOf]; omega
                · have t1 : (z3 != z2) = true := by rw [bne_iff_ne]; exact hz
                  have HE := HNE.out hz
                  subst HE
                  clear hz
                  go_wp2
                  go_quiet (fail)
                  go_wp2
                  go_roundw
                  case rel => exact ⟨j + 1, _, by omega, by go_num, by rw [HNJ.out]; rfl, by rw [HWR.out, World.drewN_drewN]⟩
                  case measure => simp [intOf]; omega
            · have ej : j = row.length := by omega
              subst ej
              have HWR := Lib.hid hwr
              clear hwr
              have HEN := Lib.hid (andJ_end vs row avs tr k)
              go_wp2_with fail
              go_roundw
              case rel => exact ⟨k + 1, _, by have := HKL.out; omega, by go_num, by rw [HEN.out], HWR.out⟩
              case measure => have := HKL.out; simp [intOf]; omega
        · have ek : k = avs.length := by omega
          subst ek
          have HF := Lib.hid (fitK_all vs row avs tr)
          rw [HF.out]
          cases hf : fitRow vs row avs tr
          · have HN2 := Lib.hid (HNX.out hf)
            clear hf
            go_wp2_with fail
            go_roundw
            case rel => exact ⟨i + 1, _, by have := HLT.out; omega, by go_num, HN2, HWR.out⟩
            case measure => have := HLT.out; simp [intOf]; omega
          · have HZ := Lib.hid (HYES.out hf)
            clear hf
            go_wp2_with fail
            go_ret
            exact ⟨ret_b HZ.out.symm, by rw [HWR.out]; exact QryImp.below_drewN HB.out⟩
    · have ei : i = rows.length := by omega
      subst ei
      rw [List.take_length] at hno
      have HZ := Lib.hid (show fitR vs row (avs, rows) = false by
        rw [← Bool.not_eq_true]
        intro h
        obtain ⟨tr, ht, hf⟩ := List.any_eq_true.1 h
        rw [hno.out tr ht] at hf
        cases hf)
      clear hno
      go_wp2_with fail
      go_ret
      exact ⟨ret_b HZ.out.symm, by rw [HWR.out]; exact QryImp.below_drewN HB.out⟩
end Go.Proofs.YtdkhgeknjekkoaaGreat.AnsSpec
