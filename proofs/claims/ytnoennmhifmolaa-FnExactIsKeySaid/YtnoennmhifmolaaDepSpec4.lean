/- Dependencies: the model's closure and keys. -/
import Derived.Test.YtnoennmhifmolaaDepKeys
import Derived.Test.YtnoennmhifmolaaMkDep
import Derived.Test.YtnoennmhifmolaaDegSpec2
import Derived.Test.YtnoennmhifmolaaQryVars
import Derived.Deep.DeepCutAuto
namespace Go.Proofs.Ytnoennmhifmolaa.DepClo
open Go Go.RowKit Byt Ints IntsLaw Cd Rows2 Tab SlMath TabSpec Exact Dep MkDep QryMath DepMath
open DegMath (colsOk gcOk)

theorem pow_castD (k : Nat) : (2 : Int) ^ k = ((2 ^ k : Nat) : Int) := by norm_cast
theorem or_natD {a b : Nat} (ha : a < 16) (hb : b < 16) : bits .or .i64 (a : Int) (b : Int) = ((a ||| b : Nat) : Int) :=
  (bits_nat .i64 63 (by decide) Bit.wraps_i64 a b (by omega) (by omega)).2
theorem and_natD {a b : Nat} (ha : a < 16) (hb : b < 16) : bits .and .i64 (a : Int) (b : Int) = ((a &&& b : Nat) : Int) :=
  (bits_nat .i64 63 (by decide) Bit.wraps_i64 a b (by omega) (by omega)).1
theorem or_powD {x k : Nat} (hx : x < 16) (hk : k < 4) : bits .or .i64 (x : Int) (2 ^ k) = ((x ||| 2 ^ k : Nat) : Int) := by
  have h : 2 ^ k < 16 := by
    have : 2 ^ k < 2 ^ 4 := Nat.pow_lt_pow_right (by decide) hk
    omega
  rw [pow_castD, or_natD hx h]
theorem pow_lenD {k : Nat} (h : k ≤ 4) : IntKind.i64.wrap (2 ^ k) = 2 ^ k ∧ (1 : Int) ≤ 2 ^ k ∧ (2 : Int) ^ k ≤ 16 := by
  have : k = 0 ∨ k = 1 ∨ k = 2 ∨ k = 3 ∨ k = 4 := by omega
  rcases this with rfl | rfl | rfl | rfl | rfl <;> decide
theorem low3 {t : Nat} (h : t < 3) : bits .and .i64 (t : Int) 3 = (t : Int) := by
  have : t = 0 ∨ t = 1 ∨ t = 2 := by omega
  rcases this with rfl | rfl | rfl <;> decide
theorem hasM_bit {m t : Nat} (h : t < 3) : hasM m (t : Int) = decide (m / 2 ^ t % 2 = 1) := by
  rw [hasM_nat h, Nat.testBit_eq_decide_div_mod_eq]
theorem col_nat {c : Int} (h : colB c 3 = true) : ∃ t : Nat, c = (t : Int) ∧ t < 3 := by
  have h := colB_iff.1 h
  obtain ⟨t, rfl⟩ := Int.eq_ofNat_of_zero_le h.1
  exact ⟨t, rfl, by omega⟩
theorem in_col3 (c : Int) : (decide ((0 : Int) ≤ c) && decide (c ≤ 2)) = colB c 3 := by
  unfold colB
  rw [← Bool.decide_and]
  exact decide_eq_decide.2 ⟨fun h => ⟨h.1, by omega⟩, fun h => ⟨h.1, by omega⟩⟩
/-- A dependency of a slice, cell by cell. -/
theorem dep_at {w : World} {S : Nat → Prop} {v : Value} {l : List D3} (h : depsC.rd w S [v] l) {k : Nat} (hk : k < l.length) :
    ∃ b off cap a c, v = .slice (some ⟨b, off, none⟩) l.length cap ∧ b < w.heap.size ∧ w.cell? ⟨b, off + k * 3, none⟩ = some (.string (l[k]).1) ∧ w.cell? ⟨b, off + k * 3 + 1, none⟩ = some (.slice a (l[k]).2.1.length c) ∧ w.cell? ⟨b, off + k * 3 + 2, none⟩ = some (.int .i64 (l[k]).2.2) ∧
      rowC.rd w S [.slice a (l[k]).2.1.length c] (l[k]).2.1 ∧ (l[k]).1.size ≤ maxLen := by
  obtain ⟨b, off, cap, us, e1, _, hbB, hat, hu⟩ := Cd.sl_at h hk
  obtain ⟨u, rfl, h1, h3, _⟩ := dep_cells hu
  obtain ⟨a, c, rfl, _⟩ := row_form h3
  have c0 := hat 0 (by simp)
  have c1 := hat 1 (by simp)
  have c2 := hat 2 (by simp)
  simp only [List.getElem_cons_zero, List.getElem_cons_succ, Nat.add_zero, show depC.n = 3 from rfl] at c0 c1 c2
  exact ⟨b, off, cap, a, c, e1, hbB, c0, c1, c2, h3, h1⟩
/-- Some of the left columns are in the set. -/
def allTo (m : Nat) (cols : List Int) (k : Nat) : Bool := (cols.take k).all (hasM m)
theorem allTo_next {m : Nat} {cols : List Int} {k : Nat} (h : k < cols.length) : allTo m cols (k + 1) = (allTo m cols k && hasM m cols[k]) := by
  unfold allTo
  rw [List.take_succ_eq_append_getElem h, List.all_append]
  simp
theorem addD_if (nm : ByteArray) (m : Nat) (D : D3) : addD nm m D = if (decide (D.1 = nm) && colB D.2.2 3 && D.2.1.all (hasM m)) = true then m ||| 2 ^ D.2.2.toNat else m := by
  unfold addD appD
  by_cases h : D.1 = nm
  · simp [h]
  · simp [h]
set_option maxRecDepth 100000 in
set_option maxHeartbeats 6400000 in
theorem spec_clo (v vc : Value) (l : List D3) (nm : ByteArray) (cols : List Int) (S S2 : Nat → Prop) (w : World) (h1 : depsC.rd w S [v] l) (h2 : rowC.rd w S2 [vc] cols) :
    Calls Try.prog 30 #[v, .string nm, vc] w fun e w' => ∃ v' fp, e = .returned v' ∧ rowC.ow w' w.heap.size [v'] (clo l nm cols) fp ∧ fp.Nodup ∧ Below w.heap.size w w' := by
  have HR := Lib.hid h1
  have HC := Lib.hid (row_ri h2).1
  obtain ⟨a1, cap1, rfl, hl1⟩ := Cd.sl_form h1
  obtain ⟨a2, cap2, rfl, hl2, _⟩ := (row_ri h2).1
  have HW := Lib.hid (And.intro (Ints.OwnI.empty w w.heap.size 3 (Nat.le_refl _)) (below_alloc w (.cells #[] 3)))
  clear h1 h2
  go_enter Try.func30, Try.ntmps30
  go_wp2_with fail
  go_loop [7, 8] (fun m i => ∃ k : Nat, k ≤ cols.length ∧ i = .int .i64 k ∧ m = .int .i64 (mskC (cols.take k) : Nat)) (fun _ i => cols.length - (intOf i).toNat)
  case atStart => exact ⟨0, Nat.zero_le _, rfl, rfl⟩
  case round =>
    obtain ⟨k, hk, rfl, rfl⟩ := hrel
    by_cases hlt : k < cols.length
    · obtain ⟨b, off, cap', e1, hbB, hcell⟩ := ri_at HC.out hlt
      injection e1 with e1 e2 e3
      subst e1 e3
      have HNX := Lib.hid (mskC_next hlt)
      have hm8 := mskC_lt (cols.take k)
      have HI := Lib.hid (fun w' => Fixed.l1In_any cols[k] 0 2 w')
      rw [in_col3] at HI
      have p1 : (0 : Int) ≤ (k : Int) := by omega
      have p2 : (k : Int) < (cols.length : Int) := by omega
      cases hcb : colB cols[k] 3
      · rw [hcb] at HI HNX
        simp only [Bool.false_eq_true, if_false] at HNX
        clear hcb
        generalize mskC (cols.take k) = m at *
        generalize cols[k] = c at *
        go_wp2_with fail
        refine (HI.out _).mono ?_
        rintro e w1 ⟨rfl, rfl⟩
        go_wp2_with fail
        go_round
        case rel => exact ⟨k + 1, by omega, by go_num, by rw [HNX.out]⟩
        case measure => simp [intOf]; omega
      · obtain ⟨t, ht, ht3⟩ := col_nat hcb
        rw [hcb] at HI HNX
        simp only [if_true] at HNX
        rw [ht] at HI HNX hcell
        rw [Int.toNat_natCast] at HNX
        have hor := or_powD (x := mskC (cols.take k)) (k := t) (by omega) (by omega)
        have hpw := (pow_lenD (k := t) (by omega)).1
        have p3 : (t : Int) ≤ 64 := by omega
        have p4 : ((t : Int)).toNat = t := by omega
        have p5 : (0 : Int) ≤ (t : Int) := by omega
        clear hcb ht
        generalize mskC (cols.take k) = m at *
        go_wp2_with fail
        refine (HI.out _).mono ?_
        rintro e w1 ⟨rfl, rfl⟩
        go_wp2_with fail
        go_round
        case rel => exact ⟨k + 1, by omega, by go_num, by rw [HNX.out]⟩
        case measure => simp [intOf]; omega
    · have ek : k = cols.length := by omega
      subst ek
      rw [List.take_length]
      have hm8 := mskC_lt cols
      have HCL := Lib.hid (show clo l nm cols = varsL (cloM l nm (mskC cols)) from rfl)
      have HR3 := Lib.hid (show rnd l nm (rnd l nm (rnd l nm (mskC cols))) = cloM l nm (mskC cols) from rfl)
      generalize mskC cols = m0 at *
      go_wp2_with fail
      go_loop [7, 9] (fun m i => ∃ (n : Nat) (r : Nat), n ≤ 3 ∧ i = .int .i64 n ∧ m = .int .i64 (r : Nat) ∧ r < 8 ∧ Hid (r = Nat.repeat (rnd l nm) n m0)) (fun _ i => 3 - (intOf i).toNat)
      case atStart => exact ⟨0, m0, Nat.zero_le _, rfl, rfl, hm8, Lib.hid rfl⟩
      case round =>
        obtain ⟨n, r, hn, rfl, rfl, hr8, hrep⟩ := hrel
        by_cases hn3 : n < 3
        · have p1 : (n : Int) < 3 := by omega
          go_wp2_with fail
          go_loop [7, 10] (fun m i => ∃ k : Nat, k ≤ l.length ∧ i = .int .i64 k ∧ m = .int .i64 (rnd (l.take k) nm r : Nat)) (fun _ i => l.length - (intOf i).toNat)
          case atStart => exact ⟨0, Nat.zero_le _, rfl, rfl⟩
          case round =>
            obtain ⟨k, hk, rfl, rfl⟩ := hrel
            by_cases hlt : k < l.length
            · obtain ⟨b, off, cap', af, cf, e1, hbB, c0, c1, c2, hrf, _⟩ := dep_at HR.out hlt
              injection e1 with e1 e2 e3
              subst e1 e3
              have HNX := Lib.hid (rnd_next (nm := nm) (m := r) hlt)
              have hm8 := rnd_lt nm (l.take k) r hr8
              rw [addD_if] at HNX
              have HI := Lib.hid (fun w' => Fixed.l1In_any (l[k]).2.2 0 2 w')
              rw [in_col3] at HI
              have HRF := Lib.hid (row_ri hrf).1
              have p1 : (0 : Int) ≤ (k : Int) := by omega
              have p2 : (k : Int) < (l.length : Int) := by omega
              clear hrf
              generalize rnd (l.take k) nm r = m at *
              generalize l[k] = D at *
              obtain ⟨dn, df, dt⟩ := D
              simp only at *
              have hfl : df.length ≤ 9223372036854775807 := by obtain ⟨_, _, e, h, _⟩ := HRF.out; exact h
              by_cases hnm : dn = nm
              case neg =>
                have hne := str_ne hnm
                rw [decide_eq_false hnm] at HNX
                simp only [Bool.false_and, Bool.false_eq_true, if_false] at HNX
                clear hnm
                go_wp2_with fail
                go_loop [11, 12] (fun o i => ∃ j : Nat, j ≤ df.length ∧ i = .int .i64 j ∧ o = .bool false) (fun _ i => df.length - (intOf i).toNat)
                case atStart => exact ⟨0, Nat.zero_le _, rfl, rfl⟩
                case round =>
                  obtain ⟨j, hj, rfl, rfl⟩ := hrel
                  by_cases hjl : j < df.length
                  · have q1 : (0 : Int) ≤ (j : Int) := by omega
                    have q2 : (j : Int) < (df.length : Int) := by omega
                    go_wp2_with fail
                    go_round
                    case rel => exact ⟨j + 1, by omega, by go_num, rfl⟩
                    case measure => simp [intOf]; omega
                  · go_wp2_with fail
                    go_round
                    case rel => exact ⟨k + 1, by omega, by go_num, by rw [HNX.out]⟩
                    case measure => simp [intOf]; omega
              subst hnm
              rw [decide_eq_true rfl] at HNX
              cases hcb : colB dt 3
              · rw [hcb] at HI HNX
                simp only [Bool.and_false, Bool.false_and, Bool.false_eq_true, if_false] at HNX
                clear hcb
                go_wp2_with fail
                refine (HI.out _).mono ?_
                rintro e w1 ⟨rfl, rfl⟩
                go_wp2_with fail
                go_loop [11, 12] (fun o i => ∃ j : Nat, j ≤ df.length ∧ i = .int .i64 j ∧ o = .bool false) (fun _ i => df.length - (intOf i).toNat)
                case atStart => exact ⟨0, Nat.zero_le _, rfl, rfl⟩
                case round =>
                  obtain ⟨j, hj, rfl, rfl⟩ := hrel
                  by_cases hjl : j < df.length
                  · have q1 : (0 : Int) ≤ (j : Int) := by omega
                    have q2 : (j : Int) < (df.length : Int) := by omega
                    go_wp2_with fail
                    go_round
                    case rel => exact ⟨j + 1, by omega, by go_num, rfl⟩
                    case measure => simp [intOf]; omega
                  · go_wp2_with fail
                    go_round
                    case rel => exact ⟨k + 1, by omega, by go_num, by rw [HNX.out]⟩
                    case measure => simp [intOf]; omega
              rw [hcb] at HI HNX
              simp only [Bool.and_true, Bool.true_and] at HNX
              obtain ⟨t, rfl, ht3⟩ := col_nat hcb
              rw [Int.toNat_natCast] at HNX
              have hor := or_powD (x := m) (k := t) (by omega) (by omega)
              have hpw := (pow_lenD (k := t) (by omega)).1
              have p3 : (t : Int) ≤ 64 := by omega
              have p4 : ((t : Int)).toNat = t := by omega
              have p5 : (0 : Int) ≤ (t : Int) := by omega
              clear hcb
              go_wp2_with fail
              refine (HI.out _).mono ?_
              rintro e w1 ⟨rfl, rfl⟩
              go_wp2_with fail
              go_loop [11, 12] (fun o i => ∃ j : Nat, j ≤ df.length ∧ i = .int .i64 j ∧ o = .bool (allTo m df j)) (fun _ i => df.length - (intOf i).toNat)
              case atStart => exact ⟨0, Nat.zero_le _, rfl, rfl⟩
              case round =>
                obtain ⟨j, hj, rfl, rfl⟩ := hrel
                by_cases hjl : j < df.length
                · obtain ⟨b2, o2, c2', e1, hb2, hc2⟩ := ri_at HRF.out hjl
                  injection e1 with e1 e2 e3
                  subst e1 e3
                  have HAN := Lib.hid (allTo_next (m := m) hjl)
                  have HI2 := Lib.hid (fun w' => Fixed.l1In_any df[j] 0 2 w')
                  rw [in_col3] at HI2
                  have q1 : (0 : Int) ≤ (j : Int) := by omega
                  have q2 : (j : Int) < (df.length : Int) := by omega
                  cases hal : allTo m df j
                  · rw [hal] at HAN
                    simp only [Bool.false_and] at HAN
                    clear hal
                    generalize df[j] = c at *
                    go_wp2_with fail
                    go_round
                    case rel => exact ⟨j + 1, by omega, by go_num, by rw [HAN.out]⟩
                    case measure => simp [intOf]; omega
                  · rw [hal] at HAN
                    simp only [Bool.true_and] at HAN
                    clear hal
                    cases hcj : colB df[j] 3
                    · have HAF := Lib.hid (show allTo m df (j + 1) = false by rw [HAN.out]; unfold hasM; rw [hcj]; rfl)
                      rw [hcj] at HI2
                      clear hcj HAN
                      generalize df[j] = c at *
                      go_wp2_with fail
                      refine (HI2.out _).mono ?_
                      rintro e w1 ⟨rfl, rfl⟩
                      go_wp2_with fail
                      go_round
                      case rel => exact ⟨j + 1, by omega, by go_num, by rw [HAF.out]⟩
                      case measure => simp [intOf]; omega
                    · obtain ⟨s, hs, hs3⟩ := col_nat hcj
                      rw [hcj] at HI2
                      rw [hs] at HI2 HAN hc2
                      rw [hasM_bit hs3] at HAN
                      have hlow := low3 hs3
                      have hbit := QrySpec.bit_at (s := m) (by omega) s
                      have s3 : (s : Int) ≤ 64 := by omega
                      have s4 : ((s : Int)).toNat = s := by omega
                      have s5 : (0 : Int) ≤ (s : Int) := by omega
                      clear hcj hs
                      by_cases hx : m / 2 ^ s % 2 = 1
                      · rw [hx] at hbit
                        rw [decide_eq_true hx] at HAN
                        clear hx
                        go_wp2_with fail
                        refine (HI2.out _).mono ?_
                        rintro e w1 ⟨rfl, rfl⟩
                        go_wp2_with fail
                        go_round
                        case rel => exact ⟨j + 1, by omega, by go_num, by rw [HAN.out]⟩
                        case measure => simp [intOf]; omega
                      · have hz : m / 2 ^ s % 2 = 0 := by omega
                        rw [hz] at hbit
                        rw [decide_eq_false hx] at HAN
                        clear hx hz
                        go_wp2_with fail
                        refine (HI2.out _).mono ?_
                        rintro e w1 ⟨rfl, rfl⟩
                        go_wp2_with fail
                        go_round
                        case rel => exact ⟨j + 1, by omega, by go_num, by rw [HAN.out]⟩
                        case measure => simp [intOf]; omega
                · have ej : j = df.length := by omega
                  subst ej
                  have HAL := Lib.hid (show allTo m df df.length = df.all (hasM m) by unfold allTo; rw [List.take_length])
                  rw [HAL.out]
                  cases hal : df.all (hasM m)
                  · rw [hal] at HNX
                    simp only [Bool.false_eq_true, if_false] at HNX
                    clear hal
                    go_wp2_with fail
                    go_round
                    case rel => exact ⟨k + 1, by omega, by go_num, by rw [HNX.out]⟩
                    case measure => simp [intOf]; omega
                  · rw [hal] at HNX
                    simp only [if_true] at HNX
                    clear hal
                    go_wp2_with fail
                    go_round
                    case rel => exact ⟨k + 1, by omega, by go_num, by rw [HNX.out]⟩
                    case measure => simp [intOf]; omega
            · have ek : k = l.length := by omega
              subst ek
              rw [List.take_length]
              have hm8 := rnd_lt nm l r hr8
              have HREP := Lib.hid (show rnd l nm r = Nat.repeat (rnd l nm) (n + 1) m0 by rw [hrep.out]; rfl)
              generalize rnd l nm r = m at *
              go_wp2_with fail
              go_round
              case rel => exact ⟨n + 1, m, by omega, by go_num, rfl, hm8, HREP⟩
              case measure => simp [intOf]; omega
        · have en : n = 3 := by omega
          subst en
          have HRR := Lib.hid (show clo l nm cols = varsL r by rw [HCL.out, hrep.out]; rfl)
          clear hrep
          go_wp2_with fail
          go_loopw [13, 14] (fun o i wr => ∃ (k : Nat), k ≤ 3 ∧ i = .int .i64 k ∧ OwnI wr w.heap.size 3 o (varsTo r k) ∧ Below w.heap.size w wr) (fun _ i _ => 3 - (intOf i).toNat)
          case atStart => exact ⟨0, Nat.zero_le _, rfl, HW.out.1, HW.out.2⟩
          case round =>
            obtain ⟨k, hk, rfl, hown, hb⟩ := hrel
            have HB := Lib.hid hb
            have hbs := hb.size
            by_cases hlt : k < 3
            · have hbit := QrySpec.bit_at (s := r) (by omega) k
              have p1 : (0 : Int) ≤ (k : Int) := by omega
              have p2 : (k : Int) < 3 := by omega
              have p3 : (k : Int) ≤ 64 := by omega
              have p4 : ((k : Int)).toNat = k := by omega
              have hlen : (varsTo r k).length + 1 ≤ 1000000000000 := by have := varsTo_len r k; omega
              by_cases hx : r / 2 ^ k % 2 = 1
              · have HNX := Lib.hid (varsTo_yes hx)
                rw [hx] at hbit
                clear hx hb
                generalize varsTo r k = out at *
                go_wp2_with (first | (at_builtin; refine wp_appendI rfl (.tmp 114) (.tmp 116) 25 rfl w.heap.size 3 Try.underlying25 info_i64 _ _ rfl hown _ rfl hlen hbs ?_))
                intro v' w5 hown5 hb5
                go_wp2_with fail
                go_roundw
                case rel => exact ⟨k + 1, by omega, by go_num, by rw [HNX.out]; exact hown5, HB.out.trans hb5⟩
                case measure => simp [intOf]; omega
              · have HNX := Lib.hid (varsTo_no hx)
                have hz : r / 2 ^ k % 2 = 0 := by omega
                rw [hz] at hbit
                clear hx hb hz
                go_wp2_with fail
                go_roundw
                case rel => exact ⟨k + 1, by omega, by go_num, by rw [HNX.out]; exact hown, HB.out⟩
                case measure => simp [intOf]; omega
            · have ek : k = 3 := by omega
              subst ek
              have HO := Lib.hid hown
              have HV3 := Lib.hid (vars_three r hr8)
              clear hown hb
              go_wp2_with fail
              go_ret
              exact ⟨_, _, rfl, Cd.ow_of_own (by rw [HRR.out, ← HV3.out]; exact HO.out) (by rw [HRR.out]; exact inr_vars8 r hr8), Cd.own_nodup, HB.out⟩
end Go.Proofs.Ytnoennmhifmolaa.DepClo
