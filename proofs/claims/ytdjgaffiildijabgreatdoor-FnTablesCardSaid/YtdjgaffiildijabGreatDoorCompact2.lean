/- Tables: the walk of the library's CompactFunc at this program. -/
import Derived.Test.YtdjgaffiildijabGreatDoorCompact
namespace Go.Proofs.YtdjgaffiildijabGreatDoor.TabImp
open Go Go.RowKit Byt Ints IntsLaw Cd Rows2 Tab TabSpec Exact

def CompAns (g cap : Nat) (S : Nat → Prop) (l : List (List Int)) (w : World) (e : Ending) (w' : World) : Prop :=
  e = .returned (.slice (some ⟨g, 0, none⟩) (compT l l.length).length cap) ∧ Lie w' g S (compT l l.length) ∧ Cd.Touch [g] w w'
theorem touch_drewN (fp : List Nat) (w : World) (m : Nat) : Cd.Touch fp w (w.drewN m) := ⟨rfl, rfl, rfl, Nat.le_refl _, fun _ _ _ => rfl⟩
theorem touch_setCells (w : World) (g c : Nat) (vs : List Value) : Cd.Touch [g] w (w.setCells g c vs) := by
  induction vs generalizing w c with
  | nil => exact Cd.Touch.refl _ _
  | cons v vs ih => exact (touch_setCell w g c v).trans (ih _ _)
theorem take_snoc_set {α : Type} {l : List α} {c : Nat} {x : α} (hc : c < l.length) : (l.set c x).take (c + 1) = l.take c ++ [x] := by
  rw [List.take_succ_eq_append_getElem (by simpa using hc), List.getElem_set_self, List.take_set_of_le (Nat.le_refl _)]

set_option maxRecDepth 100000 in
set_option maxHeartbeats 3200000 in
theorem compact (g cap : Nat) (S : Nat → Prop) (l : List (List Int)) (w : World) (hl : Lie w g S l) (hS : ¬ S g) (hcap : l.length ≤ cap) (hcm : cap ≤ 1048577) :
    Calls Tryz.prog 68 #[.slice (some ⟨g, 0, none⟩) l.length cap, .func (.func 69) #[] #[]] w fun e w' => CompAns g cap S l w e w' := by
  by_cases h2 : l.length < 2
  · have e1 : compT l l.length = l := by
      match l, h2 with
      | [], _ => rfl
      | [x], _ => rfl
    have HZ := Lib.hid e1
    have HL := Lib.hid hl
    clear e1 hl
    go_enter Tryz.func68, Tryz.ntmps68
    go_wp2_with fail
    go_ret
    exact ⟨by rw [HZ.out]; rfl, by rw [HZ.out]; exact HL.out, Cd.Touch.refl _ _⟩
  have HL := Lib.hid hl
  have HS := Lib.hid hS
  clear hl hS
  go_enter Tryz.func68, Tryz.ntmps68
  go_wp2_with fail
  go_loopw [5] (fun i wr => ∃ k m : Nat, 1 ≤ k ∧ k ≤ l.length ∧ i = .int .i64 k ∧ Hid (compT l k = l.take k) ∧ wr = w.drewN m) (fun i _ => l.length - (intOf i).toNat)
  case atStart => exact ⟨1, 0, Nat.le_refl _, by omega, rfl, Lib.hid (by
    rw [List.take_succ_eq_append_getElem (show 0 < l.length by omega)]
    exact compT_new (l := l) (k := 0) (by omega) (.inl rfl)), rfl⟩
  case round =>
    obtain ⟨k, m, hk1, hk, rfl, hct, hwr⟩ := hrel
    have HWR := Lib.hid hwr
    have HLW := Lib.hid (show Lie wr g S l by rw [hwr]; exact HL.out.drewN m)
    have HTW := Lib.hid (show Cd.Touch [g] w wr by rw [hwr]; exact touch_drewN _ _ _)
    clear hwr
    by_cases hlt : k < l.length
    · obtain ⟨j, hj⟩ : ∃ j, k = j + 1 := ⟨k - 1, by omega⟩
      have hjl : j < l.length := by omega
      obtain ⟨u, hc, _, hu⟩ := HLW.out k hlt
      obtain ⟨u', hc', _, hu'⟩ := HLW.out j hjl
      have p1 : (0 : Int) ≤ (k : Int) := by omega
      have p2 : (k : Int) < (l.length : Int) := by omega
      have p3 : (k : Int) - 1 = (j : Int) := by omega
      have p4 : (0 : Int) ≤ (j : Int) := by omega
      have p5 : (j : Int) < (l.length : Int) := by omega
      by_cases hz : l[k] = l[j]
      case neg =>
        have HC := Lib.hid (fun q => slices_equal_at (row_ri (rd_drewN hu q)).1 (row_ri (rd_drewN hu' q)).1 (decide_eq_false hz))
        have hct2 := Lib.hid (show compT l (k + 1) = l.take (k + 1) by
          rw [compT_new hlt (.inr ⟨by omega, by simp only [hj, Nat.add_sub_cancel]; simp only [hj] at hz; exact hz⟩), hct.out, List.take_succ_eq_append_getElem hlt])
        clear hz hu hu' hj
        go_wp2
        go_quiet (first | (go_at_call 69; refine Calls.quiet_of (HC.out _)))
        go_wp2
        go_roundw
        case rel => exact ⟨k + 1, _, by omega, by omega, by go_num, hct2, by rw [HWR.out, World.drewN_drewN]⟩
        case measure => simp [intOf]; omega
      have HC := Lib.hid (fun q => slices_equal_at (row_ri (rd_drewN hu q)).1 (row_ri (rd_drewN hu' q)).1 (decide_eq_true hz))
      have hct2 := Lib.hid (show compT l (k + 1) = l.take k by
        rw [compT_same (by omega) hlt (by simp only [hj, Nat.add_sub_cancel]; simp only [hj] at hz; exact hz), hct.out])
      have p6 : ¬ (cap = k) := by omega
      have p7 : k ≤ cap := by omega
      clear hz hu hu' hj
      go_wp2
      go_quiet (first | (go_at_call 69; refine Calls.quiet_of (HC.out _)))
      have HLX := Lib.hid (show Lie (wr.drewN nq) g S l from HLW.out.drewN nq)
      have HTX := Lib.hid (show Cd.Touch [g] w (wr.drewN nq) from HTW.out.trans (touch_drewN _ _ _))
      generalize wr.drewN nq = wx at *
      clear hc hc' HC HLW HTW HWR
      go_wp2
      go_loopw [5, 7] (fun s5 s7 wr => ∃ (q c : Nat) (cur : List (List Int)), 1 ≤ q ∧ k + q ≤ l.length ∧ c + 1 ≤ k + q ∧ cur.length = l.length ∧ s5 = .int .i64 c ∧ s7 = .int .i64 q ∧ Hid (Lie wr g S cur) ∧ Hid (cur.take c = compT l (k + q)) ∧ Hid (∀ t, k + q ≤ t + 1 → cur[t]? = l[t]?) ∧ Hid (Cd.Touch [g] w wr)) (fun _ s7 _ => l.length - (intOf s7).toNat)
      case atStart => exact ⟨1, k, l, Nat.le_refl _, by omega, by omega, rfl, rfl, rfl, HLX, Lib.hid hct2.out.symm, Lib.hid (fun t _ => rfl), HTX⟩
      case round =>
        clear HLX HTX
        obtain ⟨q, c, cur, hq1, hq, hcq, hcl, rfl, rfl, HLY, HTK, HSM, HTY⟩ := hrel
        have HCL := Lib.hid hcl
        clear hcl
        by_cases hq2 : q < l.length - k
        · obtain ⟨j, hj⟩ : ∃ j, q = j + 1 := ⟨q - 1, by omega⟩
          have hkq : k + q < l.length := by omega
          have hkj : k + j < l.length := by omega
          have hcl2 : c < l.length := by omega
          have e1 : cur[k + q]'(by rw [HCL.out]; exact hkq) = l[k + q] := by
            have := HSM.out (k + q) (by omega)
            rw [List.getElem?_eq_getElem (by rw [HCL.out]; exact hkq), List.getElem?_eq_getElem hkq] at this
            injection this
          have e2 : cur[k + j]'(by rw [HCL.out]; exact hkj) = l[k + j] := by
            have := HSM.out (k + j) (by omega)
            rw [List.getElem?_eq_getElem (by rw [HCL.out]; exact hkj), List.getElem?_eq_getElem hkj] at this
            injection this
          obtain ⟨u, hc, _, hu⟩ := HLY.out (k + q) (by rw [HCL.out]; exact hkq)
          obtain ⟨u', hc', _, hu'⟩ := HLY.out (k + j) (by rw [HCL.out]; exact hkj)
          obtain ⟨u2, hc2, hf2, _⟩ := HLY.out c (by rw [HCL.out]; exact hcl2)
          rw [e1] at hu
          rw [e2] at hu'
          obtain ⟨au, cu, rfl, _⟩ := (row_ri hu).1
          have p8 : (0 : Int) ≤ (q : Int) := by omega
          have p9 : (q : Int) < ((l.length - k : Nat) : Int) := by omega
          have p10 : (q : Int) - 1 = (j : Int) := by omega
          have p11 : (0 : Int) ≤ (j : Int) := by omega
          have p12 : (j : Int) < ((l.length - k : Nat) : Int) := by omega
          have p13 : (0 : Int) ≤ (c : Int) := by omega
          have p14 : (c : Int) < (l.length : Int) := by omega
          by_cases hz : l[k + q] = l[k + j]
          · have HC := Lib.hid (fun z => slices_equal_at (row_ri (rd_drewN hu z)).1 (row_ri (rd_drewN hu' z)).1 (decide_eq_true hz))
            have HT2 := Lib.hid (show cur.take c = compT l (k + (q + 1)) by
              rw [← Nat.add_assoc, compT_same (by omega) hkq (by simp only [hj, ← Nat.add_assoc, Nat.add_sub_cancel]; simp only [hj, ← Nat.add_assoc] at hz; exact hz)]
              exact HTK.out)
            have HS2 := Lib.hid (show ∀ t, k + (q + 1) ≤ t + 1 → cur[t]? = l[t]? from fun t ht => HSM.out t (by omega))
            have HLYd := Lib.hid (fun z => HLY.out.drewN z)
            have HTYd := Lib.hid (fun z => HTY.out.trans (touch_drewN [g] wr z))
            clear hz hu hu' e1 e2 hj
            go_wp2
            go_quiet (first | (go_at_call 69; refine Calls.quiet_of (HC.out _)))
            go_wp2
            go_roundw
            case rel => exact ⟨q + 1, c, cur, by omega, by omega, by omega, HCL.out, rfl, by go_num, Lib.hid (HLYd.out _), HT2, HS2, Lib.hid (HTYd.out _)⟩
            case measure => simp [intOf]; omega
          · have HC := Lib.hid (fun z => slices_equal_at (row_ri (rd_drewN hu z)).1 (row_ri (rd_drewN hu' z)).1 (decide_eq_false hz))
            have HT2 := Lib.hid (show (cur.set c l[k + q]).take (c + 1) = compT l (k + (q + 1)) by
              rw [take_snoc_set (by rw [HCL.out]; exact hcl2), HTK.out, ← Nat.add_assoc, compT_new hkq (.inr ⟨by omega, by simp only [hj, ← Nat.add_assoc, Nat.add_sub_cancel]; simp only [hj, ← Nat.add_assoc] at hz; exact hz⟩)])
            have HS2 := Lib.hid (show ∀ t, k + (q + 1) ≤ t + 1 → (cur.set c l[k + q])[t]? = l[t]? from fun t ht => by
              rw [List.getElem?_set_ne (by omega)]
              exact HSM.out t (by omega))
            have HLYd := Lib.hid (fun z => (HLY.out.drewN z).set HS.out (c := c) (by rw [HCL.out]; exact hcl2) (rd_drewN hu z))
            have HTYd := Lib.hid (fun z => (HTY.out.trans (touch_drewN [g] wr z)).trans (touch_setCell _ g c (.slice au l[k + q].length cu)))
            have HCL2 := Lib.hid (show (cur.set c l[k + q]).length = l.length by rw [List.length_set]; exact HCL.out)
            clear hz hu hu' e1 e2 hj
            go_wp2
            go_quiet (first | (go_at_call 69; refine Calls.quiet_of (HC.out _)))
            go_wp2
            go_roundw
            case rel => exact ⟨q + 1, c + 1, _, by omega, by omega, by omega, HCL2.out, by go_num, by go_num, Lib.hid (HLYd.out _), HT2, HS2, Lib.hid (HTYd.out _)⟩
            case measure => simp [intOf]; omega
        · have eq : q = l.length - k := by omega
          have HTK2 := Lib.hid (show cur.take c = compT l l.length by rw [HTK.out, eq, show k + (l.length - k) = l.length by omega])
          have hc0 : c < l.length := by omega
          have p15 : ¬ (cap = c) := by omega
          have p16 : c ≤ l.length := by omega
          have p17 : c ≤ cap := by omega
          have hcl : ∀ ty, (Builtin.clear_ #[32] ty #[.slice (some ⟨g, c, none⟩) (l.length - c) (cap - c)]).run Tryz.prog wr = .ok (.tuple #[]) (wr.setCells g c (List.replicate (l.length - c) (.slice none 0 0))) := fun ty =>
            Lib.run_clear_slice wr 32 35 ty (.slice none 0 0) Tryz.underlying32 Tryz.zeroValue35 rfl rfl g c _ _ (by omega)
              (fun z hz => by obtain ⟨u, hc, _, _⟩ := HLY.out (c + z) (by rw [HCL.out]; omega); rw [hc]; rfl)
              (fun z hz => by obtain ⟨u, _, hf, _⟩ := HLY.out (c + z) (by rw [HCL.out]; omega); exact hf)
          have HLZ := Lib.hid (show Lie (wr.setCells g c (List.replicate (l.length - c) (.slice none 0 0))) g S (compT l l.length) by
            rw [← HTK2.out]
            refine (HLY.out.take c).far (k := c) (fun b hb hlt => (touch_setCells wr g c _).block b hlt (fun e => HS.out (by rw [← List.mem_singleton.1 e]; exact hb))) (fun t ht => World.cell?_setCells_out g _ c wr _ (fun _ _ => .inl ht)) (fun t ht => World.frozen?_setCells g _ c wr _) (by rw [List.length_take]; omega))
          have HTZ := Lib.hid (show Cd.Touch [g] w (wr.setCells g c (List.replicate (l.length - c) (.slice none 0 0))) from HTY.out.trans (touch_setCells wr g c _))
          have HLEN := Lib.hid (show (compT l l.length).length = c by rw [← HTK2.out, List.length_take, HCL.out]; omega)
          clear eq
          go_wp2
          go_ret
          exact ⟨by rw [HLEN.out]; rfl, HLZ.out, HTZ.out⟩
    · have ek : k = l.length := by omega
      have HCT := Lib.hid (show compT l l.length = l by rw [← ek, hct.out, ek, List.take_length])
      clear ek
      go_wp2
      go_ret
      exact ⟨by rw [HCT.out]; rfl, by rw [HCT.out]; exact HLW.out, HTW.out⟩
end Go.Proofs.YtdjgaffiildijabGreatDoor.TabImp
