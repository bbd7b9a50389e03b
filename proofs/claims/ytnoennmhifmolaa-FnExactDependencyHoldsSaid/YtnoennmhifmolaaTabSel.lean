/- Tables: the model's choice of columns. -/
import Derived.Test.YtnoennmhifmolaaTabPut
namespace Go.Proofs.Ytnoennmhifmolaa.TabSpec
open Go Go.RowKit Byt Ints IntsLaw Cd Rows2 Tab

def SelP (row cols : List Int) : Prop := ∀ c ∈ cols, 0 ≤ c ∧ c < row.length
instance (row cols : List Int) : Decidable (SelP row cols) := by unfold SelP; infer_instance
def selOk (row cols : List Int) : Bool := decide (SelP row cols)
def selR (row cols : List Int) : List Int := cols.map fun c => row.getD c.toNat 0
def SelAns (row cols : List Int) (w : World) (e : Ending) (w' : World) : Prop :=
  ∃ u' fp, e = .returned (.tuple #[u', .bool (selOk row cols)]) ∧ rowC.ow w' w.heap.size [u'] (if selOk row cols then selR row cols else []) fp ∧ fp.Nodup ∧ Below w.heap.size w w'
theorem selR_next {row cols : List Int} {k : Nat} (h : k < cols.length) {t : Nat} (ht : t < row.length) (he : cols[k] = (t : Int)) : selR row (cols.take (k + 1)) = selR row (cols.take k) ++ [row[t]] := by
  unfold selR
  rw [List.take_succ_eq_append_getElem h, List.map_append, List.map_singleton, he, Int.toNat_natCast]
  simp [ht]
theorem inr_sel {row cols : List Int} (hr : InR row) : InR (selR row cols) := by
  intro x hx
  simp [selR] at hx
  obtain ⟨c, _, rfl⟩ := hx
  by_cases h : c.toNat < row.length
  · rw [List.getElem?_eq_getElem h]
    exact hr _ (List.getElem_mem h)
  · rw [List.getElem?_eq_none (by omega)]
    simp

set_option maxRecDepth 100000 in
set_option maxHeartbeats 3200000 in
theorem spec_select (v c : Value) (row cols : List Int) (S S2 : Nat → Prop) (w : World) (hv : rowC.rd w S [v] row) (hc : rowC.rd w S2 [c] cols) (hcl : cols.length ≤ 1048577) :
    Calls Try.prog 65 #[v, c] w fun e w' => SelAns row cols w e w' := by
  have HV := Lib.hid (fun w' (hb : Below w.heap.size w w') => row_ri (Cd.later hv hb))
  have HCO := Lib.hid (fun w' (hb : Below w.heap.size w w') => row_ri (Cd.later hc hb))
  have HIN := Lib.hid (row_ri hv).2
  obtain ⟨av, cv, rfl, hrl, _⟩ := (row_ri hv).1
  obtain ⟨ac, cc, rfl, _⟩ := (row_ri hc).1
  have HW := Lib.hid (And.intro (Ints.OwnI.empty w w.heap.size 3 (Nat.le_refl _)) (below_alloc w (.cells #[] 3)))
  clear hv hc
  go_enter Try.func65, Try.ntmps65
  go_wp2_with fail
  go_loopw [6, 7] (fun o i wr => ∃ (k : Nat), k ≤ cols.length ∧ i = .int .i64 k ∧ Hid (SelP row (cols.take k)) ∧ OwnI wr w.heap.size 3 o (selR row (cols.take k)) ∧ Below w.heap.size w wr) (fun _ i _ => cols.length - (intOf i).toNat)
  case atStart => exact ⟨0, Nat.zero_le _, rfl, Lib.hid (fun x hx => by simp at hx), by simpa [selR] using HW.out.1, HW.out.2⟩
  case round =>
    obtain ⟨k, hk, rfl, hsel, hown, hb⟩ := hrel
    by_cases hlt : k < cols.length
    · obtain ⟨b, off, cap', e1, hbB, hcell⟩ := ri_at (HCO.out wr hb).1 hlt
      injection e1 with e1 e2 e3
      subst e1 e3
      have HB := Lib.hid hb
      have hbs := hb.size
      by_cases hx : 0 ≤ cols[k] ∧ cols[k] < row.length
      · obtain ⟨t, ht⟩ := Int.eq_ofNat_of_zero_le hx.1
        have htl : t < row.length := by omega
        obtain ⟨b2, off2, cap', e1, hbB2, hcell2⟩ := ri_at (HV.out wr hb).1 htl
        injection e1 with e1 e2 e3
        subst e1 e3
        have HI := Lib.hid (fun w => Fixed.l1In_yes (x := cols[k]) (a := 0) (b := (row.length : Int) - 1) hx.1 (by omega) w)
        have hsel2 := Lib.hid (show SelP row (cols.take (k + 1)) by
          intro x hx'
          rw [List.take_succ_eq_append_getElem hlt] at hx'
          rcases List.mem_append.1 hx' with q | q
          · exact hsel.out x q
          · rw [List.mem_singleton.1 q]; exact hx)
        have HNX := Lib.hid (selR_next hlt htl ht)
        have hlen : (selR row (cols.take k)).length + 1 ≤ 1000000000000 := by unfold selR; rw [List.length_map, List.length_take]; omega
        have p1 : (0 : Int) ≤ (t : Int) := by omega
        have p2 : (t : Int) < (row.length : Int) := by omega
        rw [ht] at hcell HI
        clear hx ht hb
        generalize selR row (cols.take k) = out at *
        go_wp2_with (first | (go_at_call 59; refine (HI.out _).mono ?_; rintro e w1 ⟨rfl, rfl⟩) | (at_builtin; refine wp_appendI rfl (.tmp 25) (.tmp 33) 25 rfl w.heap.size 3 Try.underlying25 info_i64 _ _ rfl hown _ rfl hlen hbs ?_))
        intro v' w5 hown5 hb5
        go_wp2_with fail
        go_roundw
        case rel => exact ⟨k + 1, by omega, by go_num, hsel2, by rw [HNX.out]; exact hown5, HB.out.trans hb5⟩
        case measure => simp [intOf]; omega
      · have HI := Lib.hid (fun w => Fixed.l1In_no (x := cols[k]) (a := 0) (b := (row.length : Int) - 1) (fun q => hx ⟨q.1, by omega⟩) w)
        have HZ := Lib.hid (show selOk row cols = false from decide_eq_false fun q => hx (q _ (List.getElem_mem hlt)))
        have HE := Lib.hid (And.intro (Ints.OwnI.empty wr w.heap.size 3 hbs) (hb.alloc hbs (.cells #[] 3)))
        clear hx hb
        go_wp2_with (first | (go_at_call 59; refine (HI.out _).mono ?_; rintro e w1 ⟨rfl, rfl⟩))
        go_ret2
        exact ⟨_, _, by rw [HZ.out]; rfl, by rw [HZ.out]; exact Cd.ow_of_own HE.out.1 (fun x hx => by cases hx), Cd.own_nodup, HE.out.2⟩
    · have ek : k = cols.length := by omega
      subst ek
      have hs := hsel.out
      rw [List.take_length] at hs hown
      have HZ := Lib.hid (show selOk row cols = true from decide_eq_true hs)
      have HO := Lib.hid hown
      have HB := Lib.hid hb
      clear hs hown hb
      go_wp2_with fail
      go_ret2
      exact ⟨_, _, by rw [HZ.out]; rfl, by rw [HZ.out]; exact Cd.ow_of_own HO.out (inr_sel HIN.out), Cd.own_nodup, HB.out⟩
end Go.Proofs.Ytnoennmhifmolaa.TabSpec
