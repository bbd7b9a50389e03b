/- Tables: the model's functions that make rows. -/
import Derived.Test.YthnphlgkkfdnlaaDoorTabSpec2
namespace Go.Proofs.YthnphlgkkfdnlaaDoor.TabSpec
open Go Go.RowKit Byt Ints IntsLaw Cd Rows2 Tab

/-- Behind a copy of a row, and the block that holds it: what is owned, and apart. -/
theorem copied {α β : Type} {e : TypeId} {c : Cd α} {d : Cd β} {X w2 : World} {H : Nat} {o v1 : Value} {out : α} {r : β} {fp f1 : List Nat} (how : c.ow X H [o] out fp) (hH : H ≤ X.heap.size)
    (ho1 : d.ow w2 H [v1] r f1) (hs1 : ∀ b ∈ f1, b = X.heap.size ∨ X.heap.size + 1 ≤ b) (ht1 : Cd.Touch [X.heap.size] (X.alloc (.cells #[] e)) w2) (o2 : Obj) :
    c.ow (w2.alloc o2) H [o] out fp ∧ d.ow (w2.alloc o2) H [v1] r f1 ∧ (∀ b ∈ f1, b ∉ fp) ∧ Below X.heap.size X (w2.alloc o2) ∧ H ≤ (w2.alloc o2).heap.size := by
  have hge : ∀ b ∈ f1, X.heap.size ≤ b := fun b hb => by
    rcases hs1 b hb with q | q
    · omega
    · omega
  have hlt : ∀ b ∈ fp, b < X.heap.size := fun b hb => (c.ow_lt how b hb).2
  have h1 := Cd.ow_later how (below_alloc X (.cells #[] e))
  have h2 := Cd.ow_touched h1 ht1 (fun b hb q => by have := hlt b hb; rw [List.mem_singleton.1 q] at this; omega)
  have h3 := Cd.ow_later h2 (below_alloc w2 o2)
  have hb : Below X.heap.size X w2 := Cd.Touch.below (below_alloc X _) ht1 (fun b hb => by rw [List.mem_singleton.1 hb]; exact Nat.le_refl _)
  refine ⟨h3, Cd.ow_later ho1 (below_alloc w2 o2), fun b hb q => ?_, below_then hb (below_alloc w2 o2), ?_⟩
  · have := hge b hb
    have := hlt b q
    omega
  · rw [size_alloc]
    have := hb.size
    omega

/-- One row of putting row into rows: what is written, and whether row is in it. -/
def putStep (row : List Int) (st : List (List Int) × Bool) (r : List Int) : List (List Int) × Bool :=
  if cmpR r row = 0 then (st.1 ++ [r], true) else if 0 < cmpR r row ∧ st.2 = false then (st.1 ++ [row] ++ [r], true) else (st.1 ++ [r], st.2)
def putF (rows : List (List Int)) (row : List Int) : List (List Int) × Bool := rows.foldl (putStep row) ([], false)
def putR (rows : List (List Int)) (row : List Int) : List (List Int) := if (putF rows row).2 then (putF rows row).1 else (putF rows row).1 ++ [row]
theorem putF_next {rows : List (List Int)} {row : List Int} {k : Nat} (h : k < rows.length) : putF (rows.take (k + 1)) row = putStep row (putF (rows.take k) row) rows[k] := by
  unfold putF
  rw [List.take_succ_eq_append_getElem h, List.foldl_append]
  rfl
theorem putStep_len (row : List Int) (st : List (List Int) × Bool) (r : List Int) (n : Nat) (h : st.1.length + (!st.2).toNat ≤ n) : (putStep row st r).1.length + (!(putStep row st r).2).toNat ≤ n + 1 := by
  obtain ⟨o, p⟩ := st
  unfold putStep
  by_cases h1 : cmpR r row = 0
  · rw [if_pos h1]
    cases p <;> simp at * <;> omega
  · rw [if_neg h1]
    cases p with
    | false =>
      simp at h
      by_cases h2 : 0 < cmpR r row
      · rw [if_pos ⟨h2, rfl⟩]; simp; omega
      · rw [if_neg (fun q => h2 q.1)]; simp; omega
    | true =>
      simp at h
      rw [if_neg (fun q => by simp at q)]; simp; omega
theorem putF_len (rows : List (List Int)) (row : List Int) : (putF rows row).1.length + (!(putF rows row).2).toNat ≤ rows.length + 1 := by
  have : ∀ (l : List (List Int)) (st : List (List Int) × Bool) (n : Nat), st.1.length + (!st.2).toNat ≤ n → (l.foldl (putStep row) st).1.length + (!(l.foldl (putStep row) st).2).toNat ≤ n + l.length := by
    intro l
    induction l with
    | nil => intro st n h; simpa using h
    | cons r rs ih =>
      intro st n h
      have := ih (putStep row st r) (n + 1) (putStep_len row st r n h)
      rw [List.foldl_cons, List.length_cons]
      omega
  have h := this rows ([], false) 1 (by simp)
  unfold putF
  omega

set_option maxRecDepth 100000 in
set_option maxHeartbeats 3200000 in
theorem spec_put (u v : Value) (rows : List (List Int)) (row : List Int) (S S2 : Nat → Prop) (w : World) (hr : rowsC.rd w S [u] rows) (hv : rowC.rd w S2 [v] row) (hrw : rowsWt rows ≤ 1073741824) (hrl : row.length ≤ 1073741824) :
    Calls Tryd.prog 57 #[u, v] w fun e w' => ∃ v' fp, e = .returned v' ∧ rowsC.ow w' w.heap.size [v'] (putR rows row) fp ∧ fp.Nodup ∧ Below w.heap.size w w' := by
  have HR := Lib.hid (fun w' (hb : Below w.heap.size w w') => Cd.later hr hb)
  have HV := Lib.hid (fun w' (hb : Below w.heap.size w w') => Cd.later hv hb)
  have HWT := Lib.hid hrw
  have HRL := Lib.hid hrl
  have hll : rows.length ≤ 1073741824 := by unfold rowsWt at hrw; omega
  obtain ⟨a, cap, rfl, hlm⟩ := rows_form hr
  obtain ⟨av, cv, rfl, _⟩ := (row_ri hv).1
  have HW := Lib.hid (And.intro (Cd.ow_empty (e := 31) (c := rowC) w w.heap.size (Nat.le_refl _)) (below_alloc w (.cells #[] 31)))
  clear hr hv hrw hrl
  go_enter Tryd.func57, Tryd.ntmps57
  go_wp2_with fail
  go_loopw [5, 6, 7] (fun o p i wr => ∃ (k : Nat) (fp : List Nat), k ≤ rows.length ∧ i = .int .i64 k ∧ p = .bool (putF (rows.take k) row).2 ∧ rowsC.ow wr w.heap.size [o] (putF (rows.take k) row).1 fp ∧ fp.Nodup ∧ Below w.heap.size w wr) (fun _ _ i _ => rows.length - (intOf i).toNat)
  case atStart => exact ⟨0, _, Nat.zero_le _, rfl, rfl, HW.out.1, by simp, HW.out.2⟩
  case round =>
    obtain ⟨k, fp, hk, rfl, rfl, how, hnd, hb⟩ := hrel
    have HOW := Lib.hid how
    have HND := Lib.hid hnd
    have HB := Lib.hid hb
    have HLN := Lib.hid (putF_len (rows.take k) row)
    obtain ⟨ao, co, rfl⟩ := Cd.ow_slice how
    clear how hnd hb
    by_cases hlt : k < rows.length
    · have HNX := Lib.hid (putF_next (row := row) hlt)
      have HKL := Lib.hid (show (rows.take k).length = k by rw [List.length_take]; omega)
      have HRK := Lib.hid (row_len hlt)
      obtain ⟨b, off, cap', v', e1, hbB, hc, hv'⟩ := rows_at (HR.out wr HB.out) hlt
      injection e1 with e1 e2 e3
      subst e1 e3
      have HC := Lib.hid (spec_cmp v' _ rows[k] row _ _ wr (row_ri hv').1 (row_ri (HV.out wr HB.out)).1)
      have hbd := cmpR_bd rows[k] row
      have HST := Lib.hid (show putStep row (putF (rows.take k) row) rows[k] = (if cmpR rows[k] row = 0 then ((putF (rows.take k) row).1 ++ [rows[k]], true) else if 0 < cmpR rows[k] row ∧ (putF (rows.take k) row).2 = false then ((putF (rows.take k) row).1 ++ [row] ++ [rows[k]], true) else ((putF (rows.take k) row).1 ++ [rows[k]], (putF (rows.take k) row).2)) from rfl)
      clear hv'
      generalize putF (rows.take k) row = st at *
      obtain ⟨out, p⟩ := st
      simp only at *
      generalize cmpR rows[k] row = z at *
      have HL1 := Lib.hid (show out.length + 1 + 1 ≤ 1000000000000 by have := HLN.out; have := HKL.out; simp at *; omega)
      have HL2 := Lib.hid (show rows[k].length ≤ 1073741824 by have := HWT.out; have := HRK.out; unfold rowsWt at *; omega)
      go_wp2_with fail
      refine HC.out.mono ?_
      rintro e w1 ⟨rfl, hq⟩
      have hb1 := below_q hq
      have HB1 := Lib.hid (below_then HB.out hb1)
      have HOW1 := Lib.hid (Cd.ow_later HOW.out hb1)
      clear hq hb1 hc HC
      by_cases hz : z = 0
      · have HE := Lib.hid (show putStep row (out, p) rows[k] = (out ++ [rows[k]], true) by rw [HST.out, if_pos hz])
        subst hz
        obtain ⟨bx, offx, cap', v', e1, hbB, hc, hv'⟩ := rows_at (HR.out w1 HB1.out) hlt
        injection e1 with e1 e2 e3
        injection e1 with e1
        injection e1 with e1 e2 _
        subst e1 e2 e3
        have hc2 : (w1.alloc (.cells #[] 3)).cell? ⟨b, off + k, none⟩ = some v' := ((below_alloc w1 _).cell (World.block_lt_of_cell? w1 _ hc)).trans hc
        have HROWK := Lib.hid (show rowC.rd w1 S [v'] rows[k] from hv')
        clear hc hv'
        go_wp2_with (at_builtin; refine Cd.wpList_appendRI rfl (.tmp 37) (.tmp 41) 31 rfl w.heap.size 3 Tryd.underlying31 info_i64 _ [] _ rfl (Cd.ow_empty _ _ HB1.out.size) v' rows[k] _ rfl (Cd.later HROWK.out (below_alloc _ _)) (by have := HL2.out; simp; omega) (Nat.le_trans HB1.out.size (below_alloc _ _).size) ?_)
        intro v1A w2A f1A ho1A hn1A hs1A ht1A
        obtain ⟨a1A, c1A, rfl⟩ := Cd.ow_slice ho1A
        obtain ⟨k1, k2, k3, k4, k5⟩ := copied (c := rowsC) (d := rowC) HOW1.out HB1.out.size ho1A hs1A ht1A (.cells #[.slice a1A (rows[k]).length c1A] 31)
        have kc : (w2A.alloc (.cells #[.slice a1A (rows[k]).length c1A] 31)).cell? ⟨w2A.heap.size, 0, none⟩ = some (.slice a1A (rows[k]).length c1A) := by simp
        have A1 := Lib.hid k1
        have A2 := Lib.hid k2
        have A3 := Lib.hid k3
        have A4 := Lib.hid (below_then HB1.out k4)
        have A5 := Lib.hid k5
        have A6 := Lib.hid kc
        have A7 := Lib.hid hn1A
        clear k1 k2 k3 k4 k5 kc ho1A hs1A ht1A hn1A
        go_wp2_with (at_builtin; refine Cd.wpList_appendE (c := rowC) rfl rfl (.tmp 36) (.tmp 43) 40 rfl w.heap.size 31 (.slice none 0 0) 24 Tryd.underlying40 info_ints rfl (by decide) _ _ _ rfl A1.out HND.out _ _ rfl A6.out _ _ A2.out A7.out A3.out (by have := HL1.out; omega) A5.out ?_)
        intro gA capA w3A Afp ho3 hn3 hs3 ht3
        have Ao := Lib.hid ho3
        have An := Lib.hid hn3
        have Ab := Lib.hid (Cd.Touch.below A4.out ht3 (fun b hb => (rowsC.ow_lt A1.out b hb).1))
        have As := Lib.hid (A4.out.size)
        clear ho3 hn3 hs3 ht3
        go_wp2_with fail
        go_roundw
        case rel => exact ⟨k + 1, _, by omega, by go_num, by rw [HNX.out, HE.out], by rw [HNX.out, HE.out]; exact Ao.out, An.out, Ab.out⟩
        case measure => simp [intOf]; omega
      · by_cases hz2 : 0 < z
        · cases p with
          | false =>
            have HE := Lib.hid (show putStep row (out, false) rows[k] = (out ++ [row] ++ [rows[k]], true) by rw [HST.out, if_neg hz, if_pos ⟨hz2, rfl⟩])
            go_wp2_with (at_builtin; refine Cd.wpList_appendRI rfl (.tmp 31) (.tmp 32) 31 rfl w.heap.size 3 Tryd.underlying31 info_i64 _ [] _ rfl (Cd.ow_empty _ _ HB1.out.size) (.slice av row.length cv) row _ rfl (Cd.later (HV.out _ HB1.out) (below_alloc _ _)) (by have := HRL.out; simp; omega) (Nat.le_trans HB1.out.size (below_alloc _ _).size) ?_)
            intro v1A w2A f1A ho1A hn1A hs1A ht1A
            obtain ⟨a1A, c1A, rfl⟩ := Cd.ow_slice ho1A
            obtain ⟨k1, k2, k3, k4, k5⟩ := copied (c := rowsC) (d := rowC) HOW1.out HB1.out.size ho1A hs1A ht1A (.cells #[.slice a1A (row).length c1A] 31)
            have kc : (w2A.alloc (.cells #[.slice a1A (row).length c1A] 31)).cell? ⟨w2A.heap.size, 0, none⟩ = some (.slice a1A (row).length c1A) := by simp
            have A1 := Lib.hid k1
            have A2 := Lib.hid k2
            have A3 := Lib.hid k3
            have A4 := Lib.hid (below_then HB1.out k4)
            have A5 := Lib.hid k5
            have A6 := Lib.hid kc
            have A7 := Lib.hid hn1A
            clear k1 k2 k3 k4 k5 kc ho1A hs1A ht1A hn1A
            go_wp2_with (at_builtin; refine Cd.wpList_appendE (c := rowC) rfl rfl (.tmp 30) (.tmp 34) 40 rfl w.heap.size 31 (.slice none 0 0) 24 Tryd.underlying40 info_ints rfl (by decide) _ _ _ rfl A1.out HND.out _ _ rfl A6.out _ _ A2.out A7.out A3.out (by have := HL1.out; omega) A5.out ?_)
            intro gA capA w3A Afp ho3 hn3 hs3 ht3
            have Ao := Lib.hid ho3
            have An := Lib.hid hn3
            have Ab := Lib.hid (Cd.Touch.below A4.out ht3 (fun b hb => (rowsC.ow_lt A1.out b hb).1))
            have As := Lib.hid (A4.out.size)
            clear ho3 hn3 hs3 ht3
            obtain ⟨bx, offx, cap', v', e1, hbB, hc, hv'⟩ := rows_at (HR.out w3A Ab.out) hlt
            injection e1 with e1 e2 e3
            injection e1 with e1
            injection e1 with e1 e2 _
            subst e1 e2 e3
            have hc2 : (w3A.alloc (.cells #[] 3)).cell? ⟨b, off + k, none⟩ = some v' := ((below_alloc w3A _).cell (World.block_lt_of_cell? w3A _ hc)).trans hc
            have HROWK := Lib.hid (show rowC.rd w3A S [v'] rows[k] from hv')
            clear hc hv'
            go_wp2_with (at_builtin; refine Cd.wpList_appendRI rfl (.tmp 37) (.tmp 41) 31 rfl w.heap.size 3 Tryd.underlying31 info_i64 _ [] _ rfl (Cd.ow_empty _ _ Ab.out.size) v' rows[k] _ rfl (Cd.later HROWK.out (below_alloc _ _)) (by have := HL2.out; simp; omega) (Nat.le_trans Ab.out.size (below_alloc _ _).size) ?_)
            intro v1B w2B f1B ho1B hn1B hs1B ht1B
            obtain ⟨a1B, c1B, rfl⟩ := Cd.ow_slice ho1B
            obtain ⟨k1, k2, k3, k4, k5⟩ := copied (c := rowsC) (d := rowC) Ao.out Ab.out.size ho1B hs1B ht1B (.cells #[.slice a1B (rows[k]).length c1B] 31)
            have kc : (w2B.alloc (.cells #[.slice a1B (rows[k]).length c1B] 31)).cell? ⟨w2B.heap.size, 0, none⟩ = some (.slice a1B (rows[k]).length c1B) := by simp
            have B1 := Lib.hid k1
            have B2 := Lib.hid k2
            have B3 := Lib.hid k3
            have B4 := Lib.hid (below_then Ab.out k4)
            have B5 := Lib.hid k5
            have B6 := Lib.hid kc
            have B7 := Lib.hid hn1B
            clear k1 k2 k3 k4 k5 kc ho1B hs1B ht1B hn1B
            go_wp2_with (at_builtin; refine Cd.wpList_appendE (c := rowC) rfl rfl (.tmp 36) (.tmp 43) 40 rfl w.heap.size 31 (.slice none 0 0) 24 Tryd.underlying40 info_ints rfl (by decide) _ _ _ rfl B1.out An.out _ _ rfl B6.out _ _ B2.out B7.out B3.out (by have := HL1.out; simp; omega) B5.out ?_)
            intro gB capB w3B Bfp ho3 hn3 hs3 ht3
            have Bo := Lib.hid ho3
            have Bn := Lib.hid hn3
            have Bb := Lib.hid (Cd.Touch.below B4.out ht3 (fun b hb => (rowsC.ow_lt B1.out b hb).1))
            have Bs := Lib.hid (B4.out.size)
            clear ho3 hn3 hs3 ht3
            go_wp2_with fail
            go_roundw
            case rel => exact ⟨k + 1, _, by omega, by go_num, by rw [HNX.out, HE.out], by rw [HNX.out, HE.out]; exact (show out ++ [row, rows[k]] = out ++ [row] ++ [rows[k]] by simp) ▸ Bo.out, Bn.out, Bb.out⟩
            case measure => simp [intOf]; omega
          | true =>
            have HE := Lib.hid (show putStep row (out, true) rows[k] = (out ++ [rows[k]], true) by rw [HST.out, if_neg hz, if_neg (fun q => by simp at q)])
            obtain ⟨bx, offx, cap', v', e1, hbB, hc, hv'⟩ := rows_at (HR.out w1 HB1.out) hlt
            injection e1 with e1 e2 e3
            injection e1 with e1
            injection e1 with e1 e2 _
            subst e1 e2 e3
            have hc2 : (w1.alloc (.cells #[] 3)).cell? ⟨b, off + k, none⟩ = some v' := ((below_alloc w1 _).cell (World.block_lt_of_cell? w1 _ hc)).trans hc
            have HROWK := Lib.hid (show rowC.rd w1 S [v'] rows[k] from hv')
            clear hc hv'
            go_wp2_with (at_builtin; refine Cd.wpList_appendRI rfl (.tmp 37) (.tmp 41) 31 rfl w.heap.size 3 Tryd.underlying31 info_i64 _ [] _ rfl (Cd.ow_empty _ _ HB1.out.size) v' rows[k] _ rfl (Cd.later HROWK.out (below_alloc _ _)) (by have := HL2.out; simp; omega) (Nat.le_trans HB1.out.size (below_alloc _ _).size) ?_)
            intro v1A w2A f1A ho1A hn1A hs1A ht1A
            obtain ⟨a1A, c1A, rfl⟩ := Cd.ow_slice ho1A
            obtain ⟨k1, k2, k3, k4, k5⟩ := copied (c := rowsC) (d := rowC) HOW1.out HB1.out.size ho1A hs1A ht1A (.cells #[.slice a1A (rows[k]).length c1A] 31)
            have kc : (w2A.alloc (.cells #[.slice a1A (rows[k]).length c1A] 31)).cell? ⟨w2A.heap.size, 0, none⟩ = some (.slice a1A (rows[k]).length c1A) := by simp
            have A1 := Lib.hid k1
            have A2 := Lib.hid k2
            have A3 := Lib.hid k3
            have A4 := Lib.hid (below_then HB1.out k4)
            have A5 := Lib.hid k5
            have A6 := Lib.hid kc
            have A7 := Lib.hid hn1A
            clear k1 k2 k3 k4 k5 kc ho1A hs1A ht1A hn1A
            go_wp2_with (at_builtin; refine Cd.wpList_appendE (c := rowC) rfl rfl (.tmp 36) (.tmp 43) 40 rfl w.heap.size 31 (.slice none 0 0) 24 Tryd.underlying40 info_ints rfl (by decide) _ _ _ rfl A1.out HND.out _ _ rfl A6.out _ _ A2.out A7.out A3.out (by have := HL1.out; omega) A5.out ?_)
            intro gA capA w3A Afp ho3 hn3 hs3 ht3
            have Ao := Lib.hid ho3
            have An := Lib.hid hn3
            have Ab := Lib.hid (Cd.Touch.below A4.out ht3 (fun b hb => (rowsC.ow_lt A1.out b hb).1))
            have As := Lib.hid (A4.out.size)
            clear ho3 hn3 hs3 ht3
            go_wp2_with fail
            go_roundw
            case rel => exact ⟨k + 1, _, by omega, by go_num, by rw [HNX.out, HE.out], by rw [HNX.out, HE.out]; exact Ao.out, An.out, Ab.out⟩
            case measure => simp [intOf]; omega
        · have HE := Lib.hid (show putStep row (out, p) rows[k] = (out ++ [rows[k]], p) by rw [HST.out, if_neg hz, if_neg (fun q => hz2 q.1)])
          obtain ⟨bx, offx, cap', v', e1, hbB, hc, hv'⟩ := rows_at (HR.out w1 HB1.out) hlt
          injection e1 with e1 e2 e3
          injection e1 with e1
          injection e1 with e1 e2 _
          subst e1 e2 e3
          have hc2 : (w1.alloc (.cells #[] 3)).cell? ⟨b, off + k, none⟩ = some v' := ((below_alloc w1 _).cell (World.block_lt_of_cell? w1 _ hc)).trans hc
          have HROWK := Lib.hid (show rowC.rd w1 S [v'] rows[k] from hv')
          clear hc hv'
          go_wp2_with (at_builtin; refine Cd.wpList_appendRI rfl (.tmp 37) (.tmp 41) 31 rfl w.heap.size 3 Tryd.underlying31 info_i64 _ [] _ rfl (Cd.ow_empty _ _ HB1.out.size) v' rows[k] _ rfl (Cd.later HROWK.out (below_alloc _ _)) (by have := HL2.out; simp; omega) (Nat.le_trans HB1.out.size (below_alloc _ _).size) ?_)
          intro v1A w2A f1A ho1A hn1A hs1A ht1A
          obtain ⟨a1A, c1A, rfl⟩ := Cd.ow_slice ho1A
          obtain ⟨k1, k2, k3, k4, k5⟩ := copied (c := rowsC) (d := rowC) HOW1.out HB1.out.size ho1A hs1A ht1A (.cells #[.slice a1A (rows[k]).length c1A] 31)
          have kc : (w2A.alloc (.cells #[.slice a1A (rows[k]).length c1A] 31)).cell? ⟨w2A.heap.size, 0, none⟩ = some (.slice a1A (rows[k]).length c1A) := by simp
          have A1 := Lib.hid k1
          have A2 := Lib.hid k2
          have A3 := Lib.hid k3
          have A4 := Lib.hid (below_then HB1.out k4)
          have A5 := Lib.hid k5
          have A6 := Lib.hid kc
          have A7 := Lib.hid hn1A
          clear k1 k2 k3 k4 k5 kc ho1A hs1A ht1A hn1A
          go_wp2_with (at_builtin; refine Cd.wpList_appendE (c := rowC) rfl rfl (.tmp 36) (.tmp 43) 40 rfl w.heap.size 31 (.slice none 0 0) 24 Tryd.underlying40 info_ints rfl (by decide) _ _ _ rfl A1.out HND.out _ _ rfl A6.out _ _ A2.out A7.out A3.out (by have := HL1.out; omega) A5.out ?_)
          intro gA capA w3A Afp ho3 hn3 hs3 ht3
          have Ao := Lib.hid ho3
          have An := Lib.hid hn3
          have Ab := Lib.hid (Cd.Touch.below A4.out ht3 (fun b hb => (rowsC.ow_lt A1.out b hb).1))
          have As := Lib.hid (A4.out.size)
          clear ho3 hn3 hs3 ht3
          go_wp2_with fail
          go_roundw
          case rel => exact ⟨k + 1, _, by omega, by go_num, by rw [HNX.out, HE.out], by rw [HNX.out, HE.out]; exact Ao.out, An.out, Ab.out⟩
          case measure => simp [intOf]; omega
    · have ek : k = rows.length := by omega
      subst ek
      rw [List.take_length] at *
      have HP := Lib.hid (show putR rows row = if (putF rows row).2 then (putF rows row).1 else (putF rows row).1 ++ [row] from rfl)
      generalize putF rows row = st at *
      obtain ⟨out, p⟩ := st
      simp only at *
      have HL1 := Lib.hid (show out.length + 1 ≤ 1000000000000 by have := HLN.out; simp at *; omega)
      cases p with
      | false =>
        have HPP := Lib.hid (show putR rows row = out ++ [row] from HP.out)
        go_wp2_with (at_builtin; refine Cd.wpList_appendRI rfl (.tmp 48) (.tmp 49) 31 rfl w.heap.size 3 Tryd.underlying31 info_i64 _ [] _ rfl (Cd.ow_empty _ _ HB.out.size) (.slice av row.length cv) row _ rfl (Cd.later (HV.out _ HB.out) (below_alloc _ _)) (by have := HRL.out; simp; omega) (Nat.le_trans HB.out.size (below_alloc _ _).size) ?_)
        intro v1A w2A f1A ho1A hn1A hs1A ht1A
        obtain ⟨a1A, c1A, rfl⟩ := Cd.ow_slice ho1A
        obtain ⟨k1, k2, k3, k4, k5⟩ := copied (c := rowsC) (d := rowC) HOW.out HB.out.size ho1A hs1A ht1A (.cells #[.slice a1A (row).length c1A] 31)
        have kc : (w2A.alloc (.cells #[.slice a1A (row).length c1A] 31)).cell? ⟨w2A.heap.size, 0, none⟩ = some (.slice a1A (row).length c1A) := by simp
        have A1 := Lib.hid k1
        have A2 := Lib.hid k2
        have A3 := Lib.hid k3
        have A4 := Lib.hid (below_then HB.out k4)
        have A5 := Lib.hid k5
        have A6 := Lib.hid kc
        have A7 := Lib.hid hn1A
        clear k1 k2 k3 k4 k5 kc ho1A hs1A ht1A hn1A
        go_wp2_with (at_builtin; refine Cd.wpList_appendE (c := rowC) rfl rfl (.tmp 47) (.tmp 51) 40 rfl w.heap.size 31 (.slice none 0 0) 24 Tryd.underlying40 info_ints rfl (by decide) _ _ _ rfl A1.out HND.out _ _ rfl A6.out _ _ A2.out A7.out A3.out HL1.out A5.out ?_)
        intro gA capA w3A Afp ho3 hn3 hs3 ht3
        have Ao := Lib.hid ho3
        have An := Lib.hid hn3
        have Ab := Lib.hid (Cd.Touch.below A4.out ht3 (fun b hb => (rowsC.ow_lt A1.out b hb).1))
        have As := Lib.hid (A4.out.size)
        clear ho3 hn3 hs3 ht3
        go_wp2_with fail
        go_ret
        exact ⟨_, Afp, rfl, by rw [HPP.out]; exact Ao.out, An.out, Ab.out⟩
      | true =>
        have HPP := Lib.hid (show putR rows row = out from HP.out)
        go_wp2_with fail
        go_ret
        exact ⟨_, rfl, fp, by rw [HPP.out]; exact HOW.out, HND.out, HB.out⟩
end Go.Proofs.YthnphlgkkfdnlaaDoor.TabSpec
