/- Bounds from degree sequences: lists of lists: none among them that is no sequence, their lengths, their columns, zipped, summed. -/
import Derived.Test.YtklamhnecncenaaSbImp1
import Derived.Test.YtklamhnecncenaaRegH
namespace Go.Proofs.Ytklamhnecncenaa.SbImp
open Go Go.RowKit Byt Ints IntsLaw Cd Rows2 Tab TabSpec Exact DegMath DegSpec DegImp SbMath SbSpec SbRep SbZip

theorem impl_no (v : Value) (l : List Int) (B : Nat) (w : World) (hr : RI w v l B) :
    Calls Try.prog 112 #[v] w fun e w' => e = .returned (.bool (!seqOk l)) ∧ w = w' := by
  have HS := Lib.hid (impl_seq v l B w hr)
  obtain ⟨a, cap, rfl, hlm, _⟩ := hr
  generalize seqOk l = q at *
  go_enter Try.func112, Try.ntmps112
  go_wp2_with fail
  refine HS.out.mono ?_
  rintro e w1 ⟨rfl, rfl⟩
  go_wp2_with fail
  go_ret
  exact ⟨rfl, rfl⟩
set_option maxRecDepth 100000 in
theorem impl_index (u : Value) (L : List (List Int)) (S : Nat → Prop) (w : World) (hr : rowsC.rd w S [u] L) :
    Calls Try.prog 140 #[u, .func (.func 112) #[] #[]] w fun e w' => e = .returned (.int .i64 (ixL L 0)) ∧ w = w' := by
  have HR := Lib.hid hr
  obtain ⟨a, cap, rfl, hlm⟩ := rows_form hr
  clear hr
  go_enter Try.func140, Try.ntmps140
  go_wp2_with fail
  go_loop [8] (fun i => ∃ k : Nat, k ≤ L.length ∧ i = .int .i64 k ∧ Hid (ixL L 0 = ixL (L.drop k) k)) (fun i => L.length - (intOf i).toNat)
  case atStart => exact ⟨0, Nat.zero_le _, rfl, Lib.hid rfl⟩
  case round =>
    obtain ⟨k, hk, rfl, hl⟩ := hrel
    by_cases hlt : k < L.length
    · obtain ⟨b, off, cap', x, e1, hbB, hc, hx⟩ := rows_at HR.out hlt
      injection e1 with e1 e2 e3
      subst e1 e3
      have HI := Lib.hid (impl_no x L[k] _ w (row_ri hx).1)
      have p1 : (0 : Int) ≤ (k : Int) := by omega
      have p2 : (k : Int) < (L.length : Int) := by omega
      have hd := ix_drop hlt
      clear hx
      cases hs : seqOk L[k]
      · rw [hs] at HI hd
        have HZ := Lib.hid (show ixL L 0 = (k : Int) from hl.out.trans hd)
        clear hs hd
        go_wp2_with (go_at_call 112; refine HI.out.mono ?_; rintro e w1 ⟨rfl, rfl⟩)
        go_ret
        exact ⟨ret_int HZ.out.symm, rfl⟩
      · rw [hs] at HI hd
        have hl2 := Lib.hid (show ixL L 0 = ixL (L.drop (k + 1)) (k + 1) from hl.out.trans hd)
        clear hs hd
        go_wp2_with (go_at_call 112; refine HI.out.mono ?_; rintro e w1 ⟨rfl, rfl⟩)
        go_round
        case rel => exact ⟨k + 1, by omega, by go_num, hl2⟩
        case measure => simp [intOf]; omega
    · have HZ := Lib.hid (show ixL L 0 = -1 by rw [hl.out, List.drop_eq_nil_of_le (by omega)]; rfl)
      go_wp2_with fail
      go_ret
      exact ⟨ret_int HZ.out.symm, rfl⟩
theorem impl_any (u : Value) (L : List (List Int)) (S : Nat → Prop) (w : World) (hr : rowsC.rd w S [u] L) :
    Calls Try.prog 111 #[u, .func (.func 112) #[] #[]] w fun e w' => e = .returned (.bool (!allSeq L)) ∧ w = w' := by
  have HI := Lib.hid (impl_index u L S w hr)
  have HB := Lib.hid (ix_all L 0)
  obtain ⟨a, cap, rfl, hlm⟩ := rows_form hr
  clear hr
  generalize ixL L 0 = z at *
  go_enter Try.func111, Try.ntmps111
  go_wp2_with fail
  refine HI.out.mono ?_
  rintro e w1 ⟨rfl, rfl⟩
  go_wp2_with fail
  go_ret
  exact ⟨ret_b HB.out, rfl⟩
theorem impl_lenof (v : Value) (l : List Int) (B : Nat) (w : World) (hr : RI w v l B) :
    Calls Try.prog 143 #[v] w fun e w' => e = .returned (.int .i64 (l.length : Int)) ∧ w = w' := by
  obtain ⟨a, cap, rfl, hlm, _⟩ := hr
  go_enter Try.func143, Try.ntmps143
  go_wp2_with fail
  go_ret
  exact ⟨rfl, rfl⟩
theorem impl_colof (v : Value) (l : List Int) (B : Nat) (w : World) (hr : RI w v l B) (i bx : Nat) (hi : i < l.length) (hc : w.cell? ⟨bx, 0, none⟩ = some (.int .i64 (i : Int))) :
    Calls Try.prog 144 #[v, .pointer (some ⟨bx, 0, none⟩)] w fun e w' => e = .returned (.int .i64 (l.getD i 0)) ∧ w = w' := by
  obtain ⟨b, off, cap, rfl, hbB, hcell⟩ := ri_at hr hi
  have HZ := Lib.hid (show l[i] = l.getD i 0 by simp [hi])
  have p1 : (0 : Int) ≤ (i : Int) := by omega
  have p2 : (i : Int) < (l.length : Int) := by omega
  obtain ⟨_, _, _, hlm, _⟩ := hr
  generalize l[i] = z at *
  go_enter Try.func144, Try.ntmps144
  go_wp2_with fail
  go_ret
  exact ⟨ret_int HZ.out, rfl⟩
set_option maxRecDepth 100000 in
set_option maxHeartbeats 1600000 in
theorem map_lens (u : Value) (L : List (List Int)) (S : Nat → Prop) (w : World) (hr : rowsC.rd w S [u] L) (hL : L.length ≤ 8) :
    Calls Try.prog 142 #[u, .func (.func 143) #[] #[]] w fun e w' => ∃ v', e = .returned v' ∧ OwnI w' w.heap.size 3 v' (L.map fun l => (l.length : Int)) ∧ Below w.heap.size w w' := by
  obtain ⟨i0, hi, hz0, hz1, hz2⟩ := info_parts info_i64
  have HR := Lib.hid (fun w' (hb : Below w.heap.size w w') => Cd.later hr hb)
  obtain ⟨a, cap, rfl, hlm⟩ := rows_form hr
  clear hr
  go_enter Try.func142, Try.ntmps142
  go_wp2_with (at_make; refine wpList_make_own _ rfl _ _ 24 rfl w.heap.size 3 i0 (.int .i64 0) 1 Try.underlying24 hi hz0 hz1 _ _ _ L.length rfl rfl rfl (by rw [hz2]; omega) (by unfold maxLen; omega) (Nat.le_refl _) ?_)
  intro w1 hown0 hg0
  have hown1 : OwnI w1 w.heap.size 3 (.slice (some ⟨w.heap.size, 0, none⟩) 0 L.length) [] := hown0
  have hb1 : Below w.heap.size w w1 := (Below.refl _ _).grown hg0 (Nat.le_refl _) (by simp)
  clear hown0 hg0
  go_wp2_with fail
  go_loopw [5, 13] (fun o i wr => ∃ k : Nat, k ≤ L.length ∧ i = .int .i64 k ∧ OwnI wr w.heap.size 3 o ((L.take k).map fun l => (l.length : Int)) ∧ Below w.heap.size w wr) (fun _ i _ => L.length - (intOf i).toNat)
  case atStart => exact ⟨0, Nat.zero_le _, rfl, by simpa using hown1, hb1⟩
  case round =>
    obtain ⟨k, hk, rfl, hown, hb⟩ := hrel
    by_cases hlt : k < L.length
    · obtain ⟨b, off, cap', x, e1, hbB, hc, hx⟩ := rows_at (HR.out wr hb) hlt
      injection e1 with e1 e2 e3
      subst e1 e3
      have HC := Lib.hid (impl_lenof x L[k] _ wr (row_ri hx).1)
      have hlen : ((L.take k).map fun l => (l.length : Int)).length + 1 ≤ 1000000000000 := by rw [List.length_map, List.length_take]; omega
      have hbs := hb.size
      have HB := Lib.hid hb
      have HT := Lib.hid (show ((L.take (k + 1)).map fun l => (l.length : Int)) = ((L.take k).map fun l => (l.length : Int)) ++ [(fun l : List Int => (l.length : Int)) L[k]] by rw [List.take_succ_eq_append_getElem hlt, List.map_append]; rfl)
      clear hb hx
      simp only at HT
      generalize ((L.take k).map fun l => (l.length : Int)) = out at *
      generalize ((L[k].length : Int)) = z at *
      go_wp2_with (first | (go_at_call 143; refine HC.out.mono ?_; rintro e w1 ⟨rfl, rfl⟩) | (at_builtin; refine wp_appendI rfl (.tmp 17) (.tmp 21) 24 rfl w.heap.size 3 Try.underlying24 info_i64 _ _ rfl hown _ rfl hlen hbs ?_))
      intro v' w5 hown5 hb5
      go_wp2_with fail
      go_roundw
      case rel => exact ⟨k + 1, by omega, by go_num, by rw [HT.out]; exact hown5, HB.out.trans hb5⟩
      case measure => simp [intOf]; omega
    · have ek : k = L.length := by omega
      subst ek
      rw [List.take_length] at hown
      go_wp2_with fail
      go_ret
      exact ⟨_, rfl, hown, hb⟩
set_option maxRecDepth 100000 in
set_option maxHeartbeats 1600000 in
theorem map_col (u : Value) (L : List (List Int)) (S : Nat → Prop) (w : World) (hr : rowsC.rd w S [u] L) (hL : L.length ≤ 8) (ix bx : Nat) (hix : ∀ l ∈ L, ix < l.length) (hcx : w.cell? ⟨bx, 0, none⟩ = some (.int .i64 (ix : Int))) :
    Calls Try.prog 142 #[u, .func (.func 144) #[] #[.pointer (some ⟨bx, 0, none⟩)]] w fun e w' => ∃ v', e = .returned v' ∧ OwnI w' w.heap.size 3 v' (L.map fun l => l.getD ix 0) ∧ Below w.heap.size w w' := by
  obtain ⟨i0, hi, hz0, hz1, hz2⟩ := info_parts info_i64
  have HR := Lib.hid (fun w' (hb : Below w.heap.size w w') => Cd.later hr hb)
  have HIX := Lib.hid hix
  have HBX := Lib.hid (fun w' (hb : Below w.heap.size w w') => (hb.cell (p := ⟨bx, 0, none⟩) (World.block_lt_of_cell? _ _ hcx)).trans hcx)
  clear hcx hix
  obtain ⟨a, cap, rfl, hlm⟩ := rows_form hr
  clear hr
  go_enter Try.func142, Try.ntmps142
  go_wp2_with (at_make; refine wpList_make_own _ rfl _ _ 24 rfl w.heap.size 3 i0 (.int .i64 0) 1 Try.underlying24 hi hz0 hz1 _ _ _ L.length rfl rfl rfl (by rw [hz2]; omega) (by unfold maxLen; omega) (Nat.le_refl _) ?_)
  intro w1 hown0 hg0
  have hown1 : OwnI w1 w.heap.size 3 (.slice (some ⟨w.heap.size, 0, none⟩) 0 L.length) [] := hown0
  have hb1 : Below w.heap.size w w1 := (Below.refl _ _).grown hg0 (Nat.le_refl _) (by simp)
  clear hown0 hg0
  go_wp2_with fail
  go_loopw [5, 13] (fun o i wr => ∃ k : Nat, k ≤ L.length ∧ i = .int .i64 k ∧ OwnI wr w.heap.size 3 o ((L.take k).map fun l => l.getD ix 0) ∧ Below w.heap.size w wr) (fun _ i _ => L.length - (intOf i).toNat)
  case atStart => exact ⟨0, Nat.zero_le _, rfl, by simpa using hown1, hb1⟩
  case round =>
    obtain ⟨k, hk, rfl, hown, hb⟩ := hrel
    by_cases hlt : k < L.length
    · obtain ⟨b, off, cap', x, e1, hbB, hc, hx⟩ := rows_at (HR.out wr hb) hlt
      injection e1 with e1 e2 e3
      subst e1 e3
      have HC := Lib.hid (impl_colof x L[k] _ wr (row_ri hx).1 ix bx (HIX.out _ (List.getElem_mem hlt)) (HBX.out wr hb))
      have hlen : ((L.take k).map fun l => l.getD ix 0).length + 1 ≤ 1000000000000 := by rw [List.length_map, List.length_take]; omega
      have hbs := hb.size
      have HB := Lib.hid hb
      have HT := Lib.hid (show ((L.take (k + 1)).map fun l => l.getD ix 0) = ((L.take k).map fun l => l.getD ix 0) ++ [(fun l : List Int => l.getD ix 0) L[k]] by rw [List.take_succ_eq_append_getElem hlt, List.map_append]; rfl)
      clear hb hx
      simp only at HT
      generalize ((L.take k).map fun l => l.getD ix 0) = out at *
      generalize (L[k].getD ix 0) = z at *
      go_wp2_with (first | (go_at_call 144; refine HC.out.mono ?_; rintro e w1 ⟨rfl, rfl⟩) | (at_builtin; refine wp_appendI rfl (.tmp 17) (.tmp 21) 24 rfl w.heap.size 3 Try.underlying24 info_i64 _ _ rfl hown _ rfl hlen hbs ?_))
      intro v' w5 hown5 hb5
      go_wp2_with fail
      go_roundw
      case rel => exact ⟨k + 1, by omega, by go_num, by rw [HT.out]; exact hown5, HB.out.trans hb5⟩
      case measure => simp [intOf]; omega
    · have ek : k = L.length := by omega
      subst ek
      rw [List.take_length] at hown
      go_wp2_with fail
      go_ret
      exact ⟨_, rfl, hown, hb⟩
end Go.Proofs.Ytklamhnecncenaa.SbImp
