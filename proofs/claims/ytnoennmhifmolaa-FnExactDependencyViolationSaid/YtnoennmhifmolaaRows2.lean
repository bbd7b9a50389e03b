/- What the exact laws do with slices of slices of ints: sized, copied, compared, marked, looked at. -/
import Derived.Test.YtnoennmhifmolaaIntsLaw
import Derived.Test.YtnoennmhifmolaaCd
import Derived.Deep.RegionHeld3
namespace Go.Proofs.Ytnoennmhifmolaa.Rows2
open Go Go.RowKit Byt Ints IntsLaw Cd

def rowC : Cd (List Int) := Cd.sl 3 Cd.int
def rowsC : Cd (List (List Int)) := Cd.sl 25 rowC
theorem rowC_n : rowC.n = 1 := rfl
theorem rowsC_n : rowsC.n = 1 := rfl
theorem row_ri {w : World} {S : Nat → Prop} {v : Value} {l : List Int} (h : rowC.rd w S [v] l) : RI w v l w.heap.size ∧ InR l := by
  obtain ⟨v', e, h1, h2⟩ := Cd.ri_of h
  injection e with e _
  subst e
  exact ⟨h1, h2⟩
theorem row_own {w : World} {base : Nat} {v : Value} {l : List Int} {fp : List Nat} (h : rowC.ow w base [v] l fp) : OwnI w base 3 v l ∧ InR l ∧ fp = v.ownBlock.toList := by
  obtain ⟨v', e, h1, h2, h3⟩ := Cd.own_of_ow h
  injection e with e _
  subst e
  exact ⟨h1, h2, h3⟩
theorem info_ints : (Try.prog.info? 25).map (fun i => (i.zero, i.size, i.bytes)) = some (some (.slice none 0 0), 1, 24) := by kernel_rfl

/-- Row k of a slice of rows that is read: where its value lies, and what it is. -/
theorem rows_at {w : World} {S : Nat → Prop} {v : Value} {l : List (List Int)} (h : rowsC.rd w S [v] l) {k : Nat} (hk : k < l.length) :
    ∃ b off cap u, v = .slice (some ⟨b, off, none⟩) l.length cap ∧ b < w.heap.size ∧ w.cell? ⟨b, off + k, none⟩ = some u ∧ rowC.rd w S [u] l[k] := by
  obtain ⟨ad, cap, e, _, hc⟩ := h
  injection e with e _
  subst e
  rcases hc with rfl | ⟨b, off, rfl, hS, hb, hc⟩
  · simp at hk
  obtain ⟨xs, h1, h2⟩ := hc k hk
  have hl := rowC.len h2
  match xs, hl with
  | [u], _ =>
    refine ⟨b, off, cap, u, rfl, hb, ?_, h2⟩
    have := h1 0 (by simp)
    simpa [rowC, Cd.sl] using this
theorem rows_form {w : World} {S : Nat → Prop} {v : Value} {l : List (List Int)} (h : rowsC.rd w S [v] l) : ∃ a cap, v = .slice a l.length cap ∧ l.length ≤ 9223372036854775807 := by
  obtain ⟨ad, cap, e, hl, _⟩ := h
  injection e with e _
  exact ⟨ad, cap, e, hl⟩

def leftI (L wt : Nat) : Int := if wt ≤ L then (L : Int) - wt else -1
theorem left_yes {L wt : Nat} (h : wt ≤ L) : leftI L wt = ((L - wt : Nat) : Int) := by unfold leftI; rw [if_pos h]; omega
theorem left_no {L wt : Nat} (h : ¬ wt ≤ L) : leftI L wt = -1 := by unfold leftI; rw [if_neg h]
def rowsWt (l : List (List Int)) : Nat := l.length + l.flatten.length

theorem sz_ints (v : Value) (l : List Int) (L : Nat) (w : World) (h : ∃ a cap, v = .slice a l.length cap ∧ l.length ≤ 9223372036854775807) (hL : L ≤ 1048576) :
    Calls Try.prog 56 #[v, .int .i64 L] w fun e w' => e = .returned (.int .i64 (leftI L l.length)) ∧ w = w' := by
  obtain ⟨a, cap, rfl, hl⟩ := h
  by_cases h : l.length ≤ L
  · rw [left_yes h]
    have e1 : ((L - l.length : Nat) : Int) = (L : Int) - (l.length : Int) := by omega
    rw [e1]
    clear e1
    go_enter Try.func56, Try.ntmps56
    go_wp2
    go_ret
    exact ⟨rfl, rfl⟩
  · rw [left_no h]
    go_enter Try.func56, Try.ntmps56
    go_wp2
    go_ret
    exact ⟨rfl, rfl⟩

set_option maxRecDepth 100000 in
theorem sz_rows (v : Value) (l : List (List Int)) (S : Nat → Prop) (L : Nat) (w : World) (hr : rowsC.rd w S [v] l) (hL : L ≤ 1048576) :
    Calls Try.prog 73 #[v, .int .i64 L] w fun e w' => e = .returned (.int .i64 (leftI L (rowsWt l))) ∧ w = w' := by
  have HR := Lib.hid hr
  obtain ⟨a, cap, rfl, hlm⟩ := rows_form hr
  clear hr
  by_cases h0 : l.length ≤ L
  case neg =>
    have HZ := Lib.hid (show leftI L (rowsWt l) = -1 from left_no (by unfold rowsWt; omega))
    go_enter Try.func73, Try.ntmps73
    go_wp2
    go_ret
    exact ⟨ret_int HZ.out.symm, rfl⟩
  go_enter Try.func73, Try.ntmps73
  go_wp2
  go_loop [1, 5] (fun m i => ∃ k : Nat, k ≤ l.length ∧ i = .int .i64 k ∧ l.length + (l.take k).flatten.length ≤ L ∧ m = .int .i64 ((L - (l.length + (l.take k).flatten.length) : Nat) : Int)) (fun _ i => l.length - (intOf i).toNat)
  case atStart => exact ⟨0, Nat.zero_le _, rfl, by simpa using h0, by simp; omega⟩
  case round =>
    obtain ⟨k, hk, rfl, hle, rfl⟩ := hrel
    by_cases hlt : k < l.length
    · obtain ⟨b, off, cap', u, e1, hb, hc, hu⟩ := rows_at HR.out hlt
      injection e1 with e1 e2 e3
      subst e1 e3
      have ht : (l.take (k + 1)).flatten.length = (l.take k).flatten.length + l[k].length := by rw [List.take_succ_eq_append_getElem hlt, List.flatten_append]; simp
      obtain ⟨a', c', hu', hul⟩ := (row_ri hu).1
      have hsz := sz_ints u l[k] (L - (l.length + (l.take k).flatten.length)) w ⟨a', c', hu', hul.1⟩ (by omega)
      clear hu hu'
      by_cases hgo : l.length + (l.take (k + 1)).flatten.length ≤ L
      · rw [left_yes (by omega)] at hsz
        have HSZ := Lib.hid hsz
        have e2 : L - (l.length + (l.take k).flatten.length) - l[k].length = L - (l.length + (l.take (k + 1)).flatten.length) := by omega
        rw [e2] at HSZ
        have HGO := Lib.hid hgo
        clear hsz e2 ht hgo hul hle
        generalize L - (l.length + (l.take k).flatten.length) = m0 at *
        generalize hm1 : L - (l.length + (l.take (k + 1)).flatten.length) = m1 at *
        go_wp2_with (go_at_call 56; refine HSZ.out.mono ?_; rintro e w1 ⟨rfl, rfl⟩)
        go_round
        case rel => exact ⟨k + 1, by omega, by go_num, HGO.out, by rw [hm1]⟩
        case measure => simp [intOf]; omega
      · rw [left_no (by omega)] at hsz
        have HSZ := Lib.hid hsz
        have hall : (l.take (k + 1)).flatten.length ≤ l.flatten.length := by
          have := congrArg List.length (congrArg List.flatten (List.take_append_drop (k + 1) l))
          rw [List.flatten_append, List.length_append] at this
          omega
        have HZ := Lib.hid (show leftI L (rowsWt l) = -1 from left_no (by unfold rowsWt; omega))
        clear hsz ht hgo hul hle hall
        generalize L - (l.length + (l.take k).flatten.length) = m0 at *
        go_wp2_with (go_at_call 56; refine HSZ.out.mono ?_; rintro e w1 ⟨rfl, rfl⟩)
        go_ret
        exact ⟨ret_int HZ.out.symm, rfl⟩
    · have ek : k = l.length := by omega
      subst ek
      rw [List.take_length] at *
      have HZ := Lib.hid (show leftI L (rowsWt l) = ((L - (l.length + l.flatten.length) : Nat) : Int) from left_yes (by unfold rowsWt; omega))
      clear hle
      generalize L - (l.length + l.flatten.length) = m0 at *
      go_wp2
      go_ret
      exact ⟨ret_int HZ.out.symm, rfl⟩

theorem own_slice {w : World} {base : Nat} {e : TypeId} {v : Value} {l : List Int} (h : OwnI w base e v l) : ∃ a cap, v = .slice a l.length cap := by
  rcases h.form with ⟨rfl, rfl⟩ | ⟨g, cap, rfl, _⟩
  · exact ⟨_, _, rfl⟩
  · exact ⟨_, _, rfl⟩
theorem rows_slice {w : World} {base : Nat} {v : Value} {l : List (List Int)} {fp : List Nat} (h : rowsC.ow w base [v] l fp) : ∃ a cap, v = .slice a l.length cap := by
  obtain ⟨a, cap, e, _⟩ := rows_form (rowsC.ow_rd h)
  exact ⟨a, cap, e⟩

/-- l's first k rows, then empty ones. -/
def partR (l : List (List Int)) (k : Nat) : List (List Int) := l.take k ++ List.replicate (l.length - k) []
theorem partR_zero (l : List (List Int)) : partR l 0 = List.replicate l.length [] := by simp [partR]
theorem partR_all (l : List (List Int)) : partR l l.length = l := by simp [partR]
theorem partR_length (l : List (List Int)) (k : Nat) (h : k ≤ l.length) : (partR l k).length = l.length := by
  unfold partR
  rw [List.length_append, List.length_take, List.length_replicate]
  omega
theorem partR_set (l : List (List Int)) (k : Nat) (h : k < l.length) : (partR l k).set k l[k] = partR l (k + 1) := by
  unfold partR
  have e : l.length - k = (l.length - (k + 1)) + 1 := by omega
  rw [e, List.replicate_succ, List.set_append_right _ _ (by simp; omega), List.take_succ_eq_append_getElem h]
  have e2 : k - (l.take k).length = 0 := by simp; omega
  rw [e2, List.set_cons_zero, List.append_assoc]
  rfl
theorem len_mem {x : List Int} : ∀ {l : List (List Int)}, x ∈ l → x.length ≤ l.flatten.length
  | a :: r, h => by
    rw [List.flatten_cons, List.length_append]
    rcases List.mem_cons.1 h with rfl | q
    · omega
    · have := len_mem q
      omega
theorem row_len {l : List (List Int)} {k : Nat} (h : k < l.length) : l[k].length ≤ l.flatten.length := len_mem (List.getElem_mem h)

set_option maxRecDepth 100000 in
set_option maxHeartbeats 800000 in
theorem to_rows (v : Value) (l : List (List Int)) (S : Nat → Prop) (w : World) (hr : rowsC.rd w S [v] l) (hl : rowsWt l ≤ 1048577) :
    Calls Try.prog 75 #[v] w fun e w' => ∃ v' fp, e = .returned v' ∧ rowsC.ow w' w.heap.size [v'] l fp ∧ fp.Nodup ∧ Below w.heap.size w w' := by
  obtain ⟨i0, hi, hz0, hz1, hz2⟩ := info_parts info_ints
  have HR := Lib.hid (fun w' (hb : Below w.heap.size w w') => Cd.later hr hb)
  have HW := Lib.hid hl
  obtain ⟨a, cap, rfl, hlm⟩ := rows_form hr
  have hll : l.length ≤ 1048577 := by unfold rowsWt at hl; omega
  clear hr hl
  go_enter Try.func75, Try.ntmps75
  go_wp2_with (at_make; refine wpList_make_full _ rfl _ _ 54 rfl w.heap.size 25 i0 (.slice none 0 0) 1 Try.underlying54 hi hz0 hz1 _ _ _ _ l.length rfl rfl rfl rfl (by rw [hz2]; omega) (by unfold maxLen; omega) (Nat.le_refl _) ?_)
  intro w1 hown0 hg0
  have hb1 : Below w.heap.size w w1 := (Below.refl _ _).grown hg0 (Nat.le_refl _) (by simp)
  have how : rowsC.ow w1 w.heap.size [.slice (some ⟨w.heap.size, 0, none⟩) l.length l.length] (List.replicate l.length []) [w.heap.size] := by
    rw [toList_madeCells_one] at hown0
    exact Cd.ow_made (c := rowC) (a := []) rfl hown0 (Cd.ow_nil _ _)
  clear hown0 hg0
  go_wp2_with fail
  go_loopw [4] (fun i wr => ∃ (k : Nat) (fp : List Nat), k ≤ l.length ∧ i = .int .i64 k ∧ rowsC.ow wr w.heap.size [.slice (some ⟨w.heap.size, 0, none⟩) l.length l.length] (partR l k) fp ∧ fp.Nodup ∧ Below w.heap.size w wr) (fun i _ => l.length - (intOf i).toNat)
  case atStart => exact ⟨0, _, Nat.zero_le _, rfl, by rw [partR_zero]; exact how, by simp, hb1⟩
  case round =>
    obtain ⟨k, fp, hk, rfl, hown, hnd, hb⟩ := hrel
    by_cases hlt : k < l.length
    · obtain ⟨b, off, cap', u, e1, hbB, hc, hu⟩ := rows_at (HR.out wr hb) hlt
      injection e1 with e1 e2 e3
      subst e1 e3
      have HT := Lib.hid (to_ints u l[k] wr.heap.size wr (row_ri hu).1 (Nat.le_refl _) (by have := row_len hlt; have := HW.out; unfold rowsWt at this; omega))
      have HIN := Lib.hid (row_ri hu).2
      have HOW := Lib.hid hown
      have HB := Lib.hid hb
      have HND := Lib.hid hnd
      clear hu hown hnd hb how hb1
      go_wp2_with fail
      refine HT.out.mono ?_
      rintro e w2 ⟨v2, rfl, ho2, hb2⟩
      obtain ⟨a2, c2, rfl⟩ := own_slice ho2
      have hown2 : rowsC.ow w2 w.heap.size _ _ fp := Cd.ow_later HOW.out hb2
      have hpl := partR_length l k hk
      obtain ⟨u0, f0, hcell, _⟩ := Cd.ow_at (c := rowC) rfl hown2 (t := k) (by rw [hpl]; exact hlt)
      have hf := Cd.ow_frozen hown2 k
      have hrow : rowC.ow w2 w.heap.size [.slice a2 l[k].length c2] l[k] (Value.ownBlock (.slice a2 l[k].length c2)).toList := rowC.ow_base (Cd.ow_of_own ho2 HIN.out) HB.out.size
      obtain ⟨fp', hput, hnd', hsub⟩ := Cd.ow_put (c := rowC) rfl hown2 HND.out hrow (by cases (Value.ownBlock (.slice a2 l[k].length c2)) <;> simp) (fun q hq => by
        intro hq'
        have h1 := (World.ownsRow.lt ho2 q (by simpa using hq)).1
        have h2 := (rowsC.ow_lt HOW.out q hq').2
        omega) (t := k) (by rw [hpl]; exact hlt)
      rw [partR_set l k hlt] at hput
      have HPUT := Lib.hid hput
      have HND' := Lib.hid hnd'
      have HB2 := Lib.hid (HB.out.trans (hb2.mono HB.out.size))
      clear hput hnd' hsub hrow hown2 ho2 hb2
      go_wp2_with fail
      go_roundw
      case rel => exact ⟨k + 1, fp', by omega, by go_num, HPUT.out, HND'.out, HB2.out.setCell (Nat.le_refl _) _⟩
      case measure => simp [intOf]; omega
    · have ek : k = l.length := by omega
      subst ek
      rw [partR_all] at hown
      go_wp2_with fail
      go_ret
      exact ⟨_, fp, rfl, hown, hnd, hb⟩

theorem below_q {w w' : World} (h : ∃ m, w' = w.drewN m) : Below w.heap.size w w' := by
  obtain ⟨m, rfl⟩ := h
  exact ⟨rfl, rfl, rfl, Nat.le_refl _, fun _ _ => rfl⟩
theorem rd_drewN {α : Type} {c : Cd α} {w : World} {S : Nat → Prop} {us : List Value} {a : α} (h : c.rd w S us a) (m : Nat) : c.rd (w.drewN m) S us a := c.keep h fun _ _ _ => rfl

set_option maxRecDepth 100000 in
theorem eq_ints_q (v1 v2 : Value) (l : List Int) (B1 B2 : Nat) (w : World) (h1 : RI w v1 l B1) (h2 : RI w v2 l B2) :
    Calls Try.prog 22 #[v1, v2] w fun e w' => e = .returned (.bool true) ∧ ∃ m, w' = w.drewN m := by
  have hr1 := Lib.hid h1
  have hr2 := Lib.hid h2
  obtain ⟨a1, cap1, rfl, hl1, hc1⟩ := h1
  obtain ⟨a2, cap2, rfl, hl2, hc2⟩ := h2
  clear hc1 hc2
  go_enter Try.func22, Try.ntmps22
  go_wp2
  go_loopw [5] (fun i wr => ∃ k m : Nat, k ≤ l.length ∧ i = .int .i64 k ∧ wr = w.drewN m) (fun i _ => l.length - (intOf i).toNat)
  case atStart => exact ⟨0, 0, Nat.zero_le _, rfl, rfl⟩
  case round =>
    obtain ⟨k, m, hk, rfl, rfl⟩ := hrel
    by_cases hlt : k < l.length
    · obtain ⟨a', cap', e1, _, hcase⟩ := hr1.out
      injection e1 with e1 e2 e3
      subst e1 e3
      rcases hcase with h0 | ⟨b, off, rfl, hbB, hcell⟩
      · rw [h0] at hlt; simp at hlt
      obtain ⟨a', cap', e1, _, hcase⟩ := hr2.out
      injection e1 with e1 e2 e3
      subst e1 e3
      rcases hcase with h0 | ⟨b', off', rfl, hbB', hcell'⟩
      · rw [h0] at hlt; simp at hlt
      have hc := hcell k hlt
      have hc' := hcell' k hlt
      clear hcell hcell'
      have p1 : (0 : Int) ≤ (k : Int) := by omega
      have p2 : (k : Int) < (l.length : Int) := by omega
      have t1 : (l[k] != l[k]) = false := by simp
      go_wp2
      go_quiet (fail)
      go_wp2
      go_roundw
      case rel => exact ⟨k + 1, _, by omega, by go_num, rfl⟩
      case measure => simp [intOf]; omega
    · have ek : k = l.length := by omega
      subst ek
      go_wp2
      go_ret
      exact ⟨rfl, m, rfl⟩

set_option maxRecDepth 100000 in
set_option maxHeartbeats 800000 in
theorem eq_rows (v1 v2 : Value) (l : List (List Int)) (S1 S2 : Nat → Prop) (w : World) (h1 : rowsC.rd w S1 [v1] l) (h2 : rowsC.rd w S2 [v2] l) :
    Calls Try.prog 43 #[v1, v2] w fun e w' => e = .returned (.bool true) ∧ ∃ m, w' = w.drewN m := by
  have hr1 := Lib.hid h1
  have hr2 := Lib.hid h2
  obtain ⟨a1, cap1, rfl, hl1⟩ := rows_form h1
  obtain ⟨a2, cap2, rfl, hl2⟩ := rows_form h2
  clear h1 h2
  go_enter Try.func43, Try.ntmps43
  go_wp2
  go_loopw [5] (fun i wr => ∃ k m : Nat, k ≤ l.length ∧ i = .int .i64 k ∧ wr = w.drewN m) (fun i _ => l.length - (intOf i).toNat)
  case atStart => exact ⟨0, 0, Nat.zero_le _, rfl, rfl⟩
  case round =>
    obtain ⟨k, m, hk, rfl, hwr⟩ := hrel
    by_cases hlt : k < l.length
    · obtain ⟨b, off, cap', u, e1, hbB, hc, hu⟩ := rows_at hr1.out hlt
      injection e1 with e1 e2 e3
      subst e1 e3
      obtain ⟨b', off', cap', u', e1, hbB', hc', hu'⟩ := rows_at hr2.out hlt
      injection e1 with e1 e2 e3
      subst e1 e3
      have HE := Lib.hid (fun q => eq_ints_q u u' l[k] _ _ ((w.drewN m).drewN q) (row_ri (rd_drewN (rd_drewN hu m) q)).1 (row_ri (rd_drewN (rd_drewN hu' m) q)).1)
      rw [← hwr] at HE
      have hc2 : wr.cell? ⟨b, off + k, none⟩ = some u := by rw [hwr]; exact hc
      have hc2' : wr.cell? ⟨b', off' + k, none⟩ = some u' := by rw [hwr]; exact hc'
      clear hu hu' hc hc'
      have HWR := Lib.hid hwr
      clear hwr
      have p1 : (0 : Int) ≤ (k : Int) := by omega
      have p2 : (k : Int) < (l.length : Int) := by omega
      go_wp2
      go_quiet (first | (go_at_call 22; refine Calls.quiet_of (HE.out _)))
      go_wp2
      go_roundw
      case rel => exact ⟨k + 1, _, by omega, by go_num, by rw [HWR.out, World.drewN_drewN]⟩
      case measure => simp [intOf]; omega
    · have ek : k = l.length := by omega
      subst ek
      go_wp2
      go_ret
      exact ⟨rfl, m, rfl⟩

/-- The rows marked with k, k + 1, .. in order. -/
def mrows (k : Nat) : List (List Int) → List (List Int)
  | [] => []
  | r :: rs => marks k r.length :: mrows (k + r.length) rs
theorem mrows_length (k : Nat) (l : List (List Int)) : (mrows k l).length = l.length := by
  induction l generalizing k with
  | nil => rfl
  | cons r rs ih => simp [mrows, ih]
theorem mrows_append (k : Nat) (a b : List (List Int)) : mrows k (a ++ b) = mrows k a ++ mrows (k + a.flatten.length) b := by
  induction a generalizing k with
  | nil => simp [mrows]
  | cons r rs ih =>
    rw [List.cons_append, mrows, ih, mrows, List.flatten_cons, List.length_append, Nat.add_assoc]
    rfl
theorem mrows_flat (k : Nat) (l : List (List Int)) : (mrows k l).flatten.length = l.flatten.length := by
  induction l generalizing k with
  | nil => rfl
  | cons r rs ih => rw [mrows, List.flatten_cons, List.length_append, ih, List.flatten_cons, List.length_append, marks_length]
theorem mrows_get (k : Nat) (l : List (List Int)) (j : Nat) (h : j < l.length) (h' : j < (mrows k l).length) : (mrows k l)[j] = marks ((k + (l.take j).flatten.length : Nat) : Int) l[j].length := by
  have e : l = l.take j ++ l[j] :: l.drop (j + 1) := by rw [← List.drop_eq_getElem_cons h, List.take_append_drop]
  have e2 : mrows k l = mrows k (l.take j) ++ (marks ((k + (l.take j).flatten.length : Nat) : Int) l[j].length :: mrows (k + (l.take j).flatten.length + l[j].length) (l.drop (j + 1))) := by
    conv => lhs; rw [e, mrows_append]
    rfl
  have hl : (mrows k (l.take j)).length = j := by rw [mrows_length, List.length_take]; omega
  have : (mrows k l)[j]? = some (marks ((k + (l.take j).flatten.length : Nat) : Int) l[j].length) := by
    rw [e2, List.getElem?_append_right (by omega), hl, Nat.sub_self]
    rfl
  exact (List.getElem?_eq_some_iff.1 this).2
def mpart (k : Nat) (l : List (List Int)) (j : Nat) : List (List Int) := mrows k (l.take j) ++ l.drop j
theorem mpart_length (k : Nat) (l : List (List Int)) (j : Nat) (h : j ≤ l.length) : (mpart k l j).length = l.length := by
  unfold mpart
  rw [List.length_append, mrows_length, List.length_take, List.length_drop]
  omega
theorem mpart_zero (k : Nat) (l : List (List Int)) : mpart k l 0 = l := by simp [mpart, mrows]
theorem mpart_all (k : Nat) (l : List (List Int)) : mpart k l l.length = mrows k l := by simp [mpart]
theorem mpart_get (k : Nat) (l : List (List Int)) (j : Nat) (h : j < l.length) (h' : j < (mpart k l j).length) : (mpart k l j)[j] = l[j] := by
  have hl : (mrows k (l.take j)).length = j := by rw [mrows_length, List.length_take]; omega
  have : (mpart k l j)[j]? = some l[j] := by
    unfold mpart
    rw [List.getElem?_append_right (by omega), hl, Nat.sub_self, List.getElem?_drop]
    simp [h]
  exact (List.getElem?_eq_some_iff.1 this).2
theorem mpart_set (k : Nat) (l : List (List Int)) (j : Nat) (h : j < l.length) : (mpart k l j).set j (marks ((k + (l.take j).flatten.length : Nat) : Int) l[j].length) = mpart k l (j + 1) := by
  have hl : (mrows k (l.take j)).length = j := by rw [mrows_length, List.length_take]; omega
  unfold mpart
  rw [List.drop_eq_getElem_cons h, List.set_append_right _ _ (by omega), hl, Nat.sub_self, List.set_cons_zero, List.take_succ_eq_append_getElem h, mrows_append, List.append_assoc]
  rfl
theorem take_flat {l : List (List Int)} {j : Nat} (h : j < l.length) : (l.take (j + 1)).flatten.length = (l.take j).flatten.length + l[j].length := by
  rw [List.take_succ_eq_append_getElem h, List.flatten_append]
  simp
theorem take_flat_le (l : List (List Int)) (j : Nat) : (l.take j).flatten.length ≤ l.flatten.length := by
  have := congrArg List.length (congrArg List.flatten (List.take_append_drop j l))
  rw [List.flatten_append, List.length_append] at this
  omega
theorem inr_marks (k n : Nat) (h : k + n ≤ 9223372036854775807) : InR (marks k n) := by
  intro x hx
  simp [marks] at hx
  obtain ⟨t, ht, rfl⟩ := hx
  omega

set_option maxRecDepth 100000 in
set_option maxHeartbeats 800000 in
theorem mark_rows (v : Value) (l : List (List Int)) (base k0 : Nat) (fp : List Nat) (w : World) (h : rowsC.ow w base [v] l fp) (hnd : fp.Nodup) (hl : l.flatten.length ≤ 1048577) (hk0 : k0 ≤ 500000000) :
    Calls Try.prog 45 #[v, .int .i64 k0] w fun e w' => e = .returned (.int .i64 ((k0 + l.flatten.length : Nat) : Int)) ∧ rowsC.ow w' base [v] (mrows k0 l) fp ∧ Cd.Touch fp w w' := by
  have hlm : l.length ≤ 9223372036854775807 := by
    obtain ⟨_, _, _, q⟩ := rows_form (rowsC.ow_rd h)
    exact q
  obtain ⟨a, cap, rfl⟩ := rows_slice h
  go_enter Try.func45, Try.ntmps45
  go_wp2
  go_loopw [1, 5] (fun k i wr => ∃ j : Nat, j ≤ l.length ∧ i = .int .i64 j ∧ k = .int .i64 ((k0 + (l.take j).flatten.length : Nat) : Int) ∧ rowsC.ow wr base [.slice a l.length cap] (mpart k0 l j) fp ∧ Cd.Touch fp w wr) (fun _ i _ => l.length - (intOf i).toNat)
  case atStart => exact ⟨0, Nat.zero_le _, rfl, by simp, by rw [mpart_zero]; exact h, Cd.Touch.refl _ _⟩
  case round =>
    obtain ⟨j, hj, rfl, rfl, hown, htc⟩ := hrel
    by_cases hlt : j < l.length
    · have hpl := mpart_length k0 l j hj
      obtain ⟨g, cap', e1, _, hg, hgf⟩ := Cd.ow_form hown (by omega)
      rw [hpl] at e1
      injection e1 with e1 e2 e3
      subst e1 e3
      obtain ⟨u, f, hc, hu, hsub, hndf, hre⟩ := Cd.ow_at (c := rowC) rfl hown (t := j) (by omega)
      rw [mpart_get k0 l j hlt] at hu
      obtain ⟨hou, _, rfl⟩ := row_own hu
      obtain ⟨a2, c2, rfl⟩ := own_slice hou
      have htf := take_flat_le l j
      have htl := row_len hlt
      have htf1 := take_flat hlt
      have htf2 := take_flat_le l (j + 1)
      have HM := Lib.hid (mark_ints _ l[j] base (k0 + (l.take j).flatten.length) wr hou (by omega) (by omega))
      have HRE := Lib.hid hre
      have HND := Lib.hid hnd
      have HTC := Lib.hid htc
      have HOW := Lib.hid hown
      have HIN := Lib.hid (inr_marks (k0 + (l.take j).flatten.length) l[j].length (by omega))
      have HSUB := Lib.hid hsub
      have HSET := Lib.hid (mpart_set k0 l j hlt)
      have HN := Lib.hid (show k0 + (l.take (j + 1)).flatten.length = k0 + (l.take j).flatten.length + l[j].length by omega)
      clear hou hu hndf hre hown htc hnd hsub htf htl htf1 htf2
      generalize k0 + (l.take j).flatten.length = q at *
      go_wp2_with fail
      refine HM.out.mono ?_
      rintro e w2 ⟨rfl, ho2, hg2⟩
      have ht2 := Cd.Touch.of_grown hg2
      have hout := HRE.out w2 _ (Cd.ow_of_own ho2 HIN.out) (fun b hb hne => ht2.block b (rowsC.ow_lt HOW.out b hb).2 hne) HND.out
      have HOUT := Lib.hid hout
      clear hout ho2 hg2
      go_wp2_with fail
      go_roundw
      case rel => exact ⟨j + 1, by omega, by go_num, by rw [HN.out]; go_num, by rw [← HSET.out]; exact HOUT.out, HTC.out.trans (ht2.mono HSUB.out)⟩
      case measure => simp [intOf]; omega
    · have ek : j = l.length := by omega
      subst ek
      rw [mpart_all] at hown
      rw [List.take_length] at *
      go_wp2_with fail
      go_ret
      exact ⟨rfl, hown, htc⟩

set_option maxRecDepth 100000 in
theorem held_rows (v : Value) (l : List (List Int)) (S : Nat → Prop) (k0 : Nat) (w : World) (h : rowsC.rd w S [v] (mrows k0 l)) (hl : l.flatten.length ≤ 1048577) (hk0 : k0 ≤ 500000000) :
    Calls Try.prog 46 #[v, .int .i64 k0] w fun e w' => e = .returned (.int .i64 ((k0 + l.flatten.length : Nat) : Int)) ∧ w = w' := by
  have HR := Lib.hid h
  obtain ⟨a, cap, rfl, hlm⟩ := rows_form h
  clear h
  rw [mrows_length] at *
  go_enter Try.func46, Try.ntmps46
  go_wp2
  go_loop [1, 5] (fun k i => ∃ j : Nat, j ≤ l.length ∧ i = .int .i64 j ∧ k = .int .i64 ((k0 + (l.take j).flatten.length : Nat) : Int)) (fun _ i => l.length - (intOf i).toNat)
  case atStart => exact ⟨0, Nat.zero_le _, rfl, by simp⟩
  case round =>
    obtain ⟨j, hj, rfl, rfl⟩ := hrel
    by_cases hlt : j < l.length
    · obtain ⟨b, off, cap', u, e1, hbB, hc, hu⟩ := rows_at HR.out (k := j) (by rw [mrows_length]; exact hlt)
      rw [mrows_length] at e1
      injection e1 with e1 e2 e3
      subst e1 e3
      rw [mrows_get k0 l j hlt] at hu
      have htf := take_flat_le l j
      have htl := row_len hlt
      have HH := Lib.hid (held_ints u l[j].length _ (k0 + (l.take j).flatten.length) w (row_ri hu).1 (by omega) (by omega))
      have HN := Lib.hid (show k0 + (l.take (j + 1)).flatten.length = k0 + (l.take j).flatten.length + l[j].length by rw [take_flat hlt]; omega)
      clear hu htf htl
      generalize k0 + (l.take j).flatten.length = q at *
      have hneg : ¬ (((q + l[j].length : Nat) : Int) < 0) := by omega
      generalize q + l[j].length = q2 at *
      go_wp2_with (go_at_call 26; refine HH.out.mono ?_; rintro e w1 ⟨rfl, rfl⟩)
      go_round
      case rel => exact ⟨j + 1, by omega, by go_num, by rw [HN.out]⟩
      case measure => simp [intOf]; omega
    · have ek : j = l.length := by omega
      subst ek
      rw [List.take_length] at *
      go_wp2
      go_ret
      exact ⟨rfl, rfl⟩
end Go.Proofs.Ytnoennmhifmolaa.Rows2
