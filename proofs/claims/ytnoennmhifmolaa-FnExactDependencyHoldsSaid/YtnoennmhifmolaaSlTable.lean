/- What the exact laws do with slices of Table: sized, copied, compared. -/
import Derived.Test.YtnoennmhifmolaaTabElem
import Derived.Test.YtnoennmhifmolaaSlMath
namespace Go.Proofs.Ytnoennmhifmolaa.SlTable
open Go Go.RowKit Byt Ints IntsLaw Cd Rows2 Tab SlMath TabOpen TabElem
theorem len_list {us : List Value} (h : us.length = 3) : ∃ x0 x1 x2, us = [x0, x1, x2] := by
  match us, h with
  | [x0, x1, x2], _ => exact ⟨x0, x1, x2, rfl⟩
/-- The size of a slice, as the laws count it. -/
def wtS (l : List T3) : Nat := l.length + sumN wtT l

set_option maxRecDepth 100000 in
set_option maxHeartbeats 800000 in
theorem sz_s (v : Value) (l : List T3) (S : Nat → Prop) (L : Nat) (w : World) (hr : (Cd.sl 56 tabC).rd w S [v] l) (hL : L ≤ 1048576) :
    Calls Try.prog 55 #[v, .int .i64 L] w fun e w' => e = .returned (.int .i64 (leftI L (wtS l))) ∧ Below w.heap.size w w' := by
  have HR := Lib.hid (fun w' (hb : Below w.heap.size w w') => Cd.later hr hb)
  obtain ⟨a, cap, rfl, hlm⟩ := Cd.sl_form hr
  clear hr
  by_cases h0 : l.length ≤ L
  case neg =>
    have HZ := Lib.hid (show leftI L (wtS l) = -1 from left_no (by unfold wtS; omega))
    go_enter Try.func55, Try.ntmps55
    go_wp2
    go_ret
    exact ⟨ret_int HZ.out.symm, Below.refl _ _⟩
  go_enter Try.func55, Try.ntmps55
  go_wp2
  go_loopw [1, 5] (fun m i wr => ∃ k : Nat, k ≤ l.length ∧ i = .int .i64 k ∧ l.length + sumN wtT (l.take k) ≤ L ∧ m = .int .i64 ((L - (l.length + sumN wtT (l.take k)) : Nat) : Int) ∧ Below w.heap.size w wr) (fun _ i _ => l.length - (intOf i).toNat)
  case atStart => exact ⟨0, Nat.zero_le _, rfl, by simpa [sumN] using h0, by simp [sumN]; omega, Below.refl _ _⟩
  case round =>
    obtain ⟨k, hk, rfl, hle, rfl, hb⟩ := hrel
    by_cases hlt : k < l.length
    · obtain ⟨b, off, cap', us, e1, hS, hbB, hat, hu⟩ := Cd.sl_at (HR.out wr hb) hlt
      injection e1 with e1 e2 e3
      subst e1 e3
      obtain ⟨x0, x1, x2, rfl⟩ := len_list (tabC.len hu)
      have c0 := hat 0 (by simp)
      have c1 := hat 1 (by simp)
      have c2 := hat 2 (by simp)
      simp only [List.getElem_cons_zero, List.getElem_cons_succ, Nat.add_zero, show tabC.n = 3 from rfl] at c0 c1 c2
      have ht := sumN_succ wtT hlt
      have hsz := sz_elem [x0, x1, x2] l[k] _ (L - (l.length + sumN wtT (l.take k))) wr hu (by omega)
      have HB := Lib.hid hb
      clear hu hat hb
      by_cases hgo : l.length + sumN wtT (l.take (k + 1)) ≤ L
      · rw [left_yes (by omega)] at hsz
        have HSZ := Lib.hid hsz
        have e2 : L - (l.length + sumN wtT (l.take k)) - wtT l[k] = L - (l.length + sumN wtT (l.take (k + 1))) := by omega
        rw [e2] at HSZ
        have HGO := Lib.hid hgo
        clear hsz e2 ht hgo hle
        generalize L - (l.length + sumN wtT (l.take k)) = m0 at *
        generalize hm1 : L - (l.length + sumN wtT (l.take (k + 1))) = m1 at *
        go_wp2_with fail
        refine HSZ.out.mono ?_
        rintro e w1 ⟨rfl, hb1⟩
        have HB1 := Lib.hid (below_then HB.out hb1)
        clear hb1
        go_wp2_with fail
        go_roundw
        case rel => exact ⟨k + 1, by omega, by go_num, HGO.out, by rw [hm1], HB1.out⟩
        case measure => simp [intOf]; omega
      · rw [left_no (by omega)] at hsz
        have HSZ := Lib.hid hsz
        have hall := sumN_take wtT l (k + 1)
        have HZ := Lib.hid (show leftI L (wtS l) = -1 from left_no (by unfold wtS; omega))
        clear hsz ht hgo hle hall
        generalize L - (l.length + sumN wtT (l.take k)) = m0 at *
        go_wp2_with fail
        refine HSZ.out.mono ?_
        rintro e w1 ⟨rfl, hb1⟩
        have HB1 := Lib.hid (below_then HB.out hb1)
        clear hb1
        go_wp2_with fail
        go_ret
        exact ⟨ret_int HZ.out.symm, HB1.out⟩
    · have ek : k = l.length := by omega
      subst ek
      rw [List.take_length] at *
      have HZ := Lib.hid (show leftI L (wtS l) = ((L - (l.length + sumN wtT l) : Nat) : Int) from left_yes (by unfold wtS; omega))
      clear hle
      generalize L - (l.length + sumN wtT l) = m0 at *
      go_wp2
      go_ret
      exact ⟨ret_int HZ.out.symm, hb⟩
theorem info_x : (Try.prog.info? 59).map (fun i => (i.zero, i.size, i.bytes)) = some (some (.agg #[.string ⟨#[]⟩, .int .i64 0, .slice none 0 0]), 3, 48) := by kernel_rfl
set_option maxRecDepth 100000 in
set_option maxHeartbeats 1600000 in
theorem to_s (v : Value) (l : List T3) (S : Nat → Prop) (w : World) (hr : (Cd.sl 56 tabC).rd w S [v] l) (hl : wtS l ≤ 1048577) :
    Calls Try.prog 61 #[v] w fun e w' => ∃ v' fp, e = .returned v' ∧ (Cd.sl 59 tabC).ow w' w.heap.size [v'] l fp ∧ fp.Nodup ∧ Below w.heap.size w w' := by
  obtain ⟨i0, hi, hz0, hz1, hz2⟩ := info_parts info_x
  have HR := Lib.hid (fun w' (hb : Below w.heap.size w w') => Cd.later hr hb)
  have HW := Lib.hid hl
  obtain ⟨a, cap, rfl, hlm⟩ := Cd.sl_form hr
  have hll : l.length ≤ 1048577 := by unfold wtS at hl; omega
  clear hr hl
  go_enter Try.func61, Try.ntmps61
  go_wp2_with (at_make; refine wpList_make_full _ rfl _ _ 31 rfl w.heap.size 59 i0 (.agg #[.string ⟨#[]⟩, .int .i64 0, .slice none 0 0]) 3 Try.underlying31 hi hz0 hz1 _ _ _ _ l.length rfl rfl rfl rfl (by rw [hz2]; omega) (by unfold maxLen; omega) (Nat.le_refl _) ?_)
  intro w1 hown0 hg0
  have hb1 : Below w.heap.size w w1 := (Below.refl _ _).grown hg0 (Nat.le_refl _) (by simp)
  have how : (Cd.sl 59 tabC).ow w1 w.heap.size [.slice (some ⟨w.heap.size, 0, none⟩) l.length l.length] (List.replicate l.length ((⟨#[]⟩, 0, []) : T3)) [w.heap.size] := by
    have e := Cd.toList_madeCells (us := [Value.string ⟨#[]⟩, .int .i64 0, .slice none 0 0]) l.length (by simp)
    have hown1 : w1.ownsRow w.heap.size 59 3 (.slice (some ⟨w.heap.size, 0, none⟩) l.length l.length) l.length (madeCells ([Value.string ⟨#[]⟩, .int .i64 0, .slice none 0 0]).toArray (l.length * 3)).toList := hown0
    rw [show l.length * 3 = l.length * ([Value.string ⟨#[]⟩, .int .i64 0, .slice none 0 0]).length from rfl, e] at hown1
    exact Cd.ow_madeN (c := tabC) hown1 (tab_ow (Cd.ow_nil _ _) (Nat.zero_le _) (by omega))
  clear hown0 hg0
  go_wp2_with fail
  go_loopw [4] (fun i wr => ∃ (k : Nat) (fp : List Nat), k ≤ l.length ∧ i = .int .i64 k ∧ (Cd.sl 59 tabC).ow wr w.heap.size [.slice (some ⟨w.heap.size, 0, none⟩) l.length l.length] (partA ((⟨#[]⟩, 0, []) : T3) l k) fp ∧ fp.Nodup ∧ Below w.heap.size w wr) (fun i _ => l.length - (intOf i).toNat)
  case atStart => exact ⟨0, _, Nat.zero_le _, rfl, by rw [partA_zero]; exact how, by simp, hb1⟩
  case round =>
    obtain ⟨k, fp, hk, rfl, hown, hnd, hb⟩ := hrel
    by_cases hlt : k < l.length
    · obtain ⟨b, off, cap', us, e1, hS, hbB, hat, hu⟩ := Cd.sl_at (HR.out wr hb) hlt
      injection e1 with e1 e2 e3
      subst e1 e3
      obtain ⟨x0, x1, x2, rfl⟩ := len_list (tabC.len hu)
      have c0 := hat 0 (by simp)
      have c1 := hat 1 (by simp)
      have c2 := hat 2 (by simp)
      simp only [List.getElem_cons_zero, List.getElem_cons_succ, Nat.add_zero, show tabC.n = 3 from rfl] at c0 c1 c2
      have HT := Lib.hid (to_elem [x0, x1, x2] l[k] _ wr hu (by have := sumN_mem wtT hlt; have := HW.out; unfold wtS at this; omega))
      have HOW := Lib.hid hown
      have HB := Lib.hid hb
      have HND := Lib.hid hnd
      clear hu hat hown hnd hb how hb1
      go_wp2_with fail
      refine HT.out.mono ?_
      rintro e w2 ⟨us2, f2, rfl, ho2, hn2, hb2⟩
      obtain ⟨ya, yc, rfl⟩ := shape_ow ho2
      have hown2 := Cd.ow_later HOW.out hb2
      have hpl := partA_length ((⟨#[]⟩, 0, []) : T3) l k hk
      obtain ⟨us0, fz, hl0, hat0, hx1⟩ := Cd.ow_elem hown2 (t := k) (by rw [hpl]; exact hlt)
      clear hx1
      obtain ⟨z0, z1, z2, rfl⟩ := len_list hl0
      have d0 := hat0 0 (by simp)
      have d1 := hat0 1 (by simp)
      have d2 := hat0 2 (by simp)
      simp only [List.getElem_cons_zero, List.getElem_cons_succ, Nat.add_zero, show tabC.n = 3 from rfl] at d0 d1 d2
      have f0 := Cd.ow_frozen hown2 (k * 3)
      have f1 := Cd.ow_frozen hown2 (k * 3 + 1)
      have f2 := Cd.ow_frozen hown2 (k * 3 + 2)
      have hrow := tabC.ow_base ho2 HB.out.size
      obtain ⟨fp', hput, hnd', hsub⟩ := Cd.ow_putN hown2 HND.out hrow hn2 (fun q hq => by
        intro hq'
        have h1 := (tabC.ow_lt ho2 q hq).1
        have h2 := ((Cd.sl _ tabC).ow_lt HOW.out q hq').2
        omega) (t := k) (by rw [hpl]; exact hlt)
      rw [partA_set ((⟨#[]⟩, 0, []) : T3) l k hlt] at hput
      have HPUT := Lib.hid hput
      have HND' := Lib.hid hnd'
      have HB2 := Lib.hid (HB.out.trans (hb2.mono HB.out.size))
      clear hput hnd' hsub hrow hown2 ho2 hb2 hat0 hl0 hpl hn2
      go_wp2_with fail
      go_roundw
      case rel => exact ⟨k + 1, fp', by omega, by go_num, HPUT.out, HND'.out, (((HB2.out).setCell (Nat.le_refl _) _).setCell (Nat.le_refl _) _).setCell (Nat.le_refl _) _⟩
      case measure => simp [intOf]; omega
    · have ek : k = l.length := by omega
      subst ek
      rw [partA_all] at hown
      go_wp2_with fail
      go_ret
      exact ⟨_, fp, rfl, hown, hnd, hb⟩

def LaterS (w w' : World) : Prop := Below w.heap.size w w'
set_option maxRecDepth 100000 in
set_option maxHeartbeats 1600000 in
theorem eq_s (v1 v2 : Value) (l : List T3) (S1 S2 : Nat → Prop) (w : World) (h1 : (Cd.sl 59 tabC).rd w S1 [v1] l) (h2 : (Cd.sl 59 tabC).rd w S2 [v2] l) :
    Calls Try.prog 64 #[v1, v2] w fun e w' => e = .returned (.bool true) ∧ Below w.heap.size w w' := by
  have HR1 := Lib.hid (fun w' (hb : Below w.heap.size w w') => Cd.later h1 hb)
  have HR2 := Lib.hid (fun w' (hb : Below w.heap.size w w') => Cd.later h2 hb)
  obtain ⟨a1, cap1, rfl, hl1⟩ := Cd.sl_form h1
  obtain ⟨a2, cap2, rfl, hl2⟩ := Cd.sl_form h2
  clear h1 h2
  go_enter Try.func64, Try.ntmps64
  go_wp2
  go_loopw [5] (fun i wr => ∃ k : Nat, k ≤ l.length ∧ i = .int .i64 k ∧ Below w.heap.size w wr) (fun i _ => l.length - (intOf i).toNat)
  case atStart => exact ⟨0, Nat.zero_le _, rfl, Below.refl _ _⟩
  case round =>
    obtain ⟨k, hk, rfl, hb⟩ := hrel
    by_cases hlt : k < l.length
    · obtain ⟨b, off, cap', us, e1, _, hbB, hat, hu⟩ := Cd.sl_at (HR1.out wr hb) hlt
      injection e1 with e1 e2 e3
      subst e1 e3
      obtain ⟨x0, x1, x2, rfl⟩ := len_list (tabC.len hu)
      have c0 := hat 0 (by simp)
      have c1 := hat 1 (by simp)
      have c2 := hat 2 (by simp)
      obtain ⟨b', off', cap', us, e1, _, hbB', hat', hu'⟩ := Cd.sl_at (HR2.out wr hb) hlt
      injection e1 with e1 e2 e3
      subst e1 e3
      obtain ⟨y0, y1, y2, rfl⟩ := len_list (tabC.len hu')
      have d0 := hat' 0 (by simp)
      have d1 := hat' 1 (by simp)
      have d2 := hat' 2 (by simp)
      simp only [List.getElem_cons_zero, List.getElem_cons_succ, Nat.add_zero, show tabC.n = 3 from rfl] at c0 c1 c2 d0 d1 d2
      have HE := Lib.hid (fun w' (hq : LaterS wr w') => eq_elem [x0, x1, x2] [y0, y1, y2] l[k] _ _ w' (Cd.later hu hq) (Cd.later hu' hq))
      have HB := Lib.hid hb
      have HBB := Lib.hid (And.intro hbB hbB')
      have p1 : (0 : Int) ≤ (k : Int) := by omega
      have p2 : (k : Int) < (l.length : Int) := by omega
      have kk : LaterS wr wr.drew := (Below.refl _ wr).drew
      clear hu hu' hat hat' hb hbB hbB'
      go_wp2_with fail
      go_region_held3 (fun wx => wx.cell? ⟨b, off + k * 3, none⟩ = some x0 ∧ wx.cell? ⟨b, off + k * 3 + 1, none⟩ = some x1 ∧ wx.cell? ⟨b, off + k * 3 + 2, none⟩ = some x2 ∧ wx.cell? ⟨b', off' + k * 3, none⟩ = some y0 ∧ wx.cell? ⟨b', off' + k * 3 + 1, none⟩ = some y1 ∧ wx.cell? ⟨b', off' + k * 3 + 2, none⟩ = some y2 ∧ LaterS wr wx)
        ((refine ⟨?_, ?_, ?_, ?_, ?_, ?_, ?_⟩ <;> first | assumption | (simp [*]; done)))
        (first | (go_at_call 40; refine (HE.out _ (by assumption)).mono ?_; rintro e wq ⟨rfl, hbq⟩; (have kk : LaterS wr wq := below_then (by assumption) hbq); (have q0 : wq.cell? ⟨b, off + k * 3, none⟩ = some x0 := (Below.cell kk HBB.out.1).trans c0); (have q1 : wq.cell? ⟨b, off + k * 3 + 1, none⟩ = some x1 := (Below.cell kk HBB.out.1).trans c1); (have q2 : wq.cell? ⟨b, off + k * 3 + 2, none⟩ = some x2 := (Below.cell kk HBB.out.1).trans c2); (have r0 : wq.cell? ⟨b', off' + k * 3, none⟩ = some y0 := (Below.cell kk HBB.out.2).trans d0); (have r1 : wq.cell? ⟨b', off' + k * 3 + 1, none⟩ = some y1 := (Below.cell kk HBB.out.2).trans d1); (have r2 : wq.cell? ⟨b', off' + k * 3 + 2, none⟩ = some y2 := (Below.cell kk HBB.out.2).trans d2); clear hbq))
      all_goals
        have hq : LaterS wr wq := by assumption
        have HBQ := Lib.hid (below_then HB.out hq)
        go_wp2_with fail
        go_roundw
        case rel => exact ⟨k + 1, by omega, by go_num, HBQ.out⟩
        case measure => simp [intOf]; omega
    · have ek : k = l.length := by omega
      subst ek
      go_wp2
      go_ret
      exact ⟨rfl, hb⟩
end Go.Proofs.Ytnoennmhifmolaa.SlTable
