/- What the exact laws do with slices of Table: sized, copied, compared. -/
import Derived.Test.YtdjgaffiildijabGreatDoorTabElem
import Derived.Test.YtdjgaffiildijabGreatDoorSlMath
namespace Go.Proofs.YtdjgaffiildijabGreatDoor.SlTable
open Go Go.RowKit Byt Ints IntsLaw Cd Rows2 Tab SlMath TabOpen TabElem
theorem len_list {us : List Value} (h : us.length = 3) : ∃ x0 x1 x2, us = [x0, x1, x2] := by
  match us, h with
  | [x0, x1, x2], _ => exact ⟨x0, x1, x2, rfl⟩
/-- The size of a slice, as the laws count it. -/
def wtS (l : List T3) : Nat := l.length + sumN wtT l

theorem info_x : (Tryz.prog.info? 34).map (fun i => (i.zero, i.size, i.bytes)) = some (some (.agg #[.string ⟨#[]⟩, .int .i64 0, .slice none 0 0]), 3, 48) := by kernel_rfl

def LaterS (w w' : World) : Prop := Below w.heap.size w w'
set_option maxRecDepth 100000 in
set_option maxHeartbeats 1600000 in
theorem eq_s (v1 v2 : Value) (l : List T3) (S1 S2 : Nat → Prop) (w : World) (h1 : (Cd.sl 34 tabC).rd w S1 [v1] l) (h2 : (Cd.sl 34 tabC).rd w S2 [v2] l) :
    Calls Tryz.prog 42 #[v1, v2] w fun e w' => e = .returned (.bool true) ∧ Below w.heap.size w w' := by
  have HR1 := Lib.hid (fun w' (hb : Below w.heap.size w w') => Cd.later h1 hb)
  have HR2 := Lib.hid (fun w' (hb : Below w.heap.size w w') => Cd.later h2 hb)
  obtain ⟨a1, cap1, rfl, hl1⟩ := Cd.sl_form h1
  obtain ⟨a2, cap2, rfl, hl2⟩ := Cd.sl_form h2
  clear h1 h2
  go_enter Tryz.func42, Tryz.ntmps42
  go_wp2
  go_loopw [5] (fun i wr => ∃ k : Nat, k ≤ l.length ∧ i = .int .i64 k ∧ Below w.heap.size w wr) (fun i _ => l.length - (intOf i).toNat)
  case atStart => exact ⟨0, Nat.zero_le _, rfl, Below.refl _ _⟩
  case round =>
    obtain ⟨k, hk, rfl, hb⟩ := hrel
    by_cases hlt : k < l.length
    · obtain ⟨b, off, cap', us, e1, _, hbB, hat, hu⟩ := Cd.sl_at (HR1.out wr hb) hlt
      injection e1 with e1 e2 e3
      subst e1 e3
      obtain ⟨x0, x1, x2, rfl⟩ := len_list (tabC.len hu)
      have c0 := hat 0 (by simp)
      have c1 := hat 1 (by simp)
      have c2 := hat 2 (by simp)
      obtain ⟨b', off', cap', us, e1, _, hbB', hat', hu'⟩ := Cd.sl_at (HR2.out wr hb) hlt
      injection e1 with e1 e2 e3
      subst e1 e3
      obtain ⟨y0, y1, y2, rfl⟩ := len_list (tabC.len hu')
      have d0 := hat' 0 (by simp)
      have d1 := hat' 1 (by simp)
      have d2 := hat' 2 (by simp)
      simp only [List.getElem_cons_zero, List.getElem_cons_succ, Nat.add_zero, show tabC.n = 3 from rfl] at c0 c1 c2 d0 d1 d2
      have HE := Lib.hid (fun w' (hq : LaterS wr w') => eq_elem [x0, x1, x2] [y0, y1, y2] l[k] _ _ w' (Cd.later hu hq) (Cd.later hu' hq))
      have HB := Lib.hid hb
      have HBB := Lib.hid (And.intro hbB hbB')
      have p1 : (0 : Int) ≤ (k : Int) := by omega
      have p2 : (k : Int) < (l.length : Int) := by omega
      have kk : LaterS wr wr.drew := (Below.refl _ wr).drew
      clear hu hu' hat hat' hb hbB hbB'
      go_wp2_with fail
      go_region_held3 (fun wx => wx.cell? ⟨b, off + k * 3, none⟩ = some x0 ∧ wx.cell? ⟨b, off + k * 3 + 1, none⟩ = some x1 ∧ wx.cell? ⟨b, off + k * 3 + 2, none⟩ = some x2 ∧ wx.cell? ⟨b', off' + k * 3, none⟩ = some y0 ∧ wx.cell? ⟨b', off' + k * 3 + 1, none⟩ = some y1 ∧ wx.cell? ⟨b', off' + k * 3 + 2, none⟩ = some y2 ∧ LaterS wr wx)
        ((refine ⟨?_, ?_, ?_, ?_, ?_, ?_, ?_⟩ <;> first | assumption | (simp [*]; done)))
        (first | (go_at_call 97; refine (HE.out _ (by assumption)).mono ?_; rintro e wq ⟨rfl, hbq⟩; (have kk : LaterS wr wq := below_then (by assumption) hbq); (have q0 : wq.cell? ⟨b, off + k * 3, none⟩ = some x0 := (Below.cell kk HBB.out.1).trans c0); (have q1 : wq.cell? ⟨b, off + k * 3 + 1, none⟩ = some x1 := (Below.cell kk HBB.out.1).trans c1); (have q2 : wq.cell? ⟨b, off + k * 3 + 2, none⟩ = some x2 := (Below.cell kk HBB.out.1).trans c2); (have r0 : wq.cell? ⟨b', off' + k * 3, none⟩ = some y0 := (Below.cell kk HBB.out.2).trans d0); (have r1 : wq.cell? ⟨b', off' + k * 3 + 1, none⟩ = some y1 := (Below.cell kk HBB.out.2).trans d1); (have r2 : wq.cell? ⟨b', off' + k * 3 + 2, none⟩ = some y2 := (Below.cell kk HBB.out.2).trans d2); clear hbq))
      all_goals
        have hq : LaterS wr wq := by assumption
        have HBQ := Lib.hid (below_then HB.out hq)
        go_wp2_with fail
        go_roundw
        case rel => exact ⟨k + 1, by omega, by go_num, HBQ.out⟩
        case measure => simp [intOf]; omega
    · have ek : k = l.length := by omega
      subst ek
      go_wp2
      go_ret
      exact ⟨rfl, hb⟩
end Go.Proofs.YtdjgaffiildijabGreatDoor.SlTable
