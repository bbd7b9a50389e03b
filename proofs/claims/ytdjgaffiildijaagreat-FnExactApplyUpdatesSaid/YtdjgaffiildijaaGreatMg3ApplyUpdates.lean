/- Texts that the proof rests on, one behind the other. -/
import Derived.Test.YtdjgaffiildijaaGreatUpd
import Derived.Test.YtdjgaffiildijaaGreatSlMath
import Derived.Test.YtdjgaffiildijaaGreatMg2ApplyUpdates
import Derived.Test.YtdjgaffiildijaaGreatMark
import Derived.Test.YtdjgaffiildijaaGreatMkTable
import Derived.Test.YtdjgaffiildijaaGreatDb
import Derived.Test.YtdjgaffiildijaaGreatTabOpen
import Derived.Test.YtdjgaffiildijaaGreatDbExact
import Derived.Deep.DeepCutAuto

namespace Go.Proofs.YtdjgaffiildijaaGreat.SlUpdate
open Go Go.RowKit Byt Ints IntsLaw Cd Rows2 Tab SlMath Upd
theorem len_list {us : List Value} (h : us.length = 3) : ∃ x0 x1 x2, us = [x0, x1, x2] := by
  match us, h with
  | [x0, x1, x2], _ => exact ⟨x0, x1, x2, rfl⟩
/-- The size of a slice, as the laws count it. -/
def wtS (l : List U3) : Nat := l.length + sumN wtU l

set_option maxRecDepth 100000 in
set_option maxHeartbeats 800000 in
theorem sz_s (v : Value) (l : List U3) (S : Nat → Prop) (L : Nat) (w : World) (hr : (Cd.sl 27 updC).rd w S [v] l) (hL : L ≤ 1048576) :
    Calls Tryz.prog 16 #[v, .int .i64 L] w fun e w' => e = .returned (.int .i64 (leftI L (wtS l))) ∧ Below w.heap.size w w' := by
  have HR := Lib.hid (fun w' (hb : Below w.heap.size w w') => Cd.later hr hb)
  obtain ⟨a, cap, rfl, hlm⟩ := Cd.sl_form hr
  clear hr
  by_cases h0 : l.length ≤ L
  case neg =>
    have HZ := Lib.hid (show leftI L (wtS l) = -1 from left_no (by unfold wtS; omega))
    go_enter Tryz.func16, Tryz.ntmps16
    go_wp2
    go_ret
    exact ⟨ret_int HZ.out.symm, Below.refl _ _⟩
  go_enter Tryz.func16, Tryz.ntmps16
  go_wp2
  go_loopw [1, 5] (fun m i wr => ∃ k : Nat, k ≤ l.length ∧ i = .int .i64 k ∧ l.length + sumN wtU (l.take k) ≤ L ∧ m = .int .i64 ((L - (l.length + sumN wtU (l.take k)) : Nat) : Int) ∧ Below w.heap.size w wr) (fun _ i _ => l.length - (intOf i).toNat)
  case atStart => exact ⟨0, Nat.zero_le _, rfl, by simpa [sumN] using h0, by simp [sumN]; omega, Below.refl _ _⟩
  case round =>
    obtain ⟨k, hk, rfl, hle, rfl, hb⟩ := hrel
    by_cases hlt : k < l.length
    · obtain ⟨b, off, cap', us, e1, hS, hbB, hat, hu⟩ := Cd.sl_at (HR.out wr hb) hlt
      injection e1 with e1 e2 e3
      subst e1 e3
      obtain ⟨x0, x1, x2, rfl⟩ := len_list (updC.len hu)
      have c0 := hat 0 (by simp)
      have c1 := hat 1 (by simp)
      have c2 := hat 2 (by simp)
      simp only [List.getElem_cons_zero, List.getElem_cons_succ, Nat.add_zero, show updC.n = 3 from rfl] at c0 c1 c2
      have ht := sumN_succ wtU hlt
      have hsz := sz_elem [x0, x1, x2] l[k] _ (L - (l.length + sumN wtU (l.take k))) wr hu (by omega)
      have HB := Lib.hid hb
      clear hu hat hb
      by_cases hgo : l.length + sumN wtU (l.take (k + 1)) ≤ L
      · rw [left_yes (by omega)] at hsz
        have HSZ := Lib.hid hsz
        have e2 : L - (l.length + sumN wtU (l.take k)) - wtU l[k] = L - (l.length + sumN wtU (l.take (k + 1))) := by omega
        rw [e2] at HSZ
        have HGO := Lib.hid hgo
        clear hsz e2 ht hgo hle
        generalize L - (l.length + sumN wtU (l.take k)) = m0 at *
        generalize hm1 : L - (l.length + sumN wtU (l.take (k + 1))) = m1 at *
        go_wp2_with fail
        refine HSZ.out.mono ?_
        rintro e w1 ⟨rfl, hb1⟩
        have HB1 := Lib.hid (below_then HB.out hb1)
        clear hb1
        go_wp2_with fail
        go_roundw
        case rel => exact ⟨k + 1, by omega, by go_num, HGO.out, by rw [hm1], HB1.out⟩
        case measure => simp [intOf]; omega
      · rw [left_no (by omega)] at hsz
        have HSZ := Lib.hid hsz
        have hall := sumN_take wtU l (k + 1)
        have HZ := Lib.hid (show leftI L (wtS l) = -1 from left_no (by unfold wtS; omega))
        clear hsz ht hgo hle hall
        generalize L - (l.length + sumN wtU (l.take k)) = m0 at *
        go_wp2_with fail
        refine HSZ.out.mono ?_
        rintro e w1 ⟨rfl, hb1⟩
        have HB1 := Lib.hid (below_then HB.out hb1)
        clear hb1
        go_wp2_with fail
        go_ret
        exact ⟨ret_int HZ.out.symm, HB1.out⟩
    · have ek : k = l.length := by omega
      subst ek
      rw [List.take_length] at *
      have HZ := Lib.hid (show leftI L (wtS l) = ((L - (l.length + sumN wtU l) : Nat) : Int) from left_yes (by unfold wtS; omega))
      clear hle
      generalize L - (l.length + sumN wtU l) = m0 at *
      go_wp2
      go_ret
      exact ⟨ret_int HZ.out.symm, hb⟩
theorem info_x : (Tryz.prog.info? 36).map (fun i => (i.zero, i.size, i.bytes)) = some (some (.agg #[.string ⟨#[]⟩, .bool false, .slice none 0 0]), 3, 48) := by kernel_rfl
set_option maxRecDepth 100000 in
set_option maxHeartbeats 1600000 in
theorem to_s (v : Value) (l : List U3) (S : Nat → Prop) (w : World) (hr : (Cd.sl 27 updC).rd w S [v] l) (hl : wtS l ≤ 1048577) :
    Calls Tryz.prog 18 #[v] w fun e w' => ∃ v' fp, e = .returned v' ∧ (Cd.sl 36 updC).ow w' w.heap.size [v'] l fp ∧ fp.Nodup ∧ Below w.heap.size w w' := by
  obtain ⟨i0, hi, hz0, hz1, hz2⟩ := info_parts info_x
  have HR := Lib.hid (fun w' (hb : Below w.heap.size w w') => Cd.later hr hb)
  have HW := Lib.hid hl
  obtain ⟨a, cap, rfl, hlm⟩ := Cd.sl_form hr
  have hll : l.length ≤ 1048577 := by unfold wtS at hl; omega
  clear hr hl
  go_enter Tryz.func18, Tryz.ntmps18
  go_wp2_with (at_make; refine wpList_make_full _ rfl _ _ 47 rfl w.heap.size 36 i0 (.agg #[.string ⟨#[]⟩, .bool false, .slice none 0 0]) 3 Tryz.underlying47 hi hz0 hz1 _ _ _ _ l.length rfl rfl rfl rfl (by rw [hz2]; omega) (by unfold maxLen; omega) (Nat.le_refl _) ?_)
  intro w1 hown0 hg0
  have hb1 : Below w.heap.size w w1 := (Below.refl _ _).grown hg0 (Nat.le_refl _) (by simp)
  have how : (Cd.sl 36 updC).ow w1 w.heap.size [.slice (some ⟨w.heap.size, 0, none⟩) l.length l.length] (List.replicate l.length ((⟨#[]⟩, false, []) : U3)) [w.heap.size] := by
    have e := Cd.toList_madeCells (us := [Value.string ⟨#[]⟩, .bool false, .slice none 0 0]) l.length (by simp)
    have hown1 : w1.ownsRow w.heap.size 36 3 (.slice (some ⟨w.heap.size, 0, none⟩) l.length l.length) l.length (madeCells ([Value.string ⟨#[]⟩, .bool false, .slice none 0 0]).toArray (l.length * 3)).toList := hown0
    rw [show l.length * 3 = l.length * ([Value.string ⟨#[]⟩, .bool false, .slice none 0 0]).length from rfl, e] at hown1
    exact Cd.ow_madeN (c := updC) hown1 (upd_ow (Cd.ow_nil _ _) (Nat.zero_le _))
  clear hown0 hg0
  go_wp2_with fail
  go_loopw [4] (fun i wr => ∃ (k : Nat) (fp : List Nat), k ≤ l.length ∧ i = .int .i64 k ∧ (Cd.sl 36 updC).ow wr w.heap.size [.slice (some ⟨w.heap.size, 0, none⟩) l.length l.length] (partA ((⟨#[]⟩, false, []) : U3) l k) fp ∧ fp.Nodup ∧ Below w.heap.size w wr) (fun i _ => l.length - (intOf i).toNat)
  case atStart => exact ⟨0, _, Nat.zero_le _, rfl, by rw [partA_zero]; exact how, by simp, hb1⟩
  case round =>
    obtain ⟨k, fp, hk, rfl, hown, hnd, hb⟩ := hrel
    by_cases hlt : k < l.length
    · obtain ⟨b, off, cap', us, e1, hS, hbB, hat, hu⟩ := Cd.sl_at (HR.out wr hb) hlt
      injection e1 with e1 e2 e3
      subst e1 e3
      obtain ⟨x0, x1, x2, rfl⟩ := len_list (updC.len hu)
      have c0 := hat 0 (by simp)
      have c1 := hat 1 (by simp)
      have c2 := hat 2 (by simp)
      simp only [List.getElem_cons_zero, List.getElem_cons_succ, Nat.add_zero, show updC.n = 3 from rfl] at c0 c1 c2
      have HT := Lib.hid (to_elem [x0, x1, x2] l[k] _ wr hu (by have := sumN_mem wtU hlt; have := HW.out; unfold wtS at this; omega))
      have HOW := Lib.hid hown
      have HB := Lib.hid hb
      have HND := Lib.hid hnd
      clear hu hat hown hnd hb how hb1
      go_wp2_with fail
      refine HT.out.mono ?_
      rintro e w2 ⟨us2, f2, rfl, ho2, hn2, hb2⟩
      obtain ⟨ya, yc, rfl⟩ := shape_ow ho2
      have hown2 := Cd.ow_later HOW.out hb2
      have hpl := partA_length ((⟨#[]⟩, false, []) : U3) l k hk
      obtain ⟨us0, fz, hl0, hat0, hx1⟩ := Cd.ow_elem hown2 (t := k) (by rw [hpl]; exact hlt)
      clear hx1
      obtain ⟨z0, z1, z2, rfl⟩ := len_list hl0
      have d0 := hat0 0 (by simp)
      have d1 := hat0 1 (by simp)
      have d2 := hat0 2 (by simp)
      simp only [List.getElem_cons_zero, List.getElem_cons_succ, Nat.add_zero, show updC.n = 3 from rfl] at d0 d1 d2
      have f0 := Cd.ow_frozen hown2 (k * 3)
      have f1 := Cd.ow_frozen hown2 (k * 3 + 1)
      have f2 := Cd.ow_frozen hown2 (k * 3 + 2)
      have hrow := updC.ow_base ho2 HB.out.size
      obtain ⟨fp', hput, hnd', hsub⟩ := Cd.ow_putN hown2 HND.out hrow hn2 (fun q hq => by
        intro hq'
        have h1 := (updC.ow_lt ho2 q hq).1
        have h2 := ((Cd.sl _ updC).ow_lt HOW.out q hq').2
        omega) (t := k) (by rw [hpl]; exact hlt)
      rw [partA_set ((⟨#[]⟩, false, []) : U3) l k hlt] at hput
      have HPUT := Lib.hid hput
      have HND' := Lib.hid hnd'
      have HB2 := Lib.hid (HB.out.trans (hb2.mono HB.out.size))
      clear hput hnd' hsub hrow hown2 ho2 hb2 hat0 hl0 hpl hn2
      go_wp2_with fail
      go_roundw
      case rel => exact ⟨k + 1, fp', by omega, by go_num, HPUT.out, HND'.out, (((HB2.out).setCell (Nat.le_refl _) _).setCell (Nat.le_refl _) _).setCell (Nat.le_refl _) _⟩
      case measure => simp [intOf]; omega
    · have ek : k = l.length := by omega
      subst ek
      rw [partA_all] at hown
      go_wp2_with fail
      go_ret
      exact ⟨_, fp, rfl, hown, hnd, hb⟩

def LaterS (w w' : World) : Prop := Below w.heap.size w w'
set_option maxRecDepth 100000 in
set_option maxHeartbeats 1600000 in
theorem eq_s (v1 v2 : Value) (l : List U3) (S1 S2 : Nat → Prop) (w : World) (h1 : (Cd.sl 36 updC).rd w S1 [v1] l) (h2 : (Cd.sl 36 updC).rd w S2 [v2] l) :
    Calls Tryz.prog 20 #[v1, v2] w fun e w' => e = .returned (.bool true) ∧ Below w.heap.size w w' := by
  have HR1 := Lib.hid (fun w' (hb : Below w.heap.size w w') => Cd.later h1 hb)
  have HR2 := Lib.hid (fun w' (hb : Below w.heap.size w w') => Cd.later h2 hb)
  obtain ⟨a1, cap1, rfl, hl1⟩ := Cd.sl_form h1
  obtain ⟨a2, cap2, rfl, hl2⟩ := Cd.sl_form h2
  clear h1 h2
  go_enter Tryz.func20, Tryz.ntmps20
  go_wp2
  go_loopw [5] (fun i wr => ∃ k : Nat, k ≤ l.length ∧ i = .int .i64 k ∧ Below w.heap.size w wr) (fun i _ => l.length - (intOf i).toNat)
  case atStart => exact ⟨0, Nat.zero_le _, rfl, Below.refl _ _⟩
  case round =>
    obtain ⟨k, hk, rfl, hb⟩ := hrel
    by_cases hlt : k < l.length
    · obtain ⟨b, off, cap', us, e1, _, hbB, hat, hu⟩ := Cd.sl_at (HR1.out wr hb) hlt
      injection e1 with e1 e2 e3
      subst e1 e3
      obtain ⟨x0, x1, x2, rfl⟩ := len_list (updC.len hu)
      have c0 := hat 0 (by simp)
      have c1 := hat 1 (by simp)
      have c2 := hat 2 (by simp)
      obtain ⟨b', off', cap', us, e1, _, hbB', hat', hu'⟩ := Cd.sl_at (HR2.out wr hb) hlt
      injection e1 with e1 e2 e3
      subst e1 e3
      obtain ⟨y0, y1, y2, rfl⟩ := len_list (updC.len hu')
      have d0 := hat' 0 (by simp)
      have d1 := hat' 1 (by simp)
      have d2 := hat' 2 (by simp)
      simp only [List.getElem_cons_zero, List.getElem_cons_succ, Nat.add_zero, show updC.n = 3 from rfl] at c0 c1 c2 d0 d1 d2
      have HE := Lib.hid (fun w' (hq : LaterS wr w') => eq_elem [x0, x1, x2] [y0, y1, y2] l[k] _ _ w' (Cd.later hu hq) (Cd.later hu' hq))
      have HB := Lib.hid hb
      have HBB := Lib.hid (And.intro hbB hbB')
      have p1 : (0 : Int) ≤ (k : Int) := by omega
      have p2 : (k : Int) < (l.length : Int) := by omega
      have kk : LaterS wr wr.drew := (Below.refl _ wr).drew
      clear hu hu' hat hat' hb hbB hbB'
      go_wp2_with fail
      go_region_held3 (fun wx => wx.cell? ⟨b, off + k * 3, none⟩ = some x0 ∧ wx.cell? ⟨b, off + k * 3 + 1, none⟩ = some x1 ∧ wx.cell? ⟨b, off + k * 3 + 2, none⟩ = some x2 ∧ wx.cell? ⟨b', off' + k * 3, none⟩ = some y0 ∧ wx.cell? ⟨b', off' + k * 3 + 1, none⟩ = some y1 ∧ wx.cell? ⟨b', off' + k * 3 + 2, none⟩ = some y2 ∧ LaterS wr wx)
        ((refine ⟨?_, ?_, ?_, ?_, ?_, ?_, ?_⟩ <;> first | assumption | (simp [*]; done)))
        (first | (go_at_call 12; refine (HE.out _ (by assumption)).mono ?_; rintro e wq ⟨rfl, hbq⟩; (have kk : LaterS wr wq := below_then (by assumption) hbq); (have q0 : wq.cell? ⟨b, off + k * 3, none⟩ = some x0 := (Below.cell kk HBB.out.1).trans c0); (have q1 : wq.cell? ⟨b, off + k * 3 + 1, none⟩ = some x1 := (Below.cell kk HBB.out.1).trans c1); (have q2 : wq.cell? ⟨b, off + k * 3 + 2, none⟩ = some x2 := (Below.cell kk HBB.out.1).trans c2); (have r0 : wq.cell? ⟨b', off' + k * 3, none⟩ = some y0 := (Below.cell kk HBB.out.2).trans d0); (have r1 : wq.cell? ⟨b', off' + k * 3 + 1, none⟩ = some y1 := (Below.cell kk HBB.out.2).trans d1); (have r2 : wq.cell? ⟨b', off' + k * 3 + 2, none⟩ = some y2 := (Below.cell kk HBB.out.2).trans d2); clear hbq))
      all_goals
        have hq : LaterS wr wq := by assumption
        have HBQ := Lib.hid (below_then HB.out hq)
        go_wp2_with fail
        go_roundw
        case rel => exact ⟨k + 1, by omega, by go_num, HBQ.out⟩
        case measure => simp [intOf]; omega
    · have ek : k = l.length := by omega
      subst ek
      go_wp2
      go_ret
      exact ⟨rfl, hb⟩
end Go.Proofs.YtdjgaffiildijaaGreat.SlUpdate

namespace Go.Proofs.YtdjgaffiildijaaGreat.UpdAll
open Go Go.RowKit Byt Ints IntsLaw Cd Rows2 Tab SlMath TabOpen TabElem SlTable Db TabSpec DbMath DbExact Exact Upd UpdMath UpdFmt UpdApp
open DbAcc (DbAns)

def updsC : Cd (List U3) := Cd.sl 36 updC
/-- A database and a number. -/
def NAns (l : List T3) (n : Nat) (w : World) (e : Ending) (w' : World) : Prop :=
  ∃ u fp, e = .returned (.tuple #[.agg #[u], .int .i64 n]) ∧ tabsC.ow w' w.heap.size [u] l fp ∧ fp.Nodup ∧ Below w.heap.size w w'
/-- In the loop: the database at hand in block X, the result's cell ahead of it. -/
structure AllS (w : World) (X : Nat) (cur : List T3) (a : Option Addr) (c : Nat) (fp : List Nat) (wr : World) : Prop where
  lx : Loc1 wr X (.slice a cur.length c)
  lr : Loc1 wr (w.heap.size + 1) (.slice none 0 0)
  ow : tabsC.ow wr (w.heap.size + 2) [.slice a cur.length c] cur fp
  nd : fp.Nodup
  xb : w.heap.size + 1 < X
  b : Below w.heap.size w wr
  wt : wtS cur ≤ 1048577
theorem AllS.later {w : World} {X : Nat} {cur : List T3} {a : Option Addr} {c : Nat} {fp : List Nat} {wr w' : World} (h : AllS w X cur a c fp wr) (hb : Below wr.heap.size wr w') : AllS w X cur a c fp w' :=
  ⟨h.lx.later hb, h.lr.later hb, Cd.ow_later h.ow hb, h.nd, h.xb, below_then h.b hb, h.wt⟩
theorem AllS.done {w : World} {X : Nat} {cur : List T3} {a : Option Addr} {c : Nat} {fp : List Nat} {wr : World} (h : AllS w X cur a c fp wr) {R : List T3} {n N : Nat} (e1 : cur = R) (e2 : n = N) :
    NAns R N w (.returned (.tuple #[.agg #[.slice a cur.length c], .int .i64 n])) (wr.setCell ⟨w.heap.size + 1, 0, none⟩ (.slice a cur.length c)) := by
  subst e1 e2
  refine ⟨_, fp, rfl, ow_setCell ((Cd.sl _ tabC).ow_base h.ow (by omega)) (fun q => by have := ((Cd.sl _ tabC).ow_lt h.ow _ q).1; simp only at this; omega) _, h.nd, h.b.setCell (by show _ ≤ w.heap.size + 1; omega) _⟩
/-- A local database, made behind W1. -/
def MadeD (W1 : World) (l : List T3) (s8 : Value) (wx : World) : Prop :=
  ∃ k a c fp, s8 = .pointer (some ⟨k, 0, none⟩) ∧ W1.heap.size ≤ k ∧ Loc1 wx k (.slice a l.length c) ∧ tabsC.ow wx W1.heap.size [.slice a l.length c] l fp ∧ fp.Nodup ∧ Below W1.heap.size W1 wx
theorem madeD {W1 wq : World} {k : Nat} {a : Option Addr} {c n : Nat} {x : Value} {l : List T3} {fp : List Nat} (kk : LaterU W1 wq) (hb : W1.heap.size ≤ k) (GL : Loc1 wq k x)
    (HO : tabsC.ow wq W1.heap.size [.slice a n c] l fp) (hn : n = l.length) (hnd : fp.Nodup) (hbn : k ∉ fp) : MadeD W1 l (.pointer (some ⟨k, 0, none⟩)) (wq.setCell ⟨k, 0, none⟩ (.slice a n c)) := by
  subst hn
  exact ⟨k, a, c, fp, rfl, hb, GL.set _, ow_setCell HO hbn _, hnd, Below.setCell kk hb _⟩
theorem madeD2 {W1 wq : World} {a : Option Addr} {c n : Nat} {T : TypeId} {l : List T3} {fp : List Nat} (kk : LaterU W1 wq)
    (HO : tabsC.ow wq W1.heap.size [.slice a n c] l fp) (hn : n = l.length) (hnd : fp.Nodup) : MadeD W1 l (.pointer (some ⟨wq.heap.size, 0, none⟩)) (wq.alloc (.cells #[.slice a n c] T (0, 0))) := by
  subst hn
  exact ⟨wq.heap.size, a, c, fp, rfl, Below.size kk, Loc1.of (start1 wq _ rfl).1, Cd.ow_later HO (below_alloc _ _), hnd, below_then kk (below_alloc _ _)⟩
theorem AllS.next {w : World} {X : Nat} {cur : List T3} {a : Option Addr} {c : Nat} {fp : List Nat} {wr : World} (h : AllS w X cur a c fp wr) {l : List T3} {a' : Option Addr} {c' : Nat} {fp' : List Nat} {wx : World}
    (ho : tabsC.ow wx wr.heap.size [.slice a' l.length c'] l fp') (hn : fp'.Nodup) (hb : Below wr.heap.size wr wx) (hw : wtS l ≤ 1048577) : AllS w X l a' c' fp' (wx.setCell ⟨X, 0, none⟩ (.slice a' l.length c')) := by
  have h1 := h.later hb
  have hX := h.lx.lt
  have hR := h.lr.lt
  have hxb := h.xb
  refine ⟨h1.lx.set _, h1.lr.set_far (by show X ≠ _; omega) _, ow_setCell ((Cd.sl _ tabC).ow_base ho (by omega)) (fun q => by have := ((Cd.sl _ tabC).ow_lt ho _ q).1; simp only at this; omega) _, hn, hxb, h1.b.setCell (by show _ ≤ X; omega) _, hw⟩
theorem laterU_set1 {a w : World} {k : Nat} {x : Value} (h : LaterU a w) (hk : a.heap.size ≤ k) : LaterU a (w.setCell ⟨k, 0, none⟩ x) := Below.setCell h hk _
theorem locD_new {W wq : World} {x : Value} {T : TypeId} (hb : Below (W.alloc (.cells #[x] T (0, 0))).heap.size (W.alloc (.cells #[x] T (0, 0))) wq) : Loc1 wq W.heap.size x :=
  (Loc1.of (start1 W _ rfl).1).later hb
theorem newD_lt {W wq : World} {x : Value} {T : TypeId} (_ : Below (W.alloc (.cells #[x] T (0, 0))).heap.size (W.alloc (.cells #[x] T (0, 0))) wq) : W.heap.size < (W.alloc (.cells #[x] T (0, 0))).heap.size := by rw [size_alloc]; omega
theorem locD_new3 {W wq : World} {x : Value} {T : TypeId} (hb : Below (W.alloc (.cells #[x] T (0, 0))).drew.heap.size (W.alloc (.cells #[x] T (0, 0))).drew wq) : Loc1 wq W.heap.size x :=
  (Loc1.of (start1 W _ rfl).1).drew.later hb
theorem newD_lt3 {W wq : World} {x : Value} {T : TypeId} (_ : Below (W.alloc (.cells #[x] T (0, 0))).drew.heap.size (W.alloc (.cells #[x] T (0, 0))).drew wq) : W.heap.size < (W.alloc (.cells #[x] T (0, 0))).drew.heap.size := by
  show W.heap.size < (W.alloc (.cells #[x] T (0, 0))).heap.size
  rw [size_alloc]; omega
theorem upd_wt {us : List U3} {k : Nat} (h : k < us.length) (hw : SlUpdate.wtS us ≤ 1048577) : us[k].2.2.length ≤ 1048577 ∧ us[k].1.size ≤ 1048576 := by
  have h1 := sumN_mem wtU h
  have h2 : wtU us[k] = us[k].1.size + us[k].2.2.length := rfl
  unfold SlUpdate.wtS at hw
  have : 0 < us.length := by omega
  omega

set_option maxRecDepth 100000 in
set_option maxHeartbeats 6400000 in
theorem spec_applyall (u v : Value) (l : List T3) (us : List U3) (S S2 : Nat → Prop) (w : World) (h1 : tabsC.rd w S [u] l) (h2 : updsC.rd w S2 [v] us) (hw : wtS l ≤ 1048577) (hu : SlUpdate.wtS us ≤ 1048577) :
    Calls Tryz.prog 17 #[.agg #[u], v] w fun e w' => NAns (allL l us).1 (allL l us).2 w e w' := by
  have HDC := Lib.hid (fun w' (hb : Below w.heap.size w w') => DbSpec.spec_dbcopy u l S w' (Cd.later h1 hb) (by omega))
  have HU := Lib.hid (fun w' (hb : Below w.heap.size w w') => Cd.later h2 hb)
  have HW := Lib.hid hw
  have HUW := Lib.hid hu
  obtain ⟨a1, cap1, rfl, hl1⟩ := Cd.sl_form h1
  obtain ⟨a2, cap2, rfl, hl2⟩ := Cd.sl_form h2
  clear h1 h2 hw hu
  obtain ⟨R, N, hRN⟩ : ∃ R N, allL l us = (R, N) := ⟨_, _, rfl⟩
  rw [hRN]
  have HRN := Lib.hid hRN
  clear hRN
  go_enter Tryz.func17, Tryz.ntmps17
  go_wp2_with fail
  generalize hW : (w.alloc _).alloc _ = W
  obtain ⟨r0, r1, hz, hb0⟩ := start2g w _ _ hW
  have HC1 := Lib.hid (Loc1.of r1)
  have HB0 := Lib.hid hb0
  have HZ := Lib.hid hz
  clear hW r0 r1 hz hb0
  refine (HDC.out W HB0.out).mono ?_
  rintro e w1 ⟨u3, f3, rfl, ho3, hn3, hb3⟩
  obtain ⟨a3, c3, rfl⟩ := Cd.ow_slice (c := tabC) ho3
  have HS := Lib.hid (show AllS w w1.heap.size l a3 c3 f3 (w1.alloc (.cells #[.slice a3 l.length c3] 32 (0, 0))) from
    ⟨Loc1.of (row_alloc _ _), (HC1.out.later hb3).later (below_alloc _ _), Cd.ow_later ((Cd.sl _ tabC).ow_base ho3 (by have := HZ.out; omega)) (below_alloc _ _), hn3, by have := HZ.out; have := hb3.size; omega, below_then (below_then HB0.out hb3) (below_alloc _ _), HW.out⟩)
  clear ho3 hn3 hb3 HC1
  go_wp2_with fail
  generalize w1.alloc _ = W2 at *
  generalize w1.heap.size = X at *
  go_loopw [7] (fun i wr => ∃ (k : Nat) (cur : List T3) (a : Option Addr) (c : Nat) (fp : List Nat) (m : Nat), k ≤ us.length ∧ i = .int .i64 k ∧ allL cur (us.drop k) = (R, m) ∧ k + m = N ∧ AllS w X cur a c fp wr) (fun i _ => us.length - (intOf i).toNat)
  case atStart => exact ⟨0, l, a3, c3, f3, N, Nat.zero_le _, rfl, HRN.out, Nat.zero_add _, HS.out⟩
  case round =>
    obtain ⟨k, cur, a, c, fp, m, hk, rfl, hall, hm, hst⟩ := hrel
    have HST := Lib.hid hst
    have HALL := Lib.hid hall
    have HM := Lib.hid hm
    clear hst hall hm
    have q0 := HST.out.lx.c0
    by_cases hlt : k < us.length
    · obtain ⟨b, off, cap', xs, e1, _, hbB, hat, hu⟩ := Cd.sl_at (HU.out wr HST.out.b) hlt
      injection e1 with e1 e2 e3
      subst e1 e3
      obtain ⟨x0, x1, x2, rfl⟩ := SlUpdate.len_list (updC.len hu)
      have c0 := hat 0 (by simp)
      have c1 := hat 1 (by simp)
      have c2 := hat 2 (by simp)
      simp only [List.getElem_cons_zero, List.getElem_cons_succ, Nat.add_zero, show updC.n = 3 from rfl] at c0 c1 c2
      obtain ⟨uu, exs, hns, hrow⟩ := upd_cells hu
      simp only [List.cons.injEq, and_true] at exs
      obtain ⟨rfl, rfl, rfl⟩ := exs
      have HAP := Lib.hid (fun w' (hb : LaterU wr w') => spec_apply _ x2 cur us[k].1 us[k].2.1 us[k].2.2 _ _ w' (tabsC.ow_rd (Cd.ow_later HST.out.ow hb)) (Cd.later hrow hb) HST.out.wt (upd_wt hlt HUW.out).1)
      have HGO := Lib.hid (allL_go (l := cur) hlt)
      have HSTOP := Lib.hid (allL_stop (l := cur) hlt)
      have HWN := Lib.hid (app_wt (nm := us[k].1) (b := us[k].2.1) (row := us[k].2.2) HST.out.wt)
      have p1 : (0 : Int) ≤ (k : Int) := by omega
      have p2 : (k : Int) < (us.length : Int) := by omega
      have S7 := Lib.hid (fun wx (h : LaterU wr wx) => And.intro (HST.out.lx.later h).c0 (And.intro ((Below.cell h hbB).trans c0) (And.intro ((Below.cell h hbB).trans c1) (And.intro ((Below.cell h hbB).trans c2) h))))
      clear hu hat hrow hns hbB c0 c1 c2
      generalize us[k].1 = nm at *
      generalize us[k].2.1 = bb at *
      generalize us[k].2.2 = row at *
      go_upto_region 5 with fail
      have kk : LaterU wr wr.drew := Below.drew (Below.refl _ wr)
      obtain ⟨h0, h1, h2, h3, h4⟩ := S7.out _ kk
      go_cut [8, 9] (fun s8 s9 wx => s9 = .bool (appOk cur nm bb row) ∧ MadeD wr (appL cur nm bb row) s8 wx)
      case first =>
        generalize appOk cur nm bb row = ok at *
        generalize appL cur nm bb row = ln at *
        go_region_held3 (fun wx => wx.cell? ⟨X, 0, none⟩ = some (.slice a cur.length c) ∧ wx.cell? ⟨b, off + k * 3, none⟩ = some (.string nm) ∧ wx.cell? ⟨b, off + k * 3 + 1, none⟩ = some (.bool bb) ∧ wx.cell? ⟨b, off + k * 3 + 2, none⟩ = some x2 ∧ LaterU wr wx)
          ((first | exact S7.out _ (by first | assumption | exact laterU_drew (Below.refl _ wr) | exact laterU_alloc (by first | assumption | exact laterU_drew (Below.refl _ wr)) _ | exact laterU_set1 (by first | assumption | exact laterU_alloc (by assumption) _) (laterU_size (by first | assumption | exact Below.refl _ _)))))
          (first | (go_at_call 7; refine (HAP.out _ (by first | assumption | exact laterU_drew (laterU_alloc (Below.refl _ wr) _) | exact laterU_alloc (by assumption) _)).mono ?_; rintro e wq ⟨u5, f5, rfl, how, hnd, hbq⟩; obtain ⟨a5, c5, rfl⟩ := Cd.ow_slice (c := tabC) how; (have kk : LaterU wr wq := below_then (by first | assumption | exact laterU_alloc (by assumption) _ | exact laterU_drew (laterU_alloc (Below.refl _ wr) _) | exact laterU_drew (Below.refl _ wr)) hbq); (first | (have GB := Lib.hid GL.out.lt; have GL := Lib.hid (GL.out.later hbq)) | (have GB := Lib.hid (newD_lt hbq); have GL := Lib.hid (locD_new hbq)) | (have GB := Lib.hid (newD_lt3 hbq); have GL := Lib.hid (locD_new3 hbq)) | skip); obtain ⟨h0, h1, h2, h3, h4⟩ := S7.out _ kk; (have HO5 := Lib.hid (tabsC.ow_base how (laterU_size (a := wr) (by first | assumption | exact laterU_drew (laterU_alloc (Below.refl _ wr) _) | exact laterU_alloc (by assumption) _)))); (have HLT := Lib.hid (tabsC.ow_lt how)); (have HND := Lib.hid hnd); (first | (have x0 := GL.out.c0; have f0 := GL.out.f0) | skip); clear hbq how hnd))
        all_goals
          go_wp2_with fail
          go_meet
          refine ⟨rfl, ?_⟩
          first
            | (have GG := GL.out; exact madeD (by assumption) (laterU_size (by first | assumption | exact Below.refl _ _)) GG HO5.out rfl HND.out (fun q => by have h1 := (HLT.out _ q).1; have h2 := GB.out; omega))
            | (with_reducible exact madeD2 (by assumption) HO5.out rfl HND.out)
      case rest =>
        obtain ⟨rfl, kb, a5, c5, f5, rfl, hk5, hx, how, hnd, hl⟩ := hcut
        clear h0 h1 h2 h3 h4 kk S7 HAP q0
        have HSL := Lib.hid (HST.out.later hl)
        have HLX := Lib.hid hx
        have HNX := Lib.hid (HST.out.next how hnd hl HWN.out)
        have y0 := hx.c0
        have z0 := HSL.out.lx.c0
        have z1 := HSL.out.lx.f0
        have z2 := HSL.out.lr.c0
        have z3 := HSL.out.lr.f0
        clear hx how hnd hk5 hl
        cases hk : appOk cur nm bb row
        · have HE := Lib.hid (HSTOP.out hk)
          have hRm := HALL.out
          rw [HE.out] at hRm
          injection hRm with hR hm0
          have HR1 := Lib.hid hR
          have HM1 := Lib.hid (show k = N by have := HM.out; omega)
          clear hR hm0 hk
          go_wp2_with fail
          have k0 := World.cell?_setCell_same _ _ (.slice a cur.length c) z2
          refine bodyPost_ret (v := .tuple #[.agg #[.slice a cur.length c], .int .i64 k]) (by simp [results, Tryz.results17, go_sem, k0]) rfl (HSL.out.done HR1.out HM1.out)
        · have HE := Lib.hid (HGO.out hk)
          have hRm := HALL.out
          rw [HE.out] at hRm
          injection hRm with hR hm0
          have HR1 := Lib.hid (show allL (appL cur nm bb row) (us.drop (k + 1)) = (R, (allL (appL cur nm bb row) (us.drop (k + 1))).2) by rw [← hR])
          have HM1 := Lib.hid (show (k + 1) + (allL (appL cur nm bb row) (us.drop (k + 1))).2 = N by have := HM.out; omega)
          clear hR hm0 hk
          go_wp2_with fail
          go_roundw
          case rel => exact ⟨k + 1, _, _, _, _, _, by omega, by go_num, HR1.out, HM1.out, HNX.out⟩
          case measure => simp [intOf]; omega
    · have ek : k = us.length := by omega
      subst ek
      have hRm := HALL.out
      rw [allL_end] at hRm
      injection hRm with hR hm0
      have HR1 := Lib.hid hR
      have HM1 := Lib.hid (show us.length = N by have := HM.out; omega)
      have z2 := HST.out.lr.c0
      have z3 := HST.out.lr.f0
      clear hR hm0
      go_wp2_with fail
      have k0 := World.cell?_setCell_same _ _ (.slice a cur.length c) z2
      refine bodyPost_ret (v := .tuple #[.agg #[.slice a cur.length c], .int .i64 us.length]) (by simp [results, Tryz.results17, go_sem, k0]) rfl (HST.out.done HR1.out HM1.out)
end Go.Proofs.YtdjgaffiildijaaGreat.UpdAll

namespace Go.Proofs.YtdjgaffiildijaaGreat.UpdAll
open Go Go.RowKit Byt Ints IntsLaw Cd Rows2 Tab SlMath TabOpen TabElem SlTable Db TabSpec DbMath DbExact Exact Upd UpdMath UpdFmt UpdApp
open DbAcc (DbAns)

theorem nans_alloc {w w' : World} {l : List T3} {n : Nat} {e : Ending} (h : NAns l n w e w') (o : Obj) : NAns l n w e (w'.alloc o) := by
  obtain ⟨u, fp, h1, h2, h3, h4⟩ := h
  exact ⟨u, fp, h1, Cd.ow_later h2 (below_alloc _ _), h3, below_then h4 (below_alloc _ _)⟩
set_option maxRecDepth 100000 in
set_option maxHeartbeats 6400000 in
theorem impl_applyall (u v : Value) (l : List T3) (us : List U3) (S S2 : Nat → Prop) (w : World) (h1 : tabsC.rd w S [u] l) (h2 : updsC.rd w S2 [v] us) (hw : wtS l ≤ 1048577) (hu : SlUpdate.wtS us ≤ 1048577) :
    Calls Tryz.prog 19 #[.agg #[u], v] w fun e w' => NAns (allL l us).1 (allL l us).2 w e w' := by
  have HDC := Lib.hid (fun w' (hb : Below w.heap.size w w') => DbImp.impl_dbcopy u l S w' (Cd.later h1 hb) hw)
  have HU := Lib.hid (fun w' (hb : Below w.heap.size w w') => Cd.later h2 hb)
  have HW := Lib.hid hw
  have HUW := Lib.hid hu
  obtain ⟨a1, cap1, rfl, hl1⟩ := Cd.sl_form h1
  obtain ⟨a2, cap2, rfl, hl2⟩ := Cd.sl_form h2
  clear h1 h2 hw hu
  obtain ⟨R, N, hRN⟩ : ∃ R N, allL l us = (R, N) := ⟨_, _, rfl⟩
  rw [hRN]
  have HRN := Lib.hid hRN
  clear hRN
  go_enter Tryz.func19, Tryz.ntmps19
  go_wp2_with fail
  generalize hW : (w.alloc _).alloc _ = W
  obtain ⟨r0, r1, hz, hb0⟩ := start2g w _ _ hW
  have HC1 := Lib.hid (Loc1.of r1)
  have HB0 := Lib.hid hb0
  have HZ := Lib.hid hz
  clear hW r0 r1 hz hb0
  refine (HDC.out W HB0.out).mono ?_
  rintro e w1 ⟨a3, c3, f3, rfl, ho3, hn3, hb3⟩
  have HS := Lib.hid (show AllS w w1.heap.size l a3 c3 f3 (w1.alloc (.cells #[.slice a3 l.length c3] 32 (0, 0))) from
    ⟨Loc1.of (row_alloc _ _), (HC1.out.later hb3).later (below_alloc _ _), Cd.ow_later ((Cd.sl _ tabC).ow_base ho3 (by have := HZ.out; omega)) (below_alloc _ _), hn3, by have := HZ.out; have := hb3.size; omega, below_then (below_then HB0.out hb3) (below_alloc _ _), HW.out⟩)
  clear ho3 hn3 hb3 HC1
  go_wp2_with fail
  generalize w1.alloc _ = W2 at *
  generalize w1.heap.size = X at *
  go_loopw [15] (fun i wr => ∃ (k : Nat) (cur : List T3) (a : Option Addr) (c : Nat) (fp : List Nat) (m : Nat), k ≤ us.length ∧ i = .int .i64 k ∧ allL cur (us.drop k) = (R, m) ∧ k + m = N ∧ AllS w X cur a c fp wr) (fun i _ => us.length - (intOf i).toNat)
  case atStart => exact ⟨0, l, a3, c3, f3, N, Nat.zero_le _, rfl, HRN.out, Nat.zero_add _, HS.out⟩
  case round =>
    obtain ⟨k, cur, a, c, fp, m, hk, rfl, hall, hm, hst⟩ := hrel
    have HST := Lib.hid hst
    have HALL := Lib.hid hall
    have HM := Lib.hid hm
    clear hst hall hm
    by_cases hlt : k < us.length
    · obtain ⟨b, off, cap', xs, e1, _, hbB, hat, hu⟩ := Cd.sl_at (HU.out wr HST.out.b) hlt
      injection e1 with e1 e2 e3
      subst e1 e3
      obtain ⟨x0, x1, x2, rfl⟩ := SlUpdate.len_list (updC.len hu)
      have c0 := hat 0 (by simp)
      have c1 := hat 1 (by simp)
      have c2 := hat 2 (by simp)
      simp only [List.getElem_cons_zero, List.getElem_cons_succ, Nat.add_zero, show updC.n = 3 from rfl] at c0 c1 c2
      obtain ⟨uu, exs, hns, hrow⟩ := upd_cells hu
      simp only [List.cons.injEq, and_true] at exs
      obtain ⟨rfl, rfl, rfl⟩ := exs
      obtain ⟨a6, c6, rfl, _⟩ := row_form hrow
      have HAP := Lib.hid (fun w' (hb : LaterU wr w') => impl_apply _ _ cur us[k].1 us[k].2.1 us[k].2.2 _ _ w' (tabsC.ow_rd (Cd.ow_later HST.out.ow hb)) (Cd.later hrow hb) HST.out.wt (upd_wt hlt HUW.out).1 (upd_wt hlt HUW.out).2)
      have HGO := Lib.hid (allL_go (l := cur) hlt)
      have HSTOP := Lib.hid (allL_stop (l := cur) hlt)
      have HWN := Lib.hid (app_wt (nm := us[k].1) (b := us[k].2.1) (row := us[k].2.2) HST.out.wt)
      have p1 : (0 : Int) ≤ (k : Int) := by omega
      have p2 : (k : Int) < (us.length : Int) := by omega
      have q0 := HST.out.lx.c0
      have q1 := HST.out.lx.lt
      clear hu hat hrow hns hbB
      generalize us[k].1 = nm at *
      generalize us[k].2.1 = bb at *
      generalize us[k].2.2 = row at *
      go_wp2_with fail
      refine (HAP.out _ (below_alloc _ _)).mono ?_
      rintro e w5 ⟨u5, f5, rfl, how, hnd, hb5⟩
      obtain ⟨a5, c5, rfl⟩ := Cd.ow_slice (c := tabC) how
      have hbw := below_then (below_alloc wr _) hb5
      have HS5 := Lib.hid (HST.out.later hbw)
      have HNX := Lib.hid (HST.out.next ((Cd.sl _ tabC).ow_base how (by rw [size_alloc]; omega)) hnd hbw HWN.out)
      have z0 := HS5.out.lx.c0
      have z1 := HS5.out.lx.f0
      have z2 := HS5.out.lr.c0
      have z3 := HS5.out.lr.f0
      have z4 := HS5.out.lx.lt
      have z5 := HS5.out.lr.lt
      clear how hnd hb5 hbw q0 q1 HAP
      cases hk : appOk cur nm bb row
      · have HE := Lib.hid (HSTOP.out hk)
        have hRm := HALL.out
        rw [HE.out] at hRm
        injection hRm with hR hm0
        have HR1 := Lib.hid hR
        have HM1 := Lib.hid (show k = N by have := HM.out; omega)
        clear hR hm0 hk
        have M0 := Lib.hid (cell_alloc_some (World.cell?_setCell_same _ _ (.slice a cur.length c) z2) (.cells #[.slice a5 (appL cur nm bb row).length c5] 32 (0, 0)))
        go_wp2_with fail
        have k0 := M0.out
        refine bodyPost_ret (v := .tuple #[.agg #[.slice a cur.length c], .int .i64 k]) (by simp [results, Tryz.results19, go_sem, k0]) rfl (nans_alloc (HS5.out.done HR1.out HM1.out) _)
      · have HE := Lib.hid (HGO.out hk)
        have hRm := HALL.out
        rw [HE.out] at hRm
        injection hRm with hR hm0
        have HR1 := Lib.hid (show allL (appL cur nm bb row) (us.drop (k + 1)) = (R, (allL (appL cur nm bb row) (us.drop (k + 1))).2) by rw [← hR])
        have HM1 := Lib.hid (show (k + 1) + (allL (appL cur nm bb row) (us.drop (k + 1))).2 = N by have := HM.out; omega)
        clear hR hm0 hk
        go_wp2_with fail
        go_roundw
        case rel => exact ⟨k + 1, _, _, _, _, _, by omega, by go_num, HR1.out, HM1.out, HNX.out.later (below_alloc _ _)⟩
        case measure => simp [intOf]; omega
    · have ek : k = us.length := by omega
      subst ek
      have hRm := HALL.out
      rw [allL_end] at hRm
      injection hRm with hR hm0
      have HR1 := Lib.hid hR
      have HM1 := Lib.hid (show us.length = N by have := HM.out; omega)
      have z0 := HST.out.lx.c0
      have z2 := HST.out.lr.c0
      have z3 := HST.out.lr.f0
      clear hR hm0
      go_wp2_with fail
      have k0 := World.cell?_setCell_same _ _ (.slice a cur.length c) z2
      refine bodyPost_ret (v := .tuple #[.agg #[.slice a cur.length c], .int .i64 us.length]) (by simp [results, Tryz.results19, go_sem, k0]) rfl (HST.out.done HR1.out HM1.out)
end Go.Proofs.YtdjgaffiildijaaGreat.UpdAll

namespace Go.Proofs.YtdjgaffiildijaaGreat.MkUpdate
open Go Go.RowKit Byt Ints IntsLaw Cd Rows2 Tab TabSpec Exact SlMath Upd Mark
open SlTable (heap_same touch_cell)

def updsC : Cd (List U3) := Cd.sl 36 updC
/-- An update marked from k on, and how many marks it takes. -/
def mkU (k : Nat) (U : U3) : U3 := (mtext k, (((k : Int) + 1) % 3 == 0), marks ((k + 2 : Nat) : Int) U.2.2.length)
def cntU (U : U3) : Nat := 2 + U.2.2.length
theorem cntU_le : ∀ (l : List U3), sumN cntU l ≤ 2 * SlUpdate.wtS l
  | [] => by simp [sumN]
  | U :: l => by
    have ih := cntU_le l
    unfold SlUpdate.wtS at *
    rw [sumN_cons, sumN_cons, List.length_cons]
    have : cntU U ≤ 2 + wtU U := by unfold cntU wtU updWt; omega
    omega
theorem urow_le {l : List U3} {U : U3} (h : U ∈ l) : U.2.2.length ≤ SlUpdate.wtS l := by
  obtain ⟨k, hk, rfl⟩ := List.getElem_of_mem h
  have h1 := sumN_mem wtU hk
  have h2 : (l[k]).2.2.length ≤ wtU l[k] := by unfold wtU updWt; omega
  unfold SlUpdate.wtS
  omega
theorem cntsU_of {l : List U3} (h : SlUpdate.wtS l ≤ 1048576) : sumN cntU l ≤ 4194308 ∧ ∀ U ∈ l, U.2.2.length ≤ 1048577 :=
  ⟨by have := cntU_le l; omega, fun U hU => by have := urow_le hU; omega⟩

set_option maxRecDepth 100000 in
set_option maxHeartbeats 1600000 in
theorem mark_s (v : Value) (l : List U3) (base k0 : Nat) (fp : List Nat) (w : World) (h : (Cd.sl 36 updC).ow w base [v] l fp) (hnd : fp.Nodup) (hl : sumN cntU l ≤ 4194308) (hrl : ∀ U ∈ l, U.2.2.length ≤ 1048577) (hk1 : 1 ≤ k0) (hk0 : k0 ≤ 400000000) :
    Calls Tryz.prog 21 #[v, .int .i64 k0] w fun e w' => e = .returned (.int .i64 ((k0 + sumN cntU l : Nat) : Int)) ∧ (Cd.sl 36 updC).ow w' base [v] (mkS mkU cntU k0 l) fp ∧ Cd.Touch fp w w' := by
  have hlm : l.length ≤ 9223372036854775807 := by
    obtain ⟨_, _, _, q⟩ := Cd.sl_form ((Cd.sl _ updC).ow_rd h)
    exact q
  obtain ⟨a, cap, rfl⟩ := Cd.ow_slice h
  go_enter Tryz.func21, Tryz.ntmps21
  go_wp2
  go_loopw [1, 5] (fun k i wr => ∃ j : Nat, j ≤ l.length ∧ i = .int .i64 j ∧ k = .int .i64 ((k0 + sumN cntU (l.take j) : Nat) : Int) ∧ (Cd.sl 36 updC).ow wr base [.slice a l.length cap] (mpartA mkU cntU k0 l j) fp ∧ Cd.Touch fp w wr) (fun _ i _ => l.length - (intOf i).toNat)
  case atStart => exact ⟨0, Nat.zero_le _, rfl, by simp [sumN], by rw [mpartA_zero]; exact h, Cd.Touch.refl _ _⟩
  case round =>
    obtain ⟨j, hj, rfl, rfl, hown, htc⟩ := hrel
    by_cases hlt : j < l.length
    · have hpl := mpartA_length (mk := mkU) (cnt := cntU) k0 l j hj
      obtain ⟨g, cap', e1, _, hg, hgf⟩ := Cd.ow_form hown (by omega)
      rw [hpl] at e1
      injection e1 with e1 e2 e3
      subst e1 e3
      obtain ⟨us, f, hl0, hat, hu, hsub, hndf, hre⟩ := Cd.ow_elem hown (t := j) (by omega)
      rw [mpartA_get k0 l j hlt] at hu
      obtain ⟨ya, yc, rfl⟩ := shape_ow hu
      have c0 := hat 0 (by simp)
      have c1 := hat 1 (by simp)
      have c2 := hat 2 (by simp)
      simp only [List.getElem_cons_zero, List.getElem_cons_succ, Nat.add_zero, show updC.n = 3 from rfl] at c0 c1 c2
      have f0 := Cd.ow_frozen hown (j * 3)
      have f1 := Cd.ow_frozen hown (j * 3 + 1)
      have f2 := Cd.ow_frozen hown (j * 3 + 2)
      have hrow := row_of_upd hu
      have hkn : k0 + sumN cntU (l.take (j + 1)) = k0 + sumN cntU (l.take j) + cntU l[j] := by rw [sumN_succ cntU hlt]; omega
      have hkc : cntU l[j] = 2 + (l[j]).2.2.length := rfl
      have hkb := sumN_take cntU l (j + 1)
      have hfl := hrl _ (List.getElem_mem hlt)
      have hset := mpartA_set (mk := mkU) (cnt := cntU) k0 l j hlt
      have hq1 : 1 ≤ k0 + sumN cntU (l.take j) := by omega
      have hq2 : k0 + sumN cntU (l.take j) ≤ 404194308 := by omega
      have HKN := Lib.hid (show ((k0 + sumN cntU (l.take (j + 1)) : Nat) : Int) = ((k0 + sumN cntU (l.take j) + 2 + (l[j]).2.2.length : Nat) : Int) by omega)
      have HSET := Lib.hid hset
      have HRE := Lib.hid hre
      have HND := Lib.hid hnd
      have HNF := Lib.hid (hndf hnd)
      have HTC := Lib.hid htc
      have HROW := Lib.hid hrow
      have HSUB := Lib.hid hsub
      have HLT := Lib.hid ((Cd.sl 36 updC).ow_lt hown)
      have HGF := Lib.hid hgf
      have HFL := Lib.hid hfl
      clear hkn hkb hkc hset hown htc hnd hrow hu hndf hre hsub hat hl0 hpl hfl hrl hl h
      generalize k0 + sumN cntU (l.take j) = q at *
      have HMT := Lib.hid (mark_text q wr (by omega) (by omega))
      go_wp2_with fail
      refine HMT.out.mono ?_
      rintro e w1 ⟨rfl, hb1⟩
      have d0 := (hb1.cell (World.block_lt_of_cell? wr _ c0)).trans c0
      have d1 := (hb1.cell (World.block_lt_of_cell? wr _ c1)).trans c1
      have d2 := (hb1.cell (World.block_lt_of_cell? wr _ c2)).trans c2
      have g0 := (hb1.frozen (World.block_lt_of_cell? wr _ c0)).trans f0
      have g1 := (hb1.frozen (World.block_lt_of_cell? wr _ c1)).trans f1
      have HB1 := Lib.hid hb1
      have HMR := Lib.hid (mark_i _ (l[j]).2.2 base (q + 2) f ((w1.setCell ⟨g, j * 3, none⟩ (.string (mtext q))).setCell ⟨g, j * 3 + 1, none⟩ (.bool (((q : Int) + 1) % 3 == 0))) (ow_setCell (ow_setCell (Cd.ow_later HROW.out hb1) HNF.out.2 _) HNF.out.2 _) HFL.out (by omega))
      have eq2 : ((q + 2 : Nat) : Int) = (q : Int) + 1 + 1 := by omega
      rw [eq2] at HMR
      clear HFL
      generalize hfnl : (l[j]).2.2.length = fnl at *
      have HFNL := Lib.hid hfnl
      clear hfnl
      clear eq2
      clear hb1 c0 c1 c2 f0 f1 f2
      go_wp2_with fail
      refine HMR.out.mono ?_
      rintro e w4 ⟨rfl, ho4, ht4⟩
      have hgw : g < w1.heap.size := Nat.lt_of_lt_of_le (HLT.out g HGF.out).2 HB1.out.size
      have hclose := HRE.out w4 [some (.string (mtext q)), some (.bool (((q : Int) + 1) % 3 == 0)), none] (mkU q l[j]) f rfl
        (by
          have h := upd_ow (nm := mtext q) (b := (((q : Int) + 1) % 3 == 0)) ho4 (by have := mtext_size q (by omega); unfold maxLen; omega)
          unfold mkU
          rw [HFNL.out]
          exact h)
        (by
          rw [ht4.block g (by simpa using hgw) HNF.out.2]
          show ((w1.setCell ⟨g, j * 3, none⟩ (.string (mtext q))).setCell ⟨g, j * 3 + 1, none⟩ (.bool (((q : Int) + 1) % 3 == 0))).heap[g]? = _
          exact heap_same (heap_same (HB1.out.block g (HLT.out g HGF.out).2)))
        (fun b hb hbf hbg => by
          have hlt := (HLT.out b hb).2
          rw [ht4.block b (by have := HB1.out.size; simp; omega) hbf, Below.heap_setCell _ _ _ _ hbg, Below.heap_setCell _ _ _ _ hbg]
          exact HB1.out.block b hlt)
        HND.out HNF.out.1 (fun b hb => .inl hb)
      obtain ⟨fp', hx1, _, _, hx2⟩ := hclose
      obtain rfl := hx2 rfl
      rw [HSET.out] at hx1
      have HX := Lib.hid hx1
      have HT4 := Lib.hid (show Cd.Touch fp' w w4 from by
        have h1 : Cd.Touch fp' wr w1 := Cd.Touch.of_below HB1.out
        have h2 : Cd.Touch fp' w1 (w1.setCell ⟨g, j * 3, none⟩ (.string (mtext q))) := touch_cell HGF.out _
        have h3 : Cd.Touch fp' (w1.setCell ⟨g, j * 3, none⟩ (.string (mtext q))) ((w1.setCell ⟨g, j * 3, none⟩ (.string (mtext q))).setCell ⟨g, j * 3 + 1, none⟩ (.bool (((q : Int) + 1) % 3 == 0))) := touch_cell HGF.out _
        exact HTC.out.trans (h1.trans (h2.trans (h3.trans (ht4.mono HSUB.out)))))
      clear hx1 hx2 ho4 ht4 hgw
      go_wp2_with fail
      go_roundw
      case rel => exact ⟨j + 1, by omega, by go_num, by rw [HKN.out]; go_num, HX.out, HT4.out⟩
      case measure => simp [intOf]; omega
    · have ek : j = l.length := by omega
      subst ek
      rw [mpartA_all] at hown
      rw [List.take_length] at *
      go_wp2_with fail
      go_ret
      exact ⟨rfl, hown, htc⟩
open Fits TabOpen in
set_option maxRecDepth 100000 in
theorem fits_upds : Fits Tryz.prog (Cd.sl 27 updC) 43 := fits_sl Tryz.underlying43 fits_upd (by kernel_rfl)
end Go.Proofs.YtdjgaffiildijaaGreat.MkUpdate

namespace Go.Proofs.YtdjgaffiildijaaGreat.DbOpen
open Go Go.RowKit Byt Ints IntsLaw Cd Rows2 Fits TabOpen TabElem SlTable Db

set_option maxRecDepth 100000 in
theorem fits_tabs : Fits Tryz.prog ltabsC 22 := fits_sl Tryz.underlying22 fits_table (by kernel_rfl)
set_option maxRecDepth 100000 in
theorem fits_db : Fits Tryz.prog ltabsC 24 := fits_struct Tryz.underlying24 (fits_one fits_tabs rfl) (by kernel_rfl)
set_option maxRecDepth 100000 in
theorem open_db {H : Type} {enc : TypeId × Value → H} {W : World} {base : Nat} {v : Value} {d : DataW H} {ps : List MemPlace}
    (hval : Value.okWide Tryz.prog W .any base 24 v) (h : DataW.Trod enc Tryz.prog W 0 (fun _ => true) true 24 v d ps) :
    ∃ (u : Value) (l : List T3), v = .agg #[u] ∧ tabsC.rd W (· < W.heap.size) [u] l := by
  obtain ⟨cs, l, rfl, hT⟩ := open_st Tryz.underlying24 fits_db hval h
  have hl := ltabsC.len hT
  obtain ⟨cs⟩ := cs
  match cs, hl, hT with
  | [u], _, hT => exact ⟨u, l, rfl, hT⟩
end Go.Proofs.YtdjgaffiildijaaGreat.DbOpen

namespace Go.Proofs.YtdjgaffiildijaaGreat.WalkApplyUpdates
open Go Go.RowKit Byt Ints IntsLaw Cd Rows2 Tab TabSpec Exact SlMath TabOpen TabElem Mark SlTable Db DbExact Upd MkUpdate
set_option maxRecDepth 100000 in
set_option maxHeartbeats 6400000 in
theorem walk (v0 : Value) (l0 : List T3) (v1 : Value) (l1 : List U3) (R0 : List T3) (B1 : Int) (w : World) (hr0 : tabsC.rd w (· < w.heap.size) [v0] l0) (hr1 : updsC.rd w (· < w.heap.size) [v1] l1) (hw0 : wtS l0 ≤ 1048576 → SlUpdate.wtS l1 ≤ 1048576 → (sumN cntT R0 ≤ 4194308 ∧ ∀ T ∈ R0, T.2.2.flatten.length ≤ 1048577))
    (HS : wtS l0 ≤ 1048576 → SlUpdate.wtS l1 ≤ 1048576 → ∀ (v0 : Value) (S0 : Nat → Prop) (v1 : Value) (S1 : Nat → Prop) (w' : World), tabsC.rd w' S0 [v0] l0 → updsC.rd w' S1 [v1] l1 → Calls Tryz.prog 17 #[.agg #[v0], v1] w' fun e w'' => ∃ u0 f0, e = .returned (.tuple #[.agg #[u0], .int .i64 B1]) ∧ tabsC.ow w'' w'.heap.size [u0] R0 f0 ∧ f0.Nodup ∧ Below w'.heap.size w' w'')
    (HI : wtS l0 ≤ 1048576 → SlUpdate.wtS l1 ≤ 1048576 → ∀ (v0 : Value) (S0 : Nat → Prop) (v1 : Value) (S1 : Nat → Prop) (w' : World), tabsC.rd w' S0 [v0] l0 → updsC.rd w' S1 [v1] l1 → Calls Tryz.prog 19 #[.agg #[v0], v1] w' fun e w'' => ∃ u0 f0, e = .returned (.tuple #[.agg #[u0], .int .i64 B1]) ∧ tabsC.ow w'' w'.heap.size [u0] R0 f0 ∧ f0.Nodup ∧ Below w'.heap.size w' w'') :
    Calls Tryz.prog 4 #[.agg #[v0], v1] w fun e w' => e = .returned (.bool true) ∧ Below w.heap.size w w' := by
  have HSh := Lib.hid HS
  have HIh := Lib.hid HI
  clear HS HI
  have HR0 := Lib.hid hr0
  obtain ⟨q0, c0, rfl, hl0⟩ := Cd.sl_form hr0
  clear hr0
  have HR1 := Lib.hid hr1
  obtain ⟨q1, c1, rfl, hl1⟩ := Cd.sl_form hr1
  clear hr1
  go_enter Tryz.func4, Tryz.ntmps4
  go_wp2_with fail
  generalize hW0 : w.alloc _ = W0
  obtain ⟨rb0, z0, hb0⟩ := start1 w _ hW0
  have HB := Lib.hid hb0
  have LB0 := Lib.hid (Loc1.of rb0)
  replace HR0 := Lib.hid (Cd.later HR0.out hb0)
  replace HR1 := Lib.hid (Cd.later HR1.out hb0)
  clear hW0 hb0 rb0
  refine (sz_db _ l0 _ 1048576 W0 HR0.out (by omega)).mono ?_
  rintro e W0z ⟨rfl, hbz0⟩
  replace HB := Lib.hid (below_then HB.out hbz0)
  replace LB0 := Lib.hid (LB0.out.later hbz0)
  replace HR0 := Lib.hid (Cd.later HR0.out hbz0)
  replace HR1 := Lib.hid (Cd.later HR1.out hbz0)
  have zz0 := hbz0.size
  clear hbz0
  by_cases hk0 : wtS l0 ≤ 1048576
  case neg =>
    rw [left_no hk0]
    clear hk0
    go_wp2_with fail
    go_ret
    exact ⟨rfl, HB.out⟩
  rw [left_yes hk0]
  have HL0 := Lib.hid hk0
  have HX0 := Lib.hid (show wtS l0 ≤ 1048576 by have := HL0.out; omega)
  have hge0 : ¬ (((1048576 - wtS l0 : Nat) : Int) < 0) := by omega
  clear hk0
  go_wp2_with fail
  refine (SlUpdate.sz_s _ l1 _ (1048576 - wtS l0) W0z HR1.out (by omega)).mono ?_
  rintro e W1z ⟨rfl, hbz1⟩
  replace HB := Lib.hid (below_then HB.out hbz1)
  replace LB0 := Lib.hid (LB0.out.later hbz1)
  replace HR0 := Lib.hid (Cd.later HR0.out hbz1)
  replace HR1 := Lib.hid (Cd.later HR1.out hbz1)
  have zz1 := hbz1.size
  clear hbz1
  by_cases hk1 : SlUpdate.wtS l1 ≤ (1048576 - wtS l0)
  case neg =>
    rw [left_no hk1]
    clear hk1
    go_wp2_with fail
    go_ret
    exact ⟨rfl, HB.out⟩
  rw [left_yes hk1]
  have HL1 := Lib.hid hk1
  have HX1 := Lib.hid (show SlUpdate.wtS l1 ≤ 1048576 by have := HL1.out; omega)
  have hge1 : ¬ ((((1048576 - wtS l0) - SlUpdate.wtS l1 : Nat) : Int) < 0) := by omega
  clear hk1
  have HW0 := Lib.hid (hw0 HX0.out HX1.out)
  clear hw0
  have HB0 := Lib.hid (show w.heap.size ≤ W1z.heap.size from HB.out.size)
  have hz0 : w.heap.size ≤ W1z.heap.size := HB.out.size
  have y0a := LB0.out.c0
  have y0d := LB0.out.lt
  go_wp2_with fail
  clear y0a y0d
  refine (to_db _ l0 _ W1z HR0.out (by have := HX0.out; omega)).mono ?_
  rintro e W1 ⟨s0_v, s0_f, rfl, s0_o, s0_n, hbx⟩
  obtain ⟨s0_a, s0_c, rfl⟩ := Cd.ow_slice (c := tabC) s0_o
  replace HB := Lib.hid (below_then HB.out hbx)
  replace LB0 := Lib.hid (LB0.out.later hbx)
  replace HR0 := Lib.hid (Cd.later HR0.out hbx)
  replace HR1 := Lib.hid (Cd.later HR1.out hbx)
  have zW1 := hbx.size
  clear hbx
  have s0_O := Lib.hid s0_o
  have s0_N := Lib.hid s0_n
  have s0_B := Lib.hid (bound_of s0_o)
  clear s0_o s0_n
  go_wp2_with fail
  refine (SlUpdate.to_s _ l1 _ W1 HR1.out (by have := HX1.out; omega)).mono ?_
  rintro e W2 ⟨s1_v, s1_f, rfl, s1_o, s1_n, hbx⟩
  obtain ⟨s1_a, s1_c, rfl⟩ := Cd.ow_slice (c := updC) s1_o
  replace HB := Lib.hid (below_then HB.out hbx)
  replace LB0 := Lib.hid (LB0.out.later hbx)
  replace HR0 := Lib.hid (Cd.later HR0.out hbx)
  replace HR1 := Lib.hid (Cd.later HR1.out hbx)
  replace s0_O := Lib.hid (Cd.ow_later s0_O.out hbx)
  have zW2 := hbx.size
  clear hbx
  have s1_O := Lib.hid s1_o
  have s1_N := Lib.hid s1_n
  have s1_B := Lib.hid (bound_of s1_o)
  clear s1_o s1_n
  go_wp2_with fail
  refine (HSh.out HX0.out HX1.out _ _ _ _ W2 (tabsC.ow_rd s0_O.out) (updsC.ow_rd s1_O.out)).mono ?_
  rintro e W3 ⟨w0_v, w0_f, rfl, w0_o, w0_n, hbx⟩
  obtain ⟨w0_a, w0_c, rfl⟩ := Cd.ow_slice (c := tabC) w0_o
  replace HB := Lib.hid (below_then HB.out hbx)
  replace LB0 := Lib.hid (LB0.out.later hbx)
  replace HR0 := Lib.hid (Cd.later HR0.out hbx)
  replace HR1 := Lib.hid (Cd.later HR1.out hbx)
  replace s0_O := Lib.hid (Cd.ow_later s0_O.out hbx)
  replace s1_O := Lib.hid (Cd.ow_later s1_O.out hbx)
  have zW3 := hbx.size
  clear hbx
  have w0_O := Lib.hid w0_o
  have w0_N := Lib.hid w0_n
  have w0_B := Lib.hid (bound_of w0_o)
  clear w0_o w0_n
  have y0a := LB0.out.c0
  have y0d := LB0.out.lt
  go_wp2_with fail
  clear y0a y0d
  generalize hg : World.alloc W3 _ = W4
  obtain ⟨rg, zW4, hbg⟩ := start1 W3 _ hg
  clear hg
  replace HB := Lib.hid (below_then HB.out hbg)
  replace LB0 := Lib.hid (LB0.out.later hbg)
  replace HR0 := Lib.hid (Cd.later HR0.out hbg)
  replace HR1 := Lib.hid (Cd.later HR1.out hbg)
  replace w0_O := Lib.hid (Cd.ow_later w0_O.out hbg)
  have Lw0 := Lib.hid (Loc1.of rg)
  clear hbg rg
  refine (to_db _ l0 _ W4 HR0.out (by have := HX0.out; omega)).mono ?_
  rintro e W5 ⟨x0_v, x0_f, rfl, x0_o, x0_n, hbx⟩
  obtain ⟨x0_a, x0_c, rfl⟩ := Cd.ow_slice (c := tabC) x0_o
  replace HB := Lib.hid (below_then HB.out hbx)
  replace LB0 := Lib.hid (LB0.out.later hbx)
  replace HR0 := Lib.hid (Cd.later HR0.out hbx)
  replace HR1 := Lib.hid (Cd.later HR1.out hbx)
  replace w0_O := Lib.hid (Cd.ow_later w0_O.out hbx)
  replace Lw0 := Lib.hid (Lw0.out.later hbx)
  have zW5 := hbx.size
  clear hbx
  have x0_O := Lib.hid x0_o
  have x0_N := Lib.hid x0_n
  have x0_B := Lib.hid (bound_of x0_o)
  clear x0_o x0_n
  go_wp2_with fail
  generalize hg : World.alloc W5 _ = W6
  obtain ⟨rg, zW6, hbg⟩ := start1 W5 _ hg
  clear hg
  replace HB := Lib.hid (below_then HB.out hbg)
  replace LB0 := Lib.hid (LB0.out.later hbg)
  replace HR0 := Lib.hid (Cd.later HR0.out hbg)
  replace HR1 := Lib.hid (Cd.later HR1.out hbg)
  replace w0_O := Lib.hid (Cd.ow_later w0_O.out hbg)
  replace Lw0 := Lib.hid (Lw0.out.later hbg)
  replace x0_O := Lib.hid (Cd.ow_later x0_O.out hbg)
  have Lx0 := Lib.hid (Loc1.of rg)
  clear hbg rg
  refine (SlUpdate.to_s _ l1 _ W6 HR1.out (by have := HX1.out; omega)).mono ?_
  rintro e W7 ⟨x1_v, x1_f, rfl, x1_o, x1_n, hbx⟩
  obtain ⟨x1_a, x1_c, rfl⟩ := Cd.ow_slice (c := updC) x1_o
  replace HB := Lib.hid (below_then HB.out hbx)
  replace LB0 := Lib.hid (LB0.out.later hbx)
  replace HR0 := Lib.hid (Cd.later HR0.out hbx)
  replace HR1 := Lib.hid (Cd.later HR1.out hbx)
  replace w0_O := Lib.hid (Cd.ow_later w0_O.out hbx)
  replace Lw0 := Lib.hid (Lw0.out.later hbx)
  replace x0_O := Lib.hid (Cd.ow_later x0_O.out hbx)
  replace Lx0 := Lib.hid (Lx0.out.later hbx)
  have zW7 := hbx.size
  clear hbx
  have x1_O := Lib.hid x1_o
  have x1_N := Lib.hid x1_n
  have x1_B := Lib.hid (bound_of x1_o)
  clear x1_o x1_n
  have y0a := Lx0.out.c0
  have y0d := Lx0.out.lt
  go_wp2_with fail
  clear y0a y0d
  refine (HIh.out HX0.out HX1.out _ _ _ _ W7 (tabsC.ow_rd x0_O.out) (updsC.ow_rd x1_O.out)).mono ?_
  rintro e W8 ⟨g0_v, g0_f, rfl, g0_o, g0_n, hbx⟩
  obtain ⟨g0_a, g0_c, rfl⟩ := Cd.ow_slice (c := tabC) g0_o
  replace HB := Lib.hid (below_then HB.out hbx)
  replace LB0 := Lib.hid (LB0.out.later hbx)
  replace HR0 := Lib.hid (Cd.later HR0.out hbx)
  replace HR1 := Lib.hid (Cd.later HR1.out hbx)
  replace w0_O := Lib.hid (Cd.ow_later w0_O.out hbx)
  replace Lw0 := Lib.hid (Lw0.out.later hbx)
  replace x0_O := Lib.hid (Cd.ow_later x0_O.out hbx)
  replace Lx0 := Lib.hid (Lx0.out.later hbx)
  replace x1_O := Lib.hid (Cd.ow_later x1_O.out hbx)
  have zW8 := hbx.size
  clear hbx
  have g0_O := Lib.hid g0_o
  have g0_N := Lib.hid g0_n
  have g0_B := Lib.hid (bound_of g0_o)
  clear g0_o g0_n
  have y0a := Lw0.out.c0
  have y0d := Lw0.out.lt
  go_wp2_with fail
  clear y0a y0d
  generalize hg : World.alloc W8 _ = W9
  obtain ⟨rg, zW9, hbg⟩ := start1 W8 _ hg
  clear hg
  replace HB := Lib.hid (below_then HB.out hbg)
  replace LB0 := Lib.hid (LB0.out.later hbg)
  replace HR0 := Lib.hid (Cd.later HR0.out hbg)
  replace HR1 := Lib.hid (Cd.later HR1.out hbg)
  replace w0_O := Lib.hid (Cd.ow_later w0_O.out hbg)
  replace Lw0 := Lib.hid (Lw0.out.later hbg)
  replace x0_O := Lib.hid (Cd.ow_later x0_O.out hbg)
  replace Lx0 := Lib.hid (Lx0.out.later hbg)
  replace x1_O := Lib.hid (Cd.ow_later x1_O.out hbg)
  replace g0_O := Lib.hid (Cd.ow_later g0_O.out hbg)
  have Lg0 := Lib.hid (Loc1.of rg)
  clear hbg rg
  refine (eq_db _ _ R0 _ _ W9 (tabsC.ow_rd g0_O.out) (tabsC.ow_rd w0_O.out)).mono ?_
  rintro e W10 ⟨rfl, hbx⟩
  replace HB := Lib.hid (below_then HB.out hbx)
  replace LB0 := Lib.hid (LB0.out.later hbx)
  replace HR0 := Lib.hid (Cd.later HR0.out hbx)
  replace HR1 := Lib.hid (Cd.later HR1.out hbx)
  replace w0_O := Lib.hid (Cd.ow_later w0_O.out hbx)
  replace Lw0 := Lib.hid (Lw0.out.later hbx)
  replace x0_O := Lib.hid (Cd.ow_later x0_O.out hbx)
  replace Lx0 := Lib.hid (Lx0.out.later hbx)
  replace x1_O := Lib.hid (Cd.ow_later x1_O.out hbx)
  replace g0_O := Lib.hid (Cd.ow_later g0_O.out hbx)
  replace Lg0 := Lib.hid (Lg0.out.later hbx)
  have zW10 := hbx.size
  clear hbx
  have y0a := Lx0.out.c0
  have y0d := Lx0.out.lt
  have y1a := LB0.out.c0
  have y1d := LB0.out.lt
  go_upto_region 14 with fail
  clear y0a y0d y1a y1d
  go_cut [58] (fun s wx => s = .bool false ∧ W10.heap.size ≤ wx.heap.size ∧ Below w.heap.size w wx ∧ Loc1 wx (w.heap.size) (.slice q0 l0.length c0) ∧ tabsC.rd wx (· < w.heap.size) [.slice q0 l0.length c0] l0 ∧ updsC.rd wx (· < w.heap.size) [.slice q1 l1.length c1] l1 ∧ tabsC.ow wx (W2.heap.size) [.slice w0_a R0.length w0_c] R0 w0_f ∧ Loc1 wx (W3.heap.size) (.slice w0_a R0.length w0_c) ∧ tabsC.ow wx (W4.heap.size) [.slice x0_a l0.length x0_c] l0 x0_f ∧ Loc1 wx (W5.heap.size) (.slice x0_a l0.length x0_c) ∧ updsC.ow wx (W6.heap.size) [.slice x1_a l1.length x1_c] l1 x1_f ∧ tabsC.ow wx (W7.heap.size) [.slice g0_a R0.length g0_c] R0 g0_f ∧ Loc1 wx (W8.heap.size) (.slice g0_a R0.length g0_c))
  case first =>
    have HT := Lib.hid (to_db _ l0 _ W10.drew (rd_drew HR0.out) (by have := HX0.out; omega))
    have y0a := Lx0.out.c0
    have y1a := LB0.out.c0
    go_region_law (first | (go_simp; go_at_call 8; refine HT.out.mono ?_; rintro e wq ⟨tv, tf, rfl, tow, tnd, hbq⟩; (have hq := undrew hbq); (have hqz := hq.size); (have GHB := Lib.hid (below_then HB.out hq)); (have GLB0 := Lib.hid (LB0.out.later hq)); (have GHR0 := Lib.hid (Cd.later HR0.out hq)); (have GHR1 := Lib.hid (Cd.later HR1.out hq)); (have Gw0_O := Lib.hid (Cd.ow_later w0_O.out hq)); (have GLw0 := Lib.hid (Lw0.out.later hq)); (have Gx0_O := Lib.hid (Cd.ow_later x0_O.out hq)); (have GLx0 := Lib.hid (Lx0.out.later hq)); (have Gx1_O := Lib.hid (Cd.ow_later x1_O.out hq)); (have Gg0_O := Lib.hid (Cd.ow_later g0_O.out hq)); (have GLg0 := Lib.hid (Lg0.out.later hq)); (have TO := Lib.hid tow); (have k0a := GLx0.out.c0); clear hbq hq tow tnd) | (go_simp; go_at_call 11; refine (eq_db _ _ l0 _ _ wq (tabsC.ow_rd Gx0_O.out) (tabsC.ow_rd TO.out)).mono ?_; rintro e wp ⟨rfl, hq2⟩; (have hqz2 := hq2.size); (have KHB := Lib.hid (below_then GHB.out hq2)); (have KLB0 := Lib.hid (GLB0.out.later hq2)); (have KHR0 := Lib.hid (Cd.later GHR0.out hq2)); (have KHR1 := Lib.hid (Cd.later GHR1.out hq2)); (have Kw0_O := Lib.hid (Cd.ow_later Gw0_O.out hq2)); (have KLw0 := Lib.hid (GLw0.out.later hq2)); (have Kx0_O := Lib.hid (Cd.ow_later Gx0_O.out hq2)); (have KLx0 := Lib.hid (GLx0.out.later hq2)); (have Kx1_O := Lib.hid (Cd.ow_later Gx1_O.out hq2)); (have Kg0_O := Lib.hid (Cd.ow_later Gg0_O.out hq2)); (have KLg0 := Lib.hid (GLg0.out.later hq2)); clear hq2))
    all_goals
      go_wp2_with fail
      go_meet
      exact ⟨rfl, by omega, KHB.out, KLB0.out, KHR0.out, KHR1.out, Kw0_O.out, KLw0.out, Kx0_O.out, KLx0.out, Kx1_O.out, Kg0_O.out, KLg0.out⟩
  case rest =>
    obtain ⟨rfl, zW11, c_HB, c_LB0, c_HR0, c_HR1, c_w0_O, c_Lw0, c_x0_O, c_Lx0, c_x1_O, c_g0_O, c_Lg0⟩ := hcut
    clear HB LB0 HR0 HR1 w0_O Lw0 x0_O Lx0 x1_O g0_O Lg0
    have HB := Lib.hid c_HB
    have LB0 := Lib.hid c_LB0
    have HR0 := Lib.hid c_HR0
    have HR1 := Lib.hid c_HR1
    have w0_O := Lib.hid c_w0_O
    have Lw0 := Lib.hid c_Lw0
    have x0_O := Lib.hid c_x0_O
    have Lx0 := Lib.hid c_Lx0
    have x1_O := Lib.hid c_x1_O
    have g0_O := Lib.hid c_g0_O
    have Lg0 := Lib.hid c_Lg0
    clear c_HB c_LB0 c_HR0 c_HR1 c_w0_O c_Lw0 c_x0_O c_Lx0 c_x1_O c_g0_O c_Lg0
    generalize wc = W11 at *
    go_wp2_with fail
    refine (SlUpdate.to_s _ l1 _ W11 HR1.out (by have := HX1.out; omega)).mono ?_
    rintro e W12 ⟨k1_v, k1_f, rfl, k1_o, k1_n, hbx⟩
    obtain ⟨k1_a, k1_c, rfl⟩ := Cd.ow_slice (c := updC) k1_o
    replace HB := Lib.hid (below_then HB.out hbx)
    replace LB0 := Lib.hid (LB0.out.later hbx)
    replace HR0 := Lib.hid (Cd.later HR0.out hbx)
    replace HR1 := Lib.hid (Cd.later HR1.out hbx)
    replace w0_O := Lib.hid (Cd.ow_later w0_O.out hbx)
    replace Lw0 := Lib.hid (Lw0.out.later hbx)
    replace x0_O := Lib.hid (Cd.ow_later x0_O.out hbx)
    replace Lx0 := Lib.hid (Lx0.out.later hbx)
    replace x1_O := Lib.hid (Cd.ow_later x1_O.out hbx)
    replace g0_O := Lib.hid (Cd.ow_later g0_O.out hbx)
    replace Lg0 := Lib.hid (Lg0.out.later hbx)
    have zW12 := hbx.size
    clear hbx
    have k1_O := Lib.hid k1_o
    have k1_N := Lib.hid k1_n
    have k1_B := Lib.hid (bound_of k1_o)
    clear k1_o k1_n
    go_wp2_with fail
    refine (SlUpdate.eq_s _ _ l1 _ _ W12 (updsC.ow_rd x1_O.out) (updsC.ow_rd k1_O.out)).mono ?_
    rintro e W13 ⟨rfl, hbx⟩
    replace HB := Lib.hid (below_then HB.out hbx)
    replace LB0 := Lib.hid (LB0.out.later hbx)
    replace HR0 := Lib.hid (Cd.later HR0.out hbx)
    replace HR1 := Lib.hid (Cd.later HR1.out hbx)
    replace w0_O := Lib.hid (Cd.ow_later w0_O.out hbx)
    replace Lw0 := Lib.hid (Lw0.out.later hbx)
    replace x0_O := Lib.hid (Cd.ow_later x0_O.out hbx)
    replace Lx0 := Lib.hid (Lx0.out.later hbx)
    replace x1_O := Lib.hid (Cd.ow_later x1_O.out hbx)
    replace g0_O := Lib.hid (Cd.ow_later g0_O.out hbx)
    replace Lg0 := Lib.hid (Lg0.out.later hbx)
    have zW13 := hbx.size
    clear hbx
    have y0a := Lx0.out.c0
    have y0d := Lx0.out.lt
    go_wp2_with fail
    clear y0a y0d
    have HMK := Lib.hid (mark_db _ l0 _ (1) x0_f W13 x0_O.out x0_N.out (cnts_of HX0.out).1 (cnts_of HX0.out).2 (by omega) (by omega))
    obtain ⟨kk0, hkk0⟩ : ∃ kk, 1 + sumN cntT l0 = kk := ⟨_, rfl⟩
    have bkk0 : kk0 ≤ 4194309 ∧ 1 ≤ kk0 := by have := (show sumN cntT l0 ≤ 4194308 from (cnts_of HX0.out).1); omega
    rw [hkk0] at HMK
    have Hkk0 := Lib.hid hkk0
    clear hkk0
    refine HMK.out.mono ?_
    rintro e W14 ⟨rfl, x0_o, ht⟩
    have zW14 := ht.size
    replace HB := Lib.hid (Cd.Touch.below HB.out ht (fun b hb => by have := x0_B.out b hb; have := HB0.out; omega))
    replace LB0 := Lib.hid (LB0.out.touched ht (fun q => by have := x0_B.out _ q; have := HB0.out; omega))
    replace HR0 := Lib.hid (Cd.touched HR0.out ht (fun b hb q => by have := x0_B.out b hb; have := HB0.out; omega))
    replace HR1 := Lib.hid (Cd.touched HR1.out ht (fun b hb q => by have := x0_B.out b hb; have := HB0.out; omega))
    replace w0_O := Lib.hid (Cd.ow_touched w0_O.out ht (fun b hb q => by have := x0_B.out b q; have := w0_B.out b hb; omega))
    replace Lw0 := Lib.hid (Lw0.out.touched ht (fun q => by have := x0_B.out _ q; have := HB0.out; omega))
    replace Lx0 := Lib.hid (Lx0.out.touched ht (fun q => by have := x0_B.out _ q; have := HB0.out; omega))
    replace x1_O := Lib.hid (Cd.ow_touched x1_O.out ht (fun b hb q => by have := x0_B.out b q; have := x1_B.out b hb; omega))
    replace g0_O := Lib.hid (Cd.ow_touched g0_O.out ht (fun b hb q => by have := x0_B.out b q; have := g0_B.out b hb; omega))
    replace Lg0 := Lib.hid (Lg0.out.touched ht (fun q => by have := x0_B.out _ q; have := HB0.out; omega))
    have x0_M := Lib.hid x0_o
    clear x0_o ht
    go_wp2_with fail
    have HMK := Lib.hid (MkUpdate.mark_s _ l1 _ (kk0) x1_f W14 x1_O.out x1_N.out (cntsU_of HX1.out).1 (cntsU_of HX1.out).2 (by omega) (by omega))
    obtain ⟨kk1, hkk1⟩ : ∃ kk, kk0 + sumN cntU l1 = kk := ⟨_, rfl⟩
    have bkk1 : kk1 ≤ 8388617 ∧ 1 ≤ kk1 := by have := (show sumN cntU l1 ≤ 4194308 from (cntsU_of HX1.out).1); omega
    rw [hkk1] at HMK
    have Hkk1 := Lib.hid hkk1
    clear hkk1
    refine HMK.out.mono ?_
    rintro e W15 ⟨rfl, x1_o, ht⟩
    have zW15 := ht.size
    replace HB := Lib.hid (Cd.Touch.below HB.out ht (fun b hb => by have := x1_B.out b hb; have := HB0.out; omega))
    replace LB0 := Lib.hid (LB0.out.touched ht (fun q => by have := x1_B.out _ q; have := HB0.out; omega))
    replace HR0 := Lib.hid (Cd.touched HR0.out ht (fun b hb q => by have := x1_B.out b hb; have := HB0.out; omega))
    replace HR1 := Lib.hid (Cd.touched HR1.out ht (fun b hb q => by have := x1_B.out b hb; have := HB0.out; omega))
    replace w0_O := Lib.hid (Cd.ow_touched w0_O.out ht (fun b hb q => by have := x1_B.out b q; have := w0_B.out b hb; omega))
    replace Lw0 := Lib.hid (Lw0.out.touched ht (fun q => by have := x1_B.out _ q; have := HB0.out; omega))
    replace Lx0 := Lib.hid (Lx0.out.touched ht (fun q => by have := x1_B.out _ q; have := HB0.out; omega))
    replace g0_O := Lib.hid (Cd.ow_touched g0_O.out ht (fun b hb q => by have := x1_B.out b q; have := g0_B.out b hb; omega))
    replace Lg0 := Lib.hid (Lg0.out.touched ht (fun q => by have := x1_B.out _ q; have := HB0.out; omega))
    replace x0_M := Lib.hid (Cd.ow_touched x0_M.out ht (fun b hb q => by have := x1_B.out b q; have := x0_B.out b hb; omega))
    have x1_M := Lib.hid x1_o
    clear x1_o ht
    have y0a := Lg0.out.c0
    have y0d := Lg0.out.lt
    have y1a := Lw0.out.c0
    have y1d := Lw0.out.lt
    go_wp2_with fail
    clear y0a y0d y1a y1d
    refine (eq_db _ _ R0 _ _ W15 (tabsC.ow_rd g0_O.out) (tabsC.ow_rd w0_O.out)).mono ?_
    rintro e W16 ⟨rfl, hbx⟩
    replace HB := Lib.hid (below_then HB.out hbx)
    replace LB0 := Lib.hid (LB0.out.later hbx)
    replace HR0 := Lib.hid (Cd.later HR0.out hbx)
    replace HR1 := Lib.hid (Cd.later HR1.out hbx)
    replace w0_O := Lib.hid (Cd.ow_later w0_O.out hbx)
    replace Lw0 := Lib.hid (Lw0.out.later hbx)
    replace Lx0 := Lib.hid (Lx0.out.later hbx)
    replace g0_O := Lib.hid (Cd.ow_later g0_O.out hbx)
    replace Lg0 := Lib.hid (Lg0.out.later hbx)
    replace x0_M := Lib.hid (Cd.ow_later x0_M.out hbx)
    replace x1_M := Lib.hid (Cd.ow_later x1_M.out hbx)
    have zW16 := hbx.size
    clear hbx
    have y0a := Lg0.out.c0
    have y0d := Lg0.out.lt
    go_wp2_with fail
    clear y0a y0d
    have HMK := Lib.hid (mark_db _ R0 _ (1) g0_f W16 g0_O.out g0_N.out HW0.out.1 HW0.out.2 (by omega) (by omega))
    obtain ⟨mm, hmm⟩ : ∃ kk, 1 + sumN cntT R0 = kk := ⟨_, rfl⟩
    have bmm : mm ≤ 4194309 ∧ 1 ≤ mm := by have := (show sumN cntT R0 ≤ 4194308 from HW0.out.1); omega
    rw [hmm] at HMK
    have Hmm := Lib.hid hmm
    clear hmm
    refine HMK.out.mono ?_
    rintro e W17 ⟨rfl, g0_o, ht⟩
    have zW17 := ht.size
    replace HB := Lib.hid (Cd.Touch.below HB.out ht (fun b hb => by have := g0_B.out b hb; have := HB0.out; omega))
    replace LB0 := Lib.hid (LB0.out.touched ht (fun q => by have := g0_B.out _ q; have := HB0.out; omega))
    replace HR0 := Lib.hid (Cd.touched HR0.out ht (fun b hb q => by have := g0_B.out b hb; have := HB0.out; omega))
    replace HR1 := Lib.hid (Cd.touched HR1.out ht (fun b hb q => by have := g0_B.out b hb; have := HB0.out; omega))
    replace w0_O := Lib.hid (Cd.ow_touched w0_O.out ht (fun b hb q => by have := g0_B.out b q; have := w0_B.out b hb; omega))
    replace Lw0 := Lib.hid (Lw0.out.touched ht (fun q => by have := g0_B.out _ q; have := HB0.out; omega))
    replace Lx0 := Lib.hid (Lx0.out.touched ht (fun q => by have := g0_B.out _ q; have := HB0.out; omega))
    replace Lg0 := Lib.hid (Lg0.out.touched ht (fun q => by have := g0_B.out _ q; have := HB0.out; omega))
    replace x0_M := Lib.hid (Cd.ow_touched x0_M.out ht (fun b hb q => by have := g0_B.out b q; have := x0_B.out b hb; omega))
    replace x1_M := Lib.hid (Cd.ow_touched x1_M.out ht (fun b hb q => by have := g0_B.out b q; have := x1_B.out b hb; omega))
    have g0_M := Lib.hid g0_o
    clear g0_o ht
    have y0a := Lg0.out.c0
    have y0d := Lg0.out.lt
    go_wp2_with fail
    clear y0a y0d
    have HHD := Lib.hid (held_db _ R0 _ 1 W17 (tabsC.ow_rd g0_M.out) HW0.out.1 HW0.out.2 (by omega) (by omega))
    rw [Hmm.out] at HHD
    refine HHD.out.mono ?_
    rintro e W18 ⟨rfl, hbx⟩
    replace HB := Lib.hid (below_then HB.out hbx)
    replace LB0 := Lib.hid (LB0.out.later hbx)
    replace HR0 := Lib.hid (Cd.later HR0.out hbx)
    replace HR1 := Lib.hid (Cd.later HR1.out hbx)
    replace w0_O := Lib.hid (Cd.ow_later w0_O.out hbx)
    replace Lw0 := Lib.hid (Lw0.out.later hbx)
    replace Lx0 := Lib.hid (Lx0.out.later hbx)
    replace Lg0 := Lib.hid (Lg0.out.later hbx)
    replace x0_M := Lib.hid (Cd.ow_later x0_M.out hbx)
    replace x1_M := Lib.hid (Cd.ow_later x1_M.out hbx)
    replace g0_M := Lib.hid (Cd.ow_later g0_M.out hbx)
    have zW18 := hbx.size
    clear hbx
    have y0a := LB0.out.c0
    have y0d := LB0.out.lt
    go_wp2_with fail
    clear y0a y0d
    refine (to_db _ l0 _ W18 HR0.out (by have := HX0.out; omega)).mono ?_
    rintro e W19 ⟨h0_v, h0_f, rfl, h0_o, h0_n, hbx⟩
    obtain ⟨h0_a, h0_c, rfl⟩ := Cd.ow_slice (c := tabC) h0_o
    replace HB := Lib.hid (below_then HB.out hbx)
    replace LB0 := Lib.hid (LB0.out.later hbx)
    replace HR0 := Lib.hid (Cd.later HR0.out hbx)
    replace HR1 := Lib.hid (Cd.later HR1.out hbx)
    replace w0_O := Lib.hid (Cd.ow_later w0_O.out hbx)
    replace Lw0 := Lib.hid (Lw0.out.later hbx)
    replace Lx0 := Lib.hid (Lx0.out.later hbx)
    replace Lg0 := Lib.hid (Lg0.out.later hbx)
    replace x0_M := Lib.hid (Cd.ow_later x0_M.out hbx)
    replace x1_M := Lib.hid (Cd.ow_later x1_M.out hbx)
    replace g0_M := Lib.hid (Cd.ow_later g0_M.out hbx)
    have zW19 := hbx.size
    clear hbx
    have h0_O := Lib.hid h0_o
    have h0_N := Lib.hid h0_n
    have h0_B := Lib.hid (bound_of h0_o)
    clear h0_o h0_n
    go_wp2_with fail
    refine (SlUpdate.to_s _ l1 _ W19 HR1.out (by have := HX1.out; omega)).mono ?_
    rintro e W20 ⟨h1_v, h1_f, rfl, h1_o, h1_n, hbx⟩
    obtain ⟨h1_a, h1_c, rfl⟩ := Cd.ow_slice (c := updC) h1_o
    replace HB := Lib.hid (below_then HB.out hbx)
    replace LB0 := Lib.hid (LB0.out.later hbx)
    replace HR0 := Lib.hid (Cd.later HR0.out hbx)
    replace HR1 := Lib.hid (Cd.later HR1.out hbx)
    replace w0_O := Lib.hid (Cd.ow_later w0_O.out hbx)
    replace Lw0 := Lib.hid (Lw0.out.later hbx)
    replace Lx0 := Lib.hid (Lx0.out.later hbx)
    replace Lg0 := Lib.hid (Lg0.out.later hbx)
    replace x0_M := Lib.hid (Cd.ow_later x0_M.out hbx)
    replace x1_M := Lib.hid (Cd.ow_later x1_M.out hbx)
    replace g0_M := Lib.hid (Cd.ow_later g0_M.out hbx)
    replace h0_O := Lib.hid (Cd.ow_later h0_O.out hbx)
    have zW20 := hbx.size
    clear hbx
    have h1_O := Lib.hid h1_o
    have h1_N := Lib.hid h1_n
    have h1_B := Lib.hid (bound_of h1_o)
    clear h1_o h1_n
    go_wp2_with fail
    refine (HIh.out HX0.out HX1.out _ _ _ _ W20 (tabsC.ow_rd h0_O.out) (updsC.ow_rd h1_O.out)).mono ?_
    rintro e W21 ⟨y0_v, y0_f, rfl, y0_o, y0_n, hbx⟩
    obtain ⟨y0_a, y0_c, rfl⟩ := Cd.ow_slice (c := tabC) y0_o
    replace HB := Lib.hid (below_then HB.out hbx)
    replace LB0 := Lib.hid (LB0.out.later hbx)
    replace HR0 := Lib.hid (Cd.later HR0.out hbx)
    replace HR1 := Lib.hid (Cd.later HR1.out hbx)
    replace w0_O := Lib.hid (Cd.ow_later w0_O.out hbx)
    replace Lw0 := Lib.hid (Lw0.out.later hbx)
    replace Lx0 := Lib.hid (Lx0.out.later hbx)
    replace Lg0 := Lib.hid (Lg0.out.later hbx)
    replace x0_M := Lib.hid (Cd.ow_later x0_M.out hbx)
    replace x1_M := Lib.hid (Cd.ow_later x1_M.out hbx)
    replace g0_M := Lib.hid (Cd.ow_later g0_M.out hbx)
    replace h0_O := Lib.hid (Cd.ow_later h0_O.out hbx)
    replace h1_O := Lib.hid (Cd.ow_later h1_O.out hbx)
    have zW21 := hbx.size
    clear hbx
    have y0_O := Lib.hid y0_o
    have y0_N := Lib.hid y0_n
    have y0_B := Lib.hid (bound_of y0_o)
    clear y0_o y0_n
    have y0a := Lw0.out.c0
    have y0d := Lw0.out.lt
    go_wp2_with fail
    clear y0a y0d
    generalize hg : World.alloc W21 _ = W22
    obtain ⟨rg, zW22, hbg⟩ := start1 W21 _ hg
    clear hg
    replace HB := Lib.hid (below_then HB.out hbg)
    replace LB0 := Lib.hid (LB0.out.later hbg)
    replace HR0 := Lib.hid (Cd.later HR0.out hbg)
    replace HR1 := Lib.hid (Cd.later HR1.out hbg)
    replace w0_O := Lib.hid (Cd.ow_later w0_O.out hbg)
    replace Lw0 := Lib.hid (Lw0.out.later hbg)
    replace Lx0 := Lib.hid (Lx0.out.later hbg)
    replace Lg0 := Lib.hid (Lg0.out.later hbg)
    replace x0_M := Lib.hid (Cd.ow_later x0_M.out hbg)
    replace x1_M := Lib.hid (Cd.ow_later x1_M.out hbg)
    replace g0_M := Lib.hid (Cd.ow_later g0_M.out hbg)
    replace y0_O := Lib.hid (Cd.ow_later y0_O.out hbg)
    have Ly0 := Lib.hid (Loc1.of rg)
    clear hbg rg
    refine (eq_db _ _ R0 _ _ W22 (tabsC.ow_rd y0_O.out) (tabsC.ow_rd w0_O.out)).mono ?_
    rintro e W23 ⟨rfl, hbx⟩
    replace HB := Lib.hid (below_then HB.out hbx)
    replace LB0 := Lib.hid (LB0.out.later hbx)
    replace HR0 := Lib.hid (Cd.later HR0.out hbx)
    replace HR1 := Lib.hid (Cd.later HR1.out hbx)
    replace w0_O := Lib.hid (Cd.ow_later w0_O.out hbx)
    replace Lw0 := Lib.hid (Lw0.out.later hbx)
    replace Lx0 := Lib.hid (Lx0.out.later hbx)
    replace Lg0 := Lib.hid (Lg0.out.later hbx)
    replace x0_M := Lib.hid (Cd.ow_later x0_M.out hbx)
    replace x1_M := Lib.hid (Cd.ow_later x1_M.out hbx)
    replace g0_M := Lib.hid (Cd.ow_later g0_M.out hbx)
    replace y0_O := Lib.hid (Cd.ow_later y0_O.out hbx)
    replace Ly0 := Lib.hid (Ly0.out.later hbx)
    have zW23 := hbx.size
    clear hbx
    have y0a := Lg0.out.c0
    have y0d := Lg0.out.lt
    go_wp2_with fail
    clear y0a y0d
    have HHD := Lib.hid (held_db _ R0 _ 1 W23 (tabsC.ow_rd g0_M.out) HW0.out.1 HW0.out.2 (by omega) (by omega))
    rw [Hmm.out] at HHD
    refine HHD.out.mono ?_
    rintro e W24 ⟨rfl, hbx⟩
    replace HB := Lib.hid (below_then HB.out hbx)
    replace LB0 := Lib.hid (LB0.out.later hbx)
    replace HR0 := Lib.hid (Cd.later HR0.out hbx)
    replace HR1 := Lib.hid (Cd.later HR1.out hbx)
    replace w0_O := Lib.hid (Cd.ow_later w0_O.out hbx)
    replace Lw0 := Lib.hid (Lw0.out.later hbx)
    replace Lx0 := Lib.hid (Lx0.out.later hbx)
    replace Lg0 := Lib.hid (Lg0.out.later hbx)
    replace x0_M := Lib.hid (Cd.ow_later x0_M.out hbx)
    replace x1_M := Lib.hid (Cd.ow_later x1_M.out hbx)
    replace g0_M := Lib.hid (Cd.ow_later g0_M.out hbx)
    replace y0_O := Lib.hid (Cd.ow_later y0_O.out hbx)
    replace Ly0 := Lib.hid (Ly0.out.later hbx)
    have zW24 := hbx.size
    clear hbx
    go_wp2_with fail
    go_ret
    exact ⟨rfl, HB.out⟩
end Go.Proofs.YtdjgaffiildijaaGreat.WalkApplyUpdates
