/- Databases: the program's count of rows and its equality. -/
import Derived.Test.YtklamhnecncenaaDbImp1
import Derived.Test.YtklamhnecncenaaDbLook
namespace Go.Proofs.Ytklamhnecncenaa.DbImp
open Go Go.RowKit Byt Ints IntsLaw Cd Rows2 Tab SlMath TabOpen TabElem SlTable Db TabSpec DbMath TabImp
open DbSpec (LaterD drewD row1 rows_cell cntRows_succ cntRows_take cntRows_le name_cell sameT_iff take_ne take_eq)

/-- The cells of an element. -/
theorem elem_form {w : World} {S : Nat → Prop} {us : List Value} {T : T3} (h : tabC.rd w S us T) : ∃ a c, us = [.string T.1, .int .i64 T.2.1, .slice a T.2.2.length c] := by
  obtain ⟨u, rfl, _, _, h3⟩ := tab_cells h
  obtain ⟨a, c, rfl, _⟩ := rows_form h3
  exact ⟨a, c, rfl⟩
theorem impl_rowcount (nm : ByteArray) (ar : Int) (a : Option Addr) (n cap : Nat) (w : World) :
    Calls Try.prog 92 #[.agg #[.string nm, .int .i64 ar, .slice a n cap]] w fun e w' => e = .returned (.int .i64 (n : Int)) ∧ Below w.heap.size w w' := by
  go_enter Try.func92, Try.ntmps92
  go_wp2_with fail
  generalize hW : w.alloc _ = W
  obtain ⟨r0, _, hb0⟩ := start1 w _ hW
  have hL := Loc3.of r0
  have d2 := hL.c2
  have HB := Lib.hid hb0
  clear hW r0 hb0 hL
  go_wp2_with fail
  go_ret
  exact ⟨rfl, HB.out⟩
set_option maxRecDepth 100000 in
set_option maxHeartbeats 1600000 in
theorem impl_sumrows (u : Value) (l : List T3) (S : Nat → Prop) (w : World) (h1 : tabsC.rd w S [u] l) (hw : wtS l ≤ 1048576) :
    Calls Try.prog 91 #[u, .func (.func 92) #[] #[]] w fun e w' => e = .returned (.int .i64 ((cntRows l : Nat) : Int)) ∧ Below w.heap.size w w' := by
  have HR1 := Lib.hid (fun w' (hb : Below w.heap.size w w') => Cd.later h1 hb)
  obtain ⟨a1, cap1, rfl, hl1⟩ := Cd.sl_form h1
  have HCB := Lib.hid (show cntRows l ≤ 1048576 by have := cntRows_le l; omega)
  clear h1
  go_enter Try.func91, Try.ntmps91
  go_wp2_with fail
  go_loopw [5, 10] (fun n i wr => ∃ k : Nat, k ≤ l.length ∧ n = .int .i64 ((cntRows (l.take k) : Nat) : Int) ∧ i = .int .i64 k ∧ Below w.heap.size w wr) (fun _ i _ => l.length - (intOf i).toNat)
  case atStart => exact ⟨0, Nat.zero_le _, rfl, rfl, Below.refl _ _⟩
  case round =>
    obtain ⟨k, hk, rfl, rfl, hb⟩ := hrel
    have HWR := Lib.hid hb
    by_cases hlt : k < l.length
    · obtain ⟨b, off, cap', us, e1, _, hbB, hat, hu⟩ := Cd.sl_at (HR1.out wr hb) hlt
      injection e1 with e1 e2 e3
      subst e1 e3
      obtain ⟨az, cz, rfl⟩ := elem_form hu
      have p0 := hat 0 (by simp)
      have p1 := hat 1 (by simp)
      have p2 := hat 2 (by simp)
      simp only [List.getElem_cons_zero, List.getElem_cons_succ, Nat.add_zero, show tabC.n = 3 from rfl] at p0 p1 p2
      have HSUM := Lib.hid (show ((cntRows (l.take (k + 1)) : Nat) : Int) = ((cntRows (l.take k) : Nat) : Int) + (((l[k]).2.2.length : Nat) : Int) by rw [cntRows_succ hlt]; omega)
      have i3 : cntRows (l.take k) + (l[k]).2.2.length ≤ 1048576 := by rw [← cntRows_succ hlt]; have := cntRows_take l (k + 1); have := HCB.out; omega
      have i1 : (0 : Int) ≤ (k : Int) := by omega
      have i2 : (k : Int) < (l.length : Int) := by omega
      clear hu hat e2 hb
      generalize l[k] = T at *
      generalize T.2.2.length = q at *
      generalize cntRows (l.take k) = m at *
      have HRC := Lib.hid (fun W => impl_rowcount T.1 T.2.1 az q cz W)
      have HBA := Lib.hid (below_alloc wr (.cells #[.string T.1, .int .i64 T.2.1, .slice az q cz] 34 (0, 0)))
      have HLC := Lib.hid (Loc3.of (row_alloc wr (.cells #[.string T.1, .int .i64 T.2.1, .slice az q cz] 34 (0, 0))))
      have y0 := HLC.out.c0
      have y1 := HLC.out.c1
      have y2 := HLC.out.c2
      go_wp2_with (go_at_call 92; refine (HRC.out _).mono ?_; rintro e w5 ⟨rfl, hb5⟩)
      have HB5 := Lib.hid (below_then HWR.out (below_then HBA.out hb5))
      clear hb5
      go_wp2_with fail
      go_roundw
      case rel => exact ⟨k + 1, by omega, by rw [HSUM.out], by go_num, HB5.out⟩
      case measure => simp [intOf]; omega
    · have ek : k = l.length := by omega
      subst ek
      have HY := Lib.hid (show ((cntRows (l.take l.length) : Nat) : Int) = ((cntRows l : Nat) : Int) by rw [List.take_length])
      clear hb
      go_wp2_with fail
      go_ret
      exact ⟨congrArg (fun x : Int => Ending.returned (.int .i64 x)) HY.out, HWR.out⟩
set_option maxRecDepth 100000 in
set_option maxHeartbeats 1600000 in
theorem impl_count (u : Value) (l : List T3) (S : Nat → Prop) (w : World) (h1 : tabsC.rd w S [u] l) (hw : wtS l ≤ 1048576) :
    Calls Try.prog 43 #[.agg #[u]] w fun e w' => e = .returned (.int .i64 ((cntL l : Nat) : Int)) ∧ Below w.heap.size w w' := by
  have HSR := Lib.hid (fun w' (hb : Below w.heap.size w w') => impl_sumrows u l S w' (Cd.later h1 hb) hw)
  have HV := Lib.hid (fun w' (hb : Below w.heap.size w w') => impl_dbok u l S w' (Cd.later h1 hb))
  obtain ⟨a1, cap1, rfl, hl1⟩ := Cd.sl_form h1
  clear h1
  go_enter Try.func43, Try.ntmps43
  go_wp2_with fail
  generalize hW : w.alloc _ = W
  obtain ⟨r0, hz, hb0⟩ := start1 w _ hW
  have HC0 := Lib.hid (row1 r0).1
  have HB0 := Lib.hid hb0
  clear hW r0 hz
  refine (HV.out _ hb0).mono ?_
  rintro e w1 ⟨rfl, hb1⟩
  have c0 := (hb1.cell (World.block_lt_of_cell? _ _ HC0.out)).trans HC0.out
  have HB1 := Lib.hid (below_then HB0.out hb1)
  clear hb0 hb1
  cases hv : dbOk l
  · have HZ := Lib.hid (show ((cntL l : Nat) : Int) = 0 by unfold cntL; rw [hv]; rfl)
    go_wp2_with fail
    go_ret
    exact ⟨by rw [HZ.out]; rfl, HB1.out⟩
  have HZ := Lib.hid (show cntL l = cntRows l by unfold cntL; rw [hv]; rfl)
  go_wp2_with fail
  refine (HSR.out w1 HB1.out).mono ?_
  rintro e w2 ⟨rfl, hb2⟩
  have HB2 := Lib.hid (below_then HB1.out hb2)
  clear hb2
  go_wp2_with fail
  go_ret
  exact ⟨congrArg (fun x : Nat => Ending.returned (.int .i64 (x : Int))) HZ.out.symm, HB2.out⟩

end Go.Proofs.Ytklamhnecncenaa.DbImp
