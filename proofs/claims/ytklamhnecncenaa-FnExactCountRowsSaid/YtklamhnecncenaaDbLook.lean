/- Databases: the model's look-up and its count of rows. -/
import Derived.Test.YtklamhnecncenaaDbValid
import Derived.Test.YtklamhnecncenaaDbCopy
namespace Go.Proofs.Ytklamhnecncenaa.DbSpec
open Go Go.RowKit Byt Ints IntsLaw Cd Rows2 Tab SlMath TabOpen TabElem SlTable Db TabSpec DbMath

theorem cntRows_succ {l : List T3} {k : Nat} (h : k < l.length) : cntRows (l.take (k + 1)) = cntRows (l.take k) + (l[k]).2.2.length := sumN_succ _ h
theorem cntRows_take (l : List T3) (k : Nat) : cntRows (l.take k) ≤ cntRows l := sumN_take _ l k
theorem cntRows_le : ∀ (l : List T3), cntRows l ≤ wtS l
  | [] => by simp [cntRows, sumN]
  | T :: l => by
    have ih := cntRows_le l
    unfold wtS at *
    rw [sumN_cons, List.length_cons]
    have e : cntRows (T :: l) = T.2.2.length + cntRows l := sumN_cons _ _ _
    have : T.2.2.length ≤ wtT T := by unfold wtT tabWt rowsWt; omega
    omega
theorem rows_cell {w : World} {S : Nat → Prop} {x y z : Value} {T : T3} (h : tabC.rd w S [x, y, z] T) : ∃ a c, z = .slice a T.2.2.length c := by
  obtain ⟨u, e, _, _, h3⟩ := tab_cells h
  obtain ⟨a, c, e2, _⟩ := rows_form h3
  injection e with _ e
  injection e with _ e
  injection e with e _
  exact ⟨a, c, e.trans e2⟩

set_option maxRecDepth 100000 in
set_option maxHeartbeats 1600000 in
theorem spec_count (u : Value) (l : List T3) (S : Nat → Prop) (w : World) (h1 : tabsC.rd w S [u] l) (hw : wtS l ≤ 1048576) :
    Calls Try.prog 41 #[.agg #[u]] w fun e w' => e = .returned (.int .i64 ((cntL l : Nat) : Int)) ∧ Below w.heap.size w w' := by
  have HR1 := Lib.hid (fun w' (hb : Below w.heap.size w w') => Cd.later h1 hb)
  have HV := Lib.hid (fun w' (hb : Below w.heap.size w w') => spec_dbok u l S w' (Cd.later h1 hb))
  obtain ⟨a1, cap1, rfl, hl1⟩ := Cd.sl_form h1
  have HCB := Lib.hid (show cntRows l ≤ 1048576 by have := cntRows_le l; omega)
  clear h1
  go_enter Try.func41, Try.ntmps41
  go_wp2_with fail
  generalize hW : w.alloc _ = W
  obtain ⟨r0, hz, hb0⟩ := start1 w _ hW
  have c0 := (row1 r0).1
  have HC0 := Lib.hid (row1 r0).1
  have HLT0 := Lib.hid (show w.heap.size < W.heap.size by omega)
  have HB0 := Lib.hid hb0
  clear hW r0 hz hb0
  go_loopw [3, 4] (fun n i wr => ∃ k : Nat, k ≤ l.length ∧ n = .int .i64 ((cntRows (l.take k) : Nat) : Int) ∧ i = .int .i64 k ∧ (dbOk l = false → k = 0) ∧ Below W.heap.size W wr) (fun _ i _ => l.length - (intOf i).toNat)
  case atStart => exact ⟨0, Nat.zero_le _, rfl, rfl, fun _ => rfl, Below.refl _ _⟩
  case round =>
    obtain ⟨k, hk, rfl, rfl, h0, hb⟩ := hrel
    have x0 := (hb.cell (p := ⟨w.heap.size, 0, none⟩) HLT0.out).trans HC0.out
    have HK0 := Lib.hid h0
    have HBW := Lib.hid (below_then HB0.out hb)
    have HWR := Lib.hid hb
    have HX0 := Lib.hid x0
    have hxl : w.heap.size < wr.heap.size := by have := HLT0.out; have := hb.size; omega
    have HXL := Lib.hid hxl
    clear c0 h0
    by_cases hlt : k < l.length
    · obtain ⟨b, off, cap', us, e1, _, hbB, hat, hu⟩ := Cd.sl_at (HR1.out wr HBW.out) hlt
      injection e1 with e1 e2 e3
      subst e1 e3
      obtain ⟨x, y, z, rfl⟩ := len_list (tabC.len hu)
      have p2 := hat 2 (by simp)
      simp only [List.getElem_cons_zero, List.getElem_cons_succ, show tabC.n = 3 from rfl] at p2
      obtain ⟨az, cz, rfl⟩ := rows_cell hu
      have HP2 := Lib.hid (And.intro p2 hbB)
      have HSUM := Lib.hid (show ((cntRows (l.take (k + 1)) : Nat) : Int) = ((cntRows (l.take k) : Nat) : Int) + (((l[k]).2.2.length : Nat) : Int) by rw [cntRows_succ hlt]; omega)
      have HBND := Lib.hid (show cntRows (l.take k) + (l[k]).2.2.length ≤ 1048576 by rw [← cntRows_succ hlt]; have := cntRows_take l (k + 1); have := HCB.out; omega)
      have i1 : (0 : Int) ≤ (k : Int) := by omega
      have i2 : (k : Int) < (l.length : Int) := by omega
      clear hu hat hbB e2 p2
      generalize (l[k]).2.2.length = q at *
      have i3 := HBND.out
      go_wp2_with fail
      refine (HV.out _ HBW.out).mono ?_
      rintro e w2 ⟨rfl, hb2⟩
      have y0 := (hb2.cell (p := ⟨w.heap.size, 0, none⟩) HXL.out).trans HX0.out
      have y2 := (hb2.cell (p := ⟨b, off + k * 3 + 2, none⟩) HP2.out.2).trans HP2.out.1
      have HB2 := Lib.hid (below_then HBW.out hb2)
      have HB3 := Lib.hid (below_then HWR.out hb2)
      clear hb2
      cases hv : dbOk l
      · have HZ := Lib.hid (show ((cntRows (l.take k) : Nat) : Int) = ((cntL l : Nat) : Int) by rw [HK0.out hv]; unfold cntL; rw [hv]; rfl)
        go_wp2_with fail
        go_ret
        exact ⟨congrArg (fun x : Int => Ending.returned (.int .i64 x)) HZ.out, HB2.out⟩
      · have HV2 := Lib.hid hv
        go_wp2_with fail
        go_roundw
        case rel => exact ⟨k + 1, by omega, by rw [HSUM.out], by go_num, (fun q => by rw [HV2.out] at q; cases q), HB3.out⟩
        case measure => simp [intOf]; omega
    · have ek : k = l.length := by omega
      subst ek
      have HZ := Lib.hid (show ((cntRows (l.take l.length) : Nat) : Int) = ((cntL l : Nat) : Int) by
        unfold cntL
        cases hv : dbOk l
        · rw [HK0.out hv]; rfl
        · rw [List.take_length]; rfl)
      go_wp2_with fail
      go_ret
      exact ⟨congrArg (fun x : Int => Ending.returned (.int .i64 x)) HZ.out, HBW.out⟩

def zeroT : T3 := (⟨#[]⟩, 0, [])
def lkT (l : List T3) (nm : ByteArray) : T3 := (lookL l nm).getD zeroT
theorem lk_none {l : List T3} {nm : ByteArray} (h : lookL l nm = none) : lkT l nm = zeroT := by unfold lkT; rw [h]; rfl
theorem lk_some {l : List T3} {nm : ByteArray} {T : T3} (h : lookL l nm = some T) : lkT l nm = T := by unfold lkT; rw [h]; rfl
/-- A table, and whether there is one. -/
def LookAns (l : List T3) (nm : ByteArray) (w : World) (e : Ending) (w' : World) : Prop :=
  ∃ v fp, e = .returned (.tuple #[.agg #[.string (lkT l nm).1, .int .i64 (lkT l nm).2.1, v], .bool (lookL l nm).isSome]) ∧ rowsC.ow w' w.heap.size [v] (lkT l nm).2.2 fp ∧ fp.Nodup ∧ Below w.heap.size w w'
theorem LookAns.none {l : List T3} {nm : ByteArray} {w w' : World} (h : lookL l nm = Option.none) (hb : Below w.heap.size w w') : LookAns l nm w (.returned (.tuple #[.agg #[.string ⟨#[]⟩, .int .i64 0, .slice .none 0 0], .bool false])) w' :=
  ⟨.slice .none 0 0, [], by rw [lk_none h, h]; rfl, by rw [lk_none h]; exact Cd.ow_nil _ _, by simp, hb⟩
theorem LookAns.some {l : List T3} {nm : ByteArray} {w w' : World} {T : T3} {v : Value} {fp : List Nat} (h : lookL l nm = Option.some T) (ho : rowsC.ow w' w.heap.size [v] T.2.2 fp) (hn : fp.Nodup) (hb : Below w.heap.size w w') : LookAns l nm w (.returned (.tuple #[.agg #[.string T.1, .int .i64 T.2.1, v], .bool true])) w' :=
  ⟨v, fp, by rw [lk_some h, h]; rfl, by rw [lk_some h]; exact ho, hn, hb⟩
theorem take_no {l : List T3} {nm : ByteArray} {k : Nat} (h : ∀ T ∈ l.take k, T.1 ≠ nm) (hk : k < l.length) (h0 : (l[k]).1 ≠ nm) : ∀ T ∈ l.take (k + 1), T.1 ≠ nm := by
  intro T hT
  rw [List.take_succ_eq_append_getElem hk] at hT
  rcases List.mem_append.1 hT with q | q
  · exact h T q
  · rw [List.mem_singleton.1 q]; exact h0
end Go.Proofs.Ytklamhnecncenaa.DbSpec
