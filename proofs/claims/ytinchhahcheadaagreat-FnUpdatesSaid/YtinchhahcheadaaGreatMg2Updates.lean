/- Texts that the proof rests on, one behind the other. -/
import Derived.Test.YtinchhahcheadaaGreatMg1Updates
import Derived.Test.YtinchhahcheadaaGreatExact
import Derived.Test.YtinchhahcheadaaGreatIntsLaw
import Derived.Test.YtinchhahcheadaaGreatRows
import Derived.Test.YtinchhahcheadaaGreatByt
import Derived.Test.YtinchhahcheadaaGreatReads
import Derived.WalkKit
import Derived.WalkSpells
import Derived.WalkLawsBesides
import Derived.Lib.Hide
import Derived.Deep.QuietTactic
import Derived.BigQuiet
import Derived.Deep.RegionWith
import Derived.ProofKit
import Derived.OpenShut
import Derived.Deep.RegionHeld3
import Derived.Test.YtinchhahcheadaaGreatTabNew

namespace Go.Proofs.YtinchhahcheadaaGreat.DbSpec
open Go Go.RowKit Byt Ints IntsLaw Cd Rows2 Tab SlMath TabOpen TabElem SlTable Db TabSpec DbMath

theorem cntRows_succ {l : List T3} {k : Nat} (h : k < l.length) : cntRows (l.take (k + 1)) = cntRows (l.take k) + (l[k]).2.2.length := sumN_succ _ h
theorem cntRows_take (l : List T3) (k : Nat) : cntRows (l.take k) ≤ cntRows l := sumN_take _ l k
theorem cntRows_le : ∀ (l : List T3), cntRows l ≤ wtS l
  | [] => by simp [cntRows, sumN]
  | T :: l => by
    have ih := cntRows_le l
    unfold wtS at *
    rw [sumN_cons, List.length_cons]
    have e : cntRows (T :: l) = T.2.2.length + cntRows l := sumN_cons _ _ _
    have : T.2.2.length ≤ wtT T := by unfold wtT tabWt rowsWt; omega
    omega
theorem rows_cell {w : World} {S : Nat → Prop} {x y z : Value} {T : T3} (h : tabC.rd w S [x, y, z] T) : ∃ a c, z = .slice a T.2.2.length c := by
  obtain ⟨u, e, _, _, h3⟩ := tab_cells h
  obtain ⟨a, c, e2, _⟩ := rows_form h3
  injection e with _ e
  injection e with _ e
  injection e with e _
  exact ⟨a, c, e.trans e2⟩


theorem copy_rows (us : List Value) (T : T3) (S : Nat → Prop) (w : World) (hu : tabC.rd w S us T) (hw : wtT T ≤ 1073741824) :
    Calls Tryz.prog 56 #[.agg us.toArray] w fun e w' => ∃ a c fp, e = .returned (.agg #[.string T.1, .int .i64 T.2.1, .slice a T.2.2.length c]) ∧ rowsC.ow w' w.heap.size [.slice a T.2.2.length c] T.2.2 fp ∧ fp.Nodup ∧ Below w.heap.size w w' := by
  obtain ⟨u, rfl, h1, h2, h3⟩ := tab_cells hu
  refine (spec_copy T.1 T.2.1 u T.2.2 S w h3 (by unfold wtT tabWt at hw; omega)).mono ?_
  rintro e w' ⟨u', fp, rfl, how, hnd, hb⟩
  obtain ⟨a, c, rfl⟩ := Cd.ow_slice how
  exact ⟨a, c, fp, rfl, how, hnd, hb⟩
def zeroT : T3 := (⟨#[]⟩, 0, [])
def lkT (l : List T3) (nm : ByteArray) : T3 := (lookL l nm).getD zeroT
theorem lk_none {l : List T3} {nm : ByteArray} (h : lookL l nm = none) : lkT l nm = zeroT := by unfold lkT; rw [h]; rfl
theorem lk_some {l : List T3} {nm : ByteArray} {T : T3} (h : lookL l nm = some T) : lkT l nm = T := by unfold lkT; rw [h]; rfl
/-- A table, and whether there is one. -/
def LookAns (l : List T3) (nm : ByteArray) (w : World) (e : Ending) (w' : World) : Prop :=
  ∃ v fp, e = .returned (.tuple #[.agg #[.string (lkT l nm).1, .int .i64 (lkT l nm).2.1, v], .bool (lookL l nm).isSome]) ∧ rowsC.ow w' w.heap.size [v] (lkT l nm).2.2 fp ∧ fp.Nodup ∧ Below w.heap.size w w'
theorem LookAns.none {l : List T3} {nm : ByteArray} {w w' : World} (h : lookL l nm = Option.none) (hb : Below w.heap.size w w') : LookAns l nm w (.returned (.tuple #[.agg #[.string ⟨#[]⟩, .int .i64 0, .slice .none 0 0], .bool false])) w' :=
  ⟨.slice .none 0 0, [], by rw [lk_none h, h]; rfl, by rw [lk_none h]; exact Cd.ow_nil _ _, by simp, hb⟩
theorem LookAns.some {l : List T3} {nm : ByteArray} {w w' : World} {T : T3} {v : Value} {fp : List Nat} (h : lookL l nm = Option.some T) (ho : rowsC.ow w' w.heap.size [v] T.2.2 fp) (hn : fp.Nodup) (hb : Below w.heap.size w w') : LookAns l nm w (.returned (.tuple #[.agg #[.string T.1, .int .i64 T.2.1, v], .bool true])) w' :=
  ⟨v, fp, by rw [lk_some h, h]; rfl, by rw [lk_some h]; exact ho, hn, hb⟩
theorem take_no {l : List T3} {nm : ByteArray} {k : Nat} (h : ∀ T ∈ l.take k, T.1 ≠ nm) (hk : k < l.length) (h0 : (l[k]).1 ≠ nm) : ∀ T ∈ l.take (k + 1), T.1 ≠ nm := by
  intro T hT
  rw [List.take_succ_eq_append_getElem hk] at hT
  rcases List.mem_append.1 hT with q | q
  · exact h T q
  · rw [List.mem_singleton.1 q]; exact h0
set_option maxRecDepth 100000 in
set_option maxHeartbeats 1600000 in
theorem spec_look (u : Value) (l : List T3) (nm : ByteArray) (S : Nat → Prop) (w : World) (h1 : tabsC.rd w S [u] l) (hw : wtS l ≤ 1048577) :
    Calls Tryz.prog 24 #[.agg #[u], .string nm] w fun e w' => LookAns l nm w e w' := by
  have HR1 := Lib.hid (fun w' (hb : Below w.heap.size w w') => Cd.later h1 hb)
  have HV := Lib.hid (fun w' (hb : Below w.heap.size w w') => spec_dbok u l S w' (Cd.later h1 hb))
  obtain ⟨a1, cap1, rfl, hl1⟩ := Cd.sl_form h1
  have HWT := Lib.hid hw
  clear h1 hw
  go_enter Tryz.func24, Tryz.ntmps24
  go_wp2_with fail
  generalize hW : (w.alloc _).alloc _ = W
  obtain ⟨r0, r1, hz, hb0⟩ := start2g w _ _ hW
  have c0 := (row1 r0).1
  have HC0 := Lib.hid (row1 r0).1
  have HC1 := Lib.hid r1
  have HZZ := Lib.hid hz
  have HB0 := Lib.hid hb0
  clear hW r0 r1 hz hb0
  go_loopw [6] (fun i wr => ∃ k : Nat, k ≤ l.length ∧ i = .int .i64 k ∧ (dbOk l = false → k = 0) ∧ (∀ T ∈ l.take k, T.1 ≠ nm) ∧ Below W.heap.size W wr) (fun i _ => l.length - (intOf i).toNat)
  case atStart => exact ⟨0, Nat.zero_le _, rfl, fun _ => rfl, by simp, Below.refl _ _⟩
  case round =>
    obtain ⟨k, hk, rfl, h0, hno, hb⟩ := hrel
    have x0 := (hb.cell (p := ⟨w.heap.size, 0, none⟩) (by have := HZZ.out; show w.heap.size < _; omega)).trans HC0.out
    have HC1' := Lib.hid ((hb.block (w.heap.size + 1) (by have := HZZ.out; omega)).trans HC1.out)
    have HK0 := Lib.hid h0
    have HNO := Lib.hid hno
    have HBW := Lib.hid (below_then HB0.out hb)
    have HWR := Lib.hid hb
    have HX0 := Lib.hid x0
    have HXL := Lib.hid (show w.heap.size + 1 < wr.heap.size by have := HZZ.out; have := hb.size; omega)
    clear c0 h0 hno
    by_cases hlt : k < l.length
    · obtain ⟨b, off, cap', us, e1, _, hbB, hat, hu⟩ := Cd.sl_at (HR1.out wr HBW.out) hlt
      injection e1 with e1 e2 e3
      subst e1 e3
      obtain ⟨x, y, z, rfl⟩ := len_list (tabC.len hu)
      have p0 := hat 0 (by simp)
      have p1 := hat 1 (by simp)
      have p2 := hat 2 (by simp)
      simp only [List.getElem_cons_zero, List.getElem_cons_succ, Nat.add_zero, show tabC.n = 3 from rfl] at p0 p1 p2
      have ht3 : wtT l[k] ≤ 1073741824 := by have := sumN_mem wtT hlt; have := HWT.out; unfold wtS at this; omega
      have HCP := Lib.hid (fun w' (hq : LaterD wr w') => copy_rows [x, y, z] l[k] _ w' (Cd.later hu hq) ht3)
      have hx := name_cell hu
      have HAT := Lib.hid (And.intro p0 (And.intro p1 (And.intro p2 hbB)))
      have HF1 := Lib.hid (fun e : (l[k]).1 = nm => findN_at hlt HNO.out e)
      have HF0 := Lib.hid (fun e : (l[k]).1 ≠ nm => take_no HNO.out hlt e)
      have i1 : (0 : Int) ≤ (k : Int) := by omega
      have i2 : (k : Int) < (l.length : Int) := by omega
      clear hu hat hbB e2 p0 p1 p2 ht3
      generalize l[k] = T at *
      subst hx
      go_wp2_with fail
      refine (HV.out _ HBW.out).mono ?_
      rintro e w2 ⟨rfl, hb2⟩
      have y0 := (hb2.cell (p := ⟨w.heap.size, 0, none⟩) (by have := HXL.out; show w.heap.size < _; omega)).trans HX0.out
      have q0 := (hb2.cell (p := ⟨b, off + k * 3, none⟩) HAT.out.2.2.2).trans HAT.out.1
      have q1 := (hb2.cell (p := ⟨b, off + k * 3 + 1, none⟩) HAT.out.2.2.2).trans HAT.out.2.1
      have q2 := (hb2.cell (p := ⟨b, off + k * 3 + 2, none⟩) HAT.out.2.2.2).trans HAT.out.2.2.1
      have HB2 := Lib.hid (below_then HBW.out hb2)
      have HB3 := Lib.hid (below_then HWR.out hb2)
      have HC2 := Lib.hid ((hb2.block (w.heap.size + 1) HXL.out).trans HC1'.out)
      have HD2 := Lib.hid (show LaterD wr w2 from hb2)
      have HS2 := Lib.hid (show w.heap.size + 1 < w2.heap.size by have := HXL.out; have := hb2.size; omega)
      clear hb2
      cases hv : dbOk l
      · have HZ := Lib.hid (show lookL l nm = none by unfold lookL; rw [hv]; rfl)
        obtain ⟨m0, m1, m2, f0, f1, f2⟩ := row3 HC2.out
        go_wp2_with fail
        have G0 := set3 (w := w2) (k := w.heap.size + 1) (x := .string ⟨#[]⟩) (y := .int .i64 0) (z := .slice none 0 0) m0 m1 m2
        refine bodyPost_ret (v := .tuple #[.agg #[.string ⟨#[]⟩, .int .i64 0, .slice none 0 0], .bool false]) (by simp [results, Tryz.results24, go_sem, G0.1, G0.2.1, G0.2.2]) rfl (LookAns.none HZ.out ?_)
        exact ((HB2.out.setCell (by show _ ≤ w.heap.size + 1; omega) _).setCell (by show _ ≤ w.heap.size + 1; omega) _).setCell (by show _ ≤ w.heap.size + 1; omega) _
      · have HV2 := Lib.hid hv
        by_cases he : T.1 = nm
        · have HZ := Lib.hid (show lookL l nm = some T by unfold lookL; rw [hv]; exact HF1.out he)
          have he2 : (T.1.toList == nm.toList) = true := by rw [eqB]; exact decide_eq_true he
          clear he
          go_wp2_with fail
          refine (HCP.out _ HD2.out).mono ?_
          rintro e w3 ⟨a3, c3, fp, rfl, ho, hn, hb3⟩
          have HB4 := Lib.hid (below_then HB2.out hb3)
          obtain ⟨m0, m1, m2, f0, f1, f2⟩ := row3 ((hb3.block (w.heap.size + 1) HS2.out).trans HC2.out)
          have HO := Lib.hid ho
          have HN := Lib.hid hn
          clear ho hn hb3
          go_wp2_with fail
          have G0 := set3 (w := w3) (k := w.heap.size + 1) (x := .string T.1) (y := .int .i64 T.2.1) (z := .slice a3 T.2.2.length c3) m0 m1 m2
          have hfar : w.heap.size + 1 ∉ fp := fun q => by have := (rowsC.ow_lt HO.out _ q).1; have := HS2.out; omega
          refine bodyPost_ret (v := .tuple #[.agg #[.string T.1, .int .i64 T.2.1, .slice a3 T.2.2.length c3], .bool true]) (by simp [results, Tryz.results24, go_sem, G0.1, G0.2.1, G0.2.2]) rfl (LookAns.some HZ.out ?_ HN.out ?_)
          · exact ow_setCell (ow_setCell (ow_setCell (rowsC.ow_base HO.out (by have := HS2.out; omega)) hfar _) hfar _) hfar _
          · exact ((HB4.out.setCell (by show _ ≤ w.heap.size + 1; omega) _).setCell (by show _ ≤ w.heap.size + 1; omega) _).setCell (by show _ ≤ w.heap.size + 1; omega) _
        · have HF := Lib.hid (HF0.out he)
          have he2 : (T.1.toList == nm.toList) = false := by rw [eqB]; exact decide_eq_false he
          clear he
          go_wp2_with fail
          go_roundw
          case rel => exact ⟨k + 1, by omega, by go_num, (fun q => by rw [HV2.out] at q; cases q), HF.out, HB3.out⟩
          case measure => simp [intOf]; omega
    · have ek : k = l.length := by omega
      subst ek
      have HZ := Lib.hid (show lookL l nm = none by
        unfold lookL
        cases hv : dbOk l
        · rfl
        · have := HNO.out; rw [List.take_length] at this; exact findN_none.2 this)
      obtain ⟨m0, m1, m2, f0, f1, f2⟩ := row3 HC1'.out
      go_wp2_with fail
      have G0 := set3 (w := wr) (k := w.heap.size + 1) (x := .string ⟨#[]⟩) (y := .int .i64 0) (z := .slice none 0 0) m0 m1 m2
      refine bodyPost_ret (v := .tuple #[.agg #[.string ⟨#[]⟩, .int .i64 0, .slice none 0 0], .bool false]) (by simp [results, Tryz.results24, go_sem, G0.1, G0.2.1, G0.2.2]) rfl (LookAns.none HZ.out ?_)
      exact ((HBW.out.setCell (by show _ ≤ w.heap.size + 1; omega) _).setCell (by show _ ≤ w.heap.size + 1; omega) _).setCell (by show _ ≤ w.heap.size + 1; omega) _
end Go.Proofs.YtinchhahcheadaaGreat.DbSpec

namespace Go.Proofs.YtinchhahcheadaaGreat.DbExact
open Go Go.RowKit Byt Ints IntsLaw Cd Rows2 Tab TabSpec Exact SlMath TabOpen TabElem Mark SlTable Db

structure Loc1 (w : World) (X : Nat) (a : Value) : Prop where
  c0 : w.cell? ⟨X, 0, none⟩ = some a
  f0 : w.frozen? ⟨X, 0, none⟩ = false
theorem Loc1.of {w : World} {X : Nat} {a : Value} {e : TypeId} (h : w.heap[X]? = some (.cells #[a] e (0, 0))) : Loc1 w X a := ⟨by simp [World.cell?, h], by simp [World.frozen?, h]⟩
theorem Loc1.keep {w w' : World} {X : Nat} {a : Value} (h : Loc1 w X a) (hk : w'.heap[X]? = w.heap[X]?) : Loc1 w' X a :=
  ⟨(World.cell?_of_block (w := w) (a := ⟨X, 0, none⟩) hk).trans h.c0, (World.frozen?_of_block (w := w) (a := ⟨X, 0, none⟩) hk).trans h.f0⟩
theorem Loc1.lt {w : World} {X : Nat} {a : Value} (h : Loc1 w X a) : X < w.heap.size := World.block_lt_of_cell? w _ h.c0
theorem Loc1.touched {w w' : World} {X : Nat} {a : Value} {fp : List Nat} (h : Loc1 w X a) (ht : Cd.Touch fp w w') (hn : X ∉ fp) : Loc1 w' X a := h.keep (ht.block X h.lt hn)
theorem Loc1.later {w w' : World} {X : Nat} {a : Value} (h : Loc1 w X a) (hb : Below w.heap.size w w') : Loc1 w' X a := h.keep (hb.block X h.lt)
theorem Loc1.set {w : World} {X : Nat} {a : Value} (h : Loc1 w X a) (v : Value) : Loc1 (w.setCell ⟨X, 0, none⟩ v) X v := ⟨World.cell?_setCell_same _ _ _ h.c0, by simpa using h.f0⟩
theorem Loc1.set_far {w : World} {X : Nat} {a : Value} (h : Loc1 w X a) {p : Addr} (hp : p.block ≠ X) (v : Value) : Loc1 (w.setCell p v) X a := h.keep (Below.heap_setCell w p v X (fun q => hp q.symm))
theorem Loc1.drew {w : World} {X : Nat} {a : Value} (h : Loc1 w X a) : Loc1 w.drew X a := ⟨h.c0, h.f0⟩

theorem cnt_le : ∀ (l : List T3), sumN cntT l ≤ 2 * wtS l
  | [] => by simp [sumN]
  | T :: l => by
    have ih := cnt_le l
    unfold wtS at *
    rw [sumN_cons, sumN_cons, List.length_cons]
    have : cntT T ≤ 2 + wtT T := by unfold cntT wtT tabWt rowsWt; omega
    omega
theorem rows_le {l : List T3} {T : T3} (h : T ∈ l) : T.2.2.flatten.length ≤ wtS l := by
  obtain ⟨k, hk, rfl⟩ := List.getElem_of_mem h
  have h1 := sumN_mem wtT hk
  have h2 : (l[k]).2.2.flatten.length ≤ wtT l[k] := by unfold wtT tabWt rowsWt; omega
  unfold wtS
  omega
theorem cnts_of {l : List T3} (h : wtS l ≤ 1048576) : sumN cntT l ≤ 4194308 ∧ ∀ T ∈ l, T.2.2.flatten.length ≤ 1048577 :=
  ⟨by have := cnt_le l; omega, fun T hT => by have := rows_le hT; omega⟩
end Go.Proofs.YtinchhahcheadaaGreat.DbExact

namespace Go.Proofs.YtinchhahcheadaaGreat.DbAcc
open Go Go.RowKit Byt Ints IntsLaw Cd Rows2 Tab SlMath TabOpen TabElem SlTable Db TabSpec DbMath DbSpec DbExact

/-- Behind wF, all but block X is as it was there; X holds a slice that owns cur. -/
structure AccS (wF wr : World) (X : Nat) (cur : List T3) (a : Option Addr) (c : Nat) (fp : List Nat) : Prop where
  cell : wr.cell? ⟨X, 0, none⟩ = some (.slice a cur.length c)
  fz : wr.frozen? ⟨X, 0, none⟩ = false
  ow : tabsC.ow wr wF.heap.size [.slice a cur.length c] cur fp
  nd : fp.Nodup
  tou : Cd.Touch [X] wF wr
  xb : X < wF.heap.size
theorem AccS.sz {wF wr : World} {X c : Nat} {cur : List T3} {a : Option Addr} {fp : List Nat} (h : AccS wF wr X cur a c fp) : wF.heap.size ≤ wr.heap.size := h.tou.size
theorem AccS.start {wF : World} {X : Nat} {e : TypeId} (h : wF.heap[X]? = some (.cells #[.slice none 0 0] e (0, 0))) : AccS wF wF X [] none 0 [] :=
  ⟨by simp [World.cell?, h], by simp [World.frozen?, h], Cd.ow_nil _ _, by simp, Cd.Touch.refl _ _, (Array.getElem?_eq_some_iff.1 h).1⟩
theorem AccS.start' {wF : World} {X : Nat} (h : Loc1 wF X (.slice none 0 0)) : AccS wF wF X [] none 0 [] :=
  ⟨h.c0, h.f0, Cd.ow_nil _ _, by simp, Cd.Touch.refl _ _, h.lt⟩
theorem AccS.later {wF wr w' : World} {X c : Nat} {cur : List T3} {a : Option Addr} {fp : List Nat} (h : AccS wF wr X cur a c fp) (hb : Below wr.heap.size wr w') : AccS wF w' X cur a c fp :=
  ⟨(hb.cell (World.block_lt_of_cell? wr _ h.cell)).trans h.cell, (World.frozen?_of_block (hb.block _ (World.block_lt_of_cell? wr _ h.cell))).trans h.fz, Cd.ow_later h.ow hb, h.nd, h.tou.trans (Cd.Touch.of_below hb), h.xb⟩
theorem AccS.block {wF wr : World} {X c : Nat} {cur : List T3} {a : Option Addr} {fp : List Nat} (h : AccS wF wr X cur a c fp) {k : Nat} (hk : k < wF.heap.size) (hx : k ≠ X) : wr.heap[k]? = wF.heap[k]? := h.tou.block k hk (by simpa using hx)
theorem AccS.get {wF wr : World} {X c : Nat} {cur : List T3} {a : Option Addr} {fp : List Nat} (h : AccS wF wr X cur a c fp) {p : Addr} {v : Value} (hc : wF.cell? p = some v) (hx : p.block ≠ X) : wr.cell? p = some v := h.tou.cell hc (by simpa using hx)
theorem AccS.loc1 {wF wr : World} {X Y c : Nat} {cur : List T3} {a : Option Addr} {fp : List Nat} {v : Value} (h : AccS wF wr X cur a c fp) (hl : Loc1 wF Y v) (hx : Y ≠ X) : Loc1 wr Y v := hl.touched h.tou (by simpa using hx)
theorem AccS.loc3 {wF wr : World} {X Y c : Nat} {cur : List T3} {a : Option Addr} {fp : List Nat} {x y z : Value} (h : AccS wF wr X cur a c fp) (hl : Loc3 wF Y x y z) (hx : Y ≠ X) : Loc3 wr Y x y z := hl.touched h.tou (by simpa using hx)
theorem AccS.below {w wF wr : World} {X c : Nat} {cur : List T3} {a : Option Addr} {fp : List Nat} (h : AccS wF wr X cur a c fp) (hb : Below w.heap.size w wF) (hx : w.heap.size ≤ X) : Below w.heap.size w wr :=
  Cd.Touch.below hb h.tou (fun b hb => by rw [List.mem_singleton.1 hb]; exact hx)
theorem AccS.shift {wF wr : World} {X c : Nat} {cur cur' : List T3} {a : Option Addr} {fp : List Nat} (h : AccS wF wr X cur a c fp) (e : cur = cur') : AccS wF wr X cur' a c fp := e ▸ h
/-- A store into another block that the function made behind wF. -/
theorem AccS.far {wF wr : World} {X c : Nat} {cur : List T3} {a : Option Addr} {fp : List Nat} (h : AccS wF wr X cur a c fp) {p : Addr} (hp : wF.heap.size ≤ p.block) (hn : p.block ∉ fp) (v : Value) : AccS wF (wr.setCell p v) X cur a c fp :=
  ⟨(World.cell?_setCell_other _ _ _ _ (by intro q; have e := congrArg Addr.block q; simp only at e; have := h.xb; omega)).trans h.cell, by simpa using h.fz, ow_setCell h.ow hn v, h.nd,
    ⟨h.tou.os, h.tou.tape, h.tou.output, by simpa using h.tou.size, fun k hk hn => (Below.heap_setCell wr p v k (by omega)).trans (h.tou.block k hk hn)⟩, h.xb⟩
/-- Behind an append and the store of the new slice. -/
theorem AccS.app {wF w3 w4 : World} {X c : Nat} {cur cur' : List T3} {a : Option Addr} {fp fp4 : List Nat} (h : AccS wF w3 X cur a c fp) {g n cap : Nat} (he : n = cur'.length) (ht : Cd.Touch fp w3 w4) (ho : tabsC.ow w4 wF.heap.size [.slice (some ⟨g, 0, none⟩) n cap] cur' fp4) (hn : fp4.Nodup) :
    AccS wF (w4.setCell ⟨X, 0, none⟩ (.slice (some ⟨g, 0, none⟩) n cap)) X cur' (some ⟨g, 0, none⟩) cap fp4 := by
  subst he
  have hx : X ∉ fp := fun q => by have := ((Cd.sl _ tabC).ow_lt h.ow _ q).1; have := h.xb; omega
  have hx4 : X ∉ fp4 := fun q => by have := ((Cd.sl _ tabC).ow_lt ho _ q).1; have := h.xb; omega
  have hl : X < w3.heap.size := World.block_lt_of_cell? w3 _ h.cell
  refine ⟨World.cell?_setCell_same _ _ _ (ht.cell h.cell hx), ?_, ow_setCell ho hx4 _, hn, ?_, h.xb⟩
  · simpa using (World.frozen?_of_block (ht.block _ hl hx)).trans h.fz
  · have hs := h.sz
    refine ⟨ht.os.trans h.tou.os, ht.tape.trans h.tou.tape, ht.output.trans h.tou.output, by simpa using Nat.le_trans hs ht.size, fun k hk hn => ?_⟩
    have hk0 : k ∉ fp := fun q => by have := ((Cd.sl _ tabC).ow_lt h.ow _ q).1; omega
    rw [Below.heap_setCell w4 _ _ k (by simpa using hn)]
    exact (ht.block k (by omega) hk0).trans (h.tou.block k hk hn)
theorem AccS.fcell {wF w3 w4 : World} {X c : Nat} {cur : List T3} {a : Option Addr} {fp : List Nat} (h : AccS wF w3 X cur a c fp) (ht : Cd.Touch fp w3 w4) : w4.cell? ⟨X, 0, none⟩ = some (.slice a cur.length c) ∧ w4.frozen? ⟨X, 0, none⟩ = false := by
  have hx : X ∉ fp := fun q => by have := ((Cd.sl _ tabC).ow_lt h.ow _ q).1; have := h.xb; omega
  exact ⟨ht.cell h.cell hx, (World.frozen?_of_block (ht.block _ (World.block_lt_of_cell? w3 _ h.cell) hx)).trans h.fz⟩

/-- A database and a yes or no. -/
def DbAns (l : List T3) (b : Bool) (w : World) (e : Ending) (w' : World) : Prop :=
  ∃ u fp, e = .returned (.tuple #[.agg #[u], .bool b]) ∧ tabsC.ow w' w.heap.size [u] l fp ∧ fp.Nodup ∧ Below w.heap.size w w'
/-- What was gathered is stored in the cell of the result. -/
theorem AccS.ans {w wF wr : World} {X Y c : Nat} {cur : List T3} {a : Option Addr} {fp : List Nat} (h : AccS wF wr X cur a c fp) (hb : Below w.heap.size w wF) (hx : w.heap.size ≤ X) (hY : w.heap.size ≤ Y) (hYF : Y < wF.heap.size) {l : List T3} {b : Bool} (el : cur = l) (eb : b = true) :
    DbAns l b w (.returned (.tuple #[.agg #[.slice a cur.length c], .bool true])) (wr.setCell ⟨Y, 0, none⟩ (.slice a cur.length c)) := by
  subst el eb
  exact ⟨_, fp, rfl, ow_setCell ((Cd.sl _ tabC).ow_base h.ow hb.size) (fun q => by have := ((Cd.sl _ tabC).ow_lt h.ow _ q).1; simp only at this; omega) _, h.nd, (h.below hb hx).setCell hY _⟩
/-- A copy is stored in the cell of the result. -/
theorem DbAns.copy {w w1 w2 : World} {Y : Nat} {l l' : List T3} {u : Value} {fp : List Nat} (ho : tabsC.ow w2 w1.heap.size [u] l fp) (hn : fp.Nodup) (hb1 : Below w.heap.size w w1) (hb : Below w1.heap.size w1 w2) (hY : w.heap.size ≤ Y) (hY1 : Y < w1.heap.size) {b : Bool} (el : l = l') (eb : b = false) :
    DbAns l' b w (.returned (.tuple #[.agg #[u], .bool false])) (w2.setCell ⟨Y, 0, none⟩ u) := by
  subst el eb
  exact ⟨_, fp, rfl, ow_setCell ((Cd.sl _ tabC).ow_base ho hb1.size) (fun q => by have := ((Cd.sl _ tabC).ow_lt ho _ q).1; simp only at this; omega) _, hn, (below_then hb1 hb).setCell hY _⟩
theorem loc1_at {w w1 : World} {k : Nat} {v : Value} {e : TypeId} (h : w.heap[k]? = some (.cells #[v] e (0, 0))) (hb : Below w.heap.size w w1) : Loc1 w1 k v := (Loc1.of h).later hb
theorem remL_eq {l : List T3} {nm : ByteArray} {k : Nat} (hk : k < l.length) (h : (l[k]).1 = nm) : remL (l.take (k + 1)) nm = remL (l.take k) nm := by
  unfold remL
  rw [List.take_succ_eq_append_getElem hk, List.filter_append]
  simp [h]
theorem remL_ne {l : List T3} {nm : ByteArray} {k : Nat} (hk : k < l.length) (h : (l[k]).1 ≠ nm) : remL (l.take (k + 1)) nm = remL (l.take k) nm ++ [l[k]] := by
  unfold remL
  rw [List.take_succ_eq_append_getElem hk, List.filter_append]
  simp [h]
theorem remL_len (l : List T3) (nm : ByteArray) : (remL l nm).length ≤ l.length := List.length_filter_le _ _

/-- A table copied and laid in two cells of its own, to be appended. -/
structure Laid (wF w3 : World) (b : Nat) (us : List Value) (T : T3) (f fp : List Nat) : Prop where
  at_ : Cd.At w3 b 0 us
  ow : tabC.ow w3 wF.heap.size us T f
  nd : f.Nodup
  far : ∀ b ∈ f, b ∉ fp
theorem AccS.laid {wF wr w2 : World} {X c : Nat} {cur : List T3} {a : Option Addr} {fp : List Nat} (h : AccS wF wr X cur a c fp) (hb : Below wr.heap.size wr w2) {x y z : Value} {T : T3} {f : List Nat} (ho : tabC.ow w2 wr.heap.size [x, y, z] T f) (hn : f.Nodup) (e : TypeId) :
    AccS wF ((w2.alloc (.cells #[x, y, z] e (0, 0))).alloc (.cells #[x, y, z] e (0, 0))) X cur a c fp ∧ Laid wF ((w2.alloc (.cells #[x, y, z] e (0, 0))).alloc (.cells #[x, y, z] e (0, 0))) (w2.heap.size + 1) [x, y, z] T f fp := by
  have hbA := below_then (below_alloc w2 (.cells #[x, y, z] e (0, 0))) (below_alloc (w2.alloc (.cells #[x, y, z] e (0, 0))) (.cells #[x, y, z] e (0, 0)))
  refine ⟨(h.later hb).later hbA, ?_, tabC.ow_base (Cd.ow_later ho hbA) h.sz, hn, fun b hb q => ?_⟩
  · exact at3 (by have := row_alloc (w2.alloc (.cells #[x, y, z] e (0, 0))) (.cells #[x, y, z] e (0, 0)); rw [size_alloc] at this; exact this)
  · have h1 := (tabC.ow_lt ho b hb).1
    have h2 := ((Cd.sl _ tabC).ow_lt h.ow b q).2
    omega
end Go.Proofs.YtinchhahcheadaaGreat.DbAcc

namespace Go.Proofs.YtinchhahcheadaaGreat.IntsWalk
open Go Go.RowKit Byt Ints IntsLaw

/-- v's own block, if it has one, lies from lo on and below hi. -/
def Bk (v : Value) (lo hi : Nat) : Prop := ∀ k, v.ownBlock = some k → lo ≤ k ∧ k < hi
theorem bk_of {w : World} {base : Nat} {e : TypeId} {v : Value} {l : List Int} (h : OwnI w base e v l) : Bk v base w.heap.size := fun k hk => World.ownsRow.lt h k hk
theorem apart {u v : Value} {a b c d : Nat} (hu : Bk u a b) (hv : Bk v c d) (h : b ≤ c ∨ d ≤ a) : u.ownBlock = none ∨ u.ownBlock ≠ v.ownBlock := by
  cases e : u.ownBlock with
  | none => exact .inl rfl
  | some k =>
    refine .inr fun q => ?_
    have h1 := hu k e
    have h2 := hv k q.symm
    omega
theorem kept_mark {w w' : World} {base : Nat} {e : TypeId} {u v : Value} {l : List Int} (h : OwnI w base e u l) (hg : w.grownBy w' v.ownBlock) (hne : u.ownBlock = none ∨ u.ownBlock ≠ v.ownBlock) : OwnI w' base e u l :=
  World.ownsRow.kept h hg hne
theorem below_mark {w0 w w' : World} {v : Value} {lo hi : Nat} (h : Below w0.heap.size w0 w) (hg : w.grownBy w' v.ownBlock) (hb : Bk v lo hi) (hlo : w0.heap.size ≤ lo) : Below w0.heap.size w0 w' :=
  h.grown hg h.size (fun k hk => Nat.le_trans hlo (hb k hk).1)
theorem below_then {w a b : World} (h : Below w.heap.size w a) (k : Below a.heap.size a b) : Below w.heap.size w b := h.trans (k.mono h.size)
theorem dec_same (l : List Int) : decide (l = l) = true := decide_eq_true rfl
end Go.Proofs.YtinchhahcheadaaGreat.IntsWalk

namespace Go.Proofs.YtinchhahcheadaaGreat.Draw
open Go Go.RowKit Byt

/-- Block c is a cursor over v, which has l's length. -/
def Cur (w : World) (c : Nat) (v : Value) (l : List UInt8) : Prop :=
  ∃ (i : Nat) (h : Int), i ≤ l.length ∧ w.heap[c]? = some (.cells #[v, .int .i64 i, .int .i64 h] 91 (0, 0))

theorem Cur.kept {w w' : World} {c : Nat} {v : Value} {l : List UInt8} {row : Option Nat} (h : Cur w c v l) (hg : w.grownBy w' row) (hne : some c ≠ row) : Cur w' c v l := by
  obtain ⟨i, x, hi, hh⟩ := h
  exact ⟨i, x, hi, by rw [hg.block c (Array.getElem?_eq_some_iff.1 hh).1 hne]; exact hh⟩

theorem cur_size {w : World} {c : Nat} {v : Value} {l : List UInt8} (h : Cur w c v l) : c < w.heap.size := by
  obtain ⟨i, x, hi, hh⟩ := h
  exact (Array.getElem?_eq_some_iff.1 hh).1

theorem cur_set {w : World} {c j : Nat} {cs : Array Value} {T : TypeId} {u : Value} (h : w.heap[c]? = some (.cells cs T (0, 0))) :
    (w.setCell ⟨c, j, none⟩ u).heap[c]? = some (.cells (cs.setIfInBounds j u) T (0, 0)) ∧ w.grownBy (w.setCell ⟨c, j, none⟩ u) (some c) :=
  ⟨heap_setCell_same w c j cs T u h, ⟨rfl, rfl, rfl, by simp, fun k _ hk => heap_setCell_other w ⟨c, j, none⟩ k u (fun e => hk (by simp [e]))⟩⟩

theorem grown_trans {a b c : World} {row : Option Nat} (h : a.grownBy b row) (k : b.grownBy c row) : a.grownBy c row :=
  ⟨k.os.trans h.os, k.tape.trans h.tape, k.output.trans h.output, Nat.le_trans h.size k.size, fun i hi hne => (k.block i (Nat.lt_of_lt_of_le hi h.size) hne).trans (h.block i hi hne)⟩

theorem info_u8 : (Tryz.prog.info? 5).map (fun i => (i.zero, i.size, i.bytes)) = some (some (.int .u8 0), 1, 1) := by kernel_rfl

theorem below_of {w w' : World} {c B : Nat} (h : w.grownBy w' (some c)) (hB : B ≤ c) (hc : c < w.heap.size) : Below B w w' :=
  ⟨h.os, h.tape, h.output, h.size, fun k hk => h.block k (by omega) (by intro q; injection q with q; omega)⟩

theorem low8 (x : Int) : ∃ n : Nat, bits .and .i64 x 255 = (n : Int) ∧ n < 256 := by
  have h : bits .and .i64 x 255 = IntKind.i64.wrap (((BitVec.ofInt 64 x &&& BitVec.ofInt 64 255).toNat : Nat) : Int) := rfl
  have hb : (BitVec.ofInt 64 x &&& BitVec.ofInt 64 255).toNat < 256 := by
    rw [BitVec.toNat_and]
    have : (BitVec.ofInt 64 255).toNat = 255 := by decide
    rw [this]
    exact Nat.lt_of_le_of_lt Nat.and_le_right (by decide)
  refine ⟨_, ?_, hb⟩
  rw [h, IntKind.wrap_i64]
  omega

set_option maxRecDepth 100000 in
set_option maxHeartbeats 800000 in
theorem byte_any (c : Nat) (v : Value) (l : List UInt8) (B : Nat) (w : World) (hc : Cur w c v l) (hr : Reads w v l B) (hB : B ≤ c) :
    Calls Tryz.prog 82 #[.pointer (some ⟨c, 0, none⟩)] w fun e w' => ∃ x : Nat, e = .returned (.int .i64 x) ∧ x < 256 ∧ Cur w' c v l ∧ w.grownBy w' (some c) := by
  obtain ⟨i, h, hi, hh⟩ := hc
  obtain ⟨a, cap, rfl, hl, hcase⟩ := hr
  have c0 := cell_of_row w c 0 _ _ _ hh
  have c1 := cell_of_row w c 1 _ _ _ hh
  have c2 := cell_of_row w c 2 _ _ _ hh
  have f1 := frozen_of_row w c 1 _ _ hh
  have f2 := frozen_of_row w c 2 _ _ hh
  simp only [List.getElem?_toArray, List.getElem?_cons_zero, List.getElem?_cons_succ] at c0 c1 c2
  by_cases hlt : i < l.length
  · rcases hcase with hnil | ⟨b, off, rfl, hbB, hcell⟩
    · subst hnil; simp at hlt
    have cb := hcell i hlt
    go_enter Tryz.func82, Tryz.ntmps82
    go_wp2
    generalize wrap64 (wrap64 (h * 6364136223846793005) + 1442695040888963407) = h1
    obtain ⟨hh1, g1⟩ := cur_set (j := 2) (u := .int .i64 h1) hh
    have cb1 := (g1.cell cb (by intro q; injection q with q; simp only at q; omega))
    generalize w.setCell ⟨c, 2, none⟩ (.int .i64 h1) = w1 at *
    have G1 := Lib.hid g1
    clear g1 c0 c1 c2 f1 f2 cb hh hcell
    have c0 := cell_of_row w1 c 0 _ _ _ hh1
    have c1 := cell_of_row w1 c 1 _ _ _ hh1
    have c2 := cell_of_row w1 c 2 _ _ _ hh1
    have f1 := frozen_of_row w1 c 1 _ _ hh1
    simp only [List.setIfInBounds_toArray, List.set_cons_succ, List.set_cons_zero, List.getElem?_toArray, List.getElem?_cons_zero, List.getElem?_cons_succ] at c0 c1 c2
    have HH := Lib.hid hh1
    clear hh1
    go_quiet (fail)
    go_wp2
    obtain ⟨x, hx, hx256⟩ := low8 (bits BinOp.xor IntKind.i64 (h1 / 8589934592) (h1 / 35184372088832))
    rw [hx]
    clear hx
    have p1 : (0 : Int) ≤ (i : Int) := by omega
    have p2 : (i : Int) < (l.length : Int) := by omega
    go_quiet (fail)
    go_wp2
    go_quiet (fail)
    go_wp2
    go_ret
    obtain ⟨y, hy, hy2⟩ := low8 (wrap64 ((x : Int) + wrap64 (l[i].toNat : Int)))
    refine ⟨y, ret_int hy, hy2, ?_, ?_⟩
    · refine ⟨i + 1, h1, hlt, ?_⟩
      have := (cur_set (j := 1) (u := .int .i64 ((i : Int) + 1)) HH.out).1
      show (w1.setCell _ _).heap[c]? = _
      simpa using this
    · have k := (cur_set (j := 1) (u := .int .i64 ((i : Int) + 1)) HH.out).2
      exact grown_trans G1.out ⟨k.os, k.tape, k.output, k.size, k.block⟩
  · go_enter Tryz.func82, Tryz.ntmps82
    go_wp2
    generalize wrap64 (wrap64 (h * 6364136223846793005) + 1442695040888963407) = h1
    obtain ⟨hh1, g1⟩ := cur_set (j := 2) (u := .int .i64 h1) hh
    generalize w.setCell ⟨c, 2, none⟩ (.int .i64 h1) = w1 at *
    have G1 := Lib.hid g1
    clear g1 c0 c1 c2 f1 f2 hh hcase
    have c0 := cell_of_row w1 c 0 _ _ _ hh1
    have c1 := cell_of_row w1 c 1 _ _ _ hh1
    have c2 := cell_of_row w1 c 2 _ _ _ hh1
    simp only [List.setIfInBounds_toArray, List.set_cons_succ, List.set_cons_zero, List.getElem?_toArray, List.getElem?_cons_zero, List.getElem?_cons_succ] at c0 c1 c2
    have HH := Lib.hid hh1
    clear hh1
    go_quiet (fail)
    go_wp2
    obtain ⟨x, hx, hx256⟩ := low8 (bits BinOp.xor IntKind.i64 (h1 / 8589934592) (h1 / 35184372088832))
    rw [hx]
    clear hx
    go_quiet (fail)
    go_wp2
    go_ret
    refine ⟨x, rfl, hx256, ⟨i, h1, hi, ?_⟩, ?_⟩
    · have := HH.out
      simpa using this
    · exact grown_trans G1.out ⟨rfl, rfl, rfl, Nat.le_refl _, fun _ _ _ => rfl⟩

set_option maxRecDepth 100000 in
set_option maxHeartbeats 800000 in
/-- A draw below n: from 0 to n - 1; 0 where n is not positive. -/
theorem below_any (n : Int) (c : Nat) (v : Value) (l : List UInt8) (B : Nat) (w : World) (hc : Cur w c v l) (hr : Reads w v l B) (hB : B ≤ c) :
    Calls Tryz.prog 64 #[.pointer (some ⟨c, 0, none⟩), .int .i64 n] w fun e w' => ∃ x : Int, e = .returned (.int .i64 x) ∧ 0 ≤ x ∧ (0 < n → x < n) ∧ Cur w' c v l ∧ w.grownBy w' (some c) := by
  by_cases h0 : n ≤ 0
  · go_enter Tryz.func64, Tryz.ntmps64
    go_wp2
    go_ret
    exact ⟨0, rfl, Int.le_refl _, fun h => by omega, hc, ⟨rfl, rfl, rfl, Nat.le_refl _, fun _ _ _ => rfl⟩⟩
  · have hnp : 0 < n := by omega
    by_cases h256 : n ≤ 256
    · have hby := Lib.hid (byte_any c v l B w hc hr hB)
      go_enter Tryz.func64, Tryz.ntmps64
      go_wp2_with (go_at_call 82; refine hby.out.mono ?_; rintro e w1 ⟨x, rfl, hx, hc1, hg1⟩)
      go_ret
      exact ⟨(x : Int) % n, rfl, Int.emod_nonneg _ (by omega), fun _ => Int.emod_lt_of_pos _ hnp, hc1, hg1⟩
    · go_enter Tryz.func64, Tryz.ntmps64
      go_wp2_with fail
      refine (byte_any c v l B w hc hr hB).mono ?_
      rintro e w1 ⟨x1, rfl, hx1, hc1, hg1⟩
      have hr1 := hr.later (below_of hg1 hB (cur_size hc))
      go_wp2_with fail
      refine (byte_any c v l B w1 hc1 hr1 hB).mono ?_
      rintro e w2 ⟨x2, rfl, hx2, hc2, hg2⟩
      have hr2 := hr1.later (below_of hg2 hB (cur_size hc1))
      go_wp2_with fail
      refine (byte_any c v l B w2 hc2 hr2 hB).mono ?_
      rintro e w3 ⟨x3, rfl, hx3, hc3, hg3⟩
      have hr3 := hr2.later (below_of hg3 hB (cur_size hc2))
      go_wp2_with fail
      refine (byte_any c v l B w3 hc3 hr3 hB).mono ?_
      rintro e w4 ⟨x4, rfl, hx4, hc4, hg4⟩
      go_wp2_with fail
      go_ret
      exact ⟨_, rfl, Int.emod_nonneg _ (by omega), fun _ => Int.emod_lt_of_pos _ hnp, hc4, grown_trans (grown_trans (grown_trans hg1 hg2) hg3) hg4⟩

theorem grown_refl (w : World) (row : Option Nat) : w.grownBy w row := ⟨rfl, rfl, rfl, Nat.le_refl _, fun _ _ _ => rfl⟩

set_option maxRecDepth 100000 in
set_option maxHeartbeats 800000 in
/-- A new cursor. -/
theorem new_any (v : Value) (l : List UInt8) (B : Nat) (w : World) (hr : Reads w v l B) :
    Calls Tryz.prog 33 #[v] w fun e w' => e = .returned (.pointer (some ⟨w.heap.size, 0, none⟩)) ∧ Cur w' w.heap.size v l ∧ w.grownBy w' none := by
  obtain ⟨a, cap, rfl, hl, hcase⟩ := hr
  go_enter Tryz.func33, Tryz.ntmps33
  go_wp2
  go_loop [3, 4] (fun h i => ∃ (k : Nat) (x : Int), k ≤ l.length ∧ i = .int .i64 k ∧ h = .int .i64 x) (fun _ i => l.length - (intOf i).toNat)
  case atStart => exact ⟨0, _, Nat.zero_le _, rfl, rfl⟩
  case round =>
    obtain ⟨k, x, hk, rfl, rfl⟩ := hrel
    by_cases hlt : k < l.length
    · rcases hcase with hnil | ⟨b, off, rfl, hbB, hcell⟩
      · subst hnil; simp at hlt
      have cb := hcell k hlt
      clear hcell
      by_cases h4 : k < 4000
      · go_wp2
        go_round
        case rel => exact ⟨k + 1, _, by omega, by go_num, rfl⟩
        case measure => simp [intOf]; omega
      · go_wp2
        go_ret
        refine ⟨rfl, ⟨0, x, Nat.zero_le _, ?_⟩, World.grownBy_alloc _ _ _⟩
        exact heap_alloc_new w _
    · clear hcase
      go_wp2
      all_goals go_ret
      all_goals refine ⟨rfl, ⟨0, x, Nat.zero_le _, ?_⟩, World.grownBy_alloc _ _ _⟩
      all_goals exact heap_alloc_new w _

set_option maxRecDepth 100000 in
set_option maxHeartbeats 800000 in
/-- One of the listed numbers. -/
theorem pick_any (zs : List Int) (b : Nat) (hzl : 0 < zs.length) (hz64 : zs.length ≤ 100000) (c : Nat) (v : Value) (l : List UInt8) (B : Nat) (w : World) (hc : Cur w c v l) (hr : Reads w v l B) (hB : B ≤ c)
    (hbc : b ≠ c) (hzs : ∀ t, t < zs.length → w.cell? ⟨b, t, none⟩ = some (.int .i64 (zs.getD t 0))) :
    Calls Tryz.prog 81 #[.pointer (some ⟨c, 0, none⟩), .slice (some ⟨b, 0, none⟩) zs.length zs.length] w fun e w' =>
      ∃ t, t < zs.length ∧ e = .returned (.int .i64 (zs.getD t 0)) ∧ Cur w' c v l ∧ w.grownBy w' (some c) := by
  have hby := Lib.hid (below_any zs.length c v l B w hc hr hB)
  have Hzs := Lib.hid hzs
  clear hzs
  go_enter Tryz.func81, Tryz.ntmps81
  go_wp2_with fail
  refine hby.out.mono ?_
  rintro e w1 ⟨x, rfl, hx0, hxn, hc1, hg1⟩
  obtain ⟨t, rfl⟩ := Int.eq_ofNat_of_zero_le hx0
  have hxn' := hxn (by omega)
  have ht : t < zs.length := by omega
  have hcell := hg1.cell (Hzs.out t ht) (by intro q; injection q with q; simp only at q; omega)
  clear hxn hxn'
  go_wp2_with fail
  go_ret
  exact ⟨t, ht, ret_int (by simp [ht]), hc1, hg1⟩

/-- The numbers that the laws draw from. -/
def nums : List Int := [-1, 0, 127, 128, 255, 256, 16383, 16384, 65535, 65536, 562949953421311, 562949953421312, 999999999, 1000000000, -999999999, 9223372036854775807, -9223372036854775808]
theorem nums_ok : ∀ t : Fin 17, -9223372036854775808 ≤ nums.getD t.val 0 ∧ nums.getD t.val 0 ≤ 9223372036854775807 := by decide

theorem nums_cells : ∀ t : Fin 17, (#[.int .i64 (-1), .int .i64 0, .int .i64 127, .int .i64 128, .int .i64 255, .int .i64 256, .int .i64 16383, .int .i64 16384, .int .i64 65535, .int .i64 65536, .int .i64 562949953421311, .int .i64 562949953421312, .int .i64 999999999, .int .i64 1000000000, .int .i64 (-999999999), .int .i64 9223372036854775807, .int .i64 (-9223372036854775808)] : Array Value)[t.val]? = some (.int .i64 (nums.getD t.val 0)) := by
  intro t
  obtain ⟨t, ht⟩ := t
  rcases (show t = 0 ∨ t = 1 ∨ t = 2 ∨ t = 3 ∨ t = 4 ∨ t = 5 ∨ t = 6 ∨ t = 7 ∨ t = 8 ∨ t = 9 ∨ t = 10 ∨ t = 11 ∨ t = 12 ∨ t = 13 ∨ t = 14 ∨ t = 15 ∨ t = 16 by omega) with rfl | rfl | rfl | rfl | rfl | rfl | rfl | rfl | rfl | rfl | rfl | rfl | rfl | rfl | rfl | rfl | rfl <;> rfl

theorem wrap_ok (x : Int) : -9223372036854775808 ≤ wrap64 x ∧ wrap64 x ≤ 9223372036854775807 := by
  unfold wrap64
  omega


theorem own_kept {w w' : World} {base c : Nat} {e : TypeId} {v : Value} {l : List UInt8} (h : Own w base e v l) (hg : w.grownBy w' (some c)) (hc : c < base) : Own w' base e v l := by
  refine World.ownsRow.kept h hg ?_
  cases hv : v.ownBlock with
  | none => exact .inl rfl
  | some k =>
    refine .inr ?_
    have := World.ownsRow.lt h k hv
    intro q
    injection q with q
    omega

theorem grown_own {w w1 w2 : World} {c : Nat} (h : w.grownBy w1 (some c)) (hb : Below w.heap.size w1 w2) : w.grownBy w2 (some c) :=
  ⟨hb.os.trans h.os, hb.tape.trans h.tape, hb.output.trans h.output, Nat.le_trans h.size hb.size, fun k hk hne => (hb.block k hk).trans (h.block k hk hne)⟩

theorem cur_below {w w' : World} {B c : Nat} {v : Value} {l : List UInt8} (h : Cur w c v l) (hb : Below B w w') (hc : c < B) : Cur w' c v l := by
  obtain ⟨i, x, hi, hh⟩ := h
  exact ⟨i, x, hi, by rw [hb.block c hc]; exact hh⟩


/-- An argument of type []byte. -/
theorem reads_of {H : Type} {enc : TypeId × Value → H} {P : Program} {W : World} {base : Nat} {t e : TypeId} {v : Value} {d : DataW H} {ps : List MemPlace} (ht : P.underlying t = some (.slice e)) (he : P.underlying e = some (.int .u8)) (hc : P.cellsOf e = 1)
    (hval : Value.okWide P W .any base t v) (hd : DataW.Trod enc P W 0 (fun _ => true) true t v d ps) : ∃ l, Reads W v l W.heap.size := by
  obtain ⟨a, len, cap, rfl⟩ := Go.WideShapes.okWide_slice ht hval
  obtain ⟨fuel, hf⟩ := hd
  rcases Go.ChangeShapes.open_ints ht he hc hf with ⟨hcs, _⟩ | ⟨ad, len', cap', zs, hcs, _, hl, hm, hz, _, hcell, hwz⟩
  · simp [Value.cells] at hcs
    obtain ⟨rfl, rfl, rfl⟩ := hcs
    exact ⟨[], none, 0, rfl, by simp, .inl rfl⟩
  · simp [Value.cells] at hcs
    obtain ⟨rfl, rfl, rfl⟩ := hcs
    simp only [if_true] at hz
    have hml : len ≤ 9223372036854775807 := by unfold maxLen at hm; omega
    have hlen : ((zs.take len).map fun z => UInt8.ofNat z.toNat).length = len := by simp; omega
    refine ⟨(zs.take len).map fun z => UInt8.ofNat z.toNat, some ad, cap, by rw [hlen], by rw [hlen]; exact hml, ?_⟩
    by_cases h0 : len = 0
    · subst h0
      exact .inl rfl
    · have hspot : ad.spot = none := by simpa [Addr.add] using World.cell?_spot (hcell 0 (by omega))
      have hblk : ad.block < W.heap.size := by simpa [Addr.add] using World.block_lt_of_cell? W _ (hcell 0 (by omega))
      obtain ⟨b, off, sp⟩ := ad
      simp only at hspot hblk
      subst hspot
      refine .inr ⟨b, off, rfl, hblk, fun t ht' => ?_⟩
      rw [hlen] at ht'
      have h1 := hcell t (by omega)
      have ha : (⟨b, off, none⟩ : Addr).add t = ⟨b, off + t, none⟩ := by unfold Addr.add; split <;> simp_all
      rw [ha] at h1
      rw [h1]
      have hzt : zs.getD t 0 = zs[t]'(by omega) := by simp [List.getD, show t < zs.length by omega]
      have hw := hwz _ (List.getElem_mem (show t < zs.length by omega))
      rw [hzt]
      simp only [List.getElem_map, List.getElem_take]
      simp [Lit.wf, IntKind.min, IntKind.max, IntKind.signed, IntKind.bits] at hw
      congr 2
      simp
      omega




theorem big_any (v : Value) (l : List UInt8) (B : Nat) (w : World) (hr : Reads w v l B) :
    Calls Tryz.prog 4 #[v] w fun e w' => e = .returned (.bool (decide (1048576 < l.length))) ∧ w = w' := by
  obtain ⟨a, cap, rfl, hl, _⟩ := hr
  go_enter Tryz.func4, Tryz.ntmps4
  go_wp2
  go_ret
  exact ⟨by simp; omega, rfl⟩
end Go.Proofs.YtinchhahcheadaaGreat.Draw

namespace Go.Proofs.YtinchhahcheadaaGreat.LocDraw
open Go Go.RowKit Byt Ints IntsLaw IntsWalk Draw

theorem owni_kept {w w' : World} {base c : Nat} {e : TypeId} {u : Value} {l : List Int} (h : OwnI w base e u l) (hg : w.grownBy w' (some c)) (hc : c < base) : OwnI w' base e u l := by
  refine World.ownsRow.kept h hg ?_
  cases hv : u.ownBlock with
  | none => exact .inl rfl
  | some k =>
    refine .inr ?_
    have := World.ownsRow.lt h k hv
    intro q
    injection q with q
    omega
theorem owni_far {w : World} {base g1 n cap : Nat} {e : TypeId} {l : List Int} {p : Addr} (u : Value) (h : OwnI w base e (.slice (some ⟨g1, 0, none⟩) n cap) l) (hp : g1 ≠ p.block) : OwnI (w.setCell p u) base e (.slice (some ⟨g1, 0, none⟩) n cap) l :=
  World.ownsRow.kept (row := some p.block) h ⟨rfl, rfl, rfl, by simp, fun i _ hne => heap_setCell_other w p i u (by intro q; exact hne (by rw [q]))⟩ (.inr (by simpa [Value.ownBlock] using hp))
theorem wrap_inr (x : Int) : -9223372036854775808 ≤ (if 0 < IntKind.i64.wrap x then IntKind.i64.wrap x else 0) ∧ (if 0 < IntKind.i64.wrap x then IntKind.i64.wrap x else 0) ≤ 9223372036854775807 := by
  rw [IntKind.wrap_i64]
  split <;> omega
theorem list_cellsI (zs : List Int) (w : World) (T : TypeId) : ∀ t, t < zs.length → (w.alloc (.cells (zs.map fun z => Value.int .i64 z).toArray T (0, 0))).cell? ⟨w.heap.size, t, none⟩ = some (.int .i64 (zs.getD t 0)) := by
  intro t ht
  rw [World.cell?_alloc_mark]
  simp [ht]
theorem cur_allocI {w : World} {c : Nat} {v : Value} {l : List UInt8} (o : Obj) (h : Cur w c v l) : Cur (w.alloc o) c v l :=
  h.kept (World.grownBy_alloc w o none) (by intro q; cases q)
theorem grown_allocI {w w' : World} {c : Nat} (o : Obj) (h : w.grownBy w' (some c)) : w.grownBy (w'.alloc o) (some c) :=
  grown_trans h (World.grownBy_alloc w' o (some c))
theorem cur_farI {w : World} {c : Nat} {v : Value} {l : List UInt8} {p : Addr} (u : Value) (h : Cur w c v l) (hp : c ≠ p.block) : Cur (w.setCell p u) c v l := by
  obtain ⟨i, x, hi, hh⟩ := h
  exact ⟨i, x, hi, by rw [heap_setCell_other w p c u hp]; exact hh⟩
theorem grown_newI {w w' : World} {c : Nat} {p : Addr} (u : Value) (h : w.grownBy w' (some c)) (hp : w.heap.size ≤ p.block) : w.grownBy (w'.setCell p u) (some c) :=
  ⟨h.os, h.tape, h.output, by show _ ≤ (w'.setCell p u).heap.size; simp; exact h.size, fun k hk hne => (heap_setCell_other w' p k u (by omega)).trans (h.block k hk hne)⟩
theorem inr_set {l : List Int} (h : InR l) (j : Nat) {x : Int} (hx : -9223372036854775808 ≤ x ∧ x ≤ 9223372036854775807) : InR (l.set j x) := fun y hy => by
  rcases List.mem_or_eq_of_mem_set hy with q | q
  · exact h y q
  · rw [q]; exact hx
theorem inr_snoc {l : List Int} (h : InR l) {x : Int} (hx : -9223372036854775808 ≤ x ∧ x ≤ 9223372036854775807) : InR (l ++ [x]) := fun y hy => by
  rcases List.mem_append.1 hy with q | q
  · exact h y q
  · rw [List.mem_singleton.1 q]; exact hx

theorem form_some {w : World} {base : Nat} {e : TypeId} {o : Value} {ls : List Int} {G n : Nat} (h : OwnI w base e o ls) (hn : ls = [] → o = .slice (some ⟨G, 0, none⟩) 0 0) (hlen : ls.length = n) : ∃ g cap, o = .slice (some ⟨g, 0, none⟩) n cap := by
  subst hlen
  rcases h.form with ⟨_, h2⟩ | ⟨g, cap, h1, _⟩
  · have := hn h2
    subst h2
    exact ⟨G, 0, this⟩
  · exact ⟨g, cap, h1⟩

theorem once_anyI (n : Int) (c : Nat) (v : Value) (l : List UInt8) (B : Nat) (w : World) (hc : Cur w c v l) (hr : Reads w v l B) (hB : B ≤ c) :
    Calls Tryz.prog 75 #[.pointer (some ⟨c, 0, none⟩), .int .i64 n] w fun e w' => ∃ b : Bool, e = .returned (.bool b) ∧ Cur w' c v l ∧ w.grownBy w' (some c) := by
  have hby := Lib.hid (below_any n c v l B w hc hr hB)
  go_enter Tryz.func75, Tryz.ntmps75
  go_wp2_with fail
  refine hby.out.mono ?_
  rintro e w1 ⟨x, rfl, hx0, hx1, hc1, hg1⟩
  go_wp2_with fail
  go_ret
  exact ⟨x == 0, rfl, hc1, hg1⟩

def zl : List Int := [-1, 7, 8, 1000]
theorem zl_ok : ∀ t : Fin 4, -9223372036854775808 ≤ zl.getD t.val 0 ∧ zl.getD t.val 0 ≤ 9223372036854775807 := by decide


def zs15 : List Int := [-1, 0, 1, 2, 4, 5, 16, 17, 64, 1024, 1025, 4096, 4097, 9223372036854775807, -9223372036854775808]
theorem zs15_ok : ∀ t : Fin 15, -9223372036854775808 ≤ zs15.getD t.val 0 ∧ zs15.getD t.val 0 ≤ 9223372036854775807 := by decide
def zs4 : List Int := [0, 1, 4, 8]
theorem zs4_ok : ∀ t : Fin 4, 0 ≤ zs4.getD t.val 0 ∧ zs4.getD t.val 0 ≤ 8 := by decide


end Go.Proofs.YtinchhahcheadaaGreat.LocDraw

namespace Go.Proofs.YtinchhahcheadaaGreat.TabDraw
open Go Go.RowKit Byt Ints IntsLaw IntsWalk Draw LocDraw Cd Rows2 Tab TabSpec

theorem list_cellsS (zs : List ByteArray) (w : World) (T : TypeId) : ∀ t, t < zs.length → (w.alloc (.cells (zs.map fun z => Value.string z).toArray T (0, 0))).cell? ⟨w.heap.size, t, none⟩ = some (.string (zs.getD t ⟨#[]⟩)) := by
  intro t ht
  rw [World.cell?_alloc_mark]
  simp [ht]

set_option maxRecDepth 100000 in
set_option maxHeartbeats 800000 in
theorem pickS_any (zs : List ByteArray) (b : Nat) (hzl : 0 < zs.length) (hz64 : zs.length ≤ 100000) (c : Nat) (v : Value) (l : List UInt8) (B : Nat) (w : World) (hc : Cur w c v l) (hr : Reads w v l B) (hB : B ≤ c)
    (hbc : b ≠ c) (hzs : ∀ t, t < zs.length → w.cell? ⟨b, t, none⟩ = some (.string (zs.getD t ⟨#[]⟩))) :
    Calls Tryz.prog 67 #[.pointer (some ⟨c, 0, none⟩), .slice (some ⟨b, 0, none⟩) zs.length zs.length] w fun e w' =>
      ∃ t, t < zs.length ∧ e = .returned (.string (zs.getD t ⟨#[]⟩)) ∧ Cur w' c v l ∧ w.grownBy w' (some c) := by
  have hby := Lib.hid (below_any zs.length c v l B w hc hr hB)
  have Hzs := Lib.hid hzs
  clear hzs
  go_enter Tryz.func67, Tryz.ntmps67
  go_wp2_with fail
  refine hby.out.mono ?_
  rintro e w1 ⟨x, rfl, hx0, hxn, hc1, hg1⟩
  obtain ⟨t, rfl⟩ := Int.eq_ofNat_of_zero_le hx0
  have hxn' := hxn (by omega)
  have ht : t < zs.length := by omega
  have hcell := hg1.cell (Hzs.out t ht) (by intro q; injection q with q; simp only at q; omega)
  clear hxn hxn'
  generalize hq : zs.getD t ⟨#[]⟩ = z at *
  have HQ := Lib.hid hq
  clear hq
  go_wp2_with fail
  go_ret
  exact ⟨t, ht, by rw [HQ.out]; rfl, hc1, hg1⟩

def zl3 : List Int := [0, -1, 10]
theorem zl3_ok : ∀ t : Fin 3, -9223372036854775808 ≤ zl3.getD t.val 0 ∧ zl3.getD t.val 0 ≤ 9223372036854775807 := by decide

set_option maxRecDepth 100000 in
set_option maxHeartbeats 1600000 in
theorem some_any (n : Nat) (hn : n ≤ 20) (c : Nat) (v : Value) (l : List UInt8) (B : Nat) (w : World) (hc : Cur w c v l) (hr : Reads w v l B) (hB : B ≤ c) :
    Calls Tryz.prog 76 #[.pointer (some ⟨c, 0, none⟩), .int .i64 n] w fun e w' => ∃ (u : Value) (ls : List Int), e = .returned u ∧ OwnI w' w.heap.size 3 u ls ∧ ls.length ≤ n + 1 ∧ InR ls ∧ Cur w' c v l ∧ w.grownBy w' (some c) := by
  have hcs := cur_size hc
  have HR := Lib.hid (fun w' (hg : w.grownBy w' (some c)) => hr.later (below_of hg hB hcs))
  have HA := Lib.hid (And.intro (OwnI.empty w w.heap.size 3 (Nat.le_refl _)) (And.intro (cur_allocI (.cells #[] 3) hc) (World.grownBy_alloc w (.cells #[] 3) (some c))))
  clear hc hr
  go_enter Tryz.func76, Tryz.ntmps76
  go_wp2_with fail
  go_loopw [5, 6] (fun o i wr => ∃ (k : Nat) (ls : List Int), k ≤ n ∧ i = .int .i64 k ∧ OwnI wr w.heap.size 3 o ls ∧ ls.length = k ∧ InR ls ∧ Cur wr c v l ∧ w.grownBy wr (some c)) (fun _ i _ => n - (intOf i).toNat)
  case atStart => exact ⟨0, [], Nat.zero_le _, rfl, HA.out.1, rfl, (fun x hx => by cases hx), HA.out.2.1, HA.out.2.2⟩
  case round =>
    obtain ⟨k, ls, hk, rfl, hown, hlen, hin, hc1, hg1⟩ := hrel
    by_cases hlt : k < n
    · have HB := Lib.hid (below_any 4 c v l B wr hc1 (HR.out wr hg1) hB)
      have HG1 := Lib.hid hg1
      have HO := Lib.hid hown
      have HIN := Lib.hid hin
      have hs1 := hg1.size
      clear hc1 hg1 hown hin
      go_wp2_with fail
      refine HB.out.mono ?_
      rintro e w2 ⟨x, rfl, hx0, hx5, hc2, hg2⟩
      have hx := hx5 (by decide)
      have hown2 := owni_kept HO.out hg2 hcs
      have HG2 := Lib.hid (grown_trans HG1.out hg2)
      have HC2 := Lib.hid hc2
      have hs2 : w.heap.size ≤ w2.heap.size := HG2.out.size
      have hl2 : ls.length + 1 ≤ 1000000000000 := by omega
      have HIN2 := Lib.hid (inr_snoc HIN.out (x := x) ⟨by omega, by omega⟩)
      clear hg2 hc2 hx5
      go_wp2_with (at_builtin; refine wp_appendI rfl (.tmp 13) (.tmp 16) 27 rfl w.heap.size 3 Tryz.underlying27 info_i64 _ ls rfl hown2 _ rfl hl2 hs2 ?_)
      intro v' w5 hown5 hb5
      go_wp2_with fail
      go_roundw
      case rel => exact ⟨k + 1, _, by omega, by go_num, hown5, by rw [List.length_append, hlen]; rfl, HIN2.out, cur_below HC2.out hb5 hcs, grown_own HG2.out hb5⟩
      case measure => simp [intOf]; omega
    · have ek : k = n := by omega
      subst ek
      have HON := Lib.hid (once_anyI 10 c v l B wr hc1 (HR.out wr hg1) hB)
      have HG1 := Lib.hid hg1
      have HO := Lib.hid hown
      have HIN := Lib.hid hin
      clear hc1 hg1 hown hin
      go_wp2_with fail
      refine HON.out.mono ?_
      rintro e w2 ⟨b, rfl, hc2, hg2⟩
      have HO2 := Lib.hid (owni_kept HO.out hg2 hcs)
      have HG2 := Lib.hid (grown_trans HG1.out hg2)
      have HC2 := Lib.hid hc2
      have hs2 : w.heap.size ≤ w2.heap.size := HG2.out.size
      clear hg2 hc2 HON
      cases b
      · go_wp2_with fail
        go_ret
        exact ⟨_, ls, rfl, HO2.out, by omega, HIN.out, HC2.out, HG2.out⟩
      · have hc4 := cur_allocI (.cells (zl3.map fun z => Value.int .i64 z).toArray 3) HC2.out
        have G4 := Lib.hid (grown_allocI (.cells (zl3.map fun z => Value.int .i64 z).toArray 3) HG2.out)
        have HP := Lib.hid (pick_any zl3 w2.heap.size (by decide) (by decide) c v l B _ hc4 (HR.out _ G4.out) hB (by omega) (list_cellsI zl3 w2 3))
        have HO4 := Lib.hid (HO2.out.alloc (.cells (zl3.map fun z => Value.int .i64 z).toArray 3))
        clear hc4
        go_wp2_with fail
        refine HP.out.mono ?_
        rintro e w5 ⟨t, ht, rfl, hc5, hg5⟩
        have hz := zl3_ok ⟨t, ht⟩
        simp only at hz
        generalize zl3.getD t 0 = z at *
        have hown5 := owni_kept HO4.out hg5 hcs
        have HG5 := Lib.hid (grown_trans G4.out hg5)
        have HC5 := Lib.hid hc5
        have hs5 : w.heap.size ≤ w5.heap.size := HG5.out.size
        have hl5 : ls.length + 1 ≤ 1000000000000 := by omega
        have HIN5 := Lib.hid (inr_snoc HIN.out (x := z) hz)
        clear hg5 hc5 HP
        go_wp2_with (at_builtin; refine wp_appendI rfl (.tmp 20) (.tmp 24) 27 rfl w.heap.size 3 Tryz.underlying27 info_i64 _ ls rfl hown5 _ rfl hl5 hs5 ?_)
        intro v' w7 hown7 hb7
        go_wp2_with fail
        go_ret
        exact ⟨_, _, rfl, hown7, by rw [List.length_append, hlen]; exact Nat.le_refl _, HIN5.out, cur_below HC5.out hb7 hcs, grown_own HG5.out hb7⟩
theorem grown_below {w w' : World} (h : Below w.heap.size w w') (r : Option Nat) : w.grownBy w' r := ⟨h.os, h.tape, h.output, h.size, fun k hk _ => h.block k hk⟩
theorem loc_grown {w w' : World} {X c : Nat} {a b d : Value} (h : Loc3 w X a b d) (hg : w.grownBy w' (some c)) (hn : X ≠ c) : Loc3 w' X a b d :=
  h.keep (hg.block X h.lt (by intro q; injection q with q; exact hn q))
theorem ow_grown {α : Type} {cd : Cd α} {w w' : World} {base c : Nat} {us : List Value} {a : α} {fp : List Nat} (h : cd.ow w base us a fp) (hg : w.grownBy w' (some c)) (hc : c < base) : cd.ow w' base us a fp :=
  cd.ow_keep h fun b hb => hg.block b (cd.ow_lt h b hb).2 (by intro q; injection q with q; have := (cd.ow_lt h b hb).1; omega)

/-- A drawn table of at most M rows. -/
def TabGen (M : Nat) (w : World) (c : Nat) (v : Value) (l : List UInt8) (nm : ByteArray) (ar : Int) (e : Ending) (w' : World) : Prop :=
  ∃ (u : Value) (rows : List (List Int)) (fp : List Nat), e = .returned (.agg #[.string nm, .int .i64 ar, u]) ∧ rowsC.ow w' w.heap.size [u] rows fp ∧ fp.Nodup ∧ rowsWt rows ≤ 4 * M ∧ Cur w' c v l ∧ w.grownBy w' (some c)
/-- A drawn table. -/
def TabAns (w : World) (c : Nat) (v : Value) (l : List UInt8) (nm : ByteArray) (ar : Int) (e : Ending) (w' : World) : Prop :=
  ∃ (u : Value) (rows : List (List Int)) (fp : List Nat), e = .returned (.agg #[.string nm, .int .i64 ar, u]) ∧ rowsC.ow w' w.heap.size [u] rows fp ∧ fp.Nodup ∧ rowsWt rows ≤ 24 ∧ Cur w' c v l ∧ w.grownBy w' (some c)

set_option maxRecDepth 100000 in
set_option maxHeartbeats 3200000 in
theorem tab_gen (M V : Nat) (hM : M ≤ 8) (hV : 0 < V ∧ V ≤ 6) (nm : ByteArray) (ar : Nat) (har : ar ≤ 3) (c : Nat) (v : Value) (l : List UInt8) (B : Nat) (w : World) (hc : Cur w c v l) (hr : Reads w v l B) (hB : B ≤ c) :
    Calls Tryz.prog 66 #[.pointer (some ⟨c, 0, none⟩), .string nm, .int .i64 ar, .int .i64 M, .int .i64 V] w (TabGen M w c v l nm ar) := by
  have hM8 : (M : Int) ≤ 8 := by omega
  obtain ⟨hV0, hV6⟩ := hV
  have hV8 : (V : Int) ≤ 6 := by omega
  have hV9 : (0 : Int) < (V : Int) := by omega
  have hcs := cur_size hc
  have HR := Lib.hid (fun w' (hg : w.grownBy w' (some c)) => hr.later (below_of hg hB hcs))
  have HC := Lib.hid hc
  clear hc hr
  go_enter Tryz.func66, Tryz.ntmps66
  go_wp2_with fail
  generalize hW : (w.alloc _).alloc _ = W
  obtain ⟨r0, r1, hz, hb0⟩ := start2g w _ _ hW
  clear hW
  have hg0 := grown_below hb0 (some c)
  have hc0 := cur_below HC.out hb0 hcs
  have HG0 := Lib.hid hg0
  have HX0 := Lib.hid (And.intro (Loc3.of r0) (Loc3.of r1))
  have HB0 := Lib.hid (below_any ((M : Int) + 1) c v l B W hc0 (HR.out W hg0) hB)
  clear r0 r1 hb0 hg0 hc0
  refine HB0.out.mono ?_
  rintro e w2 ⟨x, rfl, hx0, hx7, hc2, hg2⟩
  obtain ⟨m0, rfl⟩ := Int.eq_ofNat_of_zero_le hx0
  have hm0 : m0 ≤ M := by have := hx7 (by omega); omega
  have HX2 := Lib.hid (And.intro (loc_grown HX0.out.1 hg2 (by omega)) (loc_grown HX0.out.2 hg2 (by omega)))
  have HZ2 := Lib.hid (show w.heap.size + 2 ≤ w2.heap.size by have := hg2.size; omega)
  have HG2 := Lib.hid (grown_trans HG0.out hg2)
  have HC2 := Lib.hid hc2
  clear hx0 hx7 hc2 hg2 HB0 HX0 HG0 hz
  go_wp2_with fail
  go_loopw [12, 13, 14] (fun n _ _ wr => ∃ (m : Nat) (o : Value) (rows : List (List Int)) (fp : List Nat), m ≤ M ∧ n = .int .i64 m ∧ rowsC.ow wr (w.heap.size + 2) [o] rows fp ∧ fp.Nodup ∧ rowsWt rows ≤ 4 * (M - m) ∧ Loc3 wr (w.heap.size + 1) (.string nm) (.int .i64 ar) o ∧ Loc3 wr w.heap.size (.string ⟨#[]⟩) (.int .i64 0) (.slice none 0 0) ∧ w.heap.size + 2 ≤ wr.heap.size ∧ Cur wr c v l ∧ w.grownBy wr (some c)) (fun n _ _ _ => (intOf n).toNat)
  case atStart => exact ⟨m0, .slice none 0 0, [], [], hm0, rfl, Cd.ow_nil _ _, by simp, by simp [rowsWt], HX2.out.2, HX2.out.1, HZ2.out, HC2.out, HG2.out⟩
  case round =>
    obtain ⟨m, o, rows, fp, hm, rfl, how, hnd, hwt, hx, hz0, hsz, hcw, hgw⟩ := hrel
    obtain ⟨wo, rfl⟩ : ∃ wo : World, wo = wr := ⟨_, rfl⟩
    have HOW := Lib.hid how
    have HND := Lib.hid hnd
    have HWT := Lib.hid hwt
    have HX := Lib.hid hx
    have HZ := Lib.hid hz0
    have HSZ := Lib.hid hsz
    have HCW := Lib.hid hcw
    have HGW := Lib.hid hgw
    clear how hnd hwt hx hz0 hsz hcw hgw
    by_cases hlt : 0 < m
    · have hlt' : (0 : Int) < (m : Int) := by omega
      have HA := Lib.hid (And.intro (OwnI.empty wo wo.heap.size 3 (Nat.le_refl _)) (And.intro (cur_allocI (.cells #[] 3) HCW.out) (World.grownBy_alloc wo (.cells #[] 3) (some c))))
      go_wp2_with fail
      go_loopw [13, 14] (fun q i wr => ∃ (k : Nat) (ls : List Int), k ≤ ar ∧ i = .int .i64 k ∧ OwnI wr wo.heap.size 3 q ls ∧ ls.length = k ∧ InR ls ∧ Cur wr c v l ∧ wo.grownBy wr (some c)) (fun _ i _ => ar - (intOf i).toNat)
      case atStart => exact ⟨0, [], Nat.zero_le _, rfl, HA.out.1, rfl, (fun x hx => by cases hx), HA.out.2.1, HA.out.2.2⟩
      case round =>
        obtain ⟨k, ls, hk, rfl, hown, hlen, hin, hc1, hg1⟩ := hrel
        have HG1 := Lib.hid hg1
        have HO := Lib.hid hown
        have HIN := Lib.hid hin
        have HC1 := Lib.hid hc1
        have hcso : c < wo.heap.size := by have := HSZ.out; omega
        clear hc1 hg1 hown hin
        by_cases hlt2 : k < ar
        · have HB := Lib.hid (below_any V c v l B wr HC1.out (HR.out wr (grown_trans HGW.out HG1.out)) hB)
          have hlt2' : (k : Int) < (ar : Int) := by omega
          go_wp2_with fail
          refine HB.out.mono ?_
          rintro e w2 ⟨x, rfl, hx0, hx5, hc2, hg2⟩
          have hx := hx5 hV9
          have hown2 := owni_kept HO.out hg2 hcso
          have HG2 := Lib.hid (grown_trans HG1.out hg2)
          have HC2 := Lib.hid hc2
          have hs2 : wo.heap.size ≤ w2.heap.size := HG2.out.size
          have hl2 : ls.length + 1 ≤ 1000000000000 := by omega
          have HIN2 := Lib.hid (inr_snoc HIN.out (x := x) ⟨by omega, by omega⟩)
          clear hg2 hc2 hx5
          go_wp2_with (at_builtin; refine wp_appendI rfl (.tmp 32) (.tmp 36) 27 rfl wo.heap.size 3 Tryz.underlying27 info_i64 _ ls rfl hown2 _ rfl hl2 hs2 ?_)
          intro v' w5 hown5 hb5
          go_wp2_with fail
          go_roundw
          case rel => exact ⟨k + 1, _, by omega, by go_num, hown5, by rw [List.length_append, hlen]; rfl, HIN2.out, cur_below HC2.out hb5 hcso, grown_own HG2.out hb5⟩
          case measure => simp [intOf]; omega
        · have ek : k = ar := by omega
          have HW2 := Lib.hid (ow_grown HOW.out HG1.out (by omega))
          have HX2 := Lib.hid (loc_grown HX.out HG1.out (by omega))
          have HZ2 := Lib.hid (loc_grown HZ.out HG1.out (by omega))
          have hx2 := HX2.out.c2
          have hlt2' : ¬ (k : Int) < (ar : Int) := by omega
          have hrd := Cd.reads (show rowC.ow _ _ _ _ _ from Cd.ow_of_own (e := 3) HO.out HIN.out)
          have HWL := Lib.hid (show ls.length ≤ 3 by omega)
          have HP := Lib.hid (spec_put o _ rows ls _ _ wr (Cd.reads HW2.out) hrd (by have := HWT.out; omega) (by have := HWL.out; omega))
          have HSZ2 := Lib.hid (show w.heap.size + 2 ≤ wr.heap.size by have := HSZ.out; have := HG1.out.size; omega)
          have HG3 := Lib.hid (grown_trans HGW.out HG1.out)
          clear hrd
          go_wp2_with fail
          refine HP.out.mono ?_
          rintro e w5 ⟨v5, fp5, rfl, ho5, hn5, hb5⟩
          obtain ⟨a5, c5, rfl⟩ := Cd.ow_slice ho5
          have HO5 := Lib.hid ho5
          have HN5 := Lib.hid hn5
          have HB5 := Lib.hid hb5
          have HX5 := Lib.hid (Loc3.later HX2.out hb5)
          have HZ5 := Lib.hid (Loc3.later HZ2.out hb5)
          have hx5 := HX5.out.c2
          have hf5 := HX5.out.f2
          clear ho5 hn5 hb5 hx2 HP
          go_wp2_with fail
          go_roundw
          case rel =>
            have hs5 := HB5.out.size
            have hs2 := HSZ2.out
            refine ⟨m - 1, _, putR rows ls, fp5, by omega, ?_, ?_, HN5.out, ?_, Loc3.set2 HX5.out _, Loc3.set_far HZ5.out (by show w.heap.size + 1 ≠ w.heap.size; omega) _, ?_, ?_, ?_⟩
            · go_num
            · exact ow_setCell (rowsC.ow_base HO5.out (by omega)) (fun q => by have := (rowsC.ow_lt HO5.out _ q).1; simp at this; omega) _
            · have := putR_wt rows ls; have := HWT.out; have := HWL.out; omega
            · show _ ≤ (w5.setCell _ _).heap.size; simp; omega
            · exact cur_farI _ (cur_below HC1.out HB5.out (by omega)) (by show c ≠ w.heap.size + 1; omega)
            · exact grown_newI _ (grown_own HG3.out (HB5.out.mono (by omega))) (by show w.heap.size ≤ w.heap.size + 1; omega)
          case measure => simp [intOf]; omega
    · have ek : m = 0 := by omega
      subst ek
      obtain ⟨ao, co, rfl⟩ := Cd.ow_slice HOW.out
      obtain ⟨p0, p1, p2, q0, q1, q2⟩ := HZ.out
      obtain ⟨x0, x1, x2, g0, g1, g2⟩ := HX.out
      go_wp2_with fail
      obtain ⟨k0, k1, k2⟩ := set3 (w := wo) (k := w.heap.size) (x := .string nm) (y := .int .i64 ar) (z := .slice ao rows.length co) p0 p1 p2
      refine bodyPost_ret (v := .agg #[.string nm, .int .i64 ar, .slice ao rows.length co]) (by simp [results, Tryz.results66, go_sem, k0, k1, k2]) rfl ⟨_, rows, fp, rfl, ?_, HND.out, by have := HWT.out; omega, ?_, ?_⟩
      · have hn : w.heap.size ∉ fp := fun q => by have h1 := (rowsC.ow_lt HOW.out _ q).1; omega
        exact ow_setCell (ow_setCell (ow_setCell (rowsC.ow_base HOW.out (by omega)) hn _) hn _) hn _
      · have hne : c ≠ w.heap.size := by omega
        exact cur_farI _ (cur_farI _ (cur_farI _ HCW.out hne) hne) hne
      · exact grown_newI _ (grown_newI _ (grown_newI _ HGW.out (Nat.le_refl _)) (Nat.le_refl _)) (Nat.le_refl _)
theorem tab_any (nm : ByteArray) (ar : Nat) (har : ar ≤ 3) (c : Nat) (v : Value) (l : List UInt8) (B : Nat) (w : World) (hc : Cur w c v l) (hr : Reads w v l B) (hB : B ≤ c) :
    Calls Tryz.prog 66 #[.pointer (some ⟨c, 0, none⟩), .string nm, .int .i64 ar, .int .i64 6, .int .i64 4] w (TabAns w c v l nm ar) :=
  tab_gen 6 4 (by decide) (by decide) nm ar har c v l B w hc hr hB
end Go.Proofs.YtinchhahcheadaaGreat.TabDraw

namespace Go.Proofs.YtinchhahcheadaaGreat.TabSpec
open Go Go.RowKit Byt Ints IntsLaw IntsWalk Draw LocDraw Cd Rows2 Tab TabDraw

theorem Loc3.set0 {w : World} {X : Nat} {a b c : Value} (h : Loc3 w X a b c) (v : Value) : Loc3 (w.setCell ⟨X, 0, none⟩ v) X v b c := by
  refine ⟨World.cell?_setCell_same _ _ _ h.c0, ?_, ?_, ?_, ?_, ?_⟩
  · rw [World.cell?_setCell_other _ _ _ _ (by simp)]; exact h.c1
  · rw [World.cell?_setCell_other _ _ _ _ (by simp)]; exact h.c2
  · simpa using h.f0
  · simpa using h.f1
  · simpa using h.f2
theorem Loc3.set1 {w : World} {X : Nat} {a b c : Value} (h : Loc3 w X a b c) (v : Value) : Loc3 (w.setCell ⟨X, 1, none⟩ v) X a v c := by
  refine ⟨?_, World.cell?_setCell_same _ _ _ h.c1, ?_, ?_, ?_, ?_⟩
  · rw [World.cell?_setCell_other _ _ _ _ (by simp)]; exact h.c0
  · rw [World.cell?_setCell_other _ _ _ _ (by simp)]; exact h.c2
  · simpa using h.f0
  · simpa using h.f1
  · simpa using h.f2

/-- In the drawing of a table: the result's cells, the local table in block X, the cursor. -/
structure St (w : World) (c : Nat) (v : Value) (l : List UInt8) (X : Nat) (nm : ByteArray) (ar : Int) (u : Value) (rows : List (List Int)) (fp : List Nat) (W : World) : Prop where
  how : rowsC.ow W (w.heap.size + 1) [u] rows fp
  nd : fp.Nodup
  xn : X ∉ fp
  lx : Loc3 W X (.string nm) (.int .i64 ar) u
  lr : Loc3 W w.heap.size (.string ⟨#[]⟩) (.int .i64 0) (.slice none 0 0)
  xb : w.heap.size < X
  cb : c < w.heap.size
  cu : Cur W c v l
  gr : w.grownBy W (some c)
theorem St.alloc {w : World} {c : Nat} {v : Value} {l : List UInt8} {X : Nat} {nm : ByteArray} {ar : Int} {u : Value} {rows : List (List Int)} {fp : List Nat} {W : World} (h : St w c v l X nm ar u rows fp W) (o : Obj) : St w c v l X nm ar u rows fp (W.alloc o) :=
  ⟨Cd.ow_later h.how (below_alloc W o), h.nd, h.xn, h.lx.later (below_alloc W o), h.lr.later (below_alloc W o), h.xb, h.cb, cur_allocI o h.cu, grown_allocI o h.gr⟩
theorem St.grown {w : World} {c : Nat} {v : Value} {l : List UInt8} {X : Nat} {nm : ByteArray} {ar : Int} {u : Value} {rows : List (List Int)} {fp : List Nat} {W W' : World} (h : St w c v l X nm ar u rows fp W) (hg : W.grownBy W' (some c)) (hc : Cur W' c v l) : St w c v l X nm ar u rows fp W' :=
  have h1 := h.cb
  have h2 := h.xb
  ⟨ow_grown h.how hg (by omega), h.nd, h.xn, loc_grown h.lx hg (by omega), loc_grown h.lr hg (by omega), h.xb, h.cb, hc, grown_trans h.gr hg⟩
theorem St.set0 {w : World} {c : Nat} {v : Value} {l : List UInt8} {X : Nat} {nm : ByteArray} {ar : Int} {u : Value} {rows : List (List Int)} {fp : List Nat} {W : World} (h : St w c v l X nm ar u rows fp W) (nm' : ByteArray) : St w c v l X nm' ar u rows fp (W.setCell ⟨X, 0, none⟩ (.string nm')) :=
  have h1 := h.cb
  have h2 := h.xb
  ⟨ow_setCell h.how h.xn _, h.nd, h.xn, Loc3.set0 h.lx _, Loc3.set_far h.lr (by show X ≠ _; omega) _, h.xb, h.cb, cur_farI _ h.cu (by show c ≠ X; omega), grown_newI _ h.gr (by show _ ≤ X; omega)⟩
theorem St.set1 {w : World} {c : Nat} {v : Value} {l : List UInt8} {X : Nat} {nm : ByteArray} {ar : Int} {u : Value} {rows : List (List Int)} {fp : List Nat} {W : World} (h : St w c v l X nm ar u rows fp W) (ar' : Int) : St w c v l X nm ar' u rows fp (W.setCell ⟨X, 1, none⟩ (.int .i64 ar')) :=
  have h1 := h.cb
  have h2 := h.xb
  ⟨ow_setCell h.how h.xn _, h.nd, h.xn, Loc3.set1 h.lx _, Loc3.set_far h.lr (by show X ≠ _; omega) _, h.xb, h.cb, cur_farI _ h.cu (by show c ≠ X; omega), grown_newI _ h.gr (by show _ ≤ X; omega)⟩
theorem St.touched {w : World} {c : Nat} {v : Value} {l : List UInt8} {X : Nat} {nm : ByteArray} {ar : Int} {u : Value} {rows : List (List Int)} {fp : List Nat} {W W' : World} (h : St w c v l X nm ar u rows fp W) (ht : Cd.Touch fp W W') : Loc3 W' X (.string nm) (.int .i64 ar) u := h.lx.touched ht h.xn
theorem St.app {w : World} {c : Nat} {v : Value} {l : List UInt8} {X : Nat} {nm : ByteArray} {ar : Int} {u u' : Value} {rows rows' : List (List Int)} {fp fp' f : List Nat} {W W' : World} (h : St w c v l X nm ar u rows fp W) (ht : Cd.Touch fp W W')
    (ho : rowsC.ow W' (w.heap.size + 1) [u'] rows' fp') (hn : fp'.Nodup) (hs : ∀ b ∈ fp', b ∈ fp ∨ b ∈ f ∨ W.heap.size ≤ b) (hf : X ∉ f) : St w c v l X nm ar u' rows' fp' (W'.setCell ⟨X, 2, none⟩ u') := by
  have h1 := h.cb
  have h2 := h.xb
  have h3 := h.lx.lt
  have hx : X ∉ fp' := fun q => by
    rcases hs X q with q | q | q
    · exact h.xn q
    · exact hf q
    · omega
  have hfp : ∀ b ∈ fp, w.heap.size + 1 ≤ b := fun b hb => (rowsC.ow_lt h.how b hb).1
  refine ⟨ow_setCell ho hx _, hn, hx, Loc3.set2 (h.lx.touched ht h.xn) _, Loc3.set_far (h.lr.touched ht (fun q => by have := hfp _ q; omega)) (by show X ≠ _; omega) _, h.xb, h.cb, ?_, ?_⟩
  · refine cur_farI _ ?_ (by show c ≠ X; omega)
    obtain ⟨i, x, hi, hh⟩ := h.cu
    exact ⟨i, x, hi, ht.row hh (fun q => by have := hfp _ q; omega)⟩
  · refine grown_newI _ ?_ (by show _ ≤ X; omega)
    exact ⟨ht.os.trans h.gr.os, ht.tape.trans h.gr.tape, ht.output.trans h.gr.output, Nat.le_trans h.gr.size ht.size, fun k hk hne => (ht.block k (by have := h.gr.size; omega) (fun q => by have := hfp _ q; omega)).trans (h.gr.block k hk hne)⟩

/-- A drawn table that may be none. -/
def AnyAns (w : World) (c : Nat) (v : Value) (l : List UInt8) (e : Ending) (w' : World) : Prop :=
  ∃ (nm : ByteArray) (ar : Int) (u : Value) (rows : List (List Int)) (fp : List Nat), e = .returned (.agg #[.string nm, .int .i64 ar, u]) ∧ nm.size ≤ 2 ∧ (-1 ≤ ar ∧ ar ≤ 4) ∧ rowsC.ow w' w.heap.size [u] rows fp ∧ fp.Nodup ∧ rowsWt rows ≤ 28 ∧ Cur w' c v l ∧ w.grownBy w' (some c)
theorem St.done {w : World} {c : Nat} {v : Value} {l : List UInt8} {X : Nat} {nm : ByteArray} {ar : Int} {u : Value} {rows : List (List Int)} {fp : List Nat} {W : World} (h : St w c v l X nm ar u rows fp W) (hnm : nm.size ≤ 2) (har : -1 ≤ ar ∧ ar ≤ 4) (hwt : rowsWt rows ≤ 28) (x y z : Value) :
    AnyAns w c v l (.returned (.agg #[.string nm, .int .i64 ar, u])) (((W.setCell ⟨w.heap.size, 0, none⟩ x).setCell ⟨w.heap.size, 1, none⟩ y).setCell ⟨w.heap.size, 2, none⟩ z) := by
  have h1 := h.cb
  have hn : w.heap.size ∉ fp := fun q => by have h1 := (rowsC.ow_lt h.how _ q).1; omega
  have hne : c ≠ w.heap.size := by omega
  exact ⟨nm, ar, u, rows, fp, rfl, hnm, har, ow_setCell (ow_setCell (ow_setCell (rowsC.ow_base h.how (by omega)) hn _) hn _) hn _, h.nd, hwt, cur_farI _ (cur_farI _ (cur_farI _ h.cu hne) hne) hne,
    grown_newI _ (grown_newI _ (grown_newI _ h.gr (Nat.le_refl _)) (Nat.le_refl _)) (Nat.le_refl _)⟩

/-- A row written out. -/
theorem lit_row (W : World) (zs : List Int) (hz : InR zs) (hl : zs.length ≤ 1000) (base : Nat) (hb : base ≤ W.heap.size) : rowC.ow (W.alloc (.cells (zs.map fun z => Value.int .i64 z).toArray 3)) base [.slice (some ⟨W.heap.size, 0, none⟩) zs.length zs.length] zs [W.heap.size] := by
  have h : OwnI (W.alloc (.cells (zs.map fun z => Value.int .i64 z).toArray 3)) base 3 (.slice (some ⟨W.heap.size, 0, none⟩) zs.length zs.length) zs := by
    exact World.ownsRow_lit (base := base) (e := 3) (size := 1) W (zs.map fun z => Value.int .i64 z).toArray zs.length hb (by unfold maxLen; omega) (by simp)
  exact Cd.ow_of_own (e := 3) h hz

theorem row3' (w : World) (q : Value) (e : TypeId) : (w.alloc (.cells #[q] e)).cell? ⟨w.heap.size, 0, none⟩ = some q := by simp
/-- A row written out in a slice of its own, to be appended. -/
structure Lit (w : World) (c : Nat) (v : Value) (l : List UInt8) (X : Nat) (nm : ByteArray) (ar : Int) (u : Value) (rows : List (List Int)) (fp : List Nat) (B : Nat) (zs : List Int) (q : Value) (W2 : World) : Prop where
  st : St w c v l X nm ar u rows fp W2
  cell : W2.cell? ⟨B + 1, 0, none⟩ = some q
  row : rowC.ow W2 (w.heap.size + 1) [q] zs [B]
  far : ∀ b ∈ [B], b ∉ fp
  xf : X ∉ [B]
  sz : w.heap.size + 1 ≤ W2.heap.size
theorem St.lit {w : World} {c : Nat} {v : Value} {l : List UInt8} {X : Nat} {nm : ByteArray} {ar : Int} {u : Value} {rows : List (List Int)} {fp : List Nat} {W : World} (h : St w c v l X nm ar u rows fp W) (zs : List Int) (hz : InR zs) (hl : zs.length ≤ 1000) :
    Lit w c v l X nm ar u rows fp W.heap.size zs (.slice (some ⟨W.heap.size, 0, none⟩) zs.length zs.length) ((W.alloc (.cells (zs.map fun z => Value.int .i64 z).toArray 3)).alloc (.cells #[.slice (some ⟨W.heap.size, 0, none⟩) zs.length zs.length] 27)) := by
  have h0 := h.lx.lt
  have h1 := h.xb
  refine ⟨(h.alloc _).alloc _, ?_, Cd.ow_later (lit_row W zs hz hl _ (by omega)) (below_alloc _ _), fun b hb q => ?_, fun q => ?_, ?_⟩
  · have := row3' (W.alloc (.cells (zs.map fun z => Value.int .i64 z).toArray 3)) (.slice (some ⟨W.heap.size, 0, none⟩) zs.length zs.length) 27
    rw [size_alloc] at this
    exact this
  · rw [List.mem_singleton.1 hb] at q
    have := (rowsC.ow_lt h.how _ q).2
    omega
  · rw [List.mem_singleton.1 q] at h0
    omega
  · rw [size_alloc, size_alloc]
    omega

def ss3 : List ByteArray := [⟨#[114]⟩, ⟨#[115]⟩, ⟨#[116]⟩]
theorem ss3_ok : ∀ t : Fin 3, (ss3.getD t.val ⟨#[]⟩).size ≤ 2 := by decide
def ss4 : List ByteArray := [⟨#[]⟩, ⟨#[82]⟩, ⟨#[114, 115]⟩, ⟨#[122]⟩]
theorem ss4_ok : ∀ t : Fin 4, (ss4.getD t.val ⟨#[]⟩).size ≤ 2 := by decide
def zz3 : List Int := [0, 4, -1]
theorem zz3_ok : ∀ t : Fin 3, -1 ≤ zz3.getD t.val 0 ∧ zz3.getD t.val 0 ≤ 4 := by decide

set_option maxRecDepth 100000 in
set_option maxHeartbeats 1600000 in
theorem tabany_any (c : Nat) (v : Value) (l : List UInt8) (B : Nat) (w : World) (hc : Cur w c v l) (hr : Reads w v l B) (hB : B ≤ c) :
    Calls Tryz.prog 65 #[.pointer (some ⟨c, 0, none⟩)] w (AnyAns w c v l) := by
  have hcs := cur_size hc
  have HR := Lib.hid (fun w' (hg : w.grownBy w' (some c)) => hr.later (below_of hg hB hcs))
  have HC := Lib.hid hc
  clear hc hr
  go_enter Tryz.func65, Tryz.ntmps65
  go_wp2_with fail
  generalize hW : w.alloc _ = W0
  obtain ⟨r0, hz, hb0⟩ := start1 w _ hW
  clear hW
  have HX0 := Lib.hid (Loc3.of r0)
  have HG0 := Lib.hid (grown_below hb0 (some c))
  have HC0 := Lib.hid (cur_below HC.out hb0 hcs)
  have hc1 := cur_allocI (.cells (ss3.map fun z => Value.string z).toArray 9) HC0.out
  have hg1 := grown_allocI (.cells (ss3.map fun z => Value.string z).toArray 9) HG0.out
  have HP := Lib.hid (pickS_any ss3 W0.heap.size (by decide) (by decide) c v l B _ hc1 (HR.out _ hg1) hB (by omega) (list_cellsS ss3 W0 9))
  rw [hz] at HP
  have HG1 := Lib.hid hg1
  have HX1 := Lib.hid (HX0.out.later (below_alloc W0 (.cells (ss3.map fun z => Value.string z).toArray 9)))
  have HZ1 := Lib.hid (show (W0.alloc (.cells (ss3.map fun z => Value.string z).toArray 9)).heap.size = w.heap.size + 2 by rw [size_alloc, hz])
  clear r0 hb0 hc1 hg1 HX0 HG0 HC0
  refine HP.out.mono ?_
  rintro e w2 ⟨t, ht, rfl, hc2, hg2⟩
  have hnm := ss3_ok ⟨t, ht⟩
  simp only at hnm
  generalize ss3.getD t ⟨#[]⟩ = nm at *
  have HX2 := Lib.hid (loc_grown HX1.out hg2 (by omega))
  have HZ2 := Lib.hid (show w.heap.size + 2 ≤ w2.heap.size by have := hg2.size; have := HZ1.out; omega)
  have HG2 := Lib.hid (grown_trans HG1.out hg2)
  have HB2 := Lib.hid (below_any 3 c v l B w2 hc2 (HR.out w2 HG2.out) hB)
  clear hc2 hg2 HX1 HG1 HP HZ1 hz
  go_wp2_with fail
  refine HB2.out.mono ?_
  rintro e w3 ⟨x, rfl, hx0, hx3, hc3, hg3⟩
  obtain ⟨n, rfl⟩ := Int.eq_ofNat_of_zero_le hx0
  have hn : n ≤ 2 := by have := hx3 (by decide); omega
  have HX3 := Lib.hid (loc_grown HX2.out hg3 (by omega))
  have HZ3 := Lib.hid (show w.heap.size + 2 ≤ w3.heap.size by have := hg3.size; have := HZ2.out; omega)
  have HG3 := Lib.hid (grown_trans HG2.out hg3)
  have HT := Lib.hid (tab_any nm (n + 1) (by omega) c v l B w3 hc3 (HR.out w3 HG3.out) hB)
  have en : (((n + 1 : Nat)) : Int) = 1 + (n : Int) := by omega
  rw [en] at HT
  have HEN := Lib.hid en
  clear hx3 hc3 hg3 HX2 HG2 HB2 HZ2 en
  go_wp2_with fail
  refine HT.out.mono ?_
  rintro e w4 ⟨u, rows, fp, rfl, how, hnd, hwt, hc4, hg4⟩
  obtain ⟨a4, cap4, rfl⟩ := Cd.ow_slice how
  have HX4 := Lib.hid (loc_grown HX3.out hg4 (by omega))
  have HG4 := Lib.hid (grown_trans HG3.out hg4)
  have HZ4 := Lib.hid (show w.heap.size + 2 ≤ w4.heap.size by have := hg4.size; have := HZ3.out; omega)
  have HOW := Lib.hid (rowsC.ow_base how (show w.heap.size + 1 ≤ w3.heap.size by have := HZ3.out; omega))
  have HND := Lib.hid hnd
  have HWT := Lib.hid hwt
  have HC4 := Lib.hid hc4
  clear how hnd hwt hc4 hg4 HX3 HG3 HT HZ3
  go_wp2_with fail
  generalize hW : w4.alloc _ = W
  obtain ⟨r0, hz, hb0⟩ := start1 w4 _ hW
  have hst : St w c v l w4.heap.size nm (1 + (n : Int)) (.slice a4 rows.length cap4) rows fp W := ⟨Cd.ow_later HOW.out hb0, HND.out, fun q => Nat.lt_irrefl _ (rowsC.ow_lt HOW.out _ q).2, Loc3.of r0, HX4.out.later hb0, by have := HZ4.out; omega, hcs, cur_below HC4.out hb0 (by have := HZ4.out; omega), grown_trans HG4.out (grown_below hb0 (some c))⟩
  clear hW
  have HST := Lib.hid hst
  generalize w4.heap.size = X at *
  have HB5 := Lib.hid (below_any 12 c v l B W hst.cu (HR.out W hst.gr) hB)
  have har : -1 ≤ 1 + (n : Int) ∧ 1 + (n : Int) ≤ 4 := by omega
  generalize 1 + (n : Int) = ar at *
  clear hst r0 hb0 hz HOW HND HX4 HG4 HC4 HZ4 HEN
  refine HB5.out.mono ?_
  rintro e w5 ⟨x, rfl, hx0, hx12, hc5, hg5⟩
  have HS := Lib.hid (HST.out.grown hg5 hc5)
  clear hx12 hc5 hg5 HST HB5
  by_cases x0 : x = 0
  · subst x0
    have hal := HS.out.alloc (.cells (ss4.map fun z => Value.string z).toArray 9)
    have HP := Lib.hid (pickS_any ss4 w5.heap.size (by decide) (by decide) c v l B _ hal.cu (HR.out _ hal.gr) hB (by have := (cur_size HS.out.cu); omega) (list_cellsS ss4 w5 9))
    have HAL := Lib.hid hal
    clear hal
    go_wp2_with fail
    refine HP.out.mono ?_
    rintro e w6 ⟨t, ht, rfl, hc6, hg6⟩
    have hnm := ss4_ok ⟨t, ht⟩
    simp only at hnm
    generalize ss4.getD t ⟨#[]⟩ = nm' at *
    have HS6 := Lib.hid (HAL.out.grown hg6 hc6)
    have hx0 := HS6.out.lx.c0
    have hf0 := HS6.out.lx.f0
    have HS7 := Lib.hid (HS6.out.set0 nm')
    obtain ⟨p0, p1, p2, q0, q1, q2⟩ := HS7.out.lx
    obtain ⟨g0, g1, g2, f0, f1, f2⟩ := HS7.out.lr
    clear hc6 hg6 HP HAL
    go_wp2_with fail
    obtain ⟨k0, k1, k2⟩ := set3 (w := w6.setCell ⟨X, 0, none⟩ (.string nm')) (k := w.heap.size) (x := .string nm') (y := .int .i64 ar) (z := .slice a4 rows.length cap4) g0 g1 g2
    refine bodyPost_ret (v := .agg #[.string nm', .int .i64 ar, .slice a4 rows.length cap4]) (by simp [results, Tryz.results65, go_sem, k0, k1, k2]) rfl (HS7.out.done hnm har (by have := HWT.out; omega) _ _ _)
  have tt0 : (x == 0) = false := by rw [beq_eq_false_iff_ne]; exact x0
  by_cases x1 : x = 1
  · subst x1
    clear x0
    have hal := HS.out.alloc (.cells (zz3.map fun z => Value.int .i64 z).toArray 3)
    have HP := Lib.hid (pick_any zz3 w5.heap.size (by decide) (by decide) c v l B _ hal.cu (HR.out _ hal.gr) hB (by have := (cur_size HS.out.cu); omega) (list_cellsI zz3 w5 3))
    have HAL := Lib.hid hal
    clear hal
    go_wp2_with fail
    refine HP.out.mono ?_
    rintro e w6 ⟨t, ht, rfl, hc6, hg6⟩
    have har' := zz3_ok ⟨t, ht⟩
    simp only at har'
    generalize zz3.getD t 0 = ar' at *
    have HS6 := Lib.hid (HAL.out.grown hg6 hc6)
    have hx1 := HS6.out.lx.c1
    have hf1 := HS6.out.lx.f1
    have HS7 := Lib.hid (HS6.out.set1 ar')
    obtain ⟨p0, p1, p2, q0, q1, q2⟩ := HS7.out.lx
    obtain ⟨g0, g1, g2, f0, f1, f2⟩ := HS7.out.lr
    clear hc6 hg6 HP HAL
    go_wp2_with fail
    obtain ⟨k0, k1, k2⟩ := set3 (w := w6.setCell ⟨X, 1, none⟩ (.int .i64 ar')) (k := w.heap.size) (x := .string nm) (y := .int .i64 ar') (z := .slice a4 rows.length cap4) g0 g1 g2
    refine bodyPost_ret (v := .agg #[.string nm, .int .i64 ar', .slice a4 rows.length cap4]) (by simp [results, Tryz.results65, go_sem, k0, k1, k2]) rfl (HS7.out.done hnm har' (by have := HWT.out; omega) _ _ _)
  have tt1 : (x == 1) = false := by rw [beq_eq_false_iff_ne]; exact x1
  have HL1 := Lib.hid (show rows.length + 1 ≤ 1000000000000 by have := HWT.out; unfold rowsWt at this; omega)
  by_cases x2 : x = 2
  · subst x2
    clear x0 x1
    have HLT := Lib.hid (HS.out.lit [0] (by intro y hy; rw [List.mem_singleton.1 hy]; omega) (by decide))
    have hx2 := cell_alloc_some (cell_alloc_some HS.out.lx.c2 (.cells #[.int .i64 0] 3)) (.cells #[.slice (some ⟨w5.heap.size, 0, none⟩) 1 1] 27)
    have hx2' := HS.out.lx.c2
    go_wp2_with (at_builtin; refine Cd.wpList_appendE (c := rowC) rfl rfl (.tmp 29) (.tmp 31) 49 rfl (w.heap.size + 1) 27 (.slice none 0 0) 24 Tryz.underlying49 info_ints rfl (by decide) _ rows _ rfl HLT.out.st.how HLT.out.st.nd _ _ rfl HLT.out.cell [0] _ HLT.out.row (by simp) HLT.out.far HL1.out HLT.out.sz ?_)
    intro g cap w6 fp6 ho6 hn6 hs6 ht6
    have hx6 := (HLT.out.st.touched ht6)
    have hx62 := hx6.c2
    have hf62 := hx6.f2
    have HS7 := Lib.hid (HLT.out.st.app ht6 ho6 hn6 (fun b hb => by have := hs6 b hb; rw [List.mem_singleton, size_alloc, size_alloc]; omega) HLT.out.xf)
    obtain ⟨p0, p1, p2, q0, q1, q2⟩ := HS7.out.lx
    obtain ⟨g0, g1, g2, f0, f1, f2⟩ := HS7.out.lr
    clear ho6 hn6 hs6 ht6 hx6 hx2 hx2'
    go_wp2_with fail
    obtain ⟨k0, k1, k2⟩ := set3 (w := w6.setCell ⟨X, 2, none⟩ (.slice (some ⟨g, 0, none⟩) (rows.length + 1) cap)) (k := w.heap.size) (x := .string nm) (y := .int .i64 ar) (z := .slice (some ⟨g, 0, none⟩) (rows.length + 1) cap) g0 g1 g2
    refine bodyPost_ret (v := .agg #[.string nm, .int .i64 ar, .slice (some ⟨g, 0, none⟩) (rows.length + 1) cap]) (by simp [results, Tryz.results65, go_sem, k0, k1, k2]) rfl (HS7.out.done hnm har (by have := HWT.out; simp [rowsWt] at *; omega) _ _ _)
  have tt2 : (x == 2) = false := by rw [beq_eq_false_iff_ne]; exact x2
  by_cases x3 : x = 3
  · subst x3
    clear x0 x1 x2
    have HLT := Lib.hid (HS.out.lit [9, 9, 10] (by intro y hy; simp at hy; omega) (by decide))
    have hx2' := HS.out.lx.c2
    go_wp2_with (at_builtin; refine Cd.wpList_appendE (c := rowC) rfl rfl (.tmp 37) (.tmp 39) 49 rfl (w.heap.size + 1) 27 (.slice none 0 0) 24 Tryz.underlying49 info_ints rfl (by decide) _ rows _ rfl HLT.out.st.how HLT.out.st.nd _ _ rfl HLT.out.cell [9, 9, 10] _ HLT.out.row (by simp) HLT.out.far HL1.out HLT.out.sz ?_)
    intro g cap w6 fp6 ho6 hn6 hs6 ht6
    have hx6 := (HLT.out.st.touched ht6)
    have hx62 := hx6.c2
    have hf62 := hx6.f2
    have HS7 := Lib.hid (HLT.out.st.app ht6 ho6 hn6 (fun b hb => by have := hs6 b hb; rw [List.mem_singleton, size_alloc, size_alloc]; omega) HLT.out.xf)
    obtain ⟨p0, p1, p2, q0, q1, q2⟩ := HS7.out.lx
    obtain ⟨g0, g1, g2, f0, f1, f2⟩ := HS7.out.lr
    clear ho6 hn6 hs6 ht6 hx6 hx2'
    go_wp2_with fail
    obtain ⟨k0, k1, k2⟩ := set3 (w := w6.setCell ⟨X, 2, none⟩ (.slice (some ⟨g, 0, none⟩) (rows.length + 1) cap)) (k := w.heap.size) (x := .string nm) (y := .int .i64 ar) (z := .slice (some ⟨g, 0, none⟩) (rows.length + 1) cap) g0 g1 g2
    refine bodyPost_ret (v := .agg #[.string nm, .int .i64 ar, .slice (some ⟨g, 0, none⟩) (rows.length + 1) cap]) (by simp [results, Tryz.results65, go_sem, k0, k1, k2]) rfl (HS7.out.done hnm har (by have := HWT.out; simp [rowsWt] at *; omega) _ _ _)
  have tt3 : (x == 3) = false := by rw [beq_eq_false_iff_ne]; exact x3
  clear x0 x1 x2 x3
  obtain ⟨p0, p1, p2, q0, q1, q2⟩ := HS.out.lx
  obtain ⟨g0, g1, g2, f0, f1, f2⟩ := HS.out.lr
  go_wp2_with fail
  obtain ⟨k0, k1, k2⟩ := set3 (w := w5) (k := w.heap.size) (x := .string nm) (y := .int .i64 ar) (z := .slice a4 rows.length cap4) g0 g1 g2
  refine bodyPost_ret (v := .agg #[.string nm, .int .i64 ar, .slice a4 rows.length cap4]) (by simp [results, Tryz.results65, go_sem, k0, k1, k2]) rfl (HS.out.done hnm har (by have := HWT.out; omega) _ _ _)
end Go.Proofs.YtinchhahcheadaaGreat.TabSpec

namespace Go.Proofs.YtinchhahcheadaaGreat.DbDraw
open Go Go.RowKit Byt Ints IntsLaw IntsWalk Draw LocDraw Cd Rows2 Tab TabDraw SlMath TabOpen TabElem SlTable Db TabSpec DbMath DbSpec DbExact DbAcc

theorem loc1_grown {w w' : World} {X c : Nat} {a : Value} (h : Loc1 w X a) (hg : w.grownBy w' (some c)) (hn : X ≠ c) : Loc1 w' X a :=
  h.keep (hg.block X h.lt (by intro q; injection q with q; exact hn q))
def nm5 : List ByteArray := [⟨#[114]⟩, ⟨#[115]⟩, ⟨#[116]⟩, ⟨#[117]⟩, ⟨#[118]⟩]
def zv4 : List Int := [2, 3, 4, 6]
def zm4 : List Int := [2, 4, 6, 8]
theorem nm5_ok : ∀ t : Fin 5, (nm5.getD t.val ⟨#[]⟩).size ≤ 2 := by decide
theorem zv4_ok : ∀ t : Fin 4, 0 < zv4.getD t.val 0 ∧ zv4.getD t.val 0 ≤ 6 := by decide
theorem zm4_ok : ∀ t : Fin 4, 0 ≤ zm4.getD t.val 0 ∧ zm4.getD t.val 0 ≤ 8 := by decide

/-- A table that a draw may make. -/
def OkD (T : T3) : Prop := T.1.size ≤ 2 ∧ (-1 ≤ T.2.1 ∧ T.2.1 ≤ 4) ∧ rowsWt T.2.2 ≤ 32
/-- In the drawing of a database: the local one in block X, the names behind it, the cursor. -/
structure DrS (w : World) (c : Nat) (v : Value) (l : List UInt8) (X : Nat) (cur : List T3) (a : Option Addr) (k : Nat) (fp : List Nat) (W : World) : Prop where
  lx : Loc1 W X (.slice a cur.length k)
  lr : Loc1 W w.heap.size (.slice none 0 0)
  nm : ∀ t, t < 5 → W.cell? ⟨X + 1, t, none⟩ = some (.string (nm5.getD t ⟨#[]⟩))
  ow : tabsC.ow W (X + 2) [.slice a cur.length k] cur fp
  nd : fp.Nodup
  ok : ∀ T ∈ cur, OkD T
  xb : w.heap.size < X
  cb : c < w.heap.size
  sz : X + 2 ≤ W.heap.size
  cu : Cur W c v l
  gr : w.grownBy W (some c)
theorem DrS.grown {w : World} {c : Nat} {v : Value} {l : List UInt8} {X : Nat} {cur : List T3} {a : Option Addr} {k : Nat} {fp : List Nat} {W W' : World} (h : DrS w c v l X cur a k fp W) (hg : W.grownBy W' (some c)) (hc : Cur W' c v l) : DrS w c v l X cur a k fp W' :=
  have h1 := h.cb
  have h2 := h.xb
  ⟨loc1_grown h.lx hg (by omega), loc1_grown h.lr hg (by omega), fun t ht => hg.cell (h.nm t ht) (by intro q; injection q with q; simp only at q; omega), ow_grown h.ow hg (by omega), h.nd, h.ok, h.xb, h.cb, Nat.le_trans h.sz hg.size, hc, grown_trans h.gr hg⟩
theorem DrS.alloc {w : World} {c : Nat} {v : Value} {l : List UInt8} {X : Nat} {cur : List T3} {a : Option Addr} {k : Nat} {fp : List Nat} {W : World} (h : DrS w c v l X cur a k fp W) (o : Obj) : DrS w c v l X cur a k fp (W.alloc o) :=
  h.grown (World.grownBy_alloc W o (some c)) (cur_allocI o h.cu)
/-- A drawn table laid in two cells of its own, to be appended. -/
structure LaidD (X : Nat) (W3 : World) (b : Nat) (us : List Value) (T : T3) (f fp : List Nat) : Prop where
  at_ : Cd.At W3 b 0 us
  ow : tabC.ow W3 (X + 2) us T f
  nd : f.Nodup
  far : ∀ b ∈ f, b ∉ fp
  sz : X + 2 ≤ W3.heap.size
  ok : OkD T
theorem DrS.laid {w : World} {c : Nat} {v : Value} {l : List UInt8} {X : Nat} {cur : List T3} {a : Option Addr} {k : Nat} {fp : List Nat} {W W2 : World} (h : DrS w c v l X cur a k fp W) (hg : W.grownBy W2 (some c)) (hc : Cur W2 c v l)
    {nm : ByteArray} {ar : Int} {y : Value} {rows : List (List Int)} {f : List Nat} (ho : rowsC.ow W2 W.heap.size [y] rows f) (hn : f.Nodup) (hok : OkD (nm, ar, rows)) (e : TypeId) :
    DrS w c v l X cur a k fp ((W2.alloc (.cells #[.string nm, .int .i64 ar, y] e (0, 0))).alloc (.cells #[.string nm, .int .i64 ar, y] e (0, 0))) ∧
    LaidD X ((W2.alloc (.cells #[.string nm, .int .i64 ar, y] e (0, 0))).alloc (.cells #[.string nm, .int .i64 ar, y] e (0, 0))) (W2.heap.size + 1) [.string nm, .int .i64 ar, y] (nm, ar, rows) f fp := by
  have hbA := Tab.below_then (below_alloc W2 (.cells #[.string nm, .int .i64 ar, y] e (0, 0))) (below_alloc (W2.alloc (.cells #[.string nm, .int .i64 ar, y] e (0, 0))) (.cells #[.string nm, .int .i64 ar, y] e (0, 0)))
  have hA := ((h.grown hg hc).alloc (.cells #[.string nm, .int .i64 ar, y] e (0, 0))).alloc (.cells #[.string nm, .int .i64 ar, y] e (0, 0))
  obtain ⟨k1, k2, k3⟩ := hok
  simp only at k1 k2 k3
  refine ⟨hA, ?_, tabC.ow_base (Cd.ow_later (tab_ow ho (by unfold maxLen; omega) (by omega)) hbA) h.sz, hn, fun b hb q => ?_, hA.sz, ⟨k1, k2, k3⟩⟩
  · exact at3 (by have := row_alloc (W2.alloc (.cells #[.string nm, .int .i64 ar, y] e (0, 0))) (.cells #[.string nm, .int .i64 ar, y] e (0, 0)); rw [size_alloc] at this; exact this)
  · have h1 := (rowsC.ow_lt ho b hb).1
    have h2 := ((Cd.sl _ tabC).ow_lt h.ow b q).2
    omega
theorem DrS.fcell {w : World} {c : Nat} {v : Value} {l : List UInt8} {X : Nat} {cur : List T3} {a : Option Addr} {k : Nat} {fp : List Nat} {W W4 : World} (h : DrS w c v l X cur a k fp W) (ht : Cd.Touch fp W W4) : W4.cell? ⟨X, 0, none⟩ = some (.slice a cur.length k) ∧ W4.frozen? ⟨X, 0, none⟩ = false := by
  have hx : X ∉ fp := fun q => by have := ((Cd.sl _ tabC).ow_lt h.ow _ q).1; omega
  exact ⟨(h.lx.touched ht hx).c0, (h.lx.touched ht hx).f0⟩
theorem DrS.app {w : World} {c : Nat} {v : Value} {l : List UInt8} {X : Nat} {cur : List T3} {a : Option Addr} {k : Nat} {fp : List Nat} {W3 W4 : World} (h : DrS w c v l X cur a k fp W3) {T : T3} (hT : OkD T) {g cap : Nat} {fp4 : List Nat} (ht : Cd.Touch fp W3 W4)
    (ho : tabsC.ow W4 (X + 2) [.slice (some ⟨g, 0, none⟩) (cur.length + 1) cap] (cur ++ [T]) fp4) (hn : fp4.Nodup) :
    DrS w c v l X (cur ++ [T]) (some ⟨g, 0, none⟩) cap fp4 (W4.setCell ⟨X, 0, none⟩ (.slice (some ⟨g, 0, none⟩) (cur.length + 1) cap)) := by
  have h1 := h.cb
  have h2 := h.xb
  have h3 := h.sz
  have hfp : ∀ b, b < X + 2 → b ∉ fp := fun b hb q => by have := ((Cd.sl _ tabC).ow_lt h.ow _ q).1; omega
  have hx4 : X ∉ fp4 := fun q => by have := ((Cd.sl _ tabC).ow_lt ho _ q).1; omega
  have e : (cur ++ [T]).length = cur.length + 1 := by simp
  refine ⟨?_, (h.lr.touched ht (hfp _ (by omega))).set_far (by show X ≠ _; omega) _, fun t hlt => ?_, ?_, hn, ?_, h2, h1, ?_, ?_, ?_⟩
  · rw [e]; exact (h.lx.touched ht (hfp _ (by omega))).set _
  · rw [World.cell?_setCell_other _ _ _ _ (by intro q; have e := congrArg Addr.block q; simp only at e; omega)]
    exact ht.cell (h.nm t hlt) (hfp _ (by show X + 1 < _; omega))
  · rw [e]; exact ow_setCell ho hx4 _
  · intro U hU
    rcases List.mem_append.1 hU with q | q
    · exact h.ok U q
    · rw [List.mem_singleton.1 q]; exact hT
  · have := ht.size; simp; omega
  · obtain ⟨i, x, hi, hh⟩ := h.cu
    exact cur_farI _ ⟨i, x, hi, ht.row hh (hfp _ (by omega))⟩ (by show c ≠ X; omega)
  · refine grown_newI _ ?_ (by show _ ≤ X; omega)
    exact ⟨ht.os.trans h.gr.os, ht.tape.trans h.gr.tape, ht.output.trans h.gr.output, Nat.le_trans h.gr.size ht.size, fun j hj hne => (ht.block j (by have := h.gr.size; omega) (hfp _ (by omega))).trans (h.gr.block j hj hne)⟩
/-- A drawn database. -/
def DbDr (n : Nat) (w : World) (c : Nat) (v : Value) (l : List UInt8) (e : Ending) (w' : World) : Prop :=
  ∃ (u : Value) (Ts : List T3) (fp : List Nat), e = .returned (.agg #[u]) ∧ tabsC.ow w' w.heap.size [u] Ts fp ∧ fp.Nodup ∧ Ts.length = n ∧ (∀ T ∈ Ts, OkD T) ∧ Cur w' c v l ∧ w.grownBy w' (some c)
theorem DrS.done {w : World} {c : Nat} {v : Value} {l : List UInt8} {X : Nat} {cur : List T3} {a : Option Addr} {k : Nat} {fp : List Nat} {W : World} (h : DrS w c v l X cur a k fp W) {n : Nat} (hl : cur.length = n) :
    DbDr n w c v l (.returned (.agg #[.slice a cur.length k])) (W.setCell ⟨w.heap.size, 0, none⟩ (.slice a cur.length k)) := by
  have h1 := h.cb
  have h2 := h.xb
  refine ⟨_, cur, fp, rfl, ow_setCell ((Cd.sl _ tabC).ow_base h.ow (by omega)) (fun q => by have := ((Cd.sl _ tabC).ow_lt h.ow _ q).1; simp only at this; omega) _, h.nd, hl, h.ok, cur_farI _ h.cu (by show c ≠ w.heap.size; omega), grown_newI _ h.gr (Nat.le_refl _)⟩
/-- The rows of one table are dropped. -/
theorem DrS.nil {w : World} {c : Nat} {v : Value} {l : List UInt8} {X : Nat} {cur : List T3} {g : Nat} {k : Nat} {fp : List Nat} {W : World} (h : DrS w c v l X cur (some ⟨g, 0, none⟩) k fp W) {t : Nat} (ht : t < cur.length) :
    ∃ cur' fp', cur'.length = cur.length ∧ DrS w c v l X cur' (some ⟨g, 0, none⟩) k fp' (W.setCell ⟨g, t * 3 + 2, none⟩ (.slice none 0 0)) := by
  have h1 := h.cb
  have h2 := h.xb
  have h3 := h.sz
  have hok := h.ok _ (List.getElem_mem ht)
  have hg : g ∈ fp := by
    obtain ⟨v', xss, fps, e1, _, _, rfl⟩ := h.ow
    injection e1 with e1 _
    subst e1
    exact List.mem_append_left _ (by simp [Value.ownBlock])
  have hgx := ((Cd.sl _ tabC).ow_lt h.ow _ hg).1
  obtain ⟨us, f, hul, hat, hof, hfs, hnd, hch⟩ := Cd.ow_elem h.ow ht
  obtain ⟨a', c', rfl⟩ := shape_ow hof
  obtain ⟨fp', ho', hn', hsub, _⟩ := hch (W.setCell ⟨g, t * 3 + 2, none⟩ (.slice none 0 0)) [none, none, some (.slice none 0 0)] (cur[t].1, cur[t].2.1, []) [] rfl
    (tab_ow (Cd.ow_nil _ _) (by have := hok.1; unfold maxLen; omega) (by have := hok.2.1; omega)) rfl (fun b _ _ hb => Below.heap_setCell W _ _ b hb) h.nd List.nodup_nil (by simp)
  have e : (cur.set t (cur[t].1, cur[t].2.1, [])).length = cur.length := by simp
  refine ⟨cur.set t (cur[t].1, cur[t].2.1, []), fp', e, ?_, h.lr.set_far (by show g ≠ _; omega) _, fun j hj => ?_, ?_, hn', fun T hT => ?_, h2, h1, by simpa using h3, cur_farI _ h.cu (by show c ≠ g; omega), grown_newI _ h.gr (by show _ ≤ g; omega)⟩
  · rw [e]; exact h.lx.set_far (by show g ≠ X; omega) _
  · rw [World.cell?_setCell_other _ _ _ _ (by intro q; have e := congrArg Addr.block q; simp only at e; omega)]
    exact h.nm j hj
  · rw [e]; exact ho'
  · rcases List.mem_or_eq_of_mem_set hT with q | q
    · exact h.ok T q
    · rw [q]; exact ⟨hok.1, hok.2.1, by simp [rowsWt]⟩
theorem DrS.drew {w : World} {c : Nat} {v : Value} {l : List UInt8} {X : Nat} {cur : List T3} {a : Option Addr} {k : Nat} {fp : List Nat} {W : World} (h : DrS w c v l X cur a k fp W) : DrS w c v l X cur a k fp W.drew :=
  ⟨h.lx.drew, h.lr.drew, h.nm, tabsC.ow_keep h.ow fun _ _ => rfl, h.nd, h.ok, h.xb, h.cb, h.sz, h.cu, ⟨h.gr.os, h.gr.tape, h.gr.output, h.gr.size, h.gr.block⟩⟩
theorem DrS.rcell {w : World} {c : Nat} {v : Value} {l : List UInt8} {X : Nat} {cur : List T3} {g : Nat} {k : Nat} {fp : List Nat} {W : World} (h : DrS w c v l X cur (some ⟨g, 0, none⟩) k fp W) {t : Nat} (ht : t < cur.length) :
    ∃ u, W.cell? ⟨g, t * 3 + 2, none⟩ = some u ∧ W.frozen? ⟨g, t * 3 + 2, none⟩ = false := by
  obtain ⟨us, f, hul, hat, _⟩ := Cd.ow_elem h.ow ht
  have hul' : us.length = 3 := hul
  exact ⟨_, hat 2 (by omega), Cd.ow_frozen h.ow _⟩
/-- The same for some list of n tables. -/
def DrO (w : World) (c : Nat) (v : Value) (l : List UInt8) (X n g k : Nat) (W : World) : Prop := ∃ cur fp, cur.length = n ∧ DrS w c v l X cur (some ⟨g, 0, none⟩) k fp W
theorem DrO.of {w : World} {c : Nat} {v : Value} {l : List UInt8} {X g k : Nat} {cur : List T3} {fp : List Nat} {W : World} (h : DrS w c v l X cur (some ⟨g, 0, none⟩) k fp W) : DrO w c v l X cur.length g k W := ⟨cur, fp, rfl, h⟩
theorem DrO.grown {w : World} {c : Nat} {v : Value} {l : List UInt8} {X n g k : Nat} {W W' : World} (h : DrO w c v l X n g k W) (hg : W.grownBy W' (some c)) (hc : Cur W' c v l) : DrO w c v l X n g k W' :=
  have ⟨cur, fp, e, hs⟩ := h
  ⟨cur, fp, e, hs.grown hg hc⟩
theorem DrO.nil {w : World} {c : Nat} {v : Value} {l : List UInt8} {X n g k : Nat} {W : World} (h : DrO w c v l X n g k W) {t : Nat} (ht : t < n) : DrO w c v l X n g k (W.setCell ⟨g, t * 3 + 2, none⟩ (.slice none 0 0)) := by
  obtain ⟨cur, fp, rfl, hs⟩ := h
  obtain ⟨cur', fp', e, hs'⟩ := hs.nil ht
  exact ⟨cur', fp', e, hs'⟩
theorem DrO.all {w : World} {c : Nat} {v : Value} {l : List UInt8} {X n g k : Nat} {W : World} (h : DrO w c v l X n g k W) : W.cell? ⟨X, 0, none⟩ = some (.slice (some ⟨g, 0, none⟩) n k) ∧ DrO w c v l X n g k W := by
  obtain ⟨cur, fp, rfl, hs⟩ := h
  exact ⟨hs.lx.c0, ⟨cur, fp, rfl, hs⟩⟩
theorem DrO.res {w : World} {c : Nat} {v : Value} {l : List UInt8} {X n g k : Nat} {W : World} (h : DrO w c v l X n g k W) : W.cell? ⟨w.heap.size, 0, none⟩ = some (.slice none 0 0) ∧ W.frozen? ⟨w.heap.size, 0, none⟩ = false := by
  obtain ⟨cur, fp, rfl, hs⟩ := h
  exact ⟨hs.lr.c0, hs.lr.f0⟩
theorem DrO.rcell {w : World} {c : Nat} {v : Value} {l : List UInt8} {X n g k : Nat} {W : World} (h : DrO w c v l X n g k W) {t : Nat} (ht : t < n) : ∃ u, W.cell? ⟨g, t * 3 + 2, none⟩ = some u ∧ W.frozen? ⟨g, t * 3 + 2, none⟩ = false := by
  obtain ⟨cur, fp, rfl, hs⟩ := h
  exact hs.rcell ht
theorem DrO.below {w : World} {c : Nat} {v : Value} {l : List UInt8} {X n g k : Nat} {W : World} (h : DrO w c v l X n g k W) : Cur W c v l ∧ w.grownBy W (some c) := by
  obtain ⟨cur, fp, rfl, hs⟩ := h
  exact ⟨hs.cu, hs.gr⟩
theorem DrO.done {w : World} {c : Nat} {v : Value} {l : List UInt8} {X n g k : Nat} {W : World} (h : DrO w c v l X n g k W) {m : Nat} (hm : n = m) : DbDr m w c v l (.returned (.agg #[.slice (some ⟨g, 0, none⟩) n k])) (W.setCell ⟨w.heap.size, 0, none⟩ (.slice (some ⟨g, 0, none⟩) n k)) := by
  obtain ⟨cur, fp, rfl, hs⟩ := h
  exact hs.done hm
end Go.Proofs.YtinchhahcheadaaGreat.DbDraw

namespace Go.Proofs.YtinchhahcheadaaGreat.DbDraw
open Go Go.RowKit Byt Ints IntsLaw IntsWalk Draw LocDraw Cd Rows2 Tab TabDraw SlMath TabOpen TabElem SlTable Db TabSpec DbMath DbSpec DbExact DbAcc

theorem list1 (x : UInt8) : (⟨#[x]⟩ : ByteArray).toList = [x] := by simp [ByteArray.toList, ByteArray.toList.loop, ByteArray.size, ByteArray.get!]
theorem toL (x y : UInt8) : ((⟨#[x]⟩ : ByteArray).toList == [y]) = decide (x = y) := by rw [list1]; by_cases h : x = y <;> simp [h]
theorem toN {nm : ByteArray} {x : UInt8} (h : nm ≠ ⟨#[x]⟩) : (nm.toList == [x]) = false := by rw [← list1 x, eqB]; exact decide_eq_false h

set_option maxRecDepth 100000 in
set_option maxHeartbeats 3200000 in
theorem db_any (c : Nat) (v : Value) (l : List UInt8) (B : Nat) (w : World) (hc : Cur w c v l) (hr : Reads w v l B) (hB : B ≤ c) :
    Calls Tryz.prog 63 #[.pointer (some ⟨c, 0, none⟩)] w (DbDr 5 w c v l) := by
  have hcs := cur_size hc
  have HR := Lib.hid (fun w' (hg : w.grownBy w' (some c)) => hr.later (below_of hg hB hcs))
  have HC := Lib.hid hc
  clear hc hr
  go_enter Tryz.func63, Tryz.ntmps63
  go_wp2_with fail
  generalize hW : w.alloc _ = W0
  obtain ⟨r0, hz, hb0⟩ := start1 w _ hW
  clear hW
  have HX0 := Lib.hid (Loc1.of r0)
  have HG0 := Lib.hid (grown_below hb0 (some c))
  have HC0 := Lib.hid (cur_below HC.out hb0 hcs)
  have hc1 := cur_allocI (.cells (zv4.map fun z => Value.int .i64 z).toArray 3) HC0.out
  have hg1 := grown_allocI (.cells (zv4.map fun z => Value.int .i64 z).toArray 3) HG0.out
  have HP := Lib.hid (pick_any zv4 W0.heap.size (by decide) (by decide) c v l B _ hc1 (HR.out _ hg1) hB (by omega) (list_cellsI zv4 W0 3))
  rw [hz] at HP
  have HG1 := Lib.hid hg1
  have HX1 := Lib.hid (HX0.out.later (below_alloc W0 (.cells (zv4.map fun z => Value.int .i64 z).toArray 3)))
  have HZ1 := Lib.hid (show (W0.alloc (.cells (zv4.map fun z => Value.int .i64 z).toArray 3)).heap.size = w.heap.size + 2 by rw [size_alloc, hz])
  clear r0 hb0 hc1 hg1 HX0 HG0 HC0
  refine HP.out.mono ?_
  rintro e w2 ⟨t, ht, rfl, hc2, hg2⟩
  have hv := zv4_ok ⟨t, ht⟩
  simp only at hv
  generalize zv4.getD t 0 = zv at *
  obtain ⟨V, rfl⟩ := Int.eq_ofNat_of_zero_le (show 0 ≤ zv by omega)
  have hV : 0 < V ∧ V ≤ 6 := by omega
  have HX2 := Lib.hid (loc1_grown HX1.out hg2 (by omega))
  have HZ2 := Lib.hid (show w.heap.size + 2 ≤ w2.heap.size by have := hg2.size; have := HZ1.out; omega)
  have HG2 := Lib.hid (grown_trans HG1.out hg2)
  have hc3 := cur_allocI (.cells (zm4.map fun z => Value.int .i64 z).toArray 3) hc2
  have hg3 := grown_allocI (.cells (zm4.map fun z => Value.int .i64 z).toArray 3) HG2.out
  have HP3 := Lib.hid (pick_any zm4 w2.heap.size (by decide) (by decide) c v l B _ hc3 (HR.out _ hg3) hB (by have := HZ2.out; omega) (list_cellsI zm4 w2 3))
  have HX3 := Lib.hid (HX2.out.later (below_alloc w2 (.cells (zm4.map fun z => Value.int .i64 z).toArray 3)))
  have HZ3 := Lib.hid (show w.heap.size + 2 ≤ (w2.alloc (.cells (zm4.map fun z => Value.int .i64 z).toArray 3)).heap.size by rw [size_alloc]; have := HZ2.out; omega)
  have HG3 := Lib.hid hg3
  clear hv hc2 hg2 hc3 hg3 HX1 HG1 HX2 HG2 HP HZ1 hz
  go_wp2_with fail
  refine HP3.out.mono ?_
  rintro e w4 ⟨t4, ht4, rfl, hc4, hg4⟩
  have hm := zm4_ok ⟨t4, ht4⟩
  simp only at hm
  generalize zm4.getD t4 0 = zm at *
  obtain ⟨M, rfl⟩ := Int.eq_ofNat_of_zero_le hm.1
  have hM : M ≤ 8 := by omega
  have HX4 := Lib.hid (loc1_grown HX3.out hg4 (by omega))
  have HG4 := Lib.hid (grown_trans HG3.out hg4)
  have HZ4 := Lib.hid (show w.heap.size + 2 ≤ w4.heap.size by have := hg4.size; have := HZ3.out; omega)
  have HC4 := Lib.hid hc4
  clear hm hc4 hg4 HX3 HG3 HP3 HZ3 HZ2
  go_wp2_with fail
  generalize hW : (w4.alloc _).alloc _ = W
  obtain ⟨r0, r1, hz, hb0⟩ := start2g w4 _ _ hW
  have hst : DrS w c v l w4.heap.size [] none 0 [] W := by
    refine ⟨Loc1.of r0, HX4.out.later hb0, fun t ht => ?_, Cd.ow_nil _ _, by simp, (fun T hT => by cases hT), by have := HZ4.out; omega, hcs, by omega, cur_below HC4.out hb0 (by have := HZ4.out; omega), grown_trans HG4.out (grown_below hb0 (some c))⟩
    rcases (show t = 0 ∨ t = 1 ∨ t = 2 ∨ t = 3 ∨ t = 4 by omega) with rfl | rfl | rfl | rfl | rfl <;> simp [World.cell?, r1, nm5]
  have HST := Lib.hid hst
  clear hW hst r0 r1 hb0 hz HX4 HG4 HC4 HZ4
  generalize w4.heap.size = X at *
  go_loopw [7, 8, 19] (fun _ _ n wr => ∃ (k : Nat) (cur : List T3) (a : Option Addr) (cap : Nat) (fp : List Nat), k ≤ 5 ∧ n = .int .i64 k ∧ cur.length = k ∧ (0 < k → ∃ g, a = some ⟨g, 0, none⟩) ∧ DrS w c v l X cur a cap fp wr) (fun _ _ n _ => 5 - (intOf n).toNat)
  case atStart => exact ⟨0, [], none, 0, [], Nat.zero_le _, rfl, rfl, fun h => absurd h (by decide), HST.out⟩
  case round =>
    obtain ⟨k, cur, a, cap, fp, hk, rfl, hlen, hform, hst⟩ := hrel
    have HFO := Lib.hid hform
    clear hform
    have HS := Lib.hid hst
    have HLEN := Lib.hid hlen
    clear hst hlen
    by_cases hlt : k < 5
    · have hnm := nm5_ok ⟨k, hlt⟩
      have hcell := HS.out.nm k hlt
      simp only at hnm
      generalize nm5.getD k ⟨#[]⟩ = nm at *
      have i1 : (0 : Int) ≤ (k : Int) := by omega
      have i2 : (k : Int) < 5 := by omega
      have HLL := Lib.hid (show cur.length + 1 ≤ 1000000000 by have := HLEN.out; omega)
      by_cases eu : nm = ⟨#[117]⟩
      · subst eu
        generalize hnu : (⟨#[117]⟩ : ByteArray) = nm at *
        have t1 : (nm.toList == [117]) = true := by rw [← hnu]; exact toL 117 117
        have t2 : (nm.toList == [118]) = false := by rw [← hnu]; exact toL 117 118
        clear hnu
        have HT := Lib.hid (tab_gen M V hM hV nm 3 (by decide) c v l B wr HS.out.cu (HR.out wr HS.out.gr) hB)
        rw [show ((3 : Nat) : Int) = 3 from rfl] at HT
        go_wp2_with fail
        refine HT.out.mono ?_
        rintro e w5 ⟨y, rows, f, rfl, how, hnf, hwt, hc5, hg5⟩
        obtain ⟨a5, cap5, rfl⟩ := Cd.ow_slice how
        obtain ⟨hL, hD⟩ := HS.out.laid hg5 hc5 how hnf (nm := nm) (ar := 3) ⟨hnm, by show (-1 : Int) ≤ 3 ∧ (3 : Int) ≤ 4; decide, by show rowsWt rows ≤ 32; omega⟩ 51
        have q1 := (HS.out.grown hg5 hc5).lx.c0
        have q2 : X < w5.heap.size := by have := (HS.out.grown hg5 hc5).sz; omega
        have HL := Lib.hid hL
        have HD := Lib.hid hD
        clear hL hD how hnf hwt hc5 hg5 HT
        go_wp2_with (at_builtin; refine Cd.wpList_appendN (c := tabC) rfl (.tmp 34) (.tmp 36) 24 rfl (X + 2) 51 (.agg #[.string ⟨#[]⟩, .int .i64 0, .slice none 0 0]) 3 48 rfl Tryz.underlying24 info_x rfl (by decide) _ cur fp rfl HL.out.ow HL.out.nd (w5.heap.size + 1) _ rfl HD.out.at_ (nm, 3, rows) f HD.out.ow HD.out.nd HD.out.far HLL.out HD.out.sz ?_)
        intro g cap4 w6 fp6 ho6 hn6 hs6 ht6
        obtain ⟨e0, e1⟩ := HL.out.fcell ht6
        have HA := Lib.hid (HL.out.app HD.out.ok ht6 ho6 hn6)
        clear ho6 hn6 hs6 ht6
        go_wp2_with fail
        go_roundw
        case rel => exact ⟨k + 1, cur ++ [(nm, 3, rows)], _, _, fp6, by omega, by go_num, by rw [List.length_append]; have := HLEN.out; simp; omega, fun _ => ⟨g, rfl⟩, HA.out⟩
        case measure => simp [intOf]; omega
      have t1 : (nm.toList == [117]) = false := by
        exact toN eu
      by_cases ev : nm = ⟨#[118]⟩
      · have t2 : (nm.toList == [118]) = true := by rw [ev]; exact toL 118 118
        clear ev eu
        have HT := Lib.hid (tab_gen M V hM hV nm 1 (by decide) c v l B wr HS.out.cu (HR.out wr HS.out.gr) hB)
        rw [show ((1 : Nat) : Int) = 1 from rfl] at HT
        go_wp2_with fail
        refine HT.out.mono ?_
        rintro e w5 ⟨y, rows, f, rfl, how, hnf, hwt, hc5, hg5⟩
        obtain ⟨a5, cap5, rfl⟩ := Cd.ow_slice how
        obtain ⟨hL, hD⟩ := HS.out.laid hg5 hc5 how hnf (nm := nm) (ar := 1) ⟨hnm, by show (-1 : Int) ≤ 1 ∧ (1 : Int) ≤ 4; decide, by show rowsWt rows ≤ 32; omega⟩ 51
        have q1 := (HS.out.grown hg5 hc5).lx.c0
        have q2 : X < w5.heap.size := by have := (HS.out.grown hg5 hc5).sz; omega
        have HL := Lib.hid hL
        have HD := Lib.hid hD
        clear hL hD how hnf hwt hc5 hg5 HT
        go_wp2_with (at_builtin; refine Cd.wpList_appendN (c := tabC) rfl (.tmp 34) (.tmp 36) 24 rfl (X + 2) 51 (.agg #[.string ⟨#[]⟩, .int .i64 0, .slice none 0 0]) 3 48 rfl Tryz.underlying24 info_x rfl (by decide) _ cur fp rfl HL.out.ow HL.out.nd (w5.heap.size + 1) _ rfl HD.out.at_ (nm, 1, rows) f HD.out.ow HD.out.nd HD.out.far HLL.out HD.out.sz ?_)
        intro g cap4 w6 fp6 ho6 hn6 hs6 ht6
        obtain ⟨e0, e1⟩ := HL.out.fcell ht6
        have HA := Lib.hid (HL.out.app HD.out.ok ht6 ho6 hn6)
        clear ho6 hn6 hs6 ht6
        go_wp2_with fail
        go_roundw
        case rel => exact ⟨k + 1, cur ++ [(nm, 1, rows)], _, _, fp6, by omega, by go_num, by rw [List.length_append]; have := HLEN.out; simp; omega, fun _ => ⟨g, rfl⟩, HA.out⟩
        case measure => simp [intOf]; omega
      · have t2 : (nm.toList == [118]) = false := toN ev
        clear ev eu
        have HT := Lib.hid (tab_gen M V hM hV nm 2 (by decide) c v l B wr HS.out.cu (HR.out wr HS.out.gr) hB)
        rw [show ((2 : Nat) : Int) = 2 from rfl] at HT
        go_wp2_with fail
        refine HT.out.mono ?_
        rintro e w5 ⟨y, rows, f, rfl, how, hnf, hwt, hc5, hg5⟩
        obtain ⟨a5, cap5, rfl⟩ := Cd.ow_slice how
        obtain ⟨hL, hD⟩ := HS.out.laid hg5 hc5 how hnf (nm := nm) (ar := 2) ⟨hnm, by show (-1 : Int) ≤ 2 ∧ (2 : Int) ≤ 4; decide, by show rowsWt rows ≤ 32; omega⟩ 51
        have q1 := (HS.out.grown hg5 hc5).lx.c0
        have q2 : X < w5.heap.size := by have := (HS.out.grown hg5 hc5).sz; omega
        have HL := Lib.hid hL
        have HD := Lib.hid hD
        clear hL hD how hnf hwt hc5 hg5 HT
        go_wp2_with (at_builtin; refine Cd.wpList_appendN (c := tabC) rfl (.tmp 34) (.tmp 36) 24 rfl (X + 2) 51 (.agg #[.string ⟨#[]⟩, .int .i64 0, .slice none 0 0]) 3 48 rfl Tryz.underlying24 info_x rfl (by decide) _ cur fp rfl HL.out.ow HL.out.nd (w5.heap.size + 1) _ rfl HD.out.at_ (nm, 2, rows) f HD.out.ow HD.out.nd HD.out.far HLL.out HD.out.sz ?_)
        intro g cap4 w6 fp6 ho6 hn6 hs6 ht6
        obtain ⟨e0, e1⟩ := HL.out.fcell ht6
        have HA := Lib.hid (HL.out.app HD.out.ok ht6 ho6 hn6)
        clear ho6 hn6 hs6 ht6
        go_wp2_with fail
        go_roundw
        case rel => exact ⟨k + 1, cur ++ [(nm, 2, rows)], _, _, fp6, by omega, by go_num, by rw [List.length_append]; have := HLEN.out; simp; omega, fun _ => ⟨g, rfl⟩, HA.out⟩
        case measure => simp [intOf]; omega
    · have ek : k = 5 := by omega
      subst ek
      have HON := Lib.hid (once_anyI 8 c v l B wr HS.out.cu (HR.out wr HS.out.gr) hB)
      go_wp2_with fail
      refine HON.out.mono ?_
      rintro e w9 ⟨b, rfl, hc9, hg9⟩
      have HS9 := Lib.hid (HS.out.grown hg9 hc9)
      have y0 := HS9.out.lx.c0
      have y1 := HS9.out.lr.c0
      have y2 := HS9.out.lr.f0
      clear hc9 hg9 HON
      cases b
      · go_wp2_with fail
        have k0 : (w9.setCell ⟨w.heap.size, 0, none⟩ (.slice a cur.length cap)).cell? ⟨w.heap.size, 0, none⟩ = some (.slice a cur.length cap) := World.cell?_setCell_same _ _ _ y1
        refine bodyPost_ret (v := .agg #[.slice a cur.length cap]) (by simp [results, Tryz.results63, go_sem, k0]) rfl (HS9.out.done HLEN.out)
      · obtain ⟨g, rfl⟩ := HFO.out (by decide)
        have HB := Lib.hid (fun W' (h : DrO w c v l X cur.length g cap W') => below_any 5 c v l B W' h.below.1 (HR.out _ h.below.2) hB)
        have hs0 : DrO w c v l X cur.length g cap w9.drew := DrO.of HS9.out.drew
        go_wp2_with fail
        go_region_held3 (fun wx => wx.cell? ⟨X, 0, none⟩ = some (.slice (some ⟨g, 0, none⟩) cur.length cap) ∧ DrO w c v l X cur.length g cap wx)
          (exact DrO.all (by first | assumption | exact DrO.nil (by assumption) (by assumption)))
          (first | (go_at_call 64; refine (HB.out _ (by assumption)).mono ?_; rintro e w7 ⟨x, rfl, hx0, hx1, hc7, hg7⟩; obtain ⟨j, rfl⟩ := Int.eq_ofNat_of_zero_le hx0; (have hjl : j < cur.length := by have := hx1 (by decide); have := HLEN.out; omega); (have p1 : (0 : Int) ≤ (j : Int) := by omega); (have p2 : (j : Int) < (cur.length : Int) := by omega); (have hs7 : DrO w c v l X cur.length g cap w7 := DrO.grown (by assumption) hg7 hc7); obtain ⟨u, hu, hf⟩ := hs7.rcell hjl; (have HN := Lib.hid (hs7.nil hjl)); clear hx0 hx1 hc7 hg7))
        all_goals
          have z0 := (DrO.all HN.out).1
          obtain ⟨z1, z2⟩ := DrO.res HN.out
          go_wp2_with fail
          have k0 := World.cell?_setCell_same _ _ (.slice (some ⟨g, 0, none⟩) cur.length cap) z1
          refine bodyPost_ret (v := .agg #[.slice (some ⟨g, 0, none⟩) cur.length cap]) (by simp [results, Tryz.results63, go_sem, k0]) rfl (DrO.done HN.out HLEN.out)
end Go.Proofs.YtinchhahcheadaaGreat.DbDraw
