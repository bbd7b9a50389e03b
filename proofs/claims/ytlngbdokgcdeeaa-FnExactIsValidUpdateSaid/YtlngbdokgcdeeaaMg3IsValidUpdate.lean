/- Texts that the proof rests on, one behind the other. -/
import Derived.Test.YtlngbdokgcdeeaaUpdApp
import Derived.Test.YtlngbdokgcdeeaaMg1IsValidUpdate
import Derived.Test.YtlngbdokgcdeeaaMg2IsValidUpdate
import Derived.Deep.DeepCutAuto
import Derived.Test.YtlngbdokgcdeeaaDb
import Derived.Test.YtlngbdokgcdeeaaTabOpen
import Derived.Test.YtlngbdokgcdeeaaDbExact
import Derived.Test.YtlngbdokgcdeeaaUpd

namespace Go.Proofs.Ytlngbdokgcdeeaa.UpdApp
open Go Go.RowKit Byt Ints IntsLaw Cd Rows2 Tab SlMath TabOpen TabElem SlTable Db TabSpec DbMath DbExact Exact Upd UpdMath UpdFmt
open DbSpec (LookAns lk_some lk_none)
open DbAcc (DbAns)
open TabImp (impl_insert impl_delete)

theorem laterU_drew {a w : World} (h : LaterU a w) : LaterU a w.drew := Below.drew h
theorem laterU_alloc {a w : World} (h : LaterU a w) (o : Obj) : LaterU a (w.alloc o) := below_then h (below_alloc w o)
theorem laterU_set3 {a w : World} {k : Nat} {x y z : Value} (h : LaterU a w) (hk : a.heap.size ≤ k) : LaterU a (((w.setCell ⟨k, 0, none⟩ x).setCell ⟨k, 1, none⟩ y).setCell ⟨k, 2, none⟩ z) :=
  ((Below.setCell h hk _).setCell hk _).setCell hk _
theorem laterU_size {a w : World} (h : LaterU a w) : a.heap.size ≤ w.heap.size := Below.size h
theorem locU_new {W wq : World} {x0 x1 x2 : Value} {T : TypeId} (hb : Below (W.alloc (.cells #[x0, x1, x2] T (0, 0))).heap.size (W.alloc (.cells #[x0, x1, x2] T (0, 0))) wq) : Loc3 wq W.heap.size x0 x1 x2 :=
  (Loc3.of (start1 W _ rfl).1).later hb
theorem newU_lt {W wq : World} {x0 x1 x2 : Value} {T : TypeId} (_ : Below (W.alloc (.cells #[x0, x1, x2] T (0, 0))).heap.size (W.alloc (.cells #[x0, x1, x2] T (0, 0))) wq) : W.heap.size < (W.alloc (.cells #[x0, x1, x2] T (0, 0))).heap.size := by rw [size_alloc]; omega
theorem locU_new3 {W wq : World} {x0 x1 x2 : Value} {T : TypeId} (hb : Below (W.alloc (.cells #[x0, x1, x2] T (0, 0))).drew.heap.size (W.alloc (.cells #[x0, x1, x2] T (0, 0))).drew wq) : Loc3 wq W.heap.size x0 x1 x2 :=
  (loc_drew (Loc3.of (start1 W _ rfl).1)).later hb
theorem newU_lt3 {W wq : World} {x0 x1 x2 : Value} {T : TypeId} (_ : Below (W.alloc (.cells #[x0, x1, x2] T (0, 0))).drew.heap.size (W.alloc (.cells #[x0, x1, x2] T (0, 0))).drew wq) : W.heap.size < (W.alloc (.cells #[x0, x1, x2] T (0, 0))).drew.heap.size := by
  show W.heap.size < (W.alloc (.cells #[x0, x1, x2] T (0, 0))).heap.size
  rw [size_alloc]; omega
/-- A local table, made behind W1. -/
def MadeT (W1 : World) (nm : ByteArray) (ar : Int) (rows : List (List Int)) (s8 : Value) (wx : World) : Prop :=
  ∃ k a c fp, s8 = .pointer (some ⟨k, 0, none⟩) ∧ W1.heap.size ≤ k ∧ Loc3 wx k (.string nm) (.int .i64 ar) (.slice a rows.length c) ∧ rowsC.ow wx W1.heap.size [.slice a rows.length c] rows fp ∧ fp.Nodup ∧ Below W1.heap.size W1 wx
theorem madeT {W1 wq : World} {k : Nat} {a : Option Addr} {c n : Nat} {x0 x1 x2 : Value} {nm : ByteArray} {ar : Int} {rows : List (List Int)} {fp : List Nat} (kk : LaterU W1 wq) (hb : W1.heap.size ≤ k) (GL : Loc3 wq k x0 x1 x2)
    (HO : rowsC.ow wq W1.heap.size [.slice a n c] rows fp) (hn : n = rows.length) (hnd : fp.Nodup) (hbn : k ∉ fp) :
    MadeT W1 nm ar rows (.pointer (some ⟨k, 0, none⟩)) (((wq.setCell ⟨k, 0, none⟩ (.string nm)).setCell ⟨k, 1, none⟩ (.int .i64 ar)).setCell ⟨k, 2, none⟩ (.slice a n c)) := by
  subst hn
  obtain ⟨c0, c1, c2, f0, f1, f2⟩ := GL
  obtain ⟨k0, k1, k2⟩ := set3 (w := wq) (k := k) (x := .string nm) (y := .int .i64 ar) (z := .slice a rows.length c) c0 c1 c2
  exact ⟨k, a, c, fp, rfl, hb, ⟨k0, k1, k2, by simpa using f0, by simpa using f1, by simpa using f2⟩, ow_setCell (ow_setCell (ow_setCell HO hbn _) hbn _) hbn _, hnd, ((Below.setCell kk hb _).setCell hb _).setCell hb _⟩
theorem madeT2 {W1 wq : World} {a : Option Addr} {c n : Nat} {T : TypeId} {nm : ByteArray} {ar : Int} {rows : List (List Int)} {fp : List Nat} (kk : LaterU W1 wq)
    (HO : rowsC.ow wq W1.heap.size [.slice a n c] rows fp) (hn : n = rows.length) (hnd : fp.Nodup) :
    MadeT W1 nm ar rows (.pointer (some ⟨wq.heap.size, 0, none⟩)) (wq.alloc (.cells #[.string nm, .int .i64 ar, .slice a n c] T (0, 0))) := by
  subst hn
  exact ⟨wq.heap.size, a, c, fp, rfl, Below.size kk, Loc3.of (start1 wq _ rfl).1, Cd.ow_later HO (below_alloc _ _), hnd, below_then kk (below_alloc _ _)⟩

theorem m_apply_true (w : World) : (method 252 68 (.agg #[]) "loop.example/g01921/impl.applyTo").run Try.prog w = .ok (128, .agg #[]) w := by kernel_rfl
set_option maxRecDepth 100000 in
set_option maxHeartbeats 1600000 in
theorem apply_true (nm : ByteArray) (ar : Int) (u v : Value) (rows : List (List Int)) (row : List Int) (S S2 : Nat → Prop) (w : World) (hr : rowsC.rd w S [u] rows) (hv : rowC.rd w S2 [v] row) (hrw : rowsWt rows ≤ 1048577) (hnm : nm.size ≤ 1048577) (hrl : row.length ≤ 1048577) :
    Calls Try.prog 128 #[.agg #[], .agg #[.string nm, .int .i64 ar, u], v] w fun e w' => ∃ u' fp, e = .returned (.tuple #[.agg #[.string nm, .int .i64 ar, u'], .bool (insOk nm ar rows row)]) ∧ rowsC.ow w' w.heap.size [u'] (insR nm ar rows row) fp ∧ fp.Nodup ∧ Below w.heap.size w w' := by
  have HC := Lib.hid (fun w' (hb : Below w.heap.size w w') => impl_insert nm ar u v rows row S S2 w' (Cd.later hr hb) (Cd.later hv hb) hrw hnm hrl)
  obtain ⟨a, cap, rfl, hlm⟩ := rows_form hr
  clear hr hv
  go_enter Try.func128, Try.ntmps128
  go_wp2_with fail
  generalize hW : ((w.alloc _).alloc _).alloc _ = W
  obtain ⟨r0, r1, r2, hz, hb0⟩ := start3 w _ _ _ hW
  clear hW r0
  refine (HC.out W hb0).mono ?_
  rintro e w1 ⟨u', fp, rfl, how, hnd, hb1⟩
  obtain ⟨a1, c1, rfl⟩ := Cd.ow_slice how
  have HX := Lib.hid ((Loc3.of r2).later hb1)
  have HOW := Lib.hid how
  have HND := Lib.hid hnd
  have HB := Lib.hid (below_then hb0 hb1)
  have HZ := Lib.hid hz
  clear how hnd hb1 hb0 r1 r2 hz
  obtain ⟨p0, p1, p2, q0, q1, q2⟩ := HX.out
  go_wp2_with fail
  obtain ⟨k0, k1, k2⟩ := set3 (w := w1) (k := w.heap.size + 2) (x := .string nm) (y := .int .i64 ar) (z := .slice a1 (insR nm ar rows row).length c1) p0 p1 p2
  refine bodyPost_ret (v := .tuple #[.agg #[.string nm, .int .i64 ar, .slice a1 (insR nm ar rows row).length c1], .bool (insOk nm ar rows row)]) (by simp [results, Try.results128, go_sem, k0, k1, k2]) rfl ⟨_, fp, rfl, ?_, HND.out, ?_⟩
  · have hn : w.heap.size + 2 ∉ fp := fun q => by
      have h1 := (rowsC.ow_lt HOW.out _ q).1
      have h2 := HZ.out
      omega
    exact ow_setCell (ow_setCell (ow_setCell (rowsC.ow_base HOW.out (by have := HZ.out; omega)) hn _) hn _) hn _
  · exact ((HB.out.setCell (by show _ ≤ w.heap.size + 2; omega) _).setCell (by show _ ≤ w.heap.size + 2; omega) _).setCell (by show _ ≤ w.heap.size + 2; omega) _

theorem m_apply_false (w : World) : (method 252 83 (.agg #[]) "loop.example/g01921/impl.applyTo").run Try.prog w = .ok (137, .agg #[]) w := by kernel_rfl
set_option maxRecDepth 100000 in
set_option maxHeartbeats 1600000 in
theorem apply_false (nm : ByteArray) (ar : Int) (u v : Value) (rows : List (List Int)) (row : List Int) (S S2 : Nat → Prop) (w : World) (hr : rowsC.rd w S [u] rows) (hv : rowC.rd w S2 [v] row) (hrw : rowsWt rows ≤ 1048577) (hnm : nm.size ≤ 1048577) :
    Calls Try.prog 137 #[.agg #[], .agg #[.string nm, .int .i64 ar, u], v] w fun e w' => ∃ u' fp, e = .returned (.tuple #[.agg #[.string nm, .int .i64 ar, u'], .bool (hasR nm ar rows row)]) ∧ rowsC.ow w' w.heap.size [u'] (delR nm ar rows row) fp ∧ fp.Nodup ∧ Below w.heap.size w w' := by
  have HC := Lib.hid (fun w' (hb : Below w.heap.size w w') => impl_delete nm ar u v rows row S S2 w' (Cd.later hr hb) (Cd.later hv hb) hrw hnm)
  obtain ⟨a, cap, rfl, hlm⟩ := rows_form hr
  clear hr hv
  go_enter Try.func137, Try.ntmps137
  go_wp2_with fail
  generalize hW : ((w.alloc _).alloc _).alloc _ = W
  obtain ⟨r0, r1, r2, hz, hb0⟩ := start3 w _ _ _ hW
  clear hW r0
  refine (HC.out W hb0).mono ?_
  rintro e w1 ⟨u', fp, rfl, how, hnd, hb1⟩
  obtain ⟨a1, c1, rfl⟩ := Cd.ow_slice how
  have HX := Lib.hid ((Loc3.of r2).later hb1)
  have HOW := Lib.hid how
  have HND := Lib.hid hnd
  have HB := Lib.hid (below_then hb0 hb1)
  have HZ := Lib.hid hz
  clear how hnd hb1 hb0 r1 r2 hz
  obtain ⟨p0, p1, p2, q0, q1, q2⟩ := HX.out
  go_wp2_with fail
  obtain ⟨k0, k1, k2⟩ := set3 (w := w1) (k := w.heap.size + 2) (x := .string nm) (y := .int .i64 ar) (z := .slice a1 (delR nm ar rows row).length c1) p0 p1 p2
  refine bodyPost_ret (v := .tuple #[.agg #[.string nm, .int .i64 ar, .slice a1 (delR nm ar rows row).length c1], .bool (hasR nm ar rows row)]) (by simp [results, Try.results137, go_sem, k0, k1, k2]) rfl ⟨_, fp, rfl, ?_, HND.out, ?_⟩
  · have hn : w.heap.size + 2 ∉ fp := fun q => by
      have h1 := (rowsC.ow_lt HOW.out _ q).1
      have h2 := HZ.out
      omega
    exact ow_setCell (ow_setCell (ow_setCell (rowsC.ow_base HOW.out (by have := HZ.out; omega)) hn _) hn _) hn _
  · exact ((HB.out.setCell (by show _ ≤ w.heap.size + 2; omega) _).setCell (by show _ ≤ w.heap.size + 2; omega) _).setCell (by show _ ≤ w.heap.size + 2; omega) _

set_option maxRecDepth 100000 in
set_option maxHeartbeats 6400000 in
theorem impl_apply_true (u v : Value) (l : List T3) (nm : ByteArray) (row : List Int) (S S2 : Nat → Prop) (w : World) (h1 : tabsC.rd w S [u] l) (h2 : rowC.rd w S2 [v] row) (hw : wtS l ≤ 1048577) (hrl : row.length ≤ 1048577) (hs : nm.size ≤ 1048576) :
    Calls Try.prog 31 #[.agg #[u], .agg #[.string nm, .bool true, v]] w fun e w' => DbAns (appL l nm true row) (appOk l nm true row) w e w' := by
  have HL := Lib.hid (fun w' (hb : Below w.heap.size w w') => DbImp.impl_look u l nm S w' (Cd.later h1 hb) hw hs)
  have HDC := Lib.hid (fun w' (hb : Below w.heap.size w w') => DbImp.impl_dbcopy u l S w' (Cd.later h1 hb) hw)
  have HV := Lib.hid (fun w' (hb : Below w.heap.size w w') => Cd.later h2 hb)
  have HR := Lib.hid (fun w' (hb : Below w.heap.size w w') => Cd.later h1 hb)
  have HW := Lib.hid hw
  have HRL := Lib.hid hrl
  obtain ⟨a1, cap1, rfl, hl1⟩ := Cd.sl_form h1
  obtain ⟨a2, cap2, rfl, hl2⟩ := row_form h2
  clear h1 h2 hw hrl hs
  have HAP := Lib.hid (fun (T : T3) (hT : rowsWt T.2.2 ≤ 40 ∧ T.1.size ≤ 40) u' S' w' (h : rowsC.rd w' S' [u'] T.2.2) (hb : Below w.heap.size w w') =>
    (show Calls Try.prog 128 #[.agg #[], .agg #[.string T.1, .int .i64 T.2.1, u'], .slice a2 row.length cap2] w' fun e w'' => ∃ u'' fp, e = .returned (.tuple #[.agg #[.string T.1, .int .i64 T.2.1, u''], .bool (chOk T true row)]) ∧ rowsC.ow w'' w'.heap.size [u''] (chR T true row) fp ∧ fp.Nodup ∧ Below w'.heap.size w' w'' from apply_true T.1 T.2.1 u' (.slice a2 row.length cap2) T.2.2 row S' S2 w' h (HV.out w' hb) (by omega) (by omega) (by have := HRL.out; omega)))
  have HCH := Lib.hid (fun w' => change_of nm true (.slice a2 row.length cap2) w')
  change Hid (∀ w', Calls _ _ _ _ fun e w'' => e = .returned (.iface 68 (.agg #[])) ∧ _) at HCH
  go_enter Try.func31, Try.ntmps31
  go_wp2_with fail
  generalize hW : ((w.alloc _).alloc _).alloc _ = W
  obtain ⟨r0, r1, r2, hz, hb0⟩ := start3 w _ _ _ hW
  have HC0 := Lib.hid (Loc1.of r0)
  have HC1 := Lib.hid (Loc3.of r1)
  have HC2 := Lib.hid (Loc1.of r2)
  have HB0 := Lib.hid hb0
  have HZ := Lib.hid hz
  clear hW r0 r1 r2 hz hb0
  refine (HL.out _ HB0.out).mono ?_
  rintro e w1 ⟨v1, fp, rfl, ho, hn, hb1⟩
  obtain ⟨a3, c3, rfl⟩ := Cd.ow_slice ho
  have HB1 := Lib.hid (below_then HB0.out hb1)
  have HC0a := Lib.hid (HC0.out.later hb1)
  have HC1a := Lib.hid (HC1.out.later hb1)
  have HC2a := Lib.hid (HC2.out.later hb1)
  have HZ1 := Lib.hid (show w.heap.size + 3 ≤ w1.heap.size by have := hb1.size; have := HZ.out; omega)
  have HO := Lib.hid ho
  clear ho hn hb1 HC0 HC1 HC2
  cases hl : lookL l nm with
  | none =>
    have HA := Lib.hid (app_none (appT_none (b := true) (row := row) hl))
    rw [lk_none hl]
    clear HO hl HCH HAP
    have q0 := HC0a.out.c0
    have q1 := HC0a.out.lt
    go_wp2_with fail
    refine (HDC.out _ (below_then HB1.out (below_alloc _ _))).mono ?_
    rintro e w3 ⟨a4, c4, f3, rfl, ho3, hn3, hb3⟩
    have HC3 := Lib.hid (Loc1.later (HC2a.out.later (below_alloc _ _)) hb3)
    have y0 := HC3.out.c0
    have y1 := HC3.out.f0
    have HX := Lib.hid (ans_far ho3 hn3 (below_then HB1.out (below_alloc _ _)) hb3 (Y := w.heap.size + 2) (by omega) (by rw [size_alloc]; have := HZ1.out; omega) HA.out.1.symm HA.out.2.symm)
    clear ho3 hn3 hb3 q0 q1
    go_wp2_with fail
    have k0 : (w3.setCell ⟨w.heap.size + 2, 0, none⟩ (.slice a4 l.length c4)).cell? ⟨w.heap.size + 2, 0, none⟩ = some (.slice a4 l.length c4) := World.cell?_setCell_same _ _ _ y0
    refine bodyPost_ret (v := .tuple #[.agg #[.slice a4 l.length c4], .bool false]) (by simp [results, Try.results31, go_sem, k0]) rfl ?_
    exact HX.out
  | some T =>
    obtain ⟨hdb, hmem, hnmT, hok⟩ := look_ok hl
    have hw40 := wt_rows (wt_ok hok)
    have HOK := Lib.hid hok
    have HW40 := Lib.hid hw40
    have HLK := Lib.hid hl
    rw [lk_some hl] at HO ⊢
    clear hdb hmem hnmT hok hw40 hl
    go_upto_region 4 with fail
    generalize hW2 : w1.alloc _ = W2
    obtain ⟨s0, sz, sb⟩ := start1 w1 _ hW2
    have HT6 := Lib.hid (Loc3.of s0)
    have HC1b := Lib.hid (HC1a.out.later sb)
    have HB2 := Lib.hid (below_then HB1.out sb)
    have HC0b := Lib.hid (HC0a.out.later sb)
    have HC2b := Lib.hid (HC2a.out.later sb)
    have HO2 := Lib.hid (Cd.ow_later HO.out sb)
    have HZ2 := Lib.hid sz
    have S7 := Lib.hid (fun wx (h : LaterU W2 wx) => And.intro (HC1b.out.later h).c0 (And.intro (HC1b.out.later h).c1 (And.intro (HC1b.out.later h).c2 (And.intro (HT6.out.later h).c0 (And.intro (HT6.out.later h).c1 (And.intro (HT6.out.later h).c2 h))))))
    have HA2 := Lib.hid (fun w' (h : LaterU W2 w') => HAP.out T HW40.out _ _ w' (rowsC.ow_rd (Cd.ow_later HO2.out h)) (below_then HB2.out h))
    clear hW2 s0 sz sb HAP
    have hm := m_apply_true
    have kk : LaterU W2 W2.drew := laterU_drew (Below.refl _ W2)
    obtain ⟨h0, h1, h2, h3, h4, h5, h6⟩ := S7.out _ kk
    go_cut [8, 9] (fun s8 s9 wx => s9 = .bool (chOk T true row) ∧ MadeT W2 T.1 T.2.1 (chR T true row) s8 wx)
    case first =>
      generalize chOk T true row = ck at *
      generalize chR T true row = cr at *
      go_region_held3 (fun wx => wx.cell? ⟨w.heap.size + 1, 0, none⟩ = some (.string nm) ∧ wx.cell? ⟨w.heap.size + 1, 1, none⟩ = some (.bool true) ∧ wx.cell? ⟨w.heap.size + 1, 2, none⟩ = some (.slice a2 row.length cap2) ∧ wx.cell? ⟨w1.heap.size, 0, none⟩ = some (.string T.1) ∧ wx.cell? ⟨w1.heap.size, 1, none⟩ = some (.int .i64 T.2.1) ∧ wx.cell? ⟨w1.heap.size, 2, none⟩ = some (.slice a3 T.2.2.length c3) ∧ LaterU W2 wx)
        ((first | exact S7.out _ (by first | assumption | exact laterU_drew (Below.refl _ W2) | exact laterU_alloc (by first | assumption | exact laterU_drew (Below.refl _ W2)) _ | exact laterU_set3 (by first | assumption | exact laterU_alloc (by assumption) _) (laterU_size (by first | assumption | exact Below.refl _ _)))))
        (first | (go_at_call 47; refine (HCH.out _).mono ?_; rintro e wq ⟨rfl, hbq⟩; (have kk : LaterU W2 wq := below_then (by first | assumption | exact laterU_alloc (by assumption) _ | exact laterU_drew (laterU_alloc (Below.refl _ W2) _) | exact laterU_drew (Below.refl _ W2)) hbq); (first | (have GB := Lib.hid GL.out.lt; have GL := Lib.hid (GL.out.later hbq)) | (have GB := Lib.hid (newU_lt hbq); have GL := Lib.hid (locU_new hbq)) | (have GB := Lib.hid (newU_lt3 hbq); have GL := Lib.hid (locU_new3 hbq)) | skip); obtain ⟨h0, h1, h2, h3, h4, h5, h6⟩ := S7.out _ kk; clear hbq) | (go_at_call 128; refine (HA2.out _ (by first | assumption | exact laterU_alloc (by assumption) _)).mono ?_; rintro e wq ⟨u5, f5, rfl, how, hnd, hbq⟩; obtain ⟨a5, c5, rfl⟩ := Cd.ow_slice how; (have kk : LaterU W2 wq := below_then (by first | assumption | exact laterU_alloc (by assumption) _ | exact laterU_drew (laterU_alloc (Below.refl _ W2) _) | exact laterU_drew (Below.refl _ W2)) hbq); (first | (have GB := Lib.hid GL.out.lt; have GL := Lib.hid (GL.out.later hbq)) | (have GB := Lib.hid (newU_lt hbq); have GL := Lib.hid (locU_new hbq)) | (have GB := Lib.hid (newU_lt3 hbq); have GL := Lib.hid (locU_new3 hbq)) | skip); obtain ⟨h0, h1, h2, h3, h4, h5, h6⟩ := S7.out _ kk; (have HO5 := Lib.hid (rowsC.ow_base how (laterU_size (a := W2) (by first | assumption | exact laterU_alloc (by assumption) _)))); (have HLT := Lib.hid (rowsC.ow_lt how)); (have HND := Lib.hid hnd); (first | (have x0 := GL.out.c0; have x1 := GL.out.c1; have x2 := GL.out.c2; have f0 := GL.out.f0; have f1 := GL.out.f1; have f2 := GL.out.f2) | skip); clear hbq how hnd))
      all_goals
        go_wp2_with fail
        go_meet
        refine ⟨rfl, ?_⟩
        first
          | (have GG := GL.out; exact madeT (by assumption) (laterU_size (by first | assumption | exact Below.refl _ _)) GG HO5.out rfl HND.out (fun q => by have h1 := (HLT.out _ q).1; have h2 := GB.out; omega))
          | (with_reducible exact madeT2 (by assumption) HO5.out rfl HND.out)
    case rest =>
      obtain ⟨rfl, k, a5, c5, f5, rfl, hk, hx, how, hnd, hl⟩ := hcut
      clear h0 h1 h2 h3 h4 h5 h6 kk hm S7 HA2 HCH
      have HBS := Lib.hid (below_then HB2.out hl)
      have HC0d := Lib.hid (HC0b.out.later hl)
      have HC2d := Lib.hid (HC2b.out.later hl)
      have HTX := Lib.hid hx
      have HO4 := Lib.hid how
      have HSS := Lib.hid (show w.heap.size + 2 < wc.heap.size by have := HZ1.out; have := HZ2.out; have := hl.size; omega)
      have HKK := Lib.hid hk
      have HND := Lib.hid hnd
      clear hx how hnd hk hl
      obtain ⟨x0, x1, x2, _, _, _⟩ := HTX.out
      have q0 := HC0d.out.c0
      cases hk : chOk T true row
      · have HA := Lib.hid (app_none (appT_no (b := true) (row := row) HLK.out hk))
        clear hk
        go_wp2_with fail
        refine (HDC.out _ HBS.out).mono ?_
        rintro e w6 ⟨a6, c6, f6, rfl, ho6, hn6, hb6⟩
        have HC6 := Lib.hid (HC2d.out.later hb6)
        have y0 := HC6.out.c0
        have y1 := HC6.out.f0
        have HX := Lib.hid (ans_far ho6 hn6 HBS.out hb6 (Y := w.heap.size + 2) (by omega) HSS.out HA.out.1.symm HA.out.2.symm)
        clear ho6 hn6 hb6 x0 x1 x2 q0
        go_wp2_with fail
        have k0 : (w6.setCell ⟨w.heap.size + 2, 0, none⟩ (.slice a6 l.length c6)).cell? ⟨w.heap.size + 2, 0, none⟩ = some (.slice a6 l.length c6) := World.cell?_setCell_same _ _ _ y0
        refine bodyPost_ret (v := .tuple #[.agg #[.slice a6 l.length c6], .bool false]) (by simp [results, Try.results31, go_sem, k0]) rfl ?_
        exact HX.out
      · have HA := Lib.hid (app_some (appT_yes (b := true) (row := row) HLK.out hk))
        have HWC := Lib.hid (wt_ok (ok_ch HOK.out hk))
        clear hk
        go_wp2_with fail
        refine (DbImp.impl_set _ l (chT T true row) a5 c5 S _ _ (HR.out _ HBS.out) (chT_rd (rowsC.ow_rd HO4.out) HOK.out) HW.out (by have := HWC.out; omega)).mono ?_
        rintro e w6 ⟨u6, f6, rfl, ho6, hn6, hb6⟩
        obtain ⟨a6, c6, rfl⟩ := Cd.ow_slice (c := tabC) ho6
        have HC6 := Lib.hid (HC2d.out.later hb6)
        have y0 := HC6.out.c0
        have y1 := HC6.out.f0
        have HX := Lib.hid (ans_far ho6 hn6 HBS.out hb6 (Y := w.heap.size + 2) (by omega) HSS.out HA.out.1.symm HA.out.2.symm)
        clear ho6 hn6 hb6 x0 x1 x2 q0
        go_wp2_with fail
        have k0 := World.cell?_setCell_same _ _ (.slice a6 (setL l (chT T true row)).length c6) y0
        refine bodyPost_ret (v := .tuple #[.agg #[.slice a6 (setL l (chT T true row)).length c6], .bool (setOk l (chT T true row))]) (by simp [results, Try.results31, go_sem, k0]) rfl ?_
        exact HX.out
set_option maxRecDepth 100000 in
set_option maxHeartbeats 6400000 in
theorem impl_apply_false (u v : Value) (l : List T3) (nm : ByteArray) (row : List Int) (S S2 : Nat → Prop) (w : World) (h1 : tabsC.rd w S [u] l) (h2 : rowC.rd w S2 [v] row) (hw : wtS l ≤ 1048577) (hrl : row.length ≤ 1048577) (hs : nm.size ≤ 1048576) :
    Calls Try.prog 31 #[.agg #[u], .agg #[.string nm, .bool false, v]] w fun e w' => DbAns (appL l nm false row) (appOk l nm false row) w e w' := by
  have HL := Lib.hid (fun w' (hb : Below w.heap.size w w') => DbImp.impl_look u l nm S w' (Cd.later h1 hb) hw hs)
  have HDC := Lib.hid (fun w' (hb : Below w.heap.size w w') => DbImp.impl_dbcopy u l S w' (Cd.later h1 hb) hw)
  have HV := Lib.hid (fun w' (hb : Below w.heap.size w w') => Cd.later h2 hb)
  have HR := Lib.hid (fun w' (hb : Below w.heap.size w w') => Cd.later h1 hb)
  have HW := Lib.hid hw
  have HRL := Lib.hid hrl
  obtain ⟨a1, cap1, rfl, hl1⟩ := Cd.sl_form h1
  obtain ⟨a2, cap2, rfl, hl2⟩ := row_form h2
  clear h1 h2 hw hrl hs
  have HAP := Lib.hid (fun (T : T3) (hT : rowsWt T.2.2 ≤ 40 ∧ T.1.size ≤ 40) u' S' w' (h : rowsC.rd w' S' [u'] T.2.2) (hb : Below w.heap.size w w') =>
    (show Calls Try.prog 137 #[.agg #[], .agg #[.string T.1, .int .i64 T.2.1, u'], .slice a2 row.length cap2] w' fun e w'' => ∃ u'' fp, e = .returned (.tuple #[.agg #[.string T.1, .int .i64 T.2.1, u''], .bool (chOk T false row)]) ∧ rowsC.ow w'' w'.heap.size [u''] (chR T false row) fp ∧ fp.Nodup ∧ Below w'.heap.size w' w'' from apply_false T.1 T.2.1 u' (.slice a2 row.length cap2) T.2.2 row S' S2 w' h (HV.out w' hb) (by omega) (by omega)))
  have HCH := Lib.hid (fun w' => change_of nm false (.slice a2 row.length cap2) w')
  change Hid (∀ w', Calls _ _ _ _ fun e w'' => e = .returned (.iface 83 (.agg #[])) ∧ _) at HCH
  go_enter Try.func31, Try.ntmps31
  go_wp2_with fail
  generalize hW : ((w.alloc _).alloc _).alloc _ = W
  obtain ⟨r0, r1, r2, hz, hb0⟩ := start3 w _ _ _ hW
  have HC0 := Lib.hid (Loc1.of r0)
  have HC1 := Lib.hid (Loc3.of r1)
  have HC2 := Lib.hid (Loc1.of r2)
  have HB0 := Lib.hid hb0
  have HZ := Lib.hid hz
  clear hW r0 r1 r2 hz hb0
  refine (HL.out _ HB0.out).mono ?_
  rintro e w1 ⟨v1, fp, rfl, ho, hn, hb1⟩
  obtain ⟨a3, c3, rfl⟩ := Cd.ow_slice ho
  have HB1 := Lib.hid (below_then HB0.out hb1)
  have HC0a := Lib.hid (HC0.out.later hb1)
  have HC1a := Lib.hid (HC1.out.later hb1)
  have HC2a := Lib.hid (HC2.out.later hb1)
  have HZ1 := Lib.hid (show w.heap.size + 3 ≤ w1.heap.size by have := hb1.size; have := HZ.out; omega)
  have HO := Lib.hid ho
  clear ho hn hb1 HC0 HC1 HC2
  cases hl : lookL l nm with
  | none =>
    have HA := Lib.hid (app_none (appT_none (b := false) (row := row) hl))
    rw [lk_none hl]
    clear HO hl HCH HAP
    have q0 := HC0a.out.c0
    have q1 := HC0a.out.lt
    go_wp2_with fail
    refine (HDC.out _ (below_then HB1.out (below_alloc _ _))).mono ?_
    rintro e w3 ⟨a4, c4, f3, rfl, ho3, hn3, hb3⟩
    have HC3 := Lib.hid (Loc1.later (HC2a.out.later (below_alloc _ _)) hb3)
    have y0 := HC3.out.c0
    have y1 := HC3.out.f0
    have HX := Lib.hid (ans_far ho3 hn3 (below_then HB1.out (below_alloc _ _)) hb3 (Y := w.heap.size + 2) (by omega) (by rw [size_alloc]; have := HZ1.out; omega) HA.out.1.symm HA.out.2.symm)
    clear ho3 hn3 hb3 q0 q1
    go_wp2_with fail
    have k0 : (w3.setCell ⟨w.heap.size + 2, 0, none⟩ (.slice a4 l.length c4)).cell? ⟨w.heap.size + 2, 0, none⟩ = some (.slice a4 l.length c4) := World.cell?_setCell_same _ _ _ y0
    refine bodyPost_ret (v := .tuple #[.agg #[.slice a4 l.length c4], .bool false]) (by simp [results, Try.results31, go_sem, k0]) rfl ?_
    exact HX.out
  | some T =>
    obtain ⟨hdb, hmem, hnmT, hok⟩ := look_ok hl
    have hw40 := wt_rows (wt_ok hok)
    have HOK := Lib.hid hok
    have HW40 := Lib.hid hw40
    have HLK := Lib.hid hl
    rw [lk_some hl] at HO ⊢
    clear hdb hmem hnmT hok hw40 hl
    go_upto_region 4 with fail
    generalize hW2 : w1.alloc _ = W2
    obtain ⟨s0, sz, sb⟩ := start1 w1 _ hW2
    have HT6 := Lib.hid (Loc3.of s0)
    have HC1b := Lib.hid (HC1a.out.later sb)
    have HB2 := Lib.hid (below_then HB1.out sb)
    have HC0b := Lib.hid (HC0a.out.later sb)
    have HC2b := Lib.hid (HC2a.out.later sb)
    have HO2 := Lib.hid (Cd.ow_later HO.out sb)
    have HZ2 := Lib.hid sz
    have S7 := Lib.hid (fun wx (h : LaterU W2 wx) => And.intro (HC1b.out.later h).c0 (And.intro (HC1b.out.later h).c1 (And.intro (HC1b.out.later h).c2 (And.intro (HT6.out.later h).c0 (And.intro (HT6.out.later h).c1 (And.intro (HT6.out.later h).c2 h))))))
    have HA2 := Lib.hid (fun w' (h : LaterU W2 w') => HAP.out T HW40.out _ _ w' (rowsC.ow_rd (Cd.ow_later HO2.out h)) (below_then HB2.out h))
    clear hW2 s0 sz sb HAP
    have hm := m_apply_false
    have kk : LaterU W2 W2.drew := laterU_drew (Below.refl _ W2)
    obtain ⟨h0, h1, h2, h3, h4, h5, h6⟩ := S7.out _ kk
    go_cut [8, 9] (fun s8 s9 wx => s9 = .bool (chOk T false row) ∧ MadeT W2 T.1 T.2.1 (chR T false row) s8 wx)
    case first =>
      generalize chOk T false row = ck at *
      generalize chR T false row = cr at *
      go_region_held3 (fun wx => wx.cell? ⟨w.heap.size + 1, 0, none⟩ = some (.string nm) ∧ wx.cell? ⟨w.heap.size + 1, 1, none⟩ = some (.bool false) ∧ wx.cell? ⟨w.heap.size + 1, 2, none⟩ = some (.slice a2 row.length cap2) ∧ wx.cell? ⟨w1.heap.size, 0, none⟩ = some (.string T.1) ∧ wx.cell? ⟨w1.heap.size, 1, none⟩ = some (.int .i64 T.2.1) ∧ wx.cell? ⟨w1.heap.size, 2, none⟩ = some (.slice a3 T.2.2.length c3) ∧ LaterU W2 wx)
        ((first | exact S7.out _ (by first | assumption | exact laterU_drew (Below.refl _ W2) | exact laterU_alloc (by first | assumption | exact laterU_drew (Below.refl _ W2)) _ | exact laterU_set3 (by first | assumption | exact laterU_alloc (by assumption) _) (laterU_size (by first | assumption | exact Below.refl _ _)))))
        (first | (go_at_call 47; refine (HCH.out _).mono ?_; rintro e wq ⟨rfl, hbq⟩; (have kk : LaterU W2 wq := below_then (by first | assumption | exact laterU_alloc (by assumption) _ | exact laterU_drew (laterU_alloc (Below.refl _ W2) _) | exact laterU_drew (Below.refl _ W2)) hbq); (first | (have GB := Lib.hid GL.out.lt; have GL := Lib.hid (GL.out.later hbq)) | (have GB := Lib.hid (newU_lt hbq); have GL := Lib.hid (locU_new hbq)) | (have GB := Lib.hid (newU_lt3 hbq); have GL := Lib.hid (locU_new3 hbq)) | skip); obtain ⟨h0, h1, h2, h3, h4, h5, h6⟩ := S7.out _ kk; clear hbq) | (go_at_call 137; refine (HA2.out _ (by first | assumption | exact laterU_alloc (by assumption) _)).mono ?_; rintro e wq ⟨u5, f5, rfl, how, hnd, hbq⟩; obtain ⟨a5, c5, rfl⟩ := Cd.ow_slice how; (have kk : LaterU W2 wq := below_then (by first | assumption | exact laterU_alloc (by assumption) _ | exact laterU_drew (laterU_alloc (Below.refl _ W2) _) | exact laterU_drew (Below.refl _ W2)) hbq); (first | (have GB := Lib.hid GL.out.lt; have GL := Lib.hid (GL.out.later hbq)) | (have GB := Lib.hid (newU_lt hbq); have GL := Lib.hid (locU_new hbq)) | (have GB := Lib.hid (newU_lt3 hbq); have GL := Lib.hid (locU_new3 hbq)) | skip); obtain ⟨h0, h1, h2, h3, h4, h5, h6⟩ := S7.out _ kk; (have HO5 := Lib.hid (rowsC.ow_base how (laterU_size (a := W2) (by first | assumption | exact laterU_alloc (by assumption) _)))); (have HLT := Lib.hid (rowsC.ow_lt how)); (have HND := Lib.hid hnd); (first | (have x0 := GL.out.c0; have x1 := GL.out.c1; have x2 := GL.out.c2; have f0 := GL.out.f0; have f1 := GL.out.f1; have f2 := GL.out.f2) | skip); clear hbq how hnd))
      all_goals
        go_wp2_with fail
        go_meet
        refine ⟨rfl, ?_⟩
        first
          | (have GG := GL.out; exact madeT (by assumption) (laterU_size (by first | assumption | exact Below.refl _ _)) GG HO5.out rfl HND.out (fun q => by have h1 := (HLT.out _ q).1; have h2 := GB.out; omega))
          | (with_reducible exact madeT2 (by assumption) HO5.out rfl HND.out)
    case rest =>
      obtain ⟨rfl, k, a5, c5, f5, rfl, hk, hx, how, hnd, hl⟩ := hcut
      clear h0 h1 h2 h3 h4 h5 h6 kk hm S7 HA2 HCH
      have HBS := Lib.hid (below_then HB2.out hl)
      have HC0d := Lib.hid (HC0b.out.later hl)
      have HC2d := Lib.hid (HC2b.out.later hl)
      have HTX := Lib.hid hx
      have HO4 := Lib.hid how
      have HSS := Lib.hid (show w.heap.size + 2 < wc.heap.size by have := HZ1.out; have := HZ2.out; have := hl.size; omega)
      have HKK := Lib.hid hk
      have HND := Lib.hid hnd
      clear hx how hnd hk hl
      obtain ⟨x0, x1, x2, _, _, _⟩ := HTX.out
      have q0 := HC0d.out.c0
      cases hk : chOk T false row
      · have HA := Lib.hid (app_none (appT_no (b := false) (row := row) HLK.out hk))
        clear hk
        go_wp2_with fail
        refine (HDC.out _ HBS.out).mono ?_
        rintro e w6 ⟨a6, c6, f6, rfl, ho6, hn6, hb6⟩
        have HC6 := Lib.hid (HC2d.out.later hb6)
        have y0 := HC6.out.c0
        have y1 := HC6.out.f0
        have HX := Lib.hid (ans_far ho6 hn6 HBS.out hb6 (Y := w.heap.size + 2) (by omega) HSS.out HA.out.1.symm HA.out.2.symm)
        clear ho6 hn6 hb6 x0 x1 x2 q0
        go_wp2_with fail
        have k0 : (w6.setCell ⟨w.heap.size + 2, 0, none⟩ (.slice a6 l.length c6)).cell? ⟨w.heap.size + 2, 0, none⟩ = some (.slice a6 l.length c6) := World.cell?_setCell_same _ _ _ y0
        refine bodyPost_ret (v := .tuple #[.agg #[.slice a6 l.length c6], .bool false]) (by simp [results, Try.results31, go_sem, k0]) rfl ?_
        exact HX.out
      · have HA := Lib.hid (app_some (appT_yes (b := false) (row := row) HLK.out hk))
        have HWC := Lib.hid (wt_ok (ok_ch HOK.out hk))
        clear hk
        go_wp2_with fail
        refine (DbImp.impl_set _ l (chT T false row) a5 c5 S _ _ (HR.out _ HBS.out) (chT_rd (rowsC.ow_rd HO4.out) HOK.out) HW.out (by have := HWC.out; omega)).mono ?_
        rintro e w6 ⟨u6, f6, rfl, ho6, hn6, hb6⟩
        obtain ⟨a6, c6, rfl⟩ := Cd.ow_slice (c := tabC) ho6
        have HC6 := Lib.hid (HC2d.out.later hb6)
        have y0 := HC6.out.c0
        have y1 := HC6.out.f0
        have HX := Lib.hid (ans_far ho6 hn6 HBS.out hb6 (Y := w.heap.size + 2) (by omega) HSS.out HA.out.1.symm HA.out.2.symm)
        clear ho6 hn6 hb6 x0 x1 x2 q0
        go_wp2_with fail
        have k0 := World.cell?_setCell_same _ _ (.slice a6 (setL l (chT T false row)).length c6) y0
        refine bodyPost_ret (v := .tuple #[.agg #[.slice a6 (setL l (chT T false row)).length c6], .bool (setOk l (chT T false row))]) (by simp [results, Try.results31, go_sem, k0]) rfl ?_
        exact HX.out
theorem impl_apply (u v : Value) (l : List T3) (nm : ByteArray) (b : Bool) (row : List Int) (S S2 : Nat → Prop) (w : World) (h1 : tabsC.rd w S [u] l) (h2 : rowC.rd w S2 [v] row) (hw : wtS l ≤ 1048577) (hrl : row.length ≤ 1048577) (hs : nm.size ≤ 1048576) :
    Calls Try.prog 31 #[.agg #[u], .agg #[.string nm, .bool b, v]] w fun e w' => DbAns (appL l nm b row) (appOk l nm b row) w e w' := by
  cases b
  · exact impl_apply_false u v l nm row S S2 w h1 h2 hw hrl hs
  · exact impl_apply_true u v l nm row S S2 w h1 h2 hw hrl hs
end Go.Proofs.Ytlngbdokgcdeeaa.UpdApp

namespace Go.Proofs.Ytlngbdokgcdeeaa.UpdApp
open Go Go.RowKit Byt Ints IntsLaw Cd Rows2 Tab SlMath TabOpen TabElem SlTable Db TabSpec DbMath DbExact Exact Upd UpdMath
open DbAcc (DbAns)

set_option maxRecDepth 100000 in
set_option maxHeartbeats 1600000 in
theorem spec_applyable (u v : Value) (l : List T3) (nm : ByteArray) (b : Bool) (row : List Int) (S S2 : Nat → Prop) (w : World) (h1 : tabsC.rd w S [u] l) (h2 : rowC.rd w S2 [v] row) (hw : wtS l ≤ 1048577) (hrl : row.length ≤ 1048577) :
    Calls Try.prog 10 #[.agg #[u], .agg #[.string nm, .bool b, v]] w fun e w' => e = .returned (.bool (appOk l nm b row)) ∧ Below w.heap.size w w' := by
  have HC := Lib.hid (fun w' (hb : Below w.heap.size w w') => spec_apply u v l nm b row S S2 w' (Cd.later h1 hb) (Cd.later h2 hb) hw hrl)
  obtain ⟨a1, cap1, rfl, hl1⟩ := Cd.sl_form h1
  obtain ⟨a2, cap2, rfl, hl2⟩ := row_form h2
  clear h1 h2
  generalize appOk l nm b row = ok at *
  go_enter Try.func10, Try.ntmps10
  go_wp2_with fail
  generalize hW : (w.alloc _).alloc _ = W
  obtain ⟨r0, r1, hz, hb0⟩ := start2g w _ _ hW
  clear hW r0 r1
  refine (HC.out W hb0).mono ?_
  rintro e w1 ⟨u1, f1, rfl, ho, hn, hb1⟩
  obtain ⟨a3, c3, rfl⟩ := Cd.ow_slice (c := tabC) ho
  have HB := Lib.hid (below_then (below_then hb0 hb1) (below_alloc w1 (.cells #[.slice a3 (appL l nm b row).length c3] 33 (0, 0))))
  clear ho hn hb1 hb0 hz
  go_wp2_with fail
  go_ret
  exact ⟨rfl, HB.out⟩
set_option maxRecDepth 100000 in
set_option maxHeartbeats 1600000 in
theorem impl_applyable (u v : Value) (l : List T3) (nm : ByteArray) (b : Bool) (row : List Int) (S S2 : Nat → Prop) (w : World) (h1 : tabsC.rd w S [u] l) (h2 : rowC.rd w S2 [v] row) (hw : wtS l ≤ 1048577) (hrl : row.length ≤ 1048577) (hs : nm.size ≤ 1048576) :
    Calls Try.prog 13 #[.agg #[u], .agg #[.string nm, .bool b, v]] w fun e w' => e = .returned (.bool (appOk l nm b row)) ∧ Below w.heap.size w w' := by
  have HC := Lib.hid (fun w' (hb : Below w.heap.size w w') => impl_apply u v l nm b row S S2 w' (Cd.later h1 hb) (Cd.later h2 hb) hw hrl hs)
  obtain ⟨a1, cap1, rfl, hl1⟩ := Cd.sl_form h1
  obtain ⟨a2, cap2, rfl, hl2⟩ := row_form h2
  clear h1 h2
  generalize appOk l nm b row = ok at *
  go_enter Try.func13, Try.ntmps13
  go_wp2_with fail
  generalize hW : (w.alloc _).alloc _ = W
  obtain ⟨r0, r1, hz, hb0⟩ := start2g w _ _ hW
  clear hW r0 r1
  refine (HC.out W hb0).mono ?_
  rintro e w1 ⟨u1, f1, rfl, ho, hn, hb1⟩
  obtain ⟨a3, c3, rfl⟩ := Cd.ow_slice (c := tabC) ho
  have HB := Lib.hid (below_then (below_then hb0 hb1) (below_alloc w1 (.cells #[.slice a3 (appL l nm b row).length c3] 33 (0, 0))))
  clear ho hn hb1 hb0 hz
  go_wp2_with fail
  go_ret
  exact ⟨rfl, HB.out⟩
end Go.Proofs.Ytlngbdokgcdeeaa.UpdApp

namespace Go.Proofs.Ytlngbdokgcdeeaa.DbOpen
open Go Go.RowKit Byt Ints IntsLaw Cd Rows2 Fits TabOpen TabElem SlTable Db

set_option maxRecDepth 100000 in
theorem fits_tabs : Fits Try.prog ltabsC 22 := fits_sl Try.underlying22 fits_table (by kernel_rfl)
set_option maxRecDepth 100000 in
theorem fits_db : Fits Try.prog ltabsC 24 := fits_struct Try.underlying24 (fits_one fits_tabs rfl) (by kernel_rfl)
set_option maxRecDepth 100000 in
theorem open_db {H : Type} {enc : TypeId × Value → H} {W : World} {base : Nat} {v : Value} {d : DataW H} {ps : List MemPlace}
    (hval : Value.okWide Try.prog W .any base 24 v) (h : DataW.Trod enc Try.prog W 0 (fun _ => true) true 24 v d ps) :
    ∃ (u : Value) (l : List T3), v = .agg #[u] ∧ tabsC.rd W (· < W.heap.size) [u] l := by
  obtain ⟨cs, l, rfl, hT⟩ := open_st Try.underlying24 fits_db hval h
  have hl := ltabsC.len hT
  obtain ⟨cs⟩ := cs
  match cs, hl, hT with
  | [u], _, hT => exact ⟨u, l, rfl, hT⟩
end Go.Proofs.Ytlngbdokgcdeeaa.DbOpen

namespace Go.Proofs.Ytlngbdokgcdeeaa.WalkIsValidUpdate
open Go Go.RowKit Byt Ints IntsLaw Cd Rows2 Tab TabSpec Exact SlMath TabOpen TabElem Mark SlTable Db DbExact Upd
set_option maxRecDepth 100000 in
set_option maxHeartbeats 6400000 in
theorem walk (v0 : Value) (l0 : List T3) (n1 : ByteArray) (b1 : Bool) (v1 : Value) (l1 : List Int) (B0 : Bool) (w : World) (hr0 : tabsC.rd w (· < w.heap.size) [v0] l0) (hs1 : n1.size ≤ maxLen) (hr1 : rowC.rd w (· < w.heap.size) [v1] l1)
    (HS : wtS l0 ≤ 1048576 → updWt n1 l1 ≤ 1048576 → ∀ (v0 : Value) (S0 : Nat → Prop) (v1 : Value) (S1 : Nat → Prop) (w' : World), tabsC.rd w' S0 [v0] l0 → rowC.rd w' S1 [v1] l1 → Calls Try.prog 10 #[.agg #[v0], .agg #[.string n1, .bool b1, v1]] w' fun e w'' => e = .returned (.bool B0) ∧ Below w'.heap.size w' w'')
    (HI : wtS l0 ≤ 1048576 → updWt n1 l1 ≤ 1048576 → ∀ (v0 : Value) (S0 : Nat → Prop) (v1 : Value) (S1 : Nat → Prop) (w' : World), tabsC.rd w' S0 [v0] l0 → rowC.rd w' S1 [v1] l1 → Calls Try.prog 13 #[.agg #[v0], .agg #[.string n1, .bool b1, v1]] w' fun e w'' => e = .returned (.bool B0) ∧ Below w'.heap.size w' w'') :
    Calls Try.prog 3 #[.agg #[v0], .agg #[.string n1, .bool b1, v1]] w fun e w' => e = .returned (.bool true) ∧ Below w.heap.size w w' := by
  have HSh := Lib.hid HS
  have HIh := Lib.hid HI
  clear HS HI
  have HR0 := Lib.hid hr0
  obtain ⟨q0, c0, rfl, hl0⟩ := Cd.sl_form hr0
  clear hr0
  have HR1 := Lib.hid hr1
  obtain ⟨q1, c1, rfl, hl1, _⟩ := (row_ri hr1).1
  clear hr1
  go_enter Try.func3, Try.ntmps3
  go_wp2_with fail
  generalize hW0 : (w.alloc _).alloc _ = W0
  obtain ⟨rb0, rb1, z0, hb0⟩ := start2g w _ _ hW0
  have HB := Lib.hid hb0
  have LB0 := Lib.hid (Loc1.of rb0)
  have LB1 := Lib.hid (Loc3.of rb1)
  replace HR0 := Lib.hid (Cd.later HR0.out hb0)
  replace HR1 := Lib.hid (Cd.later HR1.out hb0)
  clear hW0 hb0 rb0 rb1
  refine (sz_db _ l0 _ 1048576 W0 HR0.out (by omega)).mono ?_
  rintro e W0z ⟨rfl, hbz0⟩
  replace HB := Lib.hid (below_then HB.out hbz0)
  replace LB0 := Lib.hid (LB0.out.later hbz0)
  replace LB1 := Lib.hid (LB1.out.later hbz0)
  replace HR0 := Lib.hid (Cd.later HR0.out hbz0)
  replace HR1 := Lib.hid (Cd.later HR1.out hbz0)
  have zz0 := hbz0.size
  clear hbz0
  by_cases hk0 : wtS l0 ≤ 1048576
  case neg =>
    rw [left_no hk0]
    clear hk0
    go_wp2_with fail
    go_ret
    exact ⟨rfl, HB.out⟩
  rw [left_yes hk0]
  have HL0 := Lib.hid hk0
  have HX0 := Lib.hid (show wtS l0 ≤ 1048576 by have := HL0.out; omega)
  have hge0 : ¬ (((1048576 - wtS l0 : Nat) : Int) < 0) := by omega
  clear hk0
  have y0a := LB1.out.c0
  have y0b := LB1.out.c1
  have y0c := LB1.out.c2
  go_wp2_with fail
  clear y0a y0b y0c
  refine (sz_upd n1 b1 _ l1 _ (1048576 - wtS l0) W0z hs1 HR1.out (by omega)).mono ?_
  rintro e W1z ⟨rfl, hbz1⟩
  replace HB := Lib.hid (below_then HB.out hbz1)
  replace LB0 := Lib.hid (LB0.out.later hbz1)
  replace LB1 := Lib.hid (LB1.out.later hbz1)
  replace HR0 := Lib.hid (Cd.later HR0.out hbz1)
  replace HR1 := Lib.hid (Cd.later HR1.out hbz1)
  have zz1 := hbz1.size
  clear hbz1
  by_cases hk1 : updWt n1 l1 ≤ (1048576 - wtS l0)
  case neg =>
    rw [left_no hk1]
    clear hk1
    go_wp2_with fail
    go_ret
    exact ⟨rfl, HB.out⟩
  rw [left_yes hk1]
  have HL1 := Lib.hid hk1
  have HX1 := Lib.hid (show updWt n1 l1 ≤ 1048576 by have := HL1.out; omega)
  have hge1 : ¬ ((((1048576 - wtS l0) - updWt n1 l1 : Nat) : Int) < 0) := by omega
  clear hk1
  have HB0 := Lib.hid (show w.heap.size ≤ W1z.heap.size from HB.out.size)
  have hz0 : w.heap.size ≤ W1z.heap.size := HB.out.size
  have y0a := LB0.out.c0
  have y0d := LB0.out.lt
  have y1a := LB1.out.c0
  have y1b := LB1.out.c1
  have y1c := LB1.out.c2
  have y1d := LB1.out.lt
  go_upto_region 8 with fail
  clear y0a y0d y1a y1b y1c y1d
  go_cut [6] (fun s6 wx => s6 = .bool B0 ∧ W1z.heap.size ≤ wx.heap.size ∧ Below w.heap.size w wx ∧ Loc1 wx (w.heap.size) (.slice q0 l0.length c0) ∧ Loc3 wx (w.heap.size + 1) (.string n1) (.bool b1) (.slice q1 l1.length c1) ∧ tabsC.rd wx (· < w.heap.size) [.slice q0 l0.length c0] l0 ∧ rowC.rd wx (· < w.heap.size) [.slice q1 l1.length c1] l1)
  case first =>
    have y0a := LB0.out.c0
    have y1a := LB1.out.c0
    have y1b := LB1.out.c1
    have y1c := LB1.out.c2
    go_region_law (first | (go_simp; go_at_call_of 11 (Value.agg #[.slice q0 l0.length c0]); refine (to_db _ l0 _ W1z.drew (rd_drew HR0.out) (by have := HX0.out; omega)).mono ?_; rintro e wq0 ⟨tv0, tf0, rfl, tow, tnd, hbq⟩; (have hq := undrew hbq); (have hqz0 := hq.size); (have D0HB := Lib.hid (below_then HB.out hq)); (have D0LB0 := Lib.hid (LB0.out.later hq)); (have D0LB1 := Lib.hid (LB1.out.later hq)); (have D0HR0 := Lib.hid (Cd.later HR0.out hq)); (have D0HR1 := Lib.hid (Cd.later HR1.out hq)); (have D0O0 := Lib.hid tow); (have u01a := D0LB1.out.c0); (have u01b := D0LB1.out.c1); (have u01c := D0LB1.out.c2); clear hbq hq tow tnd) | (go_simp; go_at_call_of 12 (Value.agg #[.string n1, .bool b1, .slice q1 l1.length c1]); refine (to_upd n1 b1 _ l1 _ wq0 D0HR1.out (by have := HX1.out; unfold updWt at this; omega)).mono ?_; rintro e wq1 ⟨tv1, tf1, rfl, tow, tnd, hbq⟩; (have hq := hbq); (have hqz1 := hq.size); (have D1HB := Lib.hid (below_then D0HB.out hq)); (have D1LB0 := Lib.hid (D0LB0.out.later hq)); (have D1LB1 := Lib.hid (D0LB1.out.later hq)); (have D1HR0 := Lib.hid (Cd.later D0HR0.out hq)); (have D1HR1 := Lib.hid (Cd.later D0HR1.out hq)); (have D1O0 := Lib.hid (Cd.ow_later D0O0.out hq)); (have D1O1 := Lib.hid tow); clear hbq hq tow tnd) | (go_simp; go_at_call 10; refine (HSh.out HX0.out HX1.out _ _ _ _ wq1 (tabsC.ow_rd D1O0.out) (rowC.ow_rd D1O1.out)).mono ?_; rintro e wp ⟨rfl, hq⟩; (have hqzz := hq.size); (have KHB := Lib.hid (below_then D1HB.out hq)); (have KLB0 := Lib.hid (D1LB0.out.later hq)); (have KLB1 := Lib.hid (D1LB1.out.later hq)); (have KHR0 := Lib.hid (Cd.later D1HR0.out hq)); (have KHR1 := Lib.hid (Cd.later D1HR1.out hq)); clear hq))
    all_goals
      go_wp2_with fail
      go_meet
      exact ⟨rfl, by omega, KHB.out, KLB0.out, KLB1.out, KHR0.out, KHR1.out⟩
  case rest =>
    obtain ⟨rfl, zW1, c_HB, c_LB0, c_LB1, c_HR0, c_HR1⟩ := hcut
    clear HB LB0 LB1 HR0 HR1
    have HB := Lib.hid c_HB
    have LB0 := Lib.hid c_LB0
    have LB1 := Lib.hid c_LB1
    have HR0 := Lib.hid c_HR0
    have HR1 := Lib.hid c_HR1
    clear c_HB c_LB0 c_LB1 c_HR0 c_HR1
    generalize wc = W1 at *
    have y0a := LB0.out.c0
    have y0d := LB0.out.lt
    go_wp2_with fail
    clear y0a y0d
    refine (to_db _ l0 _ W1 HR0.out (by have := HX0.out; omega)).mono ?_
    rintro e W2 ⟨x0_v, x0_f, rfl, x0_o, x0_n, hbx⟩
    obtain ⟨x0_a, x0_c, rfl⟩ := Cd.ow_slice (c := tabC) x0_o
    replace HB := Lib.hid (below_then HB.out hbx)
    replace LB0 := Lib.hid (LB0.out.later hbx)
    replace LB1 := Lib.hid (LB1.out.later hbx)
    replace HR0 := Lib.hid (Cd.later HR0.out hbx)
    replace HR1 := Lib.hid (Cd.later HR1.out hbx)
    have zW2 := hbx.size
    clear hbx
    have x0_O := Lib.hid x0_o
    have x0_N := Lib.hid x0_n
    have x0_B := Lib.hid (bound_of x0_o)
    clear x0_o x0_n
    have y0a := LB1.out.c0
    have y0b := LB1.out.c1
    have y0c := LB1.out.c2
    have y0d := LB1.out.lt
    go_wp2_with fail
    clear y0a y0b y0c y0d
    generalize hg : World.alloc W2 _ = W3
    obtain ⟨rg, zW3, hbg⟩ := start1 W2 _ hg
    clear hg
    replace HB := Lib.hid (below_then HB.out hbg)
    replace LB0 := Lib.hid (LB0.out.later hbg)
    replace LB1 := Lib.hid (LB1.out.later hbg)
    replace HR0 := Lib.hid (Cd.later HR0.out hbg)
    replace HR1 := Lib.hid (Cd.later HR1.out hbg)
    replace x0_O := Lib.hid (Cd.ow_later x0_O.out hbg)
    have Lx0 := Lib.hid (Loc1.of rg)
    clear hbg rg
    refine (to_upd n1 b1 _ l1 _ W3 HR1.out (by have := HX1.out; unfold updWt at this; omega)).mono ?_
    rintro e W4 ⟨x1_v, x1_f, rfl, x1_o, x1_n, hbx⟩
    obtain ⟨x1_a, x1_c, rfl⟩ := Cd.ow_slice x1_o
    replace HB := Lib.hid (below_then HB.out hbx)
    replace LB0 := Lib.hid (LB0.out.later hbx)
    replace LB1 := Lib.hid (LB1.out.later hbx)
    replace HR0 := Lib.hid (Cd.later HR0.out hbx)
    replace HR1 := Lib.hid (Cd.later HR1.out hbx)
    replace x0_O := Lib.hid (Cd.ow_later x0_O.out hbx)
    replace Lx0 := Lib.hid (Lx0.out.later hbx)
    have zW4 := hbx.size
    clear hbx
    have x1_O := Lib.hid x1_o
    have x1_N := Lib.hid x1_n
    have x1_B := Lib.hid (bound_of x1_o)
    clear x1_o x1_n
    have y0a := Lx0.out.c0
    have y0d := Lx0.out.lt
    go_wp2_with fail
    clear y0a y0d
    generalize hg : World.alloc W4 _ = W5
    obtain ⟨rg, zW5, hbg⟩ := start1 W4 _ hg
    clear hg
    replace HB := Lib.hid (below_then HB.out hbg)
    replace LB0 := Lib.hid (LB0.out.later hbg)
    replace LB1 := Lib.hid (LB1.out.later hbg)
    replace HR0 := Lib.hid (Cd.later HR0.out hbg)
    replace HR1 := Lib.hid (Cd.later HR1.out hbg)
    replace x0_O := Lib.hid (Cd.ow_later x0_O.out hbg)
    replace Lx0 := Lib.hid (Lx0.out.later hbg)
    replace x1_O := Lib.hid (Cd.ow_later x1_O.out hbg)
    have Lx1 := Lib.hid (Loc3.of rg)
    clear hbg rg
    refine (HIh.out HX0.out HX1.out _ _ _ _ W5 (tabsC.ow_rd x0_O.out) (rowC.ow_rd x1_O.out)).mono ?_
    rintro e W6 ⟨rfl, hbx⟩
    replace HB := Lib.hid (below_then HB.out hbx)
    replace LB0 := Lib.hid (LB0.out.later hbx)
    replace LB1 := Lib.hid (LB1.out.later hbx)
    replace HR0 := Lib.hid (Cd.later HR0.out hbx)
    replace HR1 := Lib.hid (Cd.later HR1.out hbx)
    replace x0_O := Lib.hid (Cd.ow_later x0_O.out hbx)
    replace Lx0 := Lib.hid (Lx0.out.later hbx)
    replace x1_O := Lib.hid (Cd.ow_later x1_O.out hbx)
    replace Lx1 := Lib.hid (Lx1.out.later hbx)
    have zW6 := hbx.size
    clear hbx
    have y0a := Lx0.out.c0
    have y0d := Lx0.out.lt
    have y1a := LB0.out.c0
    have y1d := LB0.out.lt
    go_upto_region 14 with fail
    clear y0a y0d y1a y1d
    go_cut [39] (fun s wx => s = .bool false ∧ W6.heap.size ≤ wx.heap.size ∧ Below w.heap.size w wx ∧ Loc1 wx (w.heap.size) (.slice q0 l0.length c0) ∧ Loc3 wx (w.heap.size + 1) (.string n1) (.bool b1) (.slice q1 l1.length c1) ∧ tabsC.rd wx (· < w.heap.size) [.slice q0 l0.length c0] l0 ∧ rowC.rd wx (· < w.heap.size) [.slice q1 l1.length c1] l1 ∧ tabsC.ow wx (W1.heap.size) [.slice x0_a l0.length x0_c] l0 x0_f ∧ Loc1 wx (W2.heap.size) (.slice x0_a l0.length x0_c) ∧ rowC.ow wx (W3.heap.size) [.slice x1_a l1.length x1_c] l1 x1_f ∧ Loc3 wx (W4.heap.size) (.string n1) (.bool b1) (.slice x1_a l1.length x1_c))
    case first =>
      have HT := Lib.hid (to_db _ l0 _ W6.drew (rd_drew HR0.out) (by have := HX0.out; omega))
      have y0a := Lx0.out.c0
      have y1a := LB0.out.c0
      go_region_law (first | (go_simp; go_at_call 11; refine HT.out.mono ?_; rintro e wq ⟨tv, tf, rfl, tow, tnd, hbq⟩; (have hq := undrew hbq); (have hqz := hq.size); (have GHB := Lib.hid (below_then HB.out hq)); (have GLB0 := Lib.hid (LB0.out.later hq)); (have GLB1 := Lib.hid (LB1.out.later hq)); (have GHR0 := Lib.hid (Cd.later HR0.out hq)); (have GHR1 := Lib.hid (Cd.later HR1.out hq)); (have Gx0_O := Lib.hid (Cd.ow_later x0_O.out hq)); (have GLx0 := Lib.hid (Lx0.out.later hq)); (have Gx1_O := Lib.hid (Cd.ow_later x1_O.out hq)); (have GLx1 := Lib.hid (Lx1.out.later hq)); (have TO := Lib.hid tow); (have k0a := GLx0.out.c0); clear hbq hq tow tnd) | (go_simp; go_at_call 14; refine (eq_db _ _ l0 _ _ wq (tabsC.ow_rd Gx0_O.out) (tabsC.ow_rd TO.out)).mono ?_; rintro e wp ⟨rfl, hq2⟩; (have hqz2 := hq2.size); (have KHB := Lib.hid (below_then GHB.out hq2)); (have KLB0 := Lib.hid (GLB0.out.later hq2)); (have KLB1 := Lib.hid (GLB1.out.later hq2)); (have KHR0 := Lib.hid (Cd.later GHR0.out hq2)); (have KHR1 := Lib.hid (Cd.later GHR1.out hq2)); (have Kx0_O := Lib.hid (Cd.ow_later Gx0_O.out hq2)); (have KLx0 := Lib.hid (GLx0.out.later hq2)); (have Kx1_O := Lib.hid (Cd.ow_later Gx1_O.out hq2)); (have KLx1 := Lib.hid (GLx1.out.later hq2)); clear hq2))
      all_goals
        go_wp2_with fail
        go_meet
        exact ⟨rfl, by omega, KHB.out, KLB0.out, KLB1.out, KHR0.out, KHR1.out, Kx0_O.out, KLx0.out, Kx1_O.out, KLx1.out⟩
    case rest =>
      obtain ⟨rfl, zW7, c_HB, c_LB0, c_LB1, c_HR0, c_HR1, c_x0_O, c_Lx0, c_x1_O, c_Lx1⟩ := hcut
      clear HB LB0 LB1 HR0 HR1 x0_O Lx0 x1_O Lx1
      have HB := Lib.hid c_HB
      have LB0 := Lib.hid c_LB0
      have LB1 := Lib.hid c_LB1
      have HR0 := Lib.hid c_HR0
      have HR1 := Lib.hid c_HR1
      have x0_O := Lib.hid c_x0_O
      have Lx0 := Lib.hid c_Lx0
      have x1_O := Lib.hid c_x1_O
      have Lx1 := Lib.hid c_Lx1
      clear c_HB c_LB0 c_LB1 c_HR0 c_HR1 c_x0_O c_Lx0 c_x1_O c_Lx1
      generalize wc = W7 at *
      have y0a := Lx1.out.c0
      have y0b := Lx1.out.c1
      have y0c := Lx1.out.c2
      have y0d := Lx1.out.lt
      have y1a := LB1.out.c0
      have y1b := LB1.out.c1
      have y1c := LB1.out.c2
      have y1d := LB1.out.lt
      go_upto_region 16 with fail
      clear y0a y0b y0c y0d y1a y1b y1c y1d
      go_cut [44] (fun s wx => s = .bool false ∧ W7.heap.size ≤ wx.heap.size ∧ Below w.heap.size w wx ∧ Loc1 wx (w.heap.size) (.slice q0 l0.length c0) ∧ Loc3 wx (w.heap.size + 1) (.string n1) (.bool b1) (.slice q1 l1.length c1) ∧ tabsC.rd wx (· < w.heap.size) [.slice q0 l0.length c0] l0 ∧ rowC.rd wx (· < w.heap.size) [.slice q1 l1.length c1] l1 ∧ tabsC.ow wx (W1.heap.size) [.slice x0_a l0.length x0_c] l0 x0_f ∧ Loc1 wx (W2.heap.size) (.slice x0_a l0.length x0_c) ∧ rowC.ow wx (W3.heap.size) [.slice x1_a l1.length x1_c] l1 x1_f ∧ Loc3 wx (W4.heap.size) (.string n1) (.bool b1) (.slice x1_a l1.length x1_c))
      case first =>
        have HT := Lib.hid (to_upd n1 b1 _ l1 _ W7.drew (rd_drew HR1.out) (by have := HX1.out; unfold updWt at this; omega))
        have y0a := Lx1.out.c0
        have y1a := LB1.out.c0
        have y0b := Lx1.out.c1
        have y1b := LB1.out.c1
        have y0c := Lx1.out.c2
        have y1c := LB1.out.c2
        go_region_law (first | (go_simp; go_at_call 12; refine HT.out.mono ?_; rintro e wq ⟨tv, tf, rfl, tow, tnd, hbq⟩; (have hq := undrew hbq); (have hqz := hq.size); (have GHB := Lib.hid (below_then HB.out hq)); (have GLB0 := Lib.hid (LB0.out.later hq)); (have GLB1 := Lib.hid (LB1.out.later hq)); (have GHR0 := Lib.hid (Cd.later HR0.out hq)); (have GHR1 := Lib.hid (Cd.later HR1.out hq)); (have Gx0_O := Lib.hid (Cd.ow_later x0_O.out hq)); (have GLx0 := Lib.hid (Lx0.out.later hq)); (have Gx1_O := Lib.hid (Cd.ow_later x1_O.out hq)); (have GLx1 := Lib.hid (Lx1.out.later hq)); (have TO := Lib.hid tow); (have k0a := GLx1.out.c0); (have k0b := GLx1.out.c1); (have k0c := GLx1.out.c2); clear hbq hq tow tnd) | (go_simp; go_at_call 15; refine (eq_upd n1 b1 _ _ l1 _ _ wq (rowC.ow_rd Gx1_O.out) (rowC.ow_rd TO.out)).mono ?_; rintro e wp ⟨rfl, hq2⟩; (have hqz2 := hq2.size); (have KHB := Lib.hid (below_then GHB.out hq2)); (have KLB0 := Lib.hid (GLB0.out.later hq2)); (have KLB1 := Lib.hid (GLB1.out.later hq2)); (have KHR0 := Lib.hid (Cd.later GHR0.out hq2)); (have KHR1 := Lib.hid (Cd.later GHR1.out hq2)); (have Kx0_O := Lib.hid (Cd.ow_later Gx0_O.out hq2)); (have KLx0 := Lib.hid (GLx0.out.later hq2)); (have Kx1_O := Lib.hid (Cd.ow_later Gx1_O.out hq2)); (have KLx1 := Lib.hid (GLx1.out.later hq2)); clear hq2))
        all_goals
          go_wp2_with fail
          go_meet
          exact ⟨rfl, by omega, KHB.out, KLB0.out, KLB1.out, KHR0.out, KHR1.out, Kx0_O.out, KLx0.out, Kx1_O.out, KLx1.out⟩
      case rest =>
        obtain ⟨rfl, zW8, c_HB, c_LB0, c_LB1, c_HR0, c_HR1, c_x0_O, c_Lx0, c_x1_O, c_Lx1⟩ := hcut
        clear HB LB0 LB1 HR0 HR1 x0_O Lx0 x1_O Lx1
        have HB := Lib.hid c_HB
        have LB0 := Lib.hid c_LB0
        have LB1 := Lib.hid c_LB1
        have HR0 := Lib.hid c_HR0
        have HR1 := Lib.hid c_HR1
        have x0_O := Lib.hid c_x0_O
        have Lx0 := Lib.hid c_Lx0
        have x1_O := Lib.hid c_x1_O
        have Lx1 := Lib.hid c_Lx1
        clear c_HB c_LB0 c_LB1 c_HR0 c_HR1 c_x0_O c_Lx0 c_x1_O c_Lx1
        generalize wc = W8 at *
        go_wp2_with fail
        go_ret
        exact ⟨rfl, HB.out⟩
end Go.Proofs.Ytlngbdokgcdeeaa.WalkIsValidUpdate
