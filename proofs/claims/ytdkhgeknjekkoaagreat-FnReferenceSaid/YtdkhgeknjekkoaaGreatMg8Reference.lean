/- Texts that the proof rests on, one behind the other. -/
import Derived.Test.YtdkhgeknjekkoaaGreatQrySpec2
import Derived.Test.YtdkhgeknjekkoaaGreatMg7Reference
import Derived.Test.YtdkhgeknjekkoaaGreatMg2Reference
import Derived.Deep.RegionHeld3
import Derived.Deep.QuietTactic
import Derived.Test.YtdkhgeknjekkoaaGreatMg6Reference
import Derived.Test.YtdkhgeknjekkoaaGreatExact
import Derived.Test.YtdkhgeknjekkoaaGreatAtom
import Derived.Test.YtdkhgeknjekkoaaGreatMg4Reference
import Derived.Test.YtdkhgeknjekkoaaGreatMg1Reference
import Derived.BigQuiet
import Derived.Test.YtdkhgeknjekkoaaGreatMg3Reference
import Derived.Test.YtdkhgeknjekkoaaGreatCdRoom
import Derived.Sort.Row

namespace Go.Proofs.YtdkhgeknjekkoaaGreat.QryFor
open Go Go.RowKit Byt Ints IntsLaw Cd Rows2 Tab TabSpec Exact Atom QryMath QrySpec QryImp MkAtom SlMath
open TabOpen (tabC)
open Db (tabsC)
open DbExact (Loc1)

/-- The table of the atom is there, and it has as many columns. -/
def fitA (d : List TabElem.T3) (A : A2) : Bool := (DbMath.lookL d A.1).isSome && decide ((DbSpec.lkT d A.1).2.1 = (A.2.length : Int))
def forP (d : List TabElem.T3) (n : Int) (l : List A2) : Prop := qOk n l = true ∧ ∀ A ∈ l, fitA d A = true
instance (d : List TabElem.T3) (n : Int) (l : List A2) : Decidable (forP d n l) := by unfold forP; infer_instance
def forOk (d : List TabElem.T3) (n : Int) (l : List A2) : Bool := decide (forP d n l)
theorem fit_more {d : List TabElem.T3} {l : List A2} {k : Nat} (hk : k < l.length) (h : ∀ A ∈ l.take k, fitA d A = true) (h0 : fitA d l[k] = true) : ∀ A ∈ l.take (k + 1), fitA d A = true := by
  rw [List.take_succ_eq_append_getElem hk]
  intro A hA
  rcases List.mem_append.1 hA with q | q
  · exact h A q
  · rw [List.mem_singleton.1 q]; exact h0
set_option maxRecDepth 100000 in
set_option maxHeartbeats 1600000 in
theorem impl_for (u v : Value) (d : List TabElem.T3) (n : Int) (l : List A2) (S1 S2 : Nat → Prop) (w : World) (h1 : tabsC.rd w S1 [u] d) (h2 : atomsC.rd w S2 [v] l) (hw : SlTable.wtS d ≤ 1048577) (hs : ∀ A ∈ l, A.1.size ≤ 1048576) :
    Calls Tryz.prog 44 #[.agg #[u], .agg #[.int .i64 n, v]] w fun e w' => e = .returned (.bool (forOk d n l)) ∧ Below w.heap.size w w' := by
  have HL := Lib.hid (fun nm (h : nm.size ≤ 1048576) w' (hb : Below w.heap.size w w') => DbImp.impl_look u d nm S1 w' (Cd.later h1 hb) hw h)
  have HV := Lib.hid (fun w' (hb : Below w.heap.size w w') => impl_valid n v l S2 w' (Cd.later h2 hb))
  have HR := Lib.hid (fun w' (hb : Below w.heap.size w w') => Cd.later h2 hb)
  have HSZ := Lib.hid hs
  obtain ⟨a1, cap1, rfl, _⟩ := Cd.sl_form h1
  obtain ⟨a, cap, rfl, _⟩ := Cd.sl_form h2
  clear h1 h2 hs hw
  cases hq : qOk n l
  · have HZ := Lib.hid (show forOk d n l = false from decide_eq_false fun q => absurd (hq.symm.trans q.1) (by decide))
    rw [hq] at HV
    clear hq
    go_enter Tryz.func44, Tryz.ntmps44
    go_wp2_with fail
    have HB := Lib.hid (below_then (below_alloc w (.cells #[.slice a1 d.length cap1] 26 (0, 0))) (below_alloc _ (.cells #[.int .i64 n, .slice a l.length cap] 29 (0, 0))))
    refine (HV.out _ HB.out).mono ?_
    rintro e w1 ⟨rfl, hb1⟩
    have HB1 := Lib.hid (below_then HB.out hb1)
    clear hb1
    go_wp2_with fail
    go_ret
    exact ⟨ret_b HZ.out.symm, HB1.out⟩
  rw [hq] at HV
  have HQ := Lib.hid hq
  clear hq
  go_enter Tryz.func44, Tryz.ntmps44
  go_wp2_with fail
  generalize hW : (w.alloc _).alloc _ = W
  obtain ⟨r0, r1, _, hb0⟩ := start2g w _ _ hW
  have HC1 := Lib.hid (Loc1.of r0)
  have HC2 := Lib.hid (Loc2.of r1)
  have HB := Lib.hid hb0
  clear hW r0 r1 hb0
  refine (HV.out _ HB.out).mono ?_
  rintro e w1 ⟨rfl, hb1⟩
  have HB1 := Lib.hid (below_then HB.out hb1)
  have HD1 := Lib.hid (HC1.out.later hb1)
  have HD2 := Lib.hid (HC2.out.later hb1)
  have c1 := HD2.out.c1
  clear hb1
  go_wp2_with fail
  clear c1
  go_loopw [15] (fun i wr => ∃ k : Nat, k ≤ l.length ∧ i = .int .i64 k ∧ Hid (∀ A ∈ l.take k, fitA d A = true) ∧ Below w1.heap.size w1 wr) (fun i _ => l.length - (intOf i).toNat)
  case atStart => exact ⟨0, Nat.zero_le _, rfl, Lib.hid (fun x hx => by simp at hx), Below.refl _ _⟩
  case round =>
    obtain ⟨k, hk, rfl, hal, hbw⟩ := hrel
    have HBW := Lib.hid hbw
    by_cases hlt : k < l.length
    · obtain ⟨b, off, cap', au, cu, e1, hbB, c0, c1, hs1, hu, _⟩ := atom_at2 (HR.out wr (below_then HB1.out hbw)) hlt
      injection e1 with e1 e2 e3
      subst e1 e3
      have p1 : (0 : Int) ≤ (k : Int) := by omega
      have p2 : (k : Int) < (l.length : Int) := by omega
      have hAl := below_alloc wr (.cells #[.string l[k].1, .slice au l[k].2.length cu] 48 (0, 0))
      have HLK := Lib.hid (HL.out l[k].1 (HSZ.out _ (List.getElem_mem hlt)) _ (below_then HB1.out (below_then hbw hAl)))
      have HC5 := Lib.hid (Loc2.of (row_alloc wr (.cells #[.string l[k].1, .slice au l[k].2.length cu] 48 (0, 0))))
      have HB2 := Lib.hid (below_then hbw hAl)
      have y0 := (HD1.out.later hbw).c0
      have yl := (HD1.out.later hbw).lt
      have HYES := Lib.hid (fun h => fit_more hlt hal.out h)
      have HNO := Lib.hid (show fitA d l[k] = false → forOk d n l = false from fun h => decide_eq_false fun q => absurd (h.symm.trans (q.2 _ (List.getElem_mem hlt))) (by decide))
      have HLT := Lib.hid hlt
      clear hu hbw hAl
      unfold fitA at HYES HNO
      generalize l[k].1 = nm at *
      generalize l[k].2.length = ln at *
      go_wp2_with fail
      generalize hW1 : wr.alloc _ = W1 at *
      clear hW1
      refine HLK.out.mono ?_
      rintro e w2 ⟨tv, fp, rfl, ho, _, hb2⟩
      obtain ⟨ta, tc, rfl⟩ := Cd.ow_slice (c := rowC) ho
      have HB3 := Lib.hid (below_then HB2.out hb2)
      have z1 := (HC5.out.later hb2).c1
      have zl := (HC5.out.later hb2).lt
      generalize (DbSpec.lkT d nm) = T at *
      clear hb2 ho
      cases hf : (DbMath.lookL d nm).isSome
      · have HZ := Lib.hid (HNO.out (by rw [hf]; rfl))
        clear hf
        go_wp2_with fail
        go_ret
        exact ⟨ret_b HZ.out.symm, below_then HB1.out (below_then HB3.out (below_alloc _ _))⟩
      · by_cases hx : T.2.1 = (ln : Int)
        · have HY := Lib.hid (HYES.out (by rw [hf, decide_eq_true hx]; rfl))
          have t1 : (T.2.1 != (ln : Int)) = false := by rw [bne_eq_false_iff_eq]; exact hx
          clear hf hx
          go_wp2_with fail
          go_roundw
          case rel => exact ⟨k + 1, by have := HLT.out; omega, by go_num, HY, below_then HB3.out (below_alloc _ _)⟩
          case measure => have := HLT.out; simp [intOf]; omega
        · have HZ := Lib.hid (HNO.out (by rw [hf, decide_eq_false hx]; rfl))
          have t1 : (T.2.1 != (ln : Int)) = true := by rw [bne_iff_ne]; exact hx
          clear hf hx
          go_wp2_with fail
          go_ret
          exact ⟨ret_b HZ.out.symm, below_then HB1.out (below_then HB3.out (below_alloc _ _))⟩
    · have ek : k = l.length := by omega
      subst ek
      rw [List.take_length] at hal
      have HZ := Lib.hid (show forOk d n l = true from decide_eq_true ⟨HQ.out, hal.out⟩)
      clear hbw
      go_wp2_with fail
      go_ret
      exact ⟨ret_b HZ.out.symm, below_then HB1.out HBW.out⟩
def LaterQ (w w' : World) : Prop := Below w.heap.size w w'
theorem later_alloc {a w : World} (h : LaterQ a w) (o : Obj) : LaterQ a (w.alloc o) := below_then h (below_alloc w o)
theorem later_set3 {a w : World} {k : Nat} {x y z : Value} (h : LaterQ a w) (hk : a.heap.size ≤ k) : LaterQ a (((w.setCell ⟨k, 0, none⟩ x).setCell ⟨k, 1, none⟩ y).setCell ⟨k, 2, none⟩ z) :=
  ((Below.setCell h hk _).setCell hk _).setCell hk _
theorem later_drewA (a : World) (o : Obj) : LaterQ a (a.alloc o).drew := Below.drew (later_alloc (Below.refl _ a) o)
theorem later_size {a w : World} (h : LaterQ a w) : a.heap.size ≤ w.heap.size := Below.size h
theorem locQ_new {W wq : World} {x0 x1 x2 : Value} {T : TypeId} (hb : Below (W.alloc (.cells #[x0, x1, x2] T (0, 0))).heap.size (W.alloc (.cells #[x0, x1, x2] T (0, 0))) wq) : Loc3 wq W.heap.size x0 x1 x2 :=
  (Loc3.of (start1 W _ rfl).1).later hb
theorem locQ_new' {W wq : World} {x0 x1 x2 : Value} {T : TypeId} (hb : Below (W.drew.alloc (.cells #[x0, x1, x2] T (0, 0))).heap.size (W.drew.alloc (.cells #[x0, x1, x2] T (0, 0))) wq) : Loc3 wq W.heap.size x0 x1 x2 := locQ_new (W := W.drew) hb
theorem locQ_new3 {W wq : World} {x0 x1 x2 : Value} {T : TypeId} (hb : Below (W.alloc (.cells #[x0, x1, x2] T (0, 0))).drew.heap.size (W.alloc (.cells #[x0, x1, x2] T (0, 0))).drew wq) : Loc3 wq W.heap.size x0 x1 x2 :=
  (loc_drew (Loc3.of (start1 W _ rfl).1)).later hb
/-- A local table, made behind W. -/
def MadeT (W : World) (nm : ByteArray) (ar : Int) (s : Value) (wx : World) : Prop :=
  ∃ k v, s = .pointer (some ⟨k, 0, none⟩) ∧ W.heap.size ≤ k ∧ Loc3 wx k (.string nm) (.int .i64 ar) v ∧ LaterQ W wx
theorem madeT {W wq : World} {k : Nat} {x0 x1 x2 v : Value} {nm : ByteArray} {ar : Int} (kk : LaterQ W wq) (hb : W.heap.size ≤ k) (GL : Loc3 wq k x0 x1 x2) :
    MadeT W nm ar (.pointer (some ⟨k, 0, none⟩)) (((wq.setCell ⟨k, 0, none⟩ (.string nm)).setCell ⟨k, 1, none⟩ (.int .i64 ar)).setCell ⟨k, 2, none⟩ v) := by
  obtain ⟨c0, c1, c2, f0, f1, f2⟩ := GL
  obtain ⟨k0, k1, k2⟩ := set3 (w := wq) (k := k) (x := .string nm) (y := .int .i64 ar) (z := v) c0 c1 c2
  exact ⟨k, v, rfl, hb, ⟨k0, k1, k2, by simpa using f0, by simpa using f1, by simpa using f2⟩, later_set3 kk hb⟩
theorem madeT2 {W wq : World} {v : Value} {T : TypeId} {nm : ByteArray} {ar : Int} (kk : LaterQ W wq) :
    MadeT W nm ar (.pointer (some ⟨wq.heap.size, 0, none⟩)) (wq.alloc (.cells #[.string nm, .int .i64 ar, v] T (0, 0))) :=
  ⟨wq.heap.size, v, rfl, later_size kk, Loc3.of (start1 wq _ rfl).1, later_alloc kk _⟩
set_option maxRecDepth 100000 in
set_option maxHeartbeats 3200000 in
theorem spec_for (u v : Value) (d : List TabElem.T3) (n : Int) (l : List A2) (S1 S2 : Nat → Prop) (w : World) (h1 : tabsC.rd w S1 [u] d) (h2 : atomsC.rd w S2 [v] l) (hw : SlTable.wtS d ≤ 1048577) :
    Calls Tryz.prog 50 #[.agg #[u], .agg #[.int .i64 n, v]] w fun e w' => e = .returned (.bool (forOk d n l)) ∧ Below w.heap.size w w' := by
  have HL := Lib.hid (fun nm w' (hb : Below w.heap.size w w') => DbSpec.spec_look u d nm S1 w' (Cd.later h1 hb) hw)
  have HV := Lib.hid (fun w' (hb : Below w.heap.size w w') => spec_valid n v l S2 w' (Cd.later h2 hb))
  have HR := Lib.hid (fun w' (hb : Below w.heap.size w w') => Cd.later h2 hb)
  obtain ⟨a1, cap1, rfl, _⟩ := Cd.sl_form h1
  obtain ⟨a, cap, rfl, _⟩ := Cd.sl_form h2
  clear h1 h2 hw
  cases hq : qOk n l
  · have HZ := Lib.hid (show forOk d n l = false from decide_eq_false fun q => absurd (hq.symm.trans q.1) (by decide))
    rw [hq] at HV
    clear hq
    go_enter Tryz.func50, Tryz.ntmps50
    go_wp2_with fail
    have HB := Lib.hid (below_then (below_alloc w (.cells #[.slice a1 d.length cap1] 26 (0, 0))) (below_alloc _ (.cells #[.int .i64 n, .slice a l.length cap] 29 (0, 0))))
    refine (HV.out _ HB.out).mono ?_
    rintro e w1 ⟨rfl, hb1⟩
    have HB1 := Lib.hid (below_then HB.out hb1)
    clear hb1
    go_wp2_with fail
    go_ret
    exact ⟨ret_b HZ.out.symm, HB1.out⟩
  rw [hq] at HV
  have HQ := Lib.hid hq
  clear hq
  go_enter Tryz.func50, Tryz.ntmps50
  go_wp2_with fail
  generalize hW : (w.alloc _).alloc _ = W
  obtain ⟨r0, r1, _, hb0⟩ := start2g w _ _ hW
  have HC1 := Lib.hid (Loc1.of r0)
  have HC2 := Lib.hid (Loc2.of r1)
  have HB := Lib.hid hb0
  clear hW r0 r1 hb0
  refine (HV.out _ HB.out).mono ?_
  rintro e w1 ⟨rfl, hb1⟩
  have HB1 := Lib.hid (below_then HB.out hb1)
  have HD1 := Lib.hid (HC1.out.later hb1)
  have HD2 := Lib.hid (HC2.out.later hb1)
  clear hb1
  go_wp2_with fail
  go_loopw [5] (fun i wr => ∃ k : Nat, k ≤ l.length ∧ i = .int .i64 k ∧ Hid (∀ A ∈ l.take k, fitA d A = true) ∧ Below w1.heap.size w1 wr) (fun i _ => l.length - (intOf i).toNat)
  case atStart => exact ⟨0, Nat.zero_le _, rfl, Lib.hid (fun x hx => by simp at hx), Below.refl _ _⟩
  case round =>
    obtain ⟨k, hk, rfl, hal, hbw⟩ := hrel
    have HBW := Lib.hid hbw
    have g1 := (HD2.out.later hbw).c1
    by_cases hlt : k < l.length
    · obtain ⟨b, off, cap', au, cu, e1, hbB, c0, c1, hs1, hu, _⟩ := atom_at2 (HR.out wr (below_then HB1.out hbw)) hlt
      injection e1 with e1 e2 e3
      subst e1 e3
      have p1 : (0 : Int) ≤ (k : Int) := by omega
      have p2 : (k : Int) < (l.length : Int) := by omega
      have HLK := Lib.hid (fun w' (hq : LaterQ wr w') => HL.out l[k].1 w' (below_then HB1.out (below_then hbw hq)))
      have g0 := (HD1.out.later hbw).c0
      have HYES := Lib.hid (fun h => fit_more hlt hal.out h)
      have HNO := Lib.hid (show fitA d l[k] = false → forOk d n l = false from fun h => decide_eq_false fun q => absurd (h.symm.trans (q.2 _ (List.getElem_mem hlt))) (by decide))
      have HLT := Lib.hid hlt
      have gl1 := (HD1.out.later hbw).lt
      have gl2 := (HD2.out.later hbw).lt
      have HSQ := Lib.hid (fun wx (h : LaterQ wr wx) => (show wx.cell? ⟨w.heap.size, 0, none⟩ = some (.slice a1 d.length cap1) ∧ wx.cell? ⟨w.heap.size + 1, 1, none⟩ = some (.slice (some ⟨b, off, none⟩) l.length cap) ∧ wx.cell? ⟨b, off + k * 2, none⟩ = some (.string l[k].1) ∧ LaterQ wr wx from ⟨(Below.cell h (p := ⟨w.heap.size, 0, none⟩) gl1).trans g0, (Below.cell h (p := ⟨w.heap.size + 1, 1, none⟩) gl2).trans g1, (Below.cell h (p := ⟨b, off + k * 2, none⟩) hbB).trans c0, h⟩))
      have HSV := Lib.hid (fun wx (h : LaterQ wr wx) => (Below.cell h (p := ⟨b, off + k * 2 + 1, none⟩) hbB).trans c1)
      clear hu hbw c1 gl1 gl2
      unfold fitA at HYES HNO
      generalize l[k].1 = nm at *
      generalize l[k].2.length = ln at *
      go_upto_region 6 with fail
      have kk : LaterQ wr wr.drew := (Below.refl _ wr).drew
      generalize hT : DbSpec.lkT d nm = T at *
      generalize hf : (DbMath.lookL d nm).isSome = fb at *
      go_cut [6, 7] (fun s6 s7 wx => s7 = .bool fb ∧ MadeT wr T.1 T.2.1 s6 wx)
      case first =>
        go_region_held3 (fun wx => wx.cell? ⟨w.heap.size, 0, none⟩ = some (.slice a1 d.length cap1) ∧ wx.cell? ⟨w.heap.size + 1, 1, none⟩ = some (.slice (some ⟨b, off, none⟩) l.length cap) ∧ wx.cell? ⟨b, off + k * 2, none⟩ = some (.string nm) ∧ LaterQ wr wx)
          ((refine HSQ.out _ ?_; first | assumption | exact Below.drew (Below.refl _ wr) | exact later_alloc (by assumption) _ | exact later_drewA wr _ | exact later_set3 (by first | assumption | exact later_alloc (by assumption) _) (later_size (by first | assumption | exact Below.refl _ _))))
          (first | (go_at_call 19; refine (HLK.out _ (by first | assumption | exact later_alloc (by assumption) _ | exact later_drewA wr _)).mono ?_; rintro e wq ⟨tv, fp, rfl, how, hnd, hbq⟩; obtain ⟨ta, tc, rfl⟩ := Cd.ow_slice (c := rowC) how; (have kk : LaterQ wr wq := (show Below wr.heap.size wr wq by refine below_then (show LaterQ wr _ from ?_) hbq; first | assumption | exact later_alloc (by assumption) _ | exact later_drewA wr _)); rw [hT, hf]; (first | (have GL := Lib.hid (GL.out.later hbq)) | (have GL := Lib.hid (locQ_new' hbq)) | (have GL := Lib.hid (locQ_new hbq)) | (have GL := Lib.hid (locQ_new3 hbq)) | skip); (first | (have x0 := GL.out.c0; have x1 := GL.out.c1; have x2 := GL.out.c2; have f0 := GL.out.f0; have f1 := GL.out.f1; have f2 := GL.out.f2) | skip); (have hS := HSQ.out wq kk); (have k0 := hS.1); (have k1 := hS.2.1); (have k2 := hS.2.2.1); clear hbq how hnd hS))
        all_goals
          go_wp2_with fail
          go_meet
          refine ⟨rfl, ?_⟩
          first
            | (have GG := GL.out; exact madeT (by assumption) (later_size (by first | assumption | exact Below.refl _ _)) GG)
            | (with_reducible exact madeT2 (by assumption))
      case rest =>
        obtain ⟨rfl, kp, tv, rfl, hkp, hl3, hlat⟩ := hcut
        have q1 := (HSQ.out _ hlat).2.1
        have q2 := HSV.out _ hlat
        have q3 := hl3.c1
        have HLAT := Lib.hid hlat
        clear kk hlat hkp
        cases fb
        · have HZ := Lib.hid (HNO.out rfl)
          go_wp2
          go_quiet (fail)
          go_wp2
          go_ret
          exact ⟨ret_b HZ.out.symm, QryImp.below_drewN (below_then HB1.out (below_then HBW.out HLAT.out))⟩
        · by_cases hx : T.2.1 = (ln : Int)
          · have HY := Lib.hid (HYES.out (by rw [decide_eq_true hx]; rfl))
            have t1 : (T.2.1 != (ln : Int)) = false := by rw [bne_eq_false_iff_eq]; exact hx
            clear hx
            go_wp2
            go_quiet (fail)
            go_wp2
            go_roundw
            case rel => exact ⟨k + 1, by have := HLT.out; omega, by go_num, HY, QryImp.below_drewN (below_then HBW.out HLAT.out)⟩
            case measure => have := HLT.out; simp [intOf]; omega
          · have HZ := Lib.hid (HNO.out (by rw [decide_eq_false hx]; rfl))
            have t1 : (T.2.1 != (ln : Int)) = true := by rw [bne_iff_ne]; exact hx
            clear hx
            go_wp2
            go_quiet (fail)
            go_wp2
            go_ret
            exact ⟨ret_b HZ.out.symm, QryImp.below_drewN (below_then HB1.out (below_then HBW.out HLAT.out))⟩
    · have ek : k = l.length := by omega
      subst ek
      rw [List.take_length] at hal
      have HZ := Lib.hid (show forOk d n l = true from decide_eq_true ⟨HQ.out, hal.out⟩)
      clear hbw
      go_wp2_with fail
      go_ret
      exact ⟨ret_b HZ.out.symm, below_then HB1.out HBW.out⟩
end Go.Proofs.YtdkhgeknjekkoaaGreat.QryFor

namespace Go.Proofs.YtdkhgeknjekkoaaGreat.AnsQ
open Go Go.RowKit Byt Ints IntsLaw Cd Rows2 Tab TabSpec Exact Atom QryMath QrySpec QryImp AnsMath SlMath TabOpen TabElem QgMath AnsSpec DbMath DbSpec QryFor

theorem bs_cons (x : Int) (l : List Int) : bs (x :: l) = 2 ^ x.toNat ||| bs l := by
  unfold bs
  show bsF (0 ||| 2 ^ x.toNat) l = _
  rw [Nat.zero_or, bsF_or]
  rfl
theorem bs_test : ∀ (l : List Int) (v : Nat), (bs l).testBit v = true ↔ ∃ x ∈ l, x.toNat = v
  | [], v => by
    show (0 : Nat).testBit v = true ↔ _
    simp
  | x :: l, v => by
    rw [bs_cons, Nat.testBit_or, Bool.or_eq_true, bs_test l v, Nat.testBit_two_pow, decide_eq_true_eq]
    simp
theorem mem_varsL {s : Nat} {v : Int} : v ∈ varsL s ↔ ∃ k : Nat, k < 4 ∧ s.testBit k = true ∧ v = (k : Int) := by
  unfold varsL varsTo
  rw [List.mem_map]
  constructor
  · rintro ⟨k, hk, rfl⟩
    rw [List.mem_filter, List.mem_range] at hk
    refine ⟨k, hk.1, ?_, rfl⟩
    rw [Nat.testBit_eq_decide_div_mod_eq, decide_eq_true_eq]
    simpa using hk.2
  · rintro ⟨k, hk, ht, rfl⟩
    refine ⟨k, ?_, rfl⟩
    rw [List.mem_filter, List.mem_range]
    refine ⟨hk, ?_⟩
    rw [Nat.testBit_eq_decide_div_mod_eq, decide_eq_true_eq] at ht
    simpa using ht
theorem nodup_varsL (s : Nat) : (varsL s).Nodup := by
  unfold varsL varsTo
  rw [List.nodup_iff_pairwise_ne, List.pairwise_map]
  refine List.Pairwise.imp ?_ (List.Pairwise.filter _ (List.nodup_iff_pairwise_ne.1 List.nodup_range))
  intro a b h e
  exact h (by injection e)
theorem varsL_bd {s : Nat} : ∀ v ∈ varsL s, 0 ≤ v ∧ v < 4 := fun v hv => by
  obtain ⟨k, hk, _, rfl⟩ := mem_varsL.1 hv
  omega
theorem varsL_len (s : Nat) : (varsL s).length ≤ 4 := varsTo_len s 4

/-- The atoms of a mask, in order. -/
def selA (l : List A2) (t : Nat) : Nat → List A2
  | 0 => []
  | k + 1 => if t / 2 ^ k % 2 = 1 then selA l t k ++ [l.getD k (⟨#[]⟩, [])] else selA l t k
theorem selA_yes {l : List A2} {t k : Nat} (h : k < l.length) (ht : t / 2 ^ k % 2 = 1) : selA l t (k + 1) = selA l t k ++ [l[k]] := by
  show (if _ then _ else _) = _
  rw [if_pos ht]
  simp [h]
theorem selA_no {l : List A2} {t k : Nat} (ht : ¬ t / 2 ^ k % 2 = 1) : selA l t (k + 1) = selA l t k := by
  show (if _ then _ else _) = _
  rw [if_neg ht]
theorem selA_len (l : List A2) (t : Nat) : ∀ k, (selA l t k).length ≤ k
  | 0 => Nat.le_refl _
  | k + 1 => by
    have := selA_len l t k
    show (if _ then _ else _ : List A2).length ≤ _
    split
    · rw [List.length_append]
      simp
      omega
    · omega
theorem selA_mem {l : List A2} {t : Nat} : ∀ k, k ≤ l.length → ∀ A ∈ selA l t k, A ∈ l
  | 0, _, A, h => by cases h
  | k + 1, hk, A, h => by
    by_cases ht : t / 2 ^ k % 2 = 1
    · rw [selA_yes (by omega) ht] at h
      rcases List.mem_append.1 h with q | q
      · exact selA_mem k (by omega) A q
      · rw [List.mem_singleton.1 q]; exact List.getElem_mem _
    · rw [selA_no ht] at h
      exact selA_mem k (by omega) A h
theorem sel_all {l : List A2} {t : Nat} : ∀ k, k ≤ l.length → ∀ x, x ∈ selV l t k ↔ ∃ A ∈ selA l t k, x ∈ A.2
  | 0, _, x => by
    show x ∈ [] ↔ ∃ A ∈ [], _
    simp
  | k + 1, hk, x => by
    by_cases ht : t / 2 ^ k % 2 = 1
    · rw [selA_yes (by omega) ht, selV_yes (by omega) ht, List.mem_append, sel_all k (by omega) x]
      constructor
      · rintro (⟨A, hA, h⟩ | h)
        · exact ⟨A, List.mem_append_left _ hA, h⟩
        · exact ⟨_, List.mem_append_right _ (List.mem_singleton.2 rfl), h⟩
      · rintro ⟨A, hA, h⟩
        rcases List.mem_append.1 hA with q | q
        · exact .inl ⟨A, q, h⟩
        · rw [List.mem_singleton.1 q] at h; exact .inr h
    · rw [selA_no ht, selV_no ht]
      exact sel_all k (by omega) x
/-- The relations of the atoms. -/
def relsQ (d : List T3) (al : List A2) : List Rel := al.map fun A => relOf (lkT d A.1) A
theorem rels_map (d : List T3) (al : List A2) : rels (al.map fun A => lkT d A.1) al = relsQ d al := by
  unfold rels relsQ
  induction al with
  | nil => rfl
  | cons A al ih => simp only [List.map_cons, List.zipWith_cons_cons, ih]
theorem nodup_asc {l : List (List Int)} (h : Asc l) : l.Nodup := by
  rw [List.nodup_iff_pairwise_ne]
  refine List.Pairwise.imp ?_ h
  intro a b hab e
  subst e
  rw [cmpR_self] at hab
  omega
theorem for_tab {d : List T3} {n : Int} {l : List A2} (h : forOk d n l = true) {A : A2} (hA : A ∈ l) : okT (lkT d A.1) = true ∧ (lkT d A.1).2.1 = (A.2.length : Int) ∧ (lookL d A.1).isSome = true := by
  have hf := (of_decide_eq_true h).2 A hA
  unfold fitA at hf
  rw [Bool.and_eq_true, decide_eq_true_eq] at hf
  obtain ⟨T, hT⟩ := Option.isSome_iff_exists.1 hf.1
  refine ⟨?_, hf.2, hf.1⟩
  rw [lk_some hT]
  unfold lookL at hT
  split at hT
  · rename_i hd
    exact (dbOk_iff.1 hd).2.1 T (findN_some hT).1
  · cases hT
theorem for_qp {d : List T3} {n : Int} {l : List A2} (h : forOk d n l = true) : QP n l := qOk_iff.1 (of_decide_eq_true h).1
theorem rel_ok {d : List T3} {n : Int} {l : List A2} (h : forOk d n l = true) {A : A2} (hA : A ∈ l) : RelOk (relOf (lkT d A.1) A) := by
  obtain ⟨h1, h2, _⟩ := for_tab h hA
  have hP : TabP _ _ _ := of_decide_eq_true h1
  obtain ⟨_, _, _, h8, hrow, hasc⟩ := hP
  refine ⟨h8, nodup_asc hasc, fun v hv => ((for_qp h).in4 A hA v hv).1, fun row hr => ?_⟩
  have := of_decide_eq_true (hrow row hr)
  refine ⟨?_, this.2⟩
  have e := this.1
  rw [h2] at e
  show row.length = A.2.length
  omega
theorem cover {d : List T3} {n : Int} {l : List A2} (h : forOk d n l = true) (t : Nat) : Cover (varsL (bs (selV l t l.length))) (relsQ d (selA l t l.length)) where
  ok R hR := by
    obtain ⟨A, hA, rfl⟩ := List.mem_map.1 hR
    exact rel_ok h (selA_mem _ (Nat.le_refl _) A hA)
  nd := nodup_varsL _
  pos v hv := (varsL_bd v hv).1
  sub R hR v hv := by
    obtain ⟨A, hA, rfl⟩ := List.mem_map.1 hR
    have h4 := (for_qp h).in4 A (selA_mem _ (Nat.le_refl _) A hA) v hv
    exact mem_varsL.2 ⟨v.toNat, by omega, (bs_test _ _).2 ⟨v, (sel_all _ (Nat.le_refl _) v).2 ⟨A, hA, hv⟩, rfl⟩, by omega⟩
  all v hv := by
    obtain ⟨k, hk, ht, rfl⟩ := mem_varsL.1 hv
    obtain ⟨x, hx, e⟩ := (bs_test _ _).1 ht
    obtain ⟨A, hA, hxA⟩ := (sel_all _ (Nat.le_refl _) x).1 hx
    have h4 := (for_qp h).in4 A (selA_mem _ (Nat.le_refl _) A hA) x hxA
    refine ⟨_, List.mem_map.2 ⟨A, hA, rfl⟩, ?_⟩
    show ((k : Nat) : Int) ∈ A.2
    rw [← e, show ((x.toNat : Nat) : Int) = x by omega]
    exact hxA
theorem rels_in {d : List T3} {n : Int} {l : List A2} (h : forOk d n l = true) (t : Nat) : ∀ R ∈ relsQ d (selA l t l.length), ∀ v ∈ R.1, 0 ≤ v ∧ v < 4 := fun R hR v hv => varsL_bd v ((cover h t).sub R hR v hv)
theorem rels_le {d : List T3} {n : Int} {l : List A2} (h : forOk d n l = true) (t : Nat) : (relsQ d (selA l t l.length)).length ≤ 4 := by
  unfold relsQ
  rw [List.length_map]
  exact Nat.le_trans (selA_len l t _) (for_qp h).2.2.2.1

/-! What a mask's answer is. -/
def evOk (d : List T3) (n : Int) (l : List A2) (m : Int) : Bool := forOk d n l && decide (1 ≤ m ∧ m ≤ (fm n l : Int))
def evV (d : List T3) (n : Int) (l : List A2) (m : Int) : List Int := if evOk d n l m then varsL (mB n l m) else []
def evR (d : List T3) (n : Int) (l : List A2) (m : Int) : List (List Int) := if evOk d n l m then walkL (varsL (mB n l m)) (relsQ d (selA l m.toNat l.length)) (varsL (mB n l m)).length [] else []
theorem evOk_iff {d : List T3} {n m : Int} {l : List A2} : evOk d n l m = true ↔ forOk d n l = true ∧ 1 ≤ m ∧ m ≤ (fm n l : Int) := by
  unfold evOk
  rw [Bool.and_eq_true, decide_eq_true_eq]
theorem evOk_mB {d : List T3} {n m : Int} {l : List A2} (h : evOk d n l m = true) : ∃ t : Nat, m = (t : Int) ∧ 1 ≤ t ∧ t < 16 ∧ t < 2 ^ l.length ∧ mB n l m = bs (selV l t l.length) := by
  obtain ⟨h1, h2, h3⟩ := evOk_iff.1 h
  obtain ⟨t, rfl⟩ := Int.eq_ofNat_of_zero_le (show 0 ≤ m by omega)
  have hmo := fm_mOk (n := n) (l := l) (t := t) (by omega) (by omega)
  have hfl := fm_lt n l
  obtain ⟨t', e, _, hlt⟩ := mOk_fm hmo
  have e2 : t = t' := by omega
  subst e2
  refine ⟨t, rfl, by omega, by omega, hlt, ?_⟩
  rw [mB_yes hmo]
  rfl
theorem ev_len (d : List T3) (n m : Int) (l : List A2) : (evR d n l m).length ≤ 4096 := by
  unfold evR
  split
  · rename_i h
    obtain ⟨t, rfl, _, _, _, hb⟩ := evOk_mB h
    have hf := (evOk_iff.1 h).1
    have hc := cover hf t
    rw [hb]
    have hp : (ansM (varsL (bs (selV l t l.length))) (relsQ d (selA l t l.length))).Perm (walkL (varsL (bs (selV l t l.length))) (relsQ d (selA l t l.length)) (varsL (bs (selV l t l.length))).length []) := by
      refine (List.perm_ext_iff_of_nodup (nodup_ansM hc) ?_).2 fun r => mem_ansM hc r
      exact nodup_asc (asc_walkL _ _)
    show (walkL _ (relsQ d (selA l t l.length)) _ _).length ≤ _
    rw [← hp.length_eq]
    exact len_ansM hc.ok (rels_le hf t)
  · simp
end Go.Proofs.YtdkhgeknjekkoaaGreat.AnsQ

namespace Go.Proofs.YtdkhgeknjekkoaaGreat.AnsC
open Go Go.RowKit Byt Ints IntsLaw Cd Rows2 Tab TabSpec Exact Atom

/-- An answer: its variables and its rows. -/
abbrev ansC : Cd (List Int × List (List Int)) := Cd.pair rowC rowsC
theorem ans_ow {w : World} {base : Nat} {v1 v2 : Value} {V : List Int} {R : List (List Int)} {f1 f2 : List Nat} (h1 : rowC.ow w base [v1] V f1) (h2 : rowsC.ow w base [v2] R f2) : ansC.ow w base [v1, v2] (V, R) (f1 ++ f2) := ⟨[v1], [v2], f1, f2, rfl, rfl, h1, h2⟩
theorem ans_reads {w : World} {S : Nat → Prop} {v1 v2 : Value} {V : List Int} {R : List (List Int)} (h : ansC.rd w S [v1, v2] (V, R)) : rowC.rd w S [v1] V ∧ rowsC.rd w S [v2] R := by
  obtain ⟨u1, u2, e, h1, h2⟩ := h
  have l1 := rowC.len h1
  match u1, l1 with
  | [x], _ =>
    simp only [List.cons_append, List.nil_append, List.cons.injEq] at e
    obtain ⟨rfl, rfl⟩ := e
    exact ⟨h1, h2⟩
theorem ans_form {w : World} {S : Nat → Prop} {v1 v2 : Value} {V : List Int} {R : List (List Int)} (h : ansC.rd w S [v1, v2] (V, R)) : ∃ a c a' c', v1 = .slice a V.length c ∧ v2 = .slice a' R.length c' ∧ V.length ≤ 9223372036854775807 ∧ R.length ≤ 9223372036854775807 := by
  obtain ⟨h1, h2⟩ := ans_reads h
  obtain ⟨a, c, rfl, l1⟩ := row_form h1
  obtain ⟨a', c', rfl, l2⟩ := rows_form h2
  exact ⟨a, c, a', c', rfl, rfl, l1, l2⟩
theorem ans_shape {w : World} {base : Nat} {v1 v2 : Value} {V : List Int} {R : List (List Int)} {fp : List Nat} (h : ansC.ow w base [v1, v2] (V, R) fp) : ∃ a c a' c', v1 = .slice a V.length c ∧ v2 = .slice a' R.length c' := by
  obtain ⟨a, c, a', c', e1, e2, _⟩ := ans_form (ansC.ow_rd h)
  exact ⟨a, c, a', c', e1, e2⟩
def ansWt (V : List Int) (R : List (List Int)) : Nat := V.length + rowsWt R
end Go.Proofs.YtdkhgeknjekkoaaGreat.AnsC

namespace Go.Proofs.YtdkhgeknjekkoaaGreat.AnsEv
open Go Go.RowKit Byt Ints IntsLaw Cd Rows2 Tab TabSpec Exact Atom QryMath QrySpec QryImp MkAtom AnsMath SlMath TabOpen TabElem QgMath AnsSpec AnsQ DbMath DbSpec Db DbExact QryFor AnsC

/-- Two cells as they are. -/
def raw2 : Cd (Value × Value) where
  n := 2
  rd _ _ us a := us = [a.1, a.2] ∧ a.1.oneCell' = true ∧ a.2.oneCell' = true
  ow _ _ us a fp := us = [a.1, a.2] ∧ (a.1.oneCell' = true ∧ a.2.oneCell' = true) ∧ fp = []
  pos := by decide
  len h := by rw [h.1]; rfl
  one h := by
    rw [h.1]
    intro u hu
    rcases List.mem_cons.1 hu with rfl | q
    · exact h.2.1
    · rw [List.mem_singleton.1 q]; exact h.2.2
  keep h _ := h
  mono h _ := h
  ow_rd h := ⟨h.1, h.2.1⟩
  ow_keep h _ := h
  ow_lt h := by rw [h.2.2]; intro b hb; cases hb
  ow_base h _ := h
theorem raw_rd {α : Type} {c : Cd α} (hn : c.n = 2) {e : TypeId} {w : World} {base : Nat} {v : Value} {ps : List (Value × Value)} {fp : List Nat} {l : List α} {S : Nat → Prop} (ho : (Cd.sl e raw2).ow w base [v] ps fp) (hl : ps.length = l.length)
    (he : ∀ i (h : i < ps.length) (h' : i < l.length), c.rd w S [ps[i].1, ps[i].2] l[i]) (hS : ∀ b ∈ fp, S b) : (Cd.sl e c).rd w S [v] l := by
  obtain ⟨ad, cap, e1, hlm, hc⟩ := (Cd.sl e raw2).ow_rd ho
  injection e1 with e1 _
  subst e1
  refine ⟨ad, cap, by rw [hl], hl ▸ hlm, ?_⟩
  rcases hc with h0 | ⟨b, off, e1, hb, hlt, hcell⟩
  · left
    exact List.eq_nil_of_length_eq_zero (by rw [← hl, h0]; rfl)
  · right
    refine ⟨b, off, e1, hS b hb, hlt, fun t ht => ?_⟩
    obtain ⟨xs, h1, h2⟩ := hcell t (by omega)
    have h3 : xs = [ps[t].1, ps[t].2] := h2.1
    subst h3
    exact ⟨_, by rw [hn]; exact h1, he t _ ht⟩

def EvAns (V : List Int) (R : List (List Int)) (ok : Bool) (w : World) (e : Ending) (w' : World) : Prop :=
  ∃ v1 v2 fp, e = .returned (.tuple #[.agg #[v1, v2], .bool ok]) ∧ ansC.ow w' w.heap.size [v1, v2] (V, R) fp ∧ fp.Nodup ∧ Below w.heap.size w w'
theorem EvAns.no {w w' : World} (hb : Below w.heap.size w w') : EvAns [] [] false w (.returned (.tuple #[.agg #[.slice none 0 0, .slice none 0 0], .bool false])) w' :=
  ⟨_, _, [], rfl, ans_ow (Cd.ow_nil _ _) (Cd.ow_nil _ _), by simp, hb⟩
theorem ev_no {d : List T3} {n m : Int} {l : List A2} (h : evOk d n l m = false) : evV d n l m = [] ∧ evR d n l m = [] := by unfold evV evR; rw [h]; exact ⟨rfl, rfl⟩
theorem Loc2.set_both {w : World} {X : Nat} {a b : Value} (h : Atom.Loc2 w X a b) (x y : Value) : Atom.Loc2 ((w.setCell ⟨X, 0, none⟩ x).setCell ⟨X, 1, none⟩ y) X x y := by
  obtain ⟨h1, h2⟩ := set2 (w := w) (k := X) (x := x) (y := y) h.c0 h.c1
  exact ⟨h1, h2, by simpa using h.f0, by simpa using h.f1⟩

/-- A local table whose rows the call owns, made behind W. -/
def MadeO (W : World) (T : T3) (s : Value) (wx : World) : Prop :=
  ∃ k ta tc fp, s = .pointer (some ⟨k, 0, none⟩) ∧ W.heap.size ≤ k ∧ Loc3 wx k (.string T.1) (.int .i64 T.2.1) (.slice ta T.2.2.length tc) ∧ rowsC.ow wx W.heap.size [.slice ta T.2.2.length tc] T.2.2 fp ∧ fp.Nodup ∧ LaterQ W wx
theorem madeO {W wq : World} {k B : Nat} {x0 x1 x2 : Value} {T : T3} {ta : Option Addr} {tc : Nat} {fp : List Nat} (kk : LaterQ W wq) (hb : W.heap.size ≤ k) (GL : Loc3 wq k x0 x1 x2)
    (how : rowsC.ow wq B [.slice ta T.2.2.length tc] T.2.2 fp) (hnd : fp.Nodup) (hB : k < B) :
    MadeO W T (.pointer (some ⟨k, 0, none⟩)) (((wq.setCell ⟨k, 0, none⟩ (.string T.1)).setCell ⟨k, 1, none⟩ (.int .i64 T.2.1)).setCell ⟨k, 2, none⟩ (.slice ta T.2.2.length tc)) := by
  obtain ⟨c0, c1, c2, f0, f1, f2⟩ := GL
  obtain ⟨k0, k1, k2⟩ := set3 (w := wq) (k := k) (x := .string T.1) (y := .int .i64 T.2.1) (z := .slice ta T.2.2.length tc) c0 c1 c2
  have hk : k ∉ fp := fun q => by have := (rowsC.ow_lt how k q).1; omega
  exact ⟨k, ta, tc, fp, rfl, hb, ⟨k0, k1, k2, by simpa using f0, by simpa using f1, by simpa using f2⟩, ow_setCell (c := rowsC) (ow_setCell (c := rowsC) (ow_setCell (c := rowsC) (rowsC.ow_base how (by omega)) hk _) hk _) hk _, hnd, later_set3 kk hb⟩
theorem madeO2 {W wq : World} {B : Nat} {e : TypeId} {T : T3} {ta : Option Addr} {tc : Nat} {fp : List Nat} (kk : LaterQ W wq) (how : rowsC.ow wq B [.slice ta T.2.2.length tc] T.2.2 fp) (hnd : fp.Nodup) (hB : W.heap.size ≤ B) :
    MadeO W T (.pointer (some ⟨wq.heap.size, 0, none⟩)) (wq.alloc (.cells #[.string T.1, .int .i64 T.2.1, .slice ta T.2.2.length tc] e (0, 0))) :=
  ⟨wq.heap.size, ta, tc, fp, rfl, later_size kk, Loc3.of (start1 wq _ rfl).1, Cd.ow_later (rowsC.ow_base how hB) (below_alloc wq _), hnd, later_alloc kk _⟩
end Go.Proofs.YtdkhgeknjekkoaaGreat.AnsEv

namespace Go.Proofs.YtdkhgeknjekkoaaGreat.AnsImp
open Go Go.RowKit Byt Ints IntsLaw Cd Rows2 Tab TabSpec Exact Atom AnsMath

def arrV (f : Nat → Int) : Value := .agg #[.int .i64 (f 0), .int .i64 (f 1), .int .i64 (f 2), .int .i64 (f 3)]
def arrO (f : Nat → Int) (e : TypeId) : Obj := .cells #[.int .i64 (f 0), .int .i64 (f 1), .int .i64 (f 2), .int .i64 (f 3)] e (0, 0)
/-- Four cells of a block. -/
structure Loc4 (w : World) (X : Nat) (a b c d : Int) : Prop where
  c0 : w.cell? ⟨X, 0, none⟩ = some (.int .i64 a)
  c1 : w.cell? ⟨X, 1, none⟩ = some (.int .i64 b)
  c2 : w.cell? ⟨X, 2, none⟩ = some (.int .i64 c)
  c3 : w.cell? ⟨X, 3, none⟩ = some (.int .i64 d)
  f0 : w.frozen? ⟨X, 0, none⟩ = false
  f1 : w.frozen? ⟨X, 1, none⟩ = false
  f2 : w.frozen? ⟨X, 2, none⟩ = false
  f3 : w.frozen? ⟨X, 3, none⟩ = false
theorem Loc4.of {w : World} {X : Nat} {a b c d : Int} {e : TypeId} (h : w.heap[X]? = some (.cells #[.int .i64 a, .int .i64 b, .int .i64 c, .int .i64 d] e (0, 0))) : Loc4 w X a b c d :=
  ⟨by simp [World.cell?, h], by simp [World.cell?, h], by simp [World.cell?, h], by simp [World.cell?, h], by simp [World.frozen?, h], by simp [World.frozen?, h], by simp [World.frozen?, h], by simp [World.frozen?, h]⟩
theorem Loc4.keep {w w' : World} {X : Nat} {a b c d : Int} (h : Loc4 w X a b c d) (hk : w'.heap[X]? = w.heap[X]?) : Loc4 w' X a b c d :=
  ⟨(World.cell?_of_block (w := w) (a := ⟨X, 0, none⟩) hk).trans h.c0, (World.cell?_of_block (w := w) (a := ⟨X, 1, none⟩) hk).trans h.c1, (World.cell?_of_block (w := w) (a := ⟨X, 2, none⟩) hk).trans h.c2, (World.cell?_of_block (w := w) (a := ⟨X, 3, none⟩) hk).trans h.c3,
    (World.frozen?_of_block (w := w) (a := ⟨X, 0, none⟩) hk).trans h.f0, (World.frozen?_of_block (w := w) (a := ⟨X, 1, none⟩) hk).trans h.f1, (World.frozen?_of_block (w := w) (a := ⟨X, 2, none⟩) hk).trans h.f2, (World.frozen?_of_block (w := w) (a := ⟨X, 3, none⟩) hk).trans h.f3⟩
theorem Loc4.lt {w : World} {X : Nat} {a b c d : Int} (h : Loc4 w X a b c d) : X < w.heap.size := World.block_lt_of_cell? w _ h.c0
theorem Loc4.touched {w w' : World} {X : Nat} {a b c d : Int} {fp : List Nat} (h : Loc4 w X a b c d) (ht : Cd.Touch fp w w') (hn : X ∉ fp) : Loc4 w' X a b c d := h.keep (ht.block X h.lt hn)
theorem Loc4.later {w w' : World} {X : Nat} {a b c d : Int} (h : Loc4 w X a b c d) (hb : Below w.heap.size w w') : Loc4 w' X a b c d := h.keep (hb.block X h.lt)
theorem Loc4.drew {w : World} {X : Nat} {a b c d : Int} (h : Loc4 w X a b c d) : Loc4 w.drew X a b c d := ⟨h.c0, h.c1, h.c2, h.c3, h.f0, h.f1, h.f2, h.f3⟩
theorem Loc4.drewN {w : World} {X m : Nat} {a b c d : Int} (h : Loc4 w X a b c d) : Loc4 (w.drewN m) X a b c d := ⟨h.c0, h.c1, h.c2, h.c3, h.f0, h.f1, h.f2, h.f3⟩
theorem Loc4.far {w : World} {X : Nat} {a b c d : Int} (h : Loc4 w X a b c d) {p : Addr} (hp : X ≠ p.block) (v : Value) : Loc4 (w.setCell p v) X a b c d := h.keep (Below.heap_setCell w p v X hp)
theorem Loc4.set0 {w : World} {X : Nat} {a b c d : Int} (h : Loc4 w X a b c d) (x : Int) : Loc4 (w.setCell ⟨X, 0, none⟩ (.int .i64 x)) X x b c d :=
  ⟨World.cell?_setCell_same _ _ _ h.c0, (World.cell?_setCell_other _ _ _ _ (by simp)).trans h.c1, (World.cell?_setCell_other _ _ _ _ (by simp)).trans h.c2, (World.cell?_setCell_other _ _ _ _ (by simp)).trans h.c3, by simpa using h.f0, by simpa using h.f1, by simpa using h.f2, by simpa using h.f3⟩
theorem Loc4.set1 {w : World} {X : Nat} {a b c d : Int} (h : Loc4 w X a b c d) (x : Int) : Loc4 (w.setCell ⟨X, 1, none⟩ (.int .i64 x)) X a x c d :=
  ⟨(World.cell?_setCell_other _ _ _ _ (by simp)).trans h.c0, World.cell?_setCell_same _ _ _ h.c1, (World.cell?_setCell_other _ _ _ _ (by simp)).trans h.c2, (World.cell?_setCell_other _ _ _ _ (by simp)).trans h.c3, by simpa using h.f0, by simpa using h.f1, by simpa using h.f2, by simpa using h.f3⟩
theorem Loc4.set2 {w : World} {X : Nat} {a b c d : Int} (h : Loc4 w X a b c d) (x : Int) : Loc4 (w.setCell ⟨X, 2, none⟩ (.int .i64 x)) X a b x d :=
  ⟨(World.cell?_setCell_other _ _ _ _ (by simp)).trans h.c0, (World.cell?_setCell_other _ _ _ _ (by simp)).trans h.c1, World.cell?_setCell_same _ _ _ h.c2, (World.cell?_setCell_other _ _ _ _ (by simp)).trans h.c3, by simpa using h.f0, by simpa using h.f1, by simpa using h.f2, by simpa using h.f3⟩
theorem Loc4.set3 {w : World} {X : Nat} {a b c d : Int} (h : Loc4 w X a b c d) (x : Int) : Loc4 (w.setCell ⟨X, 3, none⟩ (.int .i64 x)) X a b c x :=
  ⟨(World.cell?_setCell_other _ _ _ _ (by simp)).trans h.c0, (World.cell?_setCell_other _ _ _ _ (by simp)).trans h.c1, (World.cell?_setCell_other _ _ _ _ (by simp)).trans h.c2, World.cell?_setCell_same _ _ _ h.c3, by simpa using h.f0, by simpa using h.f1, by simpa using h.f2, by simpa using h.f3⟩
/-- All four written. -/
theorem Loc4.all {w : World} {X : Nat} {a b c d : Int} (h : Loc4 w X a b c d) (x y z u : Int) :
    Loc4 ((((w.setCell ⟨X, 0, none⟩ (.int .i64 x)).setCell ⟨X, 1, none⟩ (.int .i64 y)).setCell ⟨X, 2, none⟩ (.int .i64 z)).setCell ⟨X, 3, none⟩ (.int .i64 u)) X x y z u := (((h.set0 x).set1 y).set2 z).set3 u
theorem below_set4 {B : Nat} {a w : World} {X : Nat} {x y z u : Value} (h : Below B a w) (hX : B ≤ X) :
    Below B a ((((w.setCell ⟨X, 0, none⟩ x).setCell ⟨X, 1, none⟩ y).setCell ⟨X, 2, none⟩ z).setCell ⟨X, 3, none⟩ u) := (((h.setCell hX _).setCell hX _).setCell hX _).setCell hX _

set_option maxRecDepth 100000 in
set_option maxHeartbeats 1600000 in
theorem impl_empty (w : World) : Calls Tryz.prog 96 #[] w fun e w' => e = .returned (arrV emp) ∧ Below w.heap.size w w' := by
  go_enter Tryz.func96, Tryz.ntmps96
  go_wp2_with fail
  generalize hW : (w.alloc _).alloc _ = W
  obtain ⟨r0, r1, hz, hb0⟩ := start2g w _ _ hW
  have L0 := Lib.hid (Loc4.of r0)
  have L1 := Lib.hid (Loc4.of r1)
  have HB := Lib.hid hb0
  clear hW r0 r1 hb0
  go_loopw [3] (fun s wr => ∃ k : Nat, k ≤ 4 ∧ s = .int .i64 k ∧ Loc4 wr w.heap.size 0 0 0 0 ∧ Loc4 wr (w.heap.size + 1) (if 0 < k then -1 else 0) (if 1 < k then -1 else 0) (if 2 < k then -1 else 0) (if 3 < k then -1 else 0) ∧ Below w.heap.size w wr) (fun s _ => 4 - (intOf s).toNat)
  case atStart => exact ⟨0, by omega, rfl, L0.out, L1.out, HB.out⟩
  case round =>
    obtain ⟨k, hk, rfl, h0, h1, hb⟩ := hrel
    have H0 := Lib.hid h0
    have HBW := Lib.hid hb
    have hk5 : k = 0 ∨ k = 1 ∨ k = 2 ∨ k = 3 ∨ k = 4 := by omega
    rcases hk5 with rfl | rfl | rfl | rfl | rfl
    · simp at h1
      have H1 := Lib.hid h1
      have c0 := h1.c0
      have f0 := h1.f0
      clear h0 h1 hb hk
      go_wp2_with fail
      go_roundw
      case rel => exact ⟨1, by omega, rfl, H0.out.far (by simp) _, by simpa using H1.out.set0 (-1), HBW.out.setCell (by simp) _⟩
      case measure => simp [intOf]
    · simp at h1
      have H1 := Lib.hid h1
      have c1 := h1.c1
      have f1 := h1.f1
      clear h0 h1 hb hk
      go_wp2_with fail
      go_roundw
      case rel => exact ⟨2, by omega, rfl, H0.out.far (by simp) _, by simpa using H1.out.set1 (-1), HBW.out.setCell (by simp) _⟩
      case measure => simp [intOf]
    · simp at h1
      have H1 := Lib.hid h1
      have c2 := h1.c2
      have f2 := h1.f2
      clear h0 h1 hb hk
      go_wp2_with fail
      go_roundw
      case rel => exact ⟨3, by omega, rfl, H0.out.far (by simp) _, by simpa using H1.out.set2 (-1), HBW.out.setCell (by simp) _⟩
      case measure => simp [intOf]
    · simp at h1
      have H1 := Lib.hid h1
      have c3 := h1.c3
      have f3 := h1.f3
      clear h0 h1 hb hk
      go_wp2_with fail
      go_roundw
      case rel => exact ⟨4, by omega, rfl, H0.out.far (by simp) _, by simpa using H1.out.set3 (-1), HBW.out.setCell (by simp) _⟩
      case measure => simp [intOf]
    · simp at h1
      have c0 := h1.c0
      have c1 := h1.c1
      have c2 := h1.c2
      have c3 := h1.c3
      have d0 := h0.c0
      have d1 := h0.c1
      have d2 := h0.c2
      have d3 := h0.c3
      have f0 := h0.f0
      have f1 := h0.f1
      have f2 := h0.f2
      have f3 := h0.f3
      have HQ := Lib.hid (h0.all (-1) (-1) (-1) (-1))
      clear h0 h1 hb hk
      go_wp2_with fail
      have g0 := HQ.out.c0
      have g1 := HQ.out.c1
      have g2 := HQ.out.c2
      have g3 := HQ.out.c3
      refine bodyPost_ret (v := arrV emp) (by simp [results, Tryz.results96, go_sem, g0, g1, g2, g3, arrV, emp]) rfl ⟨rfl, below_set4 HBW.out (Nat.le_refl _)⟩
end Go.Proofs.YtdkhgeknjekkoaaGreat.AnsImp

namespace Go.Proofs.YtdkhgeknjekkoaaGreat.AnsImp
open Go Go.RowKit Byt Ints IntsLaw Cd Rows2 Tab TabSpec Exact Atom AnsMath

def stepF (g : Nat → Int) (p : Int × Int) : Option (Nat → Int) := if g p.1.toNat ≠ -1 ∧ g p.1.toNat ≠ p.2 then none else some (upd g p.1.toNat p.2)
theorem extF_snoc : ∀ (zs : List (Int × Int)) (f : Nat → Int) (p : Int × Int), extF f (zs ++ [p]) = (extF f zs).bind fun g => stepF g p
  | [], f, p => by
    show extF f [p] = stepF f p
    unfold extF stepF
    split <;> rfl
  | z :: zs, f, p => by
    show extF f (z :: (zs ++ [p])) = _
    unfold extF
    split
    · rfl
    · exact extF_snoc zs _ p
theorem extF_stop {zs : List (Int × Int)} {f : Nat → Int} (h : extF f zs = none) (ys : List (Int × Int)) : extF f (zs ++ ys) = none := by
  induction ys generalizing zs with
  | nil => rw [List.append_nil]; exact h
  | cons y ys ih =>
    rw [show zs ++ y :: ys = (zs ++ [y]) ++ ys by simp]
    exact ih (by rw [extF_snoc, h]; rfl)
def extV (r : Option (Nat → Int)) : Value := .tuple #[arrV (r.getD fun _ => 0), .bool r.isSome]
theorem zip_more {vs row : List Int} (hl : row.length = vs.length) {k : Nat} (hk : k < vs.length) : (vs.zip row).take (k + 1) = (vs.zip row).take k ++ [(vs[k], row[k]'(by omega))] := by
  have h : k < (vs.zip row).length := by rw [List.length_zip]; omega
  rw [List.take_succ_eq_append_getElem h, List.getElem_zip]
theorem ext_yes {f g : Nat → Int} {vs row : List Int} (hl : row.length = vs.length) {k : Nat} (hk : k < vs.length) (hg : extF f ((vs.zip row).take k) = some g) {v x : Int} (hv : vs[k] = v) (hx : row[k]'(by omega) = x)
    (h : g v.toNat = -1 ∨ g v.toNat = x) : extF f ((vs.zip row).take (k + 1)) = some (upd g v.toNat x) := by
  subst hv hx
  rw [zip_more hl hk, extF_snoc, hg]
  show stepF g _ = _
  unfold stepF
  rw [if_neg]
  intro q
  rcases h with r | r
  · exact q.1 r
  · exact q.2 r
theorem ext_no {f g : Nat → Int} {vs row : List Int} (hl : row.length = vs.length) {k : Nat} (hk : k < vs.length) (hg : extF f ((vs.zip row).take k) = some g) {v x : Int} (hv : vs[k] = v) (hx : row[k]'(by omega) = x)
    (h1 : g v.toNat ≠ -1) (h2 : g v.toNat ≠ x) : extF f (vs.zip row) = none := by
  subst hv hx
  rw [← List.take_append_drop (k + 1) (vs.zip row)]
  refine extF_stop ?_ _
  rw [zip_more hl hk, extF_snoc, hg]
  show stepF g _ = _
  unfold stepF
  rw [if_pos ⟨h1, h2⟩]
theorem dn_below {B m : Nat} {w w' : World} (h : Below B w w') : Below B w (w'.drewN m) := ⟨h.os, h.tape, h.output, h.size, h.block⟩
abbrev LocF (w : World) (X : Nat) (g : Nat → Int) : Prop := Loc4 w X (g 0) (g 1) (g 2) (g 3)

set_option maxRecDepth 100000 in
set_option maxHeartbeats 6400000 in
theorem impl_extend (f : Nat → Int) (vv rv : Value) (vs row : List Int) (S1 S2 : Nat → Prop) (w : World) (h1 : rowC.rd w S1 [vv] vs) (h2 : rowC.rd w S2 [rv] row) (h4 : ∀ v ∈ vs, 0 ≤ v ∧ v < 4) (hl : row.length = vs.length) :
    Calls Tryz.prog 95 #[arrV f, vv, rv] w fun e w' => e = .returned (extV (extF f (vs.zip row))) ∧ Below w.heap.size w w' := by
  have HR1 := Lib.hid (fun w' (hb : Below w.heap.size w w') => row_ri (Cd.later h1 hb))
  have HR2 := Lib.hid (fun w' (hb : Below w.heap.size w w') => row_ri (Cd.later h2 hb))
  obtain ⟨a1, c1, rfl, hl1⟩ := row_form h1
  obtain ⟨a2, c2, rfl, hl2⟩ := row_form h2
  have H4 := Lib.hid h4
  have HL := Lib.hid hl
  clear h1 h2 h4 hl
  unfold arrV
  go_enter Tryz.func95, Tryz.ntmps95
  go_wp2_with fail
  generalize hW : (w.alloc _).alloc _ = W
  obtain ⟨r0, r1, hz, hb0⟩ := start2g w _ _ hW
  have L0 := Lib.hid (Loc4.of r0)
  have L1 := Lib.hid (Loc4.of r1)
  have HB := Lib.hid hb0
  clear hW r0 r1 hb0
  go_loopw [12] (fun s wr => ∃ (k : Nat) (g : Nat → Int), k ≤ vs.length ∧ s = .int .i64 k ∧ Hid (extF f ((vs.zip row).take k) = some g) ∧ LocF wr w.heap.size g ∧ Loc4 wr (w.heap.size + 1) 0 0 0 0 ∧ Below w.heap.size w wr) (fun s _ => vs.length - (intOf s).toNat)
  case atStart => exact ⟨0, f, Nat.zero_le _, rfl, Lib.hid rfl, L0.out, L1.out, HB.out⟩
  case round =>
    obtain ⟨k, g, hk, rfl, hg, h0, h1, hb⟩ := hrel
    have HBW := Lib.hid hb
    have H1 := Lib.hid h1
    have H0 := Lib.hid h0
    by_cases hlt : k < vs.length
    · have hlt2 : k < row.length := by rw [HL.out]; exact hlt
      obtain ⟨b, off, cap', e1, _, hx1⟩ := ri_at (HR1.out wr hb).1 hlt
      injection e1 with e1 e2 e3
      subst e1 e3
      obtain ⟨b', off', cap', e1, _, hx2⟩ := ri_at (HR2.out wr hb).1 hlt2
      injection e1 with e1 e2 e3
      subst e1 e3
      have hv4 := H4.out _ (List.getElem_mem hlt)
      have HLT := Lib.hid hlt
      have p1 : (0 : Int) ≤ (k : Int) := by omega
      have p2 : (k : Int) < (vs.length : Int) := by omega
      have p3 : (k : Int) < (row.length : Int) := by omega
      have HYES := Lib.hid (fun (v x : Int) (hv : vs[k] = v) (hx : row[k] = x) (h : g v.toNat = -1 ∨ g v.toNat = x) => ext_yes HL.out hlt hg.out hv hx h)
      have HNO := Lib.hid (fun (v x : Int) (hv : vs[k] = v) (hx : row[k] = x) (h : g v.toNat ≠ -1) (h' : g v.toNat ≠ x) => ext_no HL.out hlt hg.out hv hx h h')
      have c0 := h0.c0
      have c1 := h0.c1
      have c2 := h0.c2
      have c3 := h0.c3
      have f0 := h0.f0
      have f1 := h0.f1
      have f2 := h0.f2
      have f3 := h0.f3
      have HVE := Lib.hid (rfl : vs[k] = vs[k])
      clear h0 h1 hb hg
      generalize hve : vs[k] = v at *
      generalize hxe : row[k] = x at *
      have HVK := Lib.hid hve
      have HXK := Lib.hid hxe
      clear hve hxe HVE
      have hv5 : v = 0 ∨ v = 1 ∨ v = 2 ∨ v = 3 := by omega
      clear hv4
      rcases hv5 with rfl | rfl | rfl | rfl
      · by_cases hm : g 0 = -1
        · have t1 : (g 0 != -1) = false := by rw [bne_eq_false_iff_eq]; exact hm
          have HE := Lib.hid (HYES.out _ _ rfl rfl (Or.inl hm))
          clear hm HYES HNO
          generalize g 0 = z at *
          go_wp2
          go_quiet (fail)
          go_wp2
          go_roundw
          case rel => exact ⟨k + 1, _, by have := HLT.out; omega, by go_num, HE, H0.out.drewN.set0 x, H1.out.drewN.far (by simp) _, (dn_below HBW.out).setCell (Nat.le_refl _) _⟩
          case measure => have := HLT.out; simp [intOf]; omega
        · have t1 : (g 0 != -1) = true := by rw [bne_iff_ne]; exact hm
          by_cases hx : g 0 = x
          · have t2 : (g 0 != x) = false := by rw [bne_eq_false_iff_eq]; exact hx
            have HE := Lib.hid (HYES.out _ _ rfl rfl (Or.inr hx))
            clear hm hx HYES HNO
            go_wp2
            go_quiet (fail)
            go_wp2
            go_roundw
            case rel => exact ⟨k + 1, _, by have := HLT.out; omega, by go_num, HE, H0.out.drewN.set0 x, H1.out.drewN.far (by simp) _, (dn_below HBW.out).setCell (Nat.le_refl _) _⟩
            case measure => have := HLT.out; simp [intOf]; omega
          · have t2 : (g 0 != x) = true := by rw [bne_iff_ne]; exact hx
            have HE := Lib.hid (HNO.out _ _ rfl rfl hm hx)
            have d0 := H1.out.c0
            have d1 := H1.out.c1
            have d2 := H1.out.c2
            have d3 := H1.out.c3
            have e0 := H1.out.f0
            have e1 := H1.out.f1
            have e2 := H1.out.f2
            have e3 := H1.out.f3
            clear hm hx HYES HNO
            go_wp2
            go_quiet (fail)
            go_wp2
            rename_i nq
            have HQ := Lib.hid ((H1.out.drewN (m := nq)).all 0 0 0 0)
            have g0 := HQ.out.c0
            have g1 := HQ.out.c1
            have g2 := HQ.out.c2
            have g3 := HQ.out.c3
            refine bodyPost_ret (v := extV none) (by simp [results, Tryz.results95, go_sem, g0, g1, g2, g3, arrV, extV]) rfl ⟨by rw [HE.out], below_set4 (dn_below HBW.out) (by omega)⟩
      · by_cases hm : g 1 = -1
        · have t1 : (g 1 != -1) = false := by rw [bne_eq_false_iff_eq]; exact hm
          have HE := Lib.hid (HYES.out _ _ rfl rfl (Or.inl hm))
          clear hm HYES HNO
          generalize g 1 = z at *
          go_wp2
          go_quiet (fail)
          go_wp2
          go_roundw
          case rel => exact ⟨k + 1, _, by have := HLT.out; omega, by go_num, HE, H0.out.drewN.set1 x, H1.out.drewN.far (by simp) _, (dn_below HBW.out).setCell (Nat.le_refl _) _⟩
          case measure => have := HLT.out; simp [intOf]; omega
        · have t1 : (g 1 != -1) = true := by rw [bne_iff_ne]; exact hm
          by_cases hx : g 1 = x
          · have t2 : (g 1 != x) = false := by rw [bne_eq_false_iff_eq]; exact hx
            have HE := Lib.hid (HYES.out _ _ rfl rfl (Or.inr hx))
            clear hm hx HYES HNO
            go_wp2
            go_quiet (fail)
            go_wp2
            go_roundw
            case rel => exact ⟨k + 1, _, by have := HLT.out; omega, by go_num, HE, H0.out.drewN.set1 x, H1.out.drewN.far (by simp) _, (dn_below HBW.out).setCell (Nat.le_refl _) _⟩
            case measure => have := HLT.out; simp [intOf]; omega
          · have t2 : (g 1 != x) = true := by rw [bne_iff_ne]; exact hx
            have HE := Lib.hid (HNO.out _ _ rfl rfl hm hx)
            have d0 := H1.out.c0
            have d1 := H1.out.c1
            have d2 := H1.out.c2
            have d3 := H1.out.c3
            have e0 := H1.out.f0
            have e1 := H1.out.f1
            have e2 := H1.out.f2
            have e3 := H1.out.f3
            clear hm hx HYES HNO
            go_wp2
            go_quiet (fail)
            go_wp2
            rename_i nq
            have HQ := Lib.hid ((H1.out.drewN (m := nq)).all 0 0 0 0)
            have g0 := HQ.out.c0
            have g1 := HQ.out.c1
            have g2 := HQ.out.c2
            have g3 := HQ.out.c3
            refine bodyPost_ret (v := extV none) (by simp [results, Tryz.results95, go_sem, g0, g1, g2, g3, arrV, extV]) rfl ⟨by rw [HE.out], below_set4 (dn_below HBW.out) (by omega)⟩
      · by_cases hm : g 2 = -1
        · have t1 : (g 2 != -1) = false := by rw [bne_eq_false_iff_eq]; exact hm
          have HE := Lib.hid (HYES.out _ _ rfl rfl (Or.inl hm))
          clear hm HYES HNO
          generalize g 2 = z at *
          go_wp2
          go_quiet (fail)
          go_wp2
          go_roundw
          case rel => exact ⟨k + 1, _, by have := HLT.out; omega, by go_num, HE, H0.out.drewN.set2 x, H1.out.drewN.far (by simp) _, (dn_below HBW.out).setCell (Nat.le_refl _) _⟩
          case measure => have := HLT.out; simp [intOf]; omega
        · have t1 : (g 2 != -1) = true := by rw [bne_iff_ne]; exact hm
          by_cases hx : g 2 = x
          · have t2 : (g 2 != x) = false := by rw [bne_eq_false_iff_eq]; exact hx
            have HE := Lib.hid (HYES.out _ _ rfl rfl (Or.inr hx))
            clear hm hx HYES HNO
            go_wp2
            go_quiet (fail)
            go_wp2
            go_roundw
            case rel => exact ⟨k + 1, _, by have := HLT.out; omega, by go_num, HE, H0.out.drewN.set2 x, H1.out.drewN.far (by simp) _, (dn_below HBW.out).setCell (Nat.le_refl _) _⟩
            case measure => have := HLT.out; simp [intOf]; omega
          · have t2 : (g 2 != x) = true := by rw [bne_iff_ne]; exact hx
            have HE := Lib.hid (HNO.out _ _ rfl rfl hm hx)
            have d0 := H1.out.c0
            have d1 := H1.out.c1
            have d2 := H1.out.c2
            have d3 := H1.out.c3
            have e0 := H1.out.f0
            have e1 := H1.out.f1
            have e2 := H1.out.f2
            have e3 := H1.out.f3
            clear hm hx HYES HNO
            go_wp2
            go_quiet (fail)
            go_wp2
            rename_i nq
            have HQ := Lib.hid ((H1.out.drewN (m := nq)).all 0 0 0 0)
            have g0 := HQ.out.c0
            have g1 := HQ.out.c1
            have g2 := HQ.out.c2
            have g3 := HQ.out.c3
            refine bodyPost_ret (v := extV none) (by simp [results, Tryz.results95, go_sem, g0, g1, g2, g3, arrV, extV]) rfl ⟨by rw [HE.out], below_set4 (dn_below HBW.out) (by omega)⟩
      · by_cases hm : g 3 = -1
        · have t1 : (g 3 != -1) = false := by rw [bne_eq_false_iff_eq]; exact hm
          have HE := Lib.hid (HYES.out _ _ rfl rfl (Or.inl hm))
          clear hm HYES HNO
          generalize g 3 = z at *
          go_wp2
          go_quiet (fail)
          go_wp2
          go_roundw
          case rel => exact ⟨k + 1, _, by have := HLT.out; omega, by go_num, HE, H0.out.drewN.set3 x, H1.out.drewN.far (by simp) _, (dn_below HBW.out).setCell (Nat.le_refl _) _⟩
          case measure => have := HLT.out; simp [intOf]; omega
        · have t1 : (g 3 != -1) = true := by rw [bne_iff_ne]; exact hm
          by_cases hx : g 3 = x
          · have t2 : (g 3 != x) = false := by rw [bne_eq_false_iff_eq]; exact hx
            have HE := Lib.hid (HYES.out _ _ rfl rfl (Or.inr hx))
            clear hm hx HYES HNO
            go_wp2
            go_quiet (fail)
            go_wp2
            go_roundw
            case rel => exact ⟨k + 1, _, by have := HLT.out; omega, by go_num, HE, H0.out.drewN.set3 x, H1.out.drewN.far (by simp) _, (dn_below HBW.out).setCell (Nat.le_refl _) _⟩
            case measure => have := HLT.out; simp [intOf]; omega
          · have t2 : (g 3 != x) = true := by rw [bne_iff_ne]; exact hx
            have HE := Lib.hid (HNO.out _ _ rfl rfl hm hx)
            have d0 := H1.out.c0
            have d1 := H1.out.c1
            have d2 := H1.out.c2
            have d3 := H1.out.c3
            have e0 := H1.out.f0
            have e1 := H1.out.f1
            have e2 := H1.out.f2
            have e3 := H1.out.f3
            clear hm hx HYES HNO
            go_wp2
            go_quiet (fail)
            go_wp2
            rename_i nq
            have HQ := Lib.hid ((H1.out.drewN (m := nq)).all 0 0 0 0)
            have g0 := HQ.out.c0
            have g1 := HQ.out.c1
            have g2 := HQ.out.c2
            have g3 := HQ.out.c3
            refine bodyPost_ret (v := extV none) (by simp [results, Tryz.results95, go_sem, g0, g1, g2, g3, arrV, extV]) rfl ⟨by rw [HE.out], below_set4 (dn_below HBW.out) (by omega)⟩
    · have ek : k = vs.length := by omega
      subst ek
      have hzl : (vs.zip row).length = vs.length := by rw [List.length_zip, HL.out]; omega
      have hgo := hg.out
      rw [← hzl, List.take_length] at hgo
      have HE := Lib.hid hgo
      have c0 := h0.c0
      have c1 := h0.c1
      have c2 := h0.c2
      have c3 := h0.c3
      have d0 := h1.c0
      have d1 := h1.c1
      have d2 := h1.c2
      have d3 := h1.c3
      have e0 := h1.f0
      have e1 := h1.f1
      have e2 := h1.f2
      have e3 := h1.f3
      have HQ := Lib.hid (h1.all (g 0) (g 1) (g 2) (g 3))
      clear h0 h1 hb hg hgo hzl
      go_wp2_with fail
      have g0 := HQ.out.c0
      have g1 := HQ.out.c1
      have g2 := HQ.out.c2
      have g3 := HQ.out.c3
      refine bodyPost_ret (v := extV (some g)) (by simp [results, Tryz.results95, go_sem, g0, g1, g2, g3, arrV, extV]) rfl ⟨by rw [HE.out], below_set4 HBW.out (by omega)⟩
end Go.Proofs.YtdkhgeknjekkoaaGreat.AnsImp

namespace Go.Proofs.YtdkhgeknjekkoaaGreat.AnsImp
open Go Go.RowKit Byt Ints IntsLaw Cd Rows2 Tab TabSpec Exact Atom AnsMath TabImp

theorem ext_bd : ∀ {zs : List (Int × Int)} {f g : Nat → Int}, extF f zs = some g → (∀ v, -1 ≤ f v ∧ f v ≤ 9) → (∀ p ∈ zs, 0 ≤ p.2 ∧ p.2 ≤ 9) → ∀ v, -1 ≤ g v ∧ g v ≤ 9
  | [], f, g, h, hf, _ => by
    injection h with h
    subst h
    exact hf
  | p :: ps, f, g, h, hf, hz => by
    unfold extF at h
    split at h
    · cases h
    · refine ext_bd h (fun v => ?_) fun q hq => hz q (List.mem_cons.2 (.inr hq))
      unfold upd
      split
      · have := hz p (List.mem_cons.2 (.inl rfl))
        omega
      · exact hf v
theorem emp_bd : ∀ v, -1 ≤ emp v ∧ emp v ≤ 9 := fun v => by unfold emp; omega
/-- What a row of the next relation gives. -/
def stepM (f : Nat → Int) (vars : List Int) (rest : List Rel) (row : List Int) : List (Nat → Int) := match extF f (vars.zip row) with | none => [] | some g => matF g rest
def upTo (f : Nat → Int) (R : Rel) (rest : List Rel) (k : Nat) : List (Nat → Int) := (R.2.take k).flatMap (stepM f R.1 rest)
theorem upTo_succ {f : Nat → Int} {R : Rel} {rest : List Rel} {k : Nat} (hk : k < R.2.length) : upTo f R rest (k + 1) = upTo f R rest k ++ stepM f R.1 rest R.2[k] := by
  unfold upTo
  rw [List.take_succ_eq_append_getElem hk, List.flatMap_append]
  simp
theorem upTo_all (f : Nat → Int) (R : Rel) (rest : List Rel) : upTo f R rest R.2.length = matF f (R :: rest) := by
  unfold upTo
  rw [List.take_length]
  rfl
theorem len_step {f : Nat → Int} {vars : List Int} {rest : List Rel} {row : List Int} (h : ∀ R ∈ rest, RelOk R) : (stepM f vars rest row).length ≤ 8 ^ rest.length := by
  unfold stepM
  split
  · simp
  · exact len_mat h
theorem len_upTo {f : Nat → Int} {R : Rel} {rest : List Rel} (h : ∀ R ∈ rest, RelOk R) (k : Nat) : (upTo f R rest k).length ≤ k * 8 ^ rest.length := by
  have := len_flatMap_le (stepM f R.1 rest) (8 ^ rest.length) (R.2.take k) fun row _ => len_step h
  rw [List.length_take] at this
  exact Nat.le_trans this (Nat.mul_le_mul_right _ (Nat.min_le_left _ _))
def arrL (f : Nat → Int) : List Int := [f 0, f 1, f 2, f 3]
theorem sel_arr {f : Nat → Int} {vs : List Int} (h : ∀ v ∈ vs, 0 ≤ v ∧ v < 4) : selOk (arrL f) vs = true ∧ selR (arrL f) vs = selF vs f := by
  refine ⟨decide_eq_true fun c hc => h c hc, ?_⟩
  unfold selR selF
  refine List.map_congr_left fun v hv => ?_
  have hv4 := h v hv
  have : v = 0 ∨ v = 1 ∨ v = 2 ∨ v = 3 := by omega
  rcases this with rfl | rfl | rfl | rfl <;> rfl
theorem arr_rd {w : World} {X : Nat} {f : Nat → Int} {c : Nat} (h : LocF w X f) (hb : ∀ v, -1 ≤ f v ∧ f v ≤ 9) : rowC.rd w (fun b => b = X) [.slice (some ⟨X, 0, none⟩) 4 c] (arrL f) := by
  refine ⟨_, c, rfl, by simp [arrL], .inr ⟨X, 0, rfl, rfl, h.lt, fun t ht => ⟨[.int .i64 (arrL f)[t]], fun j hj => ?_, rfl, ?_⟩⟩⟩
  · have hj0 : j = 0 := by simpa using hj
    subst hj0
    have ht4 : t < 4 := by simpa [arrL] using ht
    have : t = 0 ∨ t = 1 ∨ t = 2 ∨ t = 3 := by omega
    rcases this with rfl | rfl | rfl | rfl
    · exact h.c0
    · exact h.c1
    · exact h.c2
    · exact h.c3
  · have ht4 : t < 4 := by simpa [arrL] using ht
    have : t = 0 ∨ t = 1 ∨ t = 2 ∨ t = 3 := by omega
    have h0 := hb 0
    have h1 := hb 1
    have h2 := hb 2
    have h3 := hb 3
    rcases this with rfl | rfl | rfl | rfl
    · show _ ≤ f 0 ∧ f 0 ≤ _; omega
    · show _ ≤ f 1 ∧ f 1 ≤ _; omega
    · show _ ≤ f 2 ∧ f 2 ≤ _; omega
    · show _ ≤ f 3 ∧ f 3 ≤ _; omega
abbrev relC : Cd Rel := Cd.pair rowC rowsC

def relsC : Cd (List Rel) := Cd.sl 80 relC
theorem rel_cells {w : World} {S : Nat → Prop} {cs : List Value} {R : Rel} (h : relC.rd w S cs R) : ∃ a c a' c', cs = [.slice a R.1.length c, .slice a' R.2.length c'] ∧ rowC.rd w S [.slice a R.1.length c] R.1 ∧ rowsC.rd w S [.slice a' R.2.length c'] R.2 := by
  obtain ⟨u1, u2, rfl, h1, h2⟩ := h
  have l1 := rowC.len h1
  have l2 := rowsC.len h2
  match u1, u2, l1, l2 with
  | [x], [y], _, _ =>
    obtain ⟨a, c, rfl, _⟩ := row_form h1
    obtain ⟨a', c', rfl, _⟩ := rows_form h2
    exact ⟨a, c, a', c', rfl, h1, h2⟩
def cloV (bR bV bO bM : Nat) : Value := .func (.func 93) #[] #[.pointer (some ⟨bR, 0, none⟩), .pointer (some ⟨bV, 0, none⟩), .pointer (some ⟨bO, 0, none⟩), .pointer (some ⟨bM, 0, none⟩)]
/-- The variables that the closure captures, and what they lead to. -/
structure EnvJ (w : World) (l : List Rel) (vs : List Int) (S : Nat → Prop) (ur uv : Value) (B0 bR bV bO bM : Nat) : Prop where
  r : w.cell? ⟨bR, 0, none⟩ = some ur
  v : w.cell? ⟨bV, 0, none⟩ = some uv
  m : w.cell? ⟨bM, 0, none⟩ = some (cloV bR bV bO bM)
  hr : relsC.rd w S [ur] l
  hv : rowC.rd w S [uv] vs
  nR : bR ≠ bO
  nV : bV ≠ bO
  nM : bM ≠ bO
  nS : ¬ S bO
  lR : bR < B0
  lV : bV < B0
  lO : bO < B0
  lM : bM < B0
  lS : ∀ b, S b → b < B0
  le : B0 ≤ w.heap.size
theorem EnvJ.touched {w w' : World} {l : List Rel} {vs : List Int} {S : Nat → Prop} {ur uv : Value} {B0 bR bV bO bM : Nat} {fp : List Nat} (h : EnvJ w l vs S ur uv B0 bR bV bO bM) (ht : Cd.Touch (bO :: fp) w w') (hf : ∀ b ∈ fp, B0 ≤ b) : EnvJ w' l vs S ur uv B0 bR bV bO bM := by
  have hno : ∀ b, b < B0 → b ≠ bO → b ∉ bO :: fp := fun b hb hne q => by
    rcases List.mem_cons.1 q with e | e
    · exact hne e
    · have := hf b e; omega
  exact ⟨ht.cell h.r (hno _ h.lR h.nR), ht.cell h.v (hno _ h.lV h.nV), ht.cell h.m (hno _ h.lM h.nM), Cd.touched h.hr ht (fun b hb q => hno b (h.lS b q) (fun e => h.nS (e ▸ q)) hb), Cd.touched h.hv ht (fun b hb q => hno b (h.lS b q) (fun e => h.nS (e ▸ q)) hb),
    h.nR, h.nV, h.nM, h.nS, h.lR, h.lV, h.lO, h.lM, h.lS, Nat.le_trans h.le ht.size⟩
theorem EnvJ.later {w w' : World} {l : List Rel} {vs : List Int} {S : Nat → Prop} {ur uv : Value} {B0 bR bV bO bM : Nat} (h : EnvJ w l vs S ur uv B0 bR bV bO bM) (hb : Below w.heap.size w w') : EnvJ w' l vs S ur uv B0 bR bV bO bM :=
  h.touched (fp := []) (Cd.Touch.of_below hb) (fun _ hb => by cases hb)
/-- The rows so far, in the variable bO. -/
structure StJ (w : World) (B0 bO : Nat) (M : List (List Int)) (o : Value) (fp : List Nat) : Prop where
  c : w.cell? ⟨bO, 0, none⟩ = some o
  f : w.frozen? ⟨bO, 0, none⟩ = false
  ow : rowsC.ow w B0 [o] M fp
  nd : fp.Nodup
theorem StJ.later {w w' : World} {B0 bO : Nat} {M : List (List Int)} {o : Value} {fp : List Nat} (h : StJ w B0 bO M o fp) (hb : Below w.heap.size w w') : StJ w' B0 bO M o fp :=
  ⟨(hb.cell (World.block_lt_of_cell? w _ h.c)).trans h.c, (hb.frozen (World.block_lt_of_cell? w _ h.c)).trans h.f, Cd.ow_later h.ow hb, h.nd⟩
def JAns (B0 bO : Nat) (fp : List Nat) (M : List (List Int)) (w w' : World) : Prop := ∃ o' fp', StJ w' B0 bO M o' fp' ∧ (∀ b ∈ fp', b ∈ fp ∨ w.heap.size ≤ b) ∧ Cd.Touch (bO :: fp) w w'
theorem JAns.start {B0 bO : Nat} {fp : List Nat} {M : List (List Int)} {w w' : World} {o : Value} (h : StJ w B0 bO M o fp) (hb : Below w.heap.size w w') : JAns B0 bO fp M w w' := ⟨o, fp, h.later hb, fun _ hq => .inl hq, Cd.Touch.of_below hb⟩
theorem touch_chain {bO : Nat} {fp fp1 : List Nat} {w w1 w2 : World} (h : Cd.Touch (bO :: fp) w w1) (hs : ∀ b ∈ fp1, b ∈ fp ∨ w.heap.size ≤ b) (k : Cd.Touch (bO :: fp1) w1 w2) : Cd.Touch (bO :: fp) w w2 :=
  ⟨k.os.trans h.os, k.tape.trans h.tape, k.output.trans h.output, Nat.le_trans h.size k.size, fun i hi hn => (k.block i (Nat.lt_of_lt_of_le hi h.size) (fun q => by
    rcases List.mem_cons.1 q with e | e
    · exact hn (List.mem_cons.2 (.inl e))
    · rcases hs i e with r | r
      · exact hn (List.mem_cons.2 (.inr r))
      · omega)).trans (h.block i hi hn)⟩
theorem JAns.trans {B0 bO : Nat} {fp fp1 : List Nat} {M : List (List Int)} {w w1 w2 : World} (h : Cd.Touch (bO :: fp) w w1) (hs : ∀ b ∈ fp1, b ∈ fp ∨ w.heap.size ≤ b) (k : JAns B0 bO fp1 M w1 w2) : JAns B0 bO fp M w w2 := by
  obtain ⟨o', fp', h1, h2, h3⟩ := k
  refine ⟨o', fp', h1, fun b hb => ?_, touch_chain h hs h3⟩
  rcases h2 b hb with q | q
  · exact hs b q
  · have := h.size
    exact .inr (by omega)
def CloC (l : List Rel) (vs : List Int) (S : Nat → Prop) (B0 bR bV bO bM i : Nat) : Prop :=
  ∀ (f : Nat → Int) (w : World) (ur uv o : Value) (M : List (List Int)) (fp : List Nat), (∀ v, -1 ≤ f v ∧ f v ≤ 9) → EnvJ w l vs S ur uv B0 bR bV bO bM → StJ w B0 bO M o fp → M.length + 8 ^ (l.length - i) ≤ 1000000 →
    Calls Tryz.prog 93 #[arrV f, .int .i64 (i : Int), .pointer (some ⟨bR, 0, none⟩), .pointer (some ⟨bV, 0, none⟩), .pointer (some ⟨bO, 0, none⟩), .pointer (some ⟨bM, 0, none⟩)] w
      fun e w' => e = .returned (.tuple #[]) ∧ JAns B0 bO fp (M ++ (matF f (l.drop i)).map (selF vs)) w w'

set_option maxRecDepth 100000 in
set_option maxHeartbeats 3200000 in
theorem clo_base (l : List Rel) (vs : List Int) (h4 : ∀ v ∈ vs, 0 ≤ v ∧ v < 4) (hv4 : vs.length ≤ 4) (S : Nat → Prop) (B0 bR bV bO bM : Nat) : CloC l vs S B0 bR bV bO bM l.length := by
  intro f w ur uv o M fp hf henv hst hM
  have HF := Lib.hid hf
  have hsel := sel_arr (f := f) h4
  rw [show (matF f (l.drop l.length)).map (selF vs) = [selF vs f] by rw [List.drop_length]; rfl]
  have hML : M.length + 1 ≤ 1000000 := by simpa using hM
  have HML := Lib.hid hML
  obtain ⟨a1, c1, rfl, hl1⟩ := Cd.sl_form henv.hr
  obtain ⟨a2, c2, rfl, hl2⟩ := row_form henv.hv
  obtain ⟨ao, co, rfl⟩ := Cd.ow_slice (c := rowC) hst.ow
  have HX := Lib.hid (Loc4.of (row_alloc w (arrO f 117)))
  have HB := Lib.hid (below_alloc w (arrO f 117))
  have HE := Lib.hid (henv.later HB.out)
  have HS := Lib.hid (hst.later HB.out)
  have HSZ := Lib.hid (size_alloc w (arrO f 117))
  have HLE := Lib.hid henv.le
  have HNO := Lib.hid (show bO ∉ fp from fun q => by have := (rowsC.ow_lt hst.ow _ q).1; have := henv.lO; omega)
  have HV4 := Lib.hid hv4
  have HFP := Lib.hid (rowsC.ow_lt hst.ow)
  have HND := Lib.hid hst.nd
  clear henv hst hf hM h4 hML hv4
  unfold arrV
  unfold arrO at HX HB HE HS HSZ
  go_enter Tryz.func93, Tryz.ntmps93
  go_upto_region 1 with fail
  generalize w.alloc _ = W at *
  have y1 := HE.out.r
  have y2 := HE.out.v
  have HSEL := Lib.hid (fun w' (hq : DbSpec.LaterD W w') => impl_select _ _ (arrL f) vs _ S w' (Cd.later (arr_rd (c := 4) HX.out HF.out) hq) (Cd.later HE.out.hv hq) (by have := HV4.out; omega))
  have HLV := Lib.hid (show bV < W.heap.size by have := HE.out.lV; have := HE.out.le; omega)
  have HY2 := Lib.hid y2
  have kk : DbSpec.LaterD W W.drew := (Below.refl _ W).drew
  go_wp2_with fail
  clear y1
  go_region_held3 (fun wx => wx.cell? ⟨bV, 0, none⟩ = some (.slice a2 vs.length c2) ∧ DbSpec.LaterD W wx)
    (exact ⟨(Below.cell (by assumption : DbSpec.LaterD W _) (p := ⟨bV, 0, none⟩) HLV.out).trans HY2.out, by assumption⟩)
    (first | (go_at_call 94; refine (HSEL.out _ (by assumption)).mono ?_; rintro e wq ⟨su, sf, rfl, sow, snd, hbq⟩; obtain ⟨sa, sc, rfl⟩ := Cd.ow_slice sow; (have kk : DbSpec.LaterD W wq := below_then (by assumption) hbq); (have SOW := Lib.hid sow); (have SND := Lib.hid snd); clear hbq sow snd))
  all_goals
    have hkk : Below W.heap.size W wq := by assumption
    have hsow := SOW.out
    rw [hsel.1, if_pos rfl, hsel.2] at hsow
    have hfar : ∀ b ∈ sf, W.heap.size ≤ b := fun b hb => (rowC.ow_lt hsow b hb).1
    have S1 := Lib.hid (HS.out.later hkk)
    have HSF := Lib.hid (show ∀ b ∈ sf, b ∉ fp from fun b hb q => by
      have h1 := hfar b hb
      have h2 := (HFP.out b q).2
      have h3 := HSZ.out
      omega)
    have HFAR := Lib.hid hfar
    generalize hel : (selF vs f).length = sl at *
    have A1 := Lib.hid (Cd.ow_later S1.out.ow (below_alloc wq (.cells #[.slice sa sl sc] 32)))
    have A2 := Lib.hid (show (wq.alloc (.cells #[.slice sa sl sc] 32)).cell? ⟨wq.heap.size, 0, none⟩ = some (.slice sa sl sc) by simp)
    have A3 := Lib.hid (Cd.ow_later (rowC.ow_base hsow (show B0 ≤ _ from HE.out.le)) (below_alloc wq (.cells #[.slice sa sl sc] 32)))
    have A4 := Lib.hid (show B0 ≤ (wq.alloc (.cells #[.slice sa sl sc] 32)).heap.size by rw [size_alloc]; have := hkk.size; have := HSZ.out; have := HLE.out; omega)
    have AB := Lib.hid (below_then (below_then HB.out hkk) (below_alloc wq (.cells #[.slice sa sl sc] 32)))
    have AS := Lib.hid (S1.out.later (below_alloc wq (.cells #[.slice sa sl sc] 32)))
    have z1 := S1.out.c
    have HBO := Lib.hid (show bO < B0 from HE.out.lO)
    clear hsow hel hfar y2 hkk
    go_wp2_with (at_builtin; refine Cd.wpList_appendE (c := rowC) rfl rfl (.tmp 24) (.tmp 26) 33 rfl B0 32 (.slice none 0 0) 24 Tryz.underlying33 info_ints rfl (by decide) _ M fp rfl A1.out HND.out _ _ rfl A2.out _ sf A3.out SND.out HSF.out (by have := HML.out; omega) A4.out ?_)
    intro g cap w5 f5 ho5 hn5 hs5 ht5
    have z5 := ht5.cell AS.out.c HNO.out
    have e5 := (World.frozen?_of_block (w := _) (a := ⟨bO, 0, none⟩) (ht5.block bO (World.block_lt_of_cell? _ _ AS.out.c) HNO.out)).trans AS.out.f
    have O5 := Lib.hid ho5
    have N5 := Lib.hid hn5
    have S5 := Lib.hid hs5
    have T5 := Lib.hid ht5
    have Z5 := Lib.hid (And.intro z5 e5)
    clear ho5 hn5 hs5 ht5 z1
    go_wp2_with fail
    have hno5 : bO ∉ f5 := fun q => by have := (rowsC.ow_lt O5.out bO q).1; have := HBO.out; omega
    refine bodyPost_ret (v := .tuple #[]) (by simp [results, Tryz.results93, go_sem]) rfl ⟨rfl, _, f5, ⟨World.cell?_setCell_same _ _ _ Z5.out.1, by simpa using Z5.out.2, ow_setCell (c := rowsC) O5.out hno5 _, N5.out⟩, fun b hb => ?_, ((Cd.Touch.of_below AB.out).trans (T5.out.mono fun b hb => List.mem_cons.2 (.inr hb))).trans ⟨rfl, rfl, rfl, by simp, fun k _ hn => Below.heap_setCell _ _ _ k (fun e => hn (List.mem_cons.2 (.inl e)))⟩⟩
    rcases S5.out b hb with q | q | q
    · exact .inl q
    · have h1 := HFAR.out b q
      have h2 := HSZ.out
      exact .inr (by omega)
    · have h1 := AB.out.size
      rw [size_alloc] at h1
      exact .inr (by omega)
end Go.Proofs.YtdkhgeknjekkoaaGreat.AnsImp

namespace Go.Proofs.YtdkhgeknjekkoaaGreat.AnsImp
open Go Go.RowKit Byt Ints IntsLaw Cd Rows2 Tab TabSpec Exact Atom AnsMath TabImp

/-- A local assignment, made behind W. -/
def MadeA (W : World) (a b c d : Int) (s : Value) (wx : World) : Prop := ∃ p, s = .pointer (some ⟨p, 0, none⟩) ∧ W.heap.size ≤ p ∧ Loc4 wx p a b c d ∧ DbSpec.LaterD W wx
theorem laterD_alloc {a w : World} (h : DbSpec.LaterD a w) (o : Obj) : DbSpec.LaterD a (w.alloc o) := below_then h (below_alloc w o)
theorem laterD_drewA (a : World) (o : Obj) : DbSpec.LaterD a (a.alloc o).drew := Below.drew (laterD_alloc (Below.refl _ a) o)
theorem laterD_drewA2 (a : World) (o : Obj) : DbSpec.LaterD a (a.drew.alloc o) := laterD_alloc (Below.drew (Below.refl _ a)) o
theorem laterD_size {a w : World} (h : DbSpec.LaterD a w) : a.heap.size ≤ w.heap.size := Below.size h
theorem laterD_set4 {a w : World} {k : Nat} {x y z u : Value} (h : DbSpec.LaterD a w) (hk : a.heap.size ≤ k) : DbSpec.LaterD a ((((w.setCell ⟨k, 0, none⟩ x).setCell ⟨k, 1, none⟩ y).setCell ⟨k, 2, none⟩ z).setCell ⟨k, 3, none⟩ u) := below_set4 h hk
theorem locA_new {W wq : World} {a b c d : Int} {T : TypeId} (hb : Below (W.alloc (.cells #[.int .i64 a, .int .i64 b, .int .i64 c, .int .i64 d] T (0, 0))).heap.size (W.alloc (.cells #[.int .i64 a, .int .i64 b, .int .i64 c, .int .i64 d] T (0, 0))) wq) : Loc4 wq W.heap.size a b c d :=
  (Loc4.of (start1 W _ rfl).1).later hb
theorem locA_new' {W wq : World} {a b c d : Int} {T : TypeId} (hb : Below (W.drew.alloc (.cells #[.int .i64 a, .int .i64 b, .int .i64 c, .int .i64 d] T (0, 0))).heap.size (W.drew.alloc (.cells #[.int .i64 a, .int .i64 b, .int .i64 c, .int .i64 d] T (0, 0))) wq) : Loc4 wq W.heap.size a b c d := locA_new (W := W.drew) hb
theorem locA_new3 {W wq : World} {a b c d : Int} {T : TypeId} (hb : Below (W.alloc (.cells #[.int .i64 a, .int .i64 b, .int .i64 c, .int .i64 d] T (0, 0))).drew.heap.size (W.alloc (.cells #[.int .i64 a, .int .i64 b, .int .i64 c, .int .i64 d] T (0, 0))).drew wq) : Loc4 wq W.heap.size a b c d :=
  ((Loc4.of (start1 W _ rfl).1).drew).later hb
theorem madeA {W wq : World} {k : Nat} {a b c d x y z u : Int} (kk : DbSpec.LaterD W wq) (hb : W.heap.size ≤ k) (GL : Loc4 wq k a b c d) :
    MadeA W x y z u (.pointer (some ⟨k, 0, none⟩)) ((((wq.setCell ⟨k, 0, none⟩ (.int .i64 x)).setCell ⟨k, 1, none⟩ (.int .i64 y)).setCell ⟨k, 2, none⟩ (.int .i64 z)).setCell ⟨k, 3, none⟩ (.int .i64 u)) :=
  ⟨k, rfl, hb, GL.all x y z u, laterD_set4 kk hb⟩
theorem madeA2 {W wq : World} {T : TypeId} {x y z u : Int} (kk : DbSpec.LaterD W wq) :
    MadeA W x y z u (.pointer (some ⟨wq.heap.size, 0, none⟩)) (wq.alloc (.cells #[.int .i64 x, .int .i64 y, .int .i64 z, .int .i64 u] T (0, 0))) :=
  ⟨wq.heap.size, rfl, laterD_size kk, Loc4.of (start1 wq _ rfl).1, laterD_alloc kk _⟩

set_option maxRecDepth 100000 in
set_option maxHeartbeats 6400000 in
theorem clo_step (l : List Rel) (vs : List Int) (S : Nat → Prop) (B0 bR bV bO bM : Nat) (hok : ∀ R ∈ l, RelOk R) (hin : ∀ R ∈ l, ∀ v ∈ R.1, 0 ≤ v ∧ v < 4) (hl4 : l.length ≤ 4) (i : Nat) (hi : i < l.length)
    (IH : CloC l vs S B0 bR bV bO bM (i + 1)) : CloC l vs S B0 bR bV bO bM i := by
  intro f w ur uv o M fp hf henv hst hM
  have HF := Lib.hid hf
  have HIH := Lib.hid IH
  have HR := Lib.hid (hok _ (List.getElem_mem hi))
  have HINR := Lib.hid (hin _ (List.getElem_mem hi))
  have HRO := Lib.hid (show ∀ R ∈ l.drop (i + 1), RelOk R from fun R hR => hok R (List.mem_of_mem_drop hR))
  have HRL := Lib.hid (show (l.drop (i + 1)).length = l.length - (i + 1) from List.length_drop ..)
  have hdrop : l.drop i = l[i] :: l.drop (i + 1) := List.drop_eq_getElem_cons hi
  rw [hdrop, ← upTo_all]
  have HMB := Lib.hid (show ∀ k, k < (l[i]).2.length → (M ++ (upTo f l[i] (l.drop (i + 1)) k).map (selF vs)).length + 8 ^ (l.length - (i + 1)) ≤ 1000000 from fun k hk => by
    have h1 := len_upTo (f := f) (R := l[i]) HRO.out k
    rw [HRL.out] at h1
    have h2 : k + 1 ≤ 8 := by have := HR.out.1; omega
    have h3 : (k + 1) * 8 ^ (l.length - (i + 1)) ≤ 8 * 8 ^ (l.length - (i + 1)) := Nat.mul_le_mul_right _ h2
    have h4 : 8 * 8 ^ (l.length - (i + 1)) = 8 ^ (l.length - i) := by
      rw [show l.length - i = (l.length - (i + 1)) + 1 by omega, Nat.pow_succ, Nat.mul_comm]
    rw [Nat.add_mul] at h3
    rw [List.length_append, List.length_map]
    omega)
  obtain ⟨a2, c2, rfl, hl2⟩ := row_form henv.hv
  obtain ⟨b, off, cap, us, e1, hSb, hbB, hat, hu⟩ := Cd.sl_at henv.hr hi
  subst e1
  obtain ⟨a3, c3, a4, c4, rfl, hv3, hv4⟩ := rel_cells hu
  have q0 := hat 0 (by simp)
  have q1 := hat 1 (by simp)
  simp only [List.getElem_cons_zero, List.getElem_cons_succ, Nat.add_zero, show relC.n = 2 from rfl] at q0 q1
  have HX := Lib.hid (show LocF _ _ f from Loc4.of (row_alloc w (arrO f 117)))
  have hb0 := below_alloc w (arrO f 117)
  have HB := Lib.hid hb0
  have HE := Lib.hid (henv.later hb0)
  have HS := Lib.hid (hst.later hb0)
  have HSZ := Lib.hid (size_alloc w (arrO f 117))
  have HLE := Lib.hid henv.le
  have HFP := Lib.hid (rowsC.ow_lt hst.ow)
  have HV3 := Lib.hid (Cd.later hv3 hb0)
  have HV4 := Lib.hid (Cd.later hv4 hb0)
  have HQ0 := Lib.hid ((hb0.cell (p := ⟨b, off + i * 2, none⟩) hbB).trans q0)
  have HQ1 := Lib.hid ((hb0.cell (p := ⟨b, off + i * 2 + 1, none⟩) hbB).trans q1)
  have HSB := Lib.hid hSb
  have HEQ := Lib.hid (fun (k : Nat) (hk : k < (l[i]).2.length) => upTo_succ (f := f) (rest := l.drop (i + 1)) hk)
  have i1 : (0 : Int) ≤ (i : Int) := by omega
  have i2 : (i : Int) < (l.length : Int) := by omega
  have i3 : (i : Int) < 4 := by omega
  have t1 : ((i : Int) == (l.length : Int)) = false := by rw [beq_eq_false_iff_ne]; omega
  clear henv hst hf hM hok hin hl4 IH hdrop hu hat hbB hSb hv3 hv4 q0 q1 hb0
  generalize l[i] = R at *
  clear hi
  generalize hrest : l.drop (i + 1) = rest at *
  have HREST := Lib.hid hrest
  clear hrest
  unfold arrV
  unfold arrO at HX HB HE HS HSZ HV3 HV4 HQ0 HQ1
  go_enter Tryz.func93, Tryz.ntmps93
  go_upto_region 1 with fail
  generalize w.alloc _ = W at *
  have y1 := HE.out.r
  have y2 := HQ1.out
  go_wp2_with fail
  clear y1 y2
  go_loopw [34] (fun s wr => ∃ k : Nat, k ≤ R.2.length ∧ s = .int .i64 k ∧ JAns B0 bO fp (M ++ (upTo f R rest k).map (selF vs)) W wr) (fun s _ => R.2.length - (intOf s).toNat)
  case atStart => exact ⟨0, Nat.zero_le _, rfl, by
    have : upTo f R rest 0 = [] := by simp [upTo]
    rw [this, List.map_nil, List.append_nil]
    exact JAns.start HS.out (Below.refl _ _)⟩
  case round =>
    obtain ⟨k, hk, rfl, hans⟩ := hrel
    by_cases hlt : k < R.2.length
    · obtain ⟨o', fp', hst', hs', ht'⟩ := hans
      have hfp' : ∀ b ∈ fp, B0 ≤ b := fun b hb => (HFP.out b hb).1
      have hEr := HE.out.touched ht' hfp'
      have hno : ∀ b, S b → b ∉ bO :: fp := fun b hb q => by
        rcases List.mem_cons.1 q with e | e
        · exact HE.out.nS (e ▸ hb)
        · have := hfp' b e; have := HE.out.lS b hb; omega
      have hXr := HX.out.touched ht' (fun q => by
        rcases List.mem_cons.1 q with e | e
        · have := HE.out.lO; have := HLE.out; omega
        · have := (HFP.out _ e).2; omega)
      have hr3 := Cd.touched HV3.out ht' (fun b hb q => hno b q hb)
      have hr4 := Cd.touched HV4.out ht' (fun b hb q => hno b q hb)
      have hq0 := ht'.cell HQ0.out (hno b HSB.out)
      obtain ⟨rb, ro, rc, v, e1, hrb, hcr, hrow⟩ := rows_at hr4 hlt
      injection e1 with e1 e2 e3
      subst e1 e3
      have hrok := HR.out.2.2.2 _ (List.getElem_mem hlt)
      have HROK := Lib.hid hrok
      have HEXT := Lib.hid (fun w' (hq : DbSpec.LaterD wr w') => impl_extend f _ _ R.1 R.2[k] S _ w' (Cd.later hr3 hq) (Cd.later hrow hq) HINR.out hrok.1)
      have HNX := Lib.hid (HEQ.out k hlt)
      have HMK := Lib.hid (HMB.out k hlt)
      have p1 : (0 : Int) ≤ (k : Int) := by omega
      have p2 : (k : Int) < (R.2.length : Int) := by omega
      obtain ⟨a5, c5, rfl, _⟩ := row_form hrow
      have HLT := Lib.hid hlt
      have i5 : (k : Int) < 8 := by have := HR.out.1; omega
      have HER := Lib.hid hEr
      have HST := Lib.hid hst'
      have HSS := Lib.hid hs'
      have HTT := Lib.hid ht'
      have HBD := Lib.hid (fun g (hg : extF f (R.1.zip R.2[k]) = some g) => ext_bd hg HF.out (fun p hp => hrok.2 _ (zip_snd hp)))
      have lX : w.heap.size < wr.heap.size := hXr.lt
      have lbR : bR < wr.heap.size := World.block_lt_of_cell? wr _ hEr.r
      have lb : b < wr.heap.size := World.block_lt_of_cell? wr _ hq0
      have y1 := hEr.r
      have HSQ := Lib.hid (fun wx (h : DbSpec.LaterD wr wx) => (show wx.cell? ⟨bR, 0, none⟩ = some (.slice (some ⟨b, off, none⟩) l.length cap) ∧ wx.cell? ⟨b, off + i * 2, none⟩ = some (.slice a3 R.1.length c3) ∧ wx.cell? ⟨w.heap.size, 0, none⟩ = some (.int .i64 (f 0)) ∧ wx.cell? ⟨w.heap.size, 1, none⟩ = some (.int .i64 (f 1)) ∧ wx.cell? ⟨w.heap.size, 2, none⟩ = some (.int .i64 (f 2)) ∧ wx.cell? ⟨w.heap.size, 3, none⟩ = some (.int .i64 (f 3)) ∧ DbSpec.LaterD wr wx from
        ⟨(Below.cell h (p := ⟨bR, 0, none⟩) lbR).trans y1, (Below.cell h (p := ⟨b, off + i * 2, none⟩) lb).trans hq0, (Below.cell h (p := ⟨w.heap.size, 0, none⟩) lX).trans hXr.c0, (Below.cell h (p := ⟨w.heap.size, 1, none⟩) lX).trans hXr.c1, (Below.cell h (p := ⟨w.heap.size, 2, none⟩) lX).trans hXr.c2, (Below.cell h (p := ⟨w.heap.size, 3, none⟩) lX).trans hXr.c3, h⟩))
      have kk : DbSpec.LaterD wr wr.drew := (Below.refl _ wr).drew
      clear hEr hst' hs' ht' hXr hr3 hr4 hq0 hrow hrok y1 lX lbR lb hno hfp'
      unfold stepM at HNX
      generalize R.2[k] = row at *
      clear hlt
      generalize hx : extF f (R.1.zip row) = r at *
      clear hx
      unfold extV arrV at HEXT
      generalize hz0 : (r.getD fun _ => 0) 0 = z0 at *
      generalize hz1 : (r.getD fun _ => 0) 1 = z1 at *
      generalize hz2 : (r.getD fun _ => 0) 2 = z2 at *
      generalize hz3 : (r.getD fun _ => 0) 3 = z3 at *
      generalize hfb : r.isSome = fb at *
      have HZ := Lib.hid (And.intro (And.intro hz0 hz1) (And.intro hz2 (And.intro hz3 hfb)))
      clear hz0 hz1 hz2 hz3 hfb
      go_upto_region 7 with fail
      go_cut [12, 13] (fun s12 s13 wx => s13 = .bool fb ∧ MadeA wr z0 z1 z2 z3 s12 wx)
      case first =>
        go_region_held3 (fun wx => wx.cell? ⟨bR, 0, none⟩ = some (.slice (some ⟨b, off, none⟩) l.length cap) ∧ wx.cell? ⟨b, off + i * 2, none⟩ = some (.slice a3 R.1.length c3) ∧ wx.cell? ⟨w.heap.size, 0, none⟩ = some (.int .i64 (f 0)) ∧ wx.cell? ⟨w.heap.size, 1, none⟩ = some (.int .i64 (f 1)) ∧ wx.cell? ⟨w.heap.size, 2, none⟩ = some (.int .i64 (f 2)) ∧ wx.cell? ⟨w.heap.size, 3, none⟩ = some (.int .i64 (f 3)) ∧ DbSpec.LaterD wr wx)
          ((refine HSQ.out _ ?_; first | assumption | exact laterD_alloc (by assumption) _ | exact laterD_drewA wr _ | exact laterD_drewA2 wr _ | exact laterD_set4 (by first | assumption | exact laterD_alloc (by assumption) _) (laterD_size (by first | assumption | exact Below.refl _ _))))
          (first | (go_at_call 95; refine (HEXT.out _ (by first | assumption | exact laterD_alloc (by assumption) _ | exact laterD_drewA wr _ | exact laterD_drewA2 wr _)).mono ?_; rintro e wq ⟨rfl, hbq⟩; (have kk : DbSpec.LaterD wr wq := (show Below wr.heap.size wr wq by refine below_then (show DbSpec.LaterD wr _ from ?_) hbq; first | assumption | exact laterD_alloc (by assumption) _ | exact laterD_drewA wr _ | exact laterD_drewA2 wr _)); (first | (have GL := Lib.hid (GL.out.later hbq)) | (have GL := Lib.hid (locA_new' hbq)) | (have GL := Lib.hid (locA_new hbq)) | (have GL := Lib.hid (locA_new3 hbq)) | skip); (first | (have x0 := GL.out.c0; have x1 := GL.out.c1; have x2 := GL.out.c2; have x3 := GL.out.c3; have f0 := GL.out.f0; have f1 := GL.out.f1; have f2 := GL.out.f2; have f3 := GL.out.f3) | skip); (have hS := HSQ.out wq kk); (have k0 := hS.1); (have k1 := hS.2.1); (have k2 := hS.2.2.1); (have k3 := hS.2.2.2.1); (have k4 := hS.2.2.2.2.1); (have k5 := hS.2.2.2.2.2.1); clear hbq hS))
        all_goals
          go_wp2_with fail
          go_meet
          refine ⟨rfl, ?_⟩
          first
            | (have GG := GL.out; exact madeA (by assumption) (laterD_size (by first | assumption | exact Below.refl _ _)) GG)
            | (with_reducible exact madeA2 (by assumption))
      case rest =>
        obtain ⟨rfl, p, rfl, hp, hl4, hlat⟩ := hcut
        have HEX := Lib.hid (HER.out.later hlat)
        have HSX := Lib.hid (HST.out.later hlat)
        have HTX := Lib.hid (HTT.out.trans (Cd.Touch.of_below hlat))
        have x0 := hl4.c0
        have x1 := hl4.c1
        have x2 := hl4.c2
        have x3 := hl4.c3
        have x4 := HEX.out.m
        clear hl4 hlat hp kk
        unfold cloV at x4
        cases r with
        | none =>
          have hfb : fb = false := HZ.out.2.2.2.symm
          subst hfb
          have HN2 := Lib.hid HNX.out
          go_wp2_with fail
          go_roundw
          case rel => exact ⟨k + 1, by have := HLT.out; omega, by go_num, o', fp', by rw [HN2.out, List.append_nil]; exact HSX.out, HSS.out, HTX.out⟩
          case measure => have := HLT.out; simp [intOf]; omega
        | some g =>
          have hfb : fb = true := HZ.out.2.2.2.symm
          subst hfb
          have HN2 := Lib.hid HNX.out
          have HCALL := Lib.hid (HIH.out g wc _ _ o' _ fp' (HBD.out g rfl) HEX.out HSX.out HMK.out)
          unfold arrV at HCALL
          rw [HREST.out, show g 0 = z0 from HZ.out.1.1, show g 1 = z1 from HZ.out.1.2, show g 2 = z2 from HZ.out.2.1, show g 3 = z3 from HZ.out.2.2.1, show ((i + 1 : Nat) : Int) = (i : Int) + 1 by omega] at HCALL
          go_wp2_with fail
          refine HCALL.out.mono ?_
          rintro e w9 ⟨rfl, ha9⟩
          have HA9 := Lib.hid (JAns.trans HTX.out HSS.out ha9)
          clear ha9
          go_wp2_with fail
          go_roundw
          case rel => exact ⟨k + 1, by have := HLT.out; omega, by go_num, by rw [HN2.out, List.map_append, ← List.append_assoc]; exact HA9.out⟩
          case measure => have := HLT.out; simp [intOf]; omega
    · have ek : k = R.2.length := by omega
      subst ek
      have HA := Lib.hid hans
      clear hans
      go_wp2_with fail
      exact bodyPost_end (v := .tuple #[]) (by simp [results, Tryz.results93, go_sem]) rfl ⟨rfl, JAns.trans (Cd.Touch.of_below HB.out) (fun _ hb => .inl hb) HA.out⟩
end Go.Proofs.YtdkhgeknjekkoaaGreat.AnsImp

namespace Go.Proofs.YtdkhgeknjekkoaaGreat.TabImp
open Go Go.RowKit Byt Ints IntsLaw Cd Rows2 Tab TabSpec Exact

end Go.Proofs.YtdkhgeknjekkoaaGreat.TabImp

namespace Go.Proofs.YtdkhgeknjekkoaaGreat.Cd
open Go Go.RowKit Byt Ints
namespace Cd
variable {α β : Type}

theorem Each.one {c : Cd α} {w : World} {base : Nat} : ∀ {xss : List (List Value)} {l : List α} {fps : List (List Nat)}, Each c w base xss l fps → ∀ u ∈ xss.flatten, u.oneCell' = true
  | [], [], [], _, u, hu => by simp at hu
  | x :: xs, _ :: az, _ :: fs, h, u, hu => by
    rw [List.flatten_cons] at hu
    rcases List.mem_append.1 hu with q | q
    · exact c.one (c.ow_rd h.1) u q
    · exact Each.one (xss := xs) (l := az) (fps := fs) h.2 u q
/-! Rows of the library's contracts ('putRow'). -/
section
variable {γ : Type} [Inhabited γ]
theorem heap_putRow_other (enc : γ → Value) (w : World) (g : Nat) (d : Array γ) {k : Nat} (h : k ≠ g) : (Sort.putRow enc w g 0 d).heap[k]? = w.heap[k]? := by
  simp [Sort.putRow, Sort.mapBlock, Array.getElem?_modify, Ne.symm h]
theorem touch_putRow (enc : γ → Value) (w : World) (g : Nat) (d : Array γ) : Touch [g] w (Sort.putRow enc w g 0 d) :=
  ⟨rfl, rfl, rfl, by rw [Sort.size_putRow]; exact Nat.le_refl _, fun k _ hn => heap_putRow_other enc w g d fun q => hn (by rw [q]; exact List.mem_singleton.2 rfl)⟩
end
theorem touch_ahead (fp : List Nat) (w : World) (n : Nat) : Touch fp w (Sort.ahead w n) := ⟨rfl, rfl, rfl, Nat.le_refl _, fun _ _ _ => rfl⟩

/-- A value of one cell. -/
structure One where
  v : Value
  one : v.oneCell' = true
instance : Inhabited One := ⟨⟨.slice none 0 0, rfl⟩⟩
def ones (us : List Value) (h : ∀ u ∈ us, u.oneCell' = true) : List One := us.attach.map fun x => ⟨x.1, h x.1 x.2⟩
end Cd
end Go.Proofs.YtdkhgeknjekkoaaGreat.Cd
