/- Texts that the proof rests on, one behind the other. -/
import Derived.Test.YtmifnbplkaonaaaGreatMg2Updates
import Derived.Test.YtmifnbplkaonaaaGreatMg4Updates
import Derived.Deep.DeepMust
import Derived.Test.YtmifnbplkaonaaaGreatUpd
import Derived.Test.YtmifnbplkaonaaaGreatTabSpec2
import Derived.Test.YtmifnbplkaonaaaGreatMg1Updates
import Derived.Test.YtmifnbplkaonaaaGreatRegH
import Derived.Deep.DeepCutAuto
import Derived.Deep.RegionHeld3

namespace Go.Proofs.YtmifnbplkaonaaaGreat.UpdDraw
open Go Go.RowKit Byt Ints IntsLaw IntsWalk Draw LocDraw Cd Rows2 Tab TabDraw SlMath TabOpen TabElem SlTable Db TabSpec DbMath DbSpec DbExact DbAcc DbDraw Upd UpdMath UpdAll

theorem upOk_app {l : List T3} {nm : ByteArray} {b : Bool} {row : List Int} (h : UpOk l) : UpOk (appL l nm b row) := by
  cases hk : appOk l nm b row
  · rw [app_no hk]; exact h
  · have hd := dbOk_iff.1 (app_valid hk)
    refine ⟨by have := hd.1; omega, fun T hT => ?_⟩
    have h1 := hd.2.1 T hT
    have h2 := UpdMath.wt_ok h1
    have htp : TabP T.1 T.2.1 T.2.2 := of_decide_eq_true h1
    have h3 : T.1.size = 1 := (of_decide_eq_true htp.1).1
    unfold wtT tabWt at h2
    exact ⟨by omega, by omega⟩
theorem upOk_wt : ∀ {l : List T3}, (∀ T ∈ l, T.1.size ≤ 2 ∧ rowsWt T.2.2 ≤ 40) → sumN wtT l ≤ 100 * l.length
  | [], _ => by simp [sumN]
  | T :: l, h => by
    have h1 := upOk_wt (l := l) (fun x hx => h x (List.mem_cons.2 (.inr hx)))
    have h2 := h T List.mem_cons_self
    have h3 : wtT T ≤ 100 := by unfold wtT tabWt; omega
    rw [sumN_cons, List.length_cons, Nat.mul_add]
    omega
theorem upOk_wts {l : List T3} (h : UpOk l) : wtS l ≤ 1000 := by
  have h1 := upOk_wt h.2
  have h2 := h.1
  unfold wtS
  omega
/-- In the drawing of a list: the database at hand in block X, the list so far. -/
structure LS (w : World) (c : Nat) (v : Value) (l : List UInt8) (X : Nat) (cur : List T3) (a : Option Addr) (k : Nat) (fp : List Nat) (us : List U3) (o : Value) (fo : List Nat) (W : World) : Prop where
  lx : Loc1 W X (.slice a cur.length k)
  ow : tabsC.ow W (w.heap.size + 1) [.slice a cur.length k] cur fp
  nd : fp.Nodup
  xf : X ∉ fp
  ol : updsC.ow W (w.heap.size + 1) [o] us fo
  nl : fo.Nodup
  xo : X ∉ fo
  dis : ∀ b ∈ fo, b ∉ fp
  ub : ∀ U ∈ us, U.1.size ≤ 2 ∧ U.2.2.length ≤ 40
  ok : UpOk cur
  xb : w.heap.size + 1 ≤ X
  cb : c < w.heap.size
  cu : Cur W c v l
  gr : w.grownBy W (some c)
section
variable {w : World} {c : Nat} {v : Value} {l : List UInt8} {X : Nat} {cur : List T3} {a : Option Addr} {k : Nat} {fp : List Nat} {us : List U3} {o : Value} {fo : List Nat} {W W' : World}
theorem LS.grown (h : LS w c v l X cur a k fp us o fo W) (hg : W.grownBy W' (some c)) (hc : Cur W' c v l) : LS w c v l X cur a k fp us o fo W' :=
  have h1 := h.cb
  have h2 := h.xb
  ⟨loc1_grown h.lx hg (by omega), ow_grown h.ow hg (by omega), h.nd, h.xf, ow_grown h.ol hg (by omega), h.nl, h.xo, h.dis, h.ub, h.ok, h2, h1, hc, grown_trans h.gr hg⟩
theorem LS.alloc (h : LS w c v l X cur a k fp us o fo W) (ob : Obj) : LS w c v l X cur a k fp us o fo (W.alloc ob) := h.grown (World.grownBy_alloc W ob (some c)) (cur_allocI ob h.cu)
/-- An update is appended. -/
theorem LS.app (h : LS w c v l X cur a k fp us o fo W) {U : U3} (hU : U.1.size ≤ 2 ∧ U.2.2.length ≤ 40) {o' : Value} {fo' : List Nat} (ht : Cd.Touch fo W W') (ho : updsC.ow W' (w.heap.size + 1) [o'] (us ++ [U]) fo') (hn : fo'.Nodup) (hx : X ∉ fo') (hd : ∀ b ∈ fo', b ∉ fp) :
    LS w c v l X cur a k fp (us ++ [U]) o' fo' W' := by
  have h1 := h.cb
  have hlow : ∀ b, b < w.heap.size + 1 → b ∉ fo := fun b hb q => by have := ((Cd.sl _ updC).ow_lt h.ol b q).1; omega
  obtain ⟨i, x, hi, hh⟩ := h.cu
  refine ⟨h.lx.touched ht h.xo, Cd.ow_touched h.ow ht (fun b hb q => h.dis b q hb), h.nd, h.xf, ho, hn, hx, hd, fun V hV => ?_, h.ok, h.xb, h1, ⟨i, x, hi, ht.row hh (hlow _ (by omega))⟩,
    ⟨ht.os.trans h.gr.os, ht.tape.trans h.gr.tape, ht.output.trans h.gr.output, Nat.le_trans h.gr.size ht.size, fun j hj hne => (ht.block j (by have := h.gr.size; omega) (hlow _ (by omega))).trans (h.gr.block j hj hne)⟩⟩
  rcases List.mem_append.1 hV with q | q
  · exact h.ub V q
  · rw [List.mem_singleton.1 q]; exact hU
/-- The next database is stored. -/
theorem LS.next (h : LS w c v l X cur a k fp us o fo W) (hb : Below W.heap.size W W') {cur' : List T3} {a' : Option Addr} {k' : Nat} {fp' : List Nat} (ho : tabsC.ow W' W.heap.size [.slice a' cur'.length k'] cur' fp') (hn : fp'.Nodup) (hok : UpOk cur') :
    LS w c v l X cur' a' k' fp' us o fo (W'.setCell ⟨X, 0, none⟩ (.slice a' cur'.length k')) := by
  have h1 := h.cb
  have h2 := h.xb
  have hX := h.lx.lt
  have hs := h.gr.size
  have hx : X ∉ fp' := fun q => by have := ((Cd.sl _ tabC).ow_lt ho _ q).1; omega
  exact ⟨(h.lx.later hb).set _, ow_setCell ((Cd.sl _ tabC).ow_base ho (by omega)) hx _, hn, hx, ow_setCell (Cd.ow_later h.ol hb) h.xo _, h.nl, h.xo, fun b hb1 hb2 => by have q1 := ((Cd.sl _ updC).ow_lt h.ol b hb1).2; have q2 := ((Cd.sl _ tabC).ow_lt ho b hb2).1; omega,
    h.ub, hok, h2, h1, cur_farI _ (cur_below h.cu hb (cur_size h.cu)) (by show c ≠ X; omega), grown_newI _ (grown_trans h.gr (grown_below hb (some c))) (by show _ ≤ X; omega)⟩
end
/-- A drawn list of updates. -/
def ListAns (w : World) (c : Nat) (v : Value) (l : List UInt8) (e : Ending) (w' : World) : Prop :=
  ∃ (o : Value) (us : List U3) (f : List Nat), e = .returned o ∧ updsC.ow w' (w.heap.size + 1) [o] us f ∧ us.length ≤ 6 ∧ (∀ U ∈ us, U.1.size ≤ 2 ∧ U.2.2.length ≤ 40) ∧ Cur w' c v l ∧ w.grownBy w' (some c)

set_option maxRecDepth 100000 in
set_option maxHeartbeats 6400000 in
theorem list_any (c : Nat) (v : Value) (l : List UInt8) (B : Nat) (u : Value) (Ts : List T3) (w : World) (hc : Cur w c v l) (hr : Reads w v l B) (hB : B ≤ c) (hd : tabsC.rd w (OldS w c) [u] Ts) (hok : UpOk Ts) :
    Calls Tryz.prog 35 #[.pointer (some ⟨c, 0, none⟩), .agg #[u], .int .i64 6] w (ListAns w c v l) := by
  have hcs := cur_size hc
  have HR := Lib.hid (fun w' (hg : w.grownBy w' (some c)) => hr.later (below_of hg hB hcs))
  have HC := Lib.hid hc
  have HOK := Lib.hid hok
  have HCP := Lib.hid (fun w' (hb : Below w.heap.size w w') => DbSpec.spec_dbcopy u Ts _ w' (Cd.later hd hb) (by have := upOk_wts hok; omega))
  obtain ⟨ad, cd, rfl, _⟩ := Cd.sl_form hd
  have hO := Cd.ow_empty (e := 29) (c := updC) (w.alloc (.cells #[.slice ad Ts.length cd] 26 (0, 0))) (w.heap.size + 1) (by rw [size_alloc]; omega)
  rw [size_alloc] at hO
  clear hc hr hd hok
  go_enter Tryz.func35, Tryz.ntmps35
  go_wp2_with fail
  generalize hW : (w.alloc _).alloc _ = W0 at hO ⊢
  obtain ⟨r0, r1, hz, hb0⟩ := start2g w _ _ hW
  have HO := Lib.hid hO
  have HB0 := Lib.hid hb0
  have HZ := Lib.hid hz
  clear hW r0 r1 hz hb0 hO
  refine (HCP.out W0 HB0.out).mono ?_
  rintro e w1 ⟨u1, f1, rfl, ho1, hn1, hb1⟩
  obtain ⟨a1, k1, rfl⟩ := Cd.ow_slice (c := tabC) ho1
  have HS := Lib.hid (show LS w c v l w1.heap.size Ts a1 k1 f1 [] (.slice (some ⟨w.heap.size + 1, 0, none⟩) 0 0) [w.heap.size + 1] (w1.alloc (.cells #[.slice a1 Ts.length k1] 26 (0, 0))) from by
    have hzz := HZ.out
    have hs1 := hb1.size
    have hlt : ∀ b ∈ f1, w.heap.size + 2 ≤ b ∧ b < w1.heap.size := fun b q => by have := (Cd.sl _ tabC).ow_lt ho1 b q; omega
    exact ⟨Loc1.of (row_alloc _ _), Cd.ow_later ((Cd.sl _ tabC).ow_base ho1 (by omega)) (below_alloc _ _), hn1, fun q => by have := (hlt _ q).2; omega, Cd.ow_later (Cd.ow_later HO.out hb1) (below_alloc _ _), by simp, by simp; omega, fun b hb q => by rw [List.mem_singleton.1 hb] at q; have := (hlt _ q).1; omega, by simp, HOK.out, by omega, hcs, cur_allocI _ (cur_below (cur_below HC.out HB0.out hcs) hb1 (by omega)), grown_allocI _ (grown_trans (grown_below HB0.out (some c)) (grown_below hb1 (some c)))⟩)
  clear ho1 hn1 hb1 HC HO HOK HCP
  go_wp2_with fail
  generalize w1.alloc _ = W2 at *
  generalize w1.heap.size = X at *
  refine (below_any 7 c v l B W2 HS.out.cu (HR.out _ HS.out.gr) hB).mono ?_
  rintro e w3 ⟨x, rfl, hx0, hx7, hc3, hg3⟩
  obtain ⟨n, rfl⟩ := Int.eq_ofNat_of_zero_le hx0
  have hn6 : n ≤ 6 := by have := hx7 (by decide); omega
  have HS3 := Lib.hid (HS.out.grown hg3 hc3)
  clear hx0 hx7 hc3 hg3 HS
  go_wp2_with fail
  go_loopw [7, 9] (fun o m wr => ∃ (k : Nat) (cur : List T3) (a : Option Addr) (kk : Nat) (fp : List Nat) (us : List U3) (fo : List Nat), k + us.length ≤ 6 ∧ m = .int .i64 k ∧ LS w c v l X cur a kk fp us o fo wr) (fun _ m _ => (intOf m).toNat)
  case atStart => exact ⟨n, _, _, _, _, [], _, by simpa using hn6, rfl, HS3.out⟩
  case round =>
    obtain ⟨k, cur, a, kk, fp, us, fo, hk, rfl, hst⟩ := hrel
    obtain ⟨ao, ko, rfl⟩ := Cd.ow_slice (c := updC) hst.ol
    have HS := Lib.hid hst
    clear hst HS3
    by_cases hlt : 0 < k
    · have i1 : (0 : Int) < (k : Int) := by omega
      have q0 := HS.out.lx.c0
      have HUP := Lib.hid (up_any c v l B _ cur wr HS.out.cu (HR.out _ HS.out.gr) hB (rd_new HS.out.ow (by have := HS.out.cb; omega)) HS.out.ok)
      go_wp2_with fail
      refine HUP.out.mono ?_
      rintro e w5 ⟨nm, b, y, row, f, rfl, hro, hrn, hnm, hrl, hc5, hg5⟩
      obtain ⟨ay, ky, rfl⟩ := Cd.ow_slice hro
      have hS5 := HS.out.grown hg5 hc5
      have hA := (hS5.alloc (.cells #[.string nm, .bool b, .slice ay row.length ky] 29 (0, 0))).alloc (.cells #[.string nm, .bool b, .slice ay row.length ky] 29 (0, 0))
      have hbA := Tab.below_then (below_alloc w5 (.cells #[.string nm, .bool b, .slice ay row.length ky] 29 (0, 0))) (below_alloc (w5.alloc (.cells #[.string nm, .bool b, .slice ay row.length ky] 29 (0, 0))) (.cells #[.string nm, .bool b, .slice ay row.length ky] 29 (0, 0)))
      have hs5 := hg5.size
      have hsw := HS.out.gr.size
      have hcb := HS.out.cb
      have hXr := HS.out.lx.lt
      have hwr : w.heap.size + 1 ≤ wr.heap.size := by have := HS.out.xb; omega
      have HRO := Lib.hid (Cd.ow_later hro hbA)
      have HFO := Lib.hid (fun b (q : b ∈ fo) => ((Cd.sl _ updC).ow_lt HS.out.ol b q).2)
      have HFP := Lib.hid (fun b (q : b ∈ fp) => ((Cd.sl _ tabC).ow_lt HS.out.ow b q).2)
      have HFF := Lib.hid (fun b (q : b ∈ f) => (rowC.ow_lt hro b q))
      have HLL := Lib.hid (show us.length + 1 ≤ 1000000000 by omega)
      have HAT := Lib.hid (show Cd.At ((w5.alloc (.cells #[.string nm, .bool b, .slice ay row.length ky] 29 (0, 0))).alloc (.cells #[.string nm, .bool b, .slice ay row.length ky] 29 (0, 0))) (w5.heap.size + 1) 0 [.string nm, .bool b, .slice ay row.length ky] from
        at3 (by have := row_alloc (w5.alloc (.cells #[.string nm, .bool b, .slice ay row.length ky] 29 (0, 0))) (.cells #[.string nm, .bool b, .slice ay row.length ky] 29 (0, 0)); rw [size_alloc] at this; exact this))
      have HQ := Lib.hid ((Loc3.of (row_alloc w5 (.cells #[.string nm, .bool b, .slice ay row.length ky] 29 (0, 0)))).later (below_alloc (w5.alloc (.cells #[.string nm, .bool b, .slice ay row.length ky] 29 (0, 0))) (.cells #[.string nm, .bool b, .slice ay row.length ky] 29 (0, 0))))
      have HU := Lib.hid (show ((nm, b, row) : U3).1.size ≤ 2 ∧ ((nm, b, row) : U3).2.2.length ≤ 40 from ⟨hnm, hrl⟩)
      have HA := Lib.hid hA
      have HRN := Lib.hid hrn
      have hszA : w.heap.size + 1 ≤ ((w5.alloc (.cells #[.string nm, .bool b, .slice ay row.length ky] 29 (0, 0))).alloc (.cells #[.string nm, .bool b, .slice ay row.length ky] 29 (0, 0))).heap.size := by rw [size_alloc, size_alloc]; omega
      have HSA := Lib.hid hszA
      have HXB := Lib.hid HS.out.xb
      clear hS5 hA hbA hro hrn hnm hrl hc5 hg5 HUP HS q0 hszA
      go_wp2_with (at_builtin; go_must (refine Cd.wpList_appendN (c := updC) rfl (.tmp 25) (.tmp 27) 37 rfl (w.heap.size + 1) 29 (.agg #[.string ⟨#[]⟩, .bool false, .slice none 0 0]) 3 48 rfl Tryz.underlying37 SlUpdate.info_x rfl (by decide) _ us fo rfl HA.out.ol HA.out.nl (w5.heap.size + 1) _ rfl HAT.out (nm, b, row) f (upd_ow (rowC.ow_base HRO.out (by omega)) (by have h : nm.size ≤ 2 := HU.out.1; show nm.size ≤ maxLen; unfold maxLen; omega)) HRN.out (fun b q q2 => by have h1 := (HFF.out b q).1; have h2 := HFO.out b q2; omega) HLL.out HSA.out ?_))
      intro g cap w8 fo8 ho8 hn8 hs8 ht8
      have HA8 := Lib.hid (HA.out.app HU.out ht8 ho8 hn8 (fun q => by
        rcases hs8 X q with q | q | q
        · exact HA.out.xo q
        · have := (HFF.out X q).1; omega
        · omega) (fun b q q2 => by
        have h2 := HFP.out b q2
        rcases hs8 b q with q | q | q
        · exact HA.out.dis b q q2
        · have := (HFF.out b q).1; omega
        · omega))
      have HQ8 := Lib.hid (HQ.out.touched ht8 (fun q => by have := HFO.out _ q; omega))
      have HR8 := Lib.hid (Cd.ow_touched HRO.out ht8 (fun b q q2 => by have h1 := (HFF.out b q).1; have h2 := HFO.out b q2; omega))
      clear ho8 hn8 hs8 ht8
      have m0 := HA8.out.lx.c0
      obtain ⟨n0, n1, n2, _, _, _⟩ := HQ8.out
      go_wp2_with fail
      refine (UpdApp.spec_apply _ _ cur nm b row _ _ w8 ((Cd.sl _ tabC).ow_rd HA8.out.ow) (rowC.ow_rd HR8.out) (by have := upOk_wts HA8.out.ok; omega) (by have h : row.length ≤ 40 := HU.out.2; omega)).mono ?_
      rintro e w9 ⟨u9, f9, rfl, ho9, hn9, hb9⟩
      obtain ⟨a9, k9, rfl⟩ := Cd.ow_slice (c := tabC) ho9
      have HA9 := Lib.hid (HA8.out.next hb9 ho9 hn9 (upOk_app HA8.out.ok))
      have HL9 := Lib.hid (HA8.out.lx.later hb9)
      clear ho9 hn9 hb9 m0 n0 n1 n2
      obtain ⟨m0, m1⟩ := HL9.out
      have hw1 : IntKind.i64.wrap ((k : Int) - 1) = ((k - 1 : Nat) : Int) := by rw [IntKind.wrap_i64]; omega
      go_wp2_with fail
      go_roundw
      case rel => exact ⟨k - 1, _, a9, k9, f9, us ++ [(nm, b, row)], fo8, by rw [List.length_append]; simp; omega, by go_num, HA9.out⟩
      case measure => simp [intOf]; omega
    · have i1 : ¬ ((0 : Int) < (k : Int)) := by omega
      go_wp2_with fail
      go_ret
      exact ⟨_, us, fo, rfl, HS.out.ol, by omega, HS.out.ub, HS.out.cu, HS.out.gr⟩
end Go.Proofs.YtmifnbplkaonaaaGreat.UpdDraw

namespace Go.Proofs.YtmifnbplkaonaaaGreat.UpdDraw
open Go Go.RowKit Byt Ints IntsLaw IntsWalk Draw LocDraw Cd Rows2 Tab TabDraw SlMath TabOpen TabElem SlTable Db TabSpec DbMath DbSpec DbExact DbAcc DbDraw Upd UpdMath UpdAll

/-- A drawn database and a drawn list of updates. -/
def UpdsDraw (w : World) (e : Ending) (w' : World) : Prop :=
  ∃ (u : Value) (Ts : List T3) (o : Value) (us : List U3), e = .returned (.tuple #[.agg #[u], o]) ∧ tabsC.rd w' (fun b => w.heap.size ≤ b ∧ b < w'.heap.size) [u] Ts ∧ Ts.length ≤ 7 ∧ (∀ T ∈ Ts, OkD T) ∧
    updsC.rd w' (fun b => w.heap.size ≤ b ∧ b < w'.heap.size) [o] us ∧ us.length ≤ 6 ∧ (∀ U ∈ us, U.1.size ≤ 2 ∧ U.2.2.length ≤ 40) ∧ Below w.heap.size w w'
/-- In the drawing: the result's cell, the cursor behind it, the local database in block X. -/
structure T4 (w : World) (c : Nat) (v : Value) (l : List UInt8) (X : Nat) (u : Value) (Ts : List T3) (W : World) : Prop where
  lx : Loc1 W X u
  lr : ∃ a, Loc1 W w.heap.size a
  rd : tabsC.rd W (fun b => c + 1 ≤ b ∧ b < W.heap.size) [u] Ts
  xb : c < X
  cb : w.heap.size < c
  cu : Cur W c v l
  bl : Below w.heap.size w W
section
variable {w : World} {c : Nat} {v : Value} {l : List UInt8} {X : Nat} {u : Value} {Ts : List T3} {W W' : World}
theorem T4.grown (h : T4 w c v l X u Ts W) (hg : W.grownBy W' (some c)) (hc : Cur W' c v l) : T4 w c v l X u Ts W' :=
  have h1 := h.cb
  have h2 := h.xb
  have ⟨_, h3⟩ := h.lr
  ⟨loc1_grown h.lx hg (by omega), ⟨_, loc1_grown h3 hg (by omega)⟩, rd_grown h.rd hg (Nat.lt_succ_self c), h2, h1, hc, h.bl.trans (below_of hg (by omega) (cur_size h.cu))⟩
theorem T4.drew (h : T4 w c v l X u Ts W) : T4 w c v l X u Ts W.drew :=
  have ⟨_, h3⟩ := h.lr
  ⟨h.lx.drew, ⟨_, h3.drew⟩, tabsC.keep h.rd fun _ _ _ => rfl, h.xb, h.cb, h.cu, Below.drew h.bl⟩
theorem T4.base (h : T4 w c v l X u Ts W) : c + 1 ≤ W.heap.size := by
  have := h.lx.lt
  have := h.xb
  omega
theorem T4.setD (h : T4 w c v l X u Ts W) (x : Value) : T4 w c v l X u Ts (W.setCell ⟨w.heap.size, 0, none⟩ x) :=
  have h1 := h.cb
  have h2 := h.xb
  have ⟨_, h3⟩ := h.lr
  ⟨h.lx.set_far (by show w.heap.size ≠ X; omega) _, ⟨_, h3.set _⟩, rd_setN h.rd (by show w.heap.size < c + 1; omega) x, h2, h1, cur_farI _ h.cu (by show c ≠ w.heap.size; omega), h.bl.setCell (Nat.le_refl _) _⟩
theorem T4.all (h : T4 w c v l X u Ts W) : W.cell? ⟨X, 0, none⟩ = some u ∧ T4 w c v l X u Ts W := ⟨h.lx.c0, h⟩
end

set_option maxRecDepth 100000 in
set_option maxHeartbeats 3200000 in
theorem draw_upds (v : Value) (l : List UInt8) (w : World) (hr : Reads w v l w.heap.size) :
    Calls Tryz.prog 11 #[v] w (UpdsDraw w) := by
  have HR := Lib.hid (fun w' (hb : Below w.heap.size w w') => hr.later hb)
  have HN := Lib.hid (fun B w' (hr : Reads w' v l B) => new_any v l B w' hr)
  clear hr
  go_enter Tryz.func11, Tryz.ntmps11
  go_wp2_with fail
  generalize hW : w.alloc _ = W0
  obtain ⟨r0, hz, hb0⟩ := start1 w _ hW
  clear hW
  refine (HN.out _ W0 (HR.out _ hb0)).mono ?_
  rintro e w1 ⟨rfl, hc1, hg1⟩
  have hb1 : Below W0.heap.size W0 w1 := ⟨hg1.os, hg1.tape, hg1.output, hg1.size, fun k hk => hg1.block k hk (by simp)⟩
  have HB1 := Lib.hid (Tab.below_then hb0 hb1)
  have HL1 := Lib.hid ((Loc1.of r0).later hb1)
  have hcs1 := cur_size hc1
  have HC1 := Lib.hid hc1
  obtain ⟨c, hcc⟩ : ∃ c, W0.heap.size = c := ⟨_, rfl⟩
  rw [hcc] at HC1 hcs1
  rw [hcc]
  have hcw : w.heap.size < c := by omega
  have HCW := Lib.hid hcw
  have hBc : w.heap.size ≤ c := by omega
  clear r0 hz hb0 hb1 hc1 hg1 HN hcc hcw
  have HD := Lib.hid (dbany_any c v l w.heap.size w1 HC1.out (HR.out _ HB1.out) hBc)
  go_wp2_with fail
  refine HD.out.mono ?_
  rintro e w2 ⟨u, Ts, rfl, hrd, hlen, hok, hc2, hg2⟩
  obtain ⟨ad, cd, rfl, _⟩ := Cd.sl_form hrd
  have hcw := HCW.out
  have hst : T4 w c v l w2.heap.size (.slice ad Ts.length cd) Ts (w2.alloc (.cells #[.slice ad Ts.length cd] 26 (0, 0))) := by
    have hs2 := hg2.size
    refine ⟨Loc1.of (row_alloc _ _), ⟨_, (loc1_grown HL1.out hg2 (by omega)).later (below_alloc _ _)⟩, ?_, by omega, by omega, cur_allocI _ hc2, Tab.below_then (HB1.out.trans (below_of hg2 hBc hcs1)) (below_alloc _ _)⟩
    exact tabsC.mono (Cd.later hrd (below_alloc _ _)) fun b _ hb => ⟨by omega, by rw [size_alloc]; omega⟩
  have HS := Lib.hid hst
  have HLEN := Lib.hid hlen
  have HOK := Lib.hid hok
  clear hst hrd hlen hok hc2 hg2 HD HL1 HB1 HC1 hcs1 hcw
  go_upto_region 3 with fail
  generalize w2.alloc _ = W2 at *
  generalize w2.heap.size = X at *
  have z0 := HS.out.lx.c0
  obtain ⟨zz, z1⟩ := HS.out.lr
  obtain ⟨z3, z4⟩ := z1
  have HT := Lib.hid (fun W' (h : T4 w c v l X (.slice ad Ts.length cd) Ts W') => list_any c v l w.heap.size _ Ts W' h.cu (HR.out _ h.bl) hBc h.rd (upOk_of HLEN.out HOK.out))
  have hs0 := HS.out.drew
  go_region_held3 (fun wx => wx.cell? ⟨X, 0, none⟩ = some (.slice ad Ts.length cd) ∧ T4 w c v l X (.slice ad Ts.length cd) Ts wx)
    (exact T4.all (by first | assumption | exact T4.setD (by assumption) _))
    (first | (go_at_call 35; refine (HT.out _ (by assumption)).mono ?_; rintro e w5 ⟨o, us, f, rfl, how, hul, hub, hc5, hg5⟩; obtain ⟨a5, cap5, rfl⟩ := Cd.ow_slice (c := updC) how; (have hs5 : T4 w c v l X (.slice ad Ts.length cd) Ts w5 := T4.grown (by assumption) hg5 hc5); (have HRD := Lib.hid (rd_new how (Nat.le_succ_of_le (T4.base (by assumption))))); (have HUL := Lib.hid hul); (have HUB := Lib.hid hub); (have y0 := hs5.lx.c0); obtain ⟨_, y3, y4⟩ := hs5.lr; clear how hul hub hc5 hg5))
  all_goals
    go_wp2_with fail
    have hd := hs5.setD (.slice ad Ts.length cd)
    have k0 : (w5.setCell ⟨w.heap.size, 0, none⟩ (.slice ad Ts.length cd)).cell? ⟨w.heap.size, 0, none⟩ = some (.slice ad Ts.length cd) := World.cell?_setCell_same _ _ _ y3
    have hR := rd_setN HRD.out (p := ⟨w.heap.size, 0, none⟩) (by have := HCW.out; show w.heap.size < c + 1; omega) (.slice ad Ts.length cd)
    have hD4 := tabsC.mono hd.rd (fun q hlt hq => (⟨by have := HCW.out; have h := hq.1; omega, hlt⟩ : w.heap.size ≤ q ∧ q < _))
    have hR4 := (Cd.sl _ updC).mono hR (fun q hlt hq => (⟨by have := HCW.out; have h := hq.1; omega, hlt⟩ : w.heap.size ≤ q ∧ q < _))
    exact bodyPost_ret (v := .tuple #[.agg #[.slice ad Ts.length cd], .slice a5 us.length cap5]) (by simp [results, Tryz.results11, go_sem, k0]) rfl ⟨_, Ts, _, us, rfl, hD4, HLEN.out, HOK.out, hR4, HUL.out, HUB.out, hd.bl⟩
end Go.Proofs.YtmifnbplkaonaaaGreat.UpdDraw

namespace Go.Proofs.YtmifnbplkaonaaaGreat.UpdApp
open Go Go.RowKit Byt Ints IntsLaw Cd Rows2 Tab SlMath TabOpen TabElem SlTable Db TabSpec DbMath DbExact Exact Upd UpdMath
open DbAcc (DbAns)

set_option maxRecDepth 100000 in
set_option maxHeartbeats 1600000 in
theorem impl_applyable (u v : Value) (l : List T3) (nm : ByteArray) (b : Bool) (row : List Int) (S S2 : Nat → Prop) (w : World) (h1 : tabsC.rd w S [u] l) (h2 : rowC.rd w S2 [v] row) (hw : wtS l ≤ 1048577) (hrl : row.length ≤ 1048577) (hs : nm.size ≤ 1048576) :
    Calls Tryz.prog 8 #[.agg #[u], .agg #[.string nm, .bool b, v]] w fun e w' => e = .returned (.bool (appOk l nm b row)) ∧ Below w.heap.size w w' := by
  have HC := Lib.hid (fun w' (hb : Below w.heap.size w w') => impl_apply u v l nm b row S S2 w' (Cd.later h1 hb) (Cd.later h2 hb) hw hrl hs)
  obtain ⟨a1, cap1, rfl, hl1⟩ := Cd.sl_form h1
  obtain ⟨a2, cap2, rfl, hl2⟩ := row_form h2
  clear h1 h2
  generalize appOk l nm b row = ok at *
  go_enter Tryz.func8, Tryz.ntmps8
  go_wp2_with fail
  generalize hW : (w.alloc _).alloc _ = W
  obtain ⟨r0, r1, hz, hb0⟩ := start2g w _ _ hW
  clear hW r0 r1
  refine (HC.out W hb0).mono ?_
  rintro e w1 ⟨u1, f1, rfl, ho, hn, hb1⟩
  obtain ⟨a3, c3, rfl⟩ := Cd.ow_slice (c := tabC) ho
  have HB := Lib.hid (below_then (below_then hb0 hb1) (below_alloc w1 (.cells #[.slice a3 (appL l nm b row).length c3] 26 (0, 0))))
  clear ho hn hb1 hb0 hz
  go_wp2_with fail
  go_ret
  exact ⟨rfl, HB.out⟩
end Go.Proofs.YtmifnbplkaonaaaGreat.UpdApp

namespace Go.Proofs.YtmifnbplkaonaaaGreat.UpdOps
open Go Go.RowKit Byt Ints IntsLaw Cd Rows2 Tab TabSpec Exact Upd
open TabImp (str_clone copy_ints slices_equal)

theorem cmpR_zero (a b : List Int) : (cmpR a b == 0) = decide (a = b) := by
  by_cases h : a = b
  · subst h; rw [cmpR_self]; simp
  · rw [decide_eq_false h, beq_eq_false_iff_ne]
    exact fun q => h (cmpR_eq q)
/-- Are they one update? -/
def sameU (n1 n2 : ByteArray) (b1 b2 : Bool) (r1 r2 : List Int) : Bool := decide (n1 = n2 ∧ b1 = b2 ∧ r1 = r2)

set_option maxRecDepth 100000 in
set_option maxHeartbeats 1600000 in
theorem impl_equal (n1 n2 : ByteArray) (b1 b2 : Bool) (u1 u2 : Value) (r1 r2 : List Int) (S1 S2 : Nat → Prop) (w : World) (h1 : rowC.rd w S1 [u1] r1) (h2 : rowC.rd w S2 [u2] r2) :
    Calls Tryz.prog 18 #[.agg #[.string n1, .bool b1, u1], .agg #[.string n2, .bool b2, u2]] w fun e w' => e = .returned (.bool (sameU n1 n2 b1 b2 r1 r2)) ∧ Below w.heap.size w w' := by
  have HC := Lib.hid (fun w' (hb : Below w.heap.size w w') => slices_equal u1 u2 r1 r2 _ _ w' (row_ri (Cd.later h1 hb)).1 (row_ri (Cd.later h2 hb)).1)
  have hb0 := below_then (below_alloc w (.cells #[.string n1, .bool b1, u1] 29 (0, 0))) (below_alloc _ (.cells #[.string n2, .bool b2, u2] 29 (0, 0)))
  have HB := Lib.hid hb0
  clear h1 h2 hb0
  by_cases hn : n1 = n2
  case neg =>
    have HZ := Lib.hid (show sameU n1 n2 b1 b2 r1 r2 = false from decide_eq_false fun q => hn q.1)
    have t1 := str_ne hn
    clear hn
    go_enter Tryz.func18, Tryz.ntmps18
    go_wp2_with fail
    go_ret
    exact ⟨ret_b HZ.out.symm, HB.out⟩
  subst hn
  have t1 : (n1.toList == n1.toList) = true := by simp
  by_cases ha : b1 = b2
  case neg =>
    have HZ := Lib.hid (show sameU n1 n1 b1 b2 r1 r2 = false from decide_eq_false fun q => ha q.2.1)
    have t2 : (b1 == b2) = false := by rw [beq_eq_false_iff_ne]; exact ha
    clear ha
    go_enter Tryz.func18, Tryz.ntmps18
    go_wp2_with fail
    go_ret
    exact ⟨ret_b HZ.out.symm, HB.out⟩
  subst ha
  have t2 : (b1 == b1) = true := by simp
  have HS := Lib.hid (show sameU n1 n1 b1 b1 r1 r2 = decide (r1 = r2) by unfold sameU; simp)
  generalize decide (r1 = r2) = z at *
  go_enter Tryz.func18, Tryz.ntmps18
  go_wp2_with (go_at_call 47; refine (HC.out _ HB.out).mono ?_; rintro e w1 ⟨rfl, m1, rfl⟩)
  go_ret
  exact ⟨ret_b HS.out.symm, ⟨HB.out.os, HB.out.tape, HB.out.output, HB.out.size, HB.out.block⟩⟩

set_option maxRecDepth 100000 in
set_option maxHeartbeats 3200000 in
theorem impl_invert (nm : ByteArray) (b : Bool) (u : Value) (row : List Int) (S : Nat → Prop) (w : World) (hr : rowC.rd w S [u] row) (hrl : row.length ≤ 1048577) (hnm : nm.size ≤ 1048577) :
    Calls Tryz.prog 9 #[.agg #[.string nm, .bool b, u]] w fun e w' => ∃ u' fp, e = .returned (.agg #[.string nm, .bool (!b), u']) ∧ rowC.ow w' w.heap.size [u'] row fp ∧ fp.Nodup ∧ Below w.heap.size w w' := by
  have HR := Lib.hid (fun w' (hb : Below w.heap.size w w') => Cd.later hr hb)
  have HRL := Lib.hid hrl
  have HNM := Lib.hid hnm
  obtain ⟨a, cap, rfl, hlm⟩ := row_form hr
  clear hr hrl hnm
  go_enter Tryz.func9, Tryz.ntmps9
  go_wp2_with fail
  generalize hW : (w.alloc _).alloc _ = W
  obtain ⟨r0, r1, hz, hb0⟩ := start2g w _ _ hW
  clear hW
  have HT := Lib.hid (Loc3.of r0)
  have HX := Lib.hid (Loc3.of r1)
  have HB := Lib.hid hb0
  have HZ := Lib.hid hz
  have HCL := Lib.hid (str_clone nm W.drew HNM.out)
  have HMAP := Lib.hid (fun w' (hb : Below W.heap.size W w') => copy_ints (.slice a row.length cap) row S w' (Cd.later (HR.out W HB.out) hb) HRL.out)
  clear r0 r1 hb0 hz
  have y0 := HT.out.c0
  have y1 := HT.out.c1
  have y2 := HT.out.c2
  go_region_law (first | (go_simp; go_at_call 29; refine HCL.out.mono ?_; rintro e wq ⟨rfl, hbq⟩; (have hq := undrew hbq); (have HQ := Lib.hid hq); (have hqz := hq.size); (have k0 := (HT.out.later hq).c0); (have k1 := (HT.out.later hq).c1); (have k2 := (HT.out.later hq).c2); clear hbq hq) | (go_simp; go_at_call 30; refine (HMAP.out wq HQ.out).mono ?_; rintro e wp ⟨g, cc, rfl, how, hbp⟩; (have HP := Lib.hid (below_then HQ.out hbp)); (have hpz := hbp.size); (have HOW := Lib.hid how); (have j0 := (HT.out.later HP.out).c0); (have j1 := (HT.out.later HP.out).c1); (have j2 := (HT.out.later HP.out).c2); (have i0 := (HX.out.later HP.out).c0); (have i1 := (HX.out.later HP.out).c1); (have i2 := (HX.out.later HP.out).c2); (have f0 := (HX.out.later HP.out).f0); (have f1 := (HX.out.later HP.out).f1); (have f2 := (HX.out.later HP.out).f2); clear hbp how))
  all_goals
    obtain ⟨k0, k1, k2⟩ := set3 (w := wp) (k := w.heap.size + 1) (x := .string nm) (y := .bool (!b)) (z := .slice (some ⟨g, 0, none⟩) row.length cc) i0 i1 i2
    clear y0 y1 y2 j0 j1 j2 i0 i1 i2 f0 f1 f2
    go_wp2_with fail
    refine bodyPost_ret (v := .agg #[.string nm, .bool (!b), .slice (some ⟨g, 0, none⟩) row.length cc]) (by simp [results, Tryz.results9, go_sem, k0, k1, k2]) rfl ⟨_, [g], rfl, ?_, by simp, ?_⟩
    · have hn : w.heap.size + 1 ∉ [g] := fun q => by
        have h1 := (rowC.ow_lt HOW.out _ q).1
        have h2 := HZ.out
        have h3 := HQ.out.size
        omega
      exact ow_setCell (ow_setCell (ow_setCell (rowC.ow_base HOW.out (by have := HZ.out; have := HQ.out.size; omega)) hn _) hn _) hn _
    · have hb := below_then HB.out HP.out
      exact ((hb.setCell (by show _ ≤ w.heap.size + 1; omega) _).setCell (by show _ ≤ w.heap.size + 1; omega) _).setCell (by show _ ≤ w.heap.size + 1; omega) _

end Go.Proofs.YtmifnbplkaonaaaGreat.UpdOps

namespace Go.Proofs.YtmifnbplkaonaaaGreat.UpdAll
open Go Go.RowKit Byt Ints IntsLaw Cd Rows2 Tab SlMath TabOpen TabElem SlTable Db TabSpec DbMath DbExact Exact Upd UpdMath UpdFmt UpdApp
open DbAcc (DbAns)

theorem nans_alloc {w w' : World} {l : List T3} {n : Nat} {e : Ending} (h : NAns l n w e w') (o : Obj) : NAns l n w e (w'.alloc o) := by
  obtain ⟨u, fp, h1, h2, h3, h4⟩ := h
  exact ⟨u, fp, h1, Cd.ow_later h2 (below_alloc _ _), h3, below_then h4 (below_alloc _ _)⟩
set_option maxRecDepth 100000 in
set_option maxHeartbeats 6400000 in
theorem impl_applyall (u v : Value) (l : List T3) (us : List U3) (S S2 : Nat → Prop) (w : World) (h1 : tabsC.rd w S [u] l) (h2 : updsC.rd w S2 [v] us) (hw : wtS l ≤ 1048577) (hu : SlUpdate.wtS us ≤ 1048577) :
    Calls Tryz.prog 12 #[.agg #[u], v] w fun e w' => NAns (allL l us).1 (allL l us).2 w e w' := by
  have HDC := Lib.hid (fun w' (hb : Below w.heap.size w w') => DbImp.impl_dbcopy u l S w' (Cd.later h1 hb) hw)
  have HU := Lib.hid (fun w' (hb : Below w.heap.size w w') => Cd.later h2 hb)
  have HW := Lib.hid hw
  have HUW := Lib.hid hu
  obtain ⟨a1, cap1, rfl, hl1⟩ := Cd.sl_form h1
  obtain ⟨a2, cap2, rfl, hl2⟩ := Cd.sl_form h2
  clear h1 h2 hw hu
  obtain ⟨R, N, hRN⟩ : ∃ R N, allL l us = (R, N) := ⟨_, _, rfl⟩
  rw [hRN]
  have HRN := Lib.hid hRN
  clear hRN
  go_enter Tryz.func12, Tryz.ntmps12
  go_wp2_with fail
  generalize hW : (w.alloc _).alloc _ = W
  obtain ⟨r0, r1, hz, hb0⟩ := start2g w _ _ hW
  have HC1 := Lib.hid (Loc1.of r1)
  have HB0 := Lib.hid hb0
  have HZ := Lib.hid hz
  clear hW r0 r1 hz hb0
  refine (HDC.out W HB0.out).mono ?_
  rintro e w1 ⟨a3, c3, f3, rfl, ho3, hn3, hb3⟩
  have HS := Lib.hid (show AllS w w1.heap.size l a3 c3 f3 (w1.alloc (.cells #[.slice a3 l.length c3] 26 (0, 0))) from
    ⟨Loc1.of (row_alloc _ _), (HC1.out.later hb3).later (below_alloc _ _), Cd.ow_later ((Cd.sl _ tabC).ow_base ho3 (by have := HZ.out; omega)) (below_alloc _ _), hn3, by have := HZ.out; have := hb3.size; omega, below_then (below_then HB0.out hb3) (below_alloc _ _), HW.out⟩)
  clear ho3 hn3 hb3 HC1
  go_wp2_with fail
  generalize w1.alloc _ = W2 at *
  generalize w1.heap.size = X at *
  go_loopw [15] (fun i wr => ∃ (k : Nat) (cur : List T3) (a : Option Addr) (c : Nat) (fp : List Nat) (m : Nat), k ≤ us.length ∧ i = .int .i64 k ∧ allL cur (us.drop k) = (R, m) ∧ k + m = N ∧ AllS w X cur a c fp wr) (fun i _ => us.length - (intOf i).toNat)
  case atStart => exact ⟨0, l, a3, c3, f3, N, Nat.zero_le _, rfl, HRN.out, Nat.zero_add _, HS.out⟩
  case round =>
    obtain ⟨k, cur, a, c, fp, m, hk, rfl, hall, hm, hst⟩ := hrel
    have HST := Lib.hid hst
    have HALL := Lib.hid hall
    have HM := Lib.hid hm
    clear hst hall hm
    by_cases hlt : k < us.length
    · obtain ⟨b, off, cap', xs, e1, _, hbB, hat, hu⟩ := Cd.sl_at (HU.out wr HST.out.b) hlt
      injection e1 with e1 e2 e3
      subst e1 e3
      obtain ⟨x0, x1, x2, rfl⟩ := SlUpdate.len_list (updC.len hu)
      have c0 := hat 0 (by simp)
      have c1 := hat 1 (by simp)
      have c2 := hat 2 (by simp)
      simp only [List.getElem_cons_zero, List.getElem_cons_succ, Nat.add_zero, show updC.n = 3 from rfl] at c0 c1 c2
      obtain ⟨uu, exs, hns, hrow⟩ := upd_cells hu
      simp only [List.cons.injEq, and_true] at exs
      obtain ⟨rfl, rfl, rfl⟩ := exs
      obtain ⟨a6, c6, rfl, _⟩ := row_form hrow
      have HAP := Lib.hid (fun w' (hb : LaterU wr w') => impl_apply _ _ cur us[k].1 us[k].2.1 us[k].2.2 _ _ w' (tabsC.ow_rd (Cd.ow_later HST.out.ow hb)) (Cd.later hrow hb) HST.out.wt (upd_wt hlt HUW.out).1 (upd_wt hlt HUW.out).2)
      have HGO := Lib.hid (allL_go (l := cur) hlt)
      have HSTOP := Lib.hid (allL_stop (l := cur) hlt)
      have HWN := Lib.hid (app_wt (nm := us[k].1) (b := us[k].2.1) (row := us[k].2.2) HST.out.wt)
      have p1 : (0 : Int) ≤ (k : Int) := by omega
      have p2 : (k : Int) < (us.length : Int) := by omega
      have q0 := HST.out.lx.c0
      have q1 := HST.out.lx.lt
      clear hu hat hrow hns hbB
      generalize us[k].1 = nm at *
      generalize us[k].2.1 = bb at *
      generalize us[k].2.2 = row at *
      go_wp2_with fail
      refine (HAP.out _ (below_alloc _ _)).mono ?_
      rintro e w5 ⟨u5, f5, rfl, how, hnd, hb5⟩
      obtain ⟨a5, c5, rfl⟩ := Cd.ow_slice (c := tabC) how
      have hbw := below_then (below_alloc wr _) hb5
      have HS5 := Lib.hid (HST.out.later hbw)
      have HNX := Lib.hid (HST.out.next ((Cd.sl _ tabC).ow_base how (by rw [size_alloc]; omega)) hnd hbw HWN.out)
      have z0 := HS5.out.lx.c0
      have z1 := HS5.out.lx.f0
      have z2 := HS5.out.lr.c0
      have z3 := HS5.out.lr.f0
      have z4 := HS5.out.lx.lt
      have z5 := HS5.out.lr.lt
      clear how hnd hb5 hbw q0 q1 HAP
      cases hk : appOk cur nm bb row
      · have HE := Lib.hid (HSTOP.out hk)
        have hRm := HALL.out
        rw [HE.out] at hRm
        injection hRm with hR hm0
        have HR1 := Lib.hid hR
        have HM1 := Lib.hid (show k = N by have := HM.out; omega)
        clear hR hm0 hk
        have M0 := Lib.hid (cell_alloc_some (World.cell?_setCell_same _ _ (.slice a cur.length c) z2) (.cells #[.slice a5 (appL cur nm bb row).length c5] 26 (0, 0)))
        go_wp2_with fail
        have k0 := M0.out
        refine bodyPost_ret (v := .tuple #[.agg #[.slice a cur.length c], .int .i64 k]) (by simp [results, Tryz.results12, go_sem, k0]) rfl (nans_alloc (HS5.out.done HR1.out HM1.out) _)
      · have HE := Lib.hid (HGO.out hk)
        have hRm := HALL.out
        rw [HE.out] at hRm
        injection hRm with hR hm0
        have HR1 := Lib.hid (show allL (appL cur nm bb row) (us.drop (k + 1)) = (R, (allL (appL cur nm bb row) (us.drop (k + 1))).2) by rw [← hR])
        have HM1 := Lib.hid (show (k + 1) + (allL (appL cur nm bb row) (us.drop (k + 1))).2 = N by have := HM.out; omega)
        clear hR hm0 hk
        go_wp2_with fail
        go_roundw
        case rel => exact ⟨k + 1, _, _, _, _, _, by omega, by go_num, HR1.out, HM1.out, HNX.out.later (below_alloc _ _)⟩
        case measure => simp [intOf]; omega
    · have ek : k = us.length := by omega
      subst ek
      have hRm := HALL.out
      rw [allL_end] at hRm
      injection hRm with hR hm0
      have HR1 := Lib.hid hR
      have HM1 := Lib.hid (show us.length = N by have := HM.out; omega)
      have z0 := HST.out.lx.c0
      have z2 := HST.out.lr.c0
      have z3 := HST.out.lr.f0
      clear hR hm0
      go_wp2_with fail
      have k0 := World.cell?_setCell_same _ _ (.slice a cur.length c) z2
      refine bodyPost_ret (v := .tuple #[.agg #[.slice a cur.length c], .int .i64 us.length]) (by simp [results, Tryz.results12, go_sem, k0]) rfl (HST.out.done HR1.out HM1.out)
end Go.Proofs.YtmifnbplkaonaaaGreat.UpdAll

namespace Go.Proofs.YtmifnbplkaonaaaGreat.UpdWalk
open Go Go.RowKit Byt Ints IntsLaw Draw Cd Rows2 Tab SlMath TabOpen TabElem SlTable Db TabSpec DbMath DbSpec DbExact DbDraw Upd UpdMath UpdFmt UpdDraw Exact
open DbAcc (DbAns)

theorem same_self (nm : ByteArray) (b : Bool) (row : List Int) : UpdOps.sameU nm nm b b row row = true := decide_eq_true ⟨rfl, rfl, rfl⟩
theorem list0 : (⟨#[]⟩ : ByteArray).toList = [] := by simp [ByteArray.toList, ByteArray.toList.loop, ByteArray.size]
theorem upds_wt : ∀ {us : List U3}, (∀ U ∈ us, U.1.size ≤ 2 ∧ U.2.2.length ≤ 40) → sumN wtU us ≤ 100 * us.length
  | [], _ => by simp [sumN]
  | U :: us, h => by
    have h1 := upds_wt (us := us) (fun x hx => h x (List.mem_cons.2 (.inr hx)))
    have h2 := h U List.mem_cons_self
    have h3 : wtU U ≤ 100 := by unfold wtU updWt; omega
    rw [sumN_cons, List.length_cons, Nat.mul_add]
    omega
theorem upds_wts {us : List U3} (hl : us.length ≤ 6) (h : ∀ U ∈ us, U.1.size ≤ 2 ∧ U.2.2.length ≤ 40) : SlUpdate.wtS us ≤ 1000 := by
  have h1 := upds_wt h
  unfold SlUpdate.wtS
  omega

set_option maxRecDepth 100000 in
set_option maxHeartbeats 6400000 in
theorem walk (v : Value) (l : List UInt8) (w : World) (hr : Reads w v l w.heap.size) :
    Calls Tryz.prog 3 #[v] w fun e w' => e = .returned (.bool true) ∧ Below w.heap.size w w' := by
  by_cases hbig : 1048576 < l.length
  · go_enter Tryz.func3, Tryz.ntmps3
    go_wp2_with fail
    refine (big_any v l w.heap.size w hr).mono ?_
    rintro e w1 ⟨rfl, rfl⟩
    rw [decide_eq_true hbig]
    go_wp2_with fail
    go_ret
    exact ⟨rfl, Below.refl _ _⟩
  have HR := Lib.hid (fun w' (hb : Below w.heap.size w w') => Dig.reads_mono (hr.later hb) (Below.size hb))
  have HBIG := Lib.hid (big_any v l w.heap.size w hr)
  have HD1 := Lib.hid (draw_upd v l w hr)
  clear hr
  go_enter Tryz.func3, Tryz.ntmps3
  go_wp2_with fail
  refine HBIG.out.mono ?_
  rintro e w1 ⟨rfl, rfl⟩
  rw [decide_eq_false hbig]
  clear hbig HBIG
  go_wp2_with fail
  refine HD1.out.mono ?_
  rintro e W1 ⟨u, Ts, nm, b, y, row, he, hdb, hlen, hok, hrw, hnm, hrl, hb1⟩
  obtain ⟨ad, cd, rfl, _⟩ := Cd.sl_form hdb
  obtain ⟨au, cu, rfl, _⟩ := row_form hrw
  simp only [List.nil_append] at he
  subst he
  have HB := Lib.hid hb1
  have HD := Lib.hid hdb
  have HT := Lib.hid hrw
  have HWS := Lib.hid (upOk_wts (upOk_of hlen hok))
  have HNM := Lib.hid hnm
  have HRL := Lib.hid hrl
  clear hb1 hdb hlen hok hrw hnm hrl HD1
  have HIS := Lib.hid (fun (w' : World) (hd : tabsC.rd w' (fun b => w.heap.size ≤ b ∧ b < W1.heap.size) [.slice ad Ts.length cd] Ts) (ht : rowC.rd w' (fun b => w.heap.size ≤ b ∧ b < W1.heap.size) [.slice au row.length cu] row) => UpdApp.impl_apply _ _ Ts nm b row _ _ w' hd ht (by have := HWS.out; omega) (by have := HRL.out; omega) (by have := HNM.out; omega))
  have HSS := Lib.hid (fun (w' : World) (hd : tabsC.rd w' (fun b => w.heap.size ≤ b ∧ b < W1.heap.size) [.slice ad Ts.length cd] Ts) (ht : rowC.rd w' (fun b => w.heap.size ≤ b ∧ b < W1.heap.size) [.slice au row.length cu] row) => UpdApp.spec_apply _ _ Ts nm b row _ _ w' hd ht (by have := HWS.out; omega) (by have := HRL.out; omega))
  have HIV0 := Lib.hid (fun (w' : World) (hd : tabsC.rd w' (fun b => w.heap.size ≤ b ∧ b < W1.heap.size) [.slice ad Ts.length cd] Ts) (ht : rowC.rd w' (fun b => w.heap.size ≤ b ∧ b < W1.heap.size) [.slice au row.length cu] row) => UpdApp.impl_applyable _ _ Ts nm b row _ _ w' hd ht (by have := HWS.out; omega) (by have := HRL.out; omega) (by have := HNM.out; omega))
  have HA := Lib.hid (show (appOk Ts nm b row = true → appOk (appL Ts nm b row) nm (!b) row = true ∧ appL (appL Ts nm b row) nm (!b) row = Ts ∧ appL Ts nm b row ≠ Ts) ∧ (appOk Ts nm b row = false → appL Ts nm b row = Ts) from ⟨app_back, app_no⟩)
  have HXW := Lib.hid (show wtS (appL Ts nm b row) ≤ 1048577 from app_wt (by have := HWS.out; omega))
  generalize appOk Ts nm b row = ib at *
  generalize appL Ts nm b row = R at *
  go_wp2_with fail
  generalize hg : World.alloc (World.alloc W1 _) _ = W2
  obtain ⟨rg, rg2, zg, hbg⟩ := start2g W1 _ _ hg
  clear hg
  replace HB := Lib.hid (below_then HB.out hbg)
  replace HD := Lib.hid (Cd.later HD.out hbg)
  replace HT := Lib.hid (Cd.later HT.out hbg)
  have L3 := Lib.hid (Loc1.of rg)
  have L4 := Lib.hid (Loc3.of rg2)
  clear hbg zg rg rg2
  refine (HIS.out W2 HD.out HT.out).mono ?_
  rintro e W3 ⟨ux, fx, rfl, hyo, _, hbx⟩
  replace HB := Lib.hid (below_then HB.out hbx)
  replace HD := Lib.hid (Cd.later HD.out hbx)
  replace HT := Lib.hid (Cd.later HT.out hbx)
  replace L3 := Lib.hid (L3.out.later hbx)
  replace L4 := Lib.hid (L4.out.later hbx)
  clear hbx
  obtain ⟨ax, cx, rfl⟩ := Cd.ow_slice (c := tabC) hyo
  have HX := Lib.hid (Cd.reads hyo)
  clear hyo
  have y0a := L3.out.c0
  have y0d := L3.out.lt
  have y1a := L4.out.c0
  have y1b := L4.out.c1
  have y1c := L4.out.c2
  have y1d := L4.out.lt
  go_wp2_with fail
  clear y0a y0d y1a y1b y1c y1d
  generalize hg : World.alloc W3 _ = W4
  obtain ⟨rg, zg, hbg⟩ := start1 W3 _ hg
  clear hg
  replace HB := Lib.hid (below_then HB.out hbg)
  replace HD := Lib.hid (Cd.later HD.out hbg)
  replace HT := Lib.hid (Cd.later HT.out hbg)
  replace L3 := Lib.hid (L3.out.later hbg)
  replace L4 := Lib.hid (L4.out.later hbg)
  replace HX := Lib.hid (Cd.later HX.out hbg)
  have L5 := Lib.hid (Loc1.of rg)
  clear hbg zg rg
  refine (HSS.out W4 HD.out HT.out).mono ?_
  rintro e W5 ⟨us, fs, rfl, hyo, _, hbx⟩
  replace HB := Lib.hid (below_then HB.out hbx)
  replace HD := Lib.hid (Cd.later HD.out hbx)
  replace HT := Lib.hid (Cd.later HT.out hbx)
  replace L3 := Lib.hid (L3.out.later hbx)
  replace L4 := Lib.hid (L4.out.later hbx)
  replace HX := Lib.hid (Cd.later HX.out hbx)
  replace L5 := Lib.hid (L5.out.later hbx)
  clear hbx
  obtain ⟨aso, cso, rfl⟩ := Cd.ow_slice (c := tabC) hyo
  clear hyo HIS HSS
  have y0a := L3.out.c0
  have y0d := L3.out.lt
  have y1a := L4.out.c0
  have y1b := L4.out.c1
  have y1c := L4.out.c2
  have y1d := L4.out.lt
  go_wp2_with fail
  clear y0a y0d y1a y1b y1c y1d
  generalize hg : World.alloc W5 _ = W6
  obtain ⟨rg, zg, hbg⟩ := start1 W5 _ hg
  clear hg
  replace HB := Lib.hid (below_then HB.out hbg)
  replace HD := Lib.hid (Cd.later HD.out hbg)
  replace HT := Lib.hid (Cd.later HT.out hbg)
  replace L3 := Lib.hid (L3.out.later hbg)
  replace L4 := Lib.hid (L4.out.later hbg)
  replace HX := Lib.hid (Cd.later HX.out hbg)
  replace L5 := Lib.hid (L5.out.later hbg)
  have L7 := Lib.hid (Loc1.of rg)
  clear hbg zg rg
  refine (HIV0.out W6 HD.out HT.out).mono ?_
  rintro e W7 ⟨rfl, hbx⟩
  replace HB := Lib.hid (below_then HB.out hbx)
  replace HD := Lib.hid (Cd.later HD.out hbx)
  replace HT := Lib.hid (Cd.later HT.out hbx)
  replace L3 := Lib.hid (L3.out.later hbx)
  replace L4 := Lib.hid (L4.out.later hbx)
  replace HX := Lib.hid (Cd.later HX.out hbx)
  replace L5 := Lib.hid (L5.out.later hbx)
  replace L7 := Lib.hid (L7.out.later hbx)
  clear hbx
  clear HIV0
  go_upto_if 49 with fail
  clear L7
  go_cut [] (fun wx => Below w.heap.size w wx ∧ Loc3 wx (W1.heap.size + 1) (.string nm) (.bool b) (.slice au row.length cu) ∧ rowC.rd wx (fun b => w.heap.size ≤ b ∧ b < W1.heap.size) [.slice au row.length cu] row)
  case first =>
    as_aux_lemma =>
      cases ib
      case false =>
        obtain rfl : R = Ts := HA.out.2 rfl
        have y0a := L5.out.c0
        have y0d := L5.out.lt
        have y1a := L3.out.c0
        have y1d := L3.out.lt
        go_wp2_with fail
        clear y0a y0d y1a y1d
        have HE := Lib.hid (DbImp.impl_eqdb _ _ _ _ _ _ W7 HX.out HD.out)
        rw [decide_eq_true rfl] at HE
        refine (HE.out).mono ?_
        rintro e W8 ⟨rfl, hbx⟩
        replace HB := Lib.hid (below_then HB.out hbx)
        replace HD := Lib.hid (Cd.later HD.out hbx)
        replace HT := Lib.hid (Cd.later HT.out hbx)
        replace L3 := Lib.hid (L3.out.later hbx)
        replace L4 := Lib.hid (L4.out.later hbx)
        replace HX := Lib.hid (Cd.later HX.out hbx)
        replace L5 := Lib.hid (L5.out.later hbx)
        clear hbx
        go_wp2_with fail
        go_meet
        exact ⟨HB.out, L4.out, HT.out⟩
      case true =>
        obtain ⟨ha1, ha2, ha3⟩ := HA.out.1 rfl
        have HNE := Lib.hid ha3
        have HIV := Lib.hid (fun w' (hb : LaterD W7 w') => UpdOps.impl_invert nm b _ row _ w' (Cd.later HT.out hb) (by have := HRL.out; omega) (by have := HNM.out; omega))
        have HAP := Lib.hid (fun w' (hb : LaterD W7 w') (S2 : Nat → Prop) (v' : Value) (h2 : rowC.rd w' S2 [v'] row) => (show Calls Tryz.prog 6 #[.agg #[.slice ax R.length cx], .agg #[.string nm, .bool (!b), v']] w' (DbAns Ts true w') from by
          have h := UpdApp.impl_apply _ _ R nm (!b) row _ _ w' (Cd.later HX.out hb) h2 HXW.out (by have := HRL.out; omega) (by have := HNM.out; omega)
          rw [ha1, ha2] at h
          exact h))
        clear ha1 ha2 ha3 HA
        go_upto_region 9 with fail
        go_cut [9, 10] (fun s9 s10 wx => ∃ (p : Nat) (a : Option Addr) (k : Nat), s9 = .pointer (some ⟨p, 0, none⟩) ∧ s10 = .bool true ∧ Loc1 wx p (.slice a Ts.length k) ∧ tabsC.rd wx (· < wx.heap.size) [.slice a Ts.length k] Ts ∧ LaterD W7 wx)
        case first =>
          as_aux_lemma =>
            have kk0 : LaterD W7 W7.drew := DbSpec.drewD (Below.refl _ W7)
            refine wp_region_held_drew (S := fun wx => LaterD W7 wx) (by kernel_rfl) kk0 (fun hHeld => ?_)
            refine RegH.takeH (i := 0) (v := ?_) rfl (by kernel_rfl) (by kernel_rfl) (by kernel_rfl) (fun _ _ _ h => h) (Or.inl ⟨by rfl, ?_⟩) (by assumption) ?_
            rotate_left
            · (intro wS hSw; (try dsimp only at hSw); (obtain ⟨r0, r1, r2, _, _, _⟩ := L4.out.later (show Below W7.heap.size W7 wS from hSw)); (have r3 := (L5.out.later (show Below W7.heap.size W7 wS from hSw)).c0); go_simp; try (with_reducible rfl))
            try simp only [Act.put, List.setIfInBounds_toArray, List.set_cons_zero, List.set_cons_succ]
            refine RegH.takeH (i := 1) (v := ?_) rfl (by kernel_rfl) (by kernel_rfl) (by kernel_rfl) (fun _ _ _ h => h) (Or.inl ⟨by rfl, ?_⟩) (by assumption) ?_
            rotate_left
            · (intro wS hSw; (try dsimp only at hSw); (obtain ⟨r0, r1, r2, _, _, _⟩ := L4.out.later (show Below W7.heap.size W7 wS from hSw)); (have r3 := (L5.out.later (show Below W7.heap.size W7 wS from hSw)).c0); go_simp; try (with_reducible rfl))
            try simp only [Act.put, List.setIfInBounds_toArray, List.set_cons_zero, List.set_cons_succ]
            refine RegH.consH2 (i := 2) (j := 7) rfl rfl (by kernel_rfl) (fun K hK => ?_) (fun K hK => ?_)
            · skip
              go_simp
              go_at_call 9
              refine (HIV.out _ kk0).mono ?_
              rintro e wq1 ⟨uv, f4, rfl, hov, hnv, hbq⟩
              obtain ⟨av, cv, rfl⟩ := Cd.ow_slice hov
              have kk2 : LaterD W7 wq1 := below_then (show Below W7.heap.size W7 W7.drew from kk0) hbq
              have OV3 := Lib.hid (Cd.reads hov)
              clear hov hnv hbq
              (try go_wp2_with fail)
              refine hK.out _ _ ?_ (fun hHeld => ?_)
              · exact kk2
              clear hK K
              try simp only [Act.put, List.setIfInBounds_toArray, List.set_cons_zero, List.set_cons_succ]
              refine RegH.consH2 (i := 3) (j := 7) rfl rfl (by kernel_rfl) (fun K hK => ?_) (fun K hK => ?_)
              · skip
                go_simp
                go_at_call 6
                refine (HAP.out _ kk2 _ _ OV3.out).mono ?_
                rintro e wq5 ⟨uq, fq, rfl, hoq, hnq, hbq⟩
                obtain ⟨aq, cq, rfl⟩ := Cd.ow_slice (c := tabC) hoq
                have kk6 : LaterD W7 wq5 := below_then (show Below W7.heap.size W7 wq1 from kk2) hbq
                have OW7 := Lib.hid hoq
                clear hoq hnq hbq
                (try go_wp2_with fail)
                refine hK.out _ _ ?_ (fun hHeld => ?_)
                · exact kk6
                clear hK K
                try simp only [Act.put, List.setIfInBounds_toArray, List.set_cons_zero, List.set_cons_succ]
                refine RegH.takeH (i := 4) (v := ?_) rfl (by kernel_rfl) (by kernel_rfl) (by kernel_rfl) (fun _ _ _ h => h) (Or.inl ⟨by rfl, ?_⟩) (by assumption) ?_
                rotate_left
                · (intro wS hSw; (try dsimp only at hSw); skip; go_simp; try (with_reducible rfl))
                try simp only [Act.put, List.setIfInBounds_toArray, List.set_cons_zero, List.set_cons_succ]
                refine RegH.takeH (i := 5) (v := ?_) rfl (by kernel_rfl) (by kernel_rfl) (by kernel_rfl) (fun _ _ _ h => h) (Or.inl ⟨by rfl, ?_⟩) (by assumption) ?_
                rotate_left
                · (intro wS hSw; (try dsimp only at hSw); skip; go_simp; try (with_reducible rfl))
                try simp only [Act.put, List.setIfInBounds_toArray, List.set_cons_zero, List.set_cons_succ]
                refine RegH.takeH (i := 6) (v := ?_) rfl (by kernel_rfl) (by kernel_rfl) (by kernel_rfl) (fun _ _ _ h => h) (Or.inl ⟨by rfl, ?_⟩) (by assumption) ?_
                rotate_left
                · (intro wS hSw; (try dsimp only at hSw); skip; go_simp; try (with_reducible rfl))
                try simp only [Act.put, List.setIfInBounds_toArray, List.set_cons_zero, List.set_cons_succ]
                have kF := hHeld
                refine RegH.consH (i := 7) rfl (by kernel_rfl) (fun K hK => ?_)
                go_simp
                refine hK.out _ _ ?_ (fun hHeld => ?_)
                · exact below_then (show Below W7.heap.size W7 wq5 from kk6) (below_alloc _ _)
                clear hK K
                try simp only [Act.put, List.setIfInBounds_toArray, List.set_cons_zero, List.set_cons_succ]
                refine RegH.consH (i := 8) rfl (by kernel_rfl) (fun K hK => ?_)
                go_simp
                refine hK.out _ _ ?_ (fun hHeld => ?_)
                · exact below_then (show Below W7.heap.size W7 wq5 from kk6) (below_alloc _ _)
                clear hK K
                try simp only [Act.put, List.setIfInBounds_toArray, List.set_cons_zero, List.set_cons_succ]
                refine RegH.takeH (i := 9) (v := ?_) rfl (by kernel_rfl) (by kernel_rfl) (by kernel_rfl) (fun _ _ _ h => h) (Or.inl ⟨by rfl, ?_⟩) (by assumption) ?_
                rotate_left
                · (intro wS hSw; (try dsimp only at hSw); skip; go_simp; try (with_reducible rfl))
                try simp only [Act.put, List.setIfInBounds_toArray, List.set_cons_zero, List.set_cons_succ]
                refine wpAnyH_done (by kernel_rfl) ?_ _
                go_wp2_with fail
                go_meet
                exact ⟨wq5.heap.size, aq, cq, rfl, rfl, Loc1.of (row_alloc wq5 _), Cd.reads (Cd.ow_later OW7.out (below_alloc wq5 _)), hHeld⟩
              · skip
                go_simp
                have kk8 : LaterD W7 (wq1.alloc (.cells #[.slice none 0 0] 26 (0, 0))) := below_then (show Below W7.heap.size W7 wq1 from kk2) (below_alloc _ _)
                have AL9 := Lib.hid (show Loc1 (wq1.alloc (.cells #[.slice none 0 0] 26 (0, 0))) wq1.heap.size (.slice none 0 0) from Loc1.of (row_alloc wq1 (.cells #[.slice none 0 0] 26 (0, 0))))
                have LWAL9 := Lib.hid (show W7.heap.size ≤ wq1.heap.size from Below.size (show Below W7.heap.size W7 wq1 from kk2))
                have OV11 := Lib.hid (Cd.later OV3.out (below_alloc wq1 (.cells #[.slice none 0 0] 26 (0, 0))))
                refine hK.out _ _ ?_ (fun hHeld => ?_)
                · exact kk8
                clear hK K
                try simp only [Act.put, List.setIfInBounds_toArray, List.set_cons_zero, List.set_cons_succ]
                refine RegH.consH (i := 3) rfl (by kernel_rfl) (fun K hK => ?_)
                go_simp
                go_at_call 6
                refine (HAP.out _ kk8 _ _ OV11.out).mono ?_
                rintro e wq12 ⟨uq, fq, rfl, hoq, hnq, hbq⟩
                obtain ⟨aq, cq, rfl⟩ := Cd.ow_slice (c := tabC) hoq
                have kk13 : LaterD W7 wq12 := below_then (show Below W7.heap.size W7 (wq1.alloc (.cells #[.slice none 0 0] 26 (0, 0))) from kk8) hbq
                have AL15 := Lib.hid (AL9.out.later hbq)
                have LTQ := Lib.hid (show wq1.heap.size ∉ fq from fun q => by have h1 := ((Cd.sl _ tabC).ow_lt hoq _ q).1; have h2 := AL9.out.lt; omega)
                have OW14 := Lib.hid hoq
                clear hoq hnq hbq
                (try go_wp2_with fail)
                refine hK.out _ _ ?_ (fun hHeld => ?_)
                · exact kk13
                clear hK K
                try simp only [Act.put, List.setIfInBounds_toArray, List.set_cons_zero, List.set_cons_succ]
                refine RegH.takeH (i := 4) (v := ?_) rfl (by kernel_rfl) (by kernel_rfl) (by kernel_rfl) (fun _ _ _ h => h) (Or.inl ⟨by rfl, ?_⟩) (by assumption) ?_
                rotate_left
                · (intro wS hSw; (try dsimp only at hSw); skip; go_simp; try (with_reducible rfl))
                try simp only [Act.put, List.setIfInBounds_toArray, List.set_cons_zero, List.set_cons_succ]
                refine RegH.takeH (i := 5) (v := ?_) rfl (by kernel_rfl) (by kernel_rfl) (by kernel_rfl) (fun _ _ _ h => h) (Or.inl ⟨by rfl, ?_⟩) (by assumption) ?_
                rotate_left
                · (intro wS hSw; (try dsimp only at hSw); skip; go_simp; try (with_reducible rfl))
                try simp only [Act.put, List.setIfInBounds_toArray, List.set_cons_zero, List.set_cons_succ]
                refine RegH.takeH (i := 6) (v := ?_) rfl (by kernel_rfl) (by kernel_rfl) (by kernel_rfl) (fun _ _ _ h => h) (Or.inl ⟨by rfl, ?_⟩) (by assumption) ?_
                rotate_left
                · (intro wS hSw; (try dsimp only at hSw); skip; go_simp; try (with_reducible rfl))
                try simp only [Act.put, List.setIfInBounds_toArray, List.set_cons_zero, List.set_cons_succ]
                obtain ⟨g0, g1⟩ := AL15.out
                refine RegH.consH (i := 8) rfl (by kernel_rfl) (fun K hK => ?_)
                go_simp
                refine hK.out _ _ ?_ (fun hHeld => ?_)
                · exact Below.setCell (show Below W7.heap.size W7 wq12 from kk13) LWAL9.out _
                clear hK K
                try simp only [Act.put, List.setIfInBounds_toArray, List.set_cons_zero, List.set_cons_succ]
                refine RegH.takeH (i := 9) (v := ?_) rfl (by kernel_rfl) (by kernel_rfl) (by kernel_rfl) (fun _ _ _ h => h) (Or.inl ⟨by rfl, ?_⟩) (by assumption) ?_
                rotate_left
                · (intro wS hSw; (try dsimp only at hSw); skip; go_simp; try (with_reducible rfl))
                try simp only [Act.put, List.setIfInBounds_toArray, List.set_cons_zero, List.set_cons_succ]
                refine wpAnyH_done (by kernel_rfl) ?_ _
                go_wp2_with fail
                go_meet
                exact ⟨wq1.heap.size, aq, cq, rfl, rfl, AL15.out.set _, Cd.reads (ow_setCell OW14.out LTQ.out _), hHeld⟩
            · skip
              go_simp
              have kk16 : LaterD W7 (W7.drew.alloc (.cells #[.slice none 0 0] 26 (0, 0))) := below_then (show Below W7.heap.size W7 W7.drew from kk0) (below_alloc _ _)
              have AL17 := Lib.hid (show Loc1 (W7.drew.alloc (.cells #[.slice none 0 0] 26 (0, 0))) W7.heap.size (.slice none 0 0) from Loc1.of (row_alloc W7.drew (.cells #[.slice none 0 0] 26 (0, 0))))
              have LWAL17 := Lib.hid (Nat.le_refl W7.heap.size)
              refine hK.out _ _ ?_ (fun hHeld => ?_)
              · exact kk16
              clear hK K
              try simp only [Act.put, List.setIfInBounds_toArray, List.set_cons_zero, List.set_cons_succ]
              refine RegH.consH (i := 2) rfl (by kernel_rfl) (fun K hK => ?_)
              go_simp
              go_at_call 9
              refine (HIV.out _ kk16).mono ?_
              rintro e wq19 ⟨uv, f22, rfl, hov, hnv, hbq⟩
              obtain ⟨av, cv, rfl⟩ := Cd.ow_slice hov
              have kk20 : LaterD W7 wq19 := below_then (show Below W7.heap.size W7 (W7.drew.alloc (.cells #[.slice none 0 0] 26 (0, 0))) from kk16) hbq
              have OV21 := Lib.hid (Cd.reads hov)
              have AL23 := Lib.hid (AL17.out.later hbq)
              clear hov hnv hbq
              (try go_wp2_with fail)
              refine hK.out _ _ ?_ (fun hHeld => ?_)
              · exact kk20
              clear hK K
              try simp only [Act.put, List.setIfInBounds_toArray, List.set_cons_zero, List.set_cons_succ]
              refine RegH.consH (i := 3) rfl (by kernel_rfl) (fun K hK => ?_)
              go_simp
              go_at_call 6
              refine (HAP.out _ kk20 _ _ OV21.out).mono ?_
              rintro e wq24 ⟨uq, fq, rfl, hoq, hnq, hbq⟩
              obtain ⟨aq, cq, rfl⟩ := Cd.ow_slice (c := tabC) hoq
              have kk25 : LaterD W7 wq24 := below_then (show Below W7.heap.size W7 wq19 from kk20) hbq
              have AL27 := Lib.hid (AL23.out.later hbq)
              have LTQ := Lib.hid (show W7.heap.size ∉ fq from fun q => by have h1 := ((Cd.sl _ tabC).ow_lt hoq _ q).1; have h2 := AL23.out.lt; omega)
              have OW26 := Lib.hid hoq
              clear hoq hnq hbq
              (try go_wp2_with fail)
              refine hK.out _ _ ?_ (fun hHeld => ?_)
              · exact kk25
              clear hK K
              try simp only [Act.put, List.setIfInBounds_toArray, List.set_cons_zero, List.set_cons_succ]
              refine RegH.takeH (i := 4) (v := ?_) rfl (by kernel_rfl) (by kernel_rfl) (by kernel_rfl) (fun _ _ _ h => h) (Or.inl ⟨by rfl, ?_⟩) (by assumption) ?_
              rotate_left
              · (intro wS hSw; (try dsimp only at hSw); skip; go_simp; try (with_reducible rfl))
              try simp only [Act.put, List.setIfInBounds_toArray, List.set_cons_zero, List.set_cons_succ]
              refine RegH.takeH (i := 5) (v := ?_) rfl (by kernel_rfl) (by kernel_rfl) (by kernel_rfl) (fun _ _ _ h => h) (Or.inl ⟨by rfl, ?_⟩) (by assumption) ?_
              rotate_left
              · (intro wS hSw; (try dsimp only at hSw); skip; go_simp; try (with_reducible rfl))
              try simp only [Act.put, List.setIfInBounds_toArray, List.set_cons_zero, List.set_cons_succ]
              refine RegH.takeH (i := 6) (v := ?_) rfl (by kernel_rfl) (by kernel_rfl) (by kernel_rfl) (fun _ _ _ h => h) (Or.inl ⟨by rfl, ?_⟩) (by assumption) ?_
              rotate_left
              · (intro wS hSw; (try dsimp only at hSw); skip; go_simp; try (with_reducible rfl))
              try simp only [Act.put, List.setIfInBounds_toArray, List.set_cons_zero, List.set_cons_succ]
              obtain ⟨g0, g1⟩ := AL27.out
              refine RegH.consH (i := 8) rfl (by kernel_rfl) (fun K hK => ?_)
              go_simp
              refine hK.out _ _ ?_ (fun hHeld => ?_)
              · exact Below.setCell (show Below W7.heap.size W7 wq24 from kk25) LWAL17.out _
              clear hK K
              try simp only [Act.put, List.setIfInBounds_toArray, List.set_cons_zero, List.set_cons_succ]
              refine RegH.takeH (i := 9) (v := ?_) rfl (by kernel_rfl) (by kernel_rfl) (by kernel_rfl) (fun _ _ _ h => h) (Or.inl ⟨by rfl, ?_⟩) (by assumption) ?_
              rotate_left
              · (intro wS hSw; (try dsimp only at hSw); skip; go_simp; try (with_reducible rfl))
              try simp only [Act.put, List.setIfInBounds_toArray, List.set_cons_zero, List.set_cons_succ]
              refine wpAnyH_done (by kernel_rfl) ?_ _
              go_wp2_with fail
              go_meet
              exact ⟨W7.heap.size, aq, cq, rfl, rfl, AL27.out.set _, Cd.reads (ow_setCell OW26.out LTQ.out _), hHeld⟩
        case rest =>
        obtain ⟨p9, a9, k9, rfl, rfl, hl9, hr9, hq9⟩ := hcut
        have L9 := Lib.hid hl9
        have HY := Lib.hid hr9
        clear hl9 hr9 HIV HAP
        replace HB := Lib.hid (below_then HB.out (show Below W7.heap.size W7 wc from hq9))
        replace HD := Lib.hid (Cd.later HD.out (show Below W7.heap.size W7 wc from hq9))
        replace HT := Lib.hid (Cd.later HT.out (show Below W7.heap.size W7 wc from hq9))
        replace L3 := Lib.hid (L3.out.later (show Below W7.heap.size W7 wc from hq9))
        replace L4 := Lib.hid (L4.out.later (show Below W7.heap.size W7 wc from hq9))
        replace HX := Lib.hid (Cd.later HX.out (show Below W7.heap.size W7 wc from hq9))
        replace L5 := Lib.hid (L5.out.later (show Below W7.heap.size W7 wc from hq9))
        clear hq9
        generalize wc = W9 at *
        have y0a := L9.out.c0
        have y0d := L9.out.lt
        have y1a := L3.out.c0
        have y1d := L3.out.lt
        go_wp2_with fail
        clear y0a y0d y1a y1d
        have HE := Lib.hid (DbImp.impl_eqdb _ _ _ _ _ _ W9 HY.out HD.out)
        rw [decide_eq_true rfl] at HE
        refine (HE.out).mono ?_
        rintro e W10 ⟨rfl, hbx⟩
        replace HB := Lib.hid (below_then HB.out hbx)
        replace HD := Lib.hid (Cd.later HD.out hbx)
        replace HT := Lib.hid (Cd.later HT.out hbx)
        replace L3 := Lib.hid (L3.out.later hbx)
        replace L4 := Lib.hid (L4.out.later hbx)
        replace HX := Lib.hid (Cd.later HX.out hbx)
        replace L5 := Lib.hid (L5.out.later hbx)
        replace L9 := Lib.hid (L9.out.later hbx)
        replace HY := Lib.hid (Cd.later HY.out hbx)
        clear hbx
        clear HE
        have y0a := L5.out.c0
        have y0d := L5.out.lt
        have y1a := L3.out.c0
        have y1d := L3.out.lt
        have y2a := L9.out.c0
        have y2d := L9.out.lt
        go_wp2_with fail
        clear y0a y0d y1a y1d y2a y2d
        have HE := Lib.hid (DbImp.impl_eqdb _ _ _ _ _ _ W10 HX.out HD.out)
        rw [decide_eq_false HNE.out] at HE
        refine (HE.out).mono ?_
        rintro e W11 ⟨rfl, hbx⟩
        replace HB := Lib.hid (below_then HB.out hbx)
        replace HD := Lib.hid (Cd.later HD.out hbx)
        replace HT := Lib.hid (Cd.later HT.out hbx)
        replace L3 := Lib.hid (L3.out.later hbx)
        replace L4 := Lib.hid (L4.out.later hbx)
        replace HX := Lib.hid (Cd.later HX.out hbx)
        replace L5 := Lib.hid (L5.out.later hbx)
        replace L9 := Lib.hid (L9.out.later hbx)
        replace HY := Lib.hid (Cd.later HY.out hbx)
        clear hbx
        go_wp2_with fail
        go_meet
        exact ⟨HB.out, L4.out, HT.out⟩
  case rest =>
  obtain ⟨c_HB, c_L4, c_HT⟩ := hcut
  clear HB HD HT L3 L4 HX L5
  have HB := Lib.hid c_HB
  have L4 := Lib.hid c_L4
  have HT := Lib.hid c_HT
  clear c_HB c_L4 c_HT
  generalize wc = W12 at *
  clear HA HXW HWS
  go_wp2_with fail
  have HD2 := Lib.hid (draw_upds v l W12 (HR.out _ HB.out))
  refine (HD2.out).mono ?_
  rintro e W13 ⟨u2, T2, o2, us2, rfl, hd2, hl2, hok2, hus, hul, hub, hbx⟩
  replace HB := Lib.hid (below_then HB.out hbx)
  replace HT := Lib.hid (Cd.later HT.out hbx)
  replace L4 := Lib.hid (L4.out.later hbx)
  clear hbx
  obtain ⟨a2, c2, rfl, _⟩ := Cd.sl_form hd2
  obtain ⟨ao, co, rfl, _⟩ := Cd.sl_form hus
  have HD3 := Lib.hid hd2
  have HU3 := Lib.hid hus
  have HW2 := Lib.hid (upOk_wts (upOk_of hl2 hok2))
  have HWU := Lib.hid (upds_wts hul hub)
  clear hd2 hl2 hok2 hus hul hub HD2
  go_wp2_with fail
  generalize hg : World.alloc W13 _ = W14
  obtain ⟨rg, zg, hbg⟩ := start1 W13 _ hg
  clear hg
  replace HB := Lib.hid (below_then HB.out hbg)
  replace HT := Lib.hid (Cd.later HT.out hbg)
  replace L4 := Lib.hid (L4.out.later hbg)
  replace HD3 := Lib.hid (Cd.later HD3.out hbg)
  replace HU3 := Lib.hid (Cd.later HU3.out hbg)
  have L11 := Lib.hid (Loc1.of rg)
  clear hbg zg rg
  have HI := Lib.hid (UpdAll.impl_applyall _ _ T2 us2 _ _ W14 HD3.out HU3.out (by have := HW2.out; omega) (by have := HWU.out; omega))
  have HS := Lib.hid (fun w' (hb : LaterD W14 w') => UpdAll.spec_applyall _ _ T2 us2 _ _ w' (Cd.later HD3.out hb) (Cd.later HU3.out hb) (by have := HW2.out; omega) (by have := HWU.out; omega))
  generalize (allL T2 us2).1 = Z at *
  generalize (allL T2 us2).2 = nn at *
  have HQ := Lib.hid (show LaterD W14 W14 from Below.refl _ _)
  refine (HI.out).mono ?_
  rintro e W15 ⟨uz, fz, rfl, hyo, _, hbx⟩
  replace HB := Lib.hid (below_then HB.out hbx)
  replace HT := Lib.hid (Cd.later HT.out hbx)
  replace L4 := Lib.hid (L4.out.later hbx)
  replace HD3 := Lib.hid (Cd.later HD3.out hbx)
  replace HU3 := Lib.hid (Cd.later HU3.out hbx)
  replace L11 := Lib.hid (L11.out.later hbx)
  replace HQ := Lib.hid (below_then HQ.out hbx)
  clear hbx
  obtain ⟨az, cz, rfl⟩ := Cd.ow_slice (c := tabC) hyo
  have HZ := Lib.hid (Cd.reads hyo)
  clear hyo
  have y0a := L11.out.c0
  have y0d := L11.out.lt
  go_wp2_with fail
  clear y0a y0d
  generalize hg : World.alloc W15 _ = W16
  obtain ⟨rg, zg, hbg⟩ := start1 W15 _ hg
  clear hg
  replace HB := Lib.hid (below_then HB.out hbg)
  replace HT := Lib.hid (Cd.later HT.out hbg)
  replace L4 := Lib.hid (L4.out.later hbg)
  replace HD3 := Lib.hid (Cd.later HD3.out hbg)
  replace HU3 := Lib.hid (Cd.later HU3.out hbg)
  replace L11 := Lib.hid (L11.out.later hbg)
  replace HQ := Lib.hid (below_then HQ.out hbg)
  replace HZ := Lib.hid (Cd.later HZ.out hbg)
  have L13 := Lib.hid (Loc1.of rg)
  clear hbg zg rg
  refine (HS.out W16 HQ.out).mono ?_
  rintro e W17 ⟨uw, fw, rfl, hyo, _, hbx⟩
  replace HB := Lib.hid (below_then HB.out hbx)
  replace HT := Lib.hid (Cd.later HT.out hbx)
  replace L4 := Lib.hid (L4.out.later hbx)
  replace HD3 := Lib.hid (Cd.later HD3.out hbx)
  replace HU3 := Lib.hid (Cd.later HU3.out hbx)
  replace L11 := Lib.hid (L11.out.later hbx)
  replace HQ := Lib.hid (below_then HQ.out hbx)
  replace HZ := Lib.hid (Cd.later HZ.out hbx)
  replace L13 := Lib.hid (L13.out.later hbx)
  clear hbx
  obtain ⟨aw, cw, rfl⟩ := Cd.ow_slice (c := tabC) hyo
  have HW := Lib.hid (Cd.reads hyo)
  clear hyo
  clear HQ
  clear HI HS
  have y0a := L4.out.c0
  have y0b := L4.out.c1
  have y0c := L4.out.c2
  have y0d := L4.out.lt
  go_wp2_with fail
  clear y0a y0b y0c y0d
  generalize hg : World.alloc W17 _ = W18
  obtain ⟨rg, zg, hbg⟩ := start1 W17 _ hg
  clear hg
  replace HB := Lib.hid (below_then HB.out hbg)
  replace HT := Lib.hid (Cd.later HT.out hbg)
  replace L4 := Lib.hid (L4.out.later hbg)
  replace HD3 := Lib.hid (Cd.later HD3.out hbg)
  replace HU3 := Lib.hid (Cd.later HU3.out hbg)
  replace L11 := Lib.hid (L11.out.later hbg)
  replace HZ := Lib.hid (Cd.later HZ.out hbg)
  replace L13 := Lib.hid (L13.out.later hbg)
  replace HW := Lib.hid (Cd.later HW.out hbg)
  have L15 := Lib.hid (Loc1.of rg)
  clear hbg zg rg
  have HFM := Lib.hid (impl_fmtu nm b _ row _ W18 HT.out)
  have HPF := Lib.hid (UpdFact.par_fmtU nm b row)
  have HSZ := Lib.hid (UpdFact.fmtU_size nm b row)
  have HP := Lib.hid (fun w' => UpdParse.impl_parseu (fmtU nm b row) w' HSZ.out)
  have HSF := Lib.hid (fun w' (ht : rowC.rd w' (fun b => w.heap.size ≤ b ∧ b < W1.heap.size) [.slice au row.length cu] row) => spec_fmtu nm b _ row _ w' ht)
  generalize fmtU nm b row = fs at *
  refine (HFM.out).mono ?_
  rintro e W19 ⟨rfl, hbx⟩
  replace HB := Lib.hid (below_then HB.out hbx)
  replace HT := Lib.hid (Cd.later HT.out hbx)
  replace L4 := Lib.hid (L4.out.later hbx)
  replace HD3 := Lib.hid (Cd.later HD3.out hbx)
  replace HU3 := Lib.hid (Cd.later HU3.out hbx)
  replace L11 := Lib.hid (L11.out.later hbx)
  replace HZ := Lib.hid (Cd.later HZ.out hbx)
  replace L13 := Lib.hid (L13.out.later hbx)
  replace HW := Lib.hid (Cd.later HW.out hbx)
  replace L15 := Lib.hid (L15.out.later hbx)
  clear hbx
  clear HFM
  go_wp2_with fail
  cases huk : updOk nm row
  case false =>
    obtain ⟨g1, g2⟩ := HPF.out.1 huk
    subst g1
    have HP2 := Lib.hid (show ∀ w', Calls Tryz.prog 15 #[.string ⟨#[]⟩] w' fun e w'' => ∃ u' fp, e = .returned (.tuple #[.agg #[.string ⟨#[]⟩, .bool false, u'], .bool false]) ∧ rowC.ow w'' w'.heap.size [u'] [] fp ∧ fp.Nodup ∧ Below w'.heap.size w' w'' from fun w' => by
      have h := HP.out w'
      unfold UpdParse.UAns at h
      rw [g2] at h
      simpa using h)
    clear HP HPF HSZ huk
    refine (HP2.out W19).mono ?_
    rintro e W20 ⟨uy, fy, rfl, hyo, _, hbx⟩
    replace HB := Lib.hid (below_then HB.out hbx)
    replace HT := Lib.hid (Cd.later HT.out hbx)
    replace L4 := Lib.hid (L4.out.later hbx)
    replace HD3 := Lib.hid (Cd.later HD3.out hbx)
    replace HU3 := Lib.hid (Cd.later HU3.out hbx)
    replace L11 := Lib.hid (L11.out.later hbx)
    replace HZ := Lib.hid (Cd.later HZ.out hbx)
    replace L13 := Lib.hid (L13.out.later hbx)
    replace HW := Lib.hid (Cd.later HW.out hbx)
    replace L15 := Lib.hid (L15.out.later hbx)
    clear hbx
    obtain ⟨ay, cy, rfl⟩ := Cd.ow_slice hyo
    have HY := Lib.hid (Cd.reads hyo)
    clear hyo HP2
    have y0a := L13.out.c0
    have y0d := L13.out.lt
    have y1a := L15.out.c0
    have y1d := L15.out.lt
    go_wp2_with fail
    clear y0a y0d y1a y1d
    generalize hg : World.alloc W20 _ = W21
    obtain ⟨rg, zg, hbg⟩ := start1 W20 _ hg
    clear hg
    replace HB := Lib.hid (below_then HB.out hbg)
    replace HT := Lib.hid (Cd.later HT.out hbg)
    replace L4 := Lib.hid (L4.out.later hbg)
    replace HD3 := Lib.hid (Cd.later HD3.out hbg)
    replace HU3 := Lib.hid (Cd.later HU3.out hbg)
    replace L11 := Lib.hid (L11.out.later hbg)
    replace HZ := Lib.hid (Cd.later HZ.out hbg)
    replace L13 := Lib.hid (L13.out.later hbg)
    replace HW := Lib.hid (Cd.later HW.out hbg)
    replace L15 := Lib.hid (L15.out.later hbg)
    replace HY := Lib.hid (Cd.later HY.out hbg)
    have L18 := Lib.hid (Loc3.of rg)
    clear hbg zg rg
    have HE := Lib.hid (spec_eqdb _ _ _ _ _ _ W21 HZ.out HW.out)
    rw [decide_eq_true rfl] at HE
    refine (HE.out).mono ?_
    rintro e W22 ⟨rfl, hbx⟩
    replace HB := Lib.hid (below_then HB.out hbx)
    replace HT := Lib.hid (Cd.later HT.out hbx)
    replace L4 := Lib.hid (L4.out.later hbx)
    replace HD3 := Lib.hid (Cd.later HD3.out hbx)
    replace HU3 := Lib.hid (Cd.later HU3.out hbx)
    replace L11 := Lib.hid (L11.out.later hbx)
    replace HZ := Lib.hid (Cd.later HZ.out hbx)
    replace L13 := Lib.hid (L13.out.later hbx)
    replace HW := Lib.hid (Cd.later HW.out hbx)
    replace L15 := Lib.hid (L15.out.later hbx)
    replace HY := Lib.hid (Cd.later HY.out hbx)
    replace L18 := Lib.hid (L18.out.later hbx)
    clear hbx
    clear HE
    have y0a := L4.out.c0
    have y0b := L4.out.c1
    have y0c := L4.out.c2
    have y0d := L4.out.lt
    have y1a := L13.out.c0
    have y1d := L13.out.lt
    have y2a := L15.out.c0
    have y2d := L15.out.lt
    go_wp2_with fail
    clear y0a y0b y0c y0d y1a y1d y2a y2d
    refine (HSF.out W22 HT.out).mono ?_
    rintro e W23 ⟨rfl, hbx⟩
    replace HB := Lib.hid (below_then HB.out hbx)
    replace HT := Lib.hid (Cd.later HT.out hbx)
    replace L4 := Lib.hid (L4.out.later hbx)
    replace HD3 := Lib.hid (Cd.later HD3.out hbx)
    replace HU3 := Lib.hid (Cd.later HU3.out hbx)
    replace L11 := Lib.hid (L11.out.later hbx)
    replace HZ := Lib.hid (Cd.later HZ.out hbx)
    replace L13 := Lib.hid (L13.out.later hbx)
    replace HW := Lib.hid (Cd.later HW.out hbx)
    replace L15 := Lib.hid (L15.out.later hbx)
    replace HY := Lib.hid (Cd.later HY.out hbx)
    replace L18 := Lib.hid (L18.out.later hbx)
    clear hbx
    have y0a := L4.out.c0
    have y0b := L4.out.c1
    have y0c := L4.out.c2
    have y0d := L4.out.lt
    have y1a := L18.out.c0
    have y1b := L18.out.c1
    have y1c := L18.out.c2
    have y1d := L18.out.lt
    have y2a := L13.out.c0
    have y2d := L13.out.lt
    have y3a := L15.out.c0
    have y3d := L15.out.lt
    go_wp2_with fail
    clear y0a y0b y0c y0d y1a y1b y1c y1d y2a y2d y3a y3d
    go_ret
    exact ⟨rfl, HB.out⟩
  case true =>
    obtain ⟨g1, g2, g3, g4, g5⟩ := HPF.out.2 huk
    have HP2 := Lib.hid (show ∀ w', Calls Tryz.prog 15 #[.string fs] w' fun e w'' => ∃ u' fp, e = .returned (.tuple #[.agg #[.string nm, .bool b, u'], .bool true]) ∧ rowC.ow w'' w'.heap.size [u'] row fp ∧ fp.Nodup ∧ Below w'.heap.size w' w'' from fun w' => by
      have h := HP.out w'
      unfold UpdParse.UAns at h
      rw [g2, g3, g4, g5] at h
      simpa using h)
    have gne2 : (fs.toList == []) = false := by have := eqB fs ⟨#[]⟩; rw [list0] at this; rw [this]; exact decide_eq_false g1
    have gne3 : fs.toList ≠ [] := by intro q; rw [q] at gne2; simp at gne2
    clear g2 g3 g4 g5
    clear HP HPF HSZ huk
    refine (HP2.out W19).mono ?_
    rintro e W24 ⟨uy, fy, rfl, hyo, _, hbx⟩
    replace HB := Lib.hid (below_then HB.out hbx)
    replace HT := Lib.hid (Cd.later HT.out hbx)
    replace L4 := Lib.hid (L4.out.later hbx)
    replace HD3 := Lib.hid (Cd.later HD3.out hbx)
    replace HU3 := Lib.hid (Cd.later HU3.out hbx)
    replace L11 := Lib.hid (L11.out.later hbx)
    replace HZ := Lib.hid (Cd.later HZ.out hbx)
    replace L13 := Lib.hid (L13.out.later hbx)
    replace HW := Lib.hid (Cd.later HW.out hbx)
    replace L15 := Lib.hid (L15.out.later hbx)
    clear hbx
    obtain ⟨ay, cy, rfl⟩ := Cd.ow_slice hyo
    have HY := Lib.hid (Cd.reads hyo)
    clear hyo HP2
    have y0a := L13.out.c0
    have y0d := L13.out.lt
    have y1a := L15.out.c0
    have y1d := L15.out.lt
    go_wp2_with fail
    clear y0a y0d y1a y1d
    generalize hg : World.alloc W24 _ = W25
    obtain ⟨rg, zg, hbg⟩ := start1 W24 _ hg
    clear hg
    replace HB := Lib.hid (below_then HB.out hbg)
    replace HT := Lib.hid (Cd.later HT.out hbg)
    replace L4 := Lib.hid (L4.out.later hbg)
    replace HD3 := Lib.hid (Cd.later HD3.out hbg)
    replace HU3 := Lib.hid (Cd.later HU3.out hbg)
    replace L11 := Lib.hid (L11.out.later hbg)
    replace HZ := Lib.hid (Cd.later HZ.out hbg)
    replace L13 := Lib.hid (L13.out.later hbg)
    replace HW := Lib.hid (Cd.later HW.out hbg)
    replace L15 := Lib.hid (L15.out.later hbg)
    replace HY := Lib.hid (Cd.later HY.out hbg)
    have L18 := Lib.hid (Loc3.of rg)
    clear hbg zg rg
    have HE := Lib.hid (spec_eqdb _ _ _ _ _ _ W25 HZ.out HW.out)
    rw [decide_eq_true rfl] at HE
    refine (HE.out).mono ?_
    rintro e W26 ⟨rfl, hbx⟩
    replace HB := Lib.hid (below_then HB.out hbx)
    replace HT := Lib.hid (Cd.later HT.out hbx)
    replace L4 := Lib.hid (L4.out.later hbx)
    replace HD3 := Lib.hid (Cd.later HD3.out hbx)
    replace HU3 := Lib.hid (Cd.later HU3.out hbx)
    replace L11 := Lib.hid (L11.out.later hbx)
    replace HZ := Lib.hid (Cd.later HZ.out hbx)
    replace L13 := Lib.hid (L13.out.later hbx)
    replace HW := Lib.hid (Cd.later HW.out hbx)
    replace L15 := Lib.hid (L15.out.later hbx)
    replace HY := Lib.hid (Cd.later HY.out hbx)
    replace L18 := Lib.hid (L18.out.later hbx)
    clear hbx
    clear HE
    have y0a := L4.out.c0
    have y0b := L4.out.c1
    have y0c := L4.out.c2
    have y0d := L4.out.lt
    have y1a := L13.out.c0
    have y1d := L13.out.lt
    have y2a := L15.out.c0
    have y2d := L15.out.lt
    go_wp2_with fail
    clear y0a y0b y0c y0d y1a y1d y2a y2d
    refine (HSF.out W26 HT.out).mono ?_
    rintro e W27 ⟨rfl, hbx⟩
    replace HB := Lib.hid (below_then HB.out hbx)
    replace HT := Lib.hid (Cd.later HT.out hbx)
    replace L4 := Lib.hid (L4.out.later hbx)
    replace HD3 := Lib.hid (Cd.later HD3.out hbx)
    replace HU3 := Lib.hid (Cd.later HU3.out hbx)
    replace L11 := Lib.hid (L11.out.later hbx)
    replace HZ := Lib.hid (Cd.later HZ.out hbx)
    replace L13 := Lib.hid (L13.out.later hbx)
    replace HW := Lib.hid (Cd.later HW.out hbx)
    replace L15 := Lib.hid (L15.out.later hbx)
    replace HY := Lib.hid (Cd.later HY.out hbx)
    replace L18 := Lib.hid (L18.out.later hbx)
    clear hbx
    have y0a := L4.out.c0
    have y0b := L4.out.c1
    have y0c := L4.out.c2
    have y0d := L4.out.lt
    have y1a := L18.out.c0
    have y1b := L18.out.c1
    have y1c := L18.out.c2
    have y1d := L18.out.lt
    have y2a := L13.out.c0
    have y2d := L13.out.lt
    have y3a := L15.out.c0
    have y3d := L15.out.lt
    go_wp2_with fail
    clear y0a y0b y0c y0d y1a y1b y1c y1d y2a y2d y3a y3d
    have HE := Lib.hid (UpdOps.impl_equal nm nm b b _ _ row row _ _ W27 HY.out HT.out)
    rw [same_self] at HE
    refine (HE.out).mono ?_
    rintro e W28 ⟨rfl, hbx⟩
    replace HB := Lib.hid (below_then HB.out hbx)
    replace HT := Lib.hid (Cd.later HT.out hbx)
    replace L4 := Lib.hid (L4.out.later hbx)
    replace HD3 := Lib.hid (Cd.later HD3.out hbx)
    replace HU3 := Lib.hid (Cd.later HU3.out hbx)
    replace L11 := Lib.hid (L11.out.later hbx)
    replace HZ := Lib.hid (Cd.later HZ.out hbx)
    replace L13 := Lib.hid (L13.out.later hbx)
    replace HW := Lib.hid (Cd.later HW.out hbx)
    replace L15 := Lib.hid (L15.out.later hbx)
    replace HY := Lib.hid (Cd.later HY.out hbx)
    replace L18 := Lib.hid (L18.out.later hbx)
    clear hbx
    have y0a := L4.out.c0
    have y0b := L4.out.c1
    have y0c := L4.out.c2
    have y0d := L4.out.lt
    have y1a := L18.out.c0
    have y1b := L18.out.c1
    have y1c := L18.out.c2
    have y1d := L18.out.lt
    have y2a := L13.out.c0
    have y2d := L13.out.lt
    have y3a := L15.out.c0
    have y3d := L15.out.lt
    go_wp2_with fail
    clear y0a y0b y0c y0d y1a y1b y1c y1d y2a y2d y3a y3d
    go_ret
    exact ⟨rfl, HB.out⟩
end Go.Proofs.YtmifnbplkaonaaaGreat.UpdWalk
