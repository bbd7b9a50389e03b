/- Texts that the proof rests on, one behind the other. -/
import Derived.Test.YtdkhgeknjekkoaaGreatMg6Reference
import Derived.Test.YtdkhgeknjekkoaaGreatMg10Reference
import Derived.Test.YtdkhgeknjekkoaaGreatMg11Reference
import Derived.Test.YtdkhgeknjekkoaaGreatMg2Reference
import Derived.Deep.DeepCutAuto

namespace Go.Proofs.YtdkhgeknjekkoaaGreat.RefWalk
open Go Go.RowKit Byt Ints IntsLaw Draw Cd Rows2 Tab TabSpec Exact Atom QryMath QrySpec QryImp MkAtom SlMath TabOpen TabElem QgMath QgSpec QgImp AnsC AnsQ AnsEv AnsValid AnsFmt AnsDraw AnsFact Db DbMath DbSpec DbExact QryFor
open DbDraw (OkD)
open QryDraw (OkQ)
open QgDraw (reads_up)

theorem wt_drawn : ∀ (l : List T3), (∀ T ∈ l, OkD T) → SlTable.wtS l ≤ 100 * l.length
  | [], _ => by simp [SlTable.wtS, SlMath.sumN]
  | T :: l, h => by
    have h1 := wt_drawn l fun x hx => h x (List.mem_cons.2 (.inr hx))
    have h2 := h T (List.mem_cons.2 (.inl rfl))
    have h3 : TabElem.wtT T ≤ 34 := by
      have a := h2.1
      have b := h2.2.2
      unfold TabElem.wtT tabWt
      omega
    unfold SlTable.wtS at *
    rw [SlMath.sumN_cons, List.length_cons]
    omega
def Any (_ : Nat) : Prop := True
/-- The drawn database and query, in their cells. -/
structure RS (w : World) (X Y : Nat) (u : Value) (Ts : List T3) (n : Int) (u2 : Value) (L : List A2) (W : World) : Prop where
  d : DbExact.Loc1 W X u
  q : Atom.Loc2 W Y (.int .i64 n) u2
  td : tabsC.rd W Any [u] Ts
  tq : atomsC.rd W Any [u2] L
  bl : Below w.heap.size w W
/-- An answer in its cells. -/
structure RA (X : Nat) (a b : Value) (V : List Int) (R : List (List Int)) (W : World) : Prop where
  l : Atom.Loc2 W X a b
  rd : ansC.rd W Any [a, b] (V, R)
theorem RS.later {w W W' : World} {X Y : Nat} {u : Value} {Ts : List T3} {n : Int} {u2 : Value} {L : List A2} (h : RS w X Y u Ts n u2 L W) (hb : Below W.heap.size W W') : RS w X Y u Ts n u2 L W' :=
  ⟨h.d.later hb, h.q.later hb, Cd.later h.td hb, Cd.later h.tq hb, below_then h.bl hb⟩
theorem RA.later {W W' : World} {X : Nat} {a b : Value} {V : List Int} {R : List (List Int)} (h : RA X a b V R W) (hb : Below W.heap.size W W') : RA X a b V R W' :=
  ⟨h.l.later hb, Cd.later h.rd hb⟩
theorem RA.of {W W' : World} {a b : Value} {V : List Int} {R : List (List Int)} {base : Nat} {fp : List Nat} {e : TypeId} (h : ansC.ow W base [a, b] (V, R) fp) (hw : W' = W.alloc (.cells #[a, b] e (0, 0))) : RA W.heap.size a b V R W' := by
  subst hw
  exact ⟨Atom.Loc2.of (row_alloc W _), ansC.mono (Cd.later (ansC.ow_rd h) (below_alloc W _)) fun _ _ _ => trivial⟩
theorem eq_self {w : World} {S1 S2 : Nat → Prop} {u1 u2 v1 v2 : Value} {V : List Int} {R : List (List Int)} (h1 : ansC.rd w S1 [u1, u2] (V, R)) (h2 : ansC.rd w S2 [v1, v2] (V, R)) :
    Calls Tryz.prog 12 #[.agg #[u1, u2], .agg #[v1, v2]] w fun e w' => e = .returned (.bool true) ∧ Below w.heap.size w w' := by
  have h := impl_equalans u1 u2 v1 v2 V V R R S1 S2 w h1 h2
  rw [same_self] at h
  exact h
theorem valid_self {w : World} {S1 : Nat → Prop} {u1 u2 : Value} {V : List Int} {R : List (List Int)} (h : ansOk V R = true) (h1 : ansC.rd w S1 [u1, u2] (V, R)) :
    Calls Tryz.prog 15 #[.agg #[u1, u2]] w fun e w' => e = .returned (.bool true) ∧ Below w.heap.size w w' := by
  have h := impl_validans u1 u2 V R S1 w h1
  rw [‹ansOk V R = true›] at h
  exact h
theorem maL_len (m : Int) : (maL m).length ≤ 4 := by
  unfold maL
  split
  · exact varsL_len _
  · simp
theorem bd_drew (W : World) : Below W.heap.size W W.drew := ⟨rfl, rfl, rfl, Nat.le_refl _, fun _ _ => rfl⟩
theorem same_rd (v1 v2 : Value) (l : List Int) (S1 S2 : Nat → Prop) (w : World) (h1 : rowC.rd w S1 [v1] l) (h2 : rowC.rd w S2 [v2] l) :
    Calls Tryz.prog 23 #[v1, v2] w fun e w' => e = .returned (.bool true) ∧ Below w.heap.size w w' := by
  refine (same_ints v1 v2 l l _ w (row_ri h1).1 (row_ri h2).1 (Nat.le_refl _)).mono ?_
  rintro e w' ⟨rfl, hb⟩
  exact ⟨by rw [decide_eq_true rfl], hb⟩

set_option maxRecDepth 100000 in
set_option maxHeartbeats 6400000 in
theorem walk (v : Value) (l : List UInt8) (w : World) (hr : Reads w v l w.heap.size) :
    Calls Tryz.prog 3 #[v] w fun e w' => e = .returned (.bool true) ∧ Below w.heap.size w w' := by
  by_cases hbig : 1048576 < l.length
  · go_enter Tryz.func3, Tryz.ntmps3
    go_wp2_with fail
    refine (big_any v l w.heap.size w hr).mono ?_
    rintro e w1 ⟨rfl, rfl⟩
    rw [decide_eq_true hbig]
    go_wp2_with fail
    go_ret
    exact ⟨rfl, Below.refl _ _⟩
  have HBIG := Lib.hid (big_any v l w.heap.size w hr)
  have HD1 := Lib.hid (draw_eval v l w hr)
  clear hr
  go_enter Tryz.func3, Tryz.ntmps3
  go_wp2_with fail
  refine HBIG.out.mono ?_
  rintro e w1 ⟨rfl, rfl⟩
  rw [decide_eq_false hbig]
  clear hbig HBIG
  go_wp2_with fail
  refine HD1.out.mono ?_
  rintro e W1 ⟨u, Ts, n, u2, L, m, rfl, hrd, hrq, hlen, hok, hn, hoq, hb1⟩
  obtain ⟨ad, cd, rfl, _⟩ := Cd.sl_form hrd
  obtain ⟨al, cl, rfl, _⟩ := Cd.sl_form hrq
  have HWT := Lib.hid (show SlTable.wtS Ts ≤ 1048577 by have := wt_drawn Ts hok; omega)
  have HSZ := Lib.hid (show ∀ A ∈ L, A.1.size ≤ 1048576 from fun A hA => by have := (hoq.2.2 A hA).1; omega)
  have HS := Lib.hid (show ∀ W A1 A2, A1 = Obj.cells #[.slice ad Ts.length cd] 26 (0, 0) → A2 = Obj.cells #[.int .i64 n, .slice al L.length cl] 29 (0, 0) → W = (W1.alloc A1).alloc A2 → RS w W1.heap.size (W1.heap.size + 1) (.slice ad Ts.length cd) Ts n (.slice al L.length cl) L W from by
    rintro W A1 A2 rfl rfl rfl
    obtain ⟨p0, p1, pz, pb⟩ := start2g W1 _ _ (rfl : (W1.alloc (.cells #[.slice ad Ts.length cd] 26 (0, 0))).alloc (.cells #[.int .i64 n, .slice al L.length cl] 29 (0, 0)) = _)
    exact ⟨DbExact.Loc1.of p0, Atom.Loc2.of p1, tabsC.mono (Cd.later hrd pb) (fun _ _ _ => trivial), atomsC.mono (Cd.later hrq pb) (fun _ _ _ => trivial), below_then hb1 pb⟩)
  clear hrd hrq hlen hok hn hoq hb1 HD1
  go_wp2_with fail
  replace HS := Lib.hid (HS.out _ _ _ rfl rfl rfl)
  generalize (W1.alloc _).alloc _ = W2 at *
  generalize hX : W1.heap.size = X at *
  clear hX
  have z0 := HS.out.d.c0
  have z1 := HS.out.q.c0
  have z2 := HS.out.q.c1
  go_wp2_with fail
  refine (impl_eval (.slice ad Ts.length cd) (.slice al L.length cl) Ts n m L _ _ W2 HS.out.td HS.out.tq HWT.out HSZ.out).mono ?_
  rintro e W3 ⟨a1, a2, fp, rfl, hoa, _, hbx⟩
  obtain ⟨ga, gc, gb, gd, rfl, rfl⟩ := ans_shape hoa
  have hA := below_alloc W3 (.cells #[.slice ga (evV Ts n L m).length gc, .slice gb (evR Ts n L m).length gd] 35 (0, 0))
  replace HS := Lib.hid ((HS.out.later hbx).later hA)
  have HG := Lib.hid (RA.of (e := 35) hoa rfl)
  clear z0 z1 z2 hoa hbx hA
  have z0 := HS.out.d.c0
  have z1 := HS.out.q.c0
  have z2 := HS.out.q.c1
  go_wp2_with fail
  generalize W3.alloc _ = W4 at *
  generalize W3.heap.size = XA at *
  clear z0 z1 z2
  have z0 := HS.out.d.c0
  have z1 := HS.out.q.c0
  have z2 := HS.out.q.c1
  go_wp2_with fail
  refine (spec_eval (.slice ad Ts.length cd) (.slice al L.length cl) Ts n m L _ _ W4 HS.out.td HS.out.tq HWT.out).mono ?_
  rintro e W5 ⟨a1, a2, fp, rfl, hoa, _, hbx⟩
  obtain ⟨ra, rc, rb, rd, rfl, rfl⟩ := ans_shape hoa
  have hA := below_alloc W5 (.cells #[.slice ra (evV Ts n L m).length rc, .slice rb (evR Ts n L m).length rd] 35 (0, 0))
  replace HS := Lib.hid ((HS.out.later hbx).later hA)
  replace HG := Lib.hid ((HG.out.later hbx).later hA)
  have HR := Lib.hid (RA.of (e := 35) hoa rfl)
  clear z0 z1 z2 hoa hbx hA
  have z0 := HS.out.d.c0
  have z1 := HS.out.q.c0
  have z2 := HS.out.q.c1
  go_wp2_with fail
  generalize W5.alloc _ = W6 at *
  generalize W5.heap.size = XX at *
  clear z0 z1 z2
  have HK0 := Lib.hid (bd_drew W6)
  have z0 := HS.out.d.c0
  have z1 := HS.out.q.c0
  have z2 := HS.out.q.c1
  have z3 := HG.out.l.c0
  have z4 := HG.out.l.c1
  have z5 := HR.out.l.c0
  have z6 := HR.out.l.c1
  refine wp_region_held_drew (S := fun wx => wx.cell? ⟨X, 0, none⟩ = some (.slice ad Ts.length cd) ∧ wx.cell? ⟨X + 1, 0, none⟩ = some (.int .i64 n) ∧ wx.cell? ⟨X + 1, 1, none⟩ = some (.slice al L.length cl) ∧ wx.cell? ⟨XA, 0, none⟩ = some (.slice ga (evV Ts n L m).length gc) ∧ wx.cell? ⟨XA, 1, none⟩ = some (.slice gb (evR Ts n L m).length gd) ∧ wx.cell? ⟨XX, 0, none⟩ = some (.slice ra (evV Ts n L m).length rc) ∧ wx.cell? ⟨XX, 1, none⟩ = some (.slice rb (evR Ts n L m).length rd)) (by kernel_rfl) ?_ (fun hHeld => ?_)
  · (refine ⟨?_, ?_, ?_, ?_, ?_, ?_, ?_⟩ <;> first | assumption | (simp [*]; done))
  refine RegH.takeH (i := 0) (v := ?_) rfl (by kernel_rfl) (by kernel_rfl) (by kernel_rfl) (fun _ _ _ h => h) (Or.inl ⟨by rfl, ?_⟩) (by assumption) ?_
  rotate_left
  · (intro wS hSw; (try dsimp only at hSw); go_simp; try (with_reducible rfl))
  try simp only [Act.put, List.setIfInBounds_toArray, List.set_cons_zero, List.set_cons_succ]
  refine RegH.takeH (i := 1) (v := ?_) rfl (by kernel_rfl) (by kernel_rfl) (by kernel_rfl) (fun _ _ _ h => h) (Or.inl ⟨by rfl, ?_⟩) (by assumption) ?_
  rotate_left
  · (intro wS hSw; (try dsimp only at hSw); go_simp; try (with_reducible rfl))
  try simp only [Act.put, List.setIfInBounds_toArray, List.set_cons_zero, List.set_cons_succ]
  refine RegH.takeH (i := 2) (v := ?_) rfl (by kernel_rfl) (by kernel_rfl) (by kernel_rfl) (fun _ _ _ h => h) (Or.inl ⟨by rfl, ?_⟩) (by assumption) ?_
  rotate_left
  · (intro wS hSw; (try dsimp only at hSw); go_simp; try (with_reducible rfl))
  try simp only [Act.put, List.setIfInBounds_toArray, List.set_cons_zero, List.set_cons_succ]
  refine RegH.takeH (i := 3) (v := ?_) rfl (by kernel_rfl) (by kernel_rfl) (by kernel_rfl) (fun _ _ _ h => h) (Or.inl ⟨by rfl, ?_⟩) (by assumption) ?_
  rotate_left
  · (intro wS hSw; (try dsimp only at hSw); go_simp; try (with_reducible rfl))
  try simp only [Act.put, List.setIfInBounds_toArray, List.set_cons_zero, List.set_cons_succ]
  refine RegH.takeH (i := 4) (v := ?_) rfl (by kernel_rfl) (by kernel_rfl) (by kernel_rfl) (fun _ _ _ h => h) (Or.inl ⟨by rfl, ?_⟩) (by assumption) ?_
  rotate_left
  · (intro wS hSw; (try dsimp only at hSw); go_simp; try (with_reducible rfl))
  try simp only [Act.put, List.setIfInBounds_toArray, List.set_cons_zero, List.set_cons_succ]
  refine RegH.takeH (i := 5) (v := ?_) rfl (by kernel_rfl) (by kernel_rfl) (by kernel_rfl) (fun _ _ _ h => h) (Or.inl ⟨by rfl, ?_⟩) (by assumption) ?_
  rotate_left
  · (intro wS hSw; (try dsimp only at hSw); go_simp; try (with_reducible rfl))
  try simp only [Act.put, List.setIfInBounds_toArray, List.set_cons_zero, List.set_cons_succ]
  refine RegH.consH (i := 6) rfl (by kernel_rfl) (fun K hK => ?_)
  go_simp
  go_at_call 12
  refine (eq_self (HG.out.later HK0.out).rd (HR.out.later HK0.out).rd).mono ?_
  rintro e qW61 ⟨rfl, hbx⟩
  have HK1 := Lib.hid (below_then HK0.out hbx)
  have y1c0 := (HS.out.later HK1.out).d.c0
  have y1c1 := (HS.out.later HK1.out).q.c0
  have y1c2 := (HS.out.later HK1.out).q.c1
  have y1c3 := (HG.out.later HK1.out).l.c0
  have y1c4 := (HG.out.later HK1.out).l.c1
  have y1c5 := (HR.out.later HK1.out).l.c0
  have y1c6 := (HR.out.later HK1.out).l.c1
  clear hbx
  go_wp2_with fail
  refine hK.out _ _ ?_ (fun hHeld => ?_)
  · (refine ⟨?_, ?_, ?_, ?_, ?_, ?_, ?_⟩ <;> first | assumption | (simp [*]; done))
  clear hK K
  try simp only [Act.put, List.setIfInBounds_toArray, List.set_cons_zero, List.set_cons_succ]
  refine RegH.takeH (i := 7) (v := ?_) rfl (by kernel_rfl) (by kernel_rfl) (by kernel_rfl) (fun _ _ _ h => h) (Or.inl ⟨by rfl, ?_⟩) (by assumption) ?_
  rotate_left
  · (intro wS hSw; (try dsimp only at hSw); go_simp; try (with_reducible rfl))
  try simp only [Act.put, List.setIfInBounds_toArray, List.set_cons_zero, List.set_cons_succ]
  refine RegH.takeH (i := 8) (v := ?_) rfl (by kernel_rfl) (by kernel_rfl) (by kernel_rfl) (fun _ _ _ h => h) (Or.inl ⟨by rfl, ?_⟩) (by assumption) ?_
  rotate_left
  · (intro wS hSw; (try dsimp only at hSw); go_simp; try (with_reducible rfl))
  try simp only [Act.put, List.setIfInBounds_toArray, List.set_cons_zero, List.set_cons_succ]
  refine RegH.takeH (i := 9) (v := ?_) rfl (by kernel_rfl) (by kernel_rfl) (by kernel_rfl) (fun _ _ _ h => h) (Or.inl ⟨by rfl, ?_⟩) (by assumption) ?_
  rotate_left
  · (intro wS hSw; (try dsimp only at hSw); go_simp; try (with_reducible rfl))
  try simp only [Act.put, List.setIfInBounds_toArray, List.set_cons_zero, List.set_cons_succ]
  refine RegH.takeH (i := 10) (v := ?_) rfl (by kernel_rfl) (by kernel_rfl) (by kernel_rfl) (fun _ _ _ h => h) (Or.inl ⟨by rfl, ?_⟩) (by assumption) ?_
  rotate_left
  · (intro wS hSw; (try dsimp only at hSw); go_simp; try (with_reducible rfl))
  try simp only [Act.put, List.setIfInBounds_toArray, List.set_cons_zero, List.set_cons_succ]
  refine RegH.takeH (i := 11) (v := ?_) rfl (by kernel_rfl) (by kernel_rfl) (by kernel_rfl) (fun _ _ _ h => h) (Or.inl ⟨by rfl, ?_⟩) (by assumption) ?_
  rotate_left
  · (intro wS hSw; (try dsimp only at hSw); go_simp; try (with_reducible rfl))
  try simp only [Act.put, List.setIfInBounds_toArray, List.set_cons_zero, List.set_cons_succ]
  refine RegH.takeH (i := 12) (v := ?_) rfl (by kernel_rfl) (by kernel_rfl) (by kernel_rfl) (fun _ _ _ h => h) (Or.inl ⟨by rfl, ?_⟩) (by assumption) ?_
  rotate_left
  · (intro wS hSw; (try dsimp only at hSw); go_simp; try (with_reducible rfl))
  try simp only [Act.put, List.setIfInBounds_toArray, List.set_cons_zero, List.set_cons_succ]
  refine RegH.takeH (i := 14) (v := ?_) rfl (by kernel_rfl) (by kernel_rfl) (by kernel_rfl) (fun _ _ _ h => h) (Or.inl ⟨by rfl, ?_⟩) (by assumption) ?_
  rotate_left
  · (intro wS hSw; (try dsimp only at hSw); go_simp; try (with_reducible rfl))
  try simp only [Act.put, List.setIfInBounds_toArray, List.set_cons_zero, List.set_cons_succ]
  refine RegH.takeH (i := 15) (v := ?_) rfl (by kernel_rfl) (by kernel_rfl) (by kernel_rfl) (fun _ _ _ h => h) (Or.inl ⟨by rfl, ?_⟩) (by assumption) ?_
  rotate_left
  · (intro wS hSw; (try dsimp only at hSw); go_simp; try (with_reducible rfl))
  try simp only [Act.put, List.setIfInBounds_toArray, List.set_cons_zero, List.set_cons_succ]
  refine RegH.takeH (i := 16) (v := ?_) rfl (by kernel_rfl) (by kernel_rfl) (by kernel_rfl) (fun _ _ _ h => h) (Or.inl ⟨by rfl, ?_⟩) (by assumption) ?_
  rotate_left
  · (intro wS hSw; (try dsimp only at hSw); go_simp; try (with_reducible rfl))
  try simp only [Act.put, List.setIfInBounds_toArray, List.set_cons_zero, List.set_cons_succ]
  refine RegH.consH (i := 13) rfl (by kernel_rfl) (fun K hK => ?_)
  go_simp
  go_at_call 13
  refine (impl_sub (.slice ad Ts.length cd) (.slice al L.length cl) Ts n m L _ _ qW61 (HS.out.later HK1.out).td (HS.out.later HK1.out).tq HWT.out HSZ.out).mono ?_
  rintro e qW62 ⟨rfl, hbx⟩
  have HK2 := Lib.hid (below_then HK1.out hbx)
  have y2c0 := (HS.out.later HK2.out).d.c0
  have y2c1 := (HS.out.later HK2.out).q.c0
  have y2c2 := (HS.out.later HK2.out).q.c1
  have y2c3 := (HG.out.later HK2.out).l.c0
  have y2c4 := (HG.out.later HK2.out).l.c1
  have y2c5 := (HR.out.later HK2.out).l.c0
  have y2c6 := (HR.out.later HK2.out).l.c1
  clear hbx
  go_wp2_with fail
  refine hK.out _ _ ?_ (fun hHeld => ?_)
  · (refine ⟨?_, ?_, ?_, ?_, ?_, ?_, ?_⟩ <;> first | assumption | (simp [*]; done))
  clear hK K
  try simp only [Act.put, List.setIfInBounds_toArray, List.set_cons_zero, List.set_cons_succ]
  refine RegH.consH (i := 17) rfl (by kernel_rfl) (fun K hK => ?_)
  go_simp
  go_at_call 14
  refine (spec_sub (.slice ad Ts.length cd) (.slice al L.length cl) Ts n m L _ _ qW62 (HS.out.later HK2.out).td (HS.out.later HK2.out).tq HWT.out).mono ?_
  rintro e qW63 ⟨rfl, hbx⟩
  have HK3 := Lib.hid (below_then HK2.out hbx)
  have y3c0 := (HS.out.later HK3.out).d.c0
  have y3c1 := (HS.out.later HK3.out).q.c0
  have y3c2 := (HS.out.later HK3.out).q.c1
  have y3c3 := (HG.out.later HK3.out).l.c0
  have y3c4 := (HG.out.later HK3.out).l.c1
  have y3c5 := (HR.out.later HK3.out).l.c0
  have y3c6 := (HR.out.later HK3.out).l.c1
  clear hbx
  go_wp2_with fail
  refine hK.out _ _ ?_ (fun hHeld => ?_)
  · (refine ⟨?_, ?_, ?_, ?_, ?_, ?_, ?_⟩ <;> first | assumption | (simp [*]; done))
  clear hK K
  try simp only [Act.put, List.setIfInBounds_toArray, List.set_cons_zero, List.set_cons_succ]
  refine RegH.takeH (i := 18) (v := ?_) rfl (by kernel_rfl) (by kernel_rfl) (by kernel_rfl) (fun _ _ _ h => h) (Or.inl ⟨by rfl, ?_⟩) (by assumption) ?_
  rotate_left
  · (intro wS hSw; (try dsimp only at hSw); go_simp; try (with_reducible rfl))
  try simp only [Act.put, List.setIfInBounds_toArray, List.set_cons_zero, List.set_cons_succ]
  refine RegH.takeH (i := 19) (v := ?_) rfl (by kernel_rfl) (by kernel_rfl) (by kernel_rfl) (fun _ _ _ h => h) (Or.inl ⟨by rfl, ?_⟩) (by assumption) ?_
  rotate_left
  · (intro wS hSw; (try dsimp only at hSw); go_simp; try (with_reducible rfl))
  try simp only [Act.put, List.setIfInBounds_toArray, List.set_cons_zero, List.set_cons_succ]
  refine wpAnyH_done (by kernel_rfl) ?_ _
  replace HS := Lib.hid (HS.out.later HK3.out)
  replace HG := Lib.hid (HG.out.later HK3.out)
  replace HR := Lib.hid (HR.out.later HK3.out)
  clear HK0 HK1 HK2 HK3 y1c0 y1c1 y1c2 y1c3 y1c4 y1c5 y1c6 y2c0 y2c1 y2c2 y2c3 y2c4 y2c5 y2c6 y3c0 y3c1 y3c2 y3c3 y3c4 y3c5 y3c6 z0 z1 z2 z3 z4 z5 z6 hHeld
  cases hev : evOk Ts n L m
  · have HSUB := Lib.hid (impl_sub (.slice ad Ts.length cd) (.slice al L.length cl) Ts n m L _ _ qW63 HS.out.td HS.out.tq HWT.out HSZ.out)
    rw [subN_no hev] at HSUB
    clear hev
    have z0 := HS.out.d.c0
    have z1 := HS.out.q.c0
    have z2 := HS.out.q.c1
    go_wp2_with fail
    refine HSUB.out.mono ?_
    rintro e w9 ⟨rfl, hbx⟩
    have HB := Lib.hid (below_then HS.out.bl hbx)
    clear hbx
    go_wp2_with fail
    go_ret
    exact ⟨rfl, HB.out⟩
  have HVAL := Lib.hid (ev_valid hev)
  have HWTA := Lib.hid (ev_wt Ts n m L)
  have HAT := Lib.hid (fun x (hx : x ∈ maL m) => ev_atom hev hx)
  have HFULL := Lib.hid (ev_full hev)
  have HRW := Lib.hid (fun r (hr : r ∈ evR Ts n L m) => (ev_row hr).1)
  have HV4 := Lib.hid (evV_len Ts n m L)
  clear hev
  generalize evV Ts n L m = V at *
  generalize evR Ts n L m = R at *
  have z3 := HG.out.l.c0
  have z4 := HG.out.l.c1
  have z5 := HR.out.l.c0
  have z6 := HR.out.l.c1
  go_wp2_with fail
  clear z3 z4 z5 z6
  have HFS := Lib.hid (fun w' (h : ansC.rd w' Any [.slice ra V.length rc, .slice rb R.length rd] (V, R)) => spec_fmtans _ _ V R _ w' h HWTA.out)
  have HFI := Lib.hid (fun w' (h : ansC.rd w' Any [.slice ga V.length gc, .slice gb R.length gd] (V, R)) => impl_fmtans _ _ V R _ w' h HWTA.out)
  generalize fmtA V R = FM at *
  have HK0 := Lib.hid (bd_drew qW63)
  have z0 := HG.out.l.c0
  have z1 := HG.out.l.c1
  have z2 := HR.out.l.c0
  have z3 := HR.out.l.c1
  refine wp_region_held_drew (S := fun wx => wx.cell? ⟨XA, 0, none⟩ = some (.slice ga V.length gc) ∧ wx.cell? ⟨XA, 1, none⟩ = some (.slice gb R.length gd) ∧ wx.cell? ⟨XX, 0, none⟩ = some (.slice ra V.length rc) ∧ wx.cell? ⟨XX, 1, none⟩ = some (.slice rb R.length rd)) (by kernel_rfl) ?_ (fun hHeld => ?_)
  · (refine ⟨?_, ?_, ?_, ?_⟩ <;> first | assumption | (simp [*]; done))
  refine RegH.takeH (i := 0) (v := ?_) rfl (by kernel_rfl) (by kernel_rfl) (by kernel_rfl) (fun _ _ _ h => h) (Or.inl ⟨by rfl, ?_⟩) (by assumption) ?_
  rotate_left
  · (intro wS hSw; (try dsimp only at hSw); go_simp; try (with_reducible rfl))
  try simp only [Act.put, List.setIfInBounds_toArray, List.set_cons_zero, List.set_cons_succ]
  refine RegH.consH (i := 1) rfl (by kernel_rfl) (fun K hK => ?_)
  go_simp
  go_at_call 15
  refine (valid_self HVAL.out (HG.out.later HK0.out).rd).mono ?_
  rintro e qqW631 ⟨rfl, hbx⟩
  have HK1 := Lib.hid (below_then HK0.out hbx)
  have y1c0 := (HG.out.later HK1.out).l.c0
  have y1c1 := (HG.out.later HK1.out).l.c1
  have y1c2 := (HR.out.later HK1.out).l.c0
  have y1c3 := (HR.out.later HK1.out).l.c1
  clear hbx
  go_wp2_with fail
  refine hK.out _ _ ?_ (fun hHeld => ?_)
  · (refine ⟨?_, ?_, ?_, ?_⟩ <;> first | assumption | (simp [*]; done))
  clear hK K
  try simp only [Act.put, List.setIfInBounds_toArray, List.set_cons_zero, List.set_cons_succ]
  refine RegH.takeH (i := 2) (v := ?_) rfl (by kernel_rfl) (by kernel_rfl) (by kernel_rfl) (fun _ _ _ h => h) (Or.inl ⟨by rfl, ?_⟩) (by assumption) ?_
  rotate_left
  · (intro wS hSw; (try dsimp only at hSw); go_simp; try (with_reducible rfl))
  try simp only [Act.put, List.setIfInBounds_toArray, List.set_cons_zero, List.set_cons_succ]
  refine RegH.takeH (i := 3) (v := ?_) rfl (by kernel_rfl) (by kernel_rfl) (by kernel_rfl) (fun _ _ _ h => h) (Or.inl ⟨by rfl, ?_⟩) (by assumption) ?_
  rotate_left
  · (intro wS hSw; (try dsimp only at hSw); go_simp; try (with_reducible rfl))
  try simp only [Act.put, List.setIfInBounds_toArray, List.set_cons_zero, List.set_cons_succ]
  refine RegH.takeH (i := 4) (v := ?_) rfl (by kernel_rfl) (by kernel_rfl) (by kernel_rfl) (fun _ _ _ h => h) (Or.inl ⟨by rfl, ?_⟩) (by assumption) ?_
  rotate_left
  · (intro wS hSw; (try dsimp only at hSw); go_simp; try (with_reducible rfl))
  try simp only [Act.put, List.setIfInBounds_toArray, List.set_cons_zero, List.set_cons_succ]
  refine RegH.takeH (i := 6) (v := ?_) rfl (by kernel_rfl) (by kernel_rfl) (by kernel_rfl) (fun _ _ _ h => h) (Or.inl ⟨by rfl, ?_⟩) (by assumption) ?_
  rotate_left
  · (intro wS hSw; (try dsimp only at hSw); go_simp; try (with_reducible rfl))
  try simp only [Act.put, List.setIfInBounds_toArray, List.set_cons_zero, List.set_cons_succ]
  refine RegH.consH (i := 5) rfl (by kernel_rfl) (fun K hK => ?_)
  go_simp
  go_at_call 16
  refine (HFI.out qqW631 (HG.out.later HK1.out).rd).mono ?_
  rintro e qqW632 ⟨rfl, hbx⟩
  have HK2 := Lib.hid (below_then HK1.out hbx)
  have y2c0 := (HG.out.later HK2.out).l.c0
  have y2c1 := (HG.out.later HK2.out).l.c1
  have y2c2 := (HR.out.later HK2.out).l.c0
  have y2c3 := (HR.out.later HK2.out).l.c1
  clear hbx
  go_wp2_with fail
  refine hK.out _ _ ?_ (fun hHeld => ?_)
  · (refine ⟨?_, ?_, ?_, ?_⟩ <;> first | assumption | (simp [*]; done))
  clear hK K
  try simp only [Act.put, List.setIfInBounds_toArray, List.set_cons_zero, List.set_cons_succ]
  refine RegH.consH (i := 7) rfl (by kernel_rfl) (fun K hK => ?_)
  go_simp
  go_at_call 17
  refine (HFS.out qqW632 (HR.out.later HK2.out).rd).mono ?_
  rintro e qqW633 ⟨rfl, hbx⟩
  have HK3 := Lib.hid (below_then HK2.out hbx)
  have y3c0 := (HG.out.later HK3.out).l.c0
  have y3c1 := (HG.out.later HK3.out).l.c1
  have y3c2 := (HR.out.later HK3.out).l.c0
  have y3c3 := (HR.out.later HK3.out).l.c1
  clear hbx
  go_wp2_with fail
  refine hK.out _ _ ?_ (fun hHeld => ?_)
  · (refine ⟨?_, ?_, ?_, ?_⟩ <;> first | assumption | (simp [*]; done))
  clear hK K
  try simp only [Act.put, List.setIfInBounds_toArray, List.set_cons_zero, List.set_cons_succ]
  refine RegH.takeH (i := 8) (v := ?_) rfl (by kernel_rfl) (by kernel_rfl) (by kernel_rfl) (fun _ _ _ h => h) (Or.inl ⟨by rfl, ?_⟩) (by assumption) ?_
  rotate_left
  · (intro wS hSw; (try dsimp only at hSw); go_simp; try (with_reducible rfl))
  try simp only [Act.put, List.setIfInBounds_toArray, List.set_cons_zero, List.set_cons_succ]
  refine RegH.takeH (i := 9) (v := ?_) rfl (by kernel_rfl) (by kernel_rfl) (by kernel_rfl) (fun _ _ _ h => h) (Or.inl ⟨by rfl, ?_⟩) (by assumption) ?_
  rotate_left
  · (intro wS hSw; (try dsimp only at hSw); go_simp; try (with_reducible rfl))
  try simp only [Act.put, List.setIfInBounds_toArray, List.set_cons_zero, List.set_cons_succ]
  refine wpAnyH_done (by kernel_rfl) ?_ _
  replace HS := Lib.hid (HS.out.later HK3.out)
  replace HG := Lib.hid (HG.out.later HK3.out)
  replace HR := Lib.hid (HR.out.later HK3.out)
  clear HK0 HK1 HK2 HK3 y1c0 y1c1 y1c2 y1c3 y2c0 y2c1 y2c2 y2c3 y3c0 y3c1 y3c2 y3c3 z0 z1 z2 z3 hHeld HFS HFI HVAL HWTA
  generalize qqW633 = W8 at *
  clear HR
  go_wp2_with fail
  refine (spec_maskatoms m W8).mono ?_
  rintro e W9 ⟨vl, fl, rfl, hol, _, hbx⟩
  obtain ⟨la, lc, rfl⟩ := Cd.ow_slice hol
  replace HS := Lib.hid (HS.out.later hbx)
  replace HG := Lib.hid (HG.out.later hbx)
  have HL := Lib.hid (show rowC.rd W9 Any [.slice la (maL m).length lc] (maL m) from rowC.mono (rowC.ow_rd hol) fun _ _ _ => trivial)
  have HML := Lib.hid (maL_len m)
  clear hol hbx
  generalize maL m = ML at *
  go_wp2_with fail
  go_loopw [11] (fun i wr => ∃ k : Nat, k ≤ R.length ∧ i = .int .i64 k ∧ Below W9.heap.size W9 wr) (fun i _ => R.length - (intOf i).toNat)
  case atStart => exact ⟨0, Nat.zero_le _, rfl, Below.refl _ _⟩
  case round =>
    obtain ⟨i, hi, rfl, hbr⟩ := hrel
    have HBW := Lib.hid hbr
    replace HS := Lib.hid (HS.out.later hbr)
    replace HG := Lib.hid (HG.out.later hbr)
    replace HL := Lib.hid (Cd.later HL.out hbr)
    clear hbr
    have z3 := HG.out.l.c0
    have z4 := HG.out.l.c1
    by_cases hlt : i < R.length
    case pos =>
      by_cases h20 : i < 20
      case pos =>
        have p1 : (i : Int) < (R.length : Int) := by omega
        have p2 : (i : Int) < 20 := by omega
        clear z3 z4
        have z3 := HG.out.l.c0
        have z4 := HG.out.l.c1
        go_wp2_with fail
        clear z3 z4
        go_loopw [12] (fun s wr2 => ∃ k : Nat, k ≤ ML.length ∧ s = .int .i64 k ∧ Below wr.heap.size wr wr2) (fun s _ => ML.length - (intOf s).toNat)
        case atStart => exact ⟨0, Nat.zero_le _, rfl, Below.refl _ _⟩
        case round =>
          obtain ⟨k, hk, rfl, hbr⟩ := hrel
          have HBK := Lib.hid hbr
          replace HBW := Lib.hid (below_then HBW.out hbr)
          replace HS := Lib.hid (HS.out.later hbr)
          replace HG := Lib.hid (HG.out.later hbr)
          replace HL := Lib.hid (Cd.later HL.out hbr)
          clear hbr
          by_cases hkl : k < ML.length
          case neg =>
            go_wp2_with fail
            go_roundw
            case rel => exact ⟨i + 1, by omega, by go_num, HBW.out⟩
            case measure => simp [intOf]; omega
          case pos =>
            have HKL := Lib.hid hkl
            have p7 : (k : Int) ≤ 4 := by have := HML.out; omega
            obtain ⟨v1, hxv, hv, hA3, hv4, hfac⟩ := HAT.out _ (List.getElem_mem hkl)
            obtain ⟨tr, hhas, htl, ht9, hcol⟩ := hfac R[i] (List.getElem_mem hlt)
            obtain ⟨lb, loff, lcap, e1, hlB, hlc⟩ := ri_at (row_ri HL.out).1 hkl
            injection e1 with e1 e2 e3
            subst e1 e3
            rw [hxv] at hlc
            obtain ⟨qb, qoff, qcap, ua, uc, e1, hqB, hq0, hq1, hqs, hua, hucap⟩ := atom_at2 HS.out.tq hv
            injection e1 with e1 e2 e3
            subst e1 e3
            have HLK0 := Lib.hid (fun w' (hb : Below wr.heap.size wr w') => spec_look (.slice ad Ts.length cd) Ts (L[v1]).1 _ w' (Cd.later HS.out.td hb) HWT.out)
            have HUA := Lib.hid hua
            have HQ0 := Lib.hid (And.intro hqB hq0)
            have HQ1 := Lib.hid (And.intro hqB hq1)
            have HLC := Lib.hid (And.intro hlB hlc)
            have HCOL := Lib.hid hcol
            have HHAS := Lib.hid hhas
            have HT9 := Lib.hid ht9
            have HTL := Lib.hid (And.intro htl hA3)
            have HVL := Lib.hid (And.intro hv hv4)
            clear hxv hfac hhas htl ht9 hcol hlc hq0 hq1 hqs hua hucap hA3 hlB hqB
            generalize hnm : (L[v1]).1 = nm at *
            generalize hvs : (L[v1]).2 = vs at *
            clear hnm hvs
            generalize hTT : lkT Ts nm = T at *
            have HLK := Lib.hid (fun w' (hq : LaterQ wr w') => (show Calls Tryz.prog 19 #[.agg #[.slice ad Ts.length cd], .string nm] w' fun e w'' => ∃ ta tc fp, e = .returned (.tuple #[.agg #[.string T.1, .int .i64 T.2.1, .slice ta T.2.2.length tc], .bool (lookL Ts nm).isSome]) ∧ rowsC.ow w'' w'.heap.size [.slice ta T.2.2.length tc] T.2.2 fp ∧ fp.Nodup ∧ Below w'.heap.size w' w'' from
              (HLK0.out w' hq).mono (by
                rintro e w'' ⟨tv, fp, rfl, how, hnd, hbq⟩
                rw [hTT] at how ⊢
                obtain ⟨ta, tc, rfl⟩ := Cd.ow_slice (c := rowC) how
                exact ⟨ta, tc, fp, rfl, how, hnd, hbq⟩)))
            clear HLK0 hTT
            generalize (lookL Ts nm).isSome = bo at *
            have p3 : (0 : Int) ≤ (k : Int) := by omega
            have p4 : (k : Int) < (ML.length : Int) := by omega
            have p5 : (0 : Int) ≤ (v1 : Int) := by omega
            have p6 : (v1 : Int) < (L.length : Int) := by have := HVL.out.1; omega
            have g0 := HS.out.d.c0
            have g1 := HS.out.q.c1
            have gl0 := HS.out.d.lt
            have gl1 := HS.out.q.lt
            have HSQ := Lib.hid (fun wx (h : LaterQ wr wx) => (show wx.cell? ⟨X, 0, none⟩ = some (.slice ad Ts.length cd) ∧ wx.cell? ⟨X + 1, 1, none⟩ = some (.slice (some ⟨qb, qoff, none⟩) L.length cl) ∧ wx.cell? ⟨lb, loff + k, none⟩ = some (.int .i64 (v1 : Int)) ∧ wx.cell? ⟨qb, qoff + v1 * 2, none⟩ = some (.string nm) ∧ LaterQ wr wx from
              ⟨(Below.cell h (p := ⟨X, 0, none⟩) gl0).trans g0, (Below.cell h (p := ⟨X + 1, 1, none⟩) gl1).trans g1, (Below.cell h (p := ⟨lb, loff + k, none⟩) HLC.out.1).trans HLC.out.2, (Below.cell h (p := ⟨qb, qoff + v1 * 2, none⟩) HQ0.out.1).trans HQ0.out.2, h⟩))
            clear g0 gl0 gl1 g1
            have g1 := HS.out.q.c1
            go_upto_region 19 with fail
            have kk : LaterQ wr wr.drew := (Below.refl _ wr).drew
            go_cut [13, 14] (fun s13 s14 wx => s14 = .bool bo ∧ MadeO wr T s13 wx)
            case first =>
              go_region_held3 (fun wx => wx.cell? ⟨X, 0, none⟩ = some (.slice ad Ts.length cd) ∧ wx.cell? ⟨X + 1, 1, none⟩ = some (.slice (some ⟨qb, qoff, none⟩) L.length cl) ∧ wx.cell? ⟨lb, loff + k, none⟩ = some (.int .i64 (v1 : Int)) ∧ wx.cell? ⟨qb, qoff + v1 * 2, none⟩ = some (.string nm) ∧ LaterQ wr wx)
                ((refine HSQ.out _ ?_; first | assumption | exact Below.drew (Below.refl _ wr) | exact later_alloc (by assumption) _ | exact later_drewA wr _ | exact later_set3 (by first | assumption | exact later_alloc (by assumption) _) (later_size (by first | assumption | exact Below.refl _ _))))
                (first | (go_at_call 19; refine (HLK.out _ (by first | assumption | exact later_alloc (by assumption) _ | exact later_drewA wr _)).mono ?_; rintro e wq ⟨ta, tc, fT, rfl, how, hnd, hbq⟩; (have kk : LaterQ wr wq := (show Below wr.heap.size wr wq by refine below_then (show LaterQ wr _ from ?_) hbq; first | assumption | exact later_alloc (by assumption) _ | exact later_drewA wr _)); (have HOW := Lib.hid (And.intro how hnd)); (first | (have GL := Lib.hid (GL.out.later hbq)) | (have GL := Lib.hid (locQ_new' hbq)) | (have GL := Lib.hid (locQ_new hbq)) | (have GL := Lib.hid (locQ_new3 hbq)) | skip); (first | (have x0 := GL.out.c0; have x1 := GL.out.c1; have x2 := GL.out.c2; have f0 := GL.out.f0; have f1 := GL.out.f1; have f2 := GL.out.f2) | skip); (have hS := HSQ.out wq kk); (have k0 := hS.1); (have k1 := hS.2.1); (have k2 := hS.2.2.1); (have k3 := hS.2.2.2.1); clear hbq how hnd hS))
              all_goals
                go_wp2_with fail
                go_meet
                refine ⟨rfl, ?_⟩
                first
                  | (have GG := GL.out; exact madeO (by assumption) (later_size (by first | assumption | exact Below.refl _ _)) GG HOW.out.1 HOW.out.2 (lt_alloc _ _))
                  | ((with_reducible refine madeO2 (by assumption) HOW.out.1 HOW.out.2 ?_); exact Nat.le_refl wr.heap.size)
            case rest =>
              obtain ⟨rfl, kp, ta, tc, fT, rfl, hkp, hl3, hoT, hnT, hlat⟩ := hcut
              replace HBK := Lib.hid (below_then HBK.out hlat)
              replace HBW := Lib.hid (below_then HBW.out hlat)
              replace HS := Lib.hid (HS.out.later hlat)
              replace HG := Lib.hid (HG.out.later hlat)
              replace HL := Lib.hid (Cd.later HL.out hlat)
              replace HUA := Lib.hid (Cd.later HUA.out hlat)
              have HZW := Lib.hid (Below.size hlat)
              replace HLC := Lib.hid (And.intro (Nat.lt_of_lt_of_le HLC.out.1 HZW.out) ((Below.cell hlat (p := ⟨lb, loff + k, none⟩) HLC.out.1).trans HLC.out.2))
              replace HQ1 := Lib.hid (And.intro (Nat.lt_of_lt_of_le HQ1.out.1 HZW.out) ((Below.cell hlat (p := ⟨qb, qoff + v1 * 2 + 1, none⟩) HQ1.out.1).trans HQ1.out.2))
              have HT := Lib.hid hl3
              have HTR := Lib.hid (show rowsC.rd wc Any [.slice ta T.2.2.length tc] T.2.2 from rowsC.mono (rowsC.ow_rd hoT) fun _ _ _ => trivial)
              have HEM := Lib.hid (And.intro (Ints.OwnI.empty wc wc.heap.size 3 (Nat.le_refl _)) (below_alloc wc (.cells #[] 3)))
              clear HLK HSQ hl3 hoT hnT hlat hkp kk HQ0 g1
              go_wp2_with fail
              generalize wc = wb at *
              go_loopw [15, 16] (fun o s wj => ∃ j : Nat, j ≤ vs.length ∧ s = .int .i64 j ∧ OwnI wj wb.heap.size 3 o (tr.take j) ∧ Below wb.heap.size wb wj) (fun _ s _ => vs.length - (intOf s).toNat)
              case atStart => exact ⟨0, Nat.zero_le _, rfl, HEM.out.1, HEM.out.2⟩
              case round =>
                clear HEM
                obtain ⟨j, hj, rfl, hown, hb⟩ := hrel
                have HB2 := Lib.hid hb
                have HO := Lib.hid hown
                have y0 := (HS.out.later hb).q.c1
                have y1 := (Below.cell hb (p := ⟨lb, loff + k, none⟩) HLC.out.1).trans HLC.out.2
                have y2 := (Below.cell hb (p := ⟨qb, qoff + v1 * 2 + 1, none⟩) HQ1.out.1).trans HQ1.out.2
                clear hown
                have q1 : (0 : Int) ≤ (j : Int) := by omega
                have q3 : (j : Int) ≤ 3 := by have := HTL.out.2; omega
                by_cases hjl : j < vs.length
                case neg =>
                  have ej : j = vs.length := by omega
                  subst ej
                  have HTK := Lib.hid (show tr.take vs.length = tr from by rw [← HTL.out.1]; exact List.take_length)
                  have h := HO.out
                  rw [HTK.out] at h
                  have hrd := rowC.mono (T := Any) (rowC.ow_rd (Cd.ow_of_own h fun x hx => by have := HT9.out x hx; constructor <;> omega)) fun _ _ _ => trivial
                  have HCR := Lib.hid (fun w' (hq : Below wr.heap.size wr w') => spec_contains T.1 T.2.1 (.slice ta T.2.2.length tc) _ T.2.2 tr _ _ w' (Cd.later (Cd.later HTR.out hb) hq) (Cd.later hrd hq))
                  rw [HHAS.out] at HCR
                  have x0 := (HT.out.later hb).c0
                  have x1 := (HT.out.later hb).c1
                  have x2 := (HT.out.later hb).c2
                  clear hrd hb HO HTK h
                  go_wp2_with fail
                  have HK0 := Lib.hid (bd_drew wr)
                  have z0 := y0
                  have z1 := y1
                  have z2 := y2
                  refine wp_region_held_drew (S := fun wx => wx.cell? ⟨X + 1, 1, none⟩ = some (.slice (some ⟨qb, qoff, none⟩) L.length cl) ∧ wx.cell? ⟨lb, loff + k, none⟩ = some (.int .i64 (v1 : Int)) ∧ wx.cell? ⟨qb, qoff + v1 * 2 + 1, none⟩ = some (.slice ua vs.length uc)) (by kernel_rfl) ?_ (fun hHeld => ?_)
                  · (refine ⟨?_, ?_, ?_⟩ <;> first | assumption | (simp [*]; done))
                  refine RegH.takeH (i := 0) (v := ?_) rfl (by kernel_rfl) (by kernel_rfl) (by kernel_rfl) (fun _ _ _ h => h) (Or.inl ⟨by rfl, ?_⟩) (by assumption) ?_
                  rotate_left
                  · (intro wS hSw; (try dsimp only at hSw); go_simp; try (with_reducible rfl))
                  try simp only [Act.put, List.setIfInBounds_toArray, List.set_cons_zero, List.set_cons_succ]
                  refine RegH.takeH (i := 1) (v := ?_) rfl (by kernel_rfl) (by kernel_rfl) (by kernel_rfl) (fun _ _ _ h => h) (Or.inl ⟨by rfl, ?_⟩) (by assumption) ?_
                  rotate_left
                  · (intro wS hSw; (try dsimp only at hSw); go_simp; try (with_reducible rfl))
                  try simp only [Act.put, List.setIfInBounds_toArray, List.set_cons_zero, List.set_cons_succ]
                  refine RegH.takeH (i := 2) (v := ?_) rfl (by kernel_rfl) (by kernel_rfl) (by kernel_rfl) (fun _ _ _ h => h) (Or.inl ⟨by rfl, ?_⟩) (by assumption) ?_
                  rotate_left
                  · (intro wS hSw; (try dsimp only at hSw); go_simp; try (with_reducible rfl))
                  try simp only [Act.put, List.setIfInBounds_toArray, List.set_cons_zero, List.set_cons_succ]
                  refine RegH.takeH (i := 3) (v := ?_) rfl (by kernel_rfl) (by kernel_rfl) (by kernel_rfl) (fun _ _ _ h => h) (Or.inl ⟨by rfl, ?_⟩) (by assumption) ?_
                  rotate_left
                  · (intro wS hSw; (try dsimp only at hSw); go_simp; try (with_reducible rfl))
                  try simp only [Act.put, List.setIfInBounds_toArray, List.set_cons_zero, List.set_cons_succ]
                  refine RegH.takeH (i := 4) (v := ?_) rfl (by kernel_rfl) (by kernel_rfl) (by kernel_rfl) (fun _ _ _ h => h) (Or.inl ⟨by rfl, ?_⟩) (by assumption) ?_
                  rotate_left
                  · (intro wS hSw; (try dsimp only at hSw); go_simp; try (with_reducible rfl))
                  try simp only [Act.put, List.setIfInBounds_toArray, List.set_cons_zero, List.set_cons_succ]
                  refine RegH.takeH (i := 5) (v := ?_) rfl (by kernel_rfl) (by kernel_rfl) (by kernel_rfl) (fun _ _ _ h => h) (Or.inl ⟨by rfl, ?_⟩) (by assumption) ?_
                  rotate_left
                  · (intro wS hSw; (try dsimp only at hSw); go_simp; try (with_reducible rfl))
                  try simp only [Act.put, List.setIfInBounds_toArray, List.set_cons_zero, List.set_cons_succ]
                  refine RegH.takeH (i := 6) (v := ?_) rfl (by kernel_rfl) (by kernel_rfl) (by kernel_rfl) (fun _ _ _ h => h) (Or.inl ⟨by rfl, ?_⟩) (by assumption) ?_
                  rotate_left
                  · (intro wS hSw; (try dsimp only at hSw); go_simp; try (with_reducible rfl))
                  try simp only [Act.put, List.setIfInBounds_toArray, List.set_cons_zero, List.set_cons_succ]
                  refine RegH.takeH (i := 7) (v := ?_) rfl (by kernel_rfl) (by kernel_rfl) (by kernel_rfl) (fun _ _ _ h => h) (Or.inl ⟨by rfl, ?_⟩) (by assumption) ?_
                  rotate_left
                  · (intro wS hSw; (try dsimp only at hSw); go_simp; try (with_reducible rfl))
                  try simp only [Act.put, List.setIfInBounds_toArray, List.set_cons_zero, List.set_cons_succ]
                  refine RegH.takeH (i := 8) (v := ?_) rfl (by kernel_rfl) (by kernel_rfl) (by kernel_rfl) (fun _ _ _ h => h) (Or.inl ⟨by rfl, ?_⟩) (by assumption) ?_
                  rotate_left
                  · (intro wS hSw; (try dsimp only at hSw); go_simp; try (with_reducible rfl))
                  try simp only [Act.put, List.setIfInBounds_toArray, List.set_cons_zero, List.set_cons_succ]
                  refine RegH.takeH (i := 9) (v := ?_) rfl (by kernel_rfl) (by kernel_rfl) (by kernel_rfl) (fun _ _ _ h => h) (Or.inl ⟨by rfl, ?_⟩) (by assumption) ?_
                  rotate_left
                  · (intro wS hSw; (try dsimp only at hSw); go_simp; try (with_reducible rfl))
                  try simp only [Act.put, List.setIfInBounds_toArray, List.set_cons_zero, List.set_cons_succ]
                  refine RegH.takeH (i := 10) (v := ?_) rfl (by kernel_rfl) (by kernel_rfl) (by kernel_rfl) (fun _ _ _ h => h) (Or.inl ⟨by rfl, ?_⟩) (by assumption) ?_
                  rotate_left
                  · (intro wS hSw; (try dsimp only at hSw); go_simp; try (with_reducible rfl))
                  try simp only [Act.put, List.setIfInBounds_toArray, List.set_cons_zero, List.set_cons_succ]
                  refine RegH.takeH (i := 11) (v := ?_) rfl (by kernel_rfl) (by kernel_rfl) (by kernel_rfl) (fun _ _ _ h => h) (Or.inl ⟨by rfl, ?_⟩) (by assumption) ?_
                  rotate_left
                  · (intro wS hSw; (try dsimp only at hSw); go_simp; try (with_reducible rfl))
                  try simp only [Act.put, List.setIfInBounds_toArray, List.set_cons_zero, List.set_cons_succ]
                  refine wpAnyH_done (by kernel_rfl) ?_ _
                  clear z0 z1 z2 HK0 hHeld
                  generalize hw5 : World.drew wr = w5 at *
                  have hb5 : Below wr.heap.size wr w5 := by rw [← hw5]; exact bd_drew _
                  have HC5 := Lib.hid (HCR.out w5 hb5)
                  replace HB2 := Lib.hid (below_then HB2.out hb5)
                  replace x0 := (hb5.cell (p := ⟨kp, 0, none⟩) (World.block_lt_of_cell? wr _ x0)).trans x0
                  replace x1 := (hb5.cell (p := ⟨kp, 1, none⟩) (World.block_lt_of_cell? wr _ x1)).trans x1
                  replace x2 := (hb5.cell (p := ⟨kp, 2, none⟩) (World.block_lt_of_cell? wr _ x2)).trans x2
                  clear hw5 hb5 HCR y0 y1 y2
                  go_wp2_with fail
                  refine HC5.out.mono ?_
                  rintro e w8 ⟨rfl, hbx⟩
                  have HB3 := Lib.hid (below_then HB2.out hbx)
                  clear hbx
                  go_wp2_with fail
                  go_roundw
                  case rel => exact ⟨k + 1, by have := HKL.out; omega, by go_num, below_then HBK.out HB3.out⟩
                  case measure => have := HKL.out; simp [intOf]; omega
                case pos =>
                  have hjt : j < tr.length := by have := HTL.out.1; omega
                  obtain ⟨i0, hi0, hiff, hval⟩ := HCOL.out j hjl hjt
                  obtain ⟨ub, uoff, ucap, e1, huB, huc⟩ := ri_at (row_ri HUA.out).1 hjl
                  injection e1 with e1 e2 e3
                  subst e1 e3
                  have HUC := Lib.hid (And.intro huB huc)
                  have q2 : (j : Int) < (vs.length : Int) := by omega
                  have HIFF := Lib.hid hiff
                  have HVAL2 := Lib.hid hval
                  have HJ := Lib.hid (And.intro hjl (And.intro hjt hi0))
                  have HTK := Lib.hid (show tr.take (j + 1) = tr.take j ++ [tr[j]] from List.take_succ_eq_append_getElem hjt)
                  have HTJ := Lib.hid (show (tr.take j).length ≤ 4 by rw [List.length_take]; have := HTL.out.1; have := HTL.out.2; omega)
                  clear hiff hval huc huB hb
                  go_wp2_with fail
                  have HK0 := Lib.hid (bd_drew wr)
                  have z0 := y0
                  have z1 := y1
                  have z2 := y2
                  refine wp_region_held_drew (S := fun wx => wx.cell? ⟨X + 1, 1, none⟩ = some (.slice (some ⟨qb, qoff, none⟩) L.length cl) ∧ wx.cell? ⟨lb, loff + k, none⟩ = some (.int .i64 (v1 : Int)) ∧ wx.cell? ⟨qb, qoff + v1 * 2 + 1, none⟩ = some (.slice (some ⟨ub, uoff, none⟩) vs.length uc)) (by kernel_rfl) ?_ (fun hHeld => ?_)
                  · (refine ⟨?_, ?_, ?_⟩ <;> first | assumption | (simp [*]; done))
                  refine RegH.takeH (i := 0) (v := ?_) rfl (by kernel_rfl) (by kernel_rfl) (by kernel_rfl) (fun _ _ _ h => h) (Or.inl ⟨by rfl, ?_⟩) (by assumption) ?_
                  rotate_left
                  · (intro wS hSw; (try dsimp only at hSw); go_simp; try (with_reducible rfl))
                  try simp only [Act.put, List.setIfInBounds_toArray, List.set_cons_zero, List.set_cons_succ]
                  refine RegH.takeH (i := 1) (v := ?_) rfl (by kernel_rfl) (by kernel_rfl) (by kernel_rfl) (fun _ _ _ h => h) (Or.inl ⟨by rfl, ?_⟩) (by assumption) ?_
                  rotate_left
                  · (intro wS hSw; (try dsimp only at hSw); go_simp; try (with_reducible rfl))
                  try simp only [Act.put, List.setIfInBounds_toArray, List.set_cons_zero, List.set_cons_succ]
                  refine RegH.takeH (i := 2) (v := ?_) rfl (by kernel_rfl) (by kernel_rfl) (by kernel_rfl) (fun _ _ _ h => h) (Or.inl ⟨by rfl, ?_⟩) (by assumption) ?_
                  rotate_left
                  · (intro wS hSw; (try dsimp only at hSw); go_simp; try (with_reducible rfl))
                  try simp only [Act.put, List.setIfInBounds_toArray, List.set_cons_zero, List.set_cons_succ]
                  refine RegH.takeH (i := 3) (v := ?_) rfl (by kernel_rfl) (by kernel_rfl) (by kernel_rfl) (fun _ _ _ h => h) (Or.inl ⟨by rfl, ?_⟩) (by assumption) ?_
                  rotate_left
                  · (intro wS hSw; (try dsimp only at hSw); go_simp; try (with_reducible rfl))
                  try simp only [Act.put, List.setIfInBounds_toArray, List.set_cons_zero, List.set_cons_succ]
                  refine RegH.takeH (i := 4) (v := ?_) rfl (by kernel_rfl) (by kernel_rfl) (by kernel_rfl) (fun _ _ _ h => h) (Or.inl ⟨by rfl, ?_⟩) (by assumption) ?_
                  rotate_left
                  · (intro wS hSw; (try dsimp only at hSw); go_simp; try (with_reducible rfl))
                  try simp only [Act.put, List.setIfInBounds_toArray, List.set_cons_zero, List.set_cons_succ]
                  refine RegH.takeH (i := 5) (v := ?_) rfl (by kernel_rfl) (by kernel_rfl) (by kernel_rfl) (fun _ _ _ h => h) (Or.inl ⟨by rfl, ?_⟩) (by assumption) ?_
                  rotate_left
                  · (intro wS hSw; (try dsimp only at hSw); go_simp; try (with_reducible rfl))
                  try simp only [Act.put, List.setIfInBounds_toArray, List.set_cons_zero, List.set_cons_succ]
                  refine RegH.takeH (i := 6) (v := ?_) rfl (by kernel_rfl) (by kernel_rfl) (by kernel_rfl) (fun _ _ _ h => h) (Or.inl ⟨by rfl, ?_⟩) (by assumption) ?_
                  rotate_left
                  · (intro wS hSw; (try dsimp only at hSw); go_simp; try (with_reducible rfl))
                  try simp only [Act.put, List.setIfInBounds_toArray, List.set_cons_zero, List.set_cons_succ]
                  refine RegH.takeH (i := 7) (v := ?_) rfl (by kernel_rfl) (by kernel_rfl) (by kernel_rfl) (fun _ _ _ h => h) (Or.inl ⟨by rfl, ?_⟩) (by assumption) ?_
                  rotate_left
                  · (intro wS hSw; (try dsimp only at hSw); go_simp; try (with_reducible rfl))
                  try simp only [Act.put, List.setIfInBounds_toArray, List.set_cons_zero, List.set_cons_succ]
                  refine RegH.takeH (i := 8) (v := ?_) rfl (by kernel_rfl) (by kernel_rfl) (by kernel_rfl) (fun _ _ _ h => h) (Or.inl ⟨by rfl, ?_⟩) (by assumption) ?_
                  rotate_left
                  · (intro wS hSw; (try dsimp only at hSw); go_simp; try (with_reducible rfl))
                  try simp only [Act.put, List.setIfInBounds_toArray, List.set_cons_zero, List.set_cons_succ]
                  refine RegH.takeH (i := 9) (v := ?_) rfl (by kernel_rfl) (by kernel_rfl) (by kernel_rfl) (fun _ _ _ h => h) (Or.inl ⟨by rfl, ?_⟩) (by assumption) ?_
                  rotate_left
                  · (intro wS hSw; (try dsimp only at hSw); go_simp; try (with_reducible rfl))
                  try simp only [Act.put, List.setIfInBounds_toArray, List.set_cons_zero, List.set_cons_succ]
                  refine RegH.takeH (i := 10) (v := ?_) rfl (by kernel_rfl) (by kernel_rfl) (by kernel_rfl) (fun _ _ _ h => h) (Or.inl ⟨by rfl, ?_⟩) (by assumption) ?_
                  rotate_left
                  · (intro wS hSw; (try dsimp only at hSw); go_simp; try (with_reducible rfl))
                  try simp only [Act.put, List.setIfInBounds_toArray, List.set_cons_zero, List.set_cons_succ]
                  refine RegH.takeH (i := 11) (v := ?_) rfl (by kernel_rfl) (by kernel_rfl) (by kernel_rfl) (fun _ _ _ h => h) (Or.inl ⟨by rfl, ?_⟩) (by assumption) ?_
                  rotate_left
                  · (intro wS hSw; (try dsimp only at hSw); go_simp; try (with_reducible rfl))
                  try simp only [Act.put, List.setIfInBounds_toArray, List.set_cons_zero, List.set_cons_succ]
                  refine wpAnyH_done (by kernel_rfl) ?_ _
                  clear z0 z1 z2 HK0 hHeld
                  generalize hw5 : World.drew wr = w5 at *
                  have hb5 : Below wr.heap.size wr w5 := by rw [← hw5]; exact bd_drew _
                  replace HO := Lib.hid (HO.out.later hb5)
                  replace HB2 := Lib.hid (below_then HB2.out hb5)
                  clear hw5 hb5 y0 y1 y2
                  go_wp2_with fail
                  go_loopw [15, 17] (fun o s we => ∃ e : Nat, e ≤ V.length ∧ s = .int .i64 e ∧ OwnI we wb.heap.size 3 o (tr.take j ++ if i0 < e then [tr[j]] else []) ∧ Below wb.heap.size wb we) (fun _ s _ => V.length - (intOf s).toNat)
                  case atStart => exact ⟨0, Nat.zero_le _, rfl, by rw [if_neg (by omega), List.append_nil]; exact HO.out, HB2.out⟩
                  case round =>
                    obtain ⟨e, he, rfl, hown, hb⟩ := hrel
                    have HB3 := Lib.hid hb
                    have HO3 := Lib.hid hown
                    have hga := HG.out.later hb
                    have c0 := hga.l.c0
                    have c1 := hga.l.c1
                    have r0 : (0 : Int) ≤ (e : Int) := by omega
                    have r3 : (e : Int) ≤ 4 := by have := HV4.out; omega
                    clear hown
                    by_cases hel : e < V.length
                    case neg =>
                      have ee : e = V.length := by omega
                      subst ee
                      have HO4 := HO3.out
                      rw [if_pos HJ.out.2.2] at HO4
                      have HO5 := Lib.hid HO4
                      clear HO3 HO4 hga hb
                      go_wp2_with fail
                      go_roundw
                      case rel => exact ⟨j + 1, by have := HJ.out.1; omega, by go_num, by rw [HTK.out]; exact HO5.out, HB3.out⟩
                      case measure => have := HJ.out.1; simp [intOf]; omega
                    case pos =>
                      have hrr := ans_reads hga.rd
                      obtain ⟨vb, voff, vcap, e1, hvB, hvc⟩ := ri_at (row_ri hrr.1).1 hel
                      injection e1 with e1 e2 e3
                      subst e1 e3
                      obtain ⟨gb', goff, gcap, ur, e1, hgB, hgc, hur⟩ := rows_at hrr.2 hlt
                      injection e1 with e1 e2 e3
                      subst e1 e3
                      have hrow := HRW.out R[i] (List.getElem_mem hlt)
                      obtain ⟨eb, eoff, ecap, e1, heB, hec⟩ := ri_at (row_ri hur).1 (show e < (R[i]).length by omega)
                      subst e1
                      have r1 : (e : Int) < (V.length : Int) := by omega
                      have r2 : (e : Int) < ((R[i]).length : Int) := by omega
                      have y0 := (HS.out.later hb).q.c1
                      have y1 := (Below.cell hb (p := ⟨lb, loff + k, none⟩) HLC.out.1).trans HLC.out.2
                      have y2 := (Below.cell hb (p := ⟨qb, qoff + v1 * 2 + 1, none⟩) HQ1.out.1).trans HQ1.out.2
                      have y3 := (Below.cell hb (p := ⟨ub, uoff + j, none⟩) HUC.out.1).trans HUC.out.2
                      have HEC := Lib.hid (And.intro hgc hec)
                      have HIF := Lib.hid (HIFF.out e hel)
                      have HVA := Lib.hid (fun (h : e = i0) => (show (R[i])[e]'(by omega) = tr[j]'HJ.out.2.1 from by subst h; exact HVAL2.out (by omega)))
                      have HEL := Lib.hid hel
                      clear hrr hur hgc hec hgB heB hvB hga hb
                      generalize hve : V[e] = ve at *
                      generalize hre : (R[i])[e] = re at *
                      clear hve hre hrow
                      by_cases heq : ve = vs[j]'HJ.out.1
                      case neg =>
                        have HO4 := HO3.out
                        have hne : ¬ e = i0 := fun q => heq (HIF.out.2 q)
                        have HSE := Lib.hid (show (if i0 < e + 1 then [tr[j]'HJ.out.2.1] else []) = (if i0 < e then [tr[j]'HJ.out.2.1] else []) from by
                          by_cases q : i0 < e
                          · rw [if_pos q, if_pos (by omega)]
                          · rw [if_neg q, if_neg (by omega)])
                        clear HO4 hne
                        have HEQ := Lib.hid heq
                        clear heq
                        generalize vs[j]'HJ.out.1 = vj at *
                        have heq := HEQ.out
                        go_wp2_with fail
                        have HK0 := Lib.hid (bd_drew wr)
                        have z0 := c0
                        have z1 := hvc
                        have z2 := y0
                        have z3 := y1
                        have z4 := y2
                        have z5 := y3
                        refine wp_region_held_drew (S := fun wx => wx.cell? ⟨XA, 0, none⟩ = some (.slice (some ⟨vb, voff, none⟩) V.length gc) ∧ wx.cell? ⟨vb, voff + e, none⟩ = some (.int .i64 ve) ∧ wx.cell? ⟨X + 1, 1, none⟩ = some (.slice (some ⟨qb, qoff, none⟩) L.length cl) ∧ wx.cell? ⟨lb, loff + k, none⟩ = some (.int .i64 (v1 : Int)) ∧ wx.cell? ⟨qb, qoff + v1 * 2 + 1, none⟩ = some (.slice (some ⟨ub, uoff, none⟩) vs.length uc) ∧ wx.cell? ⟨ub, uoff + j, none⟩ = some (.int .i64 vj)) (by kernel_rfl) ?_ (fun hHeld => ?_)
                        · (refine ⟨?_, ?_, ?_, ?_, ?_, ?_⟩ <;> first | assumption | (simp [*]; done))
                        refine RegH.takeH (i := 0) (v := ?_) rfl (by kernel_rfl) (by kernel_rfl) (by kernel_rfl) (fun _ _ _ h => h) (Or.inl ⟨by rfl, ?_⟩) (by assumption) ?_
                        rotate_left
                        · (intro wS hSw; (try dsimp only at hSw); go_simp; try (with_reducible rfl))
                        try simp only [Act.put, List.setIfInBounds_toArray, List.set_cons_zero, List.set_cons_succ]
                        refine RegH.takeH (i := 1) (v := ?_) rfl (by kernel_rfl) (by kernel_rfl) (by kernel_rfl) (fun _ _ _ h => h) (Or.inl ⟨by rfl, ?_⟩) (by assumption) ?_
                        rotate_left
                        · (intro wS hSw; (try dsimp only at hSw); go_simp; try (with_reducible rfl))
                        try simp only [Act.put, List.setIfInBounds_toArray, List.set_cons_zero, List.set_cons_succ]
                        refine RegH.takeH (i := 2) (v := ?_) rfl (by kernel_rfl) (by kernel_rfl) (by kernel_rfl) (fun _ _ _ h => h) (Or.inl ⟨by rfl, ?_⟩) (by assumption) ?_
                        rotate_left
                        · (intro wS hSw; (try dsimp only at hSw); go_simp; try (with_reducible rfl))
                        try simp only [Act.put, List.setIfInBounds_toArray, List.set_cons_zero, List.set_cons_succ]
                        refine RegH.takeH (i := 3) (v := ?_) rfl (by kernel_rfl) (by kernel_rfl) (by kernel_rfl) (fun _ _ _ h => h) (Or.inl ⟨by rfl, ?_⟩) (by assumption) ?_
                        rotate_left
                        · (intro wS hSw; (try dsimp only at hSw); go_simp; try (with_reducible rfl))
                        try simp only [Act.put, List.setIfInBounds_toArray, List.set_cons_zero, List.set_cons_succ]
                        refine RegH.takeH (i := 4) (v := ?_) rfl (by kernel_rfl) (by kernel_rfl) (by kernel_rfl) (fun _ _ _ h => h) (Or.inl ⟨by rfl, ?_⟩) (by assumption) ?_
                        rotate_left
                        · (intro wS hSw; (try dsimp only at hSw); go_simp; try (with_reducible rfl))
                        try simp only [Act.put, List.setIfInBounds_toArray, List.set_cons_zero, List.set_cons_succ]
                        refine RegH.takeH (i := 5) (v := ?_) rfl (by kernel_rfl) (by kernel_rfl) (by kernel_rfl) (fun _ _ _ h => h) (Or.inl ⟨by rfl, ?_⟩) (by assumption) ?_
                        rotate_left
                        · (intro wS hSw; (try dsimp only at hSw); go_simp; try (with_reducible rfl))
                        try simp only [Act.put, List.setIfInBounds_toArray, List.set_cons_zero, List.set_cons_succ]
                        refine RegH.takeH (i := 6) (v := ?_) rfl (by kernel_rfl) (by kernel_rfl) (by kernel_rfl) (fun _ _ _ h => h) (Or.inl ⟨by rfl, ?_⟩) (by assumption) ?_
                        rotate_left
                        · (intro wS hSw; (try dsimp only at hSw); go_simp; try (with_reducible rfl))
                        try simp only [Act.put, List.setIfInBounds_toArray, List.set_cons_zero, List.set_cons_succ]
                        refine RegH.takeH (i := 7) (v := ?_) rfl (by kernel_rfl) (by kernel_rfl) (by kernel_rfl) (fun _ _ _ h => h) (Or.inl ⟨by rfl, ?_⟩) (by assumption) ?_
                        rotate_left
                        · (intro wS hSw; (try dsimp only at hSw); go_simp; try (with_reducible rfl))
                        try simp only [Act.put, List.setIfInBounds_toArray, List.set_cons_zero, List.set_cons_succ]
                        refine RegH.takeH (i := 8) (v := ?_) rfl (by kernel_rfl) (by kernel_rfl) (by kernel_rfl) (fun _ _ _ h => h) (Or.inl ⟨by rfl, ?_⟩) (by assumption) ?_
                        rotate_left
                        · (intro wS hSw; (try dsimp only at hSw); go_simp; try (with_reducible rfl))
                        try simp only [Act.put, List.setIfInBounds_toArray, List.set_cons_zero, List.set_cons_succ]
                        refine RegH.takeH (i := 9) (v := ?_) rfl (by kernel_rfl) (by kernel_rfl) (by kernel_rfl) (fun _ _ _ h => h) (Or.inl ⟨by rfl, ?_⟩) (by assumption) ?_
                        rotate_left
                        · (intro wS hSw; (try dsimp only at hSw); go_simp; try (with_reducible rfl))
                        try simp only [Act.put, List.setIfInBounds_toArray, List.set_cons_zero, List.set_cons_succ]
                        refine RegH.takeH (i := 10) (v := ?_) rfl (by kernel_rfl) (by kernel_rfl) (by kernel_rfl) (fun _ _ _ h => h) (Or.inl ⟨by rfl, ?_⟩) (by assumption) ?_
                        rotate_left
                        · (intro wS hSw; (try dsimp only at hSw); go_simp; try (with_reducible rfl))
                        try simp only [Act.put, List.setIfInBounds_toArray, List.set_cons_zero, List.set_cons_succ]
                        refine RegH.takeH (i := 11) (v := ?_) rfl (by kernel_rfl) (by kernel_rfl) (by kernel_rfl) (fun _ _ _ h => h) (Or.inl ⟨by rfl, ?_⟩) (by assumption) ?_
                        rotate_left
                        · (intro wS hSw; (try dsimp only at hSw); go_simp; try (with_reducible rfl))
                        try simp only [Act.put, List.setIfInBounds_toArray, List.set_cons_zero, List.set_cons_succ]
                        refine RegH.takeH (i := 12) (v := ?_) rfl (by kernel_rfl) (by kernel_rfl) (by kernel_rfl) (fun _ _ _ h => h) (Or.inl ⟨by rfl, ?_⟩) (by assumption) ?_
                        rotate_left
                        · (intro wS hSw; (try dsimp only at hSw); go_simp; try (with_reducible rfl))
                        try simp only [Act.put, List.setIfInBounds_toArray, List.set_cons_zero, List.set_cons_succ]
                        refine RegH.takeH (i := 13) (v := ?_) rfl (by kernel_rfl) (by kernel_rfl) (by kernel_rfl) (fun _ _ _ h => h) (Or.inl ⟨by rfl, ?_⟩) (by assumption) ?_
                        rotate_left
                        · (intro wS hSw; (try dsimp only at hSw); go_simp; try (with_reducible rfl))
                        try simp only [Act.put, List.setIfInBounds_toArray, List.set_cons_zero, List.set_cons_succ]
                        refine RegH.takeH (i := 14) (v := ?_) rfl (by kernel_rfl) (by kernel_rfl) (by kernel_rfl) (fun _ _ _ h => h) (Or.inl ⟨by rfl, ?_⟩) (by assumption) ?_
                        rotate_left
                        · (intro wS hSw; (try dsimp only at hSw); go_simp; try (with_reducible rfl))
                        try simp only [Act.put, List.setIfInBounds_toArray, List.set_cons_zero, List.set_cons_succ]
                        refine RegH.takeH (i := 15) (v := ?_) rfl (by kernel_rfl) (by kernel_rfl) (by kernel_rfl) (fun _ _ _ h => h) (Or.inl ⟨by rfl, ?_⟩) (by assumption) ?_
                        rotate_left
                        · (intro wS hSw; (try dsimp only at hSw); go_simp; try (with_reducible rfl))
                        try simp only [Act.put, List.setIfInBounds_toArray, List.set_cons_zero, List.set_cons_succ]
                        refine RegH.takeH (i := 16) (v := ?_) rfl (by kernel_rfl) (by kernel_rfl) (by kernel_rfl) (fun _ _ _ h => h) (Or.inl ⟨by rfl, ?_⟩) (by assumption) ?_
                        rotate_left
                        · (intro wS hSw; (try dsimp only at hSw); go_simp; try (with_reducible rfl))
                        try simp only [Act.put, List.setIfInBounds_toArray, List.set_cons_zero, List.set_cons_succ]
                        refine RegH.takeH (i := 17) (v := ?_) rfl (by kernel_rfl) (by kernel_rfl) (by kernel_rfl) (fun _ _ _ h => h) (Or.inl ⟨by rfl, ?_⟩) (by assumption) ?_
                        rotate_left
                        · (intro wS hSw; (try dsimp only at hSw); go_simp; try (with_reducible rfl))
                        try simp only [Act.put, List.setIfInBounds_toArray, List.set_cons_zero, List.set_cons_succ]
                        refine wpAnyH_done (by kernel_rfl) ?_ _
                        clear z0 z1 z2 z3 z4 z5 HK0 hHeld
                        generalize hw6 : World.drew wr = w6 at *
                        have hb6 : Below wr.heap.size wr w6 := by rw [← hw6]; exact bd_drew _
                        replace HO3 := Lib.hid (HO3.out.later hb6)
                        replace HB3 := Lib.hid (below_then HB3.out hb6)
                        clear hw6 hb6 y0 y1 y2 y3 c0 c1 hvc
                        go_wp2_with fail
                        go_roundw
                        case rel => exact ⟨e + 1, by have := HEL.out; omega, by go_num, by rw [HSE.out]; exact HO3.out, HB3.out⟩
                        case measure => have := HEL.out; simp [intOf]; omega
                      case pos =>
                        have hei : e = i0 := HIF.out.1 heq
                        have hre2 := HVA.out hei
                        have HNX := Lib.hid (show (tr.take j ++ if i0 < e + 1 then [tr[j]'HJ.out.2.1] else []) = (tr.take j ++ if i0 < e then [tr[j]'HJ.out.2.1] else []) ++ [re] from by
                          rw [if_pos (by omega), if_neg (by omega), List.append_nil, hre2])
                        have HLE := Lib.hid (show (tr.take j ++ if i0 < e then [tr[j]'HJ.out.2.1] else []).length + 1 ≤ 1000000000000 from by
                          rw [if_neg (by omega), List.append_nil]
                          have := HTJ.out
                          omega)
                        have HEQ := Lib.hid heq
                        clear heq hei hre2
                        generalize (tr.take j ++ if i0 < e then [tr[j]'HJ.out.2.1] else []) = cur at *
                        generalize vs[j]'HJ.out.1 = vj at *
                        have heq := HEQ.out
                        subst heq
                        go_wp2_with fail
                        have HK0 := Lib.hid (bd_drew wr)
                        have z0 := c0
                        have z1 := hvc
                        have z2 := y0
                        have z3 := y1
                        have z4 := y2
                        have z5 := y3
                        refine wp_region_held_drew (S := fun wx => wx.cell? ⟨XA, 0, none⟩ = some (.slice (some ⟨vb, voff, none⟩) V.length gc) ∧ wx.cell? ⟨vb, voff + e, none⟩ = some (.int .i64 ve) ∧ wx.cell? ⟨X + 1, 1, none⟩ = some (.slice (some ⟨qb, qoff, none⟩) L.length cl) ∧ wx.cell? ⟨lb, loff + k, none⟩ = some (.int .i64 (v1 : Int)) ∧ wx.cell? ⟨qb, qoff + v1 * 2 + 1, none⟩ = some (.slice (some ⟨ub, uoff, none⟩) vs.length uc) ∧ wx.cell? ⟨ub, uoff + j, none⟩ = some (.int .i64 ve)) (by kernel_rfl) ?_ (fun hHeld => ?_)
                        · (refine ⟨?_, ?_, ?_, ?_, ?_, ?_⟩ <;> first | assumption | (simp [*]; done))
                        refine RegH.takeH (i := 0) (v := ?_) rfl (by kernel_rfl) (by kernel_rfl) (by kernel_rfl) (fun _ _ _ h => h) (Or.inl ⟨by rfl, ?_⟩) (by assumption) ?_
                        rotate_left
                        · (intro wS hSw; (try dsimp only at hSw); go_simp; try (with_reducible rfl))
                        try simp only [Act.put, List.setIfInBounds_toArray, List.set_cons_zero, List.set_cons_succ]
                        refine RegH.takeH (i := 1) (v := ?_) rfl (by kernel_rfl) (by kernel_rfl) (by kernel_rfl) (fun _ _ _ h => h) (Or.inl ⟨by rfl, ?_⟩) (by assumption) ?_
                        rotate_left
                        · (intro wS hSw; (try dsimp only at hSw); go_simp; try (with_reducible rfl))
                        try simp only [Act.put, List.setIfInBounds_toArray, List.set_cons_zero, List.set_cons_succ]
                        refine RegH.takeH (i := 2) (v := ?_) rfl (by kernel_rfl) (by kernel_rfl) (by kernel_rfl) (fun _ _ _ h => h) (Or.inl ⟨by rfl, ?_⟩) (by assumption) ?_
                        rotate_left
                        · (intro wS hSw; (try dsimp only at hSw); go_simp; try (with_reducible rfl))
                        try simp only [Act.put, List.setIfInBounds_toArray, List.set_cons_zero, List.set_cons_succ]
                        refine RegH.takeH (i := 3) (v := ?_) rfl (by kernel_rfl) (by kernel_rfl) (by kernel_rfl) (fun _ _ _ h => h) (Or.inl ⟨by rfl, ?_⟩) (by assumption) ?_
                        rotate_left
                        · (intro wS hSw; (try dsimp only at hSw); go_simp; try (with_reducible rfl))
                        try simp only [Act.put, List.setIfInBounds_toArray, List.set_cons_zero, List.set_cons_succ]
                        refine RegH.takeH (i := 4) (v := ?_) rfl (by kernel_rfl) (by kernel_rfl) (by kernel_rfl) (fun _ _ _ h => h) (Or.inl ⟨by rfl, ?_⟩) (by assumption) ?_
                        rotate_left
                        · (intro wS hSw; (try dsimp only at hSw); go_simp; try (with_reducible rfl))
                        try simp only [Act.put, List.setIfInBounds_toArray, List.set_cons_zero, List.set_cons_succ]
                        refine RegH.takeH (i := 5) (v := ?_) rfl (by kernel_rfl) (by kernel_rfl) (by kernel_rfl) (fun _ _ _ h => h) (Or.inl ⟨by rfl, ?_⟩) (by assumption) ?_
                        rotate_left
                        · (intro wS hSw; (try dsimp only at hSw); go_simp; try (with_reducible rfl))
                        try simp only [Act.put, List.setIfInBounds_toArray, List.set_cons_zero, List.set_cons_succ]
                        refine RegH.takeH (i := 6) (v := ?_) rfl (by kernel_rfl) (by kernel_rfl) (by kernel_rfl) (fun _ _ _ h => h) (Or.inl ⟨by rfl, ?_⟩) (by assumption) ?_
                        rotate_left
                        · (intro wS hSw; (try dsimp only at hSw); go_simp; try (with_reducible rfl))
                        try simp only [Act.put, List.setIfInBounds_toArray, List.set_cons_zero, List.set_cons_succ]
                        refine RegH.takeH (i := 7) (v := ?_) rfl (by kernel_rfl) (by kernel_rfl) (by kernel_rfl) (fun _ _ _ h => h) (Or.inl ⟨by rfl, ?_⟩) (by assumption) ?_
                        rotate_left
                        · (intro wS hSw; (try dsimp only at hSw); go_simp; try (with_reducible rfl))
                        try simp only [Act.put, List.setIfInBounds_toArray, List.set_cons_zero, List.set_cons_succ]
                        refine RegH.takeH (i := 8) (v := ?_) rfl (by kernel_rfl) (by kernel_rfl) (by kernel_rfl) (fun _ _ _ h => h) (Or.inl ⟨by rfl, ?_⟩) (by assumption) ?_
                        rotate_left
                        · (intro wS hSw; (try dsimp only at hSw); go_simp; try (with_reducible rfl))
                        try simp only [Act.put, List.setIfInBounds_toArray, List.set_cons_zero, List.set_cons_succ]
                        refine RegH.takeH (i := 9) (v := ?_) rfl (by kernel_rfl) (by kernel_rfl) (by kernel_rfl) (fun _ _ _ h => h) (Or.inl ⟨by rfl, ?_⟩) (by assumption) ?_
                        rotate_left
                        · (intro wS hSw; (try dsimp only at hSw); go_simp; try (with_reducible rfl))
                        try simp only [Act.put, List.setIfInBounds_toArray, List.set_cons_zero, List.set_cons_succ]
                        refine RegH.takeH (i := 10) (v := ?_) rfl (by kernel_rfl) (by kernel_rfl) (by kernel_rfl) (fun _ _ _ h => h) (Or.inl ⟨by rfl, ?_⟩) (by assumption) ?_
                        rotate_left
                        · (intro wS hSw; (try dsimp only at hSw); go_simp; try (with_reducible rfl))
                        try simp only [Act.put, List.setIfInBounds_toArray, List.set_cons_zero, List.set_cons_succ]
                        refine RegH.takeH (i := 11) (v := ?_) rfl (by kernel_rfl) (by kernel_rfl) (by kernel_rfl) (fun _ _ _ h => h) (Or.inl ⟨by rfl, ?_⟩) (by assumption) ?_
                        rotate_left
                        · (intro wS hSw; (try dsimp only at hSw); go_simp; try (with_reducible rfl))
                        try simp only [Act.put, List.setIfInBounds_toArray, List.set_cons_zero, List.set_cons_succ]
                        refine RegH.takeH (i := 12) (v := ?_) rfl (by kernel_rfl) (by kernel_rfl) (by kernel_rfl) (fun _ _ _ h => h) (Or.inl ⟨by rfl, ?_⟩) (by assumption) ?_
                        rotate_left
                        · (intro wS hSw; (try dsimp only at hSw); go_simp; try (with_reducible rfl))
                        try simp only [Act.put, List.setIfInBounds_toArray, List.set_cons_zero, List.set_cons_succ]
                        refine RegH.takeH (i := 13) (v := ?_) rfl (by kernel_rfl) (by kernel_rfl) (by kernel_rfl) (fun _ _ _ h => h) (Or.inl ⟨by rfl, ?_⟩) (by assumption) ?_
                        rotate_left
                        · (intro wS hSw; (try dsimp only at hSw); go_simp; try (with_reducible rfl))
                        try simp only [Act.put, List.setIfInBounds_toArray, List.set_cons_zero, List.set_cons_succ]
                        refine RegH.takeH (i := 14) (v := ?_) rfl (by kernel_rfl) (by kernel_rfl) (by kernel_rfl) (fun _ _ _ h => h) (Or.inl ⟨by rfl, ?_⟩) (by assumption) ?_
                        rotate_left
                        · (intro wS hSw; (try dsimp only at hSw); go_simp; try (with_reducible rfl))
                        try simp only [Act.put, List.setIfInBounds_toArray, List.set_cons_zero, List.set_cons_succ]
                        refine RegH.takeH (i := 15) (v := ?_) rfl (by kernel_rfl) (by kernel_rfl) (by kernel_rfl) (fun _ _ _ h => h) (Or.inl ⟨by rfl, ?_⟩) (by assumption) ?_
                        rotate_left
                        · (intro wS hSw; (try dsimp only at hSw); go_simp; try (with_reducible rfl))
                        try simp only [Act.put, List.setIfInBounds_toArray, List.set_cons_zero, List.set_cons_succ]
                        refine RegH.takeH (i := 16) (v := ?_) rfl (by kernel_rfl) (by kernel_rfl) (by kernel_rfl) (fun _ _ _ h => h) (Or.inl ⟨by rfl, ?_⟩) (by assumption) ?_
                        rotate_left
                        · (intro wS hSw; (try dsimp only at hSw); go_simp; try (with_reducible rfl))
                        try simp only [Act.put, List.setIfInBounds_toArray, List.set_cons_zero, List.set_cons_succ]
                        refine RegH.takeH (i := 17) (v := ?_) rfl (by kernel_rfl) (by kernel_rfl) (by kernel_rfl) (fun _ _ _ h => h) (Or.inl ⟨by rfl, ?_⟩) (by assumption) ?_
                        rotate_left
                        · (intro wS hSw; (try dsimp only at hSw); go_simp; try (with_reducible rfl))
                        try simp only [Act.put, List.setIfInBounds_toArray, List.set_cons_zero, List.set_cons_succ]
                        refine wpAnyH_done (by kernel_rfl) ?_ _
                        clear z0 z1 z2 z3 z4 z5 HK0 hHeld
                        generalize hw6 : World.drew wr = w6 at *
                        have hb6 : Below wr.heap.size wr w6 := by rw [← hw6]; exact bd_drew _
                        have hbs := Nat.le_trans (Below.size HB3.out) hb6.size
                        have hown6 := HO3.out.later hb6
                        have hB6 := Lib.hid (below_then HB3.out hb6)
                        have d1 := (hb6.cell (p := ⟨XA, 1, none⟩) (World.block_lt_of_cell? wr _ c1)).trans c1
                        have d2 := (hb6.cell (p := ⟨gb', goff + i, none⟩) (World.block_lt_of_cell? wr _ HEC.out.1)).trans HEC.out.1
                        have d3 := (hb6.cell (p := ⟨eb, eoff + e, none⟩) (World.block_lt_of_cell? wr _ HEC.out.2)).trans HEC.out.2
                        have hle := HLE.out
                        clear hw6 hb6 y0 y1 y2 y3 c0 c1 hvc
                        go_wp2_with (at_builtin; refine wp_appendI rfl (.tmp 153) (.tmp 162) 32 rfl wb.heap.size 3 Tryz.underlying32 info_i64 _ _ rfl hown6 _ rfl hle hbs ?_)
                        intro v' w7 hown7 hb7
                        go_wp2_with fail
                        go_roundw
                        case rel => exact ⟨e + 1, by have := HEL.out; omega, by go_num, by rw [HNX.out]; exact hown7, hB6.out.trans hb7⟩
                        case measure => have := HEL.out; simp [intOf]; omega
      case neg =>
        have p1 : (i : Int) < (R.length : Int) := by omega
        have p2 : ¬ (i : Int) < 20 := by omega
        clear z3 z4
        have z3 := HG.out.l.c0
        have z4 := HG.out.l.c1
        have z0 := HS.out.d.c0
        have z1 := HS.out.q.c0
        have z2 := HS.out.q.c1
        go_wp2_with fail
        refine (impl_true (.slice ad Ts.length cd) (.slice al L.length cl) Ts n L _ _ wr HS.out.td HS.out.tq HWT.out HSZ.out).mono ?_
        rintro e w10 ⟨vz, fz, rfl, hoz, _, hbx⟩
        obtain ⟨sa, sc, rfl⟩ := Cd.ow_slice hoz
        replace HS := Lib.hid (HS.out.later hbx)
        have HZ := Lib.hid (Cd.reads hoz)
        clear hbx hoz z0 z1 z2 z3 z4
        have z0 := HS.out.d.c0
        have z1 := HS.out.q.c0
        have z2 := HS.out.q.c1
        go_wp2_with fail
        refine (impl_all (.slice ad Ts.length cd) (.slice al L.length cl) Ts n L _ _ w10 HS.out.td HS.out.tq HWT.out HSZ.out).mono ?_
        rintro e w11 ⟨b1, b2, fp, rfl, hob, _, hbx⟩
        obtain ⟨ba, bc, bb, bd, rfl, rfl⟩ := ans_shape hob
        have hA := below_alloc w11 (.cells #[.slice ba (evV Ts n L (fm n L)).length bc, .slice bb (evR Ts n L (fm n L)).length bd] 35 (0, 0))
        replace HS := Lib.hid ((HS.out.later hbx).later hA)
        replace HZ := Lib.hid (Cd.later (Cd.later HZ.out hbx) hA)
        have HF := Lib.hid (RA.of (e := 35) hob rfl)
        clear z0 z1 z2 hob hbx hA
        have z0 := HS.out.d.c0
        have z1 := HS.out.q.c0
        have z2 := HS.out.q.c1
        have z3 := HF.out.l.c0
        have z4 := HF.out.l.c1
        go_wp2_with fail
        clear z0 z1 z2 z3 z4
        generalize w11.alloc _ = W12 at *
        generalize w11.heap.size = XF at *
        have HSB := Lib.hid (fun (w' : World) (hb : Below W12.heap.size W12 w') => spec_sub (.slice ad Ts.length cd) (.slice al L.length cl) Ts n (fm n L) L _ _ w' (HS.out.later hb).td (HS.out.later hb).tq HWT.out)
        rw [HFULL.out] at HSB
        have HFM := Lib.hid (fun (w' : World) (hb : Below W12.heap.size W12 w') => spec_full n (.slice al L.length cl) L _ w' (HS.out.later hb).tq)
        have HTS := Lib.hid (fun (w' : World) (hb : Below W12.heap.size W12 w') => spec_true (.slice ad Ts.length cd) (.slice al L.length cl) Ts n L _ _ w' (HS.out.later hb).td (HS.out.later hb).tq HWT.out)
        clear HFULL
        generalize evR Ts n L (fm n L) = RF at *
        generalize evV Ts n L (fm n L) = VF at *
        generalize evOk Ts n L (fm n L) = BF at *
        generalize ((fm n L : Nat) : Int) = F at *
        generalize tsL Ts n L = TL at *
        have HK0 := Lib.hid (bd_drew W12)
        have z0 := HS.out.d.c0
        have z1 := HS.out.q.c0
        have z2 := HS.out.q.c1
        have z3 := HF.out.l.c0
        have z4 := HF.out.l.c1
        refine wp_region_held_drew (S := fun wx => wx.cell? ⟨X, 0, none⟩ = some (.slice ad Ts.length cd) ∧ wx.cell? ⟨X + 1, 0, none⟩ = some (.int .i64 n) ∧ wx.cell? ⟨X + 1, 1, none⟩ = some (.slice al L.length cl) ∧ wx.cell? ⟨XF, 0, none⟩ = some (.slice ba VF.length bc) ∧ wx.cell? ⟨XF, 1, none⟩ = some (.slice bb RF.length bd)) (by kernel_rfl) ?_ (fun hHeld => ?_)
        · (refine ⟨?_, ?_, ?_, ?_, ?_⟩ <;> first | assumption | (simp [*]; done))
        refine RegH.takeH (i := 0) (v := ?_) rfl (by kernel_rfl) (by kernel_rfl) (by kernel_rfl) (fun _ _ _ h => h) (Or.inl ⟨by rfl, ?_⟩) (by assumption) ?_
        rotate_left
        · (intro wS hSw; (try dsimp only at hSw); go_simp; try (with_reducible rfl))
        try simp only [Act.put, List.setIfInBounds_toArray, List.set_cons_zero, List.set_cons_succ]
        refine RegH.takeH (i := 1) (v := ?_) rfl (by kernel_rfl) (by kernel_rfl) (by kernel_rfl) (fun _ _ _ h => h) (Or.inl ⟨by rfl, ?_⟩) (by assumption) ?_
        rotate_left
        · (intro wS hSw; (try dsimp only at hSw); go_simp; try (with_reducible rfl))
        try simp only [Act.put, List.setIfInBounds_toArray, List.set_cons_zero, List.set_cons_succ]
        refine RegH.takeH (i := 2) (v := ?_) rfl (by kernel_rfl) (by kernel_rfl) (by kernel_rfl) (fun _ _ _ h => h) (Or.inl ⟨by rfl, ?_⟩) (by assumption) ?_
        rotate_left
        · (intro wS hSw; (try dsimp only at hSw); go_simp; try (with_reducible rfl))
        try simp only [Act.put, List.setIfInBounds_toArray, List.set_cons_zero, List.set_cons_succ]
        refine RegH.consH (i := 3) rfl (by kernel_rfl) (fun K hK => ?_)
        go_simp
        go_at_call 24
        refine (HTS.out W12.drew HK0.out).mono ?_
        rintro e qW121 ⟨vt, f_vt, rfl, hyo, _, hbx⟩
        obtain ⟨a_vt, c_vt, rfl⟩ := Cd.ow_slice hyo
        have Hvt := Lib.hid (Cd.reads hyo)
        have HK1 := Lib.hid (below_then HK0.out hbx)
        have y1c0 := (HS.out.later HK1.out).d.c0
        have y1c1 := (HS.out.later HK1.out).q.c0
        have y1c2 := (HS.out.later HK1.out).q.c1
        have y1c3 := (HF.out.later HK1.out).l.c0
        have y1c4 := (HF.out.later HK1.out).l.c1
        clear hyo hbx
        go_wp2_with fail
        refine hK.out _ _ ?_ (fun hHeld => ?_)
        · (refine ⟨?_, ?_, ?_, ?_, ?_⟩ <;> first | assumption | (simp [*]; done))
        clear hK K
        try simp only [Act.put, List.setIfInBounds_toArray, List.set_cons_zero, List.set_cons_succ]
        refine RegH.consH (i := 4) rfl (by kernel_rfl) (fun K hK => ?_)
        go_simp
        go_at_call 23
        refine (same_rd _ _ _ _ _ qW121 (Cd.later HZ.out HK1.out) Hvt.out).mono ?_
        rintro e qW122 ⟨rfl, hbx⟩
        have HK2 := Lib.hid (below_then HK1.out hbx)
        have y2c0 := (HS.out.later HK2.out).d.c0
        have y2c1 := (HS.out.later HK2.out).q.c0
        have y2c2 := (HS.out.later HK2.out).q.c1
        have y2c3 := (HF.out.later HK2.out).l.c0
        have y2c4 := (HF.out.later HK2.out).l.c1
        clear hbx
        go_wp2_with fail
        refine hK.out _ _ ?_ (fun hHeld => ?_)
        · (refine ⟨?_, ?_, ?_, ?_, ?_⟩ <;> first | assumption | (simp [*]; done))
        clear hK K
        try simp only [Act.put, List.setIfInBounds_toArray, List.set_cons_zero, List.set_cons_succ]
        refine RegH.takeH (i := 5) (v := ?_) rfl (by kernel_rfl) (by kernel_rfl) (by kernel_rfl) (fun _ _ _ h => h) (Or.inl ⟨by rfl, ?_⟩) (by assumption) ?_
        rotate_left
        · (intro wS hSw; (try dsimp only at hSw); go_simp; try (with_reducible rfl))
        try simp only [Act.put, List.setIfInBounds_toArray, List.set_cons_zero, List.set_cons_succ]
        refine RegH.takeH (i := 6) (v := ?_) rfl (by kernel_rfl) (by kernel_rfl) (by kernel_rfl) (fun _ _ _ h => h) (Or.inl ⟨by rfl, ?_⟩) (by assumption) ?_
        rotate_left
        · (intro wS hSw; (try dsimp only at hSw); go_simp; try (with_reducible rfl))
        try simp only [Act.put, List.setIfInBounds_toArray, List.set_cons_zero, List.set_cons_succ]
        refine RegH.takeH (i := 7) (v := ?_) rfl (by kernel_rfl) (by kernel_rfl) (by kernel_rfl) (fun _ _ _ h => h) (Or.inl ⟨by rfl, ?_⟩) (by assumption) ?_
        rotate_left
        · (intro wS hSw; (try dsimp only at hSw); go_simp; try (with_reducible rfl))
        try simp only [Act.put, List.setIfInBounds_toArray, List.set_cons_zero, List.set_cons_succ]
        refine RegH.takeH (i := 8) (v := ?_) rfl (by kernel_rfl) (by kernel_rfl) (by kernel_rfl) (fun _ _ _ h => h) (Or.inl ⟨by rfl, ?_⟩) (by assumption) ?_
        rotate_left
        · (intro wS hSw; (try dsimp only at hSw); go_simp; try (with_reducible rfl))
        try simp only [Act.put, List.setIfInBounds_toArray, List.set_cons_zero, List.set_cons_succ]
        refine RegH.takeH (i := 9) (v := ?_) rfl (by kernel_rfl) (by kernel_rfl) (by kernel_rfl) (fun _ _ _ h => h) (Or.inl ⟨by rfl, ?_⟩) (by assumption) ?_
        rotate_left
        · (intro wS hSw; (try dsimp only at hSw); go_simp; try (with_reducible rfl))
        try simp only [Act.put, List.setIfInBounds_toArray, List.set_cons_zero, List.set_cons_succ]
        refine RegH.takeH (i := 10) (v := ?_) rfl (by kernel_rfl) (by kernel_rfl) (by kernel_rfl) (fun _ _ _ h => h) (Or.inl ⟨by rfl, ?_⟩) (by assumption) ?_
        rotate_left
        · (intro wS hSw; (try dsimp only at hSw); go_simp; try (with_reducible rfl))
        try simp only [Act.put, List.setIfInBounds_toArray, List.set_cons_zero, List.set_cons_succ]
        refine RegH.takeH (i := 11) (v := ?_) rfl (by kernel_rfl) (by kernel_rfl) (by kernel_rfl) (fun _ _ _ h => h) (Or.inl ⟨by rfl, ?_⟩) (by assumption) ?_
        rotate_left
        · (intro wS hSw; (try dsimp only at hSw); go_simp; try (with_reducible rfl))
        try simp only [Act.put, List.setIfInBounds_toArray, List.set_cons_zero, List.set_cons_succ]
        refine RegH.consH (i := 12) rfl (by kernel_rfl) (fun K hK => ?_)
        go_simp
        go_at_call 25
        refine (HFM.out qW122 HK2.out).mono ?_
        rintro e qW123 ⟨rfl, hbx⟩
        have HK3 := Lib.hid (below_then HK2.out hbx)
        have y3c0 := (HS.out.later HK3.out).d.c0
        have y3c1 := (HS.out.later HK3.out).q.c0
        have y3c2 := (HS.out.later HK3.out).q.c1
        have y3c3 := (HF.out.later HK3.out).l.c0
        have y3c4 := (HF.out.later HK3.out).l.c1
        clear hbx
        go_wp2_with fail
        refine hK.out _ _ ?_ (fun hHeld => ?_)
        · (refine ⟨?_, ?_, ?_, ?_, ?_⟩ <;> first | assumption | (simp [*]; done))
        clear hK K
        try simp only [Act.put, List.setIfInBounds_toArray, List.set_cons_zero, List.set_cons_succ]
        refine RegH.consH (i := 13) rfl (by kernel_rfl) (fun K hK => ?_)
        go_simp
        go_at_call 14
        refine (HSB.out qW123 HK3.out).mono ?_
        rintro e qW124 ⟨rfl, hbx⟩
        have HK4 := Lib.hid (below_then HK3.out hbx)
        have y4c0 := (HS.out.later HK4.out).d.c0
        have y4c1 := (HS.out.later HK4.out).q.c0
        have y4c2 := (HS.out.later HK4.out).q.c1
        have y4c3 := (HF.out.later HK4.out).l.c0
        have y4c4 := (HF.out.later HK4.out).l.c1
        clear hbx
        go_wp2_with fail
        refine hK.out _ _ ?_ (fun hHeld => ?_)
        · (refine ⟨?_, ?_, ?_, ?_, ?_⟩ <;> first | assumption | (simp [*]; done))
        clear hK K
        try simp only [Act.put, List.setIfInBounds_toArray, List.set_cons_zero, List.set_cons_succ]
        refine RegH.takeH (i := 14) (v := ?_) rfl (by kernel_rfl) (by kernel_rfl) (by kernel_rfl) (fun _ _ _ h => h) (Or.inl ⟨by rfl, ?_⟩) (by assumption) ?_
        rotate_left
        · (intro wS hSw; (try dsimp only at hSw); go_simp; try (with_reducible rfl))
        try simp only [Act.put, List.setIfInBounds_toArray, List.set_cons_zero, List.set_cons_succ]
        refine RegH.takeH (i := 15) (v := ?_) rfl (by kernel_rfl) (by kernel_rfl) (by kernel_rfl) (fun _ _ _ h => h) (Or.inl ⟨by rfl, ?_⟩) (by assumption) ?_
        rotate_left
        · (intro wS hSw; (try dsimp only at hSw); go_simp; try (with_reducible rfl))
        try simp only [Act.put, List.setIfInBounds_toArray, List.set_cons_zero, List.set_cons_succ]
        refine RegH.takeH (i := 16) (v := ?_) rfl (by kernel_rfl) (by kernel_rfl) (by kernel_rfl) (fun _ _ _ h => h) (Or.inl ⟨by rfl, ?_⟩) (by assumption) ?_
        rotate_left
        · (intro wS hSw; (try dsimp only at hSw); go_simp; try (with_reducible rfl))
        try simp only [Act.put, List.setIfInBounds_toArray, List.set_cons_zero, List.set_cons_succ]
        refine wpAnyH_done (by kernel_rfl) ?_ _
        have HBZ := Lib.hid (below_then HS.out.bl HK4.out)
        go_wp2_with fail
        go_ret
        exact ⟨rfl, HBZ.out⟩
    case neg =>
      have p1 : ¬ (i : Int) < (R.length : Int) := by omega
      clear z3 z4
      have z3 := HG.out.l.c0
      have z4 := HG.out.l.c1
      have z0 := HS.out.d.c0
      have z1 := HS.out.q.c0
      have z2 := HS.out.q.c1
      go_wp2_with fail
      refine (impl_true (.slice ad Ts.length cd) (.slice al L.length cl) Ts n L _ _ wr HS.out.td HS.out.tq HWT.out HSZ.out).mono ?_
      rintro e w10 ⟨vz, fz, rfl, hoz, _, hbx⟩
      obtain ⟨sa, sc, rfl⟩ := Cd.ow_slice hoz
      replace HS := Lib.hid (HS.out.later hbx)
      have HZ := Lib.hid (Cd.reads hoz)
      clear hbx hoz z0 z1 z2 z3 z4
      have z0 := HS.out.d.c0
      have z1 := HS.out.q.c0
      have z2 := HS.out.q.c1
      go_wp2_with fail
      refine (impl_all (.slice ad Ts.length cd) (.slice al L.length cl) Ts n L _ _ w10 HS.out.td HS.out.tq HWT.out HSZ.out).mono ?_
      rintro e w11 ⟨b1, b2, fp, rfl, hob, _, hbx⟩
      obtain ⟨ba, bc, bb, bd, rfl, rfl⟩ := ans_shape hob
      have hA := below_alloc w11 (.cells #[.slice ba (evV Ts n L (fm n L)).length bc, .slice bb (evR Ts n L (fm n L)).length bd] 35 (0, 0))
      replace HS := Lib.hid ((HS.out.later hbx).later hA)
      replace HZ := Lib.hid (Cd.later (Cd.later HZ.out hbx) hA)
      have HF := Lib.hid (RA.of (e := 35) hob rfl)
      clear z0 z1 z2 hob hbx hA
      have z0 := HS.out.d.c0
      have z1 := HS.out.q.c0
      have z2 := HS.out.q.c1
      have z3 := HF.out.l.c0
      have z4 := HF.out.l.c1
      go_wp2_with fail
      clear z0 z1 z2 z3 z4
      generalize w11.alloc _ = W12 at *
      generalize w11.heap.size = XF at *
      have HSB := Lib.hid (fun (w' : World) (hb : Below W12.heap.size W12 w') => spec_sub (.slice ad Ts.length cd) (.slice al L.length cl) Ts n (fm n L) L _ _ w' (HS.out.later hb).td (HS.out.later hb).tq HWT.out)
      rw [HFULL.out] at HSB
      have HFM := Lib.hid (fun (w' : World) (hb : Below W12.heap.size W12 w') => spec_full n (.slice al L.length cl) L _ w' (HS.out.later hb).tq)
      have HTS := Lib.hid (fun (w' : World) (hb : Below W12.heap.size W12 w') => spec_true (.slice ad Ts.length cd) (.slice al L.length cl) Ts n L _ _ w' (HS.out.later hb).td (HS.out.later hb).tq HWT.out)
      clear HFULL
      generalize evR Ts n L (fm n L) = RF at *
      generalize evV Ts n L (fm n L) = VF at *
      generalize evOk Ts n L (fm n L) = BF at *
      generalize ((fm n L : Nat) : Int) = F at *
      generalize tsL Ts n L = TL at *
      have HK0 := Lib.hid (bd_drew W12)
      have z0 := HS.out.d.c0
      have z1 := HS.out.q.c0
      have z2 := HS.out.q.c1
      have z3 := HF.out.l.c0
      have z4 := HF.out.l.c1
      refine wp_region_held_drew (S := fun wx => wx.cell? ⟨X, 0, none⟩ = some (.slice ad Ts.length cd) ∧ wx.cell? ⟨X + 1, 0, none⟩ = some (.int .i64 n) ∧ wx.cell? ⟨X + 1, 1, none⟩ = some (.slice al L.length cl) ∧ wx.cell? ⟨XF, 0, none⟩ = some (.slice ba VF.length bc) ∧ wx.cell? ⟨XF, 1, none⟩ = some (.slice bb RF.length bd)) (by kernel_rfl) ?_ (fun hHeld => ?_)
      · (refine ⟨?_, ?_, ?_, ?_, ?_⟩ <;> first | assumption | (simp [*]; done))
      refine RegH.takeH (i := 0) (v := ?_) rfl (by kernel_rfl) (by kernel_rfl) (by kernel_rfl) (fun _ _ _ h => h) (Or.inl ⟨by rfl, ?_⟩) (by assumption) ?_
      rotate_left
      · (intro wS hSw; (try dsimp only at hSw); go_simp; try (with_reducible rfl))
      try simp only [Act.put, List.setIfInBounds_toArray, List.set_cons_zero, List.set_cons_succ]
      refine RegH.takeH (i := 1) (v := ?_) rfl (by kernel_rfl) (by kernel_rfl) (by kernel_rfl) (fun _ _ _ h => h) (Or.inl ⟨by rfl, ?_⟩) (by assumption) ?_
      rotate_left
      · (intro wS hSw; (try dsimp only at hSw); go_simp; try (with_reducible rfl))
      try simp only [Act.put, List.setIfInBounds_toArray, List.set_cons_zero, List.set_cons_succ]
      refine RegH.takeH (i := 2) (v := ?_) rfl (by kernel_rfl) (by kernel_rfl) (by kernel_rfl) (fun _ _ _ h => h) (Or.inl ⟨by rfl, ?_⟩) (by assumption) ?_
      rotate_left
      · (intro wS hSw; (try dsimp only at hSw); go_simp; try (with_reducible rfl))
      try simp only [Act.put, List.setIfInBounds_toArray, List.set_cons_zero, List.set_cons_succ]
      refine RegH.consH (i := 3) rfl (by kernel_rfl) (fun K hK => ?_)
      go_simp
      go_at_call 24
      refine (HTS.out W12.drew HK0.out).mono ?_
      rintro e qW121 ⟨vt, f_vt, rfl, hyo, _, hbx⟩
      obtain ⟨a_vt, c_vt, rfl⟩ := Cd.ow_slice hyo
      have Hvt := Lib.hid (Cd.reads hyo)
      have HK1 := Lib.hid (below_then HK0.out hbx)
      have y1c0 := (HS.out.later HK1.out).d.c0
      have y1c1 := (HS.out.later HK1.out).q.c0
      have y1c2 := (HS.out.later HK1.out).q.c1
      have y1c3 := (HF.out.later HK1.out).l.c0
      have y1c4 := (HF.out.later HK1.out).l.c1
      clear hyo hbx
      go_wp2_with fail
      refine hK.out _ _ ?_ (fun hHeld => ?_)
      · (refine ⟨?_, ?_, ?_, ?_, ?_⟩ <;> first | assumption | (simp [*]; done))
      clear hK K
      try simp only [Act.put, List.setIfInBounds_toArray, List.set_cons_zero, List.set_cons_succ]
      refine RegH.consH (i := 4) rfl (by kernel_rfl) (fun K hK => ?_)
      go_simp
      go_at_call 23
      refine (same_rd _ _ _ _ _ qW121 (Cd.later HZ.out HK1.out) Hvt.out).mono ?_
      rintro e qW122 ⟨rfl, hbx⟩
      have HK2 := Lib.hid (below_then HK1.out hbx)
      have y2c0 := (HS.out.later HK2.out).d.c0
      have y2c1 := (HS.out.later HK2.out).q.c0
      have y2c2 := (HS.out.later HK2.out).q.c1
      have y2c3 := (HF.out.later HK2.out).l.c0
      have y2c4 := (HF.out.later HK2.out).l.c1
      clear hbx
      go_wp2_with fail
      refine hK.out _ _ ?_ (fun hHeld => ?_)
      · (refine ⟨?_, ?_, ?_, ?_, ?_⟩ <;> first | assumption | (simp [*]; done))
      clear hK K
      try simp only [Act.put, List.setIfInBounds_toArray, List.set_cons_zero, List.set_cons_succ]
      refine RegH.takeH (i := 5) (v := ?_) rfl (by kernel_rfl) (by kernel_rfl) (by kernel_rfl) (fun _ _ _ h => h) (Or.inl ⟨by rfl, ?_⟩) (by assumption) ?_
      rotate_left
      · (intro wS hSw; (try dsimp only at hSw); go_simp; try (with_reducible rfl))
      try simp only [Act.put, List.setIfInBounds_toArray, List.set_cons_zero, List.set_cons_succ]
      refine RegH.takeH (i := 6) (v := ?_) rfl (by kernel_rfl) (by kernel_rfl) (by kernel_rfl) (fun _ _ _ h => h) (Or.inl ⟨by rfl, ?_⟩) (by assumption) ?_
      rotate_left
      · (intro wS hSw; (try dsimp only at hSw); go_simp; try (with_reducible rfl))
      try simp only [Act.put, List.setIfInBounds_toArray, List.set_cons_zero, List.set_cons_succ]
      refine RegH.takeH (i := 7) (v := ?_) rfl (by kernel_rfl) (by kernel_rfl) (by kernel_rfl) (fun _ _ _ h => h) (Or.inl ⟨by rfl, ?_⟩) (by assumption) ?_
      rotate_left
      · (intro wS hSw; (try dsimp only at hSw); go_simp; try (with_reducible rfl))
      try simp only [Act.put, List.setIfInBounds_toArray, List.set_cons_zero, List.set_cons_succ]
      refine RegH.takeH (i := 8) (v := ?_) rfl (by kernel_rfl) (by kernel_rfl) (by kernel_rfl) (fun _ _ _ h => h) (Or.inl ⟨by rfl, ?_⟩) (by assumption) ?_
      rotate_left
      · (intro wS hSw; (try dsimp only at hSw); go_simp; try (with_reducible rfl))
      try simp only [Act.put, List.setIfInBounds_toArray, List.set_cons_zero, List.set_cons_succ]
      refine RegH.takeH (i := 9) (v := ?_) rfl (by kernel_rfl) (by kernel_rfl) (by kernel_rfl) (fun _ _ _ h => h) (Or.inl ⟨by rfl, ?_⟩) (by assumption) ?_
      rotate_left
      · (intro wS hSw; (try dsimp only at hSw); go_simp; try (with_reducible rfl))
      try simp only [Act.put, List.setIfInBounds_toArray, List.set_cons_zero, List.set_cons_succ]
      refine RegH.takeH (i := 10) (v := ?_) rfl (by kernel_rfl) (by kernel_rfl) (by kernel_rfl) (fun _ _ _ h => h) (Or.inl ⟨by rfl, ?_⟩) (by assumption) ?_
      rotate_left
      · (intro wS hSw; (try dsimp only at hSw); go_simp; try (with_reducible rfl))
      try simp only [Act.put, List.setIfInBounds_toArray, List.set_cons_zero, List.set_cons_succ]
      refine RegH.takeH (i := 11) (v := ?_) rfl (by kernel_rfl) (by kernel_rfl) (by kernel_rfl) (fun _ _ _ h => h) (Or.inl ⟨by rfl, ?_⟩) (by assumption) ?_
      rotate_left
      · (intro wS hSw; (try dsimp only at hSw); go_simp; try (with_reducible rfl))
      try simp only [Act.put, List.setIfInBounds_toArray, List.set_cons_zero, List.set_cons_succ]
      refine RegH.consH (i := 12) rfl (by kernel_rfl) (fun K hK => ?_)
      go_simp
      go_at_call 25
      refine (HFM.out qW122 HK2.out).mono ?_
      rintro e qW123 ⟨rfl, hbx⟩
      have HK3 := Lib.hid (below_then HK2.out hbx)
      have y3c0 := (HS.out.later HK3.out).d.c0
      have y3c1 := (HS.out.later HK3.out).q.c0
      have y3c2 := (HS.out.later HK3.out).q.c1
      have y3c3 := (HF.out.later HK3.out).l.c0
      have y3c4 := (HF.out.later HK3.out).l.c1
      clear hbx
      go_wp2_with fail
      refine hK.out _ _ ?_ (fun hHeld => ?_)
      · (refine ⟨?_, ?_, ?_, ?_, ?_⟩ <;> first | assumption | (simp [*]; done))
      clear hK K
      try simp only [Act.put, List.setIfInBounds_toArray, List.set_cons_zero, List.set_cons_succ]
      refine RegH.consH (i := 13) rfl (by kernel_rfl) (fun K hK => ?_)
      go_simp
      go_at_call 14
      refine (HSB.out qW123 HK3.out).mono ?_
      rintro e qW124 ⟨rfl, hbx⟩
      have HK4 := Lib.hid (below_then HK3.out hbx)
      have y4c0 := (HS.out.later HK4.out).d.c0
      have y4c1 := (HS.out.later HK4.out).q.c0
      have y4c2 := (HS.out.later HK4.out).q.c1
      have y4c3 := (HF.out.later HK4.out).l.c0
      have y4c4 := (HF.out.later HK4.out).l.c1
      clear hbx
      go_wp2_with fail
      refine hK.out _ _ ?_ (fun hHeld => ?_)
      · (refine ⟨?_, ?_, ?_, ?_, ?_⟩ <;> first | assumption | (simp [*]; done))
      clear hK K
      try simp only [Act.put, List.setIfInBounds_toArray, List.set_cons_zero, List.set_cons_succ]
      refine RegH.takeH (i := 14) (v := ?_) rfl (by kernel_rfl) (by kernel_rfl) (by kernel_rfl) (fun _ _ _ h => h) (Or.inl ⟨by rfl, ?_⟩) (by assumption) ?_
      rotate_left
      · (intro wS hSw; (try dsimp only at hSw); go_simp; try (with_reducible rfl))
      try simp only [Act.put, List.setIfInBounds_toArray, List.set_cons_zero, List.set_cons_succ]
      refine RegH.takeH (i := 15) (v := ?_) rfl (by kernel_rfl) (by kernel_rfl) (by kernel_rfl) (fun _ _ _ h => h) (Or.inl ⟨by rfl, ?_⟩) (by assumption) ?_
      rotate_left
      · (intro wS hSw; (try dsimp only at hSw); go_simp; try (with_reducible rfl))
      try simp only [Act.put, List.setIfInBounds_toArray, List.set_cons_zero, List.set_cons_succ]
      refine RegH.takeH (i := 16) (v := ?_) rfl (by kernel_rfl) (by kernel_rfl) (by kernel_rfl) (fun _ _ _ h => h) (Or.inl ⟨by rfl, ?_⟩) (by assumption) ?_
      rotate_left
      · (intro wS hSw; (try dsimp only at hSw); go_simp; try (with_reducible rfl))
      try simp only [Act.put, List.setIfInBounds_toArray, List.set_cons_zero, List.set_cons_succ]
      refine wpAnyH_done (by kernel_rfl) ?_ _
      have HBZ := Lib.hid (below_then HS.out.bl HK4.out)
      go_wp2_with fail
      go_ret
      exact ⟨rfl, HBZ.out⟩
  
end Go.Proofs.YtdkhgeknjekkoaaGreat.RefWalk
