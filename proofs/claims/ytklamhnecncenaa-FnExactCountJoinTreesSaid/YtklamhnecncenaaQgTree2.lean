/- The query graph: how many join trees: the program's function, with its memo. -/
import Derived.Test.YtklamhnecncenaaQgTree
import Derived.Test.YtklamhnecncenaaQgImp
import Derived.Maps.OwnSet
namespace Go.Proofs.Ytklamhnecncenaa.QgTree
open Go Go.RowKit Byt Ints IntsLaw Cd Rows2 Tab TabSpec Exact Atom QryMath QrySpec QryImp MkAtom SlMath QgMath QgSpec QgImp
open Go.Maps (Keyed int_keyed IsMap Tidy)

theorem pigeon : ∀ (N : Nat) (l : List Nat), l.Nodup → (∀ x ∈ l, x < N) → l.length ≤ N
  | 0, l, _, h => by
    cases l with
    | nil => exact Nat.le_refl _
    | cons x xs => exact absurd (h x List.mem_cons_self) (by omega)
  | N + 1, l, hn, h => by
    by_cases hm : N ∈ l
    · have h1 := pigeon N (l.erase N) (hn.erase N) (fun x hx => by
        obtain ⟨h2, h3⟩ := hn.mem_erase_iff.1 hx
        have := h x h3
        omega)
      rw [List.length_erase_of_mem hm] at h1
      omega
    · have h1 := pigeon N l hn (fun x hx => by
        have h2 := h x hx
        have h3 : x ≠ N := fun q => hm (by rw [← q]; exact hx)
        omega)
      omega
theorem T_all {G m : Nat} (h : m ≤ 16) : T G m ≤ 28572745241105 := trees_le G 3 1336337 (trees3_le G) m h
theorem lawN : Keyed Try.prog 3 := int_keyed Try.underlying3
theorem zeroN (w : World) : (zeroValue 3).run Try.prog w = .ok (.int .i64 0) w := by kernel_rfl
theorem keyN {x : Int} (h : -9223372036854775808 ≤ x ∧ x ≤ 9223372036854775807) : keyOf Try.prog 3 (.int .i64 x) = some (.int .i64 x) := by
  unfold keyOf
  simp [Try.underlying3, mapKey, Lit.wf, IntKind.min, IntKind.max, IntKind.signed, IntKind.bits]
  omega
theorem wfN {x : Nat} (h : x ≤ 28572745241105) : (Lit.int .i64 (x : Int)).wf = true := by
  simp [Lit.wf, IntKind.min, IntKind.max, IntKind.signed, IntKind.bits]
  omega
abbrev OwnsM (w : World) (b n : Nat) (D : DataW Value) : Prop := w.ownsMap Try.prog 3 (plainElem Try.prog 3) b n D
/-- The memo holds the right numbers for the masks of ks, and no others. -/
structure Memo (G : Nat) (D : DataW Value) (ks : List Nat) : Prop where
  tidy : Tidy D
  nd : ks.Nodup
  lt : ∀ x ∈ ks, x < 16
  no : ∀ x : Nat, x ∉ ks → Maps.has D (.int .i64 (x : Int)) = false
  yes : ∀ x ∈ ks, Maps.has D (.int .i64 (x : Int)) = true ∧ D.atKey (.int .i64 (x : Int)) (.lit (.int .i64 0)) = .lit (.int .i64 (T G x : Int))
theorem Memo.start (G : Nat) : Memo G (.map []) [] := ⟨Maps.tidy_empty, List.nodup_nil, fun x h => absurd h (by simp), fun _ _ => rfl, fun x h => absurd h (by simp)⟩
theorem Memo.len {G : Nat} {D : DataW Value} {ks : List Nat} (h : Memo G D ks) : ks.length ≤ 16 := pigeon 16 ks h.nd h.lt
theorem keyNe {x y : Nat} (h : x ≠ y) : (Lit.int .i64 (x : Int)) ≠ Lit.int .i64 (y : Int) := fun q => h (by injection q with _ q; omega)
theorem Memo.put {G : Nat} {D : DataW Value} {ks : List Nat} (h : Memo G D ks) {t : Nat} (ht : t < 16) (hn : t ∉ ks) : Memo G (D.put (.int .i64 (t : Int)) (.lit (.int .i64 (T G t : Int)))) (ks ++ [t]) := by
  have hk : WideAt.IsKeyLit (.int .i64 (t : Int)) := trivial
  refine ⟨h.tidy.put hk _, ?_, ?_, ?_, ?_⟩
  · rw [List.nodup_append]
    refine ⟨h.nd, by simp, fun a ha b hb => ?_⟩
    rw [List.mem_singleton.1 hb]
    exact fun q => hn (by rw [← q]; exact ha)
  · intro x hx
    rcases List.mem_append.1 hx with q | q
    · exact h.lt x q
    · rw [List.mem_singleton.1 q]; exact ht
  · intro x hx
    have h1 : x ∉ ks := fun q => hx (List.mem_append_left _ q)
    have h2 : x ≠ t := fun q => hx (List.mem_append_right _ (by rw [q]; simp))
    rw [Maps.has_put_other (keyNe h2)]
    exact h.no x h1
  · intro x hx
    by_cases e : x = t
    · subst e
      exact ⟨Maps.has_put_same h.tidy.isMap hk _, Maps.atKey_put_same h.tidy.isMap hk _ _⟩
    · have h1 : x ∈ ks := by
        rcases List.mem_append.1 hx with q | q
        · exact q
        · exact absurd (List.mem_singleton.1 q) e
      rw [Maps.has_put_other (keyNe e), Maps.atKey_put_other (keyNe e)]
      exact h.yes x h1
theorem OwnsM.touch {w w' : World} {b n : Nat} {D : DataW Value} (h : OwnsM w b n D) (hb : Below w.heap.size w w') : OwnsM w' b n D := World.ownsMap.kept (row := none) h ⟨hb.os, hb.tape, hb.output, hb.size, fun i hi _ => hb.block i hi⟩ (by simp)
/-- The variables that the closure captures. -/
structure Env (w : World) (n : Int) (u : Value) (bq bc bf bm : Nat) : Prop where
  q : Loc2 w bq (.int .i64 n) u
  c : w.cell? ⟨bc, 0, none⟩ = some (.map (some bm))
  f : w.cell? ⟨bf, 0, none⟩ = some (.func (.func 106) #[] #[.pointer (some ⟨bc, 0, none⟩), .pointer (some ⟨bq, 0, none⟩), .pointer (some ⟨bf, 0, none⟩)])
  lc : bc < w.heap.size
  lf : bf < w.heap.size
  nq : bq ≠ bm
  nc : bc ≠ bm
  nf : bf ≠ bm
theorem Env.touched {w w' : World} {n : Int} {u : Value} {bq bc bf bm : Nat} (h : Env w n u bq bc bf bm) (ht : Cd.Touch [bm] w w') : Env w' n u bq bc bf bm :=
  ⟨h.q.touched ht (by simp [h.nq]), ht.cell h.c (by simp [h.nc]), ht.cell h.f (by simp [h.nf]), Nat.lt_of_lt_of_le h.lc ht.size, Nat.lt_of_lt_of_le h.lf ht.size, h.nq, h.nc, h.nf⟩
/-- What a call of the closure leaves. -/
def CloAns (G bm t : Nat) (ks : List Nat) (w w' : World) : Prop := ∃ (ks' : List Nat) (D' : DataW Value), OwnsM w' bm ks'.length D' ∧ Memo G D' ks' ∧ (∀ x ∈ ks', x ∈ ks ∨ x ≤ t) ∧ Cd.Touch [bm] w w'
/-- .. and what its loop carries. -/
def MInv (G bm t : Nat) (ks : List Nat) (w w' : World) : Prop := ∃ (ks' : List Nat) (D' : DataW Value), OwnsM w' bm ks'.length D' ∧ Memo G D' ks' ∧ (∀ x ∈ ks', x ∈ ks ∨ x < t) ∧ Cd.Touch [bm] w w'
theorem touch_drew (fp : List Nat) (w : World) : Cd.Touch fp w w.drew := ⟨rfl, rfl, rfl, Nat.le_refl _, fun _ _ _ => rfl⟩
/-- A call of the closure at t. -/
def CloOk (n : Int) (u : Value) (G : Nat) (w0 : World) (bq bc bf bm t : Nat) : Prop :=
  ∀ (w : World) (ks : List Nat) (D : DataW Value), Below w0.heap.size w0 w → Env w n u bq bc bf bm → OwnsM w bm ks.length D → Memo G D ks →
    Calls Try.prog 106 #[.int .i64 (t : Int), .pointer (some ⟨bc, 0, none⟩), .pointer (some ⟨bq, 0, none⟩), .pointer (some ⟨bf, 0, none⟩)] w fun e w' => e = .returned (.int .i64 (T G t : Int)) ∧ CloAns G bm t ks w w'
set_option maxRecDepth 100000 in
set_option maxHeartbeats 3200000 in
/-- One split: the trees of its two parts. -/
theorem part_rec (n : Int) (u : Value) (G : Nat) (w0 : World) (bq bc bf bm bk t p : Nat) (hbm : w0.heap.size ≤ bm) (hkm : bk ≠ bm) (ht : t < 16) (hp : p < t) (hp1 : 1 ≤ p) (hsub : p &&& t = p) (hx6 : T G p ≤ 1336337) (hy6 : T G (t - p) ≤ 1336337)
    (h1 : CloOk n u G w0 bq bc bf bm p) (h2 : CloOk n u G w0 bq bc bf bm (t - p)) (w : World) (ks : List Nat) (D : DataW Value) (hb0 : Below w0.heap.size w0 w) (henv : Env w n u bq bc bf bm) (hk : w.cell? ⟨bk, 0, none⟩ = some (.int .i64 (t : Int))) (hown : OwnsM w bm ks.length D) (hmemo : Memo G D ks) :
    Calls Try.prog 108 #[.int .i64 (p : Int), .pointer (some ⟨bf, 0, none⟩), .pointer (some ⟨bk, 0, none⟩)] w fun e w' => e = .returned (.int .i64 ((T G p : Int) * (T G (t - p) : Int))) ∧ MInv G bm t ks w w' := by
  have H1 := Lib.hid (h1 w.drew ks D (below_then hb0 (bd_drew w)) (henv.touched (touch_drew _ w)) hown hmemo)
  have H2 := Lib.hid h2
  unfold CloOk at H2
  have HENV := Lib.hid henv
  have HKC := Lib.hid hk
  have HKM := Lib.hid hkm
  have HB0 := Lib.hid hb0
  have HBM := Lib.hid hbm
  have HPT := Lib.hid (And.intro hp hp1)
  have hnd := not_bits t ht p (by omega)
  rw [(not_sub t ht p (by omega)).2 hsub] at hnd
  have hmul := mul_w hx6 hy6
  have e3 := henv.f
  clear hb0 henv hown hmemo h1 h2 hkm hbm hp hp1 hsub hx6 hy6 ht
  generalize T G p = x at *
  generalize T G (t - p) = y at *
  generalize hd : t - p = d at *
  have HD := Lib.hid hd
  clear hd
  go_enter Try.func108, Try.ntmps108
  go_wp2_with fail
  refine wp_region_held_drew (S := (fun wx => wx.cell? ⟨bf, 0, none⟩ = some (.func (.func 106) #[] #[.pointer (some ⟨bc, 0, none⟩), .pointer (some ⟨bq, 0, none⟩), .pointer (some ⟨bf, 0, none⟩)]) ∧ wx.cell? ⟨bk, 0, none⟩ = some (.int .i64 (t : Int)))) (by kernel_rfl) ?_ (fun hHeld => ?_)
  · (first | assumption | (exact ⟨by assumption, by assumption⟩) | (simp [*]; done))
  refine RegH.takeH (i := 0) (v := ?_) rfl (by kernel_rfl) (by kernel_rfl) (by kernel_rfl) (fun _ _ _ h => h) (Or.inl ⟨by rfl, ?_⟩) (by assumption) ?_
  rotate_left
  · (intro wS hSw; (try dsimp only at hSw); go_simp; try (with_reducible rfl))
  try simp only [Act.put, List.setIfInBounds_toArray, List.set_cons_zero, List.set_cons_succ]
  refine RegH.takeH (i := 1) (v := ?_) rfl (by kernel_rfl) (by kernel_rfl) (by kernel_rfl) (fun _ _ _ h => h) (Or.inl ⟨by rfl, ?_⟩) (by assumption) ?_
  rotate_left
  · (intro wS hSw; (try dsimp only at hSw); go_simp; try (with_reducible rfl))
  try simp only [Act.put, List.setIfInBounds_toArray, List.set_cons_zero, List.set_cons_succ]
  refine RegH.takeH (i := 3) (v := ?_) rfl (by kernel_rfl) (by kernel_rfl) (by kernel_rfl) (fun _ _ _ h => h) (Or.inl ⟨by rfl, ?_⟩) (by assumption) ?_
  rotate_left
  · (intro wS hSw; (try dsimp only at hSw); go_simp; try (with_reducible rfl))
  try simp only [Act.put, List.setIfInBounds_toArray, List.set_cons_zero, List.set_cons_succ]
  refine RegH.takeH (i := 4) (v := ?_) rfl (by kernel_rfl) (by kernel_rfl) (by kernel_rfl) (fun _ _ _ h => h) (Or.inl ⟨by rfl, ?_⟩) (by assumption) ?_
  rotate_left
  · (intro wS hSw; (try dsimp only at hSw); go_simp; try (with_reducible rfl))
  try simp only [Act.put, List.setIfInBounds_toArray, List.set_cons_zero, List.set_cons_succ]
  refine RegH.takeH (i := 5) (v := ?_) rfl (by kernel_rfl) (by kernel_rfl) (by kernel_rfl) (fun _ _ _ h => h) (Or.inl ⟨by rfl, ?_⟩) (by assumption) ?_
  rotate_left
  · (intro wS hSw; (try dsimp only at hSw); go_simp; try (with_reducible rfl))
  try simp only [Act.put, List.setIfInBounds_toArray, List.set_cons_zero, List.set_cons_succ]
  refine RegH.takeH (i := 6) (v := ?_) rfl (by kernel_rfl) (by kernel_rfl) (by kernel_rfl) (fun _ _ _ h => h) (Or.inl ⟨by rfl, ?_⟩) (by assumption) ?_
  rotate_left
  · (intro wS hSw; (try dsimp only at hSw); go_simp; try (with_reducible rfl))
  try simp only [Act.put, List.setIfInBounds_toArray, List.set_cons_zero, List.set_cons_succ]
  refine RegH.consH (i := 2) rfl (by kernel_rfl) (fun K hK => ?_)
  go_simp
  go_at_call 106
  refine H1.out.mono ?_
  rintro e wq ⟨rfl, hans⟩
  obtain ⟨ks2, D2, hown2, hmemo2, hks2, ht2⟩ := hans
  have HTQ := Lib.hid (Cd.Touch.trans (touch_drew [bm] w) ht2)
  have HE2 := Lib.hid (HENV.out.touched HTQ.out)
  have n0 := HE2.out.f
  have nk := Cd.Touch.cell HTQ.out HKC.out (by simp [HKM.out])
  have NK := Lib.hid nk
  have HB3 := Lib.hid (Cd.Touch.below HB0.out HTQ.out (fun b hb => by rw [List.mem_singleton.1 hb]; exact HBM.out))
  have H3 := Lib.hid (H2.out wq ks2 D2 HB3.out HE2.out hown2 hmemo2)
  have HKS2 := Lib.hid hks2
  clear hown2 hmemo2 hks2 ht2 H2
  go_wp2_with fail
  refine hK.out _ _ ?_ (fun hHeld => ?_)
  · (first | assumption | (exact ⟨by assumption, by assumption⟩) | (simp [*]; done))
  clear hK K
  try simp only [Act.put, List.setIfInBounds_toArray, List.set_cons_zero, List.set_cons_succ]
  refine RegH.consH (i := 7) rfl (by kernel_rfl) (fun K hK => ?_)
  go_simp
  go_at_call 106
  refine H3.out.mono ?_
  rintro e wp ⟨rfl, hans⟩
  obtain ⟨ks3, D3, hown3, hmemo3, hks3, ht3⟩ := hans
  have HTP := Lib.hid (Cd.Touch.trans HTQ.out ht3)
  have HE3 := Lib.hid (HE2.out.touched ht3)
  have n1 := HE3.out.f
  have nk1 := Cd.Touch.cell ht3 NK.out (by simp [HKM.out])
  have HINV := Lib.hid (show MInv G bm t ks w wp from ⟨ks3, D3, hown3, hmemo3, fun z hz => by
      have h1 := HPT.out
      have h2 := HD.out
      rcases hks3 z hz with q | q
      · rcases HKS2.out z q with q | q
        · exact .inl q
        · exact .inr (by omega)
      · exact .inr (by omega), HTP.out⟩)
  clear hown3 hmemo3 hks3 ht3
  go_wp2_with fail
  refine hK.out _ _ ?_ (fun hHeld => ?_)
  · (first | assumption | (exact ⟨by assumption, by assumption⟩) | (simp [*]; done))
  clear hK K
  try simp only [Act.put, List.setIfInBounds_toArray, List.set_cons_zero, List.set_cons_succ]
  refine RegH.takeH (i := 8) (v := ?_) rfl (by kernel_rfl) (by kernel_rfl) (by kernel_rfl) (fun _ _ _ h => h) (Or.inl ⟨by rfl, ?_⟩) (by assumption) ?_
  rotate_left
  · (intro wS hSw; (try dsimp only at hSw); go_simp; try (with_reducible rfl))
  try simp only [Act.put, List.setIfInBounds_toArray, List.set_cons_zero, List.set_cons_succ]
  refine RegH.takeH (i := 9) (v := ?_) rfl (by kernel_rfl) (by kernel_rfl) (by kernel_rfl) (fun _ _ _ h => h) (Or.inl ⟨by rfl, ?_⟩) (by assumption) ?_
  rotate_left
  · (intro wS hSw; (try dsimp only at hSw); go_simp; try (with_reducible rfl))
  try simp only [Act.put, List.setIfInBounds_toArray, List.set_cons_zero, List.set_cons_succ]
  refine wpAnyH_done (by kernel_rfl) ?_ _
  go_wp2_with fail
  go_ret
  exact ⟨rfl, HINV.out⟩
set_option maxRecDepth 100000 in
set_option maxHeartbeats 3200000 in
/-- The sum over the splits. -/
theorem sum_rec (n : Int) (u : Value) (G : Nat) (hG : G < 64) (w0 : World) (bq bc bf bm bk t : Nat) (hbm : w0.heap.size ≤ bm) (hkm : bk ≠ bm) (ht : t < 16) (X : List Int) (hX16 : X.length ≤ 16)
    (hmem : ∀ x ∈ X, ∃ p : Nat, x = (p : Int) ∧ p < t ∧ 1 ≤ p ∧ p &&& t = p ∧ CloOk n u G w0 bq bc bf bm p ∧ CloOk n u G w0 bq bc bf bm (t - p))
    (v : Value) (SX : Nat → Prop) (w1 : World) (hxr : rowC.rd w1 SX [v] X) (hSX : ¬ SX bm) (ks : List Nat) (D : DataW Value) (hb0 : Below w0.heap.size w0 w1) (henv : Env w1 n u bq bc bf bm) (hk : w1.cell? ⟨bk, 0, none⟩ = some (.int .i64 (t : Int))) (hown : OwnsM w1 bm ks.length D) (hmemo : Memo G D ks) :
    Calls Try.prog 107 #[v, .func (.func 108) #[] #[.pointer (some ⟨bf, 0, none⟩), .pointer (some ⟨bk, 0, none⟩)]] w1 fun e w' => e = .returned (.int .i64 (csum G t X : Int)) ∧ MInv G bm t ks w1 w' := by
  have HMEM := Lib.hid hmem
  have HXR := Lib.hid hxr
  have HSX := Lib.hid hSX
  have HE1 := Lib.hid henv
  have HKC := Lib.hid hk
  have HB0 := Lib.hid hb0
  have HBM := Lib.hid hbm
  have HTL := Lib.hid (fun (m : Nat) (h : m < 15) => T_le (G := G) hG h)
  have HCL := Lib.hid (show ∀ k, csum G t (X.take k) ≤ 28572745241232 from fun k => by
    have h1 := csum_le (X := X.take k) hG ht (fun x hx => by
      obtain ⟨p, e, h1, h2, _⟩ := hmem x (List.mem_of_mem_take hx)
      exact ⟨p, e, h1, h2⟩)
    rw [List.length_take] at h1
    have h4 : min k X.length ≤ 16 := by omega
    have h5 := Nat.mul_le_mul_right 1785796577569 h4
    omega)
  have HPR := Lib.hid (fun p hp hp1 hsub hx6 hy6 h1 h2 => part_rec n u G w0 bq bc bf bm bk t p hbm hkm ht hp hp1 hsub hx6 hy6 h1 h2)
  have HT16 := Lib.hid ht
  have HKM := Lib.hid hkm
  have HST := Lib.hid (show MInv G bm t ks w1 w1 from ⟨ks, D, hown, hmemo, fun x hx => .inl hx, Cd.Touch.refl _ _⟩)
  obtain ⟨ax, cx, rfl, hlm⟩ := row_form hxr
  clear hmem hxr hSX henv hk hb0 hbm hkm hown hmemo ht
  go_enter Try.func107, Try.ntmps107
  go_wp2_with fail
  go_loopw [5, 10] (fun s i wr => ∃ k : Nat, k ≤ X.length ∧ i = .int .i64 k ∧ s = .int .i64 (csum G t (X.take k) : Int) ∧ MInv G bm t ks w1 wr) (fun _ i _ => X.length - (intOf i).toNat)
  case atStart => exact ⟨0, Nat.zero_le _, rfl, rfl, HST.out⟩
  case round =>
    obtain ⟨k, hk, rfl, rfl, hinv⟩ := hrel
    by_cases hlt : k < X.length
    · obtain ⟨ks1, D1, hown1, hmemo1, hks1, ht1⟩ := hinv
      have hxr := rowC.touched HXR.out ht1 (fun b hb q => by
        rw [List.mem_singleton.1 hb] at q
        exact HSX.out q)
      obtain ⟨b1, off, cap', q1, hbB, hcell⟩ := ri_at (row_ri hxr).1 hlt
      injection q1 with q1 q2 q3
      subst q1 q3
      have HNX := Lib.hid (show csum G t (X.take (k + 1)) = csum G t (X.take k) + T G X[k].toNat * T G (t - X[k].toNat) by rw [List.take_succ_eq_append_getElem hlt, csum_snoc])
      have hc1 := HCL.out k
      have hc2 := HCL.out (k + 1)
      obtain ⟨p, hxp, hpt, hp1, hsub, hq1, hq2⟩ := HMEM.out _ (List.getElem_mem hlt)
      rw [hxp] at hcell HNX
      rw [Int.toNat_natCast] at HNX
      have p1 : (0 : Int) ≤ (k : Int) := by omega
      have p2 : (k : Int) < (X.length : Int) := by omega
      have p3 : (X.length : Int) ≤ 16 := by omega
      have hPC := HPR.out p hpt hp1 hsub (HTL.out p (by have := HT16.out; omega)) (HTL.out (t - p) (by have := HT16.out; omega)) hq1 hq2 wr ks1 D1 (Cd.Touch.below HB0.out ht1 (fun b hb => by rw [List.mem_singleton.1 hb]; exact HBM.out)) (HE1.out.touched ht1) (Cd.Touch.cell ht1 HKC.out (by simp [HKM.out])) hown1 hmemo1
      have HPC := Lib.hid hPC
      have HKS1 := Lib.hid hks1
      have HT1 := Lib.hid ht1
      have HLT := Lib.hid hlt
      rw [HNX.out] at hc2
      have hadd : IntKind.i64.wrap ((csum G t (X.take k) : Int) + (T G p : Int) * (T G (t - p) : Int)) = (csum G t (X.take k) : Int) + (T G p : Int) * (T G (t - p) : Int) := by
        have e : (T G p : Int) * (T G (t - p) : Int) = ((T G p * T G (t - p) : Nat) : Int) := by push_cast; rfl
        rw [e, IntKind.wrap_i64]
        omega
      have ha1 : -9223372036854775808 ≤ (csum G t (X.take k) : Int) + (T G p : Int) * (T G (t - p) : Int) ∧ (csum G t (X.take k) : Int) + (T G p : Int) * (T G (t - p) : Int) ≤ 9223372036854775807 := by
        have e : (T G p : Int) * (T G (t - p) : Int) = ((T G p * T G (t - p) : Nat) : Int) := by push_cast; rfl
        rw [e]
        omega
      clear hxr hPC hxp hpt hp1 hsub hq1 hq2 hlt hbB q2 hown1 hmemo1 hks1 ht1 hc1 hc2
      generalize csum G t (X.take k) = s at *
      generalize hz : (T G p : Int) * (T G (t - p) : Int) = z at *
      have HZ := Lib.hid hz
      clear hz
      obtain ⟨ha2, ha3⟩ := ha1
      go_wp2_with (go_at_call 108; refine HPC.out.mono ?_; rintro e wp ⟨rfl, hans⟩)
      have HINV := Lib.hid (show MInv G bm t ks w1 wp from by
        obtain ⟨ks2, D2, hown2, hmemo2, hks2, ht2⟩ := hans
        exact ⟨ks2, D2, hown2, hmemo2, fun z hz => by
          rcases hks2 z hz with q | q
          · exact HKS1.out z q
          · exact .inr q, Cd.Touch.trans HT1.out ht2⟩)
      clear hans
      go_wp2_with fail
      go_roundw
      case rel => exact ⟨k + 1, HLT.out, by go_num, by rw [HNX.out]; push_cast; rw [HZ.out], HINV.out⟩
      case measure => have := HLT.out; simp [intOf]; omega
    · have ek : k = X.length := by omega
      subst ek
      have HI := Lib.hid hinv
      have HZ := Lib.hid (show csum G t (X.take X.length) = csum G t X by rw [List.take_length])
      clear hinv
      generalize csum G t (X.take X.length) = s at *
      go_wp2_with fail
      go_ret
      exact ⟨ret_int (by rw [HZ.out]), HI.out⟩
set_option maxRecDepth 100000 in
set_option maxHeartbeats 3200000 in
theorem clo_rec (n : Int) (u : Value) (l : List A2) (S : Nat → Prop) (w0 : World) (hr0 : atomsC.rd w0 S [u] l) (bq bc bf bm : Nat) (hbm : w0.heap.size ≤ bm) (b : Nat) :
    ∀ (t : Nat), t ≤ b → cOk n l (t : Int) = true → CloOk n u (gr l) w0 bq bc bf bm t := by
  induction b with
  | zero =>
    intro t ht hc
    obtain ⟨t', e, _, _, h1, _⟩ := cOk_fm hc
    omega
  | succ b ih =>
  intro t ht hc w ks D hb00 henv0 hown0 hmemo
  have hG := gr_lt l
  have ht16 : t < 16 := by
    obtain ⟨t', e, h1, _⟩ := cOk_fm hc
    have := fm_lt n l
    omega
  have hbA := below_alloc w (.cells #[.int .i64 (t : Int)] 3)
  have hkA : (w.alloc (.cells #[.int .i64 (t : Int)] 3)).cell? ⟨w.heap.size, 0, none⟩ = some (.int .i64 (t : Int)) := by
    rw [World.cell?_alloc_at _ _ _ _ (by simp)]
    rfl
  have hkm : w.heap.size ≠ bm := Nat.ne_of_gt (World.ownsMap.lt hown0)
  have hza : (w.alloc (.cells #[.int .i64 (t : Int)] 3)).heap.size = w.heap.size + 1 := size_alloc ..
  have henv := henv0.touched (Cd.Touch.of_below hbA)
  have hown := OwnsM.touch hown0 hbA
  have hb0 := below_then hb00 hbA
  have HTA := Lib.hid (Cd.Touch.of_below (fp := [bm]) hbA)
  have HBML := Lib.hid (World.ownsMap.lt hown0)
  obtain ⟨v, ps, hrun, hv⟩ := World.ownsMap.look_ok (t := 100) hown lawN Try.underlying100 (zeroN _) (zd := .lit (.int .i64 0)) (zp := []) (plainElem_int Try.underlying3 (by decide)) (keyN (x := (t : Int)) (by omega))
  obtain ⟨c, rfl, hcv, hwc⟩ := plainElem_int_inv Try.underlying3 hv
  have hat := congrArg Prod.fst hcv
  simp only at hat
  have e0 := henv.c
  by_cases hin : t ∈ ks
  · obtain ⟨h1, h2⟩ := hmemo.yes t hin
    rw [h1] at hrun
    rw [h2] at hat
    have hcT : c = (T (gr l) t : Int) := by
      injection hat with hat
      injection hat with _ hat
      exact hat.symm
    subst hcT
    have HA := Lib.hid (show CloAns (gr l) bm t ks w (w.alloc (.cells #[.int .i64 (t : Int)] 3)) from ⟨ks, D, hown, hmemo, fun x hx => .inl hx, HTA.out⟩)
    clear hcv hwc hat h1 h2 hin hown hown0 hmemo ih hr0 hv henv0 hb00
    generalize (T (gr l) t : Int) = z at *
    go_enter Try.func106, Try.ntmps106
    go_wp2_with fail
    go_ret
    exact ⟨rfl, HA.out⟩
  rw [hmemo.no t hin] at hrun
  clear hcv hwc hat hv
  have hr := Cd.later hr0 hb0
  have hcn : conn (gr l) t = true := (cOk_iff.1 hc).2
  have HJS := Lib.hid (fun w' (hb : Below (w.alloc (.cells #[.int .i64 (t : Int)] 3)).heap.size (w.alloc (.cells #[.int .i64 (t : Int)] 3)) w') => impl_js n (t : Int) u l S w' (Cd.later hr hb))
  rw [jsL_yes hc] at HJS
  have HXL := Lib.hid (fil_len (isSplit (gr l) t) t)
  have HSUM := Lib.hid (fun v SX w1 => sum_rec n u (gr l) hG w0 bq bc bf bm w.heap.size t hbm hkm ht16 (fil (isSplit (gr l) t) t) (by have := fil_len (isSplit (gr l) t) t; omega) (fun x hx => by
    obtain ⟨p, e, h1, h2, h3, h4, h5⟩ := fil_mem hx
    exact ⟨p, e, h1, h2, h5, ih p (by omega) (cOk_part hc (by omega) h3), ih (t - p) (by omega) (cOk_part hc (by omega) h4)⟩) v SX w1)
  have HT16 := Lib.hid ht16
  have HNIN := Lib.hid hin
  have HENV := Lib.hid henv
  have HOWN := Lib.hid hown
  have HMEMO := Lib.hid hmemo
  have HB0 := Lib.hid hb0
  have HKA := Lib.hid hkA
  have HKM := Lib.hid hkm
  have HZA := Lib.hid hza
  have e1 := henv.q.c0
  have e2 := henv.q.c1
  obtain ⟨a, cap, rfl, hlm⟩ := Cd.sl_form hr
  by_cases hs : splits (gr l) t = []
  · have HZ := Lib.hid (T_single hs)
    have hX := fil_nil.2 hs
    rw [hX] at HJS
    clear hr hr0 ih hs hG ht16 hcn hc hin hX henv hown hmemo hb0 henv0 hown0 hb00 HSUM hkm
    go_enter Try.func106, Try.ntmps106
    go_wp2_with fail
    refine (HJS.out _ (Below.refl _ _)).mono ?_
    rintro e w1 ⟨x', fx, rfl, hox, _, hb1⟩
    obtain ⟨ax, cx, rfl, _⟩ := (row_ri (rowC.ow_rd hox)).1
    have HB1 := Lib.hid hb1
    have HA := Lib.hid (show CloAns (gr l) bm t ks w w1 from ⟨ks, D, OwnsM.touch HOWN.out hb1, HMEMO.out, fun x hx => .inl hx, Cd.Touch.trans HTA.out (Cd.Touch.of_below hb1)⟩)
    clear hb1 hox
    go_wp2_with fail
    go_ret
    exact ⟨ret_int (by rw [HZ.out]; rfl), HA.out⟩
  have HZ := Lib.hid (T_sum hG ht16 hs)
  have hxpos : ¬ ((fil (isSplit (gr l) t) t).length = 0) := fun q => hs (fil_nil.1 (List.length_eq_zero_iff.1 q))
  clear hr hr0 ih hs hG ht16 hcn hc hin henv hown hmemo hb0 henv0 hown0 hb00 hkm
  generalize fil (isSplit (gr l) t) t = X at *
  generalize gr l = G at *
  have x1 : (((X.length : Nat) : Int) == 0) = false := by rw [beq_eq_false_iff_ne]; omega
  have x2 : ¬ (((X.length : Nat) : Int) = 0) := by omega
  have hmf : ∀ (fn : Fn) (first cap : Array Value) (w : World), (Instr.makeFunc fn first cap).run Try.prog w = .ok (.func fn first cap) w := fun _ _ _ _ => rfl
  go_enter Try.func106, Try.ntmps106
  go_wp2_with fail
  refine (HJS.out _ (Below.refl _ _)).mono ?_
  rintro e w1 ⟨x', fx, rfl, hox, _, hb1⟩
  have HB1 := Lib.hid hb1
  have HXR := Lib.hid (rowC.ow_rd hox)
  have HFX := Lib.hid (show ¬ (fun b => b ∈ fx) bm from fun q => by
    have h1 := (rowC.ow_lt hox bm q).1
    have h2 := HBML.out
    have h3 := HZA.out
    omega)
  obtain ⟨ax, cx, rfl, _⟩ := (row_ri (rowC.ow_rd hox)).1
  have HE1 := Lib.hid (HENV.out.touched (Cd.Touch.of_below hb1))
  have HK1 := Lib.hid ((hb1.cell (p := ⟨w.heap.size, 0, none⟩) (World.block_lt_of_cell? _ _ HKA.out)).trans HKA.out)
  have HO1 := Lib.hid (OwnsM.touch HOWN.out hb1)
  have HB01 := Lib.hid (below_then HB0.out hb1)
  have HT1 := Lib.hid (Cd.Touch.trans HTA.out (Cd.Touch.of_below (fp := [bm]) hb1))
  clear hb1 hox hrun e0 e1 e2
  go_wp2_with fail
  clear x1 x2 hmf
  refine (HSUM.out _ _ w1 HXR.out HFX.out ks D HB01.out HE1.out HK1.out HO1.out HMEMO.out).mono ?_
  rintro e wr ⟨rfl, hinv⟩
  obtain ⟨ks1, D1, hown1, hmemo1, hks1, ht1⟩ := hinv
  have e0 := (HE1.out.touched ht1).c
  have e3 := Cd.Touch.cell ht1 HK1.out (by simp [HKM.out])
  rw [HZ.out]
  have hn6 : ks1.length < maxLen := by have := hmemo1.len; unfold maxLen; omega
  have HPUT := Lib.hid (hmemo1.put HT16.out (fun q => by
    rcases hks1 t q with r | r
    · exact HNIN.out r
    · omega))
  have HK := Lib.hid (keyN (x := (t : Int)) (by have := HT16.out; omega))
  have HPE := Lib.hid (plainElem_int (H := Value) (P := Try.prog) (e := 3) Try.underlying3 (wfN (T_all (G := G) (m := t) (by have := HT16.out; omega))))
  have HKS1 := Lib.hid hks1
  have HTR := Lib.hid (Cd.Touch.trans HT1.out ht1)
  clear hmemo1 hks1 ht1
  generalize hx : T G t = x at *
  have HTX := Lib.hid hx
  clear hx
  go_wp2_with (first
    | (at_mapUpdate; refine wpList_mapUpdate_own _ rfl _ _ _ 100 rfl 3 3 lawN Try.underlying100 (plainElem Try.prog 3) bm ks1.length D1 rfl hown1 hn6 _ _ (.int .i64 (t : Int)) rfl rfl HK.out (.lit (.int .i64 (x : Int))) [] HPE.out ?_; intro w2 hown2 hg2; go_frame)
    | go_in)
  have HA := Lib.hid (show CloAns G bm t ks w w2 from ⟨ks1 ++ [t], _, by rw [List.length_append]; exact hown2, HPUT.out, fun z hz => by
    rcases List.mem_append.1 hz with q | q
    · rcases HKS1.out z q with r | r
      · exact .inl r
      · exact .inr (by omega)
    · exact .inr (by rw [List.mem_singleton.1 q]; exact Nat.le_refl _), Cd.Touch.trans HTR.out ⟨hg2.os, hg2.tape, hg2.output, hg2.size, fun k hk hn => hg2.block k hk (by simpa using hn)⟩⟩)
  clear hown2 hg2 hown1
  go_wp2_with fail
  go_ret
  exact ⟨ret_int (by rw [HTX.out]), HA.out⟩
theorem row1c {w : World} {k : Nat} {a : Value} {e : TypeId} (h : w.heap[k]? = some (.cells #[a] e (0, 0))) : w.cell? ⟨k, 0, none⟩ = some a := by simp [World.cell?, h]
theorem env_made (w1 : World) (n : Int) (u : Value) (bq : Nat) (hq : Loc2 w1 bq (.int .i64 n) u) :
    Env (((w1.alloc (.map #[] 0)).alloc (.cells #[.map (some w1.heap.size)] 100)).alloc (.cells #[.func (.func 106) #[] #[.pointer (some ⟨w1.heap.size + 1, 0, none⟩), .pointer (some ⟨bq, 0, none⟩), .pointer (some ⟨w1.heap.size + 1 + 1, 0, none⟩)]] 101)) n u bq (w1.heap.size + 1) (w1.heap.size + 1 + 1) w1.heap.size ∧
    OwnsM (((w1.alloc (.map #[] 0)).alloc (.cells #[.map (some w1.heap.size)] 100)).alloc (.cells #[.func (.func 106) #[] #[.pointer (some ⟨w1.heap.size + 1, 0, none⟩), .pointer (some ⟨bq, 0, none⟩), .pointer (some ⟨w1.heap.size + 1 + 1, 0, none⟩)]] 101)) w1.heap.size ([] : List Nat).length (.map []) ∧
    Below w1.heap.size w1 (((w1.alloc (.map #[] 0)).alloc (.cells #[.map (some w1.heap.size)] 100)).alloc (.cells #[.func (.func 106) #[] #[.pointer (some ⟨w1.heap.size + 1, 0, none⟩), .pointer (some ⟨bq, 0, none⟩), .pointer (some ⟨w1.heap.size + 1 + 1, 0, none⟩)]] 101)) := by
  generalize hA : w1.alloc (.map #[] 0) = A
  have hm : OwnsM A w1.heap.size 0 (.map []) := by rw [← hA]; exact World.ownsMap_made w1 Try.prog 3 (plainElem Try.prog 3)
  have hzA : A.heap.size = w1.heap.size + 1 := by rw [← hA, size_alloc]
  have hbA : Below w1.heap.size w1 A := by rw [← hA]; exact below_alloc _ _
  clear hA
  generalize hB : A.alloc (.cells #[.map (some w1.heap.size)] 100) = B
  have hzB : B.heap.size = w1.heap.size + 1 + 1 := by rw [← hB, size_alloc, hzA]
  have hbB : Below A.heap.size A B := by rw [← hB]; exact below_alloc _ _
  have hcB : B.cell? ⟨w1.heap.size + 1, 0, none⟩ = some (.map (some w1.heap.size)) := by
    have := row_alloc A (.cells #[.map (some w1.heap.size)] 100)
    rw [hB, hzA] at this
    exact row1c this
  clear hB
  generalize hF : B.alloc _ = F
  have hzF : F.heap.size = w1.heap.size + 1 + 1 + 1 := by rw [← hF, size_alloc, hzB]
  have hbF : Below B.heap.size B F := by rw [← hF]; exact below_alloc _ _
  have hcF : F.cell? ⟨w1.heap.size + 1 + 1, 0, none⟩ = some (.func (.func 106) #[] #[.pointer (some ⟨w1.heap.size + 1, 0, none⟩), .pointer (some ⟨bq, 0, none⟩), .pointer (some ⟨w1.heap.size + 1 + 1, 0, none⟩)]) := by
    have := row_alloc B (.cells #[.func (.func 106) #[] #[.pointer (some ⟨w1.heap.size + 1, 0, none⟩), .pointer (some ⟨bq, 0, none⟩), .pointer (some ⟨w1.heap.size + 1 + 1, 0, none⟩)]] 101)
    rw [hF, hzB] at this
    exact row1c this
  have hbw := below_then hbA (below_then hbB hbF)
  have hlt := hq.lt
  refine ⟨⟨hq.later hbw, (hbF.cell (p := ⟨w1.heap.size + 1, 0, none⟩) (by show w1.heap.size + 1 < _; omega)).trans hcB, hcF, by omega, by omega, by omega, by omega, by omega⟩, OwnsM.touch hm (below_then hbB hbF), hbw⟩
set_option maxRecDepth 100000 in
set_option maxHeartbeats 1600000 in
theorem impl_trees (n m : Int) (u : Value) (l : List A2) (S : Nat → Prop) (w : World) (hr : atomsC.rd w S [u] l) :
    Calls Try.prog 64 #[.agg #[.int .i64 n, u], .int .i64 m] w fun e w' => e = .returned (.int .i64 (ct n l m : Int)) ∧ Below w.heap.size w w' := by
  have HCN := Lib.hid (fun w' (hb : Below w.heap.size w w') => impl_conn n m u l S w' (Cd.later hr hb))
  have HCLO := Lib.hid (fun bq bc bf bm hbm t => clo_rec n u l S w hr bq bc bf bm hbm t t (Nat.le_refl _))
  obtain ⟨a, cap, rfl, hlm⟩ := Cd.sl_form hr
  clear hr
  have HC := Lib.hid (Loc2.of (row_alloc w (.cells #[.int .i64 n, .slice a l.length cap] 60)))
  have HB := Lib.hid (below_alloc w (.cells #[.int .i64 n, .slice a l.length cap] 60))
  cases hc : cOk n l m
  · have HZ := Lib.hid (show (0 : Int) = ((ct n l m : Nat) : Int) by rw [ct_no hc]; rfl)
    rw [hc] at HCN
    clear hc
    go_enter Try.func64, Try.ntmps64
    go_wp2_with fail
    generalize w.alloc _ = W at *
    refine (HCN.out _ HB.out).mono ?_
    rintro e w1 ⟨rfl, hb1⟩
    have HB1 := Lib.hid (below_then HB.out hb1)
    clear hb1
    go_wp2_with fail
    go_ret
    exact ⟨ret_int HZ.out, HB1.out⟩
  obtain ⟨t, rfl, _⟩ := cOk_fm hc
  have HCT := Lib.hid hc
  rw [ct_yes hc]
  rw [hc] at HCN
  clear hc
  have hmm := @run_makeMap Try.prog
  have hmf : ∀ (fn : Fn) (first cap : Array Value) (w : World), (Instr.makeFunc fn first cap).run Try.prog w = .ok (.func fn first cap) w := fun _ _ _ _ => rfl
  have hsf := fun (a : Addr) (c : Array Value) (w : World) => run_store Try.prog w a (.func (.func 106) #[] c) .plain rfl
  generalize hT0 : T (gr l) t = T0 at *
  have HT0 := Lib.hid hT0
  clear hT0
  go_enter Try.func64, Try.ntmps64
  go_wp2_with fail
  generalize w.alloc _ = W at *
  refine (HCN.out _ HB.out).mono ?_
  rintro e w1 ⟨rfl, hb1⟩
  have HB1 := Lib.hid (below_then HB.out hb1)
  have HC1 := Lib.hid (HC.out.later hb1)
  clear hb1
  go_wp2_with fail
  clear hmm hmf hsf
  obtain ⟨henv, hown, hb3⟩ := env_made w1 n (.slice a l.length cap) w.heap.size HC1.out
  generalize World.alloc (World.alloc (w1.alloc _) _) _ = W3 at *
  have HB3 := Lib.hid (below_then HB1.out hb3)
  have hsz := HB1.out.size
  refine (HCLO.out w.heap.size (w1.heap.size + 1) (w1.heap.size + 1 + 1) w1.heap.size hsz t HCT.out W3 [] (.map []) HB3.out henv hown (Memo.start _)).mono ?_
  rintro e w4 ⟨rfl, hans⟩
  obtain ⟨ks', D', _, _, _, ht4⟩ := hans
  have HB4 := Lib.hid (Cd.Touch.below HB3.out ht4 (fun b hb => by rw [List.mem_singleton.1 hb]; exact hsz))
  clear henv hown hb3 hsz ht4
  go_wp2_with fail
  go_ret
  exact ⟨ret_int (by rw [HT0.out]), HB4.out⟩
end Go.Proofs.Ytklamhnecncenaa.QgTree
