/- Inclusions: read: the model's function and the program's. -/
import Derived.Test.YthnphlgkkfdnlaaDoorIncFmt
import Derived.Test.YthnphlgkkfdnlaaDoorDig
import Derived.Test.YthnphlgkkfdnlaaDoorTabImp5
import Derived.Test.YthnphlgkkfdnlaaDoorRegH
import Derived.Deep.DeepCutAuto
namespace Go.Proofs.YthnphlgkkfdnlaaDoor.IncPar
open Go Go.RowKit Byt Ints IntsLaw Cd Rows2 Tab TabSpec Exact Inc DepMath

theorem len_s (s : ByteArray) : s.data.toList.length = s.size := Array.length_toList
/-- The digit at a place of the string. -/
def cI (s : ByteArray) (i : Nat) : Int := ((s.data.toList.getD i 0).toNat : Int) - 48
theorem cI_at {s : ByteArray} {i : Nat} (h : i < s.size) : (((s[i]'h).toNat : Int) - 48) = cI s i := by
  have hl : i < s.data.toList.length := by rw [len_s]; exact h
  unfold cI
  rw [List.getD_eq_getElem?_getD, List.getElem?_eq_getElem hl]
  rfl
theorem wr_byte (b : UInt8) : IntKind.i64.wrap (IntKind.i64.wrap (b.toNat : Int) - 48) = (b.toNat : Int) - 48 := by
  have := b.toNat_lt
  rw [IntKind.wrap_i64, IntKind.wrap_i64]
  omega
def iOk (s : ByteArray) : Bool := decide (s.size = 5 ∧ IncFmt.fmtI (s.extract 0 1) (cI s 1) (s.extract 3 4) (cI s 4) = s)
def rN1 (s : ByteArray) : ByteArray := if iOk s then s.extract 0 1 else ⟨#[]⟩
def rC1 (s : ByteArray) : Int := if iOk s then cI s 1 else 0
def rN2 (s : ByteArray) : ByteArray := if iOk s then s.extract 3 4 else ⟨#[]⟩
def rC2 (s : ByteArray) : Int := if iOk s then cI s 4 else 0
/-- What is read of a string. -/
def IAns (s : ByteArray) (w : World) (e : Ending) (w' : World) : Prop :=
  e = .returned (.tuple #[.agg #[.string (rN1 s), .int .i64 (rC1 s), .string (rN2 s), .int .i64 (rC2 s)], .bool (iOk s)]) ∧ Below w.heap.size w w'
theorem IAns.no {s : ByteArray} {w w' : World} (h : iOk s = false) (hb : Below w.heap.size w w') : IAns s w (.returned (.tuple #[.agg #[.string ⟨#[]⟩, .int .i64 0, .string ⟨#[]⟩, .int .i64 0], .bool false])) w' :=
  ⟨by unfold rN1 rC1 rN2 rC2; rw [h]; rfl, hb⟩
theorem IAns.yes {s : ByteArray} {w w' : World} (h : iOk s = true) (hb : Below w.heap.size w w') : IAns s w (.returned (.tuple #[.agg #[.string (s.extract 0 1), .int .i64 (cI s 1), .string (s.extract 3 4), .int .i64 (cI s 4)], .bool true])) w' :=
  ⟨by unfold rN1 rC1 rN2 rC2; rw [h]; rfl, hb⟩
/-- A local inclusion, made behind W1. -/
def MadeI (W1 : World) (a b c d : Value) (s4 : Value) (wx : World) : Prop :=
  ∃ k, s4 = .pointer (some ⟨k, 0, none⟩) ∧ W1.heap.size ≤ k ∧ Loc4 wx k a b c d ∧ Below W1.heap.size W1 wx
set_option maxRecDepth 100000 in
set_option maxHeartbeats 6400000 in
theorem spec_pari (s : ByteArray) (w : World) : Calls Tryd.prog 17 #[.string s] w fun e w' => IAns s w e w' := by
  by_cases h5 : s.size = 5
  case neg =>
    have HF := Lib.hid (show iOk s = false from decide_eq_false fun q => h5 q.1)
    have t1 : ((s.size : Int) == 5) = false := beq_eq_false_iff_ne.2 (by omega)
    clear h5
    go_enter Tryd.func17, Tryd.ntmps17
    go_wp2_with fail
    refine bodyPost_ret (v := .tuple #[.agg #[.string ⟨#[]⟩, .int .i64 0, .string ⟨#[]⟩, .int .i64 0], .bool false]) (by simp [results, Tryd.results17, go_sem]) rfl (IAns.no HF.out ?_)
    first
      | exact below_alloc w _
      | (refine Below.setCell (Below.setCell (Below.setCell (Below.setCell (below_alloc w _) ?_ _) ?_ _) ?_ _) ?_ _ <;> exact Nat.le_refl _)
  have t1 : (s.size : Int) = 5 := by omega
  have H5 := Lib.hid h5
  have HRES := Lib.hid (Loc4.of (row_alloc w (.cells #[.string ⟨#[]⟩, .int .i64 0, .string ⟨#[]⟩, .int .i64 0] 28 (0, 0))))
  have HB1 := Lib.hid (below_alloc w (.cells #[.string ⟨#[]⟩, .int .i64 0, .string ⟨#[]⟩, .int .i64 0] 28 (0, 0)))
  have HZ1 := Lib.hid (size_alloc w (.cells #[.string ⟨#[]⟩, .int .i64 0, .string ⟨#[]⟩, .int .i64 0] 28 (0, 0)))
  have hb1 : 1 < s.size := by omega
  have hb4 : 4 < s.size := by omega
  have hd1 := cI_at hb1
  have hd4 := cI_at hb4
  clear h5
  go_enter Tryd.func17, Tryd.ntmps17
  go_upto_region 3 with fail
  generalize w.alloc _ = W1 at *
  go_cut [4] (fun s4 wx => MadeI W1 (.string (s.extract 0 1)) (.int .i64 (cI s 1)) (.string (s.extract 3 4)) (.int .i64 (cI s 4)) s4 wx)
  case first =>
    have hd0 : Below W1.heap.size W1 W1.drew := Below.drew (Below.refl _ _)
    have B0 := Lib.hid hd0
    clear hd0
    refine wp_region_held_drew (S := fun _ => True) (by kernel_rfl) ?_ (fun hHeld => ?_)
    · trivial
    generalize World.drew W1 = wy0 at *
    refine RegH.takeH (i := 0) (v := ?_) rfl (by kernel_rfl) (by kernel_rfl) (by kernel_rfl) (fun _ _ _ h => h) (Or.inl ⟨by rfl, ?_⟩) (by assumption) ?_
    rotate_left
    · (intro wS hSw; (try dsimp only at hSw); (skip); go_simp; try (with_reducible rfl))
    try simp only [Act.put, List.setIfInBounds_toArray, List.set_cons_zero, List.set_cons_succ]
    refine RegH.takeH (i := 1) (v := ?_) rfl (by kernel_rfl) (by kernel_rfl) (by kernel_rfl) (fun _ _ _ h => h) (Or.inl ⟨by rfl, ?_⟩) (by assumption) ?_
    rotate_left
    · (intro wS hSw; (try dsimp only at hSw); (skip); go_simp; try (with_reducible rfl))
    try simp only [Act.put, List.setIfInBounds_toArray, List.set_cons_zero, List.set_cons_succ]
    refine RegH.takeH (i := 2) (v := ?_) rfl (by kernel_rfl) (by kernel_rfl) (by kernel_rfl) (fun _ _ _ h => h) (Or.inl ⟨by rfl, ?_⟩) (by assumption) ?_
    rotate_left
    · (intro wS hSw; (try dsimp only at hSw); (skip); go_simp; try (with_reducible rfl))
    try simp only [Act.put, List.setIfInBounds_toArray, List.set_cons_zero, List.set_cons_succ]
    refine RegH.takeH (i := 3) (v := ?_) rfl (by kernel_rfl) (by kernel_rfl) (by kernel_rfl) (fun _ _ _ h => h) (Or.inl ⟨by rfl, ?_⟩) (by assumption) ?_
    rotate_left
    · (intro wS hSw; (try dsimp only at hSw); (skip); go_simp; try (with_reducible rfl))
    try simp only [Act.put, List.setIfInBounds_toArray, List.set_cons_zero, List.set_cons_succ]
    refine RegH.takeH (i := 4) (v := ?_) rfl (by kernel_rfl) (by kernel_rfl) (by kernel_rfl) (fun _ _ _ h => h) (Or.inl ⟨by rfl, ?_⟩) (by assumption) ?_
    rotate_left
    · (intro wS hSw; (try dsimp only at hSw); (skip); go_simp; try (with_reducible rfl))
    try simp only [Act.put, List.setIfInBounds_toArray, List.set_cons_zero, List.set_cons_succ]
    refine RegH.takeH (i := 5) (v := ?_) rfl (by kernel_rfl) (by kernel_rfl) (by kernel_rfl) (fun _ _ _ h => h) (Or.inl ⟨by rfl, ?_⟩) (by assumption) ?_
    rotate_left
    · (intro wS hSw; (try dsimp only at hSw); (skip); go_simp; try (with_reducible rfl))
    try simp only [Act.put, List.setIfInBounds_toArray, List.set_cons_zero, List.set_cons_succ]
    refine RegH.takeH (i := 6) (v := ?_) rfl (by kernel_rfl) (by kernel_rfl) (by kernel_rfl) (fun _ _ _ h => h) (Or.inl ⟨by rfl, ?_⟩) (by assumption) ?_
    rotate_left
    · (intro wS hSw; (try dsimp only at hSw); (skip); go_simp; try (with_reducible rfl))
    try simp only [Act.put, List.setIfInBounds_toArray, List.set_cons_zero, List.set_cons_succ]
    refine RegH.takeH (i := 7) (v := ?_) rfl (by kernel_rfl) (by kernel_rfl) (by kernel_rfl) (fun _ _ _ h => h) (Or.inl ⟨by rfl, ?_⟩) (by assumption) ?_
    rotate_left
    · (intro wS hSw; (try dsimp only at hSw); (skip); go_simp; try (with_reducible rfl))
    try simp only [Act.put, List.setIfInBounds_toArray, List.set_cons_zero, List.set_cons_succ]
    refine RegH.takeH (i := 8) (v := ?_) rfl (by kernel_rfl) (by kernel_rfl) (by kernel_rfl) (fun _ _ _ h => h) (Or.inl ⟨by rfl, ?_⟩) (by assumption) ?_
    rotate_left
    · (intro wS hSw; (try dsimp only at hSw); (skip); go_simp; try (with_reducible rfl))
    try simp only [Act.put, List.setIfInBounds_toArray, List.set_cons_zero, List.set_cons_succ]
    refine RegH.takeH (i := 9) (v := ?_) rfl (by kernel_rfl) (by kernel_rfl) (by kernel_rfl) (fun _ _ _ h => h) (Or.inl ⟨by rfl, ?_⟩) (by assumption) ?_
    rotate_left
    · (intro wS hSw; (try dsimp only at hSw); (skip); go_simp; try (with_reducible rfl))
    try simp only [Act.put, List.setIfInBounds_toArray, List.set_cons_zero, List.set_cons_succ]
    refine RegH.takeH (i := 10) (v := ?_) rfl (by kernel_rfl) (by kernel_rfl) (by kernel_rfl) (fun _ _ _ h => h) (Or.inl ⟨by rfl, ?_⟩) (by assumption) ?_
    rotate_left
    · (intro wS hSw; (try dsimp only at hSw); (skip); go_simp; try (with_reducible rfl))
    try simp only [Act.put, List.setIfInBounds_toArray, List.set_cons_zero, List.set_cons_succ]
    refine RegH.takeH (i := 11) (v := ?_) rfl (by kernel_rfl) (by kernel_rfl) (by kernel_rfl) (fun _ _ _ h => h) (Or.inl ⟨by rfl, ?_⟩) (by assumption) ?_
    rotate_left
    · (intro wS hSw; (try dsimp only at hSw); (skip); go_simp; try (with_reducible rfl))
    try simp only [Act.put, List.setIfInBounds_toArray, List.set_cons_zero, List.set_cons_succ]
    refine RegH.takeH (i := 12) (v := ?_) rfl (by kernel_rfl) (by kernel_rfl) (by kernel_rfl) (fun _ _ _ h => h) (Or.inl ⟨by rfl, ?_⟩) (by assumption) ?_
    rotate_left
    · (intro wS hSw; (try dsimp only at hSw); (skip); go_simp; try (with_reducible rfl))
    try simp only [Act.put, List.setIfInBounds_toArray, List.set_cons_zero, List.set_cons_succ]
    refine RegH.consH (i := 13) rfl (by kernel_rfl) (fun K hK => ?_)
    go_simp
    generalize hg : World.alloc wy0 _ = wy1
    obtain ⟨rg, zz, hq⟩ := start1 wy0 _ hg
    clear hg zz
    have GL2 := Lib.hid (Loc4.of rg)
    have GK4 := Lib.hid (show W1.heap.size ≤ wy0.heap.size from B0.out.size)
    have B3 := Lib.hid (below_then B0.out hq)
    clear rg hq
    refine hK.out _ _ ?_ (fun hHeld => ?_)
    · trivial
    clear hK K
    try simp only [Act.put, List.setIfInBounds_toArray, List.set_cons_zero, List.set_cons_succ]
    have k1 := GL2.out.c0; have k2 := GL2.out.f0; have k3 := GL2.out.c1; have k4 := GL2.out.f1; have k5 := GL2.out.c2; have k6 := GL2.out.f2; have k7 := GL2.out.c3; have k8 := GL2.out.f3
    refine RegH.consH (i := 14) rfl (by kernel_rfl) (fun K hK => ?_)
    go_simp
    have GF6 := Lib.hid (set4 (x := .string (s.extract 0 1)) (y := .int .i64 (cI s 1)) (z := .string (s.extract 3 4)) (u := .int .i64 (cI s 4)) GL2.out)
    have B7 := Lib.hid ((((Below.setCell B3.out (p := ⟨wy0.heap.size, 0, none⟩) GK4.out (.string (s.extract 0 1))).setCell (p := ⟨wy0.heap.size, 1, none⟩) GK4.out (.int .i64 (cI s 1))).setCell (p := ⟨wy0.heap.size, 2, none⟩) GK4.out (.string (s.extract 3 4))).setCell (p := ⟨wy0.heap.size, 3, none⟩) GK4.out (.int .i64 (cI s 4)))
    clear k1 k2 k3 k4 k5 k6 k7 k8
    (try rw [wr_byte]); (try rw [wr_byte]); (try rw [hd1]); (try rw [hd4])
    generalize World.setCell (World.setCell (World.setCell (World.setCell wy1 ⟨wy0.heap.size, 0, none⟩ (.string (s.extract 0 1))) ⟨wy0.heap.size, 1, none⟩ (.int .i64 (cI s 1))) ⟨wy0.heap.size, 2, none⟩ (.string (s.extract 3 4))) ⟨wy0.heap.size, 3, none⟩ (.int .i64 (cI s 4)) = wy5 at *
    refine hK.out _ _ ?_ (fun hHeld => ?_)
    · trivial
    clear hK K
    try simp only [Act.put, List.setIfInBounds_toArray, List.set_cons_zero, List.set_cons_succ]
    refine wpAnyH_done (by kernel_rfl) ?_ _
    go_wp2_with fail
    go_meet
    exact ⟨wy0.heap.size, rfl, GK4.out, GF6.out, B7.out⟩
  case rest =>
    obtain ⟨k, rfl, hk, hx, hl⟩ := hcut
    clear hd1 hd4 hb1 hb4 t1
    have HX := Lib.hid hx
    have HBC := Lib.hid (below_then HB1.out hl)
    have HRC := Lib.hid (HRES.out.later hl)
    have HFM := Lib.hid (IncFmt.spec_fmti (s.extract 0 1) (cI s 1) (s.extract 3 4) (cI s 4) wc)
    clear hx hk hl
    obtain ⟨x0, x1, x2, x3, _, _, _, _⟩ := HX.out
    by_cases hfs : IncFmt.fmtI (s.extract 0 1) (cI s 1) (s.extract 3 4) (cI s 4) = s
    · have HWHY := Lib.hid (show iOk s = true from decide_eq_true ⟨H5.out, hfs⟩)
      rw [hfs] at HFM
      clear hfs
      go_wp2_with fail
      refine HFM.out.mono ?_
      rintro e w9 ⟨rfl, hb9⟩
      obtain ⟨x0, x1, x2, x3, _, _, _, _⟩ := HX.out.later hb9
      have HP9 := Lib.hid (HRC.out.later hb9)
      obtain ⟨p0, p1, p2, p3, q0, q1, q2, q3⟩ := HRC.out.later hb9
      have HB9 := Lib.hid (below_then HBC.out hb9)
      clear hb9
      go_wp2_with fail
      obtain ⟨k0, k1, k2, k3, _, _, _, _⟩ := set4 (x := .string (s.extract 0 1)) (y := .int .i64 (cI s 1)) (z := .string (s.extract 3 4)) (u := .int .i64 (cI s 4)) HP9.out
      refine bodyPost_ret (v := .tuple #[.agg #[.string (s.extract 0 1), .int .i64 (cI s 1), .string (s.extract 3 4), .int .i64 (cI s 4)], .bool true]) (by simp [results, Tryd.results17, go_sem, k0, k1, k2, k3]) rfl (IAns.yes HWHY.out ?_)
      exact (((HB9.out.setCell (Nat.le_refl _) _).setCell (Nat.le_refl _) _).setCell (Nat.le_refl _) _).setCell (Nat.le_refl _) _
    · have HF := Lib.hid (show iOk s = false from decide_eq_false fun q => hfs q.2)
      have hne := str_ne hfs
      clear hfs
      generalize IncFmt.fmtI (s.extract 0 1) (cI s 1) (s.extract 3 4) (cI s 4) = fs at *
      go_wp2_with fail
      refine HFM.out.mono ?_
      rintro e w9 ⟨rfl, hb9⟩
      have HP9 := Lib.hid (HRC.out.later hb9)
      obtain ⟨p0, p1, p2, p3, q0, q1, q2, q3⟩ := HRC.out.later hb9
      have HB9 := Lib.hid (below_then HBC.out hb9)
      clear hb9
      go_wp2_with fail
      obtain ⟨k0, k1, k2, k3, _, _, _, _⟩ := set4 (x := .string ⟨#[]⟩) (y := .int .i64 0) (z := .string ⟨#[]⟩) (u := .int .i64 0) HP9.out
      refine bodyPost_ret (v := .tuple #[.agg #[.string ⟨#[]⟩, .int .i64 0, .string ⟨#[]⟩, .int .i64 0], .bool false]) (by simp [results, Tryd.results17, go_sem, k0, k1, k2, k3]) rfl (IAns.no HF.out ?_)
      exact (((HB9.out.setCell (Nat.le_refl _) _).setCell (Nat.le_refl _) _).setCell (Nat.le_refl _) _).setCell (Nat.le_refl _) _
set_option maxRecDepth 100000 in
set_option maxHeartbeats 6400000 in
theorem impl_pari (s : ByteArray) (w : World) (htab : Format.Tab w) : Calls Tryd.prog 15 #[.string s] w fun e w' => IAns s w e w' := by
  by_cases h5 : s.size = 5
  case neg =>
    have HF := Lib.hid (show iOk s = false from decide_eq_false fun q => h5 q.1)
    have t1 : ((s.size : Int) == 5) = false := beq_eq_false_iff_ne.2 (by omega)
    clear h5
    clear htab
    go_enter Tryd.func15, Tryd.ntmps15
    go_wp2_with fail
    refine bodyPost_ret (v := .tuple #[.agg #[.string ⟨#[]⟩, .int .i64 0, .string ⟨#[]⟩, .int .i64 0], .bool false]) (by simp [results, Tryd.results15, go_sem]) rfl (IAns.no HF.out ?_)
    first
      | exact below_alloc w _
      | (refine Below.setCell (Below.setCell (Below.setCell (Below.setCell (below_alloc w _) ?_ _) ?_ _) ?_ _) ?_ _ <;> exact Nat.le_refl _)
  have t1 : (s.size : Int) = 5 := by omega
  have H5 := Lib.hid h5
  have HRES := Lib.hid (Loc4.of (row_alloc w (.cells #[.string ⟨#[]⟩, .int .i64 0, .string ⟨#[]⟩, .int .i64 0] 28 (0, 0))))
  have HB1 := Lib.hid (below_alloc w (.cells #[.string ⟨#[]⟩, .int .i64 0, .string ⟨#[]⟩, .int .i64 0] 28 (0, 0)))
  have HZ1 := Lib.hid (size_alloc w (.cells #[.string ⟨#[]⟩, .int .i64 0, .string ⟨#[]⟩, .int .i64 0] 28 (0, 0)))
  have HTB := Lib.hid (fun w' (hb : Below w.heap.size w w') => Format.tab_later hb htab)
  have HC1 := Lib.hid (fun w' => TabImp.str_clone (s.extract 0 1) w' (by rw [ByteArray.size_extract]; omega))
  have HC2 := Lib.hid (fun w' => TabImp.str_clone (s.extract 3 4) w' (by rw [ByteArray.size_extract]; omega))
  clear htab
  have hb1 : 1 < s.size := by omega
  have hb4 : 4 < s.size := by omega
  have hd1 := cI_at hb1
  have hd4 := cI_at hb4
  clear h5
  go_enter Tryd.func15, Tryd.ntmps15
  go_upto_region 3 with fail
  generalize w.alloc _ = W1 at *
  go_cut [4] (fun s4 wx => MadeI W1 (.string (s.extract 0 1)) (.int .i64 (cI s 1)) (.string (s.extract 3 4)) (.int .i64 (cI s 4)) s4 wx)
  case first =>
    have hd0 : Below W1.heap.size W1 W1.drew := Below.drew (Below.refl _ _)
    have B0 := Lib.hid hd0
    clear hd0
    refine wp_region_held_drew (S := fun _ => True) (by kernel_rfl) ?_ (fun hHeld => ?_)
    · trivial
    generalize World.drew W1 = wy0 at *
    refine RegH.takeH (i := 0) (v := ?_) rfl (by kernel_rfl) (by kernel_rfl) (by kernel_rfl) (fun _ _ _ h => h) (Or.inl ⟨by rfl, ?_⟩) (by assumption) ?_
    rotate_left
    · (intro wS hSw; (try dsimp only at hSw); (skip); go_simp; try (with_reducible rfl))
    try simp only [Act.put, List.setIfInBounds_toArray, List.set_cons_zero, List.set_cons_succ]
    refine RegH.takeH (i := 1) (v := ?_) rfl (by kernel_rfl) (by kernel_rfl) (by kernel_rfl) (fun _ _ _ h => h) (Or.inl ⟨by rfl, ?_⟩) (by assumption) ?_
    rotate_left
    · (intro wS hSw; (try dsimp only at hSw); (skip); go_simp; try (with_reducible rfl))
    try simp only [Act.put, List.setIfInBounds_toArray, List.set_cons_zero, List.set_cons_succ]
    refine RegH.takeH (i := 3) (v := ?_) rfl (by kernel_rfl) (by kernel_rfl) (by kernel_rfl) (fun _ _ _ h => h) (Or.inl ⟨by rfl, ?_⟩) (by assumption) ?_
    rotate_left
    · (intro wS hSw; (try dsimp only at hSw); (skip); go_simp; try (with_reducible rfl))
    try simp only [Act.put, List.setIfInBounds_toArray, List.set_cons_zero, List.set_cons_succ]
    refine RegH.takeH (i := 4) (v := ?_) rfl (by kernel_rfl) (by kernel_rfl) (by kernel_rfl) (fun _ _ _ h => h) (Or.inl ⟨by rfl, ?_⟩) (by assumption) ?_
    rotate_left
    · (intro wS hSw; (try dsimp only at hSw); (skip); go_simp; try (with_reducible rfl))
    try simp only [Act.put, List.setIfInBounds_toArray, List.set_cons_zero, List.set_cons_succ]
    refine RegH.takeH (i := 6) (v := ?_) rfl (by kernel_rfl) (by kernel_rfl) (by kernel_rfl) (fun _ _ _ h => h) (Or.inl ⟨by rfl, ?_⟩) (by assumption) ?_
    rotate_left
    · (intro wS hSw; (try dsimp only at hSw); (skip); go_simp; try (with_reducible rfl))
    try simp only [Act.put, List.setIfInBounds_toArray, List.set_cons_zero, List.set_cons_succ]
    refine RegH.takeH (i := 7) (v := ?_) rfl (by kernel_rfl) (by kernel_rfl) (by kernel_rfl) (fun _ _ _ h => h) (Or.inl ⟨by rfl, ?_⟩) (by assumption) ?_
    rotate_left
    · (intro wS hSw; (try dsimp only at hSw); (skip); go_simp; try (with_reducible rfl))
    try simp only [Act.put, List.setIfInBounds_toArray, List.set_cons_zero, List.set_cons_succ]
    refine RegH.takeH (i := 9) (v := ?_) rfl (by kernel_rfl) (by kernel_rfl) (by kernel_rfl) (fun _ _ _ h => h) (Or.inl ⟨by rfl, ?_⟩) (by assumption) ?_
    rotate_left
    · (intro wS hSw; (try dsimp only at hSw); (skip); go_simp; try (with_reducible rfl))
    try simp only [Act.put, List.setIfInBounds_toArray, List.set_cons_zero, List.set_cons_succ]
    refine RegH.takeH (i := 10) (v := ?_) rfl (by kernel_rfl) (by kernel_rfl) (by kernel_rfl) (fun _ _ _ h => h) (Or.inl ⟨by rfl, ?_⟩) (by assumption) ?_
    rotate_left
    · (intro wS hSw; (try dsimp only at hSw); (skip); go_simp; try (with_reducible rfl))
    try simp only [Act.put, List.setIfInBounds_toArray, List.set_cons_zero, List.set_cons_succ]
    refine RegH.consH2 (i := 2) (j := 13) rfl rfl (by kernel_rfl) (fun K hK => ?_) (fun K hK => ?_)
    · skip
      go_simp
      go_at_call 28
      refine (HC1.out wy0).mono ?_
      rintro e wy1 ⟨rfl, hq⟩
      have B2 := Lib.hid (below_then B0.out hq)
      clear hq
      (try go_wp2_with fail)
      refine hK.out _ _ ?_ (fun hHeld => ?_)
      · trivial
      clear hK K
      try simp only [Act.put, List.setIfInBounds_toArray, List.set_cons_zero, List.set_cons_succ]
      refine RegH.consH2 (i := 5) (j := 13) rfl rfl (by kernel_rfl) (fun K hK => ?_) (fun K hK => ?_)
      · skip
        go_simp
        go_at_call 29
        refine (Dig.parse_digit _ wy1).mono ?_
        rintro e wy3 ⟨rfl, rfl⟩
        (try go_wp2_with fail)
        refine hK.out _ _ ?_ (fun hHeld => ?_)
        · trivial
        clear hK K
        try simp only [Act.put, List.setIfInBounds_toArray, List.set_cons_zero, List.set_cons_succ]
        refine RegH.consH2 (i := 8) (j := 13) rfl rfl (by kernel_rfl) (fun K hK => ?_) (fun K hK => ?_)
        · skip
          go_simp
          go_at_call 28
          refine (HC2.out wy1).mono ?_
          rintro e wy5 ⟨rfl, hq⟩
          have B6 := Lib.hid (below_then B2.out hq)
          clear hq
          (try go_wp2_with fail)
          refine hK.out _ _ ?_ (fun hHeld => ?_)
          · trivial
          clear hK K
          try simp only [Act.put, List.setIfInBounds_toArray, List.set_cons_zero, List.set_cons_succ]
          refine RegH.consH2 (i := 11) (j := 13) rfl rfl (by kernel_rfl) (fun K hK => ?_) (fun K hK => ?_)
          · skip
            go_simp
            go_at_call 29
            refine (Dig.parse_digit _ wy5).mono ?_
            rintro e wy7 ⟨rfl, rfl⟩
            (try go_wp2_with fail)
            refine hK.out _ _ ?_ (fun hHeld => ?_)
            · trivial
            clear hK K
            try simp only [Act.put, List.setIfInBounds_toArray, List.set_cons_zero, List.set_cons_succ]
            refine RegH.takeH (i := 12) (v := ?_) rfl (by kernel_rfl) (by kernel_rfl) (by kernel_rfl) (fun _ _ _ h => h) (Or.inl ⟨by rfl, ?_⟩) (by assumption) ?_
            rotate_left
            · (intro wS hSw; (try dsimp only at hSw); (skip); go_simp; try (with_reducible rfl))
            try simp only [Act.put, List.setIfInBounds_toArray, List.set_cons_zero, List.set_cons_succ]
            refine RegH.consH (i := 13) rfl (by kernel_rfl) (fun K hK => ?_)
            go_simp
            generalize hg : World.alloc wy5 _ = wy9
            obtain ⟨rg, zz, hq⟩ := start1 wy5 _ hg
            clear hg zz
            have GL10 := Lib.hid (Loc4.of rg)
            have GK12 := Lib.hid (show W1.heap.size ≤ wy5.heap.size from B6.out.size)
            have B11 := Lib.hid (below_then B6.out hq)
            clear rg hq
            refine hK.out _ _ ?_ (fun hHeld => ?_)
            · trivial
            clear hK K
            try simp only [Act.put, List.setIfInBounds_toArray, List.set_cons_zero, List.set_cons_succ]
            have k1 := GL10.out.c0; have k2 := GL10.out.f0; have k3 := GL10.out.c1; have k4 := GL10.out.f1; have k5 := GL10.out.c2; have k6 := GL10.out.f2; have k7 := GL10.out.c3; have k8 := GL10.out.f3
            refine RegH.consH (i := 14) rfl (by kernel_rfl) (fun K hK => ?_)
            go_simp
            have GF14 := Lib.hid (set4 (x := .string (s.extract 0 1)) (y := .int .i64 (cI s 1)) (z := .string (s.extract 3 4)) (u := .int .i64 (cI s 4)) GL10.out)
            have B15 := Lib.hid ((((Below.setCell B11.out (p := ⟨wy5.heap.size, 0, none⟩) GK12.out (.string (s.extract 0 1))).setCell (p := ⟨wy5.heap.size, 1, none⟩) GK12.out (.int .i64 (cI s 1))).setCell (p := ⟨wy5.heap.size, 2, none⟩) GK12.out (.string (s.extract 3 4))).setCell (p := ⟨wy5.heap.size, 3, none⟩) GK12.out (.int .i64 (cI s 4)))
            clear k1 k2 k3 k4 k5 k6 k7 k8
            (try rw [wr_byte]); (try rw [wr_byte]); (try rw [hd1]); (try rw [hd4])
            generalize World.setCell (World.setCell (World.setCell (World.setCell wy9 ⟨wy5.heap.size, 0, none⟩ (.string (s.extract 0 1))) ⟨wy5.heap.size, 1, none⟩ (.int .i64 (cI s 1))) ⟨wy5.heap.size, 2, none⟩ (.string (s.extract 3 4))) ⟨wy5.heap.size, 3, none⟩ (.int .i64 (cI s 4)) = wy13 at *
            refine hK.out _ _ ?_ (fun hHeld => ?_)
            · trivial
            clear hK K
            try simp only [Act.put, List.setIfInBounds_toArray, List.set_cons_zero, List.set_cons_succ]
            refine wpAnyH_done (by kernel_rfl) ?_ _
            go_wp2_with fail
            go_meet
            exact ⟨wy5.heap.size, rfl, GK12.out, GF14.out, B15.out⟩
          · skip
            go_simp
            generalize hg : World.alloc wy5 _ = wy16
            obtain ⟨rg, zz, hq⟩ := start1 wy5 _ hg
            clear hg zz
            have GL17 := Lib.hid (Loc4.of rg)
            have GK19 := Lib.hid (show W1.heap.size ≤ wy5.heap.size from B6.out.size)
            have B18 := Lib.hid (below_then B6.out hq)
            clear rg hq
            refine hK.out _ _ ?_ (fun hHeld => ?_)
            · trivial
            clear hK K
            try simp only [Act.put, List.setIfInBounds_toArray, List.set_cons_zero, List.set_cons_succ]
            refine RegH.consH (i := 11) rfl (by kernel_rfl) (fun K hK => ?_)
            go_simp
            go_at_call 29
            refine (Dig.parse_digit _ wy16).mono ?_
            rintro e wy20 ⟨rfl, rfl⟩
            (try go_wp2_with fail)
            refine hK.out _ _ ?_ (fun hHeld => ?_)
            · trivial
            clear hK K
            try simp only [Act.put, List.setIfInBounds_toArray, List.set_cons_zero, List.set_cons_succ]
            refine RegH.takeH (i := 12) (v := ?_) rfl (by kernel_rfl) (by kernel_rfl) (by kernel_rfl) (fun _ _ _ h => h) (Or.inl ⟨by rfl, ?_⟩) (by assumption) ?_
            rotate_left
            · (intro wS hSw; (try dsimp only at hSw); (skip); go_simp; try (with_reducible rfl))
            try simp only [Act.put, List.setIfInBounds_toArray, List.set_cons_zero, List.set_cons_succ]
            have k1 := GL17.out.c0; have k2 := GL17.out.f0; have k3 := GL17.out.c1; have k4 := GL17.out.f1; have k5 := GL17.out.c2; have k6 := GL17.out.f2; have k7 := GL17.out.c3; have k8 := GL17.out.f3
            refine RegH.consH (i := 14) rfl (by kernel_rfl) (fun K hK => ?_)
            go_simp
            have GF23 := Lib.hid (set4 (x := .string (s.extract 0 1)) (y := .int .i64 (cI s 1)) (z := .string (s.extract 3 4)) (u := .int .i64 (cI s 4)) GL17.out)
            have B24 := Lib.hid ((((Below.setCell B18.out (p := ⟨wy5.heap.size, 0, none⟩) GK19.out (.string (s.extract 0 1))).setCell (p := ⟨wy5.heap.size, 1, none⟩) GK19.out (.int .i64 (cI s 1))).setCell (p := ⟨wy5.heap.size, 2, none⟩) GK19.out (.string (s.extract 3 4))).setCell (p := ⟨wy5.heap.size, 3, none⟩) GK19.out (.int .i64 (cI s 4)))
            clear k1 k2 k3 k4 k5 k6 k7 k8
            (try rw [wr_byte]); (try rw [wr_byte]); (try rw [hd1]); (try rw [hd4])
            generalize World.setCell (World.setCell (World.setCell (World.setCell wy16 ⟨wy5.heap.size, 0, none⟩ (.string (s.extract 0 1))) ⟨wy5.heap.size, 1, none⟩ (.int .i64 (cI s 1))) ⟨wy5.heap.size, 2, none⟩ (.string (s.extract 3 4))) ⟨wy5.heap.size, 3, none⟩ (.int .i64 (cI s 4)) = wy22 at *
            refine hK.out _ _ ?_ (fun hHeld => ?_)
            · trivial
            clear hK K
            try simp only [Act.put, List.setIfInBounds_toArray, List.set_cons_zero, List.set_cons_succ]
            refine wpAnyH_done (by kernel_rfl) ?_ _
            go_wp2_with fail
            go_meet
            exact ⟨wy5.heap.size, rfl, GK19.out, GF23.out, B24.out⟩
        · skip
          go_simp
          generalize hg : World.alloc wy1 _ = wy25
          obtain ⟨rg, zz, hq⟩ := start1 wy1 _ hg
          clear hg zz
          have GL26 := Lib.hid (Loc4.of rg)
          have GK28 := Lib.hid (show W1.heap.size ≤ wy1.heap.size from B2.out.size)
          have B27 := Lib.hid (below_then B2.out hq)
          clear rg hq
          refine hK.out _ _ ?_ (fun hHeld => ?_)
          · trivial
          clear hK K
          try simp only [Act.put, List.setIfInBounds_toArray, List.set_cons_zero, List.set_cons_succ]
          refine RegH.consH (i := 8) rfl (by kernel_rfl) (fun K hK => ?_)
          go_simp
          go_at_call 28
          refine (HC2.out wy25).mono ?_
          rintro e wy29 ⟨rfl, hq⟩
          have B30 := Lib.hid (below_then B27.out hq)
          have GL31 := Lib.hid (GL26.out.later hq)
          clear hq
          (try go_wp2_with fail)
          refine hK.out _ _ ?_ (fun hHeld => ?_)
          · trivial
          clear hK K
          try simp only [Act.put, List.setIfInBounds_toArray, List.set_cons_zero, List.set_cons_succ]
          refine RegH.consH (i := 11) rfl (by kernel_rfl) (fun K hK => ?_)
          go_simp
          go_at_call 29
          refine (Dig.parse_digit _ wy29).mono ?_
          rintro e wy32 ⟨rfl, rfl⟩
          (try go_wp2_with fail)
          refine hK.out _ _ ?_ (fun hHeld => ?_)
          · trivial
          clear hK K
          try simp only [Act.put, List.setIfInBounds_toArray, List.set_cons_zero, List.set_cons_succ]
          refine RegH.takeH (i := 12) (v := ?_) rfl (by kernel_rfl) (by kernel_rfl) (by kernel_rfl) (fun _ _ _ h => h) (Or.inl ⟨by rfl, ?_⟩) (by assumption) ?_
          rotate_left
          · (intro wS hSw; (try dsimp only at hSw); (skip); go_simp; try (with_reducible rfl))
          try simp only [Act.put, List.setIfInBounds_toArray, List.set_cons_zero, List.set_cons_succ]
          have k1 := GL31.out.c0; have k2 := GL31.out.f0; have k3 := GL31.out.c1; have k4 := GL31.out.f1; have k5 := GL31.out.c2; have k6 := GL31.out.f2; have k7 := GL31.out.c3; have k8 := GL31.out.f3
          refine RegH.consH (i := 14) rfl (by kernel_rfl) (fun K hK => ?_)
          go_simp
          have GF35 := Lib.hid (set4 (x := .string (s.extract 0 1)) (y := .int .i64 (cI s 1)) (z := .string (s.extract 3 4)) (u := .int .i64 (cI s 4)) GL31.out)
          have B36 := Lib.hid ((((Below.setCell B30.out (p := ⟨wy1.heap.size, 0, none⟩) GK28.out (.string (s.extract 0 1))).setCell (p := ⟨wy1.heap.size, 1, none⟩) GK28.out (.int .i64 (cI s 1))).setCell (p := ⟨wy1.heap.size, 2, none⟩) GK28.out (.string (s.extract 3 4))).setCell (p := ⟨wy1.heap.size, 3, none⟩) GK28.out (.int .i64 (cI s 4)))
          clear k1 k2 k3 k4 k5 k6 k7 k8
          (try rw [wr_byte]); (try rw [wr_byte]); (try rw [hd1]); (try rw [hd4])
          generalize World.setCell (World.setCell (World.setCell (World.setCell wy29 ⟨wy1.heap.size, 0, none⟩ (.string (s.extract 0 1))) ⟨wy1.heap.size, 1, none⟩ (.int .i64 (cI s 1))) ⟨wy1.heap.size, 2, none⟩ (.string (s.extract 3 4))) ⟨wy1.heap.size, 3, none⟩ (.int .i64 (cI s 4)) = wy34 at *
          refine hK.out _ _ ?_ (fun hHeld => ?_)
          · trivial
          clear hK K
          try simp only [Act.put, List.setIfInBounds_toArray, List.set_cons_zero, List.set_cons_succ]
          refine wpAnyH_done (by kernel_rfl) ?_ _
          go_wp2_with fail
          go_meet
          exact ⟨wy1.heap.size, rfl, GK28.out, GF35.out, B36.out⟩
      · skip
        go_simp
        generalize hg : World.alloc wy1 _ = wy37
        obtain ⟨rg, zz, hq⟩ := start1 wy1 _ hg
        clear hg zz
        have GL38 := Lib.hid (Loc4.of rg)
        have GK40 := Lib.hid (show W1.heap.size ≤ wy1.heap.size from B2.out.size)
        have B39 := Lib.hid (below_then B2.out hq)
        clear rg hq
        refine hK.out _ _ ?_ (fun hHeld => ?_)
        · trivial
        clear hK K
        try simp only [Act.put, List.setIfInBounds_toArray, List.set_cons_zero, List.set_cons_succ]
        refine RegH.consH (i := 5) rfl (by kernel_rfl) (fun K hK => ?_)
        go_simp
        go_at_call 29
        refine (Dig.parse_digit _ wy37).mono ?_
        rintro e wy41 ⟨rfl, rfl⟩
        (try go_wp2_with fail)
        refine hK.out _ _ ?_ (fun hHeld => ?_)
        · trivial
        clear hK K
        try simp only [Act.put, List.setIfInBounds_toArray, List.set_cons_zero, List.set_cons_succ]
        refine RegH.consH (i := 8) rfl (by kernel_rfl) (fun K hK => ?_)
        go_simp
        go_at_call 28
        refine (HC2.out wy37).mono ?_
        rintro e wy43 ⟨rfl, hq⟩
        have B44 := Lib.hid (below_then B39.out hq)
        have GL45 := Lib.hid (GL38.out.later hq)
        clear hq
        (try go_wp2_with fail)
        refine hK.out _ _ ?_ (fun hHeld => ?_)
        · trivial
        clear hK K
        try simp only [Act.put, List.setIfInBounds_toArray, List.set_cons_zero, List.set_cons_succ]
        refine RegH.consH (i := 11) rfl (by kernel_rfl) (fun K hK => ?_)
        go_simp
        go_at_call 29
        refine (Dig.parse_digit _ wy43).mono ?_
        rintro e wy46 ⟨rfl, rfl⟩
        (try go_wp2_with fail)
        refine hK.out _ _ ?_ (fun hHeld => ?_)
        · trivial
        clear hK K
        try simp only [Act.put, List.setIfInBounds_toArray, List.set_cons_zero, List.set_cons_succ]
        refine RegH.takeH (i := 12) (v := ?_) rfl (by kernel_rfl) (by kernel_rfl) (by kernel_rfl) (fun _ _ _ h => h) (Or.inl ⟨by rfl, ?_⟩) (by assumption) ?_
        rotate_left
        · (intro wS hSw; (try dsimp only at hSw); (skip); go_simp; try (with_reducible rfl))
        try simp only [Act.put, List.setIfInBounds_toArray, List.set_cons_zero, List.set_cons_succ]
        have k1 := GL45.out.c0; have k2 := GL45.out.f0; have k3 := GL45.out.c1; have k4 := GL45.out.f1; have k5 := GL45.out.c2; have k6 := GL45.out.f2; have k7 := GL45.out.c3; have k8 := GL45.out.f3
        refine RegH.consH (i := 14) rfl (by kernel_rfl) (fun K hK => ?_)
        go_simp
        have GF49 := Lib.hid (set4 (x := .string (s.extract 0 1)) (y := .int .i64 (cI s 1)) (z := .string (s.extract 3 4)) (u := .int .i64 (cI s 4)) GL45.out)
        have B50 := Lib.hid ((((Below.setCell B44.out (p := ⟨wy1.heap.size, 0, none⟩) GK40.out (.string (s.extract 0 1))).setCell (p := ⟨wy1.heap.size, 1, none⟩) GK40.out (.int .i64 (cI s 1))).setCell (p := ⟨wy1.heap.size, 2, none⟩) GK40.out (.string (s.extract 3 4))).setCell (p := ⟨wy1.heap.size, 3, none⟩) GK40.out (.int .i64 (cI s 4)))
        clear k1 k2 k3 k4 k5 k6 k7 k8
        (try rw [wr_byte]); (try rw [wr_byte]); (try rw [hd1]); (try rw [hd4])
        generalize World.setCell (World.setCell (World.setCell (World.setCell wy43 ⟨wy1.heap.size, 0, none⟩ (.string (s.extract 0 1))) ⟨wy1.heap.size, 1, none⟩ (.int .i64 (cI s 1))) ⟨wy1.heap.size, 2, none⟩ (.string (s.extract 3 4))) ⟨wy1.heap.size, 3, none⟩ (.int .i64 (cI s 4)) = wy48 at *
        refine hK.out _ _ ?_ (fun hHeld => ?_)
        · trivial
        clear hK K
        try simp only [Act.put, List.setIfInBounds_toArray, List.set_cons_zero, List.set_cons_succ]
        refine wpAnyH_done (by kernel_rfl) ?_ _
        go_wp2_with fail
        go_meet
        exact ⟨wy1.heap.size, rfl, GK40.out, GF49.out, B50.out⟩
    · skip
      go_simp
      generalize hg : World.alloc wy0 _ = wy51
      obtain ⟨rg, zz, hq⟩ := start1 wy0 _ hg
      clear hg zz
      have GL52 := Lib.hid (Loc4.of rg)
      have GK54 := Lib.hid (show W1.heap.size ≤ wy0.heap.size from B0.out.size)
      have B53 := Lib.hid (below_then B0.out hq)
      clear rg hq
      refine hK.out _ _ ?_ (fun hHeld => ?_)
      · trivial
      clear hK K
      try simp only [Act.put, List.setIfInBounds_toArray, List.set_cons_zero, List.set_cons_succ]
      refine RegH.consH (i := 2) rfl (by kernel_rfl) (fun K hK => ?_)
      go_simp
      go_at_call 28
      refine (HC1.out wy51).mono ?_
      rintro e wy55 ⟨rfl, hq⟩
      have B56 := Lib.hid (below_then B53.out hq)
      have GL57 := Lib.hid (GL52.out.later hq)
      clear hq
      (try go_wp2_with fail)
      refine hK.out _ _ ?_ (fun hHeld => ?_)
      · trivial
      clear hK K
      try simp only [Act.put, List.setIfInBounds_toArray, List.set_cons_zero, List.set_cons_succ]
      refine RegH.consH (i := 5) rfl (by kernel_rfl) (fun K hK => ?_)
      go_simp
      go_at_call 29
      refine (Dig.parse_digit _ wy55).mono ?_
      rintro e wy58 ⟨rfl, rfl⟩
      (try go_wp2_with fail)
      refine hK.out _ _ ?_ (fun hHeld => ?_)
      · trivial
      clear hK K
      try simp only [Act.put, List.setIfInBounds_toArray, List.set_cons_zero, List.set_cons_succ]
      refine RegH.consH (i := 8) rfl (by kernel_rfl) (fun K hK => ?_)
      go_simp
      go_at_call 28
      refine (HC2.out wy55).mono ?_
      rintro e wy60 ⟨rfl, hq⟩
      have B61 := Lib.hid (below_then B56.out hq)
      have GL62 := Lib.hid (GL57.out.later hq)
      clear hq
      (try go_wp2_with fail)
      refine hK.out _ _ ?_ (fun hHeld => ?_)
      · trivial
      clear hK K
      try simp only [Act.put, List.setIfInBounds_toArray, List.set_cons_zero, List.set_cons_succ]
      refine RegH.consH (i := 11) rfl (by kernel_rfl) (fun K hK => ?_)
      go_simp
      go_at_call 29
      refine (Dig.parse_digit _ wy60).mono ?_
      rintro e wy63 ⟨rfl, rfl⟩
      (try go_wp2_with fail)
      refine hK.out _ _ ?_ (fun hHeld => ?_)
      · trivial
      clear hK K
      try simp only [Act.put, List.setIfInBounds_toArray, List.set_cons_zero, List.set_cons_succ]
      refine RegH.takeH (i := 12) (v := ?_) rfl (by kernel_rfl) (by kernel_rfl) (by kernel_rfl) (fun _ _ _ h => h) (Or.inl ⟨by rfl, ?_⟩) (by assumption) ?_
      rotate_left
      · (intro wS hSw; (try dsimp only at hSw); (skip); go_simp; try (with_reducible rfl))
      try simp only [Act.put, List.setIfInBounds_toArray, List.set_cons_zero, List.set_cons_succ]
      have k1 := GL62.out.c0; have k2 := GL62.out.f0; have k3 := GL62.out.c1; have k4 := GL62.out.f1; have k5 := GL62.out.c2; have k6 := GL62.out.f2; have k7 := GL62.out.c3; have k8 := GL62.out.f3
      refine RegH.consH (i := 14) rfl (by kernel_rfl) (fun K hK => ?_)
      go_simp
      have GF66 := Lib.hid (set4 (x := .string (s.extract 0 1)) (y := .int .i64 (cI s 1)) (z := .string (s.extract 3 4)) (u := .int .i64 (cI s 4)) GL62.out)
      have B67 := Lib.hid ((((Below.setCell B61.out (p := ⟨wy0.heap.size, 0, none⟩) GK54.out (.string (s.extract 0 1))).setCell (p := ⟨wy0.heap.size, 1, none⟩) GK54.out (.int .i64 (cI s 1))).setCell (p := ⟨wy0.heap.size, 2, none⟩) GK54.out (.string (s.extract 3 4))).setCell (p := ⟨wy0.heap.size, 3, none⟩) GK54.out (.int .i64 (cI s 4)))
      clear k1 k2 k3 k4 k5 k6 k7 k8
      (try rw [wr_byte]); (try rw [wr_byte]); (try rw [hd1]); (try rw [hd4])
      generalize World.setCell (World.setCell (World.setCell (World.setCell wy60 ⟨wy0.heap.size, 0, none⟩ (.string (s.extract 0 1))) ⟨wy0.heap.size, 1, none⟩ (.int .i64 (cI s 1))) ⟨wy0.heap.size, 2, none⟩ (.string (s.extract 3 4))) ⟨wy0.heap.size, 3, none⟩ (.int .i64 (cI s 4)) = wy65 at *
      refine hK.out _ _ ?_ (fun hHeld => ?_)
      · trivial
      clear hK K
      try simp only [Act.put, List.setIfInBounds_toArray, List.set_cons_zero, List.set_cons_succ]
      refine wpAnyH_done (by kernel_rfl) ?_ _
      go_wp2_with fail
      go_meet
      exact ⟨wy0.heap.size, rfl, GK54.out, GF66.out, B67.out⟩
  case rest =>
    obtain ⟨k, rfl, hk, hx, hl⟩ := hcut
    clear hd1 hd4 hb1 hb4 t1
    have HX := Lib.hid hx
    have HBC := Lib.hid (below_then HB1.out hl)
    have HRC := Lib.hid (HRES.out.later hl)
    have HFM := Lib.hid (IncFmt.impl_fmti (s.extract 0 1) (cI s 1) (s.extract 3 4) (cI s 4) wc (HTB.out wc HBC.out))
    clear hx hk hl
    obtain ⟨x0, x1, x2, x3, _, _, _, _⟩ := HX.out
    by_cases hfs : IncFmt.fmtI (s.extract 0 1) (cI s 1) (s.extract 3 4) (cI s 4) = s
    · have HWHY := Lib.hid (show iOk s = true from decide_eq_true ⟨H5.out, hfs⟩)
      rw [hfs] at HFM
      clear hfs
      go_wp2_with fail
      refine HFM.out.mono ?_
      rintro e w9 ⟨rfl, hb9⟩
      obtain ⟨x0, x1, x2, x3, _, _, _, _⟩ := HX.out.later hb9
      have HP9 := Lib.hid (HRC.out.later hb9)
      obtain ⟨p0, p1, p2, p3, q0, q1, q2, q3⟩ := HRC.out.later hb9
      have HB9 := Lib.hid (below_then HBC.out hb9)
      clear hb9
      go_wp2_with fail
      obtain ⟨k0, k1, k2, k3, _, _, _, _⟩ := set4 (x := .string (s.extract 0 1)) (y := .int .i64 (cI s 1)) (z := .string (s.extract 3 4)) (u := .int .i64 (cI s 4)) HP9.out
      refine bodyPost_ret (v := .tuple #[.agg #[.string (s.extract 0 1), .int .i64 (cI s 1), .string (s.extract 3 4), .int .i64 (cI s 4)], .bool true]) (by simp [results, Tryd.results15, go_sem, k0, k1, k2, k3]) rfl (IAns.yes HWHY.out ?_)
      exact (((HB9.out.setCell (Nat.le_refl _) _).setCell (Nat.le_refl _) _).setCell (Nat.le_refl _) _).setCell (Nat.le_refl _) _
    · have HF := Lib.hid (show iOk s = false from decide_eq_false fun q => hfs q.2)
      have hne := str_ne hfs
      clear hfs
      generalize IncFmt.fmtI (s.extract 0 1) (cI s 1) (s.extract 3 4) (cI s 4) = fs at *
      go_wp2_with fail
      refine HFM.out.mono ?_
      rintro e w9 ⟨rfl, hb9⟩
      have HP9 := Lib.hid (HRC.out.later hb9)
      obtain ⟨p0, p1, p2, p3, q0, q1, q2, q3⟩ := HRC.out.later hb9
      have HB9 := Lib.hid (below_then HBC.out hb9)
      clear hb9
      go_wp2_with fail
      obtain ⟨k0, k1, k2, k3, _, _, _, _⟩ := set4 (x := .string ⟨#[]⟩) (y := .int .i64 0) (z := .string ⟨#[]⟩) (u := .int .i64 0) HP9.out
      refine bodyPost_ret (v := .tuple #[.agg #[.string ⟨#[]⟩, .int .i64 0, .string ⟨#[]⟩, .int .i64 0], .bool false]) (by simp [results, Tryd.results15, go_sem, k0, k1, k2, k3]) rfl (IAns.no HF.out ?_)
      exact (((HB9.out.setCell (Nat.le_refl _) _).setCell (Nat.le_refl _) _).setCell (Nat.le_refl _) _).setCell (Nat.le_refl _) _
end Go.Proofs.YthnphlgkkfdnlaaDoor.IncPar
