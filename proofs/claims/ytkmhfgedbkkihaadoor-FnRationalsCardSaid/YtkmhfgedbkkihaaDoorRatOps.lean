/- The four operations on rationals: the model's and the program's functions. -/
import Derived.Test.YtkmhfgedbkkihaaDoorRatMake
namespace Go.Proofs.YtkmhfgedbkkihaaDoor.RatOps
open Go Go.RowKit Byt Ratio RatGcd RatMake

/-- What a block of two cells gives a walk. -/
theorem row_cells {w : World} {b : Nat} {x0 x1 : Value} {T : TypeId} (h : w.heap[b]? = some (.cells #[x0, x1] T (0, 0))) :
    w.cell? ⟨b, 0, none⟩ = some x0 ∧ w.cell? ⟨b, 1, none⟩ = some x1 ∧ w.frozen? ⟨b, 0, none⟩ = false ∧ w.frozen? ⟨b, 1, none⟩ = false :=
  two_cells (Below.refl (b + 1) w) h (by omega)
theorem row0 (w : World) (A B R : Obj) : (((w.alloc A).alloc B).alloc R).heap[w.heap.size]? = some A := row_alloc _ (alloc_at1 w A B)
theorem row1 (w : World) (A B R : Obj) : (((w.alloc A).alloc B).alloc R).heap[w.heap.size + 1]? = some B := row_alloc _ (alloc_at2 w A B)
theorem row2 (w : World) (A B R : Obj) : (((w.alloc A).alloc B).alloc R).heap[w.heap.size + 2]? = some R := by
  have := alloc_at0 ((w.alloc A).alloc B) R
  rwa [show ((w.alloc A).alloc B).heap.size = w.heap.size + 2 by show ((w.heap.push A).push B).size = _; simp] at this

theorem bd {n d : Int} (h : valid n d = true) : (-2147483647 ≤ n ∧ n ≤ 2147483647) ∧ (1 ≤ d ∧ d ≤ 2147483647) ∧ (-2147483647 ≤ d ∧ d ≤ 2147483647) := by
  obtain ⟨a, b, c, e, _⟩ := valid_iff.1 h
  exact ⟨⟨a, b⟩, ⟨c, e⟩, by omega, e⟩

set_option maxRecDepth 100000 in
theorem impl_both (n1 d1 n2 d2 : Int) (w : World) (h1 : -9223372036854775808 ≤ n1 ∧ n1 ≤ 9223372036854775807) (h2 : -9223372036854775808 ≤ d1 ∧ d1 ≤ 9223372036854775807) (h3 : -9223372036854775808 ≤ n2 ∧ n2 ≤ 9223372036854775807) (h4 : -9223372036854775808 ≤ d2 ∧ d2 ≤ 9223372036854775807) :
    Calls Tryd.prog 28 #[.agg #[.int .i64 n1, .int .i64 d1], .agg #[.int .i64 n2, .int .i64 d2]] w fun e w' => e = .returned (.bool (valid n1 d1 && valid n2 d2)) ∧ Below w.heap.size w w' := by
  have H1 := Lib.hid (fun w => impl_valid n1 d1 w h1 h2)
  have H2 := Lib.hid (fun w => impl_valid n2 d2 w h3 h4)
  clear h1 h2 h3 h4
  go_enter Tryd.func28, Tryd.ntmps28
  go_wp2_with fail
  refine (H1.out _).mono ?_
  rintro e w1 ⟨rfl, hb1⟩
  have r1 := row_cells (row_later hb1 (alloc_at2 w _ _) (by simp))
  obtain ⟨g0, g1, _, _⟩ := r1
  have HB := Lib.hid hb1
  clear hb1
  by_cases ha : valid n1 d1 = true
  · rw [ha]
    go_wp2_with fail
    refine (H2.out _).mono ?_
    rintro e w2 ⟨rfl, hb2⟩
    have HB2 := Lib.hid hb2
    clear hb2
    go_wp2_with fail
    go_ret
    exact ⟨ret_bool (by simp [ha]), (((Below.refl _ _).alloc (Nat.le_refl _) _).alloc (by simp) _).trans ((HB.out.mono (by simp; omega)).trans (HB2.out.mono (by have := HB.out.size; simp at this; omega)))⟩
  · have ha : valid n1 d1 = false := by simpa using ha
    rw [ha]
    go_wp2_with fail
    go_ret
    exact ⟨ret_bool (by simp [ha]), (((Below.refl _ _).alloc (Nat.le_refl _) _).alloc (by simp) _).trans (HB.out.mono (by simp; omega))⟩

set_option maxRecDepth 100000 in
theorem impl_add (n1 d1 n2 d2 : Int) (w : World) (h1 : -9223372036854775808 ≤ n1 ∧ n1 ≤ 9223372036854775807) (h2 : -9223372036854775808 ≤ d1 ∧ d1 ≤ 9223372036854775807) (h3 : -9223372036854775808 ≤ n2 ∧ n2 ≤ 9223372036854775807) (h4 : -9223372036854775808 ≤ d2 ∧ d2 ≤ 9223372036854775807) :
    Calls Tryd.prog 8 #[.agg #[.int .i64 n1, .int .i64 d1], .agg #[.int .i64 n2, .int .i64 d2]] w fun e w' => e = .returned (.tuple #[.agg #[.int .i64 (opN (valid n1 d1 && valid n2 d2) (n1 * d2 + n2 * d1) (d1 * d2)), .int .i64 (opD (valid n1 d1 && valid n2 d2) (n1 * d2 + n2 * d1) (d1 * d2))], .bool (opOk (valid n1 d1 && valid n2 d2) (n1 * d2 + n2 * d1) (d1 * d2))]) ∧ Below w.heap.size w w' := by
  have H1 := Lib.hid (fun w => impl_both n1 d1 n2 d2 w h1 h2 h3 h4)
  clear h1 h2 h3 h4
  by_cases hv : (valid n1 d1 && valid n2 d2) = true
  · obtain ⟨hva, hvb⟩ := Bool.and_eq_true_iff.1 hv
    obtain ⟨a1, a2, a3⟩ := bd hva
    obtain ⟨b1, b2, b3⟩ := bd hvb
    have HO := Lib.hid (op_yes hv (n1 * d2 + n2 * d1) (d1 * d2))
    obtain ⟨m0, k0⟩ := mul_bd a1 b3
    obtain ⟨m1, k1⟩ := mul_bd b1 a3
    obtain ⟨m2, k2⟩ := mul_bd a3 b3
    obtain ⟨a11, a12⟩ := a1
    obtain ⟨a31, a32⟩ := a3
    obtain ⟨b11, b12⟩ := b1
    obtain ⟨b31, b32⟩ := b3
    have HM := Lib.hid (fun w => impl_make (n1 * d2 + n2 * d1) (d1 * d2) w ⟨by omega, by omega⟩ ⟨by omega, by omega⟩)
    rw [HO.out.1, HO.out.2.1, HO.out.2.2]
    clear a2 b2 hva hvb
    go_enter Tryd.func8, Tryd.ntmps8
    go_wp2_with fail
    refine (H1.out _).mono ?_
    rintro e w1 ⟨rfl, hb1⟩
    rw [hv]
    have rR := Lib.hid (row_later hb1 (row2 w _ _ _) (by first | (simp; done) | (simp; omega)))
    obtain ⟨p0, p1, _, _⟩ := row_cells (row_later hb1 (row0 w _ _ _) (by first | (simp; done) | (simp; omega)))
    obtain ⟨q0, q1, _, _⟩ := row_cells (row_later hb1 (row1 w _ _ _) (by first | (simp; done) | (simp; omega)))
    have hs1 : w.heap.size + 3 ≤ w1.heap.size := by have := hb1.size; simp at this; exact this
    have HB := Lib.hid hb1
    clear hb1 hv
    go_wp2_with fail
    refine (HM.out _).mono ?_
    rintro e w2 ⟨rfl, hb2⟩
    obtain ⟨c0, c1, f0, f1⟩ := row_cells (row_later hb2 rR.out (by omega))
    have HB2 := Lib.hid hb2
    clear hb2
    go_wp2_with fail
    refine bodyPost_ret (v := .tuple #[.agg #[.int .i64 (mkN (n1 * d2 + n2 * d1) (d1 * d2)), .int .i64 (mkD (n1 * d2 + n2 * d1) (d1 * d2))], .bool (mkOk (n1 * d2 + n2 * d1) (d1 * d2))]) (by simp [results, Tryd.results8, go_sem, c0, c1]) rfl ⟨rfl, ?_⟩
    exact (((((((Below.refl _ _).alloc (Nat.le_refl _) _).alloc (by first | (simp; done) | (simp; omega)) _).alloc (by first | (simp; done) | (simp; omega)) _).trans (HB.out.mono (by first | (simp; done) | (simp; omega)))).trans (HB2.out.mono (by omega))).setCell (by first | (simp; done) | (simp; omega)) _).setCell (by first | (simp; done) | (simp; omega)) _
  · have hv : (valid n1 d1 && valid n2 d2) = false := by simpa using hv
    obtain ⟨e1, e2, e3⟩ := op_no hv (n1 * d2 + n2 * d1) (d1 * d2)
    rw [e1, e2, e3]
    clear e1 e2 e3
    go_enter Tryd.func8, Tryd.ntmps8
    go_wp2_with fail
    refine (H1.out _).mono ?_
    rintro e w1 ⟨rfl, hb1⟩
    rw [hv]
    obtain ⟨c0, c1, f0, f1⟩ := row_cells (row_later hb1 (row2 w _ _ _) (by first | (simp; done) | (simp; omega)))
    have HB := Lib.hid hb1
    clear hb1 hv
    go_wp2_with fail
    refine bodyPost_ret (v := .tuple #[.agg #[.int .i64 0, .int .i64 0], .bool false]) (by simp [results, Tryd.results8, go_sem, c0, c1]) rfl ⟨rfl, ?_⟩
    exact ((((((Below.refl _ _).alloc (Nat.le_refl _) _).alloc (by first | (simp; done) | (simp; omega)) _).alloc (by first | (simp; done) | (simp; omega)) _).trans (HB.out.mono (by first | (simp; done) | (simp; omega)))).setCell (by first | (simp; done) | (simp; omega)) _).setCell (by first | (simp; done) | (simp; omega)) _
set_option maxRecDepth 100000 in
theorem impl_sub (n1 d1 n2 d2 : Int) (w : World) (h1 : -9223372036854775808 ≤ n1 ∧ n1 ≤ 9223372036854775807) (h2 : -9223372036854775808 ≤ d1 ∧ d1 ≤ 9223372036854775807) (h3 : -9223372036854775808 ≤ n2 ∧ n2 ≤ 9223372036854775807) (h4 : -9223372036854775808 ≤ d2 ∧ d2 ≤ 9223372036854775807) :
    Calls Tryd.prog 10 #[.agg #[.int .i64 n1, .int .i64 d1], .agg #[.int .i64 n2, .int .i64 d2]] w fun e w' => e = .returned (.tuple #[.agg #[.int .i64 (opN (valid n1 d1 && valid n2 d2) (n1 * d2 - n2 * d1) (d1 * d2)), .int .i64 (opD (valid n1 d1 && valid n2 d2) (n1 * d2 - n2 * d1) (d1 * d2))], .bool (opOk (valid n1 d1 && valid n2 d2) (n1 * d2 - n2 * d1) (d1 * d2))]) ∧ Below w.heap.size w w' := by
  have H1 := Lib.hid (fun w => impl_both n1 d1 n2 d2 w h1 h2 h3 h4)
  clear h1 h2 h3 h4
  by_cases hv : (valid n1 d1 && valid n2 d2) = true
  · obtain ⟨hva, hvb⟩ := Bool.and_eq_true_iff.1 hv
    obtain ⟨a1, a2, a3⟩ := bd hva
    obtain ⟨b1, b2, b3⟩ := bd hvb
    have HO := Lib.hid (op_yes hv (n1 * d2 - n2 * d1) (d1 * d2))
    obtain ⟨m0, k0⟩ := mul_bd a1 b3
    obtain ⟨m1, k1⟩ := mul_bd b1 a3
    obtain ⟨m2, k2⟩ := mul_bd a3 b3
    obtain ⟨a11, a12⟩ := a1
    obtain ⟨a31, a32⟩ := a3
    obtain ⟨b11, b12⟩ := b1
    obtain ⟨b31, b32⟩ := b3
    have HM := Lib.hid (fun w => impl_make (n1 * d2 - n2 * d1) (d1 * d2) w ⟨by omega, by omega⟩ ⟨by omega, by omega⟩)
    rw [HO.out.1, HO.out.2.1, HO.out.2.2]
    clear a2 b2 hva hvb
    go_enter Tryd.func10, Tryd.ntmps10
    go_wp2_with fail
    refine (H1.out _).mono ?_
    rintro e w1 ⟨rfl, hb1⟩
    rw [hv]
    have rR := Lib.hid (row_later hb1 (row2 w _ _ _) (by first | (simp; done) | (simp; omega)))
    obtain ⟨p0, p1, _, _⟩ := row_cells (row_later hb1 (row0 w _ _ _) (by first | (simp; done) | (simp; omega)))
    obtain ⟨q0, q1, _, _⟩ := row_cells (row_later hb1 (row1 w _ _ _) (by first | (simp; done) | (simp; omega)))
    have hs1 : w.heap.size + 3 ≤ w1.heap.size := by have := hb1.size; simp at this; exact this
    have HB := Lib.hid hb1
    clear hb1 hv
    go_wp2_with fail
    refine (HM.out _).mono ?_
    rintro e w2 ⟨rfl, hb2⟩
    obtain ⟨c0, c1, f0, f1⟩ := row_cells (row_later hb2 rR.out (by omega))
    have HB2 := Lib.hid hb2
    clear hb2
    go_wp2_with fail
    refine bodyPost_ret (v := .tuple #[.agg #[.int .i64 (mkN (n1 * d2 - n2 * d1) (d1 * d2)), .int .i64 (mkD (n1 * d2 - n2 * d1) (d1 * d2))], .bool (mkOk (n1 * d2 - n2 * d1) (d1 * d2))]) (by simp [results, Tryd.results10, go_sem, c0, c1]) rfl ⟨rfl, ?_⟩
    exact (((((((Below.refl _ _).alloc (Nat.le_refl _) _).alloc (by first | (simp; done) | (simp; omega)) _).alloc (by first | (simp; done) | (simp; omega)) _).trans (HB.out.mono (by first | (simp; done) | (simp; omega)))).trans (HB2.out.mono (by omega))).setCell (by first | (simp; done) | (simp; omega)) _).setCell (by first | (simp; done) | (simp; omega)) _
  · have hv : (valid n1 d1 && valid n2 d2) = false := by simpa using hv
    obtain ⟨e1, e2, e3⟩ := op_no hv (n1 * d2 - n2 * d1) (d1 * d2)
    rw [e1, e2, e3]
    clear e1 e2 e3
    go_enter Tryd.func10, Tryd.ntmps10
    go_wp2_with fail
    refine (H1.out _).mono ?_
    rintro e w1 ⟨rfl, hb1⟩
    rw [hv]
    obtain ⟨c0, c1, f0, f1⟩ := row_cells (row_later hb1 (row2 w _ _ _) (by first | (simp; done) | (simp; omega)))
    have HB := Lib.hid hb1
    clear hb1 hv
    go_wp2_with fail
    refine bodyPost_ret (v := .tuple #[.agg #[.int .i64 0, .int .i64 0], .bool false]) (by simp [results, Tryd.results10, go_sem, c0, c1]) rfl ⟨rfl, ?_⟩
    exact ((((((Below.refl _ _).alloc (Nat.le_refl _) _).alloc (by first | (simp; done) | (simp; omega)) _).alloc (by first | (simp; done) | (simp; omega)) _).trans (HB.out.mono (by first | (simp; done) | (simp; omega)))).setCell (by first | (simp; done) | (simp; omega)) _).setCell (by first | (simp; done) | (simp; omega)) _
set_option maxRecDepth 100000 in
theorem impl_mul (n1 d1 n2 d2 : Int) (w : World) (h1 : -9223372036854775808 ≤ n1 ∧ n1 ≤ 9223372036854775807) (h2 : -9223372036854775808 ≤ d1 ∧ d1 ≤ 9223372036854775807) (h3 : -9223372036854775808 ≤ n2 ∧ n2 ≤ 9223372036854775807) (h4 : -9223372036854775808 ≤ d2 ∧ d2 ≤ 9223372036854775807) :
    Calls Tryd.prog 11 #[.agg #[.int .i64 n1, .int .i64 d1], .agg #[.int .i64 n2, .int .i64 d2]] w fun e w' => e = .returned (.tuple #[.agg #[.int .i64 (opN (valid n1 d1 && valid n2 d2) (n1 * n2) (d1 * d2)), .int .i64 (opD (valid n1 d1 && valid n2 d2) (n1 * n2) (d1 * d2))], .bool (opOk (valid n1 d1 && valid n2 d2) (n1 * n2) (d1 * d2))]) ∧ Below w.heap.size w w' := by
  have H1 := Lib.hid (fun w => impl_both n1 d1 n2 d2 w h1 h2 h3 h4)
  clear h1 h2 h3 h4
  by_cases hv : (valid n1 d1 && valid n2 d2) = true
  · obtain ⟨hva, hvb⟩ := Bool.and_eq_true_iff.1 hv
    obtain ⟨a1, a2, a3⟩ := bd hva
    obtain ⟨b1, b2, b3⟩ := bd hvb
    have HO := Lib.hid (op_yes hv (n1 * n2) (d1 * d2))
    obtain ⟨m0, k0⟩ := mul_bd a1 b1
    obtain ⟨m1, k1⟩ := mul_bd a3 b3
    obtain ⟨a11, a12⟩ := a1
    obtain ⟨a31, a32⟩ := a3
    obtain ⟨b11, b12⟩ := b1
    obtain ⟨b31, b32⟩ := b3
    have HM := Lib.hid (fun w => impl_make (n1 * n2) (d1 * d2) w ⟨by omega, by omega⟩ ⟨by omega, by omega⟩)
    rw [HO.out.1, HO.out.2.1, HO.out.2.2]
    clear a2 b2 hva hvb
    go_enter Tryd.func11, Tryd.ntmps11
    go_wp2_with fail
    refine (H1.out _).mono ?_
    rintro e w1 ⟨rfl, hb1⟩
    rw [hv]
    have rR := Lib.hid (row_later hb1 (row2 w _ _ _) (by first | (simp; done) | (simp; omega)))
    obtain ⟨p0, p1, _, _⟩ := row_cells (row_later hb1 (row0 w _ _ _) (by first | (simp; done) | (simp; omega)))
    obtain ⟨q0, q1, _, _⟩ := row_cells (row_later hb1 (row1 w _ _ _) (by first | (simp; done) | (simp; omega)))
    have hs1 : w.heap.size + 3 ≤ w1.heap.size := by have := hb1.size; simp at this; exact this
    have HB := Lib.hid hb1
    clear hb1 hv
    go_wp2_with fail
    refine (HM.out _).mono ?_
    rintro e w2 ⟨rfl, hb2⟩
    obtain ⟨c0, c1, f0, f1⟩ := row_cells (row_later hb2 rR.out (by omega))
    have HB2 := Lib.hid hb2
    clear hb2
    go_wp2_with fail
    refine bodyPost_ret (v := .tuple #[.agg #[.int .i64 (mkN (n1 * n2) (d1 * d2)), .int .i64 (mkD (n1 * n2) (d1 * d2))], .bool (mkOk (n1 * n2) (d1 * d2))]) (by simp [results, Tryd.results11, go_sem, c0, c1]) rfl ⟨rfl, ?_⟩
    exact (((((((Below.refl _ _).alloc (Nat.le_refl _) _).alloc (by first | (simp; done) | (simp; omega)) _).alloc (by first | (simp; done) | (simp; omega)) _).trans (HB.out.mono (by first | (simp; done) | (simp; omega)))).trans (HB2.out.mono (by omega))).setCell (by first | (simp; done) | (simp; omega)) _).setCell (by first | (simp; done) | (simp; omega)) _
  · have hv : (valid n1 d1 && valid n2 d2) = false := by simpa using hv
    obtain ⟨e1, e2, e3⟩ := op_no hv (n1 * n2) (d1 * d2)
    rw [e1, e2, e3]
    clear e1 e2 e3
    go_enter Tryd.func11, Tryd.ntmps11
    go_wp2_with fail
    refine (H1.out _).mono ?_
    rintro e w1 ⟨rfl, hb1⟩
    rw [hv]
    obtain ⟨c0, c1, f0, f1⟩ := row_cells (row_later hb1 (row2 w _ _ _) (by first | (simp; done) | (simp; omega)))
    have HB := Lib.hid hb1
    clear hb1 hv
    go_wp2_with fail
    refine bodyPost_ret (v := .tuple #[.agg #[.int .i64 0, .int .i64 0], .bool false]) (by simp [results, Tryd.results11, go_sem, c0, c1]) rfl ⟨rfl, ?_⟩
    exact ((((((Below.refl _ _).alloc (Nat.le_refl _) _).alloc (by first | (simp; done) | (simp; omega)) _).alloc (by first | (simp; done) | (simp; omega)) _).trans (HB.out.mono (by first | (simp; done) | (simp; omega)))).setCell (by first | (simp; done) | (simp; omega)) _).setCell (by first | (simp; done) | (simp; omega)) _
set_option maxRecDepth 100000 in
theorem impl_div (n1 d1 n2 d2 : Int) (w : World) (h1 : -9223372036854775808 ≤ n1 ∧ n1 ≤ 9223372036854775807) (h2 : -9223372036854775808 ≤ d1 ∧ d1 ≤ 9223372036854775807) (h3 : -9223372036854775808 ≤ n2 ∧ n2 ≤ 9223372036854775807) (h4 : -9223372036854775808 ≤ d2 ∧ d2 ≤ 9223372036854775807) :
    Calls Tryd.prog 12 #[.agg #[.int .i64 n1, .int .i64 d1], .agg #[.int .i64 n2, .int .i64 d2]] w fun e w' => e = .returned (.tuple #[.agg #[.int .i64 (opN (valid n1 d1 && valid n2 d2) (n1 * d2) (d1 * n2)), .int .i64 (opD (valid n1 d1 && valid n2 d2) (n1 * d2) (d1 * n2))], .bool (opOk (valid n1 d1 && valid n2 d2) (n1 * d2) (d1 * n2))]) ∧ Below w.heap.size w w' := by
  have H1 := Lib.hid (fun w => impl_both n1 d1 n2 d2 w h1 h2 h3 h4)
  clear h1 h2 h3 h4
  by_cases hv : (valid n1 d1 && valid n2 d2) = true
  · obtain ⟨hva, hvb⟩ := Bool.and_eq_true_iff.1 hv
    obtain ⟨a1, a2, a3⟩ := bd hva
    obtain ⟨b1, b2, b3⟩ := bd hvb
    have HO := Lib.hid (op_yes hv (n1 * d2) (d1 * n2))
    obtain ⟨m0, k0⟩ := mul_bd a1 b3
    obtain ⟨m1, k1⟩ := mul_bd a3 b1
    obtain ⟨a11, a12⟩ := a1
    obtain ⟨a31, a32⟩ := a3
    obtain ⟨b11, b12⟩ := b1
    obtain ⟨b31, b32⟩ := b3
    have HM := Lib.hid (fun w => impl_make (n1 * d2) (d1 * n2) w ⟨by omega, by omega⟩ ⟨by omega, by omega⟩)
    rw [HO.out.1, HO.out.2.1, HO.out.2.2]
    clear a2 b2 hva hvb
    go_enter Tryd.func12, Tryd.ntmps12
    go_wp2_with fail
    refine (H1.out _).mono ?_
    rintro e w1 ⟨rfl, hb1⟩
    rw [hv]
    have rR := Lib.hid (row_later hb1 (row2 w _ _ _) (by first | (simp; done) | (simp; omega)))
    obtain ⟨p0, p1, _, _⟩ := row_cells (row_later hb1 (row0 w _ _ _) (by first | (simp; done) | (simp; omega)))
    obtain ⟨q0, q1, _, _⟩ := row_cells (row_later hb1 (row1 w _ _ _) (by first | (simp; done) | (simp; omega)))
    have hs1 : w.heap.size + 3 ≤ w1.heap.size := by have := hb1.size; simp at this; exact this
    have HB := Lib.hid hb1
    clear hb1 hv
    go_wp2_with fail
    refine (HM.out _).mono ?_
    rintro e w2 ⟨rfl, hb2⟩
    obtain ⟨c0, c1, f0, f1⟩ := row_cells (row_later hb2 rR.out (by omega))
    have HB2 := Lib.hid hb2
    clear hb2
    go_wp2_with fail
    refine bodyPost_ret (v := .tuple #[.agg #[.int .i64 (mkN (n1 * d2) (d1 * n2)), .int .i64 (mkD (n1 * d2) (d1 * n2))], .bool (mkOk (n1 * d2) (d1 * n2))]) (by simp [results, Tryd.results12, go_sem, c0, c1]) rfl ⟨rfl, ?_⟩
    exact (((((((Below.refl _ _).alloc (Nat.le_refl _) _).alloc (by first | (simp; done) | (simp; omega)) _).alloc (by first | (simp; done) | (simp; omega)) _).trans (HB.out.mono (by first | (simp; done) | (simp; omega)))).trans (HB2.out.mono (by omega))).setCell (by first | (simp; done) | (simp; omega)) _).setCell (by first | (simp; done) | (simp; omega)) _
  · have hv : (valid n1 d1 && valid n2 d2) = false := by simpa using hv
    obtain ⟨e1, e2, e3⟩ := op_no hv (n1 * d2) (d1 * n2)
    rw [e1, e2, e3]
    clear e1 e2 e3
    go_enter Tryd.func12, Tryd.ntmps12
    go_wp2_with fail
    refine (H1.out _).mono ?_
    rintro e w1 ⟨rfl, hb1⟩
    rw [hv]
    obtain ⟨c0, c1, f0, f1⟩ := row_cells (row_later hb1 (row2 w _ _ _) (by first | (simp; done) | (simp; omega)))
    have HB := Lib.hid hb1
    clear hb1 hv
    go_wp2_with fail
    refine bodyPost_ret (v := .tuple #[.agg #[.int .i64 0, .int .i64 0], .bool false]) (by simp [results, Tryd.results12, go_sem, c0, c1]) rfl ⟨rfl, ?_⟩
    exact ((((((Below.refl _ _).alloc (Nat.le_refl _) _).alloc (by first | (simp; done) | (simp; omega)) _).alloc (by first | (simp; done) | (simp; omega)) _).trans (HB.out.mono (by first | (simp; done) | (simp; omega)))).setCell (by first | (simp; done) | (simp; omega)) _).setCell (by first | (simp; done) | (simp; omega)) _
end Go.Proofs.YtkmhfgedbkkihaaDoor.RatOps
