/- Making rationals: the model's and the program's functions. -/
import Derived.Test.YtkmhfgedbkkihaaDoorRatGcd
import Derived.RegionTactic
import Derived.ChangeAlike
import Derived.Laws.StructEq
namespace Go.Proofs.YtkmhfgedbkkihaaDoor.RatMake
open Go Go.RowKit Byt Ratio RatGcd

theorem flip {P : Program} {f : FuncId} {args : Array Value} {w : World} {v : Value} (h : Calls P f args w fun e w' => e = .returned v ∧ w = w') : Calls P f args w fun e w' => e = .returned v ∧ w' = w :=
  h.mono fun _ _ ⟨a, b⟩ => ⟨a, b.symm⟩

theorem drewN_below {B n : Nat} {w w' : World} (h : Below B w w') : Below B w (w'.drewN n) := ⟨h.os, h.tape, h.output, h.size, h.block⟩
/-- What a block of two cells holds behind a call that leaves it alone. -/
theorem two_cells {W w1 : World} {B b : Nat} (hb : Below B W w1) {x0 x1 : Value} {T : TypeId} (h : W.heap[b]? = some (.cells #[x0, x1] T (0, 0))) (hB : b < B) :
    w1.cell? ⟨b, 0, none⟩ = some x0 ∧ w1.cell? ⟨b, 1, none⟩ = some x1 ∧ w1.frozen? ⟨b, 0, none⟩ = false ∧ w1.frozen? ⟨b, 1, none⟩ = false := by
  have h1 : w1.heap[b]? = some (.cells #[x0, x1] T (0, 0)) := by rw [hb.block b hB]; exact h
  have c0 := cell_of_row w1 b 0 _ _ _ h1
  have c1 := cell_of_row w1 b 1 _ _ _ h1
  have f0 := frozen_of_row w1 b 0 _ _ h1
  have f1 := frozen_of_row w1 b 1 _ _ h1
  simp only [List.getElem?_toArray, List.getElem?_cons_zero, List.getElem?_cons_succ] at c0 c1
  exact ⟨c0, c1, f0, f1⟩
theorem row_later {W w1 : World} {B b : Nat} {o : Obj} (hb : Below B W w1) (h : W.heap[b]? = some o) (hB : b < B) : w1.heap[b]? = some o := by rw [hb.block b hB]; exact h
theorem row_alloc {w : World} {b : Nat} {o : Obj} (x : Obj) (h : w.heap[b]? = some o) : (w.alloc x).heap[b]? = some o := by
  have hlt := (Array.getElem?_eq_some_iff.1 h).1
  show (w.heap.push x)[b]? = some o
  rw [Array.getElem?_push, if_neg (by omega)]
  exact h
theorem alloc_at0 (w : World) (A : Obj) : (w.alloc A).heap[w.heap.size]? = some A := heap_alloc_new w A
theorem alloc_at1 (w : World) (A B : Obj) : ((w.alloc A).alloc B).heap[w.heap.size]? = some A := by
  show ((w.heap.push A).push B)[w.heap.size]? = some A
  rw [Array.getElem?_push, if_neg (by simp), Array.getElem?_push, if_pos rfl]
theorem alloc_at2 (w : World) (A B : Obj) : ((w.alloc A).alloc B).heap[w.heap.size + 1]? = some B := by
  have := heap_alloc_new (w.alloc A) B
  rwa [show (w.alloc A).heap.size = w.heap.size + 1 by show (w.heap.push A).size = _; simp] at this
theorem bcell {W w1 : World} (hb : Below W.heap.size W w1) : (∀ b o, b < W.heap.size → w1.cell? ⟨b, o, none⟩ = W.cell? ⟨b, o, none⟩) ∧ (∀ b o, b < W.heap.size → w1.frozen? ⟨b, o, none⟩ = W.frozen? ⟨b, o, none⟩) :=
  ⟨fun b o h => hb.cell (p := ⟨b, o, none⟩) h, fun b o h => hb.frozen (p := ⟨b, o, none⟩) h⟩
theorem ret_bool {a b : Bool} (h : a = b) : Ending.returned (.bool a) = .returned (.bool b) := by rw [h]

theorem spec_abs (n : Int) (w : World) (hn : -9223372036854775807 ≤ n ∧ n ≤ 9223372036854775807) :
    Calls Tryd.prog 31 #[.int .i64 n] w fun e w' => e = .returned (.int .i64 (n.natAbs : Nat)) ∧ w = w' := by
  obtain ⟨h1, h2⟩ := hn
  by_cases h : n < 0
  · go_enter Tryd.func31, Tryd.ntmps31
    go_wp2
    go_ret
    exact ⟨ret_int (by omega), rfl⟩
  · go_enter Tryd.func31, Tryd.ntmps31
    go_wp2
    go_ret
    exact ⟨ret_int (by omega), rfl⟩

set_option maxRecDepth 100000 in
theorem spec_valid (n d : Int) (w : World) :
    Calls Tryd.prog 9 #[.agg #[.int .i64 n, .int .i64 d]] w fun e w' => e = .returned (.bool (valid n d)) ∧ Below w.heap.size w w' := by
  by_cases hd : 1 ≤ d ∧ d ≤ 2147483647
  · have hid := fun w => flip (Fixed.l1In_yes hd.1 hd.2 w)
    obtain ⟨hd1, hd2⟩ := hd
    by_cases hn : -2147483647 ≤ n ∧ n ≤ 2147483647
    · have hin := fun w => flip (Fixed.l1In_yes hn.1 hn.2 w)
      obtain ⟨hn1, hn2⟩ := hn
      have hab := fun w => flip (spec_abs n w ⟨by omega, by omega⟩)
      obtain ⟨u, hu⟩ := Int.eq_ofNat_of_zero_le (show 0 ≤ d by omega)
      subst hu
      have hgc := fun w => flip (spec_gcd n.natAbs u w (by omega) (by omega))
      have hv : (((Nat.gcd n.natAbs u : Nat) : Int) == 1) = valid n u := by
        rw [Bool.eq_iff_iff, valid_iff, beq_iff_eq]
        have e : Int.gcd n u = Nat.gcd n.natAbs u := by unfold Int.gcd; rw [Int.natAbs_natCast]
        rw [e]
        omega
      have HV := Lib.hid hv
      have HI := Lib.hid hid
      have HJ := Lib.hid hin
      have HA := Lib.hid hab
      have HG := Lib.hid hgc
      clear hv hid hin hab hgc
      go_enter Tryd.func9, Tryd.ntmps9
      go_wp2
      go_quiet ((first | (go_at_call 29; with_reducible exact Calls.quiet_of_same (HI.out _)) | (go_at_call 29; with_reducible exact Calls.quiet_of_same (HJ.out _)) | (go_at_call 31; with_reducible exact Calls.quiet_of_same (HA.out _)) | (go_at_call 30; with_reducible exact Calls.quiet_of_same (HG.out _))))
      go_wp2
      go_ret
      exact ⟨ret_bool HV.out, drewN_below ((Below.refl _ _).alloc (Nat.le_refl _) _)⟩
    · have hin := fun w => flip (Fixed.l1In_no hn w)
      have hv : valid n d = false := by rw [valid_no]; omega
      have HV := Lib.hid hv
      have HI := Lib.hid hid
      have HJ := Lib.hid hin
      clear hv hid hin hn
      go_enter Tryd.func9, Tryd.ntmps9
      go_wp2
      go_quiet ((first | (go_at_call 29; with_reducible exact Calls.quiet_of_same (HI.out _)) | (go_at_call 29; with_reducible exact Calls.quiet_of_same (HJ.out _))))
      go_wp2
      go_ret
      exact ⟨ret_bool HV.out.symm, drewN_below ((Below.refl _ _).alloc (Nat.le_refl _) _)⟩
  · have hid := fun w => flip (Fixed.l1In_no hd w)
    have hv : valid n d = false := by rw [valid_no]; omega
    have HV := Lib.hid hv
    have HI := Lib.hid hid
    clear hv hid hd
    go_enter Tryd.func9, Tryd.ntmps9
    go_wp2
    go_quiet ((first | (go_at_call 29; with_reducible exact Calls.quiet_of_same (HI.out _))))
    go_wp2
    go_ret
    exact ⟨ret_bool HV.out.symm, drewN_below ((Below.refl _ _).alloc (Nat.le_refl _) _)⟩

set_option maxRecDepth 100000 in
theorem spec_make (n d : Int) (w : World) (hn : -9223372036854775808 ≤ n ∧ n ≤ 9223372036854775807) (hd : -9223372036854775808 ≤ d ∧ d ≤ 9223372036854775807) :
    Calls Tryd.prog 21 #[.int .i64 n, .int .i64 d] w fun e w' => e = .returned (.tuple #[.agg #[.int .i64 (mkN n d), .int .i64 (mkD n d)], .bool (mkOk n d)]) ∧ Below w.heap.size w w' := by
  by_cases h0 : d = 0 ∨ n = -9223372036854775808 ∨ d = -9223372036854775808
  · have hk : mkOk n d = false := by
      unfold mkOk
      rw [decide_eq_false (by omega), Bool.false_and]
    obtain ⟨e1, e2⟩ := mk_no hk
    rw [hk, e1, e2]
    clear e1 e2 hk
    go_enter Tryd.func21, Tryd.ntmps21
    go_wp2
    all_goals exact bodyPost_ret (v := .tuple #[.agg #[.int .i64 0, .int .i64 0], .bool false]) (by simp [results, Tryd.results21, go_sem]) rfl ⟨rfl, (Below.refl _ _).alloc (Nat.le_refl _) _⟩
  · have h1 : d ≠ 0 := by omega
    have h2 : n ≠ -9223372036854775808 := by omega
    have h3 : d ≠ -9223372036854775808 := by omega
    have t1 : (d == 0) = false := by rw [beq_eq_false_iff_ne]; exact h1
    have hgp := gcd_pos (n := n) h1
    have hmk : mkOk n d = lim (rnum n d) (rden n d) := by unfold mkOk; rw [decide_eq_true ⟨h1, h2, h3⟩, Bool.true_and]
    have hrn := rnum_bd (n := n) h1
    have hrd := rden_bd (n := n) h1
    have hrv := red_valid (n := n) h1
    rw [← hmk] at hrv
    have HN := Lib.hid (And.intro (fun h : mkOk n d = true => (mk_ok h).2) (fun h : mkOk n d = false => mk_no h))
    have hb1 : -9223372036854775807 ≤ n := by omega
    have hb2 : -9223372036854775807 ≤ d := by omega
    obtain ⟨hn1, hn2⟩ := hn
    obtain ⟨hd1, hd2⟩ := hd
    have hgl : (Int.gcd n d : Int) ≤ 9223372036854775807 := by
      have := Int.gcd_le_natAbs_right n h1
      omega
    by_cases hs : d < 0
    · have hgc := fun w => spec_gcdI (n.natAbs) (-d) w ⟨by omega, by omega⟩ ⟨by omega, by omega⟩
      have e : Int.gcd (n.natAbs : Int) (-d) = Int.gcd n d := by unfold Int.gcd; rw [Int.natAbs_natCast, Int.natAbs_neg]
      rw [e] at hgc
      have hab := fun w => spec_abs (-n) w ⟨by omega, by omega⟩
      rw [Int.natAbs_neg] at hab
      obtain ⟨q1, q2⟩ := quo_neg (n := n) hs
      have HR := Lib.hid hrv
      have HA := Lib.hid hab
      have HG := Lib.hid hgc
      have t2 : (((Int.gcd n d : Nat) : Int) == 0) = false := by rw [beq_eq_false_iff_ne]; omega
      clear hmk hrv hab hgc e h0 h1 h2 h3
      generalize Int.gcd n d = g at *
      go_enter Tryd.func21, Tryd.ntmps21
      go_wp2_with fail
      refine (HA.out _).mono ?_
      rintro e w1 ⟨rfl, rfl⟩
      go_wp2_with fail
      refine (HG.out _).mono ?_
      rintro e w1 ⟨rfl, rfl⟩
      go_wp2_with fail
      go_region
      go_wp2_with fail
      refine (spec_valid (rnum n d) (rden n d) _).mono ?_
      rintro e w1 ⟨rfl, hb1⟩
      rw [HR.out]
      obtain ⟨c0, c1, f0, f1⟩ := two_cells hb1 (alloc_at1 w _ _) (by simp; omega)
      obtain ⟨g0, g1, _, _⟩ := two_cells hb1 (alloc_at2 w _ _) (by simp)
      have HB := Lib.hid hb1
      clear hb1
      by_cases hk : mkOk n d = true
      · obtain ⟨e1, e2, _⟩ := HN.out.1 hk
        have HE := Lib.hid (And.intro e1 e2)
        clear e1 e2
        go_wp2_with fail
        refine bodyPost_ret (v := .tuple #[.agg #[.int .i64 (mkN n d), .int .i64 (mkD n d)], .bool (mkOk n d)]) (by simp [results, Tryd.results21, go_sem, HE.out.1, HE.out.2, hk, c0, c1]) rfl ⟨rfl, ?_⟩
        exact (((((Below.refl _ _).alloc (Nat.le_refl _) _).alloc (by simp) _).trans ((below_undrew HB.out).mono (by simp; omega))).setCell (by simp) _).setCell (by simp) _
      · have hk : mkOk n d = false := by simpa using hk
        obtain ⟨e1, e2⟩ := HN.out.2 hk
        have HE := Lib.hid (And.intro e1 e2)
        clear e1 e2
        go_wp2_with fail
        refine bodyPost_ret (v := .tuple #[.agg #[.int .i64 (mkN n d), .int .i64 (mkD n d)], .bool (mkOk n d)]) (by simp [results, Tryd.results21, go_sem, HE.out.1, HE.out.2, hk, c0, c1]) rfl ⟨rfl, ?_⟩
        exact (((((Below.refl _ _).alloc (Nat.le_refl _) _).alloc (by simp) _).trans ((below_undrew HB.out).mono (by simp; omega))).setCell (by simp) _).setCell (by simp) _
    · have hgc := fun w => spec_gcdI (n.natAbs) d w ⟨by omega, by omega⟩ ⟨by omega, by omega⟩
      have e : Int.gcd (n.natAbs : Int) d = Int.gcd n d := by unfold Int.gcd; rw [Int.natAbs_natCast]
      rw [e] at hgc
      have hab := fun w => spec_abs n w ⟨by omega, by omega⟩
      obtain ⟨q1, q2⟩ := quo_pos (n := n) hs
      rw [Int.tdiv_eq_ediv_of_nonneg (by omega)] at q2
      have HR := Lib.hid hrv
      have HA := Lib.hid hab
      have HG := Lib.hid hgc
      have t2 : (((Int.gcd n d : Nat) : Int) == 0) = false := by rw [beq_eq_false_iff_ne]; omega
      clear hmk hrv hab hgc e h0 h1 h2 h3
      generalize Int.gcd n d = g at *
      go_enter Tryd.func21, Tryd.ntmps21
      go_wp2_with fail
      refine (HA.out _).mono ?_
      rintro e w1 ⟨rfl, rfl⟩
      go_wp2_with fail
      refine (HG.out _).mono ?_
      rintro e w1 ⟨rfl, rfl⟩
      go_wp2_with fail
      go_region
      go_wp2_with fail
      refine (spec_valid (rnum n d) (rden n d) _).mono ?_
      rintro e w1 ⟨rfl, hb1⟩
      rw [HR.out]
      obtain ⟨c0, c1, f0, f1⟩ := two_cells hb1 (alloc_at1 w _ _) (by simp; omega)
      obtain ⟨g0, g1, _, _⟩ := two_cells hb1 (alloc_at2 w _ _) (by simp)
      have HB := Lib.hid hb1
      clear hb1
      by_cases hk : mkOk n d = true
      · obtain ⟨e1, e2, _⟩ := HN.out.1 hk
        have HE := Lib.hid (And.intro e1 e2)
        clear e1 e2
        go_wp2_with fail
        refine bodyPost_ret (v := .tuple #[.agg #[.int .i64 (mkN n d), .int .i64 (mkD n d)], .bool (mkOk n d)]) (by simp [results, Tryd.results21, go_sem, HE.out.1, HE.out.2, hk, c0, c1]) rfl ⟨rfl, ?_⟩
        exact (((((Below.refl _ _).alloc (Nat.le_refl _) _).alloc (by simp) _).trans ((below_undrew HB.out).mono (by simp; omega))).setCell (by simp) _).setCell (by simp) _
      · have hk : mkOk n d = false := by simpa using hk
        obtain ⟨e1, e2⟩ := HN.out.2 hk
        have HE := Lib.hid (And.intro e1 e2)
        clear e1 e2
        go_wp2_with fail
        refine bodyPost_ret (v := .tuple #[.agg #[.int .i64 (mkN n d), .int .i64 (mkD n d)], .bool (mkOk n d)]) (by simp [results, Tryd.results21, go_sem, HE.out.1, HE.out.2, hk, c0, c1]) rfl ⟨rfl, ?_⟩
        exact (((((Below.refl _ _).alloc (Nat.le_refl _) _).alloc (by simp) _).trans ((below_undrew HB.out).mono (by simp; omega))).setCell (by simp) _).setCell (by simp) _
set_option maxRecDepth 100000 in
theorem impl_lim (n d : Int) (w : World) :
    Calls Tryd.prog 40 #[.agg #[.int .i64 n, .int .i64 d]] w fun e w' => e = .returned (.bool (lim n d)) ∧ Below w.heap.size w w' := by
  by_cases h : lim n d = true
  · have HL := Lib.hid h
    obtain ⟨h1, h2, h3, h4⟩ := lim_iff.1 h
    clear h
    go_enter Tryd.func40, Tryd.ntmps40
    go_wp2
    go_ret
    exact ⟨ret_bool HL.out.symm, (Below.refl _ _).alloc (Nat.le_refl _) _⟩
  · have h : lim n d = false := by simpa using h
    have HL := Lib.hid h
    have h5 := lim_no.1 h
    clear h
    go_enter Tryd.func40, Tryd.ntmps40
    go_wp2
    all_goals
      go_ret
      first | exact ⟨rfl, (Below.refl _ _).alloc (Nat.le_refl _) _⟩ | exact ⟨ret_bool (by rw [HL.out]; simp; omega), (Below.refl _ _).alloc (Nat.le_refl _) _⟩

set_option maxRecDepth 100000 in
theorem impl_reduced (n d : Int) (w : World) (hn : -9223372036854775807 ≤ n ∧ n ≤ 9223372036854775807) (hd : -9223372036854775807 ≤ d ∧ d ≤ 9223372036854775807) (h1 : d ≠ 0) :
    Calls Tryd.prog 39 #[.agg #[.int .i64 n, .int .i64 d]] w fun e w' => e = .returned (.agg #[.int .i64 (rnum n d), .int .i64 (rden n d)]) ∧ Below w.heap.size w w' := by
  have hgp := gcd_pos (n := n) h1
  have hrn := rnum_bd (n := n) h1
  have hrd := rden_bd (n := n) h1
  have hgc := fun w => impl_gcd n d w hn hd
  have hgl : (Int.gcd n d : Int) ≤ 9223372036854775807 := by
    have := Int.gcd_le_natAbs_right n h1
    omega
  have HG := Lib.hid hgc
  obtain ⟨hn1, hn2⟩ := hn
  obtain ⟨hd1, hd2⟩ := hd
  by_cases hs : d < 0
  · obtain ⟨q1, q2⟩ := quo_neg (n := n) hs
    have t2 : ((-(Int.gcd n d : Int)) == 0) = false := by rw [beq_eq_false_iff_ne]; omega
    clear hgc h1
    generalize Int.gcd n d = g at *
    go_enter Tryd.func39, Tryd.ntmps39
    go_wp2_with fail
    refine (HG.out _).mono ?_
    rintro e w1 ⟨rfl, hb1⟩
    obtain ⟨c0, c1, f0, f1⟩ := two_cells hb1 (alloc_at1 w _ _) (by simp; omega)
    obtain ⟨g0, g1, f2, f3⟩ := two_cells hb1 (alloc_at2 w _ _) (by simp)
    have HB := Lib.hid hb1
    clear hb1
    go_wp2_with fail
    go_region
    go_wp2_with fail
    refine bodyPost_ret (v := .agg #[.int .i64 (rnum n d), .int .i64 (rden n d)]) (by simp [results, Tryd.results39, go_sem, g0, g1]) rfl ⟨rfl, ?_⟩
    exact ((((((Below.refl _ _).alloc (Nat.le_refl _) _).alloc (by simp) _).trans (HB.out.mono (by simp; omega))).setCell (by simp) _).setCell (by simp) _).drew
  · obtain ⟨q1, q2⟩ := quo_pos (n := n) hs
    rw [Int.tdiv_eq_ediv_of_nonneg (by omega)] at q2
    have t2 : ((Int.gcd n d : Int) == 0) = false := by rw [beq_eq_false_iff_ne]; omega
    clear hgc h1
    generalize Int.gcd n d = g at *
    go_enter Tryd.func39, Tryd.ntmps39
    go_wp2_with fail
    refine (HG.out _).mono ?_
    rintro e w1 ⟨rfl, hb1⟩
    obtain ⟨c0, c1, f0, f1⟩ := two_cells hb1 (alloc_at1 w _ _) (by simp; omega)
    obtain ⟨g0, g1, f2, f3⟩ := two_cells hb1 (alloc_at2 w _ _) (by simp)
    have HB := Lib.hid hb1
    clear hb1
    go_wp2_with fail
    go_region
    go_wp2_with fail
    refine bodyPost_ret (v := .agg #[.int .i64 (rnum n d), .int .i64 (rden n d)]) (by simp [results, Tryd.results39, go_sem, g0, g1]) rfl ⟨rfl, ?_⟩
    exact ((((((Below.refl _ _).alloc (Nat.le_refl _) _).alloc (by simp) _).trans (HB.out.mono (by simp; omega))).setCell (by simp) _).setCell (by simp) _).drew

set_option maxRecDepth 100000 in
theorem impl_make (n d : Int) (w : World) (hn : -9223372036854775808 ≤ n ∧ n ≤ 9223372036854775807) (hd : -9223372036854775808 ≤ d ∧ d ≤ 9223372036854775807) :
    Calls Tryd.prog 20 #[.int .i64 n, .int .i64 d] w fun e w' => e = .returned (.tuple #[.agg #[.int .i64 (mkN n d), .int .i64 (mkD n d)], .bool (mkOk n d)]) ∧ Below w.heap.size w w' := by
  by_cases h0 : d = 0 ∨ n = -9223372036854775808 ∨ d = -9223372036854775808
  · have hk : mkOk n d = false := by
      unfold mkOk
      rw [decide_eq_false (by omega), Bool.false_and]
    obtain ⟨e1, e2⟩ := mk_no hk
    rw [hk, e1, e2]
    clear e1 e2 hk
    by_cases t1 : d = 0
    · have t1' : (d == 0) = true := by rw [beq_iff_eq]; exact t1
      clear h0 t1
      go_enter Tryd.func20, Tryd.ntmps20
      go_wp2
      exact bodyPost_ret (v := .tuple #[.agg #[.int .i64 0, .int .i64 0], .bool false]) (by simp [results, Tryd.results20, go_sem]) rfl ⟨rfl, (Below.refl _ _).alloc (Nat.le_refl _) _⟩
    have t1' : (d == 0) = false := by rw [beq_eq_false_iff_ne]; exact t1
    by_cases t2 : n = -9223372036854775808
    · have t2' : (n == -9223372036854775808) = true := by rw [beq_iff_eq]; exact t2
      clear h0 t1 t2
      go_enter Tryd.func20, Tryd.ntmps20
      go_wp2
      exact bodyPost_ret (v := .tuple #[.agg #[.int .i64 0, .int .i64 0], .bool false]) (by simp [results, Tryd.results20, go_sem]) rfl ⟨rfl, (Below.refl _ _).alloc (Nat.le_refl _) _⟩
    have t2' : (n == -9223372036854775808) = false := by rw [beq_eq_false_iff_ne]; exact t2
    have t3' : (d == -9223372036854775808) = true := by rw [beq_iff_eq]; omega
    clear h0 t1 t2
    go_enter Tryd.func20, Tryd.ntmps20
    go_wp2
    all_goals exact bodyPost_ret (v := .tuple #[.agg #[.int .i64 0, .int .i64 0], .bool false]) (by simp [results, Tryd.results20, go_sem]) rfl ⟨rfl, (Below.refl _ _).alloc (Nat.le_refl _) _⟩
  · have h1 : d ≠ 0 := by omega
    have h2 : n ≠ -9223372036854775808 := by omega
    have h3 : d ≠ -9223372036854775808 := by omega
    have t1 : (d == 0) = false := by rw [beq_eq_false_iff_ne]; exact h1
    have t2 : (n == -9223372036854775808) = false := by rw [beq_eq_false_iff_ne]; exact h2
    have t3 : (d == -9223372036854775808) = false := by rw [beq_eq_false_iff_ne]; exact h3
    have hmk : mkOk n d = lim (rnum n d) (rden n d) := by unfold mkOk; rw [decide_eq_true ⟨h1, h2, h3⟩, Bool.true_and]
    have hb1 : -9223372036854775807 ≤ n := by omega
    have hb2 : -9223372036854775807 ≤ d := by omega
    obtain ⟨hn1, hn2⟩ := hn
    obtain ⟨hd1, hd2⟩ := hd
    have hr := fun w => impl_reduced n d w ⟨hb1, hn2⟩ ⟨hb2, hd2⟩ h1
    have HN := Lib.hid (And.intro (fun h : mkOk n d = true => (mk_ok h).2) (fun h : mkOk n d = false => mk_no h))
    have HR := Lib.hid hr
    have HM := Lib.hid hmk
    clear hr hmk h1 h2 h3 h0
    go_enter Tryd.func20, Tryd.ntmps20
    go_wp2_with fail
    refine (HR.out _).mono ?_
    rintro e w1 ⟨rfl, hb1⟩
    have hrow := row_later hb1 (alloc_at0 w _) (by simp)
    have hsz : w.heap.size + 1 ≤ w1.heap.size := by have := hb1.size; simp at this; exact this
    have HB := Lib.hid hb1
    have HW := Lib.hid hrow
    clear hb1 hrow
    go_wp2_with fail
    refine (impl_lim (rnum n d) (rden n d) _).mono ?_
    rintro e w2 ⟨rfl, hb2⟩
    rw [← HM.out]
    obtain ⟨c0, c1, f0, f1⟩ := two_cells hb2 (row_alloc _ HW.out) (by simp; omega)
    obtain ⟨g0, g1, _, _⟩ := two_cells hb2 (alloc_at0 w1 _) (by simp)
    have HB2 := Lib.hid hb2
    clear hb2
    by_cases hk : mkOk n d = true
    · obtain ⟨e1, e2, _⟩ := HN.out.1 hk
      have HE := Lib.hid (And.intro e1 e2)
      clear e1 e2
      go_wp2_with fail
      refine bodyPost_ret (v := .tuple #[.agg #[.int .i64 (mkN n d), .int .i64 (mkD n d)], .bool (mkOk n d)]) (by simp [results, Tryd.results20, go_sem, HE.out.1, HE.out.2, hk, c0, c1]) rfl ⟨rfl, ?_⟩
      exact (((((Below.refl _ _).alloc (Nat.le_refl _) _).trans (HB.out.mono (by simp))).trans ((((Below.refl _ _).alloc (Nat.le_refl _) _).trans (HB2.out.mono (by simp))).mono (by omega))).setCell (Nat.le_refl _) _).setCell (Nat.le_refl _) _
    · have hk : mkOk n d = false := by simpa using hk
      obtain ⟨e1, e2⟩ := HN.out.2 hk
      have HE := Lib.hid (And.intro e1 e2)
      clear e1 e2
      go_wp2_with fail
      refine bodyPost_ret (v := .tuple #[.agg #[.int .i64 (mkN n d), .int .i64 (mkD n d)], .bool (mkOk n d)]) (by simp [results, Tryd.results20, go_sem, HE.out.1, HE.out.2, hk, c0, c1]) rfl ⟨rfl, ?_⟩
      exact (((((Below.refl _ _).alloc (Nat.le_refl _) _).trans (HB.out.mono (by simp))).trans ((((Below.refl _ _).alloc (Nat.le_refl _) _).trans (HB2.out.mono (by simp))).mono (by omega))).setCell (Nat.le_refl _) _).setCell (Nat.le_refl _) _
set_option maxRecDepth 100000 in
theorem impl_valid (n d : Int) (w : World) (hn : -9223372036854775808 ≤ n ∧ n ≤ 9223372036854775807) (hd : -9223372036854775808 ≤ d ∧ d ≤ 9223372036854775807) :
    Calls Tryd.prog 17 #[.agg #[.int .i64 n, .int .i64 d]] w fun e w' => e = .returned (.bool (valid n d)) ∧ Below w.heap.size w w' := by
  have hm := Lib.hid (fun w => impl_make n d w hn hd)
  have HV := Lib.hid (made_is (n := n) (d := d))
  go_enter Tryd.func17, Tryd.ntmps17
  go_wp2_with fail
  refine (hm.out _).mono ?_
  rintro e w1 ⟨rfl, hb1⟩
  obtain ⟨c0, c1, f0, f1⟩ := two_cells hb1 (alloc_at0 w _) (by simp)
  have hsz : w.heap.size < w1.heap.size := by have := hb1.size; simp at this; omega
  have HB := Lib.hid hb1
  clear hb1
  by_cases hk : mkOk n d = true
  · go_wp2_with fail
    all_goals
      go_ret
      exact ⟨ret_bool (by rw [← HV.out]; simp [*]), ((Below.refl _ _).alloc (Nat.le_refl _) _).trans ((HB.out.mono (by simp)).alloc (by omega) _)⟩
  · have hk : mkOk n d = false := by simpa using hk
    go_wp2_with fail
    go_ret
    exact ⟨ret_bool (by rw [← HV.out]; simp [*]), ((Below.refl _ _).alloc (Nat.le_refl _) _).trans ((HB.out.mono (by simp)).alloc (by omega) _)⟩
end Go.Proofs.YtkmhfgedbkkihaaDoor.RatMake
