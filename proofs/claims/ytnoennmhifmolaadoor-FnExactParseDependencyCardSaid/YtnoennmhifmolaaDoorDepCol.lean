/- Dependencies: the program's questions of columns. -/
import Derived.Test.YtnoennmhifmolaaDoorDepMath
import Derived.Test.YtnoennmhifmolaaDoorDegCol
import Derived.Test.YtnoennmhifmolaaDoorShelf
namespace Go.Proofs.YtnoennmhifmolaaDoor.DepImp
open Go Go.RowKit Byt Ints IntsLaw Cd Rows2 Tab TabSpec Exact Dep QryMath DepMath
open DegMath (colsOk)

theorem impl_has (v : Value) (l : List Int) (x : Int) (B : Nat) (w : World) (hr : RI w v l B) :
    Calls Tryd.prog 68 #[v, .int .i64 x] w fun e w' => e = .returned (.bool (hasI l x)) ∧ w = w' := by
  obtain ⟨a, cap, rfl, hlm, hc⟩ := hr
  rcases hc with h0 | ⟨b, off, rfl, hb, hcell⟩
  · subst h0
    exact (Tryd.slices_Contains_int_empty a cap x w).mono fun e w' h => ⟨h.1, h.2.symm⟩
  · refine (Tryd.slices_Contains_int b off l.length cap l x w (Nat.le_refl _) hlm (fun j hj => ?_)).mono fun e w' h => ⟨?_, h.2.symm⟩
    · rw [hcell j hj]
      simp [hj]
    · rw [h.1, List.take_length]; rfl
theorem impl_col (x n : Int) (w : World) : Calls Tryd.prog 37 #[.int .i64 x, .int .i64 n] w fun e w' => e = .returned (.bool (colB x n)) ∧ w = w' := by
  by_cases h1 : 0 ≤ x
  · by_cases h2 : x < n
    · have HZ := Lib.hid (colB_iff.2 ⟨h1, h2⟩)
      go_enter Tryd.func37, Tryd.ntmps37
      go_wp2_with fail
      go_ret
      exact ⟨ret_b HZ.out.symm, rfl⟩
    · have HZ := Lib.hid (show colB x n = false from decide_eq_false fun q => h2 q.2)
      go_enter Tryd.func37, Tryd.ntmps37
      go_wp2_with fail
      go_ret
      exact ⟨ret_b HZ.out.symm, rfl⟩
  · have HZ := Lib.hid (show colB x n = false from decide_eq_false fun q => h1 q.1)
    go_enter Tryd.func37, Tryd.ntmps37
    go_wp2_with fail
    go_ret
    exact ⟨ret_b HZ.out.symm, rfl⟩
set_option maxRecDepth 100000 in
set_option maxHeartbeats 1600000 in
theorem impl_below (nm : ByteArray) (v : Value) (V : List Int) (t n : Int) (S : Nat → Prop) (w : World) (hr : rowC.rd w S [v] V) :
    Calls Tryd.prog 48 #[.agg #[.string nm, v, .int .i64 t], .int .i64 n] w fun e w' => e = .returned (.bool (colsD (nm, V, t) n)) ∧ Below w.heap.size w w' := by
  have HR := Lib.hid (fun w' (hb : Below w.heap.size w w') => (row_ri (Cd.later hr hb)).1)
  obtain ⟨a, cap, rfl, hlm, _⟩ := (row_ri hr).1
  clear hr
  go_enter Tryd.func48, Tryd.ntmps48
  go_wp2_with fail
  generalize hW : w.alloc _ = W
  obtain ⟨r0, z0, hb0⟩ := start1 w _ hW
  clear hW
  have L0 := Lib.hid (Loc3.of r0)
  have HB := Lib.hid hb0
  have HA := Lib.hid (DegImp.impl_asc (.slice a V.length cap) V n _ W (HR.out W hb0))
  have HC := Lib.hid (impl_col t n W)
  have HH := Lib.hid (impl_has (.slice a V.length cap) V t _ W (HR.out W hb0))
  clear r0 hb0
  have y0 := L0.out.c0
  have y1 := L0.out.c1
  have y2 := L0.out.c2
  cases hc : colsOk V n
  · have HE := Lib.hid (show colsD (nm, V, t) n = false by unfold colsD; rw [hc]; rfl)
    rw [hc] at HA
    clear hc HC HH
    refine HA.out.mono ?_
    rintro e w1 ⟨rfl, rfl⟩
    go_wp2_with fail
    go_ret
    exact ⟨ret_b HE.out.symm, HB.out⟩
  rw [hc] at HA
  refine HA.out.mono ?_
  rintro e w1 ⟨rfl, rfl⟩
  cases ht : colB t n
  · have HE := Lib.hid (show colsD (nm, V, t) n = false by unfold colsD; rw [ht, Bool.and_false]; rfl)
    rw [ht] at HC
    clear hc ht HH
    go_wp2_with fail
    refine HC.out.mono ?_
    rintro e w1 ⟨rfl, rfl⟩
    go_wp2_with fail
    go_ret
    exact ⟨ret_b HE.out.symm, HB.out⟩
  have HE := Lib.hid (show colsD (nm, V, t) n = !hasI V t by unfold colsD; rw [hc, ht]; rfl)
  rw [ht] at HC
  clear hc ht
  generalize hasI V t = b at *
  go_wp2_with fail
  refine HC.out.mono ?_
  rintro e w1 ⟨rfl, rfl⟩
  go_wp2_with fail
  refine HH.out.mono ?_
  rintro e w1 ⟨rfl, rfl⟩
  go_wp2_with fail
  go_ret
  exact ⟨ret_b HE.out.symm, HB.out⟩
end Go.Proofs.YtnoennmhifmolaaDoor.DepImp
