/- What the exact laws do with queries: sized, copied, compared, marked, looked at. -/
import Derived.Test.YtdjgaffiildijabDoorMkAtom
namespace Go.Proofs.YtdjgaffiildijabDoor.Qry
open Go Go.RowKit Byt Ints IntsLaw Cd Rows2 Tab SlMath TabSpec Exact TabOpen Atom Mark SlAtom MkAtom




set_option maxRecDepth 100000 in
theorem eq_q (n : Int) (u1 u2 : Value) (l : List A2) (S1 S2 : Nat → Prop) (w : World) (h1 : atomsC.rd w S1 [u1] l) (h2 : atomsC.rd w S2 [u2] l) :
    Calls Tryd.prog 24 #[.agg #[.int .i64 n, u1], .agg #[.int .i64 n, u2]] w fun e w' => e = .returned (.bool true) ∧ Below w.heap.size w w' := by
  have HC := Lib.hid (fun w' (hb : Below w.heap.size w w') => eq_s u1 u2 l S1 S2 w' (Cd.later h1 hb) (Cd.later h2 hb))
  clear h1 h2
  go_enter Tryd.func24, Tryd.ntmps24
  go_wp2_with fail
  refine (HC.out _ (below_then (below_alloc _ _) (below_alloc _ _))).mono ?_
  rintro e w1 ⟨rfl, hq⟩
  have HB := Lib.hid (below_then (below_then (below_alloc _ _) (below_alloc _ _)) hq)
  clear hq
  go_wp2_with fail
  go_ret
  exact ⟨rfl, HB.out⟩

set_option maxRecDepth 100000 in
theorem mark_q (n : Int) (v : Value) (l : List A2) (base k0 : Nat) (fp : List Nat) (w : World) (h : atomsC.ow w base [v] l fp) (hnd : fp.Nodup) (hl : sumN cntA l ≤ 4194308) (hrl : ∀ U ∈ l, U.2.length ≤ 1048577) (hk1 : 1 ≤ k0) (hk0 : k0 ≤ 400000000) :
    Calls Tryd.prog 25 #[.agg #[.int .i64 n, v], .int .i64 k0] w fun e w' => e = .returned (.int .i64 ((k0 + sumN cntA l : Nat) : Int)) ∧ atomsC.ow w' base [v] (mkS mkA cntA k0 l) fp ∧ Cd.Touch fp w w' := by
  have HC := Lib.hid (fun w' (hb : Below w.heap.size w w') => mark_s v l base k0 fp w' (Cd.ow_later h hb) hnd hl hrl hk1 hk0)
  clear h hnd hl hrl hk1 hk0
  generalize k0 + sumN cntA l = q at *
  go_enter Tryd.func25, Tryd.ntmps25
  go_wp2_with fail
  refine (HC.out _ (below_alloc _ _)).mono ?_
  rintro e w1 ⟨rfl, how, ht⟩
  have HOW := Lib.hid how
  have HT := Lib.hid ((Cd.Touch.of_below (below_alloc _ _)).trans ht)
  clear how ht
  go_wp2_with fail
  go_ret
  exact ⟨rfl, HOW.out, HT.out⟩

set_option maxRecDepth 100000 in
theorem held_q (n : Int) (v : Value) (l : List A2) (S : Nat → Prop) (k0 : Nat) (w : World) (h : atomsC.rd w S [v] (mkS mkA cntA k0 l)) (hl : sumN cntA l ≤ 4194308) (hrl : ∀ U ∈ l, U.2.length ≤ 1048577) (hk1 : 1 ≤ k0) (hk0 : k0 ≤ 400000000) :
    Calls Tryd.prog 26 #[.agg #[.int .i64 n, v], .int .i64 k0] w fun e w' => e = .returned (.int .i64 ((k0 + sumN cntA l : Nat) : Int)) ∧ Below w.heap.size w w' := by
  have HC := Lib.hid (fun w' (hb : Below w.heap.size w w') => held_s v l S k0 w' (Cd.later h hb) hl hrl hk1 hk0)
  have hneg : ¬ (((k0 + sumN cntA l : Nat) : Int) < 0) := by omega
  clear h hl hrl hk1 hk0
  generalize k0 + sumN cntA l = q at *
  go_enter Tryd.func26, Tryd.ntmps26
  go_wp2_with fail
  refine (HC.out _ (below_alloc _ _)).mono ?_
  rintro e w1 ⟨rfl, hb⟩
  have HB := Lib.hid (below_then (below_alloc _ _) hb)
  clear hb
  go_wp2_with fail
  go_ret
  exact ⟨rfl, HB.out⟩

/-! What an argument of the laws reads as. -/
end Go.Proofs.YtdjgaffiildijabDoor.Qry
