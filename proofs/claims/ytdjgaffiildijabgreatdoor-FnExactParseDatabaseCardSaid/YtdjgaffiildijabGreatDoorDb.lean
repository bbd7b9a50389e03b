/- What the exact laws do with databases: sized, copied, compared, marked, looked at. -/
import Derived.Test.YtdjgaffiildijabGreatDoorMkTable
import Derived.Test.YtdjgaffiildijabGreatDoorTabCopy
namespace Go.Proofs.YtdjgaffiildijabGreatDoor.Db
open Go Go.RowKit Byt Ints IntsLaw Cd Rows2 Tab SlMath TabOpen TabElem Mark SlTable

def tabsC : Cd (List T3) := Cd.sl 34 tabC



set_option maxRecDepth 100000 in
theorem eq_db (u1 u2 : Value) (l : List T3) (S1 S2 : Nat → Prop) (w : World) (h1 : tabsC.rd w S1 [u1] l) (h2 : tabsC.rd w S2 [u2] l) :
    Calls Tryz.prog 8 #[.agg #[u1], .agg #[u2]] w fun e w' => e = .returned (.bool true) ∧ Below w.heap.size w w' := by
  have HC := Lib.hid (fun w' (hb : Below w.heap.size w w') => eq_s u1 u2 l S1 S2 w' (Cd.later h1 hb) (Cd.later h2 hb))
  clear h1 h2
  go_enter Tryz.func8, Tryz.ntmps8
  go_wp2_with fail
  refine (HC.out _ (below_then (below_alloc _ _) (below_alloc _ _))).mono ?_
  rintro e w1 ⟨rfl, hq⟩
  have HB := Lib.hid (below_then (below_then (below_alloc _ _) (below_alloc _ _)) hq)
  clear hq
  go_wp2_with fail
  go_ret
  exact ⟨rfl, HB.out⟩

set_option maxRecDepth 100000 in
theorem mark_db (v : Value) (l : List T3) (base k0 : Nat) (fp : List Nat) (w : World) (h : tabsC.ow w base [v] l fp) (hnd : fp.Nodup) (hl : sumN cntT l ≤ 4194308) (hrl : ∀ T ∈ l, T.2.2.flatten.length ≤ 1048577) (hk1 : 1 ≤ k0) (hk0 : k0 ≤ 400000000) :
    Calls Tryz.prog 9 #[.agg #[v], .int .i64 k0] w fun e w' => e = .returned (.int .i64 ((k0 + sumN cntT l : Nat) : Int)) ∧ tabsC.ow w' base [v] (mkS mkT cntT k0 l) fp ∧ Cd.Touch fp w w' := by
  have HC := Lib.hid (fun w' (hb : Below w.heap.size w w') => mark_s v l base k0 fp w' (Cd.ow_later h hb) hnd hl hrl hk1 hk0)
  clear h hnd hl hrl hk1 hk0
  generalize k0 + sumN cntT l = q at *
  go_enter Tryz.func9, Tryz.ntmps9
  go_wp2_with fail
  refine (HC.out _ (below_alloc _ _)).mono ?_
  rintro e w1 ⟨rfl, how, ht⟩
  have HOW := Lib.hid how
  have HT := Lib.hid ((Cd.Touch.of_below (below_alloc _ _)).trans ht)
  clear how ht
  go_wp2_with fail
  go_ret
  exact ⟨rfl, HOW.out, HT.out⟩

set_option maxRecDepth 100000 in
theorem held_db (v : Value) (l : List T3) (S : Nat → Prop) (k0 : Nat) (w : World) (h : tabsC.rd w S [v] (mkS mkT cntT k0 l)) (hl : sumN cntT l ≤ 4194308) (hrl : ∀ T ∈ l, T.2.2.flatten.length ≤ 1048577) (hk1 : 1 ≤ k0) (hk0 : k0 ≤ 400000000) :
    Calls Tryz.prog 10 #[.agg #[v], .int .i64 k0] w fun e w' => e = .returned (.int .i64 ((k0 + sumN cntT l : Nat) : Int)) ∧ Below w.heap.size w w' := by
  have HC := Lib.hid (fun w' (hb : Below w.heap.size w w') => held_s v l S k0 w' (Cd.later h hb) hl hrl hk1 hk0)
  have hneg : ¬ (((k0 + sumN cntT l : Nat) : Int) < 0) := by omega
  clear h hl hrl hk1 hk0
  generalize k0 + sumN cntT l = q at *
  go_enter Tryz.func10, Tryz.ntmps10
  go_wp2_with fail
  refine (HC.out _ (below_alloc _ _)).mono ?_
  rintro e w1 ⟨rfl, hb⟩
  have HB := Lib.hid (below_then (below_alloc _ _) hb)
  clear hb
  go_wp2_with fail
  go_ret
  exact ⟨rfl, HB.out⟩
end Go.Proofs.YtdjgaffiildijabGreatDoor.Db
