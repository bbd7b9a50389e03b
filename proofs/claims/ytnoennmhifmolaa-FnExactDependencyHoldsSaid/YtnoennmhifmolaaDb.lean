/- What the exact laws do with databases: sized, copied, compared, marked, looked at. -/
import Derived.Test.YtnoennmhifmolaaMkTable
import Derived.Test.YtnoennmhifmolaaTabCopy
namespace Go.Proofs.Ytnoennmhifmolaa.Db
open Go Go.RowKit Byt Ints IntsLaw Cd Rows2 Tab SlMath TabOpen TabElem Mark SlTable

def ltabsC : Cd (List T3) := Cd.sl 56 tabC
def tabsC : Cd (List T3) := Cd.sl 59 tabC
theorem tabs_rd {w : World} {S : Nat → Prop} {us : List Value} {l : List T3} (h : tabsC.rd w S us l) : ltabsC.rd w S us l := h
theorem rd_tabs {w : World} {S : Nat → Prop} {us : List Value} {l : List T3} (h : ltabsC.rd w S us l) : tabsC.rd w S us l := h

set_option maxRecDepth 100000 in
theorem sz_db (v : Value) (l : List T3) (S : Nat → Prop) (L : Nat) (w : World) (hr : ltabsC.rd w S [v] l) (hL : L ≤ 1048576) :
    Calls Try.prog 12 #[.agg #[v], .int .i64 L] w fun e w' => e = .returned (.int .i64 (leftI L (wtS l))) ∧ Below w.heap.size w w' := by
  have HC := Lib.hid (fun w' (hb : Below w.heap.size w w') => sz_s v l S L w' (Cd.later hr hb) hL)
  have HN := Lib.hid (show leftI L (wtS l) < 0 → leftI L (wtS l) = -1 by unfold leftI; split <;> omega)
  clear hr hL
  generalize leftI L (wtS l) = z at *
  go_enter Try.func12, Try.ntmps12
  go_wp2_with fail
  refine (HC.out _ (below_alloc _ _)).mono ?_
  rintro e w1 ⟨rfl, hb1⟩
  have HB := Lib.hid (below_then (below_alloc _ _) hb1)
  clear hb1
  by_cases hz : z < 0
  · go_wp2_with fail
    go_ret
    exact ⟨ret_int (HN.out hz).symm, HB.out⟩
  · go_wp2_with fail
    go_ret
    exact ⟨rfl, HB.out⟩

set_option maxRecDepth 100000 in
set_option maxHeartbeats 800000 in
theorem to_db (v : Value) (l : List T3) (S : Nat → Prop) (w : World) (hr : ltabsC.rd w S [v] l) (hl : wtS l ≤ 1048577) :
    Calls Try.prog 15 #[.agg #[v]] w fun e w' => ∃ v' fp, e = .returned (.agg #[v']) ∧ tabsC.ow w' w.heap.size [v'] l fp ∧ fp.Nodup ∧ Below w.heap.size w w' := by
  have HC := Lib.hid (fun w' (hb : Below w.heap.size w w') => to_s v l S w' (Cd.later hr hb) hl)
  clear hr hl
  go_enter Try.func15, Try.ntmps15
  go_wp2_with fail
  generalize hW : ((w.alloc _).alloc _).alloc _ = W
  obtain ⟨r0, r1, r2, hz, hb0⟩ := start3 w _ _ _ hW
  clear hW
  refine (HC.out _ hb0).mono ?_
  rintro e w1 ⟨u', fp, rfl, how, hnd, hb1⟩
  obtain ⟨a1, c1, rfl⟩ := Cd.ow_slice how
  have d0 : w1.cell? ⟨w.heap.size + 1 + 1, 0, none⟩ = some (.slice none 0 0) := by simp [World.cell?, row_later r2 hb1]
  have e0 : w1.frozen? ⟨w.heap.size + 1 + 1, 0, none⟩ = false := by simp [World.frozen?, row_later r2 hb1]
  have p0 : w1.cell? ⟨w.heap.size + 1, 0, none⟩ = some (.slice none 0 0) := by simp [World.cell?, row_later r1 hb1]
  have q0 : w1.frozen? ⟨w.heap.size + 1, 0, none⟩ = false := by simp [World.frozen?, row_later r1 hb1]
  have HF := Lib.hid (fun b (h : b ∈ fp) => ((Cd.sl _ tabC).ow_lt how b h).1)
  have HOW := Lib.hid (show tabsC.ow w1 W.heap.size _ l fp from how)
  have HND := Lib.hid hnd
  have HB := Lib.hid (below_then hb0 hb1)
  have HZ := Lib.hid hz
  clear how hnd hb1 hb0 r0 r1 r2 hz
  go_wp2_with fail
  have k0 : ((w1.setCell ⟨w.heap.size + 1 + 1, 0, none⟩ (.slice (a1) l.length c1)).setCell ⟨w.heap.size + 1, 0, none⟩ (.slice a1 l.length c1)).cell? ⟨w.heap.size + 1, 0, none⟩ = some (.slice a1 l.length c1) :=
    World.cell?_setCell_same _ _ _ ((World.cell?_setCell_other _ _ _ _ (by simp)).trans p0)
  refine bodyPost_ret (v := .agg #[.slice a1 l.length c1]) (by simp [results, Try.results15, go_sem, k0]) rfl ⟨_, fp, rfl, ?_, HND.out, ?_⟩
  · have hn : ∀ k, k < w.heap.size + 3 → k ∉ fp := fun k hk q => by
      have h1 := HF.out k q
      have h2 := HZ.out
      omega
    exact ow_setCell (ow_setCell (tabsC.ow_base HOW.out (by have := HZ.out; omega)) (hn _ (by show w.heap.size + 1 + 1 < _; omega)) _) (hn _ (by show w.heap.size + 1 < _; omega)) _
  · exact (HB.out.setCell (by show _ ≤ w.heap.size + 1 + 1; omega) _).setCell (by show _ ≤ w.heap.size + 1; omega) _

set_option maxRecDepth 100000 in
theorem eq_db (u1 u2 : Value) (l : List T3) (S1 S2 : Nat → Prop) (w : World) (h1 : tabsC.rd w S1 [u1] l) (h2 : tabsC.rd w S2 [u2] l) :
    Calls Try.prog 18 #[.agg #[u1], .agg #[u2]] w fun e w' => e = .returned (.bool true) ∧ Below w.heap.size w w' := by
  have HC := Lib.hid (fun w' (hb : Below w.heap.size w w') => eq_s u1 u2 l S1 S2 w' (Cd.later h1 hb) (Cd.later h2 hb))
  clear h1 h2
  go_enter Try.func18, Try.ntmps18
  go_wp2_with fail
  refine (HC.out _ (below_then (below_alloc _ _) (below_alloc _ _))).mono ?_
  rintro e w1 ⟨rfl, hq⟩
  have HB := Lib.hid (below_then (below_then (below_alloc _ _) (below_alloc _ _)) hq)
  clear hq
  go_wp2_with fail
  go_ret
  exact ⟨rfl, HB.out⟩

set_option maxRecDepth 100000 in
theorem mark_db (v : Value) (l : List T3) (base k0 : Nat) (fp : List Nat) (w : World) (h : tabsC.ow w base [v] l fp) (hnd : fp.Nodup) (hl : sumN cntT l ≤ 4194308) (hrl : ∀ T ∈ l, T.2.2.flatten.length ≤ 1048577) (hk1 : 1 ≤ k0) (hk0 : k0 ≤ 400000000) :
    Calls Try.prog 23 #[.agg #[v], .int .i64 k0] w fun e w' => e = .returned (.int .i64 ((k0 + sumN cntT l : Nat) : Int)) ∧ tabsC.ow w' base [v] (mkS mkT cntT k0 l) fp ∧ Cd.Touch fp w w' := by
  have HC := Lib.hid (fun w' (hb : Below w.heap.size w w') => mark_s v l base k0 fp w' (Cd.ow_later h hb) hnd hl hrl hk1 hk0)
  clear h hnd hl hrl hk1 hk0
  generalize k0 + sumN cntT l = q at *
  go_enter Try.func23, Try.ntmps23
  go_wp2_with fail
  refine (HC.out _ (below_alloc _ _)).mono ?_
  rintro e w1 ⟨rfl, how, ht⟩
  have HOW := Lib.hid how
  have HT := Lib.hid ((Cd.Touch.of_below (below_alloc _ _)).trans ht)
  clear how ht
  go_wp2_with fail
  go_ret
  exact ⟨rfl, HOW.out, HT.out⟩

end Go.Proofs.Ytnoennmhifmolaa.Db
