/- What the exact laws do with one table, said of its cells. -/
import Derived.Test.YtnoennmhifmolaaTab
import Derived.Test.YtnoennmhifmolaaTabOpen
import Derived.Test.YtnoennmhifmolaaSlMath
namespace Go.Proofs.Ytnoennmhifmolaa.TabElem
open Go Go.RowKit Byt Ints IntsLaw Cd Rows2 Tab TabOpen

abbrev T3 := ByteArray × Int × List (List Int)
def wtT (T : T3) : Nat := tabWt T.1 T.2.2
theorem sz_elem (us : List Value) (T : T3) (S : Nat → Prop) (L : Nat) (w : World) (hu : tabC.rd w S us T) (hL : L ≤ 1048576) :
    Calls Try.prog 36 #[.agg us.toArray, .int .i64 L] w fun e w' => e = .returned (.int .i64 (leftI L (wtT T))) ∧ Below w.heap.size w w' := by
  obtain ⟨u, rfl, h1, _, h3⟩ := tab_cells hu
  exact sz_table T.1 T.2.1 u T.2.2 S L w h1 h3 hL
/-- A table that the call owns. -/
theorem tab_ow {w : World} {base : Nat} {nm : ByteArray} {ar : Int} {u : Value} {rows : List (List Int)} {fp : List Nat} (h : rowsC.ow w base [u] rows fp) (hs : nm.size ≤ maxLen) (ha : -9223372036854775808 ≤ ar ∧ ar ≤ 9223372036854775807) : tabC.ow w base [.string nm, .int .i64 ar, u] (nm, ar, rows) fp :=
  ⟨[.string nm], [.int .i64 ar, u], [], fp, rfl, by simp, ⟨rfl, hs, rfl⟩, ⟨[.int .i64 ar], [u], [], fp, rfl, by simp, ⟨rfl, ha, rfl⟩, h⟩⟩
theorem shape_ow {w : World} {base : Nat} {us : List Value} {T : T3} {fp : List Nat} (h : tabC.ow w base us T fp) : ∃ a c, us = [.string T.1, .int .i64 T.2.1, .slice a T.2.2.length c] := by
  obtain ⟨u, rfl, _, _, h3⟩ := tab_cells (tabC.ow_rd h)
  obtain ⟨a, c, rfl, _⟩ := rows_form h3
  exact ⟨a, c, rfl⟩
theorem to_elem (us : List Value) (T : T3) (S : Nat → Prop) (w : World) (hu : tabC.rd w S us T) (hw : wtT T ≤ 1048577) :
    Calls Try.prog 38 #[.agg us.toArray] w fun e w' => ∃ us' fp, e = .returned (.agg us'.toArray) ∧ tabC.ow w' w.heap.size us' T fp ∧ fp.Nodup ∧ Below w.heap.size w w' := by
  obtain ⟨u, rfl, h1, h2, h3⟩ := tab_cells hu
  refine (to_table T.1 T.2.1 u T.2.2 S w h3 (by unfold wtT tabWt at hw; omega)).mono ?_
  rintro e w' ⟨u', fp, rfl, how, hnd, hb⟩
  exact ⟨[.string T.1, .int .i64 T.2.1, u'], fp, rfl, tab_ow how h1 h2, hnd, hb⟩
theorem eq_elem (us vs : List Value) (T : T3) (S S2 : Nat → Prop) (w : World) (hu : tabC.rd w S us T) (hv : tabC.rd w S2 vs T) :
    Calls Try.prog 40 #[.agg us.toArray, .agg vs.toArray] w fun e w' => e = .returned (.bool true) ∧ Below w.heap.size w w' := by
  obtain ⟨u, rfl, _, _, h3⟩ := tab_cells hu
  obtain ⟨u2, rfl, _, _, h4⟩ := tab_cells hv
  exact eq_table T.1 T.2.1 u u2 T.2.2 S S2 w h3 h4
end Go.Proofs.Ytnoennmhifmolaa.TabElem
