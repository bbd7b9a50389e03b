/- What the exact laws do with a dependency: sized, copied, compared, marked, looked at. -/
import Derived.Test.YthnphlgkkfdnlaaDoorExact
import Derived.Test.YthnphlgkkfdnlaaDoorTabOpen
namespace Go.Proofs.YthnphlgkkfdnlaaDoor.Dep
open Go Go.RowKit Byt Ints IntsLaw Cd Rows2 Tab TabSpec Exact

abbrev D3 := ByteArray × List Int × Int
def int64 (x : Int) : Prop := -9223372036854775808 ≤ x ∧ x ≤ 9223372036854775807
def depC : Cd D3 := Cd.pair Cd.str (Cd.pair rowC Cd.int)
def depWt (nm : ByteArray) (row : List Int) : Nat := nm.size + row.length
def wtD (U : D3) : Nat := depWt U.1 U.2.1
set_option maxRecDepth 100000 in
theorem dep_cells {w : World} {S : Nat → Prop} {cs : List Value} {U : D3} (h : depC.rd w S cs U) :
    ∃ u, cs = [.string U.1, u, .int .i64 U.2.2] ∧ U.1.size ≤ maxLen ∧ rowC.rd w S [u] U.2.1 ∧ int64 U.2.2 := by
  obtain ⟨u1, u2, rfl, ⟨rfl, h1⟩, u3, u4, rfl, h3, ⟨rfl, h4⟩⟩ := h
  have hl := rowC.len h3
  match u3, hl with
  | [u], _ => exact ⟨u, rfl, h1, h3, h4⟩
theorem dep_rd {w : World} {S : Nat → Prop} {nm : ByteArray} {t : Int} {u : Value} {row : List Int} (h : rowC.rd w S [u] row) (hs : nm.size ≤ maxLen) (ht : int64 t) : depC.rd w S [.string nm, u, .int .i64 t] (nm, row, t) :=
  ⟨[.string nm], [u, .int .i64 t], rfl, ⟨rfl, hs⟩, [u], [.int .i64 t], rfl, h, ⟨rfl, ht⟩⟩
theorem dep_ow {w : World} {base : Nat} {nm : ByteArray} {t : Int} {u : Value} {row : List Int} {fp : List Nat} (h : rowC.ow w base [u] row fp) (hs : nm.size ≤ maxLen) (ht : int64 t) : depC.ow w base [.string nm, u, .int .i64 t] (nm, row, t) fp :=
  ⟨[.string nm], [u, .int .i64 t], [], fp, rfl, by simp, ⟨rfl, hs, rfl⟩, ⟨[u], [.int .i64 t], fp, [], rfl, by simp, h, ⟨rfl, ht, rfl⟩⟩⟩
theorem row_form {w : World} {S : Nat → Prop} {u : Value} {row : List Int} (h : rowC.rd w S [u] row) : ∃ a c, u = .slice a row.length c ∧ row.length ≤ 9223372036854775807 := by
  obtain ⟨a, c, e, hl, _⟩ := (row_ri h).1
  exact ⟨a, c, e, hl⟩
theorem shape_ow {w : World} {base : Nat} {us : List Value} {U : D3} {fp : List Nat} (h : depC.ow w base us U fp) : ∃ a c, us = [.string U.1, .slice a U.2.1.length c, .int .i64 U.2.2] := by
  obtain ⟨u, rfl, _, h3, _⟩ := dep_cells (depC.ow_rd h)
  obtain ⟨a, c, rfl, _⟩ := row_form h3
  exact ⟨a, c, rfl⟩
theorem row_of_dep {w : World} {base : Nat} {nm : ByteArray} {t : Int} {u : Value} {U : D3} {fp : List Nat} (h : depC.ow w base [.string nm, u, .int .i64 t] U fp) : rowC.ow w base [u] U.2.1 fp := by
  obtain ⟨u1, u2, g1, g2, e1, rfl, ⟨rfl, _, rfl⟩, u3, u4, g3, g4, rfl, rfl, h3, ⟨rfl, _, rfl⟩⟩ := h
  have hl := rowC.len (rowC.ow_rd h3)
  match u3, hl, h3 with
  | [x], _, h3 =>
    simp only [List.cons_append, List.nil_append, List.cons.injEq] at e1
    obtain ⟨_, rfl, _⟩ := e1
    simpa using h3






/-! The element's contracts, said of its cells. -/

/-! What an argument of the laws reads as. -/
end Go.Proofs.YthnphlgkkfdnlaaDoor.Dep
