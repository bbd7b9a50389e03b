/- What the exact laws do with an update: sized, copied, compared, marked, looked at. -/
import Derived.Test.YtmifnbplkaonaaaGreatExact
import Derived.Test.YtmifnbplkaonaaaGreatTabOpen
namespace Go.Proofs.YtmifnbplkaonaaaGreat.Upd
open Go Go.RowKit Byt Ints IntsLaw Cd Rows2 Tab TabSpec Exact

abbrev U3 := ByteArray × Bool × List Int
def updC : Cd U3 := Cd.pair Cd.str (Cd.pair Cd.bool rowC)
def updWt (nm : ByteArray) (row : List Int) : Nat := nm.size + row.length
def wtU (U : U3) : Nat := updWt U.1 U.2.2
set_option maxRecDepth 100000 in
theorem upd_cells {w : World} {S : Nat → Prop} {cs : List Value} {U : U3} (h : updC.rd w S cs U) :
    ∃ u, cs = [.string U.1, .bool U.2.1, u] ∧ U.1.size ≤ maxLen ∧ rowC.rd w S [u] U.2.2 := by
  obtain ⟨u1, u2, rfl, ⟨rfl, h1⟩, u3, u4, rfl, ⟨rfl, _⟩, h3⟩ := h
  have hl := rowC.len h3
  match u4, hl with
  | [u], _ => exact ⟨u, rfl, h1, h3⟩
theorem upd_rd {w : World} {S : Nat → Prop} {nm : ByteArray} {b : Bool} {u : Value} {row : List Int} (h : rowC.rd w S [u] row) (hs : nm.size ≤ maxLen) : updC.rd w S [.string nm, .bool b, u] (nm, b, row) :=
  ⟨[.string nm], [.bool b, u], rfl, ⟨rfl, hs⟩, [.bool b], [u], rfl, ⟨rfl, trivial⟩, h⟩
theorem upd_ow {w : World} {base : Nat} {nm : ByteArray} {b : Bool} {u : Value} {row : List Int} {fp : List Nat} (h : rowC.ow w base [u] row fp) (hs : nm.size ≤ maxLen) : updC.ow w base [.string nm, .bool b, u] (nm, b, row) fp :=
  ⟨[.string nm], [.bool b, u], [], fp, rfl, by simp, ⟨rfl, hs, rfl⟩, ⟨[.bool b], [u], [], fp, rfl, by simp, ⟨rfl, trivial, rfl⟩, h⟩⟩
theorem row_form {w : World} {S : Nat → Prop} {u : Value} {row : List Int} (h : rowC.rd w S [u] row) : ∃ a c, u = .slice a row.length c ∧ row.length ≤ 9223372036854775807 := by
  obtain ⟨a, c, e, hl, _⟩ := (row_ri h).1
  exact ⟨a, c, e, hl⟩
theorem shape_ow {w : World} {base : Nat} {us : List Value} {U : U3} {fp : List Nat} (h : updC.ow w base us U fp) : ∃ a c, us = [.string U.1, .bool U.2.1, .slice a U.2.2.length c] := by
  obtain ⟨u, rfl, _, h3⟩ := upd_cells (updC.ow_rd h)
  obtain ⟨a, c, rfl, _⟩ := row_form h3
  exact ⟨a, c, rfl⟩
theorem row_of_upd {w : World} {base : Nat} {nm : ByteArray} {b : Bool} {u : Value} {U : U3} {fp : List Nat} (h : updC.ow w base [.string nm, .bool b, u] U fp) : rowC.ow w base [u] U.2.2 fp := by
  obtain ⟨u1, u2, g1, g2, e1, rfl, ⟨_, _, rfl⟩, u3, u4, g3, g4, e2, rfl, ⟨rfl, _, rfl⟩, h3⟩ := h
  simp_all






/-! The element's contracts, said of its cells. -/

/-! What an argument of the laws reads as. -/
end Go.Proofs.YtmifnbplkaonaaaGreat.Upd
