/- Answers: how one lies in memory. -/
import Derived.Test.YtdkhgeknjekkoaaExact
import Derived.Test.YtdkhgeknjekkoaaAtom
namespace Go.Proofs.Ytdkhgeknjekkoaa.AnsC
open Go Go.RowKit Byt Ints IntsLaw Cd Rows2 Tab TabSpec Exact Atom

/-- An answer: its variables and its rows. -/
abbrev ansC : Cd (List Int × List (List Int)) := Cd.pair rowC rowsC
theorem ans_ow {w : World} {base : Nat} {v1 v2 : Value} {V : List Int} {R : List (List Int)} {f1 f2 : List Nat} (h1 : rowC.ow w base [v1] V f1) (h2 : rowsC.ow w base [v2] R f2) : ansC.ow w base [v1, v2] (V, R) (f1 ++ f2) := ⟨[v1], [v2], f1, f2, rfl, rfl, h1, h2⟩
theorem ans_rd {w : World} {S : Nat → Prop} {v1 v2 : Value} {V : List Int} {R : List (List Int)} (h1 : rowC.rd w S [v1] V) (h2 : rowsC.rd w S [v2] R) : ansC.rd w S [v1, v2] (V, R) := ⟨[v1], [v2], rfl, h1, h2⟩
theorem ans_parts {w : World} {base : Nat} {v1 v2 : Value} {V : List Int} {R : List (List Int)} {fp : List Nat} (h : ansC.ow w base [v1, v2] (V, R) fp) : ∃ f1 f2, fp = f1 ++ f2 ∧ rowC.ow w base [v1] V f1 ∧ rowsC.ow w base [v2] R f2 := by
  obtain ⟨u1, u2, f1, f2, e, rfl, h1, h2⟩ := h
  have l1 := rowC.len (rowC.ow_rd h1)
  match u1, l1 with
  | [x], _ =>
    simp only [List.cons_append, List.nil_append, List.cons.injEq] at e
    obtain ⟨rfl, rfl⟩ := e
    exact ⟨f1, f2, rfl, h1, h2⟩
theorem ans_reads {w : World} {S : Nat → Prop} {v1 v2 : Value} {V : List Int} {R : List (List Int)} (h : ansC.rd w S [v1, v2] (V, R)) : rowC.rd w S [v1] V ∧ rowsC.rd w S [v2] R := by
  obtain ⟨u1, u2, e, h1, h2⟩ := h
  have l1 := rowC.len h1
  match u1, l1 with
  | [x], _ =>
    simp only [List.cons_append, List.nil_append, List.cons.injEq] at e
    obtain ⟨rfl, rfl⟩ := e
    exact ⟨h1, h2⟩
theorem ans_form {w : World} {S : Nat → Prop} {v1 v2 : Value} {V : List Int} {R : List (List Int)} (h : ansC.rd w S [v1, v2] (V, R)) : ∃ a c a' c', v1 = .slice a V.length c ∧ v2 = .slice a' R.length c' ∧ V.length ≤ 9223372036854775807 ∧ R.length ≤ 9223372036854775807 := by
  obtain ⟨h1, h2⟩ := ans_reads h
  obtain ⟨a, c, rfl, l1⟩ := row_form h1
  obtain ⟨a', c', rfl, l2⟩ := rows_form h2
  exact ⟨a, c, a', c', rfl, rfl, l1, l2⟩
theorem ans_shape {w : World} {base : Nat} {v1 v2 : Value} {V : List Int} {R : List (List Int)} {fp : List Nat} (h : ansC.ow w base [v1, v2] (V, R) fp) : ∃ a c a' c', v1 = .slice a V.length c ∧ v2 = .slice a' R.length c' := by
  obtain ⟨a, c, a', c', e1, e2, _⟩ := ans_form (ansC.ow_rd h)
  exact ⟨a, c, a', c', e1, e2⟩
def ansWt (V : List Int) (R : List (List Int)) : Nat := V.length + rowsWt R
end Go.Proofs.Ytdkhgeknjekkoaa.AnsC
