/- Tables: the model's making of a table. -/
import Derived.Test.YtklamhnecncenaaTabDel
import Derived.StillTailTactics
namespace Go.Proofs.Ytklamhnecncenaa.TabSpec
open Go Go.RowKit Byt Ints IntsLaw Cd Rows2 Tab

theorem putStep_wt (row : List Int) (st : List (List Int) × Bool) (r : List Int) : rowsWt (putStep row st r).1 + (!(putStep row st r).2).toNat * (row.length + 1) ≤ rowsWt st.1 + (!st.2).toNat * (row.length + 1) + r.length + 1 := by
  obtain ⟨o, p⟩ := st
  unfold putStep
  by_cases h1 : cmpR r row = 0
  · rw [if_pos h1]
    cases p <;> simp [rowsWt] <;> omega
  · rw [if_neg h1]
    cases p with
    | false =>
      by_cases h2 : 0 < cmpR r row
      · rw [if_pos ⟨h2, rfl⟩]; simp [rowsWt]; omega
      · rw [if_neg (fun q => h2 q.1)]; simp [rowsWt]; omega
    | true =>
      rw [if_neg (fun q => by simp at q)]; simp [rowsWt]; omega
theorem putF_wt (row : List Int) : ∀ (l : List (List Int)) (st : List (List Int) × Bool), rowsWt (l.foldl (putStep row) st).1 + (!(l.foldl (putStep row) st).2).toNat * (row.length + 1) ≤ rowsWt st.1 + (!st.2).toNat * (row.length + 1) + rowsWt l
  | [], st => Nat.le_add_right _ _
  | r :: rs, st => by
    have h1 := putF_wt row rs (putStep row st r)
    have h2 := putStep_wt row st r
    have h3 : rowsWt (r :: rs) = rowsWt rs + r.length + 1 := by simp [rowsWt]; omega
    rw [List.foldl_cons, h3]
    omega
theorem putR_wt (rows : List (List Int)) (row : List Int) : rowsWt (putR rows row) ≤ rowsWt rows + row.length + 1 := by
  have h := putF_wt row rows ([], false)
  have e : rows.foldl (putStep row) ([], false) = putF rows row := rfl
  have e0 : rowsWt [] = 0 := rfl
  rw [e] at h
  unfold putR
  generalize putF rows row = st at *
  obtain ⟨o, p⟩ := st
  cases p with
  | true =>
    simp at h ⊢
    omega
  | false =>
    have e1 : rowsWt (o ++ [row]) = rowsWt o + (row.length + 1) := by simp [rowsWt]; omega
    simp at h ⊢
    omega

/-- The rows put one by one, up to the ninth. -/
def newR (acc : List (List Int)) : List (List Int) → List (List Int)
  | [] => acc
  | r :: rs => if acc.length ≤ 8 then newR (putR acc r) rs else acc
theorem newR_big {acc : List (List Int)} (h : ¬ acc.length ≤ 8) : ∀ l, newR acc l = acc
  | [] => rfl
  | _ :: _ => by rw [newR, if_neg h]
theorem newR_next {acc rows : List (List Int)} {k : Nat} (h : k < rows.length) (h8 : acc.length ≤ 8) : newR acc (rows.drop k) = newR (putR acc rows[k]) (rows.drop (k + 1)) := by rw [drop_at h, newR, if_pos h8]
def newOk (nm : ByteArray) (ar : Int) (rows : List (List Int)) : Bool := tabOk nm ar (newR [] rows)

/-- What is answered. -/
def NewAns (nm : ByteArray) (ar : Int) (rows : List (List Int)) (w : World) (e : Ending) (w' : World) : Prop :=
  ∃ u' fp, e = .returned (.tuple #[.agg #[.string (if newOk nm ar rows then nm else ⟨#[]⟩), .int .i64 (if newOk nm ar rows then ar else 0), u'], .bool (newOk nm ar rows)]) ∧ rowsC.ow w' w.heap.size [u'] (if newOk nm ar rows then newR [] rows else []) fp ∧ fp.Nodup ∧ Below w.heap.size w w'

end Go.Proofs.Ytklamhnecncenaa.TabSpec
