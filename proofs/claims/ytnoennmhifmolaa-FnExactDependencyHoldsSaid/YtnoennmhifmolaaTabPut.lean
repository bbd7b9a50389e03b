/- Tables: the model's functions that make rows. -/
import Derived.Test.YtnoennmhifmolaaTabSpec2
namespace Go.Proofs.Ytnoennmhifmolaa.TabSpec
open Go Go.RowKit Byt Ints IntsLaw Cd Rows2 Tab

/-- Behind a copy of a row, and the block that holds it: what is owned, and apart. -/
theorem copied {α β : Type} {e : TypeId} {c : Cd α} {d : Cd β} {X w2 : World} {H : Nat} {o v1 : Value} {out : α} {r : β} {fp f1 : List Nat} (how : c.ow X H [o] out fp) (hH : H ≤ X.heap.size)
    (ho1 : d.ow w2 H [v1] r f1) (hs1 : ∀ b ∈ f1, b = X.heap.size ∨ X.heap.size + 1 ≤ b) (ht1 : Cd.Touch [X.heap.size] (X.alloc (.cells #[] e)) w2) (o2 : Obj) :
    c.ow (w2.alloc o2) H [o] out fp ∧ d.ow (w2.alloc o2) H [v1] r f1 ∧ (∀ b ∈ f1, b ∉ fp) ∧ Below X.heap.size X (w2.alloc o2) ∧ H ≤ (w2.alloc o2).heap.size := by
  have hge : ∀ b ∈ f1, X.heap.size ≤ b := fun b hb => by
    rcases hs1 b hb with q | q
    · omega
    · omega
  have hlt : ∀ b ∈ fp, b < X.heap.size := fun b hb => (c.ow_lt how b hb).2
  have h1 := Cd.ow_later how (below_alloc X (.cells #[] e))
  have h2 := Cd.ow_touched h1 ht1 (fun b hb q => by have := hlt b hb; rw [List.mem_singleton.1 q] at this; omega)
  have h3 := Cd.ow_later h2 (below_alloc w2 o2)
  have hb : Below X.heap.size X w2 := Cd.Touch.below (below_alloc X _) ht1 (fun b hb => by rw [List.mem_singleton.1 hb]; exact Nat.le_refl _)
  refine ⟨h3, Cd.ow_later ho1 (below_alloc w2 o2), fun b hb q => ?_, below_then hb (below_alloc w2 o2), ?_⟩
  · have := hge b hb
    have := hlt b q
    omega
  · rw [size_alloc]
    have := hb.size
    omega

/-- One row of putting row into rows: what is written, and whether row is in it. -/
def putStep (row : List Int) (st : List (List Int) × Bool) (r : List Int) : List (List Int) × Bool :=
  if cmpR r row = 0 then (st.1 ++ [r], true) else if 0 < cmpR r row ∧ st.2 = false then (st.1 ++ [row] ++ [r], true) else (st.1 ++ [r], st.2)
def putF (rows : List (List Int)) (row : List Int) : List (List Int) × Bool := rows.foldl (putStep row) ([], false)
def putR (rows : List (List Int)) (row : List Int) : List (List Int) := if (putF rows row).2 then (putF rows row).1 else (putF rows row).1 ++ [row]
theorem putF_next {rows : List (List Int)} {row : List Int} {k : Nat} (h : k < rows.length) : putF (rows.take (k + 1)) row = putStep row (putF (rows.take k) row) rows[k] := by
  unfold putF
  rw [List.take_succ_eq_append_getElem h, List.foldl_append]
  rfl
theorem putStep_len (row : List Int) (st : List (List Int) × Bool) (r : List Int) (n : Nat) (h : st.1.length + (!st.2).toNat ≤ n) : (putStep row st r).1.length + (!(putStep row st r).2).toNat ≤ n + 1 := by
  obtain ⟨o, p⟩ := st
  unfold putStep
  by_cases h1 : cmpR r row = 0
  · rw [if_pos h1]
    cases p <;> simp at * <;> omega
  · rw [if_neg h1]
    cases p with
    | false =>
      simp at h
      by_cases h2 : 0 < cmpR r row
      · rw [if_pos ⟨h2, rfl⟩]; simp; omega
      · rw [if_neg (fun q => h2 q.1)]; simp; omega
    | true =>
      simp at h
      rw [if_neg (fun q => by simp at q)]; simp; omega
theorem putF_len (rows : List (List Int)) (row : List Int) : (putF rows row).1.length + (!(putF rows row).2).toNat ≤ rows.length + 1 := by
  have : ∀ (l : List (List Int)) (st : List (List Int) × Bool) (n : Nat), st.1.length + (!st.2).toNat ≤ n → (l.foldl (putStep row) st).1.length + (!(l.foldl (putStep row) st).2).toNat ≤ n + l.length := by
    intro l
    induction l with
    | nil => intro st n h; simpa using h
    | cons r rs ih =>
      intro st n h
      have := ih (putStep row st r) (n + 1) (putStep_len row st r n h)
      rw [List.foldl_cons, List.length_cons]
      omega
  have h := this rows ([], false) 1 (by simp)
  unfold putF
  omega

end Go.Proofs.Ytnoennmhifmolaa.TabSpec
