/- Tables: runs of equal rows cut to one: the library's function at this program. -/
import Derived.Test.YtnjomgefmoehhaaTabMath
import Derived.Lib.SliceRun
namespace Go.Proofs.Ytnjomgefmoehhaa.TabImp
open Go Go.RowKit Byt Ints IntsLaw Cd Rows2 Tab TabSpec Exact

/-- The first of each run, of the first k. -/
def compT (l : List (List Int)) : Nat → List (List Int)
  | 0 => []
  | k + 1 => if 0 < k ∧ l.getD k [] = l.getD (k - 1) [] then compT l k else compT l k ++ [l.getD k []]
theorem compT_le (l : List (List Int)) : ∀ k, (compT l k).length ≤ k
  | 0 => Nat.le_refl _
  | k + 1 => by
    have := compT_le l k
    unfold compT
    split
    · omega
    · rw [List.length_append, List.length_singleton]; omega
theorem compT_same {l : List (List Int)} {k : Nat} (h0 : 0 < k) (hk : k < l.length) (h : l[k] = l[k - 1]) : compT l (k + 1) = compT l k := by
  rw [compT, if_pos ⟨h0, by simp [hk, show k - 1 < l.length by omega, h]⟩]
theorem compT_new {l : List (List Int)} {k : Nat} (hk : k < l.length) (h : k = 0 ∨ ∃ h : k - 1 < l.length, l[k] ≠ l[k - 1]) : compT l (k + 1) = compT l k ++ [l[k]] := by
  have e : l.getD k [] = l[k] := by simp [hk]
  rw [compT, e, if_neg]
  rintro ⟨h1, h2⟩
  rcases h with rfl | ⟨h3, h4⟩
  · omega
  · exact h4 (by rw [h2]; simp [h3])
def Srt (l : List (List Int)) : Prop := ∀ s t, (hs : s < t) → (ht : t < l.length) → cmpR (l[s]'(by omega)) l[t] ≤ 0
theorem compT_sorted {l : List (List Int)} (hs : Srt l) : ∀ k, k ≤ l.length → Asc (compT l k) ∧ (∀ r, r ∈ compT l k ↔ ∃ t, ∃ h : t < l.length, t < k ∧ l[t] = r) ∧ (∀ r ∈ compT l k, ∀ h : k - 1 < l.length, 0 < k → cmpR r l[k - 1] ≤ 0)
  | 0, _ => ⟨List.Pairwise.nil, fun r => ⟨(fun q => by cases q), (fun ⟨t, _, h, _⟩ => by omega)⟩, (fun r q => by cases q)⟩
  | k + 1, hk => by
    obtain ⟨h1, h2, h3⟩ := compT_sorted hs k (by omega)
    have hkl : k < l.length := by omega
    have hcm : ∀ r ∈ compT l k, cmpR r l[k] ≤ 0 := fun r hr => by
      obtain ⟨t, ht, htk, rfl⟩ := (h2 r).1 hr
      exact hs t k htk hkl
    by_cases hz : 0 < k ∧ l[k] = (l[k - 1]'(by omega))
    · rw [compT_same hz.1 hkl hz.2]
      refine ⟨h1, fun r => ?_, fun r hr h _ => hcm r hr⟩
      rw [h2 r]
      constructor
      · rintro ⟨t, ht, htk, e⟩
        exact ⟨t, ht, by omega, e⟩
      · rintro ⟨t, ht, htk, e⟩
        by_cases ek : t = k
        · subst ek
          exact ⟨t - 1, by omega, by omega, by rw [← hz.2]; exact e⟩
        · exact ⟨t, ht, by omega, e⟩
    · have hnew : k = 0 ∨ ∃ h : k - 1 < l.length, l[k] ≠ l[k - 1] := by
        rcases Nat.eq_zero_or_pos k with q | q
        · exact .inl q
        · exact .inr ⟨by omega, fun e => hz ⟨q, e⟩⟩
      rw [compT_new hkl hnew]
      refine ⟨?_, fun r => ?_, fun r hr h _ => ?_⟩
      · unfold Asc at *
        rw [List.pairwise_append]
        refine ⟨h1, List.pairwise_singleton _ _, fun a ha b hb => ?_⟩
        rw [List.mem_singleton.1 hb]
        have q1 := hcm a ha
        rcases hnew with rfl | ⟨h4, h5⟩
        · cases ha
        · have hk0 : 0 < k := by
            rcases Nat.eq_zero_or_pos k with q | q
            · subst q; cases ha
            · exact q
          have q2 := h3 a ha h4 hk0
          have q3 := hs (k - 1) k (by omega) hkl
          rcases Int.lt_or_eq_of_le q1 with q | q
          · exact q
          · exfalso
            have e1 := cmpR_eq q
            subst e1
            have q4 := cmpR_anti l[k] l[k - 1]
            have q5 : cmpR l[k] l[k - 1] = 0 := by omega
            exact h5 (cmpR_eq q5)
      · rw [List.mem_append, List.mem_singleton, h2 r]
        constructor
        · rintro (⟨t, ht, htk, e⟩ | rfl)
          · exact ⟨t, ht, by omega, e⟩
          · exact ⟨k, hkl, by omega, rfl⟩
        · rintro ⟨t, ht, htk, e⟩
          by_cases ek : t = k
          · subst ek; exact .inr e.symm
          · exact .inl ⟨t, ht, by omega, e⟩
      · rcases List.mem_append.1 hr with q | q
        · exact hcm r q
        · rw [List.mem_singleton.1 q]
          show cmpR l[k] l[k] ≤ 0
          rw [cmpR_self]
          omega

/-- Rows that lie in block g, each read out of the blocks S. -/
def Lie (w : World) (g : Nat) (S : Nat → Prop) (l : List (List Int)) : Prop :=
  ∀ t, (h : t < l.length) → ∃ u, w.cell? ⟨g, t, none⟩ = some u ∧ w.frozen? ⟨g, t, none⟩ = false ∧ rowC.rd w S [u] l[t]
theorem Lie.drewN {w : World} {g : Nat} {S : Nat → Prop} {l : List (List Int)} (h : Lie w g S l) (m : Nat) : Lie (w.drewN m) g S l := fun t ht => by
  obtain ⟨u, h1, h2, h3⟩ := h t ht
  exact ⟨u, h1, h2, rd_drewN h3 m⟩
theorem Lie.take {w : World} {g : Nat} {S : Nat → Prop} {l : List (List Int)} (h : Lie w g S l) (k : Nat) : Lie w g S (l.take k) := fun t ht => by
  rw [List.length_take] at ht
  obtain ⟨u, h1, h2, h3⟩ := h t (by omega)
  exact ⟨u, h1, h2, by rw [List.getElem_take]; exact h3⟩
theorem Lie.set {w : World} {g : Nat} {S : Nat → Prop} {l : List (List Int)} (h : Lie w g S l) (hg : ¬ S g) {c : Nat} {u : Value} {r : List Int} (hc : c < l.length) (hu : rowC.rd w S [u] r) : Lie (w.setCell ⟨g, c, none⟩ u) g S (l.set c r) := fun t ht => by
  rw [List.length_set] at ht
  obtain ⟨v, h1, h2, h3⟩ := h t ht
  obtain ⟨v0, h4, h5, _⟩ := h c hc
  have hk : ∀ {us : List Value} {x : List Int}, rowC.rd w S us x → rowC.rd (w.setCell ⟨g, c, none⟩ u) S us x := fun q => rowC.keep q fun b hb _ => Below.heap_setCell w _ u b fun (e : b = g) => hg (by rw [← e]; exact hb)
  have hf : (w.setCell ⟨g, c, none⟩ u).frozen? ⟨g, t, none⟩ = w.frozen? ⟨g, t, none⟩ := World.frozen?_setCell w _ _ _
  by_cases e : t = c
  · subst e
    exact ⟨u, World.cell?_setCell_same _ _ _ h4, hf.trans h2, by rw [List.getElem_set_self]; exact hk hu⟩
  · refine ⟨v, ?_, hf.trans h2, ?_⟩
    · rw [World.cell?_setCell_other _ _ _ _ (by intro q; injection q; omega)]
      exact h1
    · rw [List.getElem_set_ne (by omega)]
      exact hk h3
theorem touch_setCell (w : World) (g c : Nat) (u : Value) : Cd.Touch [g] w (w.setCell ⟨g, c, none⟩ u) :=
  ⟨rfl, rfl, rfl, by have := (Below.refl 0 w).setCell (Nat.zero_le _) (p := ⟨g, c, none⟩) u; exact this.size, fun k _ hn => Below.heap_setCell w _ u k fun e => hn (by rw [e]; exact List.mem_singleton.2 rfl)⟩
theorem Lie.far {w w' : World} {g : Nat} {S : Nat → Prop} {l : List (List Int)} {k : Nat} (h : Lie w g S l) (hS : ∀ b, S b → b < w.heap.size → w'.heap[b]? = w.heap[b]?) (hc : ∀ t, t < k → w'.cell? ⟨g, t, none⟩ = w.cell? ⟨g, t, none⟩) (hf : ∀ t, t < k → w'.frozen? ⟨g, t, none⟩ = w.frozen? ⟨g, t, none⟩) (hk : l.length ≤ k) : Lie w' g S l := fun t ht => by
  obtain ⟨u, h1, h2, h3⟩ := h t ht
  exact ⟨u, (hc t (by omega)).trans h1, (hf t (by omega)).trans h2, rowC.keep h3 hS⟩
end Go.Proofs.Ytnjomgefmoehhaa.TabImp
