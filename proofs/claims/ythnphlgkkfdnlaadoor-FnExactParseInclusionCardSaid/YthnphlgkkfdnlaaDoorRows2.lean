/- What the exact laws do with slices of slices of ints: sized, copied, compared, marked, looked at. -/
import Derived.Test.YthnphlgkkfdnlaaDoorIntsLaw
import Derived.Test.YthnphlgkkfdnlaaDoorCd
import Derived.Deep.RegionHeld3
namespace Go.Proofs.YthnphlgkkfdnlaaDoor.Rows2
open Go Go.RowKit Byt Ints IntsLaw Cd

def rowC : Cd (List Int) := Cd.sl 3 Cd.int
def rowsC : Cd (List (List Int)) := Cd.sl 31 rowC
theorem rowC_n : rowC.n = 1 := rfl
theorem rowsC_n : rowsC.n = 1 := rfl
theorem row_ri {w : World} {S : Nat → Prop} {v : Value} {l : List Int} (h : rowC.rd w S [v] l) : RI w v l w.heap.size ∧ InR l := by
  obtain ⟨v', e, h1, h2⟩ := Cd.ri_of h
  injection e with e _
  subst e
  exact ⟨h1, h2⟩
theorem row_own {w : World} {base : Nat} {v : Value} {l : List Int} {fp : List Nat} (h : rowC.ow w base [v] l fp) : OwnI w base 3 v l ∧ InR l ∧ fp = v.ownBlock.toList := by
  obtain ⟨v', e, h1, h2, h3⟩ := Cd.own_of_ow h
  injection e with e _
  subst e
  exact ⟨h1, h2, h3⟩
theorem info_ints : (Tryd.prog.info? 31).map (fun i => (i.zero, i.size, i.bytes)) = some (some (.slice none 0 0), 1, 24) := by kernel_rfl

/-- Row k of a slice of rows that is read: where its value lies, and what it is. -/
theorem rows_at {w : World} {S : Nat → Prop} {v : Value} {l : List (List Int)} (h : rowsC.rd w S [v] l) {k : Nat} (hk : k < l.length) :
    ∃ b off cap u, v = .slice (some ⟨b, off, none⟩) l.length cap ∧ b < w.heap.size ∧ w.cell? ⟨b, off + k, none⟩ = some u ∧ rowC.rd w S [u] l[k] := by
  obtain ⟨ad, cap, e, _, hc⟩ := h
  injection e with e _
  subst e
  rcases hc with rfl | ⟨b, off, rfl, hS, hb, hc⟩
  · simp at hk
  obtain ⟨xs, h1, h2⟩ := hc k hk
  have hl := rowC.len h2
  match xs, hl with
  | [u], _ =>
    refine ⟨b, off, cap, u, rfl, hb, ?_, h2⟩
    have := h1 0 (by simp)
    simpa [rowC, Cd.sl] using this
theorem rows_form {w : World} {S : Nat → Prop} {v : Value} {l : List (List Int)} (h : rowsC.rd w S [v] l) : ∃ a cap, v = .slice a l.length cap ∧ l.length ≤ 9223372036854775807 := by
  obtain ⟨ad, cap, e, hl, _⟩ := h
  injection e with e _
  exact ⟨ad, cap, e, hl⟩

def leftI (L wt : Nat) : Int := if wt ≤ L then (L : Int) - wt else -1
theorem left_yes {L wt : Nat} (h : wt ≤ L) : leftI L wt = ((L - wt : Nat) : Int) := by unfold leftI; rw [if_pos h]; omega
theorem left_no {L wt : Nat} (h : ¬ wt ≤ L) : leftI L wt = -1 := by unfold leftI; rw [if_neg h]
def rowsWt (l : List (List Int)) : Nat := l.length + l.flatten.length



theorem own_slice {w : World} {base : Nat} {e : TypeId} {v : Value} {l : List Int} (h : OwnI w base e v l) : ∃ a cap, v = .slice a l.length cap := by
  rcases h.form with ⟨rfl, rfl⟩ | ⟨g, cap, rfl, _⟩
  · exact ⟨_, _, rfl⟩
  · exact ⟨_, _, rfl⟩
theorem rows_slice {w : World} {base : Nat} {v : Value} {l : List (List Int)} {fp : List Nat} (h : rowsC.ow w base [v] l fp) : ∃ a cap, v = .slice a l.length cap := by
  obtain ⟨a, cap, e, _⟩ := rows_form (rowsC.ow_rd h)
  exact ⟨a, cap, e⟩

/-- l's first k rows, then empty ones. -/
def partR (l : List (List Int)) (k : Nat) : List (List Int) := l.take k ++ List.replicate (l.length - k) []
theorem partR_zero (l : List (List Int)) : partR l 0 = List.replicate l.length [] := by simp [partR]
theorem partR_all (l : List (List Int)) : partR l l.length = l := by simp [partR]
theorem partR_length (l : List (List Int)) (k : Nat) (h : k ≤ l.length) : (partR l k).length = l.length := by
  unfold partR
  rw [List.length_append, List.length_take, List.length_replicate]
  omega
theorem partR_set (l : List (List Int)) (k : Nat) (h : k < l.length) : (partR l k).set k l[k] = partR l (k + 1) := by
  unfold partR
  have e : l.length - k = (l.length - (k + 1)) + 1 := by omega
  rw [e, List.replicate_succ, List.set_append_right _ _ (by simp; omega), List.take_succ_eq_append_getElem h]
  have e2 : k - (l.take k).length = 0 := by simp; omega
  rw [e2, List.set_cons_zero, List.append_assoc]
  rfl
theorem len_mem {x : List Int} : ∀ {l : List (List Int)}, x ∈ l → x.length ≤ l.flatten.length
  | a :: r, h => by
    rw [List.flatten_cons, List.length_append]
    rcases List.mem_cons.1 h with rfl | q
    · omega
    · have := len_mem q
      omega
theorem row_len {l : List (List Int)} {k : Nat} (h : k < l.length) : l[k].length ≤ l.flatten.length := len_mem (List.getElem_mem h)


theorem below_q {w w' : World} (h : ∃ m, w' = w.drewN m) : Below w.heap.size w w' := by
  obtain ⟨m, rfl⟩ := h
  exact ⟨rfl, rfl, rfl, Nat.le_refl _, fun _ _ => rfl⟩
theorem rd_drewN {α : Type} {c : Cd α} {w : World} {S : Nat → Prop} {us : List Value} {a : α} (h : c.rd w S us a) (m : Nat) : c.rd (w.drewN m) S us a := c.keep h fun _ _ _ => rfl



/-- The rows marked with k, k + 1, .. in order. -/
def mrows (k : Nat) : List (List Int) → List (List Int)
  | [] => []
  | r :: rs => marks k r.length :: mrows (k + r.length) rs
theorem mrows_length (k : Nat) (l : List (List Int)) : (mrows k l).length = l.length := by
  induction l generalizing k with
  | nil => rfl
  | cons r rs ih => simp [mrows, ih]
theorem mrows_append (k : Nat) (a b : List (List Int)) : mrows k (a ++ b) = mrows k a ++ mrows (k + a.flatten.length) b := by
  induction a generalizing k with
  | nil => simp [mrows]
  | cons r rs ih =>
    rw [List.cons_append, mrows, ih, mrows, List.flatten_cons, List.length_append, Nat.add_assoc]
    rfl
theorem mrows_flat (k : Nat) (l : List (List Int)) : (mrows k l).flatten.length = l.flatten.length := by
  induction l generalizing k with
  | nil => rfl
  | cons r rs ih => rw [mrows, List.flatten_cons, List.length_append, ih, List.flatten_cons, List.length_append, marks_length]
theorem mrows_get (k : Nat) (l : List (List Int)) (j : Nat) (h : j < l.length) (h' : j < (mrows k l).length) : (mrows k l)[j] = marks ((k + (l.take j).flatten.length : Nat) : Int) l[j].length := by
  have e : l = l.take j ++ l[j] :: l.drop (j + 1) := by rw [← List.drop_eq_getElem_cons h, List.take_append_drop]
  have e2 : mrows k l = mrows k (l.take j) ++ (marks ((k + (l.take j).flatten.length : Nat) : Int) l[j].length :: mrows (k + (l.take j).flatten.length + l[j].length) (l.drop (j + 1))) := by
    conv => lhs; rw [e, mrows_append]
    rfl
  have hl : (mrows k (l.take j)).length = j := by rw [mrows_length, List.length_take]; omega
  have : (mrows k l)[j]? = some (marks ((k + (l.take j).flatten.length : Nat) : Int) l[j].length) := by
    rw [e2, List.getElem?_append_right (by omega), hl, Nat.sub_self]
    rfl
  exact (List.getElem?_eq_some_iff.1 this).2
def mpart (k : Nat) (l : List (List Int)) (j : Nat) : List (List Int) := mrows k (l.take j) ++ l.drop j
theorem mpart_length (k : Nat) (l : List (List Int)) (j : Nat) (h : j ≤ l.length) : (mpart k l j).length = l.length := by
  unfold mpart
  rw [List.length_append, mrows_length, List.length_take, List.length_drop]
  omega
theorem mpart_zero (k : Nat) (l : List (List Int)) : mpart k l 0 = l := by simp [mpart, mrows]
theorem mpart_all (k : Nat) (l : List (List Int)) : mpart k l l.length = mrows k l := by simp [mpart]
theorem mpart_get (k : Nat) (l : List (List Int)) (j : Nat) (h : j < l.length) (h' : j < (mpart k l j).length) : (mpart k l j)[j] = l[j] := by
  have hl : (mrows k (l.take j)).length = j := by rw [mrows_length, List.length_take]; omega
  have : (mpart k l j)[j]? = some l[j] := by
    unfold mpart
    rw [List.getElem?_append_right (by omega), hl, Nat.sub_self, List.getElem?_drop]
    simp [h]
  exact (List.getElem?_eq_some_iff.1 this).2
theorem mpart_set (k : Nat) (l : List (List Int)) (j : Nat) (h : j < l.length) : (mpart k l j).set j (marks ((k + (l.take j).flatten.length : Nat) : Int) l[j].length) = mpart k l (j + 1) := by
  have hl : (mrows k (l.take j)).length = j := by rw [mrows_length, List.length_take]; omega
  unfold mpart
  rw [List.drop_eq_getElem_cons h, List.set_append_right _ _ (by omega), hl, Nat.sub_self, List.set_cons_zero, List.take_succ_eq_append_getElem h, mrows_append, List.append_assoc]
  rfl
theorem take_flat {l : List (List Int)} {j : Nat} (h : j < l.length) : (l.take (j + 1)).flatten.length = (l.take j).flatten.length + l[j].length := by
  rw [List.take_succ_eq_append_getElem h, List.flatten_append]
  simp
theorem take_flat_le (l : List (List Int)) (j : Nat) : (l.take j).flatten.length ≤ l.flatten.length := by
  have := congrArg List.length (congrArg List.flatten (List.take_append_drop j l))
  rw [List.flatten_append, List.length_append] at this
  omega
theorem inr_marks (k n : Nat) (h : k + n ≤ 9223372036854775807) : InR (marks k n) := by
  intro x hx
  simp [marks] at hx
  obtain ⟨t, ht, rfl⟩ := hx
  omega


end Go.Proofs.YthnphlgkkfdnlaaDoor.Rows2
