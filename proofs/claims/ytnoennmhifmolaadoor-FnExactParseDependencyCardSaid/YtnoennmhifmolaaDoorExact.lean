/- The helpers of the exact laws in one form, whatever the type: copied, compared, marked, looked at. -/
import Derived.Test.YtnoennmhifmolaaDoorTabCopy
namespace Go.Proofs.YtnoennmhifmolaaDoor.Exact
open Go Go.RowKit Byt Ints IntsLaw Cd Rows2 Tab TabSpec

theorem to_i (v : Value) (l : List Int) (S : Nat → Prop) (w : World) (hr : rowC.rd w S [v] l) (hl : l.length ≤ 1048577) :
    Calls Tryd.prog 47 #[v] w fun e w' => ∃ v' fp, e = .returned v' ∧ rowC.ow w' w.heap.size [v'] l fp ∧ fp.Nodup ∧ Below w.heap.size w w' :=
  (to_ints v l _ w (row_ri hr).1 (Nat.le_refl _) hl).mono fun _ _ ⟨v', h1, h2, h3⟩ => ⟨v', _, h1, Cd.ow_of_own h2 (row_ri hr).2, Cd.own_nodup, h3⟩
theorem eq_i (v1 v2 : Value) (l : List Int) (S1 S2 : Nat → Prop) (w : World) (h1 : rowC.rd w S1 [v1] l) (h2 : rowC.rd w S2 [v2] l) :
    Calls Tryd.prog 50 #[v1, v2] w fun e w' => e = .returned (.bool true) ∧ Below w.heap.size w w' :=
  (eq_ints_q v1 v2 l _ _ w (row_ri h1).1 (row_ri h2).1).mono fun _ _ h => ⟨h.1, below_q h.2⟩
theorem mark_i (v : Value) (l : List Int) (base k0 : Nat) (fp : List Nat) (w : World) (h : rowC.ow w base [v] l fp) (hl : l.length ≤ 1048577) (hk0 : k0 ≤ 500000000) :
    Calls Tryd.prog 54 #[v, .int .i64 k0] w fun e w' => e = .returned (.int .i64 ((k0 + l.length : Nat) : Int)) ∧ rowC.ow w' base [v] (marks k0 l.length) fp ∧ Cd.Touch fp w w' := by
  obtain ⟨ho, _, rfl⟩ := row_own h
  exact (mark_ints v l base k0 w ho hl (by omega)).mono fun _ _ ⟨h1, h2, h3⟩ => ⟨h1, Cd.ow_of_own h2 (inr_marks _ _ (by omega)), Cd.Touch.of_grown h3⟩
theorem held_i (v : Value) (n : Nat) (S : Nat → Prop) (k0 : Nat) (w : World) (h : rowC.rd w S [v] (marks k0 n)) (hl : n ≤ 1048577) (hk0 : k0 ≤ 500000000) :
    Calls Tryd.prog 55 #[v, .int .i64 k0] w fun e w' => e = .returned (.int .i64 ((k0 + n : Nat) : Int)) ∧ Below w.heap.size w w' :=
  (held_ints v n _ k0 w (row_ri h).1 hl (by omega)).mono fun _ _ h => ⟨h.1, by rw [← h.2]; exact Below.refl _ _⟩

theorem rd_drew {α : Type} {c : Cd α} {w : World} {S : Nat → Prop} {us : List Value} {a : α} (h : c.rd w S us a) : c.rd w.drew S us a := c.keep h fun _ _ _ => rfl
theorem loc_drew {w : World} {X : Nat} {a b c : Value} (h : Loc3 w X a b c) : Loc3 w.drew X a b c := ⟨h.c0, h.c1, h.c2, h.f0, h.f1, h.f2⟩
theorem undrew {w w' : World} (h : Below w.drew.heap.size w.drew w') : Below w.heap.size w w' := ⟨h.os, h.tape, h.output, h.size, h.block⟩
theorem bound_of {α : Type} {c : Cd α} {w : World} {base : Nat} {us : List Value} {a : α} {fp : List Nat} (h : c.ow w base us a fp) : ∀ b ∈ fp, base ≤ b ∧ b < w.heap.size := c.ow_lt h
theorem start0 (w : World) (o0 : Obj) {W : World} (h : w.alloc o0 = W) : W.heap[w.heap.size]? = some o0 ∧ W.heap.size = w.heap.size + 1 ∧ Below w.heap.size w W := start1 w o0 h
end Go.Proofs.YtnoennmhifmolaaDoor.Exact
