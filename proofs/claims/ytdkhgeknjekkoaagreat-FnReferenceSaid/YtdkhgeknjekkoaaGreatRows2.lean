/- What the exact laws do with slices of slices of ints: sized, copied, compared, marked, looked at. -/
import Derived.Test.YtdkhgeknjekkoaaGreatIntsLaw
import Derived.Test.YtdkhgeknjekkoaaGreatCd
import Derived.Deep.RegionHeld3
namespace Go.Proofs.YtdkhgeknjekkoaaGreat.Rows2
open Go Go.RowKit Byt Ints IntsLaw Cd

def rowC : Cd (List Int) := Cd.sl 3 Cd.int
def rowsC : Cd (List (List Int)) := Cd.sl 32 rowC
theorem row_ri {w : World} {S : Nat → Prop} {v : Value} {l : List Int} (h : rowC.rd w S [v] l) : RI w v l w.heap.size ∧ InR l := by
  obtain ⟨v', e, h1, h2⟩ := Cd.ri_of h
  injection e with e _
  subst e
  exact ⟨h1, h2⟩
theorem info_ints : (Tryz.prog.info? 32).map (fun i => (i.zero, i.size, i.bytes)) = some (some (.slice none 0 0), 1, 24) := by kernel_rfl

/-- Row k of a slice of rows that is read: where its value lies, and what it is. -/
theorem rows_at {w : World} {S : Nat → Prop} {v : Value} {l : List (List Int)} (h : rowsC.rd w S [v] l) {k : Nat} (hk : k < l.length) :
    ∃ b off cap u, v = .slice (some ⟨b, off, none⟩) l.length cap ∧ b < w.heap.size ∧ w.cell? ⟨b, off + k, none⟩ = some u ∧ rowC.rd w S [u] l[k] := by
  obtain ⟨ad, cap, e, _, hc⟩ := h
  injection e with e _
  subst e
  rcases hc with rfl | ⟨b, off, rfl, hS, hb, hc⟩
  · simp at hk
  obtain ⟨xs, h1, h2⟩ := hc k hk
  have hl := rowC.len h2
  match xs, hl with
  | [u], _ =>
    refine ⟨b, off, cap, u, rfl, hb, ?_, h2⟩
    have := h1 0 (by simp)
    simpa [rowC, Cd.sl] using this
theorem rows_form {w : World} {S : Nat → Prop} {v : Value} {l : List (List Int)} (h : rowsC.rd w S [v] l) : ∃ a cap, v = .slice a l.length cap ∧ l.length ≤ 9223372036854775807 := by
  obtain ⟨ad, cap, e, hl, _⟩ := h
  injection e with e _
  exact ⟨ad, cap, e, hl⟩

def rowsWt (l : List (List Int)) : Nat := l.length + l.flatten.length

theorem len_mem {x : List Int} : ∀ {l : List (List Int)}, x ∈ l → x.length ≤ l.flatten.length
  | a :: r, h => by
    rw [List.flatten_cons, List.length_append]
    rcases List.mem_cons.1 h with rfl | q
    · omega
    · have := len_mem q
      omega
theorem row_len {l : List (List Int)} {k : Nat} (h : k < l.length) : l[k].length ≤ l.flatten.length := len_mem (List.getElem_mem h)

theorem below_q {w w' : World} (h : ∃ m, w' = w.drewN m) : Below w.heap.size w w' := by
  obtain ⟨m, rfl⟩ := h
  exact ⟨rfl, rfl, rfl, Nat.le_refl _, fun _ _ => rfl⟩
theorem rd_drewN {α : Type} {c : Cd α} {w : World} {S : Nat → Prop} {us : List Value} {a : α} (h : c.rd w S us a) (m : Nat) : c.rd (w.drewN m) S us a := c.keep h fun _ _ _ => rfl

end Go.Proofs.YtdkhgeknjekkoaaGreat.Rows2
