/- Queries: read: the program's function. -/
import Derived.Test.YtohkbnnamhmgeaaQryPar2
import Derived.Test.YtohkbnnamhmgeaaTabSpec2
namespace Go.Proofs.Ytohkbnnamhmgeaa.QryPar
open Go Go.RowKit Byt Ints IntsLaw Cd Rows2 Tab TabSpec Exact Atom QryMath QrySpec QryImp MkAtom SlMath Draw
open TabParse (strC strsC info_str cutB ba)
open QryFmt (KeptF strs_at)

theorem loc2_set0 {w : World} {X : Nat} {a b : Value} (h : Loc2 w X a b) (v : Value) : Loc2 (w.setCell ⟨X, 0, none⟩ v) X v b :=
  ⟨World.cell?_setCell_same _ _ _ h.c0, by rw [World.cell?_setCell_other _ _ _ _ (by simp)]; exact h.c1, by simpa using h.f0, by simpa using h.f1⟩
theorem touch_set {w : World} {X o : Nat} (v : Value) : Cd.Touch [X] w (w.setCell ⟨X, o, none⟩ v) :=
  ⟨rfl, rfl, rfl, by simp, fun k _ hn => Below.heap_setCell _ _ _ k (by simpa using hn)⟩
theorem splitK_le : ∀ (k : Nat) (s x : List UInt8), x ∈ Lib.splitK [32] 0 k s → x.length ≤ s.length
  | 0, s, x, h => by
    rw [show Lib.splitK [32] 0 0 s = [s] from rfl, List.mem_singleton] at h
    rw [h]
    exact Nat.le_refl _
  | k + 1, s, x, h => by
    unfold Lib.splitK at h
    split at h
    · rw [List.mem_singleton.1 h]
      exact Nat.le_refl _
    · rcases List.mem_cons.1 h with q | q
      · rw [q, List.length_take]
        omega
      · have := splitK_le k _ x q
        rw [List.length_drop] at this
        omega
theorem iL_bd {s : ByteArray} : ∀ A ∈ iL s, ∀ x ∈ A.2, -1 ≤ x ∧ x ≤ 3 := fun A hA x hx => by
  unfold iL at hA
  obtain ⟨y, _, rfl⟩ := List.mem_map.1 hA
  unfold atI at hx
  simp only at hx
  unfold ixs at hx
  obtain ⟨b, _, rfl⟩ := List.mem_map.1 hx
  exact ix_bd b
theorem mx_bd {l : List Int} (h : ∀ x ∈ l, -1 ≤ x ∧ x ≤ 3) : 0 ≤ mx l ∧ mx l ≤ 4 :=
  ⟨mxF_ge l 0, mxF_le l 0 4 (by omega) fun x hx => by have := h x hx; omega⟩
end Go.Proofs.Ytohkbnnamhmgeaa.QryPar
