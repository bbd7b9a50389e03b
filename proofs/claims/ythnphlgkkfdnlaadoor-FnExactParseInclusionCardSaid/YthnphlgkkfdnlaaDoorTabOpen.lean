/- What arguments of the laws read as: slices of ints, slices of those, tables. -/
import Derived.Test.YthnphlgkkfdnlaaDoorFits
import Derived.Test.YthnphlgkkfdnlaaDoorRows2
namespace Go.Proofs.YthnphlgkkfdnlaaDoor.TabOpen
open Go Go.RowKit Byt Ints Cd Rows2 Fits

theorem open_sl {α : Type} {c : Cd α} {P : Program} {t e : TypeId} (ht : P.underlying t = some (.slice e)) (hf : Fits P (Cd.sl e c) t) {H : Type} {enc : TypeId × Value → H} {W : World} {base : Nat} {v : Value} {d : DataW H} {ps : List MemPlace}
    (hval : Value.okWide P W .any base t v) (h : DataW.Trod enc P W 0 (fun _ => true) true t v d ps) : ∃ l, (Cd.sl e c).rd W (· < W.heap.size) [v] l := by
  obtain ⟨a, len, cap, rfl⟩ := Go.WideShapes.okWide_slice ht hval
  obtain ⟨fuel, hx⟩ := h
  exact hf.2 enc W fuel _ d ps hx
theorem open_st {α : Type} {c : Cd α} {P : Program} {t : TypeId} {fs : Array Field} (ht : P.underlying t = some (.struct fs)) (hf : Fits P c t) {H : Type} {enc : TypeId × Value → H} {W : World} {base : Nat} {v : Value} {d : DataW H} {ps : List MemPlace}
    (hval : Value.okWide P W .any base t v) (h : DataW.Trod enc P W 0 (fun _ => true) true t v d ps) : ∃ (cs : Array Value) (a : α), v = .agg cs ∧ c.rd W (· < W.heap.size) cs.toList a := by
  obtain ⟨cs, rfl, _⟩ := Go.WideShapes.okWide_struct ht hval
  obtain ⟨fuel, hx⟩ := h
  obtain ⟨a, ha⟩ := hf.2 enc W fuel _ d ps hx
  exact ⟨cs, a, rfl, ha⟩
set_option maxRecDepth 100000 in
theorem fits_row : Fits Tryd.prog rowC 31 := fits_sl Tryd.underlying31 (fits_int Tryd.underlying3 (by kernel_rfl)) (by kernel_rfl)
set_option maxRecDepth 100000 in
theorem fits_rows : Fits Tryd.prog rowsC 40 := fits_sl Tryd.underlying40 fits_row (by kernel_rfl)
def tabC : Cd (ByteArray × Int × List (List Int)) := Cd.pair Cd.str (Cd.pair Cd.int rowsC)
set_option maxRecDepth 100000 in
theorem tab_cells {w : World} {S : Nat → Prop} {cs : List Value} {T : ByteArray × Int × List (List Int)} (h : tabC.rd w S cs T) :
    ∃ u, cs = [.string T.1, .int .i64 T.2.1, u] ∧ T.1.size ≤ maxLen ∧ (-9223372036854775808 ≤ T.2.1 ∧ T.2.1 ≤ 9223372036854775807) ∧ rowsC.rd w S [u] T.2.2 := by
  obtain ⟨u1, u2, rfl, ⟨rfl, h1⟩, u3, u4, rfl, ⟨rfl, h2⟩, h3⟩ := h
  have hl := rowsC.len h3
  match u4, hl with
  | [u], _ => exact ⟨u, rfl, h1, h2, h3⟩
end Go.Proofs.YthnphlgkkfdnlaaDoor.TabOpen
