/- What an argument of type Database reads as. -/
import Derived.Test.YtdjgaffiildijabDoorDb
import Derived.Test.YtdjgaffiildijabDoorTabOpen
namespace Go.Proofs.YtdjgaffiildijabDoor.DbOpen
open Go Go.RowKit Byt Ints IntsLaw Cd Rows2 Fits TabOpen TabElem SlTable Db

set_option maxRecDepth 100000 in
theorem fits_tabs : Fits Tryd.prog ltabsC 35 := fits_sl Tryd.underlying35 fits_table (by kernel_rfl)
set_option maxRecDepth 100000 in
theorem fits_db : Fits Tryd.prog ltabsC 37 := fits_struct Tryd.underlying37 (fits_one fits_tabs rfl) (by kernel_rfl)
set_option maxRecDepth 100000 in
theorem open_db {H : Type} {enc : TypeId × Value → H} {W : World} {base : Nat} {v : Value} {d : DataW H} {ps : List MemPlace}
    (hval : Value.okWide Tryd.prog W .any base 37 v) (h : DataW.Trod enc Tryd.prog W 0 (fun _ => true) true 37 v d ps) :
    ∃ (u : Value) (l : List T3), v = .agg #[u] ∧ tabsC.rd W (· < W.heap.size) [u] l := by
  obtain ⟨cs, l, rfl, hT⟩ := open_st Tryd.underlying37 fits_db hval h
  have hl := ltabsC.len hT
  obtain ⟨cs⟩ := cs
  match cs, hl, hT with
  | [u], _, hT => exact ⟨u, l, rfl, hT⟩
end Go.Proofs.YtdjgaffiildijabDoor.DbOpen
