/- What an argument of type Database reads as. -/
import Derived.Test.YtnoennmhifmolaaDb
import Derived.Test.YtnoennmhifmolaaTabOpen
namespace Go.Proofs.Ytnoennmhifmolaa.DbOpen
open Go Go.RowKit Byt Ints IntsLaw Cd Rows2 Fits TabOpen TabElem SlTable Db

set_option maxRecDepth 100000 in
theorem fits_tabs : Fits Try.prog ltabsC 22 := fits_sl Try.underlying22 fits_table (by kernel_rfl)
set_option maxRecDepth 100000 in
theorem fits_db : Fits Try.prog ltabsC 24 := fits_struct Try.underlying24 (fits_one fits_tabs rfl) (by kernel_rfl)
set_option maxRecDepth 100000 in
theorem open_db {H : Type} {enc : TypeId × Value → H} {W : World} {base : Nat} {v : Value} {d : DataW H} {ps : List MemPlace}
    (hval : Value.okWide Try.prog W .any base 24 v) (h : DataW.Trod enc Try.prog W 0 (fun _ => true) true 24 v d ps) :
    ∃ (u : Value) (l : List T3), v = .agg #[u] ∧ tabsC.rd W (· < W.heap.size) [u] l := by
  obtain ⟨cs, l, rfl, hT⟩ := open_st Try.underlying24 fits_db hval h
  have hl := ltabsC.len hT
  obtain ⟨cs⟩ := cs
  match cs, hl, hT with
  | [u], _, hT => exact ⟨u, l, rfl, hT⟩
end Go.Proofs.Ytnoennmhifmolaa.DbOpen
