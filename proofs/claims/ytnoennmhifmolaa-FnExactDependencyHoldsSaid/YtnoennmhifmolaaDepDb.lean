/- Dependencies and inclusions of a database: violations, missing values. Plain. -/
import Derived.Test.YtnoennmhifmolaaDepMath
import Derived.Test.YtnoennmhifmolaaDbLook
import Derived.Test.YtnoennmhifmolaaDbExact
namespace Go.Proofs.Ytnoennmhifmolaa.DepMath
open Go Go.RowKit Byt Ints IntsLaw Cd Rows2 Tab TabSpec Exact Dep DegMath QryMath DbMath SlTable
open DbSpec (lkT lk_none lk_some zeroT)

/-- The table that is found: an empty one, if none is. -/
theorem look_ok {l : List (ByteArray × Int × List (List Int))} {nm : ByteArray} (h : (lookL l nm).isSome = true) : tabOk (lkT l nm).1 (lkT l nm).2.1 (lkT l nm).2.2 = true := by
  obtain ⟨T, hT⟩ := Option.isSome_iff_exists.1 h
  rw [lk_some hT]
  unfold lookL at hT
  split at hT
  · rename_i hd
    exact (dbOk_iff.1 hd).2.1 T (findN_some hT).1
  · cases hT
theorem look_no {l : List (ByteArray × Int × List (List Int))} {nm : ByteArray} (h : (lookL l nm).isSome = false) : lkT l nm = zeroT := lk_none (by
  cases q : lookL l nm
  · rfl
  · rw [q] at h; cases h)
def depOk (l : List (ByteArray × Int × List (List Int))) (D : D3) : Bool := (lookL l D.1).isSome && colsD D (lkT l D.1).2.1

/-! ### violations -/
def badB (rows : List (List Int)) (V : List Int) (c : Int) (i k : Nat) : Bool :=
  decide (selR (rows.getD i []) V = selR (rows.getD k []) V) && decide ((rows.getD i []).getD c.toNat 0 ≠ (rows.getD k []).getD c.toNat 0)
def vioI (rows : List (List Int)) (V : List Int) (c : Int) (k : Nat) : Option Nat := (List.range k).find? fun i => badB rows V c i k
def vioL (rows : List (List Int)) (V : List Int) (c : Int) : List Int :=
  match (List.range rows.length).find? (fun k => (vioI rows V c k).isSome) with
  | none => []
  | some k => match vioI rows V c k with
    | none => []
    | some i => [(i : Int), (k : Int)]
def VioNo (rows : List (List Int)) (V : List Int) (c : Int) (k : Nat) : Prop := ∀ k' < k, ∀ i < k', badB rows V c i k' = false
def VioRow (rows : List (List Int)) (V : List Int) (c : Int) (k i : Nat) : Prop := ∀ j < i, badB rows V c j k = false
theorem vioI_none {rows : List (List Int)} {V : List Int} {c : Int} {k : Nat} (h : VioRow rows V c k k) : vioI rows V c k = none := by
  unfold vioI
  rw [List.find?_range_eq_none]
  intro i hi
  rw [h i hi]; rfl
theorem vioI_some {rows : List (List Int)} {V : List Int} {c : Int} {k i : Nat} (h : VioRow rows V c k i) (hi : i < k) (hb : badB rows V c i k = true) : vioI rows V c k = some i := by
  unfold vioI
  rw [List.find?_range_eq_some]
  exact ⟨hb, List.mem_range.2 hi, fun j hj => by rw [h j hj]; rfl⟩
theorem VioRow.next {rows : List (List Int)} {V : List Int} {c : Int} {k i : Nat} (h : VioRow rows V c k i) (hb : badB rows V c i k = false) : VioRow rows V c k (i + 1) := fun j hj => by
  by_cases e : j = i
  · rw [e]; exact hb
  · exact h j (by omega)
theorem VioNo.next {rows : List (List Int)} {V : List Int} {c : Int} {k : Nat} (h : VioNo rows V c k) (hb : VioRow rows V c k k) : VioNo rows V c (k + 1) := fun j hj => by
  by_cases e : j = k
  · rw [e]; exact hb
  · exact h j (by omega)
theorem vio_none {rows : List (List Int)} {V : List Int} {c : Int} (h : VioNo rows V c rows.length) : vioL rows V c = [] := by
  unfold vioL
  rw [List.find?_range_eq_none.2]
  intro k hk
  rw [vioI_none (h k hk)]; rfl
theorem vio_some {rows : List (List Int)} {V : List Int} {c : Int} {k i : Nat} (h : VioNo rows V c k) (hk : k < rows.length) (hr : VioRow rows V c k i) (hi : i < k) (hb : badB rows V c i k = true) : vioL rows V c = [(i : Int), (k : Int)] := by
  have e := vioI_some hr hi hb
  have q : (List.range rows.length).find? (fun k => (vioI rows V c k).isSome) = some k := by
    rw [List.find?_range_eq_some]
    exact ⟨by rw [e]; rfl, List.mem_range.2 hk, fun j hj => by rw [vioI_none (h j hj)]; rfl⟩
  unfold vioL
  rw [q]
  simp only [e]
theorem vio_len (rows : List (List Int)) (V : List Int) (c : Int) : (vioL rows V c).length ≤ 2 := by
  unfold vioL
  split
  · simp
  · split <;> simp
def vioD (l : List (ByteArray × Int × List (List Int))) (D : D3) : List Int := if depOk l D then vioL (lkT l D.1).2.2 D.2.1 D.2.2 else []
theorem vioD_len (l : List (ByteArray × Int × List (List Int))) (D : D3) : (vioD l D).length ≤ 2 := by
  unfold vioD
  split
  · exact vio_len _ _ _
  · simp
def holdsD (l : List (ByteArray × Int × List (List Int))) (D : D3) : Bool := depOk l D && decide ((vioD l D).length = 0)

/-! ### inclusions -/
def incOk (l : List (ByteArray × Int × List (List Int))) (n1 : ByteArray) (c1 : Int) (n2 : ByteArray) (c2 : Int) : Bool :=
  ((lookL l n1).isSome && colB c1 (lkT l n1).2.1) && ((lookL l n2).isSome && colB c2 (lkT l n2).2.1)
def occB (rows : List (List Int)) (c : Int) (v : Int) : Bool := rows.any fun r => decide (r.getD c.toNat 0 = v)
def misTo (ra rb : List (List Int)) (ca cb : Int) (k : Nat) : List Int := ((List.range k).filter fun v : Nat => occB ra ca (v : Int) && !occB rb cb (v : Int)).map Int.ofNat
theorem misTo_yes {ra rb : List (List Int)} {ca cb : Int} {k : Nat} (h : occB ra ca k = true) (h2 : occB rb cb k = false) : misTo ra rb ca cb (k + 1) = misTo ra rb ca cb k ++ [(k : Int)] := by
  unfold misTo
  rw [List.range_succ, List.filter_append, List.map_append]
  simp [h, h2]
theorem misTo_no1 {ra rb : List (List Int)} {ca cb : Int} {k : Nat} (h : occB ra ca k = false) : misTo ra rb ca cb (k + 1) = misTo ra rb ca cb k := by
  unfold misTo
  rw [List.range_succ, List.filter_append, List.map_append]
  simp [h]
theorem misTo_no2 {ra rb : List (List Int)} {ca cb : Int} {k : Nat} (h2 : occB rb cb k = true) : misTo ra rb ca cb (k + 1) = misTo ra rb ca cb k := by
  unfold misTo
  rw [List.range_succ, List.filter_append, List.map_append]
  simp [h2]
theorem misTo_len (ra rb : List (List Int)) (ca cb : Int) (k : Nat) : (misTo ra rb ca cb k).length ≤ k := by
  unfold misTo
  rw [List.length_map]
  exact Nat.le_trans (List.length_filter_le _ _) (by rw [List.length_range]; exact Nat.le_refl _)
theorem inr_misTo (ra rb : List (List Int)) (ca cb : Int) (k : Nat) (hk : k ≤ 64) : InR (misTo ra rb ca cb k) := by
  intro x hx
  unfold misTo at hx
  obtain ⟨y, hy, rfl⟩ := List.mem_map.1 hx
  have := List.mem_range.1 (List.mem_filter.1 hy).1
  simp only [Int.ofNat_eq_natCast]
  omega
def misL (l : List (ByteArray × Int × List (List Int))) (n1 : ByteArray) (c1 : Int) (n2 : ByteArray) (c2 : Int) : List Int :=
  if incOk l n1 c1 n2 c2 then misTo (lkT l n1).2.2 (lkT l n2).2.2 c1 c2 10 else []
theorem misL_len (l : List (ByteArray × Int × List (List Int))) (n1 : ByteArray) (c1 : Int) (n2 : ByteArray) (c2 : Int) : (misL l n1 c1 n2 c2).length ≤ 10 := by
  unfold misL
  split
  · exact misTo_len _ _ _ _ _
  · simp
def holdsI (l : List (ByteArray × Int × List (List Int))) (n1 : ByteArray) (c1 : Int) (n2 : ByteArray) (c2 : Int) : Bool := incOk l n1 c1 n2 c2 && decide ((misL l n1 c1 n2 c2).length = 0)
theorem occ_next {rows : List (List Int)} {c v : Int} {k : Nat} (h : k < rows.length) : occB (rows.take (k + 1)) c v = (occB (rows.take k) c v || decide ((rows[k]).getD c.toNat 0 = v)) := by
  unfold occB
  rw [List.take_succ_eq_append_getElem h, List.any_append]
  simp
end Go.Proofs.Ytnoennmhifmolaa.DepMath
namespace Go.Proofs.Ytnoennmhifmolaa.DepSpec
open Go Go.RowKit Byt Ints IntsLaw Cd Rows2 Tab SlMath TabOpen TabElem SlTable Db TabSpec Exact DbMath Dep QryMath DepMath DbExact
open DbSpec (lkT LookAns zeroT)
open DegMath (colsOk gcOk)

theorem dnD {B m : Nat} {w w' : World} (h : Below B w w') : Below B w (w'.drewN m) := ⟨h.os, h.tape, h.output, h.size, h.block⟩
/-- What is known of a table that was found. -/
structure Found (T : T3) : Prop where
  ok : tabOk T.1 T.2.1 T.2.2 = true
  a1 : 1 ≤ T.2.1
  a3 : T.2.1 ≤ 3
theorem found_of {l : List T3} {nm : ByteArray} (h : (lookL l nm).isSome = true) : Found (lkT l nm) := by
  have h1 := look_ok h
  have h2 : TabP _ _ _ := of_decide_eq_true h1
  exact ⟨h1, h2.2.1, h2.2.2.1⟩
theorem in_col {ar : Int} (t : Int) : (decide ((0 : Int) ≤ t) && decide (t ≤ ar - 1)) = colB t ar := by
  unfold colB
  rw [← Bool.decide_and]
  exact decide_eq_decide.2 ⟨fun h => ⟨h.1, by omega⟩, fun h => ⟨h.1, by omega⟩⟩
/-- A column of the rows of a table that was found. -/
theorem col_at {T : T3} (h : Found T) {c : Int} (hc : colB c T.2.1 = true) : ∃ t : Nat, c = (t : Int) ∧ t < 3 ∧ ∀ r ∈ T.2.2, t < r.length := by
  obtain ⟨t, rfl⟩ := Int.eq_ofNat_of_zero_le (colB_iff.1 hc).1
  have h1 := (colB_iff.1 hc).2
  have h3 := h.a3
  refine ⟨t, rfl, by omega, fun r hr => ?_⟩
  have hT : TabP _ _ _ := of_decide_eq_true h.ok
  have := (rowOk_iff.1 (hT.2.2.2.2.1 r hr)).1
  omega
theorem found_len {T : T3} (h : Found T) : T.2.2.length ≤ 8 := by
  have hT : TabP _ _ _ := of_decide_eq_true h.ok
  exact hT.2.2.2.1
theorem touch_more {P fp : List Nat} {w0 w w' : World} (h : Cd.Touch P w0 w) (k : Cd.Touch fp w w') (hs : ∀ b ∈ fp, b ∈ P ∨ w0.heap.size ≤ b) : Cd.Touch P w0 w' :=
  ⟨k.os.trans h.os, k.tape.trans h.tape, k.output.trans h.output, Nat.le_trans h.size k.size, fun i hi hn => (k.block i (Nat.lt_of_lt_of_le hi h.size) (fun q => by
    rcases hs i q with p | p
    · exact hn p
    · omega)).trans (h.block i hi hn)⟩
end Go.Proofs.Ytnoennmhifmolaa.DepSpec
