/- Queries: read: the program's functions. -/
import Derived.Test.YtohkbnnamhmgeaaQryFmt2
import Derived.Test.YtohkbnnamhmgeaaReads
import Derived.Test.YtohkbnnamhmgeaaSlAtom
import Derived.Lib.IndexMore
import Derived.Lib.SplitLaws
import Derived.StillTailTactics
namespace Go.Proofs.Ytohkbnnamhmgeaa.QryPar
open Go Go.RowKit Byt Ints IntsLaw Cd Rows2 Tab TabSpec Exact Atom QryMath QrySpec QryImp MkAtom SlMath Draw
open TabParse (strC strsC info_str cutB ba)
open QryFmt (KeptF strs_at)

theorem info_atom : (Try.prog.info? 64).map (fun i => (i.zero, i.size, i.bytes)) = some (some (.agg #[.string ⟨#[]⟩, .slice none 0 0]), 2, 40) := by kernel_rfl
theorem at2 {w : World} {b : Nat} {x y : Value} {e : TypeId} (h : w.heap[b]? = some (.cells #[x, y] e (0, 0))) : Cd.At w b 0 [x, y] := fun j hj => by
  obtain ⟨h0, h1, _⟩ := row2 h
  match j, hj with
  | 0, _ => exact h0
  | 1, _ => exact h1

/-- The number of a variable's name, -1 of any other byte. -/
def ix (b : UInt8) : Int := Lib.indexByte [88, 89, 90, 85] b
def ixs (l : List UInt8) : List Int := l.map ix
theorem ix_vb {x : Int} (h : 0 ≤ x ∧ x < 4) : ix (vb x) = x := by
  rcases c4 h with rfl | rfl | rfl | rfl <;> decide
theorem ix_bd (b : UInt8) : -1 ≤ ix b ∧ ix b ≤ 3 := by
  unfold ix
  simp only [Lib.indexByte]
  (repeat' split) <;> simp
/-- The atom that the program reads of a word. -/
def atI (x : List UInt8) : A2 := (⟨(Lib.cut (Lib.trimSuffix x [41]) [40]).1.toArray⟩, ixs (Lib.cut (Lib.trimSuffix x [41]) [40]).2.1)
theorem index_hit (c : UInt8) : ∀ (a b : List UInt8), c ∉ a → Lib.index (a ++ c :: b) [c] = a.length
  | [], b, _ => by simp [Lib.index, List.isPrefixOf]
  | x :: a, b, h => by
    have hx : ¬ c = x := fun q => h (by rw [q]; exact List.mem_cons_self)
    have ih := index_hit c a b (fun q => h (List.mem_cons_of_mem _ q))
    have hp : List.isPrefixOf [c] (x :: (a ++ c :: b)) = false := by
      have : (c == x) = false := by rw [beq_eq_false_iff_ne]; exact hx
      simp [List.isPrefixOf, this]
    show Lib.index (x :: (a ++ c :: b)) [c] = _
    unfold Lib.index
    rw [hp, ih]
    have : ((a.length : Int) == -1) = false := by rw [beq_eq_false_iff_ne]; omega
    rw [this]
    simp
theorem cut_hit (c : UInt8) (a b : List UInt8) (h : c ∉ a) : Lib.cut (a ++ c :: b) [c] = (a, b, true) := by
  unfold Lib.cut
  rw [index_hit c a b h, if_pos (by omega)]
  simp
theorem cut_bd (c : UInt8) (l : List UInt8) : (Lib.cut l [c]).1.length ≤ l.length ∧ (Lib.cut l [c]).2.1.length ≤ l.length := by
  unfold Lib.cut
  split
  · simp only [List.length_take, List.length_drop]
    omega
  · simp
theorem trim_bd (l p : List UInt8) : (Lib.trimSuffix l p).length ≤ l.length := by
  unfold Lib.trimSuffix
  split
  · rw [List.length_take]; omega
  · exact Nat.le_refl _
theorem trim_hit (l : List UInt8) : Lib.trimSuffix (l ++ [41]) [41] = l := by
  unfold Lib.trimSuffix Lib.hasSuffix
  have : List.isSuffixOf [41] (l ++ [41]) = true := by
    rw [List.isSuffixOf_iff_suffix]
    exact List.suffix_append l [41]
  rw [this]
  simp
theorem atI_atomB {n : Int} {A : A2} (h : AtP n A) (h4 : n ≤ 4) : atI (atomB A) = A := by
  have hn := of_decide_eq_true h.1
  have hl : A.1.data.toList.length = 1 := by rw [Array.length_toList]; exact hn.1
  obtain ⟨⟨⟨nm⟩⟩, vs⟩ := A
  match nm, hl with
  | [y], _ =>
    have hv : ∀ vs : List Int, In4 vs → ixs (vs.map vb) = vs := by
      intro vs
      induction vs with
      | nil => intro _; rfl
      | cons x xs ih =>
        intro hi
        have h1 := ih fun y hy => hi y (List.mem_cons_of_mem _ hy)
        unfold ixs at *
        rw [List.map_cons, List.map_cons, ix_vb (hi x List.mem_cons_self), h1]
    have hin : In4 vs := fun x hx => by have := h.2.2.2.1 x hx; omega
    have hy : (40 : UInt8) ∉ [y] := by
      intro q
      rw [List.mem_singleton] at q
      have h2 := hn.2.1
      simp only [List.headD_cons] at h2
      rw [← q] at h2
      exact absurd h2 (by decide)
    have e : atomB (⟨⟨[y]⟩⟩, vs) = ([y] ++ 40 :: vs.map vb) ++ [41] := by simp [atomB]
    unfold atI
    rw [e, trim_hit, cut_hit 40 _ _ hy]
    simp only
    rw [hv vs hin]
/-- The words of a string, as the program cuts it. -/
def wordsK (l : List UInt8) : List (List UInt8) := Lib.splitK [32] 0 (Lib.count l [32]) l
theorem words_of : ∀ (x : List UInt8) (xs : List (List UInt8)), (∀ y ∈ x :: xs, ∀ b ∈ y, b ≠ (32 : UInt8)) → wordsK (x ++ (xs.map fun y => 32 :: y).flatten) = x :: xs
  | x, [], h => by
    have h0 : x.count 32 = 0 := List.count_eq_zero.2 fun q => h x List.mem_cons_self 32 q rfl
    unfold wordsK
    simp only [List.map_nil, List.flatten_nil, List.append_nil]
    rw [Lib.count_one, h0]
    rfl
  | x, y :: ys, h => by
    have h0 : x.count 32 = 0 := List.count_eq_zero.2 fun q => h x List.mem_cons_self 32 q rfl
    have ih := words_of y ys fun z hz => h z (List.mem_cons_of_mem _ hz)
    have hnx : (32 : UInt8) ∉ x := fun q => h x List.mem_cons_self 32 q rfl
    have e : x ++ ((y :: ys).map fun y => 32 :: y).flatten = x ++ 32 :: (y ++ (ys.map fun y => 32 :: y).flatten) := by simp
    unfold wordsK at *
    rw [e]
    generalize y ++ (ys.map fun y => 32 :: y).flatten = t at *
    have hc : Lib.count (x ++ 32 :: t) [32] = Lib.count t [32] + 1 := by
      rw [Lib.count_one, Lib.count_one, List.count_append, h0, List.count_cons_self]
      omega
    rw [hc]
    unfold Lib.splitK
    rw [index_hit 32 x t hnx]
    have hne : ((x.length : Int) == -1) = false := by rw [beq_eq_false_iff_ne]; omega
    rw [hne]
    simp only [Bool.false_eq_true, if_false, Int.toNat_natCast, Nat.add_zero, List.length_cons, List.length_nil]
    have e1 : (x ++ 32 :: t).take x.length = x := by simp
    have e2 : (x ++ 32 :: t).drop (x.length + (0 + 1)) = t := by
      rw [List.drop_append]
      simp
    rw [e1, e2, ih]
theorem words_qB {n : Int} {l : List A2} (h : QP n l) : wordsK (qB l) = l.map atomB := by
  have ha := h.2.2.2.2.1
  have h1 := h.2.2.1
  match l, h1 with
  | A :: As, _ =>
    have := words_of (atomB A) (As.map atomB) (fun y hy => by
      have hy2 : y ∈ (A :: As).map atomB := hy
      obtain ⟨B, hB, rfl⟩ := List.mem_map.1 hy2
      exact noSp_atomB (ha B hB))
    rw [List.map_map] at this
    exact this
def iL (s : ByteArray) : List A2 := (wordsK s.data.toList).map atI
def iN (s : ByteArray) : Int := mx (allV (iL s))
def iOk (s : ByteArray) : Bool := qOk (iN s) (iL s) && decide (fmtQ (iN s) (iL s) = s)
theorem iOk_iff {s : ByteArray} : iOk s = true ↔ qOk (iN s) (iL s) = true ∧ fmtQ (iN s) (iL s) = s := by unfold iOk; simp
theorem i_of_p {s : ByteArray} (h : pOk s = true) : iOk s = true ∧ iN s = pN s ∧ iL s = pL s := by
  obtain ⟨h1, h2⟩ := pOk_iff.1 h
  have hq := qOk_iff.1 h1
  have e : s.data.toList = qB (pL s) := by
    conv => lhs; rw [← h2, fmtQ_yes h1]
  have e2 : iL s = pL s := by
    unfold iL
    rw [e, words_qB hq, List.map_map]
    have : ∀ A ∈ pL s, (atI ∘ atomB) A = A := fun A hA => atI_atomB (hq.2.2.2.2.1 A hA) hq.2.1
    rw [List.map_congr_left this, List.map_id']
  have e3 : iN s = pN s := by unfold iN; rw [e2, mx_all hq]
  exact ⟨by unfold iOk; rw [e2, e3, h1, h2]; simp, e3, e2⟩
theorem p_of_i {s : ByteArray} (h : iOk s = true) : pOk s = true := by
  obtain ⟨h1, h2⟩ := iOk_iff.1 h
  exact (of_fmt h1 h2).2.2.2
theorem i_no {s : ByteArray} (h : iOk s = false) : pOk s = false := by
  cases hp : pOk s
  · rfl
  · rw [(i_of_p hp).1] at h; cases h
/-- What is read of a string. -/
def QAns (s : ByteArray) (w : World) (e : Ending) (w' : World) : Prop :=
  ∃ u fp, e = .returned (.tuple #[.agg #[.int .i64 (if pOk s then pN s else 0), u], .bool (pOk s)]) ∧ atomsC.ow w' w.heap.size [u] (if pOk s then pL s else []) fp ∧ fp.Nodup ∧ Below w.heap.size w w'
theorem QAns.no {s : ByteArray} {w w' : World} (h : pOk s = false) (hb : Below w.heap.size w w') : QAns s w (.returned (.tuple #[.agg #[.int .i64 0, .slice none 0 0], .bool false])) w' :=
  ⟨.slice none 0 0, [], by simp [h], by rw [h]; exact Cd.ow_nil _ _, by simp, hb⟩
theorem QAns.yes {s : ByteArray} {w w' : World} {n : Int} {l : List A2} {u : Value} {fp : List Nat} (h : pOk s = true) (e1 : n = pN s) (e2 : l = pL s) (ho : atomsC.ow w' w.heap.size [u] l fp) (hn : fp.Nodup) (hb : Below w.heap.size w w') : QAns s w (.returned (.tuple #[.agg #[.int .i64 n, u], .bool true])) w' := by
  subst e1 e2
  exact ⟨u, fp, by simp [h], by rw [h]; exact ho, hn, hb⟩

end Go.Proofs.Ytohkbnnamhmgeaa.QryPar
