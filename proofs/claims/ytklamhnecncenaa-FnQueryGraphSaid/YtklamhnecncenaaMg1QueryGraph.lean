/- Texts that the proof rests on, one behind the other. -/
import Derived.Test.YtklamhnecncenaaQryFmt2
import Derived.Test.YtklamhnecncenaaReads
import Derived.Test.YtklamhnecncenaaSlAtom
import Derived.Lib.IndexMore
import Derived.Lib.SplitLaws
import Derived.StillTailTactics
import Derived.Test.YtklamhnecncenaaTabSpec2
import Derived.Test.YtklamhnecncenaaTabParse
import Derived.Deep.QuietTactic
import Derived.Test.YtklamhnecncenaaIntsLaw
import Derived.Test.YtklamhnecncenaaRows
import Derived.Test.YtklamhnecncenaaByt
import Derived.WalkKit
import Derived.WalkSpells
import Derived.WalkLawsBesides
import Derived.Lib.Hide
import Derived.BigQuiet
import Derived.Deep.RegionWith
import Derived.ProofKit
import Derived.OpenShut
import Derived.Deep.RegionHeld3

namespace Go.Proofs.Ytklamhnecncenaa.QryPar
open Go Go.RowKit Byt Ints IntsLaw Cd Rows2 Tab TabSpec Exact Atom QryMath QrySpec QryImp MkAtom SlMath Draw
open TabParse (strC strsC info_str cutB ba)
open QryFmt (KeptF strs_at)

theorem info_atom : (Try.prog.info? 130).map (fun i => (i.zero, i.size, i.bytes)) = some (some (.agg #[.string ⟨#[]⟩, .slice none 0 0]), 2, 40) := by kernel_rfl
theorem at2 {w : World} {b : Nat} {x y : Value} {e : TypeId} (h : w.heap[b]? = some (.cells #[x, y] e (0, 0))) : Cd.At w b 0 [x, y] := fun j hj => by
  obtain ⟨h0, h1, _⟩ := row2 h
  match j, hj with
  | 0, _ => exact h0
  | 1, _ => exact h1

/-- The number of a variable's name, -1 of any other byte. -/
def ix (b : UInt8) : Int := Lib.indexByte [88, 89, 90, 85] b
def ixs (l : List UInt8) : List Int := l.map ix
theorem ix_vb {x : Int} (h : 0 ≤ x ∧ x < 4) : ix (vb x) = x := by
  rcases c4 h with rfl | rfl | rfl | rfl <;> decide
theorem ix_bd (b : UInt8) : -1 ≤ ix b ∧ ix b ≤ 3 := by
  unfold ix
  simp only [Lib.indexByte]
  (repeat' split) <;> simp
/-- The atom that the program reads of a word. -/
def atI (x : List UInt8) : A2 := (⟨(Lib.cut (Lib.trimSuffix x [41]) [40]).1.toArray⟩, ixs (Lib.cut (Lib.trimSuffix x [41]) [40]).2.1)
theorem index_hit (c : UInt8) : ∀ (a b : List UInt8), c ∉ a → Lib.index (a ++ c :: b) [c] = a.length
  | [], b, _ => by simp [Lib.index, List.isPrefixOf]
  | x :: a, b, h => by
    have hx : ¬ c = x := fun q => h (by rw [q]; exact List.mem_cons_self)
    have ih := index_hit c a b (fun q => h (List.mem_cons_of_mem _ q))
    have hp : List.isPrefixOf [c] (x :: (a ++ c :: b)) = false := by
      have : (c == x) = false := by rw [beq_eq_false_iff_ne]; exact hx
      simp [List.isPrefixOf, this]
    show Lib.index (x :: (a ++ c :: b)) [c] = _
    unfold Lib.index
    rw [hp, ih]
    have : ((a.length : Int) == -1) = false := by rw [beq_eq_false_iff_ne]; omega
    rw [this]
    simp
theorem cut_hit (c : UInt8) (a b : List UInt8) (h : c ∉ a) : Lib.cut (a ++ c :: b) [c] = (a, b, true) := by
  unfold Lib.cut
  rw [index_hit c a b h, if_pos (by omega)]
  simp
theorem cut_bd (c : UInt8) (l : List UInt8) : (Lib.cut l [c]).1.length ≤ l.length ∧ (Lib.cut l [c]).2.1.length ≤ l.length := by
  unfold Lib.cut
  split
  · simp only [List.length_take, List.length_drop]
    omega
  · simp
theorem trim_bd (l p : List UInt8) : (Lib.trimSuffix l p).length ≤ l.length := by
  unfold Lib.trimSuffix
  split
  · rw [List.length_take]; omega
  · exact Nat.le_refl _
theorem trim_hit (l : List UInt8) : Lib.trimSuffix (l ++ [41]) [41] = l := by
  unfold Lib.trimSuffix Lib.hasSuffix
  have : List.isSuffixOf [41] (l ++ [41]) = true := by
    rw [List.isSuffixOf_iff_suffix]
    exact List.suffix_append l [41]
  rw [this]
  simp
theorem atI_atomB {n : Int} {A : A2} (h : AtP n A) (h4 : n ≤ 4) : atI (atomB A) = A := by
  have hn := of_decide_eq_true h.1
  have hl : A.1.data.toList.length = 1 := by rw [Array.length_toList]; exact hn.1
  obtain ⟨⟨⟨nm⟩⟩, vs⟩ := A
  match nm, hl with
  | [y], _ =>
    have hv : ∀ vs : List Int, In4 vs → ixs (vs.map vb) = vs := by
      intro vs
      induction vs with
      | nil => intro _; rfl
      | cons x xs ih =>
        intro hi
        have h1 := ih fun y hy => hi y (List.mem_cons_of_mem _ hy)
        unfold ixs at *
        rw [List.map_cons, List.map_cons, ix_vb (hi x List.mem_cons_self), h1]
    have hin : In4 vs := fun x hx => by have := h.2.2.2.1 x hx; omega
    have hy : (40 : UInt8) ∉ [y] := by
      intro q
      rw [List.mem_singleton] at q
      have h2 := hn.2.1
      simp only [List.headD_cons] at h2
      rw [← q] at h2
      exact absurd h2 (by decide)
    have e : atomB (⟨⟨[y]⟩⟩, vs) = ([y] ++ 40 :: vs.map vb) ++ [41] := by simp [atomB]
    unfold atI
    rw [e, trim_hit, cut_hit 40 _ _ hy]
    simp only
    rw [hv vs hin]
/-- The words of a string, as the program cuts it. -/
def wordsK (l : List UInt8) : List (List UInt8) := Lib.splitK [32] 0 (Lib.count l [32]) l
theorem words_of : ∀ (x : List UInt8) (xs : List (List UInt8)), (∀ y ∈ x :: xs, ∀ b ∈ y, b ≠ (32 : UInt8)) → wordsK (x ++ (xs.map fun y => 32 :: y).flatten) = x :: xs
  | x, [], h => by
    have h0 : x.count 32 = 0 := List.count_eq_zero.2 fun q => h x List.mem_cons_self 32 q rfl
    unfold wordsK
    simp only [List.map_nil, List.flatten_nil, List.append_nil]
    rw [Lib.count_one, h0]
    rfl
  | x, y :: ys, h => by
    have h0 : x.count 32 = 0 := List.count_eq_zero.2 fun q => h x List.mem_cons_self 32 q rfl
    have ih := words_of y ys fun z hz => h z (List.mem_cons_of_mem _ hz)
    have hnx : (32 : UInt8) ∉ x := fun q => h x List.mem_cons_self 32 q rfl
    have e : x ++ ((y :: ys).map fun y => 32 :: y).flatten = x ++ 32 :: (y ++ (ys.map fun y => 32 :: y).flatten) := by simp
    unfold wordsK at *
    rw [e]
    generalize y ++ (ys.map fun y => 32 :: y).flatten = t at *
    have hc : Lib.count (x ++ 32 :: t) [32] = Lib.count t [32] + 1 := by
      rw [Lib.count_one, Lib.count_one, List.count_append, h0, List.count_cons_self]
      omega
    rw [hc]
    unfold Lib.splitK
    rw [index_hit 32 x t hnx]
    have hne : ((x.length : Int) == -1) = false := by rw [beq_eq_false_iff_ne]; omega
    rw [hne]
    simp only [Bool.false_eq_true, if_false, Int.toNat_natCast, Nat.add_zero, List.length_cons, List.length_nil]
    have e1 : (x ++ 32 :: t).take x.length = x := by simp
    have e2 : (x ++ 32 :: t).drop (x.length + (0 + 1)) = t := by
      rw [List.drop_append]
      simp
    rw [e1, e2, ih]
theorem words_qB {n : Int} {l : List A2} (h : QP n l) : wordsK (qB l) = l.map atomB := by
  have ha := h.2.2.2.2.1
  have h1 := h.2.2.1
  match l, h1 with
  | A :: As, _ =>
    have := words_of (atomB A) (As.map atomB) (fun y hy => by
      have hy2 : y ∈ (A :: As).map atomB := hy
      obtain ⟨B, hB, rfl⟩ := List.mem_map.1 hy2
      exact noSp_atomB (ha B hB))
    rw [List.map_map] at this
    exact this
def iL (s : ByteArray) : List A2 := (wordsK s.data.toList).map atI
def iN (s : ByteArray) : Int := mx (allV (iL s))
def iOk (s : ByteArray) : Bool := qOk (iN s) (iL s) && decide (fmtQ (iN s) (iL s) = s)
theorem iOk_iff {s : ByteArray} : iOk s = true ↔ qOk (iN s) (iL s) = true ∧ fmtQ (iN s) (iL s) = s := by unfold iOk; simp
theorem i_of_p {s : ByteArray} (h : pOk s = true) : iOk s = true ∧ iN s = pN s ∧ iL s = pL s := by
  obtain ⟨h1, h2⟩ := pOk_iff.1 h
  have hq := qOk_iff.1 h1
  have e : s.data.toList = qB (pL s) := by
    conv => lhs; rw [← h2, fmtQ_yes h1]
  have e2 : iL s = pL s := by
    unfold iL
    rw [e, words_qB hq, List.map_map]
    have : ∀ A ∈ pL s, (atI ∘ atomB) A = A := fun A hA => atI_atomB (hq.2.2.2.2.1 A hA) hq.2.1
    rw [List.map_congr_left this, List.map_id']
  have e3 : iN s = pN s := by unfold iN; rw [e2, mx_all hq]
  exact ⟨by unfold iOk; rw [e2, e3, h1, h2]; simp, e3, e2⟩
theorem p_of_i {s : ByteArray} (h : iOk s = true) : pOk s = true := by
  obtain ⟨h1, h2⟩ := iOk_iff.1 h
  exact (of_fmt h1 h2).2.2.2
theorem i_no {s : ByteArray} (h : iOk s = false) : pOk s = false := by
  cases hp : pOk s
  · rfl
  · rw [(i_of_p hp).1] at h; cases h
/-- What is read of a string. -/
def QAns (s : ByteArray) (w : World) (e : Ending) (w' : World) : Prop :=
  ∃ u fp, e = .returned (.tuple #[.agg #[.int .i64 (if pOk s then pN s else 0), u], .bool (pOk s)]) ∧ atomsC.ow w' w.heap.size [u] (if pOk s then pL s else []) fp ∧ fp.Nodup ∧ Below w.heap.size w w'
theorem QAns.no {s : ByteArray} {w w' : World} (h : pOk s = false) (hb : Below w.heap.size w w') : QAns s w (.returned (.tuple #[.agg #[.int .i64 0, .slice none 0 0], .bool false])) w' :=
  ⟨.slice none 0 0, [], by simp [h], by rw [h]; exact Cd.ow_nil _ _, by simp, hb⟩
theorem QAns.yes {s : ByteArray} {w w' : World} {n : Int} {l : List A2} {u : Value} {fp : List Nat} (h : pOk s = true) (e1 : n = pN s) (e2 : l = pL s) (ho : atomsC.ow w' w.heap.size [u] l fp) (hn : fp.Nodup) (hb : Below w.heap.size w w') : QAns s w (.returned (.tuple #[.agg #[.int .i64 n, u], .bool true])) w' := by
  subst e1 e2
  exact ⟨u, fp, by simp [h], by rw [h]; exact ho, hn, hb⟩

end Go.Proofs.Ytklamhnecncenaa.QryPar

namespace Go.Proofs.Ytklamhnecncenaa.QryPar
open Go Go.RowKit Byt Ints IntsLaw Cd Rows2 Tab TabSpec Exact Atom QryMath QrySpec QryImp MkAtom SlMath Draw
open TabParse (strC strsC info_str cutB ba)
open QryFmt (KeptF strs_at)

end Go.Proofs.Ytklamhnecncenaa.QryPar

namespace Go.Proofs.Ytklamhnecncenaa.QryPar
open Go Go.RowKit Byt Ints IntsLaw Cd Rows2 Tab TabSpec Exact Atom QryMath QrySpec QryImp MkAtom SlMath Draw
open TabParse (strC strsC info_str cutB ba)
open QryFmt (KeptF strs_at)

theorem loc2_set0 {w : World} {X : Nat} {a b : Value} (h : Loc2 w X a b) (v : Value) : Loc2 (w.setCell ⟨X, 0, none⟩ v) X v b :=
  ⟨World.cell?_setCell_same _ _ _ h.c0, by rw [World.cell?_setCell_other _ _ _ _ (by simp)]; exact h.c1, by simpa using h.f0, by simpa using h.f1⟩
theorem touch_set {w : World} {X o : Nat} (v : Value) : Cd.Touch [X] w (w.setCell ⟨X, o, none⟩ v) :=
  ⟨rfl, rfl, rfl, by simp, fun k _ hn => Below.heap_setCell _ _ _ k (by simpa using hn)⟩
theorem splitK_le : ∀ (k : Nat) (s x : List UInt8), x ∈ Lib.splitK [32] 0 k s → x.length ≤ s.length
  | 0, s, x, h => by
    rw [show Lib.splitK [32] 0 0 s = [s] from rfl, List.mem_singleton] at h
    rw [h]
    exact Nat.le_refl _
  | k + 1, s, x, h => by
    unfold Lib.splitK at h
    split at h
    · rw [List.mem_singleton.1 h]
      exact Nat.le_refl _
    · rcases List.mem_cons.1 h with q | q
      · rw [q, List.length_take]
        omega
      · have := splitK_le k _ x q
        rw [List.length_drop] at this
        omega
theorem iL_bd {s : ByteArray} : ∀ A ∈ iL s, ∀ x ∈ A.2, -1 ≤ x ∧ x ≤ 3 := fun A hA x hx => by
  unfold iL at hA
  obtain ⟨y, _, rfl⟩ := List.mem_map.1 hA
  unfold atI at hx
  simp only at hx
  unfold ixs at hx
  obtain ⟨b, _, rfl⟩ := List.mem_map.1 hx
  exact ix_bd b
theorem mx_bd {l : List Int} (h : ∀ x ∈ l, -1 ≤ x ∧ x ≤ 3) : 0 ≤ mx l ∧ mx l ≤ 4 :=
  ⟨mxF_ge l 0, mxF_le l 0 4 (by omega) fun x hx => by have := h x hx; omega⟩
end Go.Proofs.Ytklamhnecncenaa.QryPar

namespace Go.Proofs.Ytklamhnecncenaa.QryPar
open Go Go.RowKit Byt Ints IntsLaw Cd Rows2 Tab TabSpec Exact Atom QryMath QrySpec QryImp MkAtom SlMath Draw
open TabParse (strC strsC info_str cutB ba cuts)
open QryFmt (KeptF strs_at)

theorem loc2_set1 {w : World} {X : Nat} {a b : Value} (h : Loc2 w X a b) (v : Value) : Loc2 (w.setCell ⟨X, 1, none⟩ v) X a v :=
  ⟨by rw [World.cell?_setCell_other _ _ _ _ (by simp)]; exact h.c0, World.cell?_setCell_same _ _ _ h.c1, by simpa using h.f0, by simpa using h.f1⟩
theorem touch_old {fp fq : List Nat} {w a b : World} (h : Cd.Touch fp w a) (k : Cd.Touch fq a b) (hf : ∀ x ∈ fq, x ∈ fp ∨ w.heap.size ≤ x) : Cd.Touch fp w b :=
  ⟨k.os.trans h.os, k.tape.trans h.tape, k.output.trans h.output, Nat.le_trans h.size k.size, fun i hi hn => by
    have hq : i ∉ fq := fun q => by
      rcases hf i q with r | r
      · exact hn r
      · omega
    rw [k.block i (Nat.lt_of_lt_of_le hi h.size) hq]
    exact h.block i hi hn⟩
/-- The variables whose names the byte is, of those below v. -/
def pVk (b : UInt8) (v : Nat) : List Int := ((List.range v).filter fun (u : Nat) => vb (u : Int) == b).map Int.ofNat
theorem pVk_yes {b : UInt8} {v : Nat} (h : vb (v : Int) = b) : pVk b (v + 1) = pVk b v ++ [(v : Int)] := by
  unfold pVk
  rw [List.range_succ, List.filter_append, List.map_append]
  simp [h]
theorem pVk_no {b : UInt8} {v : Nat} (h : ¬ vb (v : Int) = b) : pVk b (v + 1) = pVk b v := by
  unfold pVk
  rw [List.range_succ, List.filter_append, List.map_append]
  simp [h]
theorem pVk_nat : ∀ n < 256, pVk (UInt8.ofNat n) 4 = pV (UInt8.ofNat n) := by decide +kernel
theorem pVk_all (b : UInt8) : pVk b 4 = pV b := by
  have := pVk_nat b.toNat (UInt8.toNat_lt b)
  rwa [UInt8.ofNat_toNat] at this
/-- The variables of the bytes of a word from 2 on, ahead of t. -/
def vsT (x : List UInt8) (t : Nat) : List Int := ((x.drop 2).take (t - 2)).flatMap pV
theorem vsT_two (x : List UInt8) : vsT x 2 = [] := by simp [vsT]
theorem vsT_succ {x : List UInt8} {t : Nat} (h2 : 2 ≤ t) (ht : t < x.length) : vsT x (t + 1) = vsT x t ++ pV x[t] := by
  unfold vsT
  have e : t + 1 - 2 = (t - 2) + 1 := by omega
  rw [e, List.take_succ_eq_append_getElem (by rw [List.length_drop]; omega), List.flatMap_append]
  have e2 : (x.drop 2)[t - 2]'(by rw [List.length_drop]; omega) = x[t] := by
    rw [List.getElem_drop]
    congr 1
    omega
  rw [e2]
  simp
theorem vsT_all (x : List UInt8) : vsT x (x.length - 1) = ((x.drop 2).take (x.length - 3)).flatMap pV := by
  unfold vsT
  have e : x.length - 1 - 2 = x.length - 3 := by omega
  rw [e]
theorem pV_bd {b : UInt8} : ∀ x ∈ pV b, 0 ≤ x ∧ x ≤ 3 := by
  intro x hx
  unfold pV at hx
  split at hx
  · simp at hx; omega
  · split at hx
    · simp at hx; omega
    · split at hx
      · simp at hx; omega
      · split at hx
        · simp at hx; omega
        · simp at hx
theorem vsT_bd {x : List UInt8} {t : Nat} : ∀ y ∈ vsT x t, 0 ≤ y ∧ y ≤ 3 := by
  intro y hy
  unfold vsT at hy
  obtain ⟨b, _, hb⟩ := List.mem_flatMap.1 hy
  exact pV_bd y hb
theorem pVk_bd {b : UInt8} {v : Nat} (h : v ≤ 4) : ∀ x ∈ pVk b v, 0 ≤ x ∧ x ≤ 3 := by
  intro x hx
  unfold pVk at hx
  obtain ⟨y, hy, rfl⟩ := List.mem_map.1 hx
  have := List.mem_range.1 (List.mem_filter.1 hy).1
  simp only [Int.ofNat_eq_natCast]
  omega
theorem vsT_len (x : List UInt8) (t : Nat) : (vsT x t).length ≤ x.length := by
  unfold vsT
  have h1 : ∀ l : List UInt8, (l.flatMap pV).length ≤ l.length := by
    intro l
    induction l with
    | nil => simp
    | cons b l ih =>
      rw [List.flatMap_cons, List.length_append, List.length_cons]
      have : (pV b).length ≤ 1 := by
        unfold pV
        (repeat' split) <;> simp
      omega
  have h2 := h1 ((x.drop 2).take (t - 2))
  rw [List.length_take, List.length_drop] at h2
  omega
theorem pVk_len (b : UInt8) (v : Nat) : (pVk b v).length ≤ v := by
  unfold pVk
  rw [List.length_map]
  exact Nat.le_trans (List.length_filter_le _ _) (by rw [List.length_range]; exact Nat.le_refl _)
theorem pL_bd {s : ByteArray} : ∀ A ∈ pL s, ∀ x ∈ A.2, -1 ≤ x ∧ x ≤ 3 := fun A hA x hx => by
  unfold pL at hA
  obtain ⟨y, _, rfl⟩ := List.mem_map.1 hA
  unfold atS at hx
  simp only at hx
  obtain ⟨b, _, hb⟩ := List.mem_flatMap.1 hx
  have := pV_bd x hb
  omega
theorem one_byte {x : ByteArray} {t : Nat} (h : t < x.size) : x.extract t (t + 1) = ⟨#[x.data.toList[t]'(by rw [Array.length_toList]; exact h)]⟩ := by
  have hl : t < x.data.toList.length := by rw [Array.length_toList]; exact h
  rw [TabParse.extract_ba]
  have e : t + 1 - t = 1 := by omega
  rw [e, List.drop_eq_getElem_cons hl]
  simp [ba]
theorem cuts_at {s : ByteArray} {k : Nat} (h : k < (cuts s).length) (h2 : k < (pL s).length) : (pL s)[k] = atS ((cuts s)[k]).data.toList := by
  unfold pL cuts ba at *
  simp
theorem cuts_len (s : ByteArray) : (cuts s).length = (pL s).length := by unfold pL cuts; simp
theorem cuts_ok {s : ByteArray} (h : pOk s = true) : (cuts s).length ≤ 4 ∧ ∀ x ∈ cuts s, 4 ≤ x.size ∧ x.size ≤ 6 := by
  obtain ⟨h1, h2⟩ := pOk_words h
  refine ⟨by unfold cuts; rw [List.length_map]; exact h1, fun x hx => ?_⟩
  unfold cuts at hx
  obtain ⟨y, hy, rfl⟩ := List.mem_map.1 hx
  have := h2 y hy
  show 4 ≤ y.toArray.size ∧ y.toArray.size ≤ 6
  rw [List.size_toArray]
  exact this
set_option maxRecDepth 100000 in
set_option maxHeartbeats 6400000 in
theorem spec_parse (s : ByteArray) (w : World) (hs : s.size ≤ 1048576) :
    Calls Try.prog 163 #[.string s] w fun e w' => QAns s w e w' := by
  have HCUT := Lib.hid (fun w' => TabParse.spec_cut s w' hs)
  have HWL := Lib.hid (cuts_len s)
  have HAT := Lib.hid (fun k h h2 => cuts_at (s := s) (k := k) h h2)
  have HCO := Lib.hid (fun (h : pOk s = true) => cuts_ok h)
  have HBD := Lib.hid (pL_bd (s := s))
  have HOK := Lib.hid (And.intro (fun (h : qOk (pN s) (pL s) = false) => (show pOk s = false by unfold pOk; rw [h]; rfl)) (And.intro (fun (h : fmtQ (pN s) (pL s) ≠ s) => (show pOk s = false by unfold pOk; rw [decide_eq_false h, Bool.and_false])) (fun (h1 : qOk (pN s) (pL s) = true) (h2 : fmtQ (pN s) (pL s) = s) => (show pOk s = true from pOk_iff.2 ⟨h1, h2⟩))))
  have HIN := Lib.hid (show mx (allV (pL s)) = pN s from rfl)
  have hYES : ∀ (u : Value) (fp : List Nat) (w' : World), pOk s = true → atomsC.ow w' w.heap.size [u] (pL s) fp → fp.Nodup → Below w.heap.size w w' → QAns s w (.returned (.tuple #[.agg #[.int .i64 (pN s), u], .bool true])) w' := fun u fp w' h ho hn hb => QAns.yes h rfl rfl ho hn hb
  have HYES := Lib.hid hYES
  have HNO := Lib.hid (fun (w' : World) (h : pOk s = false) (hb : Below w.heap.size w w') => QAns.no (s := s) h hb)
  generalize hQA : QAns s w = QA at *
  generalize hOKs : pOk s = ok at *
  generalize hcs : cuts s = ws at *
  generalize hPL : pL s = L at *
  generalize hPN : pN s = N at *
  clear hYES hQA hOKs hcs hPL hPN hs
  go_enter Try.func163, Try.ntmps163
  go_wp2_with fail
  generalize hW : (w.alloc _).alloc _ = W
  obtain ⟨r0, r1, hz0, hb0⟩ := start2g w _ _ hW
  have HB0 := Lib.hid hb0
  have HR0 := Lib.hid (Loc2.of r0)
  have HQ0 := Lib.hid (Loc2.of r1)
  have HZ0 := Lib.hid hz0
  clear hW r0 r1 hb0 hz0
  refine (HCUT.out W).mono ?_
  rintro e w2 ⟨vw, fw, rfl, how, hnd, hb2⟩
  obtain ⟨aw, cw, rfl⟩ := Cd.ow_slice (c := strC) how
  have HB2 := Lib.hid (below_then HB0.out hb2)
  have HR2 := Lib.hid (HR0.out.later hb2)
  have HQ2 := Lib.hid (HQ0.out.later hb2)
  have HOW2 := Lib.hid (show strsC.rd w2 (fun b => b ∈ fw) _ ws from strsC.ow_rd how)
  have HFW := Lib.hid (fun b (h : b ∈ fw) => strsC.ow_lt how b h)
  have HZ2 := Lib.hid hb2.size
  clear how hnd hb2 HCUT
  go_wp2_with fail
  go_loopw [6] (fun i wr => ∃ (k : Nat) (sl : Value) (fp : List Nat), k ≤ ws.length ∧ k ≤ 5 ∧ i = .int .i64 k ∧ Loc2 wr (w.heap.size + 1) (.int .i64 (mx (allV (L.take k)))) sl ∧ atomsC.ow wr w2.heap.size [sl] (L.take k) fp ∧ fp.Nodup ∧ Cd.Touch [w.heap.size + 1] w2 wr) (fun i _ => ws.length - (intOf i).toNat)
  case atStart => exact ⟨0, _, [], Nat.zero_le _, by omega, rfl, HQ2.out, Cd.ow_nil _ _, by simp, Cd.Touch.refl _ _⟩
  case round =>
    obtain ⟨k, sl, fp, hk, hk5, rfl, hq, how, hnd, ht⟩ := hrel
    have HQ := Lib.hid hq
    have HOW := Lib.hid how
    have HND := Lib.hid hnd
    have HT := Lib.hid ht
    have HRW := Lib.hid (Cd.touched HOW2.out ht (fun b hb q => by
      rw [List.mem_singleton.1 hb] at q
      have h1 := (HFW.out _ q).1
      have h2 := HZ0.out
      omega))
    have HBW := Lib.hid (Cd.Touch.below HB2.out ht (fun b hb => by rw [List.mem_singleton.1 hb]; omega))
    have HRR := Lib.hid (HR2.out.touched ht (by simp))
    have hq0 := hq.c0
    have hq1 := hq.c1
    have hql := hq.lt
    clear hq how hnd ht
    by_cases hlt : k < ws.length
    case neg =>
      have ek : k = ws.length := by omega
      have eT : L.take k = L := List.take_of_length_le (by rw [← HWL.out]; omega)
      have hqf := HQ.out
      have hof := HOW.out
      rw [eT, HIN.out] at hqf
      rw [eT] at hof
      obtain ⟨asl, csl, rfl⟩ := Cd.ow_slice (c := atomC) hof
      have HQF := Lib.hid hqf
      have HOF := Lib.hid hof
      have HV := Lib.hid (spec_valid N (.slice asl L.length csl) L _ wr (atomsC.ow_rd hof))
      have q0 := hqf.c0
      have q1 := hqf.c1
      clear hq0 hq1 hqf hof
      subst ek
      go_wp2_with fail
      clear q0 q1
      refine HV.out.mono ?_
      rintro e w5 ⟨rfl, hb5⟩
      have HB5 := Lib.hid (below_then HBW.out hb5)
      have HR5 := Lib.hid (HRR.out.later hb5)
      have HQ5 := Lib.hid (HQF.out.later hb5)
      have HO5 := Lib.hid (Cd.ow_later HOF.out hb5)
      have HF := Lib.hid (QryFmt.spec_fmt N (.slice asl L.length csl) L _ w5 (atomsC.ow_rd HO5.out))
      clear hb5
      cases hv : qOk N L
      · have HP := Lib.hid (HOK.out.1 hv)
        have x0 := HR5.out.c0
        have x1 := HR5.out.c1
        have xf0 := HR5.out.f0
        have xf1 := HR5.out.f1
        clear hv
        go_wp2_with fail
        obtain ⟨k0, k1⟩ := set2 (w := w5) (k := w.heap.size) (x := .int .i64 0) (y := .slice none 0 0) x0 x1
        refine bodyPost_ret (v := .tuple #[.agg #[.int .i64 0, .slice none 0 0], .bool false]) (by simp [results, Try.results163, go_sem, k0, k1]) rfl (HNO.out _ HP.out ?_)
        exact (HB5.out.setCell (Nat.le_refl _) _).setCell (Nat.le_refl _) _
      have HV2 := Lib.hid hv
      have y0 := HQ5.out.c0
      have y1 := HQ5.out.c1
      clear hv
      go_wp2_with fail
      clear y0 y1
      refine HF.out.mono ?_
      rintro e w6 ⟨rfl, hb6⟩
      have HB6 := Lib.hid (below_then HB5.out hb6)
      have HQ6 := Lib.hid (HQ5.out.later hb6)
      have HR6 := Lib.hid (HR5.out.later hb6)
      have HO6 := Lib.hid (Cd.ow_later HO5.out hb6)
      have x0 := HR6.out.c0
      have x1 := HR6.out.c1
      have xf0 := HR6.out.f0
      have xf1 := HR6.out.f1
      clear hb6 HF
      by_cases hf : fmtQ N L = s
      · have HP := Lib.hid (HOK.out.2.2 HV2.out hf)
        have t1 : ((fmtQ N L).toList == s.toList) = true := by rw [hf]; simp
        have y0 := HQ6.out.c0
        have y1 := HQ6.out.c1
        have ykl := HQ6.out.lt
        clear hf HOK
        generalize fmtQ N L = F at *
        go_wp2_with fail
        obtain ⟨k0, k1⟩ := set2 (w := w6) (k := w.heap.size) (x := .int .i64 N) (y := .slice asl L.length csl) x0 x1
        have hfar : w.heap.size ∉ fp := fun q => by
          have h1 := (atomsC.ow_lt HOF.out _ q).1
          have h2 := HZ2.out
          have h3 := HZ0.out
          omega
        refine bodyPost_ret (v := .tuple #[.agg #[.int .i64 N, .slice asl L.length csl], .bool true]) (by simp [results, Try.results163, go_sem, k0, k1]) rfl (HYES.out _ fp _ HP.out (ow_setCell (ow_setCell (atomsC.ow_base HO6.out HB2.out.size) hfar _) hfar _) HND.out ?_)
        exact (HB6.out.setCell (Nat.le_refl _) _).setCell (Nat.le_refl _) _
      have HP := Lib.hid (HOK.out.2.1 hf)
      have t1 := str_ne hf
      clear hf HOK
      generalize fmtQ N L = F at *
      go_wp2_with fail
      obtain ⟨k0, k1⟩ := set2 (w := w6) (k := w.heap.size) (x := .int .i64 0) (y := .slice none 0 0) x0 x1
      refine bodyPost_ret (v := .tuple #[.agg #[.int .i64 0, .slice none 0 0], .bool false]) (by simp [results, Try.results163, go_sem, k0, k1]) rfl (HNO.out _ HP.out ?_)
      exact (HB6.out.setCell (Nat.le_refl _) _).setCell (Nat.le_refl _) _
    by_cases hk4 : (k : Int) ≤ 4
    case neg =>
      have HP := Lib.hid (show ok = false by
        cases hp : ok
        · rfl
        · have := (HCO.out hp).1; omega)
      have k5 : k = 5 := by omega
      have HQK := Lib.hid (show qOk (mx (allV (L.take k))) (L.take k) = false from decide_eq_false fun q => by
        have h1 := q.2.2.2.1
        rw [List.length_take] at h1
        have h2 := HWL.out
        omega)
      obtain ⟨asl, csl, rfl⟩ := Cd.ow_slice (c := atomC) HOW.out
      have HV := Lib.hid (spec_valid (mx (allV (L.take k))) (.slice asl (L.take k).length csl) (L.take k) _ wr (atomsC.ow_rd HOW.out))
      rw [HQK.out] at HV
      have q0 := HQ.out.c0
      have q1 := HQ.out.c1
      clear hq0 hq1 HOW HQ HQK k5
      generalize mx (allV (L.take k)) = mm at *
      generalize L.take k = LT at *
      go_wp2_with fail
      clear q0 q1
      refine HV.out.mono ?_
      rintro e w5 ⟨rfl, hb5⟩
      have HB5 := Lib.hid (below_then HBW.out hb5)
      have HR5 := Lib.hid (HRR.out.later hb5)
      clear hb5
      have x0 := HR5.out.c0
      have x1 := HR5.out.c1
      have xf0 := HR5.out.f0
      have xf1 := HR5.out.f1
      go_wp2_with fail
      obtain ⟨k0, k1⟩ := set2 (w := w5) (k := w.heap.size) (x := .int .i64 0) (y := .slice none 0 0) x0 x1
      refine bodyPost_ret (v := .tuple #[.agg #[.int .i64 0, .slice none 0 0], .bool false]) (by simp [results, Try.results163, go_sem, k0, k1]) rfl (HNO.out _ HP.out ?_)
      exact (HB5.out.setCell (Nat.le_refl _) _).setCell (Nat.le_refl _) _
    have hltL : k < L.length := by rw [← HWL.out]; exact hlt
    obtain ⟨b, off, cap', e1, hbB, hc⟩ := strs_at HRW.out hlt
    injection e1 with e1 e2 e3
    subst e1 e3
    have p1 : (0 : Int) ≤ (k : Int) := by omega
    have p2 : (k : Int) < (ws.length : Int) := by omega
    have HE := Lib.hid (HAT.out k hlt hltL)
    have HCK := Lib.hid (fun (h : ok = true) => (HCO.out h).2 _ (List.getElem_mem hlt))
    have HLT := Lib.hid hlt
    have HNX := Lib.hid (show mx (allV (L.take (k + 1))) = mxF (mx (allV (L.take k))) L[k].2 by unfold mx; rw [allV_succ hltL, mxF_app])
    have HTK := Lib.hid (show L.take (k + 1) = L.take k ++ [L[k]] from List.take_succ_eq_append_getElem hltL)
    have HLK := Lib.hid (show (L.take k).length + 1 ≤ 1000000000 by rw [List.length_take]; omega)
    have HPB := Lib.hid (mx_bd (l := allV (L.take k)) (fun x hx => by
      unfold allV at hx
      obtain ⟨m, hm, hxm⟩ := List.mem_flatten.1 hx
      obtain ⟨A, hA, rfl⟩ := List.mem_map.1 hm
      exact HBD.out A (List.mem_of_mem_take hA) x hxm))
    generalize mx (allV (L.take k)) = m0 at *
    generalize hx : ws[k] = x at *
    have HXE := Lib.hid hx
    clear hx
    by_cases hx4 : (x.size : Int) < 4
    · have HP := Lib.hid (show ok = false by
        cases hp : ok
        · rfl
        · have := HCK.out hp; omega)
      have x0 := HRR.out.c0
      have x1 := HRR.out.c1
      have xf0 := HRR.out.f0
      have xf1 := HRR.out.f1
      go_wp2_with fail
      obtain ⟨k0, k1⟩ := set2 (w := wr) (k := w.heap.size) (x := .int .i64 0) (y := .slice none 0 0) x0 x1
      refine bodyPost_ret (v := .tuple #[.agg #[.int .i64 0, .slice none 0 0], .bool false]) (by simp [results, Try.results163, go_sem, k0, k1]) rfl (HNO.out _ HP.out ?_)
      exact (HBW.out.setCell (Nat.le_refl _) _).setCell (Nat.le_refl _) _
    by_cases hx6 : (6 : Int) < (x.size : Int)
    · have HP := Lib.hid (show ok = false by
        cases hp : ok
        · rfl
        · have := HCK.out hp; omega)
      have x0 := HRR.out.c0
      have x1 := HRR.out.c1
      have xf0 := HRR.out.f0
      have xf1 := HRR.out.f1
      go_wp2_with fail
      obtain ⟨k0, k1⟩ := set2 (w := wr) (k := w.heap.size) (x := .int .i64 0) (y := .slice none 0 0) x0 x1
      refine bodyPost_ret (v := .tuple #[.agg #[.int .i64 0, .slice none 0 0], .bool false]) (by simp [results, Try.results163, go_sem, k0, k1]) rfl (HNO.out _ HP.out ?_)
      exact (HBW.out.setCell (Nat.le_refl _) _).setCell (Nat.le_refl _) _
    have x4 : 4 ≤ x.size ∧ x.size ≤ 6 := by omega
    have X4 := Lib.hid x4
    have s1 : (1 : Int) ≤ (x.size : Int) := by omega
    go_wp2_with fail
    generalize hW6 : wr.alloc _ = W6
    obtain ⟨ra, hz6, hb6⟩ := start1 wr _ hW6
    have HA6 := Lib.hid (Loc2.of ra)
    have HQ6 := Lib.hid (HQ.out.later hb6)
    have HOW6 := Lib.hid (Cd.ow_later HOW.out hb6)
    have HT6 := Lib.hid (HT.out.trans (Cd.Touch.of_below hb6))
    have HRW6 := Lib.hid (Cd.later HRW.out hb6)
    have HZ6 := Lib.hid hz6
    have HKS := Lib.hid (show w.heap.size + 1 < w2.heap.size ∧ w2.heap.size ≤ wr.heap.size from ⟨by have := HZ0.out; have := HZ2.out; omega, HT.out.size⟩)
    have HFA := Lib.hid (fun b (h : b ∈ fp) => atomsC.ow_lt HOW.out b h)
    have HB6 := Lib.hid (below_then HBW.out hb6)
    have HR6 := Lib.hid (HRR.out.later hb6)
    have HNM := Lib.hid (show x.extract 0 1 = (L[k]).1 by
      rw [HE.out, TabParse.extract_ba]
      simp [atS, ba])
    have HNZ := Lib.hid (show (x.extract 0 1).size ≤ maxLen by rw [ByteArray.size_extract]; unfold maxLen; have := X4.out; omega)
    have HVS := Lib.hid (show vsT x.data.toList (x.size - 1) = (L[k]).2 by
      rw [HE.out]
      have h4 : x.data.toList.length = x.size := Array.length_toList
      rw [← h4, vsT_all]
      rfl)
    clear hW6 ra hz6 hb6 hc hbB hq0 hq1 hql x4 hx4 hx6
    generalize wr.heap.size = ka at *
    have HXL := Lib.hid (show x.data.toList.length = x.size from Array.length_toList)
    generalize hX : x.data.toList = X at *
    have HX := Lib.hid hX
    generalize x.extract 0 1 = NM at *
    clear hX
    go_loopw [8] (fun i wr => ∃ (t : Nat) (sv : Value) (fv : List Nat), 2 ≤ t ∧ t ≤ x.size - 1 ∧ i = .int .i64 t ∧ Loc2 wr (w.heap.size + 1) (.int .i64 (mxF m0 (vsT X t))) sl ∧ Loc2 wr ka (.string NM) sv ∧ rowC.ow wr W6.heap.size [sv] (vsT X t) fv ∧ fv.Nodup ∧ Cd.Touch [w.heap.size + 1, ka] W6 wr) (fun i _ => x.size - (intOf i).toNat)
    case atStart => exact ⟨2, _, [], Nat.le_refl _, by have := X4.out; omega, rfl, by rw [vsT_two]; exact HQ6.out, HA6.out, by rw [vsT_two]; exact Cd.ow_nil _ _, by simp, Cd.Touch.refl _ _⟩
    case round =>
      obtain ⟨t, sv, fv, ht2, htl, rfl, hq, ha, how, hnd, ht⟩ := hrel
      have HQJ := Lib.hid hq
      have HAJ := Lib.hid ha
      have HOJ := Lib.hid how
      have HNJ := Lib.hid hnd
      have HTJ := Lib.hid ht
      have hnw : ∀ b ∈ [w.heap.size + 1, ka], b ∉ fw := fun b hb q => by
        have h1 := HFW.out _ q
        have h2 := HKS.out
        have h3 := HZ0.out
        rcases List.mem_cons.1 hb with r | r
        · omega
        · rw [List.mem_singleton.1 r] at h1; omega
      have HRJ := Lib.hid (Cd.touched HRW6.out ht hnw)
      obtain ⟨b', off', cap', e1, hbB, hc⟩ := strs_at HRJ.out HLT.out
      simp only [Value.slice.injEq, Option.some.injEq, Addr.mk.injEq, and_true, true_and] at e1
      obtain ⟨⟨rfl, rfl⟩, rfl⟩ := e1
      replace hc := (show wr.cell? ⟨b, off + k, none⟩ = some (.string x) from by rw [← HXE.out]; exact hc)
      have p3 : (k : Int) < (ws.length : Int) := by have := HLT.out; omega
      have p0 : (0 : Int) ≤ (k : Int) := by omega
      have s2 : IntKind.i64.wrap ((x.size : Int) - 1) = (x.size : Int) - 1 := by rw [IntKind.wrap_i64]; have := X4.out; omega
      clear hq ha how hnd ht
      by_cases htt : t < x.size - 1
      · have t1 : (t : Int) < (x.size : Int) - 1 := by omega
        have htX : t < X.length := by rw [HXL.out]; omega
        have HS1 := Lib.hid (vsT_succ (x := X) ht2 htX)
        have h1b : x.extract t (t + 1) = ⟨#[X[t]]⟩ := by
          rw [one_byte (by omega)]
          congr 2
          simp only [HX.out]
        have H1B := Lib.hid h1b
        clear h1b
        generalize hBt : X[t] = B at *
        have HTT := Lib.hid htt
        have HT2 := Lib.hid ht2
        have HPT := Lib.hid (vsT_bd (x := X) (t := t))
        have HVL := Lib.hid (show (vsT X t).length ≤ 6 by have := vsT_len X t; rw [HXL.out] at this; have := X4.out; omega)
        clear hBt htX htl htt
        go_wp2_with fail
        generalize vsT X t = vt at *
        go_loopw [9] (fun i wr => ∃ (v : Nat) (sv : Value) (fv : List Nat), v ≤ 4 ∧ i = .int .i64 v ∧ Loc2 wr (w.heap.size + 1) (.int .i64 (mxF m0 (vt ++ pVk B v))) sl ∧ Loc2 wr ka (.string NM) sv ∧ rowC.ow wr W6.heap.size [sv] (vt ++ pVk B v) fv ∧ fv.Nodup ∧ Cd.Touch [w.heap.size + 1, ka] W6 wr) (fun i _ => 4 - (intOf i).toNat)
        case atStart => exact ⟨0, sv, fv, by omega, rfl, by rw [show pVk B 0 = [] from rfl, List.append_nil]; exact HQJ.out, HAJ.out, by rw [show pVk B 0 = [] from rfl, List.append_nil]; exact HOJ.out, HNJ.out, HTJ.out⟩
        case round =>
          obtain ⟨v, sv, fv, hv4, rfl, hq, ha, how, hnd, ht⟩ := hrel
          have HQV := Lib.hid hq
          have HAV := Lib.hid ha
          have HOV := Lib.hid how
          have HNV := Lib.hid hnd
          have HTV := Lib.hid ht
          have HRV := Lib.hid (Cd.touched HRW6.out ht hnw)
          obtain ⟨b', off', cap', e1, hbB, hc⟩ := strs_at HRV.out HLT.out
          simp only [Value.slice.injEq, Option.some.injEq, Addr.mk.injEq, and_true, true_and] at e1
          obtain ⟨⟨rfl, rfl⟩, rfl⟩ := e1
          replace hc := (show wr.cell? ⟨b, off + k, none⟩ = some (.string x) from by rw [← HXE.out]; exact hc)
          clear hq ha how hnd ht
          by_cases hv : v < 4
          · have v0 : (0 : Int) ≤ (v : Int) := by omega
            have v1 : (v : Int) < 4 := by omega
            have i1 : (0 : Int) ≤ (t : Int) := by omega
            have i2 : (t : Int) + 1 ≤ (x.size : Int) := by omega
            have i3 : (t : Int) < 6 := by have := X4.out; omega
            have i4 : ((t : Int) + 1).toNat = t + 1 := by omega
            have HV4 := Lib.hid hv
            have hvn := fun q => (QrySpec.spec_name (v : Int) (wr.drewN q)).mono fun _ _ h => (show _ ∧ _ from ⟨h.1, h.2.symm⟩)
            have hvm : vnm (v : Int) = ⟨#[vb (v : Int)]⟩ := QryFmt.vnm_in ⟨v0, v1⟩
            by_cases hm : vb (v : Int) = B
            · have HPK := Lib.hid (pVk_yes hm)
              have t5 : ((vnm (v : Int)).toList == (x.extract t (t + 1)).toList) = true := by rw [hvm, hm, H1B.out]; simp
              have HVN := Lib.hid (show ∀ q, Calls Try.prog 170 #[.int .i64 (v : Int)] (wr.drewN q) fun e w' => e = .returned (.string (vnm (v : Int))) ∧ w' = wr.drewN q from hvn)
              have HMX := Lib.hid (show mxF m0 (vt ++ pVk B (v + 1)) = max (mxF m0 (vt ++ pVk B v)) ((v : Int) + 1) by
                rw [HPK.out, ← List.append_assoc, mxF_app]
                rfl)
              have HPA := Lib.hid (show vt ++ pVk B (v + 1) = (vt ++ pVk B v) ++ [(v : Int)] by rw [HPK.out, List.append_assoc])
              have hmb : 0 ≤ mxF m0 (vt ++ pVk B v) ∧ mxF m0 (vt ++ pVk B v) ≤ 4 :=
                ⟨Int.le_trans HPB.out.1 (mxF_ge _ _), mxF_le _ _ _ HPB.out.2 fun y hy => by
                  rcases List.mem_append.1 hy with q | q
                  · have := HPT.out y q; omega
                  · have := pVk_bd (b := B) (v := v) (by omega) y q; omega⟩
              have HLEN := Lib.hid (show (vt ++ pVk B v).length + 1 ≤ 1000000000000 by
                rw [List.length_append]
                have h1 := HVL.out
                have h2 := pVk_len B v
                omega)
              obtain ⟨as_, cs_, rfl⟩ := Cd.ow_slice HOV.out
              have HFV := Lib.hid (fun b (h : b ∈ fv) => (rowC.ow_lt HOV.out b h).1)
              have mb1 := hmb.1
              have mb2 := hmb.2
              clear hm hvm hvn hmb
              generalize vnm (v : Int) = V at *
              generalize mxF m0 (vt ++ pVk B v) = m at *
              generalize vt ++ pVk B v = cur at *
              go_wp2
              go_quiet (first | (go_at_call 170; refine Calls.quiet_of_same (HVN.out _)))
              generalize hwd : wr.drewN nq = wd
              have hbd : Below wr.heap.size wr wd := by rw [← hwd]; exact QryImp.below_drewN (Below.refl _ wr)
              have HQD := Lib.hid (HQV.out.later hbd)
              have HAD := Lib.hid (HAV.out.later hbd)
              have HOD := Lib.hid (Cd.ow_later HOV.out hbd)
              have HTD := Lib.hid (HTV.out.trans (Cd.Touch.of_below hbd))
              have HDS := Lib.hid (Nat.le_trans HTV.out.size hbd.size)
              clear hwd hbd hc hbB
              have g1 := HAD.out.c1
              have hAl := below_alloc wd (.cells #[.int .i64 (v : Int)] 3)
              have HAL := Lib.hid (And.intro (Cd.ow_later HOD.out hAl) (show (wd.alloc (.cells #[.int .i64 (v : Int)] 3)).cell? ⟨wd.heap.size, 0, none⟩ = some (.int .i64 (v : Int)) by simp))
              have HA3 := Lib.hid (show Cd.int.ow (wd.alloc (.cells #[.int .i64 (v : Int)] 3)) W6.heap.size [.int .i64 (v : Int)] (v : Int) [] from ⟨rfl, ⟨by omega, by omega⟩, rfl⟩)
              have HAB := Lib.hid (Nat.le_trans HDS.out hAl.size)
              have HQE := Lib.hid (HQD.out.later hAl)
              have HAE := Lib.hid (HAD.out.later hAl)
              have HTE := Lib.hid (HTD.out.trans (Cd.Touch.of_below hAl))
              clear hAl
              go_wp2_with (first | (at_builtin; refine Cd.wpList_appendE (c := Cd.int) rfl rfl (.tmp 70) (.tmp 72) 24 rfl W6.heap.size 3 (.int .i64 0) 8 Try.underlying24 info_i64 rfl (by decide) _ _ _ rfl HAL.out.1 HNV.out _ _ rfl HAL.out.2 _ _ HA3.out (by simp) (by simp) HLEN.out HAB.out ?_))
              intro g capn w3 fp3 ho3 hn3 hs3 ht3
              have hkq : w.heap.size + 1 ∉ fv := fun q => by have h1 := HFV.out _ q; have h2 := HKS.out; have h3 := HZ6.out; omega
              have hka : ka ∉ fv := fun q => by have h1 := HFV.out _ q; have h3 := HZ6.out; omega
              have HQ3 := Lib.hid (HQE.out.touched ht3 hkq)
              have HK3 := Lib.hid (HAE.out.touched ht3 hka)
              have HT3 := Lib.hid (touch_old HTE.out ht3 (fun y hy => .inr (HFV.out y hy)))
              have HO3 := Lib.hid (show rowC.ow w3 W6.heap.size _ (cur ++ [(v : Int)]) _ from ho3)
              have HF3 := Lib.hid (fun b (h : b ∈ fp3) => (rowC.ow_lt ho3 b h).1)
              have hne : ¬ w.heap.size + 1 = ka := by have := HKS.out; omega
              have hne2 : ¬ ka = w.heap.size + 1 := fun q => hne q.symm
              have HNE := Lib.hid hne
              have HN3 := Lib.hid hn3
              clear ho3 hs3 ht3 hkq hka g1 hn3
              have q0 := HQ3.out.c0
              have qf0 := HQ3.out.f0
              have a1 := HK3.out.c1
              have af1 := HK3.out.f1
              by_cases hmz : m < (v : Int) + 1
              · have HM := Lib.hid (show max m ((v : Int) + 1) = (v : Int) + 1 by omega)
                go_wp2_with fail
                go_roundw
                case rel => exact ⟨v + 1, _, fp3, by have := HV4.out; omega, by go_num, by rw [HMX.out, HM.out]; exact loc2_set0 (HQ3.out.set_far (fun q => HNE.out q.symm) _) _, (loc2_set1 HK3.out _).set_far (fun q => HNE.out q) _, by rw [HPA.out]; exact ow_setCell (ow_setCell HO3.out (fun q => by have h1 := HF3.out _ q; have h2 := HZ6.out; simp only at h1; omega) _) (fun q => by have h1 := HF3.out _ q; have h2 := HZ6.out; have h3 := HKS.out; simp only at h1; omega) _, HN3.out, touch_old (touch_old HT3.out (touch_set _) (fun y hy => .inl (by rw [List.mem_singleton.1 hy]; simp))) (touch_set _) (fun y hy => .inl (by rw [List.mem_singleton.1 hy]; simp))⟩
                case measure => have := HV4.out; simp [intOf]; omega
              · have HM := Lib.hid (show max m ((v : Int) + 1) = m by omega)
                go_wp2_with fail
                go_roundw
                case rel => exact ⟨v + 1, _, fp3, by have := HV4.out; omega, by go_num, by rw [HMX.out, HM.out]; exact loc2_set0 (HQ3.out.set_far (fun q => HNE.out q.symm) _) _, (loc2_set1 HK3.out _).set_far (fun q => HNE.out q) _, by rw [HPA.out]; exact ow_setCell (ow_setCell HO3.out (fun q => by have h1 := HF3.out _ q; have h2 := HZ6.out; simp only at h1; omega) _) (fun q => by have h1 := HF3.out _ q; have h2 := HZ6.out; have h3 := HKS.out; simp only at h1; omega) _, HN3.out, touch_old (touch_old HT3.out (touch_set _) (fun y hy => .inl (by rw [List.mem_singleton.1 hy]; simp))) (touch_set _) (fun y hy => .inl (by rw [List.mem_singleton.1 hy]; simp))⟩
                case measure => have := HV4.out; simp [intOf]; omega
            · have HPK := Lib.hid (pVk_no hm)
              have t5 := str_ne (a := vnm (v : Int)) (b := x.extract t (t + 1)) (by
                rw [hvm, H1B.out]
                intro q
                apply hm
                simpa using q)
              have HVN := Lib.hid (show ∀ q, Calls Try.prog 170 #[.int .i64 (v : Int)] (wr.drewN q) fun e w' => e = .returned (.string (vnm (v : Int))) ∧ w' = wr.drewN q from hvn)
              clear hm hvm hvn
              generalize vnm (v : Int) = V at *
              go_wp2
              go_quiet (first | (go_at_call 170; refine Calls.quiet_of_same (HVN.out _)))
              go_wp2
              go_roundw
              case rel => exact ⟨v + 1, sv, fv, by have := HV4.out; omega, by go_num, by rw [HPK.out]; exact HQV.out.later (QryImp.below_drewN (Below.refl _ wr)), HAV.out.later (QryImp.below_drewN (Below.refl _ wr)), by rw [HPK.out]; exact Cd.ow_later HOV.out (QryImp.below_drewN (Below.refl _ wr)), HNV.out, HTV.out.trans (Cd.Touch.of_below (QryImp.below_drewN (Below.refl _ wr)))⟩
              case measure => have := HV4.out; simp [intOf]; omega
          · have ev : v = 4 := by omega
            subst ev
            have t6 : (t : Int) < 6 := by have := X4.out; have := HTT.out; omega
            go_wp2_with fail
            go_roundw
            case rel => exact ⟨t + 1, sv, fv, by have := HT2.out; omega, by have := HTT.out; omega, by go_num, by rw [HS1.out, ← pVk_all]; exact HQV.out, HAV.out, by rw [HS1.out, ← pVk_all]; exact HOV.out, HNV.out, HTV.out⟩
            case measure => have := HTT.out; simp [intOf]; omega
      · have et : t = x.size - 1 := by omega
        have t1 : ¬ (t : Int) < (x.size : Int) - 1 := by omega
        have HAK := Lib.hid (show (NM, vsT X t) = L[k] from Prod.ext HNM.out (by rw [et]; exact HVS.out))
        have HM2 := Lib.hid (show mxF m0 (vsT X t) = mxF m0 L[k].2 by rw [et, HVS.out])
        obtain ⟨asl, csl, rfl⟩ := Cd.ow_slice (c := atomC) HOW6.out
        obtain ⟨av, cv, rfl⟩ := Cd.ow_slice HOJ.out
        have hfar : ∀ b ∈ fp, b ∉ [w.heap.size + 1, ka] := fun b hb q => by
          have h1 := HFA.out b hb
          have h2 := HKS.out
          rcases List.mem_cons.1 q with r | r
          · omega
          · rw [List.mem_singleton.1 r] at h1; omega
        have hOA := Cd.ow_touched HOW6.out HTJ.out hfar
        generalize hvt : vsT X t = vt at *
        have hAl := below_alloc wr (.cells #[.string NM, .slice av vt.length cv] 130)
        have HOA := Lib.hid (Cd.ow_later hOA hAl)
        have HAT2 := Lib.hid (at2 (row_alloc wr (.cells #[.string NM, .slice av vt.length cv] 130)))
        have HOT := Lib.hid (atom_ow (nm := NM) (rowC.ow_base (Cd.ow_later HOJ.out hAl) (show w2.heap.size ≤ W6.heap.size by have := HKS.out; have := HZ6.out; omega)) HNZ.out)
        have HFV := Lib.hid (show ∀ b ∈ fv, b ∉ fp from fun b hb q => by
          have h1 := (rowC.ow_lt HOJ.out b hb).1
          have h2 := (HFA.out b q).2
          have h3 := HZ6.out
          omega)
        have HBS := Lib.hid (show w2.heap.size ≤ (wr.alloc (.cells #[.string NM, .slice av vt.length cv] 130)).heap.size by
          have h1 := hAl.size
          have h2 := HTJ.out.size
          have h3 := HKS.out
          have h4 := HZ6.out
          omega)
        have HQE := Lib.hid (HQJ.out.later hAl)
        have HTE := Lib.hid (HTJ.out.trans (Cd.Touch.of_below hAl))
        have g0 := HQJ.out.c1
        have a0 := HAJ.out.c0
        have a1 := HAJ.out.c1
        clear hAl hOA
        generalize L.take k = LT at *
        go_wp2_with (first | (at_builtin; refine Cd.wpList_appendN (c := atomC) rfl (.tmp 82) (.tmp 84) 58 rfl w2.heap.size 130 (.agg #[.string ⟨#[]⟩, .slice none 0 0]) 2 40 rfl Try.underlying58 info_atom rfl (by decide) _ LT fp rfl HOA.out HND.out wr.heap.size _ rfl HAT2.out (NM, vt) fv HOT.out HNJ.out HFV.out HLK.out HBS.out ?_))
        intro g capn w3 fp3 ho3 hn3 hs3 ht3
        have hkq : w.heap.size + 1 ∉ fp := fun q => by have h1 := (HFA.out _ q).1; have h2 := HKS.out; omega
        have HQ3 := Lib.hid (HQE.out.touched ht3 hkq)
        have HTF := Lib.hid (touch_old (touch_old HT6.out HTE.out (fun y hy => by
          rcases List.mem_cons.1 hy with r | r
          · exact .inl (by rw [r]; simp)
          · rw [List.mem_singleton.1 r]; exact .inr HKS.out.2)) ht3 (fun y hy => .inr (HFA.out y hy).1))
        have HF3 := Lib.hid (fun b (h : b ∈ fp3) => (atomsC.ow_lt (show atomsC.ow w3 w2.heap.size _ (LT ++ [(NM, vt)]) fp3 from ho3) b h).1)
        have HO3 := Lib.hid (show atomsC.ow w3 w2.heap.size _ (LT ++ [(NM, vt)]) fp3 from ho3)
        have HN3 := Lib.hid hn3
        clear ho3 hn3 hs3 ht3 g0 a0 a1
        have q1 := HQ3.out.c1
        have qf1 := HQ3.out.f1
        have k6 : (k : Int) < 5 := by omega
        go_wp2_with fail
        go_roundw
        case rel => exact ⟨k + 1, _, fp3, by have := HLT.out; omega, by omega, by go_num, by rw [HNX.out, ← HM2.out]; exact loc2_set1 HQ3.out _, by rw [HTK.out, ← HAK.out]; exact ow_setCell HO3.out (fun q => by have h1 := HF3.out _ q; have h2 := HKS.out; simp only at h1; omega) _, HN3.out, touch_old HTF.out (touch_set _) (fun y hy => .inl hy)⟩
        case measure => have := HLT.out; simp [intOf]; omega
end Go.Proofs.Ytklamhnecncenaa.QryPar

namespace Go.Proofs.Ytklamhnecncenaa.IntsWalk
open Go Go.RowKit Byt Ints IntsLaw

/-- v's own block, if it has one, lies from lo on and below hi. -/
def Bk (v : Value) (lo hi : Nat) : Prop := ∀ k, v.ownBlock = some k → lo ≤ k ∧ k < hi
theorem bk_of {w : World} {base : Nat} {e : TypeId} {v : Value} {l : List Int} (h : OwnI w base e v l) : Bk v base w.heap.size := fun k hk => World.ownsRow.lt h k hk
theorem apart {u v : Value} {a b c d : Nat} (hu : Bk u a b) (hv : Bk v c d) (h : b ≤ c ∨ d ≤ a) : u.ownBlock = none ∨ u.ownBlock ≠ v.ownBlock := by
  cases e : u.ownBlock with
  | none => exact .inl rfl
  | some k =>
    refine .inr fun q => ?_
    have h1 := hu k e
    have h2 := hv k q.symm
    omega
theorem kept_mark {w w' : World} {base : Nat} {e : TypeId} {u v : Value} {l : List Int} (h : OwnI w base e u l) (hg : w.grownBy w' v.ownBlock) (hne : u.ownBlock = none ∨ u.ownBlock ≠ v.ownBlock) : OwnI w' base e u l :=
  World.ownsRow.kept h hg hne
theorem below_mark {w0 w w' : World} {v : Value} {lo hi : Nat} (h : Below w0.heap.size w0 w) (hg : w.grownBy w' v.ownBlock) (hb : Bk v lo hi) (hlo : w0.heap.size ≤ lo) : Below w0.heap.size w0 w' :=
  h.grown hg h.size (fun k hk => Nat.le_trans hlo (hb k hk).1)
theorem below_then {w a b : World} (h : Below w.heap.size w a) (k : Below a.heap.size a b) : Below w.heap.size w b := h.trans (k.mono h.size)
theorem dec_same (l : List Int) : decide (l = l) = true := decide_eq_true rfl
end Go.Proofs.Ytklamhnecncenaa.IntsWalk

namespace Go.Proofs.Ytklamhnecncenaa.Draw
open Go Go.RowKit Byt

/-- Block c is a cursor over v, which has l's length. -/
def Cur (w : World) (c : Nat) (v : Value) (l : List UInt8) : Prop :=
  ∃ (i : Nat) (h : Int), i ≤ l.length ∧ w.heap[c]? = some (.cells #[v, .int .i64 i, .int .i64 h] 116 (0, 0))

theorem Cur.kept {w w' : World} {c : Nat} {v : Value} {l : List UInt8} {row : Option Nat} (h : Cur w c v l) (hg : w.grownBy w' row) (hne : some c ≠ row) : Cur w' c v l := by
  obtain ⟨i, x, hi, hh⟩ := h
  exact ⟨i, x, hi, by rw [hg.block c (Array.getElem?_eq_some_iff.1 hh).1 hne]; exact hh⟩

theorem cur_size {w : World} {c : Nat} {v : Value} {l : List UInt8} (h : Cur w c v l) : c < w.heap.size := by
  obtain ⟨i, x, hi, hh⟩ := h
  exact (Array.getElem?_eq_some_iff.1 hh).1

theorem cur_set {w : World} {c j : Nat} {cs : Array Value} {T : TypeId} {u : Value} (h : w.heap[c]? = some (.cells cs T (0, 0))) :
    (w.setCell ⟨c, j, none⟩ u).heap[c]? = some (.cells (cs.setIfInBounds j u) T (0, 0)) ∧ w.grownBy (w.setCell ⟨c, j, none⟩ u) (some c) :=
  ⟨heap_setCell_same w c j cs T u h, ⟨rfl, rfl, rfl, by simp, fun k _ hk => heap_setCell_other w ⟨c, j, none⟩ k u (fun e => hk (by simp [e]))⟩⟩

theorem grown_trans {a b c : World} {row : Option Nat} (h : a.grownBy b row) (k : b.grownBy c row) : a.grownBy c row :=
  ⟨k.os.trans h.os, k.tape.trans h.tape, k.output.trans h.output, Nat.le_trans h.size k.size, fun i hi hne => (k.block i (Nat.lt_of_lt_of_le hi h.size) hne).trans (h.block i hi hne)⟩

theorem info_u8 : (Try.prog.info? 5).map (fun i => (i.zero, i.size, i.bytes)) = some (some (.int .u8 0), 1, 1) := by kernel_rfl

theorem below_of {w w' : World} {c B : Nat} (h : w.grownBy w' (some c)) (hB : B ≤ c) (hc : c < w.heap.size) : Below B w w' :=
  ⟨h.os, h.tape, h.output, h.size, fun k hk => h.block k (by omega) (by intro q; injection q with q; omega)⟩

theorem low8 (x : Int) : ∃ n : Nat, bits .and .i64 x 255 = (n : Int) ∧ n < 256 := by
  have h : bits .and .i64 x 255 = IntKind.i64.wrap (((BitVec.ofInt 64 x &&& BitVec.ofInt 64 255).toNat : Nat) : Int) := rfl
  have hb : (BitVec.ofInt 64 x &&& BitVec.ofInt 64 255).toNat < 256 := by
    rw [BitVec.toNat_and]
    have : (BitVec.ofInt 64 255).toNat = 255 := by decide
    rw [this]
    exact Nat.lt_of_le_of_lt Nat.and_le_right (by decide)
  refine ⟨_, ?_, hb⟩
  rw [h, IntKind.wrap_i64]
  omega

set_option maxRecDepth 100000 in
set_option maxHeartbeats 800000 in
theorem byte_any (c : Nat) (v : Value) (l : List UInt8) (B : Nat) (w : World) (hc : Cur w c v l) (hr : Reads w v l B) (hB : B ≤ c) :
    Calls Try.prog 121 #[.pointer (some ⟨c, 0, none⟩)] w fun e w' => ∃ x : Nat, e = .returned (.int .i64 x) ∧ x < 256 ∧ Cur w' c v l ∧ w.grownBy w' (some c) := by
  obtain ⟨i, h, hi, hh⟩ := hc
  obtain ⟨a, cap, rfl, hl, hcase⟩ := hr
  have c0 := cell_of_row w c 0 _ _ _ hh
  have c1 := cell_of_row w c 1 _ _ _ hh
  have c2 := cell_of_row w c 2 _ _ _ hh
  have f1 := frozen_of_row w c 1 _ _ hh
  have f2 := frozen_of_row w c 2 _ _ hh
  simp only [List.getElem?_toArray, List.getElem?_cons_zero, List.getElem?_cons_succ] at c0 c1 c2
  by_cases hlt : i < l.length
  · rcases hcase with hnil | ⟨b, off, rfl, hbB, hcell⟩
    · subst hnil; simp at hlt
    have cb := hcell i hlt
    go_enter Try.func121, Try.ntmps121
    go_wp2
    generalize wrap64 (wrap64 (h * 6364136223846793005) + 1442695040888963407) = h1
    obtain ⟨hh1, g1⟩ := cur_set (j := 2) (u := .int .i64 h1) hh
    have cb1 := (g1.cell cb (by intro q; injection q with q; simp only at q; omega))
    generalize w.setCell ⟨c, 2, none⟩ (.int .i64 h1) = w1 at *
    have G1 := Lib.hid g1
    clear g1 c0 c1 c2 f1 f2 cb hh hcell
    have c0 := cell_of_row w1 c 0 _ _ _ hh1
    have c1 := cell_of_row w1 c 1 _ _ _ hh1
    have c2 := cell_of_row w1 c 2 _ _ _ hh1
    have f1 := frozen_of_row w1 c 1 _ _ hh1
    simp only [List.setIfInBounds_toArray, List.set_cons_succ, List.set_cons_zero, List.getElem?_toArray, List.getElem?_cons_zero, List.getElem?_cons_succ] at c0 c1 c2
    have HH := Lib.hid hh1
    clear hh1
    go_quiet (fail)
    go_wp2
    obtain ⟨x, hx, hx256⟩ := low8 (bits BinOp.xor IntKind.i64 (h1 / 8589934592) (h1 / 35184372088832))
    rw [hx]
    clear hx
    have p1 : (0 : Int) ≤ (i : Int) := by omega
    have p2 : (i : Int) < (l.length : Int) := by omega
    go_quiet (fail)
    go_wp2
    go_quiet (fail)
    go_wp2
    go_ret
    obtain ⟨y, hy, hy2⟩ := low8 (wrap64 ((x : Int) + wrap64 (l[i].toNat : Int)))
    refine ⟨y, ret_int hy, hy2, ?_, ?_⟩
    · refine ⟨i + 1, h1, hlt, ?_⟩
      have := (cur_set (j := 1) (u := .int .i64 ((i : Int) + 1)) HH.out).1
      show (w1.setCell _ _).heap[c]? = _
      simpa using this
    · have k := (cur_set (j := 1) (u := .int .i64 ((i : Int) + 1)) HH.out).2
      exact grown_trans G1.out ⟨k.os, k.tape, k.output, k.size, k.block⟩
  · go_enter Try.func121, Try.ntmps121
    go_wp2
    generalize wrap64 (wrap64 (h * 6364136223846793005) + 1442695040888963407) = h1
    obtain ⟨hh1, g1⟩ := cur_set (j := 2) (u := .int .i64 h1) hh
    generalize w.setCell ⟨c, 2, none⟩ (.int .i64 h1) = w1 at *
    have G1 := Lib.hid g1
    clear g1 c0 c1 c2 f1 f2 hh hcase
    have c0 := cell_of_row w1 c 0 _ _ _ hh1
    have c1 := cell_of_row w1 c 1 _ _ _ hh1
    have c2 := cell_of_row w1 c 2 _ _ _ hh1
    simp only [List.setIfInBounds_toArray, List.set_cons_succ, List.set_cons_zero, List.getElem?_toArray, List.getElem?_cons_zero, List.getElem?_cons_succ] at c0 c1 c2
    have HH := Lib.hid hh1
    clear hh1
    go_quiet (fail)
    go_wp2
    obtain ⟨x, hx, hx256⟩ := low8 (bits BinOp.xor IntKind.i64 (h1 / 8589934592) (h1 / 35184372088832))
    rw [hx]
    clear hx
    go_quiet (fail)
    go_wp2
    go_ret
    refine ⟨x, rfl, hx256, ⟨i, h1, hi, ?_⟩, ?_⟩
    · have := HH.out
      simpa using this
    · exact grown_trans G1.out ⟨rfl, rfl, rfl, Nat.le_refl _, fun _ _ _ => rfl⟩

set_option maxRecDepth 100000 in
set_option maxHeartbeats 800000 in
/-- A draw below n: from 0 to n - 1; 0 where n is not positive. -/
theorem below_any (n : Int) (c : Nat) (v : Value) (l : List UInt8) (B : Nat) (w : World) (hc : Cur w c v l) (hr : Reads w v l B) (hB : B ≤ c) :
    Calls Try.prog 79 #[.pointer (some ⟨c, 0, none⟩), .int .i64 n] w fun e w' => ∃ x : Int, e = .returned (.int .i64 x) ∧ 0 ≤ x ∧ (0 < n → x < n) ∧ Cur w' c v l ∧ w.grownBy w' (some c) := by
  by_cases h0 : n ≤ 0
  · go_enter Try.func79, Try.ntmps79
    go_wp2
    go_ret
    exact ⟨0, rfl, Int.le_refl _, fun h => by omega, hc, ⟨rfl, rfl, rfl, Nat.le_refl _, fun _ _ _ => rfl⟩⟩
  · have hnp : 0 < n := by omega
    by_cases h256 : n ≤ 256
    · have hby := Lib.hid (byte_any c v l B w hc hr hB)
      go_enter Try.func79, Try.ntmps79
      go_wp2_with (go_at_call 121; refine hby.out.mono ?_; rintro e w1 ⟨x, rfl, hx, hc1, hg1⟩)
      go_ret
      exact ⟨(x : Int) % n, rfl, Int.emod_nonneg _ (by omega), fun _ => Int.emod_lt_of_pos _ hnp, hc1, hg1⟩
    · go_enter Try.func79, Try.ntmps79
      go_wp2_with fail
      refine (byte_any c v l B w hc hr hB).mono ?_
      rintro e w1 ⟨x1, rfl, hx1, hc1, hg1⟩
      have hr1 := hr.later (below_of hg1 hB (cur_size hc))
      go_wp2_with fail
      refine (byte_any c v l B w1 hc1 hr1 hB).mono ?_
      rintro e w2 ⟨x2, rfl, hx2, hc2, hg2⟩
      have hr2 := hr1.later (below_of hg2 hB (cur_size hc1))
      go_wp2_with fail
      refine (byte_any c v l B w2 hc2 hr2 hB).mono ?_
      rintro e w3 ⟨x3, rfl, hx3, hc3, hg3⟩
      have hr3 := hr2.later (below_of hg3 hB (cur_size hc2))
      go_wp2_with fail
      refine (byte_any c v l B w3 hc3 hr3 hB).mono ?_
      rintro e w4 ⟨x4, rfl, hx4, hc4, hg4⟩
      go_wp2_with fail
      go_ret
      exact ⟨_, rfl, Int.emod_nonneg _ (by omega), fun _ => Int.emod_lt_of_pos _ hnp, hc4, grown_trans (grown_trans (grown_trans hg1 hg2) hg3) hg4⟩

theorem grown_refl (w : World) (row : Option Nat) : w.grownBy w row := ⟨rfl, rfl, rfl, Nat.le_refl _, fun _ _ _ => rfl⟩

set_option maxRecDepth 100000 in
set_option maxHeartbeats 800000 in
/-- A new cursor. -/
theorem new_any (v : Value) (l : List UInt8) (B : Nat) (w : World) (hr : Reads w v l B) :
    Calls Try.prog 76 #[v] w fun e w' => e = .returned (.pointer (some ⟨w.heap.size, 0, none⟩)) ∧ Cur w' w.heap.size v l ∧ w.grownBy w' none := by
  obtain ⟨a, cap, rfl, hl, hcase⟩ := hr
  go_enter Try.func76, Try.ntmps76
  go_wp2
  go_loop [3, 4] (fun h i => ∃ (k : Nat) (x : Int), k ≤ l.length ∧ i = .int .i64 k ∧ h = .int .i64 x) (fun _ i => l.length - (intOf i).toNat)
  case atStart => exact ⟨0, _, Nat.zero_le _, rfl, rfl⟩
  case round =>
    obtain ⟨k, x, hk, rfl, rfl⟩ := hrel
    by_cases hlt : k < l.length
    · rcases hcase with hnil | ⟨b, off, rfl, hbB, hcell⟩
      · subst hnil; simp at hlt
      have cb := hcell k hlt
      clear hcell
      by_cases h4 : k < 4000
      · go_wp2
        go_round
        case rel => exact ⟨k + 1, _, by omega, by go_num, rfl⟩
        case measure => simp [intOf]; omega
      · go_wp2
        go_ret
        refine ⟨rfl, ⟨0, x, Nat.zero_le _, ?_⟩, World.grownBy_alloc _ _ _⟩
        exact heap_alloc_new w _
    · clear hcase
      go_wp2
      all_goals go_ret
      all_goals refine ⟨rfl, ⟨0, x, Nat.zero_le _, ?_⟩, World.grownBy_alloc _ _ _⟩
      all_goals exact heap_alloc_new w _

set_option maxRecDepth 100000 in
set_option maxHeartbeats 800000 in
/-- One of the listed numbers. -/
theorem pick_any (zs : List Int) (b : Nat) (hzl : 0 < zs.length) (hz64 : zs.length ≤ 100000) (c : Nat) (v : Value) (l : List UInt8) (B : Nat) (w : World) (hc : Cur w c v l) (hr : Reads w v l B) (hB : B ≤ c)
    (hbc : b ≠ c) (hzs : ∀ t, t < zs.length → w.cell? ⟨b, t, none⟩ = some (.int .i64 (zs.getD t 0))) :
    Calls Try.prog 78 #[.pointer (some ⟨c, 0, none⟩), .slice (some ⟨b, 0, none⟩) zs.length zs.length] w fun e w' =>
      ∃ t, t < zs.length ∧ e = .returned (.int .i64 (zs.getD t 0)) ∧ Cur w' c v l ∧ w.grownBy w' (some c) := by
  have hby := Lib.hid (below_any zs.length c v l B w hc hr hB)
  have Hzs := Lib.hid hzs
  clear hzs
  go_enter Try.func78, Try.ntmps78
  go_wp2_with fail
  refine hby.out.mono ?_
  rintro e w1 ⟨x, rfl, hx0, hxn, hc1, hg1⟩
  obtain ⟨t, rfl⟩ := Int.eq_ofNat_of_zero_le hx0
  have hxn' := hxn (by omega)
  have ht : t < zs.length := by omega
  have hcell := hg1.cell (Hzs.out t ht) (by intro q; injection q with q; simp only at q; omega)
  clear hxn hxn'
  go_wp2_with fail
  go_ret
  exact ⟨t, ht, ret_int (by simp [ht]), hc1, hg1⟩

/-- The numbers that the laws draw from. -/
def nums : List Int := [-1, 0, 127, 128, 255, 256, 16383, 16384, 65535, 65536, 562949953421311, 562949953421312, 999999999, 1000000000, -999999999, 9223372036854775807, -9223372036854775808]
theorem nums_ok : ∀ t : Fin 17, -9223372036854775808 ≤ nums.getD t.val 0 ∧ nums.getD t.val 0 ≤ 9223372036854775807 := by decide

theorem nums_cells : ∀ t : Fin 17, (#[.int .i64 (-1), .int .i64 0, .int .i64 127, .int .i64 128, .int .i64 255, .int .i64 256, .int .i64 16383, .int .i64 16384, .int .i64 65535, .int .i64 65536, .int .i64 562949953421311, .int .i64 562949953421312, .int .i64 999999999, .int .i64 1000000000, .int .i64 (-999999999), .int .i64 9223372036854775807, .int .i64 (-9223372036854775808)] : Array Value)[t.val]? = some (.int .i64 (nums.getD t.val 0)) := by
  intro t
  obtain ⟨t, ht⟩ := t
  rcases (show t = 0 ∨ t = 1 ∨ t = 2 ∨ t = 3 ∨ t = 4 ∨ t = 5 ∨ t = 6 ∨ t = 7 ∨ t = 8 ∨ t = 9 ∨ t = 10 ∨ t = 11 ∨ t = 12 ∨ t = 13 ∨ t = 14 ∨ t = 15 ∨ t = 16 by omega) with rfl | rfl | rfl | rfl | rfl | rfl | rfl | rfl | rfl | rfl | rfl | rfl | rfl | rfl | rfl | rfl | rfl <;> rfl

theorem wrap_ok (x : Int) : -9223372036854775808 ≤ wrap64 x ∧ wrap64 x ≤ 9223372036854775807 := by
  unfold wrap64
  omega


theorem own_kept {w w' : World} {base c : Nat} {e : TypeId} {v : Value} {l : List UInt8} (h : Own w base e v l) (hg : w.grownBy w' (some c)) (hc : c < base) : Own w' base e v l := by
  refine World.ownsRow.kept h hg ?_
  cases hv : v.ownBlock with
  | none => exact .inl rfl
  | some k =>
    refine .inr ?_
    have := World.ownsRow.lt h k hv
    intro q
    injection q with q
    omega

theorem grown_own {w w1 w2 : World} {c : Nat} (h : w.grownBy w1 (some c)) (hb : Below w.heap.size w1 w2) : w.grownBy w2 (some c) :=
  ⟨hb.os.trans h.os, hb.tape.trans h.tape, hb.output.trans h.output, Nat.le_trans h.size hb.size, fun k hk hne => (hb.block k hk).trans (h.block k hk hne)⟩

theorem cur_below {w w' : World} {B c : Nat} {v : Value} {l : List UInt8} (h : Cur w c v l) (hb : Below B w w') (hc : c < B) : Cur w' c v l := by
  obtain ⟨i, x, hi, hh⟩ := h
  exact ⟨i, x, hi, by rw [hb.block c hc]; exact hh⟩


/-- An argument of type []byte. -/
theorem reads_of {H : Type} {enc : TypeId × Value → H} {P : Program} {W : World} {base : Nat} {t e : TypeId} {v : Value} {d : DataW H} {ps : List MemPlace} (ht : P.underlying t = some (.slice e)) (he : P.underlying e = some (.int .u8)) (hc : P.cellsOf e = 1)
    (hval : Value.okWide P W .any base t v) (hd : DataW.Trod enc P W 0 (fun _ => true) true t v d ps) : ∃ l, Reads W v l W.heap.size := by
  obtain ⟨a, len, cap, rfl⟩ := Go.WideShapes.okWide_slice ht hval
  obtain ⟨fuel, hf⟩ := hd
  rcases Go.ChangeShapes.open_ints ht he hc hf with ⟨hcs, _⟩ | ⟨ad, len', cap', zs, hcs, _, hl, hm, hz, _, hcell, hwz⟩
  · simp [Value.cells] at hcs
    obtain ⟨rfl, rfl, rfl⟩ := hcs
    exact ⟨[], none, 0, rfl, by simp, .inl rfl⟩
  · simp [Value.cells] at hcs
    obtain ⟨rfl, rfl, rfl⟩ := hcs
    simp only [if_true] at hz
    have hml : len ≤ 9223372036854775807 := by unfold maxLen at hm; omega
    have hlen : ((zs.take len).map fun z => UInt8.ofNat z.toNat).length = len := by simp; omega
    refine ⟨(zs.take len).map fun z => UInt8.ofNat z.toNat, some ad, cap, by rw [hlen], by rw [hlen]; exact hml, ?_⟩
    by_cases h0 : len = 0
    · subst h0
      exact .inl rfl
    · have hspot : ad.spot = none := by simpa [Addr.add] using World.cell?_spot (hcell 0 (by omega))
      have hblk : ad.block < W.heap.size := by simpa [Addr.add] using World.block_lt_of_cell? W _ (hcell 0 (by omega))
      obtain ⟨b, off, sp⟩ := ad
      simp only at hspot hblk
      subst hspot
      refine .inr ⟨b, off, rfl, hblk, fun t ht' => ?_⟩
      rw [hlen] at ht'
      have h1 := hcell t (by omega)
      have ha : (⟨b, off, none⟩ : Addr).add t = ⟨b, off + t, none⟩ := by unfold Addr.add; split <;> simp_all
      rw [ha] at h1
      rw [h1]
      have hzt : zs.getD t 0 = zs[t]'(by omega) := by simp [List.getD, show t < zs.length by omega]
      have hw := hwz _ (List.getElem_mem (show t < zs.length by omega))
      rw [hzt]
      simp only [List.getElem_map, List.getElem_take]
      simp [Lit.wf, IntKind.min, IntKind.max, IntKind.signed, IntKind.bits] at hw
      congr 2
      simp
      omega




theorem big_any (v : Value) (l : List UInt8) (B : Nat) (w : World) (hr : Reads w v l B) :
    Calls Try.prog 13 #[v] w fun e w' => e = .returned (.bool (decide (1048576 < l.length))) ∧ w = w' := by
  obtain ⟨a, cap, rfl, hl, _⟩ := hr
  go_enter Try.func13, Try.ntmps13
  go_wp2
  go_ret
  exact ⟨by simp; omega, rfl⟩
end Go.Proofs.Ytklamhnecncenaa.Draw

namespace Go.Proofs.Ytklamhnecncenaa.LocDraw
open Go Go.RowKit Byt Ints IntsLaw IntsWalk Draw

theorem owni_kept {w w' : World} {base c : Nat} {e : TypeId} {u : Value} {l : List Int} (h : OwnI w base e u l) (hg : w.grownBy w' (some c)) (hc : c < base) : OwnI w' base e u l := by
  refine World.ownsRow.kept h hg ?_
  cases hv : u.ownBlock with
  | none => exact .inl rfl
  | some k =>
    refine .inr ?_
    have := World.ownsRow.lt h k hv
    intro q
    injection q with q
    omega
theorem owni_far {w : World} {base g1 n cap : Nat} {e : TypeId} {l : List Int} {p : Addr} (u : Value) (h : OwnI w base e (.slice (some ⟨g1, 0, none⟩) n cap) l) (hp : g1 ≠ p.block) : OwnI (w.setCell p u) base e (.slice (some ⟨g1, 0, none⟩) n cap) l :=
  World.ownsRow.kept (row := some p.block) h ⟨rfl, rfl, rfl, by simp, fun i _ hne => heap_setCell_other w p i u (by intro q; exact hne (by rw [q]))⟩ (.inr (by simpa [Value.ownBlock] using hp))
theorem wrap_inr (x : Int) : -9223372036854775808 ≤ (if 0 < IntKind.i64.wrap x then IntKind.i64.wrap x else 0) ∧ (if 0 < IntKind.i64.wrap x then IntKind.i64.wrap x else 0) ≤ 9223372036854775807 := by
  rw [IntKind.wrap_i64]
  split <;> omega
theorem list_cellsI (zs : List Int) (w : World) (T : TypeId) : ∀ t, t < zs.length → (w.alloc (.cells (zs.map fun z => Value.int .i64 z).toArray T (0, 0))).cell? ⟨w.heap.size, t, none⟩ = some (.int .i64 (zs.getD t 0)) := by
  intro t ht
  rw [World.cell?_alloc_mark]
  simp [ht]
theorem cur_allocI {w : World} {c : Nat} {v : Value} {l : List UInt8} (o : Obj) (h : Cur w c v l) : Cur (w.alloc o) c v l :=
  h.kept (World.grownBy_alloc w o none) (by intro q; cases q)
theorem grown_allocI {w w' : World} {c : Nat} (o : Obj) (h : w.grownBy w' (some c)) : w.grownBy (w'.alloc o) (some c) :=
  grown_trans h (World.grownBy_alloc w' o (some c))
theorem cur_farI {w : World} {c : Nat} {v : Value} {l : List UInt8} {p : Addr} (u : Value) (h : Cur w c v l) (hp : c ≠ p.block) : Cur (w.setCell p u) c v l := by
  obtain ⟨i, x, hi, hh⟩ := h
  exact ⟨i, x, hi, by rw [heap_setCell_other w p c u hp]; exact hh⟩
theorem grown_newI {w w' : World} {c : Nat} {p : Addr} (u : Value) (h : w.grownBy w' (some c)) (hp : w.heap.size ≤ p.block) : w.grownBy (w'.setCell p u) (some c) :=
  ⟨h.os, h.tape, h.output, by show _ ≤ (w'.setCell p u).heap.size; simp; exact h.size, fun k hk hne => (heap_setCell_other w' p k u (by omega)).trans (h.block k hk hne)⟩
theorem inr_set {l : List Int} (h : InR l) (j : Nat) {x : Int} (hx : -9223372036854775808 ≤ x ∧ x ≤ 9223372036854775807) : InR (l.set j x) := fun y hy => by
  rcases List.mem_or_eq_of_mem_set hy with q | q
  · exact h y q
  · rw [q]; exact hx
theorem inr_snoc {l : List Int} (h : InR l) {x : Int} (hx : -9223372036854775808 ≤ x ∧ x ≤ 9223372036854775807) : InR (l ++ [x]) := fun y hy => by
  rcases List.mem_append.1 hy with q | q
  · exact h y q
  · rw [List.mem_singleton.1 q]; exact hx

theorem form_some {w : World} {base : Nat} {e : TypeId} {o : Value} {ls : List Int} {G n : Nat} (h : OwnI w base e o ls) (hn : ls = [] → o = .slice (some ⟨G, 0, none⟩) 0 0) (hlen : ls.length = n) : ∃ g cap, o = .slice (some ⟨g, 0, none⟩) n cap := by
  subst hlen
  rcases h.form with ⟨_, h2⟩ | ⟨g, cap, h1, _⟩
  · have := hn h2
    subst h2
    exact ⟨G, 0, this⟩
  · exact ⟨g, cap, h1⟩

theorem once_anyI (n : Int) (c : Nat) (v : Value) (l : List UInt8) (B : Nat) (w : World) (hc : Cur w c v l) (hr : Reads w v l B) (hB : B ≤ c) :
    Calls Try.prog 77 #[.pointer (some ⟨c, 0, none⟩), .int .i64 n] w fun e w' => ∃ b : Bool, e = .returned (.bool b) ∧ Cur w' c v l ∧ w.grownBy w' (some c) := by
  have hby := Lib.hid (below_any n c v l B w hc hr hB)
  go_enter Try.func77, Try.ntmps77
  go_wp2_with fail
  refine hby.out.mono ?_
  rintro e w1 ⟨x, rfl, hx0, hx1, hc1, hg1⟩
  go_wp2_with fail
  go_ret
  exact ⟨x == 0, rfl, hc1, hg1⟩

def zl : List Int := [-1, 7, 8, 1000]
theorem zl_ok : ∀ t : Fin 4, -9223372036854775808 ≤ zl.getD t.val 0 ∧ zl.getD t.val 0 ≤ 9223372036854775807 := by decide


def zs15 : List Int := [-1, 0, 1, 2, 4, 5, 16, 17, 64, 1024, 1025, 4096, 4097, 9223372036854775807, -9223372036854775808]
theorem zs15_ok : ∀ t : Fin 15, -9223372036854775808 ≤ zs15.getD t.val 0 ∧ zs15.getD t.val 0 ≤ 9223372036854775807 := by decide
def zs4 : List Int := [0, 1, 4, 8]
theorem zs4_ok : ∀ t : Fin 4, 0 ≤ zs4.getD t.val 0 ∧ zs4.getD t.val 0 ≤ 8 := by decide


end Go.Proofs.Ytklamhnecncenaa.LocDraw

namespace Go.Proofs.Ytklamhnecncenaa.QryDraw
open Go Go.RowKit Byt Ints IntsLaw Cd Rows2 Tab TabSpec Exact Atom QryMath QrySpec QryImp MkAtom SlMath Draw QryPar
open TabParse (strC strsC info_str)

set_option maxRecDepth 100000 in
set_option maxHeartbeats 800000 in
theorem pickS_any (zs : List ByteArray) (b : Nat) (hzl : 0 < zs.length) (hz64 : zs.length ≤ 100000) (c : Nat) (v : Value) (l : List UInt8) (B : Nat) (w : World) (hc : Cur w c v l) (hr : Reads w v l B) (hB : B ≤ c)
    (hbc : b ≠ c) (hzs : ∀ t, t < zs.length → w.cell? ⟨b, t, none⟩ = some (.string (zs.getD t ⟨#[]⟩))) :
    Calls Try.prog 147 #[.pointer (some ⟨c, 0, none⟩), .slice (some ⟨b, 0, none⟩) zs.length zs.length] w fun e w' =>
      ∃ t, t < zs.length ∧ e = .returned (.string (zs.getD t ⟨#[]⟩)) ∧ Cur w' c v l ∧ w.grownBy w' (some c) := by
  have hby := Lib.hid (below_any zs.length c v l B w hc hr hB)
  have Hzs := Lib.hid hzs
  clear hzs
  go_enter Try.func147, Try.ntmps147
  go_wp2_with fail
  refine hby.out.mono ?_
  rintro e w1 ⟨x, rfl, hx0, hxn, hc1, hg1⟩
  obtain ⟨t, rfl⟩ := Int.eq_ofNat_of_zero_le hx0
  have hxn' := hxn (by omega)
  have ht : t < zs.length := by omega
  have hcell := hg1.cell (Hzs.out t ht) (by intro q; injection q with q; simp only at q; omega)
  clear hxn hxn'
  generalize hq : zs.getD t ⟨#[]⟩ = z at *
  have HQ := Lib.hid hq
  clear hq
  go_wp2_with fail
  go_ret
  exact ⟨t, ht, by rw [HQ.out]; rfl, hc1, hg1⟩

/-- The cursor and its bytes. -/
def CR (w : World) (c : Nat) (v : Value) (l : List UInt8) (B : Nat) : Prop := Cur w c v l ∧ Reads w v l B ∧ B ≤ c
theorem CR.keep {w w' : World} {c : Nat} {v : Value} {l : List UInt8} {B : Nat} {fp : List Nat} (h : CR w c v l B) (ht : Cd.Touch fp w w') (hc : c ∉ fp) (hfp : ∀ b ∈ fp, B ≤ b) : CR w' c v l B := by
  obtain ⟨h1, h2, h3⟩ := h
  have hlt := cur_size h1
  refine ⟨?_, h2.later ⟨ht.os, ht.tape, ht.output, ht.size, fun k hk => ht.block k (by omega) (fun q => by have := hfp k q; omega)⟩, h3⟩
  obtain ⟨i, x, hi, hh⟩ := h1
  exact ⟨i, x, hi, by rw [ht.block c hlt hc]; exact hh⟩
theorem CR.later {w w' : World} {c : Nat} {v : Value} {l : List UInt8} {B : Nat} (h : CR w c v l B) (hb : Below w.heap.size w w') : CR w' c v l B :=
  h.keep (fp := []) (Cd.Touch.of_below hb) (by simp) (fun b hb => by cases hb)
theorem CR.lt {w : World} {c : Nat} {v : Value} {l : List UInt8} {B : Nat} (h : CR w c v l B) : c < w.heap.size := cur_size h.1
theorem touch_of {w w' : World} {c : Nat} (h : w.grownBy w' (some c)) : Cd.Touch [c] w w' := ⟨h.os, h.tape, h.output, h.size, fun k hk hn => h.block k hk (by simpa using hn)⟩
theorem CR.after {w w' : World} {c : Nat} {v : Value} {l : List UInt8} {B : Nat} (h : CR w c v l B) (hc : Cur w' c v l) (hg : w.grownBy w' (some c)) : CR w' c v l B := by
  obtain ⟨h1, h2, h3⟩ := h
  exact ⟨hc, h2.later (below_of hg h3 (cur_size h1)), h3⟩
theorem below_cr (n : Int) (c : Nat) (v : Value) (l : List UInt8) (B : Nat) (w : World) (h : CR w c v l B) :
    Calls Try.prog 79 #[.pointer (some ⟨c, 0, none⟩), .int .i64 n] w fun e w' => ∃ x : Int, e = .returned (.int .i64 x) ∧ 0 ≤ x ∧ (0 < n → x < n) ∧ CR w' c v l B ∧ Cd.Touch [c] w w' := by
  refine (below_any n c v l B w h.1 h.2.1 h.2.2).mono ?_
  rintro e w' ⟨x, rfl, h1, h2, h3, h4⟩
  exact ⟨x, rfl, h1, h2, h.after h3 h4, touch_of h4⟩
theorem once_cr (n : Int) (c : Nat) (v : Value) (l : List UInt8) (B : Nat) (w : World) (h : CR w c v l B) :
    Calls Try.prog 77 #[.pointer (some ⟨c, 0, none⟩), .int .i64 n] w fun e w' => ∃ b : Bool, e = .returned (.bool b) ∧ CR w' c v l B ∧ Cd.Touch [c] w w' := by
  refine (LocDraw.once_anyI n c v l B w h.1 h.2.1 h.2.2).mono ?_
  rintro e w' ⟨x, rfl, h3, h4⟩
  exact ⟨x, rfl, h.after h3 h4, touch_of h4⟩
theorem pick_cr (zs : List ByteArray) (b : Nat) (hzl : 0 < zs.length) (hz64 : zs.length ≤ 100000) (c : Nat) (v : Value) (l : List UInt8) (B : Nat) (w : World) (h : CR w c v l B)
    (hbc : b ≠ c) (hzs : ∀ t, t < zs.length → w.cell? ⟨b, t, none⟩ = some (.string (zs.getD t ⟨#[]⟩))) :
    Calls Try.prog 147 #[.pointer (some ⟨c, 0, none⟩), .slice (some ⟨b, 0, none⟩) zs.length zs.length] w fun e w' => ∃ s, s ∈ zs ∧ e = .returned (.string s) ∧ CR w' c v l B ∧ Cd.Touch [c] w w' := by
  refine (pickS_any zs b hzl hz64 c v l B w h.1 h.2.1 h.2.2 hbc hzs).mono ?_
  rintro e w' ⟨t, ht, rfl, h3, h4⟩
  exact ⟨_, by rw [List.getD_eq_getElem?_getD, List.getElem?_eq_getElem ht]; exact List.getElem_mem ht, rfl, h.after h3 h4, touch_of h4⟩
theorem pickI_cr (zs : List Int) (b : Nat) (hzl : 0 < zs.length) (hz64 : zs.length ≤ 100000) (c : Nat) (v : Value) (l : List UInt8) (B : Nat) (w : World) (h : CR w c v l B)
    (hbc : b ≠ c) (hzs : ∀ t, t < zs.length → w.cell? ⟨b, t, none⟩ = some (.int .i64 (zs.getD t 0))) :
    Calls Try.prog 78 #[.pointer (some ⟨c, 0, none⟩), .slice (some ⟨b, 0, none⟩) zs.length zs.length] w fun e w' => ∃ x, x ∈ zs ∧ e = .returned (.int .i64 x) ∧ CR w' c v l B ∧ Cd.Touch [c] w w' := by
  refine (pick_any zs b hzl hz64 c v l B w h.1 h.2.1 h.2.2 hbc hzs).mono ?_
  rintro e w' ⟨t, ht, rfl, h3, h4⟩
  exact ⟨_, by rw [List.getD_eq_getElem?_getD, List.getElem?_eq_getElem ht]; exact List.getElem_mem ht, rfl, h.after h3 h4, touch_of h4⟩
/-- The known queries. -/
def knownQ : List ByteArray := [⟨#[114, 40, 88, 89, 41]⟩, ⟨#[114, 40, 88, 89, 41, 32, 115, 40, 89, 90, 41]⟩, ⟨#[114, 40, 88, 89, 41, 32, 115, 40, 89, 90, 41, 32, 116, 40, 90, 85, 41]⟩, ⟨#[114, 40, 88, 89, 41, 32, 115, 40, 89, 90, 41, 32, 116, 40, 90, 88, 41]⟩, ⟨#[114, 40, 88, 89, 41, 32, 115, 40, 88, 90, 41, 32, 116, 40, 88, 85, 41]⟩, ⟨#[114, 40, 88, 89, 41, 32, 115, 40, 89, 90, 41, 32, 118, 40, 89, 41]⟩, ⟨#[117, 40, 88, 89, 90, 41, 32, 115, 40, 90, 85, 41]⟩, ⟨#[117, 40, 88, 89, 90, 41, 32, 114, 40, 88, 89, 41, 32, 118, 40, 90, 41]⟩, ⟨#[114, 40, 88, 89, 41, 32, 115, 40, 89, 90, 41, 32, 116, 40, 90, 85, 41, 32, 118, 40, 88, 41]⟩, ⟨#[114, 40, 88, 89, 41, 32, 114, 40, 89, 90, 41]⟩, ⟨#[114, 40, 88, 89, 41, 32, 115, 40, 89, 88, 41]⟩, ⟨#[118, 40, 88, 41, 32, 114, 40, 88, 89, 41, 32, 115, 40, 89, 90, 41, 32, 116, 40, 90, 85, 41]⟩, ⟨#[114, 40, 88, 89, 41, 32, 115, 40, 89, 90, 41, 32, 116, 40, 90, 85, 41, 32, 115, 40, 85, 88, 41]⟩]
theorem known_ok : ∀ s ∈ knownQ, pOk s = true ∧ s.size ≤ 1048576 := by decide +kernel
end Go.Proofs.Ytklamhnecncenaa.QryDraw

namespace Go.Proofs.Ytklamhnecncenaa.QryDraw
open Go Go.RowKit Byt Ints IntsLaw Cd Rows2 Tab TabSpec Exact Atom QryMath QrySpec QryImp MkAtom SlMath Draw QryPar
open TabParse (strC strsC info_str)

theorem cells_str {w : World} {b : Nat} {zs : List ByteArray} {e : TypeId} (h : w.heap[b]? = some (.cells (zs.map Value.string).toArray e (0, 0))) : ∀ t, t < zs.length → w.cell? ⟨b, t, none⟩ = some (.string (zs.getD t ⟨#[]⟩)) := fun t ht => by
  simp [World.cell?, h, ht]
theorem cells_int {w : World} {b : Nat} {zs : List Int} {e : TypeId} (h : w.heap[b]? = some (.cells (zs.map fun z => Value.int .i64 z).toArray e (0, 0))) : ∀ t, t < zs.length → w.cell? ⟨b, t, none⟩ = some (.int .i64 (zs.getD t 0)) := fun t ht => by
  simp [World.cell?, h, ht]
theorem qans_yes {s : ByteArray} {w : World} {e : Ending} {w' : World} (h : QAns s w e w') (hp : pOk s = true) : ∃ u fp, e = .returned (.tuple #[.agg #[.int .i64 (pN s), u], .bool true]) ∧ atomsC.ow w' w.heap.size [u] (pL s) fp ∧ fp.Nodup ∧ Below w.heap.size w w' := by
  obtain ⟨u, fp, he, ho, hn, hb⟩ := h
  rw [hp] at he ho
  exact ⟨u, fp, he, ho, hn, hb⟩
set_option maxRecDepth 100000 in
set_option maxHeartbeats 6400000 in
theorem query_any (c : Nat) (v : Value) (l : List UInt8) (B : Nat) (w : World) (h : CR w c v l B) :
    Calls Try.prog 155 #[.pointer (some ⟨c, 0, none⟩)] w fun e w' => ∃ n u L fp, e = .returned (.agg #[.int .i64 n, u]) ∧ atomsC.ow w' w.heap.size [u] L fp ∧ fp.Nodup ∧ qOk n L = true ∧ CR w' c v l B ∧ Cd.Touch [c] w w' := by
  have H := Lib.hid h
  have hcw := h.lt
  clear h
  go_enter Try.func155, Try.ntmps155
  go_wp2_with fail
  generalize hW : (w.alloc _).alloc _ = W
  obtain ⟨r0, r1, hz0, hb0⟩ := start2g w _ _ hW
  have HR0 := Lib.hid (Loc2.of r0)
  have hk : W.heap[w.heap.size + 1]? = some (.cells (knownQ.map Value.string).toArray 9 (0, 0)) := r1
  have HP := Lib.hid (pick_cr knownQ (w.heap.size + 1) (by decide) (by decide) c v l B W (H.out.later hb0) (by omega) (cells_str hk))
  have HB0 := Lib.hid hb0
  have HZ0 := Lib.hid hz0
  clear hW r0 r1 hz0 hb0 hk
  refine HP.out.mono ?_
  rintro e w1 ⟨s, hs, rfl, hc1, ht1⟩
  obtain ⟨hp, hsz⟩ := known_ok s hs
  have HPQ := Lib.hid ((spec_parse s w1 hsz).mono fun _ _ q => qans_yes q hp)
  have HQ := Lib.hid (pOk_iff.1 hp).1
  have HC1 := Lib.hid hc1
  have HT1 := Lib.hid ((Cd.Touch.of_below (fp := [c]) HB0.out).trans ht1)
  have HR1 := Lib.hid (HR0.out.touched ht1 (by simp; omega))
  have HZ1 := Lib.hid ht1.size
  generalize pN s = N at *
  generalize pL s = L at *
  clear hp hsz hc1 ht1 hs HP
  go_wp2_with fail
  refine HPQ.out.mono ?_
  rintro e w2 ⟨u2, fq, rfl, ho2, hn2, hb2⟩
  obtain ⟨aq, cq, rfl⟩ := Cd.ow_slice (c := atomC) ho2
  have HO2 := Lib.hid ho2
  have HN2 := Lib.hid hn2
  have HC2 := Lib.hid (HC1.out.later hb2)
  have HT2 := Lib.hid (HT1.out.trans (Cd.Touch.of_below hb2))
  have HR2 := Lib.hid (HR1.out.later hb2)
  have HZ2 := Lib.hid hb2.size
  have HFQ := Lib.hid (fun b (h : b ∈ fq) => atomsC.ow_lt ho2 b h)
  clear ho2 hn2 hb2 HPQ
  go_wp2_with fail
  generalize hW3 : w2.alloc _ = W3
  obtain ⟨rq, hz3, hb3⟩ := start1 w2 _ hW3
  have HQ3 := Lib.hid (Loc2.of rq)
  have HO3 := Lib.hid (Cd.ow_later HO2.out hb3)
  have HC3 := Lib.hid (HC2.out.later hb3)
  have HT3 := Lib.hid (HT2.out.trans (Cd.Touch.of_below hb3))
  have HR3 := Lib.hid (HR2.out.later hb3)
  have HZ3 := Lib.hid hz3
  clear hW3 rq hz3 hb3
  refine (once_cr 4 c v l B W3 HC3.out).mono ?_
  rintro e w4 ⟨bb, rfl, hc4, ht4⟩
  have hcz : c < w.heap.size := hcw
  have HC4 := Lib.hid hc4
  have HT4 := Lib.hid (HT3.out.trans ht4)
  have HR4 := Lib.hid (HR3.out.touched ht4 (by simp; omega))
  have HQ4 := Lib.hid (HQ3.out.touched ht4 (by simp; have := HZ0.out; have := HZ1.out; have := HZ2.out; omega))
  have HO4 := Lib.hid (Cd.ow_touched HO3.out ht4 (fun b hb q => by rw [List.mem_singleton.1 q] at hb; have h1 := (HFQ.out _ hb).1; have h2 := HZ0.out; have h3 := HZ1.out; omega))
  have HZ4 := Lib.hid ht4.size
  have HCW := Lib.hid hcz
  clear hc4 ht4 hcw hcz
  cases bb
  · have y0 := HQ4.out.c0
    have y1 := HQ4.out.c1
    have ykl := HQ4.out.lt
    have x0 := HR4.out.c0
    have x1 := HR4.out.c1
    have xf0 := HR4.out.f0
    have xf1 := HR4.out.f1
    go_wp2_with fail
    obtain ⟨k0, k1⟩ := set2 (w := w4) (k := w.heap.size) (x := .int .i64 N) (y := .slice aq L.length cq) x0 x1
    have hfar : w.heap.size ∉ fq := fun q => by have h1 := (HFQ.out _ q).1; have h2 := HZ0.out; have h3 := HZ1.out; omega
    refine bodyPost_ret (v := .agg #[.int .i64 N, .slice aq L.length cq]) (by simp [results, Try.results155, go_sem, k0, k1]) rfl ⟨N, _, L, fq, rfl, ow_setCell (ow_setCell (atomsC.ow_base HO4.out (by have := HZ0.out; have := HZ1.out; omega)) hfar _) hfar _, HN2.out, HQ.out, ?_, ?_⟩
    · exact (HC4.out.keep (touch_set _) (by simp; have := HCW.out; omega) (fun b hb => by rw [List.mem_singleton.1 hb]; have := H.out.2.2; have := HCW.out; omega)).keep (touch_set _) (by simp; have := HCW.out; omega) (fun b hb => by rw [List.mem_singleton.1 hb]; have := H.out.2.2; have := HCW.out; omega)
    · exact touch_old (touch_old HT4.out (touch_set _) (fun y hy => .inr (by rw [List.mem_singleton.1 hy]; exact Nat.le_refl _))) (touch_set _) (fun y hy => .inr (by rw [List.mem_singleton.1 hy]; exact Nat.le_refl _))
  go_wp2_with fail
  generalize hW5 : w4.alloc _ = W5
  obtain ⟨rx, hz5, hb5⟩ := start1 w4 _ hW5
  have HX5 := Lib.hid (Loc2.of rx)
  have HO5 := Lib.hid (Cd.ow_later HO4.out hb5)
  have HC5 := Lib.hid (HC4.out.later hb5)
  have HT5 := Lib.hid (HT4.out.trans (Cd.Touch.of_below hb5))
  have HR5 := Lib.hid (HR4.out.later hb5)
  have HQ5 := Lib.hid (HQ4.out.later hb5)
  have HZ5 := Lib.hid hz5
  clear hW5 rx hz5 hb5
  refine (below_cr 4 c v l B W5 HC5.out).mono ?_
  rintro e w6 ⟨x, rfl, hx0, hx4, hc6, ht6⟩
  obtain ⟨z, rfl⟩ := Int.eq_ofNat_of_zero_le hx0
  have hz4 : z < 4 := by have := hx4 (by decide); omega
  have HC6 := Lib.hid hc6
  have HT6 := Lib.hid (Cd.Touch.mono (fq := [c, w4.heap.size]) ht6 (fun b hb => by rw [List.mem_singleton.1 hb]; simp))
  have HX6 := Lib.hid (HX5.out.touched ht6 (by simp; have := HC4.out.lt; omega))
  clear hx0 hx4 hc6 ht6
  go_wp2_with fail
  have HKX := Lib.hid (show w4.heap.size < W5.heap.size ∧ c < w4.heap.size ∧ B ≤ c ∧ w.heap.size < w4.heap.size ∧ w2.heap.size < w4.heap.size ∧ c < w.heap.size ∧ w.heap.size < w1.heap.size ∧ w1.heap.size ≤ w2.heap.size from ⟨by have := HZ5.out; omega, HC4.out.lt, H.out.2.2, HR4.out.lt, HQ4.out.lt, HCW.out, HR1.out.lt, HZ2.out⟩)
  generalize hkx : w4.heap.size = kx at *
  clear hkx
  go_loopw [7] (fun nn wr => ∃ (z : Nat) (m1 : Int) (sx : Value) (LX : List A2) (fx : List Nat), z ≤ 4 ∧ nn = .int .i64 z ∧ LX.length + z ≤ 4 ∧ 0 ≤ m1 ∧ m1 ≤ 4 ∧ Loc2 wr kx (.int .i64 m1) sx ∧ atomsC.ow wr W5.heap.size [sx] LX fx ∧ fx.Nodup ∧ CR wr c v l B ∧ Cd.Touch [c, kx] W5 wr) (fun nn _ => (intOf nn).toNat)
  case atStart => exact ⟨z + 1, 0, _, [], [], by omega, by congr 1; omega, by simp; omega, by omega, by omega, HX6.out, Cd.ow_nil _ _, by simp, HC6.out, HT6.out⟩
  case round =>
    obtain ⟨z, m1, sx, LX, fx, hz4, rfl, hlz, hm0, hm4, hx, how, hnd, hcr, ht⟩ := hrel
    have HX := Lib.hid hx
    have HOW := Lib.hid how
    have HND := Lib.hid hnd
    have HCR := Lib.hid hcr
    have HT := Lib.hid ht
    have HLZ := Lib.hid (And.intro hz4 hlz)
    have HM1 := Lib.hid (And.intro hm0 hm4)
    clear hx how hnd hcr ht hlz hm0 hm4 hz4
    by_cases hz : 0 < z
    · have hz1 : (0 : Int) < (z : Int) := by omega
      have HZ := Lib.hid hz
      clear hz
      go_wp2_with fail
      refine (below_cr 5 c v l B wr HCR.out).mono ?_
      rintro e wa ⟨x, rfl, hx0, hx5, hca, hta⟩
      obtain ⟨t, rfl⟩ := Int.eq_ofNat_of_zero_le hx0
      have ht5 : t < 5 := by have := hx5 (by decide); omega
      obtain ⟨nm, hnm, hns⟩ : ∃ nm : ByteArray, ([Value.string ⟨#[114]⟩, .string ⟨#[115]⟩, .string ⟨#[116]⟩, .string ⟨#[117]⟩, .string ⟨#[118]⟩] : List Value)[t]'(by simpa using ht5) = .string nm ∧ nm.size ≤ 1 := by
        have : t = 0 ∨ t = 1 ∨ t = 2 ∨ t = 3 ∨ t = 4 := by omega
        rcases this with rfl | rfl | rfl | rfl | rfl <;> exact ⟨_, rfl, by decide⟩
      obtain ⟨m, hm, hm3⟩ : ∃ m : Nat, ([Value.int .i64 2, .int .i64 2, .int .i64 2, .int .i64 3, .int .i64 1] : List Value)[t]'(by simpa using ht5) = .int .i64 (m : Int) ∧ m ≤ 3 := by
        have : t = 0 ∨ t = 1 ∨ t = 2 ∨ t = 3 ∨ t = 4 := by omega
        rcases this with rfl | rfl | rfl | rfl | rfl
        · exact ⟨2, rfl, by decide⟩
        · exact ⟨2, rfl, by decide⟩
        · exact ⟨2, rfl, by decide⟩
        · exact ⟨3, rfl, by decide⟩
        · exact ⟨1, rfl, by decide⟩
      have t0 : (0 : Int) ≤ (t : Int) := by omega
      have t5 : (t : Int) < 5 := by omega
      have HXA := Lib.hid (HX.out.touched hta (by simp; have := HKX.out; omega))
      have HFX := Lib.hid (fun b (h : b ∈ fx) => atomsC.ow_lt HOW.out b h)
      have HOWA := Lib.hid (Cd.ow_touched HOW.out hta (fun b hb q => by rw [List.mem_singleton.1 q] at hb; have h1 := (HFX.out _ hb).1; have h2 := HKX.out; omega))
      have HCA := Lib.hid hca
      have HTA := Lib.hid (HT.out.trans (Cd.Touch.mono (fq := [c, kx]) hta (fun b hb => by rw [List.mem_singleton.1 hb]; simp)))
      have HZA := Lib.hid hta.size
      have HNS := Lib.hid hns
      have HM3 := Lib.hid hm3
      clear hx0 hx5 hca hta hns hm3
      go_wp2_with fail
      generalize hW9 : ((wa.alloc _).alloc _).alloc _ = W9
      obtain ⟨s0, s1, s2, hz9, hb9⟩ := start3 wa _ _ _ hW9
      have HA9 := Lib.hid (Loc2.of s1)
      have HC9 := Lib.hid (HCA.out.later hb9)
      have HX9 := Lib.hid (HXA.out.later hb9)
      have HOW9 := Lib.hid (Cd.ow_later HOWA.out hb9)
      have HT9 := Lib.hid (HTA.out.trans (Cd.Touch.of_below hb9))
      have HZ9 := Lib.hid hz9
      have HKA := Lib.hid (show kx < wa.heap.size + 1 ∧ wa.heap.size + 1 < W9.heap.size ∧ W5.heap.size ≤ wa.heap.size + 1 ∧ W5.heap.size ≤ W9.heap.size ∧ c < wa.heap.size + 1 from ⟨by have := HXA.out.lt; omega, by have := HZ9.out; omega, by have := HTA.out.size; omega, by have := HTA.out.size; have := HZ9.out; omega, by have := HCA.out.lt; omega⟩)
      have HZR := Lib.hid (show wr.heap.size ≤ W9.heap.size ∧ wr.heap.size < wa.heap.size + 1 from by have := HZA.out; have := HZ9.out; omega)
      clear hW9 s0 s1 s2 hz9 hb9 hnm hm HX HOW HXA HOWA HT HTA
      refine (below_cr 4 c v l B W9 HC9.out).mono ?_
      rintro e wb ⟨y, rfl, hy0, hy4, hcb, htb⟩
      obtain ⟨v0, rfl⟩ := Int.eq_ofNat_of_zero_le hy0
      have hv4 : v0 < 4 := by have := hy4 (by decide); omega
      generalize hka : wa.heap.size + 1 = ka at *
      clear hka
      have HAB := Lib.hid (HA9.out.touched htb (by simp; have := HKA.out; omega))
      have HXB := Lib.hid (HX9.out.touched htb (by simp; have := HKX.out; omega))
      have HOWB := Lib.hid (Cd.ow_touched HOW9.out htb (fun b hb q => by rw [List.mem_singleton.1 q] at hb; have h1 := (HFX.out _ hb).1; have h2 := HKX.out; omega))
      have HCB := Lib.hid hcb
      have HTB := Lib.hid (Cd.Touch.mono (fq := [c, kx, ka]) htb (fun b hb => by rw [List.mem_singleton.1 hb]; simp))
      clear hy0 hy4 hcb htb
      go_wp2_with fail
      go_loopw [11, 12] (fun vv ii wr => ∃ (i v1 : Nat) (m1 : Int) (sv : Value) (lv : List Int) (fv : List Nat), i ≤ m ∧ v1 < 4 ∧ ii = .int .i64 i ∧ vv = .int .i64 v1 ∧ lv.length = i ∧ 0 ≤ m1 ∧ m1 ≤ 4 ∧ Loc2 wr kx (.int .i64 m1) sx ∧ Loc2 wr ka (.string nm) sv ∧ rowC.ow wr W9.heap.size [sv] lv fv ∧ fv.Nodup ∧ CR wr c v l B ∧ Cd.Touch [c, kx, ka] W9 wr) (fun _ ii _ => m - (intOf ii).toNat)
      case atStart => exact ⟨0, v0, m1, _, [], [], Nat.zero_le _, hv4, rfl, rfl, rfl, HM1.out.1, HM1.out.2, HXB.out, HAB.out, Cd.ow_nil _ _, by simp, HCB.out, HTB.out⟩
      case round =>
        obtain ⟨i, v1, m2, sv, lv, fv, him, hv14, rfl, rfl, hlv, h20, h24, hx, ha, how, hnd, hcr, ht⟩ := hrel
        have HXJ := Lib.hid hx
        have HAJ := Lib.hid ha
        have HOJ := Lib.hid how
        have HNJ := Lib.hid hnd
        have HCJ := Lib.hid hcr
        have HTJ := Lib.hid ht
        have HFV := Lib.hid (fun b (h : b ∈ fv) => (rowC.ow_lt how b h).1)
        have HLV := Lib.hid hlv
        clear hx ha how hnd hcr ht hlv
        by_cases hi : i < m
        · have HI := Lib.hid hi
          have HV1 := Lib.hid hv14
          obtain ⟨as_, cs_, rfl⟩ := Cd.ow_slice HOJ.out
          have g1 := HAJ.out.c1
          have HDS := Lib.hid (HTJ.out.size)
          have i1 : (i : Int) < (m : Int) := by omega
          have hAl := below_alloc wr (.cells #[.int .i64 (v1 : Int)] 3)
          have HAL := Lib.hid (And.intro (Cd.ow_later HOJ.out hAl) (show (wr.alloc (.cells #[.int .i64 (v1 : Int)] 3)).cell? ⟨wr.heap.size, 0, none⟩ = some (.int .i64 (v1 : Int)) by simp))
          have HA3 := Lib.hid (show Cd.int.ow (wr.alloc (.cells #[.int .i64 (v1 : Int)] 3)) W9.heap.size [.int .i64 (v1 : Int)] (v1 : Int) [] from ⟨rfl, ⟨by omega, by omega⟩, rfl⟩)
          have HAB := Lib.hid (Nat.le_trans HDS.out hAl.size)
          have HXE := Lib.hid (HXJ.out.later hAl)
          have HAE := Lib.hid (HAJ.out.later hAl)
          have HCE := Lib.hid (HCJ.out.later hAl)
          have HTE := Lib.hid (HTJ.out.trans (Cd.Touch.of_below hAl))
          have HLEN := Lib.hid (show lv.length + 1 ≤ 1000000000000 by rw [HLV.out]; have := HM3.out; omega)
          clear hAl hi him hv14
          go_wp2_with (first | (at_builtin; refine Cd.wpList_appendE (c := Cd.int) rfl rfl (.tmp 52) (.tmp 54) 24 rfl W9.heap.size 3 (.int .i64 0) 8 Try.underlying24 info_i64 rfl (by decide) _ _ _ rfl HAL.out.1 HNJ.out _ _ rfl HAL.out.2 _ _ HA3.out (by simp) (by simp) HLEN.out HAB.out ?_))
          intro g capn w3 fp3 ho3 hn3 hs3 ht3
          have hkq : kx ∉ fv := fun q => by have h1 := HFV.out _ q; have h2 := HKA.out; omega
          have hka : ka ∉ fv := fun q => by have h1 := HFV.out _ q; have h2 := HKA.out; omega
          have hkc : c ∉ fv := fun q => by have h1 := HFV.out _ q; have h2 := HKA.out; omega
          have HX3 := Lib.hid (HXE.out.touched ht3 hkq)
          have HK3 := Lib.hid (HAE.out.touched ht3 hka)
          have HC3 := Lib.hid (HCE.out.keep ht3 hkc (fun b hb => by have h1 := HFV.out _ hb; have h2 := HKA.out; have h3 := HKX.out; omega))
          have HT3 := Lib.hid (touch_old HTE.out ht3 (fun y hy => .inr (HFV.out y hy)))
          have HO3 := Lib.hid (show rowC.ow w3 W9.heap.size _ (lv ++ [(v1 : Int)]) _ from ho3)
          have HF3 := Lib.hid (fun b (h : b ∈ fp3) => (rowC.ow_lt ho3 b h).1)
          have hne : ¬ kx = ka := by have := HKA.out; omega
          have hne2 : ¬ ka = kx := fun q => hne q.symm
          have HNE := Lib.hid hne
          have HN3 := Lib.hid hn3
          clear ho3 hs3 ht3 hkq hka g1 hn3 hkc
          have q0 := HX3.out.c0
          have qf0 := HX3.out.f0
          have a1 := HK3.out.c1
          have af1 := HK3.out.f1
          have v14 : (v1 : Int) < 4 := by have := HV1.out; omega
          have v10 : (0 : Int) ≤ (v1 : Int) := by omega
          have i3 : (i : Int) < 3 := by have := HI.out; have := HM3.out; omega
          have i0 : (0 : Int) ≤ (i : Int) := by omega
          go_wp2_with fail
          go_roundw
          case rel => exact ⟨i + 1, (v1 + 1) % 4, max m2 ((v1 : Int) + 1), _, _, fp3, HI.out, Nat.mod_lt _ (by decide), by go_num, by go_num, by rw [List.length_append, HLV.out]; rfl, by omega, by omega, loc2_set0 (HX3.out.set_far (fun q => HNE.out q.symm) _) _, (loc2_set1 HK3.out _).set_far (fun q => HNE.out q) _, ow_setCell (ow_setCell HO3.out (fun q => by have h1 := HF3.out _ q; have h2 := HKA.out; simp only at h1; omega) _) (fun q => by have h1 := HF3.out _ q; have h2 := HKA.out; simp only at h1; omega) _, HN3.out, (HC3.out.keep (touch_set _) (by simp; have := HKA.out; omega) (fun b hb => by rw [List.mem_singleton.1 hb]; have := HKA.out; have := HKX.out; omega)).keep (touch_set _) (by simp; have := HKX.out; omega) (fun b hb => by rw [List.mem_singleton.1 hb]; have := HKX.out; omega), touch_old (touch_old HT3.out (touch_set _) (fun y hy => .inl (by rw [List.mem_singleton.1 hy]; simp))) (touch_set _) (fun y hy => .inl (by rw [List.mem_singleton.1 hy]; simp))⟩
          case measure => have := HI.out; simp [intOf]; omega
        · have ei : i = m := by omega
          subst ei
          obtain ⟨asl, csl, rfl⟩ := Cd.ow_slice (c := atomC) HOW9.out
          obtain ⟨av, cv, rfl⟩ := Cd.ow_slice HOJ.out
          have hfar : ∀ b ∈ fx, b ∉ [c, kx, ka] := fun b hb q => by
            have h1 := HFX.out b hb
            have h2 := HKA.out
            have h3 := HKX.out
            have h4 := HZR.out
            simp only [List.mem_cons, List.not_mem_nil, or_false] at q
            omega
          have hOA := Cd.ow_touched HOW9.out HTJ.out hfar
          have hAl := below_alloc wr (.cells #[.string nm, .slice av lv.length cv] 130)
          have HOA := Lib.hid (Cd.ow_later hOA hAl)
          have HAT2 := Lib.hid (at2 (row_alloc wr (.cells #[.string nm, .slice av lv.length cv] 130)))
          have HNZ := Lib.hid (show nm.size ≤ maxLen by have := HNS.out; unfold maxLen; omega)
          have HOT := Lib.hid (atom_ow (nm := nm) (rowC.ow_base (Cd.ow_later HOJ.out hAl) (show W5.heap.size ≤ W9.heap.size by have := HKA.out; omega)) HNZ.out)
          have HFF := Lib.hid (show ∀ b ∈ fv, b ∉ fx from fun b hb q => by
            have h1 := HFV.out b hb
            have h2 := (HFX.out b q).2
            have h3 := HZR.out
            have h4 := HKA.out
            omega)
          have HBS := Lib.hid (show W5.heap.size ≤ (wr.alloc (.cells #[.string nm, .slice av lv.length cv] 130)).heap.size by
            have h1 := hAl.size
            have h2 := HTJ.out.size
            have h3 := HKA.out
            omega)
          have HXE := Lib.hid (HXJ.out.later hAl)
          have HCE := Lib.hid (HCJ.out.later hAl)
          have HTE := Lib.hid (HTJ.out.trans (Cd.Touch.of_below hAl))
          have HLK := Lib.hid (show LX.length + 1 ≤ 1000000000 by have := HLZ.out; omega)
          have i1 : ¬ (i : Int) < (i : Int) := by omega
          have g1 := HXJ.out.c1
          have a0 := HAJ.out.c0
          have a1 := HAJ.out.c1
          clear hAl hOA
          go_wp2_with (first | (at_builtin; refine Cd.wpList_appendN (c := atomC) rfl (.tmp 67) (.tmp 69) 58 rfl W5.heap.size 130 (.agg #[.string ⟨#[]⟩, .slice none 0 0]) 2 40 rfl Try.underlying58 info_atom rfl (by decide) _ LX fx rfl HOA.out HND.out wr.heap.size _ rfl HAT2.out (nm, lv) fv HOT.out HNJ.out HFF.out HLK.out HBS.out ?_))
          intro g capn w3 fp3 ho3 hn3 hs3 ht3
          have hkq : kx ∉ fx := fun q => by have h1 := (HFX.out _ q).1; have h2 := HKX.out; omega
          have hkc : c ∉ fx := fun q => by have h1 := (HFX.out _ q).1; have h2 := HKX.out; omega
          have HX3 := Lib.hid (HXE.out.touched ht3 hkq)
          have HC3 := Lib.hid (HCE.out.keep ht3 hkc (fun b hb => by have h1 := (HFX.out _ hb).1; have h3 := HKX.out; omega))
          have HT3 := Lib.hid (touch_old (touch_old HT9.out HTE.out (fun y hy => by
            simp only [List.mem_cons, List.not_mem_nil, or_false] at hy
            rcases hy with r | r | r
            · exact .inl (by rw [r]; simp)
            · exact .inl (by rw [r]; simp)
            · exact .inr (by rw [r]; have := HKA.out; omega))) ht3 (fun y hy => .inr (HFX.out y hy).1))
          have HF3 := Lib.hid (fun b (h : b ∈ fp3) => (atomsC.ow_lt (show atomsC.ow w3 W5.heap.size _ (LX ++ [(nm, lv)]) fp3 from ho3) b h).1)
          have HO3 := Lib.hid (show atomsC.ow w3 W5.heap.size _ (LX ++ [(nm, lv)]) fp3 from ho3)
          have HN3 := Lib.hid hn3
          clear ho3 hn3 hs3 ht3 g1 a0 a1 hkq hkc
          have q1 := HX3.out.c1
          have qf1 := HX3.out.f1
          have z4 : (z : Int) ≤ 4 := by have := HLZ.out; omega
          have z1 : (0 : Int) < (z : Int) := by have := HZ.out; omega
          go_wp2_with fail
          go_roundw
          case rel => exact ⟨z - 1, m2, _, LX ++ [(nm, lv)], fp3, by have := HLZ.out; omega, by have := HZ.out; go_num, by rw [List.length_append]; have := HLZ.out; have := HZ.out; simp only [List.length_cons, List.length_nil]; omega, h20, h24, loc2_set1 HX3.out _, ow_setCell HO3.out (fun q => by have h1 := HF3.out _ q; have h2 := HKX.out; simp only at h1; omega) _, HN3.out, HC3.out.keep (touch_set _) (by simp; have := HKX.out; omega) (fun b hb => by rw [List.mem_singleton.1 hb]; have := HKX.out; omega), touch_old HT3.out (touch_set _) (fun y hy => .inl (by rw [List.mem_singleton.1 hy]; simp))⟩
          case measure => have := HZ.out; simp [intOf]; omega
    · have ez : z = 0 := by omega
      subst ez
      obtain ⟨asl, csl, rfl⟩ := Cd.ow_slice (c := atomC) HOW.out
      have HV := Lib.hid (spec_valid m1 (.slice asl LX.length csl) LX _ wr (atomsC.ow_rd HOW.out))
      have x0 := HX.out.c0
      have x1 := HX.out.c1
      go_wp2_with fail
      clear x0 x1
      refine HV.out.mono ?_
      rintro e w7 ⟨rfl, hb7⟩
      have HX7 := Lib.hid (HX.out.later hb7)
      have HO7 := Lib.hid (Cd.ow_later HOW.out hb7)
      have HC7 := Lib.hid (HCR.out.later hb7)
      have HT7 := Lib.hid (HT.out.trans (Cd.Touch.of_below hb7))
      have HR7 := Lib.hid (HR5.out.touched HT7.out (by simp; have := HKX.out; omega))
      have HQ7 := Lib.hid (HQ5.out.touched HT7.out (by simp; have := HKX.out; omega))
      have HL7 := Lib.hid (Cd.ow_touched HO5.out HT7.out (fun b hb q => by have h1 := HFQ.out b hb; have h2 := HKX.out; simp only [List.mem_cons, List.not_mem_nil, or_false] at q; omega))
      have HTT := Lib.hid (touch_old HT5.out HT7.out (fun y hy => by
        simp only [List.mem_cons, List.not_mem_nil, or_false] at hy
        rcases hy with r | r
        · exact .inl (by rw [r]; simp)
        · exact .inr (by rw [r]; have := HKX.out; omega)))
      clear hb7 HV
      have r0 := HR7.out.c0
      have r1 := HR7.out.c1
      have rf0 := HR7.out.f0
      have rf1 := HR7.out.f1
      have rlt := HR7.out.lt
      cases hv : qOk m1 LX
      · have y0 := HQ7.out.c0
        have y1 := HQ7.out.c1
        have ykl := HQ7.out.lt
        clear hv
        go_wp2_with fail
        obtain ⟨k0, k1⟩ := set2 (w := w7) (k := w.heap.size) (x := .int .i64 N) (y := .slice aq L.length cq) r0 r1
        have hfar : w.heap.size ∉ fq := fun q => by have h1 := (HFQ.out _ q).1; have h2 := HKX.out; omega
        refine bodyPost_ret (v := .agg #[.int .i64 N, .slice aq L.length cq]) (by simp [results, Try.results155, go_sem, k0, k1]) rfl ⟨N, _, L, fq, rfl, ow_setCell (ow_setCell (atomsC.ow_base HL7.out (by have := HKX.out; omega)) hfar _) hfar _, HN2.out, HQ.out, ?_, ?_⟩
        · exact (HC7.out.keep (touch_set _) (by simp; have := HCW.out; omega) (fun b hb => by rw [List.mem_singleton.1 hb]; have := H.out.2.2; have := HCW.out; omega)).keep (touch_set _) (by simp; have := HCW.out; omega) (fun b hb => by rw [List.mem_singleton.1 hb]; have := H.out.2.2; have := HCW.out; omega)
        · exact touch_old (touch_old HTT.out (touch_set _) (fun y hy => .inr (by rw [List.mem_singleton.1 hy]; exact Nat.le_refl _))) (touch_set _) (fun y hy => .inr (by rw [List.mem_singleton.1 hy]; exact Nat.le_refl _))
      · have y0 := HX7.out.c0
        have y1 := HX7.out.c1
        have ykl := HX7.out.lt
        have HVV := Lib.hid hv
        clear hv
        go_wp2_with fail
        obtain ⟨k0, k1⟩ := set2 (w := w7) (k := w.heap.size) (x := .int .i64 m1) (y := .slice asl LX.length csl) r0 r1
        have hfar : w.heap.size ∉ fx := fun q => by have h1 := (atomsC.ow_lt HOW.out _ q).1; have h2 := HKX.out; omega
        refine bodyPost_ret (v := .agg #[.int .i64 m1, .slice asl LX.length csl]) (by simp [results, Try.results155, go_sem, k0, k1]) rfl ⟨m1, _, LX, fx, rfl, ow_setCell (ow_setCell (atomsC.ow_base HO7.out (by have := HKX.out; omega)) hfar _) hfar _, HND.out, HVV.out, ?_, ?_⟩
        · exact (HC7.out.keep (touch_set _) (by simp; have := HCW.out; omega) (fun b hb => by rw [List.mem_singleton.1 hb]; have := H.out.2.2; have := HCW.out; omega)).keep (touch_set _) (by simp; have := HCW.out; omega) (fun b hb => by rw [List.mem_singleton.1 hb]; have := H.out.2.2; have := HCW.out; omega)
        · exact touch_old (touch_old HTT.out (touch_set _) (fun y hy => .inr (by rw [List.mem_singleton.1 hy]; exact Nat.le_refl _))) (touch_set _) (fun y hy => .inr (by rw [List.mem_singleton.1 hy]; exact Nat.le_refl _))
end Go.Proofs.Ytklamhnecncenaa.QryDraw

namespace Go.Proofs.Ytklamhnecncenaa.RegH
open Go

def nth : List Oper → Nat → Option Oper
  | [], _ => none
  | o :: _, 0 => some o
  | _ :: l, n + 1 => nth l n
theorem nth_eq : ∀ (l : List Oper) (i : Nat), nth l i = l.toArray[i]?
  | [], _ => by simp [nth]
  | _ :: _, 0 => by simp [nth]
  | _ :: l, n + 1 => by
    rw [nth, nth_eq l n]
    simp
variable {P : Program} {Q : Exit → Act → World → Prop} {md : Region.Mode} {S : World → Prop} {L : List Oper}
theorem takeH {i : Nat} {oi : Oper} {v : Value} {fuel : Nat} {listed : Array Bool} {a : Act} {w : World} (hi : nth L i = some oi)
    (hs : Region.noSelect L.toArray = true) (hf : Region.free md L.toArray listed i = true) (hr : (Region.ready md L.toArray listed).contains i = true)
    (hQ : ∀ c a w, Q (.panic c) (a.put oi.dst v) w → Q (.panic c) a w) (hy : YieldsIf P L.toArray S oi v a) (hS : S w)
    (h : wpAnyH P md L.toArray Q S fuel (listed.setIfInBounds i true) (a.put oi.dst v) w) : wpAnyH P md L.toArray Q S (fuel + 1) listed a w :=
  wpAnyH_take ((nth_eq L i).symm.trans hi) hs hf hr hQ hy hS h
theorem consH {fuel : Nat} {listed : Array Bool} {a : Act} {w : World} {i : Nat} {o : Oper} (ho : nth L i = some o) (hr : Region.ready md L.toArray listed = [i])
    (h : ∀ K' : Act → World → Prop, Shut (∀ a w, S w → (S w → wpAnyH P md L.toArray Q S fuel (listed.setIfInBounds i true) a w) → K' a w) → if Region.wanted o (yielded L.toArray a.tmps) = true then Oper.wp P o a w K' Q else K' (a.put o.dst undef) w) :
    wpAnyH P md L.toArray Q S (fuel + 1) listed a w :=
  wpAnyH_ready hr (by simp) (AllReadyH.cons ((nth_eq L i).symm.trans ho) h AllReadyH.nil)
theorem consH2 {fuel : Nat} {listed : Array Bool} {a : Act} {w : World} {i j : Nat} {o o2 : Oper} (ho : nth L i = some o) (ho2 : nth L j = some o2) (hr : Region.ready md L.toArray listed = [i, j])
    (h : ∀ K' : Act → World → Prop, Shut (∀ a w, S w → (S w → wpAnyH P md L.toArray Q S fuel (listed.setIfInBounds i true) a w) → K' a w) → if Region.wanted o (yielded L.toArray a.tmps) = true then Oper.wp P o a w K' Q else K' (a.put o.dst undef) w)
    (h2 : ∀ K' : Act → World → Prop, Shut (∀ a w, S w → (S w → wpAnyH P md L.toArray Q S fuel (listed.setIfInBounds j true) a w) → K' a w) → if Region.wanted o2 (yielded L.toArray a.tmps) = true then Oper.wp P o2 a w K' Q else K' (a.put o2.dst undef) w) :
    wpAnyH P md L.toArray Q S (fuel + 1) listed a w :=
  wpAnyH_ready hr (by simp) (AllReadyH.cons ((nth_eq L i).symm.trans ho) h (AllReadyH.cons ((nth_eq L j).symm.trans ho2) h2 AllReadyH.nil))
end Go.Proofs.Ytklamhnecncenaa.RegH
