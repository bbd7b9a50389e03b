/- Queries: read: the program's functions. -/
import Derived.Test.YtdjgaffiildijabDoorQryFmt2
import Derived.Test.YtdjgaffiildijabDoorReads
import Derived.Test.YtdjgaffiildijabDoorSlAtom
import Derived.Lib.IndexMore
import Derived.Lib.SplitLaws
import Derived.StillTailTactics
namespace Go.Proofs.YtdjgaffiildijabDoor.QryPar
open Go Go.RowKit Byt Ints IntsLaw Cd Rows2 Tab TabSpec Exact Atom QryMath QrySpec QryImp MkAtom SlMath Draw
open TabParse (strC strsC info_str cutB ba)
open QryFmt (KeptF strs_at)

theorem info_atom : (Tryd.prog.info? 66).map (fun i => (i.zero, i.size, i.bytes)) = some (some (.agg #[.string ⟨#[]⟩, .slice none 0 0]), 2, 40) := by kernel_rfl
theorem at2 {w : World} {b : Nat} {x y : Value} {e : TypeId} (h : w.heap[b]? = some (.cells #[x, y] e (0, 0))) : Cd.At w b 0 [x, y] := fun j hj => by
  obtain ⟨h0, h1, _⟩ := row2 h
  match j, hj with
  | 0, _ => exact h0
  | 1, _ => exact h1

/-- The number of a variable's name, -1 of any other byte. -/
def ix (b : UInt8) : Int := Lib.indexByte [88, 89, 90, 85] b
def ixs (l : List UInt8) : List Int := l.map ix
theorem ix_vb {x : Int} (h : 0 ≤ x ∧ x < 4) : ix (vb x) = x := by
  rcases c4 h with rfl | rfl | rfl | rfl <;> decide
theorem ix_bd (b : UInt8) : -1 ≤ ix b ∧ ix b ≤ 3 := by
  unfold ix
  simp only [Lib.indexByte]
  (repeat' split) <;> simp
/-- The atom that the program reads of a word. -/
def atI (x : List UInt8) : A2 := (⟨(Lib.cut (Lib.trimSuffix x [41]) [40]).1.toArray⟩, ixs (Lib.cut (Lib.trimSuffix x [41]) [40]).2.1)
theorem index_hit (c : UInt8) : ∀ (a b : List UInt8), c ∉ a → Lib.index (a ++ c :: b) [c] = a.length
  | [], b, _ => by simp [Lib.index, List.isPrefixOf]
  | x :: a, b, h => by
    have hx : ¬ c = x := fun q => h (by rw [q]; exact List.mem_cons_self)
    have ih := index_hit c a b (fun q => h (List.mem_cons_of_mem _ q))
    have hp : List.isPrefixOf [c] (x :: (a ++ c :: b)) = false := by
      have : (c == x) = false := by rw [beq_eq_false_iff_ne]; exact hx
      simp [List.isPrefixOf, this]
    show Lib.index (x :: (a ++ c :: b)) [c] = _
    unfold Lib.index
    rw [hp, ih]
    have : ((a.length : Int) == -1) = false := by rw [beq_eq_false_iff_ne]; omega
    rw [this]
    simp
theorem cut_hit (c : UInt8) (a b : List UInt8) (h : c ∉ a) : Lib.cut (a ++ c :: b) [c] = (a, b, true) := by
  unfold Lib.cut
  rw [index_hit c a b h, if_pos (by omega)]
  simp
theorem cut_bd (c : UInt8) (l : List UInt8) : (Lib.cut l [c]).1.length ≤ l.length ∧ (Lib.cut l [c]).2.1.length ≤ l.length := by
  unfold Lib.cut
  split
  · simp only [List.length_take, List.length_drop]
    omega
  · simp
theorem trim_bd (l p : List UInt8) : (Lib.trimSuffix l p).length ≤ l.length := by
  unfold Lib.trimSuffix
  split
  · rw [List.length_take]; omega
  · exact Nat.le_refl _
theorem trim_hit (l : List UInt8) : Lib.trimSuffix (l ++ [41]) [41] = l := by
  unfold Lib.trimSuffix Lib.hasSuffix
  have : List.isSuffixOf [41] (l ++ [41]) = true := by
    rw [List.isSuffixOf_iff_suffix]
    exact List.suffix_append l [41]
  rw [this]
  simp
theorem atI_atomB {n : Int} {A : A2} (h : AtP n A) (h4 : n ≤ 4) : atI (atomB A) = A := by
  have hn := of_decide_eq_true h.1
  have hl : A.1.data.toList.length = 1 := by rw [Array.length_toList]; exact hn.1
  obtain ⟨⟨⟨nm⟩⟩, vs⟩ := A
  match nm, hl with
  | [y], _ =>
    have hv : ∀ vs : List Int, In4 vs → ixs (vs.map vb) = vs := by
      intro vs
      induction vs with
      | nil => intro _; rfl
      | cons x xs ih =>
        intro hi
        have h1 := ih fun y hy => hi y (List.mem_cons_of_mem _ hy)
        unfold ixs at *
        rw [List.map_cons, List.map_cons, ix_vb (hi x List.mem_cons_self), h1]
    have hin : In4 vs := fun x hx => by have := h.2.2.2.1 x hx; omega
    have hy : (40 : UInt8) ∉ [y] := by
      intro q
      rw [List.mem_singleton] at q
      have h2 := hn.2.1
      simp only [List.headD_cons] at h2
      rw [← q] at h2
      exact absurd h2 (by decide)
    have e : atomB (⟨⟨[y]⟩⟩, vs) = ([y] ++ 40 :: vs.map vb) ++ [41] := by simp [atomB]
    unfold atI
    rw [e, trim_hit, cut_hit 40 _ _ hy]
    simp only
    rw [hv vs hin]
/-- The words of a string, as the program cuts it. -/
def wordsK (l : List UInt8) : List (List UInt8) := Lib.splitK [32] 0 (Lib.count l [32]) l
theorem words_of : ∀ (x : List UInt8) (xs : List (List UInt8)), (∀ y ∈ x :: xs, ∀ b ∈ y, b ≠ (32 : UInt8)) → wordsK (x ++ (xs.map fun y => 32 :: y).flatten) = x :: xs
  | x, [], h => by
    have h0 : x.count 32 = 0 := List.count_eq_zero.2 fun q => h x List.mem_cons_self 32 q rfl
    unfold wordsK
    simp only [List.map_nil, List.flatten_nil, List.append_nil]
    rw [Lib.count_one, h0]
    rfl
  | x, y :: ys, h => by
    have h0 : x.count 32 = 0 := List.count_eq_zero.2 fun q => h x List.mem_cons_self 32 q rfl
    have ih := words_of y ys fun z hz => h z (List.mem_cons_of_mem _ hz)
    have hnx : (32 : UInt8) ∉ x := fun q => h x List.mem_cons_self 32 q rfl
    have e : x ++ ((y :: ys).map fun y => 32 :: y).flatten = x ++ 32 :: (y ++ (ys.map fun y => 32 :: y).flatten) := by simp
    unfold wordsK at *
    rw [e]
    generalize y ++ (ys.map fun y => 32 :: y).flatten = t at *
    have hc : Lib.count (x ++ 32 :: t) [32] = Lib.count t [32] + 1 := by
      rw [Lib.count_one, Lib.count_one, List.count_append, h0, List.count_cons_self]
      omega
    rw [hc]
    unfold Lib.splitK
    rw [index_hit 32 x t hnx]
    have hne : ((x.length : Int) == -1) = false := by rw [beq_eq_false_iff_ne]; omega
    rw [hne]
    simp only [Bool.false_eq_true, if_false, Int.toNat_natCast, Nat.add_zero, List.length_cons, List.length_nil]
    have e1 : (x ++ 32 :: t).take x.length = x := by simp
    have e2 : (x ++ 32 :: t).drop (x.length + (0 + 1)) = t := by
      rw [List.drop_append]
      simp
    rw [e1, e2, ih]
theorem words_qB {n : Int} {l : List A2} (h : QP n l) : wordsK (qB l) = l.map atomB := by
  have ha := h.2.2.2.2.1
  have h1 := h.2.2.1
  match l, h1 with
  | A :: As, _ =>
    have := words_of (atomB A) (As.map atomB) (fun y hy => by
      have hy2 : y ∈ (A :: As).map atomB := hy
      obtain ⟨B, hB, rfl⟩ := List.mem_map.1 hy2
      exact noSp_atomB (ha B hB))
    rw [List.map_map] at this
    exact this
def iL (s : ByteArray) : List A2 := (wordsK s.data.toList).map atI
def iN (s : ByteArray) : Int := mx (allV (iL s))
def iOk (s : ByteArray) : Bool := qOk (iN s) (iL s) && decide (fmtQ (iN s) (iL s) = s)
theorem iOk_iff {s : ByteArray} : iOk s = true ↔ qOk (iN s) (iL s) = true ∧ fmtQ (iN s) (iL s) = s := by unfold iOk; simp
theorem i_of_p {s : ByteArray} (h : pOk s = true) : iOk s = true ∧ iN s = pN s ∧ iL s = pL s := by
  obtain ⟨h1, h2⟩ := pOk_iff.1 h
  have hq := qOk_iff.1 h1
  have e : s.data.toList = qB (pL s) := by
    conv => lhs; rw [← h2, fmtQ_yes h1]
  have e2 : iL s = pL s := by
    unfold iL
    rw [e, words_qB hq, List.map_map]
    have : ∀ A ∈ pL s, (atI ∘ atomB) A = A := fun A hA => atI_atomB (hq.2.2.2.2.1 A hA) hq.2.1
    rw [List.map_congr_left this, List.map_id']
  have e3 : iN s = pN s := by unfold iN; rw [e2, mx_all hq]
  exact ⟨by unfold iOk; rw [e2, e3, h1, h2]; simp, e3, e2⟩
theorem p_of_i {s : ByteArray} (h : iOk s = true) : pOk s = true := by
  obtain ⟨h1, h2⟩ := iOk_iff.1 h
  exact (of_fmt h1 h2).2.2.2
theorem i_no {s : ByteArray} (h : iOk s = false) : pOk s = false := by
  cases hp : pOk s
  · rfl
  · rw [(i_of_p hp).1] at h; cases h
/-- What is read of a string. -/
def QAns (s : ByteArray) (w : World) (e : Ending) (w' : World) : Prop :=
  ∃ u fp, e = .returned (.tuple #[.agg #[.int .i64 (if pOk s then pN s else 0), u], .bool (pOk s)]) ∧ atomsC.ow w' w.heap.size [u] (if pOk s then pL s else []) fp ∧ fp.Nodup ∧ Below w.heap.size w w'
theorem QAns.no {s : ByteArray} {w w' : World} (h : pOk s = false) (hb : Below w.heap.size w w') : QAns s w (.returned (.tuple #[.agg #[.int .i64 0, .slice none 0 0], .bool false])) w' :=
  ⟨.slice none 0 0, [], by simp [h], by rw [h]; exact Cd.ow_nil _ _, by simp, hb⟩
theorem QAns.yes {s : ByteArray} {w w' : World} {n : Int} {l : List A2} {u : Value} {fp : List Nat} (h : pOk s = true) (e1 : n = pN s) (e2 : l = pL s) (ho : atomsC.ow w' w.heap.size [u] l fp) (hn : fp.Nodup) (hb : Below w.heap.size w w') : QAns s w (.returned (.tuple #[.agg #[.int .i64 n, u], .bool true])) w' := by
  subst e1 e2
  exact ⟨u, fp, by simp [h], by rw [h]; exact ho, hn, hb⟩

theorem info_u8 : (Tryd.prog.info? 5).map (fun i => (i.zero, i.size, i.bytes)) = some (some (.int .u8 0), 1, 1) := by kernel_rfl
theorem cell_of_bytes {w : World} {v : Value} {l : List UInt8} {B : Nat} (h : Reads w v l B) {k : Nat} (hk : k < l.length) :
    ∃ b off cap, v = .slice (some ⟨b, off, none⟩) l.length cap ∧ b < B ∧ w.cell? ⟨b, off + k, none⟩ = some (.int .u8 (l[k].toNat : Int)) := by
  obtain ⟨a, cap, rfl, _, hc⟩ := h
  rcases hc with h0 | ⟨b, off, rfl, hb, hcell⟩
  · rw [h0] at hk; simp at hk
  · exact ⟨b, off, cap, rfl, hb, hcell k hk⟩
theorem reads_mono {w : World} {v : Value} {l : List UInt8} {B B' : Nat} (h : Reads w v l B) (hB : B ≤ B') : Reads w v l B' := by
  obtain ⟨a, cap, h1, h2, h3⟩ := h
  refine ⟨a, cap, h1, h2, h3.imp id ?_⟩
  rintro ⟨b, off, e, hb, hc⟩
  exact ⟨b, off, e, by omega, hc⟩


theorem parse_var (b : UInt8) (w : World) :
    Calls Tryd.prog 120 #[.int .u8 (b.toNat : Int)] w fun e w' => e = .returned (.int .i64 (ix b)) ∧ w = w' := by
  have h0 : Calls Tryd.prog 145 #[.string ⟨#[88, 89, 90, 85]⟩, .int .u8 (b.toNat : Int)] w fun e w' => e = .returned (.int .i64 (ix b)) ∧ w = w' := by
    have h := Tryd.strings_IndexByte ⟨#[88, 89, 90, 85]⟩ (b.toNat : Int) w
    have e : ((b.toNat : Int)).toNat.toUInt8 = b := by
      rw [Int.toNat_natCast]
      exact UInt8.ofNat_toNat
    rw [e] at h
    exact h.mono fun _ _ q => ⟨q.1, q.2.symm⟩
  have H := Lib.hid h0
  clear h0
  generalize ix b = z at *
  go_enter Tryd.func120, Tryd.ntmps120
  go_wp2_with (go_at_call 145; refine H.out.mono ?_; rintro e w1 ⟨rfl, rfl⟩)
  go_ret
  exact ⟨rfl, rfl⟩
set_option maxRecDepth 100000 in
theorem map_vars (v : Value) (l : List UInt8) (B : Nat) (w : World) (hr : Reads w v l B) (hB : B ≤ w.heap.size) (h16 : l.length ≤ 1048577) :
    Calls Tryd.prog 110 #[v, .func (.func 120) #[] #[]] w fun e w' => ∃ v', e = .returned v' ∧ OwnI w' w.heap.size 3 v' (ixs l) ∧ Below w.heap.size w w' := by
  obtain ⟨i0, hi, hz0, hz1, hz2⟩ := info_parts info_i64
  have HR := Lib.hid (fun w' (hb : Below w.heap.size w w') => (reads_mono hr hB).later hb)
  obtain ⟨a, cap, rfl, hlm, _⟩ := hr
  go_enter Tryd.func110, Tryd.ntmps110
  go_wp2_with (at_make; refine wpList_make_own _ rfl _ _ 57 rfl w.heap.size 3 i0 (.int .i64 0) 1 Tryd.underlying57 hi hz0 hz1 _ _ _ l.length rfl rfl rfl (by rw [hz2]; omega) (by unfold maxLen; omega) (Nat.le_refl _) ?_)
  intro w1 hown0 hg0
  have hown1 : OwnI w1 w.heap.size 3 (.slice (some ⟨w.heap.size, 0, none⟩) 0 l.length) [] := hown0
  have hb1 : Below w.heap.size w w1 := (Below.refl _ _).grown hg0 (Nat.le_refl _) (by simp)
  clear hown0 hg0
  go_wp2
  go_loopw [5, 13] (fun o i wr => ∃ k : Nat, k ≤ l.length ∧ i = .int .i64 k ∧ OwnI wr w.heap.size 3 o (ixs (l.take k)) ∧ Below w.heap.size w wr) (fun _ i _ => l.length - (intOf i).toNat)
  case atStart => exact ⟨0, Nat.zero_le _, rfl, by simpa [ixs] using hown1, hb1⟩
  case round =>
    obtain ⟨k, hk, rfl, hown, hb⟩ := hrel
    by_cases hlt : k < l.length
    · obtain ⟨b, off, cap', e1, hbB, hc⟩ := cell_of_bytes (HR.out wr hb) hlt
      injection e1 with e1 e2 e3
      subst e1 e3
      have HC := Lib.hid (parse_var l[k] wr)
      have hlen : (ixs (l.take k)).length + 1 ≤ 1000000000000 := by unfold ixs; rw [List.length_map, List.length_take]; omega
      have hbs := hb.size
      have HB := Lib.hid hb
      have HT := Lib.hid (show ixs (l.take (k + 1)) = ixs (l.take k) ++ [ix l[k]] by unfold ixs; rw [List.take_succ_eq_append_getElem hlt, List.map_append]; rfl)
      clear hb
      generalize ix l[k] = iz at *
      generalize l[k] = z at *
      go_wp2_with (first | (go_at_call 120; refine HC.out.mono ?_; rintro e w1 ⟨rfl, rfl⟩) | (at_builtin; refine wp_appendI rfl (.tmp 17) (.tmp 21) 57 rfl w.heap.size 3 Tryd.underlying57 info_i64 _ _ rfl hown _ rfl hlen hbs ?_))
      intro v' w5 hown5 hb5
      go_wp2_with fail
      go_roundw
      case rel => exact ⟨k + 1, by omega, by go_num, by rw [HT.out]; exact hown5, HB.out.trans hb5⟩
      case measure => simp [intOf]; omega
    · have ek : k = l.length := by omega
      subst ek
      rw [List.take_length] at hown
      go_wp2_with fail
      go_ret
      exact ⟨_, rfl, hown, hb⟩

/-- What '[]byte(s)' lays can be read. -/
theorem reads_row (s : ByteArray) (c : Nat) (w : World) (e : TypeId) (hs : s.size ≤ 1048577) :
    Reads (w.drew.alloc (.cells (bytesRow s c) e ((bytesRow s c).size, (bytesRow s c).size + 1))) (.slice (some ⟨w.heap.size, 0, none⟩) s.data.toList.length c) s.data.toList (w.heap.size + 1) := by
  have hl : s.data.toList.length = s.size := Array.length_toList
  refine ⟨_, c, rfl, by omega, .inr ⟨w.heap.size, 0, rfl, by omega, fun t ht => ?_⟩⟩
  have h := World.cell?_alloc_mark w.drew (bytesRow s c) e ((bytesRow s c).size, (bytesRow s c).size + 1) t
  rw [Nat.zero_add]
  refine h.trans ?_
  rw [bytesRow_at s _ t (by omega)]
  simp

theorem bytes_laid (s : ByteArray) (w : World) (hs : s.size ≤ 1048577) :
    ∃ c w1, (convert 9 53 (.string s)).run Tryd.prog w = .ok (.slice (some ⟨w.heap.size, 0, none⟩) s.size c) w1 ∧
      Reads w1 (.slice (some ⟨w.heap.size, 0, none⟩) s.size c) s.data.toList w1.heap.size ∧ w1.heap.size = w.heap.size + 1 ∧ Below w.heap.size w w1 := by
  have hrd := reads_row s (grownCap w s.size 0 5) w 5 hs
  rw [show s.data.toList.length = s.size from Array.length_toList] at hrd
  have hz : (w.drew.alloc (.cells (bytesRow s (grownCap w s.size 0 5)) 5 ((bytesRow s (grownCap w s.size 0 5)).size, (bytesRow s (grownCap w s.size 0 5)).size + 1))).heap.size = w.heap.size + 1 := Array.size_push _
  refine ⟨_, _, run_bytes_of_string (P := Tryd.prog) w 9 53 5 s Tryd.underlying9 Tryd.underlying53 Tryd.underlying5, ?_, hz, ?_⟩
  · rw [hz]; exact hrd
  · have h := (Below.refl w.heap.size w.drew).alloc (Nat.le_refl _) (.cells (bytesRow s (grownCap w s.size 0 5)) 5 ((bytesRow s (grownCap w s.size 0 5)).size, (bytesRow s (grownCap w s.size 0 5)).size + 1))
    exact below_undrew ⟨h.os, h.tape, h.output, h.size, h.block⟩



theorem inr_ixs (l : List UInt8) : InR (ixs l) := by
  intro x hx
  unfold ixs at hx
  obtain ⟨b, _, rfl⟩ := List.mem_map.1 hx
  have := ix_bd b
  omega
end Go.Proofs.YtdjgaffiildijabDoor.QryPar
