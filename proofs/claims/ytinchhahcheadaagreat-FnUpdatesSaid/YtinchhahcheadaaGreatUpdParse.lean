/- Updates: read: the model's function and the program's. -/
import Derived.Test.YtinchhahcheadaaGreatUpdFmt2
import Derived.Test.YtinchhahcheadaaGreatTabParse
import Derived.Test.YtinchhahcheadaaGreatTabImp5
import Derived.Deep.DeepCutAuto
namespace Go.Proofs.YtinchhahcheadaaGreat.UpdParse
open Go Go.RowKit Byt Ints IntsLaw Cd Rows2 Tab TabSpec Exact Upd TabFmt UpdFmt TabParse

theorem len_s (s : ByteArray) : s.data.toList.length = s.size := Array.length_toList
def uN (s : ByteArray) : ByteArray := s.extract 1 2
def uB (s : ByteArray) : Bool := decide (s.data.toList.headD 0 = 43)
def uR (s : ByteArray) : List Int := vals (s.extract 2 s.size).data.toList
def uOk (s : ByteArray) : Bool := decide (0 < s.size ∧ fmtU (uN s) (uB s) (uR s) = s)
/-- What is read of a string. -/
def UAns (s : ByteArray) (w : World) (e : Ending) (w' : World) : Prop :=
  ∃ u fp, e = .returned (.tuple #[.agg #[.string (if uOk s then uN s else ⟨#[]⟩), .bool (if uOk s then uB s else false), u], .bool (uOk s)]) ∧ rowC.ow w' w.heap.size [u] (if uOk s then uR s else []) fp ∧ fp.Nodup ∧ Below w.heap.size w w'
theorem uOk_len {s : ByteArray} (h : uOk s = true) : 3 ≤ s.size ∧ s.size ≤ 5 := by
  obtain ⟨h0, h1⟩ := of_decide_eq_true h
  by_cases hk : updOk (uN s) (uR s) = true
  · rw [fmtU_yes hk] at h1
    have h2 := congrArg ByteArray.size h1
    have h3 : (updB (uN s) (uB s) (uR s)).length = s.size := by rw [← h2]; simp [ByteArray.size]
    unfold updOk at hk
    simp only [Bool.and_eq_true, decide_eq_true_eq] at hk
    have h4 : (uN s).data.toList.length = 1 := by rw [len_s]; exact (of_decide_eq_true hk.1.1).1
    unfold updB at h3
    rw [List.length_cons, List.length_append, h4, digB_len] at h3
    omega
  · rw [fmtU_no (by simpa using hk)] at h1
    rw [← h1] at h0
    exact absurd h0 (by decide)
theorem UAns.no {s : ByteArray} {w w' : World} (h : uOk s = false) (hb : Below w.heap.size w w') : UAns s w (.returned (.tuple #[.agg #[.string ⟨#[]⟩, .bool false, .slice none 0 0], .bool false])) w' :=
  ⟨.slice none 0 0, [], by simp [h], by rw [h]; exact Cd.ow_nil _ _, by simp, hb⟩
theorem UAns.yes {s : ByteArray} {w w' : World} {u : Value} {fp : List Nat} (h : uOk s = true) (ho : rowC.ow w' w.heap.size [u] (uR s) fp) (hn : fp.Nodup) (hb : Below w.heap.size w w') : UAns s w (.returned (.tuple #[.agg #[.string (uN s), .bool (uB s), u], .bool true])) w' :=
  ⟨u, fp, by simp [h], by rw [h]; exact ho, hn, hb⟩

/-- A local update, made behind W1. -/
def MadeU (W1 : World) (nm : ByteArray) (b : Bool) (row : List Int) (s4 : Value) (wx : World) : Prop :=
  ∃ k a c fp, s4 = .pointer (some ⟨k, 0, none⟩) ∧ W1.heap.size ≤ k ∧ Loc3 wx k (.string nm) (.bool b) (.slice a row.length c) ∧ rowC.ow wx W1.heap.size [.slice a row.length c] row fp ∧ fp.Nodup ∧ Below W1.heap.size W1 wx
theorem madeU {W1 wq : World} {k : Nat} {a : Option Addr} {c n : Nat} {x0 x1 x2 : Value} {nm : ByteArray} {b : Bool} {row : List Int} {fp : List Nat} (kk : LaterU W1 wq) (hb : W1.heap.size ≤ k) (GL : Loc3 wq k x0 x1 x2)
    (HO : rowC.ow wq W1.heap.size [.slice a n c] row fp) (hn : n = row.length) (hnd : fp.Nodup) (hbn : k ∉ fp) :
    MadeU W1 nm b row (.pointer (some ⟨k, 0, none⟩)) (((wq.setCell ⟨k, 0, none⟩ (.string nm)).setCell ⟨k, 1, none⟩ (.bool b)).setCell ⟨k, 2, none⟩ (.slice a n c)) := by
  subst hn
  obtain ⟨c0, c1, c2, f0, f1, f2⟩ := GL
  obtain ⟨k0, k1, k2⟩ := set3 (w := wq) (k := k) (x := .string nm) (y := .bool b) (z := .slice a row.length c) c0 c1 c2
  exact ⟨k, a, c, fp, rfl, hb, ⟨k0, k1, k2, by simpa using f0, by simpa using f1, by simpa using f2⟩, ow_setCell (ow_setCell (ow_setCell HO hbn _) hbn _) hbn _, hnd, ((Below.setCell kk hb _).setCell hb _).setCell hb _⟩
theorem madeU2 {W1 wq : World} {a : Option Addr} {c n : Nat} {T : TypeId} {nm : ByteArray} {b : Bool} {row : List Int} {fp : List Nat} (kk : LaterU W1 wq)
    (HO : rowC.ow wq W1.heap.size [.slice a n c] row fp) (hn : n = row.length) (hnd : fp.Nodup) :
    MadeU W1 nm b row (.pointer (some ⟨wq.heap.size, 0, none⟩)) (wq.alloc (.cells #[.string nm, .bool b, .slice a n c] T (0, 0))) := by
  subst hn
  exact ⟨wq.heap.size, a, c, fp, rfl, Below.size kk, Loc3.of (start1 wq _ rfl).1, Cd.ow_later HO (below_alloc _ _), hnd, below_then kk (below_alloc _ _)⟩

theorem laterU_alloc {a w : World} (h : LaterU a w) (o : Obj) : LaterU a (w.alloc o) := below_then h (below_alloc w o)
theorem laterU_set3 {a w : World} {k : Nat} {x y z : Value} (h : LaterU a w) (hk : a.heap.size ≤ k) : LaterU a (((w.setCell ⟨k, 0, none⟩ x).setCell ⟨k, 1, none⟩ y).setCell ⟨k, 2, none⟩ z) :=
  ((Below.setCell h hk _).setCell hk _).setCell hk _
theorem laterU_size {a w : World} (h : LaterU a w) : a.heap.size ≤ w.heap.size := Below.size h
theorem locU_new {W wq : World} {x0 x1 x2 : Value} {T : TypeId} (hb : Below (W.alloc (.cells #[x0, x1, x2] T (0, 0))).heap.size (W.alloc (.cells #[x0, x1, x2] T (0, 0))) wq) : Loc3 wq W.heap.size x0 x1 x2 :=
  (Loc3.of (start1 W _ rfl).1).later hb
theorem locU_new' {W wq : World} {x0 x1 x2 : Value} {T : TypeId} (hb : Below (W.drew.alloc (.cells #[x0, x1, x2] T (0, 0))).heap.size (W.drew.alloc (.cells #[x0, x1, x2] T (0, 0))) wq) : Loc3 wq W.heap.size x0 x1 x2 := locU_new (W := W.drew) hb
theorem newU_lt {W wq : World} {x0 x1 x2 : Value} {T : TypeId} (_ : Below (W.alloc (.cells #[x0, x1, x2] T (0, 0))).heap.size (W.alloc (.cells #[x0, x1, x2] T (0, 0))) wq) : W.heap.size < (W.alloc (.cells #[x0, x1, x2] T (0, 0))).heap.size := by rw [size_alloc]; omega

theorem locU_new3 {W wq : World} {x0 x1 x2 : Value} {T : TypeId} (hb : Below (W.alloc (.cells #[x0, x1, x2] T (0, 0))).drew.heap.size (W.alloc (.cells #[x0, x1, x2] T (0, 0))).drew wq) : Loc3 wq W.heap.size x0 x1 x2 :=
  (loc_drew (Loc3.of (start1 W _ rfl).1)).later hb
theorem newU_lt3 {W wq : World} {x0 x1 x2 : Value} {T : TypeId} (_ : Below (W.alloc (.cells #[x0, x1, x2] T (0, 0))).drew.heap.size (W.alloc (.cells #[x0, x1, x2] T (0, 0))).drew wq) : W.heap.size < (W.alloc (.cells #[x0, x1, x2] T (0, 0))).drew.heap.size := by
  show W.heap.size < (W.alloc (.cells #[x0, x1, x2] T (0, 0))).heap.size
  rw [size_alloc]; omega
theorem u_byte {s : ByteArray} (h : 0 < s.size) : (((s[0]'h).toNat : Int) == 43) = uB s := by
  have hl : 0 < s.data.toList.length := by rw [len_s]; exact h
  have e : s.data.toList.headD 0 = s[0] := by
    rw [List.headD_eq_head?_getD, List.head?_eq_getElem?, List.getElem?_eq_getElem hl]
    rfl
  unfold uB
  rw [e]
  by_cases q : s[0] = 43
  · rw [q, decide_eq_true rfl]; rfl
  · rw [decide_eq_false q, beq_eq_false_iff_ne]
    intro c
    exact q (UInt8.toNat_inj.1 (by show s[0].toNat = 43; omega))

end Go.Proofs.YtinchhahcheadaaGreat.UpdParse
