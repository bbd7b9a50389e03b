/- What the exact laws do with tables: sized, copied, compared, marked, looked at. -/
import Derived.Test.YtnoennmhifmolaaRows2
namespace Go.Proofs.Ytnoennmhifmolaa.Tab
open Go Go.RowKit Byt Ints IntsLaw Cd Rows2

theorem rd_alloc {α : Type} {c : Cd α} {w : World} {S : Nat → Prop} {us : List Value} {a : α} (h : c.rd w S us a) (o : Obj) : c.rd (w.alloc o) S us a := c.keep h fun b _ hlt => Below.heap_alloc w o b hlt
theorem ow_setCell {α : Type} {c : Cd α} {w : World} {base : Nat} {us : List Value} {a : α} {fp : List Nat} (h : c.ow w base us a fp) {p : Addr} (hp : p.block ∉ fp) (v : Value) : c.ow (w.setCell p v) base us a fp :=
  c.ow_keep h fun b hb => Below.heap_setCell w p v b fun q => hp (q ▸ hb)
/-- A row of three cells. -/
theorem row3 {w : World} {k : Nat} {a b c : Value} {e : TypeId} (h : w.heap[k]? = some (.cells #[a, b, c] e (0, 0))) :
    w.cell? ⟨k, 0, none⟩ = some a ∧ w.cell? ⟨k, 1, none⟩ = some b ∧ w.cell? ⟨k, 2, none⟩ = some c ∧ w.frozen? ⟨k, 0, none⟩ = false ∧ w.frozen? ⟨k, 1, none⟩ = false ∧ w.frozen? ⟨k, 2, none⟩ = false :=
  ⟨by simp [World.cell?, h], by simp [World.cell?, h], by simp [World.cell?, h], by simp [World.frozen?, h], by simp [World.frozen?, h], by simp [World.frozen?, h]⟩
theorem row_alloc (w : World) (o : Obj) : (w.alloc o).heap[w.heap.size]? = some o := heap_alloc_new w o
theorem row_later {w w' : World} {k : Nat} {o : Obj} (h : w.heap[k]? = some o) (hb : Below w.heap.size w w') : w'.heap[k]? = some o := (hb.block k (Array.getElem?_eq_some_iff.1 h).1).trans h
theorem row_older {w : World} {k : Nat} {o : Obj} (h : w.heap[k]? = some o) (o' : Obj) : (w.alloc o').heap[k]? = some o := (Below.heap_alloc w o' k (Array.getElem?_eq_some_iff.1 h).1).trans h
theorem size_alloc (w : World) (o : Obj) : (w.alloc o).heap.size = w.heap.size + 1 := Array.size_push _
theorem below_alloc (w : World) (o : Obj) : Below w.heap.size w (w.alloc o) := (Below.refl _ _).alloc (Nat.le_refl _) o
theorem below_then {w a b : World} (h : Below w.heap.size w a) (k : Below a.heap.size a b) : Below w.heap.size w b := h.trans (k.mono h.size)
theorem start3 (w : World) (o0 o1 o2 : Obj) {W : World} (h : ((w.alloc o0).alloc o1).alloc o2 = W) :
    W.heap[w.heap.size]? = some o0 ∧ W.heap[w.heap.size + 1]? = some o1 ∧ W.heap[w.heap.size + 2]? = some o2 ∧ W.heap.size = w.heap.size + 3 ∧ Below w.heap.size w W := by
  subst h
  have h0 := row_older (row_older (row_alloc w o0) o1) o2
  have h1 := row_older (row_alloc (w.alloc o0) o1) o2
  have h2 := row_alloc ((w.alloc o0).alloc o1) o2
  rw [size_alloc] at h1
  rw [size_alloc, size_alloc] at h2
  exact ⟨h0, h1, h2, by rw [size_alloc, size_alloc, size_alloc], below_then (below_then (below_alloc w o0) (below_alloc _ o1)) (below_alloc _ o2)⟩
theorem start2g (w : World) (o0 o1 : Obj) {W : World} (h : (w.alloc o0).alloc o1 = W) :
    W.heap[w.heap.size]? = some o0 ∧ W.heap[w.heap.size + 1]? = some o1 ∧ W.heap.size = w.heap.size + 2 ∧ Below w.heap.size w W := by
  subst h
  have h0 := row_older (row_alloc w o0) o1
  have h1 := row_alloc (w.alloc o0) o1
  rw [size_alloc] at h1
  exact ⟨h0, h1, by rw [size_alloc, size_alloc], below_then (below_alloc w o0) (below_alloc _ o1)⟩
theorem start1 (w : World) (o0 : Obj) {W : World} (h : w.alloc o0 = W) : W.heap[w.heap.size]? = some o0 ∧ W.heap.size = w.heap.size + 1 ∧ Below w.heap.size w W := by
  subst h
  exact ⟨row_alloc w o0, size_alloc w o0, below_alloc w o0⟩

theorem set3 {w : World} {k : Nat} {a b c x y z : Value} (c0 : w.cell? ⟨k, 0, none⟩ = some a) (c1 : w.cell? ⟨k, 1, none⟩ = some b) (c2 : w.cell? ⟨k, 2, none⟩ = some c) :
    (((w.setCell ⟨k, 0, none⟩ x).setCell ⟨k, 1, none⟩ y).setCell ⟨k, 2, none⟩ z).cell? ⟨k, 0, none⟩ = some x ∧ (((w.setCell ⟨k, 0, none⟩ x).setCell ⟨k, 1, none⟩ y).setCell ⟨k, 2, none⟩ z).cell? ⟨k, 1, none⟩ = some y ∧ (((w.setCell ⟨k, 0, none⟩ x).setCell ⟨k, 1, none⟩ y).setCell ⟨k, 2, none⟩ z).cell? ⟨k, 2, none⟩ = some z := by
  have e0 : (w.setCell ⟨k, 0, none⟩ x).cell? ⟨k, 0, none⟩ = some x := World.cell?_setCell_same _ _ _ c0
  have e1 : (w.setCell ⟨k, 0, none⟩ x).cell? ⟨k, 1, none⟩ = some b := by rw [World.cell?_setCell_other _ _ _ _ (by simp)]; exact c1
  have e2 : (w.setCell ⟨k, 0, none⟩ x).cell? ⟨k, 2, none⟩ = some c := by rw [World.cell?_setCell_other _ _ _ _ (by simp)]; exact c2
  have g1 : ((w.setCell ⟨k, 0, none⟩ x).setCell ⟨k, 1, none⟩ y).cell? ⟨k, 1, none⟩ = some y := World.cell?_setCell_same _ _ _ e1
  have g2 : ((w.setCell ⟨k, 0, none⟩ x).setCell ⟨k, 1, none⟩ y).cell? ⟨k, 2, none⟩ = some c := by rw [World.cell?_setCell_other _ _ _ _ (by simp)]; exact e2
  refine ⟨?_, ?_, World.cell?_setCell_same _ _ _ g2⟩
  · rw [World.cell?_setCell_other _ _ _ _ (by simp), World.cell?_setCell_other _ _ _ _ (by simp)]; exact e0
  · rw [World.cell?_setCell_other _ _ _ _ (by simp)]; exact g1

def tabWt (nm : ByteArray) (rows : List (List Int)) : Nat := nm.size + rowsWt rows

set_option maxRecDepth 100000 in
theorem sz_table (nm : ByteArray) (ar : Int) (u : Value) (rows : List (List Int)) (S : Nat → Prop) (L : Nat) (w : World) (hs : nm.size ≤ maxLen) (hr : rowsC.rd w S [u] rows) (hL : L ≤ 1048576) :
    Calls Try.prog 36 #[.agg #[.string nm, .int .i64 ar, u], .int .i64 L] w fun e w' => e = .returned (.int .i64 (leftI L (tabWt nm rows))) ∧ Below w.heap.size w w' := by
  have hsz : nm.size ≤ 9223372036854775807 := by unfold maxLen at hs; omega
  have HR := Lib.hid hr
  clear hr hs
  by_cases h0 : nm.size ≤ L
  case neg =>
    have HZ := Lib.hid (show leftI L (tabWt nm rows) = -1 from left_no (by unfold tabWt; omega))
    go_enter Try.func36, Try.ntmps36
    go_wp2
    go_ret
    exact ⟨ret_int HZ.out.symm, below_alloc _ _⟩
  have e1 : ((L - nm.size : Nat) : Int) = (L : Int) - (nm.size : Int) := by omega
  have HC := Lib.hid (fun w' (hb : Below w.heap.size w w') => sz_rows u rows S (L - nm.size) w' (Cd.later HR.out hb) (by omega))
  rw [e1] at HC
  have HD := Lib.hid h0
  have hge : ¬ ((L : Int) - (nm.size : Int) < 0) := by omega
  have HW := Lib.hid (show leftI (L - nm.size) (rowsWt rows) = leftI L (tabWt nm rows) by
    unfold leftI tabWt
    split <;> split <;> omega)
  rw [HW.out] at HC
  have hbd : -1 ≤ leftI L (tabWt nm rows) ∧ leftI L (tabWt nm rows) ≤ 1048576 := by unfold leftI; split <;> omega
  have HN := Lib.hid (show leftI L (tabWt nm rows) < 0 → leftI L (tabWt nm rows) = -1 by unfold leftI; split <;> omega)
  clear e1 h0
  generalize leftI L (tabWt nm rows) = z at *
  go_enter Try.func36, Try.ntmps36
  go_wp2_with fail
  refine (HC.out _ (below_alloc _ _)).mono ?_
  rintro e w1 ⟨rfl, rfl⟩
  by_cases hz : z < 0
  · go_wp2_with fail
    go_ret
    exact ⟨ret_int (HN.out hz).symm, below_alloc _ _⟩
  · go_wp2_with fail
    go_ret
    exact ⟨rfl, below_alloc _ _⟩

set_option maxRecDepth 100000 in
set_option maxHeartbeats 800000 in
theorem to_table (nm : ByteArray) (ar : Int) (u : Value) (rows : List (List Int)) (S : Nat → Prop) (w : World) (hr : rowsC.rd w S [u] rows) (hl : rowsWt rows ≤ 1048577) :
    Calls Try.prog 38 #[.agg #[.string nm, .int .i64 ar, u]] w fun e w' => ∃ u' fp, e = .returned (.agg #[.string nm, .int .i64 ar, u']) ∧ rowsC.ow w' w.heap.size [u'] rows fp ∧ fp.Nodup ∧ Below w.heap.size w w' := by
  have HC := Lib.hid (fun w' (hb : Below w.heap.size w w') => to_rows u rows S w' (Cd.later hr hb) hl)
  clear hr hl
  go_enter Try.func38, Try.ntmps38
  go_wp2_with fail
  generalize hW : ((w.alloc _).alloc _).alloc _ = W
  obtain ⟨r0, r1, r2, hz, hb0⟩ := start3 w _ _ _ hW
  clear hW
  refine (HC.out _ hb0).mono ?_
  rintro e w1 ⟨u', fp, rfl, how, hnd, hb1⟩
  obtain ⟨a1, c1, rfl⟩ := rows_slice how
  obtain ⟨d0, d1, d2, e0, e1, e2⟩ := row3 (row_later r2 hb1)
  obtain ⟨p0, p1, p2, q0, q1, q2⟩ := row3 (row_later r1 hb1)
  have HF := Lib.hid (fun b (h : b ∈ fp) => (rowsC.ow_lt how b h).1)
  have HOW := Lib.hid how
  have HND := Lib.hid hnd
  have HB := Lib.hid (below_then hb0 hb1)
  have HZ := Lib.hid hz
  clear how hnd hb1 hb0 r0 r1 r2 hz
  go_wp2_with fail
  obtain ⟨k0, k1, k2⟩ := set3 (w := w1.setCell ⟨w.heap.size + 1 + 1, 2, none⟩ (.slice a1 rows.length c1)) (k := w.heap.size + 1) (x := .string nm) (y := .int .i64 ar) (z := .slice a1 rows.length c1)
    ((World.cell?_setCell_other _ _ _ _ (by simp)).trans p0) ((World.cell?_setCell_other _ _ _ _ (by simp)).trans p1) ((World.cell?_setCell_other _ _ _ _ (by simp)).trans p2)
  refine bodyPost_ret (v := .agg #[.string nm, .int .i64 ar, .slice a1 rows.length c1]) (by simp [results, Try.results38, go_sem, k0, k1, k2]) rfl ⟨_, fp, rfl, ?_, HND.out, ?_⟩
  · have hn : ∀ k, k < w.heap.size + 3 → k ∉ fp := fun k hk q => by
      have h1 := HF.out k q
      have h2 := HZ.out
      omega
    exact ow_setCell (ow_setCell (ow_setCell (ow_setCell (rowsC.ow_base HOW.out (by have := HZ.out; omega)) (hn _ (by show w.heap.size + 1 + 1 < _; omega)) _) (hn _ (by show w.heap.size + 1 < _; omega)) _) (hn _ (by show w.heap.size + 1 < _; omega)) _) (hn _ (by show w.heap.size + 1 < _; omega)) _
  · exact (((HB.out.setCell (by show _ ≤ w.heap.size + 1 + 1; omega) _).setCell (by show _ ≤ w.heap.size + 1; omega) _).setCell (by show _ ≤ w.heap.size + 1; omega) _).setCell (by show _ ≤ w.heap.size + 1; omega) _

set_option maxRecDepth 100000 in
theorem eq_table (nm : ByteArray) (ar : Int) (u1 u2 : Value) (rows : List (List Int)) (S1 S2 : Nat → Prop) (w : World) (h1 : rowsC.rd w S1 [u1] rows) (h2 : rowsC.rd w S2 [u2] rows) :
    Calls Try.prog 40 #[.agg #[.string nm, .int .i64 ar, u1], .agg #[.string nm, .int .i64 ar, u2]] w fun e w' => e = .returned (.bool true) ∧ Below w.heap.size w w' := by
  have HC := Lib.hid (fun w' (hb : Below w.heap.size w w') => eq_rows u1 u2 rows S1 S2 w' (Cd.later h1 hb) (Cd.later h2 hb))
  clear h1 h2
  go_enter Try.func40, Try.ntmps40
  go_wp2_with fail
  have hb0 := below_then (below_alloc w (.cells #[.string nm, .int .i64 ar, u1] 59 (0, 0))) (below_alloc _ (.cells #[.string nm, .int .i64 ar, u2] 59 (0, 0)))
  refine (HC.out _ hb0).mono ?_
  rintro e w1 ⟨rfl, hq⟩
  have HB := Lib.hid (below_then hb0 (below_q hq))
  clear hb0 hq
  go_wp2_with fail
  go_ret
  exact ⟨rfl, HB.out⟩

set_option maxRecDepth 100000 in
theorem mark_table (nm : ByteArray) (ar : Int) (u : Value) (l : List (List Int)) (base k0 : Nat) (fp : List Nat) (w : World) (h : rowsC.ow w base [u] l fp) (hnd : fp.Nodup) (hl : l.flatten.length ≤ 1048577) (hk0 : k0 ≤ 500000000) :
    Calls Try.prog 44 #[.agg #[.string nm, .int .i64 ar, u], .int .i64 k0] w fun e w' => e = .returned (.int .i64 ((k0 + l.flatten.length : Nat) : Int)) ∧ rowsC.ow w' base [u] (mrows k0 l) fp ∧ Cd.Touch fp w w' := by
  have HC := Lib.hid (fun w' (hb : Below w.heap.size w w') => mark_rows u l base k0 fp w' (Cd.ow_later h hb) hnd hl hk0)
  clear h hnd hl hk0
  generalize k0 + l.flatten.length = q at *
  go_enter Try.func44, Try.ntmps44
  go_wp2_with fail
  have hb0 := below_alloc w (.cells #[.string nm, .int .i64 ar, u] 59 (0, 0))
  refine (HC.out _ hb0).mono ?_
  rintro e w1 ⟨rfl, how, ht⟩
  have HOW := Lib.hid how
  have HT := Lib.hid ((Cd.Touch.of_below hb0).trans ht)
  clear hb0 how ht
  go_wp2_with fail
  go_ret
  exact ⟨rfl, HOW.out, HT.out⟩

end Go.Proofs.Ytnoennmhifmolaa.Tab
