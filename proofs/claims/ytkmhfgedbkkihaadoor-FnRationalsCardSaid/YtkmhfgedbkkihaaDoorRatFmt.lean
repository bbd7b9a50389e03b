/- Rationals as strings: the model's and the program's functions give the same bytes. -/
import Derived.Test.YtkmhfgedbkkihaaDoorRatTo
import Derived.Test.YtkmhfgedbkkihaaDoorFormat
import Derived.Test.YtkmhfgedbkkihaaDoorParsePlain
namespace Go.Proofs.YtkmhfgedbkkihaaDoor.RatFmt
open Go Go.RowKit Byt Ratio RatGcd RatMake RatOps RatTo Format
open Go.Lib (decDigits itoa)

/-- A rational's bytes; none where it is not valid. -/
def rfmt (n d : Int) : List UInt8 := if valid n d then (if d = 1 then itoa n else itoa n ++ [47] ++ itoa d) else []
theorem rfmt_no {n d : Int} (h : valid n d = false) : rfmt n d = [] := by unfold rfmt; rw [h]; rfl
theorem rfmt_one {n d : Int} (h : valid n d = true) (h1 : d = 1) : rfmt n d = itoa n := by unfold rfmt; rw [if_pos h, if_pos h1]
theorem rfmt_two {n d : Int} (h : valid n d = true) (h1 : d ≠ 1) : rfmt n d = itoa n ++ [47] ++ itoa d := by unfold rfmt; rw [if_pos h, if_neg h1]
theorem itoa_len {n : Int} (h : -9223372036854775808 ≤ n ∧ n ≤ 9223372036854775807) : (itoa n).length ≤ 20 := by
  unfold itoa
  by_cases h0 : n < 0
  · rw [if_pos h0]
    have := digits_len (n := n.natAbs) (by omega)
    simp only [List.length_cons]
    omega
  · rw [if_neg h0]
    have := digits_len (n := n.toNat) (by omega)
    omega
theorem cat3 (a b c : List UInt8) : (⟨a.toArray⟩ ++ ⟨b.toArray⟩ ++ ⟨c.toArray⟩ : ByteArray) = ⟨(a ++ b ++ c).toArray⟩ := by
  simp [ByteArray.mk_append_mk]

set_option maxRecDepth 100000 in
theorem spec_fmt (n d : Int) (w : World) :
    Calls Tryd.prog 22 #[.agg #[.int .i64 n, .int .i64 d]] w fun e w' => e = .returned (.string ⟨(rfmt n d).toArray⟩) ∧ Below w.heap.size w w' := by
  by_cases hv : valid n d = true
  case neg =>
    have hv : valid n d = false := by simpa using hv
    have HO := Lib.hid (rfmt_no hv)
    go_enter Tryd.func22, Tryd.ntmps22
    go_wp2_with fail
    refine (spec_valid n d _).mono ?_
    rintro e w1 ⟨rfl, hb1⟩
    rw [hv]
    have HB := Lib.hid hb1
    clear hb1 hv
    go_wp2_with fail
    go_ret
    exact ⟨ret_str (by rw [HO.out]), ((Below.refl _ _).alloc (Nat.le_refl _) _).trans (HB.out.mono (by simp))⟩
  obtain ⟨⟨a1, a2⟩, ⟨b1, b2⟩, _⟩ := bd hv
  have HN := Lib.hid (fun w => Format.spec_any n w ⟨by omega, by omega⟩)
  have HD := Lib.hid (fun w => Format.spec_any d w ⟨by omega, by omega⟩)
  by_cases h1 : d = 1
  · have HO := Lib.hid (rfmt_one hv h1)
    have t1 : (d == 1) = true := by rw [beq_iff_eq]; exact h1
    clear h1
    go_enter Tryd.func22, Tryd.ntmps22
    go_wp2_with fail
    refine (spec_valid n d _).mono ?_
    rintro e w1 ⟨rfl, hb1⟩
    rw [hv]
    obtain ⟨p0, p1, _, _⟩ := row_cells (row_later hb1 (alloc_at0 w _) (by simp))
    have K1 := Lib.hid (kept_later hb1 (kept_alloc _ (kept_refl w)))
    clear hb1 hv
    go_wp2_with fail
    refine (HN.out _).mono ?_
    rintro e w2 ⟨rfl, hb2⟩
    have K2 := Lib.hid (kept_later hb2 K1.out)
    clear hb2
    go_wp2_with fail
    go_ret
    exact ⟨ret_str (by rw [HO.out]), K2.out⟩
  · have HO := Lib.hid (rfmt_two hv h1)
    have t1 : (d == 1) = false := by rw [beq_eq_false_iff_ne]; exact h1
    have l1 := itoa_len (n := n) ⟨by omega, by omega⟩
    have l2 := itoa_len (n := d) ⟨by omega, by omega⟩
    have l3 : ¬ 9223372036854775807 < (itoa n).length + 1 := by omega
    have l4 : ¬ 9223372036854775807 < (itoa n).length + 1 + (itoa d).length := by omega
    clear h1
    go_enter Tryd.func22, Tryd.ntmps22
    go_wp2_with fail
    refine (spec_valid n d _).mono ?_
    rintro e w1 ⟨rfl, hb1⟩
    rw [hv]
    obtain ⟨c0, c1, _, _⟩ := row_cells (row_later hb1 (alloc_at0 w _) (by simp))
    have kk := kept_later hb1 (kept_alloc _ (kept_refl w))
    clear hb1 hv
    go_wp2_with fail
    go_region_held3 (fun wx => wx.cell? ⟨w.heap.size, 0, none⟩ = some (.int .i64 n) ∧ wx.cell? ⟨w.heap.size, 1, none⟩ = some (.int .i64 d) ∧ Kept w wx)
      ((refine ⟨by simp [*], by simp [*], ?_⟩; first | exact kept_drew (by simp [*]) | simp [*]))
      (first | (go_at_call_of 41 (Value.int IntKind.i64 n); refine (HN.out _).mono ?_; rintro e w1 ⟨rfl, hb1⟩; obtain ⟨c0, c1, kk⟩ : w1.cell? ⟨w.heap.size, 0, none⟩ = some (.int .i64 n) ∧ w1.cell? ⟨w.heap.size, 1, none⟩ = some (.int .i64 d) ∧ Kept w w1 := ⟨rcell_later hb1 _ _ (by simp [*]), rcell_later hb1 _ _ (by simp [*]), kept_later hb1 (by simp [*])⟩) | (go_at_call_of 41 (Value.int IntKind.i64 d); refine (HD.out _).mono ?_; rintro e w1 ⟨rfl, hb1⟩; obtain ⟨c0, c1, kk⟩ : w1.cell? ⟨w.heap.size, 0, none⟩ = some (.int .i64 n) ∧ w1.cell? ⟨w.heap.size, 1, none⟩ = some (.int .i64 d) ∧ Kept w w1 := ⟨rcell_later hb1 _ _ (by simp [*]), rcell_later hb1 _ _ (by simp [*]), kept_later hb1 (by simp [*])⟩))
    go_wp2_with fail
    go_ret
    exact ⟨ret_str (by rw [HO.out]; exact cat3 _ [47] _), kk⟩

set_option maxRecDepth 100000 in
theorem impl_fmt (n d : Int) (w : World) (h1 : -9223372036854775808 ≤ n ∧ n ≤ 9223372036854775807) (h2 : -9223372036854775808 ≤ d ∧ d ≤ 9223372036854775807) (ht : Tab w) :
    Calls Tryd.prog 15 #[.agg #[.int .i64 n, .int .i64 d]] w fun e w' => e = .returned (.string ⟨(rfmt n d).toArray⟩) ∧ Below w.heap.size w w' := by
  have HV := Lib.hid (fun w => impl_valid n d w h1 h2)
  clear h1 h2
  by_cases hv : valid n d = true
  case neg =>
    have hv : valid n d = false := by simpa using hv
    have HO := Lib.hid (rfmt_no hv)
    clear ht
    go_enter Tryd.func15, Tryd.ntmps15
    go_wp2_with fail
    refine (HV.out _).mono ?_
    rintro e w1 ⟨rfl, hb1⟩
    rw [hv]
    have HB := Lib.hid hb1
    clear hb1 hv
    go_wp2_with fail
    go_ret
    exact ⟨ret_str (by rw [HO.out]), ((Below.refl _ _).alloc (Nat.le_refl _) _).trans (HB.out.mono (by simp))⟩
  obtain ⟨⟨a1, a2⟩, ⟨b1, b2⟩, _⟩ := bd hv
  have HN := Lib.hid (fun w' (hb : Kept w w') => Format.impl_any n w' ⟨by omega, by omega⟩ (tab_later hb ht))
  have HD := Lib.hid (fun w' (hb : Kept w w') => Format.impl_any d w' ⟨by omega, by omega⟩ (tab_later hb ht))
  clear ht
  by_cases h1 : d = 1
  · have HO := Lib.hid (rfmt_one hv h1)
    have t1 : (d == 1) = true := by rw [beq_iff_eq]; exact h1
    clear h1
    go_enter Tryd.func15, Tryd.ntmps15
    go_wp2_with fail
    refine (HV.out _).mono ?_
    rintro e w1 ⟨rfl, hb1⟩
    rw [hv]
    obtain ⟨p0, p1, _, _⟩ := row_cells (row_later hb1 (alloc_at0 w _) (by simp))
    have K1 := Lib.hid (kept_later hb1 (kept_alloc _ (kept_refl w)))
    clear hb1 hv
    go_wp2_with fail
    refine (HN.out _ K1.out).mono ?_
    rintro e w2 ⟨rfl, hb2⟩
    have K2 := Lib.hid (kept_later hb2 K1.out)
    clear hb2
    go_wp2_with fail
    go_ret
    exact ⟨ret_str (by rw [HO.out]), K2.out⟩
  · have HO := Lib.hid (rfmt_two hv h1)
    have t1 : (d == 1) = false := by rw [beq_eq_false_iff_ne]; exact h1
    have l1 := itoa_len (n := n) ⟨by omega, by omega⟩
    have l2 := itoa_len (n := d) ⟨by omega, by omega⟩
    have l3 : ¬ 9223372036854775807 < (itoa n).length + 1 := by omega
    have l4 : ¬ 9223372036854775807 < (itoa n).length + 1 + (itoa d).length := by omega
    clear h1
    go_enter Tryd.func15, Tryd.ntmps15
    go_wp2_with fail
    refine (HV.out _).mono ?_
    rintro e w1 ⟨rfl, hb1⟩
    rw [hv]
    obtain ⟨c0, c1, _, _⟩ := row_cells (row_later hb1 (alloc_at0 w _) (by simp))
    have kk := kept_later hb1 (kept_alloc _ (kept_refl w))
    clear hb1 hv
    go_wp2_with fail
    go_region_held3 (fun wx => wx.cell? ⟨w.heap.size, 0, none⟩ = some (.int .i64 n) ∧ wx.cell? ⟨w.heap.size, 1, none⟩ = some (.int .i64 d) ∧ Kept w wx)
      ((refine ⟨by simp [*], by simp [*], ?_⟩; first | exact kept_drew (by simp [*]) | simp [*]))
      (first | (go_at_call_of 33 (Value.int IntKind.i64 n); refine (HN.out _ ?hk).mono ?_; (case hk => simp [*]); rintro e w1 ⟨rfl, hb1⟩; obtain ⟨c0, c1, kk⟩ : w1.cell? ⟨w.heap.size, 0, none⟩ = some (.int .i64 n) ∧ w1.cell? ⟨w.heap.size, 1, none⟩ = some (.int .i64 d) ∧ Kept w w1 := ⟨rcell_later hb1 _ _ (by simp [*]), rcell_later hb1 _ _ (by simp [*]), kept_later hb1 (by simp [*])⟩) | (go_at_call_of 33 (Value.int IntKind.i64 d); refine (HD.out _ ?hk).mono ?_; (case hk => simp [*]); rintro e w1 ⟨rfl, hb1⟩; obtain ⟨c0, c1, kk⟩ : w1.cell? ⟨w.heap.size, 0, none⟩ = some (.int .i64 n) ∧ w1.cell? ⟨w.heap.size, 1, none⟩ = some (.int .i64 d) ∧ Kept w w1 := ⟨rcell_later hb1 _ _ (by simp [*]), rcell_later hb1 _ _ (by simp [*]), kept_later hb1 (by simp [*])⟩))
    go_wp2_with fail
    go_ret
    exact ⟨ret_str (by rw [HO.out]; exact cat3 _ [47] _), kk⟩
end Go.Proofs.YtkmhfgedbkkihaaDoor.RatFmt
