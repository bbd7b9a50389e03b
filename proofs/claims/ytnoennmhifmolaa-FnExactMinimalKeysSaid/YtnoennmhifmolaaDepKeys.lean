/- Dependencies: keys, minimal keys. Plain. -/
import Derived.Test.YtnoennmhifmolaaDepMath
namespace Go.Proofs.Ytnoennmhifmolaa.DepMath
open Go Go.RowKit Byt Ints IntsLaw Cd Rows2 Tab TabSpec Exact Dep DegMath QryMath

/-- The set holds all columns below ar. -/
def covB (m : Nat) (ar : Int) : Bool := (List.range ar.toNat).all fun v => m.testBit v
theorem covB_mono {a b : Nat} {ar : Int} (h : Sub a b) (q : covB a ar = true) : covB b ar = true := by
  unfold covB at *
  rw [List.all_eq_true] at *
  exact fun v hv => h v (q v hv)
theorem covB_iff {m : Nat} {ar : Int} : covB m ar = true ↔ ∀ v : Nat, (v : Int) < ar → m.testBit v = true := by
  unfold covB
  rw [List.all_eq_true]
  constructor
  · exact fun h v hv => h v (List.mem_range.2 (by omega))
  · exact fun h v hv => h v (by have := List.mem_range.1 hv; omega)
theorem covB_no {m : Nat} {ar : Int} {v : Nat} (h : (v : Int) < ar) (hm : m.testBit v = false) : covB m ar = false := by
  cases q : covB m ar
  · rfl
  · rw [covB_iff.1 q v h] at hm; cases hm
def keyM (l : List D3) (nm : ByteArray) (ar : Int) (m : Nat) : Bool := covB (cloM l nm m) ar
def keyOk (l : List D3) (nm : ByteArray) (ar : Int) (rows : List (List Int)) (cols : List Int) : Bool := gcOk nm ar rows cols && keyM l nm ar (mskC cols)

/-! ### minimal keys -/
def Mono (f : Nat → Bool) : Prop := ∀ a < 8, ∀ b < 8, Sub a b → f a = true → f b = true
theorem keyM_mono (l : List D3) (nm : ByteArray) (ar : Int) : Mono (keyM l nm ar) := fun _ _ _ hb h q => covB_mono (clo_mono hb h) q
/-- A key none of whose parts is one. -/
def minB (f : Nat → Bool) (m : Nat) : Bool := f m && (List.range 3).all fun k => !m.testBit k || !f (m - 2 ^ k)
def minTo (f : Nat → Bool) (n : Nat) : List Nat := (List.range n).filter (minB f)
theorem minTo_yes {f : Nat → Bool} {n : Nat} (h : minB f n = true) : minTo f (n + 1) = minTo f n ++ [n] := by
  unfold minTo
  rw [List.range_succ, List.filter_append]
  simp [h]
theorem minTo_no {f : Nat → Bool} {n : Nat} (h : minB f n = false) : minTo f (n + 1) = minTo f n := by
  unfold minTo
  rw [List.range_succ, List.filter_append]
  simp [h]
theorem mem_minTo {f : Nat → Bool} {n m : Nat} : m ∈ minTo f n ↔ m < n ∧ minB f m = true := by
  unfold minTo
  rw [List.mem_filter, List.mem_range]
theorem minTo_len (f : Nat → Bool) (n : Nat) : (minTo f n).length ≤ n := Nat.le_trans (List.length_filter_le _ _) (by rw [List.length_range]; exact Nat.le_refl _)
theorem minB_iff {f : Nat → Bool} {m : Nat} : minB f m = true ↔ f m = true ∧ ∀ k < 3, m.testBit k = true → f (m - 2 ^ k) = false := by
  unfold minB
  rw [Bool.and_eq_true, List.all_eq_true]
  constructor
  · rintro ⟨h1, h2⟩
    refine ⟨h1, fun k hk hb => ?_⟩
    have := h2 k (List.mem_range.2 hk)
    rw [hb] at this
    simpa using this
  · rintro ⟨h1, h2⟩
    refine ⟨h1, fun k hk => ?_⟩
    cases hb : m.testBit k
    · rfl
    · rw [h2 k (List.mem_range.1 hk) hb]; rfl
theorem drop_bit0 : ∀ m < 8, ∀ k < 3, m.testBit k = true → m - 2 ^ k < m ∧ (m - 2 ^ k) &&& m = m - 2 ^ k := by decide
theorem drop_part0 : ∀ m < 8, ∀ i < m, i &&& m = i → ∃ k, k < 3 ∧ m.testBit k = true ∧ i &&& (m - 2 ^ k) = i := by decide
/-- Every key has a minimal one in it. -/
theorem min_in {f : Nat → Bool} : ∀ (n m : Nat), m ≤ n → m < 8 → f m = true → ∃ i, i ≤ m ∧ Sub i m ∧ minB f i = true
  | n, m, hn, hm, h => by
    by_cases q : minB f m = true
    · exact ⟨m, Nat.le_refl _, Sub.refl _, q⟩
    · rw [minB_iff] at q
      have : ∃ k, k < 3 ∧ m.testBit k = true ∧ f (m - 2 ^ k) = true := by
        refine Classical.byContradiction fun c => q ⟨h, fun k hk hb => ?_⟩
        cases p : f (m - 2 ^ k)
        · rfl
        · exact absurd ⟨k, hk, hb, p⟩ c
      obtain ⟨k, hk, hb, hf⟩ := this
      obtain ⟨d1, d2⟩ := drop_bit0 m hm k hk hb
      match n, hn with
      | 0, hn => omega
      | n + 1, hn =>
        obtain ⟨i, h1, h2, h3⟩ := min_in n (m - 2 ^ k) (by omega) (by omega) hf
        exact ⟨i, by omega, h2.trans (Sub.and.2 d2), h3⟩
/-- The model's question at m, once what is below m is known. -/
theorem min_spec {f : Nat → Bool} (hf : Mono f) {m : Nat} (hm : m < 8) (h : minB f m = true) : ∀ i ∈ minTo f m, i &&& m ≠ i := by
  intro i hi e
  obtain ⟨h1, h2⟩ := mem_minTo.1 hi
  obtain ⟨k, hk, hb, hs⟩ := drop_part0 m hm i h1 e
  have h3 := (minB_iff.1 h).2 k hk hb
  rw [hf i (by omega) (m - 2 ^ k) (Nat.lt_of_le_of_lt (Nat.sub_le _ _) hm) (Sub.and.2 hs) (minB_iff.1 h2).1] at h3
  cases h3
/-- The program's question at m. -/
theorem min_impl {f : Nat → Bool} (hf : Mono f) {m : Nat} (hm : m < 8) : minB f m = (f m && !(minTo f m).any fun i => decide (i &&& m = i)) := by
  rw [Bool.eq_iff_iff]
  constructor
  · intro h
    rw [Bool.and_eq_true, Bool.not_eq_true', List.any_eq_false]
    exact ⟨(minB_iff.1 h).1, fun i hi q => min_spec hf hm h i hi (of_decide_eq_true q)⟩
  · rw [Bool.and_eq_true, Bool.not_eq_true', List.any_eq_false]
    rintro ⟨h1, h2⟩
    refine minB_iff.2 ⟨h1, fun k hk hb => ?_⟩
    cases p : f (m - 2 ^ k)
    · rfl
    · obtain ⟨d1, d2⟩ := drop_bit0 m hm k hk hb
      obtain ⟨i, q1, q2, q3⟩ := min_in m (m - 2 ^ k) (by omega) (by omega) p
      exact absurd (decide_eq_true (Sub.and.1 (q2.trans (Sub.and.2 d2)))) (h2 i (mem_minTo.2 ⟨by omega, q3⟩))
def minL (l : List D3) (nm : ByteArray) (ar : Int) (rows : List (List Int)) : List (List Int) := if tabOk nm ar rows then (minTo (keyM l nm ar) (2 ^ ar.toNat)).map varsL else []
theorem vars_cols0 : ∀ ar < 4, ∀ m < 2 ^ ar, colsOk (varsL m) (ar : Nat) = true := by decide
theorem pow_ar0 : ∀ ar < 4, 2 ^ ar ≤ 8 := by decide
theorem vars_cols {ar : Int} (h0 : 0 ≤ ar) (h3 : ar ≤ 3) {m : Nat} (hm : m < 2 ^ ar.toNat) : colsOk (varsL m) ar = true := by
  obtain ⟨a, rfl⟩ := Int.eq_ofNat_of_zero_le h0
  exact vars_cols0 a (by omega) m hm
theorem pow_ar {ar : Int} (h3 : ar ≤ 3) : 2 ^ ar.toNat ≤ 8 := pow_ar0 ar.toNat (by omega)
theorem keyOk_vars {l : List D3} {nm : ByteArray} {ar : Int} {rows : List (List Int)} (ht : tabOk nm ar rows = true) (h0 : 0 ≤ ar) (h3 : ar ≤ 3) {m : Nat} (hm : m < 2 ^ ar.toNat) : keyOk l nm ar rows (varsL m) = keyM l nm ar m := by
  unfold keyOk gcOk
  rw [ht, vars_cols h0 h3 hm, msk_vars m (by have := pow_ar h3; omega)]
  rfl
theorem bits_below0 : ∀ ar < 4, ∀ m < 2 ^ ar, ∀ k < 3, m.testBit k = true → k < ar := by decide
theorem bits_below {ar : Int} (h0 : 0 ≤ ar) (h3 : ar ≤ 3) {m k : Nat} (hm : m < 2 ^ ar.toNat) (hk : k < 3) (hb : m.testBit k = true) : (k : Int) < ar := by
  have := bits_below0 ar.toNat (by omega) m hm k hk hb
  omega
theorem full_key {l : List D3} {nm : ByteArray} {ar : Int} (h0 : 0 ≤ ar) : keyM l nm ar (2 ^ ar.toNat - 1) = true :=
  covB_mono (clo_sub l nm _) (covB_iff.2 fun v hv => by rw [Nat.testBit_two_pow_sub_one]; exact decide_eq_true (by omega))
theorem min_some {l : List D3} {nm : ByteArray} {ar : Int} {rows : List (List Int)} (ht : tabOk nm ar rows = true) (h0 : 0 ≤ ar) (h3 : ar ≤ 3) : 0 < (minL l nm ar rows).length := by
  unfold minL
  rw [if_pos ht, List.length_map]
  have hp := pow_ar h3
  have hq : 0 < 2 ^ ar.toNat := Nat.two_pow_pos _
  obtain ⟨i, h1, _, h2⟩ := min_in _ (2 ^ ar.toNat - 1) (Nat.le_refl _) (by omega) (full_key (l := l) (nm := nm) h0)
  exact List.length_pos_of_mem (mem_minTo.2 ⟨by omega, h2⟩)
/-- A minimal key is a key; without its first column it is none. -/
theorem tail_part0 : ∀ m < 8, 0 < (varsL m).length → ∃ k, k < 3 ∧ m.testBit k = true ∧ (varsL m).tail = varsL (m - 2 ^ k) := by decide
theorem min_key {l : List D3} {nm : ByteArray} {ar : Int} {rows : List (List Int)} (h0 : 0 ≤ ar) (h3 : ar ≤ 3) {x : List Int} (hx : x ∈ minL l nm ar rows) :
    keyOk l nm ar rows x = true ∧ (0 < x.length → keyOk l nm ar rows x.tail = false) := by
  unfold minL at hx
  split at hx
  case isFalse => cases hx
  case isTrue ht =>
    obtain ⟨m, hm, rfl⟩ := List.mem_map.1 hx
    obtain ⟨h1, h2⟩ := mem_minTo.1 hm
    have hp := pow_ar h3
    refine ⟨by rw [keyOk_vars ht h0 h3 h1]; exact (minB_iff.1 h2).1, fun hl => ?_⟩
    obtain ⟨k, hk, hb, e⟩ := tail_part0 m (by omega) hl
    obtain ⟨d1, _⟩ := drop_bit0 m (by omega) k hk hb
    rw [e, keyOk_vars ht h0 h3 (by omega)]
    exact (minB_iff.1 h2).2 k hk hb
theorem inr_vars8 : ∀ m < 8, ∀ x ∈ varsL m, -9223372036854775808 ≤ x ∧ x ≤ 9223372036854775807 := fun m hm x hx => by
  have := vars_ok0 m hm x hx
  omega
/-- Bits of one column more. -/
theorem hasI_vars {m : Nat} (hm : m < 8) {k : Nat} (hk : k < 3) : hasI (varsL m) (k : Int) = m.testBit k := by
  rw [Bool.eq_iff_iff, hasI_iff]
  exact vars_mem0 m hm k hk
theorem part_vars0 : ∀ i < 8, ∀ m < 8, (varsL i).all (hasI (varsL m)) = decide (i &&& m = i) := by unfold hasI; decide
end Go.Proofs.Ytnoennmhifmolaa.DepMath
