/- Decimal formatting: the model's and the program's functions give the same digits. -/
import Derived.Test.YthnphlgkkfdnlaaDoorRows
import Derived.Test.YthnphlgkkfdnlaaDoorByt
import Derived.Test.YthnphlgkkfdnlaaDoorShelf
import Derived.Lib.ItoaNum
import Derived.WalkKit
import Derived.WalkSpells
import Derived.WalkLawsBesides
import Derived.Lib.Hide
namespace Go.Proofs.YthnphlgkkfdnlaaDoor.Format
open Go Go.RowKit Byt
open Go.Lib (decDigits nDigits nDigits_small nDigits_big decDigits_length itoa)

/-- The digits of u; none for 0. -/
def D (u : Nat) : List UInt8 := if u = 0 then [] else decDigits u

theorem D_zero : D 0 = [] := rfl
theorem D_pos {u : Nat} (h : 0 < u) : D u = D (u / 10) ++ [UInt8.ofNat (48 + u % 10)] := by
  unfold D
  rw [if_neg (by omega), decDigits]
  by_cases h1 : u < 10
  · rw [dif_pos h1, if_pos (by omega), Nat.mod_eq_of_lt h1]
    rfl
  · rw [dif_neg h1, if_neg (by omega)]

theorem nDigits_le (k : Nat) : ∀ u, u < 10 ^ (k + 1) → nDigits u ≤ k + 1 := by
  induction k with
  | zero => intro u h; rw [nDigits_small (by omega)]; omega
  | succ k ih =>
    intro u h
    by_cases h1 : u < 10
    · rw [nDigits_small h1]; omega
    · rw [nDigits_big h1]
      have := ih (u / 10) (Nat.div_lt_of_lt_mul (by rw [Nat.pow_succ] at h; omega))
      omega

theorem digits_len {n : Nat} (h : n ≤ 9223372036854775808) : (decDigits n).length ≤ 19 := by
  rw [decDigits_length]
  exact nDigits_le 18 n (by omega)

theorem len_of {l : List UInt8} {u n : Nat} (h : D u ++ l = decDigits n) (hn : n ≤ 9223372036854775808) : l.length ≤ 19 := by
  have := digits_len hn
  rw [← h, List.length_append] at this
  omega

theorem step {l : List UInt8} {u n : Nat} (h : D u ++ l = decDigits n) (hu : 0 < u) : D (u / 10) ++ ([UInt8.ofNat (48 + u % 10)] ++ l) = decDigits n := by
  rw [← h, D_pos hu, List.append_assoc]

theorem str_cons (d : Nat) (l : List UInt8) : Value.string (⟨#[48 + UInt8.ofNat d]⟩ ++ ⟨l.toArray⟩) = .string ⟨([UInt8.ofNat (48 + d)] ++ l).toArray⟩ := by
  simp [ByteArray.mk_append_mk]

theorem start {n : Nat} (h : 0 < n) : D n ++ [] = decDigits n := by
  unfold D
  rw [if_neg (by omega), List.append_nil]

theorem itoa_zero : itoa 0 = [48] := by
  show decDigits 0 = [48]
  rw [decDigits]
  rfl

set_option maxRecDepth 100000 in
set_option maxHeartbeats 400000 in
theorem spec_pos (n : Nat) (w : World) (h0 : 0 < n) (h1 : n ≤ 9223372036854775807) :
    Calls Tryd.prog 31 #[.int .i64 n] w fun e w' => e = .returned (.string ⟨(decDigits n).toArray⟩) ∧ Below w.heap.size w w' := by
  have hz : ((n : Int) == 0) = false := by rw [beq_eq_false_iff_ne]; omega
  have hneg : decide ((n : Int) < 0) = false := by simp
  go_enter Tryd.func31, Tryd.ntmps31
  go_wp2
  go_loopw [0, 3, 5] (fun a o _ wr => ∃ (u : Nat) (l : List UInt8), a = .int .i64 u ∧ u ≤ n ∧ o = .string ⟨l.toArray⟩ ∧ Hid (D u ++ l = decDigits n) ∧ Below w.heap.size w wr) (fun a _ _ _ => (intOf a).toNat)
  case atStart => exact ⟨n, [], rfl, Nat.le_refl _, rfl, start h0, Below.refl _ _⟩
  case round =>
    obtain ⟨u, l, rfl, hu, rfl, hl, hb⟩ := hrel
    have hlen := len_of hl.out (by omega)
    have hs1 := fun (w : World) (x : Int) => string_one (P := Tryd.prog) 22 9 5 Tryd.underlying22 Tryd.underlying5 Tryd.underlying9 w x
    by_cases hpos : 0 < u
    · have ht : ((u : Int) != 0) = true := by rw [bne_iff_ne]; omega
      have hs2 := hs1 wr (48 + (u : Int) % 10) (by omega) (by omega)
      clear hs1
      go_wp2
      go_roundw
      case rel =>
        exact ⟨u / 10, [UInt8.ofNat (48 + u % 10)] ++ l, by go_num, by omega, str_cons _ _, step hl.out hpos, hb.alloc hb.size _⟩
      case measure => simp [intOf]; omega
    · obtain rfl : u = 0 := by omega
      clear hs1
      go_wp2
      go_ret
      refine ⟨ret_str ?_, hb⟩
      have := hl.out
      rw [D_zero, List.nil_append] at this
      rw [this]

theorem neg_mod (u : Nat) : (-(u : Int)).tmod 10 = -((u : Int) % 10) := by
  rw [Int.neg_tmod, Int.tmod_eq_emod_of_nonneg (by omega)]
theorem neg_div (u : Nat) : (-(u : Int)).tdiv 10 = -((u : Int) / 10) := by
  rw [Int.neg_tdiv, Int.tdiv_eq_ediv_of_nonneg (by omega)]

set_option maxRecDepth 100000 in
set_option maxHeartbeats 800000 in
theorem spec_neg (n : Nat) (w : World) (h0 : 0 < n) (h1 : n ≤ 9223372036854775808) :
    Calls Tryd.prog 31 #[.int .i64 (-(n : Int))] w fun e w' => e = .returned (.string ⟨([45] ++ decDigits n).toArray⟩) ∧ Below w.heap.size w w' := by
  have hz : (-(n : Int) == 0) = false := by rw [beq_eq_false_iff_ne]; omega
  have hneg : decide (-(n : Int) < 0) = true := by simp; omega
  have H1 := Lib.hid h1
  have h63 : n ≤ 9223372036854775807 + 1 := h1
  clear h1
  go_enter Tryd.func31, Tryd.ntmps31
  go_wp2
  go_loopw [0, 3, 5] (fun a o _ wr => ∃ (u : Nat) (l : List UInt8), a = .int .i64 (-(u : Int)) ∧ u ≤ n ∧ o = .string ⟨l.toArray⟩ ∧ Hid (D u ++ l = decDigits n) ∧ Below w.heap.size w wr) (fun a _ _ _ => (-(intOf a)).toNat)
  case atStart => exact ⟨n, [], rfl, Nat.le_refl _, rfl, start h0, Below.refl _ _⟩
  case round =>
    obtain ⟨u, l, rfl, hu, rfl, hl, hb⟩ := hrel
    have hlen := len_of hl.out H1.out
    have hs1 := fun (w : World) (x : Int) => string_one (P := Tryd.prog) 22 9 5 Tryd.underlying22 Tryd.underlying5 Tryd.underlying9 w x
    have q1 := neg_mod u
    have q2 := neg_div u
    have q3 : wrap64 (-((u : Int) / 10)) = -((u : Int) / 10) := IntWalk.wrap64_in _ ⟨by omega, by omega⟩
    have q4 : wrap64 (-((u : Int) % 10)) = -((u : Int) % 10) := IntWalk.wrap64_in _ ⟨by omega, by omega⟩
    by_cases hpos : 0 < u
    · have ht : (-(u : Int) != 0) = true := by rw [bne_iff_ne]; omega
      have hs2 := hs1 wr (48 + (u : Int) % 10) (by omega) (by omega)
      have hs1' := hs1
      clear hs1
      by_cases hd : 0 < u % 10
      · clear hs1'
        have hd' : decide (-((u : Int) % 10) < 0) = true := by simp; omega
        go_wp2
        go_roundw
        case rel =>
          exact ⟨u / 10, [UInt8.ofNat (48 + u % 10)] ++ l, by go_num, by omega, str_cons _ _, step hl.out hpos, hb.alloc hb.size _⟩
        case measure => simp [intOf]; omega
      · have hd' : decide (-((u : Int) % 10) < 0) = false := by simp; omega
        have hs3 := hs1' wr (48 + -((u : Int) % 10)) (by omega) (by omega)
        clear hs1' hs2
        have hu0 : u % 10 = 0 := by omega
        have he : (48 + -((u : Int) % 10)).toNat = 48 + u % 10 := by omega
        have He := Lib.hid he
        have Hu0 := Lib.hid hu0
        clear he hu0
        go_wp2
        go_roundw
        case rel =>
          refine ⟨u / 10, [UInt8.ofNat (48 + u % 10)] ++ l, by go_num, by omega, ?_, step hl.out hpos, hb.alloc hb.size _⟩
          rw [← str_cons, He.out, UInt8.ofNat_add]
          rfl
        case measure => simp [intOf]; omega
    · obtain rfl : u = 0 := by omega
      clear hs1 q1 q2 q3 q4
      go_wp2
      go_ret
      refine ⟨ret_str ?_, hb⟩
      have := hl.out
      rw [D_zero, List.nil_append] at this
      rw [this]
      exact ByteArray.mk_append_mk [45] _

theorem spec_zero (w : World) : Calls Tryd.prog 31 #[.int .i64 0] w fun e w' => e = .returned (.string ⟨#[48]⟩) ∧ Below w.heap.size w w' := by
  go_enter Tryd.func31, Tryd.ntmps31
  go_wp2
  go_ret
  exact ⟨rfl, Below.refl _ _⟩

/-- The model's function, at every int. -/
theorem spec_any (n : Int) (w : World) (hn : -9223372036854775808 ≤ n ∧ n ≤ 9223372036854775807) :
    Calls Tryd.prog 31 #[.int .i64 n] w fun e w' => e = .returned (.string ⟨(itoa n).toArray⟩) ∧ Below w.heap.size w w' := by
  obtain ⟨hlo, hhi⟩ := hn
  by_cases h0 : 0 < n
  · obtain ⟨u, rfl⟩ := Int.eq_ofNat_of_zero_le (show 0 ≤ n by omega)
    have e : itoa (u : Int) = decDigits u := by
      unfold itoa
      rw [if_neg (by omega), Int.toNat_natCast]
    rw [e]
    exact spec_pos u w (by omega) (by omega)
  · by_cases h1 : n < 0
    · obtain ⟨u, hu⟩ := Int.eq_ofNat_of_zero_le (show 0 ≤ -n by omega)
      obtain rfl : n = -(u : Int) := by omega
      have e : itoa (-(u : Int)) = [45] ++ decDigits u := by
        unfold itoa
        rw [if_pos h1, Int.natAbs_neg, Int.natAbs_natCast]
        rfl
      rw [e]
      exact spec_neg u w (by omega) (by omega)
    · obtain rfl : n = 0 := by omega
      rw [itoa_zero]
      exact spec_zero w

theorem grown_below {w w' : World} (h : ∃ k os, w' = Sort.grow (w.drewN k) os) : Below w.heap.size w w' := by
  obtain ⟨k, os, rfl⟩ := h
  refine ⟨rfl, rfl, rfl, ?_, fun i hi => ?_⟩
  · simp [Sort.grow, World.drewN]
  · show (w.heap ++ os)[i]? = w.heap[i]?
    rw [Array.getElem?_append_left hi]

/-- The table of powers of ten that strconv reads. -/
def Tab (w : World) : Prop := Lib.TabIs Tryd.prog w "internal/strconv.uint64pow10" .u64 Lib.pow10Tab

theorem tab_later {w w' : World} (hb : Below w.heap.size w w') (h : Tab w) : Tab w' := by
  unfold Tab Lib.TabIs World.var? at *
  obtain ⟨g, hg, hm⟩ := Option.bind_eq_some_iff.1 h
  have hlt : g < w.heap.size := by
    cases hx : w.heap[g]? with
    | none => rw [hx] at hm; simp at hm
    | some o => exact (Array.getElem?_eq_some_iff.1 hx).1
  refine Option.bind_eq_some_iff.2 ⟨g, hg, ?_⟩
  rw [hb.block g hlt]
  exact hm

/-- The program's function, at every int, where the table lies as the program lays it. -/
theorem impl_any (n : Int) (w : World) (hn : -9223372036854775808 ≤ n ∧ n ≤ 9223372036854775807) (ht : Tab w) :
    Calls Tryd.prog 27 #[.int .i64 n] w fun e w' => e = .returned (.string ⟨(itoa n).toArray⟩) ∧ Below w.heap.size w w' := by
  have hc := Lib.hid (Tryd.strconv_Itoa n hn.1 hn.2 w ht)
  clear hn
  have Ht := Lib.hid ht
  clear ht
  go_enter Tryd.func27, Tryd.ntmps27
  go_wp2_with (go_at_call 41; refine hc.out.mono ?_; rintro e w1 ⟨rfl, hg⟩)
  go_ret
  exact ⟨rfl, grown_below hg⟩
end Go.Proofs.YthnphlgkkfdnlaaDoor.Format
