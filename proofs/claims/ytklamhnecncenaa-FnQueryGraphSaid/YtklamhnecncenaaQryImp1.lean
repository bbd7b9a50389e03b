/- Queries: is an atom valid: the program's functions. -/
import Derived.Test.YtklamhnecncenaaQryCols
import Derived.Test.YtklamhnecncenaaTabImp1
namespace Go.Proofs.Ytklamhnecncenaa.QryImp
open Go Go.RowKit Byt Ints IntsLaw Cd Rows2 Tab TabSpec Exact Atom QryMath QrySpec

/-- How many bits are set. -/
def pop (s : Nat) : Nat := s % 2 + s / 2 % 2 + s / 4 % 2 + s / 8 % 2
theorem c4 {x : Int} (h : 0 ≤ x ∧ x < 4) : x = 0 ∨ x = 1 ∨ x = 2 ∨ x = 3 := by omega
theorem pop_nodup : ∀ vs : List Int, vs.length ≤ 3 → In4 vs → (pop (bs vs) = vs.length ↔ vs.Nodup)
  | [], _, _ => by decide
  | [x], _, h => by
    rcases c4 (h x (by simp)) with rfl | rfl | rfl | rfl <;> decide
  | [x, y], _, h => by
    rcases c4 (h x (by simp)) with rfl | rfl | rfl | rfl <;> rcases c4 (h y (by simp)) with rfl | rfl | rfl | rfl <;> decide
  | [x, y, z], _, h => by
    rcases c4 (h x (by simp)) with rfl | rfl | rfl | rfl <;> rcases c4 (h y (by simp)) with rfl | rfl | rfl | rfl <;> rcases c4 (h z (by simp)) with rfl | rfl | rfl | rfl <;> decide
  | _ :: _ :: _ :: _ :: _, hl, _ => by simp at hl
theorem or_nat {a b : Nat} (ha : a < 16) (hb : b < 16) : bits .or .i64 (a : Int) (b : Int) = ((a ||| b : Nat) : Int) :=
  (bits_nat .i64 63 (by decide) Bit.wraps_i64 a b (by omega) (by omega)).2
theorem and_nat {a b : Nat} (ha : a < 16) (hb : b < 16) : bits .and .i64 (a : Int) (b : Int) = ((a &&& b : Nat) : Int) :=
  (bits_nat .i64 63 (by decide) Bit.wraps_i64 a b (by omega) (by omega)).1
theorem pow4n {x : Int} (h : 0 ≤ x ∧ x < 4) : 2 ^ x.toNat < 16 := by
  rcases c4 h with rfl | rfl | rfl | rfl <;> decide

set_option maxRecDepth 100000 in
theorem ones64 (s : Nat) (w : World) (hs : s < 16) : Calls Try.prog 165 #[.int .u64 (s : Int)] w fun e w' => e = .returned (.int .i64 (pop s : Int)) ∧ w = w' := by
  have hc : s = 0 ∨ s = 1 ∨ s = 2 ∨ s = 3 ∨ s = 4 ∨ s = 5 ∨ s = 6 ∨ s = 7 ∨ s = 8 ∨ s = 9 ∨ s = 10 ∨ s = 11 ∨ s = 12 ∨ s = 13 ∨ s = 14 ∨ s = 15 := by omega
  clear hs
  rcases hc with rfl | rfl | rfl | rfl | rfl | rfl | rfl | rfl | rfl | rfl | rfl | rfl | rfl | rfl | rfl | rfl
  all_goals
    go_enter Try.func165, Try.ntmps165
    go_wp2
    go_ret
    exact ⟨ret_int (by decide +kernel), rfl⟩
theorem ones (s : Nat) (w : World) (hs : s < 16) : Calls Try.prog 156 #[.int .u64 (s : Int)] w fun e w' => e = .returned (.int .i64 (pop s : Int)) ∧ w = w' := by
  have H := Lib.hid (ones64 s w hs)
  generalize pop s = p at *
  have h1 : IntKind.u64.wrap (s : Int) = (s : Int) := by rw [IntKind.wrap_u64]; omega
  go_enter Try.func156, Try.ntmps156
  go_wp2_with (go_at_call 165; refine H.out.mono ?_; rintro e w1 ⟨rfl, rfl⟩)
  go_ret
  exact ⟨rfl, rfl⟩

set_option maxRecDepth 100000 in
theorem bit_set (v : Value) (l : List Int) (B : Nat) (w : World) (hr : RI w v l B) (h4 : In4 l) :
    Calls Try.prog 133 #[v] w fun e w' => e = .returned (.int .i64 (bs l : Int)) ∧ w = w' := by
  have HR := Lib.hid hr
  have H4 := Lib.hid h4
  obtain ⟨a, cap, rfl, hlm, _⟩ := hr
  clear h4
  go_enter Try.func133, Try.ntmps133
  go_wp2
  go_loop [3, 8] (fun s i => ∃ k : Nat, k ≤ l.length ∧ i = .int .i64 k ∧ s = .int .i64 (bs (l.take k) : Int)) (fun _ i => l.length - (intOf i).toNat)
  case atStart => exact ⟨0, Nat.zero_le _, rfl, rfl⟩
  case round =>
    obtain ⟨k, hk, rfl, rfl⟩ := hrel
    by_cases hlt : k < l.length
    · obtain ⟨b, off, cap', e1, hbB, hc⟩ := ri_at HR.out hlt
      injection e1 with e1 e2 e3
      subst e1 e3
      have p1 : (0 : Int) ≤ (k : Int) := by omega
      have p2 : (k : Int) < (l.length : Int) := by omega
      have hx := H4.out _ (List.getElem_mem hlt)
      have HT := Lib.hid (show bs (l.take (k + 1)) = bs (l.take k) ||| 2 ^ l[k].toNat by rw [List.take_succ_eq_append_getElem hlt, bs_snoc])
      have hb16 : bs (l.take k) < 16 := bs_lt fun y hy => H4.out y (List.mem_of_mem_take hy)
      have hor := or_nat hb16 (pow4n hx)
      generalize bs (l.take k) = s at *
      generalize l[k] = z at *
      rcases c4 hx with rfl | rfl | rfl | rfl
      all_goals
        go_wp2
        go_round
        case rel => exact ⟨k + 1, by omega, by go_num, by rw [HT.out]; first | rfl | exact congrArg _ hor⟩
        case measure => simp [intOf]; omega
    · have ek : k = l.length := by omega
      subst ek
      rw [List.take_length] at *
      go_wp2
      go_ret
      exact ⟨rfl, rfl⟩
end Go.Proofs.Ytklamhnecncenaa.QryImp
