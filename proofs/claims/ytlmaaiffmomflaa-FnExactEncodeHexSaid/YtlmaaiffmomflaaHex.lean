/- Hexadecimal encoding: the model's and the program's functions give the same digits. -/
import Derived.Test.YtlmaaiffmomflaaFixed
import Derived.Test.YtlmaaiffmomflaaBit
import Derived.Deep.RegionLaw
namespace Go.Proofs.Ytlmaaiffmomflaa.Hex
open Go Go.RowKit Byt Fixed

/-- The digit of k. -/
def dig (k : Nat) : UInt8 := if k < 10 then UInt8.ofNat (48 + k) else UInt8.ofNat (87 + k)

theorem dig_table (k : Nat) (h : k < 16) : (⟨#[48, 49, 50, 51, 52, 53, 54, 55, 56, 57, 97, 98, 99, 100, 101, 102]⟩ : ByteArray)[k]'h = dig k := by
  have : ∀ k : Fin 16, (⟨#[48, 49, 50, 51, 52, 53, 54, 55, 56, 57, 97, 98, 99, 100, 101, 102]⟩ : ByteArray)[k.val]'k.isLt = dig k.val := by decide
  exact this ⟨k, h⟩

theorem take_snoc (s : ByteArray) (k : Nat) (h : k < s.size) : s.data.toList.take (k + 1) = s.data.toList.take k ++ [s[k]] := by
  rw [List.take_succ_eq_append_getElem (by simpa using h)]; rfl

/-- Two digits a byte. -/
def hexL (l : List UInt8) : List UInt8 := l.flatMap fun b => [dig (b.toNat / 16), dig (b.toNat % 16)]

theorem hexL_snoc (l : List UInt8) (b : UInt8) : hexL (l ++ [b]) = hexL l ++ [dig (b.toNat / 16), dig (b.toNat % 16)] := by
  simp [hexL]

theorem hexL_length (l : List UInt8) : (hexL l).length = 2 * l.length := by
  induction l with
  | nil => rfl
  | cons b r ih =>
    have : hexL (b :: r) = dig (b.toNat / 16) :: dig (b.toNat % 16) :: hexL r := rfl
    rw [this]
    simp [ih]
    omega

theorem digit_any (k : Nat) (h : k < 16) (w : World) : Calls Try.prog 23 #[.int .i64 k] w fun e w' => e = .returned (.int .u8 ((dig k).toNat : Nat)) ∧ w = w' := by
  have hd := dig_table k h
  go_enter Try.func23, Try.ntmps23
  go_wp2
  go_ret
  exact ⟨rfl, rfl⟩

theorem byte_ok (d : UInt8) : (0 : Int) ≤ (d.toNat : Int) ∧ (d.toNat : Int) < 256 := by
  have := d.toNat_lt
  omega

theorem digit_at (x : Int) (w : World) (h : 0 ≤ x) (h' : x < 16) : Calls Try.prog 23 #[.int .i64 x] w fun e w' => e = .returned (.int .u8 ((dig x.toNat).toNat : Nat)) ∧ w = w' := by
  obtain ⟨k, rfl⟩ := Int.eq_ofNat_of_zero_le h
  exact digit_any k (by omega) w

set_option maxRecDepth 100000 in
set_option maxHeartbeats 400000 in
theorem spec_any (s : ByteArray) (w : World) (hs : s.size ≤ 70368744177663) :
    Calls Try.prog 17 #[.string s] w fun e w' => e = .returned (.string ⟨(hexL s.data.toList).toArray⟩) ∧ Below w.heap.size w w' := by
  go_enter Try.func17, Try.ntmps17
  go_wp2
  go_loopw [3, 4] (fun v i wr => ∃ k : Nat, k ≤ s.size ∧ i = .int .i64 k ∧ Own wr w.heap.size 5 v (hexL (s.data.toList.take k)) ∧ Below w.heap.size w wr) (fun _ i _ => s.size - (intOf i).toNat)
  case atStart => exact ⟨0, Nat.zero_le _, rfl, Own.empty _ _ _ (Nat.le_refl _), (Below.refl _ _).alloc (Nat.le_refl _) _⟩
  case round =>
    obtain ⟨k, hk, rfl, hown, hb⟩ := hrel
    by_cases hlt : k < s.size
    · have hby := s[k].toNat_lt
      have hbs := hb.size
      have hlen : (hexL (s.data.toList.take k)).length ≤ 140737488355326 := by rw [hexL_length, List.length_take]; omega
      have hb1 : s[k].toNat / 16 < 16 := by omega
      have hb2 : s[k].toNat % 16 < 16 := by omega
      have c1 : IntKind.i64.wrap (s[k].toNat : Int) = (s[k].toNat : Int) := IntWalk.i64_in _ (by omega)
      have c2 : IntKind.i64.wrap ((s[k].toNat : Int) / 16) = (s[k].toNat : Int) / 16 := IntWalk.i64_in _ (by omega)
      have c3 : (s[k].toNat : Int).tmod 16 = (s[k].toNat : Int) % 16 := Int.tmod_eq_emod_of_nonneg (by omega)
      have g1 := (dig (s[k].toNat / 16)).toNat_lt
      have g2 := (dig (s[k].toNat % 16)).toNat_lt
      go_wp2
      go_region_law (first | (refine step_append2 rfl (.tmp 12) (.tmp 25) 36 rfl w.heap.size 5 Try.underlying36 info_u8 _ _ rfl (Own.drew (hown.alloc _)) wr.heap.size (dig ((s[k].toNat : Int) / 16).toNat) (dig ((s[k].toNat : Int) % 16).toNat) rfl ?_ ?_ (by omega) ?_ ?_; rotate_right; intro v' w1 hown1 hb1; rotate_left; (simp [go_sem]); (simp [go_sem]); (simp; omega)) | (go_simp; go_at_call 23; refine (digit_at _ _ (by omega) (by omega)).mono ?_; rintro e w1 ⟨rfl, rfl⟩))
      all_goals
        go_wp2
        go_roundw
        case rel =>
          refine ⟨k + 1, by omega, by go_num, ?_, (hb.alloc hbs _).trans (below_undrew hb1)⟩
          rw [take_snoc s k hlt, hexL_snoc]
          have e1 : ((s[k].toNat : Int) / 16).toNat = s[k].toNat / 16 := by omega
          have e2 : ((s[k].toNat : Int) % 16).toNat = s[k].toNat % 16 := by omega
          rw [e1, e2] at hown1
          exact hown1
        case measure => simp [intOf]; omega
    · obtain rfl : k = s.size := by omega
      have hst := hown.string (P := Try.prog) 36 9 Try.underlying36 Try.underlying5 Try.underlying9
      go_wp2
      go_ret
      exact ⟨ret_str (by rw [List.take_of_length_le (by rw [Array.length_toList]; exact Nat.le_refl _)]), hb⟩

theorem index_table (x : Int) (h0 : 0 ≤ x) (h1 : x < 16) (w : World) :
    (Instr.index 9 (.string ⟨#[48, 49, 50, 51, 52, 53, 54, 55, 56, 57, 97, 98, 99, 100, 101, 102]⟩) (.int .u8 x)).run Try.prog w = .ok (.int .u8 ((dig x.toNat).toNat : Nat)) w := by
  have h16 : x.toNat < 16 := by omega
  have hd := dig_table x.toNat h16
  rw [run_index_string (P := Try.prog) (w := w) 9 _ .u8 x Try.underlying9]
  have hs : ((⟨#[48, 49, 50, 51, 52, 53, 54, 55, 56, 57, 97, 98, 99, 100, 101, 102]⟩ : ByteArray).size : Int) = 16 := rfl
  rw [dif_pos ⟨h0, by rw [hs]; exact h1⟩, hd]

set_option maxRecDepth 100000 in
set_option maxHeartbeats 400000 in
theorem impl_any (s : ByteArray) (w : World) (hs : s.size ≤ 70368744177663) :
    Calls Try.prog 18 #[.string s] w fun e w' => e = .returned (.string ⟨(hexL s.data.toList).toArray⟩) ∧ Below w.heap.size w w' := by
  obtain ⟨i0, hi, hz0, hz1, hz2⟩ := info_parts info_u8
  go_enter Try.func18, Try.ntmps18
  go_wp2_with (at_make; refine wpList_make_own _ rfl _ _ 36 rfl w.heap.size 5 i0 (.int .u8 0) 1 Try.underlying36 hi hz0 hz1 _ _ _ (2 * s.size) rfl rfl (by omega) (by rw [hz2]; omega) (by unfold maxLen; omega) (Nat.le_refl _) ?_)
  intro w1 hown0 hg0
  have hown1 : Own w1 w.heap.size 5 (.slice (some ⟨w.heap.size, 0, none⟩) 0 (2 * s.size)) [] := hown0
  have hb1 : Below w.heap.size w w1 := (Below.refl _ _).grown hg0 (Nat.le_refl _) (by simp)
  clear hown0 hg0
  go_wp2
  go_loopw [3, 4] (fun v i wr => ∃ k : Nat, k ≤ s.size ∧ i = .int .i64 k ∧ Own wr w.heap.size 5 v (hexL (s.data.toList.take k)) ∧ Below w.heap.size w wr) (fun _ i _ => s.size - (intOf i).toNat)
  case atStart => exact ⟨0, Nat.zero_le _, rfl, hown1, hb1⟩
  case round =>
    obtain ⟨k, hk, rfl, hown, hb⟩ := hrel
    by_cases hlt : k < s.size
    · have hby := s[k].toNat_lt
      have hbs := hb.size
      have hlen : (hexL (s.data.toList.take k)).length ≤ 140737488355326 := by rw [hexL_length, List.length_take]; omega
      have c7 : bits .and .u8 (s[k].toNat : Int) 15 = (s[k].toNat : Int) % 16 := u8_and15 _ (by omega) (by omega)
      have hx1 := index_table ((s[k].toNat : Int) / 16) (by omega) (by omega)
      have hx2 := index_table ((s[k].toNat : Int) % 16) (by omega) (by omega)
      go_wp2
      go_region_law (first | (refine step_append2 rfl (.tmp 15) (.tmp 26) 36 rfl w.heap.size 5 Try.underlying36 info_u8 _ _ rfl (Own.drew (hown.alloc _)) wr.heap.size (dig ((s[k].toNat : Int) / 16).toNat) (dig ((s[k].toNat : Int) % 16).toNat) rfl ?_ ?_ (by omega) ?_ ?_; rotate_right; intro v' w1 hown1 hb1; rotate_left; (simp [go_sem]); (simp [go_sem]); (simp; omega)))
      all_goals
        go_wp2
        go_roundw
        case rel =>
          refine ⟨k + 1, by omega, by go_num, ?_, (hb.alloc hbs _).trans (below_undrew hb1)⟩
          rw [take_snoc s k hlt, hexL_snoc]
          have e1 : ((s[k].toNat : Int) / 16).toNat = s[k].toNat / 16 := by omega
          have e2 : ((s[k].toNat : Int) % 16).toNat = s[k].toNat % 16 := by omega
          rw [e1, e2] at hown1
          exact hown1
        case measure => simp [intOf]; omega
    · obtain rfl : k = s.size := by omega
      have hst := hown.string (P := Try.prog) 36 9 Try.underlying36 Try.underlying5 Try.underlying9
      go_wp2
      go_ret
      exact ⟨ret_str (by rw [List.take_of_length_le (by rw [Array.length_toList]; exact Nat.le_refl _)]), hb⟩

end Go.Proofs.Ytlmaaiffmomflaa.Hex
