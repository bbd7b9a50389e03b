/- The text that the exact laws mark a string with. -/
import Derived.Test.YtnoennmhifmolaaFormat
namespace Go.Proofs.Ytnoennmhifmolaa.Mark
open Go Go.RowKit Byt Format
open Go.Lib (decDigits)

/-- The text of mark k. -/
def mtext (k : Nat) : ByteArray := ⟨(109 :: decDigits k).toArray⟩
theorem mtext_size (k : Nat) (h : k ≤ 9223372036854775807) : (mtext k).size ≤ 20 := by
  have := digits_len (n := k) (by omega)
  show (109 :: decDigits k).toArray.size ≤ 20
  rw [List.size_toArray, List.length_cons]
  omega
set_option maxRecDepth 100000 in
set_option maxHeartbeats 400000 in
theorem mark_text (n : Nat) (w : World) (h0 : 0 < n) (h1 : n ≤ 9223372036854775807) :
    Calls Try.prog 72 #[.int .i64 n] w fun e w' => e = .returned (.string (mtext n)) ∧ Below w.heap.size w w' := by
  have hle : ¬ ((n : Int) ≤ 0) := by omega
  go_enter Try.func72, Try.ntmps72
  go_wp2
  clear hle
  go_loopw [0, 3] (fun a o wr => ∃ (u : Nat) (l : List UInt8), a = .int .i64 u ∧ u ≤ n ∧ o = .string ⟨l.toArray⟩ ∧ Hid (Format.D u ++ l = decDigits n) ∧ Below w.heap.size w wr) (fun a _ _ => (intOf a).toNat)
  case atStart => exact ⟨n, [], rfl, Nat.le_refl _, rfl, Format.start h0, Below.refl _ _⟩
  case round =>
    obtain ⟨u, l, rfl, hu, rfl, hl, hb⟩ := hrel
    have hlen := len_of hl.out (by omega)
    have hs1 := fun (w : World) (x : Int) => string_one (P := Try.prog) 108 9 5 Try.underlying108 Try.underlying5 Try.underlying9 w x
    by_cases hpos : 0 < u
    · have ht : (0 : Int) < (u : Int) := by omega
      have hs2 := hs1 wr (48 + (u : Int) % 10) (by omega) (by omega)
      clear hs1
      go_wp2
      go_roundw
      case rel =>
        exact ⟨u / 10, [UInt8.ofNat (48 + u % 10)] ++ l, by go_num, by omega, Format.str_cons _ _, Format.step hl.out hpos, hb.alloc hb.size _⟩
      case measure => simp [intOf]; omega
    · obtain rfl : u = 0 := by omega
      clear hs1
      go_wp2
      go_ret
      refine ⟨ret_str ?_, hb⟩
      have := hl.out
      rw [Format.D_zero, List.nil_append] at this
      rw [this, mtext]
      simp [ByteArray.mk_append_mk]
end Go.Proofs.Ytnoennmhifmolaa.Mark
