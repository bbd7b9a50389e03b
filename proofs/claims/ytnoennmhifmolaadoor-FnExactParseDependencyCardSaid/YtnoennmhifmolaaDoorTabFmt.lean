/- Tables: the model's format. -/
import Derived.Test.YtnoennmhifmolaaDoorTabSpec2
import Derived.Test.YtnoennmhifmolaaDoorFormat
import Derived.Test.YtnoennmhifmolaaDoorTabCopy
import Derived.Deep.DeepCutAuto
namespace Go.Proofs.YtnoennmhifmolaaDoor.TabFmt
open Go Go.RowKit Byt Ints IntsLaw Cd Rows2 Tab TabSpec
open Go.Lib (decDigits itoa)

/-- The digits of small numbers. -/
def digB (l : List Int) : List UInt8 := l.map fun x => UInt8.ofNat (48 + x.toNat)
theorem itoa_digit {x : Int} (h : 0 ≤ x ∧ x ≤ 9) : itoa x = [UInt8.ofNat (48 + x.toNat)] := by
  unfold itoa
  rw [if_neg (by omega), decDigits, dif_pos (by omega)]
theorem digB_len (l : List Int) : (digB l).length = l.length := by simp [digB]
/-- The rows' digits, separated by blanks. -/
def rowsB : List (List Int) → List UInt8
  | [] => []
  | [r] => digB r
  | r :: s :: rs => digB r ++ 32 :: rowsB (s :: rs)
theorem rowsB_snoc : ∀ (l : List (List Int)) (r : List Int), rowsB (l ++ [r]) = if l = [] then digB r else rowsB l ++ 32 :: digB r
  | [], r => by simp [rowsB]
  | [a], r => by simp [rowsB]
  | a :: b :: l, r => by
    have := rowsB_snoc (b :: l) r
    rw [if_neg (by simp)] at this
    rw [if_neg (by simp)]
    show digB a ++ 32 :: rowsB ((b :: l) ++ [r]) = _
    rw [this]
    simp [rowsB]
/-- A valid table's format. -/
def tabB (nm : ByteArray) (ar : Int) (rows : List (List Int)) : List UInt8 := nm.data.toList ++ UInt8.ofNat (48 + ar.toNat) :: 58 :: rowsB rows
def fmtT (nm : ByteArray) (ar : Int) (rows : List (List Int)) : ByteArray := ⟨(if tabOk nm ar rows then tabB nm ar rows else []).toArray⟩

set_option maxRecDepth 100000 in
theorem spec_digits (v : Value) (l : List Int) (B : Nat) (w : World) (hr : RI w v l B) (hB : B ≤ w.heap.size) (hin : ∀ x ∈ l, 0 ≤ x ∧ x ≤ 9) (hl : l.length ≤ 1000000) :
    Calls Tryd.prog 46 #[v] w fun e w' => e = .returned (.string ⟨(digB l).toArray⟩) ∧ Below w.heap.size w w' := by
  have HR := Lib.hid (fun w' (hb : Below w.heap.size w w') => (hr.mono hB).later hb)
  have HIN := Lib.hid hin
  obtain ⟨a, cap, rfl, hlm, _⟩ := hr
  clear hin
  go_enter Tryd.func46, Tryd.ntmps46
  go_wp2
  go_loopw [3, 4] (fun o i wr => ∃ k : Nat, k ≤ l.length ∧ i = .int .i64 k ∧ o = .string ⟨(digB (l.take k)).toArray⟩ ∧ Below w.heap.size w wr) (fun _ i _ => l.length - (intOf i).toNat)
  case atStart => exact ⟨0, Nat.zero_le _, rfl, rfl, Below.refl _ _⟩
  case round =>
    obtain ⟨k, hk, rfl, rfl, hb⟩ := hrel
    by_cases hlt : k < l.length
    · obtain ⟨b, off, cap', e1, hbB, hc⟩ := ri_at (HR.out wr hb) hlt
      injection e1 with e1 e2 e3
      subst e1 e3
      have hx := HIN.out _ (List.getElem_mem hlt)
      have hf := Format.spec_any l[k] wr ⟨by omega, by omega⟩
      rw [itoa_digit hx] at hf
      have HF := Lib.hid hf
      have HB := Lib.hid hb
      have hlen : (digB (l.take k)).length ≤ 1000000 := by rw [digB_len, List.length_take]; omega
      have l3 : ¬ 9223372036854775807 < (digB (l.take k)).length + 1 := by omega
      have HT := Lib.hid (show digB (l.take (k + 1)) = digB (l.take k) ++ [UInt8.ofNat (48 + l[k].toNat)] by unfold digB; rw [List.take_succ_eq_append_getElem hlt, List.map_append]; rfl)
      clear hf hb hx
      generalize digB (l.take k) = cur at *
      generalize UInt8.ofNat (48 + l[k].toNat) = z at *
      go_wp2_with (first | (go_at_call 42; refine HF.out.mono ?_; rintro e w1 ⟨rfl, hb1⟩))
      go_roundw
      case rel => exact ⟨k + 1, by omega, by go_num, by rw [HT.out]; simp [ByteArray.mk_append_mk], below_then HB.out hb1⟩
      case measure => simp [intOf]; omega
    · have ek : k = l.length := by omega
      subst ek
      rw [List.take_length]
      go_wp2_with fail
      go_ret
      exact ⟨rfl, hb⟩

theorem rowsB_len : ∀ (l : List (List Int)), (rowsB l).length ≤ rowsWt l
  | [] => by simp [rowsB]
  | [r] => by simp [rowsB, digB, rowsWt]
  | r :: s :: rs => by
    have := rowsB_len (s :: rs)
    have h : rowsWt (r :: s :: rs) = rowsWt (s :: rs) + r.length + 1 := by simp [rowsWt]; omega
    rw [h]
    show (digB r ++ 32 :: rowsB (s :: rs)).length ≤ _
    rw [List.length_append, List.length_cons, digB_len]
    omega
/-- The format, up to row k. -/
def headB (nl : List UInt8) (ar : Int) : List UInt8 := nl ++ [UInt8.ofNat (48 + ar.toNat), 58]
theorem tabB_head (nl : List UInt8) (ar : Int) (rows : List (List Int)) : tabB ⟨⟨nl⟩⟩ ar rows = headB nl ar ++ rowsB rows := by simp [tabB, headB]

end Go.Proofs.YtnoennmhifmolaaDoor.TabFmt
