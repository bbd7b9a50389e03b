/- Queries: the names of variables, one behind another: the model's function and the program's. -/
import Derived.Test.YtklamhnecncenaaQrySpec1
import Derived.Test.YtklamhnecncenaaTabFmt
import Derived.Test.YtklamhnecncenaaCdN
import Derived.Test.YtklamhnecncenaaCdRoom
import Derived.Test.YtklamhnecncenaaTabParse
import Derived.Test.YtklamhnecncenaaShelf
import Derived.Deep.RegionLaw
import Derived.Lib.Join
namespace Go.Proofs.Ytklamhnecncenaa.QryFmt
open Go Go.RowKit Byt Ints IntsLaw Cd Rows2 Tab TabSpec Exact Atom QryMath QrySpec
open TabParse (strC strsC info_str)

theorem vnm_in {x : Int} (h : 0 ≤ x ∧ x < 4) : vnm x = ⟨#[vb x]⟩ := if_pos h
set_option maxRecDepth 100000 in
theorem spec_names (v : Value) (l : List Int) (B : Nat) (w : World) (hr : RI w v l B) (h4 : In4 l) (h3 : l.length ≤ 4) :
    Calls Try.prog 174 #[v] w fun e w' => e = .returned (.string ⟨(l.map vb).toArray⟩) ∧ w = w' := by
  have HR := Lib.hid hr
  have H4 := Lib.hid h4
  obtain ⟨a, cap, rfl, hlm, _⟩ := hr
  clear h4
  go_enter Try.func174, Try.ntmps174
  go_wp2
  go_loop [3, 4] (fun s i => ∃ k : Nat, k ≤ l.length ∧ i = .int .i64 k ∧ s = .string ⟨((l.take k).map vb).toArray⟩) (fun _ i => l.length - (intOf i).toNat)
  case atStart => exact ⟨0, Nat.zero_le _, rfl, by simp⟩
  case round =>
    obtain ⟨k, hk, rfl, rfl⟩ := hrel
    by_cases hlt : k < l.length
    · obtain ⟨b, off, cap', e1, hbB, hc⟩ := ri_at HR.out hlt
      injection e1 with e1 e2 e3
      subst e1 e3
      have p1 : (0 : Int) ≤ (k : Int) := by omega
      have p2 : (k : Int) < (l.length : Int) := by omega
      have hsn := fun w => spec_name l[k] w
      have HS := Lib.hid hsn
      rw [vnm_in (H4.out _ (List.getElem_mem hlt))] at HS
      have HT := Lib.hid (show (⟨((l.take (k + 1)).map vb).toArray⟩ : ByteArray) = ⟨((l.take k).map vb).toArray⟩ ++ ⟨#[vb l[k]]⟩ by
        rw [List.take_succ_eq_append_getElem hlt, List.map_append]
        simp [ByteArray.mk_append_mk])
      have hpl : ((l.take k).map vb).length ≤ 4 := by rw [List.length_map, List.length_take]; omega
      have HPL := Lib.hid hpl
      have hsz : (⟨((l.take k).map vb).toArray⟩ : ByteArray).size ≤ 4 := by show ((l.take k).map vb).toArray.size ≤ 4; rw [List.size_toArray]; exact hpl
      clear hsn hpl
      generalize l[k] = z at *
      generalize (⟨((l.take k).map vb).toArray⟩ : ByteArray) = P at *
      have l1 : ¬ 9223372036854775807 < P.size + 1 := by omega
      go_wp2_with (go_at_call 170; refine (HS.out _).mono ?_; rintro e w1 ⟨rfl, rfl⟩)
      go_round
      case rel => exact ⟨k + 1, by omega, by go_num, by rw [HT.out]⟩
      case measure => simp [intOf]; omega
    · have ek : k = l.length := by omega
      subst ek
      rw [List.take_length] at *
      go_wp2
      go_ret
      exact ⟨rfl, rfl⟩
theorem strs_at {w : World} {S : Nat → Prop} {v : Value} {l : List ByteArray} (h : strsC.rd w S [v] l) {j : Nat} (hj : j < l.length) :
    ∃ b off cap, v = .slice (some ⟨b, off, none⟩) l.length cap ∧ b < w.heap.size ∧ w.cell? ⟨b, off + j, none⟩ = some (.string l[j]) := by
  obtain ⟨b, off, cap, us, e1, _, hb, hat, hu⟩ := Cd.sl_at h hj
  obtain ⟨rfl, _⟩ := hu
  have c0 := hat 0 (by simp)
  simp only [List.getElem_cons_zero, Nat.add_zero, show strC.n = 1 from rfl, Nat.mul_one] at c0
  exact ⟨b, off, cap, e1, hb, c0⟩
def KeptF (w w' : World) : Prop := Below w.heap.size w w'
end Go.Proofs.Ytklamhnecncenaa.QryFmt
