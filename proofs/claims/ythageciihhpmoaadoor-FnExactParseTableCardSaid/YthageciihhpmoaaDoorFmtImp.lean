/- Tables: the program's format. -/
import Derived.Test.YthageciihhpmoaaDoorTabImp2
import Derived.Test.YthageciihhpmoaaDoorTabFmt
import Derived.Test.YthageciihhpmoaaDoorTabParse
import Derived.Test.YthageciihhpmoaaDoorDig
import Derived.Test.YthageciihhpmoaaDoorCdRoom
import Derived.Test.YthageciihhpmoaaDoorExact
import Derived.Test.YthageciihhpmoaaDoorShelf
import Derived.Deep.RegionLaw
namespace Go.Proofs.YthageciihhpmoaaDoor.TabImp
open Go Go.RowKit Byt Ints IntsLaw Cd Rows2 Tab TabSpec Exact TabFmt TabParse

/-- The digits of each row. -/
def digS (rows : List (List Int)) : List ByteArray := rows.map fun r => ⟨(digB r).toArray⟩

set_option maxRecDepth 100000 in
set_option maxHeartbeats 1600000 in
theorem map_fmt (v : Value) (l : List (List Int)) (S : Nat → Prop) (w : World) (hr : rowsC.rd w S [v] l) (h8 : l.length ≤ 8) (hok : ∀ r ∈ l, r.length ≤ 3 ∧ ∀ x ∈ r, 0 ≤ x ∧ x ≤ 9) :
    Calls Tryd.prog 22 #[v, .func (.func 23) #[] #[]] w fun e w' => ∃ g fp, e = .returned (.slice (some ⟨g, 0, none⟩) l.length l.length) ∧ strsC.ow w' w.heap.size [.slice (some ⟨g, 0, none⟩) l.length l.length] (digS l) fp ∧ fp.Nodup ∧ Below w.heap.size w w' := by
  obtain ⟨i0, hi, hz0, hz1, hz2⟩ := info_parts info_str
  have HR := Lib.hid (fun w' (hb : Below w.heap.size w w') => Cd.later hr hb)
  have HOK := Lib.hid hok
  obtain ⟨a, cap, rfl, hlm⟩ := rows_form hr
  clear hr hok
  go_enter Tryd.func22, Tryd.ntmps22
  go_wp2_with (at_make; refine wpList_make_own _ rfl _ _ 42 rfl w.heap.size 9 i0 (.string ⟨#[]⟩) 1 Tryd.underlying42 hi hz0 hz1 _ _ _ l.length rfl rfl rfl (by rw [hz2]; omega) (by unfold maxLen; omega) (Nat.le_refl _) ?_)
  intro w1 hown0 hg0
  have how1 : strsC.ow w1 w.heap.size [.slice (some ⟨w.heap.size, 0, none⟩) 0 l.length] [] [w.heap.size] := ⟨_, [], [], rfl, hown0, trivial, rfl⟩
  have hb1 : Below w.heap.size w w1 := (Below.refl _ _).grown hg0 (Nat.le_refl _) (by simp)
  clear hown0 hg0
  go_wp2_with fail
  go_loopw [5, 13] (fun o i wr => ∃ (k : Nat) (fp : List Nat), k ≤ l.length ∧ i = .int .i64 k ∧ o = .slice (some ⟨w.heap.size, 0, none⟩) k l.length ∧ strsC.ow wr w.heap.size [.slice (some ⟨w.heap.size, 0, none⟩) k l.length] (digS (l.take k)) fp ∧ fp.Nodup ∧ Below w.heap.size w wr) (fun _ i _ => l.length - (intOf i).toNat)
  case atStart => exact ⟨0, _, Nat.zero_le _, rfl, rfl, how1, by simp, hb1⟩
  case round =>
    obtain ⟨k, fp, hk, rfl, rfl, how, hnd, hb⟩ := hrel
    by_cases hlt : k < l.length
    · obtain ⟨b, off, cap', u, e1, hbB, hc, hu⟩ := rows_at (HR.out wr hb) hlt
      injection e1 with e1 e2 e3
      subst e1 e3
      obtain ⟨hr3, hr9⟩ := HOK.out _ (List.getElem_mem hlt)
      have HC := Lib.hid (Dig.format_digits u l[k] _ wr (row_ri hu).1 (Nat.le_refl _) (by omega) hr9)
      have HOW := Lib.hid how
      have HND := Lib.hid hnd
      have HB := Lib.hid hb
      have HT := Lib.hid (show digS (l.take (k + 1)) = digS (l.take k) ++ [⟨(digB l[k]).toArray⟩] by unfold digS; rw [List.take_succ_eq_append_getElem hlt, List.map_append]; rfl)
      have hsz : (⟨(digB l[k]).toArray⟩ : ByteArray).size ≤ maxLen := by show (digB l[k]).toArray.size ≤ maxLen; rw [List.size_toArray, digB_len]; unfold maxLen; omega
      have HSZ := Lib.hid hsz
      have HL := Lib.hid (show k = (digS (l.take k)).length by unfold digS; rw [List.length_map, List.length_take]; omega)
      clear hu how hnd hb how1 hb1 hr3 hr9 hsz
      change Hid (Calls _ _ _ _ fun e w' => e = .returned (.string ⟨(digB l[k]).toArray⟩) ∧ _) at HC
      generalize (⟨(digB l[k]).toArray⟩ : ByteArray) = r at *
      go_wp2_with fail
      refine HC.out.mono ?_
      rintro e w2 ⟨rfl, hb2⟩
      have hbA : Below w2.heap.size w2 (w2.alloc (.cells #[.string r] 9 (0, 0))) := below_alloc _ _
      have HOW2 := Lib.hid (Cd.ow_later (Cd.ow_later HOW.out hb2) hbA)
      have HB2 := Lib.hid (below_then (below_then HB.out hb2) hbA)
      have HBS := Lib.hid (show w.heap.size ≤ (w2.alloc (.cells #[.string r] 9 (0, 0))).heap.size by rw [size_alloc]; have := HB.out.size; have := hb2.size; omega)
      have HCELL := Lib.hid (show (w2.alloc (.cells #[.string r] 9 (0, 0))).cell? ⟨w2.heap.size, 0, none⟩ = some (.string r) from World.cell?_alloc_mark _ _ _ _ 0)
      clear hbA hb2
      go_wp2_with (at_builtin; refine Cd.wpList_appendR (c := strC) rfl rfl (.tmp 17) (.tmp 21) 42 rfl w.heap.size 9 (.string ⟨#[]⟩) 16 Tryd.underlying42 info_str rfl (by decide) w.heap.size l.length k (digS (l.take k)) fp rfl HL.out HOW2.out HND.out (by omega) w2.heap.size (.string r) rfl HCELL.out r [] ⟨rfl, HSZ.out, rfl⟩ List.nodup_nil (fun b hb => by cases hb) (by omega) HBS.out ?_)
      intro w3 fp3 ho3 hn3 hsub3 ht3
      have HB3 := Lib.hid (ht3.below HB2.out (fun b hb => (strsC.ow_lt HOW.out b hb).1))
      rw [← HT.out] at ho3
      clear ht3 hsub3
      go_wp2_with fail
      go_roundw
      case rel => exact ⟨k + 1, fp3, by omega, by go_num, rfl, ho3, hn3, HB3.out⟩
      case measure => simp [intOf]; omega
    · have ek : k = l.length := by omega
      subst ek
      rw [List.take_length] at how
      go_wp2_with fail
      go_ret
      exact ⟨_, fp, rfl, how, hnd, hb⟩

theorem rowsB_join : ∀ rows : List (List Int), Lib.join ((digS rows).map (·.data.toList)) [32] = rowsB rows
  | [] => rfl
  | [r] => by simp [digS, rowsB, Lib.join, List.intercalate]
  | r :: s :: rs => by
    have := rowsB_join (s :: rs)
    simp only [digS, List.map_cons, Lib.join, List.intercalate, List.intersperse, List.flatten_cons] at this ⊢
    rw [this]
    simp [rowsB]
end Go.Proofs.YthageciihhpmoaaDoor.TabImp
