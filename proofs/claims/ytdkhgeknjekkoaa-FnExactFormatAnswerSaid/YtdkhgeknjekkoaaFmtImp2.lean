/- Tables: the program's format of a table. -/
import Derived.Test.YtdkhgeknjekkoaaTabImp2
import Derived.Test.YtdkhgeknjekkoaaTabFmt
import Derived.Test.YtdkhgeknjekkoaaTabParse
import Derived.Test.YtdkhgeknjekkoaaDig
import Derived.Test.YtdkhgeknjekkoaaCdRoom
import Derived.Test.YtdkhgeknjekkoaaExact
import Derived.Test.YtdkhgeknjekkoaaShelf
import Derived.Deep.RegionLaw
namespace Go.Proofs.Ytdkhgeknjekkoaa.TabImp
open Go Go.RowKit Byt Ints IntsLaw Cd Rows2 Tab TabSpec Exact TabFmt TabParse

/-- The digits of each row. -/
def digS (rows : List (List Int)) : List ByteArray := rows.map fun r => ⟨(digB r).toArray⟩

set_option maxRecDepth 100000 in
set_option maxHeartbeats 1600000 in
theorem map_fmt (v : Value) (l : List (List Int)) (S : Nat → Prop) (w : World) (hr : rowsC.rd w S [v] l) (h8 : l.length ≤ 1048577) (hok : ∀ r ∈ l, r.length ≤ 4 ∧ ∀ x ∈ r, 0 ≤ x ∧ x ≤ 9) :
    Calls Try.prog 40 #[v, .func (.func 41) #[] #[]] w fun e w' => ∃ g fp, e = .returned (.slice (some ⟨g, 0, none⟩) l.length l.length) ∧ strsC.ow w' w.heap.size [.slice (some ⟨g, 0, none⟩) l.length l.length] (digS l) fp ∧ fp.Nodup ∧ Below w.heap.size w w' := by
  obtain ⟨i0, hi, hz0, hz1, hz2⟩ := info_parts info_str
  have HR := Lib.hid (fun w' (hb : Below w.heap.size w w') => Cd.later hr hb)
  have HOK := Lib.hid hok
  obtain ⟨a, cap, rfl, hlm⟩ := rows_form hr
  clear hr hok
  go_enter Try.func40, Try.ntmps40
  go_wp2_with (at_make; refine wpList_make_own _ rfl _ _ 49 rfl w.heap.size 9 i0 (.string ⟨#[]⟩) 1 Try.underlying49 hi hz0 hz1 _ _ _ l.length rfl rfl rfl (by rw [hz2]; omega) (by unfold maxLen; omega) (Nat.le_refl _) ?_)
  intro w1 hown0 hg0
  have how1 : strsC.ow w1 w.heap.size [.slice (some ⟨w.heap.size, 0, none⟩) 0 l.length] [] [w.heap.size] := ⟨_, [], [], rfl, hown0, trivial, rfl⟩
  have hb1 : Below w.heap.size w w1 := (Below.refl _ _).grown hg0 (Nat.le_refl _) (by simp)
  clear hown0 hg0
  go_wp2_with fail
  go_loopw [5, 13] (fun o i wr => ∃ (k : Nat) (fp : List Nat), k ≤ l.length ∧ i = .int .i64 k ∧ o = .slice (some ⟨w.heap.size, 0, none⟩) k l.length ∧ strsC.ow wr w.heap.size [.slice (some ⟨w.heap.size, 0, none⟩) k l.length] (digS (l.take k)) fp ∧ fp.Nodup ∧ Below w.heap.size w wr) (fun _ i _ => l.length - (intOf i).toNat)
  case atStart => exact ⟨0, _, Nat.zero_le _, rfl, rfl, how1, by simp, hb1⟩
  case round =>
    obtain ⟨k, fp, hk, rfl, rfl, how, hnd, hb⟩ := hrel
    by_cases hlt : k < l.length
    · obtain ⟨b, off, cap', u, e1, hbB, hc, hu⟩ := rows_at (HR.out wr hb) hlt
      injection e1 with e1 e2 e3
      subst e1 e3
      obtain ⟨hr3, hr9⟩ := HOK.out _ (List.getElem_mem hlt)
      have HC := Lib.hid (Dig.format_digits u l[k] _ wr (row_ri hu).1 (Nat.le_refl _) (by omega) hr9)
      have HOW := Lib.hid how
      have HND := Lib.hid hnd
      have HB := Lib.hid hb
      have HT := Lib.hid (show digS (l.take (k + 1)) = digS (l.take k) ++ [⟨(digB l[k]).toArray⟩] by unfold digS; rw [List.take_succ_eq_append_getElem hlt, List.map_append]; rfl)
      have hsz : (⟨(digB l[k]).toArray⟩ : ByteArray).size ≤ maxLen := by show (digB l[k]).toArray.size ≤ maxLen; rw [List.size_toArray, digB_len]; unfold maxLen; omega
      have HSZ := Lib.hid hsz
      have HL := Lib.hid (show k = (digS (l.take k)).length by unfold digS; rw [List.length_map, List.length_take]; omega)
      clear hu how hnd hb how1 hb1 hr3 hr9 hsz
      change Hid (Calls _ _ _ _ fun e w' => e = .returned (.string ⟨(digB l[k]).toArray⟩) ∧ _) at HC
      generalize (⟨(digB l[k]).toArray⟩ : ByteArray) = r at *
      go_wp2_with fail
      refine HC.out.mono ?_
      rintro e w2 ⟨rfl, hb2⟩
      have hbA : Below w2.heap.size w2 (w2.alloc (.cells #[.string r] 9 (0, 0))) := below_alloc _ _
      have HOW2 := Lib.hid (Cd.ow_later (Cd.ow_later HOW.out hb2) hbA)
      have HB2 := Lib.hid (below_then (below_then HB.out hb2) hbA)
      have HBS := Lib.hid (show w.heap.size ≤ (w2.alloc (.cells #[.string r] 9 (0, 0))).heap.size by rw [size_alloc]; have := HB.out.size; have := hb2.size; omega)
      have HCELL := Lib.hid (show (w2.alloc (.cells #[.string r] 9 (0, 0))).cell? ⟨w2.heap.size, 0, none⟩ = some (.string r) from World.cell?_alloc_mark _ _ _ _ 0)
      clear hbA hb2
      go_wp2_with (at_builtin; refine Cd.wpList_appendR (c := strC) rfl rfl (.tmp 17) (.tmp 21) 49 rfl w.heap.size 9 (.string ⟨#[]⟩) 16 Try.underlying49 info_str rfl (by decide) w.heap.size l.length k (digS (l.take k)) fp rfl HL.out HOW2.out HND.out (by omega) w2.heap.size (.string r) rfl HCELL.out r [] ⟨rfl, HSZ.out, rfl⟩ List.nodup_nil (fun b hb => by cases hb) (by omega) HBS.out ?_)
      intro w3 fp3 ho3 hn3 hsub3 ht3
      have HB3 := Lib.hid (ht3.below HB2.out (fun b hb => (strsC.ow_lt HOW.out b hb).1))
      rw [← HT.out] at ho3
      clear ht3 hsub3
      go_wp2_with fail
      go_roundw
      case rel => exact ⟨k + 1, fp3, by omega, by go_num, rfl, ho3, hn3, HB3.out⟩
      case measure => simp [intOf]; omega
    · have ek : k = l.length := by omega
      subst ek
      rw [List.take_length] at how
      go_wp2_with fail
      go_ret
      exact ⟨_, fp, rfl, how, hnd, hb⟩

theorem rowsB_join : ∀ rows : List (List Int), Lib.join ((digS rows).map (·.data.toList)) [32] = rowsB rows
  | [] => rfl
  | [r] => by simp [digS, rowsB, Lib.join, List.intercalate]
  | r :: s :: rs => by
    have := rowsB_join (s :: rs)
    simp only [digS, List.map_cons, Lib.join, List.intercalate, List.intersperse, List.flatten_cons] at this ⊢
    rw [this]
    simp [rowsB]
end Go.Proofs.Ytdkhgeknjekkoaa.TabImp

namespace Go.Proofs.Ytdkhgeknjekkoaa.TabImp
open Go Go.RowKit Byt Ints IntsLaw Cd Rows2 Tab TabSpec Exact TabFmt TabParse

/-- What was stands as it was. -/
def Later (w w' : World) : Prop := Below w.heap.size w w'
theorem join_owned (g : Nat) (rows : List (List Int)) (fp : List Nat) (w : World) (base : Nat) (how : strsC.ow w base [.slice (some ⟨g, 0, none⟩) rows.length rows.length] (digS rows) fp) (h8 : rows.length ≤ 1048577) (hl : (rowsB rows).length ≤ 1048577) :
    Calls Try.prog 37 #[.slice (some ⟨g, 0, none⟩) rows.length rows.length, .string ⟨#[32]⟩] w fun e w' => e = .returned (.string ⟨(rowsB rows).toArray⟩) ∧ Below w.heap.size w w' := by
  have hlen : (digS rows).length = rows.length := by unfold digS; rw [List.length_map]
  have hg : g < w.heap.size := by
    obtain ⟨v, xss, fps, e1, hown, _, _⟩ := how
    injection e1 with e1 _
    subst e1
    rcases hown.2 with ⟨e1, _⟩ | ⟨g', cap', cur, e1, _, hgg, _⟩
    · cases e1
    · simp only [Value.slice.injEq, Option.some.injEq, Addr.mk.injEq, and_true] at e1
      obtain ⟨rfl, _, _⟩ := e1
      exact (Array.getElem?_eq_some_iff.1 hgg).1
  have h := Try.strings_Join g 0 rows.length (digS rows) ⟨#[32]⟩ w (fun j x hj => by
    obtain ⟨hj1, hj2⟩ := List.getElem?_eq_some_iff.1 hj
    obtain ⟨b, off, cap, e1, _, hc⟩ := strs_at (strsC.ow_rd how) hj1
    simp only [Value.slice.injEq, Option.some.injEq, Addr.mk.injEq, and_true] at e1
    obtain ⟨⟨rfl, rfl⟩, _, _⟩ := e1
    rw [← hj2]
    exact hc) hg (by rw [hlen]; omega) (by rw [hlen]; exact Nat.le_refl _) (by rw [show (ByteArray.mk #[32]).data.toList = [32] from rfl, rowsB_join]; omega)
  rw [hlen, show (ByteArray.mk #[32]).data.toList = [32] from rfl, rowsB_join] at h
  exact h

set_option maxRecDepth 100000 in
theorem format_rows (u : Value) (rows : List (List Int)) (S : Nat → Prop) (w : World) (hr : rowsC.rd w S [u] rows) (h8 : rows.length ≤ 1048577) (hok : ∀ r ∈ rows, r.length ≤ 4 ∧ ∀ x ∈ r, 0 ≤ x ∧ x ≤ 9) (hl : (rowsB rows).length ≤ 1048577) :
    Calls Try.prog 31 #[u] w fun e w' => e = .returned (.string ⟨(rowsB rows).toArray⟩) ∧ Below w.heap.size w w' := by
  have HMP := Lib.hid (map_fmt u rows S w hr h8 hok)
  have H8 := Lib.hid h8
  have HL := Lib.hid hl
  obtain ⟨a, cap, rfl, hlm⟩ := rows_form hr
  clear hr h8 hok hl
  go_enter Try.func31, Try.ntmps31
  go_wp2_with fail
  refine HMP.out.mono ?_
  rintro e w1 ⟨g, fp, rfl, how, hnd, hb1⟩
  have HJ := Lib.hid (join_owned g rows fp w1 _ how H8.out HL.out)
  have HB1 := Lib.hid hb1
  clear how hnd hb1
  go_wp2_with fail
  refine HJ.out.mono ?_
  rintro e w2 ⟨rfl, hb2⟩
  have HB2 := Lib.hid (below_then HB1.out hb2)
  clear hb2
  go_wp2_with fail
  go_ret
  exact ⟨rfl, HB2.out⟩
end Go.Proofs.Ytdkhgeknjekkoaa.TabImp
