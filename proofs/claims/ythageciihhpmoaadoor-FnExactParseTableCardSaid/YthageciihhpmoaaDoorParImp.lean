/- Tables: what the program's reading of a table calls. -/
import Derived.Test.YthageciihhpmoaaDoorParMath
import Derived.Test.YthageciihhpmoaaDoorDig
import Derived.Test.YthageciihhpmoaaDoorCdRoom
import Derived.Test.YthageciihhpmoaaDoorExact
import Derived.Test.YthageciihhpmoaaDoorShelf
namespace Go.Proofs.YthageciihhpmoaaDoor.ParImp
open Go Go.RowKit Byt Ints IntsLaw Cd Rows2 Tab TabSpec Exact TabFmt TabParse ParMath

/-- What the program's function reads of the package variables. -/
def Ready (w : World) : Prop :=
  Format.Tab w ∧ (∃ m, w.cell? ⟨2, 0, none⟩ = some (.int .i64 m)) ∧ Lib.TabIs Tryd.prog w "strings.asciiSpace" .u8 Lib.asciiSpaceTab ∧ Lib.WhiteTab 1 w
theorem tabis_later {w w' : World} {n : String} {k : IntKind} {l : List Int} (hb : Below w.heap.size w w') (h : Lib.TabIs Tryd.prog w n k l) : Lib.TabIs Tryd.prog w' n k l := by
  unfold Lib.TabIs World.var? at *
  obtain ⟨g, hg, hm⟩ := Option.bind_eq_some_iff.1 h
  have hlt : g < w.heap.size := by
    cases hx : w.heap[g]? with
    | none => rw [hx] at hm; simp at hm
    | some o => exact (Array.getElem?_eq_some_iff.1 hx).1
  refine Option.bind_eq_some_iff.2 ⟨g, hg, ?_⟩
  rw [hb.block g hlt]
  exact hm
theorem each_str (w : World) (base : Nat) : ∀ l : List (List UInt8), (∀ x ∈ l, x.length ≤ 1048576) → Cd.Each strC w base (l.map fun x => [Value.string ⟨x.toArray⟩]) (l.map ba) (l.map fun _ => [])
  | [], _ => trivial
  | x :: xs, h => ⟨⟨rfl, by have := h x List.mem_cons_self; show x.toArray.size ≤ maxLen; rw [List.size_toArray]; unfold maxLen; omega, rfl⟩, each_str w base xs fun y hy => h y (List.mem_cons_of_mem _ hy)⟩
theorem ready_later {w w' : World} (hb : Below w.heap.size w w') (h : Ready w) : Ready w' := by
  obtain ⟨t, ⟨m, hm⟩, h3, h4⟩ := h
  refine ⟨Format.tab_later hb t, ⟨m, ?_⟩, tabis_later hb h3, WhiteTab_below h4 hb⟩
  exact (hb.cell (World.block_lt_of_cell? w _ hm)).trans hm
theorem drewn_below {B n : Nat} {w w' : World} (h : Below B w w') : Below B w (w'.drewN n) := ⟨h.os, h.tape, h.output, h.size, h.block⟩
theorem cut_colon (s : ByteArray) (w : World) (hs : s.size ≤ 1048576) (hr : Ready w) {a b : List UInt8} {has : Bool} (hc : Lib.cut s.data.toList [58] = (a, b, has)) :
    Calls Tryd.prog 27 #[.string s, .string ⟨#[58]⟩] w fun e w' => e = .returned (.tuple #[.string ⟨a.toArray⟩, .string ⟨b.toArray⟩, .bool has]) ∧ Below w.heap.size w w' := by
  obtain ⟨_, ⟨m, hm⟩, _, _⟩ := hr
  have h := Tryd.strings_Cut s ⟨#[58]⟩ m w (by omega) hm
  rw [show (⟨#[58]⟩ : ByteArray).data.toList = [58] from rfl, hc] at h
  refine h.mono ?_
  rintro e w' ⟨rfl, n, rfl⟩
  exact ⟨rfl, drewn_below (Below.refl _ _)⟩
theorem fields_any (b : List UInt8) (w : World) (hs : b.length ≤ 1048576) (hr : Ready w) :
    Calls Tryd.prog 31 #[.string ⟨b.toArray⟩] w fun e w' => ∃ v fp, e = .returned v ∧ strsC.ow w' w.heap.size [v] ((Lib.fieldsD b).map ba) fp ∧ Below w.heap.size w w' := by
  obtain ⟨_, _, h3, h4⟩ := hr
  have h := Tryd.strings_Fields_any ⟨b.toArray⟩ w (by show b.toArray.size < _; simp; omega) h3 h4
  refine h.mono ?_
  rintro e w' ⟨A, rfl, hA, ho, hb⟩
  have e1 : (⟨b.toArray⟩ : ByteArray).data.toList = b := rfl
  rw [e1] at ho
  refine ⟨_, _, rfl, ⟨_, (Lib.fieldsD b).map fun x => [Value.string ⟨x.toArray⟩], (Lib.fieldsD b).map fun _ => [], rfl, ?_, ?_, rfl⟩, hb⟩
  · rw [List.length_map]
    have e2 : ((Lib.fieldsD b).map fun x => [Value.string ⟨x.toArray⟩]).flatten = (Lib.fieldsD b).map fun x => Value.string ⟨x.toArray⟩ := by
      induction Lib.fieldsD b with
      | nil => rfl
      | cons x xs ih => simp [ih]
    rw [e2, e1]
    exact ho
  · exact each_str _ _ _ fun x hx => by have := fieldsD_mem hx; omega
theorem str_clone (s : ByteArray) (w : World) (hs : s.size ≤ 1048577) :
    Calls Tryd.prog 28 #[.string s] w fun e w' => e = .returned (.string s) ∧ Below w.heap.size w w' := by
  have HC := Lib.hid (Tryd.stringslite_Clone s w (by omega))
  clear hs
  go_enter Tryd.func28, Tryd.ntmps28
  go_wp2_with (go_at_call 53; refine HC.out.mono ?_; rintro e w1 ⟨rfl, hb⟩)
  go_ret
  exact ⟨rfl, hb⟩

/-- The numbers of each field. -/
def valS (l : List ByteArray) : List (List Int) := l.map fun x => vals x.data.toList
set_option maxRecDepth 100000 in
set_option maxHeartbeats 1600000 in
theorem map_vals (v : Value) (l : List ByteArray) (S : Nat → Prop) (w : World) (hr : strsC.rd w S [v] l) (hl : l.length ≤ 1048577) (hz : ∀ x ∈ l, x.size ≤ 1048577) :
    Calls Tryd.prog 30 #[v, .func (.func 32) #[] #[]] w fun e w' => ∃ g fp, e = .returned (.slice (some ⟨g, 0, none⟩) l.length l.length) ∧ rowsC.ow w' w.heap.size [.slice (some ⟨g, 0, none⟩) l.length l.length] (valS l) fp ∧ fp.Nodup ∧ Below w.heap.size w w' := by
  obtain ⟨i0, hi, hz0, hz1, hz2⟩ := info_parts info_ints
  have HR := Lib.hid (fun w' (hb : Below w.heap.size w w') => Cd.later hr hb)
  have HSZ := Lib.hid hz
  obtain ⟨a, cap, rfl, hlm⟩ := strs_form hr
  clear hr hz
  go_enter Tryd.func30, Tryd.ntmps30
  go_wp2_with (at_make; refine wpList_make_own _ rfl _ _ 22 rfl w.heap.size 39 i0 (.slice none 0 0) 1 Tryd.underlying22 hi hz0 hz1 _ _ _ l.length rfl rfl rfl (by rw [hz2]; omega) (by unfold maxLen; omega) (Nat.le_refl _) ?_)
  intro w1 hown0 hg0
  have how1 : rowsC.ow w1 w.heap.size [.slice (some ⟨w.heap.size, 0, none⟩) 0 l.length] [] [w.heap.size] := ⟨_, [], [], rfl, hown0, trivial, rfl⟩
  have hb1 : Below w.heap.size w w1 := (Below.refl _ _).grown hg0 (Nat.le_refl _) (by simp)
  clear hown0 hg0
  go_wp2_with fail
  go_loopw [5, 13] (fun o i wr => ∃ (k : Nat) (fp : List Nat), k ≤ l.length ∧ i = .int .i64 k ∧ o = .slice (some ⟨w.heap.size, 0, none⟩) k l.length ∧ rowsC.ow wr w.heap.size [.slice (some ⟨w.heap.size, 0, none⟩) k l.length] (valS (l.take k)) fp ∧ fp.Nodup ∧ Below w.heap.size w wr) (fun _ i _ => l.length - (intOf i).toNat)
  case atStart => exact ⟨0, _, Nat.zero_le _, rfl, rfl, how1, by simp, hb1⟩
  case round =>
    obtain ⟨k, fp, hk, rfl, rfl, how, hnd, hb⟩ := hrel
    by_cases hlt : k < l.length
    · obtain ⟨b, off, cap', e1, hbB, hc⟩ := strs_at (HR.out wr hb) hlt
      injection e1 with e1 e2 e3
      subst e1 e3
      have HC := Lib.hid (Dig.parse_digits l[k] wr (HSZ.out _ (List.getElem_mem hlt)))
      have HOW := Lib.hid how
      have HND := Lib.hid hnd
      have HB := Lib.hid hb
      have HT := Lib.hid (show valS (l.take (k + 1)) = valS (l.take k) ++ [vals l[k].data.toList] by unfold valS; rw [List.take_succ_eq_append_getElem hlt, List.map_append]; rfl)
      have HIN := Lib.hid (inr_vals l[k].data.toList)
      have HL := Lib.hid (show k = (valS (l.take k)).length by unfold valS; rw [List.length_map, List.length_take]; omega)
      clear how hnd hb how1 hb1
      change Hid (Calls _ _ _ _ fun e w' => ∃ v', e = .returned v' ∧ OwnI w' wr.heap.size 3 v' (vals l[k].data.toList) ∧ _) at HC
      generalize vals l[k].data.toList = r at *
      go_wp2_with fail
      refine HC.out.mono ?_
      rintro e w2 ⟨v2, rfl, ho20, hb2⟩
      have ho2 := Cd.ow_of_own ho20 HIN.out
      obtain ⟨a2, c2, rfl⟩ := Cd.ow_slice ho2
      have HFL := Lib.hid (rowC.ow_lt ho2)
      have hbA : Below w2.heap.size w2 (w2.alloc (.cells #[.slice a2 r.length c2] 39 (0, 0))) := below_alloc _ _
      have HOW2 := Lib.hid (Cd.ow_later (Cd.ow_later HOW.out hb2) hbA)
      have HO2 := Lib.hid (rowC.ow_base (Cd.ow_later (c := rowC) ho2 hbA) HB.out.size)
      have HN2 := Lib.hid (Cd.own_nodup (v := .slice a2 r.length c2))
      have HB2 := Lib.hid (below_then (below_then HB.out hb2) hbA)
      have HDIS := Lib.hid (show ∀ b ∈ (Value.slice a2 r.length c2).ownBlock.toList, b ∉ fp from fun b hb q => by
        have h1 := (HFL.out b hb).1
        have h2 := (rowsC.ow_lt HOW.out _ q).2
        omega)
      have HBS := Lib.hid (show w.heap.size ≤ (w2.alloc (.cells #[.slice a2 r.length c2] 39 (0, 0))).heap.size by rw [size_alloc]; have := HB.out.size; have := hb2.size; omega)
      have HCELL := Lib.hid (show (w2.alloc (.cells #[.slice a2 r.length c2] 39 (0, 0))).cell? ⟨w2.heap.size, 0, none⟩ = some (.slice a2 r.length c2) from World.cell?_alloc_mark _ _ _ _ 0)
      clear hbA ho2 hb2 ho20
      go_wp2_with (at_builtin; refine Cd.wpList_appendR (c := rowC) rfl rfl (.tmp 17) (.tmp 21) 22 rfl w.heap.size 39 (.slice none 0 0) 24 Tryd.underlying22 info_ints rfl (by decide) w.heap.size l.length k (valS (l.take k)) fp rfl HL.out HOW2.out HND.out (by omega) w2.heap.size (.slice a2 r.length c2) rfl HCELL.out r _ HO2.out HN2.out HDIS.out (by omega) HBS.out ?_)
      intro w3 fp3 ho3 hn3 hsub3 ht3
      have HB3 := Lib.hid (ht3.below HB2.out (fun b hb => (rowsC.ow_lt HOW.out b hb).1))
      rw [← HT.out] at ho3
      clear ht3 hsub3
      go_wp2_with fail
      go_roundw
      case rel => exact ⟨k + 1, fp3, by omega, by go_num, rfl, ho3, hn3, HB3.out⟩
      case measure => simp [intOf]; omega
    · have ek : k = l.length := by omega
      subst ek
      rw [List.take_length] at how
      go_wp2_with fail
      go_ret
      exact ⟨_, fp, rfl, how, hnd, hb⟩
end Go.Proofs.YthageciihhpmoaaDoor.ParImp
