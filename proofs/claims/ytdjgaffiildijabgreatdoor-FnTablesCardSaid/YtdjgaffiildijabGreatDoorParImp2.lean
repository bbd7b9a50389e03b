/- Tables: the program's reading of a table. -/
import Derived.Test.YtdjgaffiildijabGreatDoorParMath
import Derived.Test.YtdjgaffiildijabGreatDoorDig
import Derived.Test.YtdjgaffiildijabGreatDoorCdRoom
import Derived.Test.YtdjgaffiildijabGreatDoorExact
import Derived.Test.YtdjgaffiildijabGreatDoorShelf
import Derived.Test.YtdjgaffiildijabGreatDoorFmtImp2
import Derived.Deep.RegionHeld3
import Derived.Deep.DeepCutAuto
namespace Go.Proofs.YtdjgaffiildijabGreatDoor.ParImp
open Go Go.RowKit Byt Ints IntsLaw Cd Rows2 Tab TabSpec Exact TabFmt TabParse ParMath

/-- What the program's function reads of the package variables. -/
def Ready (w : World) : Prop :=
  Format.Tab w ∧ (∃ m, w.cell? ⟨2, 0, none⟩ = some (.int .i64 m)) ∧ Lib.TabIs Tryz.prog w "strings.asciiSpace" .u8 Lib.asciiSpaceTab ∧ Lib.WhiteTab 1 w
theorem tabis_later {w w' : World} {n : String} {k : IntKind} {l : List Int} (hb : Below w.heap.size w w') (h : Lib.TabIs Tryz.prog w n k l) : Lib.TabIs Tryz.prog w' n k l := by
  unfold Lib.TabIs World.var? at *
  obtain ⟨g, hg, hm⟩ := Option.bind_eq_some_iff.1 h
  have hlt : g < w.heap.size := by
    cases hx : w.heap[g]? with
    | none => rw [hx] at hm; simp at hm
    | some o => exact (Array.getElem?_eq_some_iff.1 hx).1
  refine Option.bind_eq_some_iff.2 ⟨g, hg, ?_⟩
  rw [hb.block g hlt]
  exact hm
theorem each_str (w : World) (base : Nat) : ∀ l : List (List UInt8), (∀ x ∈ l, x.length ≤ 1048576) → Cd.Each strC w base (l.map fun x => [Value.string ⟨x.toArray⟩]) (l.map ba) (l.map fun _ => [])
  | [], _ => trivial
  | x :: xs, h => ⟨⟨rfl, by have := h x List.mem_cons_self; show x.toArray.size ≤ maxLen; rw [List.size_toArray]; unfold maxLen; omega, rfl⟩, each_str w base xs fun y hy => h y (List.mem_cons_of_mem _ hy)⟩
theorem ready_later {w w' : World} (hb : Below w.heap.size w w') (h : Ready w) : Ready w' := by
  obtain ⟨t, ⟨m, hm⟩, h3, h4⟩ := h
  refine ⟨Format.tab_later hb t, ⟨m, ?_⟩, tabis_later hb h3, WhiteTab_below h4 hb⟩
  exact (hb.cell (World.block_lt_of_cell? w _ hm)).trans hm
theorem drewn_below {B n : Nat} {w w' : World} (h : Below B w w') : Below B w (w'.drewN n) := ⟨h.os, h.tape, h.output, h.size, h.block⟩
theorem cut_colon (s : ByteArray) (w : World) (hs : s.size ≤ 1048576) (hr : Ready w) {a b : List UInt8} {has : Bool} (hc : Lib.cut s.data.toList [58] = (a, b, has)) :
    Calls Tryz.prog 75 #[.string s, .string ⟨#[58]⟩] w fun e w' => e = .returned (.tuple #[.string ⟨a.toArray⟩, .string ⟨b.toArray⟩, .bool has]) ∧ Below w.heap.size w w' := by
  obtain ⟨_, ⟨m, hm⟩, _, _⟩ := hr
  have h := Tryz.strings_Cut s ⟨#[58]⟩ m w (by omega) hm
  rw [show (⟨#[58]⟩ : ByteArray).data.toList = [58] from rfl, hc] at h
  refine h.mono ?_
  rintro e w' ⟨rfl, n, rfl⟩
  exact ⟨rfl, drewn_below (Below.refl _ _)⟩
theorem fields_any (b : List UInt8) (w : World) (hs : b.length ≤ 1048576) (hr : Ready w) :
    Calls Tryz.prog 79 #[.string ⟨b.toArray⟩] w fun e w' => ∃ v fp, e = .returned v ∧ strsC.ow w' w.heap.size [v] ((Lib.fieldsD b).map ba) fp ∧ Below w.heap.size w w' := by
  obtain ⟨_, _, h3, h4⟩ := hr
  have h := Tryz.strings_Fields_any ⟨b.toArray⟩ w (by show b.toArray.size < _; simp; omega) h3 h4
  refine h.mono ?_
  rintro e w' ⟨A, rfl, hA, ho, hb⟩
  have e1 : (⟨b.toArray⟩ : ByteArray).data.toList = b := rfl
  rw [e1] at ho
  refine ⟨_, _, rfl, ⟨_, (Lib.fieldsD b).map fun x => [Value.string ⟨x.toArray⟩], (Lib.fieldsD b).map fun _ => [], rfl, ?_, ?_, rfl⟩, hb⟩
  · rw [List.length_map]
    have e2 : ((Lib.fieldsD b).map fun x => [Value.string ⟨x.toArray⟩]).flatten = (Lib.fieldsD b).map fun x => Value.string ⟨x.toArray⟩ := by
      induction Lib.fieldsD b with
      | nil => rfl
      | cons x xs ih => simp [ih]
    rw [e2, e1]
    exact ho
  · exact each_str _ _ _ fun x hx => by have := fieldsD_mem hx; omega
theorem str_clone (s : ByteArray) (w : World) (hs : s.size ≤ 1048577) :
    Calls Tryz.prog 76 #[.string s] w fun e w' => e = .returned (.string s) ∧ Below w.heap.size w w' := by
  have HC := Lib.hid (Tryz.stringslite_Clone s w (by omega))
  clear hs
  go_enter Tryz.func76, Tryz.ntmps76
  go_wp2_with (go_at_call 116; refine HC.out.mono ?_; rintro e w1 ⟨rfl, hb⟩)
  go_ret
  exact ⟨rfl, hb⟩

/-- The numbers of each field. -/
def valS (l : List ByteArray) : List (List Int) := l.map fun x => vals x.data.toList
set_option maxRecDepth 100000 in
set_option maxHeartbeats 1600000 in
theorem map_vals (v : Value) (l : List ByteArray) (S : Nat → Prop) (w : World) (hr : strsC.rd w S [v] l) (hl : l.length ≤ 1048577) (hz : ∀ x ∈ l, x.size ≤ 1048577) :
    Calls Tryz.prog 78 #[v, .func (.func 80) #[] #[]] w fun e w' => ∃ g fp, e = .returned (.slice (some ⟨g, 0, none⟩) l.length l.length) ∧ rowsC.ow w' w.heap.size [.slice (some ⟨g, 0, none⟩) l.length l.length] (valS l) fp ∧ fp.Nodup ∧ Below w.heap.size w w' := by
  obtain ⟨i0, hi, hz0, hz1, hz2⟩ := info_parts info_ints
  have HR := Lib.hid (fun w' (hb : Below w.heap.size w w') => Cd.later hr hb)
  have HSZ := Lib.hid hz
  obtain ⟨a, cap, rfl, hlm⟩ := strs_form hr
  clear hr hz
  go_enter Tryz.func78, Tryz.ntmps78
  go_wp2_with (at_make; refine wpList_make_own _ rfl _ _ 32 rfl w.heap.size 35 i0 (.slice none 0 0) 1 Tryz.underlying32 hi hz0 hz1 _ _ _ l.length rfl rfl rfl (by rw [hz2]; omega) (by unfold maxLen; omega) (Nat.le_refl _) ?_)
  intro w1 hown0 hg0
  have how1 : rowsC.ow w1 w.heap.size [.slice (some ⟨w.heap.size, 0, none⟩) 0 l.length] [] [w.heap.size] := ⟨_, [], [], rfl, hown0, trivial, rfl⟩
  have hb1 : Below w.heap.size w w1 := (Below.refl _ _).grown hg0 (Nat.le_refl _) (by simp)
  clear hown0 hg0
  go_wp2_with fail
  go_loopw [5, 13] (fun o i wr => ∃ (k : Nat) (fp : List Nat), k ≤ l.length ∧ i = .int .i64 k ∧ o = .slice (some ⟨w.heap.size, 0, none⟩) k l.length ∧ rowsC.ow wr w.heap.size [.slice (some ⟨w.heap.size, 0, none⟩) k l.length] (valS (l.take k)) fp ∧ fp.Nodup ∧ Below w.heap.size w wr) (fun _ i _ => l.length - (intOf i).toNat)
  case atStart => exact ⟨0, _, Nat.zero_le _, rfl, rfl, how1, by simp, hb1⟩
  case round =>
    obtain ⟨k, fp, hk, rfl, rfl, how, hnd, hb⟩ := hrel
    by_cases hlt : k < l.length
    · obtain ⟨b, off, cap', e1, hbB, hc⟩ := strs_at (HR.out wr hb) hlt
      injection e1 with e1 e2 e3
      subst e1 e3
      have HC := Lib.hid (Dig.parse_digits l[k] wr (HSZ.out _ (List.getElem_mem hlt)))
      have HOW := Lib.hid how
      have HND := Lib.hid hnd
      have HB := Lib.hid hb
      have HT := Lib.hid (show valS (l.take (k + 1)) = valS (l.take k) ++ [vals l[k].data.toList] by unfold valS; rw [List.take_succ_eq_append_getElem hlt, List.map_append]; rfl)
      have HIN := Lib.hid (inr_vals l[k].data.toList)
      have HL := Lib.hid (show k = (valS (l.take k)).length by unfold valS; rw [List.length_map, List.length_take]; omega)
      clear how hnd hb how1 hb1
      change Hid (Calls _ _ _ _ fun e w' => ∃ v', e = .returned v' ∧ OwnI w' wr.heap.size 3 v' (vals l[k].data.toList) ∧ _) at HC
      generalize vals l[k].data.toList = r at *
      go_wp2_with fail
      refine HC.out.mono ?_
      rintro e w2 ⟨v2, rfl, ho20, hb2⟩
      have ho2 := Cd.ow_of_own ho20 HIN.out
      obtain ⟨a2, c2, rfl⟩ := Cd.ow_slice ho2
      have HFL := Lib.hid (rowC.ow_lt ho2)
      have hbA : Below w2.heap.size w2 (w2.alloc (.cells #[.slice a2 r.length c2] 35 (0, 0))) := below_alloc _ _
      have HOW2 := Lib.hid (Cd.ow_later (Cd.ow_later HOW.out hb2) hbA)
      have HO2 := Lib.hid (rowC.ow_base (Cd.ow_later (c := rowC) ho2 hbA) HB.out.size)
      have HN2 := Lib.hid (Cd.own_nodup (v := .slice a2 r.length c2))
      have HB2 := Lib.hid (below_then (below_then HB.out hb2) hbA)
      have HDIS := Lib.hid (show ∀ b ∈ (Value.slice a2 r.length c2).ownBlock.toList, b ∉ fp from fun b hb q => by
        have h1 := (HFL.out b hb).1
        have h2 := (rowsC.ow_lt HOW.out _ q).2
        omega)
      have HBS := Lib.hid (show w.heap.size ≤ (w2.alloc (.cells #[.slice a2 r.length c2] 35 (0, 0))).heap.size by rw [size_alloc]; have := HB.out.size; have := hb2.size; omega)
      have HCELL := Lib.hid (show (w2.alloc (.cells #[.slice a2 r.length c2] 35 (0, 0))).cell? ⟨w2.heap.size, 0, none⟩ = some (.slice a2 r.length c2) from World.cell?_alloc_mark _ _ _ _ 0)
      clear hbA ho2 hb2 ho20
      go_wp2_with (at_builtin; refine Cd.wpList_appendR (c := rowC) rfl rfl (.tmp 17) (.tmp 21) 32 rfl w.heap.size 35 (.slice none 0 0) 24 Tryz.underlying32 info_ints rfl (by decide) w.heap.size l.length k (valS (l.take k)) fp rfl HL.out HOW2.out HND.out (by omega) w2.heap.size (.slice a2 r.length c2) rfl HCELL.out r _ HO2.out HN2.out HDIS.out (by omega) HBS.out ?_)
      intro w3 fp3 ho3 hn3 hsub3 ht3
      have HB3 := Lib.hid (ht3.below HB2.out (fun b hb => (rowsC.ow_lt HOW.out b hb).1))
      rw [← HT.out] at ho3
      clear ht3 hsub3
      go_wp2_with fail
      go_roundw
      case rel => exact ⟨k + 1, fp3, by omega, by go_num, rfl, ho3, hn3, HB3.out⟩
      case measure => simp [intOf]; omega
    · have ek : k = l.length := by omega
      subst ek
      rw [List.take_length] at how
      go_wp2_with fail
      go_ret
      exact ⟨_, fp, rfl, how, hnd, hb⟩
end Go.Proofs.YtdjgaffiildijabGreatDoor.ParImp

namespace Go.Proofs.YtdjgaffiildijabGreatDoor.ParImp
open Go Go.RowKit Byt Ints IntsLaw Cd Rows2 Tab TabSpec Exact TabFmt TabParse ParMath TabImp

theorem later_alloc {a w : World} (h : Later a w) (o : Obj) : Later a (w.alloc o) := below_then h (below_alloc w o)
theorem later_drew {a w : World} (h : Later a w) : Later a w.drew := Below.drew h
theorem later_set3 {a w : World} {k : Nat} {x y z : Value} (h : Later a w) (hk : a.heap.size ≤ k) : Later a (((w.setCell ⟨k, 0, none⟩ x).setCell ⟨k, 1, none⟩ y).setCell ⟨k, 2, none⟩ z) :=
  ((Below.setCell h hk _).setCell hk _).setCell hk _
theorem later_size {a w : World} (h : Later a w) : a.heap.size ≤ w.heap.size := Below.size h
/-- A block just made, behind a call. -/
theorem loc_new {W wq : World} {x0 x1 x2 : Value} {T : TypeId} (hb : Below (W.alloc (.cells #[x0, x1, x2] T (0, 0))).heap.size (W.alloc (.cells #[x0, x1, x2] T (0, 0))) wq) : Loc3 wq W.heap.size x0 x1 x2 :=
  (Loc3.of (start1 W _ rfl).1).later hb
theorem loc_new' {W wq : World} {x0 x1 x2 : Value} {T : TypeId} (hb : Below (W.drew.alloc (.cells #[x0, x1, x2] T (0, 0))).heap.size (W.drew.alloc (.cells #[x0, x1, x2] T (0, 0))) wq) : Loc3 wq W.heap.size x0 x1 x2 := loc_new (W := W.drew) hb
theorem new_lt {W wq : World} {x0 x1 x2 : Value} {T : TypeId} (_ : Below (W.alloc (.cells #[x0, x1, x2] T (0, 0))).heap.size (W.alloc (.cells #[x0, x1, x2] T (0, 0))) wq) : W.heap.size < (W.alloc (.cells #[x0, x1, x2] T (0, 0))).heap.size := by rw [size_alloc]; omega
theorem loc_made {W : World} {x0 x1 x2 : Value} {T : TypeId} : Loc3 (W.alloc (.cells #[x0, x1, x2] T (0, 0))) W.heap.size x0 x1 x2 := Loc3.of (start1 W _ rfl).1
/-- What the region leaves. -/
def Made (W1 : World) (nm : ByteArray) (ar : Int) (rows : List (List Int)) (s7 : Value) (wx : World) : Prop :=
  ∃ b g fp, s7 = .pointer (some ⟨b, 0, none⟩) ∧ W1.heap.size ≤ b ∧ Loc3 wx b (.string nm) (.int .i64 ar) (.slice (some ⟨g, 0, none⟩) rows.length rows.length) ∧ rowsC.ow wx W1.heap.size [.slice (some ⟨g, 0, none⟩) rows.length rows.length] rows fp ∧ fp.Nodup ∧ b ∉ fp ∧ Later W1 wx

theorem made1 {W1 wq : World} {b g n : Nat} {x0 x1 x2 : Value} {nm : ByteArray} {ar : Int} {rows : List (List Int)} {fp : List Nat} (kk : Later W1 wq) (hb : W1.heap.size ≤ b) (GL : Loc3 wq b x0 x1 x2)
    (HO : rowsC.ow wq W1.heap.size [.slice (some ⟨g, 0, none⟩) n n] rows fp) (hn : n = rows.length) (hnd : fp.Nodup) (hbn : b ∉ fp) :
    Made W1 nm ar rows (.pointer (some ⟨b, 0, none⟩)) (((wq.setCell ⟨b, 0, none⟩ (.string nm)).setCell ⟨b, 1, none⟩ (.int .i64 ar)).setCell ⟨b, 2, none⟩ (.slice (some ⟨g, 0, none⟩) n n)) := by
  subst hn
  obtain ⟨c0, c1, c2, f0, f1, f2⟩ := GL
  obtain ⟨k0, k1, k2⟩ := set3 (w := wq) (k := b) (x := .string nm) (y := .int .i64 ar) (z := .slice (some ⟨g, 0, none⟩) rows.length rows.length) c0 c1 c2
  exact ⟨b, g, fp, rfl, hb, ⟨k0, k1, k2, by simpa using f0, by simpa using f1, by simpa using f2⟩, ow_setCell (ow_setCell (ow_setCell HO hbn _) hbn _) hbn _, hnd, hbn, later_set3 kk hb⟩
theorem made2 {W1 wq : World} {g n : Nat} {T : TypeId} {nm : ByteArray} {ar : Int} {rows : List (List Int)} {fp : List Nat} (kk : Later W1 wq)
    (HO : rowsC.ow wq W1.heap.size [.slice (some ⟨g, 0, none⟩) n n] rows fp) (hn : n = rows.length) (hnd : fp.Nodup) :
    Made W1 nm ar rows (.pointer (some ⟨wq.heap.size, 0, none⟩)) (wq.alloc (.cells #[.string nm, .int .i64 ar, .slice (some ⟨g, 0, none⟩) n n] T (0, 0))) := by
  subst hn
  exact ⟨wq.heap.size, g, fp, rfl, later_size kk, loc_made, Cd.ow_later HO (below_alloc _ _), hnd, (fun q => by have := (rowsC.ow_lt HO _ q).2; omega), later_alloc kk _⟩

set_option maxRecDepth 100000 in
set_option maxHeartbeats 6400000 in
theorem impl_parse (s : ByteArray) (w : World) (hs : s.size ≤ 1048576) (hr : Ready w) :
    Calls Tryz.prog 24 #[.string s] w fun e w' => ParAns s w e w' := by
  obtain ⟨a, b, has, hc⟩ : ∃ a b has, Lib.cut s.data.toList [58] = (a, b, has) := ⟨_, _, _, rfl⟩
  have hsl : s.data.toList.length = s.size := Array.length_toList
  have HYES := Lib.hid (par_yes hc)
  have HNO := Lib.hid (par_no hc)
  have HRD := Lib.hid (fun w' (hb : Below w.heap.size w w') => ready_later hb hr)
  have HCUT := Lib.hid (fun w' (hb : Below w.heap.size w w') => cut_colon s w' hs (HRD.out w' hb) hc)
  have hbl : b.length ≤ s.size := by
    have h : b = (Lib.cut s.data.toList [58]).2.1 := by rw [hc]
    rw [h, ← hsl]
    unfold Lib.cut
    split <;> simp
  have HBL := Lib.hid hbl
  have HALL := Lib.hid (show a.length = (⟨a.toArray⟩ : ByteArray).size by show a.length = a.toArray.size; simp)
  have HN1 := Lib.hid (show (⟨a.toArray⟩ : ByteArray).extract 0 1 = iNm a by rw [extract_ba]; rfl)
  have HN2 := Lib.hid (show ∀ h : 1 < (⟨a.toArray⟩ : ByteArray).size, (((⟨a.toArray⟩ : ByteArray)[1]'h).toNat : Int) - 48 = iAr a by
    intro h
    unfold iAr
    have h' : 1 < a.length := by rw [HALL.out]; exact h
    rw [List.getD_eq_getElem?_getD, List.getElem?_eq_getElem h']
    rfl)
  clear hc hr hsl hbl
  generalize (⟨a.toArray⟩ : ByteArray) = H at *
  go_enter Tryz.func24, Tryz.ntmps24
  go_wp2_with fail
  generalize hW : w.alloc _ = W
  obtain ⟨r0, hz0, hb0⟩ := start1 w _ hW
  clear hW
  have HB0 := Lib.hid hb0
  have HR0 := Lib.hid (Loc3.of r0)
  have HZ0 := Lib.hid hz0
  clear hb0 r0 hz0
  refine (HCUT.out W HB0.out).mono ?_
  rintro e W1 ⟨rfl, hb1⟩
  have HB1 := Lib.hid (below_then HB0.out hb1)
  have HR1 := Lib.hid (HR0.out.later hb1)
  have HZ1 := Lib.hid (show w.heap.size < W1.heap.size by have := hb1.size; have := HZ0.out; omega)
  clear hb1
  by_cases h2 : H.size = 2
  case neg =>
    have HF := Lib.hid (show pOk s = false from HNO.out (.inl (by rw [HALL.out]; exact h2)))
    have t1 : (((H.size : Nat) : Int) == 2) = false := by rw [beq_eq_false_iff_ne]; omega
    have t2 : ((H.size : Int) != 2) = true := by rw [bne_iff_ne]; omega
    obtain ⟨p0, p1, p2, q0, q1, q2⟩ := HR1.out
    clear h2
    go_wp2_with fail
    obtain ⟨k0, k1, k2⟩ := set3 (w := W1) (k := w.heap.size) (x := .string ⟨#[]⟩) (y := .int .i64 0) (z := .slice none 0 0) p0 p1 p2
    refine bodyPost_ret (v := .tuple #[.agg #[.string ⟨#[]⟩, .int .i64 0, .slice none 0 0], .bool false]) (by simp [results, Tryz.results24, go_sem, k0, k1, k2]) rfl ⟨.slice none 0 0, [], by simp [HF.out], ?_, by simp, ?_⟩
    · rw [HF.out]
      exact Cd.ow_nil _ _
    · exact ((HB1.out.setCell (Nat.le_refl _) _).setCell (Nat.le_refl _) _).setCell (Nat.le_refl _) _
  have t1 : (((H.size : Nat) : Int) == 2) = true := by rw [beq_iff_eq]; omega
  have t2 : ((H.size : Int) != 2) = false := by rw [bne_eq_false_iff_eq]; omega
  by_cases h34 : 34 < s.size
  · have HF := Lib.hid (show pOk s = false from HNO.out (.inr (.inl h34)))
    have t3 : (34 : Int) < (s.size : Int) := by omega
    obtain ⟨p0, p1, p2, q0, q1, q2⟩ := HR1.out
    go_wp2_with fail
    obtain ⟨k0, k1, k2⟩ := set3 (w := W1) (k := w.heap.size) (x := .string ⟨#[]⟩) (y := .int .i64 0) (z := .slice none 0 0) p0 p1 p2
    refine bodyPost_ret (v := .tuple #[.agg #[.string ⟨#[]⟩, .int .i64 0, .slice none 0 0], .bool false]) (by simp [results, Tryz.results24, go_sem, k0, k1, k2]) rfl ⟨.slice none 0 0, [], by simp [HF.out], ?_, by simp, ?_⟩
    · rw [HF.out]
      exact Cd.ow_nil _ _
    · exact ((HB1.out.setCell (Nat.le_refl _) _).setCell (Nat.le_refl _) _).setCell (Nat.le_refl _) _
  have t3 : ¬ (34 : Int) < (s.size : Int) := by omega
  have h1H : 1 < H.size := by omega
  have i1 : (1 : Int) < (H.size : Int) := by omega
  have i2 : (1 : Int) ≤ (H.size : Int) := by omega
  have hby := (H[1]'h1H).toNat_lt
  have HCL := Lib.hid (fun w' => str_clone (H.extract 0 1) w' (by rw [ByteArray.size_extract]; omega))
  have HPD := Lib.hid (fun w' => Dig.parse_digit (H[1]'h1H) w')
  have HFD := Lib.hid (fun w' (hb : Later W1 w') => fields_any b w' (by have := HBL.out; omega) (HRD.out w' (below_then HB1.out hb)))
  have HFL := Lib.hid (show ((Lib.fieldsD b).map ba).length ≤ 1048577 by rw [List.length_map]; have := fieldsD_len b; have := HBL.out; omega)
  have HFS := Lib.hid (show ∀ x ∈ (Lib.fieldsD b).map ba, x.size ≤ 1048577 by
    intro x hx
    obtain ⟨y, hy, rfl⟩ := List.mem_map.1 hx
    have h1 := fieldsD_mem hy
    have h3 : (ba y).size = y.length := by simp [ba, ByteArray.size]
    have := HBL.out
    omega)
  have HIR := Lib.hid (show valS ((Lib.fieldsD b).map ba) = iRows b by
    unfold valS iRows
    rw [List.map_map]
    refine List.map_congr_left fun x _ => ?_
    show vals (ba x).data.toList = vals x
    have : (ba x).data.toList = x := by simp [ba]
    rw [this])
  have HIL := Lib.hid (show ((Lib.fieldsD b).map ba).length = (iRows b).length by unfold iRows; rw [List.length_map, List.length_map])
  have HN2' := Lib.hid (HN2.out h1H)
  have H34 := Lib.hid h34
  have HH2 := Lib.hid (show a.length = 2 by rw [HALL.out]; exact h2)
  clear h34 HN2 h2
  generalize iRows b = rows at *
  generalize (Lib.fieldsD b).map ba = fl at *
  go_upto_region 4 with fail
  have kk : Later W1 W1.drew := later_drew (Below.refl _ W1)
  go_cut [7] (fun s7 wx => Made W1 (iNm a) (iAr a) rows s7 wx)
  case first =>
    go_region_held3 (fun wx => Later W1 wx)
      ((first | assumption | exact later_drew (Below.refl _ W1) | exact later_alloc (by assumption) _ | exact later_set3 (by first | assumption | exact later_alloc (by assumption) _) (later_size (by first | assumption | exact Below.refl _ _))))
      (first | (go_at_call 76; refine (HCL.out _).mono ?_; rintro e wq ⟨rfl, hbq⟩; (have kk : Later W1 wq := below_then (by first | assumption | exact later_alloc (by assumption) _) hbq); (first | (have GL := Lib.hid (GL.out.later hbq)) | (have GL := Lib.hid (loc_new' hbq)) | (have GL := Lib.hid (loc_new hbq)) | skip); clear hbq) | (go_at_call 77; refine (HPD.out _).mono ?_; rintro e wq ⟨rfl, rfl⟩) | (go_at_call 79; refine (HFD.out _ (by first | assumption | exact later_alloc (by assumption) _)).mono ?_; rintro e wq ⟨vf, ff, rfl, how, hbq⟩; obtain ⟨af, cf, rfl⟩ := Cd.ow_slice how; (have FO := Lib.hid how); (have kk : Later W1 wq := below_then (by first | assumption | exact later_alloc (by assumption) _) hbq); (first | (have GL := Lib.hid (GL.out.later hbq)) | (have GL := Lib.hid (loc_new' hbq)) | (have GL := Lib.hid (loc_new hbq)) | skip); clear hbq how) | (go_at_call 78; refine (map_vals _ fl _ _ (strsC.ow_rd (by first | exact FO.out | exact Cd.ow_later FO.out (below_alloc _ _))) HFL.out HFS.out).mono ?_; rintro e wq ⟨g, fp, rfl, how, hnd, hbq⟩; (have kk0 : Later W1 _ := (by first | assumption | exact later_alloc (by assumption) _)); (have HO := Lib.hid (rowsC.ow_base how (Below.size (show Below W1.heap.size W1 _ from kk0)))); (have HLT := Lib.hid (rowsC.ow_lt how)); (have HND := Lib.hid hnd); (have kk : Later W1 wq := below_then kk0 hbq); (first | (have GB := Lib.hid GL.out.lt; have GL := Lib.hid (GL.out.later hbq)) | (have GB := Lib.hid (new_lt hbq); have GL := Lib.hid (loc_new hbq)) | skip); (first | (have x0 := GL.out.c0; have x1 := GL.out.c1; have x2 := GL.out.c2; have f0 := GL.out.f0; have f1 := GL.out.f1; have f2 := GL.out.f2) | skip); clear hbq how hnd kk0))
    all_goals
      go_wp2_with fail
      go_meet
      rw [← HN1.out, ← HN2'.out]
      have HO' := HO.out
      rw [HIR.out] at HO'
      first
        | (have GG := GL.out; exact made1 (by assumption) (later_size (by first | assumption | exact Below.refl _ _)) GG HO' HIL.out HND.out (fun q => by have h1 := (HLT.out _ q).1; have h2 := GB.out; omega))
        | (with_reducible exact made2 (by assumption) HO' HIL.out HND.out)
  case rest =>
    obtain ⟨k, g, fp, rfl, hk, hx, how, hnd, hkn, hl⟩ := hcut
    clear hby h1H i1 i2 kk t1 t2 t3 HCL HPD HFD HFL HFS HIR HIL HN1 HN2'
    have HX := Lib.hid hx
    have HOW := Lib.hid how
    have HND := Lib.hid hnd
    have HKN := Lib.hid hkn
    have HK := Lib.hid hk
    have HBC := Lib.hid (below_then HB1.out hl)
    have HRC := Lib.hid (HR1.out.later hl)
    have HNR := Lib.hid (show w.heap.size ∉ fp from fun q => by have h1 := (rowsC.ow_lt how _ q).1; have h2 := HZ1.out; omega)
    have HBS := Lib.hid (show w.heap.size ≤ W1.heap.size from Nat.le_of_lt HZ1.out)
    have HFM := Lib.hid (impl_fmt (iNm a) (iAr a) _ rows _ wc (rowsC.ow_rd how) (HRD.out wc HBC.out).1)
    clear hx how hnd hkn hk hl
    obtain ⟨x0, x1, x2, _, _, _⟩ := HX.out
    by_cases hfs : fmtT (iNm a) (iAr a) rows = s
    · obtain ⟨e1, e2, e3, e4⟩ := HYES.out HH2.out hfs
      have HWHY := Lib.hid e1
      have HE2 := Lib.hid e2
      have HE3 := Lib.hid e3
      have HE4 := Lib.hid e4
      rw [hfs] at HFM
      clear hfs e1 e2 e3 e4
      go_wp2_with fail
      refine HFM.out.mono ?_
      rintro e w9 ⟨rfl, hb9⟩
      obtain ⟨x0, x1, x2, _, _, _⟩ := HX.out.later hb9
      obtain ⟨p0, p1, p2, q0, q1, q2⟩ := HRC.out.later hb9
      have HB9 := Lib.hid (below_then HBC.out hb9)
      have HO9 := Lib.hid (Cd.ow_later HOW.out hb9)
      clear hb9
      go_wp2_with fail
      obtain ⟨k0, k1, k2⟩ := set3 (w := w9) (k := w.heap.size) (x := .string (iNm a)) (y := .int .i64 (iAr a)) (z := .slice (some ⟨g, 0, none⟩) rows.length rows.length) p0 p1 p2
      refine bodyPost_ret (v := .tuple #[.agg #[.string (iNm a), .int .i64 (iAr a), .slice (some ⟨g, 0, none⟩) rows.length rows.length], .bool true]) (by simp [results, Tryz.results24, go_sem, k0, k1, k2]) rfl ⟨.slice (some ⟨g, 0, none⟩) rows.length rows.length, fp, by simp [HWHY.out, HE2.out, HE3.out], ?_, HND.out, ?_⟩
      · rw [HWHY.out, if_pos rfl, HE4.out]
        have hn : w.heap.size ∉ fp := HNR.out
        exact rowsC.ow_base (ow_setCell (ow_setCell (ow_setCell HO9.out hn _) hn _) hn _) HBS.out
      · exact ((HB9.out.setCell (Nat.le_refl _) _).setCell (Nat.le_refl _) _).setCell (Nat.le_refl _) _
    · have HF := Lib.hid (show pOk s = false from HNO.out (.inr (.inr hfs)))
      have hne := str_ne hfs
      clear hfs
      generalize fmtT (iNm a) (iAr a) rows = fs at *
      go_wp2_with fail
      refine HFM.out.mono ?_
      rintro e w9 ⟨rfl, hb9⟩
      obtain ⟨p0, p1, p2, q0, q1, q2⟩ := HRC.out.later hb9
      have HB9 := Lib.hid (below_then HBC.out hb9)
      clear hb9
      go_wp2_with fail
      obtain ⟨k0, k1, k2⟩ := set3 (w := w9) (k := w.heap.size) (x := .string ⟨#[]⟩) (y := .int .i64 0) (z := .slice none 0 0) p0 p1 p2
      refine bodyPost_ret (v := .tuple #[.agg #[.string ⟨#[]⟩, .int .i64 0, .slice none 0 0], .bool false]) (by simp [results, Tryz.results24, go_sem, k0, k1, k2]) rfl ⟨.slice none 0 0, [], by simp [HF.out], ?_, by simp, ?_⟩
      · rw [HF.out]
        exact Cd.ow_nil _ _
      · exact ((HB9.out.setCell (Nat.le_refl _) _).setCell (Nat.le_refl _) _).setCell (Nat.le_refl _) _
end Go.Proofs.YtdjgaffiildijabGreatDoor.ParImp
