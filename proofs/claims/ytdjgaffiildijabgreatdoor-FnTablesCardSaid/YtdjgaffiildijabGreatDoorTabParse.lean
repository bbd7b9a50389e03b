/- Tables: the model's reading. -/
import Derived.Test.YtdjgaffiildijabGreatDoorTabFmt
import Derived.Test.YtdjgaffiildijabGreatDoorTabIns
import Derived.StillTailTactics
import Derived.Deep.RegionLaw
namespace Go.Proofs.YtdjgaffiildijabGreatDoor.TabParse
open Go Go.RowKit Byt Ints IntsLaw Cd Rows2 Tab TabSpec TabFmt

def ba (l : List UInt8) : ByteArray := ⟨l.toArray⟩
theorem ba_list (s : ByteArray) : ba s.data.toList = s := by cases s; simp [ba]
theorem extract_ba (s : ByteArray) (a b : Nat) : s.extract a b = ba ((s.data.toList.drop a).take (b - a)) := by
  apply ByteArray.ext
  simp [ba, ByteArray.data_extract]
  apply Array.toList_inj.1
  simp

/-- The pieces between the separators. -/
def cutB (sep : UInt8) : List UInt8 → List (List UInt8)
  | [] => [[]]
  | b :: r => if b = sep then [] :: cutB sep r else
    match cutB sep r with
    | [] => [[b]]
    | x :: xs => (b :: x) :: xs
/-- p put ahead of the first piece. -/
def onto (p : List UInt8) : List (List UInt8) → List (List UInt8)
  | [] => [p]
  | x :: xs => (p ++ x) :: xs
theorem onto_nil (l : List (List UInt8)) (h : l ≠ []) : onto [] l = l := by cases l with | nil => exact absurd rfl h | cons x xs => rfl
theorem cutB_ne (sep : UInt8) : ∀ l, cutB sep l ≠ []
  | [] => by simp [cutB]
  | b :: r => by
    unfold cutB
    split
    · simp
    · split <;> simp
theorem onto_sep (sep : UInt8) (p r : List UInt8) : onto p (cutB sep (sep :: r)) = p :: cutB sep r := by
  rw [cutB, if_pos rfl]
  simp [onto]
theorem onto_other (sep b : UInt8) (p r : List UInt8) (h : b ≠ sep) : onto p (cutB sep (b :: r)) = onto (p ++ [b]) (cutB sep r) := by
  rw [cutB, if_neg h]
  cases hq : cutB sep r with
  | nil => exact absurd hq (cutB_ne sep r)
  | cons x xs => simp [onto]
def strC : Cd ByteArray := Cd.str
def strsC : Cd (List ByteArray) := Cd.sl 9 strC
theorem info_str : (Tryz.prog.info? 9).map (fun i => (i.zero, i.size, i.bytes)) = some (some (.string ⟨#[]⟩), 1, 16) := by kernel_rfl

def vals (l : List UInt8) : List Int := l.map fun b => (b.toNat : Int) - 48
theorem vals_len (l : List UInt8) : (vals l).length = l.length := by simp [vals]
theorem inr_vals (l : List UInt8) : InR (vals l) := by
  intro x hx
  simp [vals] at hx
  obtain ⟨b, _, rfl⟩ := hx
  have := UInt8.toNat_lt b
  omega

set_option maxRecDepth 100000 in
theorem spec_vals (s : ByteArray) (w : World) (hs : s.size ≤ 1048576) :
    Calls Tryz.prog 95 #[.string s] w fun e w' => ∃ v' fp, e = .returned v' ∧ rowC.ow w' w.heap.size [v'] (vals s.data.toList) fp ∧ fp.Nodup ∧ Below w.heap.size w w' := by
  have HL := Lib.hid (show s.data.toList.length = s.size from Array.length_toList)
  have HW := Lib.hid (And.intro (OwnI.empty w w.heap.size 3 (Nat.le_refl _)) ((Below.refl w.heap.size w).alloc (Nat.le_refl _) (.cells #[] 3)))
  go_enter Tryz.func95, Tryz.ntmps95
  go_wp2
  go_loopw [3, 4] (fun o i wr => ∃ k : Nat, k ≤ s.size ∧ i = .int .i64 k ∧ OwnI wr w.heap.size 3 o (vals (s.data.toList.take k)) ∧ Below w.heap.size w wr) (fun _ i _ => s.size - (intOf i).toNat)
  case atStart => exact ⟨0, Nat.zero_le _, rfl, HW.out.1, HW.out.2⟩
  case round =>
    obtain ⟨k, hk, rfl, hown, hb⟩ := hrel
    by_cases hlt : k < s.size
    · have hby := s[k].toNat_lt
      have hbs := hb.size
      have hlen : (vals (s.data.toList.take k)).length + 1 ≤ 1000000000000 := by rw [vals_len, List.length_take]; omega
      have HT := Lib.hid (show vals (s.data.toList.take (k + 1)) = vals (s.data.toList.take k) ++ [(s[k].toNat : Int) - 48] by
        have e : s.data.toList.take (k + 1) = s.data.toList.take k ++ [s[k]] := by rw [List.take_succ_eq_append_getElem (by simpa using hlt)]; rfl
        unfold vals
        rw [e, List.map_append]; rfl)
      have HB := Lib.hid hb
      clear hb
      go_wp2_with (at_builtin; refine wp_appendI rfl (.tmp 12) (.tmp 18) 35 rfl w.heap.size 3 Tryz.underlying35 info_i64 _ _ rfl hown _ rfl hlen hbs ?_)
      intro v' w5 hown5 hb5
      go_wp2_with fail
      go_roundw
      case rel => exact ⟨k + 1, by omega, by go_num, by rw [HT.out]; exact hown5, HB.out.trans hb5⟩
      case measure => simp [intOf]; omega
    · have ek : k = s.size := by omega
      have e : s.data.toList.take k = s.data.toList := List.take_of_length_le (by rw [HL.out]; omega)
      rw [e] at hown
      have HO := Lib.hid (Cd.ow_of_own hown (inr_vals _))
      clear e hown
      go_wp2_with fail
      go_ret
      exact ⟨_, _, rfl, HO.out, Cd.own_nodup, hb⟩

def cuts (s : ByteArray) : List ByteArray := (cutB 32 s.data.toList).map ba
theorem size_extract (s : ByteArray) (a b : Nat) (h : s.size ≤ 1048576) : (s.extract a b).size ≤ maxLen := by
  unfold maxLen
  rw [ByteArray.size_extract]
  omega
theorem take_drop_snoc {l : List UInt8} {j k : Nat} (hj : j ≤ k) (hk : k < l.length) : (l.take (k + 1)).drop j = (l.take k).drop j ++ [l[k]] := by
  rw [List.take_succ_eq_append_getElem hk, List.drop_append_of_le_length (by rw [List.length_take]; omega)]
theorem drop_take_swap (l : List UInt8) (j k : Nat) : (l.drop j).take (k - j) = (l.take k).drop j := by rw [List.drop_take]

set_option maxRecDepth 100000 in
set_option maxHeartbeats 1600000 in
theorem spec_cut (s : ByteArray) (w : World) (hs : s.size ≤ 1048576) :
    Calls Tryz.prog 39 #[.string s, .int .u8 32] w fun e w' => ∃ v' fp, e = .returned v' ∧ strsC.ow w' w.heap.size [v'] (cuts s) fp ∧ fp.Nodup ∧ Below w.heap.size w w' := by
  have hl : s.data.toList.length = s.size := Array.length_toList
  have HL := Lib.hid hl
  have HW := Lib.hid (And.intro (Cd.ow_empty (e := 9) (c := strC) w w.heap.size (Nat.le_refl _)) (below_alloc w (.cells #[] 9)))
  clear hl
  go_enter Tryz.func39, Tryz.ntmps39
  go_wp2_with fail
  go_loopw [5, 6, 7] (fun o f i wr => ∃ (k j : Nat) (out : List ByteArray) (fp : List Nat), k ≤ s.size ∧ j ≤ k ∧ f = .int .i64 j ∧ i = .int .i64 k ∧ out.length ≤ k ∧ Hid (out ++ (onto ((s.data.toList.take k).drop j) (cutB 32 (s.data.toList.drop k))).map ba = cuts s) ∧ strsC.ow wr w.heap.size [o] out fp ∧ fp.Nodup ∧ Below w.heap.size w wr) (fun _ _ i _ => s.size - (intOf i).toNat)
  case atStart => exact ⟨0, 0, [], _, Nat.zero_le _, Nat.zero_le _, rfl, rfl, Nat.le_refl _, Lib.hid (by simp [cuts]; rw [onto_nil _ (cutB_ne _ _)]), HW.out.1, by simp, HW.out.2⟩
  case round =>
    obtain ⟨k, j, out, fp, hk, hj, rfl, rfl, hol, HI, how, hnd, hb⟩ := hrel
    have HOW := Lib.hid how
    have HND := Lib.hid hnd
    have HB := Lib.hid hb
    obtain ⟨ao, co, rfl⟩ := Cd.ow_slice how
    have p1 : (0 : Int) ≤ (j : Int) := by omega
    have p2 : (j : Int) ≤ (k : Int) := by omega
    have p3 : (k : Int) ≤ (s.size : Int) := by omega
    have p4 : (j : Int) ≤ (s.size : Int) := by omega
    clear how hnd hb
    by_cases hlt : k < s.size
    · have hby := s[k].toNat_lt
      by_cases hsep : s[k].toNat = 32
      · have hc : (((s[k].toNat : Nat) : Int) == 32) = true := by rw [beq_iff_eq]; omega
        have HN := Lib.hid (show (out ++ [s.extract j k]) ++ (onto ((s.data.toList.take (k + 1)).drop (k + 1)) (cutB 32 (s.data.toList.drop (k + 1)))).map ba = cuts s by
          have hkl : k < s.data.toList.length := by rw [HL.out]; exact hlt
          have hgk : s.data.toList[k] = s[k] := rfl
          have hb32 : s[k] = 32 := UInt8.toNat_inj.1 hsep
          rw [← HI.out, List.drop_eq_getElem_cons hkl, hgk, hb32, onto_sep, List.drop_take_self, onto_nil _ (cutB_ne _ _), extract_ba, drop_take_swap]
          simp)
        have HZ := Lib.hid (size_extract s j k hs)
        clear hsep
        have HA := Lib.hid (And.intro (Cd.ow_later HOW.out (below_alloc wr (.cells #[.string (s.extract j k)] 9))) (show (wr.alloc (.cells #[.string (s.extract j k)] 9)).cell? ⟨wr.heap.size, 0, none⟩ = some (.string (s.extract j k)) by simp))
        have HA3 := Lib.hid (show strC.ow (wr.alloc (.cells #[.string (s.extract j k)] 9)) w.heap.size [.string (s.extract j k)] (s.extract j k) [] from ⟨rfl, HZ.out, rfl⟩)
        have HAB := Lib.hid (Nat.le_trans HB.out.size (below_alloc wr (.cells #[.string (s.extract j k)] 9)).size)
        go_wp2_with (at_builtin; refine Cd.wpList_appendE (c := strC) rfl rfl (.tmp 20) (.tmp 25) 56 rfl w.heap.size 9 (.string ⟨#[]⟩) 16 Tryz.underlying56 info_str rfl (by decide) _ _ _ rfl HA.out.1 HND.out _ _ rfl HA.out.2 _ _ HA3.out (by simp) (by simp) (by omega) HAB.out ?_)
        intro g capn w3 fp3 ho3 hn3 hs3 ht3
        have HO3 := Lib.hid (show strsC.ow w3 w.heap.size _ _ _ from ho3)
        have HB3 := Lib.hid (Cd.Touch.below (below_then HB.out (below_alloc wr (.cells #[.string (s.extract j k)] 9))) ht3 (fun b hb => (strsC.ow_lt HOW.out b hb).1))
        clear ho3 ht3 hs3
        go_wp2_with fail
        go_roundw
        case rel => exact ⟨k + 1, k + 1, out ++ [s.extract j k], fp3, by omega, Nat.le_refl _, by go_num, by go_num, by rw [List.length_append]; simp; omega, HN, HO3.out, hn3, HB3.out⟩
        case measure => simp [intOf]; omega
      · have hc : (((s[k].toNat : Nat) : Int) == 32) = false := by rw [beq_eq_false_iff_ne]; omega
        have HN := Lib.hid (show out ++ (onto ((s.data.toList.take (k + 1)).drop j) (cutB 32 (s.data.toList.drop (k + 1)))).map ba = cuts s by
          have hkl : k < s.data.toList.length := by rw [HL.out]; exact hlt
          have hgk : s.data.toList[k] = s[k] := rfl
          rw [← HI.out, List.drop_eq_getElem_cons hkl, hgk, onto_other _ _ _ _ (fun q => hsep (by rw [q]; rfl)), take_drop_snoc hj hkl, hgk])
        clear hsep
        go_wp2_with fail
        go_roundw
        case rel => exact ⟨k + 1, j, out, fp, by omega, by omega, by go_num, by go_num, by omega, HN, HOW.out, HND.out, HB.out⟩
        case measure => simp [intOf]; omega
    · have ek : k = s.size := by omega
      have HN := Lib.hid (show out ++ [s.extract j s.size] = cuts s by
        rw [← HI.out, ek, show s.data.toList.drop s.size = [] from List.drop_eq_nil_of_le (by rw [HL.out]; exact Nat.le_refl _), extract_ba, drop_take_swap]
        simp [cutB, onto])
      have HZ := Lib.hid (size_extract s j s.size hs)
      subst ek
      have HA := Lib.hid (And.intro (Cd.ow_later HOW.out (below_alloc wr (.cells #[.string (s.extract j s.size)] 9))) (show (wr.alloc (.cells #[.string (s.extract j s.size)] 9)).cell? ⟨wr.heap.size, 0, none⟩ = some (.string (s.extract j s.size)) by simp))
      have HA3 := Lib.hid (show strC.ow (wr.alloc (.cells #[.string (s.extract j s.size)] 9)) w.heap.size [.string (s.extract j s.size)] (s.extract j s.size) [] from ⟨rfl, HZ.out, rfl⟩)
      have HAB := Lib.hid (Nat.le_trans HB.out.size (below_alloc wr (.cells #[.string (s.extract j s.size)] 9)).size)
      go_wp2_with (at_builtin; refine Cd.wpList_appendE (c := strC) rfl rfl (.tmp 29) (.tmp 33) 56 rfl w.heap.size 9 (.string ⟨#[]⟩) 16 Tryz.underlying56 info_str rfl (by decide) _ _ _ rfl HA.out.1 HND.out _ _ rfl HA.out.2 _ _ HA3.out (by simp) (by simp) (by omega) HAB.out ?_)
      intro g capn w3 fp3 ho3 hn3 hs3 ht3
      have HO3 := Lib.hid (show strsC.ow w3 w.heap.size _ _ _ from ho3)
      have HB3 := Lib.hid (Cd.Touch.below (below_then HB.out (below_alloc wr (.cells #[.string (s.extract j s.size)] 9))) ht3 (fun b hb => (strsC.ow_lt HOW.out b hb).1))
      clear ho3 ht3 hs3
      go_wp2_with fail
      go_ret
      exact ⟨_, fp3, rfl, by rw [← HN.out]; exact HO3.out, hn3, HB3.out⟩
/-- Element k of a slice of strings that is read. -/
theorem strs_at {w : World} {S : Nat → Prop} {v : Value} {l : List ByteArray} (h : strsC.rd w S [v] l) {k : Nat} (hk : k < l.length) :
    ∃ b off cap, v = .slice (some ⟨b, off, none⟩) l.length cap ∧ b < w.heap.size ∧ w.cell? ⟨b, off + k, none⟩ = some (.string l[k]) := by
  obtain ⟨ad, cap, e, _, hc⟩ := h
  injection e with e _
  subst e
  rcases hc with rfl | ⟨b, off, rfl, hS, hb, hc⟩
  · simp at hk
  obtain ⟨xs, h1, rfl, _⟩ := hc k hk
  refine ⟨b, off, cap, rfl, hb, ?_⟩
  have := h1 0 (by simp)
  simpa [strC, Cd.str, Cd.flat] using this
theorem strs_form {w : World} {S : Nat → Prop} {v : Value} {l : List ByteArray} (h : strsC.rd w S [v] l) : ∃ a cap, v = .slice a l.length cap ∧ l.length ≤ 9223372036854775807 := by
  obtain ⟨ad, cap, e, hl, _⟩ := h
  injection e with e _
  exact ⟨ad, cap, e, hl⟩

theorem not_below {α : Type} {c : Cd α} {w : World} {base k : Nat} {us : List Value} {a : α} {fp : List Nat} (h : c.ow w base us a fp) (hk : k < base) : k ∉ fp := fun q => by
  have := (c.ow_lt h k q).1
  omega

/-- The name, the arity and the rows that a string spells. -/
def pNm (s : ByteArray) : ByteArray := s.extract 0 1
def pAr (s : ByteArray) : Int := ((s.data.toList.getD 1 0).toNat : Int) - 48
def pRows (s : ByteArray) : List (List Int) := if 3 < s.size then (cuts (s.extract 3 s.size)).map fun x => vals x.data.toList else []
def ParP (s : ByteArray) : Prop := 3 ≤ s.size ∧ s.size ≤ 40 ∧ fmtT (pNm s) (pAr s) (pRows s) = s
instance (s : ByteArray) : Decidable (ParP s) := by unfold ParP; infer_instance
def pOk (s : ByteArray) : Bool := decide (ParP s)
def ParAns (s : ByteArray) (w : World) (e : Ending) (w' : World) : Prop :=
  ∃ u' fp, e = .returned (.tuple #[.agg #[.string (if pOk s then pNm s else ⟨#[]⟩), .int .i64 (if pOk s then pAr s else 0), u'], .bool (pOk s)]) ∧ rowsC.ow w' w.heap.size [u'] (if pOk s then pRows s else []) fp ∧ fp.Nodup ∧ Below w.heap.size w w'

set_option maxRecDepth 100000 in
set_option maxHeartbeats 6400000 in
theorem spec_parse (s : ByteArray) (w : World) (hs : s.size ≤ 1048576) :
    Calls Tryz.prog 40 #[.string s] w fun e w' => ParAns s w e w' := by
  by_cases hsz : 3 ≤ s.size ∧ s.size ≤ 40
  case neg =>
    have HWHY := Lib.hid (show pOk s = false from decide_eq_false fun q => hsz ⟨q.1, q.2.1⟩)
    by_cases h3 : s.size < 3
    · go_enter Tryz.func40, Tryz.ntmps40
      go_wp2_with fail
      refine bodyPost_ret (v := .tuple #[.agg #[.string ⟨#[]⟩, .int .i64 0, .slice none 0 0], .bool false]) (by simp [results, Tryz.results40, go_sem]) rfl ⟨.slice none 0 0, [], by simp [HWHY.out], by rw [HWHY.out]; exact Cd.ow_nil _ _, by simp, ?_⟩
      exact below_alloc _ _
    · have h40 : 40 < s.size := by omega
      go_enter Tryz.func40, Tryz.ntmps40
      go_wp2_with fail
      refine bodyPost_ret (v := .tuple #[.agg #[.string ⟨#[]⟩, .int .i64 0, .slice none 0 0], .bool false]) (by simp [results, Tryz.results40, go_sem]) rfl ⟨.slice none 0 0, [], by simp [HWHY.out], by rw [HWHY.out]; exact Cd.ow_nil _ _, by simp, ?_⟩
      exact below_alloc _ _
  have HSZ := Lib.hid hsz
  have h11 : 1 < s.size := by omega
  have h1 : ¬ s.size < 3 := by omega
  have h2 : ¬ 40 < s.size := by omega
  have i1 : (1 : Int) < (s.size : Int) := by omega
  have i2 : (1 : Int) ≤ (s.size : Int) := by omega
  have i3 : (3 : Int) ≤ (s.size : Int) := by omega
  have HAR := Lib.hid (show ((s[1]'h11).toNat : Int) - 48 = pAr s by
    unfold pAr
    have : s.data.toList.getD 1 0 = s[1]'h11 := by
      have h : 1 < s.data.toList.length := by rw [Array.length_toList]; show 1 < s.size; omega
      rw [List.getD_eq_getElem?_getD, List.getElem?_eq_getElem h]
      rfl
    rw [this])
  have HNM := Lib.hid (show s.extract 0 1 = pNm s from rfl)
  have hby := (s[1]'h11).toNat_lt
  clear hsz
  go_enter Tryz.func40, Tryz.ntmps40
  go_upto_region 3 with fail
  go_cut [4] (fun s4 wx => s4 = .pointer (some ⟨w.heap.size + 1, 0, none⟩) ∧ Below w.heap.size w wx ∧ Loc3 wx w.heap.size (.string ⟨#[]⟩) (.int .i64 0) (.slice none 0 0) ∧ Loc3 wx (w.heap.size + 1) (.string (pNm s)) (.int .i64 (pAr s)) (.slice none 0 0))
  case first =>
    go_region
    all_goals
      go_wp2_with fail
      go_meet
      obtain ⟨g0, g1, _, gb⟩ := start2g w (.cells #[.string ⟨#[]⟩, .int .i64 0, .slice none 0 0] 34 (0, 0)) (.cells #[.string (s.extract 0 1), .int .i64 ((s[1]'h11).toNat - 48), .slice none 0 0] 34 (0, 0)) rfl
      exact ⟨rfl, gb.drew, (Loc3.of g0).keep rfl, by rw [← HAR.out, ← HNM.out]; exact (Loc3.of g1).keep rfl⟩
  case rest =>
    obtain ⟨rfl, hbc, hrc, hxc⟩ := hcut
    have HBC := Lib.hid hbc
    have HRC := Lib.hid hrc
    have HXC := Lib.hid hxc
    have HRL := Lib.hid hxc.lt
    clear hbc hrc hxc hby HAR
    generalize wc = W at *
    by_cases h3 : 3 < s.size
    case neg =>
      have HRW := Lib.hid (show [] = pRows s by unfold pRows; rw [if_neg h3])
      have HBB := HBC
      have HRES := HRC
      have HX := HXC
      have HOW := Lib.hid (show rowsC.ow W (w.heap.size + 2) [.slice none 0 0] [] [] from Cd.ow_nil _ _)
      have HND := Lib.hid (show ([] : List Nat).Nodup by simp)
      have HNR := Lib.hid (show w.heap.size ∉ ([] : List Nat) by simp)
      have HBS := Lib.hid (show w.heap.size ≤ w.heap.size + 2 by omega)
      have i4 : ¬ (3 : Int) < (s.size : Int) := by omega
      clear HBC HRC HXC HRL
      have HFM := Lib.hid (spec_fmt (pNm s) (pAr s) _ [] _ W (rowsC.ow_rd HOW.out))
      obtain ⟨x0, x1, x2, _, _, _⟩ := HX.out
      by_cases hfs : fmtT (pNm s) (pAr s) [] = s
      · have HWHY := Lib.hid (show pOk s = true from decide_eq_true ⟨HSZ.out.1, HSZ.out.2, by rw [← HRW.out]; exact hfs⟩)
        rw [hfs] at HFM
        clear hfs
        go_wp2_with fail
        refine HFM.out.mono ?_
        rintro e w9 ⟨rfl, hb9⟩
        obtain ⟨x0, x1, x2, _, _, _⟩ := HX.out.later hb9
        obtain ⟨p0, p1, p2, q0, q1, q2⟩ := HRES.out.later hb9
        have HB9 := Lib.hid (below_then HBB.out hb9)
        have HO9 := Lib.hid (Cd.ow_later HOW.out hb9)
        clear hb9
        go_wp2_with fail
        obtain ⟨k0, k1, k2⟩ := set3 (w := w9) (k := w.heap.size) (x := .string (pNm s)) (y := .int .i64 (pAr s)) (z := .slice none 0 0) p0 p1 p2
        refine bodyPost_ret (v := .tuple #[.agg #[.string (pNm s), .int .i64 (pAr s), .slice none 0 0], .bool true]) (by simp [results, Tryz.results40, go_sem, k0, k1, k2]) rfl ⟨.slice none 0 0, _, by simp [HWHY.out], ?_, HND.out, ?_⟩
        · rw [HWHY.out, if_pos rfl, ← HRW.out]
          have hn : w.heap.size ∉ _ := HNR.out
          exact rowsC.ow_base (ow_setCell (ow_setCell (ow_setCell HO9.out hn _) hn _) hn _) HBS.out
        · exact ((HB9.out.setCell (Nat.le_refl _) _).setCell (Nat.le_refl _) _).setCell (Nat.le_refl _) _
      · have HWHY := Lib.hid (show pOk s = false from decide_eq_false fun q => hfs (by rw [HRW.out]; exact q.2.2))
        have hne := str_ne hfs
        clear hfs
        generalize fmtT (pNm s) (pAr s) [] = fs at *
        go_wp2_with fail
        refine HFM.out.mono ?_
        rintro e w9 ⟨rfl, hb9⟩
        obtain ⟨p0, p1, p2, q0, q1, q2⟩ := HRES.out.later hb9
        have HB9 := Lib.hid (below_then HBB.out hb9)
        clear hb9
        go_wp2_with fail
        obtain ⟨k0, k1, k2⟩ := set3 (w := w9) (k := w.heap.size) (x := .string ⟨#[]⟩) (y := .int .i64 0) (z := .slice none 0 0) p0 p1 p2
        refine bodyPost_ret (v := .tuple #[.agg #[.string ⟨#[]⟩, .int .i64 0, .slice none 0 0], .bool false]) (by simp [results, Tryz.results40, go_sem, k0, k1, k2]) rfl ⟨.slice none 0 0, [], by simp [HWHY.out], ?_, by simp, ?_⟩
        · rw [HWHY.out]
          exact Cd.ow_nil _ _
        · exact ((HB9.out.setCell (Nat.le_refl _) _).setCell (Nat.le_refl _) _).setCell (Nat.le_refl _) _
    have HRW := Lib.hid (show (cuts (s.extract 3 s.size)).map (fun x => vals x.data.toList) = pRows s by unfold pRows; rw [if_pos h3])
    have i4 : (3 : Int) < (s.size : Int) := by omega
    have HCUT := Lib.hid (spec_cut (s.extract 3 s.size) W (by rw [ByteArray.size_extract]; omega))
    go_wp2_with fail
    refine HCUT.out.mono ?_
    rintro e W1 ⟨wv, wf, rfl, how, hwn, hb1⟩
    obtain ⟨aw, cw, rfl⟩ := Cd.ow_slice how
    have HSTR := Lib.hid how
    have HSB := Lib.hid (strsC.ow_lt how)
    have HB1 := Lib.hid (below_then HBC.out hb1)
    have HR1 := Lib.hid (HRC.out.later hb1)
    have HX1 := Lib.hid (HXC.out.later hb1)
    have hw1 := hb1.size
    have hrl := HRL.out
    have HCL := Lib.hid (show (cuts (s.extract 3 s.size)).length ≤ 41 by
      have hcl : ∀ l : List UInt8, (cutB 32 l).length ≤ l.length + 1 := by
        intro l
        induction l with
        | nil => simp [cutB]
        | cons b r ih =>
          unfold cutB
          split
          · simp; omega
          · split
            · simp
            · rename_i x xs hq
              rw [hq] at ih
              simp at *
              omega
      have h := hcl (s.extract 3 s.size).data.toList
      unfold cuts
      rw [List.length_map]
      have h2 : (s.extract 3 s.size).data.toList.length = (s.extract 3 s.size).size := Array.length_toList
      rw [ByteArray.size_extract] at h2
      have := HSZ.out
      omega)
    have HCS := Lib.hid (show ∀ x ∈ cuts (s.extract 3 s.size), x.size ≤ 1048576 by
      have hcl : ∀ l : List UInt8, ∀ y ∈ cutB 32 l, y.length ≤ l.length := by
        intro l
        induction l with
        | nil => intro y hy; simp [cutB] at hy; rw [hy]; exact Nat.le_refl _
        | cons b r ih =>
          intro y hy
          unfold cutB at hy
          split at hy
          · rcases List.mem_cons.1 hy with rfl | q
            · simp
            · have := ih y q; simp; omega
          · split at hy
            · rw [List.mem_singleton.1 hy]; simp
            · rename_i x xs hq
              rcases List.mem_cons.1 hy with rfl | q
              · have := ih x (by rw [hq]; exact List.mem_cons.2 (.inl rfl)); simp; omega
              · have := ih y (by rw [hq]; exact List.mem_cons.2 (.inr q)); simp; omega
      intro x hx
      unfold cuts at hx
      obtain ⟨y, hy, rfl⟩ := List.mem_map.1 hx
      have h := hcl _ y hy
      have h2 : (s.extract 3 s.size).data.toList.length = (s.extract 3 s.size).size := Array.length_toList
      rw [ByteArray.size_extract] at h2
      have h3 : (ba y).size = y.length := by simp [ba, ByteArray.size]
      have := HSZ.out
      omega)
    clear how hb1
    generalize cuts (s.extract 3 s.size) = cl at *
    go_wp2_with fail
    go_loopw [6] (fun i wr => ∃ (k : Nat) (o : Value) (fp : List Nat), k ≤ cl.length ∧ i = .int .i64 k ∧ rowsC.ow wr W1.heap.size [o] ((cl.take k).map fun x => vals x.data.toList) fp ∧ fp.Nodup ∧ Below w.heap.size w wr ∧ Loc3 wr w.heap.size (.string ⟨#[]⟩) (.int .i64 0) (.slice none 0 0) ∧ Loc3 wr (w.heap.size + 1) (.string (pNm s)) (.int .i64 (pAr s)) o ∧ strsC.ow wr W.heap.size [.slice aw cl.length cw] cl wf ∧ W1.heap.size ≤ wr.heap.size) (fun i _ => cl.length - (intOf i).toNat)
    case atStart => exact ⟨0, .slice none 0 0, [], Nat.zero_le _, rfl, Cd.ow_nil _ _, by simp, HB1.out, HR1.out, HX1.out, HSTR.out, Nat.le_refl _⟩
    case round =>
      obtain ⟨k, o, fp, hk, rfl, how, hnd, hbb, hres, hx, hst, hsz2⟩ := hrel
      have HOW := Lib.hid how
      have HND := Lib.hid hnd
      have HBB := Lib.hid hbb
      have HRES := Lib.hid hres
      have HX := Lib.hid hx
      have HST := Lib.hid hst
      have HNR := Lib.hid (show w.heap.size ∉ fp from fun q => by have := (rowsC.ow_lt how _ q).1; omega)
      have HBS := Lib.hid (show w.heap.size ≤ W1.heap.size by omega)
      obtain ⟨ao, co, ho⟩ := Cd.ow_slice how
      rw [List.length_map, List.length_take, Nat.min_eq_left hk] at ho
      subst ho
      clear how hnd hbb hres hx hst
      by_cases hlt : k < cl.length
      · obtain ⟨b, off, cap', e1, hbB, hc⟩ := strs_at (strsC.ow_rd HST.out) hlt
        injection e1 with e1 e2 e3
        subst e1 e3
        have HL2 := Lib.hid (HCS.out _ (List.getElem_mem hlt))
        have HHW := Lib.hid (show W1.heap.size ≤ wr.heap.size from hsz2)
        have HVL := Lib.hid (spec_vals cl[k] wr.drew HL2.out)
        have HL1 := Lib.hid (show ((cl.take k).map fun x => vals x.data.toList).length + 1 ≤ 1000000000000 by rw [List.length_map, List.length_take]; have := HCL.out; omega)
        have HTK := Lib.hid (show ((cl.take (k + 1)).map fun x => vals x.data.toList) = ((cl.take k).map fun x => vals x.data.toList) ++ [vals (cl[k]).data.toList] by rw [List.take_succ_eq_append_getElem hlt, List.map_append]; rfl)
        have HKL := Lib.hid (show ((cl.take k).map fun x => vals x.data.toList).length = k by rw [List.length_map, List.length_take]; omega)
        have HFL := Lib.hid (rowsC.ow_lt HOW.out)
        obtain ⟨x0, x1, x2, g0, g1, g2⟩ := HX.out
        have p1 : (0 : Int) ≤ (k : Int) := by omega
        have p2 : (k : Int) < (cl.length : Int) := by omega
        have h41 : cl.length ≤ 41 := HCL.out
        clear HKL
        generalize vals (cl[k]).data.toList = vk at *
        generalize ((cl.take k).map fun x => vals x.data.toList) = cur at *
        go_wp2
        go_region_law (first | (go_simp; go_at_call 95; refine HVL.out.mono ?_; rintro e wq ⟨v1, f1, rfl, o1, n1, hbq⟩; obtain ⟨a1, c1, rfl⟩ := Cd.ow_slice o1; (have hq : Below wr.heap.size wr wq := ⟨hbq.os, hbq.tape, hbq.output, hbq.size, hbq.block⟩); (have hqs := hq.size); (have GO := Lib.hid (Cd.ow_later (Cd.ow_later HOW.out hq) (below_alloc wq (.cells #[.slice a1 vk.length c1] 35)))); (have GV := Lib.hid (Cd.ow_later (rowC.ow_base (show rowC.ow wq wr.heap.size _ _ _ from o1) HHW.out) (below_alloc wq (.cells #[.slice a1 vk.length c1] 35)))); (have GC := Lib.hid (show (wq.alloc (.cells #[.slice a1 vk.length c1] 35)).cell? ⟨wq.heap.size, 0, none⟩ = some (.slice a1 vk.length c1) by simp)); (have GD := Lib.hid (show ∀ b ∈ f1, b ∉ fp from fun b hb q => by have h1 := (rowC.ow_lt (show rowC.ow wq wr.heap.size _ _ _ from o1) b hb).1; have h2 := (rowsC.ow_lt HOW.out b q).2; omega)); (have GN := Lib.hid n1); (have GX0 := Lib.hid (HX.out.later hq)); (have y2 := GX0.out.c2); (have GX := Lib.hid (GX0.out.later (below_alloc wq (.cells #[.slice a1 vk.length c1] 35)))); (have z2 := GX.out.c2); (have GB := Lib.hid (below_then (below_then HBB.out hq) (below_alloc wq (.cells #[.slice a1 vk.length c1] 35)))); (have GS := Lib.hid (Cd.ow_later (Cd.ow_later HST.out hq) (below_alloc wq (.cells #[.slice a1 vk.length c1] 35)))); (have GR := Lib.hid ((HRES.out.later hq).later (below_alloc wq (.cells #[.slice a1 vk.length c1] 35)))); (have GH := Lib.hid (show W1.heap.size ≤ (wq.alloc (.cells #[.slice a1 vk.length c1] 35)).heap.size by rw [size_alloc]; have := HHW.out; omega)); clear o1 n1 hbq hq) | (refine Cd.step_appendE (c := rowC) rfl rfl (.tmp 36) (.tmp 42) 32 rfl W1.heap.size 35 (.slice none 0 0) 24 Tryz.underlying32 info_ints rfl (by decide) _ _ _ rfl GO.out HND.out _ _ rfl GC.out _ _ GV.out GN.out GD.out HL1.out GH.out ?_; intro g capA w3 fp3 ho3 hn3 hs3 ht3; (have KO := Lib.hid (show rowsC.ow w3 W1.heap.size _ _ _ from ho3)); (have KN := Lib.hid hn3); (have KX := Lib.hid (GX.out.touched ht3 (fun q => by have := (HFL.out _ q).1; omega))); (have q2 := KX.out.c2); (have qf := KX.out.f2); (have KB := Lib.hid (Cd.Touch.below GB.out ht3 (fun b hb => by have := (HFL.out b hb).1; omega))); (have KR := Lib.hid (GR.out.touched ht3 (fun q => by have := (HFL.out _ q).1; omega))); (have KS := Lib.hid (Cd.ow_touched GS.out ht3 (fun b hb q => by have := (HFL.out b q).1; have := (HSB.out b hb).2; omega))); (have KH := Lib.hid (Nat.le_trans GH.out ht3.size)); clear ho3 hn3 hs3 ht3))
        all_goals
          go_wp2
          go_roundw
          case rel =>
            exact ⟨k + 1, .slice (some ⟨g, 0, none⟩) (cur.length + 1) capA, fp3, by omega, by go_num, by rw [HTK.out]; exact ow_setCell KO.out (not_below KO.out (show w.heap.size + 1 < W1.heap.size by omega)) _, KN.out, KB.out.setCell (by show _ ≤ w.heap.size + 1; omega) _, KR.out.set_far (by show w.heap.size + 1 ≠ _; omega) _, KX.out.set2 _, ow_setCell KS.out (not_below KS.out (show w.heap.size + 1 < W.heap.size by omega)) _, by simpa using KH.out⟩
          case measure => simp [intOf]; omega
      · have ek : k = cl.length := by omega
        subst ek
        have HOW0 := HOW.out
        rw [List.take_length] at HOW0
        have HOW := Lib.hid HOW0
        clear HOW0
        have HFM := Lib.hid (spec_fmt (pNm s) (pAr s) _ (cl.map fun x => vals x.data.toList) _ wr (rowsC.ow_rd HOW.out))
        obtain ⟨x0, x1, x2, _, _, _⟩ := HX.out
        by_cases hfs : fmtT (pNm s) (pAr s) (cl.map fun x => vals x.data.toList) = s
        · have HWHY := Lib.hid (show pOk s = true from decide_eq_true ⟨HSZ.out.1, HSZ.out.2, by rw [← HRW.out]; exact hfs⟩)
          rw [hfs] at HFM
          clear hfs
          go_wp2_with fail
          refine HFM.out.mono ?_
          rintro e w9 ⟨rfl, hb9⟩
          obtain ⟨x0, x1, x2, _, _, _⟩ := HX.out.later hb9
          obtain ⟨p0, p1, p2, q0, q1, q2⟩ := HRES.out.later hb9
          have HB9 := Lib.hid (below_then HBB.out hb9)
          have HO9 := Lib.hid (Cd.ow_later HOW.out hb9)
          clear hb9
          go_wp2_with fail
          obtain ⟨k0, k1, k2⟩ := set3 (w := w9) (k := w.heap.size) (x := .string (pNm s)) (y := .int .i64 (pAr s)) (z := .slice ao cl.length co) p0 p1 p2
          refine bodyPost_ret (v := .tuple #[.agg #[.string (pNm s), .int .i64 (pAr s), .slice ao cl.length co], .bool true]) (by simp [results, Tryz.results40, go_sem, k0, k1, k2]) rfl ⟨.slice ao cl.length co, _, by simp [HWHY.out], ?_, HND.out, ?_⟩
          · rw [HWHY.out, if_pos rfl, ← HRW.out]
            have hn : w.heap.size ∉ _ := HNR.out
            exact rowsC.ow_base (ow_setCell (ow_setCell (ow_setCell HO9.out hn _) hn _) hn _) HBS.out
          · exact ((HB9.out.setCell (Nat.le_refl _) _).setCell (Nat.le_refl _) _).setCell (Nat.le_refl _) _
        · have HWHY := Lib.hid (show pOk s = false from decide_eq_false fun q => hfs (by rw [HRW.out]; exact q.2.2))
          have hne := str_ne hfs
          clear hfs
          generalize fmtT (pNm s) (pAr s) (cl.map fun x => vals x.data.toList) = fs at *
          go_wp2_with fail
          refine HFM.out.mono ?_
          rintro e w9 ⟨rfl, hb9⟩
          obtain ⟨p0, p1, p2, q0, q1, q2⟩ := HRES.out.later hb9
          have HB9 := Lib.hid (below_then HBB.out hb9)
          clear hb9
          go_wp2_with fail
          obtain ⟨k0, k1, k2⟩ := set3 (w := w9) (k := w.heap.size) (x := .string ⟨#[]⟩) (y := .int .i64 0) (z := .slice none 0 0) p0 p1 p2
          refine bodyPost_ret (v := .tuple #[.agg #[.string ⟨#[]⟩, .int .i64 0, .slice none 0 0], .bool false]) (by simp [results, Tryz.results40, go_sem, k0, k1, k2]) rfl ⟨.slice none 0 0, [], by simp [HWHY.out], ?_, by simp, ?_⟩
          · rw [HWHY.out]
            exact Cd.ow_nil _ _
          · exact ((HB9.out.setCell (Nat.le_refl _) _).setCell (Nat.le_refl _) _).setCell (Nat.le_refl _) _
end Go.Proofs.YtdjgaffiildijabGreatDoor.TabParse
