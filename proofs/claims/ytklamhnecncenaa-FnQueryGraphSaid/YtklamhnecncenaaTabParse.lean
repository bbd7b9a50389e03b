/- Tables: the model's reading. -/
import Derived.Test.YtklamhnecncenaaTabFmt
import Derived.Test.YtklamhnecncenaaTabIns
import Derived.StillTailTactics
import Derived.Deep.RegionLaw
namespace Go.Proofs.Ytklamhnecncenaa.TabParse
open Go Go.RowKit Byt Ints IntsLaw Cd Rows2 Tab TabSpec TabFmt

def ba (l : List UInt8) : ByteArray := ⟨l.toArray⟩
theorem ba_list (s : ByteArray) : ba s.data.toList = s := by cases s; simp [ba]
theorem extract_ba (s : ByteArray) (a b : Nat) : s.extract a b = ba ((s.data.toList.drop a).take (b - a)) := by
  apply ByteArray.ext
  simp [ba, ByteArray.data_extract]
  apply Array.toList_inj.1
  simp

/-- The pieces between the separators. -/
def cutB (sep : UInt8) : List UInt8 → List (List UInt8)
  | [] => [[]]
  | b :: r => if b = sep then [] :: cutB sep r else
    match cutB sep r with
    | [] => [[b]]
    | x :: xs => (b :: x) :: xs
/-- p put ahead of the first piece. -/
def onto (p : List UInt8) : List (List UInt8) → List (List UInt8)
  | [] => [p]
  | x :: xs => (p ++ x) :: xs
theorem onto_nil (l : List (List UInt8)) (h : l ≠ []) : onto [] l = l := by cases l with | nil => exact absurd rfl h | cons x xs => rfl
theorem cutB_ne (sep : UInt8) : ∀ l, cutB sep l ≠ []
  | [] => by simp [cutB]
  | b :: r => by
    unfold cutB
    split
    · simp
    · split <;> simp
theorem onto_sep (sep : UInt8) (p r : List UInt8) : onto p (cutB sep (sep :: r)) = p :: cutB sep r := by
  rw [cutB, if_pos rfl]
  simp [onto]
theorem onto_other (sep b : UInt8) (p r : List UInt8) (h : b ≠ sep) : onto p (cutB sep (b :: r)) = onto (p ++ [b]) (cutB sep r) := by
  rw [cutB, if_neg h]
  cases hq : cutB sep r with
  | nil => exact absurd hq (cutB_ne sep r)
  | cons x xs => simp [onto]
def strC : Cd ByteArray := Cd.str
def strsC : Cd (List ByteArray) := Cd.sl 9 strC
theorem info_str : (Try.prog.info? 9).map (fun i => (i.zero, i.size, i.bytes)) = some (some (.string ⟨#[]⟩), 1, 16) := by kernel_rfl

def vals (l : List UInt8) : List Int := l.map fun b => (b.toNat : Int) - 48
theorem vals_len (l : List UInt8) : (vals l).length = l.length := by simp [vals]
theorem inr_vals (l : List UInt8) : InR (vals l) := by
  intro x hx
  simp [vals] at hx
  obtain ⟨b, _, rfl⟩ := hx
  have := UInt8.toNat_lt b
  omega


def cuts (s : ByteArray) : List ByteArray := (cutB 32 s.data.toList).map ba
theorem size_extract (s : ByteArray) (a b : Nat) (h : s.size ≤ 1048576) : (s.extract a b).size ≤ maxLen := by
  unfold maxLen
  rw [ByteArray.size_extract]
  omega
theorem take_drop_snoc {l : List UInt8} {j k : Nat} (hj : j ≤ k) (hk : k < l.length) : (l.take (k + 1)).drop j = (l.take k).drop j ++ [l[k]] := by
  rw [List.take_succ_eq_append_getElem hk, List.drop_append_of_le_length (by rw [List.length_take]; omega)]
theorem drop_take_swap (l : List UInt8) (j k : Nat) : (l.drop j).take (k - j) = (l.take k).drop j := by rw [List.drop_take]

set_option maxRecDepth 100000 in
set_option maxHeartbeats 1600000 in
theorem spec_cut (s : ByteArray) (w : World) (hs : s.size ≤ 1048576) :
    Calls Try.prog 169 #[.string s, .int .u8 32] w fun e w' => ∃ v' fp, e = .returned v' ∧ strsC.ow w' w.heap.size [v'] (cuts s) fp ∧ fp.Nodup ∧ Below w.heap.size w w' := by
  have hl : s.data.toList.length = s.size := Array.length_toList
  have HL := Lib.hid hl
  have HW := Lib.hid (And.intro (Cd.ow_empty (e := 9) (c := strC) w w.heap.size (Nat.le_refl _)) (below_alloc w (.cells #[] 9)))
  clear hl
  go_enter Try.func169, Try.ntmps169
  go_wp2_with fail
  go_loopw [5, 6, 7] (fun o f i wr => ∃ (k j : Nat) (out : List ByteArray) (fp : List Nat), k ≤ s.size ∧ j ≤ k ∧ f = .int .i64 j ∧ i = .int .i64 k ∧ out.length ≤ k ∧ Hid (out ++ (onto ((s.data.toList.take k).drop j) (cutB 32 (s.data.toList.drop k))).map ba = cuts s) ∧ strsC.ow wr w.heap.size [o] out fp ∧ fp.Nodup ∧ Below w.heap.size w wr) (fun _ _ i _ => s.size - (intOf i).toNat)
  case atStart => exact ⟨0, 0, [], _, Nat.zero_le _, Nat.zero_le _, rfl, rfl, Nat.le_refl _, Lib.hid (by simp [cuts]; rw [onto_nil _ (cutB_ne _ _)]), HW.out.1, by simp, HW.out.2⟩
  case round =>
    obtain ⟨k, j, out, fp, hk, hj, rfl, rfl, hol, HI, how, hnd, hb⟩ := hrel
    have HOW := Lib.hid how
    have HND := Lib.hid hnd
    have HB := Lib.hid hb
    obtain ⟨ao, co, rfl⟩ := Cd.ow_slice how
    have p1 : (0 : Int) ≤ (j : Int) := by omega
    have p2 : (j : Int) ≤ (k : Int) := by omega
    have p3 : (k : Int) ≤ (s.size : Int) := by omega
    have p4 : (j : Int) ≤ (s.size : Int) := by omega
    clear how hnd hb
    by_cases hlt : k < s.size
    · have hby := s[k].toNat_lt
      by_cases hsep : s[k].toNat = 32
      · have hc : (((s[k].toNat : Nat) : Int) == 32) = true := by rw [beq_iff_eq]; omega
        have HN := Lib.hid (show (out ++ [s.extract j k]) ++ (onto ((s.data.toList.take (k + 1)).drop (k + 1)) (cutB 32 (s.data.toList.drop (k + 1)))).map ba = cuts s by
          have hkl : k < s.data.toList.length := by rw [HL.out]; exact hlt
          have hgk : s.data.toList[k] = s[k] := rfl
          have hb32 : s[k] = 32 := UInt8.toNat_inj.1 hsep
          rw [← HI.out, List.drop_eq_getElem_cons hkl, hgk, hb32, onto_sep, List.drop_take_self, onto_nil _ (cutB_ne _ _), extract_ba, drop_take_swap]
          simp)
        have HZ := Lib.hid (size_extract s j k hs)
        clear hsep
        have HA := Lib.hid (And.intro (Cd.ow_later HOW.out (below_alloc wr (.cells #[.string (s.extract j k)] 9))) (show (wr.alloc (.cells #[.string (s.extract j k)] 9)).cell? ⟨wr.heap.size, 0, none⟩ = some (.string (s.extract j k)) by simp))
        have HA3 := Lib.hid (show strC.ow (wr.alloc (.cells #[.string (s.extract j k)] 9)) w.heap.size [.string (s.extract j k)] (s.extract j k) [] from ⟨rfl, HZ.out, rfl⟩)
        have HAB := Lib.hid (Nat.le_trans HB.out.size (below_alloc wr (.cells #[.string (s.extract j k)] 9)).size)
        go_wp2_with (at_builtin; refine Cd.wpList_appendE (c := strC) rfl rfl (.tmp 20) (.tmp 25) 146 rfl w.heap.size 9 (.string ⟨#[]⟩) 16 Try.underlying146 info_str rfl (by decide) _ _ _ rfl HA.out.1 HND.out _ _ rfl HA.out.2 _ _ HA3.out (by simp) (by simp) (by omega) HAB.out ?_)
        intro g capn w3 fp3 ho3 hn3 hs3 ht3
        have HO3 := Lib.hid (show strsC.ow w3 w.heap.size _ _ _ from ho3)
        have HB3 := Lib.hid (Cd.Touch.below (below_then HB.out (below_alloc wr (.cells #[.string (s.extract j k)] 9))) ht3 (fun b hb => (strsC.ow_lt HOW.out b hb).1))
        clear ho3 ht3 hs3
        go_wp2_with fail
        go_roundw
        case rel => exact ⟨k + 1, k + 1, out ++ [s.extract j k], fp3, by omega, Nat.le_refl _, by go_num, by go_num, by rw [List.length_append]; simp; omega, HN, HO3.out, hn3, HB3.out⟩
        case measure => simp [intOf]; omega
      · have hc : (((s[k].toNat : Nat) : Int) == 32) = false := by rw [beq_eq_false_iff_ne]; omega
        have HN := Lib.hid (show out ++ (onto ((s.data.toList.take (k + 1)).drop j) (cutB 32 (s.data.toList.drop (k + 1)))).map ba = cuts s by
          have hkl : k < s.data.toList.length := by rw [HL.out]; exact hlt
          have hgk : s.data.toList[k] = s[k] := rfl
          rw [← HI.out, List.drop_eq_getElem_cons hkl, hgk, onto_other _ _ _ _ (fun q => hsep (by rw [q]; rfl)), take_drop_snoc hj hkl, hgk])
        clear hsep
        go_wp2_with fail
        go_roundw
        case rel => exact ⟨k + 1, j, out, fp, by omega, by omega, by go_num, by go_num, by omega, HN, HOW.out, HND.out, HB.out⟩
        case measure => simp [intOf]; omega
    · have ek : k = s.size := by omega
      have HN := Lib.hid (show out ++ [s.extract j s.size] = cuts s by
        rw [← HI.out, ek, show s.data.toList.drop s.size = [] from List.drop_eq_nil_of_le (by rw [HL.out]; exact Nat.le_refl _), extract_ba, drop_take_swap]
        simp [cutB, onto])
      have HZ := Lib.hid (size_extract s j s.size hs)
      subst ek
      have HA := Lib.hid (And.intro (Cd.ow_later HOW.out (below_alloc wr (.cells #[.string (s.extract j s.size)] 9))) (show (wr.alloc (.cells #[.string (s.extract j s.size)] 9)).cell? ⟨wr.heap.size, 0, none⟩ = some (.string (s.extract j s.size)) by simp))
      have HA3 := Lib.hid (show strC.ow (wr.alloc (.cells #[.string (s.extract j s.size)] 9)) w.heap.size [.string (s.extract j s.size)] (s.extract j s.size) [] from ⟨rfl, HZ.out, rfl⟩)
      have HAB := Lib.hid (Nat.le_trans HB.out.size (below_alloc wr (.cells #[.string (s.extract j s.size)] 9)).size)
      go_wp2_with (at_builtin; refine Cd.wpList_appendE (c := strC) rfl rfl (.tmp 29) (.tmp 33) 146 rfl w.heap.size 9 (.string ⟨#[]⟩) 16 Try.underlying146 info_str rfl (by decide) _ _ _ rfl HA.out.1 HND.out _ _ rfl HA.out.2 _ _ HA3.out (by simp) (by simp) (by omega) HAB.out ?_)
      intro g capn w3 fp3 ho3 hn3 hs3 ht3
      have HO3 := Lib.hid (show strsC.ow w3 w.heap.size _ _ _ from ho3)
      have HB3 := Lib.hid (Cd.Touch.below (below_then HB.out (below_alloc wr (.cells #[.string (s.extract j s.size)] 9))) ht3 (fun b hb => (strsC.ow_lt HOW.out b hb).1))
      clear ho3 ht3 hs3
      go_wp2_with fail
      go_ret
      exact ⟨_, fp3, rfl, by rw [← HN.out]; exact HO3.out, hn3, HB3.out⟩
/-- Element k of a slice of strings that is read. -/
theorem strs_at {w : World} {S : Nat → Prop} {v : Value} {l : List ByteArray} (h : strsC.rd w S [v] l) {k : Nat} (hk : k < l.length) :
    ∃ b off cap, v = .slice (some ⟨b, off, none⟩) l.length cap ∧ b < w.heap.size ∧ w.cell? ⟨b, off + k, none⟩ = some (.string l[k]) := by
  obtain ⟨ad, cap, e, _, hc⟩ := h
  injection e with e _
  subst e
  rcases hc with rfl | ⟨b, off, rfl, hS, hb, hc⟩
  · simp at hk
  obtain ⟨xs, h1, rfl, _⟩ := hc k hk
  refine ⟨b, off, cap, rfl, hb, ?_⟩
  have := h1 0 (by simp)
  simpa [strC, Cd.str, Cd.flat] using this
theorem strs_form {w : World} {S : Nat → Prop} {v : Value} {l : List ByteArray} (h : strsC.rd w S [v] l) : ∃ a cap, v = .slice a l.length cap ∧ l.length ≤ 9223372036854775807 := by
  obtain ⟨ad, cap, e, hl, _⟩ := h
  injection e with e _
  exact ⟨ad, cap, e, hl⟩

theorem not_below {α : Type} {c : Cd α} {w : World} {base k : Nat} {us : List Value} {a : α} {fp : List Nat} (h : c.ow w base us a fp) (hk : k < base) : k ∉ fp := fun q => by
  have := (c.ow_lt h k q).1
  omega

/-- The name, the arity and the rows that a string spells. -/
def pNm (s : ByteArray) : ByteArray := s.extract 0 1
def pAr (s : ByteArray) : Int := ((s.data.toList.getD 1 0).toNat : Int) - 48
def pRows (s : ByteArray) : List (List Int) := if 3 < s.size then (cuts (s.extract 3 s.size)).map fun x => vals x.data.toList else []
def ParP (s : ByteArray) : Prop := 3 ≤ s.size ∧ s.size ≤ 40 ∧ fmtT (pNm s) (pAr s) (pRows s) = s
instance (s : ByteArray) : Decidable (ParP s) := by unfold ParP; infer_instance
def pOk (s : ByteArray) : Bool := decide (ParP s)
def ParAns (s : ByteArray) (w : World) (e : Ending) (w' : World) : Prop :=
  ∃ u' fp, e = .returned (.tuple #[.agg #[.string (if pOk s then pNm s else ⟨#[]⟩), .int .i64 (if pOk s then pAr s else 0), u'], .bool (pOk s)]) ∧ rowsC.ow w' w.heap.size [u'] (if pOk s then pRows s else []) fp ∧ fp.Nodup ∧ Below w.heap.size w w'

end Go.Proofs.Ytklamhnecncenaa.TabParse
