/- Tables: the model's reading. -/
import Derived.Test.YtnoennmhifmolaaDoorTabFmt
import Derived.Test.YtnoennmhifmolaaDoorTabIns
import Derived.StillTailTactics
import Derived.Deep.RegionLaw
namespace Go.Proofs.YtnoennmhifmolaaDoor.TabParse
open Go Go.RowKit Byt Ints IntsLaw Cd Rows2 Tab TabSpec TabFmt

def ba (l : List UInt8) : ByteArray := ⟨l.toArray⟩
theorem ba_list (s : ByteArray) : ba s.data.toList = s := by cases s; simp [ba]
theorem extract_ba (s : ByteArray) (a b : Nat) : s.extract a b = ba ((s.data.toList.drop a).take (b - a)) := by
  apply ByteArray.ext
  simp [ba, ByteArray.data_extract]
  apply Array.toList_inj.1
  simp

/-- The pieces between the separators. -/
def cutB (sep : UInt8) : List UInt8 → List (List UInt8)
  | [] => [[]]
  | b :: r => if b = sep then [] :: cutB sep r else
    match cutB sep r with
    | [] => [[b]]
    | x :: xs => (b :: x) :: xs
/-- p put ahead of the first piece. -/
def onto (p : List UInt8) : List (List UInt8) → List (List UInt8)
  | [] => [p]
  | x :: xs => (p ++ x) :: xs
theorem onto_nil (l : List (List UInt8)) (h : l ≠ []) : onto [] l = l := by cases l with | nil => exact absurd rfl h | cons x xs => rfl
theorem cutB_ne (sep : UInt8) : ∀ l, cutB sep l ≠ []
  | [] => by simp [cutB]
  | b :: r => by
    unfold cutB
    split
    · simp
    · split <;> simp
theorem onto_sep (sep : UInt8) (p r : List UInt8) : onto p (cutB sep (sep :: r)) = p :: cutB sep r := by
  rw [cutB, if_pos rfl]
  simp [onto]
theorem onto_other (sep b : UInt8) (p r : List UInt8) (h : b ≠ sep) : onto p (cutB sep (b :: r)) = onto (p ++ [b]) (cutB sep r) := by
  rw [cutB, if_neg h]
  cases hq : cutB sep r with
  | nil => exact absurd hq (cutB_ne sep r)
  | cons x xs => simp [onto]
def strC : Cd ByteArray := Cd.str
def strsC : Cd (List ByteArray) := Cd.sl 9 strC
theorem info_str : (Tryd.prog.info? 9).map (fun i => (i.zero, i.size, i.bytes)) = some (some (.string ⟨#[]⟩), 1, 16) := by kernel_rfl

def vals (l : List UInt8) : List Int := l.map fun b => (b.toNat : Int) - 48
theorem vals_len (l : List UInt8) : (vals l).length = l.length := by simp [vals]
theorem inr_vals (l : List UInt8) : InR (vals l) := by
  intro x hx
  simp [vals] at hx
  obtain ⟨b, _, rfl⟩ := hx
  have := UInt8.toNat_lt b
  omega

set_option maxRecDepth 100000 in
theorem spec_vals (s : ByteArray) (w : World) (hs : s.size ≤ 1048576) :
    Calls Tryd.prog 51 #[.string s] w fun e w' => ∃ v' fp, e = .returned v' ∧ rowC.ow w' w.heap.size [v'] (vals s.data.toList) fp ∧ fp.Nodup ∧ Below w.heap.size w w' := by
  have HL := Lib.hid (show s.data.toList.length = s.size from Array.length_toList)
  have HW := Lib.hid (And.intro (OwnI.empty w w.heap.size 3 (Nat.le_refl _)) ((Below.refl w.heap.size w).alloc (Nat.le_refl _) (.cells #[] 3)))
  go_enter Tryd.func51, Tryd.ntmps51
  go_wp2
  go_loopw [3, 4] (fun o i wr => ∃ k : Nat, k ≤ s.size ∧ i = .int .i64 k ∧ OwnI wr w.heap.size 3 o (vals (s.data.toList.take k)) ∧ Below w.heap.size w wr) (fun _ i _ => s.size - (intOf i).toNat)
  case atStart => exact ⟨0, Nat.zero_le _, rfl, HW.out.1, HW.out.2⟩
  case round =>
    obtain ⟨k, hk, rfl, hown, hb⟩ := hrel
    by_cases hlt : k < s.size
    · have hby := s[k].toNat_lt
      have hbs := hb.size
      have hlen : (vals (s.data.toList.take k)).length + 1 ≤ 1000000000000 := by rw [vals_len, List.length_take]; omega
      have HT := Lib.hid (show vals (s.data.toList.take (k + 1)) = vals (s.data.toList.take k) ++ [(s[k].toNat : Int) - 48] by
        have e : s.data.toList.take (k + 1) = s.data.toList.take k ++ [s[k]] := by rw [List.take_succ_eq_append_getElem (by simpa using hlt)]; rfl
        unfold vals
        rw [e, List.map_append]; rfl)
      have HB := Lib.hid hb
      clear hb
      go_wp2_with (at_builtin; refine wp_appendI rfl (.tmp 12) (.tmp 18) 31 rfl w.heap.size 3 Tryd.underlying31 info_i64 _ _ rfl hown _ rfl hlen hbs ?_)
      intro v' w5 hown5 hb5
      go_wp2_with fail
      go_roundw
      case rel => exact ⟨k + 1, by omega, by go_num, by rw [HT.out]; exact hown5, HB.out.trans hb5⟩
      case measure => simp [intOf]; omega
    · have ek : k = s.size := by omega
      have e : s.data.toList.take k = s.data.toList := List.take_of_length_le (by rw [HL.out]; omega)
      rw [e] at hown
      have HO := Lib.hid (Cd.ow_of_own hown (inr_vals _))
      clear e hown
      go_wp2_with fail
      go_ret
      exact ⟨_, _, rfl, HO.out, Cd.own_nodup, hb⟩

def cuts (s : ByteArray) : List ByteArray := (cutB 32 s.data.toList).map ba
theorem size_extract (s : ByteArray) (a b : Nat) (h : s.size ≤ 1048576) : (s.extract a b).size ≤ maxLen := by
  unfold maxLen
  rw [ByteArray.size_extract]
  omega
theorem take_drop_snoc {l : List UInt8} {j k : Nat} (hj : j ≤ k) (hk : k < l.length) : (l.take (k + 1)).drop j = (l.take k).drop j ++ [l[k]] := by
  rw [List.take_succ_eq_append_getElem hk, List.drop_append_of_le_length (by rw [List.length_take]; omega)]
theorem drop_take_swap (l : List UInt8) (j k : Nat) : (l.drop j).take (k - j) = (l.take k).drop j := by rw [List.drop_take]

/-- Element k of a slice of strings that is read. -/
theorem strs_at {w : World} {S : Nat → Prop} {v : Value} {l : List ByteArray} (h : strsC.rd w S [v] l) {k : Nat} (hk : k < l.length) :
    ∃ b off cap, v = .slice (some ⟨b, off, none⟩) l.length cap ∧ b < w.heap.size ∧ w.cell? ⟨b, off + k, none⟩ = some (.string l[k]) := by
  obtain ⟨ad, cap, e, _, hc⟩ := h
  injection e with e _
  subst e
  rcases hc with rfl | ⟨b, off, rfl, hS, hb, hc⟩
  · simp at hk
  obtain ⟨xs, h1, rfl, _⟩ := hc k hk
  refine ⟨b, off, cap, rfl, hb, ?_⟩
  have := h1 0 (by simp)
  simpa [strC, Cd.str, Cd.flat] using this
theorem strs_form {w : World} {S : Nat → Prop} {v : Value} {l : List ByteArray} (h : strsC.rd w S [v] l) : ∃ a cap, v = .slice a l.length cap ∧ l.length ≤ 9223372036854775807 := by
  obtain ⟨ad, cap, e, hl, _⟩ := h
  injection e with e _
  exact ⟨ad, cap, e, hl⟩

theorem not_below {α : Type} {c : Cd α} {w : World} {base k : Nat} {us : List Value} {a : α} {fp : List Nat} (h : c.ow w base us a fp) (hk : k < base) : k ∉ fp := fun q => by
  have := (c.ow_lt h k q).1
  omega

/-- The name, the arity and the rows that a string spells. -/
def pNm (s : ByteArray) : ByteArray := s.extract 0 1
def pAr (s : ByteArray) : Int := ((s.data.toList.getD 1 0).toNat : Int) - 48
def pRows (s : ByteArray) : List (List Int) := if 3 < s.size then (cuts (s.extract 3 s.size)).map fun x => vals x.data.toList else []
def ParP (s : ByteArray) : Prop := 3 ≤ s.size ∧ s.size ≤ 40 ∧ fmtT (pNm s) (pAr s) (pRows s) = s
instance (s : ByteArray) : Decidable (ParP s) := by unfold ParP; infer_instance
def pOk (s : ByteArray) : Bool := decide (ParP s)
def ParAns (s : ByteArray) (w : World) (e : Ending) (w' : World) : Prop :=
  ∃ u' fp, e = .returned (.tuple #[.agg #[.string (if pOk s then pNm s else ⟨#[]⟩), .int .i64 (if pOk s then pAr s else 0), u'], .bool (pOk s)]) ∧ rowsC.ow w' w.heap.size [u'] (if pOk s then pRows s else []) fp ∧ fp.Nodup ∧ Below w.heap.size w w'

end Go.Proofs.YtnoennmhifmolaaDoor.TabParse
