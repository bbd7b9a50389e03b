/- Tables read from strings: cutting at the colon and at white space gives the same rows as the model's reading. Over no program. -/
import Derived.Test.YteihnbnlfocgmaaGreatDoorTabParse
import Derived.Shelf.Strings.FieldsAny
import Derived.Lib.IndexMore
namespace Go.Proofs.YteihnbnlfocgmaaGreatDoor.ParMath
open Go Go.RowKit Byt Ints IntsLaw Cd Rows2 Tab TabSpec TabFmt TabParse

theorem index_hit (c : UInt8) : ∀ (a b : List UInt8), c ∉ a → Lib.index (a ++ c :: b) [c] = a.length
  | [], b, _ => by simp [Lib.index, List.isPrefixOf]
  | x :: a, b, h => by
    have hx : ¬ c = x := fun q => h (by rw [q]; exact List.mem_cons_self)
    have ih := index_hit c a b (fun q => h (List.mem_cons_of_mem _ q))
    have hp : List.isPrefixOf [c] (x :: (a ++ c :: b)) = false := by
      have : (c == x) = false := by rw [beq_eq_false_iff_ne]; exact hx
      simp [List.isPrefixOf, this]
    show Lib.index (x :: (a ++ c :: b)) [c] = _
    unfold Lib.index
    rw [hp, ih]
    have : ((a.length : Int) == -1) = false := by rw [beq_eq_false_iff_ne]; omega
    rw [this]
    simp
theorem cut_hit (c : UInt8) (a b : List UInt8) (h : c ∉ a) : Lib.cut (a ++ c :: b) [c] = (a, b, true) := by
  unfold Lib.cut
  rw [index_hit c a b h, if_pos (by omega)]
  simp
theorem cut_pre (c : UInt8) (l : List UInt8) : (Lib.cut l [c]).1 <+: l := by
  unfold Lib.cut
  split
  · exact List.take_prefix _ _
  · exact List.prefix_refl _

/-- A digit's byte. -/
theorem dig_byte {x : Int} (h : 0 ≤ x ∧ x ≤ 9) : (UInt8.ofNat (48 + x.toNat)).toNat = 48 + x.toNat := by
  rw [UInt8.toNat_ofNat']
  omega
theorem mem_digB {l : List Int} (h : ∀ x ∈ l, 0 ≤ x ∧ x ≤ 9) {b : UInt8} (hb : b ∈ digB l) : 48 ≤ b.toNat ∧ b.toNat ≤ 57 := by
  unfold digB at hb
  obtain ⟨x, hx, rfl⟩ := List.mem_map.1 hb
  have := h x hx
  rw [dig_byte this]
  omega
theorem vals_digB {l : List Int} (h : ∀ x ∈ l, 0 ≤ x ∧ x ≤ 9) : vals (digB l) = l := by
  unfold vals digB
  rw [List.map_map]
  have : ∀ x ∈ l, ((fun b : UInt8 => (b.toNat : Int) - 48) ∘ fun x : Int => UInt8.ofNat (48 + x.toNat)) x = x := fun x hx => by
    have hh := h x hx
    show ((UInt8.ofNat (48 + x.toNat)).toNat : Int) - 48 = x
    rw [dig_byte hh]
    omega
  exact (List.map_congr_left this).trans (List.map_id' l)
theorem isSp_digit {b : UInt8} (h : 48 ≤ b.toNat ∧ b.toNat ≤ 57) : Lib.isSp b = false := by
  have hb : b = UInt8.ofNat b.toNat := by simp
  generalize b.toNat = n at *
  subst hb
  rcases (show n = 48 ∨ n = 49 ∨ n = 50 ∨ n = 51 ∨ n = 52 ∨ n = 53 ∨ n = 54 ∨ n = 55 ∨ n = 56 ∨ n = 57 by omega) with rfl | rfl | rfl | rfl | rfl | rfl | rfl | rfl | rfl | rfl <;> rfl

theorem fieldsGo_word : ∀ (w cur l : List UInt8), (∀ b ∈ w, Lib.isSp b = false) → Lib.fieldsGo cur (w ++ l) = Lib.fieldsGo (cur ++ w) l
  | [], cur, l, _ => by simp
  | b :: w, cur, l, h => by
    have hb := h b List.mem_cons_self
    show Lib.fieldsGo cur (b :: (w ++ l)) = _
    rw [Lib.fieldsGo, hb, if_neg (by simp), fieldsGo_word w _ l (fun x hx => h x (List.mem_cons_of_mem _ hx))]
    simp
theorem fields_rows : ∀ rows : List (List Int), (∀ r ∈ rows, r ≠ [] ∧ ∀ x ∈ r, 0 ≤ x ∧ x ≤ 9) → Lib.fields (rowsB rows) = rows.map digB
  | [], _ => rfl
  | [r], h => by
    obtain ⟨hr, hx⟩ := h r List.mem_cons_self
    have hd : ∀ b ∈ digB r, Lib.isSp b = false := fun b hb => isSp_digit (mem_digB hx hb)
    have := fieldsGo_word (digB r) [] [] hd
    rw [List.append_nil, List.nil_append] at this
    show Lib.fieldsGo [] (digB r) = _
    rw [this, Lib.fieldsGo]
    have hne : (digB r).isEmpty = false := by
      cases r with
      | nil => exact absurd rfl hr
      | cons a b => rfl
    rw [hne]
    rfl
  | r :: s :: rs, h => by
    obtain ⟨hr, hx⟩ := h r List.mem_cons_self
    have ih := fields_rows (s :: rs) (fun x hx => h x (List.mem_cons_of_mem _ hx))
    have hd : ∀ b ∈ digB r, Lib.isSp b = false := fun b hb => isSp_digit (mem_digB hx hb)
    show Lib.fieldsGo [] (digB r ++ 32 :: rowsB (s :: rs)) = _
    rw [fieldsGo_word (digB r) [] _ hd, Lib.fieldsGo, show Lib.isSp 32 = true from rfl, List.nil_append]
    simp only [if_true]
    have hne : (digB r).isEmpty = false := by
      cases r with
      | nil => exact absurd rfl hr
      | cons a b => rfl
    rw [hne, if_neg (by simp)]
    show digB r :: Lib.fields (rowsB (s :: rs)) = _
    rw [ih]
    rfl
theorem mem_rowsB : ∀ rows : List (List Int), (∀ r ∈ rows, ∀ x ∈ r, 0 ≤ x ∧ x ≤ 9) → ∀ b ∈ rowsB rows, b.toNat < 128
  | [], _, b, hb => by cases hb
  | [r], h, b, hb => by have := mem_digB (h r List.mem_cons_self) (show b ∈ digB r from hb); omega
  | r :: s :: rs, h, b, hb => by
    rcases List.mem_append.1 (show b ∈ digB r ++ 32 :: rowsB (s :: rs) from hb) with q | q
    · have := mem_digB (h r List.mem_cons_self) q; omega
    · rcases List.mem_cons.1 q with rfl | q
      · decide
      · exact mem_rowsB (s :: rs) (fun x hx => h x (List.mem_cons_of_mem _ hx)) b q
theorem fieldsD_rows {rows : List (List Int)} (h : ∀ r ∈ rows, r ≠ [] ∧ ∀ x ∈ r, 0 ≤ x ∧ x ≤ 9) : Lib.fieldsD (rowsB rows) = rows.map digB := by
  rw [Lib.fieldsD_ascii _ (mem_rowsB rows fun r hr => (h r hr).2), fields_rows rows h]

theorem cutB_word (sep : UInt8) : ∀ w l : List UInt8, sep ∉ w → cutB sep (w ++ sep :: l) = w :: cutB sep l
  | [], l, _ => by simp [cutB]
  | b :: w, l, h => by
    have hb : ¬ b = sep := fun q => h (by rw [q]; exact List.mem_cons_self)
    show cutB sep (b :: (w ++ sep :: l)) = _
    rw [cutB, if_neg hb, cutB_word sep w l (fun q => h (List.mem_cons_of_mem _ q))]
theorem cutB_last (sep : UInt8) : ∀ w : List UInt8, sep ∉ w → cutB sep w = [w]
  | [], _ => rfl
  | b :: w, h => by
    have hb : ¬ b = sep := fun q => h (by rw [q]; exact List.mem_cons_self)
    rw [cutB, if_neg hb, cutB_last sep w (fun q => h (List.mem_cons_of_mem _ q))]
theorem cutB_rows : ∀ rows : List (List Int), rows ≠ [] → (∀ r ∈ rows, ∀ x ∈ r, 0 ≤ x ∧ x ≤ 9) → cutB 32 (rowsB rows) = rows.map digB
  | [], h, _ => absurd rfl h
  | [r], _, h => by
    have hd : (32 : UInt8) ∉ digB r := fun q => by have := (mem_digB (h r List.mem_cons_self) q).1; exact absurd this (by decide)
    exact cutB_last 32 (digB r) hd
  | r :: s :: rs, _, h => by
    have hd : (32 : UInt8) ∉ digB r := fun q => by have := (mem_digB (h r List.mem_cons_self) q).1; exact absurd this (by decide)
    show cutB 32 (digB r ++ 32 :: rowsB (s :: rs)) = _
    rw [cutB_word 32 _ _ hd, cutB_rows (s :: rs) (by simp) (fun x hx => h x (List.mem_cons_of_mem _ hx))]
    rfl

/-- How many fields, and how long. -/
theorem fieldsGoD_len : ∀ (f : Nat) (cur l : List UInt8), (Lib.fieldsGoD f cur l).length ≤ f + 1
  | 0, cur, l => by unfold Lib.fieldsGoD; split <;> simp
  | f + 1, cur, l => by
    have h1 := fieldsGoD_len f [] (l.drop (Lib.decodeL l).2)
    have h2 := fieldsGoD_len f (cur ++ l.take (Lib.decodeL l).2) (l.drop (Lib.decodeL l).2)
    have h3 : (if cur = [] then [] else [cur]).length ≤ 1 := by split <;> simp
    unfold Lib.fieldsGoD
    split
    · omega
    · split
      · rw [List.length_append]; omega
      · omega
theorem fieldsD_len (l : List UInt8) : (Lib.fieldsD l).length ≤ l.length + 2 := fieldsGoD_len _ _ _
theorem fieldsGoD_mem : ∀ (f : Nat) (cur l x : List UInt8), x ∈ Lib.fieldsGoD f cur l → x.length ≤ cur.length + l.length
  | 0, cur, l, x, h => by
    unfold Lib.fieldsGoD at h
    split at h
    · cases h
    · rw [List.mem_singleton.1 h]; omega
  | f + 1, cur, l, x, h => by
    have h0 : ∀ y, y ∈ (if cur = [] then [] else [cur]) → y.length ≤ cur.length := fun y hy => by
      split at hy
      · cases hy
      · rw [List.mem_singleton.1 hy]; omega
    unfold Lib.fieldsGoD at h
    split at h
    · have := h0 x h; omega
    · split at h
      · rcases List.mem_append.1 h with q | q
        · have := h0 x q; omega
        · have := fieldsGoD_mem f _ _ x q
          rw [List.length_drop] at this
          simp only [List.length_nil] at this
          omega
      · have := fieldsGoD_mem f _ _ x h
        rw [List.length_drop, List.length_append, List.length_take] at this
        omega
theorem fieldsD_mem {l x : List UInt8} (h : x ∈ Lib.fieldsD l) : x.length ≤ l.length := by
  have := fieldsGoD_mem _ _ _ _ h
  simp only [List.length_nil] at this
  omega

/-- What the program reads: the head's first byte, its second, the body's fields. -/
def iNm (a : List UInt8) : ByteArray := ba (a.take 1)
def iAr (a : List UInt8) : Int := ((a.getD 1 0).toNat : Int) - 48
def iRows (b : List UInt8) : List (List Int) := (Lib.fieldsD b).map vals

theorem rows_len : ∀ rows : List (List Int), (∀ r ∈ rows, r ≠ [] ∧ r.length ≤ 3 ∧ ∀ x ∈ r, 0 ≤ x ∧ x ≤ 9) → (rowsB rows).length + 1 ≤ 4 * rows.length + 1 ∧ (rows ≠ [] → 1 ≤ (rowsB rows).length ∧ (rowsB rows).length + 1 ≤ 4 * rows.length) := by
  intro rows
  induction rows with
  | nil => intro _; exact ⟨by simp [rowsB], fun q => absurd rfl q⟩
  | cons r rs ih =>
    intro hrow'
    obtain ⟨g1, g2, _⟩ := hrow' r List.mem_cons_self
    have g3 : 1 ≤ r.length := by cases r with | nil => exact absurd rfl g1 | cons _ _ => simp
    have ih := ih (fun z hz => hrow' z (List.mem_cons_of_mem _ hz))
    cases rs with
    | nil =>
      have e : (rowsB [r]).length = r.length := digB_len r
      rw [e]
      simp
      omega
    | cons t ts =>
      have e : (rowsB (r :: t :: ts)).length = r.length + ((rowsB (t :: ts)).length + 1) := by
        show (digB r ++ 32 :: rowsB (t :: ts)).length = _
        rw [List.length_append, List.length_cons, digB_len]
      have := ih.2 (by simp)
      rw [e]
      simp only [List.length_cons] at *
      exact ⟨by omega, fun _ => ⟨by omega, by omega⟩⟩

/-- A string that is the format of a valid table. -/
theorem shape {s nm : ByteArray} {ar : Int} {rows : List (List Int)} (hok : tabOk nm ar rows = true) (hs : fmtT nm ar rows = s) :
    3 ≤ s.size ∧ s.size ≤ 34 ∧ (∃ x y, Lib.cut s.data.toList [58] = ([x, y], rowsB rows, true) ∧ iNm [x, y] = nm ∧ iAr [x, y] = ar) ∧ iRows (rowsB rows) = rows ∧ pNm s = nm ∧ pAr s = ar ∧ pRows s = rows := by
  have htp : TabP nm ar rows := of_decide_eq_true hok
  obtain ⟨hnm, h1, h3, h8, hrow, _⟩ := htp
  have hn := of_decide_eq_true hnm
  have hrow' : ∀ r ∈ rows, r ≠ [] ∧ r.length ≤ 3 ∧ ∀ x ∈ r, 0 ≤ x ∧ x ≤ 9 := fun r hr => by
    have := rowOk_iff.1 (hrow r hr)
    exact ⟨fun q => by rw [q] at this; simp at this; omega, by omega, this.2⟩
  obtain ⟨⟨nl⟩⟩ := nm
  obtain ⟨x, rfl⟩ : ∃ x, nl = [x] := List.length_eq_one_iff.1 hn.1
  have hx : 97 ≤ x.toNat ∧ x.toNat ≤ 122 := hn.2
  have hy := dig_byte (x := ar) ⟨by omega, by omega⟩
  have hsl : s.data.toList = [x, UInt8.ofNat (48 + ar.toNat)] ++ 58 :: rowsB rows := by
    rw [← hs]
    unfold fmtT
    rw [hok, if_pos rfl]
    rfl
  generalize UInt8.ofNat (48 + ar.toNat) = y at *
  have h58 : (58 : UInt8) ∉ [x, y] := fun q => by
    rcases List.mem_cons.1 q with q | q
    · rw [← q] at hx; exact absurd hx.1 (by decide)
    · rw [← List.mem_singleton.1 q] at hy
      have : (58 : UInt8).toNat = 58 := rfl
      omega
  have hlen : s.size = 3 + (rowsB rows).length := by
    have : s.data.toList.length = s.size := Array.length_toList
    rw [← this, hsl]
    simp
    omega
  have hrl := rows_len rows hrow'
  have hr0 : rows = [] → (rowsB rows).length = 0 := fun q => by rw [q]; rfl
  have hsz34 : s.size ≤ 34 := by
    by_cases q : rows = []
    · rw [hlen, hr0 q]; omega
    · have := (hrl.2 q).2; omega
  refine ⟨by omega, hsz34, ⟨x, y, ?_, ?_, ?_⟩, ?_, ?_, ?_, ?_⟩
  · rw [hsl]
    exact cut_hit 58 _ _ h58
  · rfl
  · show (y.toNat : Int) - 48 = ar
    rw [hy]
    omega
  · unfold iRows
    rw [fieldsD_rows fun r hr => ⟨(hrow' r hr).1, (hrow' r hr).2.2⟩, List.map_map]
    exact (List.map_congr_left (fun r hr => vals_digB (hrow' r hr).2.2)).trans (List.map_id' rows)
  · unfold pNm
    rw [extract_ba, hsl]
    rfl
  · unfold pAr
    rw [hsl]
    show (y.toNat : Int) - 48 = ar
    rw [hy]
    omega
  · unfold pRows
    by_cases q : rows = []
    · rw [if_neg (by rw [hlen, hr0 q]; omega), q]
    · rw [if_pos (by rw [hlen]; have := (hrl.2 q).1; omega)]
      unfold cuts
      have e : (s.extract 3 s.size).data.toList = rowsB rows := by
        rw [extract_ba, hsl]
        have : ∀ l : List UInt8, (ba l).data.toList = l := fun l => by simp [ba]
        rw [this]
        show (rowsB rows).take (s.size - 3) = rowsB rows
        exact List.take_of_length_le (by omega)
      rw [e, cutB_rows rows q fun r hr => (hrow' r hr).2.2, List.map_map, List.map_map]
      refine (List.map_congr_left (fun r hr => ?_)).trans (List.map_id' rows)
      show vals (ba (digB r)).data.toList = r
      have : (ba (digB r)).data.toList = digB r := by simp [ba]
      rw [this, vals_digB (hrow' r hr).2.2]

theorem ok_of_fmt {s nm : ByteArray} {ar : Int} {rows : List (List Int)} (h0 : s.size ≠ 0) (h : fmtT nm ar rows = s) : tabOk nm ar rows = true := by
  cases hk : tabOk nm ar rows
  · exfalso
    unfold fmtT at h
    rw [hk] at h
    exact h0 (by rw [← h]; rfl)
  · rfl

theorem par_yes {s : ByteArray} {a b : List UInt8} {has : Bool} (hc : Lib.cut s.data.toList [58] = (a, b, has)) (h2 : a.length = 2) (hf : fmtT (iNm a) (iAr a) (iRows b) = s) :
    pOk s = true ∧ pNm s = iNm a ∧ pAr s = iAr a ∧ pRows s = iRows b := by
  have h0 : s.size ≠ 0 := by
    have hp := cut_pre 58 s.data.toList
    rw [hc] at hp
    have := hp.length_le
    have h : s.data.toList.length = s.size := Array.length_toList
    show s.size ≠ 0
    simp only at this
    omega
  have hok := ok_of_fmt h0 hf
  obtain ⟨g1, g2, _, _, g5, g6, g7⟩ := shape hok hf
  refine ⟨decide_eq_true ⟨g1, by omega, ?_⟩, g5, g6, g7⟩
  rw [g5, g6, g7]
  exact hf
theorem par_no {s : ByteArray} {a b : List UInt8} {has : Bool} (hc : Lib.cut s.data.toList [58] = (a, b, has)) (h : a.length ≠ 2 ∨ 34 < s.size ∨ fmtT (iNm a) (iAr a) (iRows b) ≠ s) : pOk s = false := by
  cases hk : pOk s
  · rfl
  · exfalso
    obtain ⟨g1, g2, g3⟩ : ParP s := of_decide_eq_true hk
    have hok := ok_of_fmt (by omega) g3
    obtain ⟨k1, k2, ⟨x, y, k3, k4, k5⟩, k6, _⟩ := shape hok g3
    rw [hc] at k3
    injection k3 with e1 e2
    injection e2 with e2 _
    subst e1 e2
    rcases h with h | h | h
    · exact h rfl
    · omega
    · exact h (by rw [k4, k5, k6]; exact g3)
end Go.Proofs.YteihnbnlfocgmaaGreatDoor.ParMath
