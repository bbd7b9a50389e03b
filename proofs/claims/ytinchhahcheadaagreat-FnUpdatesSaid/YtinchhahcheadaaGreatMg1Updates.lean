/- Texts that the proof rests on, one behind the other. -/
import Derived.Test.YtinchhahcheadaaGreatTabElem
import Derived.Test.YtinchhahcheadaaGreatSlMath
import Derived.Test.YtinchhahcheadaaGreatDbMath
import Derived.Test.YtinchhahcheadaaGreatTabIns
import Derived.Test.YtinchhahcheadaaGreatTabDel
import Derived.Test.YtinchhahcheadaaGreatTabMath
import Derived.Test.YtinchhahcheadaaGreatUpd
import Derived.Test.YtinchhahcheadaaGreatTabParse
import Derived.Shelf.Strings.FieldsAny
import Derived.Lib.IndexMore
import Derived.Test.YtinchhahcheadaaGreatUpdParse2
import Derived.Test.YtinchhahcheadaaGreatFormat
import Derived.Test.YtinchhahcheadaaGreatTabCopy
import Derived.Test.YtinchhahcheadaaGreatTabSpec2
import Derived.Test.YtinchhahcheadaaGreatByt
import Derived.Deep.RegionHeld3

namespace Go.Proofs.YtinchhahcheadaaGreat.SlTable
open Go Go.RowKit Byt Ints IntsLaw Cd Rows2 Tab SlMath TabOpen TabElem
theorem len_list {us : List Value} (h : us.length = 3) : ∃ x0 x1 x2, us = [x0, x1, x2] := by
  match us, h with
  | [x0, x1, x2], _ => exact ⟨x0, x1, x2, rfl⟩
/-- The size of a slice, as the laws count it. -/
def wtS (l : List T3) : Nat := l.length + sumN wtT l

theorem info_x : (Tryz.prog.info? 51).map (fun i => (i.zero, i.size, i.bytes)) = some (some (.agg #[.string ⟨#[]⟩, .int .i64 0, .slice none 0 0]), 3, 48) := by kernel_rfl

end Go.Proofs.YtinchhahcheadaaGreat.SlTable

namespace Go.Proofs.YtinchhahcheadaaGreat.UpdMath
open Go Go.RowKit Byt Ints IntsLaw Cd Rows2 Tab TabOpen TabElem TabSpec SlMath SlTable DbMath Upd

def chOk (T : T3) (b : Bool) (row : List Int) : Bool := if b then insOk T.1 T.2.1 T.2.2 row else hasR T.1 T.2.1 T.2.2 row
def chR (T : T3) (b : Bool) (row : List Int) : List (List Int) := if b then insR T.1 T.2.1 T.2.2 row else delR T.1 T.2.1 T.2.2 row
def chT (T : T3) (b : Bool) (row : List Int) : T3 := (T.1, T.2.1, chR T b row)
/-- The table that an update makes. -/
def appT (l : List T3) (nm : ByteArray) (b : Bool) (row : List Int) : Option T3 :=
  match lookL l nm with
  | none => none
  | some T => if chOk T b row then some (chT T b row) else none
def appOk (l : List T3) (nm : ByteArray) (b : Bool) (row : List Int) : Bool :=
  match appT l nm b row with
  | none => false
  | some T => setOk l T
def appL (l : List T3) (nm : ByteArray) (b : Bool) (row : List Int) : List T3 :=
  match appT l nm b row with
  | none => l
  | some T => setL l T
theorem appT_none {l : List T3} {nm : ByteArray} {b : Bool} {row : List Int} (h : lookL l nm = none) : appT l nm b row = none := by unfold appT; rw [h]
theorem appT_no {l : List T3} {nm : ByteArray} {b : Bool} {row : List Int} {T : T3} (h : lookL l nm = some T) (hc : chOk T b row = false) : appT l nm b row = none := by unfold appT; rw [h]; simp [hc]
theorem appT_yes {l : List T3} {nm : ByteArray} {b : Bool} {row : List Int} {T : T3} (h : lookL l nm = some T) (hc : chOk T b row = true) : appT l nm b row = some (chT T b row) := by unfold appT; rw [h]; simp [hc]
theorem app_none {l : List T3} {nm : ByteArray} {b : Bool} {row : List Int} (h : appT l nm b row = none) : appL l nm b row = l ∧ appOk l nm b row = false := by unfold appL appOk; rw [h]; exact ⟨rfl, rfl⟩
theorem app_some {l : List T3} {nm : ByteArray} {b : Bool} {row : List Int} {T : T3} (h : appT l nm b row = some T) : appL l nm b row = setL l T ∧ appOk l nm b row = setOk l T := by unfold appL appOk; rw [h]; exact ⟨rfl, rfl⟩

theorem wt_ok {T : T3} (h : okT T = true) : wtT T ≤ 40 := by
  have htp : TabP T.1 T.2.1 T.2.2 := of_decide_eq_true h
  have h1 : T.1.size = 1 := (of_decide_eq_true htp.1).1
  have h2 : ∀ l : List (List Int), (∀ r ∈ l, r.length ≤ 3) → rowsWt l ≤ 4 * l.length := by
    intro l
    induction l with
    | nil => intro _; simp [rowsWt]
    | cons r rs ih =>
      intro h
      have h1 := ih (fun x hx => h x (List.mem_cons.2 (.inr hx)))
      have h2 := h r (List.mem_cons.2 (.inl rfl))
      simp [rowsWt] at *
      omega
  have h3 := h2 T.2.2 (fun r hr => by have := (rowOk_iff.1 (htp.2.2.2.2.1 r hr)).1; have := htp.2.2.1; omega)
  have h4 := htp.2.2.2.1
  unfold wtT tabWt
  omega
theorem wts_ok {l : List T3} (h : dbOk l = true) : wtS l ≤ 300 := by
  have hd := dbOk_iff.1 h
  have h2 : ∀ m : List T3, (∀ T ∈ m, okT T = true) → sumN wtT m ≤ 40 * m.length := by
    intro m
    induction m with
    | nil => intro _; simp [sumN]
    | cons T m ih =>
      intro h
      have h1 := ih (fun x hx => h x (List.mem_cons.2 (.inr hx)))
      have h2 := wt_ok (h T (List.mem_cons.2 (.inl rfl)))
      rw [sumN_cons, List.length_cons]
      omega
  have h3 := h2 l hd.2.1
  have h4 := hd.1
  unfold wtS
  omega
theorem look_ok {l : List T3} {nm : ByteArray} {T : T3} (h : lookL l nm = some T) : dbOk l = true ∧ T ∈ l ∧ T.1 = nm ∧ okT T = true := by
  unfold lookL at h
  cases hv : dbOk l
  · rw [hv] at h; cases h
  · rw [hv] at h
    obtain ⟨h1, h2⟩ := findN_some h
    exact ⟨rfl, h1, h2, (dbOk_iff.1 hv).2.1 T h1⟩
theorem ok_ch {T : T3} {b : Bool} {row : List Int} (hT : okT T = true) (h : chOk T b row = true) : okT (chT T b row) = true := by
  have htp : TabP T.1 T.2.1 T.2.2 := of_decide_eq_true hT
  obtain ⟨p1, p2, p3, p4, p5, p6⟩ := htp
  refine decide_eq_true (show TabP T.1 T.2.1 (chR T b row) from ⟨p1, p2, p3, ?_⟩)
  cases b
  · have hh : hasR T.1 T.2.1 T.2.2 row = true := h
    have e : chR T false row = dropR T.2.2 row := by unfold chR delR; simp [hh]
    rw [e]
    unfold dropR
    exact ⟨Nat.le_trans (List.length_filter_le _ _) p4, fun r hr => p5 r (List.mem_filter.1 hr).1, List.Pairwise.sublist List.filter_sublist p6⟩
  · have hi : insOk T.1 T.2.1 T.2.2 row = true := h
    have e : chR T true row = putR T.2.2 row := by unfold chR insR; simp [hi]
    rw [e]
    obtain ⟨_, q2, q3, q4⟩ : InsP T.1 T.2.1 T.2.2 row := of_decide_eq_true hi
    refine ⟨?_, fun r hr => ?_, TabImp.asc_put p6⟩
    · obtain ⟨i, hf⟩ := TabImp.find_ex row p6
      rw [TabImp.putR_split p6 hf, if_neg q3]
      unfold Cd.ins
      have := hf.1
      simp only [List.length_append, List.length_cons, List.length_take, List.length_drop]
      omega
    · rcases (TabImp.mem_put p6).1 hr with q | q
      · rw [q]; exact q2
      · exact p5 r q
theorem appT_ok {l : List T3} {nm : ByteArray} {b : Bool} {row : List Int} {T : T3} (h : appT l nm b row = some T) : dbOk l = true ∧ okT T = true := by
  unfold appT at h
  cases hl : lookL l nm with
  | none => rw [hl] at h; cases h
  | some U =>
    rw [hl] at h
    obtain ⟨h1, _, _, h4⟩ := look_ok hl
    cases hc : chOk U b row
    · simp [hc] at h
    · simp only [hc, if_true, Option.some.injEq] at h
      rw [← h]
      exact ⟨h1, ok_ch h4 hc⟩
theorem app_valid {l : List T3} {nm : ByteArray} {b : Bool} {row : List Int} (h : appOk l nm b row = true) : dbOk (appL l nm b row) = true := by
  cases ha : appT l nm b row with
  | none => rw [(app_none ha).2] at h; cases h
  | some T =>
    rw [(app_some ha).2] at h
    rw [(app_some ha).1]
    have h2 := appT_ok ha
    have h3 := dbOk_putL h2.1 h2.2
    unfold setL
    rw [h]
    unfold setOk at h
    simp only [Bool.and_eq_true] at h
    simp only [if_true]
    rw [h3]
    exact h.2
theorem app_wt {l : List T3} {nm : ByteArray} {b : Bool} {row : List Int} (h : wtS l ≤ 1048577) : wtS (appL l nm b row) ≤ 1048577 := by
  cases hk : appOk l nm b row
  · have e : appL l nm b row = l := by
      cases ha : appT l nm b row with
      | none => exact (app_none ha).1
      | some T =>
        rw [(app_some ha).2] at hk
        rw [(app_some ha).1]
        unfold setL
        rw [hk]
        rfl
    rw [e]
    exact h
  · have := wts_ok (app_valid hk)
    omega
theorem app_cnts {l : List T3} {nm : ByteArray} {b : Bool} {row : List Int} (h : wtS l ≤ 1048576) : wtS (appL l nm b row) ≤ 1048576 := by
  cases hk : appOk l nm b row
  · have e : appL l nm b row = l := by
      cases ha : appT l nm b row with
      | none => exact (app_none ha).1
      | some T =>
        rw [(app_some ha).2] at hk
        rw [(app_some ha).1]
        unfold setL
        rw [hk]
        rfl
    rw [e]
    exact h
  · have := wts_ok (app_valid hk)
    omega

/-- A list of updates, applied up to the first that does not go. -/
def allL : List T3 → List U3 → List T3 × Nat
  | l, [] => (l, 0)
  | l, u :: us => if appOk l u.1 u.2.1 u.2.2 then ((allL (appL l u.1 u.2.1 u.2.2) us).1, (allL (appL l u.1 u.2.1 u.2.2) us).2 + 1) else (l, 0)
theorem allL_go {l : List T3} {us : List U3} {k : Nat} (hk : k < us.length) (h : appOk l us[k].1 us[k].2.1 us[k].2.2 = true) :
    allL l (us.drop k) = ((allL (appL l us[k].1 us[k].2.1 us[k].2.2) (us.drop (k + 1))).1, (allL (appL l us[k].1 us[k].2.1 us[k].2.2) (us.drop (k + 1))).2 + 1) := by
  rw [List.drop_eq_getElem_cons hk, allL, h]
  rfl
theorem allL_stop {l : List T3} {us : List U3} {k : Nat} (hk : k < us.length) (h : appOk l us[k].1 us[k].2.1 us[k].2.2 = false) : allL l (us.drop k) = (l, 0) := by
  rw [List.drop_eq_getElem_cons hk, allL, h]
  rfl
theorem allL_end {l : List T3} {us : List U3} : allL l (us.drop us.length) = (l, 0) := by rw [List.drop_length]; rfl
theorem allL_le : ∀ (us : List U3) (l : List T3), (allL l us).2 ≤ us.length
  | [], _ => Nat.le_refl _
  | u :: us, l => by
    have ih := allL_le us (appL l u.1 u.2.1 u.2.2)
    rw [allL]
    split
    · simp only [List.length_cons]; omega
    · exact Nat.zero_le _
theorem allL_wt : ∀ (us : List U3) (l : List T3), wtS l ≤ 1048576 → wtS (allL l us).1 ≤ 1048576
  | [], _, h => h
  | u :: us, l, h => by
    rw [allL]
    split
    · exact allL_wt us _ (app_cnts h)
    · exact h
end Go.Proofs.YtinchhahcheadaaGreat.UpdMath

namespace Go.Proofs.YtinchhahcheadaaGreat.UpdMath
open Go Go.RowKit Byt Ints IntsLaw Cd Rows2 Tab TabOpen TabElem TabSpec SlMath SlTable DbMath Upd

theorem app_no {l : List T3} {nm : ByteArray} {b : Bool} {row : List Int} (h : appOk l nm b row = false) : appL l nm b row = l := by
  cases ha : appT l nm b row with
  | none => exact (app_none ha).1
  | some T =>
    rw [(app_some ha).2] at h
    rw [(app_some ha).1]
    unfold setL
    rw [h]
    rfl
theorem ins_put {T : T3} {row : List Int} (h : insOk T.1 T.2.1 T.2.2 row = true) : chR T true row = putR T.2.2 row := by unfold chR insR; simp [h]
theorem del_drop {T : T3} {row : List Int} (h : hasR T.1 T.2.1 T.2.2 row = true) : chR T false row = dropR T.2.2 row := by unfold chR delR; simp [h]
theorem mem_drop {rows : List (List Int)} {row r : List Int} : r ∈ dropR rows row ↔ r ∈ rows ∧ r ≠ row := by unfold dropR; rw [List.mem_filter]; simp
/-- The other way round it gives the rows back, and it changes them. -/
theorem ch_back {T : T3} {b : Bool} {row : List Int} (hT : okT T = true) (h : chOk T b row = true) : chOk (chT T b row) (!b) row = true ∧ chR (chT T b row) (!b) row = T.2.2 ∧ chR T b row ≠ T.2.2 := by
  have hok := ok_ch hT h
  have htp : TabP T.1 T.2.1 T.2.2 := of_decide_eq_true hT
  have hpp : TabP T.1 T.2.1 (chR T b row) := of_decide_eq_true hok
  have ha := htp.2.2.2.2.2
  cases b
  · have hh : hasR T.1 T.2.1 T.2.2 row = true := h
    have hm : row ∈ T.2.2 := (of_decide_eq_true hh : TabP T.1 T.2.1 T.2.2 ∧ row ∈ T.2.2).2
    have e := del_drop hh
    have hn : row ∉ chR T false row := by rw [e, mem_drop]; exact fun q => q.2 rfl
    have hlen : (chR T false row).length ≠ 8 := by
      rw [e]
      have h1 : (dropR T.2.2 row).length < T.2.2.length := by
        unfold dropR
        exact List.length_filter_lt_length_iff_exists.2 ⟨row, hm, by simp⟩
      have := htp.2.2.2.1
      omega
    have hi : insOk T.1 T.2.1 (chR T false row) row = true := decide_eq_true ⟨hpp, htp.2.2.2.2.1 row hm, hn, hlen⟩
    refine ⟨hi, ?_, fun q => hn (by rw [q]; exact hm)⟩
    have e2 : chR (chT T false row) true row = putR (chR T false row) row := ins_put (T := chT T false row) hi
    rw [show (!false) = true from rfl, e2]
    refine TabImp.asc_one (TabImp.asc_put hpp.2.2.2.2.2) ha fun r => ?_
    rw [TabImp.mem_put hpp.2.2.2.2.2, e, mem_drop]
    constructor
    · rintro (q | q)
      · rw [q]; exact hm
      · exact q.1
    · intro q
      by_cases hr : r = row
      · exact .inl hr
      · exact .inr ⟨q, hr⟩
  · have hi : insOk T.1 T.2.1 T.2.2 row = true := h
    obtain ⟨_, _, q3, _⟩ : InsP T.1 T.2.1 T.2.2 row := of_decide_eq_true hi
    have e := ins_put hi
    have hm : row ∈ chR T true row := by rw [e, TabImp.mem_put ha]; exact .inl rfl
    have hh : hasR T.1 T.2.1 (chR T true row) row = true := decide_eq_true ⟨hpp, hm⟩
    refine ⟨hh, ?_, fun q => q3 (by rw [← q]; exact hm)⟩
    have e2 : chR (chT T true row) false row = dropR (chR T true row) row := del_drop (T := chT T true row) hh
    rw [show (!true) = false from rfl, e2]
    refine TabImp.asc_one (List.Pairwise.sublist List.filter_sublist hpp.2.2.2.2.2) ha fun r => ?_
    rw [mem_drop, e, TabImp.mem_put ha]
    constructor
    · rintro ⟨q | q, hr⟩
      · exact absurd q hr
      · exact q
    · intro q
      exact ⟨.inr q, fun hr => q3 (hr ▸ q)⟩
/-- An update that can be made can be unmade; it changes the database. -/
theorem app_back {l : List T3} {nm : ByteArray} {b : Bool} {row : List Int} (h : appOk l nm b row = true) :
    appOk (appL l nm b row) nm (!b) row = true ∧ appL (appL l nm b row) nm (!b) row = l ∧ appL l nm b row ≠ l := by
  cases hl : lookL l nm with
  | none => rw [(app_none (appT_none hl)).2] at h; cases h
  | some T =>
    cases hc : chOk T b row
    · rw [(app_none (appT_no hl hc)).2] at h; cases h
    · obtain ⟨hv, hm, rfl, hT⟩ := look_ok hl
      have hs := app_some (appT_yes hl hc)
      rw [hs.2] at h
      rw [hs.1]
      have ha := (dbOk_iff.1 hv).2.2
      have hT2 := ok_ch hT hc
      obtain ⟨g1, g2, g3⟩ := ch_back hT hc
      have e : setL l (chT T b row) = putL (chT T b row) l := by unfold setL; rw [h]; rfl
      have h6 := h
      unfold setOk at h6
      simp only [Bool.and_eq_true] at h6
      have hR : dbOk (putL (chT T b row) l) = true := by rw [dbOk_putL hv hT2]; exact h6.2
      have haR := asc_putL (T := chT T b row) ha
      have hmem : chT T b row ∈ putL (chT T b row) l := (mem_putL ha).2 (.inl rfl)
      have hlook : lookL (putL (chT T b row) l) T.1 = some (chT T b row) := by unfold lookL; rw [hR]; exact findN_of_asc haR hmem
      have hback : chT (chT T b row) (!b) row = T := by
        show (T.1, T.2.1, chR (chT T b row) (!b) row) = T
        rw [g2]
      have hput : putL T (putL (chT T b row) l) = l := asc_unique (asc_putL haR) ha fun U => by
        rw [mem_putL haR, mem_putL ha]
        constructor
        · rintro (q | ⟨q | q, r⟩)
          · rw [q]; exact hm
          · exact absurd (by rw [q]; rfl) r
          · exact q.1
        · intro q
          by_cases hU : U.1 = T.1
          · exact .inl (asc_name ha q hm hU)
          · exact .inr ⟨.inr ⟨q, hU⟩, hU⟩
      have hset : setOk (putL (chT T b row) l) T = true := by
        unfold setOk
        rw [hR, hT, hput]
        simpa using (dbOk_iff.1 hv).1
      rw [e]
      have hs2 := app_some (appT_yes hlook g1)
      rw [hback] at hs2
      refine ⟨by rw [hs2.2]; exact hset, ?_, fun q => ?_⟩
      · rw [hs2.1]
        unfold setL
        rw [hset, if_pos rfl, hput]
      · rw [q] at hlook
        rw [hl] at hlook
        injection hlook with hlook
        exact g3 (congrArg (fun X : T3 => X.2.2) hlook).symm
end Go.Proofs.YtinchhahcheadaaGreat.UpdMath

namespace Go.Proofs.YtinchhahcheadaaGreat.ParMath
open Go Go.RowKit Byt Ints IntsLaw Cd Rows2 Tab TabSpec TabFmt TabParse

theorem index_hit (c : UInt8) : ∀ (a b : List UInt8), c ∉ a → Lib.index (a ++ c :: b) [c] = a.length
  | [], b, _ => by simp [Lib.index, List.isPrefixOf]
  | x :: a, b, h => by
    have hx : ¬ c = x := fun q => h (by rw [q]; exact List.mem_cons_self)
    have ih := index_hit c a b (fun q => h (List.mem_cons_of_mem _ q))
    have hp : List.isPrefixOf [c] (x :: (a ++ c :: b)) = false := by
      have : (c == x) = false := by rw [beq_eq_false_iff_ne]; exact hx
      simp [List.isPrefixOf, this]
    show Lib.index (x :: (a ++ c :: b)) [c] = _
    unfold Lib.index
    rw [hp, ih]
    have : ((a.length : Int) == -1) = false := by rw [beq_eq_false_iff_ne]; omega
    rw [this]
    simp
theorem cut_hit (c : UInt8) (a b : List UInt8) (h : c ∉ a) : Lib.cut (a ++ c :: b) [c] = (a, b, true) := by
  unfold Lib.cut
  rw [index_hit c a b h, if_pos (by omega)]
  simp
theorem cut_pre (c : UInt8) (l : List UInt8) : (Lib.cut l [c]).1 <+: l := by
  unfold Lib.cut
  split
  · exact List.take_prefix _ _
  · exact List.prefix_refl _

/-- A digit's byte. -/
theorem dig_byte {x : Int} (h : 0 ≤ x ∧ x ≤ 9) : (UInt8.ofNat (48 + x.toNat)).toNat = 48 + x.toNat := by
  rw [UInt8.toNat_ofNat']
  omega
theorem mem_digB {l : List Int} (h : ∀ x ∈ l, 0 ≤ x ∧ x ≤ 9) {b : UInt8} (hb : b ∈ digB l) : 48 ≤ b.toNat ∧ b.toNat ≤ 57 := by
  unfold digB at hb
  obtain ⟨x, hx, rfl⟩ := List.mem_map.1 hb
  have := h x hx
  rw [dig_byte this]
  omega
theorem vals_digB {l : List Int} (h : ∀ x ∈ l, 0 ≤ x ∧ x ≤ 9) : vals (digB l) = l := by
  unfold vals digB
  rw [List.map_map]
  have : ∀ x ∈ l, ((fun b : UInt8 => (b.toNat : Int) - 48) ∘ fun x : Int => UInt8.ofNat (48 + x.toNat)) x = x := fun x hx => by
    have hh := h x hx
    show ((UInt8.ofNat (48 + x.toNat)).toNat : Int) - 48 = x
    rw [dig_byte hh]
    omega
  exact (List.map_congr_left this).trans (List.map_id' l)
theorem isSp_digit {b : UInt8} (h : 48 ≤ b.toNat ∧ b.toNat ≤ 57) : Lib.isSp b = false := by
  have hb : b = UInt8.ofNat b.toNat := by simp
  generalize b.toNat = n at *
  subst hb
  rcases (show n = 48 ∨ n = 49 ∨ n = 50 ∨ n = 51 ∨ n = 52 ∨ n = 53 ∨ n = 54 ∨ n = 55 ∨ n = 56 ∨ n = 57 by omega) with rfl | rfl | rfl | rfl | rfl | rfl | rfl | rfl | rfl | rfl <;> rfl

theorem fieldsGo_word : ∀ (w cur l : List UInt8), (∀ b ∈ w, Lib.isSp b = false) → Lib.fieldsGo cur (w ++ l) = Lib.fieldsGo (cur ++ w) l
  | [], cur, l, _ => by simp
  | b :: w, cur, l, h => by
    have hb := h b List.mem_cons_self
    show Lib.fieldsGo cur (b :: (w ++ l)) = _
    rw [Lib.fieldsGo, hb, if_neg (by simp), fieldsGo_word w _ l (fun x hx => h x (List.mem_cons_of_mem _ hx))]
    simp
theorem fields_rows : ∀ rows : List (List Int), (∀ r ∈ rows, r ≠ [] ∧ ∀ x ∈ r, 0 ≤ x ∧ x ≤ 9) → Lib.fields (rowsB rows) = rows.map digB
  | [], _ => rfl
  | [r], h => by
    obtain ⟨hr, hx⟩ := h r List.mem_cons_self
    have hd : ∀ b ∈ digB r, Lib.isSp b = false := fun b hb => isSp_digit (mem_digB hx hb)
    have := fieldsGo_word (digB r) [] [] hd
    rw [List.append_nil, List.nil_append] at this
    show Lib.fieldsGo [] (digB r) = _
    rw [this, Lib.fieldsGo]
    have hne : (digB r).isEmpty = false := by
      cases r with
      | nil => exact absurd rfl hr
      | cons a b => rfl
    rw [hne]
    rfl
  | r :: s :: rs, h => by
    obtain ⟨hr, hx⟩ := h r List.mem_cons_self
    have ih := fields_rows (s :: rs) (fun x hx => h x (List.mem_cons_of_mem _ hx))
    have hd : ∀ b ∈ digB r, Lib.isSp b = false := fun b hb => isSp_digit (mem_digB hx hb)
    show Lib.fieldsGo [] (digB r ++ 32 :: rowsB (s :: rs)) = _
    rw [fieldsGo_word (digB r) [] _ hd, Lib.fieldsGo, show Lib.isSp 32 = true from rfl, List.nil_append]
    simp only [if_true]
    have hne : (digB r).isEmpty = false := by
      cases r with
      | nil => exact absurd rfl hr
      | cons a b => rfl
    rw [hne, if_neg (by simp)]
    show digB r :: Lib.fields (rowsB (s :: rs)) = _
    rw [ih]
    rfl
theorem mem_rowsB : ∀ rows : List (List Int), (∀ r ∈ rows, ∀ x ∈ r, 0 ≤ x ∧ x ≤ 9) → ∀ b ∈ rowsB rows, b.toNat < 128
  | [], _, b, hb => by cases hb
  | [r], h, b, hb => by have := mem_digB (h r List.mem_cons_self) (show b ∈ digB r from hb); omega
  | r :: s :: rs, h, b, hb => by
    rcases List.mem_append.1 (show b ∈ digB r ++ 32 :: rowsB (s :: rs) from hb) with q | q
    · have := mem_digB (h r List.mem_cons_self) q; omega
    · rcases List.mem_cons.1 q with rfl | q
      · decide
      · exact mem_rowsB (s :: rs) (fun x hx => h x (List.mem_cons_of_mem _ hx)) b q
theorem fieldsD_rows {rows : List (List Int)} (h : ∀ r ∈ rows, r ≠ [] ∧ ∀ x ∈ r, 0 ≤ x ∧ x ≤ 9) : Lib.fieldsD (rowsB rows) = rows.map digB := by
  rw [Lib.fieldsD_ascii _ (mem_rowsB rows fun r hr => (h r hr).2), fields_rows rows h]

theorem cutB_word (sep : UInt8) : ∀ w l : List UInt8, sep ∉ w → cutB sep (w ++ sep :: l) = w :: cutB sep l
  | [], l, _ => by simp [cutB]
  | b :: w, l, h => by
    have hb : ¬ b = sep := fun q => h (by rw [q]; exact List.mem_cons_self)
    show cutB sep (b :: (w ++ sep :: l)) = _
    rw [cutB, if_neg hb, cutB_word sep w l (fun q => h (List.mem_cons_of_mem _ q))]
theorem cutB_last (sep : UInt8) : ∀ w : List UInt8, sep ∉ w → cutB sep w = [w]
  | [], _ => rfl
  | b :: w, h => by
    have hb : ¬ b = sep := fun q => h (by rw [q]; exact List.mem_cons_self)
    rw [cutB, if_neg hb, cutB_last sep w (fun q => h (List.mem_cons_of_mem _ q))]
theorem cutB_rows : ∀ rows : List (List Int), rows ≠ [] → (∀ r ∈ rows, ∀ x ∈ r, 0 ≤ x ∧ x ≤ 9) → cutB 32 (rowsB rows) = rows.map digB
  | [], h, _ => absurd rfl h
  | [r], _, h => by
    have hd : (32 : UInt8) ∉ digB r := fun q => by have := (mem_digB (h r List.mem_cons_self) q).1; exact absurd this (by decide)
    exact cutB_last 32 (digB r) hd
  | r :: s :: rs, _, h => by
    have hd : (32 : UInt8) ∉ digB r := fun q => by have := (mem_digB (h r List.mem_cons_self) q).1; exact absurd this (by decide)
    show cutB 32 (digB r ++ 32 :: rowsB (s :: rs)) = _
    rw [cutB_word 32 _ _ hd, cutB_rows (s :: rs) (by simp) (fun x hx => h x (List.mem_cons_of_mem _ hx))]
    rfl

/-- How many fields, and how long. -/
theorem fieldsGoD_len : ∀ (f : Nat) (cur l : List UInt8), (Lib.fieldsGoD f cur l).length ≤ f + 1
  | 0, cur, l => by unfold Lib.fieldsGoD; split <;> simp
  | f + 1, cur, l => by
    have h1 := fieldsGoD_len f [] (l.drop (Lib.decodeL l).2)
    have h2 := fieldsGoD_len f (cur ++ l.take (Lib.decodeL l).2) (l.drop (Lib.decodeL l).2)
    have h3 : (if cur = [] then [] else [cur]).length ≤ 1 := by split <;> simp
    unfold Lib.fieldsGoD
    split
    · omega
    · split
      · rw [List.length_append]; omega
      · omega
theorem fieldsD_len (l : List UInt8) : (Lib.fieldsD l).length ≤ l.length + 2 := fieldsGoD_len _ _ _
theorem fieldsGoD_mem : ∀ (f : Nat) (cur l x : List UInt8), x ∈ Lib.fieldsGoD f cur l → x.length ≤ cur.length + l.length
  | 0, cur, l, x, h => by
    unfold Lib.fieldsGoD at h
    split at h
    · cases h
    · rw [List.mem_singleton.1 h]; omega
  | f + 1, cur, l, x, h => by
    have h0 : ∀ y, y ∈ (if cur = [] then [] else [cur]) → y.length ≤ cur.length := fun y hy => by
      split at hy
      · cases hy
      · rw [List.mem_singleton.1 hy]; omega
    unfold Lib.fieldsGoD at h
    split at h
    · have := h0 x h; omega
    · split at h
      · rcases List.mem_append.1 h with q | q
        · have := h0 x q; omega
        · have := fieldsGoD_mem f _ _ x q
          rw [List.length_drop] at this
          simp only [List.length_nil] at this
          omega
      · have := fieldsGoD_mem f _ _ x h
        rw [List.length_drop, List.length_append, List.length_take] at this
        omega
theorem fieldsD_mem {l x : List UInt8} (h : x ∈ Lib.fieldsD l) : x.length ≤ l.length := by
  have := fieldsGoD_mem _ _ _ _ h
  simp only [List.length_nil] at this
  omega

/-- What the program reads: the head's first byte, its second, the body's fields. -/
def iNm (a : List UInt8) : ByteArray := ba (a.take 1)
def iAr (a : List UInt8) : Int := ((a.getD 1 0).toNat : Int) - 48
def iRows (b : List UInt8) : List (List Int) := (Lib.fieldsD b).map vals

theorem rows_len : ∀ rows : List (List Int), (∀ r ∈ rows, r ≠ [] ∧ r.length ≤ 3 ∧ ∀ x ∈ r, 0 ≤ x ∧ x ≤ 9) → (rowsB rows).length + 1 ≤ 4 * rows.length + 1 ∧ (rows ≠ [] → 1 ≤ (rowsB rows).length ∧ (rowsB rows).length + 1 ≤ 4 * rows.length) := by
  intro rows
  induction rows with
  | nil => intro _; exact ⟨by simp [rowsB], fun q => absurd rfl q⟩
  | cons r rs ih =>
    intro hrow'
    obtain ⟨g1, g2, _⟩ := hrow' r List.mem_cons_self
    have g3 : 1 ≤ r.length := by cases r with | nil => exact absurd rfl g1 | cons _ _ => simp
    have ih := ih (fun z hz => hrow' z (List.mem_cons_of_mem _ hz))
    cases rs with
    | nil =>
      have e : (rowsB [r]).length = r.length := digB_len r
      rw [e]
      simp
      omega
    | cons t ts =>
      have e : (rowsB (r :: t :: ts)).length = r.length + ((rowsB (t :: ts)).length + 1) := by
        show (digB r ++ 32 :: rowsB (t :: ts)).length = _
        rw [List.length_append, List.length_cons, digB_len]
      have := ih.2 (by simp)
      rw [e]
      simp only [List.length_cons] at *
      exact ⟨by omega, fun _ => ⟨by omega, by omega⟩⟩

/-- A string that is the format of a valid table. -/
theorem shape {s nm : ByteArray} {ar : Int} {rows : List (List Int)} (hok : tabOk nm ar rows = true) (hs : fmtT nm ar rows = s) :
    3 ≤ s.size ∧ s.size ≤ 34 ∧ (∃ x y, Lib.cut s.data.toList [58] = ([x, y], rowsB rows, true) ∧ iNm [x, y] = nm ∧ iAr [x, y] = ar) ∧ iRows (rowsB rows) = rows ∧ pNm s = nm ∧ pAr s = ar ∧ pRows s = rows := by
  have htp : TabP nm ar rows := of_decide_eq_true hok
  obtain ⟨hnm, h1, h3, h8, hrow, _⟩ := htp
  have hn := of_decide_eq_true hnm
  have hrow' : ∀ r ∈ rows, r ≠ [] ∧ r.length ≤ 3 ∧ ∀ x ∈ r, 0 ≤ x ∧ x ≤ 9 := fun r hr => by
    have := rowOk_iff.1 (hrow r hr)
    exact ⟨fun q => by rw [q] at this; simp at this; omega, by omega, this.2⟩
  obtain ⟨⟨nl⟩⟩ := nm
  obtain ⟨x, rfl⟩ : ∃ x, nl = [x] := List.length_eq_one_iff.1 hn.1
  have hx : 97 ≤ x.toNat ∧ x.toNat ≤ 122 := hn.2
  have hy := dig_byte (x := ar) ⟨by omega, by omega⟩
  have hsl : s.data.toList = [x, UInt8.ofNat (48 + ar.toNat)] ++ 58 :: rowsB rows := by
    rw [← hs]
    unfold fmtT
    rw [hok, if_pos rfl]
    rfl
  generalize UInt8.ofNat (48 + ar.toNat) = y at *
  have h58 : (58 : UInt8) ∉ [x, y] := fun q => by
    rcases List.mem_cons.1 q with q | q
    · rw [← q] at hx; exact absurd hx.1 (by decide)
    · rw [← List.mem_singleton.1 q] at hy
      have : (58 : UInt8).toNat = 58 := rfl
      omega
  have hlen : s.size = 3 + (rowsB rows).length := by
    have : s.data.toList.length = s.size := Array.length_toList
    rw [← this, hsl]
    simp
    omega
  have hrl := rows_len rows hrow'
  have hr0 : rows = [] → (rowsB rows).length = 0 := fun q => by rw [q]; rfl
  have hsz34 : s.size ≤ 34 := by
    by_cases q : rows = []
    · rw [hlen, hr0 q]; omega
    · have := (hrl.2 q).2; omega
  refine ⟨by omega, hsz34, ⟨x, y, ?_, ?_, ?_⟩, ?_, ?_, ?_, ?_⟩
  · rw [hsl]
    exact cut_hit 58 _ _ h58
  · rfl
  · show (y.toNat : Int) - 48 = ar
    rw [hy]
    omega
  · unfold iRows
    rw [fieldsD_rows fun r hr => ⟨(hrow' r hr).1, (hrow' r hr).2.2⟩, List.map_map]
    exact (List.map_congr_left (fun r hr => vals_digB (hrow' r hr).2.2)).trans (List.map_id' rows)
  · unfold pNm
    rw [extract_ba, hsl]
    rfl
  · unfold pAr
    rw [hsl]
    show (y.toNat : Int) - 48 = ar
    rw [hy]
    omega
  · unfold pRows
    by_cases q : rows = []
    · rw [if_neg (by rw [hlen, hr0 q]; omega), q]
    · rw [if_pos (by rw [hlen]; have := (hrl.2 q).1; omega)]
      unfold cuts
      have e : (s.extract 3 s.size).data.toList = rowsB rows := by
        rw [extract_ba, hsl]
        have : ∀ l : List UInt8, (ba l).data.toList = l := fun l => by simp [ba]
        rw [this]
        show (rowsB rows).take (s.size - 3) = rowsB rows
        exact List.take_of_length_le (by omega)
      rw [e, cutB_rows rows q fun r hr => (hrow' r hr).2.2, List.map_map, List.map_map]
      refine (List.map_congr_left (fun r hr => ?_)).trans (List.map_id' rows)
      show vals (ba (digB r)).data.toList = r
      have : (ba (digB r)).data.toList = digB r := by simp [ba]
      rw [this, vals_digB (hrow' r hr).2.2]

theorem ok_of_fmt {s nm : ByteArray} {ar : Int} {rows : List (List Int)} (h0 : s.size ≠ 0) (h : fmtT nm ar rows = s) : tabOk nm ar rows = true := by
  cases hk : tabOk nm ar rows
  · exfalso
    unfold fmtT at h
    rw [hk] at h
    exact h0 (by rw [← h]; rfl)
  · rfl

theorem par_yes {s : ByteArray} {a b : List UInt8} {has : Bool} (hc : Lib.cut s.data.toList [58] = (a, b, has)) (h2 : a.length = 2) (hf : fmtT (iNm a) (iAr a) (iRows b) = s) :
    pOk s = true ∧ pNm s = iNm a ∧ pAr s = iAr a ∧ pRows s = iRows b := by
  have h0 : s.size ≠ 0 := by
    have hp := cut_pre 58 s.data.toList
    rw [hc] at hp
    have := hp.length_le
    have h : s.data.toList.length = s.size := Array.length_toList
    show s.size ≠ 0
    simp only at this
    omega
  have hok := ok_of_fmt h0 hf
  obtain ⟨g1, g2, _, _, g5, g6, g7⟩ := shape hok hf
  refine ⟨decide_eq_true ⟨g1, by omega, ?_⟩, g5, g6, g7⟩
  rw [g5, g6, g7]
  exact hf
theorem par_no {s : ByteArray} {a b : List UInt8} {has : Bool} (hc : Lib.cut s.data.toList [58] = (a, b, has)) (h : a.length ≠ 2 ∨ 34 < s.size ∨ fmtT (iNm a) (iAr a) (iRows b) ≠ s) : pOk s = false := by
  cases hk : pOk s
  · rfl
  · exfalso
    obtain ⟨g1, g2, g3⟩ : ParP s := of_decide_eq_true hk
    have hok := ok_of_fmt (by omega) g3
    obtain ⟨k1, k2, ⟨x, y, k3, k4, k5⟩, k6, _⟩ := shape hok g3
    rw [hc] at k3
    injection k3 with e1 e2
    injection e2 with e2 _
    subst e1 e2
    rcases h with h | h | h
    · exact h rfl
    · omega
    · exact h (by rw [k4, k5, k6]; exact g3)
end Go.Proofs.YtinchhahcheadaaGreat.ParMath

namespace Go.Proofs.YtinchhahcheadaaGreat.UpdFact
open Go Go.RowKit Byt Ints IntsLaw Cd Rows2 Tab TabSpec Exact Upd TabFmt UpdFmt TabParse UpdParse

/-- A format is read back; there is none only where there is nothing to be read. -/
theorem par_fmtU (nm : ByteArray) (b : Bool) (row : List Int) :
    (updOk nm row = false → fmtU nm b row = ⟨#[]⟩ ∧ uOk (fmtU nm b row) = false) ∧
    (updOk nm row = true → fmtU nm b row ≠ ⟨#[]⟩ ∧ uOk (fmtU nm b row) = true ∧ uN (fmtU nm b row) = nm ∧ uB (fmtU nm b row) = b ∧ uR (fmtU nm b row) = row) := by
  constructor
  · intro h
    rw [fmtU_no h]
    exact ⟨rfl, decide_eq_false fun q => absurd q.1 (by decide)⟩
  · intro h
    have hk := h
    unfold updOk at hk
    simp only [Bool.and_eq_true, decide_eq_true_eq] at hk
    obtain ⟨⟨h1, _, _⟩, h3⟩ := hk
    have hn := (of_decide_eq_true h1).1
    obtain ⟨⟨nl⟩⟩ := nm
    obtain ⟨x, rfl⟩ : ∃ x, nl = [x] := List.length_eq_one_iff.1 hn
    generalize hs : fmtU ⟨⟨[x]⟩⟩ b row = s at *
    have hsl : s.data.toList = signB b :: x :: digB row := by
      rw [← hs, fmtU_yes h]
      rfl
    have hlen : s.size = 2 + row.length := by
      have e : s.data.toList.length = s.size := Array.length_toList
      rw [← e, hsl]
      simp [digB]
      omega
    have eN : uN s = ⟨⟨[x]⟩⟩ := by
      unfold uN
      rw [extract_ba, hsl]
      rfl
    have eB : uB s = b := by
      unfold uB
      rw [hsl]
      cases b <;> rfl
    have eR : uR s = row := by
      unfold uR
      rw [extract_ba, hsl]
      have e : ∀ l : List UInt8, (ba l).data.toList = l := fun l => by simp [ba]
      rw [e]
      have e2 : ((signB b :: x :: digB row).drop 2).take (s.size - 2) = digB row := by
        rw [hlen]
        show (digB row).take (2 + row.length - 2) = digB row
        refine List.take_of_length_le ?_
        simp [digB]
      rw [e2]
      exact ParMath.vals_digB (rowOk_iff.1 h3).2
    refine ⟨fun q => ?_, ?_, eN, eB, eR⟩
    · rw [q] at hlen
      have : (⟨#[]⟩ : ByteArray).size = 0 := rfl
      omega
    · refine decide_eq_true ⟨by omega, ?_⟩
      rw [eN, eB, eR]
      exact hs
theorem fmtU_size (nm : ByteArray) (b : Bool) (row : List Int) : (fmtU nm b row).size ≤ 1048576 := by
  cases h : updOk nm row
  · rw [fmtU_no h]; decide
  · have := uOk_len ((par_fmtU nm b row).2 h).2.1
    omega
end Go.Proofs.YtinchhahcheadaaGreat.UpdFact

namespace Go.Proofs.YtinchhahcheadaaGreat.Mark
open Go Go.RowKit Byt Format
open Go.Lib (decDigits)

/-- The text of mark k. -/
def mtext (k : Nat) : ByteArray := ⟨(109 :: decDigits k).toArray⟩
theorem mtext_size (k : Nat) (h : k ≤ 9223372036854775807) : (mtext k).size ≤ 20 := by
  have := digits_len (n := k) (by omega)
  show (109 :: decDigits k).toArray.size ≤ 20
  rw [List.size_toArray, List.length_cons]
  omega
end Go.Proofs.YtinchhahcheadaaGreat.Mark

namespace Go.Proofs.YtinchhahcheadaaGreat.SlTable
open Go Go.RowKit Byt Ints IntsLaw Cd Rows2 Tab SlMath TabOpen TabElem Mark

theorem heap_same {w w' : World} {g o : Nat} {x : Value} (h : w'.heap[g]? = w.heap[g]?) : (w'.setCell ⟨g, o, none⟩ x).heap[g]? = (w.setCell ⟨g, o, none⟩ x).heap[g]? := by
  simp only [World.setCell, Array.getElem?_modify, h]
theorem touch_cell {fp : List Nat} {w : World} {g o : Nat} (h : g ∈ fp) (x : Value) : Cd.Touch fp w (w.setCell ⟨g, o, none⟩ x) :=
  ⟨rfl, rfl, rfl, by simp, fun k _ hn => Below.heap_setCell w _ x k fun q => hn (by rw [q]; exact h)⟩
/-- A table marked from k on, and how many marks it takes. -/
def mkT (k : Nat) (T : T3) : T3 := (mtext k, ((k + 1 : Nat) : Int), mrows (k + 2) T.2.2)
def cntT (T : T3) : Nat := 2 + T.2.2.flatten.length

end Go.Proofs.YtinchhahcheadaaGreat.SlTable

namespace Go.Proofs.YtinchhahcheadaaGreat.Db
open Go Go.RowKit Byt Ints IntsLaw Cd Rows2 Tab SlMath TabOpen TabElem Mark SlTable

def tabsC : Cd (List T3) := Cd.sl 51 tabC





end Go.Proofs.YtinchhahcheadaaGreat.Db

namespace Go.Proofs.YtinchhahcheadaaGreat.DbSpec
open Go Go.RowKit Byt Ints IntsLaw Cd Rows2 Tab SlMath TabOpen TabElem SlTable Db TabSpec

/-- One table, said of its cells. -/
theorem sameT_iff {a b : T3} : sameT a.1 b.1 a.2.1 b.2.1 a.2.2 b.2.2 = decide (a = b) := by
  obtain ⟨a1, a2, a3⟩ := a
  obtain ⟨b1, b2, b3⟩ := b
  unfold sameT
  simp
theorem row1 {w : World} {k : Nat} {a : Value} {e : TypeId} (h : w.heap[k]? = some (.cells #[a] e (0, 0))) : w.cell? ⟨k, 0, none⟩ = some a ∧ w.frozen? ⟨k, 0, none⟩ = false := ⟨by simp [World.cell?, h], by simp [World.frozen?, h]⟩
theorem ret_b {a b : Bool} (h : a = b) : Ending.returned (.bool a) = Ending.returned (.bool b) := by rw [h]
def LaterD (w w' : World) : Prop := Below w.heap.size w w'
theorem take_ne {l1 l2 : List T3} {k : Nat} (h1 : k < l1.length) (h2 : k < l2.length) (h : l1[k] ≠ l2[k]) : l1 ≠ l2 := fun q => h (by simp [q])
theorem take_eq {l1 l2 : List T3} {k : Nat} (h1 : k < l1.length) (h2 : k < l2.length) (ht : l1.take k = l2.take k) (h : l1[k] = l2[k]) : l1.take (k + 1) = l2.take (k + 1) := by
  rw [List.take_succ_eq_append_getElem h1, List.take_succ_eq_append_getElem h2, ht, h]

theorem eqt_elem (us vs : List Value) (T U : T3) (S S2 : Nat → Prop) (w : World) (hu : tabC.rd w S us T) (hv : tabC.rd w S2 vs U) :
    Calls Tryz.prog 42 #[.agg us.toArray, .agg vs.toArray] w fun e w' => e = .returned (.bool (decide (T = U))) ∧ Below w.heap.size w w' := by
  obtain ⟨u, rfl, _, _, h3⟩ := tab_cells hu
  obtain ⟨u2, rfl, _, _, h4⟩ := tab_cells hv
  have h := spec_equal T.1 U.1 T.2.1 U.2.1 u u2 T.2.2 U.2.2 S S2 w h3 h4
  rw [sameT_iff] at h
  exact h
set_option maxRecDepth 100000 in
set_option maxHeartbeats 1600000 in
theorem spec_eqdb (u1 u2 : Value) (l1 l2 : List T3) (S1 S2 : Nat → Prop) (w : World) (h1 : tabsC.rd w S1 [u1] l1) (h2 : tabsC.rd w S2 [u2] l2) :
    Calls Tryz.prog 16 #[.agg #[u1], .agg #[u2]] w fun e w' => e = .returned (.bool (decide (l1 = l2))) ∧ Below w.heap.size w w' := by
  have HR1 := Lib.hid (fun w' (hb : Below w.heap.size w w') => Cd.later h1 hb)
  have HR2 := Lib.hid (fun w' (hb : Below w.heap.size w w') => Cd.later h2 hb)
  obtain ⟨a1, cap1, rfl, hl1⟩ := Cd.sl_form h1
  obtain ⟨a2, cap2, rfl, hl2⟩ := Cd.sl_form h2
  clear h1 h2
  by_cases hlen : l1.length = l2.length
  case neg =>
    have HZ := Lib.hid (show decide (l1 = l2) = false from decide_eq_false fun q => hlen (by rw [q]))
    have ht : ((l1.length : Int) != (l2.length : Int)) = true := by rw [bne_iff_ne]; omega
    go_enter Tryz.func16, Tryz.ntmps16
    go_wp2_with fail
    go_ret
    exact ⟨ret_b HZ.out.symm, below_then (below_alloc _ _) (below_alloc _ _)⟩
  have HLEN := Lib.hid hlen
  rw [hlen]
  clear hlen
  go_enter Tryz.func16, Tryz.ntmps16
  go_wp2_with fail
  generalize hW : (w.alloc _).alloc _ = W
  obtain ⟨r0, r1, hz, hb0⟩ := start2g w _ _ hW
  have c0 := (row1 r0).1
  have c1 := (row1 r1).1
  have HC0 := Lib.hid (And.intro (row1 r0).1 (row1 r1).1)
  have HLT0 := Lib.hid (show w.heap.size + 1 < W.heap.size by omega)
  have HB0 := Lib.hid hb0
  clear hW r0 r1 hz hb0
  go_loopw [5] (fun i wr => ∃ k : Nat, k ≤ l2.length ∧ i = .int .i64 k ∧ l1.take k = l2.take k ∧ Below W.heap.size W wr) (fun i _ => l2.length - (intOf i).toNat)
  case atStart => exact ⟨0, Nat.zero_le _, rfl, by simp, Below.refl _ _⟩
  case round =>
    obtain ⟨k, hk, rfl, htk, hb⟩ := hrel
    have x0 := (hb.cell (p := ⟨w.heap.size, 0, none⟩) (by have := HLT0.out; show w.heap.size < _; omega)).trans HC0.out.1
    have x1 := (hb.cell (p := ⟨w.heap.size + 1, 0, none⟩) HLT0.out).trans HC0.out.2
    have HTK := Lib.hid htk
    have HBW := Lib.hid (below_then HB0.out hb)
    have HWR := Lib.hid hb
    have hWr : W.heap.size ≤ wr.heap.size := hb.size
    clear c0 c1 htk
    by_cases hlt : k < l2.length
    · have hlt1 : k < l1.length := by rw [HLEN.out]; exact hlt
      obtain ⟨b, off, cap', us, e1, _, hbB, hat, hu⟩ := Cd.sl_at (HR1.out wr HBW.out) hlt1
      rw [HLEN.out] at e1
      injection e1 with e1 e2 e3
      subst e1 e3
      obtain ⟨x, y, z, rfl⟩ := len_list (tabC.len hu)
      have p0 := hat 0 (by simp)
      have p1 := hat 1 (by simp)
      have p2 := hat 2 (by simp)
      obtain ⟨b', off', cap', us, e1, _, hbB', hat', hu'⟩ := Cd.sl_at (HR2.out wr HBW.out) hlt
      injection e1 with e1 e2 e3
      subst e1 e3
      obtain ⟨x', y', z', rfl⟩ := len_list (tabC.len hu')
      have q0 := hat' 0 (by simp)
      have q1 := hat' 1 (by simp)
      have q2 := hat' 2 (by simp)
      simp only [List.getElem_cons_zero, List.getElem_cons_succ, Nat.add_zero, show tabC.n = 3 from rfl] at p0 p1 p2 q0 q1 q2
      have HE := Lib.hid (fun w' (hq : LaterD wr w') => eqt_elem [x, y, z] [x', y', z'] l1[k] l2[k] _ _ w' (Cd.later hu hq) (Cd.later hu' hq))
      have HALL := Lib.hid (And.intro (And.intro x0 x1) (And.intro (And.intro p0 (And.intro p1 p2)) (And.intro q0 (And.intro q1 q2))))
      have HLTS := Lib.hid (show w.heap.size + 1 < wr.heap.size ∧ b < wr.heap.size ∧ b' < wr.heap.size from ⟨by have := HLT0.out; omega, hbB, hbB'⟩)
      have i1 : (0 : Int) ≤ (k : Int) := by omega
      have i2 : (k : Int) < (l2.length : Int) := by omega
      have kk : LaterD wr wr.drew := (Below.refl _ wr).drew
      by_cases hT : l1[k] = l2[k]
      · rw [show decide (l1[k] = l2[k]) = true from decide_eq_true hT] at HE
        have HT := Lib.hid (take_eq hlt1 hlt HTK.out hT)
        clear hu hu' hat hat' hb hbB hbB' hT e2 hlt1
        go_wp2_with fail
        go_region_held3 (fun wx => wx.cell? ⟨w.heap.size, 0, none⟩ = some (.slice (some ⟨b, off, none⟩) l2.length cap1) ∧ wx.cell? ⟨w.heap.size + 1, 0, none⟩ = some (.slice (some ⟨b', off', none⟩) l2.length cap2) ∧ wx.cell? ⟨b, off + k * 3, none⟩ = some x ∧ wx.cell? ⟨b, off + k * 3 + 1, none⟩ = some y ∧ wx.cell? ⟨b, off + k * 3 + 2, none⟩ = some z ∧ wx.cell? ⟨b', off' + k * 3, none⟩ = some x' ∧ wx.cell? ⟨b', off' + k * 3 + 1, none⟩ = some y' ∧ wx.cell? ⟨b', off' + k * 3 + 2, none⟩ = some z' ∧ LaterD wr wx)
          ((refine ⟨?_, ?_, ?_, ?_, ?_, ?_, ?_, ?_, ?_⟩ <;> first | assumption | (simp [*]; done)))
          (first | (go_at_call 42; refine (HE.out _ (by assumption)).mono ?_; rintro e wq ⟨rfl, hbq⟩; (have kk : LaterD wr wq := below_then (by assumption) hbq); (have n0 := (Below.cell kk (p := ⟨w.heap.size, 0, none⟩) (by have := HLTS.out.1; show w.heap.size < _; omega)).trans HALL.out.1.1); (have n1 := (Below.cell kk (p := ⟨w.heap.size + 1, 0, none⟩) HLTS.out.1).trans HALL.out.1.2); (have n2 := (Below.cell kk (p := ⟨b, off + k * 3, none⟩) HLTS.out.2.1).trans HALL.out.2.1.1); (have n3 := (Below.cell kk (p := ⟨b, off + k * 3 + 1, none⟩) HLTS.out.2.1).trans HALL.out.2.1.2.1); (have n4 := (Below.cell kk (p := ⟨b, off + k * 3 + 2, none⟩) HLTS.out.2.1).trans HALL.out.2.1.2.2); (have n5 := (Below.cell kk (p := ⟨b', off' + k * 3, none⟩) HLTS.out.2.2).trans HALL.out.2.2.1); (have n6 := (Below.cell kk (p := ⟨b', off' + k * 3 + 1, none⟩) HLTS.out.2.2).trans HALL.out.2.2.2.1); (have n7 := (Below.cell kk (p := ⟨b', off' + k * 3 + 2, none⟩) HLTS.out.2.2).trans HALL.out.2.2.2.2); clear hbq))
        all_goals
          have HBQ := Lib.hid (below_then HBW.out (show Below wr.heap.size wr wq by assumption))
          have HBQ2 := Lib.hid (below_then HWR.out (show Below wr.heap.size wr wq by assumption))
          go_wp2_with fail
          go_roundw
          case rel => exact ⟨k + 1, by omega, by go_num, HT.out, HBQ2.out⟩
          case measure => simp [intOf]; omega
      · rw [show decide (l1[k] = l2[k]) = false from decide_eq_false hT] at HE
        have HZ := Lib.hid (show decide (l1 = l2) = false from decide_eq_false (take_ne hlt1 hlt hT))
        clear hu hu' hat hat' hb hbB hbB' hT e2 hlt1
        go_wp2_with fail
        go_region_held3 (fun wx => wx.cell? ⟨w.heap.size, 0, none⟩ = some (.slice (some ⟨b, off, none⟩) l2.length cap1) ∧ wx.cell? ⟨w.heap.size + 1, 0, none⟩ = some (.slice (some ⟨b', off', none⟩) l2.length cap2) ∧ wx.cell? ⟨b, off + k * 3, none⟩ = some x ∧ wx.cell? ⟨b, off + k * 3 + 1, none⟩ = some y ∧ wx.cell? ⟨b, off + k * 3 + 2, none⟩ = some z ∧ wx.cell? ⟨b', off' + k * 3, none⟩ = some x' ∧ wx.cell? ⟨b', off' + k * 3 + 1, none⟩ = some y' ∧ wx.cell? ⟨b', off' + k * 3 + 2, none⟩ = some z' ∧ LaterD wr wx)
          ((refine ⟨?_, ?_, ?_, ?_, ?_, ?_, ?_, ?_, ?_⟩ <;> first | assumption | (simp [*]; done)))
          (first | (go_at_call 42; refine (HE.out _ (by assumption)).mono ?_; rintro e wq ⟨rfl, hbq⟩; (have kk : LaterD wr wq := below_then (by assumption) hbq); (have n0 := (Below.cell kk (p := ⟨w.heap.size, 0, none⟩) (by have := HLTS.out.1; show w.heap.size < _; omega)).trans HALL.out.1.1); (have n1 := (Below.cell kk (p := ⟨w.heap.size + 1, 0, none⟩) HLTS.out.1).trans HALL.out.1.2); (have n2 := (Below.cell kk (p := ⟨b, off + k * 3, none⟩) HLTS.out.2.1).trans HALL.out.2.1.1); (have n3 := (Below.cell kk (p := ⟨b, off + k * 3 + 1, none⟩) HLTS.out.2.1).trans HALL.out.2.1.2.1); (have n4 := (Below.cell kk (p := ⟨b, off + k * 3 + 2, none⟩) HLTS.out.2.1).trans HALL.out.2.1.2.2); (have n5 := (Below.cell kk (p := ⟨b', off' + k * 3, none⟩) HLTS.out.2.2).trans HALL.out.2.2.1); (have n6 := (Below.cell kk (p := ⟨b', off' + k * 3 + 1, none⟩) HLTS.out.2.2).trans HALL.out.2.2.2.1); (have n7 := (Below.cell kk (p := ⟨b', off' + k * 3 + 2, none⟩) HLTS.out.2.2).trans HALL.out.2.2.2.2); clear hbq))
        all_goals
          have HBQ := Lib.hid (below_then HBW.out (show Below wr.heap.size wr wq by assumption))
          go_wp2_with fail
          go_ret
          exact ⟨ret_b HZ.out.symm, HBQ.out⟩
    · have ek : k = l2.length := by omega
      subst ek
      have HZ := Lib.hid (show decide (l1 = l2) = true from decide_eq_true (by
        have h := HTK.out
        rw [List.take_length, List.take_of_length_le (by rw [HLEN.out]; exact Nat.le_refl _)] at h
        exact h))
      go_wp2_with fail
      go_ret
      exact ⟨ret_b HZ.out.symm, HBW.out⟩
end Go.Proofs.YtinchhahcheadaaGreat.DbSpec

namespace Go.Proofs.YtinchhahcheadaaGreat.RegH
open Go

def nth : List Oper → Nat → Option Oper
  | [], _ => none
  | o :: _, 0 => some o
  | _ :: l, n + 1 => nth l n
theorem nth_eq : ∀ (l : List Oper) (i : Nat), nth l i = l.toArray[i]?
  | [], _ => by simp [nth]
  | _ :: _, 0 => by simp [nth]
  | _ :: l, n + 1 => by
    rw [nth, nth_eq l n]
    simp
variable {P : Program} {Q : Exit → Act → World → Prop} {md : Region.Mode} {S : World → Prop} {L : List Oper}
theorem takeH {i : Nat} {oi : Oper} {v : Value} {fuel : Nat} {listed : Array Bool} {a : Act} {w : World} (hi : nth L i = some oi)
    (hs : Region.noSelect L.toArray = true) (hf : Region.free md L.toArray listed i = true) (hr : (Region.ready md L.toArray listed).contains i = true)
    (hQ : ∀ c a w, Q (.panic c) (a.put oi.dst v) w → Q (.panic c) a w) (hy : YieldsIf P L.toArray S oi v a) (hS : S w)
    (h : wpAnyH P md L.toArray Q S fuel (listed.setIfInBounds i true) (a.put oi.dst v) w) : wpAnyH P md L.toArray Q S (fuel + 1) listed a w :=
  wpAnyH_take ((nth_eq L i).symm.trans hi) hs hf hr hQ hy hS h
theorem consH {fuel : Nat} {listed : Array Bool} {a : Act} {w : World} {i : Nat} {o : Oper} (ho : nth L i = some o) (hr : Region.ready md L.toArray listed = [i])
    (h : ∀ K' : Act → World → Prop, Shut (∀ a w, S w → (S w → wpAnyH P md L.toArray Q S fuel (listed.setIfInBounds i true) a w) → K' a w) → if Region.wanted o (yielded L.toArray a.tmps) = true then Oper.wp P o a w K' Q else K' (a.put o.dst undef) w) :
    wpAnyH P md L.toArray Q S (fuel + 1) listed a w :=
  wpAnyH_ready hr (by simp) (AllReadyH.cons ((nth_eq L i).symm.trans ho) h AllReadyH.nil)
theorem consH2 {fuel : Nat} {listed : Array Bool} {a : Act} {w : World} {i j : Nat} {o o2 : Oper} (ho : nth L i = some o) (ho2 : nth L j = some o2) (hr : Region.ready md L.toArray listed = [i, j])
    (h : ∀ K' : Act → World → Prop, Shut (∀ a w, S w → (S w → wpAnyH P md L.toArray Q S fuel (listed.setIfInBounds i true) a w) → K' a w) → if Region.wanted o (yielded L.toArray a.tmps) = true then Oper.wp P o a w K' Q else K' (a.put o.dst undef) w)
    (h2 : ∀ K' : Act → World → Prop, Shut (∀ a w, S w → (S w → wpAnyH P md L.toArray Q S fuel (listed.setIfInBounds j true) a w) → K' a w) → if Region.wanted o2 (yielded L.toArray a.tmps) = true then Oper.wp P o2 a w K' Q else K' (a.put o2.dst undef) w) :
    wpAnyH P md L.toArray Q S (fuel + 1) listed a w :=
  wpAnyH_ready hr (by simp) (AllReadyH.cons ((nth_eq L i).symm.trans ho) h (AllReadyH.cons ((nth_eq L j).symm.trans ho2) h2 AllReadyH.nil))
end Go.Proofs.YtinchhahcheadaaGreat.RegH

namespace Go.Proofs.YtinchhahcheadaaGreat.DbSpec
open Go Go.RowKit Byt Ints IntsLaw Cd Rows2 Tab SlMath TabOpen TabElem SlTable Db TabSpec DbMath

theorem val_elem (us : List Value) (T : T3) (S : Nat → Prop) (w : World) (hu : tabC.rd w S us T) :
    Calls Tryz.prog 57 #[.agg us.toArray] w fun e w' => e = .returned (.bool (okT T)) ∧ Below w.heap.size w w' := by
  obtain ⟨u, rfl, _, _, h3⟩ := tab_cells hu
  exact spec_valid T.1 T.2.1 u T.2.2 S w h3
theorem name_cell {w : World} {S : Nat → Prop} {x y z : Value} {T : T3} (h : tabC.rd w S [x, y, z] T) : x = .string T.1 := by
  obtain ⟨u, e, _⟩ := tab_cells h
  injection e
theorem drewD {w w' : World} (h : LaterD w w') : LaterD w w'.drew := Below.drew h
set_option maxRecDepth 100000 in
set_option maxHeartbeats 1600000 in
theorem spec_dbok (u : Value) (l : List T3) (S : Nat → Prop) (w : World) (h1 : tabsC.rd w S [u] l) :
    Calls Tryz.prog 55 #[.agg #[u]] w fun e w' => e = .returned (.bool (dbOk l)) ∧ Below w.heap.size w w' := by
  have HR1 := Lib.hid (fun w' (hb : Below w.heap.size w w') => Cd.later h1 hb)
  obtain ⟨a1, cap1, rfl, hl1⟩ := Cd.sl_form h1
  clear h1
  go_enter Tryz.func55, Tryz.ntmps55
  go_wp2_with fail
  generalize hW : w.alloc _ = W
  obtain ⟨r0, hz, hb0⟩ := start1 w _ hW
  have c0 := (row1 r0).1
  have HC0 := Lib.hid (row1 r0).1
  have HLT0 := Lib.hid (show w.heap.size < W.heap.size by omega)
  have HB0 := Lib.hid hb0
  clear hW r0 hz hb0
  go_loopw [3] (fun i wr => ∃ k : Nat, k ≤ l.length ∧ i = .int .i64 k ∧ (∀ T ∈ l.take k, okT T = true) ∧ AscP (l.take k) ∧ Below W.heap.size W wr) (fun i _ => l.length - (intOf i).toNat)
  case atStart => exact ⟨0, Nat.zero_le _, rfl, by simp, by simp [AscP], Below.refl _ _⟩
  case round =>
    obtain ⟨k, hk, rfl, hok, has, hb⟩ := hrel
    have x0 := (hb.cell (p := ⟨w.heap.size, 0, none⟩) HLT0.out).trans HC0.out
    have HOK := Lib.hid hok
    have HAS := Lib.hid has
    have HBW := Lib.hid (below_then HB0.out hb)
    have HWR := Lib.hid hb
    have hWr : W.heap.size ≤ wr.heap.size := hb.size
    clear c0 hok has
    by_cases hlt : k < l.length
    · obtain ⟨b, off, cap', us, e1, _, hbB, hat, hu⟩ := Cd.sl_at (HR1.out wr HBW.out) hlt
      injection e1 with e1 e2 e3
      subst e1 e3
      obtain ⟨x, y, z, rfl⟩ := len_list (tabC.len hu)
      have p0 := hat 0 (by simp)
      have p1 := hat 1 (by simp)
      have p2 := hat 2 (by simp)
      simp only [List.getElem_cons_zero, List.getElem_cons_succ, Nat.add_zero, show tabC.n = 3 from rfl] at p0 p1 p2
      obtain ⟨nk, hnk⟩ : ∃ nk, nk = (l[k]).1 := ⟨_, rfl⟩
      obtain rfl : x = .string nk := by rw [hnk]; exact name_cell hu
      have HNK := Lib.hid hnk
      have HE := Lib.hid (fun w' (hq : LaterD wr w') => val_elem [.string nk, y, z] l[k] _ w' (Cd.later hu hq))
      have HALL := Lib.hid (And.intro x0 (And.intro p0 (And.intro p1 p2)))
      have HLTS := Lib.hid (show w.heap.size < wr.heap.size ∧ b < wr.heap.size from ⟨by have := HLT0.out; omega, hbB⟩)
      have i1 : (0 : Int) ≤ (k : Int) := by omega
      have i2 : (k : Int) < (l.length : Int) := by omega
      have kk : LaterD wr wr.drew := drewD (Below.refl _ wr)
      clear hnk hu hat hb hbB e2
      cases hT : okT l[k]
      · rw [hT] at HE
        have HZ := Lib.hid (show dbOk l = false from dbOk_no.2 fun q => by have := q.2.1 _ (List.getElem_mem hlt); rw [hT] at this; cases this)
        clear hT
        go_wp2_with fail
        refine wp_region_held_drew (S := fun wx => wx.cell? ⟨w.heap.size, 0, none⟩ = some (.slice (some ⟨b, off, none⟩) l.length cap1) ∧ wx.cell? ⟨b, off + k * 3, none⟩ = some (.string nk) ∧ wx.cell? ⟨b, off + k * 3 + 1, none⟩ = some y ∧ wx.cell? ⟨b, off + k * 3 + 2, none⟩ = some z ∧ LaterD wr wx) (by kernel_rfl) ?_ (fun hHeld => ?_)
        · (refine ⟨?_, ?_, ?_, ?_, ?_⟩ <;> first | assumption | (simp [*]; done))
        refine RegH.takeH (i := 0) (v := ?_) rfl (by kernel_rfl) (by kernel_rfl) (by kernel_rfl) (fun _ _ _ h => h) (Or.inl ⟨by rfl, ?_⟩) (by assumption) ?_
        rotate_left
        · (intro wS hSw; (try dsimp only at hSw); go_simp; try (with_reducible rfl))
        try simp only [Act.put, List.setIfInBounds_toArray, List.set_cons_zero, List.set_cons_succ]
        refine RegH.takeH (i := 1) (v := ?_) rfl (by kernel_rfl) (by kernel_rfl) (by kernel_rfl) (fun _ _ _ h => h) (Or.inl ⟨by rfl, ?_⟩) (by assumption) ?_
        rotate_left
        · (intro wS hSw; (try dsimp only at hSw); go_simp; try (with_reducible rfl))
        try simp only [Act.put, List.setIfInBounds_toArray, List.set_cons_zero, List.set_cons_succ]
        refine RegH.takeH (i := 2) (v := ?_) rfl (by kernel_rfl) (by kernel_rfl) (by kernel_rfl) (fun _ _ _ h => h) (Or.inl ⟨by rfl, ?_⟩) (by assumption) ?_
        rotate_left
        · (intro wS hSw; (try dsimp only at hSw); go_simp; try (with_reducible rfl))
        try simp only [Act.put, List.setIfInBounds_toArray, List.set_cons_zero, List.set_cons_succ]
        refine RegH.takeH (i := 3) (v := ?_) rfl (by kernel_rfl) (by kernel_rfl) (by kernel_rfl) (fun _ _ _ h => h) (Or.inl ⟨by rfl, ?_⟩) (by assumption) ?_
        rotate_left
        · (intro wS hSw; (try dsimp only at hSw); go_simp; try (with_reducible rfl))
        try simp only [Act.put, List.setIfInBounds_toArray, List.set_cons_zero, List.set_cons_succ]
        refine RegH.takeH (i := 4) (v := ?_) rfl (by kernel_rfl) (by kernel_rfl) (by kernel_rfl) (fun _ _ _ h => h) (Or.inl ⟨by rfl, ?_⟩) (by assumption) ?_
        rotate_left
        · (intro wS hSw; (try dsimp only at hSw); go_simp; try (with_reducible rfl))
        try simp only [Act.put, List.setIfInBounds_toArray, List.set_cons_zero, List.set_cons_succ]
        refine RegH.consH (i := 5) rfl (by kernel_rfl) (fun K hK => ?_)
        go_simp
        go_at_call 57
        refine (HE.out _ kk).mono ?_
        rintro e wq ⟨rfl, hbq⟩
        have kq : LaterD wr wq := below_then (show Below wr.heap.size wr wr.drew from kk) hbq
        have n0 := (Below.cell kq (p := ⟨w.heap.size, 0, none⟩) HLTS.out.1).trans HALL.out.1
        have n1 := (Below.cell kq (p := ⟨b, off + k * 3, none⟩) HLTS.out.2).trans HALL.out.2.1
        have n2 := (Below.cell kq (p := ⟨b, off + k * 3 + 1, none⟩) HLTS.out.2).trans HALL.out.2.2.1
        have n3 := (Below.cell kq (p := ⟨b, off + k * 3 + 2, none⟩) HLTS.out.2).trans HALL.out.2.2.2
        clear hbq
        go_wp2_with fail
        refine hK.out _ _ ?_ (fun hHeld => ?_)
        · (refine ⟨?_, ?_, ?_, ?_, ?_⟩ <;> first | assumption | (simp [*]; done))
        clear hK K
        try simp only [Act.put, List.setIfInBounds_toArray, List.set_cons_zero, List.set_cons_succ]
        refine RegH.takeH (i := 6) (v := ?_) rfl (by kernel_rfl) (by kernel_rfl) (by kernel_rfl) (fun _ _ _ h => h) (Or.inl ⟨by rfl, ?_⟩) (by assumption) ?_
        rotate_left
        · (intro wS hSw; (try dsimp only at hSw); go_simp; try (with_reducible rfl))
        try simp only [Act.put, List.setIfInBounds_toArray, List.set_cons_zero, List.set_cons_succ]
        refine RegH.takeH (i := 7) (v := ?_) rfl (by kernel_rfl) (by kernel_rfl) (by kernel_rfl) (fun _ _ _ h => h) (Or.inl ⟨by rfl, ?_⟩) (by assumption) ?_
        rotate_left
        · (intro wS hSw; (try dsimp only at hSw); go_simp; try (with_reducible rfl))
        try simp only [Act.put, List.setIfInBounds_toArray, List.set_cons_zero, List.set_cons_succ]
        refine RegH.takeH (i := 8) rfl (by kernel_rfl) (by kernel_rfl) (by kernel_rfl) (fun _ _ _ h => h) (Or.inr ⟨by rfl, rfl⟩) (by assumption) ?_
        try simp only [Act.put, List.setIfInBounds_toArray, List.set_cons_zero, List.set_cons_succ]
        refine RegH.takeH (i := 9) rfl (by kernel_rfl) (by kernel_rfl) (by kernel_rfl) (fun _ _ _ h => h) (Or.inr ⟨by rfl, rfl⟩) (by assumption) ?_
        try simp only [Act.put, List.setIfInBounds_toArray, List.set_cons_zero, List.set_cons_succ]
        refine RegH.takeH (i := 10) rfl (by kernel_rfl) (by kernel_rfl) (by kernel_rfl) (fun _ _ _ h => h) (Or.inr ⟨by rfl, rfl⟩) (by assumption) ?_
        try simp only [Act.put, List.setIfInBounds_toArray, List.set_cons_zero, List.set_cons_succ]
        refine RegH.takeH (i := 11) rfl (by kernel_rfl) (by kernel_rfl) (by kernel_rfl) (fun _ _ _ h => h) (Or.inr ⟨by rfl, rfl⟩) (by assumption) ?_
        try simp only [Act.put, List.setIfInBounds_toArray, List.set_cons_zero, List.set_cons_succ]
        refine RegH.takeH (i := 12) rfl (by kernel_rfl) (by kernel_rfl) (by kernel_rfl) (fun _ _ _ h => h) (Or.inr ⟨by rfl, rfl⟩) (by assumption) ?_
        try simp only [Act.put, List.setIfInBounds_toArray, List.set_cons_zero, List.set_cons_succ]
        refine RegH.takeH (i := 13) rfl (by kernel_rfl) (by kernel_rfl) (by kernel_rfl) (fun _ _ _ h => h) (Or.inr ⟨by rfl, rfl⟩) (by assumption) ?_
        try simp only [Act.put, List.setIfInBounds_toArray, List.set_cons_zero, List.set_cons_succ]
        refine RegH.takeH (i := 14) rfl (by kernel_rfl) (by kernel_rfl) (by kernel_rfl) (fun _ _ _ h => h) (Or.inr ⟨by rfl, rfl⟩) (by assumption) ?_
        try simp only [Act.put, List.setIfInBounds_toArray, List.set_cons_zero, List.set_cons_succ]
        refine RegH.takeH (i := 15) rfl (by kernel_rfl) (by kernel_rfl) (by kernel_rfl) (fun _ _ _ h => h) (Or.inr ⟨by rfl, rfl⟩) (by assumption) ?_
        try simp only [Act.put, List.setIfInBounds_toArray, List.set_cons_zero, List.set_cons_succ]
        refine RegH.takeH (i := 16) rfl (by kernel_rfl) (by kernel_rfl) (by kernel_rfl) (fun _ _ _ h => h) (Or.inr ⟨by rfl, rfl⟩) (by assumption) ?_
        try simp only [Act.put, List.setIfInBounds_toArray, List.set_cons_zero, List.set_cons_succ]
        refine RegH.takeH (i := 17) rfl (by kernel_rfl) (by kernel_rfl) (by kernel_rfl) (fun _ _ _ h => h) (Or.inr ⟨by rfl, rfl⟩) (by assumption) ?_
        try simp only [Act.put, List.setIfInBounds_toArray, List.set_cons_zero, List.set_cons_succ]
        refine RegH.takeH (i := 18) rfl (by kernel_rfl) (by kernel_rfl) (by kernel_rfl) (fun _ _ _ h => h) (Or.inr ⟨by rfl, rfl⟩) (by assumption) ?_
        try simp only [Act.put, List.setIfInBounds_toArray, List.set_cons_zero, List.set_cons_succ]
        refine RegH.takeH (i := 19) rfl (by kernel_rfl) (by kernel_rfl) (by kernel_rfl) (fun _ _ _ h => h) (Or.inr ⟨by rfl, rfl⟩) (by assumption) ?_
        try simp only [Act.put, List.setIfInBounds_toArray, List.set_cons_zero, List.set_cons_succ]
        refine RegH.takeH (i := 20) rfl (by kernel_rfl) (by kernel_rfl) (by kernel_rfl) (fun _ _ _ h => h) (Or.inr ⟨by rfl, rfl⟩) (by assumption) ?_
        try simp only [Act.put, List.setIfInBounds_toArray, List.set_cons_zero, List.set_cons_succ]
        refine RegH.takeH (i := 21) rfl (by kernel_rfl) (by kernel_rfl) (by kernel_rfl) (fun _ _ _ h => h) (Or.inr ⟨by rfl, rfl⟩) (by assumption) ?_
        try simp only [Act.put, List.setIfInBounds_toArray, List.set_cons_zero, List.set_cons_succ]
        refine RegH.takeH (i := 22) rfl (by kernel_rfl) (by kernel_rfl) (by kernel_rfl) (fun _ _ _ h => h) (Or.inr ⟨by rfl, rfl⟩) (by assumption) ?_
        try simp only [Act.put, List.setIfInBounds_toArray, List.set_cons_zero, List.set_cons_succ]
        refine RegH.takeH (i := 23) rfl (by kernel_rfl) (by kernel_rfl) (by kernel_rfl) (fun _ _ _ h => h) (Or.inr ⟨by rfl, rfl⟩) (by assumption) ?_
        try simp only [Act.put, List.setIfInBounds_toArray, List.set_cons_zero, List.set_cons_succ]
        refine RegH.takeH (i := 24) rfl (by kernel_rfl) (by kernel_rfl) (by kernel_rfl) (fun _ _ _ h => h) (Or.inr ⟨by rfl, rfl⟩) (by assumption) ?_
        try simp only [Act.put, List.setIfInBounds_toArray, List.set_cons_zero, List.set_cons_succ]
        refine RegH.takeH (i := 25) rfl (by kernel_rfl) (by kernel_rfl) (by kernel_rfl) (fun _ _ _ h => h) (Or.inr ⟨by rfl, rfl⟩) (by assumption) ?_
        try simp only [Act.put, List.setIfInBounds_toArray, List.set_cons_zero, List.set_cons_succ]
        refine RegH.takeH (i := 26) (v := ?_) rfl (by kernel_rfl) (by kernel_rfl) (by kernel_rfl) (fun _ _ _ h => h) (Or.inl ⟨by rfl, ?_⟩) (by assumption) ?_
        rotate_left
        · (intro wS hSw; (try dsimp only at hSw); go_simp; try (with_reducible rfl))
        try simp only [Act.put, List.setIfInBounds_toArray, List.set_cons_zero, List.set_cons_succ]
        refine wpAnyH_done (by kernel_rfl) ?_ _
        go_wp2_with fail
        go_ret
        exact ⟨ret_b HZ.out.symm, below_then HBW.out (show Below wr.heap.size wr wq from kq)⟩
      · rw [hT] at HE
        have HN1 := Lib.hid (ok_more HOK.out hlt hT)
        clear hT
        by_cases hk0 : k = 0
        · have hg1 : ((0 : Int) < (k : Int)) = False := by simp only [eq_iff_iff, iff_false]; omega
          have hg2 : (0 < k) = False := by simp only [eq_iff_iff, iff_false]; omega
          have HN2 := Lib.hid (asc_more HAS.out hlt (fun j e _ => by omega))
          clear hk0
          go_wp2_with fail
          refine wp_region_held_drew (S := fun wx => wx.cell? ⟨w.heap.size, 0, none⟩ = some (.slice (some ⟨b, off, none⟩) l.length cap1) ∧ wx.cell? ⟨b, off + k * 3, none⟩ = some (.string nk) ∧ wx.cell? ⟨b, off + k * 3 + 1, none⟩ = some y ∧ wx.cell? ⟨b, off + k * 3 + 2, none⟩ = some z ∧ LaterD wr wx) (by kernel_rfl) ?_ (fun hHeld => ?_)
          · (refine ⟨?_, ?_, ?_, ?_, ?_⟩ <;> first | assumption | (simp [*]; done))
          refine RegH.takeH (i := 0) (v := ?_) rfl (by kernel_rfl) (by kernel_rfl) (by kernel_rfl) (fun _ _ _ h => h) (Or.inl ⟨by rfl, ?_⟩) (by assumption) ?_
          rotate_left
          · (intro wS hSw; (try dsimp only at hSw); go_simp; try (with_reducible rfl))
          try simp only [Act.put, List.setIfInBounds_toArray, List.set_cons_zero, List.set_cons_succ]
          refine RegH.takeH (i := 1) (v := ?_) rfl (by kernel_rfl) (by kernel_rfl) (by kernel_rfl) (fun _ _ _ h => h) (Or.inl ⟨by rfl, ?_⟩) (by assumption) ?_
          rotate_left
          · (intro wS hSw; (try dsimp only at hSw); go_simp; try (with_reducible rfl))
          try simp only [Act.put, List.setIfInBounds_toArray, List.set_cons_zero, List.set_cons_succ]
          refine RegH.takeH (i := 2) (v := ?_) rfl (by kernel_rfl) (by kernel_rfl) (by kernel_rfl) (fun _ _ _ h => h) (Or.inl ⟨by rfl, ?_⟩) (by assumption) ?_
          rotate_left
          · (intro wS hSw; (try dsimp only at hSw); go_simp; try (with_reducible rfl))
          try simp only [Act.put, List.setIfInBounds_toArray, List.set_cons_zero, List.set_cons_succ]
          refine RegH.takeH (i := 3) (v := ?_) rfl (by kernel_rfl) (by kernel_rfl) (by kernel_rfl) (fun _ _ _ h => h) (Or.inl ⟨by rfl, ?_⟩) (by assumption) ?_
          rotate_left
          · (intro wS hSw; (try dsimp only at hSw); go_simp; try (with_reducible rfl))
          try simp only [Act.put, List.setIfInBounds_toArray, List.set_cons_zero, List.set_cons_succ]
          refine RegH.takeH (i := 4) (v := ?_) rfl (by kernel_rfl) (by kernel_rfl) (by kernel_rfl) (fun _ _ _ h => h) (Or.inl ⟨by rfl, ?_⟩) (by assumption) ?_
          rotate_left
          · (intro wS hSw; (try dsimp only at hSw); go_simp; try (with_reducible rfl))
          try simp only [Act.put, List.setIfInBounds_toArray, List.set_cons_zero, List.set_cons_succ]
          refine RegH.consH (i := 5) rfl (by kernel_rfl) (fun K hK => ?_)
          go_simp
          go_at_call 57
          refine (HE.out _ kk).mono ?_
          rintro e wq ⟨rfl, hbq⟩
          have kq : LaterD wr wq := below_then (show Below wr.heap.size wr wr.drew from kk) hbq
          have n0 := (Below.cell kq (p := ⟨w.heap.size, 0, none⟩) HLTS.out.1).trans HALL.out.1
          have n1 := (Below.cell kq (p := ⟨b, off + k * 3, none⟩) HLTS.out.2).trans HALL.out.2.1
          have n2 := (Below.cell kq (p := ⟨b, off + k * 3 + 1, none⟩) HLTS.out.2).trans HALL.out.2.2.1
          have n3 := (Below.cell kq (p := ⟨b, off + k * 3 + 2, none⟩) HLTS.out.2).trans HALL.out.2.2.2
          clear hbq
          go_wp2_with fail
          refine hK.out _ _ ?_ (fun hHeld => ?_)
          · (refine ⟨?_, ?_, ?_, ?_, ?_⟩ <;> first | assumption | (simp [*]; done))
          clear hK K
          try simp only [Act.put, List.setIfInBounds_toArray, List.set_cons_zero, List.set_cons_succ]
          refine RegH.takeH (i := 6) (v := ?_) rfl (by kernel_rfl) (by kernel_rfl) (by kernel_rfl) (fun _ _ _ h => h) (Or.inl ⟨by rfl, ?_⟩) (by assumption) ?_
          rotate_left
          · (intro wS hSw; (try dsimp only at hSw); go_simp; try (with_reducible rfl))
          try simp only [Act.put, List.setIfInBounds_toArray, List.set_cons_zero, List.set_cons_succ]
          refine RegH.takeH (i := 7) (v := ?_) rfl (by kernel_rfl) (by kernel_rfl) (by kernel_rfl) (fun _ _ _ h => h) (Or.inl ⟨by rfl, ?_⟩) (by assumption) ?_
          rotate_left
          · (intro wS hSw; (try dsimp only at hSw); go_simp; try (with_reducible rfl))
          try simp only [Act.put, List.setIfInBounds_toArray, List.set_cons_zero, List.set_cons_succ]
          refine RegH.takeH (i := 8) (v := ?_) rfl (by kernel_rfl) (by kernel_rfl) (by kernel_rfl) (fun _ _ _ h => h) (Or.inl ⟨by rfl, ?_⟩) (by assumption) ?_
          rotate_left
          · (intro wS hSw; (try dsimp only at hSw); go_simp; try (with_reducible rfl))
          try simp only [Act.put, List.setIfInBounds_toArray, List.set_cons_zero, List.set_cons_succ]
          refine RegH.takeH (i := 9) (v := ?_) rfl (by kernel_rfl) (by kernel_rfl) (by kernel_rfl) (fun _ _ _ h => h) (Or.inl ⟨by rfl, ?_⟩) (by assumption) ?_
          rotate_left
          · (intro wS hSw; (try dsimp only at hSw); go_simp; try (with_reducible rfl))
          try simp only [Act.put, List.setIfInBounds_toArray, List.set_cons_zero, List.set_cons_succ]
          refine RegH.takeH (i := 10) (v := ?_) rfl (by kernel_rfl) (by kernel_rfl) (by kernel_rfl) (fun _ _ _ h => h) (Or.inl ⟨by rfl, ?_⟩) (by assumption) ?_
          rotate_left
          · (intro wS hSw; (try dsimp only at hSw); go_simp; try (with_reducible rfl))
          try simp only [Act.put, List.setIfInBounds_toArray, List.set_cons_zero, List.set_cons_succ]
          refine RegH.takeH (i := 11) rfl (by kernel_rfl) (by kernel_rfl) (by kernel_rfl) (fun _ _ _ h => h) (Or.inr ⟨by rfl, rfl⟩) (by assumption) ?_
          try simp only [Act.put, List.setIfInBounds_toArray, List.set_cons_zero, List.set_cons_succ]
          refine RegH.takeH (i := 12) rfl (by kernel_rfl) (by kernel_rfl) (by kernel_rfl) (fun _ _ _ h => h) (Or.inr ⟨by rfl, rfl⟩) (by assumption) ?_
          try simp only [Act.put, List.setIfInBounds_toArray, List.set_cons_zero, List.set_cons_succ]
          refine RegH.takeH (i := 13) rfl (by kernel_rfl) (by kernel_rfl) (by kernel_rfl) (fun _ _ _ h => h) (Or.inr ⟨by rfl, rfl⟩) (by assumption) ?_
          try simp only [Act.put, List.setIfInBounds_toArray, List.set_cons_zero, List.set_cons_succ]
          refine RegH.takeH (i := 14) rfl (by kernel_rfl) (by kernel_rfl) (by kernel_rfl) (fun _ _ _ h => h) (Or.inr ⟨by rfl, rfl⟩) (by assumption) ?_
          try simp only [Act.put, List.setIfInBounds_toArray, List.set_cons_zero, List.set_cons_succ]
          refine RegH.takeH (i := 15) rfl (by kernel_rfl) (by kernel_rfl) (by kernel_rfl) (fun _ _ _ h => h) (Or.inr ⟨by rfl, rfl⟩) (by assumption) ?_
          try simp only [Act.put, List.setIfInBounds_toArray, List.set_cons_zero, List.set_cons_succ]
          refine RegH.takeH (i := 16) rfl (by kernel_rfl) (by kernel_rfl) (by kernel_rfl) (fun _ _ _ h => h) (Or.inr ⟨by rfl, rfl⟩) (by assumption) ?_
          try simp only [Act.put, List.setIfInBounds_toArray, List.set_cons_zero, List.set_cons_succ]
          refine RegH.takeH (i := 17) rfl (by kernel_rfl) (by kernel_rfl) (by kernel_rfl) (fun _ _ _ h => h) (Or.inr ⟨by rfl, rfl⟩) (by assumption) ?_
          try simp only [Act.put, List.setIfInBounds_toArray, List.set_cons_zero, List.set_cons_succ]
          refine RegH.takeH (i := 18) rfl (by kernel_rfl) (by kernel_rfl) (by kernel_rfl) (fun _ _ _ h => h) (Or.inr ⟨by rfl, rfl⟩) (by assumption) ?_
          try simp only [Act.put, List.setIfInBounds_toArray, List.set_cons_zero, List.set_cons_succ]
          refine RegH.takeH (i := 19) rfl (by kernel_rfl) (by kernel_rfl) (by kernel_rfl) (fun _ _ _ h => h) (Or.inr ⟨by rfl, rfl⟩) (by assumption) ?_
          try simp only [Act.put, List.setIfInBounds_toArray, List.set_cons_zero, List.set_cons_succ]
          refine RegH.takeH (i := 20) rfl (by kernel_rfl) (by kernel_rfl) (by kernel_rfl) (fun _ _ _ h => h) (Or.inr ⟨by rfl, rfl⟩) (by assumption) ?_
          try simp only [Act.put, List.setIfInBounds_toArray, List.set_cons_zero, List.set_cons_succ]
          refine RegH.takeH (i := 21) rfl (by kernel_rfl) (by kernel_rfl) (by kernel_rfl) (fun _ _ _ h => h) (Or.inr ⟨by rfl, rfl⟩) (by assumption) ?_
          try simp only [Act.put, List.setIfInBounds_toArray, List.set_cons_zero, List.set_cons_succ]
          refine RegH.takeH (i := 22) rfl (by kernel_rfl) (by kernel_rfl) (by kernel_rfl) (fun _ _ _ h => h) (Or.inr ⟨by rfl, rfl⟩) (by assumption) ?_
          try simp only [Act.put, List.setIfInBounds_toArray, List.set_cons_zero, List.set_cons_succ]
          refine RegH.takeH (i := 23) rfl (by kernel_rfl) (by kernel_rfl) (by kernel_rfl) (fun _ _ _ h => h) (Or.inr ⟨by rfl, rfl⟩) (by assumption) ?_
          try simp only [Act.put, List.setIfInBounds_toArray, List.set_cons_zero, List.set_cons_succ]
          refine RegH.takeH (i := 24) rfl (by kernel_rfl) (by kernel_rfl) (by kernel_rfl) (fun _ _ _ h => h) (Or.inr ⟨by rfl, rfl⟩) (by assumption) ?_
          try simp only [Act.put, List.setIfInBounds_toArray, List.set_cons_zero, List.set_cons_succ]
          refine RegH.takeH (i := 25) (v := ?_) rfl (by kernel_rfl) (by kernel_rfl) (by kernel_rfl) (fun _ _ _ h => h) (Or.inl ⟨by rfl, ?_⟩) (by assumption) ?_
          rotate_left
          · (intro wS hSw; (try dsimp only at hSw); go_simp; try (with_reducible rfl))
          try simp only [Act.put, List.setIfInBounds_toArray, List.set_cons_zero, List.set_cons_succ]
          refine RegH.takeH (i := 26) (v := ?_) rfl (by kernel_rfl) (by kernel_rfl) (by kernel_rfl) (fun _ _ _ h => h) (Or.inl ⟨by rfl, ?_⟩) (by assumption) ?_
          rotate_left
          · (intro wS hSw; (try dsimp only at hSw); go_simp; try (with_reducible rfl))
          try simp only [Act.put, List.setIfInBounds_toArray, List.set_cons_zero, List.set_cons_succ]
          refine wpAnyH_done (by kernel_rfl) ?_ _
          go_wp2_with fail
          go_roundw
          case rel => exact ⟨k + 1, by omega, by go_num, HN1.out, HN2.out, below_then HWR.out (show Below wr.heap.size wr wq from kq)⟩
          case measure => simp [intOf]; omega
        · have hg1 : ((0 : Int) < (k : Int)) = True := by simp only [eq_iff_iff, iff_true]; omega
          have hg2 : (0 < k) = True := by simp only [eq_iff_iff, iff_true]; omega
          obtain ⟨j, hj⟩ : ∃ j, k = j + 1 := ⟨k - 1, by omega⟩
          have hjl : j < l.length := by omega
          obtain ⟨b', off', cap'', vs, e1, _, _, hat, hu⟩ := Cd.sl_at (HR1.out wr HBW.out) hjl
          injection e1 with e1 g1 g2
          injection e1 with e1
          injection e1 with e1 e2
          subst e1 e2
          clear g1 g2
          obtain ⟨x', y', z', rfl⟩ := len_list (tabC.len hu)
          have q0 := hat 0 (by simp)
          simp only [List.getElem_cons_zero, Nat.add_zero, show tabC.n = 3 from rfl] at q0
          obtain ⟨nj, hnj⟩ : ∃ nj, nj = (l[j]).1 := ⟨_, rfl⟩
          obtain rfl : x' = .string nj := by rw [hnj]; exact name_cell hu
          have HQ := Lib.hid q0
          have HNJ := Lib.hid (show nj = (l[j]).1 from hnj)
          have j1 : (k : Int) - 1 = (j : Int) := by omega
          have j2 : IntKind.i64.wrap (j : Int) = (j : Int) := by rw [IntKind.wrap_i64]; omega
          have j3 : (0 : Int) ≤ (j : Int) := by omega
          have j4 : (j : Int) < (l.length : Int) := by omega
          have HJ := Lib.hid hj
          clear hat hu hk0 hnj hj
          cases hlt2 : Op.bytesLess nj.toList nk.toList
          · have HZ := Lib.hid (show dbOk l = false from dbOk_no.2 fun q => by have e := HJ.out; subst e; have := asc_at q.2.2 hlt; unfold ltB at this; rw [← HNJ.out, ← HNK.out, hlt2] at this; cases this)
            go_wp2_with fail
            refine wp_region_held_drew (S := fun wx => wx.cell? ⟨w.heap.size, 0, none⟩ = some (.slice (some ⟨b, off, none⟩) l.length cap1) ∧ wx.cell? ⟨b, off + k * 3, none⟩ = some (.string nk) ∧ wx.cell? ⟨b, off + k * 3 + 1, none⟩ = some y ∧ wx.cell? ⟨b, off + k * 3 + 2, none⟩ = some z ∧ wx.cell? ⟨b, off + j * 3, none⟩ = some (.string nj) ∧ LaterD wr wx) (by kernel_rfl) ?_ (fun hHeld => ?_)
            · (refine ⟨?_, ?_, ?_, ?_, ?_, ?_⟩ <;> first | assumption | (simp [*]; done))
            refine RegH.takeH (i := 0) (v := ?_) rfl (by kernel_rfl) (by kernel_rfl) (by kernel_rfl) (fun _ _ _ h => h) (Or.inl ⟨by rfl, ?_⟩) (by assumption) ?_
            rotate_left
            · (intro wS hSw; (try dsimp only at hSw); go_simp; try (with_reducible rfl))
            try simp only [Act.put, List.setIfInBounds_toArray, List.set_cons_zero, List.set_cons_succ]
            refine RegH.takeH (i := 1) (v := ?_) rfl (by kernel_rfl) (by kernel_rfl) (by kernel_rfl) (fun _ _ _ h => h) (Or.inl ⟨by rfl, ?_⟩) (by assumption) ?_
            rotate_left
            · (intro wS hSw; (try dsimp only at hSw); go_simp; try (with_reducible rfl))
            try simp only [Act.put, List.setIfInBounds_toArray, List.set_cons_zero, List.set_cons_succ]
            refine RegH.takeH (i := 2) (v := ?_) rfl (by kernel_rfl) (by kernel_rfl) (by kernel_rfl) (fun _ _ _ h => h) (Or.inl ⟨by rfl, ?_⟩) (by assumption) ?_
            rotate_left
            · (intro wS hSw; (try dsimp only at hSw); go_simp; try (with_reducible rfl))
            try simp only [Act.put, List.setIfInBounds_toArray, List.set_cons_zero, List.set_cons_succ]
            refine RegH.takeH (i := 3) (v := ?_) rfl (by kernel_rfl) (by kernel_rfl) (by kernel_rfl) (fun _ _ _ h => h) (Or.inl ⟨by rfl, ?_⟩) (by assumption) ?_
            rotate_left
            · (intro wS hSw; (try dsimp only at hSw); go_simp; try (with_reducible rfl))
            try simp only [Act.put, List.setIfInBounds_toArray, List.set_cons_zero, List.set_cons_succ]
            refine RegH.takeH (i := 4) (v := ?_) rfl (by kernel_rfl) (by kernel_rfl) (by kernel_rfl) (fun _ _ _ h => h) (Or.inl ⟨by rfl, ?_⟩) (by assumption) ?_
            rotate_left
            · (intro wS hSw; (try dsimp only at hSw); go_simp; try (with_reducible rfl))
            try simp only [Act.put, List.setIfInBounds_toArray, List.set_cons_zero, List.set_cons_succ]
            refine RegH.consH (i := 5) rfl (by kernel_rfl) (fun K hK => ?_)
            go_simp
            go_at_call 57
            refine (HE.out _ kk).mono ?_
            rintro e wq ⟨rfl, hbq⟩
            have kq : LaterD wr wq := below_then (show Below wr.heap.size wr wr.drew from kk) hbq
            have n0 := (Below.cell kq (p := ⟨w.heap.size, 0, none⟩) HLTS.out.1).trans HALL.out.1
            have n1 := (Below.cell kq (p := ⟨b, off + k * 3, none⟩) HLTS.out.2).trans HALL.out.2.1
            have n2 := (Below.cell kq (p := ⟨b, off + k * 3 + 1, none⟩) HLTS.out.2).trans HALL.out.2.2.1
            have n3 := (Below.cell kq (p := ⟨b, off + k * 3 + 2, none⟩) HLTS.out.2).trans HALL.out.2.2.2
            have n4 := (Below.cell kq (p := ⟨b, off + j * 3, none⟩) HLTS.out.2).trans HQ.out
            clear hbq
            go_wp2_with fail
            refine hK.out _ _ ?_ (fun hHeld => ?_)
            · (refine ⟨?_, ?_, ?_, ?_, ?_, ?_⟩ <;> first | assumption | (simp [*]; done))
            clear hK K
            try simp only [Act.put, List.setIfInBounds_toArray, List.set_cons_zero, List.set_cons_succ]
            refine RegH.takeH (i := 6) (v := ?_) rfl (by kernel_rfl) (by kernel_rfl) (by kernel_rfl) (fun _ _ _ h => h) (Or.inl ⟨by rfl, ?_⟩) (by assumption) ?_
            rotate_left
            · (intro wS hSw; (try dsimp only at hSw); go_simp; try (with_reducible rfl))
            try simp only [Act.put, List.setIfInBounds_toArray, List.set_cons_zero, List.set_cons_succ]
            refine RegH.takeH (i := 7) (v := ?_) rfl (by kernel_rfl) (by kernel_rfl) (by kernel_rfl) (fun _ _ _ h => h) (Or.inl ⟨by rfl, ?_⟩) (by assumption) ?_
            rotate_left
            · (intro wS hSw; (try dsimp only at hSw); go_simp; try (with_reducible rfl))
            try simp only [Act.put, List.setIfInBounds_toArray, List.set_cons_zero, List.set_cons_succ]
            refine RegH.takeH (i := 8) (v := ?_) rfl (by kernel_rfl) (by kernel_rfl) (by kernel_rfl) (fun _ _ _ h => h) (Or.inl ⟨by rfl, ?_⟩) (by assumption) ?_
            rotate_left
            · (intro wS hSw; (try dsimp only at hSw); go_simp; try (with_reducible rfl))
            try simp only [Act.put, List.setIfInBounds_toArray, List.set_cons_zero, List.set_cons_succ]
            refine RegH.takeH (i := 9) (v := ?_) rfl (by kernel_rfl) (by kernel_rfl) (by kernel_rfl) (fun _ _ _ h => h) (Or.inl ⟨by rfl, ?_⟩) (by assumption) ?_
            rotate_left
            · (intro wS hSw; (try dsimp only at hSw); go_simp; try (with_reducible rfl))
            try simp only [Act.put, List.setIfInBounds_toArray, List.set_cons_zero, List.set_cons_succ]
            refine RegH.takeH (i := 10) (v := ?_) rfl (by kernel_rfl) (by kernel_rfl) (by kernel_rfl) (fun _ _ _ h => h) (Or.inl ⟨by rfl, ?_⟩) (by assumption) ?_
            rotate_left
            · (intro wS hSw; (try dsimp only at hSw); go_simp; try (with_reducible rfl))
            try simp only [Act.put, List.setIfInBounds_toArray, List.set_cons_zero, List.set_cons_succ]
            refine RegH.takeH (i := 11) (v := ?_) rfl (by kernel_rfl) (by kernel_rfl) (by kernel_rfl) (fun _ _ _ h => h) (Or.inl ⟨by rfl, ?_⟩) (by assumption) ?_
            rotate_left
            · (intro wS hSw; (try dsimp only at hSw); go_simp; try (with_reducible rfl))
            try simp only [Act.put, List.setIfInBounds_toArray, List.set_cons_zero, List.set_cons_succ]
            refine RegH.takeH (i := 12) (v := ?_) rfl (by kernel_rfl) (by kernel_rfl) (by kernel_rfl) (fun _ _ _ h => h) (Or.inl ⟨by rfl, ?_⟩) (by assumption) ?_
            rotate_left
            · (intro wS hSw; (try dsimp only at hSw); go_simp; try (with_reducible rfl))
            try simp only [Act.put, List.setIfInBounds_toArray, List.set_cons_zero, List.set_cons_succ]
            refine RegH.takeH (i := 13) (v := ?_) rfl (by kernel_rfl) (by kernel_rfl) (by kernel_rfl) (fun _ _ _ h => h) (Or.inl ⟨by rfl, ?_⟩) (by assumption) ?_
            rotate_left
            · (intro wS hSw; (try dsimp only at hSw); go_simp; try (with_reducible rfl))
            try simp only [Act.put, List.setIfInBounds_toArray, List.set_cons_zero, List.set_cons_succ]
            refine RegH.takeH (i := 14) (v := ?_) rfl (by kernel_rfl) (by kernel_rfl) (by kernel_rfl) (fun _ _ _ h => h) (Or.inl ⟨by rfl, ?_⟩) (by assumption) ?_
            rotate_left
            · (intro wS hSw; (try dsimp only at hSw); go_simp; try (with_reducible rfl))
            try simp only [Act.put, List.setIfInBounds_toArray, List.set_cons_zero, List.set_cons_succ]
            refine RegH.takeH (i := 15) (v := ?_) rfl (by kernel_rfl) (by kernel_rfl) (by kernel_rfl) (fun _ _ _ h => h) (Or.inl ⟨by rfl, ?_⟩) (by assumption) ?_
            rotate_left
            · (intro wS hSw; (try dsimp only at hSw); go_simp; try (with_reducible rfl))
            try simp only [Act.put, List.setIfInBounds_toArray, List.set_cons_zero, List.set_cons_succ]
            refine RegH.takeH (i := 16) (v := ?_) rfl (by kernel_rfl) (by kernel_rfl) (by kernel_rfl) (fun _ _ _ h => h) (Or.inl ⟨by rfl, ?_⟩) (by assumption) ?_
            rotate_left
            · (intro wS hSw; (try dsimp only at hSw); go_simp; try (with_reducible rfl))
            try simp only [Act.put, List.setIfInBounds_toArray, List.set_cons_zero, List.set_cons_succ]
            refine RegH.takeH (i := 17) (v := ?_) rfl (by kernel_rfl) (by kernel_rfl) (by kernel_rfl) (fun _ _ _ h => h) (Or.inl ⟨by rfl, ?_⟩) (by assumption) ?_
            rotate_left
            · (intro wS hSw; (try dsimp only at hSw); go_simp; try (with_reducible rfl))
            try simp only [Act.put, List.setIfInBounds_toArray, List.set_cons_zero, List.set_cons_succ]
            refine RegH.takeH (i := 18) (v := ?_) rfl (by kernel_rfl) (by kernel_rfl) (by kernel_rfl) (fun _ _ _ h => h) (Or.inl ⟨by rfl, ?_⟩) (by assumption) ?_
            rotate_left
            · (intro wS hSw; (try dsimp only at hSw); go_simp; try (with_reducible rfl))
            try simp only [Act.put, List.setIfInBounds_toArray, List.set_cons_zero, List.set_cons_succ]
            refine RegH.takeH (i := 19) (v := ?_) rfl (by kernel_rfl) (by kernel_rfl) (by kernel_rfl) (fun _ _ _ h => h) (Or.inl ⟨by rfl, ?_⟩) (by assumption) ?_
            rotate_left
            · (intro wS hSw; (try dsimp only at hSw); go_simp; try (with_reducible rfl))
            try simp only [Act.put, List.setIfInBounds_toArray, List.set_cons_zero, List.set_cons_succ]
            refine RegH.takeH (i := 20) (v := ?_) rfl (by kernel_rfl) (by kernel_rfl) (by kernel_rfl) (fun _ _ _ h => h) (Or.inl ⟨by rfl, ?_⟩) (by assumption) ?_
            rotate_left
            · (intro wS hSw; (try dsimp only at hSw); go_simp; try (with_reducible rfl))
            try simp only [Act.put, List.setIfInBounds_toArray, List.set_cons_zero, List.set_cons_succ]
            refine RegH.takeH (i := 21) (v := ?_) rfl (by kernel_rfl) (by kernel_rfl) (by kernel_rfl) (fun _ _ _ h => h) (Or.inl ⟨by rfl, ?_⟩) (by assumption) ?_
            rotate_left
            · (intro wS hSw; (try dsimp only at hSw); go_simp; try (with_reducible rfl))
            try simp only [Act.put, List.setIfInBounds_toArray, List.set_cons_zero, List.set_cons_succ]
            refine RegH.takeH (i := 22) (v := ?_) rfl (by kernel_rfl) (by kernel_rfl) (by kernel_rfl) (fun _ _ _ h => h) (Or.inl ⟨by rfl, ?_⟩) (by assumption) ?_
            rotate_left
            · (intro wS hSw; (try dsimp only at hSw); go_simp; try (with_reducible rfl))
            try simp only [Act.put, List.setIfInBounds_toArray, List.set_cons_zero, List.set_cons_succ]
            refine RegH.takeH (i := 23) (v := ?_) rfl (by kernel_rfl) (by kernel_rfl) (by kernel_rfl) (fun _ _ _ h => h) (Or.inl ⟨by rfl, ?_⟩) (by assumption) ?_
            rotate_left
            · (intro wS hSw; (try dsimp only at hSw); go_simp; try (with_reducible rfl))
            try simp only [Act.put, List.setIfInBounds_toArray, List.set_cons_zero, List.set_cons_succ]
            refine RegH.takeH (i := 24) (v := ?_) rfl (by kernel_rfl) (by kernel_rfl) (by kernel_rfl) (fun _ _ _ h => h) (Or.inl ⟨by rfl, ?_⟩) (by assumption) ?_
            rotate_left
            · (intro wS hSw; (try dsimp only at hSw); go_simp; try (with_reducible rfl))
            try simp only [Act.put, List.setIfInBounds_toArray, List.set_cons_zero, List.set_cons_succ]
            refine RegH.takeH (i := 25) (v := ?_) rfl (by kernel_rfl) (by kernel_rfl) (by kernel_rfl) (fun _ _ _ h => h) (Or.inl ⟨by rfl, ?_⟩) (by assumption) ?_
            rotate_left
            · (intro wS hSw; (try dsimp only at hSw); go_simp; try (with_reducible rfl))
            try simp only [Act.put, List.setIfInBounds_toArray, List.set_cons_zero, List.set_cons_succ]
            refine RegH.takeH (i := 26) (v := ?_) rfl (by kernel_rfl) (by kernel_rfl) (by kernel_rfl) (fun _ _ _ h => h) (Or.inl ⟨by rfl, ?_⟩) (by assumption) ?_
            rotate_left
            · (intro wS hSw; (try dsimp only at hSw); go_simp; try (with_reducible rfl))
            try simp only [Act.put, List.setIfInBounds_toArray, List.set_cons_zero, List.set_cons_succ]
            refine wpAnyH_done (by kernel_rfl) ?_ _
            go_wp2_with fail
            go_ret
            exact ⟨ret_b HZ.out.symm, below_then HBW.out (show Below wr.heap.size wr wq from kq)⟩
          · have HN2 := Lib.hid (asc_more HAS.out hlt (fun i e hi => by have e2 := HJ.out; obtain rfl : i = j := (by omega); unfold ltB; rw [← HNJ.out, ← HNK.out]; exact hlt2))
            go_wp2_with fail
            refine wp_region_held_drew (S := fun wx => wx.cell? ⟨w.heap.size, 0, none⟩ = some (.slice (some ⟨b, off, none⟩) l.length cap1) ∧ wx.cell? ⟨b, off + k * 3, none⟩ = some (.string nk) ∧ wx.cell? ⟨b, off + k * 3 + 1, none⟩ = some y ∧ wx.cell? ⟨b, off + k * 3 + 2, none⟩ = some z ∧ wx.cell? ⟨b, off + j * 3, none⟩ = some (.string nj) ∧ LaterD wr wx) (by kernel_rfl) ?_ (fun hHeld => ?_)
            · (refine ⟨?_, ?_, ?_, ?_, ?_, ?_⟩ <;> first | assumption | (simp [*]; done))
            refine RegH.takeH (i := 0) (v := ?_) rfl (by kernel_rfl) (by kernel_rfl) (by kernel_rfl) (fun _ _ _ h => h) (Or.inl ⟨by rfl, ?_⟩) (by assumption) ?_
            rotate_left
            · (intro wS hSw; (try dsimp only at hSw); go_simp; try (with_reducible rfl))
            try simp only [Act.put, List.setIfInBounds_toArray, List.set_cons_zero, List.set_cons_succ]
            refine RegH.takeH (i := 1) (v := ?_) rfl (by kernel_rfl) (by kernel_rfl) (by kernel_rfl) (fun _ _ _ h => h) (Or.inl ⟨by rfl, ?_⟩) (by assumption) ?_
            rotate_left
            · (intro wS hSw; (try dsimp only at hSw); go_simp; try (with_reducible rfl))
            try simp only [Act.put, List.setIfInBounds_toArray, List.set_cons_zero, List.set_cons_succ]
            refine RegH.takeH (i := 2) (v := ?_) rfl (by kernel_rfl) (by kernel_rfl) (by kernel_rfl) (fun _ _ _ h => h) (Or.inl ⟨by rfl, ?_⟩) (by assumption) ?_
            rotate_left
            · (intro wS hSw; (try dsimp only at hSw); go_simp; try (with_reducible rfl))
            try simp only [Act.put, List.setIfInBounds_toArray, List.set_cons_zero, List.set_cons_succ]
            refine RegH.takeH (i := 3) (v := ?_) rfl (by kernel_rfl) (by kernel_rfl) (by kernel_rfl) (fun _ _ _ h => h) (Or.inl ⟨by rfl, ?_⟩) (by assumption) ?_
            rotate_left
            · (intro wS hSw; (try dsimp only at hSw); go_simp; try (with_reducible rfl))
            try simp only [Act.put, List.setIfInBounds_toArray, List.set_cons_zero, List.set_cons_succ]
            refine RegH.takeH (i := 4) (v := ?_) rfl (by kernel_rfl) (by kernel_rfl) (by kernel_rfl) (fun _ _ _ h => h) (Or.inl ⟨by rfl, ?_⟩) (by assumption) ?_
            rotate_left
            · (intro wS hSw; (try dsimp only at hSw); go_simp; try (with_reducible rfl))
            try simp only [Act.put, List.setIfInBounds_toArray, List.set_cons_zero, List.set_cons_succ]
            refine RegH.consH (i := 5) rfl (by kernel_rfl) (fun K hK => ?_)
            go_simp
            go_at_call 57
            refine (HE.out _ kk).mono ?_
            rintro e wq ⟨rfl, hbq⟩
            have kq : LaterD wr wq := below_then (show Below wr.heap.size wr wr.drew from kk) hbq
            have n0 := (Below.cell kq (p := ⟨w.heap.size, 0, none⟩) HLTS.out.1).trans HALL.out.1
            have n1 := (Below.cell kq (p := ⟨b, off + k * 3, none⟩) HLTS.out.2).trans HALL.out.2.1
            have n2 := (Below.cell kq (p := ⟨b, off + k * 3 + 1, none⟩) HLTS.out.2).trans HALL.out.2.2.1
            have n3 := (Below.cell kq (p := ⟨b, off + k * 3 + 2, none⟩) HLTS.out.2).trans HALL.out.2.2.2
            have n4 := (Below.cell kq (p := ⟨b, off + j * 3, none⟩) HLTS.out.2).trans HQ.out
            clear hbq
            go_wp2_with fail
            refine hK.out _ _ ?_ (fun hHeld => ?_)
            · (refine ⟨?_, ?_, ?_, ?_, ?_, ?_⟩ <;> first | assumption | (simp [*]; done))
            clear hK K
            try simp only [Act.put, List.setIfInBounds_toArray, List.set_cons_zero, List.set_cons_succ]
            refine RegH.takeH (i := 6) (v := ?_) rfl (by kernel_rfl) (by kernel_rfl) (by kernel_rfl) (fun _ _ _ h => h) (Or.inl ⟨by rfl, ?_⟩) (by assumption) ?_
            rotate_left
            · (intro wS hSw; (try dsimp only at hSw); go_simp; try (with_reducible rfl))
            try simp only [Act.put, List.setIfInBounds_toArray, List.set_cons_zero, List.set_cons_succ]
            refine RegH.takeH (i := 7) (v := ?_) rfl (by kernel_rfl) (by kernel_rfl) (by kernel_rfl) (fun _ _ _ h => h) (Or.inl ⟨by rfl, ?_⟩) (by assumption) ?_
            rotate_left
            · (intro wS hSw; (try dsimp only at hSw); go_simp; try (with_reducible rfl))
            try simp only [Act.put, List.setIfInBounds_toArray, List.set_cons_zero, List.set_cons_succ]
            refine RegH.takeH (i := 8) (v := ?_) rfl (by kernel_rfl) (by kernel_rfl) (by kernel_rfl) (fun _ _ _ h => h) (Or.inl ⟨by rfl, ?_⟩) (by assumption) ?_
            rotate_left
            · (intro wS hSw; (try dsimp only at hSw); go_simp; try (with_reducible rfl))
            try simp only [Act.put, List.setIfInBounds_toArray, List.set_cons_zero, List.set_cons_succ]
            refine RegH.takeH (i := 9) (v := ?_) rfl (by kernel_rfl) (by kernel_rfl) (by kernel_rfl) (fun _ _ _ h => h) (Or.inl ⟨by rfl, ?_⟩) (by assumption) ?_
            rotate_left
            · (intro wS hSw; (try dsimp only at hSw); go_simp; try (with_reducible rfl))
            try simp only [Act.put, List.setIfInBounds_toArray, List.set_cons_zero, List.set_cons_succ]
            refine RegH.takeH (i := 10) (v := ?_) rfl (by kernel_rfl) (by kernel_rfl) (by kernel_rfl) (fun _ _ _ h => h) (Or.inl ⟨by rfl, ?_⟩) (by assumption) ?_
            rotate_left
            · (intro wS hSw; (try dsimp only at hSw); go_simp; try (with_reducible rfl))
            try simp only [Act.put, List.setIfInBounds_toArray, List.set_cons_zero, List.set_cons_succ]
            refine RegH.takeH (i := 11) (v := ?_) rfl (by kernel_rfl) (by kernel_rfl) (by kernel_rfl) (fun _ _ _ h => h) (Or.inl ⟨by rfl, ?_⟩) (by assumption) ?_
            rotate_left
            · (intro wS hSw; (try dsimp only at hSw); go_simp; try (with_reducible rfl))
            try simp only [Act.put, List.setIfInBounds_toArray, List.set_cons_zero, List.set_cons_succ]
            refine RegH.takeH (i := 12) (v := ?_) rfl (by kernel_rfl) (by kernel_rfl) (by kernel_rfl) (fun _ _ _ h => h) (Or.inl ⟨by rfl, ?_⟩) (by assumption) ?_
            rotate_left
            · (intro wS hSw; (try dsimp only at hSw); go_simp; try (with_reducible rfl))
            try simp only [Act.put, List.setIfInBounds_toArray, List.set_cons_zero, List.set_cons_succ]
            refine RegH.takeH (i := 13) (v := ?_) rfl (by kernel_rfl) (by kernel_rfl) (by kernel_rfl) (fun _ _ _ h => h) (Or.inl ⟨by rfl, ?_⟩) (by assumption) ?_
            rotate_left
            · (intro wS hSw; (try dsimp only at hSw); go_simp; try (with_reducible rfl))
            try simp only [Act.put, List.setIfInBounds_toArray, List.set_cons_zero, List.set_cons_succ]
            refine RegH.takeH (i := 14) (v := ?_) rfl (by kernel_rfl) (by kernel_rfl) (by kernel_rfl) (fun _ _ _ h => h) (Or.inl ⟨by rfl, ?_⟩) (by assumption) ?_
            rotate_left
            · (intro wS hSw; (try dsimp only at hSw); go_simp; try (with_reducible rfl))
            try simp only [Act.put, List.setIfInBounds_toArray, List.set_cons_zero, List.set_cons_succ]
            refine RegH.takeH (i := 15) (v := ?_) rfl (by kernel_rfl) (by kernel_rfl) (by kernel_rfl) (fun _ _ _ h => h) (Or.inl ⟨by rfl, ?_⟩) (by assumption) ?_
            rotate_left
            · (intro wS hSw; (try dsimp only at hSw); go_simp; try (with_reducible rfl))
            try simp only [Act.put, List.setIfInBounds_toArray, List.set_cons_zero, List.set_cons_succ]
            refine RegH.takeH (i := 16) (v := ?_) rfl (by kernel_rfl) (by kernel_rfl) (by kernel_rfl) (fun _ _ _ h => h) (Or.inl ⟨by rfl, ?_⟩) (by assumption) ?_
            rotate_left
            · (intro wS hSw; (try dsimp only at hSw); go_simp; try (with_reducible rfl))
            try simp only [Act.put, List.setIfInBounds_toArray, List.set_cons_zero, List.set_cons_succ]
            refine RegH.takeH (i := 17) (v := ?_) rfl (by kernel_rfl) (by kernel_rfl) (by kernel_rfl) (fun _ _ _ h => h) (Or.inl ⟨by rfl, ?_⟩) (by assumption) ?_
            rotate_left
            · (intro wS hSw; (try dsimp only at hSw); go_simp; try (with_reducible rfl))
            try simp only [Act.put, List.setIfInBounds_toArray, List.set_cons_zero, List.set_cons_succ]
            refine RegH.takeH (i := 18) (v := ?_) rfl (by kernel_rfl) (by kernel_rfl) (by kernel_rfl) (fun _ _ _ h => h) (Or.inl ⟨by rfl, ?_⟩) (by assumption) ?_
            rotate_left
            · (intro wS hSw; (try dsimp only at hSw); go_simp; try (with_reducible rfl))
            try simp only [Act.put, List.setIfInBounds_toArray, List.set_cons_zero, List.set_cons_succ]
            refine RegH.takeH (i := 19) (v := ?_) rfl (by kernel_rfl) (by kernel_rfl) (by kernel_rfl) (fun _ _ _ h => h) (Or.inl ⟨by rfl, ?_⟩) (by assumption) ?_
            rotate_left
            · (intro wS hSw; (try dsimp only at hSw); go_simp; try (with_reducible rfl))
            try simp only [Act.put, List.setIfInBounds_toArray, List.set_cons_zero, List.set_cons_succ]
            refine RegH.takeH (i := 20) (v := ?_) rfl (by kernel_rfl) (by kernel_rfl) (by kernel_rfl) (fun _ _ _ h => h) (Or.inl ⟨by rfl, ?_⟩) (by assumption) ?_
            rotate_left
            · (intro wS hSw; (try dsimp only at hSw); go_simp; try (with_reducible rfl))
            try simp only [Act.put, List.setIfInBounds_toArray, List.set_cons_zero, List.set_cons_succ]
            refine RegH.takeH (i := 21) (v := ?_) rfl (by kernel_rfl) (by kernel_rfl) (by kernel_rfl) (fun _ _ _ h => h) (Or.inl ⟨by rfl, ?_⟩) (by assumption) ?_
            rotate_left
            · (intro wS hSw; (try dsimp only at hSw); go_simp; try (with_reducible rfl))
            try simp only [Act.put, List.setIfInBounds_toArray, List.set_cons_zero, List.set_cons_succ]
            refine RegH.takeH (i := 22) (v := ?_) rfl (by kernel_rfl) (by kernel_rfl) (by kernel_rfl) (fun _ _ _ h => h) (Or.inl ⟨by rfl, ?_⟩) (by assumption) ?_
            rotate_left
            · (intro wS hSw; (try dsimp only at hSw); go_simp; try (with_reducible rfl))
            try simp only [Act.put, List.setIfInBounds_toArray, List.set_cons_zero, List.set_cons_succ]
            refine RegH.takeH (i := 23) (v := ?_) rfl (by kernel_rfl) (by kernel_rfl) (by kernel_rfl) (fun _ _ _ h => h) (Or.inl ⟨by rfl, ?_⟩) (by assumption) ?_
            rotate_left
            · (intro wS hSw; (try dsimp only at hSw); go_simp; try (with_reducible rfl))
            try simp only [Act.put, List.setIfInBounds_toArray, List.set_cons_zero, List.set_cons_succ]
            refine RegH.takeH (i := 24) (v := ?_) rfl (by kernel_rfl) (by kernel_rfl) (by kernel_rfl) (fun _ _ _ h => h) (Or.inl ⟨by rfl, ?_⟩) (by assumption) ?_
            rotate_left
            · (intro wS hSw; (try dsimp only at hSw); go_simp; try (with_reducible rfl))
            try simp only [Act.put, List.setIfInBounds_toArray, List.set_cons_zero, List.set_cons_succ]
            refine RegH.takeH (i := 25) (v := ?_) rfl (by kernel_rfl) (by kernel_rfl) (by kernel_rfl) (fun _ _ _ h => h) (Or.inl ⟨by rfl, ?_⟩) (by assumption) ?_
            rotate_left
            · (intro wS hSw; (try dsimp only at hSw); go_simp; try (with_reducible rfl))
            try simp only [Act.put, List.setIfInBounds_toArray, List.set_cons_zero, List.set_cons_succ]
            refine RegH.takeH (i := 26) (v := ?_) rfl (by kernel_rfl) (by kernel_rfl) (by kernel_rfl) (fun _ _ _ h => h) (Or.inl ⟨by rfl, ?_⟩) (by assumption) ?_
            rotate_left
            · (intro wS hSw; (try dsimp only at hSw); go_simp; try (with_reducible rfl))
            try simp only [Act.put, List.setIfInBounds_toArray, List.set_cons_zero, List.set_cons_succ]
            refine wpAnyH_done (by kernel_rfl) ?_ _
            go_wp2_with fail
            go_roundw
            case rel => exact ⟨k + 1, by omega, by go_num, HN1.out, HN2.out, below_then HWR.out (show Below wr.heap.size wr wq from kq)⟩
            case measure => simp [intOf]; omega
    · have ek : k = l.length := by omega
      subst ek
      have HP := Lib.hid (show dbOk l = decide ((l.length : Int) ≤ 6) from by
        have h1 := HOK.out
        have h2 := HAS.out
        rw [List.take_length] at h1 h2
        unfold dbOk
        exact decide_eq_decide.2 ⟨fun q => by have := q.1; omega, fun q => ⟨by omega, h1, h2⟩⟩)
      go_wp2_with fail
      go_ret
      exact ⟨ret_b HP.out.symm, HBW.out⟩
end Go.Proofs.YtinchhahcheadaaGreat.DbSpec

namespace Go.Proofs.YtinchhahcheadaaGreat.DbSpec
open Go Go.RowKit Byt Ints IntsLaw Cd Rows2 Tab SlMath TabOpen TabElem SlTable Db TabSpec

theorem copy_elem (us : List Value) (T : T3) (S : Nat → Prop) (w : World) (hu : tabC.rd w S us T) (hw : wtT T ≤ 1073741824) :
    Calls Tryz.prog 56 #[.agg us.toArray] w fun e w' => ∃ a c fp, e = .returned (.agg #[.string T.1, .int .i64 T.2.1, .slice a T.2.2.length c]) ∧ tabC.ow w' w.heap.size [.string T.1, .int .i64 T.2.1, .slice a T.2.2.length c] T fp ∧ fp.Nodup ∧ Below w.heap.size w w' := by
  obtain ⟨u, rfl, h1, h2, h3⟩ := tab_cells hu
  refine (spec_copy T.1 T.2.1 u T.2.2 S w h3 (by unfold wtT tabWt at hw; omega)).mono ?_
  rintro e w' ⟨u', fp, rfl, how, hnd, hb⟩
  obtain ⟨a, c, rfl⟩ := Cd.ow_slice how
  exact ⟨a, c, fp, rfl, tab_ow how h1 h2, hnd, hb⟩
theorem at3 {w : World} {b : Nat} {x y z : Value} {e : TypeId} (h : w.heap[b]? = some (.cells #[x, y, z] e (0, 0))) : Cd.At w b 0 [x, y, z] := fun j hj => by
  obtain ⟨h0, h1, h2, _⟩ := row3 h
  match j, hj with
  | 0, _ => exact h0
  | 1, _ => exact h1
  | 2, _ => exact h2
set_option maxRecDepth 100000 in
set_option maxHeartbeats 1600000 in
theorem spec_dbcopy (u : Value) (l : List T3) (S : Nat → Prop) (w : World) (h1 : tabsC.rd w S [u] l) (hw : wtS l ≤ 1000000000) :
    Calls Tryz.prog 25 #[.agg #[u]] w fun e w' => ∃ u' fp, e = .returned (.agg #[u']) ∧ tabsC.ow w' w.heap.size [u'] l fp ∧ fp.Nodup ∧ Below w.heap.size w w' := by
  have HR1 := Lib.hid (fun w' (hb : Below w.heap.size w w') => Cd.later h1 hb)
  have HW := Lib.hid hw
  obtain ⟨a1, cap1, rfl, hl1⟩ := Cd.sl_form h1
  clear h1 hw
  go_enter Tryz.func25, Tryz.ntmps25
  go_wp2_with fail
  generalize hW : ((w.alloc _).alloc _).alloc _ = W
  obtain ⟨r0, r1, r2, hz, hb0⟩ := start3 w _ _ _ hW
  have HC0 := Lib.hid (row1 r0)
  have HC1 := Lib.hid (row1 r1)
  have HC2 := Lib.hid (row1 r2)
  have c2 := (row1 r2).1
  have HZ := Lib.hid hz
  have HB0 := Lib.hid hb0
  clear hW r0 r1 r2 hz hb0
  go_loopw [4] (fun i wr => ∃ (k : Nat) (o : Value) (fp : List Nat), k ≤ l.length ∧ i = .int .i64 k ∧ tabsC.ow wr W.heap.size [o] (l.take k) fp ∧ fp.Nodup ∧ wr.cell? ⟨w.heap.size, 0, none⟩ = some (.slice a1 l.length cap1) ∧ wr.cell? ⟨w.heap.size + 1, 0, none⟩ = some (.slice none 0 0) ∧ wr.frozen? ⟨w.heap.size + 1, 0, none⟩ = false ∧ wr.cell? ⟨w.heap.size + 2, 0, none⟩ = some o ∧ wr.frozen? ⟨w.heap.size + 2, 0, none⟩ = false ∧ W.heap.size ≤ wr.heap.size ∧ Below w.heap.size w wr) (fun i _ => l.length - (intOf i).toNat)
  case atStart => exact ⟨0, .slice none 0 0, [], Nat.zero_le _, rfl, Cd.ow_nil _ _, by simp, HC0.out.1, HC1.out.1, HC1.out.2, HC2.out.1, HC2.out.2, Nat.le_refl _, HB0.out⟩
  case round =>
    obtain ⟨k, o, fp, hk, rfl, how, hnd, x0, x1, y1, x2, y2, hwr, hb⟩ := hrel
    obtain ⟨ao, co, rfl⟩ := Cd.ow_slice (c := tabC) how
    have HOW := Lib.hid how
    have HND := Lib.hid hnd
    have HB := Lib.hid hb
    clear c2 how hnd
    by_cases hlt : k < l.length
    · obtain ⟨b, off, cap', us, e1, _, hbB, hat, hu⟩ := Cd.sl_at (HR1.out wr HB.out) hlt
      injection e1 with e1 e2 e3
      subst e1 e3
      obtain ⟨x, y, z, rfl⟩ := len_list (tabC.len hu)
      have p0 := hat 0 (by simp)
      have p1 := hat 1 (by simp)
      have p2 := hat 2 (by simp)
      simp only [List.getElem_cons_zero, List.getElem_cons_succ, Nat.add_zero, show tabC.n = 3 from rfl] at p0 p1 p2
      have HCP := Lib.hid (copy_elem [x, y, z] l[k] _ wr hu (by have := sumN_mem wtT hlt; have := HW.out; unfold wtS at this; omega))
      have i1 : (0 : Int) ≤ (k : Int) := by omega
      have i2 : (k : Int) < (l.length : Int) := by omega
      have HX := Lib.hid (And.intro x0 (And.intro (And.intro x1 y1) (And.intro x2 y2)))
      have HWR := Lib.hid hwr
      have HTK := Lib.hid (show l.take (k + 1) = l.take k ++ [l[k]] from List.take_succ_eq_append_getElem hlt)
      have HKL := Lib.hid (show k = (l.take k).length by rw [List.length_take]; omega)
      have HLL := Lib.hid (show (l.take k).length + 1 ≤ 1000000000 by rw [List.length_take]; have := HW.out; unfold wtS at this; omega)
      have HLW := Lib.hid (show w.heap.size + 2 < W.heap.size by have := HZ.out; omega)
      clear hu hat e2 hb
      generalize l[k] = T at *
      generalize l.take k = cur at *
      go_wp2_with fail
      refine HCP.out.mono ?_
      rintro e w2 ⟨a2, c2, f2, rfl, ho2, hn2, hb2⟩
      have hs2 := hb2.size
      have d0 := (hb2.cell (World.block_lt_of_cell? wr _ HX.out.1)).trans HX.out.1
      have d2 : w2.cell? ⟨w.heap.size + 1 + 1, 0, none⟩ = some (.slice ao cur.length co) := (hb2.cell (World.block_lt_of_cell? wr _ HX.out.2.2.1)).trans HX.out.2.2.1
      have dl : w.heap.size + 1 + 1 < w2.heap.size := by have := HLW.out; have := HWR.out; omega
      have hbA := below_then (below_alloc w2 (.cells #[.string T.1, .int .i64 T.2.1, .slice a2 T.2.2.length c2] 51 (0, 0))) (below_alloc (w2.alloc (.cells #[.string T.1, .int .i64 T.2.1, .slice a2 T.2.2.length c2] 51 (0, 0))) (.cells #[.string T.1, .int .i64 T.2.1, .slice a2 T.2.2.length c2] 51 (0, 0)))
      have HOW3 := Lib.hid (Cd.ow_later (Cd.ow_later HOW.out hb2) hbA)
      have HOT := Lib.hid (tabC.ow_base (Cd.ow_later ho2 hbA) HWR.out)
      have HAT := Lib.hid (at3 (w := (w2.alloc (.cells #[.string T.1, .int .i64 T.2.1, .slice a2 T.2.2.length c2] 51 (0, 0))).alloc (.cells #[.string T.1, .int .i64 T.2.1, .slice a2 T.2.2.length c2] 51 (0, 0))) (b := w2.heap.size + 1) (by have := row_alloc (w2.alloc (.cells #[.string T.1, .int .i64 T.2.1, .slice a2 T.2.2.length c2] 51 (0, 0))) (.cells #[.string T.1, .int .i64 T.2.1, .slice a2 T.2.2.length c2] 51 (0, 0)); rw [size_alloc] at this; exact this))
      have HFAR := Lib.hid (show ∀ b ∈ f2, b ∉ fp from fun b hb q => by
        have h1 := (tabC.ow_lt ho2 b hb).1
        have h2 := ((Cd.sl _ tabC).ow_lt HOW.out b q).2
        omega)
      have HBS := Lib.hid (show W.heap.size ≤ ((w2.alloc (.cells #[.string T.1, .int .i64 T.2.1, .slice a2 T.2.2.length c2] 51 (0, 0))).alloc (.cells #[.string T.1, .int .i64 T.2.1, .slice a2 T.2.2.length c2] 51 (0, 0))).heap.size by rw [size_alloc, size_alloc]; have := HWR.out; omega)
      have HFP := Lib.hid (show ∀ b ∈ fp, W.heap.size ≤ b from fun b hb => ((Cd.sl _ tabC).ow_lt HOW.out b hb).1)
      have HB3 := Lib.hid (below_then (below_then HB.out hb2) hbA)
      have HX3 := Lib.hid (And.intro (hbA.cell (World.block_lt_of_cell? w2 _ d0) |>.trans d0) (And.intro ((hbA.cell (World.block_lt_of_cell? w2 _ d2)).trans d2) (And.intro ((hbA.cell (World.block_lt_of_cell? w2 _ ((hb2.cell (World.block_lt_of_cell? wr _ HX.out.2.1.1)).trans HX.out.2.1.1))).trans ((hb2.cell (World.block_lt_of_cell? wr _ HX.out.2.1.1)).trans HX.out.2.1.1)) (And.intro (((World.frozen?_of_block (hbA.block _ (by show w.heap.size + 1 < w2.heap.size; omega))).trans (World.frozen?_of_block (hb2.block _ (World.block_lt_of_cell? wr _ HX.out.2.1.1)))).trans HX.out.2.1.2) (((World.frozen?_of_block (hbA.block _ (by show w.heap.size + 2 < w2.heap.size; omega))).trans (World.frozen?_of_block (hb2.block _ (World.block_lt_of_cell? wr _ HX.out.2.2.1)))).trans HX.out.2.2.2)))))
      have HN2 := Lib.hid hn2
      clear ho2 hn2 hb2 hbA x0 x1 y1 x2 y2 p0 p1 p2 hs2
      go_wp2_with (at_builtin; refine Cd.wpList_appendN (c := tabC) rfl (.tmp 21) (.tmp 23) 24 rfl W.heap.size 51 (.agg #[.string ⟨#[]⟩, .int .i64 0, .slice none 0 0]) 3 48 rfl Tryz.underlying24 info_x rfl (by decide) _ cur fp rfl HOW3.out HND.out (w2.heap.size + 1) _ rfl HAT.out T f2 HOT.out HN2.out HFAR.out HLL.out HBS.out ?_)
      intro g cap4 w4 fp4 ho4 hn4 hs4 ht4
      have hn0 : ∀ k, k < W.heap.size → k ∉ fp := fun k hk q => by have := HFP.out k q; omega
      have e0 := ht4.cell HX3.out.1 (hn0 _ (by show w.heap.size < _; have := HLW.out; omega))
      have e1 := ht4.cell HX3.out.2.2.1 (hn0 _ (by show w.heap.size + 1 < _; have := HLW.out; omega))
      have e2 : w4.cell? ⟨w.heap.size + 1 + 1, 0, none⟩ = some (.slice ao cur.length co) := ht4.cell HX3.out.2.1 (hn0 _ (by show w.heap.size + 1 + 1 < _; have := HLW.out; omega))
      have g1 : w4.frozen? ⟨w.heap.size + 1, 0, none⟩ = false := (World.frozen?_of_block (ht4.block _ (by rw [size_alloc, size_alloc]; show w.heap.size + 1 < _; omega) (hn0 _ (by show w.heap.size + 1 < _; have := HLW.out; omega)))).trans HX3.out.2.2.2.1
      have g2 : w4.frozen? ⟨w.heap.size + 1 + 1, 0, none⟩ = false := (World.frozen?_of_block (ht4.block _ (by rw [size_alloc, size_alloc]; show w.heap.size + 2 < _; omega) (hn0 _ (by show w.heap.size + 2 < _; have := HLW.out; omega)))).trans HX3.out.2.2.2.2
      have HE := Lib.hid (And.intro e0 (And.intro e1 (And.intro e2 (And.intro g1 g2))))
      have HB4 := Lib.hid (ht4.below HB3.out (fun b hb => by have := HFP.out b hb; have := HLW.out; omega))
      have HO4 := Lib.hid ho4
      have HN4 := Lib.hid hn4
      have HS4 := Lib.hid (Nat.le_trans HBS.out ht4.size)
      clear ho4 hn4 hs4 ht4 hn0 e0 e1 g1
      go_wp2_with fail
      go_roundw
      case rel =>
        have hx4 : w.heap.size + 1 + 1 ∉ fp4 := fun q => by have := ((Cd.sl _ tabC).ow_lt HO4.out _ q).1; have := HLW.out; omega
        refine ⟨k + 1, .slice (some ⟨g, 0, none⟩) (cur.length + 1) cap4, fp4, by omega, by go_num, ?_, HN4.out, ?_, ?_, ?_, ?_, ?_, ?_, ?_⟩
        · rw [HTK.out]; exact ow_setCell HO4.out hx4 _
        · exact (World.cell?_setCell_other _ _ _ _ (by simp)).trans HE.out.1
        · exact (World.cell?_setCell_other _ _ _ _ (by simp)).trans HE.out.2.1
        · simpa using HE.out.2.2.2.1
        · exact World.cell?_setCell_same _ _ _ HE.out.2.2.1
        · simpa using HE.out.2.2.2.2
        · simpa using HS4.out
        · exact HB4.out.setCell (by show _ ≤ w.heap.size + 1 + 1; omega) _
      case measure => simp [intOf]; omega
    · have ek : k = l.length := by omega
      subst ek
      have HOW1 := Lib.hid (show tabsC.ow wr W.heap.size [.slice ao l.length co] l fp by have := HOW.out; rwa [List.take_length] at this)
      have HF := Lib.hid (fun b (h : b ∈ fp) => ((Cd.sl _ tabC).ow_lt HOW1.out b h).1)
      have x2' : wr.cell? ⟨w.heap.size + 1 + 1, 0, none⟩ = some (.slice ao l.length co) := by rw [List.take_length] at x2; exact x2
      clear HOW x2
      go_wp2_with fail
      have k0 : (wr.setCell ⟨w.heap.size + 1, 0, none⟩ (.slice ao l.length co)).cell? ⟨w.heap.size + 1, 0, none⟩ = some (.slice ao l.length co) :=
        World.cell?_setCell_same _ _ _ x1
      refine bodyPost_ret (v := .agg #[.slice ao l.length co]) (by simp [results, Tryz.results25, go_sem, k0]) rfl ⟨_, fp, rfl, ?_, HND.out, ?_⟩
      · exact ow_setCell (tabsC.ow_base HOW1.out (by have := HZ.out; omega)) (fun q => by have h1 : W.heap.size ≤ w.heap.size + 1 := HF.out _ q; have := HZ.out; omega) _
      · exact HB.out.setCell (by show _ ≤ w.heap.size + 1; omega) _
end Go.Proofs.YtinchhahcheadaaGreat.DbSpec
