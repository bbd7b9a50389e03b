/- Databases: what the model and the program compute, as functions on lists of tables. -/
import Derived.Test.YtnoennmhifmolaaTabElem
import Derived.Test.YtnoennmhifmolaaTabSpec
namespace Go.Proofs.Ytnoennmhifmolaa.DbMath
open Go Go.RowKit Byt Ints IntsLaw Cd Rows2 Tab TabOpen TabElem TabSpec

theorem bytesLess_iff : ∀ (x y : List UInt8), Op.bytesLess x y = true ↔ x < y
  | _, [] => by simp [Op.bytesLess]
  | [], _ :: _ => by simp [Op.bytesLess]
  | a :: x, b :: y => by simp [Op.bytesLess, bytesLess_iff x y, List.cons_lt_cons_iff]
/-- The order of names. -/
def ltB (a b : ByteArray) : Bool := Op.bytesLess a.toList b.toList
theorem ltB_iff (a b : ByteArray) : ltB a b = true ↔ a.data.toList < b.data.toList := by
  unfold ltB
  rw [bytesLess_iff, ByteArray.toList_eq, ByteArray.toList_eq]
theorem eqB (a b : ByteArray) : (a.toList == b.toList) = decide (a = b) := by
  rw [ByteArray.toList_eq, ByteArray.toList_eq]
  by_cases h : a = b
  · subst h; simp
  · rw [decide_eq_false h, beq_eq_false_iff_ne]
    intro q
    apply h
    cases a
    cases b
    simp only [Array.toList_inj] at q
    rw [q]
theorem ltB_irrefl (a : ByteArray) : ltB a a = false := by
  cases h : ltB a a
  · rfl
  · exact absurd ((ltB_iff a a).1 h) (List.lt_irrefl _)
theorem ltB_trans {a b c : ByteArray} (h : ltB a b = true) (k : ltB b c = true) : ltB a c = true := (ltB_iff a c).2 (List.lt_trans ((ltB_iff a b).1 h) ((ltB_iff b c).1 k))
theorem ltB_tri {a b : ByteArray} (h : ltB a b = false) (k : ltB b a = false) : a = b := by
  have h1 : ¬ a.data.toList < b.data.toList := fun q => by rw [(ltB_iff a b).2 q] at h; cases h
  have h2 : ¬ b.data.toList < a.data.toList := fun q => by rw [(ltB_iff b a).2 q] at k; cases k
  have h3 : a.data.toList = b.data.toList := List.le_antisymm (List.not_lt.1 h2) (List.not_lt.1 h1)
  cases a
  cases b
  simp only [Array.toList_inj] at h3
  rw [h3]
theorem ltB_asymm {a b : ByteArray} (h : ltB a b = true) : ltB b a = false := by
  cases k : ltB b a
  · rfl
  · have := ltB_trans h k
    rw [ltB_irrefl] at this
    cases this
theorem ltB_le_trans {a b c : ByteArray} (h : ltB b a = false) (k : ltB b c = true) : ltB a c = true := by
  cases q : ltB a b
  · rw [ltB_tri q h]; exact k
  · exact ltB_trans q k
theorem ltB_ne {a b : ByteArray} (h : ltB a b = true) : a ≠ b := fun q => by rw [q, ltB_irrefl] at h; cases h

def okT (T : T3) : Bool := tabOk T.1 T.2.1 T.2.2
def ltT (a b : T3) : Prop := ltB a.1 b.1 = true
instance (a b : T3) : Decidable (ltT a b) := by unfold ltT; infer_instance
def AscP (l : List T3) : Prop := l.Pairwise ltT
instance (l : List T3) : Decidable (AscP l) := by unfold AscP; infer_instance
def DbP (l : List T3) : Prop := l.length ≤ 6 ∧ (∀ T ∈ l, okT T = true) ∧ AscP l
instance (l : List T3) : Decidable (DbP l) := by unfold DbP; infer_instance
def dbOk (l : List T3) : Bool := decide (DbP l)
theorem dbOk_iff {l : List T3} : dbOk l = true ↔ DbP l := decide_eq_true_iff
theorem dbOk_no {l : List T3} : dbOk l = false ↔ ¬ DbP l := decide_eq_false_iff_not
theorem asc_nil : AscP [] := List.Pairwise.nil
theorem asc_more {l : List T3} {k : Nat} (h : AscP (l.take k)) (hk : k < l.length) (h0 : ∀ j, k = j + 1 → (hj : j < l.length) → ltB l[j].1 l[k].1 = true) : AscP (l.take (k + 1)) := by
  unfold AscP at *
  rw [List.take_succ_eq_append_getElem hk, List.pairwise_append]
  refine ⟨h, List.pairwise_singleton _ _, fun a ha b hb => ?_⟩
  rw [List.mem_singleton.1 hb]
  cases k with
  | zero => simp at ha
  | succ j =>
    have hj : j < l.length := by omega
    have hl := h0 j rfl hj
    obtain ⟨i, hi, rfl⟩ := List.getElem_of_mem ha
    rw [List.length_take] at hi
    rw [List.getElem_take]
    by_cases e : i = j
    · subst e; exact hl
    · have hp := List.pairwise_iff_getElem.1 h i j (by rw [List.length_take]; omega) (by rw [List.length_take]; omega) (by omega)
      rw [List.getElem_take, List.getElem_take] at hp
      exact ltB_trans hp hl
theorem asc_at {l : List T3} (h : AscP l) {j : Nat} (hj : j + 1 < l.length) : ltB l[j].1 l[j + 1].1 = true := List.pairwise_iff_getElem.1 h j (j + 1) (by omega) hj (by omega)
theorem ok_more {l : List T3} {k : Nat} (h : ∀ T ∈ l.take k, okT T = true) (hk : k < l.length) (h0 : okT l[k] = true) : ∀ T ∈ l.take (k + 1), okT T = true := by
  intro T hT
  rw [List.take_succ_eq_append_getElem hk] at hT
  rcases List.mem_append.1 hT with q | q
  · exact h T q
  · rw [List.mem_singleton.1 q]; exact h0
/-- Two ascending lists of the same tables are one. -/
theorem asc_unique : ∀ {a b : List T3}, AscP a → AscP b → (∀ U, U ∈ a ↔ U ∈ b) → a = b
  | [], [], _, _, _ => rfl
  | [], U :: b, _, _, h => by have := (h U).2 List.mem_cons_self; cases this
  | U :: a, [], _, _, h => by have := (h U).1 List.mem_cons_self; cases this
  | U :: a, V :: b, ha, hb, h => by
    have ha' := List.pairwise_cons.1 ha
    have hb' := List.pairwise_cons.1 hb
    have hUV : U = V := by
      rcases List.mem_cons.1 ((h U).1 List.mem_cons_self) with q | q
      · exact q
      rcases List.mem_cons.1 ((h V).2 List.mem_cons_self) with r | r
      · exact r.symm
      · have h1 := hb'.1 U q
        have h2 := ha'.1 V r
        have h3 := ltB_asymm (show ltB V.1 U.1 = true from h1)
        rw [show ltB U.1 V.1 = true from h2] at h3
        cases h3
    subst hUV
    congr 1
    refine asc_unique ha'.2 hb'.2 fun W => ⟨fun q => ?_, fun q => ?_⟩
    · rcases List.mem_cons.1 ((h W).1 (List.mem_cons_of_mem _ q)) with r | r
      · subst r; exact absurd rfl (ltB_ne (show ltB W.1 W.1 = true from ha'.1 W q))
      · exact r
    · rcases List.mem_cons.1 ((h W).2 (List.mem_cons_of_mem _ q)) with r | r
      · subst r; exact absurd rfl (ltB_ne (show ltB W.1 W.1 = true from hb'.1 W q))
      · exact r
/-- In an ascending list a name stands once. -/
theorem asc_name {l : List T3} (h : AscP l) {U V : T3} (hU : U ∈ l) (hV : V ∈ l) (e : U.1 = V.1) : U = V := by
  obtain ⟨i, hi, rfl⟩ := List.getElem_of_mem hU
  obtain ⟨j, hj, rfl⟩ := List.getElem_of_mem hV
  rcases Nat.lt_trichotomy i j with q | q | q
  · exact absurd e (ltB_ne (List.pairwise_iff_getElem.1 h i j hi hj q))
  · subst q; rfl
  · exact absurd e.symm (ltB_ne (List.pairwise_iff_getElem.1 h j i hj hi q))

def findN (l : List T3) (nm : ByteArray) : Option T3 := l.find? (fun T => decide (T.1 = nm))
def lookL (l : List T3) (nm : ByteArray) : Option T3 := if dbOk l then findN l nm else none
theorem findN_none {l : List T3} {nm : ByteArray} : findN l nm = none ↔ ∀ T ∈ l, T.1 ≠ nm := by
  unfold findN
  rw [List.find?_eq_none]
  simp
theorem findN_some {l : List T3} {nm : ByteArray} {T : T3} (h : findN l nm = some T) : T ∈ l ∧ T.1 = nm := by
  unfold findN at h
  exact ⟨List.mem_of_find?_eq_some h, by have := List.find?_some h; simpa using this⟩
theorem findN_at {l : List T3} {nm : ByteArray} {k : Nat} (hk : k < l.length) (h0 : ∀ T ∈ l.take k, T.1 ≠ nm) (h1 : l[k].1 = nm) : findN l nm = some l[k] := by
  unfold findN
  rw [List.find?_eq_some_iff_getElem]
  refine ⟨by simpa using h1, k, hk, rfl, fun j hj => ?_⟩
  have : l[j] ∈ l.take k := List.mem_iff_getElem.2 ⟨j, by rw [List.length_take]; omega, by rw [List.getElem_take]⟩
  simpa using h0 _ this
theorem findN_of_asc {l : List T3} (ha : AscP l) {T : T3} (hT : T ∈ l) : findN l T.1 = some T := by
  cases h : findN l T.1 with
  | none => exact absurd rfl (findN_none.1 h T hT)
  | some U =>
    have := findN_some h
    rw [asc_name ha this.1 hT this.2]

def putL (T : T3) : List T3 → List T3
  | [] => [T]
  | U :: l => if ltB U.1 T.1 = true then U :: putL T l else if U.1 = T.1 then T :: l else T :: U :: l
theorem putL_all {T : T3} : ∀ {a : List T3} (_ : ∀ U ∈ a, ltB U.1 T.1 = true) (b : List T3), putL T (a ++ b) = a ++ putL T b
  | [], _, _ => rfl
  | U :: a, h, b => by
    show (if ltB U.1 T.1 = true then U :: putL T (a ++ b) else _) = _
    rw [if_pos (h U List.mem_cons_self), putL_all (fun V hV => h V (List.mem_cons_of_mem _ hV)) b]
    rfl
theorem putL_past {T : T3} : ∀ {a : List T3} (_ : ∃ U ∈ a, ltB U.1 T.1 = false) (b : List T3), putL T (a ++ b) = putL T a ++ b
  | [], h, _ => by obtain ⟨U, hU, _⟩ := h; cases hU
  | V :: a, h, b => by
    show (if ltB V.1 T.1 = true then V :: putL T (a ++ b) else if V.1 = T.1 then T :: (a ++ b) else T :: V :: (a ++ b)) = (if ltB V.1 T.1 = true then V :: putL T a else if V.1 = T.1 then T :: a else T :: V :: a) ++ b
    by_cases q : ltB V.1 T.1 = true
    · rw [if_pos q, if_pos q, putL_past (b := b) ?_]
      · rfl
      · obtain ⟨U, hU, h1⟩ := h
        rcases List.mem_cons.1 hU with r | r
        · subst r; rw [h1] at q; cases q
        · exact ⟨U, r, h1⟩
    · rw [if_neg q, if_neg q]
      split <;> rfl
theorem mem_putL {T : T3} : ∀ {l : List T3}, AscP l → ∀ {U : T3}, U ∈ putL T l ↔ U = T ∨ (U ∈ l ∧ U.1 ≠ T.1)
  | [], _, U => by simp [putL]
  | V :: l, ha, U => by
    have ha' := List.pairwise_cons.1 ha
    show U ∈ (if ltB V.1 T.1 = true then V :: putL T l else if V.1 = T.1 then T :: l else T :: V :: l) ↔ _
    by_cases q : ltB V.1 T.1 = true
    · rw [if_pos q, List.mem_cons, mem_putL ha'.2, List.mem_cons]
      have hne := ltB_ne q
      constructor
      · rintro (r | r | r)
        · subst r; exact .inr ⟨.inl rfl, hne⟩
        · exact .inl r
        · exact .inr ⟨.inr r.1, r.2⟩
      · rintro (r | ⟨r | r, r'⟩)
        · exact .inr (.inl r)
        · exact .inl r
        · exact .inr (.inr ⟨r, r'⟩)
    · rw [if_neg q]
      have hq : ltB V.1 T.1 = false := by simpa using q
      have hgt : ∀ W ∈ l, W.1 ≠ T.1 := fun W hW e => by
        have := ha'.1 W hW
        unfold ltT at this
        rw [e, hq] at this
        cases this
      split
      · rename_i e
        rw [List.mem_cons, List.mem_cons]
        constructor
        · rintro (r | r)
          · exact .inl r
          · exact .inr ⟨.inr r, hgt U r⟩
        · rintro (r | ⟨r | r, r'⟩)
          · exact .inl r
          · subst r; exact absurd e r'
          · exact .inr r
      · rename_i e
        rw [List.mem_cons, List.mem_cons]
        constructor
        · rintro (r | r | r)
          · exact .inl r
          · subst r; exact .inr ⟨.inl rfl, e⟩
          · exact .inr ⟨.inr r, hgt U r⟩
        · rintro (r | ⟨r | r, _⟩)
          · exact .inl r
          · exact .inr (.inl r)
          · exact .inr (.inr r)
theorem asc_putL {T : T3} : ∀ {l : List T3}, AscP l → AscP (putL T l)
  | [], _ => List.pairwise_singleton _ _
  | V :: l, ha => by
    have ha' := List.pairwise_cons.1 ha
    show AscP (if ltB V.1 T.1 = true then V :: putL T l else if V.1 = T.1 then T :: l else T :: V :: l)
    by_cases q : ltB V.1 T.1 = true
    · rw [if_pos q]
      refine List.pairwise_cons.2 ⟨fun U hU => ?_, asc_putL ha'.2⟩
      rcases (mem_putL ha'.2).1 hU with r | r
      · subst r; exact q
      · exact ha'.1 U r.1
    · rw [if_neg q]
      have hq : ltB V.1 T.1 = false := by simpa using q
      split
      · rename_i e
        refine List.pairwise_cons.2 ⟨fun U hU => ?_, ha'.2⟩
        have := ha'.1 U hU
        unfold ltT at *
        rw [e] at this
        exact this
      · rename_i e
        refine List.pairwise_cons.2 ⟨fun U hU => ?_, ha⟩
        have htv : ltB T.1 V.1 = true := by
          cases r : ltB T.1 V.1
          · exact absurd (ltB_tri hq r) e
          · rfl
        rcases List.mem_cons.1 hU with r | r
        · subst r; exact htv
        · exact ltB_trans htv (ha'.1 U r)
theorem okT_putL {T : T3} {l : List T3} (ha : AscP l) (hT : okT T = true) (hl : ∀ U ∈ l, okT U = true) : ∀ U ∈ putL T l, okT U = true := fun U hU => by
  rcases (mem_putL ha).1 hU with r | r
  · rw [r]; exact hT
  · exact hl U r.1
theorem len_putL {T : T3} {l : List T3} (ha : AscP l) : (putL T l).length = if (findN l T.1).isSome then l.length else l.length + 1 := by
  induction l with
  | nil => rfl
  | cons V l ih =>
    have ha' := List.pairwise_cons.1 ha
    show (if ltB V.1 T.1 = true then V :: putL T l else if V.1 = T.1 then T :: l else T :: V :: l).length = _
    by_cases q : ltB V.1 T.1 = true
    · have hne := ltB_ne q
      rw [if_pos q, List.length_cons, ih ha'.2, show findN (V :: l) T.1 = findN l T.1 from by unfold findN; rw [List.find?_cons_of_neg (by simpa using hne)]]
      split <;> simp
    · rw [if_neg q]
      have hq : ltB V.1 T.1 = false := by simpa using q
      split
      · rename_i e
        rw [show findN (V :: l) T.1 = some V from by unfold findN; rw [List.find?_cons_of_pos (by simpa using e)]]
        simp
      · rename_i e
        rw [show findN (V :: l) T.1 = none from findN_none.2 fun W hW => by
          rcases List.mem_cons.1 hW with r | r
          · subst r; exact e
          · intro c
            have := ha'.1 W r
            unfold ltT at this
            rw [c, hq] at this
            cases this]
        simp
theorem dbOk_putL {T : T3} {l : List T3} (h : dbOk l = true) (hT : okT T = true) : dbOk (putL T l) = decide ((putL T l).length ≤ 6) := by
  have h := dbOk_iff.1 h
  unfold dbOk
  exact decide_eq_decide.2 ⟨fun q => q.1, fun q => ⟨q, okT_putL h.2.2 hT h.2.1, asc_putL h.2.2⟩⟩

def setOk (l : List T3) (T : T3) : Bool := dbOk l && okT T && decide ((putL T l).length ≤ 6)
def setL (l : List T3) (T : T3) : List T3 := if setOk l T then putL T l else l
def remL (l : List T3) (nm : ByteArray) : List T3 := l.filter (fun U => decide (U.1 ≠ nm))
def remOk (l : List T3) (nm : ByteArray) : Bool := (lookL l nm).isSome
def remR (l : List T3) (nm : ByteArray) : List T3 := if remOk l nm then remL l nm else l
theorem asc_remL {l : List T3} (h : AscP l) (nm : ByteArray) : AscP (remL l nm) := List.Pairwise.sublist List.filter_sublist h
theorem mem_remL {l : List T3} {nm : ByteArray} {U : T3} : U ∈ remL l nm ↔ U ∈ l ∧ U.1 ≠ nm := by unfold remL; rw [List.mem_filter]; simp
def cntRows (l : List T3) : Nat := SlMath.sumN (fun T => T.2.2.length) l
def cntL (l : List T3) : Nat := if dbOk l then cntRows l else 0
end Go.Proofs.Ytnoennmhifmolaa.DbMath
