/- Updates of databases: what the model and the program compute, as functions on lists of tables. -/
import Derived.Test.YtdjgaffiildijabDbMath
import Derived.Test.YtdjgaffiildijabTabIns
import Derived.Test.YtdjgaffiildijabTabDel
import Derived.Test.YtdjgaffiildijabTabMath
import Derived.Test.YtdjgaffiildijabUpd
import Derived.Test.YtdjgaffiildijabSlTable
namespace Go.Proofs.Ytdjgaffiildijab.UpdMath
open Go Go.RowKit Byt Ints IntsLaw Cd Rows2 Tab TabOpen TabElem TabSpec SlMath SlTable DbMath Upd

def chOk (T : T3) (b : Bool) (row : List Int) : Bool := if b then insOk T.1 T.2.1 T.2.2 row else hasR T.1 T.2.1 T.2.2 row
def chR (T : T3) (b : Bool) (row : List Int) : List (List Int) := if b then insR T.1 T.2.1 T.2.2 row else delR T.1 T.2.1 T.2.2 row
def chT (T : T3) (b : Bool) (row : List Int) : T3 := (T.1, T.2.1, chR T b row)
/-- The table that an update makes. -/
def appT (l : List T3) (nm : ByteArray) (b : Bool) (row : List Int) : Option T3 :=
  match lookL l nm with
  | none => none
  | some T => if chOk T b row then some (chT T b row) else none
def appOk (l : List T3) (nm : ByteArray) (b : Bool) (row : List Int) : Bool :=
  match appT l nm b row with
  | none => false
  | some T => setOk l T
def appL (l : List T3) (nm : ByteArray) (b : Bool) (row : List Int) : List T3 :=
  match appT l nm b row with
  | none => l
  | some T => setL l T
theorem appT_none {l : List T3} {nm : ByteArray} {b : Bool} {row : List Int} (h : lookL l nm = none) : appT l nm b row = none := by unfold appT; rw [h]
theorem appT_no {l : List T3} {nm : ByteArray} {b : Bool} {row : List Int} {T : T3} (h : lookL l nm = some T) (hc : chOk T b row = false) : appT l nm b row = none := by unfold appT; rw [h]; simp [hc]
theorem appT_yes {l : List T3} {nm : ByteArray} {b : Bool} {row : List Int} {T : T3} (h : lookL l nm = some T) (hc : chOk T b row = true) : appT l nm b row = some (chT T b row) := by unfold appT; rw [h]; simp [hc]
theorem app_none {l : List T3} {nm : ByteArray} {b : Bool} {row : List Int} (h : appT l nm b row = none) : appL l nm b row = l ∧ appOk l nm b row = false := by unfold appL appOk; rw [h]; exact ⟨rfl, rfl⟩
theorem app_some {l : List T3} {nm : ByteArray} {b : Bool} {row : List Int} {T : T3} (h : appT l nm b row = some T) : appL l nm b row = setL l T ∧ appOk l nm b row = setOk l T := by unfold appL appOk; rw [h]; exact ⟨rfl, rfl⟩

theorem wt_ok {T : T3} (h : okT T = true) : wtT T ≤ 40 := by
  have htp : TabP T.1 T.2.1 T.2.2 := of_decide_eq_true h
  have h1 : T.1.size = 1 := (of_decide_eq_true htp.1).1
  have h2 : ∀ l : List (List Int), (∀ r ∈ l, r.length ≤ 3) → rowsWt l ≤ 4 * l.length := by
    intro l
    induction l with
    | nil => intro _; simp [rowsWt]
    | cons r rs ih =>
      intro h
      have h1 := ih (fun x hx => h x (List.mem_cons.2 (.inr hx)))
      have h2 := h r (List.mem_cons.2 (.inl rfl))
      simp [rowsWt] at *
      omega
  have h3 := h2 T.2.2 (fun r hr => by have := (rowOk_iff.1 (htp.2.2.2.2.1 r hr)).1; have := htp.2.2.1; omega)
  have h4 := htp.2.2.2.1
  unfold wtT tabWt
  omega
theorem wts_ok {l : List T3} (h : dbOk l = true) : wtS l ≤ 300 := by
  have hd := dbOk_iff.1 h
  have h2 : ∀ m : List T3, (∀ T ∈ m, okT T = true) → sumN wtT m ≤ 40 * m.length := by
    intro m
    induction m with
    | nil => intro _; simp [sumN]
    | cons T m ih =>
      intro h
      have h1 := ih (fun x hx => h x (List.mem_cons.2 (.inr hx)))
      have h2 := wt_ok (h T (List.mem_cons.2 (.inl rfl)))
      rw [sumN_cons, List.length_cons]
      omega
  have h3 := h2 l hd.2.1
  have h4 := hd.1
  unfold wtS
  omega
theorem look_ok {l : List T3} {nm : ByteArray} {T : T3} (h : lookL l nm = some T) : dbOk l = true ∧ T ∈ l ∧ T.1 = nm ∧ okT T = true := by
  unfold lookL at h
  cases hv : dbOk l
  · rw [hv] at h; cases h
  · rw [hv] at h
    obtain ⟨h1, h2⟩ := findN_some h
    exact ⟨rfl, h1, h2, (dbOk_iff.1 hv).2.1 T h1⟩
theorem ok_ch {T : T3} {b : Bool} {row : List Int} (hT : okT T = true) (h : chOk T b row = true) : okT (chT T b row) = true := by
  have htp : TabP T.1 T.2.1 T.2.2 := of_decide_eq_true hT
  obtain ⟨p1, p2, p3, p4, p5, p6⟩ := htp
  refine decide_eq_true (show TabP T.1 T.2.1 (chR T b row) from ⟨p1, p2, p3, ?_⟩)
  cases b
  · have hh : hasR T.1 T.2.1 T.2.2 row = true := h
    have e : chR T false row = dropR T.2.2 row := by unfold chR delR; simp [hh]
    rw [e]
    unfold dropR
    exact ⟨Nat.le_trans (List.length_filter_le _ _) p4, fun r hr => p5 r (List.mem_filter.1 hr).1, List.Pairwise.sublist List.filter_sublist p6⟩
  · have hi : insOk T.1 T.2.1 T.2.2 row = true := h
    have e : chR T true row = putR T.2.2 row := by unfold chR insR; simp [hi]
    rw [e]
    obtain ⟨_, q2, q3, q4⟩ : InsP T.1 T.2.1 T.2.2 row := of_decide_eq_true hi
    refine ⟨?_, fun r hr => ?_, TabImp.asc_put p6⟩
    · obtain ⟨i, hf⟩ := TabImp.find_ex row p6
      rw [TabImp.putR_split p6 hf, if_neg q3]
      unfold Cd.ins
      have := hf.1
      simp only [List.length_append, List.length_cons, List.length_take, List.length_drop]
      omega
    · rcases (TabImp.mem_put p6).1 hr with q | q
      · rw [q]; exact q2
      · exact p5 r q
theorem appT_ok {l : List T3} {nm : ByteArray} {b : Bool} {row : List Int} {T : T3} (h : appT l nm b row = some T) : dbOk l = true ∧ okT T = true := by
  unfold appT at h
  cases hl : lookL l nm with
  | none => rw [hl] at h; cases h
  | some U =>
    rw [hl] at h
    obtain ⟨h1, _, _, h4⟩ := look_ok hl
    cases hc : chOk U b row
    · simp [hc] at h
    · simp only [hc, if_true, Option.some.injEq] at h
      rw [← h]
      exact ⟨h1, ok_ch h4 hc⟩
theorem app_valid {l : List T3} {nm : ByteArray} {b : Bool} {row : List Int} (h : appOk l nm b row = true) : dbOk (appL l nm b row) = true := by
  cases ha : appT l nm b row with
  | none => rw [(app_none ha).2] at h; cases h
  | some T =>
    rw [(app_some ha).2] at h
    rw [(app_some ha).1]
    have h2 := appT_ok ha
    have h3 := dbOk_putL h2.1 h2.2
    unfold setL
    rw [h]
    unfold setOk at h
    simp only [Bool.and_eq_true] at h
    simp only [if_true]
    rw [h3]
    exact h.2
theorem app_wt {l : List T3} {nm : ByteArray} {b : Bool} {row : List Int} (h : wtS l ≤ 1048577) : wtS (appL l nm b row) ≤ 1048577 := by
  cases hk : appOk l nm b row
  · have e : appL l nm b row = l := by
      cases ha : appT l nm b row with
      | none => exact (app_none ha).1
      | some T =>
        rw [(app_some ha).2] at hk
        rw [(app_some ha).1]
        unfold setL
        rw [hk]
        rfl
    rw [e]
    exact h
  · have := wts_ok (app_valid hk)
    omega
theorem app_cnts {l : List T3} {nm : ByteArray} {b : Bool} {row : List Int} (h : wtS l ≤ 1048576) : wtS (appL l nm b row) ≤ 1048576 := by
  cases hk : appOk l nm b row
  · have e : appL l nm b row = l := by
      cases ha : appT l nm b row with
      | none => exact (app_none ha).1
      | some T =>
        rw [(app_some ha).2] at hk
        rw [(app_some ha).1]
        unfold setL
        rw [hk]
        rfl
    rw [e]
    exact h
  · have := wts_ok (app_valid hk)
    omega

/-- A list of updates, applied up to the first that does not go. -/
def allL : List T3 → List U3 → List T3 × Nat
  | l, [] => (l, 0)
  | l, u :: us => if appOk l u.1 u.2.1 u.2.2 then ((allL (appL l u.1 u.2.1 u.2.2) us).1, (allL (appL l u.1 u.2.1 u.2.2) us).2 + 1) else (l, 0)
theorem allL_go {l : List T3} {us : List U3} {k : Nat} (hk : k < us.length) (h : appOk l us[k].1 us[k].2.1 us[k].2.2 = true) :
    allL l (us.drop k) = ((allL (appL l us[k].1 us[k].2.1 us[k].2.2) (us.drop (k + 1))).1, (allL (appL l us[k].1 us[k].2.1 us[k].2.2) (us.drop (k + 1))).2 + 1) := by
  rw [List.drop_eq_getElem_cons hk, allL, h]
  rfl
theorem allL_stop {l : List T3} {us : List U3} {k : Nat} (hk : k < us.length) (h : appOk l us[k].1 us[k].2.1 us[k].2.2 = false) : allL l (us.drop k) = (l, 0) := by
  rw [List.drop_eq_getElem_cons hk, allL, h]
  rfl
theorem allL_end {l : List T3} {us : List U3} : allL l (us.drop us.length) = (l, 0) := by rw [List.drop_length]; rfl
theorem allL_le : ∀ (us : List U3) (l : List T3), (allL l us).2 ≤ us.length
  | [], _ => Nat.le_refl _
  | u :: us, l => by
    have ih := allL_le us (appL l u.1 u.2.1 u.2.2)
    rw [allL]
    split
    · simp only [List.length_cons]; omega
    · exact Nat.zero_le _
theorem allL_wt : ∀ (us : List U3) (l : List T3), wtS l ≤ 1048576 → wtS (allL l us).1 ≤ 1048576
  | [], _, h => h
  | u :: us, l, h => by
    rw [allL]
    split
    · exact allL_wt us _ (app_cnts h)
    · exact h
end Go.Proofs.Ytdjgaffiildijab.UpdMath
