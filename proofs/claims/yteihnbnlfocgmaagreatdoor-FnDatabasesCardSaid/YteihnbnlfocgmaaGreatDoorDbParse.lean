/- Databases: the model's reading. -/
import Derived.Test.YteihnbnlfocgmaaGreatDoorDbCut
import Derived.Test.YteihnbnlfocgmaaGreatDoorDbAcc
namespace Go.Proofs.YteihnbnlfocgmaaGreatDoor.DbParse
open Go Go.RowKit Byt Ints IntsLaw Cd Rows2 Tab SlMath TabOpen TabElem SlTable Db TabSpec DbMath DbSpec DbExact DbAcc TabFmt TabParse

theorem cutB_len (sep : UInt8) : ∀ (l : List UInt8), (∀ x ∈ cutB sep l, x.length ≤ l.length) ∧ (cutB sep l).length ≤ l.length + 1
  | [] => by simp [cutB]
  | b :: r => by
    have ih := cutB_len sep r
    unfold cutB
    split
    · refine ⟨fun x hx => ?_, by simp only [List.length_cons]; omega⟩
      rcases List.mem_cons.1 hx with rfl | q
      · simp
      · have := ih.1 x q; simp only [List.length_cons]; omega
    · split
      · simp
      · rename_i x xs he
        rw [he] at ih
        refine ⟨fun y hy => ?_, by simp only [List.length_cons] at *; omega⟩
        rcases List.mem_cons.1 hy with rfl | q
        · have := ih.1 x List.mem_cons_self; simp only [List.length_cons]; omega
        · have := ih.1 y (List.mem_cons_of_mem _ q); simp only [List.length_cons]; omega
theorem cuts9_size {s x : ByteArray} (h : x ∈ cuts9 s) : x.size ≤ s.size := by
  unfold cuts9 at h
  obtain ⟨l, hl, rfl⟩ := List.mem_map.1 h
  have := (cutB_len 59 s.data.toList).1 l hl
  rw [Array.length_toList] at this
  exact this
theorem cuts9_len (s : ByteArray) : (cuts9 s).length ≤ s.size + 1 := by
  unfold cuts9
  rw [List.length_map]
  have := (cutB_len 59 s.data.toList).2
  rw [Array.length_toList] at this
  exact this
/-- The table that a text reads as. -/
def tabP (s : ByteArray) : T3 := (pNm s, pAr s, pRows s)
def ReadP (s : ByteArray) : Prop := (∀ x ∈ cuts9 s, pOk x = true) ∧ dbOk ((cuts9 s).map tabP) = true
instance (s : ByteArray) : Decidable (ReadP s) := by unfold ReadP; infer_instance
def parOk (s : ByteArray) : Bool := decide (s = ⟨#[]⟩ ∨ ReadP s)
def parL (s : ByteArray) : List T3 := if s = ⟨#[]⟩ then [] else if ReadP s then (cuts9 s).map tabP else []
theorem par_empty {s : ByteArray} (h : s = ⟨#[]⟩) : parOk s = true ∧ parL s = [] := ⟨decide_eq_true (.inl h), by unfold parL; rw [if_pos h]⟩
theorem par_not {s : ByteArray} (h : s ≠ ⟨#[]⟩) (q : ¬ ReadP s) : parOk s = false ∧ parL s = [] := ⟨decide_eq_false fun r => r.elim h q, by unfold parL; rw [if_neg h, if_neg q]⟩
theorem par_is {s : ByteArray} (h : s ≠ ⟨#[]⟩) (q : ReadP s) : parOk s = true ∧ parL s = (cuts9 s).map tabP := ⟨decide_eq_true (.inr q), by unfold parL; rw [if_neg h, if_pos q]⟩
theorem tabP_ow {w : World} {base : Nat} {s : ByteArray} {u : Value} {fp : List Nat} (h : rowsC.ow w base [u] (pRows s) fp) : tabC.ow w base [.string (tabP s).1, .int .i64 (tabP s).2.1, u] (tabP s) fp := by
  refine tab_ow h ?_ ?_
  · show (s.extract 0 1).size ≤ maxLen
    rw [ByteArray.size_extract]
    unfold maxLen
    omega
  · show -9223372036854775808 ≤ pAr s ∧ pAr s ≤ 9223372036854775807
    unfold pAr
    have := UInt8.toNat_lt (s.data.toList.getD 1 0)
    omega
/-- What the reading of one table says. -/
theorem ans_yes {s : ByteArray} {w w' : World} {e : Ending} (hp : pOk s = true) (h : ParAns s w e w') : ∃ a c fp, e = .returned (.tuple #[.agg #[.string (tabP s).1, .int .i64 (tabP s).2.1, .slice a (tabP s).2.2.length c], .bool true]) ∧ tabC.ow w' w.heap.size [.string (tabP s).1, .int .i64 (tabP s).2.1, .slice a (tabP s).2.2.length c] (tabP s) fp ∧ fp.Nodup ∧ Below w.heap.size w w' := by
  obtain ⟨u, fp, he, ho, hn, hb⟩ := h
  rw [hp] at he ho
  simp only [if_true] at he ho
  obtain ⟨a, c, rfl⟩ := Cd.ow_slice ho
  exact ⟨a, c, fp, he, tabP_ow ho, hn, hb⟩
theorem ans_no {s : ByteArray} {w w' : World} {e : Ending} (hp : pOk s = false) (h : ParAns s w e w') : ∃ a c, e = .returned (.tuple #[.agg #[.string ⟨#[]⟩, .int .i64 0, .slice a 0 c], .bool false]) ∧ Below w.heap.size w w' := by
  obtain ⟨u, fp, he, ho, hn, hb⟩ := h
  rw [hp] at he ho
  simp only [Bool.false_eq_true, if_false] at he ho
  obtain ⟨a, c, rfl⟩ := Cd.ow_slice ho
  exact ⟨a, c, he, hb⟩
theorem ok_take {l : List ByteArray} {k : Nat} (h : ∀ x ∈ l.take k, pOk x = true) (hk : k < l.length) (h0 : pOk l[k] = true) : ∀ x ∈ l.take (k + 1), pOk x = true := by
  intro T hT
  rw [List.take_succ_eq_append_getElem hk] at hT
  rcases List.mem_append.1 hT with q | q
  · exact h T q
  · rw [List.mem_singleton.1 q]; exact h0
/-- Nothing was read: the result's cell holds an empty database. -/
theorem DbAns.empty {w w2 : World} {Y : Nat} {l : List T3} {b : Bool} (hb : Below w.heap.size w w2) (hY : w.heap.size ≤ Y) (el : l = []) (x : Bool) (eb : b = x) :
    DbAns l b w (.returned (.tuple #[.agg #[.slice none 0 0], .bool x])) (w2.setCell ⟨Y, 0, none⟩ (.slice none 0 0)) := by
  subst el eb
  exact ⟨_, [], rfl, Cd.ow_nil _ _, by simp, hb.setCell hY _⟩

theorem DbAns.empty' {w w2 : World} {l : List T3} {b : Bool} (hb : Below w.heap.size w w2) (el : l = []) (x : Bool) (eb : b = x) :
    DbAns l b w (.returned (.tuple #[.agg #[.slice none 0 0], .bool x])) w2 := by
  subst el eb
  exact ⟨_, [], rfl, Cd.ow_nil _ _, by simp, hb⟩
end Go.Proofs.YteihnbnlfocgmaaGreatDoor.DbParse
