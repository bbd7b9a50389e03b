/- Lists whose elements are sized, copied and marked one after the other. Over no program. -/
import Derived.Test.YtnoennmhifmolaaCdN
namespace Go.Proofs.Ytnoennmhifmolaa.SlMath
open Go
variable {α : Type}

def sumN (f : α → Nat) (l : List α) : Nat := (l.map f).sum
theorem sumN_nil (f : α → Nat) : sumN f [] = 0 := rfl
theorem sumN_cons (f : α → Nat) (a : α) (l : List α) : sumN f (a :: l) = f a + sumN f l := by simp [sumN]
theorem sumN_append (f : α → Nat) (a b : List α) : sumN f (a ++ b) = sumN f a + sumN f b := by simp [sumN]
theorem sumN_succ (f : α → Nat) {l : List α} {k : Nat} (h : k < l.length) : sumN f (l.take (k + 1)) = sumN f (l.take k) + f l[k] := by
  rw [List.take_succ_eq_append_getElem h, sumN_append]
  simp [sumN]
theorem sumN_take (f : α → Nat) (l : List α) (k : Nat) : sumN f (l.take k) ≤ sumN f l := by
  have := congrArg (sumN f) (List.take_append_drop k l)
  rw [sumN_append] at this
  omega
theorem sumN_mem (f : α → Nat) {l : List α} {k : Nat} (h : k < l.length) : f l[k] ≤ sumN f l := by
  have h1 := sumN_succ f h
  have h2 := sumN_take f l (k + 1)
  omega

/-- l's first k elements, then empty ones. -/
def partA (z : α) (l : List α) (k : Nat) : List α := l.take k ++ List.replicate (l.length - k) z
theorem partA_zero (z : α) (l : List α) : partA z l 0 = List.replicate l.length z := by simp [partA]
theorem partA_all (z : α) (l : List α) : partA z l l.length = l := by simp [partA]
theorem partA_length (z : α) (l : List α) (k : Nat) (h : k ≤ l.length) : (partA z l k).length = l.length := by
  unfold partA
  rw [List.length_append, List.length_take, List.length_replicate]
  omega
theorem partA_set (z : α) (l : List α) (k : Nat) (h : k < l.length) : (partA z l k).set k l[k] = partA z l (k + 1) := by
  unfold partA
  have e : l.length - k = (l.length - (k + 1)) + 1 := by omega
  rw [e, List.replicate_succ, List.set_append_right _ _ (by simp; omega), List.take_succ_eq_append_getElem h]
  have e2 : k - (l.take k).length = 0 := by simp; omega
  rw [e2, List.set_cons_zero, List.append_assoc]
  rfl

/-- The elements marked from k on, each with as many marks as cnt says. -/
def mkS (mk : Nat → α → α) (cnt : α → Nat) (k : Nat) : List α → List α
  | [] => []
  | a :: r => mk k a :: mkS mk cnt (k + cnt a) r
variable {mk : Nat → α → α} {cnt : α → Nat}
theorem mkS_length (k : Nat) (l : List α) : (mkS mk cnt k l).length = l.length := by
  induction l generalizing k with
  | nil => rfl
  | cons a r ih => simp [mkS, ih]
theorem mkS_append (k : Nat) (a b : List α) : mkS mk cnt k (a ++ b) = mkS mk cnt k a ++ mkS mk cnt (k + sumN cnt a) b := by
  induction a generalizing k with
  | nil => simp [mkS, sumN]
  | cons r rs ih =>
    rw [List.cons_append, mkS, ih, mkS, sumN_cons, Nat.add_assoc]
    rfl
theorem mkS_sum (hc : ∀ k a, cnt (mk k a) = cnt a) (k : Nat) (l : List α) : sumN cnt (mkS mk cnt k l) = sumN cnt l := by
  induction l generalizing k with
  | nil => rfl
  | cons a r ih => rw [mkS, sumN_cons, ih, sumN_cons, hc]
theorem mkS_get (k : Nat) (l : List α) (j : Nat) (h : j < l.length) (h' : j < (mkS mk cnt k l).length) : (mkS mk cnt k l)[j] = mk (k + sumN cnt (l.take j)) l[j] := by
  have e : l = l.take j ++ l[j] :: l.drop (j + 1) := by rw [← List.drop_eq_getElem_cons h, List.take_append_drop]
  have e2 : mkS mk cnt k l = mkS mk cnt k (l.take j) ++ (mk (k + sumN cnt (l.take j)) l[j] :: mkS mk cnt (k + sumN cnt (l.take j) + cnt l[j]) (l.drop (j + 1))) := by
    conv => lhs; rw [e, mkS_append]
    rfl
  have hl : (mkS mk cnt k (l.take j)).length = j := by rw [mkS_length, List.length_take]; omega
  have : (mkS mk cnt k l)[j]? = some (mk (k + sumN cnt (l.take j)) l[j]) := by
    rw [e2, List.getElem?_append_right (by omega), hl, Nat.sub_self]
    rfl
  exact (List.getElem?_eq_some_iff.1 this).2
/-- The first j elements marked, the others as they were. -/
def mpartA (mk : Nat → α → α) (cnt : α → Nat) (k : Nat) (l : List α) (j : Nat) : List α := mkS mk cnt k (l.take j) ++ l.drop j
theorem mpartA_length (k : Nat) (l : List α) (j : Nat) (h : j ≤ l.length) : (mpartA mk cnt k l j).length = l.length := by
  unfold mpartA
  rw [List.length_append, mkS_length, List.length_take, List.length_drop]
  omega
theorem mpartA_zero (k : Nat) (l : List α) : mpartA mk cnt k l 0 = l := by simp [mpartA, mkS]
theorem mpartA_all (k : Nat) (l : List α) : mpartA mk cnt k l l.length = mkS mk cnt k l := by simp [mpartA]
theorem mpartA_get (k : Nat) (l : List α) (j : Nat) (h : j < l.length) (h' : j < (mpartA mk cnt k l j).length) : (mpartA mk cnt k l j)[j] = l[j] := by
  have hl : (mkS mk cnt k (l.take j)).length = j := by rw [mkS_length, List.length_take]; omega
  have : (mpartA mk cnt k l j)[j]? = some l[j] := by
    unfold mpartA
    rw [List.getElem?_append_right (by omega), hl, Nat.sub_self, List.getElem?_drop]
    simp [h]
  exact (List.getElem?_eq_some_iff.1 this).2
theorem mpartA_set (k : Nat) (l : List α) (j : Nat) (h : j < l.length) : (mpartA mk cnt k l j).set j (mk (k + sumN cnt (l.take j)) l[j]) = mpartA mk cnt k l (j + 1) := by
  have hl : (mkS mk cnt k (l.take j)).length = j := by rw [mkS_length, List.length_take]; omega
  unfold mpartA
  rw [List.drop_eq_getElem_cons h, List.set_append_right _ _ (by omega), hl, Nat.sub_self, List.set_cons_zero, List.take_succ_eq_append_getElem h, mkS_append, List.append_assoc]
  rfl
end Go.Proofs.Ytnoennmhifmolaa.SlMath
