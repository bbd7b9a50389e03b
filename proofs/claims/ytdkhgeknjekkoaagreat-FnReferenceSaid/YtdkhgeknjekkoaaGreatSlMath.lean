/- Lists whose elements are sized, copied and marked one after the other. Over no program. -/
import Derived.Test.YtdkhgeknjekkoaaGreatCdN
namespace Go.Proofs.YtdkhgeknjekkoaaGreat.SlMath
open Go
variable {α : Type}

def sumN (f : α → Nat) (l : List α) : Nat := (l.map f).sum
theorem sumN_cons (f : α → Nat) (a : α) (l : List α) : sumN f (a :: l) = f a + sumN f l := by simp [sumN]
theorem sumN_append (f : α → Nat) (a b : List α) : sumN f (a ++ b) = sumN f a + sumN f b := by simp [sumN]
theorem sumN_succ (f : α → Nat) {l : List α} {k : Nat} (h : k < l.length) : sumN f (l.take (k + 1)) = sumN f (l.take k) + f l[k] := by
  rw [List.take_succ_eq_append_getElem h, sumN_append]
  simp [sumN]
theorem sumN_take (f : α → Nat) (l : List α) (k : Nat) : sumN f (l.take k) ≤ sumN f l := by
  have := congrArg (sumN f) (List.take_append_drop k l)
  rw [sumN_append] at this
  omega
theorem sumN_mem (f : α → Nat) {l : List α} {k : Nat} (h : k < l.length) : f l[k] ≤ sumN f l := by
  have h1 := sumN_succ f h
  have h2 := sumN_take f l (k + 1)
  omega

variable {mk : Nat → α → α} {cnt : α → Nat}
end Go.Proofs.YtdkhgeknjekkoaaGreat.SlMath
