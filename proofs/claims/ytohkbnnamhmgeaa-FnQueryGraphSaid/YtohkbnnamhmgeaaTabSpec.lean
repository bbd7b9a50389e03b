/- Tables: what the document says, and the model's functions that only look. -/
import Derived.Test.YtohkbnnamhmgeaaTab
import Derived.Test.YtohkbnnamhmgeaaFixed
import Derived.Deep.DeepCutAuto
namespace Go.Proofs.Ytohkbnnamhmgeaa.TabSpec
open Go Go.RowKit Byt Ints IntsLaw Cd Rows2 Tab

theorem ri_at {w : World} {v : Value} {l : List Int} {B : Nat} (h : RI w v l B) {k : Nat} (hk : k < l.length) :
    ∃ b off cap, v = .slice (some ⟨b, off, none⟩) l.length cap ∧ b < B ∧ w.cell? ⟨b, off + k, none⟩ = some (.int .i64 l[k]) := by
  obtain ⟨a, cap, rfl, _, hc⟩ := h
  rcases hc with h0 | ⟨b, off, rfl, hb, hcell⟩
  · rw [h0] at hk; simp at hk
  · exact ⟨b, off, cap, rfl, hb, hcell k hk⟩

theorem dn2 (w : World) (a b : Nat) : ∃ m, (w.drewN a).drewN b = w.drewN m := ⟨a + b, by rw [World.drewN_drewN]⟩
theorem dn3 (w : World) (a b c : Nat) : ∃ m, ((w.drewN a).drewN b).drewN c = w.drewN m := ⟨a + (b + c), by rw [World.drewN_drewN, World.drewN_drewN]⟩

/-- Lexicographic comparison. -/
def cmpR : List Int → List Int → Int
  | [], [] => 0
  | [], _ :: _ => -1
  | _ :: _, [] => 1
  | x :: xs, y :: ys => if x < y then -1 else if y < x then 1 else cmpR xs ys
theorem cmpR_bd : ∀ a b, -1 ≤ cmpR a b ∧ cmpR a b ≤ 1
  | [], [] => by simp [cmpR]
  | [], _ :: _ => by simp [cmpR]
  | _ :: _, [] => by simp [cmpR]
  | x :: xs, y :: ys => by
    have := cmpR_bd xs ys
    unfold cmpR
    split <;> (try split) <;> omega
theorem cmpR_self : ∀ a, cmpR a a = 0
  | [] => rfl
  | x :: xs => by simp [cmpR, cmpR_self xs]
theorem cmpR_eq : ∀ {a b}, cmpR a b = 0 → a = b
  | [], [], _ => rfl
  | [], _ :: _, h => by simp [cmpR] at h
  | _ :: _, [], h => by simp [cmpR] at h
  | x :: xs, y :: ys, h => by
    unfold cmpR at h
    split at h
    · omega
    · split at h
      · omega
      · have := cmpR_eq h
        have e : x = y := by omega
        rw [this, e]
theorem cmpR_zero {a b : List Int} : cmpR a b = 0 ↔ a = b := ⟨cmpR_eq, fun h => by rw [h]; exact cmpR_self b⟩
theorem cmpR_anti : ∀ a b, cmpR a b = - cmpR b a
  | [], [] => rfl
  | [], _ :: _ => rfl
  | _ :: _, [] => rfl
  | x :: xs, y :: ys => by
    have := cmpR_anti xs ys
    unfold cmpR
    by_cases h1 : x < y
    · rw [if_pos h1, if_neg (by omega), if_pos h1]
    · rw [if_neg h1]
      by_cases h2 : y < x
      · rw [if_pos h2, if_pos h2]; rfl
      · rw [if_neg h2, if_neg h2, if_neg h1, this]
theorem cmpR_trans : ∀ {a b c}, cmpR a b < 0 → cmpR b c < 0 → cmpR a c < 0
  | [], [], _, h, _ => by simp [cmpR] at h
  | [], _ :: _, [], _, h => by simp [cmpR] at h
  | [], _ :: _, _ :: _, _, _ => by simp [cmpR]
  | _ :: _, [], _, h, _ => by simp [cmpR] at h
  | _ :: _, _ :: _, [], _, h => by simp [cmpR] at h
  | x :: xs, y :: ys, z :: zs, h1, h2 => by
    unfold cmpR at *
    by_cases hxy : x < y
    · by_cases hyz : y < z
      · rw [if_pos (by omega)]; omega
      · rw [if_neg hyz] at h2
        by_cases hzy : z < y
        · rw [if_pos hzy] at h2; omega
        · rw [if_pos (by omega)]; omega
    · rw [if_neg hxy] at h1
      by_cases hyx : y < x
      · rw [if_pos hyx] at h1; omega
      · rw [if_neg hyx] at h1
        by_cases hyz : y < z
        · rw [if_pos (by omega)]; omega
        · rw [if_neg hyz] at h2
          by_cases hzy : z < y
          · rw [if_pos hzy] at h2; omega
          · rw [if_neg hzy] at h2
            rw [if_neg (by omega), if_neg (by omega)]
            exact cmpR_trans h1 h2
theorem drop_at {α : Type} {l : List α} {k : Nat} (h : k < l.length) : l.drop k = l[k] :: l.drop (k + 1) := List.drop_eq_getElem_cons h
theorem cmpR_lt {a b : List Int} {k : Nat} (h1 : k < a.length) (h2 : k < b.length) (h : a[k] < b[k]) : cmpR (a.drop k) (b.drop k) = -1 := by rw [drop_at h1, drop_at h2]; simp [cmpR, h]
theorem cmpR_gt {a b : List Int} {k : Nat} (h1 : k < a.length) (h2 : k < b.length) (h : b[k] < a[k]) : cmpR (a.drop k) (b.drop k) = 1 := by
  rw [drop_at h1, drop_at h2]
  simp [cmpR, h]
  omega
theorem cmpR_next {a b : List Int} {k : Nat} (h1 : k < a.length) (h2 : k < b.length) (h : ¬ a[k] < b[k]) (h' : ¬ b[k] < a[k]) : cmpR (a.drop k) (b.drop k) = cmpR (a.drop (k + 1)) (b.drop (k + 1)) := by
  rw [drop_at h1, drop_at h2]
  simp [cmpR, h, h']


/-- A name: one small letter. -/
def nameOk (s : ByteArray) : Bool := decide (s.size = 1 ∧ 97 ≤ (s.data.toList.headD 0).toNat ∧ (s.data.toList.headD 0).toNat ≤ 122)
theorem spec_name (s : ByteArray) (w : World) : Calls Try.prog 60 #[.string s] w fun e w' => e = .returned (.bool (nameOk s)) ∧ w = w' := by
  by_cases h1 : s.size = 1
  · have hh : s.data.toList.headD 0 = s[0] := by
      have : s.data.toList = [s[0]] := by
        have hl : s.data.toList.length = 1 := by rw [Array.length_toList]; exact h1
        match hq : s.data.toList, hl with
        | [x], _ =>
          have : s.data.toList[0]? = some x := by rw [hq]; rfl
          have h2 : s[0] = x := by
            have h3 : s.data[0]? = some x := by simpa using this
            exact (Array.getElem?_eq_some_iff.1 h3).2
          rw [h2]
      rw [this]
      rfl
    have hi : (0 : Int) < (s.size : Int) := by omega
    by_cases h2 : 97 ≤ s[0].toNat
    · by_cases h3 : s[0].toNat ≤ 122
      · have HZ := Lib.hid (show nameOk s = true from decide_eq_true ⟨h1, by rw [hh]; exact h2, by rw [hh]; exact h3⟩)
        clear hh
        go_enter Try.func60, Try.ntmps60
        go_wp2
        go_ret
        exact ⟨ret_b ((decide_eq_true (by omega)).trans HZ.out.symm), rfl⟩
      · have HZ := Lib.hid (show nameOk s = false from decide_eq_false fun q => h3 (by rw [← hh]; exact q.2.2))
        clear hh
        go_enter Try.func60, Try.ntmps60
        go_wp2
        go_ret
        exact ⟨ret_b ((decide_eq_false (by omega)).trans HZ.out.symm), rfl⟩
    · have HZ := Lib.hid (show nameOk s = false from decide_eq_false fun q => h2 (by rw [← hh]; exact q.2.1))
      clear hh
      go_enter Try.func60, Try.ntmps60
      go_wp2
      go_ret
      exact ⟨ret_b HZ.out.symm, rfl⟩
  · have HZ := Lib.hid (show nameOk s = false from decide_eq_false fun q => h1 q.1)
    have hs : ¬ ((s.size : Int) = 1) := by omega
    go_enter Try.func60, Try.ntmps60
    go_wp2
    go_ret
    exact ⟨ret_b HZ.out.symm, rfl⟩

/-- n values from 0 to 9. -/
def rowOk (r : List Int) (n : Int) : Bool := decide ((r.length : Int) = n ∧ ∀ x ∈ r, 0 ≤ x ∧ x ≤ 9)
theorem rowOk_iff {r : List Int} {n : Int} : rowOk r n = true ↔ ((r.length : Int) = n ∧ ∀ x ∈ r, 0 ≤ x ∧ x ≤ 9) := by unfold rowOk; rw [decide_eq_true_iff]
theorem rowOk_no {r : List Int} {n : Int} : rowOk r n = false ↔ ¬ ((r.length : Int) = n ∧ ∀ x ∈ r, 0 ≤ x ∧ x ≤ 9) := by unfold rowOk; rw [decide_eq_false_iff_not]

/-- Each row before the next. -/
def Asc (l : List (List Int)) : Prop := l.Pairwise fun a b => cmpR a b < 0
instance (l : List (List Int)) : Decidable (Asc l) := by unfold Asc; infer_instance
def TabP (nm : ByteArray) (ar : Int) (rows : List (List Int)) : Prop := nameOk nm = true ∧ 1 ≤ ar ∧ ar ≤ 3 ∧ rows.length ≤ 8 ∧ (∀ r ∈ rows, rowOk r ar = true) ∧ Asc rows
instance (nm : ByteArray) (ar : Int) (rows : List (List Int)) : Decidable (TabP nm ar rows) := by unfold TabP; infer_instance
def tabOk (nm : ByteArray) (ar : Int) (rows : List (List Int)) : Bool := decide (TabP nm ar rows)
theorem asc_more {l : List (List Int)} {k : Nat} (h : Asc (l.take k)) (hk : k < l.length) (h0 : ∀ j, k = j + 1 → (hj : j < l.length) → cmpR l[j] l[k] < 0) : Asc (l.take (k + 1)) := by
  unfold Asc at *
  rw [List.take_succ_eq_append_getElem hk, List.pairwise_append]
  refine ⟨h, List.pairwise_singleton _ _, fun a ha b hb => ?_⟩
  rw [List.mem_singleton.1 hb]
  cases k with
  | zero => simp at ha
  | succ j =>
    have hlast := h0 j rfl (by omega)
    rw [List.take_succ_eq_append_getElem (by omega)] at ha h
    rcases List.mem_append.1 ha with q | q
    · exact cmpR_trans ((List.pairwise_append.1 h).2.2 a q _ (List.mem_singleton.2 rfl)) hlast
    · rw [List.mem_singleton.1 q]; exact hlast
theorem asc_bad {l : List (List Int)} {j : Nat} (hj : j + 1 < l.length) (h : ¬ cmpR l[j] l[j + 1] < 0) : ¬ Asc l := fun q => h (List.pairwise_iff_getElem.1 q j (j + 1) (by omega) hj (by omega))

end Go.Proofs.Ytohkbnnamhmgeaa.TabSpec
