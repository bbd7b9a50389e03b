/- Texts that the proof rests on, one behind the other. -/
import Derived.Test.YtklamhnecncenaaDegImp1
import Derived.Test.YtklamhnecncenaaSbMath
import Derived.Test.YtklamhnecncenaaShelf
import Derived.Laws.CopyOwn
import Derived.Deep.RegionLaw
import Derived.Test.YtklamhnecncenaaDegSpec1
import Derived.Lib.Slices
import Derived.Deep.RegionHeld3
import Derived.StillTailTactics
import Derived.Test.YtklamhnecncenaaRegH

namespace Go.Proofs.Ytklamhnecncenaa.SbRep
open Go Go.RowKit Byt Ints IntsLaw Cd Rows2 Tab TabSpec Exact DegMath SbMath

theorem splice_rep (x z : Value) (c m r : Nat) : splice (List.replicate c x ++ List.replicate r z) c (List.replicate m x) = List.replicate (c + m) x ++ List.replicate (r - m) z := by
  unfold splice
  have e : List.drop (c + m) (List.replicate c x ++ List.replicate r z) = List.replicate (r - m) z := by
    rw [List.drop_append, List.drop_replicate, List.drop_replicate, List.length_replicate, show c - (c + m) = 0 by omega, show c + m - c = m by omega]
    rfl
  rw [List.length_replicate, e, List.take_left' (by simp), ← List.append_assoc, List.replicate_append_replicate]
/-- A block that begins with c times x, of N cells. -/
def RepRow (w0 w : World) (e : TypeId) (x z : Value) (c N : Nat) : Prop := w.heap[w0.heap.size]? = some (.cells (List.replicate c x ++ List.replicate (N - c) z).toArray e (0, 0)) ∧ Below w0.heap.size w0 w
theorem rep_own {w0 w : World} {x : Int} {z : Value} {N : Nat} {e : TypeId} (h : RepRow w0 w e (.int .i64 x) z N N) (hN : N ≤ 8) : OwnI w w0.heap.size e (.slice (some ⟨w0.heap.size, 0, none⟩) N N) (List.replicate N x) := by
  obtain ⟨h1, _⟩ := h
  unfold OwnI
  rw [List.length_replicate]
  refine ⟨by simp, .inr ⟨_, N, _, rfl, Nat.le_refl _, h1, Nat.le_refl _, by unfold maxLen; omega, by simp, ?_⟩⟩
  simp [iv]
theorem rep_rows {w0 w : World} {x z : Value} {l : List Int} {N : Nat} {e : TypeId} {S : Nat → Prop} (h : RepRow w0 w e x z N N) (hN : N ≤ 8) (hx : rowC.rd w S [x] l) : rowsC.rd w (fun _ => True) [.slice (some ⟨w0.heap.size, 0, none⟩) N N] (List.replicate N l) := by
  obtain ⟨h1, _⟩ := h
  refine ⟨_, N, by rw [List.length_replicate], by rw [List.length_replicate]; omega, ?_⟩
  by_cases h0 : N = 0
  · subst h0; exact .inl rfl
  · refine .inr ⟨_, 0, rfl, trivial, (Array.getElem?_eq_some_iff.1 h1).1, fun t ht => ⟨[x], fun j hj => ?_, by rw [List.getElem_replicate]; exact rowC.mono hx fun _ _ _ => trivial⟩⟩
    rw [List.length_replicate] at ht
    obtain rfl : j = 0 := by simpa using hj
    have e1 : (0 + t * rowC.n + 0) = t := by rw [rowC_n]; omega
    rw [e1]
    simp [World.cell?, h1, ht]
theorem made_rep {w : World} {e : TypeId} {g n : Nat} {z : Value} (h : w.ownsRow g e 1 (.slice (some ⟨g, 0, none⟩) n n) n (List.replicate n z)) : w.heap[g]? = some (.cells (List.replicate n z).toArray e (0, 0)) := by
  rcases h.2 with ⟨h1, _⟩ | ⟨g', cap, cur, h1, _, h2, _, _, h3, h4⟩
  · cases h1
  · injection h1 with h1 _ h5
    injection h1 with h1
    injection h1 with h1 _ _
    subst h1 h5
    rw [Nat.mul_one] at h3 h4
    rw [h2, ← h4, List.take_of_length_le (by simp [h3])]
theorem run_rep {P : Program} {T e ty : TypeId} (hu : P.underlying T = some (.slice e)) (hsz : (P.info? e).map (·.size) = some 1) {w0 w : World} {x z : Value} (hx1 : x.oneCell' = true) {c N m : Nat} (h : RepRow w0 w e x z c N)
    (dLen dCap sLen sCap : Nat) (ad : Addr) (hm : m = Nat.min sLen dLen) (hsrc : ∀ j, j < m → w.cell? (ad.add j) = some x) (hfit : c + m ≤ N) :
    ∃ w', (Builtin.copy_ #[T, T] ty #[.slice (some ⟨w0.heap.size, c, none⟩) dLen dCap, .slice (some ad) sLen sCap]).run P w = .ok (.int .i64 (m : Int)) w' ∧ RepRow w0 w' e x z (c + m) N := by
  obtain ⟨hrow, hb⟩ := h
  have hrun := run_copy_row (P := P) w T T ty e w0.heap.size c dLen dCap ad sLen sCap _ e (List.replicate m x) hu hsz hrow (by rw [List.length_replicate, hm]) (fun j v hj => by
    obtain ⟨h1, h2⟩ := List.getElem?_eq_some_iff.1 hj
    rw [List.getElem_replicate] at h2
    rw [List.length_replicate] at h1
    rw [← h2]
    exact hsrc j h1) (by simp only [List.size_toArray, List.length_append, List.length_replicate]; omega) (fun v hv => by rw [(List.mem_replicate.1 hv).2]; exact hx1)
  rw [List.length_replicate] at hrun
  refine ⟨_, hrun, ?_, below_setRow hb (Nat.le_refl _) _⟩
  rw [setRow_heap w _ _ _ e _ hrow]
  have hs := splice_rep x z c m (N - c)
  unfold splice at hs
  rw [List.length_replicate] at hs
  rw [List.append_assoc, hs, show N - c - m = N - (c + m) by omega]
set_option maxRecDepth 100000 in
set_option maxHeartbeats 3200000 in
theorem rep_int (x : Value) (hx1 : x.oneCell' = true) (N : Nat) (hN : N ≤ 8) (b off cap : Nat) (w : World) (hc : w.cell? ⟨b, off, none⟩ = some x) :
    Calls Try.prog 70 #[.slice (some ⟨b, off, none⟩) 1 cap, .int .i64 (N : Int)] w fun e w' => e = .returned (.slice (some ⟨w.heap.size, 0, none⟩) N N) ∧ RepRow w w' 3 x (.int .i64 0) N N := by
  obtain ⟨i0, hi, hz0, hz1, hz2⟩ := info_parts info_i64
  have hsz : (Try.prog.info? 3).map (·.size) = some 1 := by rw [hi, ← hz1]; rfl
  have HC := Lib.hid hc
  have HM := Lib.hid (show Calls Try.prog 117 #[.int .u64 1, .int .u64 (N : Int)] w fun e w' => e = .returned (.tuple #[.int .u64 0, .int .u64 (N : Int)]) ∧ w = w' from by
    have h := Try.bits_Mul 1 N (by omega) (by omega) w
    rw [show 1 * N / 18446744073709551616 = 0 by omega, show 1 * N % 18446744073709551616 = N by omega] at h
    exact h.mono fun _ _ q => ⟨q.1, q.2.symm⟩)
  have n1 : (0 : Int) ≤ (N : Int) := by omega
  have n2 : (N : Int) ≤ 8 := by omega
  have n3 : (N : Int) ≤ 9223372036854775807 := by omega
  go_enter Try.func70, Try.ntmps70
  go_wp2_with fail
  refine HM.out.mono ?_
  rintro e w1 ⟨rfl, rfl⟩
  go_wp2_with (at_make; refine wpList_make_full _ rfl _ _ 24 rfl w.heap.size 3 i0 (.int .i64 0) 1 Try.underlying24 hi hz0 hz1 _ _ _ _ N rfl rfl rfl rfl (by rw [hz2]; omega) (by unfold maxLen; omega) (Nat.le_refl _) ?_)
  intro w1 hown hg
  rw [toList_madeCells_one] at hown
  have hrow := made_rep hown
  have hb1 : Below w.heap.size w w1 := (Below.refl _ _).grown hg (Nat.le_refl _) (by simp)
  have hc1 : w1.cell? ⟨b, off, none⟩ = some x := (hb1.cell (p := ⟨b, off, none⟩) (World.block_lt_of_cell? _ _ HC.out)).trans HC.out
  obtain ⟨w2, hcp, hrep⟩ := run_rep (P := Try.prog) (T := 24) (e := 3) (ty := 3) Try.underlying24 hsz hx1 (c := 0) (N := N) (m := min 1 N) (z := (.int .i64 0)) (w0 := w) (w := w1) (show RepRow w w1 _ x _ 0 N from ⟨hrow, hb1⟩) N N 1 cap ⟨b, off, none⟩ rfl (fun j hj => by
    obtain rfl : j = 0 := by omega
    exact hc1) (by omega)
  rw [Nat.zero_add] at hrep
  have HST := Lib.hid hrep
  clear hown hg hc hrow hb1 hc1 hrep
  go_wp2_with fail
  clear hcp
  go_loopw [8] (fun s wr => ∃ c : Nat, c ≤ N ∧ (c = 0 → N = 0) ∧ s = .int .i64 (c : Int) ∧ RepRow w wr 3 x (.int .i64 0) c N) (fun s _ => N - (intOf s).toNat)
  case atStart => exact ⟨min 1 N, by omega, by omega, by simp, HST.out⟩
  case round =>
    obtain ⟨c, hcN, hc0, rfl, hrep⟩ := hrel
    by_cases hlt : c < N
    · have c1 : 0 < c := by omega
      have c2 : (c : Int) < (N : Int) := by omega
      have c3 : (0 : Int) ≤ (c : Int) := by omega
      have c4 : (c : Int) ≤ (N : Int) := by omega
      have c5 : ¬ N = c := by omega
      have c6 : c ≤ N := by omega
      obtain ⟨hrow, hb⟩ := hrep
      have HRW := Lib.hid (show wr.drew.heap[w.heap.size]? = _ from hrow)
      have HBW := Lib.hid (show Below w.heap.size w wr.drew from ⟨hb.os, hb.tape, hb.output, hb.size, hb.block⟩)
      have HSR := Lib.hid (show ∀ j v, (List.replicate (min c (N - c)) x)[j]? = some v → wr.drew.cell? ((⟨w.heap.size, 0, none⟩ : Addr).add j) = some v from fun j v hj => by
        obtain ⟨h1, h2⟩ := List.getElem?_eq_some_iff.1 hj
        rw [List.getElem_replicate] at h2
        rw [List.length_replicate] at h1
        rw [← h2]
        have h3 : j < c := by omega
        have h4 : (List.replicate c x ++ List.replicate (N - c) (.int .i64 0))[j]? = some x := by
          rw [List.getElem?_append_left (by simpa using h3)]
          simp [h3]
        have h5 := HRW.out
        have h6 : wr.drew.cell? ⟨w.heap.size, j, none⟩ = some x := by simp only [World.cell?, h5]; simpa using h4
        have h7 : (⟨w.heap.size, 0, none⟩ : Addr).add j = ⟨w.heap.size, j, none⟩ := by
          by_cases h0 : j = 0
          · subst h0; rfl
          · simp [Addr.add, h0]
        rw [h7]
        exact h6)
      have HCN := Lib.hid (show c + min c (N - c) ≤ N ∧ 0 < min c (N - c) from by omega)
      have HMN := Lib.hid (show (List.replicate (min c (N - c)) x).length = Nat.min c (N - c) from List.length_replicate)
      have HFT := Lib.hid (show c + (List.replicate (min c (N - c)) x).length ≤ (List.replicate c x ++ List.replicate (N - c) ((.int .i64 0) : Value)).length from by
        simp only [List.length_append, List.length_replicate]
        omega)
      have HOC := Lib.hid (show ∀ v ∈ List.replicate (min c (N - c)) x, v.oneCell' = true from fun v hv => by rw [(List.mem_replicate.1 hv).2]; exact hx1)
      have HGO := Lib.hid (show ∀ W : World, W.heap[w.heap.size]? = some (.cells (splice (List.replicate c x ++ List.replicate (N - c) (.int .i64 0)) c (List.replicate (min c (N - c)) x)).toArray 3 (0, 0)) → Below w.heap.size w W → RepRow w W 3 x (.int .i64 0) (c + min c (N - c)) N from fun W h hB => by
        rw [splice_rep, Nat.sub_sub] at h
        exact ⟨h, hB⟩)
      have m3 : (c : Int) + ((List.replicate (min c (N - c)) x).length : Int) ≤ 8 := by rw [List.length_replicate]; omega
      have HLR := Lib.hid (show (List.replicate (min c (N - c)) x).length = min c (N - c) from List.length_replicate)
      clear hc0 hrow hb hlt
      generalize hL : List.replicate (min c (N - c)) x = L at *
      clear hL
      go_wp2_with fail
      go_region_law (refine step_copy_splice rfl (.tmp 41) (.tmp 44) 24 24 rfl 3 Try.underlying24 hsz (some ⟨w.heap.size, c, none⟩) (some ⟨w.heap.size, 0, none⟩) (N - c) (N - c) c N (by simp [Act.eval, Act.put]) (by simp [Act.eval, Act.put]) w.heap.size c (List.replicate c x ++ List.replicate (N - c) (.int .i64 0)) 3 HRW.out L HMN.out (fun _ => ⟨rfl, _, rfl, HSR.out⟩) HFT.out HOC.out w.heap.size w HBW.out (Nat.le_refl _) ?_; intro w4 hg4 hb4)
      have m4 : IntKind.i64.wrap ((c : Int) + (L.length : Int)) = (c : Int) + (L.length : Int) := by rw [IntKind.wrap_i64]; omega
      all_goals
        go_simp
        go_wp2_with fail
        go_roundw
        case rel => exact ⟨c + min c (N - c), HCN.out.1, by omega, by rw [HLR.out]; push_cast; rfl, HGO.out _ hg4.out hb4⟩
        case measure => have := HCN.out; rw [HLR.out]; simp [intOf]; omega
    · obtain rfl : c = N := by omega
      have c2 : ¬ (c : Int) < (c : Int) := by omega
      have HR := Lib.hid hrep
      clear hrep
      go_wp2_with fail
      go_ret
      exact ⟨rfl, HR.out⟩
set_option maxRecDepth 100000 in
set_option maxHeartbeats 3200000 in
theorem rep_row (x : Value) (hx1 : x.oneCell' = true) (N : Nat) (hN : N ≤ 8) (b off cap : Nat) (w : World) (hc : w.cell? ⟨b, off, none⟩ = some x) :
    Calls Try.prog 86 #[.slice (some ⟨b, off, none⟩) 1 cap, .int .i64 (N : Int)] w fun e w' => e = .returned (.slice (some ⟨w.heap.size, 0, none⟩) N N) ∧ RepRow w w' 24 x (.slice none 0 0) N N := by
  obtain ⟨i0, hi, hz0, hz1, hz2⟩ := info_parts info_ints
  have hsz : (Try.prog.info? 24).map (·.size) = some 1 := by rw [hi, ← hz1]; rfl
  have HC := Lib.hid hc
  have HM := Lib.hid (show Calls Try.prog 117 #[.int .u64 1, .int .u64 (N : Int)] w fun e w' => e = .returned (.tuple #[.int .u64 0, .int .u64 (N : Int)]) ∧ w = w' from by
    have h := Try.bits_Mul 1 N (by omega) (by omega) w
    rw [show 1 * N / 18446744073709551616 = 0 by omega, show 1 * N % 18446744073709551616 = N by omega] at h
    exact h.mono fun _ _ q => ⟨q.1, q.2.symm⟩)
  have n1 : (0 : Int) ≤ (N : Int) := by omega
  have n2 : (N : Int) ≤ 8 := by omega
  have n3 : (N : Int) ≤ 9223372036854775807 := by omega
  go_enter Try.func86, Try.ntmps86
  go_wp2_with fail
  refine HM.out.mono ?_
  rintro e w1 ⟨rfl, rfl⟩
  go_wp2_with (at_make; refine wpList_make_full _ rfl _ _ 32 rfl w.heap.size 24 i0 (.slice none 0 0) 1 Try.underlying32 hi hz0 hz1 _ _ _ _ N rfl rfl rfl rfl (by rw [hz2]; omega) (by unfold maxLen; omega) (Nat.le_refl _) ?_)
  intro w1 hown hg
  rw [toList_madeCells_one] at hown
  have hrow := made_rep hown
  have hb1 : Below w.heap.size w w1 := (Below.refl _ _).grown hg (Nat.le_refl _) (by simp)
  have hc1 : w1.cell? ⟨b, off, none⟩ = some x := (hb1.cell (p := ⟨b, off, none⟩) (World.block_lt_of_cell? _ _ HC.out)).trans HC.out
  obtain ⟨w2, hcp, hrep⟩ := run_rep (P := Try.prog) (T := 32) (e := 24) (ty := 3) Try.underlying32 hsz hx1 (c := 0) (N := N) (m := min 1 N) (z := (.slice none 0 0)) (w0 := w) (w := w1) (show RepRow w w1 _ x _ 0 N from ⟨hrow, hb1⟩) N N 1 cap ⟨b, off, none⟩ rfl (fun j hj => by
    obtain rfl : j = 0 := by omega
    exact hc1) (by omega)
  rw [Nat.zero_add] at hrep
  have HST := Lib.hid hrep
  clear hown hg hc hrow hb1 hc1 hrep
  go_wp2_with fail
  clear hcp
  go_loopw [8] (fun s wr => ∃ c : Nat, c ≤ N ∧ (c = 0 → N = 0) ∧ s = .int .i64 (c : Int) ∧ RepRow w wr 24 x (.slice none 0 0) c N) (fun s _ => N - (intOf s).toNat)
  case atStart => exact ⟨min 1 N, by omega, by omega, by simp, HST.out⟩
  case round =>
    obtain ⟨c, hcN, hc0, rfl, hrep⟩ := hrel
    by_cases hlt : c < N
    · have c1 : 0 < c := by omega
      have c2 : (c : Int) < (N : Int) := by omega
      have c3 : (0 : Int) ≤ (c : Int) := by omega
      have c4 : (c : Int) ≤ (N : Int) := by omega
      have c5 : ¬ N = c := by omega
      have c6 : c ≤ N := by omega
      obtain ⟨hrow, hb⟩ := hrep
      have HRW := Lib.hid (show wr.drew.heap[w.heap.size]? = _ from hrow)
      have HBW := Lib.hid (show Below w.heap.size w wr.drew from ⟨hb.os, hb.tape, hb.output, hb.size, hb.block⟩)
      have HSR := Lib.hid (show ∀ j v, (List.replicate (min c (N - c)) x)[j]? = some v → wr.drew.cell? ((⟨w.heap.size, 0, none⟩ : Addr).add j) = some v from fun j v hj => by
        obtain ⟨h1, h2⟩ := List.getElem?_eq_some_iff.1 hj
        rw [List.getElem_replicate] at h2
        rw [List.length_replicate] at h1
        rw [← h2]
        have h3 : j < c := by omega
        have h4 : (List.replicate c x ++ List.replicate (N - c) (.slice none 0 0))[j]? = some x := by
          rw [List.getElem?_append_left (by simpa using h3)]
          simp [h3]
        have h5 := HRW.out
        have h6 : wr.drew.cell? ⟨w.heap.size, j, none⟩ = some x := by simp only [World.cell?, h5]; simpa using h4
        have h7 : (⟨w.heap.size, 0, none⟩ : Addr).add j = ⟨w.heap.size, j, none⟩ := by
          by_cases h0 : j = 0
          · subst h0; rfl
          · simp [Addr.add, h0]
        rw [h7]
        exact h6)
      have HCN := Lib.hid (show c + min c (N - c) ≤ N ∧ 0 < min c (N - c) from by omega)
      have HMN := Lib.hid (show (List.replicate (min c (N - c)) x).length = Nat.min c (N - c) from List.length_replicate)
      have HFT := Lib.hid (show c + (List.replicate (min c (N - c)) x).length ≤ (List.replicate c x ++ List.replicate (N - c) ((.slice none 0 0) : Value)).length from by
        simp only [List.length_append, List.length_replicate]
        omega)
      have HOC := Lib.hid (show ∀ v ∈ List.replicate (min c (N - c)) x, v.oneCell' = true from fun v hv => by rw [(List.mem_replicate.1 hv).2]; exact hx1)
      have HGO := Lib.hid (show ∀ W : World, W.heap[w.heap.size]? = some (.cells (splice (List.replicate c x ++ List.replicate (N - c) (.slice none 0 0)) c (List.replicate (min c (N - c)) x)).toArray 24 (0, 0)) → Below w.heap.size w W → RepRow w W 24 x (.slice none 0 0) (c + min c (N - c)) N from fun W h hB => by
        rw [splice_rep, Nat.sub_sub] at h
        exact ⟨h, hB⟩)
      have m3 : (c : Int) + ((List.replicate (min c (N - c)) x).length : Int) ≤ 8 := by rw [List.length_replicate]; omega
      have HLR := Lib.hid (show (List.replicate (min c (N - c)) x).length = min c (N - c) from List.length_replicate)
      clear hc0 hrow hb hlt
      generalize hL : List.replicate (min c (N - c)) x = L at *
      clear hL
      go_wp2_with fail
      go_region_law (refine step_copy_splice rfl (.tmp 41) (.tmp 44) 32 32 rfl 24 Try.underlying32 hsz (some ⟨w.heap.size, c, none⟩) (some ⟨w.heap.size, 0, none⟩) (N - c) (N - c) c N (by simp [Act.eval, Act.put]) (by simp [Act.eval, Act.put]) w.heap.size c (List.replicate c x ++ List.replicate (N - c) (.slice none 0 0)) 24 HRW.out L HMN.out (fun _ => ⟨rfl, _, rfl, HSR.out⟩) HFT.out HOC.out w.heap.size w HBW.out (Nat.le_refl _) ?_; intro w4 hg4 hb4)
      have m4 : IntKind.i64.wrap ((c : Int) + (L.length : Int)) = (c : Int) + (L.length : Int) := by rw [IntKind.wrap_i64]; omega
      all_goals
        go_simp
        go_wp2_with fail
        go_roundw
        case rel => exact ⟨c + min c (N - c), HCN.out.1, by omega, by rw [HLR.out]; push_cast; rfl, HGO.out _ hg4.out hb4⟩
        case measure => have := HCN.out; rw [HLR.out]; simp [intOf]; omega
    · obtain rfl : c = N := by omega
      have c2 : ¬ (c : Int) < (c : Int) := by omega
      have HR := Lib.hid hrep
      clear hrep
      go_wp2_with fail
      go_ret
      exact ⟨rfl, HR.out⟩
end Go.Proofs.Ytklamhnecncenaa.SbRep

namespace Go.Proofs.Ytklamhnecncenaa.SbSpec
open Go Go.RowKit Byt Ints IntsLaw Cd Rows2 Tab TabSpec Exact DegMath DegSpec SbMath

set_option maxRecDepth 100000 in
set_option maxHeartbeats 1600000 in
theorem spec_pair (v1 v2 : Value) (a b : List Int) (B1 B2 : Nat) (w : World) (h1 : RI w v1 a B1) (h2 : RI w v2 b B2) :
    Calls Try.prog 16 #[v1, v2] w fun e w' => e = .returned (.int .i64 (pairL a b)) ∧ ∃ m, w' = w.drewN m := by
  have HA := Lib.hid (fun m => spec_seq v1 a B1 (w.drewN m) (ri_dn h1 m))
  have HB := Lib.hid (fun m => spec_seq v2 b B2 (w.drewN m) (ri_dn h2 m))
  have HV1 := Lib.hid (fun m => ri_dn h1 m)
  have HV2 := Lib.hid (fun m => ri_dn h2 m)
  have HBD := Lib.hid (show seqOk a = true → seqOk b = true → ∀ k, 0 ≤ mulL (a.take k) (b.take k) ∧ mulL (a.take k) (b.take k) ≤ 512 from fun q1 q2 k => mul_bd8 (of_decide_eq_true q1) (of_decide_eq_true q2) k)
  have HP8 := Lib.hid (show seqOk a = true → seqOk b = true → (∀ x ∈ a, 1 ≤ x ∧ x ≤ 8) ∧ ∀ x ∈ b, 1 ≤ x ∧ x ≤ 8 from fun q1 q2 => ⟨fun x => pos8 (of_decide_eq_true q1), fun x => pos8 (of_decide_eq_true q2)⟩)
  have HNO1 := Lib.hid (show seqOk a = false → pairL a b = 0 from pair_no1)
  have HNO2 := Lib.hid (show seqOk b = false → pairL a b = 0 from pair_no2)
  have HEND := Lib.hid (show seqOk a = true → seqOk b = true → ∀ k, a.length ≤ k ∨ b.length ≤ k → pairL a b = mulL (a.take k) (b.take k) from fun q1 q2 k hk => by rw [pair_yes q1 q2, mul_take hk])
  have HZR := Lib.hid (show ∀ k, a.length ≤ k ∨ b.length ≤ k → k = 0 → pairL a b = 0 from fun k hk h0 => by
    subst h0
    unfold pairL
    split
    · rw [← mul_take hk]; rfl
    · rfl)
  obtain ⟨a1, c1, rfl, hl1, _⟩ := h1
  obtain ⟨a2, c2, rfl, hl2, _⟩ := h2
  generalize seqOk a = qa at *
  generalize seqOk b = qb at *
  go_enter Try.func16, Try.ntmps16
  go_wp2_with fail
  go_loopw [5, 6] (fun n i wr => ∃ k m : Nat, k ≤ a.length ∧ k ≤ b.length ∧ i = .int .i64 k ∧ n = .int .i64 (mulL (a.take k) (b.take k)) ∧ Hid (k = 0 ∨ (qa = true ∧ qb = true)) ∧ wr = w.drewN m) (fun _ i _ => a.length - (intOf i).toNat)
  case atStart => exact ⟨0, 0, Nat.zero_le _, Nat.zero_le _, rfl, rfl, Lib.hid (.inl rfl), rfl⟩
  case round =>
    obtain ⟨k, m, hk1, hk2, rfl, rfl, hz, hwr⟩ := hrel
    have hri1 := HV1.out m
    have hri2 := HV2.out m
    rw [← hwr] at hri1 hri2
    have HWR := Lib.hid hwr
    clear hwr
    have HAM := Lib.hid (fun j => HA.out (m + j))
    have HBM := Lib.hid (fun j => HB.out (m + j))
    have HWJ := Lib.hid (show ∀ j, w.drewN (m + j) = wr.drewN j from fun j => by rw [HWR.out, World.drewN_drewN])
    have p1 : (0 : Int) ≤ (k : Int) := by omega
    by_cases hlt1 : k < a.length
    case neg =>
      have hend : a.length ≤ k ∨ b.length ≤ k := .inl (by omega)
      have n1 : ¬ ((k : Int) < (a.length : Int)) := by omega
      have HZ := Lib.hid (show pairL a b = mulL (a.take k) (b.take k) from by
        rcases hz.out with h | ⟨h, h'⟩
        · rw [HZR.out k hend h, h]; rfl
        · exact HEND.out h h' k hend)
      clear hend
      generalize mulL (a.take k) (b.take k) = s at *
      go_wp2_with fail
      go_ret
      exact ⟨ret_int HZ.out.symm, _, HWR.out⟩
    have n1 : (k : Int) < (a.length : Int) := by omega
    by_cases hlt2 : k < b.length
    case neg =>
      have hend : a.length ≤ k ∨ b.length ≤ k := .inr (by omega)
      have n2 : ¬ ((k : Int) < (b.length : Int)) := by omega
      have HZ := Lib.hid (show pairL a b = mulL (a.take k) (b.take k) from by
        rcases hz.out with h | ⟨h, h'⟩
        · rw [HZR.out k hend h, h]; rfl
        · exact HEND.out h h' k hend)
      clear hend
      generalize mulL (a.take k) (b.take k) = s at *
      go_wp2_with fail
      go_ret
      exact ⟨ret_int HZ.out.symm, _, HWR.out⟩
    have n2 : (k : Int) < (b.length : Int) := by omega
    have HC1 := Lib.hid (show Calls Try.prog 19 #[_] wr fun e w' => e = .returned (.bool qa) ∧ ∃ j, w' = wr.drewN j from by
      have h := HAM.out 0
      rw [HWJ.out] at h
      exact h)
    cases qa
    · have HZ := Lib.hid (show pairL a b = mulL (a.take k) (b.take k) from by
        rcases hz.out with h | ⟨h, _⟩
        · rw [HNO1.out rfl, h]; rfl
        · cases h)
      clear hz
      generalize mulL (a.take k) (b.take k) = s at *
      go_wp2_with fail
      refine HC1.out.mono ?_
      rintro e w1 ⟨rfl, j, rfl⟩
      go_wp2_with fail
      go_ret
      exact ⟨ret_int HZ.out.symm, _, by rw [HWR.out, World.drewN_drewN]⟩
    have HC2 := Lib.hid (show ∀ j, Calls Try.prog 19 #[_] (wr.drewN j) fun e w' => e = .returned (.bool qb) ∧ ∃ j', w' = (wr.drewN j).drewN j' from fun j => by
      have h := HBM.out j
      rw [HWJ.out] at h
      exact h)
    cases qb
    · have HZ := Lib.hid (show pairL a b = mulL (a.take k) (b.take k) from by
        rcases hz.out with h | ⟨_, h⟩
        · rw [HNO2.out rfl, h]; rfl
        · cases h)
      clear hz
      generalize mulL (a.take k) (b.take k) = s at *
      go_wp2_with fail
      refine HC1.out.mono ?_
      rintro e w1 ⟨rfl, j, rfl⟩
      go_wp2_with fail
      refine (HC2.out _).mono ?_
      rintro e w2 ⟨rfl, j', rfl⟩
      go_wp2_with fail
      go_ret
      exact ⟨ret_int HZ.out.symm, _, by rw [HWR.out, World.drewN_drewN]⟩
    obtain ⟨b1, o1, cap1, e1, hb1, hc1⟩ := ri_at hri1 hlt1
    injection e1 with e1 e2 e3
    subst e1 e3
    obtain ⟨b2, o2, cap2, e1, hb2, hc2⟩ := ri_at hri2 hlt2
    injection e1 with e1 e2 e3
    subst e1 e3
    have HNX := Lib.hid (mul_next hlt1 hlt2)
    obtain ⟨s1, s2⟩ := HBD.out rfl rfl k
    obtain ⟨s3, s4⟩ := HBD.out rfl rfl (k + 1)
    obtain ⟨x1, x2⟩ := (HP8.out rfl rfl).1 _ (List.getElem_mem hlt1)
    obtain ⟨y1, y2⟩ := (HP8.out rfl rfl).2 _ (List.getElem_mem hlt2)
    have z1 : 0 ≤ a[k] * b[k] := Int.mul_nonneg (by omega) (by omega)
    have z2 : a[k] * b[k] ≤ 64 := (show _ ≤ (8 : Int) * 8 from Int.mul_le_mul x2 y2 (by omega) (by omega))
    rw [HNX.out] at s3 s4
    clear hz
    generalize hs : mulL (a.take k) (b.take k) = s at *
    generalize a[k] = x at *
    generalize b[k] = y at *
    go_wp2_with fail
    refine HC1.out.mono ?_
    rintro e w1 ⟨rfl, j, rfl⟩
    go_wp2_with fail
    refine (HC2.out _).mono ?_
    rintro e w2 ⟨rfl, j', rfl⟩
    have hd1 : ((wr.drewN j).drewN j').cell? ⟨b1, o1 + k, none⟩ = some (.int .i64 x) := hc1
    have hd2 : ((wr.drewN j).drewN j').cell? ⟨b2, o2 + k, none⟩ = some (.int .i64 y) := hc2
    have m1 : IntKind.i64.wrap (x * y) = x * y := by rw [IntKind.wrap_i64]; omega
    have m2 : IntKind.i64.wrap (s + x * y) = s + x * y := by rw [IntKind.wrap_i64]; omega
    go_wp2_with fail
    go_quiet (fail)
    go_wp2_with fail
    go_roundw
    case rel => exact ⟨k + 1, _, by omega, by omega, by go_num, by rw [HNX.out], Lib.hid (by simp), by rw [HWR.out, World.drewN_drewN]⟩
    case measure => simp [intOf]; omega
set_option maxRecDepth 100000 in
set_option maxHeartbeats 1600000 in
theorem spec_norm (v : Value) (l : List Int) (p : Int) (B : Nat) (w : World) (hr : RI w v l B) :
    Calls Try.prog 34 #[v, .int .i64 p] w fun e w' => e = .returned (.int .i64 (normL l p)) ∧ ∃ m, w' = w.drewN m := by
  have HS := Lib.hid (fun m => spec_seq v l B (w.drewN m) (ri_dn hr m))
  have HV := Lib.hid (fun m => ri_dn hr m)
  have HNO := Lib.hid (show seqOk l = false → normL l p = 0 from norm_no p)
  have HNP := Lib.hid (show ¬ (1 ≤ p ∧ p ≤ 3) → normL l p = 0 from norm_nop)
  have HNE := Lib.hid (show l.length = 0 → normL l p = 0 from fun h => by
    rw [List.eq_nil_of_length_eq_zero h]
    unfold normL
    split <;> rfl)
  have HSQ := Lib.hid (show seqOk l = true → SeqP l from fun h => of_decide_eq_true h)
  have HYS := Lib.hid (show seqOk l = true → ∀ P : Nat, p = (P : Int) → 1 ≤ P ∧ P ≤ 3 → normL l p = powS l P from fun h P hP hb => by rw [hP]; exact norm_yes h hb)
  obtain ⟨a, cap, rfl, hlm, _⟩ := hr
  generalize seqOk l = q at *
  by_cases hgood : q = true ∧ 1 ≤ p ∧ p ≤ 3
  case neg =>
    have HZ := Lib.hid (show normL l p = 0 from by
      cases hq : q
      · exact HNO.out hq
      · exact HNP.out fun h => hgood ⟨hq, h⟩)
    have HGD := Lib.hid hgood
    clear hgood
    go_enter Try.func34, Try.ntmps34
    go_wp2_with fail
    go_loopw [5, 6] (fun n i wr => n = .int .i64 0 ∧ i = .int .i64 0 ∧ wr = w) (fun _ _ _ => 0)
    case atStart => exact ⟨rfl, rfl, rfl⟩
    case round =>
      obtain ⟨rfl, rfl, hwr⟩ := hrel
      have hs := HS.out 0
      rw [show w.drewN 0 = wr from by rw [hwr]; rfl] at hs
      have HC := Lib.hid hs
      have HWR := Lib.hid hwr
      clear hwr hs
      by_cases hlt : 0 < l.length
      · have n1 : (0 : Int) < (l.length : Int) := by omega
        cases q
        · go_wp2_with fail
          refine HC.out.mono ?_
          rintro e w1 ⟨rfl, j, rfl⟩
          go_wp2_with fail
          go_ret
          exact ⟨ret_int HZ.out.symm, _, by rw [HWR.out]⟩
        · have hp : ¬ (1 ≤ p ∧ p ≤ 3) := fun h => HGD.out ⟨rfl, h⟩
          have HI := Lib.hid (fun W => Fixed.l1In_no hp W)
          clear hp
          go_wp2_with fail
          refine HC.out.mono ?_
          rintro e w1 ⟨rfl, j, rfl⟩
          go_wp2_with fail
          refine (HI.out _).mono ?_
          rintro e w2 ⟨rfl, rfl⟩
          go_wp2_with fail
          go_ret
          exact ⟨ret_int HZ.out.symm, _, by rw [HWR.out]⟩
      · have n1 : ¬ ((0 : Int) < (l.length : Int)) := by omega
        go_wp2_with fail
        go_ret
        exact ⟨ret_int HZ.out.symm, 0, HWR.out⟩
  obtain ⟨rfl, hp1, hp3⟩ := hgood
  obtain ⟨P, rfl⟩ := Int.eq_ofNat_of_zero_le (show 0 ≤ p by omega)
  have hP1 : 1 ≤ P := by omega
  have hP3 : P ≤ 3 := by omega
  have hsp := HSQ.out rfl
  have HBD := Lib.hid (show ∀ k, 0 ≤ powS (l.take k) P ∧ powS (l.take k) P ≤ 4096 from fun k => powS_bd8 hP3 hsp k)
  have HP8 := Lib.hid (show ∀ x ∈ l, 1 ≤ x ∧ x ≤ 8 from fun x => pos8 hsp)
  have HEND := Lib.hid (show normL l (P : Int) = powS (l.take l.length) P from by rw [List.take_length]; exact HYS.out rfl P rfl ⟨hP1, hP3⟩)
  have HI := Lib.hid (fun W => Fixed.l1In_yes hp1 hp3 W)
  have HPW := Lib.hid (show ∀ (x : Int) (j : Nat), 1 ≤ x → x ≤ 8 → j ≤ 3 → 0 ≤ powI x j ∧ powI x j ≤ 512 from fun x j h1 h2 h3 => by
    obtain ⟨q1, q2⟩ := pow_bd (show 0 ≤ x by omega) h2 j
    have h8 : powI 8 j ≤ 512 := by
      obtain h | h | h | h : j = 0 ∨ j = 1 ∨ j = 2 ∨ j = 3 := by omega
      all_goals subst h; decide
    omega)
  clear hsp hp1 hp3
  go_enter Try.func34, Try.ntmps34
  go_wp2_with fail
  go_loopw [5, 6] (fun n i wr => ∃ k m : Nat, k ≤ l.length ∧ i = .int .i64 k ∧ n = .int .i64 (powS (l.take k) P) ∧ wr = w.drewN m) (fun _ i _ => l.length - (intOf i).toNat)
  case atStart => exact ⟨0, 0, Nat.zero_le _, rfl, rfl, rfl⟩
  case round =>
    obtain ⟨k, m, hk, rfl, rfl, hwr⟩ := hrel
    have hri := HV.out m
    have hs := HS.out m
    rw [← hwr] at hri hs
    have HC := Lib.hid hs
    have HWR := Lib.hid hwr
    clear hwr hs
    by_cases hlt : k < l.length
    · have p1 : (0 : Int) ≤ (k : Int) := by omega
      have p2 : (k : Int) < (l.length : Int) := by omega
      obtain ⟨b, off, cap', e1, hbB, hc⟩ := ri_at hri hlt
      injection e1 with e1 e2 e3
      subst e1 e3
      have HNX := Lib.hid (powS_next P hlt)
      obtain ⟨s1, s2⟩ := HBD.out k
      obtain ⟨s3, s4⟩ := HBD.out (k + 1)
      obtain ⟨x1, x2⟩ := HP8.out _ (List.getElem_mem hlt)
      rw [HNX.out] at s3 s4
      generalize hs : powS (l.take k) P = s at *
      generalize l[k] = z at *
      go_wp2_with fail
      refine HC.out.mono ?_
      rintro e w1 ⟨rfl, j, rfl⟩
      go_wp2_with fail
      refine (HI.out _).mono ?_
      rintro e w2 ⟨rfl, rfl⟩
      have hc1 : (wr.drewN j).cell? ⟨b, off + k, none⟩ = some (.int .i64 z) := hc
      have HWJ := Lib.hid (show ∃ m', wr.drewN j = w.drewN m' from ⟨_, by rw [HWR.out, World.drewN_drewN]⟩)
      generalize wr.drewN j = w0 at *
      go_wp2_with fail
      go_loop [7, 8] (fun x i => ∃ t : Nat, t ≤ P ∧ i = .int .i64 t ∧ x = .int .i64 (powI z t)) (fun _ i => P - (intOf i).toNat)
      case atStart => exact ⟨0, Nat.zero_le _, rfl, rfl⟩
      case round =>
        obtain ⟨t, ht, rfl, rfl⟩ := hrel
        by_cases htp : t < P
        · have t1 : (t : Int) < (P : Int) := by omega
          have t2 : (t : Int) ≤ 3 := by omega
          have HPX := Lib.hid (show powI z (t + 1) = powI z t * z from rfl)
          obtain ⟨u1, u2⟩ := HPW.out z t x1 x2 (by omega)
          obtain ⟨u3, u4⟩ := HPW.out z (t + 1) x1 x2 (by omega)
          rw [HPX.out] at u3 u4
          generalize powI z t = y at *
          have m1 : IntKind.i64.wrap (y * z) = y * z := by rw [IntKind.wrap_i64]; omega
          go_wp2_with fail
          go_round
          case rel => exact ⟨t + 1, by omega, by go_num, by rw [HPX.out]⟩
          case measure => simp [intOf]; omega
        · obtain rfl : t = P := by omega
          have t1 : ¬ ((t : Int) < (t : Int)) := by omega
          obtain ⟨u1, u2⟩ := HPW.out z t x1 x2 (by omega)
          generalize powI z t = y at *
          go_wp2_with fail
          go_roundw
          case rel => exact ⟨k + 1, _, by omega, by go_num, by rw [HNX.out], HWJ.out.choose_spec⟩
          case measure => simp [intOf]; omega
    · have ek : k = l.length := by omega
      subst ek
      generalize powS (l.take l.length) P = s at *
      go_wp2_with fail
      go_ret
      exact ⟨ret_int HEND.out.symm, _, HWR.out⟩
set_option maxRecDepth 100000 in
set_option maxHeartbeats 1600000 in
theorem spec_root (n k : Int) (w : World) :
    Calls Try.prog 29 #[.int .i64 n, .int .i64 k] w fun e w' => e = .returned (.int .i64 (rootI n k)) ∧ w = w' := by
  by_cases hn : 0 ≤ n ∧ n ≤ 1000000
  case neg =>
    have HZ := Lib.hid (show rootI n k = -1 from root_no fun q => hn ⟨q.1, q.2.1⟩)
    have HI := Lib.hid (fun W => Fixed.l1In_no hn W)
    clear hn
    go_enter Try.func29, Try.ntmps29
    go_wp2_with fail
    refine (HI.out _).mono ?_
    rintro e w1 ⟨rfl, rfl⟩
    go_wp2_with fail
    go_ret
    exact ⟨ret_int HZ.out.symm, rfl⟩
  have HI1 := Lib.hid (fun W => Fixed.l1In_yes hn.1 hn.2 W)
  by_cases hk : 1 ≤ k ∧ k ≤ 3
  case neg =>
    have HZ := Lib.hid (show rootI n k = -1 from root_no fun q => hk q.2.2)
    have HI := Lib.hid (fun W => Fixed.l1In_no hk W)
    clear hn hk
    go_enter Try.func29, Try.ntmps29
    go_wp2_with fail
    refine (HI1.out _).mono ?_
    rintro e w1 ⟨rfl, rfl⟩
    go_wp2_with fail
    refine (HI.out _).mono ?_
    rintro e w1 ⟨rfl, rfl⟩
    go_wp2_with fail
    go_ret
    exact ⟨ret_int HZ.out.symm, rfl⟩
  have HI2 := Lib.hid (fun W => Fixed.l1In_yes hk.1 hk.2 W)
  obtain ⟨K, rfl⟩ := Int.eq_ofNat_of_zero_le (show 0 ≤ k by omega)
  obtain ⟨hn0, hn6⟩ := hn
  have hK1 : 1 ≤ K := by omega
  have hK3 : K ≤ 3 := by omega
  clear hk
  by_cases hone : K = 1
  · subst hone
    have HZ := Lib.hid (show rootI n ((1 : Nat) : Int) = n from root_one ⟨hn0, hn6⟩)
    go_enter Try.func29, Try.ntmps29
    go_wp2_with fail
    refine (HI1.out _).mono ?_
    rintro e w1 ⟨rfl, rfl⟩
    go_wp2_with fail
    refine (HI2.out _).mono ?_
    rintro e w1 ⟨rfl, rfl⟩
    go_wp2_with fail
    go_ret
    exact ⟨ret_int HZ.out.symm, rfl⟩
  have hone' : ¬ (K : Int) = 1 := by omega
  have HSM := Lib.hid (show ∀ r : Nat, powI (r : Int) K ≤ n → r ≤ 1000 from fun r h => by
    by_cases h1 : r ≤ 1000
    · exact h1
    · have h2 : powI 1001 2 ≤ powI (r : Int) K := by
        obtain rfl | rfl : K = 2 ∨ K = 3 := by omega
        · exact pow_mono (by omega) (by omega) 2
        · exact Int.le_trans (by decide) (pow_mono (x := 1001) (by omega) (by omega) 3)
      have h3 : powI 1001 2 = 1002001 := by decide
      omega)
  have HPW := Lib.hid (show ∀ r j : Nat, r ≤ 1000 → j ≤ 3 → 0 ≤ powI ((r : Int) + 1) j ∧ powI ((r : Int) + 1) j ≤ 2000000000 from fun r j h1 h3 => by
    obtain ⟨q1, q2⟩ := pow_bd (x := (r : Int) + 1) (m := 1001) (by omega) (by omega) j
    have h8 : powI 1001 j ≤ 2000000000 := by
      obtain h | h | h | h : j = 0 ∨ j = 1 ∨ j = 2 ∨ j = 3 := by omega
      all_goals subst h; decide
    omega)
  have HEND := Lib.hid (show ∀ r : Nat, powI (r : Int) K ≤ n → n < powI ((r : Int) + 1) K → rootI n (K : Int) = (r : Int) from fun r h1 h2 => root_is (by omega) h1 h2)
  have HST := Lib.hid (show powI ((0 : Nat) : Int) K ≤ n from by
    obtain rfl | rfl : K = 2 ∨ K = 3 := by omega
    all_goals simp [powI]; omega)
  have HRN := Lib.hid (show ∀ r : Nat, powI ((r : Int) + 1) K ≤ n → (r : Int) < n from fun r h => by
    obtain ⟨j, rfl⟩ : ∃ j, K = j + 1 := ⟨K - 1, by omega⟩
    have := pow_ge (x := (r : Int) + 1) (by omega) j
    omega)
  go_enter Try.func29, Try.ntmps29
  go_wp2_with fail
  refine (HI1.out _).mono ?_
  rintro e w1 ⟨rfl, rfl⟩
  go_wp2_with fail
  refine (HI2.out _).mono ?_
  rintro e w1 ⟨rfl, rfl⟩
  go_wp2_with fail
  go_loop [5] (fun r => ∃ t : Nat, r = .int .i64 t ∧ Hid (powI (t : Int) K ≤ n)) (fun r => n.toNat - (intOf r).toNat)
  case atStart => exact ⟨0, rfl, HST⟩
  case round =>
    obtain ⟨t, rfl, ht⟩ := hrel
    have hts := HSM.out t ht.out
    have t0 : (t : Int) ≤ 1000 := by omega
    go_wp2_with fail
    go_loop [6, 7] (fun x i => ∃ j : Nat, j ≤ K ∧ i = .int .i64 j ∧ x = .int .i64 (powI ((t : Int) + 1) j)) (fun _ i => K - (intOf i).toNat)
    case atStart => exact ⟨0, Nat.zero_le _, rfl, rfl⟩
    case round =>
      obtain ⟨j, hj, rfl, rfl⟩ := hrel
      by_cases hjk : j < K
      · have t1 : (j : Int) < (K : Int) := by omega
        have t2 : (j : Int) ≤ 3 := by omega
        have HPX := Lib.hid (show powI ((t : Int) + 1) (j + 1) = powI ((t : Int) + 1) j * ((t : Int) + 1) from rfl)
        obtain ⟨u1, u2⟩ := HPW.out t j hts (by omega)
        obtain ⟨u3, u4⟩ := HPW.out t (j + 1) hts (by omega)
        rw [HPX.out] at u3 u4
        generalize powI ((t : Int) + 1) j = y at *
        have m1 : IntKind.i64.wrap (y * ((t : Int) + 1)) = y * ((t : Int) + 1) := by rw [IntKind.wrap_i64]; omega
        go_wp2_with fail
        go_round
        case rel => exact ⟨j + 1, by omega, by go_num, by rw [HPX.out]⟩
        case measure => simp [intOf]; omega
      · obtain rfl : j = K := by omega
        have t1 : ¬ ((j : Int) < (j : Int)) := by omega
        by_cases hgt : n < powI ((t : Int) + 1) j
        · have HZ := Lib.hid (HEND.out t ht.out hgt)
          generalize powI ((t : Int) + 1) j = y at *
          go_wp2_with fail
          go_ret
          exact ⟨ret_int HZ.out.symm, rfl⟩
        · have HNX := Lib.hid (show powI ((t + 1 : Nat) : Int) j ≤ n from by push_cast; omega)
          have HLT := Lib.hid (HRN.out t (by omega))
          generalize powI ((t : Int) + 1) j = y at *
          go_wp2_with fail
          go_round
          case rel => exact ⟨t + 1, by go_num, HNX⟩
          case measure => have := HLT.out; simp [intOf]; omega
set_option maxRecDepth 100000 in
set_option maxHeartbeats 1600000 in
theorem spec_cau (v1 v2 : Value) (a b : List Int) (B1 B2 : Nat) (w : World) (h1 : RI w v1 a B1) (h2 : RI w v2 b B2) :
    Calls Try.prog 35 #[v1, v2] w fun e w' => e = .returned (.int .i64 (cauL a b)) ∧ ∃ m, w' = w.drewN m := by
  have HA := Lib.hid (spec_seq v1 a B1 w h1)
  have HB := Lib.hid (fun m => spec_seq v2 b B2 (w.drewN m) (ri_dn h2 m))
  have HNA := Lib.hid (fun m => spec_norm v1 a 2 B1 (w.drewN m) (ri_dn h1 m))
  have HNB := Lib.hid (fun m => spec_norm v2 b 2 B2 (w.drewN m) (ri_dn h2 m))
  have HNO1 := Lib.hid (show seqOk a = false → cauL a b = 0 from cau_no1)
  have HNO2 := Lib.hid (show seqOk b = false → cauL a b = 0 from cau_no2)
  have HRT := Lib.hid (fun W => spec_root (normL a 2 * normL b 2) 2 W)
  rw [cau_root] at HRT
  obtain ⟨s1, s2⟩ := norm2_mul a b
  obtain ⟨s3, s4⟩ := norm2_bd a
  obtain ⟨s5, s6⟩ := norm2_bd b
  obtain ⟨a1, c1, rfl, hl1, _⟩ := h1
  obtain ⟨a2, c2, rfl, hl2, _⟩ := h2
  generalize seqOk a = qa at *
  generalize seqOk b = qb at *
  generalize cauL a b = R at *
  generalize normL a 2 = x at *
  generalize normL b 2 = y at *
  have m1 : IntKind.i64.wrap (x * y) = x * y := by rw [IntKind.wrap_i64]; omega
  cases qa
  · have HZ := Lib.hid (HNO1.out rfl)
    go_enter Try.func35, Try.ntmps35
    go_wp2_with fail
    refine HA.out.mono ?_
    rintro e w1 ⟨rfl, j1, rfl⟩
    go_wp2_with fail
    go_ret
    exact ⟨ret_int HZ.out.symm, _, rfl⟩
  cases qb
  · have HZ := Lib.hid (HNO2.out rfl)
    go_enter Try.func35, Try.ntmps35
    go_wp2_with fail
    refine HA.out.mono ?_
    rintro e w1 ⟨rfl, j1, rfl⟩
    go_wp2_with fail
    refine (HB.out _).mono ?_
    rintro e w1 ⟨rfl, j2, rfl⟩
    go_wp2_with fail
    go_ret
    exact ⟨ret_int HZ.out.symm, _, rfl⟩
  have HDD := Lib.hid (show ∀ i j, (w.drewN i).drewN j = w.drewN (i + j) from fun i j => World.drewN_drewN ..)
  go_enter Try.func35, Try.ntmps35
  go_wp2_with fail
  refine HA.out.mono ?_
  rintro e w1 ⟨rfl, j1, rfl⟩
  go_wp2_with fail
  refine (HB.out _).mono ?_
  rintro e w1 ⟨rfl, j2, rfl⟩
  rw [HDD.out]
  go_wp2_with fail
  refine (HNA.out _).mono ?_
  rintro e w1 ⟨rfl, j3, rfl⟩
  rw [HDD.out]
  go_wp2_with fail
  refine (HNB.out _).mono ?_
  rintro e w1 ⟨rfl, j4, rfl⟩
  rw [HDD.out]
  go_wp2_with fail
  refine (HRT.out _).mono ?_
  rintro e w1 ⟨rfl, rfl⟩
  go_wp2_with fail
  go_ret
  exact ⟨rfl, _, rfl⟩
set_option maxRecDepth 100000 in
set_option maxHeartbeats 1600000 in
theorem spec_mxd (v1 v2 : Value) (a b : List Int) (B1 B2 : Nat) (w : World) (h1 : RI w v1 a B1) (h2 : RI w v2 b B2) :
    Calls Try.prog 36 #[v1, v2] w fun e w' => e = .returned (.int .i64 (mxdL a b)) ∧ ∃ m, w' = w.drewN m := by
  have HA := Lib.hid (spec_seq v1 a B1 w h1)
  have HB := Lib.hid (fun m => spec_seq v2 b B2 (w.drewN m) (ri_dn h2 m))
  have HTA := Lib.hid (fun m => spec_total v1 a B1 (w.drewN m) (ri_dn h1 m))
  have HTB := Lib.hid (fun m => spec_total v2 b B2 (w.drewN m) (ri_dn h2 m))
  have HV1 := Lib.hid (fun m => ri_dn h1 m)
  have HV2 := Lib.hid (fun m => ri_dn h2 m)
  have HNO1 := Lib.hid (show seqOk a = false ∨ a.length = 0 → mxdL a b = 0 from fun h => mxd_no1 (h.imp id List.eq_nil_of_length_eq_zero))
  have HNO2 := Lib.hid (show seqOk b = false ∨ b.length = 0 → mxdL a b = 0 from fun h => mxd_no2 (h.imp id List.eq_nil_of_length_eq_zero))
  have HT1 := Lib.hid (show seqOk a = true → topL a 1 = a.headD 0 from top_one)
  have HT2 := Lib.hid (show seqOk b = true → topL b 1 = b.headD 0 from top_one)
  have HEQ := Lib.hid (show mxdL a b = min (totL a * topL b 1) (totL b * topL a 1) from rfl)
  obtain ⟨⟨s1, s2⟩, s3, s4⟩ := mxd_bd a b
  obtain ⟨a1, c1, rfl, hl1, hz1⟩ := h1
  obtain ⟨a2, c2, rfl, hl2, hz2⟩ := h2
  clear hz1 hz2
  have HDD := Lib.hid (show ∀ i j, (w.drewN i).drewN j = w.drewN (i + j) from fun i j => World.drewN_drewN ..)
  generalize seqOk a = qa at *
  generalize seqOk b = qb at *
  generalize mxdL a b = R at *
  cases qa
  · have HZ := Lib.hid (HNO1.out (.inl rfl))
    go_enter Try.func36, Try.ntmps36
    go_wp2_with fail
    refine HA.out.mono ?_
    rintro e w1 ⟨rfl, j1, rfl⟩
    go_wp2_with fail
    go_ret
    exact ⟨ret_int HZ.out.symm, _, rfl⟩
  cases qb
  · have HZ := Lib.hid (HNO2.out (.inl rfl))
    go_enter Try.func36, Try.ntmps36
    go_wp2_with fail
    refine HA.out.mono ?_
    rintro e w1 ⟨rfl, j1, rfl⟩
    go_wp2_with fail
    refine (HB.out _).mono ?_
    rintro e w1 ⟨rfl, j2, rfl⟩
    rw [HDD.out]
    go_wp2_with fail
    go_ret
    exact ⟨ret_int HZ.out.symm, _, rfl⟩
  by_cases ha0 : a.length = 0
  · have HZ := Lib.hid (HNO1.out (.inr ha0))
    clear HTA HTB HV1 HV2 HNO1 HNO2 HT1 HT2 HEQ
    generalize a.length = N at *
    subst ha0
    go_enter Try.func36, Try.ntmps36
    go_wp2_with fail
    refine HA.out.mono ?_
    rintro e w1 ⟨rfl, j1, rfl⟩
    go_wp2_with fail
    refine (HB.out _).mono ?_
    rintro e w1 ⟨rfl, j2, rfl⟩
    rw [HDD.out]
    go_wp2_with fail
    go_ret
    exact ⟨ret_int HZ.out.symm, _, rfl⟩
  have na : ¬ (a.length : Int) = 0 := by omega
  by_cases hb0 : b.length = 0
  · have HZ := Lib.hid (HNO2.out (.inr hb0))
    clear HTA HTB HV1 HV2 HNO1 HNO2 HT1 HT2 HEQ
    generalize b.length = N at *
    subst hb0
    go_enter Try.func36, Try.ntmps36
    go_wp2_with fail
    refine HA.out.mono ?_
    rintro e w1 ⟨rfl, j1, rfl⟩
    go_wp2_with fail
    refine (HB.out _).mono ?_
    rintro e w1 ⟨rfl, j2, rfl⟩
    rw [HDD.out]
    go_wp2_with fail
    go_ret
    exact ⟨ret_int HZ.out.symm, _, rfl⟩
  have nb : ¬ (b.length : Int) = 0 := by omega
  have na2 : ((a.length : Int) == 0) = false := beq_eq_false_iff_ne.2 na
  have nb2 : ((b.length : Int) == 0) = false := beq_eq_false_iff_ne.2 nb
  have qa1 : (0 : Int) < (a.length : Int) := by omega
  have qb1 : (0 : Int) < (b.length : Int) := by omega
  have pa : 0 < a.length := by omega
  have pb : 0 < b.length := by omega
  have e1 : topL a 1 = a[0] := by rw [HT1.out rfl]; cases a with | nil => cases pa | cons x l => rfl
  have e2 : topL b 1 = b[0] := by rw [HT2.out rfl]; cases b with | nil => cases pb | cons x l => rfl
  rw [e1, e2] at HEQ
  rw [e2] at s1 s2
  rw [e1] at s3 s4
  obtain ⟨g1, o1, k1, q1, hg1, hc1⟩ := ri_at (HV1.out 0) pa
  injection q1 with q1 q2 q3
  subst q1 q3
  obtain ⟨g2, o2, k2, q1, hg2, hc2⟩ := ri_at (HV2.out 0) pb
  injection q1 with q1 q2 q3
  subst q1 q3
  rw [Nat.add_zero] at hc1 hc2
  clear e1 e2
  generalize a[0] = x at *
  generalize b[0] = y at *
  generalize totL a = ta at *
  generalize totL b = tb at *
  have m1 : IntKind.i64.wrap (ta * y) = ta * y := by rw [IntKind.wrap_i64]; omega
  have m2 : IntKind.i64.wrap (tb * x) = tb * x := by rw [IntKind.wrap_i64]; omega
  go_enter Try.func36, Try.ntmps36
  go_wp2_with fail
  refine HA.out.mono ?_
  rintro e w1 ⟨rfl, j1, rfl⟩
  go_wp2_with fail
  refine (HB.out _).mono ?_
  rintro e w1 ⟨rfl, j2, rfl⟩
  rw [HDD.out]
  have hd1 : (w.drewN (j1 + j2)).cell? ⟨g1, o1, none⟩ = some (.int .i64 x) := hc1
  have hd2 : (w.drewN (j1 + j2)).cell? ⟨g2, o2, none⟩ = some (.int .i64 y) := hc2
  have HTA2 := Lib.hid (show ∀ q, Calls Try.prog 21 #[_] ((w.drewN (j1 + j2)).drewN q) fun e w' => e = .returned (.int .i64 ta) ∧ ∃ m, w' = ((w.drewN (j1 + j2)).drewN q).drewN m from fun q => by
    rw [HDD.out]
    exact HTA.out _)
  have HTB2 := Lib.hid (show ∀ q, Calls Try.prog 21 #[_] ((w.drewN (j1 + j2)).drewN q) fun e w' => e = .returned (.int .i64 tb) ∧ ∃ m, w' = ((w.drewN (j1 + j2)).drewN q).drewN m from fun q => by
    rw [HDD.out]
    exact HTB.out _)
  generalize hWW : w.drewN (j1 + j2) = W at *
  have HWW := Lib.hid hWW.symm
  clear hWW
  go_wp2_with fail
  go_quiet (first | (go_at_call 21; first | with_reducible exact Calls.quiet_of (HTA2.out _) | with_reducible exact Calls.quiet_of (HTB2.out _)))
  go_wp2_with fail
  all_goals go_ret
  all_goals exact ⟨ret_int (by have := HEQ.out; omega), _, by rw [HWW.out, HDD.out]⟩
/-- A sequence built. -/
def SeqAns (l : List Int) (w : World) (e : Ending) (w' : World) : Prop :=
  ∃ (v : Value) (fp : List Nat), e = .returned v ∧ rowC.ow w' w.heap.size [v] l fp ∧ fp.Nodup ∧ Below w.heap.size w w'
set_option maxRecDepth 100000 in
set_option maxHeartbeats 1600000 in
theorem spec_from (t g : Int) (w : World) :
    Calls Try.prog 37 #[.int .i64 t, .int .i64 g] w fun e w' => SeqAns (sfnL t g) w e w' := by
  have hbs : w.heap.size ≤ w.heap.size := Nat.le_refl _
  have HE := Lib.hid (And.intro (Ints.OwnI.empty w w.heap.size 3 hbs) ((Below.refl w.heap.size w).alloc hbs (.cells #[] 3)))
  by_cases ht : 0 ≤ t ∧ t ≤ 8
  case neg =>
    have HZ := Lib.hid (show sfnL t g = [] from sfn_no fun q => ht ⟨q.1, q.2.1⟩)
    have HI := Lib.hid (fun W => Fixed.l1In_no ht W)
    clear ht
    go_enter Try.func37, Try.ntmps37
    go_wp2_with fail
    refine (HI.out _).mono ?_
    rintro e w1 ⟨rfl, rfl⟩
    go_wp2_with fail
    go_ret
    exact ⟨_, _, rfl, by rw [HZ.out]; exact Cd.ow_of_own HE.out.1 (fun x hx => by cases hx), Cd.own_nodup, HE.out.2⟩
  have HI := Lib.hid (fun W => Fixed.l1In_yes ht.1 ht.2 W)
  by_cases hg : g < 1
  · have HZ := Lib.hid (show sfnL t g = [] from sfn_no fun q => by omega)
    go_enter Try.func37, Try.ntmps37
    go_wp2_with fail
    refine (HI.out _).mono ?_
    rintro e w1 ⟨rfl, rfl⟩
    go_wp2_with fail
    go_ret
    exact ⟨_, _, rfl, by rw [HZ.out]; exact Cd.ow_of_own HE.out.1 (fun x hx => by cases hx), Cd.own_nodup, HE.out.2⟩
  obtain ⟨T, rfl⟩ := Int.eq_ofNat_of_zero_le ht.1
  obtain ⟨G, rfl⟩ := Int.eq_ofNat_of_zero_le (show 0 ≤ g by omega)
  have hT : T ≤ 8 := by omega
  have hG : 1 ≤ G := by omega
  have HEQ := Lib.hid (sfn_yes ⟨hT, hG⟩)
  have HST := Lib.hid (fun (k : Nat) (h : G ≤ k) => sfn_step h hG)
  have HBG := Lib.hid (fun (k : Nat) (h : k < G) (h0 : 0 < k) => sfn_big h h0)
  have HZR := Lib.hid (sfn_zero G)
  have HM8 := Lib.hid (fun (x : Int) (h : x ∈ sfnN T G) => sfn_mem hT h)
  clear ht
  go_enter Try.func37, Try.ntmps37
  go_wp2_with fail
  refine (HI.out _).mono ?_
  rintro e w1 ⟨rfl, rfl⟩
  go_wp2_with fail
  go_loopw [0, 5] (fun t o wr => ∃ (k : Nat) (out : List Int), t = .int .i64 k ∧ k ≤ 8 ∧ out.length + k ≤ 8 ∧ Hid (sfnN T G = out ++ sfnN k G) ∧ OwnI wr w.heap.size 3 o out ∧ Below w.heap.size w wr) (fun t _ _ => (intOf t).toNat)
  case atStart => exact ⟨T, [], rfl, hT, by simpa using hT, Lib.hid rfl, HE.out.1, HE.out.2⟩
  case round =>
    obtain ⟨k, out, rfl, hk8, hlk, heq, hown, hb⟩ := hrel
    have hbs := hb.size
    have HB := Lib.hid hb
    have hlen : out.length + 1 ≤ 1000000000000 := by omega
    by_cases hk0 : k = 0
    · subst hk0
      have HZ := Lib.hid (show sfnL (T : Int) (G : Int) = out from by rw [HEQ.out, heq.out, HZR.out, List.append_nil])
      have HIN := Lib.hid (show InR out from fun x hx => by
        have := HM8.out x (by rw [heq.out]; exact List.mem_append_left _ hx)
        omega)
      have HO := Lib.hid hown
      clear hown hb
      go_wp2_with fail
      go_ret
      exact ⟨_, _, rfl, by rw [HZ.out]; exact Cd.ow_of_own HO.out HIN.out, Cd.own_nodup, HB.out⟩
    have k0 : (0 : Int) < (k : Int) := by omega
    by_cases hge : G < k
    · have HQ := Lib.hid (show sfnN T G = (out ++ [(G : Int)]) ++ sfnN (k - G) G from by rw [heq.out, HST.out k (by omega), List.append_assoc]; rfl)
      have n1 : (G : Int) < (k : Int) := by omega
      have HCS := Lib.hid (show (k : Int) - (G : Int) = ((k - G : Nat) : Int) from by omega)
      clear hb
      go_wp2_with (at_builtin; refine wp_appendI rfl (.tmp 17) (.tmp 21) 24 rfl w.heap.size 3 Try.underlying24 info_i64 _ _ rfl hown _ rfl hlen hbs ?_)
      intro v' w5 hown5 hb5
      go_wp2_with fail
      go_roundw
      case rel => exact ⟨k - G, _, by rw [HCS.out], by omega, by rw [List.length_append, List.length_singleton]; omega, HQ, hown5, HB.out.trans hb5⟩
      case measure => simp [intOf]; omega
    · have HQ := Lib.hid (show sfnN T G = (out ++ [(k : Int)]) ++ sfnN 0 G from by
        rw [heq.out]
        by_cases e : k = G
        · subst e; rw [HST.out k (Nat.le_refl _), Nat.sub_self, HZR.out, List.append_nil]
        · rw [HBG.out k (by omega) (by omega), HZR.out, List.append_nil])
      have n1 : ¬ (G : Int) < (k : Int) := by omega
      clear hb
      go_wp2_with (at_builtin; refine wp_appendI rfl (.tmp 17) (.tmp 21) 24 rfl w.heap.size 3 Try.underlying24 info_i64 _ _ rfl hown _ rfl hlen hbs ?_)
      intro v' w5 hown5 hb5
      go_wp2_with fail
      go_roundw
      case rel => exact ⟨0, _, by simp, by omega, by rw [List.length_append, List.length_singleton]; omega, HQ, hown5, HB.out.trans hb5⟩
      case measure => simp [intOf]; omega
end Go.Proofs.Ytklamhnecncenaa.SbSpec

namespace Go.Proofs.Ytklamhnecncenaa.SbZip
open Go Go.RowKit Byt Ints IntsLaw Cd Rows2 Tab TabSpec TabImp Loc DegMath SbMath

def prodL (l : List Int) : Int := l.foldl (· * ·) 1
theorem prod_next {l : List Int} {k : Nat} (h : k < l.length) : prodL (l.take (k + 1)) = prodL (l.take k) * l[k] := by
  unfold prodL
  rw [List.take_succ_eq_append_getElem h, List.foldl_append]
  rfl
theorem prod_rep (x : Int) : ∀ k, prodL (List.replicate k x) = powI x k
  | 0 => rfl
  | k + 1 => by
    have := prod_rep x k
    unfold prodL at *
    rw [List.replicate_succ', List.foldl_append, this]
    rfl
theorem fold_bd : ∀ (l : List Int) (a A : Int), (∀ x ∈ l, 0 ≤ x ∧ x ≤ 8) → 0 ≤ a → a ≤ A → 0 ≤ l.foldl (· * ·) a ∧ l.foldl (· * ·) a ≤ A * powI 8 l.length
  | [], a, A, _, h0, h1 => by simp [powI]; omega
  | x :: l, a, A, h, h0, h1 => by
    obtain ⟨x0, x1⟩ := h x List.mem_cons_self
    have := fold_bd l (a * x) (A * 8) (fun y q => h y (List.mem_cons_of_mem _ q)) (Int.mul_nonneg h0 x0) (Int.mul_le_mul h1 x1 x0 (by omega))
    refine ⟨this.1, Int.le_trans this.2 ?_⟩
    rw [List.length_cons, powI, Int.mul_assoc, Int.mul_comm 8]
    exact Int.le_refl _
theorem prod_bd {l : List Int} (h : ∀ x ∈ l, 0 ≤ x ∧ x ≤ 8) (hl : l.length ≤ 3) : 0 ≤ prodL l ∧ prodL l ≤ 512 := by
  have h1 := fold_bd l 1 1 h (by omega) (by omega)
  have h8 : powI 8 l.length ≤ 512 := by
    obtain h | h | h | h : l.length = 0 ∨ l.length = 1 ∨ l.length = 2 ∨ l.length = 3 := by omega
    all_goals rw [h]; decide
  unfold prodL
  omega

/-! ### the least length -/
def minL : List (List Int) → Nat
  | [] => 0
  | [l] => l.length
  | l :: r => min l.length (minL r)
def lens (L : List (List Int)) : List Int := L.map fun l => (l.length : Int)
theorem minL_cons (l : List Int) {r : List (List Int)} (h : r ≠ []) : minL (l :: r) = min l.length (minL r) := by
  cases r with
  | nil => exact absurd rfl h
  | cons x r => rfl
theorem minL_le : ∀ {L : List (List Int)} {l : List Int}, l ∈ L → minL L ≤ l.length
  | [x], l, h => by rw [List.mem_singleton.1 h]; exact Nat.le_refl _
  | x :: y :: r, l, h => by
    rw [minL_cons x (by simp)]
    rcases List.mem_cons.1 h with q | q
    · rw [q]; omega
    · have := minL_le q; omega
theorem fold_min : ∀ (L : List (List Int)) (a : Int), L ≠ [] → (lens L).foldl min a = min a (minL L : Int)
  | [], _, h => absurd rfl h
  | [l], a, _ => rfl
  | x :: y :: r, a, _ => by
    have ih := fold_min (y :: r) (min a (x.length : Int)) (by simp)
    rw [minL_cons x (by simp)]
    unfold lens at *
    rw [List.map_cons, List.foldl_cons, ih]
    omega
theorem minOf_lens {L : List (List Int)} (h : L ≠ []) : Lib.minOf (lens L) = (minL L : Int) := by
  unfold Lib.minOf
  rw [fold_min L _ h]
  cases L with
  | nil => exact absurd rfl h
  | cons l r =>
    have := minL_le (L := l :: r) List.mem_cons_self
    show min ((l.length : Int)) _ = _
    omega
theorem lens_len (L : List (List Int)) : (lens L).length = L.length := List.length_map _
theorem minL_rep (l : List Int) : ∀ p, minL (List.replicate (p + 1) l) = l.length
  | 0 => rfl
  | p + 1 => by
    rw [List.replicate_succ, minL_cons _ (by simp), minL_rep l p]
    omega

/-! ### zipped -/
def colL (L : List (List Int)) (i : Nat) : List Int := L.map fun l => l.getD i 0
def zipL (L : List (List Int)) (M : Nat) : List (List Int) := (List.range M).map (colL L)
theorem zip_len (L : List (List Int)) (M : Nat) : (zipL L M).length = M := by unfold zipL; rw [List.length_map, List.length_range]
theorem zip_at (L : List (List Int)) (M : Nat) {k : Nat} (h : k < (zipL L M).length) : (zipL L M)[k] = colL L k := by
  have h2 : k < M := by rwa [zip_len] at h
  have h3 : (zipL L M)[k]? = some (colL L k) := by unfold zipL; simp [h2]
  rw [List.getElem?_eq_getElem h] at h3
  exact Option.some.inj h3
theorem col_len (L : List (List Int)) (i : Nat) : (colL L i).length = L.length := List.length_map _
def sumP (Z : List (List Int)) : Int := (Z.map prodL).sum
theorem sum_more {Z : List (List Int)} {k : Nat} (h : k < Z.length) : sumP (Z.take (k + 1)) = sumP (Z.take k) + prodL Z[k] := by
  unfold sumP
  rw [List.take_succ_eq_append_getElem h, List.map_append, List.sum_append]
  simp
def allSeq (L : List (List Int)) : Bool := L.all seqOk
def sopL (L : List (List Int)) : Int := if allSeq L then sumP (zipL L (minL L)) else 0
theorem all_seq {L : List (List Int)} (h : allSeq L = true) {l : List Int} (hl : l ∈ L) : SeqP l := of_decide_eq_true (List.all_eq_true.1 h l hl)
/-- Every row that is zipped holds degrees. -/
theorem col_bd {L : List (List Int)} (h : allSeq L = true) (i : Nat) : ∀ x ∈ colL L i, 0 ≤ x ∧ x ≤ 8 := fun x hx => by
  obtain ⟨l, hl, rfl⟩ := List.mem_map.1 hx
  by_cases hi : i < l.length
  · have := pos8 (all_seq h hl) (List.getElem_mem hi)
    simp [hi]
    omega
  · simp [hi]
theorem zip_row {L : List (List Int)} (h : allSeq L = true) (hl : L.length ≤ 3) {M : Nat} {r : List Int} (hr : r ∈ zipL L M) (k : Nat) : 0 ≤ prodL (r.take k) ∧ prodL (r.take k) ≤ 512 := by
  unfold zipL at hr
  obtain ⟨i, _, rfl⟩ := List.mem_map.1 hr
  exact prod_bd (fun x hx => col_bd h i x (List.mem_of_mem_take hx)) (by rw [List.length_take, col_len]; omega)
theorem sumP_bd : ∀ {Z : List (List Int)}, (∀ r ∈ Z, 0 ≤ prodL r ∧ prodL r ≤ 512) → 0 ≤ sumP Z ∧ sumP Z ≤ 512 * (Z.length : Int)
  | [], _ => by simp [sumP]
  | r :: Z, h => by
    have ih := sumP_bd (Z := Z) fun x q => h x (List.mem_cons_of_mem _ q)
    have := h r List.mem_cons_self
    have e : sumP (r :: Z) = prodL r + sumP Z := by unfold sumP; rw [List.map_cons, List.sum_cons]
    rw [e]
    simp only [List.length_cons]
    omega
theorem min8 {L : List (List Int)} (h : allSeq L = true) (h0 : L ≠ []) : minL L ≤ 8 := by
  cases L with
  | nil => exact absurd rfl h0
  | cons l r =>
    have h1 := minL_le (L := l :: r) List.mem_cons_self
    have h2 := seq_len (all_seq h List.mem_cons_self)
    omega

theorem range_sum : ∀ (a b : List Int), ((List.range (min a.length b.length)).map fun i => a.getD i 0 * b.getD i 0).sum = mulL a b
  | [], b => by simp [mulL]
  | a :: al, [] => by simp [mulL]
  | a :: al, b :: bs => by
    have ih := range_sum al bs
    rw [List.length_cons, List.length_cons, show min (al.length + 1) (bs.length + 1) = min al.length bs.length + 1 by omega, List.range_succ_eq_map, List.map_cons, List.sum_cons, List.map_map, mulL, ← ih]
    rfl
theorem sop_pair (a b : List Int) : sopL [a, b] = pairL a b := by
  unfold sopL pairL allSeq
  rw [List.all_cons, List.all_cons, List.all_nil, Bool.and_true]
  split
  · rw [← range_sum]
    unfold sumP zipL
    rw [List.map_map]
    congr 1
    refine List.map_congr_left fun i _ => ?_
    show prodL [a.getD i 0, b.getD i 0] = _
    simp [prodL]
  · rfl
theorem range_pow : ∀ (l : List Int) (p : Nat), ((List.range l.length).map fun i => powI (l.getD i 0) p).sum = powS l p
  | [], p => rfl
  | a :: al, p => by
    have ih := range_pow al p
    rw [List.length_cons, List.range_succ_eq_map, List.map_cons, List.sum_cons, List.map_map]
    have e : powS (a :: al) p = powI a p + powS al p := by unfold powS; rw [List.map_cons, List.sum_cons]
    rw [e, ← ih]
    rfl
theorem all_rep (l : List Int) : ∀ p, allSeq (List.replicate (p + 1) l) = seqOk l
  | 0 => by simp [allSeq]
  | p + 1 => by
    have ih := all_rep l p
    unfold allSeq at *
    rw [List.replicate_succ, List.all_cons, ih, Bool.and_self]
theorem sop_norm (l : List Int) {p : Nat} (h : 1 ≤ p ∧ p ≤ 3) : sopL (List.replicate p l) = normL l (p : Int) := by
  obtain ⟨q, rfl⟩ : ∃ q, p = q + 1 := ⟨p - 1, by omega⟩
  unfold sopL
  rw [all_rep, minL_rep]
  cases hs : seqOk l
  · rw [norm_no _ hs]; rfl
  · rw [if_pos rfl, norm_yes hs h, ← range_pow]
    unfold sumP zipL
    rw [List.map_map]
    congr 1
    refine List.map_congr_left fun i _ => ?_
    show prodL (colL (List.replicate (q + 1) l) i) = _
    unfold colL
    rw [List.map_replicate, prod_rep]

/-! ### the first list that is none -/
def ixL : List (List Int) → Nat → Int
  | [], _ => -1
  | l :: r, k => if seqOk l then ixL r (k + 1) else (k : Int)
theorem ix_bd : ∀ (L : List (List Int)) (k : Nat), -1 ≤ ixL L k ∧ ixL L k < (k + L.length : Nat)
  | [], k => by simp [ixL]; omega
  | l :: r, k => by
    have := ix_bd r (k + 1)
    unfold ixL
    split <;> simp <;> omega
theorem ix_all : ∀ (L : List (List Int)) (k : Nat), decide (0 ≤ ixL L k) = !allSeq L
  | [], k => by simp [ixL, allSeq]
  | l :: r, k => by
    have ih := ix_all r (k + 1)
    have e1 : ixL (l :: r) k = if seqOk l then ixL r (k + 1) else (k : Int) := rfl
    have e2 : allSeq (l :: r) = (seqOk l && allSeq r) := rfl
    rw [e1, e2]
    cases h : seqOk l
    · rw [if_neg (by simp), Bool.false_and, decide_eq_true (by omega)]; rfl
    · rw [if_pos rfl, ih, Bool.true_and]
theorem ix_drop {L : List (List Int)} {k : Nat} (h : k < L.length) : ixL (L.drop k) k = if seqOk L[k] then ixL (L.drop (k + 1)) (k + 1) else (k : Int) := by
  rw [List.drop_eq_getElem_cons h]
  rfl
end Go.Proofs.Ytklamhnecncenaa.SbZip

namespace Go.Proofs.Ytklamhnecncenaa.SbImp
open Go Go.RowKit Byt Ints IntsLaw Cd Rows2 Tab TabSpec Exact DegMath DegSpec DegImp SbMath SbSpec SbRep SbZip

set_option maxRecDepth 100000 in
theorem impl_prod (v : Value) (l : List Int) (B : Nat) (w : World) (hr : RI w v l B) (hb : ∀ k, -4000000000000000000 ≤ prodL (l.take k) ∧ prodL (l.take k) ≤ 4000000000000000000) :
    Calls Try.prog 115 #[v] w fun e w' => e = .returned (.int .i64 (prodL l)) ∧ w = w' := by
  have HR := Lib.hid hr
  have HBD := Lib.hid hb
  obtain ⟨a, cap, rfl, hlm, _⟩ := hr
  clear hb
  go_enter Try.func115, Try.ntmps115
  go_wp2_with fail
  go_loop [3, 8] (fun s i => ∃ k : Nat, k ≤ l.length ∧ i = .int .i64 k ∧ s = .int .i64 (prodL (l.take k))) (fun _ i => l.length - (intOf i).toNat)
  case atStart => exact ⟨0, Nat.zero_le _, rfl, rfl⟩
  case round =>
    obtain ⟨k, hk, rfl, rfl⟩ := hrel
    by_cases hlt : k < l.length
    · obtain ⟨b, off, cap', e1, hbB, hc⟩ := ri_at HR.out hlt
      injection e1 with e1 e2 e3
      subst e1 e3
      have p1 : (0 : Int) ≤ (k : Int) := by omega
      have p2 : (k : Int) < (l.length : Int) := by omega
      have HNX := Lib.hid (prod_next hlt)
      obtain ⟨s1, s2⟩ := HBD.out (k + 1)
      rw [HNX.out] at s1 s2
      generalize prodL (l.take k) = s at *
      generalize l[k] = z at *
      have m1 : IntKind.i64.wrap (s * z) = s * z := by rw [IntKind.wrap_i64]; omega
      go_wp2_with fail
      go_round
      case rel => exact ⟨k + 1, by omega, by go_num, by rw [HNX.out]⟩
      case measure => simp [intOf]; omega
    · have ek : k = l.length := by omega
      subst ek
      have HZ := Lib.hid (show prodL (l.take l.length) = prodL l by rw [List.take_length])
      generalize prodL (l.take l.length) = s at *
      go_wp2_with fail
      go_ret
      exact ⟨ret_int HZ.out, rfl⟩
theorem impl_norm (p : Int) (w : World) :
    Calls Try.prog 80 #[.int .i64 p] w fun e w' => e = .returned (.bool (decide (1 ≤ p ∧ p ≤ 3))) ∧ w = w' := by
  by_cases h1 : 1 ≤ p
  · by_cases h2 : p ≤ 3
    · rw [decide_eq_true ⟨h1, h2⟩]
      go_enter Try.func80, Try.ntmps80
      go_wp2_with fail
      go_ret
      exact ⟨rfl, rfl⟩
    · rw [decide_eq_false (fun q => h2 q.2)]
      go_enter Try.func80, Try.ntmps80
      go_wp2_with fail
      go_ret
      exact ⟨rfl, rfl⟩
  · rw [decide_eq_false (fun q => h1 q.1)]
    go_enter Try.func80, Try.ntmps80
    go_wp2_with fail
    go_ret
    exact ⟨rfl, rfl⟩
set_option maxRecDepth 100000 in
theorem impl_power (x : Int) (K : Nat) (w : World) (hK : K ≤ 8) (hb : ∀ k, k ≤ K → -4000000000000000000 ≤ powI x k ∧ powI x k ≤ 4000000000000000000) :
    Calls Try.prog 83 #[.int .i64 x, .int .i64 (K : Int)] w fun e w' => e = .returned (.int .i64 (powI x K)) ∧ Below w.heap.size w w' := by
  have HREP := Lib.hid (fun W b off cap hc => rep_int (.int .i64 x) rfl K hK b off cap W hc)
  have HPR := Lib.hid (fun v B W hr => impl_prod v (List.replicate K x) B W hr (fun k => by
    rw [List.take_replicate, prod_rep]
    exact hb _ (by omega)))
  rw [prod_rep] at HPR
  have HOW := Lib.hid (fun w0 W (h : RepRow w0 W 3 (.int .i64 x) (.int .i64 0) K K) => rep_own h hK)
  have HB := Lib.hid (below_alloc w (.cells #[.int .i64 x] 3))
  have hc : (w.alloc (.cells #[.int .i64 x] 3)).cell? ⟨w.heap.size, 0, none⟩ = some (.int .i64 x) := by
    rw [World.cell?_alloc_at _ _ _ _ (by simp)]
    rfl
  have HC := Lib.hid hc
  clear hb hc
  generalize powI x K = R at *
  go_enter Try.func83, Try.ntmps83
  go_wp2_with fail
  generalize w.alloc _ = W at *
  refine (HREP.out W _ _ _ HC.out).mono ?_
  rintro e w1 ⟨rfl, hrep⟩
  have HR := Lib.hid (HOW.out W w1 hrep).reads
  have HB1 := Lib.hid (below_then HB.out hrep.2)
  clear hrep
  go_wp2_with fail
  refine (HPR.out _ _ w1 HR.out).mono ?_
  rintro e w2 ⟨rfl, rfl⟩
  go_wp2_with fail
  go_ret
  exact ⟨rfl, HB1.out⟩
set_option maxRecDepth 100000 in
set_option maxHeartbeats 1600000 in
theorem impl_from (t g : Int) (w : World) :
    Calls Try.prog 20 #[.int .i64 t, .int .i64 g] w fun e w' => SeqAns (sfnL t g) w e w' := by
  by_cases hok : 0 ≤ t ∧ t ≤ 8 ∧ 1 ≤ g
  case neg =>
    have HZ := Lib.hid (sfn_no hok)
    by_cases h1 : t < 0
    · clear hok
      go_enter Try.func20, Try.ntmps20
      go_wp2_with fail
      go_ret
      exact ⟨_, _, rfl, by rw [HZ.out]; exact Cd.ow_nil _ _, List.nodup_nil, Below.refl _ _⟩
    by_cases h2 : 8 < t
    · clear hok
      go_enter Try.func20, Try.ntmps20
      go_wp2_with fail
      go_ret
      exact ⟨_, _, rfl, by rw [HZ.out]; exact Cd.ow_nil _ _, List.nodup_nil, Below.refl _ _⟩
    have h3 : g < 1 := by omega
    clear hok
    go_enter Try.func20, Try.ntmps20
    go_wp2_with fail
    go_ret
    exact ⟨_, _, rfl, by rw [HZ.out]; exact Cd.ow_nil _ _, List.nodup_nil, Below.refl _ _⟩
  obtain ⟨T, rfl⟩ := Int.eq_ofNat_of_zero_le hok.1
  obtain ⟨G, rfl⟩ := Int.eq_ofNat_of_zero_le (show 0 ≤ g by omega)
  have hT : T ≤ 8 := by omega
  have hG : 1 ≤ G := by omega
  have hQ : T / G ≤ 8 := Nat.le_trans (Nat.div_le_self _ _) hT
  have hR : T % G ≤ 8 := Nat.le_trans (Nat.mod_le _ _) hT
  have hq : wrap64 ((T : Int) / (G : Int)) = ((T / G : Nat) : Int) := by
    rw [← Int.natCast_ediv]
    generalize T / G = Q at *
    unfold wrap64; omega
  have hm : (T : Int) % (G : Int) = ((T % G : Nat) : Int) := (Int.natCast_emod T G).symm
  have hm2 : wrap64 ((T : Int) % (G : Int)) = ((T % G : Nat) : Int) := by
    rw [hm]
    generalize T % G = R at *
    unfold wrap64; omega
  have HEQ := Lib.hid (sfn_yes ⟨hT, hG⟩)
  have HMEM := Lib.hid (fun (x : Int) (h : x ∈ sfnN T G) => sfn_mem hT h)
  have HDF := Lib.hid (show sfnN T G = List.replicate (T / G) (G : Int) ++ (if T % G = 0 then [] else [((T % G : Nat) : Int)]) from rfl)
  have HREP := Lib.hid (fun W b off cap hc => rep_int (.int .i64 (G : Int)) rfl (T / G) hQ b off cap W hc)
  have HOW := Lib.hid (fun w0 W (h : RepRow w0 W 3 (.int .i64 (G : Int)) (.int .i64 0) (T / G) (T / G)) => rep_own h hQ)
  have HB := Lib.hid (below_alloc w (.cells #[.int .i64 (G : Int)] 3))
  have HC := Lib.hid (show (w.alloc (.cells #[.int .i64 (G : Int)] 3)).cell? ⟨w.heap.size, 0, none⟩ = some (.int .i64 (G : Int)) by
    rw [World.cell?_alloc_at _ _ _ _ (by simp)]
    rfl)
  have t1 : (T : Int) ≤ 8 := by omega
  have t2 : ¬ (T : Int) < 0 := by omega
  have t3 : ¬ (8 : Int) < (T : Int) := by omega
  have g1 : ¬ (G : Int) < 1 := by omega
  have g2 : ¬ (G : Int) = 0 := by omega
  have g3 : (0 : Int) < (G : Int) := by omega
  have g4 : (1 : Int) ≤ (G : Int) := by omega
  have t4 : (0 : Int) ≤ (T : Int) := by omega
  clear hok hT hG
  generalize T / G = Q at *
  generalize T % G = R at *
  go_enter Try.func20, Try.ntmps20
  go_wp2_with fail
  generalize w.alloc _ = W at *
  refine (HREP.out W _ _ _ HC.out).mono ?_
  rintro e w1 ⟨rfl, hrep⟩
  have HO := Lib.hid (HOW.out W w1 hrep)
  have HB1 := Lib.hid (below_then HB.out hrep.2)
  clear hrep HREP HOW HC
  by_cases h0 : R = 0
  · have HZ := Lib.hid (show sfnL (T : Int) (G : Int) = List.replicate Q (G : Int) from by rw [HEQ.out, HDF.out, if_pos h0, List.append_nil])
    subst h0
    have HIN := Lib.hid (show InR (List.replicate Q (G : Int)) from fun x hx => by
      have := HMEM.out x (by rw [HDF.out]; exact List.mem_append_left _ hx)
      omega)
    go_wp2_with fail
    go_ret
    exact ⟨_, _, rfl, by rw [HZ.out]; exact (rowC.ow_base (Cd.ow_of_own HO.out HIN.out) HB.out.size), Cd.own_nodup, HB1.out⟩
  · have r1 : ((R : Int) != 0) = true := by simpa using h0
    have HIN := Lib.hid (show InR (List.replicate Q (G : Int) ++ [(R : Int)]) from fun x hx => by
      have := HMEM.out x (by rw [HDF.out, if_neg h0]; exact hx)
      omega)
    have hown := HO.out.base_mono HB.out.size
    have hbs := HB1.out.size
    have hlen : (List.replicate Q (G : Int)).length + 1 ≤ 1000000000000 := by rw [List.length_replicate]; omega
    have HLN := Lib.hid (show (List.replicate Q (G : Int)).length = Q from List.length_replicate)
    generalize hL : List.replicate Q (G : Int) = L at *
    clear hL
    obtain rfl : L.length = Q := HLN.out
    go_wp2_with (at_builtin; refine wp_appendI rfl (.tmp 28) (.tmp 30) 24 rfl w.heap.size 3 Try.underlying24 info_i64 _ _ rfl hown _ rfl hlen hbs ?_)
    intro v' w5 hown5 hb5
    go_wp2_with fail
    go_ret
    exact ⟨_, _, rfl, by rw [HEQ.out, HDF.out, if_neg h0]; exact Cd.ow_of_own hown5 HIN.out, Cd.own_nodup, HB1.out.trans hb5⟩
theorem bdr (w : World) : Below w.heap.size w w.drew := ⟨rfl, rfl, rfl, Nat.le_refl _, fun _ _ => rfl⟩
/-- The cells of the two captured variables. -/
structure RootEnv (w : World) (n : Int) (K : Nat) (bn bk : Nat) : Prop where
  n : w.cell? ⟨bn, 0, none⟩ = some (.int .i64 n)
  k : w.cell? ⟨bk, 0, none⟩ = some (.int .i64 (K : Int))
theorem RootEnv.later {w w' : World} {n : Int} {K bn bk : Nat} (h : RootEnv w n K bn bk) (hb : Below w.heap.size w w') : RootEnv w' n K bn bk :=
  ⟨(hb.cell (p := ⟨bn, 0, none⟩) (World.block_lt_of_cell? _ _ h.n)).trans h.n, (hb.cell (p := ⟨bk, 0, none⟩) (World.block_lt_of_cell? _ _ h.k)).trans h.k⟩
theorem pow_million {K k : Nat} (hK : K ≤ 3) (hk : k ≤ K) {x : Int} (h0 : 0 ≤ x) (h1 : x ≤ 1000000) : -4000000000000000000 ≤ powI x k ∧ powI x k ≤ 4000000000000000000 := by
  obtain ⟨q1, q2⟩ := pow_bd h0 h1 k
  have h8 : powI 1000000 k ≤ 4000000000000000000 := by
    obtain h | h | h | h : k = 0 ∨ k = 1 ∨ k = 2 ∨ k = 3 := by omega
    all_goals subst h; decide
  omega
set_option maxRecDepth 100000 in
set_option maxHeartbeats 1600000 in
theorem impl_clo (n : Int) (K : Nat) (hK : K ≤ 3) (bn bk i : Nat) (hi : (i : Int) < 1000000) (w : World) (he : RootEnv w n K bn bk) :
    Calls Try.prog 82 #[.int .i64 (i : Int), .pointer (some ⟨bk, 0, none⟩), .pointer (some ⟨bn, 0, none⟩)] w fun e w' => e = .returned (.bool (!fits n K i)) ∧ Below w.heap.size w w' := by
  have HP := Lib.hid (fun W => impl_power ((i : Int) + 1) K W (by omega) (fun k hk => pow_million hK hk (by omega) (by omega)))
  have HZ := Lib.hid (show (!fits n K i) = decide (n < powI ((i : Int) + 1) K) from by
    unfold fits
    by_cases h : n < powI ((i : Int) + 1) K
    · rw [decide_eq_true h, decide_eq_false (by omega)]; rfl
    · rw [decide_eq_false h, decide_eq_true (by omega)]; rfl)
  have i0 : (0 : Int) ≤ (i : Int) := by omega
  have m1 : IntKind.i64.wrap ((i : Int) + 1) = (i : Int) + 1 := by rw [IntKind.wrap_i64]; omega
  have HE := Lib.hid he
  have c1 := he.n
  have c2 := he.k
  clear he
  generalize powI ((i : Int) + 1) K = P at *
  go_enter Try.func82, Try.ntmps82
  go_wp2_with fail
  go_region_held3 (fun wx => wx.cell? ⟨bn, 0, none⟩ = some (.int .i64 n) ∧ wx.cell? ⟨bk, 0, none⟩ = some (.int .i64 (K : Int)) ∧ Below w.heap.size w wx)
    (exact ⟨by assumption, by assumption, by first | assumption | exact bdr _⟩)
    (first | (go_at_call 83; refine (HP.out _).mono ?_; rintro e wq ⟨rfl, hbq⟩; (have hbw := below_then (show Below w.heap.size w w.drew from bdr _) hbq); (have c1 := (HE.out.later hbw).n); (have c2 := (HE.out.later hbw).k)))
  go_wp2_with fail
  go_ret
  exact ⟨ret_b HZ.out.symm, hbw⟩
theorem root_edge {n : Int} {K lo N : Nat} (hl : lo ≤ N) (hN : n.toNat = N) (h1 : ∀ t, t < lo → fits n K t = true) (h2 : ∀ t, lo ≤ t → t < N → fits n K t = false) : rootN n K = lo := by
  unfold rootN
  rw [hN]
  have : (List.range N).countP (fits n K) = (List.range N).countP (fun i => decide (i < lo)) := List.countP_congr fun i hi => by
    have hiN := List.mem_range.1 hi
    by_cases h : i < lo
    · rw [h1 i h, decide_eq_true h]
    · rw [h2 i (by omega) hiN, decide_eq_false h]
  rw [this, count_below]
  omega
set_option maxRecDepth 100000 in
set_option maxHeartbeats 1600000 in
theorem impl_search (N : Nat) (K : Nat) (hK : K ≤ 3) (hN : N ≤ 1000000) (bn bk : Nat) (w : World) (he : RootEnv w (N : Int) K bn bk) :
    Calls Try.prog 81 #[.int .i64 (N : Int), .func (.func 82) #[] #[.pointer (some ⟨bk, 0, none⟩), .pointer (some ⟨bn, 0, none⟩)]] w fun e w' => e = .returned (.int .i64 (rootN (N : Int) K : Int)) ∧ Below w.heap.size w w' := by
  have HCL := Lib.hid (fun W (hb : Below w.heap.size w W) i (hi : i < N) => impl_clo (N : Int) K hK bn bk i (by omega) W (he.later hb))
  have HEND := Lib.hid (fun lo hl h1 h2 => root_edge (n := (N : Int)) (K := K) (lo := lo) (N := N) hl (by simp) h1 h2)
  have HMN := Lib.hid (fun i j (hij : i ≤ j) => fits_mono (n := (N : Int)) (k := K) hij)
  have n1 : (0 : Int) ≤ (N : Int) := by omega
  have n2 : (N : Int) ≤ 1000000 := by omega
  clear he
  go_enter Try.func81, Try.ntmps81
  go_wp2_with fail
  go_loopw [5, 6] (fun i j wr => ∃ lo hi : Nat, i = .int .i64 lo ∧ j = .int .i64 hi ∧ lo ≤ hi ∧ hi ≤ N ∧ Hid ((∀ t, t < lo → fits (N : Int) K t = true) ∧ (∀ t, hi ≤ t → t < N → fits (N : Int) K t = false)) ∧ Below w.heap.size w wr) (fun i j _ => (intOf j).toNat - (intOf i).toNat)
  case atStart => exact ⟨0, N, rfl, rfl, Nat.zero_le _, Nat.le_refl _, Lib.hid ⟨fun t h => absurd h (Nat.not_lt_zero _), fun t h1 h2 => by omega⟩, Below.refl _ _⟩
  case round =>
    obtain ⟨lo, hi, rfl, rfl, hlh, hhN, hinv, hb⟩ := hrel
    have HB := Lib.hid hb
    have l1 : (0 : Int) ≤ (lo : Int) := by omega
    have l2 : (hi : Int) ≤ 1000000 := by omega
    by_cases hlt : lo < hi
    · have l3 : (lo : Int) < (hi : Int) := by omega
      have hm : ((lo : Int) + (hi : Int)) / 2 = (((lo + hi) / 2 : Nat) : Int) := by omega
      have HC := Lib.hid (HCL.out wr hb ((lo + hi) / 2) (by omega))
      rw [← hm] at HC
      have HMD := Lib.hid (show lo ≤ (lo + hi) / 2 ∧ (lo + hi) / 2 < hi from by omega)
      clear hb
      cases hf : fits (N : Int) K ((lo + hi) / 2)
      · rw [hf] at HC
        have HI := Lib.hid (show (∀ t, t < lo → fits (N : Int) K t = true) ∧ (∀ t, (lo + hi) / 2 ≤ t → t < N → fits (N : Int) K t = false) from ⟨hinv.out.1, fun t h1 _ => by
          cases hq : fits (N : Int) K t
          · rfl
          · have := HMN.out _ _ h1 hq
            rw [hf] at this
            cases this⟩)
        have HM := Lib.hid hm
        clear hf hm
        go_wp2_with (go_at_call 82; refine HC.out.mono ?_; rintro e w1 ⟨rfl, hb1⟩)
        go_roundw
        case rel => exact ⟨lo, (lo + hi) / 2, rfl, by rw [HM.out], HMD.out.1, by have := HMD.out; omega, HI, below_then HB.out hb1⟩
        case measure => have := HMD.out; simp [intOf]; omega
      · rw [hf] at HC
        have HI := Lib.hid (show (∀ t, t < (lo + hi) / 2 + 1 → fits (N : Int) K t = true) ∧ (∀ t, hi ≤ t → t < N → fits (N : Int) K t = false) from ⟨fun t h1 => HMN.out _ _ (by omega) hf, hinv.out.2⟩)
        have HM := Lib.hid hm
        clear hf hm
        go_wp2_with (go_at_call 82; refine HC.out.mono ?_; rintro e w1 ⟨rfl, hb1⟩)
        go_roundw
        case rel => exact ⟨(lo + hi) / 2 + 1, hi, by rw [HM.out]; push_cast; rfl, rfl, by have := HMD.out; omega, hhN, HI, below_then HB.out hb1⟩
        case measure => have := HMD.out; simp [intOf]; omega
    · obtain rfl : hi = lo := by omega
      have HZ := Lib.hid (HEND.out hi hhN hinv.out.1 hinv.out.2)
      clear hb
      go_wp2_with fail
      go_ret
      exact ⟨ret_int (by rw [HZ.out]), HB.out⟩
theorem boxes (w : World) (n : Int) (K : Nat) : RootEnv ((w.alloc (.cells #[.int .i64 n] 3)).alloc (.cells #[.int .i64 (K : Int)] 3)) n K w.heap.size (w.heap.size + 1) ∧ Below w.heap.size w ((w.alloc (.cells #[.int .i64 n] 3)).alloc (.cells #[.int .i64 (K : Int)] 3)) := by
  have h1 : (w.alloc (.cells #[.int .i64 n] 3)).cell? ⟨w.heap.size, 0, none⟩ = some (.int .i64 n) := by
    rw [World.cell?_alloc_at _ _ _ _ (by simp)]
    rfl
  have hb1 := below_alloc w (.cells #[.int .i64 n] 3)
  have hs : (w.alloc (.cells #[.int .i64 n] 3)).heap.size = w.heap.size + 1 := size_alloc ..
  generalize w.alloc (.cells #[.int .i64 n] 3) = A at *
  have hb2 := below_alloc A (.cells #[.int .i64 (K : Int)] 3)
  have h2 : (A.alloc (.cells #[.int .i64 (K : Int)] 3)).cell? ⟨A.heap.size, 0, none⟩ = some (.int .i64 (K : Int)) := by
    rw [World.cell?_alloc_at _ _ _ _ (by simp)]
    rfl
  rw [hs] at h2
  exact ⟨⟨(hb2.cell (p := ⟨w.heap.size, 0, none⟩) (World.block_lt_of_cell? _ _ h1)).trans h1, h2⟩, below_then hb1 hb2⟩
set_option maxRecDepth 100000 in
set_option maxHeartbeats 1600000 in
theorem impl_root (n k : Int) (w : World) :
    Calls Try.prog 27 #[.int .i64 n, .int .i64 k] w fun e w' => e = .returned (.int .i64 (rootI n k)) ∧ Below w.heap.size w w' := by
  have hmf : ∀ (fn : Fn) (first cap : Array Value) (w : World), (Instr.makeFunc fn first cap).run Try.prog w = .ok (.func fn first cap) w := fun _ _ _ _ => rfl
  by_cases hn : n < 0 ∨ 1000000 < n
  · have HZ := Lib.hid (show rootI n k = -1 from root_no fun q => by omega)
    have HB := Lib.hid (below_then (below_alloc w (.cells #[.int .i64 n] 3)) (below_alloc _ (.cells #[.int .i64 k] 3)))
    by_cases h1 : n < 0
    · clear hn
      go_enter Try.func27, Try.ntmps27
      go_wp2_with fail
      go_ret
      exact ⟨ret_int HZ.out.symm, HB.out⟩
    · have h2 : 1000000 < n := by omega
      clear hn
      go_enter Try.func27, Try.ntmps27
      go_wp2_with fail
      go_ret
      exact ⟨ret_int HZ.out.symm, HB.out⟩
  have n1 : ¬ n < 0 := by omega
  have n2 : ¬ 1000000 < n := by omega
  obtain ⟨N, rfl⟩ := Int.eq_ofNat_of_zero_le (show 0 ≤ n by omega)
  have HNM := Lib.hid (fun W => impl_norm k W)
  by_cases hk : 1 ≤ k ∧ k ≤ 3
  case neg =>
    have HZ := Lib.hid (show rootI (N : Int) k = -1 from root_no fun q => hk q.2.2)
    have HB := Lib.hid (below_then (below_alloc w (.cells #[.int .i64 (N : Int)] 3)) (below_alloc _ (.cells #[.int .i64 k] 3)))
    rw [decide_eq_false hk] at HNM
    clear hn hk
    go_enter Try.func27, Try.ntmps27
    go_wp2_with fail
    refine (HNM.out _).mono ?_
    rintro e w1 ⟨rfl, rfl⟩
    go_wp2_with fail
    go_ret
    exact ⟨ret_int HZ.out.symm, HB.out⟩
  rw [decide_eq_true hk] at HNM
  obtain ⟨K, rfl⟩ := Int.eq_ofNat_of_zero_le (show 0 ≤ k by omega)
  obtain ⟨he, hb⟩ := boxes w (N : Int) K
  have HE := Lib.hid he
  have HB := Lib.hid hb
  have HSR := Lib.hid (fun bn bk W he => impl_search N K (by omega) (by omega) bn bk W he)
  have HZ := Lib.hid (show rootI (N : Int) (K : Int) = (rootN (N : Int) K : Int) from root_yes (by omega))
  have c1 := he.n
  have c2 := he.k
  clear hn hk he hb
  go_enter Try.func27, Try.ntmps27
  go_wp2_with fail
  generalize World.alloc (w.alloc _) _ = W at *
  refine (HNM.out _).mono ?_
  rintro e w1 ⟨rfl, rfl⟩
  go_wp2_with fail
  refine (HSR.out _ _ _ HE.out).mono ?_
  rintro e w2 ⟨rfl, hb2⟩
  have HB2 := Lib.hid (below_then HB.out hb2)
  clear hb2
  go_wp2_with fail
  go_ret
  exact ⟨ret_int HZ.out.symm, HB2.out⟩
end Go.Proofs.Ytklamhnecncenaa.SbImp

namespace Go.Proofs.Ytklamhnecncenaa.SbImp
open Go Go.RowKit Byt Ints IntsLaw Cd Rows2 Tab TabSpec Exact DegMath DegSpec DegImp SbMath SbSpec SbRep SbZip

theorem impl_no (v : Value) (l : List Int) (B : Nat) (w : World) (hr : RI w v l B) :
    Calls Try.prog 112 #[v] w fun e w' => e = .returned (.bool (!seqOk l)) ∧ w = w' := by
  have HS := Lib.hid (impl_seq v l B w hr)
  obtain ⟨a, cap, rfl, hlm, _⟩ := hr
  generalize seqOk l = q at *
  go_enter Try.func112, Try.ntmps112
  go_wp2_with fail
  refine HS.out.mono ?_
  rintro e w1 ⟨rfl, rfl⟩
  go_wp2_with fail
  go_ret
  exact ⟨rfl, rfl⟩
set_option maxRecDepth 100000 in
theorem impl_index (u : Value) (L : List (List Int)) (S : Nat → Prop) (w : World) (hr : rowsC.rd w S [u] L) :
    Calls Try.prog 140 #[u, .func (.func 112) #[] #[]] w fun e w' => e = .returned (.int .i64 (ixL L 0)) ∧ w = w' := by
  have HR := Lib.hid hr
  obtain ⟨a, cap, rfl, hlm⟩ := rows_form hr
  clear hr
  go_enter Try.func140, Try.ntmps140
  go_wp2_with fail
  go_loop [8] (fun i => ∃ k : Nat, k ≤ L.length ∧ i = .int .i64 k ∧ Hid (ixL L 0 = ixL (L.drop k) k)) (fun i => L.length - (intOf i).toNat)
  case atStart => exact ⟨0, Nat.zero_le _, rfl, Lib.hid rfl⟩
  case round =>
    obtain ⟨k, hk, rfl, hl⟩ := hrel
    by_cases hlt : k < L.length
    · obtain ⟨b, off, cap', x, e1, hbB, hc, hx⟩ := rows_at HR.out hlt
      injection e1 with e1 e2 e3
      subst e1 e3
      have HI := Lib.hid (impl_no x L[k] _ w (row_ri hx).1)
      have p1 : (0 : Int) ≤ (k : Int) := by omega
      have p2 : (k : Int) < (L.length : Int) := by omega
      have hd := ix_drop hlt
      clear hx
      cases hs : seqOk L[k]
      · rw [hs] at HI hd
        have HZ := Lib.hid (show ixL L 0 = (k : Int) from hl.out.trans hd)
        clear hs hd
        go_wp2_with (go_at_call 112; refine HI.out.mono ?_; rintro e w1 ⟨rfl, rfl⟩)
        go_ret
        exact ⟨ret_int HZ.out.symm, rfl⟩
      · rw [hs] at HI hd
        have hl2 := Lib.hid (show ixL L 0 = ixL (L.drop (k + 1)) (k + 1) from hl.out.trans hd)
        clear hs hd
        go_wp2_with (go_at_call 112; refine HI.out.mono ?_; rintro e w1 ⟨rfl, rfl⟩)
        go_round
        case rel => exact ⟨k + 1, by omega, by go_num, hl2⟩
        case measure => simp [intOf]; omega
    · have HZ := Lib.hid (show ixL L 0 = -1 by rw [hl.out, List.drop_eq_nil_of_le (by omega)]; rfl)
      go_wp2_with fail
      go_ret
      exact ⟨ret_int HZ.out.symm, rfl⟩
theorem impl_any (u : Value) (L : List (List Int)) (S : Nat → Prop) (w : World) (hr : rowsC.rd w S [u] L) :
    Calls Try.prog 111 #[u, .func (.func 112) #[] #[]] w fun e w' => e = .returned (.bool (!allSeq L)) ∧ w = w' := by
  have HI := Lib.hid (impl_index u L S w hr)
  have HB := Lib.hid (ix_all L 0)
  obtain ⟨a, cap, rfl, hlm⟩ := rows_form hr
  clear hr
  generalize ixL L 0 = z at *
  go_enter Try.func111, Try.ntmps111
  go_wp2_with fail
  refine HI.out.mono ?_
  rintro e w1 ⟨rfl, rfl⟩
  go_wp2_with fail
  go_ret
  exact ⟨ret_b HB.out, rfl⟩
theorem impl_lenof (v : Value) (l : List Int) (B : Nat) (w : World) (hr : RI w v l B) :
    Calls Try.prog 143 #[v] w fun e w' => e = .returned (.int .i64 (l.length : Int)) ∧ w = w' := by
  obtain ⟨a, cap, rfl, hlm, _⟩ := hr
  go_enter Try.func143, Try.ntmps143
  go_wp2_with fail
  go_ret
  exact ⟨rfl, rfl⟩
theorem impl_colof (v : Value) (l : List Int) (B : Nat) (w : World) (hr : RI w v l B) (i bx : Nat) (hi : i < l.length) (hc : w.cell? ⟨bx, 0, none⟩ = some (.int .i64 (i : Int))) :
    Calls Try.prog 144 #[v, .pointer (some ⟨bx, 0, none⟩)] w fun e w' => e = .returned (.int .i64 (l.getD i 0)) ∧ w = w' := by
  obtain ⟨b, off, cap, rfl, hbB, hcell⟩ := ri_at hr hi
  have HZ := Lib.hid (show l[i] = l.getD i 0 by simp [hi])
  have p1 : (0 : Int) ≤ (i : Int) := by omega
  have p2 : (i : Int) < (l.length : Int) := by omega
  obtain ⟨_, _, _, hlm, _⟩ := hr
  generalize l[i] = z at *
  go_enter Try.func144, Try.ntmps144
  go_wp2_with fail
  go_ret
  exact ⟨ret_int HZ.out, rfl⟩
set_option maxRecDepth 100000 in
set_option maxHeartbeats 1600000 in
theorem map_lens (u : Value) (L : List (List Int)) (S : Nat → Prop) (w : World) (hr : rowsC.rd w S [u] L) (hL : L.length ≤ 8) :
    Calls Try.prog 142 #[u, .func (.func 143) #[] #[]] w fun e w' => ∃ v', e = .returned v' ∧ OwnI w' w.heap.size 3 v' (L.map fun l => (l.length : Int)) ∧ Below w.heap.size w w' := by
  obtain ⟨i0, hi, hz0, hz1, hz2⟩ := info_parts info_i64
  have HR := Lib.hid (fun w' (hb : Below w.heap.size w w') => Cd.later hr hb)
  obtain ⟨a, cap, rfl, hlm⟩ := rows_form hr
  clear hr
  go_enter Try.func142, Try.ntmps142
  go_wp2_with (at_make; refine wpList_make_own _ rfl _ _ 24 rfl w.heap.size 3 i0 (.int .i64 0) 1 Try.underlying24 hi hz0 hz1 _ _ _ L.length rfl rfl rfl (by rw [hz2]; omega) (by unfold maxLen; omega) (Nat.le_refl _) ?_)
  intro w1 hown0 hg0
  have hown1 : OwnI w1 w.heap.size 3 (.slice (some ⟨w.heap.size, 0, none⟩) 0 L.length) [] := hown0
  have hb1 : Below w.heap.size w w1 := (Below.refl _ _).grown hg0 (Nat.le_refl _) (by simp)
  clear hown0 hg0
  go_wp2_with fail
  go_loopw [5, 13] (fun o i wr => ∃ k : Nat, k ≤ L.length ∧ i = .int .i64 k ∧ OwnI wr w.heap.size 3 o ((L.take k).map fun l => (l.length : Int)) ∧ Below w.heap.size w wr) (fun _ i _ => L.length - (intOf i).toNat)
  case atStart => exact ⟨0, Nat.zero_le _, rfl, by simpa using hown1, hb1⟩
  case round =>
    obtain ⟨k, hk, rfl, hown, hb⟩ := hrel
    by_cases hlt : k < L.length
    · obtain ⟨b, off, cap', x, e1, hbB, hc, hx⟩ := rows_at (HR.out wr hb) hlt
      injection e1 with e1 e2 e3
      subst e1 e3
      have HC := Lib.hid (impl_lenof x L[k] _ wr (row_ri hx).1)
      have hlen : ((L.take k).map fun l => (l.length : Int)).length + 1 ≤ 1000000000000 := by rw [List.length_map, List.length_take]; omega
      have hbs := hb.size
      have HB := Lib.hid hb
      have HT := Lib.hid (show ((L.take (k + 1)).map fun l => (l.length : Int)) = ((L.take k).map fun l => (l.length : Int)) ++ [(fun l : List Int => (l.length : Int)) L[k]] by rw [List.take_succ_eq_append_getElem hlt, List.map_append]; rfl)
      clear hb hx
      simp only at HT
      generalize ((L.take k).map fun l => (l.length : Int)) = out at *
      generalize ((L[k].length : Int)) = z at *
      go_wp2_with (first | (go_at_call 143; refine HC.out.mono ?_; rintro e w1 ⟨rfl, rfl⟩) | (at_builtin; refine wp_appendI rfl (.tmp 17) (.tmp 21) 24 rfl w.heap.size 3 Try.underlying24 info_i64 _ _ rfl hown _ rfl hlen hbs ?_))
      intro v' w5 hown5 hb5
      go_wp2_with fail
      go_roundw
      case rel => exact ⟨k + 1, by omega, by go_num, by rw [HT.out]; exact hown5, HB.out.trans hb5⟩
      case measure => simp [intOf]; omega
    · have ek : k = L.length := by omega
      subst ek
      rw [List.take_length] at hown
      go_wp2_with fail
      go_ret
      exact ⟨_, rfl, hown, hb⟩
set_option maxRecDepth 100000 in
set_option maxHeartbeats 1600000 in
theorem map_col (u : Value) (L : List (List Int)) (S : Nat → Prop) (w : World) (hr : rowsC.rd w S [u] L) (hL : L.length ≤ 8) (ix bx : Nat) (hix : ∀ l ∈ L, ix < l.length) (hcx : w.cell? ⟨bx, 0, none⟩ = some (.int .i64 (ix : Int))) :
    Calls Try.prog 142 #[u, .func (.func 144) #[] #[.pointer (some ⟨bx, 0, none⟩)]] w fun e w' => ∃ v', e = .returned v' ∧ OwnI w' w.heap.size 3 v' (L.map fun l => l.getD ix 0) ∧ Below w.heap.size w w' := by
  obtain ⟨i0, hi, hz0, hz1, hz2⟩ := info_parts info_i64
  have HR := Lib.hid (fun w' (hb : Below w.heap.size w w') => Cd.later hr hb)
  have HIX := Lib.hid hix
  have HBX := Lib.hid (fun w' (hb : Below w.heap.size w w') => (hb.cell (p := ⟨bx, 0, none⟩) (World.block_lt_of_cell? _ _ hcx)).trans hcx)
  clear hcx hix
  obtain ⟨a, cap, rfl, hlm⟩ := rows_form hr
  clear hr
  go_enter Try.func142, Try.ntmps142
  go_wp2_with (at_make; refine wpList_make_own _ rfl _ _ 24 rfl w.heap.size 3 i0 (.int .i64 0) 1 Try.underlying24 hi hz0 hz1 _ _ _ L.length rfl rfl rfl (by rw [hz2]; omega) (by unfold maxLen; omega) (Nat.le_refl _) ?_)
  intro w1 hown0 hg0
  have hown1 : OwnI w1 w.heap.size 3 (.slice (some ⟨w.heap.size, 0, none⟩) 0 L.length) [] := hown0
  have hb1 : Below w.heap.size w w1 := (Below.refl _ _).grown hg0 (Nat.le_refl _) (by simp)
  clear hown0 hg0
  go_wp2_with fail
  go_loopw [5, 13] (fun o i wr => ∃ k : Nat, k ≤ L.length ∧ i = .int .i64 k ∧ OwnI wr w.heap.size 3 o ((L.take k).map fun l => l.getD ix 0) ∧ Below w.heap.size w wr) (fun _ i _ => L.length - (intOf i).toNat)
  case atStart => exact ⟨0, Nat.zero_le _, rfl, by simpa using hown1, hb1⟩
  case round =>
    obtain ⟨k, hk, rfl, hown, hb⟩ := hrel
    by_cases hlt : k < L.length
    · obtain ⟨b, off, cap', x, e1, hbB, hc, hx⟩ := rows_at (HR.out wr hb) hlt
      injection e1 with e1 e2 e3
      subst e1 e3
      have HC := Lib.hid (impl_colof x L[k] _ wr (row_ri hx).1 ix bx (HIX.out _ (List.getElem_mem hlt)) (HBX.out wr hb))
      have hlen : ((L.take k).map fun l => l.getD ix 0).length + 1 ≤ 1000000000000 := by rw [List.length_map, List.length_take]; omega
      have hbs := hb.size
      have HB := Lib.hid hb
      have HT := Lib.hid (show ((L.take (k + 1)).map fun l => l.getD ix 0) = ((L.take k).map fun l => l.getD ix 0) ++ [(fun l : List Int => l.getD ix 0) L[k]] by rw [List.take_succ_eq_append_getElem hlt, List.map_append]; rfl)
      clear hb hx
      simp only at HT
      generalize ((L.take k).map fun l => l.getD ix 0) = out at *
      generalize (L[k].getD ix 0) = z at *
      go_wp2_with (first | (go_at_call 144; refine HC.out.mono ?_; rintro e w1 ⟨rfl, rfl⟩) | (at_builtin; refine wp_appendI rfl (.tmp 17) (.tmp 21) 24 rfl w.heap.size 3 Try.underlying24 info_i64 _ _ rfl hown _ rfl hlen hbs ?_))
      intro v' w5 hown5 hb5
      go_wp2_with fail
      go_roundw
      case rel => exact ⟨k + 1, by omega, by go_num, by rw [HT.out]; exact hown5, HB.out.trans hb5⟩
      case measure => simp [intOf]; omega
    · have ek : k = L.length := by omega
      subst ek
      rw [List.take_length] at hown
      go_wp2_with fail
      go_ret
      exact ⟨_, rfl, hown, hb⟩
end Go.Proofs.Ytklamhnecncenaa.SbImp
