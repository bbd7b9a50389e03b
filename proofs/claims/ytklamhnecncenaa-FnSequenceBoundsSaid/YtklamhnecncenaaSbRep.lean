/- slices.Repeat of a list of one element: the program's library. -/
import Derived.Test.YtklamhnecncenaaDegImp1
import Derived.Test.YtklamhnecncenaaSbMath
import Derived.Test.YtklamhnecncenaaShelf
import Derived.Laws.CopyOwn
import Derived.Deep.RegionLaw
namespace Go.Proofs.Ytklamhnecncenaa.SbRep
open Go Go.RowKit Byt Ints IntsLaw Cd Rows2 Tab TabSpec Exact DegMath SbMath

theorem splice_rep (x z : Value) (c m r : Nat) : splice (List.replicate c x ++ List.replicate r z) c (List.replicate m x) = List.replicate (c + m) x ++ List.replicate (r - m) z := by
  unfold splice
  have e : List.drop (c + m) (List.replicate c x ++ List.replicate r z) = List.replicate (r - m) z := by
    rw [List.drop_append, List.drop_replicate, List.drop_replicate, List.length_replicate, show c - (c + m) = 0 by omega, show c + m - c = m by omega]
    rfl
  rw [List.length_replicate, e, List.take_left' (by simp), ← List.append_assoc, List.replicate_append_replicate]
/-- A block that begins with c times x, of N cells. -/
def RepRow (w0 w : World) (e : TypeId) (x z : Value) (c N : Nat) : Prop := w.heap[w0.heap.size]? = some (.cells (List.replicate c x ++ List.replicate (N - c) z).toArray e (0, 0)) ∧ Below w0.heap.size w0 w
theorem rep_own {w0 w : World} {x : Int} {z : Value} {N : Nat} {e : TypeId} (h : RepRow w0 w e (.int .i64 x) z N N) (hN : N ≤ 8) : OwnI w w0.heap.size e (.slice (some ⟨w0.heap.size, 0, none⟩) N N) (List.replicate N x) := by
  obtain ⟨h1, _⟩ := h
  unfold OwnI
  rw [List.length_replicate]
  refine ⟨by simp, .inr ⟨_, N, _, rfl, Nat.le_refl _, h1, Nat.le_refl _, by unfold maxLen; omega, by simp, ?_⟩⟩
  simp [iv]
theorem rep_rows {w0 w : World} {x z : Value} {l : List Int} {N : Nat} {e : TypeId} {S : Nat → Prop} (h : RepRow w0 w e x z N N) (hN : N ≤ 8) (hx : rowC.rd w S [x] l) : rowsC.rd w (fun _ => True) [.slice (some ⟨w0.heap.size, 0, none⟩) N N] (List.replicate N l) := by
  obtain ⟨h1, _⟩ := h
  refine ⟨_, N, by rw [List.length_replicate], by rw [List.length_replicate]; omega, ?_⟩
  by_cases h0 : N = 0
  · subst h0; exact .inl rfl
  · refine .inr ⟨_, 0, rfl, trivial, (Array.getElem?_eq_some_iff.1 h1).1, fun t ht => ⟨[x], fun j hj => ?_, by rw [List.getElem_replicate]; exact rowC.mono hx fun _ _ _ => trivial⟩⟩
    rw [List.length_replicate] at ht
    obtain rfl : j = 0 := by simpa using hj
    have e1 : (0 + t * rowC.n + 0) = t := by rw [rowC_n]; omega
    rw [e1]
    simp [World.cell?, h1, ht]
theorem made_rep {w : World} {e : TypeId} {g n : Nat} {z : Value} (h : w.ownsRow g e 1 (.slice (some ⟨g, 0, none⟩) n n) n (List.replicate n z)) : w.heap[g]? = some (.cells (List.replicate n z).toArray e (0, 0)) := by
  rcases h.2 with ⟨h1, _⟩ | ⟨g', cap, cur, h1, _, h2, _, _, h3, h4⟩
  · cases h1
  · injection h1 with h1 _ h5
    injection h1 with h1
    injection h1 with h1 _ _
    subst h1 h5
    rw [Nat.mul_one] at h3 h4
    rw [h2, ← h4, List.take_of_length_le (by simp [h3])]
theorem run_rep {P : Program} {T e ty : TypeId} (hu : P.underlying T = some (.slice e)) (hsz : (P.info? e).map (·.size) = some 1) {w0 w : World} {x z : Value} (hx1 : x.oneCell' = true) {c N m : Nat} (h : RepRow w0 w e x z c N)
    (dLen dCap sLen sCap : Nat) (ad : Addr) (hm : m = Nat.min sLen dLen) (hsrc : ∀ j, j < m → w.cell? (ad.add j) = some x) (hfit : c + m ≤ N) :
    ∃ w', (Builtin.copy_ #[T, T] ty #[.slice (some ⟨w0.heap.size, c, none⟩) dLen dCap, .slice (some ad) sLen sCap]).run P w = .ok (.int .i64 (m : Int)) w' ∧ RepRow w0 w' e x z (c + m) N := by
  obtain ⟨hrow, hb⟩ := h
  have hrun := run_copy_row (P := P) w T T ty e w0.heap.size c dLen dCap ad sLen sCap _ e (List.replicate m x) hu hsz hrow (by rw [List.length_replicate, hm]) (fun j v hj => by
    obtain ⟨h1, h2⟩ := List.getElem?_eq_some_iff.1 hj
    rw [List.getElem_replicate] at h2
    rw [List.length_replicate] at h1
    rw [← h2]
    exact hsrc j h1) (by simp only [List.size_toArray, List.length_append, List.length_replicate]; omega) (fun v hv => by rw [(List.mem_replicate.1 hv).2]; exact hx1)
  rw [List.length_replicate] at hrun
  refine ⟨_, hrun, ?_, below_setRow hb (Nat.le_refl _) _⟩
  rw [setRow_heap w _ _ _ e _ hrow]
  have hs := splice_rep x z c m (N - c)
  unfold splice at hs
  rw [List.length_replicate] at hs
  rw [List.append_assoc, hs, show N - c - m = N - (c + m) by omega]
set_option maxRecDepth 100000 in
set_option maxHeartbeats 3200000 in
theorem rep_int (x : Value) (hx1 : x.oneCell' = true) (N : Nat) (hN : N ≤ 8) (b off cap : Nat) (w : World) (hc : w.cell? ⟨b, off, none⟩ = some x) :
    Calls Try.prog 70 #[.slice (some ⟨b, off, none⟩) 1 cap, .int .i64 (N : Int)] w fun e w' => e = .returned (.slice (some ⟨w.heap.size, 0, none⟩) N N) ∧ RepRow w w' 3 x (.int .i64 0) N N := by
  obtain ⟨i0, hi, hz0, hz1, hz2⟩ := info_parts info_i64
  have hsz : (Try.prog.info? 3).map (·.size) = some 1 := by rw [hi, ← hz1]; rfl
  have HC := Lib.hid hc
  have HM := Lib.hid (show Calls Try.prog 117 #[.int .u64 1, .int .u64 (N : Int)] w fun e w' => e = .returned (.tuple #[.int .u64 0, .int .u64 (N : Int)]) ∧ w = w' from by
    have h := Try.bits_Mul 1 N (by omega) (by omega) w
    rw [show 1 * N / 18446744073709551616 = 0 by omega, show 1 * N % 18446744073709551616 = N by omega] at h
    exact h.mono fun _ _ q => ⟨q.1, q.2.symm⟩)
  have n1 : (0 : Int) ≤ (N : Int) := by omega
  have n2 : (N : Int) ≤ 8 := by omega
  have n3 : (N : Int) ≤ 9223372036854775807 := by omega
  go_enter Try.func70, Try.ntmps70
  go_wp2_with fail
  refine HM.out.mono ?_
  rintro e w1 ⟨rfl, rfl⟩
  go_wp2_with (at_make; refine wpList_make_full _ rfl _ _ 24 rfl w.heap.size 3 i0 (.int .i64 0) 1 Try.underlying24 hi hz0 hz1 _ _ _ _ N rfl rfl rfl rfl (by rw [hz2]; omega) (by unfold maxLen; omega) (Nat.le_refl _) ?_)
  intro w1 hown hg
  rw [toList_madeCells_one] at hown
  have hrow := made_rep hown
  have hb1 : Below w.heap.size w w1 := (Below.refl _ _).grown hg (Nat.le_refl _) (by simp)
  have hc1 : w1.cell? ⟨b, off, none⟩ = some x := (hb1.cell (p := ⟨b, off, none⟩) (World.block_lt_of_cell? _ _ HC.out)).trans HC.out
  obtain ⟨w2, hcp, hrep⟩ := run_rep (P := Try.prog) (T := 24) (e := 3) (ty := 3) Try.underlying24 hsz hx1 (c := 0) (N := N) (m := min 1 N) (z := (.int .i64 0)) (w0 := w) (w := w1) (show RepRow w w1 _ x _ 0 N from ⟨hrow, hb1⟩) N N 1 cap ⟨b, off, none⟩ rfl (fun j hj => by
    obtain rfl : j = 0 := by omega
    exact hc1) (by omega)
  rw [Nat.zero_add] at hrep
  have HST := Lib.hid hrep
  clear hown hg hc hrow hb1 hc1 hrep
  go_wp2_with fail
  clear hcp
  go_loopw [8] (fun s wr => ∃ c : Nat, c ≤ N ∧ (c = 0 → N = 0) ∧ s = .int .i64 (c : Int) ∧ RepRow w wr 3 x (.int .i64 0) c N) (fun s _ => N - (intOf s).toNat)
  case atStart => exact ⟨min 1 N, by omega, by omega, by simp, HST.out⟩
  case round =>
    obtain ⟨c, hcN, hc0, rfl, hrep⟩ := hrel
    by_cases hlt : c < N
    · have c1 : 0 < c := by omega
      have c2 : (c : Int) < (N : Int) := by omega
      have c3 : (0 : Int) ≤ (c : Int) := by omega
      have c4 : (c : Int) ≤ (N : Int) := by omega
      have c5 : ¬ N = c := by omega
      have c6 : c ≤ N := by omega
      obtain ⟨hrow, hb⟩ := hrep
      have HRW := Lib.hid (show wr.drew.heap[w.heap.size]? = _ from hrow)
      have HBW := Lib.hid (show Below w.heap.size w wr.drew from ⟨hb.os, hb.tape, hb.output, hb.size, hb.block⟩)
      have HSR := Lib.hid (show ∀ j v, (List.replicate (min c (N - c)) x)[j]? = some v → wr.drew.cell? ((⟨w.heap.size, 0, none⟩ : Addr).add j) = some v from fun j v hj => by
        obtain ⟨h1, h2⟩ := List.getElem?_eq_some_iff.1 hj
        rw [List.getElem_replicate] at h2
        rw [List.length_replicate] at h1
        rw [← h2]
        have h3 : j < c := by omega
        have h4 : (List.replicate c x ++ List.replicate (N - c) (.int .i64 0))[j]? = some x := by
          rw [List.getElem?_append_left (by simpa using h3)]
          simp [h3]
        have h5 := HRW.out
        have h6 : wr.drew.cell? ⟨w.heap.size, j, none⟩ = some x := by simp only [World.cell?, h5]; simpa using h4
        have h7 : (⟨w.heap.size, 0, none⟩ : Addr).add j = ⟨w.heap.size, j, none⟩ := by
          by_cases h0 : j = 0
          · subst h0; rfl
          · simp [Addr.add, h0]
        rw [h7]
        exact h6)
      have HCN := Lib.hid (show c + min c (N - c) ≤ N ∧ 0 < min c (N - c) from by omega)
      have HMN := Lib.hid (show (List.replicate (min c (N - c)) x).length = Nat.min c (N - c) from List.length_replicate)
      have HFT := Lib.hid (show c + (List.replicate (min c (N - c)) x).length ≤ (List.replicate c x ++ List.replicate (N - c) ((.int .i64 0) : Value)).length from by
        simp only [List.length_append, List.length_replicate]
        omega)
      have HOC := Lib.hid (show ∀ v ∈ List.replicate (min c (N - c)) x, v.oneCell' = true from fun v hv => by rw [(List.mem_replicate.1 hv).2]; exact hx1)
      have HGO := Lib.hid (show ∀ W : World, W.heap[w.heap.size]? = some (.cells (splice (List.replicate c x ++ List.replicate (N - c) (.int .i64 0)) c (List.replicate (min c (N - c)) x)).toArray 3 (0, 0)) → Below w.heap.size w W → RepRow w W 3 x (.int .i64 0) (c + min c (N - c)) N from fun W h hB => by
        rw [splice_rep, Nat.sub_sub] at h
        exact ⟨h, hB⟩)
      have m3 : (c : Int) + ((List.replicate (min c (N - c)) x).length : Int) ≤ 8 := by rw [List.length_replicate]; omega
      have HLR := Lib.hid (show (List.replicate (min c (N - c)) x).length = min c (N - c) from List.length_replicate)
      clear hc0 hrow hb hlt
      generalize hL : List.replicate (min c (N - c)) x = L at *
      clear hL
      go_wp2_with fail
      go_region_law (refine step_copy_splice rfl (.tmp 41) (.tmp 44) 24 24 rfl 3 Try.underlying24 hsz (some ⟨w.heap.size, c, none⟩) (some ⟨w.heap.size, 0, none⟩) (N - c) (N - c) c N (by simp [Act.eval, Act.put]) (by simp [Act.eval, Act.put]) w.heap.size c (List.replicate c x ++ List.replicate (N - c) (.int .i64 0)) 3 HRW.out L HMN.out (fun _ => ⟨rfl, _, rfl, HSR.out⟩) HFT.out HOC.out w.heap.size w HBW.out (Nat.le_refl _) ?_; intro w4 hg4 hb4)
      have m4 : IntKind.i64.wrap ((c : Int) + (L.length : Int)) = (c : Int) + (L.length : Int) := by rw [IntKind.wrap_i64]; omega
      all_goals
        go_simp
        go_wp2_with fail
        go_roundw
        case rel => exact ⟨c + min c (N - c), HCN.out.1, by omega, by rw [HLR.out]; push_cast; rfl, HGO.out _ hg4.out hb4⟩
        case measure => have := HCN.out; rw [HLR.out]; simp [intOf]; omega
    · obtain rfl : c = N := by omega
      have c2 : ¬ (c : Int) < (c : Int) := by omega
      have HR := Lib.hid hrep
      clear hrep
      go_wp2_with fail
      go_ret
      exact ⟨rfl, HR.out⟩
set_option maxRecDepth 100000 in
set_option maxHeartbeats 3200000 in
theorem rep_row (x : Value) (hx1 : x.oneCell' = true) (N : Nat) (hN : N ≤ 8) (b off cap : Nat) (w : World) (hc : w.cell? ⟨b, off, none⟩ = some x) :
    Calls Try.prog 86 #[.slice (some ⟨b, off, none⟩) 1 cap, .int .i64 (N : Int)] w fun e w' => e = .returned (.slice (some ⟨w.heap.size, 0, none⟩) N N) ∧ RepRow w w' 24 x (.slice none 0 0) N N := by
  obtain ⟨i0, hi, hz0, hz1, hz2⟩ := info_parts info_ints
  have hsz : (Try.prog.info? 24).map (·.size) = some 1 := by rw [hi, ← hz1]; rfl
  have HC := Lib.hid hc
  have HM := Lib.hid (show Calls Try.prog 117 #[.int .u64 1, .int .u64 (N : Int)] w fun e w' => e = .returned (.tuple #[.int .u64 0, .int .u64 (N : Int)]) ∧ w = w' from by
    have h := Try.bits_Mul 1 N (by omega) (by omega) w
    rw [show 1 * N / 18446744073709551616 = 0 by omega, show 1 * N % 18446744073709551616 = N by omega] at h
    exact h.mono fun _ _ q => ⟨q.1, q.2.symm⟩)
  have n1 : (0 : Int) ≤ (N : Int) := by omega
  have n2 : (N : Int) ≤ 8 := by omega
  have n3 : (N : Int) ≤ 9223372036854775807 := by omega
  go_enter Try.func86, Try.ntmps86
  go_wp2_with fail
  refine HM.out.mono ?_
  rintro e w1 ⟨rfl, rfl⟩
  go_wp2_with (at_make; refine wpList_make_full _ rfl _ _ 32 rfl w.heap.size 24 i0 (.slice none 0 0) 1 Try.underlying32 hi hz0 hz1 _ _ _ _ N rfl rfl rfl rfl (by rw [hz2]; omega) (by unfold maxLen; omega) (Nat.le_refl _) ?_)
  intro w1 hown hg
  rw [toList_madeCells_one] at hown
  have hrow := made_rep hown
  have hb1 : Below w.heap.size w w1 := (Below.refl _ _).grown hg (Nat.le_refl _) (by simp)
  have hc1 : w1.cell? ⟨b, off, none⟩ = some x := (hb1.cell (p := ⟨b, off, none⟩) (World.block_lt_of_cell? _ _ HC.out)).trans HC.out
  obtain ⟨w2, hcp, hrep⟩ := run_rep (P := Try.prog) (T := 32) (e := 24) (ty := 3) Try.underlying32 hsz hx1 (c := 0) (N := N) (m := min 1 N) (z := (.slice none 0 0)) (w0 := w) (w := w1) (show RepRow w w1 _ x _ 0 N from ⟨hrow, hb1⟩) N N 1 cap ⟨b, off, none⟩ rfl (fun j hj => by
    obtain rfl : j = 0 := by omega
    exact hc1) (by omega)
  rw [Nat.zero_add] at hrep
  have HST := Lib.hid hrep
  clear hown hg hc hrow hb1 hc1 hrep
  go_wp2_with fail
  clear hcp
  go_loopw [8] (fun s wr => ∃ c : Nat, c ≤ N ∧ (c = 0 → N = 0) ∧ s = .int .i64 (c : Int) ∧ RepRow w wr 24 x (.slice none 0 0) c N) (fun s _ => N - (intOf s).toNat)
  case atStart => exact ⟨min 1 N, by omega, by omega, by simp, HST.out⟩
  case round =>
    obtain ⟨c, hcN, hc0, rfl, hrep⟩ := hrel
    by_cases hlt : c < N
    · have c1 : 0 < c := by omega
      have c2 : (c : Int) < (N : Int) := by omega
      have c3 : (0 : Int) ≤ (c : Int) := by omega
      have c4 : (c : Int) ≤ (N : Int) := by omega
      have c5 : ¬ N = c := by omega
      have c6 : c ≤ N := by omega
      obtain ⟨hrow, hb⟩ := hrep
      have HRW := Lib.hid (show wr.drew.heap[w.heap.size]? = _ from hrow)
      have HBW := Lib.hid (show Below w.heap.size w wr.drew from ⟨hb.os, hb.tape, hb.output, hb.size, hb.block⟩)
      have HSR := Lib.hid (show ∀ j v, (List.replicate (min c (N - c)) x)[j]? = some v → wr.drew.cell? ((⟨w.heap.size, 0, none⟩ : Addr).add j) = some v from fun j v hj => by
        obtain ⟨h1, h2⟩ := List.getElem?_eq_some_iff.1 hj
        rw [List.getElem_replicate] at h2
        rw [List.length_replicate] at h1
        rw [← h2]
        have h3 : j < c := by omega
        have h4 : (List.replicate c x ++ List.replicate (N - c) (.slice none 0 0))[j]? = some x := by
          rw [List.getElem?_append_left (by simpa using h3)]
          simp [h3]
        have h5 := HRW.out
        have h6 : wr.drew.cell? ⟨w.heap.size, j, none⟩ = some x := by simp only [World.cell?, h5]; simpa using h4
        have h7 : (⟨w.heap.size, 0, none⟩ : Addr).add j = ⟨w.heap.size, j, none⟩ := by
          by_cases h0 : j = 0
          · subst h0; rfl
          · simp [Addr.add, h0]
        rw [h7]
        exact h6)
      have HCN := Lib.hid (show c + min c (N - c) ≤ N ∧ 0 < min c (N - c) from by omega)
      have HMN := Lib.hid (show (List.replicate (min c (N - c)) x).length = Nat.min c (N - c) from List.length_replicate)
      have HFT := Lib.hid (show c + (List.replicate (min c (N - c)) x).length ≤ (List.replicate c x ++ List.replicate (N - c) ((.slice none 0 0) : Value)).length from by
        simp only [List.length_append, List.length_replicate]
        omega)
      have HOC := Lib.hid (show ∀ v ∈ List.replicate (min c (N - c)) x, v.oneCell' = true from fun v hv => by rw [(List.mem_replicate.1 hv).2]; exact hx1)
      have HGO := Lib.hid (show ∀ W : World, W.heap[w.heap.size]? = some (.cells (splice (List.replicate c x ++ List.replicate (N - c) (.slice none 0 0)) c (List.replicate (min c (N - c)) x)).toArray 24 (0, 0)) → Below w.heap.size w W → RepRow w W 24 x (.slice none 0 0) (c + min c (N - c)) N from fun W h hB => by
        rw [splice_rep, Nat.sub_sub] at h
        exact ⟨h, hB⟩)
      have m3 : (c : Int) + ((List.replicate (min c (N - c)) x).length : Int) ≤ 8 := by rw [List.length_replicate]; omega
      have HLR := Lib.hid (show (List.replicate (min c (N - c)) x).length = min c (N - c) from List.length_replicate)
      clear hc0 hrow hb hlt
      generalize hL : List.replicate (min c (N - c)) x = L at *
      clear hL
      go_wp2_with fail
      go_region_law (refine step_copy_splice rfl (.tmp 41) (.tmp 44) 32 32 rfl 24 Try.underlying32 hsz (some ⟨w.heap.size, c, none⟩) (some ⟨w.heap.size, 0, none⟩) (N - c) (N - c) c N (by simp [Act.eval, Act.put]) (by simp [Act.eval, Act.put]) w.heap.size c (List.replicate c x ++ List.replicate (N - c) (.slice none 0 0)) 24 HRW.out L HMN.out (fun _ => ⟨rfl, _, rfl, HSR.out⟩) HFT.out HOC.out w.heap.size w HBW.out (Nat.le_refl _) ?_; intro w4 hg4 hb4)
      have m4 : IntKind.i64.wrap ((c : Int) + (L.length : Int)) = (c : Int) + (L.length : Int) := by rw [IntKind.wrap_i64]; omega
      all_goals
        go_simp
        go_wp2_with fail
        go_roundw
        case rel => exact ⟨c + min c (N - c), HCN.out.1, by omega, by rw [HLR.out]; push_cast; rfl, HGO.out _ hg4.out hb4⟩
        case measure => have := HCN.out; rw [HLR.out]; simp [intOf]; omega
    · obtain rfl : c = N := by omega
      have c2 : ¬ (c : Int) < (c : Int) := by omega
      have HR := Lib.hid hrep
      clear hrep
      go_wp2_with fail
      go_ret
      exact ⟨rfl, HR.out⟩
end Go.Proofs.Ytklamhnecncenaa.SbRep
