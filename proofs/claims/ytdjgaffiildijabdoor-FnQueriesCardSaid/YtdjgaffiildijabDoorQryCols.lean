/- Queries: the columns of given variables, a list of a bit set: the model's functions and the program's. -/
import Derived.Test.YtdjgaffiildijabDoorQrySpec1
import Derived.Test.YtdjgaffiildijabDoorShelf
import Derived.Maps.OwnSet
import Derived.Maps.OwnOps
namespace Go.Proofs.YtdjgaffiildijabDoor.QrySpec
open Go Go.RowKit Byt Ints IntsLaw Cd Rows2 Tab TabSpec Exact Atom QryMath
open Go.Maps (Keyed int_keyed IsMap Tidy)

theorem owBack {w0 w : World} {base : Nat} {v : Value} {l : List Int} (h : OwnI w base 3 v l) (hin : InR l) (hb : w0.heap.size ≤ base) : ∃ fp, rowC.ow w w0.heap.size [v] l fp ∧ fp.Nodup :=
  ⟨_, rowC.ow_base (Cd.ow_of_own h hin) hb, Cd.own_nodup⟩
set_option maxRecDepth 100000 in
set_option maxHeartbeats 1600000 in
theorem spec_cols (nm : ByteArray) (u v : Value) (vs xs : List Int) (S S2 : Nat → Prop) (w : World) (h1 : rowC.rd w S [u] vs) (h2 : rowC.rd w S2 [v] xs) (hl : vs.length ≤ 1048577) :
    Calls Tryd.prog 42 #[.agg #[.string nm, u], v] w fun e w' => ∃ v' fp, e = .returned v' ∧ rowC.ow w' w.heap.size [v'] (colsL vs xs) fp ∧ fp.Nodup ∧ Below w.heap.size w w' := by
  have HV := Lib.hid (fun w' (hb : Below w.heap.size w w') => row_ri (Cd.later h1 hb))
  have HX := Lib.hid (fun w' (hb : Below w.heap.size w w') => row_ri (Cd.later h2 hb))
  obtain ⟨av, cv, rfl, _⟩ := (row_ri h1).1
  clear h1 h2
  go_enter Tryd.func42, Tryd.ntmps42
  go_wp2_with fail
  generalize hW : w.alloc _ = W
  obtain ⟨r0, hz, hb0⟩ := start1 w _ hW
  have HC := Lib.hid (Loc2.of r0)
  have HB0 := Lib.hid hb0
  have HZ := Lib.hid hz
  have HW := Lib.hid (And.intro (Ints.OwnI.empty W W.heap.size 3 (Nat.le_refl _)) (below_alloc W (.cells #[] 3)))
  clear hW r0 hb0 hz
  go_loopw [5, 6] (fun o i wr => ∃ (k : Nat), k ≤ vs.length ∧ i = .int .i64 k ∧ OwnI wr W.heap.size 3 o (colsTo vs xs k) ∧ Below W.heap.size W wr) (fun _ i _ => vs.length - (intOf i).toNat)
  case atStart => exact ⟨0, Nat.zero_le _, rfl, by rw [← HZ.out]; exact HW.out.1, HW.out.2⟩
  case round =>
    obtain ⟨k, hk, rfl, hown, hb⟩ := hrel
    have c1 := (HC.out.later hb).c1
    have HB := Lib.hid hb
    have hbs := hb.size
    by_cases hlt : k < vs.length
    · obtain ⟨b, off, cap', e1, hbB, hcell⟩ := ri_at (HV.out wr (below_then HB0.out hb)).1 hlt
      injection e1 with e1 e2 e3
      subst e1 e3
      have HH := Lib.hid (fun w' (hq : Below w.heap.size w w') => spec_has v xs vs[k] _ w' (HX.out w' hq).1)
      have HH2 := Lib.hid (HH.out wr (below_then HB0.out hb))
      have p1 : (0 : Int) ≤ (k : Int) := by omega
      have p2 : (k : Int) < (vs.length : Int) := by omega
      have hlen : (colsTo vs xs k).length + 1 ≤ 1000000000000 := by have := colsTo_len vs xs k; omega
      cases hx : hasI xs vs[k]
      · have HNX := Lib.hid (colsTo_no hlt hx)
        rw [hx] at HH2
        clear hx hb HH
        generalize vs[k] = z at *
        go_wp2_with (go_at_call 85; refine HH2.out.mono ?_; rintro e w1 ⟨rfl, rfl⟩)
        go_roundw
        case rel => exact ⟨k + 1, by omega, by go_num, by rw [HNX.out]; exact hown, HB.out⟩
        case measure => simp [intOf]; omega
      · have HNX := Lib.hid (colsTo_yes hlt hx)
        rw [hx] at HH2
        clear hx hb HH
        generalize vs[k] = z at *
        generalize colsTo vs xs k = out at *
        go_wp2_with (first | (go_at_call 85; refine HH2.out.mono ?_; rintro e w1 ⟨rfl, rfl⟩) | (at_builtin; refine wp_appendI rfl (.tmp 22) (.tmp 24) 57 rfl W.heap.size 3 Tryd.underlying57 info_i64 _ _ rfl hown _ rfl hlen hbs ?_))
        intro v' w5 hown5 hb5
        go_wp2_with fail
        go_roundw
        case rel => exact ⟨k + 1, by omega, by go_num, by rw [HNX.out]; exact hown5, HB.out.trans hb5⟩
        case measure => simp [intOf]; omega
    · have ek : k = vs.length := by omega
      subst ek
      obtain ⟨fp, q1, q2⟩ := owBack (w0 := w) hown (inr_colsTo vs xs vs.length (by omega)) (by have := HZ.out; omega)
      have HO := Lib.hid (And.intro q1 q2)
      clear hown hb q1 q2
      go_wp2_with fail
      go_ret
      exact ⟨_, fp, rfl, HO.out.1, HO.out.2, below_then HB0.out HB.out⟩

/-- A map to truth values: each stands for itself. -/
def boolR : Value → Option (DataW Value × List MemPlace)
  | .bool b => some (.lit (.bool b), [])
  | _ => none
theorem boolR_inv {v : Value} {b : Bool} {ps : List MemPlace} (h : boolR v = some (.lit (.bool b), ps)) : v = .bool b := by
  unfold boolR at h
  split at h
  · simp only [Option.some.injEq, Prod.mk.injEq] at h
    obtain ⟨h, _⟩ := h
    injection h with h
    injection h with h
    rw [h]
  · cases h
theorem lawI : Keyed Tryd.prog 3 := int_keyed Tryd.underlying3
theorem zeroB (w : World) : (zeroValue 4).run Tryd.prog w = .ok (.bool false) w := by kernel_rfl
abbrev OwnsB (w : World) (B n : Nat) (D : DataW Value) : Prop := w.ownsMap Tryd.prog 3 boolR B n D
/-- The numbers of p are marked, no others. -/
structure SetIs (D : DataW Value) (p : List Int) : Prop where
  tidy : Tidy D
  at_ : ∀ x, D.atKey (.int .i64 x) (.lit (.bool false)) = .lit (.bool (hasI p x))
theorem SetIs.start : SetIs (.map []) [] := ⟨Maps.tidy_empty, fun _ => rfl⟩
theorem hasI_snoc (p : List Int) (y x : Int) : hasI (p ++ [y]) x = (hasI p x || (x == y)) := by
  unfold hasI
  by_cases h : x = y <;> simp [List.contains_eq_mem, h]
theorem SetIs.put {D : DataW Value} {p : List Int} (h : SetIs D p) (y : Int) : SetIs (D.put (.int .i64 y) (.lit (.bool true))) (p ++ [y]) := by
  have hk : WideAt.IsKeyLit (.int .i64 y) := trivial
  refine ⟨h.tidy.put hk _, fun x => ?_⟩
  rw [hasI_snoc]
  by_cases e : x = y
  · subst e
    rw [Maps.atKey_put_same h.tidy.isMap hk]
    simp
  · rw [Maps.atKey_put_other (fun q => e (by injection q)), h.at_]
    simp [e]
theorem key_int {x : Int} (h : -9223372036854775808 ≤ x ∧ x ≤ 9223372036854775807) : keyOf Tryd.prog 3 (.int .i64 x) = some (.int .i64 x) := by
  unfold keyOf
  simp [Tryd.underlying3, mapKey, Lit.wf, IntKind.min, IntKind.max, IntKind.signed, IntKind.bits]
  omega
theorem grownN {w w' : World} (h : Below w.heap.size w w') : w.grownBy w' none := ⟨h.os, h.tape, h.output, h.size, fun i hi _ => h.block i hi⟩
set_option maxRecDepth 100000 in
set_option maxHeartbeats 1600000 in
theorem impl_cols (nm : ByteArray) (u v : Value) (vs xs : List Int) (S S2 : Nat → Prop) (w : World) (h1 : rowC.rd w S [u] vs) (h2 : rowC.rd w S2 [v] xs) (hl : vs.length ≤ 1048577) (hxl : xs.length ≤ 1048577) :
    Calls Tryd.prog 41 #[.agg #[.string nm, u], v] w fun e w' => ∃ v' fp, e = .returned v' ∧ rowC.ow w' w.heap.size [v'] (colsL vs xs) fp ∧ fp.Nodup ∧ Below w.heap.size w w' := by
  have HV := Lib.hid (fun w' (hb : Below w.heap.size w w') => row_ri (Cd.later h1 hb))
  have HX := Lib.hid (fun w' (hb : Below w.heap.size w w') => row_ri (Cd.later h2 hb))
  have HVR := Lib.hid (row_ri h1).2
  have HXR := Lib.hid (row_ri h2).2
  obtain ⟨av, cv, rfl, _⟩ := (row_ri h1).1
  obtain ⟨ax, cx, rfl, _⟩ := (row_ri h2).1
  have hmm := @run_makeMap Tryd.prog
  clear h1 h2
  go_enter Tryd.func41, Tryd.ntmps41
  go_wp2_with fail
  have hM0 := World.ownsMap_made (w.alloc (.cells #[.string nm, .slice av vs.length cv] 66 (0, 0))) Tryd.prog 3 boolR
  rw [size_alloc] at hM0
  generalize hW : (w.alloc _).alloc _ = W at *
  have HM0 := Lib.hid (show OwnsB W (w.heap.size + 1) 0 (.map []) from hM0)
  clear hM0
  obtain ⟨r0, r1, hz, hb0⟩ := start2g w _ _ hW
  have HC := Lib.hid (Loc2.of r0)
  have HB0 := Lib.hid hb0
  have HZ := Lib.hid hz
  clear hW r0 r1 hz hb0
  go_loopw [14] (fun i wr => ∃ (k : Nat) (D : DataW Value), k ≤ xs.length ∧ i = .int .i64 k ∧ OwnsB wr (w.heap.size + 1) k D ∧ SetIs D (xs.take k) ∧ Cd.Touch [w.heap.size + 1] W wr) (fun i _ => xs.length - (intOf i).toNat)
  case atStart => exact ⟨0, .map [], Nat.zero_le _, rfl, HM0.out, SetIs.start, Cd.Touch.refl _ _⟩
  case round =>
    obtain ⟨k, D, hk, rfl, hown, hset, ht⟩ := hrel
    have HT := Lib.hid ht
    have HS := Lib.hid hset
    have hB := Cd.Touch.below HB0.out ht (fun b hb => by rw [List.mem_singleton.1 hb]; omega)
    have HB := Lib.hid hB
    by_cases hlt : k < xs.length
    · obtain ⟨b, off, cap', e1, hbB, hcell⟩ := ri_at (HX.out wr hB).1 hlt
      injection e1 with e1 e2 e3
      subst e1 e3
      have p1 : (0 : Int) ≤ (k : Int) := by omega
      have p2 : (k : Int) < (xs.length : Int) := by omega
      have HK := Lib.hid (key_int (HXR.out _ (List.getElem_mem hlt)))
      have hn6 : k < maxLen := by unfold maxLen; omega
      have HNX := Lib.hid (List.take_succ_eq_append_getElem hlt)
      clear hset ht hB
      generalize xs[k] = z at *
      go_wp2_with (first
        | (at_mapUpdate; refine wpList_mapUpdate_own _ rfl _ _ _ 110 rfl 3 4 lawI Tryd.underlying110 boolR (w.heap.size + 1) k D rfl hown hn6 _ _ (.int .i64 z) rfl rfl HK.out (.lit (.bool true)) [] rfl ?_; intro w2 hown2 hg2; go_frame)
        | go_in)
      have HT2 := Lib.hid (HT.out.trans ⟨hg2.os, hg2.tape, hg2.output, hg2.size, fun k hk hn => hg2.block k hk (by simpa using hn)⟩)
      have HO2 := Lib.hid hown2
      clear hown2 hg2 hown
      go_wp2_with fail
      go_roundw
      case rel => exact ⟨k + 1, _, by omega, by go_num, HO2.out, by rw [HNX.out]; exact HS.out.put z, HT2.out⟩
      case measure => simp [intOf]; omega
    · have ek : k = xs.length := by omega
      subst ek
      rw [List.take_length] at hset
      have HSX := Lib.hid hset
      have HOX := Lib.hid hown
      have c1 := (HC.out.touched ht (by simp)).c1
      have HCX := Lib.hid (HC.out.touched ht (by simp))
      have hzr : w.heap.size + 1 < wr.heap.size := by have := ht.size; have := HZ.out; omega
      have HZR := Lib.hid hzr
      clear hset ht hB hown HS HT hzr
      go_wp2_with fail
      generalize wr = w1 at *
      go_loopw [8, 24] (fun o i wr => ∃ (k : Nat), k ≤ vs.length ∧ i = .int .i64 k ∧ OwnI wr w1.heap.size 3 o (colsTo vs xs k) ∧ Below w1.heap.size w1 wr) (fun _ i _ => vs.length - (intOf i).toNat)
      case atStart => exact ⟨0, Nat.zero_le _, rfl, OwnI.nil _ _ _, Below.refl _ _⟩
      case round =>
        obtain ⟨k, hk, rfl, hown, hb⟩ := hrel
        have HBQ := Lib.hid hb
        have hbs := hb.size
        have HOM := Lib.hid (show OwnsB wr (w.heap.size + 1) xs.length D from World.ownsMap.kept HOX.out (grownN hb) (by simp))
        by_cases hlt : k < vs.length
        · obtain ⟨b, off, cap', e1, hbB, hcell⟩ := ri_at (HV.out wr (below_then HB.out hb)).1 hlt
          injection e1 with e1 e2 e3
          subst e1 e3
          have p1 : (0 : Int) ≤ (k : Int) := by omega
          have p2 : (k : Int) < (vs.length : Int) := by omega
          have hlen : (colsTo vs xs k).length + 1 ≤ 1000000000000 := by have := colsTo_len vs xs k; omega
          obtain ⟨y, ps, hrun, hy⟩ := World.ownsMap.lookup (t := 110) HOM.out lawI Tryd.underlying110 (zeroB wr) (zd := .lit (.bool false)) (zp := []) rfl (key_int (HVR.out _ (List.getElem_mem hlt)))
          rw [HSX.out.at_] at hy
          obtain rfl := boolR_inv hy
          clear hy
          cases hx : hasI xs vs[k]
          · have HNX := Lib.hid (colsTo_no hlt hx)
            rw [hx] at hrun
            clear hx hb
            generalize vs[k] = z at *
            go_wp2_with fail
            go_roundw
            case rel => exact ⟨k + 1, by omega, by go_num, by rw [HNX.out]; exact hown, HBQ.out⟩
            case measure => simp [intOf]; omega
          · have HNX := Lib.hid (colsTo_yes hlt hx)
            rw [hx] at hrun
            clear hx hb
            generalize vs[k] = z at *
            generalize colsTo vs xs k = out at *
            go_wp2_with (first | (at_builtin; refine wp_appendI rfl (.tmp 32) (.tmp 34) 57 rfl w1.heap.size 3 Tryd.underlying57 info_i64 _ _ rfl hown _ rfl hlen hbs ?_))
            intro v' w5 hown5 hb5
            go_wp2_with fail
            go_roundw
            case rel => exact ⟨k + 1, by omega, by go_num, by rw [HNX.out]; exact hown5, HBQ.out.trans hb5⟩
            case measure => simp [intOf]; omega
        · have ek : k = vs.length := by omega
          subst ek
          obtain ⟨fp, q1, q2⟩ := owBack (w0 := w) hown (inr_colsTo vs xs vs.length (by omega)) (by have := HZR.out; omega)
          have HO := Lib.hid (And.intro q1 q2)
          clear hown hb q1 q2
          go_wp2_with fail
          go_ret
          exact ⟨_, fp, rfl, HO.out.1, HO.out.2, below_then HB.out HBQ.out⟩

theorem bitLen_vars : ∀ s < 16, varsTo s (Lib.bitLen s) = varsL s ∧ Lib.bitLen s ≤ 4 := by decide
set_option maxRecDepth 100000 in
set_option maxHeartbeats 1600000 in
theorem impl_list (s : Nat) (w : World) (hs : s < 16) :
    Calls Tryd.prog 80 #[.int .i64 (s : Int)] w fun e w' => ∃ v' fp, e = .returned v' ∧ rowC.ow w' w.heap.size [v'] (varsL s) fp ∧ fp.Nodup ∧ Below w.heap.size w w' := by
  have HL0 : Calls Tryd.prog 127 #[.int .u64 (s : Int)] w fun e w' => e = .returned (.int .i64 (Lib.bitLen (s : Int).toNat)) ∧ w = w' := (Tryd.bits_Len (s : Int) w (by omega) (by omega)).mono fun _ _ h => ⟨h.1, h.2.symm⟩
  have HL := Lib.hid HL0
  clear HL0
  have HV := Lib.hid (bitLen_vars s hs)
  rw [show (s : Int).toNat = s by omega] at HL
  generalize Lib.bitLen s = n at *
  have hw64 : IntKind.u64.wrap (s : Int) = (s : Int) := by rw [IntKind.wrap_u64]; omega
  go_enter Tryd.func80, Tryd.ntmps80
  go_wp2_with (go_at_call 127; refine HL.out.mono ?_; rintro e w1 ⟨rfl, rfl⟩)
  go_loopw [3, 8] (fun o i wr => ∃ (k : Nat), k ≤ n ∧ i = .int .i64 k ∧ OwnI wr w.heap.size 3 o (varsTo s k) ∧ Below w.heap.size w wr) (fun _ i _ => n - (intOf i).toNat)
  case atStart => exact ⟨0, Nat.zero_le _, rfl, OwnI.nil _ _ _, Below.refl _ _⟩
  case round =>
    obtain ⟨k, hk, rfl, hown, hb⟩ := hrel
    have HB := Lib.hid hb
    have hbs := hb.size
    have hn4 := HV.out.2
    by_cases hlt : k < n
    · have hbit := bit_at hs k
      have p1 : (0 : Int) ≤ (k : Int) := by omega
      have p2 : (k : Int) < (n : Int) := by omega
      have p3 : (k : Int) ≤ 64 := by omega
      have p4 : ((k : Int)).toNat = k := by omega
      have hlen : (varsTo s k).length + 1 ≤ 1000000000000 := by have := varsTo_len s k; omega
      by_cases hx : s / 2 ^ k % 2 = 1
      · have HNX := Lib.hid (varsTo_yes hx)
        rw [hx] at hbit
        clear hx hb
        generalize varsTo s k = out at *
        go_wp2_with (first | (at_builtin; refine wp_appendI rfl (.tmp 16) (.tmp 18) 57 rfl w.heap.size 3 Tryd.underlying57 info_i64 _ _ rfl hown _ rfl hlen hbs ?_))
        intro v' w5 hown5 hb5
        go_wp2_with fail
        go_roundw
        case rel => exact ⟨k + 1, by omega, by go_num, by rw [HNX.out]; exact hown5, HB.out.trans hb5⟩
        case measure => simp [intOf]; omega
      · have HNX := Lib.hid (varsTo_no hx)
        have hz : s / 2 ^ k % 2 = 0 := by omega
        rw [hz] at hbit
        clear hx hb hz
        go_wp2_with fail
        go_roundw
        case rel => exact ⟨k + 1, by omega, by go_num, by rw [HNX.out]; exact hown, HB.out⟩
        case measure => simp [intOf]; omega
    · have ek : k = n := by omega
      subst ek
      have HO := Lib.hid (show OwnI wr w.heap.size 3 _ (varsL s) from by rw [← HV.out.1]; exact hown)
      clear hown hb
      go_wp2_with fail
      go_ret
      exact ⟨_, _, rfl, Cd.ow_of_own HO.out (inr_varsTo s 4 (by decide)), Cd.own_nodup, HB.out⟩
end Go.Proofs.YtdjgaffiildijabDoor.QrySpec
