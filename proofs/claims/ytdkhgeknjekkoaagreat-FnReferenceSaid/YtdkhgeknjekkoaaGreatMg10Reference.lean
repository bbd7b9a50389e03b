/- Texts that the proof rests on, one behind the other. -/
import Derived.Test.YtdkhgeknjekkoaaGreatMg8Reference
import Derived.Test.YtdkhgeknjekkoaaGreatMg3Reference
import Derived.Test.YtdkhgeknjekkoaaGreatSlTable
import Derived.Test.YtdkhgeknjekkoaaGreatMg9Reference
import Derived.Test.YtdkhgeknjekkoaaGreatMg7Reference
import Derived.Test.YtdkhgeknjekkoaaGreatRows
import Derived.Test.YtdkhgeknjekkoaaGreatFixed
import Derived.Test.YtdkhgeknjekkoaaGreatInts
import Derived.WalkKit
import Derived.WalkSpells
import Derived.WalkLawsBesides
import Derived.Lib.Hide
import Derived.Deep.QuietTactic
import Derived.BigQuiet
import Derived.Test.YtdkhgeknjekkoaaGreatIntsLaw
import Derived.Test.YtdkhgeknjekkoaaGreatFormat
import Derived.Test.YtdkhgeknjekkoaaGreatMg1Reference
import Derived.StillTailTactics
import Derived.Test.YtdkhgeknjekkoaaGreatTabFmt
import Derived.Test.YtdkhgeknjekkoaaGreatTabParse
import Derived.Test.YtdkhgeknjekkoaaGreatCdRoom
import Derived.Test.YtdkhgeknjekkoaaGreatExact
import Derived.Test.YtdkhgeknjekkoaaGreatShelf
import Derived.Deep.RegionLaw
import Derived.Test.YtdkhgeknjekkoaaGreatQryNames

namespace Go.Proofs.YtdkhgeknjekkoaaGreat.AnsEv
open Go Go.RowKit Byt Ints IntsLaw Cd Rows2 Tab TabSpec Exact Atom QryMath QrySpec QryImp MkAtom AnsMath SlMath TabOpen TabElem QgMath AnsSpec AnsQ DbMath DbSpec Db DbExact QryFor AnsC

def rawsA : Cd (List (Value × Value)) := Cd.sl 48 raw2
/-- The cells of the atoms chosen. -/
def PsOk (w : World) (S : Nat → Prop) (ps : List (Value × Value)) (al : List A2) : Prop := ps.length = al.length ∧ ∀ i (h : i < ps.length) (h' : i < al.length), atomC.rd w S [ps[i].1, ps[i].2] al[i]
theorem PsOk.snoc {w : World} {S : Nat → Prop} {ps : List (Value × Value)} {al : List A2} (h : PsOk w S ps al) {x y : Value} {A : A2} (k : atomC.rd w S [x, y] A) : PsOk w S (ps ++ [(x, y)]) (al ++ [A]) := by
  refine ⟨by rw [List.length_append, List.length_append, h.1]; rfl, fun i h1 h2 => ?_⟩
  by_cases hi : i < ps.length
  · have hi2 : i < al.length := by rw [← h.1]; exact hi
    rw [List.getElem_append_left hi, List.getElem_append_left hi2]
    exact h.2 i hi hi2
  · have e : i = ps.length := by rw [List.length_append] at h1; simp at h1; omega
    subst e
    have e2 : ps.length = al.length := h.1
    simp only [List.getElem_append_right (Nat.le_refl _), Nat.sub_self, List.getElem_cons_zero]
    rw [List.getElem_append_right (by omega)]
    simp only [e2, Nat.sub_self, List.getElem_cons_zero]
    exact k
/-- What the model's loop keeps. -/
structure EvS (w wr : World) (dv : Value) (n : Int) (qv : Value) (ts : List T3) (ps : List (Value × Value)) (o1 o2 : Value) (f1 f2 : List Nat) : Prop where
  c3 : Loc1 wr w.heap.size dv
  c4 : Atom.Loc2 wr (w.heap.size + 1) (.int .i64 n) qv
  c6 : Atom.Loc2 wr (w.heap.size + 1 + 1) (.slice none 0 0) (.slice none 0 0)
  t : tabsC.ow wr (w.heap.size + 3) [o1] ts f1
  tn : f1.Nodup
  a : rawsA.ow wr (w.heap.size + 3) [o2] ps f2
  an : f2.Nodup
  dis : ∀ b ∈ f1, b ∉ f2
  hb : Below w.heap.size w wr
  sz : w.heap.size + 3 ≤ wr.heap.size
theorem EvS.later {w wr w' : World} {dv : Value} {n : Int} {qv : Value} {ts : List T3} {ps : List (Value × Value)} {o1 o2 : Value} {f1 f2 : List Nat} (h : EvS w wr dv n qv ts ps o1 o2 f1 f2) (hb : Below wr.heap.size wr w') : EvS w w' dv n qv ts ps o1 o2 f1 f2 :=
  ⟨h.c3.later hb, h.c4.later hb, h.c6.later hb, Cd.ow_later h.t hb, h.tn, Cd.ow_later h.a hb, h.an, h.dis, below_then h.hb hb, Nat.le_trans h.sz hb.size⟩
theorem EvS.f1_ge {w wr : World} {dv : Value} {n : Int} {qv : Value} {ts : List T3} {ps : List (Value × Value)} {o1 o2 : Value} {f1 f2 : List Nat} (h : EvS w wr dv n qv ts ps o1 o2 f1 f2) : ∀ b ∈ f1, w.heap.size + 3 ≤ b ∧ b < wr.heap.size := fun b hb => tabsC.ow_lt h.t b hb
theorem EvS.f2_ge {w wr : World} {dv : Value} {n : Int} {qv : Value} {ts : List T3} {ps : List (Value × Value)} {o1 o2 : Value} {f1 f2 : List Nat} (h : EvS w wr dv n qv ts ps o1 o2 f1 f2) : ∀ b ∈ f2, w.heap.size + 3 ≤ b ∧ b < wr.heap.size := fun b hb => rawsA.ow_lt h.a b hb
theorem lt_alloc (w : World) (o : Obj) : w.heap.size < (w.alloc o).heap.size := by rw [size_alloc]; exact Nat.lt_succ_self _
/-- A table appended. -/
theorem EvS.tab {w wA w5 : World} {dv : Value} {n : Int} {qv : Value} {ts ts' : List T3} {ps : List (Value × Value)} {o1 o2 o' : Value} {f1 f2 f' fT : List Nat} (h : EvS w wA dv n qv ts ps o1 o2 f1 f2) (ho : tabsC.ow w5 (w.heap.size + 3) [o'] ts' f') (hn : f'.Nodup)
    (hs : ∀ b ∈ f', b ∈ f1 ∨ b ∈ fT ∨ wA.heap.size ≤ b) (ht : Cd.Touch f1 wA w5) (hd : ∀ b ∈ fT, b ∉ f2) : EvS w w5 dv n qv ts' ps o' o2 f' f2 := by
  have h1 := h.f1_ge
  have h2 := h.f2_ge
  refine ⟨h.c3.touched ht (fun q => by have := h1 _ q; omega), h.c4.touched ht (fun q => by have := h1 _ q; omega), h.c6.touched ht (fun q => by have := h1 _ q; omega), ho, hn, Cd.ow_touched h.a ht (fun b hb q => h.dis b q hb), h.an, fun b hb q => ?_, Cd.Touch.below h.hb ht (fun b hb => by have := h1 b hb; omega), Nat.le_trans h.sz ht.size⟩
  rcases hs b hb with r | r | r
  · exact h.dis b r q
  · exact hd b r q
  · have := h2 b q; omega
/-- An atom appended. -/
theorem EvS.atm {w wA w5 : World} {dv : Value} {n : Int} {qv : Value} {ts : List T3} {ps ps' : List (Value × Value)} {o1 o2 o' : Value} {f1 f2 f' : List Nat} (h : EvS w wA dv n qv ts ps o1 o2 f1 f2) (ho : rawsA.ow w5 (w.heap.size + 3) [o'] ps' f') (hn : f'.Nodup)
    (hs : ∀ b ∈ f', b ∈ f2 ∨ b ∈ ([] : List Nat) ∨ wA.heap.size ≤ b) (ht : Cd.Touch f2 wA w5) : EvS w w5 dv n qv ts ps' o1 o' f1 f' := by
  have h1 := h.f1_ge
  have h2 := h.f2_ge
  refine ⟨h.c3.touched ht (fun q => by have := h2 _ q; omega), h.c4.touched ht (fun q => by have := h2 _ q; omega), h.c6.touched ht (fun q => by have := h2 _ q; omega), Cd.ow_touched h.t ht (fun b hb q => h.dis b hb q), h.tn, ho, hn, fun b hb q => ?_, Cd.Touch.below h.hb ht (fun b hb => by have := h2 b hb; omega), Nat.le_trans h.sz ht.size⟩
  rcases hs b q with r | r | r
  · exact h.dis b hb r
  · cases r
  · have := h1 b hb; omega
theorem EvS.start {w W : World} {dv : Value} {n : Int} {qv : Value} {e3 e4 e6 : TypeId} (h : ((w.alloc (.cells #[dv] e3 (0, 0))).alloc (.cells #[.int .i64 n, qv] e4 (0, 0))).alloc (.cells #[.slice none 0 0, .slice none 0 0] e6 (0, 0)) = W) :
    Loc1 W w.heap.size dv ∧ Atom.Loc2 W (w.heap.size + 1) (.int .i64 n) qv ∧ Atom.Loc2 W (w.heap.size + 1 + 1) (.slice none 0 0) (.slice none 0 0) ∧ Below w.heap.size w W ∧ W.heap.size = w.heap.size + 3 := by
  obtain ⟨r0, r1, r2, hz, hb0⟩ := start3 w _ _ _ h
  exact ⟨Loc1.of r0, Atom.Loc2.of r1, Atom.Loc2.of r2, hb0, hz⟩

set_option maxRecDepth 100000 in
set_option maxHeartbeats 6400000 in
theorem spec_eval (u v : Value) (d : List T3) (n m : Int) (l : List A2) (S1 S2 : Nat → Prop) (w : World) (h1 : tabsC.rd w S1 [u] d) (h2 : atomsC.rd w S2 [v] l) (hw : SlTable.wtS d ≤ 1048577) :
    Calls Tryz.prog 11 #[.agg #[u], .agg #[.int .i64 n, v], .int .i64 m] w fun e w' => EvAns (evV d n l m) (evR d n l m) (evOk d n l m) w e w' := by
  have HF := Lib.hid (fun w' (hb : Below w.heap.size w w') => spec_for u v d n l S1 S2 w' (Cd.later h1 hb) (Cd.later h2 hb) hw)
  have HFM := Lib.hid (fun w' (hb : Below w.heap.size w w') => QgSpec.spec_full n v l S2 w' (Cd.later h2 hb))
  have HMV := Lib.hid (fun w' (hb : Below w.heap.size w w') => spec_maskvars n m v l S2 w' (Cd.later h2 hb))
  have HL := Lib.hid (fun nm w' (hb : Below w.heap.size w w') => spec_look u d nm S1 w' (Cd.later h1 hb) hw)
  have HRD := Lib.hid h2
  obtain ⟨a1, cap1, rfl, _⟩ := Cd.sl_form h1
  obtain ⟨a, cap, rfl, _⟩ := Cd.sl_form h2
  clear h1 h2 hw
  cases hfo : forOk d n l
  · have hno : evOk d n l m = false := by unfold evOk; rw [hfo]; rfl
    rw [(ev_no hno).1, (ev_no hno).2, hno]
    rw [hfo] at HF
    clear hfo hno
    go_enter Tryz.func11, Tryz.ntmps11
    go_wp2_with fail
    generalize hW : ((w.alloc _).alloc _).alloc _ = W
    obtain ⟨l3, l4, l6, hb0, hz⟩ := EvS.start hW
    clear hW
    refine (HF.out _ hb0).mono ?_
    rintro e w1 ⟨rfl, hb1⟩
    have c0 := (l6.later hb1).c0
    have c1 := (l6.later hb1).c1
    have f0 := (l6.later hb1).f0
    have f1 := (l6.later hb1).f1
    have HB := Lib.hid (below_then hb0 hb1)
    have HK := Lib.hid (Loc2.set_both (l6.later hb1) (.slice none 0 0) (.slice none 0 0))
    clear hb0 hb1 l3 l4 l6 hz
    go_wp2_with fail
    have k0 := HK.out.c0
    have k1 := HK.out.c1
    refine bodyPost_ret (v := .tuple #[.agg #[.slice none 0 0, .slice none 0 0], .bool false]) (by simp [results, Tryz.results11, go_sem, k0, k1]) rfl (EvAns.no ((HB.out.setCell (by show _ ≤ w.heap.size + 1 + 1; omega) _).setCell (by show _ ≤ w.heap.size + 1 + 1; omega) _))
  rw [hfo] at HF
  by_cases hrg : 1 ≤ m ∧ m ≤ (fm n l : Int)
  case neg =>
    have hno : evOk d n l m = false := by unfold evOk; rw [hfo, decide_eq_false hrg]; rfl
    rw [(ev_no hno).1, (ev_no hno).2, hno]
    have HI := Lib.hid (fun w => Fixed.l1In_no hrg w)
    clear hfo hno hrg
    generalize (fm n l : Int) = F at *
    go_enter Tryz.func11, Tryz.ntmps11
    go_wp2_with fail
    generalize hW : ((w.alloc _).alloc _).alloc _ = W
    obtain ⟨l3, l4, l6, hb0, hz⟩ := EvS.start hW
    clear hW
    refine (HF.out _ hb0).mono ?_
    rintro e w1 ⟨rfl, hb1⟩
    have L4 := Lib.hid (l4.later hb1)
    have L6 := Lib.hid (l6.later hb1)
    have HB := Lib.hid (below_then hb0 hb1)
    clear hb0 hb1 l3 l4 l6 hz
    have y0 := L4.out.c0
    have y1 := L4.out.c1
    go_wp2_with fail
    refine (HFM.out _ HB.out).mono ?_
    rintro e w2 ⟨rfl, hb2⟩
    have HB2 := Lib.hid (below_then HB.out hb2)
    have l6 := L6.out.later hb2
    have c0 := l6.c0
    have c1 := l6.c1
    have f0 := l6.f0
    have f1 := l6.f1
    have HK := Lib.hid (Loc2.set_both l6 (.slice none 0 0) (.slice none 0 0))
    clear hb2 l6 y0 y1
    go_wp2_with (go_at_call 51; refine (HI.out _).mono ?_; rintro e w3 ⟨rfl, rfl⟩)
    have k0 := HK.out.c0
    have k1 := HK.out.c1
    refine bodyPost_ret (v := .tuple #[.agg #[.slice none 0 0, .slice none 0 0], .bool false]) (by simp [results, Tryz.results11, go_sem, k0, k1]) rfl (EvAns.no ((HB2.out.setCell (by show _ ≤ w.heap.size + 1 + 1; omega) _).setCell (by show _ ≤ w.heap.size + 1 + 1; omega) _))
  have hok : evOk d n l m = true := by unfold evOk; rw [hfo, decide_eq_true hrg]; rfl
  obtain ⟨t, rfl, ht1, ht16, htl, hmb⟩ := evOk_mB hok
  have HI := Lib.hid (fun w => Fixed.l1In_yes hrg.1 hrg.2 w)
  have HOK := Lib.hid hok
  have HFO := Lib.hid hfo
  have HQP := Lib.hid (for_qp hfo)
  have HMB := Lib.hid hmb
  have HT := Lib.hid (And.intro ht16 htl)
  clear hfo hrg hok ht1 htl hmb
  generalize (fm n l : Int) = F at *
  go_enter Tryz.func11, Tryz.ntmps11
  go_wp2_with fail
  generalize hW : ((w.alloc _).alloc _).alloc _ = W
  obtain ⟨l3, l4, l6, hb0, hz⟩ := EvS.start hW
  clear hW
  refine (HF.out _ hb0).mono ?_
  rintro e w1 ⟨rfl, hb1⟩
  have L3 := Lib.hid (l3.later hb1)
  have L4 := Lib.hid (l4.later hb1)
  have L6 := Lib.hid (l6.later hb1)
  have HB := Lib.hid (below_then hb0 hb1)
  have HZ := Lib.hid (show w.heap.size + 3 ≤ w1.heap.size by have := hb1.size; omega)
  clear hb0 hb1 l3 l4 l6 hz
  have y0 := L4.out.c0
  have y1 := L4.out.c1
  go_wp2_with fail
  refine (HFM.out _ HB.out).mono ?_
  rintro e w2 ⟨rfl, hb2⟩
  have HB2 := Lib.hid (below_then HB.out hb2)
  have HZ2 := Lib.hid (show w.heap.size + 3 ≤ w2.heap.size by have := hb2.size; have := HZ.out; omega)
  replace L3 := Lib.hid (L3.out.later hb2)
  replace L4 := Lib.hid (L4.out.later hb2)
  replace L6 := Lib.hid (L6.out.later hb2)
  clear hb2 y0 y1
  go_wp2_with (go_at_call 51; refine (HI.out _).mono ?_; rintro e w3 ⟨rfl, rfl⟩)
  have hst : EvS w ((w2.alloc (.cells #[] 44)).alloc (.cells #[] 48)) (.slice a1 d.length cap1) n (.slice a l.length cap) [] [] (.slice (some ⟨w2.heap.size, 0, none⟩) 0 0) (.slice (some ⟨w2.heap.size + 1, 0, none⟩) 0 0) [w2.heap.size] [w2.heap.size + 1] := by
    have hb := below_then (below_alloc w2 (.cells #[] 44)) (below_alloc _ (.cells #[] 48))
    have hz1 := size_alloc w2 (.cells #[] 44)
    have e1 := Cd.ow_later (Cd.ow_empty (e := 44) (c := tabC) w2 (w.heap.size + 3) HZ2.out) (below_alloc (w2.alloc (.cells #[] 44)) (.cells #[] 48))
    have e2 := Cd.ow_empty (e := 48) (c := raw2) (w2.alloc (.cells #[] 44)) (w.heap.size + 3) (by have := HZ2.out; omega)
    rw [hz1] at e2
    exact ⟨L3.out.later hb, L4.out.later hb, L6.out.later hb, e1, by simp, e2, by simp, by simp, below_then HB2.out hb, Nat.le_trans HZ2.out hb.size⟩
  generalize (w2.alloc _).alloc _ = W2 at *
  generalize w2.heap.size + 1 = X1 at *
  generalize w2.heap.size = X0 at *
  have HST := Lib.hid hst
  clear hst L3 L4 L6 HZ HZ2 HB HB2
  go_loopw [8, 9, 10] (fun o1 o2 i wr => ∃ (k : Nat) (f1 f2 : List Nat) (ps : List (Value × Value)), k ≤ l.length ∧ i = .int .i64 k ∧ EvS w wr (.slice a1 d.length cap1) n (.slice a l.length cap) ((selA l t k).map fun A => lkT d A.1) ps o1 o2 f1 f2 ∧ Hid (PsOk w S2 ps (selA l t k))) (fun _ _ i _ => l.length - (intOf i).toNat)
  case atStart => exact ⟨0, _, _, [], Nat.zero_le _, rfl, HST.out, Lib.hid ⟨rfl, fun i h => by simp at h⟩⟩
  case round =>
    obtain ⟨k, f1, f2, ps, hk, rfl, hst, hps⟩ := hrel
    obtain ⟨ao1, co1, rfl⟩ := Cd.ow_slice (c := tabC) hst.t
    obtain ⟨ao2, co2, rfl⟩ := Cd.ow_slice (c := raw2) hst.a
    have HST := Lib.hid hst
    have y1 := hst.c4.c1
    clear hst
    by_cases hlt : k < l.length
    · obtain ⟨b, off, cap', us, e1, hSb, hbB, hat, hu⟩ := Cd.sl_at HRD.out hlt
      injection e1 with e1 e2 e3
      subst e1 e3
      obtain ⟨ua, rfl, hsz, hua⟩ := atom_cells hu
      have q0 := hat 0 (by simp)
      have q1 := hat 1 (by simp)
      simp only [List.getElem_cons_zero, List.getElem_cons_succ, Nat.add_zero, show atomC.n = 2 from rfl] at q0 q1
      have HQ := Lib.hid (And.intro q0 (And.intro q1 hbB))
      have hbit := bit_at ht16 k
      have HL4 := Lib.hid HQP.out.2.2.2.1
      have p1 : (0 : Int) ≤ (k : Int) := by omega
      have p2 : (k : Int) < (l.length : Int) := by omega
      have p3 : (k : Int) ≤ 64 := by have := HL4.out; omega
      have p4 : ((k : Int)).toNat = k := by omega
      have p5 : (k : Int) < 4 := by have := HL4.out; omega
      have HLT := Lib.hid hlt
      by_cases hx : t / 2 ^ k % 2 = 1
      case neg =>
        have h0 : t / 2 ^ k % 2 = 0 := by omega
        rw [h0] at hbit
        have HNX := Lib.hid (selA_no (l := l) hx)
        clear hx h0 hu hat q0 q1 hua e2
        go_wp2_with fail
        go_roundw
        case rel => exact ⟨k + 1, f1, f2, ps, by have := HLT.out; omega, by go_num, by rw [HNX.out]; exact HST.out, by rw [HNX.out]; exact hps⟩
        case measure => have := HLT.out; simp [intOf]; omega
      rw [hx] at hbit
      have HNX := Lib.hid (selA_yes hlt hx)
      have HPS := Lib.hid (PsOk.snoc hps.out hu)
      have hft := for_tab HFO.out (List.getElem_mem hlt)
      have HSOME := Lib.hid hft.2.2
      have HOKT := Lib.hid hft.1
      clear hx hu hat q0 q1 hua e2 hft hps
      generalize l[k] = A at *
      clear hlt
      generalize hTT : lkT d A.1 = T at *
      have HLK := Lib.hid (fun w' (hq : LaterQ wr w') => (show Calls Tryz.prog 19 #[.agg #[.slice a1 d.length cap1], .string A.1] w' fun e w'' => ∃ ta tc fp, e = .returned (.tuple #[.agg #[.string T.1, .int .i64 T.2.1, .slice ta T.2.2.length tc], .bool true]) ∧ rowsC.ow w'' w'.heap.size [.slice ta T.2.2.length tc] T.2.2 fp ∧ fp.Nodup ∧ Below w'.heap.size w' w'' from
        (HL.out A.1 w' (below_then HST.out.hb hq)).mono (by
          rintro e w'' ⟨tv, fp, rfl, how, hnd, hbq⟩
          rw [hTT] at how ⊢
          rw [HSOME.out]
          obtain ⟨ta, tc, rfl⟩ := Cd.ow_slice (c := rowC) how
          exact ⟨ta, tc, fp, rfl, how, hnd, hbq⟩)))
      have HTT := Lib.hid hTT
      clear hTT
      have HLL := Lib.hid (show ((selA l t k).map fun A => lkT d A.1).length + 1 ≤ 1000000000 by rw [List.length_map]; have h1 := selA_len l t k; have h2 := HL4.out; omega)
      have HT2 := Lib.hid (show (selA l t k ++ [A]).map (fun A => lkT d A.1) = (selA l t k).map (fun A => lkT d A.1) ++ [T] by rw [List.map_append, List.map_singleton, HTT.out])
      generalize (selA l t k).map (fun A => lkT d A.1) = LT at *
      have hq0 := (HST.out.hb.cell (p := ⟨b, off + k * 2, none⟩) HQ.out.2.2).trans HQ.out.1
      have lb : b < wr.heap.size := Nat.lt_of_lt_of_le HQ.out.2.2 HST.out.hb.size
      have g0 := HST.out.c3.c0
      have gl0 := HST.out.c3.lt
      have gl1 := HST.out.c4.lt
      have HSQ := Lib.hid (fun wx (h : LaterQ wr wx) => (show wx.cell? ⟨w.heap.size, 0, none⟩ = some (.slice a1 d.length cap1) ∧ wx.cell? ⟨w.heap.size + 1, 1, none⟩ = some (.slice (some ⟨b, off, none⟩) l.length cap) ∧ wx.cell? ⟨b, off + k * 2, none⟩ = some (.string A.1) ∧ LaterQ wr wx from
        ⟨(Below.cell h (p := ⟨w.heap.size, 0, none⟩) gl0).trans g0, (Below.cell h (p := ⟨w.heap.size + 1, 1, none⟩) gl1).trans y1, (Below.cell h (p := ⟨b, off + k * 2, none⟩) lb).trans hq0, h⟩))
      clear hq0 lb g0 gl0 gl1
      go_upto_region 9 with fail
      have kk : LaterQ wr wr.drew := (Below.refl _ wr).drew
      go_cut [11, 12] (fun s11 s12 wx => s12 = .bool true ∧ MadeO wr T s11 wx)
      case first =>
        go_region_held3 (fun wx => wx.cell? ⟨w.heap.size, 0, none⟩ = some (.slice a1 d.length cap1) ∧ wx.cell? ⟨w.heap.size + 1, 1, none⟩ = some (.slice (some ⟨b, off, none⟩) l.length cap) ∧ wx.cell? ⟨b, off + k * 2, none⟩ = some (.string A.1) ∧ LaterQ wr wx)
          ((refine HSQ.out _ ?_; first | assumption | exact Below.drew (Below.refl _ wr) | exact later_alloc (by assumption) _ | exact later_drewA wr _ | exact later_set3 (by first | assumption | exact later_alloc (by assumption) _) (later_size (by first | assumption | exact Below.refl _ _))))
          (first | (go_at_call 19; refine (HLK.out _ (by first | assumption | exact later_alloc (by assumption) _ | exact later_drewA wr _)).mono ?_; rintro e wq ⟨ta, tc, fT, rfl, how, hnd, hbq⟩; (have kk : LaterQ wr wq := (show Below wr.heap.size wr wq by refine below_then (show LaterQ wr _ from ?_) hbq; first | assumption | exact later_alloc (by assumption) _ | exact later_drewA wr _)); (have HOW := Lib.hid (And.intro how hnd)); (first | (have GL := Lib.hid (GL.out.later hbq)) | (have GL := Lib.hid (locQ_new' hbq)) | (have GL := Lib.hid (locQ_new hbq)) | (have GL := Lib.hid (locQ_new3 hbq)) | skip); (first | (have x0 := GL.out.c0; have x1 := GL.out.c1; have x2 := GL.out.c2; have f0 := GL.out.f0; have f1 := GL.out.f1; have f2 := GL.out.f2) | skip); (have hS := HSQ.out wq kk); (have k0 := hS.1); (have k1 := hS.2.1); (have k2 := hS.2.2.1); clear hbq how hnd hS))
        all_goals
          go_wp2_with fail
          go_meet
          refine ⟨rfl, ?_⟩
          first
            | (have GG := GL.out; exact madeO (by assumption) (later_size (by first | assumption | exact Below.refl _ _)) GG HOW.out.1 HOW.out.2 (lt_alloc _ _))
            | ((with_reducible refine madeO2 (by assumption) HOW.out.1 HOW.out.2 ?_); exact Nat.le_refl wr.heap.size)
      case rest =>
        obtain ⟨rfl, kp, ta, tc, fT, rfl, hkp, hl3, hoT, hnT, hlat⟩ := hcut
        have hX := HST.out.later hlat
        have HX := Lib.hid hX
        have x0 := hl3.c0
        have x1 := hl3.c1
        have x2 := hl3.c2
        have hA := below_alloc wc (.cells #[.string T.1, .int .i64 T.2.1, .slice ta T.2.2.length tc] 44 (0, 0))
        have HXA := Lib.hid (hX.later hA)
        have htp : TabP _ _ _ := of_decide_eq_true HOKT.out
        have HOT := Lib.hid (tab_ow (nm := T.1) (ar := T.2.1) (Cd.ow_later (rowsC.ow_base hoT HST.out.sz) hA) (show T.1.size ≤ maxLen by have := (of_decide_eq_true htp.1).1; unfold maxLen; omega) (by have := htp.2.1; have := htp.2.2.1; omega))
        have HAT := Lib.hid (at3 (row_alloc wc (.cells #[.string T.1, .int .i64 T.2.1, .slice ta T.2.2.length tc] 44 (0, 0))))
        have HFA := Lib.hid (show ∀ b ∈ fT, b ∉ f1 from fun b hb q => by
          have h1 := (rowsC.ow_lt hoT b hb).1
          have h2 := (HST.out.f1_ge b q).2
          omega)
        have HFB := Lib.hid (show ∀ b ∈ fT, b ∉ f2 from fun b hb q => by
          have h1 := (rowsC.ow_lt hoT b hb).1
          have h2 := (HST.out.f2_ge b q).2
          omega)
        have HPL := Lib.hid (show ps.length + 1 ≤ 1000000000 by have h0 := HPS.out.1; rw [List.length_append, List.length_append] at h0; simp at h0; have h1 := selA_len l t k; have h2 := HL4.out; omega)
        have HNT := Lib.hid hnT
        clear hX hA htp hl3 hoT hnT hlat hkp kk y1
        go_wp2_with (at_builtin; refine Cd.wpList_appendN (c := tabC) rfl (.tmp 51) (.tmp 53) 24 rfl (w.heap.size + 3) 44 (.agg #[.string ⟨#[]⟩, .int .i64 0, .slice none 0 0]) 3 48 rfl Tryz.underlying24 SlTable.info_x rfl (by decide) _ LT f1 rfl HXA.out.t HXA.out.tn wc.heap.size _ rfl HAT.out T fT HOT.out HNT.out HFA.out HLL.out HXA.out.sz ?_)
        intro g5 cap5 w5 f5 ho5 hn5 hs5 ht5
        have hY := HXA.out.tab ho5 hn5 (by rw [size_alloc]; exact hs5) ht5 HFB.out
        have HY := Lib.hid hY
        have z1 := hY.c4.c1
        have r0 := (hY.hb.cell (p := ⟨b, off + k * 2, none⟩) HQ.out.2.2).trans HQ.out.1
        have r1 := (hY.hb.cell (p := ⟨b, off + k * 2 + 1, none⟩) HQ.out.2.2).trans HQ.out.2.1
        have HYA := Lib.hid (hY.later (below_alloc w5 (.cells #[.string A.1, ua] 48 (0, 0))))
        have HAT2 := Lib.hid (QryPar.at2 (row_alloc w5 (.cells #[.string A.1, ua] 48 (0, 0))))
        have HUA := Lib.hid (show ua.oneCell' = true from by
          have := atomC.one (HPS.out.2 ps.length (by simp) (by have h0 := HPS.out.1; rw [← h0]; simp))
          simp at this
          exact this.2)
        clear hY ho5 hn5 hs5 ht5 x0 x1 x2
        go_wp2_with (at_builtin; refine Cd.wpList_appendN (c := raw2) rfl (.tmp 55) (.tmp 61) 27 rfl (w.heap.size + 3) 48 (.agg #[.string ⟨#[]⟩, .slice none 0 0]) 2 40 rfl Tryz.underlying27 QryPar.info_atom rfl (by decide) _ ps f2 rfl HYA.out.a HYA.out.an w5.heap.size _ rfl HAT2.out (.string A.1, ua) [] ⟨rfl, ⟨rfl, HUA.out⟩, rfl⟩ (by simp) (by simp) HPL.out HYA.out.sz ?_)
        intro g6 cap6 w6 f6 ho6 hn6 hs6 ht6
        have HZZ := Lib.hid (HYA.out.atm ho6 hn6 (by rw [size_alloc]; simpa using hs6) ht6)
        clear ho6 hn6 hs6 ht6 z1 r0 r1
        go_wp2_with fail
        go_roundw
        case rel => exact ⟨k + 1, f5, f6, _, by have := HLT.out; omega, by go_num, by rw [HNX.out, HT2.out]; exact HZZ.out, by rw [HNX.out]; exact HPS⟩
        case measure => have := HLT.out; simp [intOf]; omega
    · have ek : k = l.length := by omega
      subst ek
      have HPS := Lib.hid hps.out
      have hLEN := HPS.out.1
      have HVL := Lib.hid (varsL_len (mB n l (t : Int)))
      have HRES := Lib.hid (show evV d n l (t : Int) = varsL (mB n l (t : Int)) ∧ evR d n l (t : Int) = walkL (varsL (mB n l (t : Int))) (rels ((selA l t l.length).map fun A => lkT d A.1) (selA l t l.length)) (varsL (mB n l (t : Int))).length [] by
        rw [rels_map]
        unfold evV evR
        rw [HOK.out]
        exact ⟨rfl, rfl⟩)
      have HWALK := Lib.hid (spec_walk ((selA l t l.length).map fun A => lkT d A.1) (selA l t l.length) (List.length_map ..) (fun i h h' r hr => by
        rw [List.getElem_map] at hr
        exact ((rel_ok HFO.out (selA_mem _ (Nat.le_refl _) _ (List.getElem_mem h'))).2.2.2 r hr).1) (varsL (mB n l (t : Int))) HVL.out (varsL (mB n l (t : Int))).length)
      clear hps hlt hk
      generalize varsL (mB n l (t : Int)) = vs at *
      generalize (selA l t l.length).map (fun A => lkT d A.1) = LT at *
      generalize selA l t l.length = LA at *
      have y0 := HST.out.c4.c0
      go_wp2_with fail
      refine (HMV.out _ HST.out.hb).mono ?_
      rintro e w5 ⟨uv, fv, rfl, hov, hnv, hb5⟩
      obtain ⟨av, cv, rfl⟩ := Cd.ow_slice hov
      have hX := HST.out.later hb5
      have hA := below_alloc w5 (.cells #[] 3)
      have HXA := Lib.hid (hX.later hA)
      have HOV := Lib.hid (Cd.ow_later (rowC.ow_base hov HST.out.hb.size) hA)
      have HNV := Lib.hid hnv
      have HVG := Lib.hid (show ∀ b ∈ fv, w.heap.size + 3 ≤ b from fun b hb => Nat.le_trans HST.out.sz (rowC.ow_lt hov b hb).1)
      have hrd2 := raw_rd (c := atomC) rfl HXA.out.a hLEN (S := fun b => b ∈ f2 ∨ b < w.heap.size) (fun i h h' => Cd.mono _ (Cd.below (c := atomC) (Cd.mono _ (HPS.out.2 i h h') fun b hb _ => hb) HXA.out.hb) fun b _ hb => .inr hb) (fun b hb => .inl hb)
      have hrd1 := tabsC.ow_rd HXA.out.t
      have hrd3 := rowC.ow_rd HOV.out
      have hrd4 : rowC.rd (w5.alloc (.cells #[] 3)) (fun b => b ∈ [w5.heap.size]) [.slice (some ⟨w5.heap.size, 0, none⟩) 0 0] [] := rowC.ow_rd (Cd.ow_empty (e := 3) (c := Cd.int) w5 0 (Nat.zero_le _))
      have HCALL := Lib.hid (HWALK.out [] _ _ _ _ _ _ _ _ _ hrd1 hrd2 hrd3 hrd4 (by simp))
      clear hrd1 hrd2 hrd3 hrd4 hX hA hov hnv hb5 hLEN y0 y1
      go_wp2_with fail
      refine HCALL.out.mono ?_
      rintro e w6 ⟨rv, fr, rfl, hor, hnr, hb6⟩
      obtain ⟨ar, cr, rfl⟩ := Cd.ow_slice (c := rowC) hor
      have hY := HXA.out.later hb6
      have HY := Lib.hid hY.hb
      have HL6 := Lib.hid hY.c6
      have HOV2 := Lib.hid (Cd.ow_later HOV.out hb6)
      have HOR := Lib.hid (rowsC.ow_base hor HXA.out.hb.size)
      have HNR := Lib.hid (show (fv ++ fr).Nodup from List.nodup_append.2 ⟨HNV.out, hnr, fun a ha b hb q => by
        have h1 := (rowC.ow_lt HOV.out a ha).2
        have h2 := (rowsC.ow_lt hor b hb).1
        omega⟩)
      have HFV := Lib.hid (show w.heap.size + 1 + 1 ∉ fv ++ fr from fun q => by
        rcases List.mem_append.1 q with q | q
        · have := HVG.out _ q; omega
        · have h2 := (rowsC.ow_lt hor _ q).1
          have h3 := HXA.out.sz
          omega)
      have c0 := hY.c6.c0
      have c1 := hY.c6.c1
      have f0 := hY.c6.f0
      have f1 := hY.c6.f1
      have HK := Lib.hid (Loc2.set_both hY.c6 (.slice av vs.length cv) (.slice ar (walkL vs (rels LT LA) vs.length []).length cr))
      clear hY hor hnr hb6
      go_wp2_with fail
      have k0 := HK.out.c0
      have k1 := HK.out.c1
      refine bodyPost_ret (v := .tuple #[.agg #[.slice av vs.length cv, .slice ar (walkL vs (rels LT LA) vs.length []).length cr], .bool true]) (by simp [results, Tryz.results11, go_sem, k0, k1]) rfl
        (by
          rw [HRES.out.1, HRES.out.2, HOK.out]
          exact ⟨_, _, fv ++ fr, rfl, Tab.ow_setCell (c := ansC) (Tab.ow_setCell (c := ansC) (ans_ow HOV2.out HOR.out) HFV.out _) HFV.out _, HNR.out, (HY.out.setCell (by show _ ≤ w.heap.size + 1 + 1; omega) _).setCell (by show _ ≤ w.heap.size + 1 + 1; omega) _⟩)
end Go.Proofs.YtdkhgeknjekkoaaGreat.AnsEv

namespace Go.Proofs.YtdkhgeknjekkoaaGreat.AnsEv
open Go Go.RowKit Byt Ints IntsLaw Cd Rows2 Tab TabSpec Exact Atom QryMath QrySpec QryImp MkAtom AnsMath SlMath TabOpen TabElem QgMath AnsSpec AnsQ DbMath DbSpec Db DbExact QryFor AnsC

def subN (d : List T3) (n : Int) (l : List A2) (m : Int) : Int := if evOk d n l m then ((evR d n l m).length : Int) else -1
theorem subN_no {d : List T3} {n m : Int} {l : List A2} (h : evOk d n l m = false) : subN d n l m = -1 := by unfold subN; rw [h]; rfl
theorem subN_yes {d : List T3} {n m : Int} {l : List A2} (h : evOk d n l m = true) : subN d n l m = ((evR d n l m).length : Int) := by unfold subN; rw [h]; rfl
set_option maxRecDepth 100000 in
set_option maxHeartbeats 1600000 in
theorem spec_sub (u v : Value) (d : List T3) (n m : Int) (l : List A2) (S1 S2 : Nat → Prop) (w : World) (h1 : tabsC.rd w S1 [u] d) (h2 : atomsC.rd w S2 [v] l) (hw : SlTable.wtS d ≤ 1048577) :
    Calls Tryz.prog 14 #[.agg #[u], .agg #[.int .i64 n, v], .int .i64 m] w fun e w' => e = .returned (.int .i64 (subN d n l m)) ∧ Below w.heap.size w w' := by
  have HE := Lib.hid (fun w' (hb : Below w.heap.size w w') => spec_eval u v d n m l S1 S2 w' (Cd.later h1 hb) (Cd.later h2 hb) hw)
  obtain ⟨a1, cap1, rfl, _⟩ := Cd.sl_form h1
  obtain ⟨a, cap, rfl, _⟩ := Cd.sl_form h2
  clear h1 h2 hw
  go_enter Tryz.func14, Tryz.ntmps14
  go_wp2_with fail
  have HB := Lib.hid (below_then (below_alloc w (.cells #[.slice a1 d.length cap1] 26 (0, 0))) (below_alloc _ (.cells #[.int .i64 n, .slice a l.length cap] 29 (0, 0))))
  refine (HE.out _ HB.out).mono ?_
  rintro e w1 ⟨v1, v2, fp, rfl, ho, _, hb1⟩
  obtain ⟨b1, k1, b2, k2, rfl, rfl⟩ := ans_shape ho
  have HB1 := Lib.hid (below_then HB.out hb1)
  clear ho hb1
  cases hok : evOk d n l m
  · have HZ := Lib.hid (subN_no hok)
    clear hok
    go_wp2_with fail
    go_ret
    exact ⟨ret_int HZ.out.symm, below_then HB1.out (below_alloc _ _)⟩
  · have HZ := Lib.hid (subN_yes hok)
    clear hok
    go_wp2_with fail
    go_ret
    exact ⟨ret_int HZ.out.symm, below_then HB1.out (below_alloc _ _)⟩
set_option maxRecDepth 100000 in
set_option maxHeartbeats 1600000 in
theorem impl_sub (u v : Value) (d : List T3) (n m : Int) (l : List A2) (S1 S2 : Nat → Prop) (w : World) (h1 : tabsC.rd w S1 [u] d) (h2 : atomsC.rd w S2 [v] l) (hw : SlTable.wtS d ≤ 1048577) (hs : ∀ A ∈ l, A.1.size ≤ 1048576) :
    Calls Tryz.prog 13 #[.agg #[u], .agg #[.int .i64 n, v], .int .i64 m] w fun e w' => e = .returned (.int .i64 (subN d n l m)) ∧ Below w.heap.size w w' := by
  have HE := Lib.hid (fun w' (hb : Below w.heap.size w w') => impl_eval u v d n m l S1 S2 w' (Cd.later h1 hb) (Cd.later h2 hb) hw hs)
  obtain ⟨a1, cap1, rfl, _⟩ := Cd.sl_form h1
  obtain ⟨a, cap, rfl, _⟩ := Cd.sl_form h2
  clear h1 h2 hw hs
  go_enter Tryz.func13, Tryz.ntmps13
  go_wp2_with fail
  have HB := Lib.hid (below_then (below_alloc w (.cells #[.slice a1 d.length cap1] 26 (0, 0))) (below_alloc _ (.cells #[.int .i64 n, .slice a l.length cap] 29 (0, 0))))
  refine (HE.out _ HB.out).mono ?_
  rintro e w1 ⟨v1, v2, fp, rfl, ho, _, hb1⟩
  obtain ⟨b1, k1, b2, k2, rfl, rfl⟩ := ans_shape ho
  have HB1 := Lib.hid (below_then HB.out hb1)
  clear ho hb1
  cases hok : evOk d n l m
  · have HZ := Lib.hid (subN_no hok)
    clear hok
    go_wp2_with fail
    go_ret
    exact ⟨ret_int HZ.out.symm, below_then HB1.out (below_alloc _ _)⟩
  · have HZ := Lib.hid (subN_yes hok)
    clear hok
    go_wp2_with fail
    go_ret
    exact ⟨ret_int HZ.out.symm, below_then HB1.out (below_alloc _ _)⟩
end Go.Proofs.YtdkhgeknjekkoaaGreat.AnsEv

namespace Go.Proofs.YtdkhgeknjekkoaaGreat.AnsValid
open Go Go.RowKit Byt Ints IntsLaw Cd Rows2 Tab TabSpec Exact Atom AnsC TabImp

theorem dnB {B m : Nat} {w w' : World} (h : Below B w w') : Below B w (w'.drewN m) := ⟨h.os, h.tape, h.output, h.size, h.block⟩
/-- Variables, ascending. -/
def VP (l : List Int) : Prop := (∀ x ∈ l, 0 ≤ x ∧ x < 4) ∧ l.Pairwise (· < ·)
instance (l : List Int) : Decidable (VP l) := by unfold VP; infer_instance
def varsOk (l : List Int) : Bool := decide (VP l)
theorem vp_more {l : List Int} {k : Nat} (h : VP (l.take k)) (hk : k < l.length) (hx : 0 ≤ l[k] ∧ l[k] < 4) (h0 : ∀ j, k = j + 1 → (hj : j < l.length) → l[j] < l[k]) : VP (l.take (k + 1)) := by
  rw [List.take_succ_eq_append_getElem hk]
  refine ⟨fun x hx' => ?_, ?_⟩
  · rcases List.mem_append.1 hx' with q | q
    · exact h.1 x q
    · rw [List.mem_singleton.1 q]; exact hx
  · rw [List.pairwise_append]
    refine ⟨h.2, List.pairwise_singleton .., fun a ha b hb => ?_⟩
    rw [List.mem_singleton.1 hb]
    obtain ⟨i, hi, rfl⟩ := List.getElem_of_mem ha
    have hik : i < k := by rw [List.length_take] at hi; omega
    rw [List.getElem_take]
    obtain ⟨q, rfl⟩ : ∃ q, k = q + 1 := ⟨k - 1, by omega⟩
    have hl := h0 q rfl (by omega)
    by_cases e : i = q
    · subst e; exact hl
    · have hp := List.pairwise_iff_getElem.1 h.2 i q (by rw [List.length_take]; omega) (by rw [List.length_take]; omega) (by omega)
      rw [List.getElem_take, List.getElem_take] at hp
      omega
theorem vp_bad {l : List Int} {j : Nat} (hj : j + 1 < l.length) (h : ¬ l[j] < l[j + 1]) : ¬ VP l := fun q => h (List.pairwise_iff_getElem.1 q.2 j (j + 1) (by omega) hj (by omega))
def ansOk (V : List Int) (R : List (List Int)) : Bool := varsOk V && rowsOk R (V.length : Int)
theorem ans_no {V : List Int} {R : List (List Int)} (h : ¬ VP V) : ansOk V R = false := by unfold ansOk varsOk; rw [decide_eq_false h]; rfl
theorem ans_yes {V : List Int} {R : List (List Int)} (h : VP V) : ansOk V R = rowsOk R (V.length : Int) := by unfold ansOk varsOk; rw [decide_eq_true h]; rfl
def sameA (V1 V2 : List Int) (R1 R2 : List (List Int)) : Bool := decide (V1 = V2 ∧ R1 = R2)
theorem lenV {V : List Int} (h : VP V) : V.length ≤ 4 := by
  have hb : ∀ i (hi : i < V.length), (i : Int) ≤ V[i] := by
    intro i
    induction i with
    | zero => intro hi; exact (h.1 _ (List.getElem_mem hi)).1
    | succ i ih =>
      intro hi
      have h1 := ih (by omega)
      have h2 := List.pairwise_iff_getElem.1 h.2 i (i + 1) (by omega) hi (by omega)
      have h3 : V[i] < V[i + 1] := h2
      omega
  by_cases q : V.length ≤ 4
  · exact q
  · have h1 := hb 4 (by omega)
    have h2 := (h.1 _ (List.getElem_mem (show 4 < V.length by omega))).2
    omega

set_option maxRecDepth 100000 in
set_option maxHeartbeats 3200000 in
theorem spec_validans (v1 v2 : Value) (V : List Int) (rows : List (List Int)) (S : Nat → Prop) (w : World) (hr : ansC.rd w S [v1, v2] (V, rows)) :
    Calls Tryz.prog 60 #[.agg #[v1, v2]] w fun e w' => e = .returned (.bool (ansOk V rows)) ∧ Below w.heap.size w w' := by
  obtain ⟨hr1, hr2⟩ := ans_reads hr
  have HV := Lib.hid (fun w' (hb : Below w.heap.size w w') => (row_ri (Cd.later hr1 hb)).1)
  have HR := Lib.hid (fun w' (hb : Below w.heap.size w w') => Cd.later hr2 hb)
  obtain ⟨a1, c1, rfl, hl1⟩ := row_form hr1
  obtain ⟨a, cap, rfl, hlm⟩ := rows_form hr2
  clear hr hr1 hr2
  go_enter Tryz.func60, Tryz.ntmps60
  go_wp2_with fail
  generalize hW : w.alloc _ = W
  obtain ⟨r0, _, hb0⟩ := start1 w _ hW
  clear hW
  have HB := Lib.hid hb0
  have HRW := Lib.hid (Atom.Loc2.of r0)
  clear r0 hb0
  go_loopw [3] (fun i wr => ∃ k m : Nat, k ≤ V.length ∧ i = .int .i64 k ∧ Hid (VP (V.take k)) ∧ wr = W.drewN m) (fun i _ => V.length - (intOf i).toNat)
  case atStart => exact ⟨0, 0, Nat.zero_le _, rfl, Lib.hid ⟨fun x hx => by simp at hx, by simp⟩, rfl⟩
  case round =>
    obtain ⟨k, m, hk, rfl, hvp, hwr⟩ := hrel
    have HBW := Lib.hid (show Below w.heap.size w wr by rw [hwr]; exact dnB HB.out)
    have g0 : wr.cell? ⟨w.heap.size, 0, none⟩ = some (.slice a1 V.length c1) := by rw [hwr]; exact HRW.out.c0
    have HWR := Lib.hid hwr
    clear hwr
    by_cases hlt : k < V.length
    · have hri := HV.out wr HBW.out
      obtain ⟨b, off, cap', e1, hbB, hc⟩ := ri_at hri hlt
      injection e1 with e1 e2 e3
      subst e1 e3
      have p1 : (0 : Int) ≤ (k : Int) := by omega
      have p2 : (k : Int) < (V.length : Int) := by omega
      by_cases hx : 0 ≤ V[k] ∧ V[k] ≤ 3
      case neg =>
        have HI := Lib.hid (show ∀ q, Calls Tryz.prog 51 #[.int .i64 V[k], .int .i64 0, .int .i64 3] (wr.drewN q) fun e w' => e = .returned (.bool false) ∧ w' = wr.drewN q from fun q => (Fixed.l1In_no hx (wr.drewN q)).mono fun _ _ h => ⟨h.1, h.2.symm⟩)
        have HZ := Lib.hid (show ansOk V rows = false from ans_no fun q => by have := q.1 _ (List.getElem_mem hlt); omega)
        clear hx hri
        generalize V[k] = z at *
        go_wp2
        go_quiet (first | (go_at_call 51; refine Calls.quiet_of_same (HI.out _)))
        go_wp2
        go_ret
        exact ⟨ret_b HZ.out.symm, dnB HBW.out⟩
      have HI := Lib.hid (show ∀ q, Calls Tryz.prog 51 #[.int .i64 V[k], .int .i64 0, .int .i64 3] (wr.drewN q) fun e w' => e = .returned (.bool true) ∧ w' = wr.drewN q from fun q => (Fixed.l1In_yes hx.1 hx.2 (wr.drewN q)).mono fun _ _ h => ⟨h.1, h.2.symm⟩)
      by_cases hk0 : k = 0
      · have has2 := Lib.hid (vp_more hvp.out hlt (by omega) (fun j hj => by omega))
        have q0 : ¬ 0 < k := by omega
        clear hx hri hk0
        generalize V[k] = z at *
        go_wp2
        go_quiet (first | (go_at_call 51; refine Calls.quiet_of_same (HI.out _)))
        go_wp2
        go_roundw
        case rel => exact ⟨k + 1, _, by omega, by go_num, has2, by rw [HWR.out, World.drewN_drewN]⟩
        case measure => simp [intOf]; omega
      · obtain ⟨j, hj⟩ : ∃ j, k = j + 1 := ⟨k - 1, by omega⟩
        have hjl : j < V.length := by omega
        obtain ⟨b', off', cap', e1, hbB', hc'⟩ := ri_at hri hjl
        injection e1 with e1 e2 e3
        injection e1 with e1
        injection e1 with e1 e2 _
        subst e1 e2 e3
        have p3 : (0 : Int) ≤ (j : Int) := by omega
        have p4 : (j : Int) < (V.length : Int) := by omega
        have p5 : 0 < k := by omega
        have p6 : (k : Int) - 1 = (j : Int) := by omega
        by_cases hcmp : V[j] < V[k]
        · have has2 := Lib.hid (vp_more hvp.out hlt (by omega) (fun j' hj' _ => by
            obtain rfl : j' = j := by omega
            exact hcmp))
          have hge : ¬ V[k] ≤ V[j] := by omega
          have HJ := Lib.hid hj
          clear hx hri hj hk0 hcmp
          generalize V[k] = z at *
          generalize V[j] = y at *
          go_wp2
          go_quiet (first | (go_at_call 51; refine Calls.quiet_of_same (HI.out _)))
          go_wp2
          go_roundw
          case rel => exact ⟨k + 1, _, by omega, by go_num, has2, by rw [HWR.out, World.drewN_drewN]⟩
          case measure => simp [intOf]; omega
        · have HZ := Lib.hid (show ansOk V rows = false from ans_no (by
            subst hj
            exact vp_bad (by omega) hcmp))
          have hge : V[k] ≤ V[j] := by omega
          have HJ := Lib.hid hj
          clear hx hri hj hk0 hcmp
          generalize V[k] = z at *
          generalize V[j] = y at *
          go_wp2
          go_quiet (first | (go_at_call 51; refine Calls.quiet_of_same (HI.out _)))
          go_wp2
          go_ret
          exact ⟨ret_b HZ.out.symm, dnB HBW.out⟩
    · have ek : k = V.length := by omega
      subst ek
      rw [List.take_length] at hvp
      have HA := Lib.hid (ans_yes (R := rows) hvp.out)
      have HOK := Lib.hid (show (∀ r ∈ rows, rowOk r (V.length : Int) = true) → Asc rows → ansOk V rows = true from fun q1 q2 => by rw [HA.out]; exact decide_eq_true ⟨q1, q2⟩)
      have HNO1 := Lib.hid (show ∀ r ∈ rows, rowOk r (V.length : Int) = false → ansOk V rows = false from fun r hr h => by rw [HA.out]; exact decide_eq_false fun q => by have := q.1 r hr; rw [h] at this; exact absurd this (by decide))
      have HNO2 := Lib.hid (show ¬ Asc rows → ansOk V rows = false from fun h => by rw [HA.out]; exact decide_eq_false fun q => h q.2)
      clear HA hvp
      have HN := Lib.hid (rfl : (V.length : Int) = (V.length : Int))
      go_wp2_with fail
      generalize wr = w0 at *
      clear g0
      go_loopw [4] (fun i wr => ∃ k m : Nat, k ≤ rows.length ∧ i = .int .i64 k ∧ Hid (∀ r ∈ rows.take k, rowOk r (V.length : Int) = true) ∧ Hid (Asc (rows.take k)) ∧ wr = W.drewN m) (fun i _ => rows.length - (intOf i).toNat)
      case atStart => exact ⟨0, _, Nat.zero_le _, rfl, Lib.hid (fun x hx => by simp at hx), Lib.hid List.Pairwise.nil, HWR.out⟩
      case round =>
        obtain ⟨k, m, hk, rfl, hro, has, hwr⟩ := hrel
        have hbw : Below w.heap.size w wr := by rw [hwr]; exact dnB HB.out
        have d0 : wr.cell? ⟨w.heap.size, 0, none⟩ = some (.slice a1 V.length c1) := by rw [hwr]; exact HRW.out.c0
        have d1 : wr.cell? ⟨w.heap.size, 1, none⟩ = some (.slice a rows.length cap) := by rw [hwr]; exact HRW.out.c1
        have HWR := Lib.hid hwr
        have HBW := Lib.hid hbw
        clear hwr hbw
        by_cases hlt : k < rows.length
        · obtain ⟨b, off, cap', v, e1, hbB, hc, hv⟩ := rows_at (HR.out wr HBW.out) hlt
          injection e1 with e1 e2 e3
          subst e1 e3
          have p1 : (0 : Int) ≤ (k : Int) := by omega
          have p2 : (k : Int) < (rows.length : Int) := by omega
          have HROW := Lib.hid (show ∀ q, Calls Tryz.prog 110 #[v, .int .i64 (V.length : Int)] (wr.drewN q) fun e w' => e = .returned (.bool (rowOk rows[k] (V.length : Int))) ∧ w' = wr.drewN q from fun q => (spec_row v rows[k] (V.length : Int) _ (wr.drewN q) (row_ri (rd_drewN hv q)).1).mono fun _ _ h => ⟨h.1, h.2.symm⟩)
          by_cases hok : rowOk rows[k] (V.length : Int) = true
          case neg =>
            have hok : rowOk rows[k] (V.length : Int) = false := by simpa using hok
            rw [hok] at HROW
            have HZ := Lib.hid (HNO1.out _ (List.getElem_mem hlt) hok)
            clear hok hv
            go_wp2
            go_quiet (first | (go_at_call 110; refine Calls.quiet_of_same (HROW.out _)))
            go_wp2
            go_ret
            exact ⟨ret_b HZ.out.symm, HBW.out.trans ⟨rfl, rfl, rfl, Nat.le_refl _, fun _ _ => rfl⟩⟩
          rw [hok] at HROW
          have hro2 := Lib.hid (show ∀ r ∈ rows.take (k + 1), rowOk r (V.length : Int) = true by
            rw [List.take_succ_eq_append_getElem hlt]
            intro x hx'
            rcases List.mem_append.1 hx' with q | q
            · exact hro.out x q
            · rw [List.mem_singleton.1 q]; exact hok)
          clear hok
          by_cases hk0 : k = 0
          · have has2 := Lib.hid (asc_more has.out hlt (fun j hj => by omega))
            have q0 : ¬ 0 < k := by omega
            clear hv hk0
            go_wp2
            go_quiet (first | (go_at_call 110; refine Calls.quiet_of_same (HROW.out _)))
            go_wp2
            go_roundw
            case rel => exact ⟨k + 1, _, by omega, by go_num, hro2, has2, by rw [HWR.out, World.drewN_drewN]⟩
            case measure => simp [intOf]; omega
          · obtain ⟨j, hj⟩ : ∃ j, k = j + 1 := ⟨k - 1, by omega⟩
            have hjl : j < rows.length := by omega
            obtain ⟨b', off', cap', v', e1, hbB', hc', hv'⟩ := rows_at (HR.out wr HBW.out) hjl
            injection e1 with e1 e2 e3
            injection e1 with e1
            injection e1 with e1 e2 _
            subst e1 e2 e3
            have HC := Lib.hid (fun q => spec_cmp v' v (rows[j]'hjl) rows[k] _ _ (wr.drewN q) (row_ri (rd_drewN hv' q)).1 (row_ri (rd_drewN hv q)).1)
            have hbd := cmpR_bd (rows[j]'hjl) rows[k]
            have p3 : (0 : Int) ≤ (j : Int) := by omega
            have p4 : (j : Int) < (rows.length : Int) := by omega
            have p5 : 0 < k := by omega
            have p6 : (k : Int) - 1 = (j : Int) := by omega
            by_cases hcmp : cmpR (rows[j]'hjl) rows[k] < 0
            · have has2 := Lib.hid (asc_more has.out hlt (fun j' hj hj' => by
                obtain rfl : j' = j := by omega
                exact hcmp))
              have hge : ¬ (0 : Int) ≤ cmpR (rows[j]'hjl) rows[k] := by omega
              have HJ := Lib.hid hj
              clear hv hv' hj hk0 hcmp hbd
              generalize cmpR (rows[j]'hjl) rows[k] = z at *
              go_wp2
              go_quiet (first | (go_at_call 110; refine Calls.quiet_of_same (HROW.out _)) | (go_at_call 66; refine Calls.quiet_of (HC.out _)))
              go_wp2
              go_roundw
              case rel => exact ⟨k + 1, _, by omega, by go_num, hro2, has2, by rw [HWR.out, World.drewN_drewN]⟩
              case measure => simp [intOf]; omega
            · have HZ := Lib.hid (HNO2.out (by
                subst hj
                exact asc_bad (by omega) hcmp))
              have hge : (0 : Int) ≤ cmpR (rows[j]'hjl) rows[k] := by omega
              have HJ := Lib.hid hj
              clear hv hv' hj hk0 hcmp hbd
              generalize cmpR (rows[j]'hjl) rows[k] = z at *
              go_wp2
              go_quiet (first | (go_at_call 110; refine Calls.quiet_of_same (HROW.out _)) | (go_at_call 66; refine Calls.quiet_of (HC.out _)))
              go_wp2
              go_ret
              exact ⟨ret_b HZ.out.symm, HBW.out.trans ⟨rfl, rfl, rfl, Nat.le_refl _, fun _ _ => rfl⟩⟩
        · have ek : k = rows.length := by omega
          subst ek
          rw [List.take_length] at *
          have HZ := Lib.hid (HOK.out hro.out has.out)
          go_wp2
          go_ret
          exact ⟨ret_b HZ.out.symm, HBW.out⟩
set_option maxRecDepth 100000 in
set_option maxHeartbeats 1600000 in
theorem impl_asc (v : Value) (V : List Int) (B : Nat) (w : World) (hr : RI w v V B) :
    Calls Tryz.prog 56 #[v, .int .i64 4] w fun e w' => e = .returned (.bool (varsOk V)) ∧ w = w' := by
  have HR := Lib.hid hr
  obtain ⟨a, cap, rfl, hlm, _⟩ := hr
  go_enter Tryz.func56, Tryz.ntmps56
  go_wp2_with fail
  go_loop [9] (fun i => ∃ k : Nat, k ≤ V.length ∧ i = .int .i64 k ∧ Hid (VP (V.take k))) (fun i => V.length - (intOf i).toNat)
  case atStart => exact ⟨0, Nat.zero_le _, rfl, Lib.hid ⟨fun x hx => by simp at hx, by simp⟩⟩
  case round =>
    obtain ⟨k, hk, rfl, hvp⟩ := hrel
    by_cases hlt : k < V.length
    · obtain ⟨b, off, cap', e1, hbB, hc⟩ := ri_at HR.out hlt
      injection e1 with e1 e2 e3
      subst e1 e3
      have p1 : (0 : Int) ≤ (k : Int) := by omega
      have p2 : (k : Int) < (V.length : Int) := by omega
      by_cases hx0 : V[k] < 0
      · have HZ := Lib.hid (show varsOk V = false from decide_eq_false fun q => by have := q.1 _ (List.getElem_mem hlt); omega)
        generalize V[k] = z at *
        go_wp2_with fail
        go_ret
        exact ⟨ret_b HZ.out.symm, rfl⟩
      by_cases hx4 : 4 ≤ V[k]
      · have HZ := Lib.hid (show varsOk V = false from decide_eq_false fun q => by have := q.1 _ (List.getElem_mem hlt); omega)
        generalize V[k] = z at *
        go_wp2_with fail
        go_ret
        exact ⟨ret_b HZ.out.symm, rfl⟩
      by_cases hk0 : k = 0
      · have has2 := Lib.hid (vp_more hvp.out hlt (by omega) (fun j hj => by omega))
        have q0 : ¬ 0 < k := by omega
        clear hk0
        generalize V[k] = z at *
        go_wp2_with fail
        go_round
        case rel => exact ⟨k + 1, by omega, by go_num, has2⟩
        case measure => simp [intOf]; omega
      · obtain ⟨j, hj⟩ : ∃ j, k = j + 1 := ⟨k - 1, by omega⟩
        have hjl : j < V.length := by omega
        obtain ⟨b', off', cap', e1, hbB', hc'⟩ := ri_at HR.out hjl
        injection e1 with e1 e2 e3
        injection e1 with e1
        injection e1 with e1 e2 _
        subst e1 e2 e3
        have p3 : (0 : Int) ≤ (j : Int) := by omega
        have p4 : (j : Int) < (V.length : Int) := by omega
        have p5 : 0 < k := by omega
        have p6 : (k : Int) - 1 = (j : Int) := by omega
        by_cases hcmp : V[j] < V[k]
        · have has2 := Lib.hid (vp_more hvp.out hlt (by omega) (fun j' hj' _ => by
            obtain rfl : j' = j := by omega
            exact hcmp))
          have hge : ¬ V[k] ≤ V[j] := by omega
          have HJ := Lib.hid hj
          clear hj hk0 hcmp
          generalize V[k] = z at *
          generalize V[j] = y at *
          go_wp2_with fail
          go_round
          case rel => exact ⟨k + 1, by omega, by go_num, has2⟩
          case measure => simp [intOf]; omega
        · have HZ := Lib.hid (show varsOk V = false from decide_eq_false (by
            subst hj
            exact vp_bad (by omega) hcmp))
          have hge : V[k] ≤ V[j] := by omega
          have HJ := Lib.hid hj
          clear hj hk0 hcmp
          generalize V[k] = z at *
          generalize V[j] = y at *
          go_wp2_with fail
          go_ret
          exact ⟨ret_b HZ.out.symm, rfl⟩
    · have ek : k = V.length := by omega
      subst ek
      rw [List.take_length] at hvp
      have HZ := Lib.hid (show varsOk V = true from decide_eq_true hvp.out)
      go_wp2_with fail
      go_ret
      exact ⟨ret_b HZ.out.symm, rfl⟩
set_option maxRecDepth 100000 in
theorem impl_validans (v1 v2 : Value) (V : List Int) (R : List (List Int)) (S : Nat → Prop) (w : World) (hr : ansC.rd w S [v1, v2] (V, R)) :
    Calls Tryz.prog 15 #[.agg #[v1, v2]] w fun e w' => e = .returned (.bool (ansOk V R)) ∧ Below w.heap.size w w' := by
  obtain ⟨hr1, hr2⟩ := ans_reads hr
  have HA := Lib.hid (impl_asc v1 V _ _ (row_ri (Cd.later hr1 (below_alloc w (.cells #[v1, v2] 35 (0, 0))))).1)
  have HR := Lib.hid (are_rows (V.length : Int) v2 R S _ (Cd.later hr2 (below_alloc w (.cells #[v1, v2] 35 (0, 0)))))
  have HZ := Lib.hid (show (varsOk V && rowsOk R (V.length : Int)) = ansOk V R from rfl)
  obtain ⟨a1, c1, rfl, hl1⟩ := row_form hr1
  obtain ⟨a, cap, rfl, hlm⟩ := rows_form hr2
  clear hr hr1 hr2
  generalize rowsOk R (V.length : Int) = z at *
  generalize ansOk V R = ok at *
  cases hv : varsOk V
  · rw [hv] at HA HZ
    clear hv
    go_enter Tryz.func15, Tryz.ntmps15
    go_wp2_with (first | (go_at_call 56; refine HA.out.mono ?_; rintro e w1 ⟨rfl, rfl⟩) | (go_at_call 57; refine HR.out.mono ?_; rintro e w1 ⟨rfl, rfl⟩))
    go_ret
    exact ⟨ret_b HZ.out, below_alloc _ _⟩
  · rw [hv] at HA HZ
    clear hv
    go_enter Tryz.func15, Tryz.ntmps15
    go_wp2_with (first | (go_at_call 56; refine HA.out.mono ?_; rintro e w1 ⟨rfl, rfl⟩) | (go_at_call 57; refine HR.out.mono ?_; rintro e w1 ⟨rfl, rfl⟩))
    go_ret
    exact ⟨ret_b HZ.out, below_alloc _ _⟩
set_option maxRecDepth 100000 in
set_option maxHeartbeats 800000 in
theorem impl_equalans (u1 u2 v1 v2 : Value) (V1 V2 : List Int) (R1 R2 : List (List Int)) (S1 S2 : Nat → Prop) (w : World) (h1 : ansC.rd w S1 [u1, u2] (V1, R1)) (h2 : ansC.rd w S2 [v1, v2] (V2, R2)) :
    Calls Tryz.prog 12 #[.agg #[u1, u2], .agg #[v1, v2]] w fun e w' => e = .returned (.bool (sameA V1 V2 R1 R2)) ∧ Below w.heap.size w w' := by
  obtain ⟨g1, g2⟩ := ans_reads h1
  obtain ⟨k1, k2⟩ := ans_reads h2
  have HE := Lib.hid (fun w' (hb : Below w.heap.size w w') => slices_equal u1 v1 V1 V2 _ _ w' (row_ri (Cd.later g1 hb)).1 (row_ri (Cd.later k1 hb)).1)
  have HR := Lib.hid (fun w' (hb : Below w.heap.size w w') => equal_rows u2 v2 R1 R2 S1 S2 w' (Cd.later g2 hb) (Cd.later k2 hb))
  have HB := Lib.hid (below_then (below_alloc w (.cells #[u1, u2] 35 (0, 0))) (below_alloc _ (.cells #[v1, v2] 35 (0, 0))))
  have HL1 := Lib.hid (Atom.Loc2.of (row_older (row_alloc w (.cells #[u1, u2] 35 (0, 0))) (.cells #[v1, v2] 35 (0, 0))))
  have r00 := row_alloc (w.alloc (.cells #[u1, u2] 35 (0, 0))) (.cells #[v1, v2] 35 (0, 0))
  rw [size_alloc] at r00
  have HL2 := Lib.hid (Atom.Loc2.of r00)
  clear r00
  obtain ⟨a1, c1, a2, c2, rfl, rfl, _, _⟩ := ans_form h1
  obtain ⟨b1, d1, b2, d2, rfl, rfl, _, _⟩ := ans_form h2
  clear h1 h2 g1 g2 k1 k2
  have HZ := Lib.hid (show sameA V1 V2 R1 R2 = (decide (V1 = V2) && decide (R1 = R2)) by unfold sameA; exact Bool.decide_and ..)
  generalize decide (R1 = R2) = z at *
  generalize sameA V1 V2 R1 R2 = ok at *
  cases hv : decide (V1 = V2)
  · rw [hv] at HE HZ
    clear hv
    go_enter Tryz.func12, Tryz.ntmps12
    go_wp2_with (first | (go_at_call 54; refine (HE.out _ HB.out).mono ?_; rintro e w1 ⟨rfl, m1, rfl⟩))
    go_ret
    exact ⟨ret_b HZ.out.symm, dnB HB.out⟩
  · rw [hv] at HE HZ
    clear hv
    go_enter Tryz.func12, Tryz.ntmps12
    go_upto_region 1 with fail
    generalize (w.alloc _).alloc _ = W at *
    have y0 := HL1.out.c0
    have y1 := HL1.out.c1
    have y2 := HL2.out.c0
    have y3 := HL2.out.c1
    have HRN := Lib.hid (fun q => HR.out (W.drewN q) (dnB HB.out))
    go_wp2_with (first | (go_at_call 54; refine (HE.out _ HB.out).mono ?_; rintro e w1 ⟨rfl, m1, rfl⟩) | (go_at_call 55; refine (HRN.out m1).mono ?_; rintro e w2 ⟨rfl, m2, rfl⟩))
    go_ret
    exact ⟨ret_b (by rw [HZ.out]; rfl), by first | exact dnB HB.out | exact dnB (dnB HB.out)⟩
end Go.Proofs.YtdkhgeknjekkoaaGreat.AnsValid

namespace Go.Proofs.YtdkhgeknjekkoaaGreat.Sz
open Go Go.RowKit Byt Ints

theorem cell_of {w : World} {v : Value} {l : List Int} {B : Nat} (h : RI w v l B) {k : Nat} (hk : k < l.length) :
    ∃ b off cap, v = .slice (some ⟨b, off, none⟩) l.length cap ∧ b < B ∧ w.cell? ⟨b, off + k, none⟩ = some (.int .i64 l[k]) := by
  obtain ⟨a, cap, rfl, _, hc⟩ := h
  rcases hc with h0 | ⟨b, off, rfl, hb, hcell⟩
  · rw [h0] at hk; simp at hk
  · exact ⟨b, off, cap, rfl, hb, hcell k hk⟩




end Go.Proofs.YtdkhgeknjekkoaaGreat.Sz

namespace Go.Proofs.YtdkhgeknjekkoaaGreat.Loc
open Go Go.RowKit Byt Ints IntsLaw Sz
open Go.Lib (decDigits itoa)

/-- A location's bytes. -/
def locB (l : List Int) : List UInt8 := l.map fun x => UInt8.ofNat (48 + x.toNat)
theorem itoa_digit {x : Int} (h : 0 ≤ x ∧ x ≤ 7) : itoa x = [UInt8.ofNat (48 + x.toNat)] := by
  unfold itoa
  rw [if_neg (by omega), decDigits, dif_pos (by omega)]
theorem locB_len (l : List Int) : (locB l).length = l.length := by simp [locB]


end Go.Proofs.YtdkhgeknjekkoaaGreat.Loc

namespace Go.Proofs.YtdkhgeknjekkoaaGreat.Dig
open Go Go.RowKit Byt Ints IntsLaw Loc Draw

theorem cell_of {w : World} {v : Value} {l : List Int} {B : Nat} (h : RI w v l B) {k : Nat} (hk : k < l.length) :
    ∃ b off cap, v = .slice (some ⟨b, off, none⟩) l.length cap ∧ b < B ∧ w.cell? ⟨b, off + k, none⟩ = some (.int .i64 l[k]) := by
  obtain ⟨a, cap, rfl, _, hc⟩ := h
  rcases hc with h0 | ⟨b, off, rfl, hb, hcell⟩
  · rw [h0] at hk; simp at hk
  · exact ⟨b, off, cap, rfl, hb, hcell k hk⟩
theorem info_u8 : (Tryz.prog.info? 5).map (fun i => (i.zero, i.size, i.bytes)) = some (some (.int .u8 0), 1, 1) := by kernel_rfl

theorem format_digit (x : Int) (h : 0 ≤ x ∧ x ≤ 9) (w : World) :
    Calls Tryz.prog 144 #[.int .i64 x] w fun e w' => e = .returned (.int .u8 ((UInt8.ofNat (48 + x.toNat)).toNat : Int)) ∧ w = w' := by
  obtain ⟨n, rfl⟩ := Int.eq_ofNat_of_zero_le h.1
  have hn : n ≤ 9 := by omega
  rcases (show n = 0 ∨ n = 1 ∨ n = 2 ∨ n = 3 ∨ n = 4 ∨ n = 5 ∨ n = 6 ∨ n = 7 ∨ n = 8 ∨ n = 9 by omega) with rfl | rfl | rfl | rfl | rfl | rfl | rfl | rfl | rfl | rfl
  all_goals
    clear h hn
    go_enter Tryz.func144, Tryz.ntmps144
    go_wp2
    go_ret
    exact ⟨rfl, rfl⟩
set_option maxRecDepth 100000 in
theorem map_digits (v : Value) (l : List Int) (B : Nat) (w : World) (hr : RI w v l B) (hB : B ≤ w.heap.size) (h16 : l.length ≤ 1048577) (hloc : ∀ x ∈ l, 0 ≤ x ∧ x ≤ 9) :
    Calls Tryz.prog 143 #[v, .func (.func 144) #[] #[]] w fun e w' => ∃ v', e = .returned v' ∧ Own w' w.heap.size 5 v' (locB l) ∧ Below w.heap.size w w' := by
  obtain ⟨i0, hi, hz0, hz1, hz2⟩ := info_parts info_u8
  have HR := Lib.hid (fun w' (hb : Below w.heap.size w w') => (hr.mono hB).later hb)
  have HX := Lib.hid hloc
  clear hloc
  obtain ⟨a, cap, rfl, hlm, _⟩ := hr
  go_enter Tryz.func143, Tryz.ntmps143
  go_wp2_with (at_make; refine wpList_make_own _ rfl _ _ 22 rfl w.heap.size 5 i0 (.int .u8 0) 1 Tryz.underlying22 hi hz0 hz1 _ _ _ l.length rfl rfl rfl (by rw [hz2]; omega) (by unfold maxLen; omega) (Nat.le_refl _) ?_)
  intro w1 hown0 hg0
  have hown1 : Own w1 w.heap.size 5 (.slice (some ⟨w.heap.size, 0, none⟩) 0 l.length) [] := hown0
  have hb1 : Below w.heap.size w w1 := (Below.refl _ _).grown hg0 (Nat.le_refl _) (by simp)
  clear hown0 hg0
  go_wp2
  go_loopw [5, 13] (fun o i wr => ∃ k : Nat, k ≤ l.length ∧ i = .int .i64 k ∧ Own wr w.heap.size 5 o (locB (l.take k)) ∧ Below w.heap.size w wr) (fun _ i _ => l.length - (intOf i).toNat)
  case atStart => exact ⟨0, Nat.zero_le _, rfl, by simpa [locB] using hown1, hb1⟩
  case round =>
    obtain ⟨k, hk, rfl, hown, hb⟩ := hrel
    by_cases hlt : k < l.length
    · obtain ⟨b, off, cap', e1, hbB, hc⟩ := cell_of (HR.out wr hb) hlt
      injection e1 with e1 e2 e3
      subst e1 e3
      have HC := Lib.hid (format_digit l[k] (HX.out _ (List.getElem_mem hlt)) wr)
      have hlen : (locB (l.take k)).length + 1 ≤ 140737488355328 := by rw [locB_len, List.length_take]; omega
      have hbs := hb.size
      have HB := Lib.hid hb
      have HT := Lib.hid (show locB (l.take (k + 1)) = locB (l.take k) ++ [UInt8.ofNat (48 + l[k].toNat)] by unfold locB; rw [List.take_succ_eq_append_getElem hlt, List.map_append]; rfl)
      clear hb
      generalize UInt8.ofNat (48 + l[k].toNat) = z at *
      have hz : z.toNat < 256 := UInt8.toNat_lt z
      go_wp2_with (first | (go_at_call 144; refine HC.out.mono ?_; rintro e w1 ⟨rfl, rfl⟩) | (at_builtin; refine wp_append1 rfl (.tmp 17) (.tmp 21) 22 rfl w.heap.size 5 Tryz.underlying22 info_u8 _ _ rfl hown _ rfl (by omega) (by omega) hlen hbs ?_))
      intro v' w5 hown5 hb5
      go_wp2_with fail
      go_roundw
      case rel => exact ⟨k + 1, by omega, by go_num, by rw [HT.out]; exact hown5, HB.out.trans hb5⟩
      case measure => simp [intOf]; omega
    · have ek : k = l.length := by omega
      subst ek
      rw [List.take_length] at hown
      go_wp2_with fail
      go_ret
      exact ⟨_, rfl, hown, hb⟩


theorem format_digits (v : Value) (l : List Int) (B : Nat) (w : World) (hr : RI w v l B) (hB : B ≤ w.heap.size) (h16 : l.length ≤ 1048577) (hloc : ∀ x ∈ l, 0 ≤ x ∧ x ≤ 9) :
    Calls Tryz.prog 109 #[v] w fun e w' => e = .returned (.string ⟨(locB l).toArray⟩) ∧ Below w.heap.size w w' := by
  have HM := Lib.hid (map_digits v l B w hr hB h16 hloc)
  clear hr hloc
  go_enter Tryz.func109, Tryz.ntmps109
  go_wp2_with fail
  refine HM.out.mono ?_
  rintro e w2 ⟨v', rfl, ho, hb⟩
  have hst := ho.string (P := Tryz.prog) 22 9 Tryz.underlying22 Tryz.underlying5 Tryz.underlying9
  go_wp2
  go_ret
  exact ⟨rfl, hb⟩
end Go.Proofs.YtdkhgeknjekkoaaGreat.Dig

namespace Go.Proofs.YtdkhgeknjekkoaaGreat.TabImp
open Go Go.RowKit Byt Ints IntsLaw Cd Rows2 Tab TabSpec Exact TabFmt TabParse

/-- The digits of each row. -/
def digS (rows : List (List Int)) : List ByteArray := rows.map fun r => ⟨(digB r).toArray⟩

set_option maxRecDepth 100000 in
set_option maxHeartbeats 1600000 in
theorem map_fmt (v : Value) (l : List (List Int)) (S : Nat → Prop) (w : World) (hr : rowsC.rd w S [v] l) (h8 : l.length ≤ 1048577) (hok : ∀ r ∈ l, r.length ≤ 4 ∧ ∀ x ∈ r, 0 ≤ x ∧ x ≤ 9) :
    Calls Tryz.prog 108 #[v, .func (.func 109) #[] #[]] w fun e w' => ∃ g fp, e = .returned (.slice (some ⟨g, 0, none⟩) l.length l.length) ∧ strsC.ow w' w.heap.size [.slice (some ⟨g, 0, none⟩) l.length l.length] (digS l) fp ∧ fp.Nodup ∧ Below w.heap.size w w' := by
  obtain ⟨i0, hi, hz0, hz1, hz2⟩ := info_parts info_str
  have HR := Lib.hid (fun w' (hb : Below w.heap.size w w') => Cd.later hr hb)
  have HOK := Lib.hid hok
  obtain ⟨a, cap, rfl, hlm⟩ := rows_form hr
  clear hr hok
  go_enter Tryz.func108, Tryz.ntmps108
  go_wp2_with (at_make; refine wpList_make_own _ rfl _ _ 127 rfl w.heap.size 9 i0 (.string ⟨#[]⟩) 1 Tryz.underlying127 hi hz0 hz1 _ _ _ l.length rfl rfl rfl (by rw [hz2]; omega) (by unfold maxLen; omega) (Nat.le_refl _) ?_)
  intro w1 hown0 hg0
  have how1 : strsC.ow w1 w.heap.size [.slice (some ⟨w.heap.size, 0, none⟩) 0 l.length] [] [w.heap.size] := ⟨_, [], [], rfl, hown0, trivial, rfl⟩
  have hb1 : Below w.heap.size w w1 := (Below.refl _ _).grown hg0 (Nat.le_refl _) (by simp)
  clear hown0 hg0
  go_wp2_with fail
  go_loopw [5, 13] (fun o i wr => ∃ (k : Nat) (fp : List Nat), k ≤ l.length ∧ i = .int .i64 k ∧ o = .slice (some ⟨w.heap.size, 0, none⟩) k l.length ∧ strsC.ow wr w.heap.size [.slice (some ⟨w.heap.size, 0, none⟩) k l.length] (digS (l.take k)) fp ∧ fp.Nodup ∧ Below w.heap.size w wr) (fun _ i _ => l.length - (intOf i).toNat)
  case atStart => exact ⟨0, _, Nat.zero_le _, rfl, rfl, how1, by simp, hb1⟩
  case round =>
    obtain ⟨k, fp, hk, rfl, rfl, how, hnd, hb⟩ := hrel
    by_cases hlt : k < l.length
    · obtain ⟨b, off, cap', u, e1, hbB, hc, hu⟩ := rows_at (HR.out wr hb) hlt
      injection e1 with e1 e2 e3
      subst e1 e3
      obtain ⟨hr3, hr9⟩ := HOK.out _ (List.getElem_mem hlt)
      have HC := Lib.hid (Dig.format_digits u l[k] _ wr (row_ri hu).1 (Nat.le_refl _) (by omega) hr9)
      have HOW := Lib.hid how
      have HND := Lib.hid hnd
      have HB := Lib.hid hb
      have HT := Lib.hid (show digS (l.take (k + 1)) = digS (l.take k) ++ [⟨(digB l[k]).toArray⟩] by unfold digS; rw [List.take_succ_eq_append_getElem hlt, List.map_append]; rfl)
      have hsz : (⟨(digB l[k]).toArray⟩ : ByteArray).size ≤ maxLen := by show (digB l[k]).toArray.size ≤ maxLen; rw [List.size_toArray, digB_len]; unfold maxLen; omega
      have HSZ := Lib.hid hsz
      have HL := Lib.hid (show k = (digS (l.take k)).length by unfold digS; rw [List.length_map, List.length_take]; omega)
      clear hu how hnd hb how1 hb1 hr3 hr9 hsz
      change Hid (Calls _ _ _ _ fun e w' => e = .returned (.string ⟨(digB l[k]).toArray⟩) ∧ _) at HC
      generalize (⟨(digB l[k]).toArray⟩ : ByteArray) = r at *
      go_wp2_with fail
      refine HC.out.mono ?_
      rintro e w2 ⟨rfl, hb2⟩
      have hbA : Below w2.heap.size w2 (w2.alloc (.cells #[.string r] 9 (0, 0))) := below_alloc _ _
      have HOW2 := Lib.hid (Cd.ow_later (Cd.ow_later HOW.out hb2) hbA)
      have HB2 := Lib.hid (below_then (below_then HB.out hb2) hbA)
      have HBS := Lib.hid (show w.heap.size ≤ (w2.alloc (.cells #[.string r] 9 (0, 0))).heap.size by rw [size_alloc]; have := HB.out.size; have := hb2.size; omega)
      have HCELL := Lib.hid (show (w2.alloc (.cells #[.string r] 9 (0, 0))).cell? ⟨w2.heap.size, 0, none⟩ = some (.string r) from World.cell?_alloc_mark _ _ _ _ 0)
      clear hbA hb2
      go_wp2_with (at_builtin; refine Cd.wpList_appendR (c := strC) rfl rfl (.tmp 17) (.tmp 21) 127 rfl w.heap.size 9 (.string ⟨#[]⟩) 16 Tryz.underlying127 info_str rfl (by decide) w.heap.size l.length k (digS (l.take k)) fp rfl HL.out HOW2.out HND.out (by omega) w2.heap.size (.string r) rfl HCELL.out r [] ⟨rfl, HSZ.out, rfl⟩ List.nodup_nil (fun b hb => by cases hb) (by omega) HBS.out ?_)
      intro w3 fp3 ho3 hn3 hsub3 ht3
      have HB3 := Lib.hid (ht3.below HB2.out (fun b hb => (strsC.ow_lt HOW.out b hb).1))
      rw [← HT.out] at ho3
      clear ht3 hsub3
      go_wp2_with fail
      go_roundw
      case rel => exact ⟨k + 1, fp3, by omega, by go_num, rfl, ho3, hn3, HB3.out⟩
      case measure => simp [intOf]; omega
    · have ek : k = l.length := by omega
      subst ek
      rw [List.take_length] at how
      go_wp2_with fail
      go_ret
      exact ⟨_, fp, rfl, how, hnd, hb⟩

theorem rowsB_join : ∀ rows : List (List Int), Lib.join ((digS rows).map (·.data.toList)) [32] = rowsB rows
  | [] => rfl
  | [r] => by simp [digS, rowsB, Lib.join, List.intercalate]
  | r :: s :: rs => by
    have := rowsB_join (s :: rs)
    simp only [digS, List.map_cons, Lib.join, List.intercalate, List.intersperse, List.flatten_cons] at this ⊢
    rw [this]
    simp [rowsB]
end Go.Proofs.YtdkhgeknjekkoaaGreat.TabImp

namespace Go.Proofs.YtdkhgeknjekkoaaGreat.TabImp
open Go Go.RowKit Byt Ints IntsLaw Cd Rows2 Tab TabSpec Exact TabFmt TabParse

/-- What was stands as it was. -/
def Later (w w' : World) : Prop := Below w.heap.size w w'
theorem join_owned (g : Nat) (rows : List (List Int)) (fp : List Nat) (w : World) (base : Nat) (how : strsC.ow w base [.slice (some ⟨g, 0, none⟩) rows.length rows.length] (digS rows) fp) (h8 : rows.length ≤ 1048577) (hl : (rowsB rows).length ≤ 1048577) :
    Calls Tryz.prog 105 #[.slice (some ⟨g, 0, none⟩) rows.length rows.length, .string ⟨#[32]⟩] w fun e w' => e = .returned (.string ⟨(rowsB rows).toArray⟩) ∧ Below w.heap.size w w' := by
  have hlen : (digS rows).length = rows.length := by unfold digS; rw [List.length_map]
  have hg : g < w.heap.size := by
    obtain ⟨v, xss, fps, e1, hown, _, _⟩ := how
    injection e1 with e1 _
    subst e1
    rcases hown.2 with ⟨e1, _⟩ | ⟨g', cap', cur, e1, _, hgg, _⟩
    · cases e1
    · simp only [Value.slice.injEq, Option.some.injEq, Addr.mk.injEq, and_true] at e1
      obtain ⟨rfl, _, _⟩ := e1
      exact (Array.getElem?_eq_some_iff.1 hgg).1
  have h := Tryz.strings_Join g 0 rows.length (digS rows) ⟨#[32]⟩ w (fun j x hj => by
    obtain ⟨hj1, hj2⟩ := List.getElem?_eq_some_iff.1 hj
    obtain ⟨b, off, cap, e1, _, hc⟩ := strs_at (strsC.ow_rd how) hj1
    simp only [Value.slice.injEq, Option.some.injEq, Addr.mk.injEq, and_true] at e1
    obtain ⟨⟨rfl, rfl⟩, _, _⟩ := e1
    rw [← hj2]
    exact hc) hg (by rw [hlen]; omega) (by rw [hlen]; exact Nat.le_refl _) (by rw [show (ByteArray.mk #[32]).data.toList = [32] from rfl, rowsB_join]; omega)
  rw [hlen, show (ByteArray.mk #[32]).data.toList = [32] from rfl, rowsB_join] at h
  exact h

set_option maxRecDepth 100000 in
theorem format_rows (u : Value) (rows : List (List Int)) (S : Nat → Prop) (w : World) (hr : rowsC.rd w S [u] rows) (h8 : rows.length ≤ 1048577) (hok : ∀ r ∈ rows, r.length ≤ 4 ∧ ∀ x ∈ r, 0 ≤ x ∧ x ≤ 9) (hl : (rowsB rows).length ≤ 1048577) :
    Calls Tryz.prog 59 #[u] w fun e w' => e = .returned (.string ⟨(rowsB rows).toArray⟩) ∧ Below w.heap.size w w' := by
  have HMP := Lib.hid (map_fmt u rows S w hr h8 hok)
  have H8 := Lib.hid h8
  have HL := Lib.hid hl
  obtain ⟨a, cap, rfl, hlm⟩ := rows_form hr
  clear hr h8 hok hl
  go_enter Tryz.func59, Tryz.ntmps59
  go_wp2_with fail
  refine HMP.out.mono ?_
  rintro e w1 ⟨g, fp, rfl, how, hnd, hb1⟩
  have HJ := Lib.hid (join_owned g rows fp w1 _ how H8.out HL.out)
  have HB1 := Lib.hid hb1
  clear how hnd hb1
  go_wp2_with fail
  refine HJ.out.mono ?_
  rintro e w2 ⟨rfl, hb2⟩
  have HB2 := Lib.hid (below_then HB1.out hb2)
  clear hb2
  go_wp2_with fail
  go_ret
  exact ⟨rfl, HB2.out⟩
end Go.Proofs.YtdkhgeknjekkoaaGreat.TabImp

namespace Go.Proofs.YtdkhgeknjekkoaaGreat.AnsFmt
open Go Go.RowKit Byt Ints IntsLaw Cd Rows2 Tab TabSpec Exact Atom AnsC TabImp AnsValid TabFmt QryMath QrySpec QryFmt

/-- A valid answer's format. -/
def fmtA (V : List Int) (R : List (List Int)) : ByteArray := ⟨(if ansOk V R then V.map vb ++ 58 :: rowsB R else []).toArray⟩
theorem ansOk_parts {V : List Int} {R : List (List Int)} (h : ansOk V R = true) : VP V ∧ ∀ r ∈ R, (r.length : Int) = V.length ∧ ∀ x ∈ r, 0 ≤ x ∧ x ≤ 9 := by
  by_cases hv : VP V
  · rw [ans_yes hv] at h
    exact ⟨hv, fun r hr => rowOk_iff.1 ((of_decide_eq_true h).1 r hr)⟩
  · rw [ans_no hv] at h
    exact absurd h (by decide)
theorem rowsWt_take (R : List (List Int)) (k : Nat) : rowsWt (R.take k) ≤ rowsWt R := by
  have h : rowsWt R = rowsWt (R.take k) + rowsWt (R.drop k) := by
    unfold rowsWt
    conv => lhs; rw [← List.take_append_drop k R]
    rw [List.length_append, List.flatten_append, List.length_append]
    omega
  omega
theorem rowsB_take (R : List (List Int)) (k : Nat) : (rowsB (R.take k)).length ≤ rowsWt R := Nat.le_trans (rowsB_len _) (rowsWt_take R k)

set_option maxRecDepth 100000 in
set_option maxHeartbeats 1600000 in
theorem spec_fmtans (v1 v2 : Value) (V : List Int) (rows : List (List Int)) (S : Nat → Prop) (w : World) (hr : ansC.rd w S [v1, v2] (V, rows)) (hwt : ansWt V rows ≤ 1048577) :
    Calls Tryz.prog 17 #[.agg #[v1, v2]] w fun e w' => e = .returned (.string (fmtA V rows)) ∧ Below w.heap.size w w' := by
  have HA := Lib.hid (fun w' (hb : Below w.heap.size w w') => spec_validans v1 v2 V rows S w' (Cd.later hr hb))
  obtain ⟨hr1, hr2⟩ := ans_reads hr
  have HV := Lib.hid (fun w' (hb : Below w.heap.size w w') => (row_ri (Cd.later hr1 hb)).1)
  have HR := Lib.hid (fun w' (hb : Below w.heap.size w w') => Cd.later hr2 hb)
  obtain ⟨a1, c1, rfl, hl1⟩ := row_form hr1
  obtain ⟨a, cap, rfl, hlm⟩ := rows_form hr2
  clear hr hr1 hr2
  go_enter Tryz.func17, Tryz.ntmps17
  go_wp2_with fail
  generalize hW : w.alloc _ = W
  obtain ⟨r0, _, hb0⟩ := start1 w _ hW
  clear hW
  have HAV := Lib.hid (HA.out W hb0)
  by_cases hok : ansOk V rows = true
  case neg =>
    have hok : ansOk V rows = false := by simpa using hok
    rw [hok] at HAV
    have HZ := Lib.hid (show fmtA V rows = ⟨#[]⟩ by unfold fmtA; rw [hok]; rfl)
    have HB := Lib.hid hb0
    clear hok r0 hb0
    refine HAV.out.mono ?_
    rintro e w1 ⟨rfl, hb1⟩
    have HB1 := Lib.hid (below_then HB.out hb1)
    clear hb1
    go_wp2_with fail
    go_ret
    exact ⟨ret_str HZ.out.symm, HB1.out⟩
  rw [hok] at HAV
  have hZ : fmtA V rows = ⟨(V.map vb ++ 58 :: rowsB rows).toArray⟩ := by unfold fmtA; rw [hok]; rfl
  have HP := Lib.hid (ansOk_parts hok)
  have hv4 : V.length ≤ 4 := lenV HP.out.1
  have hbr : ∀ k, (rowsB (rows.take k)).length ≤ 1048577 := fun k => by have := rowsB_take rows k; unfold ansWt at hwt; omega
  have HBR := Lib.hid hbr
  have HROW := Lib.hid (show ∀ r ∈ rows, r.length ≤ 4 ∧ ∀ x ∈ r, 0 ≤ x ∧ x ≤ 9 from fun r hr => by
    have := HP.out.2 r hr
    exact ⟨by omega, this.2⟩)
  have hIn : In4 V := HP.out.1.1
  have HNM := Lib.hid (fun w' (hb : Below w.heap.size w w') => spec_names (.slice a1 V.length c1) V _ w' (HV.out w' hb) hIn hv4)
  have hHL : (V.map vb ++ [58]).length ≤ 5 := by simp; omega
  have hsv : (⟨(V.map vb).toArray⟩ : ByteArray).size ≤ 4 := by show (V.map vb).toArray.size ≤ 4; rw [List.size_toArray, List.length_map]; exact hv4
  have HHD := Lib.hid (show (⟨(V.map vb).toArray⟩ : ByteArray) ++ ⟨#[58]⟩ = ⟨(V.map vb ++ [58]).toArray⟩ by simp [ByteArray.mk_append_mk])
  have HZ := Lib.hid (show fmtA V rows = ⟨((V.map vb ++ [58]) ++ rowsB rows).toArray⟩ by rw [hZ]; simp)
  have HHL := Lib.hid hHL
  have HSV := Lib.hid hsv
  clear hok hwt hv4 hbr hIn hHL hZ hsv HP
  refine HAV.out.mono ?_
  rintro e W1 ⟨rfl, hb1⟩
  have HB := Lib.hid (below_then hb0 hb1)
  have HL := Lib.hid ((Atom.Loc2.of r0).later hb1)
  clear hb0 hb1 r0
  have HN1 := Lib.hid (HNM.out W1 HB.out)
  have y0 := HL.out.c0
  generalize (⟨(V.map vb).toArray⟩ : ByteArray) = D at *
  generalize V.map vb ++ [58] = hd at *
  have l0 : ¬ 9223372036854775807 < D.size + 1 := by have := HSV.out; omega
  go_wp2_with (first | (go_at_call 61; refine HN1.out.mono ?_; rintro e wq ⟨rfl, rfl⟩))
  go_loopw [3, 4] (fun o i wr => ∃ k : Nat, k ≤ rows.length ∧ i = .int .i64 k ∧ o = .string ⟨(hd ++ rowsB (rows.take k)).toArray⟩ ∧ Below W1.heap.size W1 wr) (fun _ i _ => rows.length - (intOf i).toNat)
  case atStart => exact ⟨0, Nat.zero_le _, rfl, by rw [HHD.out]; simp [rowsB], Below.refl _ _⟩
  case round =>
    obtain ⟨k, hk, rfl, rfl, hbw⟩ := hrel
    have HBW := Lib.hid hbw
    have HBT := Lib.hid (below_then HB.out hbw)
    have d1 := (HL.out.later hbw).c1
    clear hbw
    by_cases hlt : k < rows.length
    · obtain ⟨b, off, cap', v', e1, hbB, hc, hv'⟩ := rows_at (HR.out wr HBT.out) hlt
      injection e1 with e1 e2 e3
      subst e1 e3
      have hrow := HROW.out _ (List.getElem_mem hlt)
      have HD := Lib.hid (spec_digits v' rows[k] _ wr (row_ri hv').1 (Nat.le_refl _) hrow.2 (by omega))
      have HSN := Lib.hid (show rowsB (rows.take (k + 1)) = if rows.take k = [] then digB rows[k] else rowsB (rows.take k) ++ 32 :: digB rows[k] by rw [List.take_succ_eq_append_getElem hlt, rowsB_snoc])
      have hbl := HBR.out k
      have hdl : (digB rows[k]).length ≤ 4 := by rw [digB_len]; omega
      have hhl := HHL.out
      have l1 : ¬ 9223372036854775807 < hd.length + (rowsB (rows.take k)).length + 1 := by omega
      have l2 : ¬ 9223372036854775807 < hd.length + (rowsB (rows.take k)).length + 1 + (digB rows[k]).length := by omega
      have l3 : ¬ 9223372036854775807 < hd.length + (rowsB (rows.take k)).length + (digB rows[k]).length := by omega
      clear hv' hrow hhl
      by_cases h0 : k = 0
      · have HE := Lib.hid (show rowsB (rows.take (k + 1)) = rowsB (rows.take k) ++ digB rows[k] by
          have q : rows.take k = [] := by rw [h0]; rfl
          rw [HSN.out, if_pos q, q]
          rfl)
        have hn : ¬ 0 < k := by omega
        clear h0
        generalize rowsB (rows.take k) = cur at *
        generalize digB rows[k] = dg at *
        go_wp2_with (first | (go_at_call 62; refine HD.out.mono ?_; rintro e w1 ⟨rfl, hb1⟩))
        go_roundw
        case rel => exact ⟨k + 1, by omega, by go_num, by rw [HE.out]; simp [ByteArray.mk_append_mk], below_then HBW.out hb1⟩
        case measure => simp [intOf]; omega
      · have HE := Lib.hid (show rowsB (rows.take (k + 1)) = rowsB (rows.take k) ++ 32 :: digB rows[k] by
          rw [HSN.out, if_neg]
          intro q
          have q2 : (rows.take k).length = 0 := by rw [q]; rfl
          rw [List.length_take] at q2
          omega)
        have hn : 0 < k := by omega
        clear h0
        generalize rowsB (rows.take k) = cur at *
        generalize digB rows[k] = dg at *
        go_wp2_with (first | (go_at_call 62; refine HD.out.mono ?_; rintro e w1 ⟨rfl, hb1⟩))
        go_roundw
        case rel => exact ⟨k + 1, by omega, by go_num, by rw [HE.out]; simp [ByteArray.mk_append_mk], below_then HBW.out hb1⟩
        case measure => simp [intOf]; omega
    · have ek : k = rows.length := by omega
      subst ek
      rw [List.take_length]
      go_wp2_with fail
      go_ret
      exact ⟨ret_str (by rw [HZ.out]), HBT.out⟩

set_option maxRecDepth 100000 in
set_option maxHeartbeats 3200000 in
theorem impl_fmtans (v1 v2 : Value) (V : List Int) (rows : List (List Int)) (S : Nat → Prop) (w : World) (hr : ansC.rd w S [v1, v2] (V, rows)) (hwt : ansWt V rows ≤ 1048577) :
    Calls Tryz.prog 16 #[.agg #[v1, v2]] w fun e w' => e = .returned (.string (fmtA V rows)) ∧ Below w.heap.size w w' := by
  have HA := Lib.hid (fun w' (hb : Below w.heap.size w w') => impl_validans v1 v2 V rows S w' (Cd.later hr hb))
  obtain ⟨hr1, hr2⟩ := ans_reads hr
  have HV := Lib.hid (fun w' (hb : Below w.heap.size w w') => Cd.later hr1 hb)
  have HR := Lib.hid (fun w' (hb : Below w.heap.size w w') => Cd.later hr2 hb)
  obtain ⟨a1, c1, rfl, hl1⟩ := row_form hr1
  obtain ⟨a, cap, rfl, hlm⟩ := rows_form hr2
  clear hr hr1 hr2
  go_enter Tryz.func16, Tryz.ntmps16
  go_wp2_with fail
  generalize hW : w.alloc _ = W
  obtain ⟨r0, _, hb0⟩ := start1 w _ hW
  clear hW
  have HAV := Lib.hid (HA.out W hb0)
  by_cases hok : ansOk V rows = true
  case neg =>
    have hok : ansOk V rows = false := by simpa using hok
    rw [hok] at HAV
    have HZ := Lib.hid (show fmtA V rows = ⟨#[]⟩ by unfold fmtA; rw [hok]; rfl)
    have HB := Lib.hid hb0
    clear hok r0 hb0
    refine HAV.out.mono ?_
    rintro e w1 ⟨rfl, hb1⟩
    have HB1 := Lib.hid (below_then HB.out hb1)
    clear hb1
    go_wp2_with fail
    go_ret
    exact ⟨ret_str HZ.out.symm, HB1.out⟩
  rw [hok] at HAV
  have hZ : fmtA V rows = ⟨(V.map vb ++ 58 :: rowsB rows).toArray⟩ := by unfold fmtA; rw [hok]; rfl
  have HP := Lib.hid (ansOk_parts hok)
  have hv4 : V.length ≤ 4 := lenV HP.out.1
  have hrl : rows.length ≤ 1048577 ∧ (rowsB rows).length ≤ 1048577 := by
    have := rowsB_len rows
    unfold ansWt at hwt
    have h2 : rows.length ≤ rowsWt rows := by unfold rowsWt; omega
    omega
  have HRL := Lib.hid hrl
  have HROW := Lib.hid (show ∀ r ∈ rows, r.length ≤ 4 ∧ ∀ x ∈ r, 0 ≤ x ∧ x ≤ 9 from fun r hr => by
    have := HP.out.2 r hr
    exact ⟨by omega, this.2⟩)
  have hIn : In4 V := HP.out.1.1
  have HNM := Lib.hid (fun w' (hb : Below w.heap.size w w') => format_vars (.slice a1 V.length c1) V S w' (HV.out w' hb) hIn (by omega))
  have hsv : (⟨(V.map vb).toArray⟩ : ByteArray).size ≤ 4 := by show (V.map vb).toArray.size ≤ 4; rw [List.size_toArray, List.length_map]; exact hv4
  have HZ := Lib.hid (show fmtA V rows = (⟨(V.map vb).toArray⟩ : ByteArray) ++ ⟨#[58]⟩ ++ ⟨(rowsB rows).toArray⟩ by rw [hZ]; simp [ByteArray.mk_append_mk])
  have HSV := Lib.hid hsv
  have hsr : (⟨(rowsB rows).toArray⟩ : ByteArray).size ≤ 1048577 := by show (rowsB rows).toArray.size ≤ _; rw [List.size_toArray]; exact hrl.2
  have HSR := Lib.hid hsr
  have HFR := Lib.hid (fun w' (hb : Below w.heap.size w w') => format_rows (.slice a rows.length cap) rows S w' (HR.out w' hb) HRL.out.1 HROW.out HRL.out.2)
  clear hok hwt hv4 hrl hIn hZ hsv HP hsr
  refine HAV.out.mono ?_
  rintro e w1 ⟨rfl, hb1⟩
  have HB1 := Lib.hid (below_then hb0 hb1)
  have HT := Lib.hid ((Atom.Loc2.of r0).later hb1)
  clear hb0 hb1 r0
  generalize (⟨(V.map vb).toArray⟩ : ByteArray) = D at *
  generalize (⟨(rowsB rows).toArray⟩ : ByteArray) = E at *
  have HV1 := Lib.hid (fun w' (hb : Later w1 w') => HNM.out w' (below_then HB1.out hb))
  have HR1 := Lib.hid (fun w' (hb : Later w1 w') => HFR.out w' (below_then HB1.out hb))
  have y0 := HT.out.c0
  have y1 := HT.out.c1
  have kk : Later w1 w1.drew := (Below.refl _ w1).drew
  have l1 : ¬ 9223372036854775807 < D.size + 1 := by have := HSV.out; omega
  have l3 : ¬ 9223372036854775807 < D.size + 1 + E.size := by have := HSV.out; have := HSR.out; omega
  go_wp2_with fail
  go_region_held3 (fun wx => wx.cell? ⟨w.heap.size, 0, none⟩ = some (.slice a1 V.length c1) ∧ wx.cell? ⟨w.heap.size, 1, none⟩ = some (.slice a rows.length cap) ∧ Later w1 wx)
    ((refine ⟨?_, ?_, ?_⟩ <;> first | assumption | (simp [*]; done)))
    (first | (go_at_call 58; refine (HV1.out _ (by assumption)).mono ?_; rintro e wq ⟨rfl, hbq⟩; (have kk : Later w1 wq := below_then (by assumption) hbq); (have k0 := (HT.out.later kk).c0); (have k1 := (HT.out.later kk).c1); clear hbq) | (go_at_call 59; refine (HR1.out _ (by assumption)).mono ?_; rintro e wj ⟨rfl, hbj⟩; (have kk : Later w1 wj := below_then (by assumption) hbj); (have k0 := (HT.out.later kk).c0); (have k1 := (HT.out.later kk).c1); clear hbj))
  all_goals
    go_wp2_with fail
    go_ret
    exact ⟨ret_str (by rw [HZ.out]), below_then HB1.out (by assumption)⟩
end Go.Proofs.YtdkhgeknjekkoaaGreat.AnsFmt

namespace Go.Proofs.YtdkhgeknjekkoaaGreat.AnsFact
open Go Go.RowKit Byt Ints IntsLaw Cd Rows2 Tab TabSpec Exact Atom QryMath QrySpec QryImp MkAtom AnsMath SlMath TabOpen TabElem QgMath AnsSpec AnsQ DbMath DbSpec Db DbExact QryFor AnsC AnsImp AnsEv AnsValid AnsFmt TabFmt

theorem asc_varsL (s : Nat) : (varsL s).Pairwise (· < ·) := by
  unfold varsL varsTo
  rw [List.pairwise_map]
  refine List.Pairwise.filter _ (List.Pairwise.imp ?_ List.pairwise_lt_range)
  intro a b h
  show ((a : Nat) : Int) < ((b : Nat) : Int)
  omega
theorem flat_le : ∀ (l : List (List Int)) (c : Nat), (∀ r ∈ l, r.length ≤ c) → l.flatten.length ≤ l.length * c
  | [], _, _ => by simp
  | r :: rs, c, h => by
    have h1 := flat_le rs c fun x hx => h x (List.mem_cons.2 (.inr hx))
    have h2 := h r (List.mem_cons.2 (.inl rfl))
    rw [List.flatten_cons, List.length_append, List.length_cons, Nat.add_mul]
    omega
theorem ev_row {d : List T3} {n m : Int} {l : List A2} {r : List Int} (hr : r ∈ evR d n l m) : r.length = (evV d n l m).length ∧ (∀ x ∈ r, 0 ≤ x ∧ x ≤ 9) ∧ fitAll (evV d n l m) r (relsQ d (selA l m.toNat l.length)) = true := by
  unfold evR at hr
  unfold evV
  split at hr
  · rename_i h
    rw [if_pos h]
    obtain ⟨s, hs, h9, e, hf⟩ := (mem_walkL _ _ _).1 hr
    rw [List.nil_append] at e
    subst e
    exact ⟨hs, h9, hf⟩
  · cases hr
theorem evV_len (d : List T3) (n m : Int) (l : List A2) : (evV d n l m).length ≤ 4 := by
  unfold evV
  split
  · exact varsL_len _
  · simp
theorem ev_wt (d : List T3) (n m : Int) (l : List A2) : ansWt (evV d n l m) (evR d n l m) ≤ 1048577 := by
  have h1 := evV_len d n m l
  have h2 := flat_le (evR d n l m) 4 fun r hr => by rw [(ev_row hr).1]; exact h1
  have h3 := ev_len d n m l
  unfold ansWt rowsWt
  omega
theorem ev_valid {d : List T3} {n m : Int} {l : List A2} (h : evOk d n l m = true) : ansOk (evV d n l m) (evR d n l m) = true := by
  have hv : VP (evV d n l m) := by
    unfold evV
    rw [if_pos h]
    exact ⟨varsL_bd, asc_varsL _⟩
  rw [ans_yes hv]
  refine decide_eq_true ⟨fun r hr => rowOk_iff.2 ⟨by rw [(ev_row hr).1], (ev_row hr).2.1⟩, ?_⟩
  unfold evR
  rw [if_pos h]
  exact asc_walkL _ _
theorem same_self (V : List Int) (R : List (List Int)) : sameA V V R R = true := decide_eq_true ⟨rfl, rfl⟩
theorem ev_full {d : List T3} {n m : Int} {l : List A2} (h : evOk d n l m = true) : subN d n l (fm n l) = ((evR d n l (fm n l)).length : Int) := by
  obtain ⟨h1, h2, h3⟩ := evOk_iff.1 h
  exact subN_yes (evOk_iff.2 ⟨h1, by omega, by omega⟩)
/-- A row of an answer, looked at through one of its atoms. -/
theorem ev_atom {d : List T3} {n m : Int} {l : List A2} (h : evOk d n l m = true) {x : Int} (hx : x ∈ maL m) :
    ∃ v : Nat, x = (v : Int) ∧ ∃ hv : v < l.length, (l[v]).2.length ≤ 3 ∧ v ≤ 4 ∧
      ∀ r ∈ evR d n l m, ∃ tr : List Int, hasR (lkT d (l[v]).1).1 (lkT d (l[v]).1).2.1 (lkT d (l[v]).1).2.2 tr = true ∧ tr.length = (l[v]).2.length ∧ (∀ x ∈ tr, 0 ≤ x ∧ x ≤ 9) ∧
        ∀ j (hj : j < (l[v]).2.length) (hj' : j < tr.length), ∃ i, i < (evV d n l m).length ∧ (∀ e (he : e < (evV d n l m).length), (evV d n l m)[e] = (l[v]).2[j] ↔ e = i) ∧ ∀ hi : i < r.length, r[i] = tr[j] := by
  obtain ⟨t, rfl, ht1, ht16, htl, hmb⟩ := evOk_mB h
  have hfo := (evOk_iff.1 h).1
  have hqp := for_qp hfo
  rw [maL_nat ht16] at hx
  obtain ⟨h0, hvl⟩ := vars_lt hqp.2.2.2.1 htl x hx
  obtain ⟨v, rfl⟩ := Int.eq_ofNat_of_zero_le h0
  have hv : v < l.length := by omega
  have hat : atG l (v : Int) = l[v] := by unfold atG; simp [hv]
  have hsel : l[v] ∈ selA l t l.length := by
    rw [selA_list hqp.2.2.2.1 htl, ← hat]
    exact List.mem_map_of_mem hx
  have hA : l[v] ∈ l := List.getElem_mem hv
  refine ⟨v, rfl, hv, (hqp.2.2.2.2.1 _ hA).2.2.1, by have := hqp.2.2.2.1; omega, fun r hr => ?_⟩
  obtain ⟨hrl, _, hfit⟩ := ev_row hr
  have hV : evV d n l (t : Int) = varsL (bs (selV l t l.length)) := by unfold evV; rw [if_pos h, hmb]
  have hcov := AnsQ.cover hfo t
  rw [← hV] at hcov
  have hrel : relOf (lkT d (l[v]).1) (l[v]) ∈ relsQ d (selA l t l.length) := List.mem_map.2 ⟨_, hsel, rfl⟩
  have hf := (List.all_eq_true.1 hfit) _ hrel
  obtain ⟨tr, htr, hfr⟩ := List.any_eq_true.1 hf
  have hok := rel_ok hfo hA
  have htl2 := (hok.2.2.2 tr htr).1
  refine ⟨tr, hasR_yes (for_tab hfo hA).1 htr, htl2, (hok.2.2.2 tr htr).2, fun j hj hj' => ?_⟩
  have hmem : (l[v]).2[j] ∈ evV d n l (t : Int) := hcov.sub _ hrel _ (List.getElem_mem hj)
  obtain ⟨i, hi, e⟩ := List.getElem_of_mem hmem
  refine ⟨i, hi, fun k hk => ⟨fun q => ?_, fun q => by subst q; exact e⟩, fun hir => ?_⟩
  · exact (List.getElem_inj hcov.nd).1 (q.trans e.symm)
  · have := fitRow_iff.1 hfr j hj i hir (by rw [getD_at hi, e]; exact (getD_at hj).symm)
    rw [getD_at hir, getD_at hj'] at this
    exact this
end Go.Proofs.YtdkhgeknjekkoaaGreat.AnsFact

namespace Go.Proofs.YtdkhgeknjekkoaaGreat.AnsEv
open Go Go.RowKit Byt Ints IntsLaw Cd Rows2 Tab TabSpec Exact Atom QryMath QrySpec QryImp MkAtom AnsMath SlMath TabOpen TabElem QgMath AnsSpec AnsQ DbMath DbSpec Db DbExact QryFor AnsC

/-- The size at a mask: of one that is not connected, 0. -/
def szAt (d : List T3) (n : Int) (l : List A2) (x : Nat) : Int := if conn (gr l) x then subN d n l (x : Int) else 0
def tsTo (d : List T3) (n : Int) (l : List A2) (k : Nat) : List Int := (List.range k).map (szAt d n l)
def tsL (d : List T3) (n : Int) (l : List A2) : List Int := if forOk d n l then tsTo d n l (fm n l + 1) else []
theorem tsTo_succ (d : List T3) (n : Int) (l : List A2) (k : Nat) : tsTo d n l (k + 1) = tsTo d n l k ++ [szAt d n l k] := by
  unfold tsTo
  rw [List.range_succ, List.map_append]
  rfl
theorem sub_bd (d : List T3) (n : Int) (l : List A2) (m : Int) : -1 ≤ subN d n l m ∧ subN d n l m ≤ 4096 := by
  have := ev_len d n m l
  unfold subN
  split <;> omega
theorem szAt_bd (d : List T3) (n : Int) (l : List A2) (x : Nat) : -1 ≤ szAt d n l x ∧ szAt d n l x ≤ 4096 := by
  have := sub_bd d n l (x : Int)
  unfold szAt
  split <;> omega
theorem szAt_no {d : List T3} {n : Int} {l : List A2} {x : Nat} (h : conn (gr l) x = false) : szAt d n l x = 0 := by unfold szAt; rw [h]; rfl
theorem szAt_yes {d : List T3} {n : Int} {l : List A2} {x : Nat} (h : conn (gr l) x = true) : szAt d n l x = subN d n l (x : Int) := by unfold szAt; rw [h]; rfl
theorem tsL_no {d : List T3} {n : Int} {l : List A2} (h : forOk d n l = false) : tsL d n l = [] := by unfold tsL; rw [h]; rfl
theorem tsL_yes {d : List T3} {n : Int} {l : List A2} (h : forOk d n l = true) : tsL d n l = tsTo d n l (fm n l + 1) := by unfold tsL; rw [h]; rfl
/-- The sizes so far: at the masks that were dealt with. -/
def tsI (d : List T3) (n : Int) (l : List A2) (c : List Int) (k : Nat) : List Int := (List.range (fm n l + 1)).map fun x : Nat => if hasI (c.take k) (x : Int) then subN d n l (x : Int) else 0
theorem tsI_zero (d : List T3) (n : Int) (l : List A2) (c : List Int) : tsI d n l c 0 = List.replicate (fm n l + 1) 0 := by
  unfold tsI hasI
  refine List.ext_getElem (by simp) fun x h1 h2 => ?_
  simp
theorem tsI_len (d : List T3) (n : Int) (l : List A2) (c : List Int) (k : Nat) : (tsI d n l c k).length = fm n l + 1 := by unfold tsI; rw [List.length_map, List.length_range]
theorem tsI_succ {d : List T3} {n : Int} {l : List A2} {c : List Int} {k t : Nat} (hk : k < c.length) (ht : c[k] = (t : Int)) : tsI d n l c (k + 1) = (tsI d n l c k).set t (subN d n l (t : Int)) := by
  refine List.ext_getElem (by rw [List.length_set, tsI_len, tsI_len]) fun x h1 h2 => ?_
  rw [List.getElem_set]
  have hg : ∀ j (h : x < (tsI d n l c j).length), (tsI d n l c j)[x] = if hasI (c.take j) (x : Int) then subN d n l (x : Int) else 0 := fun j h => by
    have := List.getElem_map (fun x : Nat => if hasI (c.take j) (x : Int) then subN d n l (x : Int) else 0) (l := List.range (fm n l + 1)) (i := x) (h := h)
    rw [List.getElem_range] at this
    exact this
  rw [hg, hg]
  have hh : hasI (c.take (k + 1)) (x : Int) = (hasI (c.take k) (x : Int) || decide (t = x)) := by
    unfold hasI
    rw [List.take_succ_eq_append_getElem hk, ht]
    rw [Bool.eq_iff_iff]
    simp only [List.contains_iff_mem, List.mem_append, List.mem_singleton, Bool.or_eq_true, decide_eq_true_eq]
    exact or_congr Iff.rfl ⟨fun q => by omega, fun q => by omega⟩
  rw [hh]
  by_cases e : t = x
  · subst e
    simp
  · rw [if_neg e, decide_eq_false e, Bool.or_false]
theorem tsI_all (d : List T3) (n : Int) (l : List A2) : tsI d n l (cmL n l) (cmL n l).length = tsTo d n l (fm n l + 1) := by
  unfold tsI tsTo
  refine List.map_congr_left fun x hx => ?_
  have hx := List.mem_range.1 hx
  rw [List.take_length]
  unfold szAt hasI
  have : (cmL n l).contains (x : Int) = conn (gr l) x := by
    rw [Bool.eq_iff_iff, List.contains_iff_mem]
    unfold cmL
    rw [mem_fil]
    constructor
    · rintro ⟨y, _, h, e⟩
      have : x = y := by omega
      rw [this]; exact h
    · intro h
      exact ⟨x, hx, h, rfl⟩
  rw [this]

set_option maxRecDepth 100000 in
set_option maxHeartbeats 3200000 in
theorem spec_true (u v : Value) (d : List T3) (n : Int) (l : List A2) (S1 S2 : Nat → Prop) (w : World) (h1 : tabsC.rd w S1 [u] d) (h2 : atomsC.rd w S2 [v] l) (hw : SlTable.wtS d ≤ 1048577) :
    Calls Tryz.prog 24 #[.agg #[u], .agg #[.int .i64 n, v]] w fun e w' => ∃ v' fp, e = .returned v' ∧ rowC.ow w' w.heap.size [v'] (tsL d n l) fp ∧ fp.Nodup ∧ Below w.heap.size w w' := by
  have HF := Lib.hid (fun w' (hb : Below w.heap.size w w') => spec_for u v d n l S1 S2 w' (Cd.later h1 hb) (Cd.later h2 hb) hw)
  have HFM := Lib.hid (fun w' (hb : Below w.heap.size w w') => QgSpec.spec_full n v l S2 w' (Cd.later h2 hb))
  have HC := Lib.hid (fun m w' (hb : Below w.heap.size w w') => QgSpec.spec_conn n m v l S2 w' (Cd.later h2 hb))
  have HS := Lib.hid (fun m w' (hb : Below w.heap.size w w') => spec_sub u v d n m l S1 S2 w' (Cd.later h1 hb) (Cd.later h2 hb) hw)
  obtain ⟨a1, cap1, rfl, _⟩ := Cd.sl_form h1
  obtain ⟨a, cap, rfl, _⟩ := Cd.sl_form h2
  clear h1 h2 hw
  have hfl := fm_lt n l
  go_enter Tryz.func24, Tryz.ntmps24
  go_wp2_with fail
  generalize hW : (w.alloc _).alloc _ = W
  obtain ⟨r0, r1, hz, hb0⟩ := start2g w _ _ hW
  have L1 := Lib.hid (Loc1.of r0)
  have L2 := Lib.hid (Atom.Loc2.of r1)
  have HB := Lib.hid hb0
  have HZ := Lib.hid hz
  have hX : W.heap.size = w.heap.size + 1 + 1 := hz
  have ho := Cd.ow_empty (e := 3) (c := Cd.int) W w.heap.size hb0.size
  have ho2 := Cd.ow_empty (e := 3) (c := Cd.int) W (w.heap.size + 2) (by omega)
  rw [hX] at ho ho2
  have HO := Lib.hid ho
  have HO2 := Lib.hid (show rowC.ow (W.alloc (.cells #[] 3)) (w.heap.size + 2) [.slice (some ⟨w.heap.size + 1 + 1, 0, none⟩) 0 0] [] [w.heap.size + 1 + 1] from ho2)
  clear hX ho ho2
  have HBA := Lib.hid (below_alloc W (.cells #[] 3))
  clear hW r0 r1 hb0 hz
  cases hfo : forOk d n l
  · have HZR := Lib.hid (tsL_no hfo)
    rw [hfo] at HF
    clear hfo
    generalize hF : fm n l = F at *
    clear hF
    have z0 := (L1.out.later HBA.out).c0
    have zl := (L1.out.later HBA.out).lt
    have y0 := (L2.out.later HBA.out).c0
    have y1 := (L2.out.later HBA.out).c1
    have yl := (L2.out.later HBA.out).lt
    have HBW := Lib.hid (below_then HB.out HBA.out)
    clear HBA
    generalize hW2 : W.alloc _ = W2 at *
    clear hW2
    go_loopw [5, 6] (fun o i wr => o = .slice (some ⟨w.heap.size + 1 + 1, 0, none⟩) 0 0 ∧ i = .int .i64 0 ∧ wr = W2) (fun _ _ _ => 1)
    case atStart => exact ⟨rfl, rfl, rfl⟩
    case round =>
      obtain ⟨rfl, rfl, rfl⟩ := hrel
      have p1 : (0 : Int) ≤ (F : Int) := by omega
      go_wp2_with fail
      refine (HFM.out _ HBW.out).mono ?_
      rintro e w1 ⟨rfl, hb1⟩
      have z0 := (hb1.cell zl).trans z0
      have y0 := (hb1.cell (p := ⟨w.heap.size + 1, 0, none⟩) yl).trans y0
      have y1 := (hb1.cell (p := ⟨w.heap.size + 1, 1, none⟩) yl).trans y1
      have HB1 := Lib.hid (below_then HBW.out hb1)
      have HO1 := Lib.hid (Cd.ow_later HO.out hb1)
      clear hb1
      go_wp2_with fail
      refine (HF.out _ HB1.out).mono ?_
      rintro e w2 ⟨rfl, hb2⟩
      have HB2 := Lib.hid (below_then HB1.out hb2)
      have HO9 := Lib.hid (Cd.ow_later HO1.out hb2)
      clear hb2
      go_wp2_with fail
      go_ret
      first
        | exact ⟨_, _, rfl, by rw [HZR.out]; exact HO9.out, by simp, HB2.out⟩
        | exact ⟨_, rfl, _, by rw [HZR.out]; exact HO9.out, by simp, HB2.out⟩
  have HZR := Lib.hid (tsL_yes hfo)
  rw [hfo] at HF
  have HCN := Lib.hid (fun (k : Nat) (hk : k ≤ fm n l) w' (hb : Below w.heap.size w w') => (show Calls _ _ _ _ _ from by have := HC.out (k : Int) w' hb; rw [QgImp.cOk_le hk] at this; exact this))
  clear hfo HC
  generalize hF : fm n l = F at *
  clear hF
  have HL1 := Lib.hid (L1.out.later HBA.out)
  have HL2 := Lib.hid (L2.out.later HBA.out)
  have HBW := Lib.hid (below_then HB.out HBA.out)
  clear HBA HO L1 L2
  generalize hW2 : W.alloc _ = W2 at *
  clear hW2
  go_loopw [5, 6] (fun o i wr => ∃ (k : Nat) (fp : List Nat), k ≤ F + 1 ∧ i = .int .i64 k ∧ rowC.ow wr (w.heap.size + 2) [o] (tsTo d n l k) fp ∧ fp.Nodup ∧ Loc1 wr w.heap.size (.slice a1 d.length cap1) ∧ Atom.Loc2 wr (w.heap.size + 1) (.int .i64 n) (.slice a l.length cap) ∧ Below w.heap.size w wr ∧ w.heap.size + 2 ≤ wr.heap.size) (fun _ i _ => F + 1 - (intOf i).toNat)
  case atStart => exact ⟨0, _, by omega, rfl, HO2.out, by simp, HL1.out, HL2.out, HBW.out, by have h := (rowC.ow_lt HO2.out (w.heap.size + 1 + 1) (by simp)).2; omega⟩
  case round =>
    obtain ⟨k, fp, hk, rfl, how, hnd, hl1, hl2, hb, hsz⟩ := hrel
    obtain ⟨ao, co, rfl⟩ := Cd.ow_slice how
    have HOW := Lib.hid how
    have HND := Lib.hid hnd
    have HB0 := Lib.hid hb
    have HSZ := Lib.hid hsz
    have y0 := hl2.c0
    have y1 := hl2.c1
    have HL1 := Lib.hid hl1
    have HL2 := Lib.hid hl2
    have HTL := Lib.hid (show (tsTo d n l k).length = k by unfold tsTo; rw [List.length_map, List.length_range])
    have HNX := Lib.hid (tsTo_succ d n l k)
    have HBD := Lib.hid (szAt_bd d n l k)
    have p1 : (0 : Int) ≤ (k : Int) := by omega
    have p0 : (k : Int) ≤ 16 := by omega
    clear how hnd hl1 hl2 hb hsz
    generalize hout : tsTo d n l k = out at *
    have HOUT := Lib.hid hout
    clear hout
    by_cases hkF : (k : Int) ≤ (F : Int)
    · have hkF' : k ≤ F := by omega
      have HKF := Lib.hid hkF'
      have HCK := Lib.hid (HCN.out k hkF')
      clear hkF'
      go_wp2_with fail
      refine (HFM.out _ HB0.out).mono ?_
      rintro e w1 ⟨rfl, hb1⟩
      have HB1 := Lib.hid (below_then HB0.out hb1)
      have HOW1 := Lib.hid (Cd.ow_later HOW.out hb1)
      have M1 := Lib.hid (HL1.out.later hb1)
      have M2 := Lib.hid (HL2.out.later hb1)
      have HS1 := Lib.hid (Nat.le_trans HSZ.out hb1.size)
      clear hb1 y0 y1
      have x0 := M1.out.c0
      have x1 := M2.out.c0
      have x2 := M2.out.c1
      go_wp2_with fail
      refine (HF.out _ HB1.out).mono ?_
      rintro e w2 ⟨rfl, hb2⟩
      have HB2 := Lib.hid (below_then HB1.out hb2)
      have HOW2 := Lib.hid (Cd.ow_later HOW1.out hb2)
      replace M1 := Lib.hid (M1.out.later hb2)
      replace M2 := Lib.hid (M2.out.later hb2)
      have HS2 := Lib.hid (Nat.le_trans HS1.out hb2.size)
      clear hb2 x0 x1 x2
      have x1 := M2.out.c0
      have x2 := M2.out.c1
      go_wp2_with fail
      refine (HCK.out _ HB2.out).mono ?_
      rintro e w3 ⟨rfl, hb3⟩
      have HB3 := Lib.hid (below_then HB2.out hb3)
      have HOW3 := Lib.hid (Cd.ow_later HOW2.out hb3)
      replace M1 := Lib.hid (M1.out.later hb3)
      replace M2 := Lib.hid (M2.out.later hb3)
      have HS3 := Lib.hid (Nat.le_trans HS2.out hb3.size)
      clear hb3 x1 x2
      cases hc : conn (gr l) k
      · have HV := Lib.hid (szAt_no (d := d) (n := n) hc)
        clear hc
        have hAl := below_alloc w3 (.cells #[.int .i64 0] 3)
        have A1 := Lib.hid (Cd.ow_later HOW3.out hAl)
        have A2 := Lib.hid (show (w3.alloc (.cells #[.int .i64 0] 3)).cell? ⟨w3.heap.size, 0, none⟩ = some (.int .i64 0) by simp)
        have A3 := Lib.hid (show Cd.int.ow (w3.alloc (.cells #[.int .i64 0] 3)) (w.heap.size + 2) [.int .i64 0] (0 : Int) [] from ⟨rfl, by omega, rfl⟩)
        have A4 := Lib.hid (Nat.le_trans HS3.out hAl.size)
        have A5 := Lib.hid (below_then HB3.out hAl)
        have A6 := Lib.hid (M1.out.later hAl)
        have A7 := Lib.hid (M2.out.later hAl)
        clear hAl
        go_wp2_with (at_builtin; refine Cd.wpList_appendE (c := Cd.int) rfl rfl (.tmp 27) (.tmp 29) 32 rfl (w.heap.size + 2) 3 (.int .i64 0) 8 Tryz.underlying32 info_i64 rfl (by decide) _ out fp rfl A1.out HND.out _ _ rfl A2.out _ _ A3.out (by simp) (by simp) (by have := HTL.out; omega) A4.out ?_)
        intro g capn w5 f5 ho5 hn5 hs5 ht5
        have hfp := rowC.ow_lt A1.out
        have B1 := Lib.hid (show rowC.ow w5 (w.heap.size + 2) [_] (out ++ [0]) f5 from ho5)
        have B2 := Lib.hid hn5
        have B3 := Lib.hid (A6.out.touched ht5 (fun q => by have := (hfp _ q).1; omega))
        have B4 := Lib.hid (A7.out.touched ht5 (fun q => by have := (hfp _ q).1; omega))
        have B5 := Lib.hid (Cd.Touch.below A5.out ht5 (fun b hb => by have := (hfp b hb).1; omega))
        have B6 := Lib.hid (Nat.le_trans A4.out ht5.size)
        clear ho5 hn5 hs5 ht5 hfp
        go_wp2_with fail
        go_roundw
        case rel => exact ⟨k + 1, f5, by have := HKF.out; omega, by go_num, by rw [HNX.out, HV.out]; exact B1.out, B2.out, B3.out, B4.out, B5.out, B6.out⟩
        case measure => have := HKF.out; simp [intOf]; omega
      · have HV := Lib.hid (szAt_yes (d := d) (n := n) hc)
        clear hc
        have x0 := M1.out.c0
        have x1 := M2.out.c0
        have x2 := M2.out.c1
        rw [HV.out] at HBD
        have HSK := Lib.hid (HS.out (k : Int) _ HB3.out)
        generalize subN d n l (k : Int) = z at *
        go_wp2_with fail
        refine HSK.out.mono ?_
        rintro e w4 ⟨rfl, hb4⟩
        have hAl := below_then hb4 (below_alloc w4 (.cells #[.int .i64 z] 3))
        have A1 := Lib.hid (Cd.ow_later HOW3.out hAl)
        have A2 := Lib.hid (show (w4.alloc (.cells #[.int .i64 z] 3)).cell? ⟨w4.heap.size, 0, none⟩ = some (.int .i64 z) by simp)
        have A3 := Lib.hid (show Cd.int.ow (w4.alloc (.cells #[.int .i64 z] 3)) (w.heap.size + 2) [.int .i64 z] z [] from ⟨rfl, by have := HBD.out; omega, rfl⟩)
        have A4 := Lib.hid (Nat.le_trans HS3.out hAl.size)
        have A5 := Lib.hid (below_then HB3.out hAl)
        have A6 := Lib.hid (M1.out.later hAl)
        have A7 := Lib.hid (M2.out.later hAl)
        clear hAl hb4 x0 x1 x2
        go_wp2_with (at_builtin; refine Cd.wpList_appendE (c := Cd.int) rfl rfl (.tmp 27) (.tmp 29) 32 rfl (w.heap.size + 2) 3 (.int .i64 0) 8 Tryz.underlying32 info_i64 rfl (by decide) _ out fp rfl A1.out HND.out _ _ rfl A2.out _ _ A3.out (by simp) (by simp) (by have := HTL.out; omega) A4.out ?_)
        intro g capn w5 f5 ho5 hn5 hs5 ht5
        have hfp := rowC.ow_lt A1.out
        have B1 := Lib.hid (show rowC.ow w5 (w.heap.size + 2) [_] (out ++ [z]) f5 from ho5)
        have B2 := Lib.hid hn5
        have B3 := Lib.hid (A6.out.touched ht5 (fun q => by have := (hfp _ q).1; omega))
        have B4 := Lib.hid (A7.out.touched ht5 (fun q => by have := (hfp _ q).1; omega))
        have B5 := Lib.hid (Cd.Touch.below A5.out ht5 (fun b hb => by have := (hfp b hb).1; omega))
        have B6 := Lib.hid (Nat.le_trans A4.out ht5.size)
        clear ho5 hn5 hs5 ht5 hfp
        go_wp2_with fail
        go_roundw
        case rel => exact ⟨k + 1, f5, by have := HKF.out; omega, by go_num, by rw [HNX.out, HV.out]; exact B1.out, B2.out, B3.out, B4.out, B5.out, B6.out⟩
        case measure => have := HKF.out; simp [intOf]; omega
    · have ek : k = F + 1 := by omega
      have hkF' : ¬ k ≤ F := by omega
      have HEK := Lib.hid ek
      clear ek
      go_wp2_with fail
      refine (HFM.out _ HB0.out).mono ?_
      rintro e w1 ⟨rfl, hb1⟩
      have HB1 := Lib.hid (below_then HB0.out hb1)
      have HOW1 := Lib.hid (rowC.ow_base (Cd.ow_later HOW.out hb1) (show w.heap.size ≤ w.heap.size + 2 by omega))
      clear hb1 y0 y1
      have HTT := Lib.hid (show tsL d n l = out by rw [HZR.out, ← HEK.out, HOUT.out])
      go_wp2_with fail
      go_ret
      first
        | exact ⟨_, fp, rfl, by rw [HTT.out]; exact HOW1.out, HND.out, HB1.out⟩
        | exact ⟨_, rfl, fp, by rw [HTT.out]; exact HOW1.out, HND.out, HB1.out⟩
end Go.Proofs.YtdkhgeknjekkoaaGreat.AnsEv
