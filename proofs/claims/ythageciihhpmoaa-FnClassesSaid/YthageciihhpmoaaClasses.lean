/- The law on size classes and locations, out of the program's functions' contracts. -/
import Derived.Test.YthageciihhpmoaaLoc
import Derived.Test.YthageciihhpmoaaLocDraw
import Derived.Deep.DeepCutAuto
namespace Go.Proofs.Ythageciihhpmoaa.Classes
open Go Go.RowKit Byt Ints IntsLaw IntsWalk Sz Loc Draw LocDraw

theorem szcl_ge {n : Int} (h : 0 ≤ szcl n) : n ≤ clsz (szcl n) := by
  unfold szcl at *
  repeat' split
  all_goals simp_all [clsz, csN]
  all_goals omega
theorem szcl_lt {n : Int} (h : 0 < szcl n) : clsz (szcl n - 1) < n := by
  unfold szcl at *
  repeat' split
  all_goals simp_all [clsz, csN]
theorem dom_self (l : List Int) : dom l l = true := decide_eq_true ⟨rfl, fun _ _ => Int.le_refl _⟩
theorem dom_anti {a b : List Int} (h1 : dom a b = true) (h2 : dom b a = true) : a = b := by
  have h1 := of_decide_eq_true h1
  have h2 := of_decide_eq_true h2
  refine List.ext_getElem h1.1 fun t ha hb => ?_
  have e1 := h1.2 t ha
  have e2 := h2.2 t hb
  rw [List.getD_eq_getElem?_getD, List.getD_eq_getElem?_getD, List.getElem?_eq_getElem ha, List.getElem?_eq_getElem hb] at e1
  rw [List.getD_eq_getElem?_getD, List.getD_eq_getElem?_getD, List.getElem?_eq_getElem ha, List.getElem?_eq_getElem hb] at e2
  simp only [Option.getD_some] at e1 e2
  omega
theorem digs_locB {l : List Int} (h : isLoc l = true) : digs (locB l) = l := by
  have h2 := (isLoc_iff.1 h).2
  unfold digs locB
  rw [List.map_map]
  refine (List.map_congr_left fun x hx => ?_).trans (List.map_id l)
  have := h2 x hx
  simp only [Function.comp, id]
  have e : (UInt8.ofNat (48 + x.toNat)).toNat = 48 + x.toNat := by simp; omega
  rw [e]
  omega
/-- What is read back. -/
theorem back (l : List Int) : digs (⟨(if isLoc l then locB l else []).toArray⟩ : ByteArray).data.toList = (if isLoc l then l else []) := by
  by_cases h : isLoc l = true
  · rw [if_pos h, if_pos h]
    exact digs_locB h
  · rw [if_neg h, if_neg h]
    rfl
theorem back_is (l : List Int) : isLoc (if isLoc l then l else []) = true := by
  by_cases h : isLoc l = true
  · rw [if_pos h]; exact h
  · rw [if_neg h]; rfl
theorem back_size {l : List Int} (h : l.length ≤ 20) : (⟨(if isLoc l then locB l else []).toArray⟩ : ByteArray).size ≤ 1048576 := by
  show (if isLoc l then locB l else []).toArray.size ≤ _
  split
  · simp [locB]; omega
  · simp

/-- The two drawn lists are owned. -/
def StL (w : World) (ua ub : Value) (la lb : List Int) (wx : World) : Prop := Below w.heap.size w wx ∧ OwnI wx w.heap.size 3 ua la ∧ OwnI wx w.heap.size 3 ub lb
theorem stl_later {w wx w1 : World} {ua ub : Value} {la lb : List Int} (hb : Below wx.heap.size wx w1) (h : StL w ua ub la lb wx) : StL w ua ub la lb w1 := ⟨below_then h.1 hb, h.2.1.later hb, h.2.2.later hb⟩

theorem own_len {w : World} {base : Nat} {e : TypeId} {v : Value} {l : List Int} (h : OwnI w base e v l) : ∃ a cap, v = .slice a l.length cap := by
  rcases h.form with ⟨rfl, rfl⟩ | ⟨g, cap, rfl, _⟩
  · exact ⟨none, 0, rfl⟩
  · exact ⟨_, cap, rfl⟩

set_option maxRecDepth 100000 in
set_option maxHeartbeats 4000000 in
theorem walk (v : Value) (l : List UInt8) (w : World) (hr : Reads w v l w.heap.size)
    (HSIZE : ∀ n w', (-9223372036854775808 ≤ n ∧ n ≤ 9223372036854775807) → Calls Try.prog 45 #[.int .i64 n] w' fun e w'' => e = .returned (.int .i64 (szcl n)) ∧ Below w'.heap.size w' w'')
    (HROUND : ∀ n w', (-9223372036854775808 ≤ n ∧ n ≤ 9223372036854775807) → Calls Try.prog 47 #[.int .i64 n] w' fun e w'' => e = .returned (.int .i64 (clsz (szcl n))) ∧ Below w'.heap.size w' w'')
    (HCLASS : ∀ k w', (-9223372036854775808 ≤ k ∧ k ≤ 9223372036854775807) → Calls Try.prog 49 #[.int .i64 k] w' fun e w'' => e = .returned (.int .i64 (clsz k)) ∧ Below w'.heap.size w' w'')
    (HDOM : ∀ v1 v2 l1 l2 B w', l1.length ≤ 1048576 → l2.length ≤ 1048576 → RI w' v1 l1 B → RI w' v2 l2 B → B ≤ w'.heap.size → Calls Try.prog 51 #[v1, v2] w' fun e w'' => e = .returned (.bool (dom l1 l2)) ∧ Below w'.heap.size w' w'')
    (HFMT : ∀ v l B w', l.length ≤ 1048576 → RI w' v l B → B ≤ w'.heap.size → Calls Try.prog 54 #[v] w' fun e w'' => e = .returned (.string ⟨(if isLoc l then locB l else []).toArray⟩) ∧ Below w'.heap.size w' w'')
    (HPARSE : ∀ (s : ByteArray) w', s.size ≤ 1048576 → Calls Try.prog 55 #[.string s] w' fun e w'' => ∃ v', e = .returned (.tuple #[v', .bool (isLoc (digs s.data.toList))]) ∧ OwnI w'' w'.heap.size 3 v' (if isLoc (digs s.data.toList) then digs s.data.toList else []) ∧ Below w'.heap.size w' w'')
    (HSIZES : ∀ v l B w', l.length ≤ 1048576 → InR l → RI w' v l B → B ≤ w'.heap.size → Calls Try.prog 56 #[v] w' fun e w'' => ∃ v', e = .returned v' ∧ OwnI w'' w'.heap.size 3 v' (if isLoc l then l.map clsz else []) ∧ Below w'.heap.size w' w'')
    (HISLOC : ∀ v l B w', l.length ≤ 1048576 → RI w' v l B → B ≤ w'.heap.size → Calls Try.prog 57 #[v] w' fun e w'' => e = .returned (.bool (isLoc l)) ∧ Below w'.heap.size w' w'') :
    Calls Try.prog 11 #[v] w fun e w' => e = .returned (.bool true) ∧ Below w.heap.size w w' := by
  have H1 := Lib.hid HSIZE
  have H2 := Lib.hid HROUND
  have H3 := Lib.hid HCLASS
  have H4 := Lib.hid HDOM
  have H5 := Lib.hid HFMT
  have H6 := Lib.hid HPARSE
  have H7 := Lib.hid HSIZES
  have H8 := Lib.hid HISLOC
  clear HSIZE HROUND HCLASS HDOM HFMT HPARSE HSIZES HISLOC
  by_cases hbig : 1048576 < l.length
  · go_enter Try.func11, Try.ntmps11
    go_wp2_with fail
    refine (big_any v l w.heap.size w hr).mono ?_
    rintro e w1 ⟨rfl, rfl⟩
    rw [decide_eq_true hbig]
    go_wp2_with fail
    go_ret
    exact ⟨rfl, Below.refl _ _⟩
  have HR := Lib.hid (fun wx (k : Below w.heap.size w wx) => hr.later (B := w.heap.size) k)
  go_enter Try.func11, Try.ntmps11
  go_wp2_with fail
  refine (big_any v l w.heap.size w hr).mono ?_
  rintro e w0 ⟨rfl, rfl⟩
  rw [decide_eq_false hbig]
  clear hr hbig
  go_wp2_with fail
  refine (draw_size v l w.heap.size w (HR.out w (Below.refl _ _)) (Nat.le_refl _)).mono ?_
  rintro e w1 ⟨n, rfl, hn, hb1⟩
  have HN := Lib.hid hn
  have K1 := Lib.hid hb1
  clear hn hb1
  go_wp2_with fail
  refine (H1.out n w1 HN.out).mono ?_
  rintro e w2 ⟨rfl, hbl⟩
  have K2 := Lib.hid (below_then K1.out hbl)
  clear K1 hbl
  go_wp2_with fail
  refine (spec_size n w2).mono ?_
  rintro e w2' ⟨rfl, rfl⟩
  go_wp2_with fail
  refine (H2.out n w2 HN.out).mono ?_
  rintro e w3 ⟨rfl, hbl⟩
  have K3 := Lib.hid (below_then K2.out hbl)
  clear K2 hbl
  go_wp2_with fail
  refine (spec_round n w3).mono ?_
  rintro e w3' ⟨rfl, rfl⟩
  have hsz := szcl_bd n
  have hge := szcl_ge (n := n)
  have hlt := szcl_lt (n := n)
  generalize szcl n = k at *
  have HGE := Lib.hid hge
  have HLT := Lib.hid hlt
  clear hge hlt
  go_upto_region 7 with fail
  go_cut [47] (fun s47 wx => s47 = .bool false ∧ Below w.heap.size w wx)
  case first =>
    as_aux_lemma =>
      by_cases hk0 : 0 ≤ k
      · have c1 : decide (clsz k < n) = false := decide_eq_false (by have := HGE.out hk0; omega)
        have C1 := Lib.hid c1
        by_cases hk1 : 0 < k
        · have c2 : decide (n ≤ clsz (k - 1)) = false := decide_eq_false (by have := HLT.out hk1; omega)
          go_wp2_with fail
          refine (H3.out k w3 ⟨by omega, by omega⟩).mono ?_
          rintro e w4 ⟨rfl, hbl⟩
          have K4 := Lib.hid (below_then K3.out hbl)
          clear hbl
          go_wp2_with fail
          refine (H3.out (k - 1) w4 ⟨by omega, by omega⟩).mono ?_
          rintro e w5 ⟨rfl, hbl⟩
          have K5 := Lib.hid (below_then K4.out hbl)
          clear hbl
          go_wp2_with fail
          go_meet
          exact ⟨rfl, K5.out⟩
        · go_wp2_with fail
          refine (H3.out k w3 ⟨by omega, by omega⟩).mono ?_
          rintro e w4 ⟨rfl, hbl⟩
          have K4 := Lib.hid (below_then K3.out hbl)
          clear hbl
          go_wp2_with fail
          go_meet
          exact ⟨rfl, K4.out⟩
      · go_wp2_with fail
        go_meet
        exact ⟨rfl, K3.out⟩
  case rest =>
  obtain ⟨rfl, hbl⟩ := hcut
  have K5 := Lib.hid hbl
  clear hbl K3 HGE HLT hsz
  go_wp2_with fail
  refine (draw_dom v l w.heap.size wc (HR.out wc K5.out) K5.out.size).mono ?_
  rintro e w6 ⟨ua, ub, la, lb, rfl, ha, hb, hia, hib, hla, hlb, hbl⟩
  have S6 := Lib.hid (show StL w ua ub la lb w6 from ⟨K5.out.trans hbl, ha.base_mono K5.out.size, hb.base_mono K5.out.size⟩)
  have LA := Lib.hid (And.intro hla (And.intro hlb (And.intro hia hib)))
  clear ha hb hia hib hla hlb hbl K5
  go_wp2_with fail
  refine (H4.out ua ub la lb w6.heap.size w6 (by have := LA.out.1; omega) (by have := LA.out.2.1; omega) S6.out.2.1.reads S6.out.2.2.reads (Nat.le_refl _)).mono ?_
  rintro e w7 ⟨rfl, hbl⟩
  have S7 := Lib.hid (stl_later hbl S6.out)
  clear hbl S6
  generalize hd0 : dom la lb = is at *
  go_upto_region 11 with fail
  go_cut [80] (fun s80 wx => s80 = .bool false ∧ StL w ua ub la lb wx)
  case first =>
    as_aux_lemma =>
      cases is
      case true =>
        have hd : dom la lb = true := hd0
        clear hd0
        by_cases hd2 : dom lb la = true
        · have e := dom_anti hd hd2
          subst e
          have HD := Lib.hid hd
          clear hd hd2
          go_wp2_with fail
          refine (spec_dom ua ub la la w7.heap.size w7 S7.out.2.1.reads S7.out.2.2.reads (Nat.le_refl _)).mono ?_
          rintro e w8 ⟨rfl, hbl⟩
          have S8 := Lib.hid (stl_later hbl S7.out)
          clear hbl
          rw [HD.out]
          go_wp2_with fail
          refine (H4.out ub ua la la w8.heap.size w8 (by have := LA.out.1; omega) (by have := LA.out.1; omega) S8.out.2.2.reads S8.out.2.1.reads (Nat.le_refl _)).mono ?_
          rintro e w9 ⟨rfl, hbl⟩
          have S9 := Lib.hid (stl_later hbl S8.out)
          clear hbl
          rw [HD.out]
          go_wp2_with fail
          refine (same_ints ua ub la la w9.heap.size w9 S9.out.2.1.reads S9.out.2.2.reads (Nat.le_refl _)).mono ?_
          rintro e w10 ⟨rfl, hbl⟩
          have S10 := Lib.hid (stl_later hbl S9.out)
          clear hbl
          rw [dec_same]
          go_wp2_with fail
          refine (H4.out ua ua la la w10.heap.size w10 (by have := LA.out.1; omega) (by have := LA.out.1; omega) S10.out.2.1.reads S10.out.2.1.reads (Nat.le_refl _)).mono ?_
          rintro e w11 ⟨rfl, hbl⟩
          have S11 := Lib.hid (stl_later hbl S10.out)
          clear hbl
          rw [HD.out]
          go_wp2_with fail
          go_meet
          exact ⟨rfl, S11.out⟩
        · have hd2 : dom lb la = false := by simpa using hd2
          have HD := Lib.hid (And.intro hd hd2)
          clear hd hd2
          go_wp2_with fail
          refine (spec_dom ua ub la lb w7.heap.size w7 S7.out.2.1.reads S7.out.2.2.reads (Nat.le_refl _)).mono ?_
          rintro e w8 ⟨rfl, hbl⟩
          have S8 := Lib.hid (stl_later hbl S7.out)
          clear hbl
          rw [HD.out.1]
          go_wp2_with fail
          refine (H4.out ub ua lb la w8.heap.size w8 (by have := LA.out.2.1; omega) (by have := LA.out.1; omega) S8.out.2.2.reads S8.out.2.1.reads (Nat.le_refl _)).mono ?_
          rintro e w9 ⟨rfl, hbl⟩
          have S9 := Lib.hid (stl_later hbl S8.out)
          clear hbl
          rw [HD.out.2]
          go_wp2_with fail
          refine (H4.out ua ua la la w9.heap.size w9 (by have := LA.out.1; omega) (by have := LA.out.1; omega) S9.out.2.1.reads S9.out.2.1.reads (Nat.le_refl _)).mono ?_
          rintro e w11 ⟨rfl, hbl⟩
          have S11 := Lib.hid (stl_later hbl S9.out)
          clear hbl
          rw [dom_self]
          go_wp2_with fail
          go_meet
          exact ⟨rfl, S11.out⟩
      case false =>
        have HD := Lib.hid (show dom la lb = false from hd0)
        clear hd0
        go_wp2_with fail
        refine (spec_dom ua ub la lb w7.heap.size w7 S7.out.2.1.reads S7.out.2.2.reads (Nat.le_refl _)).mono ?_
        rintro e w8 ⟨rfl, hbl⟩
        have S8 := Lib.hid (stl_later hbl S7.out)
        clear hbl
        rw [HD.out]
        go_wp2_with fail
        refine (H4.out ua ua la la w8.heap.size w8 (by have := LA.out.1; omega) (by have := LA.out.1; omega) S8.out.2.1.reads S8.out.2.1.reads (Nat.le_refl _)).mono ?_
        rintro e w11 ⟨rfl, hbl⟩
        have S11 := Lib.hid (stl_later hbl S8.out)
        clear hbl
        rw [dom_self]
        go_wp2_with fail
        go_meet
        exact ⟨rfl, S11.out⟩
  case rest =>
  obtain ⟨rfl, S8⟩ := hcut
  have S8 := Lib.hid S8
  clear S7
  have hsz := back_size (l := la) (by have := LA.out.1; omega)
  have h6 := fun wx => H6.out ⟨(if isLoc la then locB la else []).toArray⟩ wx hsz
  rw [back, back_is, if_pos rfl] at h6
  have h5 := H5.out ua la wc.heap.size wc (by have := LA.out.1; omega) S8.out.2.1.reads (Nat.le_refl _)
  generalize (⟨(if isLoc la then locB la else []).toArray⟩ : ByteArray) = s0 at *
  have HP := Lib.hid h6
  have HF := Lib.hid h5
  clear h6 hsz H6 h5
  go_wp2_with fail
  refine HF.out.mono ?_
  rintro e w9 ⟨rfl, hbl⟩
  have S9 := Lib.hid (stl_later hbl S8.out)
  clear hbl S8
  go_wp2_with fail
  refine (HP.out w9).mono ?_
  rintro e w10 ⟨ux, rfl, hx, hbl⟩
  have S10 := Lib.hid (stl_later hbl S9.out)
  clear hbl S9 HP
  go_wp2_with fail
  refine (H7.out ua la w10.heap.size w10 (by have := LA.out.1; omega) LA.out.2.2.1 S10.out.2.1.reads (Nat.le_refl _)).mono ?_
  rintro e w11 ⟨us, rfl, hs, hbl⟩
  have S11 := Lib.hid (stl_later hbl S10.out)
  have X11 := Lib.hid (hx.later hbl)
  clear hbl S10 hx
  obtain ⟨aa, capa, rfl⟩ := own_len S11.out.2.1
  by_cases hl : isLoc la = true
  · rw [if_pos hl] at hs
    have hxx := X11.out
    rw [if_pos hl] at hxx
    have HX := Lib.hid hxx
    clear hxx
    obtain ⟨asz, caps, rfl⟩ := own_len hs
    rw [List.length_map]
    have HL := Lib.hid hl
    clear hs hl
    go_wp2_with fail
    refine (H8.out _ la w11.heap.size w11 (by have := LA.out.1; omega) S11.out.2.1.reads (Nat.le_refl _)).mono ?_
    rintro e w12 ⟨rfl, hbl⟩
    have S12 := Lib.hid (stl_later hbl S11.out)
    have X12 := Lib.hid (HX.out.later hbl)
    clear hbl
    rw [HL.out]
    go_wp2_with fail
    refine (spec_isloc _ la w12.heap.size w12 S12.out.2.1.reads).mono ?_
    rintro e w13 ⟨rfl, rfl⟩
    rw [HL.out]
    go_wp2_with fail
    refine (spec_isloc _ la w12.heap.size w12 S12.out.2.1.reads).mono ?_
    rintro e w13 ⟨rfl, rfl⟩
    rw [HL.out]
    go_wp2_with fail
    refine (same_ints ux _ la la w12.heap.size w12 X12.out.reads S12.out.2.1.reads (Nat.le_refl _)).mono ?_
    rintro e w13 ⟨rfl, hbl⟩
    rw [dec_same]
    have S13 := Lib.hid (stl_later hbl S12.out)
    clear hbl
    go_wp2_with fail
    go_ret
    exact ⟨ret_b (by simp), S13.out.1⟩
  · have hl : isLoc la = false := by simpa using hl
    have HL := Lib.hid hl
    clear hs hl X11
    go_wp2_with fail
    refine (H8.out _ la w11.heap.size w11 (by have := LA.out.1; omega) S11.out.2.1.reads (Nat.le_refl _)).mono ?_
    rintro e w12 ⟨rfl, hbl⟩
    have S12 := Lib.hid (stl_later hbl S11.out)
    clear hbl
    rw [HL.out]
    go_wp2_with fail
    refine (spec_isloc _ la w12.heap.size w12 S12.out.2.1.reads).mono ?_
    rintro e w13 ⟨rfl, rfl⟩
    rw [HL.out]
    go_wp2_with fail
    refine (spec_isloc _ la w12.heap.size w12 S12.out.2.1.reads).mono ?_
    rintro e w13 ⟨rfl, rfl⟩
    rw [HL.out]
    go_wp2_with fail
    go_ret
    exact ⟨ret_b (by simp), S12.out.1⟩
end Go.Proofs.Ythageciihhpmoaa.Classes
