/- The law on rationals: sums and products are undone, comparison agrees with subtraction, formats are read back. -/
import Derived.Test.YtkmhfgedbkkihaaDoorRatTo
import Derived.Test.YtkmhfgedbkkihaaDoorRatCmp
import Derived.Test.YtkmhfgedbkkihaaDoorRatParse
import Derived.Test.YtkmhfgedbkkihaaDoorRatDraw
import Derived.Test.YtkmhfgedbkkihaaDoorRatAlg
namespace Go.Proofs.YtkmhfgedbkkihaaDoor.RatWalk
open Go Go.RowKit Byt Ratio RatGcd RatMake RatOps RatTo RatCmp Format RatFmt RatSplit RatParse Draw RatDraw RatAlg

/-- The two drawn rationals lie in blocks A and A + 1. -/
def St (w : World) (A : Nat) (an ad bn bd : Int) (wx : World) : Prop :=
  Kept w wx ∧ wx.heap[A]? = some (.cells #[.int .i64 an, .int .i64 ad] 25 (0, 0)) ∧ wx.heap[A + 1]? = some (.cells #[.int .i64 bn, .int .i64 bd] 25 (0, 0))
/-- A rational lies in block C. -/
def Row (C : Nat) (n d : Int) (wx : World) : Prop := wx.heap[C]? = some (.cells #[.int .i64 n, .int .i64 d] 25 (0, 0))
theorem st_later {w wx w1 : World} {A : Nat} {an ad bn bd : Int} (hb : Below wx.heap.size wx w1) (h : St w A an ad bn bd wx) : St w A an ad bn bd w1 :=
  ⟨kept_later hb h.1, row_later hb h.2.1 (Array.getElem?_eq_some_iff.1 h.2.1).1, row_later hb h.2.2 (Array.getElem?_eq_some_iff.1 h.2.2).1⟩
theorem st_alloc {w wx : World} {A : Nat} {an ad bn bd : Int} (x : Obj) (h : St w A an ad bn bd wx) : St w A an ad bn bd (wx.alloc x) :=
  ⟨kept_alloc _ h.1, row_alloc _ h.2.1, row_alloc _ h.2.2⟩
theorem st_cells {w wx : World} {A : Nat} {an ad bn bd : Int} (h : St w A an ad bn bd wx) :
    wx.cell? ⟨A, 0, none⟩ = some (.int .i64 an) ∧ wx.cell? ⟨A, 1, none⟩ = some (.int .i64 ad) ∧ wx.cell? ⟨A + 1, 0, none⟩ = some (.int .i64 bn) ∧ wx.cell? ⟨A + 1, 1, none⟩ = some (.int .i64 bd) :=
  ⟨(row_cells h.2.1).1, (row_cells h.2.1).2.1, (row_cells h.2.2).1, (row_cells h.2.2).2.1⟩
theorem rowl {C : Nat} {n d : Int} {wx w1 : World} (hb : Below wx.heap.size wx w1) (h : Row C n d wx) : Row C n d w1 := row_later hb h (Array.getElem?_eq_some_iff.1 h).1
theorem rowa {C : Nat} {n d : Int} {wx : World} (x : Obj) (h : Row C n d wx) : Row C n d (wx.alloc x) := row_alloc _ h
theorem rown {n d : Int} (wx : World) : Row wx.heap.size n d (wx.alloc (.cells #[.int .i64 n, .int .i64 d] 25)) := alloc_at0 wx _
theorem rowc {C : Nat} {n d : Int} {wx : World} (h : Row C n d wx) : wx.cell? ⟨C, 0, none⟩ = some (.int .i64 n) ∧ wx.cell? ⟨C, 1, none⟩ = some (.int .i64 d) := ⟨(row_cells h).1, (row_cells h).2.1⟩

theorem fmt_len {n d : Int} (hn : -9223372036854775808 ≤ n ∧ n ≤ 9223372036854775807) (hd : -9223372036854775808 ≤ d ∧ d ≤ 9223372036854775807) : (⟨(rfmt n d).toArray⟩ : ByteArray).size ≤ 1048576 := by
  show (rfmt n d).toArray.size ≤ _
  have h1 := itoa_len hn
  have h2 := itoa_len hd
  unfold rfmt
  split
  · split <;> simp <;> omega
  · simp
theorem rp_back {n d : Int} {yn yd : Int} {read : Bool} (h : RParsed (⟨(rfmt n d).toArray⟩ : ByteArray).data.toList yn yd read) :
    (read = true → valid n d = true ∧ yn = n ∧ yd = d) ∧ (read = false → valid n d = false) := by
  have h : RParsed (rfmt n d) yn yd read := h
  rcases h with ⟨rfl, hv, hl⟩ | ⟨rfl, _, _, hno⟩
  · refine ⟨fun _ => ?_, fun h => by cases h⟩
    cases hvn : valid n d
    · rw [rfmt_no hvn] at hl
      exact absurd hl.symm (rfmt_ne hv)
    · obtain ⟨e1, e2⟩ := rfmt_inj hvn hv hl
      exact ⟨rfl, e1.symm, e2.symm⟩
  · refine ⟨(fun h => by cases h), fun _ => ?_⟩
    cases hvn : valid n d
    · rfl
    · exact absurd ⟨n, d, hvn, rfl⟩ hno
theorem reads_mono {w : World} {v : Value} {l : List UInt8} {B B' : Nat} (h : Reads w v l B) (hB : B ≤ B') : Reads w v l B' := by
  obtain ⟨a, cap, h1, h2, h3⟩ := h
  refine ⟨a, cap, h1, h2, h3.imp id ?_⟩
  rintro ⟨b, off, e, hb, hc⟩
  exact ⟨b, off, e, by omega, hc⟩

set_option maxRecDepth 100000 in
set_option maxHeartbeats 4000000 in
theorem walk (v : Value) (l : List UInt8) (w : World) (hr : Reads w v l w.heap.size) (hrd : Ready w) :
    Calls Tryd.prog 3 #[v] w fun e w' => e = .returned (.bool true) ∧ Below w.heap.size w w' := by
  by_cases hbig : 1048576 < l.length
  · go_enter Tryd.func3, Tryd.ntmps3
    go_wp2_with fail
    refine (big_any v l w.heap.size w hr).mono ?_
    rintro e w1 ⟨rfl, rfl⟩
    rw [decide_eq_true hbig]
    go_wp2_with fail
    go_ret
    exact ⟨rfl, Below.refl _ _⟩
  have HRD := Lib.hid (fun wx (k : Kept w wx) => ready_later k hrd)
  have HR := Lib.hid (fun wx (k : Kept w wx) => hr.later (B := w.heap.size) k)
  go_enter Tryd.func3, Tryd.ntmps3
  go_wp2_with fail
  refine (big_any v l w.heap.size w hr).mono ?_
  rintro e w0 ⟨rfl, rfl⟩
  rw [decide_eq_false hbig]
  go_wp2_with fail
  refine (draw_pair v l w.heap.size w hr (Nat.le_refl _)).mono ?_
  rintro e w1 ⟨an, ad, bn, bd, rfl, ha1, ha2, hb1, hb2, hbel⟩
  have K1 := Lib.hid (show Kept w w1 from hbel)
  have S1 := Lib.hid (show St w w1.heap.size an ad bn bd ((w1.alloc (.cells #[.int .i64 an, .int .i64 ad] 25)).alloc (.cells #[.int .i64 bn, .int .i64 bd] 25)) from ⟨kept_alloc _ (kept_alloc _ hbel), alloc_at1 _ _ _, alloc_at2 _ _ _⟩)
  have hadd := fun wx => impl_add an ad bn bd wx ha1 ha2 hb1 hb2
  have hsub := fun wx => impl_sub an ad bn bd wx ha1 ha2 hb1 hb2
  have hmul := fun wx => impl_mul an ad bn bd wx ha1 ha2 hb1 hb2
  have hcmp := fun wx => impl_cmp an ad bn bd wx ha1 ha2 hb1 hb2
  have hfmt := fun wx (k : Kept w wx) => impl_fmt an ad wx ha1 ha2 (HRD.out wx k).1
  have hval := fun wx => impl_valid an ad wx ha1 ha2
  have hcei := fun wx => impl_ceil an ad wx ha1 ha2
  have t1 := op_true (b := valid an ad && valid bn bd) (N := an * bd + bn * ad) (D := ad * bd)
  have f1 := op_false (b := valid an ad && valid bn bd) (N := an * bd + bn * ad) (D := ad * bd)
  have t2 := op_true (b := valid an ad && valid bn bd) (N := an * bn) (D := ad * bd)
  have hb1' := op_bounds (valid an ad && valid bn bd) (an * bd + bn * ad) (ad * bd)
  have hb2' := op_bounds (valid an ad && valid bn bd) (an * bn) (ad * bd)
  generalize opN (valid an ad && valid bn bd) (an * bd + bn * ad) (ad * bd) = sn at *
  generalize opD (valid an ad && valid bn bd) (an * bd + bn * ad) (ad * bd) = sd at *
  generalize opOk (valid an ad && valid bn bd) (an * bd + bn * ad) (ad * bd) = one at *
  generalize opN (valid an ad && valid bn bd) (an * bn) (ad * bd) = pn at *
  generalize opD (valid an ad && valid bn bd) (an * bn) (ad * bd) = pd at *
  generalize opOk (valid an ad && valid bn bd) (an * bn) (ad * bd) = three at *
  have HADD := Lib.hid hadd
  have HSUB := Lib.hid hsub
  have HMUL := Lib.hid hmul
  have HCMP := Lib.hid hcmp
  have HFMT := Lib.hid hfmt
  have HVAL := Lib.hid hval
  have HCEI := Lib.hid hcei
  have T1 := Lib.hid (And.intro t1 f1)
  have T2 := Lib.hid t2
  have HSB := Lib.hid (fun wx => impl_sub sn sd bn bd wx ⟨by omega, by omega⟩ ⟨by omega, by omega⟩ hb1 hb2)
  have HDV := Lib.hid (fun wx => impl_div pn pd bn bd wx ⟨by omega, by omega⟩ ⟨by omega, by omega⟩ hb1 hb2)
  clear hadd hsub hmul hcmp hfmt hval hcei t1 t2 f1 hb1' hb2' hbel hr hrd
  have BA := Lib.hid ha1
  have BB := Lib.hid ha2
  clear ha1 ha2 hb1 hb2 hbig
  generalize hA : w1.heap.size = A at *
  go_wp2_with fail
  refine (HADD.out _).mono ?_
  rintro e w2 ⟨rfl, hbl⟩
  have S3 := Lib.hid (st_alloc (.cells #[.int .i64 sn, .int .i64 sd] 25) (st_later hbl S1.out))
  have R3 := Lib.hid (rown (n := sn) (d := sd) w2)
  clear hbl K1 S1 HADD
  go_upto_region 5 with fail
  generalize hC : w2.heap.size = C at *
  generalize w2.alloc (.cells #[.int .i64 sn, .int .i64 sd] 25) = W3 at *
  clear hC
  go_cut [50] (fun s50 wx => s50 = .bool false ∧ St w A an ad bn bd wx ∧ Row C sn sd wx)
  case first =>
    as_aux_lemma =>
      obtain ⟨c0, c1⟩ := rowc R3.out
      cases one
      · obtain ⟨e1, e2⟩ := T1.out.2 rfl
        have hvs : valid sn sd = false := by rw [e1, e2]; exact zero_invalid 0
        have HV := Lib.hid hvs
        clear e1 e2 hvs
        go_wp2_with fail
        refine (spec_valid sn sd _).mono ?_
        rintro e w4 ⟨rfl, hbl⟩
        rw [HV.out]
        have S4 := Lib.hid (st_later hbl S3.out)
        have R4 := Lib.hid (rowl hbl R3.out)
        clear hbl
        go_wp2_with fail
        go_meet
        exact ⟨rfl, S4.out, R4.out⟩
      · obtain ⟨hb, hvs, _, _⟩ := T1.out.1 rfl
        obtain ⟨hva, hvb⟩ := Bool.and_eq_true_iff.1 hb
        have HV := Lib.hid (And.intro hvs (And.intro hva hvb))
        clear hb hvs hva hvb
        go_wp2_with fail
        refine (spec_valid sn sd _).mono ?_
        rintro e w4 ⟨rfl, hbl⟩
        rw [HV.out.1]
        have S4 := Lib.hid (st_later hbl S3.out)
        have R4 := Lib.hid (rowl hbl R3.out)
        obtain ⟨a0, a1, _, _⟩ := st_cells S4.out
        clear hbl
        go_wp2_with fail
        refine (spec_valid an ad _).mono ?_
        rintro e w5 ⟨rfl, hbl⟩
        rw [HV.out.2.1]
        have S5 := Lib.hid (st_later hbl S4.out)
        have R5 := Lib.hid (rowl hbl R4.out)
        obtain ⟨_, _, b0, b1⟩ := st_cells S5.out
        clear hbl
        go_wp2_with fail
        refine (spec_valid bn bd _).mono ?_
        rintro e w6 ⟨rfl, hbl⟩
        rw [HV.out.2.2]
        have S6 := Lib.hid (st_later hbl S5.out)
        have R6 := Lib.hid (rowl hbl R5.out)
        clear hbl
        go_wp2_with fail
        go_meet
        exact ⟨rfl, S6.out, R6.out⟩
  case rest =>
  obtain ⟨rfl, S4, R4⟩ := hcut
  have S4 := Lib.hid S4
  have R4 := Lib.hid R4
  clear S3 R3
  go_upto_if 51 with fail
  go_cut [] (fun wx => St w A an ad bn bd wx)
  case first =>
    as_aux_lemma =>
      cases one
      · go_wp2_with fail
        go_meet
        exact S4.out
      · obtain ⟨hb, hvs, heq, _⟩ := T1.out.1 rfl
        obtain ⟨hva, hvb⟩ := Bool.and_eq_true_iff.1 hb
        have hbk := back (b := valid sn sd && valid bn bd) hva (RatAlg.sub_back heq)
        have hsb := HSB.out
        clear hb hvs heq hva hvb
        obtain ⟨c0, c1⟩ := rowc R4.out
        obtain ⟨_, _, b0, b1⟩ := st_cells S4.out
        generalize opN (valid sn sd && valid bn bd) (sn * bd - bn * sd) (sd * bd) = dn at *
        generalize opD (valid sn sd && valid bn bd) (sn * bd - bn * sd) (sd * bd) = dd at *
        generalize opOk (valid sn sd && valid bn bd) (sn * bd - bn * sd) (sd * bd) = two at *
        have HX := Lib.hid hsb
        clear hsb
        cases two
        · clear hbk
          go_wp2_with fail
          refine (HX.out _).mono ?_
          rintro e w5 ⟨rfl, hbl⟩
          have S5 := Lib.hid (st_alloc (.cells #[.int .i64 dn, .int .i64 dd] 25) (st_later hbl S4.out))
          clear hbl
          go_wp2_with fail
          go_meet
          exact S5.out
        · obtain ⟨rfl, rfl⟩ := hbk rfl
          go_wp2_with fail
          refine (HX.out _).mono ?_
          rintro e w5 ⟨rfl, hbl⟩
          have S5 := Lib.hid (st_alloc (.cells #[.int .i64 dn, .int .i64 dd] 25) (st_later hbl S4.out))
          obtain ⟨a0, a1, _, _⟩ := st_cells S5.out
          clear hbl
          go_wp2_with fail
          go_meet
          exact S5.out
  case rest =>
  have S5 := Lib.hid hcut
  clear hcut S4 R4 T1 HSB
  obtain ⟨a0, a1, b0, b1⟩ := st_cells S5.out
  go_wp2_with fail
  refine (HMUL.out _).mono ?_
  rintro e w5 ⟨rfl, hbl⟩
  have S6 := Lib.hid (st_alloc (.cells #[.int .i64 pn, .int .i64 pd] 25) (st_later hbl S5.out))
  have R6 := Lib.hid (rown (n := pn) (d := pd) w5)
  clear hbl S5 a0 a1 b0 b1 HMUL
  go_upto_region 12 with fail
  generalize hD : w5.heap.size = D at *
  generalize w5.alloc (.cells #[.int .i64 pn, .int .i64 pd] 25) = W6 at *
  clear hD
  obtain ⟨q, hq⟩ : ∃ q, q = (three && (bn != 0)) := ⟨_, rfl⟩
  go_cut [75] (fun s75 wx => s75 = .bool q ∧ St w A an ad bn bd wx ∧ Row D pn pd wx)
  case first =>
    as_aux_lemma =>
      obtain ⟨_, _, b0, b1⟩ := st_cells S6.out
      cases three
      · have hq2 : q = false := hq
        clear hq
        subst hq2
        go_wp2_with fail
        go_meet
        exact ⟨rfl, S6.out, R6.out⟩
      · have hq2 : q = (bn != 0) := hq
        clear hq
        subst hq2
        go_wp2_with fail
        go_meet
        exact ⟨rfl, S6.out, R6.out⟩
  case rest =>
  obtain ⟨rfl, S7, R7⟩ := hcut
  have S7 := Lib.hid S7
  have R7 := Lib.hid R7
  clear S6 R6
  go_upto_if 75 with fail
  go_cut [] (fun wx => St w A an ad bn bd wx)
  case first =>
    as_aux_lemma =>
      cases q
      · go_wp2_with fail
        go_meet
        exact S7.out
      · obtain ⟨h3, _⟩ := Bool.and_eq_true_iff.1 hq.symm
        obtain ⟨hb, _, heq, _⟩ := T2.out h3
        obtain ⟨hva, _⟩ := Bool.and_eq_true_iff.1 hb
        have hbk := back (b := valid pn pd && valid bn bd) hva (RatAlg.div_back heq)
        have hsb := HDV.out
        clear hb heq hva h3 hq
        obtain ⟨c0, c1⟩ := rowc R7.out
        obtain ⟨_, _, b0, b1⟩ := st_cells S7.out
        generalize opN (valid pn pd && valid bn bd) (pn * bd) (pd * bn) = dn at *
        generalize opD (valid pn pd && valid bn bd) (pn * bd) (pd * bn) = dd at *
        generalize opOk (valid pn pd && valid bn bd) (pn * bd) (pd * bn) = two at *
        have HX := Lib.hid hsb
        clear hsb
        cases two
        · clear hbk
          go_wp2_with fail
          refine (HX.out _).mono ?_
          rintro e w8 ⟨rfl, hbl⟩
          have S8 := Lib.hid (st_alloc (.cells #[.int .i64 dn, .int .i64 dd] 25) (st_later hbl S7.out))
          clear hbl
          go_wp2_with fail
          go_meet
          exact S8.out
        · obtain ⟨rfl, rfl⟩ := hbk rfl
          go_wp2_with fail
          refine (HX.out _).mono ?_
          rintro e w8 ⟨rfl, hbl⟩
          have S8 := Lib.hid (st_alloc (.cells #[.int .i64 dn, .int .i64 dd] 25) (st_later hbl S7.out))
          obtain ⟨a0, a1, _, _⟩ := st_cells S8.out
          clear hbl
          go_wp2_with fail
          go_meet
          exact S8.out
  case rest =>
  have S8 := Lib.hid hcut
  clear hcut S7 R7 T2 HDV hq
  obtain ⟨a0, a1, b0, b1⟩ := st_cells S8.out
  have hxs := HSUB.out
  have hcs := RatAlg.cmp_sub (an := an) (ad := ad) (bn := bn) (bd := bd)
  have hcp := HCMP.out
  have hsc := fun wx => spec_cmp an ad bn bd wx
  clear HSUB HCMP
  generalize opN (valid an ad && valid bn bd) (an * bd - bn * ad) (ad * bd) = xn at *
  generalize opD (valid an ad && valid bn bd) (an * bd - bn * ad) (ad * bd) = xd at *
  generalize opOk (valid an ad && valid bn bd) (an * bd - bn * ad) (ad * bd) = fine at *
  generalize Ratio.cmp an ad bn bd = cc at *
  have HXS := Lib.hid hxs
  have HCP := Lib.hid hcp
  have HSC := Lib.hid hsc
  have HCS := Lib.hid hcs
  clear hxs hcp hsc hcs
  go_wp2_with fail
  refine (HXS.out _).mono ?_
  rintro e w8 ⟨rfl, hbl⟩
  have S9 := Lib.hid (st_alloc (.cells #[.int .i64 xn, .int .i64 xd] 25) (st_later hbl S8.out))
  have R9 := Lib.hid (rown (n := xn) (d := xd) w8)
  clear hbl S8 a0 a1 b0 b1
  obtain ⟨a0, a1, b0, b1⟩ := st_cells S9.out
  go_wp2_with fail
  refine (HCP.out _).mono ?_
  rintro e w9 ⟨rfl, hbl⟩
  have S10 := Lib.hid (st_later hbl S9.out)
  have R10 := Lib.hid (rowl hbl R9.out)
  clear hbl S9 R9 a0 a1 b0 b1
  obtain ⟨a0, a1, b0, b1⟩ := st_cells S10.out
  go_upto_region 18 with fail
  generalize w8.heap.size = E at *
  go_cut [123] (fun s123 wx => s123 = .bool false ∧ St w A an ad bn bd wx)
  case first =>
    as_aux_lemma =>
      cases fine
      · go_wp2_with fail
        refine (HSC.out _).mono ?_
        rintro e w11 ⟨rfl, hbl⟩
        have S11 := Lib.hid (st_later hbl S10.out)
        clear hbl
        go_wp2_with fail
        go_meet
        exact ⟨rfl, S11.out⟩
      · have hcs : (xn < 0 ∧ ¬ 0 < xn ∧ cc = -1) ∨ (¬ xn < 0 ∧ ¬ 0 < xn ∧ cc = 0) ∨ (¬ xn < 0 ∧ 0 < xn ∧ cc = 1) := by
          rcases HCS.out rfl with ⟨hx, hc⟩ | ⟨hx, hc⟩ | ⟨hx, hc⟩
          · exact .inl ⟨hx, by omega, hc⟩
          · exact .inr (.inl ⟨by omega, by omega, hc⟩)
          · exact .inr (.inr ⟨by omega, hx, hc⟩)
        rcases hcs with ⟨hx, hx2, hc⟩ | ⟨hx, hx2, hc⟩ | ⟨hx, hx2, hc⟩ <;> subst hc
        all_goals
          go_wp2_with fail
          refine (HSC.out _).mono ?_
          rintro e w11 ⟨rfl, hbl⟩
          have S11 := Lib.hid (st_later hbl S10.out)
          obtain ⟨e0, e1⟩ := rowc (rowl hbl R10.out)
          clear hbl
          go_wp2_with fail
          go_meet
          exact ⟨by congr 1; simp; omega, S11.out⟩
  case rest =>
  obtain ⟨rfl, S11⟩ := hcut
  have S11 := Lib.hid S11
  clear S10 R10 a0 a1 b0 b1 HCS HXS HCP HSC
  obtain ⟨a0, a1, b0, b1⟩ := st_cells S11.out
  go_wp2_with fail
  refine (HFMT.out _ S11.out.1).mono ?_
  rintro e w12 ⟨rfl, hbl⟩
  have S12 := Lib.hid (st_later hbl S11.out)
  clear hbl S11 a0 a1 b0 b1 HFMT
  have hpz := fmt_len (n := an) (d := ad) BA.out BB.out
  have HPA := Lib.hid (fun wx (k : Kept w wx) => impl_parse ⟨(rfmt an ad).toArray⟩ wx hpz (HRD.out wx k))
  clear hpz
  go_wp2_with fail
  refine (HPA.out _ S12.out.1).mono ?_
  rintro e w13 ⟨yn, yd, read, rfl, hp, hbl⟩
  have S13 := Lib.hid (st_alloc (.cells #[.int .i64 yn, .int .i64 yd] 25) (st_later hbl S12.out))
  have R13 := Lib.hid (rown (n := yn) (d := yd) w13)
  have HB := Lib.hid (rp_back hp)
  clear hbl S12 HPA hp
  obtain ⟨a0, a1, b0, b1⟩ := st_cells S13.out
  go_upto_region 22 with fail
  generalize hG : w13.heap.size = G at *
  generalize w13.alloc (.cells #[.int .i64 yn, .int .i64 yd] 25) = W13 at *
  clear hG
  go_cut [142] (fun s142 wx => s142 = .bool false ∧ St w A an ad bn bd wx)
  case first =>
    as_aux_lemma =>
      cases read
      · have hv := HB.out.2 rfl
        have HV := Lib.hid hv
        clear hv
        go_wp2_with fail
        refine (HVAL.out _).mono ?_
        rintro e w14 ⟨rfl, hbl⟩
        rw [HV.out]
        have S14 := Lib.hid (st_later hbl S13.out)
        clear hbl
        go_wp2_with fail
        go_meet
        exact ⟨rfl, S14.out⟩
      · obtain ⟨hv, rfl, rfl⟩ := HB.out.1 rfl
        have HV := Lib.hid hv
        clear hv
        go_wp2_with fail
        refine (HVAL.out _).mono ?_
        rintro e w14 ⟨rfl, hbl⟩
        rw [HV.out]
        have S14 := Lib.hid (st_later hbl S13.out)
        obtain ⟨y0, y1⟩ := rowc (rowl hbl R13.out)
        clear a0 a1 b0 b1
        obtain ⟨a0, a1, b0, b1⟩ := st_cells S14.out
        clear hbl
        go_wp2_with fail
        go_meet
        exact ⟨rfl, S14.out⟩
  case rest =>
  obtain ⟨rfl, S14⟩ := hcut
  have S14 := Lib.hid S14
  clear S13 R13 a0 a1 b0 b1 HVAL
  obtain ⟨a0, a1, b0, b1⟩ := st_cells S14.out
  have hce := ceil_is (n := an) (d := ad)
  have hci := HCEI.out
  clear HCEI
  generalize Ratio.ceil an ad = cl at *
  have HCE := Lib.hid hce
  have HCI := Lib.hid hci
  clear hce hci
  go_wp2_with fail
  refine (HCI.out _).mono ?_
  rintro e w15 ⟨rfl, hbl⟩
  have S15 := Lib.hid (st_later hbl S14.out)
  clear hbl S14 a0 a1 b0 b1 HCI
  go_wp2_with fail
  refine (draw_make v l w15.heap.size w15 (reads_mono (HR.out w15 S15.out.1) S15.out.1.size) (Nat.le_refl _)).mono ?_
  rintro e w16 ⟨zn, zd, rfl, hz1, hz2, hbl⟩
  have S16 := Lib.hid (st_later hbl S15.out)
  clear hbl S15
  have hm1 := fun wx => impl_make zn zd wx hz1 hz2
  have hm2 := fun wx => spec_make zn zd wx hz1 hz2
  generalize mkN zn zd = mn at *
  generalize mkD zn zd = md at *
  generalize mkOk zn zd = mo at *
  have HM1 := Lib.hid hm1
  have HM2 := Lib.hid hm2
  clear hm1 hm2 hz1 hz2
  go_wp2_with fail
  refine (HM1.out _).mono ?_
  rintro e w17 ⟨rfl, hbl⟩
  have S17 := Lib.hid (st_alloc (.cells #[.int .i64 mn, .int .i64 md] 25) (st_later hbl S16.out))
  have R17 := Lib.hid (rown (n := mn) (d := md) w17)
  clear hbl S16 HM1
  go_wp2_with fail
  refine (HM2.out _).mono ?_
  rintro e w18 ⟨rfl, hbl⟩
  have S18 := Lib.hid (st_alloc (.cells #[.int .i64 mn, .int .i64 md] 25) (st_later hbl S17.out))
  have R18 := Lib.hid (rowa (.cells #[.int .i64 mn, .int .i64 md] 25) (rowl hbl R17.out))
  clear hbl S17 R17 HM2
  obtain ⟨a0, a1, b0, b1⟩ := st_cells S18.out
  obtain ⟨m0, m1⟩ := rowc R18.out
  cases read
  · go_wp2_with fail
    go_ret
    exact ⟨ret_bool (by simp), S18.out.1⟩
  · obtain ⟨hv, _⟩ := HB.out.1 rfl
    obtain ⟨k1, k2, k3, k4⟩ := HCE.out hv
    obtain ⟨⟨v1, v2⟩, ⟨v3, v4⟩, _⟩ := RatOps.bd hv
    have e1 : (cl - 1) * ad = cl * ad - ad := by rw [Int.sub_mul]; omega
    have k5 : cl * ad < an + ad := by omega
    have k6 : (cl - 1) * ad ≤ 2147483647 := by omega
    have k7 : -4294967296 ≤ (cl - 1) * ad := by omega
    have g1 : decide (an ≤ cl * ad) = true := decide_eq_true k1
    have g2 : decide ((cl - 1) * ad < an) = true := decide_eq_true k2
    clear e1 hv
    go_wp2_with fail
    go_ret
    exact ⟨ret_bool (by simp), S18.out.1⟩
end Go.Proofs.YtkmhfgedbkkihaaDoor.RatWalk
