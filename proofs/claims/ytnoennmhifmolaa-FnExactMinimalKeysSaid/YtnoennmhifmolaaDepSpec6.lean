/- Dependencies: the model's minimal keys. -/
import Derived.Test.YtnoennmhifmolaaDepSpec5
namespace Go.Proofs.Ytnoennmhifmolaa.DepClo
open Go Go.RowKit Byt Ints IntsLaw Cd Rows2 Tab SlMath TabSpec Exact Dep MkDep QryMath DepMath
open DegMath (colsOk gcOk)

def partB (f : Nat → Bool) (m j : Nat) : Bool := (List.range j).all fun k => !m.testBit k || !f (m - 2 ^ k)
def apartB (K : List Nat) (m : Nat) : Bool := K.all fun x => decide (x &&& m ≠ x)
theorem partB_next (f : Nat → Bool) (m j : Nat) : partB f m (j + 1) = (partB f m j && (!m.testBit j || !f (m - 2 ^ j))) := by
  unfold partB
  rw [List.range_succ, List.all_append]
  simp
theorem apartB_next {K : List Nat} {m j : Nat} (h : j < K.length) : apartB (K.take (j + 1)) m = (apartB (K.take j) m && decide (K[j] &&& m ≠ K[j])) := by
  unfold apartB
  rw [List.take_succ_eq_append_getElem h, List.all_append]
  simp
theorem min_final {f : Nat → Bool} (hf : Mono f) {a m : Nat} (ha : a < 4) (hm : m < 2 ^ a) : ((f m && apartB (minTo f m) m) && partB f m a) = minB f m := by
  have h8 : m < 8 := by have := pow_ar0 a ha; omega
  have e : (f m && partB f m a) = minB f m := by
    rw [Bool.eq_iff_iff, minB_iff]
    unfold partB
    rw [Bool.and_eq_true, List.all_eq_true]
    constructor
    · rintro ⟨h1, h2⟩
      refine ⟨h1, fun k hk hb => ?_⟩
      have := h2 k (List.mem_range.2 (bits_below0 a ha m hm k hk hb))
      rw [hb] at this
      simpa using this
    · rintro ⟨h1, h2⟩
      refine ⟨h1, fun k hk => ?_⟩
      have hka := List.mem_range.1 hk
      cases hb : m.testBit k
      · rfl
      · rw [h2 k (by omega) hb]; rfl
  cases hb : minB f m
  · rw [hb] at e
    rw [show ((f m && apartB (minTo f m) m) && partB f m a) = ((f m && partB f m a) && apartB (minTo f m) m) by cases f m <;> cases apartB (minTo f m) m <;> cases partB f m a <;> rfl, e]
    rfl
  · rw [hb] at e
    have h1 : apartB (minTo f m) m = true := by
      unfold apartB
      rw [List.all_eq_true]
      exact fun i hi => decide_eq_true (min_spec hf h8 hb i hi)
    rw [show ((f m && apartB (minTo f m) m) && partB f m a) = ((f m && partB f m a) && apartB (minTo f m) m) by cases f m <;> cases apartB (minTo f m) m <;> cases partB f m a <;> rfl, e, h1]
    rfl
/-- Where the search stands: what it has found, as columns and as bits. -/
structure MinSt (w wx : World) (nm : ByteArray) (ar : Int) (V : Value) (O : List (List Int)) (K : List Int) (o kn : Value) (fo fk : List Nat) : Prop where
  out : rowsC.ow wx w.heap.size [o] O fo
  ond : fo.Nodup
  kno : rowC.ow wx w.heap.size [kn] K fk
  knd : fk.Nodup
  dis : ∀ b ∈ fo, b ∉ fk
  box : Loc3 wx w.heap.size (.string nm) (.int .i64 ar) V
  bo : w.heap.size ∉ fo
  bk : w.heap.size ∉ fk
  blw : Below w.heap.size w wx
theorem MinSt.later {w wx wy : World} {nm : ByteArray} {ar : Int} {V : Value} {O : List (List Int)} {K : List Int} {o kn : Value} {fo fk : List Nat} (h : MinSt w wx nm ar V O K o kn fo fk) (hb : Below wx.heap.size wx wy) : MinSt w wy nm ar V O K o kn fo fk :=
  ⟨Cd.ow_later h.out hb, h.ond, Cd.ow_later h.kno hb, h.knd, h.dis, h.box.later hb, h.bo, h.bk, below_then h.blw hb⟩
theorem MinSt.pushO {w wx w3 : World} {nm : ByteArray} {ar : Int} {V : Value} {O O3 : List (List Int)} {K : List Int} {o kn o3 : Value} {fo fk f3 fx : List Nat} (h : MinSt w wx nm ar V O K o kn fo fk) (ho : rowsC.ow w3 w.heap.size [o3] O3 f3) (hn : f3.Nodup)
    (hs : ∀ b ∈ f3, b ∈ fo ∨ b ∈ fx ∨ wx.heap.size ≤ b) (hx : ∀ b ∈ fx, b ∉ fk ∧ b ≠ w.heap.size) (ht : Cd.Touch fo wx w3) : MinSt w w3 nm ar V O3 K o3 kn f3 fk :=
  ⟨ho, hn, Cd.ow_touched h.kno ht (fun b hb q => h.dis b q hb), h.knd, fun b hb q => by
    rcases hs b hb with p | p | p
    · exact h.dis b p q
    · exact (hx b p).1 q
    · have := (rowC.ow_lt h.kno b q).2; omega, h.box.touched ht h.bo, fun q => by
    rcases hs _ q with p | p | p
    · exact h.bo p
    · exact (hx _ p).2 rfl
    · have := h.box.lt; omega, h.bk, Cd.Touch.below h.blw ht fun b hb => (rowsC.ow_lt h.out b hb).1⟩
theorem MinSt.pushK {w wx w3 : World} {nm : ByteArray} {ar : Int} {V : Value} {O : List (List Int)} {K K3 : List Int} {o kn k3 : Value} {fo fk f3 : List Nat} (h : MinSt w wx nm ar V O K o kn fo fk) (ho : rowC.ow w3 w.heap.size [k3] K3 f3) (hn : f3.Nodup)
    (hs : ∀ b ∈ f3, b ∈ fk ∨ wx.heap.size ≤ b) (ht : Cd.Touch fk wx w3) : MinSt w w3 nm ar V O K3 o k3 fo f3 :=
  ⟨Cd.ow_touched h.out ht h.dis, h.ond, ho, hn, fun b hb q => by
    rcases hs b q with p | p
    · exact h.dis b hb p
    · have := (rowsC.ow_lt h.out b hb).2; omega, h.box.touched ht h.bk, h.bo, fun q => by
    rcases hs _ q with p | p
    · exact h.bk p
    · have := h.box.lt; omega, Cd.Touch.below h.blw ht fun b hb => (rowC.ow_lt h.kno b hb).1⟩
theorem wrap_sub8 {m p : Nat} (h : p ≤ m) (h8 : m < 8) : IntKind.i64.wrap ((m : Int) - (p : Int)) = ((m - p : Nat) : Int) := by
  rw [IntKind.wrap_i64]
  omega
theorem vars_len0 : ∀ m < 8, (varsL m).length ≤ 3 := by decide
theorem ri_dn6 {w : World} {v : Value} {l : List Int} {B : Nat} (h : RI w v l B) (q : Nat) : RI (w.drewN q) v l B := h
set_option maxRecDepth 100000 in
set_option maxHeartbeats 6400000 in
theorem spec_min (v u : Value) (l : List D3) (nm : ByteArray) (ar : Int) (rows : List (List Int)) (S S2 : Nat → Prop) (w : World) (h1 : depsC.rd w S [v] l) (h2 : rowsC.rd w S2 [u] rows) :
    Calls Try.prog 41 #[v, .agg #[.string nm, .int .i64 ar, u]] w fun e w' => ∃ v' fp, e = .returned v' ∧ rowsC.ow w' w.heap.size [v'] (minL l nm ar rows) fp ∧ fp.Nodup ∧ Below w.heap.size w w' := by
  have HIK := Lib.hid (fun w' (hb : Below w.heap.size w w') vc cols S3 (h3 : rowC.rd w' S3 [vc] cols) => spec_iskey v u vc l nm ar rows cols S S2 S3 w' (Cd.later h1 hb) (Cd.later h2 hb) h3)
  have HVT := Lib.hid (fun w' (hb : Below w.heap.size w w') => TabSpec.spec_valid nm ar u rows S2 w' (Cd.later h2 hb))
  obtain ⟨a1, cap1, rfl, hl1⟩ := Cd.sl_form h1
  obtain ⟨a2, cap2, rfl, hl2⟩ := rows_form h2
  have HOE := Lib.hid (fun (w' : World) (h : w.heap.size ≤ w'.heap.size) => Cd.ow_empty (e := 25) (c := rowC) w' w.heap.size h)
  have HOE2 := Lib.hid (fun (w' : World) (h : w.heap.size ≤ w'.heap.size) => Cd.ow_empty (e := 3) (c := Cd.int) w' w.heap.size h)
  clear h1 h2
  go_enter Try.func41, Try.ntmps41
  go_wp2_with fail
  generalize hA : w.alloc _ = A
  obtain ⟨r0, hA1, hbA⟩ := start1 w _ hA
  have hv1 := HOE.out A hbA.size
  rw [hA1] at hv1
  generalize hB : A.alloc _ = B at *
  have hbB := below_alloc A (.cells #[] 25)
  have hB1 := size_alloc A (.cells #[] 25)
  rw [hB] at hbB hB1
  have hbAB := below_then hbA hbB
  have hn1 := HOE2.out B hbAB.size
  rw [hB1, hA1] at hn1
  have hbC := below_alloc B (.cells #[] 3)
  have hv2 := Cd.ow_later hv1 hbC
  have hL := Loc3.later (Loc3.later (Loc3.of r0) hbB) hbC
  have HBC := Lib.hid (below_then hbAB hbC)
  have HSZ := Lib.hid (show (B.alloc (.cells #[] 3)).heap.size = w.heap.size + 3 by rw [size_alloc]; omega)
  generalize hW : B.alloc _ = W at *
  have HV1 := Lib.hid hv2
  have HN1 := Lib.hid hn1
  have HL := Lib.hid hL
  clear hA hB hW hv1 hv2 hn1 hL r0 hbA hbB hbC hbAB HOE HOE2
  simp only [hA1, hB1] at *
  obtain ⟨d0, d1, d2, _, _, _⟩ := HL.out
  have HCC := Lib.hid (HVT.out W HBC.out)
  cases hok : tabOk nm ar rows
  · have HE1 := Lib.hid (show minL l nm ar rows = [] by unfold minL; rw [if_neg (by rw [hok]; decide)])
    rw [hok] at HCC
    clear hok hA1 hB1
    refine HCC.out.mono ?_
    rintro e w1 ⟨rfl, hb1⟩
    have HB1 := Lib.hid (below_then HBC.out hb1)
    have HX1 := Lib.hid (Cd.ow_later HV1.out hb1)
    clear hb1
    go_wp2_with fail
    go_ret
    exact ⟨_, [w.heap.size + 1], rfl, by rw [HE1.out]; exact HX1.out, by simp, HB1.out⟩
  have hT : TabP _ _ _ := of_decide_eq_true hok
  obtain ⟨a, rfl⟩ := Int.eq_ofNat_of_zero_le (show 0 ≤ ar by have := hT.2.1; omega)
  have ha3 : a < 4 := by have := hT.2.2.1; omega
  have HE1 := Lib.hid (show minL l nm (a : Int) rows = (minTo (keyM l nm (a : Int)) (2 ^ a)).map varsL by unfold minL; rw [if_pos hok, Int.toNat_natCast])
  have HMO := Lib.hid (keyM_mono l nm (a : Int))
  have HKY := Lib.hid (fun m (hm : m < 2 ^ a) => keyOk_vars (l := l) (nm := nm) hok (by omega) (by omega) (m := m) (by rw [Int.toNat_natCast]; exact hm))
  have hp8 := pow_ar0 a ha3
  have hpa := (pow_lenD (k := a) (by omega)).1
  have HCA := Lib.hid (pow_castD a)
  rw [hok] at HCC
  clear hok hA1 hB1 hT
  generalize keyM l nm (a : Int) = f at *
  refine HCC.out.mono ?_
  rintro e w1 ⟨rfl, hb1⟩
  have HST := Lib.hid (show MinSt w w1 nm (a : Int) (.slice a2 rows.length cap2) [] [] (.slice (some ⟨w.heap.size + 1, 0, none⟩) 0 0) (.slice (some ⟨w.heap.size + 2, 0, none⟩) 0 0) [w.heap.size + 1] [w.heap.size + 2] from
    ⟨Cd.ow_later HV1.out hb1, by simp, Cd.ow_later HN1.out hb1, by simp, by simp, HL.out.later hb1, by simp, by simp, below_then HBC.out hb1⟩)
  have q64 : (a : Int) ≤ 64 := by omega
  have qtn : ((a : Int)).toNat = a := by omega
  have q0a : (0 : Int) ≤ (a : Int) := by omega
  clear hb1 d0 d1 d2 HV1 HN1 HL HSZ HCC HBC HVT
  go_wp2_with fail
  go_loopw [5, 6, 7] (fun o kn i wr => ∃ (m : Nat) (fo fk : List Nat), m ≤ 2 ^ a ∧ i = .int .i64 m ∧ Hid (MinSt w wr nm (a : Int) (.slice a2 rows.length cap2) ((minTo f m).map varsL) ((minTo f m).map Int.ofNat) o kn fo fk)) (fun _ _ i _ => 2 ^ a - (intOf i).toNat)
  case atStart => exact ⟨0, _, _, Nat.zero_le _, rfl, HST⟩
  case round =>
    obtain ⟨m, fo, fk, hm, rfl, hst⟩ := hrel
    obtain ⟨ao, co, eo⟩ := Cd.ow_slice hst.out.out
    obtain ⟨ak, ck, ek⟩ := Cd.ow_slice hst.out.kno
    rw [List.length_map] at eo ek
    subst eo ek
    have y0 := hst.out.box.c0
    have y1 := hst.out.box.c1
    have y2 := hst.out.box.c2
    by_cases hlt : m < 2 ^ a
    case neg =>
      have ek : m = 2 ^ a := by omega
      have hge : ¬ ((m : Int) < 2 ^ a) := by rw [HCA.out]; omega
      have HZ := Lib.hid (show minL l nm (a : Int) rows = (minTo f m).map varsL by rw [HE1.out, ek])
      clear ek
      go_wp2_with fail
      go_ret
      first
        | exact ⟨_, fo, rfl, by rw [HZ.out]; exact hst.out.out, hst.out.ond, hst.out.blw⟩
        | exact ⟨_, rfl, fo, by rw [HZ.out]; exact hst.out.out, hst.out.ond, hst.out.blw⟩
    have hm8 : m < 8 := by omega
    have hlt2 : (m : Int) < 2 ^ a := by rw [HCA.out]; omega
    have HK := Lib.hid (HKY.out m hlt)
    go_upto_region 8 with fail
    go_cut [8] (fun s8 wx => s8 = .bool (f m) ∧ Below wr.heap.size wr wx)
    case first =>
      go_region_law (first | (go_simp; go_at_call 81; refine (spec_set m wr.drew hm8).mono ?_; rintro e wq0 ⟨v', f', rfl, ho, hn, hbq⟩; obtain ⟨av, cv, rfl⟩ := Cd.ow_slice ho; (have HQ0 := Lib.hid (undrew hbq)); (have HL0 := hst.out.box.later HQ0.out); (have u0 := HL0.c0); (have u1 := HL0.c1); (have u2 := HL0.c2); (have HOS := Lib.hid (rowC.ow_rd ho)); clear hbq HL0 ho hn) | (go_simp; go_at_call 37; refine (HIK.out _ (below_then hst.out.blw HQ0.out) _ _ _ HOS.out).mono ?_; rintro e wq1 ⟨rfl, hbq⟩; (have HQ1 := Lib.hid (below_then HQ0.out hbq)); clear hbq))
      all_goals
        go_wp2_with fail
        go_meet
        exact ⟨by rw [HK.out], HQ1.out⟩
    case rest =>
      obtain ⟨rfl, hb8⟩ := hcut
      have HS8 := Lib.hid (hst.out.later hb8)
      clear hb8 y0 y1 y2 hst HK
      generalize wc = w8 at *
      generalize hfm : f m = fm at *
      have HFM := Lib.hid hfm
      clear hfm
      have HKL := Lib.hid (row_ri (rowC.ow_rd HS8.out.kno)).1
      have hkm : ((minTo f m).map Int.ofNat).length = (minTo f m).length := List.length_map ..
      have hK8 := minTo_len f m
      have HKB := Lib.hid (fun x (hx : x ∈ minTo f m) => (mem_minTo.1 hx).1)
      have HMF := Lib.hid (min_final HMO.out ha3 hlt)
      rw [HFM.out] at HMF
      go_wp2_with fail
      go_loopw [8, 9] (fun o i wx => ∃ j q : Nat, j ≤ (minTo f m).length ∧ i = .int .i64 j ∧ o = .bool (fm && apartB ((minTo f m).take j) m) ∧ wx = w8.drewN q) (fun _ i _ => (minTo f m).length - (intOf i).toNat)
      case atStart => exact ⟨0, 0, Nat.zero_le _, rfl, by simp [apartB], rfl⟩
      case round =>
        obtain ⟨j, q, hj, rfl, rfl, hwx⟩ := hrel
        have HWX := Lib.hid hwx
        clear hwx
        by_cases hjl : j < (minTo f m).length
        · have HAN := Lib.hid (apartB_next (m := m) hjl)
          have HRI := ri_dn6 HKL.out q
          rw [← HWX.out] at HRI
          have hjl2 : j < ((minTo f m).map Int.ofNat).length := by rw [hkm]; exact hjl
          obtain ⟨b, off, cap', e1, hbB, hc⟩ := ri_at HRI hjl2
          rw [hkm] at e1
          injection e1 with e1 e2 e3
          subst e1 e3
          have hx8 : (minTo f m)[j] < m := HKB.out _ (List.getElem_mem hjl)
          rw [show ((minTo f m).map Int.ofNat)[j] = (((minTo f m)[j] : Nat) : Int) by simp] at hc
          have hand := and_natD (a := (minTo f m)[j]) (b := m) (by omega) (by omega)
          have j1 : (0 : Int) ≤ (j : Int) := by omega
          have j2 : (j : Int) < ((minTo f m).length : Int) := by omega
          clear HRI
          generalize (minTo f m)[j] = x at *
          generalize apartB ((minTo f m).take j) m = ab at *
          cases hfb : (fm && ab)
          · have HNX := Lib.hid (show (fm && apartB ((minTo f m).take (j + 1)) m) = false by rw [HAN.out, ← Bool.and_assoc, hfb]; rfl)
            clear HAN
            go_wp2
            go_quiet (fail)
            go_wp2
            go_roundw
            case rel => exact ⟨j + 1, _, by omega, by go_num, by rw [HNX.out], by rw [HWX.out, World.drewN_drewN]⟩
            case measure => simp [intOf]; omega
          · by_cases he : x &&& m = x
            · have t1 : (((x &&& m : Nat) : Int) == (x : Int)) = true := beq_iff_eq.2 (by rw [he])
              have T2 := Lib.hid (show (((x &&& m : Nat) : Int) != (x : Int)) = false by unfold bne; rw [t1]; rfl)
              have HNX := Lib.hid (show (fm && apartB ((minTo f m).take (j + 1)) m) = false by rw [HAN.out, show decide (x &&& m ≠ x) = false from decide_eq_false (by simpa using he), Bool.and_false, Bool.and_false])
              clear he HAN
              go_wp2
              go_quiet (fail)
              go_wp2
              go_roundw
              case rel => exact ⟨j + 1, _, by omega, by go_num, by rw [HNX.out, T2.out], by rw [HWX.out, World.drewN_drewN]⟩
              case measure => simp [intOf]; omega
            · have t1 : (((x &&& m : Nat) : Int) == (x : Int)) = false := beq_eq_false_iff_ne.2 (fun e => he (by omega))
              have T2 := Lib.hid (show (((x &&& m : Nat) : Int) != (x : Int)) = true by unfold bne; rw [t1]; rfl)
              have HNX := Lib.hid (show (fm && apartB ((minTo f m).take (j + 1)) m) = true by rw [HAN.out, show decide (x &&& m ≠ x) = true from decide_eq_true (by simpa using he), Bool.and_true]; exact hfb)
              clear he HAN
              go_wp2
              go_quiet (fail)
              go_wp2
              go_roundw
              case rel => exact ⟨j + 1, _, by omega, by go_num, by rw [HNX.out, T2.out], by rw [HWX.out, World.drewN_drewN]⟩
              case measure => simp [intOf]; omega
        · have HTK := Lib.hid (show apartB ((minTo f m).take j) m = apartB (minTo f m) m by rw [List.take_of_length_le (by omega)])
          rw [HTK.out] at *
          generalize hg0 : (fm && apartB (minTo f m) m) = g0 at *
          clear hg0
          have hge : ¬ ((j : Int) < ((minTo f m).length : Int)) := by omega
          have HSD := Lib.hid (HS8.out.later (show Below w8.heap.size w8 wr from by rw [HWX.out]; exact DegSpec.dnB (Below.refl _ _)))
          go_wp2_with fail
          generalize hwd : wr = wd at *
          clear hwd
          go_loopw [8, 10] (fun o i wx => ∃ k : Nat, k ≤ a ∧ i = .int .i64 k ∧ o = .bool (g0 && partB f m k) ∧ Below wd.heap.size wd wx) (fun _ i _ => a - (intOf i).toNat)
          case atStart => exact ⟨0, Nat.zero_le _, rfl, by simp [partB], Below.refl _ _⟩
          case round =>
            obtain ⟨k, hk, rfl, rfl, hbk⟩ := hrel
            have HSK := Lib.hid (HSD.out.later hbk)
            have HBK := Lib.hid hbk
            have y0 := HSK.out.box.c0
            have y1 := HSK.out.box.c1
            have y2 := HSK.out.box.c2
            clear hbk
            by_cases hka : k < a
            · have HPN := Lib.hid (partB_next f m k)
              have hbit := QrySpec.bit_at (s := m) (by omega) k
              have k1 : (0 : Int) ≤ (k : Int) := by omega
              have k2 : (k : Int) < (a : Int) := by omega
              have k3 : (k : Int) ≤ 64 := by omega
              have k4 : ((k : Int)).toNat = k := by omega
              have hpk := (pow_lenD (k := k) (by omega)).1
              go_upto_region 16 with fail
              cases hgp : (g0 && partB f m k)
              · have HNX := Lib.hid (show (g0 && partB f m (k + 1)) = false by rw [HPN.out, ← Bool.and_assoc, hgp]; rfl)
                clear hgp HPN
                go_quiet (fail)
                go_wp2_with fail
                go_roundw
                case rel => exact ⟨k + 1, by omega, by go_num, by rw [HNX.out], below_then HBK.out (DegSpec.dnB (Below.refl _ _))⟩
                case measure => simp [intOf]; omega
              · have hpn := HPN.out
                have hnx : (g0 && partB f m (k + 1)) = (!m.testBit k || !f (m - 2 ^ k)) := by rw [hpn, ← Bool.and_assoc, hgp]; rfl
                rw [Nat.testBit_eq_decide_div_mod_eq] at hnx
                by_cases hx : m / 2 ^ k % 2 = 1
                · rw [hx] at hbit
                  rw [decide_eq_true hx] at hnx
                  have HNX := Lib.hid (show (g0 && partB f m (k + 1)) = !f (m - 2 ^ k) by rw [hnx]; rfl)
                  have hle : 2 ^ k ≤ m := by
                    refine Classical.byContradiction fun c => ?_
                    have hlk : m < 2 ^ k := Nat.lt_of_not_le c
                    rw [Nat.div_eq_of_lt hlk] at hx
                    cases hx
                  have hd8 : m - 2 ^ k < 8 := Nat.lt_of_le_of_lt (Nat.sub_le _ _) hm8
                  have HKD := Lib.hid (HKY.out (m - 2 ^ k) (Nat.lt_of_le_of_lt (Nat.sub_le _ _) hlt))
                  have hsub := wrap_sub8 hle hm8
                  rw [← pow_castD] at hsub
                  clear hgp HPN hpn hnx hx hle
                  obtain ⟨d, hd⟩ : ∃ d, m - 2 ^ k = d := ⟨_, rfl⟩
                  rw [hd] at HNX HKD hsub hd8
                  clear hd
                  have hd0 : Below wr.heap.size wr wr.drew := Below.drew (Below.refl _ _)
                  have HLD := Lib.hid (HSK.out.box.later hd0)
                  have HBD := Lib.hid hd0
                  clear hd0
                  refine wp_region_held_drew (S := fun wx => Loc3 wx w.heap.size (.string nm) (.int .i64 (a : Int)) (.slice a2 rows.length cap2)) (by kernel_rfl) ?_ (fun hHeld => ?_)
                  · exact HLD.out
                  generalize World.drew wr = wyd at *
                  refine RegH.takeH (i := 0) (v := ?_) rfl (by kernel_rfl) (by kernel_rfl) (by kernel_rfl) (fun _ _ _ h => h) (Or.inl ⟨by rfl, ?_⟩) (by assumption) ?_
                  rotate_left
                  · (intro wS hSw; (try dsimp only at hSw); (skip); go_simp; try (with_reducible rfl))
                  try simp only [Act.put, List.setIfInBounds_toArray, List.set_cons_zero, List.set_cons_succ]
                  refine RegH.takeH (i := 1) (v := ?_) rfl (by kernel_rfl) (by kernel_rfl) (by kernel_rfl) (fun _ _ _ h => h) (Or.inl ⟨by rfl, ?_⟩) (by assumption) ?_
                  rotate_left
                  · (intro wS hSw; (try dsimp only at hSw); (skip); go_simp; try (with_reducible rfl))
                  try simp only [Act.put, List.setIfInBounds_toArray, List.set_cons_zero, List.set_cons_succ]
                  refine RegH.takeH (i := 2) (v := ?_) rfl (by kernel_rfl) (by kernel_rfl) (by kernel_rfl) (fun _ _ _ h => h) (Or.inl ⟨by rfl, ?_⟩) (by assumption) ?_
                  rotate_left
                  · (intro wS hSw; (try dsimp only at hSw); (skip); go_simp; try (with_reducible rfl))
                  try simp only [Act.put, List.setIfInBounds_toArray, List.set_cons_zero, List.set_cons_succ]
                  refine RegH.takeH (i := 3) (v := ?_) rfl (by kernel_rfl) (by kernel_rfl) (by kernel_rfl) (fun _ _ _ h => h) (Or.inl ⟨by rfl, ?_⟩) (by assumption) ?_
                  rotate_left
                  · (intro wS hSw; (try dsimp only at hSw); (skip); go_simp; try (with_reducible rfl))
                  try simp only [Act.put, List.setIfInBounds_toArray, List.set_cons_zero, List.set_cons_succ]
                  refine RegH.takeH (i := 4) (v := ?_) rfl (by kernel_rfl) (by kernel_rfl) (by kernel_rfl) (fun _ _ _ h => h) (Or.inl ⟨by rfl, ?_⟩) (by assumption) ?_
                  rotate_left
                  · (intro wS hSw; (try dsimp only at hSw); (skip); go_simp; try (with_reducible rfl))
                  try simp only [Act.put, List.setIfInBounds_toArray, List.set_cons_zero, List.set_cons_succ]
                  refine RegH.takeH (i := 5) (v := ?_) rfl (by kernel_rfl) (by kernel_rfl) (by kernel_rfl) (fun _ _ _ h => h) (Or.inl ⟨by rfl, ?_⟩) (by assumption) ?_
                  rotate_left
                  · (intro wS hSw; (try dsimp only at hSw); (skip); go_simp; try (with_reducible rfl))
                  try simp only [Act.put, List.setIfInBounds_toArray, List.set_cons_zero, List.set_cons_succ]
                  refine RegH.takeH (i := 6) (v := ?_) rfl (by kernel_rfl) (by kernel_rfl) (by kernel_rfl) (fun _ _ _ h => h) (Or.inl ⟨by rfl, ?_⟩) (by assumption) ?_
                  rotate_left
                  · (intro wS hSw; (try dsimp only at hSw); (skip); go_simp; try (with_reducible rfl))
                  try simp only [Act.put, List.setIfInBounds_toArray, List.set_cons_zero, List.set_cons_succ]
                  refine RegH.takeH (i := 7) (v := ?_) rfl (by kernel_rfl) (by kernel_rfl) (by kernel_rfl) (fun _ _ _ h => h) (Or.inl ⟨by rfl, ?_⟩) (by assumption) ?_
                  rotate_left
                  · (intro wS hSw; (try dsimp only at hSw); (skip); go_simp; try (with_reducible rfl))
                  try simp only [Act.put, List.setIfInBounds_toArray, List.set_cons_zero, List.set_cons_succ]
                  refine RegH.takeH (i := 8) (v := ?_) rfl (by kernel_rfl) (by kernel_rfl) (by kernel_rfl) (fun _ _ _ h => h) (Or.inl ⟨by rfl, ?_⟩) (by assumption) ?_
                  rotate_left
                  · (intro wS hSw; (try dsimp only at hSw); (skip); go_simp; try (with_reducible rfl))
                  try simp only [Act.put, List.setIfInBounds_toArray, List.set_cons_zero, List.set_cons_succ]
                  refine RegH.takeH (i := 9) (v := ?_) rfl (by kernel_rfl) (by kernel_rfl) (by kernel_rfl) (fun _ _ _ h => h) (Or.inl ⟨by rfl, ?_⟩) (by assumption) ?_
                  rotate_left
                  · (intro wS hSw; (try dsimp only at hSw); (have r0 := hSw.c0; have r1 := hSw.c1; have r2 := hSw.c2); go_simp; try (with_reducible rfl))
                  try simp only [Act.put, List.setIfInBounds_toArray, List.set_cons_zero, List.set_cons_succ]
                  refine RegH.takeH (i := 10) (v := ?_) rfl (by kernel_rfl) (by kernel_rfl) (by kernel_rfl) (fun _ _ _ h => h) (Or.inl ⟨by rfl, ?_⟩) (by assumption) ?_
                  rotate_left
                  · (intro wS hSw; (try dsimp only at hSw); (skip); go_simp; try (with_reducible rfl))
                  try simp only [Act.put, List.setIfInBounds_toArray, List.set_cons_zero, List.set_cons_succ]
                  refine RegH.takeH (i := 11) (v := ?_) rfl (by kernel_rfl) (by kernel_rfl) (by kernel_rfl) (fun _ _ _ h => h) (Or.inl ⟨by rfl, ?_⟩) (by assumption) ?_
                  rotate_left
                  · (intro wS hSw; (try dsimp only at hSw); (skip); go_simp; try (with_reducible rfl))
                  try simp only [Act.put, List.setIfInBounds_toArray, List.set_cons_zero, List.set_cons_succ]
                  refine RegH.takeH (i := 12) (v := ?_) rfl (by kernel_rfl) (by kernel_rfl) (by kernel_rfl) (fun _ _ _ h => h) (Or.inl ⟨by rfl, ?_⟩) (by assumption) ?_
                  rotate_left
                  · (intro wS hSw; (try dsimp only at hSw); (skip); go_simp; try (with_reducible rfl))
                  try simp only [Act.put, List.setIfInBounds_toArray, List.set_cons_zero, List.set_cons_succ]
                  refine RegH.takeH (i := 13) (v := ?_) rfl (by kernel_rfl) (by kernel_rfl) (by kernel_rfl) (fun _ _ _ h => h) (Or.inl ⟨by rfl, ?_⟩) (by assumption) ?_
                  rotate_left
                  · (intro wS hSw; (try dsimp only at hSw); (skip); go_simp; try (with_reducible rfl))
                  try simp only [Act.put, List.setIfInBounds_toArray, List.set_cons_zero, List.set_cons_succ]
                  refine RegH.consH (i := 14) rfl (by kernel_rfl) (fun K hK => ?_)
                  go_simp
                  go_at_call 81
                  refine (spec_set d wyd hd8).mono ?_
                  rintro e wq0 ⟨v', f', rfl, ho, hn, hbq⟩
                  obtain ⟨av, cv, rfl⟩ := Cd.ow_slice ho
                  have HL0 := HLD.out.later hbq
                  have HQ0 := Lib.hid (below_then HBD.out hbq)
                  have HOS := Lib.hid (rowC.ow_rd ho)
                  clear hbq ho hn
                  (try go_wp2_with fail)
                  refine hK.out _ _ ?_ (fun hHeld => ?_)
                  · exact HL0
                  clear hK K
                  try simp only [Act.put, List.setIfInBounds_toArray, List.set_cons_zero, List.set_cons_succ]
                  refine RegH.consH (i := 15) rfl (by kernel_rfl) (fun K hK => ?_)
                  go_simp
                  go_at_call 37
                  refine (HIK.out _ (below_then HSK.out.blw HQ0.out) _ _ _ HOS.out).mono ?_
                  rintro e wq1 ⟨rfl, hbq⟩
                  have HL1 := HL0.later hbq
                  have HQ1 := Lib.hid (below_then HQ0.out hbq)
                  clear hbq
                  (try go_wp2_with fail)
                  refine hK.out _ _ ?_ (fun hHeld => ?_)
                  · exact HL1
                  clear hK K
                  try simp only [Act.put, List.setIfInBounds_toArray, List.set_cons_zero, List.set_cons_succ]
                  refine RegH.takeH (i := 16) (v := ?_) rfl (by kernel_rfl) (by kernel_rfl) (by kernel_rfl) (fun _ _ _ h => h) (Or.inl ⟨by rfl, ?_⟩) (by assumption) ?_
                  rotate_left
                  · (intro wS hSw; (try dsimp only at hSw); (skip); go_simp; try (with_reducible rfl))
                  try simp only [Act.put, List.setIfInBounds_toArray, List.set_cons_zero, List.set_cons_succ]
                  refine RegH.takeH (i := 17) (v := ?_) rfl (by kernel_rfl) (by kernel_rfl) (by kernel_rfl) (fun _ _ _ h => h) (Or.inl ⟨by rfl, ?_⟩) (by assumption) ?_
                  rotate_left
                  · (intro wS hSw; (try dsimp only at hSw); (skip); go_simp; try (with_reducible rfl))
                  try simp only [Act.put, List.setIfInBounds_toArray, List.set_cons_zero, List.set_cons_succ]
                  refine RegH.takeH (i := 18) (v := ?_) rfl (by kernel_rfl) (by kernel_rfl) (by kernel_rfl) (fun _ _ _ h => h) (Or.inl ⟨by rfl, ?_⟩) (by assumption) ?_
                  rotate_left
                  · (intro wS hSw; (try dsimp only at hSw); (skip); go_simp; try (with_reducible rfl))
                  try simp only [Act.put, List.setIfInBounds_toArray, List.set_cons_zero, List.set_cons_succ]
                  refine RegH.takeH (i := 19) (v := ?_) rfl (by kernel_rfl) (by kernel_rfl) (by kernel_rfl) (fun _ _ _ h => h) (Or.inl ⟨by rfl, ?_⟩) (by assumption) ?_
                  rotate_left
                  · (intro wS hSw; (try dsimp only at hSw); (skip); go_simp; try (with_reducible rfl))
                  try simp only [Act.put, List.setIfInBounds_toArray, List.set_cons_zero, List.set_cons_succ]
                  refine wpAnyH_done (by kernel_rfl) ?_ _
                  go_wp2_with fail
                  go_roundw
                  case rel => exact ⟨k + 1, by omega, by go_num, by rw [HNX.out, HKD.out], below_then HBK.out HQ1.out⟩
                  case measure => simp [intOf]; omega
                · have hz : m / 2 ^ k % 2 = 0 := by omega
                  rw [hz] at hbit
                  rw [decide_eq_false hx] at hnx
                  have HNX := Lib.hid (show (g0 && partB f m (k + 1)) = true by rw [hnx]; rfl)
                  clear hgp HPN hpn hnx hx hz
                  go_quiet (fail)
                  go_wp2_with fail
                  go_roundw
                  case rel => exact ⟨k + 1, by omega, by go_num, by rw [HNX.out], below_then HBK.out (DegSpec.dnB (Below.refl _ _))⟩
                  case measure => simp [intOf]; omega
            · have ek : k = a := by omega
              rw [ek, HMF.out]
              have hge2 : ¬ ((k : Int) < (a : Int)) := by omega
              clear hka ek
              cases hmb : minB f m
              · have HNX := Lib.hid (minTo_no hmb)
                clear hmb
                go_wp2_with fail
                go_roundw
                case rel => exact ⟨m + 1, fo, fk, by omega, by go_num, Lib.hid (by rw [HNX.out]; exact HSK.out)⟩
                case measure => simp [intOf]; omega
              · have HNX := Lib.hid (minTo_yes hmb)
                clear hmb
                go_wp2_with fail
                clear y0 y1 y2
                refine (spec_set m _ hm8).mono ?_
                rintro e w9 ⟨v', f', rfl, ho9, hn9, hb9⟩
                obtain ⟨av, cv, rfl⟩ := Cd.ow_slice ho9
                have hbA := below_alloc w9 (.cells #[.slice av (varsL m).length cv] 25)
                have S9 := Lib.hid (HSK.out.later (below_then hb9 hbA))
                have C9 := Lib.hid (show (w9.alloc (.cells #[.slice av (varsL m).length cv] 25)).cell? ⟨w9.heap.size, 0, none⟩ = some (.slice av (varsL m).length cv) by simp)
                have O9 := Lib.hid (rowC.ow_base (Cd.ow_later ho9 hbA) HSK.out.blw.size)
                have F9 := Lib.hid (fun b (q : b ∈ f') => (show wr.heap.size ≤ b from (rowC.ow_lt ho9 b q).1))
                have D9 := Lib.hid (fun b (q : b ∈ f') => (show b ∉ fo from fun p => by have h1 := (rowsC.ow_lt HSK.out.out b p).2; have h2 := F9.out b q; omega))
                have X9 := Lib.hid (fun b (q : b ∈ f') => (show b ∉ fk ∧ b ≠ w.heap.size from ⟨fun p => by have h1 := (rowC.ow_lt HSK.out.kno b p).2; have h2 := F9.out b q; omega, fun p => by have h1 := HSK.out.box.lt; have h2 := F9.out b q; omega⟩))
                have N9 := Lib.hid hn9
                have hml : ((minTo f m).map varsL).length + 1 ≤ 1000000000000 := by rw [List.length_map]; omega
                have hml2 : ((minTo f m).map Int.ofNat).length + 1 ≤ 1000000000000 := by rw [List.length_map]; omega
                have HL1 := Lib.hid (show ((minTo f m).map varsL).length = (minTo f m).length from List.length_map ..)
                have HL2 := Lib.hid (show ((minTo f m).map Int.ofNat).length = (minTo f m).length from List.length_map ..)
                have HO1 := Lib.hid (show (minTo f (m + 1)).map varsL = (minTo f m).map varsL ++ [varsL m] by rw [HNX.out, List.map_append]; rfl)
                have HO2 := Lib.hid (show (minTo f (m + 1)).map Int.ofNat = (minTo f m).map Int.ofNat ++ [(m : Int)] by rw [HNX.out, List.map_append]; rfl)
                clear ho9 hn9 hb9 hbA
                generalize (minTo f m).map varsL = O at *
                generalize (minTo f m).map Int.ofNat = K at *
                go_wp2_with (at_builtin; refine Cd.wpList_appendE (c := rowC) rfl rfl (.tmp 75) (.tmp 78) 54 rfl w.heap.size 25 (.slice none 0 0) 24 Try.underlying54 info_ints rfl (by decide) _ O _ rfl S9.out.out S9.out.ond _ _ rfl C9.out _ _ O9.out N9.out D9.out hml S9.out.blw.size ?_)
                intro g3 c3 w3 f3 ho3 hn3 hs3 ht3
                have S3 := Lib.hid (S9.out.pushO ho3 hn3 (fun b hb => by rw [size_alloc]; exact hs3 b hb) X9.out ht3)
                clear ho3 hn3 hs3 ht3
                have hbB := below_alloc w3 (.cells #[.int .i64 (m : Int)] 3)
                have S4 := Lib.hid (S3.out.later hbB)
                have C4 := Lib.hid (show (w3.alloc (.cells #[.int .i64 (m : Int)] 3)).cell? ⟨w3.heap.size, 0, none⟩ = some (.int .i64 (m : Int)) by simp)
                have O4 := Lib.hid (show Cd.int.ow (w3.alloc (.cells #[.int .i64 (m : Int)] 3)) w.heap.size [.int .i64 (m : Int)] (m : Int) [] from ⟨rfl, by omega, rfl⟩)
                clear hbB
                go_wp2_with (at_builtin; refine Cd.wpList_appendE (c := Cd.int) rfl rfl (.tmp 80) (.tmp 82) 25 rfl w.heap.size 3 (.int .i64 0) 8 Try.underlying25 info_i64 rfl (by decide) _ K _ rfl S4.out.kno S4.out.knd _ _ rfl C4.out _ _ O4.out (by simp) (by simp) hml2 S4.out.blw.size ?_)
                intro g5 c5 w5 f5 ho5 hn5 hs5 ht5
                have S5 := Lib.hid (S4.out.pushK ho5 hn5 (fun b hb => by
                  rcases hs5 b hb with q | q
                  · exact .inl q
                  · exact .inr (by rw [size_alloc]; exact q)) ht5)
                clear ho5 hn5 hs5 ht5
                go_wp2_with fail
                go_roundw
                case rel => exact ⟨m + 1, f3, f5, by omega, by go_num, Lib.hid (by rw [HO1.out, HO2.out]; exact S5.out)⟩
                case measure => simp [intOf]; omega
end Go.Proofs.Ytnoennmhifmolaa.DepClo
