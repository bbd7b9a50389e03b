/- Queries: read: the program's function. -/
import Derived.Test.YtdjgaffiildijabDoorQryPar2
import Derived.Test.YtdjgaffiildijabDoorTabSpec2
namespace Go.Proofs.YtdjgaffiildijabDoor.QryPar
open Go Go.RowKit Byt Ints IntsLaw Cd Rows2 Tab TabSpec Exact Atom QryMath QrySpec QryImp MkAtom SlMath Draw
open TabParse (strC strsC info_str cutB ba)
open QryFmt (KeptF strs_at)

theorem loc2_set0 {w : World} {X : Nat} {a b : Value} (h : Loc2 w X a b) (v : Value) : Loc2 (w.setCell ⟨X, 0, none⟩ v) X v b :=
  ⟨World.cell?_setCell_same _ _ _ h.c0, by rw [World.cell?_setCell_other _ _ _ _ (by simp)]; exact h.c1, by simpa using h.f0, by simpa using h.f1⟩
theorem touch_set {w : World} {X o : Nat} (v : Value) : Cd.Touch [X] w (w.setCell ⟨X, o, none⟩ v) :=
  ⟨rfl, rfl, rfl, by simp, fun k _ hn => Below.heap_setCell _ _ _ k (by simpa using hn)⟩
theorem splitK_le : ∀ (k : Nat) (s x : List UInt8), x ∈ Lib.splitK [32] 0 k s → x.length ≤ s.length
  | 0, s, x, h => by
    rw [show Lib.splitK [32] 0 0 s = [s] from rfl, List.mem_singleton] at h
    rw [h]
    exact Nat.le_refl _
  | k + 1, s, x, h => by
    unfold Lib.splitK at h
    split at h
    · rw [List.mem_singleton.1 h]
      exact Nat.le_refl _
    · rcases List.mem_cons.1 h with q | q
      · rw [q, List.length_take]
        omega
      · have := splitK_le k _ x q
        rw [List.length_drop] at this
        omega
theorem iL_bd {s : ByteArray} : ∀ A ∈ iL s, ∀ x ∈ A.2, -1 ≤ x ∧ x ≤ 3 := fun A hA x hx => by
  unfold iL at hA
  obtain ⟨y, _, rfl⟩ := List.mem_map.1 hA
  unfold atI at hx
  simp only at hx
  unfold ixs at hx
  obtain ⟨b, _, rfl⟩ := List.mem_map.1 hx
  exact ix_bd b
theorem mx_bd {l : List Int} (h : ∀ x ∈ l, -1 ≤ x ∧ x ≤ 3) : 0 ≤ mx l ∧ mx l ≤ 4 :=
  ⟨mxF_ge l 0, mxF_le l 0 4 (by omega) fun x hx => by have := h x hx; omega⟩
def wordsB (s : ByteArray) : List ByteArray := Lib.splitB ⟨#[32]⟩ 0 (Lib.countB s ⟨#[32]⟩) s
theorem words_data (s : ByteArray) : (wordsB s).map (·.data.toList) = wordsK s.data.toList := Lib.splitB_data ⟨#[32]⟩ 0 _ s
theorem words_atoms (s : ByteArray) : atL2 (wordsB s) = iL s := by
  unfold iL atL2
  rw [← words_data, List.map_map]
  rfl
theorem words_le (s : ByteArray) : ∀ x ∈ wordsB s, x.size ≤ s.size := fun x hx => by
  have h1 : x.data.toList ∈ wordsK s.data.toList := by
    rw [← words_data]
    exact List.mem_map.2 ⟨x, hx, rfl⟩
  have h2 := splitK_le _ _ _ h1
  have h3 : x.data.toList.length = x.size := Array.length_toList
  have h4 : s.data.toList.length = s.size := Array.length_toList
  omega
theorem words_len (s : ByteArray) : (wordsB s).length = Lib.countB s ⟨#[32]⟩ + 1 := Lib.splitB_all ⟨#[32]⟩ (by decide) 0 _ s rfl
theorem split_at' (s : ByteArray) (w : World) (hs : s.size ≤ 1048576) (hr : Ready w) :
    Calls Tryd.prog 72 #[.string s, .string ⟨#[32]⟩] w fun e w' => ∃ c, e = .returned (.slice (some ⟨w.heap.size, 0, none⟩) (wordsB s).length c) ∧ strsC.rd w' (fun _ => True) [.slice (some ⟨w.heap.size, 0, none⟩) (wordsB s).length c] (wordsB s) ∧ Below w.heap.size w w' := by
  obtain ⟨m, hm⟩ := hr
  refine (Tryd.strings_Split s ⟨#[32]⟩ m w (by omega) hm (by decide)).mono ?_
  rintro e w' ⟨rfl, rfl⟩
  have hb := below_alloc w (.cells ((Lib.splitB ⟨#[32]⟩ 0 (Lib.countB s ⟨#[32]⟩) s).map Value.string).toArray 9)
  have hn := words_len s
  have hle := words_le s
  have hcl := Lib.countB_le ⟨#[32]⟩ (by decide) _ s (Nat.le_refl _)
  refine ⟨Lib.countB s ⟨#[32]⟩ + 1, by rw [hn], ⟨_, _, rfl, by omega, .inr ⟨w.heap.size, 0, rfl, trivial, by rw [size_alloc]; omega, fun t ht => ⟨[.string (wordsB s)[t]], fun j hj => ?_, rfl, ?_⟩⟩⟩, hb⟩
  · have hj0 : j = 0 := by simpa using hj
    subst hj0
    have h := World.cell?_alloc_mark w ((Lib.splitB ⟨#[32]⟩ 0 (Lib.countB s ⟨#[32]⟩) s).map Value.string).toArray 9 (0, 0) t
    have e1 : 0 + t * strC.n + 0 = t := by rw [show strC.n = 1 from rfl]; omega
    rw [e1]
    refine h.trans ?_
    show ((wordsB s).map Value.string).toArray[t]? = _
    simp [ht]
  · have h1 := hle _ (List.getElem_mem ht)
    unfold maxLen
    omega
set_option maxRecDepth 100000 in
set_option maxHeartbeats 3200000 in
theorem impl_parse (s : ByteArray) (w : World) (hs : s.size ≤ 1048576) (hr : Ready w) :
    Calls Tryd.prog 23 #[.string s] w fun e w' => QAns s w e w' := by
  by_cases h27 : (27 : Int) < (s.size : Int)
  · have HP := Lib.hid (show pOk s = false by
      cases hp : pOk s
      · rfl
      · have := pOk_size hp; omega)
    go_enter Tryd.func23, Tryd.ntmps23
    go_wp2
    have HC0 := Loc2.of (row_alloc w (.cells #[.int .i64 0, .slice none 0 0] 48))
    refine bodyPost_ret (v := .tuple #[.agg #[.int .i64 0, .slice none 0 0], .bool false]) (by simp [results, Tryd.results23, go_sem]) rfl (QAns.no HP.out ?_)
    first
      | exact below_alloc w _
      | (refine Below.setCell (Below.setCell (below_alloc w _) ?_ _) ?_ _ <;> exact Nat.le_refl _)
  have HSP := Lib.hid (fun w' (hb : Below w.heap.size w w') => split_at' s w' hs (ready_later hr hb))
  have HMP := Lib.hid (fun (w' : World) (c g : Nat) (hb : Below w.heap.size w w') (h : strsC.rd w' (fun _ => True) [.slice (some ⟨g, 0, none⟩) (wordsB s).length c] (wordsB s)) => map_patoms (.slice (some ⟨g, 0, none⟩) (wordsB s).length c) (wordsB s) _ w' h (by have := words_len s; have := Lib.countB_le ⟨#[32]⟩ (by decide) _ s (Nat.le_refl _); omega) (fun x hx => Nat.le_trans (words_le s x hx) hs) (ready_later hr hb))
  rw [words_atoms] at HMP
  have HLN := Lib.hid (show (wordsB s).length = (iL s).length by rw [← words_atoms]; unfold atL2; rw [List.length_map])
  have HBD := Lib.hid (iL_bd (s := s))
  have hil : (iL s).length ≤ 1000 := by rw [← HLN.out, words_len]; have := Lib.countB_le ⟨#[32]⟩ (by decide) _ s (Nat.le_refl _); omega
  have HIL := Lib.hid hil
  have HIN := Lib.hid (show mx (allV (iL s)) = iN s from rfl)
  have HOK := Lib.hid (And.intro (fun (h : qOk (iN s) (iL s) = false) => i_no (s := s) (by unfold iOk; rw [h]; rfl)) (And.intro (fun (h : fmtQ (iN s) (iL s) ≠ s) => i_no (s := s) (by unfold iOk; rw [decide_eq_false h, Bool.and_false])) (fun (h1 : qOk (iN s) (iL s) = true) (h2 : fmtQ (iN s) (iL s) = s) => (show pOk s = true ∧ iN s = pN s ∧ iL s = pL s from ⟨p_of_i (iOk_iff.2 ⟨h1, h2⟩), (i_of_p (p_of_i (iOk_iff.2 ⟨h1, h2⟩))).2⟩))))
  generalize wordsB s = ws at *
  generalize iN s = N at *
  generalize iL s = L at *
  clear hr hil hs
  go_enter Tryd.func23, Tryd.ntmps23
  go_wp2_with fail
  generalize hW : w.alloc _ = W
  obtain ⟨r0, hz0, hb0⟩ := start1 w _ hW
  have HB0 := Lib.hid hb0
  have HR0 := Lib.hid (Loc2.of r0)
  have HZ0 := Lib.hid hz0
  clear hW r0 hb0 hz0
  refine (HSP.out W HB0.out).mono ?_
  rintro e w1 ⟨c1, rfl, hrd1, hb1⟩
  have HM1 := Lib.hid (HMP.out w1 c1 W.heap.size (below_then HB0.out hb1) hrd1)
  have HB1 := Lib.hid (below_then HB0.out hb1)
  have HR1 := Lib.hid (HR0.out.later hb1)
  have HZ1 := Lib.hid hb1.size
  clear hrd1 hb1
  go_wp2_with fail
  refine HM1.out.mono ?_
  rintro e w2 ⟨g, c, fp, rfl, how, hnd, hb2⟩
  rw [HLN.out] at how ⊢
  have HB2 := Lib.hid (below_then HB1.out hb2)
  have HR2 := Lib.hid (HR1.out.later hb2)
  have HZ2 := Lib.hid hb2.size
  have HND := Lib.hid hnd
  have HOW := Lib.hid how
  clear how hnd hb2
  go_wp2_with fail
  generalize hWq : w2.alloc _ = W3
  obtain ⟨rq, hzq, hbq⟩ := start1 w2 _ hWq
  have HQ3 := Lib.hid (Loc2.of rq)
  have HB3 := Lib.hid (below_then HB2.out hbq)
  have HR3 := Lib.hid (HR2.out.later hbq)
  have HOW3 := Lib.hid (Cd.ow_later HOW.out hbq)
  have HZ3 := Lib.hid hzq
  have HFP := Lib.hid (fun b (h : b ∈ fp) => atomsC.ow_lt HOW.out b h)
  have HKN := Lib.hid (show w2.heap.size ∉ fp from fun q => by have := (atomsC.ow_lt HOW.out _ q).2; omega)
  have HKW := Lib.hid (show w.heap.size ≠ w2.heap.size by have := HZ0.out; have := HZ1.out; have := HZ2.out; omega)
  clear hWq rq hbq hzq
  go_loopw [20] (fun i wr => ∃ k : Nat, k ≤ L.length ∧ i = .int .i64 k ∧ Loc2 wr w2.heap.size (.int .i64 (mx (allV (L.take k)))) (.slice (some ⟨g, 0, none⟩) L.length c) ∧ Cd.Touch [w2.heap.size] W3 wr) (fun i _ => L.length - (intOf i).toNat)
  case atStart => exact ⟨0, Nat.zero_le _, rfl, HQ3.out, Cd.Touch.refl _ _⟩
  case round =>
    obtain ⟨k, hk, rfl, hq, ht⟩ := hrel
    have HT := Lib.hid ht
    have HQ := Lib.hid hq
    have HRD := Lib.hid (Cd.touched (atomsC.ow_rd HOW3.out) ht (fun b hb q => HKN.out (by rw [← List.mem_singleton.1 hb]; exact q)))
    by_cases hlt : k < L.length
    · obtain ⟨b, off, cap', au, cu, e1, hbB, c0, c1, hs1, hu, _⟩ := atom_at2 HRD.out hlt
      simp only [Value.slice.injEq, Option.some.injEq, Addr.mk.injEq, and_true, true_and] at e1
      obtain ⟨⟨rfl, rfl⟩, rfl⟩ := e1
      simp only [Nat.zero_add] at c0 c1
      have p1 : (0 : Int) ≤ (k : Int) := by omega
      have p2 : (k : Int) < (L.length : Int) := by omega
      have p3 : (k : Int) < 1000 := by have := HIL.out; omega
      have HLT := Lib.hid hlt
      have HPB := Lib.hid (mx_bd (l := allV (L.take k)) (fun x hx => by
        unfold allV at hx
        obtain ⟨m, hm, hxm⟩ := List.mem_flatten.1 hx
        obtain ⟨A, hA, rfl⟩ := List.mem_map.1 hm
        exact HBD.out A (List.mem_of_mem_take hA) x hxm))
      have HNX := Lib.hid (show mx (allV (L.take (k + 1))) = mxF (mx (allV (L.take k))) L[k].2 by unfold mx; rw [allV_succ hlt, mxF_app]; rfl)
      have HVB := Lib.hid (HBD.out _ (List.getElem_mem hlt))
      have hq0 := HQ.out.c0
      have hq1 := HQ.out.c1
      have hql := HQ.out.lt
      generalize mx (allV (L.take k)) = m0 at *
      generalize hA : L[k] = A at *
      have HU := Lib.hid hu
      have hAl := below_alloc wr (.cells #[.string A.1, .slice au A.2.length cu] 66 (0, 0))
      have HQ6 := Lib.hid (HQ.out.later hAl)
      have HT6 := Lib.hid (HT.out.trans (Cd.Touch.of_below hAl))
      have HU6 := Lib.hid (Cd.later HU.out hAl)
      clear hA hu hAl ht hq
      go_wp2_with fail
      generalize wr.alloc _ = W6 at *
      go_loopw [27] (fun i wr => ∃ j : Nat, j ≤ A.2.length ∧ i = .int .i64 j ∧ Loc2 wr w2.heap.size (.int .i64 (mxF m0 (A.2.take j))) (.slice (some ⟨g, 0, none⟩) L.length c) ∧ Cd.Touch [w2.heap.size] W6 wr) (fun i _ => A.2.length - (intOf i).toNat)
      case atStart => exact ⟨0, Nat.zero_le _, rfl, HQ6.out, Cd.Touch.refl _ _⟩
      case round =>
        obtain ⟨j, hj, rfl, hq, ht⟩ := hrel
        have HTJ := Lib.hid ht
        have HQJ := Lib.hid hq
        have hq0 := hq.c0
        have hq1 := hq.c1
        have hf0 := hq.f0
        have HUJ := Lib.hid (Cd.touched HU6.out ht (fun b hb q => HKN.out (by rw [← List.mem_singleton.1 hb]; exact q)))
        by_cases hjl : j < A.2.length
        · obtain ⟨b2, off2, cap2, e1, hbB2, hc2⟩ := ri_at (row_ri HUJ.out).1 hjl
          injection e1 with e1 e2 e3
          subst e1 e3
          have i1 : (0 : Int) ≤ (j : Int) := by omega
          have i2 : (j : Int) < (A.2.length : Int) := by omega
          have hx := HVB.out _ (List.getElem_mem hjl)
          have hm : 0 ≤ mxF m0 (A.2.take j) ∧ mxF m0 (A.2.take j) ≤ 4 :=
            ⟨Int.le_trans HPB.out.1 (mxF_ge _ _), mxF_le _ _ _ HPB.out.2 fun y hy => by have := HVB.out y (List.mem_of_mem_take hy); omega⟩
          have HNJ := Lib.hid (show mxF m0 (A.2.take (j + 1)) = max (mxF m0 (A.2.take j)) (A.2[j] + 1) by rw [List.take_succ_eq_append_getElem hjl, mxF_app]; rfl)
          have HJL := Lib.hid hjl
          have i3 : (j : Int) < 9223372036854775807 := by
            obtain ⟨_, _, _, hll, _⟩ := (row_ri HUJ.out).1
            omega
          have HLA := Lib.hid ((row_ri HUJ.out).1)
          clear hq ht
          generalize mxF m0 (A.2.take j) = m at *
          generalize A.2[j] = z at *
          have z1 := hx.1
          have z2 := hx.2
          have m1 := hm.1
          have m2 := hm.2
          by_cases hmz : m < z + 1
          · have HMX := Lib.hid (show max m (z + 1) = z + 1 by omega)
            go_wp2_with fail
            go_roundw
            case rel => exact ⟨j + 1, by have := HJL.out; omega, by go_num, by rw [HNJ.out, HMX.out]; exact loc2_set0 HQJ.out _, HTJ.out.trans (touch_set _)⟩
            case measure => have := HJL.out; simp [intOf]; omega
          · have HMX := Lib.hid (show max m (z + 1) = m by omega)
            go_wp2_with fail
            go_roundw
            case rel => exact ⟨j + 1, by have := HJL.out; omega, by go_num, by rw [HNJ.out, HMX.out]; exact loc2_set0 HQJ.out _, HTJ.out.trans (touch_set _)⟩
            case measure => have := HJL.out; simp [intOf]; omega
        · have ej : j = A.2.length := by omega
          subst ej
          rw [List.take_length] at *
          go_wp2_with fail
          go_roundw
          case rel => exact ⟨k + 1, by have := HLT.out; omega, by go_num, by rw [HNX.out]; exact HQJ.out, HT6.out.trans HTJ.out⟩
          case measure => have := HLT.out; simp [intOf]; omega
    · have ek : k = L.length := by omega
      subst ek
      rw [List.take_length, HIN.out] at hq
      have HQF := Lib.hid hq
      have HV := Lib.hid (impl_valid N (.slice (some ⟨g, 0, none⟩) L.length c) L _ wr HRD.out)
      have HBF := Lib.hid (Cd.Touch.below HB3.out ht (fun b hb => by rw [List.mem_singleton.1 hb]; have := HB2.out.size; omega))
      have HRF := Lib.hid (HR3.out.touched ht (by simpa using HKW.out))
      have HOF := Lib.hid (Cd.ow_touched HOW3.out ht (fun b hb q => HKN.out (by rw [← List.mem_singleton.1 q]; exact hb)))
      have hq0 := hq.c0
      have hq1 := hq.c1
      clear hq ht
      go_wp2_with fail
      clear hq0 hq1
      refine HV.out.mono ?_
      rintro e w5 ⟨rfl, hb5⟩
      have HB5 := Lib.hid (below_then HBF.out hb5)
      have HQ5 := Lib.hid (HQF.out.later hb5)
      have HR5 := Lib.hid (HRF.out.later hb5)
      have HO5 := Lib.hid (Cd.ow_later HOF.out hb5)
      have HF := Lib.hid (QryFmt.impl_fmt N (.slice (some ⟨g, 0, none⟩) L.length c) L _ w5 (atomsC.ow_rd HO5.out))
      clear hb5
      cases hv : qOk N L
      · have HP := Lib.hid (HOK.out.1 hv)
        have x0 := HR5.out.c0
        have x1 := HR5.out.c1
        have xf0 := HR5.out.f0
        have xf1 := HR5.out.f1
        clear hv
        go_wp2_with fail
        obtain ⟨k0, k1⟩ := set2 (w := w5) (k := w.heap.size) (x := .int .i64 0) (y := .slice none 0 0) x0 x1
        refine bodyPost_ret (v := .tuple #[.agg #[.int .i64 0, .slice none 0 0], .bool false]) (by simp [results, Tryd.results23, go_sem, k0, k1]) rfl (QAns.no HP.out ?_)
        exact (HB5.out.setCell (Nat.le_refl _) _).setCell (Nat.le_refl _) _
      have HV2 := Lib.hid hv
      have y0 := HQ5.out.c0
      have y1 := HQ5.out.c1
      clear hv
      go_wp2_with fail
      clear y0 y1
      refine HF.out.mono ?_
      rintro e w6 ⟨rfl, hb6⟩
      have HB6 := Lib.hid (below_then HB5.out hb6)
      have HQ6 := Lib.hid (HQ5.out.later hb6)
      have HR6 := Lib.hid (HR5.out.later hb6)
      have HO6 := Lib.hid (Cd.ow_later HO5.out hb6)
      have x0 := HR6.out.c0
      have x1 := HR6.out.c1
      have xf0 := HR6.out.f0
      have xf1 := HR6.out.f1
      clear hb6 HF
      by_cases hf : fmtQ N L = s
      · have HP := Lib.hid (HOK.out.2.2 HV2.out hf)
        have t1 : ((fmtQ N L).toList == s.toList) = true := by rw [hf]; simp
        have y0 := HQ6.out.c0
        have y1 := HQ6.out.c1
        have ykl := HQ6.out.lt
        clear hf HOK
        generalize fmtQ N L = F at *
        go_wp2_with fail
        obtain ⟨k0, k1⟩ := set2 (w := w6) (k := w.heap.size) (x := .int .i64 N) (y := .slice (some ⟨g, 0, none⟩) L.length c) x0 x1
        have hfar : w.heap.size ∉ fp := fun q => by
          have h1 := (HFP.out _ q).1
          have h2 := HZ1.out
          have h3 := HZ0.out
          omega
        refine bodyPost_ret (v := .tuple #[.agg #[.int .i64 N, .slice (some ⟨g, 0, none⟩) L.length c], .bool true]) (by simp [results, Tryd.results23, go_sem, k0, k1]) rfl (QAns.yes HP.out.1 HP.out.2.1 HP.out.2.2 (ow_setCell (ow_setCell (atomsC.ow_base HO6.out HB1.out.size) hfar _) hfar _) HND.out ?_)
        exact (HB6.out.setCell (Nat.le_refl _) _).setCell (Nat.le_refl _) _
      · have HP := Lib.hid (HOK.out.2.1 hf)
        have t1 := str_ne hf
        clear hf HOK
        generalize fmtQ N L = F at *
        go_wp2_with fail
        obtain ⟨k0, k1⟩ := set2 (w := w6) (k := w.heap.size) (x := .int .i64 0) (y := .slice none 0 0) x0 x1
        refine bodyPost_ret (v := .tuple #[.agg #[.int .i64 0, .slice none 0 0], .bool false]) (by simp [results, Tryd.results23, go_sem, k0, k1]) rfl (QAns.no HP.out ?_)
        exact (HB6.out.setCell (Nat.le_refl _) _).setCell (Nat.le_refl _) _
end Go.Proofs.YtdjgaffiildijabDoor.QryPar
