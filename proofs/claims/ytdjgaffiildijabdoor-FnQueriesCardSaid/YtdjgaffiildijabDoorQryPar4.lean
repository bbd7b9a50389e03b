/- Queries: read: the model's function. -/
import Derived.Test.YtdjgaffiildijabDoorQryPar3
import Derived.Test.YtdjgaffiildijabDoorTabParse
import Derived.Deep.QuietTactic
namespace Go.Proofs.YtdjgaffiildijabDoor.QryPar
open Go Go.RowKit Byt Ints IntsLaw Cd Rows2 Tab TabSpec Exact Atom QryMath QrySpec QryImp MkAtom SlMath Draw
open TabParse (strC strsC info_str cutB ba cuts)
open QryFmt (KeptF strs_at)

theorem loc2_set1 {w : World} {X : Nat} {a b : Value} (h : Loc2 w X a b) (v : Value) : Loc2 (w.setCell ⟨X, 1, none⟩ v) X a v :=
  ⟨by rw [World.cell?_setCell_other _ _ _ _ (by simp)]; exact h.c0, World.cell?_setCell_same _ _ _ h.c1, by simpa using h.f0, by simpa using h.f1⟩
theorem touch_old {fp fq : List Nat} {w a b : World} (h : Cd.Touch fp w a) (k : Cd.Touch fq a b) (hf : ∀ x ∈ fq, x ∈ fp ∨ w.heap.size ≤ x) : Cd.Touch fp w b :=
  ⟨k.os.trans h.os, k.tape.trans h.tape, k.output.trans h.output, Nat.le_trans h.size k.size, fun i hi hn => by
    have hq : i ∉ fq := fun q => by
      rcases hf i q with r | r
      · exact hn r
      · omega
    rw [k.block i (Nat.lt_of_lt_of_le hi h.size) hq]
    exact h.block i hi hn⟩
/-- The variables whose names the byte is, of those below v. -/
def pVk (b : UInt8) (v : Nat) : List Int := ((List.range v).filter fun (u : Nat) => vb (u : Int) == b).map Int.ofNat
theorem pVk_yes {b : UInt8} {v : Nat} (h : vb (v : Int) = b) : pVk b (v + 1) = pVk b v ++ [(v : Int)] := by
  unfold pVk
  rw [List.range_succ, List.filter_append, List.map_append]
  simp [h]
theorem pVk_no {b : UInt8} {v : Nat} (h : ¬ vb (v : Int) = b) : pVk b (v + 1) = pVk b v := by
  unfold pVk
  rw [List.range_succ, List.filter_append, List.map_append]
  simp [h]
theorem pVk_nat : ∀ n < 256, pVk (UInt8.ofNat n) 4 = pV (UInt8.ofNat n) := by decide +kernel
theorem pVk_all (b : UInt8) : pVk b 4 = pV b := by
  have := pVk_nat b.toNat (UInt8.toNat_lt b)
  rwa [UInt8.ofNat_toNat] at this
/-- The variables of the bytes of a word from 2 on, ahead of t. -/
def vsT (x : List UInt8) (t : Nat) : List Int := ((x.drop 2).take (t - 2)).flatMap pV
theorem vsT_two (x : List UInt8) : vsT x 2 = [] := by simp [vsT]
theorem vsT_succ {x : List UInt8} {t : Nat} (h2 : 2 ≤ t) (ht : t < x.length) : vsT x (t + 1) = vsT x t ++ pV x[t] := by
  unfold vsT
  have e : t + 1 - 2 = (t - 2) + 1 := by omega
  rw [e, List.take_succ_eq_append_getElem (by rw [List.length_drop]; omega), List.flatMap_append]
  have e2 : (x.drop 2)[t - 2]'(by rw [List.length_drop]; omega) = x[t] := by
    rw [List.getElem_drop]
    congr 1
    omega
  rw [e2]
  simp
theorem vsT_all (x : List UInt8) : vsT x (x.length - 1) = ((x.drop 2).take (x.length - 3)).flatMap pV := by
  unfold vsT
  have e : x.length - 1 - 2 = x.length - 3 := by omega
  rw [e]
theorem pV_bd {b : UInt8} : ∀ x ∈ pV b, 0 ≤ x ∧ x ≤ 3 := by
  intro x hx
  unfold pV at hx
  split at hx
  · simp at hx; omega
  · split at hx
    · simp at hx; omega
    · split at hx
      · simp at hx; omega
      · split at hx
        · simp at hx; omega
        · simp at hx
theorem vsT_bd {x : List UInt8} {t : Nat} : ∀ y ∈ vsT x t, 0 ≤ y ∧ y ≤ 3 := by
  intro y hy
  unfold vsT at hy
  obtain ⟨b, _, hb⟩ := List.mem_flatMap.1 hy
  exact pV_bd y hb
theorem pVk_bd {b : UInt8} {v : Nat} (h : v ≤ 4) : ∀ x ∈ pVk b v, 0 ≤ x ∧ x ≤ 3 := by
  intro x hx
  unfold pVk at hx
  obtain ⟨y, hy, rfl⟩ := List.mem_map.1 hx
  have := List.mem_range.1 (List.mem_filter.1 hy).1
  simp only [Int.ofNat_eq_natCast]
  omega
theorem vsT_len (x : List UInt8) (t : Nat) : (vsT x t).length ≤ x.length := by
  unfold vsT
  have h1 : ∀ l : List UInt8, (l.flatMap pV).length ≤ l.length := by
    intro l
    induction l with
    | nil => simp
    | cons b l ih =>
      rw [List.flatMap_cons, List.length_append, List.length_cons]
      have : (pV b).length ≤ 1 := by
        unfold pV
        (repeat' split) <;> simp
      omega
  have h2 := h1 ((x.drop 2).take (t - 2))
  rw [List.length_take, List.length_drop] at h2
  omega
theorem pVk_len (b : UInt8) (v : Nat) : (pVk b v).length ≤ v := by
  unfold pVk
  rw [List.length_map]
  exact Nat.le_trans (List.length_filter_le _ _) (by rw [List.length_range]; exact Nat.le_refl _)
theorem pL_bd {s : ByteArray} : ∀ A ∈ pL s, ∀ x ∈ A.2, -1 ≤ x ∧ x ≤ 3 := fun A hA x hx => by
  unfold pL at hA
  obtain ⟨y, _, rfl⟩ := List.mem_map.1 hA
  unfold atS at hx
  simp only at hx
  obtain ⟨b, _, hb⟩ := List.mem_flatMap.1 hx
  have := pV_bd x hb
  omega
theorem one_byte {x : ByteArray} {t : Nat} (h : t < x.size) : x.extract t (t + 1) = ⟨#[x.data.toList[t]'(by rw [Array.length_toList]; exact h)]⟩ := by
  have hl : t < x.data.toList.length := by rw [Array.length_toList]; exact h
  rw [TabParse.extract_ba]
  have e : t + 1 - t = 1 := by omega
  rw [e, List.drop_eq_getElem_cons hl]
  simp [ba]
theorem cuts_at {s : ByteArray} {k : Nat} (h : k < (cuts s).length) (h2 : k < (pL s).length) : (pL s)[k] = atS ((cuts s)[k]).data.toList := by
  unfold pL cuts ba at *
  simp
theorem cuts_len (s : ByteArray) : (cuts s).length = (pL s).length := by unfold pL cuts; simp
theorem cuts_ok {s : ByteArray} (h : pOk s = true) : (cuts s).length ≤ 4 ∧ ∀ x ∈ cuts s, 4 ≤ x.size ∧ x.size ≤ 6 := by
  obtain ⟨h1, h2⟩ := pOk_words h
  refine ⟨by unfold cuts; rw [List.length_map]; exact h1, fun x hx => ?_⟩
  unfold cuts at hx
  obtain ⟨y, hy, rfl⟩ := List.mem_map.1 hx
  have := h2 y hy
  show 4 ≤ y.toArray.size ∧ y.toArray.size ≤ 6
  rw [List.size_toArray]
  exact this
set_option maxRecDepth 100000 in
set_option maxHeartbeats 6400000 in
theorem spec_parse (s : ByteArray) (w : World) (hs : s.size ≤ 1048576) :
    Calls Tryd.prog 22 #[.string s] w fun e w' => QAns s w e w' := by
  have HCUT := Lib.hid (fun w' => TabParse.spec_cut s w' hs)
  have HWL := Lib.hid (cuts_len s)
  have HAT := Lib.hid (fun k h h2 => cuts_at (s := s) (k := k) h h2)
  have HCO := Lib.hid (fun (h : pOk s = true) => cuts_ok h)
  have HBD := Lib.hid (pL_bd (s := s))
  have HOK := Lib.hid (And.intro (fun (h : qOk (pN s) (pL s) = false) => (show pOk s = false by unfold pOk; rw [h]; rfl)) (And.intro (fun (h : fmtQ (pN s) (pL s) ≠ s) => (show pOk s = false by unfold pOk; rw [decide_eq_false h, Bool.and_false])) (fun (h1 : qOk (pN s) (pL s) = true) (h2 : fmtQ (pN s) (pL s) = s) => (show pOk s = true from pOk_iff.2 ⟨h1, h2⟩))))
  have HIN := Lib.hid (show mx (allV (pL s)) = pN s from rfl)
  have hYES : ∀ (u : Value) (fp : List Nat) (w' : World), pOk s = true → atomsC.ow w' w.heap.size [u] (pL s) fp → fp.Nodup → Below w.heap.size w w' → QAns s w (.returned (.tuple #[.agg #[.int .i64 (pN s), u], .bool true])) w' := fun u fp w' h ho hn hb => QAns.yes h rfl rfl ho hn hb
  have HYES := Lib.hid hYES
  have HNO := Lib.hid (fun (w' : World) (h : pOk s = false) (hb : Below w.heap.size w w') => QAns.no (s := s) h hb)
  generalize hQA : QAns s w = QA at *
  generalize hOKs : pOk s = ok at *
  generalize hcs : cuts s = ws at *
  generalize hPL : pL s = L at *
  generalize hPN : pN s = N at *
  clear hYES hQA hOKs hcs hPL hPN hs
  go_enter Tryd.func22, Tryd.ntmps22
  go_wp2_with fail
  generalize hW : (w.alloc _).alloc _ = W
  obtain ⟨r0, r1, hz0, hb0⟩ := start2g w _ _ hW
  have HB0 := Lib.hid hb0
  have HR0 := Lib.hid (Loc2.of r0)
  have HQ0 := Lib.hid (Loc2.of r1)
  have HZ0 := Lib.hid hz0
  clear hW r0 r1 hb0 hz0
  refine (HCUT.out W).mono ?_
  rintro e w2 ⟨vw, fw, rfl, how, hnd, hb2⟩
  obtain ⟨aw, cw, rfl⟩ := Cd.ow_slice (c := strC) how
  have HB2 := Lib.hid (below_then HB0.out hb2)
  have HR2 := Lib.hid (HR0.out.later hb2)
  have HQ2 := Lib.hid (HQ0.out.later hb2)
  have HOW2 := Lib.hid (show strsC.rd w2 (fun b => b ∈ fw) _ ws from strsC.ow_rd how)
  have HFW := Lib.hid (fun b (h : b ∈ fw) => strsC.ow_lt how b h)
  have HZ2 := Lib.hid hb2.size
  clear how hnd hb2 HCUT
  go_wp2_with fail
  go_loopw [6] (fun i wr => ∃ (k : Nat) (sl : Value) (fp : List Nat), k ≤ ws.length ∧ k ≤ 5 ∧ i = .int .i64 k ∧ Loc2 wr (w.heap.size + 1) (.int .i64 (mx (allV (L.take k)))) sl ∧ atomsC.ow wr w2.heap.size [sl] (L.take k) fp ∧ fp.Nodup ∧ Cd.Touch [w.heap.size + 1] w2 wr) (fun i _ => ws.length - (intOf i).toNat)
  case atStart => exact ⟨0, _, [], Nat.zero_le _, by omega, rfl, HQ2.out, Cd.ow_nil _ _, by simp, Cd.Touch.refl _ _⟩
  case round =>
    obtain ⟨k, sl, fp, hk, hk5, rfl, hq, how, hnd, ht⟩ := hrel
    have HQ := Lib.hid hq
    have HOW := Lib.hid how
    have HND := Lib.hid hnd
    have HT := Lib.hid ht
    have HRW := Lib.hid (Cd.touched HOW2.out ht (fun b hb q => by
      rw [List.mem_singleton.1 hb] at q
      have h1 := (HFW.out _ q).1
      have h2 := HZ0.out
      omega))
    have HBW := Lib.hid (Cd.Touch.below HB2.out ht (fun b hb => by rw [List.mem_singleton.1 hb]; omega))
    have HRR := Lib.hid (HR2.out.touched ht (by simp))
    have hq0 := hq.c0
    have hq1 := hq.c1
    have hql := hq.lt
    clear hq how hnd ht
    by_cases hlt : k < ws.length
    case neg =>
      have ek : k = ws.length := by omega
      have eT : L.take k = L := List.take_of_length_le (by rw [← HWL.out]; omega)
      have hqf := HQ.out
      have hof := HOW.out
      rw [eT, HIN.out] at hqf
      rw [eT] at hof
      obtain ⟨asl, csl, rfl⟩ := Cd.ow_slice (c := atomC) hof
      have HQF := Lib.hid hqf
      have HOF := Lib.hid hof
      have HV := Lib.hid (spec_valid N (.slice asl L.length csl) L _ wr (atomsC.ow_rd hof))
      have q0 := hqf.c0
      have q1 := hqf.c1
      clear hq0 hq1 hqf hof
      subst ek
      go_wp2_with fail
      clear q0 q1
      refine HV.out.mono ?_
      rintro e w5 ⟨rfl, hb5⟩
      have HB5 := Lib.hid (below_then HBW.out hb5)
      have HR5 := Lib.hid (HRR.out.later hb5)
      have HQ5 := Lib.hid (HQF.out.later hb5)
      have HO5 := Lib.hid (Cd.ow_later HOF.out hb5)
      have HF := Lib.hid (QryFmt.spec_fmt N (.slice asl L.length csl) L _ w5 (atomsC.ow_rd HO5.out))
      clear hb5
      cases hv : qOk N L
      · have HP := Lib.hid (HOK.out.1 hv)
        have x0 := HR5.out.c0
        have x1 := HR5.out.c1
        have xf0 := HR5.out.f0
        have xf1 := HR5.out.f1
        clear hv
        go_wp2_with fail
        obtain ⟨k0, k1⟩ := set2 (w := w5) (k := w.heap.size) (x := .int .i64 0) (y := .slice none 0 0) x0 x1
        refine bodyPost_ret (v := .tuple #[.agg #[.int .i64 0, .slice none 0 0], .bool false]) (by simp [results, Tryd.results22, go_sem, k0, k1]) rfl (HNO.out _ HP.out ?_)
        exact (HB5.out.setCell (Nat.le_refl _) _).setCell (Nat.le_refl _) _
      have HV2 := Lib.hid hv
      have y0 := HQ5.out.c0
      have y1 := HQ5.out.c1
      clear hv
      go_wp2_with fail
      clear y0 y1
      refine HF.out.mono ?_
      rintro e w6 ⟨rfl, hb6⟩
      have HB6 := Lib.hid (below_then HB5.out hb6)
      have HQ6 := Lib.hid (HQ5.out.later hb6)
      have HR6 := Lib.hid (HR5.out.later hb6)
      have HO6 := Lib.hid (Cd.ow_later HO5.out hb6)
      have x0 := HR6.out.c0
      have x1 := HR6.out.c1
      have xf0 := HR6.out.f0
      have xf1 := HR6.out.f1
      clear hb6 HF
      by_cases hf : fmtQ N L = s
      · have HP := Lib.hid (HOK.out.2.2 HV2.out hf)
        have t1 : ((fmtQ N L).toList == s.toList) = true := by rw [hf]; simp
        have y0 := HQ6.out.c0
        have y1 := HQ6.out.c1
        have ykl := HQ6.out.lt
        clear hf HOK
        generalize fmtQ N L = F at *
        go_wp2_with fail
        obtain ⟨k0, k1⟩ := set2 (w := w6) (k := w.heap.size) (x := .int .i64 N) (y := .slice asl L.length csl) x0 x1
        have hfar : w.heap.size ∉ fp := fun q => by
          have h1 := (atomsC.ow_lt HOF.out _ q).1
          have h2 := HZ2.out
          have h3 := HZ0.out
          omega
        refine bodyPost_ret (v := .tuple #[.agg #[.int .i64 N, .slice asl L.length csl], .bool true]) (by simp [results, Tryd.results22, go_sem, k0, k1]) rfl (HYES.out _ fp _ HP.out (ow_setCell (ow_setCell (atomsC.ow_base HO6.out HB2.out.size) hfar _) hfar _) HND.out ?_)
        exact (HB6.out.setCell (Nat.le_refl _) _).setCell (Nat.le_refl _) _
      have HP := Lib.hid (HOK.out.2.1 hf)
      have t1 := str_ne hf
      clear hf HOK
      generalize fmtQ N L = F at *
      go_wp2_with fail
      obtain ⟨k0, k1⟩ := set2 (w := w6) (k := w.heap.size) (x := .int .i64 0) (y := .slice none 0 0) x0 x1
      refine bodyPost_ret (v := .tuple #[.agg #[.int .i64 0, .slice none 0 0], .bool false]) (by simp [results, Tryd.results22, go_sem, k0, k1]) rfl (HNO.out _ HP.out ?_)
      exact (HB6.out.setCell (Nat.le_refl _) _).setCell (Nat.le_refl _) _
    by_cases hk4 : (k : Int) ≤ 4
    case neg =>
      have HP := Lib.hid (show ok = false by
        cases hp : ok
        · rfl
        · have := (HCO.out hp).1; omega)
      have k5 : k = 5 := by omega
      have HQK := Lib.hid (show qOk (mx (allV (L.take k))) (L.take k) = false from decide_eq_false fun q => by
        have h1 := q.2.2.2.1
        rw [List.length_take] at h1
        have h2 := HWL.out
        omega)
      obtain ⟨asl, csl, rfl⟩ := Cd.ow_slice (c := atomC) HOW.out
      have HV := Lib.hid (spec_valid (mx (allV (L.take k))) (.slice asl (L.take k).length csl) (L.take k) _ wr (atomsC.ow_rd HOW.out))
      rw [HQK.out] at HV
      have q0 := HQ.out.c0
      have q1 := HQ.out.c1
      clear hq0 hq1 HOW HQ HQK k5
      generalize mx (allV (L.take k)) = mm at *
      generalize L.take k = LT at *
      go_wp2_with fail
      clear q0 q1
      refine HV.out.mono ?_
      rintro e w5 ⟨rfl, hb5⟩
      have HB5 := Lib.hid (below_then HBW.out hb5)
      have HR5 := Lib.hid (HRR.out.later hb5)
      clear hb5
      have x0 := HR5.out.c0
      have x1 := HR5.out.c1
      have xf0 := HR5.out.f0
      have xf1 := HR5.out.f1
      go_wp2_with fail
      obtain ⟨k0, k1⟩ := set2 (w := w5) (k := w.heap.size) (x := .int .i64 0) (y := .slice none 0 0) x0 x1
      refine bodyPost_ret (v := .tuple #[.agg #[.int .i64 0, .slice none 0 0], .bool false]) (by simp [results, Tryd.results22, go_sem, k0, k1]) rfl (HNO.out _ HP.out ?_)
      exact (HB5.out.setCell (Nat.le_refl _) _).setCell (Nat.le_refl _) _
    have hltL : k < L.length := by rw [← HWL.out]; exact hlt
    obtain ⟨b, off, cap', e1, hbB, hc⟩ := strs_at HRW.out hlt
    injection e1 with e1 e2 e3
    subst e1 e3
    have p1 : (0 : Int) ≤ (k : Int) := by omega
    have p2 : (k : Int) < (ws.length : Int) := by omega
    have HE := Lib.hid (HAT.out k hlt hltL)
    have HCK := Lib.hid (fun (h : ok = true) => (HCO.out h).2 _ (List.getElem_mem hlt))
    have HLT := Lib.hid hlt
    have HNX := Lib.hid (show mx (allV (L.take (k + 1))) = mxF (mx (allV (L.take k))) L[k].2 by unfold mx; rw [allV_succ hltL, mxF_app])
    have HTK := Lib.hid (show L.take (k + 1) = L.take k ++ [L[k]] from List.take_succ_eq_append_getElem hltL)
    have HLK := Lib.hid (show (L.take k).length + 1 ≤ 1000000000 by rw [List.length_take]; omega)
    have HPB := Lib.hid (mx_bd (l := allV (L.take k)) (fun x hx => by
      unfold allV at hx
      obtain ⟨m, hm, hxm⟩ := List.mem_flatten.1 hx
      obtain ⟨A, hA, rfl⟩ := List.mem_map.1 hm
      exact HBD.out A (List.mem_of_mem_take hA) x hxm))
    generalize mx (allV (L.take k)) = m0 at *
    generalize hx : ws[k] = x at *
    have HXE := Lib.hid hx
    clear hx
    by_cases hx4 : (x.size : Int) < 4
    · have HP := Lib.hid (show ok = false by
        cases hp : ok
        · rfl
        · have := HCK.out hp; omega)
      have x0 := HRR.out.c0
      have x1 := HRR.out.c1
      have xf0 := HRR.out.f0
      have xf1 := HRR.out.f1
      go_wp2_with fail
      obtain ⟨k0, k1⟩ := set2 (w := wr) (k := w.heap.size) (x := .int .i64 0) (y := .slice none 0 0) x0 x1
      refine bodyPost_ret (v := .tuple #[.agg #[.int .i64 0, .slice none 0 0], .bool false]) (by simp [results, Tryd.results22, go_sem, k0, k1]) rfl (HNO.out _ HP.out ?_)
      exact (HBW.out.setCell (Nat.le_refl _) _).setCell (Nat.le_refl _) _
    by_cases hx6 : (6 : Int) < (x.size : Int)
    · have HP := Lib.hid (show ok = false by
        cases hp : ok
        · rfl
        · have := HCK.out hp; omega)
      have x0 := HRR.out.c0
      have x1 := HRR.out.c1
      have xf0 := HRR.out.f0
      have xf1 := HRR.out.f1
      go_wp2_with fail
      obtain ⟨k0, k1⟩ := set2 (w := wr) (k := w.heap.size) (x := .int .i64 0) (y := .slice none 0 0) x0 x1
      refine bodyPost_ret (v := .tuple #[.agg #[.int .i64 0, .slice none 0 0], .bool false]) (by simp [results, Tryd.results22, go_sem, k0, k1]) rfl (HNO.out _ HP.out ?_)
      exact (HBW.out.setCell (Nat.le_refl _) _).setCell (Nat.le_refl _) _
    have x4 : 4 ≤ x.size ∧ x.size ≤ 6 := by omega
    have X4 := Lib.hid x4
    have s1 : (1 : Int) ≤ (x.size : Int) := by omega
    go_wp2_with fail
    generalize hW6 : wr.alloc _ = W6
    obtain ⟨ra, hz6, hb6⟩ := start1 wr _ hW6
    have HA6 := Lib.hid (Loc2.of ra)
    have HQ6 := Lib.hid (HQ.out.later hb6)
    have HOW6 := Lib.hid (Cd.ow_later HOW.out hb6)
    have HT6 := Lib.hid (HT.out.trans (Cd.Touch.of_below hb6))
    have HRW6 := Lib.hid (Cd.later HRW.out hb6)
    have HZ6 := Lib.hid hz6
    have HKS := Lib.hid (show w.heap.size + 1 < w2.heap.size ∧ w2.heap.size ≤ wr.heap.size from ⟨by have := HZ0.out; have := HZ2.out; omega, HT.out.size⟩)
    have HFA := Lib.hid (fun b (h : b ∈ fp) => atomsC.ow_lt HOW.out b h)
    have HB6 := Lib.hid (below_then HBW.out hb6)
    have HR6 := Lib.hid (HRR.out.later hb6)
    have HNM := Lib.hid (show x.extract 0 1 = (L[k]).1 by
      rw [HE.out, TabParse.extract_ba]
      simp [atS, ba])
    have HNZ := Lib.hid (show (x.extract 0 1).size ≤ maxLen by rw [ByteArray.size_extract]; unfold maxLen; have := X4.out; omega)
    have HVS := Lib.hid (show vsT x.data.toList (x.size - 1) = (L[k]).2 by
      rw [HE.out]
      have h4 : x.data.toList.length = x.size := Array.length_toList
      rw [← h4, vsT_all]
      rfl)
    clear hW6 ra hz6 hb6 hc hbB hq0 hq1 hql x4 hx4 hx6
    generalize wr.heap.size = ka at *
    have HXL := Lib.hid (show x.data.toList.length = x.size from Array.length_toList)
    generalize hX : x.data.toList = X at *
    have HX := Lib.hid hX
    generalize x.extract 0 1 = NM at *
    clear hX
    go_loopw [8] (fun i wr => ∃ (t : Nat) (sv : Value) (fv : List Nat), 2 ≤ t ∧ t ≤ x.size - 1 ∧ i = .int .i64 t ∧ Loc2 wr (w.heap.size + 1) (.int .i64 (mxF m0 (vsT X t))) sl ∧ Loc2 wr ka (.string NM) sv ∧ rowC.ow wr W6.heap.size [sv] (vsT X t) fv ∧ fv.Nodup ∧ Cd.Touch [w.heap.size + 1, ka] W6 wr) (fun i _ => x.size - (intOf i).toNat)
    case atStart => exact ⟨2, _, [], Nat.le_refl _, by have := X4.out; omega, rfl, by rw [vsT_two]; exact HQ6.out, HA6.out, by rw [vsT_two]; exact Cd.ow_nil _ _, by simp, Cd.Touch.refl _ _⟩
    case round =>
      obtain ⟨t, sv, fv, ht2, htl, rfl, hq, ha, how, hnd, ht⟩ := hrel
      have HQJ := Lib.hid hq
      have HAJ := Lib.hid ha
      have HOJ := Lib.hid how
      have HNJ := Lib.hid hnd
      have HTJ := Lib.hid ht
      have hnw : ∀ b ∈ [w.heap.size + 1, ka], b ∉ fw := fun b hb q => by
        have h1 := HFW.out _ q
        have h2 := HKS.out
        have h3 := HZ0.out
        rcases List.mem_cons.1 hb with r | r
        · omega
        · rw [List.mem_singleton.1 r] at h1; omega
      have HRJ := Lib.hid (Cd.touched HRW6.out ht hnw)
      obtain ⟨b', off', cap', e1, hbB, hc⟩ := strs_at HRJ.out HLT.out
      simp only [Value.slice.injEq, Option.some.injEq, Addr.mk.injEq, and_true, true_and] at e1
      obtain ⟨⟨rfl, rfl⟩, rfl⟩ := e1
      replace hc := (show wr.cell? ⟨b, off + k, none⟩ = some (.string x) from by rw [← HXE.out]; exact hc)
      have p3 : (k : Int) < (ws.length : Int) := by have := HLT.out; omega
      have p0 : (0 : Int) ≤ (k : Int) := by omega
      have s2 : IntKind.i64.wrap ((x.size : Int) - 1) = (x.size : Int) - 1 := by rw [IntKind.wrap_i64]; have := X4.out; omega
      clear hq ha how hnd ht
      by_cases htt : t < x.size - 1
      · have t1 : (t : Int) < (x.size : Int) - 1 := by omega
        have htX : t < X.length := by rw [HXL.out]; omega
        have HS1 := Lib.hid (vsT_succ (x := X) ht2 htX)
        have h1b : x.extract t (t + 1) = ⟨#[X[t]]⟩ := by
          rw [one_byte (by omega)]
          congr 2
          simp only [HX.out]
        have H1B := Lib.hid h1b
        clear h1b
        generalize hBt : X[t] = B at *
        have HTT := Lib.hid htt
        have HT2 := Lib.hid ht2
        have HPT := Lib.hid (vsT_bd (x := X) (t := t))
        have HVL := Lib.hid (show (vsT X t).length ≤ 6 by have := vsT_len X t; rw [HXL.out] at this; have := X4.out; omega)
        clear hBt htX htl htt
        go_wp2_with fail
        generalize vsT X t = vt at *
        go_loopw [9] (fun i wr => ∃ (v : Nat) (sv : Value) (fv : List Nat), v ≤ 4 ∧ i = .int .i64 v ∧ Loc2 wr (w.heap.size + 1) (.int .i64 (mxF m0 (vt ++ pVk B v))) sl ∧ Loc2 wr ka (.string NM) sv ∧ rowC.ow wr W6.heap.size [sv] (vt ++ pVk B v) fv ∧ fv.Nodup ∧ Cd.Touch [w.heap.size + 1, ka] W6 wr) (fun i _ => 4 - (intOf i).toNat)
        case atStart => exact ⟨0, sv, fv, by omega, rfl, by rw [show pVk B 0 = [] from rfl, List.append_nil]; exact HQJ.out, HAJ.out, by rw [show pVk B 0 = [] from rfl, List.append_nil]; exact HOJ.out, HNJ.out, HTJ.out⟩
        case round =>
          obtain ⟨v, sv, fv, hv4, rfl, hq, ha, how, hnd, ht⟩ := hrel
          have HQV := Lib.hid hq
          have HAV := Lib.hid ha
          have HOV := Lib.hid how
          have HNV := Lib.hid hnd
          have HTV := Lib.hid ht
          have HRV := Lib.hid (Cd.touched HRW6.out ht hnw)
          obtain ⟨b', off', cap', e1, hbB, hc⟩ := strs_at HRV.out HLT.out
          simp only [Value.slice.injEq, Option.some.injEq, Addr.mk.injEq, and_true, true_and] at e1
          obtain ⟨⟨rfl, rfl⟩, rfl⟩ := e1
          replace hc := (show wr.cell? ⟨b, off + k, none⟩ = some (.string x) from by rw [← HXE.out]; exact hc)
          clear hq ha how hnd ht
          by_cases hv : v < 4
          · have v0 : (0 : Int) ≤ (v : Int) := by omega
            have v1 : (v : Int) < 4 := by omega
            have i1 : (0 : Int) ≤ (t : Int) := by omega
            have i2 : (t : Int) + 1 ≤ (x.size : Int) := by omega
            have i3 : (t : Int) < 6 := by have := X4.out; omega
            have i4 : ((t : Int) + 1).toNat = t + 1 := by omega
            have HV4 := Lib.hid hv
            have hvn := fun q => (QrySpec.spec_name (v : Int) (wr.drewN q)).mono fun _ _ h => (show _ ∧ _ from ⟨h.1, h.2.symm⟩)
            have hvm : vnm (v : Int) = ⟨#[vb (v : Int)]⟩ := QryFmt.vnm_in ⟨v0, v1⟩
            by_cases hm : vb (v : Int) = B
            · have HPK := Lib.hid (pVk_yes hm)
              have t5 : ((vnm (v : Int)).toList == (x.extract t (t + 1)).toList) = true := by rw [hvm, hm, H1B.out]; simp
              have HVN := Lib.hid (show ∀ q, Calls Tryd.prog 69 #[.int .i64 (v : Int)] (wr.drewN q) fun e w' => e = .returned (.string (vnm (v : Int))) ∧ w' = wr.drewN q from hvn)
              have HMX := Lib.hid (show mxF m0 (vt ++ pVk B (v + 1)) = max (mxF m0 (vt ++ pVk B v)) ((v : Int) + 1) by
                rw [HPK.out, ← List.append_assoc, mxF_app]
                rfl)
              have HPA := Lib.hid (show vt ++ pVk B (v + 1) = (vt ++ pVk B v) ++ [(v : Int)] by rw [HPK.out, List.append_assoc])
              have hmb : 0 ≤ mxF m0 (vt ++ pVk B v) ∧ mxF m0 (vt ++ pVk B v) ≤ 4 :=
                ⟨Int.le_trans HPB.out.1 (mxF_ge _ _), mxF_le _ _ _ HPB.out.2 fun y hy => by
                  rcases List.mem_append.1 hy with q | q
                  · have := HPT.out y q; omega
                  · have := pVk_bd (b := B) (v := v) (by omega) y q; omega⟩
              have HLEN := Lib.hid (show (vt ++ pVk B v).length + 1 ≤ 1000000000000 by
                rw [List.length_append]
                have h1 := HVL.out
                have h2 := pVk_len B v
                omega)
              obtain ⟨as_, cs_, rfl⟩ := Cd.ow_slice HOV.out
              have HFV := Lib.hid (fun b (h : b ∈ fv) => (rowC.ow_lt HOV.out b h).1)
              have mb1 := hmb.1
              have mb2 := hmb.2
              clear hm hvm hvn hmb
              generalize vnm (v : Int) = V at *
              generalize mxF m0 (vt ++ pVk B v) = m at *
              generalize vt ++ pVk B v = cur at *
              go_wp2
              go_quiet (first | (go_at_call 69; refine Calls.quiet_of_same (HVN.out _)))
              generalize hwd : wr.drewN nq = wd
              have hbd : Below wr.heap.size wr wd := by rw [← hwd]; exact QryImp.below_drewN (Below.refl _ wr)
              have HQD := Lib.hid (HQV.out.later hbd)
              have HAD := Lib.hid (HAV.out.later hbd)
              have HOD := Lib.hid (Cd.ow_later HOV.out hbd)
              have HTD := Lib.hid (HTV.out.trans (Cd.Touch.of_below hbd))
              have HDS := Lib.hid (Nat.le_trans HTV.out.size hbd.size)
              clear hwd hbd hc hbB
              have g1 := HAD.out.c1
              have hAl := below_alloc wd (.cells #[.int .i64 (v : Int)] 3)
              have HAL := Lib.hid (And.intro (Cd.ow_later HOD.out hAl) (show (wd.alloc (.cells #[.int .i64 (v : Int)] 3)).cell? ⟨wd.heap.size, 0, none⟩ = some (.int .i64 (v : Int)) by simp))
              have HA3 := Lib.hid (show Cd.int.ow (wd.alloc (.cells #[.int .i64 (v : Int)] 3)) W6.heap.size [.int .i64 (v : Int)] (v : Int) [] from ⟨rfl, ⟨by omega, by omega⟩, rfl⟩)
              have HAB := Lib.hid (Nat.le_trans HDS.out hAl.size)
              have HQE := Lib.hid (HQD.out.later hAl)
              have HAE := Lib.hid (HAD.out.later hAl)
              have HTE := Lib.hid (HTD.out.trans (Cd.Touch.of_below hAl))
              clear hAl
              go_wp2_with (first | (at_builtin; refine Cd.wpList_appendE (c := Cd.int) rfl rfl (.tmp 70) (.tmp 72) 57 rfl W6.heap.size 3 (.int .i64 0) 8 Tryd.underlying57 info_i64 rfl (by decide) _ _ _ rfl HAL.out.1 HNV.out _ _ rfl HAL.out.2 _ _ HA3.out (by simp) (by simp) HLEN.out HAB.out ?_))
              intro g capn w3 fp3 ho3 hn3 hs3 ht3
              have hkq : w.heap.size + 1 ∉ fv := fun q => by have h1 := HFV.out _ q; have h2 := HKS.out; have h3 := HZ6.out; omega
              have hka : ka ∉ fv := fun q => by have h1 := HFV.out _ q; have h3 := HZ6.out; omega
              have HQ3 := Lib.hid (HQE.out.touched ht3 hkq)
              have HK3 := Lib.hid (HAE.out.touched ht3 hka)
              have HT3 := Lib.hid (touch_old HTE.out ht3 (fun y hy => .inr (HFV.out y hy)))
              have HO3 := Lib.hid (show rowC.ow w3 W6.heap.size _ (cur ++ [(v : Int)]) _ from ho3)
              have HF3 := Lib.hid (fun b (h : b ∈ fp3) => (rowC.ow_lt ho3 b h).1)
              have hne : ¬ w.heap.size + 1 = ka := by have := HKS.out; omega
              have hne2 : ¬ ka = w.heap.size + 1 := fun q => hne q.symm
              have HNE := Lib.hid hne
              have HN3 := Lib.hid hn3
              clear ho3 hs3 ht3 hkq hka g1 hn3
              have q0 := HQ3.out.c0
              have qf0 := HQ3.out.f0
              have a1 := HK3.out.c1
              have af1 := HK3.out.f1
              by_cases hmz : m < (v : Int) + 1
              · have HM := Lib.hid (show max m ((v : Int) + 1) = (v : Int) + 1 by omega)
                go_wp2_with fail
                go_roundw
                case rel => exact ⟨v + 1, _, fp3, by have := HV4.out; omega, by go_num, by rw [HMX.out, HM.out]; exact loc2_set0 (HQ3.out.set_far (fun q => HNE.out q.symm) _) _, (loc2_set1 HK3.out _).set_far (fun q => HNE.out q) _, by rw [HPA.out]; exact ow_setCell (ow_setCell HO3.out (fun q => by have h1 := HF3.out _ q; have h2 := HZ6.out; simp only at h1; omega) _) (fun q => by have h1 := HF3.out _ q; have h2 := HZ6.out; have h3 := HKS.out; simp only at h1; omega) _, HN3.out, touch_old (touch_old HT3.out (touch_set _) (fun y hy => .inl (by rw [List.mem_singleton.1 hy]; simp))) (touch_set _) (fun y hy => .inl (by rw [List.mem_singleton.1 hy]; simp))⟩
                case measure => have := HV4.out; simp [intOf]; omega
              · have HM := Lib.hid (show max m ((v : Int) + 1) = m by omega)
                go_wp2_with fail
                go_roundw
                case rel => exact ⟨v + 1, _, fp3, by have := HV4.out; omega, by go_num, by rw [HMX.out, HM.out]; exact loc2_set0 (HQ3.out.set_far (fun q => HNE.out q.symm) _) _, (loc2_set1 HK3.out _).set_far (fun q => HNE.out q) _, by rw [HPA.out]; exact ow_setCell (ow_setCell HO3.out (fun q => by have h1 := HF3.out _ q; have h2 := HZ6.out; simp only at h1; omega) _) (fun q => by have h1 := HF3.out _ q; have h2 := HZ6.out; have h3 := HKS.out; simp only at h1; omega) _, HN3.out, touch_old (touch_old HT3.out (touch_set _) (fun y hy => .inl (by rw [List.mem_singleton.1 hy]; simp))) (touch_set _) (fun y hy => .inl (by rw [List.mem_singleton.1 hy]; simp))⟩
                case measure => have := HV4.out; simp [intOf]; omega
            · have HPK := Lib.hid (pVk_no hm)
              have t5 := str_ne (a := vnm (v : Int)) (b := x.extract t (t + 1)) (by
                rw [hvm, H1B.out]
                intro q
                apply hm
                simpa using q)
              have HVN := Lib.hid (show ∀ q, Calls Tryd.prog 69 #[.int .i64 (v : Int)] (wr.drewN q) fun e w' => e = .returned (.string (vnm (v : Int))) ∧ w' = wr.drewN q from hvn)
              clear hm hvm hvn
              generalize vnm (v : Int) = V at *
              go_wp2
              go_quiet (first | (go_at_call 69; refine Calls.quiet_of_same (HVN.out _)))
              go_wp2
              go_roundw
              case rel => exact ⟨v + 1, sv, fv, by have := HV4.out; omega, by go_num, by rw [HPK.out]; exact HQV.out.later (QryImp.below_drewN (Below.refl _ wr)), HAV.out.later (QryImp.below_drewN (Below.refl _ wr)), by rw [HPK.out]; exact Cd.ow_later HOV.out (QryImp.below_drewN (Below.refl _ wr)), HNV.out, HTV.out.trans (Cd.Touch.of_below (QryImp.below_drewN (Below.refl _ wr)))⟩
              case measure => have := HV4.out; simp [intOf]; omega
          · have ev : v = 4 := by omega
            subst ev
            have t6 : (t : Int) < 6 := by have := X4.out; have := HTT.out; omega
            go_wp2_with fail
            go_roundw
            case rel => exact ⟨t + 1, sv, fv, by have := HT2.out; omega, by have := HTT.out; omega, by go_num, by rw [HS1.out, ← pVk_all]; exact HQV.out, HAV.out, by rw [HS1.out, ← pVk_all]; exact HOV.out, HNV.out, HTV.out⟩
            case measure => have := HTT.out; simp [intOf]; omega
      · have et : t = x.size - 1 := by omega
        have t1 : ¬ (t : Int) < (x.size : Int) - 1 := by omega
        have HAK := Lib.hid (show (NM, vsT X t) = L[k] from Prod.ext HNM.out (by rw [et]; exact HVS.out))
        have HM2 := Lib.hid (show mxF m0 (vsT X t) = mxF m0 L[k].2 by rw [et, HVS.out])
        obtain ⟨asl, csl, rfl⟩ := Cd.ow_slice (c := atomC) HOW6.out
        obtain ⟨av, cv, rfl⟩ := Cd.ow_slice HOJ.out
        have hfar : ∀ b ∈ fp, b ∉ [w.heap.size + 1, ka] := fun b hb q => by
          have h1 := HFA.out b hb
          have h2 := HKS.out
          rcases List.mem_cons.1 q with r | r
          · omega
          · rw [List.mem_singleton.1 r] at h1; omega
        have hOA := Cd.ow_touched HOW6.out HTJ.out hfar
        generalize hvt : vsT X t = vt at *
        have hAl := below_alloc wr (.cells #[.string NM, .slice av vt.length cv] 66)
        have HOA := Lib.hid (Cd.ow_later hOA hAl)
        have HAT2 := Lib.hid (at2 (row_alloc wr (.cells #[.string NM, .slice av vt.length cv] 66)))
        have HOT := Lib.hid (atom_ow (nm := NM) (rowC.ow_base (Cd.ow_later HOJ.out hAl) (show w2.heap.size ≤ W6.heap.size by have := HKS.out; have := HZ6.out; omega)) HNZ.out)
        have HFV := Lib.hid (show ∀ b ∈ fv, b ∉ fp from fun b hb q => by
          have h1 := (rowC.ow_lt HOJ.out b hb).1
          have h2 := (HFA.out b q).2
          have h3 := HZ6.out
          omega)
        have HBS := Lib.hid (show w2.heap.size ≤ (wr.alloc (.cells #[.string NM, .slice av vt.length cv] 66)).heap.size by
          have h1 := hAl.size
          have h2 := HTJ.out.size
          have h3 := HKS.out
          have h4 := HZ6.out
          omega)
        have HQE := Lib.hid (HQJ.out.later hAl)
        have HTE := Lib.hid (HTJ.out.trans (Cd.Touch.of_below hAl))
        have g0 := HQJ.out.c1
        have a0 := HAJ.out.c0
        have a1 := HAJ.out.c1
        clear hAl hOA
        generalize L.take k = LT at *
        go_wp2_with (first | (at_builtin; refine Cd.wpList_appendN (c := atomC) rfl (.tmp 82) (.tmp 84) 46 rfl w2.heap.size 66 (.agg #[.string ⟨#[]⟩, .slice none 0 0]) 2 40 rfl Tryd.underlying46 info_atom rfl (by decide) _ LT fp rfl HOA.out HND.out wr.heap.size _ rfl HAT2.out (NM, vt) fv HOT.out HNJ.out HFV.out HLK.out HBS.out ?_))
        intro g capn w3 fp3 ho3 hn3 hs3 ht3
        have hkq : w.heap.size + 1 ∉ fp := fun q => by have h1 := (HFA.out _ q).1; have h2 := HKS.out; omega
        have HQ3 := Lib.hid (HQE.out.touched ht3 hkq)
        have HTF := Lib.hid (touch_old (touch_old HT6.out HTE.out (fun y hy => by
          rcases List.mem_cons.1 hy with r | r
          · exact .inl (by rw [r]; simp)
          · rw [List.mem_singleton.1 r]; exact .inr HKS.out.2)) ht3 (fun y hy => .inr (HFA.out y hy).1))
        have HF3 := Lib.hid (fun b (h : b ∈ fp3) => (atomsC.ow_lt (show atomsC.ow w3 w2.heap.size _ (LT ++ [(NM, vt)]) fp3 from ho3) b h).1)
        have HO3 := Lib.hid (show atomsC.ow w3 w2.heap.size _ (LT ++ [(NM, vt)]) fp3 from ho3)
        have HN3 := Lib.hid hn3
        clear ho3 hn3 hs3 ht3 g0 a0 a1
        have q1 := HQ3.out.c1
        have qf1 := HQ3.out.f1
        have k6 : (k : Int) < 5 := by omega
        go_wp2_with fail
        go_roundw
        case rel => exact ⟨k + 1, _, fp3, by have := HLT.out; omega, by omega, by go_num, by rw [HNX.out, ← HM2.out]; exact loc2_set1 HQ3.out _, by rw [HTK.out, ← HAK.out]; exact ow_setCell HO3.out (fun q => by have h1 := HF3.out _ q; have h2 := HKS.out; simp only at h1; omega) _, HN3.out, touch_old HTF.out (touch_set _) (fun y hy => .inl hy)⟩
        case measure => have := HLT.out; simp [intOf]; omega
end Go.Proofs.YtdjgaffiildijabDoor.QryPar
