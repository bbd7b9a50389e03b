/- Databases: the program's reading. -/
import Derived.Test.YtdjgaffiildijabGreatDoorDbParse
import Derived.Test.YtdjgaffiildijabGreatDoorDbImp1
import Derived.Test.YtdjgaffiildijabGreatDoorParImp2
import Derived.Test.YtdjgaffiildijabGreatDoorParMath
import Derived.Lib.Split
namespace Go.Proofs.YtdjgaffiildijabGreatDoor.DbParse
open Go Go.RowKit Byt Ints IntsLaw Cd Rows2 Tab SlMath TabOpen TabElem SlTable Db TabSpec DbMath DbSpec DbExact DbAcc TabFmt TabParse

/-- The pieces, at most k + 1 of them: the last one holds the rest. -/
def join59 : List (List UInt8) → List UInt8
  | [] => []
  | [x] => x
  | x :: y :: xs => x ++ 59 :: join59 (y :: xs)
theorem join_cut : ∀ l, join59 (cutB 59 l) = l
  | [] => rfl
  | b :: r => by
    have ih := join_cut r
    have hne := cutB_ne 59 r
    unfold cutB
    split
    · rename_i e
      subst e
      cases hq : cutB 59 r with
      | nil => exact absurd hq hne
      | cons x xs => rw [hq] at ih; show [] ++ 59 :: join59 (x :: xs) = _; rw [ih]; rfl
    · split
      · rename_i hq; exact absurd hq hne
      · rename_i x xs hq
        rw [hq] at ih
        cases xs with
        | nil => show b :: x = b :: r; rw [← ih]; rfl
        | cons y ys => show (b :: x) ++ 59 :: join59 (y :: ys) = b :: r; rw [← ih]; rfl
def partsK (k : Nat) (ps : List (List UInt8)) : List (List UInt8) := if ps.length ≤ k then ps else ps.take k ++ [join59 (ps.drop k)]
theorem partsK_zero {ps : List (List UInt8)} (h : ps ≠ []) : partsK 0 ps = [join59 ps] := by
  unfold partsK
  rw [if_neg (by simpa using h)]
  simp
theorem partsK_succ (k : Nat) (x : List UInt8) (ps : List (List UInt8)) : partsK (k + 1) (x :: ps) = x :: partsK k ps := by
  unfold partsK
  rw [List.length_cons]
  by_cases h : ps.length ≤ k
  · rw [if_pos h, if_pos (by omega)]
  · rw [if_neg h, if_neg (by omega)]; simp
theorem idx_spec : ∀ (l : List UInt8) (c : UInt8), (Lib.indexByte l c = -1 ∧ c ∉ l) ∨ ∃ p r, l = p ++ c :: r ∧ c ∉ p ∧ Lib.indexByte l c = (p.length : Int)
  | [], c => .inl ⟨rfl, by simp⟩
  | b :: l, c => by
    by_cases e : b = c
    · subst e
      exact .inr ⟨[], l, rfl, by simp, by simp [Lib.indexByte]⟩
    · have hb : (b == c) = false := by simpa using e
      rcases idx_spec l c with ⟨h1, h2⟩ | ⟨p, r, rfl, h2, h3⟩
      · exact .inl ⟨by simp [Lib.indexByte, hb, h1], by simp [Ne.symm e, h2]⟩
      · refine .inr ⟨b :: p, r, rfl, by simp [Ne.symm e, h2], ?_⟩
        have : ((p.length : Int) == -1) = false := by rw [beq_eq_false_iff_ne]; omega
        simp [Lib.indexByte, hb, h3, this]
theorem cut_none : ∀ {l : List UInt8}, (59 : UInt8) ∉ l → cutB 59 l = [l]
  | [], _ => rfl
  | b :: r, h => by
    have hb : b ≠ 59 := fun e => h (by rw [e]; exact List.mem_cons_self)
    rw [cutB, if_neg hb, cut_none (fun q => h (List.mem_cons_of_mem _ q))]
theorem cut_first : ∀ {p : List UInt8} (r : List UInt8), (59 : UInt8) ∉ p → cutB 59 (p ++ 59 :: r) = p :: cutB 59 r
  | [], r, _ => by rw [List.nil_append, cutB, if_pos rfl]
  | b :: p, r, h => by
    have hb : b ≠ 59 := fun e => h (by rw [e]; exact List.mem_cons_self)
    rw [List.cons_append, cutB, if_neg hb, cut_first r (fun q => h (List.mem_cons_of_mem _ q))]
def sep9 : ByteArray := ⟨#[59]⟩
theorem indexB_ba (l : List UInt8) : Lib.indexB (ba l) sep9 = Lib.indexByte l 59 := Lib.index_one l 59
theorem split_eq : ∀ (k : Nat) (l : List UInt8), Lib.splitB sep9 0 k (ba l) = (partsK k (cutB 59 l)).map ba
  | 0, l => by rw [Lib.splitB_zero, partsK_zero (cutB_ne _ _), join_cut]; rfl
  | k + 1, l => by
    rcases idx_spec l 59 with ⟨h1, h2⟩ | ⟨p, r, rfl, h2, h3⟩
    · rw [Lib.splitB_miss _ _ _ _ ((indexB_ba l).trans h1), cut_none h2]
      rfl
    · rw [Lib.splitB_hit _ _ _ _ p.length ((indexB_ba _).trans h3), cut_first r h2, partsK_succ, List.map_cons]
      have e1 : (ba (p ++ 59 :: r)).extract 0 (p.length + 0) = ba p := by
        rw [extract_ba]
        show ba (((p ++ 59 :: r).toArray.toList.drop 0).take (p.length + 0 - 0)) = _
        simp
      have e2 : (ba (p ++ 59 :: r)).extract (p.length + sep9.size) (ba (p ++ 59 :: r)).size = ba r := by
        rw [extract_ba]
        show ba (((p ++ 59 :: r).toArray.toList.drop (p.length + 1)).take ((p ++ 59 :: r).toArray.size - (p.length + 1))) = _
        have e : (p ++ 59 :: r).drop (p.length + 1) = r := by
          rw [List.drop_append]
          simp
        rw [e, List.size_toArray, List.take_of_length_le (by simp only [List.length_append, List.length_cons]; omega)]
      rw [e1, e2, split_eq k r]
/-- A text that reads as a table has no semicolon. -/
theorem no59_row (r : List Int) (h : ∀ x ∈ r, 0 ≤ x ∧ x ≤ 9) : (59 : UInt8) ∉ digB r := by
  intro q
  unfold digB at q
  obtain ⟨x, hx, e⟩ := List.mem_map.1 q
  have h1 := h x hx
  have h2 := congrArg UInt8.toNat e
  rw [UInt8.toNat_ofNat'] at h2
  have : (59 : UInt8).toNat = 59 := rfl
  omega
theorem no59_rows : ∀ (l : List (List Int)), (∀ r ∈ l, ∀ x ∈ r, 0 ≤ x ∧ x ≤ 9) → (59 : UInt8) ∉ rowsB l
  | [], _ => by simp [rowsB]
  | [r], h => no59_row r (h r List.mem_cons_self)
  | r :: s :: rs, h => by
    show (59 : UInt8) ∉ digB r ++ 32 :: rowsB (s :: rs)
    rw [List.mem_append, List.mem_cons]
    rintro (q | q | q)
    · exact no59_row r (h r List.mem_cons_self) q
    · exact absurd q (by decide)
    · exact no59_rows (s :: rs) (fun x hx => h x (List.mem_cons_of_mem _ hx)) q
theorem no59 {x : ByteArray} (h : pOk x = true) : (59 : UInt8) ∉ x.data.toList := by
  obtain ⟨h1, h2, h3⟩ : ParP x := of_decide_eq_true h
  have hok := ParMath.ok_of_fmt (s := x) (by omega) h3
  have hp : TabP (pNm x) (pAr x) (pRows x) := of_decide_eq_true hok
  have e : x.data.toList = tabB (pNm x) (pAr x) (pRows x) := by
    have h4 := congrArg (fun z : ByteArray => z.data.toList) h3
    refine h4.symm.trans ?_
    show ((if tabOk (pNm x) (pAr x) (pRows x) then tabB (pNm x) (pAr x) (pRows x) else []).toArray).toList = _
    rw [hok]
    simp
  rw [e]
  unfold tabB
  have hn := of_decide_eq_true hp.1
  intro q
  rcases List.mem_append.1 q with q | q
  · have hl : (pNm x).data.toList.length = 1 := by have := hn.1; rw [Array.length_toList]; exact this
    obtain ⟨c, hc⟩ : ∃ c, (pNm x).data.toList = [c] := by
      match (pNm x).data.toList, hl with
      | [c], _ => exact ⟨c, rfl⟩
    rw [hc] at q hn
    rw [List.mem_singleton] at q
    have h4 := hn.2.1
    rw [← q] at h4
    exact absurd h4 (by decide)
  · rcases List.mem_cons.1 q with q | q
    · have h2 := congrArg UInt8.toNat q
      rw [UInt8.toNat_ofNat'] at h2
      have : (59 : UInt8).toNat = 59 := rfl
      have := hp.2.1
      have := hp.2.2.1
      omega
    · rcases List.mem_cons.1 q with q | q
      · exact absurd q (by decide)
      · exact no59_rows _ (fun r hr => (rowOk_iff.1 (hp.2.2.2.2.1 r hr)).2) q
theorem join_mem : ∀ {x y : List UInt8} {xs : List (List UInt8)}, (59 : UInt8) ∈ join59 (x :: y :: xs) := fun {x y xs} => by
  show (59 : UInt8) ∈ x ++ 59 :: join59 (y :: xs)
  simp
theorem partsK_same {k : Nat} {ps : List (List UInt8)} (h : ps.length ≤ k + 1) : partsK k ps = ps := by
  unfold partsK
  split
  · rfl
  · have e : ps.length = k + 1 := by omega
    have hd : ps.drop k = [ps[k]'(by omega)] := by
      rw [List.drop_eq_getElem_cons (by omega), List.drop_eq_nil_of_le (by omega)]
    rw [hd]
    show ps.take k ++ [ps[k]'(by omega)] = ps
    rw [← List.take_succ_eq_append_getElem, List.take_of_length_le (by omega)]
def qsOf (s : ByteArray) : List ByteArray := Lib.splitB sep9 0 (min 7 (s.size + 1) - 1) s
/-- What the pieces of SplitN say is what all the pieces say. -/
theorem qs_spec (s : ByteArray) : qsOf s = cuts9 s ∨ ((∃ x ∈ qsOf s, pOk x = false) ∧ 6 < (cuts9 s).length) := by
  have e : qsOf s = (partsK (min 7 (s.size + 1) - 1) (cutB 59 s.data.toList)).map ba := by
    unfold qsOf
    have := split_eq (min 7 (s.size + 1) - 1) s.data.toList
    rw [ba_list] at this
    exact this
  have hl := (cutB_len 59 s.data.toList).2
  have hsl : s.data.toList.length = s.size := Array.length_toList
  by_cases h : (cutB 59 s.data.toList).length ≤ min 7 (s.size + 1) - 1 + 1
  · left
    rw [e, partsK_same h]
    rfl
  · right
    have h7 : 7 < (cutB 59 s.data.toList).length := by
      omega
    have hk : min 7 (s.size + 1) - 1 = 6 := by
      omega
    refine ⟨⟨ba (join59 ((cutB 59 s.data.toList).drop 6)), ?_, ?_⟩, by unfold cuts9; rw [List.length_map]; omega⟩
    · rw [e, hk]
      unfold partsK
      rw [if_neg (by omega), List.map_append]
      simp
    · cases hp : pOk (ba (join59 ((cutB 59 s.data.toList).drop 6)))
      · rfl
      · refine absurd ?_ (no59 hp)
        rw [List.drop_eq_getElem_cons (by omega), List.drop_eq_getElem_cons (by omega)]
        show (59 : UInt8) ∈ (join59 _).toArray.toList
        rw [List.toList_toArray]
        exact join_mem
theorem qs_read (s : ByteArray) : ((∀ x ∈ qsOf s, pOk x = true) ∧ dbOk ((qsOf s).map tabP) = true ↔ ReadP s) ∧ (ReadP s → qsOf s = cuts9 s) := by
  rcases qs_spec s with h | ⟨⟨x, hx, hp⟩, h⟩
  · rw [h]; exact ⟨Iff.rfl, fun _ => rfl⟩
  · have hno : ¬ ReadP s := fun q => by
      have := (dbOk_iff.1 q.2).1
      rw [List.length_map] at this
      omega
    exact ⟨⟨(fun q => by rw [q.1 x hx] at hp; cases hp), (fun q => absurd q hno)⟩, (fun q => absurd q hno)⟩
theorem qs_size {s x : ByteArray} (h : x ∈ qsOf s) (hs : s.size ≤ 1048576) : x.size ≤ 1048576 := by
  unfold qsOf at h
  generalize min 7 (s.size + 1) - 1 = k at h
  induction k generalizing s with
  | zero => rw [Lib.splitB_zero, List.mem_singleton] at h; rw [h]; exact hs
  | succ k ih =>
    unfold Lib.splitB at h
    split at h
    · rw [List.mem_singleton] at h; rw [h]; exact hs
    · rcases List.mem_cons.1 h with q | q
      · rw [q, ByteArray.size_extract]; omega
      · exact ih (by rw [ByteArray.size_extract]; omega) q
theorem qs_len (s : ByteArray) : (qsOf s).length ≤ min 7 (s.size + 1) := by
  unfold qsOf
  generalize hk : min 7 (s.size + 1) - 1 = k
  have : (Lib.splitB sep9 0 k s).length ≤ k + 1 := by
    clear hk
    induction k generalizing s with
    | zero => rw [Lib.splitB_zero]; simp
    | succ k ih =>
      unfold Lib.splitB
      split
      · simp
      · rw [List.length_cons]; have := ih (s.extract ((Lib.indexB s sep9).toNat + sep9.size) s.size); omega
  omega

set_option maxRecDepth 100000 in
set_option maxHeartbeats 3200000 in
theorem impl_parsedb (s : ByteArray) (w : World) (hs : s.size ≤ 1048576) (hr : ParImp.Ready w) :
    Calls Tryz.prog 7 #[.string s] w fun e w' => DbAns (parL s) (parOk s) w e w' := by
  have HS := Lib.hid hs
  have HRD := Lib.hid (fun w' (hb : Below w.heap.size w w') => ParImp.ready_later hb hr)
  by_cases h0 : s = ⟨#[]⟩
  · subst h0
    have HE := Lib.hid (par_empty (s := ⟨#[]⟩) rfl)
    go_enter Tryz.func7, Tryz.ntmps7
    go_wp2_with fail
    have hb := below_alloc w (.cells #[.slice none 0 0] 24 (0, 0))
    have hl := Loc1.of (row_alloc w (.cells #[.slice none 0 0] 24 (0, 0)))
    have k0 := hl.c0
    refine bodyPost_ret (v := .tuple #[.agg #[.slice none 0 0], .bool true]) (by simp [results, Tryz.results7, go_sem, k0]) rfl ?_
    exact DbAns.empty' hb HE.out.2 _ HE.out.1
  have H0 := Lib.hid h0
  have hne : (s.toList == []) = false := by
    rw [beq_eq_false_iff_ne, ByteArray.toList_eq]
    intro q
    apply h0
    cases s
    simp only at q
    rw [Array.toList_eq_nil_iff.1 q]
  clear h0 hr
  go_enter Tryz.func7, Tryz.ntmps7
  go_wp2_with fail
  generalize hW : (w.alloc _).alloc _ = W
  obtain ⟨r0, r1, hz, hb0⟩ := start2g w _ _ hW
  have HC0 := Lib.hid (Loc1.of r0)
  have HC1 := Lib.hid (Loc1.of r1)
  have HB0 := Lib.hid hb0
  have HZ := Lib.hid hz
  clear hW r0 r1 hz hb0
  obtain ⟨mx, hmx⟩ := (HRD.out W HB0.out).2.1
  refine (Tryz.strings_SplitN s ⟨#[59]⟩ 7 mx W (by have := HS.out; omega) hmx (by decide) (by decide) (by decide)).mono ?_
  rintro e WF ⟨rfl, hwf⟩
  have hlen := qs_len s
  have HCEL := Lib.hid (show ∀ k (h : k < (qsOf s).length), WF.cell? ⟨W.heap.size, k, none⟩ = some (.string (qsOf s)[k]) from fun k h => by
    rw [hwf]
    have := row_alloc W (.cells (Lib.cellsOf (qsOf s) (min 7 (s.size + 1))) 9)
    unfold World.cell?
    rw [show (W.alloc (.cells (Lib.cellsOf (Lib.splitB ⟨#[59]⟩ 0 (min 7 (s.size + 1) - 1) s) (min 7 (s.size + 1))) 9)).heap[W.heap.size]? = _ from this]
    simp only [Lib.cellsOf, List.getElem?_toArray]
    rw [List.getElem?_append_left (by simpa using h), List.getElem?_map, List.getElem?_eq_getElem h]
    rfl)
  have hb1 : Below W.heap.size W WF := by rw [hwf]; exact below_alloc _ _
  have hWz : W.heap.size < WF.heap.size := by rw [hwf, size_alloc]; omega
  have HWZ := Lib.hid hWz
  have HBF := Lib.hid (below_then HB0.out hb1)
  have HD0 := Lib.hid (HC0.out.later hb1)
  have HACC0 := Lib.hid (AccS.start' (HC1.out.later hb1))
  have HPS := Lib.hid (fun x (hx : x ∈ qsOf s) => qs_size hx HS.out)
  have HRE := Lib.hid (qs_read s).1
  have HRQ := Lib.hid (qs_read s).2
  have HIS := Lib.hid (fun q : ReadP s => par_is H0.out q)
  have HNOT := Lib.hid (fun q : ¬ ReadP s => par_not H0.out q)
  have HPL := Lib.hid (show (qsOf s).length ≤ 7 by omega)
  have hqs : Lib.splitB ⟨#[59]⟩ 0 (min 7 (s.size + 1) - 1) s = qsOf s := rfl
  rw [hqs]
  clear hwf hb1 hWz hne hmx hqs hlen
  generalize hgq : qsOf s = ps at *
  clear hgq
  generalize min 7 (s.size + 1) = cv at *
  go_wp2_with fail
  go_loopw [15] (fun i wr => ∃ (k : Nat) (a : Option Addr) (c : Nat) (fp : List Nat), k ≤ ps.length ∧ i = .int .i64 k ∧ (∀ x ∈ ps.take k, pOk x = true) ∧ AccS WF wr (w.heap.size + 1) ((ps.take k).map tabP) a c fp) (fun i _ => ps.length - (intOf i).toNat)
  case atStart => exact ⟨0, none, 0, [], Nat.zero_le _, rfl, by simp, HACC0.out⟩
  case round =>
    obtain ⟨k, a, c, fp, hk, rfl, hok, hacc⟩ := hrel
    have HACC := Lib.hid hacc
    have HOK := Lib.hid hok
    have HBW := Lib.hid (HACC.out.below HBF.out (by omega))
    have hpl := HPL.out
    clear hacc hok
    have hcur : ((ps.take k).map tabP).length = k := by rw [List.length_map, List.length_take]; omega
    by_cases hlt : k < ps.length
    · have hc := HACC.out.get (HCEL.out k hlt) (by have := HZ.out; simp only; omega)
      have hcl := Nat.lt_of_lt_of_le HWZ.out HACC.out.sz
      have HTK := Lib.hid (show (ps.take (k + 1)).map tabP = (ps.take k).map tabP ++ [tabP ps[k]] by rw [List.take_succ_eq_append_getElem hlt, List.map_append]; rfl)
      have HOK1 := Lib.hid (fun q => ok_take HOK.out hlt q)
      have HBAD := Lib.hid (fun q : pOk ps[k] = false => HNOT.out (fun r => by have := (HRE.out.2 r).1 _ (List.getElem_mem hlt); rw [q] at this; cases this))
      have HPA := Lib.hid (ParImp.impl_parse ps[k] wr (HPS.out _ (List.getElem_mem hlt)) (HRD.out wr HBW.out))
      have HLL := Lib.hid (show ((ps.take k).map tabP).length + 1 ≤ 1000000000 by omega)
      have i1 : (0 : Int) ≤ (k : Int) := by omega
      have i2 : (k : Int) < (ps.length : Int) := by omega
      clear hcur
      generalize ps[k] = pt at *
      generalize (ps.take k).map tabP = cur at *
      cases hpt : pOk pt
      · have HPN := Lib.hid hpt
        clear hpt
        go_wp2_with fail
        refine (HPA.out.mono fun e w' h => ans_no HPN.out h).mono ?_
        rintro e w2 ⟨a2, c2, rfl, hb2⟩
        have hE := HBAD.out HPN.out
        have HE := Lib.hid hE
        have hA := (HACC.out.loc1 HD0.out (by omega)).later hb2
        have HB2 := Lib.hid (below_then HBW.out hb2)
        have HY := Lib.hid hA
        have y0 := hA.c0
        have y1 := hA.f0
        have y2 := hA.lt
        clear hE hA hb2
        go_wp2_with fail
        have hYB := below_alloc (w2.setCell ⟨w.heap.size, 0, none⟩ (.slice none 0 0)) (.cells #[.string ⟨#[]⟩, .int .i64 0, .slice a2 0 c2] 34 (0, 0))
        have k0 := (hYB.cell (p := ⟨w.heap.size, 0, none⟩) (by simpa using HY.out.lt)).trans (World.cell?_setCell_same _ _ _ HY.out.c0)
        refine bodyPost_ret (v := .tuple #[.agg #[.slice none 0 0], .bool false]) (by simp [results, Tryz.results7, go_sem, k0]) rfl ?_
        obtain ⟨q1, q2, q3, q4, q5⟩ := DbAns.empty (b := parOk s) (l := parL s) HB2.out (Nat.le_refl _) HE.out.2 _ HE.out.1
        exact ⟨q1, q2, q3, Cd.ow_later q4 hYB, q5.1, below_then q5.2 hYB⟩
      · have HPY := Lib.hid hpt
        clear hpt
        go_wp2_with fail
        refine ((HPA.out.mono fun e w' h => ans_yes HPY.out h)).mono ?_
        rintro e w2t ⟨a2t, c2t, f2t, rfl, ho2, hn2, hb2⟩
        have h2 := HACC.out.later hb2
        have d2 := h2.cell
        have dl := World.block_lt_of_cell? _ _ d2
        have hl := HACC.out.laid hb2 ho2 hn2 34
        have H3 := Lib.hid hl.1
        have HLD := Lib.hid hl.2
        clear ho2 hn2 hb2 h2 hl HACC
        go_wp2_with (at_builtin; refine Cd.wpList_appendN (c := tabC) rfl (.tmp 28) (.tmp 30) 22 rfl WF.heap.size 34 (.agg #[.string ⟨#[]⟩, .int .i64 0, .slice none 0 0]) 3 48 rfl Tryz.underlying22 info_x rfl (by decide) _ cur fp rfl H3.out.ow H3.out.nd (w2t.heap.size + 1) _ rfl HLD.out.at_ (tabP pt) f2t HLD.out.ow HLD.out.nd HLD.out.far HLL.out H3.out.sz ?_)
        intro gt cap4t w4t fp4t ho4 hn4 _ ht4
        have HACC := Lib.hid (H3.out.app (cur' := cur ++ [(tabP pt)]) (n := cur.length + 1) (by simp) ht4 ho4 hn4)
        obtain ⟨e2, g2⟩ := H3.out.fcell ht4
        clear ho4 hn4 ht4 H3 HLD d2 dl
        go_wp2_with fail
        go_roundw
        case rel => exact ⟨k + 1, some ⟨gt, 0, none⟩, cap4t, fp4t, by omega, by go_num, HOK1.out HPY.out, HACC.out.shift HTK.out.symm⟩
        case measure => simp [intOf]; omega
    · have ek : k = ps.length := by omega
      subst ek
      rw [List.take_length] at HACC HOK
      have HVX := Lib.hid (DbImp.impl_dbok _ (ps.map tabP) _ wr (tabsC.ow_rd HACC.out.ow))
      have x0 := HACC.out.cell
      have HNO := Lib.hid (show dbOk (ps.map tabP) = false → ¬ ReadP s from fun q r => by rw [(HRE.out.2 r).2] at q; cases q)
      have HYE := Lib.hid (show dbOk (ps.map tabP) = true → ReadP s ∧ ps.map tabP = (cuts9 s).map tabP from fun q => by
        have r := HRE.out.1 ⟨HOK.out, q⟩
        exact ⟨r, by rw [HRQ.out r]⟩)
      generalize ps.map tabP = cur at *
      go_wp2_with fail
      refine HVX.out.mono ?_
      rintro e wv ⟨rfl, hbv⟩
      replace HACC := Lib.hid (HACC.out.later hbv)
      have HBV := Lib.hid (below_then HBW.out hbv)
      clear hbv x0
      have x6 := HACC.out.cell
      have hy := HACC.out.loc1 HD0.out (by omega)
      have y0 := hy.c0
      have y1 := hy.f0
      have HY := Lib.hid hy
      clear hy
      cases hvx : dbOk cur
      · have HE := Lib.hid (HNOT.out (HNO.out hvx))
        go_wp2_with fail
        have k0 : (wv.setCell ⟨w.heap.size, 0, none⟩ (.slice none 0 0)).cell? ⟨w.heap.size, 0, none⟩ = some (.slice none 0 0) := World.cell?_setCell_same _ _ _ HY.out.c0
        refine bodyPost_ret (v := .tuple #[.agg #[.slice none 0 0], .bool false]) (by simp [results, Tryz.results7, go_sem, k0]) rfl ?_
        exact DbAns.empty HBV.out (Nat.le_refl _) HE.out.2 _ HE.out.1
      · have HE := Lib.hid (HYE.out hvx)
        have HI := Lib.hid (HIS.out HE.out.1)
        go_wp2_with fail
        have k0 : (wv.setCell ⟨w.heap.size, 0, none⟩ (.slice a cur.length c)).cell? ⟨w.heap.size, 0, none⟩ = some (.slice a cur.length c) := World.cell?_setCell_same _ _ _ HY.out.c0
        refine bodyPost_ret (v := .tuple #[.agg #[.slice a cur.length c], .bool true]) (by simp [results, Tryz.results7, go_sem, k0]) rfl ?_
        exact HACC.out.ans (Y := w.heap.size) HBF.out (by omega) (Nat.le_refl _) HD0.out.lt (HE.out.2.trans HI.out.2.symm) HI.out.1
end Go.Proofs.YtdjgaffiildijabGreatDoor.DbParse
