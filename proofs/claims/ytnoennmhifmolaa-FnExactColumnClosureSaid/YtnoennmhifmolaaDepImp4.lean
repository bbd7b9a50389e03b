/- Dependencies: the program's closure. -/
import Derived.Test.YtnoennmhifmolaaDepSpec4
import Derived.Test.YtnoennmhifmolaaDepCol
import Derived.Test.YtnoennmhifmolaaDepSort
import Derived.WalkMore
namespace Go.Proofs.Ytnoennmhifmolaa.DepClo
open Go Go.RowKit Byt Ints IntsLaw Cd Rows2 Tab SlMath TabSpec Exact Dep MkDep QryMath DepMath DepSort
open DegMath (colsOk gcOk)
open DepImp (impl_has impl_col)

theorem all_take {f : Int → Bool} {l : List Int} {k : Nat} (h : k < l.length) : (l.take (k + 1)).all f = ((l.take k).all f && f l[k]) := by
  rw [List.take_succ_eq_append_getElem h, List.all_append]
  simp
theorem all_no {f : Int → Bool} {l : List Int} {k : Nat} (h : k < l.length) (hf : f l[k] = false) : l.all f = false := by
  rw [List.all_eq_false]
  exact ⟨_, List.getElem_mem h, by rw [hf]; decide⟩
set_option maxRecDepth 100000 in
theorem impl_all (x y : Value) (a b : List Int) (B1 B2 : Nat) (w : World) (h1 : RI w x a B1) (h2 : RI w y b B2) :
    Calls Try.prog 78 #[x, y] w fun e w' => e = .returned (.bool (b.all (hasI a))) ∧ w = w' := by
  have H1 := Lib.hid h1
  have H2 := Lib.hid h2
  obtain ⟨a1, c1, rfl, hl1, _⟩ := h1
  obtain ⟨a2, c2, rfl, hl2, _⟩ := h2
  go_enter Try.func78, Try.ntmps78
  go_wp2_with fail
  go_loop [9] (fun i => ∃ k : Nat, k ≤ b.length ∧ i = .int .i64 k ∧ Hid ((b.take k).all (hasI a) = true)) (fun i => b.length - (intOf i).toNat)
  case atStart => exact ⟨0, Nat.zero_le _, rfl, Lib.hid rfl⟩
  case round =>
    obtain ⟨k, hk, rfl, hl⟩ := hrel
    by_cases hlt : k < b.length
    · obtain ⟨b2, o2, c2', e1, hb2, hc2⟩ := ri_at H2.out hlt
      injection e1 with e1 e2 e3
      subst e1 e3
      have HH := Lib.hid (impl_has _ a b[k] _ w H1.out)
      have p1 : (0 : Int) ≤ (k : Int) := by omega
      have p2 : (k : Int) < (b.length : Int) := by omega
      have hnx := all_take (f := hasI a) hlt
      rw [hl.out, Bool.true_and] at hnx
      cases hh : hasI a b[k]
      · rw [hh] at HH
        have HZ := Lib.hid (all_no hlt hh)
        clear hh hnx
        generalize b[k] = z at *
        go_wp2_with fail
        refine HH.out.mono ?_
        rintro e w1 ⟨rfl, rfl⟩
        go_wp2_with fail
        go_ret
        exact ⟨ret_b HZ.out.symm, rfl⟩
      · rw [hh] at HH hnx
        have HNX := Lib.hid hnx
        clear hh hnx
        generalize b[k] = z at *
        go_wp2_with fail
        refine HH.out.mono ?_
        rintro e w1 ⟨rfl, rfl⟩
        go_wp2_with fail
        go_round
        case rel => exact ⟨k + 1, by omega, by go_num, HNX⟩
        case measure => simp [intOf]; omega
    · have ek : k = b.length := by omega
      subst ek
      have hl' := hl.out
      rw [List.take_length] at hl'
      have HZ := Lib.hid hl'
      clear hl'
      go_wp2_with fail
      go_ret
      exact ⟨ret_b HZ.out.symm, rfl⟩
/-- The dependency adds a column. -/
def addB (D : D3) (cl : List Int) : Bool := colB D.2.2 3 && !hasI cl D.2.2 && D.2.1.all (hasI cl)
set_option maxRecDepth 100000 in
set_option maxHeartbeats 1600000 in
theorem impl_adds (nm : ByteArray) (v x : Value) (V cl : List Int) (t : Int) (S : Nat → Prop) (w : World) (hr : rowC.rd w S [v] V) (hx : RI w x cl w.heap.size) :
    Calls Try.prog 70 #[.agg #[.string nm, v, .int .i64 t], x] w fun e w' => e = .returned (.bool (addB (nm, V, t) cl)) ∧ Below w.heap.size w w' := by
  have HR := Lib.hid (fun w' (hb : Below w.heap.size w w') => (row_ri (Cd.later hr hb)).1)
  have HX := Lib.hid (fun w' (hb : Below w.heap.size w w') => hx.later hb)
  obtain ⟨a, cap, rfl, hlm, _⟩ := (row_ri hr).1
  obtain ⟨a2, cap2, rfl, hlm2, _⟩ := hx
  have HZ := Lib.hid (show addB (nm, V, t) cl = (colB t 3 && !hasI cl t && V.all (hasI cl)) from rfl)
  clear hr
  go_enter Try.func70, Try.ntmps70
  go_wp2_with fail
  generalize hW : w.alloc _ = W
  obtain ⟨r0, z0, hb0⟩ := start1 w _ hW
  clear hW
  have L0 := Lib.hid (Loc3.of r0)
  have HB := Lib.hid hb0
  have HC := Lib.hid (impl_col t 3 W)
  have HH := Lib.hid (impl_has _ cl t _ W (HX.out W hb0))
  have HA := Lib.hid (impl_all _ _ cl V _ _ W (HX.out W hb0) (HR.out W hb0))
  clear r0 hb0
  have y0 := L0.out.c0
  have y1 := L0.out.c1
  have y2 := L0.out.c2
  refine HC.out.mono ?_
  rintro e w1 ⟨rfl, rfl⟩
  cases hc : colB t 3
  · have HE := Lib.hid (show addB (nm, V, t) cl = false by rw [HZ.out, hc]; rfl)
    clear hc
    go_wp2_with fail
    go_ret
    exact ⟨ret_b HE.out.symm, HB.out⟩
  rw [hc] at HZ
  clear hc
  go_wp2_with fail
  refine HH.out.mono ?_
  rintro e w1 ⟨rfl, rfl⟩
  cases hh : hasI cl t
  · rw [hh] at HZ
    have HE := Lib.hid (show addB (nm, V, t) cl = V.all (hasI cl) by rw [HZ.out]; rfl)
    clear hh
    generalize V.all (hasI cl) = b at *
    go_wp2_with fail
    refine HA.out.mono ?_
    rintro e w1 ⟨rfl, rfl⟩
    go_wp2_with fail
    go_ret
    exact ⟨ret_b HE.out.symm, HB.out⟩
  · rw [hh] at HZ
    have HE := Lib.hid (show addB (nm, V, t) cl = false by rw [HZ.out]; rfl)
    clear hh
    go_wp2_with fail
    go_ret
    exact ⟨ret_b HE.out.symm, HB.out⟩
/-- What holds of the list of columns that grows. -/
structure CloI (l : List D3) (nm : ByteArray) (m0 : Nat) (n : Nat) (cl : List Int) : Prop where
  col : ColL cl
  sub : Sub m0 (mskC cl)
  least : ∀ s, s < 8 → Closed l nm s → Sub m0 s → Sub (mskC cl) s
  num : n ≤ pc (mskC cl)
theorem CloI.start {l : List D3} {nm : ByteArray} {m0 : Nat} (h : m0 < 8) : CloI l nm m0 0 (varsL m0) :=
  ⟨ColL.vars h, by rw [msk_vars m0 h]; exact Sub.refl _, fun s _ _ hs => by rw [msk_vars m0 h]; exact hs, Nat.zero_le _⟩
theorem addB_parts {D : D3} {cl : List Int} (h : addB D cl = true) : colB D.2.2 3 = true ∧ hasI cl D.2.2 = false ∧ D.2.1.all (hasI cl) = true := by
  unfold addB at h
  simp only [Bool.and_eq_true, Bool.not_eq_true'] at h
  exact ⟨h.1.1, h.1.2, h.2⟩
theorem CloI.more {l : List D3} {nm : ByteArray} {m0 n : Nat} {cl : List Int} (h : CloI l nm m0 n cl) {D : D3} (hD : D ∈ l) (hn : D.1 = nm) (ha : addB D cl = true) : CloI l nm m0 (n + 1) (cl ++ [D.2.2]) := by
  obtain ⟨a1, a2, a3⟩ := addB_parts ha
  have e : mskC (cl ++ [D.2.2]) = mskC cl ||| 2 ^ D.2.2.toNat := by rw [mskC_snoc, if_pos a1]
  have happ : appD D (mskC cl) = true := by rw [appD_col2 h.col, a1, a3]; rfl
  have hlt := mskC_lt cl
  have hlt2 := mskC_lt (cl ++ [D.2.2])
  have hsub : Sub (mskC cl) (mskC (cl ++ [D.2.2])) := by rw [e]; exact sub_or _ _
  refine ⟨h.col.snoc a1 a2, h.sub.trans hsub, fun s hs hc hm => ?_, ?_⟩
  · rw [e]
    have h1 := h.least s hs hc hm
    exact Sub.or h1 (sub_bit (hc D hD hn (appD_mono h1 happ)))
  · have hne : mskC cl ≠ mskC (cl ++ [D.2.2]) := fun q => by
      have h1 : hasM (mskC (cl ++ [D.2.2])) D.2.2 = true := by
        unfold hasM
        rw [a1, e, bit_or]
        rfl
      rw [← q, h.col.mem, a2] at h1
      cases h1
    have := pc_lt hlt hlt2 hsub hne
    have := h.num
    omega
theorem CloI.full {l : List D3} {nm : ByteArray} {m0 : Nat} {cl : List Int} (h : CloI l nm m0 3 cl) (hm : m0 < 8) : mskC cl = cloM l nm m0 := by
  have e : mskC cl = 7 := pc_full _ (mskC_lt cl) h.num
  exact clo_one hm h.sub (by rw [e]; exact closed_full) h.least
theorem CloI.stop {l : List D3} {nm : ByteArray} {m0 n : Nat} {cl : List Int} (h : CloI l nm m0 n cl) (hm : m0 < 8) (hno : ∀ D ∈ l, D.1 = nm → addB D cl = false) : mskC cl = cloM l nm m0 := by
  refine clo_one hm h.sub (fun D hD hn ha => ?_) h.least
  have h1 := hno D hD hn
  rw [appD_col2 h.col, Bool.and_eq_true] at ha
  have hc := ha.1
  have h2 : hasI cl D.2.2 = true := by
    cases q : hasI cl D.2.2
    · unfold addB at h1
      rw [hc, q, ha.2] at h1
      cases h1
    · rfl
  rw [← h.col.mem] at h2
  unfold hasM at h2
  rw [hc, Bool.true_and] at h2
  exact h2
theorem clo_sorted {l : List D3} {nm : ByteArray} {cols cl : List Int} (hc : ColL cl) (he : mskC cl = cloM l nm (mskC cols)) : sortI cl = clo l nm cols := by
  have h1 := vars_of hc (l := sortI cl) (fun x => sortI_mem) (sortI_asc hc.2)
  rw [h1, he]
  rfl
theorem no_next {l : List D3} {nm : ByteArray} {cl : List Int} {k : Nat} (h : ∀ D ∈ l.take k, D.1 = nm → addB D cl = false) (hk : k < l.length) (h0 : (l[k]).1 = nm → addB l[k] cl = false) : ∀ D ∈ l.take (k + 1), D.1 = nm → addB D cl = false := by
  intro D hD
  rw [List.take_succ_eq_append_getElem hk] at hD
  rcases List.mem_append.1 hD with q | q
  · exact h D q
  · rw [List.mem_singleton.1 q]; exact h0
theorem ri_own {w : World} {base : Nat} {v : Value} {l : List Int} (h : OwnI w base 3 v l) (hin : InR l) : RI w v l w.heap.size := (row_ri (Cd.reads (Cd.ow_of_own h hin))).1
theorem own_shape {w : World} {base : Nat} {v : Value} {l : List Int} (h : OwnI w base 3 v l) : ∃ a c, v = .slice a l.length c := by
  rcases h.2 with ⟨e, h0⟩ | ⟨g, cap, cur, e, _⟩
  · exact ⟨none, 0, by rw [e, h0]⟩
  · exact ⟨_, cap, e⟩
theorem inr_col {cl : List Int} (h : ColL cl) : InR cl := fun x hx => by have := h.1 x hx; omega
set_option maxRecDepth 100000 in
set_option maxHeartbeats 6400000 in
theorem impl_clo (v vc : Value) (l : List D3) (nm : ByteArray) (cols : List Int) (S S2 : Nat → Prop) (w : World) (h1 : depsC.rd w S [v] l) (h2 : rowC.rd w S2 [vc] cols) :
    Calls Try.prog 33 #[v, .string nm, vc] w fun e w' => ∃ v' fp, e = .returned v' ∧ rowC.ow w' w.heap.size [v'] (clo l nm cols) fp ∧ fp.Nodup ∧ Below w.heap.size w w' := by
  have HR := Lib.hid (fun w' (hb : Below w.heap.size w w') => Cd.later h1 hb)
  have HC := Lib.hid (fun w' (hb : Below w.heap.size w w') => (row_ri (Cd.later h2 hb)).1)
  obtain ⟨a1, cap1, rfl, hl1⟩ := Cd.sl_form h1
  obtain ⟨a2, cap2, rfl, hl2, _⟩ := (row_ri h2).1
  have hm8 := mskC_lt cols
  clear h1 h2
  go_enter Try.func33, Try.ntmps33
  go_wp2_with fail
  go_step3
  go_wp2
  go_loopw [7, 11] (fun o i wr => ∃ (k : Nat), k ≤ 3 ∧ i = .int .i64 k ∧ OwnI wr w.heap.size 3 o (varsTo (mskC cols) k) ∧ Below w.heap.size w wr) (fun _ i _ => 3 - (intOf i).toNat)
  case atStart => exact ⟨0, Nat.zero_le _, rfl, OwnI.nil _ _ _, Below.refl _ _⟩
  case round =>
    obtain ⟨k, hk, rfl, hown, hb⟩ := hrel
    have HB := Lib.hid hb
    have hbs := hb.size
    by_cases hlt : k < 3
    · have HH := Lib.hid (impl_has _ cols (k : Int) _ wr (HC.out wr hb))
      have hh := hasM_msk cols (c := (k : Int)) (colB_iff.2 (by omega))
      rw [hasM_nat hlt, Nat.testBit_eq_decide_div_mod_eq] at hh
      rw [← hh] at HH
      have p2 : (k : Int) < 3 := by omega
      have hlen : (varsTo (mskC cols) k).length + 1 ≤ 1000000000000 := by have := varsTo_len (mskC cols) k; omega
      clear hh hb
      by_cases hx : mskC cols / 2 ^ k % 2 = 1
      · have HNX := Lib.hid (varsTo_yes hx)
        rw [decide_eq_true hx] at HH
        clear hx
        generalize varsTo (mskC cols) k = out at *
        go_wp2_with fail
        refine HH.out.mono ?_
        rintro e w1 ⟨rfl, rfl⟩
        go_wp2_with (first | (at_builtin; refine wp_appendI rfl (.tmp 17) (.tmp 19) 25 rfl w.heap.size 3 Try.underlying25 info_i64 _ _ rfl hown _ rfl hlen hbs ?_))
        intro v' w5 hown5 hb5
        go_wp2_with fail
        go_roundw
        case rel => exact ⟨k + 1, by omega, by go_num, by rw [HNX.out]; exact hown5, HB.out.trans hb5⟩
        case measure => simp [intOf]; omega
      · have HNX := Lib.hid (varsTo_no hx)
        rw [decide_eq_false hx] at HH
        clear hx
        go_wp2_with fail
        refine HH.out.mono ?_
        rintro e w1 ⟨rfl, rfl⟩
        go_wp2_with fail
        go_roundw
        case rel => exact ⟨k + 1, by omega, by go_num, by rw [HNX.out]; exact hown, HB.out⟩
        case measure => simp [intOf]; omega
    · have ek : k = 3 := by omega
      rw [ek, vars_three _ hm8] at hown
      have hge : ¬ ((k : Int) < 3) := by omega
      clear ek hlt hk
      have HO := Lib.hid hown
      have HST := Lib.hid (CloI.start (l := l) (nm := nm) hm8)
      clear hown hb hbs
      generalize hv0 : varsL (mskC cols) = cl0 at *
      clear hv0
      generalize hm0 : mskC cols = m0 at *
      have HM0 := Lib.hid hm0
      clear hm0
      go_wp2_with fail
      go_step3
      go_wp2
      go_loopw [7, 22] (fun o i wr => ∃ (n : Nat) (cl : List Int), n ≤ 3 ∧ i = .int .i64 n ∧ OwnI wr w.heap.size 3 o cl ∧ Below w.heap.size w wr ∧ Hid (CloI l nm m0 n cl)) (fun _ i _ => 3 - (intOf i).toNat)
      case atStart => exact ⟨0, cl0, Nat.zero_le _, rfl, HO.out, HB.out, HST⟩
      case round =>
        obtain ⟨n, cl, hn, rfl, hown, hb, hci⟩ := hrel
        have hcl3 := len_col hci.out.col
        have HOW := Lib.hid hown
        have HBW := Lib.hid hb
        have HIN := Lib.hid (inr_col hci.out.col)
        clear hown hb
        by_cases hn3 : n < 3
        case neg =>
          have en : n = 3 := by omega
          subst en
          have HEND := Lib.hid (clo_sorted (l := l) (nm := nm) (cols := cols) hci.out.col (by rw [HM0.out]; exact hci.out.full hm8))
          have HSO := Lib.hid (sort_ints _ cl _ _ HOW.out (by omega))
          have hinr := inr_vars8 _ (clo_lt (l := l) (nm := nm) (mskC_lt cols))
          have HINR := Lib.hid (show InR (clo l nm cols) from hinr)
          clear hinr
          go_wp2_with fail
          refine HSO.out.mono ?_
          rintro e w9 ⟨rfl, ho9, f9, hf9, ht9⟩
          have HO9 := Lib.hid ho9
          have HB9 := Lib.hid (Cd.Touch.below HBW.out ht9 hf9)
          clear ho9 hf9 ht9
          go_wp2_with fail
          try rw [Exit.noGoto_ret]
          go_ret
          rw [HEND.out] at HO9
          exact ⟨_, _, rfl, Cd.ow_of_own HO9.out HINR.out, Cd.own_nodup, HB9.out⟩
        have p1 : (n : Int) < 3 := by omega
        obtain ⟨ao, co, rfl⟩ := own_shape HOW.out
        go_wp2_with fail
        go_loopw [7, 26] (fun o i wx => ∃ (k : Nat), k ≤ l.length ∧ i = .int .i64 k ∧ o = .slice ao cl.length co ∧ Below wr.heap.size wr wx ∧ Hid (∀ D ∈ l.take k, D.1 = nm → addB D cl = false)) (fun _ i _ => l.length - (intOf i).toNat)
        case atStart => exact ⟨0, Nat.zero_le _, rfl, rfl, Below.refl _ _, Lib.hid (fun D h => by simp at h)⟩
        case round =>
          obtain ⟨k, hk, rfl, rfl, hbx, hno⟩ := hrel
          have HBX := Lib.hid (below_then HBW.out hbx)
          have HOX := Lib.hid (OwnI.later HOW.out hbx)
          have HBY := Lib.hid hbx
          clear hbx
          by_cases hlt : k < l.length
          case neg =>
            have ek : k = l.length := by omega
            subst ek
            have hno' := hno.out
            rw [List.take_length] at hno'
            have HEND := Lib.hid (clo_sorted (l := l) (nm := nm) (cols := cols) hci.out.col (by rw [HM0.out]; exact hci.out.stop hm8 hno'))
            have HSO := Lib.hid (sort_ints _ cl _ _ HOX.out (by omega))
            have hinr := inr_vars8 _ (clo_lt (l := l) (nm := nm) (mskC_lt cols))
            have HINR := Lib.hid (show InR (clo l nm cols) from hinr)
            clear hinr hno'
            go_wp2_with fail
            refine HSO.out.mono ?_
            rintro e w9 ⟨rfl, ho9, f9, hf9, ht9⟩
            have HO9 := Lib.hid ho9
            have HB9 := Lib.hid (Cd.Touch.below HBX.out ht9 hf9)
            clear ho9 hf9 ht9
            go_wp2_with fail
            try rw [Exit.noGoto_ret]
            go_ret
            rw [HEND.out] at HO9
            exact ⟨_, _, rfl, Cd.ow_of_own HO9.out HINR.out, Cd.own_nodup, HB9.out⟩
          obtain ⟨b, off, cap', af, cf, e1, hbB, c0, c1, c2, hrf, _⟩ := dep_at (HR.out _ HBX.out) hlt
          injection e1 with e1 e2 e3
          subst e1 e3
          have q1 : (0 : Int) ≤ (k : Int) := by omega
          have q2 : (k : Int) < (l.length : Int) := by omega
          have HRF := Lib.hid (fun w' hb => Cd.later (w' := w') hrf hb)
          have HNO := Lib.hid (fun h0 => no_next hno.out hlt h0)
          have HMO := Lib.hid (fun hn ha => CloI.more hci.out (List.getElem_mem hlt) hn ha)
          clear hrf
          generalize l[k] = D at *
          obtain ⟨dn, df, dt⟩ := D
          simp only at *
          by_cases hnm : dn = nm
          case neg =>
            have hne := str_ne hnm
            have HN := Lib.hid (HNO.out (fun q => absurd q hnm))
            clear hnm
            go_wp2_with fail
            go_roundw
            case rel => exact ⟨k + 1, by omega, by go_num, rfl, below_then HBY.out (below_alloc _ _), HN⟩
            case measure => simp [intOf]; omega
          subst hnm
          go_wp2_with fail
          generalize hg : World.alloc _ _ = w2
          obtain ⟨rg, z2, hbg⟩ := start1 _ _ hg
          clear hg
          have LF := Lib.hid (Loc3.of rg)
          have HAD := Lib.hid (impl_adds dn _ (.slice ao cl.length co) df cl dt _ w2 (HRF.out w2 hbg) (ri_own (OwnI.later HOX.out hbg) HIN.out))
          have HB2 := Lib.hid (below_then HBY.out hbg)
          clear rg hbg z2 c0 c1 c2 hbB
          refine HAD.out.mono ?_
          rintro e w3 ⟨rfl, hb3⟩
          have HB3 := Lib.hid (below_then HB2.out hb3)
          have y2 := (LF.out.later hb3).c2
          have hown3 := OwnI.later HOW.out HB3.out
          clear hb3
          cases hadd : addB (dn, df, dt) cl
          · have HN := Lib.hid (HNO.out (fun _ => hadd))
            clear hadd hown3
            go_wp2_with fail
            go_roundw
            case rel => exact ⟨k + 1, by omega, by go_num, rfl, HB3.out, HN⟩
            case measure => simp [intOf]; omega
          · have HCM := Lib.hid (HMO.out trivial hadd)
            have HBW3 := Lib.hid (below_then HBW.out HB3.out)
            have hbs3 := HBW3.out.size
            have hlen : cl.length + 1 ≤ 1000000000000 := by omega
            clear hadd
            go_wp2_with (first | (at_builtin; refine wp_appendI rfl (.tmp 39) (.tmp 42) 25 rfl w.heap.size 3 Try.underlying25 info_i64 _ _ rfl hown3 _ rfl hlen hbs3 ?_))
            intro v' w5 hown5 hb5
            go_wp2_with fail
            go_roundw
            case rel => exact ⟨n + 1, _, by omega, by go_num, hown5, HBW3.out.trans hb5, HCM⟩
            case measure => simp [intOf]; omega
end Go.Proofs.Ytnoennmhifmolaa.DepClo
