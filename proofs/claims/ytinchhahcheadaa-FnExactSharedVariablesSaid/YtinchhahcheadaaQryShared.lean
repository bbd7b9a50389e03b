/- Queries: the variables that two masks share. -/
import Derived.Test.YtinchhahcheadaaQryMask
namespace Go.Proofs.Ytinchhahcheadaa.QryImp
open Go Go.RowKit Byt Ints IntsLaw Cd Rows2 Tab TabSpec Exact Atom QryMath QrySpec MkAtom SlMath

def shB (n : Int) (l : List A2) (a b : Int) : Nat := mB n l a &&& mB n l b
theorem shB_lt (n : Int) (l : List A2) (a b : Int) : shB n l a b < 16 := Nat.lt_of_le_of_lt Nat.and_le_left (mB_lt n l a)
theorem filter_succ {X Y : List Int} {k : Nat} (h : k < X.length) : (X.take (k + 1)).filter (fun x => hasI Y x) = (X.take k).filter (fun x => hasI Y x) ++ (if hasI Y X[k] then [X[k]] else []) := by
  rw [List.take_succ_eq_append_getElem h, List.filter_append]
  congr 1
  simp only [List.filter_cons, List.filter_nil]
set_option maxRecDepth 100000 in
set_option maxHeartbeats 1600000 in
theorem spec_shared (n a b : Int) (u : Value) (l : List A2) (S : Nat → Prop) (w : World) (hr : atomsC.rd w S [u] l) :
    Calls Try.prog 29 #[.agg #[.int .i64 n, u], .int .i64 a, .int .i64 b] w fun e w' => ∃ v' fp, e = .returned v' ∧ rowC.ow w' w.heap.size [v'] (varsL (shB n l a b)) fp ∧ fp.Nodup ∧ Below w.heap.size w w' := by
  have HA := Lib.hid (fun w' (hb : Below w.heap.size w w') => spec_maskvars n a u l S w' (Cd.later hr hb))
  have HBB := Lib.hid (fun w' (hb : Below w.heap.size w w') => spec_maskvars n b u l S w' (Cd.later hr hb))
  have HZ := Lib.hid (show (varsL (mB n l a)).filter (fun x => hasI (varsL (mB n l b)) x) = varsL (shB n l a b) from vars_shared _ (mB_lt n l a) _ (mB_lt n l b))
  have HIN := Lib.hid (show InR (varsL (shB n l a b)) from inr_varsTo _ 4 (by decide))
  have hX4 : (varsL (mB n l a)).length ≤ 4 := varsTo_len _ 4
  obtain ⟨q, cap, rfl, hlm⟩ := Cd.sl_form hr
  clear hr
  generalize varsL (shB n l a b) = R at *
  generalize varsL (mB n l a) = X at *
  generalize varsL (mB n l b) = Y at *
  go_enter Try.func29, Try.ntmps29
  go_wp2_with fail
  generalize hW : w.alloc _ = W
  obtain ⟨r0, hz, hb0⟩ := start1 w _ hW
  have hE := Ints.OwnI.empty W W.heap.size 3 (Nat.le_refl _)
  generalize hW2 : W.alloc _ = W2 at *
  obtain ⟨_, hz2, hb2⟩ := start1 W _ hW2
  have HE := Lib.hid (Cd.ow_of_own hE (fun x hx => by cases hx))
  have HB := Lib.hid (below_then hb0 hb2)
  have HC := Lib.hid ((Loc2.of r0).later hb2)
  have HZS := Lib.hid (And.intro hz hz2)
  clear hW hW2 r0 hb0 hb2 hE hz hz2
  refine (HA.out W2 HB.out).mono ?_
  rintro e w1 ⟨x', fx, rfl, hox, hnx, hb1⟩
  have HOX := Lib.hid hox
  have HE1 := Lib.hid (Cd.ow_later HE.out hb1)
  have HB1 := Lib.hid (below_then HB.out hb1)
  have HC1 := Lib.hid (HC.out.later hb1)
  have HZ1 := Lib.hid hb1.size
  have c0 := HC1.out.c0
  have c1 := HC1.out.c1
  clear hox hnx hb1
  go_wp2_with fail
  clear c0 c1
  refine (HBB.out w1 HB1.out).mono ?_
  rintro e w2 ⟨y', fy, rfl, hoy, hny, hb2⟩
  have HB2 := Lib.hid (below_then HB1.out hb2)
  have HXR := Lib.hid (row_ri (rowC.ow_rd (Cd.ow_later HOX.out hb2))).1
  have HYR := Lib.hid (row_ri (rowC.ow_rd hoy)).1
  have hE2 := Cd.ow_later HE1.out hb2
  obtain ⟨ax, cx, rfl, _⟩ := HXR.out
  obtain ⟨ay, cy, rfl, _⟩ := HYR.out
  have HX2 := Lib.hid (rowC.ow_rd (Cd.ow_later HOX.out hb2))
  have HY2 := Lib.hid (rowC.ow_rd hoy)
  have HFX := Lib.hid (fun b (h : b ∈ fx) => rowC.ow_lt (Cd.ow_later HOX.out hb2) b h)
  have HFY := Lib.hid (fun b (h : b ∈ fy) => rowC.ow_lt hoy b h)
  have hz3 : W.heap.size < w2.heap.size := by have := HZS.out.2; have := HZ1.out; have := hb2.size; omega
  have hz4 : w.heap.size ≤ W.heap.size := by have := HZS.out.1; omega
  have HZ3 := Lib.hid (And.intro hz3 hz4)
  have HE3 := Lib.hid hE2
  have HFW := Lib.hid (show W2.heap.size ≤ w1.heap.size ∧ W.heap.size < W2.heap.size from ⟨HZ1.out, by have := HZS.out.2; omega⟩)
  clear hoy hny hb2 hE2 hz3 hz4
  go_wp2_with fail
  go_loopw [7, 10] (fun o i wr => ∃ (k : Nat) (fp : List Nat), k ≤ X.length ∧ i = .int .i64 k ∧ rowC.ow wr W.heap.size [o] ((X.take k).filter (fun x => hasI Y x)) fp ∧ fp.Nodup ∧ Hid (∀ c ∈ fp, c = W.heap.size ∨ w2.heap.size ≤ c) ∧ Hid (∀ c, c < w2.heap.size → c ≠ W.heap.size → wr.heap[c]? = w2.heap[c]?) ∧ Below w.heap.size w wr ∧ w2.heap.size ≤ wr.heap.size) (fun _ i _ => X.length - (intOf i).toNat)
  case atStart => exact ⟨0, _, Nat.zero_le _, rfl, by rw [← HZS.out.1]; exact HE3.out, Cd.own_nodup, Lib.hid (fun c hc => by left; simpa [Value.ownBlock] using hc), Lib.hid (fun c _ _ => rfl), HB2.out, Nat.le_refl _⟩
  case round =>
    obtain ⟨k, fp, hk, rfl, how, hnd, hfp, hsame, hb, hsz⟩ := hrel
    have hrx := rowC.keep (w' := wr) HX2.out (fun b hS hlt => hsame.out b hlt (by have := (HFX.out b hS).1; have := HFW.out; omega))
    have hry := rowC.keep (w' := wr) HY2.out (fun b hS hlt => hsame.out b hlt (by have := (HFY.out b hS).1; have := HFW.out; omega))
    have HOW := Lib.hid how
    have HND := Lib.hid hnd
    have HB := Lib.hid hb
    have HSZ := Lib.hid hsz
    obtain ⟨ao, co, rfl⟩ := Cd.ow_slice how
    by_cases hlt : k < X.length
    · obtain ⟨b1, off, cap', e1, hbB, hc⟩ := ri_at (row_ri hrx).1 hlt
      injection e1 with e1 e2 e3
      subst e1 e3
      have HXI := Lib.hid ((row_ri hrx).2 _ (List.getElem_mem hlt))
      have HH := Lib.hid (spec_has _ Y X[k] _ wr (row_ri hry).1)
      have p1 : (0 : Int) ≤ (k : Int) := by omega
      have p2 : (k : Int) < (X.length : Int) := by omega
      have hfs := filter_succ (Y := Y) hlt
      have hfl := List.length_filter_le (fun x => hasI Y x) (X.take k)
      rw [List.length_take] at hfl
      clear how hnd hb hrx hry hsz
      cases hh : hasI Y X[k]
      · rw [hh] at HH hfs
        have HNX := Lib.hid hfs
        clear hh hfs hfl
        generalize X[k] = z at *
        go_wp2_with (go_at_call 45; refine HH.out.mono ?_; rintro e w3 ⟨rfl, rfl⟩)
        go_roundw
        case rel => exact ⟨k + 1, fp, by omega, by go_num, by rw [HNX.out]; simpa using HOW.out, HND.out, hfp, hsame, HB.out, HSZ.out⟩
        case measure => simp [intOf]; omega
      · rw [hh] at HH hfs
        have HNX := Lib.hid hfs
        have HFL := Lib.hid hfl
        clear hh hfs hfl
        generalize X[k] = z at *
        generalize (X.take k).filter (fun x => hasI Y x) = out at *
        have HA := Lib.hid (And.intro (Cd.ow_later HOW.out (below_alloc wr (.cells #[.int .i64 z] 3))) (show (wr.alloc (.cells #[.int .i64 z] 3)).cell? ⟨wr.heap.size, 0, none⟩ = some (.int .i64 z) by simp))
        have HA3 := Lib.hid (show Cd.int.ow (wr.alloc (.cells #[.int .i64 z] 3)) W.heap.size [.int .i64 z] z [] from ⟨rfl, HXI.out, rfl⟩)
        have HAB := Lib.hid (show W.heap.size ≤ (wr.alloc (.cells #[.int .i64 z] 3)).heap.size by rw [size_alloc]; have := HZ3.out.1; have := HSZ.out; omega)
        go_wp2_with (first | (go_at_call 45; refine HH.out.mono ?_; rintro e w3 ⟨rfl, rfl⟩) | (at_builtin; refine Cd.wpList_appendE (c := Cd.int) rfl rfl (.tmp 30) (.tmp 35) 46 rfl W.heap.size 3 (.int .i64 0) 8 Try.underlying46 info_i64 rfl (by decide) _ _ _ rfl HA.out.1 HND.out _ _ rfl HA.out.2 _ _ HA3.out (by simp) (by simp) (by have := HFL.out; omega) HAB.out ?_))
        intro g capn w3 fp3 ho3 hn3 hs3 ht3
        have HO3 := Lib.hid (show rowC.ow w3 W.heap.size _ _ _ from ho3)
        have HB3 := Lib.hid (Cd.Touch.below (below_then HB.out (below_alloc wr (.cells #[.int .i64 z] 3))) ht3 (fun b hb => by have h1 := (rowC.ow_lt HOW.out b hb).1; have h2 := HZ3.out.2; omega))
        have HS3 := Lib.hid (show ∀ c ∈ fp3, c = W.heap.size ∨ w2.heap.size ≤ c from fun c hc => by
          have h := hs3 c hc
          have h2 : wr.heap.size ≤ (wr.alloc (.cells #[.int .i64 z] 3)).heap.size := (below_alloc _ _).size
          rcases h with q | q
          · exact hfp.out c q
          · exact .inr (by have := HSZ.out; omega))
        have HM3 := Lib.hid (show ∀ c, c < w2.heap.size → c ≠ W.heap.size → w3.heap[c]? = w2.heap[c]? from fun c h1 h2 => by
          rw [ht3.block c (by rw [size_alloc]; have := HSZ.out; omega) (fun q => by rcases hfp.out c q with r | r <;> omega), (below_alloc wr _).block c (by have := HSZ.out; omega)]
          exact hsame.out c h1 h2)
        have HZ4 := Lib.hid (show w2.heap.size ≤ w3.heap.size by have := ht3.size; rw [size_alloc] at this; have := HSZ.out; omega)
        clear ho3 ht3 hs3
        go_wp2_with fail
        go_roundw
        case rel => exact ⟨k + 1, fp3, by omega, by go_num, by rw [HNX.out]; exact HO3.out, hn3, HS3, HM3, HB3.out, HZ4.out⟩
        case measure => simp [intOf]; omega
    · have ek : k = X.length := by omega
      subst ek
      rw [List.take_length, HZ.out] at how ⊢
      have HO := Lib.hid (rowC.ow_base how HZ3.out.2)
      clear how hb hrx hry hnd hsz
      go_wp2_with fail
      go_ret
      exact ⟨_, fp, rfl, HO.out, HND.out, HB.out⟩
def KeptS (w w' : World) : Prop := Below w.heap.size w w'
set_option maxRecDepth 100000 in
set_option maxHeartbeats 1600000 in
theorem impl_shared (n a b : Int) (u : Value) (l : List A2) (S : Nat → Prop) (w : World) (hr : atomsC.rd w S [u] l) :
    Calls Try.prog 30 #[.agg #[.int .i64 n, u], .int .i64 a, .int .i64 b] w fun e w' => ∃ v' fp, e = .returned v' ∧ rowC.ow w' w.heap.size [v'] (varsL (shB n l a b)) fp ∧ fp.Nodup ∧ Below w.heap.size w w' := by
  have HA := Lib.hid (fun w' (hb : Below w.heap.size w w') => impl_varsof n a u l S w' (Cd.later hr hb))
  have HBB := Lib.hid (fun w' (hb : Below w.heap.size w w') => impl_varsof n b u l S w' (Cd.later hr hb))
  have hand := and_nat (mB_lt n l a) (mB_lt n l b)
  have HL := Lib.hid (fun w' => impl_list (shB n l a b) w' (shB_lt n l a b))
  obtain ⟨q, cap, rfl, hlm⟩ := Cd.sl_form hr
  clear hr
  have HC := Lib.hid (Loc2.of (row_alloc w (.cells #[.int .i64 n, .slice q l.length cap] 29)))
  have HB := Lib.hid (below_alloc w (.cells #[.int .i64 n, .slice q l.length cap] 29))
  unfold shB at *
  generalize mB n l a &&& mB n l b = s at *
  generalize mB n l a = s1 at *
  generalize mB n l b = s2 at *
  go_enter Try.func30, Try.ntmps30
  go_wp2_with fail
  generalize w.alloc _ = W at *
  have y0 := HC.out.c0
  have y1 := HC.out.c1
  have kk : KeptS W W.drew := (Below.refl _ W).drew
  go_region_held3 (fun wx => wx.cell? ⟨w.heap.size, 0, none⟩ = some (.int .i64 n) ∧ wx.cell? ⟨w.heap.size, 1, none⟩ = some (.slice q l.length cap) ∧ KeptS W wx)
    ((refine ⟨?_, ?_, ?_⟩ <;> first | assumption | (simp [*]; done)))
    (first | (go_at_call_of 59 (Value.int IntKind.i64 a); refine (HA.out _ (below_then HB.out (by assumption))).mono ?_; rintro e wq ⟨rfl, hbq⟩; (have kk : KeptS W wq := below_then (by assumption) hbq); (have k0 := (HC.out.later kk).c0); (have k1 := (HC.out.later kk).c1); clear hbq) | (go_at_call 59; refine (HBB.out _ (below_then HB.out (by assumption))).mono ?_; rintro e wp ⟨rfl, hbq⟩; (have kk : KeptS W wp := below_then (by assumption) hbq); (have k0 := (HC.out.later kk).c0); (have k1 := (HC.out.later kk).c1); clear hbq) | (go_at_call 58; refine (HL.out _).mono ?_; rintro e wl ⟨v', fp, rfl, ho, hn, hbq⟩; (have hkp := (show KeptS W _ by assumption)); (have HO := Lib.hid (And.intro (rowC.ow_base ho (Below.size (below_then HB.out hkp))) (And.intro hn (below_then (below_then HB.out hkp) hbq)))); (have kk : KeptS W wl := below_then hkp hbq); (have k0 := (HC.out.later kk).c0); (have k1 := (HC.out.later kk).c1); clear hbq ho hn hkp))
  all_goals
    go_wp2_with fail
    go_ret
    exact ⟨_, fp, rfl, HO.out.1, HO.out.2.1, HO.out.2.2⟩
end Go.Proofs.Ytinchhahcheadaa.QryImp
