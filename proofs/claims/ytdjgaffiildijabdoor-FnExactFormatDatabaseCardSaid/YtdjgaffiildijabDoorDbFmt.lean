/- Databases: the format, the model's and the program's. -/
import Derived.Test.YtdjgaffiildijabDoorDbLook
import Derived.Test.YtdjgaffiildijabDoorDbImp2
import Derived.Test.YtdjgaffiildijabDoorFmtImp2
namespace Go.Proofs.YtdjgaffiildijabDoor.DbFmt
open Go Go.RowKit Byt Ints IntsLaw Cd Rows2 Tab SlMath TabOpen TabElem SlTable Db TabSpec DbMath TabImp TabFmt TabParse
open DbSpec (LaterD row1 name_cell)
open DbImp (elem_form impl_dbok)

def fmtL (T : T3) : List UInt8 := if tabOk T.1 T.2.1 T.2.2 then tabB T.1 T.2.1 T.2.2 else []
theorem fmtL_eq (T : T3) : fmtT T.1 T.2.1 T.2.2 = ⟨(fmtL T).toArray⟩ := rfl
theorem wt4 : ∀ l : List (List Int), (∀ r ∈ l, r.length ≤ 3) → rowsWt l ≤ 4 * l.length
  | [], _ => by simp [rowsWt]
  | r :: rs, h => by
    have h1 := wt4 rs (fun x hx => h x (List.mem_cons.2 (.inr hx)))
    have h2 := h r (List.mem_cons.2 (.inl rfl))
    simp [rowsWt] at *
    omega
theorem fmtL_len (T : T3) : (fmtL T).length ≤ 100 := by
  unfold fmtL
  split
  · rename_i h
    have hp : TabP T.1 T.2.1 T.2.2 := of_decide_eq_true h
    have h1 : T.1.data.toList.length = 1 := by have := of_decide_eq_true hp.1; exact this.1
    have h2 := wt4 T.2.2 (fun r hr => by have := (rowOk_iff.1 (hp.2.2.2.2.1 r hr)).1; have := hp.2.2.1; omega)
    have h3 := rowsB_len T.2.2
    have h4 := hp.2.2.2.1
    unfold tabB
    simp only [List.length_append, List.length_cons]
    omega
  · simp
def joinS : List T3 → List UInt8
  | [] => []
  | [T] => fmtL T
  | T :: U :: l => fmtL T ++ 59 :: joinS (U :: l)
theorem joinS_snoc : ∀ (l : List T3) (T : T3), joinS (l ++ [T]) = if l = [] then fmtL T else joinS l ++ 59 :: fmtL T
  | [], T => by simp [joinS]
  | [a], T => by simp [joinS]
  | a :: b :: l, T => by
    have := joinS_snoc (b :: l) T
    rw [if_neg (by simp)] at this
    rw [if_neg (by simp)]
    show fmtL a ++ 59 :: joinS ((b :: l) ++ [T]) = _
    rw [this]
    simp [joinS]
theorem joinS_len : ∀ (l : List T3), (joinS l).length ≤ 101 * l.length
  | [] => by simp [joinS]
  | [T] => by have := fmtL_len T; simp only [joinS, List.length_cons, List.length_nil]; omega
  | T :: U :: l => by
    have h1 := joinS_len (U :: l)
    have h2 := fmtL_len T
    show (fmtL T ++ 59 :: joinS (U :: l)).length ≤ _
    simp only [List.length_append, List.length_cons] at *
    omega
theorem joinS_join : ∀ l : List T3, Lib.join ((l.map fun T => (⟨(fmtL T).toArray⟩ : ByteArray)).map (·.data.toList)) [59] = joinS l
  | [] => rfl
  | [T] => by simp [joinS, Lib.join, List.intercalate]
  | T :: U :: l => by
    have := joinS_join (U :: l)
    simp only [List.map_cons, Lib.join, List.intercalate, List.intersperse, List.flatten_cons] at this ⊢
    rw [this]
    simp [joinS]
def fmtD (l : List T3) : ByteArray := ⟨(if dbOk l then joinS l else []).toArray⟩
theorem fmtD_no {l : List T3} (h : dbOk l = false) : fmtD l = ⟨#[]⟩ := by unfold fmtD; rw [h]; rfl
theorem fmtD_yes {l : List T3} (h : dbOk l = true) : fmtD l = ⟨(joinS l).toArray⟩ := by unfold fmtD; rw [h]; rfl
theorem ret_s {a b : ByteArray} (h : a = b) : Ending.returned (.string a) = Ending.returned (.string b) := by rw [h]

theorem fmt_elem (us : List Value) (T : T3) (S : Nat → Prop) (w : World) (hu : tabC.rd w S us T) :
    Calls Tryd.prog 9 #[.agg us.toArray] w fun e w' => e = .returned (.string ⟨(fmtL T).toArray⟩) ∧ Below w.heap.size w w' := by
  obtain ⟨u, rfl, _, _, h3⟩ := tab_cells hu
  exact spec_fmt T.1 T.2.1 u T.2.2 S w h3
set_option maxRecDepth 100000 in
set_option maxHeartbeats 1600000 in
theorem spec_fmtdb (u : Value) (l : List T3) (S : Nat → Prop) (w : World) (h1 : tabsC.rd w S [u] l) :
    Calls Tryd.prog 18 #[.agg #[u]] w fun e w' => e = .returned (.string (fmtD l)) ∧ Below w.heap.size w w' := by
  have HR1 := Lib.hid (fun w' (hb : Below w.heap.size w w') => Cd.later h1 hb)
  have HV := Lib.hid (fun w' (hb : Below w.heap.size w w') => DbSpec.spec_dbok u l S w' (Cd.later h1 hb))
  obtain ⟨a1, cap1, rfl, hl1⟩ := Cd.sl_form h1
  clear h1
  go_enter Tryd.func18, Tryd.ntmps18
  go_wp2_with fail
  generalize hW : w.alloc _ = W
  obtain ⟨r0, hz, hb0⟩ := start1 w _ hW
  have c0 := (row1 r0).1
  have HC0 := Lib.hid (row1 r0).1
  have HLT0 := Lib.hid (show w.heap.size < W.heap.size by omega)
  have HB0 := Lib.hid hb0
  clear hW r0 hz hb0
  go_loopw [3, 4] (fun n i wr => ∃ k : Nat, k ≤ l.length ∧ n = .string ⟨(joinS (l.take k)).toArray⟩ ∧ i = .int .i64 k ∧ (dbOk l = false → k = 0) ∧ (0 < k → l.length ≤ 6) ∧ Below W.heap.size W wr) (fun _ i _ => l.length - (intOf i).toNat)
  case atStart => exact ⟨0, Nat.zero_le _, rfl, rfl, fun _ => rfl, by omega, Below.refl _ _⟩
  case round =>
    obtain ⟨k, hk, rfl, rfl, h0, h6, hb⟩ := hrel
    have x0 := (hb.cell (p := ⟨w.heap.size, 0, none⟩) HLT0.out).trans HC0.out
    have HK0 := Lib.hid h0
    have HBW := Lib.hid (below_then HB0.out hb)
    have HWR := Lib.hid hb
    have HX0 := Lib.hid x0
    have HXL := Lib.hid (show w.heap.size < wr.heap.size by have := HLT0.out; have := hb.size; omega)
    clear c0 h0
    by_cases hlt : k < l.length
    · obtain ⟨b, off, cap', us, e1, _, hbB, hat, hu⟩ := Cd.sl_at (HR1.out wr HBW.out) hlt
      injection e1 with e1 e2 e3
      subst e1 e3
      obtain ⟨az, cz, rfl⟩ := elem_form hu
      have p0 := hat 0 (by simp)
      have p1 := hat 1 (by simp)
      have p2 := hat 2 (by simp)
      simp only [List.getElem_cons_zero, List.getElem_cons_succ, Nat.add_zero, show tabC.n = 3 from rfl] at p0 p1 p2
      have HAT := Lib.hid (And.intro p0 (And.intro p1 (And.intro p2 hbB)))
      have HFM := Lib.hid (fun w' (hq : LaterD wr w') => fmt_elem _ l[k] S w' (Cd.later hu hq))
      have HSN := Lib.hid (show joinS (l.take (k + 1)) = if l.take k = [] then fmtL l[k] else joinS (l.take k) ++ 59 :: fmtL l[k] by rw [List.take_succ_eq_append_getElem hlt, joinS_snoc])
      have hf := fmtL_len l[k]
      have i1 : (0 : Int) ≤ (k : Int) := by omega
      have i2 : (k : Int) < (l.length : Int) := by omega
      clear hu hat hbB e2 p0 p1 p2
      generalize l[k] = T at *
      go_wp2_with fail
      refine (HV.out _ HBW.out).mono ?_
      rintro e w2 ⟨rfl, hb2⟩
      have y0 := (hb2.cell (p := ⟨w.heap.size, 0, none⟩) HXL.out).trans HX0.out
      have q0 := (hb2.cell (p := ⟨b, off + k * 3, none⟩) HAT.out.2.2.2).trans HAT.out.1
      have q1 := (hb2.cell (p := ⟨b, off + k * 3 + 1, none⟩) HAT.out.2.2.2).trans HAT.out.2.1
      have q2 := (hb2.cell (p := ⟨b, off + k * 3 + 2, none⟩) HAT.out.2.2.2).trans HAT.out.2.2.1
      have HB2 := Lib.hid (below_then HBW.out hb2)
      have HB3 := Lib.hid (below_then HWR.out hb2)
      have HL2 := Lib.hid (show LaterD wr w2 from hb2)
      clear hb2
      cases hv : dbOk l
      · have HZ := Lib.hid (show (⟨(joinS (l.take k)).toArray⟩ : ByteArray) = fmtD l by rw [HK0.out hv, fmtD_no hv]; rfl)
        go_wp2_with fail
        go_ret
        exact ⟨ret_s HZ.out, HB2.out⟩
      · have HV2 := Lib.hid hv
        have hl6 : l.length ≤ 6 := (dbOk_iff.1 hv).1
        have hcl : (joinS (l.take k)).length ≤ 606 := by have := joinS_len (l.take k); rw [List.length_take] at this; omega
        by_cases h0 : k = 0
        · have HE := Lib.hid (show joinS (l.take (k + 1)) = joinS (l.take k) ++ fmtL T by
            have q : l.take k = [] := by rw [h0]; rfl
            rw [HSN.out, if_pos q, q]
            rfl)
          have hn : ((0 : Int) < (k : Int)) = False := by simp only [eq_iff_iff, iff_false]; omega
          have hn2 : (0 < k) = False := by simp only [eq_iff_iff, iff_false]; omega
          clear h0 h6
          generalize joinS (l.take k) = cur at *
          generalize fmtL T = dg at *
          have l1 : ¬ 9223372036854775807 < cur.length + dg.length := by omega
          go_wp2_with fail
          refine (HFM.out _ HL2.out).mono ?_
          rintro e w3 ⟨rfl, hb3⟩
          have HB4 := Lib.hid (below_then HB3.out hb3)
          clear hb3
          go_wp2_with fail
          go_roundw
          case rel => exact ⟨k + 1, by omega, by rw [HE.out]; simp [ByteArray.mk_append_mk], by go_num, (fun q => by rw [HV2.out] at q; cases q), (fun _ => hl6), HB4.out⟩
          case measure => simp [intOf]; omega
        · have HE := Lib.hid (show joinS (l.take (k + 1)) = joinS (l.take k) ++ 59 :: fmtL T by
            rw [HSN.out, if_neg]
            intro q
            have q2 : (l.take k).length = 0 := by rw [q]; rfl
            rw [List.length_take] at q2
            omega)
          have hn : ((0 : Int) < (k : Int)) = True := by simp only [eq_iff_iff, iff_true]; omega
          have hn2 : (0 < k) = True := by simp only [eq_iff_iff, iff_true]; omega
          clear h0 h6
          generalize joinS (l.take k) = cur at *
          generalize fmtL T = dg at *
          have l1 : ¬ 9223372036854775807 < cur.length + 1 := by omega
          have l2 : ¬ 9223372036854775807 < cur.length + 1 + dg.length := by omega
          go_wp2_with fail
          refine (HFM.out _ HL2.out).mono ?_
          rintro e w3 ⟨rfl, hb3⟩
          have HB4 := Lib.hid (below_then HB3.out hb3)
          clear hb3
          go_wp2_with fail
          go_roundw
          case rel => exact ⟨k + 1, by omega, by rw [HE.out]; simp [ByteArray.mk_append_mk], by go_num, (fun q => by rw [HV2.out] at q; cases q), (fun _ => hl6), HB4.out⟩
          case measure => simp [intOf]; omega
    · have ek : k = l.length := by omega
      subst ek
      have HZ := Lib.hid (show (⟨(joinS (l.take l.length)).toArray⟩ : ByteArray) = fmtD l by
        cases hv : dbOk l
        · rw [HK0.out hv, fmtD_no hv]; rfl
        · rw [List.take_length, fmtD_yes hv])
      go_wp2_with fail
      go_ret
      exact ⟨ret_s HZ.out, HBW.out⟩

theorem fmt_elem_i (us : List Value) (T : T3) (S : Nat → Prop) (w : World) (hu : tabC.rd w S us T) (ht : Format.Tab w) :
    Calls Tryd.prog 11 #[.agg us.toArray] w fun e w' => e = .returned (.string ⟨(fmtL T).toArray⟩) ∧ Below w.heap.size w w' := by
  obtain ⟨u, rfl, _, _, h3⟩ := tab_cells hu
  exact impl_fmt T.1 T.2.1 u T.2.2 S w h3 ht
def strT (l : List T3) : List ByteArray := l.map fun T => ⟨(fmtL T).toArray⟩
set_option maxRecDepth 100000 in
set_option maxHeartbeats 1600000 in
theorem map_fmts (u : Value) (l : List T3) (S : Nat → Prop) (w : World) (h1 : tabsC.rd w S [u] l) (h6 : l.length ≤ 6) (ht : Format.Tab w) :
    Calls Tryd.prog 67 #[u, .func (.func 11) #[] #[]] w fun e w' => ∃ g fp, e = .returned (.slice (some ⟨g, 0, none⟩) l.length l.length) ∧ strsC.ow w' w.heap.size [.slice (some ⟨g, 0, none⟩) l.length l.length] (strT l) fp ∧ fp.Nodup ∧ Below w.heap.size w w' := by
  obtain ⟨i0, hi, hz0, hz1, hz2⟩ := info_parts info_str
  have HR := Lib.hid (fun w' (hb : Below w.heap.size w w') => Cd.later h1 hb)
  have HTB := Lib.hid (fun w' (hb : Below w.heap.size w w') => Format.tab_later hb ht)
  obtain ⟨a, cap, rfl, hlm⟩ := Cd.sl_form h1
  clear h1 ht
  go_enter Tryd.func67, Tryd.ntmps67
  go_wp2_with (at_make; refine wpList_make_own _ rfl _ _ 76 rfl w.heap.size 9 i0 (.string ⟨#[]⟩) 1 Tryd.underlying76 hi hz0 hz1 _ _ _ l.length rfl rfl rfl (by rw [hz2]; omega) (by unfold maxLen; omega) (Nat.le_refl _) ?_)
  intro w1 hown0 hg0
  have how1 : strsC.ow w1 w.heap.size [.slice (some ⟨w.heap.size, 0, none⟩) 0 l.length] [] [w.heap.size] := ⟨_, [], [], rfl, hown0, trivial, rfl⟩
  have hb1 : Below w.heap.size w w1 := ⟨hg0.os, hg0.tape, hg0.output, hg0.size, fun k hk => hg0.block k hk (by simp)⟩
  clear hown0 hg0
  go_wp2_with fail
  go_loopw [5, 13] (fun o i wr => ∃ (k : Nat) (fp : List Nat), k ≤ l.length ∧ i = .int .i64 k ∧ o = .slice (some ⟨w.heap.size, 0, none⟩) k l.length ∧ strsC.ow wr w.heap.size [.slice (some ⟨w.heap.size, 0, none⟩) k l.length] (strT (l.take k)) fp ∧ fp.Nodup ∧ Below w.heap.size w wr) (fun _ i _ => l.length - (intOf i).toNat)
  case atStart => exact ⟨0, _, Nat.zero_le _, rfl, rfl, how1, by simp, hb1⟩
  case round =>
    obtain ⟨k, fp, hk, rfl, rfl, how, hnd, hb⟩ := hrel
    by_cases hlt : k < l.length
    · obtain ⟨b, off, cap', us, e1, _, hbB, hat, hu⟩ := Cd.sl_at (HR.out wr hb) hlt
      injection e1 with e1 e2 e3
      subst e1 e3
      obtain ⟨az, cz, rfl⟩ := elem_form hu
      have p0 := hat 0 (by simp)
      have p1 := hat 1 (by simp)
      have p2 := hat 2 (by simp)
      simp only [List.getElem_cons_zero, List.getElem_cons_succ, Nat.add_zero, show tabC.n = 3 from rfl] at p0 p1 p2
      have HC := Lib.hid (fun w' (hq : Below wr.heap.size wr w') => fmt_elem_i _ l[k] S w' (Cd.later hu hq) (HTB.out w' (below_then hb hq)))
      have HOW := Lib.hid how
      have HND := Lib.hid hnd
      have HB := Lib.hid hb
      have HT := Lib.hid (show strT (l.take (k + 1)) = strT (l.take k) ++ [⟨(fmtL l[k]).toArray⟩] by unfold strT; rw [List.take_succ_eq_append_getElem hlt, List.map_append]; rfl)
      have hsz : (⟨(fmtL l[k]).toArray⟩ : ByteArray).size ≤ maxLen := by show (fmtL l[k]).toArray.size ≤ maxLen; rw [List.size_toArray]; have := fmtL_len l[k]; unfold maxLen; omega
      have HSZ := Lib.hid hsz
      have HL := Lib.hid (show k = (strT (l.take k)).length by unfold strT; rw [List.length_map, List.length_take]; omega)
      have i1 : (0 : Int) ≤ (k : Int) := by omega
      have i2 : (k : Int) < (l.length : Int) := by omega
      clear hu how hnd hb how1 hb1 hsz hat e2
      generalize l[k] = T at *
      generalize (⟨(fmtL T).toArray⟩ : ByteArray) = r at *
      go_wp2_with fail
      have hbX := below_alloc wr (.cells #[.string T.1, .int .i64 T.2.1, .slice az T.2.2.length cz] 27 (0, 0))
      refine (HC.out _ hbX).mono ?_
      rintro e w2 ⟨rfl, hb2⟩
      have hbA : Below w2.heap.size w2 (w2.alloc (.cells #[.string r] 9 (0, 0))) := below_alloc _ _
      have HOW2 := Lib.hid (Cd.ow_later (Cd.ow_later (Cd.ow_later HOW.out hbX) hb2) hbA)
      have HB2 := Lib.hid (below_then (below_then (below_then HB.out hbX) hb2) hbA)
      have HBS := Lib.hid (show w.heap.size ≤ (w2.alloc (.cells #[.string r] 9 (0, 0))).heap.size from HB2.out.size)
      have HCELL := Lib.hid (show (w2.alloc (.cells #[.string r] 9 (0, 0))).cell? ⟨w2.heap.size, 0, none⟩ = some (.string r) from World.cell?_alloc_mark _ _ _ _ 0)
      clear hbA hb2 hbX
      go_wp2_with (at_builtin; refine Cd.wpList_appendR (c := strC) rfl rfl (.tmp 17) (.tmp 21) 76 rfl w.heap.size 9 (.string ⟨#[]⟩) 16 Tryd.underlying76 info_str rfl (by decide) w.heap.size l.length k (strT (l.take k)) fp rfl HL.out HOW2.out HND.out (by omega) w2.heap.size (.string r) rfl HCELL.out r [] ⟨rfl, HSZ.out, rfl⟩ (by simp) (by simp) (by omega) HBS.out ?_)
      intro w3 fp3 ho3 hn3 hsub3 ht3
      have HB3 := Lib.hid (ht3.below HB2.out (fun b hb => (strsC.ow_lt HOW.out b hb).1))
      rw [← HT.out] at ho3
      clear ht3 hsub3
      go_wp2_with fail
      go_roundw
      case rel => exact ⟨k + 1, fp3, by omega, by go_num, rfl, ho3, hn3, HB3.out⟩
      case measure => simp [intOf]; omega
    · have ek : k = l.length := by omega
      subst ek
      rw [List.take_length] at how
      go_wp2_with fail
      go_ret
      exact ⟨_, fp, rfl, how, hnd, hb⟩
theorem join_tabs (g : Nat) (l : List T3) (fp : List Nat) (w : World) (base : Nat) (how : strsC.ow w base [.slice (some ⟨g, 0, none⟩) l.length l.length] (strT l) fp) (h6 : l.length ≤ 6) :
    Calls Tryd.prog 66 #[.slice (some ⟨g, 0, none⟩) l.length l.length, .string ⟨#[59]⟩] w fun e w' => e = .returned (.string ⟨(joinS l).toArray⟩) ∧ Below w.heap.size w w' := by
  have hlen : (strT l).length = l.length := by unfold strT; rw [List.length_map]
  have hg : g < w.heap.size := by
    obtain ⟨v, xss, fps, e1, hown, _, _⟩ := how
    injection e1 with e1 _
    subst e1
    rcases hown.2 with ⟨e1, _⟩ | ⟨g', cap', cur, e1, _, hgg, _⟩
    · cases e1
    · simp only [Value.slice.injEq, Option.some.injEq, Addr.mk.injEq, and_true] at e1
      obtain ⟨rfl, _, _⟩ := e1
      exact (Array.getElem?_eq_some_iff.1 hgg).1
  have h := Tryd.strings_Join g 0 l.length (strT l) ⟨#[59]⟩ w (fun j x hj => by
    obtain ⟨hj1, hj2⟩ := List.getElem?_eq_some_iff.1 hj
    obtain ⟨b, off, cap, e1, _, hc⟩ := strs_at (strsC.ow_rd how) hj1
    simp only [Value.slice.injEq, Option.some.injEq, Addr.mk.injEq, and_true] at e1
    obtain ⟨⟨rfl, rfl⟩, _, _⟩ := e1
    rw [← hj2]
    exact hc) hg (by rw [hlen]; omega) (by rw [hlen]; exact Nat.le_refl _) (by rw [show (ByteArray.mk #[59]).data.toList = [59] from rfl]; unfold strT; rw [joinS_join]; have := joinS_len l; omega)
  rw [hlen, show (ByteArray.mk #[59]).data.toList = [59] from rfl] at h
  unfold strT at h
  rw [joinS_join] at h
  exact h
set_option maxRecDepth 100000 in
set_option maxHeartbeats 1600000 in
theorem impl_fmtdb (u : Value) (l : List T3) (S : Nat → Prop) (w : World) (h1 : tabsC.rd w S [u] l) (ht : Format.Tab w) :
    Calls Tryd.prog 20 #[.agg #[u]] w fun e w' => e = .returned (.string (fmtD l)) ∧ Below w.heap.size w w' := by
  have HV := Lib.hid (fun w' (hb : Below w.heap.size w w') => impl_dbok u l S w' (Cd.later h1 hb))
  have HM := Lib.hid (fun h6 w' (hb : Below w.heap.size w w') => map_fmts u l S w' (Cd.later h1 hb) h6 (Format.tab_later hb ht))
  obtain ⟨a1, cap1, rfl, hl1⟩ := Cd.sl_form h1
  clear h1 ht
  go_enter Tryd.func20, Tryd.ntmps20
  go_wp2_with fail
  generalize hW : w.alloc _ = W
  obtain ⟨r0, hz, hb0⟩ := start1 w _ hW
  have HC0 := Lib.hid (row1 r0).1
  have HB0 := Lib.hid hb0
  clear hW r0 hz
  refine (HV.out _ hb0).mono ?_
  rintro e w1 ⟨rfl, hb1⟩
  have c0 := (hb1.cell (World.block_lt_of_cell? _ _ HC0.out)).trans HC0.out
  have HB1 := Lib.hid (below_then HB0.out hb1)
  clear hb0 hb1
  cases hv : dbOk l
  · have HZ := Lib.hid (fmtD_no hv)
    go_wp2_with fail
    go_ret
    exact ⟨ret_s HZ.out.symm, HB1.out⟩
  have HZ := Lib.hid (fmtD_yes hv)
  have H6 := Lib.hid (dbOk_iff.1 hv).1
  go_wp2_with fail
  refine (HM.out H6.out _ HB1.out).mono ?_
  rintro e w2 ⟨g, fp, rfl, how, hnd, hb2⟩
  have HJ := Lib.hid (join_tabs g l fp w2 _ how H6.out)
  have HB2 := Lib.hid (below_then HB1.out hb2)
  clear how hnd hb2
  go_wp2_with fail
  refine HJ.out.mono ?_
  rintro e w3 ⟨rfl, hb3⟩
  have HB3 := Lib.hid (below_then HB2.out hb3)
  clear hb3
  go_wp2_with fail
  go_ret
  exact ⟨ret_s HZ.out.symm, HB3.out⟩
end Go.Proofs.YtdjgaffiildijabDoor.DbFmt
