/- Queries: their format: the program's functions. -/
import Derived.Test.YtdjgaffiildijabDoorQryFmt
import Derived.Test.YtdjgaffiildijabDoorCdRoom
import Derived.Test.YtdjgaffiildijabDoorTabParse
import Derived.Test.YtdjgaffiildijabDoorShelf
import Derived.Deep.RegionLaw
import Derived.Lib.Join
namespace Go.Proofs.YtdjgaffiildijabDoor.QryFmt
open Go Go.RowKit Byt Ints IntsLaw Cd Rows2 Tab TabSpec Exact Atom QryMath QrySpec QryImp MkAtom SlMath
open TabParse (strC strsC info_str)

theorem qB_join : ∀ l : List (ByteArray × List Int), Lib.join (l.map atomB) [32] = qB l
  | [] => rfl
  | [A] => by simp [qB, Lib.join, List.intercalate]
  | A :: B :: As => by
    have := qB_join (B :: As)
    simp only [Lib.join, List.intercalate, List.map_cons, List.intersperse, List.flatten_cons] at this ⊢
    rw [this]
    simp [qB]
def atomS (A : A2) : ByteArray := ⟨(atomB A).toArray⟩
def atL (l : List A2) : List ByteArray := l.map atomS
set_option maxRecDepth 100000 in
set_option maxHeartbeats 1600000 in
theorem format_atom (nm : ByteArray) (u : Value) (vs : List Int) (S : Nat → Prop) (w : World) (hr : rowC.rd w S [u] vs) (h4 : In4 vs) (h3 : vs.length ≤ 3) (hnm : nm.size = 1) :
    Calls Tryd.prog 87 #[.agg #[.string nm, u]] w fun e w' => e = .returned (.string (atomS (nm, vs))) ∧ Below w.heap.size w w' := by
  have HMP := Lib.hid (fun w' (hb : Below w.heap.size w w') => format_vars u vs S w' (Cd.later hr hb) h4 (by omega))
  obtain ⟨a, cap, rfl, hlm, _⟩ := (row_ri hr).1
  have HF := Lib.hid (show atomS (nm, vs) = nm ++ ⟨#[40]⟩ ++ ⟨(vs.map vb).toArray⟩ ++ ⟨#[41]⟩ by
    obtain ⟨⟨nl⟩⟩ := nm
    simp [atomS, atomB, ByteArray.mk_append_mk])
  have hD : (⟨(vs.map vb).toArray⟩ : ByteArray).size ≤ 3 := by show (vs.map vb).toArray.size ≤ 3; rw [List.size_toArray, List.length_map]; exact h3
  have HC := Lib.hid (Loc2.of (row_alloc w (.cells #[.string nm, .slice a vs.length cap] 66)))
  have HB := Lib.hid (below_alloc w (.cells #[.string nm, .slice a vs.length cap] 66))
  have HNM := Lib.hid hnm
  clear hr h4 hnm
  generalize (⟨(vs.map vb).toArray⟩ : ByteArray) = D at *
  have l1 : ¬ 9223372036854775807 < nm.size + 1 := by have := HNM.out; omega
  have l2 : ¬ 9223372036854775807 < nm.size + 1 + D.size := by have := HNM.out; omega
  have l3 : ¬ 9223372036854775807 < nm.size + 1 + D.size + 1 := by have := HNM.out; omega
  clear hD
  go_enter Tryd.func87, Tryd.ntmps87
  go_wp2_with fail
  generalize w.alloc _ = W at *
  have y0 := HC.out.c0
  have y1 := HC.out.c1
  have kk : KeptF W W.drew := (Below.refl _ W).drew
  go_region_held3 (fun wx => wx.cell? ⟨w.heap.size, 0, none⟩ = some (.string nm) ∧ wx.cell? ⟨w.heap.size, 1, none⟩ = some (.slice a vs.length cap) ∧ KeptF W wx)
    ((refine ⟨?_, ?_, ?_⟩ <;> first | assumption | (simp [*]; done)))
    (first | (go_at_call 128; refine (HMP.out _ (below_then HB.out (by assumption))).mono ?_; rintro e wj ⟨rfl, hbj⟩; (have kk : KeptF W wj := below_then (by assumption) hbj); (have k0 := (HC.out.later kk).c0); (have k1 := (HC.out.later kk).c1); clear hbj))
  all_goals
    go_wp2_with fail
    go_ret
    exact ⟨ret_str (by rw [HF.out]), below_then HB.out (by assumption)⟩

set_option maxRecDepth 100000 in
set_option maxHeartbeats 1600000 in
theorem map_atoms (v : Value) (l : List A2) (S : Nat → Prop) (w : World) (hr : atomsC.rd w S [v] l) (h8 : l.length ≤ 4) (hok : ∀ A ∈ l, In4 A.2 ∧ A.2.length ≤ 3 ∧ A.1.size = 1) :
    Calls Tryd.prog 86 #[v, .func (.func 87) #[] #[]] w fun e w' => ∃ g fp, e = .returned (.slice (some ⟨g, 0, none⟩) l.length l.length) ∧ strsC.ow w' w.heap.size [.slice (some ⟨g, 0, none⟩) l.length l.length] (atL l) fp ∧ fp.Nodup ∧ Below w.heap.size w w' := by
  obtain ⟨i0, hi, hz0, hz1, hz2⟩ := info_parts info_str
  have HR := Lib.hid (fun w' (hb : Below w.heap.size w w') => Cd.later hr hb)
  have HOK := Lib.hid hok
  obtain ⟨a, cap, rfl, hlm⟩ := Cd.sl_form hr
  clear hr hok
  go_enter Tryd.func86, Tryd.ntmps86
  go_wp2_with (at_make; refine wpList_make_own _ rfl _ _ 76 rfl w.heap.size 9 i0 (.string ⟨#[]⟩) 1 Tryd.underlying76 hi hz0 hz1 _ _ _ l.length rfl rfl rfl (by rw [hz2]; omega) (by unfold maxLen; omega) (Nat.le_refl _) ?_)
  intro w1 hown0 hg0
  have how1 : strsC.ow w1 w.heap.size [.slice (some ⟨w.heap.size, 0, none⟩) 0 l.length] [] [w.heap.size] := ⟨_, [], [], rfl, hown0, trivial, rfl⟩
  have hb1 : Below w.heap.size w w1 := (Below.refl _ _).grown hg0 (Nat.le_refl _) (by simp)
  clear hown0 hg0
  go_wp2_with fail
  go_loopw [5, 13] (fun o i wr => ∃ (k : Nat) (fp : List Nat), k ≤ l.length ∧ i = .int .i64 k ∧ o = .slice (some ⟨w.heap.size, 0, none⟩) k l.length ∧ strsC.ow wr w.heap.size [.slice (some ⟨w.heap.size, 0, none⟩) k l.length] (atL (l.take k)) fp ∧ fp.Nodup ∧ Below w.heap.size w wr) (fun _ i _ => l.length - (intOf i).toNat)
  case atStart => exact ⟨0, _, Nat.zero_le _, rfl, rfl, how1, by simp, hb1⟩
  case round =>
    obtain ⟨k, fp, hk, rfl, rfl, how, hnd, hb⟩ := hrel
    by_cases hlt : k < l.length
    · obtain ⟨b, off, cap', au, cu, e1, hbB, c0, c1, hs1, hu, _⟩ := atom_at2 (HR.out wr hb) hlt
      injection e1 with e1 e2 e3
      subst e1 e3
      obtain ⟨hr4, hr3, hr1⟩ := HOK.out _ (List.getElem_mem hlt)
      have hA0 := below_alloc wr (.cells #[.string l[k].1, .slice au l[k].2.length cu] 66 (0, 0))
      have HC := Lib.hid (format_atom l[k].1 _ l[k].2 S _ (Cd.later hu hA0) hr4 hr3 hr1)
      have HA0 := Lib.hid hA0
      have p1 : (0 : Int) ≤ (k : Int) := by omega
      have p2 : (k : Int) < (l.length : Int) := by omega
      have HOW := Lib.hid how
      have HND := Lib.hid hnd
      have HB := Lib.hid hb
      have HT := Lib.hid (show atL (l.take (k + 1)) = atL (l.take k) ++ [atomS (l[k].1, l[k].2)] by unfold atL; rw [List.take_succ_eq_append_getElem hlt, List.map_append]; rfl)
      have HSZ := Lib.hid (show (atomS (l[k].1, l[k].2)).size ≤ maxLen by
        show (atomB l[k]).toArray.size ≤ maxLen
        rw [List.size_toArray, atomB_len]
        unfold maxLen
        omega)
      have HL := Lib.hid (show k = (atL (l.take k)).length by unfold atL; rw [List.length_map, List.length_take]; omega)
      clear how hnd hb how1 hb1 hu hA0 hr4 hr3 hr1
      generalize atomS (l[k].1, l[k].2) = r at *
      go_wp2_with fail
      refine HC.out.mono ?_
      rintro e w2 ⟨rfl, hb2'⟩
      have hb2 := below_then HA0.out hb2'
      clear hb2'
      have hbA : Below w2.heap.size w2 (w2.alloc (.cells #[.string r] 9 (0, 0))) := below_alloc _ _
      have HOW2 := Lib.hid (Cd.ow_later (Cd.ow_later HOW.out hb2) hbA)
      have HB2 := Lib.hid (below_then (below_then HB.out hb2) hbA)
      have HBS := Lib.hid (show w.heap.size ≤ (w2.alloc (.cells #[.string r] 9 (0, 0))).heap.size by rw [size_alloc]; have := HB.out.size; have := hb2.size; omega)
      have HCELL := Lib.hid (show (w2.alloc (.cells #[.string r] 9 (0, 0))).cell? ⟨w2.heap.size, 0, none⟩ = some (.string r) from World.cell?_alloc_mark _ _ _ _ 0)
      clear hbA hb2
      go_wp2_with (at_builtin; refine Cd.wpList_appendR (c := strC) rfl rfl (.tmp 17) (.tmp 21) 76 rfl w.heap.size 9 (.string ⟨#[]⟩) 16 Tryd.underlying76 info_str rfl (by decide) w.heap.size l.length k (atL (l.take k)) fp rfl HL.out HOW2.out HND.out (by omega) w2.heap.size (.string r) rfl HCELL.out r [] ⟨rfl, HSZ.out, rfl⟩ List.nodup_nil (fun b hb => by cases hb) (by omega) HBS.out ?_)
      intro w3 fp3 ho3 hn3 hsub3 ht3
      have HB3 := Lib.hid (ht3.below HB2.out (fun b hb => (strsC.ow_lt HOW.out b hb).1))
      rw [← HT.out] at ho3
      clear ht3 hsub3
      go_wp2_with fail
      go_roundw
      case rel => exact ⟨k + 1, fp3, by omega, by go_num, rfl, ho3, hn3, HB3.out⟩
      case measure => simp [intOf]; omega
    · have ek : k = l.length := by omega
      subst ek
      rw [List.take_length] at how
      go_wp2_with fail
      go_ret
      exact ⟨_, fp, rfl, how, hnd, hb⟩
set_option maxRecDepth 100000 in
theorem impl_fmt (n : Int) (u : Value) (l : List A2) (S : Nat → Prop) (w : World) (hr : atomsC.rd w S [u] l) :
    Calls Tryd.prog 36 #[.agg #[.int .i64 n, u]] w fun e w' => e = .returned (.string (fmtQ n l)) ∧ Below w.heap.size w w' := by
  have HV := Lib.hid (fun w' (hb : Below w.heap.size w w') => impl_valid n u l S w' (Cd.later hr hb))
  have HR := Lib.hid (fun w' (hb : Below w.heap.size w w') => Cd.later hr hb)
  obtain ⟨a, cap, rfl, hlm⟩ := Cd.sl_form hr
  clear hr
  have HC := Lib.hid (Loc2.of (row_alloc w (.cells #[.int .i64 n, .slice a l.length cap] 48)))
  have HB := Lib.hid (below_alloc w (.cells #[.int .i64 n, .slice a l.length cap] 48))
  cases hq : qOk n l
  · have HZ := Lib.hid (fmtQ_no hq)
    rw [hq] at HV
    clear hq
    go_enter Tryd.func36, Tryd.ntmps36
    go_wp2_with fail
    generalize w.alloc _ = W at *
    refine (HV.out _ HB.out).mono ?_
    rintro e w1 ⟨rfl, hb1⟩
    have HB1 := Lib.hid (below_then HB.out hb1)
    clear hb1
    go_wp2_with fail
    go_ret
    exact ⟨ret_str HZ.out.symm, HB1.out⟩
  rw [hq] at HV
  have HZ := Lib.hid (fmtQ_yes hq)
  have hp := qOk_iff.1 hq
  have h4 := hp.2.2.2.1
  have HMA := Lib.hid (fun w' (hb : Below w.heap.size w w') => map_atoms (.slice a l.length cap) l S w' (HR.out w' hb) h4 (fun A hA => ⟨hp.in4 A hA, (hp.2.2.2.2.1 A hA).2.2.1, (hp.2.2.2.2.1 A hA).name⟩))
  have HJ := Lib.hid (fun g fp w' base (how : strsC.ow w' base [.slice (some ⟨g, 0, none⟩) l.length l.length] (atL l) fp) => (show Calls Tryd.prog 66 #[.slice (some ⟨g, 0, none⟩) l.length l.length, .string ⟨#[32]⟩] w' fun e w'' => e = .returned (.string ⟨(qB l).toArray⟩) ∧ Below w'.heap.size w' w'' from by
    have hl : (l.map atomS).length = l.length := List.length_map ..
    have he : (l.map atomS).map (·.data.toList) = l.map atomB := by
      rw [List.map_map]
      rfl
    have h := join_strs g (l.map atomS) ⟨#[32]⟩ fp w' base (by rw [hl]; exact how) (by omega) (by rw [show (ByteArray.mk #[32]).data.toList = [32] from rfl, he, qB_join]; have := hp.len; omega)
    rw [hl, show (ByteArray.mk #[32]).data.toList = [32] from rfl, he, qB_join] at h
    exact h))
  clear hq hp h4
  go_enter Tryd.func36, Tryd.ntmps36
  go_wp2_with fail
  generalize w.alloc _ = W at *
  refine (HV.out _ HB.out).mono ?_
  rintro e w1 ⟨rfl, hb1⟩
  have HB1 := Lib.hid (below_then HB.out hb1)
  have c1 := (HC.out.later hb1).c1
  clear hb1
  go_wp2_with fail
  refine (HMA.out w1 HB1.out).mono ?_
  rintro e w2 ⟨g, fp, rfl, how, hnd, hb2⟩
  have HB2 := Lib.hid (below_then HB1.out hb2)
  have HJ2 := Lib.hid (HJ.out g fp w2 _ how)
  clear how hnd hb2
  go_wp2_with fail
  refine HJ2.out.mono ?_
  rintro e w3 ⟨rfl, hb3⟩
  have HB3 := Lib.hid (below_then HB2.out hb3)
  clear hb3
  go_wp2_with fail
  go_ret
  exact ⟨ret_str HZ.out.symm, HB3.out⟩
end Go.Proofs.YtdjgaffiildijabDoor.QryFmt
