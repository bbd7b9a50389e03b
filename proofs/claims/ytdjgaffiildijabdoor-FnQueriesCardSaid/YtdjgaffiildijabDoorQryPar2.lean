/- Queries: read: the program's functions, to the end. -/
import Derived.Test.YtdjgaffiildijabDoorQryPar
namespace Go.Proofs.YtdjgaffiildijabDoor.QryPar
open Go Go.RowKit Byt Ints IntsLaw Cd Rows2 Tab TabSpec Exact Atom QryMath QrySpec QryImp MkAtom SlMath Draw
open TabParse (strC strsC info_str cutB ba)
open QryFmt (KeptF strs_at)

/-- What the program's function reads of the package variables. -/
def Ready (w : World) : Prop := ∃ m, w.cell? ⟨2, 0, none⟩ = some (.int .i64 m)
theorem ready_later {w w' : World} (h : Ready w) (hb : Below w.heap.size w w') : Ready w' := by
  obtain ⟨m, hm⟩ := h
  exact ⟨m, (hb.cell (World.block_lt_of_cell? w _ hm)).trans hm⟩
theorem str_clone (s : ByteArray) (w : World) (hs : s.size ≤ 1048577) :
    Calls Tryd.prog 55 #[.string s] w fun e w' => e = .returned (.string s) ∧ Below w.heap.size w w' := by
  have HC := Lib.hid (Tryd.stringslite_Clone s w (by omega))
  clear hs
  go_enter Tryd.func55, Tryd.ntmps55
  go_wp2_with (go_at_call 107; refine HC.out.mono ?_; rintro e w1 ⟨rfl, hb⟩)
  go_ret
  exact ⟨rfl, hb⟩
theorem trim_at (s : ByteArray) (w : World) (hs : s.size ≤ 1048576) :
    Calls Tryd.prog 119 #[.string s, .string ⟨#[41]⟩] w fun e w' => e = .returned (.string ⟨(Lib.trimSuffix s.data.toList [41]).toArray⟩) ∧ w = w' :=
  (Tryd.strings_TrimSuffix s ⟨#[41]⟩ w (by omega)).mono fun _ _ h => ⟨h.1, h.2.symm⟩
theorem cut_at (s : ByteArray) (w : World) (hs : s.size ≤ 1048576) (hr : Ready w) :
    Calls Tryd.prog 54 #[.string s, .string ⟨#[40]⟩] w fun e w' => e = .returned (.tuple #[.string ⟨(Lib.cut s.data.toList [40]).1.toArray⟩, .string ⟨(Lib.cut s.data.toList [40]).2.1.toArray⟩, .bool (Lib.cut s.data.toList [40]).2.2]) ∧ Below w.heap.size w w' := by
  obtain ⟨m, hm⟩ := hr
  refine (Tryd.strings_Cut s ⟨#[40]⟩ m w (by omega) hm).mono ?_
  rintro e w' ⟨rfl, n, rfl⟩
  exact ⟨rfl, QryImp.below_drewN (Below.refl _ _)⟩
set_option maxRecDepth 100000 in
set_option maxHeartbeats 800000 in
theorem parse_atom (s : ByteArray) (w : World) (hs : s.size ≤ 1048576) (hr : Ready w) :
    Calls Tryd.prog 73 #[.string s] w fun e w' => ∃ u fp, e = .returned (.agg #[.string (atI s.data.toList).1, u]) ∧ rowC.ow w' w.heap.size [u] (atI s.data.toList).2 fp ∧ fp.Nodup ∧ Below w.heap.size w w' := by
  have HR := Lib.hid (fun w' (hb : Below w.heap.size w w') => ready_later hr hb)
  have HT := Lib.hid (fun w' => trim_at s w' hs)
  have htb := trim_bd s.data.toList [41]
  have hsl : s.data.toList.length = s.size := Array.length_toList
  have hcb := cut_bd 40 (Lib.trimSuffix s.data.toList [41])
  have HTS := Lib.hid (show (⟨(Lib.trimSuffix s.data.toList [41]).toArray⟩ : ByteArray).size ≤ 1048576 by show (Lib.trimSuffix s.data.toList [41]).toArray.size ≤ _; rw [List.size_toArray]; omega)
  have HCU := Lib.hid (fun w' (hb : Below w.heap.size w w') => cut_at ⟨(Lib.trimSuffix s.data.toList [41]).toArray⟩ w' HTS.out (HR.out w' hb))
  have HA1 := Lib.hid (show (atI s.data.toList).1 = ⟨(Lib.cut (Lib.trimSuffix s.data.toList [41]) [40]).1.toArray⟩ from rfl)
  have HA2 := Lib.hid (show (atI s.data.toList).2 = ixs (Lib.cut (Lib.trimSuffix s.data.toList [41]) [40]).2.1 from rfl)
  rw [HA1.out, HA2.out]
  clear hr HTS
  simp only at HCU
  generalize Lib.trimSuffix s.data.toList [41] = tr at *
  generalize hc1 : (Lib.cut tr [40]).1 = b1 at *
  generalize hc2 : (Lib.cut tr [40]).2.1 = b2 at *
  generalize (Lib.cut tr [40]).2.2 = b3 at *
  have HS1 := Lib.hid (show (⟨b1.toArray⟩ : ByteArray).size ≤ 1048577 by show b1.toArray.size ≤ _; rw [List.size_toArray]; omega)
  have HS2 := Lib.hid (show (⟨b2.toArray⟩ : ByteArray).size ≤ 1048577 ∧ b2.length ≤ 1048577 from ⟨by show b2.toArray.size ≤ _; rw [List.size_toArray]; omega, by omega⟩)
  go_enter Tryd.func73, Tryd.ntmps73
  go_wp2_with fail
  generalize hW : w.alloc _ = W
  obtain ⟨r0, hz0, hb0⟩ := start1 w _ hW
  have HB0 := Lib.hid hb0
  have HC0 := Lib.hid (Loc2.of r0)
  have HZ0 := Lib.hid hz0
  clear hW r0 hb0 hz0
  refine (HT.out W).mono ?_
  rintro e w1 ⟨rfl, rfl⟩
  go_wp2_with fail
  refine (HCU.out W HB0.out).mono ?_
  rintro e w2 ⟨rfl, hb2⟩
  have HB2 := Lib.hid (below_then HB0.out hb2)
  have HC2 := Lib.hid (HC0.out.later hb2)
  have HZ2 := Lib.hid hb2.size
  clear hb2
  go_wp2_with fail
  refine (str_clone ⟨b1.toArray⟩ w2 HS1.out).mono ?_
  rintro e w3 ⟨rfl, hb3⟩
  have HB3 := Lib.hid (below_then HB2.out hb3)
  have HC3 := Lib.hid (HC2.out.later hb3)
  have HZ3 := Lib.hid hb3.size
  clear hb3
  obtain ⟨c, w4, hcv, hrd, hsz, hbel⟩ := bytes_laid ⟨b2.toArray⟩ w3 HS2.out.1
  have HM := Lib.hid (map_vars _ _ _ w4 hrd (Nat.le_refl _) (by show b2.length ≤ _; exact HS2.out.2))
  have HB4 := Lib.hid (below_then HB3.out hbel)
  have HC4 := Lib.hid (HC3.out.later hbel)
  have HZ4 := Lib.hid hsz
  clear hrd hbel hsz
  go_wp2_with fail
  refine HM.out.mono ?_
  rintro e w5 ⟨v5, rfl, ho5, hb5⟩
  have HB5 := Lib.hid (below_then HB4.out hb5)
  have HC5 := Lib.hid (HC4.out.later hb5)
  have HO5 := Lib.hid (show OwnI w5 w4.heap.size 3 v5 (ixs b2) from ho5)
  have hrow := Cd.ow_of_own HO5.out (inr_ixs b2)
  obtain ⟨a5, c5, rfl⟩ := Cd.ow_slice hrow
  have HROW := Lib.hid hrow
  have HLT := Lib.hid (rowC.ow_lt hrow)
  have c0 := HC5.out.c0
  have c1 := HC5.out.c1
  have f0 := HC5.out.f0
  have f1 := HC5.out.f1
  clear ho5 hb5 hcv hrow
  go_wp2_with fail
  obtain ⟨k0, k1⟩ := set2 (w := w5) (k := w.heap.size) (x := .string ⟨b1.toArray⟩) (y := .slice a5 (ixs b2).length c5) c0 c1
  have hfar : w.heap.size ∉ (Value.slice a5 (ixs b2).length c5).ownBlock.toList := fun q => by
    have h1 := (HLT.out _ q).1
    have h2 := HZ4.out
    have h3 := HZ3.out
    have h4 := HZ2.out
    have h5 := HZ0.out
    omega
  refine bodyPost_ret (v := .agg #[.string ⟨b1.toArray⟩, .slice a5 (ixs b2).length c5]) (by simp [results, Tryd.results73, go_sem, k0, k1]) rfl ⟨_, _, rfl, ow_setCell (ow_setCell (rowC.ow_base HROW.out HB4.out.size) hfar _) hfar _, Cd.own_nodup, ?_⟩
  exact (HB5.out.setCell (Nat.le_refl _) _).setCell (Nat.le_refl _) _

/-- The atoms of the words. -/
def atL2 (l : List ByteArray) : List A2 := l.map fun x => atI x.data.toList
set_option maxRecDepth 100000 in
set_option maxHeartbeats 1600000 in
theorem map_patoms (v : Value) (l : List ByteArray) (S : Nat → Prop) (w : World) (hr : strsC.rd w S [v] l) (hl : l.length ≤ 1048577) (hz : ∀ x ∈ l, x.size ≤ 1048576) (hrd : Ready w) :
    Calls Tryd.prog 71 #[v, .func (.func 73) #[] #[]] w fun e w' => ∃ g c fp, e = .returned (.slice (some ⟨g, 0, none⟩) l.length c) ∧ atomsC.ow w' w.heap.size [.slice (some ⟨g, 0, none⟩) l.length c] (atL2 l) fp ∧ fp.Nodup ∧ Below w.heap.size w w' := by
  obtain ⟨i0, hi, hz0, hz1, hz2⟩ := info_parts info_atom
  have HR := Lib.hid (fun w' (hb : Below w.heap.size w w') => Cd.later hr hb)
  have HRD := Lib.hid (fun w' (hb : Below w.heap.size w w') => ready_later hrd hb)
  have HSZ := Lib.hid hz
  obtain ⟨a, cap, rfl, hlm⟩ := Cd.sl_form hr
  clear hr hz hrd
  go_enter Tryd.func71, Tryd.ntmps71
  go_wp2_with (at_make; refine wpList_make_own _ rfl _ _ 46 rfl w.heap.size 66 i0 (.agg #[.string ⟨#[]⟩, .slice none 0 0]) 2 Tryd.underlying46 hi hz0 hz1 _ _ _ l.length rfl rfl rfl (by rw [hz2]; omega) (by unfold maxLen; omega) (Nat.le_refl _) ?_)
  intro w1 hown0 hg0
  have how1 : atomsC.ow w1 w.heap.size [.slice (some ⟨w.heap.size, 0, none⟩) 0 l.length] [] [w.heap.size] := ⟨_, [], [], rfl, hown0, trivial, rfl⟩
  have hb1 : Below w.heap.size w w1 := ⟨hg0.os, hg0.tape, hg0.output, hg0.size, fun k hk => hg0.block k hk (by simp)⟩
  have HO1 := Lib.hid how1
  have HB1 := Lib.hid hb1
  clear hown0 hg0 how1 hb1
  go_wp2_with fail
  go_loopw [5, 13] (fun o i wr => ∃ (k g c : Nat) (fp : List Nat), k ≤ l.length ∧ i = .int .i64 k ∧ o = .slice (some ⟨g, 0, none⟩) k c ∧ atomsC.ow wr w.heap.size [.slice (some ⟨g, 0, none⟩) k c] (atL2 (l.take k)) fp ∧ fp.Nodup ∧ Below w.heap.size w wr) (fun _ i _ => l.length - (intOf i).toNat)
  case atStart => exact ⟨0, _, _, _, Nat.zero_le _, rfl, rfl, HO1.out, by simp, HB1.out⟩
  case round =>
    obtain ⟨k, g, c, fp, hk, rfl, rfl, how, hnd, hb⟩ := hrel
    by_cases hlt : k < l.length
    · obtain ⟨b, off, cap', e1, hbB, hc⟩ := strs_at (HR.out wr hb) hlt
      injection e1 with e1 e2 e3
      subst e1 e3
      have HC := Lib.hid (parse_atom l[k] wr (HSZ.out _ (List.getElem_mem hlt)) (HRD.out wr hb))
      have HOW := Lib.hid how
      have HND := Lib.hid hnd
      have HB := Lib.hid hb
      have HT := Lib.hid (show atL2 (l.take (k + 1)) = atL2 (l.take k) ++ [((atI l[k].data.toList).1, (atI l[k].data.toList).2)] by unfold atL2; rw [List.take_succ_eq_append_getElem hlt, List.map_append]; rfl)
      have HL := Lib.hid (show (atL2 (l.take k)).length = k by unfold atL2; rw [List.length_map, List.length_take]; omega)
      have hnz : (atI l[k].data.toList).1.size ≤ maxLen := by
        have h1 := HSZ.out _ (List.getElem_mem hlt)
        have h2 := trim_bd l[k].data.toList [41]
        have h3 := cut_bd 40 (Lib.trimSuffix l[k].data.toList [41])
        have h4 : l[k].data.toList.length = l[k].size := Array.length_toList
        show ((Lib.cut (Lib.trimSuffix l[k].data.toList [41]) [40]).1.toArray).size ≤ maxLen
        rw [List.size_toArray]
        unfold maxLen
        omega
      have HNZ := Lib.hid hnz
      have HLT := Lib.hid hlt
      clear how hnd hb e2 hnz
      generalize (atI l[k].data.toList).1 = nm at *
      generalize (atI l[k].data.toList).2 = vs at *
      go_wp2_with fail
      refine HC.out.mono ?_
      rintro e w4 ⟨u4, f4, rfl, ho4, hn4, hb4⟩
      obtain ⟨a4, c4, rfl⟩ := Cd.ow_slice (c := Cd.int) ho4
      have hbA := below_alloc w4 (.cells #[.string nm, .slice a4 vs.length c4] 66 (0, 0))
      have HAT := Lib.hid (at2 (row_alloc w4 (.cells #[.string nm, .slice a4 vs.length c4] 66 (0, 0))))
      have HOT := Lib.hid (atom_ow (nm := nm) (rowC.ow_base (Cd.ow_later ho4 hbA) HB.out.size) HNZ.out)
      have HN4 := Lib.hid hn4
      have HFAR := Lib.hid (show ∀ b ∈ f4, b ∉ fp from fun b hb q => by
        have h1 := (rowC.ow_lt ho4 b hb).1
        have h2 := (atomsC.ow_lt HOW.out b q).2
        omega)
      have HB5 := Lib.hid (below_then hb4 hbA)
      have HBB := Lib.hid (below_then HB.out HB5.out)
      have HO5 := Lib.hid (Cd.ow_later HOW.out HB5.out)
      have t1 : (atL2 (l.take k)).length + 1 ≤ 1000000000 := by have := HL.out; omega
      have HFP := Lib.hid (fun b (h : b ∈ fp) => (atomsC.ow_lt HOW.out b h).1)
      clear ho4 hn4 hb4 hbA
      go_wp2_with (at_builtin; refine Cd.wpList_appendN (c := atomC) rfl (.tmp 17) (.tmp 21) 46 rfl w.heap.size 66 (.agg #[.string ⟨#[]⟩, .slice none 0 0]) 2 40 rfl Tryd.underlying46 info_atom rfl (by decide) _ (atL2 (l.take k)) fp rfl HO5.out HND.out w4.heap.size _ rfl HAT.out (nm, vs) f4 HOT.out HN4.out HFAR.out t1 HBB.out.size ?_)
      intro g6 c6 w6 fp6 ho6 hn6 _ ht6
      have HB6 := Lib.hid (Cd.Touch.below HBB.out ht6 HFP.out)
      rw [← HT.out, HL.out] at ho6
      have HO6 := Lib.hid (show atomsC.ow w6 w.heap.size [.slice (some ⟨g6, 0, none⟩) (k + 1) c6] (atL2 (l.take (k + 1))) fp6 from ho6)
      have HN6 := Lib.hid hn6
      rw [HL.out]
      clear ho6 hn6 ht6
      go_wp2_with fail
      go_roundw
      case rel => exact ⟨k + 1, g6, c6, fp6, by have := HLT.out; omega, by go_num, rfl, HO6.out, HN6.out, HB6.out⟩
      case measure => have := HLT.out; simp [intOf]; omega
    · have ek : k = l.length := by omega
      subst ek
      rw [List.take_length] at how
      go_wp2_with fail
      go_ret
      exact ⟨_, _, fp, rfl, how, hnd, hb⟩
end Go.Proofs.YtdjgaffiildijabDoor.QryPar
