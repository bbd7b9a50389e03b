/- Texts that the proof rests on, one behind the other. -/
import Derived.Test.YtdkhgeknjekkoaaGreatMg4EvaluateQuery
import Derived.Test.YtdkhgeknjekkoaaGreatTabIns
import Derived.Test.YtdkhgeknjekkoaaGreatMg1EvaluateQuery
import Derived.Test.YtdkhgeknjekkoaaGreatExact
import Derived.StillTailTactics
import Derived.Test.YtdkhgeknjekkoaaGreatMg2EvaluateQuery
import Derived.Sort.Row
import Derived.Lib.SliceRun
import Derived.Test.YtdkhgeknjekkoaaGreatShelf
import Derived.Test.YtdkhgeknjekkoaaGreatCdN

namespace Go.Proofs.YtdkhgeknjekkoaaGreat.AnsImp
open Go Go.RowKit Byt Ints IntsLaw Cd Rows2 Tab TabSpec Exact Atom AnsMath TabImp

/-- A local assignment, made behind W. -/
def MadeA (W : World) (a b c d : Int) (s : Value) (wx : World) : Prop := ∃ p, s = .pointer (some ⟨p, 0, none⟩) ∧ W.heap.size ≤ p ∧ Loc4 wx p a b c d ∧ DbSpec.LaterD W wx
theorem laterD_alloc {a w : World} (h : DbSpec.LaterD a w) (o : Obj) : DbSpec.LaterD a (w.alloc o) := below_then h (below_alloc w o)
theorem laterD_drewA (a : World) (o : Obj) : DbSpec.LaterD a (a.alloc o).drew := Below.drew (laterD_alloc (Below.refl _ a) o)
theorem laterD_drewA2 (a : World) (o : Obj) : DbSpec.LaterD a (a.drew.alloc o) := laterD_alloc (Below.drew (Below.refl _ a)) o
theorem laterD_size {a w : World} (h : DbSpec.LaterD a w) : a.heap.size ≤ w.heap.size := Below.size h
theorem laterD_set4 {a w : World} {k : Nat} {x y z u : Value} (h : DbSpec.LaterD a w) (hk : a.heap.size ≤ k) : DbSpec.LaterD a ((((w.setCell ⟨k, 0, none⟩ x).setCell ⟨k, 1, none⟩ y).setCell ⟨k, 2, none⟩ z).setCell ⟨k, 3, none⟩ u) := below_set4 h hk
theorem locA_new {W wq : World} {a b c d : Int} {T : TypeId} (hb : Below (W.alloc (.cells #[.int .i64 a, .int .i64 b, .int .i64 c, .int .i64 d] T (0, 0))).heap.size (W.alloc (.cells #[.int .i64 a, .int .i64 b, .int .i64 c, .int .i64 d] T (0, 0))) wq) : Loc4 wq W.heap.size a b c d :=
  (Loc4.of (start1 W _ rfl).1).later hb
theorem locA_new' {W wq : World} {a b c d : Int} {T : TypeId} (hb : Below (W.drew.alloc (.cells #[.int .i64 a, .int .i64 b, .int .i64 c, .int .i64 d] T (0, 0))).heap.size (W.drew.alloc (.cells #[.int .i64 a, .int .i64 b, .int .i64 c, .int .i64 d] T (0, 0))) wq) : Loc4 wq W.heap.size a b c d := locA_new (W := W.drew) hb
theorem locA_new3 {W wq : World} {a b c d : Int} {T : TypeId} (hb : Below (W.alloc (.cells #[.int .i64 a, .int .i64 b, .int .i64 c, .int .i64 d] T (0, 0))).drew.heap.size (W.alloc (.cells #[.int .i64 a, .int .i64 b, .int .i64 c, .int .i64 d] T (0, 0))).drew wq) : Loc4 wq W.heap.size a b c d :=
  ((Loc4.of (start1 W _ rfl).1).drew).later hb
theorem madeA {W wq : World} {k : Nat} {a b c d x y z u : Int} (kk : DbSpec.LaterD W wq) (hb : W.heap.size ≤ k) (GL : Loc4 wq k a b c d) :
    MadeA W x y z u (.pointer (some ⟨k, 0, none⟩)) ((((wq.setCell ⟨k, 0, none⟩ (.int .i64 x)).setCell ⟨k, 1, none⟩ (.int .i64 y)).setCell ⟨k, 2, none⟩ (.int .i64 z)).setCell ⟨k, 3, none⟩ (.int .i64 u)) :=
  ⟨k, rfl, hb, GL.all x y z u, laterD_set4 kk hb⟩
theorem madeA2 {W wq : World} {T : TypeId} {x y z u : Int} (kk : DbSpec.LaterD W wq) :
    MadeA W x y z u (.pointer (some ⟨wq.heap.size, 0, none⟩)) (wq.alloc (.cells #[.int .i64 x, .int .i64 y, .int .i64 z, .int .i64 u] T (0, 0))) :=
  ⟨wq.heap.size, rfl, laterD_size kk, Loc4.of (start1 wq _ rfl).1, laterD_alloc kk _⟩

set_option maxRecDepth 100000 in
set_option maxHeartbeats 6400000 in
theorem clo_step (l : List Rel) (vs : List Int) (S : Nat → Prop) (B0 bR bV bO bM : Nat) (hok : ∀ R ∈ l, RelOk R) (hin : ∀ R ∈ l, ∀ v ∈ R.1, 0 ≤ v ∧ v < 4) (hl4 : l.length ≤ 4) (i : Nat) (hi : i < l.length)
    (IH : CloC l vs S B0 bR bV bO bM (i + 1)) : CloC l vs S B0 bR bV bO bM i := by
  intro f w ur uv o M fp hf henv hst hM
  have HF := Lib.hid hf
  have HIH := Lib.hid IH
  have HR := Lib.hid (hok _ (List.getElem_mem hi))
  have HINR := Lib.hid (hin _ (List.getElem_mem hi))
  have HRO := Lib.hid (show ∀ R ∈ l.drop (i + 1), RelOk R from fun R hR => hok R (List.mem_of_mem_drop hR))
  have HRL := Lib.hid (show (l.drop (i + 1)).length = l.length - (i + 1) from List.length_drop ..)
  have hdrop : l.drop i = l[i] :: l.drop (i + 1) := List.drop_eq_getElem_cons hi
  rw [hdrop, ← upTo_all]
  have HMB := Lib.hid (show ∀ k, k < (l[i]).2.length → (M ++ (upTo f l[i] (l.drop (i + 1)) k).map (selF vs)).length + 8 ^ (l.length - (i + 1)) ≤ 1000000 from fun k hk => by
    have h1 := len_upTo (f := f) (R := l[i]) HRO.out k
    rw [HRL.out] at h1
    have h2 : k + 1 ≤ 8 := by have := HR.out.1; omega
    have h3 : (k + 1) * 8 ^ (l.length - (i + 1)) ≤ 8 * 8 ^ (l.length - (i + 1)) := Nat.mul_le_mul_right _ h2
    have h4 : 8 * 8 ^ (l.length - (i + 1)) = 8 ^ (l.length - i) := by
      rw [show l.length - i = (l.length - (i + 1)) + 1 by omega, Nat.pow_succ, Nat.mul_comm]
    rw [Nat.add_mul] at h3
    rw [List.length_append, List.length_map]
    omega)
  obtain ⟨a2, c2, rfl, hl2⟩ := row_form henv.hv
  obtain ⟨b, off, cap, us, e1, hSb, hbB, hat, hu⟩ := Cd.sl_at henv.hr hi
  subst e1
  obtain ⟨a3, c3, a4, c4, rfl, hv3, hv4⟩ := rel_cells hu
  have q0 := hat 0 (by simp)
  have q1 := hat 1 (by simp)
  simp only [List.getElem_cons_zero, List.getElem_cons_succ, Nat.add_zero, show relC.n = 2 from rfl] at q0 q1
  have HX := Lib.hid (show LocF _ _ f from Loc4.of (row_alloc w (arrO f 117)))
  have hb0 := below_alloc w (arrO f 117)
  have HB := Lib.hid hb0
  have HE := Lib.hid (henv.later hb0)
  have HS := Lib.hid (hst.later hb0)
  have HSZ := Lib.hid (size_alloc w (arrO f 117))
  have HLE := Lib.hid henv.le
  have HFP := Lib.hid (rowsC.ow_lt hst.ow)
  have HV3 := Lib.hid (Cd.later hv3 hb0)
  have HV4 := Lib.hid (Cd.later hv4 hb0)
  have HQ0 := Lib.hid ((hb0.cell (p := ⟨b, off + i * 2, none⟩) hbB).trans q0)
  have HQ1 := Lib.hid ((hb0.cell (p := ⟨b, off + i * 2 + 1, none⟩) hbB).trans q1)
  have HSB := Lib.hid hSb
  have HEQ := Lib.hid (fun (k : Nat) (hk : k < (l[i]).2.length) => upTo_succ (f := f) (rest := l.drop (i + 1)) hk)
  have i1 : (0 : Int) ≤ (i : Int) := by omega
  have i2 : (i : Int) < (l.length : Int) := by omega
  have i3 : (i : Int) < 4 := by omega
  have t1 : ((i : Int) == (l.length : Int)) = false := by rw [beq_eq_false_iff_ne]; omega
  clear henv hst hf hM hok hin hl4 IH hdrop hu hat hbB hSb hv3 hv4 q0 q1 hb0
  generalize l[i] = R at *
  clear hi
  generalize hrest : l.drop (i + 1) = rest at *
  have HREST := Lib.hid hrest
  clear hrest
  unfold arrV
  unfold arrO at HX HB HE HS HSZ HV3 HV4 HQ0 HQ1
  go_enter Tryz.func93, Tryz.ntmps93
  go_upto_region 1 with fail
  generalize w.alloc _ = W at *
  have y1 := HE.out.r
  have y2 := HQ1.out
  go_wp2_with fail
  clear y1 y2
  go_loopw [34] (fun s wr => ∃ k : Nat, k ≤ R.2.length ∧ s = .int .i64 k ∧ JAns B0 bO fp (M ++ (upTo f R rest k).map (selF vs)) W wr) (fun s _ => R.2.length - (intOf s).toNat)
  case atStart => exact ⟨0, Nat.zero_le _, rfl, by
    have : upTo f R rest 0 = [] := by simp [upTo]
    rw [this, List.map_nil, List.append_nil]
    exact JAns.start HS.out (Below.refl _ _)⟩
  case round =>
    obtain ⟨k, hk, rfl, hans⟩ := hrel
    by_cases hlt : k < R.2.length
    · obtain ⟨o', fp', hst', hs', ht'⟩ := hans
      have hfp' : ∀ b ∈ fp, B0 ≤ b := fun b hb => (HFP.out b hb).1
      have hEr := HE.out.touched ht' hfp'
      have hno : ∀ b, S b → b ∉ bO :: fp := fun b hb q => by
        rcases List.mem_cons.1 q with e | e
        · exact HE.out.nS (e ▸ hb)
        · have := hfp' b e; have := HE.out.lS b hb; omega
      have hXr := HX.out.touched ht' (fun q => by
        rcases List.mem_cons.1 q with e | e
        · have := HE.out.lO; have := HLE.out; omega
        · have := (HFP.out _ e).2; omega)
      have hr3 := Cd.touched HV3.out ht' (fun b hb q => hno b q hb)
      have hr4 := Cd.touched HV4.out ht' (fun b hb q => hno b q hb)
      have hq0 := ht'.cell HQ0.out (hno b HSB.out)
      obtain ⟨rb, ro, rc, v, e1, hrb, hcr, hrow⟩ := rows_at hr4 hlt
      injection e1 with e1 e2 e3
      subst e1 e3
      have hrok := HR.out.2.2.2 _ (List.getElem_mem hlt)
      have HROK := Lib.hid hrok
      have HEXT := Lib.hid (fun w' (hq : DbSpec.LaterD wr w') => impl_extend f _ _ R.1 R.2[k] S _ w' (Cd.later hr3 hq) (Cd.later hrow hq) HINR.out hrok.1)
      have HNX := Lib.hid (HEQ.out k hlt)
      have HMK := Lib.hid (HMB.out k hlt)
      have p1 : (0 : Int) ≤ (k : Int) := by omega
      have p2 : (k : Int) < (R.2.length : Int) := by omega
      obtain ⟨a5, c5, rfl, _⟩ := row_form hrow
      have HLT := Lib.hid hlt
      have i5 : (k : Int) < 8 := by have := HR.out.1; omega
      have HER := Lib.hid hEr
      have HST := Lib.hid hst'
      have HSS := Lib.hid hs'
      have HTT := Lib.hid ht'
      have HBD := Lib.hid (fun g (hg : extF f (R.1.zip R.2[k]) = some g) => ext_bd hg HF.out (fun p hp => hrok.2 _ (zip_snd hp)))
      have lX : w.heap.size < wr.heap.size := hXr.lt
      have lbR : bR < wr.heap.size := World.block_lt_of_cell? wr _ hEr.r
      have lb : b < wr.heap.size := World.block_lt_of_cell? wr _ hq0
      have y1 := hEr.r
      have HSQ := Lib.hid (fun wx (h : DbSpec.LaterD wr wx) => (show wx.cell? ⟨bR, 0, none⟩ = some (.slice (some ⟨b, off, none⟩) l.length cap) ∧ wx.cell? ⟨b, off + i * 2, none⟩ = some (.slice a3 R.1.length c3) ∧ wx.cell? ⟨w.heap.size, 0, none⟩ = some (.int .i64 (f 0)) ∧ wx.cell? ⟨w.heap.size, 1, none⟩ = some (.int .i64 (f 1)) ∧ wx.cell? ⟨w.heap.size, 2, none⟩ = some (.int .i64 (f 2)) ∧ wx.cell? ⟨w.heap.size, 3, none⟩ = some (.int .i64 (f 3)) ∧ DbSpec.LaterD wr wx from
        ⟨(Below.cell h (p := ⟨bR, 0, none⟩) lbR).trans y1, (Below.cell h (p := ⟨b, off + i * 2, none⟩) lb).trans hq0, (Below.cell h (p := ⟨w.heap.size, 0, none⟩) lX).trans hXr.c0, (Below.cell h (p := ⟨w.heap.size, 1, none⟩) lX).trans hXr.c1, (Below.cell h (p := ⟨w.heap.size, 2, none⟩) lX).trans hXr.c2, (Below.cell h (p := ⟨w.heap.size, 3, none⟩) lX).trans hXr.c3, h⟩))
      have kk : DbSpec.LaterD wr wr.drew := (Below.refl _ wr).drew
      clear hEr hst' hs' ht' hXr hr3 hr4 hq0 hrow hrok y1 lX lbR lb hno hfp'
      unfold stepM at HNX
      generalize R.2[k] = row at *
      clear hlt
      generalize hx : extF f (R.1.zip row) = r at *
      clear hx
      unfold extV arrV at HEXT
      generalize hz0 : (r.getD fun _ => 0) 0 = z0 at *
      generalize hz1 : (r.getD fun _ => 0) 1 = z1 at *
      generalize hz2 : (r.getD fun _ => 0) 2 = z2 at *
      generalize hz3 : (r.getD fun _ => 0) 3 = z3 at *
      generalize hfb : r.isSome = fb at *
      have HZ := Lib.hid (And.intro (And.intro hz0 hz1) (And.intro hz2 (And.intro hz3 hfb)))
      clear hz0 hz1 hz2 hz3 hfb
      go_upto_region 7 with fail
      go_cut [12, 13] (fun s12 s13 wx => s13 = .bool fb ∧ MadeA wr z0 z1 z2 z3 s12 wx)
      case first =>
        go_region_held3 (fun wx => wx.cell? ⟨bR, 0, none⟩ = some (.slice (some ⟨b, off, none⟩) l.length cap) ∧ wx.cell? ⟨b, off + i * 2, none⟩ = some (.slice a3 R.1.length c3) ∧ wx.cell? ⟨w.heap.size, 0, none⟩ = some (.int .i64 (f 0)) ∧ wx.cell? ⟨w.heap.size, 1, none⟩ = some (.int .i64 (f 1)) ∧ wx.cell? ⟨w.heap.size, 2, none⟩ = some (.int .i64 (f 2)) ∧ wx.cell? ⟨w.heap.size, 3, none⟩ = some (.int .i64 (f 3)) ∧ DbSpec.LaterD wr wx)
          ((refine HSQ.out _ ?_; first | assumption | exact laterD_alloc (by assumption) _ | exact laterD_drewA wr _ | exact laterD_drewA2 wr _ | exact laterD_set4 (by first | assumption | exact laterD_alloc (by assumption) _) (laterD_size (by first | assumption | exact Below.refl _ _))))
          (first | (go_at_call 95; refine (HEXT.out _ (by first | assumption | exact laterD_alloc (by assumption) _ | exact laterD_drewA wr _ | exact laterD_drewA2 wr _)).mono ?_; rintro e wq ⟨rfl, hbq⟩; (have kk : DbSpec.LaterD wr wq := (show Below wr.heap.size wr wq by refine below_then (show DbSpec.LaterD wr _ from ?_) hbq; first | assumption | exact laterD_alloc (by assumption) _ | exact laterD_drewA wr _ | exact laterD_drewA2 wr _)); (first | (have GL := Lib.hid (GL.out.later hbq)) | (have GL := Lib.hid (locA_new' hbq)) | (have GL := Lib.hid (locA_new hbq)) | (have GL := Lib.hid (locA_new3 hbq)) | skip); (first | (have x0 := GL.out.c0; have x1 := GL.out.c1; have x2 := GL.out.c2; have x3 := GL.out.c3; have f0 := GL.out.f0; have f1 := GL.out.f1; have f2 := GL.out.f2; have f3 := GL.out.f3) | skip); (have hS := HSQ.out wq kk); (have k0 := hS.1); (have k1 := hS.2.1); (have k2 := hS.2.2.1); (have k3 := hS.2.2.2.1); (have k4 := hS.2.2.2.2.1); (have k5 := hS.2.2.2.2.2.1); clear hbq hS))
        all_goals
          go_wp2_with fail
          go_meet
          refine ⟨rfl, ?_⟩
          first
            | (have GG := GL.out; exact madeA (by assumption) (laterD_size (by first | assumption | exact Below.refl _ _)) GG)
            | (with_reducible exact madeA2 (by assumption))
      case rest =>
        obtain ⟨rfl, p, rfl, hp, hl4, hlat⟩ := hcut
        have HEX := Lib.hid (HER.out.later hlat)
        have HSX := Lib.hid (HST.out.later hlat)
        have HTX := Lib.hid (HTT.out.trans (Cd.Touch.of_below hlat))
        have x0 := hl4.c0
        have x1 := hl4.c1
        have x2 := hl4.c2
        have x3 := hl4.c3
        have x4 := HEX.out.m
        clear hl4 hlat hp kk
        unfold cloV at x4
        cases r with
        | none =>
          have hfb : fb = false := HZ.out.2.2.2.symm
          subst hfb
          have HN2 := Lib.hid HNX.out
          go_wp2_with fail
          go_roundw
          case rel => exact ⟨k + 1, by have := HLT.out; omega, by go_num, o', fp', by rw [HN2.out, List.append_nil]; exact HSX.out, HSS.out, HTX.out⟩
          case measure => have := HLT.out; simp [intOf]; omega
        | some g =>
          have hfb : fb = true := HZ.out.2.2.2.symm
          subst hfb
          have HN2 := Lib.hid HNX.out
          have HCALL := Lib.hid (HIH.out g wc _ _ o' _ fp' (HBD.out g rfl) HEX.out HSX.out HMK.out)
          unfold arrV at HCALL
          rw [HREST.out, show g 0 = z0 from HZ.out.1.1, show g 1 = z1 from HZ.out.1.2, show g 2 = z2 from HZ.out.2.1, show g 3 = z3 from HZ.out.2.2.1, show ((i + 1 : Nat) : Int) = (i : Int) + 1 by omega] at HCALL
          go_wp2_with fail
          refine HCALL.out.mono ?_
          rintro e w9 ⟨rfl, ha9⟩
          have HA9 := Lib.hid (JAns.trans HTX.out HSS.out ha9)
          clear ha9
          go_wp2_with fail
          go_roundw
          case rel => exact ⟨k + 1, by have := HLT.out; omega, by go_num, by rw [HN2.out, List.map_append, ← List.append_assoc]; exact HA9.out⟩
          case measure => have := HLT.out; simp [intOf]; omega
    · have ek : k = R.2.length := by omega
      subst ek
      have HA := Lib.hid hans
      clear hans
      go_wp2_with fail
      exact bodyPost_end (v := .tuple #[]) (by simp [results, Tryz.results93, go_sem]) rfl ⟨rfl, JAns.trans (Cd.Touch.of_below HB.out) (fun _ hb => .inl hb) HA.out⟩
end Go.Proofs.YtdkhgeknjekkoaaGreat.AnsImp

namespace Go.Proofs.YtdkhgeknjekkoaaGreat.TabSpec
open Go Go.RowKit Byt Ints IntsLaw Cd Rows2 Tab

/-- The rows but row. -/
def dropR (rows : List (List Int)) (row : List Int) : List (List Int) := rows.filter fun r => decide (r ≠ row)
def delR (nm : ByteArray) (ar : Int) (rows : List (List Int)) (row : List Int) : List (List Int) := if hasR nm ar rows row then dropR rows row else rows
theorem dropR_len (rows : List (List Int)) (row : List Int) : (dropR rows row).length ≤ rows.length := List.length_filter_le _ _
theorem dropR_skip {rows : List (List Int)} {row : List Int} {k : Nat} (h : k < rows.length) (he : rows[k] = row) : dropR (rows.take (k + 1)) row = dropR (rows.take k) row := by
  unfold dropR
  rw [List.take_succ_eq_append_getElem h, List.filter_append]
  simp [he]
theorem dropR_next {rows : List (List Int)} {row : List Int} {k : Nat} (h : k < rows.length) (he : rows[k] ≠ row) : dropR (rows.take (k + 1)) row = dropR (rows.take k) row ++ [rows[k]] := by
  unfold dropR
  rw [List.take_succ_eq_append_getElem h, List.filter_append]
  simp [he]

theorem Fr.made {w : World} {X : Nat} {nm : ByteArray} {ar : Int} {tv u0 u' z0 z1 z2 : Value} {rows : List (List Int)} {fp : List Nat} {W : World} (b : Below w.heap.size w W) (t : Loc3 W w.heap.size (.string nm) (.int .i64 ar) tv)
    (r : Loc3 W (w.heap.size + 1) z0 z1 z2) (x : Loc3 W X (.string nm) (.int .i64 ar) u0) (o : rowsC.ow W (w.heap.size + 2) [u'] rows fp) (n : fp.Nodup) (d : X ∉ fp) (g : w.heap.size + 2 ≤ X) : Fr w X nm ar tv u' z0 z1 z2 rows fp (W.setCell ⟨X, 2, none⟩ u') :=
  ⟨b.setCell (by show _ ≤ X; omega) _, t.set_far (by show X ≠ _; omega) _, r.set_far (by show X ≠ _; omega) _, x.set2 _, ow_setCell o d _, n, d, g⟩

end Go.Proofs.YtdkhgeknjekkoaaGreat.TabSpec

namespace Go.Proofs.YtdkhgeknjekkoaaGreat.TabImp
open Go Go.RowKit Byt Ints IntsLaw Cd Rows2 Tab TabSpec Exact

/-- How many rows lie before row. -/
def FindP (rows : List (List Int)) (row : List Int) (i : Nat) : Prop :=
  i ≤ rows.length ∧ (∀ t, (h : t < rows.length) → t < i → cmpR rows[t] row < 0) ∧ (∀ t, (h : t < rows.length) → i ≤ t → 0 ≤ cmpR rows[t] row)
theorem asc_lt {rows : List (List Int)} (h : Asc rows) {s t : Nat} (hs : s < t) (ht : t < rows.length) : cmpR rows[s] rows[t] < 0 := List.pairwise_iff_getElem.1 h s t (by omega) ht hs
theorem find_mem {rows : List (List Int)} {row : List Int} {i : Nat} (ha : Asc rows) (h : FindP rows row i) : row ∈ rows ↔ ∃ h : i < rows.length, rows[i] = row := by
  constructor
  · intro hm
    obtain ⟨t, ht, rfl⟩ := List.getElem_of_mem hm
    by_cases e : t = i
    · subst e; exact ⟨ht, rfl⟩
    · by_cases hlt : t < i
      · have := h.2.1 t ht hlt
        rw [cmpR_self] at this
        omega
      · have h1 := asc_lt ha (show i < t by omega) ht
        have h2 := h.2.2 i (by omega) (Nat.le_refl _)
        omega
  · rintro ⟨hi, rfl⟩
    exact List.getElem_mem hi
theorem asc_before {rows : List (List Int)} {row : List Int} (ha : Asc rows) {s t : Nat} (hst : s ≤ t) (ht : t < rows.length) (h : cmpR rows[t] row < 0) : cmpR rows[s] row < 0 := by
  by_cases e : s = t
  · subst e; exact h
  · exact cmpR_trans (asc_lt ha (by omega) ht) h

def SearchAns (rows : List (List Int)) (row : List Int) (w : World) (e : Ending) (w' : World) : Prop :=
  ∃ i : Nat, e = .returned (.tuple #[.int .i64 i, .bool (decide (row ∈ rows))]) ∧ FindP rows row i ∧ w = w'

end Go.Proofs.YtdkhgeknjekkoaaGreat.TabImp

namespace Go.Proofs.YtdkhgeknjekkoaaGreat.TabSpec
open Go Go.RowKit Byt Ints IntsLaw Cd Rows2 Tab

theorem putStep_wt (row : List Int) (st : List (List Int) × Bool) (r : List Int) : rowsWt (putStep row st r).1 + (!(putStep row st r).2).toNat * (row.length + 1) ≤ rowsWt st.1 + (!st.2).toNat * (row.length + 1) + r.length + 1 := by
  obtain ⟨o, p⟩ := st
  unfold putStep
  by_cases h1 : cmpR r row = 0
  · rw [if_pos h1]
    cases p <;> simp [rowsWt] <;> omega
  · rw [if_neg h1]
    cases p with
    | false =>
      by_cases h2 : 0 < cmpR r row
      · rw [if_pos ⟨h2, rfl⟩]; simp [rowsWt]; omega
      · rw [if_neg (fun q => h2 q.1)]; simp [rowsWt]; omega
    | true =>
      rw [if_neg (fun q => by simp at q)]; simp [rowsWt]; omega
theorem putF_wt (row : List Int) : ∀ (l : List (List Int)) (st : List (List Int) × Bool), rowsWt (l.foldl (putStep row) st).1 + (!(l.foldl (putStep row) st).2).toNat * (row.length + 1) ≤ rowsWt st.1 + (!st.2).toNat * (row.length + 1) + rowsWt l
  | [], st => Nat.le_add_right _ _
  | r :: rs, st => by
    have h1 := putF_wt row rs (putStep row st r)
    have h2 := putStep_wt row st r
    have h3 : rowsWt (r :: rs) = rowsWt rs + r.length + 1 := by simp [rowsWt]; omega
    rw [List.foldl_cons, h3]
    omega
theorem putR_wt (rows : List (List Int)) (row : List Int) : rowsWt (putR rows row) ≤ rowsWt rows + row.length + 1 := by
  have h := putF_wt row rows ([], false)
  have e : rows.foldl (putStep row) ([], false) = putF rows row := rfl
  have e0 : rowsWt [] = 0 := rfl
  rw [e] at h
  unfold putR
  generalize putF rows row = st at *
  obtain ⟨o, p⟩ := st
  cases p with
  | true =>
    simp at h ⊢
    omega
  | false =>
    have e1 : rowsWt (o ++ [row]) = rowsWt o + (row.length + 1) := by simp [rowsWt]; omega
    simp at h ⊢
    omega

/-- The rows put one by one, up to the ninth. -/
def newR (acc : List (List Int)) : List (List Int) → List (List Int)
  | [] => acc
  | r :: rs => if acc.length ≤ 8 then newR (putR acc r) rs else acc
theorem newR_big {acc : List (List Int)} (h : ¬ acc.length ≤ 8) : ∀ l, newR acc l = acc
  | [] => rfl
  | _ :: _ => by rw [newR, if_neg h]
theorem newR_next {acc rows : List (List Int)} {k : Nat} (h : k < rows.length) (h8 : acc.length ≤ 8) : newR acc (rows.drop k) = newR (putR acc rows[k]) (rows.drop (k + 1)) := by rw [drop_at h, newR, if_pos h8]
def newOk (nm : ByteArray) (ar : Int) (rows : List (List Int)) : Bool := tabOk nm ar (newR [] rows)

/-- What is answered. -/
def NewAns (nm : ByteArray) (ar : Int) (rows : List (List Int)) (w : World) (e : Ending) (w' : World) : Prop :=
  ∃ u' fp, e = .returned (.tuple #[.agg #[.string (if newOk nm ar rows then nm else ⟨#[]⟩), .int .i64 (if newOk nm ar rows then ar else 0), u'], .bool (newOk nm ar rows)]) ∧ rowsC.ow w' w.heap.size [u'] (if newOk nm ar rows then newR [] rows else []) fp ∧ fp.Nodup ∧ Below w.heap.size w w'

end Go.Proofs.YtdkhgeknjekkoaaGreat.TabSpec

namespace Go.Proofs.YtdkhgeknjekkoaaGreat.Cd
open Go Go.RowKit Byt Ints
namespace Cd
variable {α β : Type}

/-- What owns a slice at block g, its cells laid bare. -/
theorem ow_bare {e : TypeId} {c : Cd α} (hn : c.n = 1) {w : World} {base g n cap : Nat} {l : List α} {fp : List Nat} (h : (sl e c).ow w base [.slice (some ⟨g, 0, none⟩) n cap] l fp) :
    ∃ (cur : Array Value) (xss : List (List Value)) (fps : List (List Nat)), w.heap[g]? = some (.cells cur e (0, 0)) ∧ cur.size = cap ∧ n = l.length ∧ n ≤ cap ∧ cap ≤ maxLen ∧ base ≤ g ∧ cur.toList.take n = xss.flatten ∧ Each c w base xss l fps ∧ fp = g :: fps.flatten := by
  obtain ⟨v', xss, fps, e1, hown, hE, rfl⟩ := h
  injection e1 with e1 _
  subst e1
  rcases hown.2 with ⟨e1, _⟩ | ⟨g', cap', cur, e1, hb, hg, hnc, hcm, hcs, ht⟩
  · cases e1
  · simp only [Value.slice.injEq, Option.some.injEq, Addr.mk.injEq, and_true] at e1
    obtain ⟨rfl, rfl, rfl⟩ := e1
    rw [hn, Nat.mul_one] at hcs ht
    exact ⟨cur, xss, fps, hg, hcs, rfl, hnc, hcm, hb, ht, hE, rfl⟩
theorem ow_bared {e : TypeId} {c : Cd α} (hn : c.n = 1) {w : World} {base g n cap : Nat} {l : List α} {cur : Array Value} {xss : List (List Value)} {fps : List (List Nat)}
    (hg : w.heap[g]? = some (.cells cur e (0, 0))) (hcs : cur.size = cap) (hnl : n = l.length) (hnc : n ≤ cap) (hcm : cap ≤ maxLen) (hb : base ≤ g) (ht : cur.toList.take n = xss.flatten) (hE : Each c w base xss l fps) :
    (sl e c).ow w base [.slice (some ⟨g, 0, none⟩) n cap] l (g :: fps.flatten) := by
  subst hnl
  refine ⟨_, xss, fps, rfl, ⟨hE.flatten_len, .inr ⟨g, cap, cur, rfl, hb, hg, hnc, hcm, by rw [hn, Nat.mul_one]; exact hcs, by rw [hn, Nat.mul_one]; exact ht⟩⟩, hE, rfl⟩
theorem Each.one {c : Cd α} {w : World} {base : Nat} : ∀ {xss : List (List Value)} {l : List α} {fps : List (List Nat)}, Each c w base xss l fps → ∀ u ∈ xss.flatten, u.oneCell' = true
  | [], [], [], _, u, hu => by simp at hu
  | x :: xs, _ :: az, _ :: fs, h, u, hu => by
    rw [List.flatten_cons] at hu
    rcases List.mem_append.1 hu with q | q
    · exact c.one (c.ow_rd h.1) u q
    · exact Each.one (xss := xs) (l := az) (fps := fs) h.2 u q
theorem Each.erase {c : Cd α} {w : World} {base : Nat} : ∀ {xss : List (List Value)} {l : List α} {fps : List (List Nat)}, Each c w base xss l fps → ∀ i, Each c w base (xss.eraseIdx i) (l.eraseIdx i) (fps.eraseIdx i)
  | [], [], [], _, i => by cases i <;> exact trivial
  | _ :: xs, _ :: az, _ :: fs, h, 0 => h.2
  | _ :: xs, _ :: az, _ :: fs, h, i + 1 => ⟨h.1, Each.erase (xss := xs) (l := az) (fps := fs) h.2 i⟩
theorem flatten_erase_one {c : Cd α} (hn : c.n = 1) {w : World} {base : Nat} : ∀ {xss : List (List Value)} {l : List α} {fps : List (List Nat)}, Each c w base xss l fps → ∀ i, (xss.eraseIdx i).flatten = xss.flatten.eraseIdx i
  | [], [], [], _, i => by simp
  | x :: xs, a :: az, f :: fs, h, 0 => by
    have hl := (c.len (c.ow_rd h.1)).trans hn
    match x, hl with
    | [y], _ => rfl
  | x :: xs, a :: az, f :: fs, h, i + 1 => by
    have hl := (c.len (c.ow_rd h.1)).trans hn
    have := flatten_erase_one hn (xss := xs) (l := az) (fps := fs) h.2 i
    match x, hl with
    | [y], _ =>
      show [y] ++ (xs.eraseIdx i).flatten = ([y] ++ xs.flatten).eraseIdx (i + 1)
      rw [this]
      rfl
/-- One element in, at place i. -/
def ins {α : Type} (l : List α) (i : Nat) (x : α) : List α := l.take i ++ x :: l.drop i
theorem Each.ins {c : Cd α} {w : World} {base : Nat} {x : List Value} {a : α} {f : List Nat} : ∀ {xss : List (List Value)} {l : List α} {fps : List (List Nat)}, Each c w base xss l fps → c.ow w base x a f → ∀ i, Each c w base (ins xss i x) (ins l i a) (ins fps i f)
  | [], [], [], _, k, i => by cases i <;> exact ⟨k, trivial⟩
  | _ :: xs, _ :: az, _ :: fs, h, k, 0 => ⟨k, h⟩
  | _ :: xs, _ :: az, _ :: fs, h, k, i + 1 => ⟨h.1, Each.ins (xss := xs) (l := az) (fps := fs) h.2 k i⟩
theorem flatten_ins_one {c : Cd α} (hn : c.n = 1) {w : World} {base : Nat} {u : Value} : ∀ {xss : List (List Value)} {l : List α} {fps : List (List Nat)}, Each c w base xss l fps → ∀ i, (ins xss i [u]).flatten = ins xss.flatten i u
  | [], [], [], _, i => by cases i <;> rfl
  | x :: xs, a :: az, f :: fs, h, 0 => rfl
  | x :: xs, a :: az, f :: fs, h, i + 1 => by
    have hl := (c.len (c.ow_rd h.1)).trans hn
    have := flatten_ins_one hn (u := u) (xss := xs) (l := az) (fps := fs) h.2 i
    match x, hl with
    | [y], _ =>
      show [y] ++ (ins xs i [u]).flatten = [y] ++ (ins xs.flatten i u)
      rw [this]
theorem ins_length {α : Type} (l : List α) (i : Nat) (x : α) : (ins l i x).length = l.length + 1 := by
  unfold ins
  rw [List.length_append, List.length_cons, List.length_take, List.length_drop]
  omega
theorem mem_ins {fps : List (List Nat)} {f : List Nat} {i b : Nat} (h : b ∈ (ins fps i f).flatten) : b ∈ fps.flatten ∨ b ∈ f := by
  obtain ⟨g, hg, hb⟩ := List.mem_flatten.1 h
  rcases List.mem_append.1 hg with q | q
  · exact .inl (List.mem_flatten.2 ⟨g, List.mem_of_mem_take q, hb⟩)
  · rcases List.mem_cons.1 q with rfl | q
    · exact .inr hb
    · exact .inl (List.mem_flatten.2 ⟨g, List.mem_of_mem_drop q, hb⟩)
theorem nodup_ins : ∀ {fps : List (List Nat)} {f : List Nat}, fps.flatten.Nodup → f.Nodup → (∀ b ∈ f, b ∉ fps.flatten) → ∀ i, (ins fps i f).flatten.Nodup
  | [], f, _, hf, _, i => by cases i <;> simpa [ins] using hf
  | f0 :: fps, f, h, hf, hd, 0 => by
    show (f :: f0 :: fps).flatten.Nodup
    rw [List.flatten_cons, List.nodup_append]
    exact ⟨hf, h, fun a ha b hb q => hd a ha (q ▸ hb)⟩
  | f0 :: fps, f, h, hf, hd, i + 1 => by
    rw [List.flatten_cons, List.nodup_append] at h
    show (f0 :: ins fps i f).flatten.Nodup
    rw [List.flatten_cons, List.nodup_append]
    refine ⟨h.1, nodup_ins h.2.1 hf (fun b hb q => hd b hb (by rw [List.flatten_cons]; exact List.mem_append_right _ q)) i, fun a ha b hb q => ?_⟩
    subst q
    rcases mem_ins hb with q | q
    · exact h.2.2 a ha a q rfl
    · exact hd a q (by rw [List.flatten_cons]; exact List.mem_append_left _ ha)

/-! Rows of the library's contracts ('putRow'). -/
section
variable {γ : Type} [Inhabited γ]
theorem heap_putRow (enc : γ → Value) (w : World) (g : Nat) (d : Array γ) {c : Array Value} {e : TypeId} {fr : Nat × Nat} (h : w.heap[g]? = some (.cells c e fr)) : (Sort.putRow enc w g 0 d).heap[g]? = some (.cells (Sort.putCells enc 0 d c) e fr) := by
  simp [Sort.putRow, Sort.mapBlock, Array.getElem?_modify, h, Sort.onCells]
theorem heap_putRow_other (enc : γ → Value) (w : World) (g : Nat) (d : Array γ) {k : Nat} (h : k ≠ g) : (Sort.putRow enc w g 0 d).heap[k]? = w.heap[k]? := by
  simp [Sort.putRow, Sort.mapBlock, Array.getElem?_modify, Ne.symm h]
theorem putCells_size (enc : γ → Value) (d : Array γ) (c : Array Value) : (Sort.putCells enc 0 d c).size = c.size := by simp [Sort.putCells]
theorem putCells_take (enc : γ → Value) (d : Array γ) (c : Array Value) {m : Nat} (hm : m ≤ d.size) (hd : d.size ≤ c.size) : (Sort.putCells enc 0 d c).toList.take m = (d.toList.map enc).take m := by
  apply List.ext_getElem?
  intro k
  rw [List.getElem?_take, List.getElem?_take]
  by_cases hk : k < m
  · rw [if_pos hk, if_pos hk, Array.getElem?_toList, List.getElem?_map, Array.getElem?_toList]
    have h1 : k < c.size := by omega
    have h2 : k < d.size := by omega
    simp only [Sort.putCells, Array.getElem?_mapIdx]
    rw [Array.getElem?_eq_getElem h1, Array.getElem?_eq_getElem h2, Option.map_some, Option.map_some, if_pos ⟨Nat.zero_le _, by omega⟩, Nat.sub_zero, getElem!_pos d k h2]
  · rw [if_neg hk, if_neg hk]
theorem touch_putRow (enc : γ → Value) (w : World) (g : Nat) (d : Array γ) : Touch [g] w (Sort.putRow enc w g 0 d) :=
  ⟨rfl, rfl, rfl, by rw [Sort.size_putRow]; exact Nat.le_refl _, fun k _ hn => heap_putRow_other enc w g d fun q => hn (by rw [q]; exact List.mem_singleton.2 rfl)⟩
end
theorem touch_ahead (fp : List Nat) (w : World) (n : Nat) : Touch fp w (Sort.ahead w n) := ⟨rfl, rfl, rfl, Nat.le_refl _, fun _ _ _ => rfl⟩

/-- A value of one cell. -/
structure One where
  v : Value
  one : v.oneCell' = true
instance : Inhabited One := ⟨⟨.slice none 0 0, rfl⟩⟩
def ones (us : List Value) (h : ∀ u ∈ us, u.oneCell' = true) : List One := us.attach.map fun x => ⟨x.1, h x.1 x.2⟩
theorem ones_val (us : List Value) (h : ∀ u ∈ us, u.oneCell' = true) : (ones us h).map One.v = us := by
  unfold ones
  rw [List.map_map]
  exact List.attach_map_subtype_val us
theorem ones_length (us : List Value) (h : ∀ u ∈ us, u.oneCell' = true) : (ones us h).length = us.length := by simp [ones]
theorem holds_ones {w : World} {g n : Nat} {cur : Array Value} {e : TypeId} {us : List Value} (h : ∀ u ∈ us, u.oneCell' = true) (hg : w.heap[g]? = some (.cells cur e (0, 0))) (ht : cur.toList.take n = us) :
    Sort.Holds (α := One) One.v w g 0 (ones us h).toArray := by
  intro j hj
  have hj' : j < us.length := by rw [← ones_length us h]; simpa using hj
  have hv : (ones us h)[j]?.map One.v = us[j]? := by
    rw [← List.getElem?_map, ones_val]
  have hj2 : j < (ones us h).length := by rw [ones_length]; exact hj'
  refine ⟨?_, by simp [World.frozen?, hg]⟩
  have e1 : ((ones us h).toArray[j]!) = (ones us h)[j] := by
    rw [getElem!_pos _ j hj]
    simp
  rw [e1]
  rw [List.getElem?_eq_getElem hj2, List.getElem?_eq_getElem hj', Option.map_some] at hv
  injection hv with hv
  rw [hv]
  have hjn : j < n := by
    have := congrArg List.length ht
    rw [List.length_take] at this
    omega
  have hc : cur[j]? = some us[j] := by
    have : (cur.toList.take n)[j]? = us[j]? := by rw [ht]
    rw [List.getElem?_take, if_pos hjn, Array.getElem?_toList, List.getElem?_eq_getElem hj'] at this
    exact this
  simp [World.cell?, hg, hc]
end Cd
end Go.Proofs.YtdkhgeknjekkoaaGreat.Cd

namespace Go.Proofs.YtdkhgeknjekkoaaGreat.TabImp
open Go Go.RowKit Byt Ints IntsLaw Cd Rows2 Tab TabSpec Exact

theorem put_before (row : List Int) : ∀ (l o : List (List Int)), (∀ r ∈ l, cmpR r row < 0) → l.foldl (putStep row) (o, false) = (o ++ l, false)
  | [], o, _ => by simp
  | r :: rs, o, h => by
    have h1 := h r List.mem_cons_self
    have e : putStep row (o, false) r = (o ++ [r], false) := by
      unfold putStep
      rw [if_neg (by omega), if_neg (by omega)]
    rw [List.foldl_cons, e, put_before row rs _ (fun x hx => h x (List.mem_cons_of_mem _ hx)), List.append_assoc]
    rfl
theorem put_behind (row : List Int) : ∀ (l o : List (List Int)), (∀ r ∈ l, 0 < cmpR r row) → l.foldl (putStep row) (o, true) = (o ++ l, true)
  | [], o, _ => by simp
  | r :: rs, o, h => by
    have h1 := h r List.mem_cons_self
    have e : putStep row (o, true) r = (o ++ [r], true) := by
      unfold putStep
      rw [if_neg (by omega), if_neg (by simp)]
    rw [List.foldl_cons, e, put_behind row rs _ (fun x hx => h x (List.mem_cons_of_mem _ hx)), List.append_assoc]
    rfl
theorem find_split {rows : List (List Int)} {row : List Int} {i : Nat} (ha : Asc rows) (h : FindP rows row i) :
    (∀ r ∈ rows.take i, cmpR r row < 0) ∧ (∀ hi : i < rows.length, 0 ≤ cmpR rows[i] row ∧ ∀ r ∈ rows.drop (i + 1), 0 < cmpR r row) := by
  refine ⟨fun r hr => ?_, fun hi => ⟨h.2.2 i hi (Nat.le_refl _), fun r hr => ?_⟩⟩
  · obtain ⟨t, ht, rfl⟩ := List.getElem_of_mem hr
    rw [List.length_take] at ht
    rw [List.getElem_take]
    exact h.2.1 t (by omega) (by omega)
  · obtain ⟨t, ht, rfl⟩ := List.getElem_of_mem hr
    rw [List.length_drop] at ht
    rw [List.getElem_drop]
    have h1 := asc_lt ha (show i < i + 1 + t by omega) (show i + 1 + t < rows.length by omega)
    have h2 := h.2.2 i hi (Nat.le_refl _)
    have h3 := h.2.2 (i + 1 + t) (by omega) (by omega)
    by_cases e : cmpR rows[i + 1 + t] row = 0
    · rw [cmpR_eq e] at h1
      omega
    · omega
theorem putR_split {rows : List (List Int)} {row : List Int} {i : Nat} (ha : Asc rows) (h : FindP rows row i) : putR rows row = if row ∈ rows then rows else Cd.ins rows i row := by
  obtain ⟨h1, h2⟩ := find_split ha h
  by_cases hi : i < rows.length
  · obtain ⟨h3, h4⟩ := h2 hi
    have e : rows = rows.take i ++ rows[i] :: rows.drop (i + 1) := by rw [← drop_at hi, List.take_append_drop]
    have hm := find_mem ha h
    have hf : putF rows row = ((rows.take i ++ (if cmpR rows[i] row = 0 then [rows[i]] else [row, rows[i]])) ++ rows.drop (i + 1), true) := by
      conv => lhs; rw [putF, e]
      rw [List.foldl_append, put_before row _ _ h1, List.foldl_cons]
      have e2 : putStep row ([] ++ rows.take i, false) rows[i] = (rows.take i ++ (if cmpR rows[i] row = 0 then [rows[i]] else [row, rows[i]]), true) := by
        unfold putStep
        by_cases hz : cmpR rows[i] row = 0
        · rw [if_pos hz, if_pos hz]; rfl
        · rw [if_neg hz, if_neg hz, if_pos ⟨by omega, rfl⟩]
          simp
      rw [e2, put_behind row _ _ h4]
    rw [putR, hf, if_pos rfl]
    by_cases hz : cmpR rows[i] row = 0
    · rw [if_pos hz, if_pos (hm.2 ⟨hi, cmpR_eq hz⟩), List.append_assoc]
      exact e.symm
    · rw [if_neg hz, if_neg (fun q => by
        obtain ⟨_, q⟩ := hm.1 q
        exact hz (by rw [q]; exact cmpR_self _))]
      unfold Cd.ins
      rw [List.append_assoc, drop_at hi]
      rfl
  · have hil : i = rows.length := by have := h.1; omega
    subst hil
    rw [List.take_length] at h1
    have hm := find_mem ha h
    have hf : putF rows row = (rows, false) := by rw [putF, put_before row _ _ h1]; rfl
    rw [putR, hf, if_neg (by simp), if_neg (fun q => by obtain ⟨q, _⟩ := hm.1 q; omega)]
    unfold Cd.ins
    rw [List.take_length, List.drop_length]
/-- There is such a place. -/
theorem find_ex : ∀ {rows : List (List Int)} (row : List Int), Asc rows → ∃ i, FindP rows row i
  | [], _, _ => ⟨0, Nat.le_refl _, fun t h _ => by simp at h, fun t h _ => by simp at h⟩
  | r :: rs, row, ha => by
    by_cases h : cmpR r row < 0
    · obtain ⟨i, h1, h2, h3⟩ := find_ex (rows := rs) row (List.pairwise_cons.1 ha).2
      refine ⟨i + 1, by simpa using h1, fun t ht hti => ?_, fun t ht hti => ?_⟩
      · match t with
        | 0 => exact h
        | t + 1 => exact h2 t (by simpa using ht) (by omega)
      · match t with
        | 0 => omega
        | t + 1 => exact h3 t (by simpa using ht) (by omega)
    · refine ⟨0, Nat.zero_le _, fun t _ hti => by omega, fun t ht _ => ?_⟩
      match t with
      | 0 => show 0 ≤ cmpR r row; omega
      | t + 1 =>
        have h1 := (List.pairwise_cons.1 ha).1 ((rs)[t]'(by simpa using ht)) (List.getElem_mem _)
        show 0 ≤ cmpR (rs[t]'(by simpa using ht)) row
        have := cmpR_anti r row
        exact Int.not_lt.1 fun q => h (cmpR_trans h1 q)
theorem asc_ins {rows : List (List Int)} {row : List Int} {i : Nat} (ha : Asc rows) (h : FindP rows row i) (hn : row ∉ rows) : Asc (Cd.ins rows i row) := by
  obtain ⟨h1, h2⟩ := find_split ha h
  have h3 : ∀ r ∈ rows.drop i, cmpR row r < 0 := by
    intro r hr
    by_cases hi : i < rows.length
    · obtain ⟨h4, h5⟩ := h2 hi
      rw [drop_at hi] at hr
      rcases List.mem_cons.1 hr with rfl | q
      · have := cmpR_anti row rows[i]
        have hz : cmpR rows[i] row ≠ 0 := fun q => hn (by rw [← cmpR_eq q]; exact List.getElem_mem hi)
        omega
      · have := cmpR_anti row r
        have := h5 r q
        omega
    · rw [List.drop_eq_nil_of_le (by omega)] at hr
      cases hr
  unfold Asc Cd.ins at *
  rw [List.pairwise_append, List.pairwise_cons]
  refine ⟨ha.sublist (List.take_sublist _ _), ⟨h3, ha.sublist (List.drop_sublist _ _)⟩, fun a hta b hb => ?_⟩
  rcases List.mem_cons.1 hb with rfl | q
  · exact h1 a hta
  · exact cmpR_trans (h1 a hta) (h3 b q)
theorem asc_put {rows : List (List Int)} {row : List Int} (ha : Asc rows) : Asc (putR rows row) := by
  obtain ⟨i, hf⟩ := find_ex row ha
  rw [putR_split ha hf]
  split
  · exact ha
  · rename_i hn
    exact asc_ins ha hf hn
theorem mem_ins {α : Type} {l : List α} {i : Nat} {x y : α} : y ∈ Cd.ins l i x ↔ y = x ∨ y ∈ l := by
  unfold Cd.ins
  rw [List.mem_append, List.mem_cons]
  constructor
  · rintro (q | rfl | q)
    · exact .inr (List.mem_of_mem_take q)
    · exact .inl rfl
    · exact .inr (List.mem_of_mem_drop q)
  · rintro (rfl | q)
    · exact .inr (.inl rfl)
    · rw [← List.take_append_drop i l, List.mem_append] at q
      rcases q with q | q
      · exact .inl q
      · exact .inr (.inr q)
theorem mem_put {rows : List (List Int)} {row r : List Int} (ha : Asc rows) : r ∈ putR rows row ↔ r = row ∨ r ∈ rows := by
  obtain ⟨i, hf⟩ := find_ex row ha
  rw [putR_split ha hf]
  split
  · rename_i hm
    exact ⟨.inr, fun q => by rcases q with rfl | q; exact hm; exact q⟩
  · exact mem_ins
/-- Sorted lists of the same members are one. -/
theorem asc_one : ∀ {a b : List (List Int)}, Asc a → Asc b → (∀ r, r ∈ a ↔ r ∈ b) → a = b
  | [], [], _, _, _ => rfl
  | [], y :: ys, _, _, h => by have := (h y).2 List.mem_cons_self; cases this
  | x :: xs, [], _, _, h => by have := (h x).1 List.mem_cons_self; cases this
  | x :: xs, y :: ys, ha, hb, h => by
    obtain ⟨ha1, ha2⟩ := List.pairwise_cons.1 ha
    obtain ⟨hb1, hb2⟩ := List.pairwise_cons.1 hb
    have hxy : x = y := by
      rcases List.mem_cons.1 ((h x).1 List.mem_cons_self) with q | q
      · exact q
      · rcases List.mem_cons.1 ((h y).2 List.mem_cons_self) with q2 | q2
        · exact q2.symm
        · have h1 := hb1 x q
          have h2 := ha1 y q2
          have := cmpR_anti x y
          omega
    subst hxy
    have hx : ∀ {l : List (List Int)}, (∀ r ∈ l, cmpR x r < 0) → x ∉ l := fun hl q => by
      have := hl x q
      rw [cmpR_self] at this
      omega
    rw [asc_one ha2 hb2 fun r => ?_]
    constructor
    · intro q
      rcases List.mem_cons.1 ((h r).1 (List.mem_cons_of_mem _ q)) with rfl | q2
      · exact absurd q (hx ha1)
      · exact q2
    · intro q
      rcases List.mem_cons.1 ((h r).2 (List.mem_cons_of_mem _ q)) with rfl | q2
      · exact absurd q (hx hb1)
      · exact q2
/-- The model's list of new rows. -/
theorem new_asc : ∀ (l : List (List Int)) {acc : List (List Int)}, Asc acc → Asc (newR acc l)
  | [], acc, h => h
  | r :: rs, acc, h => by
    rw [newR]
    split
    · exact new_asc rs (asc_put h)
    · exact h
theorem new_sub : ∀ (l : List (List Int)) {acc : List (List Int)}, Asc acc → ∀ r ∈ newR acc l, r ∈ acc ∨ r ∈ l
  | [], acc, _, r, hr => .inl hr
  | x :: xs, acc, h, r, hr => by
    rw [newR] at hr
    split at hr
    · rcases new_sub xs (asc_put h) r hr with q | q
      · rcases (mem_put h).1 q with rfl | q
        · exact .inr List.mem_cons_self
        · exact .inl q
      · exact .inr (List.mem_cons_of_mem _ q)
    · exact .inl hr
theorem new_all : ∀ (l : List (List Int)) {acc : List (List Int)}, Asc acc → (newR acc l).length ≤ 8 → ∀ r, (r ∈ acc ∨ r ∈ l) → r ∈ newR acc l
  | [], acc, _, _, r, hr => by
    rcases hr with q | q
    · exact q
    · cases q
  | x :: xs, acc, h, h8, r, hr => by
    rw [newR] at h8 ⊢
    split at h8
    · rename_i hc
      rw [if_pos hc]
      refine new_all xs (asc_put h) h8 r ?_
      rcases hr with q | q
      · exact .inl ((mem_put h).2 (.inr q))
      · rcases List.mem_cons.1 q with rfl | q
        · exact .inl ((mem_put h).2 (.inl rfl))
        · exact .inr q
    · rename_i hc
      exact absurd h8 hc
theorem len_le : ∀ {a c : List (List Int)}, a.Nodup → (∀ r ∈ a, r ∈ c) → a.length ≤ c.length
  | [], _, _, _ => Nat.zero_le _
  | x :: xs, c, hd, h => by
    obtain ⟨h1, h2⟩ := List.nodup_cons.1 hd
    have hx := h x List.mem_cons_self
    have := len_le (a := xs) (c := c.erase x) h2 fun r hr => (List.mem_erase_of_ne (fun (e : r = x) => h1 (by rw [← e]; exact hr))).2 (h r (List.mem_cons_of_mem _ hr))
    rw [List.length_erase_of_mem hx] at this
    have := List.length_pos_of_mem hx
    rw [List.length_cons]
    omega
/-- What a sorted list without duplicates of the same rows is worth. -/
theorem new_of {l c : List (List Int)} (hc : Asc c) (hm : ∀ r, r ∈ c ↔ r ∈ l) : (c.length ≤ 8 → newR [] l = c) ∧ (8 < c.length → 8 < (newR [] l).length) := by
  have hn : Asc (newR [] l) := new_asc l (acc := []) List.Pairwise.nil
  have hd : ∀ {a : List (List Int)}, Asc a → a.Nodup := fun ha => ha.imp fun {x y} q e => by
    rw [e, cmpR_self] at q
    omega
  have hsub : ∀ r ∈ newR [] l, r ∈ c := fun r hr => by
    rcases new_sub l (acc := []) List.Pairwise.nil r hr with q | q
    · cases q
    · exact (hm r).2 q
  have hle : (newR [] l).length ≤ c.length := len_le (hd hn) hsub
  have hkey : (newR [] l).length ≤ 8 → newR [] l = c := fun h8 => asc_one hn hc fun r => ⟨hsub r, fun q => new_all l (acc := []) List.Pairwise.nil h8 r (.inr ((hm r).1 q))⟩
  refine ⟨fun h => hkey (by omega), fun h => ?_⟩
  rcases Nat.lt_or_ge 8 (newR [] l).length with q | q
  · exact q
  · have := hkey q
    rw [this] at q
    omega
end Go.Proofs.YtdkhgeknjekkoaaGreat.TabImp

namespace Go.Proofs.YtdkhgeknjekkoaaGreat.TabImp
open Go Go.RowKit Byt Ints IntsLaw Cd Rows2 Tab TabSpec Exact

/-- The first of each run, of the first k. -/
def compT (l : List (List Int)) : Nat → List (List Int)
  | 0 => []
  | k + 1 => if 0 < k ∧ l.getD k [] = l.getD (k - 1) [] then compT l k else compT l k ++ [l.getD k []]
theorem compT_le (l : List (List Int)) : ∀ k, (compT l k).length ≤ k
  | 0 => Nat.le_refl _
  | k + 1 => by
    have := compT_le l k
    unfold compT
    split
    · omega
    · rw [List.length_append, List.length_singleton]; omega
theorem compT_same {l : List (List Int)} {k : Nat} (h0 : 0 < k) (hk : k < l.length) (h : l[k] = l[k - 1]) : compT l (k + 1) = compT l k := by
  rw [compT, if_pos ⟨h0, by simp [hk, show k - 1 < l.length by omega, h]⟩]
theorem compT_new {l : List (List Int)} {k : Nat} (hk : k < l.length) (h : k = 0 ∨ ∃ h : k - 1 < l.length, l[k] ≠ l[k - 1]) : compT l (k + 1) = compT l k ++ [l[k]] := by
  have e : l.getD k [] = l[k] := by simp [hk]
  rw [compT, e, if_neg]
  rintro ⟨h1, h2⟩
  rcases h with rfl | ⟨h3, h4⟩
  · omega
  · exact h4 (by rw [h2]; simp [h3])
def Srt (l : List (List Int)) : Prop := ∀ s t, (hs : s < t) → (ht : t < l.length) → cmpR (l[s]'(by omega)) l[t] ≤ 0
theorem compT_sorted {l : List (List Int)} (hs : Srt l) : ∀ k, k ≤ l.length → Asc (compT l k) ∧ (∀ r, r ∈ compT l k ↔ ∃ t, ∃ h : t < l.length, t < k ∧ l[t] = r) ∧ (∀ r ∈ compT l k, ∀ h : k - 1 < l.length, 0 < k → cmpR r l[k - 1] ≤ 0)
  | 0, _ => ⟨List.Pairwise.nil, fun r => ⟨(fun q => by cases q), (fun ⟨t, _, h, _⟩ => by omega)⟩, (fun r q => by cases q)⟩
  | k + 1, hk => by
    obtain ⟨h1, h2, h3⟩ := compT_sorted hs k (by omega)
    have hkl : k < l.length := by omega
    have hcm : ∀ r ∈ compT l k, cmpR r l[k] ≤ 0 := fun r hr => by
      obtain ⟨t, ht, htk, rfl⟩ := (h2 r).1 hr
      exact hs t k htk hkl
    by_cases hz : 0 < k ∧ l[k] = (l[k - 1]'(by omega))
    · rw [compT_same hz.1 hkl hz.2]
      refine ⟨h1, fun r => ?_, fun r hr h _ => hcm r hr⟩
      rw [h2 r]
      constructor
      · rintro ⟨t, ht, htk, e⟩
        exact ⟨t, ht, by omega, e⟩
      · rintro ⟨t, ht, htk, e⟩
        by_cases ek : t = k
        · subst ek
          exact ⟨t - 1, by omega, by omega, by rw [← hz.2]; exact e⟩
        · exact ⟨t, ht, by omega, e⟩
    · have hnew : k = 0 ∨ ∃ h : k - 1 < l.length, l[k] ≠ l[k - 1] := by
        rcases Nat.eq_zero_or_pos k with q | q
        · exact .inl q
        · exact .inr ⟨by omega, fun e => hz ⟨q, e⟩⟩
      rw [compT_new hkl hnew]
      refine ⟨?_, fun r => ?_, fun r hr h _ => ?_⟩
      · unfold Asc at *
        rw [List.pairwise_append]
        refine ⟨h1, List.pairwise_singleton _ _, fun a ha b hb => ?_⟩
        rw [List.mem_singleton.1 hb]
        have q1 := hcm a ha
        rcases hnew with rfl | ⟨h4, h5⟩
        · cases ha
        · have hk0 : 0 < k := by
            rcases Nat.eq_zero_or_pos k with q | q
            · subst q; cases ha
            · exact q
          have q2 := h3 a ha h4 hk0
          have q3 := hs (k - 1) k (by omega) hkl
          rcases Int.lt_or_eq_of_le q1 with q | q
          · exact q
          · exfalso
            have e1 := cmpR_eq q
            subst e1
            have q4 := cmpR_anti l[k] l[k - 1]
            have q5 : cmpR l[k] l[k - 1] = 0 := by omega
            exact h5 (cmpR_eq q5)
      · rw [List.mem_append, List.mem_singleton, h2 r]
        constructor
        · rintro (⟨t, ht, htk, e⟩ | rfl)
          · exact ⟨t, ht, by omega, e⟩
          · exact ⟨k, hkl, by omega, rfl⟩
        · rintro ⟨t, ht, htk, e⟩
          by_cases ek : t = k
          · subst ek; exact .inr e.symm
          · exact .inl ⟨t, ht, by omega, e⟩
      · rcases List.mem_append.1 hr with q | q
        · exact hcm r q
        · rw [List.mem_singleton.1 q]
          show cmpR l[k] l[k] ≤ 0
          rw [cmpR_self]
          omega

/-- Rows that lie in block g, each read out of the blocks S. -/
def Lie (w : World) (g : Nat) (S : Nat → Prop) (l : List (List Int)) : Prop :=
  ∀ t, (h : t < l.length) → ∃ u, w.cell? ⟨g, t, none⟩ = some u ∧ w.frozen? ⟨g, t, none⟩ = false ∧ rowC.rd w S [u] l[t]
theorem Lie.drewN {w : World} {g : Nat} {S : Nat → Prop} {l : List (List Int)} (h : Lie w g S l) (m : Nat) : Lie (w.drewN m) g S l := fun t ht => by
  obtain ⟨u, h1, h2, h3⟩ := h t ht
  exact ⟨u, h1, h2, rd_drewN h3 m⟩
theorem Lie.take {w : World} {g : Nat} {S : Nat → Prop} {l : List (List Int)} (h : Lie w g S l) (k : Nat) : Lie w g S (l.take k) := fun t ht => by
  rw [List.length_take] at ht
  obtain ⟨u, h1, h2, h3⟩ := h t (by omega)
  exact ⟨u, h1, h2, by rw [List.getElem_take]; exact h3⟩
theorem Lie.set {w : World} {g : Nat} {S : Nat → Prop} {l : List (List Int)} (h : Lie w g S l) (hg : ¬ S g) {c : Nat} {u : Value} {r : List Int} (hc : c < l.length) (hu : rowC.rd w S [u] r) : Lie (w.setCell ⟨g, c, none⟩ u) g S (l.set c r) := fun t ht => by
  rw [List.length_set] at ht
  obtain ⟨v, h1, h2, h3⟩ := h t ht
  obtain ⟨v0, h4, h5, _⟩ := h c hc
  have hk : ∀ {us : List Value} {x : List Int}, rowC.rd w S us x → rowC.rd (w.setCell ⟨g, c, none⟩ u) S us x := fun q => rowC.keep q fun b hb _ => Below.heap_setCell w _ u b fun (e : b = g) => hg (by rw [← e]; exact hb)
  have hf : (w.setCell ⟨g, c, none⟩ u).frozen? ⟨g, t, none⟩ = w.frozen? ⟨g, t, none⟩ := World.frozen?_setCell w _ _ _
  by_cases e : t = c
  · subst e
    exact ⟨u, World.cell?_setCell_same _ _ _ h4, hf.trans h2, by rw [List.getElem_set_self]; exact hk hu⟩
  · refine ⟨v, ?_, hf.trans h2, ?_⟩
    · rw [World.cell?_setCell_other _ _ _ _ (by intro q; injection q; omega)]
      exact h1
    · rw [List.getElem_set_ne (by omega)]
      exact hk h3
theorem touch_setCell (w : World) (g c : Nat) (u : Value) : Cd.Touch [g] w (w.setCell ⟨g, c, none⟩ u) :=
  ⟨rfl, rfl, rfl, by have := (Below.refl 0 w).setCell (Nat.zero_le _) (p := ⟨g, c, none⟩) u; exact this.size, fun k _ hn => Below.heap_setCell w _ u k fun e => hn (by rw [e]; exact List.mem_singleton.2 rfl)⟩
theorem Lie.far {w w' : World} {g : Nat} {S : Nat → Prop} {l : List (List Int)} {k : Nat} (h : Lie w g S l) (hS : ∀ b, S b → b < w.heap.size → w'.heap[b]? = w.heap[b]?) (hc : ∀ t, t < k → w'.cell? ⟨g, t, none⟩ = w.cell? ⟨g, t, none⟩) (hf : ∀ t, t < k → w'.frozen? ⟨g, t, none⟩ = w.frozen? ⟨g, t, none⟩) (hk : l.length ≤ k) : Lie w' g S l := fun t ht => by
  obtain ⟨u, h1, h2, h3⟩ := h t ht
  exact ⟨u, (hc t (by omega)).trans h1, (hf t (by omega)).trans h2, rowC.keep h3 hS⟩
end Go.Proofs.YtdkhgeknjekkoaaGreat.TabImp

namespace Go.Proofs.YtdkhgeknjekkoaaGreat.TabImp
open Go Go.RowKit Byt Ints IntsLaw Cd Rows2 Tab TabSpec Exact

def CompAns (g cap : Nat) (S : Nat → Prop) (l : List (List Int)) (w : World) (e : Ending) (w' : World) : Prop :=
  e = .returned (.slice (some ⟨g, 0, none⟩) (compT l l.length).length cap) ∧ Lie w' g S (compT l l.length) ∧ Cd.Touch [g] w w'
theorem touch_drewN (fp : List Nat) (w : World) (m : Nat) : Cd.Touch fp w (w.drewN m) := ⟨rfl, rfl, rfl, Nat.le_refl _, fun _ _ _ => rfl⟩
theorem touch_setCells (w : World) (g c : Nat) (vs : List Value) : Cd.Touch [g] w (w.setCells g c vs) := by
  induction vs generalizing w c with
  | nil => exact Cd.Touch.refl _ _
  | cons v vs ih => exact (touch_setCell w g c v).trans (ih _ _)
theorem take_snoc_set {α : Type} {l : List α} {c : Nat} {x : α} (hc : c < l.length) : (l.set c x).take (c + 1) = l.take c ++ [x] := by
  rw [List.take_succ_eq_append_getElem (by simpa using hc), List.getElem_set_self, List.take_set_of_le (Nat.le_refl _)]

end Go.Proofs.YtdkhgeknjekkoaaGreat.TabImp

namespace Go.Proofs.YtdkhgeknjekkoaaGreat.TabImp
open Go Go.RowKit Byt Ints IntsLaw Cd Rows2 Tab TabSpec Exact

/-- A row that lies somewhere in the blocks S. -/
structure RowV (w : World) (S : Nat → Prop) where
  v : Value
  l : List Int
  rd : rowC.rd w S [v] l
instance (w : World) (S : Nat → Prop) : Inhabited (RowV w S) := ⟨⟨.slice none 0 0, [], none, 0, rfl, by simp, .inl rfl⟩⟩
theorem rowv_list {w : World} {S : Nat → Prop} : ∀ {us : List Value} {rows : List (List Int)}, us.length = rows.length → (∀ t, (h : t < us.length) → (h' : t < rows.length) → rowC.rd w S [us[t]] rows[t]) → ∃ ds : List (RowV w S), ds.map RowV.v = us ∧ ds.map RowV.l = rows
  | [], [], _, _ => ⟨[], rfl, rfl⟩
  | u :: us, r :: rows, hl, h => by
    obtain ⟨ds, h1, h2⟩ := rowv_list (us := us) (rows := rows) (by simpa using hl) fun t ht ht' => h (t + 1) (by simpa using ht) (by simpa using ht')
    exact ⟨⟨u, r, h 0 (by simp) (by simp)⟩ :: ds, by rw [List.map_cons, h1], by rw [List.map_cons, h2]⟩
def cfR {w : World} {S : Nat → Prop} (x y : RowV w S) : Int := cmpR x.l y.l
theorem swoR {w : World} {S : Nat → Prop} : Sort.SWO (ltOf (cfR (w := w) (S := S))) where
  irrefl x := by
    unfold ltOf cfR
    rw [cmpR_self]
    rfl
  trans x y z h1 h2 := by
    unfold ltOf cfR at *
    exact decide_eq_true (cmpR_trans (of_decide_eq_true h1) (of_decide_eq_true h2))
  ntrans x y z h1 h2 := by
    unfold ltOf cfR at *
    have h1 := of_decide_eq_false h1
    have h2 := of_decide_eq_false h2
    refine decide_eq_false fun h3 => ?_
    by_cases e : cmpR x.l y.l = 0
    · rw [cmpR_eq e] at h3
      exact h2 h3
    · have h4 := cmpR_anti y.l x.l
      exact h2 (cmpR_trans (show cmpR y.l x.l < 0 by omega) h3)
theorem heap_grow (w : World) (os : Array Obj) {k : Nat} (h : k < w.heap.size) : (Sort.grow w os).heap[k]? = w.heap[k]? := by
  show (w.heap ++ os)[k]? = w.heap[k]?
  rw [Array.getElem?_append_left h]
theorem touch_grow (fp : List Nat) (w : World) (os : Array Obj) : Cd.Touch fp w (Sort.grow w os) :=
  ⟨rfl, rfl, rfl, by show _ ≤ (w.heap ++ os).size; rw [Array.size_append]; omega, fun _ hk _ => heap_grow w os hk⟩
theorem touch_sort {γ : Type} [Inhabited γ] (enc : γ → Value) (w : World) (g m : Nat) (d : Array γ) (os : Array Obj) : Cd.Touch [g] w (sortWorld enc w g 0 m d os) := by
  unfold sortWorld
  exact ((Cd.touch_ahead _ w m).trans (Cd.touch_putRow enc _ g d)).trans (touch_grow _ _ os)

def SortAns (g : Nat) (S : Nat → Prop) (rows : List (List Int)) (w : World) (e : Ending) (w' : World) : Prop :=
  ∃ l' : List (List Int), e = .returned (.tuple #[]) ∧ l'.length = rows.length ∧ (∀ r, r ∈ l' ↔ r ∈ rows) ∧ Srt l' ∧ Lie w' g S l' ∧ Cd.Touch [g] w w'

theorem sort_rows (g cap : Nat) (B : Nat) (rows : List (List Int)) (us : List Value) (w : World) (hul : us.length = rows.length) (hus : ∀ t, (h : t < us.length) → (h' : t < rows.length) → rowC.rd w (· < B) [us[t]] rows[t]) (hB : B ≤ g) (hgw : g < w.heap.size) (hH : ∀ t, (h : t < us.length) → w.cell? ⟨g, t, none⟩ = some us[t] ∧ w.frozen? ⟨g, t, none⟩ = false) (hn : rows.length ≤ 1048577) :
    Calls Tryz.prog 97 #[.slice (some ⟨g, 0, none⟩) rows.length cap, .func (.func 98) #[] #[]] w fun e w' => SortAns g (· < B) rows w e w' := by
  obtain ⟨ds, hv, hl⟩ := rowv_list (w := w) (S := (· < B)) hul hus
  have hdn : ds.length = rows.length := by rw [← hl, List.length_map]
  have hsz : ds.toArray.size = rows.length := by rw [List.size_toArray, hdn]
  have hread : ∀ (m : Nat) (os : Array Obj) (dk : Array (RowV w (· < B))) (x : RowV w (· < B)), rowC.rd (sortWorld RowV.v w g 0 m dk os) (· < B) [x.v] x.l := fun m os dk x =>
    rowC.keep x.rd fun b hb hlt => (touch_sort RowV.v w g m dk os).block b hlt fun e => by have := List.mem_singleton.1 e; omega
  have hcmp : CmpReads Tryz.prog 98 #[] RowV.v cfR g 0 ds.toArray.size w := fun m os dk _ x y =>
    (impl_cmp x.v y.v x.l y.l _ _ (sortWorld RowV.v w g 0 m dk os) (row_ri (hread m os dk x)).1 (row_ri (hread m os dk y)).1).mono fun _ _ h => ⟨h.1, 0, h.2.symm⟩
  have hHold : Sort.Holds (α := RowV w (· < B)) RowV.v w g 0 ds.toArray := by
    intro j hj
    have hj' : j < us.length := by rw [hul, ← hsz]; exact hj
    have hj2 : j < ds.length := by rw [← List.size_toArray]; exact hj
    obtain ⟨h1, h2⟩ := hH j hj'
    have e1 : ds.toArray[j]! = ds[j] := by rw [getElem!_pos _ j hj]; simp
    have e2 : (ds[j]).v = us[j] := by
      have : (ds.map RowV.v)[j]? = us[j]? := by rw [hv]
      rw [List.getElem?_map, List.getElem?_eq_getElem hj2, List.getElem?_eq_getElem hj', Option.map_some] at this
      injection this
    rw [Nat.zero_add, e1, e2]
    exact ⟨h1, h2⟩
  have hs := Tryz.slices_SortFunc RowV.v (fun x => rowC.one x.rd x.v (List.mem_singleton.2 rfl)) cfR swoR 98 #[] g 0 cap ds.toArray w (enters_of Tryz.func98 (by kernel_rfl) rfl) hcmp.lays hHold hgw (by rw [hsz]; omega)
  rw [hsz] at hs
  refine hs.mono ?_
  rintro e w' ⟨rfl, d', m, os, hP, hS, rfl⟩
  obtain ⟨hp1, _, hp3⟩ := hP
  have hds : d'.size = rows.length := by rw [hp1, hsz]
  rw [← hds, Array.extract_size] at hp3
  rw [hds, ← hsz, Array.extract_size] at hp3
  have hlen : (d'.toList.map RowV.l).length = rows.length := by rw [List.length_map, Array.length_toList, hds]
  have hget : ∀ t, (h : t < (d'.toList.map RowV.l).length) → (d'.toList.map RowV.l)[t] = (d'[t]!).l := fun t h => by
    have ht : t < d'.size := by rw [hds, ← hlen]; exact h
    rw [List.getElem_map, getElem!_pos d' t ht]
    simp
  have hgo : (Sort.putRow RowV.v (Sort.ahead w m) g 0 d').heap.size = w.heap.size := by rw [Sort.size_putRow]; rfl
  have hH2 := Sort.holds_putRow RowV.v (Sort.ahead w m) g 0 ds.toArray d' (Sort.holds_ahead RowV.v w m g 0 _ hHold) (by rw [hp1])
  refine ⟨d'.toList.map RowV.l, rfl, hlen, fun r => ?_, fun s t hst ht => ?_, fun t ht => ?_, touch_sort _ _ _ _ _ _⟩
  · have := (hp3.map RowV.l).mem_iff (a := r)
    rw [this, hl]
  · rw [hget s, hget t ht]
    have ht' : t < rows.length := by rw [← hlen]; exact ht
    have h1 := of_decide_eq_false (hS s t (Nat.zero_le _) hst ht')
    have h2 := cmpR_anti (d'[s]!).l (d'[t]!).l
    show cmpR (d'[s]!).l (d'[t]!).l ≤ 0
    have h3 : ¬ cmpR (d'[t]!).l (d'[s]!).l < 0 := h1
    omega
  · have ht' : t < d'.size := by rw [hds, ← hlen]; exact ht
    obtain ⟨h1, h2⟩ := hH2 t ht'
    rw [Nat.zero_add] at h1 h2
    have hb : (sortWorld RowV.v w g 0 m d' os).heap[g]? = (Sort.putRow RowV.v (Sort.ahead w m) g 0 d').heap[g]? := heap_grow _ os (by rw [hgo]; exact hgw)
    refine ⟨(d'[t]!).v, ?_, ?_, ?_⟩
    · exact (World.cell?_of_block (w := Sort.putRow RowV.v (Sort.ahead w m) g 0 d') (a := ⟨g, t, none⟩) hb).trans h1
    · rw [← h2]
      simp only [World.frozen?, hb]
    · rw [hget t ht]
      exact hread m os d' _
end Go.Proofs.YtdkhgeknjekkoaaGreat.TabImp

namespace Go.Proofs.YtdkhgeknjekkoaaGreat.AnsImp
open Go Go.RowKit Byt Ints IntsLaw Cd Rows2 Tab TabSpec Exact TabImp

/-- A row that the call owns, outside block g. -/
structure RowO (w : World) (base g : Nat) where
  v : Value
  l : List Int
  f : List Nat
  ow : rowC.ow w base [v] l f
  ng : g ∉ f
instance (w : World) (base g : Nat) : Inhabited (RowO w base g) := ⟨⟨.slice none 0 0, [], [], Cd.ow_nil _ _, by simp⟩⟩
theorem each_rowo {w : World} {base g : Nat} : ∀ {xss : List (List Value)} {l : List (List Int)} {fps : List (List Nat)}, Cd.Each rowC w base xss l fps → (∀ f ∈ fps, g ∉ f) →
    ∃ ds : List (RowO w base g), (ds.map fun d => [d.v]) = xss ∧ ds.map RowO.l = l ∧ ds.map RowO.f = fps
  | [], [], [], _, _ => ⟨[], rfl, rfl, rfl⟩
  | x :: xs, a :: az, f :: fs, h, hn => by
    have hl := rowC.len (rowC.ow_rd h.1)
    match x, hl with
    | [v], _ =>
      obtain ⟨ds, h1, h2, h3⟩ := each_rowo (xss := xs) (l := az) (fps := fs) h.2 fun f hf => hn f (List.mem_cons.2 (.inr hf))
      exact ⟨⟨v, a, f, h.1, hn f (List.mem_cons.2 (.inl rfl))⟩ :: ds, by rw [List.map_cons, h1], by rw [List.map_cons, h2], by rw [List.map_cons, h3]⟩
theorem rowo_each {w w' : World} {base g : Nat} (ht : Cd.Touch [g] w w') : ∀ ds : List (RowO w base g), Cd.Each rowC w' base (ds.map fun d => [d.v]) (ds.map RowO.l) (ds.map RowO.f)
  | [] => trivial
  | d :: ds => ⟨Cd.ow_touched d.ow ht (fun b hb q => by rw [List.mem_singleton.1 q] at hb; exact d.ng hb), rowo_each ht ds⟩
theorem flat_one {w : World} {base g : Nat} : ∀ ds : List (RowO w base g), (ds.map fun d => [d.v]).flatten = ds.map RowO.v
  | [] => rfl
  | d :: ds => by rw [List.map_cons, List.flatten_cons, flat_one ds]; rfl
def cfO {w : World} {base g : Nat} (x y : RowO w base g) : Int := cmpR x.l y.l
theorem swoO {w : World} {base g : Nat} : Sort.SWO (ltOf (cfO (w := w) (base := base) (g := g))) where
  irrefl x := by
    unfold ltOf cfO
    rw [cmpR_self]
    rfl
  trans x y z h1 h2 := by
    unfold ltOf cfO at *
    exact decide_eq_true (cmpR_trans (of_decide_eq_true h1) (of_decide_eq_true h2))
  ntrans x y z h1 h2 := by
    unfold ltOf cfO at *
    have h1 := of_decide_eq_false h1
    have h2 := of_decide_eq_false h2
    refine decide_eq_false fun h3 => ?_
    by_cases e : cmpR x.l y.l = 0
    · rw [cmpR_eq e] at h3
      exact h2 h3
    · have h4 := cmpR_anti y.l x.l
      exact h2 (cmpR_trans (show cmpR y.l x.l < 0 by omega) h3)
theorem put_one {α : Type} [Inhabited α] (enc : α → Value) (d : Array α) (cur : Array Value) (h : d.size ≤ cur.size) : (Sort.putCells enc 0 d cur).toList.take d.size = d.toList.map enc := by
  apply List.ext_getElem?
  intro j
  by_cases hj : j < d.size
  · rw [List.getElem?_take, if_pos hj, Array.getElem?_toList]
    unfold Sort.putCells
    rw [Array.getElem?_mapIdx, Array.getElem?_eq_getElem (by omega), List.getElem?_map, Array.getElem?_toList, Array.getElem?_eq_getElem hj]
    simp only [Option.map_some, Nat.zero_le, true_and, Nat.zero_add, hj, if_true, Nat.sub_zero]
    rw [getElem!_pos d j hj]
  · rw [List.getElem?_eq_none (by rw [List.length_take]; omega), List.getElem?_eq_none (by rw [List.length_map, Array.length_toList]; omega)]
theorem heap_sort1 {α : Type} [Inhabited α] (enc : α → Value) (w : World) (g m : Nat) (d : Array α) (os : Array Obj) (hg : g < w.heap.size) {cur : Array Value} {e : TypeId} (h : w.heap[g]? = some (.cells cur e (0, 0))) :
    (sortWorld enc w g 0 m d os).heap[g]? = some (.cells (Sort.putCells enc 0 d cur) e (0, 0)) := by
  unfold sortWorld
  rw [heap_grow _ os (by rw [Sort.size_putRow]; exact hg)]
  show (w.heap.modify g _)[g]? = _
  rw [Array.getElem?_modify, if_pos rfl, h]
  rfl
def SortO (g cap base : Nat) (l : List (List Int)) (w : World) (e : Ending) (w' : World) : Prop :=
  ∃ l' fp', e = .returned (.tuple #[]) ∧ rowsC.ow w' base [.slice (some ⟨g, 0, none⟩) l'.length cap] l' fp' ∧ fp'.Nodup ∧ l'.Perm l ∧ l'.Pairwise (fun a b => cmpR a b ≤ 0) ∧ Cd.Touch [g] w w'

set_option maxRecDepth 100000 in
set_option maxHeartbeats 1600000 in
theorem sort_owned (g cap base : Nat) (l : List (List Int)) (fp : List Nat) (w : World) (ho : rowsC.ow w base [.slice (some ⟨g, 0, none⟩) l.length cap] l fp) (hn : fp.Nodup) (hl : l.length ≤ 1000000) :
    Calls Tryz.prog 97 #[.slice (some ⟨g, 0, none⟩) l.length cap, .func (.func 98) #[] #[]] w fun e w' => SortO g cap base l w e w' := by
  obtain ⟨v', xss, fps, e1, hown, hE, rfl⟩ := ho
  injection e1 with e1 _
  subst e1
  rcases hown.2 with ⟨h', _⟩ | ⟨g', cap', cur, h', hbg, hg, hnc, hcm, hcs, htake⟩
  · cases h'
  simp only [Value.slice.injEq, Option.some.injEq, Addr.mk.injEq, and_true, true_and] at h'
  obtain ⟨rfl, rfl⟩ := h'
  have hgw : g < w.heap.size := (Array.getElem?_eq_some_iff.1 hg).1
  simp only [Value.ownBlock, Option.toList_some, List.cons_append, List.nil_append, List.nodup_cons] at hn
  obtain ⟨ds, rfl, rfl, rfl⟩ := each_rowo (g := g) hE (fun f hf q => hn.1 (List.mem_flatten.2 ⟨f, hf, q⟩))
  have hdl : (ds.map RowO.l).length = ds.length := List.length_map ..
  have hsz : ds.toArray.size = (ds.map RowO.l).length := by rw [hdl]; rfl
  have hown1 : w.ownsRow base 32 1 (.slice (some ⟨g, 0, none⟩) (ds.map RowO.l).length cap) (ds.map RowO.l).length (ds.map fun d => [d.v]).flatten := hown
  have hH : Sort.Holds RowO.v w g 0 ds.toArray := by
    intro j hj
    have hj2 : j < ds.length := by rw [← List.size_toArray]; exact hj
    have hc := World.ownsRow.cellAt hown1 j (by rw [hdl]; omega)
    rw [flat_one, List.getElem?_map, List.getElem?_eq_getElem hj2, Option.map_some] at hc
    have e1 : ds.toArray[j]! = ds[j] := by rw [getElem!_pos _ j hj]; simp
    rw [Nat.zero_add, e1]
    exact ⟨hc, by simp [World.frozen?, hg]⟩
  have hcmp : CmpReads Tryz.prog 98 #[] (RowO.v (w := w) (base := base) (g := g)) cfO g 0 ds.toArray.size w := fun m os dk _ x y =>
    (impl_cmp x.v y.v x.l y.l _ _ (sortWorld RowO.v w g 0 m dk os)
      (row_ri (rowC.ow_rd (Cd.ow_touched x.ow (touch_sort RowO.v w g m dk os) (fun b hb q => by rw [List.mem_singleton.1 q] at hb; exact x.ng hb)))).1
      (row_ri (rowC.ow_rd (Cd.ow_touched y.ow (touch_sort RowO.v w g m dk os) (fun b hb q => by rw [List.mem_singleton.1 q] at hb; exact y.ng hb)))).1).mono fun _ _ h => ⟨h.1, 0, h.2.symm⟩
  have hs := Tryz.slices_SortFunc RowO.v (fun x => rowC.one (rowC.ow_rd x.ow) x.v (List.mem_singleton.2 rfl)) cfO swoO 98 #[] g 0 cap ds.toArray w (enters_of Tryz.func98 (by kernel_rfl) rfl) hcmp.lays hH hgw (by rw [hsz]; omega)
  rw [hsz] at hs
  refine hs.mono ?_
  rintro e w' ⟨rfl, d', m, os, hP, hS, rfl⟩
  obtain ⟨hp1, _, hp3⟩ := hP
  have hd' : d'.size = ds.length := by rw [hp1]; rfl
  have hp : d'.toList.Perm ds := by
    have e1 : d'.extract 0 (ds.map RowO.l).length = d' := by rw [hdl, ← hd', Array.extract_size]
    have e2 : ds.toArray.extract 0 (ds.map RowO.l).length = ds.toArray := by rw [hdl, show ds.length = ds.toArray.size from rfl, Array.extract_size]
    rw [e1, e2] at hp3
    exact hp3
  have hto := touch_sort RowO.v w g m d' os
  have hE' := rowo_each hto d'.toList
  have hlen : (d'.toList.map RowO.l).length = ds.length := by rw [List.length_map]; exact hd'
  have hfl : ((d'.toList.map RowO.f).flatten).Perm ((ds.map RowO.f).flatten) := (hp.map RowO.f).flatten
  refine ⟨d'.toList.map RowO.l, g :: (d'.toList.map RowO.f).flatten, rfl, ⟨_, _, _, rfl, ⟨?_, .inr ⟨g, cap, _, by rw [hlen], hbg, heap_sort1 RowO.v w g m d' os hgw hg, by rw [hlen, ← hdl]; exact hnc, hcm, ?_, ?_⟩⟩, hE', rfl⟩, ?_, hp.map RowO.l, ?_, hto⟩
  · rw [flat_one, List.length_map, List.length_map]; exact (Nat.mul_one _).symm
  · unfold Sort.putCells; rw [Array.size_mapIdx]; exact hcs
  · rw [flat_one, hlen, ← hd']
    have hcs' : cur.size = cap := by rw [hcs]; exact Nat.mul_one _
    have := put_one RowO.v d' cur (by rw [hcs', hd', ← hdl]; exact hnc)
    show List.take (d'.size * 1) _ = _
    rw [Nat.mul_one]
    exact this
  · exact List.nodup_cons.2 ⟨fun q => hn.1 (hfl.mem_iff.1 q), hfl.nodup_iff.2 hn.2⟩
  · rw [List.pairwise_map, List.pairwise_iff_getElem]
    intro i j hi hj hij
    have hj' : j < ds.length := by rw [← hd']; exact hj
    have h1 := of_decide_eq_false (hS i j (Nat.zero_le _) hij (by rw [hdl]; exact hj'))
    rw [getElem!_pos d' j (by simpa using hj), getElem!_pos d' i (by simpa using hi)] at h1
    have h2 := cmpR_anti (d'[i]'(by simpa using hi)).l (d'[j]'(by simpa using hj)).l
    unfold cfO at h1
    rw [Array.getElem_toList, Array.getElem_toList]
    omega
end Go.Proofs.YtdkhgeknjekkoaaGreat.AnsImp

namespace Go.Proofs.YtdkhgeknjekkoaaGreat.AnsImp
open Go Go.RowKit Byt Ints IntsLaw Cd Rows2 Tab TabSpec Exact Atom AnsMath TabImp

theorem rows_kind {w : World} {base : Nat} {v : Value} {l : List (List Int)} {fp : List Nat} (h : rowsC.ow w base [v] l fp) : (v = .slice none 0 0 ∧ l = []) ∨ ∃ g cap, v = .slice (some ⟨g, 0, none⟩) l.length cap ∧ g ∈ fp := by
  obtain ⟨v', xss, fps, e1, hown, hE, rfl⟩ := h
  injection e1 with e1 _
  subst e1
  rcases hown.2 with ⟨rfl, h0⟩ | ⟨g, cap, cur, rfl, _⟩
  · exact .inl ⟨rfl, List.eq_nil_of_length_eq_zero h0⟩
  · exact .inr ⟨g, cap, rfl, List.mem_append_left _ (by simp [Value.ownBlock])⟩
theorem clo_all (l : List Rel) (vs : List Int) (S : Nat → Prop) (B0 bR bV bO bM : Nat) (hok : ∀ R ∈ l, RelOk R) (hin : ∀ R ∈ l, ∀ v ∈ R.1, 0 ≤ v ∧ v < 4) (hl4 : l.length ≤ 4) (h4 : ∀ v ∈ vs, 0 ≤ v ∧ v < 4) (hv4 : vs.length ≤ 4) :
    ∀ d i, i + d = l.length → CloC l vs S B0 bR bV bO bM i
  | 0, i, h => by
    have e : i = l.length := by omega
    subst e
    exact clo_base l vs h4 hv4 S B0 bR bV bO bM
  | d + 1, i, h => clo_step l vs S B0 bR bV bO bM hok hin hl4 i (by omega) (clo_all l vs S B0 bR bV bO bM hok hin hl4 h4 hv4 d (i + 1) (by omega))
theorem env_join (w : World) (l : List Rel) (vs : List Int) (ur uv : Value) (hr : relsC.rd w (· < w.heap.size) [ur] l) (hv : rowC.rd w (· < w.heap.size) [uv] vs) {W : World}
    (h : (((w.alloc (.cells #[uv] 32 (0, 0))).alloc (.cells #[ur] 78 (0, 0))).alloc (.cells #[.slice none 0 0] 33 (0, 0))).alloc (.cells #[cloV (w.heap.size + 1) w.heap.size (w.heap.size + 1 + 1) (w.heap.size + 1 + 1 + 1)] 115 (0, 0)) = W) :
    EnvJ W l vs (· < w.heap.size) ur uv (w.heap.size + 4) (w.heap.size + 1) w.heap.size (w.heap.size + 1 + 1) (w.heap.size + 1 + 1 + 1) ∧ StJ W (w.heap.size + 4) (w.heap.size + 1 + 1) [] (.slice none 0 0) [] ∧ Below w.heap.size w W ∧ W.heap.size = w.heap.size + 4 := by
  subst h
  have s1 := size_alloc w (.cells #[uv] 32 (0, 0))
  have s2 := size_alloc (w.alloc (.cells #[uv] 32 (0, 0))) (.cells #[ur] 78 (0, 0))
  have s3 := size_alloc ((w.alloc (.cells #[uv] 32 (0, 0))).alloc (.cells #[ur] 78 (0, 0))) (.cells #[.slice none 0 0] 33 (0, 0))
  generalize hW1 : w.alloc (.cells #[uv] 32 (0, 0)) = W1 at *
  obtain ⟨r1, _, b1⟩ := start1 w _ hW1
  generalize hW2 : W1.alloc (.cells #[ur] 78 (0, 0)) = W2 at *
  obtain ⟨r2, _, b2⟩ := start1 W1 _ hW2
  generalize hW3 : W2.alloc (.cells #[.slice none 0 0] 33 (0, 0)) = W3 at *
  obtain ⟨r3, _, b3⟩ := start1 W2 _ hW3
  generalize hW4 : W3.alloc _ = W4 at *
  obtain ⟨r4, s4, b4⟩ := start1 W3 _ hW4
  clear hW1 hW2 hW3 hW4
  have hz4 : W4.heap.size = w.heap.size + 4 := by omega
  have hB : Below w.heap.size w W4 := below_then (below_then (below_then b1 b2) b3) b4
  rw [s1] at r2
  rw [show W2.heap.size = w.heap.size + 1 + 1 by omega] at r3
  rw [show W3.heap.size = w.heap.size + 1 + 1 + 1 by omega] at r4
  have e1 := row_later (row_later (row_later r1 b2) b3) b4
  have e2 := row_later (row_later r2 b3) b4
  have e3 := row_later r3 b4
  refine ⟨⟨by simp [World.cell?, e2], by simp [World.cell?, e1], by simp [World.cell?, r4], Cd.later hr hB, Cd.later hv hB, by omega, by omega, by omega, by omega, by omega, by omega, by omega, by omega, fun b hb => by omega, by omega⟩,
    ⟨by simp [World.cell?, e3], by simp [World.frozen?, e3], Cd.ow_nil _ _, by simp⟩, hB, hz4⟩

set_option maxRecDepth 100000 in
set_option maxHeartbeats 1600000 in
theorem sort_none (w : World) : Calls Tryz.prog 97 #[.slice none 0 0, .func (.func 98) #[] #[]] w fun e w' => e = .returned (.tuple #[]) ∧ w = w' := by
  have h1 : ∀ w : World, Calls Tryz.prog 162 #[.slice none 0 0, .int .i64 0, .int .i64 0, .func (.func 98) #[] #[]] w fun e w' => e = .returned (.tuple #[]) ∧ w = w' := fun w => by
    go_enter Tryz.func162, Tryz.ntmps162
    go_wp2
    refine wp_loop_rounds 1 ?_
    rw [rounds_succ]
    go_wp2
    exact bodyPost_end (v := .tuple #[]) (by simp [results, Tryz.results162, go_sem]) rfl ⟨rfl, rfl⟩
  have H1 := Lib.hid h1
  have h2 : ∀ (lim : Int) (w : World), Calls Tryz.prog 136 #[.slice none 0 0, .int .i64 0, .int .i64 0, .int .i64 lim, .func (.func 98) #[] #[]] w fun e w' => e = .returned (.tuple #[]) ∧ w = w' := fun lim w => by
    clear h1
    go_enter Tryz.func136, Tryz.ntmps136
    go_wp2
    refine wp_loop_rounds 1 ?_
    rw [rounds_succ]
    go_wp2_with (go_at_call 162; refine (H1.out _).mono ?_; rintro e w' ⟨rfl, rfl⟩)
    (try simp only [Exit.inBlock, Exit.then])
    exact bodyPost_ret (v := .tuple #[]) (by simp [results, Tryz.results136, go_sem]) rfl ⟨rfl, rfl⟩
  have H2 := Lib.hid h2
  clear h1 h2
  go_enter Tryz.func97, Tryz.ntmps97
  go_wp2_with (first | (go_at_call 131; refine (Tryz.bits_Len 0 _ (by decide) (by decide)).mono ?_; rintro e w' ⟨rfl, rfl⟩) | (go_at_call 136; refine (H2.out _ _).mono ?_; rintro e w' ⟨rfl, rfl⟩))
  exact bodyPost_end (v := .tuple #[]) (by simp [results, Tryz.results97, go_sem]) rfl ⟨rfl, rfl⟩

theorem JAns.clo {w w' : World} {l : List Rel} {vs : List Int} {S : Nat → Prop} {ur uv : Value} {B0 bR bV bO bM : Nat} {M : List (List Int)} (ha : JAns B0 bO [] M w w') (h : EnvJ w l vs S ur uv B0 bR bV bO bM) :
    w'.cell? ⟨bM, 0, none⟩ = some (.func (.func 93) #[] #[.pointer (some ⟨bR, 0, none⟩), .pointer (some ⟨bV, 0, none⟩), .pointer (some ⟨bO, 0, none⟩), .pointer (some ⟨bM, 0, none⟩)]) := by
  obtain ⟨o', fp', h1, h2, h3⟩ := ha
  exact (h.touched h3 (fun _ hb => by cases hb)).m
set_option maxRecDepth 100000 in
set_option maxHeartbeats 3200000 in
theorem impl_join (vv rv : Value) (vs : List Int) (l : List Rel) (S1 S2 : Nat → Prop) (w : World) (h1 : rowC.rd w S1 [vv] vs) (h2 : relsC.rd w S2 [rv] l) (hc : Cover vs l) (hin : ∀ R ∈ l, ∀ v ∈ R.1, 0 ≤ v ∧ v < 4) (h4 : ∀ v ∈ vs, 0 ≤ v ∧ v < 4) (hv4 : vs.length ≤ 4) (hl4 : l.length ≤ 4) :
    Calls Tryz.prog 49 #[vv, rv] w fun e w' => ∃ v' fp, e = .returned v' ∧ rowsC.ow w' w.heap.size [v'] (walkL vs l vs.length []) fp ∧ fp.Nodup ∧ Below w.heap.size w w' := by
  have hcell : ∀ {α : Type} {c : Cd α} {S : Nat → Prop} {us : List Value} {a : α}, c.rd w S us a → c.rd w (· < w.heap.size) us a := fun h => Cd.mono _ h fun b hb _ => hb
  have HENV := Lib.hid (fun W h => env_join w l vs rv vv (hcell h2) (hcell h1) (W := W) h)
  have HCLO := Lib.hid (clo_all l vs (· < w.heap.size) (w.heap.size + 4) (w.heap.size + 1) w.heap.size (w.heap.size + 1 + 1) (w.heap.size + 1 + 1 + 1) hc.ok hin hl4 h4 hv4 l.length 0 (by omega))
  have HML := Lib.hid (len_ansM (vs := vs) hc.ok hl4)
  have HSRT := Lib.hid (fun (m : List (List Int)) h h' => sorted_ansM (m := m) hc h h')
  have H8 := Lib.hid (show 8 ^ (l.length - 0) ≤ 4096 from Nat.le_trans (Nat.pow_le_pow_right (by decide) hl4) (by decide))
  obtain ⟨a1, c1, rfl, hl1⟩ := row_form h1
  obtain ⟨a2, c2, rfl, hl2⟩ := Cd.sl_form h2
  clear h1 h2 hc hin h4 hv4 hl4 hcell
  have hmf : ∀ (fn : Fn) (first cap : Array Value) (w : World), (Instr.makeFunc fn first cap).run Tryz.prog w = .ok (.func fn first cap) w := fun _ _ _ _ => rfl
  have hsf := fun (a : Addr) (c : Array Value) (w : World) => run_store Tryz.prog w a (.func (.func 93) #[] c) .plain rfl
  go_enter Tryz.func49, Tryz.ntmps49
  go_upto_region 4 with fail
  clear hmf hsf
  generalize hW : (((w.alloc _).alloc _).alloc _).alloc _ = W
  obtain ⟨henv, hst, hb0, hz⟩ := HENV.out W hW
  clear hW
  have y0 := henv.m
  unfold cloV at y0
  have HE := Lib.hid henv
  have HS := Lib.hid hst
  have HB := Lib.hid hb0
  have HZ := Lib.hid hz
  have HY := Lib.hid y0
  clear henv hst hb0 hz
  have kk : DbSpec.LaterD W W.drew := (Below.refl _ W).drew
  go_region_held3 (fun wx => wx.cell? ⟨w.heap.size + 1 + 1 + 1, 0, none⟩ = some (.func (.func 93) #[] #[.pointer (some ⟨w.heap.size + 1, 0, none⟩), .pointer (some ⟨w.heap.size, 0, none⟩), .pointer (some ⟨w.heap.size + 1 + 1, 0, none⟩), .pointer (some ⟨w.heap.size + 1 + 1 + 1, 0, none⟩)]))
    (assumption)
    (first
      | (go_at_call 96; refine (impl_empty _).mono ?_; rintro e wq ⟨rfl, hbq⟩; (have kk : DbSpec.LaterD W wq := below_then (by assumption) hbq); (have EQ := Lib.hid (HE.out.later kk)); (have SQ := Lib.hid (HS.out.later kk)); (have y0 := EQ.out.m); unfold cloV at y0; (have HCALL := Lib.hid (HCLO.out emp wq _ _ _ [] [] emp_bd EQ.out SQ.out (by have := H8.out; simp at *; omega))); unfold arrV at HCALL ⊢; clear hbq)
      | (go_at_call 93; refine HCALL.out.mono ?_; rintro e wp ⟨rfl, ha⟩; (have HA := Lib.hid ha); (have y0 := JAns.clo ha EQ.out); clear ha))
  all_goals
    obtain ⟨o', fp', h1', h2, h3⟩ := HA.out
    have h1 : StJ wp (w.heap.size + 4) (w.heap.size + 1 + 1) (ansM vs l) o' fp' := h1'
    have hbp : Below w.heap.size w wp := Cd.Touch.below (below_then HB.out (show Below W.heap.size W wq by assumption)) h3 (fun b hb => by
      have hb1 := List.mem_singleton.1 hb
      omega)
    have HBP := Lib.hid hbp
    have HST := Lib.hid h1
    clear h1 h1' h2 h3 hbp y0 kk
    rcases rows_kind HST.out.ow with ⟨rfl, hnil⟩ | ⟨g, cap, rfl, hg⟩
    · have HN := Lib.hid (HSRT.out [] (by rw [hnil]) List.Pairwise.nil)
      have z0 := HST.out.c
      clear hnil
      go_wp2_with (first | (go_at_call 97; refine (sort_none _).mono ?_; rintro e w' ⟨rfl, rfl⟩))
      go_ret
      exact ⟨_, [], rfl, by rw [← HN.out]; exact Cd.ow_nil _ _, List.nodup_nil, HBP.out⟩
    · have HSO := Lib.hid (sort_owned g cap (w.heap.size + 4) (ansM vs l) fp' wp HST.out.ow HST.out.nd (by have := HML.out; omega))
      have z0 := HST.out.c
      have HG := Lib.hid ((rowsC.ow_lt HST.out.ow g hg).1)
      clear hg
      go_wp2_with fail
      refine HSO.out.mono ?_
      rintro e w9 ⟨l', fp9, rfl, ho9, hn9, hp9, hs9, ht9⟩
      have HN := Lib.hid (HSRT.out l' hp9 hs9)
      have HLN := Lib.hid hp9.length_eq
      have z9 := ht9.cell z0 (show w.heap.size + 1 + 1 ∉ [g] by have := HG.out; simp; omega)
      have HB9 := Lib.hid (Cd.Touch.below HBP.out ht9 (fun b hb => by have := HG.out; have hb1 := List.mem_singleton.1 hb; omega))
      have HO9 := Lib.hid (show rowsC.ow w9 w.heap.size [.slice (some ⟨g, 0, none⟩) (ansM vs l).length cap] l' fp9 from by rw [← hp9.length_eq]; exact rowsC.ow_base ho9 (by omega))
      have HN9 := Lib.hid hn9
      clear ho9 hn9 hp9 hs9 ht9 z0
      go_wp2_with fail
      go_ret
      exact ⟨_, fp9, rfl, by rw [← HN.out]; exact HO9.out, HN9.out, HB9.out⟩
end Go.Proofs.YtdkhgeknjekkoaaGreat.AnsImp

namespace Go.Proofs.YtdkhgeknjekkoaaGreat.QgImp
open Go Go.RowKit Byt Ints IntsLaw Cd Rows2 Tab TabSpec Exact Atom QryMath QrySpec QryImp MkAtom SlMath QgMath QgSpec

theorem it_sub : ∀ G < 64, ∀ m < 16, ∀ k ≤ 5, it G m k ≤ m := by decide +kernel
def rr (G m : Nat) : Nat → Nat
  | 0 => 0
  | k + 1 => it G m k
theorem cOk_le {n : Int} {l : List A2} {k : Nat} (h : k ≤ fm n l) : cOk n l (k : Int) = conn (gr l) k := by
  rcases Nat.eq_zero_or_pos k with q | q
  · subst q
    unfold cOk
    exact Bool.and_false _
  · unfold cOk
    rw [fm_mOk q h, Bool.true_and, Int.toNat_natCast]
theorem jsL_len (n : Int) (l : List A2) (m : Int) : (jsL n l m).length ≤ 16 := by
  cases h : cOk n l m
  · rw [jsL_no h]; simp
  · obtain ⟨t, rfl, ht, _⟩ := cOk_fm h
    rw [jsL_yes h]
    have := fil_len (isSplit (gr l) t) t
    have := fm_lt n l
    omega
/-- The neighbours among the atoms of a list. -/
def nbF (G t : Nat) (l : List Int) : Nat := l.foldl (fun s v => if anyA G t v.toNat then s ||| 2 ^ v.toNat else s) 0
theorem nbF_snoc (G t : Nat) (l : List Int) (v : Int) : nbF G t (l ++ [v]) = if anyA G t v.toNat then nbF G t l ||| 2 ^ v.toNat else nbF G t l := by simp [nbF]
theorem nbF_lt (G t : Nat) : ∀ (l : List Int) (s : Nat), s < 16 → In4 l → l.foldl (fun s v => if anyA G t v.toNat then s ||| 2 ^ v.toNat else s) s < 16
  | [], _, hs, _ => hs
  | x :: xs, s, hs, h => by
    refine nbF_lt G t xs _ ?_ fun y hy => h y (List.mem_cons_of_mem _ hy)
    show (if anyA G t x.toNat = true then s ||| 2 ^ x.toNat else s) < 16
    split
    · exact or_lt hs (pow4n (h x List.mem_cons_self))
    · exact hs
theorem nbF_near : ∀ n ≤ 4, ∀ G < 64, G &&& pairs n = G → ∀ t < 2 ^ n, nbF G t (varsL ((2 ^ n - 1) &&& (15 - t))) = near G t := by decide +kernel
theorem vars_bits : ∀ n ≤ 4, ∀ t < 2 ^ n, ∀ v ∈ varsL ((2 ^ n - 1) &&& (15 - t)), v.toNat < n ∧ t / 2 ^ v.toNat % 2 = 0 := by decide +kernel
theorem in4_vars (s : Nat) : In4 (varsL s) := fun x hx => by
  unfold varsL varsTo at hx
  obtain ⟨y, hy, rfl⟩ := List.mem_map.1 hx
  have := List.mem_range.1 (List.mem_filter.1 hy).1
  simp only [Int.ofNat_eq_natCast]
  omega
theorem mB_one {n : Int} {l : List A2} (hq : qOk n l = true) {k : Nat} (hk : k < l.length) : mB n l ((2 ^ k : Nat) : Int) = V l k := by
  have h4 := (qOk_iff.1 hq).2.2.2.1
  have : mOk n l ((2 ^ k : Nat) : Int) = true := by
    rw [mOk_iff, pow_cast]
    have h2 : 2 ^ k < 2 ^ l.length := Nat.pow_lt_pow_right (by decide) hk
    exact ⟨hq, Int.natCast_nonneg _, Int.ofNat_lt.2 h2⟩
  rw [mB_yes this, Int.toNat_natCast]
  exact sel_one_in h4 hk
set_option maxRecDepth 100000 in
theorem impl_full (n : Int) (u : Value) (l : List A2) (S : Nat → Prop) (w : World) (hr : atomsC.rd w S [u] l) :
    Calls Tryz.prog 45 #[.agg #[.int .i64 n, u]] w fun e w' => e = .returned (.int .i64 (fm n l : Int)) ∧ Below w.heap.size w w' := by
  have HV := Lib.hid (fun w' (hb : Below w.heap.size w w') => impl_valid n u l S w' (Cd.later hr hb))
  obtain ⟨a, cap, rfl, hlm⟩ := Cd.sl_form hr
  clear hr
  have HC := Lib.hid (Loc2.of (row_alloc w (.cells #[.int .i64 n, .slice a l.length cap] 29)))
  have HB := Lib.hid (below_alloc w (.cells #[.int .i64 n, .slice a l.length cap] 29))
  cases hq : qOk n l
  · have HZ := Lib.hid (show (0 : Int) = ((fm n l : Nat) : Int) by rw [fm_no hq]; rfl)
    rw [hq] at HV
    clear hq
    go_enter Tryz.func45, Tryz.ntmps45
    go_wp2_with fail
    generalize w.alloc _ = W at *
    refine (HV.out _ HB.out).mono ?_
    rintro e w1 ⟨rfl, hb1⟩
    have HB1 := Lib.hid (below_then HB.out hb1)
    clear hb1
    go_wp2_with fail
    go_ret
    exact ⟨ret_int HZ.out, HB1.out⟩
  rw [hq] at HV
  have h4 := (qOk_iff.1 hq).2.2.2.1
  have hpw := pow_len h4
  have HZ := Lib.hid (show (2 : Int) ^ l.length - 1 = ((fm n l : Nat) : Int) by
    rw [fm_yes hq, pow_cast]
    have := Nat.two_pow_pos l.length
    omega)
  have q1 := hpw.1
  have q2 := hpw.2.1
  have q3 := hpw.2.2
  have q4 : IntKind.i64.wrap (2 ^ l.length - 1) = 2 ^ l.length - 1 := by rw [IntKind.wrap_i64]; omega
  have q5 : (l.length : Int) ≤ 64 := by omega
  have q6 : ((l.length : Int)).toNat = l.length := by omega
  clear hq hpw h4
  go_enter Tryz.func45, Tryz.ntmps45
  go_wp2_with fail
  generalize w.alloc _ = W at *
  refine (HV.out _ HB.out).mono ?_
  rintro e w1 ⟨rfl, hb1⟩
  have HB1 := Lib.hid (below_then HB.out hb1)
  have c0 := (HC.out.later hb1).c0
  have c1 := (HC.out.later hb1).c1
  clear hb1
  go_wp2_with fail
  go_ret
  exact ⟨ret_int HZ.out, HB1.out⟩
set_option maxRecDepth 100000 in
theorem impl_maskatoms (m : Int) (w : World) :
    Calls Tryz.prog 46 #[.int .i64 m] w fun e w' => ∃ v' fp, e = .returned v' ∧ rowC.ow w' w.heap.size [v'] (maL m) fp ∧ fp.Nodup ∧ Below w.heap.size w w' := by
  by_cases hm : 0 ≤ m ∧ m < 16
  case neg =>
    have HZ := Lib.hid (show maL m = [] from if_neg hm)
    have HE := Lib.hid (show rowC.ow w w.heap.size [.slice none 0 0] [] [] from Cd.ow_nil _ _)
    by_cases h0 : m < 0
    · clear hm
      go_enter Tryz.func46, Tryz.ntmps46
      go_wp2_with fail
      go_ret
      first | exact ⟨_, [], rfl, by rw [HZ.out]; exact HE.out, by simp, Below.refl _ _⟩ | exact ⟨_, rfl, [], by rw [HZ.out]; exact HE.out, by simp, Below.refl _ _⟩
    · have h1 : (16 : Int) ≤ m := by omega
      clear hm
      go_enter Tryz.func46, Tryz.ntmps46
      go_wp2_with fail
      go_ret
      first | exact ⟨_, [], rfl, by rw [HZ.out]; exact HE.out, by simp, Below.refl _ _⟩ | exact ⟨_, rfl, [], by rw [HZ.out]; exact HE.out, by simp, Below.refl _ _⟩
  obtain ⟨s, rfl⟩ : ∃ s : Nat, m = (s : Int) := ⟨m.toNat, by omega⟩
  have HZ := Lib.hid (show maL (s : Int) = varsL s by unfold maL; rw [if_pos hm, Int.toNat_natCast])
  have HL := Lib.hid (impl_list s w (by omega))
  have h0 : ¬ (s : Int) < 0 := by omega
  have h1 : ¬ (16 : Int) ≤ (s : Int) := by omega
  clear hm
  rw [HZ.out]
  generalize varsL s = R at *
  go_enter Tryz.func46, Tryz.ntmps46
  go_wp2_with fail
  refine HL.out.mono ?_
  rintro e w1 ⟨v', fp, rfl, ho, hn, hb⟩
  have HO := Lib.hid (And.intro ho (And.intro hn hb))
  clear ho hn hb
  go_wp2_with fail
  go_ret
  exact ⟨_, fp, rfl, HO.out.1, HO.out.2.1, HO.out.2.2⟩
set_option maxRecDepth 100000 in
set_option maxHeartbeats 3200000 in
theorem impl_nbm (n m : Int) (u : Value) (l : List A2) (S : Nat → Prop) (w : World) (hr : atomsC.rd w S [u] l) :
    Calls Tryz.prog 145 #[.agg #[.int .i64 n, u], .int .i64 m] w fun e w' => e = .returned (.int .i64 (nb n l m : Int)) ∧ Below w.heap.size w w' := by
  have HVO := Lib.hid (fun m w' (hb : Below w.heap.size w w') => impl_varsof n m u l S w' (Cd.later hr hb))
  have HFM := Lib.hid (fun w' (hb : Below w.heap.size w w') => impl_full n u l S w' (Cd.later hr hb))
  obtain ⟨r, hr16, hnot⟩ := not_any (fm_lt n l) m
  have HMA := Lib.hid (fun w' => impl_maskatoms (r : Int) w')
  rw [show maL (r : Int) = varsL r by unfold maL; rw [if_pos (by omega), Int.toNat_natCast]] at HMA
  -- what a round adds
  have HADD : Hid (∃ f : Nat → Nat, f 0 = 0 ∧ f (varsL r).length = nb n l m ∧ (∀ k, k ≤ (varsL r).length → f k < 16) ∧ ∀ k (hk : k < (varsL r).length), ((mB n l ((2 ^ (varsL r)[k].toNat : Nat) : Int) &&& mB n l m = 0) ∧ f (k + 1) = f k) ∨ ((mB n l ((2 ^ (varsL r)[k].toNat : Nat) : Int) &&& mB n l m ≠ 0) ∧ f (k + 1) = f k ||| 2 ^ (varsL r)[k].toNat)) := by
    refine Lib.hid ?_
    cases hq : mOk n l m
    · refine ⟨fun _ => 0, rfl, (nb_no hq).symm, fun _ _ => (by decide : (0 : Nat) < 16), fun k hk => .inl ⟨?_, rfl⟩⟩
      rw [mB_no (m := m) hq, Nat.and_zero]
    · obtain ⟨t, rfl, htf, htl⟩ := mOk_fm hq
      have hqo := (mOk_iff.1 hq).1
      have h4 := (qOk_iff.1 hqo).2.2.2.1
      have er : r = (2 ^ l.length - 1) &&& (15 - t) := by
        have h1 := not_bits (fm n l) (fm_lt n l) t (by have := fm_lt n l; omega)
        rw [hnot, fm_yes hqo] at h1
        exact_mod_cast h1
      have hvb := vars_bits l.length h4 t htl
      rw [← er] at hvb
      have hnn := nbF_near l.length h4 (gr l) (gr_lt l) (gr_pairs h4) t htl
      rw [← er] at hnn
      have hi4 := in4_vars r
      refine ⟨fun k => nbF (gr l) t ((varsL r).take k), rfl, ?_, fun k _ => nbF_lt _ _ _ _ (by decide) fun x hx => hi4 x (List.mem_of_mem_take hx), fun k hk => ?_⟩
      · show nbF (gr l) t ((varsL r).take (varsL r).length) = _
        rw [List.take_length, hnn, nb_yes hq]
        rfl
      · obtain ⟨b1, b2⟩ := hvb _ (List.getElem_mem hk)
        have e1 : mB n l ((2 ^ (varsL r)[k].toNat : Nat) : Int) = V l (varsL r)[k].toNat := mB_one hqo b1
        have e2 : mB n l (t : Int) = bs (selV l t l.length) := mB_yes hq
        have e3 := sel_and h4 (by omega) b2
        have e4 : nbF (gr l) t ((varsL r).take (k + 1)) = if anyA (gr l) t (varsL r)[k].toNat then nbF (gr l) t ((varsL r).take k) ||| 2 ^ (varsL r)[k].toNat else nbF (gr l) t ((varsL r).take k) := by
          rw [List.take_succ_eq_append_getElem hk, nbF_snoc]
        show (_ ∧ nbF (gr l) t ((varsL r).take (k + 1)) = nbF (gr l) t ((varsL r).take k)) ∨ (_ ∧ nbF (gr l) t ((varsL r).take (k + 1)) = nbF (gr l) t ((varsL r).take k) ||| _)
        rw [e1, e2, e4]
        cases hany : anyA (gr l) t (varsL r)[k].toNat
        · rw [hany] at e3
          exact .inl ⟨by simpa using e3, rfl⟩
        · rw [hany] at e3
          exact .inr ⟨by simpa using e3, rfl⟩
  obtain ⟨f, hf0, hfe, hf16, hfs⟩ := HADD.out
  have HFE := Lib.hid hfe
  have HF0 := Lib.hid hf0
  have HF16 := Lib.hid hf16
  have HFS := Lib.hid hfs
  have HI4 := Lib.hid (in4_vars r)
  have HMB := Lib.hid (fun m => mB_lt n l m)
  have HX4 := Lib.hid (show (varsL r).length ≤ 4 from varsTo_len r 4)
  obtain ⟨a, cap, rfl, hlm⟩ := Cd.sl_form hr
  clear hr hfe hf0 hf16 hfs HADD hr16
  have HC := Lib.hid (Loc2.of (row_alloc w (.cells #[.int .i64 n, .slice a l.length cap] 29)))
  have HB := Lib.hid (below_alloc w (.cells #[.int .i64 n, .slice a l.length cap] 29))
  generalize nb n l m = R at *
  generalize fm n l = F at *
  generalize varsL r = X at *
  generalize hs : mB n l m = s at *
  have HS := Lib.hid hs
  clear hs
  go_enter Tryz.func145, Tryz.ntmps145
  go_wp2_with fail
  generalize w.alloc _ = W at *
  refine (HVO.out m _ HB.out).mono ?_
  rw [HS.out]
  rintro e w1 ⟨rfl, hb1⟩
  have HB1 := Lib.hid (below_then HB.out hb1)
  have HC1 := Lib.hid (HC.out.later hb1)
  have c0 := HC1.out.c0
  have c1 := HC1.out.c1
  clear hb1
  go_wp2_with fail
  clear c0 c1
  refine (HFM.out _ HB1.out).mono ?_
  rintro e w2 ⟨rfl, hb2⟩
  have HB2 := Lib.hid (below_then HB1.out hb2)
  have HC2 := Lib.hid (HC1.out.later hb2)
  clear hb2
  go_wp2_with fail
  refine (HMA.out _).mono ?_
  rintro e w3 ⟨x', fx, rfl, hox, _, hb3⟩
  have HB3 := Lib.hid (below_then HB2.out hb3)
  have HC3 := Lib.hid (HC2.out.later hb3)
  have HXR := Lib.hid (rowC.ow_rd hox)
  obtain ⟨ax, cx, rfl, _⟩ := (row_ri (rowC.ow_rd hox)).1
  clear hb3 hox
  have q0 : (0 : Int) = ((f 0 : Nat) : Int) := by rw [HF0.out]; rfl
  have HQ0 := Lib.hid q0
  clear q0
  go_wp2_with fail
  go_loopw [6, 18] (fun x i wr => ∃ k : Nat, k ≤ X.length ∧ i = .int .i64 k ∧ x = .int .i64 (f k : Int) ∧ Below w3.heap.size w3 wr) (fun _ i _ => X.length - (intOf i).toNat)
  case atStart => exact ⟨0, Nat.zero_le _, rfl, by rw [← HQ0.out], Below.refl _ _⟩
  case round =>
    obtain ⟨k, hk, rfl, rfl, hbw⟩ := hrel
    have HBW := Lib.hid hbw
    have HLQ := Lib.hid (HC3.out.later hbw)
    have c0 := HLQ.out.c0
    have c1 := HLQ.out.c1
    have HKP := Lib.hid (show Below w.heap.size w wr from below_then HB3.out hbw)
    have hxr := Cd.later HXR.out hbw
    by_cases hlt : k < X.length
    · obtain ⟨b1, off, cap', e1, hbB, hc⟩ := ri_at (row_ri hxr).1 hlt
      injection e1 with e1 e2 e3
      subst e1 e3
      have hstep := HFS.out k hlt
      have hv4 := HI4.out _ (List.getElem_mem hlt)
      have HLT := Lib.hid hlt
      have p1 : (0 : Int) ≤ (k : Int) := by omega
      have p2 : (k : Int) < (X.length : Int) := by omega
      have pX : (X.length : Int) ≤ 4 := by have := HX4.out; omega
      have hx16 := HF16.out k (by omega)
      generalize hX : X[k] = z at *
      obtain ⟨v, rfl⟩ : ∃ v : Nat, z = (v : Int) := ⟨z.toNat, by omega⟩
      rw [Int.toNat_natCast] at hstep
      have p3 : (v : Int) ≤ 64 := by omega
      have p4 : ((v : Int)).toNat = v := by omega
      have p5 : (0 : Int) ≤ (v : Int) := by omega
      have hpw := pow_w (show v ≤ 4 by omega)
      have hor := or_pow hx16 (show v < 4 by omega)
      have hand := and_nat (HMB.out ((2 ^ v : Nat) : Int)) (show s < 16 by rw [← HS.out]; exact HMB.out m)
      have HCK := Lib.hid (fun w' (hb : Below w.heap.size w w') => HVO.out ((2 ^ v : Nat) : Int) w' hb)
      generalize mB n l ((2 ^ v : Nat) : Int) = g at *
      have e2 : (((2 ^ v : Nat)) : Int) = (2 : Int) ^ v := (pow_cast v).symm
      rw [e2] at HCK
      have kk : Kp w wr.drew := kp_drew (show Kp w wr from HKP.out)
      clear hbw e2 hv4 hxr hX hx16
      generalize f k = x at *
      rcases hstep with ⟨hz, hnx⟩ | ⟨hz, hnx⟩
      · rw [hz] at hand
        have HNX := Lib.hid hnx
        clear hz hnx hor
        go_wp2_with fail
        refine wp_region_held_drew (S := fun wx => wx.cell? ⟨w.heap.size, 0, none⟩ = some (.int .i64 n) ∧ wx.cell? ⟨w.heap.size, 1, none⟩ = some (.slice a l.length cap) ∧ Kp w wx) (by kernel_rfl) ?_ (fun hHeld => ?_)
        · (refine ⟨?_, ?_, ?_⟩ <;> first | assumption | (simp [*]; done))
        refine RegH.takeH (i := 0) (v := ?_) rfl (by kernel_rfl) (by kernel_rfl) (by kernel_rfl) (fun _ _ _ h => h) (Or.inl ⟨by rfl, ?_⟩) (by assumption) ?_
        rotate_left
        · (intro wS hSw; (try dsimp only at hSw); go_simp; try (with_reducible rfl))
        try simp only [Act.put, List.setIfInBounds_toArray, List.set_cons_zero, List.set_cons_succ]
        refine RegH.takeH (i := 1) (v := ?_) rfl (by kernel_rfl) (by kernel_rfl) (by kernel_rfl) (fun _ _ _ h => h) (Or.inl ⟨by rfl, ?_⟩) (by assumption) ?_
        rotate_left
        · (intro wS hSw; (try dsimp only at hSw); go_simp; try (with_reducible rfl))
        try simp only [Act.put, List.setIfInBounds_toArray, List.set_cons_zero, List.set_cons_succ]
        refine RegH.takeH (i := 2) (v := ?_) rfl (by kernel_rfl) (by kernel_rfl) (by kernel_rfl) (fun _ _ _ h => h) (Or.inl ⟨by rfl, ?_⟩) (by assumption) ?_
        rotate_left
        · (intro wS hSw; (try dsimp only at hSw); go_simp; try (with_reducible rfl))
        try simp only [Act.put, List.setIfInBounds_toArray, List.set_cons_zero, List.set_cons_succ]
        refine RegH.takeH (i := 4) (v := ?_) rfl (by kernel_rfl) (by kernel_rfl) (by kernel_rfl) (fun _ _ _ h => h) (Or.inl ⟨by rfl, ?_⟩) (by assumption) ?_
        rotate_left
        · (intro wS hSw; (try dsimp only at hSw); go_simp; try (with_reducible rfl))
        try simp only [Act.put, List.setIfInBounds_toArray, List.set_cons_zero, List.set_cons_succ]
        refine RegH.consH (i := 3) rfl (by kernel_rfl) (fun K hK => ?_)
        go_simp
        go_at_call 92
        refine (HCK.out _ (show Below w.heap.size w wr.drew from kk)).mono ?_
        rintro e wq ⟨rfl, hbq⟩
        have kq : Kp w wq := below_then (show Below w.heap.size w wr.drew from kk) hbq
        have HBQ := Lib.hid (below_then (bd_drew wr) hbq)
        have n0 := (HLQ.out.later HBQ.out).c0
        have n1 := (HLQ.out.later HBQ.out).c1
        clear hbq
        go_wp2_with fail
        refine hK.out _ _ ?_ (fun hHeld => ?_)
        · (refine ⟨?_, ?_, ?_⟩ <;> first | assumption | (simp [*]; done))
        clear hK K
        try simp only [Act.put, List.setIfInBounds_toArray, List.set_cons_zero, List.set_cons_succ]
        refine RegH.takeH (i := 5) (v := ?_) rfl (by kernel_rfl) (by kernel_rfl) (by kernel_rfl) (fun _ _ _ h => h) (Or.inl ⟨by rfl, ?_⟩) (by assumption) ?_
        rotate_left
        · (intro wS hSw; (try dsimp only at hSw); go_simp; try (with_reducible rfl))
        try simp only [Act.put, List.setIfInBounds_toArray, List.set_cons_zero, List.set_cons_succ]
        refine RegH.takeH (i := 6) (v := ?_) rfl (by kernel_rfl) (by kernel_rfl) (by kernel_rfl) (fun _ _ _ h => h) (Or.inl ⟨by rfl, ?_⟩) (by assumption) ?_
        rotate_left
        · (intro wS hSw; (try dsimp only at hSw); go_simp; try (with_reducible rfl))
        try simp only [Act.put, List.setIfInBounds_toArray, List.set_cons_zero, List.set_cons_succ]
        refine wpAnyH_done (by kernel_rfl) ?_ _
        go_wp2_with fail
        go_roundw
        case rel => exact ⟨k + 1, HLT.out, by go_num, by rw [HNX.out], below_then HBW.out HBQ.out⟩
        case measure => have := HLT.out; simp [intOf]; omega
      · have HNX := Lib.hid hnx
        have hz2 : (((g &&& s : Nat) : Int) == 0) = false := by rw [beq_eq_false_iff_ne]; omega
        have hz3 : ¬ (((g &&& s : Nat) : Int) = 0) := by omega
        clear hz hnx
        generalize g &&& s = z at *
        go_wp2_with fail
        refine wp_region_held_drew (S := fun wx => wx.cell? ⟨w.heap.size, 0, none⟩ = some (.int .i64 n) ∧ wx.cell? ⟨w.heap.size, 1, none⟩ = some (.slice a l.length cap) ∧ Kp w wx) (by kernel_rfl) ?_ (fun hHeld => ?_)
        · (refine ⟨?_, ?_, ?_⟩ <;> first | assumption | (simp [*]; done))
        refine RegH.takeH (i := 0) (v := ?_) rfl (by kernel_rfl) (by kernel_rfl) (by kernel_rfl) (fun _ _ _ h => h) (Or.inl ⟨by rfl, ?_⟩) (by assumption) ?_
        rotate_left
        · (intro wS hSw; (try dsimp only at hSw); go_simp; try (with_reducible rfl))
        try simp only [Act.put, List.setIfInBounds_toArray, List.set_cons_zero, List.set_cons_succ]
        refine RegH.takeH (i := 1) (v := ?_) rfl (by kernel_rfl) (by kernel_rfl) (by kernel_rfl) (fun _ _ _ h => h) (Or.inl ⟨by rfl, ?_⟩) (by assumption) ?_
        rotate_left
        · (intro wS hSw; (try dsimp only at hSw); go_simp; try (with_reducible rfl))
        try simp only [Act.put, List.setIfInBounds_toArray, List.set_cons_zero, List.set_cons_succ]
        refine RegH.takeH (i := 2) (v := ?_) rfl (by kernel_rfl) (by kernel_rfl) (by kernel_rfl) (fun _ _ _ h => h) (Or.inl ⟨by rfl, ?_⟩) (by assumption) ?_
        rotate_left
        · (intro wS hSw; (try dsimp only at hSw); go_simp; try (with_reducible rfl))
        try simp only [Act.put, List.setIfInBounds_toArray, List.set_cons_zero, List.set_cons_succ]
        refine RegH.takeH (i := 4) (v := ?_) rfl (by kernel_rfl) (by kernel_rfl) (by kernel_rfl) (fun _ _ _ h => h) (Or.inl ⟨by rfl, ?_⟩) (by assumption) ?_
        rotate_left
        · (intro wS hSw; (try dsimp only at hSw); go_simp; try (with_reducible rfl))
        try simp only [Act.put, List.setIfInBounds_toArray, List.set_cons_zero, List.set_cons_succ]
        refine RegH.consH (i := 3) rfl (by kernel_rfl) (fun K hK => ?_)
        go_simp
        go_at_call 92
        refine (HCK.out _ (show Below w.heap.size w wr.drew from kk)).mono ?_
        rintro e wq ⟨rfl, hbq⟩
        have kq : Kp w wq := below_then (show Below w.heap.size w wr.drew from kk) hbq
        have HBQ := Lib.hid (below_then (bd_drew wr) hbq)
        have n0 := (HLQ.out.later HBQ.out).c0
        have n1 := (HLQ.out.later HBQ.out).c1
        clear hbq
        go_wp2_with fail
        refine hK.out _ _ ?_ (fun hHeld => ?_)
        · (refine ⟨?_, ?_, ?_⟩ <;> first | assumption | (simp [*]; done))
        clear hK K
        try simp only [Act.put, List.setIfInBounds_toArray, List.set_cons_zero, List.set_cons_succ]
        refine RegH.takeH (i := 5) (v := ?_) rfl (by kernel_rfl) (by kernel_rfl) (by kernel_rfl) (fun _ _ _ h => h) (Or.inl ⟨by rfl, ?_⟩) (by assumption) ?_
        rotate_left
        · (intro wS hSw; (try dsimp only at hSw); go_simp; try (with_reducible rfl))
        try simp only [Act.put, List.setIfInBounds_toArray, List.set_cons_zero, List.set_cons_succ]
        refine RegH.takeH (i := 6) (v := ?_) rfl (by kernel_rfl) (by kernel_rfl) (by kernel_rfl) (fun _ _ _ h => h) (Or.inl ⟨by rfl, ?_⟩) (by assumption) ?_
        rotate_left
        · (intro wS hSw; (try dsimp only at hSw); go_simp; try (with_reducible rfl))
        try simp only [Act.put, List.setIfInBounds_toArray, List.set_cons_zero, List.set_cons_succ]
        refine wpAnyH_done (by kernel_rfl) ?_ _
        go_wp2_with fail
        go_roundw
        case rel => exact ⟨k + 1, HLT.out, by go_num, by rw [HNX.out], below_then HBW.out HBQ.out⟩
        case measure => have := HLT.out; simp [intOf]; omega
    · have ek : k = X.length := by omega
      subst ek
      clear hbw
      rw [HFE.out]
      go_wp2_with fail
      go_ret
      exact ⟨rfl, HKP.out⟩
set_option maxRecDepth 100000 in
set_option maxHeartbeats 1600000 in
theorem impl_conn (n m : Int) (u : Value) (l : List A2) (S : Nat → Prop) (w : World) (hr : atomsC.rd w S [u] l) :
    Calls Tryz.prog 114 #[.agg #[.int .i64 n, u], .int .i64 m] w fun e w' => e = .returned (.bool (cOk n l m)) ∧ Below w.heap.size w w' := by
  have HFM := Lib.hid (fun w' (hb : Below w.heap.size w w') => impl_full n u l S w' (Cd.later hr hb))
  have HNB := Lib.hid (fun m w' (hb : Below w.heap.size w w') => impl_nbm n m u l S w' (Cd.later hr hb))
  obtain ⟨a, cap, rfl, hlm⟩ := Cd.sl_form hr
  clear hr
  have HC := Lib.hid (Loc2.of (row_alloc w (.cells #[.int .i64 n, .slice a l.length cap] 29)))
  have HB := Lib.hid (below_alloc w (.cells #[.int .i64 n, .slice a l.length cap] 29))
  by_cases h1 : m < 1
  · have HZ := Lib.hid (show false = cOk n l m by
      cases hc : cOk n l m
      · rfl
      · obtain ⟨t, rfl, _, _, ht, _⟩ := cOk_fm hc
        omega)
    go_enter Tryz.func114, Tryz.ntmps114
    go_wp2_with fail
    go_ret
    exact ⟨ret_b HZ.out, HB.out⟩
  by_cases hF : (fm n l : Int) < m
  · have HZ := Lib.hid (show false = cOk n l m by
      cases hc : cOk n l m
      · rfl
      · obtain ⟨t, rfl, ht, _⟩ := cOk_fm hc
        omega)
    generalize fm n l = F at *
    go_enter Tryz.func114, Tryz.ntmps114
    go_wp2_with fail
    generalize w.alloc _ = W at *
    refine (HFM.out _ HB.out).mono ?_
    rintro e w1 ⟨rfl, hb1⟩
    have HB1 := Lib.hid (below_then HB.out hb1)
    clear hb1
    go_wp2_with fail
    go_ret
    exact ⟨ret_b HZ.out, HB1.out⟩
  obtain ⟨t, rfl⟩ : ∃ t : Nat, m = (t : Int) := ⟨m.toNat, by omega⟩
  have ht1 : 1 ≤ t := by omega
  have htf : t ≤ fm n l := by omega
  have h16 : t < 16 := by have := fm_lt n l; omega
  have hG := gr_lt l
  have HZ := Lib.hid (show cOk n l (t : Int) = conn (gr l) t from cOk_le htf)
  have HCN := Lib.hid (show ∀ k, k < 5 → it (gr l) t k = it (gr l) t (k + 1) → ((((it (gr l) t k : Nat) : Int)) == (t : Int)) = conn (gr l) t from fun k hk e => by
    have h2 := it_stop _ hG t h16 k hk e
    rw [h2]
    unfold conn
    have : (t != 0) = true := by rw [bne_iff_ne]; omega
    rw [this, Bool.true_and, Bool.eq_iff_iff, beq_iff_eq, beq_iff_eq]
    omega)
  have HNX := Lib.hid (show ∀ k, k ≤ 5 → nb n l ((it (gr l) t k : Nat) : Int) = near (gr l) (it (gr l) t k) from fun k hk => by
    have h2 := it_sub _ hG t h16 k hk
    have h3 : 1 ≤ it (gr l) t k := by
      clear h2
      induction k with
      | zero => exact low_pos t h16 ht1
      | succ k ih => exact Nat.le_trans (ih (by omega)) (it_up _ hG t h16 k (by omega))
    rw [nb_yes (fm_mOk h3 (Nat.le_trans h2 htf)), Int.toNat_natCast])
  have HLOW := Lib.hid (low_pos t h16 ht1)
  have HG := Lib.hid hG
  have HUP := Lib.hid (fun k (hk : k ≤ 5) => it_up _ hG t h16 k hk)
  have HLT16 := Lib.hid (fun k (hk : k ≤ 6) => it_lt _ hG t h16 k hk)
  have HFIVE := Lib.hid (it_five _ hG t h16)
  have hlow := low_bits t h16
  have HT16 := Lib.hid h16
  have hneg : IntKind.i64.wrap (-(t : Int)) = -(t : Int) := by rw [IntKind.wrap_i64]; omega
  have f1 : ¬ (t : Int) < 1 := by omega
  have f2 : ¬ (fm n l : Int) < (t : Int) := by omega
  have f3 : ¬ fm n l < t := by omega
  rw [HZ.out]
  clear h1 hF htf ht1 hG h16 HZ
  generalize fm n l = F at *
  generalize gr l = G at *
  go_enter Tryz.func114, Tryz.ntmps114
  go_wp2_with fail
  generalize w.alloc _ = W at *
  refine (HFM.out _ HB.out).mono ?_
  rintro e w1 ⟨rfl, hb1⟩
  have HB1 := Lib.hid (below_then HB.out hb1)
  have HC1 := Lib.hid (HC.out.later hb1)
  clear hb1
  go_wp2_with fail
  clear hlow hneg f1 f2 f3
  go_loopw [5, 6] (fun r x wr => ∃ k : Nat, k ≤ 5 ∧ r = .int .i64 (rr G t k : Int) ∧ x = .int .i64 (it G t k : Int) ∧ Below w1.heap.size w1 wr) (fun r x _ => 32 - (intOf r).toNat - (intOf x).toNat)
  case atStart => exact ⟨0, by decide, rfl, rfl, Below.refl _ _⟩
  case round =>
    obtain ⟨k, hk, rfl, rfl, hbw⟩ := hrel
    have HBW := Lib.hid hbw
    have HLQ := Lib.hid (HC1.out.later hbw)
    have c0 := HLQ.out.c0
    have c1 := HLQ.out.c1
    have HKP := Lib.hid (show Below w.heap.size w wr from below_then HB1.out hbw)
    have hx16 := HLT16.out k (by omega)
    have hle : rr G t k ≤ it G t k := by
      cases k with
      | zero => exact Nat.zero_le _
      | succ k => exact HUP.out k (by omega)
    by_cases he : rr G t k = it G t k
    · obtain ⟨j, hj⟩ : ∃ j, k = j + 1 := by
        cases k with
        | zero =>
          exfalso
          have h1 : (0 : Nat) = low t := he
          have := HLOW.out
          omega
        | succ j => exact ⟨j, rfl⟩
      have he2 : it G t j = it G t (j + 1) := by rw [hj] at he; exact he
      have HR := Lib.hid (HCN.out j (by omega) he2)
      rw [hj, show rr G t (j + 1) = it G t j from rfl, ← he2]
      clear he he2 hj hle hx16 hbw
      generalize it G t j = x at *
      go_wp2_with fail
      go_ret
      exact ⟨ret_b HR.out, HKP.out⟩
    · have hk5 : k < 5 := by
        rcases Nat.lt_or_ge k 5 with q | q
        · exact q
        · exfalso
          have ek : k = 5 := by omega
          subst ek
          exact he HFIVE.out.symm
      have HNE := Lib.hid (show rr G t k < it G t k by omega)
      have t1 : (((rr G t k : Nat) : Int) == ((it G t k : Nat) : Int)) = false := by rw [beq_eq_false_iff_ne]; omega
      have t2 : ¬ (((rr G t k : Nat) : Int) = ((it G t k : Nat) : Int)) := by omega
      have HUPK := Lib.hid (HUP.out k hk)
      have HST := Lib.hid (show it G t (k + 1) = it G t k ||| (near G (it G t k) &&& t) from rfl)
      have hn16 := near_lt G HG.out _ hx16
      have hand := and_nat hn16 HT16.out
      have hor := or_nat hx16 (and_lt t hn16)
      have HNC := Lib.hid (HNB.out ((it G t k : Nat) : Int) wr HKP.out)
      rw [HNX.out k hk] at HNC
      have HRR := Lib.hid (show rr G t (k + 1) = it G t k from rfl)
      have HX16 := Lib.hid hx16
      have HX17 := Lib.hid (HLT16.out (k + 1) (by omega))
      have HK5 := Lib.hid hk5
      clear he hle hbw hx16 hn16 hk5 hk
      generalize rr G t k = r at *
      generalize it G t k = x at *
      generalize near G x = y at *
      go_wp2_with fail
      refine HNC.out.mono ?_
      rintro e w2 ⟨rfl, hb2⟩
      have HB2 := Lib.hid (below_then HBW.out hb2)
      clear hb2
      go_wp2_with fail
      go_roundw
      case rel => exact ⟨k + 1, HK5.out, by rw [HRR.out], by rw [HST.out], HB2.out⟩
      case measure =>
        have h1 := HNE.out
        have h2 := HUPK.out
        have h3 := HX16.out
        have h4 := HX17.out
        have h5 := HST.out
        simp [intOf]
        omega
set_option maxRecDepth 100000 in
set_option maxHeartbeats 1600000 in
theorem impl_cm (n : Int) (u : Value) (l : List A2) (S : Nat → Prop) (w : World) (hr : atomsC.rd w S [u] l) :
    Calls Tryz.prog 67 #[.agg #[.int .i64 n, u]] w fun e w' => ∃ v' fp, e = .returned v' ∧ rowC.ow w' w.heap.size [v'] (cmL n l) fp ∧ fp.Nodup ∧ Below w.heap.size w w' := by
  have HFM := Lib.hid (fun w' (hb : Below w.heap.size w w') => impl_full n u l S w' (Cd.later hr hb))
  have HJ := Lib.hid (fun (k : Nat) (hk : k ≤ fm n l) w' (hb : Below w.heap.size w w') => (show Calls _ _ _ _ _ from by have := impl_conn n (k : Int) u l S w' (Cd.later hr hb); rw [cOk_le hk] at this; exact this))
  have HF16 := Lib.hid (fm_lt n l)
  obtain ⟨a, cap, rfl, hlm⟩ := Cd.sl_form hr
  have HZ := Lib.hid (show cmL n l = fil (conn (gr l)) (fm n l + 1) from rfl)
  clear hr
  have HC := Lib.hid (Loc2.of (row_alloc w (.cells #[.int .i64 n, .slice a l.length cap] 29)))
  have HB := Lib.hid (below_alloc w (.cells #[.int .i64 n, .slice a l.length cap] 29))
  generalize cmL n l = R at *
  generalize fm n l = F at *
  generalize gr l = G at *
  go_enter Tryz.func67, Tryz.ntmps67
  go_wp2_with fail
  generalize w.alloc _ = W at *
  refine (HFM.out _ HB.out).mono ?_
  rintro e w1 ⟨rfl, hb1⟩
  have HB1 := Lib.hid (below_then HB.out hb1)
  have HC1 := Lib.hid (HC.out.later hb1)
  have q1 : (F : Int) < 16 := by have := HF16.out; omega
  clear hb1
  go_wp2_with fail
  go_loopw [3, 8] (fun o i wr => ∃ (k : Nat), k ≤ F + 1 ∧ i = .int .i64 k ∧ OwnI wr w1.heap.size 3 o (fil (conn G) k) ∧ Below w1.heap.size w1 wr) (fun _ i _ => F + 1 - (intOf i).toNat)
  case atStart => exact ⟨0, Nat.zero_le _, rfl, OwnI.nil _ _ _, Below.refl _ _⟩
  case round =>
    obtain ⟨k, hk, rfl, hown, hb⟩ := hrel
    have HLQ := Lib.hid (HC1.out.later hb)
    have c0 := HLQ.out.c0
    have c1 := HLQ.out.c1
    have HBK := Lib.hid hb
    by_cases hlt : k ≤ F
    · have p1 : (0 : Int) ≤ (k : Int) := by omega
      have p2 : (k : Int) < (F : Int) + 1 := by omega
      have HJ1 := Lib.hid (HJ.out k hlt wr (below_then HB1.out hb))
      have HLT := Lib.hid hlt
      have hlen : (fil (conn G) k).length + 1 ≤ 1000000000000 := by have := fil_len (conn G) k; have := HF16.out; omega
      have HOW := Lib.hid hown
      clear hb hown hk hlt
      cases hx : conn G k
      · have HNX := Lib.hid (fil_no hx)
        rw [hx] at HJ1
        clear hx
        go_wp2_with fail
        refine HJ1.out.mono ?_
        rintro e w4 ⟨rfl, hb4⟩
        have HB4 := Lib.hid (below_then HBK.out hb4)
        have HO4 := Lib.hid (HOW.out.later hb4)
        clear hb4
        go_wp2_with fail
        go_roundw
        case rel => exact ⟨k + 1, by have := HLT.out; omega, by go_num, by rw [HNX.out]; exact HO4.out, HB4.out⟩
        case measure => have := HLT.out; simp [intOf]; omega
      · have HNX := Lib.hid (fil_yes hx)
        rw [hx] at HJ1
        clear hx
        generalize fil (conn G) k = out at *
        go_wp2_with fail
        refine HJ1.out.mono ?_
        rintro e w4 ⟨rfl, hb4⟩
        have HB4 := Lib.hid (below_then HBK.out hb4)
        have hown4 := HOW.out.later hb4
        have hbs := HB4.out.size
        clear hb4
        go_wp2_with (first | (at_builtin; refine wp_appendI rfl (.tmp 14) (.tmp 16) 32 rfl w1.heap.size 3 Tryz.underlying32 info_i64 _ _ rfl hown4 _ rfl hlen hbs ?_))
        intro v' w5 hown5 hb5
        go_wp2_with fail
        go_roundw
        case rel => exact ⟨k + 1, by have := HLT.out; omega, by go_num, by rw [HNX.out]; exact hown5, HB4.out.trans hb5⟩
        case measure => have := HLT.out; simp [intOf]; omega
    · have ek : k = F + 1 := by omega
      subst ek
      rw [← HZ.out] at hown
      obtain ⟨fp, q1, q2⟩ := ow_back (w0 := w) hown (by rw [HZ.out]; exact inr_fil _ _ (by have := HF16.out; omega)) HB1.out.size
      have HO := Lib.hid (And.intro q1 q2)
      clear hown hb q1 q2 hk hlt
      go_wp2_with fail
      go_ret
      first | exact ⟨_, fp, rfl, HO.out.1, HO.out.2, below_then HB1.out HBK.out⟩ | exact ⟨_, rfl, fp, HO.out.1, HO.out.2, below_then HB1.out HBK.out⟩
end Go.Proofs.YtdkhgeknjekkoaaGreat.QgImp
