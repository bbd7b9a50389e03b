/- Answers: all rows that fit: the model's walk through the values. -/
import Derived.Test.YtdkhgeknjekkoaaGreatAnsSpec1
import Derived.Test.YtdkhgeknjekkoaaGreatCdApp
import Derived.Test.YtdkhgeknjekkoaaGreatDbSpec
import Derived.Test.YtdkhgeknjekkoaaGreatTabPut
import Derived.Test.YtdkhgeknjekkoaaGreatDb
namespace Go.Proofs.YtdkhgeknjekkoaaGreat.AnsSpec
open Go Go.RowKit Byt Ints IntsLaw Cd Rows2 Tab TabSpec Exact Atom QryMath QryImp AnsMath SlMath TabOpen TabElem DbSpec Db MkAtom

def relOf (T : T3) (A : A2) : Rel := (A.2, T.2.2)
def rels (ts : List T3) (al : List A2) : List Rel := List.zipWith relOf ts al
theorem rels_len {ts : List T3} {al : List A2} (h : ts.length = al.length) : (rels ts al).length = ts.length := by unfold rels; rw [List.length_zipWith]; omega
theorem fitAll_more {vs row : List Int} {l : List Rel} {i : Nat} (h : ∀ R ∈ l.take i, fitR vs row R = true) (hi : i < l.length) (h0 : fitR vs row l[i] = true) : ∀ R ∈ l.take (i + 1), fitR vs row R = true := by
  intro R hR
  rw [List.take_succ_eq_append_getElem hi] at hR
  rcases List.mem_append.1 hR with q | q
  · exact h R q
  · rw [List.mem_singleton.1 q]; exact h0
theorem walk_no {vs row : List Int} {l : List Rel} {n : Nat} {R : Rel} (hR : R ∈ l) (h : fitR vs row R = false) : walkL vs l n row = [] := by
  have hf : fitAll vs row l = false := by
    rw [← Bool.not_eq_true]
    intro q
    unfold fitAll at q
    rw [List.all_eq_true] at q
    have := q R hR
    rw [h] at this
    cases this
  cases n <;> (unfold walkL; rw [hf]; rfl)
theorem walk_zero {vs row : List Int} {l : List Rel} (h : ∀ R ∈ l, fitR vs row R = true) : walkL vs l 0 row = [row] := by
  unfold walkL
  rw [if_pos (by unfold fitAll; rw [List.all_eq_true]; exact h)]
def walkTo (vs : List Int) (l : List Rel) (n : Nat) (row : List Int) (k : Nat) : List (List Int) := (List.range k).flatMap fun v : Nat => walkL vs l n (row ++ [(v : Int)])
theorem walk_succ {vs row : List Int} {l : List Rel} {n : Nat} (h : ∀ R ∈ l, fitR vs row R = true) : walkL vs l (n + 1) row = walkTo vs l n row 10 := by
  unfold walkTo
  rw [walkL.eq_2]
  rw [if_pos (by unfold fitAll; rw [List.all_eq_true]; exact h)]
theorem walkTo_succ (vs : List Int) (l : List Rel) (n : Nat) (row : List Int) (k : Nat) : walkTo vs l n row (k + 1) = walkTo vs l n row k ++ walkL vs l n (row ++ [(k : Int)]) := by
  unfold walkTo
  rw [List.range_succ, List.flatMap_append]
  simp
theorem walkTo_len (vs : List Int) (l : List Rel) (n : Nat) (row : List Int) (k : Nat) : (walkTo vs l n row k).length ≤ k * 10 ^ n := by
  have := len_flatMap_le (fun v : Nat => walkL vs l n (row ++ [(v : Int)])) (10 ^ n) (List.range k) fun v _ => len_walkL n _
  rwa [List.length_range] at this
/-- A slice of one row that the call owns, just made. -/
theorem rows_one {w : World} {base : Nat} {v : Value} {r : List Int} {f : List Nat} {e : TypeId} (h : rowC.ow w base [v] r f) (hn : f.Nodup) (hb : base ≤ w.heap.size) :
    (Cd.sl e rowC).ow (w.alloc (.cells #[v] e)) base [.slice (some ⟨w.heap.size, 0, none⟩) 1 1] [r] (w.heap.size :: f) ∧ (w.heap.size :: f).Nodup := by
  have hlt : ∀ b ∈ f, b < w.heap.size := fun b hb => (rowC.ow_lt h b hb).2
  refine ⟨⟨_, [[v]], [f], rfl, World.ownsRow_lit w #[v] 1 hb (by decide) rfl, ⟨Cd.ow_later h (below_alloc w _), trivial⟩, by simp [Value.ownBlock]⟩, List.nodup_cons.2 ⟨fun q => ?_, hn⟩⟩
  have := hlt _ q
  omega

def WalkC (ts : List T3) (al : List A2) (vs : List Int) (n : Nat) : Prop :=
  ∀ (row : List Int) (u1 u2 vv rv : Value) (S1 S2 S3 S4 : Nat → Prop) (w : World), tabsC.rd w S1 [u1] ts → atomsC.rd w S2 [u2] al → rowC.rd w S3 [vv] vs → rowC.rd w S4 [rv] row → row.length + n = vs.length →
    Calls Tryz.prog 53 #[u1, u2, vv, rv] w fun e w' => ∃ v' fp, e = .returned v' ∧ rowsC.ow w' w.heap.size [v'] (walkL vs (rels ts al) n row) fp ∧ fp.Nodup ∧ Below w.heap.size w w'

set_option maxRecDepth 100000 in
set_option maxHeartbeats 6400000 in
theorem walk_core (ts : List T3) (al : List A2) (hl : ts.length = al.length) (hL : ∀ i (h : i < ts.length) (h' : i < al.length), ∀ r ∈ ts[i].2.2, r.length = al[i].2.length) (vs : List Int) (hv4 : vs.length ≤ 4) (n : Nat)
    (HREC : ∀ k, n = k + 1 → WalkC ts al vs k) : WalkC ts al vs n := by
  intro row u1 u2 vv rv S1 S2 S3 S4 w h1 h2 h3 h4 hn
  have HR1 := Lib.hid (fun w' (hb : Below w.heap.size w w') => Cd.later h1 hb)
  have HR2 := Lib.hid (fun w' (hb : Below w.heap.size w w') => Cd.later h2 hb)
  have HR3 := Lib.hid (fun w' (hb : Below w.heap.size w w') => Cd.later h3 hb)
  have HR4 := Lib.hid (fun w' (hb : Below w.heap.size w w') => Cd.later h4 hb)
  obtain ⟨a1, c1, rfl, hl1⟩ := Cd.sl_form h1
  obtain ⟨a2, c2, rfl, hl2⟩ := Cd.sl_form h2
  obtain ⟨a3, c3, rfl, hl3⟩ := row_form h3
  obtain ⟨a4, c4, rfl, hl4⟩ := row_form h4
  have HIN := Lib.hid (row_ri h4).2
  clear h1 h2 h3 h4
  have HLEN := Lib.hid hl
  have HL := Lib.hid hL
  have HN := Lib.hid hn
  have HV4 := Lib.hid hv4
  have HRE := Lib.hid HREC
  have HRL := Lib.hid (rels_len hl)
  clear hl hL hn hv4 HREC
  go_enter Tryz.func53, Tryz.ntmps53
  go_wp2_with fail
  go_loopw [9] (fun s wr => ∃ i : Nat, i ≤ ts.length ∧ s = .int .i64 i ∧ Hid (∀ R ∈ (rels ts al).take i, fitR vs row R = true) ∧ Below w.heap.size w wr) (fun s _ => ts.length - (intOf s).toNat)
  case atStart => exact ⟨0, Nat.zero_le _, rfl, Lib.hid (fun x hx => by simp at hx), Below.refl _ _⟩
  case round =>
    obtain ⟨i, hi, rfl, hal, hb⟩ := hrel
    have HB := Lib.hid hb
    by_cases hlt : i < ts.length
    · have hlt2 : i < al.length := by rw [← HLEN.out]; exact hlt
      obtain ⟨b, off, cap', us, e1, _, hbB, hat, hu⟩ := Cd.sl_at (HR1.out wr hb) hlt
      injection e1 with e1 e2 e3
      subst e1 e3
      obtain ⟨u, rfl, _, _, hrows⟩ := tab_cells hu
      have p0 := hat 0 (by simp)
      have p1 := hat 1 (by simp)
      have p2 := hat 2 (by simp)
      obtain ⟨b', off', cap', us, e1, _, hbB', hat', hu'⟩ := Cd.sl_at (HR2.out wr hb) hlt2
      injection e1 with e1 e2 e3
      subst e1 e3
      obtain ⟨ua, rfl, _, hua⟩ := atom_cells hu'
      have q0 := hat' 0 (by simp)
      have q1 := hat' 1 (by simp)
      simp only [List.getElem_cons_zero, List.getElem_cons_succ, Nat.add_zero, show tabC.n = 3 from rfl, show atomC.n = 2 from rfl] at p0 p1 p2 q0 q1
      have HE := Lib.hid (fun w' (hq : LaterD wr w') => spec_fits ts[i].1 ts[i].2.1 u ts[i].2.2 al[i].1 ua al[i].2 (.slice a3 vs.length c3) (.slice a4 row.length c4) vs row _ _ _ _ w' (Cd.later hrows hq) (Cd.later hua hq) (HR3.out w' (below_then HB.out hq)) (HR4.out w' (below_then HB.out hq)) (by have := HN.out; omega) (HL.out i hlt hlt2))
      have hri : i < (rels ts al).length := by rw [HRL.out]; exact hlt
      have HEQ : (rels ts al)[i] = (al[i].2, ts[i].2.2) := List.getElem_zipWith ..
      have HMORE := Lib.hid (show fitR vs row (al[i].2, ts[i].2.2) = true → ∀ R ∈ (rels ts al).take (i + 1), fitR vs row R = true from fun h => fitAll_more hal.out hri (by rw [HEQ]; exact h))
      have HNO := Lib.hid (show fitR vs row (al[i].2, ts[i].2.2) = false → walkL vs (rels ts al) n row = [] from fun h => walk_no (R := (al[i].2, ts[i].2.2)) (by rw [← HEQ]; exact List.getElem_mem _) h)
      have i1 : (0 : Int) ≤ (i : Int) := by omega
      have i2 : (i : Int) < (ts.length : Int) := by omega
      have i3 : (i : Int) < (al.length : Int) := by omega
      have HLT := Lib.hid hlt
      have kk : LaterD wr wr.drew := (Below.refl _ wr).drew
      have HSC := Lib.hid (fun wx (h : LaterD wr wx) => (show wx.cell? ⟨b, off + i * 3, none⟩ = some (.string ts[i].1) ∧ wx.cell? ⟨b, off + i * 3 + 1, none⟩ = some (.int .i64 ts[i].2.1) ∧ wx.cell? ⟨b, off + i * 3 + 2, none⟩ = some u ∧ wx.cell? ⟨b', off' + i * 2, none⟩ = some (.string al[i].1) ∧ wx.cell? ⟨b', off' + i * 2 + 1, none⟩ = some ua ∧ LaterD wr wx from
        ⟨(Below.cell h (p := ⟨b, off + i * 3, none⟩) hbB).trans p0, (Below.cell h (p := ⟨b, off + i * 3 + 1, none⟩) hbB).trans p1, (Below.cell h (p := ⟨b, off + i * 3 + 2, none⟩) hbB).trans p2, (Below.cell h (p := ⟨b', off' + i * 2, none⟩) hbB').trans q0, (Below.cell h (p := ⟨b', off' + i * 2 + 1, none⟩) hbB').trans q1, h⟩))
      clear hu hu' hat hat' hb hbB hbB' hal hrows hua HEQ hri p0 p1 p2 q0 q1
      generalize ts[i] = T at *
      generalize al[i] = A at *
      clear hlt hlt2
      generalize fitR vs row (A.2, T.2.2) = fb at *
      generalize T.1 = tn at *
      generalize T.2.1 = ta at *
      generalize A.1 = an at *
      cases fb
      · have HZ := Lib.hid (HNO.out rfl)
        clear HMORE HNO
        go_wp2_with fail
        go_region_held3 (fun wx => wx.cell? ⟨b, off + i * 3, none⟩ = some (.string tn) ∧ wx.cell? ⟨b, off + i * 3 + 1, none⟩ = some (.int .i64 ta) ∧ wx.cell? ⟨b, off + i * 3 + 2, none⟩ = some u ∧ wx.cell? ⟨b', off' + i * 2, none⟩ = some (.string an) ∧ wx.cell? ⟨b', off' + i * 2 + 1, none⟩ = some ua ∧ LaterD wr wx)
          (exact HSC.out _ (by assumption))
          (first | (go_at_call 102; refine (HE.out _ (by assumption)).mono ?_; rintro e wq ⟨rfl, hbq⟩; (have kk : LaterD wr wq := below_then (by assumption) hbq); clear hbq))
        all_goals
          have HBQ := Lib.hid (below_then HB.out (show Below wr.heap.size wr wq by assumption))
          go_wp2_with fail
          go_ret
          exact ⟨_, _, rfl, by rw [HZ.out]; exact Cd.ow_empty _ _ HBQ.out.size, by simp, below_then HBQ.out (below_alloc _ _)⟩
      · have HT := Lib.hid (HMORE.out rfl)
        clear HMORE HNO
        go_wp2_with fail
        go_region_held3 (fun wx => wx.cell? ⟨b, off + i * 3, none⟩ = some (.string tn) ∧ wx.cell? ⟨b, off + i * 3 + 1, none⟩ = some (.int .i64 ta) ∧ wx.cell? ⟨b, off + i * 3 + 2, none⟩ = some u ∧ wx.cell? ⟨b', off' + i * 2, none⟩ = some (.string an) ∧ wx.cell? ⟨b', off' + i * 2 + 1, none⟩ = some ua ∧ LaterD wr wx)
          (exact HSC.out _ (by assumption))
          (first | (go_at_call 102; refine (HE.out _ (by assumption)).mono ?_; rintro e wq ⟨rfl, hbq⟩; (have kk : LaterD wr wq := below_then (by assumption) hbq); clear hbq))
        all_goals
          have HBQ := Lib.hid (below_then HB.out (show Below wr.heap.size wr wq by assumption))
          go_wp2_with fail
          go_roundw
          case rel => exact ⟨i + 1, by have := HLT.out; omega, by go_num, HT.out, HBQ.out⟩
          case measure => have := HLT.out; simp [intOf]; omega
    · have ei : i = ts.length := by omega
      subst ei
      rw [← HRL.out, List.take_length] at hal
      have HAL := Lib.hid hal.out
      clear hal hb
      cases n with
      | zero =>
        have hen : row.length = vs.length := by have := HN.out; omega
        have HZ := Lib.hid (walk_zero HAL.out)
        have t1 : ((row.length : Int) == (vs.length : Int)) = true := by rw [beq_iff_eq]; omega
        have HL2 := Lib.hid (show row.length ≤ 4 by have := HV4.out; omega)
        clear hen
        go_wp2_with (at_builtin; refine Cd.wpList_appendRI rfl (.tmp 36) (.tmp 37) 32 rfl w.heap.size 3 Tryz.underlying32 info_i64 _ [] _ rfl (Cd.ow_empty _ _ HB.out.size) (.slice a4 row.length c4) row _ rfl (HR4.out _ (below_then HB.out (below_alloc _ _))) (by have := HL2.out; simp; omega) (Nat.le_trans HB.out.size (below_alloc _ _).size) ?_)
        intro v1 w2 f1 ho1 hn1 hs1 ht1
        obtain ⟨a5, c5, rfl⟩ := Cd.ow_slice ho1
        have hb2 : Below w.heap.size w w2 := Cd.Touch.below (below_then HB.out (below_alloc wr (.cells #[] 3))) ht1 (fun b hb => by have := HB.out.size; simp only [List.mem_singleton] at hb; omega)
        obtain ⟨k1, k2⟩ := rows_one (e := 32) ho1 hn1 hb2.size
        have A1 := Lib.hid k1
        have A2 := Lib.hid k2
        have A3 := Lib.hid (below_then hb2 (below_alloc w2 (.cells #[.slice a5 ([] ++ row).length c5] 32)))
        clear k1 k2 hb2 ho1 hn1 hs1 ht1
        go_wp2_with fail
        go_ret
        exact ⟨_, _, rfl, by rw [HZ.out]; exact A1.out, A2.out, A3.out⟩
      | succ k =>
        have HREK := Lib.hid (HRE.out k rfl)
        have hne : row.length ≠ vs.length := by have := HN.out; omega
        have HZ := Lib.hid (walk_succ (n := k) HAL.out)
        have t1 : ((row.length : Int) == (vs.length : Int)) = false := by rw [beq_eq_false_iff_ne]; omega
        have HL2 := Lib.hid (show row.length + k + 1 ≤ 4 ∧ k ≤ 3 by have := HV4.out; have := HN.out; omega)
        have HP := Lib.hid (show 10 ^ k ≤ 1000 by
          have := HL2.out.2
          exact Nat.le_trans (Nat.pow_le_pow_right (by decide) this) (by decide))
        have HOE := Lib.hid (Cd.ow_empty (e := 32) (c := rowC) wr w.heap.size HB.out.size)
        clear hne HRE
        go_wp2_with fail
        generalize hW : wr.alloc _ = W at *
        have HBW := Lib.hid (show Below w.heap.size w W by rw [← hW]; exact below_then HB.out (below_alloc _ _))
        clear hW
        generalize wr.heap.size = X at *
        go_loopw [10, 11] (fun o s wr => ∃ (v : Nat) (fp : List Nat), v ≤ 10 ∧ s = .int .i64 v ∧ rowsC.ow wr w.heap.size [o] (walkTo vs (rels ts al) k row v) fp ∧ fp.Nodup ∧ Below w.heap.size w wr) (fun _ s _ => 10 - (intOf s).toNat)
        case atStart => exact ⟨0, _, by omega, rfl, HOE.out, by simp, HBW.out⟩
        case round =>
          obtain ⟨v, fp, hv, rfl, how, hnd, hb⟩ := hrel
          obtain ⟨ao, co, rfl⟩ := Cd.ow_slice (c := rowC) how
          have HOW := Lib.hid how
          have HND := Lib.hid hnd
          have HBR := Lib.hid hb
          have HNX := Lib.hid (walkTo_succ vs (rels ts al) k row v)
          have HTL := Lib.hid (walkTo_len vs (rels ts al) k row v)
          have HWL := Lib.hid (len_walkL (vs := vs) (l := rels ts al) k (row ++ [(v : Int)]))
          clear how hnd hb
          generalize hout : walkTo vs (rels ts al) k row v = out at *
          have HOUT := Lib.hid hout
          clear hout
          by_cases hv9 : (v : Int) ≤ 9
          · have HV9 := Lib.hid hv9
            have hv9' : v ≤ 9 := by omega
            have i1 : (0 : Int) ≤ (v : Int) := by omega
            go_wp2_with (at_builtin; refine Cd.wpList_appendRI rfl (.tmp 49) (.tmp 50) 32 rfl w.heap.size 3 Tryz.underlying32 info_i64 _ [] _ rfl (Cd.ow_empty _ _ HBR.out.size) (.slice a4 row.length c4) row _ rfl (HR4.out _ (below_then HBR.out (below_alloc _ _))) (by have := HL2.out; simp; omega) (Nat.le_trans HBR.out.size (below_alloc _ _).size) ?_)
            intro v1 w2 f1 ho1 hn1 hs1 ht1
            obtain ⟨a5, c5, rfl⟩ := Cd.ow_slice ho1
            obtain ⟨k1, k2, k3, k4, k5⟩ := copied (c := rowsC) (d := rowC) HOW.out HBR.out.size ho1 hs1 ht1 (.cells #[.int .i64 v] 3)
            have kc : (w2.alloc (.cells #[.int .i64 v] 3)).cell? ⟨w2.heap.size, 0, none⟩ = some (.int .i64 v) := by simp
            have B1 := Lib.hid k1
            have B2 := Lib.hid k2
            have B3 := Lib.hid k3
            have B4 := Lib.hid (below_then HBR.out k4)
            have B5 := Lib.hid k5
            have B6 := Lib.hid kc
            have B7 := Lib.hid hn1
            have B8 := Lib.hid (show Cd.int.ow (w2.alloc (.cells #[.int .i64 v] 3)) w.heap.size [.int .i64 (v : Int)] (v : Int) [] from ⟨rfl, by have := HV9.out; omega, rfl⟩)
            clear k1 k2 k3 k4 k5 kc ho1 hs1 ht1 hn1
            go_wp2_with (at_builtin; refine Cd.wpList_appendE (c := Cd.int) rfl rfl (.tmp 51) (.tmp 53) 32 rfl w.heap.size 3 (.int .i64 0) 8 Tryz.underlying32 info_i64 rfl (by decide) _ _ _ rfl B2.out B7.out _ _ rfl B6.out _ _ B8.out (by simp) (by simp) (by have := HL2.out; simp; omega) B5.out ?_)
            intro g cap3 w3 f3 ho3 hn3 hs3 ht3
            have C1 := Lib.hid (Cd.ow_touched B1.out ht3 (fun b hb q => B3.out b q hb))
            have C2 := Lib.hid (Cd.Touch.below B4.out ht3 (fun b hb => (rowC.ow_lt B2.out b hb).1))
            have C3 := Lib.hid (show rowC.rd w3 (fun b => b ∈ f3) [_] ([] ++ row ++ [(v : Int)]) from rowC.ow_rd ho3)
            clear ho3 hn3 hs3 ht3
            have HCALL := Lib.hid (HREK.out ([] ++ row ++ [(v : Int)]) _ _ _ _ _ _ _ _ w3 (HR1.out w3 C2.out) (HR2.out w3 C2.out) (HR3.out w3 C2.out) C3.out (by have := HN.out; simp; omega))
            have e0 : ([] : List Int) ++ row ++ [(v : Int)] = row ++ [(v : Int)] := rfl
            rw [e0] at HCALL
            go_wp2_with fail
            refine HCALL.out.mono ?_
            rintro e w4 ⟨y, fq, rfl, ho4, hn4, hb4⟩
            have D1 := Lib.hid (Cd.ow_later C1.out hb4)
            have D2 := Lib.hid (below_then C2.out hb4)
            have D3 := Lib.hid ((Cd.sl _ rowC).ow_base ho4 C2.out.size)
            have D4 := Lib.hid hn4
            have D5 := Lib.hid (show ∀ b ∈ fq, b ∉ fp from fun b hb q => by
              have h1 := (rowsC.ow_lt ho4 b hb).1
              have h2 := (rowsC.ow_lt C1.out b q).2
              omega)
            have D6 := Lib.hid (show out.length + (walkL vs (rels ts al) k (row ++ [(v : Int)])).length ≤ 1000000000000 by
              have h1 := HTL.out
              have h2 := HWL.out
              have h3 := HP.out
              have h4 : v * 10 ^ k ≤ 10 * 1000 := Nat.mul_le_mul hv h3
              omega)
            clear ho4 hn4 hb4
            obtain ⟨a6, c6, rfl⟩ := Cd.ow_slice (c := rowC) D3.out
            go_wp2_with (at_builtin; refine Cd.wpList_appendEach (c := rowC) rfl rfl (.tmp 45) (.tmp 55) 33 rfl w.heap.size 32 (.slice none 0 0) 24 Tryz.underlying33 info_ints rfl (by decide) _ out fp rfl D1.out HND.out _ _ fq rfl D3.out D4.out D5.out D6.out D2.out.size ?_)
            intro v5 w5 f5 ho5 hn5 hs5 ht5
            obtain ⟨a7, c7, rfl⟩ := Cd.ow_slice (c := rowC) ho5
            have E1 := Lib.hid (show rowsC.ow w5 w.heap.size [_] (out ++ walkL vs (rels ts al) k (row ++ [(v : Int)])) f5 from ho5)
            have E2 := Lib.hid hn5
            have E3 := Lib.hid (Cd.Touch.below D2.out ht5 (fun b hb => (rowsC.ow_lt D1.out b hb).1))
            clear ho5 hn5 hs5 ht5
            go_wp2_with fail
            go_roundw
            case rel => exact ⟨v + 1, f5, by omega, by go_num, by rw [HNX.out]; exact E1.out, E2.out, E3.out⟩
            case measure => simp [intOf]; omega
          · have ev : v = 10 := by omega
            subst ev
            go_wp2_with fail
            go_ret
            first
              | exact ⟨_, fp, rfl, by rw [HZ.out, HOUT.out]; exact HOW.out, HND.out, HBR.out⟩
              | exact ⟨_, rfl, fp, by rw [HZ.out, HOUT.out]; exact HOW.out, HND.out, HBR.out⟩
theorem spec_walk (ts : List T3) (al : List A2) (hl : ts.length = al.length) (hL : ∀ i (h : i < ts.length) (h' : i < al.length), ∀ r ∈ ts[i].2.2, r.length = al[i].2.length) (vs : List Int) (hv4 : vs.length ≤ 4) : ∀ n, WalkC ts al vs n
  | 0 => walk_core ts al hl hL vs hv4 0 fun k h => by omega
  | n + 1 => walk_core ts al hl hL vs hv4 (n + 1) fun k h => by
    have e : k = n := by omega
    subst e
    exact spec_walk ts al hl hL vs hv4 k
end Go.Proofs.YtdkhgeknjekkoaaGreat.AnsSpec
