/- Degree sequences: the model's sort, greatest first. -/
import Derived.Test.YtklamhnecncenaaDegSpec3
import Derived.Test.YtklamhnecncenaaRegH
import Derived.Test.YtklamhnecncenaaCdCut
namespace Go.Proofs.Ytklamhnecncenaa.DegSpec
open Go Go.RowKit Byt Ints IntsLaw Cd Rows2 Tab TabSpec Exact DegMath

theorem row_parts {w : World} {base g n cap : Nat} {l : List Int} {fp : List Nat} (h : rowC.ow w base [.slice (some ⟨g, 0, none⟩) n cap] l fp) :
    n = l.length ∧ l.length ≤ cap ∧ cap ≤ maxLen ∧ fp = [g] ∧ base ≤ g ∧ ∀ k, k ≤ l.length → RI w (.slice (some ⟨g, 0, none⟩) k cap) (l.take k) w.heap.size ∧ RI w (.slice (some ⟨g, k, none⟩) (l.length - k) (cap - k)) (l.drop k) w.heap.size := by
  obtain ⟨hown, hin, hfp⟩ := row_own h
  have hown2 := hown
  unfold OwnI at hown
  rcases hown.2 with ⟨h', _⟩ | ⟨g', cap', cur, h', hbg, hg, hnc, hcm, hcs, htake⟩
  · cases h'
  simp only [Value.slice.injEq, Option.some.injEq, Addr.mk.injEq, and_true] at h'
  obtain ⟨rfl, rfl, rfl⟩ := h'
  have hgw : g < w.heap.size := (Array.getElem?_eq_some_iff.1 hg).1
  have hcell : ∀ t, (ht : t < l.length) → w.cell? ⟨g, t, none⟩ = some (.int .i64 l[t]) := fun t ht => by
    have hc := World.ownsRow.cellAt hown t (by rw [Nat.mul_one]; exact ht)
    rw [List.getElem?_map, List.getElem?_eq_getElem ht] at hc
    exact hc
  have hm : l.length ≤ 9223372036854775807 := by unfold maxLen at hcm; omega
  refine ⟨rfl, hnc, hcm, by rw [hfp]; rfl, hbg, fun k hk => ⟨⟨_, cap, by rw [List.length_take, Nat.min_eq_left hk], by rw [List.length_take]; omega, .inr ⟨g, 0, rfl, hgw, fun t ht => ?_⟩⟩, ⟨_, cap - k, by rw [List.length_drop], by rw [List.length_drop]; omega, .inr ⟨g, k, rfl, hgw, fun t ht => ?_⟩⟩⟩⟩
  · rw [List.length_take] at ht
    rw [Nat.zero_add, List.getElem_take]
    exact hcell t (by omega)
  · rw [List.length_drop] at ht
    rw [List.getElem_drop]
    exact hcell (k + t) (by omega)
theorem ow_some {w : World} {base : Nat} {v : Value} {l : List Int} {fp : List Nat} (h : rowC.ow w base [v] l fp) (hl : 0 < l.length) : ∃ g cap, v = .slice (some ⟨g, 0, none⟩) l.length cap := by
  obtain ⟨hown, _, _⟩ := row_own h
  rcases hown.2 with ⟨_, h'⟩ | ⟨g', cap', cur, h', _⟩
  · omega
  · exact ⟨g', cap', h'⟩
theorem in_take {l : List Int} (h : InR l) (k : Nat) : InR (l.take k) := fun x hx => h x (List.mem_of_mem_take hx)
theorem in_drop {l : List Int} (h : InR l) (k : Nat) : InR (l.drop k) := fun x hx => h x (List.mem_of_mem_drop hx)
theorem in_down {l : List Int} (h : InR l) : InR (downL l) := fun x hx => h x (down_mem.1 hx)

/-- What is gathered so far, in new memory. -/
structure Acc (wk : World) (base : Nat) (v : Value) (l : List Int) (fp : List Nat) (w : World) : Prop where
  b : Below wk.heap.size wk w
  ow : rowC.ow w base [v] l fp
  nd : fp.Nodup
  far : ∀ q ∈ fp, wk.heap.size ≤ q
structure Both (wk : World) (base : Nat) (v : Value) (l : List Int) (fp : List Nat) (z : Int) (p : Nat) (w : World) : Prop extends Acc wk base v l fp w where
  cell : w.cell? ⟨p, 0, none⟩ = some (.int .i64 z)
  np : p ∉ fp
theorem acc_start {wk x : World} {base : Nat} (hb : Below wk.heap.size wk x) (hB : base ≤ wk.heap.size) : Acc wk base (.slice (some ⟨x.heap.size, 0, none⟩) 0 0) [] [x.heap.size] (x.alloc (.cells #[] 3)) :=
  ⟨below_then hb (below_alloc x _), Cd.ow_empty (e := 3) (c := Cd.int) x base (Nat.le_trans hB hb.size), by simp, fun q hq => by rw [List.mem_singleton.1 hq]; exact hb.size⟩
theorem Acc.app {wk x w' : World} {base : Nat} {v v' : Value} {l l' : List Int} {fp f' : List Nat} (h : Acc wk base v l fp x) (ho : rowC.ow w' base [v'] l' f') (hn : f'.Nodup) (hs : ∀ b ∈ f', b ∈ fp ∨ x.heap.size ≤ b) (ht : Cd.Touch fp x w') : Acc wk base v' l' f' w' :=
  ⟨Cd.Touch.below h.b ht h.far, ho, hn, fun q hq => (hs q hq).elim (h.far q) (Nat.le_trans h.b.size)⟩
theorem Both.app {wk x w' : World} {base : Nat} {v v' : Value} {l l' : List Int} {fp f' : List Nat} {z : Int} {p : Nat} (h : Both wk base v l fp z p x) (ho : rowC.ow w' base [v'] l' f') (hn : f'.Nodup) (hs : ∀ b ∈ f', b ∈ fp ∨ x.heap.size ≤ b) (ht : Cd.Touch fp x w') : Both wk base v' l' f' z p w' :=
  ⟨h.toAcc.app ho hn hs ht, ht.cell h.cell h.np, fun q => (hs p q).elim h.np (fun h2 => by have := World.block_lt_of_cell? x _ h.cell; simp only at this; omega)⟩
theorem Acc.elem {wk x : World} {base : Nat} {v : Value} {l : List Int} {fp : List Nat} (h : Acc wk base v l fp x) (z : Int) : Both wk base v l fp z x.heap.size (x.alloc (.cells #[.int .i64 z] 3)) :=
  ⟨⟨below_then h.b (below_alloc x _), Cd.ow_later h.ow (below_alloc x _), h.nd, h.far⟩, by simp, fun q => by have := (rowC.ow_lt h.ow _ q).2; omega⟩
theorem both_start {wk x : World} {base : Nat} (hb : Below wk.heap.size wk x) (hB : base ≤ wk.heap.size) {z : Int} {p : Nat} (hc : x.cell? ⟨p, 0, none⟩ = some (.int .i64 z)) : Both wk base (.slice (some ⟨x.heap.size, 0, none⟩) 0 0) [] [x.heap.size] z p (x.alloc (.cells #[] 3)) :=
  ⟨acc_start hb hB, ((below_alloc x _).cell (World.block_lt_of_cell? x _ hc)).trans hc, fun q => by have := World.block_lt_of_cell? x _ hc; rw [List.mem_singleton.1 q] at this; simp only at this; omega⟩
theorem int_elem {x : World} {base : Nat} {z : Int} (hz : -9223372036854775808 ≤ z ∧ z ≤ 9223372036854775807) : Cd.int.ow x base [.int .i64 z] z [] := ⟨rfl, hz, rfl⟩

set_option maxRecDepth 100000 in
set_option maxHeartbeats 6400000 in
theorem spec_down (v : Value) (l : List Int) (S : Nat → Prop) (w : World) (hv : rowC.rd w S [v] l) (hl : l.length ≤ 1000000) :
    Calls Try.prog 85 #[v] w fun e w' => ∃ g c fp, e = .returned (.slice (some ⟨g, 0, none⟩) l.length c) ∧ rowC.ow w' w.heap.size [.slice (some ⟨g, 0, none⟩) l.length c] (downL l) fp ∧ fp.Nodup ∧ Below w.heap.size w w' := by
  have HV := Lib.hid (fun w' (hb : Below w.heap.size w w') => (row_ri (Cd.later hv hb)).1)
  have HIN := Lib.hid (row_ri hv).2
  obtain ⟨a, cap, rfl, hlm, _⟩ := (row_ri hv).1
  have HW := Lib.hid (And.intro (Cd.ow_empty (e := 3) (c := Cd.int) w w.heap.size (Nat.le_refl _)) (below_alloc w (.cells #[] 3)))
  clear hv
  go_enter Try.func85, Try.ntmps85
  go_wp2_with fail
  go_loopw [3, 4] (fun o i wr => ∃ (n g c : Nat) (fp : List Nat), n ≤ l.length ∧ i = .int .i64 n ∧ o = .slice (some ⟨g, 0, none⟩) n c ∧ rowC.ow wr w.heap.size [.slice (some ⟨g, 0, none⟩) n c] (downL (l.take n)) fp ∧ fp.Nodup ∧ Below w.heap.size w wr) (fun _ i _ => l.length - (intOf i).toNat)
  case atStart => exact ⟨0, _, _, _, Nat.zero_le _, rfl, rfl, (by rw [show downL (l.take 0) = [] by simp [downL]]; exact HW.out.1), by simp, HW.out.2⟩
  case round =>
    obtain ⟨n, g, c, fp, hn, rfl, rfl, how, hnd, hbw⟩ := hrel
    have HBW := Lib.hid hbw
    by_cases hlt : n < l.length
    · obtain ⟨b, off, cap', e1, hbB, hc⟩ := ri_at (HV.out wr hbw) hlt
      injection e1 with e1 e2 e3
      subst e1 e3
      have HLN := Lib.hid (show (downL (l.take n)).length = n by rw [down_len, List.length_take]; omega)
      have HNX := Lib.hid (fun (k : Nat) (hk : k ≤ (downL (l.take n)).length) h1 h2 => down_next hlt hk h1 h2)
      have HZI := Lib.hid (HIN.out _ (List.getElem_mem hlt))
      have HOI := Lib.hid (in_down (in_take HIN.out n))
      have HLT := Lib.hid hlt
      have p1 : (0 : Int) ≤ (n : Int) := by omega
      have p2 : (n : Int) < (l.length : Int) := by omega
      obtain ⟨hnl, hnc, hcm, hfg, hbg, hpt⟩ := row_parts how
      have HGB := Lib.hid (And.intro hbg (rowC.ow_lt how g (by obtain ⟨_, _, _, h, _⟩ := row_parts how; rw [h]; simp)).2)
      have HPT := Lib.hid hpt
      rw [HLN.out] at hnc
      clear how hnd hpt hbg hbw hnl hfg
      generalize downL (l.take n) = out at *
      generalize l[n] = z at *
      go_wp2_with fail
      generalize wr = wk at *
      have HCK := Lib.hid hc
      have HBS := Lib.hid (show w.heap.size ≤ wk.heap.size from HBW.out.size)
      clear hc
      go_loopw [5] (fun s wx => ∃ k m : Nat, k ≤ n ∧ s = .int .i64 k ∧ Hid (∀ j (hj : j < out.length), k ≤ j → out[j] < z) ∧ wx = wk.drewN m) (fun s _ => (intOf s).toNat)
      case atStart => exact ⟨n, 0, Nat.le_refl _, rfl, Lib.hid (fun j hj h => by have := HLN.out; omega), rfl⟩
      case round =>
        obtain ⟨k, m, hk, rfl, hall, hwr⟩ := hrel
        have HK := Lib.hid (show Below wk.heap.size wk wr by rw [hwr]; exact bq wk)
        have HWR := Lib.hid hwr
        have hcw : wr.cell? ⟨b, off + n, none⟩ = some (.int .i64 z) := by rw [hwr]; exact HCK.out
        have hri : ∀ j (hj : j < out.length), wr.cell? ⟨g, j, none⟩ = some (.int .i64 out[j]) := fun j hj => by
          obtain ⟨b', off', cap', e1, _, hx⟩ := ri_at (HPT.out out.length (Nat.le_refl _)).1 (k := j) (by rw [List.take_length]; exact hj)
          injection e1 with e1 _ _
          injection e1 with e1
          injection e1 with e1 e2 _
          subst e1 e2
          rw [Nat.zero_add] at hx
          simp only [List.getElem_take] at hx
          rw [hwr]
          exact hx
        clear hwr
        by_cases hk0 : k = 0
        · subst hk0
          have HNE := Lib.hid (HNX.out 0 (Nat.zero_le _) (fun j hj h => hall.out j hj h) (fun j h => by omega))
          clear hri
          go_wp2
          go_quiet (fail)
          go_wp2_with fail
          generalize hwq : wr.drewN _ = wq at *
          have hS0 : Below wk.heap.size wk wq := by rw [← hwq]; exact dnB HK.out
          clear hwq hcw
          have hkn : 0 ≤ n := by omega
          have hkc : 0 ≤ c := by omega
          have hck := HCK.out
          have HSP := Lib.hid (show ∀ wx, Below wk.heap.size wk wx → rowC.rd wx (fun _ => True) [.slice (some ⟨g, 0, none⟩) 0 c] (out.take 0) ∧ rowC.rd wx (fun _ => True) [.slice (some ⟨g, 0, none⟩) (n - 0) (c - 0)] (out.drop 0) from fun wx hx => by
            obtain ⟨h1, h2⟩ := HPT.out 0 (by have := HLN.out; omega)
            rw [HLN.out] at h2
            refine ⟨Cd.rd_of_ri (h1.later hx) (by have := hx.size; omega) (in_take HOI.out _) fun _ _ => trivial, ?_⟩
            exact Cd.rd_of_ri (h2.later hx) (by have := hx.size; omega) (in_drop HOI.out _) fun _ _ => trivial)
          refine wp_region_held_drew (S := fun wx => Below wk.heap.size wk wx) (by kernel_rfl) (show Below wk.heap.size wk wq.drew from ⟨hS0.os, hS0.tape, hS0.output, hS0.size, hS0.block⟩) (fun hHeld => ?_)
          generalize wq.drew = x0 at *
          have F2 : ([] ++ out.take 0 : List Int).length = 0 := by rw [List.nil_append, List.length_take]; have := HLN.out; omega
          refine RegH.takeH (i := 1) (v := ?_) rfl (by kernel_rfl) (by kernel_rfl) (by kernel_rfl) (fun _ _ _ h => h) (Or.inl ⟨by rfl, ?_⟩) (by assumption) ?_
          rotate_left
          · (intro wS hSw; (try dsimp only at hSw); (have rr := (Below.cell hSw (p := ⟨b, off + n, none⟩) hbB).trans hck); go_simp; try (with_reducible rfl))
          try simp only [Act.put, List.setIfInBounds_toArray, List.set_cons_zero, List.set_cons_succ]
          refine RegH.takeH (i := 2) (v := ?_) rfl (by kernel_rfl) (by kernel_rfl) (by kernel_rfl) (fun _ _ _ h => h) (Or.inl ⟨by rfl, ?_⟩) (by assumption) ?_
          rotate_left
          · (intro wS hSw; (try dsimp only at hSw); (have rr := (Below.cell hSw (p := ⟨b, off + n, none⟩) hbB).trans hck); go_simp; try (with_reducible rfl))
          try simp only [Act.put, List.setIfInBounds_toArray, List.set_cons_zero, List.set_cons_succ]
          refine RegH.takeH (i := 3) (v := ?_) rfl (by kernel_rfl) (by kernel_rfl) (by kernel_rfl) (fun _ _ _ h => h) (Or.inl ⟨by rfl, ?_⟩) (by assumption) ?_
          rotate_left
          · (intro wS hSw; (try dsimp only at hSw); (have rr := (Below.cell hSw (p := ⟨b, off + n, none⟩) hbB).trans hck); go_simp; try (with_reducible rfl))
          try simp only [Act.put, List.setIfInBounds_toArray, List.set_cons_zero, List.set_cons_succ]
          refine RegH.takeH (i := 5) (v := ?_) rfl (by kernel_rfl) (by kernel_rfl) (by kernel_rfl) (fun _ _ _ h => h) (Or.inl ⟨by rfl, ?_⟩) (by assumption) ?_
          rotate_left
          · (intro wS hSw; (try dsimp only at hSw); (have rr := (Below.cell hSw (p := ⟨b, off + n, none⟩) hbB).trans hck); go_simp; try (with_reducible rfl))
          try simp only [Act.put, List.setIfInBounds_toArray, List.set_cons_zero, List.set_cons_succ]
          refine RegH.takeH (i := 6) (v := ?_) rfl (by kernel_rfl) (by kernel_rfl) (by kernel_rfl) (fun _ _ _ h => h) (Or.inl ⟨by rfl, ?_⟩) (by assumption) ?_
          rotate_left
          · (intro wS hSw; (try dsimp only at hSw); (have rr := (Below.cell hSw (p := ⟨b, off + n, none⟩) hbB).trans hck); go_simp; try (with_reducible rfl))
          try simp only [Act.put, List.setIfInBounds_toArray, List.set_cons_zero, List.set_cons_succ]
          refine RegH.takeH (i := 7) (v := ?_) rfl (by kernel_rfl) (by kernel_rfl) (by kernel_rfl) (fun _ _ _ h => h) (Or.inl ⟨by rfl, ?_⟩) (by assumption) ?_
          rotate_left
          · (intro wS hSw; (try dsimp only at hSw); (have rr := (Below.cell hSw (p := ⟨b, off + n, none⟩) hbB).trans hck); go_simp; try (with_reducible rfl))
          try simp only [Act.put, List.setIfInBounds_toArray, List.set_cons_zero, List.set_cons_succ]
          refine RegH.takeH (i := 8) (v := ?_) rfl (by kernel_rfl) (by kernel_rfl) (by kernel_rfl) (fun _ _ _ h => h) (Or.inl ⟨by rfl, ?_⟩) (by assumption) ?_
          rotate_left
          · (intro wS hSw; (try dsimp only at hSw); (have rr := (Below.cell hSw (p := ⟨b, off + n, none⟩) hbB).trans hck); go_simp; try (with_reducible rfl))
          try simp only [Act.put, List.setIfInBounds_toArray, List.set_cons_zero, List.set_cons_succ]
          refine RegH.takeH (i := 11) (v := ?_) rfl (by kernel_rfl) (by kernel_rfl) (by kernel_rfl) (fun _ _ _ h => h) (Or.inl ⟨by rfl, ?_⟩) (by assumption) ?_
          rotate_left
          · (intro wS hSw; (try dsimp only at hSw); (have rr := (Below.cell hSw (p := ⟨b, off + n, none⟩) hbB).trans hck); go_simp; try (with_reducible rfl))
          try simp only [Act.put, List.setIfInBounds_toArray, List.set_cons_zero, List.set_cons_succ]
          refine RegH.takeH (i := 12) (v := ?_) rfl (by kernel_rfl) (by kernel_rfl) (by kernel_rfl) (fun _ _ _ h => h) (Or.inl ⟨by rfl, ?_⟩) (by assumption) ?_
          rotate_left
          · (intro wS hSw; (try dsimp only at hSw); (have rr := (Below.cell hSw (p := ⟨b, off + n, none⟩) hbB).trans hck); go_simp; try (with_reducible rfl))
          try simp only [Act.put, List.setIfInBounds_toArray, List.set_cons_zero, List.set_cons_succ]
          refine RegH.takeH (i := 13) (v := ?_) rfl (by kernel_rfl) (by kernel_rfl) (by kernel_rfl) (fun _ _ _ h => h) (Or.inl ⟨by rfl, ?_⟩) (by assumption) ?_
          rotate_left
          · (intro wS hSw; (try dsimp only at hSw); (have rr := (Below.cell hSw (p := ⟨b, off + n, none⟩) hbB).trans hck); go_simp; try (with_reducible rfl))
          try simp only [Act.put, List.setIfInBounds_toArray, List.set_cons_zero, List.set_cons_succ]
          refine RegH.consH2 (i := 0) (j := 9) rfl rfl (by kernel_rfl) (fun K hK => ?_) (fun K hK => ?_)
          · skip
            go_simp
            have H1 := acc_start hHeld HBS.out
            generalize World.alloc x0 (Obj.cells #[] 3) = y0 at *
            refine hK.out _ _ ?_ (fun hHeld => ?_)
            · exact H1.b
            clear hK K
            try simp only [Act.put, List.setIfInBounds_toArray, List.set_cons_zero, List.set_cons_succ]
            refine RegH.consH2 (i := 4) (j := 9) rfl rfl (by kernel_rfl) (fun K hK => ?_) (fun K hK => ?_)
            · skip
              have hT := (HSP.out _ H1.b).1
              refine Cd.step_appendRI rfl (.tmp 31) (.tmp 34) 24 rfl w.heap.size 3 Try.underlying24 info_i64 _ [] _ rfl H1.ow _ (out.take 0) _ rfl hT (by rw [List.length_nil, List.length_take]; have := HLN.out; omega) (Nat.le_trans HBS.out H1.b.size) ?_
              intro v1 w1 f1 ho1 hn1 hs1 ht1
              have H2 := H1.app ho1 hn1 hs1 ht1
              clear ho1 hn1 hs1 ht1 hT
              obtain ⟨a1, c1, rfl⟩ := Cd.ow_slice H2.ow
              rw [F2] at H2 ⊢
              refine hK.out _ _ ?_ (fun hHeld => ?_)
              · exact H2.b
              clear hK K
              try simp only [Act.put, List.setIfInBounds_toArray, List.set_cons_zero, List.set_cons_succ]
              refine RegH.consH (i := 9) rfl (by kernel_rfl) (fun K hK => ?_)
              go_simp
              have H3 := H2.elem z
              generalize World.alloc w1 (Obj.cells #[.int .i64 z] 3) = y9 at *
              refine hK.out _ _ ?_ (fun hHeld => ?_)
              · exact H3.b
              clear hK K
              try simp only [Act.put, List.setIfInBounds_toArray, List.set_cons_zero, List.set_cons_succ]
              refine RegH.consH (i := 10) rfl (by kernel_rfl) (fun K hK => ?_)
              refine Cd.step_appendE (c := Cd.int) rfl rfl (.tmp 35) (.tmp 40) 24 rfl w.heap.size 3 (.int .i64 0) 8 Try.underlying24 info_i64 rfl (by decide) _ _ _ rfl H3.ow H3.nd _ _ rfl H3.cell _ _ (int_elem HZI.out) (by simp) (by simp) (by rw [List.nil_append, List.length_take]; have := HLN.out; omega) (Nat.le_trans HBS.out H3.b.size) ?_
              intro g2 c2 w2 f2 ho2 hn2 hs2 ht2
              have HT2 := H3.toAcc.app ho2 hn2 (fun q hq => (hs2 q hq).elim .inl (fun h => h.elim (fun h => by cases h) .inr)) ht2
              clear ho2 hn2 hs2 ht2
              (try rw [F2] at HT2)
              (try rw [F2])
              refine hK.out _ _ ?_ (fun hHeld => ?_)
              · exact HT2.b
              clear hK K
              try simp only [Act.put, List.setIfInBounds_toArray, List.set_cons_zero, List.set_cons_succ]
              refine RegH.consH (i := 14) rfl (by kernel_rfl) (fun K hK => ?_)
              have hT := (HSP.out _ HT2.b).2
              refine Cd.step_appendRI rfl (.tmp 41) (.tmp 44) 24 rfl w.heap.size 3 Try.underlying24 info_i64 _ _ _ rfl HT2.ow _ (out.drop 0) _ rfl hT (by simp only [List.nil_append, List.length_append, List.length_take, List.length_drop, List.length_cons, List.length_nil]; have := HLN.out; omega) (Nat.le_trans HBS.out HT2.b.size) ?_
              intro v3 w3 f3 ho3 hn3 hs3 ht3
              have HT3 := HT2.app ho3 hn3 hs3 ht3
              clear ho3 hn3 hs3 ht3 hT
              obtain ⟨g3, c3, rfl⟩ := ow_some HT3.ow (by simp only [List.nil_append, List.length_append, List.length_cons]; omega)
              have F4 : ([] ++ out.take 0 ++ [z] ++ out.drop 0).length = n + 1 := by simp only [List.nil_append, List.length_append, List.length_take, List.length_drop, List.length_cons, List.length_nil]; have := HLN.out; omega
              rw [F4] at HT3 ⊢
              refine hK.out _ _ ?_ (fun hHeld => ?_)
              · exact HT3.b
              clear hK K
              try simp only [Act.put, List.setIfInBounds_toArray, List.set_cons_zero, List.set_cons_succ]
              refine RegH.consH (i := 15) rfl (by kernel_rfl) (fun K hK => ?_)
              go_simp
              refine hK.out _ _ ?_ (fun hHeld => ?_)
              · exact HT3.b
              clear hK K
              try simp only [Act.put, List.setIfInBounds_toArray, List.set_cons_zero, List.set_cons_succ]
              refine wpAnyH_done (by kernel_rfl) ?_ _
              have F1 := Lib.hid HT3.ow
              have F2 := Lib.hid HT3.nd
              have F3 := Lib.hid (below_then HBW.out HT3.b)
              rw [List.nil_append, HNE.out] at F1
              go_wp2_with fail
              go_roundw
              case rel => exact ⟨n + 1, g3, c3, f3, HLT.out, by go_num, rfl, F1.out, F2.out, F3.out⟩
              case measure => simp [intOf]; have := HLT.out; omega
            · skip
              go_simp
              have H2 := H1.elem z
              generalize World.alloc y0 (Obj.cells #[.int .i64 z] 3) = y9 at *
              refine hK.out _ _ ?_ (fun hHeld => ?_)
              · exact H2.b
              clear hK K
              try simp only [Act.put, List.setIfInBounds_toArray, List.set_cons_zero, List.set_cons_succ]
              refine RegH.consH (i := 4) rfl (by kernel_rfl) (fun K hK => ?_)
              have hT := (HSP.out _ H2.b).1
              refine Cd.step_appendRI rfl (.tmp 31) (.tmp 34) 24 rfl w.heap.size 3 Try.underlying24 info_i64 _ [] _ rfl H2.ow _ (out.take 0) _ rfl hT (by rw [List.length_nil, List.length_take]; have := HLN.out; omega) (Nat.le_trans HBS.out H2.b.size) ?_
              intro v1 w1 f1 ho1 hn1 hs1 ht1
              have H3 := H2.app ho1 hn1 hs1 ht1
              clear ho1 hn1 hs1 ht1 hT
              obtain ⟨a1, c1, rfl⟩ := Cd.ow_slice H3.ow
              rw [F2] at H3 ⊢
              refine hK.out _ _ ?_ (fun hHeld => ?_)
              · exact H3.b
              clear hK K
              try simp only [Act.put, List.setIfInBounds_toArray, List.set_cons_zero, List.set_cons_succ]
              refine RegH.consH (i := 10) rfl (by kernel_rfl) (fun K hK => ?_)
              refine Cd.step_appendE (c := Cd.int) rfl rfl (.tmp 35) (.tmp 40) 24 rfl w.heap.size 3 (.int .i64 0) 8 Try.underlying24 info_i64 rfl (by decide) _ _ _ rfl H3.ow H3.nd _ _ rfl H3.cell _ _ (int_elem HZI.out) (by simp) (by simp) (by rw [List.nil_append, List.length_take]; have := HLN.out; omega) (Nat.le_trans HBS.out H3.b.size) ?_
              intro g2 c2 w2 f2 ho2 hn2 hs2 ht2
              have HT2 := H3.toAcc.app ho2 hn2 (fun q hq => (hs2 q hq).elim .inl (fun h => h.elim (fun h => by cases h) .inr)) ht2
              clear ho2 hn2 hs2 ht2
              (try rw [F2] at HT2)
              (try rw [F2])
              refine hK.out _ _ ?_ (fun hHeld => ?_)
              · exact HT2.b
              clear hK K
              try simp only [Act.put, List.setIfInBounds_toArray, List.set_cons_zero, List.set_cons_succ]
              refine RegH.consH (i := 14) rfl (by kernel_rfl) (fun K hK => ?_)
              have hT := (HSP.out _ HT2.b).2
              refine Cd.step_appendRI rfl (.tmp 41) (.tmp 44) 24 rfl w.heap.size 3 Try.underlying24 info_i64 _ _ _ rfl HT2.ow _ (out.drop 0) _ rfl hT (by simp only [List.nil_append, List.length_append, List.length_take, List.length_drop, List.length_cons, List.length_nil]; have := HLN.out; omega) (Nat.le_trans HBS.out HT2.b.size) ?_
              intro v3 w3 f3 ho3 hn3 hs3 ht3
              have HT3 := HT2.app ho3 hn3 hs3 ht3
              clear ho3 hn3 hs3 ht3 hT
              obtain ⟨g3, c3, rfl⟩ := ow_some HT3.ow (by simp only [List.nil_append, List.length_append, List.length_cons]; omega)
              have F4 : ([] ++ out.take 0 ++ [z] ++ out.drop 0).length = n + 1 := by simp only [List.nil_append, List.length_append, List.length_take, List.length_drop, List.length_cons, List.length_nil]; have := HLN.out; omega
              rw [F4] at HT3 ⊢
              refine hK.out _ _ ?_ (fun hHeld => ?_)
              · exact HT3.b
              clear hK K
              try simp only [Act.put, List.setIfInBounds_toArray, List.set_cons_zero, List.set_cons_succ]
              refine RegH.consH (i := 15) rfl (by kernel_rfl) (fun K hK => ?_)
              go_simp
              refine hK.out _ _ ?_ (fun hHeld => ?_)
              · exact HT3.b
              clear hK K
              try simp only [Act.put, List.setIfInBounds_toArray, List.set_cons_zero, List.set_cons_succ]
              refine wpAnyH_done (by kernel_rfl) ?_ _
              have F1 := Lib.hid HT3.ow
              have F2 := Lib.hid HT3.nd
              have F3 := Lib.hid (below_then HBW.out HT3.b)
              rw [List.nil_append, HNE.out] at F1
              go_wp2_with fail
              go_roundw
              case rel => exact ⟨n + 1, g3, c3, f3, HLT.out, by go_num, rfl, F1.out, F2.out, F3.out⟩
              case measure => simp [intOf]; have := HLT.out; omega
          · skip
            go_simp
            have hcc : (x0.alloc (.cells #[.int .i64 z] 3)).cell? ⟨x0.heap.size, 0, none⟩ = some (.int .i64 z) := by simp
            have H1 : Below wk.heap.size wk (x0.alloc (.cells #[.int .i64 z] 3)) := below_then hHeld (below_alloc x0 _)
            generalize World.alloc x0 (Obj.cells #[.int .i64 z] 3) = y9 at *
            refine hK.out _ _ ?_ (fun hHeld => ?_)
            · exact H1
            clear hK K
            try simp only [Act.put, List.setIfInBounds_toArray, List.set_cons_zero, List.set_cons_succ]
            refine RegH.consH (i := 0) rfl (by kernel_rfl) (fun K hK => ?_)
            go_simp
            have H2 := both_start H1 HBS.out hcc
            generalize World.alloc y9 (Obj.cells #[] 3) = y0 at *
            refine hK.out _ _ ?_ (fun hHeld => ?_)
            · exact H2.b
            clear hK K
            try simp only [Act.put, List.setIfInBounds_toArray, List.set_cons_zero, List.set_cons_succ]
            refine RegH.consH (i := 4) rfl (by kernel_rfl) (fun K hK => ?_)
            have hT := (HSP.out _ H2.b).1
            refine Cd.step_appendRI rfl (.tmp 31) (.tmp 34) 24 rfl w.heap.size 3 Try.underlying24 info_i64 _ [] _ rfl H2.ow _ (out.take 0) _ rfl hT (by rw [List.length_nil, List.length_take]; have := HLN.out; omega) (Nat.le_trans HBS.out H2.b.size) ?_
            intro v1 w1 f1 ho1 hn1 hs1 ht1
            have H3 := H2.app ho1 hn1 hs1 ht1
            clear ho1 hn1 hs1 ht1 hT
            obtain ⟨a1, c1, rfl⟩ := Cd.ow_slice H3.ow
            rw [F2] at H3 ⊢
            refine hK.out _ _ ?_ (fun hHeld => ?_)
            · exact H3.b
            clear hK K
            try simp only [Act.put, List.setIfInBounds_toArray, List.set_cons_zero, List.set_cons_succ]
            refine RegH.consH (i := 10) rfl (by kernel_rfl) (fun K hK => ?_)
            refine Cd.step_appendE (c := Cd.int) rfl rfl (.tmp 35) (.tmp 40) 24 rfl w.heap.size 3 (.int .i64 0) 8 Try.underlying24 info_i64 rfl (by decide) _ _ _ rfl H3.ow H3.nd _ _ rfl H3.cell _ _ (int_elem HZI.out) (by simp) (by simp) (by rw [List.nil_append, List.length_take]; have := HLN.out; omega) (Nat.le_trans HBS.out H3.b.size) ?_
            intro g2 c2 w2 f2 ho2 hn2 hs2 ht2
            have HT2 := H3.toAcc.app ho2 hn2 (fun q hq => (hs2 q hq).elim .inl (fun h => h.elim (fun h => by cases h) .inr)) ht2
            clear ho2 hn2 hs2 ht2
            (try rw [F2] at HT2)
            (try rw [F2])
            refine hK.out _ _ ?_ (fun hHeld => ?_)
            · exact HT2.b
            clear hK K
            try simp only [Act.put, List.setIfInBounds_toArray, List.set_cons_zero, List.set_cons_succ]
            refine RegH.consH (i := 14) rfl (by kernel_rfl) (fun K hK => ?_)
            have hT := (HSP.out _ HT2.b).2
            refine Cd.step_appendRI rfl (.tmp 41) (.tmp 44) 24 rfl w.heap.size 3 Try.underlying24 info_i64 _ _ _ rfl HT2.ow _ (out.drop 0) _ rfl hT (by simp only [List.nil_append, List.length_append, List.length_take, List.length_drop, List.length_cons, List.length_nil]; have := HLN.out; omega) (Nat.le_trans HBS.out HT2.b.size) ?_
            intro v3 w3 f3 ho3 hn3 hs3 ht3
            have HT3 := HT2.app ho3 hn3 hs3 ht3
            clear ho3 hn3 hs3 ht3 hT
            obtain ⟨g3, c3, rfl⟩ := ow_some HT3.ow (by simp only [List.nil_append, List.length_append, List.length_cons]; omega)
            have F4 : ([] ++ out.take 0 ++ [z] ++ out.drop 0).length = n + 1 := by simp only [List.nil_append, List.length_append, List.length_take, List.length_drop, List.length_cons, List.length_nil]; have := HLN.out; omega
            rw [F4] at HT3 ⊢
            refine hK.out _ _ ?_ (fun hHeld => ?_)
            · exact HT3.b
            clear hK K
            try simp only [Act.put, List.setIfInBounds_toArray, List.set_cons_zero, List.set_cons_succ]
            refine RegH.consH (i := 15) rfl (by kernel_rfl) (fun K hK => ?_)
            go_simp
            refine hK.out _ _ ?_ (fun hHeld => ?_)
            · exact HT3.b
            clear hK K
            try simp only [Act.put, List.setIfInBounds_toArray, List.set_cons_zero, List.set_cons_succ]
            refine wpAnyH_done (by kernel_rfl) ?_ _
            have F1 := Lib.hid HT3.ow
            have F2 := Lib.hid HT3.nd
            have F3 := Lib.hid (below_then HBW.out HT3.b)
            rw [List.nil_append, HNE.out] at F1
            go_wp2_with fail
            go_roundw
            case rel => exact ⟨n + 1, g3, c3, f3, HLT.out, by go_num, rfl, F1.out, F2.out, F3.out⟩
            case measure => simp [intOf]; have := HLT.out; omega
        obtain ⟨j, hj⟩ : ∃ j, k = j + 1 := ⟨k - 1, by omega⟩
        have hjl : j < out.length := by have := HLN.out; omega
        have hcj := hri j hjl
        have q1 : (0 : Int) ≤ (j : Int) := by omega
        have q2 : (j : Int) < (n : Int) := by omega
        have q5 : 0 < k := by omega
        have q6 : (k : Int) - 1 = (j : Int) := by omega
        by_cases hcmp : out[j] < z
        · have hall2 := Lib.hid (show ∀ i (hi : i < out.length), j ≤ i → out[i] < z from fun i hi h => by
            by_cases e : i = j
            · subst e; exact hcmp
            · exact hall.out i hi (by omega))
          have HJ := Lib.hid hj
          clear hri hj hk0
          generalize out[j] = y at *
          go_wp2
          go_quiet (fail)
          go_wp2
          go_roundw
          case rel => exact ⟨j, _, by omega, by go_num, hall2, by rw [HWR.out, World.drewN_drewN]⟩
          case measure => simp [intOf]; have := HJ.out; omega
        · have HNE := Lib.hid (HNX.out k (by have := HLN.out; omega) (fun i hi h => hall.out i hi h) (fun i h hi => by
            obtain rfl : i = j := by omega
            omega))
          have HJ := Lib.hid hj
          clear hri hj hk0
          have hcmp : ¬ out[j] < z := hcmp
          generalize out[j] = y at *
          go_wp2
          go_quiet (fail)
          go_wp2_with fail
          generalize hwq : wr.drewN _ = wq at *
          have hS0 : Below wk.heap.size wk wq := by rw [← hwq]; exact dnB HK.out
          clear hwq hcw
          have hkn : k ≤ n := by omega
          have hkc : k ≤ c := by omega
          have hck := HCK.out
          have HSP := Lib.hid (show ∀ wx, Below wk.heap.size wk wx → rowC.rd wx (fun _ => True) [.slice (some ⟨g, 0, none⟩) k c] (out.take k) ∧ rowC.rd wx (fun _ => True) [.slice (if c = k then some ⟨g, 0, none⟩ else some ⟨g, k, none⟩) (n - k) (c - k)] (out.drop k) from fun wx hx => by
            obtain ⟨h1, h2⟩ := HPT.out k (by have := HLN.out; omega)
            rw [HLN.out] at h2
            refine ⟨Cd.rd_of_ri (h1.later hx) (by have := hx.size; omega) (in_take HOI.out _) fun _ _ => trivial, ?_⟩
            by_cases q : c = k
            · rw [if_pos q]
              have e0 : out.drop k = [] := List.drop_eq_nil_of_le (by have := HLN.out; omega)
              rw [e0, show n - k = 0 by omega]
              exact Cd.rd_of_ri (B := wx.heap.size) ⟨_, _, rfl, by simp, .inl rfl⟩ (Nat.le_refl _) (fun x hx => by cases hx) fun _ _ => trivial
            · rw [if_neg q]
              exact Cd.rd_of_ri (h2.later hx) (by have := hx.size; omega) (in_drop HOI.out _) fun _ _ => trivial)
          refine wp_region_held_drew (S := fun wx => Below wk.heap.size wk wx) (by kernel_rfl) (show Below wk.heap.size wk wq.drew from ⟨hS0.os, hS0.tape, hS0.output, hS0.size, hS0.block⟩) (fun hHeld => ?_)
          generalize wq.drew = x0 at *
          have F2 : ([] ++ out.take k : List Int).length = k := by rw [List.nil_append, List.length_take]; have := HLN.out; omega
          refine RegH.takeH (i := 1) (v := ?_) rfl (by kernel_rfl) (by kernel_rfl) (by kernel_rfl) (fun _ _ _ h => h) (Or.inl ⟨by rfl, ?_⟩) (by assumption) ?_
          rotate_left
          · (intro wS hSw; (try dsimp only at hSw); (have rr := (Below.cell hSw (p := ⟨b, off + n, none⟩) hbB).trans hck); go_simp; try (with_reducible rfl))
          try simp only [Act.put, List.setIfInBounds_toArray, List.set_cons_zero, List.set_cons_succ]
          refine RegH.takeH (i := 2) (v := ?_) rfl (by kernel_rfl) (by kernel_rfl) (by kernel_rfl) (fun _ _ _ h => h) (Or.inl ⟨by rfl, ?_⟩) (by assumption) ?_
          rotate_left
          · (intro wS hSw; (try dsimp only at hSw); (have rr := (Below.cell hSw (p := ⟨b, off + n, none⟩) hbB).trans hck); go_simp; try (with_reducible rfl))
          try simp only [Act.put, List.setIfInBounds_toArray, List.set_cons_zero, List.set_cons_succ]
          refine RegH.takeH (i := 3) (v := ?_) rfl (by kernel_rfl) (by kernel_rfl) (by kernel_rfl) (fun _ _ _ h => h) (Or.inl ⟨by rfl, ?_⟩) (by assumption) ?_
          rotate_left
          · (intro wS hSw; (try dsimp only at hSw); (have rr := (Below.cell hSw (p := ⟨b, off + n, none⟩) hbB).trans hck); go_simp; try (with_reducible rfl))
          try simp only [Act.put, List.setIfInBounds_toArray, List.set_cons_zero, List.set_cons_succ]
          refine RegH.takeH (i := 5) (v := ?_) rfl (by kernel_rfl) (by kernel_rfl) (by kernel_rfl) (fun _ _ _ h => h) (Or.inl ⟨by rfl, ?_⟩) (by assumption) ?_
          rotate_left
          · (intro wS hSw; (try dsimp only at hSw); (have rr := (Below.cell hSw (p := ⟨b, off + n, none⟩) hbB).trans hck); go_simp; try (with_reducible rfl))
          try simp only [Act.put, List.setIfInBounds_toArray, List.set_cons_zero, List.set_cons_succ]
          refine RegH.takeH (i := 6) (v := ?_) rfl (by kernel_rfl) (by kernel_rfl) (by kernel_rfl) (fun _ _ _ h => h) (Or.inl ⟨by rfl, ?_⟩) (by assumption) ?_
          rotate_left
          · (intro wS hSw; (try dsimp only at hSw); (have rr := (Below.cell hSw (p := ⟨b, off + n, none⟩) hbB).trans hck); go_simp; try (with_reducible rfl))
          try simp only [Act.put, List.setIfInBounds_toArray, List.set_cons_zero, List.set_cons_succ]
          refine RegH.takeH (i := 7) (v := ?_) rfl (by kernel_rfl) (by kernel_rfl) (by kernel_rfl) (fun _ _ _ h => h) (Or.inl ⟨by rfl, ?_⟩) (by assumption) ?_
          rotate_left
          · (intro wS hSw; (try dsimp only at hSw); (have rr := (Below.cell hSw (p := ⟨b, off + n, none⟩) hbB).trans hck); go_simp; try (with_reducible rfl))
          try simp only [Act.put, List.setIfInBounds_toArray, List.set_cons_zero, List.set_cons_succ]
          refine RegH.takeH (i := 8) (v := ?_) rfl (by kernel_rfl) (by kernel_rfl) (by kernel_rfl) (fun _ _ _ h => h) (Or.inl ⟨by rfl, ?_⟩) (by assumption) ?_
          rotate_left
          · (intro wS hSw; (try dsimp only at hSw); (have rr := (Below.cell hSw (p := ⟨b, off + n, none⟩) hbB).trans hck); go_simp; try (with_reducible rfl))
          try simp only [Act.put, List.setIfInBounds_toArray, List.set_cons_zero, List.set_cons_succ]
          refine RegH.takeH (i := 11) (v := ?_) rfl (by kernel_rfl) (by kernel_rfl) (by kernel_rfl) (fun _ _ _ h => h) (Or.inl ⟨by rfl, ?_⟩) (by assumption) ?_
          rotate_left
          · (intro wS hSw; (try dsimp only at hSw); (have rr := (Below.cell hSw (p := ⟨b, off + n, none⟩) hbB).trans hck); go_simp; try (with_reducible rfl))
          try simp only [Act.put, List.setIfInBounds_toArray, List.set_cons_zero, List.set_cons_succ]
          refine RegH.takeH (i := 12) (v := ?_) rfl (by kernel_rfl) (by kernel_rfl) (by kernel_rfl) (fun _ _ _ h => h) (Or.inl ⟨by rfl, ?_⟩) (by assumption) ?_
          rotate_left
          · (intro wS hSw; (try dsimp only at hSw); (have rr := (Below.cell hSw (p := ⟨b, off + n, none⟩) hbB).trans hck); go_simp; try (with_reducible rfl))
          try simp only [Act.put, List.setIfInBounds_toArray, List.set_cons_zero, List.set_cons_succ]
          refine RegH.takeH (i := 13) (v := ?_) rfl (by kernel_rfl) (by kernel_rfl) (by kernel_rfl) (fun _ _ _ h => h) (Or.inl ⟨by rfl, ?_⟩) (by assumption) ?_
          rotate_left
          · (intro wS hSw; (try dsimp only at hSw); (have rr := (Below.cell hSw (p := ⟨b, off + n, none⟩) hbB).trans hck); go_simp; try (with_reducible rfl))
          try simp only [Act.put, List.setIfInBounds_toArray, List.set_cons_zero, List.set_cons_succ]
          refine RegH.consH2 (i := 0) (j := 9) rfl rfl (by kernel_rfl) (fun K hK => ?_) (fun K hK => ?_)
          · skip
            go_simp
            have H1 := acc_start hHeld HBS.out
            generalize World.alloc x0 (Obj.cells #[] 3) = y0 at *
            refine hK.out _ _ ?_ (fun hHeld => ?_)
            · exact H1.b
            clear hK K
            try simp only [Act.put, List.setIfInBounds_toArray, List.set_cons_zero, List.set_cons_succ]
            refine RegH.consH2 (i := 4) (j := 9) rfl rfl (by kernel_rfl) (fun K hK => ?_) (fun K hK => ?_)
            · skip
              have hT := (HSP.out _ H1.b).1
              refine Cd.step_appendRI rfl (.tmp 31) (.tmp 34) 24 rfl w.heap.size 3 Try.underlying24 info_i64 _ [] _ rfl H1.ow _ (out.take k) _ rfl hT (by rw [List.length_nil, List.length_take]; have := HLN.out; omega) (Nat.le_trans HBS.out H1.b.size) ?_
              intro v1 w1 f1 ho1 hn1 hs1 ht1
              have H2 := H1.app ho1 hn1 hs1 ht1
              clear ho1 hn1 hs1 ht1 hT
              obtain ⟨a1, c1, rfl⟩ := Cd.ow_slice H2.ow
              rw [F2] at H2 ⊢
              refine hK.out _ _ ?_ (fun hHeld => ?_)
              · exact H2.b
              clear hK K
              try simp only [Act.put, List.setIfInBounds_toArray, List.set_cons_zero, List.set_cons_succ]
              refine RegH.consH (i := 9) rfl (by kernel_rfl) (fun K hK => ?_)
              go_simp
              have H3 := H2.elem z
              generalize World.alloc w1 (Obj.cells #[.int .i64 z] 3) = y9 at *
              refine hK.out _ _ ?_ (fun hHeld => ?_)
              · exact H3.b
              clear hK K
              try simp only [Act.put, List.setIfInBounds_toArray, List.set_cons_zero, List.set_cons_succ]
              refine RegH.consH (i := 10) rfl (by kernel_rfl) (fun K hK => ?_)
              refine Cd.step_appendE (c := Cd.int) rfl rfl (.tmp 35) (.tmp 40) 24 rfl w.heap.size 3 (.int .i64 0) 8 Try.underlying24 info_i64 rfl (by decide) _ _ _ rfl H3.ow H3.nd _ _ rfl H3.cell _ _ (int_elem HZI.out) (by simp) (by simp) (by rw [List.nil_append, List.length_take]; have := HLN.out; omega) (Nat.le_trans HBS.out H3.b.size) ?_
              intro g2 c2 w2 f2 ho2 hn2 hs2 ht2
              have HT2 := H3.toAcc.app ho2 hn2 (fun q hq => (hs2 q hq).elim .inl (fun h => h.elim (fun h => by cases h) .inr)) ht2
              clear ho2 hn2 hs2 ht2
              (try rw [F2] at HT2)
              (try rw [F2])
              refine hK.out _ _ ?_ (fun hHeld => ?_)
              · exact HT2.b
              clear hK K
              try simp only [Act.put, List.setIfInBounds_toArray, List.set_cons_zero, List.set_cons_succ]
              refine RegH.consH (i := 14) rfl (by kernel_rfl) (fun K hK => ?_)
              have hT := (HSP.out _ HT2.b).2
              refine Cd.step_appendRI rfl (.tmp 41) (.tmp 44) 24 rfl w.heap.size 3 Try.underlying24 info_i64 _ _ _ rfl HT2.ow _ (out.drop k) _ rfl hT (by simp only [List.nil_append, List.length_append, List.length_take, List.length_drop, List.length_cons, List.length_nil]; have := HLN.out; omega) (Nat.le_trans HBS.out HT2.b.size) ?_
              intro v3 w3 f3 ho3 hn3 hs3 ht3
              have HT3 := HT2.app ho3 hn3 hs3 ht3
              clear ho3 hn3 hs3 ht3 hT
              obtain ⟨g3, c3, rfl⟩ := ow_some HT3.ow (by simp only [List.nil_append, List.length_append, List.length_cons]; omega)
              have F4 : ([] ++ out.take k ++ [z] ++ out.drop k).length = n + 1 := by simp only [List.nil_append, List.length_append, List.length_take, List.length_drop, List.length_cons, List.length_nil]; have := HLN.out; omega
              rw [F4] at HT3 ⊢
              refine hK.out _ _ ?_ (fun hHeld => ?_)
              · exact HT3.b
              clear hK K
              try simp only [Act.put, List.setIfInBounds_toArray, List.set_cons_zero, List.set_cons_succ]
              refine RegH.consH (i := 15) rfl (by kernel_rfl) (fun K hK => ?_)
              go_simp
              refine hK.out _ _ ?_ (fun hHeld => ?_)
              · exact HT3.b
              clear hK K
              try simp only [Act.put, List.setIfInBounds_toArray, List.set_cons_zero, List.set_cons_succ]
              refine wpAnyH_done (by kernel_rfl) ?_ _
              have F1 := Lib.hid HT3.ow
              have F2 := Lib.hid HT3.nd
              have F3 := Lib.hid (below_then HBW.out HT3.b)
              rw [List.nil_append, HNE.out] at F1
              go_wp2_with fail
              go_roundw
              case rel => exact ⟨n + 1, g3, c3, f3, HLT.out, by go_num, rfl, F1.out, F2.out, F3.out⟩
              case measure => simp [intOf]; have := HLT.out; omega
            · skip
              go_simp
              have H2 := H1.elem z
              generalize World.alloc y0 (Obj.cells #[.int .i64 z] 3) = y9 at *
              refine hK.out _ _ ?_ (fun hHeld => ?_)
              · exact H2.b
              clear hK K
              try simp only [Act.put, List.setIfInBounds_toArray, List.set_cons_zero, List.set_cons_succ]
              refine RegH.consH (i := 4) rfl (by kernel_rfl) (fun K hK => ?_)
              have hT := (HSP.out _ H2.b).1
              refine Cd.step_appendRI rfl (.tmp 31) (.tmp 34) 24 rfl w.heap.size 3 Try.underlying24 info_i64 _ [] _ rfl H2.ow _ (out.take k) _ rfl hT (by rw [List.length_nil, List.length_take]; have := HLN.out; omega) (Nat.le_trans HBS.out H2.b.size) ?_
              intro v1 w1 f1 ho1 hn1 hs1 ht1
              have H3 := H2.app ho1 hn1 hs1 ht1
              clear ho1 hn1 hs1 ht1 hT
              obtain ⟨a1, c1, rfl⟩ := Cd.ow_slice H3.ow
              rw [F2] at H3 ⊢
              refine hK.out _ _ ?_ (fun hHeld => ?_)
              · exact H3.b
              clear hK K
              try simp only [Act.put, List.setIfInBounds_toArray, List.set_cons_zero, List.set_cons_succ]
              refine RegH.consH (i := 10) rfl (by kernel_rfl) (fun K hK => ?_)
              refine Cd.step_appendE (c := Cd.int) rfl rfl (.tmp 35) (.tmp 40) 24 rfl w.heap.size 3 (.int .i64 0) 8 Try.underlying24 info_i64 rfl (by decide) _ _ _ rfl H3.ow H3.nd _ _ rfl H3.cell _ _ (int_elem HZI.out) (by simp) (by simp) (by rw [List.nil_append, List.length_take]; have := HLN.out; omega) (Nat.le_trans HBS.out H3.b.size) ?_
              intro g2 c2 w2 f2 ho2 hn2 hs2 ht2
              have HT2 := H3.toAcc.app ho2 hn2 (fun q hq => (hs2 q hq).elim .inl (fun h => h.elim (fun h => by cases h) .inr)) ht2
              clear ho2 hn2 hs2 ht2
              (try rw [F2] at HT2)
              (try rw [F2])
              refine hK.out _ _ ?_ (fun hHeld => ?_)
              · exact HT2.b
              clear hK K
              try simp only [Act.put, List.setIfInBounds_toArray, List.set_cons_zero, List.set_cons_succ]
              refine RegH.consH (i := 14) rfl (by kernel_rfl) (fun K hK => ?_)
              have hT := (HSP.out _ HT2.b).2
              refine Cd.step_appendRI rfl (.tmp 41) (.tmp 44) 24 rfl w.heap.size 3 Try.underlying24 info_i64 _ _ _ rfl HT2.ow _ (out.drop k) _ rfl hT (by simp only [List.nil_append, List.length_append, List.length_take, List.length_drop, List.length_cons, List.length_nil]; have := HLN.out; omega) (Nat.le_trans HBS.out HT2.b.size) ?_
              intro v3 w3 f3 ho3 hn3 hs3 ht3
              have HT3 := HT2.app ho3 hn3 hs3 ht3
              clear ho3 hn3 hs3 ht3 hT
              obtain ⟨g3, c3, rfl⟩ := ow_some HT3.ow (by simp only [List.nil_append, List.length_append, List.length_cons]; omega)
              have F4 : ([] ++ out.take k ++ [z] ++ out.drop k).length = n + 1 := by simp only [List.nil_append, List.length_append, List.length_take, List.length_drop, List.length_cons, List.length_nil]; have := HLN.out; omega
              rw [F4] at HT3 ⊢
              refine hK.out _ _ ?_ (fun hHeld => ?_)
              · exact HT3.b
              clear hK K
              try simp only [Act.put, List.setIfInBounds_toArray, List.set_cons_zero, List.set_cons_succ]
              refine RegH.consH (i := 15) rfl (by kernel_rfl) (fun K hK => ?_)
              go_simp
              refine hK.out _ _ ?_ (fun hHeld => ?_)
              · exact HT3.b
              clear hK K
              try simp only [Act.put, List.setIfInBounds_toArray, List.set_cons_zero, List.set_cons_succ]
              refine wpAnyH_done (by kernel_rfl) ?_ _
              have F1 := Lib.hid HT3.ow
              have F2 := Lib.hid HT3.nd
              have F3 := Lib.hid (below_then HBW.out HT3.b)
              rw [List.nil_append, HNE.out] at F1
              go_wp2_with fail
              go_roundw
              case rel => exact ⟨n + 1, g3, c3, f3, HLT.out, by go_num, rfl, F1.out, F2.out, F3.out⟩
              case measure => simp [intOf]; have := HLT.out; omega
          · skip
            go_simp
            have hcc : (x0.alloc (.cells #[.int .i64 z] 3)).cell? ⟨x0.heap.size, 0, none⟩ = some (.int .i64 z) := by simp
            have H1 : Below wk.heap.size wk (x0.alloc (.cells #[.int .i64 z] 3)) := below_then hHeld (below_alloc x0 _)
            generalize World.alloc x0 (Obj.cells #[.int .i64 z] 3) = y9 at *
            refine hK.out _ _ ?_ (fun hHeld => ?_)
            · exact H1
            clear hK K
            try simp only [Act.put, List.setIfInBounds_toArray, List.set_cons_zero, List.set_cons_succ]
            refine RegH.consH (i := 0) rfl (by kernel_rfl) (fun K hK => ?_)
            go_simp
            have H2 := both_start H1 HBS.out hcc
            generalize World.alloc y9 (Obj.cells #[] 3) = y0 at *
            refine hK.out _ _ ?_ (fun hHeld => ?_)
            · exact H2.b
            clear hK K
            try simp only [Act.put, List.setIfInBounds_toArray, List.set_cons_zero, List.set_cons_succ]
            refine RegH.consH (i := 4) rfl (by kernel_rfl) (fun K hK => ?_)
            have hT := (HSP.out _ H2.b).1
            refine Cd.step_appendRI rfl (.tmp 31) (.tmp 34) 24 rfl w.heap.size 3 Try.underlying24 info_i64 _ [] _ rfl H2.ow _ (out.take k) _ rfl hT (by rw [List.length_nil, List.length_take]; have := HLN.out; omega) (Nat.le_trans HBS.out H2.b.size) ?_
            intro v1 w1 f1 ho1 hn1 hs1 ht1
            have H3 := H2.app ho1 hn1 hs1 ht1
            clear ho1 hn1 hs1 ht1 hT
            obtain ⟨a1, c1, rfl⟩ := Cd.ow_slice H3.ow
            rw [F2] at H3 ⊢
            refine hK.out _ _ ?_ (fun hHeld => ?_)
            · exact H3.b
            clear hK K
            try simp only [Act.put, List.setIfInBounds_toArray, List.set_cons_zero, List.set_cons_succ]
            refine RegH.consH (i := 10) rfl (by kernel_rfl) (fun K hK => ?_)
            refine Cd.step_appendE (c := Cd.int) rfl rfl (.tmp 35) (.tmp 40) 24 rfl w.heap.size 3 (.int .i64 0) 8 Try.underlying24 info_i64 rfl (by decide) _ _ _ rfl H3.ow H3.nd _ _ rfl H3.cell _ _ (int_elem HZI.out) (by simp) (by simp) (by rw [List.nil_append, List.length_take]; have := HLN.out; omega) (Nat.le_trans HBS.out H3.b.size) ?_
            intro g2 c2 w2 f2 ho2 hn2 hs2 ht2
            have HT2 := H3.toAcc.app ho2 hn2 (fun q hq => (hs2 q hq).elim .inl (fun h => h.elim (fun h => by cases h) .inr)) ht2
            clear ho2 hn2 hs2 ht2
            (try rw [F2] at HT2)
            (try rw [F2])
            refine hK.out _ _ ?_ (fun hHeld => ?_)
            · exact HT2.b
            clear hK K
            try simp only [Act.put, List.setIfInBounds_toArray, List.set_cons_zero, List.set_cons_succ]
            refine RegH.consH (i := 14) rfl (by kernel_rfl) (fun K hK => ?_)
            have hT := (HSP.out _ HT2.b).2
            refine Cd.step_appendRI rfl (.tmp 41) (.tmp 44) 24 rfl w.heap.size 3 Try.underlying24 info_i64 _ _ _ rfl HT2.ow _ (out.drop k) _ rfl hT (by simp only [List.nil_append, List.length_append, List.length_take, List.length_drop, List.length_cons, List.length_nil]; have := HLN.out; omega) (Nat.le_trans HBS.out HT2.b.size) ?_
            intro v3 w3 f3 ho3 hn3 hs3 ht3
            have HT3 := HT2.app ho3 hn3 hs3 ht3
            clear ho3 hn3 hs3 ht3 hT
            obtain ⟨g3, c3, rfl⟩ := ow_some HT3.ow (by simp only [List.nil_append, List.length_append, List.length_cons]; omega)
            have F4 : ([] ++ out.take k ++ [z] ++ out.drop k).length = n + 1 := by simp only [List.nil_append, List.length_append, List.length_take, List.length_drop, List.length_cons, List.length_nil]; have := HLN.out; omega
            rw [F4] at HT3 ⊢
            refine hK.out _ _ ?_ (fun hHeld => ?_)
            · exact HT3.b
            clear hK K
            try simp only [Act.put, List.setIfInBounds_toArray, List.set_cons_zero, List.set_cons_succ]
            refine RegH.consH (i := 15) rfl (by kernel_rfl) (fun K hK => ?_)
            go_simp
            refine hK.out _ _ ?_ (fun hHeld => ?_)
            · exact HT3.b
            clear hK K
            try simp only [Act.put, List.setIfInBounds_toArray, List.set_cons_zero, List.set_cons_succ]
            refine wpAnyH_done (by kernel_rfl) ?_ _
            have F1 := Lib.hid HT3.ow
            have F2 := Lib.hid HT3.nd
            have F3 := Lib.hid (below_then HBW.out HT3.b)
            rw [List.nil_append, HNE.out] at F1
            go_wp2_with fail
            go_roundw
            case rel => exact ⟨n + 1, g3, c3, f3, HLT.out, by go_num, rfl, F1.out, F2.out, F3.out⟩
            case measure => simp [intOf]; have := HLT.out; omega
    · have en : n = l.length := by omega
      subst en
      rw [List.take_length] at how
      have HO := Lib.hid how
      have HN := Lib.hid hnd
      clear how hnd
      go_wp2_with fail
      go_ret
      exact ⟨_, _, _, rfl, HO.out, HN.out, HBW.out⟩
end Go.Proofs.Ytklamhnecncenaa.DegSpec
