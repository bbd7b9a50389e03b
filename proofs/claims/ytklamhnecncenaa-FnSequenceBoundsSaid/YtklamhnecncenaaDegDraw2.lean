/- Degree sequences: drawn: a sequence. -/
import Derived.Test.YtklamhnecncenaaDegDraw
namespace Go.Proofs.Ytklamhnecncenaa.DegDraw
open Go Go.RowKit Byt Ints IntsLaw Draw LocDraw Cd Rows2 Tab TabSpec Exact DegMath DegSpec TabDraw

theorem one_rd (w : World) (x : Int) (hx : -9223372036854775808 ≤ x ∧ x ≤ 9223372036854775807) : rowC.rd (w.alloc (.cells #[.int .i64 x] 3)) (fun _ => True) [.slice (some ⟨w.heap.size, 0, none⟩) 1 1] [x] :=
  Cd.rd_of_ri (v := .slice (some ⟨w.heap.size, 0, none⟩) 1 1) (l := [x]) (B := w.heap.size + 1) ⟨_, 1, rfl, by simp, .inr ⟨w.heap.size, 0, rfl, by omega, fun t ht => by
    have : t = 0 := by simpa using ht
    subst this
    simp⟩⟩ (by rw [size_alloc]; exact Nat.le_refl _) (fun y hy => by rw [List.mem_singleton.1 hy]; exact hx) fun _ _ => trivial
set_option maxRecDepth 100000 in
set_option maxHeartbeats 3200000 in
theorem seq_any (c : Nat) (v : Value) (l : List UInt8) (B : Nat) (w : World) (h : CR w c v l B) :
    Calls Try.prog 110 #[.pointer (some ⟨c, 0, none⟩)] w fun e w' => ∃ u cur fp, e = .returned u ∧ cur.length ≤ 9 ∧ SetS w c v l B u cur fp w' := by
  have HCB := Lib.hid h.lt
  have HPK := Lib.hid (pickI_cr vv3 w.heap.size (by decide) (by decide) c v l B _ (h.later (below_alloc w (.cells (vv3.map fun z => Value.int .i64 z).toArray 3))) (by have := h.lt; omega) (list_cellsI vv3 w 3))
  have HT0 := Lib.hid (touch_below (Cd.Touch.refl [c] w) (below_alloc w (.cells (vv3.map fun z => Value.int .i64 z).toArray 3)))
  clear h
  go_enter Try.func110, Try.ntmps110
  go_wp2_with fail
  refine HPK.out.mono ?_
  rintro e w1 ⟨x, hx, rfl, hc1, ht1⟩
  have hx6 := vv3_ok x hx
  obtain ⟨V, rfl⟩ := Int.eq_ofNat_of_zero_le (show 0 ≤ x by omega)
  have HT1 := Lib.hid (HT0.out.trans ht1)
  have HC1 := Lib.hid hc1
  have HTB := Lib.hid (show Calls Try.prog 118 #[.pointer (some ⟨c, 0, none⟩), .string ⟨#[114]⟩, .int .i64 2, .int .i64 8, .int .i64 (V : Int)] w1 (TabGen 8 w1 c v l ⟨#[114]⟩ 2) from tab_gen 8 V (by decide) (by omega) ⟨#[114]⟩ 2 (by decide) c v l B w1 hc1.1 hc1.2.1 hc1.2.2)
  clear hx hc1 ht1 HPK hx6 HT0
  go_wp2_with fail
  refine HTB.out.mono ?_
  rintro e w2 ⟨u, rows, ft, rfl, ho, hn, hwt, hcu, hg⟩
  obtain ⟨at_, ct, rfl⟩ := rows_slice ho
  have HC2 := Lib.hid (HC1.out.after hcu hg)
  have HT2 := Lib.hid (HT1.out.trans (touch_of hg))
  have HRD2 := Lib.hid (show rowsC.rd w2 (fun b => w1.heap.size ≤ b ∧ b < w2.heap.size) [.slice at_ rows.length ct] rows from rowsC.mono (rowsC.ow_rd ho) fun b _ hb => rowsC.ow_lt ho b hb)
  have HZ1 := Lib.hid (show w.heap.size ≤ w1.heap.size ∧ w1.heap.size ≤ w2.heap.size from ⟨HT1.out.size, (touch_of hg).size⟩)
  clear ho hn hwt hcu hg
  go_upto_region 2 with fail
  generalize hnm : (⟨#[114]⟩ : ByteArray) = nm at *
  have hbX := below_alloc w2 (.cells #[.string nm, .int .i64 2, .slice at_ rows.length ct] 34 (0, 0))
  have HL3 := Lib.hid (Loc3.of (row_alloc w2 (.cells #[.string nm, .int .i64 2, .slice at_ rows.length ct] 34 (0, 0))))
  have HC3 := Lib.hid (HC2.out.later hbX)
  have HT3 := Lib.hid (touch_below HT2.out hbX)
  have HRD3 := Lib.hid (Cd.later HRD2.out hbX)
  clear hbX HC2 HT2 HRD2 hnm
  generalize World.alloc w2 _ = w3 at *
  generalize hXX : w2.heap.size = X at *
  have HXC := Lib.hid (show c ≠ X ∧ c < w1.heap.size by have := HCB.out; have := HZ1.out; omega)
  clear hXX
  have HD := Lib.hid (HL3.out.keep (w' := w3.drew) rfl)
  have HCD := Lib.hid (HC3.out.later (w' := w3.drew) ⟨rfl, rfl, rfl, Nat.le_refl _, fun _ _ => rfl⟩)
  have HTD := Lib.hid (touch_below HT3.out (b := w3.drew) ⟨rfl, rfl, rfl, Nat.le_refl _, fun _ _ => rfl⟩)
  have HRD := Lib.hid (Cd.later HRD3.out (w' := w3.drew) ⟨rfl, rfl, rfl, Nat.le_refl _, fun _ _ => rfl⟩)
  clear HC3 HT3 HRD3 HC1 HT1 HTB
  refine wp_region_held_drew (S := fun wx => Loc3 wx X (.string nm) (.int .i64 2) (.slice at_ rows.length ct)) (by kernel_rfl) (HD.out.keep rfl) (fun hHeld => ?_)
  refine RegH.takeH (i := 0) (v := ?_) rfl (by kernel_rfl) (by kernel_rfl) (by kernel_rfl) (fun _ _ _ h => h) (Or.inl ⟨by rfl, ?_⟩) (by assumption) ?_
  rotate_left
  · (intro wS hSw; (try dsimp only at hSw); (have r0 := hSw.c0); (have r1 := hSw.c1); (have r2 := hSw.c2); go_simp; try (with_reducible rfl))
  try simp only [Act.put, List.setIfInBounds_toArray, List.set_cons_zero, List.set_cons_succ]
  refine RegH.takeH (i := 1) (v := ?_) rfl (by kernel_rfl) (by kernel_rfl) (by kernel_rfl) (fun _ _ _ h => h) (Or.inl ⟨by rfl, ?_⟩) (by assumption) ?_
  rotate_left
  · (intro wS hSw; (try dsimp only at hSw); skip; go_simp; try (with_reducible rfl))
  try simp only [Act.put, List.setIfInBounds_toArray, List.set_cons_zero, List.set_cons_succ]
  refine RegH.consH (i := 2) rfl (by kernel_rfl) (fun K hK => ?_)
  go_simp
  go_at_call 79
  refine (below_cr 2 c v l B _ HCD.out).mono ?_
  rintro e w5 ⟨x, rfl, hx0, hx1, hc5, ht5⟩
  have HX := Lib.hid (And.intro hx0 (hx1 (by decide)))
  have HD5 := HD.out.touched ht5 (by simp only [List.mem_singleton]; have := HXC.out; omega)
  have HRD5 := Lib.hid (Cd.touched HRD.out ht5 (fun b hb q => by rw [List.mem_singleton.1 hb] at q; have := HXC.out; omega))
  have HC5 := Lib.hid hc5
  have HT5 := Lib.hid (HTD.out.trans ht5)
  clear hx0 hx1 hc5 ht5
  refine hK.out _ _ ?_ (fun hHeld => ?_)
  · exact HD5
  clear hK K
  try simp only [Act.put, List.setIfInBounds_toArray, List.set_cons_zero, List.set_cons_succ]
  refine RegH.consH (i := 3) rfl (by kernel_rfl) (fun K hK => ?_)
  go_simp
  have HD6 := Loc3.later HD5 (below_alloc w5 (.cells #[.int .i64 x] 3))
  have HRD6 := Lib.hid (Cd.later HRD5.out (below_alloc w5 (.cells #[.int .i64 x] 3)))
  have HC6 := Lib.hid (HC5.out.later (below_alloc w5 (.cells #[.int .i64 x] 3)))
  have HT6 := Lib.hid (touch_below HT5.out (below_alloc w5 (.cells #[.int .i64 x] 3)))
  have HV6 := Lib.hid (one_rd w5 x (by have := HX.out; omega))
  clear HD5
  generalize World.alloc w5 (Obj.cells #[.int .i64 x] 3) = w6 at *
  refine hK.out _ _ ?_ (fun hHeld => ?_)
  · exact HD6
  clear hK K
  try simp only [Act.put, List.setIfInBounds_toArray, List.set_cons_zero, List.set_cons_succ]
  refine RegH.consH (i := 4) rfl (by kernel_rfl) (fun K hK => ?_)
  go_simp
  go_at_call 28
  refine (spec_deg nm 2 _ _ rows [x] _ _ w6 HRD6.out HV6.out).mono ?_
  rintro e w7 ⟨u7, f7, rfl, ho7, hn7, hb7⟩
  obtain ⟨a7, c7, rfl⟩ := Cd.ow_slice (c := Cd.int) ho7
  have HD7 := Loc3.later HD6 hb7
  have HS7 := Lib.hid (show SetS w c v l B (.slice a7 (degL nm 2 rows [x]).length c7) (degL nm 2 rows [x]) f7 w7 from ⟨rowC.ow_base ho7 HT6.out.size, hn7, HC6.out.later hb7, HCB.out, touch_below HT6.out hb7⟩)
  have HL7 := Lib.hid (deg_len8 (nm := nm) (ar := 2) (rows := rows) (cols := [x]))
  clear ho7 hn7 hb7
  generalize degL nm 2 rows [x] = cur at *
  refine hK.out _ _ ?_ (fun hHeld => ?_)
  · exact HD7
  clear hK K
  try simp only [Act.put, List.setIfInBounds_toArray, List.set_cons_zero, List.set_cons_succ]
  refine RegH.consH (i := 5) rfl (by kernel_rfl) (fun K hK => ?_)
  go_simp
  skip
  refine hK.out _ _ ?_ (fun hHeld => ?_)
  · exact HD7
  clear hK K
  try simp only [Act.put, List.setIfInBounds_toArray, List.set_cons_zero, List.set_cons_succ]
  refine wpAnyH_done (by kernel_rfl) ?_ _
  have HON := Lib.hid (once_cr 10 c v l B w7 HS7.out.cr)
  clear HD7 hHeld
  go_wp2_with fail
  refine HON.out.mono ?_
  rintro e w8 ⟨b, rfl, hc8, ht8⟩
  have HS8 := Lib.hid (HS7.out.call hc8 ht8)
  clear hc8 ht8 HS7 HON
  cases b
  · go_wp2_with fail
    go_ret
    exact ⟨_, cur, f7, rfl, by have := HL7.out; omega, HS8.out⟩
  · have HA := Lib.hid (HS8.out.grow (below_alloc w8 (.cells (zz5.map fun z => Value.int .i64 z).toArray 3)))
    have HPK := Lib.hid (pickI_cr zz5 w8.heap.size (by decide) (by decide) c v l B _ HA.out.cr (by have := HS8.out.cr.lt; omega) (list_cellsI zz5 w8 3))
    clear HS8
    go_wp2_with fail
    refine HPK.out.mono ?_
    rintro e w9 ⟨z, hz, rfl, hc9, ht9⟩
    have HS9 := Lib.hid (HA.out.call hc9 ht9)
    have HZB := Lib.hid (zz5_ok z hz)
    clear hz hc9 ht9 HA HPK
    have HA2 := Lib.hid (HS9.out.grow (below_alloc w9 (.cells #[.int .i64 z] 3)))
    have C1 := Lib.hid (show (w9.alloc (.cells #[.int .i64 z] 3)).cell? ⟨w9.heap.size, 0, none⟩ = some (.int .i64 z) by simp)
    have Y1 := Lib.hid (show Cd.int.ow (w9.alloc (.cells #[.int .i64 z] 3)) w.heap.size [.int .i64 z] z [] from ⟨rfl, HZB.out, rfl⟩)
    have hcl := HL7.out
    have hcl2 : cur.length + 1 ≤ 1000000000000 := by omega
    go_wp2_with (at_builtin; refine Cd.wpList_appendE (c := Cd.int) rfl rfl (.tmp 17) (.tmp 21) 24 rfl w.heap.size 3 (.int .i64 0) 8 Try.underlying24 info_i64 rfl (by decide) _ cur f7 rfl HA2.out.ow HA2.out.nd _ _ rfl C1.out _ _ Y1.out (by simp) (by simp) hcl2 HA2.out.bl.size ?_)
    intro g3 c3 wa f3 ho3 hn3 hs3 ht3
    have HS3 := Lib.hid (HA2.out.app ho3 hn3 ht3)
    clear ho3 hn3 hs3 ht3
    go_wp2_with fail
    go_ret
    exact ⟨_, cur ++ [z], f3, rfl, by rw [List.length_append]; simp only [List.length_cons, List.length_nil]; omega, by first | exact HS3.out | (have h := HS3.out; simpa using h)⟩
end Go.Proofs.Ytklamhnecncenaa.DegDraw
