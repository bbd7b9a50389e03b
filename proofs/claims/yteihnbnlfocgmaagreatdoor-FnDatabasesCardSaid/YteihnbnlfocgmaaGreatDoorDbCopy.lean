/- Databases: the model's copy. -/
import Derived.Test.YteihnbnlfocgmaaGreatDoorDbSpec
import Derived.Test.YteihnbnlfocgmaaGreatDoorTabCopy
namespace Go.Proofs.YteihnbnlfocgmaaGreatDoor.DbSpec
open Go Go.RowKit Byt Ints IntsLaw Cd Rows2 Tab SlMath TabOpen TabElem SlTable Db TabSpec

theorem copy_elem (us : List Value) (T : T3) (S : Nat → Prop) (w : World) (hu : tabC.rd w S us T) (hw : wtT T ≤ 1073741824) :
    Calls Tryz.prog 32 #[.agg us.toArray] w fun e w' => ∃ a c fp, e = .returned (.agg #[.string T.1, .int .i64 T.2.1, .slice a T.2.2.length c]) ∧ tabC.ow w' w.heap.size [.string T.1, .int .i64 T.2.1, .slice a T.2.2.length c] T fp ∧ fp.Nodup ∧ Below w.heap.size w w' := by
  obtain ⟨u, rfl, h1, h2, h3⟩ := tab_cells hu
  refine (spec_copy T.1 T.2.1 u T.2.2 S w h3 (by unfold wtT tabWt at hw; omega)).mono ?_
  rintro e w' ⟨u', fp, rfl, how, hnd, hb⟩
  obtain ⟨a, c, rfl⟩ := Cd.ow_slice how
  exact ⟨a, c, fp, rfl, tab_ow how h1 h2, hnd, hb⟩
theorem at3 {w : World} {b : Nat} {x y z : Value} {e : TypeId} (h : w.heap[b]? = some (.cells #[x, y, z] e (0, 0))) : Cd.At w b 0 [x, y, z] := fun j hj => by
  obtain ⟨h0, h1, h2, _⟩ := row3 h
  match j, hj with
  | 0, _ => exact h0
  | 1, _ => exact h1
  | 2, _ => exact h2
set_option maxRecDepth 100000 in
set_option maxHeartbeats 1600000 in
theorem spec_dbcopy (u : Value) (l : List T3) (S : Nat → Prop) (w : World) (h1 : tabsC.rd w S [u] l) (hw : wtS l ≤ 1000000000) :
    Calls Tryz.prog 31 #[.agg #[u]] w fun e w' => ∃ u' fp, e = .returned (.agg #[u']) ∧ tabsC.ow w' w.heap.size [u'] l fp ∧ fp.Nodup ∧ Below w.heap.size w w' := by
  have HR1 := Lib.hid (fun w' (hb : Below w.heap.size w w') => Cd.later h1 hb)
  have HW := Lib.hid hw
  obtain ⟨a1, cap1, rfl, hl1⟩ := Cd.sl_form h1
  clear h1 hw
  go_enter Tryz.func31, Tryz.ntmps31
  go_wp2_with fail
  generalize hW : ((w.alloc _).alloc _).alloc _ = W
  obtain ⟨r0, r1, r2, hz, hb0⟩ := start3 w _ _ _ hW
  have HC0 := Lib.hid (row1 r0)
  have HC1 := Lib.hid (row1 r1)
  have HC2 := Lib.hid (row1 r2)
  have c2 := (row1 r2).1
  have HZ := Lib.hid hz
  have HB0 := Lib.hid hb0
  clear hW r0 r1 r2 hz hb0
  go_loopw [4] (fun i wr => ∃ (k : Nat) (o : Value) (fp : List Nat), k ≤ l.length ∧ i = .int .i64 k ∧ tabsC.ow wr W.heap.size [o] (l.take k) fp ∧ fp.Nodup ∧ wr.cell? ⟨w.heap.size, 0, none⟩ = some (.slice a1 l.length cap1) ∧ wr.cell? ⟨w.heap.size + 1, 0, none⟩ = some (.slice none 0 0) ∧ wr.frozen? ⟨w.heap.size + 1, 0, none⟩ = false ∧ wr.cell? ⟨w.heap.size + 2, 0, none⟩ = some o ∧ wr.frozen? ⟨w.heap.size + 2, 0, none⟩ = false ∧ W.heap.size ≤ wr.heap.size ∧ Below w.heap.size w wr) (fun i _ => l.length - (intOf i).toNat)
  case atStart => exact ⟨0, .slice none 0 0, [], Nat.zero_le _, rfl, Cd.ow_nil _ _, by simp, HC0.out.1, HC1.out.1, HC1.out.2, HC2.out.1, HC2.out.2, Nat.le_refl _, HB0.out⟩
  case round =>
    obtain ⟨k, o, fp, hk, rfl, how, hnd, x0, x1, y1, x2, y2, hwr, hb⟩ := hrel
    obtain ⟨ao, co, rfl⟩ := Cd.ow_slice (c := tabC) how
    have HOW := Lib.hid how
    have HND := Lib.hid hnd
    have HB := Lib.hid hb
    clear c2 how hnd
    by_cases hlt : k < l.length
    · obtain ⟨b, off, cap', us, e1, _, hbB, hat, hu⟩ := Cd.sl_at (HR1.out wr HB.out) hlt
      injection e1 with e1 e2 e3
      subst e1 e3
      obtain ⟨x, y, z, rfl⟩ := len_list (tabC.len hu)
      have p0 := hat 0 (by simp)
      have p1 := hat 1 (by simp)
      have p2 := hat 2 (by simp)
      simp only [List.getElem_cons_zero, List.getElem_cons_succ, Nat.add_zero, show tabC.n = 3 from rfl] at p0 p1 p2
      have HCP := Lib.hid (copy_elem [x, y, z] l[k] _ wr hu (by have := sumN_mem wtT hlt; have := HW.out; unfold wtS at this; omega))
      have i1 : (0 : Int) ≤ (k : Int) := by omega
      have i2 : (k : Int) < (l.length : Int) := by omega
      have HX := Lib.hid (And.intro x0 (And.intro (And.intro x1 y1) (And.intro x2 y2)))
      have HWR := Lib.hid hwr
      have HTK := Lib.hid (show l.take (k + 1) = l.take k ++ [l[k]] from List.take_succ_eq_append_getElem hlt)
      have HKL := Lib.hid (show k = (l.take k).length by rw [List.length_take]; omega)
      have HLL := Lib.hid (show (l.take k).length + 1 ≤ 1000000000 by rw [List.length_take]; have := HW.out; unfold wtS at this; omega)
      have HLW := Lib.hid (show w.heap.size + 2 < W.heap.size by have := HZ.out; omega)
      clear hu hat e2 hb
      generalize l[k] = T at *
      generalize l.take k = cur at *
      go_wp2_with fail
      refine HCP.out.mono ?_
      rintro e w2 ⟨a2, c2, f2, rfl, ho2, hn2, hb2⟩
      have hs2 := hb2.size
      have d0 := (hb2.cell (World.block_lt_of_cell? wr _ HX.out.1)).trans HX.out.1
      have d2 : w2.cell? ⟨w.heap.size + 1 + 1, 0, none⟩ = some (.slice ao cur.length co) := (hb2.cell (World.block_lt_of_cell? wr _ HX.out.2.2.1)).trans HX.out.2.2.1
      have dl : w.heap.size + 1 + 1 < w2.heap.size := by have := HLW.out; have := HWR.out; omega
      have hbA := below_then (below_alloc w2 (.cells #[.string T.1, .int .i64 T.2.1, .slice a2 T.2.2.length c2] 29 (0, 0))) (below_alloc (w2.alloc (.cells #[.string T.1, .int .i64 T.2.1, .slice a2 T.2.2.length c2] 29 (0, 0))) (.cells #[.string T.1, .int .i64 T.2.1, .slice a2 T.2.2.length c2] 29 (0, 0)))
      have HOW3 := Lib.hid (Cd.ow_later (Cd.ow_later HOW.out hb2) hbA)
      have HOT := Lib.hid (tabC.ow_base (Cd.ow_later ho2 hbA) HWR.out)
      have HAT := Lib.hid (at3 (w := (w2.alloc (.cells #[.string T.1, .int .i64 T.2.1, .slice a2 T.2.2.length c2] 29 (0, 0))).alloc (.cells #[.string T.1, .int .i64 T.2.1, .slice a2 T.2.2.length c2] 29 (0, 0))) (b := w2.heap.size + 1) (by have := row_alloc (w2.alloc (.cells #[.string T.1, .int .i64 T.2.1, .slice a2 T.2.2.length c2] 29 (0, 0))) (.cells #[.string T.1, .int .i64 T.2.1, .slice a2 T.2.2.length c2] 29 (0, 0)); rw [size_alloc] at this; exact this))
      have HFAR := Lib.hid (show ∀ b ∈ f2, b ∉ fp from fun b hb q => by
        have h1 := (tabC.ow_lt ho2 b hb).1
        have h2 := ((Cd.sl _ tabC).ow_lt HOW.out b q).2
        omega)
      have HBS := Lib.hid (show W.heap.size ≤ ((w2.alloc (.cells #[.string T.1, .int .i64 T.2.1, .slice a2 T.2.2.length c2] 29 (0, 0))).alloc (.cells #[.string T.1, .int .i64 T.2.1, .slice a2 T.2.2.length c2] 29 (0, 0))).heap.size by rw [size_alloc, size_alloc]; have := HWR.out; omega)
      have HFP := Lib.hid (show ∀ b ∈ fp, W.heap.size ≤ b from fun b hb => ((Cd.sl _ tabC).ow_lt HOW.out b hb).1)
      have HB3 := Lib.hid (below_then (below_then HB.out hb2) hbA)
      have HX3 := Lib.hid (And.intro (hbA.cell (World.block_lt_of_cell? w2 _ d0) |>.trans d0) (And.intro ((hbA.cell (World.block_lt_of_cell? w2 _ d2)).trans d2) (And.intro ((hbA.cell (World.block_lt_of_cell? w2 _ ((hb2.cell (World.block_lt_of_cell? wr _ HX.out.2.1.1)).trans HX.out.2.1.1))).trans ((hb2.cell (World.block_lt_of_cell? wr _ HX.out.2.1.1)).trans HX.out.2.1.1)) (And.intro (((World.frozen?_of_block (hbA.block _ (by show w.heap.size + 1 < w2.heap.size; omega))).trans (World.frozen?_of_block (hb2.block _ (World.block_lt_of_cell? wr _ HX.out.2.1.1)))).trans HX.out.2.1.2) (((World.frozen?_of_block (hbA.block _ (by show w.heap.size + 2 < w2.heap.size; omega))).trans (World.frozen?_of_block (hb2.block _ (World.block_lt_of_cell? wr _ HX.out.2.2.1)))).trans HX.out.2.2.2)))))
      have HN2 := Lib.hid hn2
      clear ho2 hn2 hb2 hbA x0 x1 y1 x2 y2 p0 p1 p2 hs2
      go_wp2_with (at_builtin; refine Cd.wpList_appendN (c := tabC) rfl (.tmp 21) (.tmp 23) 24 rfl W.heap.size 29 (.agg #[.string ⟨#[]⟩, .int .i64 0, .slice none 0 0]) 3 48 rfl Tryz.underlying24 info_x rfl (by decide) _ cur fp rfl HOW3.out HND.out (w2.heap.size + 1) _ rfl HAT.out T f2 HOT.out HN2.out HFAR.out HLL.out HBS.out ?_)
      intro g cap4 w4 fp4 ho4 hn4 hs4 ht4
      have hn0 : ∀ k, k < W.heap.size → k ∉ fp := fun k hk q => by have := HFP.out k q; omega
      have e0 := ht4.cell HX3.out.1 (hn0 _ (by show w.heap.size < _; have := HLW.out; omega))
      have e1 := ht4.cell HX3.out.2.2.1 (hn0 _ (by show w.heap.size + 1 < _; have := HLW.out; omega))
      have e2 : w4.cell? ⟨w.heap.size + 1 + 1, 0, none⟩ = some (.slice ao cur.length co) := ht4.cell HX3.out.2.1 (hn0 _ (by show w.heap.size + 1 + 1 < _; have := HLW.out; omega))
      have g1 : w4.frozen? ⟨w.heap.size + 1, 0, none⟩ = false := (World.frozen?_of_block (ht4.block _ (by rw [size_alloc, size_alloc]; show w.heap.size + 1 < _; omega) (hn0 _ (by show w.heap.size + 1 < _; have := HLW.out; omega)))).trans HX3.out.2.2.2.1
      have g2 : w4.frozen? ⟨w.heap.size + 1 + 1, 0, none⟩ = false := (World.frozen?_of_block (ht4.block _ (by rw [size_alloc, size_alloc]; show w.heap.size + 2 < _; omega) (hn0 _ (by show w.heap.size + 2 < _; have := HLW.out; omega)))).trans HX3.out.2.2.2.2
      have HE := Lib.hid (And.intro e0 (And.intro e1 (And.intro e2 (And.intro g1 g2))))
      have HB4 := Lib.hid (ht4.below HB3.out (fun b hb => by have := HFP.out b hb; have := HLW.out; omega))
      have HO4 := Lib.hid ho4
      have HN4 := Lib.hid hn4
      have HS4 := Lib.hid (Nat.le_trans HBS.out ht4.size)
      clear ho4 hn4 hs4 ht4 hn0 e0 e1 g1
      go_wp2_with fail
      go_roundw
      case rel =>
        have hx4 : w.heap.size + 1 + 1 ∉ fp4 := fun q => by have := ((Cd.sl _ tabC).ow_lt HO4.out _ q).1; have := HLW.out; omega
        refine ⟨k + 1, .slice (some ⟨g, 0, none⟩) (cur.length + 1) cap4, fp4, by omega, by go_num, ?_, HN4.out, ?_, ?_, ?_, ?_, ?_, ?_, ?_⟩
        · rw [HTK.out]; exact ow_setCell HO4.out hx4 _
        · exact (World.cell?_setCell_other _ _ _ _ (by simp)).trans HE.out.1
        · exact (World.cell?_setCell_other _ _ _ _ (by simp)).trans HE.out.2.1
        · simpa using HE.out.2.2.2.1
        · exact World.cell?_setCell_same _ _ _ HE.out.2.2.1
        · simpa using HE.out.2.2.2.2
        · simpa using HS4.out
        · exact HB4.out.setCell (by show _ ≤ w.heap.size + 1 + 1; omega) _
      case measure => simp [intOf]; omega
    · have ek : k = l.length := by omega
      subst ek
      have HOW1 := Lib.hid (show tabsC.ow wr W.heap.size [.slice ao l.length co] l fp by have := HOW.out; rwa [List.take_length] at this)
      have HF := Lib.hid (fun b (h : b ∈ fp) => ((Cd.sl _ tabC).ow_lt HOW1.out b h).1)
      have x2' : wr.cell? ⟨w.heap.size + 1 + 1, 0, none⟩ = some (.slice ao l.length co) := by rw [List.take_length] at x2; exact x2
      clear HOW x2
      go_wp2_with fail
      have k0 : (wr.setCell ⟨w.heap.size + 1, 0, none⟩ (.slice ao l.length co)).cell? ⟨w.heap.size + 1, 0, none⟩ = some (.slice ao l.length co) :=
        World.cell?_setCell_same _ _ _ x1
      refine bodyPost_ret (v := .agg #[.slice ao l.length co]) (by simp [results, Tryz.results31, go_sem, k0]) rfl ⟨_, fp, rfl, ?_, HND.out, ?_⟩
      · exact ow_setCell (tabsC.ow_base HOW1.out (by have := HZ.out; omega)) (fun q => by have h1 : W.heap.size ≤ w.heap.size + 1 := HF.out _ q; have := HZ.out; omega) _
      · exact HB.out.setCell (by show _ ≤ w.heap.size + 1; omega) _
end Go.Proofs.YteihnbnlfocgmaaGreatDoor.DbSpec
