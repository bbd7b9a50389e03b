/- Degree sequences: drawn: columns, sequences, a table with columns. -/
import Derived.Test.YtklamhnecncenaaDegSpec5
import Derived.Test.YtklamhnecncenaaDegImp1
import Derived.Test.YtklamhnecncenaaTabDraw2
import Derived.Test.YtklamhnecncenaaRegH
namespace Go.Proofs.Ytklamhnecncenaa.DegDraw
open Go Go.RowKit Byt Ints IntsLaw Draw LocDraw Cd Rows2 Tab TabSpec Exact DegMath DegSpec TabDraw

/-- The cursor and its bytes. -/
def CR (w : World) (c : Nat) (v : Value) (l : List UInt8) (B : Nat) : Prop := Cur w c v l ∧ Reads w v l B ∧ B ≤ c
theorem CR.keep {w w' : World} {c : Nat} {v : Value} {l : List UInt8} {B : Nat} {fp : List Nat} (h : CR w c v l B) (ht : Cd.Touch fp w w') (hc : c ∉ fp) (hfp : ∀ b ∈ fp, B ≤ b) : CR w' c v l B := by
  obtain ⟨h1, h2, h3⟩ := h
  have hlt := cur_size h1
  refine ⟨?_, h2.later ⟨ht.os, ht.tape, ht.output, ht.size, fun k hk => ht.block k (by omega) (fun q => by have := hfp k q; omega)⟩, h3⟩
  obtain ⟨i, x, hi, hh⟩ := h1
  exact ⟨i, x, hi, by rw [ht.block c hlt hc]; exact hh⟩
theorem CR.later {w w' : World} {c : Nat} {v : Value} {l : List UInt8} {B : Nat} (h : CR w c v l B) (hb : Below w.heap.size w w') : CR w' c v l B :=
  h.keep (fp := []) (Cd.Touch.of_below hb) (by simp) (fun b hb => by cases hb)
theorem CR.lt {w : World} {c : Nat} {v : Value} {l : List UInt8} {B : Nat} (h : CR w c v l B) : c < w.heap.size := cur_size h.1
theorem touch_of {w w' : World} {c : Nat} (h : w.grownBy w' (some c)) : Cd.Touch [c] w w' := ⟨h.os, h.tape, h.output, h.size, fun k hk hn => h.block k hk (by simpa using hn)⟩
theorem CR.after {w w' : World} {c : Nat} {v : Value} {l : List UInt8} {B : Nat} (h : CR w c v l B) (hc : Cur w' c v l) (hg : w.grownBy w' (some c)) : CR w' c v l B := by
  obtain ⟨h1, h2, h3⟩ := h
  exact ⟨hc, h2.later (below_of hg h3 (cur_size h1)), h3⟩
theorem below_cr (n : Int) (c : Nat) (v : Value) (l : List UInt8) (B : Nat) (w : World) (h : CR w c v l B) :
    Calls Try.prog 79 #[.pointer (some ⟨c, 0, none⟩), .int .i64 n] w fun e w' => ∃ x : Int, e = .returned (.int .i64 x) ∧ 0 ≤ x ∧ (0 < n → x < n) ∧ CR w' c v l B ∧ Cd.Touch [c] w w' := by
  refine (below_any n c v l B w h.1 h.2.1 h.2.2).mono ?_
  rintro e w' ⟨x, rfl, h1, h2, h3, h4⟩
  exact ⟨x, rfl, h1, h2, h.after h3 h4, touch_of h4⟩
theorem once_cr (n : Int) (c : Nat) (v : Value) (l : List UInt8) (B : Nat) (w : World) (h : CR w c v l B) :
    Calls Try.prog 77 #[.pointer (some ⟨c, 0, none⟩), .int .i64 n] w fun e w' => ∃ b : Bool, e = .returned (.bool b) ∧ CR w' c v l B ∧ Cd.Touch [c] w w' := by
  refine (LocDraw.once_anyI n c v l B w h.1 h.2.1 h.2.2).mono ?_
  rintro e w' ⟨x, rfl, h3, h4⟩
  exact ⟨x, rfl, h.after h3 h4, touch_of h4⟩
theorem pickI_cr (zs : List Int) (b : Nat) (hzl : 0 < zs.length) (hz64 : zs.length ≤ 100000) (c : Nat) (v : Value) (l : List UInt8) (B : Nat) (w : World) (h : CR w c v l B)
    (hbc : b ≠ c) (hzs : ∀ t, t < zs.length → w.cell? ⟨b, t, none⟩ = some (.int .i64 (zs.getD t 0))) :
    Calls Try.prog 78 #[.pointer (some ⟨c, 0, none⟩), .slice (some ⟨b, 0, none⟩) zs.length zs.length] w fun e w' => ∃ x, x ∈ zs ∧ e = .returned (.int .i64 x) ∧ CR w' c v l B ∧ Cd.Touch [c] w w' := by
  refine (pick_any zs b hzl hz64 c v l B w h.1 h.2.1 h.2.2 hbc hzs).mono ?_
  rintro e w' ⟨t, ht, rfl, h3, h4⟩
  exact ⟨_, by rw [List.getD_eq_getElem?_getD, List.getElem?_eq_getElem ht]; exact List.getElem_mem ht, rfl, h.after h3 h4, touch_of h4⟩
theorem touch_new {c : Nat} {w a b : World} {fp : List Nat} (h : Cd.Touch [c] w a) (k : Cd.Touch fp a b) (hf : ∀ q ∈ fp, w.heap.size ≤ q) : Cd.Touch [c] w b :=
  ⟨k.os.trans h.os, k.tape.trans h.tape, k.output.trans h.output, Nat.le_trans h.size k.size, fun i hi hn => (k.block i (Nat.lt_of_lt_of_le hi h.size) (fun q => by have := hf i q; omega)).trans (h.block i hi hn)⟩
theorem touch_below {c : Nat} {w a b : World} (h : Cd.Touch [c] w a) (k : Below a.heap.size a b) : Cd.Touch [c] w b := h.trans (Cd.Touch.of_below k)
/-- A list that is being drawn, with the cursor. -/
structure SetS (w : World) (c : Nat) (v : Value) (l : List UInt8) (B : Nat) (u : Value) (cur : List Int) (fp : List Nat) (W : World) : Prop where
  ow : rowC.ow W w.heap.size [u] cur fp
  nd : fp.Nodup
  cr : CR W c v l B
  cb : c < w.heap.size
  bl : Cd.Touch [c] w W
section
variable {w : World} {c : Nat} {v : Value} {l : List UInt8} {B : Nat} {u u' : Value} {cur : List Int} {fp f' : List Nat} {W W' : World}
theorem SetS.call (h : SetS w c v l B u cur fp W) (hc : CR W' c v l B) (ht : Cd.Touch [c] W W') : SetS w c v l B u cur fp W' :=
  ⟨Cd.ow_touched h.ow ht (fun b hb q => by have h1 := (rowC.ow_lt h.ow b hb).1; have h2 := h.cb; rw [List.mem_singleton.1 q] at h1; omega), h.nd, hc, h.cb, h.bl.trans ht⟩
theorem SetS.grow (h : SetS w c v l B u cur fp W) (hb : Below W.heap.size W W') : SetS w c v l B u cur fp W' :=
  ⟨Cd.ow_later h.ow hb, h.nd, h.cr.later hb, h.cb, touch_below h.bl hb⟩
theorem SetS.app (h : SetS w c v l B u cur fp W) {cur' : List Int} (ho : rowC.ow W' w.heap.size [u'] cur' f') (hn : f'.Nodup) (ht : Cd.Touch fp W W') : SetS w c v l B u' cur' f' W' :=
  ⟨ho, hn, h.cr.keep ht (fun q => by have := (rowC.ow_lt h.ow _ q).1; have := h.cb; omega) (fun b hb => by have := (rowC.ow_lt h.ow b hb).1; have := h.cb; have := h.cr.2.2; omega), h.cb, touch_new h.bl ht fun q hq => (rowC.ow_lt h.ow q hq).1⟩
end
def zz4 : List Int := [-1, 0, 3, 9223372036854775807]
theorem zz4_ok : ∀ x ∈ zz4, -9223372036854775808 ≤ x ∧ x ≤ 9223372036854775807 := by decide
def zz5 : List Int := [0, 1, 9, -1, 9223372036854775807]
theorem zz5_ok : ∀ x ∈ zz5, -9223372036854775808 ≤ x ∧ x ≤ 9223372036854775807 := by decide
def vv3 : List Int := [2, 3, 5]
theorem vv3_ok : ∀ x ∈ vv3, 0 < x ∧ x ≤ 6 := by decide

set_option maxRecDepth 100000 in
set_option maxHeartbeats 1600000 in
theorem set_any (n : Nat) (hn3 : n ≤ 3) (c : Nat) (v : Value) (l : List UInt8) (B : Nat) (w : World) (h : CR w c v l B) :
    Calls Try.prog 120 #[.pointer (some ⟨c, 0, none⟩), .int .i64 n] w fun e w' => ∃ u cur fp, e = .returned u ∧ cur.length ≤ 4 ∧ SetS w c v l B u cur fp w' := by
  have HS0 := Lib.hid (show SetS w c v l B (.slice (some ⟨w.heap.size, 0, none⟩) 0 0) [] [w.heap.size] (w.alloc (.cells #[] 3)) from
    ⟨Cd.ow_empty (e := 3) (c := Cd.int) w w.heap.size (Nat.le_refl _), by simp, h.later (below_alloc w _), h.lt, Cd.Touch.of_below (below_alloc w _)⟩)
  clear h
  go_enter Try.func120, Try.ntmps120
  go_wp2_with fail
  go_loopw [5, 6] (fun o i wr => ∃ (k : Nat) (cur : List Int) (fp : List Nat), k ≤ n ∧ i = .int .i64 k ∧ cur.length ≤ k ∧ SetS w c v l B o cur fp wr) (fun _ i _ => n - (intOf i).toNat)
  case atStart => exact ⟨0, [], _, Nat.zero_le _, rfl, Nat.le_refl _, HS0.out⟩
  case round =>
    obtain ⟨k, cur, fp, hk, rfl, hcl, hs⟩ := hrel
    obtain ⟨ao, co, rfl⟩ := Cd.ow_slice (c := Cd.int) hs.ow
    have HS := Lib.hid hs
    have HCL := Lib.hid hcl
    clear hs hcl
    by_cases hlt : k < n
    · have HON := Lib.hid (once_cr 2 c v l B wr HS.out.cr)
      go_wp2_with fail
      refine HON.out.mono ?_
      rintro e w1 ⟨b, rfl, hc1, ht1⟩
      have HS1 := Lib.hid (HS.out.call hc1 ht1)
      clear hc1 ht1 HS HON
      cases b
      · go_wp2_with fail
        go_roundw
        case rel => exact ⟨k + 1, cur, fp, by omega, by go_num, by have := HCL.out; omega, HS1.out⟩
        case measure => simp [intOf]; omega
      · have HA := Lib.hid (HS1.out.grow (below_alloc w1 (.cells #[.int .i64 (k : Int)] 3)))
        have C1 := Lib.hid (show (w1.alloc (.cells #[.int .i64 (k : Int)] 3)).cell? ⟨w1.heap.size, 0, none⟩ = some (.int .i64 (k : Int)) by simp)
        have Y1 := Lib.hid (show Cd.int.ow (w1.alloc (.cells #[.int .i64 (k : Int)] 3)) w.heap.size [.int .i64 (k : Int)] (k : Int) [] from ⟨rfl, by omega, rfl⟩)
        have hcl := HCL.out
        have hcl2 : cur.length + 1 ≤ 1000000000000 := by omega
        go_wp2_with (at_builtin; refine Cd.wpList_appendE (c := Cd.int) rfl rfl (.tmp 15) (.tmp 17) 24 rfl w.heap.size 3 (.int .i64 0) 8 Try.underlying24 info_i64 rfl (by decide) _ cur fp rfl HA.out.ow HA.out.nd _ _ rfl C1.out _ _ Y1.out (by simp) (by simp) hcl2 HA.out.bl.size ?_)
        intro g2 c2 w2 f2 ho2 hn2 hs2 ht2
        have HS2 := Lib.hid (HA.out.app ho2 hn2 ht2)
        clear ho2 hn2 hs2 ht2
        go_wp2_with fail
        go_roundw
        case rel => exact ⟨k + 1, cur ++ [(k : Int)], f2, by omega, by go_num, by rw [List.length_append]; simp only [List.length_cons, List.length_nil]; omega, HS2.out⟩
        case measure => simp [intOf]; omega
    · have ek : k = n := by omega
      have HON := Lib.hid (once_cr 12 c v l B wr HS.out.cr)
      clear ek
      go_wp2_with fail
      refine HON.out.mono ?_
      rintro e w1 ⟨b, rfl, hc1, ht1⟩
      have HS1 := Lib.hid (HS.out.call hc1 ht1)
      clear hc1 ht1 HS HON
      cases b
      · go_wp2_with fail
        go_ret
        exact ⟨_, cur, fp, rfl, by have := HCL.out; omega, HS1.out⟩
      · have HA := Lib.hid (HS1.out.grow (below_alloc w1 (.cells (zz4.map fun z => Value.int .i64 z).toArray 3)))
        have HPK := Lib.hid (pickI_cr zz4 w1.heap.size (by decide) (by decide) c v l B _ HA.out.cr (by have := HS1.out.cr.lt; omega) (list_cellsI zz4 w1 3))
        clear HS1
        go_wp2_with fail
        refine HPK.out.mono ?_
        rintro e w2 ⟨x, hx, rfl, hc2, ht2⟩
        have HS2 := Lib.hid (HA.out.call hc2 ht2)
        have HXB := Lib.hid (zz4_ok x hx)
        clear hx hc2 ht2 HA HPK
        have HA2 := Lib.hid (HS2.out.grow (below_alloc w2 (.cells #[.int .i64 x] 3)))
        have C1 := Lib.hid (show (w2.alloc (.cells #[.int .i64 x] 3)).cell? ⟨w2.heap.size, 0, none⟩ = some (.int .i64 x) by simp)
        have Y1 := Lib.hid (show Cd.int.ow (w2.alloc (.cells #[.int .i64 x] 3)) w.heap.size [.int .i64 x] x [] from ⟨rfl, HXB.out, rfl⟩)
        have hcl := HCL.out
        have hcl2 : cur.length + 1 ≤ 1000000000000 := by omega
        go_wp2_with (at_builtin; refine Cd.wpList_appendE (c := Cd.int) rfl rfl (.tmp 21) (.tmp 25) 24 rfl w.heap.size 3 (.int .i64 0) 8 Try.underlying24 info_i64 rfl (by decide) _ cur fp rfl HA2.out.ow HA2.out.nd _ _ rfl C1.out _ _ Y1.out (by simp) (by simp) hcl2 HA2.out.bl.size ?_)
        intro g3 c3 w3 f3 ho3 hn3 hs3 ht3
        have HS3 := Lib.hid (HA2.out.app ho3 hn3 ht3)
        clear ho3 hn3 hs3 ht3
        go_wp2_with fail
        go_ret
        exact ⟨_, cur ++ [x], f3, rfl, by rw [List.length_append]; simp only [List.length_cons, List.length_nil]; omega, by first | exact HS3.out | (have h := HS3.out; simpa using h)⟩
end Go.Proofs.Ytklamhnecncenaa.DegDraw
