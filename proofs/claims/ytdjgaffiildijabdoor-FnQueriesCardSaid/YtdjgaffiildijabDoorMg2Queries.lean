/- Texts that the proof rests on, one behind the other. -/
import Derived.Test.YtdjgaffiildijabDoorMg1Queries
import Derived.Test.YtdjgaffiildijabDoorQrySpec2
import Derived.Test.YtdjgaffiildijabDoorTabImp1
import Derived.Test.YtdjgaffiildijabDoorTabSel
import Derived.Test.YtdjgaffiildijabDoorTabSpec2
import Derived.Deep.QuietTactic

namespace Go.Proofs.YtdjgaffiildijabDoor.QryDraw
open Go Go.RowKit Byt Ints IntsLaw Cd Rows2 Tab TabSpec Exact Atom QryMath QrySpec QryImp MkAtom SlMath Draw QryPar
open TabParse (strC strsC info_str)

/-- What stays while a query is drawn for a law: the local query at X, the result's cells at w's end, the cursor behind them. -/
structure QT (w : World) (c : Nat) (v : Value) (l : List UInt8) (B X : Nat) (n : Int) (u : Value) (L : List A2) (fp : List Nat) (wx : World) : Prop where
  lx : Loc2 wx X (.int .i64 n) u
  lr : ∃ a b, Loc2 wx w.heap.size a b
  ow : atomsC.ow wx (c + 1) [u] L fp
  cu : CR wx c v l B
  cb : w.heap.size < c
  bb : B ≤ w.heap.size
  xb : c < X
  bl : Below w.heap.size w wx
section
variable {w : World} {c : Nat} {v : Value} {l : List UInt8} {B X : Nat} {n : Int} {u : Value} {L : List A2} {fp : List Nat} {W W' : World}
theorem QT.later (h : QT w c v l B X n u L fp W) (hb : Below W.heap.size W W') : QT w c v l B X n u L fp W' := by
  obtain ⟨a, b, hr⟩ := h.lr
  exact ⟨h.lx.later hb, ⟨a, b, hr.later hb⟩, Cd.ow_later h.ow hb, h.cu.later hb, h.cb, h.bb, h.xb, below_then h.bl hb⟩
theorem QT.drew (h : QT w c v l B X n u L fp W) : QT w c v l B X n u L fp W.drew := h.later ⟨rfl, rfl, rfl, Nat.le_refl _, fun _ _ => rfl⟩
theorem QT.alloc (h : QT w c v l B X n u L fp W) (o : Obj) : QT w c v l B X n u L fp (W.alloc o) := h.later (below_alloc W o)
theorem QT.grown (h : QT w c v l B X n u L fp W) (ht : Cd.Touch [c] W W') (hc : CR W' c v l B) : QT w c v l B X n u L fp W' := by
  obtain ⟨a, b, hr⟩ := h.lr
  have h1 := h.cb
  have h2 := h.xb
  exact ⟨h.lx.touched ht (by simp; omega), ⟨a, b, hr.touched ht (by simp; omega)⟩, Cd.ow_touched h.ow ht (fun b hb q => by rw [List.mem_singleton.1 q] at hb; have := (atomsC.ow_lt h.ow _ hb).1; omega), hc, h.cb, h.bb, h.xb, Cd.Touch.below h.bl ht (fun b hb => by rw [List.mem_singleton.1 hb]; omega)⟩
/-- The result's cells are stored. -/
theorem QT.setR (h : QT w c v l B X n u L fp W) (x y : Value) : QT w c v l B X n u L fp ((W.setCell ⟨w.heap.size, 0, none⟩ x).setCell ⟨w.heap.size, 1, none⟩ y) := by
  obtain ⟨a, b, hr⟩ := h.lr
  have h1 := h.cb
  have h2 := h.xb
  have h3 := h.bb
  have hf : w.heap.size ∉ fp := fun q => by have := (atomsC.ow_lt h.ow _ q).1; omega
  refine ⟨(h.lx.set_far (by show w.heap.size ≠ X; omega) _).set_far (by show w.heap.size ≠ X; omega) _, ⟨x, y, ?_⟩, ow_setCell (ow_setCell h.ow hf _) hf _, (h.cu.keep (touch_set _) (by simp; omega) (fun b hb => by rw [List.mem_singleton.1 hb]; omega)).keep (touch_set _) (by simp; omega) (fun b hb => by rw [List.mem_singleton.1 hb]; omega), h.cb, h.bb, h.xb, (h.bl.setCell (Nat.le_refl _) _).setCell (Nat.le_refl _) _⟩
  exact loc2_set1 (loc2_set0 hr x) y
theorem QT.all (h : QT w c v l B X n u L fp W) : W.cell? ⟨X, 0, none⟩ = some (.int .i64 n) ∧ W.cell? ⟨X, 1, none⟩ = some u ∧ QT w c v l B X n u L fp W := ⟨h.lx.c0, h.lx.c1, h⟩
theorem QT.rd (h : QT w c v l B X n u L fp W) : atomsC.rd W (fun b => w.heap.size ≤ b ∧ b < W.heap.size) [u] L := atomsC.mono (atomsC.ow_rd h.ow) fun b _ hb => by
  have h1 := atomsC.ow_lt h.ow b hb
  have h2 := h.cb
  exact ⟨by omega, h1.2⟩
theorem QT.fin (h : QT w c v l B X n u L fp W) (x y : Value) : ((W.setCell ⟨w.heap.size, 0, none⟩ x).setCell ⟨w.heap.size, 1, none⟩ y).cell? ⟨w.heap.size, 0, none⟩ = some x ∧ ((W.setCell ⟨w.heap.size, 0, none⟩ x).setCell ⟨w.heap.size, 1, none⟩ y).cell? ⟨w.heap.size, 1, none⟩ = some y ∧ QT w c v l B X n u L fp ((W.setCell ⟨w.heap.size, 0, none⟩ x).setCell ⟨w.heap.size, 1, none⟩ y) := by
  obtain ⟨a, b, hr⟩ := h.lr
  obtain ⟨k0, k1⟩ := set2 (w := W) (k := w.heap.size) (x := x) (y := y) hr.c0 hr.c1
  exact ⟨k0, k1, h.setR x y⟩
end
/-- A drawn query and two masks. -/
def SDrawn (w : World) (e : Ending) (w' : World) : Prop :=
  ∃ n u L a b, e = .returned (.tuple #[.agg #[.int .i64 n, u], .int .i64 a, .int .i64 b]) ∧ atomsC.rd w' (fun b => w.heap.size ≤ b ∧ b < w'.heap.size) [u] L ∧ (-9223372036854775808 ≤ n ∧ n ≤ 9223372036854775807) ∧ OkQ L ∧ (-1 ≤ a ∧ a ≤ 17) ∧ (-1 ≤ b ∧ b ≤ 17) ∧ Below w.heap.size w w'
set_option maxRecDepth 100000 in
set_option maxHeartbeats 3200000 in
theorem draw_shared (v : Value) (l : List UInt8) (w : World) (hr : Reads w v l w.heap.size) :
    Calls Tryd.prog 28 #[v] w (SDrawn w) := by
  have HR := Lib.hid (fun w' (hb : Below w.heap.size w w') => hr.later hb)
  have HN := Lib.hid (fun B w' (hr : Reads w' v l B) => new_any v l B w' hr)
  clear hr
  go_enter Tryd.func28, Tryd.ntmps28
  go_wp2_with fail
  generalize hW : w.alloc _ = W0
  obtain ⟨r0, hz, hb0⟩ := start1 w _ hW
  clear hW
  refine (HN.out _ W0 (HR.out _ hb0)).mono ?_
  rintro e w1 ⟨rfl, hc1, hg1⟩
  have hb1 : Below W0.heap.size W0 w1 := ⟨hg1.os, hg1.tape, hg1.output, hg1.size, fun k hk => hg1.block k hk (by simp)⟩
  have HB1 := Lib.hid (below_then hb0 hb1)
  have HL1 := Lib.hid ((Loc2.of r0).later hb1)
  have hlt1 := cur_size hc1
  have HC1 := Lib.hid (show CR w1 W0.heap.size v l w.heap.size from ⟨hc1, HR.out _ HB1.out, by omega⟩)
  have hcw : w.heap.size < W0.heap.size := by omega
  obtain ⟨c, hcc⟩ : ∃ c, W0.heap.size = c := ⟨_, rfl⟩
  rw [hcc] at HC1 hcw hlt1
  rw [hcc]
  have HCW := Lib.hid hcw
  have HLT := Lib.hid hlt1
  clear r0 hz hb0 hb1 hc1 hg1 HN hcc hcw hlt1
  have HD := Lib.hid (any_any c v l w.heap.size w1 HC1.out)
  go_wp2_with fail
  refine HD.out.mono ?_
  rintro e w2 ⟨n, u, L, fp, rfl, how, _, hn, hok, hc2, ht2⟩
  obtain ⟨al, cl, rfl⟩ := Cd.ow_slice (c := atomC) how
  have hst : QT w c v l w.heap.size w2.heap.size n (.slice al L.length cl) L fp (w2.alloc (.cells #[.int .i64 n, .slice al L.length cl] 48 (0, 0))) := by
    have hA := below_alloc w2 (.cells #[.int .i64 n, .slice al L.length cl] 48 (0, 0))
    have hs2 := ht2.size
    have h1 := HLT.out
    have h2 := HCW.out
    exact ⟨Loc2.of (row_alloc _ _), ⟨_, _, (HL1.out.touched ht2 (by simp; omega)).later hA⟩, Cd.ow_later (atomsC.ow_base how (by omega)) hA, hc2.later hA, HCW.out, Nat.le_refl _, by omega, below_then (Cd.Touch.below HB1.out ht2 (fun b hb => by rw [List.mem_singleton.1 hb]; omega)) hA⟩
  have HS := Lib.hid hst
  have HOK := Lib.hid (And.intro hn hok)
  clear hst how hn hok hc2 ht2 HD HL1 HB1 HC1
  go_upto_region 3 with fail
  generalize w2.alloc _ = W2 at *
  generalize w2.heap.size = X at *
  have z0 := HS.out.lx.c0
  have z1 := HS.out.lx.c1
  obtain ⟨ra, rb, r0, r1, rf0, rf1⟩ := HS.out.lr
  have HT := Lib.hid (fun W' (h : QT w c v l w.heap.size X n (.slice al L.length cl) L fp W') => below_cr 18 c v l w.heap.size W' h.cu)
  have hs0 := HS.out.drew
  go_region_held3 (fun wx => wx.cell? ⟨X, 0, none⟩ = some (.int .i64 n) ∧ wx.cell? ⟨X, 1, none⟩ = some (.slice al L.length cl) ∧ QT w c v l w.heap.size X n (.slice al L.length cl) L fp wx)
    (exact QT.all (by first | assumption | exact QT.setR (by assumption) _ _))
    (first | (go_at_call 79; refine (HT.out _ (by assumption)).mono ?_; rintro e w5 ⟨x, rfl, hx0, hx1, hc5, ht5⟩; (have hs5 : QT w c v l w.heap.size X n (.slice al L.length cl) L fp w5 := QT.grown (by assumption) ht5 hc5); (have HXB := Lib.hid (And.intro hx0 (hx1 (by decide)))); (have y0 := hs5.lx.c0); (have y1 := hs5.lx.c1); obtain ⟨ya, yb, y2, y3, y4, y5⟩ := hs5.lr; clear hx0 hx1 hc5 ht5))
  all_goals
    rename_i wq xq hsq HXQ q0 q1 qa qb q2 q3 q4 q5 hq
    obtain ⟨k0, k1, hf⟩ := hs5.fin (.int .i64 n) (.slice al L.length cl)
    have e1 : IntKind.i64.wrap (xq - 1) = xq - 1 := by rw [IntKind.wrap_i64]; have := HXQ.out; omega
    have e2 : IntKind.i64.wrap (x - 1) = x - 1 := by rw [IntKind.wrap_i64]; have := HXB.out; omega
    go_wp2_with fail
    exact bodyPost_ret (v := .tuple #[.agg #[.int .i64 n, .slice al L.length cl], .int .i64 (xq - 1), .int .i64 (x - 1)]) (by simp [results, Tryd.results28, go_sem, k0, k1, e1, e2]) rfl ⟨n, _, L, xq - 1, x - 1, rfl, hf.rd, HOK.out.1, HOK.out.2, by have := HXQ.out; omega, by have := HXB.out; omega, hf.bl⟩
/-- A drawn atom and a drawn list of variables. -/
def ADrawn (w : World) (e : Ending) (w' : World) : Prop :=
  ∃ nm u vs sl ls, e = .returned (.tuple #[.agg #[.string nm, u], sl]) ∧ rowC.rd w' (fun b => w.heap.size ≤ b ∧ b < w'.heap.size) [u] vs ∧ vs.length ≤ 3 ∧ rowC.rd w' (fun b => w.heap.size ≤ b ∧ b < w'.heap.size) [sl] ls ∧ ls.length ≤ 4 ∧ Below w.heap.size w w'
set_option maxRecDepth 100000 in
set_option maxHeartbeats 3200000 in
theorem draw_cols (v : Value) (l : List UInt8) (w : World) (hr : Reads w v l w.heap.size) :
    Calls Tryd.prog 40 #[v] w (ADrawn w) := by
  have HR := Lib.hid (fun w' (hb : Below w.heap.size w w') => hr.later hb)
  have HN := Lib.hid (fun B w' (hr : Reads w' v l B) => new_any v l B w' hr)
  clear hr
  go_enter Tryd.func40, Tryd.ntmps40
  go_wp2_with fail
  generalize hW : w.alloc _ = W0
  obtain ⟨r0, hz, hb0⟩ := start1 w _ hW
  clear hW
  refine (HN.out _ W0 (HR.out _ hb0)).mono ?_
  rintro e w1 ⟨rfl, hc1, hg1⟩
  have hb1 : Below W0.heap.size W0 w1 := ⟨hg1.os, hg1.tape, hg1.output, hg1.size, fun k hk => hg1.block k hk (by simp)⟩
  have HB1 := Lib.hid (below_then hb0 hb1)
  have HL1 := Lib.hid ((Loc2.of r0).later hb1)
  have hlt1 := cur_size hc1
  have HC1 := Lib.hid (show CR w1 W0.heap.size v l w.heap.size from ⟨hc1, HR.out _ HB1.out, by omega⟩)
  have hcw : w.heap.size < W0.heap.size := by omega
  obtain ⟨c, hcc⟩ : ∃ c, W0.heap.size = c := ⟨_, rfl⟩
  rw [hcc] at HC1 hcw hlt1
  rw [hcc]
  have HCW := Lib.hid hcw
  have HLT := Lib.hid hlt1
  clear r0 hz hb0 hb1 hc1 hg1 HN hcc hcw hlt1
  have HD := Lib.hid (any_any c v l w.heap.size w1 HC1.out)
  go_wp2_with fail
  refine HD.out.mono ?_
  rintro e w2 ⟨n, u, L, fp, rfl, how, hnd, hn, hok, hc2, ht2⟩
  obtain ⟨g, cl, rfl, hg1, hg2, hg3⟩ := Cd.ow_form how (by have := hok.1; omega)
  have hst : QT w c v l w.heap.size w2.heap.size n (.slice (some ⟨g, 0, none⟩) L.length cl) L fp (w2.alloc (.cells #[.int .i64 n, .slice (some ⟨g, 0, none⟩) L.length cl] 48 (0, 0))) := by
    have hA := below_alloc w2 (.cells #[.int .i64 n, .slice (some ⟨g, 0, none⟩) L.length cl] 48 (0, 0))
    have hs2 := ht2.size
    have h1 := HLT.out
    have h2 := HCW.out
    exact ⟨Loc2.of (row_alloc _ _), ⟨_, _, (HL1.out.touched ht2 (by simp; omega)).later hA⟩, Cd.ow_later (atomsC.ow_base how (by omega)) hA, hc2.later hA, HCW.out, Nat.le_refl _, by omega, below_then (Cd.Touch.below HB1.out ht2 (fun b hb => by rw [List.mem_singleton.1 hb]; omega)) hA⟩
  have HS := Lib.hid hst
  have HOK := Lib.hid hok
  have HG := Lib.hid (show g < w2.heap.size + 1 ∧ c < g from ⟨by omega, by have := HLT.out; omega⟩)
  clear hst how hn hok hc2 ht2 HD HL1 HB1 HC1 hnd hg1 hg2 hg3
  go_wp2_with fail
  have HGS := Lib.hid (show g < (w2.alloc (.cells #[.int .i64 n, .slice (some ⟨g, 0, none⟩) L.length cl] 48 (0, 0))).heap.size by rw [size_alloc]; exact HG.out.1)
  have hWX : (w2.alloc (.cells #[.int .i64 n, .slice (some ⟨g, 0, none⟩) L.length cl] 48 (0, 0))).heap.size = w2.heap.size + 1 := size_alloc _ _
  generalize w2.alloc _ = W2 at *
  generalize w2.heap.size = X at *
  have hE := below_alloc W2 (.cells #[] 3)
  have HE0 := Lib.hid (show rowC.ow (W2.alloc (.cells #[] 3)) W2.heap.size [.slice (some ⟨X + 1, 0, none⟩) 0 0] [] [W2.heap.size] from by
    have h := Cd.ow_empty (e := 3) (c := Cd.int) W2 _ (Nat.le_refl _)
    rw [show X + 1 = W2.heap.size from hWX.symm]
    exact h)
  clear hWX
  go_loopw [6, 7] (fun sl nn wr => ∃ (k : Nat) (ls : List Int) (fl : List Nat), k ≤ 4 ∧ nn = .int .i64 k ∧ rowC.ow wr W2.heap.size [sl] ls fl ∧ fl.Nodup ∧ ls.length ≤ k ∧ CR wr c v l w.heap.size ∧ Cd.Touch [c] W2 wr) (fun _ nn _ => 4 - (intOf nn).toNat)
  case atStart => exact ⟨0, [], [W2.heap.size], by omega, rfl, HE0.out, by simp, by simp, HS.out.cu.later hE, Cd.Touch.of_below hE⟩
  case round =>
    obtain ⟨k, ls, fl, hk4, rfl, how, hnd, hll, hcr, ht⟩ := hrel
    have HOW := Lib.hid how
    have HND := Lib.hid hnd
    have HCR := Lib.hid hcr
    have HT := Lib.hid ht
    have HLL := Lib.hid hll
    have HFL := Lib.hid (fun b (h : b ∈ fl) => rowC.ow_lt how b h)
    clear how hnd hcr ht hll hE
    by_cases hk : k < 4
    · have k1 : (k : Int) < 4 := by omega
      have k0 : (0 : Int) ≤ (k : Int) := by omega
      have HK := Lib.hid hk
      clear hk hk4
      go_wp2_with fail
      refine (once_cr 2 c v l w.heap.size wr HCR.out).mono ?_
      rintro e wa ⟨b, rfl, hca, hta⟩
      have HOA := Lib.hid (Cd.ow_touched HOW.out hta (fun b hb q => by rw [List.mem_singleton.1 q] at hb; have h1 := (HFL.out _ hb).1; have h2 := HS.out.cu.lt; omega))
      have HCA := Lib.hid hca
      have HTA := Lib.hid (HT.out.trans hta)
      have HSA := Lib.hid hta.size
      clear hca hta HOW HCR HT
      cases b
      · go_wp2_with fail
        go_roundw
        case rel => exact ⟨k + 1, ls, fl, HK.out, by go_num, HOA.out, HND.out, by have := HLL.out; omega, HCA.out, HTA.out⟩
        case measure => have := HK.out; simp [intOf]; omega
      · obtain ⟨as_, cs_, rfl⟩ := Cd.ow_slice HOA.out
        have hAl := below_alloc wa (.cells #[.int .i64 (k : Int)] 3)
        have HAL := Lib.hid (And.intro (Cd.ow_later HOA.out hAl) (show (wa.alloc (.cells #[.int .i64 (k : Int)] 3)).cell? ⟨wa.heap.size, 0, none⟩ = some (.int .i64 (k : Int)) by simp))
        have HA3 := Lib.hid (show Cd.int.ow (wa.alloc (.cells #[.int .i64 (k : Int)] 3)) W2.heap.size [.int .i64 (k : Int)] (k : Int) [] from ⟨rfl, ⟨by omega, by omega⟩, rfl⟩)
        have HAB := Lib.hid (Nat.le_trans HTA.out.size hAl.size)
        have HCE := Lib.hid (HCA.out.later hAl)
        have HTE := Lib.hid (HTA.out.trans (Cd.Touch.of_below hAl))
        have HLEN := Lib.hid (show ls.length + 1 ≤ 1000000000000 by have := HLL.out; have := HK.out; omega)
        clear hAl
        go_wp2_with (first | (at_builtin; refine Cd.wpList_appendE (c := Cd.int) rfl rfl (.tmp 19) (.tmp 21) 57 rfl W2.heap.size 3 (.int .i64 0) 8 Tryd.underlying57 info_i64 rfl (by decide) _ _ _ rfl HAL.out.1 HND.out _ _ rfl HAL.out.2 _ _ HA3.out (by simp) (by simp) HLEN.out HAB.out ?_))
        intro g3 capn w3 fp3 ho3 hn3 hs3 ht3
        have HO3 := Lib.hid (show rowC.ow w3 W2.heap.size _ (ls ++ [(k : Int)]) _ from ho3)
        have HC3 := Lib.hid (HCE.out.keep ht3 (fun q => by have h1 := (HFL.out _ q).1; have h2 := HS.out.cu.lt; omega) (fun b hb => by have h1 := (HFL.out _ hb).1; have h2 := HS.out.cu.lt; have h3 := HS.out.cu.2.2; omega))
        have HT3 := Lib.hid (touch_old HTE.out ht3 (fun y hy => .inr (HFL.out y hy).1))
        have HN3 := Lib.hid hn3
        clear ho3 hn3 hs3 ht3
        go_wp2_with fail
        go_roundw
        case rel => exact ⟨k + 1, _, fp3, HK.out, by go_num, HO3.out, HN3.out, by rw [List.length_append]; have := HLL.out; simp only [List.length_cons, List.length_nil]; omega, HC3.out, HT3.out⟩
        case measure => have := HK.out; simp [intOf]; omega
    · have ek : k = 4 := by omega
      subst ek
      go_upto_region 9 with fail
      obtain ⟨sa, sc, rfl⟩ := Cd.ow_slice HOW.out
      have hq := (HS.out.grown HT.out HCR.out).drew
      have hgs := HGS.out
      have hgw := HG.out.2
      have hgk : wr.drew.heap[g]? = W2.heap[g]? := HT.out.block g hgs (by simp; omega)
      have hpos : 0 < L.length := by have := HOK.out.1; omega
      refine wp_region_held_drew (S := fun wx => Loc2 wx X (.int .i64 n) (.slice (some ⟨g, 0, none⟩) L.length cl) ∧ wx.heap[g]? = W2.heap[g]?) (by kernel_rfl) ⟨hq.lx, hgk⟩ (fun hHeld => ?_)
      refine RegH.takeH (i := 0) (v := ?_) rfl (by kernel_rfl) (by kernel_rfl) (by kernel_rfl) (fun _ _ _ h => h) (Or.inl ⟨by rfl, ?_⟩) (by assumption) ?_
      rotate_left
      · (intro wS hSw; (try dsimp only at hSw); (have s1 := hSw.1.c1); go_simp; try (with_reducible rfl))
      try simp only [Act.put, List.setIfInBounds_toArray, List.set_cons_zero, List.set_cons_succ]
      refine RegH.takeH (i := 1) (v := ?_) rfl (by kernel_rfl) (by kernel_rfl) (by kernel_rfl) (fun _ _ _ h => h) (Or.inl ⟨by rfl, ?_⟩) (by assumption) ?_
      rotate_left
      · (intro wS hSw; (try dsimp only at hSw); (have s1 := hSw.1.c1); go_simp; try (with_reducible rfl))
      try simp only [Act.put, List.setIfInBounds_toArray, List.set_cons_zero, List.set_cons_succ]
      refine RegH.takeH (i := 2) (v := ?_) rfl (by kernel_rfl) (by kernel_rfl) (by kernel_rfl) (fun _ _ _ h => h) (Or.inl ⟨by rfl, ?_⟩) (by assumption) ?_
      rotate_left
      · (intro wS hSw; (try dsimp only at hSw); (have s1 := hSw.1.c1); go_simp; try (with_reducible rfl))
      try simp only [Act.put, List.setIfInBounds_toArray, List.set_cons_zero, List.set_cons_succ]
      refine RegH.takeH (i := 3) (v := ?_) rfl (by kernel_rfl) (by kernel_rfl) (by kernel_rfl) (fun _ _ _ h => h) (Or.inl ⟨by rfl, ?_⟩) (by assumption) ?_
      rotate_left
      · (intro wS hSw; (try dsimp only at hSw); (have s1 := hSw.1.c1); go_simp; try (with_reducible rfl))
      try simp only [Act.put, List.setIfInBounds_toArray, List.set_cons_zero, List.set_cons_succ]
      refine RegH.takeH (i := 4) (v := ?_) rfl (by kernel_rfl) (by kernel_rfl) (by kernel_rfl) (fun _ _ _ h => h) (Or.inl ⟨by rfl, ?_⟩) (by assumption) ?_
      rotate_left
      · (intro wS hSw; (try dsimp only at hSw); (have s1 := hSw.1.c1); go_simp; try (with_reducible rfl))
      try simp only [Act.put, List.setIfInBounds_toArray, List.set_cons_zero, List.set_cons_succ]
      refine RegH.takeH (i := 5) (v := ?_) rfl (by kernel_rfl) (by kernel_rfl) (by kernel_rfl) (fun _ _ _ h => h) (Or.inl ⟨by rfl, ?_⟩) (by assumption) ?_
      rotate_left
      · (intro wS hSw; (try dsimp only at hSw); (have s1 := hSw.1.c1); go_simp; try (with_reducible rfl))
      try simp only [Act.put, List.setIfInBounds_toArray, List.set_cons_zero, List.set_cons_succ]
      refine RegH.takeH (i := 9) (v := ?_) rfl (by kernel_rfl) (by kernel_rfl) (by kernel_rfl) (fun _ _ _ h => h) (Or.inl ⟨by rfl, ?_⟩) (by assumption) ?_
      rotate_left
      · (intro wS hSw; (try dsimp only at hSw); go_simp; try (with_reducible rfl))
      try simp only [Act.put, List.setIfInBounds_toArray, List.set_cons_zero, List.set_cons_succ]
      refine RegH.consH (i := 6) rfl (by kernel_rfl) (fun K hK => ?_)
      go_simp
      go_at_call 79
      refine (below_cr (L.length : Int) c v l w.heap.size _ hq.cu).mono ?_
      rintro e w7 ⟨y, rfl, hy0, hy1, hc7, ht7⟩
      obtain ⟨j, rfl⟩ := Int.eq_ofNat_of_zero_le hy0
      have hj : j < L.length := by have := hy1 (by omega); omega
      replace hq := hq.grown ht7 hc7
      have HT7 := Lib.hid (HT.out.trans (show Cd.Touch [c] wr w7 from ⟨ht7.os, ht7.tape, ht7.output, ht7.size, ht7.block⟩))
      have HO7 := Lib.hid (Cd.ow_touched HOW.out (show Cd.Touch [c] wr w7 from ⟨ht7.os, ht7.tape, ht7.output, ht7.size, ht7.block⟩) (fun b hb q => by rw [List.mem_singleton.1 q] at hb; have h1 := (HFL.out _ hb).1; have h2 := HS.out.cu.lt; omega))
      have hg7 : w7.heap[g]? = W2.heap[g]? := HT7.out.block g hgs (by simp; omega)
      refine hK.out _ _ ?_ (fun hHeld => ?_)
      · exact ⟨hq.lx, hg7⟩
      clear hK K
      try simp only [Act.put, List.setIfInBounds_toArray, List.set_cons_zero, List.set_cons_succ]
      have j0 : (0 : Int) ≤ (j : Int) := by omega
      have j1 : (j : Int) < (L.length : Int) := by omega
      clear hy0 hy1 hc7 ht7
      obtain ⟨us, f, _, hat, hu, _, _, _⟩ := Cd.ow_elem HS.out.ow hj
      obtain ⟨b0, k0, rfl⟩ := shape_ow hu
      have hrow := row_of_atom hu
      have q0 := hat 0 (by simp)
      have q1 := hat 1 (by simp)
      simp only [List.getElem_cons_zero, List.getElem_cons_succ, Nat.add_zero, show atomC.n = 2 from rfl] at q0 q1
      have HRW := Lib.hid hrow
      have HVL := Lib.hid ((HOK.out.2.2 _ (List.getElem_mem hj)).2)
      clear hat hu hrow
      refine RegH.takeH (i := 7) (v := ?_) rfl (by kernel_rfl) (by kernel_rfl) (by kernel_rfl) (fun _ _ _ h => h) (Or.inl ⟨by rfl, ?_⟩) (by assumption) ?_
      rotate_left
      · (intro wS hSw; (try dsimp only at hSw); (have s1 := hSw.1.c1); (have s2 := (World.cell?_of_block (w := W2) (a := ⟨g, j * 2, none⟩) hSw.2).trans q0); (have s3 := (World.cell?_of_block (w := W2) (a := ⟨g, j * 2 + 1, none⟩) hSw.2).trans q1); go_simp; try (with_reducible rfl))
      try simp only [Act.put, List.setIfInBounds_toArray, List.set_cons_zero, List.set_cons_succ]
      refine RegH.takeH (i := 8) (v := ?_) rfl (by kernel_rfl) (by kernel_rfl) (by kernel_rfl) (fun _ _ _ h => h) (Or.inl ⟨by rfl, ?_⟩) (by assumption) ?_
      rotate_left
      · (intro wS hSw; (try dsimp only at hSw); (have s1 := hSw.1.c1); (have s2 := (World.cell?_of_block (w := W2) (a := ⟨g, j * 2, none⟩) hSw.2).trans q0); (have s3 := (World.cell?_of_block (w := W2) (a := ⟨g, j * 2 + 1, none⟩) hSw.2).trans q1); go_simp; try (with_reducible rfl))
      try simp only [Act.put, List.setIfInBounds_toArray, List.set_cons_zero, List.set_cons_succ]
      obtain ⟨ra, rb, r0, r1, rf0, rf1⟩ := hq.lr
      refine RegH.consH (i := 10) rfl (by kernel_rfl) (fun K hK => ?_)
      go_simp
      refine hK.out _ _ ?_ (fun hHeld => ?_)
      · exact ⟨(hq.setR (.string L[j].1) (.slice b0 L[j].2.length k0)).lx, (Below.heap_setCell _ _ _ g (by show g ≠ w.heap.size; have := hq.cb; omega)).trans ((Below.heap_setCell _ _ _ g (by show g ≠ w.heap.size; have := hq.cb; omega)).trans hg7)⟩
      clear hK K
      try simp only [Act.put]
      refine RegH.takeH (i := 11) (v := ?_) rfl (by kernel_rfl) (by kernel_rfl) (by kernel_rfl) (fun _ _ _ h => h) (Or.inl ⟨by rfl, ?_⟩) (by assumption) ?_
      rotate_left
      · (intro wS hSw; (try dsimp only at hSw); go_simp; try (with_reducible rfl))
      try simp only [Act.put, List.setIfInBounds_toArray, List.set_cons_zero, List.set_cons_succ]
      refine wpAnyH_done (by kernel_rfl) ?_ _
      obtain ⟨m0, m1, hf⟩ := hq.fin (.string L[j].1) (.slice b0 L[j].2.length k0)
      have hcb := hq.cb
      have hcx := hq.xb
      have HRF := Lib.hid (ow_setCell (ow_setCell (Cd.ow_touched HRW.out HT7.out (fun b hb q => by rw [List.mem_singleton.1 q] at hb; have := (rowC.ow_lt HRW.out _ hb).1; omega)) (p := ⟨w.heap.size, 0, none⟩) (fun q => by have := (rowC.ow_lt HRW.out _ q).1; simp only at this; omega) (.string L[j].1)) (p := ⟨w.heap.size, 1, none⟩) (fun q => by have := (rowC.ow_lt HRW.out _ q).1; simp only at this; omega) (.slice b0 L[j].2.length k0))
      have HLF := Lib.hid (ow_setCell (ow_setCell HO7.out (p := ⟨w.heap.size, 0, none⟩) (fun q => by have h1 := (HFL.out _ q).1; have h2 := HS.out.lx.lt; simp only at h1; omega) (.string L[j].1)) (p := ⟨w.heap.size, 1, none⟩) (fun q => by have h1 := (HFL.out _ q).1; have h2 := HS.out.lx.lt; simp only at h1; omega) (.slice b0 L[j].2.length k0))
      have HFB := Lib.hid hf.bl
      clear hf q0 q1 r0 r1 rf0 rf1
      go_wp2_with fail
      exact bodyPost_ret (v := .tuple #[.agg #[.string L[j].1, .slice b0 L[j].2.length k0], .slice sa ls.length sc]) (by simp [results, Tryd.results40, go_sem, m0, m1]) rfl ⟨L[j].1, _, L[j].2, _, ls, rfl, rowC.mono (rowC.ow_rd HRF.out) (fun b _ hb => by have h1 := rowC.ow_lt HRF.out b hb; exact ⟨by omega, h1.2⟩), HVL.out, rowC.mono (rowC.ow_rd HLF.out) (fun b _ hb => by have h1 := rowC.ow_lt HLF.out b hb; have h2 := HS.out.lx.lt; exact ⟨by omega, h1.2⟩), by have := HLL.out; omega, HFB.out⟩
end Go.Proofs.YtdjgaffiildijabDoor.QryDraw

namespace Go.Proofs.YtdjgaffiildijabDoor.QryImp
open Go Go.RowKit Byt Ints IntsLaw Cd Rows2 Tab TabSpec Exact Atom QryMath QrySpec MkAtom SlMath

theorem pow_len {k : Nat} (h : k ≤ 4) : IntKind.i64.wrap (2 ^ k) = 2 ^ k ∧ (1 : Int) ≤ 2 ^ k ∧ (2 : Int) ^ k ≤ 16 := by
  have : k = 0 ∨ k = 1 ∨ k = 2 ∨ k = 3 ∨ k = 4 := by omega
  rcases this with rfl | rfl | rfl | rfl | rfl <;> decide
theorem mOk_nat {n : Int} {l : List A2} {m : Int} (h : mOk n l m = true) : qOk n l = true ∧ l.length ≤ 4 ∧ ∃ t : Nat, m = (t : Int) ∧ t < 16 := by
  unfold mOk at h
  rw [Bool.and_eq_true, decide_eq_true_eq] at h
  have h4 := (qOk_iff.1 h.1).2.2.2.1
  obtain ⟨t, rfl⟩ := Int.eq_ofNat_of_zero_le h.2.1
  have := (pow_len h4).2.2
  exact ⟨h.1, h4, t, rfl, by omega⟩
set_option maxRecDepth 100000 in
theorem spec_mask (n m : Int) (u : Value) (l : List A2) (S : Nat → Prop) (w : World) (hr : atomsC.rd w S [u] l) :
    Calls Tryd.prog 82 #[.agg #[.int .i64 n, u], .int .i64 m] w fun e w' => e = .returned (.bool (mOk n l m)) ∧ Below w.heap.size w w' := by
  have HV := Lib.hid (fun w' (hb : Below w.heap.size w w') => spec_valid n u l S w' (Cd.later hr hb))
  obtain ⟨a, cap, rfl, hlm⟩ := Cd.sl_form hr
  clear hr
  have HC := Lib.hid (Loc2.of (row_alloc w (.cells #[.int .i64 n, .slice a l.length cap] 48)))
  have HB := Lib.hid (below_alloc w (.cells #[.int .i64 n, .slice a l.length cap] 48))
  cases hq : qOk n l
  · have HZ := Lib.hid (show mOk n l m = false by unfold mOk; rw [hq]; rfl)
    rw [hq] at HV
    clear hq
    go_enter Tryd.func82, Tryd.ntmps82
    go_wp2_with fail
    generalize w.alloc _ = W at *
    refine (HV.out _ HB.out).mono ?_
    rintro e w1 ⟨rfl, hb1⟩
    have HB1 := Lib.hid (below_then HB.out hb1)
    clear hb1
    go_wp2_with fail
    go_ret
    exact ⟨ret_b HZ.out.symm, HB1.out⟩
  rw [hq] at HV
  have h4 := (qOk_iff.1 hq).2.2.2.1
  have hpw := pow_len h4
  have hI := fun w => Fixed.l1In_any m 0 (2 ^ l.length - 1) w
  have HZ := Lib.hid (show (decide (0 ≤ m) && decide (m ≤ 2 ^ l.length - 1)) = mOk n l m by
    unfold mOk
    rw [hq, Bool.true_and, Bool.eq_iff_iff, Bool.and_eq_true, decide_eq_true_eq, decide_eq_true_eq, decide_eq_true_eq]
    omega)
  have HI := Lib.hid hI
  rw [HZ.out] at HI
  have q1 := hpw.1
  have q2 := hpw.2.1
  have q3 := hpw.2.2
  have q4 : IntKind.i64.wrap (2 ^ l.length - 1) = 2 ^ l.length - 1 := by rw [IntKind.wrap_i64]; omega
  have q5 : (l.length : Int) ≤ 64 := by omega
  have q6 : ((l.length : Int)).toNat = l.length := by omega
  clear hq hpw h4 hI
  generalize mOk n l m = z at *
  go_enter Tryd.func82, Tryd.ntmps82
  go_wp2_with fail
  generalize w.alloc _ = W at *
  refine (HV.out _ HB.out).mono ?_
  rintro e w1 ⟨rfl, hb1⟩
  have HB1 := Lib.hid (below_then HB.out hb1)
  have c0 := (HC.out.later hb1).c0
  have c1 := (HC.out.later hb1).c1
  clear hb1
  go_wp2_with (go_at_call 88; refine (HI.out _).mono ?_; rintro e w1 ⟨rfl, rfl⟩)
  go_ret
  exact ⟨rfl, HB1.out⟩
set_option maxRecDepth 100000 in
set_option maxHeartbeats 1600000 in
theorem spec_bits (n : Int) (m : Nat) (u : Value) (l : List A2) (S : Nat → Prop) (w : World) (hr : atomsC.rd w S [u] l) (hm : m < 16) (hl4 : l.length ≤ 4) (h4 : ∀ A ∈ l, In4 A.2) (h3 : ∀ A ∈ l, A.2.length ≤ 3) :
    Calls Tryd.prog 84 #[.agg #[.int .i64 n, u], .int .i64 (m : Int)] w fun e w' => e = .returned (.int .i64 (bs (selV l m l.length) : Int)) ∧ Below w.heap.size w w' := by
  have HR := Lib.hid (fun w' (hb : Below w.heap.size w w') => Cd.later hr hb)
  obtain ⟨a, cap, rfl, hlm⟩ := Cd.sl_form hr
  have H4 := Lib.hid h4
  have H3 := Lib.hid h3
  clear hr h4 h3
  go_enter Tryd.func84, Tryd.ntmps84
  go_wp2_with fail
  generalize hW : w.alloc _ = W
  obtain ⟨r0, _, hb0⟩ := start1 w _ hW
  have HC := Lib.hid (Loc2.of r0)
  have HB := Lib.hid hb0
  have HRW := Lib.hid (HR.out W hb0)
  clear hW r0 hb0
  have g1 := HC.out.c1
  go_loop [5, 6] (fun x i => ∃ k : Nat, k ≤ l.length ∧ i = .int .i64 k ∧ x = .int .i64 (bs (selV l m k) : Int)) (fun _ i => l.length - (intOf i).toNat)
  case atStart => exact ⟨0, Nat.zero_le _, rfl, rfl⟩
  case round =>
    obtain ⟨k, hk, rfl, rfl⟩ := hrel
    by_cases hlt : k < l.length
    · obtain ⟨b, off, cap', au, cu, e1, hbB, c0, c1, hs1, hu, hroom⟩ := atom_at2 HRW.out hlt
      injection e1 with e1 e2 e3
      subst e1 e3
      have p1 : (0 : Int) ≤ (k : Int) := by omega
      have p2 : (k : Int) < (l.length : Int) := by omega
      have hbit := bit_at hm k
      have p3 : (k : Int) ≤ 64 := by omega
      have p4 : ((k : Int)).toNat = k := by omega
      have HPRE := Lib.hid (selV_in4 H4.out m k hk)
      have hA4 := H4.out _ (List.getElem_mem hlt)
      have hA3 := H3.out _ (List.getElem_mem hlt)
      have HRI := Lib.hid (row_ri hu).1
      have HLT := Lib.hid hlt
      have HNY := Lib.hid (fun h => selV_yes (l := l) (m := m) hlt h)
      have HNN := Lib.hid (fun h => selV_no (l := l) (m := m) (k := k) h)
      clear hu
      generalize hA : l[k] = A at *
      generalize selV l m k = pre at *
      clear hA hroom
      by_cases hx : m / 2 ^ k % 2 = 1
      · rw [hx] at hbit
        have HNX := Lib.hid (HNY.out hx)
        clear hx
        go_wp2_with fail
        go_loop [5, 7] (fun x i => ∃ j : Nat, j ≤ A.2.length ∧ i = .int .i64 j ∧ x = .int .i64 (bs (pre ++ A.2.take j) : Int)) (fun _ i => A.2.length - (intOf i).toNat)
        case atStart => exact ⟨0, Nat.zero_le _, rfl, by simp⟩
        case round =>
          obtain ⟨j, hj, rfl, rfl⟩ := hrel
          by_cases hjl : j < A.2.length
          · obtain ⟨b2, off2, cap2, e1, hbB2, hc2⟩ := ri_at HRI.out hjl
            injection e1 with e1 e2 e3
            subst e1 e3
            have i1 : (0 : Int) ≤ (j : Int) := by omega
            have i2 : (j : Int) < (A.2.length : Int) := by omega
            have hz4 := hA4 _ (List.getElem_mem hjl)
            have hpre : In4 (pre ++ A.2.take j) := fun x hx' => by
              rcases List.mem_append.1 hx' with q | q
              · exact HPRE.out x q
              · exact hA4 x (List.mem_of_mem_take q)
            have hor := or_nat (bs_lt hpre) (pow4n hz4)
            have HNJ := Lib.hid (show bs (pre ++ A.2.take (j + 1)) = bs (pre ++ A.2.take j) ||| 2 ^ A.2[j].toNat by rw [List.take_succ_eq_append_getElem hjl, ← List.append_assoc, bs_snoc])
            clear hpre
            generalize bs (pre ++ A.2.take j) = sn at *
            generalize A.2[j] = z at *
            rcases c4 hz4 with rfl | rfl | rfl | rfl
            all_goals
              go_wp2
              go_round
              case rel => exact ⟨j + 1, by omega, by go_num, by rw [HNJ.out]; first | rfl | exact congrArg _ hor⟩
              case measure => simp [intOf]; omega
          · have ej : j = A.2.length := by omega
            subst ej
            rw [List.take_length] at *
            go_wp2
            go_round
            case rel => exact ⟨k + 1, by have := HLT.out; omega, by go_num, by rw [HNX.out]⟩
            case measure => have := HLT.out; simp [intOf]; omega
      · have hz : m / 2 ^ k % 2 = 0 := by omega
        rw [hz] at hbit
        have HNX := Lib.hid (HNN.out hx)
        clear hx hz
        go_wp2_with fail
        go_loop [5, 7] (fun x i => i = .int .i64 ((0 : Nat) : Int) ∧ x = .int .i64 (bs pre : Int)) (fun _ _ => 0)
        case atStart => exact ⟨rfl, rfl⟩
        case round =>
          obtain ⟨rfl, rfl⟩ := hrel
          by_cases hjl : (0 : Int) < (A.2.length : Int)
          · go_wp2
            go_round
            case rel => exact ⟨k + 1, by have := HLT.out; omega, by go_num, by rw [HNX.out]⟩
            case measure => have := HLT.out; simp [intOf]; omega
          · go_wp2
            go_round
            case rel => exact ⟨k + 1, by have := HLT.out; omega, by go_num, by rw [HNX.out]⟩
            case measure => have := HLT.out; simp [intOf]; omega
    · have ek : k = l.length := by omega
      subst ek
      go_wp2_with fail
      go_ret
      exact ⟨rfl, HB.out⟩
theorem mask_facts {n m : Int} {l : List A2} (h : mOk n l m = true) : ∃ t : Nat, m = (t : Int) ∧ t < 16 ∧ l.length ≤ 4 ∧ (∀ A ∈ l, In4 A.2) ∧ (∀ A ∈ l, A.2.length ≤ 3) ∧ mB n l m = bs (selV l t l.length) := by
  obtain ⟨hq, h4, t, rfl, ht⟩ := mOk_nat h
  have hp := qOk_iff.1 hq
  refine ⟨t, rfl, ht, h4, hp.in4, fun A hA => (hp.2.2.2.2.1 A hA).2.2.1, ?_⟩
  rw [mB_yes h]
  rfl
set_option maxRecDepth 100000 in
theorem spec_maskvars (n m : Int) (u : Value) (l : List A2) (S : Nat → Prop) (w : World) (hr : atomsC.rd w S [u] l) :
    Calls Tryd.prog 32 #[.agg #[.int .i64 n, u], .int .i64 m] w fun e w' => ∃ v' fp, e = .returned v' ∧ rowC.ow w' w.heap.size [v'] (varsL (mB n l m)) fp ∧ fp.Nodup ∧ Below w.heap.size w w' := by
  have HV := Lib.hid (fun w' (hb : Below w.heap.size w w') => spec_mask n m u l S w' (Cd.later hr hb))
  have HR := Lib.hid (fun w' (hb : Below w.heap.size w w') => Cd.later hr hb)
  obtain ⟨a, cap, rfl, hlm⟩ := Cd.sl_form hr
  clear hr
  have HC := Lib.hid (Loc2.of (row_alloc w (.cells #[.int .i64 n, .slice a l.length cap] 48)))
  have HB := Lib.hid (below_alloc w (.cells #[.int .i64 n, .slice a l.length cap] 48))
  cases hq : mOk n l m
  · have HZ := Lib.hid (show varsL (mB n l m) = [] by rw [mB_no hq]; exact varsL_zero)
    rw [hq] at HV
    clear hq
    go_enter Tryd.func32, Tryd.ntmps32
    go_wp2_with fail
    generalize w.alloc _ = W at *
    refine (HV.out _ HB.out).mono ?_
    rintro e w1 ⟨rfl, hb1⟩
    have HB1 := Lib.hid (below_then HB.out hb1)
    clear hb1
    have HE := Lib.hid (And.intro (Ints.OwnI.empty w1 w.heap.size 3 HB1.out.size) (below_then HB1.out (below_alloc w1 (.cells #[] 3))))
    go_wp2_with fail
    go_ret
    exact ⟨_, _, rfl, by rw [HZ.out]; exact Cd.ow_of_own HE.out.1 (fun x hx => by cases hx), Cd.own_nodup, HE.out.2⟩
  rw [hq] at HV
  obtain ⟨t, rfl, ht, hl4, h4, h3, hmb⟩ := mask_facts hq
  rw [hmb]
  have h16 : bs (selV l t l.length) < 16 := bs_lt (selV_in4 h4 _ _ (Nat.le_refl _))
  have HBI := Lib.hid (fun w' (hb : Below w.heap.size w w') => spec_bits n t (.slice a l.length cap) l S w' (HR.out w' hb) ht hl4 h4 h3)
  have HL := Lib.hid (fun w' => spec_list (bs (selV l t l.length)) w' h16)
  clear hq hmb h4 h3 h16
  generalize bs (selV l t l.length) = s at *
  go_enter Tryd.func32, Tryd.ntmps32
  go_wp2_with fail
  generalize w.alloc _ = W at *
  refine (HV.out _ HB.out).mono ?_
  rintro e w1 ⟨rfl, hb1⟩
  have HB1 := Lib.hid (below_then HB.out hb1)
  have c0 := (HC.out.later hb1).c0
  have c1 := (HC.out.later hb1).c1
  clear hb1
  go_wp2_with fail
  refine (HBI.out _ HB1.out).mono ?_
  rintro e w2 ⟨rfl, hb2⟩
  have HB2 := Lib.hid (below_then HB1.out hb2)
  clear hb2
  go_wp2_with fail
  refine (HL.out w2).mono ?_
  rintro e w3 ⟨v', fp, rfl, ho, hn, hb3⟩
  have HO := Lib.hid (And.intro (rowC.ow_base ho HB2.out.size) (And.intro hn (below_then HB2.out hb3)))
  clear ho hn hb3
  go_wp2_with fail
  go_ret
  exact ⟨_, fp, rfl, HO.out.1, HO.out.2.1, HO.out.2.2⟩
set_option maxRecDepth 100000 in
set_option maxHeartbeats 1600000 in
theorem impl_varsof (n m : Int) (u : Value) (l : List A2) (S : Nat → Prop) (w : World) (hr : atomsC.rd w S [u] l) :
    Calls Tryd.prog 81 #[.agg #[.int .i64 n, u], .int .i64 m] w fun e w' => e = .returned (.int .i64 (mB n l m : Int)) ∧ Below w.heap.size w w' := by
  have HV := Lib.hid (fun w' (hb : Below w.heap.size w w') => impl_valid n u l S w' (Cd.later hr hb))
  have HR := Lib.hid (fun w' (hb : Below w.heap.size w w') => Cd.later hr hb)
  obtain ⟨a, cap, rfl, hlm⟩ := Cd.sl_form hr
  clear hr
  have HC := Lib.hid (Loc2.of (row_alloc w (.cells #[.int .i64 n, .slice a l.length cap] 48)))
  have HB := Lib.hid (below_alloc w (.cells #[.int .i64 n, .slice a l.length cap] 48))
  cases hq : qOk n l
  · have HZ := Lib.hid (show ((mB n l m : Nat) : Int) = 0 by rw [mB_no (show mOk n l m = false by unfold mOk; rw [hq]; rfl)]; rfl)
    rw [hq] at HV
    clear hq
    go_enter Tryd.func81, Tryd.ntmps81
    go_wp2_with fail
    generalize w.alloc _ = W at *
    refine (HV.out _ HB.out).mono ?_
    rintro e w1 ⟨rfl, hb1⟩
    have HB1 := Lib.hid (below_then HB.out hb1)
    clear hb1
    go_wp2_with fail
    go_ret
    exact ⟨ret_int HZ.out.symm, HB1.out⟩
  rw [hq] at HV
  have h4 := (qOk_iff.1 hq).2.2.2.1
  have hpw := pow_len h4
  have q1 := hpw.1
  have q2 := hpw.2.1
  have q3 := hpw.2.2
  have q5 : (l.length : Int) ≤ 64 := by omega
  have q6 : ((l.length : Int)).toNat = l.length := by omega
  clear hpw
  by_cases hm : 0 ≤ m ∧ m < 2 ^ l.length
  case neg =>
    have HZ := Lib.hid (show ((mB n l m : Nat) : Int) = 0 by rw [mB_no (show mOk n l m = false by unfold mOk; rw [hq, decide_eq_false hm]; rfl)]; rfl)
    clear hq
    by_cases hm0 : m < 0
    · clear hm
      go_enter Tryd.func81, Tryd.ntmps81
      go_wp2_with fail
      generalize w.alloc _ = W at *
      refine (HV.out _ HB.out).mono ?_
      rintro e w1 ⟨rfl, hb1⟩
      have HB1 := Lib.hid (below_then HB.out hb1)
      clear hb1
      go_wp2_with fail
      go_ret
      exact ⟨ret_int HZ.out.symm, HB1.out⟩
    · have hmg : (2 : Int) ^ l.length ≤ m := by omega
      clear hm
      go_enter Tryd.func81, Tryd.ntmps81
      go_wp2_with fail
      generalize w.alloc _ = W at *
      refine (HV.out _ HB.out).mono ?_
      rintro e w1 ⟨rfl, hb1⟩
      have HB1 := Lib.hid (below_then HB.out hb1)
      have c0 := (HC.out.later hb1).c0
      have c1 := (HC.out.later hb1).c1
      clear hb1
      go_wp2_with fail
      go_ret
      exact ⟨ret_int HZ.out.symm, HB1.out⟩
  obtain ⟨t, rfl, ht, _, h44, h3, hmb⟩ := mask_facts (show mOk n l m = true by unfold mOk; rw [hq, decide_eq_true hm]; rfl)
  rw [hmb]
  have H4 := Lib.hid h44
  have m1 : ¬ ((t : Int) < 0) := by omega
  have m2 : ¬ ((2 : Int) ^ l.length ≤ (t : Int)) := by omega
  clear hq hm hmb h44 h3
  go_enter Tryd.func81, Tryd.ntmps81
  go_wp2_with fail
  generalize w.alloc _ = W at *
  refine (HV.out _ HB.out).mono ?_
  rintro e w1 ⟨rfl, hb1⟩
  have HB1 := Lib.hid (below_then HB.out hb1)
  have HC1 := Lib.hid (HC.out.later hb1)
  have c0 := HC1.out.c0
  have c1 := HC1.out.c1
  clear hb1
  go_wp2_with fail
  clear c0 c1 m1 m2 q1 q2 q3 q5 q6
  go_loopw [5, 26] (fun x i wr => ∃ k : Nat, k ≤ l.length ∧ i = .int .i64 k ∧ x = .int .i64 (bs (selV l t k) : Int) ∧ Below w1.heap.size w1 wr) (fun _ i _ => l.length - (intOf i).toNat)
  case atStart => exact ⟨0, Nat.zero_le _, rfl, rfl, Below.refl _ _⟩
  case round =>
    obtain ⟨k, hk, rfl, rfl, hbw⟩ := hrel
    have HBW := Lib.hid hbw
    by_cases hlt : k < l.length
    · obtain ⟨b, off, cap', au, cu, e1, hbB, c0, c1, hs1, hu, hroom⟩ := atom_at2 (HR.out wr (below_then HB1.out hbw)) hlt
      injection e1 with e1 e2 e3
      subst e1 e3
      have p1 : (0 : Int) ≤ (k : Int) := by omega
      have p2 : (k : Int) < (l.length : Int) := by omega
      have hbit := bit_at ht k
      have p3 : (k : Int) ≤ 64 := by omega
      have p4 : ((k : Int)).toNat = k := by omega
      have HRU := Lib.hid hu
      have HLT := Lib.hid hlt
      have hAl := below_alloc wr (.cells #[.string l[k].1, .slice au l[k].2.length cu] 66 (0, 0))
      have HB2 := Lib.hid (below_then HBW.out hAl)
      have HA4 := Lib.hid (H4.out _ (List.getElem_mem hlt))
      clear hu hbw
      by_cases hx : t / 2 ^ k % 2 = 1
      · have HNX := Lib.hid (show bs (selV l t (k + 1)) = bs (selV l t k) ||| bs l[k].2 by rw [selV_yes hlt hx, bs_app]; rfl)
        have hor := or_nat (bs_lt (selV_in4 H4.out t k hk)) (bs_lt HA4.out)
        have HBS := Lib.hid (bit_set (.slice au l[k].2.length cu) l[k].2 _ _ (row_ri (Cd.later HRU.out hAl)).1 HA4.out)
        rw [hx] at hbit
        clear hx hAl
        generalize bs (selV l t k) = s at *
        generalize bs l[k].2 = s2 at *
        go_wp2_with fail
        refine HBS.out.mono ?_
        rintro e w3 ⟨rfl, rfl⟩
        go_wp2_with fail
        go_roundw
        case rel => exact ⟨k + 1, by have := HLT.out; omega, by go_num, by rw [HNX.out], HB2.out⟩
        case measure => have := HLT.out; simp [intOf]; omega
      · have HNX := Lib.hid (show bs (selV l t (k + 1)) = bs (selV l t k) by rw [selV_no hx])
        have hz : t / 2 ^ k % 2 = 0 := by omega
        rw [hz] at hbit
        clear hx hz hAl
        generalize bs (selV l t k) = s at *
        go_wp2_with fail
        go_roundw
        case rel => exact ⟨k + 1, by have := HLT.out; omega, by go_num, by rw [HNX.out], HB2.out⟩
        case measure => have := HLT.out; simp [intOf]; omega
    · have ek : k = l.length := by omega
      subst ek
      clear hbw
      go_wp2_with fail
      go_ret
      exact ⟨rfl, below_then HB1.out HBW.out⟩
set_option maxRecDepth 100000 in
theorem impl_maskvars (n m : Int) (u : Value) (l : List A2) (S : Nat → Prop) (w : World) (hr : atomsC.rd w S [u] l) :
    Calls Tryd.prog 29 #[.agg #[.int .i64 n, u], .int .i64 m] w fun e w' => ∃ v' fp, e = .returned v' ∧ rowC.ow w' w.heap.size [v'] (varsL (mB n l m)) fp ∧ fp.Nodup ∧ Below w.heap.size w w' := by
  have HV := Lib.hid (fun w' (hb : Below w.heap.size w w') => impl_varsof n m u l S w' (Cd.later hr hb))
  have HL := Lib.hid (fun w' => impl_list (mB n l m) w' (mB_lt n l m))
  obtain ⟨a, cap, rfl, hlm⟩ := Cd.sl_form hr
  clear hr
  have HB := Lib.hid (below_alloc w (.cells #[.int .i64 n, .slice a l.length cap] 48))
  generalize mB n l m = s at *
  go_enter Tryd.func29, Tryd.ntmps29
  go_wp2_with fail
  generalize w.alloc _ = W at *
  refine (HV.out _ HB.out).mono ?_
  rintro e w1 ⟨rfl, hb1⟩
  have HB2 := Lib.hid (below_then HB.out hb1)
  clear hb1
  go_wp2_with fail
  refine (HL.out w1).mono ?_
  rintro e w3 ⟨v', fp, rfl, ho, hn, hb3⟩
  have HO := Lib.hid (And.intro (rowC.ow_base ho HB2.out.size) (And.intro hn (below_then HB2.out hb3)))
  clear ho hn hb3
  go_wp2_with fail
  go_ret
  exact ⟨_, fp, rfl, HO.out.1, HO.out.2.1, HO.out.2.2⟩
end Go.Proofs.YtdjgaffiildijabDoor.QryImp

namespace Go.Proofs.YtdjgaffiildijabDoor.QryImp
open Go Go.RowKit Byt Ints IntsLaw Cd Rows2 Tab TabSpec Exact Atom QryMath QrySpec MkAtom SlMath

def shB (n : Int) (l : List A2) (a b : Int) : Nat := mB n l a &&& mB n l b
theorem shB_lt (n : Int) (l : List A2) (a b : Int) : shB n l a b < 16 := Nat.lt_of_le_of_lt Nat.and_le_left (mB_lt n l a)
theorem filter_succ {X Y : List Int} {k : Nat} (h : k < X.length) : (X.take (k + 1)).filter (fun x => hasI Y x) = (X.take k).filter (fun x => hasI Y x) ++ (if hasI Y X[k] then [X[k]] else []) := by
  rw [List.take_succ_eq_append_getElem h, List.filter_append]
  congr 1
  simp only [List.filter_cons, List.filter_nil]
set_option maxRecDepth 100000 in
set_option maxHeartbeats 1600000 in
theorem spec_shared (n a b : Int) (u : Value) (l : List A2) (S : Nat → Prop) (w : World) (hr : atomsC.rd w S [u] l) :
    Calls Tryd.prog 33 #[.agg #[.int .i64 n, u], .int .i64 a, .int .i64 b] w fun e w' => ∃ v' fp, e = .returned v' ∧ rowC.ow w' w.heap.size [v'] (varsL (shB n l a b)) fp ∧ fp.Nodup ∧ Below w.heap.size w w' := by
  have HA := Lib.hid (fun w' (hb : Below w.heap.size w w') => spec_maskvars n a u l S w' (Cd.later hr hb))
  have HBB := Lib.hid (fun w' (hb : Below w.heap.size w w') => spec_maskvars n b u l S w' (Cd.later hr hb))
  have HZ := Lib.hid (show (varsL (mB n l a)).filter (fun x => hasI (varsL (mB n l b)) x) = varsL (shB n l a b) from vars_shared _ (mB_lt n l a) _ (mB_lt n l b))
  have HIN := Lib.hid (show InR (varsL (shB n l a b)) from inr_varsTo _ 4 (by decide))
  have hX4 : (varsL (mB n l a)).length ≤ 4 := varsTo_len _ 4
  obtain ⟨q, cap, rfl, hlm⟩ := Cd.sl_form hr
  clear hr
  generalize varsL (shB n l a b) = R at *
  generalize varsL (mB n l a) = X at *
  generalize varsL (mB n l b) = Y at *
  go_enter Tryd.func33, Tryd.ntmps33
  go_wp2_with fail
  generalize hW : w.alloc _ = W
  obtain ⟨r0, hz, hb0⟩ := start1 w _ hW
  have hE := Ints.OwnI.empty W W.heap.size 3 (Nat.le_refl _)
  generalize hW2 : W.alloc _ = W2 at *
  obtain ⟨_, hz2, hb2⟩ := start1 W _ hW2
  have HE := Lib.hid (Cd.ow_of_own hE (fun x hx => by cases hx))
  have HB := Lib.hid (below_then hb0 hb2)
  have HC := Lib.hid ((Loc2.of r0).later hb2)
  have HZS := Lib.hid (And.intro hz hz2)
  clear hW hW2 r0 hb0 hb2 hE hz hz2
  refine (HA.out W2 HB.out).mono ?_
  rintro e w1 ⟨x', fx, rfl, hox, hnx, hb1⟩
  have HOX := Lib.hid hox
  have HE1 := Lib.hid (Cd.ow_later HE.out hb1)
  have HB1 := Lib.hid (below_then HB.out hb1)
  have HC1 := Lib.hid (HC.out.later hb1)
  have HZ1 := Lib.hid hb1.size
  have c0 := HC1.out.c0
  have c1 := HC1.out.c1
  clear hox hnx hb1
  go_wp2_with fail
  clear c0 c1
  refine (HBB.out w1 HB1.out).mono ?_
  rintro e w2 ⟨y', fy, rfl, hoy, hny, hb2⟩
  have HB2 := Lib.hid (below_then HB1.out hb2)
  have HXR := Lib.hid (row_ri (rowC.ow_rd (Cd.ow_later HOX.out hb2))).1
  have HYR := Lib.hid (row_ri (rowC.ow_rd hoy)).1
  have hE2 := Cd.ow_later HE1.out hb2
  obtain ⟨ax, cx, rfl, _⟩ := HXR.out
  obtain ⟨ay, cy, rfl, _⟩ := HYR.out
  have HX2 := Lib.hid (rowC.ow_rd (Cd.ow_later HOX.out hb2))
  have HY2 := Lib.hid (rowC.ow_rd hoy)
  have HFX := Lib.hid (fun b (h : b ∈ fx) => rowC.ow_lt (Cd.ow_later HOX.out hb2) b h)
  have HFY := Lib.hid (fun b (h : b ∈ fy) => rowC.ow_lt hoy b h)
  have hz3 : W.heap.size < w2.heap.size := by have := HZS.out.2; have := HZ1.out; have := hb2.size; omega
  have hz4 : w.heap.size ≤ W.heap.size := by have := HZS.out.1; omega
  have HZ3 := Lib.hid (And.intro hz3 hz4)
  have HE3 := Lib.hid hE2
  have HFW := Lib.hid (show W2.heap.size ≤ w1.heap.size ∧ W.heap.size < W2.heap.size from ⟨HZ1.out, by have := HZS.out.2; omega⟩)
  clear hoy hny hb2 hE2 hz3 hz4
  go_wp2_with fail
  go_loopw [7, 10] (fun o i wr => ∃ (k : Nat) (fp : List Nat), k ≤ X.length ∧ i = .int .i64 k ∧ rowC.ow wr W.heap.size [o] ((X.take k).filter (fun x => hasI Y x)) fp ∧ fp.Nodup ∧ Hid (∀ c ∈ fp, c = W.heap.size ∨ w2.heap.size ≤ c) ∧ Hid (∀ c, c < w2.heap.size → c ≠ W.heap.size → wr.heap[c]? = w2.heap[c]?) ∧ Below w.heap.size w wr ∧ w2.heap.size ≤ wr.heap.size) (fun _ i _ => X.length - (intOf i).toNat)
  case atStart => exact ⟨0, _, Nat.zero_le _, rfl, by rw [← HZS.out.1]; exact HE3.out, Cd.own_nodup, Lib.hid (fun c hc => by left; simpa [Value.ownBlock] using hc), Lib.hid (fun c _ _ => rfl), HB2.out, Nat.le_refl _⟩
  case round =>
    obtain ⟨k, fp, hk, rfl, how, hnd, hfp, hsame, hb, hsz⟩ := hrel
    have hrx := rowC.keep (w' := wr) HX2.out (fun b hS hlt => hsame.out b hlt (by have := (HFX.out b hS).1; have := HFW.out; omega))
    have hry := rowC.keep (w' := wr) HY2.out (fun b hS hlt => hsame.out b hlt (by have := (HFY.out b hS).1; have := HFW.out; omega))
    have HOW := Lib.hid how
    have HND := Lib.hid hnd
    have HB := Lib.hid hb
    have HSZ := Lib.hid hsz
    obtain ⟨ao, co, rfl⟩ := Cd.ow_slice how
    by_cases hlt : k < X.length
    · obtain ⟨b1, off, cap', e1, hbB, hc⟩ := ri_at (row_ri hrx).1 hlt
      injection e1 with e1 e2 e3
      subst e1 e3
      have HXI := Lib.hid ((row_ri hrx).2 _ (List.getElem_mem hlt))
      have HH := Lib.hid (spec_has _ Y X[k] _ wr (row_ri hry).1)
      have p1 : (0 : Int) ≤ (k : Int) := by omega
      have p2 : (k : Int) < (X.length : Int) := by omega
      have hfs := filter_succ (Y := Y) hlt
      have hfl := List.length_filter_le (fun x => hasI Y x) (X.take k)
      rw [List.length_take] at hfl
      clear how hnd hb hrx hry hsz
      cases hh : hasI Y X[k]
      · rw [hh] at HH hfs
        have HNX := Lib.hid hfs
        clear hh hfs hfl
        generalize X[k] = z at *
        go_wp2_with (go_at_call 85; refine HH.out.mono ?_; rintro e w3 ⟨rfl, rfl⟩)
        go_roundw
        case rel => exact ⟨k + 1, fp, by omega, by go_num, by rw [HNX.out]; simpa using HOW.out, HND.out, hfp, hsame, HB.out, HSZ.out⟩
        case measure => simp [intOf]; omega
      · rw [hh] at HH hfs
        have HNX := Lib.hid hfs
        have HFL := Lib.hid hfl
        clear hh hfs hfl
        generalize X[k] = z at *
        generalize (X.take k).filter (fun x => hasI Y x) = out at *
        have HA := Lib.hid (And.intro (Cd.ow_later HOW.out (below_alloc wr (.cells #[.int .i64 z] 3))) (show (wr.alloc (.cells #[.int .i64 z] 3)).cell? ⟨wr.heap.size, 0, none⟩ = some (.int .i64 z) by simp))
        have HA3 := Lib.hid (show Cd.int.ow (wr.alloc (.cells #[.int .i64 z] 3)) W.heap.size [.int .i64 z] z [] from ⟨rfl, HXI.out, rfl⟩)
        have HAB := Lib.hid (show W.heap.size ≤ (wr.alloc (.cells #[.int .i64 z] 3)).heap.size by rw [size_alloc]; have := HZ3.out.1; have := HSZ.out; omega)
        go_wp2_with (first | (go_at_call 85; refine HH.out.mono ?_; rintro e w3 ⟨rfl, rfl⟩) | (at_builtin; refine Cd.wpList_appendE (c := Cd.int) rfl rfl (.tmp 30) (.tmp 35) 57 rfl W.heap.size 3 (.int .i64 0) 8 Tryd.underlying57 info_i64 rfl (by decide) _ _ _ rfl HA.out.1 HND.out _ _ rfl HA.out.2 _ _ HA3.out (by simp) (by simp) (by have := HFL.out; omega) HAB.out ?_))
        intro g capn w3 fp3 ho3 hn3 hs3 ht3
        have HO3 := Lib.hid (show rowC.ow w3 W.heap.size _ _ _ from ho3)
        have HB3 := Lib.hid (Cd.Touch.below (below_then HB.out (below_alloc wr (.cells #[.int .i64 z] 3))) ht3 (fun b hb => by have h1 := (rowC.ow_lt HOW.out b hb).1; have h2 := HZ3.out.2; omega))
        have HS3 := Lib.hid (show ∀ c ∈ fp3, c = W.heap.size ∨ w2.heap.size ≤ c from fun c hc => by
          have h := hs3 c hc
          have h2 : wr.heap.size ≤ (wr.alloc (.cells #[.int .i64 z] 3)).heap.size := (below_alloc _ _).size
          rcases h with q | q
          · exact hfp.out c q
          · exact .inr (by have := HSZ.out; omega))
        have HM3 := Lib.hid (show ∀ c, c < w2.heap.size → c ≠ W.heap.size → w3.heap[c]? = w2.heap[c]? from fun c h1 h2 => by
          rw [ht3.block c (by rw [size_alloc]; have := HSZ.out; omega) (fun q => by rcases hfp.out c q with r | r <;> omega), (below_alloc wr _).block c (by have := HSZ.out; omega)]
          exact hsame.out c h1 h2)
        have HZ4 := Lib.hid (show w2.heap.size ≤ w3.heap.size by have := ht3.size; rw [size_alloc] at this; have := HSZ.out; omega)
        clear ho3 ht3 hs3
        go_wp2_with fail
        go_roundw
        case rel => exact ⟨k + 1, fp3, by omega, by go_num, by rw [HNX.out]; exact HO3.out, hn3, HS3, HM3, HB3.out, HZ4.out⟩
        case measure => simp [intOf]; omega
    · have ek : k = X.length := by omega
      subst ek
      rw [List.take_length, HZ.out] at how ⊢
      have HO := Lib.hid (rowC.ow_base how HZ3.out.2)
      clear how hb hrx hry hnd hsz
      go_wp2_with fail
      go_ret
      exact ⟨_, fp, rfl, HO.out, HND.out, HB.out⟩
def KeptS (w w' : World) : Prop := Below w.heap.size w w'
set_option maxRecDepth 100000 in
set_option maxHeartbeats 1600000 in
theorem impl_shared (n a b : Int) (u : Value) (l : List A2) (S : Nat → Prop) (w : World) (hr : atomsC.rd w S [u] l) :
    Calls Tryd.prog 30 #[.agg #[.int .i64 n, u], .int .i64 a, .int .i64 b] w fun e w' => ∃ v' fp, e = .returned v' ∧ rowC.ow w' w.heap.size [v'] (varsL (shB n l a b)) fp ∧ fp.Nodup ∧ Below w.heap.size w w' := by
  have HA := Lib.hid (fun w' (hb : Below w.heap.size w w') => impl_varsof n a u l S w' (Cd.later hr hb))
  have HBB := Lib.hid (fun w' (hb : Below w.heap.size w w') => impl_varsof n b u l S w' (Cd.later hr hb))
  have hand := and_nat (mB_lt n l a) (mB_lt n l b)
  have HL := Lib.hid (fun w' => impl_list (shB n l a b) w' (shB_lt n l a b))
  obtain ⟨q, cap, rfl, hlm⟩ := Cd.sl_form hr
  clear hr
  have HC := Lib.hid (Loc2.of (row_alloc w (.cells #[.int .i64 n, .slice q l.length cap] 48)))
  have HB := Lib.hid (below_alloc w (.cells #[.int .i64 n, .slice q l.length cap] 48))
  unfold shB at *
  generalize mB n l a &&& mB n l b = s at *
  generalize mB n l a = s1 at *
  generalize mB n l b = s2 at *
  go_enter Tryd.func30, Tryd.ntmps30
  go_wp2_with fail
  generalize w.alloc _ = W at *
  have y0 := HC.out.c0
  have y1 := HC.out.c1
  have kk : KeptS W W.drew := (Below.refl _ W).drew
  go_region_held3 (fun wx => wx.cell? ⟨w.heap.size, 0, none⟩ = some (.int .i64 n) ∧ wx.cell? ⟨w.heap.size, 1, none⟩ = some (.slice q l.length cap) ∧ KeptS W wx)
    ((refine ⟨?_, ?_, ?_⟩ <;> first | assumption | (simp [*]; done)))
    (first | (go_at_call_of 81 (Value.int IntKind.i64 a); refine (HA.out _ (below_then HB.out (by assumption))).mono ?_; rintro e wq ⟨rfl, hbq⟩; (have kk : KeptS W wq := below_then (by assumption) hbq); (have k0 := (HC.out.later kk).c0); (have k1 := (HC.out.later kk).c1); clear hbq) | (go_at_call 81; refine (HBB.out _ (below_then HB.out (by assumption))).mono ?_; rintro e wp ⟨rfl, hbq⟩; (have kk : KeptS W wp := below_then (by assumption) hbq); (have k0 := (HC.out.later kk).c0); (have k1 := (HC.out.later kk).c1); clear hbq) | (go_at_call 80; refine (HL.out _).mono ?_; rintro e wl ⟨v', fp, rfl, ho, hn, hbq⟩; (have hkp := (show KeptS W _ by assumption)); (have HO := Lib.hid (And.intro (rowC.ow_base ho (Below.size (below_then HB.out hkp))) (And.intro hn (below_then (below_then HB.out hkp) hbq)))); (have kk : KeptS W wl := below_then hkp hbq); (have k0 := (HC.out.later kk).c0); (have k1 := (HC.out.later kk).c1); clear hbq ho hn hkp))
  all_goals
    go_wp2_with fail
    go_ret
    exact ⟨_, fp, rfl, HO.out.1, HO.out.2.1, HO.out.2.2⟩
end Go.Proofs.YtdjgaffiildijabDoor.QryImp

namespace Go.Proofs.YtdjgaffiildijabDoor.TabImp
open Go Go.RowKit Byt Ints IntsLaw Cd Rows2 Tab TabSpec

def rowsOk (rows : List (List Int)) (ar : Int) : Bool := decide ((∀ r ∈ rows, rowOk r ar = true) ∧ Asc rows)
set_option maxRecDepth 100000 in
set_option maxHeartbeats 1600000 in
theorem are_rows (ar : Int) (u : Value) (rows : List (List Int)) (S : Nat → Prop) (w : World) (hr : rowsC.rd w S [u] rows) :
    Calls Tryd.prog 101 #[u, .int .i64 ar] w fun e w' => e = .returned (.bool (rowsOk rows ar)) ∧ w = w' := by
  obtain ⟨a, cap, rfl, hlm⟩ := rows_form hr
  have HR := Lib.hid hr
  have HOK := Lib.hid (show (∀ r ∈ rows, rowOk r ar = true) → Asc rows → rowsOk rows ar = true from fun q1 q2 => decide_eq_true ⟨q1, q2⟩)
  have HNO1 := Lib.hid (show ∀ r ∈ rows, rowOk r ar = false → rowsOk rows ar = false from fun r hr h => decide_eq_false fun q => by have := q.1 r hr; rw [h] at this; exact absurd this (by decide))
  have HNO2 := Lib.hid (show ¬ Asc rows → rowsOk rows ar = false from fun h => decide_eq_false fun q => h q.2)
  clear hr
  go_enter Tryd.func101, Tryd.ntmps101
  go_wp2_with fail
  go_loop [9] (fun i => ∃ k : Nat, k ≤ rows.length ∧ i = .int .i64 k ∧ Hid (∀ r ∈ rows.take k, rowOk r ar = true) ∧ Hid (Asc (rows.take k))) (fun i => rows.length - (intOf i).toNat)
  case atStart => exact ⟨0, Nat.zero_le _, rfl, Lib.hid (fun x hx => by simp at hx), Lib.hid List.Pairwise.nil⟩
  case round =>
    obtain ⟨k, hk, rfl, hro, has⟩ := hrel
    by_cases hlt : k < rows.length
    · obtain ⟨b, off, cap', v, e1, hbB, hc, hv⟩ := rows_at HR.out hlt
      injection e1 with e1 e2 e3
      subst e1 e3
      have p1 : (0 : Int) ≤ (k : Int) := by omega
      have p2 : (k : Int) < (rows.length : Int) := by omega
      have HROW := Lib.hid (is_row v rows[k] ar _ w (row_ri hv).1)
      by_cases hok : rowOk rows[k] ar = true
      case neg =>
        have hok : rowOk rows[k] ar = false := by simpa using hok
        rw [hok] at HROW
        have HZ := Lib.hid (HNO1.out _ (List.getElem_mem hlt) hok)
        clear hok hv
        go_wp2_with (go_at_call 131; refine HROW.out.mono ?_; rintro e w1 ⟨rfl, rfl⟩)
        go_ret
        exact ⟨ret_b HZ.out.symm, rfl⟩
      rw [hok] at HROW
      have hro2 := Lib.hid (show ∀ r ∈ rows.take (k + 1), rowOk r ar = true by
        rw [List.take_succ_eq_append_getElem hlt]
        intro x hx'
        rcases List.mem_append.1 hx' with q | q
        · exact hro.out x q
        · rw [List.mem_singleton.1 q]; exact hok)
      clear hok
      by_cases hk0 : k = 0
      · have has2 := Lib.hid (asc_more has.out hlt (fun j hj => by omega))
        have q0 : ¬ 0 < k := by omega
        clear hv hk0
        go_wp2_with (go_at_call 131; refine HROW.out.mono ?_; rintro e w1 ⟨rfl, rfl⟩)
        go_round
        case rel => exact ⟨k + 1, by omega, by go_num, hro2, has2⟩
        case measure => simp [intOf]; omega
      · obtain ⟨j, hj⟩ : ∃ j, k = j + 1 := ⟨k - 1, by omega⟩
        have hjl : j < rows.length := by omega
        obtain ⟨b', off', cap', v', e1, hbB', hc', hv'⟩ := rows_at HR.out hjl
        injection e1 with e1 e2 e3
        injection e1 with e1
        injection e1 with e1 e2 _
        subst e1 e2 e3
        have HC := Lib.hid (impl_cmp v' v (rows[j]'hjl) rows[k] _ _ w (row_ri hv').1 (row_ri hv).1)
        have hbd := cmpR_bd (rows[j]'hjl) rows[k]
        have p3 : (0 : Int) ≤ (j : Int) := by omega
        have p4 : (j : Int) < (rows.length : Int) := by omega
        have p5 : 0 < k := by omega
        have p6 : (k : Int) - 1 = (j : Int) := by omega
        by_cases hcmp : cmpR (rows[j]'hjl) rows[k] < 0
        · have has2 := Lib.hid (asc_more has.out hlt (fun j' hj hj' => by
            obtain rfl : j' = j := by omega
            exact hcmp))
          have hge : ¬ (0 : Int) ≤ cmpR (rows[j]'hjl) rows[k] := by omega
          have HJ := Lib.hid hj
          clear hv hv' hj hk0 hcmp hbd
          generalize cmpR (rows[j]'hjl) rows[k] = z at *
          go_wp2_with (first | (go_at_call 131; refine HROW.out.mono ?_; rintro e w1 ⟨rfl, rfl⟩) | (go_at_call 132; refine HC.out.mono ?_; rintro e w1 ⟨rfl, rfl⟩))
          go_round
          case rel => exact ⟨k + 1, by omega, by go_num, hro2, has2⟩
          case measure => simp [intOf]; omega
        · have HZ := Lib.hid (HNO2.out (by
            subst hj
            exact asc_bad (by omega) hcmp))
          have hge : (0 : Int) ≤ cmpR (rows[j]'hjl) rows[k] := by omega
          have HJ := Lib.hid hj
          clear hv hv' hj hk0 hcmp hbd
          generalize cmpR (rows[j]'hjl) rows[k] = z at *
          go_wp2_with (first | (go_at_call 131; refine HROW.out.mono ?_; rintro e w1 ⟨rfl, rfl⟩) | (go_at_call 132; refine HC.out.mono ?_; rintro e w1 ⟨rfl, rfl⟩))
          go_ret
          exact ⟨ret_b HZ.out.symm, rfl⟩
    · have ek : k = rows.length := by omega
      subst ek
      rw [List.take_length] at *
      have HZ := Lib.hid (HOK.out hro.out has.out)
      go_wp2
      go_ret
      exact ⟨ret_b HZ.out.symm, rfl⟩
set_option maxRecDepth 100000 in
set_option maxHeartbeats 1600000 in
theorem impl_valid (nm : ByteArray) (ar : Int) (u : Value) (rows : List (List Int)) (S : Nat → Prop) (w : World) (hr : rowsC.rd w S [u] rows) :
    Calls Tryd.prog 48 #[.agg #[.string nm, .int .i64 ar, u]] w fun e w' => e = .returned (.bool (tabOk nm ar rows)) ∧ Below w.heap.size w w' := by
  obtain ⟨a, cap, rfl, hlm⟩ := rows_form hr
  by_cases hnm : nameOk nm = true
  case neg =>
    have hnm : nameOk nm = false := by simpa using hnm
    have HNM := Lib.hid (fun w => is_name_at hnm w)
    have HZ := Lib.hid (show tabOk nm ar rows = false from decide_eq_false fun q => absurd (hnm.symm.trans q.1) (by decide))
    clear hnm hr
    go_enter Tryd.func48, Tryd.ntmps48
    go_wp2_with (go_at_call 99; refine (HNM.out _).mono ?_; rintro e w1 ⟨rfl, rfl⟩)
    go_ret
    exact ⟨ret_b HZ.out.symm, below_alloc _ _⟩
  have HNM := Lib.hid (fun w => is_name_at hnm w)
  by_cases har : 1 ≤ ar ∧ ar ≤ 3
  case neg =>
    have HIN := Lib.hid (fun w => is_arity_at (k := ar) (decide_eq_false har) w)
    have HZ := Lib.hid (show tabOk nm ar rows = false from decide_eq_false fun q => har ⟨q.2.1, q.2.2.1⟩)
    clear hnm hr har
    go_enter Tryd.func48, Tryd.ntmps48
    go_wp2_with (first | (go_at_call 99; refine (HNM.out _).mono ?_; rintro e w1 ⟨rfl, rfl⟩) | (go_at_call 100; refine (HIN.out _).mono ?_; rintro e w1 ⟨rfl, rfl⟩))
    go_ret
    exact ⟨ret_b HZ.out.symm, below_alloc _ _⟩
  have HIN := Lib.hid (fun w => is_arity_at (k := ar) (decide_eq_true har) w)
  by_cases h8 : (rows.length : Int) ≤ 8
  case neg =>
    have HZ := Lib.hid (show tabOk nm ar rows = false from decide_eq_false fun q => by have := q.2.2.2.1; omega)
    have h8' : ¬ rows.length ≤ 8 := by omega
    clear hnm hr har
    go_enter Tryd.func48, Tryd.ntmps48
    go_wp2_with (first | (go_at_call 99; refine (HNM.out _).mono ?_; rintro e w1 ⟨rfl, rfl⟩) | (go_at_call 100; refine (HIN.out _).mono ?_; rintro e w1 ⟨rfl, rfl⟩))
    go_ret
    exact ⟨ret_b HZ.out.symm, below_alloc _ _⟩
  have h8' : rows.length ≤ 8 := by omega
  have HZ := Lib.hid (show rowsOk rows ar = tabOk nm ar rows from decide_eq_decide.2 ⟨fun q => ⟨hnm, har.1, har.2, h8', q.1, q.2⟩, fun q => ⟨q.2.2.2.2.1, q.2.2.2.2.2⟩⟩)
  have HRO := Lib.hid (are_rows ar _ rows S _ (Cd.later hr (below_alloc w (.cells #[.string nm, .int .i64 ar, .slice a rows.length cap] 27 (0, 0)))))
  clear hnm har hr
  generalize rowsOk rows ar = z at *
  go_enter Tryd.func48, Tryd.ntmps48
  go_wp2_with (first | (go_at_call 99; refine (HNM.out _).mono ?_; rintro e w1 ⟨rfl, rfl⟩) | (go_at_call 100; refine (HIN.out _).mono ?_; rintro e w1 ⟨rfl, rfl⟩) | (go_at_call 101; refine HRO.out.mono ?_; rintro e w1 ⟨rfl, rfl⟩))
  go_ret
  exact ⟨ret_b HZ.out, below_alloc _ _⟩

set_option maxRecDepth 100000 in
theorem slices_equal (v1 v2 : Value) (a b : List Int) (B1 B2 : Nat) (w : World) (h1 : RI w v1 a B1) (h2 : RI w v2 b B2) :
    Calls Tryd.prog 129 #[v1, v2] w fun e w' => e = .returned (.bool (decide (a = b))) ∧ ∃ m, w' = w.drewN m := by
  have hr1 := Lib.hid h1
  have hr2 := Lib.hid h2
  obtain ⟨a1, cap1, rfl, hl1, hc1⟩ := h1
  obtain ⟨a2, cap2, rfl, hl2, hc2⟩ := h2
  clear hc1 hc2
  by_cases hlen : a.length = b.length
  case neg =>
    have HZ := Lib.hid (show decide (a = b) = false from decide_eq_false fun q => hlen (by rw [q]))
    have t1 : ((a.length : Int) != (b.length : Int)) = true := by rw [bne_iff_ne]; omega
    clear hlen
    go_enter Tryd.func129, Tryd.ntmps129
    go_wp2_with fail
    go_ret
    exact ⟨ret_b HZ.out.symm, 0, rfl⟩
  have t1 : ((a.length : Int) != (b.length : Int)) = false := by rw [bne_eq_false_iff_eq]; omega
  have HL := Lib.hid hlen
  clear hlen
  go_enter Tryd.func129, Tryd.ntmps129
  go_wp2
  go_loopw [13] (fun i wr => ∃ k m : Nat, k ≤ a.length ∧ i = .int .i64 k ∧ Hid (a.take k = b.take k) ∧ wr = w.drewN m) (fun i _ => a.length - (intOf i).toNat)
  case atStart => exact ⟨0, 0, Nat.zero_le _, rfl, Lib.hid rfl, rfl⟩
  case round =>
    obtain ⟨k, m, hk, rfl, htk, rfl⟩ := hrel
    by_cases hlt : k < a.length
    · have hlt2 : k < b.length := by have := HL.out; omega
      obtain ⟨x, xo, xc, e1, _, hx⟩ := ri_at hr1.out hlt
      injection e1 with e1 e2 e3
      subst e1 e3
      obtain ⟨y, yo, yc, e1, _, hy⟩ := ri_at hr2.out hlt2
      injection e1 with e1 e2 e3
      subst e1 e3
      have p1 : (0 : Int) ≤ (k : Int) := by omega
      have p2 : (k : Int) < (a.length : Int) := by omega
      have p3 : (k : Int) < (b.length : Int) := by omega
      by_cases hz : a[k] = b[k]
      · have htk2 := Lib.hid (show a.take (k + 1) = b.take (k + 1) by rw [List.take_succ_eq_append_getElem hlt, List.take_succ_eq_append_getElem hlt2, htk.out, hz])
        have tz : (a[k] != b[k]) = false := by rw [bne_eq_false_iff_eq]; exact hz
        clear hz
        go_wp2
        go_quiet (fail)
        go_wp2
        go_roundw
        case rel => exact ⟨k + 1, _, by omega, by go_num, htk2, rfl⟩
        case measure => simp [intOf]; omega
      · have HZ := Lib.hid (show decide (a = b) = false from decide_eq_false fun q => hz (by simp only [q]))
        have tz : (a[k] != b[k]) = true := by rw [bne_iff_ne]; exact hz
        clear hz
        go_wp2
        go_quiet (fail)
        go_wp2
        go_ret
        exact ⟨ret_b HZ.out.symm, dn2 _ _ _⟩
    · have ek : k = a.length := by omega
      subst ek
      have HZ := Lib.hid (show decide (a = b) = true from decide_eq_true (by
        have := htk.out
        rw [List.take_length, HL.out, List.take_length] at this
        exact this))
      go_wp2
      go_ret
      exact ⟨ret_b HZ.out.symm, m, rfl⟩
theorem slices_equal_at {v1 v2 : Value} {a b : List Int} {B1 B2 : Nat} {w : World} (h1 : RI w v1 a B1) (h2 : RI w v2 b B2) {r : Bool} (h : decide (a = b) = r) :
    Calls Tryd.prog 129 #[v1, v2] w fun e w' => e = .returned (.bool r) ∧ ∃ m, w' = w.drewN m := by
  subst h
  exact slices_equal v1 v2 a b B1 B2 w h1 h2


end Go.Proofs.YtdjgaffiildijabDoor.TabImp

namespace Go.Proofs.YtdjgaffiildijabDoor.QryEq
open Go Go.RowKit Byt Ints IntsLaw Cd Rows2 Tab TabSpec Exact Atom QryMath QrySpec QryImp MkAtom SlMath
open TabImp (slices_equal)

theorem cmpR_zero' (a b : List Int) : (cmpR a b == 0) = decide (a = b) := by
  by_cases h : a = b
  · subst h; rw [cmpR_self]; simp
  · rw [decide_eq_false h, beq_eq_false_iff_ne]
    exact fun q => h (cmpR_eq q)
theorem take_same {α : Type} {l1 l2 : List α} {k : Nat} (h1 : k < l1.length) (h2 : k < l2.length) (h : l1.take k = l2.take k) (e : l1[k] = l2[k]) : l1.take (k + 1) = l2.take (k + 1) := by
  rw [List.take_succ_eq_append_getElem h1, List.take_succ_eq_append_getElem h2, h, e]
theorem not_same {α : Type} {l1 l2 : List α} {k : Nat} (h1 : k < l1.length) (h2 : k < l2.length) (e : l1[k] ≠ l2[k]) : l1 ≠ l2 := fun q => by
  subst q
  exact e rfl
theorem all_same {α : Type} {l1 l2 : List α} (hl : l1.length = l2.length) (h : l1.take l2.length = l2.take l2.length) : l1 = l2 := by
  rw [List.take_length, List.take_of_length_le (by omega)] at h
  exact h
/-- Are they one query? -/
def sameQ (n1 n2 : Int) (l1 l2 : List A2) : Bool := decide (n1 = n2 ∧ l1 = l2)
def sameA (n1 : ByteArray) (r1 : List Int) (n2 : ByteArray) (r2 : List Int) : Bool := decide (n1 = n2 ∧ r1 = r2)
set_option maxRecDepth 100000 in
theorem equal_atoms (n1 n2 : ByteArray) (u1 u2 : Value) (r1 r2 : List Int) (S1 S2 : Nat → Prop) (w : World) (h1 : rowC.rd w S1 [u1] r1) (h2 : rowC.rd w S2 [u2] r2) :
    Calls Tryd.prog 91 #[.agg #[.string n1, u1], .agg #[.string n2, u2]] w fun e w' => e = .returned (.bool (sameA n1 r1 n2 r2)) ∧ Below w.heap.size w w' := by
  have HC := Lib.hid (fun w' (hb : Below w.heap.size w w') => slices_equal u1 u2 r1 r2 _ _ w' (row_ri (Cd.later h1 hb)).1 (row_ri (Cd.later h2 hb)).1)
  have hb0 := below_then (below_alloc w (.cells #[.string n1, u1] 66 (0, 0))) (below_alloc _ (.cells #[.string n2, u2] 66 (0, 0)))
  have HB := Lib.hid hb0
  clear h1 h2 hb0
  by_cases hn : n1 = n2
  case neg =>
    have HZ := Lib.hid (show sameA n1 r1 n2 r2 = false from decide_eq_false fun q => hn q.1)
    have t1 := str_ne hn
    clear hn
    go_enter Tryd.func91, Tryd.ntmps91
    go_wp2_with fail
    go_ret
    exact ⟨ret_b HZ.out.symm, HB.out⟩
  subst hn
  have t1 : (n1.toList == n1.toList) = true := by simp
  have HS := Lib.hid (show sameA n1 r1 n1 r2 = decide (r1 = r2) by unfold sameA; simp)
  generalize decide (r1 = r2) = z at *
  go_enter Tryd.func91, Tryd.ntmps91
  go_wp2_with (go_at_call 129; refine (HC.out _ HB.out).mono ?_; rintro e w1 ⟨rfl, m1, rfl⟩)
  go_ret
  exact ⟨ret_b HS.out.symm, QryImp.below_drewN HB.out⟩
set_option maxRecDepth 100000 in
set_option maxHeartbeats 1600000 in
theorem equal_func (u1 u2 : Value) (l1 l2 : List A2) (S1 S2 : Nat → Prop) (w : World) (h1 : atomsC.rd w S1 [u1] l1) (h2 : atomsC.rd w S2 [u2] l2) :
    Calls Tryd.prog 90 #[u1, u2, .func (.func 91) #[] #[]] w fun e w' => e = .returned (.bool (decide (l1 = l2))) ∧ Below w.heap.size w w' := by
  have HR1 := Lib.hid (fun w' (hb : Below w.heap.size w w') => Cd.later h1 hb)
  have HR2 := Lib.hid (fun w' (hb : Below w.heap.size w w') => Cd.later h2 hb)
  obtain ⟨a1, cap1, rfl, hl1⟩ := Cd.sl_form h1
  obtain ⟨a2, cap2, rfl, hl2⟩ := Cd.sl_form h2
  clear h1 h2
  by_cases hlen : l1.length = l2.length
  case neg =>
    have HZ := Lib.hid (show decide (l1 = l2) = false from decide_eq_false fun q => hlen (by rw [q]))
    have ht : ((l1.length : Int) != (l2.length : Int)) = true := by rw [bne_iff_ne]; omega
    go_enter Tryd.func90, Tryd.ntmps90
    go_wp2_with fail
    go_ret
    exact ⟨ret_b HZ.out.symm, Below.refl _ _⟩
  have HLEN := Lib.hid hlen
  rw [hlen]
  clear hlen
  go_enter Tryd.func90, Tryd.ntmps90
  go_wp2_with fail
  go_loopw [17] (fun i wr => ∃ k : Nat, k ≤ l2.length ∧ i = .int .i64 k ∧ Hid (l1.take k = l2.take k) ∧ Below w.heap.size w wr) (fun i _ => l2.length - (intOf i).toNat)
  case atStart => exact ⟨0, Nat.zero_le _, rfl, Lib.hid (by simp), Below.refl _ _⟩
  case round =>
    obtain ⟨k, hk, rfl, HTK, hb⟩ := hrel
    have HBW := Lib.hid hb
    by_cases hlt : k < l2.length
    · have hlt1 : k < l1.length := by rw [HLEN.out]; exact hlt
      obtain ⟨b, off, cap', au, cu, e1, hbB, c0, c1, hs1, hu, _⟩ := atom_at2 (HR1.out wr HBW.out) hlt1
      rw [HLEN.out] at e1
      injection e1 with e1 e2 e3
      subst e1 e3
      obtain ⟨b', off', cap', av, cv, e1, hbB', d0, d1, hs2, hv, _⟩ := atom_at2 (HR2.out wr HBW.out) hlt
      injection e1 with e1 e2 e3
      subst e1 e3
      have HE := Lib.hid (fun w' (hq : Below wr.heap.size wr w') => equal_atoms l1[k].1 l2[k].1 _ _ l1[k].2 l2[k].2 _ _ w' (Cd.later hu hq) (Cd.later hv hq))
      have HF1 := Lib.hid (fun e : l1[k] = l2[k] => take_same hlt1 hlt HTK.out e)
      have HF0 := Lib.hid (fun e : l1[k] ≠ l2[k] => not_same hlt1 hlt e)
      have i1 : (0 : Int) ≤ (k : Int) := by omega
      have i2 : (k : Int) < (l2.length : Int) := by omega
      have kk := Lib.hid (below_then (below_alloc wr (.cells #[.string l1[k].1, .slice au l1[k].2.length cu] 66 (0, 0))) (below_alloc _ (.cells #[.string l2[k].1, .slice av l2[k].2.length cv] 66 (0, 0))))
      have HLT := Lib.hid hlt
      clear hu hv hb e2
      generalize l1[k] = T at *
      generalize l2[k] = U at *
      go_wp2_with fail
      refine (HE.out _ kk.out).mono ?_
      rintro e w2 ⟨rfl, hb2⟩
      have HB2 := Lib.hid (below_then HBW.out (below_then kk.out hb2))
      clear hb2 kk
      by_cases hT : T = U
      · have HT := Lib.hid (HF1.out hT)
        rw [show sameA T.1 T.2 U.1 U.2 = true from decide_eq_true ⟨by rw [hT], by rw [hT]⟩]
        clear hT
        go_wp2_with fail
        go_roundw
        case rel => exact ⟨k + 1, by have := HLT.out; omega, by go_num, HT, HB2.out⟩
        case measure => have := HLT.out; simp [intOf]; omega
      · have HZ := Lib.hid (show decide (l1 = l2) = false from decide_eq_false (HF0.out hT))
        rw [show sameA T.1 T.2 U.1 U.2 = false from decide_eq_false fun q => hT (Prod.ext q.1 q.2)]
        clear hT
        go_wp2_with fail
        go_ret
        exact ⟨ret_b HZ.out.symm, HB2.out⟩
    · have ek : k = l2.length := by omega
      subst ek
      have HZ := Lib.hid (show decide (l1 = l2) = true from decide_eq_true (all_same HLEN.out HTK.out))
      go_wp2_with fail
      go_ret
      exact ⟨ret_b HZ.out.symm, HBW.out⟩
set_option maxRecDepth 100000 in
theorem impl_eqq (n1 n2 : Int) (u1 u2 : Value) (l1 l2 : List A2) (S1 S2 : Nat → Prop) (w : World) (h1 : atomsC.rd w S1 [u1] l1) (h2 : atomsC.rd w S2 [u2] l2) :
    Calls Tryd.prog 38 #[.agg #[.int .i64 n1, u1], .agg #[.int .i64 n2, u2]] w fun e w' => e = .returned (.bool (sameQ n1 n2 l1 l2)) ∧ Below w.heap.size w w' := by
  have HE := Lib.hid (fun w' (hb : Below w.heap.size w w') => equal_func u1 u2 l1 l2 S1 S2 w' (Cd.later h1 hb) (Cd.later h2 hb))
  obtain ⟨a1, cap1, rfl, hl1⟩ := Cd.sl_form h1
  obtain ⟨a2, cap2, rfl, hl2⟩ := Cd.sl_form h2
  clear h1 h2
  have HB := Lib.hid (below_then (below_alloc w (.cells #[.int .i64 n1, .slice a1 l1.length cap1] 48 (0, 0))) (below_alloc _ (.cells #[.int .i64 n2, .slice a2 l2.length cap2] 48 (0, 0))))
  by_cases hn : n1 = n2
  case neg =>
    have HZ := Lib.hid (show sameQ n1 n2 l1 l2 = false from decide_eq_false fun q => hn q.1)
    have t1 : (n1 == n2) = false := beq_eq_false_iff_ne.2 hn
    clear hn
    go_enter Tryd.func38, Tryd.ntmps38
    go_wp2_with fail
    go_ret
    exact ⟨ret_b HZ.out.symm, HB.out⟩
  subst hn
  have HS := Lib.hid (show sameQ n1 n1 l1 l2 = decide (l1 = l2) by unfold sameQ; simp)
  have t1 : (n1 == n1) = true := by simp
  generalize decide (l1 = l2) = z at *
  go_enter Tryd.func38, Tryd.ntmps38
  go_wp2_with fail
  refine (HE.out _ HB.out).mono ?_
  rintro e w2 ⟨rfl, hb2⟩
  have HB2 := Lib.hid (below_then HB.out hb2)
  clear hb2
  go_wp2_with fail
  go_ret
  exact ⟨ret_b HS.out.symm, HB2.out⟩
end Go.Proofs.YtdjgaffiildijabDoor.QryEq
