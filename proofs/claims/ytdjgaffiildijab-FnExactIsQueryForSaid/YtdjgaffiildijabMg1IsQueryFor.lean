/- Texts that the proof rests on, one behind the other. -/
import Derived.Test.YtdjgaffiildijabTabImp2
import Derived.Test.YtdjgaffiildijabTabCopy
import Derived.Laws.CopyOwn
import Derived.Test.YtdjgaffiildijabCd
import Derived.Test.YtdjgaffiildijabExact
import Derived.Test.YtdjgaffiildijabShelf
import Derived.Deep.RegionLaw
import Derived.Test.YtdjgaffiildijabDbMap
import Derived.Test.YtdjgaffiildijabDbAcc
import Derived.Test.YtdjgaffiildijabQrySpec2
import Derived.Test.YtdjgaffiildijabRegH
import Derived.Deep.RegionHeld3
import Derived.Deep.QuietTactic
import Derived.Test.YtdjgaffiildijabDbExact
import Derived.Deep.DeepCutAuto
import Derived.Test.YtdjgaffiildijabQry
import Derived.Test.YtdjgaffiildijabDb
import Derived.Test.YtdjgaffiildijabTabOpen

namespace Go.Proofs.Ytdjgaffiildijab.TabImp
open Go Go.RowKit Byt Ints IntsLaw Cd Rows2 Tab TabSpec

set_option maxRecDepth 100000 in
theorem copy_cells_int (a : Option Addr) (n c : Nat) (us : List Value) (w : World) (hn : us.length = n) (hl : n ≤ 1048577) (hc : 0 < n → ∃ b off, a = some ⟨b, off, none⟩ ∧ b < w.heap.size ∧ ∀ j v, us[j]? = some v → w.cell? ⟨b, off + j, none⟩ = some v) (h1 : ∀ v ∈ us, v.oneCell' = true) :
    Calls Try.prog 88 #[.slice a n c] w fun e w' => e = .returned (.slice (some ⟨w.heap.size, 0, none⟩) n n) ∧ w'.ownsRow w.heap.size 3 1 (.slice (some ⟨w.heap.size, 0, none⟩) n n) n us ∧ Below w.heap.size w w' := by
  obtain ⟨i0, hi, hz0, hz1, hz2⟩ := info_parts info_i64
  have HC := Lib.hid hc
  have HU := Lib.hid h1
  clear hc h1
  go_enter Try.func88, Try.ntmps88
  go_wp2_with (at_make; refine wpList_make_full _ rfl _ _ 25 rfl w.heap.size 3 i0 (.int .i64 0) 1 Try.underlying25 hi hz0 hz1 _ _ _ _ n rfl rfl rfl rfl (by rw [hz2]; omega) (by unfold maxLen; omega) (Nat.le_refl _) ?_)
  intro w1 hown0 hg0
  have hb1 : Below w.heap.size w w1 := (Below.refl _ _).grown hg0 (Nat.le_refl _) (by simp)
  obtain ⟨cur, hcur, hlen⟩ : ∃ cur : List Value, w1.heap[w.heap.size]? = some (.cells cur.toArray 3 (0, 0)) ∧ cur.length = n := by
    rcases hown0.2 with ⟨e1, _⟩ | ⟨g, cap, cur, e1, _, hg, _, _, hcs, _⟩
    · cases e1
    · simp only [Value.slice.injEq, Option.some.injEq, Addr.mk.injEq, and_true, true_and] at e1
      obtain ⟨rfl, rfl⟩ := e1
      exact ⟨cur.toList, by simpa using hg, by simpa using hcs⟩
  have HCUR := Lib.hid hcur
  have HLEN := Lib.hid hlen
  have HN := Lib.hid hn
  have HB := Lib.hid hb1
  clear hown0 hg0 hcur hlen hn hb1
  go_wp2_with (with_reducible refine wpList_copy_splice rfl (.tmp 7) (.tmp 8) 25 25 rfl 3 Try.underlying25 (by rw [hi]; simp [hz1]) (some ⟨w.heap.size, 0, none⟩) a n n n c rfl rfl w.heap.size 0 cur 3 HCUR.out us (by rw [HN.out]; exact (Nat.min_self n).symm) ?_ (by rw [HN.out, HLEN.out]; omega) HU.out w.heap.size w HB.out (Nat.le_refl _) ?_)
  · intro hp
    obtain ⟨b, off, rfl, hb, hcell⟩ := HC.out (by rw [HN.out] at hp; exact hp)
    first | refine ⟨rfl, ⟨b, off, none⟩, rfl, fun j v hj => ?_⟩ | refine ⟨⟨b, off, none⟩, rfl, fun j v hj => ?_⟩
    have ha : (⟨b, off, none⟩ : Addr).add j = ⟨b, off + j, none⟩ := by unfold Addr.add; split <;> simp_all
    rw [ha]
    exact (HB.out.cell (p := ⟨b, off + j, none⟩) hb).trans (hcell j v hj)
  intro w2 hg2 hb2
  go_wp2_with fail
  go_ret
  refine ⟨rfl, ⟨by rw [HN.out]; omega, .inr ⟨w.heap.size, n, (splice cur 0 us).toArray, rfl, Nat.le_refl _, hg2.out, Nat.le_refl _, by unfold maxLen; omega, ?_, ?_⟩⟩, hb2⟩
  · rw [List.size_toArray, length_splice _ _ _ (by rw [HN.out, HLEN.out]; omega), HLEN.out, Nat.mul_one]
  · have : (splice cur 0 us) = us := by
      unfold splice
      rw [List.take_zero, List.drop_eq_nil_of_le (by rw [HN.out, HLEN.out]; omega)]
      simp
    simp only [this, Nat.mul_one]
    exact List.take_of_length_le (by rw [HN.out]; omega)


theorem copy_ints (v : Value) (l : List Int) (S : Nat → Prop) (w : World) (hr : rowC.rd w S [v] l) (hl : l.length ≤ 1048577) :
    Calls Try.prog 88 #[v] w fun e w' => ∃ g c, e = .returned (.slice (some ⟨g, 0, none⟩) l.length c) ∧ rowC.ow w' w.heap.size [.slice (some ⟨g, 0, none⟩) l.length c] l [g] ∧ Below w.heap.size w w' := by
  obtain ⟨⟨a, cap, rfl, hlm, hc⟩, hin⟩ := row_ri hr
  refine (copy_cells_int a l.length cap (l.map iv) w (by simp) hl ?_ ?_).mono ?_
  · intro h0
    rcases hc with h | ⟨b, off, rfl, hb, hcell⟩
    · rw [h] at h0; simp at h0
    · refine ⟨b, off, rfl, hb, fun j v hj => ?_⟩
      have hj' : j < l.length := by
        have := (List.getElem?_eq_some_iff.1 hj).1
        simpa using this
      rw [hcell j hj']
      rw [List.getElem?_map, List.getElem?_eq_getElem hj'] at hj
      exact hj
  · intro v hv
    obtain ⟨x, _, rfl⟩ := List.mem_map.1 hv
    rfl
  · rintro e w' ⟨rfl, hown, hb⟩
    exact ⟨_, _, rfl, Cd.ow_of_own hown hin, hb⟩
end Go.Proofs.Ytdjgaffiildijab.TabImp

namespace Go.Proofs.Ytdjgaffiildijab.Cd
open Go Go.RowKit Byt Ints
namespace Cd
variable {α β : Type}

theorem wp_appendR {P : Program} {c : Cd α} (hn : c.n = 1) {o : Oper} {a : Act} {K : Act → World → Prop} {Q : Exit → Act → World → Prop} {w : World} (s x : Operand) (t : TypeId)
    (ho : o.op = .call { callee := .builtin .append, args := #[s, x], argTypes := #[t, t] })
    (base : Nat) (e : TypeId) (z : Value) (bytes : Nat) (ht : P.underlying t = some (.slice e)) (hinfo : (P.info? e).map (fun i => (i.zero, i.size, i.bytes)) = some (some z, 1, bytes)) (hzs : z.cells.size = 1) (hby : bytes ≤ 100)
    (g cap n : Nat) (l : List α) (fp : List Nat) (hs : a.eval s = .slice (some ⟨g, 0, none⟩) n cap) (hnl : n = l.length) (how : (sl e c).ow w base [.slice (some ⟨g, 0, none⟩) n cap] l fp) (hd : fp.Nodup) (hroom : n + 1 ≤ cap) (b : Nat) (u : Value) (hx : a.eval x = .slice (some ⟨b, 0, none⟩) 1 1) (hu : w.cell? ⟨b, 0, none⟩ = some u)
    (y : α) (f : List Nat) (hy : c.ow w base [u] y f) (hfd : f.Nodup) (hdis : ∀ b ∈ f, b ∉ fp) (hlen : n + 1 ≤ 1000000000000) (hbase : base ≤ w.heap.size)
    (h : ∀ w' fp', (sl e c).ow w' base [.slice (some ⟨g, 0, none⟩) (n + 1) cap] (l ++ [y]) fp' → fp'.Nodup → (∀ b ∈ fp', b ∈ fp ∨ b ∈ f ∨ w.heap.size ≤ b) → Touch fp w w' →
      K (a.put o.dst (.slice (some ⟨g, 0, none⟩) (n + 1) cap)) w') : o.wp P a w K Q := by
  subst hnl
  obtain ⟨i0, hi, hz0, hz1, hz2⟩ := info_parts hinfo
  have hlt : ∀ b ∈ fp, b < w.heap.size := fun b hb => ((sl e c).ow_lt how b hb).2
  obtain ⟨v', xss, fps, e1, hown, hE, hfp⟩ := how
  injection e1 with e1 _
  subst e1
  have hown0 := hown
  rw [hn] at hown
  have hnews : ∀ j u', [u][j]? = some u' → w.cell? ((⟨b, 0, none⟩ : Addr).add j) = some u' := by
    intro j u' hj
    match j, hj with
    | 0, hj =>
      have e1 : (⟨b, 0, none⟩ : Addr).add 0 = ⟨b, 0, none⟩ := by simp [Addr.add]
      rw [e1, hu]
      simpa using hj
  have hone : ∀ u' ∈ [u], u'.oneCell' = true := fun u' hu' => by
    rw [List.mem_singleton.1 hu']
    exact c.one (c.ow_rd hy) u (List.mem_singleton.2 rfl)
  have hbb : (l.length + 1) * bytes ≤ 140737488355328 := by
    calc (l.length + 1) * bytes ≤ 1000000000000 * 100 := Nat.mul_le_mul hlen hby
      _ ≤ 140737488355328 := by decide
  obtain ⟨v2, w2, hr, h2, h3, _, h5⟩ := run_append_own_at (P := P) w base t o.type e i0 z 1 bytes ht hi hz0 hz1 hz2 hzs (by decide) _ l.length xss.flatten hown ⟨b, 0, none⟩ 1 1 [u] rfl hnews hone (by unfold maxLen; omega) hbb hbase
  obtain ⟨cur, hg, hcs, hcapm⟩ : ∃ cur : Array Value, w.heap[g]? = some (.cells cur e (0, 0)) ∧ cur.size = cap ∧ cap ≤ maxLen := by
    rcases hown.2 with ⟨e1, _⟩ | ⟨g', cap', cur, e1, _, hg, _, hcm, hcs, _⟩
    · cases e1
    · simp only [Value.slice.injEq, Option.some.injEq, Addr.mk.injEq, and_true, true_and] at e1
      obtain ⟨rfl, rfl⟩ := e1
      exact ⟨cur, hg, by omega, hcm⟩
  have hr2 := run_append_room (P := P) w t o.type e i0 ht hi g l.length cap cur hg ⟨b, 0, none⟩ 1 1 [u] (by rw [hz1]; rfl) hnews hone hroom (by rw [hz1, hcs]; simp; omega)
  have hv2 : v2 = .slice (some ⟨g, 0, none⟩) (l.length + 1) cap := by
    rw [hr] at hr2
    injection hr2
  subst hv2
  have h2' : w2.ownsRow base e c.n (.slice (some ⟨g, 0, none⟩) (l.length + 1) cap) (l.length + 1) (xss.flatten ++ [u]) := by rw [hn]; exact h2
  obtain ⟨fp', k1, k2, k3, k4⟩ := ow_appended hE hfp hd hlt hy hfd hdis h2' h3 (.inl rfl)
  unfold Oper.wp execOp
  simp only [ho, resolve, invoke, builtin, Sem.run_bind, Sem.run_pure, Result.andThen_ok, List.map_toArray, List.map_cons, List.map_nil, hs, hx, hr]
  exact h w2 fp' k1 k2 k3 k4
theorem wpList_appendR {P : Program} {c : Cd α} (hn : c.n = 1) {ops : Array Oper} {rest : List Oper} {o : Oper} {a : Act} {Q : Exit → Act → World → Prop} {w : World} (hgd : o.guard = none) (s x : Operand) (t : TypeId)
    (ho : o.op = .call { callee := .builtin .append, args := #[s, x], argTypes := #[t, t] })
    (base : Nat) (e : TypeId) (z : Value) (bytes : Nat) (ht : P.underlying t = some (.slice e)) (hinfo : (P.info? e).map (fun i => (i.zero, i.size, i.bytes)) = some (some z, 1, bytes)) (hzs : z.cells.size = 1) (hby : bytes ≤ 100)
    (g cap n : Nat) (l : List α) (fp : List Nat) (hs : a.eval s = .slice (some ⟨g, 0, none⟩) n cap) (hnl : n = l.length) (how : (sl e c).ow w base [.slice (some ⟨g, 0, none⟩) n cap] l fp) (hd : fp.Nodup) (hroom : n + 1 ≤ cap) (b : Nat) (u : Value) (hx : a.eval x = .slice (some ⟨b, 0, none⟩) 1 1) (hu : w.cell? ⟨b, 0, none⟩ = some u)
    (y : α) (f : List Nat) (hy : c.ow w base [u] y f) (hfd : f.Nodup) (hdis : ∀ b ∈ f, b ∉ fp) (hlen : n + 1 ≤ 1000000000000) (hbase : base ≤ w.heap.size)
    (h : ∀ w' fp', (sl e c).ow w' base [.slice (some ⟨g, 0, none⟩) (n + 1) cap] (l ++ [y]) fp' → fp'.Nodup → (∀ b ∈ fp', b ∈ fp ∨ b ∈ f ∨ w.heap.size ≤ b) → Touch fp w w' →
      wpList P ops Q rest (a.put o.dst (.slice (some ⟨g, 0, none⟩) (n + 1) cap)) w') : wpList P ops Q (o :: rest) a w :=
  wpList_plain hgd fun _ hK => wp_appendR hn s x t ho base e z bytes ht hinfo hzs hby g cap n l fp hs hnl how hd hroom b u hx hu y f hy hfd hdis hlen hbase fun w' fp' h1 h2 h3 h4 => hK _ _ (h w' fp' h1 h2 h3 h4)
end Cd
end Go.Proofs.Ytdjgaffiildijab.Cd

namespace Go.Proofs.Ytdjgaffiildijab.TabImp
open Go Go.RowKit Byt Ints IntsLaw Cd Rows2 Tab TabSpec

set_option maxRecDepth 100000 in
set_option maxHeartbeats 1600000 in
theorem map_copy (v : Value) (l : List (List Int)) (S : Nat → Prop) (w : World) (hr : rowsC.rd w S [v] l) (hl : rowsWt l ≤ 1048577) :
    Calls Try.prog 87 #[v, .func (.func 88) #[] #[]] w fun e w' => ∃ g fp, e = .returned (.slice (some ⟨g, 0, none⟩) l.length l.length) ∧ rowsC.ow w' w.heap.size [.slice (some ⟨g, 0, none⟩) l.length l.length] l fp ∧ fp.Nodup ∧ Below w.heap.size w w' := by
  obtain ⟨i0, hi, hz0, hz1, hz2⟩ := info_parts info_ints
  have HR := Lib.hid (fun w' (hb : Below w.heap.size w w') => Cd.later hr hb)
  have HW := Lib.hid hl
  obtain ⟨a, cap, rfl, hlm⟩ := rows_form hr
  have hll : l.length ≤ 1048577 := by unfold rowsWt at hl; omega
  clear hr hl
  go_enter Try.func87, Try.ntmps87
  go_wp2_with (at_make; refine wpList_make_own _ rfl _ _ 72 rfl w.heap.size 25 i0 (.slice none 0 0) 1 Try.underlying72 hi hz0 hz1 _ _ _ l.length rfl rfl rfl (by rw [hz2]; omega) (by unfold maxLen; omega) (Nat.le_refl _) ?_)
  intro w1 hown0 hg0
  have how1 : rowsC.ow w1 w.heap.size [.slice (some ⟨w.heap.size, 0, none⟩) 0 l.length] [] [w.heap.size] := ⟨_, [], [], rfl, hown0, trivial, rfl⟩
  have hb1 : Below w.heap.size w w1 := (Below.refl _ _).grown hg0 (Nat.le_refl _) (by simp)
  clear hown0 hg0
  go_wp2_with fail
  go_loopw [5, 13] (fun o i wr => ∃ (k : Nat) (fp : List Nat), k ≤ l.length ∧ i = .int .i64 k ∧ o = .slice (some ⟨w.heap.size, 0, none⟩) k l.length ∧ rowsC.ow wr w.heap.size [.slice (some ⟨w.heap.size, 0, none⟩) k l.length] (l.take k) fp ∧ fp.Nodup ∧ Below w.heap.size w wr) (fun _ i _ => l.length - (intOf i).toNat)
  case atStart => exact ⟨0, _, Nat.zero_le _, rfl, rfl, how1, by simp, hb1⟩
  case round =>
    obtain ⟨k, fp, hk, rfl, rfl, how, hnd, hb⟩ := hrel
    by_cases hlt : k < l.length
    · obtain ⟨b, off, cap', u, e1, hbB, hc, hu⟩ := rows_at (HR.out wr hb) hlt
      injection e1 with e1 e2 e3
      subst e1 e3
      have HC := Lib.hid (copy_ints u l[k] S wr hu (by have := row_len hlt; have := HW.out; unfold rowsWt at this; omega))
      have HOW := Lib.hid how
      have HND := Lib.hid hnd
      have HB := Lib.hid hb
      have HT := Lib.hid (show l.take (k + 1) = l.take k ++ [l[k]] from List.take_succ_eq_append_getElem hlt)
      clear hu how hnd hb how1 hb1
      generalize l[k] = r at *
      go_wp2_with fail
      refine HC.out.mono ?_
      rintro e w2 ⟨g2, c2, rfl, ho2, hb2⟩
      have hsz2 := (rowC.ow_lt ho2 g2 (List.mem_singleton.2 rfl))
      have hbA : Below w2.heap.size w2 (w2.alloc (.cells #[.slice (some ⟨g2, 0, none⟩) r.length c2] 25 (0, 0))) := below_alloc _ _
      have HOW2 := Lib.hid (Cd.ow_later (Cd.ow_later HOW.out hb2) hbA)
      have HO2 := Lib.hid (rowC.ow_base (Cd.ow_later ho2 hbA) HB.out.size)
      have HB2 := Lib.hid (below_then (below_then HB.out hb2) hbA)
      have HDIS := Lib.hid (show ∀ b ∈ [g2], b ∉ fp from fun b hb q => by
        rw [List.mem_singleton.1 hb] at q
        have := (rowsC.ow_lt HOW.out _ q).2
        omega)
      have HBS := Lib.hid (show w.heap.size ≤ (w2.alloc (.cells #[.slice (some ⟨g2, 0, none⟩) r.length c2] 25 (0, 0))).heap.size by rw [size_alloc]; have := HB.out.size; have := hb2.size; omega)
      have HL := Lib.hid (show k = (l.take k).length by rw [List.length_take]; omega)
      have HCELL := Lib.hid (show (w2.alloc (.cells #[.slice (some ⟨g2, 0, none⟩) r.length c2] 25 (0, 0))).cell? ⟨w2.heap.size, 0, none⟩ = some (.slice (some ⟨g2, 0, none⟩) r.length c2) from World.cell?_alloc_mark _ _ _ _ 0)
      clear hsz2 hbA ho2 hb2
      go_wp2_with (at_builtin; refine Cd.wpList_appendR (c := rowC) rfl rfl (.tmp 17) (.tmp 21) 72 rfl w.heap.size 25 (.slice none 0 0) 24 Try.underlying72 info_ints rfl (by decide) w.heap.size l.length k (l.take k) fp rfl HL.out HOW2.out HND.out (by omega) w2.heap.size (.slice (some ⟨g2, 0, none⟩) r.length c2) rfl HCELL.out r [g2] HO2.out (by simp) HDIS.out (by omega) HBS.out ?_)
      intro w3 fp3 ho3 hn3 hsub3 ht3
      have HB3 := Lib.hid (ht3.below HB2.out (fun b hb => (rowsC.ow_lt HOW.out b hb).1))
      rw [← HT.out] at ho3
      clear ht3 hsub3
      go_wp2_with fail
      go_roundw
      case rel => exact ⟨k + 1, fp3, by omega, by go_num, rfl, ho3, hn3, HB3.out⟩
      case measure => simp [intOf]; omega
    · have ek : k = l.length := by omega
      subst ek
      rw [List.take_length] at how
      go_wp2_with fail
      go_ret
      exact ⟨_, fp, rfl, how, hnd, hb⟩
end Go.Proofs.Ytdjgaffiildijab.TabImp

namespace Go.Proofs.Ytdjgaffiildijab.TabImp
open Go Go.RowKit Byt Ints IntsLaw Cd Rows2 Tab TabSpec Exact

theorem str_clone (s : ByteArray) (w : World) (hs : s.size ≤ 1048577) :
    Calls Try.prog 86 #[.string s] w fun e w' => e = .returned (.string s) ∧ Below w.heap.size w w' := by
  have HC := Lib.hid (Try.stringslite_Clone s w (by omega))
  clear hs
  go_enter Try.func86, Try.ntmps86
  go_wp2_with (go_at_call 96; refine HC.out.mono ?_; rintro e w1 ⟨rfl, hb⟩)
  go_ret
  exact ⟨rfl, hb⟩

set_option maxRecDepth 100000 in
set_option maxHeartbeats 3200000 in
theorem copy_table (nm : ByteArray) (ar : Int) (u : Value) (rows : List (List Int)) (S : Nat → Prop) (w : World) (hr : rowsC.rd w S [u] rows) (hrw : rowsWt rows ≤ 1048577) (hnm : nm.size ≤ 1048577) :
    Calls Try.prog 66 #[.agg #[.string nm, .int .i64 ar, u]] w fun e w' => ∃ g fp, e = .returned (.agg #[.string nm, .int .i64 ar, .slice (some ⟨g, 0, none⟩) rows.length rows.length]) ∧ rowsC.ow w' w.heap.size [.slice (some ⟨g, 0, none⟩) rows.length rows.length] rows fp ∧ fp.Nodup ∧ Below w.heap.size w w' := by
  have HR := Lib.hid (fun w' (hb : Below w.heap.size w w') => Cd.later hr hb)
  have HWT := Lib.hid hrw
  have HNM := Lib.hid hnm
  obtain ⟨a, cap, rfl, hlm⟩ := rows_form hr
  clear hr hrw hnm
  go_enter Try.func66, Try.ntmps66
  go_wp2_with fail
  generalize hW : (w.alloc _).alloc _ = W
  obtain ⟨r0, r1, hz, hb0⟩ := start2g w _ _ hW
  clear hW
  have HT := Lib.hid (Loc3.of r0)
  have HX := Lib.hid (Loc3.of r1)
  have HB := Lib.hid hb0
  have HZ := Lib.hid hz
  have HCL := Lib.hid (str_clone nm W.drew HNM.out)
  have HMAP := Lib.hid (fun w' (hb : Below W.heap.size W w') => map_copy (.slice a rows.length cap) rows S w' (Cd.later (HR.out W HB.out) hb) HWT.out)
  clear r0 r1 hb0 hz
  have y0 := HT.out.c0
  have y1 := HT.out.c1
  have y2 := HT.out.c2
  go_region_law (first | (go_simp; go_at_call 86; refine HCL.out.mono ?_; rintro e wq ⟨rfl, hbq⟩; (have hq := undrew hbq); (have HQ := Lib.hid hq); (have hqz := hq.size); (have k0 := (HT.out.later hq).c0); (have k1 := (HT.out.later hq).c1); (have k2 := (HT.out.later hq).c2); clear hbq hq) | (go_simp; go_at_call 87; refine (HMAP.out wq HQ.out).mono ?_; rintro e wp ⟨g, fp, rfl, how, hnd, hbp⟩; (have HP := Lib.hid (below_then HQ.out hbp)); (have hpz := hbp.size); (have HOW := Lib.hid how); (have HND := Lib.hid hnd); (have j0 := (HT.out.later HP.out).c0); (have j1 := (HT.out.later HP.out).c1); (have j2 := (HT.out.later HP.out).c2); (have i0 := (HX.out.later HP.out).c0); (have i1 := (HX.out.later HP.out).c1); (have i2 := (HX.out.later HP.out).c2); (have f0 := (HX.out.later HP.out).f0); (have f1 := (HX.out.later HP.out).f1); (have f2 := (HX.out.later HP.out).f2); clear hbp how hnd))
  all_goals
    obtain ⟨k0, k1, k2⟩ := set3 (w := wp) (k := w.heap.size + 1) (x := .string nm) (y := .int .i64 ar) (z := .slice (some ⟨g, 0, none⟩) rows.length rows.length) i0 i1 i2
    clear y0 y1 y2 j0 j1 j2 i0 i1 i2 f0 f1 f2
    go_wp2_with fail
    refine bodyPost_ret (v := .agg #[.string nm, .int .i64 ar, .slice (some ⟨g, 0, none⟩) rows.length rows.length]) (by simp [results, Try.results66, go_sem, k0, k1, k2]) rfl ⟨g, fp, rfl, ?_, HND.out, ?_⟩
    · have hn : w.heap.size + 1 ∉ fp := fun q => by
        have h1 := (rowsC.ow_lt HOW.out _ q).1
        have h2 := HZ.out
        omega
      exact ow_setCell (ow_setCell (ow_setCell (rowsC.ow_base HOW.out (by have := HZ.out; omega)) hn _) hn _) hn _
    · have hb := below_then HB.out HP.out
      exact ((hb.setCell (by show _ ≤ w.heap.size + 1; omega) _).setCell (by show _ ≤ w.heap.size + 1; omega) _).setCell (by show _ ≤ w.heap.size + 1; omega) _
end Go.Proofs.Ytdjgaffiildijab.TabImp

namespace Go.Proofs.Ytdjgaffiildijab.DbImp
open Go Go.RowKit Byt Ints IntsLaw Cd Rows2 Tab SlMath TabOpen TabElem SlTable Db TabSpec DbMath TabImp DbMap DbExact
open Go.Maps (Keyed string_keyed IsMap Tidy)
open DbSpec (LaterD drewD row1 rows_cell name_cell lkT lk_none lk_some LookAns zeroT)

theorem law : Keyed Try.prog 9 := string_keyed Try.underlying9
theorem zeroE (w : World) : (zeroValue 74).run Try.prog w = .ok (.agg #[.string ⟨#[]⟩, .int .i64 0, .slice none 0 0]) w := by kernel_rfl
theorem key_of {s : ByteArray} (h : s.size ≤ maxLen) : keyOf Try.prog 9 (.string s) = some (keyL s) := WideMaps.keyOf_string_mk Try.underlying9 h
abbrev Owns (w : World) (B n : Nat) (D : DataW Value) : Prop := w.ownsMap Try.prog 9 tabR B n D
theorem grown_of {w w' : World} (h : Below w.heap.size w w') (row : Option Nat) : w.grownBy w' row := ⟨h.os, h.tape, h.output, h.size, fun i hi _ => h.block i hi⟩
theorem touch_grown {w w' : World} {b : Nat} (h : w.grownBy w' (some b)) : Cd.Touch [b] w w' := ⟨h.os, h.tape, h.output, h.size, fun k hk hn => h.block k hk (by simpa using hn)⟩
theorem Owns.later {w w' : World} {B n : Nat} {D : DataW Value} (h : Owns w B n D) (hb : Below w.heap.size w w') : Owns w' B n D := World.ownsMap.kept h (grown_of hb none) (by simp)
/-- The tables by their names; none of an invalid database. -/
def NamesAns (l : List T3) (ts : List TabV) (w : World) (e : Ending) (w' : World) : Prop :=
  ∃ B D n, e = .returned (.map (some B)) ∧ w.heap.size ≤ B ∧ Owns w' B n D ∧ n ≤ 6 ∧ MapIs D (entF (if dbOk l then ts else [])) (if dbOk l then l.length else 0) ∧ Below w.heap.size w w'
theorem names_ne {w : World} {S : Nat → Prop} {a : Option Addr} {l : List T3} {ts : List TabV} (h : HeldT w S a l ts) (ha : AscP l) {k : Nat} (hk : k < l.length) (hk' : k < ts.length) : ∀ u ∈ ts.take k, u.nm ≠ ts[k].nm := by
  intro u hu e
  obtain ⟨i, hi, rfl⟩ := List.getElem_of_mem hu
  rw [List.length_take] at hi
  rw [List.getElem_take, (h.2 i (by omega) (by omega)).1, (h.2 k hk hk').1] at e
  exact ltB_ne (List.pairwise_iff_getElem.1 ha i k (by omega) hk (by omega)) e

set_option maxRecDepth 100000 in
set_option maxHeartbeats 1600000 in
theorem impl_byname (a1 : Option Addr) (cap1 : Nat) (l : List T3) (ts : List TabV) (S : Nat → Prop) (w : World) (h1 : tabsC.rd w S [.slice a1 l.length cap1] l) (ht : HeldT w S a1 l ts) :
    Calls Try.prog 65 #[.agg #[.slice a1 l.length cap1]] w fun e w' => NamesAns l ts w e w' := by
  have HT := Lib.hid (fun w' (hb : Below w.heap.size w w') => HeldT.later ht hb)
  have HV := Lib.hid (fun w' (hb : Below w.heap.size w w') => impl_dbok _ l S w' (Cd.later h1 hb))
  have HL := Lib.hid ht.1
  have hmm := @run_makeMap Try.prog
  clear h1 ht
  go_enter Try.func65, Try.ntmps65
  go_wp2_with fail
  have hM0 := World.ownsMap_made (w.alloc (.cells #[.slice a1 l.length cap1] 33 (0, 0))) Try.prog 9 tabR
  rw [size_alloc] at hM0
  generalize hW : (w.alloc _).alloc _ = W at *
  have HM0 := Lib.hid (show Owns W (w.heap.size + 1) 0 (.map []) from hM0)
  clear hM0
  obtain ⟨r0, r1, hz, hb0⟩ := start2g w _ _ hW
  have HC0 := Lib.hid (Loc1.of r0)
  have HB0 := Lib.hid hb0
  have HZ := Lib.hid hz
  clear hW r0 r1 hz
  refine (HV.out _ hb0).mono ?_
  rintro e w1 ⟨rfl, hb1⟩
  have HM1 := Lib.hid (Owns.later HM0.out hb1)
  have HB1 := Lib.hid (below_then HB0.out hb1)
  have c0 := (HC0.out.later hb1).c0
  have HS1 := Lib.hid (show w.heap.size + 2 ≤ w1.heap.size by have := hb1.size; have := HZ.out; omega)
  clear hb0 hb1 hmm
  cases hv : dbOk l
  · have HVV := Lib.hid hv
    go_wp2_with fail
    go_ret
    exact ⟨_, _, _, rfl, Nat.le_succ _, HM1.out, by omega, by rw [HVV.out]; exact MapIs.start, HB1.out⟩
  have HVV := Lib.hid hv
  have H6 := Lib.hid (dbOk_iff.1 hv)
  have hl6 : l.length ≤ 6 := H6.out.1
  clear hv
  go_wp2_with fail
  go_loopw [14] (fun i wr => ∃ (k : Nat) (D : DataW Value), k ≤ l.length ∧ i = .int .i64 k ∧ Owns wr (w.heap.size + 1) k D ∧ MapIs D (entF (ts.take k)) k ∧ Cd.Touch [w.heap.size + 1] w1 wr) (fun i _ => l.length - (intOf i).toNat)
  case atStart => exact ⟨0, .map [], Nat.zero_le _, rfl, HM1.out, MapIs.start, Cd.Touch.refl _ _⟩
  case round =>
    obtain ⟨k, D, hk, rfl, hown, hm, hto⟩ := hrel
    have HBW := Lib.hid (Cd.Touch.below HB1.out hto (fun b hb => by rw [List.mem_singleton.1 hb]; exact Nat.le_succ _))
    have HTO := Lib.hid hto
    have HM := Lib.hid hm
    have HSR := Lib.hid (Nat.le_trans HS1.out hto.size)
    clear c0 hto hm
    by_cases hlt : k < l.length
    · have hlt' : k < ts.length := by rw [HL.out]; exact hlt
      obtain ⟨hnm, ⟨b, off, rfl, hbB, hat⟩, hu⟩ := (HT.out wr HBW.out).2 k hlt hlt'
      have HNE := Lib.hid (names_ne (HT.out wr HBW.out) H6.out.2.2 hlt hlt')
      have HTK := Lib.hid (show ts.take (k + 1) = ts.take k ++ [ts[k]] from List.take_succ_eq_append_getElem hlt')
      have hns : (ts[k]).nm.size ≤ maxLen := by rw [hnm]; obtain ⟨u, _, h, _⟩ := tab_cells hu; exact h
      have p0 := hat 0 (by simp [TabV.us])
      have p1 := hat 1 (by simp [TabV.us])
      have p2 := hat 2 (by simp [TabV.us])
      simp only [TabV.us, List.getElem_cons_zero, List.getElem_cons_succ, Nat.add_zero] at p0 p1 p2
      have i1 : (0 : Int) ≤ (k : Int) := by omega
      have i2 : (k : Int) < (l.length : Int) := by omega
      have i3 := HSR.out
      have hn6 : k < maxLen := by have := H6.out.1; unfold maxLen; omega
      clear hu hat hnm
      generalize ts[k] = t at *
      have hownA := World.ownsMap.alloc hown (.cells #[.string t.nm, .int .i64 t.ar, .slice t.a t.n t.c] 74 (0, 0))
      go_wp2_with (first
        | (at_mapUpdate; refine wpList_mapUpdate_own _ rfl _ _ _ 109 rfl 9 74 law Try.underlying109 tabR (w.heap.size + 1) k D rfl hownA hn6 _ _ (keyL t.nm) rfl rfl (key_of hns) _ [] (tabR_mk t) ?_; intro w2 hown2 hg2; go_frame)
        | go_in)
      have HT2 := Lib.hid (HTO.out.trans ((Cd.Touch.of_below (below_alloc wr _)).trans (touch_grown hg2)))
      have HO2 := Lib.hid hown2
      have HM2 := Lib.hid (show MapIs (D.put (keyL t.nm) (.held t.val)) (entF (ts.take (k + 1))) (k + 1) from by
        have h := HM.out.put t.nm t
        rw [HTK.out, entF_more HNE.out]
        exact h.eq rfl (by rw [entF_none HNE.out]; rfl))
      clear hg2 hown2 hown hownA
      go_wp2_with fail
      go_roundw
      case rel => exact ⟨k + 1, _, by omega, by go_num, HO2.out, HM2.out, HT2.out⟩
      case measure => simp [intOf]; omega
    · have ek : k = l.length := by omega
      subst ek
      have HO := Lib.hid hown
      clear hown
      go_wp2_with fail
      go_ret
      refine ⟨_, _, _, rfl, Nat.le_succ _, HO.out, H6.out.1, ?_, HBW.out⟩
      rw [HVV.out]
      have h := HM.out
      rw [← HL.out, List.take_length] at h
      exact h.eq rfl HL.out

theorem copy_rows_i (us : List Value) (T : T3) (S : Nat → Prop) (w : World) (hu : tabC.rd w S us T) (hw : wtT T ≤ 1048577) :
    Calls Try.prog 66 #[.agg us.toArray] w fun e w' => ∃ a c fp, e = .returned (.agg #[.string T.1, .int .i64 T.2.1, .slice a T.2.2.length c]) ∧ rowsC.ow w' w.heap.size [.slice a T.2.2.length c] T.2.2 fp ∧ fp.Nodup ∧ Below w.heap.size w w' := by
  obtain ⟨u, rfl, h1, h2, h3⟩ := tab_cells hu
  refine (copy_table T.1 T.2.1 u T.2.2 S w h3 (by unfold wtT tabWt at hw; omega) (by unfold wtT tabWt at hw; omega)).mono ?_
  rintro e w' ⟨g, fp, rfl, how, hnd, hb⟩
  exact ⟨_, _, fp, rfl, how, hnd, hb⟩
theorem find_wt {l : List T3} {s : ByteArray} {T : T3} (h : findN l s = some T) : wtT T ≤ wtS l := by
  obtain ⟨k, hk, rfl⟩ := List.getElem_of_mem (findN_some h).1
  have := sumN_mem wtT hk
  unfold wtS
  omega
set_option maxRecDepth 100000 in
set_option maxHeartbeats 1600000 in
theorem impl_look (u : Value) (l : List T3) (nm : ByteArray) (S : Nat → Prop) (w : World) (h1 : tabsC.rd w S [u] l) (hw : wtS l ≤ 1048577) (hs : nm.size ≤ 1048576) :
    Calls Try.prog 39 #[.agg #[u], .string nm] w fun e w' => LookAns l nm w e w' := by
  obtain ⟨a1, cap1, rfl, hl1⟩ := Cd.sl_form h1
  obtain ⟨ts, ht⟩ := held_of h1
  have HT := Lib.hid (fun w' (hb : Below w.heap.size w w') => HeldT.later ht hb)
  have HNA := Lib.hid (fun w' (hb : Below w.heap.size w w') => impl_byname a1 cap1 l ts S w' (Cd.later h1 hb) (HeldT.later ht hb))
  have HK := Lib.hid (key_of (s := nm) (by unfold maxLen; omega))
  have HWT := Lib.hid hw
  clear h1 ht hw hs
  go_enter Try.func39, Try.ntmps39
  go_wp2_with fail
  generalize hW : (w.alloc _).alloc _ = W
  obtain ⟨r0, r1, hz, hb0⟩ := start2g w _ _ hW
  have HC1 := Lib.hid r1
  have HB0 := Lib.hid hb0
  have HZ := Lib.hid hz
  clear hW r0 r1 hz hb0
  refine (HNA.out _ HB0.out).mono ?_
  rintro e w1 ⟨B, D, n, rfl, hBl, hown, _, hm, hb1⟩
  have HC2 := Lib.hid ((hb1.block (w.heap.size + 1) (by have := HZ.out; omega)).trans HC1.out)
  have HB1 := Lib.hid (below_then HB0.out hb1)
  have HS1 := Lib.hid (show w.heap.size + 1 < w1.heap.size by have := hb1.size; have := HZ.out; omega)
  have HM := Lib.hid hm
  clear hb1 hm hBl
  have hcase : (lookL l nm = none ∧ entF (if dbOk l then ts else []) nm = none) ∨ ∃ T t, lookL l nm = some T ∧ entF (if dbOk l then ts else []) nm = some t ∧ findN l nm = some T ∧ ∀ w', Below w.heap.size w w' → tabC.rd w' S t.us T := by
    unfold lookL
    cases hv : dbOk l
    · exact .inl ⟨rfl, rfl⟩
    · rcases entF_find (HT.out w (Below.refl _ _)) nm with ⟨q1, q2⟩ | ⟨T, t, q1, q2, q3⟩
      · exact .inl ⟨q1, q2⟩
      · exact .inr ⟨T, t, q1, q2, q1, fun w' hb => Cd.later q3 hb⟩
  rcases hcase with ⟨hl, he⟩ | ⟨T, t, hl, he, hf, hr⟩
  · have hh : Maps.has D (keyL nm) = false := by rw [HM.out.has, he]; rfl
    have HLK := Lib.hid hl
    clear hl he
    obtain ⟨n0, n1, n2, g0, g1, g2⟩ := row3 HC2.out
    have hs1 := HS1.out
    go_wp2_with (first
      | (at_lookup; refine wpList_lookup_own_ok _ rfl _ _ 109 rfl 9 74 law Try.underlying109 tabR (zeroE _) (.held (.agg #[.string ⟨#[]⟩, .int .i64 0, .slice none 0 0])) [] rfl B n D rfl hown _ (keyL nm) rfl HK.out ?_; intro v ps hv; obtain ⟨t, rfl, _⟩ := tabR_inv hv; unfold TabV.val; rw [hh]; clear hv))
    have G := set3 (w := w1) (k := w.heap.size + 1) (x := .string ⟨#[]⟩) (y := .int .i64 0) (z := .slice none 0 0) n0 n1 n2
    have HB4 : Below w.heap.size w (((w1.setCell ⟨w.heap.size + 1, 0, none⟩ (.string ⟨#[]⟩)).setCell ⟨w.heap.size + 1, 1, none⟩ (.int .i64 0)).setCell ⟨w.heap.size + 1, 2, none⟩ (.slice none 0 0)) := ((HB1.out.setCell (by show _ ≤ w.heap.size + 1; omega) _).setCell (by show _ ≤ w.heap.size + 1; omega) _).setCell (by show _ ≤ w.heap.size + 1; omega) _
    have hx : w.heap.size + 1 < (((w1.setCell ⟨w.heap.size + 1, 0, none⟩ (.string ⟨#[]⟩)).setCell ⟨w.heap.size + 1, 1, none⟩ (.int .i64 0)).setCell ⟨w.heap.size + 1, 2, none⟩ (.slice none 0 0)).heap.size := by simpa using hs1
    generalize (((w1.setCell ⟨w.heap.size + 1, 0, none⟩ (.string ⟨#[]⟩)).setCell ⟨w.heap.size + 1, 1, none⟩ (.int .i64 0)).setCell ⟨w.heap.size + 1, 2, none⟩ (.slice none 0 0)) = w4 at *
    have hbA := below_alloc w4 (.cells #[.string t.nm, .int .i64 t.ar, .slice t.a t.n t.c] 74 (0, 0))
    have k0 := (hbA.cell (p := ⟨w.heap.size + 1, 0, none⟩) hx).trans G.1
    have k1 := (hbA.cell (p := ⟨w.heap.size + 1, 1, none⟩) hx).trans G.2.1
    have k2 := (hbA.cell (p := ⟨w.heap.size + 1, 2, none⟩) hx).trans G.2.2
    have HBA := Lib.hid (below_then HB4 hbA)
    clear hbA
    refine bodyPost_ret (v := .tuple #[.agg #[.string ⟨#[]⟩, .int .i64 0, .slice none 0 0], .bool false]) (by simp [results, Try.results39, go_sem, k0, k1, k2]) rfl (LookAns.none HLK.out HBA.out)
  · have hh : Maps.has D (keyL nm) = true := by rw [HM.out.has, he]; rfl
    have hat := HM.out.at_ nm t (.held (.agg #[.string ⟨#[]⟩, .int .i64 0, .slice none 0 0])) he
    have HLK := Lib.hid hl
    have HCP := Lib.hid (fun w' (hb : Below w.heap.size w w') => copy_rows_i t.us T S w' (hr w' hb) (by have := find_wt hf; have := HWT.out; omega))
    clear hl he hf hr
    go_wp2_with (first
      | (at_lookup; refine wpList_lookup_own_ok _ rfl _ _ 109 rfl 9 74 law Try.underlying109 tabR (zeroE _) (.held (.agg #[.string ⟨#[]⟩, .int .i64 0, .slice none 0 0])) [] rfl B n D rfl hown _ (keyL nm) rfl HK.out ?_; intro v ps hv; rw [hat] at hv; obtain ⟨t', rfl, ht'⟩ := tabR_inv hv; (have ht' : t.val = t'.val := by injection ht' with q _; injection q); rw [← ht', hh]; unfold TabV.val; clear hv ht'))
    have hbA := below_alloc w1 (.cells #[.string t.nm, .int .i64 t.ar, .slice t.a t.n t.c] 74 (0, 0))
    have HB2 := Lib.hid (below_then HB1.out hbA)
    have HC3 := Lib.hid (hbA.block (w.heap.size + 1) HS1.out |>.trans HC2.out)
    have HS2 := Lib.hid (Nat.lt_of_lt_of_le HS1.out hbA.size)
    refine (HCP.out _ HB2.out).mono ?_
    rintro e w3 ⟨a3, c3, fp, rfl, ho, hn, hb3⟩
    have HB4 := Lib.hid (below_then HB2.out hb3)
    obtain ⟨m0, m1, m2, f0, f1, f2⟩ := row3 ((hb3.block (w.heap.size + 1) HS2.out).trans HC3.out)
    have HO := Lib.hid ho
    have HN := Lib.hid hn
    clear ho hn hb3 hbA
    go_wp2_with fail
    have G0 := set3 (w := w3) (k := w.heap.size + 1) (x := .string T.1) (y := .int .i64 T.2.1) (z := .slice a3 T.2.2.length c3) m0 m1 m2
    have hfar : w.heap.size + 1 ∉ fp := fun q => by have := (rowsC.ow_lt HO.out _ q).1; have := HS2.out; omega
    refine bodyPost_ret (v := .tuple #[.agg #[.string T.1, .int .i64 T.2.1, .slice a3 T.2.2.length c3], .bool true]) (by simp [results, Try.results39, go_sem, G0.1, G0.2.1, G0.2.2]) rfl (LookAns.some HLK.out ?_ HN.out ?_)
    · exact ow_setCell (ow_setCell (ow_setCell (rowsC.ow_base HO.out (by have := HS2.out; omega)) hfar _) hfar _) hfar _
    · exact ((HB4.out.setCell (by show _ ≤ w.heap.size + 1; omega) _).setCell (by show _ ≤ w.heap.size + 1; omega) _).setCell (by show _ ≤ w.heap.size + 1; omega) _
end Go.Proofs.Ytdjgaffiildijab.DbImp

namespace Go.Proofs.Ytdjgaffiildijab.QryFor
open Go Go.RowKit Byt Ints IntsLaw Cd Rows2 Tab TabSpec Exact Atom QryMath QrySpec QryImp MkAtom SlMath
open TabOpen (tabC)
open Db (tabsC)
open DbExact (Loc1)

/-- The table of the atom is there, and it has as many columns. -/
def fitA (d : List TabElem.T3) (A : A2) : Bool := (DbMath.lookL d A.1).isSome && decide ((DbSpec.lkT d A.1).2.1 = (A.2.length : Int))
def forP (d : List TabElem.T3) (n : Int) (l : List A2) : Prop := qOk n l = true ∧ ∀ A ∈ l, fitA d A = true
instance (d : List TabElem.T3) (n : Int) (l : List A2) : Decidable (forP d n l) := by unfold forP; infer_instance
def forOk (d : List TabElem.T3) (n : Int) (l : List A2) : Bool := decide (forP d n l)
theorem fit_more {d : List TabElem.T3} {l : List A2} {k : Nat} (hk : k < l.length) (h : ∀ A ∈ l.take k, fitA d A = true) (h0 : fitA d l[k] = true) : ∀ A ∈ l.take (k + 1), fitA d A = true := by
  rw [List.take_succ_eq_append_getElem hk]
  intro A hA
  rcases List.mem_append.1 hA with q | q
  · exact h A q
  · rw [List.mem_singleton.1 q]; exact h0
set_option maxRecDepth 100000 in
set_option maxHeartbeats 1600000 in
theorem impl_for (u v : Value) (d : List TabElem.T3) (n : Int) (l : List A2) (S1 S2 : Nat → Prop) (w : World) (h1 : tabsC.rd w S1 [u] d) (h2 : atomsC.rd w S2 [v] l) (hw : SlTable.wtS d ≤ 1048577) (hs : ∀ A ∈ l, A.1.size ≤ 1048576) :
    Calls Try.prog 20 #[.agg #[u], .agg #[.int .i64 n, v]] w fun e w' => e = .returned (.bool (forOk d n l)) ∧ Below w.heap.size w w' := by
  have HL := Lib.hid (fun nm (h : nm.size ≤ 1048576) w' (hb : Below w.heap.size w w') => DbImp.impl_look u d nm S1 w' (Cd.later h1 hb) hw h)
  have HV := Lib.hid (fun w' (hb : Below w.heap.size w w') => impl_valid n v l S2 w' (Cd.later h2 hb))
  have HR := Lib.hid (fun w' (hb : Below w.heap.size w w') => Cd.later h2 hb)
  have HSZ := Lib.hid hs
  obtain ⟨a1, cap1, rfl, _⟩ := Cd.sl_form h1
  obtain ⟨a, cap, rfl, _⟩ := Cd.sl_form h2
  clear h1 h2 hs hw
  cases hq : qOk n l
  · have HZ := Lib.hid (show forOk d n l = false from decide_eq_false fun q => absurd (hq.symm.trans q.1) (by decide))
    rw [hq] at HV
    clear hq
    go_enter Try.func20, Try.ntmps20
    go_wp2_with fail
    have HB := Lib.hid (below_then (below_alloc w (.cells #[.slice a1 d.length cap1] 33 (0, 0))) (below_alloc _ (.cells #[.int .i64 n, .slice a l.length cap] 47 (0, 0))))
    refine (HV.out _ HB.out).mono ?_
    rintro e w1 ⟨rfl, hb1⟩
    have HB1 := Lib.hid (below_then HB.out hb1)
    clear hb1
    go_wp2_with fail
    go_ret
    exact ⟨ret_b HZ.out.symm, HB1.out⟩
  rw [hq] at HV
  have HQ := Lib.hid hq
  clear hq
  go_enter Try.func20, Try.ntmps20
  go_wp2_with fail
  generalize hW : (w.alloc _).alloc _ = W
  obtain ⟨r0, r1, _, hb0⟩ := start2g w _ _ hW
  have HC1 := Lib.hid (Loc1.of r0)
  have HC2 := Lib.hid (Loc2.of r1)
  have HB := Lib.hid hb0
  clear hW r0 r1 hb0
  refine (HV.out _ HB.out).mono ?_
  rintro e w1 ⟨rfl, hb1⟩
  have HB1 := Lib.hid (below_then HB.out hb1)
  have HD1 := Lib.hid (HC1.out.later hb1)
  have HD2 := Lib.hid (HC2.out.later hb1)
  have c1 := HD2.out.c1
  clear hb1
  go_wp2_with fail
  clear c1
  go_loopw [15] (fun i wr => ∃ k : Nat, k ≤ l.length ∧ i = .int .i64 k ∧ Hid (∀ A ∈ l.take k, fitA d A = true) ∧ Below w1.heap.size w1 wr) (fun i _ => l.length - (intOf i).toNat)
  case atStart => exact ⟨0, Nat.zero_le _, rfl, Lib.hid (fun x hx => by simp at hx), Below.refl _ _⟩
  case round =>
    obtain ⟨k, hk, rfl, hal, hbw⟩ := hrel
    have HBW := Lib.hid hbw
    by_cases hlt : k < l.length
    · obtain ⟨b, off, cap', au, cu, e1, hbB, c0, c1, hs1, hu, _⟩ := atom_at2 (HR.out wr (below_then HB1.out hbw)) hlt
      injection e1 with e1 e2 e3
      subst e1 e3
      have p1 : (0 : Int) ≤ (k : Int) := by omega
      have p2 : (k : Int) < (l.length : Int) := by omega
      have hAl := below_alloc wr (.cells #[.string l[k].1, .slice au l[k].2.length cu] 64 (0, 0))
      have HLK := Lib.hid (HL.out l[k].1 (HSZ.out _ (List.getElem_mem hlt)) _ (below_then HB1.out (below_then hbw hAl)))
      have HC5 := Lib.hid (Loc2.of (row_alloc wr (.cells #[.string l[k].1, .slice au l[k].2.length cu] 64 (0, 0))))
      have HB2 := Lib.hid (below_then hbw hAl)
      have y0 := (HD1.out.later hbw).c0
      have yl := (HD1.out.later hbw).lt
      have HYES := Lib.hid (fun h => fit_more hlt hal.out h)
      have HNO := Lib.hid (show fitA d l[k] = false → forOk d n l = false from fun h => decide_eq_false fun q => absurd (h.symm.trans (q.2 _ (List.getElem_mem hlt))) (by decide))
      have HLT := Lib.hid hlt
      clear hu hbw hAl
      unfold fitA at HYES HNO
      generalize l[k].1 = nm at *
      generalize l[k].2.length = ln at *
      go_wp2_with fail
      generalize hW1 : wr.alloc _ = W1 at *
      clear hW1
      refine HLK.out.mono ?_
      rintro e w2 ⟨tv, fp, rfl, ho, _, hb2⟩
      obtain ⟨ta, tc, rfl⟩ := Cd.ow_slice (c := rowC) ho
      have HB3 := Lib.hid (below_then HB2.out hb2)
      have z1 := (HC5.out.later hb2).c1
      have zl := (HC5.out.later hb2).lt
      generalize (DbSpec.lkT d nm) = T at *
      clear hb2 ho
      cases hf : (DbMath.lookL d nm).isSome
      · have HZ := Lib.hid (HNO.out (by rw [hf]; rfl))
        clear hf
        go_wp2_with fail
        go_ret
        exact ⟨ret_b HZ.out.symm, below_then HB1.out (below_then HB3.out (below_alloc _ _))⟩
      · by_cases hx : T.2.1 = (ln : Int)
        · have HY := Lib.hid (HYES.out (by rw [hf, decide_eq_true hx]; rfl))
          have t1 : (T.2.1 != (ln : Int)) = false := by rw [bne_eq_false_iff_eq]; exact hx
          clear hf hx
          go_wp2_with fail
          go_roundw
          case rel => exact ⟨k + 1, by have := HLT.out; omega, by go_num, HY, below_then HB3.out (below_alloc _ _)⟩
          case measure => have := HLT.out; simp [intOf]; omega
        · have HZ := Lib.hid (HNO.out (by rw [hf, decide_eq_false hx]; rfl))
          have t1 : (T.2.1 != (ln : Int)) = true := by rw [bne_iff_ne]; exact hx
          clear hf hx
          go_wp2_with fail
          go_ret
          exact ⟨ret_b HZ.out.symm, below_then HB1.out (below_then HB3.out (below_alloc _ _))⟩
    · have ek : k = l.length := by omega
      subst ek
      rw [List.take_length] at hal
      have HZ := Lib.hid (show forOk d n l = true from decide_eq_true ⟨HQ.out, hal.out⟩)
      clear hbw
      go_wp2_with fail
      go_ret
      exact ⟨ret_b HZ.out.symm, below_then HB1.out HBW.out⟩
def LaterQ (w w' : World) : Prop := Below w.heap.size w w'
theorem later_alloc {a w : World} (h : LaterQ a w) (o : Obj) : LaterQ a (w.alloc o) := below_then h (below_alloc w o)
theorem later_set3 {a w : World} {k : Nat} {x y z : Value} (h : LaterQ a w) (hk : a.heap.size ≤ k) : LaterQ a (((w.setCell ⟨k, 0, none⟩ x).setCell ⟨k, 1, none⟩ y).setCell ⟨k, 2, none⟩ z) :=
  ((Below.setCell h hk _).setCell hk _).setCell hk _
theorem later_drewA (a : World) (o : Obj) : LaterQ a (a.alloc o).drew := Below.drew (later_alloc (Below.refl _ a) o)
theorem later_size {a w : World} (h : LaterQ a w) : a.heap.size ≤ w.heap.size := Below.size h
theorem locQ_new {W wq : World} {x0 x1 x2 : Value} {T : TypeId} (hb : Below (W.alloc (.cells #[x0, x1, x2] T (0, 0))).heap.size (W.alloc (.cells #[x0, x1, x2] T (0, 0))) wq) : Loc3 wq W.heap.size x0 x1 x2 :=
  (Loc3.of (start1 W _ rfl).1).later hb
theorem locQ_new' {W wq : World} {x0 x1 x2 : Value} {T : TypeId} (hb : Below (W.drew.alloc (.cells #[x0, x1, x2] T (0, 0))).heap.size (W.drew.alloc (.cells #[x0, x1, x2] T (0, 0))) wq) : Loc3 wq W.heap.size x0 x1 x2 := locQ_new (W := W.drew) hb
theorem locQ_new3 {W wq : World} {x0 x1 x2 : Value} {T : TypeId} (hb : Below (W.alloc (.cells #[x0, x1, x2] T (0, 0))).drew.heap.size (W.alloc (.cells #[x0, x1, x2] T (0, 0))).drew wq) : Loc3 wq W.heap.size x0 x1 x2 :=
  (loc_drew (Loc3.of (start1 W _ rfl).1)).later hb
/-- A local table, made behind W. -/
def MadeT (W : World) (nm : ByteArray) (ar : Int) (s : Value) (wx : World) : Prop :=
  ∃ k v, s = .pointer (some ⟨k, 0, none⟩) ∧ W.heap.size ≤ k ∧ Loc3 wx k (.string nm) (.int .i64 ar) v ∧ LaterQ W wx
theorem madeT {W wq : World} {k : Nat} {x0 x1 x2 v : Value} {nm : ByteArray} {ar : Int} (kk : LaterQ W wq) (hb : W.heap.size ≤ k) (GL : Loc3 wq k x0 x1 x2) :
    MadeT W nm ar (.pointer (some ⟨k, 0, none⟩)) (((wq.setCell ⟨k, 0, none⟩ (.string nm)).setCell ⟨k, 1, none⟩ (.int .i64 ar)).setCell ⟨k, 2, none⟩ v) := by
  obtain ⟨c0, c1, c2, f0, f1, f2⟩ := GL
  obtain ⟨k0, k1, k2⟩ := set3 (w := wq) (k := k) (x := .string nm) (y := .int .i64 ar) (z := v) c0 c1 c2
  exact ⟨k, v, rfl, hb, ⟨k0, k1, k2, by simpa using f0, by simpa using f1, by simpa using f2⟩, later_set3 kk hb⟩
theorem madeT2 {W wq : World} {v : Value} {T : TypeId} {nm : ByteArray} {ar : Int} (kk : LaterQ W wq) :
    MadeT W nm ar (.pointer (some ⟨wq.heap.size, 0, none⟩)) (wq.alloc (.cells #[.string nm, .int .i64 ar, v] T (0, 0))) :=
  ⟨wq.heap.size, v, rfl, later_size kk, Loc3.of (start1 wq _ rfl).1, later_alloc kk _⟩
set_option maxRecDepth 100000 in
set_option maxHeartbeats 3200000 in
theorem spec_for (u v : Value) (d : List TabElem.T3) (n : Int) (l : List A2) (S1 S2 : Nat → Prop) (w : World) (h1 : tabsC.rd w S1 [u] d) (h2 : atomsC.rd w S2 [v] l) (hw : SlTable.wtS d ≤ 1048577) :
    Calls Try.prog 19 #[.agg #[u], .agg #[.int .i64 n, v]] w fun e w' => e = .returned (.bool (forOk d n l)) ∧ Below w.heap.size w w' := by
  have HL := Lib.hid (fun nm w' (hb : Below w.heap.size w w') => DbSpec.spec_look u d nm S1 w' (Cd.later h1 hb) hw)
  have HV := Lib.hid (fun w' (hb : Below w.heap.size w w') => spec_valid n v l S2 w' (Cd.later h2 hb))
  have HR := Lib.hid (fun w' (hb : Below w.heap.size w w') => Cd.later h2 hb)
  obtain ⟨a1, cap1, rfl, _⟩ := Cd.sl_form h1
  obtain ⟨a, cap, rfl, _⟩ := Cd.sl_form h2
  clear h1 h2 hw
  cases hq : qOk n l
  · have HZ := Lib.hid (show forOk d n l = false from decide_eq_false fun q => absurd (hq.symm.trans q.1) (by decide))
    rw [hq] at HV
    clear hq
    go_enter Try.func19, Try.ntmps19
    go_wp2_with fail
    have HB := Lib.hid (below_then (below_alloc w (.cells #[.slice a1 d.length cap1] 33 (0, 0))) (below_alloc _ (.cells #[.int .i64 n, .slice a l.length cap] 47 (0, 0))))
    refine (HV.out _ HB.out).mono ?_
    rintro e w1 ⟨rfl, hb1⟩
    have HB1 := Lib.hid (below_then HB.out hb1)
    clear hb1
    go_wp2_with fail
    go_ret
    exact ⟨ret_b HZ.out.symm, HB1.out⟩
  rw [hq] at HV
  have HQ := Lib.hid hq
  clear hq
  go_enter Try.func19, Try.ntmps19
  go_wp2_with fail
  generalize hW : (w.alloc _).alloc _ = W
  obtain ⟨r0, r1, _, hb0⟩ := start2g w _ _ hW
  have HC1 := Lib.hid (Loc1.of r0)
  have HC2 := Lib.hid (Loc2.of r1)
  have HB := Lib.hid hb0
  clear hW r0 r1 hb0
  refine (HV.out _ HB.out).mono ?_
  rintro e w1 ⟨rfl, hb1⟩
  have HB1 := Lib.hid (below_then HB.out hb1)
  have HD1 := Lib.hid (HC1.out.later hb1)
  have HD2 := Lib.hid (HC2.out.later hb1)
  clear hb1
  go_wp2_with fail
  go_loopw [5] (fun i wr => ∃ k : Nat, k ≤ l.length ∧ i = .int .i64 k ∧ Hid (∀ A ∈ l.take k, fitA d A = true) ∧ Below w1.heap.size w1 wr) (fun i _ => l.length - (intOf i).toNat)
  case atStart => exact ⟨0, Nat.zero_le _, rfl, Lib.hid (fun x hx => by simp at hx), Below.refl _ _⟩
  case round =>
    obtain ⟨k, hk, rfl, hal, hbw⟩ := hrel
    have HBW := Lib.hid hbw
    have g1 := (HD2.out.later hbw).c1
    by_cases hlt : k < l.length
    · obtain ⟨b, off, cap', au, cu, e1, hbB, c0, c1, hs1, hu, _⟩ := atom_at2 (HR.out wr (below_then HB1.out hbw)) hlt
      injection e1 with e1 e2 e3
      subst e1 e3
      have p1 : (0 : Int) ≤ (k : Int) := by omega
      have p2 : (k : Int) < (l.length : Int) := by omega
      have HLK := Lib.hid (fun w' (hq : LaterQ wr w') => HL.out l[k].1 w' (below_then HB1.out (below_then hbw hq)))
      have g0 := (HD1.out.later hbw).c0
      have HYES := Lib.hid (fun h => fit_more hlt hal.out h)
      have HNO := Lib.hid (show fitA d l[k] = false → forOk d n l = false from fun h => decide_eq_false fun q => absurd (h.symm.trans (q.2 _ (List.getElem_mem hlt))) (by decide))
      have HLT := Lib.hid hlt
      have gl1 := (HD1.out.later hbw).lt
      have gl2 := (HD2.out.later hbw).lt
      have HSQ := Lib.hid (fun wx (h : LaterQ wr wx) => (show wx.cell? ⟨w.heap.size, 0, none⟩ = some (.slice a1 d.length cap1) ∧ wx.cell? ⟨w.heap.size + 1, 1, none⟩ = some (.slice (some ⟨b, off, none⟩) l.length cap) ∧ wx.cell? ⟨b, off + k * 2, none⟩ = some (.string l[k].1) ∧ LaterQ wr wx from ⟨(Below.cell h (p := ⟨w.heap.size, 0, none⟩) gl1).trans g0, (Below.cell h (p := ⟨w.heap.size + 1, 1, none⟩) gl2).trans g1, (Below.cell h (p := ⟨b, off + k * 2, none⟩) hbB).trans c0, h⟩))
      have HSV := Lib.hid (fun wx (h : LaterQ wr wx) => (Below.cell h (p := ⟨b, off + k * 2 + 1, none⟩) hbB).trans c1)
      clear hu hbw c1 gl1 gl2
      unfold fitA at HYES HNO
      generalize l[k].1 = nm at *
      generalize l[k].2.length = ln at *
      go_upto_region 6 with fail
      have kk : LaterQ wr wr.drew := (Below.refl _ wr).drew
      generalize hT : DbSpec.lkT d nm = T at *
      generalize hf : (DbMath.lookL d nm).isSome = fb at *
      go_cut [6, 7] (fun s6 s7 wx => s7 = .bool fb ∧ MadeT wr T.1 T.2.1 s6 wx)
      case first =>
        go_region_held3 (fun wx => wx.cell? ⟨w.heap.size, 0, none⟩ = some (.slice a1 d.length cap1) ∧ wx.cell? ⟨w.heap.size + 1, 1, none⟩ = some (.slice (some ⟨b, off, none⟩) l.length cap) ∧ wx.cell? ⟨b, off + k * 2, none⟩ = some (.string nm) ∧ LaterQ wr wx)
          ((refine HSQ.out _ ?_; first | assumption | exact Below.drew (Below.refl _ wr) | exact later_alloc (by assumption) _ | exact later_drewA wr _ | exact later_set3 (by first | assumption | exact later_alloc (by assumption) _) (later_size (by first | assumption | exact Below.refl _ _))))
          (first | (go_at_call 38; refine (HLK.out _ (by first | assumption | exact later_alloc (by assumption) _ | exact later_drewA wr _)).mono ?_; rintro e wq ⟨tv, fp, rfl, how, hnd, hbq⟩; obtain ⟨ta, tc, rfl⟩ := Cd.ow_slice (c := rowC) how; (have kk : LaterQ wr wq := (show Below wr.heap.size wr wq by refine below_then (show LaterQ wr _ from ?_) hbq; first | assumption | exact later_alloc (by assumption) _ | exact later_drewA wr _)); rw [hT, hf]; (first | (have GL := Lib.hid (GL.out.later hbq)) | (have GL := Lib.hid (locQ_new' hbq)) | (have GL := Lib.hid (locQ_new hbq)) | (have GL := Lib.hid (locQ_new3 hbq)) | skip); (first | (have x0 := GL.out.c0; have x1 := GL.out.c1; have x2 := GL.out.c2; have f0 := GL.out.f0; have f1 := GL.out.f1; have f2 := GL.out.f2) | skip); (have hS := HSQ.out wq kk); (have k0 := hS.1); (have k1 := hS.2.1); (have k2 := hS.2.2.1); clear hbq how hnd hS))
        all_goals
          go_wp2_with fail
          go_meet
          refine ⟨rfl, ?_⟩
          first
            | (have GG := GL.out; exact madeT (by assumption) (later_size (by first | assumption | exact Below.refl _ _)) GG)
            | (with_reducible exact madeT2 (by assumption))
      case rest =>
        obtain ⟨rfl, kp, tv, rfl, hkp, hl3, hlat⟩ := hcut
        have q1 := (HSQ.out _ hlat).2.1
        have q2 := HSV.out _ hlat
        have q3 := hl3.c1
        have HLAT := Lib.hid hlat
        clear kk hlat hkp
        cases fb
        · have HZ := Lib.hid (HNO.out rfl)
          go_wp2
          go_quiet (fail)
          go_wp2
          go_ret
          exact ⟨ret_b HZ.out.symm, QryImp.below_drewN (below_then HB1.out (below_then HBW.out HLAT.out))⟩
        · by_cases hx : T.2.1 = (ln : Int)
          · have HY := Lib.hid (HYES.out (by rw [decide_eq_true hx]; rfl))
            have t1 : (T.2.1 != (ln : Int)) = false := by rw [bne_eq_false_iff_eq]; exact hx
            clear hx
            go_wp2
            go_quiet (fail)
            go_wp2
            go_roundw
            case rel => exact ⟨k + 1, by have := HLT.out; omega, by go_num, HY, QryImp.below_drewN (below_then HBW.out HLAT.out)⟩
            case measure => have := HLT.out; simp [intOf]; omega
          · have HZ := Lib.hid (HNO.out (by rw [decide_eq_false hx]; rfl))
            have t1 : (T.2.1 != (ln : Int)) = true := by rw [bne_iff_ne]; exact hx
            clear hx
            go_wp2
            go_quiet (fail)
            go_wp2
            go_ret
            exact ⟨ret_b HZ.out.symm, QryImp.below_drewN (below_then HB1.out (below_then HBW.out HLAT.out))⟩
    · have ek : k = l.length := by omega
      subst ek
      rw [List.take_length] at hal
      have HZ := Lib.hid (show forOk d n l = true from decide_eq_true ⟨HQ.out, hal.out⟩)
      clear hbw
      go_wp2_with fail
      go_ret
      exact ⟨ret_b HZ.out.symm, below_then HB1.out HBW.out⟩
end Go.Proofs.Ytdjgaffiildijab.QryFor

namespace Go.Proofs.Ytdjgaffiildijab.WalkIsQueryFor
open Go Go.RowKit Byt Ints IntsLaw Cd Rows2 Tab TabSpec Exact SlMath TabOpen TabElem Mark SlTable Db DbExact Atom MkAtom Qry
set_option maxRecDepth 100000 in
set_option maxHeartbeats 6400000 in
theorem walk (v0 : Value) (l0 : List T3) (r1 : Int) (v1 : Value) (l1 : List A2) (B0 : Bool) (w : World) (hr0 : tabsC.rd w (· < w.heap.size) [v0] l0) (hr1 : atomsC.rd w (· < w.heap.size) [v1] l1)
    (HS : wtS l0 ≤ 1048576 → SlAtom.wtS l1 ≤ 1048576 → ∀ (v0 : Value) (S0 : Nat → Prop) (v1 : Value) (S1 : Nat → Prop) (w' : World), tabsC.rd w' S0 [v0] l0 → atomsC.rd w' S1 [v1] l1 → Calls Try.prog 19 #[.agg #[v0], .agg #[.int .i64 r1, v1]] w' fun e w'' => e = .returned (.bool B0) ∧ Below w'.heap.size w' w'')
    (HI : wtS l0 ≤ 1048576 → SlAtom.wtS l1 ≤ 1048576 → ∀ (v0 : Value) (S0 : Nat → Prop) (v1 : Value) (S1 : Nat → Prop) (w' : World), tabsC.rd w' S0 [v0] l0 → atomsC.rd w' S1 [v1] l1 → Calls Try.prog 20 #[.agg #[v0], .agg #[.int .i64 r1, v1]] w' fun e w'' => e = .returned (.bool B0) ∧ Below w'.heap.size w' w'') :
    Calls Try.prog 5 #[.agg #[v0], .agg #[.int .i64 r1, v1]] w fun e w' => e = .returned (.bool true) ∧ Below w.heap.size w w' := by
  have HSh := Lib.hid HS
  have HIh := Lib.hid HI
  clear HS HI
  have HR0 := Lib.hid hr0
  obtain ⟨q0, c0, rfl, hl0⟩ := Cd.sl_form hr0
  clear hr0
  have HR1 := Lib.hid hr1
  obtain ⟨q1, c1, rfl, hl1⟩ := Cd.sl_form hr1
  clear hr1
  go_enter Try.func5, Try.ntmps5
  go_wp2_with fail
  generalize hW0 : (w.alloc _).alloc _ = W0
  obtain ⟨rb0, rb1, z0, hb0⟩ := start2g w _ _ hW0
  have HB := Lib.hid hb0
  have LB0 := Lib.hid (Loc1.of rb0)
  have LB1 := Lib.hid (Loc2.of rb1)
  replace HR0 := Lib.hid (Cd.later HR0.out hb0)
  replace HR1 := Lib.hid (Cd.later HR1.out hb0)
  clear hW0 hb0 rb0 rb1
  refine (sz_db _ l0 _ 1048576 W0 HR0.out (by omega)).mono ?_
  rintro e W0z ⟨rfl, hbz0⟩
  replace HB := Lib.hid (below_then HB.out hbz0)
  replace LB0 := Lib.hid (LB0.out.later hbz0)
  replace LB1 := Lib.hid (LB1.out.later hbz0)
  replace HR0 := Lib.hid (Cd.later HR0.out hbz0)
  replace HR1 := Lib.hid (Cd.later HR1.out hbz0)
  have zz0 := hbz0.size
  clear hbz0
  by_cases hk0 : wtS l0 ≤ 1048576
  case neg =>
    rw [left_no hk0]
    clear hk0
    go_wp2_with fail
    go_ret
    exact ⟨rfl, HB.out⟩
  rw [left_yes hk0]
  have HL0 := Lib.hid hk0
  have HX0 := Lib.hid (show wtS l0 ≤ 1048576 by have := HL0.out; omega)
  have hge0 : ¬ (((1048576 - wtS l0 : Nat) : Int) < 0) := by omega
  clear hk0
  have y0a := LB1.out.c0
  have y0b := LB1.out.c1
  go_wp2_with fail
  clear y0a y0b
  refine (sz_q r1 _ l1 _ (1048576 - wtS l0) W0z HR1.out (by omega)).mono ?_
  rintro e W1z ⟨rfl, hbz1⟩
  replace HB := Lib.hid (below_then HB.out hbz1)
  replace LB0 := Lib.hid (LB0.out.later hbz1)
  replace LB1 := Lib.hid (LB1.out.later hbz1)
  replace HR0 := Lib.hid (Cd.later HR0.out hbz1)
  replace HR1 := Lib.hid (Cd.later HR1.out hbz1)
  have zz1 := hbz1.size
  clear hbz1
  by_cases hk1 : SlAtom.wtS l1 ≤ (1048576 - wtS l0)
  case neg =>
    rw [left_no hk1]
    clear hk1
    go_wp2_with fail
    go_ret
    exact ⟨rfl, HB.out⟩
  rw [left_yes hk1]
  have HL1 := Lib.hid hk1
  have HX1 := Lib.hid (show SlAtom.wtS l1 ≤ 1048576 by have := HL1.out; omega)
  have hge1 : ¬ ((((1048576 - wtS l0) - SlAtom.wtS l1 : Nat) : Int) < 0) := by omega
  clear hk1
  have HB0 := Lib.hid (show w.heap.size ≤ W1z.heap.size from HB.out.size)
  have hz0 : w.heap.size ≤ W1z.heap.size := HB.out.size
  have y0a := LB0.out.c0
  have y0d := LB0.out.lt
  have y1a := LB1.out.c0
  have y1b := LB1.out.c1
  have y1d := LB1.out.lt
  go_upto_region 8 with fail
  clear y0a y0d y1a y1b y1d
  go_cut [6] (fun s6 wx => s6 = .bool B0 ∧ W1z.heap.size ≤ wx.heap.size ∧ Below w.heap.size w wx ∧ Loc1 wx (w.heap.size) (.slice q0 l0.length c0) ∧ Loc2 wx (w.heap.size + 1) (.int .i64 r1) (.slice q1 l1.length c1) ∧ tabsC.rd wx (· < w.heap.size) [.slice q0 l0.length c0] l0 ∧ atomsC.rd wx (· < w.heap.size) [.slice q1 l1.length c1] l1)
  case first =>
    have y0a := LB0.out.c0
    have y1a := LB1.out.c0
    have y1b := LB1.out.c1
    go_region_law (first | (go_simp; go_at_call_of 9 (Value.agg #[.slice q0 l0.length c0]); refine (to_db _ l0 _ W1z.drew (rd_drew HR0.out) (by have := HX0.out; omega)).mono ?_; rintro e wq0 ⟨tv0, tf0, rfl, tow, tnd, hbq⟩; (have hq := undrew hbq); (have hqz0 := hq.size); (have D0HB := Lib.hid (below_then HB.out hq)); (have D0LB0 := Lib.hid (LB0.out.later hq)); (have D0LB1 := Lib.hid (LB1.out.later hq)); (have D0HR0 := Lib.hid (Cd.later HR0.out hq)); (have D0HR1 := Lib.hid (Cd.later HR1.out hq)); (have D0O0 := Lib.hid tow); (have u01a := D0LB1.out.c0); (have u01b := D0LB1.out.c1); clear hbq hq tow tnd) | (go_simp; go_at_call_of 16 (Value.agg #[.int .i64 r1, .slice q1 l1.length c1]); refine (to_q r1 _ l1 _ wq0 D0HR1.out (by have := HX1.out; omega)).mono ?_; rintro e wq1 ⟨tv1, tf1, rfl, tow, tnd, hbq⟩; (have hq := hbq); (have hqz1 := hq.size); (have D1HB := Lib.hid (below_then D0HB.out hq)); (have D1LB0 := Lib.hid (D0LB0.out.later hq)); (have D1LB1 := Lib.hid (D0LB1.out.later hq)); (have D1HR0 := Lib.hid (Cd.later D0HR0.out hq)); (have D1HR1 := Lib.hid (Cd.later D0HR1.out hq)); (have D1O0 := Lib.hid (Cd.ow_later D0O0.out hq)); (have D1O1 := Lib.hid tow); clear hbq hq tow tnd) | (go_simp; go_at_call 19; refine (HSh.out HX0.out HX1.out _ _ _ _ wq1 (tabsC.ow_rd D1O0.out) (atomsC.ow_rd D1O1.out)).mono ?_; rintro e wp ⟨rfl, hq⟩; (have hqzz := hq.size); (have KHB := Lib.hid (below_then D1HB.out hq)); (have KLB0 := Lib.hid (D1LB0.out.later hq)); (have KLB1 := Lib.hid (D1LB1.out.later hq)); (have KHR0 := Lib.hid (Cd.later D1HR0.out hq)); (have KHR1 := Lib.hid (Cd.later D1HR1.out hq)); clear hq))
    all_goals
      go_wp2_with fail
      go_meet
      exact ⟨rfl, by omega, KHB.out, KLB0.out, KLB1.out, KHR0.out, KHR1.out⟩
  case rest =>
    obtain ⟨rfl, zW1, c_HB, c_LB0, c_LB1, c_HR0, c_HR1⟩ := hcut
    clear HB LB0 LB1 HR0 HR1
    have HB := Lib.hid c_HB
    have LB0 := Lib.hid c_LB0
    have LB1 := Lib.hid c_LB1
    have HR0 := Lib.hid c_HR0
    have HR1 := Lib.hid c_HR1
    clear c_HB c_LB0 c_LB1 c_HR0 c_HR1
    generalize wc = W1 at *
    have y0a := LB0.out.c0
    have y0d := LB0.out.lt
    go_wp2_with fail
    clear y0a y0d
    refine (to_db _ l0 _ W1 HR0.out (by have := HX0.out; omega)).mono ?_
    rintro e W2 ⟨x0_v, x0_f, rfl, x0_o, x0_n, hbx⟩
    obtain ⟨x0_a, x0_c, rfl⟩ := Cd.ow_slice (c := tabC) x0_o
    replace HB := Lib.hid (below_then HB.out hbx)
    replace LB0 := Lib.hid (LB0.out.later hbx)
    replace LB1 := Lib.hid (LB1.out.later hbx)
    replace HR0 := Lib.hid (Cd.later HR0.out hbx)
    replace HR1 := Lib.hid (Cd.later HR1.out hbx)
    have zW2 := hbx.size
    clear hbx
    have x0_O := Lib.hid x0_o
    have x0_N := Lib.hid x0_n
    have x0_B := Lib.hid (bound_of x0_o)
    clear x0_o x0_n
    have y0a := LB1.out.c0
    have y0b := LB1.out.c1
    have y0d := LB1.out.lt
    go_wp2_with fail
    clear y0a y0b y0d
    generalize hg : World.alloc W2 _ = W3
    obtain ⟨rg, zW3, hbg⟩ := start1 W2 _ hg
    clear hg
    replace HB := Lib.hid (below_then HB.out hbg)
    replace LB0 := Lib.hid (LB0.out.later hbg)
    replace LB1 := Lib.hid (LB1.out.later hbg)
    replace HR0 := Lib.hid (Cd.later HR0.out hbg)
    replace HR1 := Lib.hid (Cd.later HR1.out hbg)
    replace x0_O := Lib.hid (Cd.ow_later x0_O.out hbg)
    have Lx0 := Lib.hid (Loc1.of rg)
    clear hbg rg
    refine (to_q r1 _ l1 _ W3 HR1.out (by have := HX1.out; omega)).mono ?_
    rintro e W4 ⟨x1_v, x1_f, rfl, x1_o, x1_n, hbx⟩
    obtain ⟨x1_a, x1_c, rfl⟩ := Cd.ow_slice (c := atomC) x1_o
    replace HB := Lib.hid (below_then HB.out hbx)
    replace LB0 := Lib.hid (LB0.out.later hbx)
    replace LB1 := Lib.hid (LB1.out.later hbx)
    replace HR0 := Lib.hid (Cd.later HR0.out hbx)
    replace HR1 := Lib.hid (Cd.later HR1.out hbx)
    replace x0_O := Lib.hid (Cd.ow_later x0_O.out hbx)
    replace Lx0 := Lib.hid (Lx0.out.later hbx)
    have zW4 := hbx.size
    clear hbx
    have x1_O := Lib.hid x1_o
    have x1_N := Lib.hid x1_n
    have x1_B := Lib.hid (bound_of x1_o)
    clear x1_o x1_n
    have y0a := Lx0.out.c0
    have y0d := Lx0.out.lt
    go_wp2_with fail
    clear y0a y0d
    generalize hg : World.alloc W4 _ = W5
    obtain ⟨rg, zW5, hbg⟩ := start1 W4 _ hg
    clear hg
    replace HB := Lib.hid (below_then HB.out hbg)
    replace LB0 := Lib.hid (LB0.out.later hbg)
    replace LB1 := Lib.hid (LB1.out.later hbg)
    replace HR0 := Lib.hid (Cd.later HR0.out hbg)
    replace HR1 := Lib.hid (Cd.later HR1.out hbg)
    replace x0_O := Lib.hid (Cd.ow_later x0_O.out hbg)
    replace Lx0 := Lib.hid (Lx0.out.later hbg)
    replace x1_O := Lib.hid (Cd.ow_later x1_O.out hbg)
    have Lx1 := Lib.hid (Loc2.of rg)
    clear hbg rg
    refine (HIh.out HX0.out HX1.out _ _ _ _ W5 (tabsC.ow_rd x0_O.out) (atomsC.ow_rd x1_O.out)).mono ?_
    rintro e W6 ⟨rfl, hbx⟩
    replace HB := Lib.hid (below_then HB.out hbx)
    replace LB0 := Lib.hid (LB0.out.later hbx)
    replace LB1 := Lib.hid (LB1.out.later hbx)
    replace HR0 := Lib.hid (Cd.later HR0.out hbx)
    replace HR1 := Lib.hid (Cd.later HR1.out hbx)
    replace x0_O := Lib.hid (Cd.ow_later x0_O.out hbx)
    replace Lx0 := Lib.hid (Lx0.out.later hbx)
    replace x1_O := Lib.hid (Cd.ow_later x1_O.out hbx)
    replace Lx1 := Lib.hid (Lx1.out.later hbx)
    have zW6 := hbx.size
    clear hbx
    have y0a := Lx0.out.c0
    have y0d := Lx0.out.lt
    have y1a := LB0.out.c0
    have y1d := LB0.out.lt
    go_upto_region 14 with fail
    clear y0a y0d y1a y1d
    go_cut [39] (fun s wx => s = .bool false ∧ W6.heap.size ≤ wx.heap.size ∧ Below w.heap.size w wx ∧ Loc1 wx (w.heap.size) (.slice q0 l0.length c0) ∧ Loc2 wx (w.heap.size + 1) (.int .i64 r1) (.slice q1 l1.length c1) ∧ tabsC.rd wx (· < w.heap.size) [.slice q0 l0.length c0] l0 ∧ atomsC.rd wx (· < w.heap.size) [.slice q1 l1.length c1] l1 ∧ tabsC.ow wx (W1.heap.size) [.slice x0_a l0.length x0_c] l0 x0_f ∧ Loc1 wx (W2.heap.size) (.slice x0_a l0.length x0_c) ∧ atomsC.ow wx (W3.heap.size) [.slice x1_a l1.length x1_c] l1 x1_f ∧ Loc2 wx (W4.heap.size) (.int .i64 r1) (.slice x1_a l1.length x1_c))
    case first =>
      have HT := Lib.hid (to_db _ l0 _ W6.drew (rd_drew HR0.out) (by have := HX0.out; omega))
      have y0a := Lx0.out.c0
      have y1a := LB0.out.c0
      go_region_law (first | (go_simp; go_at_call 9; refine HT.out.mono ?_; rintro e wq ⟨tv, tf, rfl, tow, tnd, hbq⟩; (have hq := undrew hbq); (have hqz := hq.size); (have GHB := Lib.hid (below_then HB.out hq)); (have GLB0 := Lib.hid (LB0.out.later hq)); (have GLB1 := Lib.hid (LB1.out.later hq)); (have GHR0 := Lib.hid (Cd.later HR0.out hq)); (have GHR1 := Lib.hid (Cd.later HR1.out hq)); (have Gx0_O := Lib.hid (Cd.ow_later x0_O.out hq)); (have GLx0 := Lib.hid (Lx0.out.later hq)); (have Gx1_O := Lib.hid (Cd.ow_later x1_O.out hq)); (have GLx1 := Lib.hid (Lx1.out.later hq)); (have TO := Lib.hid tow); (have k0a := GLx0.out.c0); clear hbq hq tow tnd) | (go_simp; go_at_call 12; refine (eq_db _ _ l0 _ _ wq (tabsC.ow_rd Gx0_O.out) (tabsC.ow_rd TO.out)).mono ?_; rintro e wp ⟨rfl, hq2⟩; (have hqz2 := hq2.size); (have KHB := Lib.hid (below_then GHB.out hq2)); (have KLB0 := Lib.hid (GLB0.out.later hq2)); (have KLB1 := Lib.hid (GLB1.out.later hq2)); (have KHR0 := Lib.hid (Cd.later GHR0.out hq2)); (have KHR1 := Lib.hid (Cd.later GHR1.out hq2)); (have Kx0_O := Lib.hid (Cd.ow_later Gx0_O.out hq2)); (have KLx0 := Lib.hid (GLx0.out.later hq2)); (have Kx1_O := Lib.hid (Cd.ow_later Gx1_O.out hq2)); (have KLx1 := Lib.hid (GLx1.out.later hq2)); clear hq2))
      all_goals
        go_wp2_with fail
        go_meet
        exact ⟨rfl, by omega, KHB.out, KLB0.out, KLB1.out, KHR0.out, KHR1.out, Kx0_O.out, KLx0.out, Kx1_O.out, KLx1.out⟩
    case rest =>
      obtain ⟨rfl, zW7, c_HB, c_LB0, c_LB1, c_HR0, c_HR1, c_x0_O, c_Lx0, c_x1_O, c_Lx1⟩ := hcut
      clear HB LB0 LB1 HR0 HR1 x0_O Lx0 x1_O Lx1
      have HB := Lib.hid c_HB
      have LB0 := Lib.hid c_LB0
      have LB1 := Lib.hid c_LB1
      have HR0 := Lib.hid c_HR0
      have HR1 := Lib.hid c_HR1
      have x0_O := Lib.hid c_x0_O
      have Lx0 := Lib.hid c_Lx0
      have x1_O := Lib.hid c_x1_O
      have Lx1 := Lib.hid c_Lx1
      clear c_HB c_LB0 c_LB1 c_HR0 c_HR1 c_x0_O c_Lx0 c_x1_O c_Lx1
      generalize wc = W7 at *
      have y0a := Lx1.out.c0
      have y0b := Lx1.out.c1
      have y0d := Lx1.out.lt
      have y1a := LB1.out.c0
      have y1b := LB1.out.c1
      have y1d := LB1.out.lt
      go_upto_region 16 with fail
      clear y0a y0b y0d y1a y1b y1d
      go_cut [44] (fun s wx => s = .bool false ∧ W7.heap.size ≤ wx.heap.size ∧ Below w.heap.size w wx ∧ Loc1 wx (w.heap.size) (.slice q0 l0.length c0) ∧ Loc2 wx (w.heap.size + 1) (.int .i64 r1) (.slice q1 l1.length c1) ∧ tabsC.rd wx (· < w.heap.size) [.slice q0 l0.length c0] l0 ∧ atomsC.rd wx (· < w.heap.size) [.slice q1 l1.length c1] l1 ∧ tabsC.ow wx (W1.heap.size) [.slice x0_a l0.length x0_c] l0 x0_f ∧ Loc1 wx (W2.heap.size) (.slice x0_a l0.length x0_c) ∧ atomsC.ow wx (W3.heap.size) [.slice x1_a l1.length x1_c] l1 x1_f ∧ Loc2 wx (W4.heap.size) (.int .i64 r1) (.slice x1_a l1.length x1_c))
      case first =>
        have HT := Lib.hid (to_q r1 _ l1 _ W7.drew (rd_drew HR1.out) (by have := HX1.out; omega))
        have y0a := Lx1.out.c0
        have y1a := LB1.out.c0
        have y0b := Lx1.out.c1
        have y1b := LB1.out.c1
        go_region_law (first | (go_simp; go_at_call 16; refine HT.out.mono ?_; rintro e wq ⟨tv, tf, rfl, tow, tnd, hbq⟩; (have hq := undrew hbq); (have hqz := hq.size); (have GHB := Lib.hid (below_then HB.out hq)); (have GLB0 := Lib.hid (LB0.out.later hq)); (have GLB1 := Lib.hid (LB1.out.later hq)); (have GHR0 := Lib.hid (Cd.later HR0.out hq)); (have GHR1 := Lib.hid (Cd.later HR1.out hq)); (have Gx0_O := Lib.hid (Cd.ow_later x0_O.out hq)); (have GLx0 := Lib.hid (Lx0.out.later hq)); (have Gx1_O := Lib.hid (Cd.ow_later x1_O.out hq)); (have GLx1 := Lib.hid (Lx1.out.later hq)); (have TO := Lib.hid tow); (have k0a := GLx1.out.c0); (have k0b := GLx1.out.c1); clear hbq hq tow tnd) | (go_simp; go_at_call 18; refine (eq_q r1 _ _ l1 _ _ wq (atomsC.ow_rd Gx1_O.out) (atomsC.ow_rd TO.out)).mono ?_; rintro e wp ⟨rfl, hq2⟩; (have hqz2 := hq2.size); (have KHB := Lib.hid (below_then GHB.out hq2)); (have KLB0 := Lib.hid (GLB0.out.later hq2)); (have KLB1 := Lib.hid (GLB1.out.later hq2)); (have KHR0 := Lib.hid (Cd.later GHR0.out hq2)); (have KHR1 := Lib.hid (Cd.later GHR1.out hq2)); (have Kx0_O := Lib.hid (Cd.ow_later Gx0_O.out hq2)); (have KLx0 := Lib.hid (GLx0.out.later hq2)); (have Kx1_O := Lib.hid (Cd.ow_later Gx1_O.out hq2)); (have KLx1 := Lib.hid (GLx1.out.later hq2)); clear hq2))
        all_goals
          go_wp2_with fail
          go_meet
          exact ⟨rfl, by omega, KHB.out, KLB0.out, KLB1.out, KHR0.out, KHR1.out, Kx0_O.out, KLx0.out, Kx1_O.out, KLx1.out⟩
      case rest =>
        obtain ⟨rfl, zW8, c_HB, c_LB0, c_LB1, c_HR0, c_HR1, c_x0_O, c_Lx0, c_x1_O, c_Lx1⟩ := hcut
        clear HB LB0 LB1 HR0 HR1 x0_O Lx0 x1_O Lx1
        have HB := Lib.hid c_HB
        have LB0 := Lib.hid c_LB0
        have LB1 := Lib.hid c_LB1
        have HR0 := Lib.hid c_HR0
        have HR1 := Lib.hid c_HR1
        have x0_O := Lib.hid c_x0_O
        have Lx0 := Lib.hid c_Lx0
        have x1_O := Lib.hid c_x1_O
        have Lx1 := Lib.hid c_Lx1
        clear c_HB c_LB0 c_LB1 c_HR0 c_HR1 c_x0_O c_Lx0 c_x1_O c_Lx1
        generalize wc = W8 at *
        go_wp2_with fail
        go_ret
        exact ⟨rfl, HB.out⟩
end Go.Proofs.Ytdjgaffiildijab.WalkIsQueryFor

namespace Go.Proofs.Ytdjgaffiildijab.DbOpen
open Go Go.RowKit Byt Ints IntsLaw Cd Rows2 Fits TabOpen TabElem SlTable Db

set_option maxRecDepth 100000 in
theorem fits_tabs : Fits Try.prog ltabsC 22 := fits_sl Try.underlying22 fits_table (by kernel_rfl)
set_option maxRecDepth 100000 in
theorem fits_db : Fits Try.prog ltabsC 24 := fits_struct Try.underlying24 (fits_one fits_tabs rfl) (by kernel_rfl)
set_option maxRecDepth 100000 in
theorem open_db {H : Type} {enc : TypeId × Value → H} {W : World} {base : Nat} {v : Value} {d : DataW H} {ps : List MemPlace}
    (hval : Value.okWide Try.prog W .any base 24 v) (h : DataW.Trod enc Try.prog W 0 (fun _ => true) true 24 v d ps) :
    ∃ (u : Value) (l : List T3), v = .agg #[u] ∧ tabsC.rd W (· < W.heap.size) [u] l := by
  obtain ⟨cs, l, rfl, hT⟩ := open_st Try.underlying24 fits_db hval h
  have hl := ltabsC.len hT
  obtain ⟨cs⟩ := cs
  match cs, hl, hT with
  | [u], _, hT => exact ⟨u, l, rfl, hT⟩
end Go.Proofs.Ytdjgaffiildijab.DbOpen
