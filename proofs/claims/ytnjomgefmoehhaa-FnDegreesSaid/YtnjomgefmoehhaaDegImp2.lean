/- Degree sequences: the program's numbers of rows, in a map under strings of digits. -/
import Derived.Test.YtnjomgefmoehhaaDegImp1
import Derived.Test.YtnjomgefmoehhaaDegSpec3
import Derived.Test.YtnjomgefmoehhaaTabImp2
import Derived.Test.YtnjomgefmoehhaaDig
import Derived.Maps.OwnSet
import Derived.Maps.RangeWalk
namespace Go.Proofs.Ytnjomgefmoehhaa.DegImp
open Go Go.RowKit Byt Ints IntsLaw Cd Rows2 Tab TabSpec TabImp Exact DegMath DegSpec
open Go.Maps (Keyed string_keyed IsMap Tidy)

/-- An int in a map: it stands for itself. -/
def intR : Value → Option (DataW Value × List MemPlace)
  | .int .i64 x => some (.lit (.int .i64 x), [])
  | _ => none
theorem intR_inv {v : Value} {y : DataW Value × List MemPlace} (h : intR v = some y) : ∃ x, v = .int .i64 x ∧ y = (.lit (.int .i64 x), []) := by
  unfold intR at h
  split at h
  · injection h with h
    exact ⟨_, rfl, h.symm⟩
  · cases h
theorem intR_at {v : Value} {x : Int} {ps : List MemPlace} (h : intR v = some (.lit (.int .i64 x), ps)) : v = .int .i64 x := by
  obtain ⟨y, rfl, e⟩ := intR_inv h
  injection e with e _
  injection e with e
  injection e with _ e
  rw [e]
theorem lawS : Keyed Try.prog 9 := string_keyed Try.underlying9
theorem zeroI (w : World) : (zeroValue 3).run Try.prog w = .ok (.int .i64 0) w := by kernel_rfl
theorem key_list {k : List UInt8} (h : k.length ≤ maxLen) : keyOf Try.prog 9 (.string ⟨k.toArray⟩) = some (.string k) := by
  have := WideMaps.keyOf_string_mk (P := Try.prog) Try.underlying9 (s := ⟨k.toArray⟩) (by show k.toArray.size ≤ _; rw [List.size_toArray]; exact h)
  simpa using this
theorem grown_of {w w' : World} (h : Below w.heap.size w w') (row : Option Nat) : w.grownBy w' row := ⟨h.os, h.tape, h.output, h.size, fun i hi _ => h.block i hi⟩
theorem touch_grown {w w' : World} {b : Nat} (h : w.grownBy w' (some b)) : Cd.Touch [b] w w' := ⟨h.os, h.tape, h.output, h.size, fun k hk hn => h.block k hk (by simpa using hn)⟩
abbrev OwnsC (w : World) (B n : Nat) (D : DataW Value) : Prop := w.ownsMap Try.prog 9 intR B n D
/-- The map counts the keys. -/
structure CntIs (D : DataW Value) (ks : List (List UInt8)) : Prop where
  tidy : Tidy D
  has : ∀ k, Maps.has D (.string k) = decide (k ∈ ks)
  at_ : ∀ k, D.atKey (.string k) (.lit (.int .i64 0)) = .lit (.int .i64 (ks.count k : Nat))
  size : Maps.size D ≤ ks.length
theorem CntIs.start : CntIs (.map []) [] := ⟨Maps.tidy_empty, fun _ => rfl, fun _ => rfl, Nat.le_refl _⟩
theorem str_ne {a b : List UInt8} (h : a ≠ b) : (Lit.string a) ≠ Lit.string b := fun q => h (by injection q)
theorem CntIs.put {D : DataW Value} {ks : List (List UInt8)} (h : CntIs D ks) (k : List UInt8) : CntIs (D.put (.string k) (.lit (.int .i64 ((ks.count k : Nat) + 1 : Int)))) (ks ++ [k]) := by
  have hk : WideAt.IsKeyLit (.string k) := trivial
  refine ⟨h.tidy.put hk _, fun x => ?_, fun x => ?_, ?_⟩
  · by_cases e : x = k
    · subst e
      rw [Maps.has_put_same h.tidy.isMap hk]
      simp
    · rw [Maps.has_put_other (str_ne e), h.has]
      simp [e]
  · by_cases e : x = k
    · subst e
      rw [Maps.atKey_put_same h.tidy.isMap hk, List.count_append, List.count_singleton_self]
      push_cast
      rfl
    · rw [Maps.atKey_put_other (str_ne e), h.at_, List.count_append, List.count_singleton]
      have : ¬ (k == x) = true := by simpa using fun q => e q.symm
      rw [if_neg this, Nat.add_zero]
  · rw [Maps.size_put h.tidy, h.has, List.length_append]
    have := h.size
    simp only [List.length_cons, List.length_nil]
    split <;> omega
theorem sel_digits {row cols : List Int} (h : ∀ x ∈ row, 0 ≤ x ∧ x ≤ 9) : ∀ x ∈ selR row cols, 0 ≤ x ∧ x ≤ 9 := by
  intro x hx
  simp only [selR, List.mem_map] at hx
  obtain ⟨c, _, rfl⟩ := hx
  by_cases h2 : c.toNat < row.length
  · simp only [List.getD, List.getElem?_eq_getElem h2, Option.getD_some]
    exact h _ (List.getElem_mem h2)
  · simp [List.getD, List.getElem?_eq_none (by omega : row.length ≤ c.toNat)]
def keysT (rows : List (List Int)) (cols : List Int) : List (List UInt8) := (xsT rows cols).map keyB
theorem keysT_len (rows : List (List Int)) (cols : List Int) : (keysT rows cols).length = rows.length := by unfold keysT; rw [List.length_map, xsT_len]
theorem keysT_next {rows : List (List Int)} {cols : List Int} {k : Nat} (h : k < rows.length) : (keysT rows cols).take (k + 1) = (keysT rows cols).take k ++ [keyB (selR rows[k] cols)] := by
  rw [List.take_succ_eq_append_getElem (by rw [keysT_len]; exact h)]
  unfold keysT
  rw [List.getElem_map, xsT_get h]

set_option maxRecDepth 100000 in
set_option maxHeartbeats 1600000 in
theorem impl_counts (u v : Value) (rows : List (List Int)) (V : List Int) (S S2 : Nat → Prop) (w : World) (hr : rowsC.rd w S [u] rows) (hv : rowC.rd w S2 [v] V) (h8 : rows.length ≤ 8) (h3 : V.length ≤ 3) (hok : ∀ r ∈ rows, selOk r V = true) (hdg : ∀ r ∈ rows, ∀ x ∈ r, 0 ≤ x ∧ x ≤ 9) :
    Calls Try.prog 45 #[u, v] w fun e w' => ∃ D n, e = .returned (.map (some w.heap.size)) ∧ OwnsC w' w.heap.size n D ∧ n ≤ 8 ∧ CntIs D (keysT rows V) ∧ w.heap.size < w'.heap.size ∧ Below w.heap.size w w' := by
  have HV := Lib.hid (fun w' (hb : Below w.heap.size w w') => Cd.later hv hb)
  have HR := Lib.hid (fun w' (hb : Below w.heap.size w w') => Cd.later hr hb)
  have HOKS := Lib.hid hok
  have HDG := Lib.hid (fun r (h : r ∈ rows) => sel_digits (cols := V) (hdg r h))
  have HKL := Lib.hid (keysT_len rows V)
  have HKN := Lib.hid (fun (k : Nat) (h : k < rows.length) => keysT_next (cols := V) h)
  obtain ⟨a, cap, rfl, hlm⟩ := rows_form hr
  obtain ⟨a1, c1, rfl, hl1⟩ := (row_ri hv).1
  have hmm := @run_makeMap Try.prog
  clear hr hv hok hdg
  go_enter Try.func45, Try.ntmps45
  go_wp2_with fail
  have hM0 := World.ownsMap_made w Try.prog 9 intR
  generalize hW : w.alloc _ = W at *
  obtain ⟨_, hz, hb0⟩ := start1 w _ hW
  have HM0 := Lib.hid (show OwnsC W w.heap.size 0 (.map []) from hM0)
  have HB0 := Lib.hid hb0
  have HZ := Lib.hid (show w.heap.size < W.heap.size by omega)
  clear hM0 hW hz hb0
  go_loopw [13] (fun i wr => ∃ (k : Nat) (D : DataW Value), k ≤ rows.length ∧ i = .int .i64 k ∧ OwnsC wr w.heap.size k D ∧ CntIs D ((keysT rows V).take k) ∧ Cd.Touch [w.heap.size] W wr) (fun i _ => rows.length - (intOf i).toNat)
  case atStart => exact ⟨0, .map [], Nat.zero_le _, rfl, HM0.out, CntIs.start, Cd.Touch.refl _ _⟩
  case round =>
    obtain ⟨k, D, hk, rfl, hown, hcnt, ht⟩ := hrel
    have HT := Lib.hid ht
    have HCN := Lib.hid hcnt
    have HOW := Lib.hid hown
    have hB := Cd.Touch.below HB0.out ht (fun b hb => by rw [List.mem_singleton.1 hb]; omega)
    have HB := Lib.hid hB
    have HSZ := Lib.hid (show w.heap.size < wr.heap.size by have := ht.size; have := HZ.out; omega)
    clear hown hcnt ht
    by_cases hlt : k < rows.length
    · obtain ⟨b, off, cap', v', e1, hbB, hc, hv'⟩ := rows_at (HR.out wr hB) hlt
      injection e1 with e1 e2 e3
      subst e1 e3
      have p1 : (0 : Int) ≤ (k : Int) := by omega
      have p2 : (k : Int) < (rows.length : Int) := by omega
      have HS := Lib.hid (impl_select v' _ rows[k] V S S2 wr hv' (HV.out wr hB) (by omega))
      have HOK := Lib.hid (HOKS.out _ (List.getElem_mem hlt))
      unfold SelAns at HS
      rw [HOK.out] at HS
      simp only [if_true] at HS
      have HDK := Lib.hid (HDG.out _ (List.getElem_mem hlt))
      have HSL := Lib.hid (show (selR rows[k] V).length ≤ 3 by rw [sel_len]; exact h3)
      have HNX := Lib.hid (HKN.out k hlt)
      have hcl : ((keysT rows V).take k).count (keyB (selR rows[k] V)) ≤ 8 := by
        have h1 := List.count_le_length (a := keyB (selR rows[k] V)) (l := (keysT rows V).take k)
        rw [List.length_take] at h1
        omega
      have hk8 : k < maxLen := by unfold maxLen; omega
      clear hv' hB
      generalize selR rows[k] V = row at *
      go_wp2_with fail
      refine HS.out.mono ?_
      rintro e w2 ⟨u', f2, rfl, ho2, hn2, hb2⟩
      have HB2 := Lib.hid (below_then HB.out hb2)
      have HX2 := Lib.hid hb2
      have HFM := Lib.hid (Dig.format_digits u' row _ w2 (row_ri (rowC.ow_rd ho2)).1 (Nat.le_refl _) (by have := HSL.out; omega) HDK.out)
      clear ho2 hn2 hb2
      go_wp2_with fail
      refine HFM.out.mono ?_
      rintro e w3 ⟨rfl, hb3⟩
      have HX3 := Lib.hid (below_then HX2.out hb3)
      have HOM := Lib.hid (show OwnsC w3 w.heap.size k D from World.ownsMap.kept HOW.out (grown_of HX3.out none) (by simp))
      have HK := Lib.hid (key_list (k := Loc.locB row) (by rw [Loc.locB_len]; have := HSL.out; unfold maxLen; omega))
      obtain ⟨y, ps, hrun, hy⟩ := World.ownsMap.lookup (t := 53) HOM.out lawS Try.underlying53 (zeroI w3) (zd := .lit (.int .i64 0)) (zp := []) rfl HK.out
      rw [HCN.out.at_] at hy
      obtain rfl := intR_at hy
      have HPT := Lib.hid (HCN.out.put (keyB row))
      have hcl' : ((keysT rows V).take k).count (Loc.locB row) ≤ 8 := hcl
      have hown3 := HOM.out
      clear hy hb3 hcl
      rw [show keyB row = Loc.locB row from rfl] at HPT
      generalize ((keysT rows V).take k).count (Loc.locB row) = n at *
      go_wp2_with (first
        | (at_mapUpdate; refine wpList_mapUpdate_own _ rfl _ _ _ 53 rfl 9 3 lawS Try.underlying53 intR w.heap.size k D rfl hown3 hk8 _ _ (.string (Loc.locB row)) rfl rfl HK.out (.lit (.int .i64 ((n : Int) + 1))) [] rfl ?_; intro w4 hown4 hg4; go_frame)
        | go_in)
      have HO4 := Lib.hid hown4
      have HT4 := Lib.hid ((HT.out.trans (Cd.Touch.of_below HX3.out)).trans (touch_grown hg4))
      clear hown4 hg4 hown3 hrun
      go_wp2_with fail
      go_roundw
      case rel => exact ⟨k + 1, _, by omega, by go_num, HO4.out, by rw [HNX.out]; exact HPT.out, HT4.out⟩
      case measure => simp [intOf]; omega
    · have ek : k = rows.length := by omega
      subst ek
      have HTK := Lib.hid (show (keysT rows V).take rows.length = keysT rows V from List.take_of_length_le (by rw [HKL.out]; exact Nat.le_refl _))
      rw [HTK.out] at HCN
      go_wp2_with fail
      go_ret
      exact ⟨D, rows.length, rfl, HOW.out, h8, HCN.out, HSZ.out, HB.out⟩
end Go.Proofs.Ytnjomgefmoehhaa.DegImp
