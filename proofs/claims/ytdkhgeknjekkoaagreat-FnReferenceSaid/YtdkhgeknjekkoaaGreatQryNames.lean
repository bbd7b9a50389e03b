/- Queries: the names of variables, one behind another: the model's function and the program's. -/
import Derived.Test.YtdkhgeknjekkoaaGreatQrySpec1
import Derived.Test.YtdkhgeknjekkoaaGreatTabFmt
import Derived.Test.YtdkhgeknjekkoaaGreatCdN
import Derived.Test.YtdkhgeknjekkoaaGreatCdRoom
import Derived.Test.YtdkhgeknjekkoaaGreatTabParse
import Derived.Test.YtdkhgeknjekkoaaGreatShelf
import Derived.Deep.RegionLaw
import Derived.Lib.Join
namespace Go.Proofs.YtdkhgeknjekkoaaGreat.QryFmt
open Go Go.RowKit Byt Ints IntsLaw Cd Rows2 Tab TabSpec Exact Atom QryMath QrySpec
open TabParse (strC strsC info_str)

theorem vnm_in {x : Int} (h : 0 ≤ x ∧ x < 4) : vnm x = ⟨#[vb x]⟩ := if_pos h
set_option maxRecDepth 100000 in
theorem spec_names (v : Value) (l : List Int) (B : Nat) (w : World) (hr : RI w v l B) (h4 : In4 l) (h3 : l.length ≤ 4) :
    Calls Tryz.prog 61 #[v] w fun e w' => e = .returned (.string ⟨(l.map vb).toArray⟩) ∧ w = w' := by
  have HR := Lib.hid hr
  have H4 := Lib.hid h4
  obtain ⟨a, cap, rfl, hlm, _⟩ := hr
  clear h4
  go_enter Tryz.func61, Tryz.ntmps61
  go_wp2
  go_loop [3, 4] (fun s i => ∃ k : Nat, k ≤ l.length ∧ i = .int .i64 k ∧ s = .string ⟨((l.take k).map vb).toArray⟩) (fun _ i => l.length - (intOf i).toNat)
  case atStart => exact ⟨0, Nat.zero_le _, rfl, by simp⟩
  case round =>
    obtain ⟨k, hk, rfl, rfl⟩ := hrel
    by_cases hlt : k < l.length
    · obtain ⟨b, off, cap', e1, hbB, hc⟩ := ri_at HR.out hlt
      injection e1 with e1 e2 e3
      subst e1 e3
      have p1 : (0 : Int) ≤ (k : Int) := by omega
      have p2 : (k : Int) < (l.length : Int) := by omega
      have hsn := fun w => spec_name l[k] w
      have HS := Lib.hid hsn
      rw [vnm_in (H4.out _ (List.getElem_mem hlt))] at HS
      have HT := Lib.hid (show (⟨((l.take (k + 1)).map vb).toArray⟩ : ByteArray) = ⟨((l.take k).map vb).toArray⟩ ++ ⟨#[vb l[k]]⟩ by
        rw [List.take_succ_eq_append_getElem hlt, List.map_append]
        simp [ByteArray.mk_append_mk])
      have hpl : ((l.take k).map vb).length ≤ 4 := by rw [List.length_map, List.length_take]; omega
      have HPL := Lib.hid hpl
      have hsz : (⟨((l.take k).map vb).toArray⟩ : ByteArray).size ≤ 4 := by show ((l.take k).map vb).toArray.size ≤ 4; rw [List.size_toArray]; exact hpl
      clear hsn hpl
      generalize l[k] = z at *
      generalize (⟨((l.take k).map vb).toArray⟩ : ByteArray) = P at *
      have l1 : ¬ 9223372036854775807 < P.size + 1 := by omega
      go_wp2_with (go_at_call 111; refine (HS.out _).mono ?_; rintro e w1 ⟨rfl, rfl⟩)
      go_round
      case rel => exact ⟨k + 1, by omega, by go_num, by rw [HT.out]⟩
      case measure => simp [intOf]; omega
    · have ek : k = l.length := by omega
      subst ek
      rw [List.take_length] at *
      go_wp2
      go_ret
      exact ⟨rfl, rfl⟩
theorem strs_at {w : World} {S : Nat → Prop} {v : Value} {l : List ByteArray} (h : strsC.rd w S [v] l) {j : Nat} (hj : j < l.length) :
    ∃ b off cap, v = .slice (some ⟨b, off, none⟩) l.length cap ∧ b < w.heap.size ∧ w.cell? ⟨b, off + j, none⟩ = some (.string l[j]) := by
  obtain ⟨b, off, cap, us, e1, _, hb, hat, hu⟩ := Cd.sl_at h hj
  obtain ⟨rfl, _⟩ := hu
  have c0 := hat 0 (by simp)
  simp only [List.getElem_cons_zero, Nat.add_zero, show strC.n = 1 from rfl, Nat.mul_one] at c0
  exact ⟨b, off, cap, e1, hb, c0⟩
def KeptF (w w' : World) : Prop := Below w.heap.size w w'
/-- Strings joined. -/
theorem join_strs (g : Nat) (xs : List ByteArray) (sep : ByteArray) (fp : List Nat) (w : World) (base : Nat) (how : strsC.ow w base [.slice (some ⟨g, 0, none⟩) xs.length xs.length] xs fp) (h8 : xs.length ≤ 8) (hl : (Lib.join (xs.map (·.data.toList)) sep.data.toList).length ≤ 100) :
    Calls Tryz.prog 105 #[.slice (some ⟨g, 0, none⟩) xs.length xs.length, .string sep] w fun e w' => e = .returned (.string ⟨(Lib.join (xs.map (·.data.toList)) sep.data.toList).toArray⟩) ∧ Below w.heap.size w w' := by
  have hg : g < w.heap.size := by
    obtain ⟨v, xss, fps, e1, hown, _, _⟩ := how
    injection e1 with e1 _
    subst e1
    rcases hown.2 with ⟨e1, _⟩ | ⟨g', cap', cur, e1, _, hgg, _⟩
    · cases e1
    · simp only [Value.slice.injEq, Option.some.injEq, Addr.mk.injEq, and_true] at e1
      obtain ⟨rfl, _, _⟩ := e1
      exact (Array.getElem?_eq_some_iff.1 hgg).1
  exact Tryz.strings_Join g 0 xs.length xs sep w (fun j x hj => by
    obtain ⟨hj1, hj2⟩ := List.getElem?_eq_some_iff.1 hj
    obtain ⟨b, off, cap, e1, _, hc⟩ := strs_at (strsC.ow_rd how) hj1
    simp only [Value.slice.injEq, Option.some.injEq, Addr.mk.injEq, and_true] at e1
    obtain ⟨⟨rfl, rfl⟩, _, _⟩ := e1
    rw [← hj2]
    exact hc) hg (by omega) (Nat.le_refl _) (by omega)

def nmL (l : List Int) : List ByteArray := l.map vnm
set_option maxRecDepth 100000 in
set_option maxHeartbeats 1600000 in
theorem map_names (v : Value) (l : List Int) (S : Nat → Prop) (w : World) (hr : rowC.rd w S [v] l) (h8 : l.length ≤ 8) :
    Calls Tryz.prog 106 #[v, .func (.func 107) #[] #[]] w fun e w' => ∃ g fp, e = .returned (.slice (some ⟨g, 0, none⟩) l.length l.length) ∧ strsC.ow w' w.heap.size [.slice (some ⟨g, 0, none⟩) l.length l.length] (nmL l) fp ∧ fp.Nodup ∧ Below w.heap.size w w' := by
  obtain ⟨i0, hi, hz0, hz1, hz2⟩ := info_parts info_str
  have HR := Lib.hid (fun w' (hb : Below w.heap.size w w') => Cd.later hr hb)
  obtain ⟨a, cap, rfl, hlm, _⟩ := (row_ri hr).1
  clear hr
  go_enter Tryz.func106, Tryz.ntmps106
  go_wp2_with (at_make; refine wpList_make_own _ rfl _ _ 127 rfl w.heap.size 9 i0 (.string ⟨#[]⟩) 1 Tryz.underlying127 hi hz0 hz1 _ _ _ l.length rfl rfl rfl (by rw [hz2]; omega) (by unfold maxLen; omega) (Nat.le_refl _) ?_)
  intro w1 hown0 hg0
  have how1 : strsC.ow w1 w.heap.size [.slice (some ⟨w.heap.size, 0, none⟩) 0 l.length] [] [w.heap.size] := ⟨_, [], [], rfl, hown0, trivial, rfl⟩
  have hb1 : Below w.heap.size w w1 := (Below.refl _ _).grown hg0 (Nat.le_refl _) (by simp)
  clear hown0 hg0
  go_wp2_with fail
  go_loopw [5, 13] (fun o i wr => ∃ (k : Nat) (fp : List Nat), k ≤ l.length ∧ i = .int .i64 k ∧ o = .slice (some ⟨w.heap.size, 0, none⟩) k l.length ∧ strsC.ow wr w.heap.size [.slice (some ⟨w.heap.size, 0, none⟩) k l.length] (nmL (l.take k)) fp ∧ fp.Nodup ∧ Below w.heap.size w wr) (fun _ i _ => l.length - (intOf i).toNat)
  case atStart => exact ⟨0, _, Nat.zero_le _, rfl, rfl, how1, by simp, hb1⟩
  case round =>
    obtain ⟨k, fp, hk, rfl, rfl, how, hnd, hb⟩ := hrel
    by_cases hlt : k < l.length
    · obtain ⟨b, off, cap', e1, hbB, hc⟩ := ri_at (row_ri (HR.out wr hb)).1 hlt
      injection e1 with e1 e2 e3
      subst e1 e3
      have HC := Lib.hid (impl_name l[k] wr)
      have HOW := Lib.hid how
      have HND := Lib.hid hnd
      have HB := Lib.hid hb
      have HT := Lib.hid (show nmL (l.take (k + 1)) = nmL (l.take k) ++ [vnm l[k]] by unfold nmL; rw [List.take_succ_eq_append_getElem hlt, List.map_append]; rfl)
      have HSZ := Lib.hid (show (vnm l[k]).size ≤ maxLen by
        unfold vnm
        split
        · exact (show 1 ≤ maxLen by decide)
        · exact Nat.zero_le _)
      have HL := Lib.hid (show k = (nmL (l.take k)).length by unfold nmL; rw [List.length_map, List.length_take]; omega)
      clear how hnd hb how1 hb1
      generalize vnm l[k] = r at *
      generalize l[k] = z at *
      go_wp2_with fail
      refine HC.out.mono ?_
      rintro e w2 ⟨rfl, rfl⟩
      have hb2 : Below wr.heap.size wr wr := Below.refl _ _
      have hbA : Below wr.heap.size wr (wr.alloc (.cells #[.string r] 9 (0, 0))) := below_alloc _ _
      have HOW2 := Lib.hid (Cd.ow_later (Cd.ow_later HOW.out hb2) hbA)
      have HB2 := Lib.hid (below_then (below_then HB.out hb2) hbA)
      have HBS := Lib.hid (show w.heap.size ≤ (wr.alloc (.cells #[.string r] 9 (0, 0))).heap.size by rw [size_alloc]; have := HB.out.size; omega)
      have HCELL := Lib.hid (show (wr.alloc (.cells #[.string r] 9 (0, 0))).cell? ⟨wr.heap.size, 0, none⟩ = some (.string r) from World.cell?_alloc_mark _ _ _ _ 0)
      clear hbA hb2
      go_wp2_with (at_builtin; refine Cd.wpList_appendR (c := strC) rfl rfl (.tmp 17) (.tmp 21) 127 rfl w.heap.size 9 (.string ⟨#[]⟩) 16 Tryz.underlying127 info_str rfl (by decide) w.heap.size l.length k (nmL (l.take k)) fp rfl HL.out HOW2.out HND.out (by omega) wr.heap.size (.string r) rfl HCELL.out r [] ⟨rfl, HSZ.out, rfl⟩ List.nodup_nil (fun b hb => by cases hb) (by omega) HBS.out ?_)
      intro w3 fp3 ho3 hn3 hsub3 ht3
      have HB3 := Lib.hid (ht3.below HB2.out (fun b hb => (strsC.ow_lt HOW.out b hb).1))
      rw [← HT.out] at ho3
      clear ht3 hsub3
      go_wp2_with fail
      go_roundw
      case rel => exact ⟨k + 1, fp3, by omega, by go_num, rfl, ho3, hn3, HB3.out⟩
      case measure => simp [intOf]; omega
    · have ek : k = l.length := by omega
      subst ek
      rw [List.take_length] at how
      go_wp2_with fail
      go_ret
      exact ⟨_, fp, rfl, how, hnd, hb⟩
theorem join_names (l : List Int) (h : In4 l) : Lib.join ((l.map vnm).map (·.data.toList)) [] = l.map vb := by
  have : ∀ l : List Int, In4 l → (l.map vnm).map (·.data.toList) = l.map fun x => [vb x] := by
    intro l
    induction l with
    | nil => intro _; rfl
    | cons x xs ih =>
      intro h
      rw [List.map_cons, List.map_cons, List.map_cons, ih fun y hy => h y (List.mem_cons_of_mem _ hy), vnm_in (h x List.mem_cons_self)]
  rw [this l h]
  clear this h
  unfold Lib.join
  induction l with
  | nil => rfl
  | cons x xs ih =>
    cases xs with
    | nil => rfl
    | cons y ys =>
      simp only [List.intercalate, List.map_cons, List.intersperse, List.flatten_cons] at ih ⊢
      rw [ih]
      rfl
set_option maxRecDepth 100000 in
theorem format_vars (u : Value) (vs : List Int) (S : Nat → Prop) (w : World) (hr : rowC.rd w S [u] vs) (h4 : In4 vs) (h8 : vs.length ≤ 8) :
    Calls Tryz.prog 58 #[u] w fun e w' => e = .returned (.string ⟨(vs.map vb).toArray⟩) ∧ Below w.heap.size w w' := by
  have HMP := Lib.hid (map_names u vs S w hr h8)
  have HJ := Lib.hid (fun g fp w' base (how : strsC.ow w' base [.slice (some ⟨g, 0, none⟩) vs.length vs.length] (nmL vs) fp) => (show Calls Tryz.prog 105 #[.slice (some ⟨g, 0, none⟩) vs.length vs.length, .string ⟨#[]⟩] w' fun e w'' => e = .returned (.string ⟨(vs.map vb).toArray⟩) ∧ Below w'.heap.size w' w'' from by
    have hl : (vs.map vnm).length = vs.length := List.length_map ..
    have h := join_strs g (vs.map vnm) ⟨#[]⟩ fp w' base (by rw [hl]; exact how) (by omega) (by rw [show (ByteArray.mk #[]).data.toList = [] from rfl, join_names vs h4, List.length_map]; omega)
    rw [hl, show (ByteArray.mk #[]).data.toList = [] from rfl, join_names vs h4] at h
    exact h))
  obtain ⟨a, cap, rfl, hlm, _⟩ := (row_ri hr).1
  clear hr h4 h8
  go_enter Tryz.func58, Tryz.ntmps58
  go_wp2_with fail
  refine HMP.out.mono ?_
  rintro e w1 ⟨g, fp, rfl, how, hnd, hb1⟩
  have HJ1 := Lib.hid (HJ.out g fp w1 _ how)
  have HB1 := Lib.hid hb1
  clear how hnd hb1
  go_wp2_with fail
  refine HJ1.out.mono ?_
  rintro e w2 ⟨rfl, hb2⟩
  have HB2 := Lib.hid (below_then HB1.out hb2)
  clear hb2
  go_wp2_with fail
  go_ret
  exact ⟨rfl, HB2.out⟩
end Go.Proofs.YtdkhgeknjekkoaaGreat.QryFmt
