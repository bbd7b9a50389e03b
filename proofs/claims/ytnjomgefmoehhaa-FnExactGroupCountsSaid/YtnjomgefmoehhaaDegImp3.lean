/- Degree sequences: the program's groups. -/
import Derived.Test.YtnjomgefmoehhaaDegImp2
import Derived.Test.YtnjomgefmoehhaaDegSort
import Derived.Test.YtnjomgefmoehhaaCdRoom
namespace Go.Proofs.Ytnjomgefmoehhaa.DegImp
open Go Go.RowKit Byt Ints IntsLaw Cd Rows2 Tab TabSpec TabImp Exact DegMath DegSpec
open Go.Maps (Keyed string_keyed IsMap Tidy)

theorem strs_at {w : World} {S : Nat → Prop} {v : Value} {l : List (List UInt8)} (h : strsC.rd w S [v] l) {k : Nat} (hk : k < l.length) :
    ∃ b off cap, v = .slice (some ⟨b, off, none⟩) l.length cap ∧ b < w.heap.size ∧ w.cell? ⟨b, off + k, none⟩ = some (.string ⟨(l[k]).toArray⟩) ∧ (l[k]).length ≤ maxLen := by
  obtain ⟨b, off, cap, us, e1, _, hb, hat, hu⟩ := Cd.sl_at h hk
  obtain ⟨rfl, hm⟩ := hu
  have h0 := hat 0 (by simp)
  simp only [List.getElem_cons_zero, Nat.add_zero, show strC.n = 1 from rfl, Nat.mul_one] at h0
  exact ⟨b, off, cap, e1, hb, h0, hm⟩
theorem strs_form {w : World} {S : Nat → Prop} {v : Value} {l : List (List UInt8)} (h : strsC.rd w S [v] l) : ∃ a cap, v = .slice a l.length cap ∧ l.length ≤ 9223372036854775807 := by
  obtain ⟨ad, cap, e, hl, _⟩ := h
  injection e with e _
  exact ⟨ad, cap, e, hl⟩
theorem info_strs : (Try.prog.info? 9).map (fun i => (i.zero, i.size, i.bytes)) = some (some (.string ⟨#[]⟩), 1, 16) := by kernel_rfl
theorem in_digs (l : List UInt8) : InR (Loc.digs l) := fun x hx => by
  unfold Loc.digs at hx
  obtain ⟨b, _, rfl⟩ := List.mem_map.1 hx
  have := UInt8.toNat_lt b
  omega

set_option maxRecDepth 100000 in
set_option maxHeartbeats 1600000 in
theorem map_keys (v : Value) (l : List (List UInt8)) (S : Nat → Prop) (w : World) (hr : strsC.rd w S [v] l) (hl : l.length ≤ 1000) (hk : ∀ k ∈ l, k.length ≤ 1000) :
    Calls Try.prog 47 #[v, .func (.func 48) #[] #[]] w fun e w' => ∃ g fp, e = .returned (.slice (some ⟨g, 0, none⟩) l.length l.length) ∧ rowsC.ow w' w.heap.size [.slice (some ⟨g, 0, none⟩) l.length l.length] (l.map Loc.digs) fp ∧ fp.Nodup ∧ Below w.heap.size w w' := by
  obtain ⟨i0, hi, hz0, hz1, hz2⟩ := info_parts info_ints
  have HR := Lib.hid (fun w' (hb : Below w.heap.size w w') => Cd.later hr hb)
  have HK := Lib.hid hk
  obtain ⟨a, cap, rfl, hlm⟩ := strs_form hr
  clear hr hk
  go_enter Try.func47, Try.ntmps47
  go_wp2_with (at_make; refine wpList_make_own _ rfl _ _ 24 rfl w.heap.size 27 i0 (.slice none 0 0) 1 Try.underlying24 hi hz0 hz1 _ _ _ l.length rfl rfl rfl (by rw [hz2]; omega) (by unfold maxLen; omega) (Nat.le_refl _) ?_)
  intro w1 hown0 hg0
  have how1 : rowsC.ow w1 w.heap.size [.slice (some ⟨w.heap.size, 0, none⟩) 0 l.length] [] [w.heap.size] := ⟨_, [], [], rfl, hown0, trivial, rfl⟩
  have hb1 : Below w.heap.size w w1 := (Below.refl _ _).grown hg0 (Nat.le_refl _) (by simp)
  clear hown0 hg0
  go_wp2_with fail
  go_loopw [5, 13] (fun o i wr => ∃ (k : Nat) (fp : List Nat), k ≤ l.length ∧ i = .int .i64 k ∧ o = .slice (some ⟨w.heap.size, 0, none⟩) k l.length ∧ rowsC.ow wr w.heap.size [.slice (some ⟨w.heap.size, 0, none⟩) k l.length] ((l.take k).map Loc.digs) fp ∧ fp.Nodup ∧ Below w.heap.size w wr) (fun _ i _ => l.length - (intOf i).toNat)
  case atStart => exact ⟨0, _, Nat.zero_le _, rfl, rfl, how1, by simp, hb1⟩
  case round =>
    obtain ⟨k, fp, hk, rfl, rfl, how, hnd, hb⟩ := hrel
    by_cases hlt : k < l.length
    · obtain ⟨b, off, cap', e1, hbB, hc, _⟩ := strs_at (HR.out wr hb) hlt
      injection e1 with e1 e2 e3
      subst e1 e3
      have HC := Lib.hid (Dig.parse_digits ⟨(l[k]).toArray⟩ wr (by have := HK.out _ (List.getElem_mem hlt); show (l[k]).toArray.size ≤ _; rw [List.size_toArray]; omega))
      have HOW := Lib.hid how
      have HND := Lib.hid hnd
      have HB := Lib.hid hb
      have HT := Lib.hid (show (l.take (k + 1)).map Loc.digs = (l.take k).map Loc.digs ++ [Loc.digs l[k]] by rw [List.take_succ_eq_append_getElem hlt, List.map_append]; rfl)
      have HL := Lib.hid (show k = ((l.take k).map Loc.digs).length by rw [List.length_map, List.length_take]; omega)
      have HIN := Lib.hid (in_digs l[k])
      clear how hnd hb how1 hb1
      simp only at HC
      generalize l[k] = r at *
      generalize (l.take k).map Loc.digs = out at *
      generalize Loc.digs r = d at *
      go_wp2_with fail
      refine HC.out.mono ?_
      rintro e w2 ⟨v2, rfl, ho2, hb2⟩
      have ho2 := Cd.ow_of_own ho2 HIN.out
      obtain ⟨a2, c2, rfl⟩ := Cd.ow_slice ho2
      have hbA : Below w2.heap.size w2 (w2.alloc (.cells #[.slice a2 d.length c2] 27 (0, 0))) := below_alloc _ _
      have HOW2 := Lib.hid (Cd.ow_later (Cd.ow_later HOW.out hb2) hbA)
      have HO2 := Lib.hid (rowC.ow_base (Cd.ow_later ho2 hbA) HB.out.size)
      have HB2 := Lib.hid (below_then (below_then HB.out hb2) hbA)
      have HDIS := Lib.hid (show ∀ b ∈ (Value.slice a2 d.length c2).ownBlock.toList, b ∉ fp from fun b hb q => by
        have h1 := (rowC.ow_lt ho2 _ hb).1
        have h2 := (rowsC.ow_lt HOW.out _ q).2
        omega)
      have HBS := Lib.hid (show w.heap.size ≤ (w2.alloc (.cells #[.slice a2 d.length c2] 27 (0, 0))).heap.size by rw [size_alloc]; have := HB.out.size; have := hb2.size; omega)
      have HCELL := Lib.hid (show (w2.alloc (.cells #[.slice a2 d.length c2] 27 (0, 0))).cell? ⟨w2.heap.size, 0, none⟩ = some (.slice a2 d.length c2) from World.cell?_alloc_mark _ _ _ _ 0)
      have HFN := Lib.hid (Cd.own_nodup (v := .slice a2 d.length c2))
      clear hbA ho2 hb2
      go_wp2_with (at_builtin; refine Cd.wpList_appendR (c := rowC) rfl rfl (.tmp 17) (.tmp 21) 24 rfl w.heap.size 27 (.slice none 0 0) 24 Try.underlying24 info_ints rfl (by decide) w.heap.size l.length k out fp rfl HL.out HOW2.out HND.out (by omega) w2.heap.size (.slice a2 d.length c2) rfl HCELL.out d _ HO2.out HFN.out HDIS.out (by omega) HBS.out ?_)
      intro w3 fp3 ho3 hn3 hsub3 ht3
      have HB3 := Lib.hid (ht3.below HB2.out (fun b hb => (rowsC.ow_lt HOW.out b hb).1))
      rw [← HT.out] at ho3
      clear ht3 hsub3
      go_wp2_with fail
      go_roundw
      case rel => exact ⟨k + 1, fp3, by omega, by go_num, rfl, ho3, hn3, HB3.out⟩
      case measure => simp [intOf]; omega
    · have ek : k = l.length := by omega
      subst ek
      rw [List.take_length] at how
      go_wp2_with fail
      go_ret
      exact ⟨_, fp, rfl, how, hnd, hb⟩
/-- The keys that are gathered so far. -/
structure GathK (D : DataW Value) (left : Lit → Bool) (cur : List (List UInt8)) : Prop where
  mem : ∀ k, k ∈ cur ↔ (Maps.has D (.string k) = true ∧ left (.string k) = false)
  nd : cur.Nodup
theorem GathK.start (D : DataW Value) : GathK D (Maps.has D) [] := ⟨fun k => ⟨(fun h => by cases h), (fun ⟨h1, h2⟩ => by rw [h1] at h2; cases h2)⟩, List.nodup_nil⟩
theorem same_keyK {s t : List UInt8} : (Lit.string s).sameKey (Lit.string t) = decide (s = t) := by
  by_cases e : s = t
  · subst e; rw [decide_eq_true rfl]; simp [Lit.sameKey]
  · rw [decide_eq_false e]; exact Maps.sameKey_ne (str_ne e)
theorem GathK.step {D : DataW Value} {left : Lit → Bool} {cur : List (List UInt8)} (h : GathK D left cur) {k : List UInt8} (hD : Maps.has D (.string k) = true) (hl : left (.string k) = true) : GathK D (fun z => left z && !z.sameKey (.string k)) (cur ++ [k]) := by
  refine ⟨fun x => ?_, ?_⟩
  · rw [List.mem_append, List.mem_singleton, h.mem, same_keyK]
    simp only [Bool.and_eq_false_iff, Bool.not_eq_false', decide_eq_true_eq]
    constructor
    · rintro (⟨q1, q2⟩ | rfl)
      · exact ⟨q1, .inl q2⟩
      · exact ⟨hD, .inr rfl⟩
    · rintro ⟨q1, q2 | q2⟩
      · exact .inl ⟨q1, q2⟩
      · exact .inr q2
  · rw [List.nodup_append]
    refine ⟨h.nd, by simp, fun a ha b hb e => ?_⟩
    rw [List.mem_singleton.1 hb] at e
    have := ((h.mem a).1 ha).2
    rw [e, hl] at this
    cases this
theorem key_invS {v : Value} {kl : Lit} (h : keyOf Try.prog 9 v = some kl) : ∃ x : ByteArray, v = .string x := by
  rw [keyOf_string Try.underlying9] at h
  unfold mapKey at h
  rw [Try.underlying9] at h
  split at h <;> simp_all
theorem key_eqS {x : ByteArray} {kl : Lit} (h : keyOf Try.prog 9 (.string x) = some kl) : kl = .string x.data.toList ∧ x.data.toList.length ≤ maxLen := by
  rw [keyOf_string Try.underlying9] at h
  unfold mapKey at h
  rw [Try.underlying9] at h
  simp only at h
  split at h
  · rename_i hs
    injection h with h
    exact ⟨h.symm, by rw [Array.length_toList]; exact hs⟩
  · cases h
end Go.Proofs.Ytnjomgefmoehhaa.DegImp
