/- Dependencies: read: the model's function and the program's. -/
import Derived.Test.YtnoennmhifmolaaDoorDepFmt
import Derived.Test.YtnoennmhifmolaaDoorTabParse
import Derived.Test.YtnoennmhifmolaaDoorDig
import Derived.Test.YtnoennmhifmolaaDoorTabImp5
import Derived.Test.YtnoennmhifmolaaDoorRegH
import Derived.Deep.DeepCutAuto
import Derived.Lib.IndexMore
namespace Go.Proofs.YtnoennmhifmolaaDoor.DepPar
open Go Go.RowKit Byt Ints IntsLaw Cd Rows2 Tab TabSpec Exact TabParse

theorem len_s (s : ByteArray) : s.data.toList.length = s.size := Array.length_toList
theorem ba_nil {s : ByteArray} (h : s.size = 0) : s = ⟨#[]⟩ := by
  obtain ⟨d⟩ := s
  have : d.size = 0 := h
  rw [Array.size_eq_zero_iff.1 this]
/-- The digit at a place of the string. -/
def cI (s : ByteArray) (i : Nat) : Int := ((s.data.toList.getD i 0).toNat : Int) - 48
theorem cI_at {s : ByteArray} {i : Nat} (h : i < s.size) : (((s[i]'h).toNat : Int) - 48) = cI s i := by
  have hl : i < s.data.toList.length := by rw [len_s]; exact h
  unfold cI
  rw [List.getD_eq_getElem?_getD, List.getElem?_eq_getElem hl]
  rfl
theorem wr_byte (b : UInt8) : IntKind.i64.wrap (IntKind.i64.wrap (b.toNat : Int) - 48) = (b.toNat : Int) - 48 := by
  have := b.toNat_lt
  rw [IntKind.wrap_i64, IntKind.wrap_i64]
  omega
def pN (s : ByteArray) : ByteArray := s.extract 0 1
def pV (s : ByteArray) : List Int := vals (s.extract 1 (s.size - 2)).data.toList
def pT (s : ByteArray) : Int := cI s (s.size - 1)
def pdOk (s : ByteArray) : Bool := decide (3 ≤ s.size ∧ s.size ≤ 5 ∧ DepFmt.fmtD (pN s) (pV s) (pT s) = s)
/-- What is read of a string. -/
def PAns (s : ByteArray) (w : World) (e : Ending) (w' : World) : Prop :=
  ∃ u fp, e = .returned (.tuple #[.agg #[.string (if pdOk s then pN s else ⟨#[]⟩), u, .int .i64 (if pdOk s then pT s else 0)], .bool (pdOk s)]) ∧ rowC.ow w' w.heap.size [u] (if pdOk s then pV s else []) fp ∧ fp.Nodup ∧ Below w.heap.size w w'
theorem PAns.no {s : ByteArray} {w w' : World} (h : pdOk s = false) (hb : Below w.heap.size w w') : PAns s w (.returned (.tuple #[.agg #[.string ⟨#[]⟩, .slice none 0 0, .int .i64 0], .bool false])) w' :=
  ⟨.slice none 0 0, [], by simp [h], by rw [h]; exact Cd.ow_nil _ _, by simp, hb⟩
theorem PAns.yes {s : ByteArray} {w w' : World} {u : Value} {fp : List Nat} (h : pdOk s = true) (ho : rowC.ow w' w.heap.size [u] (pV s) fp) (hn : fp.Nodup) (hb : Below w.heap.size w w') : PAns s w (.returned (.tuple #[.agg #[.string (pN s), u, .int .i64 (pT s)], .bool true])) w' :=
  ⟨u, fp, by simp [h], by rw [h]; exact ho, hn, hb⟩
/-- A local dependency, made behind W1. -/
def MadeD (W1 : World) (nm : ByteArray) (row : List Int) (t : Int) (s4 : Value) (wx : World) : Prop :=
  ∃ k a c fp, s4 = .pointer (some ⟨k, 0, none⟩) ∧ W1.heap.size ≤ k ∧ Loc3 wx k (.string nm) (.slice a row.length c) (.int .i64 t) ∧ rowC.ow wx W1.heap.size [.slice a row.length c] row fp ∧ fp.Nodup ∧ Below W1.heap.size W1 wx
theorem madeD {W1 wq : World} {k : Nat} {a : Option Addr} {c n : Nat} {x0 x1 x2 : Value} {nm : ByteArray} {t : Int} {row : List Int} {fp : List Nat} (kk : Below W1.heap.size W1 wq) (hb : W1.heap.size ≤ k) (GL : Loc3 wq k x0 x1 x2)
    (HO : rowC.ow wq W1.heap.size [.slice a n c] row fp) (hn : n = row.length) (hnd : fp.Nodup) (hbn : k ∉ fp) :
    MadeD W1 nm row t (.pointer (some ⟨k, 0, none⟩)) (((wq.setCell ⟨k, 0, none⟩ (.string nm)).setCell ⟨k, 1, none⟩ (.slice a n c)).setCell ⟨k, 2, none⟩ (.int .i64 t)) := by
  subst hn
  obtain ⟨c0, c1, c2, f0, f1, f2⟩ := GL
  obtain ⟨k0, k1, k2⟩ := set3 (w := wq) (k := k) (x := .string nm) (y := .slice a row.length c) (z := .int .i64 t) c0 c1 c2
  exact ⟨k, a, c, fp, rfl, hb, ⟨k0, k1, k2, by simpa using f0, by simpa using f1, by simpa using f2⟩, ow_setCell (ow_setCell (ow_setCell HO hbn _) hbn _) hbn _, hnd, ((Below.setCell kk hb _).setCell hb _).setCell hb _⟩

/-! ### cutting at the sign -/
theorem index_hit (c : UInt8) : ∀ (a b : List UInt8), c ∉ a → Lib.index (a ++ c :: b) [c] = a.length
  | [], b, _ => by simp [Lib.index, List.isPrefixOf]
  | x :: a, b, h => by
    have hx : ¬ c = x := fun q => h (by rw [q]; exact List.mem_cons_self)
    have ih := index_hit c a b (fun q => h (List.mem_cons_of_mem _ q))
    have hp : List.isPrefixOf [c] (x :: (a ++ c :: b)) = false := by
      have : (c == x) = false := by rw [beq_eq_false_iff_ne]; exact hx
      simp [List.isPrefixOf, this]
    show Lib.index (x :: (a ++ c :: b)) [c] = _
    unfold Lib.index
    rw [hp, ih]
    have : ((a.length : Int) == -1) = false := by rw [beq_eq_false_iff_ne]; omega
    rw [this]
    simp
theorem index_miss (c : UInt8) : ∀ l : List UInt8, c ∉ l → Lib.index l [c] = -1
  | [], _ => rfl
  | x :: l, h => by
    have hx : ¬ c = x := fun q => h (by rw [q]; exact List.mem_cons_self)
    have hp : List.isPrefixOf [c] (x :: l) = false := by
      have : (c == x) = false := by rw [beq_eq_false_iff_ne]; exact hx
      simp [List.isPrefixOf, this]
    unfold Lib.index
    rw [hp, index_miss c l (fun q => h (List.mem_cons_of_mem _ q))]
    rfl
theorem cut_hit (c : UInt8) (a b : List UInt8) (h : c ∉ a) : Lib.cut (a ++ c :: b) [c] = (a, b, true) := by
  unfold Lib.cut
  rw [index_hit c a b h, if_pos (by omega)]
  simp
theorem cut_miss (c : UInt8) (l : List UInt8) (h : c ∉ l) : Lib.cut l [c] = (l, [], false) := by
  unfold Lib.cut
  rw [index_miss c l h]
  rfl
theorem cut_part (c : UInt8) (l : List UInt8) : (c ∉ l ∧ Lib.cut l [c] = (l, [], false)) ∨ ∃ a b, c ∉ a ∧ l = a ++ c :: b ∧ Lib.cut l [c] = (a, b, true) := by
  by_cases h : c ∈ l
  · obtain ⟨a, b, e, hn⟩ := List.eq_append_cons_of_mem h
    exact .inr ⟨a, b, hn, e, by rw [e]; exact cut_hit c a b hn⟩
  · exact .inl ⟨h, cut_miss c l h⟩
theorem ext_ba (s : ByteArray) (i j : Nat) : (s.extract i j).data.toList = (s.data.toList.drop i).take (j - i) := by
  rw [ByteArray.data_extract, Array.toList_extract]
  try rw [List.extract_eq_drop_take]
theorem ba_ext {s t : ByteArray} (h : s.data.toList = t.data.toList) : s = t := by
  obtain ⟨⟨a⟩⟩ := s; obtain ⟨⟨b⟩⟩ := t
  have : a = b := h
  rw [this]
/-- A format's bytes. -/
theorem ok_form {s : ByteArray} (h : pdOk s = true) : ∃ a d, (62 : UInt8) ∉ a ∧ a ≠ [] ∧ s.data.toList = a ++ 62 :: [d] := by
  obtain ⟨h3, _, hf⟩ := of_decide_eq_true h
  by_cases hk : DepFmt.fdOk (pN s) (pV s) (pT s) = true
  · rw [DepFmt.fmtD_yes hk] at hf
    unfold DepFmt.fdOk at hk
    rw [Bool.and_eq_true] at hk
    obtain ⟨q1, q2, q3, _, _⟩ := DepFmt.fd_parts hk.1 hk.2
    have hn := (of_decide_eq_true hk.1 : _ ∧ _ ∧ _)
    have hl : (pN s).data.toList.length = 1 := by rw [len_s]; exact q1
    have hlist : s.data.toList = (pN s).data.toList ++ TabFmt.digB (pV s) ++ [62] ++ [DepFmt.dig1 (pT s)] := by
      have := congrArg (fun x : ByteArray => x.data.toList) hf
      exact this.symm
    refine ⟨(pN s).data.toList ++ TabFmt.digB (pV s), DepFmt.dig1 (pT s), ?_, ?_, ?_⟩
    · generalize (pN s).data.toList = nl at *
      match nl, hl with
      | [x], _ =>
        intro q
        rcases List.mem_append.1 q with q | q
        · have e : (62 : UInt8) = x := by simpa using q
          have hx : 97 ≤ x.toNat := hn.2.1
          rw [← e] at hx
          exact absurd hx (by decide)
        · unfold TabFmt.digB at q
          obtain ⟨y, hy, e⟩ := List.mem_map.1 q
          have hb := q3 y hy
          have e2 := congrArg UInt8.toNat e
          rw [UInt8.toNat_ofNat'] at e2
          have e3 : (62 : UInt8).toNat = 62 := rfl
          omega
    · intro q
      have := congrArg List.length q
      rw [List.length_append, hl] at this
      simp at this
    · rw [hlist, List.append_assoc, List.append_assoc, List.append_assoc]
      rfl
  · rw [DepFmt.fmtD_no (by simpa using hk)] at hf
    rw [← hf] at h3
    exact absurd h3 (by decide)
/-- What the parts in front of and behind the sign say. -/
theorem parts {s : ByteArray} {a b : List UInt8} {has : Bool} (hc : Lib.cut s.data.toList [62] = (a, b, has)) (h0 : a ≠ []) (h1 : b.length = 1) :
    3 ≤ s.size ∧ a.length + 2 = s.size ∧ s.data.toList = a ++ 62 :: b := by
  rcases cut_part 62 s.data.toList with ⟨_, e⟩ | ⟨a', b', _, e1, e⟩
  · rw [hc] at e
    obtain ⟨rfl, rfl, _⟩ : a = _ ∧ b = _ ∧ has = _ := by simpa using e
    simp at h1
  · rw [hc] at e
    obtain ⟨rfl, rfl, _⟩ : a = _ ∧ b = _ ∧ has = _ := by simpa using e
    have hl := congrArg List.length e1
    rw [len_s, List.length_append, List.length_cons, h1] at hl
    have : 0 < a.length := List.length_pos_iff.2 h0
    exact ⟨by omega, by omega, e1⟩
/-- What the program's function reads of the package variables. -/
def Ready (w : World) : Prop := Format.Tab w ∧ ∃ m, w.cell? ⟨0, 0, none⟩ = some (.int .i64 m)
theorem ready_later {w w' : World} (h : Ready w) (hb : Below w.heap.size w w') : Ready w' := by
  obtain ⟨t, m, hm⟩ := h
  exact ⟨Format.tab_later hb t, m, (hb.cell (World.block_lt_of_cell? w _ hm)).trans hm⟩
theorem inr_vals (l : List UInt8) : InR (vals l) := by
  intro x hx
  obtain ⟨b, _, rfl⟩ := List.mem_map.1 hx
  have := b.toNat_lt
  omega
theorem digits_row (s : ByteArray) (w : World) (h : s.size ≤ 1048577) :
    Calls Tryd.prog 53 #[.string s] w fun e w' => ∃ v' fp, e = .returned v' ∧ rowC.ow w' w.heap.size [v'] (vals s.data.toList) fp ∧ fp.Nodup ∧ Below w.heap.size w w' :=
  (Dig.parse_digits s w h).mono fun _ _ ⟨v', h1, h2, h3⟩ => ⟨v', _, h1, Cd.ow_of_own (l := vals s.data.toList) h2 (inr_vals _), Cd.own_nodup, h3⟩
theorem drewn_below {B n : Nat} {w w' : World} (h : Below B w w') : Below B w (w'.drewN n) := ⟨h.os, h.tape, h.output, h.size, h.block⟩
theorem cut_at (s : ByteArray) (hs : s.size ≤ 1048576) : ∃ (H T : ByteArray) (has : Bool),
    (∀ w, Ready w → Calls Tryd.prog 52 #[.string s, .string ⟨#[62]⟩] w fun e w' => e = .returned (.tuple #[.string H, .string T, .bool has]) ∧ Below w.heap.size w w')
    ∧ (s.size ≤ 5 → H.size ≠ 0 → T.size = 1 → 3 ≤ s.size ∧ H.size ≤ 5 ∧ H.extract 0 1 = pN s ∧ vals (H.extract 1 H.size).data.toList = pV s ∧ ∃ h : 0 < T.size, (((T[0]'h).toNat : Int) - 48) = pT s)
    ∧ (pdOk s = true → H.size ≠ 0 ∧ T.size = 1) := by
  obtain ⟨a, b, has, hc⟩ : ∃ a b has, Lib.cut s.data.toList [62] = (a, b, has) := ⟨_, _, _, rfl⟩
  have hla : (⟨a.toArray⟩ : ByteArray).size = a.length := List.size_toArray
  have hlb : (⟨b.toArray⟩ : ByteArray).size = b.length := List.size_toArray
  refine ⟨⟨a.toArray⟩, ⟨b.toArray⟩, has, ?_, ?_, ?_⟩
  · rintro w ⟨_, m, hm⟩
    have h := Tryd.strings_Cut s ⟨#[62]⟩ m w (by omega) hm
    rw [show (⟨#[62]⟩ : ByteArray).data.toList = [62] from rfl, hc] at h
    refine h.mono ?_
    rintro e w' ⟨rfl, n, rfl⟩
    exact ⟨rfl, drewn_below (Below.refl _ _)⟩
  · intro h5 h0 h1
    rw [hla] at h0
    rw [hlb] at h1
    obtain ⟨g1, g2, g3⟩ := parts hc (fun q => h0 (by rw [q]; rfl)) h1
    match b, h1 with
    | [d], _ =>
      have hpos : 1 ≤ a.length := by omega
      refine ⟨g1, by rw [hla]; omega, ba_ext ?_, ?_, Nat.one_pos, ?_⟩
      · unfold pN
        rw [ext_ba, ext_ba, g3]
        show List.take 1 a = List.take 1 (a ++ 62 :: [d])
        rw [List.take_append_of_le_length hpos]
      · unfold pV
        rw [ext_ba, ext_ba, g3, hla]
        show vals (List.take (a.length - 1) (List.drop 1 a)) = vals (List.take (s.size - 2 - 1) (List.drop 1 (a ++ 62 :: [d])))
        rw [List.drop_append_of_le_length hpos, show s.size - 2 - 1 = a.length - 1 by omega]
        rw [List.take_append_of_le_length (by rw [List.length_drop]; omega)]
      · unfold pT cI
        rw [g3, show s.size - 1 = a.length + 1 by omega]
        rw [List.getD_eq_getElem?_getD, List.getElem?_append_right (by omega), show a.length + 1 - a.length = 1 by omega]
        rfl
  · intro hk
    obtain ⟨a0, d, h1, h2, h3⟩ := ok_form hk
    rw [h3, cut_hit 62 a0 [d] h1] at hc
    obtain ⟨rfl, rfl, _⟩ : a0 = a ∧ [d] = b ∧ true = has := by simpa using hc
    exact ⟨by rw [hla]; exact fun q => h2 (List.length_eq_zero_iff.1 q), rfl⟩
end Go.Proofs.YtnoennmhifmolaaDoor.DepPar
