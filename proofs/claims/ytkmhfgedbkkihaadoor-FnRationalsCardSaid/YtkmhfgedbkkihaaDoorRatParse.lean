/- Reading rationals: the model's and the program's functions. -/
import Derived.Test.YtkmhfgedbkkihaaDoorRatNum
namespace Go.Proofs.YtkmhfgedbkkihaaDoor.RatParse
open Go Go.RowKit Byt Ratio RatGcd RatMake RatOps RatTo Format RatFmt ParsePlain RatSplit RatNum
open Go.Lib (decDigits itoa)

/-- What a call comes to. -/
def AnsR (s : ByteArray) (w : World) (e : Ending) (w' : World) : Prop :=
  ∃ (n d : Int) (ok : Bool), e = .returned (.tuple #[.agg #[.int .i64 n, .int .i64 d], .bool ok]) ∧ RParsed s.data.toList n d ok ∧ Below w.heap.size w w'

theorem str_eq (l : List UInt8) (s : ByteArray) : ((⟨l.toArray⟩ : ByteArray).toList == s.toList) = true ↔ l = s.data.toList := by
  rw [beq_iff_eq, ByteArray.toList_eq, ByteArray.toList_eq]

theorem split_at (s : ByteArray) (k : Nat) (hk : k < s.size) (h47 : s[k] = 47) (hno : (47 : UInt8) ∉ s.data.toList.take k) :
    Split s.data.toList (s.extract 0 k).data.toList (s.extract (k + 1) s.size).data.toList true := by
  have e1 : (s.extract 0 k).data.toList = s.data.toList.take k := by simp [ByteArray.data_extract]
  have e2 : (s.extract (k + 1) s.size).data.toList = s.data.toList.drop (k + 1) := by simp [ByteArray.data_extract, List.take_of_length_le]
  rw [e1, e2]
  refine ⟨hno, fun _ => ?_, fun h => by cases h⟩
  have hl : k < s.data.toList.length := by rw [Array.length_toList]; exact hk
  have e : s.data.toList[k] = 47 := h47
  have h := List.take_append_drop k s.data.toList
  rw [List.drop_eq_getElem_cons hl, e] at h
  exact h.symm
theorem split_none (s : ByteArray) (hno : (47 : UInt8) ∉ s.data.toList) : Split s.data.toList s.data.toList [] false :=
  ⟨hno, (fun h => by cases h), fun _ => rfl⟩

set_option maxRecDepth 100000 in
set_option maxHeartbeats 1600000 in
theorem spec_parse (s : ByteArray) (w : World) (hs : s.size ≤ 1048576) :
    Calls Tryd.prog 24 #[.string s] w (AnsR s w) := by
  go_enter Tryd.func24, Tryd.ntmps24
  go_wp2_with fail
  go_loop [4] (fun at_ => ∃ k : Nat, k ≤ s.size ∧ at_ = .int .i64 k ∧ Hid ((47 : UInt8) ∉ s.data.toList.take k)) (fun at_ => s.size - (intOf at_).toNat)
  case atStart => exact ⟨0, Nat.zero_le _, rfl, Lib.hid (by simp)⟩
  case round =>
    obtain ⟨k, hk, rfl, hno⟩ := hrel
    by_cases hlt : k < s.size
    · by_cases h47 : s[k] = 47
      · have t0 : ((s[k].toNat : Int) != 47) = false := by rw [h47]; rfl
        have HS := Lib.hid (split_at s k hlt h47 hno.out)
        clear h47
        have hne : s.data.toList ≠ [] := fun q => by
          have := congrArg List.length q
          rw [Array.length_toList] at this
          have e : s.data.size = s.size := rfl
          simp only [List.length_nil] at this
          omega
        have HNE := Lib.hid hne
        clear hne
        go_wp2_with fail
        refine (l2num_any (s.extract 0 k) _ (by simp; omega)).mono ?_
        rintro e w1 ⟨v1, rfl, ⟨hv1, hv2⟩, hf1, rfl⟩
        go_wp2_with fail
        refine (l2num_any (s.extract (k + 1) s.size) _ (by simp; omega)).mono ?_
        rintro e w1 ⟨v2, rfl, ⟨hv3, hv4⟩, hf2, rfl⟩
        have HYES := Lib.hid (fun h => ends_yes (l := s.data.toList) (v1 := v1) (v2 := v2) HNE.out h)
        have HNO := Lib.hid (fun h => ends_no HS.out hf1 (fun _ => hf2) (fun h => by cases h) (v1 := v1) (v2 := v2) (.inr h))
        have t1 : s.toList.isEmpty = false := by rw [ByteArray.toList_eq, List.isEmpty_eq_false_iff]; exact HNE.out
        clear hf1 hf2
        by_cases hit : rfmt v1 v2 = s.data.toList
        · have e1 : (rfmt v1 v2 == s.toList) = true := by rw [beq_iff_eq, ByteArray.toList_eq]; exact hit
          have Y := Lib.hid (HYES.out hit)
          clear hit
          go_wp2_with fail
          refine (spec_fmt v1 v2 _).mono ?_
          rintro e w1 ⟨rfl, hb1⟩
          obtain ⟨p0, p1, p2, p3⟩ := row_cells (row_later hb1 (alloc_at1 w _ _) (by simp; omega))
          obtain ⟨q0, q1, _, _⟩ := row_cells (row_later hb1 (alloc_at2 w _ _) (by simp))
          have K := Lib.hid (kept_later hb1 (kept_alloc _ (kept_alloc _ (kept_refl w))))
          clear hb1
          go_wp2_with fail
          refine bodyPost_ret (v := .tuple #[.agg #[.int .i64 v1, .int .i64 v2], .bool true]) (by simp [results, Tryd.results24, go_sem, p0, p1]) rfl ⟨v1, v2, true, rfl, Y.out, ?_⟩
          exact kept_set (kept_set K.out (by simp)) (by simp)
        · have e1 : (rfmt v1 v2 == s.toList) = false := by rw [beq_eq_false_iff_ne, ByteArray.toList_eq]; exact hit
          have Y := Lib.hid (HNO.out hit)
          clear hit
          go_wp2_with fail
          refine (spec_fmt v1 v2 _).mono ?_
          rintro e w1 ⟨rfl, hb1⟩
          obtain ⟨p0, p1, p2, p3⟩ := row_cells (row_later hb1 (alloc_at1 w _ _) (by simp; omega))
          have K := Lib.hid (kept_later hb1 (kept_alloc _ (kept_alloc _ (kept_refl w))))
          clear hb1
          go_wp2_with fail
          refine bodyPost_ret (v := .tuple #[.agg #[.int .i64 0, .int .i64 0], .bool false]) (by simp [results, Tryd.results24, go_sem, p0, p1]) rfl ⟨0, 0, false, rfl, Y.out, ?_⟩
          exact kept_set (kept_set K.out (by simp)) (by simp)
      · have t0 : ((s[k].toNat : Int) != 47) = true := by
          rw [bne_iff_ne]
          intro q
          exact h47 (UInt8.toNat_inj.1 (by show s[k].toNat = 47; omega))
        have hno2 := Lib.hid (show (47 : UInt8) ∉ s.data.toList.take (k + 1) by
          rw [take_snoc s k hlt, List.mem_append]
          rintro (q | q)
          · exact hno.out q
          · exact h47 (List.mem_singleton.1 q).symm)
        clear h47
        go_wp2_with fail
        go_round
        case rel => exact ⟨k + 1, by omega, by go_num, hno2⟩
        case measure => simp [intOf]; omega
    · have ek : k = s.size := by omega
      subst ek
      have etake : s.data.toList.take s.size = s.data.toList := List.take_of_length_le (by rw [Array.length_toList]; exact Nat.le_refl _)
      rw [etake] at hno
      have HS := Lib.hid (split_none s hno.out)
      have hex : s.extract 0 s.size = s := by simp
      clear etake
      by_cases hz : s.data.toList = []
      · have t1 : s.toList.isEmpty = true := by rw [ByteArray.toList_eq, hz]; rfl
        have Y := Lib.hid (ends_no HS.out (v1 := 0) (v2 := 1) (fun n _ _ h => absurd (h.symm.trans hz) (itoa_ne n)) (fun h => by cases h) (fun _ => rfl) (.inl hz))
        clear hz
        go_wp2_with fail
        refine (l2num_any s _ (by omega)).mono ?_
        rintro e w1 ⟨v1, rfl, ⟨hv1, hv2⟩, hf1, rfl⟩
        clear hf1
        go_wp2_with fail
        refine bodyPost_ret (v := .tuple #[.agg #[.int .i64 0, .int .i64 0], .bool false]) (by simp [results, Tryd.results24, go_sem]) rfl ⟨0, 0, false, rfl, Y.out, ?_⟩
        exact kept_alloc _ (kept_alloc _ (kept_refl w))
      · have HNE := Lib.hid hz
        clear hz
        go_wp2_with fail
        refine (l2num_any s _ (by omega)).mono ?_
        rintro e w1 ⟨v1, rfl, ⟨hv1, hv2⟩, hf1, rfl⟩
        have HYES := Lib.hid (fun h => ends_yes (l := s.data.toList) (v1 := v1) (v2 := 1) HNE.out h)
        have HNO := Lib.hid (fun h => ends_no HS.out hf1 (fun h => by cases h) (fun _ => rfl) (v1 := v1) (v2 := 1) (.inr h))
        have t1 : s.toList.isEmpty = false := by rw [ByteArray.toList_eq, List.isEmpty_eq_false_iff]; exact HNE.out
        clear hf1
        by_cases hit : rfmt v1 1 = s.data.toList
        · have e1 : (rfmt v1 1 == s.toList) = true := by rw [beq_iff_eq, ByteArray.toList_eq]; exact hit
          have Y := Lib.hid (HYES.out hit)
          clear hit
          go_wp2_with fail
          refine (spec_fmt v1 1 _).mono ?_
          rintro e w1 ⟨rfl, hb1⟩
          obtain ⟨p0, p1, p2, p3⟩ := row_cells (row_later hb1 (alloc_at1 w _ _) (by simp; omega))
          obtain ⟨q0, q1, _, _⟩ := row_cells (row_later hb1 (alloc_at2 w _ _) (by simp))
          have K := Lib.hid (kept_later hb1 (kept_alloc _ (kept_alloc _ (kept_refl w))))
          clear hb1
          go_wp2_with fail
          refine bodyPost_ret (v := .tuple #[.agg #[.int .i64 v1, .int .i64 1], .bool true]) (by simp [results, Tryd.results24, go_sem, p0, p1]) rfl ⟨v1, 1, true, rfl, Y.out, ?_⟩
          exact kept_set (kept_set K.out (by simp)) (by simp)
        · have e1 : (rfmt v1 1 == s.toList) = false := by rw [beq_eq_false_iff_ne, ByteArray.toList_eq]; exact hit
          have Y := Lib.hid (HNO.out hit)
          clear hit
          go_wp2_with fail
          refine (spec_fmt v1 1 _).mono ?_
          rintro e w1 ⟨rfl, hb1⟩
          obtain ⟨p0, p1, p2, p3⟩ := row_cells (row_later hb1 (alloc_at1 w _ _) (by simp; omega))
          have K := Lib.hid (kept_later hb1 (kept_alloc _ (kept_alloc _ (kept_refl w))))
          clear hb1
          go_wp2_with fail
          refine bodyPost_ret (v := .tuple #[.agg #[.int .i64 0, .int .i64 0], .bool false]) (by simp [results, Tryd.results24, go_sem, p0, p1]) rfl ⟨0, 0, false, rfl, Y.out, ?_⟩
          exact kept_set (kept_set K.out (by simp)) (by simp)
/-- What the program's function reads of the package variables. -/
def Ready (w : World) : Prop :=
  Tab w ∧ (∃ m, w.cell? ⟨0, 0, none⟩ = some (.int .i64 m)) ∧
    (∃ ev, w.cell? ⟨1, 0, none⟩ = some ev ∧ (ev = .nilIface ∨ ∃ te pe, ev = .iface te pe)) ∧
    (∃ ev, w.cell? ⟨2, 0, none⟩ = some ev ∧ (ev = .nilIface ∨ ∃ te pe, ev = .iface te pe))
theorem ready_later {w w' : World} (hb : Kept w w') (h : Ready w) : Ready w' := by
  obtain ⟨t, ⟨m, hm⟩, ⟨e1, h1, k1⟩, ⟨e2, h2, k2⟩⟩ := h
  exact ⟨tab_later hb t, ⟨m, rcell_later hb _ _ hm⟩, ⟨e1, rcell_later hb _ _ h1, k1⟩, ⟨e2, rcell_later hb _ _ h2, k2⟩⟩

theorem atoi_ok {a : List UInt8} {v : Int} (h : Lib.atoiAll a = .ok v) (ha : a.length ≤ 1048576) (w : World) :
    Calls Tryd.prog 35 #[.string ⟨a.toArray⟩] w fun e w' => e = .returned (.tuple #[.int .i64 v, .nilIface]) ∧ Below w.heap.size w w' := by
  refine (Tryd.strconv_Atoi_ok ⟨a.toArray⟩ (by show a.toArray.size ≤ _; simp; omega) v h w).mono ?_
  rintro e w' ⟨rfl, rfl | ⟨t, rfl⟩⟩
  · exact ⟨rfl, Below.refl _ _⟩
  · exact ⟨rfl, Lib.bytesWorld_below _ _ _⟩
/-- A call that fails. -/
def Fails (w : World) (e : Ending) (w' : World) : Prop := ∃ (z : Int) (N : Nat), e = .returned (.tuple #[.int .i64 z, .iface 72 (.pointer (some ⟨N, 0, none⟩))]) ∧ Below w.heap.size w w'
theorem atoi_bad {a : List UInt8} (h : ∀ v, Lib.atoiAll a ≠ .ok v) (ha : a.length ≤ 1048576) (w : World) (hr : Ready w) :
    Calls Tryd.prog 35 #[.string ⟨a.toArray⟩] w (Fails w) := by
  obtain ⟨_, _, ⟨e1, h1, k1⟩, ⟨e2, h2, k2⟩⟩ := hr
  have hz : (⟨a.toArray⟩ : ByteArray).size ≤ 281474976710656 := by show a.toArray.size ≤ _; simp; omega
  cases hc : Lib.atoiAll a
  · exact absurd hc (h _)
  · refine (Any.strconv_Atoi_syntax Tryd.laysC172 ⟨a.toArray⟩ hz hc e1 w h1 k1).mono ?_
    rintro e w' ⟨N, rfl, _, _, hb⟩
    exact ⟨_, N, rfl, hb⟩
  · refine (Tryd.strconv_Atoi_range ⟨a.toArray⟩ hz hc e2 w h2 k2).mono ?_
    rintro e w' ⟨N, rfl, _, _, hb⟩
    exact ⟨_, N, rfl, hb⟩
/-- A call that returns a number and an error, perhaps nil. -/
def Ends (w : World) (e : Ending) (w' : World) : Prop := ∃ (z : Int) (ev : Value), e = .returned (.tuple #[.int .i64 z, ev]) ∧ Below w.heap.size w w'
theorem atoi_any (a : List UInt8) (ha : a.length ≤ 1048576) (w : World) (hr : Ready w) :
    Calls Tryd.prog 35 #[.string ⟨a.toArray⟩] w (Ends w) := by
  by_cases h : ∃ v, Lib.atoiAll a = .ok v
  · obtain ⟨v, h⟩ := h
    refine (atoi_ok h ha w).mono ?_
    rintro e w' ⟨rfl, hb⟩
    exact ⟨_, _, rfl, hb⟩
  · refine (atoi_bad (fun v q => h ⟨v, q⟩) ha w hr).mono ?_
    rintro e w' ⟨z, N, rfl, hb⟩
    exact ⟨_, _, rfl, hb⟩
theorem atoi_one : Lib.atoiAll [49] = .ok 1 := by
  have := atoi_itoa (n := 1) (by decide) (by decide)
  rwa [show itoa 1 = [49] by show decDigits 1 = [49]; rw [decDigits]; rfl] at this
theorem split_ne {l a b : List UInt8} {has : Bool} {v : Int} (hs : Split l a b has) (h : Lib.atoiAll a = .ok v) : l ≠ [] := by
  rintro rfl
  cases has
  · rw [← hs.2.2 rfl] at h
    exact atoi_empty h
  · have := hs.2.1 rfl
    cases a <;> cases this
theorem split_len {l a b : List UInt8} (hs : Split l a b true) : a.length ≤ l.length ∧ b.length ≤ l.length := by
  have := congrArg List.length (hs.2.1 rfl)
  rw [List.length_append, List.length_cons] at this
  omega

theorem cut_any (s : ByteArray) (w : World) (hs : s.size ≤ 1048576) (hr : Ready w) {a b : List UInt8} {has : Bool} (hc : Lib.cut s.data.toList [47] = (a, b, has)) :
    Calls Tryd.prog 34 #[.string s, .string ⟨#[47]⟩] w fun e w' => e = .returned (.tuple #[.string ⟨a.toArray⟩, .string ⟨b.toArray⟩, .bool has]) ∧ Below w.heap.size w w' := by
  obtain ⟨_, ⟨m, hm⟩, _, _⟩ := hr
  have h := Tryd.strings_Cut s ⟨#[47]⟩ m w (by omega) hm
  rw [show (⟨#[47]⟩ : ByteArray).data.toList = [47] from rfl, hc] at h
  refine h.mono ?_
  rintro e w' ⟨rfl, n, rfl⟩
  exact ⟨rfl, drewN_below (Below.refl _ _)⟩

set_option maxRecDepth 100000 in
set_option maxHeartbeats 1600000 in
theorem impl_parse (s : ByteArray) (w : World) (hs : s.size ≤ 1048576) (hr : Ready w) :
    Calls Tryd.prog 16 #[.string s] w (AnsR s w) := by
  obtain ⟨a, b, has, hc⟩ : ∃ a b has, Lib.cut s.data.toList [47] = (a, b, has) := ⟨_, _, _, rfl⟩
  have hsp := cut_split s.data.toList
  rw [hc] at hsp
  have HSP := Lib.hid (show Split s.data.toList a b has from hsp)
  have HR := Lib.hid (fun w' (k : Kept w w') => ready_later k hr)
  have HCUT := Lib.hid (fun w' (k : Kept w w') => cut_any s w' hs (HR.out w' k) hc)
  have hll : s.data.toList.length ≤ 1048576 := by rw [Array.length_toList]; exact hs
  have HL := Lib.hid hll
  clear hsp hc hr hll
  cases has
  · have hal : a.length ≤ 1048576 := by rw [← HSP.out.2.2 rfl]; exact HL.out
    have HO := Lib.hid (fun w => atoi_ok atoi_one (by decide) w)
    by_cases hav : ∃ v, Lib.atoiAll a = .ok v
    · obtain ⟨v1, hv1⟩ := hav
      have HA := Lib.hid (fun w => atoi_ok hv1 hal w)
      have hvb := atoi_bd hv1
      have HF := Lib.hid (fun w' (k : Kept w w') => impl_fmt v1 1 w' hvb (by decide) (HR.out w' k).1)
      have HYES := Lib.hid (fun h => ends_yes (l := s.data.toList) (v1 := v1) (v2 := 1) (split_ne HSP.out hv1) h)
      have HNO := Lib.hid (fun h => ends_no HSP.out (fit_atoi hv1) (fun h => by cases h) (fun _ => rfl) (v1 := v1) (v2 := 1) (.inr h))
      clear hv1 hal hvb
      go_enter Tryd.func16, Tryd.ntmps16
      go_wp2_with fail
      refine (HCUT.out _ (kept_alloc _ (kept_refl w))).mono ?_
      rintro e w1 ⟨rfl, hb1⟩
      have K1 := Lib.hid (kept_later hb1 (kept_alloc _ (kept_refl w)))
      have r1 := Lib.hid (row_later hb1 (alloc_at0 w _) (by simp))
      clear hb1
      go_wp2_with fail
      refine (HA.out _).mono ?_
      rintro e w2 ⟨rfl, hb2⟩
      have K2 := Lib.hid (kept_later hb2 K1.out)
      have r2 := Lib.hid (row_later hb2 r1.out (Array.getElem?_eq_some_iff.1 r1.out).1)
      clear hb2
      go_wp2_with fail
      refine (HO.out _).mono ?_
      rintro e w3 ⟨rfl, hb3⟩
      have K3 := Lib.hid (kept_later hb3 K2.out)
      have r3 := Lib.hid (row_later hb3 r2.out (Array.getElem?_eq_some_iff.1 r2.out).1)
      clear hb3
      have hz3 : w.heap.size < w3.heap.size := (Array.getElem?_eq_some_iff.1 r3.out).1
      by_cases hit : rfmt v1 1 = s.data.toList
      · have e1 : (rfmt v1 1 == s.toList) = true := by rw [beq_iff_eq, ByteArray.toList_eq]; exact hit
        have Y := Lib.hid (HYES.out hit)
        clear hit
        go_wp2_with fail
        refine (HF.out _ (kept_alloc _ K3.out)).mono ?_
        rintro e w4 ⟨rfl, hb4⟩
        obtain ⟨q0, q1, _, _⟩ := row_cells (row_later hb4 (alloc_at0 w3 _) (by simp))
        obtain ⟨p0, p1, p2, p3⟩ := row_cells (row_later hb4 (row_alloc _ r3.out) (by simp; omega))
        have K4 := Lib.hid (kept_later hb4 (kept_alloc _ K3.out))
        clear hb4
        go_wp2_with fail
        refine bodyPost_ret (v := .tuple #[.agg #[.int .i64 v1, .int .i64 1], .bool true]) (by simp [results, Tryd.results16, go_sem, p0, p1]) rfl ⟨v1, 1, true, rfl, Y.out, ?_⟩
        exact kept_set (kept_set K4.out (Nat.le_refl _)) (Nat.le_refl _)
      · have e1 : (rfmt v1 1 == s.toList) = false := by rw [beq_eq_false_iff_ne, ByteArray.toList_eq]; exact hit
        have Y := Lib.hid (HNO.out hit)
        clear hit
        go_wp2_with fail
        refine (HF.out _ (kept_alloc _ K3.out)).mono ?_
        rintro e w4 ⟨rfl, hb4⟩
        obtain ⟨p0, p1, p2, p3⟩ := row_cells (row_later hb4 (row_alloc _ r3.out) (by simp; omega))
        have K4 := Lib.hid (kept_later hb4 (kept_alloc _ K3.out))
        clear hb4
        go_wp2_with fail
        refine bodyPost_ret (v := .tuple #[.agg #[.int .i64 0, .int .i64 0], .bool false]) (by simp [results, Tryd.results16, go_sem, p0, p1]) rfl ⟨0, 0, false, rfl, Y.out, ?_⟩
        exact kept_set (kept_set K4.out (Nat.le_refl _)) (Nat.le_refl _)
    · have HA := Lib.hid (fun w' (k : Kept w w') => atoi_bad (fun v q => hav ⟨v, q⟩) hal w' (HR.out w' k))
      have Y := Lib.hid (ends_bad HSP.out (.inl (bad_atoi fun v q => hav ⟨v, q⟩)))
      clear hav hal
      go_enter Tryd.func16, Tryd.ntmps16
      go_wp2_with fail
      refine (HCUT.out _ (kept_alloc _ (kept_refl w))).mono ?_
      rintro e w1 ⟨rfl, hb1⟩
      have K1 := Lib.hid (kept_later hb1 (kept_alloc _ (kept_refl w)))
      have r1 := Lib.hid (row_later hb1 (alloc_at0 w _) (by simp))
      clear hb1
      go_wp2_with fail
      refine (HA.out _ K1.out).mono ?_
      rintro e w2 ⟨z, N, rfl, hb2⟩
      have K2 := Lib.hid (kept_later hb2 K1.out)
      have r2 := Lib.hid (row_later hb2 r1.out (Array.getElem?_eq_some_iff.1 r1.out).1)
      clear hb2
      go_wp2_with fail
      refine (HO.out _).mono ?_
      rintro e w3 ⟨rfl, hb3⟩
      have K3 := Lib.hid (kept_later hb3 K2.out)
      have r3 := Lib.hid (row_later hb3 r2.out (Array.getElem?_eq_some_iff.1 r2.out).1)
      clear hb3
      obtain ⟨p0, p1, p2, p3⟩ := row_cells r3.out
      go_wp2_with fail
      refine bodyPost_ret (v := .tuple #[.agg #[.int .i64 0, .int .i64 0], .bool false]) (by simp [results, Tryd.results16, go_sem, p0, p1]) rfl ⟨0, 0, false, rfl, Y.out, ?_⟩
      exact kept_set (kept_set K3.out (Nat.le_refl _)) (Nat.le_refl _)
  · obtain ⟨hal, hbl⟩ := split_len HSP.out
    have hal : a.length ≤ 1048576 := by have := HL.out; omega
    have hbl : b.length ≤ 1048576 := by have := HL.out; omega
    by_cases hav : ∃ v, Lib.atoiAll a = .ok v
    · obtain ⟨v1, hv1⟩ := hav
      have HA := Lib.hid (fun w => atoi_ok hv1 hal w)
      have hva := atoi_bd hv1
      by_cases hbv : ∃ v, Lib.atoiAll b = .ok v
      · obtain ⟨v2, hv2⟩ := hbv
        have HO := Lib.hid (fun w => atoi_ok hv2 hbl w)
        have hvb := atoi_bd hv2
        have HF := Lib.hid (fun w' (k : Kept w w') => impl_fmt v1 v2 w' hva hvb (HR.out w' k).1)
        have HYES := Lib.hid (fun h => ends_yes (l := s.data.toList) (v1 := v1) (v2 := v2) (split_ne HSP.out hv1) h)
        have HNO := Lib.hid (fun h => ends_no HSP.out (fit_atoi hv1) (fun _ => fit_atoi hv2) (fun h => by cases h) (v1 := v1) (v2 := v2) (.inr h))
        clear hv1 hal hva hvb hv2 hbl
        go_enter Tryd.func16, Tryd.ntmps16
        go_wp2_with fail
        refine (HCUT.out _ (kept_alloc _ (kept_refl w))).mono ?_
        rintro e w1 ⟨rfl, hb1⟩
        have K1 := Lib.hid (kept_later hb1 (kept_alloc _ (kept_refl w)))
        have r1 := Lib.hid (row_later hb1 (alloc_at0 w _) (by simp))
        clear hb1
        go_wp2_with fail
        refine (HA.out _).mono ?_
        rintro e w2 ⟨rfl, hb2⟩
        have K2 := Lib.hid (kept_later hb2 K1.out)
        have r2 := Lib.hid (row_later hb2 r1.out (Array.getElem?_eq_some_iff.1 r1.out).1)
        clear hb2
        go_wp2_with fail
        refine (HO.out _).mono ?_
        rintro e w3 ⟨rfl, hb3⟩
        have K3 := Lib.hid (kept_later hb3 K2.out)
        have r3 := Lib.hid (row_later hb3 r2.out (Array.getElem?_eq_some_iff.1 r2.out).1)
        clear hb3
        have hz3 : w.heap.size < w3.heap.size := (Array.getElem?_eq_some_iff.1 r3.out).1
        by_cases hit : rfmt v1 v2 = s.data.toList
        · have e1 : (rfmt v1 v2 == s.toList) = true := by rw [beq_iff_eq, ByteArray.toList_eq]; exact hit
          have Y := Lib.hid (HYES.out hit)
          clear hit
          go_wp2_with fail
          refine (HF.out _ (kept_alloc _ K3.out)).mono ?_
          rintro e w4 ⟨rfl, hb4⟩
          obtain ⟨q0, q1, _, _⟩ := row_cells (row_later hb4 (alloc_at0 w3 _) (by simp))
          obtain ⟨p0, p1, p2, p3⟩ := row_cells (row_later hb4 (row_alloc _ r3.out) (by simp; omega))
          have K4 := Lib.hid (kept_later hb4 (kept_alloc _ K3.out))
          clear hb4
          go_wp2_with fail
          refine bodyPost_ret (v := .tuple #[.agg #[.int .i64 v1, .int .i64 v2], .bool true]) (by simp [results, Tryd.results16, go_sem, p0, p1]) rfl ⟨v1, v2, true, rfl, Y.out, ?_⟩
          exact kept_set (kept_set K4.out (Nat.le_refl _)) (Nat.le_refl _)
        · have e1 : (rfmt v1 v2 == s.toList) = false := by rw [beq_eq_false_iff_ne, ByteArray.toList_eq]; exact hit
          have Y := Lib.hid (HNO.out hit)
          clear hit
          go_wp2_with fail
          refine (HF.out _ (kept_alloc _ K3.out)).mono ?_
          rintro e w4 ⟨rfl, hb4⟩
          obtain ⟨p0, p1, p2, p3⟩ := row_cells (row_later hb4 (row_alloc _ r3.out) (by simp; omega))
          have K4 := Lib.hid (kept_later hb4 (kept_alloc _ K3.out))
          clear hb4
          go_wp2_with fail
          refine bodyPost_ret (v := .tuple #[.agg #[.int .i64 0, .int .i64 0], .bool false]) (by simp [results, Tryd.results16, go_sem, p0, p1]) rfl ⟨0, 0, false, rfl, Y.out, ?_⟩
          exact kept_set (kept_set K4.out (Nat.le_refl _)) (Nat.le_refl _)
      · have HO := Lib.hid (fun w' (k : Kept w w') => atoi_bad (fun v q => hbv ⟨v, q⟩) hbl w' (HR.out w' k))
        have Y := Lib.hid (ends_bad HSP.out (.inr ⟨rfl, bad_atoi fun v q => hbv ⟨v, q⟩⟩))
        clear hv1 hal hva hbv hbl
        go_enter Tryd.func16, Tryd.ntmps16
        go_wp2_with fail
        refine (HCUT.out _ (kept_alloc _ (kept_refl w))).mono ?_
        rintro e w1 ⟨rfl, hb1⟩
        have K1 := Lib.hid (kept_later hb1 (kept_alloc _ (kept_refl w)))
        have r1 := Lib.hid (row_later hb1 (alloc_at0 w _) (by simp))
        clear hb1
        go_wp2_with fail
        refine (HA.out _).mono ?_
        rintro e w2 ⟨rfl, hb2⟩
        have K2 := Lib.hid (kept_later hb2 K1.out)
        have r2 := Lib.hid (row_later hb2 r1.out (Array.getElem?_eq_some_iff.1 r1.out).1)
        clear hb2
        go_wp2_with fail
        refine (HO.out _ K2.out).mono ?_
        rintro e w3 ⟨z, N, rfl, hb3⟩
        have K3 := Lib.hid (kept_later hb3 K2.out)
        have r3 := Lib.hid (row_later hb3 r2.out (Array.getElem?_eq_some_iff.1 r2.out).1)
        clear hb3
        obtain ⟨p0, p1, p2, p3⟩ := row_cells r3.out
        go_wp2_with fail
        refine bodyPost_ret (v := .tuple #[.agg #[.int .i64 0, .int .i64 0], .bool false]) (by simp [results, Tryd.results16, go_sem, p0, p1]) rfl ⟨0, 0, false, rfl, Y.out, ?_⟩
        exact kept_set (kept_set K3.out (Nat.le_refl _)) (Nat.le_refl _)
    · have HA := Lib.hid (fun w' (k : Kept w w') => atoi_bad (fun v q => hav ⟨v, q⟩) hal w' (HR.out w' k))
      have HO := Lib.hid (fun w' (k : Kept w w') => atoi_any b hbl w' (HR.out w' k))
      have Y := Lib.hid (ends_bad HSP.out (.inl (bad_atoi fun v q => hav ⟨v, q⟩)))
      clear hav hal hbl
      go_enter Tryd.func16, Tryd.ntmps16
      go_wp2_with fail
      refine (HCUT.out _ (kept_alloc _ (kept_refl w))).mono ?_
      rintro e w1 ⟨rfl, hb1⟩
      have K1 := Lib.hid (kept_later hb1 (kept_alloc _ (kept_refl w)))
      have r1 := Lib.hid (row_later hb1 (alloc_at0 w _) (by simp))
      clear hb1
      go_wp2_with fail
      refine (HA.out _ K1.out).mono ?_
      rintro e w2 ⟨z, N, rfl, hb2⟩
      have K2 := Lib.hid (kept_later hb2 K1.out)
      have r2 := Lib.hid (row_later hb2 r1.out (Array.getElem?_eq_some_iff.1 r1.out).1)
      clear hb2
      go_wp2_with fail
      refine (HO.out _ K2.out).mono ?_
      rintro e w3 ⟨z3, ev3, rfl, hb3⟩
      have K3 := Lib.hid (kept_later hb3 K2.out)
      have r3 := Lib.hid (row_later hb3 r2.out (Array.getElem?_eq_some_iff.1 r2.out).1)
      clear hb3
      obtain ⟨p0, p1, p2, p3⟩ := row_cells r3.out
      go_wp2_with fail
      refine bodyPost_ret (v := .tuple #[.agg #[.int .i64 0, .int .i64 0], .bool false]) (by simp [results, Tryd.results16, go_sem, p0, p1]) rfl ⟨0, 0, false, rfl, Y.out, ?_⟩
      exact kept_set (kept_set K3.out (Nat.le_refl _)) (Nat.le_refl _)

end Go.Proofs.YtkmhfgedbkkihaaDoor.RatParse
