/- Decimal parsing: the model's and the program's functions give the same number. -/
import Derived.Test.YtlmaaiffmomflaaDoorParsePlain
namespace Go.Proofs.YtlmaaiffmomflaaDoor.Parse
open Go Go.RowKit Byt Format ParsePlain
open Go.Lib (decDigits itoa)

/-- What a call comes to. -/
def Ans (s : ByteArray) (w : World) (e : Ending) (w' : World) : Prop :=
  ∃ (n : Int) (ok : Bool), e = .returned (.tuple #[.int .i64 n, .bool ok]) ∧ Parsed s.data.toList n ok ∧ Below w.heap.size w w'

theorem take_snoc (s : ByteArray) (k : Nat) (h : k < s.size) : s.data.toList.take (k + 1) = s.data.toList.take k ++ [s[k]] := by
  rw [List.take_succ_eq_append_getElem (by simpa using h)]; rfl

theorem dc_take (l : List UInt8) (k : Nat) : dc (l.take k) ≤ dc l := List.Sublist.countP_le (List.take_sublist _ _)

theorem dv_bound (l : List UInt8) (k : Nat) (h : k ≤ 11) : dv (l.take k) < 100000000000 := by
  have h1 := dv_lt (l.take k)
  have h2 : (l.take k).length ≤ 11 := by rw [List.length_take]; omega
  exact Nat.lt_of_lt_of_le h1 (Nat.pow_le_pow_right (n := 10) (by decide) h2)
theorem dv_bound10 (l : List UInt8) (k : Nat) (h : k ≤ 10) : dv (l.take k) < 10000000000 := by
  have h1 := dv_lt (l.take k)
  have h2 : (l.take k).length ≤ 10 := by rw [List.length_take]; omega
  exact Nat.lt_of_lt_of_le h1 (Nat.pow_le_pow_right (n := 10) (by decide) h2)

theorem neg_at (s : ByteArray) (h : 0 < s.size) : neg s.data.toList = (s[0] == 45) := by
  have hl : 0 < s.data.toList.length := by rw [Array.length_toList]; exact h
  unfold neg
  rw [List.head?_eq_getElem?, List.getElem?_eq_getElem hl]
  rfl

theorem byte_is (b : UInt8) (c : Nat) (hc : c < 256) : ((b.toNat : Int) == (c : Int)) = (b == UInt8.ofNat c) := by
  by_cases h : b = UInt8.ofNat c
  · subst h
    simp
    omega
  · have e1 : (b == UInt8.ofNat c) = false := by simpa using h
    rw [e1, beq_eq_false_iff_ne]
    intro q
    apply h
    apply UInt8.toNat_inj.1
    simp
    omega

theorem str_eq (l : List UInt8) (s : ByteArray) : ((⟨l.toArray⟩ : ByteArray).toList == s.toList) = true ↔ l = s.data.toList := by
  rw [beq_iff_eq, ByteArray.toList_eq, ByteArray.toList_eq]

/-- The end of the model's function: the sum with its sign is formatted again. -/
theorem ends_yes {s : ByteArray} {n : Int} (hc : dc s.data.toList ≤ 9) (hl : s.size ≤ 10) (hn : n = V s.data.toList) (h : itoa n = s.data.toList) : Parsed s.data.toList n true :=
  .inl ⟨rfl, ⟨hc, by rw [Array.length_toList]; exact hl, by rw [← hn]; exact h⟩, hn⟩
theorem ends_no {s : ByteArray} {n : Int} (hn : n = V s.data.toList) (h : ¬ itoa n = s.data.toList) : Parsed s.data.toList 0 false :=
  .inr ⟨rfl, rfl, fun q => h (by rw [hn]; exact q.2.2)⟩
theorem many {s : ByteArray} {k : Nat} (h : 9 < dc (s.data.toList.take k)) : Parsed s.data.toList 0 false :=
  .inr ⟨rfl, rfl, fun q => by have := dc_take s.data.toList k; have := q.1; omega⟩
theorem long {s : ByteArray} (h : 10 < s.size) : Parsed s.data.toList 0 false :=
  .inr ⟨rfl, rfl, fun q => by have := q.2.1; rw [Array.length_toList] at this; have : s.size ≤ 10 := this; omega⟩

set_option maxRecDepth 100000 in
set_option maxHeartbeats 800000 in
theorem spec_any (s : ByteArray) (w : World) (hs : s.size ≤ 9223372036854775807) :
    Calls Tryd.prog 20 #[.string s] w (Ans s w) := by
  have hlen : s.data.toList.length = s.size := Array.length_toList
  have HL := Lib.hid hlen
  clear hlen
  go_enter Tryd.func20, Tryd.ntmps20
  go_wp2
  go_loop [4, 5, 6] (fun n c i => ∃ k : Nat, k ≤ 11 ∧ k ≤ s.size ∧ i = .int .i64 k ∧ n = .int .i64 (dv (s.data.toList.take k) : Nat) ∧ c = .int .i64 (dc (s.data.toList.take k) : Nat)) (fun _ _ i => 11 - (intOf i).toNat)
  case atStart => exact ⟨0, by decide, Nat.zero_le _, rfl, rfl, rfl⟩
  case round =>
    obtain ⟨k, hk11, hks, rfl, rfl, rfl⟩ := hrel
    by_cases hgo : k < s.size ∧ k < 11
    · obtain ⟨hlt, h11⟩ := hgo
      have hb := dv_bound10 s.data.toList k (by omega)
      have hcl : dc (s.data.toList.take k) ≤ 11 := Nat.le_trans (dc_le _) (by rw [List.length_take]; omega)
      have hby := s[k].toNat_lt
      have hd := Lib.hid (dv_snoc (s.data.toList.take k) s[k])
      have hc := Lib.hid (dc_snoc (s.data.toList.take k) s[k])
      have ht := Lib.hid (take_snoc s k hlt)
      generalize dv (s.data.toList.take k) = m at *
      generalize dc (s.data.toList.take k) = c at *
      by_cases h1 : 48 ≤ s[k].toNat
      · by_cases h2 : s[k].toNat ≤ 57
        · have hi : isd s[k] = true := by unfold isd; simp; omega
          have Hi := Lib.hid hi
          clear hi
          go_wp2
          go_round
          case rel => exact ⟨k + 1, by omega, by omega, by go_num, by rw [ht.out, hd.out, if_pos Hi.out]; go_num, by rw [ht.out, hc.out, if_pos Hi.out]; go_num⟩
          case measure => simp [intOf]; omega
        · have hi : ¬ isd s[k] = true := by unfold isd; simp; omega
          have Hi := Lib.hid hi
          clear hi
          go_wp2
          go_round
          case rel => exact ⟨k + 1, by omega, by omega, by go_num, by rw [ht.out, hd.out, if_neg Hi.out], by rw [ht.out, hc.out, if_neg Hi.out]⟩
          case measure => simp [intOf]; omega
      · have hi : ¬ isd s[k] = true := by unfold isd; simp; omega
        have Hi := Lib.hid hi
        clear hi
        go_wp2
        go_round
        case rel => exact ⟨k + 1, by omega, by omega, by go_num, by rw [ht.out, hd.out, if_neg Hi.out], by rw [ht.out, hc.out, if_neg Hi.out]⟩
        case measure => simp [intOf]; omega
    · have hb := dv_bound s.data.toList k (by omega)
      have hcl : dc (s.data.toList.take k) ≤ 11 := Nat.le_trans (dc_le _) (by rw [List.length_take]; omega)
      by_cases h9 : 9 < dc (s.data.toList.take k)
      · have M := Lib.hid (many h9)
        generalize dv (s.data.toList.take k) = m at *
        generalize dc (s.data.toList.take k) = c at *
        go_wp2_with fail
        all_goals go_ret2
        all_goals exact ⟨0, false, rfl, M.out, Below.refl _ _⟩
      · by_cases hL : 10 < s.size
        · have M := Lib.hid (long hL)
          generalize dv (s.data.toList.take k) = m at *
          generalize dc (s.data.toList.take k) = c at *
          go_wp2_with fail
          all_goals go_ret2
          all_goals exact ⟨0, false, rfl, M.out, Below.refl _ _⟩
        · have hks : k = s.size := by omega
          subst hks
          have etake : s.data.toList.take s.size = s.data.toList := List.take_of_length_le (by rw [HL.out]; exact Nat.le_refl _)
          rw [etake] at hb hcl h9 ⊢
          have hcd : dc s.data.toList ≤ 9 := by omega
          have He := Lib.hid etake
          clear etake
          by_cases hpos : 0 < s.size
          · have hn0 := neg_at s hpos
            by_cases h45 : s[0] = 45
            · have hV : V s.data.toList = -(dv s.data.toList : Int) := by unfold V; rw [hn0, h45]; rfl
              have h0 : ((s[0].toNat : Int) == 45) = true := by rw [h45]; rfl
              clear h45
              have fin : ∀ w2, Below w.heap.size w w2 → (itoa (-(dv s.data.toList : Int)) = s.data.toList → Ans s w (.returned (.tuple #[.int .i64 (-(dv s.data.toList : Int)), .bool true])) w2) ∧ (¬ itoa (-(dv s.data.toList : Int)) = s.data.toList → Ans s w (.returned (.tuple #[.int .i64 0, .bool false])) w2) := fun w2 hb2 =>
                ⟨fun h => ⟨_, true, rfl, ends_yes hcd (by omega) hV.symm h, hb2⟩, fun h => ⟨0, false, rfl, ends_no hV.symm h, hb2⟩⟩
              have Fin := Lib.hid fin
              have hf := Lib.hid (Format.spec_any (-(dv s.data.toList : Int)) w ⟨by omega, by omega⟩)
              clear fin hV hn0 hcd
              generalize dv s.data.toList = m at *
              generalize dc s.data.toList = c at *
              by_cases hit : itoa (-(m : Int)) = s.data.toList
              · have e1 : (itoa (-(m : Int)) == s.toList) = true := by rw [beq_iff_eq, ByteArray.toList_eq]; exact hit
                have Hit := Lib.hid hit
                clear hit
                go_wp2_with (go_at_call 19; refine hf.out.mono ?_; rintro e w1 ⟨rfl, hb1⟩)
                all_goals go_ret2
                all_goals exact (Fin.out _ hb1).1 Hit.out
              · have e1 : (itoa (-(m : Int)) == s.toList) = false := by rw [beq_eq_false_iff_ne, ByteArray.toList_eq]; exact hit
                have Hit := Lib.hid hit
                clear hit
                go_wp2_with (go_at_call 19; refine hf.out.mono ?_; rintro e w1 ⟨rfl, hb1⟩)
                all_goals go_ret2
                all_goals exact (Fin.out _ hb1).2 Hit.out
            · have hV : V s.data.toList = (dv s.data.toList : Int) := by
                unfold V
                rw [hn0, if_neg (by simpa using h45)]
              have h0 : ((s[0].toNat : Int) == 45) = false := by
                have := byte_is s[0] 45 (by decide)
                rw [show ((45 : Nat) : Int) = 45 from rfl] at this
                rw [this]
                simpa using h45
              clear h45
              have fin : ∀ w2, Below w.heap.size w w2 → (itoa ((dv s.data.toList : Int)) = s.data.toList → Ans s w (.returned (.tuple #[.int .i64 ((dv s.data.toList : Int)), .bool true])) w2) ∧ (¬ itoa ((dv s.data.toList : Int)) = s.data.toList → Ans s w (.returned (.tuple #[.int .i64 0, .bool false])) w2) := fun w2 hb2 =>
                ⟨fun h => ⟨_, true, rfl, ends_yes hcd (by omega) hV.symm h, hb2⟩, fun h => ⟨0, false, rfl, ends_no hV.symm h, hb2⟩⟩
              have Fin := Lib.hid fin
              have hf := Lib.hid (Format.spec_any ((dv s.data.toList : Int)) w ⟨by omega, by omega⟩)
              clear fin hV hn0 hcd
              generalize dv s.data.toList = m at *
              generalize dc s.data.toList = c at *
              by_cases hit : itoa ((m : Int)) = s.data.toList
              · have e1 : (itoa ((m : Int)) == s.toList) = true := by rw [beq_iff_eq, ByteArray.toList_eq]; exact hit
                have Hit := Lib.hid hit
                clear hit
                go_wp2_with (go_at_call 19; refine hf.out.mono ?_; rintro e w1 ⟨rfl, hb1⟩)
                all_goals go_ret2
                all_goals exact (Fin.out _ hb1).1 Hit.out
              · have e1 : (itoa ((m : Int)) == s.toList) = false := by rw [beq_eq_false_iff_ne, ByteArray.toList_eq]; exact hit
                have Hit := Lib.hid hit
                clear hit
                go_wp2_with (go_at_call 19; refine hf.out.mono ?_; rintro e w1 ⟨rfl, hb1⟩)
                all_goals go_ret2
                all_goals exact (Fin.out _ hb1).2 Hit.out
          · have hnil : s.data.toList = [] := List.eq_nil_of_length_eq_zero (by rw [HL.out]; omega)
            have hV : V s.data.toList = (dv s.data.toList : Int) := by rw [hnil]; rfl
            clear hnil
            have fin : ∀ w2, Below w.heap.size w w2 → (itoa ((dv s.data.toList : Int)) = s.data.toList → Ans s w (.returned (.tuple #[.int .i64 ((dv s.data.toList : Int)), .bool true])) w2) ∧ (¬ itoa ((dv s.data.toList : Int)) = s.data.toList → Ans s w (.returned (.tuple #[.int .i64 0, .bool false])) w2) := fun w2 hb2 =>
              ⟨fun h => ⟨_, true, rfl, ends_yes hcd (by omega) hV.symm h, hb2⟩, fun h => ⟨0, false, rfl, ends_no hV.symm h, hb2⟩⟩
            have Fin := Lib.hid fin
            have hf := Lib.hid (Format.spec_any ((dv s.data.toList : Int)) w ⟨by omega, by omega⟩)
            clear fin hV hcd
            generalize dv s.data.toList = m at *
            generalize dc s.data.toList = c at *
            by_cases hit : itoa ((m : Int)) = s.data.toList
            · have e1 : (itoa ((m : Int)) == s.toList) = true := by rw [beq_iff_eq, ByteArray.toList_eq]; exact hit
              have Hit := Lib.hid hit
              clear hit
              go_wp2_with (go_at_call 19; refine hf.out.mono ?_; rintro e w1 ⟨rfl, hb1⟩)
              all_goals go_ret2
              all_goals exact (Fin.out _ hb1).1 Hit.out
            · have e1 : (itoa ((m : Int)) == s.toList) = false := by rw [beq_eq_false_iff_ne, ByteArray.toList_eq]; exact hit
              have Hit := Lib.hid hit
              clear hit
              go_wp2_with (go_at_call 19; refine hf.out.mono ?_; rintro e w1 ⟨rfl, hb1⟩)
              all_goals go_ret2
              all_goals exact (Fin.out _ hb1).2 Hit.out

theorem trim_minus (l : List UInt8) : Lib.trimPrefix l [45] = rest l ∧ Lib.hasPrefix l [45] = neg l := by
  have h : Lib.hasPrefix l [45] = neg l := by
    unfold Lib.hasPrefix neg
    cases l with
    | nil => rfl
    | cons b r =>
      by_cases h : b = 45
      · subst h; rfl
      · have h2 : ((45 : UInt8) == b) = false := by rw [beq_eq_false_iff_ne]; exact Ne.symm h
        simp [List.isPrefixOf, h2, h]
  refine ⟨?_, h⟩
  unfold Lib.trimPrefix rest
  rw [h]
  rfl

theorem next_at (w0 : World) (s : ByteArray) (k : Nat) (h : k < s.size) (r n : Nat) (hd : Utf8.decode s k = (r, n)) (ty : TypeId) :
    (Instr.next (.pointer (some ⟨w0.heap.size, 0, none⟩)) true ty).run Tryd.prog (w0.iter s k) = .ok (.tuple #[.bool true, .int .i64 k, .int .i32 r]) (w0.iter s (k + n)) := by
  rw [run_next_any w0 s k ty h, hd]

theorem not_ok {s : ByteArray} {d : ByteArray} (hd : rest s.data.toList = d.data.toList) {k : Nat} (hk : k < d.size) (hb : ¬ isd d[k] = true) : Parsed s.data.toList 0 false := by
  refine .inr ⟨rfl, rfl, fun q => hb ?_⟩
  have hl : k < d.data.toList.length := by rw [Array.length_toList]; exact hk
  have := (ok_rest q).1
  rw [hd] at this
  exact this _ (List.getElem_mem hl)

set_option maxRecDepth 100000 in
set_option maxHeartbeats 800000 in
theorem impl_any (s : ByteArray) (w : World) (hs : s.size ≤ 9223372036854775807) (htab : Tab w) :
    Calls Tryd.prog 18 #[.string s] w (Ans s w) := by
  have htm := trim_minus s.data.toList
  have hcut := Tryd.strings_CutPrefix s ⟨#[45]⟩ w
  rw [show (⟨#[45]⟩ : ByteArray).data.toList = [45] from rfl, htm.1, htm.2] at hcut
  obtain ⟨d, hd⟩ : ∃ d : ByteArray, d = ⟨(rest s.data.toList).toArray⟩ := ⟨_, rfl⟩
  have hrl : rest s.data.toList = d.data.toList := by rw [hd]
  rw [← hd] at hcut
  have hdl : d.data.toList.length = d.size := Array.length_toList
  have hV : V s.data.toList = if neg s.data.toList then -(dv d.data.toList : Int) else (dv d.data.toList : Int) := by
    unfold V
    rw [← hrl, dv_rest]
  have Hcut := Lib.hid hcut
  have Hrl := Lib.hid hrl
  have HV := Lib.hid hV
  have HDL := Lib.hid hdl
  have Htab := Lib.hid htab
  have hds : d.size ≤ 9223372036854775807 := by
    have : (rest s.data.toList).length ≤ s.data.toList.length := by unfold rest; split <;> simp
    rw [hrl, hdl, Array.length_toList] at this
    have hss : s.data.size = s.size := rfl
    omega
  clear hcut hd hrl hV hdl htm htab
  generalize hng : neg s.data.toList = ng at *
  clear hng
  by_cases h9 : 9 < d.size
  · go_enter Tryd.func18, Tryd.ntmps18
    go_wp2_with (go_at_call 29; refine Hcut.out.mono ?_; rintro e w1 ⟨rfl, rfl⟩)
    go_ret2
    exact ⟨0, false, rfl, .inr ⟨rfl, rfl, fun q => by have := (ok_rest q).2; rw [Hrl.out, HDL.out] at this; omega⟩, Below.refl _ _⟩
  · go_enter Tryd.func18, Tryd.ntmps18
    go_wp2_with (go_at_call 29; refine Hcut.out.mono ?_; rintro e w1 ⟨rfl, rfl⟩)
    cases ng
    · go_loopw [6, 8] (fun n _ wr => ∃ k : Nat, wr = w1.iter d k ∧ k ≤ d.size ∧ n = .int .i64 (dv (d.data.toList.take k) : Nat)) (fun _ _ wr => d.size - wr.iterPos w1.heap.size)
      case atStart => exact ⟨0, rfl, Nat.zero_le _, rfl⟩
      case round =>
        obtain ⟨k, rfl, hk, rfl⟩ := hrel
        by_cases hlt : k < d.size
        · by_cases hi : isd d[k] = true
          · have hr : 48 ≤ d[k].toNat ∧ d[k].toNat ≤ 57 := by unfold isd at hi; simpa using hi
            obtain ⟨hr1, hr2⟩ := hr
            have hn := next_at w1 d k hlt _ _ (decode_ascii d k hlt (by omega))
            have hb := dv_bound10 d.data.toList k (by omega)
            have hd := Lib.hid (dv_snoc (d.data.toList.take k) d[k])
            have ht := Lib.hid (take_snoc d k hlt)
            have Hi := Lib.hid hi
            clear hi
            generalize dv (d.data.toList.take k) = m at *
            go_wp2_with fail
            rw [World.iterPos_iter, World.iterPos_iter]
            exact ⟨⟨k + 1, rfl, by omega, by rw [ht.out, hd.out, if_pos Hi.out]; go_num⟩, by omega⟩
          · have hno := Lib.hid (not_ok Hrl.out hlt hi)
            have hbl : Below w1.heap.size w1 (w1.iter d k) := (Below.refl _ w1).alloc (Nat.le_refl _) _
            by_cases hlow : d[k].toNat < 128
            · have hr : ¬ (48 ≤ d[k].toNat ∧ d[k].toNat ≤ 57) := by unfold isd at hi; simpa using hi
              have hn := next_at w1 d k hlt _ _ (decode_ascii d k hlt hlow)
              clear hi
              by_cases h48 : d[k].toNat < 48
              · clear hr
                go_wp2_with fail
                go_ret2
                exact ⟨0, false, rfl, hno.out, (Below.refl _ w1).alloc (Nat.le_refl _) _⟩
              · have h57 : 57 < d[k].toNat := by omega
                clear hr
                go_wp2_with fail
                go_ret2
                exact ⟨0, false, rfl, hno.out, (Below.refl _ w1).alloc (Nat.le_refl _) _⟩
            · have hdec := decode_high d k hlt (by omega)
              obtain ⟨⟨r, n⟩, hrn⟩ : ∃ q : Nat × Nat, Utf8.decode d k = q := ⟨_, rfl⟩
              rw [hrn] at hdec
              have hr57 : 57 < r := by simp only at hdec; omega
              have hn := next_at w1 d k hlt _ _ hrn
              clear hi hdec hrn
              go_wp2_with fail
              go_ret2
              exact ⟨0, false, rfl, hno.out, (Below.refl _ w1).alloc (Nat.le_refl _) _⟩
        · have ek : k = d.size := by omega
          subst ek
          have hV : ((dv d.data.toList : Int)) = V s.data.toList := by rw [HV.out]; rfl
          have hb := dv_lt d.data.toList
          rw [HDL.out] at hb
          have hb9 : dv d.data.toList < 10 ^ 9 := Nat.lt_of_lt_of_le hb (Nat.pow_le_pow_right (by decide) (by omega))
          have hf := Lib.hid (Format.impl_any ((dv d.data.toList : Int)) (w1.iter d d.size) ⟨by omega, by omega⟩ (tab_later ((Below.refl _ w1).alloc (Nat.le_refl _) _) Htab.out))
          have hbl : Below w1.heap.size w1 (w1.iter d d.size) := (Below.refl _ w1).alloc (Nat.le_refl _) _
          have fin : ∀ w2, Below w1.heap.size w1 w2 → (itoa ((dv d.data.toList : Int)) = s.data.toList → Ans s w1 (.returned (.tuple #[.int .i64 ((dv d.data.toList : Int)), .bool true])) w2) ∧ (¬ itoa ((dv d.data.toList : Int)) = s.data.toList → Ans s w1 (.returned (.tuple #[.int .i64 0, .bool false])) w2) := fun w2 hb2 =>
            ⟨fun h => ⟨_, true, rfl, .inl ⟨rfl, ok_of (by rw [Hrl.out, HDL.out]; omega) (by rw [← hV]; exact h), hV⟩, hb2⟩, fun h => ⟨0, false, rfl, ends_no hV h, hb2⟩⟩
          have Fin := Lib.hid fin
          have HB := Lib.hid hbl
          have hsz : (w1.iter d d.size).heap.size = w1.heap.size + 1 := by show (w1.heap.push _).size = _; simp
          have HSZ := Lib.hid hsz
          clear fin hV hb hbl hsz
          have etake : d.data.toList.take d.size = d.data.toList := List.take_of_length_le (by rw [HDL.out]; exact Nat.le_refl _)
          rw [etake]
          clear etake
          generalize dv d.data.toList = m at *
          have hn2 := fun ty => run_next_end (P := Tryd.prog) w1 d d.size ty hlt
          by_cases hit : itoa ((m : Int)) = s.data.toList
          · have e1 : (itoa ((m : Int)) == s.toList) = true := by rw [beq_iff_eq, ByteArray.toList_eq]; exact hit
            have Hit := Lib.hid hit
            clear hit
            go_wp2_with (go_at_call 17; refine hf.out.mono ?_; rintro e w2 ⟨rfl, hb1⟩)
            go_ret2
            exact (Fin.out _ (HB.out.trans (hb1.mono (by rw [HSZ.out]; omega)))).1 Hit.out
          · have e1 : (itoa ((m : Int)) == s.toList) = false := by rw [beq_eq_false_iff_ne, ByteArray.toList_eq]; exact hit
            have Hit := Lib.hid hit
            clear hit
            go_wp2_with (go_at_call 17; refine hf.out.mono ?_; rintro e w2 ⟨rfl, hb1⟩)
            go_ret2
            exact (Fin.out _ (HB.out.trans (hb1.mono (by rw [HSZ.out]; omega)))).2 Hit.out
    · go_loopw [6, 8] (fun n _ wr => ∃ k : Nat, wr = w1.iter d k ∧ k ≤ d.size ∧ n = .int .i64 (dv (d.data.toList.take k) : Nat)) (fun _ _ wr => d.size - wr.iterPos w1.heap.size)
      case atStart => exact ⟨0, rfl, Nat.zero_le _, rfl⟩
      case round =>
        obtain ⟨k, rfl, hk, rfl⟩ := hrel
        by_cases hlt : k < d.size
        · by_cases hi : isd d[k] = true
          · have hr : 48 ≤ d[k].toNat ∧ d[k].toNat ≤ 57 := by unfold isd at hi; simpa using hi
            obtain ⟨hr1, hr2⟩ := hr
            have hn := next_at w1 d k hlt _ _ (decode_ascii d k hlt (by omega))
            have hb := dv_bound10 d.data.toList k (by omega)
            have hd := Lib.hid (dv_snoc (d.data.toList.take k) d[k])
            have ht := Lib.hid (take_snoc d k hlt)
            have Hi := Lib.hid hi
            clear hi
            generalize dv (d.data.toList.take k) = m at *
            go_wp2_with fail
            rw [World.iterPos_iter, World.iterPos_iter]
            exact ⟨⟨k + 1, rfl, by omega, by rw [ht.out, hd.out, if_pos Hi.out]; go_num⟩, by omega⟩
          · have hno := Lib.hid (not_ok Hrl.out hlt hi)
            have hbl : Below w1.heap.size w1 (w1.iter d k) := (Below.refl _ w1).alloc (Nat.le_refl _) _
            by_cases hlow : d[k].toNat < 128
            · have hr : ¬ (48 ≤ d[k].toNat ∧ d[k].toNat ≤ 57) := by unfold isd at hi; simpa using hi
              have hn := next_at w1 d k hlt _ _ (decode_ascii d k hlt hlow)
              clear hi
              by_cases h48 : d[k].toNat < 48
              · clear hr
                go_wp2_with fail
                go_ret2
                exact ⟨0, false, rfl, hno.out, (Below.refl _ w1).alloc (Nat.le_refl _) _⟩
              · have h57 : 57 < d[k].toNat := by omega
                clear hr
                go_wp2_with fail
                go_ret2
                exact ⟨0, false, rfl, hno.out, (Below.refl _ w1).alloc (Nat.le_refl _) _⟩
            · have hdec := decode_high d k hlt (by omega)
              obtain ⟨⟨r, n⟩, hrn⟩ : ∃ q : Nat × Nat, Utf8.decode d k = q := ⟨_, rfl⟩
              rw [hrn] at hdec
              have hr57 : 57 < r := by simp only at hdec; omega
              have hn := next_at w1 d k hlt _ _ hrn
              clear hi hdec hrn
              go_wp2_with fail
              go_ret2
              exact ⟨0, false, rfl, hno.out, (Below.refl _ w1).alloc (Nat.le_refl _) _⟩
        · have ek : k = d.size := by omega
          subst ek
          have hV : (-(dv d.data.toList : Int)) = V s.data.toList := by rw [HV.out]; rfl
          have hb := dv_lt d.data.toList
          rw [HDL.out] at hb
          have hb9 : dv d.data.toList < 10 ^ 9 := Nat.lt_of_lt_of_le hb (Nat.pow_le_pow_right (by decide) (by omega))
          have hf := Lib.hid (Format.impl_any (-(dv d.data.toList : Int)) (w1.iter d d.size) ⟨by omega, by omega⟩ (tab_later ((Below.refl _ w1).alloc (Nat.le_refl _) _) Htab.out))
          have hbl : Below w1.heap.size w1 (w1.iter d d.size) := (Below.refl _ w1).alloc (Nat.le_refl _) _
          have fin : ∀ w2, Below w1.heap.size w1 w2 → (itoa (-(dv d.data.toList : Int)) = s.data.toList → Ans s w1 (.returned (.tuple #[.int .i64 (-(dv d.data.toList : Int)), .bool true])) w2) ∧ (¬ itoa (-(dv d.data.toList : Int)) = s.data.toList → Ans s w1 (.returned (.tuple #[.int .i64 0, .bool false])) w2) := fun w2 hb2 =>
            ⟨fun h => ⟨_, true, rfl, .inl ⟨rfl, ok_of (by rw [Hrl.out, HDL.out]; omega) (by rw [← hV]; exact h), hV⟩, hb2⟩, fun h => ⟨0, false, rfl, ends_no hV h, hb2⟩⟩
          have Fin := Lib.hid fin
          have HB := Lib.hid hbl
          have hsz : (w1.iter d d.size).heap.size = w1.heap.size + 1 := by show (w1.heap.push _).size = _; simp
          have HSZ := Lib.hid hsz
          clear fin hV hb hbl hsz
          have etake : d.data.toList.take d.size = d.data.toList := List.take_of_length_le (by rw [HDL.out]; exact Nat.le_refl _)
          rw [etake]
          clear etake
          generalize dv d.data.toList = m at *
          have hn2 := fun ty => run_next_end (P := Tryd.prog) w1 d d.size ty hlt
          by_cases hit : itoa (-(m : Int)) = s.data.toList
          · have e1 : (itoa (-(m : Int)) == s.toList) = true := by rw [beq_iff_eq, ByteArray.toList_eq]; exact hit
            have Hit := Lib.hid hit
            clear hit
            go_wp2_with (go_at_call 17; refine hf.out.mono ?_; rintro e w2 ⟨rfl, hb1⟩)
            go_ret2
            exact (Fin.out _ (HB.out.trans (hb1.mono (by rw [HSZ.out]; omega)))).1 Hit.out
          · have e1 : (itoa (-(m : Int)) == s.toList) = false := by rw [beq_eq_false_iff_ne, ByteArray.toList_eq]; exact hit
            have Hit := Lib.hid hit
            clear hit
            go_wp2_with (go_at_call 17; refine hf.out.mono ?_; rintro e w2 ⟨rfl, hb1⟩)
            go_ret2
            exact (Fin.out _ (HB.out.trans (hb1.mono (by rw [HSZ.out]; omega)))).2 Hit.out
end Go.Proofs.YtlmaaiffmomflaaDoor.Parse
