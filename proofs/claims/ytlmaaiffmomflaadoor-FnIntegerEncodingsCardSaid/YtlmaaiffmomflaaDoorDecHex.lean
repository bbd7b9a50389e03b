/- Hexadecimal decoding: the model's and the program's functions give the same string. -/
import Derived.Test.YtlmaaiffmomflaaDoorHexPlain
namespace Go.Proofs.YtlmaaiffmomflaaDoor.DecHex
open Go Go.RowKit Byt Fixed Hex HexPlain

/-- The model's value of a digit: minus one where it is none. -/
def fromHex (b : UInt8) : Int := if hx b < 16 then (hx b : Int) else -1


/-- What a call of a decoder comes to. -/
def Ans (s : ByteArray) (w : World) (e : Ending) (w' : World) : Prop :=
  ∃ (out : ByteArray) (ok : Bool), e = .returned (.tuple #[.string out, .bool ok]) ∧ Decoded s.data.toList out ok ∧ Below w.heap.size w w'

theorem nib_at (s : ByteArray) (k : Nat) (h : k < s.size) : nib s.data.toList k = hx s[k] := by
  have hl : k < s.data.toList.length := by rw [Array.length_toList]; exact h
  unfold nib
  rw [List.getD_eq_getElem?_getD, List.getElem?_eq_getElem hl]
  rfl


theorem ret_digit {a b : Int} (h : a = b) : Ending.returned (.tuple #[.int .u8 a, .bool true]) = .returned (.tuple #[.int .u8 b, .bool true]) := by rw [h]

/-- The program's value of a rune: of a byte below 128 as 'hx' has it. -/
theorem digit_yes (b : UInt8) (h : hx b < 16) (w : World) : Calls Tryd.prog 27 #[.int .i32 (b.toNat : Int)] w fun e w' => e = .returned (.tuple #[.int .u8 (hx b : Int), .bool true]) ∧ w = w' := by
  unfold hx at h
  by_cases h1 : 48 ≤ b.toNat ∧ b.toNat ≤ 57
  · have e : hx b = b.toNat - 48 := by unfold hx; rw [if_pos h1]
    rw [e]
    obtain ⟨h1, h2⟩ := h1
    clear h e
    go_enter Tryd.func27, Tryd.ntmps27
    go_wp2
    go_ret2
    exact ⟨ret_digit (by omega), rfl⟩
  · rw [if_neg h1] at h
    by_cases h2 : 97 ≤ b.toNat ∧ b.toNat ≤ 102
    · have e : hx b = b.toNat - 87 := by unfold hx; rw [if_neg h1, if_pos h2]
      rw [e]
      obtain ⟨h3, h4⟩ := h2
      clear h e h1
      go_enter Tryd.func27, Tryd.ntmps27
      go_wp2
      go_ret2
      exact ⟨ret_digit (by omega), rfl⟩
    · rw [if_neg h2] at h
      omega

theorem digit_no (r : Int) (h : ¬ (48 ≤ r ∧ r ≤ 57) ∧ ¬ (97 ≤ r ∧ r ≤ 102)) (w : World) : Calls Tryd.prog 27 #[.int .i32 r] w fun e w' => e = .returned (.tuple #[.int .u8 0, .bool false]) ∧ w = w' := by
  obtain ⟨h1, h2⟩ := h
  rcases (show r < 48 ∨ (57 < r ∧ r < 97) ∨ 102 < r by omega) with h | h | h
  · clear h1 h2
    go_enter Tryd.func27, Tryd.ntmps27
    go_wp2
    go_ret2
    exact ⟨rfl, rfl⟩
  · obtain ⟨h3, h4⟩ := h
    clear h1 h2
    go_enter Tryd.func27, Tryd.ntmps27
    go_wp2
    go_ret2
    exact ⟨rfl, rfl⟩
  · clear h1 h2
    go_enter Tryd.func27, Tryd.ntmps27
    go_wp2
    go_ret2
    exact ⟨rfl, rfl⟩

theorem modify_push (a : Array Obj) (x : Obj) (g : Nat) (f : Obj → Obj) (hg : g < a.size) : (a.push x).modify g f = (a.modify g f).push x := by
  apply Array.ext
  · simp
  · intro i h1 h2
    simp only [Array.getElem_modify, Array.getElem_push, Array.size_modify]
    by_cases h : i < a.size
    · simp [h]
    · have : ¬ g = i := by omega
      simp [h, this]

theorem iter_setCell (w : World) (s : ByteArray) (p g j : Nat) (v : Value) (hg : g < w.heap.size) :
    (w.iter s p).setCell ⟨g, j, none⟩ v = (w.setCell ⟨g, j, none⟩ v).iter s p := by
  unfold World.iter World.alloc World.setCell
  simp only
  rw [modify_push _ _ _ _ hg]

theorem iter_cell (w : World) (s : ByteArray) (p g j : Nat) (hg : g < w.heap.size) : (w.iter s p).cell? ⟨g, j, none⟩ = w.cell? ⟨g, j, none⟩ :=
  World.cell?_alloc_old _ _ _ (Nat.ne_of_lt hg)
theorem iter_frozen (w : World) (s : ByteArray) (p g j : Nat) (hg : g < w.heap.size) : (w.iter s p).frozen? ⟨g, j, none⟩ = w.frozen? ⟨g, j, none⟩ :=
  World.frozen?_alloc_old _ _ _ (Nat.ne_of_lt hg)

theorem next_at (w0 : World) (s : ByteArray) (k B : Nat) (hB : w0.heap.size = B) (h : k < s.size) (r n : Nat) (hd : Utf8.decode s k = (r, n)) (ty : TypeId) :
    (Instr.next (.pointer (some ⟨B, 0, none⟩)) true ty).run Tryd.prog (w0.iter s k) = .ok (.tuple #[.bool true, .int .i64 k, .int .i32 r]) (w0.iter s (k + n)) := by
  subst hB
  rw [run_next_any w0 s k ty h, hd]

theorem next_none (w0 : World) (s : ByteArray) (k B : Nat) (hB : w0.heap.size = B) (h : ¬ k < s.size) (ty : TypeId) :
    (Instr.next (.pointer (some ⟨B, 0, none⟩)) true ty).run Tryd.prog (w0.iter s k) = .ok (.tuple #[.bool false]) (w0.iter s k) := by
  subst hB
  exact run_next_end w0 s k ty h

theorem iterPos_at (w0 : World) (s : ByteArray) (k B : Nat) (hB : w0.heap.size = B) : (w0.iter s k).iterPos B = k := by
  subst hB
  exact World.iterPos_iter w0 s k

theorem Below.iter {B : Nat} {w w0 : World} (h : Below B w w0) (hB : B ≤ w0.heap.size) (s : ByteArray) (k : Nat) : Below B w (w0.iter s k) := h.alloc hB _

theorem not_hex {b : UInt8} (h : ¬ hx b < 16) : ¬ (48 ≤ (b.toNat : Int) ∧ (b.toNat : Int) ≤ 57) ∧ ¬ (97 ≤ (b.toNat : Int) ∧ (b.toNat : Int) ≤ 102) := by
  unfold hx at h
  constructor
  · intro q
    rw [if_pos (by omega)] at h
    omega
  · intro q
    rw [if_neg (by omega), if_pos (by omega)] at h
    omega

set_option maxRecDepth 100000 in
set_option maxHeartbeats 400000 in
theorem impl_any (s : ByteArray) (w : World) (hs : s.size ≤ 70368744177663) :
    Calls Tryd.prog 16 #[.string s] w (Ans s w) := by
  have hlen : s.data.toList.length = s.size := Array.length_toList
  have HL := Lib.hid hlen
  clear hlen
  obtain ⟨i0, hi, hz0, hz1, hz2⟩ := info_parts info_u8
  by_cases hodd : s.size % 2 = 1
  · have ht2 : ((s.size : Int) % 2 != 0) = true := by rw [bne_iff_ne]; omega
    have Ho := Lib.hid hodd
    clear hodd
    go_enter Tryd.func16, Tryd.ntmps16
    go_wp2_with fail
    go_ret2
    exact ⟨.empty, false, rfl, .inr ⟨rfl, rfl, fun h => by have := h.1; rw [HL.out] at this; have := Ho.out; omega⟩, Below.refl _ _⟩
  · have ht2 : ((s.size : Int) % 2 != 0) = false := by rw [bne_eq_false_iff_eq]; omega
    have hev : s.size % 2 = 0 := by omega
    have He := Lib.hid hev
    clear hev hodd
    go_enter Tryd.func16, Tryd.ntmps16
    go_wp2_with (at_make; refine wpList_make_full _ rfl _ _ 22 rfl w.heap.size 5 i0 (.int .u8 0) 1 Tryd.underlying22 hi hz0 hz1 _ _ _ _ (s.size / 2) rfl rfl (by omega) (by omega) (by rw [hz2]; omega) (by unfold maxLen; omega) (Nat.le_refl _) ?_)
    intro w1 hown0 hg0
    have hown1 := Own.made hown0
    have hb1 : Below w.heap.size w w1 := (Below.refl _ _).grown hg0 (Nat.le_refl _) (by simp)
    have hlt1 : w.heap.size < w1.heap.size := (World.ownsRow.lt hown1 _ rfl).2
    clear hown0 hg0
    go_wp2_with fail
    go_loopw [5] (fun _ wr => ∃ (w0 : World) (k : Nat), wr = w0.iter s k ∧ Hid (w0.heap.size = w1.heap.size) ∧ k ≤ s.size ∧ Own w0 w.heap.size 5 (.slice (some ⟨w.heap.size, 0, none⟩) (s.size / 2) (s.size / 2)) (row s.data.toList k (s.size / 2)) ∧ Hid (∀ j, j < k → nib s.data.toList j < 16) ∧ Below w.heap.size w w0) (fun _ wr => s.size - wr.iterPos w1.heap.size)
    case atStart => exact ⟨w1, 0, rfl, rfl, Nat.zero_le _, by rw [row_zero]; exact hown1, fun j hj => by omega, hb1⟩
    case round =>
      obtain ⟨w0, k, rfl, hsz, hk, hown, hh, hb⟩ := hrel
      by_cases hlt : k < s.size
      · have n1 := nib_at s k hlt
        by_cases hd : hx s[k] < 16
        · have hlow : s[k].toNat < 128 := by
            unfold hx at hd
            split at hd
            · omega
            · split at hd <;> omega
          have hn := next_at w0 s k _ hsz.out hlt _ _ (decode_ascii s k hlt hlow)
          have hg : w.heap.size < w0.heap.size := by rw [hsz.out]; exact hlt1
          have hj : k / 2 < s.size / 2 := by have := He.out; omega
          have hrl := row_length s.data.toList k (s.size / 2)
          have hc := hown.cellAt hrl (k / 2) hj
          rw [row_getD _ _ _ _ hj] at hc
          have hf := hown.frozenAt hrl (k / 2)
          rw [← iter_cell w0 s (k + 1) _ _ hg] at hc
          rw [← iter_frozen w0 s (k + 1) _ _ hg] at hf
          have hall : ∀ i, i ≤ k → nib s.data.toList i < 16 := fun i hi => by
            by_cases e : i = k
            · rw [e, n1]; exact hd
            · exact hh.out i (by omega)
          have hstep := cellv_step s.data.toList k hall
          have hu := u8_step (cellv s.data.toList k (k / 2)).toNat (hx s[k]) hstep.1 hd
          rw [n1] at hstep
          have hset := hown.stored hrl (k / 2) (cellv s.data.toList (k + 1) (k / 2))
          rw [row_set _ _ _ (by omega)] at hset
          rw [hstep.2] at hset
          have hdg := digit_yes s[k] hd
          have N1 := Lib.hid n1
          have Hset := Lib.hid hset
          have Hall := Lib.hid hall
          have Hrl := Lib.hid hrl
          have Hdg := Lib.hid hdg
          clear n1 hset hall hrl hstep hdg
          generalize (cellv s.data.toList k (k / 2)).toNat = x at *
          generalize hx s[k] = y at *
          go_wp2_with (go_at_call 27; refine (Hdg.out _).mono ?_; rintro e w2 ⟨rfl, rfl⟩)
          have ec : ((16 * x + y : Nat) : Int) = 16 * (x : Int) + (y : Int) := by omega
          have hset := Hset.out
          rw [ec] at hset
          have hsz2 : (w0.setCell ⟨w.heap.size, k / 2, none⟩ (.int .u8 (16 * (x : Int) + (y : Int)))).heap.size = w1.heap.size := by
            rw [← hsz.out]
            simp [World.setCell]
          rw [iter_setCell _ _ _ _ _ _ hg, iterPos_at _ _ _ _ hsz2, iterPos_at _ _ _ _ hsz.out]
          exact ⟨⟨_, k + 1, rfl, hsz2, by omega, hset, fun j hj => Hall.out j (by omega), hb.setCell (Nat.le_refl _) _⟩, by omega⟩
        · by_cases hlow : s[k].toNat < 128
          · have hn := next_at w0 s k _ hsz.out hlt _ _ (decode_ascii s k hlt hlow)
            have hdg := digit_no _ (not_hex hd)
            have N1 := Lib.hid n1
            have Hdg := Lib.hid hdg
            have Hd := Lib.hid hd
            clear n1 hdg hd
            go_wp2_with (go_at_call 27; refine (Hdg.out _).mono ?_; rintro e w2 ⟨rfl, rfl⟩)
            go_ret2
            exact ⟨.empty, false, rfl, .inr ⟨rfl, rfl, fun q => Hd.out (by rw [← N1.out]; exact q.2 k (by rw [HL.out]; exact hlt))⟩, Below.iter hb hb.size _ _⟩
          · have hdec := decode_high s k hlt (by omega)
            have hdl := decode_le s k
            obtain ⟨⟨r, n⟩, hrn⟩ : ∃ q : Nat × Nat, Utf8.decode s k = q := ⟨_, rfl⟩
            rw [hrn] at hdec hdl
            have hn := next_at w0 s k _ hsz.out hlt _ _ hrn
            have hdg := digit_no (r : Int) ⟨by simp only at hdec; omega, by simp only at hdec; omega⟩
            have N1 := Lib.hid n1
            have Hdg := Lib.hid hdg
            have Hd := Lib.hid hd
            clear n1 hdg hd hrn
            go_wp2_with (go_at_call 27; refine (Hdg.out _).mono ?_; rintro e w2 ⟨rfl, rfl⟩)
            go_ret2
            exact ⟨.empty, false, rfl, .inr ⟨rfl, rfl, fun q => Hd.out (by rw [← N1.out]; exact q.2 k (by rw [HL.out]; exact hlt))⟩, Below.iter hb hb.size _ _⟩
      · have hn := next_none w0 s k _ hsz.out hlt
        have e : k = s.size := by omega
        have hst := (hown.alloc (.stringIter s k)).string (P := Tryd.prog) 22 9 Tryd.underlying22 Tryd.underlying5 Tryd.underlying9
        have E := Lib.hid e
        clear e
        change (convert _ _ _).run Tryd.prog (w0.iter s k) = .ok _ (w0.iter s k) at hst
        go_wp2_with fail
        go_ret2
        refine ⟨_, true, rfl, .inl ⟨rfl, by rw [HL.out]; exact He.out, fun i hi => hh.out i (by rw [HL.out] at hi; rw [E.out]; exact hi), ?_⟩, Below.iter hb hb.size _ _⟩
        rw [HL.out, E.out]

end Go.Proofs.YtlmaaiffmomflaaDoor.DecHex
