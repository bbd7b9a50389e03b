/- Texts that the proof rests on, one behind the other. -/
import Derived.Test.YteihnbnlfocgmaaGreatDoorSz
import Derived.Test.YteihnbnlfocgmaaGreatDoorIntsLaw
import Derived.Test.YteihnbnlfocgmaaGreatDoorFormat
import Derived.Test.YteihnbnlfocgmaaGreatDoorByt
import Derived.StillTailTactics
import Derived.Test.YteihnbnlfocgmaaGreatDoorCd
import Derived.Test.YteihnbnlfocgmaaGreatDoorTabImp2
import Derived.Test.YteihnbnlfocgmaaGreatDoorTabFmt
import Derived.Test.YteihnbnlfocgmaaGreatDoorTabParse
import Derived.Test.YteihnbnlfocgmaaGreatDoorExact
import Derived.Test.YteihnbnlfocgmaaGreatDoorShelf
import Derived.Deep.RegionLaw
import Derived.Test.YteihnbnlfocgmaaGreatDoorParMath
import Derived.Deep.RegionHeld3
import Derived.Deep.DeepCutAuto
import Derived.Test.YteihnbnlfocgmaaGreatDoorDbParse
import Derived.Test.YteihnbnlfocgmaaGreatDoorDbImp1
import Derived.Lib.Split
import Derived.Test.YteihnbnlfocgmaaGreatDoorRows
import Derived.WalkKit
import Derived.WalkSpells
import Derived.WalkLawsBesides
import Derived.Lib.Hide
import Derived.Deep.QuietTactic
import Derived.BigQuiet
import Derived.Deep.RegionWith
import Derived.ProofKit
import Derived.OpenShut
import Derived.Test.YteihnbnlfocgmaaGreatDoorTabIns

namespace Go.Proofs.YteihnbnlfocgmaaGreatDoor.Loc
open Go Go.RowKit Byt Ints IntsLaw Sz
open Go.Lib (decDigits itoa)

theorem kept_trans {w a b : World} (h : Below w.heap.size w a) (k : Below a.heap.size a b) : Below w.heap.size w b := h.trans (k.mono h.size)


/-- Is no number of a less than b's at its place? -/
def dom (a b : List Int) : Bool := decide (a.length = b.length ∧ ∀ t : Nat, t < a.length → b.getD t 0 ≤ a.getD t 0)

/-- A location's bytes. -/
def locB (l : List Int) : List UInt8 := l.map fun x => UInt8.ofNat (48 + x.toNat)
theorem itoa_digit {x : Int} (h : 0 ≤ x ∧ x ≤ 7) : itoa x = [UInt8.ofNat (48 + x.toNat)] := by
  unfold itoa
  rw [if_neg (by omega), decDigits, dif_pos (by omega)]
theorem locB_len (l : List Int) : (locB l).length = l.length := by simp [locB]


/-- The numbers that a string's bytes spell, one a byte. -/
def digs (l : List UInt8) : List Int := l.map fun b => (b.toNat : Int) - 48
theorem digs_len (l : List UInt8) : (digs l).length = l.length := by simp [digs]
end Go.Proofs.YteihnbnlfocgmaaGreatDoor.Loc

namespace Go.Proofs.YteihnbnlfocgmaaGreatDoor.Draw
open Go Go.RowKit Byt

/-- v is a slice of the bytes l, which lie below block B. -/
def Reads (w : World) (v : Value) (l : List UInt8) (B : Nat) : Prop :=
  ∃ (a : Option Addr) (cap : Nat), v = .slice a l.length cap ∧ l.length ≤ 9223372036854775807 ∧
    (l = [] ∨ ∃ b off, a = some ⟨b, off, none⟩ ∧ b < B ∧ ∀ t, (h : t < l.length) → w.cell? ⟨b, off + t, none⟩ = some (.int .u8 (l[t].toNat : Int)))

theorem Reads.later {w w' : World} {v : Value} {l : List UInt8} {B : Nat} (h : Reads w v l B) (hb : Below B w w') : Reads w' v l B := by
  obtain ⟨a, cap, hv, hl, hc⟩ := h
  refine ⟨a, cap, hv, hl, hc.imp id ?_⟩
  rintro ⟨b, off, ha, hB, hcell⟩
  exact ⟨b, off, ha, hB, fun t ht => (hb.cell (p := ⟨b, off + t, none⟩) hB).trans (hcell t ht)⟩
end Go.Proofs.YteihnbnlfocgmaaGreatDoor.Draw

namespace Go.Proofs.YteihnbnlfocgmaaGreatDoor.Dig
open Go Go.RowKit Byt Ints IntsLaw Loc Draw

theorem cell_of {w : World} {v : Value} {l : List Int} {B : Nat} (h : RI w v l B) {k : Nat} (hk : k < l.length) :
    ∃ b off cap, v = .slice (some ⟨b, off, none⟩) l.length cap ∧ b < B ∧ w.cell? ⟨b, off + k, none⟩ = some (.int .i64 l[k]) := by
  obtain ⟨a, cap, rfl, _, hc⟩ := h
  rcases hc with h0 | ⟨b, off, rfl, hb, hcell⟩
  · rw [h0] at hk; simp at hk
  · exact ⟨b, off, cap, rfl, hb, hcell k hk⟩
theorem info_u8 : (Tryz.prog.info? 5).map (fun i => (i.zero, i.size, i.bytes)) = some (some (.int .u8 0), 1, 1) := by kernel_rfl

theorem format_digit (x : Int) (h : 0 ≤ x ∧ x ≤ 9) (w : World) :
    Calls Tryz.prog 115 #[.int .i64 x] w fun e w' => e = .returned (.int .u8 ((UInt8.ofNat (48 + x.toNat)).toNat : Int)) ∧ w = w' := by
  obtain ⟨n, rfl⟩ := Int.eq_ofNat_of_zero_le h.1
  have hn : n ≤ 9 := by omega
  rcases (show n = 0 ∨ n = 1 ∨ n = 2 ∨ n = 3 ∨ n = 4 ∨ n = 5 ∨ n = 6 ∨ n = 7 ∨ n = 8 ∨ n = 9 by omega) with rfl | rfl | rfl | rfl | rfl | rfl | rfl | rfl | rfl | rfl
  all_goals
    clear h hn
    go_enter Tryz.func115, Tryz.ntmps115
    go_wp2
    go_ret
    exact ⟨rfl, rfl⟩
theorem parse_digit (b : UInt8) (w : World) :
    Calls Tryz.prog 73 #[.int .u8 (b.toNat : Int)] w fun e w' => e = .returned (.int .i64 ((b.toNat : Int) - 48)) ∧ w = w' := by
  have hb : b.toNat < 256 := UInt8.toNat_lt b
  generalize b.toNat = n at *
  go_enter Tryz.func73, Tryz.ntmps73
  go_wp2
  go_ret
  exact ⟨rfl, rfl⟩
set_option maxRecDepth 100000 in
theorem map_digits (v : Value) (l : List Int) (B : Nat) (w : World) (hr : RI w v l B) (hB : B ≤ w.heap.size) (h16 : l.length ≤ 1048577) (hloc : ∀ x ∈ l, 0 ≤ x ∧ x ≤ 9) :
    Calls Tryz.prog 114 #[v, .func (.func 115) #[] #[]] w fun e w' => ∃ v', e = .returned v' ∧ Own w' w.heap.size 5 v' (locB l) ∧ Below w.heap.size w w' := by
  obtain ⟨i0, hi, hz0, hz1, hz2⟩ := info_parts info_u8
  have HR := Lib.hid (fun w' (hb : Below w.heap.size w w') => (hr.mono hB).later hb)
  have HX := Lib.hid hloc
  clear hloc
  obtain ⟨a, cap, rfl, hlm, _⟩ := hr
  go_enter Tryz.func114, Tryz.ntmps114
  go_wp2_with (at_make; refine wpList_make_own _ rfl _ _ 22 rfl w.heap.size 5 i0 (.int .u8 0) 1 Tryz.underlying22 hi hz0 hz1 _ _ _ l.length rfl rfl rfl (by rw [hz2]; omega) (by unfold maxLen; omega) (Nat.le_refl _) ?_)
  intro w1 hown0 hg0
  have hown1 : Own w1 w.heap.size 5 (.slice (some ⟨w.heap.size, 0, none⟩) 0 l.length) [] := hown0
  have hb1 : Below w.heap.size w w1 := (Below.refl _ _).grown hg0 (Nat.le_refl _) (by simp)
  clear hown0 hg0
  go_wp2
  go_loopw [5, 13] (fun o i wr => ∃ k : Nat, k ≤ l.length ∧ i = .int .i64 k ∧ Own wr w.heap.size 5 o (locB (l.take k)) ∧ Below w.heap.size w wr) (fun _ i _ => l.length - (intOf i).toNat)
  case atStart => exact ⟨0, Nat.zero_le _, rfl, by simpa [locB] using hown1, hb1⟩
  case round =>
    obtain ⟨k, hk, rfl, hown, hb⟩ := hrel
    by_cases hlt : k < l.length
    · obtain ⟨b, off, cap', e1, hbB, hc⟩ := cell_of (HR.out wr hb) hlt
      injection e1 with e1 e2 e3
      subst e1 e3
      have HC := Lib.hid (format_digit l[k] (HX.out _ (List.getElem_mem hlt)) wr)
      have hlen : (locB (l.take k)).length + 1 ≤ 140737488355328 := by rw [locB_len, List.length_take]; omega
      have hbs := hb.size
      have HB := Lib.hid hb
      have HT := Lib.hid (show locB (l.take (k + 1)) = locB (l.take k) ++ [UInt8.ofNat (48 + l[k].toNat)] by unfold locB; rw [List.take_succ_eq_append_getElem hlt, List.map_append]; rfl)
      clear hb
      generalize UInt8.ofNat (48 + l[k].toNat) = z at *
      have hz : z.toNat < 256 := UInt8.toNat_lt z
      go_wp2_with (first | (go_at_call 115; refine HC.out.mono ?_; rintro e w1 ⟨rfl, rfl⟩) | (at_builtin; refine wp_append1 rfl (.tmp 17) (.tmp 21) 22 rfl w.heap.size 5 Tryz.underlying22 info_u8 _ _ rfl hown _ rfl (by omega) (by omega) hlen hbs ?_))
      intro v' w5 hown5 hb5
      go_wp2_with fail
      go_roundw
      case rel => exact ⟨k + 1, by omega, by go_num, by rw [HT.out]; exact hown5, HB.out.trans hb5⟩
      case measure => simp [intOf]; omega
    · have ek : k = l.length := by omega
      subst ek
      rw [List.take_length] at hown
      go_wp2_with fail
      go_ret
      exact ⟨_, rfl, hown, hb⟩


theorem format_digits (v : Value) (l : List Int) (B : Nat) (w : World) (hr : RI w v l B) (hB : B ≤ w.heap.size) (h16 : l.length ≤ 1048577) (hloc : ∀ x ∈ l, 0 ≤ x ∧ x ≤ 9) :
    Calls Tryz.prog 90 #[v] w fun e w' => e = .returned (.string ⟨(locB l).toArray⟩) ∧ Below w.heap.size w w' := by
  have HM := Lib.hid (map_digits v l B w hr hB h16 hloc)
  clear hr hloc
  go_enter Tryz.func90, Tryz.ntmps90
  go_wp2_with fail
  refine HM.out.mono ?_
  rintro e w2 ⟨v', rfl, ho, hb⟩
  have hst := ho.string (P := Tryz.prog) 22 9 Tryz.underlying22 Tryz.underlying5 Tryz.underlying9
  go_wp2
  go_ret
  exact ⟨rfl, hb⟩
theorem cell_of_bytes {w : World} {v : Value} {l : List UInt8} {B : Nat} (h : Reads w v l B) {k : Nat} (hk : k < l.length) :
    ∃ b off cap, v = .slice (some ⟨b, off, none⟩) l.length cap ∧ b < B ∧ w.cell? ⟨b, off + k, none⟩ = some (.int .u8 (l[k].toNat : Int)) := by
  obtain ⟨a, cap, rfl, _, hc⟩ := h
  rcases hc with h0 | ⟨b, off, rfl, hb, hcell⟩
  · rw [h0] at hk; simp at hk
  · exact ⟨b, off, cap, rfl, hb, hcell k hk⟩
theorem reads_mono {w : World} {v : Value} {l : List UInt8} {B B' : Nat} (h : Reads w v l B) (hB : B ≤ B') : Reads w v l B' := by
  obtain ⟨a, cap, h1, h2, h3⟩ := h
  refine ⟨a, cap, h1, h2, h3.imp id ?_⟩
  rintro ⟨b, off, e, hb, hc⟩
  exact ⟨b, off, e, by omega, hc⟩

set_option maxRecDepth 100000 in
theorem map_parse (v : Value) (l : List UInt8) (B : Nat) (w : World) (hr : Reads w v l B) (hB : B ≤ w.heap.size) (h16 : l.length ≤ 1048577) :
    Calls Tryz.prog 97 #[v, .func (.func 73) #[] #[]] w fun e w' => ∃ v', e = .returned v' ∧ OwnI w' w.heap.size 3 v' (digs l) ∧ Below w.heap.size w w' := by
  obtain ⟨i0, hi, hz0, hz1, hz2⟩ := info_parts info_i64
  have HR := Lib.hid (fun w' (hb : Below w.heap.size w w') => (reads_mono hr hB).later hb)
  obtain ⟨a, cap, rfl, hlm, _⟩ := hr
  go_enter Tryz.func97, Tryz.ntmps97
  go_wp2_with (at_make; refine wpList_make_own _ rfl _ _ 70 rfl w.heap.size 3 i0 (.int .i64 0) 1 Tryz.underlying70 hi hz0 hz1 _ _ _ l.length rfl rfl rfl (by rw [hz2]; omega) (by unfold maxLen; omega) (Nat.le_refl _) ?_)
  intro w1 hown0 hg0
  have hown1 : OwnI w1 w.heap.size 3 (.slice (some ⟨w.heap.size, 0, none⟩) 0 l.length) [] := hown0
  have hb1 : Below w.heap.size w w1 := (Below.refl _ _).grown hg0 (Nat.le_refl _) (by simp)
  clear hown0 hg0
  go_wp2
  go_loopw [5, 13] (fun o i wr => ∃ k : Nat, k ≤ l.length ∧ i = .int .i64 k ∧ OwnI wr w.heap.size 3 o (digs (l.take k)) ∧ Below w.heap.size w wr) (fun _ i _ => l.length - (intOf i).toNat)
  case atStart => exact ⟨0, Nat.zero_le _, rfl, by simpa [digs] using hown1, hb1⟩
  case round =>
    obtain ⟨k, hk, rfl, hown, hb⟩ := hrel
    by_cases hlt : k < l.length
    · obtain ⟨b, off, cap', e1, hbB, hc⟩ := cell_of_bytes (HR.out wr hb) hlt
      injection e1 with e1 e2 e3
      subst e1 e3
      have HC := Lib.hid (parse_digit l[k] wr)
      have hlen : (digs (l.take k)).length + 1 ≤ 1000000000000 := by rw [digs_len, List.length_take]; omega
      have hbs := hb.size
      have HB := Lib.hid hb
      have HT := Lib.hid (show digs (l.take (k + 1)) = digs (l.take k) ++ [(l[k].toNat : Int) - 48] by unfold digs; rw [List.take_succ_eq_append_getElem hlt, List.map_append]; rfl)
      clear hb
      go_wp2_with (first | (go_at_call 73; refine HC.out.mono ?_; rintro e w1 ⟨rfl, rfl⟩) | (at_builtin; refine wp_appendI rfl (.tmp 17) (.tmp 21) 70 rfl w.heap.size 3 Tryz.underlying70 info_i64 _ _ rfl hown _ rfl hlen hbs ?_))
      intro v' w5 hown5 hb5
      go_wp2_with fail
      go_roundw
      case rel => exact ⟨k + 1, by omega, by go_num, by rw [HT.out]; exact hown5, HB.out.trans hb5⟩
      case measure => simp [intOf]; omega
    · have ek : k = l.length := by omega
      subst ek
      rw [List.take_length] at hown
      go_wp2_with fail
      go_ret
      exact ⟨_, rfl, hown, hb⟩

/-- What '[]byte(s)' lays can be read. -/
theorem reads_row (s : ByteArray) (c : Nat) (w : World) (e : TypeId) (hs : s.size ≤ 1048577) :
    Reads (w.drew.alloc (.cells (bytesRow s c) e ((bytesRow s c).size, (bytesRow s c).size + 1))) (.slice (some ⟨w.heap.size, 0, none⟩) s.data.toList.length c) s.data.toList (w.heap.size + 1) := by
  have hl : s.data.toList.length = s.size := Array.length_toList
  refine ⟨_, c, rfl, by omega, .inr ⟨w.heap.size, 0, rfl, by omega, fun t ht => ?_⟩⟩
  have h := World.cell?_alloc_mark w.drew (bytesRow s c) e ((bytesRow s c).size, (bytesRow s c).size + 1) t
  rw [Nat.zero_add]
  refine h.trans ?_
  rw [bytesRow_at s _ t (by omega)]
  simp

theorem bytes_laid (s : ByteArray) (w : World) (hs : s.size ≤ 1048577) :
    ∃ c w1, (convert 9 22 (.string s)).run Tryz.prog w = .ok (.slice (some ⟨w.heap.size, 0, none⟩) s.size c) w1 ∧
      Reads w1 (.slice (some ⟨w.heap.size, 0, none⟩) s.size c) s.data.toList w1.heap.size ∧ w1.heap.size = w.heap.size + 1 ∧ Below w.heap.size w w1 := by
  have hrd := reads_row s (grownCap w s.size 0 5) w 5 hs
  rw [show s.data.toList.length = s.size from Array.length_toList] at hrd
  have hz : (w.drew.alloc (.cells (bytesRow s (grownCap w s.size 0 5)) 5 ((bytesRow s (grownCap w s.size 0 5)).size, (bytesRow s (grownCap w s.size 0 5)).size + 1))).heap.size = w.heap.size + 1 := Array.size_push _
  refine ⟨_, _, run_bytes_of_string (P := Tryz.prog) w 9 22 5 s Tryz.underlying9 Tryz.underlying22 Tryz.underlying5, ?_, hz, ?_⟩
  · rw [hz]; exact hrd
  · have h := (Below.refl w.heap.size w.drew).alloc (Nat.le_refl _) (.cells (bytesRow s (grownCap w s.size 0 5)) 5 ((bytesRow s (grownCap w s.size 0 5)).size, (bytesRow s (grownCap w s.size 0 5)).size + 1))
    exact below_undrew ⟨h.os, h.tape, h.output, h.size, h.block⟩


set_option maxRecDepth 100000 in
theorem parse_digits (s : ByteArray) (w : World) (h16 : s.size ≤ 1048577) :
    Calls Tryz.prog 76 #[.string s] w fun e w' => ∃ v', e = .returned v' ∧ OwnI w' w.heap.size 3 v' (digs s.data.toList) ∧ Below w.heap.size w w' := by
  have hl : s.data.toList.length = s.size := Array.length_toList
  obtain ⟨c, w1, hcv, hrd, hsz, hbel⟩ := bytes_laid s w h16
  have HM := Lib.hid (map_parse _ _ _ w1 hrd (Nat.le_refl _) (by rw [hl]; omega))
  have HB := Lib.hid hbel
  have HZ := Lib.hid hsz
  clear hrd hbel hl hsz
  generalize digs s.data.toList = ds at *
  go_enter Tryz.func76, Tryz.ntmps76
  go_wp2_with fail
  refine HM.out.mono ?_
  rintro e w2 ⟨v', rfl, ho, hb⟩
  have hbb : Below w.heap.size w w2 := HB.out.trans (hb.mono (by rw [HZ.out]; omega))
  have ho' := ho.base_mono (base' := w.heap.size) (by rw [HZ.out]; omega)
  go_wp2_with fail
  go_ret
  exact ⟨_, rfl, ho', hbb⟩
end Go.Proofs.YteihnbnlfocgmaaGreatDoor.Dig

namespace Go.Proofs.YteihnbnlfocgmaaGreatDoor.Cd
open Go Go.RowKit Byt Ints
namespace Cd
variable {α β : Type}

theorem wp_appendR {P : Program} {c : Cd α} (hn : c.n = 1) {o : Oper} {a : Act} {K : Act → World → Prop} {Q : Exit → Act → World → Prop} {w : World} (s x : Operand) (t : TypeId)
    (ho : o.op = .call { callee := .builtin .append, args := #[s, x], argTypes := #[t, t] })
    (base : Nat) (e : TypeId) (z : Value) (bytes : Nat) (ht : P.underlying t = some (.slice e)) (hinfo : (P.info? e).map (fun i => (i.zero, i.size, i.bytes)) = some (some z, 1, bytes)) (hzs : z.cells.size = 1) (hby : bytes ≤ 100)
    (g cap n : Nat) (l : List α) (fp : List Nat) (hs : a.eval s = .slice (some ⟨g, 0, none⟩) n cap) (hnl : n = l.length) (how : (sl e c).ow w base [.slice (some ⟨g, 0, none⟩) n cap] l fp) (hd : fp.Nodup) (hroom : n + 1 ≤ cap) (b : Nat) (u : Value) (hx : a.eval x = .slice (some ⟨b, 0, none⟩) 1 1) (hu : w.cell? ⟨b, 0, none⟩ = some u)
    (y : α) (f : List Nat) (hy : c.ow w base [u] y f) (hfd : f.Nodup) (hdis : ∀ b ∈ f, b ∉ fp) (hlen : n + 1 ≤ 1000000000000) (hbase : base ≤ w.heap.size)
    (h : ∀ w' fp', (sl e c).ow w' base [.slice (some ⟨g, 0, none⟩) (n + 1) cap] (l ++ [y]) fp' → fp'.Nodup → (∀ b ∈ fp', b ∈ fp ∨ b ∈ f ∨ w.heap.size ≤ b) → Touch fp w w' →
      K (a.put o.dst (.slice (some ⟨g, 0, none⟩) (n + 1) cap)) w') : o.wp P a w K Q := by
  subst hnl
  obtain ⟨i0, hi, hz0, hz1, hz2⟩ := info_parts hinfo
  have hlt : ∀ b ∈ fp, b < w.heap.size := fun b hb => ((sl e c).ow_lt how b hb).2
  obtain ⟨v', xss, fps, e1, hown, hE, hfp⟩ := how
  injection e1 with e1 _
  subst e1
  have hown0 := hown
  rw [hn] at hown
  have hnews : ∀ j u', [u][j]? = some u' → w.cell? ((⟨b, 0, none⟩ : Addr).add j) = some u' := by
    intro j u' hj
    match j, hj with
    | 0, hj =>
      have e1 : (⟨b, 0, none⟩ : Addr).add 0 = ⟨b, 0, none⟩ := by simp [Addr.add]
      rw [e1, hu]
      simpa using hj
  have hone : ∀ u' ∈ [u], u'.oneCell' = true := fun u' hu' => by
    rw [List.mem_singleton.1 hu']
    exact c.one (c.ow_rd hy) u (List.mem_singleton.2 rfl)
  have hbb : (l.length + 1) * bytes ≤ 140737488355328 := by
    calc (l.length + 1) * bytes ≤ 1000000000000 * 100 := Nat.mul_le_mul hlen hby
      _ ≤ 140737488355328 := by decide
  obtain ⟨v2, w2, hr, h2, h3, _, h5⟩ := run_append_own_at (P := P) w base t o.type e i0 z 1 bytes ht hi hz0 hz1 hz2 hzs (by decide) _ l.length xss.flatten hown ⟨b, 0, none⟩ 1 1 [u] rfl hnews hone (by unfold maxLen; omega) hbb hbase
  obtain ⟨cur, hg, hcs, hcapm⟩ : ∃ cur : Array Value, w.heap[g]? = some (.cells cur e (0, 0)) ∧ cur.size = cap ∧ cap ≤ maxLen := by
    rcases hown.2 with ⟨e1, _⟩ | ⟨g', cap', cur, e1, _, hg, _, hcm, hcs, _⟩
    · cases e1
    · simp only [Value.slice.injEq, Option.some.injEq, Addr.mk.injEq, and_true, true_and] at e1
      obtain ⟨rfl, rfl⟩ := e1
      exact ⟨cur, hg, by omega, hcm⟩
  have hr2 := run_append_room (P := P) w t o.type e i0 ht hi g l.length cap cur hg ⟨b, 0, none⟩ 1 1 [u] (by rw [hz1]; rfl) hnews hone hroom (by rw [hz1, hcs]; simp; omega)
  have hv2 : v2 = .slice (some ⟨g, 0, none⟩) (l.length + 1) cap := by
    rw [hr] at hr2
    injection hr2
  subst hv2
  have h2' : w2.ownsRow base e c.n (.slice (some ⟨g, 0, none⟩) (l.length + 1) cap) (l.length + 1) (xss.flatten ++ [u]) := by rw [hn]; exact h2
  obtain ⟨fp', k1, k2, k3, k4⟩ := ow_appended hE hfp hd hlt hy hfd hdis h2' h3 (.inl rfl)
  unfold Oper.wp execOp
  simp only [ho, resolve, invoke, builtin, Sem.run_bind, Sem.run_pure, Result.andThen_ok, List.map_toArray, List.map_cons, List.map_nil, hs, hx, hr]
  exact h w2 fp' k1 k2 k3 k4
theorem wpList_appendR {P : Program} {c : Cd α} (hn : c.n = 1) {ops : Array Oper} {rest : List Oper} {o : Oper} {a : Act} {Q : Exit → Act → World → Prop} {w : World} (hgd : o.guard = none) (s x : Operand) (t : TypeId)
    (ho : o.op = .call { callee := .builtin .append, args := #[s, x], argTypes := #[t, t] })
    (base : Nat) (e : TypeId) (z : Value) (bytes : Nat) (ht : P.underlying t = some (.slice e)) (hinfo : (P.info? e).map (fun i => (i.zero, i.size, i.bytes)) = some (some z, 1, bytes)) (hzs : z.cells.size = 1) (hby : bytes ≤ 100)
    (g cap n : Nat) (l : List α) (fp : List Nat) (hs : a.eval s = .slice (some ⟨g, 0, none⟩) n cap) (hnl : n = l.length) (how : (sl e c).ow w base [.slice (some ⟨g, 0, none⟩) n cap] l fp) (hd : fp.Nodup) (hroom : n + 1 ≤ cap) (b : Nat) (u : Value) (hx : a.eval x = .slice (some ⟨b, 0, none⟩) 1 1) (hu : w.cell? ⟨b, 0, none⟩ = some u)
    (y : α) (f : List Nat) (hy : c.ow w base [u] y f) (hfd : f.Nodup) (hdis : ∀ b ∈ f, b ∉ fp) (hlen : n + 1 ≤ 1000000000000) (hbase : base ≤ w.heap.size)
    (h : ∀ w' fp', (sl e c).ow w' base [.slice (some ⟨g, 0, none⟩) (n + 1) cap] (l ++ [y]) fp' → fp'.Nodup → (∀ b ∈ fp', b ∈ fp ∨ b ∈ f ∨ w.heap.size ≤ b) → Touch fp w w' →
      wpList P ops Q rest (a.put o.dst (.slice (some ⟨g, 0, none⟩) (n + 1) cap)) w') : wpList P ops Q (o :: rest) a w :=
  wpList_plain hgd fun _ hK => wp_appendR hn s x t ho base e z bytes ht hinfo hzs hby g cap n l fp hs hnl how hd hroom b u hx hu y f hy hfd hdis hlen hbase fun w' fp' h1 h2 h3 h4 => hK _ _ (h w' fp' h1 h2 h3 h4)
end Cd
end Go.Proofs.YteihnbnlfocgmaaGreatDoor.Cd

namespace Go.Proofs.YteihnbnlfocgmaaGreatDoor.TabImp
open Go Go.RowKit Byt Ints IntsLaw Cd Rows2 Tab TabSpec Exact TabFmt TabParse

/-- The digits of each row. -/
def digS (rows : List (List Int)) : List ByteArray := rows.map fun r => ⟨(digB r).toArray⟩

set_option maxRecDepth 100000 in
set_option maxHeartbeats 1600000 in
theorem map_fmt (v : Value) (l : List (List Int)) (S : Nat → Prop) (w : World) (hr : rowsC.rd w S [v] l) (h8 : l.length ≤ 1048577) (hok : ∀ r ∈ l, r.length ≤ 4 ∧ ∀ x ∈ r, 0 ≤ x ∧ x ≤ 9) :
    Calls Tryz.prog 89 #[v, .func (.func 90) #[] #[]] w fun e w' => ∃ g fp, e = .returned (.slice (some ⟨g, 0, none⟩) l.length l.length) ∧ strsC.ow w' w.heap.size [.slice (some ⟨g, 0, none⟩) l.length l.length] (digS l) fp ∧ fp.Nodup ∧ Below w.heap.size w w' := by
  obtain ⟨i0, hi, hz0, hz1, hz2⟩ := info_parts info_str
  have HR := Lib.hid (fun w' (hb : Below w.heap.size w w') => Cd.later hr hb)
  have HOK := Lib.hid hok
  obtain ⟨a, cap, rfl, hlm⟩ := rows_form hr
  clear hr hok
  go_enter Tryz.func89, Tryz.ntmps89
  go_wp2_with (at_make; refine wpList_make_own _ rfl _ _ 49 rfl w.heap.size 9 i0 (.string ⟨#[]⟩) 1 Tryz.underlying49 hi hz0 hz1 _ _ _ l.length rfl rfl rfl (by rw [hz2]; omega) (by unfold maxLen; omega) (Nat.le_refl _) ?_)
  intro w1 hown0 hg0
  have how1 : strsC.ow w1 w.heap.size [.slice (some ⟨w.heap.size, 0, none⟩) 0 l.length] [] [w.heap.size] := ⟨_, [], [], rfl, hown0, trivial, rfl⟩
  have hb1 : Below w.heap.size w w1 := (Below.refl _ _).grown hg0 (Nat.le_refl _) (by simp)
  clear hown0 hg0
  go_wp2_with fail
  go_loopw [5, 13] (fun o i wr => ∃ (k : Nat) (fp : List Nat), k ≤ l.length ∧ i = .int .i64 k ∧ o = .slice (some ⟨w.heap.size, 0, none⟩) k l.length ∧ strsC.ow wr w.heap.size [.slice (some ⟨w.heap.size, 0, none⟩) k l.length] (digS (l.take k)) fp ∧ fp.Nodup ∧ Below w.heap.size w wr) (fun _ i _ => l.length - (intOf i).toNat)
  case atStart => exact ⟨0, _, Nat.zero_le _, rfl, rfl, how1, by simp, hb1⟩
  case round =>
    obtain ⟨k, fp, hk, rfl, rfl, how, hnd, hb⟩ := hrel
    by_cases hlt : k < l.length
    · obtain ⟨b, off, cap', u, e1, hbB, hc, hu⟩ := rows_at (HR.out wr hb) hlt
      injection e1 with e1 e2 e3
      subst e1 e3
      obtain ⟨hr3, hr9⟩ := HOK.out _ (List.getElem_mem hlt)
      have HC := Lib.hid (Dig.format_digits u l[k] _ wr (row_ri hu).1 (Nat.le_refl _) (by omega) hr9)
      have HOW := Lib.hid how
      have HND := Lib.hid hnd
      have HB := Lib.hid hb
      have HT := Lib.hid (show digS (l.take (k + 1)) = digS (l.take k) ++ [⟨(digB l[k]).toArray⟩] by unfold digS; rw [List.take_succ_eq_append_getElem hlt, List.map_append]; rfl)
      have hsz : (⟨(digB l[k]).toArray⟩ : ByteArray).size ≤ maxLen := by show (digB l[k]).toArray.size ≤ maxLen; rw [List.size_toArray, digB_len]; unfold maxLen; omega
      have HSZ := Lib.hid hsz
      have HL := Lib.hid (show k = (digS (l.take k)).length by unfold digS; rw [List.length_map, List.length_take]; omega)
      clear hu how hnd hb how1 hb1 hr3 hr9 hsz
      change Hid (Calls _ _ _ _ fun e w' => e = .returned (.string ⟨(digB l[k]).toArray⟩) ∧ _) at HC
      generalize (⟨(digB l[k]).toArray⟩ : ByteArray) = r at *
      go_wp2_with fail
      refine HC.out.mono ?_
      rintro e w2 ⟨rfl, hb2⟩
      have hbA : Below w2.heap.size w2 (w2.alloc (.cells #[.string r] 9 (0, 0))) := below_alloc _ _
      have HOW2 := Lib.hid (Cd.ow_later (Cd.ow_later HOW.out hb2) hbA)
      have HB2 := Lib.hid (below_then (below_then HB.out hb2) hbA)
      have HBS := Lib.hid (show w.heap.size ≤ (w2.alloc (.cells #[.string r] 9 (0, 0))).heap.size by rw [size_alloc]; have := HB.out.size; have := hb2.size; omega)
      have HCELL := Lib.hid (show (w2.alloc (.cells #[.string r] 9 (0, 0))).cell? ⟨w2.heap.size, 0, none⟩ = some (.string r) from World.cell?_alloc_mark _ _ _ _ 0)
      clear hbA hb2
      go_wp2_with (at_builtin; refine Cd.wpList_appendR (c := strC) rfl rfl (.tmp 17) (.tmp 21) 49 rfl w.heap.size 9 (.string ⟨#[]⟩) 16 Tryz.underlying49 info_str rfl (by decide) w.heap.size l.length k (digS (l.take k)) fp rfl HL.out HOW2.out HND.out (by omega) w2.heap.size (.string r) rfl HCELL.out r [] ⟨rfl, HSZ.out, rfl⟩ List.nodup_nil (fun b hb => by cases hb) (by omega) HBS.out ?_)
      intro w3 fp3 ho3 hn3 hsub3 ht3
      have HB3 := Lib.hid (ht3.below HB2.out (fun b hb => (strsC.ow_lt HOW.out b hb).1))
      rw [← HT.out] at ho3
      clear ht3 hsub3
      go_wp2_with fail
      go_roundw
      case rel => exact ⟨k + 1, fp3, by omega, by go_num, rfl, ho3, hn3, HB3.out⟩
      case measure => simp [intOf]; omega
    · have ek : k = l.length := by omega
      subst ek
      rw [List.take_length] at how
      go_wp2_with fail
      go_ret
      exact ⟨_, fp, rfl, how, hnd, hb⟩

theorem rowsB_join : ∀ rows : List (List Int), Lib.join ((digS rows).map (·.data.toList)) [32] = rowsB rows
  | [] => rfl
  | [r] => by simp [digS, rowsB, Lib.join, List.intercalate]
  | r :: s :: rs => by
    have := rowsB_join (s :: rs)
    simp only [digS, List.map_cons, Lib.join, List.intercalate, List.intersperse, List.flatten_cons] at this ⊢
    rw [this]
    simp [rowsB]
end Go.Proofs.YteihnbnlfocgmaaGreatDoor.TabImp

namespace Go.Proofs.YteihnbnlfocgmaaGreatDoor.TabImp
open Go Go.RowKit Byt Ints IntsLaw Cd Rows2 Tab TabSpec Exact TabFmt TabParse

/-- What was stands as it was. -/
def Later (w w' : World) : Prop := Below w.heap.size w w'
theorem join_owned (g : Nat) (rows : List (List Int)) (fp : List Nat) (w : World) (base : Nat) (how : strsC.ow w base [.slice (some ⟨g, 0, none⟩) rows.length rows.length] (digS rows) fp) (h8 : rows.length ≤ 1048577) (hl : (rowsB rows).length ≤ 1048577) :
    Calls Tryz.prog 41 #[.slice (some ⟨g, 0, none⟩) rows.length rows.length, .string ⟨#[32]⟩] w fun e w' => e = .returned (.string ⟨(rowsB rows).toArray⟩) ∧ Below w.heap.size w w' := by
  have hlen : (digS rows).length = rows.length := by unfold digS; rw [List.length_map]
  have hg : g < w.heap.size := by
    obtain ⟨v, xss, fps, e1, hown, _, _⟩ := how
    injection e1 with e1 _
    subst e1
    rcases hown.2 with ⟨e1, _⟩ | ⟨g', cap', cur, e1, _, hgg, _⟩
    · cases e1
    · simp only [Value.slice.injEq, Option.some.injEq, Addr.mk.injEq, and_true] at e1
      obtain ⟨rfl, _, _⟩ := e1
      exact (Array.getElem?_eq_some_iff.1 hgg).1
  have h := Tryz.strings_Join g 0 rows.length (digS rows) ⟨#[32]⟩ w (fun j x hj => by
    obtain ⟨hj1, hj2⟩ := List.getElem?_eq_some_iff.1 hj
    obtain ⟨b, off, cap, e1, _, hc⟩ := strs_at (strsC.ow_rd how) hj1
    simp only [Value.slice.injEq, Option.some.injEq, Addr.mk.injEq, and_true] at e1
    obtain ⟨⟨rfl, rfl⟩, _, _⟩ := e1
    rw [← hj2]
    exact hc) hg (by rw [hlen]; omega) (by rw [hlen]; exact Nat.le_refl _) (by rw [show (ByteArray.mk #[32]).data.toList = [32] from rfl, rowsB_join]; omega)
  rw [hlen, show (ByteArray.mk #[32]).data.toList = [32] from rfl, rowsB_join] at h
  exact h

set_option maxRecDepth 100000 in
theorem format_rows (u : Value) (rows : List (List Int)) (S : Nat → Prop) (w : World) (hr : rowsC.rd w S [u] rows) (h8 : rows.length ≤ 1048577) (hok : ∀ r ∈ rows, r.length ≤ 4 ∧ ∀ x ∈ r, 0 ≤ x ∧ x ≤ 9) (hl : (rowsB rows).length ≤ 1048577) :
    Calls Tryz.prog 70 #[u] w fun e w' => e = .returned (.string ⟨(rowsB rows).toArray⟩) ∧ Below w.heap.size w w' := by
  have HMP := Lib.hid (map_fmt u rows S w hr h8 hok)
  have H8 := Lib.hid h8
  have HL := Lib.hid hl
  obtain ⟨a, cap, rfl, hlm⟩ := rows_form hr
  clear hr h8 hok hl
  go_enter Tryz.func70, Tryz.ntmps70
  go_wp2_with fail
  refine HMP.out.mono ?_
  rintro e w1 ⟨g, fp, rfl, how, hnd, hb1⟩
  have HJ := Lib.hid (join_owned g rows fp w1 _ how H8.out HL.out)
  have HB1 := Lib.hid hb1
  clear how hnd hb1
  go_wp2_with fail
  refine HJ.out.mono ?_
  rintro e w2 ⟨rfl, hb2⟩
  have HB2 := Lib.hid (below_then HB1.out hb2)
  clear hb2
  go_wp2_with fail
  go_ret
  exact ⟨rfl, HB2.out⟩
set_option maxRecDepth 100000 in
set_option maxHeartbeats 3200000 in
theorem impl_fmt (nm : ByteArray) (ar : Int) (u : Value) (rows : List (List Int)) (S : Nat → Prop) (w : World) (hr : rowsC.rd w S [u] rows) (ht : Format.Tab w) :
    Calls Tryz.prog 43 #[.agg #[.string nm, .int .i64 ar, u]] w fun e w' => e = .returned (.string (fmtT nm ar rows)) ∧ Below w.heap.size w w' := by
  have HR := Lib.hid (fun w' (hb : Below w.heap.size w w') => Cd.later hr hb)
  have HTB := Lib.hid (fun w' (hb : Below w.heap.size w w') => Format.tab_later hb ht)
  obtain ⟨a, cap, rfl, hlm⟩ := rows_form hr
  clear hr ht
  go_enter Tryz.func43, Tryz.ntmps43
  go_wp2_with fail
  generalize hW : w.alloc _ = W
  obtain ⟨r0, _, hb0⟩ := start1 w _ hW
  clear hW
  have HV := Lib.hid (impl_valid nm ar _ rows S W (HR.out W hb0))
  by_cases hok : tabOk nm ar rows = true
  case neg =>
    have hok : tabOk nm ar rows = false := by simpa using hok
    rw [hok] at HV
    have HZ := Lib.hid (show fmtT nm ar rows = ⟨#[]⟩ by unfold fmtT; rw [hok]; rfl)
    have HB := Lib.hid hb0
    clear hok r0 hb0
    refine HV.out.mono ?_
    rintro e w1 ⟨rfl, hb1⟩
    have HB1 := Lib.hid (below_then HB.out hb1)
    clear hb1
    go_wp2_with fail
    go_ret
    exact ⟨ret_str HZ.out.symm, HB1.out⟩
  rw [hok] at HV
  have htp : TabP nm ar rows := of_decide_eq_true hok
  have HZ := Lib.hid (show fmtT nm ar rows = ⟨(tabB nm ar rows).toArray⟩ by unfold fmtT; rw [hok]; rfl)
  obtain ⟨⟨nl⟩⟩ := nm
  have hnl : nl.length = 1 := by have := of_decide_eq_true htp.1; exact this.1
  have har := And.intro htp.2.1 htp.2.2.1
  have HROW := Lib.hid (show ∀ r ∈ rows, r.length ≤ 3 ∧ ∀ x ∈ r, 0 ≤ x ∧ x ≤ 9 from fun r hr => by
    have := rowOk_iff.1 (htp.2.2.2.2.1 r hr)
    exact ⟨by omega, this.2⟩)
  have H8 := Lib.hid htp.2.2.2.1
  have HWT := Lib.hid (show rowsWt rows ≤ 100 by
    have : ∀ l : List (List Int), (∀ r ∈ l, r.length ≤ 3) → rowsWt l ≤ 4 * l.length := by
      intro l
      induction l with
      | nil => intro _; simp [rowsWt]
      | cons r rs ih =>
        intro h
        have h1 := ih (fun x hx => h x (List.mem_cons.2 (.inr hx)))
        have h2 := h r (List.mem_cons.2 (.inl rfl))
        simp [rowsWt] at *
        omega
    have h1 := this rows (fun r hr => (HROW.out r hr).1)
    have := H8.out
    omega)
  have HJL := Lib.hid (show (rowsB rows).length ≤ 100 by have := rowsB_len rows; have := HWT.out; omega)
  have HB := Lib.hid hb0
  have HT0 := Lib.hid (Loc3.of r0)
  have HNL := Lib.hid hnl
  have HAR := Lib.hid har
  clear hok r0 hb0 htp hnl har
  refine HV.out.mono ?_
  rintro e w1 ⟨rfl, hb1⟩
  have HB1 := Lib.hid (below_then HB.out hb1)
  have HT := Lib.hid (HT0.out.later hb1)
  have HD : Lib.itoa ar = [UInt8.ofNat (48 + ar.toNat)] := itoa_digit ⟨by have := HAR.out.1; omega, by have := HAR.out.2; omega⟩
  have HFI := Lib.hid (fun w' (hb : Later w1 w') => (show Calls Tryz.prog 69 #[.int .i64 ar] w' fun e w'' => e = .returned (.string ⟨[UInt8.ofNat (48 + ar.toNat)].toArray⟩) ∧ Below w'.heap.size w' w'' from by
    have h := Format.impl_any ar w' ⟨by have := HAR.out.1; omega, by have := HAR.out.2; omega⟩ (HTB.out w' (below_then HB1.out hb))
    rw [HD] at h
    exact h))
  have HMP := Lib.hid (fun w' (hb : Later w1 w') => format_rows (.slice a rows.length cap) rows S w' (Cd.later (HR.out w1 HB1.out) hb) (by have := H8.out; omega) (fun r hr => ⟨by have := (HROW.out r hr).1; omega, (HROW.out r hr).2⟩) (by have := HJL.out; omega))
  have HFIN := Lib.hid (show (tabB ⟨⟨nl⟩⟩ ar rows) = nl ++ [UInt8.ofNat (48 + ar.toNat)] ++ [58] ++ rowsB rows by simp [tabB])
  clear HD hb1
  have y0 := HT.out.c0
  have y1 := HT.out.c1
  have y2 := HT.out.c2
  have kk : Later w1 w1.drew := (Below.refl _ w1).drew
  have l1 : ¬ 9223372036854775807 < nl.length + 1 := by have := HNL.out; omega
  have l2 : ¬ 9223372036854775807 < nl.length + 1 + 1 := by have := HNL.out; omega
  have l3 : ¬ 9223372036854775807 < nl.length + 1 + 1 + (rowsB rows).length := by have := HNL.out; have := HJL.out; omega
  generalize UInt8.ofNat (48 + ar.toNat) = z at *
  go_wp2_with fail
  go_region_held3 (fun wx => wx.cell? ⟨w.heap.size, 0, none⟩ = some (.string ⟨⟨nl⟩⟩) ∧ wx.cell? ⟨w.heap.size, 1, none⟩ = some (.int .i64 ar) ∧ wx.cell? ⟨w.heap.size, 2, none⟩ = some (.slice a rows.length cap) ∧ Later w1 wx)
    ((refine ⟨?_, ?_, ?_, ?_⟩ <;> first | assumption | (simp [*]; done)))
    (first | (go_at_call 69; refine (HFI.out _ (by assumption)).mono ?_; rintro e wq ⟨rfl, hbq⟩; (have kk : Later w1 wq := below_then (by assumption) hbq); (have k0 := (HT.out.later kk).c0); (have k1 := (HT.out.later kk).c1); (have k2 := (HT.out.later kk).c2); clear hbq) | (go_at_call 70; refine (HMP.out _ (by assumption)).mono ?_; rintro e wj ⟨rfl, hbj⟩; (have kk : Later w1 wj := below_then (by assumption) hbj); (have k0 := (HT.out.later kk).c0); (have k1 := (HT.out.later kk).c1); (have k2 := (HT.out.later kk).c2); clear hbj))
  all_goals
    go_wp2_with fail
    go_ret
    exact ⟨ret_str (by rw [HZ.out, HFIN.out]; simp [ByteArray.mk_append_mk]), below_then HB1.out (by assumption)⟩
end Go.Proofs.YteihnbnlfocgmaaGreatDoor.TabImp

namespace Go.Proofs.YteihnbnlfocgmaaGreatDoor.ParImp
open Go Go.RowKit Byt Ints IntsLaw Cd Rows2 Tab TabSpec Exact TabFmt TabParse ParMath

/-- What the program's function reads of the package variables. -/
def Ready (w : World) : Prop :=
  Format.Tab w ∧ (∃ m, w.cell? ⟨2, 0, none⟩ = some (.int .i64 m)) ∧ Lib.TabIs Tryz.prog w "strings.asciiSpace" .u8 Lib.asciiSpaceTab ∧ Lib.WhiteTab 1 w
theorem tabis_later {w w' : World} {n : String} {k : IntKind} {l : List Int} (hb : Below w.heap.size w w') (h : Lib.TabIs Tryz.prog w n k l) : Lib.TabIs Tryz.prog w' n k l := by
  unfold Lib.TabIs World.var? at *
  obtain ⟨g, hg, hm⟩ := Option.bind_eq_some_iff.1 h
  have hlt : g < w.heap.size := by
    cases hx : w.heap[g]? with
    | none => rw [hx] at hm; simp at hm
    | some o => exact (Array.getElem?_eq_some_iff.1 hx).1
  refine Option.bind_eq_some_iff.2 ⟨g, hg, ?_⟩
  rw [hb.block g hlt]
  exact hm
theorem each_str (w : World) (base : Nat) : ∀ l : List (List UInt8), (∀ x ∈ l, x.length ≤ 1048576) → Cd.Each strC w base (l.map fun x => [Value.string ⟨x.toArray⟩]) (l.map ba) (l.map fun _ => [])
  | [], _ => trivial
  | x :: xs, h => ⟨⟨rfl, by have := h x List.mem_cons_self; show x.toArray.size ≤ maxLen; rw [List.size_toArray]; unfold maxLen; omega, rfl⟩, each_str w base xs fun y hy => h y (List.mem_cons_of_mem _ hy)⟩
theorem ready_later {w w' : World} (hb : Below w.heap.size w w') (h : Ready w) : Ready w' := by
  obtain ⟨t, ⟨m, hm⟩, h3, h4⟩ := h
  refine ⟨Format.tab_later hb t, ⟨m, ?_⟩, tabis_later hb h3, WhiteTab_below h4 hb⟩
  exact (hb.cell (World.block_lt_of_cell? w _ hm)).trans hm
theorem drewn_below {B n : Nat} {w w' : World} (h : Below B w w') : Below B w (w'.drewN n) := ⟨h.os, h.tape, h.output, h.size, h.block⟩
theorem cut_colon (s : ByteArray) (w : World) (hs : s.size ≤ 1048576) (hr : Ready w) {a b : List UInt8} {has : Bool} (hc : Lib.cut s.data.toList [58] = (a, b, has)) :
    Calls Tryz.prog 72 #[.string s, .string ⟨#[58]⟩] w fun e w' => e = .returned (.tuple #[.string ⟨a.toArray⟩, .string ⟨b.toArray⟩, .bool has]) ∧ Below w.heap.size w w' := by
  obtain ⟨_, ⟨m, hm⟩, _, _⟩ := hr
  have h := Tryz.strings_Cut s ⟨#[58]⟩ m w (by omega) hm
  rw [show (⟨#[58]⟩ : ByteArray).data.toList = [58] from rfl, hc] at h
  refine h.mono ?_
  rintro e w' ⟨rfl, n, rfl⟩
  exact ⟨rfl, drewn_below (Below.refl _ _)⟩
theorem fields_any (b : List UInt8) (w : World) (hs : b.length ≤ 1048576) (hr : Ready w) :
    Calls Tryz.prog 75 #[.string ⟨b.toArray⟩] w fun e w' => ∃ v fp, e = .returned v ∧ strsC.ow w' w.heap.size [v] ((Lib.fieldsD b).map ba) fp ∧ Below w.heap.size w w' := by
  obtain ⟨_, _, h3, h4⟩ := hr
  have h := Tryz.strings_Fields_any ⟨b.toArray⟩ w (by show b.toArray.size < _; simp; omega) h3 h4
  refine h.mono ?_
  rintro e w' ⟨A, rfl, hA, ho, hb⟩
  have e1 : (⟨b.toArray⟩ : ByteArray).data.toList = b := rfl
  rw [e1] at ho
  refine ⟨_, _, rfl, ⟨_, (Lib.fieldsD b).map fun x => [Value.string ⟨x.toArray⟩], (Lib.fieldsD b).map fun _ => [], rfl, ?_, ?_, rfl⟩, hb⟩
  · rw [List.length_map]
    have e2 : ((Lib.fieldsD b).map fun x => [Value.string ⟨x.toArray⟩]).flatten = (Lib.fieldsD b).map fun x => Value.string ⟨x.toArray⟩ := by
      induction Lib.fieldsD b with
      | nil => rfl
      | cons x xs ih => simp [ih]
    rw [e2, e1]
    exact ho
  · exact each_str _ _ _ fun x hx => by have := fieldsD_mem hx; omega
theorem str_clone (s : ByteArray) (w : World) (hs : s.size ≤ 1048577) :
    Calls Tryz.prog 60 #[.string s] w fun e w' => e = .returned (.string s) ∧ Below w.heap.size w w' := by
  have HC := Lib.hid (Tryz.stringslite_Clone s w (by omega))
  clear hs
  go_enter Tryz.func60, Tryz.ntmps60
  go_wp2_with (go_at_call 84; refine HC.out.mono ?_; rintro e w1 ⟨rfl, hb⟩)
  go_ret
  exact ⟨rfl, hb⟩

/-- The numbers of each field. -/
def valS (l : List ByteArray) : List (List Int) := l.map fun x => vals x.data.toList
set_option maxRecDepth 100000 in
set_option maxHeartbeats 1600000 in
theorem map_vals (v : Value) (l : List ByteArray) (S : Nat → Prop) (w : World) (hr : strsC.rd w S [v] l) (hl : l.length ≤ 1048577) (hz : ∀ x ∈ l, x.size ≤ 1048577) :
    Calls Tryz.prog 74 #[v, .func (.func 76) #[] #[]] w fun e w' => ∃ g fp, e = .returned (.slice (some ⟨g, 0, none⟩) l.length l.length) ∧ rowsC.ow w' w.heap.size [.slice (some ⟨g, 0, none⟩) l.length l.length] (valS l) fp ∧ fp.Nodup ∧ Below w.heap.size w w' := by
  obtain ⟨i0, hi, hz0, hz1, hz2⟩ := info_parts info_ints
  have HR := Lib.hid (fun w' (hb : Below w.heap.size w w') => Cd.later hr hb)
  have HSZ := Lib.hid hz
  obtain ⟨a, cap, rfl, hlm⟩ := strs_form hr
  clear hr hz
  go_enter Tryz.func74, Tryz.ntmps74
  go_wp2_with (at_make; refine wpList_make_own _ rfl _ _ 27 rfl w.heap.size 70 i0 (.slice none 0 0) 1 Tryz.underlying27 hi hz0 hz1 _ _ _ l.length rfl rfl rfl (by rw [hz2]; omega) (by unfold maxLen; omega) (Nat.le_refl _) ?_)
  intro w1 hown0 hg0
  have how1 : rowsC.ow w1 w.heap.size [.slice (some ⟨w.heap.size, 0, none⟩) 0 l.length] [] [w.heap.size] := ⟨_, [], [], rfl, hown0, trivial, rfl⟩
  have hb1 : Below w.heap.size w w1 := (Below.refl _ _).grown hg0 (Nat.le_refl _) (by simp)
  clear hown0 hg0
  go_wp2_with fail
  go_loopw [5, 13] (fun o i wr => ∃ (k : Nat) (fp : List Nat), k ≤ l.length ∧ i = .int .i64 k ∧ o = .slice (some ⟨w.heap.size, 0, none⟩) k l.length ∧ rowsC.ow wr w.heap.size [.slice (some ⟨w.heap.size, 0, none⟩) k l.length] (valS (l.take k)) fp ∧ fp.Nodup ∧ Below w.heap.size w wr) (fun _ i _ => l.length - (intOf i).toNat)
  case atStart => exact ⟨0, _, Nat.zero_le _, rfl, rfl, how1, by simp, hb1⟩
  case round =>
    obtain ⟨k, fp, hk, rfl, rfl, how, hnd, hb⟩ := hrel
    by_cases hlt : k < l.length
    · obtain ⟨b, off, cap', e1, hbB, hc⟩ := strs_at (HR.out wr hb) hlt
      injection e1 with e1 e2 e3
      subst e1 e3
      have HC := Lib.hid (Dig.parse_digits l[k] wr (HSZ.out _ (List.getElem_mem hlt)))
      have HOW := Lib.hid how
      have HND := Lib.hid hnd
      have HB := Lib.hid hb
      have HT := Lib.hid (show valS (l.take (k + 1)) = valS (l.take k) ++ [vals l[k].data.toList] by unfold valS; rw [List.take_succ_eq_append_getElem hlt, List.map_append]; rfl)
      have HIN := Lib.hid (inr_vals l[k].data.toList)
      have HL := Lib.hid (show k = (valS (l.take k)).length by unfold valS; rw [List.length_map, List.length_take]; omega)
      clear how hnd hb how1 hb1
      change Hid (Calls _ _ _ _ fun e w' => ∃ v', e = .returned v' ∧ OwnI w' wr.heap.size 3 v' (vals l[k].data.toList) ∧ _) at HC
      generalize vals l[k].data.toList = r at *
      go_wp2_with fail
      refine HC.out.mono ?_
      rintro e w2 ⟨v2, rfl, ho20, hb2⟩
      have ho2 := Cd.ow_of_own ho20 HIN.out
      obtain ⟨a2, c2, rfl⟩ := Cd.ow_slice ho2
      have HFL := Lib.hid (rowC.ow_lt ho2)
      have hbA : Below w2.heap.size w2 (w2.alloc (.cells #[.slice a2 r.length c2] 70 (0, 0))) := below_alloc _ _
      have HOW2 := Lib.hid (Cd.ow_later (Cd.ow_later HOW.out hb2) hbA)
      have HO2 := Lib.hid (rowC.ow_base (Cd.ow_later (c := rowC) ho2 hbA) HB.out.size)
      have HN2 := Lib.hid (Cd.own_nodup (v := .slice a2 r.length c2))
      have HB2 := Lib.hid (below_then (below_then HB.out hb2) hbA)
      have HDIS := Lib.hid (show ∀ b ∈ (Value.slice a2 r.length c2).ownBlock.toList, b ∉ fp from fun b hb q => by
        have h1 := (HFL.out b hb).1
        have h2 := (rowsC.ow_lt HOW.out _ q).2
        omega)
      have HBS := Lib.hid (show w.heap.size ≤ (w2.alloc (.cells #[.slice a2 r.length c2] 70 (0, 0))).heap.size by rw [size_alloc]; have := HB.out.size; have := hb2.size; omega)
      have HCELL := Lib.hid (show (w2.alloc (.cells #[.slice a2 r.length c2] 70 (0, 0))).cell? ⟨w2.heap.size, 0, none⟩ = some (.slice a2 r.length c2) from World.cell?_alloc_mark _ _ _ _ 0)
      clear hbA ho2 hb2 ho20
      go_wp2_with (at_builtin; refine Cd.wpList_appendR (c := rowC) rfl rfl (.tmp 17) (.tmp 21) 27 rfl w.heap.size 70 (.slice none 0 0) 24 Tryz.underlying27 info_ints rfl (by decide) w.heap.size l.length k (valS (l.take k)) fp rfl HL.out HOW2.out HND.out (by omega) w2.heap.size (.slice a2 r.length c2) rfl HCELL.out r _ HO2.out HN2.out HDIS.out (by omega) HBS.out ?_)
      intro w3 fp3 ho3 hn3 hsub3 ht3
      have HB3 := Lib.hid (ht3.below HB2.out (fun b hb => (rowsC.ow_lt HOW.out b hb).1))
      rw [← HT.out] at ho3
      clear ht3 hsub3
      go_wp2_with fail
      go_roundw
      case rel => exact ⟨k + 1, fp3, by omega, by go_num, rfl, ho3, hn3, HB3.out⟩
      case measure => simp [intOf]; omega
    · have ek : k = l.length := by omega
      subst ek
      rw [List.take_length] at how
      go_wp2_with fail
      go_ret
      exact ⟨_, fp, rfl, how, hnd, hb⟩
end Go.Proofs.YteihnbnlfocgmaaGreatDoor.ParImp

namespace Go.Proofs.YteihnbnlfocgmaaGreatDoor.ParImp
open Go Go.RowKit Byt Ints IntsLaw Cd Rows2 Tab TabSpec Exact TabFmt TabParse ParMath TabImp

theorem later_alloc {a w : World} (h : Later a w) (o : Obj) : Later a (w.alloc o) := below_then h (below_alloc w o)
theorem later_drew {a w : World} (h : Later a w) : Later a w.drew := Below.drew h
theorem later_set3 {a w : World} {k : Nat} {x y z : Value} (h : Later a w) (hk : a.heap.size ≤ k) : Later a (((w.setCell ⟨k, 0, none⟩ x).setCell ⟨k, 1, none⟩ y).setCell ⟨k, 2, none⟩ z) :=
  ((Below.setCell h hk _).setCell hk _).setCell hk _
theorem later_size {a w : World} (h : Later a w) : a.heap.size ≤ w.heap.size := Below.size h
/-- A block just made, behind a call. -/
theorem loc_new {W wq : World} {x0 x1 x2 : Value} {T : TypeId} (hb : Below (W.alloc (.cells #[x0, x1, x2] T (0, 0))).heap.size (W.alloc (.cells #[x0, x1, x2] T (0, 0))) wq) : Loc3 wq W.heap.size x0 x1 x2 :=
  (Loc3.of (start1 W _ rfl).1).later hb
theorem loc_new' {W wq : World} {x0 x1 x2 : Value} {T : TypeId} (hb : Below (W.drew.alloc (.cells #[x0, x1, x2] T (0, 0))).heap.size (W.drew.alloc (.cells #[x0, x1, x2] T (0, 0))) wq) : Loc3 wq W.heap.size x0 x1 x2 := loc_new (W := W.drew) hb
theorem new_lt {W wq : World} {x0 x1 x2 : Value} {T : TypeId} (_ : Below (W.alloc (.cells #[x0, x1, x2] T (0, 0))).heap.size (W.alloc (.cells #[x0, x1, x2] T (0, 0))) wq) : W.heap.size < (W.alloc (.cells #[x0, x1, x2] T (0, 0))).heap.size := by rw [size_alloc]; omega
theorem loc_made {W : World} {x0 x1 x2 : Value} {T : TypeId} : Loc3 (W.alloc (.cells #[x0, x1, x2] T (0, 0))) W.heap.size x0 x1 x2 := Loc3.of (start1 W _ rfl).1
/-- What the region leaves. -/
def Made (W1 : World) (nm : ByteArray) (ar : Int) (rows : List (List Int)) (s7 : Value) (wx : World) : Prop :=
  ∃ b g fp, s7 = .pointer (some ⟨b, 0, none⟩) ∧ W1.heap.size ≤ b ∧ Loc3 wx b (.string nm) (.int .i64 ar) (.slice (some ⟨g, 0, none⟩) rows.length rows.length) ∧ rowsC.ow wx W1.heap.size [.slice (some ⟨g, 0, none⟩) rows.length rows.length] rows fp ∧ fp.Nodup ∧ b ∉ fp ∧ Later W1 wx

theorem made1 {W1 wq : World} {b g n : Nat} {x0 x1 x2 : Value} {nm : ByteArray} {ar : Int} {rows : List (List Int)} {fp : List Nat} (kk : Later W1 wq) (hb : W1.heap.size ≤ b) (GL : Loc3 wq b x0 x1 x2)
    (HO : rowsC.ow wq W1.heap.size [.slice (some ⟨g, 0, none⟩) n n] rows fp) (hn : n = rows.length) (hnd : fp.Nodup) (hbn : b ∉ fp) :
    Made W1 nm ar rows (.pointer (some ⟨b, 0, none⟩)) (((wq.setCell ⟨b, 0, none⟩ (.string nm)).setCell ⟨b, 1, none⟩ (.int .i64 ar)).setCell ⟨b, 2, none⟩ (.slice (some ⟨g, 0, none⟩) n n)) := by
  subst hn
  obtain ⟨c0, c1, c2, f0, f1, f2⟩ := GL
  obtain ⟨k0, k1, k2⟩ := set3 (w := wq) (k := b) (x := .string nm) (y := .int .i64 ar) (z := .slice (some ⟨g, 0, none⟩) rows.length rows.length) c0 c1 c2
  exact ⟨b, g, fp, rfl, hb, ⟨k0, k1, k2, by simpa using f0, by simpa using f1, by simpa using f2⟩, ow_setCell (ow_setCell (ow_setCell HO hbn _) hbn _) hbn _, hnd, hbn, later_set3 kk hb⟩
theorem made2 {W1 wq : World} {g n : Nat} {T : TypeId} {nm : ByteArray} {ar : Int} {rows : List (List Int)} {fp : List Nat} (kk : Later W1 wq)
    (HO : rowsC.ow wq W1.heap.size [.slice (some ⟨g, 0, none⟩) n n] rows fp) (hn : n = rows.length) (hnd : fp.Nodup) :
    Made W1 nm ar rows (.pointer (some ⟨wq.heap.size, 0, none⟩)) (wq.alloc (.cells #[.string nm, .int .i64 ar, .slice (some ⟨g, 0, none⟩) n n] T (0, 0))) := by
  subst hn
  exact ⟨wq.heap.size, g, fp, rfl, later_size kk, loc_made, Cd.ow_later HO (below_alloc _ _), hnd, (fun q => by have := (rowsC.ow_lt HO _ q).2; omega), later_alloc kk _⟩

set_option maxRecDepth 100000 in
set_option maxHeartbeats 6400000 in
theorem impl_parse (s : ByteArray) (w : World) (hs : s.size ≤ 1048576) (hr : Ready w) :
    Calls Tryz.prog 45 #[.string s] w fun e w' => ParAns s w e w' := by
  obtain ⟨a, b, has, hc⟩ : ∃ a b has, Lib.cut s.data.toList [58] = (a, b, has) := ⟨_, _, _, rfl⟩
  have hsl : s.data.toList.length = s.size := Array.length_toList
  have HYES := Lib.hid (par_yes hc)
  have HNO := Lib.hid (par_no hc)
  have HRD := Lib.hid (fun w' (hb : Below w.heap.size w w') => ready_later hb hr)
  have HCUT := Lib.hid (fun w' (hb : Below w.heap.size w w') => cut_colon s w' hs (HRD.out w' hb) hc)
  have hbl : b.length ≤ s.size := by
    have h : b = (Lib.cut s.data.toList [58]).2.1 := by rw [hc]
    rw [h, ← hsl]
    unfold Lib.cut
    split <;> simp
  have HBL := Lib.hid hbl
  have HALL := Lib.hid (show a.length = (⟨a.toArray⟩ : ByteArray).size by show a.length = a.toArray.size; simp)
  have HN1 := Lib.hid (show (⟨a.toArray⟩ : ByteArray).extract 0 1 = iNm a by rw [extract_ba]; rfl)
  have HN2 := Lib.hid (show ∀ h : 1 < (⟨a.toArray⟩ : ByteArray).size, (((⟨a.toArray⟩ : ByteArray)[1]'h).toNat : Int) - 48 = iAr a by
    intro h
    unfold iAr
    have h' : 1 < a.length := by rw [HALL.out]; exact h
    rw [List.getD_eq_getElem?_getD, List.getElem?_eq_getElem h']
    rfl)
  clear hc hr hsl hbl
  generalize (⟨a.toArray⟩ : ByteArray) = H at *
  go_enter Tryz.func45, Tryz.ntmps45
  go_wp2_with fail
  generalize hW : w.alloc _ = W
  obtain ⟨r0, hz0, hb0⟩ := start1 w _ hW
  clear hW
  have HB0 := Lib.hid hb0
  have HR0 := Lib.hid (Loc3.of r0)
  have HZ0 := Lib.hid hz0
  clear hb0 r0 hz0
  refine (HCUT.out W HB0.out).mono ?_
  rintro e W1 ⟨rfl, hb1⟩
  have HB1 := Lib.hid (below_then HB0.out hb1)
  have HR1 := Lib.hid (HR0.out.later hb1)
  have HZ1 := Lib.hid (show w.heap.size < W1.heap.size by have := hb1.size; have := HZ0.out; omega)
  clear hb1
  by_cases h2 : H.size = 2
  case neg =>
    have HF := Lib.hid (show pOk s = false from HNO.out (.inl (by rw [HALL.out]; exact h2)))
    have t1 : (((H.size : Nat) : Int) == 2) = false := by rw [beq_eq_false_iff_ne]; omega
    have t2 : ((H.size : Int) != 2) = true := by rw [bne_iff_ne]; omega
    obtain ⟨p0, p1, p2, q0, q1, q2⟩ := HR1.out
    clear h2
    go_wp2_with fail
    obtain ⟨k0, k1, k2⟩ := set3 (w := W1) (k := w.heap.size) (x := .string ⟨#[]⟩) (y := .int .i64 0) (z := .slice none 0 0) p0 p1 p2
    refine bodyPost_ret (v := .tuple #[.agg #[.string ⟨#[]⟩, .int .i64 0, .slice none 0 0], .bool false]) (by simp [results, Tryz.results45, go_sem, k0, k1, k2]) rfl ⟨.slice none 0 0, [], by simp [HF.out], ?_, by simp, ?_⟩
    · rw [HF.out]
      exact Cd.ow_nil _ _
    · exact ((HB1.out.setCell (Nat.le_refl _) _).setCell (Nat.le_refl _) _).setCell (Nat.le_refl _) _
  have t1 : (((H.size : Nat) : Int) == 2) = true := by rw [beq_iff_eq]; omega
  have t2 : ((H.size : Int) != 2) = false := by rw [bne_eq_false_iff_eq]; omega
  by_cases h34 : 34 < s.size
  · have HF := Lib.hid (show pOk s = false from HNO.out (.inr (.inl h34)))
    have t3 : (34 : Int) < (s.size : Int) := by omega
    obtain ⟨p0, p1, p2, q0, q1, q2⟩ := HR1.out
    go_wp2_with fail
    obtain ⟨k0, k1, k2⟩ := set3 (w := W1) (k := w.heap.size) (x := .string ⟨#[]⟩) (y := .int .i64 0) (z := .slice none 0 0) p0 p1 p2
    refine bodyPost_ret (v := .tuple #[.agg #[.string ⟨#[]⟩, .int .i64 0, .slice none 0 0], .bool false]) (by simp [results, Tryz.results45, go_sem, k0, k1, k2]) rfl ⟨.slice none 0 0, [], by simp [HF.out], ?_, by simp, ?_⟩
    · rw [HF.out]
      exact Cd.ow_nil _ _
    · exact ((HB1.out.setCell (Nat.le_refl _) _).setCell (Nat.le_refl _) _).setCell (Nat.le_refl _) _
  have t3 : ¬ (34 : Int) < (s.size : Int) := by omega
  have h1H : 1 < H.size := by omega
  have i1 : (1 : Int) < (H.size : Int) := by omega
  have i2 : (1 : Int) ≤ (H.size : Int) := by omega
  have hby := (H[1]'h1H).toNat_lt
  have HCL := Lib.hid (fun w' => str_clone (H.extract 0 1) w' (by rw [ByteArray.size_extract]; omega))
  have HPD := Lib.hid (fun w' => Dig.parse_digit (H[1]'h1H) w')
  have HFD := Lib.hid (fun w' (hb : Later W1 w') => fields_any b w' (by have := HBL.out; omega) (HRD.out w' (below_then HB1.out hb)))
  have HFL := Lib.hid (show ((Lib.fieldsD b).map ba).length ≤ 1048577 by rw [List.length_map]; have := fieldsD_len b; have := HBL.out; omega)
  have HFS := Lib.hid (show ∀ x ∈ (Lib.fieldsD b).map ba, x.size ≤ 1048577 by
    intro x hx
    obtain ⟨y, hy, rfl⟩ := List.mem_map.1 hx
    have h1 := fieldsD_mem hy
    have h3 : (ba y).size = y.length := by simp [ba, ByteArray.size]
    have := HBL.out
    omega)
  have HIR := Lib.hid (show valS ((Lib.fieldsD b).map ba) = iRows b by
    unfold valS iRows
    rw [List.map_map]
    refine List.map_congr_left fun x _ => ?_
    show vals (ba x).data.toList = vals x
    have : (ba x).data.toList = x := by simp [ba]
    rw [this])
  have HIL := Lib.hid (show ((Lib.fieldsD b).map ba).length = (iRows b).length by unfold iRows; rw [List.length_map, List.length_map])
  have HN2' := Lib.hid (HN2.out h1H)
  have H34 := Lib.hid h34
  have HH2 := Lib.hid (show a.length = 2 by rw [HALL.out]; exact h2)
  clear h34 HN2 h2
  generalize iRows b = rows at *
  generalize (Lib.fieldsD b).map ba = fl at *
  go_upto_region 4 with fail
  have kk : Later W1 W1.drew := later_drew (Below.refl _ W1)
  go_cut [7] (fun s7 wx => Made W1 (iNm a) (iAr a) rows s7 wx)
  case first =>
    go_region_held3 (fun wx => Later W1 wx)
      ((first | assumption | exact later_drew (Below.refl _ W1) | exact later_alloc (by assumption) _ | exact later_set3 (by first | assumption | exact later_alloc (by assumption) _) (later_size (by first | assumption | exact Below.refl _ _))))
      (first | (go_at_call 60; refine (HCL.out _).mono ?_; rintro e wq ⟨rfl, hbq⟩; (have kk : Later W1 wq := below_then (by first | assumption | exact later_alloc (by assumption) _) hbq); (first | (have GL := Lib.hid (GL.out.later hbq)) | (have GL := Lib.hid (loc_new' hbq)) | (have GL := Lib.hid (loc_new hbq)) | skip); clear hbq) | (go_at_call 73; refine (HPD.out _).mono ?_; rintro e wq ⟨rfl, rfl⟩) | (go_at_call 75; refine (HFD.out _ (by first | assumption | exact later_alloc (by assumption) _)).mono ?_; rintro e wq ⟨vf, ff, rfl, how, hbq⟩; obtain ⟨af, cf, rfl⟩ := Cd.ow_slice how; (have FO := Lib.hid how); (have kk : Later W1 wq := below_then (by first | assumption | exact later_alloc (by assumption) _) hbq); (first | (have GL := Lib.hid (GL.out.later hbq)) | (have GL := Lib.hid (loc_new' hbq)) | (have GL := Lib.hid (loc_new hbq)) | skip); clear hbq how) | (go_at_call 74; refine (map_vals _ fl _ _ (strsC.ow_rd (by first | exact FO.out | exact Cd.ow_later FO.out (below_alloc _ _))) HFL.out HFS.out).mono ?_; rintro e wq ⟨g, fp, rfl, how, hnd, hbq⟩; (have kk0 : Later W1 _ := (by first | assumption | exact later_alloc (by assumption) _)); (have HO := Lib.hid (rowsC.ow_base how (Below.size (show Below W1.heap.size W1 _ from kk0)))); (have HLT := Lib.hid (rowsC.ow_lt how)); (have HND := Lib.hid hnd); (have kk : Later W1 wq := below_then kk0 hbq); (first | (have GB := Lib.hid GL.out.lt; have GL := Lib.hid (GL.out.later hbq)) | (have GB := Lib.hid (new_lt hbq); have GL := Lib.hid (loc_new hbq)) | skip); (first | (have x0 := GL.out.c0; have x1 := GL.out.c1; have x2 := GL.out.c2; have f0 := GL.out.f0; have f1 := GL.out.f1; have f2 := GL.out.f2) | skip); clear hbq how hnd kk0))
    all_goals
      go_wp2_with fail
      go_meet
      rw [← HN1.out, ← HN2'.out]
      have HO' := HO.out
      rw [HIR.out] at HO'
      first
        | (have GG := GL.out; exact made1 (by assumption) (later_size (by first | assumption | exact Below.refl _ _)) GG HO' HIL.out HND.out (fun q => by have h1 := (HLT.out _ q).1; have h2 := GB.out; omega))
        | (with_reducible exact made2 (by assumption) HO' HIL.out HND.out)
  case rest =>
    obtain ⟨k, g, fp, rfl, hk, hx, how, hnd, hkn, hl⟩ := hcut
    clear hby h1H i1 i2 kk t1 t2 t3 HCL HPD HFD HFL HFS HIR HIL HN1 HN2'
    have HX := Lib.hid hx
    have HOW := Lib.hid how
    have HND := Lib.hid hnd
    have HKN := Lib.hid hkn
    have HK := Lib.hid hk
    have HBC := Lib.hid (below_then HB1.out hl)
    have HRC := Lib.hid (HR1.out.later hl)
    have HNR := Lib.hid (show w.heap.size ∉ fp from fun q => by have h1 := (rowsC.ow_lt how _ q).1; have h2 := HZ1.out; omega)
    have HBS := Lib.hid (show w.heap.size ≤ W1.heap.size from Nat.le_of_lt HZ1.out)
    have HFM := Lib.hid (impl_fmt (iNm a) (iAr a) _ rows _ wc (rowsC.ow_rd how) (HRD.out wc HBC.out).1)
    clear hx how hnd hkn hk hl
    obtain ⟨x0, x1, x2, _, _, _⟩ := HX.out
    by_cases hfs : fmtT (iNm a) (iAr a) rows = s
    · obtain ⟨e1, e2, e3, e4⟩ := HYES.out HH2.out hfs
      have HWHY := Lib.hid e1
      have HE2 := Lib.hid e2
      have HE3 := Lib.hid e3
      have HE4 := Lib.hid e4
      rw [hfs] at HFM
      clear hfs e1 e2 e3 e4
      go_wp2_with fail
      refine HFM.out.mono ?_
      rintro e w9 ⟨rfl, hb9⟩
      obtain ⟨x0, x1, x2, _, _, _⟩ := HX.out.later hb9
      obtain ⟨p0, p1, p2, q0, q1, q2⟩ := HRC.out.later hb9
      have HB9 := Lib.hid (below_then HBC.out hb9)
      have HO9 := Lib.hid (Cd.ow_later HOW.out hb9)
      clear hb9
      go_wp2_with fail
      obtain ⟨k0, k1, k2⟩ := set3 (w := w9) (k := w.heap.size) (x := .string (iNm a)) (y := .int .i64 (iAr a)) (z := .slice (some ⟨g, 0, none⟩) rows.length rows.length) p0 p1 p2
      refine bodyPost_ret (v := .tuple #[.agg #[.string (iNm a), .int .i64 (iAr a), .slice (some ⟨g, 0, none⟩) rows.length rows.length], .bool true]) (by simp [results, Tryz.results45, go_sem, k0, k1, k2]) rfl ⟨.slice (some ⟨g, 0, none⟩) rows.length rows.length, fp, by simp [HWHY.out, HE2.out, HE3.out], ?_, HND.out, ?_⟩
      · rw [HWHY.out, if_pos rfl, HE4.out]
        have hn : w.heap.size ∉ fp := HNR.out
        exact rowsC.ow_base (ow_setCell (ow_setCell (ow_setCell HO9.out hn _) hn _) hn _) HBS.out
      · exact ((HB9.out.setCell (Nat.le_refl _) _).setCell (Nat.le_refl _) _).setCell (Nat.le_refl _) _
    · have HF := Lib.hid (show pOk s = false from HNO.out (.inr (.inr hfs)))
      have hne := str_ne hfs
      clear hfs
      generalize fmtT (iNm a) (iAr a) rows = fs at *
      go_wp2_with fail
      refine HFM.out.mono ?_
      rintro e w9 ⟨rfl, hb9⟩
      obtain ⟨p0, p1, p2, q0, q1, q2⟩ := HRC.out.later hb9
      have HB9 := Lib.hid (below_then HBC.out hb9)
      clear hb9
      go_wp2_with fail
      obtain ⟨k0, k1, k2⟩ := set3 (w := w9) (k := w.heap.size) (x := .string ⟨#[]⟩) (y := .int .i64 0) (z := .slice none 0 0) p0 p1 p2
      refine bodyPost_ret (v := .tuple #[.agg #[.string ⟨#[]⟩, .int .i64 0, .slice none 0 0], .bool false]) (by simp [results, Tryz.results45, go_sem, k0, k1, k2]) rfl ⟨.slice none 0 0, [], by simp [HF.out], ?_, by simp, ?_⟩
      · rw [HF.out]
        exact Cd.ow_nil _ _
      · exact ((HB9.out.setCell (Nat.le_refl _) _).setCell (Nat.le_refl _) _).setCell (Nat.le_refl _) _
end Go.Proofs.YteihnbnlfocgmaaGreatDoor.ParImp

namespace Go.Proofs.YteihnbnlfocgmaaGreatDoor.DbParse
open Go Go.RowKit Byt Ints IntsLaw Cd Rows2 Tab SlMath TabOpen TabElem SlTable Db TabSpec DbMath DbSpec DbExact DbAcc TabFmt TabParse

/-- The pieces, at most k + 1 of them: the last one holds the rest. -/
def join59 : List (List UInt8) → List UInt8
  | [] => []
  | [x] => x
  | x :: y :: xs => x ++ 59 :: join59 (y :: xs)
theorem join_cut : ∀ l, join59 (cutB 59 l) = l
  | [] => rfl
  | b :: r => by
    have ih := join_cut r
    have hne := cutB_ne 59 r
    unfold cutB
    split
    · rename_i e
      subst e
      cases hq : cutB 59 r with
      | nil => exact absurd hq hne
      | cons x xs => rw [hq] at ih; show [] ++ 59 :: join59 (x :: xs) = _; rw [ih]; rfl
    · split
      · rename_i hq; exact absurd hq hne
      · rename_i x xs hq
        rw [hq] at ih
        cases xs with
        | nil => show b :: x = b :: r; rw [← ih]; rfl
        | cons y ys => show (b :: x) ++ 59 :: join59 (y :: ys) = b :: r; rw [← ih]; rfl
def partsK (k : Nat) (ps : List (List UInt8)) : List (List UInt8) := if ps.length ≤ k then ps else ps.take k ++ [join59 (ps.drop k)]
theorem partsK_zero {ps : List (List UInt8)} (h : ps ≠ []) : partsK 0 ps = [join59 ps] := by
  unfold partsK
  rw [if_neg (by simpa using h)]
  simp
theorem partsK_succ (k : Nat) (x : List UInt8) (ps : List (List UInt8)) : partsK (k + 1) (x :: ps) = x :: partsK k ps := by
  unfold partsK
  rw [List.length_cons]
  by_cases h : ps.length ≤ k
  · rw [if_pos h, if_pos (by omega)]
  · rw [if_neg h, if_neg (by omega)]; simp
theorem idx_spec : ∀ (l : List UInt8) (c : UInt8), (Lib.indexByte l c = -1 ∧ c ∉ l) ∨ ∃ p r, l = p ++ c :: r ∧ c ∉ p ∧ Lib.indexByte l c = (p.length : Int)
  | [], c => .inl ⟨rfl, by simp⟩
  | b :: l, c => by
    by_cases e : b = c
    · subst e
      exact .inr ⟨[], l, rfl, by simp, by simp [Lib.indexByte]⟩
    · have hb : (b == c) = false := by simpa using e
      rcases idx_spec l c with ⟨h1, h2⟩ | ⟨p, r, rfl, h2, h3⟩
      · exact .inl ⟨by simp [Lib.indexByte, hb, h1], by simp [Ne.symm e, h2]⟩
      · refine .inr ⟨b :: p, r, rfl, by simp [Ne.symm e, h2], ?_⟩
        have : ((p.length : Int) == -1) = false := by rw [beq_eq_false_iff_ne]; omega
        simp [Lib.indexByte, hb, h3, this]
theorem cut_none : ∀ {l : List UInt8}, (59 : UInt8) ∉ l → cutB 59 l = [l]
  | [], _ => rfl
  | b :: r, h => by
    have hb : b ≠ 59 := fun e => h (by rw [e]; exact List.mem_cons_self)
    rw [cutB, if_neg hb, cut_none (fun q => h (List.mem_cons_of_mem _ q))]
theorem cut_first : ∀ {p : List UInt8} (r : List UInt8), (59 : UInt8) ∉ p → cutB 59 (p ++ 59 :: r) = p :: cutB 59 r
  | [], r, _ => by rw [List.nil_append, cutB, if_pos rfl]
  | b :: p, r, h => by
    have hb : b ≠ 59 := fun e => h (by rw [e]; exact List.mem_cons_self)
    rw [List.cons_append, cutB, if_neg hb, cut_first r (fun q => h (List.mem_cons_of_mem _ q))]
def sep9 : ByteArray := ⟨#[59]⟩
theorem indexB_ba (l : List UInt8) : Lib.indexB (ba l) sep9 = Lib.indexByte l 59 := Lib.index_one l 59
theorem split_eq : ∀ (k : Nat) (l : List UInt8), Lib.splitB sep9 0 k (ba l) = (partsK k (cutB 59 l)).map ba
  | 0, l => by rw [Lib.splitB_zero, partsK_zero (cutB_ne _ _), join_cut]; rfl
  | k + 1, l => by
    rcases idx_spec l 59 with ⟨h1, h2⟩ | ⟨p, r, rfl, h2, h3⟩
    · rw [Lib.splitB_miss _ _ _ _ ((indexB_ba l).trans h1), cut_none h2]
      rfl
    · rw [Lib.splitB_hit _ _ _ _ p.length ((indexB_ba _).trans h3), cut_first r h2, partsK_succ, List.map_cons]
      have e1 : (ba (p ++ 59 :: r)).extract 0 (p.length + 0) = ba p := by
        rw [extract_ba]
        show ba (((p ++ 59 :: r).toArray.toList.drop 0).take (p.length + 0 - 0)) = _
        simp
      have e2 : (ba (p ++ 59 :: r)).extract (p.length + sep9.size) (ba (p ++ 59 :: r)).size = ba r := by
        rw [extract_ba]
        show ba (((p ++ 59 :: r).toArray.toList.drop (p.length + 1)).take ((p ++ 59 :: r).toArray.size - (p.length + 1))) = _
        have e : (p ++ 59 :: r).drop (p.length + 1) = r := by
          rw [List.drop_append]
          simp
        rw [e, List.size_toArray, List.take_of_length_le (by simp only [List.length_append, List.length_cons]; omega)]
      rw [e1, e2, split_eq k r]
/-- A text that reads as a table has no semicolon. -/
theorem no59_row (r : List Int) (h : ∀ x ∈ r, 0 ≤ x ∧ x ≤ 9) : (59 : UInt8) ∉ digB r := by
  intro q
  unfold digB at q
  obtain ⟨x, hx, e⟩ := List.mem_map.1 q
  have h1 := h x hx
  have h2 := congrArg UInt8.toNat e
  rw [UInt8.toNat_ofNat'] at h2
  have : (59 : UInt8).toNat = 59 := rfl
  omega
theorem no59_rows : ∀ (l : List (List Int)), (∀ r ∈ l, ∀ x ∈ r, 0 ≤ x ∧ x ≤ 9) → (59 : UInt8) ∉ rowsB l
  | [], _ => by simp [rowsB]
  | [r], h => no59_row r (h r List.mem_cons_self)
  | r :: s :: rs, h => by
    show (59 : UInt8) ∉ digB r ++ 32 :: rowsB (s :: rs)
    rw [List.mem_append, List.mem_cons]
    rintro (q | q | q)
    · exact no59_row r (h r List.mem_cons_self) q
    · exact absurd q (by decide)
    · exact no59_rows (s :: rs) (fun x hx => h x (List.mem_cons_of_mem _ hx)) q
theorem no59 {x : ByteArray} (h : pOk x = true) : (59 : UInt8) ∉ x.data.toList := by
  obtain ⟨h1, h2, h3⟩ : ParP x := of_decide_eq_true h
  have hok := ParMath.ok_of_fmt (s := x) (by omega) h3
  have hp : TabP (pNm x) (pAr x) (pRows x) := of_decide_eq_true hok
  have e : x.data.toList = tabB (pNm x) (pAr x) (pRows x) := by
    have h4 := congrArg (fun z : ByteArray => z.data.toList) h3
    refine h4.symm.trans ?_
    show ((if tabOk (pNm x) (pAr x) (pRows x) then tabB (pNm x) (pAr x) (pRows x) else []).toArray).toList = _
    rw [hok]
    simp
  rw [e]
  unfold tabB
  have hn := of_decide_eq_true hp.1
  intro q
  rcases List.mem_append.1 q with q | q
  · have hl : (pNm x).data.toList.length = 1 := by have := hn.1; rw [Array.length_toList]; exact this
    obtain ⟨c, hc⟩ : ∃ c, (pNm x).data.toList = [c] := by
      match (pNm x).data.toList, hl with
      | [c], _ => exact ⟨c, rfl⟩
    rw [hc] at q hn
    rw [List.mem_singleton] at q
    have h4 := hn.2.1
    rw [← q] at h4
    exact absurd h4 (by decide)
  · rcases List.mem_cons.1 q with q | q
    · have h2 := congrArg UInt8.toNat q
      rw [UInt8.toNat_ofNat'] at h2
      have : (59 : UInt8).toNat = 59 := rfl
      have := hp.2.1
      have := hp.2.2.1
      omega
    · rcases List.mem_cons.1 q with q | q
      · exact absurd q (by decide)
      · exact no59_rows _ (fun r hr => (rowOk_iff.1 (hp.2.2.2.2.1 r hr)).2) q
theorem join_mem : ∀ {x y : List UInt8} {xs : List (List UInt8)}, (59 : UInt8) ∈ join59 (x :: y :: xs) := fun {x y xs} => by
  show (59 : UInt8) ∈ x ++ 59 :: join59 (y :: xs)
  simp
theorem partsK_same {k : Nat} {ps : List (List UInt8)} (h : ps.length ≤ k + 1) : partsK k ps = ps := by
  unfold partsK
  split
  · rfl
  · have e : ps.length = k + 1 := by omega
    have hd : ps.drop k = [ps[k]'(by omega)] := by
      rw [List.drop_eq_getElem_cons (by omega), List.drop_eq_nil_of_le (by omega)]
    rw [hd]
    show ps.take k ++ [ps[k]'(by omega)] = ps
    rw [← List.take_succ_eq_append_getElem, List.take_of_length_le (by omega)]
def qsOf (s : ByteArray) : List ByteArray := Lib.splitB sep9 0 (min 7 (s.size + 1) - 1) s
/-- What the pieces of SplitN say is what all the pieces say. -/
theorem qs_spec (s : ByteArray) : qsOf s = cuts9 s ∨ ((∃ x ∈ qsOf s, pOk x = false) ∧ 6 < (cuts9 s).length) := by
  have e : qsOf s = (partsK (min 7 (s.size + 1) - 1) (cutB 59 s.data.toList)).map ba := by
    unfold qsOf
    have := split_eq (min 7 (s.size + 1) - 1) s.data.toList
    rw [ba_list] at this
    exact this
  have hl := (cutB_len 59 s.data.toList).2
  have hsl : s.data.toList.length = s.size := Array.length_toList
  by_cases h : (cutB 59 s.data.toList).length ≤ min 7 (s.size + 1) - 1 + 1
  · left
    rw [e, partsK_same h]
    rfl
  · right
    have h7 : 7 < (cutB 59 s.data.toList).length := by
      omega
    have hk : min 7 (s.size + 1) - 1 = 6 := by
      omega
    refine ⟨⟨ba (join59 ((cutB 59 s.data.toList).drop 6)), ?_, ?_⟩, by unfold cuts9; rw [List.length_map]; omega⟩
    · rw [e, hk]
      unfold partsK
      rw [if_neg (by omega), List.map_append]
      simp
    · cases hp : pOk (ba (join59 ((cutB 59 s.data.toList).drop 6)))
      · rfl
      · refine absurd ?_ (no59 hp)
        rw [List.drop_eq_getElem_cons (by omega), List.drop_eq_getElem_cons (by omega)]
        show (59 : UInt8) ∈ (join59 _).toArray.toList
        rw [List.toList_toArray]
        exact join_mem
theorem qs_read (s : ByteArray) : ((∀ x ∈ qsOf s, pOk x = true) ∧ dbOk ((qsOf s).map tabP) = true ↔ ReadP s) ∧ (ReadP s → qsOf s = cuts9 s) := by
  rcases qs_spec s with h | ⟨⟨x, hx, hp⟩, h⟩
  · rw [h]; exact ⟨Iff.rfl, fun _ => rfl⟩
  · have hno : ¬ ReadP s := fun q => by
      have := (dbOk_iff.1 q.2).1
      rw [List.length_map] at this
      omega
    exact ⟨⟨(fun q => by rw [q.1 x hx] at hp; cases hp), (fun q => absurd q hno)⟩, (fun q => absurd q hno)⟩
theorem qs_size {s x : ByteArray} (h : x ∈ qsOf s) (hs : s.size ≤ 1048576) : x.size ≤ 1048576 := by
  unfold qsOf at h
  generalize min 7 (s.size + 1) - 1 = k at h
  induction k generalizing s with
  | zero => rw [Lib.splitB_zero, List.mem_singleton] at h; rw [h]; exact hs
  | succ k ih =>
    unfold Lib.splitB at h
    split at h
    · rw [List.mem_singleton] at h; rw [h]; exact hs
    · rcases List.mem_cons.1 h with q | q
      · rw [q, ByteArray.size_extract]; omega
      · exact ih (by rw [ByteArray.size_extract]; omega) q
theorem qs_len (s : ByteArray) : (qsOf s).length ≤ min 7 (s.size + 1) := by
  unfold qsOf
  generalize hk : min 7 (s.size + 1) - 1 = k
  have : (Lib.splitB sep9 0 k s).length ≤ k + 1 := by
    clear hk
    induction k generalizing s with
    | zero => rw [Lib.splitB_zero]; simp
    | succ k ih =>
      unfold Lib.splitB
      split
      · simp
      · rw [List.length_cons]; have := ih (s.extract ((Lib.indexB s sep9).toNat + sep9.size) s.size); omega
  omega

set_option maxRecDepth 100000 in
set_option maxHeartbeats 3200000 in
theorem impl_parsedb (s : ByteArray) (w : World) (hs : s.size ≤ 1048576) (hr : ParImp.Ready w) :
    Calls Tryz.prog 17 #[.string s] w fun e w' => DbAns (parL s) (parOk s) w e w' := by
  have HS := Lib.hid hs
  have HRD := Lib.hid (fun w' (hb : Below w.heap.size w w') => ParImp.ready_later hb hr)
  by_cases h0 : s = ⟨#[]⟩
  · subst h0
    have HE := Lib.hid (par_empty (s := ⟨#[]⟩) rfl)
    go_enter Tryz.func17, Tryz.ntmps17
    go_wp2_with fail
    have hb := below_alloc w (.cells #[.slice none 0 0] 26 (0, 0))
    have hl := Loc1.of (row_alloc w (.cells #[.slice none 0 0] 26 (0, 0)))
    have k0 := hl.c0
    refine bodyPost_ret (v := .tuple #[.agg #[.slice none 0 0], .bool true]) (by simp [results, Tryz.results17, go_sem, k0]) rfl ?_
    exact DbAns.empty' hb HE.out.2 _ HE.out.1
  have H0 := Lib.hid h0
  have hne : (s.toList == []) = false := by
    rw [beq_eq_false_iff_ne, ByteArray.toList_eq]
    intro q
    apply h0
    cases s
    simp only at q
    rw [Array.toList_eq_nil_iff.1 q]
  clear h0 hr
  go_enter Tryz.func17, Tryz.ntmps17
  go_wp2_with fail
  generalize hW : (w.alloc _).alloc _ = W
  obtain ⟨r0, r1, hz, hb0⟩ := start2g w _ _ hW
  have HC0 := Lib.hid (Loc1.of r0)
  have HC1 := Lib.hid (Loc1.of r1)
  have HB0 := Lib.hid hb0
  have HZ := Lib.hid hz
  clear hW r0 r1 hz hb0
  obtain ⟨mx, hmx⟩ := (HRD.out W HB0.out).2.1
  refine (Tryz.strings_SplitN s ⟨#[59]⟩ 7 mx W (by have := HS.out; omega) hmx (by decide) (by decide) (by decide)).mono ?_
  rintro e WF ⟨rfl, hwf⟩
  have hlen := qs_len s
  have HCEL := Lib.hid (show ∀ k (h : k < (qsOf s).length), WF.cell? ⟨W.heap.size, k, none⟩ = some (.string (qsOf s)[k]) from fun k h => by
    rw [hwf]
    have := row_alloc W (.cells (Lib.cellsOf (qsOf s) (min 7 (s.size + 1))) 9)
    unfold World.cell?
    rw [show (W.alloc (.cells (Lib.cellsOf (Lib.splitB ⟨#[59]⟩ 0 (min 7 (s.size + 1) - 1) s) (min 7 (s.size + 1))) 9)).heap[W.heap.size]? = _ from this]
    simp only [Lib.cellsOf, List.getElem?_toArray]
    rw [List.getElem?_append_left (by simpa using h), List.getElem?_map, List.getElem?_eq_getElem h]
    rfl)
  have hb1 : Below W.heap.size W WF := by rw [hwf]; exact below_alloc _ _
  have hWz : W.heap.size < WF.heap.size := by rw [hwf, size_alloc]; omega
  have HWZ := Lib.hid hWz
  have HBF := Lib.hid (below_then HB0.out hb1)
  have HD0 := Lib.hid (HC0.out.later hb1)
  have HACC0 := Lib.hid (AccS.start' (HC1.out.later hb1))
  have HPS := Lib.hid (fun x (hx : x ∈ qsOf s) => qs_size hx HS.out)
  have HRE := Lib.hid (qs_read s).1
  have HRQ := Lib.hid (qs_read s).2
  have HIS := Lib.hid (fun q : ReadP s => par_is H0.out q)
  have HNOT := Lib.hid (fun q : ¬ ReadP s => par_not H0.out q)
  have HPL := Lib.hid (show (qsOf s).length ≤ 7 by omega)
  have hqs : Lib.splitB ⟨#[59]⟩ 0 (min 7 (s.size + 1) - 1) s = qsOf s := rfl
  rw [hqs]
  clear hwf hb1 hWz hne hmx hqs hlen
  generalize hgq : qsOf s = ps at *
  clear hgq
  generalize min 7 (s.size + 1) = cv at *
  go_wp2_with fail
  go_loopw [15] (fun i wr => ∃ (k : Nat) (a : Option Addr) (c : Nat) (fp : List Nat), k ≤ ps.length ∧ i = .int .i64 k ∧ (∀ x ∈ ps.take k, pOk x = true) ∧ AccS WF wr (w.heap.size + 1) ((ps.take k).map tabP) a c fp) (fun i _ => ps.length - (intOf i).toNat)
  case atStart => exact ⟨0, none, 0, [], Nat.zero_le _, rfl, by simp, HACC0.out⟩
  case round =>
    obtain ⟨k, a, c, fp, hk, rfl, hok, hacc⟩ := hrel
    have HACC := Lib.hid hacc
    have HOK := Lib.hid hok
    have HBW := Lib.hid (HACC.out.below HBF.out (by omega))
    have hpl := HPL.out
    clear hacc hok
    have hcur : ((ps.take k).map tabP).length = k := by rw [List.length_map, List.length_take]; omega
    by_cases hlt : k < ps.length
    · have hc := HACC.out.get (HCEL.out k hlt) (by have := HZ.out; simp only; omega)
      have hcl := Nat.lt_of_lt_of_le HWZ.out HACC.out.sz
      have HTK := Lib.hid (show (ps.take (k + 1)).map tabP = (ps.take k).map tabP ++ [tabP ps[k]] by rw [List.take_succ_eq_append_getElem hlt, List.map_append]; rfl)
      have HOK1 := Lib.hid (fun q => ok_take HOK.out hlt q)
      have HBAD := Lib.hid (fun q : pOk ps[k] = false => HNOT.out (fun r => by have := (HRE.out.2 r).1 _ (List.getElem_mem hlt); rw [q] at this; cases this))
      have HPA := Lib.hid (ParImp.impl_parse ps[k] wr (HPS.out _ (List.getElem_mem hlt)) (HRD.out wr HBW.out))
      have HLL := Lib.hid (show ((ps.take k).map tabP).length + 1 ≤ 1000000000 by omega)
      have i1 : (0 : Int) ≤ (k : Int) := by omega
      have i2 : (k : Int) < (ps.length : Int) := by omega
      clear hcur
      generalize ps[k] = pt at *
      generalize (ps.take k).map tabP = cur at *
      cases hpt : pOk pt
      · have HPN := Lib.hid hpt
        clear hpt
        go_wp2_with fail
        refine (HPA.out.mono fun e w' h => ans_no HPN.out h).mono ?_
        rintro e w2 ⟨a2, c2, rfl, hb2⟩
        have hE := HBAD.out HPN.out
        have HE := Lib.hid hE
        have hA := (HACC.out.loc1 HD0.out (by omega)).later hb2
        have HB2 := Lib.hid (below_then HBW.out hb2)
        have HY := Lib.hid hA
        have y0 := hA.c0
        have y1 := hA.f0
        have y2 := hA.lt
        clear hE hA hb2
        go_wp2_with fail
        have hYB := below_alloc (w2.setCell ⟨w.heap.size, 0, none⟩ (.slice none 0 0)) (.cells #[.string ⟨#[]⟩, .int .i64 0, .slice a2 0 c2] 29 (0, 0))
        have k0 := (hYB.cell (p := ⟨w.heap.size, 0, none⟩) (by simpa using HY.out.lt)).trans (World.cell?_setCell_same _ _ _ HY.out.c0)
        refine bodyPost_ret (v := .tuple #[.agg #[.slice none 0 0], .bool false]) (by simp [results, Tryz.results17, go_sem, k0]) rfl ?_
        obtain ⟨q1, q2, q3, q4, q5⟩ := DbAns.empty (b := parOk s) (l := parL s) HB2.out (Nat.le_refl _) HE.out.2 _ HE.out.1
        exact ⟨q1, q2, q3, Cd.ow_later q4 hYB, q5.1, below_then q5.2 hYB⟩
      · have HPY := Lib.hid hpt
        clear hpt
        go_wp2_with fail
        refine ((HPA.out.mono fun e w' h => ans_yes HPY.out h)).mono ?_
        rintro e w2t ⟨a2t, c2t, f2t, rfl, ho2, hn2, hb2⟩
        have h2 := HACC.out.later hb2
        have d2 := h2.cell
        have dl := World.block_lt_of_cell? _ _ d2
        have hl := HACC.out.laid hb2 ho2 hn2 29
        have H3 := Lib.hid hl.1
        have HLD := Lib.hid hl.2
        clear ho2 hn2 hb2 h2 hl HACC
        go_wp2_with (at_builtin; refine Cd.wpList_appendN (c := tabC) rfl (.tmp 28) (.tmp 30) 24 rfl WF.heap.size 29 (.agg #[.string ⟨#[]⟩, .int .i64 0, .slice none 0 0]) 3 48 rfl Tryz.underlying24 info_x rfl (by decide) _ cur fp rfl H3.out.ow H3.out.nd (w2t.heap.size + 1) _ rfl HLD.out.at_ (tabP pt) f2t HLD.out.ow HLD.out.nd HLD.out.far HLL.out H3.out.sz ?_)
        intro gt cap4t w4t fp4t ho4 hn4 _ ht4
        have HACC := Lib.hid (H3.out.app (cur' := cur ++ [(tabP pt)]) (n := cur.length + 1) (by simp) ht4 ho4 hn4)
        obtain ⟨e2, g2⟩ := H3.out.fcell ht4
        clear ho4 hn4 ht4 H3 HLD d2 dl
        go_wp2_with fail
        go_roundw
        case rel => exact ⟨k + 1, some ⟨gt, 0, none⟩, cap4t, fp4t, by omega, by go_num, HOK1.out HPY.out, HACC.out.shift HTK.out.symm⟩
        case measure => simp [intOf]; omega
    · have ek : k = ps.length := by omega
      subst ek
      rw [List.take_length] at HACC HOK
      have HVX := Lib.hid (DbImp.impl_dbok _ (ps.map tabP) _ wr (tabsC.ow_rd HACC.out.ow))
      have x0 := HACC.out.cell
      have HNO := Lib.hid (show dbOk (ps.map tabP) = false → ¬ ReadP s from fun q r => by rw [(HRE.out.2 r).2] at q; cases q)
      have HYE := Lib.hid (show dbOk (ps.map tabP) = true → ReadP s ∧ ps.map tabP = (cuts9 s).map tabP from fun q => by
        have r := HRE.out.1 ⟨HOK.out, q⟩
        exact ⟨r, by rw [HRQ.out r]⟩)
      generalize ps.map tabP = cur at *
      go_wp2_with fail
      refine HVX.out.mono ?_
      rintro e wv ⟨rfl, hbv⟩
      replace HACC := Lib.hid (HACC.out.later hbv)
      have HBV := Lib.hid (below_then HBW.out hbv)
      clear hbv x0
      have x6 := HACC.out.cell
      have hy := HACC.out.loc1 HD0.out (by omega)
      have y0 := hy.c0
      have y1 := hy.f0
      have HY := Lib.hid hy
      clear hy
      cases hvx : dbOk cur
      · have HE := Lib.hid (HNOT.out (HNO.out hvx))
        go_wp2_with fail
        have k0 : (wv.setCell ⟨w.heap.size, 0, none⟩ (.slice none 0 0)).cell? ⟨w.heap.size, 0, none⟩ = some (.slice none 0 0) := World.cell?_setCell_same _ _ _ HY.out.c0
        refine bodyPost_ret (v := .tuple #[.agg #[.slice none 0 0], .bool false]) (by simp [results, Tryz.results17, go_sem, k0]) rfl ?_
        exact DbAns.empty HBV.out (Nat.le_refl _) HE.out.2 _ HE.out.1
      · have HE := Lib.hid (HYE.out hvx)
        have HI := Lib.hid (HIS.out HE.out.1)
        go_wp2_with fail
        have k0 : (wv.setCell ⟨w.heap.size, 0, none⟩ (.slice a cur.length c)).cell? ⟨w.heap.size, 0, none⟩ = some (.slice a cur.length c) := World.cell?_setCell_same _ _ _ HY.out.c0
        refine bodyPost_ret (v := .tuple #[.agg #[.slice a cur.length c], .bool true]) (by simp [results, Tryz.results17, go_sem, k0]) rfl ?_
        exact HACC.out.ans (Y := w.heap.size) HBF.out (by omega) (Nat.le_refl _) HD0.out.lt (HE.out.2.trans HI.out.2.symm) HI.out.1
end Go.Proofs.YteihnbnlfocgmaaGreatDoor.DbParse

namespace Go.Proofs.YteihnbnlfocgmaaGreatDoor.IntsWalk
open Go Go.RowKit Byt Ints IntsLaw

/-- v's own block, if it has one, lies from lo on and below hi. -/
def Bk (v : Value) (lo hi : Nat) : Prop := ∀ k, v.ownBlock = some k → lo ≤ k ∧ k < hi
theorem bk_of {w : World} {base : Nat} {e : TypeId} {v : Value} {l : List Int} (h : OwnI w base e v l) : Bk v base w.heap.size := fun k hk => World.ownsRow.lt h k hk
theorem apart {u v : Value} {a b c d : Nat} (hu : Bk u a b) (hv : Bk v c d) (h : b ≤ c ∨ d ≤ a) : u.ownBlock = none ∨ u.ownBlock ≠ v.ownBlock := by
  cases e : u.ownBlock with
  | none => exact .inl rfl
  | some k =>
    refine .inr fun q => ?_
    have h1 := hu k e
    have h2 := hv k q.symm
    omega
theorem kept_mark {w w' : World} {base : Nat} {e : TypeId} {u v : Value} {l : List Int} (h : OwnI w base e u l) (hg : w.grownBy w' v.ownBlock) (hne : u.ownBlock = none ∨ u.ownBlock ≠ v.ownBlock) : OwnI w' base e u l :=
  World.ownsRow.kept h hg hne
theorem below_mark {w0 w w' : World} {v : Value} {lo hi : Nat} (h : Below w0.heap.size w0 w) (hg : w.grownBy w' v.ownBlock) (hb : Bk v lo hi) (hlo : w0.heap.size ≤ lo) : Below w0.heap.size w0 w' :=
  h.grown hg h.size (fun k hk => Nat.le_trans hlo (hb k hk).1)
theorem below_then {w a b : World} (h : Below w.heap.size w a) (k : Below a.heap.size a b) : Below w.heap.size w b := h.trans (k.mono h.size)
theorem dec_same (l : List Int) : decide (l = l) = true := decide_eq_true rfl
end Go.Proofs.YteihnbnlfocgmaaGreatDoor.IntsWalk

namespace Go.Proofs.YteihnbnlfocgmaaGreatDoor.Draw
open Go Go.RowKit Byt

/-- Block c is a cursor over v, which has l's length. -/
def Cur (w : World) (c : Nat) (v : Value) (l : List UInt8) : Prop :=
  ∃ (i : Nat) (h : Int), i ≤ l.length ∧ w.heap[c]? = some (.cells #[v, .int .i64 i, .int .i64 h] 68 (0, 0))

theorem Cur.kept {w w' : World} {c : Nat} {v : Value} {l : List UInt8} {row : Option Nat} (h : Cur w c v l) (hg : w.grownBy w' row) (hne : some c ≠ row) : Cur w' c v l := by
  obtain ⟨i, x, hi, hh⟩ := h
  exact ⟨i, x, hi, by rw [hg.block c (Array.getElem?_eq_some_iff.1 hh).1 hne]; exact hh⟩

theorem cur_size {w : World} {c : Nat} {v : Value} {l : List UInt8} (h : Cur w c v l) : c < w.heap.size := by
  obtain ⟨i, x, hi, hh⟩ := h
  exact (Array.getElem?_eq_some_iff.1 hh).1

theorem cur_set {w : World} {c j : Nat} {cs : Array Value} {T : TypeId} {u : Value} (h : w.heap[c]? = some (.cells cs T (0, 0))) :
    (w.setCell ⟨c, j, none⟩ u).heap[c]? = some (.cells (cs.setIfInBounds j u) T (0, 0)) ∧ w.grownBy (w.setCell ⟨c, j, none⟩ u) (some c) :=
  ⟨heap_setCell_same w c j cs T u h, ⟨rfl, rfl, rfl, by simp, fun k _ hk => heap_setCell_other w ⟨c, j, none⟩ k u (fun e => hk (by simp [e]))⟩⟩

theorem grown_trans {a b c : World} {row : Option Nat} (h : a.grownBy b row) (k : b.grownBy c row) : a.grownBy c row :=
  ⟨k.os.trans h.os, k.tape.trans h.tape, k.output.trans h.output, Nat.le_trans h.size k.size, fun i hi hne => (k.block i (Nat.lt_of_lt_of_le hi h.size) hne).trans (h.block i hi hne)⟩

theorem info_u8 : (Tryz.prog.info? 5).map (fun i => (i.zero, i.size, i.bytes)) = some (some (.int .u8 0), 1, 1) := by kernel_rfl

theorem below_of {w w' : World} {c B : Nat} (h : w.grownBy w' (some c)) (hB : B ≤ c) (hc : c < w.heap.size) : Below B w w' :=
  ⟨h.os, h.tape, h.output, h.size, fun k hk => h.block k (by omega) (by intro q; injection q with q; omega)⟩

theorem low8 (x : Int) : ∃ n : Nat, bits .and .i64 x 255 = (n : Int) ∧ n < 256 := by
  have h : bits .and .i64 x 255 = IntKind.i64.wrap (((BitVec.ofInt 64 x &&& BitVec.ofInt 64 255).toNat : Nat) : Int) := rfl
  have hb : (BitVec.ofInt 64 x &&& BitVec.ofInt 64 255).toNat < 256 := by
    rw [BitVec.toNat_and]
    have : (BitVec.ofInt 64 255).toNat = 255 := by decide
    rw [this]
    exact Nat.lt_of_le_of_lt Nat.and_le_right (by decide)
  refine ⟨_, ?_, hb⟩
  rw [h, IntKind.wrap_i64]
  omega

set_option maxRecDepth 100000 in
set_option maxHeartbeats 800000 in
theorem byte_any (c : Nat) (v : Value) (l : List UInt8) (B : Nat) (w : World) (hc : Cur w c v l) (hr : Reads w v l B) (hB : B ≤ c) :
    Calls Tryz.prog 79 #[.pointer (some ⟨c, 0, none⟩)] w fun e w' => ∃ x : Nat, e = .returned (.int .i64 x) ∧ x < 256 ∧ Cur w' c v l ∧ w.grownBy w' (some c) := by
  obtain ⟨i, h, hi, hh⟩ := hc
  obtain ⟨a, cap, rfl, hl, hcase⟩ := hr
  have c0 := cell_of_row w c 0 _ _ _ hh
  have c1 := cell_of_row w c 1 _ _ _ hh
  have c2 := cell_of_row w c 2 _ _ _ hh
  have f1 := frozen_of_row w c 1 _ _ hh
  have f2 := frozen_of_row w c 2 _ _ hh
  simp only [List.getElem?_toArray, List.getElem?_cons_zero, List.getElem?_cons_succ] at c0 c1 c2
  by_cases hlt : i < l.length
  · rcases hcase with hnil | ⟨b, off, rfl, hbB, hcell⟩
    · subst hnil; simp at hlt
    have cb := hcell i hlt
    go_enter Tryz.func79, Tryz.ntmps79
    go_wp2
    generalize wrap64 (wrap64 (h * 6364136223846793005) + 1442695040888963407) = h1
    obtain ⟨hh1, g1⟩ := cur_set (j := 2) (u := .int .i64 h1) hh
    have cb1 := (g1.cell cb (by intro q; injection q with q; simp only at q; omega))
    generalize w.setCell ⟨c, 2, none⟩ (.int .i64 h1) = w1 at *
    have G1 := Lib.hid g1
    clear g1 c0 c1 c2 f1 f2 cb hh hcell
    have c0 := cell_of_row w1 c 0 _ _ _ hh1
    have c1 := cell_of_row w1 c 1 _ _ _ hh1
    have c2 := cell_of_row w1 c 2 _ _ _ hh1
    have f1 := frozen_of_row w1 c 1 _ _ hh1
    simp only [List.setIfInBounds_toArray, List.set_cons_succ, List.set_cons_zero, List.getElem?_toArray, List.getElem?_cons_zero, List.getElem?_cons_succ] at c0 c1 c2
    have HH := Lib.hid hh1
    clear hh1
    go_quiet (fail)
    go_wp2
    obtain ⟨x, hx, hx256⟩ := low8 (bits BinOp.xor IntKind.i64 (h1 / 8589934592) (h1 / 35184372088832))
    rw [hx]
    clear hx
    have p1 : (0 : Int) ≤ (i : Int) := by omega
    have p2 : (i : Int) < (l.length : Int) := by omega
    go_quiet (fail)
    go_wp2
    go_quiet (fail)
    go_wp2
    go_ret
    obtain ⟨y, hy, hy2⟩ := low8 (wrap64 ((x : Int) + wrap64 (l[i].toNat : Int)))
    refine ⟨y, ret_int hy, hy2, ?_, ?_⟩
    · refine ⟨i + 1, h1, hlt, ?_⟩
      have := (cur_set (j := 1) (u := .int .i64 ((i : Int) + 1)) HH.out).1
      show (w1.setCell _ _).heap[c]? = _
      simpa using this
    · have k := (cur_set (j := 1) (u := .int .i64 ((i : Int) + 1)) HH.out).2
      exact grown_trans G1.out ⟨k.os, k.tape, k.output, k.size, k.block⟩
  · go_enter Tryz.func79, Tryz.ntmps79
    go_wp2
    generalize wrap64 (wrap64 (h * 6364136223846793005) + 1442695040888963407) = h1
    obtain ⟨hh1, g1⟩ := cur_set (j := 2) (u := .int .i64 h1) hh
    generalize w.setCell ⟨c, 2, none⟩ (.int .i64 h1) = w1 at *
    have G1 := Lib.hid g1
    clear g1 c0 c1 c2 f1 f2 hh hcase
    have c0 := cell_of_row w1 c 0 _ _ _ hh1
    have c1 := cell_of_row w1 c 1 _ _ _ hh1
    have c2 := cell_of_row w1 c 2 _ _ _ hh1
    simp only [List.setIfInBounds_toArray, List.set_cons_succ, List.set_cons_zero, List.getElem?_toArray, List.getElem?_cons_zero, List.getElem?_cons_succ] at c0 c1 c2
    have HH := Lib.hid hh1
    clear hh1
    go_quiet (fail)
    go_wp2
    obtain ⟨x, hx, hx256⟩ := low8 (bits BinOp.xor IntKind.i64 (h1 / 8589934592) (h1 / 35184372088832))
    rw [hx]
    clear hx
    go_quiet (fail)
    go_wp2
    go_ret
    refine ⟨x, rfl, hx256, ⟨i, h1, hi, ?_⟩, ?_⟩
    · have := HH.out
      simpa using this
    · exact grown_trans G1.out ⟨rfl, rfl, rfl, Nat.le_refl _, fun _ _ _ => rfl⟩

set_option maxRecDepth 100000 in
set_option maxHeartbeats 800000 in
/-- A draw below n: from 0 to n - 1; 0 where n is not positive. -/
theorem below_any (n : Int) (c : Nat) (v : Value) (l : List UInt8) (B : Nat) (w : World) (hc : Cur w c v l) (hr : Reads w v l B) (hB : B ≤ c) :
    Calls Tryz.prog 48 #[.pointer (some ⟨c, 0, none⟩), .int .i64 n] w fun e w' => ∃ x : Int, e = .returned (.int .i64 x) ∧ 0 ≤ x ∧ (0 < n → x < n) ∧ Cur w' c v l ∧ w.grownBy w' (some c) := by
  by_cases h0 : n ≤ 0
  · go_enter Tryz.func48, Tryz.ntmps48
    go_wp2
    go_ret
    exact ⟨0, rfl, Int.le_refl _, fun h => by omega, hc, ⟨rfl, rfl, rfl, Nat.le_refl _, fun _ _ _ => rfl⟩⟩
  · have hnp : 0 < n := by omega
    by_cases h256 : n ≤ 256
    · have hby := Lib.hid (byte_any c v l B w hc hr hB)
      go_enter Tryz.func48, Tryz.ntmps48
      go_wp2_with (go_at_call 79; refine hby.out.mono ?_; rintro e w1 ⟨x, rfl, hx, hc1, hg1⟩)
      go_ret
      exact ⟨(x : Int) % n, rfl, Int.emod_nonneg _ (by omega), fun _ => Int.emod_lt_of_pos _ hnp, hc1, hg1⟩
    · go_enter Tryz.func48, Tryz.ntmps48
      go_wp2_with fail
      refine (byte_any c v l B w hc hr hB).mono ?_
      rintro e w1 ⟨x1, rfl, hx1, hc1, hg1⟩
      have hr1 := hr.later (below_of hg1 hB (cur_size hc))
      go_wp2_with fail
      refine (byte_any c v l B w1 hc1 hr1 hB).mono ?_
      rintro e w2 ⟨x2, rfl, hx2, hc2, hg2⟩
      have hr2 := hr1.later (below_of hg2 hB (cur_size hc1))
      go_wp2_with fail
      refine (byte_any c v l B w2 hc2 hr2 hB).mono ?_
      rintro e w3 ⟨x3, rfl, hx3, hc3, hg3⟩
      have hr3 := hr2.later (below_of hg3 hB (cur_size hc2))
      go_wp2_with fail
      refine (byte_any c v l B w3 hc3 hr3 hB).mono ?_
      rintro e w4 ⟨x4, rfl, hx4, hc4, hg4⟩
      go_wp2_with fail
      go_ret
      exact ⟨_, rfl, Int.emod_nonneg _ (by omega), fun _ => Int.emod_lt_of_pos _ hnp, hc4, grown_trans (grown_trans (grown_trans hg1 hg2) hg3) hg4⟩

theorem grown_refl (w : World) (row : Option Nat) : w.grownBy w row := ⟨rfl, rfl, rfl, Nat.le_refl _, fun _ _ _ => rfl⟩

set_option maxRecDepth 100000 in
set_option maxHeartbeats 800000 in
/-- A new cursor. -/
theorem new_any (v : Value) (l : List UInt8) (B : Nat) (w : World) (hr : Reads w v l B) :
    Calls Tryz.prog 20 #[v] w fun e w' => e = .returned (.pointer (some ⟨w.heap.size, 0, none⟩)) ∧ Cur w' w.heap.size v l ∧ w.grownBy w' none := by
  obtain ⟨a, cap, rfl, hl, hcase⟩ := hr
  go_enter Tryz.func20, Tryz.ntmps20
  go_wp2
  go_loop [3, 4] (fun h i => ∃ (k : Nat) (x : Int), k ≤ l.length ∧ i = .int .i64 k ∧ h = .int .i64 x) (fun _ i => l.length - (intOf i).toNat)
  case atStart => exact ⟨0, _, Nat.zero_le _, rfl, rfl⟩
  case round =>
    obtain ⟨k, x, hk, rfl, rfl⟩ := hrel
    by_cases hlt : k < l.length
    · rcases hcase with hnil | ⟨b, off, rfl, hbB, hcell⟩
      · subst hnil; simp at hlt
      have cb := hcell k hlt
      clear hcell
      by_cases h4 : k < 4000
      · go_wp2
        go_round
        case rel => exact ⟨k + 1, _, by omega, by go_num, rfl⟩
        case measure => simp [intOf]; omega
      · go_wp2
        go_ret
        refine ⟨rfl, ⟨0, x, Nat.zero_le _, ?_⟩, World.grownBy_alloc _ _ _⟩
        exact heap_alloc_new w _
    · clear hcase
      go_wp2
      all_goals go_ret
      all_goals refine ⟨rfl, ⟨0, x, Nat.zero_le _, ?_⟩, World.grownBy_alloc _ _ _⟩
      all_goals exact heap_alloc_new w _

set_option maxRecDepth 100000 in
set_option maxHeartbeats 800000 in
/-- One of the listed numbers. -/
theorem pick_any (zs : List Int) (b : Nat) (hzl : 0 < zs.length) (hz64 : zs.length ≤ 100000) (c : Nat) (v : Value) (l : List UInt8) (B : Nat) (w : World) (hc : Cur w c v l) (hr : Reads w v l B) (hB : B ≤ c)
    (hbc : b ≠ c) (hzs : ∀ t, t < zs.length → w.cell? ⟨b, t, none⟩ = some (.int .i64 (zs.getD t 0))) :
    Calls Tryz.prog 50 #[.pointer (some ⟨c, 0, none⟩), .slice (some ⟨b, 0, none⟩) zs.length zs.length] w fun e w' =>
      ∃ t, t < zs.length ∧ e = .returned (.int .i64 (zs.getD t 0)) ∧ Cur w' c v l ∧ w.grownBy w' (some c) := by
  have hby := Lib.hid (below_any zs.length c v l B w hc hr hB)
  have Hzs := Lib.hid hzs
  clear hzs
  go_enter Tryz.func50, Tryz.ntmps50
  go_wp2_with fail
  refine hby.out.mono ?_
  rintro e w1 ⟨x, rfl, hx0, hxn, hc1, hg1⟩
  obtain ⟨t, rfl⟩ := Int.eq_ofNat_of_zero_le hx0
  have hxn' := hxn (by omega)
  have ht : t < zs.length := by omega
  have hcell := hg1.cell (Hzs.out t ht) (by intro q; injection q with q; simp only at q; omega)
  clear hxn hxn'
  go_wp2_with fail
  go_ret
  exact ⟨t, ht, ret_int (by simp [ht]), hc1, hg1⟩

/-- The numbers that the laws draw from. -/
def nums : List Int := [-1, 0, 127, 128, 255, 256, 16383, 16384, 65535, 65536, 562949953421311, 562949953421312, 999999999, 1000000000, -999999999, 9223372036854775807, -9223372036854775808]
theorem nums_ok : ∀ t : Fin 17, -9223372036854775808 ≤ nums.getD t.val 0 ∧ nums.getD t.val 0 ≤ 9223372036854775807 := by decide

theorem nums_cells : ∀ t : Fin 17, (#[.int .i64 (-1), .int .i64 0, .int .i64 127, .int .i64 128, .int .i64 255, .int .i64 256, .int .i64 16383, .int .i64 16384, .int .i64 65535, .int .i64 65536, .int .i64 562949953421311, .int .i64 562949953421312, .int .i64 999999999, .int .i64 1000000000, .int .i64 (-999999999), .int .i64 9223372036854775807, .int .i64 (-9223372036854775808)] : Array Value)[t.val]? = some (.int .i64 (nums.getD t.val 0)) := by
  intro t
  obtain ⟨t, ht⟩ := t
  rcases (show t = 0 ∨ t = 1 ∨ t = 2 ∨ t = 3 ∨ t = 4 ∨ t = 5 ∨ t = 6 ∨ t = 7 ∨ t = 8 ∨ t = 9 ∨ t = 10 ∨ t = 11 ∨ t = 12 ∨ t = 13 ∨ t = 14 ∨ t = 15 ∨ t = 16 by omega) with rfl | rfl | rfl | rfl | rfl | rfl | rfl | rfl | rfl | rfl | rfl | rfl | rfl | rfl | rfl | rfl | rfl <;> rfl

theorem wrap_ok (x : Int) : -9223372036854775808 ≤ wrap64 x ∧ wrap64 x ≤ 9223372036854775807 := by
  unfold wrap64
  omega


theorem own_kept {w w' : World} {base c : Nat} {e : TypeId} {v : Value} {l : List UInt8} (h : Own w base e v l) (hg : w.grownBy w' (some c)) (hc : c < base) : Own w' base e v l := by
  refine World.ownsRow.kept h hg ?_
  cases hv : v.ownBlock with
  | none => exact .inl rfl
  | some k =>
    refine .inr ?_
    have := World.ownsRow.lt h k hv
    intro q
    injection q with q
    omega

theorem grown_own {w w1 w2 : World} {c : Nat} (h : w.grownBy w1 (some c)) (hb : Below w.heap.size w1 w2) : w.grownBy w2 (some c) :=
  ⟨hb.os.trans h.os, hb.tape.trans h.tape, hb.output.trans h.output, Nat.le_trans h.size hb.size, fun k hk hne => (hb.block k hk).trans (h.block k hk hne)⟩

theorem cur_below {w w' : World} {B c : Nat} {v : Value} {l : List UInt8} (h : Cur w c v l) (hb : Below B w w') (hc : c < B) : Cur w' c v l := by
  obtain ⟨i, x, hi, hh⟩ := h
  exact ⟨i, x, hi, by rw [hb.block c hc]; exact hh⟩


/-- An argument of type []byte. -/
theorem reads_of {H : Type} {enc : TypeId × Value → H} {P : Program} {W : World} {base : Nat} {t e : TypeId} {v : Value} {d : DataW H} {ps : List MemPlace} (ht : P.underlying t = some (.slice e)) (he : P.underlying e = some (.int .u8)) (hc : P.cellsOf e = 1)
    (hval : Value.okWide P W .any base t v) (hd : DataW.Trod enc P W 0 (fun _ => true) true t v d ps) : ∃ l, Reads W v l W.heap.size := by
  obtain ⟨a, len, cap, rfl⟩ := Go.WideShapes.okWide_slice ht hval
  obtain ⟨fuel, hf⟩ := hd
  rcases Go.ChangeShapes.open_ints ht he hc hf with ⟨hcs, _⟩ | ⟨ad, len', cap', zs, hcs, _, hl, hm, hz, _, hcell, hwz⟩
  · simp [Value.cells] at hcs
    obtain ⟨rfl, rfl, rfl⟩ := hcs
    exact ⟨[], none, 0, rfl, by simp, .inl rfl⟩
  · simp [Value.cells] at hcs
    obtain ⟨rfl, rfl, rfl⟩ := hcs
    simp only [if_true] at hz
    have hml : len ≤ 9223372036854775807 := by unfold maxLen at hm; omega
    have hlen : ((zs.take len).map fun z => UInt8.ofNat z.toNat).length = len := by simp; omega
    refine ⟨(zs.take len).map fun z => UInt8.ofNat z.toNat, some ad, cap, by rw [hlen], by rw [hlen]; exact hml, ?_⟩
    by_cases h0 : len = 0
    · subst h0
      exact .inl rfl
    · have hspot : ad.spot = none := by simpa [Addr.add] using World.cell?_spot (hcell 0 (by omega))
      have hblk : ad.block < W.heap.size := by simpa [Addr.add] using World.block_lt_of_cell? W _ (hcell 0 (by omega))
      obtain ⟨b, off, sp⟩ := ad
      simp only at hspot hblk
      subst hspot
      refine .inr ⟨b, off, rfl, hblk, fun t ht' => ?_⟩
      rw [hlen] at ht'
      have h1 := hcell t (by omega)
      have ha : (⟨b, off, none⟩ : Addr).add t = ⟨b, off + t, none⟩ := by unfold Addr.add; split <;> simp_all
      rw [ha] at h1
      rw [h1]
      have hzt : zs.getD t 0 = zs[t]'(by omega) := by simp [List.getD, show t < zs.length by omega]
      have hw := hwz _ (List.getElem_mem (show t < zs.length by omega))
      rw [hzt]
      simp only [List.getElem_map, List.getElem_take]
      simp [Lit.wf, IntKind.min, IntKind.max, IntKind.signed, IntKind.bits] at hw
      congr 2
      simp
      omega




theorem big_any (v : Value) (l : List UInt8) (B : Nat) (w : World) (hr : Reads w v l B) :
    Calls Tryz.prog 4 #[v] w fun e w' => e = .returned (.bool (decide (1048576 < l.length))) ∧ w = w' := by
  obtain ⟨a, cap, rfl, hl, _⟩ := hr
  go_enter Tryz.func4, Tryz.ntmps4
  go_wp2
  go_ret
  exact ⟨by simp; omega, rfl⟩
end Go.Proofs.YteihnbnlfocgmaaGreatDoor.Draw

namespace Go.Proofs.YteihnbnlfocgmaaGreatDoor.LocDraw
open Go Go.RowKit Byt Ints IntsLaw IntsWalk Draw

theorem owni_kept {w w' : World} {base c : Nat} {e : TypeId} {u : Value} {l : List Int} (h : OwnI w base e u l) (hg : w.grownBy w' (some c)) (hc : c < base) : OwnI w' base e u l := by
  refine World.ownsRow.kept h hg ?_
  cases hv : u.ownBlock with
  | none => exact .inl rfl
  | some k =>
    refine .inr ?_
    have := World.ownsRow.lt h k hv
    intro q
    injection q with q
    omega
theorem owni_far {w : World} {base g1 n cap : Nat} {e : TypeId} {l : List Int} {p : Addr} (u : Value) (h : OwnI w base e (.slice (some ⟨g1, 0, none⟩) n cap) l) (hp : g1 ≠ p.block) : OwnI (w.setCell p u) base e (.slice (some ⟨g1, 0, none⟩) n cap) l :=
  World.ownsRow.kept (row := some p.block) h ⟨rfl, rfl, rfl, by simp, fun i _ hne => heap_setCell_other w p i u (by intro q; exact hne (by rw [q]))⟩ (.inr (by simpa [Value.ownBlock] using hp))
theorem wrap_inr (x : Int) : -9223372036854775808 ≤ (if 0 < IntKind.i64.wrap x then IntKind.i64.wrap x else 0) ∧ (if 0 < IntKind.i64.wrap x then IntKind.i64.wrap x else 0) ≤ 9223372036854775807 := by
  rw [IntKind.wrap_i64]
  split <;> omega
theorem list_cellsI (zs : List Int) (w : World) (T : TypeId) : ∀ t, t < zs.length → (w.alloc (.cells (zs.map fun z => Value.int .i64 z).toArray T (0, 0))).cell? ⟨w.heap.size, t, none⟩ = some (.int .i64 (zs.getD t 0)) := by
  intro t ht
  rw [World.cell?_alloc_mark]
  simp [ht]
theorem cur_allocI {w : World} {c : Nat} {v : Value} {l : List UInt8} (o : Obj) (h : Cur w c v l) : Cur (w.alloc o) c v l :=
  h.kept (World.grownBy_alloc w o none) (by intro q; cases q)
theorem grown_allocI {w w' : World} {c : Nat} (o : Obj) (h : w.grownBy w' (some c)) : w.grownBy (w'.alloc o) (some c) :=
  grown_trans h (World.grownBy_alloc w' o (some c))
theorem cur_farI {w : World} {c : Nat} {v : Value} {l : List UInt8} {p : Addr} (u : Value) (h : Cur w c v l) (hp : c ≠ p.block) : Cur (w.setCell p u) c v l := by
  obtain ⟨i, x, hi, hh⟩ := h
  exact ⟨i, x, hi, by rw [heap_setCell_other w p c u hp]; exact hh⟩
theorem grown_newI {w w' : World} {c : Nat} {p : Addr} (u : Value) (h : w.grownBy w' (some c)) (hp : w.heap.size ≤ p.block) : w.grownBy (w'.setCell p u) (some c) :=
  ⟨h.os, h.tape, h.output, by show _ ≤ (w'.setCell p u).heap.size; simp; exact h.size, fun k hk hne => (heap_setCell_other w' p k u (by omega)).trans (h.block k hk hne)⟩
theorem inr_set {l : List Int} (h : InR l) (j : Nat) {x : Int} (hx : -9223372036854775808 ≤ x ∧ x ≤ 9223372036854775807) : InR (l.set j x) := fun y hy => by
  rcases List.mem_or_eq_of_mem_set hy with q | q
  · exact h y q
  · rw [q]; exact hx
theorem inr_snoc {l : List Int} (h : InR l) {x : Int} (hx : -9223372036854775808 ≤ x ∧ x ≤ 9223372036854775807) : InR (l ++ [x]) := fun y hy => by
  rcases List.mem_append.1 hy with q | q
  · exact h y q
  · rw [List.mem_singleton.1 q]; exact hx

theorem form_some {w : World} {base : Nat} {e : TypeId} {o : Value} {ls : List Int} {G n : Nat} (h : OwnI w base e o ls) (hn : ls = [] → o = .slice (some ⟨G, 0, none⟩) 0 0) (hlen : ls.length = n) : ∃ g cap, o = .slice (some ⟨g, 0, none⟩) n cap := by
  subst hlen
  rcases h.form with ⟨_, h2⟩ | ⟨g, cap, h1, _⟩
  · have := hn h2
    subst h2
    exact ⟨G, 0, this⟩
  · exact ⟨g, cap, h1⟩

theorem once_anyI (n : Int) (c : Nat) (v : Value) (l : List UInt8) (B : Nat) (w : World) (hc : Cur w c v l) (hr : Reads w v l B) (hB : B ≤ c) :
    Calls Tryz.prog 22 #[.pointer (some ⟨c, 0, none⟩), .int .i64 n] w fun e w' => ∃ b : Bool, e = .returned (.bool b) ∧ Cur w' c v l ∧ w.grownBy w' (some c) := by
  have hby := Lib.hid (below_any n c v l B w hc hr hB)
  go_enter Tryz.func22, Tryz.ntmps22
  go_wp2_with fail
  refine hby.out.mono ?_
  rintro e w1 ⟨x, rfl, hx0, hx1, hc1, hg1⟩
  go_wp2_with fail
  go_ret
  exact ⟨x == 0, rfl, hc1, hg1⟩

def zl : List Int := [-1, 7, 8, 1000]
theorem zl_ok : ∀ t : Fin 4, -9223372036854775808 ≤ zl.getD t.val 0 ∧ zl.getD t.val 0 ≤ 9223372036854775807 := by decide


def zs15 : List Int := [-1, 0, 1, 2, 4, 5, 16, 17, 64, 1024, 1025, 4096, 4097, 9223372036854775807, -9223372036854775808]
theorem zs15_ok : ∀ t : Fin 15, -9223372036854775808 ≤ zs15.getD t.val 0 ∧ zs15.getD t.val 0 ≤ 9223372036854775807 := by decide
def zs4 : List Int := [0, 1, 4, 8]
theorem zs4_ok : ∀ t : Fin 4, 0 ≤ zs4.getD t.val 0 ∧ zs4.getD t.val 0 ≤ 8 := by decide


end Go.Proofs.YteihnbnlfocgmaaGreatDoor.LocDraw

namespace Go.Proofs.YteihnbnlfocgmaaGreatDoor.TabSpec
open Go Go.RowKit Byt Ints IntsLaw Cd Rows2 Tab

/-- The rows but row. -/
def dropR (rows : List (List Int)) (row : List Int) : List (List Int) := rows.filter fun r => decide (r ≠ row)
def delR (nm : ByteArray) (ar : Int) (rows : List (List Int)) (row : List Int) : List (List Int) := if hasR nm ar rows row then dropR rows row else rows
theorem dropR_len (rows : List (List Int)) (row : List Int) : (dropR rows row).length ≤ rows.length := List.length_filter_le _ _
theorem dropR_skip {rows : List (List Int)} {row : List Int} {k : Nat} (h : k < rows.length) (he : rows[k] = row) : dropR (rows.take (k + 1)) row = dropR (rows.take k) row := by
  unfold dropR
  rw [List.take_succ_eq_append_getElem h, List.filter_append]
  simp [he]
theorem dropR_next {rows : List (List Int)} {row : List Int} {k : Nat} (h : k < rows.length) (he : rows[k] ≠ row) : dropR (rows.take (k + 1)) row = dropR (rows.take k) row ++ [rows[k]] := by
  unfold dropR
  rw [List.take_succ_eq_append_getElem h, List.filter_append]
  simp [he]

theorem Fr.made {w : World} {X : Nat} {nm : ByteArray} {ar : Int} {tv u0 u' z0 z1 z2 : Value} {rows : List (List Int)} {fp : List Nat} {W : World} (b : Below w.heap.size w W) (t : Loc3 W w.heap.size (.string nm) (.int .i64 ar) tv)
    (r : Loc3 W (w.heap.size + 1) z0 z1 z2) (x : Loc3 W X (.string nm) (.int .i64 ar) u0) (o : rowsC.ow W (w.heap.size + 2) [u'] rows fp) (n : fp.Nodup) (d : X ∉ fp) (g : w.heap.size + 2 ≤ X) : Fr w X nm ar tv u' z0 z1 z2 rows fp (W.setCell ⟨X, 2, none⟩ u') :=
  ⟨b.setCell (by show _ ≤ X; omega) _, t.set_far (by show X ≠ _; omega) _, r.set_far (by show X ≠ _; omega) _, x.set2 _, ow_setCell o d _, n, d, g⟩

end Go.Proofs.YteihnbnlfocgmaaGreatDoor.TabSpec

namespace Go.Proofs.YteihnbnlfocgmaaGreatDoor.TabSpec
open Go Go.RowKit Byt Ints IntsLaw Cd Rows2 Tab

theorem putStep_wt (row : List Int) (st : List (List Int) × Bool) (r : List Int) : rowsWt (putStep row st r).1 + (!(putStep row st r).2).toNat * (row.length + 1) ≤ rowsWt st.1 + (!st.2).toNat * (row.length + 1) + r.length + 1 := by
  obtain ⟨o, p⟩ := st
  unfold putStep
  by_cases h1 : cmpR r row = 0
  · rw [if_pos h1]
    cases p <;> simp [rowsWt] <;> omega
  · rw [if_neg h1]
    cases p with
    | false =>
      by_cases h2 : 0 < cmpR r row
      · rw [if_pos ⟨h2, rfl⟩]; simp [rowsWt]; omega
      · rw [if_neg (fun q => h2 q.1)]; simp [rowsWt]; omega
    | true =>
      rw [if_neg (fun q => by simp at q)]; simp [rowsWt]; omega
theorem putF_wt (row : List Int) : ∀ (l : List (List Int)) (st : List (List Int) × Bool), rowsWt (l.foldl (putStep row) st).1 + (!(l.foldl (putStep row) st).2).toNat * (row.length + 1) ≤ rowsWt st.1 + (!st.2).toNat * (row.length + 1) + rowsWt l
  | [], st => Nat.le_add_right _ _
  | r :: rs, st => by
    have h1 := putF_wt row rs (putStep row st r)
    have h2 := putStep_wt row st r
    have h3 : rowsWt (r :: rs) = rowsWt rs + r.length + 1 := by simp [rowsWt]; omega
    rw [List.foldl_cons, h3]
    omega
theorem putR_wt (rows : List (List Int)) (row : List Int) : rowsWt (putR rows row) ≤ rowsWt rows + row.length + 1 := by
  have h := putF_wt row rows ([], false)
  have e : rows.foldl (putStep row) ([], false) = putF rows row := rfl
  have e0 : rowsWt [] = 0 := rfl
  rw [e] at h
  unfold putR
  generalize putF rows row = st at *
  obtain ⟨o, p⟩ := st
  cases p with
  | true =>
    simp at h ⊢
    omega
  | false =>
    have e1 : rowsWt (o ++ [row]) = rowsWt o + (row.length + 1) := by simp [rowsWt]; omega
    simp at h ⊢
    omega

/-- The rows put one by one, up to the ninth. -/
def newR (acc : List (List Int)) : List (List Int) → List (List Int)
  | [] => acc
  | r :: rs => if acc.length ≤ 8 then newR (putR acc r) rs else acc
theorem newR_big {acc : List (List Int)} (h : ¬ acc.length ≤ 8) : ∀ l, newR acc l = acc
  | [] => rfl
  | _ :: _ => by rw [newR, if_neg h]
theorem newR_next {acc rows : List (List Int)} {k : Nat} (h : k < rows.length) (h8 : acc.length ≤ 8) : newR acc (rows.drop k) = newR (putR acc rows[k]) (rows.drop (k + 1)) := by rw [drop_at h, newR, if_pos h8]
def newOk (nm : ByteArray) (ar : Int) (rows : List (List Int)) : Bool := tabOk nm ar (newR [] rows)

/-- What is answered. -/
def NewAns (nm : ByteArray) (ar : Int) (rows : List (List Int)) (w : World) (e : Ending) (w' : World) : Prop :=
  ∃ u' fp, e = .returned (.tuple #[.agg #[.string (if newOk nm ar rows then nm else ⟨#[]⟩), .int .i64 (if newOk nm ar rows then ar else 0), u'], .bool (newOk nm ar rows)]) ∧ rowsC.ow w' w.heap.size [u'] (if newOk nm ar rows then newR [] rows else []) fp ∧ fp.Nodup ∧ Below w.heap.size w w'

end Go.Proofs.YteihnbnlfocgmaaGreatDoor.TabSpec
