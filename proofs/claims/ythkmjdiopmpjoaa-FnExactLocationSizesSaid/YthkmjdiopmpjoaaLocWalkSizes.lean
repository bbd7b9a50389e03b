/- The walk of the exact law on LocationSizes, out of the two functions' contracts. -/
import Derived.Test.YthkmjdiopmpjoaaIntsWalk
namespace Go.Proofs.Ythkmjdiopmpjoaa.LocWalkSizes
open Go Go.RowKit Byt Ints IntsLaw IntsWalk
set_option maxRecDepth 100000 in
set_option maxHeartbeats 1600000 in
theorem walk (v : Value) (l Z : List Int) (w : World) (hr : RI w v l w.heap.size) (hZ : Z.length ≤ 1048576)
    (HS : l.length ≤ 1048576 → ∀ v B w', RI w' v l B → B ≤ w'.heap.size → Calls Try.prog 31 #[v] w' fun e w'' => ∃ v', e = .returned v' ∧ OwnI w'' w'.heap.size 3 v' Z ∧ Below w'.heap.size w' w'')
    (HI : l.length ≤ 1048576 → ∀ v B w', RI w' v l B → B ≤ w'.heap.size → Calls Try.prog 25 #[v] w' fun e w'' => ∃ v', e = .returned v' ∧ OwnI w'' w'.heap.size 3 v' Z ∧ Below w'.heap.size w' w'') :
    Calls Try.prog 8 #[v] w fun e w' => e = .returned (.bool true) ∧ Below w.heap.size w w' := by
  have HR := Lib.hid (fun w' (hb : Below w.heap.size w w') => hr.later hb)
  have HSh := Lib.hid HS
  have HIh := Lib.hid HI
  clear HS HI
  obtain ⟨a, cap, rfl, hlm, _⟩ := hr
  by_cases hbig : 1048576 < l.length
  · go_enter Try.func8, Try.ntmps8
    go_wp2_with fail
    go_ret
    exact ⟨rfl, Below.refl _ _⟩
  have hl : l.length ≤ 1048576 := by omega
  have HL := Lib.hid hl
  go_enter Try.func8, Try.ntmps8
  go_wp2_with fail
  refine (to_ints _ l w.heap.size w (HR.out _ (Below.refl _ _)) (Nat.le_refl _) (by have := HL.out; omega)).mono ?_
  rintro e w1 ⟨v1, rfl, ho1, hb1⟩
  go_wp2_with fail
  refine (HSh.out HL.out v1 w1.heap.size w1 ho1.reads (Nat.le_refl _)).mono ?_
  rintro e w2 ⟨u, rfl, ho2, hb2⟩
  have K2 := below_then hb1 hb2
  clear ho1
  go_wp2_with fail
  refine (to_ints _ l w.heap.size w2 (HR.out _ K2) K2.size (by have := HL.out; omega)).mono ?_
  rintro e w3 ⟨x0, rfl, ho3, hb3⟩
  have K3 := below_then K2 hb3
  have u3 := ho2.later hb3
  go_wp2_with fail
  refine (HIh.out HL.out x0 w3.heap.size w3 ho3.reads (Nat.le_refl _)).mono ?_
  rintro e w4 ⟨g0, rfl, ho4, hb4⟩
  have K4 := below_then K3 hb4
  have u4 := u3.later hb4
  have x4 := ho3.later hb4
  have bu : Bk u w1.heap.size w2.heap.size := bk_of ho2
  have bx : Bk x0 w2.heap.size w3.heap.size := bk_of ho3
  have bg : Bk g0 w3.heap.size w4.heap.size := bk_of ho4
  have s1 := hb1.size
  have s2 := hb2.size
  have s3 := hb3.size
  have s4 := hb4.size
  clear hb1 hb2 hb3 hb4 ho2 ho3 u3 K2 K3
  go_wp2_with fail
  refine (eq_ints g0 u Z Z w4.heap.size w4 ho4.reads u4.reads (Nat.le_refl _)).mono ?_
  rintro e w5 ⟨rfl, hb5⟩
  rw [dec_same]
  have K5 := below_then K4 hb5
  have u5 := u4.later hb5
  have x5 := x4.later hb5
  have g5 := ho4.later hb5
  have s5 := hb5.size
  clear hb5 u4 x4 ho4 K4
  go_wp2_with fail
  refine (to_ints _ l w.heap.size w5 (HR.out _ K5) K5.size (by have := HL.out; omega)).mono ?_
  rintro e w6 ⟨y, rfl, ho6, hb6⟩
  have K6 := below_then K5 hb6
  have u6 := u5.later hb6
  have x6 := x5.later hb6
  have g6 := g5.later hb6
  have s6 := hb6.size
  clear hb6 u5 x5 g5 K5
  go_wp2_with fail
  refine (eq_ints x0 y l l w6.heap.size w6 x6.reads ho6.reads (Nat.le_refl _)).mono ?_
  rintro e w7 ⟨rfl, hb7⟩
  rw [dec_same]
  have K7 := below_then K6 hb7
  have u7 := u6.later hb7
  have x7 := x6.later hb7
  have g7 := g6.later hb7
  have s7 := hb7.size
  clear hb7 u6 x6 g6 K6 ho6
  go_wp2_with fail
  refine (mark_ints x0 l _ 1 w7 x7 (by have := HL.out; omega) (by decide)).mono ?_
  rintro e w8 ⟨rfl, x8, hg8⟩
  have K8 := below_mark K7 hg8 bx (by omega)
  have u8 := kept_mark u7 hg8 (apart bu bx (by omega))
  have g8 := kept_mark g7 hg8 (apart bg bx (by omega))
  have s8 := hg8.size
  clear hg8 u7 x7 g7 K7 x8
  go_wp2_with fail
  refine (eq_ints g0 u Z Z w8.heap.size w8 g8.reads u8.reads (Nat.le_refl _)).mono ?_
  rintro e w9 ⟨rfl, hb9⟩
  rw [dec_same]
  have K9 := below_then K8 hb9
  have u9 := u8.later hb9
  have g9 := g8.later hb9
  have s9 := hb9.size
  clear hb9 u8 g8 K8
  go_wp2_with fail
  refine (mark_ints g0 Z _ 1 w9 g9 (by omega) (by decide)).mono ?_
  rintro e w10 ⟨rfl, g10, hg10⟩
  have K10 := below_mark K9 hg10 bg (by omega)
  have u10 := kept_mark u9 hg10 (apart bu bg (by omega))
  have s10 := hg10.size
  clear hg10 u9 g9 K9
  go_wp2_with fail
  refine (held_ints g0 Z.length _ 1 w10 g10.reads (by omega) (by decide)).mono ?_
  rintro e w11 ⟨rfl, rfl⟩
  go_wp2_with fail
  refine (to_ints _ l w.heap.size w10 (HR.out _ K10) K10.size (by have := HL.out; omega)).mono ?_
  rintro e w11 ⟨v2, rfl, ho11, hb11⟩
  have K11 := below_then K10 hb11
  have u11 := u10.later hb11
  have g11 := g10.later hb11
  clear u10 g10 K10 hb11
  go_wp2_with fail
  refine (HIh.out HL.out v2 w11.heap.size w11 ho11.reads (Nat.le_refl _)).mono ?_
  rintro e w12 ⟨h0, rfl, ho12, hb12⟩
  have K12 := below_then K11 hb12
  have u12 := u11.later hb12
  have g12 := g11.later hb12
  clear u11 g11 K11 hb12 ho11
  go_wp2_with fail
  refine (eq_ints h0 u Z Z w12.heap.size w12 ho12.reads u12.reads (Nat.le_refl _)).mono ?_
  rintro e w13 ⟨rfl, hb13⟩
  rw [dec_same]
  have K13 := below_then K12 hb13
  have g13 := g12.later hb13
  clear u12 g12 K12 hb13 ho12
  go_wp2_with fail
  refine (held_ints g0 Z.length _ 1 w13 g13.reads (by omega) (by decide)).mono ?_
  rintro e w14 ⟨rfl, rfl⟩
  go_wp2_with fail
  go_ret
  exact ⟨rfl, K13⟩
end Go.Proofs.Ythkmjdiopmpjoaa.LocWalkSizes
