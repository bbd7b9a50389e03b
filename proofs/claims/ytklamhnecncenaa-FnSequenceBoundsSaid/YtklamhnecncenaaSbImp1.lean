/- Bounds from degree sequences: the program's powers and roots, and the sequence with a total and a greatest degree. -/
import Derived.Test.YtklamhnecncenaaSbRep
import Derived.Test.YtklamhnecncenaaSbSpec1
import Derived.Test.YtklamhnecncenaaSbZip
import Derived.Deep.RegionHeld3
import Derived.StillTailTactics
namespace Go.Proofs.Ytklamhnecncenaa.SbImp
open Go Go.RowKit Byt Ints IntsLaw Cd Rows2 Tab TabSpec Exact DegMath DegSpec DegImp SbMath SbSpec SbRep SbZip

set_option maxRecDepth 100000 in
theorem impl_prod (v : Value) (l : List Int) (B : Nat) (w : World) (hr : RI w v l B) (hb : ∀ k, -4000000000000000000 ≤ prodL (l.take k) ∧ prodL (l.take k) ≤ 4000000000000000000) :
    Calls Try.prog 115 #[v] w fun e w' => e = .returned (.int .i64 (prodL l)) ∧ w = w' := by
  have HR := Lib.hid hr
  have HBD := Lib.hid hb
  obtain ⟨a, cap, rfl, hlm, _⟩ := hr
  clear hb
  go_enter Try.func115, Try.ntmps115
  go_wp2_with fail
  go_loop [3, 8] (fun s i => ∃ k : Nat, k ≤ l.length ∧ i = .int .i64 k ∧ s = .int .i64 (prodL (l.take k))) (fun _ i => l.length - (intOf i).toNat)
  case atStart => exact ⟨0, Nat.zero_le _, rfl, rfl⟩
  case round =>
    obtain ⟨k, hk, rfl, rfl⟩ := hrel
    by_cases hlt : k < l.length
    · obtain ⟨b, off, cap', e1, hbB, hc⟩ := ri_at HR.out hlt
      injection e1 with e1 e2 e3
      subst e1 e3
      have p1 : (0 : Int) ≤ (k : Int) := by omega
      have p2 : (k : Int) < (l.length : Int) := by omega
      have HNX := Lib.hid (prod_next hlt)
      obtain ⟨s1, s2⟩ := HBD.out (k + 1)
      rw [HNX.out] at s1 s2
      generalize prodL (l.take k) = s at *
      generalize l[k] = z at *
      have m1 : IntKind.i64.wrap (s * z) = s * z := by rw [IntKind.wrap_i64]; omega
      go_wp2_with fail
      go_round
      case rel => exact ⟨k + 1, by omega, by go_num, by rw [HNX.out]⟩
      case measure => simp [intOf]; omega
    · have ek : k = l.length := by omega
      subst ek
      have HZ := Lib.hid (show prodL (l.take l.length) = prodL l by rw [List.take_length])
      generalize prodL (l.take l.length) = s at *
      go_wp2_with fail
      go_ret
      exact ⟨ret_int HZ.out, rfl⟩
theorem impl_norm (p : Int) (w : World) :
    Calls Try.prog 80 #[.int .i64 p] w fun e w' => e = .returned (.bool (decide (1 ≤ p ∧ p ≤ 3))) ∧ w = w' := by
  by_cases h1 : 1 ≤ p
  · by_cases h2 : p ≤ 3
    · rw [decide_eq_true ⟨h1, h2⟩]
      go_enter Try.func80, Try.ntmps80
      go_wp2_with fail
      go_ret
      exact ⟨rfl, rfl⟩
    · rw [decide_eq_false (fun q => h2 q.2)]
      go_enter Try.func80, Try.ntmps80
      go_wp2_with fail
      go_ret
      exact ⟨rfl, rfl⟩
  · rw [decide_eq_false (fun q => h1 q.1)]
    go_enter Try.func80, Try.ntmps80
    go_wp2_with fail
    go_ret
    exact ⟨rfl, rfl⟩
set_option maxRecDepth 100000 in
theorem impl_power (x : Int) (K : Nat) (w : World) (hK : K ≤ 8) (hb : ∀ k, k ≤ K → -4000000000000000000 ≤ powI x k ∧ powI x k ≤ 4000000000000000000) :
    Calls Try.prog 83 #[.int .i64 x, .int .i64 (K : Int)] w fun e w' => e = .returned (.int .i64 (powI x K)) ∧ Below w.heap.size w w' := by
  have HREP := Lib.hid (fun W b off cap hc => rep_int (.int .i64 x) rfl K hK b off cap W hc)
  have HPR := Lib.hid (fun v B W hr => impl_prod v (List.replicate K x) B W hr (fun k => by
    rw [List.take_replicate, prod_rep]
    exact hb _ (by omega)))
  rw [prod_rep] at HPR
  have HOW := Lib.hid (fun w0 W (h : RepRow w0 W 3 (.int .i64 x) (.int .i64 0) K K) => rep_own h hK)
  have HB := Lib.hid (below_alloc w (.cells #[.int .i64 x] 3))
  have hc : (w.alloc (.cells #[.int .i64 x] 3)).cell? ⟨w.heap.size, 0, none⟩ = some (.int .i64 x) := by
    rw [World.cell?_alloc_at _ _ _ _ (by simp)]
    rfl
  have HC := Lib.hid hc
  clear hb hc
  generalize powI x K = R at *
  go_enter Try.func83, Try.ntmps83
  go_wp2_with fail
  generalize w.alloc _ = W at *
  refine (HREP.out W _ _ _ HC.out).mono ?_
  rintro e w1 ⟨rfl, hrep⟩
  have HR := Lib.hid (HOW.out W w1 hrep).reads
  have HB1 := Lib.hid (below_then HB.out hrep.2)
  clear hrep
  go_wp2_with fail
  refine (HPR.out _ _ w1 HR.out).mono ?_
  rintro e w2 ⟨rfl, rfl⟩
  go_wp2_with fail
  go_ret
  exact ⟨rfl, HB1.out⟩
set_option maxRecDepth 100000 in
set_option maxHeartbeats 1600000 in
theorem impl_from (t g : Int) (w : World) :
    Calls Try.prog 20 #[.int .i64 t, .int .i64 g] w fun e w' => SeqAns (sfnL t g) w e w' := by
  by_cases hok : 0 ≤ t ∧ t ≤ 8 ∧ 1 ≤ g
  case neg =>
    have HZ := Lib.hid (sfn_no hok)
    by_cases h1 : t < 0
    · clear hok
      go_enter Try.func20, Try.ntmps20
      go_wp2_with fail
      go_ret
      exact ⟨_, _, rfl, by rw [HZ.out]; exact Cd.ow_nil _ _, List.nodup_nil, Below.refl _ _⟩
    by_cases h2 : 8 < t
    · clear hok
      go_enter Try.func20, Try.ntmps20
      go_wp2_with fail
      go_ret
      exact ⟨_, _, rfl, by rw [HZ.out]; exact Cd.ow_nil _ _, List.nodup_nil, Below.refl _ _⟩
    have h3 : g < 1 := by omega
    clear hok
    go_enter Try.func20, Try.ntmps20
    go_wp2_with fail
    go_ret
    exact ⟨_, _, rfl, by rw [HZ.out]; exact Cd.ow_nil _ _, List.nodup_nil, Below.refl _ _⟩
  obtain ⟨T, rfl⟩ := Int.eq_ofNat_of_zero_le hok.1
  obtain ⟨G, rfl⟩ := Int.eq_ofNat_of_zero_le (show 0 ≤ g by omega)
  have hT : T ≤ 8 := by omega
  have hG : 1 ≤ G := by omega
  have hQ : T / G ≤ 8 := Nat.le_trans (Nat.div_le_self _ _) hT
  have hR : T % G ≤ 8 := Nat.le_trans (Nat.mod_le _ _) hT
  have hq : wrap64 ((T : Int) / (G : Int)) = ((T / G : Nat) : Int) := by
    rw [← Int.natCast_ediv]
    generalize T / G = Q at *
    unfold wrap64; omega
  have hm : (T : Int) % (G : Int) = ((T % G : Nat) : Int) := (Int.natCast_emod T G).symm
  have hm2 : wrap64 ((T : Int) % (G : Int)) = ((T % G : Nat) : Int) := by
    rw [hm]
    generalize T % G = R at *
    unfold wrap64; omega
  have HEQ := Lib.hid (sfn_yes ⟨hT, hG⟩)
  have HMEM := Lib.hid (fun (x : Int) (h : x ∈ sfnN T G) => sfn_mem hT h)
  have HDF := Lib.hid (show sfnN T G = List.replicate (T / G) (G : Int) ++ (if T % G = 0 then [] else [((T % G : Nat) : Int)]) from rfl)
  have HREP := Lib.hid (fun W b off cap hc => rep_int (.int .i64 (G : Int)) rfl (T / G) hQ b off cap W hc)
  have HOW := Lib.hid (fun w0 W (h : RepRow w0 W 3 (.int .i64 (G : Int)) (.int .i64 0) (T / G) (T / G)) => rep_own h hQ)
  have HB := Lib.hid (below_alloc w (.cells #[.int .i64 (G : Int)] 3))
  have HC := Lib.hid (show (w.alloc (.cells #[.int .i64 (G : Int)] 3)).cell? ⟨w.heap.size, 0, none⟩ = some (.int .i64 (G : Int)) by
    rw [World.cell?_alloc_at _ _ _ _ (by simp)]
    rfl)
  have t1 : (T : Int) ≤ 8 := by omega
  have t2 : ¬ (T : Int) < 0 := by omega
  have t3 : ¬ (8 : Int) < (T : Int) := by omega
  have g1 : ¬ (G : Int) < 1 := by omega
  have g2 : ¬ (G : Int) = 0 := by omega
  have g3 : (0 : Int) < (G : Int) := by omega
  have g4 : (1 : Int) ≤ (G : Int) := by omega
  have t4 : (0 : Int) ≤ (T : Int) := by omega
  clear hok hT hG
  generalize T / G = Q at *
  generalize T % G = R at *
  go_enter Try.func20, Try.ntmps20
  go_wp2_with fail
  generalize w.alloc _ = W at *
  refine (HREP.out W _ _ _ HC.out).mono ?_
  rintro e w1 ⟨rfl, hrep⟩
  have HO := Lib.hid (HOW.out W w1 hrep)
  have HB1 := Lib.hid (below_then HB.out hrep.2)
  clear hrep HREP HOW HC
  by_cases h0 : R = 0
  · have HZ := Lib.hid (show sfnL (T : Int) (G : Int) = List.replicate Q (G : Int) from by rw [HEQ.out, HDF.out, if_pos h0, List.append_nil])
    subst h0
    have HIN := Lib.hid (show InR (List.replicate Q (G : Int)) from fun x hx => by
      have := HMEM.out x (by rw [HDF.out]; exact List.mem_append_left _ hx)
      omega)
    go_wp2_with fail
    go_ret
    exact ⟨_, _, rfl, by rw [HZ.out]; exact (rowC.ow_base (Cd.ow_of_own HO.out HIN.out) HB.out.size), Cd.own_nodup, HB1.out⟩
  · have r1 : ((R : Int) != 0) = true := by simpa using h0
    have HIN := Lib.hid (show InR (List.replicate Q (G : Int) ++ [(R : Int)]) from fun x hx => by
      have := HMEM.out x (by rw [HDF.out, if_neg h0]; exact hx)
      omega)
    have hown := HO.out.base_mono HB.out.size
    have hbs := HB1.out.size
    have hlen : (List.replicate Q (G : Int)).length + 1 ≤ 1000000000000 := by rw [List.length_replicate]; omega
    have HLN := Lib.hid (show (List.replicate Q (G : Int)).length = Q from List.length_replicate)
    generalize hL : List.replicate Q (G : Int) = L at *
    clear hL
    obtain rfl : L.length = Q := HLN.out
    go_wp2_with (at_builtin; refine wp_appendI rfl (.tmp 28) (.tmp 30) 24 rfl w.heap.size 3 Try.underlying24 info_i64 _ _ rfl hown _ rfl hlen hbs ?_)
    intro v' w5 hown5 hb5
    go_wp2_with fail
    go_ret
    exact ⟨_, _, rfl, by rw [HEQ.out, HDF.out, if_neg h0]; exact Cd.ow_of_own hown5 HIN.out, Cd.own_nodup, HB1.out.trans hb5⟩
theorem bdr (w : World) : Below w.heap.size w w.drew := ⟨rfl, rfl, rfl, Nat.le_refl _, fun _ _ => rfl⟩
/-- The cells of the two captured variables. -/
structure RootEnv (w : World) (n : Int) (K : Nat) (bn bk : Nat) : Prop where
  n : w.cell? ⟨bn, 0, none⟩ = some (.int .i64 n)
  k : w.cell? ⟨bk, 0, none⟩ = some (.int .i64 (K : Int))
theorem RootEnv.later {w w' : World} {n : Int} {K bn bk : Nat} (h : RootEnv w n K bn bk) (hb : Below w.heap.size w w') : RootEnv w' n K bn bk :=
  ⟨(hb.cell (p := ⟨bn, 0, none⟩) (World.block_lt_of_cell? _ _ h.n)).trans h.n, (hb.cell (p := ⟨bk, 0, none⟩) (World.block_lt_of_cell? _ _ h.k)).trans h.k⟩
theorem pow_million {K k : Nat} (hK : K ≤ 3) (hk : k ≤ K) {x : Int} (h0 : 0 ≤ x) (h1 : x ≤ 1000000) : -4000000000000000000 ≤ powI x k ∧ powI x k ≤ 4000000000000000000 := by
  obtain ⟨q1, q2⟩ := pow_bd h0 h1 k
  have h8 : powI 1000000 k ≤ 4000000000000000000 := by
    obtain h | h | h | h : k = 0 ∨ k = 1 ∨ k = 2 ∨ k = 3 := by omega
    all_goals subst h; decide
  omega
set_option maxRecDepth 100000 in
set_option maxHeartbeats 1600000 in
theorem impl_clo (n : Int) (K : Nat) (hK : K ≤ 3) (bn bk i : Nat) (hi : (i : Int) < 1000000) (w : World) (he : RootEnv w n K bn bk) :
    Calls Try.prog 82 #[.int .i64 (i : Int), .pointer (some ⟨bk, 0, none⟩), .pointer (some ⟨bn, 0, none⟩)] w fun e w' => e = .returned (.bool (!fits n K i)) ∧ Below w.heap.size w w' := by
  have HP := Lib.hid (fun W => impl_power ((i : Int) + 1) K W (by omega) (fun k hk => pow_million hK hk (by omega) (by omega)))
  have HZ := Lib.hid (show (!fits n K i) = decide (n < powI ((i : Int) + 1) K) from by
    unfold fits
    by_cases h : n < powI ((i : Int) + 1) K
    · rw [decide_eq_true h, decide_eq_false (by omega)]; rfl
    · rw [decide_eq_false h, decide_eq_true (by omega)]; rfl)
  have i0 : (0 : Int) ≤ (i : Int) := by omega
  have m1 : IntKind.i64.wrap ((i : Int) + 1) = (i : Int) + 1 := by rw [IntKind.wrap_i64]; omega
  have HE := Lib.hid he
  have c1 := he.n
  have c2 := he.k
  clear he
  generalize powI ((i : Int) + 1) K = P at *
  go_enter Try.func82, Try.ntmps82
  go_wp2_with fail
  go_region_held3 (fun wx => wx.cell? ⟨bn, 0, none⟩ = some (.int .i64 n) ∧ wx.cell? ⟨bk, 0, none⟩ = some (.int .i64 (K : Int)) ∧ Below w.heap.size w wx)
    (exact ⟨by assumption, by assumption, by first | assumption | exact bdr _⟩)
    (first | (go_at_call 83; refine (HP.out _).mono ?_; rintro e wq ⟨rfl, hbq⟩; (have hbw := below_then (show Below w.heap.size w w.drew from bdr _) hbq); (have c1 := (HE.out.later hbw).n); (have c2 := (HE.out.later hbw).k)))
  go_wp2_with fail
  go_ret
  exact ⟨ret_b HZ.out.symm, hbw⟩
theorem root_edge {n : Int} {K lo N : Nat} (hl : lo ≤ N) (hN : n.toNat = N) (h1 : ∀ t, t < lo → fits n K t = true) (h2 : ∀ t, lo ≤ t → t < N → fits n K t = false) : rootN n K = lo := by
  unfold rootN
  rw [hN]
  have : (List.range N).countP (fits n K) = (List.range N).countP (fun i => decide (i < lo)) := List.countP_congr fun i hi => by
    have hiN := List.mem_range.1 hi
    by_cases h : i < lo
    · rw [h1 i h, decide_eq_true h]
    · rw [h2 i (by omega) hiN, decide_eq_false h]
  rw [this, count_below]
  omega
set_option maxRecDepth 100000 in
set_option maxHeartbeats 1600000 in
theorem impl_search (N : Nat) (K : Nat) (hK : K ≤ 3) (hN : N ≤ 1000000) (bn bk : Nat) (w : World) (he : RootEnv w (N : Int) K bn bk) :
    Calls Try.prog 81 #[.int .i64 (N : Int), .func (.func 82) #[] #[.pointer (some ⟨bk, 0, none⟩), .pointer (some ⟨bn, 0, none⟩)]] w fun e w' => e = .returned (.int .i64 (rootN (N : Int) K : Int)) ∧ Below w.heap.size w w' := by
  have HCL := Lib.hid (fun W (hb : Below w.heap.size w W) i (hi : i < N) => impl_clo (N : Int) K hK bn bk i (by omega) W (he.later hb))
  have HEND := Lib.hid (fun lo hl h1 h2 => root_edge (n := (N : Int)) (K := K) (lo := lo) (N := N) hl (by simp) h1 h2)
  have HMN := Lib.hid (fun i j (hij : i ≤ j) => fits_mono (n := (N : Int)) (k := K) hij)
  have n1 : (0 : Int) ≤ (N : Int) := by omega
  have n2 : (N : Int) ≤ 1000000 := by omega
  clear he
  go_enter Try.func81, Try.ntmps81
  go_wp2_with fail
  go_loopw [5, 6] (fun i j wr => ∃ lo hi : Nat, i = .int .i64 lo ∧ j = .int .i64 hi ∧ lo ≤ hi ∧ hi ≤ N ∧ Hid ((∀ t, t < lo → fits (N : Int) K t = true) ∧ (∀ t, hi ≤ t → t < N → fits (N : Int) K t = false)) ∧ Below w.heap.size w wr) (fun i j _ => (intOf j).toNat - (intOf i).toNat)
  case atStart => exact ⟨0, N, rfl, rfl, Nat.zero_le _, Nat.le_refl _, Lib.hid ⟨fun t h => absurd h (Nat.not_lt_zero _), fun t h1 h2 => by omega⟩, Below.refl _ _⟩
  case round =>
    obtain ⟨lo, hi, rfl, rfl, hlh, hhN, hinv, hb⟩ := hrel
    have HB := Lib.hid hb
    have l1 : (0 : Int) ≤ (lo : Int) := by omega
    have l2 : (hi : Int) ≤ 1000000 := by omega
    by_cases hlt : lo < hi
    · have l3 : (lo : Int) < (hi : Int) := by omega
      have hm : ((lo : Int) + (hi : Int)) / 2 = (((lo + hi) / 2 : Nat) : Int) := by omega
      have HC := Lib.hid (HCL.out wr hb ((lo + hi) / 2) (by omega))
      rw [← hm] at HC
      have HMD := Lib.hid (show lo ≤ (lo + hi) / 2 ∧ (lo + hi) / 2 < hi from by omega)
      clear hb
      cases hf : fits (N : Int) K ((lo + hi) / 2)
      · rw [hf] at HC
        have HI := Lib.hid (show (∀ t, t < lo → fits (N : Int) K t = true) ∧ (∀ t, (lo + hi) / 2 ≤ t → t < N → fits (N : Int) K t = false) from ⟨hinv.out.1, fun t h1 _ => by
          cases hq : fits (N : Int) K t
          · rfl
          · have := HMN.out _ _ h1 hq
            rw [hf] at this
            cases this⟩)
        have HM := Lib.hid hm
        clear hf hm
        go_wp2_with (go_at_call 82; refine HC.out.mono ?_; rintro e w1 ⟨rfl, hb1⟩)
        go_roundw
        case rel => exact ⟨lo, (lo + hi) / 2, rfl, by rw [HM.out], HMD.out.1, by have := HMD.out; omega, HI, below_then HB.out hb1⟩
        case measure => have := HMD.out; simp [intOf]; omega
      · rw [hf] at HC
        have HI := Lib.hid (show (∀ t, t < (lo + hi) / 2 + 1 → fits (N : Int) K t = true) ∧ (∀ t, hi ≤ t → t < N → fits (N : Int) K t = false) from ⟨fun t h1 => HMN.out _ _ (by omega) hf, hinv.out.2⟩)
        have HM := Lib.hid hm
        clear hf hm
        go_wp2_with (go_at_call 82; refine HC.out.mono ?_; rintro e w1 ⟨rfl, hb1⟩)
        go_roundw
        case rel => exact ⟨(lo + hi) / 2 + 1, hi, by rw [HM.out]; push_cast; rfl, rfl, by have := HMD.out; omega, hhN, HI, below_then HB.out hb1⟩
        case measure => have := HMD.out; simp [intOf]; omega
    · obtain rfl : hi = lo := by omega
      have HZ := Lib.hid (HEND.out hi hhN hinv.out.1 hinv.out.2)
      clear hb
      go_wp2_with fail
      go_ret
      exact ⟨ret_int (by rw [HZ.out]), HB.out⟩
theorem boxes (w : World) (n : Int) (K : Nat) : RootEnv ((w.alloc (.cells #[.int .i64 n] 3)).alloc (.cells #[.int .i64 (K : Int)] 3)) n K w.heap.size (w.heap.size + 1) ∧ Below w.heap.size w ((w.alloc (.cells #[.int .i64 n] 3)).alloc (.cells #[.int .i64 (K : Int)] 3)) := by
  have h1 : (w.alloc (.cells #[.int .i64 n] 3)).cell? ⟨w.heap.size, 0, none⟩ = some (.int .i64 n) := by
    rw [World.cell?_alloc_at _ _ _ _ (by simp)]
    rfl
  have hb1 := below_alloc w (.cells #[.int .i64 n] 3)
  have hs : (w.alloc (.cells #[.int .i64 n] 3)).heap.size = w.heap.size + 1 := size_alloc ..
  generalize w.alloc (.cells #[.int .i64 n] 3) = A at *
  have hb2 := below_alloc A (.cells #[.int .i64 (K : Int)] 3)
  have h2 : (A.alloc (.cells #[.int .i64 (K : Int)] 3)).cell? ⟨A.heap.size, 0, none⟩ = some (.int .i64 (K : Int)) := by
    rw [World.cell?_alloc_at _ _ _ _ (by simp)]
    rfl
  rw [hs] at h2
  exact ⟨⟨(hb2.cell (p := ⟨w.heap.size, 0, none⟩) (World.block_lt_of_cell? _ _ h1)).trans h1, h2⟩, below_then hb1 hb2⟩
set_option maxRecDepth 100000 in
set_option maxHeartbeats 1600000 in
theorem impl_root (n k : Int) (w : World) :
    Calls Try.prog 27 #[.int .i64 n, .int .i64 k] w fun e w' => e = .returned (.int .i64 (rootI n k)) ∧ Below w.heap.size w w' := by
  have hmf : ∀ (fn : Fn) (first cap : Array Value) (w : World), (Instr.makeFunc fn first cap).run Try.prog w = .ok (.func fn first cap) w := fun _ _ _ _ => rfl
  by_cases hn : n < 0 ∨ 1000000 < n
  · have HZ := Lib.hid (show rootI n k = -1 from root_no fun q => by omega)
    have HB := Lib.hid (below_then (below_alloc w (.cells #[.int .i64 n] 3)) (below_alloc _ (.cells #[.int .i64 k] 3)))
    by_cases h1 : n < 0
    · clear hn
      go_enter Try.func27, Try.ntmps27
      go_wp2_with fail
      go_ret
      exact ⟨ret_int HZ.out.symm, HB.out⟩
    · have h2 : 1000000 < n := by omega
      clear hn
      go_enter Try.func27, Try.ntmps27
      go_wp2_with fail
      go_ret
      exact ⟨ret_int HZ.out.symm, HB.out⟩
  have n1 : ¬ n < 0 := by omega
  have n2 : ¬ 1000000 < n := by omega
  obtain ⟨N, rfl⟩ := Int.eq_ofNat_of_zero_le (show 0 ≤ n by omega)
  have HNM := Lib.hid (fun W => impl_norm k W)
  by_cases hk : 1 ≤ k ∧ k ≤ 3
  case neg =>
    have HZ := Lib.hid (show rootI (N : Int) k = -1 from root_no fun q => hk q.2.2)
    have HB := Lib.hid (below_then (below_alloc w (.cells #[.int .i64 (N : Int)] 3)) (below_alloc _ (.cells #[.int .i64 k] 3)))
    rw [decide_eq_false hk] at HNM
    clear hn hk
    go_enter Try.func27, Try.ntmps27
    go_wp2_with fail
    refine (HNM.out _).mono ?_
    rintro e w1 ⟨rfl, rfl⟩
    go_wp2_with fail
    go_ret
    exact ⟨ret_int HZ.out.symm, HB.out⟩
  rw [decide_eq_true hk] at HNM
  obtain ⟨K, rfl⟩ := Int.eq_ofNat_of_zero_le (show 0 ≤ k by omega)
  obtain ⟨he, hb⟩ := boxes w (N : Int) K
  have HE := Lib.hid he
  have HB := Lib.hid hb
  have HSR := Lib.hid (fun bn bk W he => impl_search N K (by omega) (by omega) bn bk W he)
  have HZ := Lib.hid (show rootI (N : Int) (K : Int) = (rootN (N : Int) K : Int) from root_yes (by omega))
  have c1 := he.n
  have c2 := he.k
  clear hn hk he hb
  go_enter Try.func27, Try.ntmps27
  go_wp2_with fail
  generalize World.alloc (w.alloc _) _ = W at *
  refine (HNM.out _).mono ?_
  rintro e w1 ⟨rfl, rfl⟩
  go_wp2_with fail
  refine (HSR.out _ _ _ HE.out).mono ?_
  rintro e w2 ⟨rfl, hb2⟩
  have HB2 := Lib.hid (below_then HB.out hb2)
  clear hb2
  go_wp2_with fail
  go_ret
  exact ⟨ret_int HZ.out.symm, HB2.out⟩
end Go.Proofs.Ytklamhnecncenaa.SbImp
