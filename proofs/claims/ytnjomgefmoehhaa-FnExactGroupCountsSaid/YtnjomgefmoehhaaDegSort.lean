/- Degree sequences: strings sorted, and numbers sorted with the greatest first: the library's Sort and SortFunc at this program. -/
import Derived.Test.YtnjomgefmoehhaaDegImp1
import Derived.Test.YtnjomgefmoehhaaDegSpec4
import Derived.Test.YtnjomgefmoehhaaAnsSort
import Derived.Test.YtnjomgefmoehhaaShelf
namespace Go.Proofs.Ytnjomgefmoehhaa.DegImp
open Go Go.RowKit Byt Ints IntsLaw Cd Rows2 Tab TabSpec TabImp Exact DegMath DegSpec
open AnsImp (put_one heap_sort1)

/-- A string by its bytes. -/
def strC : Cd (List UInt8) := Cd.flat (fun k => .string ⟨k.toArray⟩) (fun k => k.length ≤ maxLen) (fun _ => rfl)
def strsC : Cd (List (List UInt8)) := Cd.sl 9 strC
theorem each_str {w : World} {base : Nat} : ∀ {xss : List (List Value)} {l : List (List UInt8)} {fps : List (List Nat)}, Cd.Each strC w base xss l fps → xss.flatten = l.map (fun k => Value.string ⟨k.toArray⟩) ∧ fps.flatten = [] ∧ ∀ k ∈ l, k.length ≤ maxLen
  | [], [], [], _ => ⟨rfl, rfl, fun _ h => by cases h⟩
  | x :: xs, a :: az, f :: fs, h => by
    obtain ⟨h1, h2, h3⟩ := each_str (xss := xs) (l := az) (fps := fs) h.2
    obtain ⟨e1, e2, e3⟩ := h.1
    subst e1 e3
    refine ⟨by rw [List.flatten_cons, h1]; rfl, by rw [List.flatten_cons, h2]; rfl, fun k hk => ?_⟩
    rcases List.mem_cons.1 hk with rfl | q
    · exact e2
    · exact h3 k q
theorem str_each {w : World} {base : Nat} : ∀ {l : List (List UInt8)}, (∀ k ∈ l, k.length ≤ maxLen) → Cd.Each strC w base (l.map fun k => [Value.string ⟨k.toArray⟩]) l (l.map fun _ => [])
  | [], _ => trivial
  | k :: _, h => ⟨⟨rfl, h k List.mem_cons_self, rfl⟩, str_each fun x hx => h x (List.mem_cons_of_mem _ hx)⟩
theorem flat_sing {α : Type} (f : α → Value) : ∀ l : List α, (l.map fun k => [f k]).flatten = l.map f
  | [] => rfl
  | k :: l => by rw [List.map_cons, List.flatten_cons, flat_sing f l]; rfl
theorem flat_nil {α β : Type} : ∀ l : List α, (l.map fun _ => ([] : List β)).flatten = []
  | [] => rfl
  | k :: l => by rw [List.map_cons, List.flatten_cons, flat_nil l]; rfl
/-- What a slice of strings that the call owns is, cell by cell. -/
theorem strs_bare {w : World} {base g n cap : Nat} {l : List (List UInt8)} {fp : List Nat} (h : strsC.ow w base [.slice (some ⟨g, 0, none⟩) n cap] l fp) :
    ∃ cur, w.heap[g]? = some (.cells cur 9 (0, 0)) ∧ cur.size = cap ∧ n = l.length ∧ n ≤ cap ∧ cap ≤ maxLen ∧ base ≤ g ∧ cur.toList.take n = l.map (fun k => Value.string ⟨k.toArray⟩) ∧ fp = [g] ∧ ∀ k ∈ l, k.length ≤ maxLen := by
  obtain ⟨cur, xss, fps, h1, h2, h3, h4, h5, h6, h7, h8, h9⟩ := Cd.ow_bare (c := strC) rfl h
  obtain ⟨e1, e2, e3⟩ := each_str h8
  exact ⟨cur, h1, h2, h3, h4, h5, h6, h7.trans e1, by rw [h9, e2], e3⟩
theorem bare_strs {w : World} {base g n cap : Nat} {l : List (List UInt8)} {cur : Array Value} (hg : w.heap[g]? = some (.cells cur 9 (0, 0))) (hs : cur.size = cap) (hn : n = l.length) (hc : n ≤ cap) (hm : cap ≤ maxLen) (hb : base ≤ g)
    (ht : cur.toList.take n = l.map (fun k => Value.string ⟨k.toArray⟩)) (hl : ∀ k ∈ l, k.length ≤ maxLen) : strsC.ow w base [.slice (some ⟨g, 0, none⟩) n cap] l [g] := by
  have h := Cd.ow_bared (c := strC) rfl hg hs hn hc hm hb (ht.trans (flat_sing _ l).symm) (str_each (w := w) (base := base) hl)
  rw [flat_nil] at h
  exact h
theorem bare_holds {α : Type} [Inhabited α] {w : World} {g : Nat} {cur : Array Value} {e : TypeId} (enc : α → Value) {l : List α} (hg : w.heap[g]? = some (.cells cur e (0, 0))) (ht : cur.toList.take l.length = l.map enc) : Sort.Holds enc w g 0 l.toArray := by
  intro j hj
  have hj' : j < l.length := by simpa using hj
  have h1 : (cur.toList.take l.length)[j]? = some (enc l[j]) := by rw [ht, List.getElem?_map, List.getElem?_eq_getElem hj', Option.map_some]
  rw [List.getElem?_take, if_pos hj', Array.getElem?_toList] at h1
  rw [Nat.zero_add, getElem!_pos _ j hj]
  refine ⟨?_, by simp [World.frozen?, hg]⟩
  simp [World.cell?, hg, h1]

set_option maxRecDepth 100000 in
theorem sort_strs (g cap base : Nat) (l : List (List UInt8)) (fp : List Nat) (w : World) (ho : strsC.ow w base [.slice (some ⟨g, 0, none⟩) l.length cap] l fp) (hl : l.length ≤ 1000000) :
    Calls Try.prog 46 #[.slice (some ⟨g, 0, none⟩) l.length cap] w fun e w' => e = .returned (.tuple #[]) ∧ strsC.ow w' base [.slice (some ⟨g, 0, none⟩) l.length cap] (l.mergeSort fun x y => decide (x ≤ y)) [g] ∧ Cd.Touch [g] w w' := by
  obtain ⟨cur, h1, h2, h3, h4, h5, h6, h7, h8, h9⟩ := strs_bare ho
  have hgw : g < w.heap.size := (Array.getElem?_eq_some_iff.1 h1).1
  have hH : Sort.Holds encStr w g 0 l.toArray := bare_holds (fun k : List UInt8 => Value.string ⟨k.toArray⟩) h1 h7
  have hs := Try.slices_Sort_string g 0 cap l w hH hgw (by omega)
  refine hs.mono ?_
  rintro e w' ⟨rfl, n, os, rfl⟩
  have hsz : (l.mergeSort fun x y => decide (x ≤ y)).toArray.size = l.length := by rw [List.size_toArray, List.length_mergeSort]
  have hg2 := heap_sort1 encStr w g n (l.mergeSort fun x y => decide (x ≤ y)).toArray os hgw h1
  have ht2 := put_one encStr (l.mergeSort fun x y => decide (x ≤ y)).toArray cur (by rw [hsz, h2]; exact h4)
  rw [hsz] at ht2
  refine ⟨rfl, bare_strs hg2 (by unfold Sort.putCells; rw [Array.size_mapIdx]; exact h2) (by rw [List.length_mergeSort]) h4 h5 h6 ht2 (fun k hk => h9 k (List.mem_mergeSort.1 hk)), touch_sort _ _ _ _ _ _⟩

theorem cmp_down (x y : Int) (w : World) : Calls Try.prog 42 #[.int .i64 x, .int .i64 y] w fun e w' => e = .returned (.int .i64 (Lib.compareInt y x)) ∧ w = w' := by
  have HC := Lib.hid (Try.cmp_Compare_int y x)
  generalize Lib.compareInt y x = z at *
  go_enter Try.func42, Try.ntmps42
  go_wp2_with fail
  refine (HC.out _).mono ?_
  rintro e w1 ⟨rfl, rfl⟩
  go_wp2_with fail
  go_ret
  exact ⟨rfl, rfl⟩
def cfD (x y : Int) : Int := Lib.compareInt y x
theorem ltOf_down (x y : Int) : ltOf cfD x y = decide (y < x) := by
  unfold ltOf cfD Lib.compareInt
  by_cases h : y < x
  · rw [if_pos h, decide_eq_true h]; rfl
  · rw [if_neg h, decide_eq_false h]
    split <;> rfl
theorem swoD : Sort.SWO (ltOf cfD) where
  irrefl x := by rw [ltOf_down]; exact decide_eq_false (by omega)
  trans x y z h1 h2 := by rw [ltOf_down] at *; exact decide_eq_true (by have := of_decide_eq_true h1; have := of_decide_eq_true h2; omega)
  ntrans x y z h1 h2 := by rw [ltOf_down] at *; exact decide_eq_false (by have := of_decide_eq_false h1; have := of_decide_eq_false h2; omega)
theorem row_bare {w : World} {base g n cap : Nat} {l : List Int} {fp : List Nat} (h : rowC.ow w base [.slice (some ⟨g, 0, none⟩) n cap] l fp) :
    ∃ cur, w.heap[g]? = some (.cells cur 3 (0, 0)) ∧ cur.size = cap ∧ n = l.length ∧ n ≤ cap ∧ cap ≤ maxLen ∧ base ≤ g ∧ cur.toList.take n = l.map (fun x => Value.int .i64 x) ∧ fp = [g] ∧ InR l := by
  obtain ⟨hown, hin, hfp⟩ := row_own h
  rcases hown.2 with ⟨h', _⟩ | ⟨g', cap', cur, h', hbg, hg, hnc, hcm, hcs, htake⟩
  · cases h'
  simp only [Value.slice.injEq, Option.some.injEq, Addr.mk.injEq, and_true] at h'
  obtain ⟨rfl, rfl, rfl⟩ := h'
  refine ⟨cur, hg, by rw [hcs, Nat.mul_one], rfl, hnc, hcm, hbg, ?_, by rw [hfp]; rfl, hin⟩
  rw [Nat.mul_one] at htake
  exact htake
theorem bare_row {w : World} {base g n cap : Nat} {l : List Int} {cur : Array Value} (hg : w.heap[g]? = some (.cells cur 3 (0, 0))) (hs : cur.size = cap) (hn : n = l.length) (hc : n ≤ cap) (hm : cap ≤ maxLen) (hb : base ≤ g)
    (ht : cur.toList.take n = l.map (fun x => Value.int .i64 x)) (hl : InR l) : rowC.ow w base [.slice (some ⟨g, 0, none⟩) n cap] l [g] := by
  subst hn
  exact Cd.ow_of_own (v := .slice (some ⟨g, 0, none⟩) l.length cap) (l := l) ⟨by simp, .inr ⟨g, cap, cur, rfl, hb, hg, hc, hm, by rw [Nat.mul_one]; exact hs, by rw [Nat.mul_one]; exact ht⟩⟩ hl
set_option maxRecDepth 100000 in
theorem sort_down (g cap base : Nat) (l : List Int) (fp : List Nat) (w : World) (ho : rowC.ow w base [.slice (some ⟨g, 0, none⟩) l.length cap] l fp) (hl : l.length ≤ 1000000) :
    Calls Try.prog 41 #[.slice (some ⟨g, 0, none⟩) l.length cap, .func (.func 42) #[] #[]] w fun e w' => e = .returned (.tuple #[]) ∧ rowC.ow w' base [.slice (some ⟨g, 0, none⟩) l.length cap] (downL l) [g] ∧ Cd.Touch [g] w w' := by
  obtain ⟨cur, h1, h2, h3, h4, h5, h6, h7, h8, h9⟩ := row_bare ho
  have hgw : g < w.heap.size := (Array.getElem?_eq_some_iff.1 h1).1
  have hH : Sort.Holds (fun x => Value.int .i64 x) w g 0 l.toArray := bare_holds _ h1 h7
  have hcmp : CmpReads Try.prog 42 #[] (fun x => Value.int .i64 x) cfD g 0 l.toArray.size w := fun m os dk _ x y =>
    (cmp_down x y _).mono fun _ _ h => ⟨h.1, 0, h.2.symm⟩
  have hs := Try.slices_SortFunc (fun x : Int => Value.int .i64 x) (fun _ => rfl) cfD swoD 42 #[] g 0 cap l.toArray w (enters_of Try.func42 (by kernel_rfl) rfl) hcmp.lays hH hgw (by rw [List.size_toArray]; omega)
  rw [List.size_toArray] at hs
  refine hs.mono ?_
  rintro e w' ⟨rfl, d', m, os, hP, hS, rfl⟩
  obtain ⟨hp1, _, hp3⟩ := hP
  have hd' : d'.size = l.length := by rw [hp1, List.size_toArray]
  have hp : d'.toList.Perm l := by
    have e1 : d'.extract 0 l.length = d' := by rw [← hd', Array.extract_size]
    have e2 : l.toArray.extract 0 l.length = l.toArray := by rw [show l.length = l.toArray.size from rfl, Array.extract_size]
    rw [e1, e2] at hp3
    exact hp3
  have hdesc : Desc d'.toList := by
    unfold Desc
    rw [List.pairwise_iff_getElem]
    intro i j hi hj hij
    rw [Array.length_toList] at hi hj
    have h := hS i j (Nat.zero_le _) hij (by rw [← hd']; exact hj)
    rw [ltOf_down, getElem!_pos d' j hj, getElem!_pos d' i hi] at h
    have := of_decide_eq_false h
    rw [Array.getElem_toList, Array.getElem_toList]
    omega
  have e : downL l = d'.toList := (down_one hp hdesc).symm
  have hg2 := heap_sort1 (fun x : Int => Value.int .i64 x) w g m d' os hgw h1
  have ht2 := put_one (fun x : Int => Value.int .i64 x) d' cur (by rw [hd', h2]; exact h4)
  rw [hd'] at ht2
  refine ⟨rfl, ?_, touch_sort _ _ _ _ _ _⟩
  rw [e]
  exact bare_row hg2 (by unfold Sort.putCells; rw [Array.size_mapIdx]; exact h2) (by rw [Array.length_toList]; exact hd'.symm) h4 h5 h6 ht2 (fun x hx => h9 x (hp.mem_iff.1 hx))
set_option maxRecDepth 100000 in
set_option maxHeartbeats 1600000 in
theorem sort_nil (w : World) : Calls Try.prog 41 #[.slice none 0 0, .func (.func 42) #[] #[]] w fun e w' => e = .returned (.tuple #[]) ∧ w = w' := by
  have h1 : ∀ w : World, Calls Try.prog 80 #[.slice none 0 0, .int .i64 0, .int .i64 0, .func (.func 42) #[] #[]] w fun e w' => e = .returned (.tuple #[]) ∧ w = w' := fun w => by
    go_enter Try.func80, Try.ntmps80
    go_wp2
    refine wp_loop_rounds 1 ?_
    rw [rounds_succ]
    go_wp2
    exact bodyPost_end (v := .tuple #[]) (by simp [results, Try.results80, go_sem]) rfl ⟨rfl, rfl⟩
  have H1 := Lib.hid h1
  have h2 : ∀ (lim : Int) (w : World), Calls Try.prog 64 #[.slice none 0 0, .int .i64 0, .int .i64 0, .int .i64 lim, .func (.func 42) #[] #[]] w fun e w' => e = .returned (.tuple #[]) ∧ w = w' := fun lim w => by
    clear h1
    go_enter Try.func64, Try.ntmps64
    go_wp2
    refine wp_loop_rounds 1 ?_
    rw [rounds_succ]
    go_wp2_with (go_at_call 80; refine (H1.out _).mono ?_; rintro e w' ⟨rfl, rfl⟩)
    (try simp only [Exit.inBlock, Exit.then])
    exact bodyPost_ret (v := .tuple #[]) (by simp [results, Try.results64, go_sem]) rfl ⟨rfl, rfl⟩
  have H2 := Lib.hid h2
  clear h1 h2
  go_enter Try.func41, Try.ntmps41
  go_wp2_with (first | (go_at_call 65; refine (Try.bits_Len 0 _ (by decide) (by decide)).mono ?_; rintro e w' ⟨rfl, rfl⟩) | (go_at_call 64; refine (H2.out _ _).mono ?_; rintro e w' ⟨rfl, rfl⟩))
  exact bodyPost_end (v := .tuple #[]) (by simp [results, Try.results41, go_sem]) rfl ⟨rfl, rfl⟩
end Go.Proofs.Ytnjomgefmoehhaa.DegImp
