/- Texts that the proof rests on, one behind the other. -/
import Derived.Test.YtklamhnecncenaaMg1QueryGraph
import Derived.Test.YtklamhnecncenaaQrySpec2
import Derived.Test.YtklamhnecncenaaQryMath

namespace Go.Proofs.Ytklamhnecncenaa.RegE
open Go
open RegH (nth nth_eq)

variable {P : Program} {Q : Exit → Act → World → Prop} {md : Region.Mode} {S : World → Prop}
/-- Whatever order is picked from here on; behind each operation S holds, or number k has come up. -/
def wpAnyE (P : Program) (md : Region.Mode) (ops : Array Oper) (Q : Exit → Act → World → Prop) (S : World → Prop) (k : Nat) : Nat → Array Bool → Act → World → Prop
  | 0, listed, a, w => Region.ready md ops listed = [] ∧ Q .normal a w
  | fuel + 1, listed, a, w =>
    (Region.ready md ops listed = [] → Q .normal a w) ∧
    ∀ i ∈ Region.ready md ops listed, wpOp P ops Q i (fun a' w' => ((listed.setIfInBounds i true).getD k true = true ∨ S w') ∧ wpAnyE P md ops Q S k fuel (listed.setIfInBounds i true) a' w') a w
theorem wpAny_of_e {ops : Array Oper} {k : Nat} : ∀ (fuel : Nat) (listed : Array Bool) (a : Act) (w : World), wpAnyE P md ops Q S k fuel listed a w → wpAny P md ops Q fuel listed a w
  | 0, _, _, _, h => h
  | fuel + 1, _, _, _, h => ⟨h.1, fun i hi => wpOp_mono (fun a' w' h' => wpAny_of_e fuel _ a' w' h'.2) (h.2 i hi)⟩
/-- Number k waits for number i. -/
def waits (md : Region.Mode) (ops : Array Oper) (k i : Nat) : Bool :=
  match ops[k]? with
  | some o => o.after.any fun e => Region.binds md e && e.on == i
  | none => false
theorem getD_set {l : Array Bool} {i k : Nat} (h : k ≠ i) : (l.setIfInBounds i true).getD k true = l.getD k true := by
  simp only [Array.getD_eq_getD_getElem?]
  rw [Array.getElem?_setIfInBounds_ne (Ne.symm h)]
theorem first_e {ops : Array Oper} {k i : Nat} {oi : Oper} {v : Value} (hi : ops[i]? = some oi) (hsel : ∀ (j : Nat) (o : Oper) cs b, ops[j]? = some o → o.op ≠ .select cs b)
    (hQ : ∀ c a w, Q (.panic c) (a.put oi.dst v) w → Q (.panic c) a w) (hki : waits md ops k i = true) (hne : k ≠ i) :
    ∀ (fuel : Nat) (listed : Array Bool) (a : Act) (w : World),
      (∀ j oj, ops[j]? = some oj → j ≠ i → listed.getD j true = false → (∀ e ∈ oj.after, Region.binds md e = true → e.on ≠ i) → oi.apart ops oj = true) →
      i ∈ Region.ready md ops listed → YieldsIf P ops S oi v a → S w → listed.getD k true = false →
      wpAnyE P md ops Q S k fuel (listed.setIfInBounds i true) (a.put oi.dst v) w → wpAnyE P md ops Q S k (fuel + 1) listed a w := by
  intro fuel
  induction fuel with
  | zero =>
    intro listed a w _ hr hy hS hk H
    refine ⟨fun h => (by rw [h] at hr; cases hr), fun j hj => ?_⟩
    by_cases hji : j = i
    · subst hji; exact hy.wpOp hi hS ⟨.inr hS, H⟩
    · have := ready_mono hj hji
      rw [H.1] at this
      cases this
  | succ fuel ih =>
    intro listed a w hfree hr hy hS hk H
    refine ⟨fun h => (by rw [h] at hr; cases hr), fun j hj => ?_⟩
    by_cases hji : j = i
    · subst hji; exact hy.wpOp hi hS ⟨.inr hS, H⟩
    · have h1 := H.2 j (ready_mono hj hji)
      obtain ⟨hjun, oj, hoj, hall⟩ := mem_ready.1 hj
      have hnot : ∀ e ∈ oj.after, Region.binds md e = true → e.on ≠ i := fun e he hb heq => by
        have h1 := hall e he hb
        have h0 := (mem_ready.1 hr).1
        rw [heq] at h1
        rcases Nat.lt_or_ge i listed.size with h' | h'
        · simp [h'] at h0 h1; rw [h0] at h1; cases h1
        · simp [Array.getElem?_eq_none h'] at h1
      have hjk : k ≠ j := fun q => by
        subst q
        unfold waits at hki
        rw [hoj] at hki
        obtain ⟨e, he, hbe⟩ := Array.any_eq_true'.1 hki
        rw [Bool.and_eq_true, beq_iff_eq] at hbe
        exact hnot e he hbe.1 hbe.2
      have h2 := wpOp_putIf hoj (hfree j oj hoj hji hjun hnot) (fun cs b => hsel i oi cs b hi) (fun cs b => hsel j oj cs b hoj) hQ hy h1
      have hfree' : ∀ k ok, ops[k]? = some ok → k ≠ i → (listed.setIfInBounds j true).getD k true = false →
          (∀ e ∈ ok.after, Region.binds md e = true → e.on ≠ i) → oi.apart ops ok = true := fun k ok hk hki hun hno => by
        refine hfree k ok hk hki ?_ hno
        by_cases hjk : j = k
        · subst hjk; exact hjun
        · rwa [getD_set (fun q => hjk q.symm)] at hun
      have hk' : (listed.setIfInBounds j true).getD k true = false := by rw [getD_set hjk]; exact hk
      refine wpOp_mono (fun a' w' h3 => ?_) h2
      have hSw : S w' := by
        rcases h3.2.1 with q | q
        · rw [getD_set hjk, getD_set hne, hk] at q
          cases q
        · exact q
      refine ⟨.inr hSw, ih (listed.setIfInBounds j true) a' w' hfree' (ready_mono hr (Ne.symm hji)) h3.1 hSw hk' ?_⟩
      rw [Array.setIfInBounds_comm _ _ hji]
      exact h3.2.2
variable {L : List Oper}
theorem takeE {k i : Nat} {oi : Oper} {v : Value} {fuel : Nat} {listed : Array Bool} {a : Act} {w : World} (hi : nth L i = some oi)
    (hs : Region.noSelect L.toArray = true) (hf : Region.free md L.toArray listed i = true) (hr : (Region.ready md L.toArray listed).contains i = true)
    (hQ : ∀ c a w, Q (.panic c) (a.put oi.dst v) w → Q (.panic c) a w) (hki : (waits md L.toArray k i && (decide (k ≠ i) && !listed.getD k true)) = true) (hy : YieldsIf P L.toArray S oi v a) (hS : S w)
    (h : wpAnyE P md L.toArray Q S k fuel (listed.setIfInBounds i true) (a.put oi.dst v) w) : wpAnyE P md L.toArray Q S k (fuel + 1) listed a w := by
  rw [Bool.and_eq_true, Bool.and_eq_true, decide_eq_true_eq, Bool.not_eq_true'] at hki
  exact first_e ((nth_eq L i).symm.trans hi) (Region.noSelect_spec hs) hQ hki.1 hki.2.1 fuel listed a w (Region.free_spec ((nth_eq L i).symm.trans hi) hf) (by simpa using hr) hy hS hki.2.2 h
def AllE (P : Program) (md : Region.Mode) (ops : Array Oper) (Q : Exit → Act → World → Prop) (S : World → Prop) (k fuel : Nat) (listed : Array Bool) (a : Act) (w : World) (rs : List Nat) : Prop :=
  ∀ i ∈ rs, wpOp P ops Q i (fun a' w' => ((listed.setIfInBounds i true).getD k true = true ∨ S w') ∧ wpAnyE P md ops Q S k fuel (listed.setIfInBounds i true) a' w') a w
theorem AllE.nil {ops : Array Oper} {k fuel : Nat} {listed : Array Bool} {a : Act} {w : World} : AllE P md ops Q S k fuel listed a w [] := fun _ h => by cases h
theorem AllE.cons {k fuel : Nat} {listed : Array Bool} {a : Act} {w : World} {i : Nat} {o : Oper} {rs : List Nat} (ho : nth L i = some o)
    (h : ∀ K' : Act → World → Prop, Shut (∀ a w, ((listed.setIfInBounds i true).getD k true = true ∨ S w) → wpAnyE P md L.toArray Q S k fuel (listed.setIfInBounds i true) a w → K' a w) → if Region.wanted o (yielded L.toArray a.tmps) = true then Oper.wp P o a w K' Q else K' (a.put o.dst undef) w)
    (hs : AllE P md L.toArray Q S k fuel listed a w rs) : AllE P md L.toArray Q S k fuel listed a w (i :: rs) := fun j hj => by
  rcases List.mem_cons.1 hj with rfl | hj
  · exact wpOp_step ((nth_eq L _).symm.trans ho) (fun K' hK => h K' (fun a w hS hW => hK a w ⟨hS, hW⟩))
  · exact hs j hj
theorem readyE {ops : Array Oper} {k : Nat} {rs : List Nat} {fuel : Nat} {listed : Array Bool} {a : Act} {w : World} (hr : Region.ready md ops listed = rs) (hne : rs ≠ [])
    (h : AllE P md ops Q S k fuel listed a w rs) : wpAnyE P md ops Q S k (fuel + 1) listed a w := ⟨fun h0 => absurd (hr ▸ h0) hne, hr ▸ h⟩
theorem doneE {ops : Array Oper} {k : Nat} {listed : Array Bool} {a : Act} {w : World} (hr : Region.ready md ops listed = []) (h : Q .normal a w) : ∀ fuel, wpAnyE P md ops Q S k fuel listed a w
  | 0 => ⟨hr, h⟩
  | _ + 1 => ⟨fun _ => h, by rw [hr]; simp⟩
theorem startE {id : Nat} {a : Act} {w : World} (k : Nat) (S : World → Prop) (hm : P.follows .mixedOrders = true) (hS : S w.drew)
    (h : S w.drew → wpAnyE P .any L.toArray Q S k L.toArray.size (Array.replicate L.toArray.size false) a w.drew) : (Code.region id L.toArray true).wp P Q a w :=
  wp_region_any hm (wpAny_of_e _ _ _ _ (h hS))
/-- One comes up. -/
theorem consE {k fuel : Nat} {listed : Array Bool} {a : Act} {w : World} {i : Nat} {o : Oper} (ho : nth L i = some o) (hr : Region.ready md L.toArray listed = [i])
    (h : ∀ K' : Act → World → Prop, Shut (∀ a w, ((listed.setIfInBounds i true).getD k true = true ∨ S w) → wpAnyE P md L.toArray Q S k fuel (listed.setIfInBounds i true) a w → K' a w) → if Region.wanted o (yielded L.toArray a.tmps) = true then Oper.wp P o a w K' Q else K' (a.put o.dst undef) w) :
    wpAnyE P md L.toArray Q S k (fuel + 1) listed a w := readyE hr (by simp) (AllE.cons ho h AllE.nil)
/-- One of two. -/
theorem consE2 {k fuel : Nat} {listed : Array Bool} {a : Act} {w : World} {i j : Nat} {o o2 : Oper} (ho : nth L i = some o) (ho2 : nth L j = some o2) (hr : Region.ready md L.toArray listed = [i, j])
    (h : ∀ K' : Act → World → Prop, Shut (∀ a w, ((listed.setIfInBounds i true).getD k true = true ∨ S w) → wpAnyE P md L.toArray Q S k fuel (listed.setIfInBounds i true) a w → K' a w) → if Region.wanted o (yielded L.toArray a.tmps) = true then Oper.wp P o a w K' Q else K' (a.put o.dst undef) w)
    (h2 : ∀ K' : Act → World → Prop, Shut (∀ a w, ((listed.setIfInBounds j true).getD k true = true ∨ S w) → wpAnyE P md L.toArray Q S k fuel (listed.setIfInBounds j true) a w → K' a w) → if Region.wanted o2 (yielded L.toArray a.tmps) = true then Oper.wp P o2 a w K' Q else K' (a.put o2.dst undef) w) :
    wpAnyE P md L.toArray Q S k (fuel + 1) listed a w := readyE hr (by simp) (AllE.cons ho h (AllE.cons ho2 h2 AllE.nil))
end Go.Proofs.Ytklamhnecncenaa.RegE

namespace Go.Proofs.Ytklamhnecncenaa.QryDraw
open Go Go.RowKit Byt Ints IntsLaw Cd Rows2 Tab TabSpec Exact Atom QryMath QrySpec QryImp MkAtom SlMath Draw QryPar
open TabParse (strC strsC info_str)

/-- What a drawn query's atoms are. -/
def OkQ (L : List A2) : Prop := 1 ≤ L.length ∧ L.length ≤ 5 ∧ ∀ A ∈ L, A.1.size ≤ 1 ∧ A.2.length ≤ 3
theorem okq_of {n : Int} {L : List A2} (h : QP n L) : OkQ L := ⟨h.2.2.1, by have := h.2.2.2.1; omega, fun A hA => ⟨by
  have h1 := of_decide_eq_true (h.2.2.2.2.1 A hA).1
  omega, (h.2.2.2.2.1 A hA).2.2.1⟩⟩
/-- What stays while l7Any draws: the local query at X. -/
structure QS (w : World) (c : Nat) (v : Value) (l : List UInt8) (B X : Nat) (n : Int) (u : Value) (L : List A2) (fp : List Nat) (wx : World) : Prop where
  lx : Loc2 wx X (.int .i64 n) u
  lr : ∃ a b, Loc2 wx w.heap.size a b
  ow : atomsC.ow wx (w.heap.size + 1) [u] L fp
  nd : fp.Nodup
  xf : X ∉ fp
  cu : CR wx c v l B
  cb : c < w.heap.size
  bb : B ≤ c
  xb : w.heap.size < X
  tc : Cd.Touch [c] w wx
section
variable {w : World} {c : Nat} {v : Value} {l : List UInt8} {B X : Nat} {n : Int} {u : Value} {L : List A2} {fp : List Nat} {W W' : World}
theorem QS.later (h : QS w c v l B X n u L fp W) (hb : Below W.heap.size W W') : QS w c v l B X n u L fp W' := by
  obtain ⟨a, b, hr⟩ := h.lr
  exact ⟨h.lx.later hb, ⟨a, b, hr.later hb⟩, Cd.ow_later h.ow hb, h.nd, h.xf, h.cu.later hb, h.cb, h.bb, h.xb, h.tc.trans (Cd.Touch.of_below hb)⟩
theorem QS.drew (h : QS w c v l B X n u L fp W) : QS w c v l B X n u L fp W.drew := h.later ⟨rfl, rfl, rfl, Nat.le_refl _, fun _ _ => rfl⟩
theorem QS.alloc (h : QS w c v l B X n u L fp W) (o : Obj) : QS w c v l B X n u L fp (W.alloc o) := h.later (below_alloc W o)
theorem QS.grown (h : QS w c v l B X n u L fp W) (ht : Cd.Touch [c] W W') (hc : CR W' c v l B) : QS w c v l B X n u L fp W' := by
  obtain ⟨a, b, hr⟩ := h.lr
  have h1 := h.cb
  have h2 := h.xb
  exact ⟨h.lx.touched ht (by simp; omega), ⟨a, b, hr.touched ht (by simp; omega)⟩, Cd.ow_touched h.ow ht (fun b hb q => by rw [List.mem_singleton.1 q] at hb; have := (atomsC.ow_lt h.ow _ hb).1; omega), h.nd, h.xf, hc, h.cb, h.bb, h.xb, h.tc.trans ht⟩
/-- The local query is changed: what its cells hold behind it, and its atoms. -/
theorem QS.become {n' : Int} {u' : Value} {L' : List A2} {fp' fq : List Nat} (h : QS w c v l B X n u L fp W) (ht : Cd.Touch fq W W') (hx : Loc2 W' X (.int .i64 n') u') (ho : atomsC.ow W' (w.heap.size + 1) [u'] L' fp') (hn : fp'.Nodup) (hxf : X ∉ fp') (hf : ∀ b ∈ fq, w.heap.size < b) : QS w c v l B X n' u' L' fp' W' := by
  obtain ⟨a, b, hr⟩ := h.lr
  have h1 := h.cb
  refine ⟨hx, ⟨a, b, hr.touched ht (fun q => by have := hf _ q; omega)⟩, ho, hn, hxf, h.cu.keep ht (fun q => by have := hf _ q; omega) (fun b hb => by have := hf _ hb; have := h.bb; omega), h.cb, h.bb, h.xb, touch_old h.tc ht (fun y hy => .inr (by have := hf _ hy; omega))⟩
end

theorem okq_set {L : List A2} {A : A2} (h : OkQ L) (hA : A.1.size ≤ 1 ∧ A.2.length ≤ 3) : OkQ (L.set 0 A) := by
  refine ⟨by rw [List.length_set]; exact h.1, by rw [List.length_set]; exact h.2.1, fun U hU => ?_⟩
  rcases List.mem_or_eq_of_mem_set hU with q | q
  · exact h.2.2 U q
  · rw [q]; exact hA
theorem okq_app {L : List A2} {A : A2} (h : OkQ L) (h4 : L.length ≤ 4) (hA : A.1.size ≤ 1 ∧ A.2.length ≤ 3) : OkQ (L ++ [A]) := by
  refine ⟨by rw [List.length_append]; have := h.1; omega, by rw [List.length_append]; simp only [List.length_cons, List.length_nil]; omega, fun U hU => ?_⟩
  rcases List.mem_append.1 hU with q | q
  · exact h.2.2 U q
  · rw [List.mem_singleton.1 q]; exact hA
/-- The first atom of the local query: its cells, and what a store into it leaves. -/
theorem QS.first {w : World} {c : Nat} {v : Value} {l : List UInt8} {B X : Nat} {n : Int} {a : Option Addr} {cap : Nat} {L : List A2} {fp : List Nat} {W : World} (h : QS w c v l B X n (.slice a L.length cap) L fp W) (hl : 0 < L.length) (hr : 0 < L[0].2.length) :
    ∃ g g2 k2, a = some ⟨g, 0, none⟩ ∧ W.cell? ⟨g, 0, none⟩ = some (.string L[0].1) ∧ W.cell? ⟨g, 1, none⟩ = some (.slice (some ⟨g2, 0, none⟩) L[0].2.length k2) ∧ W.frozen? ⟨g, 1, none⟩ = false ∧ g ≠ X ∧ g2 ≠ X ∧ g < W.heap.size ∧ g2 < W.heap.size ∧ w.heap.size < g ∧ w.heap.size < g2 ∧ g ≠ g2 ∧
      (∃ x, W.cell? ⟨g2, 0, none⟩ = some (.int .i64 x)) ∧ W.frozen? ⟨g2, 0, none⟩ = false ∧
      (∃ fp', QS w c v l B X n (.slice a L.length cap) (L.set 0 (L[0].1, [])) fp' (W.setCell ⟨g, 1, none⟩ (.slice none 0 0))) ∧
      ∀ y : Int, -9223372036854775808 ≤ y ∧ y ≤ 9223372036854775807 → ∃ fp', QS w c v l B X n (.slice a L.length cap) (L.set 0 (L[0].1, L[0].2.set 0 y)) fp' (W.setCell ⟨g2, 0, none⟩ (.int .i64 y)) := by
  obtain ⟨g, k, e, hg1, hg2, hg3⟩ := Cd.ow_form h.ow hl
  injection e with e1 e2 e3
  subst e1 e3
  obtain ⟨us, f, hl0, hat, hu, hsub, hnd, hcl⟩ := Cd.ow_elem h.ow hl
  obtain ⟨b0, k0, rfl⟩ := shape_ow hu
  have hrow := row_of_atom hu
  obtain ⟨g2, k2, e, hh1, hh2, hh3⟩ := Cd.ow_form hrow hr
  injection e with e1 e2 e3
  subst e1 e3
  have q0 := hat 0 (by simp)
  have q1 := hat 1 (by simp)
  simp only [List.getElem_cons_zero, List.getElem_cons_succ, Nat.add_zero, Nat.zero_mul, Nat.zero_add] at q0 q1
  have hnX : g ≠ X := fun q => h.xf (q ▸ hg3)
  have hnX2 : g2 ≠ X := fun q => h.xf (q ▸ hsub _ hh3)
  have hgg : g ≠ g2 := fun q => (hnd h.nd).2 (q ▸ hh3)
  have hnm : L[0].1.size ≤ maxLen := by
    obtain ⟨u, e, hs, _⟩ := atom_cells (atomC.ow_rd hu)
    exact hs
  obtain ⟨us2, f2, hl2, hat2, hu2, _, _, hcl2⟩ := Cd.ow_elem hrow hr
  have hl2' : us2.length = 1 := hl2
  match us2, hl2' with
  | [x0], _ =>
  have p0 := hat2 0 (by simp)
  simp only [List.getElem_cons_zero, Nat.add_zero, Nat.zero_mul] at p0
  obtain ⟨ex, _, ef⟩ : [x0] = [Value.int .i64 L[0].2[0]] ∧ _ ∧ f2 = [] := hu2
  injection ex with ex _
  subst ex ef
  refine ⟨g, g2, k0, rfl, q0, q1, Cd.ow_frozen h.ow 1, hnX, hnX2, hg2, hh2, by omega, by omega, hgg, ⟨_, p0⟩, Cd.ow_frozen hrow 0, ?_, fun y hy => ?_⟩
  · obtain ⟨fp', h1, h2, h3, _⟩ := hcl (W.setCell ⟨g, 1, none⟩ (.slice none 0 0)) [none, some (.slice none 0 0)] (L[0].1, []) [] rfl (atom_ow (Cd.ow_nil _ _) hnm) (by rw [Nat.zero_mul]; rfl) (fun b _ _ hne => Below.heap_setCell _ _ _ b (by simpa using hne)) h.nd (by simp) (by simp)
    exact ⟨fp', h.become (touch_set (X := g) (o := 1) _) (h.lx.set_far hnX _) h1 h2 (fun q => (h3 _ q).elim h.xf (by simp)) (fun b hb => by rw [List.mem_singleton.1 hb]; omega)⟩
  · obtain ⟨fr, h1, h2, h3, _⟩ := hcl2 (W.setCell ⟨g2, 0, none⟩ (.int .i64 y)) [some (.int .i64 y)] y [] rfl ⟨rfl, hy, rfl⟩ (by rw [Nat.zero_mul]; rfl) (fun b _ _ hne => Below.heap_setCell _ _ _ b (by simpa using hne)) (hnd h.nd).1 (by simp) (by simp)
    obtain ⟨fp', m1, m2, m3, _⟩ := hcl (W.setCell ⟨g2, 0, none⟩ (.int .i64 y)) [none, none] (L[0].1, L[0].2.set 0 y) fr rfl (by
      have := atom_ow (nm := L[0].1) h1 hnm
      exact this) (Below.heap_setCell _ _ _ g (by simpa using hgg)) (fun b _ hb _ => Below.heap_setCell _ _ _ b (fun q => hb (by rw [q]; exact hh3))) h.nd h2 (fun b hb => (h3 b hb).elim .inl (by simp))
    exact ⟨fp', h.become (touch_set (X := g2) (o := 0) _) (h.lx.set_far hnX2 _) m1 m2 (fun q => by
      rcases m3 _ q with r | r
      · exact h.xf r
      · rcases h3 _ r with r | r
        · exact h.xf (hsub _ r)
        · cases r) (fun b hb => by rw [List.mem_singleton.1 hb]; omega)⟩
/-- A query as l7Any draws it. -/
def QDrawn (c : Nat) (v : Value) (l : List UInt8) (B : Nat) (w : World) (e : Ending) (w' : World) : Prop :=
  ∃ n u L fp, e = .returned (.agg #[.int .i64 n, u]) ∧ atomsC.ow w' w.heap.size [u] L fp ∧ fp.Nodup ∧ (-9223372036854775808 ≤ n ∧ n ≤ 9223372036854775807) ∧ OkQ L ∧ CR w' c v l B ∧ Cd.Touch [c] w w'
/-- The result's cells are stored. -/
theorem QS.fin {w : World} {c : Nat} {v : Value} {l : List UInt8} {B X : Nat} {n : Int} {u : Value} {L : List A2} {fp : List Nat} {W : World} (h : QS w c v l B X n u L fp W) (hn : -9223372036854775808 ≤ n ∧ n ≤ 9223372036854775807) (hl : OkQ L) :
    ((W.setCell ⟨w.heap.size, 0, none⟩ (.int .i64 n)).setCell ⟨w.heap.size, 1, none⟩ u).cell? ⟨w.heap.size, 0, none⟩ = some (.int .i64 n) ∧ ((W.setCell ⟨w.heap.size, 0, none⟩ (.int .i64 n)).setCell ⟨w.heap.size, 1, none⟩ u).cell? ⟨w.heap.size, 1, none⟩ = some u ∧
      QDrawn c v l B w (.returned (.agg #[.int .i64 n, u])) ((W.setCell ⟨w.heap.size, 0, none⟩ (.int .i64 n)).setCell ⟨w.heap.size, 1, none⟩ u) := by
  obtain ⟨a, b, hr⟩ := h.lr
  obtain ⟨k0, k1⟩ := set2 (w := W) (k := w.heap.size) (x := .int .i64 n) (y := u) hr.c0 hr.c1
  have hfar : w.heap.size ∉ fp := fun q => by have := (atomsC.ow_lt h.ow _ q).1; omega
  have hcb := h.cb
  have hbb := h.bb
  refine ⟨k0, k1, n, u, L, fp, rfl, ow_setCell (ow_setCell (atomsC.ow_base h.ow (by omega)) hfar _) hfar _, h.nd, hn, hl, ?_, ?_⟩
  · exact (h.cu.keep (touch_set _) (by simp; omega) (fun b hb => by rw [List.mem_singleton.1 hb]; omega)).keep (touch_set _) (by simp; omega) (fun b hb => by rw [List.mem_singleton.1 hb]; omega)
  · exact touch_old (touch_old h.tc (touch_set _) (fun y hy => .inr (by rw [List.mem_singleton.1 hy]; exact Nat.le_refl _))) (touch_set _) (fun y hy => .inr (by rw [List.mem_singleton.1 hy]; exact Nat.le_refl _))
/-- The strings that a drawn atom's name is picked from. -/
def ss3 : List ByteArray := [⟨#[]⟩, ⟨#[119]⟩, ⟨#[114]⟩]
theorem ss3_ok : ∀ s ∈ ss3, s.size ≤ 1 := by decide
/-- A row [0] has been written out, at bi. -/
structure QL (w : World) (c : Nat) (v : Value) (l : List UInt8) (B X : Nat) (n : Int) (u : Value) (L : List A2) (fp : List Nat) (bi : Nat) (W : World) : Prop where
  qs : QS w c v l B X n u L fp W
  row : rowC.ow W (w.heap.size + 1) [.slice (some ⟨bi, 0, none⟩) 1 1] [0] [bi]
  far : bi ∉ fp
  xb : bi ≠ X
  lt : X < W.heap.size
section
variable {w : World} {c : Nat} {v : Value} {l : List UInt8} {B X : Nat} {n : Int} {u : Value} {L : List A2} {fp : List Nat} {W W' : World} {bi : Nat}
theorem QS.base (h : QS w c v l B X n u L fp W) : w.heap.size + 1 ≤ W.heap.size := by have := h.xb; have := h.lx.lt; omega
theorem QS.lit0 (h : QS w c v l B X n u L fp W) : QL w c v l B X n u L fp W.heap.size (W.alloc (.cells #[.int .i64 0] 3)) := by
  have ho : OwnI (W.alloc (.cells #[.int .i64 0] 3)) (w.heap.size + 1) 3 (.slice (some ⟨W.heap.size, 0, none⟩) 1 1) [0] :=
    World.ownsRow_lit (base := w.heap.size + 1) (e := 3) (size := 1) W #[.int .i64 0] 1 h.base (by unfold maxLen; omega) (by simp)
  exact ⟨h.alloc _, Cd.ow_of_own (e := 3) ho (by intro x hx; simp at hx; omega), fun q => by have := (atomsC.ow_lt h.ow _ q).2; omega, by have := h.lx.lt; omega, (h.alloc (.cells #[.int .i64 0] 3)).lx.lt⟩
theorem QL.later (h : QL w c v l B X n u L fp bi W) (hb : Below W.heap.size W W') : QL w c v l B X n u L fp bi W' := ⟨h.qs.later hb, Cd.ow_later h.row hb, h.far, h.xb, Nat.lt_of_lt_of_le h.lt hb.size⟩
theorem QL.grown (h : QL w c v l B X n u L fp bi W) (ht : Cd.Touch [c] W W') (hc : CR W' c v l B) : QL w c v l B X n u L fp bi W' :=
  ⟨h.qs.grown ht hc, Cd.ow_touched h.row ht (fun b hb q => by rw [List.mem_singleton.1 q] at hb; have := (rowC.ow_lt h.row _ hb).1; have := h.qs.cb; omega), h.far, h.xb, Nat.lt_of_lt_of_le h.lt ht.size⟩
theorem QL.laid (h : QL w c v l B X n u L fp bi W) (s : ByteArray) (hs : s.size ≤ maxLen) : Cd.At (W.alloc (.cells #[.string s, .slice (some ⟨bi, 0, none⟩) 1 1] 130)) W.heap.size 0 [.string s, .slice (some ⟨bi, 0, none⟩) 1 1] ∧
    atomC.ow (W.alloc (.cells #[.string s, .slice (some ⟨bi, 0, none⟩) 1 1] 130)) (w.heap.size + 1) [.string s, .slice (some ⟨bi, 0, none⟩) 1 1] (s, [0]) [bi] ∧
    QS w c v l B X n u L fp (W.alloc (.cells #[.string s, .slice (some ⟨bi, 0, none⟩) 1 1] 130)) ∧ w.heap.size + 1 ≤ (W.alloc (.cells #[.string s, .slice (some ⟨bi, 0, none⟩) 1 1] 130)).heap.size :=
  ⟨at2 (row_alloc _ _), atom_ow (Cd.ow_later h.row (below_alloc _ _)) hs, h.qs.alloc _, (h.qs.alloc _).base⟩
theorem QS.app (h : QS w c v l B X n u L fp W) (ht : Cd.Touch fp W W') {g k m : Nat} {fp' : List Nat} {L' : List A2} (ho : atomsC.ow W' (w.heap.size + 1) [.slice (some ⟨g, 0, none⟩) m k] L' fp') (hn : fp'.Nodup) (hf : ∀ b ∈ fp', b ∈ fp ∨ b ∈ [bi] ∨ W.heap.size ≤ b) (hbx : bi ≠ X) (_ : X < W.heap.size ∨ True) :
    QS w c v l B X n (.slice (some ⟨g, 0, none⟩) m k) L' fp' (W'.setCell ⟨X, 1, none⟩ (.slice (some ⟨g, 0, none⟩) m k)) := by
  have hx := h.lx.touched ht h.xf
  have hxf : X ∉ fp' := fun q => by
    rcases hf _ q with r | r | r
    · exact h.xf r
    · exact hbx (List.mem_singleton.1 r).symm
    · have := h.lx.lt; omega
  refine h.become (fq := X :: fp) ((Cd.Touch.mono ht (fun b hb => List.mem_cons_of_mem _ hb)).trans (Cd.Touch.mono (touch_set _) (fun b hb => by rw [List.mem_singleton.1 hb]; simp))) (loc2_set1 hx _) (ow_setCell ho hxf _) hn hxf (fun b hb => ?_)
  rcases List.mem_cons.1 hb with r | r
  · rw [r]; exact h.xb
  · have := (atomsC.ow_lt h.ow _ r).1; omega
end
/-- The numbers that a drawn atom's first variable is picked from. -/
def zz3 : List Int := [-1, 4, 1]
theorem zz3_ok : ∀ y ∈ zz3, -9223372036854775808 ≤ y ∧ y ≤ 9223372036854775807 := by decide
/-- The first atom's variables lie at g2. -/
structure QG (w : World) (c : Nat) (v : Value) (l : List UInt8) (B X : Nat) (n : Int) (u : Value) (L : List A2) (fp : List Nat) (g g2 m k2 : Nat) (W : World) : Prop where
  qs : QS w c v l B X n u L fp W
  cg : W.cell? ⟨g, 1, none⟩ = some (.slice (some ⟨g2, 0, none⟩) m k2)
  gw : w.heap.size < g
section
variable {w : World} {c : Nat} {v : Value} {l : List UInt8} {B X : Nat} {n : Int} {u : Value} {L : List A2} {fp : List Nat} {W W' : World} {g g2 m k2 : Nat}
theorem QG.later (h : QG w c v l B X n u L fp g g2 m k2 W) (hb : Below W.heap.size W W') : QG w c v l B X n u L fp g g2 m k2 W' :=
  ⟨h.qs.later hb, (World.cell?_of_block (w := W) (a := ⟨g, 1, none⟩) (hb.block g (World.block_lt_of_cell? W _ h.cg))).trans h.cg, h.gw⟩
theorem QG.drew (h : QG w c v l B X n u L fp g g2 m k2 W) : QG w c v l B X n u L fp g g2 m k2 W.drew := h.later ⟨rfl, rfl, rfl, Nat.le_refl _, fun _ _ => rfl⟩
theorem QG.grown (h : QG w c v l B X n u L fp g g2 m k2 W) (ht : Cd.Touch [c] W W') (hc : CR W' c v l B) : QG w c v l B X n u L fp g g2 m k2 W' :=
  ⟨h.qs.grown ht hc, ht.cell h.cg (by simp; have := h.gw; have := h.qs.cb; omega), h.gw⟩
end
set_option maxRecDepth 100000 in
set_option maxHeartbeats 6400000 in
theorem any_any (c : Nat) (v : Value) (l : List UInt8) (B : Nat) (w : World) (h : CR w c v l B) :
    Calls Try.prog 130 #[.pointer (some ⟨c, 0, none⟩)] w (QDrawn c v l B w) := by
  have H := Lib.hid h
  have hcw := h.lt
  have HCW := Lib.hid hcw
  clear h hcw
  go_enter Try.func130, Try.ntmps130
  go_wp2_with fail
  generalize hW : w.alloc _ = W0
  obtain ⟨r0, hz0, hb0⟩ := start1 w _ hW
  have HR0 := Lib.hid (Loc2.of r0)
  have HC0 := Lib.hid (H.out.later hb0)
  have HB0 := Lib.hid hb0
  have HZ0 := Lib.hid hz0
  clear hW r0 hz0 hb0
  refine (query_any c v l B W0 HC0.out).mono ?_
  rintro e w1 ⟨n, u, L, fp, rfl, ho1, hn1, hq, hc1, ht1⟩
  obtain ⟨al, cl, rfl⟩ := Cd.ow_slice (c := atomC) ho1
  have HQP := Lib.hid (qOk_iff.1 hq)
  have HS1 := Lib.hid (show QS w c v l B w1.heap.size n (.slice al L.length cl) L fp (w1.alloc (.cells #[.int .i64 n, .slice al L.length cl] 60)) from by
    have hA := below_alloc w1 (.cells #[.int .i64 n, .slice al L.length cl] 60)
    have hz := HZ0.out
    have hlt := HCW.out
    have hz1 := ht1.size
    exact ⟨Loc2.of (row_alloc w1 _), ⟨_, _, (HR0.out.touched ht1 (by simp; omega)).later hA⟩, Cd.ow_later (atomsC.ow_base ho1 (by omega)) hA, hn1, fun q => by have := (atomsC.ow_lt ho1 _ q).2; omega, hc1.later hA, HCW.out, H.out.2.2, by omega, ((Cd.Touch.of_below (fp := [c]) HB0.out).trans ht1).trans (Cd.Touch.of_below hA)⟩)
  clear ho1 hn1 hq hc1 ht1
  go_wp2_with fail
  generalize w1.alloc _ = W1 at *
  generalize w1.heap.size = X at *
  refine (below_cr 14 c v l B W1 HS1.out.cu).mono ?_
  rintro e w2 ⟨x, rfl, hx0, hx14, hc2, ht2⟩
  have HS2 := Lib.hid (HS1.out.grown ht2 hc2)
  have HOK := Lib.hid (okq_of HQP.out)
  have HN := Lib.hid (And.intro HQP.out.1 HQP.out.2.1)
  clear hx14 hc2 ht2 HS1 hx0
  by_cases x0 : x = 0
  · subst x0
    have y0 := HS2.out.lx.c0
    have n1 := HN.out.1
    have n4 := HN.out.2
    have HAL := Lib.hid (HS2.out.alloc (.cells (([0, 5, n + 1, 9223372036854775807] : List Int).map fun z => Value.int .i64 z).toArray 3))
    have HP := Lib.hid (pickI_cr [0, 5, n + 1, 9223372036854775807] w2.heap.size (by simp) (by simp) c v l B _ HAL.out.cu (by have := HS2.out.cu.lt; omega) (LocDraw.list_cellsI _ w2 3))
    go_wp2_with fail
    refine HP.out.mono ?_
    rintro e w3 ⟨y, hy, rfl, hc3, ht3⟩
    have HS3 := Lib.hid (HAL.out.grown ht3 hc3)
    have HY := Lib.hid (show -9223372036854775808 ≤ y ∧ y ≤ 9223372036854775807 by simp at hy; omega)
    have z0 := HS3.out.lx.c0
    have z1 := HS3.out.lx.c1
    have zf := HS3.out.lx.f0
    have HS4 := Lib.hid (HS3.out.become (n' := y) (u' := .slice al L.length cl) (L' := L) (fp' := fp) (touch_set (X := X) (o := 0) (.int .i64 y)) (loc2_set0 HS3.out.lx _) (ow_setCell HS3.out.ow HS3.out.xf _) HS3.out.nd HS3.out.xf (fun b hb => by rw [List.mem_singleton.1 hb]; exact HS3.out.xb))
    clear hy hc3 ht3 HP HAL y0
    obtain ⟨ra, rb, hr⟩ := HS4.out.lr
    obtain ⟨r0, r1, rf0, rf1⟩ := hr
    have rl := HS4.out.tc.size
    go_wp2_with fail
    obtain ⟨k0, k1, hf⟩ := HS4.out.fin HY.out HOK.out
    exact bodyPost_ret (v := .agg #[.int .i64 y, .slice al L.length cl]) (by simp [results, Try.results130, go_sem, k0, k1]) rfl hf
  have tt0 : (x == 0) = false := by rw [beq_eq_false_iff_ne]; exact x0
  by_cases x1 : x = 1
  · subst x1
    go_upto_region 6 with fail
    have hq0 := HS2.out.drew
    refine RegE.startE 10 (fun wx => Loc2 wx X (.int .i64 n) (.slice al L.length cl)) (by kernel_rfl) hq0.lx (fun hHeld => ?_)
    refine RegE.takeE (i := 0) (v := ?_) rfl (by kernel_rfl) (by kernel_rfl) (by kernel_rfl) (fun _ _ _ h => h) (by kernel_rfl) (Or.inl ⟨by rfl, ?_⟩) (by assumption) ?_
    rotate_left
    · (intro wS hSw; (try dsimp only at hSw); (have s1 := hSw.c1); go_simp; try (with_reducible rfl))
    try simp only [Act.put, List.setIfInBounds_toArray, List.set_cons_zero, List.set_cons_succ]
    refine RegE.takeE (i := 1) (v := ?_) rfl (by kernel_rfl) (by kernel_rfl) (by kernel_rfl) (fun _ _ _ h => h) (by kernel_rfl) (Or.inl ⟨by rfl, ?_⟩) (by assumption) ?_
    rotate_left
    · (intro wS hSw; (try dsimp only at hSw); (have s1 := hSw.c1); go_simp; try (with_reducible rfl))
    try simp only [Act.put, List.setIfInBounds_toArray, List.set_cons_zero, List.set_cons_succ]
    refine RegE.takeE (i := 2) (v := ?_) rfl (by kernel_rfl) (by kernel_rfl) (by kernel_rfl) (fun _ _ _ h => h) (by kernel_rfl) (Or.inl ⟨by rfl, ?_⟩) (by assumption) ?_
    rotate_left
    · (intro wS hSw; (try dsimp only at hSw); (have s1 := hSw.c1); go_simp; try (with_reducible rfl))
    try simp only [Act.put, List.setIfInBounds_toArray, List.set_cons_zero, List.set_cons_succ]
    refine RegE.consE2 (i := 3) (j := 5) rfl rfl (by kernel_rfl) (fun K hK => ?_) (fun K hK => ?_)
    · go_simp
      have hq := hq0.alloc (.cells (ss3.map Value.string).toArray 9)
      have HSTR := Lib.hid (And.intro (row_alloc w2.drew (.cells (ss3.map Value.string).toArray 9)) (show w2.drew.heap.size ≠ c by have := hq0.cu.lt; omega))
      have hHeld := hq.lx
      refine hK.out _ _ (.inr hHeld) ?_
      clear hK K
      try simp only [Act.put, List.setIfInBounds_toArray, List.set_cons_zero, List.set_cons_succ]
      refine RegE.consE2 (i := 4) (j := 5) rfl rfl (by kernel_rfl) (fun K hK => ?_) (fun K hK => ?_)
      · go_simp
        go_at_call 147
        refine (pick_cr ss3 _ (by decide) (by decide) c v l B _ hq.cu HSTR.out.2 (cells_str (zs := ss3) HSTR.out.1)).mono ?_
        rintro e w3 ⟨s, hs, rfl, hc3, ht3⟩
        have HSS := Lib.hid (ss3_ok s hs)
        replace hq := hq.grown ht3 hc3
        have hHeld := hq.lx
        clear hc3 ht3 hs
        refine hK.out _ _ (.inr hHeld) ?_
        clear hK K
        try simp only [Act.put, List.setIfInBounds_toArray, List.set_cons_zero, List.set_cons_succ]
        refine RegE.consE (i := 5) rfl (by kernel_rfl) (fun K hK => ?_)
        go_simp
        replace hq := hq.lit0
        have hHeld := hq.qs.lx
        refine hK.out _ _ (.inr hHeld) ?_
        clear hK K
        try simp only [Act.put, List.setIfInBounds_toArray, List.set_cons_zero, List.set_cons_succ]
        refine RegE.takeE (i := 6) (v := ?_) rfl (by kernel_rfl) (by kernel_rfl) (by kernel_rfl) (fun _ _ _ h => h) (by kernel_rfl) (Or.inl ⟨by rfl, ?_⟩) (by assumption) ?_
        rotate_left
        · (intro wS hSw; (try dsimp only at hSw); (have s1 := hSw.c1); go_simp; try (with_reducible rfl))
        try simp only [Act.put, List.setIfInBounds_toArray, List.set_cons_zero, List.set_cons_succ]
        refine RegE.consE (i := 7) rfl (by kernel_rfl) (fun K hK => ?_)
        go_simp
        obtain ⟨hA, hO, hq7, hb7⟩ := hq.laid s (by have := HSS.out; unfold maxLen; omega)
        have hHeld := hq7.lx
        try rw [size_alloc] at hA
        refine hK.out _ _ (.inr hHeld) ?_
        clear hK K
        try simp only [Act.put, List.setIfInBounds_toArray, List.set_cons_zero, List.set_cons_succ]
        refine RegE.consE (i := 8) rfl (by kernel_rfl) (fun K hK => ?_)
        refine Cd.step_appendN (c := atomC) rfl (.tmp 20) (.tmp 26) 58 rfl (w.heap.size + 1) 130 (.agg #[.string ⟨#[]⟩, .slice none 0 0]) 2 40 rfl Try.underlying58 info_atom rfl (by decide) _ L fp rfl hq7.ow hq7.nd _ _ rfl hA (s, [0]) _ hO (by simp) (by have := hq.far; simpa using this) (by have := HQP.out.2.2.2.1; omega) hb7 ?_
        intro g capn w8 fp8 ho8 hn8 hs8 ht8
        have hx8 := hq7.lx.touched ht8 hq7.xf
        have hHeld := hx8
        refine hK.out _ _ (.inr hHeld) ?_
        clear hK K
        try simp only [Act.put, List.setIfInBounds_toArray, List.set_cons_zero, List.set_cons_succ]
        refine RegE.takeE (i := 9) (v := ?_) rfl (by kernel_rfl) (by kernel_rfl) (by kernel_rfl) (fun _ _ _ h => h) (by kernel_rfl) (Or.inl ⟨by rfl, ?_⟩) (by assumption) ?_
        rotate_left
        · (intro wS hSw; (try dsimp only at hSw); (have s1 := hSw.c1); go_simp; try (with_reducible rfl))
        try simp only [Act.put, List.setIfInBounds_toArray, List.set_cons_zero, List.set_cons_succ]
        have HS9 := Lib.hid (QS.app hq7 ht8 ho8 hn8 hs8 hq.xb (.inr trivial))
        have f1 := hx8.f1
        have f2 := hx8.c1
        have HKO := Lib.hid (okq_app HOK.out HQP.out.2.2.2.1 (A := (s, [0])) ⟨HSS.out, by simp⟩)
        clear hA hO hb7 ho8 hn8 hs8 ht8 hx8 hq7 hq
        refine RegE.consE (i := 10) rfl (by kernel_rfl) (fun K hK => ?_)
        go_simp
        refine hK.out _ _ (.inl (by kernel_rfl)) ?_
        clear hK K
        try simp only [Act.put, List.setIfInBounds_toArray, List.set_cons_zero, List.set_cons_succ]
        refine RegE.doneE (by kernel_rfl) ?_ _
        have m0 := HS9.out.lx.c0
        have m1 := HS9.out.lx.c1
        obtain ⟨ra, rb, hr⟩ := HS9.out.lr
        obtain ⟨r0, r1, rf0, rf1⟩ := hr
        go_wp2_with fail
        obtain ⟨k0, k1, hf⟩ := HS9.out.fin (by have := HN.out; omega) HKO.out
        exact bodyPost_ret (v := .agg #[.int .i64 n, .slice (some ⟨g, 0, none⟩) (L.length + 1) capn]) (by simp [results, Try.results130, go_sem, k0, k1]) rfl hf
      · go_simp
        replace HSTR := Lib.hid (And.intro (row_later HSTR.out.1 (below_alloc _ (.cells #[.int .i64 0] 3))) HSTR.out.2)
        replace hq := hq.lit0
        rw [size_alloc] at hq
        replace hq := (show QL w c v l B X n _ L fp (w2.heap.size + 1) _ from hq)
        have hHeld := hq.qs.lx
        refine hK.out _ _ (.inr hHeld) ?_
        clear hK K
        try simp only [Act.put, List.setIfInBounds_toArray, List.set_cons_zero, List.set_cons_succ]
        refine RegE.consE (i := 4) rfl (by kernel_rfl) (fun K hK => ?_)
        go_simp
        go_at_call 147
        refine (pick_cr ss3 _ (by decide) (by decide) c v l B _ hq.qs.cu HSTR.out.2 (cells_str (zs := ss3) HSTR.out.1)).mono ?_
        rintro e w3 ⟨s, hs, rfl, hc3, ht3⟩
        have HSS := Lib.hid (ss3_ok s hs)
        replace hq := hq.grown ht3 hc3
        have hHeld := hq.qs.lx
        clear hc3 ht3 hs
        refine hK.out _ _ (.inr hHeld) ?_
        clear hK K
        try simp only [Act.put, List.setIfInBounds_toArray, List.set_cons_zero, List.set_cons_succ]
        refine RegE.takeE (i := 6) (v := ?_) rfl (by kernel_rfl) (by kernel_rfl) (by kernel_rfl) (fun _ _ _ h => h) (by kernel_rfl) (Or.inl ⟨by rfl, ?_⟩) (by assumption) ?_
        rotate_left
        · (intro wS hSw; (try dsimp only at hSw); (have s1 := hSw.c1); go_simp; try (with_reducible rfl))
        try simp only [Act.put, List.setIfInBounds_toArray, List.set_cons_zero, List.set_cons_succ]
        refine RegE.consE (i := 7) rfl (by kernel_rfl) (fun K hK => ?_)
        go_simp
        obtain ⟨hA, hO, hq7, hb7⟩ := hq.laid s (by have := HSS.out; unfold maxLen; omega)
        have hHeld := hq7.lx
        try rw [size_alloc] at hA
        refine hK.out _ _ (.inr hHeld) ?_
        clear hK K
        try simp only [Act.put, List.setIfInBounds_toArray, List.set_cons_zero, List.set_cons_succ]
        refine RegE.consE (i := 8) rfl (by kernel_rfl) (fun K hK => ?_)
        refine Cd.step_appendN (c := atomC) rfl (.tmp 20) (.tmp 26) 58 rfl (w.heap.size + 1) 130 (.agg #[.string ⟨#[]⟩, .slice none 0 0]) 2 40 rfl Try.underlying58 info_atom rfl (by decide) _ L fp rfl hq7.ow hq7.nd _ _ rfl hA (s, [0]) _ hO (by simp) (by have := hq.far; simpa using this) (by have := HQP.out.2.2.2.1; omega) hb7 ?_
        intro g capn w8 fp8 ho8 hn8 hs8 ht8
        have hx8 := hq7.lx.touched ht8 hq7.xf
        have hHeld := hx8
        refine hK.out _ _ (.inr hHeld) ?_
        clear hK K
        try simp only [Act.put, List.setIfInBounds_toArray, List.set_cons_zero, List.set_cons_succ]
        refine RegE.takeE (i := 9) (v := ?_) rfl (by kernel_rfl) (by kernel_rfl) (by kernel_rfl) (fun _ _ _ h => h) (by kernel_rfl) (Or.inl ⟨by rfl, ?_⟩) (by assumption) ?_
        rotate_left
        · (intro wS hSw; (try dsimp only at hSw); (have s1 := hSw.c1); go_simp; try (with_reducible rfl))
        try simp only [Act.put, List.setIfInBounds_toArray, List.set_cons_zero, List.set_cons_succ]
        have HS9 := Lib.hid (QS.app hq7 ht8 ho8 hn8 hs8 hq.xb (.inr trivial))
        have f1 := hx8.f1
        have f2 := hx8.c1
        have HKO := Lib.hid (okq_app HOK.out HQP.out.2.2.2.1 (A := (s, [0])) ⟨HSS.out, by simp⟩)
        clear hA hO hb7 ho8 hn8 hs8 ht8 hx8 hq7 hq
        refine RegE.consE (i := 10) rfl (by kernel_rfl) (fun K hK => ?_)
        go_simp
        refine hK.out _ _ (.inl (by kernel_rfl)) ?_
        clear hK K
        try simp only [Act.put, List.setIfInBounds_toArray, List.set_cons_zero, List.set_cons_succ]
        refine RegE.doneE (by kernel_rfl) ?_ _
        have m0 := HS9.out.lx.c0
        have m1 := HS9.out.lx.c1
        obtain ⟨ra, rb, hr⟩ := HS9.out.lr
        obtain ⟨r0, r1, rf0, rf1⟩ := hr
        go_wp2_with fail
        obtain ⟨k0, k1, hf⟩ := HS9.out.fin (by have := HN.out; omega) HKO.out
        exact bodyPost_ret (v := .agg #[.int .i64 n, .slice (some ⟨g, 0, none⟩) (L.length + 1) capn]) (by simp [results, Try.results130, go_sem, k0, k1]) rfl hf
    · go_simp
      have hq := hq0.lit0
      have hHeld := hq.qs.lx
      refine hK.out _ _ (.inr hHeld) ?_
      clear hK K
      try simp only [Act.put, List.setIfInBounds_toArray, List.set_cons_zero, List.set_cons_succ]
      refine RegE.consE (i := 3) rfl (by kernel_rfl) (fun K hK => ?_)
      go_simp
      have hstr := row_alloc (w2.drew.alloc (.cells #[.int .i64 0] 3)) (.cells (ss3.map Value.string).toArray 9)
      rw [size_alloc] at hstr
      have HSTR := Lib.hid (And.intro (show ((w2.drew.alloc (.cells #[.int .i64 0] 3)).alloc (.cells (ss3.map Value.string).toArray 9)).heap[w2.heap.size + 1]? = _ from hstr) (show w2.heap.size + 1 ≠ c by have := HS2.out.cu.lt; omega))
      clear hstr
      replace hq := hq.later (below_alloc _ (.cells (ss3.map Value.string).toArray 9))
      have hHeld := hq.qs.lx
      refine hK.out _ _ (.inr hHeld) ?_
      clear hK K
      try simp only [Act.put, List.setIfInBounds_toArray, List.set_cons_zero, List.set_cons_succ]
      refine RegE.consE (i := 4) rfl (by kernel_rfl) (fun K hK => ?_)
      go_simp
      go_at_call 147
      refine (pick_cr ss3 _ (by decide) (by decide) c v l B _ hq.qs.cu HSTR.out.2 (cells_str (zs := ss3) HSTR.out.1)).mono ?_
      rintro e w3 ⟨s, hs, rfl, hc3, ht3⟩
      have HSS := Lib.hid (ss3_ok s hs)
      replace hq := hq.grown ht3 hc3
      have hHeld := hq.qs.lx
      clear hc3 ht3 hs
      refine hK.out _ _ (.inr hHeld) ?_
      clear hK K
      try simp only [Act.put, List.setIfInBounds_toArray, List.set_cons_zero, List.set_cons_succ]
      refine RegE.takeE (i := 6) (v := ?_) rfl (by kernel_rfl) (by kernel_rfl) (by kernel_rfl) (fun _ _ _ h => h) (by kernel_rfl) (Or.inl ⟨by rfl, ?_⟩) (by assumption) ?_
      rotate_left
      · (intro wS hSw; (try dsimp only at hSw); (have s1 := hSw.c1); go_simp; try (with_reducible rfl))
      try simp only [Act.put, List.setIfInBounds_toArray, List.set_cons_zero, List.set_cons_succ]
      refine RegE.consE (i := 7) rfl (by kernel_rfl) (fun K hK => ?_)
      go_simp
      obtain ⟨hA, hO, hq7, hb7⟩ := hq.laid s (by have := HSS.out; unfold maxLen; omega)
      have hHeld := hq7.lx
      try rw [size_alloc] at hA
      refine hK.out _ _ (.inr hHeld) ?_
      clear hK K
      try simp only [Act.put, List.setIfInBounds_toArray, List.set_cons_zero, List.set_cons_succ]
      refine RegE.consE (i := 8) rfl (by kernel_rfl) (fun K hK => ?_)
      refine Cd.step_appendN (c := atomC) rfl (.tmp 20) (.tmp 26) 58 rfl (w.heap.size + 1) 130 (.agg #[.string ⟨#[]⟩, .slice none 0 0]) 2 40 rfl Try.underlying58 info_atom rfl (by decide) _ L fp rfl hq7.ow hq7.nd _ _ rfl hA (s, [0]) _ hO (by simp) (by have := hq.far; simpa using this) (by have := HQP.out.2.2.2.1; omega) hb7 ?_
      intro g capn w8 fp8 ho8 hn8 hs8 ht8
      have hx8 := hq7.lx.touched ht8 hq7.xf
      have hHeld := hx8
      refine hK.out _ _ (.inr hHeld) ?_
      clear hK K
      try simp only [Act.put, List.setIfInBounds_toArray, List.set_cons_zero, List.set_cons_succ]
      refine RegE.takeE (i := 9) (v := ?_) rfl (by kernel_rfl) (by kernel_rfl) (by kernel_rfl) (fun _ _ _ h => h) (by kernel_rfl) (Or.inl ⟨by rfl, ?_⟩) (by assumption) ?_
      rotate_left
      · (intro wS hSw; (try dsimp only at hSw); (have s1 := hSw.c1); go_simp; try (with_reducible rfl))
      try simp only [Act.put, List.setIfInBounds_toArray, List.set_cons_zero, List.set_cons_succ]
      have HS9 := Lib.hid (QS.app hq7 ht8 ho8 hn8 hs8 hq.xb (.inr trivial))
      have f1 := hx8.f1
      have f2 := hx8.c1
      have HKO := Lib.hid (okq_app HOK.out HQP.out.2.2.2.1 (A := (s, [0])) ⟨HSS.out, by simp⟩)
      clear hA hO hb7 ho8 hn8 hs8 ht8 hx8 hq7 hq
      refine RegE.consE (i := 10) rfl (by kernel_rfl) (fun K hK => ?_)
      go_simp
      refine hK.out _ _ (.inl (by kernel_rfl)) ?_
      clear hK K
      try simp only [Act.put, List.setIfInBounds_toArray, List.set_cons_zero, List.set_cons_succ]
      refine RegE.doneE (by kernel_rfl) ?_ _
      have m0 := HS9.out.lx.c0
      have m1 := HS9.out.lx.c1
      obtain ⟨ra, rb, hr⟩ := HS9.out.lr
      obtain ⟨r0, r1, rf0, rf1⟩ := hr
      go_wp2_with fail
      obtain ⟨k0, k1, hf⟩ := HS9.out.fin (by have := HN.out; omega) HKO.out
      exact bodyPost_ret (v := .agg #[.int .i64 n, .slice (some ⟨g, 0, none⟩) (L.length + 1) capn]) (by simp [results, Try.results130, go_sem, k0, k1]) rfl hf
  have tt1 : (x == 1) = false := by rw [beq_eq_false_iff_ne]; exact x1
  by_cases x2 : x = 2
  · subst x2
    have hL0 : 0 < L.length := HQP.out.2.2.1
    have hR0 : 0 < L[0].2.length := (HQP.out.2.2.2.2.1 _ (List.getElem_mem hL0)).2.1
    have HA0 := Lib.hid (HOK.out.2.2 _ (List.getElem_mem hL0))
    obtain ⟨g, g2, k2, rfl, q0, q1, qf, hgX, _, hgl, _, _, _, _, _, _, ⟨fp', hS⟩, _⟩ := HS2.out.first hL0 hR0
    have HS3 := Lib.hid hS
    have y0 := HS2.out.lx.c0
    have y1 := HS2.out.lx.c1
    have l1 : (0 : Int) < (L.length : Int) := by omega
    have e0 := HS3.out.lx.c0
    have e1 := HS3.out.lx.c1
    obtain ⟨ra, rb, hr⟩ := HS3.out.lr
    obtain ⟨r0, r1, rf0, rf1⟩ := hr
    clear hS x0 x1
    go_wp2_with fail
    obtain ⟨k0, k1, hf⟩ := HS3.out.fin (by have := HN.out; omega) (okq_set HOK.out (A := (L[0].1, [])) ⟨HA0.out.1, by simp⟩)
    exact bodyPost_ret (v := .agg #[.int .i64 n, .slice (some ⟨g, 0, none⟩) L.length cl]) (by simp [results, Try.results130, go_sem, k0, k1]) rfl hf
  have tt2 : (x == 2) = false := by rw [beq_eq_false_iff_ne]; exact x2
  by_cases x3 : x = 3
  · subst x3
    have hL0 : 0 < L.length := HQP.out.2.2.1
    have hR0 : 0 < L[0].2.length := (HQP.out.2.2.2.2.1 _ (List.getElem_mem hL0)).2.1
    have HA0 := Lib.hid (HOK.out.2.2 _ (List.getElem_mem hL0))
    obtain ⟨g, g2, k2, rfl, _, q1, _, _, _, _, _, hwg, _⟩ := HS2.out.first hL0 hR0
    have hq0 : QG w c v l B X n _ L fp g g2 L[0].2.length k2 w2 := ⟨HS2.out, q1, hwg⟩
    clear q1 hwg
    go_upto_region 10 with fail
    have hq := hq0.drew
    have HL1 := Lib.hid (And.intro hL0 hR0)
    have l1 : (0 : Int) < (L.length : Int) := by omega
    have l2 : (0 : Int) < (L[0].2.length : Int) := by omega
    refine RegE.startE 9 (fun wx => Loc2 wx X (.int .i64 n) (.slice (some ⟨g, 0, none⟩) L.length cl) ∧ wx.cell? ⟨g, 1, none⟩ = some (.slice (some ⟨g2, 0, none⟩) L[0].2.length k2)) (by kernel_rfl) (And.intro hq.qs.lx hq.cg) (fun hHeld => ?_)
    refine RegE.takeE (i := 0) (v := ?_) rfl (by kernel_rfl) (by kernel_rfl) (by kernel_rfl) (fun _ _ _ h => h) (by kernel_rfl) (Or.inl ⟨by rfl, ?_⟩) (by assumption) ?_
    rotate_left
    · (intro wS hSw; (try dsimp only at hSw); (obtain ⟨sx, sg⟩ := hSw); (have s1 := sx.c1); go_simp; try (with_reducible rfl))
    try simp only [Act.put, List.setIfInBounds_toArray, List.set_cons_zero, List.set_cons_succ]
    refine RegE.takeE (i := 1) (v := ?_) rfl (by kernel_rfl) (by kernel_rfl) (by kernel_rfl) (fun _ _ _ h => h) (by kernel_rfl) (Or.inl ⟨by rfl, ?_⟩) (by assumption) ?_
    rotate_left
    · (intro wS hSw; (try dsimp only at hSw); (obtain ⟨sx, sg⟩ := hSw); (have s1 := sx.c1); go_simp; try (with_reducible rfl))
    try simp only [Act.put, List.setIfInBounds_toArray, List.set_cons_zero, List.set_cons_succ]
    refine RegE.takeE (i := 2) (v := ?_) rfl (by kernel_rfl) (by kernel_rfl) (by kernel_rfl) (fun _ _ _ h => h) (by kernel_rfl) (Or.inl ⟨by rfl, ?_⟩) (by assumption) ?_
    rotate_left
    · (intro wS hSw; (try dsimp only at hSw); (obtain ⟨sx, sg⟩ := hSw); (have s1 := sx.c1); go_simp; try (with_reducible rfl))
    try simp only [Act.put, List.setIfInBounds_toArray, List.set_cons_zero, List.set_cons_succ]
    refine RegE.takeE (i := 3) (v := ?_) rfl (by kernel_rfl) (by kernel_rfl) (by kernel_rfl) (fun _ _ _ h => h) (by kernel_rfl) (Or.inl ⟨by rfl, ?_⟩) (by assumption) ?_
    rotate_left
    · (intro wS hSw; (try dsimp only at hSw); (obtain ⟨sx, sg⟩ := hSw); (have s1 := sx.c1); go_simp; try (with_reducible rfl))
    try simp only [Act.put, List.setIfInBounds_toArray, List.set_cons_zero, List.set_cons_succ]
    refine RegE.takeE (i := 4) (v := ?_) rfl (by kernel_rfl) (by kernel_rfl) (by kernel_rfl) (fun _ _ _ h => h) (by kernel_rfl) (Or.inl ⟨by rfl, ?_⟩) (by assumption) ?_
    rotate_left
    · (intro wS hSw; (try dsimp only at hSw); (obtain ⟨sx, sg⟩ := hSw); (have s1 := sx.c1); go_simp; try (with_reducible rfl))
    try simp only [Act.put, List.setIfInBounds_toArray, List.set_cons_zero, List.set_cons_succ]
    refine RegE.takeE (i := 5) (v := ?_) rfl (by kernel_rfl) (by kernel_rfl) (by kernel_rfl) (fun _ _ _ h => h) (by kernel_rfl) (Or.inl ⟨by rfl, ?_⟩) (by assumption) ?_
    rotate_left
    · (intro wS hSw; (try dsimp only at hSw); (obtain ⟨sx, sg⟩ := hSw); (have s1 := sx.c1); go_simp; try (with_reducible rfl))
    try simp only [Act.put, List.setIfInBounds_toArray, List.set_cons_zero, List.set_cons_succ]
    refine RegE.consE (i := 6) rfl (by kernel_rfl) (fun K hK => ?_)
    go_simp
    have hstr := LocDraw.list_cellsI zz3 w2.drew 3
    replace hq := hq.later (below_alloc _ (.cells (zz3.map fun z => Value.int .i64 z).toArray 3))
    have hHeld := And.intro hq.qs.lx hq.cg
    refine hK.out _ _ (.inr hHeld) ?_
    clear hK K
    try simp only [Act.put, List.setIfInBounds_toArray, List.set_cons_zero, List.set_cons_succ]
    refine RegE.consE (i := 7) rfl (by kernel_rfl) (fun K hK => ?_)
    go_simp
    go_at_call 78
    refine (pickI_cr zz3 w2.heap.size (by decide) (by decide) c v l B _ hq.qs.cu (by have := HS2.out.cu.lt; omega) hstr).mono ?_
    rintro e w3 ⟨y, hy, rfl, hc3, ht3⟩
    replace hq := hq.grown ht3 hc3
    have hHeld := And.intro hq.qs.lx hq.cg
    have HY := Lib.hid (zz3_ok y hy)
    clear hc3 ht3 hy hstr
    refine hK.out _ _ (.inr hHeld) ?_
    clear hK K
    try simp only [Act.put, List.setIfInBounds_toArray, List.set_cons_zero, List.set_cons_succ]
    refine RegE.takeE (i := 8) (v := ?_) rfl (by kernel_rfl) (by kernel_rfl) (by kernel_rfl) (fun _ _ _ h => h) (by kernel_rfl) (Or.inl ⟨by rfl, ?_⟩) (by assumption) ?_
    rotate_left
    · (intro wS hSw; (try dsimp only at hSw); (obtain ⟨sx, sg⟩ := hSw); (have s1 := sx.c1); go_simp; try (with_reducible rfl))
    try simp only [Act.put, List.setIfInBounds_toArray, List.set_cons_zero, List.set_cons_succ]
    obtain ⟨g', g3, k3, e1, _, q1, _, _, _, _, _, _, _, _, ⟨x9, x9c⟩, x9f, _, hput⟩ := hq.qs.first HL1.out.1 HL1.out.2
    simp only [Option.some.injEq, Addr.mk.injEq, and_true] at e1
    subst e1
    have e2 := q1.symm.trans hq.cg
    simp only [Option.some.injEq, Value.slice.injEq, Addr.mk.injEq, and_true, true_and] at e2
    obtain ⟨rfl, rfl⟩ := e2
    obtain ⟨fp9, hS9⟩ := hput y HY.out
    have HS9 := Lib.hid hS9
    clear hput hS9 q1
    refine RegE.consE (i := 9) rfl (by kernel_rfl) (fun K hK => ?_)
    go_simp
    refine hK.out _ _ (.inl (by kernel_rfl)) ?_
    clear hK K
    try simp only [Act.put, List.setIfInBounds_toArray, List.set_cons_zero, List.set_cons_succ]
    refine RegE.doneE (by kernel_rfl) ?_ _
    have m0 := HS9.out.lx.c0
    have m1 := HS9.out.lx.c1
    obtain ⟨ra, rb, hr⟩ := HS9.out.lr
    obtain ⟨r0, r1, rf0, rf1⟩ := hr
    go_wp2_with fail
    obtain ⟨k0, k1, hf⟩ := HS9.out.fin (by have := HN.out; omega) (okq_set HOK.out (A := (L[0].1, L[0].2.set 0 y)) ⟨HA0.out.1, by rw [List.length_set]; exact HA0.out.2⟩)
    exact bodyPost_ret (v := .agg #[.int .i64 n, .slice (some ⟨g, 0, none⟩) L.length cl]) (by simp [results, Try.results130, go_sem, k0, k1]) rfl hf
  have tt3 : (x == 3) = false := by rw [beq_eq_false_iff_ne]; exact x3
  have e0 := HS2.out.lx.c0
  have e1 := HS2.out.lx.c1
  obtain ⟨ra, rb, hr⟩ := HS2.out.lr
  obtain ⟨r0, r1, rf0, rf1⟩ := hr
  clear x0 x1 x2 x3
  go_wp2_with fail
  obtain ⟨k0, k1, hf⟩ := HS2.out.fin (by have := HN.out; omega) HOK.out
  exact bodyPost_ret (v := .agg #[.int .i64 n, .slice al L.length cl]) (by simp [results, Try.results130, go_sem, k0, k1]) rfl hf
end Go.Proofs.Ytklamhnecncenaa.QryDraw

namespace Go.Proofs.Ytklamhnecncenaa.QryDraw
open Go Go.RowKit Byt Ints IntsLaw Cd Rows2 Tab TabSpec Exact Atom QryMath QrySpec QryImp MkAtom SlMath Draw QryPar
open TabParse (strC strsC info_str)

/-- What stays while a query is drawn for a law: the local query at X, the result's cells at w's end, the cursor behind them. -/
structure QT (w : World) (c : Nat) (v : Value) (l : List UInt8) (B X : Nat) (n : Int) (u : Value) (L : List A2) (fp : List Nat) (wx : World) : Prop where
  lx : Loc2 wx X (.int .i64 n) u
  lr : ∃ a b, Loc2 wx w.heap.size a b
  ow : atomsC.ow wx (c + 1) [u] L fp
  cu : CR wx c v l B
  cb : w.heap.size < c
  bb : B ≤ w.heap.size
  xb : c < X
  bl : Below w.heap.size w wx
section
variable {w : World} {c : Nat} {v : Value} {l : List UInt8} {B X : Nat} {n : Int} {u : Value} {L : List A2} {fp : List Nat} {W W' : World}
theorem QT.later (h : QT w c v l B X n u L fp W) (hb : Below W.heap.size W W') : QT w c v l B X n u L fp W' := by
  obtain ⟨a, b, hr⟩ := h.lr
  exact ⟨h.lx.later hb, ⟨a, b, hr.later hb⟩, Cd.ow_later h.ow hb, h.cu.later hb, h.cb, h.bb, h.xb, below_then h.bl hb⟩
theorem QT.drew (h : QT w c v l B X n u L fp W) : QT w c v l B X n u L fp W.drew := h.later ⟨rfl, rfl, rfl, Nat.le_refl _, fun _ _ => rfl⟩
theorem QT.alloc (h : QT w c v l B X n u L fp W) (o : Obj) : QT w c v l B X n u L fp (W.alloc o) := h.later (below_alloc W o)
theorem QT.grown (h : QT w c v l B X n u L fp W) (ht : Cd.Touch [c] W W') (hc : CR W' c v l B) : QT w c v l B X n u L fp W' := by
  obtain ⟨a, b, hr⟩ := h.lr
  have h1 := h.cb
  have h2 := h.xb
  exact ⟨h.lx.touched ht (by simp; omega), ⟨a, b, hr.touched ht (by simp; omega)⟩, Cd.ow_touched h.ow ht (fun b hb q => by rw [List.mem_singleton.1 q] at hb; have := (atomsC.ow_lt h.ow _ hb).1; omega), hc, h.cb, h.bb, h.xb, Cd.Touch.below h.bl ht (fun b hb => by rw [List.mem_singleton.1 hb]; omega)⟩
/-- The result's cells are stored. -/
theorem QT.setR (h : QT w c v l B X n u L fp W) (x y : Value) : QT w c v l B X n u L fp ((W.setCell ⟨w.heap.size, 0, none⟩ x).setCell ⟨w.heap.size, 1, none⟩ y) := by
  obtain ⟨a, b, hr⟩ := h.lr
  have h1 := h.cb
  have h2 := h.xb
  have h3 := h.bb
  have hf : w.heap.size ∉ fp := fun q => by have := (atomsC.ow_lt h.ow _ q).1; omega
  refine ⟨(h.lx.set_far (by show w.heap.size ≠ X; omega) _).set_far (by show w.heap.size ≠ X; omega) _, ⟨x, y, ?_⟩, ow_setCell (ow_setCell h.ow hf _) hf _, (h.cu.keep (touch_set _) (by simp; omega) (fun b hb => by rw [List.mem_singleton.1 hb]; omega)).keep (touch_set _) (by simp; omega) (fun b hb => by rw [List.mem_singleton.1 hb]; omega), h.cb, h.bb, h.xb, (h.bl.setCell (Nat.le_refl _) _).setCell (Nat.le_refl _) _⟩
  exact loc2_set1 (loc2_set0 hr x) y
theorem QT.all (h : QT w c v l B X n u L fp W) : W.cell? ⟨X, 0, none⟩ = some (.int .i64 n) ∧ W.cell? ⟨X, 1, none⟩ = some u ∧ QT w c v l B X n u L fp W := ⟨h.lx.c0, h.lx.c1, h⟩
theorem QT.rd (h : QT w c v l B X n u L fp W) : atomsC.rd W (fun b => w.heap.size ≤ b ∧ b < W.heap.size) [u] L := atomsC.mono (atomsC.ow_rd h.ow) fun b _ hb => by
  have h1 := atomsC.ow_lt h.ow b hb
  have h2 := h.cb
  exact ⟨by omega, h1.2⟩
theorem QT.fin (h : QT w c v l B X n u L fp W) (x y : Value) : ((W.setCell ⟨w.heap.size, 0, none⟩ x).setCell ⟨w.heap.size, 1, none⟩ y).cell? ⟨w.heap.size, 0, none⟩ = some x ∧ ((W.setCell ⟨w.heap.size, 0, none⟩ x).setCell ⟨w.heap.size, 1, none⟩ y).cell? ⟨w.heap.size, 1, none⟩ = some y ∧ QT w c v l B X n u L fp ((W.setCell ⟨w.heap.size, 0, none⟩ x).setCell ⟨w.heap.size, 1, none⟩ y) := by
  obtain ⟨a, b, hr⟩ := h.lr
  obtain ⟨k0, k1⟩ := set2 (w := W) (k := w.heap.size) (x := x) (y := y) hr.c0 hr.c1
  exact ⟨k0, k1, h.setR x y⟩
end
/-- A drawn query and two masks. -/
def SDrawn (w : World) (e : Ending) (w' : World) : Prop :=
  ∃ n u L a b, e = .returned (.tuple #[.agg #[.int .i64 n, u], .int .i64 a, .int .i64 b]) ∧ atomsC.rd w' (fun b => w.heap.size ≤ b ∧ b < w'.heap.size) [u] L ∧ (-9223372036854775808 ≤ n ∧ n ≤ 9223372036854775807) ∧ OkQ L ∧ (-1 ≤ a ∧ a ≤ 17) ∧ (-1 ≤ b ∧ b ≤ 17) ∧ Below w.heap.size w w'
/-- A drawn atom and a drawn list of variables. -/
def ADrawn (w : World) (e : Ending) (w' : World) : Prop :=
  ∃ nm u vs sl ls, e = .returned (.tuple #[.agg #[.string nm, u], sl]) ∧ rowC.rd w' (fun b => w.heap.size ≤ b ∧ b < w'.heap.size) [u] vs ∧ vs.length ≤ 3 ∧ rowC.rd w' (fun b => w.heap.size ≤ b ∧ b < w'.heap.size) [sl] ls ∧ ls.length ≤ 4 ∧ Below w.heap.size w w'
end Go.Proofs.Ytklamhnecncenaa.QryDraw

namespace Go.Proofs.Ytklamhnecncenaa.QryImp
open Go Go.RowKit Byt Ints IntsLaw Cd Rows2 Tab TabSpec Exact Atom QryMath QrySpec MkAtom SlMath

theorem pow_len {k : Nat} (h : k ≤ 4) : IntKind.i64.wrap (2 ^ k) = 2 ^ k ∧ (1 : Int) ≤ 2 ^ k ∧ (2 : Int) ^ k ≤ 16 := by
  have : k = 0 ∨ k = 1 ∨ k = 2 ∨ k = 3 ∨ k = 4 := by omega
  rcases this with rfl | rfl | rfl | rfl | rfl <;> decide
theorem mOk_nat {n : Int} {l : List A2} {m : Int} (h : mOk n l m = true) : qOk n l = true ∧ l.length ≤ 4 ∧ ∃ t : Nat, m = (t : Int) ∧ t < 16 := by
  unfold mOk at h
  rw [Bool.and_eq_true, decide_eq_true_eq] at h
  have h4 := (qOk_iff.1 h.1).2.2.2.1
  obtain ⟨t, rfl⟩ := Int.eq_ofNat_of_zero_le h.2.1
  have := (pow_len h4).2.2
  exact ⟨h.1, h4, t, rfl, by omega⟩
set_option maxRecDepth 100000 in
theorem spec_mask (n m : Int) (u : Value) (l : List A2) (S : Nat → Prop) (w : World) (hr : atomsC.rd w S [u] l) :
    Calls Try.prog 96 #[.agg #[.int .i64 n, u], .int .i64 m] w fun e w' => e = .returned (.bool (mOk n l m)) ∧ Below w.heap.size w w' := by
  have HV := Lib.hid (fun w' (hb : Below w.heap.size w w') => spec_valid n u l S w' (Cd.later hr hb))
  obtain ⟨a, cap, rfl, hlm⟩ := Cd.sl_form hr
  clear hr
  have HC := Lib.hid (Loc2.of (row_alloc w (.cells #[.int .i64 n, .slice a l.length cap] 60)))
  have HB := Lib.hid (below_alloc w (.cells #[.int .i64 n, .slice a l.length cap] 60))
  cases hq : qOk n l
  · have HZ := Lib.hid (show mOk n l m = false by unfold mOk; rw [hq]; rfl)
    rw [hq] at HV
    clear hq
    go_enter Try.func96, Try.ntmps96
    go_wp2_with fail
    generalize w.alloc _ = W at *
    refine (HV.out _ HB.out).mono ?_
    rintro e w1 ⟨rfl, hb1⟩
    have HB1 := Lib.hid (below_then HB.out hb1)
    clear hb1
    go_wp2_with fail
    go_ret
    exact ⟨ret_b HZ.out.symm, HB1.out⟩
  rw [hq] at HV
  have h4 := (qOk_iff.1 hq).2.2.2.1
  have hpw := pow_len h4
  have hI := fun w => Fixed.l1In_any m 0 (2 ^ l.length - 1) w
  have HZ := Lib.hid (show (decide (0 ≤ m) && decide (m ≤ 2 ^ l.length - 1)) = mOk n l m by
    unfold mOk
    rw [hq, Bool.true_and, Bool.eq_iff_iff, Bool.and_eq_true, decide_eq_true_eq, decide_eq_true_eq, decide_eq_true_eq]
    omega)
  have HI := Lib.hid hI
  rw [HZ.out] at HI
  have q1 := hpw.1
  have q2 := hpw.2.1
  have q3 := hpw.2.2
  have q4 : IntKind.i64.wrap (2 ^ l.length - 1) = 2 ^ l.length - 1 := by rw [IntKind.wrap_i64]; omega
  have q5 : (l.length : Int) ≤ 64 := by omega
  have q6 : ((l.length : Int)).toNat = l.length := by omega
  clear hq hpw h4 hI
  generalize mOk n l m = z at *
  go_enter Try.func96, Try.ntmps96
  go_wp2_with fail
  generalize w.alloc _ = W at *
  refine (HV.out _ HB.out).mono ?_
  rintro e w1 ⟨rfl, hb1⟩
  have HB1 := Lib.hid (below_then HB.out hb1)
  have c0 := (HC.out.later hb1).c0
  have c1 := (HC.out.later hb1).c1
  clear hb1
  go_wp2_with (go_at_call 69; refine (HI.out _).mono ?_; rintro e w1 ⟨rfl, rfl⟩)
  go_ret
  exact ⟨rfl, HB1.out⟩
set_option maxRecDepth 100000 in
set_option maxHeartbeats 1600000 in
theorem spec_bits (n : Int) (m : Nat) (u : Value) (l : List A2) (S : Nat → Prop) (w : World) (hr : atomsC.rd w S [u] l) (hm : m < 16) (hl4 : l.length ≤ 4) (h4 : ∀ A ∈ l, In4 A.2) (h3 : ∀ A ∈ l, A.2.length ≤ 3) :
    Calls Try.prog 135 #[.agg #[.int .i64 n, u], .int .i64 (m : Int)] w fun e w' => e = .returned (.int .i64 (bs (selV l m l.length) : Int)) ∧ Below w.heap.size w w' := by
  have HR := Lib.hid (fun w' (hb : Below w.heap.size w w') => Cd.later hr hb)
  obtain ⟨a, cap, rfl, hlm⟩ := Cd.sl_form hr
  have H4 := Lib.hid h4
  have H3 := Lib.hid h3
  clear hr h4 h3
  go_enter Try.func135, Try.ntmps135
  go_wp2_with fail
  generalize hW : w.alloc _ = W
  obtain ⟨r0, _, hb0⟩ := start1 w _ hW
  have HC := Lib.hid (Loc2.of r0)
  have HB := Lib.hid hb0
  have HRW := Lib.hid (HR.out W hb0)
  clear hW r0 hb0
  have g1 := HC.out.c1
  go_loop [5, 6] (fun x i => ∃ k : Nat, k ≤ l.length ∧ i = .int .i64 k ∧ x = .int .i64 (bs (selV l m k) : Int)) (fun _ i => l.length - (intOf i).toNat)
  case atStart => exact ⟨0, Nat.zero_le _, rfl, rfl⟩
  case round =>
    obtain ⟨k, hk, rfl, rfl⟩ := hrel
    by_cases hlt : k < l.length
    · obtain ⟨b, off, cap', au, cu, e1, hbB, c0, c1, hs1, hu, hroom⟩ := atom_at2 HRW.out hlt
      injection e1 with e1 e2 e3
      subst e1 e3
      have p1 : (0 : Int) ≤ (k : Int) := by omega
      have p2 : (k : Int) < (l.length : Int) := by omega
      have hbit := bit_at hm k
      have p3 : (k : Int) ≤ 64 := by omega
      have p4 : ((k : Int)).toNat = k := by omega
      have HPRE := Lib.hid (selV_in4 H4.out m k hk)
      have hA4 := H4.out _ (List.getElem_mem hlt)
      have hA3 := H3.out _ (List.getElem_mem hlt)
      have HRI := Lib.hid (row_ri hu).1
      have HLT := Lib.hid hlt
      have HNY := Lib.hid (fun h => selV_yes (l := l) (m := m) hlt h)
      have HNN := Lib.hid (fun h => selV_no (l := l) (m := m) (k := k) h)
      clear hu
      generalize hA : l[k] = A at *
      generalize selV l m k = pre at *
      clear hA hroom
      by_cases hx : m / 2 ^ k % 2 = 1
      · rw [hx] at hbit
        have HNX := Lib.hid (HNY.out hx)
        clear hx
        go_wp2_with fail
        go_loop [5, 7] (fun x i => ∃ j : Nat, j ≤ A.2.length ∧ i = .int .i64 j ∧ x = .int .i64 (bs (pre ++ A.2.take j) : Int)) (fun _ i => A.2.length - (intOf i).toNat)
        case atStart => exact ⟨0, Nat.zero_le _, rfl, by simp⟩
        case round =>
          obtain ⟨j, hj, rfl, rfl⟩ := hrel
          by_cases hjl : j < A.2.length
          · obtain ⟨b2, off2, cap2, e1, hbB2, hc2⟩ := ri_at HRI.out hjl
            injection e1 with e1 e2 e3
            subst e1 e3
            have i1 : (0 : Int) ≤ (j : Int) := by omega
            have i2 : (j : Int) < (A.2.length : Int) := by omega
            have hz4 := hA4 _ (List.getElem_mem hjl)
            have hpre : In4 (pre ++ A.2.take j) := fun x hx' => by
              rcases List.mem_append.1 hx' with q | q
              · exact HPRE.out x q
              · exact hA4 x (List.mem_of_mem_take q)
            have hor := or_nat (bs_lt hpre) (pow4n hz4)
            have HNJ := Lib.hid (show bs (pre ++ A.2.take (j + 1)) = bs (pre ++ A.2.take j) ||| 2 ^ A.2[j].toNat by rw [List.take_succ_eq_append_getElem hjl, ← List.append_assoc, bs_snoc])
            clear hpre
            generalize bs (pre ++ A.2.take j) = sn at *
            generalize A.2[j] = z at *
            rcases c4 hz4 with rfl | rfl | rfl | rfl
            all_goals
              go_wp2
              go_round
              case rel => exact ⟨j + 1, by omega, by go_num, by rw [HNJ.out]; first | rfl | exact congrArg _ hor⟩
              case measure => simp [intOf]; omega
          · have ej : j = A.2.length := by omega
            subst ej
            rw [List.take_length] at *
            go_wp2
            go_round
            case rel => exact ⟨k + 1, by have := HLT.out; omega, by go_num, by rw [HNX.out]⟩
            case measure => have := HLT.out; simp [intOf]; omega
      · have hz : m / 2 ^ k % 2 = 0 := by omega
        rw [hz] at hbit
        have HNX := Lib.hid (HNN.out hx)
        clear hx hz
        go_wp2_with fail
        go_loop [5, 7] (fun x i => i = .int .i64 ((0 : Nat) : Int) ∧ x = .int .i64 (bs pre : Int)) (fun _ _ => 0)
        case atStart => exact ⟨rfl, rfl⟩
        case round =>
          obtain ⟨rfl, rfl⟩ := hrel
          by_cases hjl : (0 : Int) < (A.2.length : Int)
          · go_wp2
            go_round
            case rel => exact ⟨k + 1, by have := HLT.out; omega, by go_num, by rw [HNX.out]⟩
            case measure => have := HLT.out; simp [intOf]; omega
          · go_wp2
            go_round
            case rel => exact ⟨k + 1, by have := HLT.out; omega, by go_num, by rw [HNX.out]⟩
            case measure => have := HLT.out; simp [intOf]; omega
    · have ek : k = l.length := by omega
      subst ek
      go_wp2_with fail
      go_ret
      exact ⟨rfl, HB.out⟩
theorem mask_facts {n m : Int} {l : List A2} (h : mOk n l m = true) : ∃ t : Nat, m = (t : Int) ∧ t < 16 ∧ l.length ≤ 4 ∧ (∀ A ∈ l, In4 A.2) ∧ (∀ A ∈ l, A.2.length ≤ 3) ∧ mB n l m = bs (selV l t l.length) := by
  obtain ⟨hq, h4, t, rfl, ht⟩ := mOk_nat h
  have hp := qOk_iff.1 hq
  refine ⟨t, rfl, ht, h4, hp.in4, fun A hA => (hp.2.2.2.2.1 A hA).2.2.1, ?_⟩
  rw [mB_yes h]
  rfl
set_option maxRecDepth 100000 in
theorem spec_maskvars (n m : Int) (u : Value) (l : List A2) (S : Nat → Prop) (w : World) (hr : atomsC.rd w S [u] l) :
    Calls Try.prog 99 #[.agg #[.int .i64 n, u], .int .i64 m] w fun e w' => ∃ v' fp, e = .returned v' ∧ rowC.ow w' w.heap.size [v'] (varsL (mB n l m)) fp ∧ fp.Nodup ∧ Below w.heap.size w w' := by
  have HV := Lib.hid (fun w' (hb : Below w.heap.size w w') => spec_mask n m u l S w' (Cd.later hr hb))
  have HR := Lib.hid (fun w' (hb : Below w.heap.size w w') => Cd.later hr hb)
  obtain ⟨a, cap, rfl, hlm⟩ := Cd.sl_form hr
  clear hr
  have HC := Lib.hid (Loc2.of (row_alloc w (.cells #[.int .i64 n, .slice a l.length cap] 60)))
  have HB := Lib.hid (below_alloc w (.cells #[.int .i64 n, .slice a l.length cap] 60))
  cases hq : mOk n l m
  · have HZ := Lib.hid (show varsL (mB n l m) = [] by rw [mB_no hq]; exact varsL_zero)
    rw [hq] at HV
    clear hq
    go_enter Try.func99, Try.ntmps99
    go_wp2_with fail
    generalize w.alloc _ = W at *
    refine (HV.out _ HB.out).mono ?_
    rintro e w1 ⟨rfl, hb1⟩
    have HB1 := Lib.hid (below_then HB.out hb1)
    clear hb1
    have HE := Lib.hid (And.intro (Ints.OwnI.empty w1 w.heap.size 3 HB1.out.size) (below_then HB1.out (below_alloc w1 (.cells #[] 3))))
    go_wp2_with fail
    go_ret
    exact ⟨_, _, rfl, by rw [HZ.out]; exact Cd.ow_of_own HE.out.1 (fun x hx => by cases hx), Cd.own_nodup, HE.out.2⟩
  rw [hq] at HV
  obtain ⟨t, rfl, ht, hl4, h4, h3, hmb⟩ := mask_facts hq
  rw [hmb]
  have h16 : bs (selV l t l.length) < 16 := bs_lt (selV_in4 h4 _ _ (Nat.le_refl _))
  have HBI := Lib.hid (fun w' (hb : Below w.heap.size w w') => spec_bits n t (.slice a l.length cap) l S w' (HR.out w' hb) ht hl4 h4 h3)
  have HL := Lib.hid (fun w' => spec_list (bs (selV l t l.length)) w' h16)
  clear hq hmb h4 h3 h16
  generalize bs (selV l t l.length) = s at *
  go_enter Try.func99, Try.ntmps99
  go_wp2_with fail
  generalize w.alloc _ = W at *
  refine (HV.out _ HB.out).mono ?_
  rintro e w1 ⟨rfl, hb1⟩
  have HB1 := Lib.hid (below_then HB.out hb1)
  have c0 := (HC.out.later hb1).c0
  have c1 := (HC.out.later hb1).c1
  clear hb1
  go_wp2_with fail
  refine (HBI.out _ HB1.out).mono ?_
  rintro e w2 ⟨rfl, hb2⟩
  have HB2 := Lib.hid (below_then HB1.out hb2)
  clear hb2
  go_wp2_with fail
  refine (HL.out w2).mono ?_
  rintro e w3 ⟨v', fp, rfl, ho, hn, hb3⟩
  have HO := Lib.hid (And.intro (rowC.ow_base ho HB2.out.size) (And.intro hn (below_then HB2.out hb3)))
  clear ho hn hb3
  go_wp2_with fail
  go_ret
  exact ⟨_, fp, rfl, HO.out.1, HO.out.2.1, HO.out.2.2⟩
set_option maxRecDepth 100000 in
set_option maxHeartbeats 1600000 in
theorem impl_varsof (n m : Int) (u : Value) (l : List A2) (S : Nat → Prop) (w : World) (hr : atomsC.rd w S [u] l) :
    Calls Try.prog 101 #[.agg #[.int .i64 n, u], .int .i64 m] w fun e w' => e = .returned (.int .i64 (mB n l m : Int)) ∧ Below w.heap.size w w' := by
  have HV := Lib.hid (fun w' (hb : Below w.heap.size w w') => impl_valid n u l S w' (Cd.later hr hb))
  have HR := Lib.hid (fun w' (hb : Below w.heap.size w w') => Cd.later hr hb)
  obtain ⟨a, cap, rfl, hlm⟩ := Cd.sl_form hr
  clear hr
  have HC := Lib.hid (Loc2.of (row_alloc w (.cells #[.int .i64 n, .slice a l.length cap] 60)))
  have HB := Lib.hid (below_alloc w (.cells #[.int .i64 n, .slice a l.length cap] 60))
  cases hq : qOk n l
  · have HZ := Lib.hid (show ((mB n l m : Nat) : Int) = 0 by rw [mB_no (show mOk n l m = false by unfold mOk; rw [hq]; rfl)]; rfl)
    rw [hq] at HV
    clear hq
    go_enter Try.func101, Try.ntmps101
    go_wp2_with fail
    generalize w.alloc _ = W at *
    refine (HV.out _ HB.out).mono ?_
    rintro e w1 ⟨rfl, hb1⟩
    have HB1 := Lib.hid (below_then HB.out hb1)
    clear hb1
    go_wp2_with fail
    go_ret
    exact ⟨ret_int HZ.out.symm, HB1.out⟩
  rw [hq] at HV
  have h4 := (qOk_iff.1 hq).2.2.2.1
  have hpw := pow_len h4
  have q1 := hpw.1
  have q2 := hpw.2.1
  have q3 := hpw.2.2
  have q5 : (l.length : Int) ≤ 64 := by omega
  have q6 : ((l.length : Int)).toNat = l.length := by omega
  clear hpw
  by_cases hm : 0 ≤ m ∧ m < 2 ^ l.length
  case neg =>
    have HZ := Lib.hid (show ((mB n l m : Nat) : Int) = 0 by rw [mB_no (show mOk n l m = false by unfold mOk; rw [hq, decide_eq_false hm]; rfl)]; rfl)
    clear hq
    by_cases hm0 : m < 0
    · clear hm
      go_enter Try.func101, Try.ntmps101
      go_wp2_with fail
      generalize w.alloc _ = W at *
      refine (HV.out _ HB.out).mono ?_
      rintro e w1 ⟨rfl, hb1⟩
      have HB1 := Lib.hid (below_then HB.out hb1)
      clear hb1
      go_wp2_with fail
      go_ret
      exact ⟨ret_int HZ.out.symm, HB1.out⟩
    · have hmg : (2 : Int) ^ l.length ≤ m := by omega
      clear hm
      go_enter Try.func101, Try.ntmps101
      go_wp2_with fail
      generalize w.alloc _ = W at *
      refine (HV.out _ HB.out).mono ?_
      rintro e w1 ⟨rfl, hb1⟩
      have HB1 := Lib.hid (below_then HB.out hb1)
      have c0 := (HC.out.later hb1).c0
      have c1 := (HC.out.later hb1).c1
      clear hb1
      go_wp2_with fail
      go_ret
      exact ⟨ret_int HZ.out.symm, HB1.out⟩
  obtain ⟨t, rfl, ht, _, h44, h3, hmb⟩ := mask_facts (show mOk n l m = true by unfold mOk; rw [hq, decide_eq_true hm]; rfl)
  rw [hmb]
  have H4 := Lib.hid h44
  have m1 : ¬ ((t : Int) < 0) := by omega
  have m2 : ¬ ((2 : Int) ^ l.length ≤ (t : Int)) := by omega
  clear hq hm hmb h44 h3
  go_enter Try.func101, Try.ntmps101
  go_wp2_with fail
  generalize w.alloc _ = W at *
  refine (HV.out _ HB.out).mono ?_
  rintro e w1 ⟨rfl, hb1⟩
  have HB1 := Lib.hid (below_then HB.out hb1)
  have HC1 := Lib.hid (HC.out.later hb1)
  have c0 := HC1.out.c0
  have c1 := HC1.out.c1
  clear hb1
  go_wp2_with fail
  clear c0 c1 m1 m2 q1 q2 q3 q5 q6
  go_loopw [5, 26] (fun x i wr => ∃ k : Nat, k ≤ l.length ∧ i = .int .i64 k ∧ x = .int .i64 (bs (selV l t k) : Int) ∧ Below w1.heap.size w1 wr) (fun _ i _ => l.length - (intOf i).toNat)
  case atStart => exact ⟨0, Nat.zero_le _, rfl, rfl, Below.refl _ _⟩
  case round =>
    obtain ⟨k, hk, rfl, rfl, hbw⟩ := hrel
    have HBW := Lib.hid hbw
    by_cases hlt : k < l.length
    · obtain ⟨b, off, cap', au, cu, e1, hbB, c0, c1, hs1, hu, hroom⟩ := atom_at2 (HR.out wr (below_then HB1.out hbw)) hlt
      injection e1 with e1 e2 e3
      subst e1 e3
      have p1 : (0 : Int) ≤ (k : Int) := by omega
      have p2 : (k : Int) < (l.length : Int) := by omega
      have hbit := bit_at ht k
      have p3 : (k : Int) ≤ 64 := by omega
      have p4 : ((k : Int)).toNat = k := by omega
      have HRU := Lib.hid hu
      have HLT := Lib.hid hlt
      have hAl := below_alloc wr (.cells #[.string l[k].1, .slice au l[k].2.length cu] 130 (0, 0))
      have HB2 := Lib.hid (below_then HBW.out hAl)
      have HA4 := Lib.hid (H4.out _ (List.getElem_mem hlt))
      clear hu hbw
      by_cases hx : t / 2 ^ k % 2 = 1
      · have HNX := Lib.hid (show bs (selV l t (k + 1)) = bs (selV l t k) ||| bs l[k].2 by rw [selV_yes hlt hx, bs_app]; rfl)
        have hor := or_nat (bs_lt (selV_in4 H4.out t k hk)) (bs_lt HA4.out)
        have HBS := Lib.hid (bit_set (.slice au l[k].2.length cu) l[k].2 _ _ (row_ri (Cd.later HRU.out hAl)).1 HA4.out)
        rw [hx] at hbit
        clear hx hAl
        generalize bs (selV l t k) = s at *
        generalize bs l[k].2 = s2 at *
        go_wp2_with fail
        refine HBS.out.mono ?_
        rintro e w3 ⟨rfl, rfl⟩
        go_wp2_with fail
        go_roundw
        case rel => exact ⟨k + 1, by have := HLT.out; omega, by go_num, by rw [HNX.out], HB2.out⟩
        case measure => have := HLT.out; simp [intOf]; omega
      · have HNX := Lib.hid (show bs (selV l t (k + 1)) = bs (selV l t k) by rw [selV_no hx])
        have hz : t / 2 ^ k % 2 = 0 := by omega
        rw [hz] at hbit
        clear hx hz hAl
        generalize bs (selV l t k) = s at *
        go_wp2_with fail
        go_roundw
        case rel => exact ⟨k + 1, by have := HLT.out; omega, by go_num, by rw [HNX.out], HB2.out⟩
        case measure => have := HLT.out; simp [intOf]; omega
    · have ek : k = l.length := by omega
      subst ek
      clear hbw
      go_wp2_with fail
      go_ret
      exact ⟨rfl, below_then HB1.out HBW.out⟩
end Go.Proofs.Ytklamhnecncenaa.QryImp

namespace Go.Proofs.Ytklamhnecncenaa.QgMath
open Go Go.RowKit Byt Ints IntsLaw Cd Rows2 Tab TabSpec Exact Atom TabParse QryMath
--PLAIN
/-- Which pair of atoms, as a bit of the graph. -/
def ix (i j : Nat) : Nat := if i = 0 then (if j = 1 then 0 else if j = 2 then 1 else 2) else if i = 1 then (if j = 2 then 3 else 4) else 5
def adj (G i j : Nat) : Bool := if i < j then G / 2 ^ ix i j % 2 == 1 else if j < i then G / 2 ^ ix j i % 2 == 1 else false
/-- Is atom i beside an atom of the mask? -/
def anyA (G t i : Nat) : Bool := (t / 2 ^ 0 % 2 == 1 && adj G 0 i) || (t / 2 ^ 1 % 2 == 1 && adj G 1 i) || (t / 2 ^ 2 % 2 == 1 && adj G 2 i) || (t / 2 ^ 3 % 2 == 1 && adj G 3 i)
def nx (G t i : Nat) : Bool := t / 2 ^ i % 2 == 0 && anyA G t i
def nearTo (G t : Nat) : Nat → Nat
  | 0 => 0
  | k + 1 => if nx G t k then nearTo G t k ||| 2 ^ k else nearTo G t k
def near (G t : Nat) : Nat := nearTo G t 4
def low (m : Nat) : Nat := if m % 2 = 1 then 1 else if m / 2 % 2 = 1 then 2 else if m / 4 % 2 = 1 then 4 else if m / 8 % 2 = 1 then 8 else 0
def st (G m x : Nat) : Nat := x ||| (near G x &&& m)
def it (G m : Nat) : Nat → Nat
  | 0 => low m
  | k + 1 => st G m (it G m k)
def conn (G m : Nat) : Bool := m != 0 && it G m 4 == m
/-- The pairs among the first n atoms. -/
def pairs (n : Nat) : Nat := if n ≤ 1 then 0 else if n = 2 then 1 else if n = 3 then 11 else 63
theorem it_n : ∀ n ≤ 4, ∀ G < 64, G &&& pairs n = G → ∀ m < 2 ^ n, 1 ≤ m → it G m n = it G m 4 := by decide +kernel
theorem it_stop : ∀ G < 64, ∀ m < 16, ∀ k < 5, it G m k = it G m (k + 1) → it G m k = it G m 4 := by decide +kernel
theorem it_five : ∀ G < 64, ∀ m < 16, it G m 5 = it G m 4 := by decide +kernel
theorem it_up : ∀ G < 64, ∀ m < 16, ∀ k ≤ 5, it G m k ≤ it G m (k + 1) := by decide +kernel
theorem it_lt : ∀ G < 64, ∀ m < 16, ∀ k ≤ 6, it G m k < 16 := by decide +kernel
theorem low_pos : ∀ m < 16, 1 ≤ m → 1 ≤ low m := by decide +kernel
theorem near_lt : ∀ G < 64, ∀ x < 16, near G x < 16 := by decide +kernel
theorem nearTo_lt : ∀ G < 64, ∀ x < 16, ∀ k ≤ 4, nearTo G x k < 16 := by decide +kernel
def isSplit (G m p : Nat) : Bool := (p &&& m == p) && (conn G p && conn G (m - p))
def splits (G m : Nat) : List Nat := (List.range m).filter (isSplit G m)

/-- The numbers below k that p holds of. -/
def fil (p : Nat → Bool) (k : Nat) : List Int := ((List.range k).filter p).map Int.ofNat
theorem fil_yes {p : Nat → Bool} {k : Nat} (h : p k = true) : fil p (k + 1) = fil p k ++ [(k : Int)] := by
  unfold fil
  rw [List.range_succ, List.filter_append, List.map_append]
  simp [h]
theorem fil_no {p : Nat → Bool} {k : Nat} (h : p k = false) : fil p (k + 1) = fil p k := by
  unfold fil
  rw [List.range_succ, List.filter_append, List.map_append]
  simp [h]
theorem fil_zero (p : Nat → Bool) : fil p 0 = [] := rfl
theorem fil_one {p : Nat → Bool} (h : p 0 = false) : fil p 1 = [] := by rw [fil_no h]; rfl
theorem fil_len (p : Nat → Bool) (k : Nat) : (fil p k).length ≤ k := by
  unfold fil
  rw [List.length_map]
  exact Nat.le_trans (List.length_filter_le _ _) (by rw [List.length_range]; exact Nat.le_refl _)
theorem inr_fil (p : Nat → Bool) (k : Nat) (hk : k ≤ 64) : ∀ x ∈ fil p k, -9223372036854775808 ≤ x ∧ x ≤ 9223372036854775807 := by
  intro x hx
  unfold fil at hx
  obtain ⟨y, hy, rfl⟩ := List.mem_map.1 hx
  have := List.mem_range.1 (List.mem_filter.1 hy).1
  simp only [Int.ofNat_eq_natCast]
  omega
theorem mem_fil {p : Nat → Bool} {k : Nat} {x : Int} : x ∈ fil p k ↔ ∃ y : Nat, y < k ∧ p y = true ∧ x = (y : Int) := by
  unfold fil
  constructor
  · intro h
    obtain ⟨y, hy, rfl⟩ := List.mem_map.1 h
    obtain ⟨h1, h2⟩ := List.mem_filter.1 hy
    exact ⟨y, List.mem_range.1 h1, h2, rfl⟩
  · rintro ⟨y, h1, h2, rfl⟩
    exact List.mem_map.2 ⟨y, List.mem_filter.2 ⟨List.mem_range.2 h1, h2⟩, rfl⟩

/-! The graph of a query. -/
def gB (b0 b1 b2 b3 b4 b5 : Bool) : Nat := b0.toNat + 2 * b1.toNat + 4 * b2.toNat + 8 * b3.toNat + 16 * b4.toNat + 32 * b5.toNat
theorem gB_all : ∀ b0 b1 b2 b3 b4 b5, gB b0 b1 b2 b3 b4 b5 < 64 := by decide
theorem gB_01 : ∀ b0 b1 b2 b3 b4 b5, adj (gB b0 b1 b2 b3 b4 b5) 0 1 = b0 ∧ adj (gB b0 b1 b2 b3 b4 b5) 1 0 = b0 := by decide
theorem gB_02 : ∀ b0 b1 b2 b3 b4 b5, adj (gB b0 b1 b2 b3 b4 b5) 0 2 = b1 ∧ adj (gB b0 b1 b2 b3 b4 b5) 2 0 = b1 := by decide
theorem gB_03 : ∀ b0 b1 b2 b3 b4 b5, adj (gB b0 b1 b2 b3 b4 b5) 0 3 = b2 ∧ adj (gB b0 b1 b2 b3 b4 b5) 3 0 = b2 := by decide
theorem gB_12 : ∀ b0 b1 b2 b3 b4 b5, adj (gB b0 b1 b2 b3 b4 b5) 1 2 = b3 ∧ adj (gB b0 b1 b2 b3 b4 b5) 2 1 = b3 := by decide
theorem gB_13 : ∀ b0 b1 b2 b3 b4 b5, adj (gB b0 b1 b2 b3 b4 b5) 1 3 = b4 ∧ adj (gB b0 b1 b2 b3 b4 b5) 3 1 = b4 := by decide
theorem gB_23 : ∀ b0 b1 b2 b3 b4 b5, adj (gB b0 b1 b2 b3 b4 b5) 2 3 = b5 ∧ adj (gB b0 b1 b2 b3 b4 b5) 3 2 = b5 := by decide
theorem gB_pairs : ∀ b0 b1 b2 b3 b4 b5, gB b0 b1 b2 b3 b4 b5 &&& pairs 4 = gB b0 b1 b2 b3 b4 b5 ∧ gB b0 b1 false b3 false false &&& pairs 3 = gB b0 b1 false b3 false false ∧ gB b0 false false false false false &&& pairs 2 = gB b0 false false false false false := by decide
/-- The variables of atom i. -/
def V (l : List (ByteArray × List Int)) (i : Nat) : Nat := bs (l.getD i (⟨#[]⟩, [])).2
def eB (l : List (ByteArray × List Int)) (i j : Nat) : Bool := V l i &&& V l j != 0
def gr (l : List (ByteArray × List Int)) : Nat := gB (eB l 0 1) (eB l 0 2) (eB l 0 3) (eB l 1 2) (eB l 1 3) (eB l 2 3)
theorem gr_lt (l : List (ByteArray × List Int)) : gr l < 64 := gB_all _ _ _ _ _ _
theorem eB_comm (l : List (ByteArray × List Int)) (i j : Nat) : eB l i j = eB l j i := by unfold eB; rw [Nat.and_comm]
theorem gr_adj (l : List (ByteArray × List Int)) {i j : Nat} (hi : i < 4) (hj : j < 4) (h : i ≠ j) : adj (gr l) i j = eB l i j := by
  have ci : i = 0 ∨ i = 1 ∨ i = 2 ∨ i = 3 := by omega
  have cj : j = 0 ∨ j = 1 ∨ j = 2 ∨ j = 3 := by omega
  unfold gr
  rcases ci with rfl | rfl | rfl | rfl <;> rcases cj with rfl | rfl | rfl | rfl <;> first | exact absurd rfl h | exact (gB_01 _ _ _ _ _ _).1 | exact (gB_02 _ _ _ _ _ _).1 | exact (gB_03 _ _ _ _ _ _).1 | exact (gB_12 _ _ _ _ _ _).1 | exact (gB_13 _ _ _ _ _ _).1 | exact (gB_23 _ _ _ _ _ _).1 | exact (gB_01 _ _ _ _ _ _).2.trans (eB_comm l _ _) | exact (gB_02 _ _ _ _ _ _).2.trans (eB_comm l _ _) | exact (gB_03 _ _ _ _ _ _).2.trans (eB_comm l _ _) | exact (gB_12 _ _ _ _ _ _).2.trans (eB_comm l _ _) | exact (gB_13 _ _ _ _ _ _).2.trans (eB_comm l _ _) | exact (gB_23 _ _ _ _ _ _).2.trans (eB_comm l _ _)
theorem V_out {l : List (ByteArray × List Int)} {i : Nat} (h : l.length ≤ i) : V l i = 0 := by
  unfold V
  rw [List.getD_eq_getElem?_getD, List.getElem?_eq_none h]
  rfl
theorem V_in {l : List (ByteArray × List Int)} {i : Nat} (h : i < l.length) : V l i = bs l[i].2 := by
  unfold V
  rw [List.getD_eq_getElem?_getD, List.getElem?_eq_getElem h]
  rfl
theorem V_lt {l : List (ByteArray × List Int)} (h : ∀ A ∈ l, In4 A.2) (i : Nat) : V l i < 16 := by
  by_cases hi : i < l.length
  · rw [V_in hi]; exact bs_lt (h _ (List.getElem_mem hi))
  · rw [V_out (by omega)]; decide
theorem eB_out {l : List (ByteArray × List Int)} {i j : Nat} (h : l.length ≤ j) : eB l i j = false := by
  unfold eB
  rw [V_out h, Nat.and_zero]
  rfl
theorem gr_pairs {l : List (ByteArray × List Int)} (h : l.length ≤ 4) : gr l &&& pairs l.length = gr l := by
  have hc : l.length ≤ 1 ∨ l.length = 2 ∨ l.length = 3 ∨ l.length = 4 := by omega
  unfold gr
  rcases hc with q | q | q | q
  · rw [eB_out (j := 1) q, eB_out (j := 2) (by omega), eB_out (j := 3) (by omega), eB_out (j := 2) (by omega), eB_out (j := 3) (by omega), eB_out (j := 3) (by omega)]
    unfold pairs
    rw [if_pos q]
    rfl
  · rw [q, eB_out (j := 2) (by omega), eB_out (j := 3) (by omega), eB_out (j := 2) (by omega), eB_out (j := 3) (by omega), eB_out (j := 3) (by omega)]
    exact (gB_pairs _ false false false false false).2.2
  · rw [q, eB_out (j := 3) (by omega), eB_out (j := 3) (by omega), eB_out (j := 3) (by omega)]
    exact (gB_pairs _ _ false _ false false).2.1
  · rw [q]
    exact (gB_pairs _ _ _ _ _ _).1
theorem or_ne (a b : Nat) : (a ||| b != 0) = (a != 0 || b != 0) := by
  rw [Bool.eq_iff_iff, Bool.or_eq_true, bne_iff_ne, bne_iff_ne, bne_iff_ne, ne_eq, Nat.or_eq_zero_iff]
  omega
theorem and_if (x v : Nat) (c : Prop) [Decidable c] : (x &&& (if c then v else 0) != 0) = (decide c && (x &&& v != 0)) := by
  by_cases h : c <;> simp [h]
theorem bs_sel_succ (l : List (ByteArray × List Int)) (t k : Nat) : bs (selV l t (k + 1)) = bs (selV l t k) ||| (if t / 2 ^ k % 2 = 1 then V l k else 0) := by
  rw [selV, bs_app]
  unfold V
  split <;> rfl
theorem sel_out {l : List (ByteArray × List Int)} (t : Nat) : ∀ d, bs (selV l t (l.length + d)) = bs (selV l t l.length)
  | 0 => rfl
  | d + 1 => by
    rw [← Nat.add_assoc, bs_sel_succ, sel_out t d, V_out (by omega)]
    split <;> simp
theorem sel_four {l : List (ByteArray × List Int)} (h : l.length ≤ 4) (t : Nat) : bs (selV l t l.length) = bs (selV l t 4) := by
  have := sel_out (l := l) t (4 - l.length)
  rw [show l.length + (4 - l.length) = 4 by omega] at this
  exact this.symm
/-- Does atom i share a variable with the mask? -/
theorem sel_and {l : List (ByteArray × List Int)} (h : l.length ≤ 4) {t i : Nat} (hi : i < 4) (ht : t / 2 ^ i % 2 = 0) : (V l i &&& bs (selV l t l.length) != 0) = anyA (gr l) t i := by
  rw [sel_four h, bs_sel_succ, bs_sel_succ, bs_sel_succ, bs_sel_succ]
  rw [Nat.and_or_distrib_left, or_ne, Nat.and_or_distrib_left, or_ne, Nat.and_or_distrib_left, or_ne, Nat.and_or_distrib_left, or_ne]
  rw [and_if, and_if, and_if, and_if]
  have e : (V l i &&& bs (selV l t 0) != 0) = false := by simp [selV, bs, bsF]
  rw [e, Bool.false_or]
  have key : ∀ j, j < 4 → (decide (t / 2 ^ j % 2 = 1) && (V l i &&& V l j != 0)) = (t / 2 ^ j % 2 == 1 && adj (gr l) j i) := by
    intro j hj
    by_cases e : i = j
    · subst e
      rw [ht]
      rfl
    · rw [gr_adj l hj hi (Ne.symm e), eB_comm]
      rfl
  rw [key 0 (by decide), key 1 (by decide), key 2 (by decide), key 3 (by decide)]
  rfl
theorem pow_bit : ∀ k < 4, ∀ j < 4, (2 ^ k / 2 ^ j % 2 = 1 ↔ j = k) := by decide
theorem sel_one {l : List (ByteArray × List Int)} {k : Nat} (hk : k < 4) : ∀ j, j ≤ 4 → bs (selV l (2 ^ k) j) = if k < j then V l k else 0
  | 0, _ => by simp [selV, bs, bsF]
  | j + 1, hj => by
    rw [bs_sel_succ, sel_one hk j (by omega)]
    by_cases e : j = k
    · subst e
      rw [if_neg (by omega), if_pos ((pow_bit j hk j hk).2 rfl), if_pos (by omega), Nat.zero_or]
    · rw [if_neg (c := 2 ^ k / 2 ^ j % 2 = 1) (fun q => e ((pow_bit k hk j (by omega)).1 q)), Nat.or_zero]
      by_cases q : k < j
      · rw [if_pos q, if_pos (by omega)]
      · rw [if_neg q, if_neg (by omega)]
theorem sel_one_in {l : List (ByteArray × List Int)} (h : l.length ≤ 4) {k : Nat} (hk : k < l.length) : bs (selV l (2 ^ k) l.length) = V l k := by
  rw [sel_one (by omega) _ h, if_pos hk]
theorem near_out {l : List (ByteArray × List Int)} (h4 : l.length ≤ 4) (t : Nat) : ∀ d, l.length + d ≤ 4 → nearTo (gr l) t (l.length + d) = nearTo (gr l) t l.length
  | 0, _ => rfl
  | d + 1, h => by
    rw [← Nat.add_assoc, nearTo]
    have e : nx (gr l) t (l.length + d) = false := by
      unfold nx
      by_cases ht : t / 2 ^ (l.length + d) % 2 = 0
      · rw [← sel_and h4 (by omega) ht, V_out (by omega), Nat.zero_and]
        exact Bool.and_false _
      · rw [beq_eq_false_iff_ne.2 ht]
        rfl
    rw [e]
    exact near_out h4 t d (by omega)
theorem near_len {l : List (ByteArray × List Int)} (h4 : l.length ≤ 4) (t : Nat) : nearTo (gr l) t l.length = near (gr l) t := by
  have := near_out h4 t (4 - l.length) (by omega)
  rw [show l.length + (4 - l.length) = 4 by omega] at this
  exact this.symm
theorem it_len {l : List (ByteArray × List Int)} (h4 : l.length ≤ 4) {m : Nat} (hm : m < 2 ^ l.length) (h1 : 1 ≤ m) : it (gr l) m l.length = it (gr l) m 4 :=
  it_n _ h4 _ (gr_lt l) (gr_pairs h4) m hm h1

/-! Answers. -/
def fm (n : Int) (l : List (ByteArray × List Int)) : Nat := if qOk n l then 2 ^ l.length - 1 else 0
def maL (m : Int) : List Int := if 0 ≤ m ∧ m < 16 then varsL m.toNat else []
def nb (n : Int) (l : List (ByteArray × List Int)) (m : Int) : Nat := if mOk n l m then near (gr l) m.toNat else 0
def cOk (n : Int) (l : List (ByteArray × List Int)) (m : Int) : Bool := mOk n l m && conn (gr l) m.toNat
def cmL (n : Int) (l : List (ByteArray × List Int)) : List Int := fil (conn (gr l)) (fm n l + 1)
def jsL (n : Int) (l : List (ByteArray × List Int)) (m : Int) : List Int := if cOk n l m then fil (isSplit (gr l) m.toNat) m.toNat else []
theorem conn_zero (G : Nat) : conn G 0 = false := rfl
theorem fm_no {n : Int} {l : List (ByteArray × List Int)} (h : qOk n l = false) : fm n l = 0 := by unfold fm; rw [h]; rfl
theorem fm_yes {n : Int} {l : List (ByteArray × List Int)} (h : qOk n l = true) : fm n l = 2 ^ l.length - 1 := by unfold fm; rw [h]; rfl
theorem fm_lt (n : Int) (l : List (ByteArray × List Int)) : fm n l < 16 := by
  cases h : qOk n l
  · rw [fm_no h]; decide
  · rw [fm_yes h]
    have := (qOk_iff.1 h).2.2.2.1
    have h2 : 2 ^ l.length ≤ 2 ^ 4 := Nat.pow_le_pow_right (by decide) this
    omega
theorem nb_no {n m : Int} {l : List (ByteArray × List Int)} (h : mOk n l m = false) : nb n l m = 0 := by unfold nb; rw [h]; rfl
theorem nb_yes {n m : Int} {l : List (ByteArray × List Int)} (h : mOk n l m = true) : nb n l m = near (gr l) m.toNat := by unfold nb; rw [h]; rfl
theorem mOk_iff {n m : Int} {l : List (ByteArray × List Int)} : mOk n l m = true ↔ qOk n l = true ∧ 0 ≤ m ∧ m < 2 ^ l.length := by
  unfold mOk
  rw [Bool.and_eq_true, decide_eq_true_eq]
theorem pow_cast (k : Nat) : (2 : Int) ^ k = ((2 ^ k : Nat) : Int) := by norm_cast
theorem mOk_fm {n m : Int} {l : List (ByteArray × List Int)} (h : mOk n l m = true) : ∃ t : Nat, m = (t : Int) ∧ t ≤ fm n l ∧ t < 2 ^ l.length := by
  obtain ⟨hq, h0, h1⟩ := mOk_iff.1 h
  rw [pow_cast] at h1
  refine ⟨m.toNat, by omega, ?_, by omega⟩
  rw [fm_yes hq]
  omega
theorem fm_mOk {n : Int} {l : List (ByteArray × List Int)} {t : Nat} (h1 : 1 ≤ t) (h : t ≤ fm n l) : mOk n l (t : Int) = true := by
  cases hq : qOk n l
  · rw [fm_no hq] at h; omega
  · rw [fm_yes hq] at h
    rw [mOk_iff, pow_cast]
    have := Nat.two_pow_pos l.length
    exact ⟨hq, by omega, by omega⟩
theorem cOk_iff {n m : Int} {l : List (ByteArray × List Int)} : cOk n l m = true ↔ mOk n l m = true ∧ conn (gr l) m.toNat = true := by
  unfold cOk
  rw [Bool.and_eq_true]
theorem cOk_fm {n m : Int} {l : List (ByteArray × List Int)} (h : cOk n l m = true) : ∃ t : Nat, m = (t : Int) ∧ t ≤ fm n l ∧ t < 2 ^ l.length ∧ 1 ≤ t ∧ conn (gr l) t = true := by
  obtain ⟨h1, h2⟩ := cOk_iff.1 h
  obtain ⟨t, rfl, h3, h4⟩ := mOk_fm h1
  rw [Int.toNat_natCast] at h2
  refine ⟨t, rfl, h3, h4, ?_, h2⟩
  rcases Nat.eq_zero_or_pos t with q | q
  · subst q; cases h2
  · exact q
theorem jsL_no {n m : Int} {l : List (ByteArray × List Int)} (h : cOk n l m = false) : jsL n l m = [] := by unfold jsL; rw [h]; rfl
theorem jsL_yes {n : Int} {t : Nat} {l : List (ByteArray × List Int)} (h : cOk n l (t : Int) = true) : jsL n l (t : Int) = fil (isSplit (gr l) t) t := by unfold jsL; rw [h]; rfl
theorem low_bits : ∀ m < 16, bits .and .i64 ((m : Nat) : Int) (-((m : Nat) : Int)) = ((low m : Nat) : Int) := by decide
theorem not_bits : ∀ a < 16, ∀ b < 16, bits .andNot .i64 ((a : Nat) : Int) ((b : Nat) : Int) = ((a &&& (15 - b) : Nat) : Int) := by decide +kernel
theorem not_sub : ∀ a < 16, ∀ b < 16, ((a &&& (15 - b) = 0) ↔ a &&& b = a) ∧ (b &&& a = b → a &&& (15 - b) = a - b) := by decide +kernel
theorem not_any {a : Nat} (ha : a < 16) (m : Int) : ∃ r : Nat, r < 16 ∧ bits .andNot .i64 ((a : Nat) : Int) m = (r : Int) := by
  refine ⟨(BitVec.ofInt 64 (a : Int) &&& ~~~(BitVec.ofInt 64 m)).toNat, ?_, ?_⟩
  · rw [BitVec.toNat_and, BitVec.ofInt_natCast, BitVec.toNat_ofNat]
    exact Nat.lt_of_le_of_lt Nat.and_le_left (Nat.lt_of_le_of_lt (Nat.mod_le _ _) ha)
  · have hlt : (BitVec.ofInt 64 (a : Int) &&& ~~~(BitVec.ofInt 64 m)).toNat < 16 := by
      rw [BitVec.toNat_and, BitVec.ofInt_natCast, BitVec.toNat_ofNat]
      exact Nat.lt_of_le_of_lt Nat.and_le_left (Nat.lt_of_le_of_lt (Nat.mod_le _ _) ha)
    show IntKind.i64.wrap ((BitVec.ofInt 64 (a : Int) &&& ~~~(BitVec.ofInt 64 m)).toNat : Int) = _
    generalize (BitVec.ofInt 64 (a : Int) &&& ~~~(BitVec.ofInt 64 m)).toNat = r at *
    rw [IntKind.wrap_i64]
    omega
--PLAINEND
end Go.Proofs.Ytklamhnecncenaa.QgMath
