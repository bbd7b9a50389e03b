/- Data in memory by its type: slices whose elements take several cells. -/
import Derived.Test.YtnoennmhifmolaaCd
import Derived.Test.YtnoennmhifmolaaIntsLaw
namespace Go.Proofs.Ytnoennmhifmolaa.Cd
open Go Go.RowKit Byt Ints IntsLaw
namespace Cd
variable {α : Type}

/-- An element of a slice that is read. -/
theorem sl_at {e : TypeId} {c : Cd α} {w : World} {S : Nat → Prop} {v : Value} {l : List α} (h : (sl e c).rd w S [v] l) {k : Nat} (hk : k < l.length) :
    ∃ b off cap xs, v = .slice (some ⟨b, off, none⟩) l.length cap ∧ S b ∧ b < w.heap.size ∧ At w b (off + k * c.n) xs ∧ c.rd w S xs l[k] := by
  obtain ⟨ad, cap, e, _, hc⟩ := h
  injection e with e _
  subst e
  rcases hc with rfl | ⟨b, off, rfl, hS, hb, hc⟩
  · simp at hk
  obtain ⟨xs, h1, h2⟩ := hc k hk
  exact ⟨b, off, cap, xs, rfl, hS, hb, h1, h2⟩
theorem sl_form {e : TypeId} {c : Cd α} {w : World} {S : Nat → Prop} {v : Value} {l : List α} (h : (sl e c).rd w S [v] l) : ∃ a cap, v = .slice a l.length cap ∧ l.length ≤ 9223372036854775807 := by
  obtain ⟨ad, cap, e, hl, _⟩ := h
  injection e with e _
  exact ⟨ad, cap, e, hl⟩

/-- Cells stored from o on; none: left as it is. -/
def setO (w : World) (g o : Nat) : List (Option Value) → World
  | [] => w
  | none :: r => setO w g (o + 1) r
  | some x :: r => setO (w.setCell ⟨g, o, none⟩ x) g (o + 1) r
def setsO (L : List Value) (o : Nat) : List (Option Value) → List Value
  | [] => L
  | none :: r => setsO L (o + 1) r
  | some x :: r => setsO (L.set o x) (o + 1) r
def mergeO : List Value → List (Option Value) → List Value
  | v :: vs, x :: xs => x.getD v :: mergeO vs xs
  | _, _ => []
theorem setsO_mid : ∀ (xs : List (Option Value)) (A B C : List Value), xs.length = B.length → setsO (A ++ (B ++ C)) A.length xs = A ++ (mergeO B xs ++ C)
  | [], A, [], C, _ => rfl
  | none :: xs, A, b :: B, C, h => by
    have ih := setsO_mid xs (A ++ [b]) B C (by simpa using h)
    rw [List.length_append] at ih
    simp only [List.append_assoc, List.cons_append, List.nil_append] at ih
    exact ih
  | some x :: xs, A, b :: B, C, h => by
    have ih := setsO_mid xs (A ++ [x]) B C (by simpa using h)
    rw [List.length_append] at ih
    simp only [List.append_assoc, List.cons_append, List.nil_append] at ih
    show setsO ((A ++ (b :: B ++ C)).set A.length x) (A.length + 1) xs = _
    rw [List.set_append_right _ _ (Nat.le_refl _), Nat.sub_self]
    exact ih
theorem mergeO_len : ∀ (B : List Value) (xs : List (Option Value)), xs.length = B.length → (mergeO B xs).length = B.length
  | [], [], _ => rfl
  | _ :: B, _ :: xs, h => by
    show (mergeO B xs).length + 1 = _
    rw [mergeO_len B xs (by simpa using h)]
    rfl
theorem Each.all_len {c : Cd α} {w : World} {base : Nat} : ∀ {xss : List (List Value)} {l : List α} {fps : List (List Nat)}, Each c w base xss l fps → ∀ x ∈ xss, x.length = c.n
  | [], [], [], _, _, h => by cases h
  | x :: xs, _ :: az, _ :: fs, h, y, hy => by
    rcases List.mem_cons.1 hy with rfl | q
    · exact c.len (c.ow_rd h.1)
    · exact Each.all_len (xss := xs) (l := az) (fps := fs) h.2 y q
theorem take_flat_len {n : Nat} : ∀ {xss : List (List Value)} {t : Nat}, (∀ x ∈ xss, x.length = n) → t ≤ xss.length → (xss.take t).flatten.length = t * n
  | _, 0, _, _ => by simp
  | [], t + 1, _, h => by simp at h
  | x :: xs, t + 1, ha, h => by
    have := take_flat_len (xss := xs) (t := t) (fun y hy => ha y (List.mem_cons_of_mem _ hy)) (by simpa using h)
    rw [List.take_succ_cons, List.flatten_cons, List.length_append, this, ha x List.mem_cons_self, Nat.add_mul]
    omega
theorem flat_setO {n : Nat} {xss : List (List Value)} (ha : ∀ x ∈ xss, x.length = n) {t : Nat} (ht : t < xss.length) {xs : List (Option Value)} (hx : xs.length = n) :
    setsO xss.flatten (t * n) xs = (xss.set t (mergeO xss[t] xs)).flatten := by
  have e : xss.flatten = (xss.take t).flatten ++ (xss[t] ++ (xss.drop (t + 1)).flatten) := by
    conv => lhs; rw [← List.take_append_drop t xss, List.flatten_append, List.drop_eq_getElem_cons ht, List.flatten_cons]
  have e2 : (xss.set t (mergeO xss[t] xs)).flatten = (xss.take t).flatten ++ (mergeO xss[t] xs ++ (xss.drop (t + 1)).flatten) := by
    rw [List.set_eq_take_append_cons_drop, if_pos ht, List.flatten_append, List.flatten_cons]
  rw [e2, e, ← take_flat_len ha (Nat.le_of_lt ht)]
  exact setsO_mid xs _ _ _ (by rw [hx, ha _ (List.getElem_mem ht)])
theorem heap_setO {g : Nat} : ∀ (xs : List (Option Value)) {w : World} {o b : Nat}, b ≠ g → (setO w g o xs).heap[b]? = w.heap[b]?
  | [], _, _, _, _ => rfl
  | none :: r, _, _, _, h => heap_setO r h
  | some x :: r, w, _, b, h => (heap_setO r h).trans (Below.heap_setCell w _ x b h)
theorem own_setO {base g cap n size : Nat} {e : TypeId} : ∀ (xs : List (Option Value)) {w : World} {o : Nat} {L : List Value}, w.ownsRow base e size (.slice (some ⟨g, 0, none⟩) n cap) n L → (setO w g o xs).ownsRow base e size (.slice (some ⟨g, 0, none⟩) n cap) n (setsO L o xs)
  | [], _, _, _, h => h
  | none :: r, _, _, _, h => own_setO r h
  | some x :: r, _, o, _, h => own_setO r (World.ownsRow.stored h o x).1
theorem own_same {base g cap n size : Nat} {e : TypeId} {w w' : World} {L : List Value} (h : w.ownsRow base e size (.slice (some ⟨g, 0, none⟩) n cap) n L) (hg : w'.heap[g]? = w.heap[g]?) : w'.ownsRow base e size (.slice (some ⟨g, 0, none⟩) n cap) n L := by
  refine ⟨h.1, h.2.imp id ?_⟩
  rintro ⟨g', cap', cur, e1, h2, h3, h4⟩
  simp only [Value.slice.injEq, Option.some.injEq, Addr.mk.injEq, and_true, true_and] at e1
  obtain ⟨rfl, rfl⟩ := e1
  exact ⟨g, cap, cur, rfl, h2, hg.trans h3, h4⟩
theorem Each.upd {c : Cd α} {w w' : World} {base : Nat} {x : List Value} {a : α} {f : List Nat} : ∀ {xss : List (List Value)} {l : List α} {fps : List (List Nat)}, Each c w base xss l fps → ∀ t, t < fps.length →
    c.ow w' base x a f → (∀ i (hi : i < fps.length), i ≠ t → ∀ x a, c.ow w base x a fps[i] → c.ow w' base x a fps[i]) → Each c w' base (xss.set t x) (l.set t a) (fps.set t f)
  | [], [], [], _, _, hf, _, _ => by simp at hf
  | _ :: xs, _ :: az, g :: fs, h, 0, _, k, o => by
    refine ⟨k, Each.imp (xss := xs) (l := az) (fps := fs) h.2 fun x a g' hg hq => ?_⟩
    obtain ⟨i, hi, rfl⟩ := List.getElem_of_mem hg
    exact o (i + 1) (by simpa using hi) (by omega) x a hq
  | _ :: xs, _ :: az, g :: fs, h, t + 1, hf, k, o => by
    refine ⟨o 0 (by simp) (by omega) _ _ h.1, Each.upd (xss := xs) (l := az) (fps := fs) h.2 t (by simpa using hf) k fun i hi hne x a hq => ?_⟩
    exact o (i + 1) (by simpa using hi) (by omega) x a hq
theorem nodup_upd : ∀ {fps : List (List Nat)} {f : List Nat}, fps.flatten.Nodup → f.Nodup → ∀ t (ht : t < fps.length), (∀ b ∈ f, b ∈ fps[t] ∨ b ∉ fps.flatten) → (fps.set t f).flatten.Nodup
  | [], _, _, _, _, ht, _ => by simp at ht
  | f0 :: fs, f, h, hf, 0, _, hd => by
    rw [List.flatten_cons, List.nodup_append] at h
    show (f :: fs).flatten.Nodup
    rw [List.flatten_cons, List.nodup_append]
    refine ⟨hf, h.2.1, fun a ha b hb q => ?_⟩
    subst q
    rcases hd a ha with q | q
    · exact h.2.2 a q a hb rfl
    · exact q (by rw [List.flatten_cons]; exact List.mem_append_right _ hb)
  | f0 :: fs, f, h, hf, t + 1, ht, hd => by
    have h' := h
    rw [List.flatten_cons, List.nodup_append] at h
    have ht' : t < fs.length := by simpa using ht
    have hd' : ∀ b ∈ f, b ∈ fs[t] ∨ b ∉ (f0 :: fs).flatten := fun b hb => hd b hb
    show (f0 :: fs.set t f).flatten.Nodup
    rw [List.flatten_cons, List.nodup_append]
    refine ⟨h.1, nodup_upd h.2.1 hf t ht' (fun b hb => (hd' b hb).imp id fun q r => q (by rw [List.flatten_cons]; exact List.mem_append_right _ r)), fun a ha b hb q => ?_⟩
    subst q
    rcases mem_set hb with q | q
    · exact h.2.2 a ha a q rfl
    · rcases hd' a q with r | r
      · exact h.2.2 a ha a (List.mem_flatten.2 ⟨_, List.getElem_mem ht', r⟩) rfl
      · exact r (by rw [List.flatten_cons]; exact List.mem_append_left _ ha)

/-- Element t of an owned slice: its cells, its blocks, and what a change of it leaves. -/
theorem ow_elem {e : TypeId} {c : Cd α} {w : World} {base g cap n : Nat} {l : List α} {fp : List Nat} (h : (sl e c).ow w base [.slice (some ⟨g, 0, none⟩) n cap] l fp) {t : Nat} (ht : t < l.length) :
    ∃ us f, us.length = c.n ∧ At w g (t * c.n) us ∧ c.ow w base us l[t] f ∧ (∀ b ∈ f, b ∈ fp) ∧ (fp.Nodup → f.Nodup ∧ g ∉ f) ∧
      ∀ w' xs a f', xs.length = c.n → c.ow w' base (mergeO us xs) a f' → w'.heap[g]? = (setO w g (t * c.n) xs).heap[g]? → (∀ b ∈ fp, b ∉ f → b ≠ g → w'.heap[b]? = w.heap[b]?) → fp.Nodup → f'.Nodup → (∀ b ∈ f', b ∈ f ∨ b ∉ fp) →
        ∃ fp', (sl e c).ow w' base [.slice (some ⟨g, 0, none⟩) n cap] (l.set t a) fp' ∧ fp'.Nodup ∧ (∀ b ∈ fp', b ∈ fp ∨ b ∈ f') ∧ (f' = f → fp' = fp) := by
  obtain ⟨v', xss, fps, e1, hown, hE, rfl⟩ := h
  injection e1 with e1 _
  subst e1
  have hlen := hE.len
  have hfl := hE.flatten_len
  have hnl : n = l.length := by
    rcases hown.2 with ⟨e1, _⟩ | ⟨g', cap', cur, e1, _⟩
    · cases e1
    · injection e1
  subst hnl
  have hx : t < xss.length := by omega
  have hf : t < fps.length := by omega
  have hall := hE.all_len
  have hsub : ∀ b ∈ fps[t], b ∈ fps.flatten := fun b hb => List.mem_flatten.2 ⟨_, List.getElem_mem hf, hb⟩
  have hul : xss[t].length = c.n := hall _ (List.getElem_mem hx)
  refine ⟨xss[t], fps[t], hul, fun j hj => ?_, hE.get t ht hx hf, fun b hb => List.mem_append_right _ (hsub b hb), fun hd => ?_, fun w' xs a f' hxl hw' hg hk hd hfd hdis => ?_⟩
  · have hp := hE.part t hx j hj
    have hlt : t * c.n + j < l.length * c.n := by
      have := (List.getElem?_eq_some_iff.1 hp).1
      omega
    rw [World.ownsRow.cellAt hown _ hlt]
    exact hp
  · simp only [Value.ownBlock, Option.toList_some, List.cons_append, List.nil_append, List.nodup_cons] at hd
    exact ⟨(List.pairwise_flatten.1 hd.2).1 _ (List.getElem_mem hf), fun q => hd.1 (hsub g q)⟩
  · simp only [Value.ownBlock, Option.toList_some, List.cons_append, List.nil_append, List.nodup_cons] at hd hk hdis
    have hpw := (List.pairwise_flatten.1 hd.2).2
    have hE2 : Each c w' base (xss.set t (mergeO xss[t] xs)) (l.set t a) (fps.set t f') := hE.upd t hf hw' fun i hi hne x a hq => c.ow_keep hq fun b hb => hk b (List.mem_cons.2 (.inr (List.mem_flatten.2 ⟨_, List.getElem_mem hi, hb⟩))) (fun q => by
      rcases Nat.lt_or_gt_of_ne hne with hlt | hlt
      · exact (List.pairwise_iff_getElem.1 hpw i t hi hf hlt) b hb b q rfl
      · exact (List.pairwise_iff_getElem.1 hpw t i hf hi hlt) b q b hb rfl) (fun q => hd.1 (by rw [← q]; exact List.mem_flatten.2 ⟨_, List.getElem_mem hi, hb⟩))
    have hos := own_setO xs hown (o := t * c.n)
    rw [flat_setO hall hx hxl] at hos
    refine ⟨_, ⟨_, _, _, rfl, ?_, hE2, rfl⟩, ?_, ?_, ?_⟩
    · rw [List.length_set]
      exact own_same hos hg
    · simp only [Value.ownBlock, Option.toList_some, List.cons_append, List.nil_append, List.nodup_cons]
      refine ⟨fun q => ?_, nodup_upd hd.2 hfd t hf fun b hb => (hdis b hb).imp id fun q r => q (List.mem_cons.2 (.inr r))⟩
      rcases mem_set q with q | q
      · exact hd.1 q
      · rcases hdis g q with r | r
        · exact hd.1 (hsub g r)
        · exact r (List.mem_cons.2 (.inl rfl))
    · intro b hb
      rcases List.mem_append.1 hb with q | q
      · exact .inl (List.mem_append_left _ q)
      · rcases mem_set q with q | q
        · exact .inl (List.mem_append_right _ q)
        · exact .inr q
    · rintro rfl
      rw [List.set_getElem_self hf]
/-- A store of the whole of element t. -/
theorem ow_putN {e : TypeId} {c : Cd α} {w : World} {base g cap n : Nat} {l : List α} {fp f : List Nat} {us : List Value} {a : α} (h : (sl e c).ow w base [.slice (some ⟨g, 0, none⟩) n cap] l fp) (hd : fp.Nodup)
    (ha : c.ow w base us a f) (hfd : f.Nodup) (hdis : ∀ b ∈ f, b ∉ fp) {t : Nat} (ht : t < l.length) :
    ∃ fp', (sl e c).ow (setO w g (t * c.n) (us.map some)) base [.slice (some ⟨g, 0, none⟩) n cap] (l.set t a) fp' ∧ fp'.Nodup ∧ ∀ b ∈ fp', b ∈ fp ∨ b ∈ f := by
  obtain ⟨us0, f0, hl0, _, _, hsub, _, hcl⟩ := ow_elem h ht
  have hul : us.length = c.n := c.len (c.ow_rd ha)
  have hm : ∀ (A B : List Value), A.length = B.length → mergeO A (B.map some) = B := by
    intro A
    induction A with
    | nil => intro B hB; cases B with | nil => rfl | cons _ _ => simp at hB
    | cons a A ih =>
      intro B hB
      cases B with
      | nil => simp at hB
      | cons b B => show b :: mergeO A (B.map some) = _; rw [ih B (by simpa using hB)]
  have hg : g ∈ fp := by
    obtain ⟨v', xss, fps, e1, _, _, rfl⟩ := h
    injection e1 with e1 _
    subst e1
    exact List.mem_append_left _ (by simp [Value.ownBlock])
  obtain ⟨fp', h1, h2, h3, _⟩ := hcl (setO w g (t * c.n) (us.map some)) (us.map some) a f (by simpa using hul) (by
    rw [hm us0 us (by omega)]
    exact c.ow_keep ha fun b hb => heap_setO _ fun q => hdis b hb (q ▸ hg)) rfl (fun b _ _ hne => heap_setO _ hne) hd hfd (fun b hb => .inr (hdis b hb))
  exact ⟨fp', h1, h2, h3⟩
theorem ow_madeN {e : TypeId} {c : Cd α} {w : World} {base : Nat} {v : Value} {us : List Value} {n : Nat} {a : α} (h : w.ownsRow base e c.n v n (List.replicate n us).flatten) (ha : c.ow w base us a []) :
    (sl e c).ow w base [v] (List.replicate n a) v.ownBlock.toList := by
  refine ⟨v, List.replicate n us, List.replicate n [], rfl, by rw [List.length_replicate]; exact h, ?_, ?_⟩
  · clear h
    induction n with
    | zero => exact trivial
    | succ n ih => exact ⟨ha, ih⟩
  · have : (List.replicate n ([] : List Nat)).flatten = [] := by
      clear h
      induction n with
      | zero => rfl
      | succ n ih => rw [List.replicate_succ, List.flatten_cons, ih]; rfl
    rw [this, List.append_nil]
theorem toList_madeCells {us : List Value} (n : Nat) (h : 0 < us.length) : (madeCells us.toArray (n * us.length)).toList = (List.replicate n us).flatten := by
  apply List.ext_getElem?
  intro j
  by_cases hj : j < n * us.length
  · have hlt : j % us.length < us.length := Nat.mod_lt _ h
    have e1 : (madeCells us.toArray (n * us.length)).toList[j]? = some us[j % us.length] := by
      simp [madeCells, hj, hlt]
    have ha : ∀ x ∈ List.replicate n us, x.length = us.length := fun x hx => by rw [(List.mem_replicate.1 hx).2]
    have hq : j / us.length < n := (Nat.div_lt_iff_lt_mul h).2 hj
    have e2 : (List.replicate n us).flatten = ((List.replicate n us).take (j / us.length)).flatten ++ (us ++ ((List.replicate n us).drop (j / us.length + 1)).flatten) := by
      have hl : j / us.length < (List.replicate n us).length := by simpa using hq
      conv => lhs; rw [← List.take_append_drop (j / us.length) (List.replicate n us), List.flatten_append, List.drop_eq_getElem_cons hl, List.flatten_cons]
      simp
    have e3 := take_flat_len (n := us.length) (t := j / us.length) ha (by simp; omega)
    have e4 : j / us.length * us.length + j % us.length = j := by rw [Nat.mul_comm]; exact Nat.div_add_mod j us.length
    rw [e1, e2, List.getElem?_append_right (by omega), e3, List.getElem?_append_left (by omega)]
    have e5 : j - j / us.length * us.length = j % us.length := by omega
    rw [e5, List.getElem?_eq_getElem hlt]
  · have hl : (List.replicate n us).flatten.length = n * us.length := by
      clear hj
      induction n with
      | zero => simp
      | succ n ih => rw [List.replicate_succ, List.flatten_cons, List.length_append, ih, Nat.add_mul]; omega
    rw [List.getElem?_eq_none (by simp [madeCells]; omega), List.getElem?_eq_none (by omega)]

/-- What an append of one element of several cells leaves. -/
theorem ow_appendedN {e : TypeId} {c : Cd α} {w w' : World} {base g cap : Nat} {v : Value} {us : List Value} {l : List α} {y : α} {fp f : List Nat} {xss : List (List Value)} {fps : List (List Nat)}
    (hE : Each c w base xss l fps) (hfp : fp = v.ownBlock.toList ++ fps.flatten) (hd : fp.Nodup) (hlt : ∀ b ∈ fp, b < w.heap.size) (hy : c.ow w base us y f) (hfd : f.Nodup) (hdis : ∀ b ∈ f, b ∉ fp)
    (h2 : w'.ownsRow base e c.n (.slice (some ⟨g, 0, none⟩) (l.length + 1) cap) (l.length + 1) (xss.flatten ++ us)) (h3 : w.grownBy w' v.ownBlock) (h4 : v.ownBlock = some g ∨ g = w.heap.size) :
    ∃ fp', (sl e c).ow w' base [.slice (some ⟨g, 0, none⟩) (l.length + 1) cap] (l ++ [y]) fp' ∧ fp'.Nodup ∧ (∀ b ∈ fp', b ∈ fp ∨ b ∈ f ∨ w.heap.size ≤ b) ∧ Touch fp w w' := by
  subst hfp
  have hd' := List.nodup_append.1 hd
  have hkeep : ∀ b, b < w.heap.size → v.ownBlock ≠ some b → w'.heap[b]? = w.heap[b]? := fun b hb hne => h3.block b hb fun q => hne q.symm
  have hin : ∀ b ∈ fps.flatten, w'.heap[b]? = w.heap[b]? := fun b hb => hkeep b (hlt b (List.mem_append_right _ hb)) fun q => hd'.2.2 b (by rw [q]; simp) b hb rfl
  have hf : ∀ b ∈ f, w'.heap[b]? = w.heap[b]? := fun b hb => hkeep b (c.ow_lt hy b hb).2 fun q => hdis b hb (List.mem_append_left _ (by rw [q]; simp))
  have hE2 : Each c w' base (xss ++ [us]) (l ++ [y]) (fps ++ [f]) := (hE.imp fun x a g hg hq => c.ow_keep hq fun b hb => hin b (List.mem_flatten.2 ⟨g, hg, hb⟩)).snoc (c.ow_keep hy hf)
  have hlen : (l ++ [y]).length = l.length + 1 := by simp
  have hgn : ∀ b ∈ fps.flatten ++ f, b ≠ g := fun b hb q => by
    subst q
    rcases h4 with q | q
    · rcases List.mem_append.1 hb with r | r
      · exact hd'.2.2 b (by rw [q]; simp) b r rfl
      · exact hdis b r (List.mem_append_left _ (by rw [q]; simp))
    · rcases List.mem_append.1 hb with r | r
      · have := hlt b (List.mem_append_right _ r)
        omega
      · have := (c.ow_lt hy b r).2
        omega
  refine ⟨_, ⟨_, _, _, rfl, ?_, hE2, rfl⟩, ?_, ?_, ⟨h3.os, h3.tape, h3.output, h3.size, fun k hk hne => hkeep k hk fun q => hne (List.mem_append_left _ (by rw [q]; simp))⟩⟩
  · rw [hlen, List.flatten_append]
    simpa using h2
  · simp only [Value.ownBlock, Option.toList_some, List.cons_append, List.nil_append, List.nodup_cons, List.flatten_append, List.flatten_cons, List.flatten_nil, List.append_nil]
    refine ⟨fun q => hgn g q rfl, List.nodup_append.2 ⟨hd'.2.1, hfd, fun a ha b hb q => hdis b hb (List.mem_append_right _ (q ▸ ha))⟩⟩
  · intro b hb
    simp only [Value.ownBlock, Option.toList_some, List.cons_append, List.nil_append, List.flatten_append, List.flatten_cons, List.flatten_nil, List.append_nil] at hb
    rcases List.mem_cons.1 hb with rfl | q
    · rcases h4 with q | q
      · exact .inl (List.mem_append_left _ (by rw [q]; simp))
      · exact .inr (.inr (by omega))
    · rcases List.mem_append.1 q with r | r
      · exact .inl (List.mem_append_right _ r)
      · exact .inr (.inl r)

/-- append(v, y), y one element of several cells that the call owns. -/
theorem wp_appendN {P : Program} {c : Cd α} {o : Oper} {a : Act} {K : Act → World → Prop} {Q : Exit → Act → World → Prop} {w : World} (s x : Operand) (t : TypeId)
    (ho : o.op = .call { callee := .builtin .append, args := #[s, x], argTypes := #[t, t] })
    (base : Nat) (e : TypeId) (z : Value) (size bytes : Nat) (hn : c.n = size) (ht : P.underlying t = some (.slice e)) (hinfo : (P.info? e).map (fun i => (i.zero, i.size, i.bytes)) = some (some z, size, bytes)) (hzs : z.cells.size = size) (hby : bytes ≤ 10000)
    (v : Value) (l : List α) (fp : List Nat) (hs : a.eval s = v) (how : (sl e c).ow w base [v] l fp) (hd : fp.Nodup) (b : Nat) (us : List Value) (hx : a.eval x = .slice (some ⟨b, 0, none⟩) 1 1) (hu : At w b 0 us)
    (y : α) (f : List Nat) (hy : c.ow w base us y f) (hfd : f.Nodup) (hdis : ∀ b ∈ f, b ∉ fp) (hlen : l.length + 1 ≤ 1000000000) (hbase : base ≤ w.heap.size)
    (h : ∀ g cap w' fp', (sl e c).ow w' base [.slice (some ⟨g, 0, none⟩) (l.length + 1) cap] (l ++ [y]) fp' → fp'.Nodup → (∀ b ∈ fp', b ∈ fp ∨ b ∈ f ∨ w.heap.size ≤ b) → Touch fp w w' →
      K (a.put o.dst (.slice (some ⟨g, 0, none⟩) (l.length + 1) cap)) w') : o.wp P a w K Q := by
  obtain ⟨i0, hi, hz0, hz1, hz2⟩ := info_parts hinfo
  have hlt : ∀ b ∈ fp, b < w.heap.size := fun b hb => ((sl e c).ow_lt how b hb).2
  obtain ⟨v', xss, fps, e1, hown, hE, hfp⟩ := how
  injection e1 with e1 _
  subst e1
  have hul : us.length = size := (c.len (c.ow_rd hy)).trans hn
  have hpos : 0 < size := by rw [← hn]; exact c.pos
  rw [hn] at hown
  refine wp_append_lies w s x t ho base e i0 z size bytes ht hi hz0 hz1 hz2 hzs hpos v l.length xss.flatten hs hown ⟨b, 0, none⟩ 1 1 us hx (by omega) ?_ (fun u' hu' => c.one (c.ow_rd hy) u' hu') (by decide) (by unfold maxLen; omega) ?_ hbase w.heap.size rfl ?_
  · intro j u' hj
    obtain ⟨hj1, hj2⟩ := List.getElem?_eq_some_iff.1 hj
    have ha : (⟨b, 0, none⟩ : Addr).add j = ⟨b, 0 + j, none⟩ := by unfold Addr.add; split <;> simp_all
    rw [ha, hu j hj1, hj2]
  · calc (l.length + 1) * bytes ≤ 1000000000 * 10000 := Nat.mul_le_mul hlen hby
      _ ≤ 140737488355328 := by decide
  · intro g cap w' h2 h3 h4 h5
    have h2' : w'.ownsRow base e c.n (.slice (some ⟨g, 0, none⟩) (l.length + 1) cap) (l.length + 1) (xss.flatten ++ us) := by rw [hn]; exact h2
    obtain ⟨fp', k1, k2, k3, k4⟩ := ow_appendedN hE hfp hd hlt hy hfd hdis h2' h3 h4
    exact h g cap w' fp' k1 k2 k3 k4
theorem wpList_appendN {P : Program} {c : Cd α} {ops : Array Oper} {rest : List Oper} {o : Oper} {a : Act} {Q : Exit → Act → World → Prop} {w : World} (hgd : o.guard = none) (s x : Operand) (t : TypeId)
    (ho : o.op = .call { callee := .builtin .append, args := #[s, x], argTypes := #[t, t] })
    (base : Nat) (e : TypeId) (z : Value) (size bytes : Nat) (hn : c.n = size) (ht : P.underlying t = some (.slice e)) (hinfo : (P.info? e).map (fun i => (i.zero, i.size, i.bytes)) = some (some z, size, bytes)) (hzs : z.cells.size = size) (hby : bytes ≤ 10000)
    (v : Value) (l : List α) (fp : List Nat) (hs : a.eval s = v) (how : (sl e c).ow w base [v] l fp) (hd : fp.Nodup) (b : Nat) (us : List Value) (hx : a.eval x = .slice (some ⟨b, 0, none⟩) 1 1) (hu : At w b 0 us)
    (y : α) (f : List Nat) (hy : c.ow w base us y f) (hfd : f.Nodup) (hdis : ∀ b ∈ f, b ∉ fp) (hlen : l.length + 1 ≤ 1000000000) (hbase : base ≤ w.heap.size)
    (h : ∀ g cap w' fp', (sl e c).ow w' base [.slice (some ⟨g, 0, none⟩) (l.length + 1) cap] (l ++ [y]) fp' → fp'.Nodup → (∀ b ∈ fp', b ∈ fp ∨ b ∈ f ∨ w.heap.size ≤ b) → Touch fp w w' →
      wpList P ops Q rest (a.put o.dst (.slice (some ⟨g, 0, none⟩) (l.length + 1) cap)) w') : wpList P ops Q (o :: rest) a w :=
  wpList_plain hgd fun _ hK => wp_appendN s x t ho base e z size bytes hn ht hinfo hzs hby v l fp hs how hd b us hx hu y f hy hfd hdis hlen hbase fun g cap w' fp' h1 h2 h3 h4 => hK _ _ (h g cap w' fp' h1 h2 h3 h4)
theorem step_appendN {P : Program} {c : Cd α} {ops : Array Oper} {o : Oper} {a : Act} {K : Act → World → Prop} {Q : Exit → Act → World → Prop} {E : Prop} {w : World} (hgd : o.guard = none) (s x : Operand) (t : TypeId)
    (ho : o.op = .call { callee := .builtin .append, args := #[s, x], argTypes := #[t, t] })
    (base : Nat) (e : TypeId) (z : Value) (size bytes : Nat) (hn : c.n = size) (ht : P.underlying t = some (.slice e)) (hinfo : (P.info? e).map (fun i => (i.zero, i.size, i.bytes)) = some (some z, size, bytes)) (hzs : z.cells.size = size) (hby : bytes ≤ 10000)
    (v : Value) (l : List α) (fp : List Nat) (hs : a.eval s = v) (how : (sl e c).ow w base [v] l fp) (hd : fp.Nodup) (b : Nat) (us : List Value) (hx : a.eval x = .slice (some ⟨b, 0, none⟩) 1 1) (hu : At w b 0 us)
    (y : α) (f : List Nat) (hy : c.ow w base us y f) (hfd : f.Nodup) (hdis : ∀ b ∈ f, b ∉ fp) (hlen : l.length + 1 ≤ 1000000000) (hbase : base ≤ w.heap.size)
    (h : ∀ g cap w' fp', (sl e c).ow w' base [.slice (some ⟨g, 0, none⟩) (l.length + 1) cap] (l ++ [y]) fp' → fp'.Nodup → (∀ b ∈ fp', b ∈ fp ∨ b ∈ f ∨ w.heap.size ≤ b) → Touch fp w w' →
      K (a.put o.dst (.slice (some ⟨g, 0, none⟩) (l.length + 1) cap)) w') :
    if Region.wanted o (yielded ops a.tmps) = true then Oper.wp P o a w K Q else E := by
  have hw : Region.wanted o (yielded ops a.tmps) = true := by simp [Region.wanted, hgd]
  rw [if_pos hw]
  exact wp_appendN s x t ho base e z size bytes hn ht hinfo hzs hby v l fp hs how hd b us hx hu y f hy hfd hdis hlen hbase h
end Cd
end Go.Proofs.Ytnoennmhifmolaa.Cd
