/- Texts that the proof rests on, one behind the other. -/
import Derived.Test.YtnjomgefmoehhaaCompact2
import Derived.Test.YtnjomgefmoehhaaCdCut
import Derived.Test.YtnjomgefmoehhaaShelf
import Derived.Test.YtnjomgefmoehhaaCd
import Derived.Test.YtnjomgefmoehhaaIntsLaw
import Derived.Test.YtnjomgefmoehhaaDegImp1
import Derived.Test.YtnjomgefmoehhaaDegSpec4
import Derived.Test.YtnjomgefmoehhaaDegImp2
import Derived.Test.YtnjomgefmoehhaaCdRoom
import Derived.Test.YtnjomgefmoehhaaDegSpec5
import Derived.Test.YtnjomgefmoehhaaDegDraw3

namespace Go.Proofs.Ytnjomgefmoehhaa.TabImp
open Go Go.RowKit Byt Ints IntsLaw Cd Rows2 Tab TabSpec Exact

/-- A row that lies somewhere in the blocks S. -/
structure RowV (w : World) (S : Nat → Prop) where
  v : Value
  l : List Int
  rd : rowC.rd w S [v] l
instance (w : World) (S : Nat → Prop) : Inhabited (RowV w S) := ⟨⟨.slice none 0 0, [], none, 0, rfl, by simp, .inl rfl⟩⟩
theorem rowv_list {w : World} {S : Nat → Prop} : ∀ {us : List Value} {rows : List (List Int)}, us.length = rows.length → (∀ t, (h : t < us.length) → (h' : t < rows.length) → rowC.rd w S [us[t]] rows[t]) → ∃ ds : List (RowV w S), ds.map RowV.v = us ∧ ds.map RowV.l = rows
  | [], [], _, _ => ⟨[], rfl, rfl⟩
  | u :: us, r :: rows, hl, h => by
    obtain ⟨ds, h1, h2⟩ := rowv_list (us := us) (rows := rows) (by simpa using hl) fun t ht ht' => h (t + 1) (by simpa using ht) (by simpa using ht')
    exact ⟨⟨u, r, h 0 (by simp) (by simp)⟩ :: ds, by rw [List.map_cons, h1], by rw [List.map_cons, h2]⟩
def cfR {w : World} {S : Nat → Prop} (x y : RowV w S) : Int := cmpR x.l y.l
theorem swoR {w : World} {S : Nat → Prop} : Sort.SWO (ltOf (cfR (w := w) (S := S))) where
  irrefl x := by
    unfold ltOf cfR
    rw [cmpR_self]
    rfl
  trans x y z h1 h2 := by
    unfold ltOf cfR at *
    exact decide_eq_true (cmpR_trans (of_decide_eq_true h1) (of_decide_eq_true h2))
  ntrans x y z h1 h2 := by
    unfold ltOf cfR at *
    have h1 := of_decide_eq_false h1
    have h2 := of_decide_eq_false h2
    refine decide_eq_false fun h3 => ?_
    by_cases e : cmpR x.l y.l = 0
    · rw [cmpR_eq e] at h3
      exact h2 h3
    · have h4 := cmpR_anti y.l x.l
      exact h2 (cmpR_trans (show cmpR y.l x.l < 0 by omega) h3)
theorem heap_grow (w : World) (os : Array Obj) {k : Nat} (h : k < w.heap.size) : (Sort.grow w os).heap[k]? = w.heap[k]? := by
  show (w.heap ++ os)[k]? = w.heap[k]?
  rw [Array.getElem?_append_left h]
theorem touch_grow (fp : List Nat) (w : World) (os : Array Obj) : Cd.Touch fp w (Sort.grow w os) :=
  ⟨rfl, rfl, rfl, by show _ ≤ (w.heap ++ os).size; rw [Array.size_append]; omega, fun _ hk _ => heap_grow w os hk⟩
theorem touch_sort {γ : Type} [Inhabited γ] (enc : γ → Value) (w : World) (g m : Nat) (d : Array γ) (os : Array Obj) : Cd.Touch [g] w (sortWorld enc w g 0 m d os) := by
  unfold sortWorld
  exact ((Cd.touch_ahead _ w m).trans (Cd.touch_putRow enc _ g d)).trans (touch_grow _ _ os)

def SortAns (g : Nat) (S : Nat → Prop) (rows : List (List Int)) (w : World) (e : Ending) (w' : World) : Prop :=
  ∃ l' : List (List Int), e = .returned (.tuple #[]) ∧ l'.length = rows.length ∧ (∀ r, r ∈ l' ↔ r ∈ rows) ∧ Srt l' ∧ Lie w' g S l' ∧ Cd.Touch [g] w w'

end Go.Proofs.Ytnjomgefmoehhaa.TabImp

namespace Go.Proofs.Ytnjomgefmoehhaa.Cd
open Go Go.RowKit Byt Ints IntsLaw
namespace Cd
variable {α : Type}

/-- An element of a slice that is read. -/
theorem sl_at {e : TypeId} {c : Cd α} {w : World} {S : Nat → Prop} {v : Value} {l : List α} (h : (sl e c).rd w S [v] l) {k : Nat} (hk : k < l.length) :
    ∃ b off cap xs, v = .slice (some ⟨b, off, none⟩) l.length cap ∧ S b ∧ b < w.heap.size ∧ At w b (off + k * c.n) xs ∧ c.rd w S xs l[k] := by
  obtain ⟨ad, cap, e, _, hc⟩ := h
  injection e with e _
  subst e
  rcases hc with rfl | ⟨b, off, rfl, hS, hb, hc⟩
  · simp at hk
  obtain ⟨xs, h1, h2⟩ := hc k hk
  exact ⟨b, off, cap, xs, rfl, hS, hb, h1, h2⟩
theorem sl_form {e : TypeId} {c : Cd α} {w : World} {S : Nat → Prop} {v : Value} {l : List α} (h : (sl e c).rd w S [v] l) : ∃ a cap, v = .slice a l.length cap ∧ l.length ≤ 9223372036854775807 := by
  obtain ⟨ad, cap, e, hl, _⟩ := h
  injection e with e _
  exact ⟨ad, cap, e, hl⟩

/-- Cells stored from o on; none: left as it is. -/
def setO (w : World) (g o : Nat) : List (Option Value) → World
  | [] => w
  | none :: r => setO w g (o + 1) r
  | some x :: r => setO (w.setCell ⟨g, o, none⟩ x) g (o + 1) r
def setsO (L : List Value) (o : Nat) : List (Option Value) → List Value
  | [] => L
  | none :: r => setsO L (o + 1) r
  | some x :: r => setsO (L.set o x) (o + 1) r
def mergeO : List Value → List (Option Value) → List Value
  | v :: vs, x :: xs => x.getD v :: mergeO vs xs
  | _, _ => []
theorem setsO_mid : ∀ (xs : List (Option Value)) (A B C : List Value), xs.length = B.length → setsO (A ++ (B ++ C)) A.length xs = A ++ (mergeO B xs ++ C)
  | [], A, [], C, _ => rfl
  | none :: xs, A, b :: B, C, h => by
    have ih := setsO_mid xs (A ++ [b]) B C (by simpa using h)
    rw [List.length_append] at ih
    simp only [List.append_assoc, List.cons_append, List.nil_append] at ih
    exact ih
  | some x :: xs, A, b :: B, C, h => by
    have ih := setsO_mid xs (A ++ [x]) B C (by simpa using h)
    rw [List.length_append] at ih
    simp only [List.append_assoc, List.cons_append, List.nil_append] at ih
    show setsO ((A ++ (b :: B ++ C)).set A.length x) (A.length + 1) xs = _
    rw [List.set_append_right _ _ (Nat.le_refl _), Nat.sub_self]
    exact ih
theorem mergeO_len : ∀ (B : List Value) (xs : List (Option Value)), xs.length = B.length → (mergeO B xs).length = B.length
  | [], [], _ => rfl
  | _ :: B, _ :: xs, h => by
    show (mergeO B xs).length + 1 = _
    rw [mergeO_len B xs (by simpa using h)]
    rfl
theorem Each.all_len {c : Cd α} {w : World} {base : Nat} : ∀ {xss : List (List Value)} {l : List α} {fps : List (List Nat)}, Each c w base xss l fps → ∀ x ∈ xss, x.length = c.n
  | [], [], [], _, _, h => by cases h
  | x :: xs, _ :: az, _ :: fs, h, y, hy => by
    rcases List.mem_cons.1 hy with rfl | q
    · exact c.len (c.ow_rd h.1)
    · exact Each.all_len (xss := xs) (l := az) (fps := fs) h.2 y q
theorem take_flat_len {n : Nat} : ∀ {xss : List (List Value)} {t : Nat}, (∀ x ∈ xss, x.length = n) → t ≤ xss.length → (xss.take t).flatten.length = t * n
  | _, 0, _, _ => by simp
  | [], t + 1, _, h => by simp at h
  | x :: xs, t + 1, ha, h => by
    have := take_flat_len (xss := xs) (t := t) (fun y hy => ha y (List.mem_cons_of_mem _ hy)) (by simpa using h)
    rw [List.take_succ_cons, List.flatten_cons, List.length_append, this, ha x List.mem_cons_self, Nat.add_mul]
    omega
theorem flat_setO {n : Nat} {xss : List (List Value)} (ha : ∀ x ∈ xss, x.length = n) {t : Nat} (ht : t < xss.length) {xs : List (Option Value)} (hx : xs.length = n) :
    setsO xss.flatten (t * n) xs = (xss.set t (mergeO xss[t] xs)).flatten := by
  have e : xss.flatten = (xss.take t).flatten ++ (xss[t] ++ (xss.drop (t + 1)).flatten) := by
    conv => lhs; rw [← List.take_append_drop t xss, List.flatten_append, List.drop_eq_getElem_cons ht, List.flatten_cons]
  have e2 : (xss.set t (mergeO xss[t] xs)).flatten = (xss.take t).flatten ++ (mergeO xss[t] xs ++ (xss.drop (t + 1)).flatten) := by
    rw [List.set_eq_take_append_cons_drop, if_pos ht, List.flatten_append, List.flatten_cons]
  rw [e2, e, ← take_flat_len ha (Nat.le_of_lt ht)]
  exact setsO_mid xs _ _ _ (by rw [hx, ha _ (List.getElem_mem ht)])
theorem heap_setO {g : Nat} : ∀ (xs : List (Option Value)) {w : World} {o b : Nat}, b ≠ g → (setO w g o xs).heap[b]? = w.heap[b]?
  | [], _, _, _, _ => rfl
  | none :: r, _, _, _, h => heap_setO r h
  | some x :: r, w, _, b, h => (heap_setO r h).trans (Below.heap_setCell w _ x b h)
theorem own_setO {base g cap n size : Nat} {e : TypeId} : ∀ (xs : List (Option Value)) {w : World} {o : Nat} {L : List Value}, w.ownsRow base e size (.slice (some ⟨g, 0, none⟩) n cap) n L → (setO w g o xs).ownsRow base e size (.slice (some ⟨g, 0, none⟩) n cap) n (setsO L o xs)
  | [], _, _, _, h => h
  | none :: r, _, _, _, h => own_setO r h
  | some x :: r, _, o, _, h => own_setO r (World.ownsRow.stored h o x).1
theorem own_same {base g cap n size : Nat} {e : TypeId} {w w' : World} {L : List Value} (h : w.ownsRow base e size (.slice (some ⟨g, 0, none⟩) n cap) n L) (hg : w'.heap[g]? = w.heap[g]?) : w'.ownsRow base e size (.slice (some ⟨g, 0, none⟩) n cap) n L := by
  refine ⟨h.1, h.2.imp id ?_⟩
  rintro ⟨g', cap', cur, e1, h2, h3, h4⟩
  simp only [Value.slice.injEq, Option.some.injEq, Addr.mk.injEq, and_true, true_and] at e1
  obtain ⟨rfl, rfl⟩ := e1
  exact ⟨g, cap, cur, rfl, h2, hg.trans h3, h4⟩
theorem Each.upd {c : Cd α} {w w' : World} {base : Nat} {x : List Value} {a : α} {f : List Nat} : ∀ {xss : List (List Value)} {l : List α} {fps : List (List Nat)}, Each c w base xss l fps → ∀ t, t < fps.length →
    c.ow w' base x a f → (∀ i (hi : i < fps.length), i ≠ t → ∀ x a, c.ow w base x a fps[i] → c.ow w' base x a fps[i]) → Each c w' base (xss.set t x) (l.set t a) (fps.set t f)
  | [], [], [], _, _, hf, _, _ => by simp at hf
  | _ :: xs, _ :: az, g :: fs, h, 0, _, k, o => by
    refine ⟨k, Each.imp (xss := xs) (l := az) (fps := fs) h.2 fun x a g' hg hq => ?_⟩
    obtain ⟨i, hi, rfl⟩ := List.getElem_of_mem hg
    exact o (i + 1) (by simpa using hi) (by omega) x a hq
  | _ :: xs, _ :: az, g :: fs, h, t + 1, hf, k, o => by
    refine ⟨o 0 (by simp) (by omega) _ _ h.1, Each.upd (xss := xs) (l := az) (fps := fs) h.2 t (by simpa using hf) k fun i hi hne x a hq => ?_⟩
    exact o (i + 1) (by simpa using hi) (by omega) x a hq
theorem nodup_upd : ∀ {fps : List (List Nat)} {f : List Nat}, fps.flatten.Nodup → f.Nodup → ∀ t (ht : t < fps.length), (∀ b ∈ f, b ∈ fps[t] ∨ b ∉ fps.flatten) → (fps.set t f).flatten.Nodup
  | [], _, _, _, _, ht, _ => by simp at ht
  | f0 :: fs, f, h, hf, 0, _, hd => by
    rw [List.flatten_cons, List.nodup_append] at h
    show (f :: fs).flatten.Nodup
    rw [List.flatten_cons, List.nodup_append]
    refine ⟨hf, h.2.1, fun a ha b hb q => ?_⟩
    subst q
    rcases hd a ha with q | q
    · exact h.2.2 a q a hb rfl
    · exact q (by rw [List.flatten_cons]; exact List.mem_append_right _ hb)
  | f0 :: fs, f, h, hf, t + 1, ht, hd => by
    have h' := h
    rw [List.flatten_cons, List.nodup_append] at h
    have ht' : t < fs.length := by simpa using ht
    have hd' : ∀ b ∈ f, b ∈ fs[t] ∨ b ∉ (f0 :: fs).flatten := fun b hb => hd b hb
    show (f0 :: fs.set t f).flatten.Nodup
    rw [List.flatten_cons, List.nodup_append]
    refine ⟨h.1, nodup_upd h.2.1 hf t ht' (fun b hb => (hd' b hb).imp id fun q r => q (by rw [List.flatten_cons]; exact List.mem_append_right _ r)), fun a ha b hb q => ?_⟩
    subst q
    rcases mem_set hb with q | q
    · exact h.2.2 a ha a q rfl
    · rcases hd' a q with r | r
      · exact h.2.2 a ha a (List.mem_flatten.2 ⟨_, List.getElem_mem ht', r⟩) rfl
      · exact r (by rw [List.flatten_cons]; exact List.mem_append_left _ ha)

/-- Element t of an owned slice: its cells, its blocks, and what a change of it leaves. -/
theorem ow_elem {e : TypeId} {c : Cd α} {w : World} {base g cap n : Nat} {l : List α} {fp : List Nat} (h : (sl e c).ow w base [.slice (some ⟨g, 0, none⟩) n cap] l fp) {t : Nat} (ht : t < l.length) :
    ∃ us f, us.length = c.n ∧ At w g (t * c.n) us ∧ c.ow w base us l[t] f ∧ (∀ b ∈ f, b ∈ fp) ∧ (fp.Nodup → f.Nodup ∧ g ∉ f) ∧
      ∀ w' xs a f', xs.length = c.n → c.ow w' base (mergeO us xs) a f' → w'.heap[g]? = (setO w g (t * c.n) xs).heap[g]? → (∀ b ∈ fp, b ∉ f → b ≠ g → w'.heap[b]? = w.heap[b]?) → fp.Nodup → f'.Nodup → (∀ b ∈ f', b ∈ f ∨ b ∉ fp) →
        ∃ fp', (sl e c).ow w' base [.slice (some ⟨g, 0, none⟩) n cap] (l.set t a) fp' ∧ fp'.Nodup ∧ (∀ b ∈ fp', b ∈ fp ∨ b ∈ f') ∧ (f' = f → fp' = fp) := by
  obtain ⟨v', xss, fps, e1, hown, hE, rfl⟩ := h
  injection e1 with e1 _
  subst e1
  have hlen := hE.len
  have hfl := hE.flatten_len
  have hnl : n = l.length := by
    rcases hown.2 with ⟨e1, _⟩ | ⟨g', cap', cur, e1, _⟩
    · cases e1
    · injection e1
  subst hnl
  have hx : t < xss.length := by omega
  have hf : t < fps.length := by omega
  have hall := hE.all_len
  have hsub : ∀ b ∈ fps[t], b ∈ fps.flatten := fun b hb => List.mem_flatten.2 ⟨_, List.getElem_mem hf, hb⟩
  have hul : xss[t].length = c.n := hall _ (List.getElem_mem hx)
  refine ⟨xss[t], fps[t], hul, fun j hj => ?_, hE.get t ht hx hf, fun b hb => List.mem_append_right _ (hsub b hb), fun hd => ?_, fun w' xs a f' hxl hw' hg hk hd hfd hdis => ?_⟩
  · have hp := hE.part t hx j hj
    have hlt : t * c.n + j < l.length * c.n := by
      have := (List.getElem?_eq_some_iff.1 hp).1
      omega
    rw [World.ownsRow.cellAt hown _ hlt]
    exact hp
  · simp only [Value.ownBlock, Option.toList_some, List.cons_append, List.nil_append, List.nodup_cons] at hd
    exact ⟨(List.pairwise_flatten.1 hd.2).1 _ (List.getElem_mem hf), fun q => hd.1 (hsub g q)⟩
  · simp only [Value.ownBlock, Option.toList_some, List.cons_append, List.nil_append, List.nodup_cons] at hd hk hdis
    have hpw := (List.pairwise_flatten.1 hd.2).2
    have hE2 : Each c w' base (xss.set t (mergeO xss[t] xs)) (l.set t a) (fps.set t f') := hE.upd t hf hw' fun i hi hne x a hq => c.ow_keep hq fun b hb => hk b (List.mem_cons.2 (.inr (List.mem_flatten.2 ⟨_, List.getElem_mem hi, hb⟩))) (fun q => by
      rcases Nat.lt_or_gt_of_ne hne with hlt | hlt
      · exact (List.pairwise_iff_getElem.1 hpw i t hi hf hlt) b hb b q rfl
      · exact (List.pairwise_iff_getElem.1 hpw t i hf hi hlt) b q b hb rfl) (fun q => hd.1 (by rw [← q]; exact List.mem_flatten.2 ⟨_, List.getElem_mem hi, hb⟩))
    have hos := own_setO xs hown (o := t * c.n)
    rw [flat_setO hall hx hxl] at hos
    refine ⟨_, ⟨_, _, _, rfl, ?_, hE2, rfl⟩, ?_, ?_, ?_⟩
    · rw [List.length_set]
      exact own_same hos hg
    · simp only [Value.ownBlock, Option.toList_some, List.cons_append, List.nil_append, List.nodup_cons]
      refine ⟨fun q => ?_, nodup_upd hd.2 hfd t hf fun b hb => (hdis b hb).imp id fun q r => q (List.mem_cons.2 (.inr r))⟩
      rcases mem_set q with q | q
      · exact hd.1 q
      · rcases hdis g q with r | r
        · exact hd.1 (hsub g r)
        · exact r (List.mem_cons.2 (.inl rfl))
    · intro b hb
      rcases List.mem_append.1 hb with q | q
      · exact .inl (List.mem_append_left _ q)
      · rcases mem_set q with q | q
        · exact .inl (List.mem_append_right _ q)
        · exact .inr q
    · rintro rfl
      rw [List.set_getElem_self hf]
/-- A store of the whole of element t. -/
theorem ow_putN {e : TypeId} {c : Cd α} {w : World} {base g cap n : Nat} {l : List α} {fp f : List Nat} {us : List Value} {a : α} (h : (sl e c).ow w base [.slice (some ⟨g, 0, none⟩) n cap] l fp) (hd : fp.Nodup)
    (ha : c.ow w base us a f) (hfd : f.Nodup) (hdis : ∀ b ∈ f, b ∉ fp) {t : Nat} (ht : t < l.length) :
    ∃ fp', (sl e c).ow (setO w g (t * c.n) (us.map some)) base [.slice (some ⟨g, 0, none⟩) n cap] (l.set t a) fp' ∧ fp'.Nodup ∧ ∀ b ∈ fp', b ∈ fp ∨ b ∈ f := by
  obtain ⟨us0, f0, hl0, _, _, hsub, _, hcl⟩ := ow_elem h ht
  have hul : us.length = c.n := c.len (c.ow_rd ha)
  have hm : ∀ (A B : List Value), A.length = B.length → mergeO A (B.map some) = B := by
    intro A
    induction A with
    | nil => intro B hB; cases B with | nil => rfl | cons _ _ => simp at hB
    | cons a A ih =>
      intro B hB
      cases B with
      | nil => simp at hB
      | cons b B => show b :: mergeO A (B.map some) = _; rw [ih B (by simpa using hB)]
  have hg : g ∈ fp := by
    obtain ⟨v', xss, fps, e1, _, _, rfl⟩ := h
    injection e1 with e1 _
    subst e1
    exact List.mem_append_left _ (by simp [Value.ownBlock])
  obtain ⟨fp', h1, h2, h3, _⟩ := hcl (setO w g (t * c.n) (us.map some)) (us.map some) a f (by simpa using hul) (by
    rw [hm us0 us (by omega)]
    exact c.ow_keep ha fun b hb => heap_setO _ fun q => hdis b hb (q ▸ hg)) rfl (fun b _ _ hne => heap_setO _ hne) hd hfd (fun b hb => .inr (hdis b hb))
  exact ⟨fp', h1, h2, h3⟩
theorem ow_madeN {e : TypeId} {c : Cd α} {w : World} {base : Nat} {v : Value} {us : List Value} {n : Nat} {a : α} (h : w.ownsRow base e c.n v n (List.replicate n us).flatten) (ha : c.ow w base us a []) :
    (sl e c).ow w base [v] (List.replicate n a) v.ownBlock.toList := by
  refine ⟨v, List.replicate n us, List.replicate n [], rfl, by rw [List.length_replicate]; exact h, ?_, ?_⟩
  · clear h
    induction n with
    | zero => exact trivial
    | succ n ih => exact ⟨ha, ih⟩
  · have : (List.replicate n ([] : List Nat)).flatten = [] := by
      clear h
      induction n with
      | zero => rfl
      | succ n ih => rw [List.replicate_succ, List.flatten_cons, ih]; rfl
    rw [this, List.append_nil]
theorem toList_madeCells {us : List Value} (n : Nat) (h : 0 < us.length) : (madeCells us.toArray (n * us.length)).toList = (List.replicate n us).flatten := by
  apply List.ext_getElem?
  intro j
  by_cases hj : j < n * us.length
  · have hlt : j % us.length < us.length := Nat.mod_lt _ h
    have e1 : (madeCells us.toArray (n * us.length)).toList[j]? = some us[j % us.length] := by
      simp [madeCells, hj, hlt]
    have ha : ∀ x ∈ List.replicate n us, x.length = us.length := fun x hx => by rw [(List.mem_replicate.1 hx).2]
    have hq : j / us.length < n := (Nat.div_lt_iff_lt_mul h).2 hj
    have e2 : (List.replicate n us).flatten = ((List.replicate n us).take (j / us.length)).flatten ++ (us ++ ((List.replicate n us).drop (j / us.length + 1)).flatten) := by
      have hl : j / us.length < (List.replicate n us).length := by simpa using hq
      conv => lhs; rw [← List.take_append_drop (j / us.length) (List.replicate n us), List.flatten_append, List.drop_eq_getElem_cons hl, List.flatten_cons]
      simp
    have e3 := take_flat_len (n := us.length) (t := j / us.length) ha (by simp; omega)
    have e4 : j / us.length * us.length + j % us.length = j := by rw [Nat.mul_comm]; exact Nat.div_add_mod j us.length
    rw [e1, e2, List.getElem?_append_right (by omega), e3, List.getElem?_append_left (by omega)]
    have e5 : j - j / us.length * us.length = j % us.length := by omega
    rw [e5, List.getElem?_eq_getElem hlt]
  · have hl : (List.replicate n us).flatten.length = n * us.length := by
      clear hj
      induction n with
      | zero => simp
      | succ n ih => rw [List.replicate_succ, List.flatten_cons, List.length_append, ih, Nat.add_mul]; omega
    rw [List.getElem?_eq_none (by simp [madeCells]; omega), List.getElem?_eq_none (by omega)]

/-- What an append of one element of several cells leaves. -/
theorem ow_appendedN {e : TypeId} {c : Cd α} {w w' : World} {base g cap : Nat} {v : Value} {us : List Value} {l : List α} {y : α} {fp f : List Nat} {xss : List (List Value)} {fps : List (List Nat)}
    (hE : Each c w base xss l fps) (hfp : fp = v.ownBlock.toList ++ fps.flatten) (hd : fp.Nodup) (hlt : ∀ b ∈ fp, b < w.heap.size) (hy : c.ow w base us y f) (hfd : f.Nodup) (hdis : ∀ b ∈ f, b ∉ fp)
    (h2 : w'.ownsRow base e c.n (.slice (some ⟨g, 0, none⟩) (l.length + 1) cap) (l.length + 1) (xss.flatten ++ us)) (h3 : w.grownBy w' v.ownBlock) (h4 : v.ownBlock = some g ∨ g = w.heap.size) :
    ∃ fp', (sl e c).ow w' base [.slice (some ⟨g, 0, none⟩) (l.length + 1) cap] (l ++ [y]) fp' ∧ fp'.Nodup ∧ (∀ b ∈ fp', b ∈ fp ∨ b ∈ f ∨ w.heap.size ≤ b) ∧ Touch fp w w' := by
  subst hfp
  have hd' := List.nodup_append.1 hd
  have hkeep : ∀ b, b < w.heap.size → v.ownBlock ≠ some b → w'.heap[b]? = w.heap[b]? := fun b hb hne => h3.block b hb fun q => hne q.symm
  have hin : ∀ b ∈ fps.flatten, w'.heap[b]? = w.heap[b]? := fun b hb => hkeep b (hlt b (List.mem_append_right _ hb)) fun q => hd'.2.2 b (by rw [q]; simp) b hb rfl
  have hf : ∀ b ∈ f, w'.heap[b]? = w.heap[b]? := fun b hb => hkeep b (c.ow_lt hy b hb).2 fun q => hdis b hb (List.mem_append_left _ (by rw [q]; simp))
  have hE2 : Each c w' base (xss ++ [us]) (l ++ [y]) (fps ++ [f]) := (hE.imp fun x a g hg hq => c.ow_keep hq fun b hb => hin b (List.mem_flatten.2 ⟨g, hg, hb⟩)).snoc (c.ow_keep hy hf)
  have hlen : (l ++ [y]).length = l.length + 1 := by simp
  have hgn : ∀ b ∈ fps.flatten ++ f, b ≠ g := fun b hb q => by
    subst q
    rcases h4 with q | q
    · rcases List.mem_append.1 hb with r | r
      · exact hd'.2.2 b (by rw [q]; simp) b r rfl
      · exact hdis b r (List.mem_append_left _ (by rw [q]; simp))
    · rcases List.mem_append.1 hb with r | r
      · have := hlt b (List.mem_append_right _ r)
        omega
      · have := (c.ow_lt hy b r).2
        omega
  refine ⟨_, ⟨_, _, _, rfl, ?_, hE2, rfl⟩, ?_, ?_, ⟨h3.os, h3.tape, h3.output, h3.size, fun k hk hne => hkeep k hk fun q => hne (List.mem_append_left _ (by rw [q]; simp))⟩⟩
  · rw [hlen, List.flatten_append]
    simpa using h2
  · simp only [Value.ownBlock, Option.toList_some, List.cons_append, List.nil_append, List.nodup_cons, List.flatten_append, List.flatten_cons, List.flatten_nil, List.append_nil]
    refine ⟨fun q => hgn g q rfl, List.nodup_append.2 ⟨hd'.2.1, hfd, fun a ha b hb q => hdis b hb (List.mem_append_right _ (q ▸ ha))⟩⟩
  · intro b hb
    simp only [Value.ownBlock, Option.toList_some, List.cons_append, List.nil_append, List.flatten_append, List.flatten_cons, List.flatten_nil, List.append_nil] at hb
    rcases List.mem_cons.1 hb with rfl | q
    · rcases h4 with q | q
      · exact .inl (List.mem_append_left _ (by rw [q]; simp))
      · exact .inr (.inr (by omega))
    · rcases List.mem_append.1 q with r | r
      · exact .inl (List.mem_append_right _ r)
      · exact .inr (.inl r)

/-- append(v, y), y one element of several cells that the call owns. -/
theorem wp_appendN {P : Program} {c : Cd α} {o : Oper} {a : Act} {K : Act → World → Prop} {Q : Exit → Act → World → Prop} {w : World} (s x : Operand) (t : TypeId)
    (ho : o.op = .call { callee := .builtin .append, args := #[s, x], argTypes := #[t, t] })
    (base : Nat) (e : TypeId) (z : Value) (size bytes : Nat) (hn : c.n = size) (ht : P.underlying t = some (.slice e)) (hinfo : (P.info? e).map (fun i => (i.zero, i.size, i.bytes)) = some (some z, size, bytes)) (hzs : z.cells.size = size) (hby : bytes ≤ 10000)
    (v : Value) (l : List α) (fp : List Nat) (hs : a.eval s = v) (how : (sl e c).ow w base [v] l fp) (hd : fp.Nodup) (b : Nat) (us : List Value) (hx : a.eval x = .slice (some ⟨b, 0, none⟩) 1 1) (hu : At w b 0 us)
    (y : α) (f : List Nat) (hy : c.ow w base us y f) (hfd : f.Nodup) (hdis : ∀ b ∈ f, b ∉ fp) (hlen : l.length + 1 ≤ 1000000000) (hbase : base ≤ w.heap.size)
    (h : ∀ g cap w' fp', (sl e c).ow w' base [.slice (some ⟨g, 0, none⟩) (l.length + 1) cap] (l ++ [y]) fp' → fp'.Nodup → (∀ b ∈ fp', b ∈ fp ∨ b ∈ f ∨ w.heap.size ≤ b) → Touch fp w w' →
      K (a.put o.dst (.slice (some ⟨g, 0, none⟩) (l.length + 1) cap)) w') : o.wp P a w K Q := by
  obtain ⟨i0, hi, hz0, hz1, hz2⟩ := info_parts hinfo
  have hlt : ∀ b ∈ fp, b < w.heap.size := fun b hb => ((sl e c).ow_lt how b hb).2
  obtain ⟨v', xss, fps, e1, hown, hE, hfp⟩ := how
  injection e1 with e1 _
  subst e1
  have hul : us.length = size := (c.len (c.ow_rd hy)).trans hn
  have hpos : 0 < size := by rw [← hn]; exact c.pos
  rw [hn] at hown
  refine wp_append_lies w s x t ho base e i0 z size bytes ht hi hz0 hz1 hz2 hzs hpos v l.length xss.flatten hs hown ⟨b, 0, none⟩ 1 1 us hx (by omega) ?_ (fun u' hu' => c.one (c.ow_rd hy) u' hu') (by decide) (by unfold maxLen; omega) ?_ hbase w.heap.size rfl ?_
  · intro j u' hj
    obtain ⟨hj1, hj2⟩ := List.getElem?_eq_some_iff.1 hj
    have ha : (⟨b, 0, none⟩ : Addr).add j = ⟨b, 0 + j, none⟩ := by unfold Addr.add; split <;> simp_all
    rw [ha, hu j hj1, hj2]
  · calc (l.length + 1) * bytes ≤ 1000000000 * 10000 := Nat.mul_le_mul hlen hby
      _ ≤ 140737488355328 := by decide
  · intro g cap w' h2 h3 h4 h5
    have h2' : w'.ownsRow base e c.n (.slice (some ⟨g, 0, none⟩) (l.length + 1) cap) (l.length + 1) (xss.flatten ++ us) := by rw [hn]; exact h2
    obtain ⟨fp', k1, k2, k3, k4⟩ := ow_appendedN hE hfp hd hlt hy hfd hdis h2' h3 h4
    exact h g cap w' fp' k1 k2 k3 k4
theorem wpList_appendN {P : Program} {c : Cd α} {ops : Array Oper} {rest : List Oper} {o : Oper} {a : Act} {Q : Exit → Act → World → Prop} {w : World} (hgd : o.guard = none) (s x : Operand) (t : TypeId)
    (ho : o.op = .call { callee := .builtin .append, args := #[s, x], argTypes := #[t, t] })
    (base : Nat) (e : TypeId) (z : Value) (size bytes : Nat) (hn : c.n = size) (ht : P.underlying t = some (.slice e)) (hinfo : (P.info? e).map (fun i => (i.zero, i.size, i.bytes)) = some (some z, size, bytes)) (hzs : z.cells.size = size) (hby : bytes ≤ 10000)
    (v : Value) (l : List α) (fp : List Nat) (hs : a.eval s = v) (how : (sl e c).ow w base [v] l fp) (hd : fp.Nodup) (b : Nat) (us : List Value) (hx : a.eval x = .slice (some ⟨b, 0, none⟩) 1 1) (hu : At w b 0 us)
    (y : α) (f : List Nat) (hy : c.ow w base us y f) (hfd : f.Nodup) (hdis : ∀ b ∈ f, b ∉ fp) (hlen : l.length + 1 ≤ 1000000000) (hbase : base ≤ w.heap.size)
    (h : ∀ g cap w' fp', (sl e c).ow w' base [.slice (some ⟨g, 0, none⟩) (l.length + 1) cap] (l ++ [y]) fp' → fp'.Nodup → (∀ b ∈ fp', b ∈ fp ∨ b ∈ f ∨ w.heap.size ≤ b) → Touch fp w w' →
      wpList P ops Q rest (a.put o.dst (.slice (some ⟨g, 0, none⟩) (l.length + 1) cap)) w') : wpList P ops Q (o :: rest) a w :=
  wpList_plain hgd fun _ hK => wp_appendN s x t ho base e z size bytes hn ht hinfo hzs hby v l fp hs how hd b us hx hu y f hy hfd hdis hlen hbase fun g cap w' fp' h1 h2 h3 h4 => hK _ _ (h g cap w' fp' h1 h2 h3 h4)
theorem step_appendN {P : Program} {c : Cd α} {ops : Array Oper} {o : Oper} {a : Act} {K : Act → World → Prop} {Q : Exit → Act → World → Prop} {E : Prop} {w : World} (hgd : o.guard = none) (s x : Operand) (t : TypeId)
    (ho : o.op = .call { callee := .builtin .append, args := #[s, x], argTypes := #[t, t] })
    (base : Nat) (e : TypeId) (z : Value) (size bytes : Nat) (hn : c.n = size) (ht : P.underlying t = some (.slice e)) (hinfo : (P.info? e).map (fun i => (i.zero, i.size, i.bytes)) = some (some z, size, bytes)) (hzs : z.cells.size = size) (hby : bytes ≤ 10000)
    (v : Value) (l : List α) (fp : List Nat) (hs : a.eval s = v) (how : (sl e c).ow w base [v] l fp) (hd : fp.Nodup) (b : Nat) (us : List Value) (hx : a.eval x = .slice (some ⟨b, 0, none⟩) 1 1) (hu : At w b 0 us)
    (y : α) (f : List Nat) (hy : c.ow w base us y f) (hfd : f.Nodup) (hdis : ∀ b ∈ f, b ∉ fp) (hlen : l.length + 1 ≤ 1000000000) (hbase : base ≤ w.heap.size)
    (h : ∀ g cap w' fp', (sl e c).ow w' base [.slice (some ⟨g, 0, none⟩) (l.length + 1) cap] (l ++ [y]) fp' → fp'.Nodup → (∀ b ∈ fp', b ∈ fp ∨ b ∈ f ∨ w.heap.size ≤ b) → Touch fp w w' →
      K (a.put o.dst (.slice (some ⟨g, 0, none⟩) (l.length + 1) cap)) w') :
    if Region.wanted o (yielded ops a.tmps) = true then Oper.wp P o a w K Q else E := by
  have hw : Region.wanted o (yielded ops a.tmps) = true := by simp [Region.wanted, hgd]
  rw [if_pos hw]
  exact wp_appendN s x t ho base e z size bytes hn ht hinfo hzs hby v l fp hs how hd b us hx hu y f hy hfd hdis hlen hbase h
end Cd
end Go.Proofs.Ytnjomgefmoehhaa.Cd

namespace Go.Proofs.Ytnjomgefmoehhaa.AnsImp
open Go Go.RowKit Byt Ints IntsLaw Cd Rows2 Tab TabSpec Exact TabImp

/-- A row that the call owns, outside block g. -/
structure RowO (w : World) (base g : Nat) where
  v : Value
  l : List Int
  f : List Nat
  ow : rowC.ow w base [v] l f
  ng : g ∉ f
instance (w : World) (base g : Nat) : Inhabited (RowO w base g) := ⟨⟨.slice none 0 0, [], [], Cd.ow_nil _ _, by simp⟩⟩
theorem each_rowo {w : World} {base g : Nat} : ∀ {xss : List (List Value)} {l : List (List Int)} {fps : List (List Nat)}, Cd.Each rowC w base xss l fps → (∀ f ∈ fps, g ∉ f) →
    ∃ ds : List (RowO w base g), (ds.map fun d => [d.v]) = xss ∧ ds.map RowO.l = l ∧ ds.map RowO.f = fps
  | [], [], [], _, _ => ⟨[], rfl, rfl, rfl⟩
  | x :: xs, a :: az, f :: fs, h, hn => by
    have hl := rowC.len (rowC.ow_rd h.1)
    match x, hl with
    | [v], _ =>
      obtain ⟨ds, h1, h2, h3⟩ := each_rowo (xss := xs) (l := az) (fps := fs) h.2 fun f hf => hn f (List.mem_cons.2 (.inr hf))
      exact ⟨⟨v, a, f, h.1, hn f (List.mem_cons.2 (.inl rfl))⟩ :: ds, by rw [List.map_cons, h1], by rw [List.map_cons, h2], by rw [List.map_cons, h3]⟩
theorem rowo_each {w w' : World} {base g : Nat} (ht : Cd.Touch [g] w w') : ∀ ds : List (RowO w base g), Cd.Each rowC w' base (ds.map fun d => [d.v]) (ds.map RowO.l) (ds.map RowO.f)
  | [] => trivial
  | d :: ds => ⟨Cd.ow_touched d.ow ht (fun b hb q => by rw [List.mem_singleton.1 q] at hb; exact d.ng hb), rowo_each ht ds⟩
theorem flat_one {w : World} {base g : Nat} : ∀ ds : List (RowO w base g), (ds.map fun d => [d.v]).flatten = ds.map RowO.v
  | [] => rfl
  | d :: ds => by rw [List.map_cons, List.flatten_cons, flat_one ds]; rfl
def cfO {w : World} {base g : Nat} (x y : RowO w base g) : Int := cmpR x.l y.l
theorem swoO {w : World} {base g : Nat} : Sort.SWO (ltOf (cfO (w := w) (base := base) (g := g))) where
  irrefl x := by
    unfold ltOf cfO
    rw [cmpR_self]
    rfl
  trans x y z h1 h2 := by
    unfold ltOf cfO at *
    exact decide_eq_true (cmpR_trans (of_decide_eq_true h1) (of_decide_eq_true h2))
  ntrans x y z h1 h2 := by
    unfold ltOf cfO at *
    have h1 := of_decide_eq_false h1
    have h2 := of_decide_eq_false h2
    refine decide_eq_false fun h3 => ?_
    by_cases e : cmpR x.l y.l = 0
    · rw [cmpR_eq e] at h3
      exact h2 h3
    · have h4 := cmpR_anti y.l x.l
      exact h2 (cmpR_trans (show cmpR y.l x.l < 0 by omega) h3)
theorem put_one {α : Type} [Inhabited α] (enc : α → Value) (d : Array α) (cur : Array Value) (h : d.size ≤ cur.size) : (Sort.putCells enc 0 d cur).toList.take d.size = d.toList.map enc := by
  apply List.ext_getElem?
  intro j
  by_cases hj : j < d.size
  · rw [List.getElem?_take, if_pos hj, Array.getElem?_toList]
    unfold Sort.putCells
    rw [Array.getElem?_mapIdx, Array.getElem?_eq_getElem (by omega), List.getElem?_map, Array.getElem?_toList, Array.getElem?_eq_getElem hj]
    simp only [Option.map_some, Nat.zero_le, true_and, Nat.zero_add, hj, if_true, Nat.sub_zero]
    rw [getElem!_pos d j hj]
  · rw [List.getElem?_eq_none (by rw [List.length_take]; omega), List.getElem?_eq_none (by rw [List.length_map, Array.length_toList]; omega)]
theorem heap_sort1 {α : Type} [Inhabited α] (enc : α → Value) (w : World) (g m : Nat) (d : Array α) (os : Array Obj) (hg : g < w.heap.size) {cur : Array Value} {e : TypeId} (h : w.heap[g]? = some (.cells cur e (0, 0))) :
    (sortWorld enc w g 0 m d os).heap[g]? = some (.cells (Sort.putCells enc 0 d cur) e (0, 0)) := by
  unfold sortWorld
  rw [heap_grow _ os (by rw [Sort.size_putRow]; exact hg)]
  show (w.heap.modify g _)[g]? = _
  rw [Array.getElem?_modify, if_pos rfl, h]
  rfl
def SortO (g cap base : Nat) (l : List (List Int)) (w : World) (e : Ending) (w' : World) : Prop :=
  ∃ l' fp', e = .returned (.tuple #[]) ∧ rowsC.ow w' base [.slice (some ⟨g, 0, none⟩) l'.length cap] l' fp' ∧ fp'.Nodup ∧ l'.Perm l ∧ l'.Pairwise (fun a b => cmpR a b ≤ 0) ∧ Cd.Touch [g] w w'

end Go.Proofs.Ytnjomgefmoehhaa.AnsImp

namespace Go.Proofs.Ytnjomgefmoehhaa.DegImp
open Go Go.RowKit Byt Ints IntsLaw Cd Rows2 Tab TabSpec TabImp Exact DegMath DegSpec
open AnsImp (put_one heap_sort1)

/-- A string by its bytes. -/
def strC : Cd (List UInt8) := Cd.flat (fun k => .string ⟨k.toArray⟩) (fun k => k.length ≤ maxLen) (fun _ => rfl)
def strsC : Cd (List (List UInt8)) := Cd.sl 9 strC
theorem each_str {w : World} {base : Nat} : ∀ {xss : List (List Value)} {l : List (List UInt8)} {fps : List (List Nat)}, Cd.Each strC w base xss l fps → xss.flatten = l.map (fun k => Value.string ⟨k.toArray⟩) ∧ fps.flatten = [] ∧ ∀ k ∈ l, k.length ≤ maxLen
  | [], [], [], _ => ⟨rfl, rfl, fun _ h => by cases h⟩
  | x :: xs, a :: az, f :: fs, h => by
    obtain ⟨h1, h2, h3⟩ := each_str (xss := xs) (l := az) (fps := fs) h.2
    obtain ⟨e1, e2, e3⟩ := h.1
    subst e1 e3
    refine ⟨by rw [List.flatten_cons, h1]; rfl, by rw [List.flatten_cons, h2]; rfl, fun k hk => ?_⟩
    rcases List.mem_cons.1 hk with rfl | q
    · exact e2
    · exact h3 k q
theorem str_each {w : World} {base : Nat} : ∀ {l : List (List UInt8)}, (∀ k ∈ l, k.length ≤ maxLen) → Cd.Each strC w base (l.map fun k => [Value.string ⟨k.toArray⟩]) l (l.map fun _ => [])
  | [], _ => trivial
  | k :: _, h => ⟨⟨rfl, h k List.mem_cons_self, rfl⟩, str_each fun x hx => h x (List.mem_cons_of_mem _ hx)⟩
theorem flat_sing {α : Type} (f : α → Value) : ∀ l : List α, (l.map fun k => [f k]).flatten = l.map f
  | [] => rfl
  | k :: l => by rw [List.map_cons, List.flatten_cons, flat_sing f l]; rfl
theorem flat_nil {α β : Type} : ∀ l : List α, (l.map fun _ => ([] : List β)).flatten = []
  | [] => rfl
  | k :: l => by rw [List.map_cons, List.flatten_cons, flat_nil l]; rfl
/-- What a slice of strings that the call owns is, cell by cell. -/
theorem strs_bare {w : World} {base g n cap : Nat} {l : List (List UInt8)} {fp : List Nat} (h : strsC.ow w base [.slice (some ⟨g, 0, none⟩) n cap] l fp) :
    ∃ cur, w.heap[g]? = some (.cells cur 9 (0, 0)) ∧ cur.size = cap ∧ n = l.length ∧ n ≤ cap ∧ cap ≤ maxLen ∧ base ≤ g ∧ cur.toList.take n = l.map (fun k => Value.string ⟨k.toArray⟩) ∧ fp = [g] ∧ ∀ k ∈ l, k.length ≤ maxLen := by
  obtain ⟨cur, xss, fps, h1, h2, h3, h4, h5, h6, h7, h8, h9⟩ := Cd.ow_bare (c := strC) rfl h
  obtain ⟨e1, e2, e3⟩ := each_str h8
  exact ⟨cur, h1, h2, h3, h4, h5, h6, h7.trans e1, by rw [h9, e2], e3⟩
theorem bare_strs {w : World} {base g n cap : Nat} {l : List (List UInt8)} {cur : Array Value} (hg : w.heap[g]? = some (.cells cur 9 (0, 0))) (hs : cur.size = cap) (hn : n = l.length) (hc : n ≤ cap) (hm : cap ≤ maxLen) (hb : base ≤ g)
    (ht : cur.toList.take n = l.map (fun k => Value.string ⟨k.toArray⟩)) (hl : ∀ k ∈ l, k.length ≤ maxLen) : strsC.ow w base [.slice (some ⟨g, 0, none⟩) n cap] l [g] := by
  have h := Cd.ow_bared (c := strC) rfl hg hs hn hc hm hb (ht.trans (flat_sing _ l).symm) (str_each (w := w) (base := base) hl)
  rw [flat_nil] at h
  exact h
theorem bare_holds {α : Type} [Inhabited α] {w : World} {g : Nat} {cur : Array Value} {e : TypeId} (enc : α → Value) {l : List α} (hg : w.heap[g]? = some (.cells cur e (0, 0))) (ht : cur.toList.take l.length = l.map enc) : Sort.Holds enc w g 0 l.toArray := by
  intro j hj
  have hj' : j < l.length := by simpa using hj
  have h1 : (cur.toList.take l.length)[j]? = some (enc l[j]) := by rw [ht, List.getElem?_map, List.getElem?_eq_getElem hj', Option.map_some]
  rw [List.getElem?_take, if_pos hj', Array.getElem?_toList] at h1
  rw [Nat.zero_add, getElem!_pos _ j hj]
  refine ⟨?_, by simp [World.frozen?, hg]⟩
  simp [World.cell?, hg, h1]

set_option maxRecDepth 100000 in
theorem sort_strs (g cap base : Nat) (l : List (List UInt8)) (fp : List Nat) (w : World) (ho : strsC.ow w base [.slice (some ⟨g, 0, none⟩) l.length cap] l fp) (hl : l.length ≤ 1000000) :
    Calls Try.prog 46 #[.slice (some ⟨g, 0, none⟩) l.length cap] w fun e w' => e = .returned (.tuple #[]) ∧ strsC.ow w' base [.slice (some ⟨g, 0, none⟩) l.length cap] (l.mergeSort fun x y => decide (x ≤ y)) [g] ∧ Cd.Touch [g] w w' := by
  obtain ⟨cur, h1, h2, h3, h4, h5, h6, h7, h8, h9⟩ := strs_bare ho
  have hgw : g < w.heap.size := (Array.getElem?_eq_some_iff.1 h1).1
  have hH : Sort.Holds encStr w g 0 l.toArray := bare_holds (fun k : List UInt8 => Value.string ⟨k.toArray⟩) h1 h7
  have hs := Try.slices_Sort_string g 0 cap l w hH hgw (by omega)
  refine hs.mono ?_
  rintro e w' ⟨rfl, n, os, rfl⟩
  have hsz : (l.mergeSort fun x y => decide (x ≤ y)).toArray.size = l.length := by rw [List.size_toArray, List.length_mergeSort]
  have hg2 := heap_sort1 encStr w g n (l.mergeSort fun x y => decide (x ≤ y)).toArray os hgw h1
  have ht2 := put_one encStr (l.mergeSort fun x y => decide (x ≤ y)).toArray cur (by rw [hsz, h2]; exact h4)
  rw [hsz] at ht2
  refine ⟨rfl, bare_strs hg2 (by unfold Sort.putCells; rw [Array.size_mapIdx]; exact h2) (by rw [List.length_mergeSort]) h4 h5 h6 ht2 (fun k hk => h9 k (List.mem_mergeSort.1 hk)), touch_sort _ _ _ _ _ _⟩

theorem cmp_down (x y : Int) (w : World) : Calls Try.prog 42 #[.int .i64 x, .int .i64 y] w fun e w' => e = .returned (.int .i64 (Lib.compareInt y x)) ∧ w = w' := by
  have HC := Lib.hid (Try.cmp_Compare_int y x)
  generalize Lib.compareInt y x = z at *
  go_enter Try.func42, Try.ntmps42
  go_wp2_with fail
  refine (HC.out _).mono ?_
  rintro e w1 ⟨rfl, rfl⟩
  go_wp2_with fail
  go_ret
  exact ⟨rfl, rfl⟩
def cfD (x y : Int) : Int := Lib.compareInt y x
theorem ltOf_down (x y : Int) : ltOf cfD x y = decide (y < x) := by
  unfold ltOf cfD Lib.compareInt
  by_cases h : y < x
  · rw [if_pos h, decide_eq_true h]; rfl
  · rw [if_neg h, decide_eq_false h]
    split <;> rfl
theorem swoD : Sort.SWO (ltOf cfD) where
  irrefl x := by rw [ltOf_down]; exact decide_eq_false (by omega)
  trans x y z h1 h2 := by rw [ltOf_down] at *; exact decide_eq_true (by have := of_decide_eq_true h1; have := of_decide_eq_true h2; omega)
  ntrans x y z h1 h2 := by rw [ltOf_down] at *; exact decide_eq_false (by have := of_decide_eq_false h1; have := of_decide_eq_false h2; omega)
theorem row_bare {w : World} {base g n cap : Nat} {l : List Int} {fp : List Nat} (h : rowC.ow w base [.slice (some ⟨g, 0, none⟩) n cap] l fp) :
    ∃ cur, w.heap[g]? = some (.cells cur 3 (0, 0)) ∧ cur.size = cap ∧ n = l.length ∧ n ≤ cap ∧ cap ≤ maxLen ∧ base ≤ g ∧ cur.toList.take n = l.map (fun x => Value.int .i64 x) ∧ fp = [g] ∧ InR l := by
  obtain ⟨hown, hin, hfp⟩ := row_own h
  rcases hown.2 with ⟨h', _⟩ | ⟨g', cap', cur, h', hbg, hg, hnc, hcm, hcs, htake⟩
  · cases h'
  simp only [Value.slice.injEq, Option.some.injEq, Addr.mk.injEq, and_true] at h'
  obtain ⟨rfl, rfl, rfl⟩ := h'
  refine ⟨cur, hg, by rw [hcs, Nat.mul_one], rfl, hnc, hcm, hbg, ?_, by rw [hfp]; rfl, hin⟩
  rw [Nat.mul_one] at htake
  exact htake
theorem bare_row {w : World} {base g n cap : Nat} {l : List Int} {cur : Array Value} (hg : w.heap[g]? = some (.cells cur 3 (0, 0))) (hs : cur.size = cap) (hn : n = l.length) (hc : n ≤ cap) (hm : cap ≤ maxLen) (hb : base ≤ g)
    (ht : cur.toList.take n = l.map (fun x => Value.int .i64 x)) (hl : InR l) : rowC.ow w base [.slice (some ⟨g, 0, none⟩) n cap] l [g] := by
  subst hn
  exact Cd.ow_of_own (v := .slice (some ⟨g, 0, none⟩) l.length cap) (l := l) ⟨by simp, .inr ⟨g, cap, cur, rfl, hb, hg, hc, hm, by rw [Nat.mul_one]; exact hs, by rw [Nat.mul_one]; exact ht⟩⟩ hl
set_option maxRecDepth 100000 in
theorem sort_down (g cap base : Nat) (l : List Int) (fp : List Nat) (w : World) (ho : rowC.ow w base [.slice (some ⟨g, 0, none⟩) l.length cap] l fp) (hl : l.length ≤ 1000000) :
    Calls Try.prog 41 #[.slice (some ⟨g, 0, none⟩) l.length cap, .func (.func 42) #[] #[]] w fun e w' => e = .returned (.tuple #[]) ∧ rowC.ow w' base [.slice (some ⟨g, 0, none⟩) l.length cap] (downL l) [g] ∧ Cd.Touch [g] w w' := by
  obtain ⟨cur, h1, h2, h3, h4, h5, h6, h7, h8, h9⟩ := row_bare ho
  have hgw : g < w.heap.size := (Array.getElem?_eq_some_iff.1 h1).1
  have hH : Sort.Holds (fun x => Value.int .i64 x) w g 0 l.toArray := bare_holds _ h1 h7
  have hcmp : CmpReads Try.prog 42 #[] (fun x => Value.int .i64 x) cfD g 0 l.toArray.size w := fun m os dk _ x y =>
    (cmp_down x y _).mono fun _ _ h => ⟨h.1, 0, h.2.symm⟩
  have hs := Try.slices_SortFunc (fun x : Int => Value.int .i64 x) (fun _ => rfl) cfD swoD 42 #[] g 0 cap l.toArray w (enters_of Try.func42 (by kernel_rfl) rfl) hcmp.lays hH hgw (by rw [List.size_toArray]; omega)
  rw [List.size_toArray] at hs
  refine hs.mono ?_
  rintro e w' ⟨rfl, d', m, os, hP, hS, rfl⟩
  obtain ⟨hp1, _, hp3⟩ := hP
  have hd' : d'.size = l.length := by rw [hp1, List.size_toArray]
  have hp : d'.toList.Perm l := by
    have e1 : d'.extract 0 l.length = d' := by rw [← hd', Array.extract_size]
    have e2 : l.toArray.extract 0 l.length = l.toArray := by rw [show l.length = l.toArray.size from rfl, Array.extract_size]
    rw [e1, e2] at hp3
    exact hp3
  have hdesc : Desc d'.toList := by
    unfold Desc
    rw [List.pairwise_iff_getElem]
    intro i j hi hj hij
    rw [Array.length_toList] at hi hj
    have h := hS i j (Nat.zero_le _) hij (by rw [← hd']; exact hj)
    rw [ltOf_down, getElem!_pos d' j hj, getElem!_pos d' i hi] at h
    have := of_decide_eq_false h
    rw [Array.getElem_toList, Array.getElem_toList]
    omega
  have e : downL l = d'.toList := (down_one hp hdesc).symm
  have hg2 := heap_sort1 (fun x : Int => Value.int .i64 x) w g m d' os hgw h1
  have ht2 := put_one (fun x : Int => Value.int .i64 x) d' cur (by rw [hd', h2]; exact h4)
  rw [hd'] at ht2
  refine ⟨rfl, ?_, touch_sort _ _ _ _ _ _⟩
  rw [e]
  exact bare_row hg2 (by unfold Sort.putCells; rw [Array.size_mapIdx]; exact h2) (by rw [Array.length_toList]; exact hd'.symm) h4 h5 h6 ht2 (fun x hx => h9 x (hp.mem_iff.1 hx))
set_option maxRecDepth 100000 in
set_option maxHeartbeats 1600000 in
theorem sort_nil (w : World) : Calls Try.prog 41 #[.slice none 0 0, .func (.func 42) #[] #[]] w fun e w' => e = .returned (.tuple #[]) ∧ w = w' := by
  have h1 : ∀ w : World, Calls Try.prog 80 #[.slice none 0 0, .int .i64 0, .int .i64 0, .func (.func 42) #[] #[]] w fun e w' => e = .returned (.tuple #[]) ∧ w = w' := fun w => by
    go_enter Try.func80, Try.ntmps80
    go_wp2
    refine wp_loop_rounds 1 ?_
    rw [rounds_succ]
    go_wp2
    exact bodyPost_end (v := .tuple #[]) (by simp [results, Try.results80, go_sem]) rfl ⟨rfl, rfl⟩
  have H1 := Lib.hid h1
  have h2 : ∀ (lim : Int) (w : World), Calls Try.prog 64 #[.slice none 0 0, .int .i64 0, .int .i64 0, .int .i64 lim, .func (.func 42) #[] #[]] w fun e w' => e = .returned (.tuple #[]) ∧ w = w' := fun lim w => by
    clear h1
    go_enter Try.func64, Try.ntmps64
    go_wp2
    refine wp_loop_rounds 1 ?_
    rw [rounds_succ]
    go_wp2_with (go_at_call 80; refine (H1.out _).mono ?_; rintro e w' ⟨rfl, rfl⟩)
    (try simp only [Exit.inBlock, Exit.then])
    exact bodyPost_ret (v := .tuple #[]) (by simp [results, Try.results64, go_sem]) rfl ⟨rfl, rfl⟩
  have H2 := Lib.hid h2
  clear h1 h2
  go_enter Try.func41, Try.ntmps41
  go_wp2_with (first | (go_at_call 65; refine (Try.bits_Len 0 _ (by decide) (by decide)).mono ?_; rintro e w' ⟨rfl, rfl⟩) | (go_at_call 64; refine (H2.out _ _).mono ?_; rintro e w' ⟨rfl, rfl⟩))
  exact bodyPost_end (v := .tuple #[]) (by simp [results, Try.results41, go_sem]) rfl ⟨rfl, rfl⟩
end Go.Proofs.Ytnjomgefmoehhaa.DegImp

namespace Go.Proofs.Ytnjomgefmoehhaa.DegImp
open Go Go.RowKit Byt Ints IntsLaw Cd Rows2 Tab TabSpec TabImp Exact DegMath DegSpec
open Go.Maps (Keyed string_keyed IsMap Tidy)

theorem strs_at {w : World} {S : Nat → Prop} {v : Value} {l : List (List UInt8)} (h : strsC.rd w S [v] l) {k : Nat} (hk : k < l.length) :
    ∃ b off cap, v = .slice (some ⟨b, off, none⟩) l.length cap ∧ b < w.heap.size ∧ w.cell? ⟨b, off + k, none⟩ = some (.string ⟨(l[k]).toArray⟩) ∧ (l[k]).length ≤ maxLen := by
  obtain ⟨b, off, cap, us, e1, _, hb, hat, hu⟩ := Cd.sl_at h hk
  obtain ⟨rfl, hm⟩ := hu
  have h0 := hat 0 (by simp)
  simp only [List.getElem_cons_zero, Nat.add_zero, show strC.n = 1 from rfl, Nat.mul_one] at h0
  exact ⟨b, off, cap, e1, hb, h0, hm⟩
theorem strs_form {w : World} {S : Nat → Prop} {v : Value} {l : List (List UInt8)} (h : strsC.rd w S [v] l) : ∃ a cap, v = .slice a l.length cap ∧ l.length ≤ 9223372036854775807 := by
  obtain ⟨ad, cap, e, hl, _⟩ := h
  injection e with e _
  exact ⟨ad, cap, e, hl⟩
theorem info_strs : (Try.prog.info? 9).map (fun i => (i.zero, i.size, i.bytes)) = some (some (.string ⟨#[]⟩), 1, 16) := by kernel_rfl
theorem in_digs (l : List UInt8) : InR (Loc.digs l) := fun x hx => by
  unfold Loc.digs at hx
  obtain ⟨b, _, rfl⟩ := List.mem_map.1 hx
  have := UInt8.toNat_lt b
  omega

set_option maxRecDepth 100000 in
set_option maxHeartbeats 1600000 in
theorem map_keys (v : Value) (l : List (List UInt8)) (S : Nat → Prop) (w : World) (hr : strsC.rd w S [v] l) (hl : l.length ≤ 1000) (hk : ∀ k ∈ l, k.length ≤ 1000) :
    Calls Try.prog 47 #[v, .func (.func 48) #[] #[]] w fun e w' => ∃ g fp, e = .returned (.slice (some ⟨g, 0, none⟩) l.length l.length) ∧ rowsC.ow w' w.heap.size [.slice (some ⟨g, 0, none⟩) l.length l.length] (l.map Loc.digs) fp ∧ fp.Nodup ∧ Below w.heap.size w w' := by
  obtain ⟨i0, hi, hz0, hz1, hz2⟩ := info_parts info_ints
  have HR := Lib.hid (fun w' (hb : Below w.heap.size w w') => Cd.later hr hb)
  have HK := Lib.hid hk
  obtain ⟨a, cap, rfl, hlm⟩ := strs_form hr
  clear hr hk
  go_enter Try.func47, Try.ntmps47
  go_wp2_with (at_make; refine wpList_make_own _ rfl _ _ 24 rfl w.heap.size 27 i0 (.slice none 0 0) 1 Try.underlying24 hi hz0 hz1 _ _ _ l.length rfl rfl rfl (by rw [hz2]; omega) (by unfold maxLen; omega) (Nat.le_refl _) ?_)
  intro w1 hown0 hg0
  have how1 : rowsC.ow w1 w.heap.size [.slice (some ⟨w.heap.size, 0, none⟩) 0 l.length] [] [w.heap.size] := ⟨_, [], [], rfl, hown0, trivial, rfl⟩
  have hb1 : Below w.heap.size w w1 := (Below.refl _ _).grown hg0 (Nat.le_refl _) (by simp)
  clear hown0 hg0
  go_wp2_with fail
  go_loopw [5, 13] (fun o i wr => ∃ (k : Nat) (fp : List Nat), k ≤ l.length ∧ i = .int .i64 k ∧ o = .slice (some ⟨w.heap.size, 0, none⟩) k l.length ∧ rowsC.ow wr w.heap.size [.slice (some ⟨w.heap.size, 0, none⟩) k l.length] ((l.take k).map Loc.digs) fp ∧ fp.Nodup ∧ Below w.heap.size w wr) (fun _ i _ => l.length - (intOf i).toNat)
  case atStart => exact ⟨0, _, Nat.zero_le _, rfl, rfl, how1, by simp, hb1⟩
  case round =>
    obtain ⟨k, fp, hk, rfl, rfl, how, hnd, hb⟩ := hrel
    by_cases hlt : k < l.length
    · obtain ⟨b, off, cap', e1, hbB, hc, _⟩ := strs_at (HR.out wr hb) hlt
      injection e1 with e1 e2 e3
      subst e1 e3
      have HC := Lib.hid (Dig.parse_digits ⟨(l[k]).toArray⟩ wr (by have := HK.out _ (List.getElem_mem hlt); show (l[k]).toArray.size ≤ _; rw [List.size_toArray]; omega))
      have HOW := Lib.hid how
      have HND := Lib.hid hnd
      have HB := Lib.hid hb
      have HT := Lib.hid (show (l.take (k + 1)).map Loc.digs = (l.take k).map Loc.digs ++ [Loc.digs l[k]] by rw [List.take_succ_eq_append_getElem hlt, List.map_append]; rfl)
      have HL := Lib.hid (show k = ((l.take k).map Loc.digs).length by rw [List.length_map, List.length_take]; omega)
      have HIN := Lib.hid (in_digs l[k])
      clear how hnd hb how1 hb1
      simp only at HC
      generalize l[k] = r at *
      generalize (l.take k).map Loc.digs = out at *
      generalize Loc.digs r = d at *
      go_wp2_with fail
      refine HC.out.mono ?_
      rintro e w2 ⟨v2, rfl, ho2, hb2⟩
      have ho2 := Cd.ow_of_own ho2 HIN.out
      obtain ⟨a2, c2, rfl⟩ := Cd.ow_slice ho2
      have hbA : Below w2.heap.size w2 (w2.alloc (.cells #[.slice a2 d.length c2] 27 (0, 0))) := below_alloc _ _
      have HOW2 := Lib.hid (Cd.ow_later (Cd.ow_later HOW.out hb2) hbA)
      have HO2 := Lib.hid (rowC.ow_base (Cd.ow_later ho2 hbA) HB.out.size)
      have HB2 := Lib.hid (below_then (below_then HB.out hb2) hbA)
      have HDIS := Lib.hid (show ∀ b ∈ (Value.slice a2 d.length c2).ownBlock.toList, b ∉ fp from fun b hb q => by
        have h1 := (rowC.ow_lt ho2 _ hb).1
        have h2 := (rowsC.ow_lt HOW.out _ q).2
        omega)
      have HBS := Lib.hid (show w.heap.size ≤ (w2.alloc (.cells #[.slice a2 d.length c2] 27 (0, 0))).heap.size by rw [size_alloc]; have := HB.out.size; have := hb2.size; omega)
      have HCELL := Lib.hid (show (w2.alloc (.cells #[.slice a2 d.length c2] 27 (0, 0))).cell? ⟨w2.heap.size, 0, none⟩ = some (.slice a2 d.length c2) from World.cell?_alloc_mark _ _ _ _ 0)
      have HFN := Lib.hid (Cd.own_nodup (v := .slice a2 d.length c2))
      clear hbA ho2 hb2
      go_wp2_with (at_builtin; refine Cd.wpList_appendR (c := rowC) rfl rfl (.tmp 17) (.tmp 21) 24 rfl w.heap.size 27 (.slice none 0 0) 24 Try.underlying24 info_ints rfl (by decide) w.heap.size l.length k out fp rfl HL.out HOW2.out HND.out (by omega) w2.heap.size (.slice a2 d.length c2) rfl HCELL.out d _ HO2.out HFN.out HDIS.out (by omega) HBS.out ?_)
      intro w3 fp3 ho3 hn3 hsub3 ht3
      have HB3 := Lib.hid (ht3.below HB2.out (fun b hb => (rowsC.ow_lt HOW.out b hb).1))
      rw [← HT.out] at ho3
      clear ht3 hsub3
      go_wp2_with fail
      go_roundw
      case rel => exact ⟨k + 1, fp3, by omega, by go_num, rfl, ho3, hn3, HB3.out⟩
      case measure => simp [intOf]; omega
    · have ek : k = l.length := by omega
      subst ek
      rw [List.take_length] at how
      go_wp2_with fail
      go_ret
      exact ⟨_, fp, rfl, how, hnd, hb⟩
/-- The keys that are gathered so far. -/
structure GathK (D : DataW Value) (left : Lit → Bool) (cur : List (List UInt8)) : Prop where
  mem : ∀ k, k ∈ cur ↔ (Maps.has D (.string k) = true ∧ left (.string k) = false)
  nd : cur.Nodup
theorem GathK.start (D : DataW Value) : GathK D (Maps.has D) [] := ⟨fun k => ⟨(fun h => by cases h), (fun ⟨h1, h2⟩ => by rw [h1] at h2; cases h2)⟩, List.nodup_nil⟩
theorem same_keyK {s t : List UInt8} : (Lit.string s).sameKey (Lit.string t) = decide (s = t) := by
  by_cases e : s = t
  · subst e; rw [decide_eq_true rfl]; simp [Lit.sameKey]
  · rw [decide_eq_false e]; exact Maps.sameKey_ne (str_ne e)
theorem GathK.step {D : DataW Value} {left : Lit → Bool} {cur : List (List UInt8)} (h : GathK D left cur) {k : List UInt8} (hD : Maps.has D (.string k) = true) (hl : left (.string k) = true) : GathK D (fun z => left z && !z.sameKey (.string k)) (cur ++ [k]) := by
  refine ⟨fun x => ?_, ?_⟩
  · rw [List.mem_append, List.mem_singleton, h.mem, same_keyK]
    simp only [Bool.and_eq_false_iff, Bool.not_eq_false', decide_eq_true_eq]
    constructor
    · rintro (⟨q1, q2⟩ | rfl)
      · exact ⟨q1, .inl q2⟩
      · exact ⟨hD, .inr rfl⟩
    · rintro ⟨q1, q2 | q2⟩
      · exact .inl ⟨q1, q2⟩
      · exact .inr q2
  · rw [List.nodup_append]
    refine ⟨h.nd, by simp, fun a ha b hb e => ?_⟩
    rw [List.mem_singleton.1 hb] at e
    have := ((h.mem a).1 ha).2
    rw [e, hl] at this
    cases this
theorem key_invS {v : Value} {kl : Lit} (h : keyOf Try.prog 9 v = some kl) : ∃ x : ByteArray, v = .string x := by
  rw [keyOf_string Try.underlying9] at h
  unfold mapKey at h
  rw [Try.underlying9] at h
  split at h <;> simp_all
theorem key_eqS {x : ByteArray} {kl : Lit} (h : keyOf Try.prog 9 (.string x) = some kl) : kl = .string x.data.toList ∧ x.data.toList.length ≤ maxLen := by
  rw [keyOf_string Try.underlying9] at h
  unfold mapKey at h
  rw [Try.underlying9] at h
  simp only at h
  split at h
  · rename_i hs
    injection h with h
    exact ⟨h.symm, by rw [Array.length_toList]; exact hs⟩
  · cases h
end Go.Proofs.Ytnjomgefmoehhaa.DegImp

namespace Go.Proofs.Ytnjomgefmoehhaa.DegImp
open Go Go.RowKit Byt Ints IntsLaw Cd Rows2 Tab TabSpec TabImp Exact DegMath DegSpec
open Go.Maps (Keyed string_keyed IsMap Tidy)

theorem gcV_no {nm : ByteArray} {ar : Int} {rows : List (List Int)} {cols : List Int} (h : gcOk nm ar rows cols = false) : gcV nm ar rows cols = [] ∧ gcN nm ar rows cols = [] := by
  unfold gcV gcN
  rw [if_neg (by rw [h]; decide), if_neg (by rw [h]; decide)]
  exact ⟨rfl, rfl⟩
theorem groups_none {nm : ByteArray} {ar : Int} {rows : List (List Int)} {cols : List Int} (h : gcOk nm ar rows cols = false) {w w' : World} (hb : Below w.heap.size w w') : GroupAns nm ar rows cols w (.returned (.tuple #[.slice none 0 0, .slice none 0 0])) w' := by
  obtain ⟨h1, h2⟩ := gcV_no h
  exact ⟨_, _, [], [], rfl, by rw [h1]; exact Cd.ow_nil _ _, by rw [h2]; exact Cd.ow_nil _ _, by simp, by simp, by simp, hb⟩
theorem keyB_len (v : List Int) : (keyB v).length = v.length := Loc.locB_len v
theorem OwnsC.kept {w w' : World} {B n : Nat} {D : DataW Value} {fp : List Nat} (h : OwnsC w B n D) (ht : Cd.Touch fp w w') (hB : B ∉ fp) : OwnsC w' B n D := by
  obtain ⟨es, clock, q1, q2⟩ := h
  exact ⟨es, clock, (ht.block B (Array.getElem?_eq_some_iff.1 q1).1 hB).trans q1, q2⟩

set_option maxRecDepth 100000 in
set_option maxHeartbeats 6400000 in
theorem impl_groups (nm : ByteArray) (ar : Int) (u v : Value) (rows : List (List Int)) (V : List Int) (S S2 : Nat → Prop) (w : World) (hr : rowsC.rd w S [u] rows) (hv : rowC.rd w S2 [v] V) :
    Calls Try.prog 14 #[.agg #[.string nm, .int .i64 ar, u], v] w fun e w' => GroupAns nm ar rows V w e w' := by
  have HVL := Lib.hid (fun w' (hb : Below w.heap.size w w') => impl_valid nm ar u rows S w' (Cd.later hr hb))
  have HAS := Lib.hid (fun w' (hb : Below w.heap.size w w') => impl_asc v V ar _ w' (row_ri (Cd.later hv hb)).1)
  have HCT := Lib.hid (fun w' (hb : Below w.heap.size w w') => impl_counts u v rows V S S2 w' (Cd.later hr hb) (Cd.later hv hb))
  obtain ⟨a, cap, rfl, hlm⟩ := rows_form hr
  obtain ⟨a1, c1, rfl, hl1⟩ := (row_ri hv).1
  clear hr hv
  cases ht : tabOk nm ar rows
  · have HNO := Lib.hid (show gcOk nm ar rows V = false by unfold gcOk; rw [ht]; rfl)
    rw [ht] at HVL
    clear ht
    go_enter Try.func14, Try.ntmps14
    go_wp2_with fail
    generalize hW : w.alloc _ = W
    obtain ⟨r0, _, hb0⟩ := start1 w _ hW
    obtain ⟨d0, d1, d2, _, _, _⟩ := Loc3.of r0
    have HB := Lib.hid hb0
    clear hW r0 hb0
    go_wp2_with fail
    refine (HVL.out W HB.out).mono ?_
    rintro e w1 ⟨rfl, hb1⟩
    have HB1 := Lib.hid (below_then HB.out hb1)
    clear hb1
    go_wp2_with fail
    go_ret2
    exact groups_none HNO.out HB1.out
  cases hcl : colsOk V ar
  · have HNO := Lib.hid (show gcOk nm ar rows V = false by unfold gcOk; rw [ht, hcl]; rfl)
    rw [ht] at HVL
    rw [hcl] at HAS
    clear ht hcl
    go_enter Try.func14, Try.ntmps14
    go_wp2_with fail
    generalize hW : w.alloc _ = W
    obtain ⟨r0, _, hb0⟩ := start1 w _ hW
    obtain ⟨d0, d1, d2, _, _, _⟩ := Loc3.of r0
    have HL := Lib.hid (Loc3.of r0)
    have HB := Lib.hid hb0
    clear hW r0 hb0
    go_wp2_with fail
    refine (HVL.out W HB.out).mono ?_
    rintro e w1 ⟨rfl, hb1⟩
    have HB1 := Lib.hid (below_then HB.out hb1)
    obtain ⟨d0, d1, d2, _, _, _⟩ := HL.out.later hb1
    clear hb1
    go_wp2_with fail
    refine (HAS.out w1 HB1.out).mono ?_
    rintro e w2 ⟨rfl, rfl⟩
    go_wp2_with fail
    go_ret2
    exact groups_none HNO.out HB1.out
  have hok : gcOk nm ar rows V = true := by unfold gcOk; rw [ht, hcl]; rfl
  obtain ⟨hT, hC⟩ := gc_rows hok
  have h8 := hT.2.2.2.1
  have h3 := col_len hC hT.2.2.1
  have HCT2 := Lib.hid (fun w' (hb : Below w.heap.size w w') => HCT.out w' hb h8 h3 (fun r hr => sel_ok hok hr) (fun r hr => (rowOk_iff.1 (hT.2.2.2.2.1 r hr)).2))
  have hdg : ∀ x ∈ xsT rows V, ∀ y ∈ x, 0 ≤ y ∧ y ≤ 9 := fun x hx => by
    obtain ⟨r, hr, rfl⟩ := xsT_mem hx
    exact sel_digits (rowOk_iff.1 (hT.2.2.2.2.1 r hr)).2
  have hxl : ∀ x ∈ xsT rows V, x.length ≤ 3 := fun x hx => by
    obtain ⟨r, hr, rfl⟩ := xsT_mem hx
    rw [sel_len]
    exact h3
  have HSK := Lib.hid (fun (ks : List (List UInt8)) (hn : ks.Nodup) (hm : ∀ k, k ∈ ks ↔ k ∈ keysT rows V) => sorted_keys (xs := xsT rows V) hdg hn hm)
  have HKC := Lib.hid (fun (x : List Int) (hx : x ∈ valL (xsT rows V)) => count_keyB (xs := xsT rows V) hdg (hdg x (valL_mem.1 hx)))
  have HDK := Lib.hid (show ((valL (xsT rows V)).map keyB).map Loc.digs = valL (xsT rows V) by
    rw [List.map_map]
    conv => rhs; rw [← List.map_id (valL (xsT rows V))]
    exact List.map_congr_left fun x hx => digs_keyB (hdg x (valL_mem.1 hx)))
  have HKS := Lib.hid (show ∀ k ∈ (valL (xsT rows V)).map keyB, k.length ≤ 1000 from fun k hk => by
    obtain ⟨x, hx, rfl⟩ := List.mem_map.1 hk
    rw [keyB_len]
    have := hxl x (valL_mem.1 hx)
    omega)
  have HV8 := Lib.hid (show (valL (xsT rows V)).length ≤ 8 by have := valL_len (xsT rows V); rw [xsT_len] at this; omega)
  have HC8 := Lib.hid (fun x => show cnt (xsT rows V) x ≤ 8 by have := cnt_le (xsT rows V) x; rw [xsT_len] at this; omega)
  have HE1 := Lib.hid (show gcV nm ar rows V = valL (xsT rows V) by unfold gcV; rw [if_pos hok])
  have HE2 := Lib.hid (show gcN nm ar rows V = (valL (xsT rows V)).map (cntI (xsT rows V)) by unfold gcN; rw [if_pos hok])
  have HK8 := Lib.hid (show (keysT rows V).length ≤ 8 by rw [keysT_len]; exact h8)
  have HKX := Lib.hid (show keysT rows V = (xsT rows V).map keyB from rfl)
  rw [ht] at HVL
  rw [hcl] at HAS
  clear ht hcl hok hT hC hdg hxl HCT h8 h3
  obtain ⟨i0, hi, hz0, hz1, hz2⟩ := info_parts info_strs
  obtain ⟨j0, hj, hy0, hy1, hy2⟩ := info_parts info_i64
  go_enter Try.func14, Try.ntmps14
  go_wp2_with fail
  generalize hW : w.alloc _ = W
  obtain ⟨r0, hwz, hb0⟩ := start1 w _ hW
  obtain ⟨d0, d1, d2, _, _, _⟩ := Loc3.of r0
  have HL := Lib.hid (Loc3.of r0)
  have HB := Lib.hid hb0
  clear hW r0 hb0
  go_wp2_with fail
  refine (HVL.out W HB.out).mono ?_
  rintro e w1 ⟨rfl, hb1⟩
  have HB1 := Lib.hid (below_then HB.out hb1)
  have HL1 := Lib.hid (HL.out.later hb1)
  obtain ⟨d0, d1, d2, _, _, _⟩ := HL1.out
  clear hb1
  go_wp2_with fail
  refine (HAS.out w1 HB1.out).mono ?_
  rintro e w2 ⟨rfl, rfl⟩
  go_wp2_with fail
  refine (HCT2.out w1 HB1.out).mono ?_
  rintro e w2 ⟨D, n, rfl, hown, hn8, hcnt, hlt2, hb2⟩
  have HLT2 := Lib.hid hlt2
  have HB2 := Lib.hid (below_then HB1.out hb2)
  have HM2 := Lib.hid hown
  have HCN := Lib.hid hcnt
  have hsize : Maps.size D ≤ 8 := Nat.le_trans hcnt.size HK8.out
  have HBB := Lib.hid (show w.heap.size ≤ w1.heap.size from HB1.out.size)
  generalize hBv : w1.heap.size = B at *
  clear hb2 hcnt hBv d0 d1 d2
  generalize hm : Maps.size D = m at *
  go_wp2_with (first
    | (at_len; refine wpList_len_own _ rfl _ 53 rfl 9 3 Try.underlying53 intR B n D rfl hown ?_; rw [hm])
    | (at_make; refine wpList_make_own _ rfl _ _ 55 rfl w2.heap.size 9 i0 (.string ⟨#[]⟩) 1 Try.underlying55 hi hz0 hz1 _ _ _ m rfl rfl rfl (by rw [hz2]; omega) (by unfold maxLen; omega) (Nat.le_refl _) ?_))
  intro w3 hown3 hg3
  have HB3 := Lib.hid (below_then HB2.out (show Below _ _ w3 from ⟨hg3.os, hg3.tape, hg3.output, hg3.size, fun k hk => hg3.block k hk (by simp)⟩))
  have HM3 := Lib.hid (show OwnsC w3 B n D from World.ownsMap.kept hown hg3 (by simp))
  have HS3 := Lib.hid (show w2.heap.size < w3.heap.size from by
    rcases hown3.2 with ⟨h', _⟩ | ⟨g', cap', cur, h', _, hg, _⟩
    · cases h'
    · simp only [Value.slice.injEq, Option.some.injEq, Addr.mk.injEq, and_true, true_and] at h'
      have := (Array.getElem?_eq_some_iff.1 hg).1
      rw [← h'.1] at this
      exact this)
  have HO3 := Lib.hid (show strsC.ow w3 w2.heap.size [.slice (some ⟨w2.heap.size, 0, none⟩) 0 m] [] [w2.heap.size] from ⟨_, [], [], rfl, hown3, trivial, rfl⟩)
  have HW2 := Lib.hid (show w.heap.size ≤ w2.heap.size from HB2.out.size)
  clear hg3 hown3 hown
  have hownM := HM3.out
  go_wp2_with (first
    | (at_range; refine wpList_range_own _ rfl _ 53 rfl 9 3 lawS Try.underlying53 intR B n D rfl hownM ?_; intro w4 hrg4 hg4 hs4))
  go_frame
  have hb4 : Below w3.heap.size w3 w4 := ⟨hg4.os, hg4.tape, hg4.output, hg4.size, fun k hk => hg4.block k hk (by simp)⟩
  have HRG := Lib.hid hrg4
  have HB4 := Lib.hid (below_then HB3.out hb4)
  have HO4 := Lib.hid (Cd.ow_base _ (Cd.ow_later HO3.out hb4) HW2.out)
  clear hrg4 hg4 hb4 hownM
  rw [hm] at HRG
  go_loopw [7] (fun o wr => ∃ (left : Lit → Bool) (cnt g c : Nat) (cur : List (List UInt8)), o = .slice (some ⟨g, 0, none⟩) cur.length c ∧ wr.ranges Try.prog 9 intR B w3.heap.size n D left cnt ∧ cur.length + cnt ≤ m ∧ strsC.ow wr w.heap.size [.slice (some ⟨g, 0, none⟩) cur.length c] cur [g] ∧ w2.heap.size ≤ g ∧ g ≠ w3.heap.size ∧ GathK D left cur ∧ Below w.heap.size w wr ∧ w4.heap.size ≤ wr.heap.size) (fun _ wr => wr.rangeLeft B w3.heap.size)
  case atStart => exact ⟨_, m, w2.heap.size, m, [], rfl, HRG.out, by simp, HO4.out, Nat.le_refl _, by have := HS3.out; omega, GathK.start D, HB4.out, Nat.le_refl _⟩
  case round =>
    obtain ⟨left, cnt, g, c, cur, rfl, hrg, hcm, how, hgl, hgr, hga, hbw, hsw⟩ := hrel
    have HOW := Lib.hid how
    have HGL := Lib.hid (And.intro hgl hgr)
    have HGA := Lib.hid hga
    have HBW := Lib.hid hbw
    have HSW := Lib.hid hsw
    have HRR := Lib.hid hrg
    clear how hgl hgr hga hbw hsw
    go_wp2_with (first
      | (at_next; refine wpList_next_ranges _ rfl _ rfl 9 lawS intR Value.string (fun x : Int => Value.int .i64 x) (fun _ _ h => key_invS h) (fun _ _ h => by obtain ⟨x, h, _⟩ := intR_inv h; exact ⟨x, h⟩) B w3.heap.size n D left cnt rfl hrg ?_ ?_))
    · intro hc0 hl0
      have HME := Lib.hid (show ∀ k, k ∈ cur ↔ k ∈ keysT rows V from fun k => by
        rw [HGA.out.mem, HCN.out.has, decide_eq_true_iff]
        exact ⟨fun h => h.1, fun h => ⟨h, hl0 _⟩⟩)
      have HSO := Lib.hid (HSK.out cur HGA.out.nd HME.out)
      have hcl8 : cur.length ≤ 8 := by omega
      have HOM := Lib.hid (show OwnsC wr B n D by obtain ⟨es, clock, since, seen, c0, q1, q2, q3, q4, _⟩ := HRR.out; exact ⟨es, clock, q1, q2, q3, q4⟩)
      have HST := Lib.hid (sort_strs g c w.heap.size cur _ wr HOW.out (by omega))
      rw [HSO.out] at HST
      have HLN := Lib.hid (show cur.length = ((valL (xsT rows V)).map keyB).length by have := congrArg List.length HSO.out; rw [List.length_mergeSort] at this; exact this)
      rw [HLN.out] at HST hcl8
      rw [HLN.out]
      have HVM := Lib.hid (show ((valL (xsT rows V)).map keyB).length = (valL (xsT rows V)).length from List.length_map ..)
      clear hl0 hrg HME
      generalize hvs : valL (xsT rows V) = vs at *
      have HNX := Lib.hid (fun (k : Nat) (h : k < vs.length) => show (vs.take (k + 1)).map (cntI (xsT rows V)) = (vs.take k).map (cntI (xsT rows V)) ++ [(DegMath.cnt (xsT rows V) vs[k] : Int)] by rw [List.take_succ_eq_append_getElem h, List.map_append]; rfl)
      have HAT := Lib.hid (fun (k : Nat) (h : k < vs.length) (h' : k < (vs.map keyB).length) => show (vs.map keyB)[k] = keyB vs[k] from List.getElem_map ..)
      clear hvs HSK
      generalize hks : vs.map keyB = ks at *
      go_wp2_with fail
      refine HST.out.mono ?_
      rintro e w5 ⟨rfl, ho5, ht5⟩
      have HB5 := Lib.hid (Cd.Touch.below HBW.out ht5 (fun b hb => by rw [List.mem_singleton.1 hb]; have := HGL.out; have := HW2.out; omega))
      have HM5 := Lib.hid (OwnsC.kept HOM.out ht5 (by simp only [List.mem_singleton]; have := HGL.out; omega))
      have HO5 := Lib.hid ho5
      clear ho5 ht5
      go_wp2_with (first
        | (at_make; refine wpList_make_own _ rfl _ _ 27 rfl w5.heap.size 3 j0 (.int .i64 0) 1 Try.underlying27 hj hy0 hy1 _ _ _ ks.length rfl rfl rfl (by rw [hy2]; omega) (by unfold maxLen; omega) (Nat.le_refl _) ?_))
      intro w6 hown6 hg6
      have hb6 : Below w5.heap.size w5 w6 := ⟨hg6.os, hg6.tape, hg6.output, hg6.size, fun k hk => hg6.block k hk (by simp)⟩
      have hO6 : OwnI w6 w5.heap.size 3 (.slice (some ⟨w5.heap.size, 0, none⟩) 0 ks.length) [] := hown6
      have HO6 := Lib.hid (rowC.ow_base (Cd.ow_of_own hO6 (fun x hx => by cases hx)) HB5.out.size)
      have HB6 := Lib.hid (below_then HB5.out hb6)
      have HM6 := Lib.hid (show OwnsC w6 B n D from World.ownsMap.kept HM5.out hg6 (by simp))
      have HG6 := Lib.hid (Cd.ow_later HO5.out hb6)
      have HGB := Lib.hid (show g < w5.heap.size ∧ B < w5.heap.size from ⟨(strsC.ow_lt HO5.out g (by simp)).2, World.ownsMap.lt HM5.out⟩)
      clear hown6 hg6 hO6
      have HKV := Lib.hid (show ks.length ≤ vs.length from by rw [HVM.out]; exact Nat.le_refl _)
      go_wp2_with fail
      go_loopw [9, 46] (fun o i wr => ∃ (k : Nat) (fd : List Nat), k ≤ ks.length ∧ i = .int .i64 k ∧ rowC.ow wr w.heap.size [o] ((vs.take k).map (cntI (xsT rows V))) fd ∧ fd.Nodup ∧ g ∉ fd ∧ B ∉ fd ∧ OwnsC wr B n D ∧ strsC.ow wr w.heap.size [.slice (some ⟨g, 0, none⟩) ks.length c] ks [g] ∧ Below w.heap.size w wr) (fun _ i _ => ks.length - (intOf i).toNat)
      case atStart => exact ⟨0, _, Nat.zero_le _, rfl, HO6.out, Cd.own_nodup, by simp [Value.ownBlock]; have := HGB.out; omega, by simp [Value.ownBlock]; have := HGB.out; omega, HM6.out, HG6.out, HB6.out⟩
      case round =>
        obtain ⟨k, fd, hk, rfl, hod, hnd, hgd, hBd, hom, hos, hbw⟩ := hrel
        obtain ⟨ad, cd, rfl⟩ := Cd.ow_slice (c := Cd.int) hod
        have HOD := Lib.hid hod
        have HND := Lib.hid hnd
        have HGD := Lib.hid (And.intro hgd hBd)
        have HOM7 := Lib.hid hom
        have HOS := Lib.hid hos
        have HBW7 := Lib.hid hbw
        clear hod hnd hgd hBd hom hos hbw
        by_cases hlt : k < ks.length
        · have hkv : k < vs.length := by have := HKV.out; omega
          have HTK := Lib.hid (HNX.out k hkv)
          have HKE := Lib.hid (HAT.out k hkv hlt)
          have HMV := Lib.hid (HKC.out _ (List.getElem_mem hkv))
          have hc8 := HC8.out vs[k]
          have hdl : ((vs.take k).map (cntI (xsT rows V))).length ≤ 8 := by rw [List.length_map, List.length_take]; omega
          obtain ⟨b, off, cap', e1, hbB, hcell, hkm⟩ := strs_at (strsC.ow_rd HOS.out) hlt
          injection e1 with e1 e2 e3
          injection e1 with e1
          injection e1 with e1 e4 _
          subst e1 e4 e3
          rw [Nat.zero_add] at hcell
          have HK := Lib.hid (key_list hkm)
          obtain ⟨y, ps, hrun, hy⟩ := World.ownsMap.lookup (t := 53) HOM7.out lawS Try.underlying53 (zeroI wr) (zd := .lit (.int .i64 0)) (zp := []) rfl HK.out
          rw [HCN.out.at_, HKE.out, HKX.out, HMV.out] at hy
          obtain rfl := intR_at hy
          clear hy hkm
          have i1 : (0 : Int) ≤ (k : Int) := by omega
          have i2 : (k : Int) < (ks.length : Int) := by omega
          generalize DegMath.cnt (xsT rows V) vs[k] = nn at *
          generalize (vs.take k).map (cntI (xsT rows V)) = ds at *
          have hbA := below_alloc wr (.cells #[.int .i64 (nn : Int)] 3)
          have N1 := Lib.hid (Cd.ow_later HOD.out hbA)
          have C1 := Lib.hid (show (wr.alloc (.cells #[.int .i64 (nn : Int)] 3)).cell? ⟨wr.heap.size, 0, none⟩ = some (.int .i64 (nn : Int)) by simp)
          have Y1 := Lib.hid (show Cd.int.ow (wr.alloc (.cells #[.int .i64 (nn : Int)] 3)) w.heap.size [.int .i64 (nn : Int)] (nn : Int) [] from ⟨rfl, by omega, rfl⟩)
          have B1 := Lib.hid (below_then HBW7.out hbA)
          have M1 := Lib.hid (show OwnsC (wr.alloc (.cells #[.int .i64 (nn : Int)] 3)) B n D from OwnsC.kept HOM7.out (Cd.Touch.of_below (fp := []) hbA) (by simp))
          have S1 := Lib.hid (Cd.ow_later HOS.out hbA)
          have L1 := Lib.hid (show ∀ q, q < wr.heap.size → ¬ (wr.alloc (.cells #[.int .i64 (nn : Int)] 3)).heap.size ≤ q from fun q h1 h2 => by rw [size_alloc] at h2; omega)
          have GL := Lib.hid (And.intro (strsC.ow_lt HOS.out g (by simp)).2 (World.ownsMap.lt HOM7.out))
          clear hbA
          go_wp2_with (at_builtin; refine Cd.wpList_appendE (c := Cd.int) rfl rfl (.tmp 50) (.tmp 54) 27 rfl w.heap.size 3 (.int .i64 0) 8 Try.underlying27 info_i64 rfl (by decide) _ _ _ rfl N1.out HND.out _ _ rfl C1.out _ _ Y1.out (by simp) (by simp) (by omega) B1.out.size ?_)
          intro g9 c9 w9 f9 ho9 hn9 hs9 ht9
          have N9 := Lib.hid ho9
          have D9 := Lib.hid hn9
          have G9 := Lib.hid (show g ∉ f9 ∧ B ∉ f9 from ⟨fun q => (hs9 g q).elim HGD.out.1 (fun h => L1.out g GL.out.1 (by first | exact h | exact h.elim (fun h => by cases h) id | (rw [size_alloc]; exact h))), fun q => (hs9 B q).elim HGD.out.2 (fun h => L1.out B GL.out.2 (by first | exact h | exact h.elim (fun h => by cases h) id | (rw [size_alloc]; exact h)))⟩)
          have M9 := Lib.hid (OwnsC.kept M1.out ht9 HGD.out.2)
          have S9 := Lib.hid (Cd.ow_touched S1.out ht9 (fun b hb q => by rw [List.mem_singleton.1 hb] at q; exact HGD.out.1 q))
          have B9 := Lib.hid (Cd.Touch.below B1.out ht9 (fun b hb => (rowC.ow_lt N1.out b hb).1))
          clear ho9 hn9 hs9 ht9 hrun
          go_wp2_with fail
          go_roundw
          case rel => exact ⟨k + 1, f9, by omega, by go_num, by rw [HTK.out]; exact N9.out, D9.out, G9.out.1, G9.out.2, M9.out, S9.out, B9.out⟩
          case measure => simp [intOf]; omega
        · have ek : k = vs.length := by have := HKV.out; have := HVM.out; omega
          subst ek
          rw [List.take_length] at HOD
          have HMK := Lib.hid (map_keys _ ks _ wr (strsC.ow_rd HOS.out) (by omega) HKS.out)
          rw [HDK.out] at HMK
          go_wp2_with fail
          refine HMK.out.mono ?_
          rintro e w8 ⟨g8, f8, rfl, ho8, hn8, hb8⟩
          have E1 := Lib.hid (rowsC.ow_base ho8 HBW7.out.size)
          have E2 := Lib.hid hn8
          have E3 := Lib.hid (Cd.ow_later HOD.out hb8)
          have E4 := Lib.hid (below_then HBW7.out hb8)
          have E5 := Lib.hid (show ∀ b ∈ f8, b ∉ fd from fun b hb q => by
            have h1 := (rowsC.ow_lt ho8 b hb).1
            have h2 := (rowC.ow_lt HOD.out b q).2
            omega)
          clear ho8 hn8 hb8
          go_wp2_with fail
          go_ret2
          exact ⟨_, _, f8, fd, rfl, by rw [HE1.out]; exact E1.out, by rw [HE2.out]; have h := E3.out; rw [List.length_map] at h; exact h, E2.out, HND.out, E5.out, E4.out⟩
    · intro x t kl y1 y2 w5 cnt5 hkx hlx hyt hat hrg5 hlt5 hg5 hs5 hen
      obtain ⟨rfl, hxm⟩ := key_eqS hkx
      have hbk : Cd.Touch [w3.heap.size] wr w5 := touch_grown hg5
      have hHas : Maps.has D (.string x.data.toList) = true := Maps.has_true_of_atKey hat
      have HGS := Lib.hid (HGA.out.step hHas hlx)
      have HBW5 := Lib.hid (Cd.Touch.below HBW.out hbk (fun b hb => by rw [List.mem_singleton.1 hb]; have := HB3.out.size; omega))
      have HOW5 := Lib.hid (Cd.ow_touched HOW.out hbk (fun b hb q => by rw [List.mem_singleton.1 q] at hb; exact HGL.out.2 (List.mem_singleton.1 hb).symm))
      have HRG5 := Lib.hid hrg5
      have HSW5 := Lib.hid (show w4.heap.size ≤ w5.heap.size by rw [hs5]; exact HSW.out)
      have HCN5 := Lib.hid (show cnt5 < cnt from hlt5)
      have hbA := below_alloc w5 (.cells #[.string x] 9)
      have HOA := Lib.hid (Cd.ow_later HOW5.out hbA)
      have HBA := Lib.hid (below_then HBW5.out hbA)
      have HRA := Lib.hid (World.ranges.kept HRG5.out (grown_of hbA none) (by simp) (by simp))
      have HCE := Lib.hid (show (w5.alloc (.cells #[.string x] 9)).cell? ⟨w5.heap.size, 0, none⟩ = some (.string x) by simp)
      have HEO := Lib.hid (show strC.ow (w5.alloc (.cells #[.string x] 9)) w.heap.size [.string x] x.data.toList [] from ⟨by simp, hxm, rfl⟩)
      have hcl : cur.length + 1 ≤ 1000000000000 := by omega
      clear hkx hyt hat hg5 hHas hbk hrg5 hbA hlx hs5 hrg
      go_wp2_with (at_builtin; refine Cd.wpList_appendE (c := strC) rfl rfl (.tmp 35) (.tmp 37) 55 rfl w.heap.size 9 (.string ⟨#[]⟩) 16 Try.underlying55 info_strs rfl (by decide) _ cur [g] rfl HOA.out (by simp) _ _ rfl HCE.out _ _ HEO.out (by simp) (by simp) hcl HBA.out.size ?_)
      intro g6 c6 w6 f6 ho6 hn6 hs6 ht6
      obtain ⟨_, _, _, _, _, _, _, _, hf6, _⟩ := strs_bare ho6
      subst hf6
      have HO6 := Lib.hid ho6
      have HL6 := Lib.hid (show w2.heap.size ≤ g6 ∧ g6 ≠ w3.heap.size from by
        have h1 := HGL.out
        have h2 := HRG5.out
        have h3 := HSW5.out
        have h4 : w3.heap.size < w5.heap.size := by
          obtain ⟨es, clock, since, seen, c0, q1, q2, q3, q4, q5, q6⟩ := h2
          exact (Array.getElem?_eq_some_iff.1 q5).1
        have h5 := HB3.out.size
        have h6 := HS3.out
        rcases hs6 g6 (by simp) with h | h
        · first | (rw [h]; exact h1) | (rw [List.mem_singleton.1 h]; exact h1)
        · (try rw [size_alloc] at h); (try simp only [World.alloc, Array.size_push] at h); omega)
      have HB6 := Lib.hid (Cd.Touch.below HBA.out ht6 (fun b hb => by rw [List.mem_singleton.1 hb]; have := HGL.out; have := HW2.out; omega))
      have HRG6 := Lib.hid (show w6.ranges Try.prog 9 intR B w3.heap.size n D (fun z => left z && !z.sameKey (.string x.data.toList)) cnt5 from by
        obtain ⟨es, clock, since, seen, c0, q1, q2, q3, q4, q5, q6⟩ := HRA.out
        refine ⟨es, clock, since, seen, c0, (ht6.block B (Array.getElem?_eq_some_iff.1 q1).1 (by simp only [List.mem_singleton]; have := HGL.out; omega)).trans q1, q2, q3, q4, (ht6.block _ (Array.getElem?_eq_some_iff.1 q5).1 (by simp only [List.mem_singleton]; have := HGL.out; omega)).trans q5, q6⟩)
      have HS6 := Lib.hid (show w4.heap.size ≤ w6.heap.size from Nat.le_trans (Nat.le_trans HSW5.out (below_alloc w5 (.cells #[.string x] 9)).size) ht6.size)
      clear ho6 hn6 hs6 ht6 hen
      go_wp2_with fail
      go_roundw
      case rel => exact ⟨_, cnt5, g6, c6, cur ++ [x.data.toList], by simp, HRG6.out, by have := HCN5.out; simp; omega, by rw [List.length_append]; exact HO6.out, HL6.out.1, HL6.out.2, HGS.out, HB6.out, HS6.out⟩
      case measure => rw [HRG6.out.left_eq, HRR.out.left_eq]; exact HCN5.out
end Go.Proofs.Ytnjomgefmoehhaa.DegImp

namespace Go.Proofs.Ytnjomgefmoehhaa.DegImp
open Go Go.RowKit Byt Ints IntsLaw Cd Rows2 Tab TabSpec TabImp Exact DegMath DegSpec

theorem ow_two {w : World} {base : Nat} {v : Value} {l : List Int} {fp : List Nat} (h : rowC.ow w base [v] l fp) : (v = .slice none 0 0 ∧ l = []) ∨ ∃ g cap, v = .slice (some ⟨g, 0, none⟩) l.length cap := by
  obtain ⟨hown, _, _⟩ := row_own h
  rcases hown.2 with ⟨h1, h2⟩ | ⟨g', cap', cur, h1, _⟩
  · exact .inl ⟨h1, List.eq_nil_of_length_eq_zero h2⟩
  · exact .inr ⟨g', cap', h1⟩
set_option maxRecDepth 100000 in
theorem impl_deg (nm : ByteArray) (ar : Int) (u v : Value) (rows : List (List Int)) (V : List Int) (S S2 : Nat → Prop) (w : World) (hr : rowsC.rd w S [u] rows) (hv : rowC.rd w S2 [v] V) :
    Calls Try.prog 13 #[.agg #[.string nm, .int .i64 ar, u], v] w fun e w' => DegAns nm ar rows V w e w' := by
  have HG := Lib.hid (fun w' (hb : Below w.heap.size w w') => impl_groups nm ar u v rows V S S2 w' (Cd.later hr hb) (Cd.later hv hb))
  have HN8 := Lib.hid (show (gcN nm ar rows V).length ≤ 1000000 by have := gc_len (nm := nm) (ar := ar) (rows := rows) (cols := V); have := gcV_len (nm := nm) (ar := ar) (rows := rows) (cols := V); omega)
  have HDL := Lib.hid (show degL nm ar rows V = downL (gcN nm ar rows V) from rfl)
  obtain ⟨a, cap, rfl, hlm⟩ := rows_form hr
  obtain ⟨a1, c1, rfl, hl1⟩ := (row_ri hv).1
  clear hr hv
  go_enter Try.func13, Try.ntmps13
  go_wp2_with fail
  generalize hW : w.alloc _ = W
  obtain ⟨r0, _, hb0⟩ := start1 w _ hW
  have HB := Lib.hid hb0
  have hL := Loc3.of r0
  have d0 := hL.c0
  have d1 := hL.c1
  have d2 := hL.c2
  clear hW r0 hb0 hL
  go_wp2_with fail
  refine (HG.out W HB.out).mono ?_
  rintro e w1 ⟨u1, u2, f1, f2, rfl, ho1, ho2, hn1, hn2, hd, hb1⟩
  have HB1 := Lib.hid (below_then HB.out hb1)
  have HO2 := Lib.hid (rowC.ow_base ho2 HB.out.size)
  rcases ow_two ho2 with ⟨rfl, hl0⟩ | ⟨g, c, rfl⟩
  · have HZ := Lib.hid (show degL nm ar rows V = [] by unfold degL; rw [hl0]; simp [downL])
    have HS := Lib.hid (sort_nil w1)
    clear ho1 ho2 hn1 hn2 hd hb1 hl0
    go_wp2_with fail
    refine HS.out.mono ?_
    rintro e w2 ⟨rfl, rfl⟩
    go_wp2_with fail
    go_ret
    exact ⟨_, [], rfl, by rw [HZ.out]; exact Cd.ow_nil _ _, by simp, HB1.out⟩
  · have HS := Lib.hid (sort_down g c w.heap.size _ _ w1 HO2.out HN8.out)
    have HGF := Lib.hid (show w.heap.size ≤ g from (rowC.ow_lt HO2.out g (by obtain ⟨_, _, _, h, _⟩ := row_parts ho2; rw [h]; simp)).1)
    clear ho1 ho2 hn1 hn2 hd hb1
    go_wp2_with fail
    refine HS.out.mono ?_
    rintro e w2 ⟨rfl, ho, ht⟩
    have F1 := Lib.hid ho
    have F3 := Lib.hid (Cd.Touch.below HB1.out ht (fun b hb => by rw [List.mem_singleton.1 hb]; exact HGF.out))
    clear ho ht
    go_wp2_with fail
    go_ret
    exact ⟨_, _, rfl, by rw [HDL.out]; exact F1.out, by simp, F3.out⟩
set_option maxRecDepth 100000 in
theorem impl_max (nm : ByteArray) (ar : Int) (u v : Value) (rows : List (List Int)) (V : List Int) (S S2 : Nat → Prop) (w : World) (hr : rowsC.rd w S [u] rows) (hv : rowC.rd w S2 [v] V) :
    Calls Try.prog 19 #[.agg #[.string nm, .int .i64 ar, u], v] w fun e w' => e = .returned (.int .i64 (maxL nm ar rows V)) ∧ Below w.heap.size w w' := by
  have HG := Lib.hid (fun w' (hb : Below w.heap.size w w') => impl_deg nm ar u v rows V S S2 w' (Cd.later hr hb) (Cd.later hv hb))
  have HML := Lib.hid (show maxL nm ar rows V = (degL nm ar rows V).headD 0 from rfl)
  obtain ⟨a, cap, rfl, hlm⟩ := rows_form hr
  obtain ⟨a1, c1, rfl, hl1⟩ := (row_ri hv).1
  clear hr hv
  go_enter Try.func19, Try.ntmps19
  go_wp2_with fail
  generalize hW : w.alloc _ = W
  obtain ⟨r0, _, hb0⟩ := start1 w _ hW
  have HB := Lib.hid hb0
  have hL := Loc3.of r0
  have d0 := hL.c0
  have d1 := hL.c1
  have d2 := hL.c2
  clear hW r0 hb0 hL
  go_wp2_with fail
  refine (HG.out W HB.out).mono ?_
  rintro e w1 ⟨u1, f1, rfl, ho1, hn1, hb1⟩
  have HB1 := Lib.hid (below_then HB.out hb1)
  have hri := (row_ri (rowC.ow_rd ho1)).1
  clear ho1 hn1 hb1
  generalize degL nm ar rows V = D at *
  cases D with
  | nil =>
    obtain ⟨a3, c3, rfl, _⟩ := hri
    go_wp2_with fail
    go_ret
    exact ⟨ret_int HML.out.symm, HB1.out⟩
  | cons x xs =>
    obtain ⟨b, off, cap', rfl, hbB, hc⟩ := ri_at hri (k := 0) (by simp)
    have hl3 := hri
    obtain ⟨a3, c3, e3, hl3, _⟩ := hl3
    simp only [Nat.add_zero, List.getElem_cons_zero, List.length_cons] at hc hl3
    have q1 : (((xs.length + 1 : Nat) : Int) == 0) = false := by rw [beq_eq_false_iff_ne]; omega
    have q2 : (0 : Int) < ((xs.length + 1 : Nat) : Int) := by omega
    clear hri e3
    go_wp2_with fail
    go_ret
    exact ⟨ret_int HML.out.symm, HB1.out⟩
end Go.Proofs.Ytnjomgefmoehhaa.DegImp

namespace Go.Proofs.Ytnjomgefmoehhaa.DegDraw
open Go Go.RowKit Byt Ints IntsLaw Draw LocDraw Cd Rows2 Tab TabSpec Exact DegMath DegSpec TabDraw

set_option maxRecDepth 100000 in
set_option maxHeartbeats 1600000 in
theorem draw_deg (v : Value) (l : List UInt8) (w : World) (hr : Reads w v l w.heap.size) :
    Calls Try.prog 12 #[v] w fun e w' => PairAns w e w' := by
  have HR := Lib.hid (fun w' (hb : Below w.heap.size w w') => hr.later hb)
  clear hr
  go_enter Try.func12, Try.ntmps12
  go_wp2_with fail
  generalize hW : w.alloc _ = W0
  obtain ⟨r0, hz, hb0⟩ := start1 w _ hW
  clear hW
  have HX0 := Lib.hid (Loc3.of r0)
  have HB0 := Lib.hid hb0
  have hrd : Reads W0 v l W0.heap.size := by
    obtain ⟨a, cap, h1, h2, h3⟩ := HR.out _ hb0
    refine ⟨a, cap, h1, h2, h3.imp id ?_⟩
    rintro ⟨b, off, e, hb, hc⟩
    exact ⟨b, off, e, by omega, hc⟩
  have HC := Lib.hid (pair_any v l W0 hrd)
  clear r0 hb0 hrd
  refine HC.out.mono ?_
  rintro e w1 ⟨nm, ar, u, rows, f1, u2, cols, f2, rfl, hnm, har, ho1, ho2, hcl, hb1⟩
  obtain ⟨a, c, rfl⟩ := rows_slice ho1
  obtain ⟨a2, c2, rfl⟩ := Cd.ow_slice (c := Cd.int) ho2
  have HX1 := Lib.hid (HX0.out.later hb1)
  have HB1 := Lib.hid (Tab.below_then HB0.out hb1)
  have HO1 := Lib.hid ho1
  have HO2 := Lib.hid ho2
  have HZ := Lib.hid hz
  clear hb1 ho1 ho2 HC HX0 HB0 hz
  have HXA := Lib.hid (HX1.out.later (below_alloc w1 (.cells #[.string nm, .int .i64 ar, .slice a rows.length c] 26)))
  have HOA := Lib.hid (Cd.ow_later HO1.out (below_alloc w1 (.cells #[.string nm, .int .i64 ar, .slice a rows.length c] 26)))
  have HOB := Lib.hid (Cd.ow_later HO2.out (below_alloc w1 (.cells #[.string nm, .int .i64 ar, .slice a rows.length c] 26)))
  have HBA := Lib.hid (Tab.below_then HB1.out (below_alloc w1 (.cells #[.string nm, .int .i64 ar, .slice a rows.length c] 26)))
  obtain ⟨x0, x1, x2, g0, g1, g2⟩ := HXA.out
  go_wp2_with fail
  obtain ⟨k0, k1, k2⟩ := set3 (w := w1.alloc (.cells #[.string nm, .int .i64 ar, .slice a rows.length c] 26)) (k := w.heap.size) (x := .string nm) (y := .int .i64 ar) (z := .slice a rows.length c) x0 x1 x2
  have hn1 : w.heap.size ∉ f1 := fun q => by have := (rowsC.ow_lt HO1.out _ q).1; have := HZ.out; omega
  have hn2 : w.heap.size ∉ f2 := fun q => by have := (rowC.ow_lt HO2.out _ q).1; have := HZ.out; omega
  refine bodyPost_ret (v := .tuple #[.agg #[.string nm, .int .i64 ar, .slice a rows.length c], .slice a2 cols.length c2]) (by simp [results, Try.results12, go_sem, k0, k1, k2]) rfl ⟨nm, ar, _, rows, f1, _, cols, f2, rfl, hnm, har, ?_, ?_, hcl, ?_⟩
  · exact ow_setCell (ow_setCell (ow_setCell (rowsC.ow_base HOA.out (by have := HZ.out; omega)) hn1 _) hn1 _) hn1 _
  · exact ow_setCell (ow_setCell (ow_setCell (rowC.ow_base HOB.out (by have := HZ.out; omega)) hn2 _) hn2 _) hn2 _
  · exact ((HBA.out.setCell (Nat.le_refl _) _).setCell (Nat.le_refl _) _).setCell (Nat.le_refl _) _
/-- Two sequences, drawn. -/
def TwoAns (w : World) (e : Ending) (w' : World) : Prop :=
  ∃ (u1 : Value) (a : List Int) (f1 : List Nat) (u2 : Value) (b : List Int) (f2 : List Nat), e = .returned (.tuple #[u1, u2]) ∧ rowC.ow w' w.heap.size [u1] a f1 ∧ rowC.ow w' w.heap.size [u2] b f2 ∧ a.length ≤ 9 ∧ b.length ≤ 9 ∧ Below w.heap.size w w'
set_option maxRecDepth 100000 in
set_option maxHeartbeats 3200000 in
theorem draw_dom (v : Value) (l : List UInt8) (w : World) (hr : Reads w v l w.heap.size) :
    Calls Try.prog 20 #[v] w fun e w' => TwoAns w e w' := by
  have HNW := Lib.hid (new_any v l w.heap.size w hr)
  have HR := Lib.hid hr
  clear hr
  go_enter Try.func20, Try.ntmps20
  go_wp2_with fail
  refine HNW.out.mono ?_
  rintro e w1 ⟨rfl, hc1, hg1⟩
  have hb1 : Below w.heap.size w w1 := ⟨hg1.os, hg1.tape, hg1.output, hg1.size, fun k hk => hg1.block k hk (by simp)⟩
  have HC1 := Lib.hid (show CR w1 w.heap.size v l w.heap.size from ⟨hc1, HR.out.later hb1, Nat.le_refl _⟩)
  have HB1 := Lib.hid hb1
  have HZ1 := Lib.hid (show w.heap.size + 1 ≤ w1.heap.size by have := cur_size hc1; omega)
  clear hc1 hg1 hb1 HNW HR
  generalize hcc : w.heap.size = c at *
  have HCC := Lib.hid hcc.symm
  clear hcc
  have HSQ := Lib.hid (fun A (h : CR A c v l c) => seq_any c v l c A h)
  go_wp2_with fail
  refine (HSQ.out w1 HC1.out).mono ?_
  rintro e w2 ⟨u1, a, f1, rfl, hal, hs2⟩
  have HAL := Lib.hid hal
  have HS2 := Lib.hid hs2
  have HB2 := Lib.hid (show Below w.heap.size w w2 from Cd.Touch.below (by rw [← HCC.out]; exact HB1.out) hs2.bl (fun b hb => by rw [List.mem_singleton.1 hb, HCC.out]; exact Nat.le_refl _))
  have HBC := Lib.hid (show w.heap.size ≤ w1.heap.size by have := HZ1.out; have := HCC.out; omega)
  have hpt := DegImp.ow_two hs2.ow
  have HFIN := Lib.hid (show ∀ (A W : World) (x y : Value) (p q : List Int) (fp fq : List Nat), w1.heap.size ≤ A.heap.size → rowC.ow W w1.heap.size [x] p fp → rowC.ow W A.heap.size [y] q fq → p.length ≤ 9 → q.length ≤ 9 → Below w.heap.size w W → TwoAns w (.returned (.tuple #[x, y])) W from
    fun A W x y p q fp fq h0 h1 h2 h3 h4 h5 => ⟨x, p, fp, y, q, fq, rfl, rowC.ow_base h1 HBC.out, rowC.ow_base h2 (Nat.le_trans HBC.out h0), h3, h4, h5⟩)
  clear hal hs2 HC1 HB1
  rcases hpt with ⟨rfl, rfl⟩ | ⟨g, cap, rfl⟩
  · go_wp2_with fail
    refine (HSQ.out w2 HS2.out.cr).mono ?_
    rintro e w3 ⟨u2, b, f2, rfl, hbl, hs3⟩
    obtain ⟨a2, c2, rfl⟩ := Cd.ow_slice (c := Cd.int) hs3.ow
    have HS3 := Lib.hid hs3
    have HF := Lib.hid (HFIN.out w2 w3 _ _ _ _ _ _ HS2.out.bl.size (HS2.out.call hs3.cr hs3.bl).ow hs3.ow HAL.out hbl (Cd.Touch.below HB2.out hs3.bl (fun b hb => by rw [List.mem_singleton.1 hb, HCC.out]; exact Nat.le_refl _)))
    clear hs3 hbl
    go_wp2_with fail
    go_ret2
    exact HF.out
  have hpp := row_parts HS2.out.ow
  have HPP := Lib.hid hpp
  obtain ⟨_, hlc, hlm, _, _, _⟩ := hpp
  by_cases h1 : 1 < a.length
  case neg =>
    have n1 : ¬ ((1 : Int) < (a.length : Int)) := by omega
    clear hlc hlm h1
    go_wp2_with fail
    refine (HSQ.out w2 HS2.out.cr).mono ?_
    rintro e w3 ⟨u2, b, f2, rfl, hbl, hs3⟩
    obtain ⟨a2, c2, rfl⟩ := Cd.ow_slice (c := Cd.int) hs3.ow
    have HF := Lib.hid (HFIN.out w2 w3 _ _ _ _ _ _ HS2.out.bl.size (HS2.out.call hs3.cr hs3.bl).ow hs3.ow HAL.out hbl (Cd.Touch.below HB2.out hs3.bl (fun b hb => by rw [List.mem_singleton.1 hb, HCC.out]; exact Nat.le_refl _)))
    clear hs3 hbl
    go_wp2_with fail
    go_ret2
    exact HF.out
  have n1 : ((1 : Int) < (a.length : Int)) := by omega
  have HL1 := Lib.hid h1
  have HLC := Lib.hid (And.intro hlc hlm)
  have HON := Lib.hid (once_cr 3 c v l c w2 HS2.out.cr)
  clear hlc hlm h1
  go_wp2_with fail
  refine HON.out.mono ?_
  rintro e w3 ⟨bb, rfl, hc3, ht3⟩
  have HS3 := Lib.hid (HS2.out.call hc3 ht3)
  have HB3 := Lib.hid (Cd.Touch.below HB2.out ht3 (fun b hb => by rw [List.mem_singleton.1 hb, HCC.out]; exact Nat.le_refl _))
  clear hc3 ht3 HON
  cases bb
  · go_wp2_with fail
    refine (HSQ.out w3 HS3.out.cr).mono ?_
    rintro e w4 ⟨u2, b, f2, rfl, hbl, hs4⟩
    obtain ⟨a2, c2, rfl⟩ := Cd.ow_slice (c := Cd.int) hs4.ow
    have HF := Lib.hid (HFIN.out w3 w4 _ _ _ _ _ _ HS3.out.bl.size (HS3.out.call hs4.cr hs4.bl).ow hs4.ow HAL.out hbl (Cd.Touch.below HB3.out hs4.bl (fun b hb => by rw [List.mem_singleton.1 hb, HCC.out]; exact Nat.le_refl _)))
    clear hs4 hbl
    go_wp2_with fail
    go_ret2
    exact HF.out
  · have HA := Lib.hid (HS3.out.grow (below_alloc w3 (.cells #[] 3)))
    have HE := Lib.hid (Cd.ow_empty (e := 3) (c := Cd.int) w3 w3.heap.size (Nat.le_refl _))
    have HPA := Lib.hid ((row_parts HA.out.ow).2.2.2.2.2 1 (by have := HL1.out; omega)).2
    have HIA := Lib.hid (row_own HA.out.ow).2.1
    have HRD := Lib.hid (show rowC.rd (w3.alloc (.cells #[] 3)) (fun _ => True) [.slice (some ⟨g, 1, none⟩) (a.length - 1) (cap - 1)] (a.drop 1) from Cd.rd_of_ri HPA.out (Nat.le_refl _) (in_drop HIA.out _) fun _ _ => trivial)
    have HBA := Lib.hid (below_then HB3.out (below_alloc w3 (.cells #[] 3)))
    have c1 : ¬ cap = 1 := by have := HL1.out; have := HLC.out.1; omega
    have c2 : (1 : Int) ≤ (a.length : Int) := by omega
    have c3 : a.length ≤ cap := HLC.out.1
    have c4 : 1 ≤ a.length := by have := HL1.out; omega
    have hdl : ([] : List Int).length + (a.drop 1).length ≤ 1000000000000 := by rw [List.length_nil, List.length_drop]; have := HAL.out; omega
    have hsz : w3.heap.size ≤ (w3.alloc (.cells #[] 3)).heap.size := by rw [size_alloc]; omega
    go_wp2_with (at_builtin; refine Cd.wpList_appendRI rfl (.tmp 18) (.tmp 20) 27 rfl w3.heap.size 3 Try.underlying27 info_i64 _ [] _ rfl HE.out _ (a.drop 1) _ rfl HRD.out hdl hsz ?_)
    intro v4 w4 f4 ho4 hn4 hs4 ht4
    obtain ⟨a4, c4, rfl⟩ := Cd.ow_slice (c := Cd.int) ho4
    have HO4 := Lib.hid (show rowC.ow w4 w3.heap.size [_] a.tail f4 from ho4)
    have HA4 := Lib.hid (Cd.ow_touched HA.out.ow ht4 (fun b hb q => by rw [List.mem_singleton.1 q] at hb; have := (rowC.ow_lt HS3.out.ow _ hb).2; omega))
    have HB4 := Lib.hid (Cd.Touch.below HBA.out ht4 (fun b hb => by rw [List.mem_singleton.1 hb]; exact HB3.out.size))
    have HF := Lib.hid (HFIN.out w3 w4 _ _ _ _ _ _ HS3.out.bl.size HA4.out HO4.out HAL.out (by rw [List.length_tail]; have := HAL.out; omega) HB4.out)
    clear ho4 hn4 hs4 ht4
    go_wp2_with fail
    go_ret2
    exact (by first | exact HF.out | (have h := HF.out; simpa using h))
end Go.Proofs.Ytnjomgefmoehhaa.DegDraw
