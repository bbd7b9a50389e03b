/- Data in memory, by its type: what is read of a value that came in, and what a call owns of one that it made. Over any program. -/
import Derived.Test.YthnphlgkkfdnlaaDoorInts
import Derived.Deep.AppendLies
import Derived.Laws.AppendOwnNone
namespace Go.Proofs.YthnphlgkkfdnlaaDoor.Cd
open Go Go.RowKit Byt Ints

/-- How a type's values lie in cells: read (out of the blocks S), and owned (of the blocks fp, each from base on). -/
structure Cd (α : Type) where
  n : Nat
  rd : World → (Nat → Prop) → List Value → α → Prop
  ow : World → Nat → List Value → α → List Nat → Prop
  pos : 0 < n
  len : ∀ {w S us a}, rd w S us a → us.length = n
  one : ∀ {w S us a}, rd w S us a → ∀ u ∈ us, u.oneCell' = true
  keep : ∀ {w w' : World} {S : Nat → Prop} {us a}, rd w S us a → (∀ b, S b → b < w.heap.size → w'.heap[b]? = w.heap[b]?) → rd w' S us a
  mono : ∀ {w} {S T : Nat → Prop} {us a}, rd w S us a → (∀ b, b < w.heap.size → S b → T b) → rd w T us a
  ow_rd : ∀ {w base us a fp}, ow w base us a fp → rd w (fun b => b ∈ fp) us a
  ow_keep : ∀ {w w' : World} {base us a} {fp : List Nat}, ow w base us a fp → (∀ b, b ∈ fp → w'.heap[b]? = w.heap[b]?) → ow w' base us a fp
  ow_lt : ∀ {w base us a fp}, ow w base us a fp → ∀ b ∈ fp, base ≤ b ∧ b < w.heap.size
  ow_base : ∀ {w base base' us a fp}, ow w base us a fp → base' ≤ base → ow w base' us a fp

/-- Blocks fp alone have changed, of the old ones. -/
structure Touch (fp : List Nat) (w w' : World) : Prop where
  os : w'.os = w.os
  tape : w'.tape = w.tape
  output : w'.output = w.output
  size : w.heap.size ≤ w'.heap.size
  block : ∀ k, k < w.heap.size → k ∉ fp → w'.heap[k]? = w.heap[k]?
theorem Touch.refl (fp : List Nat) (w : World) : Touch fp w w := ⟨rfl, rfl, rfl, Nat.le_refl _, fun _ _ _ => rfl⟩
theorem Touch.trans {fp : List Nat} {a b c : World} (h : Touch fp a b) (k : Touch fp b c) : Touch fp a c :=
  ⟨k.os.trans h.os, k.tape.trans h.tape, k.output.trans h.output, Nat.le_trans h.size k.size, fun i hi hn => (k.block i (Nat.lt_of_lt_of_le hi h.size) hn).trans (h.block i hi hn)⟩
theorem Touch.mono {fp fq : List Nat} {w w' : World} (h : Touch fp w w') (hs : ∀ b ∈ fp, b ∈ fq) : Touch fq w w' :=
  ⟨h.os, h.tape, h.output, h.size, fun k hk hn => h.block k hk (fun q => hn (hs k q))⟩
theorem Touch.of_below {fp : List Nat} {w w' : World} (h : Below w.heap.size w w') : Touch fp w w' := ⟨h.os, h.tape, h.output, h.size, fun k hk _ => h.block k hk⟩
theorem Touch.of_grown {w w' : World} {v : Value} (h : w.grownBy w' v.ownBlock) : Touch v.ownBlock.toList w w' :=
  ⟨h.os, h.tape, h.output, h.size, fun k hk hn => h.block k hk (fun q => hn (by rw [← q]; simp))⟩
theorem Touch.below {fp : List Nat} {w0 w w' : World} (h : Below w0.heap.size w0 w) (k : Touch fp w w') (hf : ∀ b ∈ fp, w0.heap.size ≤ b) : Below w0.heap.size w0 w' :=
  ⟨k.os.trans h.os, k.tape.trans h.tape, k.output.trans h.output, Nat.le_trans h.size k.size, fun i hi => (k.block i (Nat.lt_of_lt_of_le hi h.size) (fun q => by have := hf i q; omega)).trans (h.block i hi)⟩
theorem Touch.cell {fp : List Nat} {w w' : World} (h : Touch fp w w') {p : Addr} {v : Value} (hc : w.cell? p = some v) (hn : p.block ∉ fp) : w'.cell? p = some v :=
  (World.cell?_of_block (w := w) (h.block p.block (World.block_lt_of_cell? w p hc) hn)).trans hc
theorem Touch.row {fp : List Nat} {w w' : World} (h : Touch fp w w') {k : Nat} {o : Obj} (hc : w.heap[k]? = some o) (hn : k ∉ fp) : w'.heap[k]? = some o :=
  (h.block k (Array.getElem?_eq_some_iff.1 hc).1 hn).trans hc

namespace Cd
variable {α β : Type}

theorem later {c : Cd α} {w w' : World} {S : Nat → Prop} {us : List Value} {a : α} (h : c.rd w S us a) (hb : Below w.heap.size w w') : c.rd w' S us a := c.keep h fun b _ hlt => hb.block b hlt
theorem touched {c : Cd α} {w w' : World} {S : Nat → Prop} {us : List Value} {a : α} {fp : List Nat} (h : c.rd w S us a) (hb : Touch fp w w') (hd : ∀ b ∈ fp, ¬ S b) : c.rd w' S us a :=
  c.keep h fun b hS hlt => hb.block b hlt fun q => hd b q hS
theorem below {c : Cd α} {w w' : World} {B : Nat} {us : List Value} {a : α} (h : c.rd w (· < B) us a) (hb : Below B w w') : c.rd w' (· < B) us a := c.keep h fun b hS _ => hb.block b hS
theorem ow_later {c : Cd α} {w w' : World} {base : Nat} {us : List Value} {a : α} {fp : List Nat} (h : c.ow w base us a fp) (hb : Below w.heap.size w w') : c.ow w' base us a fp := c.ow_keep h fun b hq => hb.block b (c.ow_lt h b hq).2
theorem ow_touched {c : Cd α} {w w' : World} {base : Nat} {us : List Value} {a : α} {fp fq : List Nat} (h : c.ow w base us a fp) (hb : Touch fq w w') (hd : ∀ b ∈ fp, b ∉ fq) : c.ow w' base us a fp :=
  c.ow_keep h fun b hq => hb.block b (c.ow_lt h b hq).2 (hd b hq)
theorem reads {c : Cd α} {w : World} {base : Nat} {us : List Value} {a : α} {fp : List Nat} (h : c.ow w base us a fp) : c.rd w (· < w.heap.size) us a := c.mono (c.ow_rd h) fun b _ hq => (c.ow_lt h b hq).2

/-- A single cell that holds all there is. -/
def flat (f : α → Value) (ok : α → Prop) (h1 : ∀ a, (f a).oneCell' = true) : Cd α where
  n := 1
  rd _ _ us a := us = [f a] ∧ ok a
  ow _ _ us a fp := us = [f a] ∧ ok a ∧ fp = []
  pos := by decide
  len h := by rw [h.1]; rfl
  one h := by rw [h.1]; intro u hu; rw [List.mem_singleton.1 hu]; exact h1 _
  keep h _ := h
  mono h _ := h
  ow_rd h := ⟨h.1, h.2.1⟩
  ow_keep h _ := h
  ow_lt h := by rw [h.2.2]; intro b hb; cases hb
  ow_base h _ := h

def int : Cd Int := flat (fun x => .int .i64 x) (fun x => -9223372036854775808 ≤ x ∧ x ≤ 9223372036854775807) (fun _ => rfl)
def bool : Cd Bool := flat (fun b => .bool b) (fun _ => True) (fun _ => rfl)
def str : Cd ByteArray := flat (fun s => .string s) (fun s => s.size ≤ maxLen) (fun _ => rfl)

/-- One field behind another. -/
def pair (c : Cd α) (d : Cd β) : Cd (α × β) where
  n := c.n + d.n
  rd w S us x := ∃ u1 u2, us = u1 ++ u2 ∧ c.rd w S u1 x.1 ∧ d.rd w S u2 x.2
  ow w base us x fp := ∃ u1 u2 f1 f2, us = u1 ++ u2 ∧ fp = f1 ++ f2 ∧ c.ow w base u1 x.1 f1 ∧ d.ow w base u2 x.2 f2
  pos := Nat.lt_of_lt_of_le c.pos (Nat.le_add_right _ _)
  len := by
    rintro w S us x ⟨u1, u2, rfl, h1, h2⟩
    rw [List.length_append, c.len h1, d.len h2]
  one := by
    rintro w S us x ⟨u1, u2, rfl, h1, h2⟩ u hu
    rcases List.mem_append.1 hu with q | q
    · exact c.one h1 u q
    · exact d.one h2 u q
  keep := by
    rintro w w' S us x ⟨u1, u2, rfl, h1, h2⟩ hk
    exact ⟨u1, u2, rfl, c.keep h1 hk, d.keep h2 hk⟩
  mono := by
    rintro w S T us x ⟨u1, u2, rfl, h1, h2⟩ hk
    exact ⟨u1, u2, rfl, c.mono h1 hk, d.mono h2 hk⟩
  ow_rd := by
    rintro w base us x fp ⟨u1, u2, f1, f2, rfl, rfl, h1, h2⟩
    exact ⟨u1, u2, rfl, c.mono (c.ow_rd h1) (fun b _ q => List.mem_append_left _ q), d.mono (d.ow_rd h2) (fun b _ q => List.mem_append_right _ q)⟩
  ow_keep := by
    rintro w w' base us x fp ⟨u1, u2, f1, f2, rfl, rfl, h1, h2⟩ hk
    exact ⟨u1, u2, f1, f2, rfl, rfl, c.ow_keep h1 (fun b q => hk b (List.mem_append_left _ q)), d.ow_keep h2 (fun b q => hk b (List.mem_append_right _ q))⟩
  ow_lt := by
    rintro w base us x fp ⟨u1, u2, f1, f2, rfl, rfl, h1, h2⟩ b hb
    rcases List.mem_append.1 hb with q | q
    · exact c.ow_lt h1 b q
    · exact d.ow_lt h2 b q
  ow_base := by
    rintro w base base' us x fp ⟨u1, u2, f1, f2, rfl, rfl, h1, h2⟩ hb
    exact ⟨u1, u2, f1, f2, rfl, rfl, c.ow_base h1 hb, d.ow_base h2 hb⟩

/-- The cells at an address. -/
def At (w : World) (b o : Nat) (xs : List Value) : Prop := ∀ j, (h : j < xs.length) → w.cell? ⟨b, o + j, none⟩ = some xs[j]
theorem At.keep {w w' : World} {b o : Nat} {xs : List Value} (h : At w b o xs) (hk : w'.heap[b]? = w.heap[b]?) : At w' b o xs := fun j hj => (World.cell?_of_block (w := w) (a := ⟨b, o + j, none⟩) hk).trans (h j hj)

/-- What the elements of an owned row are: xss the cells of each, fps the blocks below each. -/
def Each (c : Cd α) (w : World) (base : Nat) : List (List Value) → List α → List (List Nat) → Prop
  | [], [], [] => True
  | x :: xs, a :: az, f :: fs => c.ow w base x a f ∧ Each c w base xs az fs
  | _, _, _ => False

theorem Each.len {c : Cd α} {w : World} {base : Nat} : ∀ {xss : List (List Value)} {l : List α} {fps : List (List Nat)}, Each c w base xss l fps → xss.length = l.length ∧ fps.length = l.length
  | [], [], [], _ => ⟨rfl, rfl⟩
  | _ :: xs, _ :: az, _ :: fs, h => by
    have := Each.len (xss := xs) (l := az) (fps := fs) h.2
    simp [this.1, this.2]
theorem Each.get {c : Cd α} {w : World} {base : Nat} : ∀ {xss : List (List Value)} {l : List α} {fps : List (List Nat)}, Each c w base xss l fps → ∀ t (h : t < l.length) (hx : t < xss.length) (hf : t < fps.length), c.ow w base xss[t] l[t] fps[t]
  | x :: xs, a :: az, f :: fs, h, 0, _, _, _ => h.1
  | x :: xs, a :: az, f :: fs, h, t + 1, h1, h2, h3 => Each.get (xss := xs) (l := az) (fps := fs) h.2 t (by simpa using h1) (by simpa using h2) (by simpa using h3)
theorem Each.imp {c : Cd α} {w w' : World} {base base' : Nat} : ∀ {xss : List (List Value)} {l : List α} {fps : List (List Nat)}, Each c w base xss l fps → (∀ x a f, f ∈ fps → c.ow w base x a f → c.ow w' base' x a f) → Each c w' base' xss l fps
  | [], [], [], _, _ => trivial
  | _ :: xs, _ :: az, _ :: fs, h, k => ⟨k _ _ _ (List.mem_cons.2 (.inl rfl)) h.1, Each.imp (xss := xs) (l := az) (fps := fs) h.2 fun x a g hg => k x a g (List.mem_cons.2 (.inr hg))⟩
theorem Each.snoc {c : Cd α} {w : World} {base : Nat} {x : List Value} {a : α} {f : List Nat} : ∀ {xss : List (List Value)} {l : List α} {fps : List (List Nat)}, Each c w base xss l fps → c.ow w base x a f → Each c w base (xss ++ [x]) (l ++ [a]) (fps ++ [f])
  | [], [], [], _, k => ⟨k, trivial⟩
  | _ :: xs, _ :: az, _ :: fs, h, k => ⟨h.1, Each.snoc (xss := xs) (l := az) (fps := fs) h.2 k⟩
theorem Each.flatten_len {c : Cd α} {w : World} {base : Nat} : ∀ {xss : List (List Value)} {l : List α} {fps : List (List Nat)}, Each c w base xss l fps → xss.flatten.length = l.length * c.n
  | [], [], [], _ => by simp
  | x :: xs, _ :: az, _ :: fs, h => by
    have := Each.flatten_len (xss := xs) (l := az) (fps := fs) h.2
    rw [List.flatten_cons, List.length_append, this, c.len (c.ow_rd h.1), List.length_cons, Nat.add_mul]
    omega
theorem Each.part {c : Cd α} {w : World} {base : Nat} : ∀ {xss : List (List Value)} {l : List α} {fps : List (List Nat)}, Each c w base xss l fps → ∀ t (hx : t < xss.length) j (hj : j < xss[t].length), xss.flatten[t * c.n + j]? = some xss[t][j]
  | x :: _, _ :: _, _ :: _, _, 0, _, j, hj => by
    have hj' : j < x.length := by simpa using hj
    simp [List.getElem?_append_left hj', hj']
  | x :: xs, _ :: az, _ :: fs, h, t + 1, hx, j, hj => by
    have hl := c.len (c.ow_rd h.1)
    have h1 := Each.part (xss := xs) (l := az) (fps := fs) h.2 t (by simpa using hx) j (by simpa using hj)
    have e : (t + 1) * c.n + j = x.length + (t * c.n + j) := by rw [hl, Nat.add_mul]; omega
    rw [List.flatten_cons, e, List.getElem?_append_right (Nat.le_add_right _ _), Nat.add_sub_cancel_left, h1]
    simp
theorem Each.set {c : Cd α} {w w' : World} {base : Nat} {x : List Value} {a : α} : ∀ {xss : List (List Value)} {l : List α} {fps : List (List Nat)}, Each c w base xss l fps → ∀ t (hf : t < fps.length),
    c.ow w' base x a fps[t] → (∀ i (hi : i < fps.length), i ≠ t → ∀ x a, c.ow w base x a fps[i] → c.ow w' base x a fps[i]) → Each c w' base (xss.set t x) (l.set t a) fps
  | [], [], [], _, _, hf, _, _ => by simp at hf
  | _ :: xs, _ :: az, f :: fs, h, 0, _, k, o => ⟨k, Each.imp (xss := xs) (l := az) (fps := fs) h.2 fun x a g hg hq => by
      obtain ⟨i, hi, rfl⟩ := List.getElem_of_mem hg
      exact o (i + 1) (by simpa using hi) (by omega) x a hq⟩
  | _ :: xs, _ :: az, f :: fs, h, t + 1, hf, k, o => ⟨o 0 (by simp) (by omega) _ _ h.1, Each.set (xss := xs) (l := az) (fps := fs) h.2 t (by simpa using hf) k fun i hi hne => o (i + 1) (by simpa using hi) (by omega)⟩

/-- A slice. -/
def sl (e : TypeId) (c : Cd α) : Cd (List α) where
  n := 1
  rd w S us l := ∃ ad cap, us = [.slice ad l.length cap] ∧ l.length ≤ 9223372036854775807 ∧
    (l = [] ∨ ∃ b off, ad = some ⟨b, off, none⟩ ∧ S b ∧ b < w.heap.size ∧ ∀ t, (h : t < l.length) → ∃ xs, At w b (off + t * c.n) xs ∧ c.rd w S xs l[t])
  ow w base us l fp := ∃ v xss fps, us = [v] ∧ w.ownsRow base e c.n v l.length xss.flatten ∧ Each c w base xss l fps ∧ fp = v.ownBlock.toList ++ fps.flatten
  pos := by decide
  len := by rintro w S us l ⟨ad, cap, rfl, _⟩; rfl
  one := by rintro w S us l ⟨ad, cap, rfl, _⟩ u hu; rw [List.mem_singleton.1 hu]; rfl
  keep := by
    rintro w w' S us l ⟨ad, cap, rfl, hl, h⟩ hk
    refine ⟨ad, cap, rfl, hl, h.imp id ?_⟩
    rintro ⟨b, off, rfl, hS, hb, hc⟩
    have e1 := hk b hS hb
    refine ⟨b, off, rfl, hS, ?_, fun t ht => ?_⟩
    · obtain ⟨o, ho⟩ : ∃ o, w.heap[b]? = some o := ⟨_, Array.getElem?_eq_getElem hb⟩
      rw [ho] at e1
      exact (Array.getElem?_eq_some_iff.1 e1).1
    · obtain ⟨xs, h1, h2⟩ := hc t ht
      exact ⟨xs, h1.keep e1, c.keep h2 hk⟩
  mono := by
    rintro w S T us l ⟨ad, cap, rfl, hl, h⟩ hk
    refine ⟨ad, cap, rfl, hl, h.imp id ?_⟩
    rintro ⟨b, off, rfl, hS, hb, hc⟩
    refine ⟨b, off, rfl, hk b hb hS, hb, fun t ht => ?_⟩
    obtain ⟨xs, h1, h2⟩ := hc t ht
    exact ⟨xs, h1, c.mono h2 hk⟩
  ow_rd := by
    rintro w base us l fp ⟨v, xss, fps, rfl, hown, hE, rfl⟩
    have hlen := hE.len
    have hown' := hown
    rcases hown.2 with ⟨rfl, h0⟩ | ⟨g, cap, cur, rfl, hbg, hg, hnc, hcm, hcs, htake⟩
    · have : l = [] := List.eq_nil_of_length_eq_zero h0
      subst this
      exact ⟨none, 0, rfl, by simp, .inl rfl⟩
    · refine ⟨_, cap, rfl, by unfold maxLen at hcm; omega, .inr ⟨g, 0, rfl, ?_, (Array.getElem?_eq_some_iff.1 hg).1, fun t ht => ?_⟩⟩
      · simp [Value.ownBlock]
      · have hx : t < xss.length := by omega
        have hf : t < fps.length := by omega
        have h1 := hE.get t ht hx hf
        refine ⟨xss[t], fun j hj => ?_, c.mono (c.ow_rd h1) fun b _ hq => List.mem_append_right _ (List.mem_flatten.2 ⟨_, List.getElem_mem hf, hq⟩)⟩
        have hp := hE.part t hx j hj
        have hlt : t * c.n + j < l.length * c.n := by
          have := (List.getElem?_eq_some_iff.1 hp).1
          rw [hE.flatten_len] at this
          exact this
        rw [Nat.zero_add, World.ownsRow.cellAt hown' _ hlt, hp]
  ow_keep := by
    rintro w w' base us l fp ⟨v, xss, fps, rfl, hown, hE, rfl⟩ hk
    refine ⟨v, xss, fps, rfl, ⟨hown.1, hown.2.imp id ?_⟩, hE.imp fun x a f hf hq => c.ow_keep hq fun b hb => hk b (List.mem_append_right _ (List.mem_flatten.2 ⟨f, hf, hb⟩)), rfl⟩
    rintro ⟨g, cap, cur, rfl, h2, h3, h4⟩
    exact ⟨g, cap, cur, rfl, h2, (hk g (List.mem_append_left _ (by simp [Value.ownBlock]))).trans h3, h4⟩
  ow_lt := by
    rintro w base us l fp ⟨v, xss, fps, rfl, hown, hE, rfl⟩ b hb
    rcases List.mem_append.1 hb with q | q
    · exact World.ownsRow.lt hown b (by simpa using q)
    · obtain ⟨f, hf, hq⟩ := List.mem_flatten.1 q
      obtain ⟨t, ht, rfl⟩ := List.getElem_of_mem hf
      have hlen := hE.len
      exact c.ow_lt (hE.get t (by omega) (by omega) ht) b hq
  ow_base := by
    rintro w base base' us l fp ⟨v, xss, fps, rfl, hown, hE, rfl⟩ hb
    refine ⟨v, xss, fps, rfl, ⟨hown.1, hown.2.imp id ?_⟩, hE.imp fun x a f hf hq => c.ow_base hq hb, rfl⟩
    rintro ⟨g, cap, cur, rfl, h2, h3⟩
    exact ⟨g, cap, cur, rfl, by omega, h3⟩

/-! Slices of ints, in both spellings. -/
theorem inr_each {w : World} {base : Nat} : ∀ {xss : List (List Value)} {l : List Int} {fps : List (List Nat)}, Each int w base xss l fps → xss.flatten = l.map iv ∧ fps.flatten = [] ∧ InR l
  | [], [], [], _ => ⟨rfl, rfl, fun x hx => by cases hx⟩
  | _ :: xs, _ :: az, _ :: fs, h => by
    obtain ⟨h1, h2, h3⟩ := inr_each (xss := xs) (l := az) (fps := fs) h.2
    obtain ⟨rfl, e2, rfl⟩ := h.1
    refine ⟨by rw [List.flatten_cons, h1]; rfl, by rw [List.flatten_cons, h2]; rfl, fun y hy => ?_⟩
    rcases List.mem_cons.1 hy with rfl | q
    · exact e2
    · exact h3 y q
theorem each_of {w : World} {base : Nat} : ∀ {l : List Int}, InR l → Each int w base (l.map fun x => [iv x]) l (l.map fun _ => [])
  | [], _ => trivial
  | a :: az, h => ⟨⟨rfl, h a (List.mem_cons.2 (.inl rfl)), rfl⟩, each_of (l := az) fun x hx => h x (List.mem_cons.2 (.inr hx))⟩
theorem ri_of {e : TypeId} {w : World} {S : Nat → Prop} {us : List Value} {l : List Int} (h : (sl e int).rd w S us l) : ∃ v, us = [v] ∧ RI w v l w.heap.size ∧ InR l := by
  obtain ⟨ad, cap, rfl, hl, h⟩ := h
  refine ⟨_, rfl, ⟨ad, cap, rfl, hl, ?_⟩, ?_⟩
  · rcases h with rfl | ⟨b, off, rfl, hS, hb, hc⟩
    · exact .inl rfl
    · refine .inr ⟨b, off, rfl, hb, fun t ht => ?_⟩
      obtain ⟨xs, h1, rfl, _⟩ := hc t ht
      have := h1 0 (by simp)
      simpa [int, flat] using this
  · rcases h with rfl | ⟨b, off, rfl, hS, hb, hc⟩
    · intro x hx; cases hx
    · intro x hx
      obtain ⟨t, ht, rfl⟩ := List.getElem_of_mem hx
      obtain ⟨xs, _, _, h2⟩ := hc t ht
      exact h2
theorem rd_of_ri {e : TypeId} {w : World} {S : Nat → Prop} {v : Value} {l : List Int} {B : Nat} (h : RI w v l B) (hB : B ≤ w.heap.size) (hin : InR l) (hS : ∀ b, b < B → S b) : (sl e int).rd w S [v] l := by
  obtain ⟨ad, cap, rfl, hl, h⟩ := h
  refine ⟨ad, cap, rfl, hl, h.imp id ?_⟩
  rintro ⟨b, off, rfl, hb, hc⟩
  refine ⟨b, off, rfl, hS b hb, by omega, fun t ht => ⟨[iv l[t]], fun j hj => ?_, rfl, hin _ (List.getElem_mem ht)⟩⟩
  have : j = 0 := by simpa using hj
  subst this
  have := hc t ht
  simpa [int, flat, iv] using this
theorem own_of_ow {e : TypeId} {w : World} {base : Nat} {us : List Value} {l : List Int} {fp : List Nat} (h : (sl e int).ow w base us l fp) : ∃ v, us = [v] ∧ OwnI w base e v l ∧ InR l ∧ fp = v.ownBlock.toList := by
  obtain ⟨v, xss, fps, rfl, hown, hE, rfl⟩ := h
  obtain ⟨h1, h2, h3⟩ := inr_each hE
  rw [h1] at hown
  exact ⟨v, rfl, hown, h3, by rw [h2, List.append_nil]⟩
theorem ow_of_own {e : TypeId} {w : World} {base : Nat} {v : Value} {l : List Int} (h : OwnI w base e v l) (hin : InR l) : (sl e int).ow w base [v] l v.ownBlock.toList := by
  refine ⟨v, _, _, rfl, ?_, each_of hin, ?_⟩
  · have : (l.map fun x => [iv x]).flatten = l.map iv := by
      clear h hin
      induction l with
      | nil => rfl
      | cons a az ih => simp [ih]
    rw [this]
    exact h
  · have : (l.map fun _ => ([] : List Nat)).flatten = [] := by
      clear h hin
      induction l with
      | nil => rfl
      | cons a az ih => simp [ih]
    rw [this, List.append_nil]

/-! Elements of one cell each: stored, appended, taken out. -/
theorem nodup_set : ∀ {fps : List (List Nat)} {f : List Nat}, fps.flatten.Nodup → f.Nodup → (∀ b ∈ f, b ∉ fps.flatten) → ∀ t, (fps.set t f).flatten.Nodup
  | [], _, h, _, _, _ => h
  | f0 :: fs, f, h, hf, hd, 0 => by
    rw [List.flatten_cons, List.nodup_append] at h
    show (f :: fs).flatten.Nodup
    rw [List.flatten_cons, List.nodup_append]
    exact ⟨hf, h.2.1, fun a ha b hb q => hd a ha (by rw [List.flatten_cons]; exact List.mem_append_right _ (q ▸ hb))⟩
  | f0 :: fs, f, h, hf, hd, t + 1 => by
    rw [List.flatten_cons, List.nodup_append] at h
    show (f0 :: fs.set t f).flatten.Nodup
    rw [List.flatten_cons, List.nodup_append]
    refine ⟨h.1, nodup_set h.2.1 hf (fun b hb q => hd b hb (by rw [List.flatten_cons]; exact List.mem_append_right _ q)) t, fun a ha b hb q => ?_⟩
    subst q
    obtain ⟨g, hg, hag⟩ := List.mem_flatten.1 hb
    rcases List.mem_or_eq_of_mem_set hg with q | q
    · exact h.2.2 a ha a (List.mem_flatten.2 ⟨g, q, hag⟩) rfl
    · subst q
      exact hd a hag (by rw [List.flatten_cons]; exact List.mem_append_left _ ha)
theorem mem_set {fps : List (List Nat)} {f : List Nat} {t b : Nat} (h : b ∈ (fps.set t f).flatten) : b ∈ fps.flatten ∨ b ∈ f := by
  obtain ⟨g, hg, hb⟩ := List.mem_flatten.1 h
  rcases List.mem_or_eq_of_mem_set hg with q | q
  · exact .inl (List.mem_flatten.2 ⟨g, q, hb⟩)
  · subst q; exact .inr hb
theorem Each.put {c : Cd α} {w w' : World} {base : Nat} {x : List Value} {a : α} {f : List Nat} : ∀ {xss : List (List Value)} {l : List α} {fps : List (List Nat)}, Each c w base xss l fps → ∀ t, t < l.length →
    c.ow w' base x a f → (∀ g x a, g ∈ fps → c.ow w base x a g → c.ow w' base x a g) → Each c w' base (xss.set t x) (l.set t a) (fps.set t f)
  | [], [], [], _, _, hf, _, _ => by simp at hf
  | _ :: xs, _ :: az, _ :: fs, h, 0, _, k, o => ⟨k, Each.imp (xss := xs) (l := az) (fps := fs) h.2 fun x a g hg hq => o g x a (List.mem_cons.2 (.inr hg)) hq⟩
  | _ :: xs, _ :: az, _ :: fs, h, t + 1, hf, k, o => ⟨o _ _ _ (List.mem_cons.2 (.inl rfl)) h.1, Each.put (xss := xs) (l := az) (fps := fs) h.2 t (by simpa using hf) k fun g x a hg => o g x a (List.mem_cons.2 (.inr hg))⟩
theorem flatten_set_one {c : Cd α} (hn : c.n = 1) {w : World} {base : Nat} {u : Value} : ∀ {xss : List (List Value)} {l : List α} {fps : List (List Nat)}, Each c w base xss l fps → ∀ t, (xss.set t [u]).flatten = xss.flatten.set t u
  | [], [], [], _, t => by simp
  | x :: xs, a :: az, f :: fs, h, 0 => by
    have hl := (c.len (c.ow_rd h.1)).trans hn
    match x, hl with
    | [y], _ => rfl
  | x :: xs, a :: az, f :: fs, h, t + 1 => by
    have hl := (c.len (c.ow_rd h.1)).trans hn
    have := flatten_set_one hn (u := u) (xss := xs) (l := az) (fps := fs) h.2 t
    match x, hl with
    | [y], _ =>
      show [y] ++ (xs.set t [u]).flatten = ([y] ++ xs.flatten).set (t + 1) u
      rw [this]
      rfl
/-- The form of an owned slice that isn't empty. -/
theorem ow_form {e : TypeId} {c : Cd α} {w : World} {base : Nat} {v : Value} {l : List α} {fp : List Nat} (h : (sl e c).ow w base [v] l fp) (hl : 0 < l.length) :
    ∃ g cap, v = .slice (some ⟨g, 0, none⟩) l.length cap ∧ base ≤ g ∧ g < w.heap.size ∧ g ∈ fp := by
  obtain ⟨v', xss, fps, e1, hown, hE, rfl⟩ := h
  injection e1 with e1 _
  subst e1
  rcases hown.2 with ⟨_, h0⟩ | ⟨g, cap, cur, rfl, h2, h3, _⟩
  · omega
  · exact ⟨g, cap, rfl, h2, (Array.getElem?_eq_some_iff.1 h3).1, List.mem_append_left _ (by simp [Value.ownBlock])⟩
/-- A store into element t. -/
theorem ow_put {e : TypeId} {c : Cd α} (hn : c.n = 1) {w : World} {base g cap n : Nat} {l : List α} {fp f : List Nat} {u : Value} {a : α} (h : (sl e c).ow w base [.slice (some ⟨g, 0, none⟩) n cap] l fp) (hd : fp.Nodup)
    (ha : c.ow w base [u] a f) (hfd : f.Nodup) (hdis : ∀ b ∈ f, b ∉ fp) {t : Nat} (ht : t < l.length) :
    ∃ fp', (sl e c).ow (w.setCell ⟨g, t, none⟩ u) base [.slice (some ⟨g, 0, none⟩) n cap] (l.set t a) fp' ∧ fp'.Nodup ∧ ∀ b ∈ fp', b ∈ fp ∨ b ∈ f := by
  obtain ⟨v', xss, fps, e1, hown, hE, rfl⟩ := h
  injection e1 with e1 _
  subst e1
  have hfl := hE.flatten_len
  have hnl : n = l.length := by
    rcases hown.2 with ⟨e1, _⟩ | ⟨g', cap', cur, e1, _⟩
    · cases e1
    · injection e1
  subst hnl
  have hd' := hd
  simp only [Value.ownBlock, Option.toList_some, List.cons_append, List.nil_append, List.nodup_cons] at hd'
  have hother : ∀ b, b ≠ g → (w.setCell ⟨g, t, none⟩ u).heap[b]? = w.heap[b]? := fun b hb => Below.heap_setCell w _ u b hb
  refine ⟨_, ⟨_, xss.set t [u], fps.set t f, rfl, ?_, hE.put t ht (c.ow_keep ha fun b hb => hother b fun q => hdis b hb (by subst q; simp [Value.ownBlock])) (fun g' x a hg hq => c.ow_keep hq fun b hb => hother b fun q => hd'.1 (by subst q; exact List.mem_flatten.2 ⟨g', hg, hb⟩)), rfl⟩, ?_, ?_⟩
  · rw [List.length_set, flatten_set_one hn hE]
    exact (World.ownsRow.stored hown t u).1
  · simp only [Value.ownBlock, Option.toList_some, List.cons_append, List.nil_append, List.nodup_cons]
    refine ⟨fun q => ?_, nodup_set hd'.2 hfd (fun b hb q => hdis b hb (List.mem_append_right _ q)) t⟩
    rcases mem_set q with q | q
    · exact hd'.1 q
    · exact hdis g q (by simp [Value.ownBlock])
  · intro b hb
    rcases List.mem_append.1 hb with q | q
    · exact .inl (List.mem_append_left _ q)
    · rcases mem_set q with q | q
      · exact .inl (List.mem_append_right _ q)
      · exact .inr q
/-- Element t of an owned slice, its cell and its blocks. -/
theorem ow_at {e : TypeId} {c : Cd α} (hn : c.n = 1) {w : World} {base g cap n : Nat} {l : List α} {fp : List Nat} (h : (sl e c).ow w base [.slice (some ⟨g, 0, none⟩) n cap] l fp) {t : Nat} (ht : t < l.length) :
    ∃ u f, w.cell? ⟨g, t, none⟩ = some u ∧ c.ow w base [u] l[t] f ∧ (∀ b ∈ f, b ∈ fp) ∧ (fp.Nodup → f.Nodup ∧ g ∉ f) ∧
      ∀ w' a, c.ow w' base [u] a f → (∀ b ∈ fp, b ∉ f → w'.heap[b]? = w.heap[b]?) → fp.Nodup → (sl e c).ow w' base [.slice (some ⟨g, 0, none⟩) n cap] (l.set t a) fp := by
  obtain ⟨v', xss, fps, e1, hown, hE, rfl⟩ := h
  injection e1 with e1 _
  subst e1
  have hlen := hE.len
  have hfl := hE.flatten_len
  have hnl : n = l.length := by
    rcases hown.2 with ⟨e1, _⟩ | ⟨g', cap', cur, e1, _⟩
    · cases e1
    · injection e1
  subst hnl
  have hx : t < xss.length := by omega
  have hf : t < fps.length := by omega
  have h1 := hE.get t ht hx hf
  have hl1 := (c.len (c.ow_rd h1)).trans hn
  obtain ⟨u, hu⟩ : ∃ u, xss[t] = [u] := by
    match hq : xss[t], hl1 with
    | [y], _ => exact ⟨y, rfl⟩
  have hsub : ∀ b ∈ fps[t], b ∈ fps.flatten := fun b hb => List.mem_flatten.2 ⟨_, List.getElem_mem hf, hb⟩
  have hp := hE.part t hx 0 (by rw [hu]; exact Nat.one_pos)
  refine ⟨u, fps[t], ?_, by rw [← hu]; exact h1, fun b hb => List.mem_append_right _ (hsub b hb), fun hd => ?_, fun w' a hw' hk hd => ?_⟩
  · rw [World.ownsRow.cellAt hown t (by rw [hn]; omega)]
    have e1 : t * c.n + 0 = t := by rw [hn]; omega
    rw [e1] at hp
    rw [hp]
    simp [hu]
  · simp only [Value.ownBlock, Option.toList_some, List.cons_append, List.nil_append, List.nodup_cons] at hd
    refine ⟨?_, fun q => hd.1 (hsub g q)⟩
    exact (List.pairwise_flatten.1 hd.2).1 _ (List.getElem_mem hf)
  · simp only [Value.ownBlock, Option.toList_some, List.cons_append, List.nil_append, List.nodup_cons] at hd hk
    have hpw := (List.pairwise_flatten.1 hd.2).2
    have hE2 : Each c w' base (xss.set t [u]) (l.set t a) fps := hE.set t hf hw' fun i hi hne x a hq => c.ow_keep hq fun b hb => hk b (List.mem_cons.2 (.inr (List.mem_flatten.2 ⟨_, List.getElem_mem hi, hb⟩))) fun q => by
      rcases Nat.lt_or_gt_of_ne hne with hlt | hlt
      · exact (List.pairwise_iff_getElem.1 hpw i t hi hf hlt) b hb b q rfl
      · exact (List.pairwise_iff_getElem.1 hpw t i hf hi hlt) b q b hb rfl
    have hgk := hk g (List.mem_cons.2 (.inl rfl)) fun q => hd.1 (hsub g q)
    have hsame : xss.set t [u] = xss := by rw [← hu]; exact List.set_getElem_self hx
    rw [hsame] at hE2
    refine ⟨_, xss, fps, rfl, ?_, hE2, rfl⟩
    rw [List.length_set]
    refine ⟨hown.1, hown.2.imp id ?_⟩
    rintro ⟨g', cap', cur, e1, h2, h3, h4⟩
    simp only [Value.slice.injEq, Option.some.injEq, Addr.mk.injEq, and_true, true_and] at e1
    obtain ⟨rfl, rfl⟩ := e1
    exact ⟨g, cap, cur, rfl, h2, hgk.trans h3, h4⟩

/-- What an append of one element (of one cell) leaves. -/
theorem ow_appended {e : TypeId} {c : Cd α} {w w' : World} {base g cap : Nat} {v u : Value} {l : List α} {y : α} {fp f : List Nat} {xss : List (List Value)} {fps : List (List Nat)}
    (hE : Each c w base xss l fps) (hfp : fp = v.ownBlock.toList ++ fps.flatten) (hd : fp.Nodup) (hlt : ∀ b ∈ fp, b < w.heap.size) (hy : c.ow w base [u] y f) (hfd : f.Nodup) (hdis : ∀ b ∈ f, b ∉ fp)
    (h2 : w'.ownsRow base e c.n (.slice (some ⟨g, 0, none⟩) (l.length + 1) cap) (l.length + 1) (xss.flatten ++ [u])) (h3 : w.grownBy w' v.ownBlock) (h4 : v.ownBlock = some g ∨ g = w.heap.size) :
    ∃ fp', (sl e c).ow w' base [.slice (some ⟨g, 0, none⟩) (l.length + 1) cap] (l ++ [y]) fp' ∧ fp'.Nodup ∧ (∀ b ∈ fp', b ∈ fp ∨ b ∈ f ∨ w.heap.size ≤ b) ∧ Touch fp w w' := by
  subst hfp
  have hd' := List.nodup_append.1 hd
  have hkeep : ∀ b, b < w.heap.size → v.ownBlock ≠ some b → w'.heap[b]? = w.heap[b]? := fun b hb hne => h3.block b hb fun q => hne q.symm
  have hin : ∀ b ∈ fps.flatten, w'.heap[b]? = w.heap[b]? := fun b hb => hkeep b (hlt b (List.mem_append_right _ hb)) fun q => hd'.2.2 b (by rw [q]; simp) b hb rfl
  have hf : ∀ b ∈ f, w'.heap[b]? = w.heap[b]? := fun b hb => hkeep b (c.ow_lt hy b hb).2 fun q => hdis b hb (List.mem_append_left _ (by rw [q]; simp))
  have hE2 : Each c w' base (xss ++ [[u]]) (l ++ [y]) (fps ++ [f]) := (hE.imp fun x a g hg hq => c.ow_keep hq fun b hb => hin b (List.mem_flatten.2 ⟨g, hg, hb⟩)).snoc (c.ow_keep hy hf)
  have hlen : (l ++ [y]).length = l.length + 1 := by simp
  have hgn : ∀ b ∈ fps.flatten ++ f, b ≠ g := fun b hb q => by
    subst q
    rcases h4 with q | q
    · rcases List.mem_append.1 hb with r | r
      · exact hd'.2.2 b (by rw [q]; simp) b r rfl
      · exact hdis b r (List.mem_append_left _ (by rw [q]; simp))
    · rcases List.mem_append.1 hb with r | r
      · have := hlt b (List.mem_append_right _ r)
        omega
      · have := (c.ow_lt hy b r).2
        omega
  refine ⟨_, ⟨_, _, _, rfl, ?_, hE2, rfl⟩, ?_, ?_, ⟨h3.os, h3.tape, h3.output, h3.size, fun k hk hne => hkeep k hk fun q => hne (List.mem_append_left _ (by rw [q]; simp))⟩⟩
  · rw [hlen, List.flatten_append]
    simpa using h2
  · simp only [Value.ownBlock, Option.toList_some, List.cons_append, List.nil_append, List.nodup_cons, List.flatten_append, List.flatten_cons, List.flatten_nil, List.append_nil]
    refine ⟨fun q => hgn g q rfl, List.nodup_append.2 ⟨hd'.2.1, hfd, fun a ha b hb q => hdis b hb (List.mem_append_right _ (q ▸ ha))⟩⟩
  · intro b hb
    simp only [Value.ownBlock, Option.toList_some, List.cons_append, List.nil_append, List.flatten_append, List.flatten_cons, List.flatten_nil, List.append_nil] at hb
    rcases List.mem_cons.1 hb with rfl | q
    · rcases h4 with q | q
      · exact .inl (List.mem_append_left _ (by rw [q]; simp))
      · exact .inr (.inr (by omega))
    · rcases List.mem_append.1 q with r | r
      · exact .inl (List.mem_append_right _ r)
      · exact .inr (.inl r)

/-- append(v, y), y one element of one cell that the call owns. -/
theorem wp_appendE {P : Program} {c : Cd α} (hn : c.n = 1) {o : Oper} {a : Act} {K : Act → World → Prop} {Q : Exit → Act → World → Prop} {w : World} (s x : Operand) (t : TypeId)
    (ho : o.op = .call { callee := .builtin .append, args := #[s, x], argTypes := #[t, t] })
    (base : Nat) (e : TypeId) (z : Value) (bytes : Nat) (ht : P.underlying t = some (.slice e)) (hinfo : (P.info? e).map (fun i => (i.zero, i.size, i.bytes)) = some (some z, 1, bytes)) (hzs : z.cells.size = 1) (hby : bytes ≤ 100)
    (v : Value) (l : List α) (fp : List Nat) (hs : a.eval s = v) (how : (sl e c).ow w base [v] l fp) (hd : fp.Nodup) (b : Nat) (u : Value) (hx : a.eval x = .slice (some ⟨b, 0, none⟩) 1 1) (hu : w.cell? ⟨b, 0, none⟩ = some u)
    (y : α) (f : List Nat) (hy : c.ow w base [u] y f) (hfd : f.Nodup) (hdis : ∀ b ∈ f, b ∉ fp) (hlen : l.length + 1 ≤ 1000000000000) (hbase : base ≤ w.heap.size)
    (h : ∀ g cap w' fp', (sl e c).ow w' base [.slice (some ⟨g, 0, none⟩) (l.length + 1) cap] (l ++ [y]) fp' → fp'.Nodup → (∀ b ∈ fp', b ∈ fp ∨ b ∈ f ∨ w.heap.size ≤ b) → Touch fp w w' →
      K (a.put o.dst (.slice (some ⟨g, 0, none⟩) (l.length + 1) cap)) w') : o.wp P a w K Q := by
  obtain ⟨i0, hi, hz0, hz1, hz2⟩ := info_parts hinfo
  have hlt : ∀ b ∈ fp, b < w.heap.size := fun b hb => ((sl e c).ow_lt how b hb).2
  obtain ⟨v', xss, fps, e1, hown, hE, hfp⟩ := how
  injection e1 with e1 _
  subst e1
  rw [hn] at hown
  refine wp_append_lies w s x t ho base e i0 z 1 bytes ht hi hz0 hz1 hz2 hzs (by decide) v l.length xss.flatten hs hown ⟨b, 0, none⟩ 1 1 [u] hx rfl ?_ (fun u' hu' => ?_) (by decide) (by unfold maxLen; omega) ?_ hbase w.heap.size rfl ?_
  · intro j u' hj
    match j, hj with
    | 0, hj =>
      have e1 : (⟨b, 0, none⟩ : Addr).add 0 = ⟨b, 0, none⟩ := by simp [Addr.add]
      rw [e1, hu]
      simpa using hj
  · rw [List.mem_singleton.1 hu']
    exact c.one (c.ow_rd hy) u (List.mem_singleton.2 rfl)
  · calc (l.length + 1) * bytes ≤ 1000000000000 * 100 := Nat.mul_le_mul hlen hby
      _ ≤ 140737488355328 := by decide
  · intro g cap w' h2 h3 h4 h5
    have h2' : w'.ownsRow base e c.n (.slice (some ⟨g, 0, none⟩) (l.length + 1) cap) (l.length + 1) (xss.flatten ++ [u]) := by rw [hn]; exact h2
    obtain ⟨fp', k1, k2, k3, k4⟩ := ow_appended hE hfp hd hlt hy hfd hdis h2' h3 h4
    exact h g cap w' fp' k1 k2 k3 k4

theorem wpList_appendE {P : Program} {c : Cd α} (hn : c.n = 1) {ops : Array Oper} {rest : List Oper} {o : Oper} {a : Act} {Q : Exit → Act → World → Prop} {w : World} (hgd : o.guard = none) (s x : Operand) (t : TypeId)
    (ho : o.op = .call { callee := .builtin .append, args := #[s, x], argTypes := #[t, t] })
    (base : Nat) (e : TypeId) (z : Value) (bytes : Nat) (ht : P.underlying t = some (.slice e)) (hinfo : (P.info? e).map (fun i => (i.zero, i.size, i.bytes)) = some (some z, 1, bytes)) (hzs : z.cells.size = 1) (hby : bytes ≤ 100)
    (v : Value) (l : List α) (fp : List Nat) (hs : a.eval s = v) (how : (sl e c).ow w base [v] l fp) (hd : fp.Nodup) (b : Nat) (u : Value) (hx : a.eval x = .slice (some ⟨b, 0, none⟩) 1 1) (hu : w.cell? ⟨b, 0, none⟩ = some u)
    (y : α) (f : List Nat) (hy : c.ow w base [u] y f) (hfd : f.Nodup) (hdis : ∀ b ∈ f, b ∉ fp) (hlen : l.length + 1 ≤ 1000000000000) (hbase : base ≤ w.heap.size)
    (h : ∀ g cap w' fp', (sl e c).ow w' base [.slice (some ⟨g, 0, none⟩) (l.length + 1) cap] (l ++ [y]) fp' → fp'.Nodup → (∀ b ∈ fp', b ∈ fp ∨ b ∈ f ∨ w.heap.size ≤ b) → Touch fp w w' →
      wpList P ops Q rest (a.put o.dst (.slice (some ⟨g, 0, none⟩) (l.length + 1) cap)) w') : wpList P ops Q (o :: rest) a w :=
  wpList_plain hgd fun _ hK => wp_appendE hn s x t ho base e z bytes ht hinfo hzs hby v l fp hs how hd b u hx hu y f hy hfd hdis hlen hbase fun g cap w' fp' h1 h2 h3 h4 => hK _ _ (h g cap w' fp' h1 h2 h3 h4)

theorem step_appendE {P : Program} {c : Cd α} (hn : c.n = 1) {ops : Array Oper} {o : Oper} {a : Act} {K : Act → World → Prop} {Q : Exit → Act → World → Prop} {E : Prop} {w : World} (hgd : o.guard = none) (s x : Operand) (t : TypeId)
    (ho : o.op = .call { callee := .builtin .append, args := #[s, x], argTypes := #[t, t] })
    (base : Nat) (e : TypeId) (z : Value) (bytes : Nat) (ht : P.underlying t = some (.slice e)) (hinfo : (P.info? e).map (fun i => (i.zero, i.size, i.bytes)) = some (some z, 1, bytes)) (hzs : z.cells.size = 1) (hby : bytes ≤ 100)
    (v : Value) (l : List α) (fp : List Nat) (hs : a.eval s = v) (how : (sl e c).ow w base [v] l fp) (hd : fp.Nodup) (b : Nat) (u : Value) (hx : a.eval x = .slice (some ⟨b, 0, none⟩) 1 1) (hu : w.cell? ⟨b, 0, none⟩ = some u)
    (y : α) (f : List Nat) (hy : c.ow w base [u] y f) (hfd : f.Nodup) (hdis : ∀ b ∈ f, b ∉ fp) (hlen : l.length + 1 ≤ 1000000000000) (hbase : base ≤ w.heap.size)
    (h : ∀ g cap w' fp', (sl e c).ow w' base [.slice (some ⟨g, 0, none⟩) (l.length + 1) cap] (l ++ [y]) fp' → fp'.Nodup → (∀ b ∈ fp', b ∈ fp ∨ b ∈ f ∨ w.heap.size ≤ b) → Touch fp w w' →
      K (a.put o.dst (.slice (some ⟨g, 0, none⟩) (l.length + 1) cap)) w') :
    if Region.wanted o (yielded ops a.tmps) = true then Oper.wp P o a w K Q else E := by
  have hw : Region.wanted o (yielded ops a.tmps) = true := by simp [Region.wanted, hgd]
  rw [if_pos hw]
  exact wp_appendE hn s x t ho base e z bytes ht hinfo hzs hby v l fp hs how hd b u hx hu y f hy hfd hdis hlen hbase h

/-- append(v, y...), y's ints read from wherever. -/
theorem run_append_ri {P : Program} {w : World} (base : Nat) (t ty e : TypeId) (ht : P.underlying t = some (.slice e)) (hinfo : (P.info? e).map (fun i => (i.zero, i.size, i.bytes)) = some (some (.int .i64 0), 1, 8))
    (v y : Value) (l ys : List Int) (B : Nat) (hown : OwnI w base e v l) (hy : RI w y ys B) (hlen : l.length + ys.length ≤ 1000000000000) (hbase : base ≤ w.heap.size) :
    ∃ v' w', (Builtin.append_ #[t, t] ty #[v, y]).run P w = .ok v' w' ∧ OwnI w' base e v' (l ++ ys) ∧ w.grownBy w' v.ownBlock ∧ (v'.ownBlock = v.ownBlock ∨ v'.ownBlock = some w.heap.size) := by
  obtain ⟨i0, hi, hz0, hz1, hz2⟩ := info_parts hinfo
  obtain ⟨ad, cap, rfl, hl, hc⟩ := hy
  have hemp : ys = [] → ∀ ad, ∃ v' w', (Builtin.append_ #[t, t] ty #[v, .slice ad 0 cap]).run P w = .ok v' w' ∧ OwnI w' base e v' (l ++ []) ∧ w.grownBy w' v.ownBlock ∧ (v'.ownBlock = v.ownBlock ∨ v'.ownBlock = some w.heap.size) := by
    intro _ ad
    refine ⟨v, w, ?_, by rw [List.append_nil]; exact hown, World.grownBy.refl w _, .inl rfl⟩
    rcases hown.2 with ⟨rfl, h0⟩ | ⟨g, cap', cur, rfl, _, _, hnc, _⟩
    · cases ad with
      | none => simp [Builtin.append_, run_underlying ht, sizeOf, typeInfo, hi, Builtin.lenOf, Builtin.firstCells]
      | some ad => simp [Builtin.append_, run_underlying ht, sizeOf, typeInfo, hi, Builtin.lenOf, Builtin.firstCells, loadCells, loadCellsFrom]
    · cases ad with
      | none => simp [Builtin.append_, run_underlying ht, sizeOf, typeInfo, hi, Builtin.lenOf, Builtin.firstCells, hnc, storeCells]
      | some ad => simp [Builtin.append_, run_underlying ht, sizeOf, typeInfo, hi, Builtin.lenOf, Builtin.firstCells, hnc, storeCells, loadCells, loadCellsFrom]
  rcases hc with rfl | ⟨b, off, rfl, hb, hcell⟩
  · exact hemp rfl ad
  by_cases h0 : ys.length = 0
  · obtain rfl := List.eq_nil_of_length_eq_zero h0
    exact hemp rfl _
  obtain ⟨v', w', hr, h2, h3, _, h5⟩ := run_append_own_at (P := P) w base t ty e i0 (.int .i64 0) 1 8 ht hi hz0 hz1 hz2 rfl (by decide) v l.length (l.map iv) hown ⟨b, off, none⟩ ys.length cap (ys.map iv) (by simp)
    (fun j u hj => by
      have hj' : j < ys.length := by
        have := (List.getElem?_eq_some_iff.1 hj).1
        simpa using this
      have ha : (⟨b, off, none⟩ : Addr).add j = ⟨b, off + j, none⟩ := by unfold Addr.add; split <;> simp_all
      rw [ha, hcell j hj']
      simp [hj', iv] at hj
      rw [← hj]) (by intro u hu; simp at hu; obtain ⟨q, _, rfl⟩ := hu; rfl) (by unfold maxLen; omega) (by omega) hbase
  refine ⟨v', w', hr, ?_, h3, h5⟩
  unfold OwnI
  rw [List.map_append, List.length_append]
  exact h2
theorem ow_frozen {e : TypeId} {c : Cd α} {w : World} {base g cap n : Nat} {l : List α} {fp : List Nat} (h : (sl e c).ow w base [.slice (some ⟨g, 0, none⟩) n cap] l fp) (t : Nat) : w.frozen? ⟨g, t, none⟩ = false := by
  obtain ⟨v', xss, fps, e1, hown, hE, rfl⟩ := h
  injection e1 with e1 _
  subst e1
  have hnl : n = l.length := by
    rcases hown.2 with ⟨e1, _⟩ | ⟨g', cap', cur, e1, _⟩
    · cases e1
    · injection e1
  subst hnl
  exact World.ownsRow.frozenAt hown t
/-- A row just made, of n elements whose value is u and which own nothing. -/
theorem ow_made {e : TypeId} {c : Cd α} (hn : c.n = 1) {w : World} {base : Nat} {v u : Value} {n : Nat} {a : α} (h : w.ownsRow base e 1 v n (List.replicate n u)) (ha : c.ow w base [u] a []) :
    (sl e c).ow w base [v] (List.replicate n a) v.ownBlock.toList := by
  refine ⟨v, List.replicate n [u], List.replicate n [], rfl, ?_, ?_, ?_⟩
  · rw [hn, List.length_replicate]
    have : (List.replicate n [u]).flatten = List.replicate n u := by
      clear h
      induction n with
      | zero => rfl
      | succ n ih => rw [List.replicate_succ, List.flatten_cons, ih, List.replicate_succ]; rfl
    rw [this]
    exact h
  · clear h
    induction n with
    | zero => exact trivial
    | succ n ih => exact ⟨ha, ih⟩
  · have : (List.replicate n ([] : List Nat)).flatten = [] := by
      clear h
      induction n with
      | zero => rfl
      | succ n ih => rw [List.replicate_succ, List.flatten_cons, ih]; rfl
    rw [this, List.append_nil]
theorem ow_nil {e : TypeId} {c : Cd α} (w : World) (base : Nat) : (sl e c).ow w base [.slice none 0 0] [] [] := ⟨_, [], [], rfl, World.ownsRow_nil _ _ _ _, trivial, rfl⟩

theorem ow_empty {e : TypeId} {c : Cd α} (w : World) (base : Nat) (hb : base ≤ w.heap.size) : (sl e c).ow (w.alloc (.cells #[] e)) base [.slice (some ⟨w.heap.size, 0, none⟩) 0 0] [] [w.heap.size] :=
  ⟨_, [], [], rfl, World.ownsRow_lit w #[] 0 hb (Nat.zero_le _) (by simp), trivial, rfl⟩
theorem ow_slice {e : TypeId} {c : Cd α} {w : World} {base : Nat} {v : Value} {l : List α} {fp : List Nat} (h : (sl e c).ow w base [v] l fp) : ∃ a cap, v = .slice a l.length cap := by
  obtain ⟨a, cap, e, _⟩ := (sl _ c).ow_rd h
  injection e with e _
  exact ⟨a, cap, e⟩
theorem own_nodup {v : Value} : (v.ownBlock.toList).Nodup := by cases v.ownBlock <;> simp

theorem wp_appendRI {P : Program} {o : Oper} {a : Act} {K : Act → World → Prop} {Q : Exit → Act → World → Prop} {w : World} (s x : Operand) (t : TypeId)
    (ho : o.op = .call { callee := .builtin .append, args := #[s, x], argTypes := #[t, t] })
    (base : Nat) (e : TypeId) (ht : P.underlying t = some (.slice e)) (hinfo : (P.info? e).map (fun i => (i.zero, i.size, i.bytes)) = some (some (.int .i64 0), 1, 8))
    (v : Value) (l : List Int) (fp : List Nat) (hs : a.eval s = v) (how : (sl e int).ow w base [v] l fp) (y : Value) (ys : List Int) (S : Nat → Prop) (hx : a.eval x = y) (hy : (sl e int).rd w S [y] ys)
    (hlen : l.length + ys.length ≤ 1000000000000) (hbase : base ≤ w.heap.size)
    (h : ∀ v' w' fp', (sl e int).ow w' base [v'] (l ++ ys) fp' → fp'.Nodup → (∀ b ∈ fp', b ∈ fp ∨ w.heap.size ≤ b) → Touch fp w w' → K (a.put o.dst v') w') : o.wp P a w K Q := by
  obtain ⟨v0, e0, hown, hin, rfl⟩ := own_of_ow how
  injection e0 with e0 _
  subst e0
  obtain ⟨y0, e0, hri, hin2⟩ := ri_of hy
  injection e0 with e0 _
  subst e0
  obtain ⟨v', w', hr, h2, h3, h5⟩ := run_append_ri (P := P) base t o.type e ht hinfo v y l ys _ hown hri hlen hbase
  have hq := h v' w' _ (ow_of_own h2 (fun x hx => by
    rcases List.mem_append.1 hx with q | q
    · exact hin x q
    · exact hin2 x q)) own_nodup (fun b hb => by
    rcases h5 with h5 | h5
    · left; rw [← h5]; exact hb
    · right
      rw [h5] at hb
      simp at hb
      omega) (Touch.of_grown h3)
  unfold Oper.wp execOp
  simp only [ho, resolve, invoke, builtin, Sem.run_bind, Sem.run_pure, Result.andThen_ok, List.map_toArray, List.map_cons, List.map_nil, hs, hx, hr]
  exact hq

theorem wpList_appendRI {P : Program} {ops : Array Oper} {rest : List Oper} {o : Oper} {a : Act} {Q : Exit → Act → World → Prop} {w : World} (hgd : o.guard = none) (s x : Operand) (t : TypeId)
    (ho : o.op = .call { callee := .builtin .append, args := #[s, x], argTypes := #[t, t] })
    (base : Nat) (e : TypeId) (ht : P.underlying t = some (.slice e)) (hinfo : (P.info? e).map (fun i => (i.zero, i.size, i.bytes)) = some (some (.int .i64 0), 1, 8))
    (v : Value) (l : List Int) (fp : List Nat) (hs : a.eval s = v) (how : (sl e int).ow w base [v] l fp) (y : Value) (ys : List Int) (S : Nat → Prop) (hx : a.eval x = y) (hy : (sl e int).rd w S [y] ys)
    (hlen : l.length + ys.length ≤ 1000000000000) (hbase : base ≤ w.heap.size)
    (h : ∀ v' w' fp', (sl e int).ow w' base [v'] (l ++ ys) fp' → fp'.Nodup → (∀ b ∈ fp', b ∈ fp ∨ w.heap.size ≤ b) → Touch fp w w' → wpList P ops Q rest (a.put o.dst v') w') : wpList P ops Q (o :: rest) a w :=
  wpList_plain hgd fun _ hK => wp_appendRI s x t ho base e ht hinfo v l fp hs how y ys S hx hy hlen hbase fun v' w' fp' h1 h2 h3 h4 => hK _ _ (h v' w' fp' h1 h2 h3 h4)

theorem step_appendRI {P : Program} {ops : Array Oper} {o : Oper} {a : Act} {K : Act → World → Prop} {Q : Exit → Act → World → Prop} {E : Prop} {w : World} (hgd : o.guard = none) (s x : Operand) (t : TypeId)
    (ho : o.op = .call { callee := .builtin .append, args := #[s, x], argTypes := #[t, t] })
    (base : Nat) (e : TypeId) (ht : P.underlying t = some (.slice e)) (hinfo : (P.info? e).map (fun i => (i.zero, i.size, i.bytes)) = some (some (.int .i64 0), 1, 8))
    (v : Value) (l : List Int) (fp : List Nat) (hs : a.eval s = v) (how : (sl e int).ow w base [v] l fp) (y : Value) (ys : List Int) (S : Nat → Prop) (hx : a.eval x = y) (hy : (sl e int).rd w S [y] ys)
    (hlen : l.length + ys.length ≤ 1000000000000) (hbase : base ≤ w.heap.size)
    (h : ∀ v' w' fp', (sl e int).ow w' base [v'] (l ++ ys) fp' → fp'.Nodup → (∀ b ∈ fp', b ∈ fp ∨ w.heap.size ≤ b) → Touch fp w w' → K (a.put o.dst v') w') :
    if Region.wanted o (yielded ops a.tmps) = true then Oper.wp P o a w K Q else E := by
  have hw : Region.wanted o (yielded ops a.tmps) = true := by simp [Region.wanted, hgd]
  rw [if_pos hw]
  exact wp_appendRI s x t ho base e ht hinfo v l fp hs how y ys S hx hy hlen hbase h
end Cd
end Go.Proofs.YthnphlgkkfdnlaaDoor.Cd
