/- Slices whose elements have several cells: two elements appended at once; a slice cut from a place on. Over any program. -/
import Derived.Test.YtmifnbplkaonaaaGreatCdN
namespace Go.Proofs.YtmifnbplkaonaaaGreat.Cd
open Go Go.RowKit
namespace Cd
variable {α : Type}

/-- What an append of two elements of several cells leaves. -/
theorem ow_appendedN2 {e : TypeId} {c : Cd α} {w w' : World} {base g cap : Nat} {v : Value} {us us2 : List Value} {l : List α} {y y2 : α} {fp f f2 : List Nat} {xss : List (List Value)} {fps : List (List Nat)}
    (hE : Each c w base xss l fps) (hfp : fp = v.ownBlock.toList ++ fps.flatten) (hd : fp.Nodup) (hlt : ∀ b ∈ fp, b < w.heap.size) (hy : c.ow w base us y f) (hfd : f.Nodup) (hdis : ∀ b ∈ f, b ∉ fp)
    (hy2 : c.ow w base us2 y2 f2) (hfd2 : f2.Nodup) (hdis2 : ∀ b ∈ f2, b ∉ fp) (h12 : ∀ b ∈ f, b ∉ f2)
    (h2 : w'.ownsRow base e c.n (.slice (some ⟨g, 0, none⟩) (l.length + 2) cap) (l.length + 2) (xss.flatten ++ (us ++ us2))) (h3 : w.grownBy w' v.ownBlock) (h4 : v.ownBlock = some g ∨ g = w.heap.size) :
    ∃ fp', (sl e c).ow w' base [.slice (some ⟨g, 0, none⟩) (l.length + 2) cap] (l ++ [y, y2]) fp' ∧ fp'.Nodup ∧ (∀ b ∈ fp', b ∈ fp ∨ b ∈ f ∨ b ∈ f2 ∨ w.heap.size ≤ b) ∧ Touch fp w w' := by
  subst hfp
  have hd' := List.nodup_append.1 hd
  have hkeep : ∀ b, b < w.heap.size → v.ownBlock ≠ some b → w'.heap[b]? = w.heap[b]? := fun b hb hne => h3.block b hb fun q => hne q.symm
  have hin : ∀ b ∈ fps.flatten, w'.heap[b]? = w.heap[b]? := fun b hb => hkeep b (hlt b (List.mem_append_right _ hb)) fun q => hd'.2.2 b (by rw [q]; simp) b hb rfl
  have hf : ∀ b ∈ f, w'.heap[b]? = w.heap[b]? := fun b hb => hkeep b (c.ow_lt hy b hb).2 fun q => hdis b hb (List.mem_append_left _ (by rw [q]; simp))
  have hf2 : ∀ b ∈ f2, w'.heap[b]? = w.heap[b]? := fun b hb => hkeep b (c.ow_lt hy2 b hb).2 fun q => hdis2 b hb (List.mem_append_left _ (by rw [q]; simp))
  have hE2 : Each c w' base ((xss ++ [us]) ++ [us2]) ((l ++ [y]) ++ [y2]) ((fps ++ [f]) ++ [f2]) := ((hE.imp fun x a g hg hq => c.ow_keep hq fun b hb => hin b (List.mem_flatten.2 ⟨g, hg, hb⟩)).snoc (c.ow_keep hy hf)).snoc (c.ow_keep hy2 hf2)
  have el : l ++ [y, y2] = (l ++ [y]) ++ [y2] := by simp
  have hlen : ((l ++ [y]) ++ [y2]).length = l.length + 2 := by simp
  have hgn : ∀ b ∈ fps.flatten ++ (f ++ f2), b ≠ g := fun b hb q => by
    subst q
    rcases h4 with q | q
    · rcases List.mem_append.1 hb with r | r
      · exact hd'.2.2 b (by rw [q]; simp) b r rfl
      · rcases List.mem_append.1 r with r | r
        · exact hdis b r (List.mem_append_left _ (by rw [q]; simp))
        · exact hdis2 b r (List.mem_append_left _ (by rw [q]; simp))
    · rcases List.mem_append.1 hb with r | r
      · have := hlt b (List.mem_append_right _ r)
        omega
      · rcases List.mem_append.1 r with r | r
        · have := (c.ow_lt hy b r).2
          omega
        · have := (c.ow_lt hy2 b r).2
          omega
  have efl : ((fps ++ [f]) ++ [f2]).flatten = fps.flatten ++ (f ++ f2) := by simp
  rw [el]
  refine ⟨_, ⟨_, _, _, rfl, ?_, hE2, rfl⟩, ?_, ?_, ⟨h3.os, h3.tape, h3.output, h3.size, fun k hk hne => hkeep k hk fun q => hne (List.mem_append_left _ (by rw [q]; simp))⟩⟩
  · rw [hlen, List.flatten_append, List.flatten_append]
    simpa using h2
  · rw [efl]
    simp only [Value.ownBlock, Option.toList_some, List.cons_append, List.nil_append, List.nodup_cons]
    refine ⟨fun q => hgn g q rfl, List.nodup_append.2 ⟨hd'.2.1, List.nodup_append.2 ⟨hfd, hfd2, fun a ha b hb q => h12 a ha (q ▸ hb)⟩, fun a ha b hb q => ?_⟩⟩
    subst q
    rcases List.mem_append.1 hb with r | r
    · exact hdis a r (List.mem_append_right _ ha)
    · exact hdis2 a r (List.mem_append_right _ ha)
  · intro b hb
    rw [efl] at hb
    simp only [Value.ownBlock, Option.toList_some, List.cons_append, List.nil_append] at hb
    rcases List.mem_cons.1 hb with rfl | q
    · rcases h4 with q | q
      · exact .inl (List.mem_append_left _ (by rw [q]; simp))
      · exact .inr (.inr (.inr (by omega)))
    · rcases List.mem_append.1 q with r | r
      · exact .inl (List.mem_append_right _ r)
      · rcases List.mem_append.1 r with r | r
        · exact .inr (.inl r)
        · exact .inr (.inr (.inl r))
/-- append(v, y, y2), elements of several cells that the call owns. -/
theorem wp_appendN2 {P : Program} {c : Cd α} {o : Oper} {a : Act} {K : Act → World → Prop} {Q : Exit → Act → World → Prop} {w : World} (s x : Operand) (t : TypeId)
    (ho : o.op = .call { callee := .builtin .append, args := #[s, x], argTypes := #[t, t] })
    (base : Nat) (e : TypeId) (z : Value) (size bytes : Nat) (hn : c.n = size) (ht : P.underlying t = some (.slice e)) (hinfo : (P.info? e).map (fun i => (i.zero, i.size, i.bytes)) = some (some z, size, bytes)) (hzs : z.cells.size = size) (hby : bytes ≤ 10000)
    (v : Value) (l : List α) (fp : List Nat) (hs : a.eval s = v) (how : (sl e c).ow w base [v] l fp) (hd : fp.Nodup) (b : Nat) (us us2 : List Value) (hx : a.eval x = .slice (some ⟨b, 0, none⟩) 2 2) (hu : At w b 0 (us ++ us2))
    (y : α) (f : List Nat) (hy : c.ow w base us y f) (hfd : f.Nodup) (hdis : ∀ b ∈ f, b ∉ fp) (y2 : α) (f2 : List Nat) (hy2 : c.ow w base us2 y2 f2) (hfd2 : f2.Nodup) (hdis2 : ∀ b ∈ f2, b ∉ fp) (h12 : ∀ b ∈ f, b ∉ f2) (hlen : l.length + 2 ≤ 1000000000) (hbase : base ≤ w.heap.size)
    (h : ∀ g cap w' fp', (sl e c).ow w' base [.slice (some ⟨g, 0, none⟩) (l.length + 2) cap] (l ++ [y, y2]) fp' → fp'.Nodup → (∀ b ∈ fp', b ∈ fp ∨ b ∈ f ∨ b ∈ f2 ∨ w.heap.size ≤ b) → Touch fp w w' →
      K (a.put o.dst (.slice (some ⟨g, 0, none⟩) (l.length + 2) cap)) w') : o.wp P a w K Q := by
  obtain ⟨i0, hi, hz0, hz1, hz2⟩ := info_parts hinfo
  have hlt : ∀ b ∈ fp, b < w.heap.size := fun b hb => ((sl e c).ow_lt how b hb).2
  obtain ⟨v', xss, fps, e1, hown, hE, hfp⟩ := how
  injection e1 with e1 _
  subst e1
  have hul : us.length = size := (c.len (c.ow_rd hy)).trans hn
  have hul2 : us2.length = size := (c.len (c.ow_rd hy2)).trans hn
  have hpos : 0 < size := by rw [← hn]; exact c.pos
  rw [hn] at hown
  refine wp_append_lies w s x t ho base e i0 z size bytes ht hi hz0 hz1 hz2 hzs hpos v l.length xss.flatten hs hown ⟨b, 0, none⟩ 2 2 (us ++ us2) hx (by rw [List.length_append]; omega) ?_ (fun u' hu' => ?_) (by decide) (by unfold maxLen; omega) ?_ hbase w.heap.size rfl ?_
  · intro j u' hj
    obtain ⟨hj1, hj2⟩ := List.getElem?_eq_some_iff.1 hj
    have ha : (⟨b, 0, none⟩ : Addr).add j = ⟨b, 0 + j, none⟩ := by unfold Addr.add; split <;> simp_all
    rw [ha, hu j hj1, hj2]
  · rcases List.mem_append.1 hu' with q | q
    · exact c.one (c.ow_rd hy) u' q
    · exact c.one (c.ow_rd hy2) u' q
  · calc (l.length + 2) * bytes ≤ 1000000000 * 10000 := Nat.mul_le_mul hlen hby
      _ ≤ 140737488355328 := by decide
  · intro g cap w' h2 h3 h4 h5
    have h2' : w'.ownsRow base e c.n (.slice (some ⟨g, 0, none⟩) (l.length + 2) cap) (l.length + 2) (xss.flatten ++ (us ++ us2)) := by rw [hn]; exact h2
    obtain ⟨fp', k1, k2, k3, k4⟩ := ow_appendedN2 hE hfp hd hlt hy hfd hdis hy2 hfd2 hdis2 h12 h2' h3 h4
    exact h g cap w' fp' k1 k2 k3 k4
theorem wpList_appendN2 {P : Program} {c : Cd α} {ops : Array Oper} {rest : List Oper} {o : Oper} {a : Act} {Q : Exit → Act → World → Prop} {w : World} (hgd : o.guard = none) (s x : Operand) (t : TypeId)
    (ho : o.op = .call { callee := .builtin .append, args := #[s, x], argTypes := #[t, t] })
    (base : Nat) (e : TypeId) (z : Value) (size bytes : Nat) (hn : c.n = size) (ht : P.underlying t = some (.slice e)) (hinfo : (P.info? e).map (fun i => (i.zero, i.size, i.bytes)) = some (some z, size, bytes)) (hzs : z.cells.size = size) (hby : bytes ≤ 10000)
    (v : Value) (l : List α) (fp : List Nat) (hs : a.eval s = v) (how : (sl e c).ow w base [v] l fp) (hd : fp.Nodup) (b : Nat) (us us2 : List Value) (hx : a.eval x = .slice (some ⟨b, 0, none⟩) 2 2) (hu : At w b 0 (us ++ us2))
    (y : α) (f : List Nat) (hy : c.ow w base us y f) (hfd : f.Nodup) (hdis : ∀ b ∈ f, b ∉ fp) (y2 : α) (f2 : List Nat) (hy2 : c.ow w base us2 y2 f2) (hfd2 : f2.Nodup) (hdis2 : ∀ b ∈ f2, b ∉ fp) (h12 : ∀ b ∈ f, b ∉ f2) (hlen : l.length + 2 ≤ 1000000000) (hbase : base ≤ w.heap.size)
    (h : ∀ g cap w' fp', (sl e c).ow w' base [.slice (some ⟨g, 0, none⟩) (l.length + 2) cap] (l ++ [y, y2]) fp' → fp'.Nodup → (∀ b ∈ fp', b ∈ fp ∨ b ∈ f ∨ b ∈ f2 ∨ w.heap.size ≤ b) → Touch fp w w' →
      wpList P ops Q rest (a.put o.dst (.slice (some ⟨g, 0, none⟩) (l.length + 2) cap)) w') : wpList P ops Q (o :: rest) a w :=
  wpList_plain hgd fun _ hK => wp_appendN2 s x t ho base e z size bytes hn ht hinfo hzs hby v l fp hs how hd b us us2 hx hu y f hy hfd hdis y2 f2 hy2 hfd2 hdis2 h12 hlen hbase fun g cap w' fp' h1 h2 h3 h4 => hK _ _ (h g cap w' fp' h1 h2 h3 h4)

/-- A slice from place j on. -/
theorem rd_drop {e : TypeId} {c : Cd α} {w : World} {S : Nat → Prop} {b off n cap cap' : Nat} {l : List α} (h : (sl e c).rd w S [.slice (some ⟨b, off, none⟩) n cap] l) {j : Nat} (hj : j < l.length) :
    (sl e c).rd w S [.slice (some ⟨b, off + j * c.n, none⟩) (l.length - j) cap'] (l.drop j) := by
  obtain ⟨ad, cap2, e1, hl, h⟩ := h
  injection e1 with e1 _
  injection e1 with e1 e2 e3
  subst e1
  rcases h with rfl | ⟨b', off', e4, hS, hb, hc⟩
  · simp at hj
  · injection e4 with e4
    injection e4 with e4 e5 _
    subst e4 e5
    refine ⟨_, cap', by rw [List.length_drop], by rw [List.length_drop]; omega, .inr ⟨b, off + j * c.n, rfl, hS, hb, fun t ht => ?_⟩⟩
    rw [List.length_drop] at ht
    obtain ⟨xs, h1, h2⟩ := hc (j + t) (by omega)
    refine ⟨xs, ?_, by rw [List.getElem_drop]; exact h2⟩
    have e6 : off + j * c.n + t * c.n = off + (j + t) * c.n := by rw [Nat.add_mul]; omega
    rw [e6]
    exact h1
end Cd
end Go.Proofs.YtmifnbplkaonaaaGreat.Cd
