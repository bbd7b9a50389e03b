/- What an argument reads as, by its type: over any program. -/
import Derived.Test.YthnphlgkkfdnlaaDoorCd
import Derived.Deep.Slices
import Derived.OpenShut
namespace Go.Proofs.YthnphlgkkfdnlaaDoor.Fits
open Go Go.RowKit Byt Ints Cd

variable {α β : Type}

/-- Whatever of type t came in reads as the codec says. -/
def Fits (P : Program) (c : Cd α) (t : TypeId) : Prop :=
  P.cellsOf t = c.n ∧ ∀ {H : Type} (enc : TypeId × Value → H) (w : World) (fuel : Nat) (cs : List Value) (d : DataW H) (ps : List MemPlace),
    DataW.trod enc P w 0 (fun _ => true) true fuel t cs = some (d, ps) → ∃ a, c.rd w (· < w.heap.size) cs a

theorem fits_int {P : Program} {t : TypeId} (ht : P.underlying t = some (.int .i64)) (hc : P.cellsOf t = 1) : Fits P Cd.int t := by
  refine ⟨hc, fun enc w fuel cs d ps h => ?_⟩
  cases fuel with
  | zero => simp [DataW.trod] at h
  | succ n =>
    rw [DataW.trod_step] at h
    unfold DataW.trodStep at h
    rw [ht] at h
    split at h <;> try (simp at *; done)
    rename_i k k' m hk
    split at h <;> try (simp at *; done)
    rename_i hq
    injection hk with hk
    injection hk with hk
    subst hk
    obtain ⟨rfl, hw⟩ := hq
    refine ⟨m, rfl, ?_⟩
    simp [Lit.wf, IntKind.min, IntKind.max, IntKind.signed, IntKind.bits] at hw
    exact hw

theorem fits_bool {P : Program} {t : TypeId} (ht : P.underlying t = some .bool) (hc : P.cellsOf t = 1) : Fits P Cd.bool t := by
  refine ⟨hc, fun enc w fuel cs d ps h => ?_⟩
  cases fuel with
  | zero => simp [DataW.trod] at h
  | succ n =>
    rw [DataW.trod_step] at h
    unfold DataW.trodStep at h
    rw [ht] at h
    split at h <;> try (simp at *; done)
    rename_i b _
    exact ⟨b, rfl, trivial⟩

theorem fits_str {P : Program} {t : TypeId} (ht : P.underlying t = some .string) (hc : P.cellsOf t = 1) : Fits P Cd.str t := by
  refine ⟨hc, fun enc w fuel cs d ps h => ?_⟩
  cases fuel with
  | zero => simp [DataW.trod] at h
  | succ n =>
    rw [DataW.trod_step] at h
    unfold DataW.trodStep at h
    rw [ht] at h
    split at h <;> try (simp at *; done)
    rename_i s _
    split at h <;> try (simp at *; done)
    rename_i hq
    exact ⟨s, rfl, hq⟩

theorem fits_sl {P : Program} {t e : TypeId} {c : Cd α} (ht : P.underlying t = some (.slice e)) (he : Fits P c e) (hc : P.cellsOf t = 1) : Fits P (Cd.sl e c) t := by
  refine ⟨hc, fun enc w fuel cs d ps h => ?_⟩
  obtain ⟨hn, he⟩ := he
  rcases Go.Deep.open_slice ht h with ⟨rfl, _⟩ | ⟨a, len, cap, m, n, D, Pl, rfl, hb, hl, hm, hmm, _, hx⟩
  · exact ⟨[], none, 0, rfl, by simp, .inl rfl⟩
  · rw [if_pos rfl] at hmm
    subst hmm
    rw [hn] at hx
    have hall : ∀ i, i < len → ∃ x : α, ∃ xs, (∀ j (hj : j < xs.length), w.cell? (a.add (i * c.n + j)) = some xs[j]) ∧ xs.length = c.n ∧ c.rd w (· < w.heap.size) xs x := by
      intro i hi
      obtain ⟨cs', h1, h2⟩ := hx i (by omega)
      obtain ⟨x, hrd⟩ := he enc w n cs' _ _ h2
      obtain ⟨_, hlen, hcell⟩ := World.cells?_some h1
      refine ⟨x, cs', fun j hj => ?_, hlen, hrd⟩
      have := hcell j (by omega)
      rw [Go.Deep.add_add] at this
      rw [this]
      exact List.getElem?_eq_getElem hj
    clear hx
    by_cases h0 : len = 0
    · subst h0
      exact ⟨[], some a, _, rfl, by simp, .inl rfl⟩
    obtain ⟨x0, xs0, hc0, hl0, _⟩ := hall 0 (by omega)
    have hcp := c.pos
    have hfirst := hc0 0 (by omega)
    have hz : a.add (0 * c.n + 0) = a := by simp [Addr.add]
    rw [hz] at hfirst
    have hspot : a.spot = none := World.cell?_spot hfirst
    have hblk : a.block < w.heap.size := World.block_lt_of_cell? w _ hfirst
    obtain ⟨b, off, sp⟩ := a
    simp only at hspot hblk
    subst hspot
    have hlist : ∀ k, k ≤ len → ∃ l : List α, l.length = k ∧ ∀ t, (h : t < l.length) → ∃ xs, Cd.At w b (off + t * c.n) xs ∧ c.rd w (· < w.heap.size) xs l[t] := by
      intro k
      induction k with
      | zero => exact fun _ => ⟨[], rfl, fun t h => by simp at h⟩
      | succ k ih =>
        intro hk
        obtain ⟨l, hl, hc⟩ := ih (by omega)
        obtain ⟨x, xs, h1, h2, h3⟩ := hall k (by omega)
        refine ⟨l ++ [x], by simp [hl], fun t ht => ?_⟩
        by_cases e : t < l.length
        · obtain ⟨ys, g1, g2⟩ := hc t e
          refine ⟨ys, g1, ?_⟩
          rw [List.getElem_append_left e]
          exact g2
        · have e2 : t = k := by rw [List.length_append] at ht; simp at ht; omega
          subst e2
          refine ⟨xs, fun j hj => ?_, ?_⟩
          · have := h1 j hj
            have ha : (⟨b, off, none⟩ : Addr).add (t * c.n + j) = ⟨b, off + t * c.n + j, none⟩ := by
              unfold Addr.add
              split
              · rename_i q
                rw [Nat.add_assoc, q]
                rfl
              · simp [Nat.add_assoc]
            rw [ha] at this
            exact this
          · rw [List.getElem_append_right (by omega)]
            simpa [hl] using h3
    obtain ⟨l, hl2, hc2⟩ := hlist len (Nat.le_refl _)
    refine ⟨l, _, m, by rw [hl2], by unfold maxLen at hm; omega, .inr ⟨b, off, rfl, hblk, hblk, hc2⟩⟩

/-- The fields fs, the first at offset o. -/
def FitsAt (P : Program) (c : Cd α) (fs : List Field) (o : Nat) : Prop :=
  ∀ {H : Type} (enc : TypeId × Value → H) (w : World) (fuel : Nat) (cs : List Value) (xs : List (DataW H × List MemPlace)),
    (fs.mapM fun f => DataW.trod enc P w 0 (fun _ => true) true fuel f.type ((cs.drop f.offset).take (P.cellsOf f.type))) = some xs → ∃ a, c.rd w (· < w.heap.size) ((cs.drop o).take c.n) a

theorem fits_one {P : Program} {f : Field} {o : Nat} {c : Cd α} (h : Fits P c f.type) (ho : f.offset = o) : FitsAt P c [f] o := by
  intro H enc w fuel cs xs hm
  simp only [List.mapM_cons, List.mapM_nil, Option.pure_def, Option.bind_eq_bind, Option.bind_eq_some_iff] at hm
  obtain ⟨y, hy, _⟩ := hm
  rw [ho, h.1] at hy
  exact h.2 enc w fuel _ y.1 y.2 hy

theorem fits_more {P : Program} {f g : Field} {fs : List Field} {o : Nat} {c : Cd α} {d : Cd β} (h : Fits P c f.type) (ho : f.offset = o) (hr : FitsAt P d (g :: fs) (o + c.n)) : FitsAt P (Cd.pair c d) (f :: g :: fs) o := by
  intro H enc w fuel cs xs hm
  rw [List.mapM_cons] at hm
  simp only [Option.pure_def, Option.bind_eq_bind, Option.bind_eq_some_iff] at hm
  obtain ⟨y, hy, ys, hys, _⟩ := hm
  rw [ho, h.1] at hy
  obtain ⟨a, ha⟩ := h.2 enc w fuel _ y.1 y.2 hy
  obtain ⟨b, hb⟩ := hr enc w fuel cs ys hys
  refine ⟨(a, b), _, _, ?_, ha, hb⟩
  show (cs.drop o).take (c.n + d.n) = _
  rw [List.take_add, List.drop_drop]

theorem fits_struct {P : Program} {t : TypeId} {fs : Array Field} {c : Cd α} (ht : P.underlying t = some (.struct fs)) (h : FitsAt P c fs.toList 0) (hc : P.cellsOf t = c.n) : Fits P c t := by
  refine ⟨hc, fun enc w fuel cs d ps hx => ?_⟩
  cases fuel with
  | zero => simp [DataW.trod] at hx
  | succ n =>
    rw [DataW.trod_step] at hx
    unfold DataW.trodStep at hx
    rw [ht] at hx
    split at hx <;> try (simp at *; done)
    rename_i fs' hfs
    injection hfs with hfs
    injection hfs with hfs
    subst hfs
    split at hx <;> try (simp at *; done)
    rename_i hlen
    obtain ⟨xs, hxs, _⟩ := Option.map_eq_some_iff.1 hx
    obtain ⟨a, ha⟩ := h enc w n _ xs hxs
    rw [List.drop_zero, List.take_of_length_le (by rw [hlen, hc]; exact Nat.le_refl _)] at ha
    exact ⟨a, ha⟩
end Go.Proofs.YthnphlgkkfdnlaaDoor.Fits
