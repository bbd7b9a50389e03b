/- Data in memory by its type: append(v, y...), both owned slices of one cell an element. -/
import Derived.Test.YtdkhgeknjekkoaaGreatCdN
namespace Go.Proofs.YtdkhgeknjekkoaaGreat.Cd
open Go Go.RowKit Byt Ints
namespace Cd
variable {α : Type}

theorem Each.append {c : Cd α} {w : World} {base : Nat} : ∀ {xss yss : List (List Value)} {l m : List α} {fps gps : List (List Nat)}, Each c w base xss l fps → Each c w base yss m gps → Each c w base (xss ++ yss) (l ++ m) (fps ++ gps)
  | [], _, [], _, [], _, _, k => k
  | _ :: xs, _, _ :: az, _, _ :: fs, _, h, k => ⟨h.1, Each.append (xss := xs) (l := az) (fps := fs) h.2 k⟩
theorem Each.ones {c : Cd α} {w : World} {base : Nat} : ∀ {xss : List (List Value)} {l : List α} {fps : List (List Nat)}, Each c w base xss l fps → ∀ u ∈ xss.flatten, u.oneCell' = true
  | [], [], [], _, u, hu => by simp at hu
  | x :: xs, _ :: az, _ :: fs, h, u, hu => by
    rw [List.flatten_cons] at hu
    rcases List.mem_append.1 hu with q | q
    · exact c.one (c.ow_rd h.1) u q
    · exact Each.ones (xss := xs) (l := az) (fps := fs) h.2 u q
theorem run_append_nil {P : Program} {w : World} (base : Nat) (t ty e : TypeId) (ht : P.underlying t = some (.slice e)) {z : Value} {bytes : Nat} (hinfo : (P.info? e).map (fun i => (i.zero, i.size, i.bytes)) = some (some z, 1, bytes))
    (v : Value) (n : Nat) (cells : List Value) (hown : w.ownsRow base e 1 v n cells) (ad : Option Addr) (cap : Nat) :
    (Builtin.append_ #[t, t] ty #[v, .slice ad 0 cap]).run P w = .ok v w := by
  obtain ⟨i0, hi, hz0, hz1, hz2⟩ := info_parts hinfo
  rcases hown.2 with ⟨rfl, h0⟩ | ⟨g, cap', cur, rfl, _, _, hnc, _⟩
  · cases ad with
    | none => simp [Builtin.append_, run_underlying ht, sizeOf, typeInfo, hi, Builtin.lenOf, Builtin.firstCells]
    | some ad => simp [Builtin.append_, run_underlying ht, sizeOf, typeInfo, hi, Builtin.lenOf, Builtin.firstCells, loadCells, loadCellsFrom]
  · cases ad with
    | none => simp [Builtin.append_, run_underlying ht, sizeOf, typeInfo, hi, Builtin.lenOf, Builtin.firstCells, hnc, storeCells]
    | some ad => simp [Builtin.append_, run_underlying ht, sizeOf, typeInfo, hi, Builtin.lenOf, Builtin.firstCells, hnc, storeCells, loadCells, loadCellsFrom]
theorem run_append_each {P : Program} {c : Cd α} (hn : c.n = 1) {w : World} (base : Nat) (t ty e : TypeId) (z : Value) (bytes : Nat) (ht : P.underlying t = some (.slice e)) (hinfo : (P.info? e).map (fun i => (i.zero, i.size, i.bytes)) = some (some z, 1, bytes)) (hzs : z.cells.size = 1) (hby : bytes ≤ 100)
    (v : Value) (l : List α) (fp : List Nat) (how : (sl e c).ow w base [v] l fp) (hd : fp.Nodup) (y : Value) (m : List α) (fq : List Nat) (hoy : (sl e c).ow w base [y] m fq) (hqd : fq.Nodup) (hdis : ∀ b ∈ fq, b ∉ fp)
    (hlen : l.length + m.length ≤ 1000000000000) (hbase : base ≤ w.heap.size) :
    ∃ v' w' fp', (Builtin.append_ #[t, t] ty #[v, y]).run P w = .ok v' w' ∧ (sl e c).ow w' base [v'] (l ++ m) fp' ∧ fp'.Nodup ∧ (∀ b ∈ fp', b ∈ fp ∨ b ∈ fq ∨ w.heap.size ≤ b) ∧ Touch fp w w' := by
  obtain ⟨i0, hi, hz0, hz1, hz2⟩ := info_parts hinfo
  have hlt : ∀ b ∈ fp, b < w.heap.size := fun b hb => ((sl e c).ow_lt how b hb).2
  have how0 := how
  obtain ⟨v0, xss, fps, e1, hown, hE, hfp⟩ := how
  injection e1 with e1 _
  subst e1
  obtain ⟨y0, yss, gps, e1, hown2, hE2, hfq⟩ := hoy
  injection e1 with e1 _
  subst e1
  rw [hn] at hown hown2
  by_cases h0 : m.length = 0
  · obtain rfl := List.eq_nil_of_length_eq_zero h0
    obtain ⟨ad, cap, rfl⟩ : ∃ ad cap, y = .slice ad 0 cap := by
      rcases hown2.2 with ⟨rfl, _⟩ | ⟨g, cap, cur, rfl, _⟩
      · exact ⟨_, _, rfl⟩
      · exact ⟨_, _, rfl⟩
    exact ⟨v, w, fp, run_append_nil base t ty e ht hinfo v _ _ hown ad cap, by rw [List.append_nil]; exact how0, hd, fun b hb => .inl hb, Touch.refl _ _⟩
  · rcases hown2.2 with ⟨_, h1⟩ | ⟨g2, cap2, cur2, rfl, _, hg2, _⟩
    · exact absurd h1 h0
    have hyl : yss.flatten.length = m.length := by rw [hE2.flatten_len, hn, Nat.mul_one]
    obtain ⟨v', w', hr, h2, h3, _, h5⟩ := run_append_own_at (P := P) w base t ty e i0 z 1 bytes ht hi hz0 hz1 hz2 hzs (by decide) v l.length xss.flatten hown ⟨g2, 0, none⟩ m.length cap2 yss.flatten (by rw [hyl, Nat.mul_one])
      (fun j u hj => by
        have hj' : j < m.length := by
          have := (List.getElem?_eq_some_iff.1 hj).1
          omega
        have ha : (⟨g2, 0, none⟩ : Addr).add j = ⟨g2, j, none⟩ := by unfold Addr.add; split <;> simp_all
        rw [ha, World.ownsRow.cellAt hown2 j (by omega), hj]) hE2.ones (by unfold maxLen; omega)
      (by
        calc (l.length + m.length) * bytes ≤ 1000000000000 * 100 := Nat.mul_le_mul hlen hby
          _ ≤ 140737488355328 := by decide) hbase
    subst hfp hfq
    have hd' := List.nodup_append.1 hd
    have hqd' := List.nodup_append.1 hqd
    have hkeep : ∀ b, b < w.heap.size → v.ownBlock ≠ some b → w'.heap[b]? = w.heap[b]? := fun b hb hne => h3.block b hb fun q => hne q.symm
    have hin : ∀ b ∈ fps.flatten, w'.heap[b]? = w.heap[b]? := fun b hb => hkeep b (hlt b (List.mem_append_right _ hb)) fun q => hd'.2.2 b (by rw [q]; simp) b hb rfl
    have hlt2 : ∀ b ∈ gps.flatten, b < w.heap.size := fun b hb => by
      obtain ⟨f, hf, hq⟩ := List.mem_flatten.1 hb
      obtain ⟨t', ht', rfl⟩ := List.getElem_of_mem hf
      have hl2 := hE2.len
      exact (c.ow_lt (hE2.get t' (by omega) (by omega) ht') b hq).2
    have hin2 : ∀ b ∈ gps.flatten, w'.heap[b]? = w.heap[b]? := fun b hb => hkeep b (hlt2 b hb) fun q => hdis b (List.mem_append_right _ hb) (List.mem_append_left _ (by rw [q]; simp))
    have hE3 : Each c w' base (xss ++ yss) (l ++ m) (fps ++ gps) :=
      (hE.imp fun x a g hg hq => c.ow_keep hq fun b hb => hin b (List.mem_flatten.2 ⟨g, hg, hb⟩)).append (hE2.imp fun x a g hg hq => c.ow_keep hq fun b hb => hin2 b (List.mem_flatten.2 ⟨g, hg, hb⟩))
    have hvn : ∀ b ∈ v'.ownBlock.toList, b ∉ (fps ++ gps).flatten := fun b hb q => by
      rw [List.flatten_append] at q
      rcases h5 with h5 | h5
      · rw [h5] at hb
        rcases List.mem_append.1 q with r | r
        · exact hd'.2.2 b hb b r rfl
        · exact hdis b (List.mem_append_right _ r) (List.mem_append_left _ hb)
      · rw [h5] at hb
        simp at hb
        rcases List.mem_append.1 q with r | r
        · have := hlt b (List.mem_append_right _ r)
          omega
        · have := hlt2 b r
          omega
    refine ⟨v', w', v'.ownBlock.toList ++ (fps ++ gps).flatten, hr, ⟨v', xss ++ yss, fps ++ gps, rfl, ?_, hE3, rfl⟩, ?_, ?_, ⟨h3.os, h3.tape, h3.output, h3.size, fun k hk hne => hkeep k hk fun q => hne (List.mem_append_left _ (by rw [q]; simp))⟩⟩
    · rw [hn, List.length_append, List.flatten_append]
      exact h2
    · refine List.nodup_append.2 ⟨own_nodup, ?_, fun a ha b hb q => hvn a ha (q ▸ hb)⟩
      rw [List.flatten_append]
      exact List.nodup_append.2 ⟨hd'.2.1, hqd'.2.1, fun a ha b hb q => hdis b (List.mem_append_right _ hb) (List.mem_append_right _ (q ▸ ha))⟩
    · intro b hb
      rcases List.mem_append.1 hb with q | q
      · rcases h5 with h5 | h5
        · rw [h5] at q
          exact .inl (List.mem_append_left _ q)
        · rw [h5] at q
          simp at q
          exact .inr (.inr (by omega))
      · rw [List.flatten_append] at q
        rcases List.mem_append.1 q with r | r
        · exact .inl (List.mem_append_right _ r)
        · exact .inr (.inl (List.mem_append_right _ r))
theorem wp_appendEach {P : Program} {c : Cd α} (hn : c.n = 1) {o : Oper} {a : Act} {K : Act → World → Prop} {Q : Exit → Act → World → Prop} {w : World} (s x : Operand) (t : TypeId)
    (ho : o.op = .call { callee := .builtin .append, args := #[s, x], argTypes := #[t, t] })
    (base : Nat) (e : TypeId) (z : Value) (bytes : Nat) (ht : P.underlying t = some (.slice e)) (hinfo : (P.info? e).map (fun i => (i.zero, i.size, i.bytes)) = some (some z, 1, bytes)) (hzs : z.cells.size = 1) (hby : bytes ≤ 100)
    (v : Value) (l : List α) (fp : List Nat) (hs : a.eval s = v) (how : (sl e c).ow w base [v] l fp) (hd : fp.Nodup) (y : Value) (m : List α) (fq : List Nat) (hx : a.eval x = y) (hoy : (sl e c).ow w base [y] m fq) (hqd : fq.Nodup) (hdis : ∀ b ∈ fq, b ∉ fp)
    (hlen : l.length + m.length ≤ 1000000000000) (hbase : base ≤ w.heap.size)
    (h : ∀ v' w' fp', (sl e c).ow w' base [v'] (l ++ m) fp' → fp'.Nodup → (∀ b ∈ fp', b ∈ fp ∨ b ∈ fq ∨ w.heap.size ≤ b) → Touch fp w w' → K (a.put o.dst v') w') : o.wp P a w K Q := by
  obtain ⟨v', w', fp', hr, h2, h3, h4, h5⟩ := run_append_each (P := P) hn base t o.type e z bytes ht hinfo hzs hby v l fp how hd y m fq hoy hqd hdis hlen hbase
  have hq := h v' w' fp' h2 h3 h4 h5
  unfold Oper.wp execOp
  simp only [ho, resolve, invoke, builtin, Sem.run_bind, Sem.run_pure, Result.andThen_ok, List.map_toArray, List.map_cons, List.map_nil, hs, hx, hr]
  exact hq
theorem wpList_appendEach {P : Program} {c : Cd α} (hn : c.n = 1) {ops : Array Oper} {rest : List Oper} {o : Oper} {a : Act} {Q : Exit → Act → World → Prop} {w : World} (hgd : o.guard = none) (s x : Operand) (t : TypeId)
    (ho : o.op = .call { callee := .builtin .append, args := #[s, x], argTypes := #[t, t] })
    (base : Nat) (e : TypeId) (z : Value) (bytes : Nat) (ht : P.underlying t = some (.slice e)) (hinfo : (P.info? e).map (fun i => (i.zero, i.size, i.bytes)) = some (some z, 1, bytes)) (hzs : z.cells.size = 1) (hby : bytes ≤ 100)
    (v : Value) (l : List α) (fp : List Nat) (hs : a.eval s = v) (how : (sl e c).ow w base [v] l fp) (hd : fp.Nodup) (y : Value) (m : List α) (fq : List Nat) (hx : a.eval x = y) (hoy : (sl e c).ow w base [y] m fq) (hqd : fq.Nodup) (hdis : ∀ b ∈ fq, b ∉ fp)
    (hlen : l.length + m.length ≤ 1000000000000) (hbase : base ≤ w.heap.size)
    (h : ∀ v' w' fp', (sl e c).ow w' base [v'] (l ++ m) fp' → fp'.Nodup → (∀ b ∈ fp', b ∈ fp ∨ b ∈ fq ∨ w.heap.size ≤ b) → Touch fp w w' → wpList P ops Q rest (a.put o.dst v') w') : wpList P ops Q (o :: rest) a w :=
  wpList_plain hgd fun _ hK => wp_appendEach hn s x t ho base e z bytes ht hinfo hzs hby v l fp hs how hd y m fq hx hoy hqd hdis hlen hbase fun v' w' fp' h1 h2 h3 h4 => hK _ _ (h v' w' fp' h1 h2 h3 h4)
end Cd
end Go.Proofs.YtdkhgeknjekkoaaGreat.Cd
