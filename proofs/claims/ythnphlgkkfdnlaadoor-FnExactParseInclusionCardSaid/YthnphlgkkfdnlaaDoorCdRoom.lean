/- An append where there is room: the block and the capacity stay. Over any program. -/
import Derived.Test.YthnphlgkkfdnlaaDoorCd
namespace Go.Proofs.YthnphlgkkfdnlaaDoor.Cd
open Go Go.RowKit Byt Ints
namespace Cd
variable {α β : Type}

theorem wp_appendR {P : Program} {c : Cd α} (hn : c.n = 1) {o : Oper} {a : Act} {K : Act → World → Prop} {Q : Exit → Act → World → Prop} {w : World} (s x : Operand) (t : TypeId)
    (ho : o.op = .call { callee := .builtin .append, args := #[s, x], argTypes := #[t, t] })
    (base : Nat) (e : TypeId) (z : Value) (bytes : Nat) (ht : P.underlying t = some (.slice e)) (hinfo : (P.info? e).map (fun i => (i.zero, i.size, i.bytes)) = some (some z, 1, bytes)) (hzs : z.cells.size = 1) (hby : bytes ≤ 100)
    (g cap n : Nat) (l : List α) (fp : List Nat) (hs : a.eval s = .slice (some ⟨g, 0, none⟩) n cap) (hnl : n = l.length) (how : (sl e c).ow w base [.slice (some ⟨g, 0, none⟩) n cap] l fp) (hd : fp.Nodup) (hroom : n + 1 ≤ cap) (b : Nat) (u : Value) (hx : a.eval x = .slice (some ⟨b, 0, none⟩) 1 1) (hu : w.cell? ⟨b, 0, none⟩ = some u)
    (y : α) (f : List Nat) (hy : c.ow w base [u] y f) (hfd : f.Nodup) (hdis : ∀ b ∈ f, b ∉ fp) (hlen : n + 1 ≤ 1000000000000) (hbase : base ≤ w.heap.size)
    (h : ∀ w' fp', (sl e c).ow w' base [.slice (some ⟨g, 0, none⟩) (n + 1) cap] (l ++ [y]) fp' → fp'.Nodup → (∀ b ∈ fp', b ∈ fp ∨ b ∈ f ∨ w.heap.size ≤ b) → Touch fp w w' →
      K (a.put o.dst (.slice (some ⟨g, 0, none⟩) (n + 1) cap)) w') : o.wp P a w K Q := by
  subst hnl
  obtain ⟨i0, hi, hz0, hz1, hz2⟩ := info_parts hinfo
  have hlt : ∀ b ∈ fp, b < w.heap.size := fun b hb => ((sl e c).ow_lt how b hb).2
  obtain ⟨v', xss, fps, e1, hown, hE, hfp⟩ := how
  injection e1 with e1 _
  subst e1
  have hown0 := hown
  rw [hn] at hown
  have hnews : ∀ j u', [u][j]? = some u' → w.cell? ((⟨b, 0, none⟩ : Addr).add j) = some u' := by
    intro j u' hj
    match j, hj with
    | 0, hj =>
      have e1 : (⟨b, 0, none⟩ : Addr).add 0 = ⟨b, 0, none⟩ := by simp [Addr.add]
      rw [e1, hu]
      simpa using hj
  have hone : ∀ u' ∈ [u], u'.oneCell' = true := fun u' hu' => by
    rw [List.mem_singleton.1 hu']
    exact c.one (c.ow_rd hy) u (List.mem_singleton.2 rfl)
  have hbb : (l.length + 1) * bytes ≤ 140737488355328 := by
    calc (l.length + 1) * bytes ≤ 1000000000000 * 100 := Nat.mul_le_mul hlen hby
      _ ≤ 140737488355328 := by decide
  obtain ⟨v2, w2, hr, h2, h3, _, h5⟩ := run_append_own_at (P := P) w base t o.type e i0 z 1 bytes ht hi hz0 hz1 hz2 hzs (by decide) _ l.length xss.flatten hown ⟨b, 0, none⟩ 1 1 [u] rfl hnews hone (by unfold maxLen; omega) hbb hbase
  obtain ⟨cur, hg, hcs, hcapm⟩ : ∃ cur : Array Value, w.heap[g]? = some (.cells cur e (0, 0)) ∧ cur.size = cap ∧ cap ≤ maxLen := by
    rcases hown.2 with ⟨e1, _⟩ | ⟨g', cap', cur, e1, _, hg, _, hcm, hcs, _⟩
    · cases e1
    · simp only [Value.slice.injEq, Option.some.injEq, Addr.mk.injEq, and_true, true_and] at e1
      obtain ⟨rfl, rfl⟩ := e1
      exact ⟨cur, hg, by omega, hcm⟩
  have hr2 := run_append_room (P := P) w t o.type e i0 ht hi g l.length cap cur hg ⟨b, 0, none⟩ 1 1 [u] (by rw [hz1]; rfl) hnews hone hroom (by rw [hz1, hcs]; simp; omega)
  have hv2 : v2 = .slice (some ⟨g, 0, none⟩) (l.length + 1) cap := by
    rw [hr] at hr2
    injection hr2
  subst hv2
  have h2' : w2.ownsRow base e c.n (.slice (some ⟨g, 0, none⟩) (l.length + 1) cap) (l.length + 1) (xss.flatten ++ [u]) := by rw [hn]; exact h2
  obtain ⟨fp', k1, k2, k3, k4⟩ := ow_appended hE hfp hd hlt hy hfd hdis h2' h3 (.inl rfl)
  unfold Oper.wp execOp
  simp only [ho, resolve, invoke, builtin, Sem.run_bind, Sem.run_pure, Result.andThen_ok, List.map_toArray, List.map_cons, List.map_nil, hs, hx, hr]
  exact h w2 fp' k1 k2 k3 k4
theorem wpList_appendR {P : Program} {c : Cd α} (hn : c.n = 1) {ops : Array Oper} {rest : List Oper} {o : Oper} {a : Act} {Q : Exit → Act → World → Prop} {w : World} (hgd : o.guard = none) (s x : Operand) (t : TypeId)
    (ho : o.op = .call { callee := .builtin .append, args := #[s, x], argTypes := #[t, t] })
    (base : Nat) (e : TypeId) (z : Value) (bytes : Nat) (ht : P.underlying t = some (.slice e)) (hinfo : (P.info? e).map (fun i => (i.zero, i.size, i.bytes)) = some (some z, 1, bytes)) (hzs : z.cells.size = 1) (hby : bytes ≤ 100)
    (g cap n : Nat) (l : List α) (fp : List Nat) (hs : a.eval s = .slice (some ⟨g, 0, none⟩) n cap) (hnl : n = l.length) (how : (sl e c).ow w base [.slice (some ⟨g, 0, none⟩) n cap] l fp) (hd : fp.Nodup) (hroom : n + 1 ≤ cap) (b : Nat) (u : Value) (hx : a.eval x = .slice (some ⟨b, 0, none⟩) 1 1) (hu : w.cell? ⟨b, 0, none⟩ = some u)
    (y : α) (f : List Nat) (hy : c.ow w base [u] y f) (hfd : f.Nodup) (hdis : ∀ b ∈ f, b ∉ fp) (hlen : n + 1 ≤ 1000000000000) (hbase : base ≤ w.heap.size)
    (h : ∀ w' fp', (sl e c).ow w' base [.slice (some ⟨g, 0, none⟩) (n + 1) cap] (l ++ [y]) fp' → fp'.Nodup → (∀ b ∈ fp', b ∈ fp ∨ b ∈ f ∨ w.heap.size ≤ b) → Touch fp w w' →
      wpList P ops Q rest (a.put o.dst (.slice (some ⟨g, 0, none⟩) (n + 1) cap)) w') : wpList P ops Q (o :: rest) a w :=
  wpList_plain hgd fun _ hK => wp_appendR hn s x t ho base e z bytes ht hinfo hzs hby g cap n l fp hs hnl how hd hroom b u hx hu y f hy hfd hdis hlen hbase fun w' fp' h1 h2 h3 h4 => hK _ _ (h w' fp' h1 h2 h3 h4)
end Cd
end Go.Proofs.YthnphlgkkfdnlaaDoor.Cd
