/- Texts that the proof rests on, one behind the other. -/
import Derived.Test.YtinchhahcheadaaGreatCdN
import Derived.Test.YtinchhahcheadaaGreatMg2Updates
import Derived.Test.YtinchhahcheadaaGreatUpd
import Derived.Test.YtinchhahcheadaaGreatMg1Updates
import Derived.Deep.DeepCutAuto

namespace Go.Proofs.YtinchhahcheadaaGreat.Cd
open Go Go.RowKit
namespace Cd
variable {α : Type}

/-- What an append of two elements of several cells leaves. -/
theorem ow_appendedN2 {e : TypeId} {c : Cd α} {w w' : World} {base g cap : Nat} {v : Value} {us us2 : List Value} {l : List α} {y y2 : α} {fp f f2 : List Nat} {xss : List (List Value)} {fps : List (List Nat)}
    (hE : Each c w base xss l fps) (hfp : fp = v.ownBlock.toList ++ fps.flatten) (hd : fp.Nodup) (hlt : ∀ b ∈ fp, b < w.heap.size) (hy : c.ow w base us y f) (hfd : f.Nodup) (hdis : ∀ b ∈ f, b ∉ fp)
    (hy2 : c.ow w base us2 y2 f2) (hfd2 : f2.Nodup) (hdis2 : ∀ b ∈ f2, b ∉ fp) (h12 : ∀ b ∈ f, b ∉ f2)
    (h2 : w'.ownsRow base e c.n (.slice (some ⟨g, 0, none⟩) (l.length + 2) cap) (l.length + 2) (xss.flatten ++ (us ++ us2))) (h3 : w.grownBy w' v.ownBlock) (h4 : v.ownBlock = some g ∨ g = w.heap.size) :
    ∃ fp', (sl e c).ow w' base [.slice (some ⟨g, 0, none⟩) (l.length + 2) cap] (l ++ [y, y2]) fp' ∧ fp'.Nodup ∧ (∀ b ∈ fp', b ∈ fp ∨ b ∈ f ∨ b ∈ f2 ∨ w.heap.size ≤ b) ∧ Touch fp w w' := by
  subst hfp
  have hd' := List.nodup_append.1 hd
  have hkeep : ∀ b, b < w.heap.size → v.ownBlock ≠ some b → w'.heap[b]? = w.heap[b]? := fun b hb hne => h3.block b hb fun q => hne q.symm
  have hin : ∀ b ∈ fps.flatten, w'.heap[b]? = w.heap[b]? := fun b hb => hkeep b (hlt b (List.mem_append_right _ hb)) fun q => hd'.2.2 b (by rw [q]; simp) b hb rfl
  have hf : ∀ b ∈ f, w'.heap[b]? = w.heap[b]? := fun b hb => hkeep b (c.ow_lt hy b hb).2 fun q => hdis b hb (List.mem_append_left _ (by rw [q]; simp))
  have hf2 : ∀ b ∈ f2, w'.heap[b]? = w.heap[b]? := fun b hb => hkeep b (c.ow_lt hy2 b hb).2 fun q => hdis2 b hb (List.mem_append_left _ (by rw [q]; simp))
  have hE2 : Each c w' base ((xss ++ [us]) ++ [us2]) ((l ++ [y]) ++ [y2]) ((fps ++ [f]) ++ [f2]) := ((hE.imp fun x a g hg hq => c.ow_keep hq fun b hb => hin b (List.mem_flatten.2 ⟨g, hg, hb⟩)).snoc (c.ow_keep hy hf)).snoc (c.ow_keep hy2 hf2)
  have el : l ++ [y, y2] = (l ++ [y]) ++ [y2] := by simp
  have hlen : ((l ++ [y]) ++ [y2]).length = l.length + 2 := by simp
  have hgn : ∀ b ∈ fps.flatten ++ (f ++ f2), b ≠ g := fun b hb q => by
    subst q
    rcases h4 with q | q
    · rcases List.mem_append.1 hb with r | r
      · exact hd'.2.2 b (by rw [q]; simp) b r rfl
      · rcases List.mem_append.1 r with r | r
        · exact hdis b r (List.mem_append_left _ (by rw [q]; simp))
        · exact hdis2 b r (List.mem_append_left _ (by rw [q]; simp))
    · rcases List.mem_append.1 hb with r | r
      · have := hlt b (List.mem_append_right _ r)
        omega
      · rcases List.mem_append.1 r with r | r
        · have := (c.ow_lt hy b r).2
          omega
        · have := (c.ow_lt hy2 b r).2
          omega
  have efl : ((fps ++ [f]) ++ [f2]).flatten = fps.flatten ++ (f ++ f2) := by simp
  rw [el]
  refine ⟨_, ⟨_, _, _, rfl, ?_, hE2, rfl⟩, ?_, ?_, ⟨h3.os, h3.tape, h3.output, h3.size, fun k hk hne => hkeep k hk fun q => hne (List.mem_append_left _ (by rw [q]; simp))⟩⟩
  · rw [hlen, List.flatten_append, List.flatten_append]
    simpa using h2
  · rw [efl]
    simp only [Value.ownBlock, Option.toList_some, List.cons_append, List.nil_append, List.nodup_cons]
    refine ⟨fun q => hgn g q rfl, List.nodup_append.2 ⟨hd'.2.1, List.nodup_append.2 ⟨hfd, hfd2, fun a ha b hb q => h12 a ha (q ▸ hb)⟩, fun a ha b hb q => ?_⟩⟩
    subst q
    rcases List.mem_append.1 hb with r | r
    · exact hdis a r (List.mem_append_right _ ha)
    · exact hdis2 a r (List.mem_append_right _ ha)
  · intro b hb
    rw [efl] at hb
    simp only [Value.ownBlock, Option.toList_some, List.cons_append, List.nil_append] at hb
    rcases List.mem_cons.1 hb with rfl | q
    · rcases h4 with q | q
      · exact .inl (List.mem_append_left _ (by rw [q]; simp))
      · exact .inr (.inr (.inr (by omega)))
    · rcases List.mem_append.1 q with r | r
      · exact .inl (List.mem_append_right _ r)
      · rcases List.mem_append.1 r with r | r
        · exact .inr (.inl r)
        · exact .inr (.inr (.inl r))
/-- append(v, y, y2), elements of several cells that the call owns. -/
theorem wp_appendN2 {P : Program} {c : Cd α} {o : Oper} {a : Act} {K : Act → World → Prop} {Q : Exit → Act → World → Prop} {w : World} (s x : Operand) (t : TypeId)
    (ho : o.op = .call { callee := .builtin .append, args := #[s, x], argTypes := #[t, t] })
    (base : Nat) (e : TypeId) (z : Value) (size bytes : Nat) (hn : c.n = size) (ht : P.underlying t = some (.slice e)) (hinfo : (P.info? e).map (fun i => (i.zero, i.size, i.bytes)) = some (some z, size, bytes)) (hzs : z.cells.size = size) (hby : bytes ≤ 10000)
    (v : Value) (l : List α) (fp : List Nat) (hs : a.eval s = v) (how : (sl e c).ow w base [v] l fp) (hd : fp.Nodup) (b : Nat) (us us2 : List Value) (hx : a.eval x = .slice (some ⟨b, 0, none⟩) 2 2) (hu : At w b 0 (us ++ us2))
    (y : α) (f : List Nat) (hy : c.ow w base us y f) (hfd : f.Nodup) (hdis : ∀ b ∈ f, b ∉ fp) (y2 : α) (f2 : List Nat) (hy2 : c.ow w base us2 y2 f2) (hfd2 : f2.Nodup) (hdis2 : ∀ b ∈ f2, b ∉ fp) (h12 : ∀ b ∈ f, b ∉ f2) (hlen : l.length + 2 ≤ 1000000000) (hbase : base ≤ w.heap.size)
    (h : ∀ g cap w' fp', (sl e c).ow w' base [.slice (some ⟨g, 0, none⟩) (l.length + 2) cap] (l ++ [y, y2]) fp' → fp'.Nodup → (∀ b ∈ fp', b ∈ fp ∨ b ∈ f ∨ b ∈ f2 ∨ w.heap.size ≤ b) → Touch fp w w' →
      K (a.put o.dst (.slice (some ⟨g, 0, none⟩) (l.length + 2) cap)) w') : o.wp P a w K Q := by
  obtain ⟨i0, hi, hz0, hz1, hz2⟩ := info_parts hinfo
  have hlt : ∀ b ∈ fp, b < w.heap.size := fun b hb => ((sl e c).ow_lt how b hb).2
  obtain ⟨v', xss, fps, e1, hown, hE, hfp⟩ := how
  injection e1 with e1 _
  subst e1
  have hul : us.length = size := (c.len (c.ow_rd hy)).trans hn
  have hul2 : us2.length = size := (c.len (c.ow_rd hy2)).trans hn
  have hpos : 0 < size := by rw [← hn]; exact c.pos
  rw [hn] at hown
  refine wp_append_lies w s x t ho base e i0 z size bytes ht hi hz0 hz1 hz2 hzs hpos v l.length xss.flatten hs hown ⟨b, 0, none⟩ 2 2 (us ++ us2) hx (by rw [List.length_append]; omega) ?_ (fun u' hu' => ?_) (by decide) (by unfold maxLen; omega) ?_ hbase w.heap.size rfl ?_
  · intro j u' hj
    obtain ⟨hj1, hj2⟩ := List.getElem?_eq_some_iff.1 hj
    have ha : (⟨b, 0, none⟩ : Addr).add j = ⟨b, 0 + j, none⟩ := by unfold Addr.add; split <;> simp_all
    rw [ha, hu j hj1, hj2]
  · rcases List.mem_append.1 hu' with q | q
    · exact c.one (c.ow_rd hy) u' q
    · exact c.one (c.ow_rd hy2) u' q
  · calc (l.length + 2) * bytes ≤ 1000000000 * 10000 := Nat.mul_le_mul hlen hby
      _ ≤ 140737488355328 := by decide
  · intro g cap w' h2 h3 h4 h5
    have h2' : w'.ownsRow base e c.n (.slice (some ⟨g, 0, none⟩) (l.length + 2) cap) (l.length + 2) (xss.flatten ++ (us ++ us2)) := by rw [hn]; exact h2
    obtain ⟨fp', k1, k2, k3, k4⟩ := ow_appendedN2 hE hfp hd hlt hy hfd hdis hy2 hfd2 hdis2 h12 h2' h3 h4
    exact h g cap w' fp' k1 k2 k3 k4
theorem wpList_appendN2 {P : Program} {c : Cd α} {ops : Array Oper} {rest : List Oper} {o : Oper} {a : Act} {Q : Exit → Act → World → Prop} {w : World} (hgd : o.guard = none) (s x : Operand) (t : TypeId)
    (ho : o.op = .call { callee := .builtin .append, args := #[s, x], argTypes := #[t, t] })
    (base : Nat) (e : TypeId) (z : Value) (size bytes : Nat) (hn : c.n = size) (ht : P.underlying t = some (.slice e)) (hinfo : (P.info? e).map (fun i => (i.zero, i.size, i.bytes)) = some (some z, size, bytes)) (hzs : z.cells.size = size) (hby : bytes ≤ 10000)
    (v : Value) (l : List α) (fp : List Nat) (hs : a.eval s = v) (how : (sl e c).ow w base [v] l fp) (hd : fp.Nodup) (b : Nat) (us us2 : List Value) (hx : a.eval x = .slice (some ⟨b, 0, none⟩) 2 2) (hu : At w b 0 (us ++ us2))
    (y : α) (f : List Nat) (hy : c.ow w base us y f) (hfd : f.Nodup) (hdis : ∀ b ∈ f, b ∉ fp) (y2 : α) (f2 : List Nat) (hy2 : c.ow w base us2 y2 f2) (hfd2 : f2.Nodup) (hdis2 : ∀ b ∈ f2, b ∉ fp) (h12 : ∀ b ∈ f, b ∉ f2) (hlen : l.length + 2 ≤ 1000000000) (hbase : base ≤ w.heap.size)
    (h : ∀ g cap w' fp', (sl e c).ow w' base [.slice (some ⟨g, 0, none⟩) (l.length + 2) cap] (l ++ [y, y2]) fp' → fp'.Nodup → (∀ b ∈ fp', b ∈ fp ∨ b ∈ f ∨ b ∈ f2 ∨ w.heap.size ≤ b) → Touch fp w w' →
      wpList P ops Q rest (a.put o.dst (.slice (some ⟨g, 0, none⟩) (l.length + 2) cap)) w') : wpList P ops Q (o :: rest) a w :=
  wpList_plain hgd fun _ hK => wp_appendN2 s x t ho base e z size bytes hn ht hinfo hzs hby v l fp hs how hd b us us2 hx hu y f hy hfd hdis y2 f2 hy2 hfd2 hdis2 h12 hlen hbase fun g cap w' fp' h1 h2 h3 h4 => hK _ _ (h g cap w' fp' h1 h2 h3 h4)

/-- A slice from place j on. -/
theorem rd_drop {e : TypeId} {c : Cd α} {w : World} {S : Nat → Prop} {b off n cap cap' : Nat} {l : List α} (h : (sl e c).rd w S [.slice (some ⟨b, off, none⟩) n cap] l) {j : Nat} (hj : j < l.length) :
    (sl e c).rd w S [.slice (some ⟨b, off + j * c.n, none⟩) (l.length - j) cap'] (l.drop j) := by
  obtain ⟨ad, cap2, e1, hl, h⟩ := h
  injection e1 with e1 _
  injection e1 with e1 e2 e3
  subst e1
  rcases h with rfl | ⟨b', off', e4, hS, hb, hc⟩
  · simp at hj
  · injection e4 with e4
    injection e4 with e4 e5 _
    subst e4 e5
    refine ⟨_, cap', by rw [List.length_drop], by rw [List.length_drop]; omega, .inr ⟨b, off + j * c.n, rfl, hS, hb, fun t ht => ?_⟩⟩
    rw [List.length_drop] at ht
    obtain ⟨xs, h1, h2⟩ := hc (j + t) (by omega)
    refine ⟨xs, ?_, by rw [List.getElem_drop]; exact h2⟩
    have e6 : off + j * c.n + t * c.n = off + (j + t) * c.n := by rw [Nat.add_mul]; omega
    rw [e6]
    exact h1
end Cd
end Go.Proofs.YtinchhahcheadaaGreat.Cd

namespace Go.Proofs.YtinchhahcheadaaGreat.DbDraw
open Go Go.RowKit Byt Ints IntsLaw IntsWalk Draw LocDraw Cd Rows2 Tab TabDraw SlMath TabOpen TabElem SlTable Db TabSpec DbMath DbSpec DbExact DbAcc

/-- What reads new blocks alone is read later too. -/
theorem rd_grown {α : Type} {cd : Cd α} {w w' : World} {base c : Nat} {us : List Value} {a : α} (h : cd.rd w (fun b => base ≤ b ∧ b < w.heap.size) us a) (hg : w.grownBy w' (some c)) (hc : c < base) : cd.rd w' (fun b => base ≤ b ∧ b < w'.heap.size) us a :=
  cd.mono (cd.keep h fun b hb hlt => hg.block b hlt (by intro q; injection q with q; omega)) fun _ _ hb => ⟨hb.1, Nat.lt_of_lt_of_le hb.2 hg.size⟩
theorem rd_new {α : Type} {cd : Cd α} {w : World} {base base' : Nat} {us : List Value} {a : α} {fp : List Nat} (h : cd.ow w base us a fp) (hb : base' ≤ base) : cd.rd w (fun b => base' ≤ b ∧ b < w.heap.size) us a :=
  cd.mono (cd.ow_rd h) fun _ _ hq => ⟨Nat.le_trans hb (cd.ow_lt h _ hq).1, (cd.ow_lt h _ hq).2⟩
theorem rd_base {α : Type} {cd : Cd α} {w : World} {base base' : Nat} {us : List Value} {a : α} (h : cd.rd w (fun b => base ≤ b ∧ b < w.heap.size) us a) (hb : base' ≤ base) : cd.rd w (fun b => base' ≤ b ∧ b < w.heap.size) us a :=
  cd.mono h fun _ _ hq => ⟨Nat.le_trans hb hq.1, hq.2⟩
/-- A store outside. -/
theorem rd_set {α : Type} {cd : Cd α} {w : World} {S : Nat → Prop} {us : List Value} {a : α} (h : cd.rd w S us a) {p : Addr} (hp : ¬ S p.block) (v : Value) : cd.rd (w.setCell p v) S us a :=
  cd.keep h fun _ hb _ => Below.heap_setCell w p v _ fun q => hp (q ▸ hb)

/-- A drawn database that may be none. -/
def AnyDb (w : World) (c : Nat) (v : Value) (l : List UInt8) (e : Ending) (w' : World) : Prop :=
  ∃ (u : Value) (Ts : List T3), e = .returned (.agg #[u]) ∧ tabsC.rd w' (fun b => w.heap.size < b ∧ b < w'.heap.size) [u] Ts ∧ Ts.length ≤ 7 ∧ (∀ T ∈ Ts, OkD T) ∧ Cur w' c v l ∧ w.grownBy w' (some c)
/-- In the drawing: the result's cell, the local one in block X, the cursor. -/
structure DaS (w : World) (c : Nat) (v : Value) (l : List UInt8) (X : Nat) (cur : List T3) (a : Option Addr) (k : Nat) (fp : List Nat) (W : World) : Prop where
  lx : Loc1 W X (.slice a cur.length k)
  lr : Loc1 W w.heap.size (.slice none 0 0)
  ow : tabsC.ow W (w.heap.size + 1) [.slice a cur.length k] cur fp
  nd : fp.Nodup
  ok : ∀ T ∈ cur, OkD T
  xf : X ∉ fp
  xb : w.heap.size < X
  cb : c < w.heap.size
  cu : Cur W c v l
  gr : w.grownBy W (some c)
theorem DaS.grown {w : World} {c : Nat} {v : Value} {l : List UInt8} {X : Nat} {cur : List T3} {a : Option Addr} {k : Nat} {fp : List Nat} {W W' : World} (h : DaS w c v l X cur a k fp W) (hg : W.grownBy W' (some c)) (hc : Cur W' c v l) : DaS w c v l X cur a k fp W' :=
  have h1 := h.cb
  have h2 := h.xb
  ⟨loc1_grown h.lx hg (by omega), loc1_grown h.lr hg (by omega), ow_grown h.ow hg (by omega), h.nd, h.ok, h.xf, h.xb, h.cb, hc, grown_trans h.gr hg⟩
theorem DaS.alloc {w : World} {c : Nat} {v : Value} {l : List UInt8} {X : Nat} {cur : List T3} {a : Option Addr} {k : Nat} {fp : List Nat} {W : World} (h : DaS w c v l X cur a k fp W) (o : Obj) : DaS w c v l X cur a k fp (W.alloc o) :=
  h.grown (World.grownBy_alloc W o (some c)) (cur_allocI o h.cu)
theorem DaS.drew {w : World} {c : Nat} {v : Value} {l : List UInt8} {X : Nat} {cur : List T3} {a : Option Addr} {k : Nat} {fp : List Nat} {W : World} (h : DaS w c v l X cur a k fp W) : DaS w c v l X cur a k fp W.drew :=
  ⟨h.lx.drew, h.lr.drew, tabsC.ow_keep h.ow fun _ _ => rfl, h.nd, h.ok, h.xf, h.xb, h.cb, h.cu, ⟨h.gr.os, h.gr.tape, h.gr.output, h.gr.size, h.gr.block⟩⟩
theorem DaS.sz {w : World} {c : Nat} {v : Value} {l : List UInt8} {X : Nat} {cur : List T3} {a : Option Addr} {k : Nat} {fp : List Nat} {W : World} (h : DaS w c v l X cur a k fp W) : X < W.heap.size := h.lx.lt
/-- The result is stored. -/
theorem DaS.done {w : World} {c : Nat} {v : Value} {l : List UInt8} {X : Nat} {cur : List T3} {a : Option Addr} {k : Nat} {fp : List Nat} {W : World} (h : DaS w c v l X cur a k fp W) (hl : cur.length ≤ 7) :
    AnyDb w c v l (.returned (.agg #[.slice a cur.length k])) (W.setCell ⟨w.heap.size, 0, none⟩ (.slice a cur.length k)) := by
  have h1 := h.cb
  have hr := rd_new h.ow (Nat.le_refl _)
  refine ⟨_, cur, rfl, ?_, hl, h.ok, cur_farI _ h.cu (by show c ≠ w.heap.size; omega), grown_newI _ h.gr (Nat.le_refl _)⟩
  have := rd_set (p := ⟨w.heap.size, 0, none⟩) hr (by show ¬ (w.heap.size + 1 ≤ w.heap.size ∧ _); omega) (.slice a cur.length k)
  exact tabsC.mono this fun b _ hb => ⟨by omega, by simpa using hb.2⟩
/-- The result is the list from place j on. -/
theorem DaS.doneCut {w : World} {c : Nat} {v : Value} {l : List UInt8} {X : Nat} {cur : List T3} {g : Nat} {k : Nat} {fp : List Nat} {W : World} (h : DaS w c v l X cur (some ⟨g, 0, none⟩) k fp W) (hl : cur.length ≤ 7) {j : Nat} (hj : j < cur.length) (k' : Nat) (x : Value) :
    AnyDb w c v l (.returned (.agg #[.slice (some ⟨g, j * 3, none⟩) (cur.length - j) k'])) ((W.setCell ⟨X, 0, none⟩ x).setCell ⟨w.heap.size, 0, none⟩ (.slice (some ⟨g, j * 3, none⟩) (cur.length - j) k')) := by
  have h1 := h.cb
  have h2 := h.xb
  have ho := ow_setCell (p := ⟨X, 0, none⟩) h.ow h.xf x
  have hr : tabsC.rd (W.setCell ⟨X, 0, none⟩ x) (fun b => w.heap.size + 1 ≤ b ∧ b < (W.setCell ⟨X, 0, none⟩ x).heap.size) [.slice (some ⟨g, 0 + j * tabC.n, none⟩) (cur.length - j) k'] (cur.drop j) := Cd.rd_drop (rd_new ho (Nat.le_refl _)) hj
  rw [show (0 + j * tabC.n) = j * 3 from by show 0 + j * 3 = j * 3; omega] at hr
  refine ⟨_, cur.drop j, rfl, ?_, by rw [List.length_drop]; omega, fun T hT => h.ok T (List.mem_of_mem_drop hT), cur_farI _ (cur_farI _ h.cu (by show c ≠ X; omega)) (by show c ≠ w.heap.size; omega), grown_newI _ (grown_newI _ h.gr (by show _ ≤ X; omega)) (Nat.le_refl _)⟩
  have := rd_set (p := ⟨w.heap.size, 0, none⟩) hr (by show ¬ (w.heap.size + 1 ≤ w.heap.size ∧ _); omega) (.slice (some ⟨g, j * 3, none⟩) (cur.length - j) k')
  exact tabsC.mono this fun b _ hb => ⟨by omega, by simpa using hb.2⟩
/-- A drawn table of its own cells, to be appended. -/
structure LaidA (base X : Nat) (W3 : World) (b : Nat) (us : List Value) (T : T3) (f fp : List Nat) : Prop where
  at_ : Cd.At W3 b 0 us
  ow : tabC.ow W3 base us T f
  nd : f.Nodup
  far : ∀ b ∈ f, b ∉ fp
  xf : X ∉ f
  sz : base ≤ W3.heap.size
  ok : OkD T
theorem DaS.laid {w : World} {c : Nat} {v : Value} {l : List UInt8} {X : Nat} {cur : List T3} {a : Option Addr} {k : Nat} {fp : List Nat} {W W2 : World} (h : DaS w c v l X cur a k fp W) (hg : W.grownBy W2 (some c)) (hc : Cur W2 c v l)
    {nm : ByteArray} {ar : Int} {y : Value} {rows : List (List Int)} {f : List Nat} (ho : rowsC.ow W2 W.heap.size [y] rows f) (hn : f.Nodup) (hok : OkD (nm, ar, rows)) (e : TypeId) :
    DaS w c v l X cur a k fp ((W2.alloc (.cells #[.string nm, .int .i64 ar, y] e (0, 0))).alloc (.cells #[.string nm, .int .i64 ar, y] e (0, 0))) ∧
    LaidA (w.heap.size + 1) X ((W2.alloc (.cells #[.string nm, .int .i64 ar, y] e (0, 0))).alloc (.cells #[.string nm, .int .i64 ar, y] e (0, 0))) (W2.heap.size + 1) [.string nm, .int .i64 ar, y] (nm, ar, rows) f fp := by
  have hbA := Tab.below_then (below_alloc W2 (.cells #[.string nm, .int .i64 ar, y] e (0, 0))) (below_alloc (W2.alloc (.cells #[.string nm, .int .i64 ar, y] e (0, 0))) (.cells #[.string nm, .int .i64 ar, y] e (0, 0)))
  have hA := ((h.grown hg hc).alloc (.cells #[.string nm, .int .i64 ar, y] e (0, 0))).alloc (.cells #[.string nm, .int .i64 ar, y] e (0, 0))
  have hX := h.sz
  have hxb := h.xb
  obtain ⟨k1, k2, k3⟩ := hok
  simp only at k1 k2 k3
  refine ⟨hA, ?_, tabC.ow_base (Cd.ow_later (tab_ow ho (by unfold maxLen; omega) (by omega)) hbA) (by omega), hn, fun b hb q => ?_, fun q => ?_, by have := hA.sz; omega, ⟨k1, k2, k3⟩⟩
  · exact at3 (by have := row_alloc (W2.alloc (.cells #[.string nm, .int .i64 ar, y] e (0, 0))) (.cells #[.string nm, .int .i64 ar, y] e (0, 0)); rw [size_alloc] at this; exact this)
  · have h1 := (rowsC.ow_lt ho b hb).1
    have h2 := ((Cd.sl _ tabC).ow_lt h.ow b q).2
    omega
  · have h1 := (rowsC.ow_lt ho _ q).1
    omega
theorem DaS.fcell {w : World} {c : Nat} {v : Value} {l : List UInt8} {X : Nat} {cur : List T3} {a : Option Addr} {k : Nat} {fp : List Nat} {W W4 : World} (h : DaS w c v l X cur a k fp W) (ht : Cd.Touch fp W W4) : W4.cell? ⟨X, 0, none⟩ = some (.slice a cur.length k) ∧ W4.frozen? ⟨X, 0, none⟩ = false :=
  ⟨(h.lx.touched ht h.xf).c0, (h.lx.touched ht h.xf).f0⟩
theorem DaS.app {w : World} {c : Nat} {v : Value} {l : List UInt8} {X : Nat} {cur cur' : List T3} {a : Option Addr} {k : Nat} {fp : List Nat} {W3 W4 : World} (h : DaS w c v l X cur a k fp W3) (hok : ∀ T ∈ cur', OkD T) {g cap n : Nat} (hn' : n = cur'.length) {fp4 : List Nat} (ht : Cd.Touch fp W3 W4)
    (ho : tabsC.ow W4 (w.heap.size + 1) [.slice (some ⟨g, 0, none⟩) n cap] cur' fp4) (hn : fp4.Nodup) (hx4 : X ∉ fp4) :
    DaS w c v l X cur' (some ⟨g, 0, none⟩) cap fp4 (W4.setCell ⟨X, 0, none⟩ (.slice (some ⟨g, 0, none⟩) n cap)) := by
  subst hn'
  have h1 := h.cb
  have h2 := h.xb
  have hfp : ∀ b, b < w.heap.size + 1 → b ∉ fp := fun b hb q => by have := ((Cd.sl _ tabC).ow_lt h.ow _ q).1; omega
  refine ⟨(h.lx.touched ht h.xf).set _, (h.lr.touched ht (hfp _ (by omega))).set_far (by show X ≠ _; omega) _, ow_setCell ho hx4 _, hn, hok, hx4, h2, h1, ?_, ?_⟩
  · obtain ⟨i, x, hi, hh⟩ := h.cu
    exact cur_farI _ ⟨i, x, hi, ht.row hh (hfp _ (by omega))⟩ (by show c ≠ X; omega)
  · refine grown_newI _ ?_ (by show _ ≤ X; omega)
    exact ⟨ht.os.trans h.gr.os, ht.tape.trans h.gr.tape, ht.output.trans h.gr.output, Nat.le_trans h.gr.size ht.size, fun j hj hne => (ht.block j (by have := h.gr.size; omega) (hfp _ (by omega))).trans (h.gr.block j hj hne)⟩
/-- A table is put at place t. -/
theorem DaS.put {w : World} {c : Nat} {v : Value} {l : List UInt8} {X : Nat} {cur : List T3} {g : Nat} {k : Nat} {fp : List Nat} {W : World} (h : DaS w c v l X cur (some ⟨g, 0, none⟩) k fp W) {nm : ByteArray} {ar : Int} {y : Value} {rows : List (List Int)} {f : List Nat}
    (ho : rowsC.ow W (w.heap.size + 1) [y] rows f) (hn : f.Nodup) (hfar : ∀ b ∈ f, b ∉ fp) (hxf : X ∉ f) (hok : OkD (nm, ar, rows)) {t : Nat} (ht : t < cur.length) :
    ∃ cur' fp', cur'.length = cur.length ∧ DaS w c v l X cur' (some ⟨g, 0, none⟩) k fp' (((W.setCell ⟨g, t * 3, none⟩ (.string nm)).setCell ⟨g, t * 3 + 1, none⟩ (.int .i64 ar)).setCell ⟨g, t * 3 + 2, none⟩ y) := by
  have h1 := h.cb
  have h2 := h.xb
  have hg : g ∈ fp := by
    obtain ⟨v', xss, fps, e1, _, _, rfl⟩ := h.ow
    injection e1 with e1 _
    subst e1
    exact List.mem_append_left _ (by simp [Value.ownBlock])
  have hgx := ((Cd.sl _ tabC).ow_lt h.ow _ hg).1
  have hgX : g ≠ X := fun q => h.xf (by rw [← q]; exact hg)
  obtain ⟨k1, k2, k3⟩ := hok
  simp only at k1 k2 k3
  obtain ⟨fp', ho', hn', hsub⟩ := Cd.ow_putN h.ow h.nd (tab_ow (nm := nm) (ar := ar) ho (by unfold maxLen; omega) (by omega)) hn hfar ht
  have e : (cur.set t (nm, ar, rows)).length = cur.length := by simp
  refine ⟨cur.set t (nm, ar, rows), fp', e, ?_, ((h.lr.set_far (by show g ≠ _; omega) _).set_far (by show g ≠ _; omega) _).set_far (by show g ≠ _; omega) _, ?_, hn', fun T hT => ?_, fun q => ?_, h2, h1, cur_farI _ (cur_farI _ (cur_farI _ h.cu (by show c ≠ g; omega)) (by show c ≠ g; omega)) (by show c ≠ g; omega), grown_newI _ (grown_newI _ (grown_newI _ h.gr (by show _ ≤ g; omega)) (by show _ ≤ g; omega)) (by show _ ≤ g; omega)⟩
  · rw [e]; exact ((h.lx.set_far hgX _).set_far hgX _).set_far hgX _
  · rw [e]; exact ho'
  · rcases List.mem_or_eq_of_mem_set hT with q | q
    · exact h.ok T q
    · rw [q]; exact ⟨k1, k2, k3⟩
  · rcases hsub X q with q | q
    · exact h.xf q
    · exact hxf q
theorem far3 {W : World} {p : Addr} {v : Value} (h : W.cell? p = some v) {g o1 o2 o3 : Nat} {x y z : Value} (hn : p.block ≠ g) : (((W.setCell ⟨g, o1, none⟩ x).setCell ⟨g, o2, none⟩ y).setCell ⟨g, o3, none⟩ z).cell? p = some v := by
  have e : ∀ o, (⟨g, o, none⟩ : Addr) ≠ p := fun o q => hn (congrArg Addr.block q).symm
  rw [World.cell?_setCell_other _ _ _ _ (e _), World.cell?_setCell_other _ _ _ _ (e _), World.cell?_setCell_other _ _ _ _ (e _)]
  exact h
end Go.Proofs.YtinchhahcheadaaGreat.DbDraw

namespace Go.Proofs.YtinchhahcheadaaGreat.DbDraw
open Go Go.RowKit Byt Ints IntsLaw IntsWalk Draw LocDraw Cd Rows2 Tab TabDraw SlMath TabOpen TabElem SlTable Db TabSpec DbMath DbSpec DbExact DbAcc

def nn3 : List ByteArray := [⟨#[97]⟩, ⟨#[119]⟩, ⟨#[122]⟩]
theorem nn3_ok : ∀ t : Fin 3, (nn3.getD t.val ⟨#[]⟩).size ≤ 2 := by decide
theorem ok_app {cur : List T3} {T : T3} (h : ∀ U ∈ cur, OkD U) (hT : OkD T) : ∀ U ∈ cur ++ [T], OkD U := fun U hU => by
  rcases List.mem_append.1 hU with q | q
  · exact h U q
  · rw [List.mem_singleton.1 q]; exact hT
theorem ok_app2 {cur : List T3} {T T2 : T3} (h : ∀ U ∈ cur, OkD U) (hT : OkD T) (hT2 : OkD T2) : ∀ U ∈ cur ++ [T, T2], OkD U := fun U hU => by
  rcases List.mem_append.1 hU with q | q
  · exact h U q
  · rcases List.mem_cons.1 q with q | q
    · rw [q]; exact hT
    · rw [List.mem_singleton.1 q]; exact hT2
/-- Two drawn tables, to be appended at once. -/
structure LaidB (base X : Nat) (W4 : World) (b : Nat) (us us2 : List Value) (T T2 : T3) (f f2 fp : List Nat) : Prop where
  at_ : Cd.At W4 b 0 (us ++ us2)
  ow : tabC.ow W4 base us T f
  nd : f.Nodup
  far : ∀ b ∈ f, b ∉ fp
  xf : X ∉ f
  ow2 : tabC.ow W4 base us2 T2 f2
  nd2 : f2.Nodup
  far2 : ∀ b ∈ f2, b ∉ fp
  xf2 : X ∉ f2
  dis : ∀ b ∈ f, b ∉ f2
  sz : base ≤ W4.heap.size
  ok : OkD T
  ok2 : OkD T2
theorem at6 {W : World} {b : Nat} {x0 x1 x2 x3 x4 x5 : Value} {e : TypeId} (h : W.heap[b]? = some (.cells #[x0, x1, x2, x3, x4, x5] e (0, 0))) : Cd.At W b 0 ([x0, x1, x2] ++ [x3, x4, x5]) := by
  intro j hj
  have : j = 0 ∨ j = 1 ∨ j = 2 ∨ j = 3 ∨ j = 4 ∨ j = 5 := by simp at hj; omega
  rcases this with rfl | rfl | rfl | rfl | rfl | rfl <;> simp [World.cell?, h]
theorem DaS.laid2 {w : World} {c : Nat} {v : Value} {l : List UInt8} {X : Nat} {cur : List T3} {a : Option Addr} {k : Nat} {fp : List Nat} {W w3 w4 : World} (h : DaS w c v l X cur a k fp W) (hg3 : W.grownBy w3 (some c)) (hc3 : Cur w3 c v l)
    {nm nm2 : ByteArray} {ar ar2 : Int} {y y2 : Value} {rows rows2 : List (List Int)} {f f2 : List Nat} (ho : rowsC.ow w3 W.heap.size [y] rows f) (hn : f.Nodup) (hok : OkD (nm, ar, rows)) (e e2 e3 : TypeId)
    (hg4 : (w3.alloc (.cells #[.string nm, .int .i64 ar, y] e (0, 0))).grownBy w4 (some c)) (hc4 : Cur w4 c v l) (ho2 : rowsC.ow w4 (w3.alloc (.cells #[.string nm, .int .i64 ar, y] e (0, 0))).heap.size [y2] rows2 f2) (hn2 : f2.Nodup) (hok2 : OkD (nm2, ar2, rows2)) :
    DaS w c v l X cur a k fp ((w4.alloc (.cells #[.string nm2, .int .i64 ar2, y2] e2 (0, 0))).alloc (.cells #[.string nm, .int .i64 ar, y, .string nm2, .int .i64 ar2, y2] e3 (0, 0))) ∧
    LaidB (w.heap.size + 1) X ((w4.alloc (.cells #[.string nm2, .int .i64 ar2, y2] e2 (0, 0))).alloc (.cells #[.string nm, .int .i64 ar, y, .string nm2, .int .i64 ar2, y2] e3 (0, 0))) (w4.heap.size + 1) [.string nm, .int .i64 ar, y] [.string nm2, .int .i64 ar2, y2] (nm, ar, rows) (nm2, ar2, rows2) f f2 fp := by
  have hbA := Tab.below_then (below_alloc w4 (.cells #[.string nm2, .int .i64 ar2, y2] e2 (0, 0))) (below_alloc (w4.alloc (.cells #[.string nm2, .int .i64 ar2, y2] e2 (0, 0))) (.cells #[.string nm, .int .i64 ar, y, .string nm2, .int .i64 ar2, y2] e3 (0, 0)))
  have h3 := (h.grown hg3 hc3).alloc (.cells #[.string nm, .int .i64 ar, y] e (0, 0))
  have h4 := h3.grown hg4 hc4
  have hA := (h4.alloc (.cells #[.string nm2, .int .i64 ar2, y2] e2 (0, 0))).alloc (.cells #[.string nm, .int .i64 ar, y, .string nm2, .int .i64 ar2, y2] e3 (0, 0))
  have hX := h.sz
  have hxb := h.xb
  have hcb := h.cb
  have hs3 : (w3.alloc (.cells #[.string nm, .int .i64 ar, y] e (0, 0))).heap.size = w3.heap.size + 1 := size_alloc _ _
  have hs30 := hg3.size
  obtain ⟨k1, k2, k3⟩ := hok
  obtain ⟨m1, m2, m3⟩ := hok2
  simp only at k1 k2 k3 m1 m2 m3
  have ho4 : rowsC.ow w4 W.heap.size [y] rows f := ow_grown (Cd.ow_later ho (below_alloc _ (.cells #[.string nm, .int .i64 ar, y] e (0, 0)))) hg4 (by omega)
  refine ⟨hA, at6 (by have := row_alloc (w4.alloc (.cells #[.string nm2, .int .i64 ar2, y2] e2 (0, 0))) (.cells #[.string nm, .int .i64 ar, y, .string nm2, .int .i64 ar2, y2] e3 (0, 0)); rw [size_alloc] at this; exact this),
    tabC.ow_base (Cd.ow_later (tab_ow ho4 (by unfold maxLen; omega) (by omega)) hbA) (by omega), hn, fun b hb q => ?_, fun q => ?_,
    tabC.ow_base (Cd.ow_later (tab_ow ho2 (by unfold maxLen; omega) (by omega)) hbA) (by omega), hn2, fun b hb q => ?_, fun q => ?_, fun b hb q => ?_, by have := hA.sz; omega, ⟨k1, k2, k3⟩, ⟨m1, m2, m3⟩⟩
  · have h1 := (rowsC.ow_lt ho b hb).1
    have h2 := ((Cd.sl _ tabC).ow_lt h.ow b q).2
    omega
  · have h1 := (rowsC.ow_lt ho _ q).1
    omega
  · have h1 := (rowsC.ow_lt ho2 b hb).1
    have h2 := ((Cd.sl _ tabC).ow_lt h.ow b q).2
    omega
  · have h1 := (rowsC.ow_lt ho2 _ q).1
    omega
  · have h1 := (rowsC.ow_lt ho b hb).2
    have h2 := (rowsC.ow_lt ho2 b q).1
    omega

theorem DaS.atPut {w : World} {c : Nat} {v : Value} {l : List UInt8} {X : Nat} {cur : List T3} {g : Nat} {k : Nat} {fp : List Nat} {W w7 : World} (h : DaS w c v l X cur (some ⟨g, 0, none⟩) k fp W) (hg : W.drew.grownBy w7 (some c)) (hc : Cur w7 c v l)
    {Y : Nat} {nm : ByteArray} {ar : Int} {y : Value} {rows : List (List Int)} {f : List Nat} (HY : Loc3 W Y (.string nm) (.int .i64 ar) y) (hYc : Y ≠ c)
    (ho : rowsC.ow W (w.heap.size + 1) [y] rows f) (hn : f.Nodup) (hfar : ∀ b ∈ f, b ∉ fp) (hxf : X ∉ f) (hok : OkD (nm, ar, rows)) {j : Nat} (hj : j < cur.length) :
    w7.cell? ⟨X, 0, none⟩ = some (.slice (some ⟨g, 0, none⟩) cur.length k) ∧ Loc3 w7 Y (.string nm) (.int .i64 ar) y ∧ (∃ u, w7.cell? ⟨g, j * 3, none⟩ = some u) ∧ (∃ u, w7.cell? ⟨g, j * 3 + 1, none⟩ = some u) ∧ (∃ u, w7.cell? ⟨g, j * 3 + 2, none⟩ = some u) ∧
    w7.frozen? ⟨g, j * 3, none⟩ = false ∧ w7.frozen? ⟨g, j * 3 + 1, none⟩ = false ∧ w7.frozen? ⟨g, j * 3 + 2, none⟩ = false ∧
    ∃ cur' fp', cur'.length = cur.length ∧ DaS w c v l X cur' (some ⟨g, 0, none⟩) k fp' (((w7.setCell ⟨g, j * 3, none⟩ (.string nm)).setCell ⟨g, j * 3 + 1, none⟩ (.int .i64 ar)).setCell ⟨g, j * 3 + 2, none⟩ y) := by
  have h7 := h.drew.grown hg hc
  have hcb := h.cb
  obtain ⟨us7, f7, hl7, hat7, _⟩ := Cd.ow_elem h7.ow hj
  have hl3 : us7.length = 3 := hl7
  have h30 : w7.cell? ⟨g, j * 3, none⟩ = some (us7[0]'(by omega)) := hat7 0 (by omega)
  have h31 : w7.cell? ⟨g, j * 3 + 1, none⟩ = some (us7[1]'(by omega)) := hat7 1 (by omega)
  have h32 : w7.cell? ⟨g, j * 3 + 2, none⟩ = some (us7[2]'(by omega)) := hat7 2 (by omega)
  exact ⟨h7.lx.c0, loc_grown (Exact.loc_drew HY) hg hYc, ⟨_, h30⟩, ⟨_, h31⟩, ⟨_, h32⟩, Cd.ow_frozen h7.ow (j * 3), Cd.ow_frozen h7.ow (j * 3 + 1), Cd.ow_frozen h7.ow (j * 3 + 2),
    h7.put (ow_grown (w := W.drew) (rowsC.ow_keep (w' := W.drew) ho (fun _ _ => rfl)) hg (by omega)) hn hfar hxf hok hj⟩

set_option maxRecDepth 100000 in
set_option maxHeartbeats 6400000 in
theorem dbany_any (c : Nat) (v : Value) (l : List UInt8) (B : Nat) (w : World) (hc : Cur w c v l) (hr : Reads w v l B) (hB : B ≤ c) :
    Calls Tryz.prog 34 #[.pointer (some ⟨c, 0, none⟩)] w (AnyDb w c v l) := by
  have hcs := cur_size hc
  have HR := Lib.hid (fun w' (hg : w.grownBy w' (some c)) => hr.later (below_of hg hB hcs))
  have HC := Lib.hid hc
  clear hc hr
  go_enter Tryz.func34, Tryz.ntmps34
  go_wp2_with fail
  generalize hW : w.alloc _ = W0
  obtain ⟨r0, hz, hb0⟩ := start1 w _ hW
  clear hW
  have HX0 := Lib.hid (Loc1.of r0)
  have hg0 := grown_below hb0 (some c)
  have HG0 := Lib.hid hg0
  refine (db_any c v l B W0 (cur_below HC.out hb0 hcs) (HR.out _ hg0) hB).mono ?_
  rintro e w1 ⟨u, Ts, fp, rfl, how, hnd, hlen, hok, hc1, hg1⟩
  obtain ⟨g, k1, rfl, hgb, hgs, hgf⟩ := Cd.ow_form how (by omega)
  have HS := Lib.hid (show DaS w c v l w1.heap.size Ts (some ⟨g, 0, none⟩) k1 fp (w1.alloc (.cells #[.slice (some ⟨g, 0, none⟩) Ts.length k1] 26 (0, 0))) from
    ⟨Loc1.of (row_alloc _ _), (loc1_grown HX0.out hg1 (by omega)).later (below_alloc _ _), Cd.ow_later ((Cd.sl _ tabC).ow_base how (by omega)) (below_alloc _ _), hnd, hok, (fun q => by have := ((Cd.sl _ tabC).ow_lt how _ q).2; omega), by have := hg1.size; omega, hcs, cur_allocI _ hc1, grown_allocI _ (grown_trans HG0.out hg1)⟩)
  have HLEN := Lib.hid hlen
  clear r0 hz hb0 hg0 how hnd hlen hok hc1 hg1 HX0 HG0 hgb hgs hgf
  go_wp2_with fail
  generalize w1.alloc _ = W1 at *
  generalize w1.heap.size = X at *
  have HB1 := Lib.hid (below_any 10 c v l B W1 HS.out.cu (HR.out W1 HS.out.gr) hB)
  refine HB1.out.mono ?_
  rintro e w2 ⟨x, rfl, hx0, hx10, hc2, hg2⟩
  have HS2 := Lib.hid (HS.out.grown hg2 hc2)
  clear hx0 hx10 hc2 hg2 HS HB1
  have HLL := Lib.hid (show Ts.length + 1 ≤ 1000000000 by have := HLEN.out; omega)
  have HLL2 := Lib.hid (show Ts.length + 2 ≤ 1000000000 by have := HLEN.out; omega)
  by_cases x0 : x = 0
  · subst x0
    have HA := Lib.hid (tabany_any c v l B w2 HS2.out.cu (HR.out w2 HS2.out.gr) hB)
    go_wp2_with fail
    refine HA.out.mono ?_
    rintro e w3 ⟨nm, ar, y, rows, f, rfl, hnm, har, ho, hnf, hwt, hc3, hg3⟩
    obtain ⟨a3, c3, rfl⟩ := Cd.ow_slice ho
    go_upto_region 5 with fail
    generalize hW3 : w3.alloc _ = W3
    obtain ⟨s0, sz, sb⟩ := start1 w3 _ hW3
    have HY := Lib.hid (Loc3.of s0)
    have HS3 := Lib.hid (show DaS w c v l X Ts (some ⟨g, 0, none⟩) k1 fp W3 from (HS2.out.grown hg3 hc3).grown (grown_below sb (some c)) (cur_below hc3 sb (cur_size hc3)))
    have HO3 := Lib.hid (Cd.ow_later (rowsC.ow_base ho (show w.heap.size + 1 ≤ w2.heap.size by have := HS2.out.sz; have := HS2.out.xb; omega)) sb)
    have HFF := Lib.hid (show ∀ b ∈ f, b ∉ fp from fun b hb q => by have h1 := (rowsC.ow_lt ho b hb).1; have h2 := ((Cd.sl _ tabC).ow_lt HS2.out.ow b q).2; omega)
    have HXF := Lib.hid (show X ∉ f from fun q => by have h1 := (rowsC.ow_lt ho _ q).1; have h2 := HS2.out.sz; omega)
    have HNF := Lib.hid hnf
    have HOK := Lib.hid (show OkD (nm, ar, rows) from ⟨hnm, har, by show rowsWt rows ≤ 32; omega⟩)
    have HYC := Lib.hid (show w3.heap.size ≠ c by have := HS2.out.cb; have := hg3.size; have := HS2.out.sz; have := HS2.out.xb; omega)
    have hYg : g ≠ w3.heap.size := by
      have h1 := HS2.out.ow
      obtain ⟨g', k', e1, _, h2, _⟩ := Cd.ow_form h1 (by have := HLEN.out; omega)
      injection e1 with e1
      injection e1 with e1
      injection e1 with e1
      subst e1
      have := hg3.size
      omega
    have hXg : g ≠ X := by
      obtain ⟨g', k', e1, _, _, h3⟩ := Cd.ow_form HS2.out.ow (by have := HLEN.out; omega)
      injection e1 with e1
      injection e1 with e1
      injection e1 with e1
      subst e1
      exact fun q => HS2.out.xf (q ▸ h3)
    have HG7 := Lib.hid (And.intro hYg hXg)
    clear hW3 s0 sz sb ho hnf hwt hc3 hg3 hnm har HA HS2 hYg hXg
    have HB := Lib.hid (below_any 5 c v l B W3.drew HS3.out.drew.cu (HR.out _ HS3.out.drew.gr) hB)
    have z0 := HS3.out.lx.c0
    obtain ⟨y0, y1, y2, _, _, _⟩ := HY.out
    go_region_law (first | (go_simp; go_at_call 64; refine HB.out.mono ?_; rintro e w7 ⟨x, rfl, hx0, hx1, hc7, hg7⟩; obtain ⟨j, rfl⟩ := Int.eq_ofNat_of_zero_le hx0; (have hjl : j < Ts.length := by have := hx1 (by decide); have := HLEN.out; omega); (have p1 : (0 : Int) ≤ (j : Int) := by omega); (have p2 : (j : Int) < (Ts.length : Int) := by omega); (have h7 := HS3.out.atPut hg7 hc7 HY.out HYC.out HO3.out HNF.out HFF.out HXF.out HOK.out hjl); obtain ⟨v0, HY7, ⟨u0, h30⟩, ⟨u1, h31⟩, ⟨u2, h32⟩, g30, g31, g32, hn7⟩ := h7; (have HN := Lib.hid hn7); obtain ⟨v1, v2, v3, _, _, _⟩ := HY7; clear hx0 hx1 hc7 hg7 hn7))
    all_goals
      obtain ⟨cur', fp', hl', hs'⟩ := HN.out
      have m0 := hs'.lx.c0
      have m1 := hs'.lr.c0
      have m2 := hs'.lr.f0
      have HS' := Lib.hid hs'
      have HL' := Lib.hid hl'
      clear hs' hl' HN
      go_wp2_with fail
      have k0 := World.cell?_setCell_same _ _ (.slice (some ⟨g, 0, none⟩) cur'.length k1) m1
      refine bodyPost_ret (v := .agg #[.slice (some ⟨g, 0, none⟩) cur'.length k1]) (by simp [results, Tryz.results34, go_sem, k0]) rfl (HS'.out.done (by have := HL'.out; have := HLEN.out; omega))
  have tt0 : (x == 0) = false := by rw [beq_eq_false_iff_ne]; exact x0
  by_cases x1 : x = 1
  · subst x1
    clear x0
    have hal := HS2.out.alloc (.cells (nn3.map fun z => Value.string z).toArray 9)
    have HP := Lib.hid (pickS_any nn3 w2.heap.size (by decide) (by decide) c v l B _ hal.cu (HR.out _ hal.gr) hB (by have := (cur_size HS2.out.cu); omega) (list_cellsS nn3 w2 9))
    have HAL := Lib.hid hal
    clear hal
    go_wp2_with fail
    refine HP.out.mono ?_
    rintro e w3 ⟨t, ht, rfl, hc3, hg3⟩
    have hnm := nn3_ok ⟨t, ht⟩
    simp only at hnm
    generalize nn3.getD t ⟨#[]⟩ = nm at *
    have HS3 := Lib.hid (HAL.out.grown hg3 hc3)
    have HT := Lib.hid (show Calls Tryz.prog 66 #[.pointer (some ⟨c, 0, none⟩), .string nm, .int .i64 2, .int .i64 4, .int .i64 3] w3 (TabGen 4 w3 c v l nm 2) from tab_gen 4 3 (by decide) (by decide) nm 2 (by decide) c v l B w3 HS3.out.cu (HR.out w3 HS3.out.gr) hB)
    clear hc3 hg3 HP HAL
    go_wp2_with fail
    refine HT.out.mono ?_
    rintro e w5 ⟨y, rows, f, rfl, how, hnf, hwt, hc5, hg5⟩
    obtain ⟨a5, cap5, rfl⟩ := Cd.ow_slice how
    obtain ⟨hL, hD⟩ := HS3.out.laid hg5 hc5 how hnf (nm := nm) (ar := 2) ⟨hnm, by show (-1 : Int) ≤ 2 ∧ (2 : Int) ≤ 4; decide, by show rowsWt rows ≤ 32; omega⟩ 51
    have q1 := (HS3.out.grown hg5 hc5).lx.c0
    have q2 : X < w5.heap.size := (HS3.out.grown hg5 hc5).sz
    have HL := Lib.hid hL
    have HD := Lib.hid hD
    clear hL hD how hnf hwt hc5 hg5 HT HS3 HS2
    go_wp2_with (at_builtin; refine Cd.wpList_appendN (c := tabC) rfl (.tmp 30) (.tmp 32) 24 rfl (w.heap.size + 1) 51 (.agg #[.string ⟨#[]⟩, .int .i64 0, .slice none 0 0]) 3 48 rfl Tryz.underlying24 info_x rfl (by decide) _ Ts fp rfl HL.out.ow HL.out.nd (w5.heap.size + 1) _ rfl HD.out.at_ (nm, 2, rows) f HD.out.ow HD.out.nd HD.out.far HLL.out HD.out.sz ?_)
    intro g4 cap4 w6 fp6 ho6 hn6 hs6 ht6
    obtain ⟨e0, e1⟩ := HL.out.fcell ht6
    have HA := Lib.hid (HL.out.app (cur' := Ts ++ [(nm, 2, rows)]) (ok_app HL.out.ok HD.out.ok) (by simp) ht6 ho6 hn6 (fun q => by
      rcases hs6 X q with q | q | q
      · exact HL.out.xf q
      · exact HD.out.xf q
      · have := HL.out.sz; omega))
    have m1 := HA.out.lr.c0
    have m2 := HA.out.lr.f0
    have HLA := Lib.hid (show (Ts ++ [(nm, 2, rows)]).length = Ts.length + 1 by simp)
    clear ho6 hn6 hs6 ht6
    go_wp2_with fail
    have k0 := World.cell?_setCell_same _ _ (.slice (some ⟨g4, 0, none⟩) (Ts.length + 1) cap4) m1
    have hd := HA.out.done (by have := HLA.out; have := HLEN.out; omega)
    rw [HLA.out] at hd
    refine bodyPost_ret (v := .agg #[.slice (some ⟨g4, 0, none⟩) (Ts.length + 1) cap4]) (by simp [results, Tryz.results34, go_sem, k0]) rfl hd
  have tt1 : (x == 1) = false := by rw [beq_eq_false_iff_ne]; exact x1
  by_cases x2 : x = 2
  · subst x2
    clear x0 x1
    go_upto_region 10 with fail
    have HB := Lib.hid (below_any 5 c v l B w2.drew HS2.out.drew.cu (HR.out _ HS2.out.drew.gr) hB)
    have z0 := HS2.out.lx.c0
    have p5 : Ts.length ≤ k1 := by
      obtain ⟨v', xss, fps, e1, hown, _, _⟩ := HS2.out.ow
      injection e1 with e1 _
      subst e1
      rcases hown.2 with ⟨e1, _⟩ | ⟨g', cap', cur', e1, _, _, _, _, _, _⟩
      · cases e1
      · injection e1 with _ e2 e3
        omega
    have p4 : (Ts.length : Int) ≤ (k1 : Int) := by omega
    go_region_law (first | (go_simp; go_at_call 64; refine HB.out.mono ?_; rintro e w7 ⟨x, rfl, hx0, hx1, hc7, hg7⟩; obtain ⟨j, rfl⟩ := Int.eq_ofNat_of_zero_le hx0; (have hjl : j < Ts.length := by have := hx1 (by decide); have := HLEN.out; omega); (have p1 : (0 : Int) ≤ (j : Int) := by omega); (have p2 : (j : Int) ≤ (Ts.length : Int) := by omega); (have p6 : ¬ k1 = j := by omega); (have HS7 := Lib.hid (HS2.out.drew.grown hg7 hc7)); (have HJL := Lib.hid hjl); (have v0 := HS7.out.lx.c0); (have v1 := HS7.out.lx.f0); clear hx0 hx1 hc7 hg7 hjl))
    all_goals
      have m1 : (w7.setCell ⟨X, 0, none⟩ (.slice (some ⟨g, j * 3, none⟩) (Ts.length - j) (k1 - j))).cell? ⟨w.heap.size, 0, none⟩ = some (.slice none 0 0) := (HS7.out.lr.set_far (by have := HS7.out.xb; show X ≠ _; omega) _).c0
      have m2 : w7.frozen? ⟨w.heap.size, 0, none⟩ = false := HS7.out.lr.f0
      go_wp2_with fail
      have k0 := World.cell?_setCell_same _ _ (.slice (some ⟨g, j * 3, none⟩) (Ts.length - j) (k1 - j)) m1
      refine bodyPost_ret (v := .agg #[.slice (some ⟨g, j * 3, none⟩) (Ts.length - j) (k1 - j)]) (by simp [results, Tryz.results34, go_sem, k0]) rfl (HS7.out.doneCut (by have := HLEN.out; omega) HJL.out _ _)
  have tt2 : (x == 2) = false := by rw [beq_eq_false_iff_ne]; exact x2
  by_cases x3 : x = 3
  · subst x3
    clear x0 x1 x2
    have HT := Lib.hid (show Calls Tryz.prog 66 #[.pointer (some ⟨c, 0, none⟩), .string ⟨#[119]⟩, .int .i64 1, .int .i64 2, .int .i64 3] w2 (TabGen 2 w2 c v l ⟨#[119]⟩ 1) from tab_gen 2 3 (by decide) (by decide) ⟨#[119]⟩ 1 (by decide) c v l B w2 HS2.out.cu (HR.out w2 HS2.out.gr) hB)
    go_wp2_with fail
    refine HT.out.mono ?_
    rintro e w3 ⟨y, rows, f, rfl, how, hnf, hwt, hc3, hg3⟩
    obtain ⟨a3, cap3, rfl⟩ := Cd.ow_slice how
    have hs3 := (HS2.out.grown hg3 hc3).alloc (.cells #[.string ⟨#[119]⟩, .int .i64 1, .slice a3 rows.length cap3] 51 (0, 0))
    have HT2 := Lib.hid (show Calls Tryz.prog 66 #[.pointer (some ⟨c, 0, none⟩), .string ⟨#[120]⟩, .int .i64 1, .int .i64 2, .int .i64 3] (w3.alloc (.cells #[.string ⟨#[119]⟩, .int .i64 1, .slice a3 rows.length cap3] 51 (0, 0))) (TabGen 2 (w3.alloc (.cells #[.string ⟨#[119]⟩, .int .i64 1, .slice a3 rows.length cap3] 51 (0, 0))) c v l ⟨#[120]⟩ 1) from tab_gen 2 3 (by decide) (by decide) ⟨#[120]⟩ 1 (by decide) c v l B _ hs3.cu (HR.out _ hs3.gr) hB)
    have HH3 := Lib.hid (And.intro how (And.intro hnf (And.intro hwt (And.intro hc3 hg3))))
    have HY := Lib.hid (Loc3.of (row_alloc w3 (.cells #[.string ⟨#[119]⟩, .int .i64 1, .slice a3 rows.length cap3] 51 (0, 0))))
    have HYC := Lib.hid (show w3.heap.size ≠ c by have := HS2.out.cb; have := hg3.size; have := HS2.out.sz; have := HS2.out.xb; omega)
    clear how hnf hwt hc3 hg3 hs3 HT
    go_wp2_with fail
    refine HT2.out.mono ?_
    rintro e w4 ⟨y2, rows2, f2, rfl, how2, hnf2, hwt2, hc4, hg4⟩
    obtain ⟨a4, cap4, rfl⟩ := Cd.ow_slice how2
    obtain ⟨hL, hD⟩ := HS2.out.laid2 HH3.out.2.2.2.2 HH3.out.2.2.2.1 HH3.out.1 HH3.out.2.1 (nm := ⟨#[119]⟩) (ar := 1) ⟨by show (⟨#[119]⟩ : ByteArray).size ≤ 2; decide, by show (-1 : Int) ≤ 1 ∧ (1 : Int) ≤ 4; decide, by show rowsWt rows ≤ 32; have := HH3.out.2.2.1; omega⟩ 51 51 51 hg4 hc4 how2 hnf2 (nm2 := ⟨#[120]⟩) (ar2 := 1) ⟨by show (⟨#[120]⟩ : ByteArray).size ≤ 2; decide, by show (-1 : Int) ≤ 1 ∧ (1 : Int) ≤ 4; decide, by show rowsWt rows2 ≤ 32; omega⟩
    obtain ⟨q3, q4, q5, _, _, _⟩ := loc_grown HY.out hg4 HYC.out
    have q6 := HY.out.lt
    have hs4 := ((HS2.out.grown HH3.out.2.2.2.2 HH3.out.2.2.2.1).alloc (.cells #[.string ⟨#[119]⟩, .int .i64 1, .slice a3 rows.length cap3] 51 (0, 0))).grown hg4 hc4
    have q1 := hs4.lx.c0
    have q2 : X < w4.heap.size := hs4.sz
    have q7 : w3.heap.size < w4.heap.size := Nat.lt_of_lt_of_le HY.out.lt hg4.size
    have HL := Lib.hid hL
    have HD := Lib.hid hD
    clear hL hD how2 hnf2 hwt2 hc4 hg4 hs4 HT2 HS2 HH3 HY
    go_wp2_with (at_builtin; refine Cd.wpList_appendN2 (c := tabC) rfl (.tmp 50) (.tmp 53) 24 rfl (w.heap.size + 1) 51 (.agg #[.string ⟨#[]⟩, .int .i64 0, .slice none 0 0]) 3 48 rfl Tryz.underlying24 info_x rfl (by decide) _ Ts fp rfl HL.out.ow HL.out.nd (w4.heap.size + 1) _ _ rfl HD.out.at_ (⟨#[119]⟩, 1, rows) f HD.out.ow HD.out.nd HD.out.far (⟨#[120]⟩, 1, rows2) f2 HD.out.ow2 HD.out.nd2 HD.out.far2 HD.out.dis HLL2.out HD.out.sz ?_)
    intro g5 cap5 w6 fp6 ho6 hn6 hs6 ht6
    obtain ⟨e0, e1⟩ := HL.out.fcell ht6
    have HA := Lib.hid (HL.out.app (cur' := Ts ++ [((⟨#[119]⟩, 1, rows) : T3), ((⟨#[120]⟩, 1, rows2) : T3)]) (ok_app2 HL.out.ok HD.out.ok HD.out.ok2) (by simp) ht6 ho6 hn6 (fun q => by
      rcases hs6 X q with q | q | q | q
      · exact HL.out.xf q
      · exact HD.out.xf q
      · exact HD.out.xf2 q
      · have := HL.out.sz; omega))
    have m1 := HA.out.lr.c0
    have m2 := HA.out.lr.f0
    have HLA := Lib.hid (show (Ts ++ [((⟨#[119]⟩, 1, rows) : T3), (⟨#[120]⟩, 1, rows2)]).length = Ts.length + 2 by simp)
    clear ho6 hn6 hs6 ht6
    go_wp2_with fail
    have k0 := World.cell?_setCell_same _ _ (.slice (some ⟨g5, 0, none⟩) (Ts.length + 2) cap5) m1
    have hd := HA.out.done (by have := HLA.out; have := HLEN.out; omega)
    rw [HLA.out] at hd
    refine bodyPost_ret (v := .agg #[.slice (some ⟨g5, 0, none⟩) (Ts.length + 2) cap5]) (by simp [results, Tryz.results34, go_sem, k0]) rfl hd
  have tt3 : (x == 3) = false := by rw [beq_eq_false_iff_ne]; exact x3
  clear x0 x1 x2 x3
  have m0 := HS2.out.lx.c0
  have m1 := HS2.out.lr.c0
  have m2 := HS2.out.lr.f0
  go_wp2_with fail
  have k0 := World.cell?_setCell_same _ _ (.slice (some ⟨g, 0, none⟩) Ts.length k1) m1
  refine bodyPost_ret (v := .agg #[.slice (some ⟨g, 0, none⟩) Ts.length k1]) (by simp [results, Tryz.results34, go_sem, k0]) rfl (HS2.out.done (by have := HLEN.out; omega))
end Go.Proofs.YtinchhahcheadaaGreat.DbDraw

namespace Go.Proofs.YtinchhahcheadaaGreat.TabSpec
open Go Go.RowKit Byt Ints IntsLaw IntsWalk Draw LocDraw Cd Rows2 Tab TabDraw

/-- In the drawing of a table and a row: the result's cells, the cursor behind them, the local table in block X. -/
structure Sb (w : World) (c : Nat) (v : Value) (l : List UInt8) (X : Nat) (nm : ByteArray) (ar : Int) (u : Value) (rows : List (List Int)) (fp : List Nat) (W : World) : Prop where
  how : rowsC.ow W (c + 1) [u] rows fp
  lx : Loc3 W X (.string nm) (.int .i64 ar) u
  lr : Loc3 W w.heap.size (.string ⟨#[]⟩) (.int .i64 0) (.slice none 0 0)
  xb : c < X
  cb : w.heap.size < c
  cu : Cur W c v l
  bl : Below w.heap.size w W
theorem Sb.alloc {w : World} {c : Nat} {v : Value} {l : List UInt8} {X : Nat} {nm : ByteArray} {ar : Int} {u : Value} {rows : List (List Int)} {fp : List Nat} {W : World} (h : Sb w c v l X nm ar u rows fp W) (o : Obj) : Sb w c v l X nm ar u rows fp (W.alloc o) :=
  ⟨Cd.ow_later h.how (below_alloc W o), h.lx.later (below_alloc W o), h.lr.later (below_alloc W o), h.xb, h.cb, cur_allocI o h.cu, Tab.below_then h.bl (below_alloc W o)⟩
theorem Sb.drew {w : World} {c : Nat} {v : Value} {l : List UInt8} {X : Nat} {nm : ByteArray} {ar : Int} {u : Value} {rows : List (List Int)} {fp : List Nat} {W : World} (h : Sb w c v l X nm ar u rows fp W) : Sb w c v l X nm ar u rows fp W.drew :=
  ⟨rowsC.ow_keep h.how fun _ _ => rfl, h.lx.keep rfl, h.lr.keep rfl, h.xb, h.cb, h.cu, Below.drew h.bl⟩
theorem Sb.grown {w : World} {c : Nat} {v : Value} {l : List UInt8} {X : Nat} {nm : ByteArray} {ar : Int} {u : Value} {rows : List (List Int)} {fp : List Nat} {W W' : World} (h : Sb w c v l X nm ar u rows fp W) (hg : W.grownBy W' (some c)) (hc : Cur W' c v l) : Sb w c v l X nm ar u rows fp W' :=
  have h1 := h.cb
  have h2 := h.xb
  ⟨ow_grown h.how hg (by omega), loc_grown h.lx hg (by omega), loc_grown h.lr hg (by omega), h.xb, h.cb, hc, h.bl.trans (below_of hg (by omega) (cur_size h.cu))⟩

theorem Sb.cell {w : World} {c : Nat} {v : Value} {l : List UInt8} {X : Nat} {nm : ByteArray} {ar : Int} {b off cap : Nat} {rows : List (List Int)} {fp : List Nat} {W : World} (h : Sb w c v l X nm ar (.slice (some ⟨b, off, none⟩) rows.length cap) rows fp W) {j : Nat} (hj : j < rows.length) :
    ∃ u, W.cell? ⟨b, off + j, none⟩ = some u ∧ rowC.rd W (· < W.heap.size) [u] rows[j] := by
  obtain ⟨b', off', cap', u, e1, hb, hc, hu⟩ := rows_at (Cd.reads h.how) hj
  injection e1 with e1 e2 e3
  injection e1 with e1
  injection e1 with e4 e5 e6
  subst e4 e5
  exact ⟨u, hc, hu⟩
theorem Sb.touched {w : World} {c : Nat} {v : Value} {l : List UInt8} {X : Nat} {nm : ByteArray} {ar : Int} {u : Value} {rows : List (List Int)} {fp : List Nat} {W W' : World} {L : Nat} (h : Sb w c v l X nm ar u rows fp W) (ht : Cd.Touch [L] W W') (hL : L ∉ fp ∧ X < L) : Sb w c v l X nm ar u rows fp W' := by
  have h1 := h.cb
  have h2 := h.xb
  obtain ⟨h3, h4⟩ := hL
  refine ⟨Cd.ow_touched h.how ht (fun b hb q => h3 (by rw [List.mem_singleton.1 q] at hb; exact hb)), h.lx.touched ht (by simp; omega), h.lr.touched ht (by simp; omega), h.xb, h.cb, ?_, ?_⟩
  · obtain ⟨i, x, hi, hh⟩ := h.cu
    exact ⟨i, x, hi, ht.row hh (by simp; omega)⟩
  · exact Cd.Touch.below h.bl ht (fun b hb => by rw [List.mem_singleton.1 hb]; omega)
theorem Sb.fresh {w : World} {c : Nat} {v : Value} {l : List UInt8} {X : Nat} {nm : ByteArray} {ar : Int} {u : Value} {rows : List (List Int)} {fp : List Nat} {W : World} (h : Sb w c v l X nm ar u rows fp W) : W.heap.size ∉ fp ∧ X < W.heap.size :=
  ⟨fun q => Nat.lt_irrefl _ (rowsC.ow_lt h.how _ q).2, h.lx.lt⟩
theorem Sb.base {w : World} {c : Nat} {v : Value} {l : List UInt8} {X : Nat} {nm : ByteArray} {ar : Int} {u : Value} {rows : List (List Int)} {fp : List Nat} {W : World} (h : Sb w c v l X nm ar u rows fp W) : c + 1 ≤ W.heap.size := by
  have := h.lx.lt
  have := h.xb
  omega

theorem reads_new {α : Type} {c : Cd α} {w : World} {base B : Nat} {us : List Value} {a : α} {fp : List Nat} (h : c.ow w base us a fp) (hb : B ≤ base) : c.rd w (fun b => B ≤ b ∧ b < w.heap.size) us a :=
  c.mono (c.ow_rd h) fun b _ hq => ⟨Nat.le_trans hb (c.ow_lt h b hq).1, (c.ow_lt h b hq).2⟩
/-- A drawn table and a drawn row. -/
def BothAns (w : World) (e : Ending) (w' : World) : Prop :=
  ∃ (nm : ByteArray) (ar : Int) (u v : Value) (rows : List (List Int)) (row : List Int), e = .returned (.tuple #[.agg #[.string nm, .int .i64 ar, u], v]) ∧ nm.size ≤ 2 ∧ (-1 ≤ ar ∧ ar ≤ 4) ∧ rowsC.rd w' (fun b => w.heap.size ≤ b ∧ b < w'.heap.size) [u] rows ∧ rowsWt rows ≤ 28 ∧ rowC.rd w' (fun b => w.heap.size ≤ b ∧ b < w'.heap.size) [v] row ∧ row.length ≤ 28 ∧ Below w.heap.size w w'
theorem Sb.done {w : World} {c : Nat} {v : Value} {l : List UInt8} {X : Nat} {nm : ByteArray} {ar : Int} {u : Value} {rows : List (List Int)} {fp : List Nat} {W : World} (h : Sb w c v l X nm ar u rows fp W) (hnm : nm.size ≤ 2) (har : -1 ≤ ar ∧ ar ≤ 4) (hwt : rowsWt rows ≤ 28) {v' : Value} {row : List Int} {f : List Nat} (hv : rowC.ow W (c + 1) [v'] row f) (hvl : row.length ≤ 28) (x y z : Value) :
    BothAns w (.returned (.tuple #[.agg #[.string nm, .int .i64 ar, u], v'])) (((W.setCell ⟨w.heap.size, 0, none⟩ x).setCell ⟨w.heap.size, 1, none⟩ y).setCell ⟨w.heap.size, 2, none⟩ z) := by
  have h1 := h.cb
  have hn : w.heap.size ∉ fp := fun q => by have h1 := (rowsC.ow_lt h.how _ q).1; omega
  have hn2 : w.heap.size ∉ f := fun q => by have h1 := (rowC.ow_lt hv _ q).1; omega
  exact ⟨nm, ar, u, v', rows, row, rfl, hnm, har, reads_new (ow_setCell (ow_setCell (ow_setCell h.how hn _) hn _) hn _) (by omega), hwt, reads_new (ow_setCell (ow_setCell (ow_setCell hv hn2 _) hn2 _) hn2 _) (by omega), hvl,
    ((h.bl.setCell (Nat.le_refl _) _).setCell (Nat.le_refl _) _).setCell (Nat.le_refl _) _⟩

/-- The same, behind the result's store too. -/
structure S4 (w : World) (c : Nat) (v : Value) (l : List UInt8) (X : Nat) (nm : ByteArray) (ar : Int) (u : Value) (rows : List (List Int)) (fp : List Nat) (W : World) : Prop where
  how : rowsC.ow W (c + 1) [u] rows fp
  lx : Loc3 W X (.string nm) (.int .i64 ar) u
  lr : ∃ p q r, Loc3 W w.heap.size p q r
  xb : c < X
  cb : w.heap.size < c
  cu : Cur W c v l
  bl : Below w.heap.size w W
theorem S4.of {w : World} {c : Nat} {v : Value} {l : List UInt8} {X : Nat} {nm : ByteArray} {ar : Int} {u : Value} {rows : List (List Int)} {fp : List Nat} {W : World} (h : Sb w c v l X nm ar u rows fp W) : S4 w c v l X nm ar u rows fp W := ⟨h.how, h.lx, ⟨_, _, _, h.lr⟩, h.xb, h.cb, h.cu, h.bl⟩
theorem S4.alloc {w : World} {c : Nat} {v : Value} {l : List UInt8} {X : Nat} {nm : ByteArray} {ar : Int} {u : Value} {rows : List (List Int)} {fp : List Nat} {W : World} (h : S4 w c v l X nm ar u rows fp W) (o : Obj) : S4 w c v l X nm ar u rows fp (W.alloc o) :=
  have ⟨_, _, _, hl⟩ := h.lr
  ⟨Cd.ow_later h.how (below_alloc W o), h.lx.later (below_alloc W o), ⟨_, _, _, hl.later (below_alloc W o)⟩, h.xb, h.cb, cur_allocI o h.cu, Tab.below_then h.bl (below_alloc W o)⟩
theorem S4.drew {w : World} {c : Nat} {v : Value} {l : List UInt8} {X : Nat} {nm : ByteArray} {ar : Int} {u : Value} {rows : List (List Int)} {fp : List Nat} {W : World} (h : S4 w c v l X nm ar u rows fp W) : S4 w c v l X nm ar u rows fp W.drew :=
  have ⟨_, _, _, hl⟩ := h.lr
  ⟨rowsC.ow_keep h.how fun _ _ => rfl, h.lx.keep rfl, ⟨_, _, _, hl.keep rfl⟩, h.xb, h.cb, h.cu, Below.drew h.bl⟩
theorem S4.grown {w : World} {c : Nat} {v : Value} {l : List UInt8} {X : Nat} {nm : ByteArray} {ar : Int} {u : Value} {rows : List (List Int)} {fp : List Nat} {W W' : World} (h : S4 w c v l X nm ar u rows fp W) (hg : W.grownBy W' (some c)) (hc : Cur W' c v l) : S4 w c v l X nm ar u rows fp W' :=
  have h1 := h.cb
  have h2 := h.xb
  have ⟨_, _, _, hl⟩ := h.lr
  ⟨ow_grown h.how hg (by omega), loc_grown h.lx hg (by omega), ⟨_, _, _, loc_grown hl hg (by omega)⟩, h.xb, h.cb, hc, h.bl.trans (below_of hg (by omega) (cur_size h.cu))⟩
theorem S4.fresh {w : World} {c : Nat} {v : Value} {l : List UInt8} {X : Nat} {nm : ByteArray} {ar : Int} {u : Value} {rows : List (List Int)} {fp : List Nat} {W : World} (h : S4 w c v l X nm ar u rows fp W) : W.heap.size ∉ fp ∧ X < W.heap.size :=
  ⟨fun q => Nat.lt_irrefl _ (rowsC.ow_lt h.how _ q).2, h.lx.lt⟩
theorem S4.base {w : World} {c : Nat} {v : Value} {l : List UInt8} {X : Nat} {nm : ByteArray} {ar : Int} {u : Value} {rows : List (List Int)} {fp : List Nat} {W : World} (h : S4 w c v l X nm ar u rows fp W) : c + 1 ≤ W.heap.size := by
  have := h.lx.lt
  have := h.xb
  omega
theorem S4.touched {w : World} {c : Nat} {v : Value} {l : List UInt8} {X : Nat} {nm : ByteArray} {ar : Int} {u : Value} {rows : List (List Int)} {fp : List Nat} {W W' : World} {L : Nat} (h : S4 w c v l X nm ar u rows fp W) (ht : Cd.Touch [L] W W') (hL : L ∉ fp ∧ X < L) : S4 w c v l X nm ar u rows fp W' := by
  have h1 := h.cb
  have h2 := h.xb
  obtain ⟨h3, h4⟩ := hL
  obtain ⟨_, _, _, hl⟩ := h.lr
  refine ⟨Cd.ow_touched h.how ht (fun b hb q => h3 (by rw [List.mem_singleton.1 q] at hb; exact hb)), h.lx.touched ht (by simp; omega), ⟨_, _, _, hl.touched ht (by simp; omega)⟩, h.xb, h.cb, ?_, ?_⟩
  · obtain ⟨i, x, hi, hh⟩ := h.cu
    exact ⟨i, x, hi, ht.row hh (by simp; omega)⟩
  · exact Cd.Touch.below h.bl ht (fun b hb => by rw [List.mem_singleton.1 hb]; omega)
theorem S4.cell {w : World} {c : Nat} {v : Value} {l : List UInt8} {X : Nat} {nm : ByteArray} {ar : Int} {b off cap : Nat} {rows : List (List Int)} {fp : List Nat} {W : World} (h : S4 w c v l X nm ar (.slice (some ⟨b, off, none⟩) rows.length cap) rows fp W) {j : Nat} (hj : j < rows.length) :
    ∃ u, W.cell? ⟨b, off + j, none⟩ = some u ∧ rowC.rd W (· < W.heap.size) [u] rows[j] := by
  obtain ⟨b', off', cap', u, e1, hb, hc, hu⟩ := rows_at (Cd.reads h.how) hj
  injection e1 with e1 e2 e3
  injection e1 with e1
  injection e1 with e4 e5 e6
  subst e4 e5
  exact ⟨u, hc, hu⟩
theorem S4.store {w : World} {c : Nat} {v : Value} {l : List UInt8} {X : Nat} {nm : ByteArray} {ar : Int} {u : Value} {rows : List (List Int)} {fp : List Nat} {W : World} (h : S4 w c v l X nm ar u rows fp W) (x y z : Value) :
    S4 w c v l X nm ar u rows fp (((W.setCell ⟨w.heap.size, 0, none⟩ x).setCell ⟨w.heap.size, 1, none⟩ y).setCell ⟨w.heap.size, 2, none⟩ z) := by
  have h1 := h.cb
  have h2 := h.xb
  obtain ⟨p, q, r, hl⟩ := h.lr
  have hn : w.heap.size ∉ fp := fun q => by have h1 := (rowsC.ow_lt h.how _ q).1; omega
  have hne : c ≠ w.heap.size := by omega
  have hx : X ≠ w.heap.size := by omega
  obtain ⟨c0, c1, c2, f0, f1, f2⟩ := hl
  obtain ⟨k0, k1, k2⟩ := set3 (w := W) (k := w.heap.size) (x := x) (y := y) (z := z) c0 c1 c2
  exact ⟨ow_setCell (ow_setCell (ow_setCell h.how hn _) hn _) hn _, Loc3.set_far (Loc3.set_far (Loc3.set_far h.lx hx.symm _) hx.symm _) hx.symm _, ⟨_, _, _, k0, k1, k2, by simpa using f0, by simpa using f1, by simpa using f2⟩, h.xb, h.cb,
    cur_farI _ (cur_farI _ (cur_farI _ h.cu hne) hne) hne, ((h.bl.setCell (Nat.le_refl _) _).setCell (Nat.le_refl _) _).setCell (Nat.le_refl _) _⟩
theorem S4.all {w : World} {c : Nat} {v : Value} {l : List UInt8} {X : Nat} {nm : ByteArray} {ar : Int} {u : Value} {rows : List (List Int)} {fp : List Nat} {W : World} (h : S4 w c v l X nm ar u rows fp W) : W.cell? ⟨X, 0, none⟩ = some (.string nm) ∧ W.cell? ⟨X, 1, none⟩ = some (.int .i64 ar) ∧ W.cell? ⟨X, 2, none⟩ = some u ∧ S4 w c v l X nm ar u rows fp W :=
  ⟨h.lx.c0, h.lx.c1, h.lx.c2, h⟩
theorem S4.done {w : World} {c : Nat} {v : Value} {l : List UInt8} {X : Nat} {nm : ByteArray} {ar : Int} {u : Value} {rows : List (List Int)} {fp : List Nat} {W : World} (h : S4 w c v l X nm ar u rows fp W) (hnm : nm.size ≤ 2) (har : -1 ≤ ar ∧ ar ≤ 4) (hwt : rowsWt rows ≤ 28) {v' : Value} {row : List Int} {f : List Nat} (hv : rowC.ow W (c + 1) [v'] row f) (hvl : row.length ≤ 28) (x y z : Value) :
    BothAns w (.returned (.tuple #[.agg #[.string nm, .int .i64 ar, u], v'])) (((W.setCell ⟨w.heap.size, 0, none⟩ x).setCell ⟨w.heap.size, 1, none⟩ y).setCell ⟨w.heap.size, 2, none⟩ z) := by
  have h1 := h.cb
  have hn : w.heap.size ∉ fp := fun q => by have h1 := (rowsC.ow_lt h.how _ q).1; omega
  have hn2 : w.heap.size ∉ f := fun q => by have h1 := (rowC.ow_lt hv _ q).1; omega
  exact ⟨nm, ar, u, v', rows, row, rfl, hnm, har, reads_new (ow_setCell (ow_setCell (ow_setCell h.how hn _) hn _) hn _) (by omega), hwt, reads_new (ow_setCell (ow_setCell (ow_setCell hv hn2 _) hn2 _) hn2 _) (by omega), hvl,
    ((h.bl.setCell (Nat.le_refl _) _).setCell (Nat.le_refl _) _).setCell (Nat.le_refl _) _⟩
/-- An empty slice of the call's own. -/
structure Emp (c X : Nat) (fp : List Nat) (L : Nat) (W : World) : Prop where
  how : rowC.ow W (c + 1) [.slice (some ⟨L, 0, none⟩) 0 0] [] [L]
  far : L ∉ fp ∧ X < L
theorem S4.emp {w : World} {c : Nat} {v : Value} {l : List UInt8} {X : Nat} {nm : ByteArray} {ar : Int} {u : Value} {rows : List (List Int)} {fp : List Nat} {W : World} (h : S4 w c v l X nm ar u rows fp W) : Emp c X fp W.heap.size (W.alloc (.cells #[] 3)) :=
  ⟨Cd.ow_empty W _ h.base, h.fresh⟩
theorem Emp.grown {c X : Nat} {fp : List Nat} {L : Nat} {W W' : World} (h : Emp c X fp L W) (hg : W.grownBy W' (some c)) : Emp c X fp L W' := ⟨ow_grown h.how hg (Nat.lt_succ_self c), h.far⟩
theorem S4.emp_grown {w : World} {c : Nat} {v : Value} {l : List UInt8} {X : Nat} {nm : ByteArray} {ar : Int} {u : Value} {rows : List (List Int)} {fp : List Nat} {W W' : World} (h : S4 w c v l X nm ar u rows fp W) (hg : (W.alloc (.cells #[] 3)).grownBy W' (some c)) : Emp c X fp W.heap.size W' := h.emp.grown hg
theorem S4.emp_grown' {w : World} {c : Nat} {v : Value} {l : List UInt8} {X : Nat} {nm : ByteArray} {ar : Int} {u : Value} {rows : List (List Int)} {fp : List Nat} {W W' : World} (h : S4 w c v l X nm ar u rows fp W.drew) (hg : (W.drew.alloc (.cells #[] 3)).grownBy W' (some c)) : Emp c X fp W.heap.size W' := h.emp.grown hg

/-- The same, and block bb holds what it held. -/
structure S5 (w : World) (c : Nat) (v : Value) (l : List UInt8) (X : Nat) (nm : ByteArray) (ar : Int) (u : Value) (rows : List (List Int)) (fp : List Nat) (bb oo : Nat) (U : Nat → Value) (W : World) : Prop where
  st : S4 w c v l X nm ar u rows fp W
  mem : bb ∈ fp
  el : ∀ j, j < rows.length → W.cell? ⟨bb, oo + j, none⟩ = some (U j)
theorem S5.keep {w : World} {c : Nat} {v : Value} {l : List UInt8} {X : Nat} {nm : ByteArray} {ar : Int} {u : Value} {rows : List (List Int)} {fp : List Nat} {bb oo : Nat} {U : Nat → Value} {W W' : World} (h : S5 w c v l X nm ar u rows fp bb oo U W) (h' : S4 w c v l X nm ar u rows fp W') (e : W'.heap[bb]? = W.heap[bb]?) : S5 w c v l X nm ar u rows fp bb oo U W' :=
  ⟨h', h.mem, fun j hj => by
    have := h.el j hj
    unfold World.cell? at *
    rw [e]
    exact this⟩
theorem S5.alloc {w : World} {c : Nat} {v : Value} {l : List UInt8} {X : Nat} {nm : ByteArray} {ar : Int} {u : Value} {rows : List (List Int)} {fp : List Nat} {bb oo : Nat} {U : Nat → Value} {W : World} (h : S5 w c v l X nm ar u rows fp bb oo U W) (o : Obj) : S5 w c v l X nm ar u rows fp bb oo U (W.alloc o) :=
  h.keep (h.st.alloc o) ((below_alloc W o).block bb (rowsC.ow_lt h.st.how bb h.mem).2)
theorem S5.grown {w : World} {c : Nat} {v : Value} {l : List UInt8} {X : Nat} {nm : ByteArray} {ar : Int} {u : Value} {rows : List (List Int)} {fp : List Nat} {bb oo : Nat} {U : Nat → Value} {W W' : World} (h : S5 w c v l X nm ar u rows fp bb oo U W) (hg : W.grownBy W' (some c)) (hc : Cur W' c v l) : S5 w c v l X nm ar u rows fp bb oo U W' :=
  h.keep (h.st.grown hg hc) (hg.block bb (rowsC.ow_lt h.st.how bb h.mem).2 (by intro q; injection q with q; have := (rowsC.ow_lt h.st.how bb h.mem).1; omega))
theorem S5.touched {w : World} {c : Nat} {v : Value} {l : List UInt8} {X : Nat} {nm : ByteArray} {ar : Int} {u : Value} {rows : List (List Int)} {fp : List Nat} {bb oo : Nat} {U : Nat → Value} {W W' : World} {L : Nat} (h : S5 w c v l X nm ar u rows fp bb oo U W) (ht : Cd.Touch [L] W W') (hL : L ∉ fp ∧ X < L) : S5 w c v l X nm ar u rows fp bb oo U W' :=
  h.keep (h.st.touched ht hL) (ht.block bb (rowsC.ow_lt h.st.how bb h.mem).2 (by rw [List.mem_singleton]; intro q; exact hL.1 (q ▸ h.mem)))
theorem S5.store {w : World} {c : Nat} {v : Value} {l : List UInt8} {X : Nat} {nm : ByteArray} {ar : Int} {u : Value} {rows : List (List Int)} {fp : List Nat} {bb oo : Nat} {U : Nat → Value} {W : World} (h : S5 w c v l X nm ar u rows fp bb oo U W) (x y z : Value) :
    S5 w c v l X nm ar u rows fp bb oo U (((W.setCell ⟨w.heap.size, 0, none⟩ x).setCell ⟨w.heap.size, 1, none⟩ y).setCell ⟨w.heap.size, 2, none⟩ z) := by
  have hb : bb ≠ w.heap.size := by have := (rowsC.ow_lt h.st.how bb h.mem).1; have := h.st.cb; omega
  refine h.keep (h.st.store x y z) ?_
  rw [Below.heap_setCell _ _ _ _ (by exact hb), Below.heap_setCell _ _ _ _ (by exact hb), Below.heap_setCell _ _ _ _ (by exact hb)]
theorem S5.all {w : World} {c : Nat} {v : Value} {l : List UInt8} {X : Nat} {nm : ByteArray} {ar : Int} {u : Value} {rows : List (List Int)} {fp : List Nat} {bb oo : Nat} {U : Nat → Value} {W : World} (h : S5 w c v l X nm ar u rows fp bb oo U W) : W.cell? ⟨X, 0, none⟩ = some (.string nm) ∧ W.cell? ⟨X, 1, none⟩ = some (.int .i64 ar) ∧ W.cell? ⟨X, 2, none⟩ = some u ∧ (∀ j, j < rows.length → W.cell? ⟨bb, oo + j, none⟩ = some (U j)) ∧ S5 w c v l X nm ar u rows fp bb oo U W :=
  ⟨h.st.lx.c0, h.st.lx.c1, h.st.lx.c2, h.el, h⟩
theorem minmax (ar : Int) : ∃ n : Nat, n ≤ 3 ∧ (n : Int) = (if 0 < (if ar < 3 then ar else 3) then (if ar < 3 then ar else 3) else 0) :=
  ⟨(if 0 < (if ar < 3 then ar else 3) then (if ar < 3 then ar else 3) else 0).toNat, by split <;> split at * <;> omega, by split <;> split at * <;> omega⟩

end Go.Proofs.YtinchhahcheadaaGreat.TabSpec

namespace Go.Proofs.YtinchhahcheadaaGreat.UpdDraw
open Go Go.RowKit Byt Ints IntsLaw IntsWalk Draw LocDraw Cd Rows2 Tab TabDraw SlMath TabOpen TabElem SlTable Db TabSpec DbMath DbSpec DbExact DbAcc DbDraw Upd

/-- A drawn update. -/
def UpAns (w : World) (c : Nat) (v : Value) (l : List UInt8) (e : Ending) (w' : World) : Prop :=
  ∃ (nm : ByteArray) (b : Bool) (y : Value) (row : List Int) (f : List Nat), e = .returned (.agg #[.string nm, .bool b, y]) ∧ rowC.ow w' w.heap.size [y] row f ∧ f.Nodup ∧ nm.size ≤ 2 ∧ row.length ≤ 40 ∧ Cur w' c v l ∧ w.grownBy w' (some c)
/-- What the drawing of an update asks of the tables. -/
def UpOk (Ts : List T3) : Prop := Ts.length ≤ 7 ∧ ∀ T ∈ Ts, T.1.size ≤ 2 ∧ rowsWt T.2.2 ≤ 40
abbrev OldS (w : World) (c : Nat) : Nat → Prop := fun b => c + 1 ≤ b ∧ b < w.heap.size
/-- In the drawing: the database's box, the result's cells, the cursor. -/
structure U0 (w : World) (c : Nat) (v : Value) (l : List UInt8) (u : Value) (W : World) : Prop where
  lx : Loc1 W w.heap.size u
  lr : Loc3 W (w.heap.size + 1) (.string ⟨#[]⟩) (.bool false) (.slice none 0 0)
  cb : c < w.heap.size
  cu : Cur W c v l
  gr : w.grownBy W (some c)
section
variable {w : World} {c : Nat} {v : Value} {l : List UInt8} {u : Value} {W W' : World}
theorem U0.grown (h : U0 w c v l u W) (hg : W.grownBy W' (some c)) (hc : Cur W' c v l) : U0 w c v l u W' :=
  have h1 := h.cb
  ⟨loc1_grown h.lx hg (by omega), loc_grown h.lr hg (by omega), h1, hc, grown_trans h.gr hg⟩
theorem U0.alloc (h : U0 w c v l u W) (o : Obj) : U0 w c v l u (W.alloc o) := h.grown (World.grownBy_alloc W o (some c)) (cur_allocI o h.cu)
theorem U0.drew (h : U0 w c v l u W) : U0 w c v l u W.drew :=
  ⟨h.lx.drew, h.lr.keep rfl, h.cb, h.cu, ⟨h.gr.os, h.gr.tape, h.gr.output, h.gr.size, h.gr.block⟩⟩
theorem U0.set (h : U0 w c v l u W) {p : Addr} (hp : w.heap.size + 2 ≤ p.block) (x : Value) : U0 w c v l u (W.setCell p x) :=
  have h1 := h.cb
  ⟨h.lx.set_far (by omega) _, h.lr.set_far (by omega) _, h1, cur_farI _ h.cu (by omega), grown_newI _ h.gr (by omega)⟩
theorem U0.old (h : U0 w c v l u W) {b o : Nat} (h1 : c + 1 ≤ b) (h2 : b < w.heap.size) : W.cell? ⟨b, o, none⟩ = w.cell? ⟨b, o, none⟩ := by
  have := h.gr.block b h2 (by intro q; injection q with q; omega)
  unfold World.cell?
  rw [this]
theorem U0.rd {α : Type} {cd : Cd α} {us : List Value} {a : α} (h : U0 w c v l u W) (hr : cd.rd w (OldS w c) us a) : cd.rd W (OldS w c) us a :=
  cd.keep hr fun b hb hlt => h.gr.block b hlt (by intro q; injection q with q; have := hb.1; omega)
theorem U0.sz (h : U0 w c v l u W) : w.heap.size + 2 ≤ W.heap.size := h.lr.lt
theorem U0.touched (h : U0 w c v l u W) {f : List Nat} (ht : Cd.Touch f W W') (hf : ∀ b ∈ f, w.heap.size + 2 ≤ b) : U0 w c v l u W' := by
  have h1 := h.cb
  have hn : ∀ b, b < w.heap.size + 2 → b ∉ f := fun b hb q => by have := hf b q; omega
  obtain ⟨i, x, hi, hh⟩ := h.cu
  exact ⟨h.lx.touched ht (hn _ (by omega)), h.lr.touched ht (hn _ (by omega)), h1, ⟨i, x, hi, ht.row hh (hn _ (by omega))⟩,
    ⟨ht.os.trans h.gr.os, ht.tape.trans h.gr.tape, ht.output.trans h.gr.output, Nat.le_trans h.gr.size ht.size, fun j hj hne => (ht.block j (by have := h.gr.size; omega) (hn _ (by omega))).trans (h.gr.block j hj hne)⟩⟩
/-- The update under way in block q, its row beside. -/
structure U2 (w : World) (c : Nat) (v : Value) (l : List UInt8) (u : Value) (q : Nat) (nm : ByteArray) (b : Bool) (y : Value) (row : List Int) (f : List Nat) (W : World) : Prop where
  st : U0 w c v l u W
  lq : Loc3 W q (.string nm) (.bool b) y
  ow : rowC.ow W (w.heap.size + 2) [y] row f
  nd : f.Nodup
  qb : w.heap.size + 2 ≤ q
  qf : q ∉ f
  nb : nm.size ≤ 2
  rb : row.length ≤ 40
variable {q : Nat} {nm : ByteArray} {b : Bool} {y : Value} {row : List Int} {f : List Nat}
theorem U2.grown (h : U2 w c v l u q nm b y row f W) (hg : W.grownBy W' (some c)) (hc : Cur W' c v l) : U2 w c v l u q nm b y row f W' :=
  have h1 := h.st.cb
  have h2 := h.qb
  ⟨h.st.grown hg hc, loc_grown h.lq hg (by omega), ow_grown h.ow hg (by omega), h.nd, h2, h.qf, h.nb, h.rb⟩
theorem U2.alloc (h : U2 w c v l u q nm b y row f W) (o : Obj) : U2 w c v l u q nm b y row f (W.alloc o) := h.grown (World.grownBy_alloc W o (some c)) (cur_allocI o h.st.cu)
theorem U2.setN (h : U2 w c v l u q nm b y row f W) {nm' : ByteArray} (hn : nm'.size ≤ 2) : U2 w c v l u q nm' b y row f (W.setCell ⟨q, 0, none⟩ (.string nm')) := by
  obtain ⟨c0, c1, c2, f0, f1, f2⟩ := h.lq
  have o1 : (⟨q, 0, none⟩ : Addr) ≠ ⟨q, 1, none⟩ := by simp
  have o2 : (⟨q, 0, none⟩ : Addr) ≠ ⟨q, 2, none⟩ := by simp
  exact ⟨h.st.set h.qb _, ⟨World.cell?_setCell_same _ _ _ c0, (World.cell?_setCell_other _ _ _ _ o1).trans c1, (World.cell?_setCell_other _ _ _ _ o2).trans c2, by simpa using f0, by simpa using f1, by simpa using f2⟩, ow_setCell h.ow h.qf _, h.nd, h.qb, h.qf, hn, h.rb⟩
theorem U2.setB (h : U2 w c v l u q nm b y row f W) (b' : Bool) : U2 w c v l u q nm b' y row f (W.setCell ⟨q, 1, none⟩ (.bool b')) := by
  obtain ⟨c0, c1, c2, f0, f1, f2⟩ := h.lq
  have o1 : (⟨q, 1, none⟩ : Addr) ≠ ⟨q, 0, none⟩ := by simp
  have o2 : (⟨q, 1, none⟩ : Addr) ≠ ⟨q, 2, none⟩ := by simp
  exact ⟨h.st.set h.qb _, ⟨(World.cell?_setCell_other _ _ _ _ o1).trans c0, World.cell?_setCell_same _ _ _ c1, (World.cell?_setCell_other _ _ _ _ o2).trans c2, by simpa using f0, by simpa using f1, by simpa using f2⟩, ow_setCell h.ow h.qf _, h.nd, h.qb, h.qf, h.nb, h.rb⟩
theorem U2.setR (h : U2 w c v l u q nm b y row f W) {y' : Value} {row' : List Int} {f' : List Nat} (ho : rowC.ow W (w.heap.size + 2) [y'] row' f') (hn : f'.Nodup) (hq : q ∉ f') (hr : row'.length ≤ 40) : U2 w c v l u q nm b y' row' f' (W.setCell ⟨q, 2, none⟩ y') := by
  obtain ⟨c0, c1, c2, f0, f1, f2⟩ := h.lq
  have o1 : (⟨q, 2, none⟩ : Addr) ≠ ⟨q, 0, none⟩ := by simp
  have o2 : (⟨q, 2, none⟩ : Addr) ≠ ⟨q, 1, none⟩ := by simp
  exact ⟨h.st.set h.qb _, ⟨(World.cell?_setCell_other _ _ _ _ o1).trans c0, (World.cell?_setCell_other _ _ _ _ o2).trans c1, World.cell?_setCell_same _ _ _ c2, by simpa using f0, by simpa using f1, by simpa using f2⟩, ow_setCell ho hq _, hn, h.qb, hq, h.nb, hr⟩
/-- The result is stored. -/
theorem U2.done (h : U2 w c v l u q nm b y row f W) : UpAns w c v l (.returned (.agg #[.string nm, .bool b, y])) (((W.setCell ⟨w.heap.size + 1, 0, none⟩ (.string nm)).setCell ⟨w.heap.size + 1, 1, none⟩ (.bool b)).setCell ⟨w.heap.size + 1, 2, none⟩ y) := by
  have h1 := h.st.cb
  have hf : w.heap.size + 1 ∉ f := fun q => by have := (rowC.ow_lt h.ow _ q).1; omega
  have hc : c ≠ w.heap.size + 1 := by omega
  have hs : w.heap.size ≤ w.heap.size + 1 := by omega
  exact ⟨nm, b, y, row, f, rfl, ow_setCell (ow_setCell (ow_setCell (rowC.ow_base h.ow (by omega)) hf _) hf _) hf _, h.nd, h.nb, h.rb, cur_farI _ (cur_farI _ (cur_farI _ h.st.cu hc) hc) hc, grown_newI _ (grown_newI _ (grown_newI _ h.st.gr hs) hs) hs⟩
/-- The chosen table beside, in block p. -/
structure U1 (w : World) (c : Nat) (v : Value) (l : List UInt8) (u : Value) (p : Nat) (T : T3) (z : Value) (W : World) : Prop where
  st : U0 w c v l u W
  lp : Loc3 W p (.string T.1) (.int .i64 T.2.1) z
  rt : rowsC.rd w (OldS w c) [z] T.2.2
  pb : w.heap.size + 2 ≤ p
variable {p : Nat} {T : T3} {z : Value}
theorem U1.grown (h : U1 w c v l u p T z W) (hg : W.grownBy W' (some c)) (hc : Cur W' c v l) : U1 w c v l u p T z W' :=
  have h1 := h.st.cb
  have h2 := h.pb
  ⟨h.st.grown hg hc, loc_grown h.lp hg (by omega), h.rt, h2⟩
theorem U1.alloc (h : U1 w c v l u p T z W) (o : Obj) : U1 w c v l u p T z (W.alloc o) := h.grown (World.grownBy_alloc W o (some c)) (cur_allocI o h.st.cu)
theorem U1.drew (h : U1 w c v l u p T z W) : U1 w c v l u p T z W.drew := ⟨h.st.drew, h.lp.keep rfl, h.rt, h.pb⟩
theorem U1.set (h : U1 w c v l u p T z W) {a : Addr} (ha : w.heap.size + 2 ≤ a.block) (hp : a.block ≠ p) (x : Value) : U1 w c v l u p T z (W.setCell a x) := ⟨h.st.set ha x, h.lp.set_far hp _, h.rt, h.pb⟩
end
end Go.Proofs.YtinchhahcheadaaGreat.UpdDraw
