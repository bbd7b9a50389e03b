/- Texts that the proof rests on, one behind the other. -/
import Derived.Test.YteihnbnlfocgmaaGreatDoorCdN
import Derived.Test.YteihnbnlfocgmaaGreatDoorMg2Databases
import Derived.Deep.RegionHeld3
import Derived.Test.YteihnbnlfocgmaaGreatDoorDbExact
import Derived.Maps.OwnSet
import Derived.Maps.RangeWalk
import Derived.Test.YteihnbnlfocgmaaGreatDoorTabImp2
import Derived.Test.YteihnbnlfocgmaaGreatDoorTabCopy
import Derived.Laws.CopyOwn
import Derived.Test.YteihnbnlfocgmaaGreatDoorMg1Databases
import Derived.Test.YteihnbnlfocgmaaGreatDoorExact
import Derived.Test.YteihnbnlfocgmaaGreatDoorShelf
import Derived.Deep.RegionLaw
import Derived.Test.YteihnbnlfocgmaaGreatDoorDbAcc
import Derived.Sort.Row

namespace Go.Proofs.YteihnbnlfocgmaaGreatDoor.Cd
open Go Go.RowKit
namespace Cd
variable {α : Type}

/-- What an append of two elements of several cells leaves. -/
theorem ow_appendedN2 {e : TypeId} {c : Cd α} {w w' : World} {base g cap : Nat} {v : Value} {us us2 : List Value} {l : List α} {y y2 : α} {fp f f2 : List Nat} {xss : List (List Value)} {fps : List (List Nat)}
    (hE : Each c w base xss l fps) (hfp : fp = v.ownBlock.toList ++ fps.flatten) (hd : fp.Nodup) (hlt : ∀ b ∈ fp, b < w.heap.size) (hy : c.ow w base us y f) (hfd : f.Nodup) (hdis : ∀ b ∈ f, b ∉ fp)
    (hy2 : c.ow w base us2 y2 f2) (hfd2 : f2.Nodup) (hdis2 : ∀ b ∈ f2, b ∉ fp) (h12 : ∀ b ∈ f, b ∉ f2)
    (h2 : w'.ownsRow base e c.n (.slice (some ⟨g, 0, none⟩) (l.length + 2) cap) (l.length + 2) (xss.flatten ++ (us ++ us2))) (h3 : w.grownBy w' v.ownBlock) (h4 : v.ownBlock = some g ∨ g = w.heap.size) :
    ∃ fp', (sl e c).ow w' base [.slice (some ⟨g, 0, none⟩) (l.length + 2) cap] (l ++ [y, y2]) fp' ∧ fp'.Nodup ∧ (∀ b ∈ fp', b ∈ fp ∨ b ∈ f ∨ b ∈ f2 ∨ w.heap.size ≤ b) ∧ Touch fp w w' := by
  subst hfp
  have hd' := List.nodup_append.1 hd
  have hkeep : ∀ b, b < w.heap.size → v.ownBlock ≠ some b → w'.heap[b]? = w.heap[b]? := fun b hb hne => h3.block b hb fun q => hne q.symm
  have hin : ∀ b ∈ fps.flatten, w'.heap[b]? = w.heap[b]? := fun b hb => hkeep b (hlt b (List.mem_append_right _ hb)) fun q => hd'.2.2 b (by rw [q]; simp) b hb rfl
  have hf : ∀ b ∈ f, w'.heap[b]? = w.heap[b]? := fun b hb => hkeep b (c.ow_lt hy b hb).2 fun q => hdis b hb (List.mem_append_left _ (by rw [q]; simp))
  have hf2 : ∀ b ∈ f2, w'.heap[b]? = w.heap[b]? := fun b hb => hkeep b (c.ow_lt hy2 b hb).2 fun q => hdis2 b hb (List.mem_append_left _ (by rw [q]; simp))
  have hE2 : Each c w' base ((xss ++ [us]) ++ [us2]) ((l ++ [y]) ++ [y2]) ((fps ++ [f]) ++ [f2]) := ((hE.imp fun x a g hg hq => c.ow_keep hq fun b hb => hin b (List.mem_flatten.2 ⟨g, hg, hb⟩)).snoc (c.ow_keep hy hf)).snoc (c.ow_keep hy2 hf2)
  have el : l ++ [y, y2] = (l ++ [y]) ++ [y2] := by simp
  have hlen : ((l ++ [y]) ++ [y2]).length = l.length + 2 := by simp
  have hgn : ∀ b ∈ fps.flatten ++ (f ++ f2), b ≠ g := fun b hb q => by
    subst q
    rcases h4 with q | q
    · rcases List.mem_append.1 hb with r | r
      · exact hd'.2.2 b (by rw [q]; simp) b r rfl
      · rcases List.mem_append.1 r with r | r
        · exact hdis b r (List.mem_append_left _ (by rw [q]; simp))
        · exact hdis2 b r (List.mem_append_left _ (by rw [q]; simp))
    · rcases List.mem_append.1 hb with r | r
      · have := hlt b (List.mem_append_right _ r)
        omega
      · rcases List.mem_append.1 r with r | r
        · have := (c.ow_lt hy b r).2
          omega
        · have := (c.ow_lt hy2 b r).2
          omega
  have efl : ((fps ++ [f]) ++ [f2]).flatten = fps.flatten ++ (f ++ f2) := by simp
  rw [el]
  refine ⟨_, ⟨_, _, _, rfl, ?_, hE2, rfl⟩, ?_, ?_, ⟨h3.os, h3.tape, h3.output, h3.size, fun k hk hne => hkeep k hk fun q => hne (List.mem_append_left _ (by rw [q]; simp))⟩⟩
  · rw [hlen, List.flatten_append, List.flatten_append]
    simpa using h2
  · rw [efl]
    simp only [Value.ownBlock, Option.toList_some, List.cons_append, List.nil_append, List.nodup_cons]
    refine ⟨fun q => hgn g q rfl, List.nodup_append.2 ⟨hd'.2.1, List.nodup_append.2 ⟨hfd, hfd2, fun a ha b hb q => h12 a ha (q ▸ hb)⟩, fun a ha b hb q => ?_⟩⟩
    subst q
    rcases List.mem_append.1 hb with r | r
    · exact hdis a r (List.mem_append_right _ ha)
    · exact hdis2 a r (List.mem_append_right _ ha)
  · intro b hb
    rw [efl] at hb
    simp only [Value.ownBlock, Option.toList_some, List.cons_append, List.nil_append] at hb
    rcases List.mem_cons.1 hb with rfl | q
    · rcases h4 with q | q
      · exact .inl (List.mem_append_left _ (by rw [q]; simp))
      · exact .inr (.inr (.inr (by omega)))
    · rcases List.mem_append.1 q with r | r
      · exact .inl (List.mem_append_right _ r)
      · rcases List.mem_append.1 r with r | r
        · exact .inr (.inl r)
        · exact .inr (.inr (.inl r))
/-- append(v, y, y2), elements of several cells that the call owns. -/
theorem wp_appendN2 {P : Program} {c : Cd α} {o : Oper} {a : Act} {K : Act → World → Prop} {Q : Exit → Act → World → Prop} {w : World} (s x : Operand) (t : TypeId)
    (ho : o.op = .call { callee := .builtin .append, args := #[s, x], argTypes := #[t, t] })
    (base : Nat) (e : TypeId) (z : Value) (size bytes : Nat) (hn : c.n = size) (ht : P.underlying t = some (.slice e)) (hinfo : (P.info? e).map (fun i => (i.zero, i.size, i.bytes)) = some (some z, size, bytes)) (hzs : z.cells.size = size) (hby : bytes ≤ 10000)
    (v : Value) (l : List α) (fp : List Nat) (hs : a.eval s = v) (how : (sl e c).ow w base [v] l fp) (hd : fp.Nodup) (b : Nat) (us us2 : List Value) (hx : a.eval x = .slice (some ⟨b, 0, none⟩) 2 2) (hu : At w b 0 (us ++ us2))
    (y : α) (f : List Nat) (hy : c.ow w base us y f) (hfd : f.Nodup) (hdis : ∀ b ∈ f, b ∉ fp) (y2 : α) (f2 : List Nat) (hy2 : c.ow w base us2 y2 f2) (hfd2 : f2.Nodup) (hdis2 : ∀ b ∈ f2, b ∉ fp) (h12 : ∀ b ∈ f, b ∉ f2) (hlen : l.length + 2 ≤ 1000000000) (hbase : base ≤ w.heap.size)
    (h : ∀ g cap w' fp', (sl e c).ow w' base [.slice (some ⟨g, 0, none⟩) (l.length + 2) cap] (l ++ [y, y2]) fp' → fp'.Nodup → (∀ b ∈ fp', b ∈ fp ∨ b ∈ f ∨ b ∈ f2 ∨ w.heap.size ≤ b) → Touch fp w w' →
      K (a.put o.dst (.slice (some ⟨g, 0, none⟩) (l.length + 2) cap)) w') : o.wp P a w K Q := by
  obtain ⟨i0, hi, hz0, hz1, hz2⟩ := info_parts hinfo
  have hlt : ∀ b ∈ fp, b < w.heap.size := fun b hb => ((sl e c).ow_lt how b hb).2
  obtain ⟨v', xss, fps, e1, hown, hE, hfp⟩ := how
  injection e1 with e1 _
  subst e1
  have hul : us.length = size := (c.len (c.ow_rd hy)).trans hn
  have hul2 : us2.length = size := (c.len (c.ow_rd hy2)).trans hn
  have hpos : 0 < size := by rw [← hn]; exact c.pos
  rw [hn] at hown
  refine wp_append_lies w s x t ho base e i0 z size bytes ht hi hz0 hz1 hz2 hzs hpos v l.length xss.flatten hs hown ⟨b, 0, none⟩ 2 2 (us ++ us2) hx (by rw [List.length_append]; omega) ?_ (fun u' hu' => ?_) (by decide) (by unfold maxLen; omega) ?_ hbase w.heap.size rfl ?_
  · intro j u' hj
    obtain ⟨hj1, hj2⟩ := List.getElem?_eq_some_iff.1 hj
    have ha : (⟨b, 0, none⟩ : Addr).add j = ⟨b, 0 + j, none⟩ := by unfold Addr.add; split <;> simp_all
    rw [ha, hu j hj1, hj2]
  · rcases List.mem_append.1 hu' with q | q
    · exact c.one (c.ow_rd hy) u' q
    · exact c.one (c.ow_rd hy2) u' q
  · calc (l.length + 2) * bytes ≤ 1000000000 * 10000 := Nat.mul_le_mul hlen hby
      _ ≤ 140737488355328 := by decide
  · intro g cap w' h2 h3 h4 h5
    have h2' : w'.ownsRow base e c.n (.slice (some ⟨g, 0, none⟩) (l.length + 2) cap) (l.length + 2) (xss.flatten ++ (us ++ us2)) := by rw [hn]; exact h2
    obtain ⟨fp', k1, k2, k3, k4⟩ := ow_appendedN2 hE hfp hd hlt hy hfd hdis hy2 hfd2 hdis2 h12 h2' h3 h4
    exact h g cap w' fp' k1 k2 k3 k4
theorem wpList_appendN2 {P : Program} {c : Cd α} {ops : Array Oper} {rest : List Oper} {o : Oper} {a : Act} {Q : Exit → Act → World → Prop} {w : World} (hgd : o.guard = none) (s x : Operand) (t : TypeId)
    (ho : o.op = .call { callee := .builtin .append, args := #[s, x], argTypes := #[t, t] })
    (base : Nat) (e : TypeId) (z : Value) (size bytes : Nat) (hn : c.n = size) (ht : P.underlying t = some (.slice e)) (hinfo : (P.info? e).map (fun i => (i.zero, i.size, i.bytes)) = some (some z, size, bytes)) (hzs : z.cells.size = size) (hby : bytes ≤ 10000)
    (v : Value) (l : List α) (fp : List Nat) (hs : a.eval s = v) (how : (sl e c).ow w base [v] l fp) (hd : fp.Nodup) (b : Nat) (us us2 : List Value) (hx : a.eval x = .slice (some ⟨b, 0, none⟩) 2 2) (hu : At w b 0 (us ++ us2))
    (y : α) (f : List Nat) (hy : c.ow w base us y f) (hfd : f.Nodup) (hdis : ∀ b ∈ f, b ∉ fp) (y2 : α) (f2 : List Nat) (hy2 : c.ow w base us2 y2 f2) (hfd2 : f2.Nodup) (hdis2 : ∀ b ∈ f2, b ∉ fp) (h12 : ∀ b ∈ f, b ∉ f2) (hlen : l.length + 2 ≤ 1000000000) (hbase : base ≤ w.heap.size)
    (h : ∀ g cap w' fp', (sl e c).ow w' base [.slice (some ⟨g, 0, none⟩) (l.length + 2) cap] (l ++ [y, y2]) fp' → fp'.Nodup → (∀ b ∈ fp', b ∈ fp ∨ b ∈ f ∨ b ∈ f2 ∨ w.heap.size ≤ b) → Touch fp w w' →
      wpList P ops Q rest (a.put o.dst (.slice (some ⟨g, 0, none⟩) (l.length + 2) cap)) w') : wpList P ops Q (o :: rest) a w :=
  wpList_plain hgd fun _ hK => wp_appendN2 s x t ho base e z size bytes hn ht hinfo hzs hby v l fp hs how hd b us us2 hx hu y f hy hfd hdis y2 f2 hy2 hfd2 hdis2 h12 hlen hbase fun g cap w' fp' h1 h2 h3 h4 => hK _ _ (h g cap w' fp' h1 h2 h3 h4)

/-- A slice from place j on. -/
theorem rd_drop {e : TypeId} {c : Cd α} {w : World} {S : Nat → Prop} {b off n cap cap' : Nat} {l : List α} (h : (sl e c).rd w S [.slice (some ⟨b, off, none⟩) n cap] l) {j : Nat} (hj : j < l.length) :
    (sl e c).rd w S [.slice (some ⟨b, off + j * c.n, none⟩) (l.length - j) cap'] (l.drop j) := by
  obtain ⟨ad, cap2, e1, hl, h⟩ := h
  injection e1 with e1 _
  injection e1 with e1 e2 e3
  subst e1
  rcases h with rfl | ⟨b', off', e4, hS, hb, hc⟩
  · simp at hj
  · injection e4 with e4
    injection e4 with e4 e5 _
    subst e4 e5
    refine ⟨_, cap', by rw [List.length_drop], by rw [List.length_drop]; omega, .inr ⟨b, off + j * c.n, rfl, hS, hb, fun t ht => ?_⟩⟩
    rw [List.length_drop] at ht
    obtain ⟨xs, h1, h2⟩ := hc (j + t) (by omega)
    refine ⟨xs, ?_, by rw [List.getElem_drop]; exact h2⟩
    have e6 : off + j * c.n + t * c.n = off + (j + t) * c.n := by rw [Nat.add_mul]; omega
    rw [e6]
    exact h1
end Cd
end Go.Proofs.YteihnbnlfocgmaaGreatDoor.Cd

namespace Go.Proofs.YteihnbnlfocgmaaGreatDoor.DbDraw
open Go Go.RowKit Byt Ints IntsLaw IntsWalk Draw LocDraw Cd Rows2 Tab TabDraw SlMath TabOpen TabElem SlTable Db TabSpec DbMath DbSpec DbExact DbAcc

/-- What reads new blocks alone is read later too. -/
theorem rd_grown {α : Type} {cd : Cd α} {w w' : World} {base c : Nat} {us : List Value} {a : α} (h : cd.rd w (fun b => base ≤ b ∧ b < w.heap.size) us a) (hg : w.grownBy w' (some c)) (hc : c < base) : cd.rd w' (fun b => base ≤ b ∧ b < w'.heap.size) us a :=
  cd.mono (cd.keep h fun b hb hlt => hg.block b hlt (by intro q; injection q with q; omega)) fun _ _ hb => ⟨hb.1, Nat.lt_of_lt_of_le hb.2 hg.size⟩
theorem rd_new {α : Type} {cd : Cd α} {w : World} {base base' : Nat} {us : List Value} {a : α} {fp : List Nat} (h : cd.ow w base us a fp) (hb : base' ≤ base) : cd.rd w (fun b => base' ≤ b ∧ b < w.heap.size) us a :=
  cd.mono (cd.ow_rd h) fun _ _ hq => ⟨Nat.le_trans hb (cd.ow_lt h _ hq).1, (cd.ow_lt h _ hq).2⟩
theorem rd_base {α : Type} {cd : Cd α} {w : World} {base base' : Nat} {us : List Value} {a : α} (h : cd.rd w (fun b => base ≤ b ∧ b < w.heap.size) us a) (hb : base' ≤ base) : cd.rd w (fun b => base' ≤ b ∧ b < w.heap.size) us a :=
  cd.mono h fun _ _ hq => ⟨Nat.le_trans hb hq.1, hq.2⟩
/-- A store outside. -/
theorem rd_set {α : Type} {cd : Cd α} {w : World} {S : Nat → Prop} {us : List Value} {a : α} (h : cd.rd w S us a) {p : Addr} (hp : ¬ S p.block) (v : Value) : cd.rd (w.setCell p v) S us a :=
  cd.keep h fun _ hb _ => Below.heap_setCell w p v _ fun q => hp (q ▸ hb)

/-- A drawn database that may be none. -/
def AnyDb (w : World) (c : Nat) (v : Value) (l : List UInt8) (e : Ending) (w' : World) : Prop :=
  ∃ (u : Value) (Ts : List T3), e = .returned (.agg #[u]) ∧ tabsC.rd w' (fun b => w.heap.size < b ∧ b < w'.heap.size) [u] Ts ∧ Ts.length ≤ 7 ∧ (∀ T ∈ Ts, OkD T) ∧ Cur w' c v l ∧ w.grownBy w' (some c)
/-- In the drawing: the result's cell, the local one in block X, the cursor. -/
structure DaS (w : World) (c : Nat) (v : Value) (l : List UInt8) (X : Nat) (cur : List T3) (a : Option Addr) (k : Nat) (fp : List Nat) (W : World) : Prop where
  lx : Loc1 W X (.slice a cur.length k)
  lr : Loc1 W w.heap.size (.slice none 0 0)
  ow : tabsC.ow W (w.heap.size + 1) [.slice a cur.length k] cur fp
  nd : fp.Nodup
  ok : ∀ T ∈ cur, OkD T
  xf : X ∉ fp
  xb : w.heap.size < X
  cb : c < w.heap.size
  cu : Cur W c v l
  gr : w.grownBy W (some c)
theorem DaS.grown {w : World} {c : Nat} {v : Value} {l : List UInt8} {X : Nat} {cur : List T3} {a : Option Addr} {k : Nat} {fp : List Nat} {W W' : World} (h : DaS w c v l X cur a k fp W) (hg : W.grownBy W' (some c)) (hc : Cur W' c v l) : DaS w c v l X cur a k fp W' :=
  have h1 := h.cb
  have h2 := h.xb
  ⟨loc1_grown h.lx hg (by omega), loc1_grown h.lr hg (by omega), ow_grown h.ow hg (by omega), h.nd, h.ok, h.xf, h.xb, h.cb, hc, grown_trans h.gr hg⟩
theorem DaS.alloc {w : World} {c : Nat} {v : Value} {l : List UInt8} {X : Nat} {cur : List T3} {a : Option Addr} {k : Nat} {fp : List Nat} {W : World} (h : DaS w c v l X cur a k fp W) (o : Obj) : DaS w c v l X cur a k fp (W.alloc o) :=
  h.grown (World.grownBy_alloc W o (some c)) (cur_allocI o h.cu)
theorem DaS.drew {w : World} {c : Nat} {v : Value} {l : List UInt8} {X : Nat} {cur : List T3} {a : Option Addr} {k : Nat} {fp : List Nat} {W : World} (h : DaS w c v l X cur a k fp W) : DaS w c v l X cur a k fp W.drew :=
  ⟨h.lx.drew, h.lr.drew, tabsC.ow_keep h.ow fun _ _ => rfl, h.nd, h.ok, h.xf, h.xb, h.cb, h.cu, ⟨h.gr.os, h.gr.tape, h.gr.output, h.gr.size, h.gr.block⟩⟩
theorem DaS.sz {w : World} {c : Nat} {v : Value} {l : List UInt8} {X : Nat} {cur : List T3} {a : Option Addr} {k : Nat} {fp : List Nat} {W : World} (h : DaS w c v l X cur a k fp W) : X < W.heap.size := h.lx.lt
/-- The result is stored. -/
theorem DaS.done {w : World} {c : Nat} {v : Value} {l : List UInt8} {X : Nat} {cur : List T3} {a : Option Addr} {k : Nat} {fp : List Nat} {W : World} (h : DaS w c v l X cur a k fp W) (hl : cur.length ≤ 7) :
    AnyDb w c v l (.returned (.agg #[.slice a cur.length k])) (W.setCell ⟨w.heap.size, 0, none⟩ (.slice a cur.length k)) := by
  have h1 := h.cb
  have hr := rd_new h.ow (Nat.le_refl _)
  refine ⟨_, cur, rfl, ?_, hl, h.ok, cur_farI _ h.cu (by show c ≠ w.heap.size; omega), grown_newI _ h.gr (Nat.le_refl _)⟩
  have := rd_set (p := ⟨w.heap.size, 0, none⟩) hr (by show ¬ (w.heap.size + 1 ≤ w.heap.size ∧ _); omega) (.slice a cur.length k)
  exact tabsC.mono this fun b _ hb => ⟨by omega, by simpa using hb.2⟩
/-- The result is the list from place j on. -/
theorem DaS.doneCut {w : World} {c : Nat} {v : Value} {l : List UInt8} {X : Nat} {cur : List T3} {g : Nat} {k : Nat} {fp : List Nat} {W : World} (h : DaS w c v l X cur (some ⟨g, 0, none⟩) k fp W) (hl : cur.length ≤ 7) {j : Nat} (hj : j < cur.length) (k' : Nat) (x : Value) :
    AnyDb w c v l (.returned (.agg #[.slice (some ⟨g, j * 3, none⟩) (cur.length - j) k'])) ((W.setCell ⟨X, 0, none⟩ x).setCell ⟨w.heap.size, 0, none⟩ (.slice (some ⟨g, j * 3, none⟩) (cur.length - j) k')) := by
  have h1 := h.cb
  have h2 := h.xb
  have ho := ow_setCell (p := ⟨X, 0, none⟩) h.ow h.xf x
  have hr : tabsC.rd (W.setCell ⟨X, 0, none⟩ x) (fun b => w.heap.size + 1 ≤ b ∧ b < (W.setCell ⟨X, 0, none⟩ x).heap.size) [.slice (some ⟨g, 0 + j * tabC.n, none⟩) (cur.length - j) k'] (cur.drop j) := Cd.rd_drop (rd_new ho (Nat.le_refl _)) hj
  rw [show (0 + j * tabC.n) = j * 3 from by show 0 + j * 3 = j * 3; omega] at hr
  refine ⟨_, cur.drop j, rfl, ?_, by rw [List.length_drop]; omega, fun T hT => h.ok T (List.mem_of_mem_drop hT), cur_farI _ (cur_farI _ h.cu (by show c ≠ X; omega)) (by show c ≠ w.heap.size; omega), grown_newI _ (grown_newI _ h.gr (by show _ ≤ X; omega)) (Nat.le_refl _)⟩
  have := rd_set (p := ⟨w.heap.size, 0, none⟩) hr (by show ¬ (w.heap.size + 1 ≤ w.heap.size ∧ _); omega) (.slice (some ⟨g, j * 3, none⟩) (cur.length - j) k')
  exact tabsC.mono this fun b _ hb => ⟨by omega, by simpa using hb.2⟩
/-- A drawn table of its own cells, to be appended. -/
structure LaidA (base X : Nat) (W3 : World) (b : Nat) (us : List Value) (T : T3) (f fp : List Nat) : Prop where
  at_ : Cd.At W3 b 0 us
  ow : tabC.ow W3 base us T f
  nd : f.Nodup
  far : ∀ b ∈ f, b ∉ fp
  xf : X ∉ f
  sz : base ≤ W3.heap.size
  ok : OkD T
theorem DaS.laid {w : World} {c : Nat} {v : Value} {l : List UInt8} {X : Nat} {cur : List T3} {a : Option Addr} {k : Nat} {fp : List Nat} {W W2 : World} (h : DaS w c v l X cur a k fp W) (hg : W.grownBy W2 (some c)) (hc : Cur W2 c v l)
    {nm : ByteArray} {ar : Int} {y : Value} {rows : List (List Int)} {f : List Nat} (ho : rowsC.ow W2 W.heap.size [y] rows f) (hn : f.Nodup) (hok : OkD (nm, ar, rows)) (e : TypeId) :
    DaS w c v l X cur a k fp ((W2.alloc (.cells #[.string nm, .int .i64 ar, y] e (0, 0))).alloc (.cells #[.string nm, .int .i64 ar, y] e (0, 0))) ∧
    LaidA (w.heap.size + 1) X ((W2.alloc (.cells #[.string nm, .int .i64 ar, y] e (0, 0))).alloc (.cells #[.string nm, .int .i64 ar, y] e (0, 0))) (W2.heap.size + 1) [.string nm, .int .i64 ar, y] (nm, ar, rows) f fp := by
  have hbA := Tab.below_then (below_alloc W2 (.cells #[.string nm, .int .i64 ar, y] e (0, 0))) (below_alloc (W2.alloc (.cells #[.string nm, .int .i64 ar, y] e (0, 0))) (.cells #[.string nm, .int .i64 ar, y] e (0, 0)))
  have hA := ((h.grown hg hc).alloc (.cells #[.string nm, .int .i64 ar, y] e (0, 0))).alloc (.cells #[.string nm, .int .i64 ar, y] e (0, 0))
  have hX := h.sz
  have hxb := h.xb
  obtain ⟨k1, k2, k3⟩ := hok
  simp only at k1 k2 k3
  refine ⟨hA, ?_, tabC.ow_base (Cd.ow_later (tab_ow ho (by unfold maxLen; omega) (by omega)) hbA) (by omega), hn, fun b hb q => ?_, fun q => ?_, by have := hA.sz; omega, ⟨k1, k2, k3⟩⟩
  · exact at3 (by have := row_alloc (W2.alloc (.cells #[.string nm, .int .i64 ar, y] e (0, 0))) (.cells #[.string nm, .int .i64 ar, y] e (0, 0)); rw [size_alloc] at this; exact this)
  · have h1 := (rowsC.ow_lt ho b hb).1
    have h2 := ((Cd.sl _ tabC).ow_lt h.ow b q).2
    omega
  · have h1 := (rowsC.ow_lt ho _ q).1
    omega
theorem DaS.fcell {w : World} {c : Nat} {v : Value} {l : List UInt8} {X : Nat} {cur : List T3} {a : Option Addr} {k : Nat} {fp : List Nat} {W W4 : World} (h : DaS w c v l X cur a k fp W) (ht : Cd.Touch fp W W4) : W4.cell? ⟨X, 0, none⟩ = some (.slice a cur.length k) ∧ W4.frozen? ⟨X, 0, none⟩ = false :=
  ⟨(h.lx.touched ht h.xf).c0, (h.lx.touched ht h.xf).f0⟩
theorem DaS.app {w : World} {c : Nat} {v : Value} {l : List UInt8} {X : Nat} {cur cur' : List T3} {a : Option Addr} {k : Nat} {fp : List Nat} {W3 W4 : World} (h : DaS w c v l X cur a k fp W3) (hok : ∀ T ∈ cur', OkD T) {g cap n : Nat} (hn' : n = cur'.length) {fp4 : List Nat} (ht : Cd.Touch fp W3 W4)
    (ho : tabsC.ow W4 (w.heap.size + 1) [.slice (some ⟨g, 0, none⟩) n cap] cur' fp4) (hn : fp4.Nodup) (hx4 : X ∉ fp4) :
    DaS w c v l X cur' (some ⟨g, 0, none⟩) cap fp4 (W4.setCell ⟨X, 0, none⟩ (.slice (some ⟨g, 0, none⟩) n cap)) := by
  subst hn'
  have h1 := h.cb
  have h2 := h.xb
  have hfp : ∀ b, b < w.heap.size + 1 → b ∉ fp := fun b hb q => by have := ((Cd.sl _ tabC).ow_lt h.ow _ q).1; omega
  refine ⟨(h.lx.touched ht h.xf).set _, (h.lr.touched ht (hfp _ (by omega))).set_far (by show X ≠ _; omega) _, ow_setCell ho hx4 _, hn, hok, hx4, h2, h1, ?_, ?_⟩
  · obtain ⟨i, x, hi, hh⟩ := h.cu
    exact cur_farI _ ⟨i, x, hi, ht.row hh (hfp _ (by omega))⟩ (by show c ≠ X; omega)
  · refine grown_newI _ ?_ (by show _ ≤ X; omega)
    exact ⟨ht.os.trans h.gr.os, ht.tape.trans h.gr.tape, ht.output.trans h.gr.output, Nat.le_trans h.gr.size ht.size, fun j hj hne => (ht.block j (by have := h.gr.size; omega) (hfp _ (by omega))).trans (h.gr.block j hj hne)⟩
/-- A table is put at place t. -/
theorem DaS.put {w : World} {c : Nat} {v : Value} {l : List UInt8} {X : Nat} {cur : List T3} {g : Nat} {k : Nat} {fp : List Nat} {W : World} (h : DaS w c v l X cur (some ⟨g, 0, none⟩) k fp W) {nm : ByteArray} {ar : Int} {y : Value} {rows : List (List Int)} {f : List Nat}
    (ho : rowsC.ow W (w.heap.size + 1) [y] rows f) (hn : f.Nodup) (hfar : ∀ b ∈ f, b ∉ fp) (hxf : X ∉ f) (hok : OkD (nm, ar, rows)) {t : Nat} (ht : t < cur.length) :
    ∃ cur' fp', cur'.length = cur.length ∧ DaS w c v l X cur' (some ⟨g, 0, none⟩) k fp' (((W.setCell ⟨g, t * 3, none⟩ (.string nm)).setCell ⟨g, t * 3 + 1, none⟩ (.int .i64 ar)).setCell ⟨g, t * 3 + 2, none⟩ y) := by
  have h1 := h.cb
  have h2 := h.xb
  have hg : g ∈ fp := by
    obtain ⟨v', xss, fps, e1, _, _, rfl⟩ := h.ow
    injection e1 with e1 _
    subst e1
    exact List.mem_append_left _ (by simp [Value.ownBlock])
  have hgx := ((Cd.sl _ tabC).ow_lt h.ow _ hg).1
  have hgX : g ≠ X := fun q => h.xf (by rw [← q]; exact hg)
  obtain ⟨k1, k2, k3⟩ := hok
  simp only at k1 k2 k3
  obtain ⟨fp', ho', hn', hsub⟩ := Cd.ow_putN h.ow h.nd (tab_ow (nm := nm) (ar := ar) ho (by unfold maxLen; omega) (by omega)) hn hfar ht
  have e : (cur.set t (nm, ar, rows)).length = cur.length := by simp
  refine ⟨cur.set t (nm, ar, rows), fp', e, ?_, ((h.lr.set_far (by show g ≠ _; omega) _).set_far (by show g ≠ _; omega) _).set_far (by show g ≠ _; omega) _, ?_, hn', fun T hT => ?_, fun q => ?_, h2, h1, cur_farI _ (cur_farI _ (cur_farI _ h.cu (by show c ≠ g; omega)) (by show c ≠ g; omega)) (by show c ≠ g; omega), grown_newI _ (grown_newI _ (grown_newI _ h.gr (by show _ ≤ g; omega)) (by show _ ≤ g; omega)) (by show _ ≤ g; omega)⟩
  · rw [e]; exact ((h.lx.set_far hgX _).set_far hgX _).set_far hgX _
  · rw [e]; exact ho'
  · rcases List.mem_or_eq_of_mem_set hT with q | q
    · exact h.ok T q
    · rw [q]; exact ⟨k1, k2, k3⟩
  · rcases hsub X q with q | q
    · exact h.xf q
    · exact hxf q
theorem far3 {W : World} {p : Addr} {v : Value} (h : W.cell? p = some v) {g o1 o2 o3 : Nat} {x y z : Value} (hn : p.block ≠ g) : (((W.setCell ⟨g, o1, none⟩ x).setCell ⟨g, o2, none⟩ y).setCell ⟨g, o3, none⟩ z).cell? p = some v := by
  have e : ∀ o, (⟨g, o, none⟩ : Addr) ≠ p := fun o q => hn (congrArg Addr.block q).symm
  rw [World.cell?_setCell_other _ _ _ _ (e _), World.cell?_setCell_other _ _ _ _ (e _), World.cell?_setCell_other _ _ _ _ (e _)]
  exact h
end Go.Proofs.YteihnbnlfocgmaaGreatDoor.DbDraw

namespace Go.Proofs.YteihnbnlfocgmaaGreatDoor.DbDraw
open Go Go.RowKit Byt Ints IntsLaw IntsWalk Draw LocDraw Cd Rows2 Tab TabDraw SlMath TabOpen TabElem SlTable Db TabSpec DbMath DbSpec DbExact DbAcc

def nn3 : List ByteArray := [⟨#[97]⟩, ⟨#[119]⟩, ⟨#[122]⟩]
theorem nn3_ok : ∀ t : Fin 3, (nn3.getD t.val ⟨#[]⟩).size ≤ 2 := by decide
theorem ok_app {cur : List T3} {T : T3} (h : ∀ U ∈ cur, OkD U) (hT : OkD T) : ∀ U ∈ cur ++ [T], OkD U := fun U hU => by
  rcases List.mem_append.1 hU with q | q
  · exact h U q
  · rw [List.mem_singleton.1 q]; exact hT
theorem ok_app2 {cur : List T3} {T T2 : T3} (h : ∀ U ∈ cur, OkD U) (hT : OkD T) (hT2 : OkD T2) : ∀ U ∈ cur ++ [T, T2], OkD U := fun U hU => by
  rcases List.mem_append.1 hU with q | q
  · exact h U q
  · rcases List.mem_cons.1 q with q | q
    · rw [q]; exact hT
    · rw [List.mem_singleton.1 q]; exact hT2
/-- Two drawn tables, to be appended at once. -/
structure LaidB (base X : Nat) (W4 : World) (b : Nat) (us us2 : List Value) (T T2 : T3) (f f2 fp : List Nat) : Prop where
  at_ : Cd.At W4 b 0 (us ++ us2)
  ow : tabC.ow W4 base us T f
  nd : f.Nodup
  far : ∀ b ∈ f, b ∉ fp
  xf : X ∉ f
  ow2 : tabC.ow W4 base us2 T2 f2
  nd2 : f2.Nodup
  far2 : ∀ b ∈ f2, b ∉ fp
  xf2 : X ∉ f2
  dis : ∀ b ∈ f, b ∉ f2
  sz : base ≤ W4.heap.size
  ok : OkD T
  ok2 : OkD T2
theorem at6 {W : World} {b : Nat} {x0 x1 x2 x3 x4 x5 : Value} {e : TypeId} (h : W.heap[b]? = some (.cells #[x0, x1, x2, x3, x4, x5] e (0, 0))) : Cd.At W b 0 ([x0, x1, x2] ++ [x3, x4, x5]) := by
  intro j hj
  have : j = 0 ∨ j = 1 ∨ j = 2 ∨ j = 3 ∨ j = 4 ∨ j = 5 := by simp at hj; omega
  rcases this with rfl | rfl | rfl | rfl | rfl | rfl <;> simp [World.cell?, h]
theorem DaS.laid2 {w : World} {c : Nat} {v : Value} {l : List UInt8} {X : Nat} {cur : List T3} {a : Option Addr} {k : Nat} {fp : List Nat} {W w3 w4 : World} (h : DaS w c v l X cur a k fp W) (hg3 : W.grownBy w3 (some c)) (hc3 : Cur w3 c v l)
    {nm nm2 : ByteArray} {ar ar2 : Int} {y y2 : Value} {rows rows2 : List (List Int)} {f f2 : List Nat} (ho : rowsC.ow w3 W.heap.size [y] rows f) (hn : f.Nodup) (hok : OkD (nm, ar, rows)) (e e2 e3 : TypeId)
    (hg4 : (w3.alloc (.cells #[.string nm, .int .i64 ar, y] e (0, 0))).grownBy w4 (some c)) (hc4 : Cur w4 c v l) (ho2 : rowsC.ow w4 (w3.alloc (.cells #[.string nm, .int .i64 ar, y] e (0, 0))).heap.size [y2] rows2 f2) (hn2 : f2.Nodup) (hok2 : OkD (nm2, ar2, rows2)) :
    DaS w c v l X cur a k fp ((w4.alloc (.cells #[.string nm2, .int .i64 ar2, y2] e2 (0, 0))).alloc (.cells #[.string nm, .int .i64 ar, y, .string nm2, .int .i64 ar2, y2] e3 (0, 0))) ∧
    LaidB (w.heap.size + 1) X ((w4.alloc (.cells #[.string nm2, .int .i64 ar2, y2] e2 (0, 0))).alloc (.cells #[.string nm, .int .i64 ar, y, .string nm2, .int .i64 ar2, y2] e3 (0, 0))) (w4.heap.size + 1) [.string nm, .int .i64 ar, y] [.string nm2, .int .i64 ar2, y2] (nm, ar, rows) (nm2, ar2, rows2) f f2 fp := by
  have hbA := Tab.below_then (below_alloc w4 (.cells #[.string nm2, .int .i64 ar2, y2] e2 (0, 0))) (below_alloc (w4.alloc (.cells #[.string nm2, .int .i64 ar2, y2] e2 (0, 0))) (.cells #[.string nm, .int .i64 ar, y, .string nm2, .int .i64 ar2, y2] e3 (0, 0)))
  have h3 := (h.grown hg3 hc3).alloc (.cells #[.string nm, .int .i64 ar, y] e (0, 0))
  have h4 := h3.grown hg4 hc4
  have hA := (h4.alloc (.cells #[.string nm2, .int .i64 ar2, y2] e2 (0, 0))).alloc (.cells #[.string nm, .int .i64 ar, y, .string nm2, .int .i64 ar2, y2] e3 (0, 0))
  have hX := h.sz
  have hxb := h.xb
  have hcb := h.cb
  have hs3 : (w3.alloc (.cells #[.string nm, .int .i64 ar, y] e (0, 0))).heap.size = w3.heap.size + 1 := size_alloc _ _
  have hs30 := hg3.size
  obtain ⟨k1, k2, k3⟩ := hok
  obtain ⟨m1, m2, m3⟩ := hok2
  simp only at k1 k2 k3 m1 m2 m3
  have ho4 : rowsC.ow w4 W.heap.size [y] rows f := ow_grown (Cd.ow_later ho (below_alloc _ (.cells #[.string nm, .int .i64 ar, y] e (0, 0)))) hg4 (by omega)
  refine ⟨hA, at6 (by have := row_alloc (w4.alloc (.cells #[.string nm2, .int .i64 ar2, y2] e2 (0, 0))) (.cells #[.string nm, .int .i64 ar, y, .string nm2, .int .i64 ar2, y2] e3 (0, 0)); rw [size_alloc] at this; exact this),
    tabC.ow_base (Cd.ow_later (tab_ow ho4 (by unfold maxLen; omega) (by omega)) hbA) (by omega), hn, fun b hb q => ?_, fun q => ?_,
    tabC.ow_base (Cd.ow_later (tab_ow ho2 (by unfold maxLen; omega) (by omega)) hbA) (by omega), hn2, fun b hb q => ?_, fun q => ?_, fun b hb q => ?_, by have := hA.sz; omega, ⟨k1, k2, k3⟩, ⟨m1, m2, m3⟩⟩
  · have h1 := (rowsC.ow_lt ho b hb).1
    have h2 := ((Cd.sl _ tabC).ow_lt h.ow b q).2
    omega
  · have h1 := (rowsC.ow_lt ho _ q).1
    omega
  · have h1 := (rowsC.ow_lt ho2 b hb).1
    have h2 := ((Cd.sl _ tabC).ow_lt h.ow b q).2
    omega
  · have h1 := (rowsC.ow_lt ho2 _ q).1
    omega
  · have h1 := (rowsC.ow_lt ho b hb).2
    have h2 := (rowsC.ow_lt ho2 b q).1
    omega

theorem DaS.atPut {w : World} {c : Nat} {v : Value} {l : List UInt8} {X : Nat} {cur : List T3} {g : Nat} {k : Nat} {fp : List Nat} {W w7 : World} (h : DaS w c v l X cur (some ⟨g, 0, none⟩) k fp W) (hg : W.drew.grownBy w7 (some c)) (hc : Cur w7 c v l)
    {Y : Nat} {nm : ByteArray} {ar : Int} {y : Value} {rows : List (List Int)} {f : List Nat} (HY : Loc3 W Y (.string nm) (.int .i64 ar) y) (hYc : Y ≠ c)
    (ho : rowsC.ow W (w.heap.size + 1) [y] rows f) (hn : f.Nodup) (hfar : ∀ b ∈ f, b ∉ fp) (hxf : X ∉ f) (hok : OkD (nm, ar, rows)) {j : Nat} (hj : j < cur.length) :
    w7.cell? ⟨X, 0, none⟩ = some (.slice (some ⟨g, 0, none⟩) cur.length k) ∧ Loc3 w7 Y (.string nm) (.int .i64 ar) y ∧ (∃ u, w7.cell? ⟨g, j * 3, none⟩ = some u) ∧ (∃ u, w7.cell? ⟨g, j * 3 + 1, none⟩ = some u) ∧ (∃ u, w7.cell? ⟨g, j * 3 + 2, none⟩ = some u) ∧
    w7.frozen? ⟨g, j * 3, none⟩ = false ∧ w7.frozen? ⟨g, j * 3 + 1, none⟩ = false ∧ w7.frozen? ⟨g, j * 3 + 2, none⟩ = false ∧
    ∃ cur' fp', cur'.length = cur.length ∧ DaS w c v l X cur' (some ⟨g, 0, none⟩) k fp' (((w7.setCell ⟨g, j * 3, none⟩ (.string nm)).setCell ⟨g, j * 3 + 1, none⟩ (.int .i64 ar)).setCell ⟨g, j * 3 + 2, none⟩ y) := by
  have h7 := h.drew.grown hg hc
  have hcb := h.cb
  obtain ⟨us7, f7, hl7, hat7, _⟩ := Cd.ow_elem h7.ow hj
  have hl3 : us7.length = 3 := hl7
  have h30 : w7.cell? ⟨g, j * 3, none⟩ = some (us7[0]'(by omega)) := hat7 0 (by omega)
  have h31 : w7.cell? ⟨g, j * 3 + 1, none⟩ = some (us7[1]'(by omega)) := hat7 1 (by omega)
  have h32 : w7.cell? ⟨g, j * 3 + 2, none⟩ = some (us7[2]'(by omega)) := hat7 2 (by omega)
  exact ⟨h7.lx.c0, loc_grown (Exact.loc_drew HY) hg hYc, ⟨_, h30⟩, ⟨_, h31⟩, ⟨_, h32⟩, Cd.ow_frozen h7.ow (j * 3), Cd.ow_frozen h7.ow (j * 3 + 1), Cd.ow_frozen h7.ow (j * 3 + 2),
    h7.put (ow_grown (w := W.drew) (rowsC.ow_keep (w' := W.drew) ho (fun _ _ => rfl)) hg (by omega)) hn hfar hxf hok hj⟩

set_option maxRecDepth 100000 in
set_option maxHeartbeats 6400000 in
theorem dbany_any (c : Nat) (v : Value) (l : List UInt8) (B : Nat) (w : World) (hc : Cur w c v l) (hr : Reads w v l B) (hB : B ≤ c) :
    Calls Tryz.prog 21 #[.pointer (some ⟨c, 0, none⟩)] w (AnyDb w c v l) := by
  have hcs := cur_size hc
  have HR := Lib.hid (fun w' (hg : w.grownBy w' (some c)) => hr.later (below_of hg hB hcs))
  have HC := Lib.hid hc
  clear hc hr
  go_enter Tryz.func21, Tryz.ntmps21
  go_wp2_with fail
  generalize hW : w.alloc _ = W0
  obtain ⟨r0, hz, hb0⟩ := start1 w _ hW
  clear hW
  have HX0 := Lib.hid (Loc1.of r0)
  have hg0 := grown_below hb0 (some c)
  have HG0 := Lib.hid hg0
  refine (db_any c v l B W0 (cur_below HC.out hb0 hcs) (HR.out _ hg0) hB).mono ?_
  rintro e w1 ⟨u, Ts, fp, rfl, how, hnd, hlen, hok, hc1, hg1⟩
  obtain ⟨g, k1, rfl, hgb, hgs, hgf⟩ := Cd.ow_form how (by omega)
  have HS := Lib.hid (show DaS w c v l w1.heap.size Ts (some ⟨g, 0, none⟩) k1 fp (w1.alloc (.cells #[.slice (some ⟨g, 0, none⟩) Ts.length k1] 26 (0, 0))) from
    ⟨Loc1.of (row_alloc _ _), (loc1_grown HX0.out hg1 (by omega)).later (below_alloc _ _), Cd.ow_later ((Cd.sl _ tabC).ow_base how (by omega)) (below_alloc _ _), hnd, hok, (fun q => by have := ((Cd.sl _ tabC).ow_lt how _ q).2; omega), by have := hg1.size; omega, hcs, cur_allocI _ hc1, grown_allocI _ (grown_trans HG0.out hg1)⟩)
  have HLEN := Lib.hid hlen
  clear r0 hz hb0 hg0 how hnd hlen hok hc1 hg1 HX0 HG0 hgb hgs hgf
  go_wp2_with fail
  generalize w1.alloc _ = W1 at *
  generalize w1.heap.size = X at *
  have HB1 := Lib.hid (below_any 10 c v l B W1 HS.out.cu (HR.out W1 HS.out.gr) hB)
  refine HB1.out.mono ?_
  rintro e w2 ⟨x, rfl, hx0, hx10, hc2, hg2⟩
  have HS2 := Lib.hid (HS.out.grown hg2 hc2)
  clear hx0 hx10 hc2 hg2 HS HB1
  have HLL := Lib.hid (show Ts.length + 1 ≤ 1000000000 by have := HLEN.out; omega)
  have HLL2 := Lib.hid (show Ts.length + 2 ≤ 1000000000 by have := HLEN.out; omega)
  by_cases x0 : x = 0
  · subst x0
    have HA := Lib.hid (tabany_any c v l B w2 HS2.out.cu (HR.out w2 HS2.out.gr) hB)
    go_wp2_with fail
    refine HA.out.mono ?_
    rintro e w3 ⟨nm, ar, y, rows, f, rfl, hnm, har, ho, hnf, hwt, hc3, hg3⟩
    obtain ⟨a3, c3, rfl⟩ := Cd.ow_slice ho
    go_upto_region 5 with fail
    generalize hW3 : w3.alloc _ = W3
    obtain ⟨s0, sz, sb⟩ := start1 w3 _ hW3
    have HY := Lib.hid (Loc3.of s0)
    have HS3 := Lib.hid (show DaS w c v l X Ts (some ⟨g, 0, none⟩) k1 fp W3 from (HS2.out.grown hg3 hc3).grown (grown_below sb (some c)) (cur_below hc3 sb (cur_size hc3)))
    have HO3 := Lib.hid (Cd.ow_later (rowsC.ow_base ho (show w.heap.size + 1 ≤ w2.heap.size by have := HS2.out.sz; have := HS2.out.xb; omega)) sb)
    have HFF := Lib.hid (show ∀ b ∈ f, b ∉ fp from fun b hb q => by have h1 := (rowsC.ow_lt ho b hb).1; have h2 := ((Cd.sl _ tabC).ow_lt HS2.out.ow b q).2; omega)
    have HXF := Lib.hid (show X ∉ f from fun q => by have h1 := (rowsC.ow_lt ho _ q).1; have h2 := HS2.out.sz; omega)
    have HNF := Lib.hid hnf
    have HOK := Lib.hid (show OkD (nm, ar, rows) from ⟨hnm, har, by show rowsWt rows ≤ 32; omega⟩)
    have HYC := Lib.hid (show w3.heap.size ≠ c by have := HS2.out.cb; have := hg3.size; have := HS2.out.sz; have := HS2.out.xb; omega)
    have hYg : g ≠ w3.heap.size := by
      have h1 := HS2.out.ow
      obtain ⟨g', k', e1, _, h2, _⟩ := Cd.ow_form h1 (by have := HLEN.out; omega)
      injection e1 with e1
      injection e1 with e1
      injection e1 with e1
      subst e1
      have := hg3.size
      omega
    have hXg : g ≠ X := by
      obtain ⟨g', k', e1, _, _, h3⟩ := Cd.ow_form HS2.out.ow (by have := HLEN.out; omega)
      injection e1 with e1
      injection e1 with e1
      injection e1 with e1
      subst e1
      exact fun q => HS2.out.xf (q ▸ h3)
    have HG7 := Lib.hid (And.intro hYg hXg)
    clear hW3 s0 sz sb ho hnf hwt hc3 hg3 hnm har HA HS2 hYg hXg
    have HB := Lib.hid (below_any 5 c v l B W3.drew HS3.out.drew.cu (HR.out _ HS3.out.drew.gr) hB)
    have z0 := HS3.out.lx.c0
    obtain ⟨y0, y1, y2, _, _, _⟩ := HY.out
    go_region_law (first | (go_simp; go_at_call 48; refine HB.out.mono ?_; rintro e w7 ⟨x, rfl, hx0, hx1, hc7, hg7⟩; obtain ⟨j, rfl⟩ := Int.eq_ofNat_of_zero_le hx0; (have hjl : j < Ts.length := by have := hx1 (by decide); have := HLEN.out; omega); (have p1 : (0 : Int) ≤ (j : Int) := by omega); (have p2 : (j : Int) < (Ts.length : Int) := by omega); (have h7 := HS3.out.atPut hg7 hc7 HY.out HYC.out HO3.out HNF.out HFF.out HXF.out HOK.out hjl); obtain ⟨v0, HY7, ⟨u0, h30⟩, ⟨u1, h31⟩, ⟨u2, h32⟩, g30, g31, g32, hn7⟩ := h7; (have HN := Lib.hid hn7); obtain ⟨v1, v2, v3, _, _, _⟩ := HY7; clear hx0 hx1 hc7 hg7 hn7))
    all_goals
      obtain ⟨cur', fp', hl', hs'⟩ := HN.out
      have m0 := hs'.lx.c0
      have m1 := hs'.lr.c0
      have m2 := hs'.lr.f0
      have HS' := Lib.hid hs'
      have HL' := Lib.hid hl'
      clear hs' hl' HN
      go_wp2_with fail
      have k0 := World.cell?_setCell_same _ _ (.slice (some ⟨g, 0, none⟩) cur'.length k1) m1
      refine bodyPost_ret (v := .agg #[.slice (some ⟨g, 0, none⟩) cur'.length k1]) (by simp [results, Tryz.results21, go_sem, k0]) rfl (HS'.out.done (by have := HL'.out; have := HLEN.out; omega))
  have tt0 : (x == 0) = false := by rw [beq_eq_false_iff_ne]; exact x0
  by_cases x1 : x = 1
  · subst x1
    clear x0
    have hal := HS2.out.alloc (.cells (nn3.map fun z => Value.string z).toArray 9)
    have HP := Lib.hid (pickS_any nn3 w2.heap.size (by decide) (by decide) c v l B _ hal.cu (HR.out _ hal.gr) hB (by have := (cur_size HS2.out.cu); omega) (list_cellsS nn3 w2 9))
    have HAL := Lib.hid hal
    clear hal
    go_wp2_with fail
    refine HP.out.mono ?_
    rintro e w3 ⟨t, ht, rfl, hc3, hg3⟩
    have hnm := nn3_ok ⟨t, ht⟩
    simp only at hnm
    generalize nn3.getD t ⟨#[]⟩ = nm at *
    have HS3 := Lib.hid (HAL.out.grown hg3 hc3)
    have HT := Lib.hid (show Calls Tryz.prog 23 #[.pointer (some ⟨c, 0, none⟩), .string nm, .int .i64 2, .int .i64 4, .int .i64 3] w3 (TabGen 4 w3 c v l nm 2) from tab_gen 4 3 (by decide) (by decide) nm 2 (by decide) c v l B w3 HS3.out.cu (HR.out w3 HS3.out.gr) hB)
    clear hc3 hg3 HP HAL
    go_wp2_with fail
    refine HT.out.mono ?_
    rintro e w5 ⟨y, rows, f, rfl, how, hnf, hwt, hc5, hg5⟩
    obtain ⟨a5, cap5, rfl⟩ := Cd.ow_slice how
    obtain ⟨hL, hD⟩ := HS3.out.laid hg5 hc5 how hnf (nm := nm) (ar := 2) ⟨hnm, by show (-1 : Int) ≤ 2 ∧ (2 : Int) ≤ 4; decide, by show rowsWt rows ≤ 32; omega⟩ 29
    have q1 := (HS3.out.grown hg5 hc5).lx.c0
    have q2 : X < w5.heap.size := (HS3.out.grown hg5 hc5).sz
    have HL := Lib.hid hL
    have HD := Lib.hid hD
    clear hL hD how hnf hwt hc5 hg5 HT HS3 HS2
    go_wp2_with (at_builtin; refine Cd.wpList_appendN (c := tabC) rfl (.tmp 30) (.tmp 32) 24 rfl (w.heap.size + 1) 29 (.agg #[.string ⟨#[]⟩, .int .i64 0, .slice none 0 0]) 3 48 rfl Tryz.underlying24 info_x rfl (by decide) _ Ts fp rfl HL.out.ow HL.out.nd (w5.heap.size + 1) _ rfl HD.out.at_ (nm, 2, rows) f HD.out.ow HD.out.nd HD.out.far HLL.out HD.out.sz ?_)
    intro g4 cap4 w6 fp6 ho6 hn6 hs6 ht6
    obtain ⟨e0, e1⟩ := HL.out.fcell ht6
    have HA := Lib.hid (HL.out.app (cur' := Ts ++ [(nm, 2, rows)]) (ok_app HL.out.ok HD.out.ok) (by simp) ht6 ho6 hn6 (fun q => by
      rcases hs6 X q with q | q | q
      · exact HL.out.xf q
      · exact HD.out.xf q
      · have := HL.out.sz; omega))
    have m1 := HA.out.lr.c0
    have m2 := HA.out.lr.f0
    have HLA := Lib.hid (show (Ts ++ [(nm, 2, rows)]).length = Ts.length + 1 by simp)
    clear ho6 hn6 hs6 ht6
    go_wp2_with fail
    have k0 := World.cell?_setCell_same _ _ (.slice (some ⟨g4, 0, none⟩) (Ts.length + 1) cap4) m1
    have hd := HA.out.done (by have := HLA.out; have := HLEN.out; omega)
    rw [HLA.out] at hd
    refine bodyPost_ret (v := .agg #[.slice (some ⟨g4, 0, none⟩) (Ts.length + 1) cap4]) (by simp [results, Tryz.results21, go_sem, k0]) rfl hd
  have tt1 : (x == 1) = false := by rw [beq_eq_false_iff_ne]; exact x1
  by_cases x2 : x = 2
  · subst x2
    clear x0 x1
    go_upto_region 10 with fail
    have HB := Lib.hid (below_any 5 c v l B w2.drew HS2.out.drew.cu (HR.out _ HS2.out.drew.gr) hB)
    have z0 := HS2.out.lx.c0
    have p5 : Ts.length ≤ k1 := by
      obtain ⟨v', xss, fps, e1, hown, _, _⟩ := HS2.out.ow
      injection e1 with e1 _
      subst e1
      rcases hown.2 with ⟨e1, _⟩ | ⟨g', cap', cur', e1, _, _, _, _, _, _⟩
      · cases e1
      · injection e1 with _ e2 e3
        omega
    have p4 : (Ts.length : Int) ≤ (k1 : Int) := by omega
    go_region_law (first | (go_simp; go_at_call 48; refine HB.out.mono ?_; rintro e w7 ⟨x, rfl, hx0, hx1, hc7, hg7⟩; obtain ⟨j, rfl⟩ := Int.eq_ofNat_of_zero_le hx0; (have hjl : j < Ts.length := by have := hx1 (by decide); have := HLEN.out; omega); (have p1 : (0 : Int) ≤ (j : Int) := by omega); (have p2 : (j : Int) ≤ (Ts.length : Int) := by omega); (have p6 : ¬ k1 = j := by omega); (have HS7 := Lib.hid (HS2.out.drew.grown hg7 hc7)); (have HJL := Lib.hid hjl); (have v0 := HS7.out.lx.c0); (have v1 := HS7.out.lx.f0); clear hx0 hx1 hc7 hg7 hjl))
    all_goals
      have m1 : (w7.setCell ⟨X, 0, none⟩ (.slice (some ⟨g, j * 3, none⟩) (Ts.length - j) (k1 - j))).cell? ⟨w.heap.size, 0, none⟩ = some (.slice none 0 0) := (HS7.out.lr.set_far (by have := HS7.out.xb; show X ≠ _; omega) _).c0
      have m2 : w7.frozen? ⟨w.heap.size, 0, none⟩ = false := HS7.out.lr.f0
      go_wp2_with fail
      have k0 := World.cell?_setCell_same _ _ (.slice (some ⟨g, j * 3, none⟩) (Ts.length - j) (k1 - j)) m1
      refine bodyPost_ret (v := .agg #[.slice (some ⟨g, j * 3, none⟩) (Ts.length - j) (k1 - j)]) (by simp [results, Tryz.results21, go_sem, k0]) rfl (HS7.out.doneCut (by have := HLEN.out; omega) HJL.out _ _)
  have tt2 : (x == 2) = false := by rw [beq_eq_false_iff_ne]; exact x2
  by_cases x3 : x = 3
  · subst x3
    clear x0 x1 x2
    have HT := Lib.hid (show Calls Tryz.prog 23 #[.pointer (some ⟨c, 0, none⟩), .string ⟨#[119]⟩, .int .i64 1, .int .i64 2, .int .i64 3] w2 (TabGen 2 w2 c v l ⟨#[119]⟩ 1) from tab_gen 2 3 (by decide) (by decide) ⟨#[119]⟩ 1 (by decide) c v l B w2 HS2.out.cu (HR.out w2 HS2.out.gr) hB)
    go_wp2_with fail
    refine HT.out.mono ?_
    rintro e w3 ⟨y, rows, f, rfl, how, hnf, hwt, hc3, hg3⟩
    obtain ⟨a3, cap3, rfl⟩ := Cd.ow_slice how
    have hs3 := (HS2.out.grown hg3 hc3).alloc (.cells #[.string ⟨#[119]⟩, .int .i64 1, .slice a3 rows.length cap3] 29 (0, 0))
    have HT2 := Lib.hid (show Calls Tryz.prog 23 #[.pointer (some ⟨c, 0, none⟩), .string ⟨#[120]⟩, .int .i64 1, .int .i64 2, .int .i64 3] (w3.alloc (.cells #[.string ⟨#[119]⟩, .int .i64 1, .slice a3 rows.length cap3] 29 (0, 0))) (TabGen 2 (w3.alloc (.cells #[.string ⟨#[119]⟩, .int .i64 1, .slice a3 rows.length cap3] 29 (0, 0))) c v l ⟨#[120]⟩ 1) from tab_gen 2 3 (by decide) (by decide) ⟨#[120]⟩ 1 (by decide) c v l B _ hs3.cu (HR.out _ hs3.gr) hB)
    have HH3 := Lib.hid (And.intro how (And.intro hnf (And.intro hwt (And.intro hc3 hg3))))
    have HY := Lib.hid (Loc3.of (row_alloc w3 (.cells #[.string ⟨#[119]⟩, .int .i64 1, .slice a3 rows.length cap3] 29 (0, 0))))
    have HYC := Lib.hid (show w3.heap.size ≠ c by have := HS2.out.cb; have := hg3.size; have := HS2.out.sz; have := HS2.out.xb; omega)
    clear how hnf hwt hc3 hg3 hs3 HT
    go_wp2_with fail
    refine HT2.out.mono ?_
    rintro e w4 ⟨y2, rows2, f2, rfl, how2, hnf2, hwt2, hc4, hg4⟩
    obtain ⟨a4, cap4, rfl⟩ := Cd.ow_slice how2
    obtain ⟨hL, hD⟩ := HS2.out.laid2 HH3.out.2.2.2.2 HH3.out.2.2.2.1 HH3.out.1 HH3.out.2.1 (nm := ⟨#[119]⟩) (ar := 1) ⟨by show (⟨#[119]⟩ : ByteArray).size ≤ 2; decide, by show (-1 : Int) ≤ 1 ∧ (1 : Int) ≤ 4; decide, by show rowsWt rows ≤ 32; have := HH3.out.2.2.1; omega⟩ 29 29 29 hg4 hc4 how2 hnf2 (nm2 := ⟨#[120]⟩) (ar2 := 1) ⟨by show (⟨#[120]⟩ : ByteArray).size ≤ 2; decide, by show (-1 : Int) ≤ 1 ∧ (1 : Int) ≤ 4; decide, by show rowsWt rows2 ≤ 32; omega⟩
    obtain ⟨q3, q4, q5, _, _, _⟩ := loc_grown HY.out hg4 HYC.out
    have q6 := HY.out.lt
    have hs4 := ((HS2.out.grown HH3.out.2.2.2.2 HH3.out.2.2.2.1).alloc (.cells #[.string ⟨#[119]⟩, .int .i64 1, .slice a3 rows.length cap3] 29 (0, 0))).grown hg4 hc4
    have q1 := hs4.lx.c0
    have q2 : X < w4.heap.size := hs4.sz
    have q7 : w3.heap.size < w4.heap.size := Nat.lt_of_lt_of_le HY.out.lt hg4.size
    have HL := Lib.hid hL
    have HD := Lib.hid hD
    clear hL hD how2 hnf2 hwt2 hc4 hg4 hs4 HT2 HS2 HH3 HY
    go_wp2_with (at_builtin; refine Cd.wpList_appendN2 (c := tabC) rfl (.tmp 50) (.tmp 53) 24 rfl (w.heap.size + 1) 29 (.agg #[.string ⟨#[]⟩, .int .i64 0, .slice none 0 0]) 3 48 rfl Tryz.underlying24 info_x rfl (by decide) _ Ts fp rfl HL.out.ow HL.out.nd (w4.heap.size + 1) _ _ rfl HD.out.at_ (⟨#[119]⟩, 1, rows) f HD.out.ow HD.out.nd HD.out.far (⟨#[120]⟩, 1, rows2) f2 HD.out.ow2 HD.out.nd2 HD.out.far2 HD.out.dis HLL2.out HD.out.sz ?_)
    intro g5 cap5 w6 fp6 ho6 hn6 hs6 ht6
    obtain ⟨e0, e1⟩ := HL.out.fcell ht6
    have HA := Lib.hid (HL.out.app (cur' := Ts ++ [((⟨#[119]⟩, 1, rows) : T3), ((⟨#[120]⟩, 1, rows2) : T3)]) (ok_app2 HL.out.ok HD.out.ok HD.out.ok2) (by simp) ht6 ho6 hn6 (fun q => by
      rcases hs6 X q with q | q | q | q
      · exact HL.out.xf q
      · exact HD.out.xf q
      · exact HD.out.xf2 q
      · have := HL.out.sz; omega))
    have m1 := HA.out.lr.c0
    have m2 := HA.out.lr.f0
    have HLA := Lib.hid (show (Ts ++ [((⟨#[119]⟩, 1, rows) : T3), (⟨#[120]⟩, 1, rows2)]).length = Ts.length + 2 by simp)
    clear ho6 hn6 hs6 ht6
    go_wp2_with fail
    have k0 := World.cell?_setCell_same _ _ (.slice (some ⟨g5, 0, none⟩) (Ts.length + 2) cap5) m1
    have hd := HA.out.done (by have := HLA.out; have := HLEN.out; omega)
    rw [HLA.out] at hd
    refine bodyPost_ret (v := .agg #[.slice (some ⟨g5, 0, none⟩) (Ts.length + 2) cap5]) (by simp [results, Tryz.results21, go_sem, k0]) rfl hd
  have tt3 : (x == 3) = false := by rw [beq_eq_false_iff_ne]; exact x3
  clear x0 x1 x2 x3
  have m0 := HS2.out.lx.c0
  have m1 := HS2.out.lr.c0
  have m2 := HS2.out.lr.f0
  go_wp2_with fail
  have k0 := World.cell?_setCell_same _ _ (.slice (some ⟨g, 0, none⟩) Ts.length k1) m1
  refine bodyPost_ret (v := .agg #[.slice (some ⟨g, 0, none⟩) Ts.length k1]) (by simp [results, Tryz.results21, go_sem, k0]) rfl (HS2.out.done (by have := HLEN.out; omega))
end Go.Proofs.YteihnbnlfocgmaaGreatDoor.DbDraw

namespace Go.Proofs.YteihnbnlfocgmaaGreatDoor.DbDraw
open Go Go.RowKit Byt Ints IntsLaw IntsWalk Draw LocDraw Cd Rows2 Tab TabDraw SlMath TabOpen TabElem SlTable Db TabSpec DbMath DbSpec DbExact DbAcc

def nn5 : List ByteArray := [⟨#[97]⟩, ⟨#[114]⟩, ⟨#[114, 114]⟩, ⟨#[116]⟩, ⟨#[122]⟩]
theorem nn5_ok : ∀ t : Fin 5, (nn5.getD t.val ⟨#[]⟩).size ≤ 2 := by decide
/-- A drawn database and a drawn table. -/
def SetDraw (w : World) (e : Ending) (w' : World) : Prop :=
  ∃ (u : Value) (nm : ByteArray) (ar : Int) (y : Value) (Ts : List T3) (rows : List (List Int)), e = .returned (.tuple #[.agg #[u], .agg #[.string nm, .int .i64 ar, y]]) ∧ tabsC.rd w' (· < w'.heap.size) [u] Ts ∧ Ts.length ≤ 7 ∧ (∀ T ∈ Ts, OkD T) ∧
    rowsC.rd w' (· < w'.heap.size) [y] rows ∧ OkD (nm, ar, rows) ∧ Below w.heap.size w w'
/-- In the drawing: the results' cells, the cursor behind them, the local database in block X. -/
structure T5 (w : World) (c : Nat) (v : Value) (l : List UInt8) (X : Nat) (u : Value) (Ts : List T3) (W : World) : Prop where
  lx : Loc1 W X u
  lr : ∃ a, Loc1 W w.heap.size a
  lt : ∃ a b d, Loc3 W (w.heap.size + 1) a b d
  rd : tabsC.rd W (fun b => c + 1 ≤ b ∧ b < W.heap.size) [u] Ts
  xb : c < X
  cb : w.heap.size + 1 < c
  cu : Cur W c v l
  bl : Below w.heap.size w W
section
variable {w : World} {c : Nat} {v : Value} {l : List UInt8} {X : Nat} {u : Value} {Ts : List T3} {W W' : World}
theorem T5.grown (h : T5 w c v l X u Ts W) (hg : W.grownBy W' (some c)) (hc : Cur W' c v l) : T5 w c v l X u Ts W' :=
  have h1 := h.cb
  have h2 := h.xb
  have ⟨_, h3⟩ := h.lr
  have ⟨_, _, _, h4⟩ := h.lt
  ⟨loc1_grown h.lx hg (by omega), ⟨_, loc1_grown h3 hg (by omega)⟩, ⟨_, _, _, loc_grown h4 hg (by omega)⟩, rd_grown h.rd hg (Nat.lt_succ_self c), h2, h1, hc, h.bl.trans (below_of hg (by omega) (cur_size h.cu))⟩
theorem T5.alloc (h : T5 w c v l X u Ts W) (o : Obj) : T5 w c v l X u Ts (W.alloc o) := h.grown (World.grownBy_alloc W o (some c)) (cur_allocI o h.cu)
theorem T5.drew (h : T5 w c v l X u Ts W) : T5 w c v l X u Ts W.drew :=
  have ⟨_, h3⟩ := h.lr
  have ⟨_, _, _, h4⟩ := h.lt
  ⟨h.lx.drew, ⟨_, h3.drew⟩, ⟨_, _, _, h4.keep rfl⟩, tabsC.keep h.rd fun _ _ _ => rfl, h.xb, h.cb, h.cu, Below.drew h.bl⟩
theorem T5.base (h : T5 w c v l X u Ts W) : c + 1 ≤ W.heap.size := by
  have := h.lx.lt
  have := h.xb
  omega
theorem rd_setN {α : Type} {cd : Cd α} {base : Nat} {us : List Value} {a : α} (h : cd.rd W (fun b => base ≤ b ∧ b < W.heap.size) us a) {p : Addr} (hp : p.block < base) (x : Value) : cd.rd (W.setCell p x) (fun b => base ≤ b ∧ b < (W.setCell p x).heap.size) us a :=
  cd.mono (rd_set h (show ¬ (base ≤ p.block ∧ _) from fun q => by have := q.1; omega) x) fun _ _ hb => ⟨hb.1, by simpa using hb.2⟩
theorem T5.setD (h : T5 w c v l X u Ts W) (x : Value) : T5 w c v l X u Ts (W.setCell ⟨w.heap.size, 0, none⟩ x) :=
  have h1 := h.cb
  have h2 := h.xb
  have ⟨_, h3⟩ := h.lr
  have ⟨_, _, _, h4⟩ := h.lt
  ⟨h.lx.set_far (by show w.heap.size ≠ X; omega) _, ⟨_, h3.set _⟩, ⟨_, _, _, h4.set_far (by show w.heap.size ≠ w.heap.size + 1; omega) _⟩, rd_setN h.rd (by show w.heap.size < c + 1; omega) x, h2, h1, cur_farI _ h.cu (by show c ≠ w.heap.size; omega), h.bl.setCell (Nat.le_refl _) _⟩
theorem T5.setT (h : T5 w c v l X u Ts W) (x y z : Value) : T5 w c v l X u Ts (((W.setCell ⟨w.heap.size + 1, 0, none⟩ x).setCell ⟨w.heap.size + 1, 1, none⟩ y).setCell ⟨w.heap.size + 1, 2, none⟩ z) := by
  have h1 := h.cb
  have h2 := h.xb
  obtain ⟨_, h3⟩ := h.lr
  obtain ⟨_, _, _, h4⟩ := h.lt
  have e1 : w.heap.size + 1 ≠ X := by omega
  have e2 : w.heap.size + 1 ≠ w.heap.size := by omega
  have e3 : c ≠ w.heap.size + 1 := by omega
  have e4 : w.heap.size + 1 < c + 1 := by omega
  obtain ⟨c0, c1, c2, f0, f1, f2⟩ := h4
  obtain ⟨k0, k1, k2⟩ := set3 (w := W) (k := w.heap.size + 1) (x := x) (y := y) (z := z) c0 c1 c2
  exact ⟨((h.lx.set_far e1 _).set_far e1 _).set_far e1 _, ⟨_, ((h3.set_far e2 _).set_far e2 _).set_far e2 _⟩, ⟨_, _, _, k0, k1, k2, by simpa using f0, by simpa using f1, by simpa using f2⟩,
    rd_setN (rd_setN (rd_setN h.rd e4 x) e4 y) e4 z, h2, h1, cur_farI _ (cur_farI _ (cur_farI _ h.cu e3) e3) e3, ((h.bl.setCell (Nat.le_succ _) _).setCell (Nat.le_succ _) _).setCell (Nat.le_succ _) _⟩
theorem T5.all (h : T5 w c v l X u Ts W) : W.cell? ⟨X, 0, none⟩ = some u ∧ T5 w c v l X u Ts W := ⟨h.lx.c0, h⟩
theorem T5.end (h : T5 w c v l X u Ts W) {nm : ByteArray} {ar : Int} {y : Value} {rows : List (List Int)} (hr : rowsC.rd W (fun b => c + 1 ≤ b ∧ b < W.heap.size) [y] rows) (hl : Ts.length ≤ 7) (ho : ∀ T ∈ Ts, OkD T) (hT : OkD (nm, ar, rows)) :
    SetDraw w (.returned (.tuple #[.agg #[u], .agg #[.string nm, .int .i64 ar, y]])) W :=
  ⟨u, nm, ar, y, Ts, rows, rfl, tabsC.mono h.rd fun _ _ q => q.2, hl, ho, rowsC.mono hr fun _ _ q => q.2, hT, h.bl⟩
/-- The results are stored, the database first. -/
theorem T5.fin (h : T5 w c v l X u Ts W) {nm : ByteArray} {ar : Int} {y : Value} {rows : List (List Int)} (hr : rowsC.rd W (fun b => c + 1 ≤ b ∧ b < W.heap.size) [y] rows) (hl : Ts.length ≤ 7) (ho : ∀ T ∈ Ts, OkD T) (hT : OkD (nm, ar, rows)) {W' : World}
    (e : W' = (((W.setCell ⟨w.heap.size, 0, none⟩ u).setCell ⟨w.heap.size + 1, 0, none⟩ (.string nm)).setCell ⟨w.heap.size + 1, 1, none⟩ (.int .i64 ar)).setCell ⟨w.heap.size + 1, 2, none⟩ y) :
    W'.cell? ⟨w.heap.size, 0, none⟩ = some u ∧ W'.cell? ⟨w.heap.size + 1, 0, none⟩ = some (.string nm) ∧ W'.cell? ⟨w.heap.size + 1, 1, none⟩ = some (.int .i64 ar) ∧ W'.cell? ⟨w.heap.size + 1, 2, none⟩ = some y ∧ SetDraw w (.returned (.tuple #[.agg #[u], .agg #[.string nm, .int .i64 ar, y]])) W' := by
  subst e
  have h1 := h.cb
  have e4 : w.heap.size + 1 < c + 1 := by omega
  obtain ⟨_, h3⟩ := (h.setD u).lr
  obtain ⟨_, g3⟩ := h.lr
  obtain ⟨_, _, _, c0, c1, c2, _⟩ := (h.setD u).lt
  obtain ⟨k0, k1, k2⟩ := set3 (w := W.setCell ⟨w.heap.size, 0, none⟩ u) (k := w.heap.size + 1) (x := .string nm) (y := .int .i64 ar) (z := y) c0 c1 c2
  exact ⟨far3 (World.cell?_setCell_same _ _ _ g3.c0) (by show w.heap.size ≠ w.heap.size + 1; omega), k0, k1, k2,
    T5.end ((h.setD u).setT _ _ _) (rd_setN (rd_setN (rd_setN (rd_setN hr (by show w.heap.size < c + 1; omega) _) e4 _) e4 _) e4 _) hl ho hT⟩
/-- The same, the table first. -/
theorem T5.fin2 (h : T5 w c v l X u Ts W) {nm : ByteArray} {ar : Int} {y : Value} {rows : List (List Int)} (hr : rowsC.rd W (fun b => c + 1 ≤ b ∧ b < W.heap.size) [y] rows) (hl : Ts.length ≤ 7) (ho : ∀ T ∈ Ts, OkD T) (hT : OkD (nm, ar, rows)) {W' : World}
    (e : W' = (((W.setCell ⟨w.heap.size + 1, 0, none⟩ (.string nm)).setCell ⟨w.heap.size + 1, 1, none⟩ (.int .i64 ar)).setCell ⟨w.heap.size + 1, 2, none⟩ y).setCell ⟨w.heap.size, 0, none⟩ u) :
    W'.cell? ⟨w.heap.size, 0, none⟩ = some u ∧ W'.cell? ⟨w.heap.size + 1, 0, none⟩ = some (.string nm) ∧ W'.cell? ⟨w.heap.size + 1, 1, none⟩ = some (.int .i64 ar) ∧ W'.cell? ⟨w.heap.size + 1, 2, none⟩ = some y ∧ SetDraw w (.returned (.tuple #[.agg #[u], .agg #[.string nm, .int .i64 ar, y]])) W' := by
  subst e
  have h1 := h.cb
  have e4 : w.heap.size + 1 < c + 1 := by omega
  obtain ⟨_, _, _, c0, c1, c2, _⟩ := h.lt
  obtain ⟨_, g3⟩ := (h.setT (.string nm) (.int .i64 ar) y).lr
  obtain ⟨k0, k1, k2⟩ := set3 (w := W) (k := w.heap.size + 1) (x := .string nm) (y := .int .i64 ar) (z := y) c0 c1 c2
  have hn : ∀ i, (⟨w.heap.size, 0, none⟩ : Addr) ≠ ⟨w.heap.size + 1, i, none⟩ := fun i q => by have := congrArg Addr.block q; simp only at this; omega
  refine ⟨World.cell?_setCell_same _ _ _ g3.c0, ?_, ?_, ?_, T5.end ((h.setT _ _ _).setD u) (rd_setN (rd_setN (rd_setN (rd_setN hr e4 _) e4 _) e4 _) (by show w.heap.size < c + 1; omega) _) hl ho hT⟩
  · rw [World.cell?_setCell_other _ _ _ _ (hn _)]; exact k0
  · rw [World.cell?_setCell_other _ _ _ _ (hn _)]; exact k1
  · rw [World.cell?_setCell_other _ _ _ _ (hn _)]; exact k2
end

set_option maxRecDepth 100000 in
set_option maxHeartbeats 3200000 in
theorem draw_set (v : Value) (l : List UInt8) (w : World) (hr : Reads w v l w.heap.size) :
    Calls Tryz.prog 5 #[v] w (SetDraw w) := by
  have HR := Lib.hid (fun w' (hb : Below w.heap.size w w') => hr.later hb)
  have HN := Lib.hid (fun B w' (hr : Reads w' v l B) => new_any v l B w' hr)
  clear hr
  go_enter Tryz.func5, Tryz.ntmps5
  go_wp2_with fail
  generalize hW : (w.alloc _).alloc _ = W0
  obtain ⟨r0, r1, hz, hb0⟩ := start2g w _ _ hW
  clear hW
  refine (HN.out _ W0 (HR.out _ hb0)).mono ?_
  rintro e w1 ⟨rfl, hc1, hg1⟩
  have hb1 : Below W0.heap.size W0 w1 := ⟨hg1.os, hg1.tape, hg1.output, hg1.size, fun k hk => hg1.block k hk (by simp)⟩
  have HB1 := Lib.hid (Tab.below_then hb0 hb1)
  have HL1 := Lib.hid ((Loc1.of r0).later hb1)
  have HL3 := Lib.hid ((Loc3.of r1).later hb1)
  have hcs1 := cur_size hc1
  have HC1 := Lib.hid hc1
  obtain ⟨c, hcc⟩ : ∃ c, W0.heap.size = c := ⟨_, rfl⟩
  rw [hcc] at HC1 hcs1
  rw [hcc]
  have hcw : w.heap.size + 1 < c := by omega
  have HCW := Lib.hid hcw
  have hBc : w.heap.size ≤ c := by omega
  clear r0 r1 hz hb0 hb1 hc1 hg1 HN hcc hcw
  have HD := Lib.hid (dbany_any c v l w.heap.size w1 HC1.out (HR.out _ HB1.out) hBc)
  go_wp2_with fail
  refine HD.out.mono ?_
  rintro e w2 ⟨u, Ts, rfl, hrd, hlen, hok, hc2, hg2⟩
  obtain ⟨ad, cd, rfl, _⟩ := Cd.sl_form hrd
  have hcw := HCW.out
  have hst : T5 w c v l w2.heap.size (.slice ad Ts.length cd) Ts (w2.alloc (.cells #[.slice ad Ts.length cd] 26 (0, 0))) := by
    have hs2 := hg2.size
    refine ⟨Loc1.of (row_alloc _ _), ⟨_, (loc1_grown HL1.out hg2 (by omega)).later (below_alloc _ _)⟩, ⟨_, _, _, (loc_grown HL3.out hg2 (by omega)).later (below_alloc _ _)⟩, ?_, by omega, by omega, cur_allocI _ hc2, Tab.below_then (HB1.out.trans (below_of hg2 hBc hcs1)) (below_alloc _ _)⟩
    exact tabsC.mono (Cd.later hrd (below_alloc _ _)) fun b _ hb => ⟨by omega, by rw [size_alloc]; omega⟩
  have HS := Lib.hid hst
  have HLEN := Lib.hid hlen
  have HOK := Lib.hid hok
  clear hst hrd hlen hok hc2 hg2 HD HL1 HL3 HB1 HC1 hcs1 hcw
  go_wp2_with fail
  generalize w2.alloc _ = W2 at *
  generalize w2.heap.size = X at *
  have HON := Lib.hid (once_anyI 2 c v l w.heap.size W2 HS.out.cu (HR.out _ HS.out.bl) hBc)
  refine HON.out.mono ?_
  rintro e w3 ⟨b, rfl, hc3, hg3⟩
  have HS3 := Lib.hid (HS.out.grown hg3 hc3)
  clear hc3 hg3 HON HS
  have z0 := HS3.out.lx.c0
  obtain ⟨zz, z1⟩ := HS3.out.lr
  obtain ⟨za, zb, zc, z2⟩ := HS3.out.lt
  obtain ⟨z3, z4⟩ := z1
  obtain ⟨z5, z6, z7, z8, z9, z10⟩ := z2
  cases b
  · have HT := Lib.hid (fun W' (h : T5 w c v l X (.slice ad Ts.length cd) Ts W') => tabany_any c v l w.heap.size W' h.cu (HR.out _ h.bl) hBc)
    have hs0 := HS3.out.drew
    go_wp2_with fail
    go_region_held3 (fun wx => wx.cell? ⟨X, 0, none⟩ = some (.slice ad Ts.length cd) ∧ T5 w c v l X (.slice ad Ts.length cd) Ts wx)
      (exact T5.all (by first | assumption | exact T5.setD (by assumption) _ | exact T5.setT (by assumption) _ _ _ | exact T5.setT (T5.setD (by assumption) _) _ _ _ | exact T5.setD (T5.setT (by assumption) _ _ _) _))
      (first | (go_at_call 25; refine (HT.out _ (by assumption)).mono ?_; rintro e w5 ⟨nm, ar, y, rows, f, rfl, hnm, har, how, hnf, hwt, hc5, hg5⟩; obtain ⟨a5, cap5, rfl⟩ := Cd.ow_slice how; (have hs5 : T5 w c v l X (.slice ad Ts.length cd) Ts w5 := T5.grown (by assumption) hg5 hc5); (have HRD := Lib.hid (rd_new how (T5.base (by assumption)))); (have HOT := Lib.hid (show OkD (nm, ar, rows) from ⟨hnm, har, by show rowsWt rows ≤ 32; omega⟩)); (have y0 := hs5.lx.c0); obtain ⟨_, y3, y4⟩ := hs5.lr; obtain ⟨_, _, _, y5, y6, y7, y8, y9, y10⟩ := hs5.lt; clear how hnf hwt hc5 hg5 hnm har))
    all_goals
      go_wp2_with fail
      first
      | obtain ⟨k0, k1, k2, k3, hd⟩ := hs5.fin (nm := nm) (ar := ar) HRD.out HLEN.out HOK.out HOT.out rfl
        exact bodyPost_ret (v := .tuple #[.agg #[.slice ad Ts.length cd], .agg #[.string nm, .int .i64 ar, .slice a5 rows.length cap5]]) (by simp [results, Tryz.results5, go_sem, k0, k1, k2, k3]) rfl hd
      | obtain ⟨k0, k1, k2, k3, hd⟩ := hs5.fin2 (nm := nm) (ar := ar) HRD.out HLEN.out HOK.out HOT.out rfl
        exact bodyPost_ret (v := .tuple #[.agg #[.slice ad Ts.length cd], .agg #[.string nm, .int .i64 ar, .slice a5 rows.length cap5]]) (by simp [results, Tryz.results5, go_sem, k0, k1, k2, k3]) rfl hd
  · have HP := Lib.hid (fun W' (h : T5 w c v l X (.slice ad Ts.length cd) Ts W') => pickS_any nn5 W'.heap.size (by decide) (by decide) c v l w.heap.size (W'.alloc (.cells (nn5.map fun z => Value.string z).toArray 9)) (h.alloc _).cu (HR.out _ (h.alloc _).bl) hBc (by have := h.base; omega) (list_cellsS nn5 W' 9))
    have HT := Lib.hid (fun W' nm (h : T5 w c v l X (.slice ad Ts.length cd) Ts W') => (show Calls Tryz.prog 23 #[.pointer (some ⟨c, 0, none⟩), .string nm, .int .i64 2, .int .i64 4, .int .i64 3] W' (TabGen 4 W' c v l nm 2) from tab_gen 4 3 (by decide) (by decide) nm 2 (by decide) c v l w.heap.size W' h.cu (HR.out _ h.bl) hBc))
    have hs0 := HS3.out.drew
    go_wp2_with fail
    go_region_held3 (fun wx => wx.cell? ⟨X, 0, none⟩ = some (.slice ad Ts.length cd) ∧ T5 w c v l X (.slice ad Ts.length cd) Ts wx)
      (exact T5.all (by first | assumption | exact T5.alloc (by assumption) _ | exact T5.setD (by assumption) _ | exact T5.setT (by assumption) _ _ _ | exact T5.setT (T5.setD (by assumption) _) _ _ _ | exact T5.setD (T5.setT (by assumption) _ _ _) _))
      (first | (go_at_call 24; refine (HP.out _ (by assumption)).mono ?_; rintro e w4 ⟨t, ht, rfl, hc4, hg4⟩; (have hnm := nn5_ok ⟨t, ht⟩); simp only at hnm; generalize nn5.getD t ⟨#[]⟩ = nm at *; (have hs4 : T5 w c v l X (.slice ad Ts.length cd) Ts w4 := T5.grown (T5.alloc (by assumption) _) hg4 hc4); (have y0 := hs4.lx.c0); clear hc4 hg4) | (go_at_call 23; refine (HT.out _ _ (by assumption)).mono ?_; rintro e w5 ⟨y, rows, f, rfl, how, hnf, hwt, hc5, hg5⟩; obtain ⟨a5, cap5, rfl⟩ := Cd.ow_slice how; (have hs5 : T5 w c v l X (.slice ad Ts.length cd) Ts w5 := T5.grown (by assumption) hg5 hc5); (have HRD := Lib.hid (rd_new how (T5.base (by assumption)))); (have HOT := Lib.hid (show OkD (nm, (2 : Int), rows) from ⟨hnm, by show (-1 : Int) ≤ 2 ∧ (2 : Int) ≤ 4; decide, by show rowsWt rows ≤ 32; omega⟩)); (have y0 := hs5.lx.c0); obtain ⟨_, y3, y4⟩ := hs5.lr; obtain ⟨_, _, _, y5, y6, y7, y8, y9, y10⟩ := hs5.lt; clear how hnf hwt hc5 hg5 hnm))
    all_goals
      go_wp2_with fail
      first
      | obtain ⟨k0, k1, k2, k3, hd⟩ := hs5.fin (nm := nm) (ar := 2) HRD.out HLEN.out HOK.out HOT.out rfl
        exact bodyPost_ret (v := .tuple #[.agg #[.slice ad Ts.length cd], .agg #[.string nm, .int .i64 2, .slice a5 rows.length cap5]]) (by simp [results, Tryz.results5, go_sem, k0, k1, k2, k3]) rfl hd
      | obtain ⟨k0, k1, k2, k3, hd⟩ := hs5.fin2 (nm := nm) (ar := 2) HRD.out HLEN.out HOK.out HOT.out rfl
        exact bodyPost_ret (v := .tuple #[.agg #[.slice ad Ts.length cd], .agg #[.string nm, .int .i64 2, .slice a5 rows.length cap5]]) (by simp [results, Tryz.results5, go_sem, k0, k1, k2, k3]) rfl hd
end Go.Proofs.YteihnbnlfocgmaaGreatDoor.DbDraw

namespace Go.Proofs.YteihnbnlfocgmaaGreatDoor.DbMap
open Go Go.RowKit Byt Ints IntsLaw Cd Rows2 Tab SlMath TabOpen TabElem SlTable Db TabSpec DbMath DbImp DbExact
open Go.Maps (Keyed string_keyed IsMap Tidy)
open DbSpec (LaterD drewD row1 rows_cell name_cell)

/-- A table's value in a map: it stands for itself. -/
def tabR : Value → Option (DataW Value × List MemPlace)
  | .agg ⟨[.string a, .int .i64 b, .slice c d e]⟩ => some (.held (.agg #[.string a, .int .i64 b, .slice c d e]), [])
  | _ => none
structure TabV where
  nm : ByteArray
  ar : Int
  a : Option Addr
  n : Nat
  c : Nat
def TabV.us (t : TabV) : List Value := [.string t.nm, .int .i64 t.ar, .slice t.a t.n t.c]
def TabV.val (t : TabV) : Value := .agg #[.string t.nm, .int .i64 t.ar, .slice t.a t.n t.c]
theorem tabR_mk (t : TabV) : tabR t.val = some (.held t.val, []) := rfl
theorem tabR_inv {v : Value} {y : DataW Value × List MemPlace} (h : tabR v = some y) : ∃ t : TabV, v = t.val ∧ y = (.held v, []) := by
  unfold tabR at h
  split at h
  · injection h with h
    exact ⟨⟨_, _, _, _, _⟩, rfl, h.symm⟩
  · cases h
def keyL (s : ByteArray) : Lit := .string s.data.toList
theorem keyL_ne {s t : ByteArray} (h : s ≠ t) : keyL s ≠ keyL t := fun q => h (by
  unfold keyL at q
  injection q with q
  cases s
  cases t
  simp only [Array.toList_inj] at q
  rw [q])
theorem keyL_lit (s : ByteArray) : WideAt.IsKeyLit (keyL s) := trivial

/-- A map that has just the entries of f, n of them. -/
structure MapIs (D : DataW Value) (f : ByteArray → Option TabV) (n : Nat) : Prop where
  tidy : Tidy D
  has : ∀ s, Maps.has D (keyL s) = (f s).isSome
  at_ : ∀ s t z, f s = some t → D.atKey (keyL s) z = .held t.val
  size : Maps.size D = n
def setF (f : ByteArray → Option TabV) (s : ByteArray) (t : TabV) : ByteArray → Option TabV := fun x => if x = s then some t else f x
def delF (f : ByteArray → Option TabV) (s : ByteArray) : ByteArray → Option TabV := fun x => if x = s then none else f x
theorem MapIs.start : MapIs (.map []) (fun _ => none) 0 := ⟨Maps.tidy_empty, fun _ => rfl, (fun _ _ _ h => by cases h), rfl⟩
theorem MapIs.put {D : DataW Value} {f : ByteArray → Option TabV} {n : Nat} (h : MapIs D f n) (s : ByteArray) (t : TabV) : MapIs (D.put (keyL s) (.held t.val)) (setF f s t) (if (f s).isSome then n else n + 1) := by
  refine ⟨h.tidy.put (keyL_lit s) _, fun x => ?_, fun x y z hy => ?_, ?_⟩
  · by_cases e : x = s
    · subst e
      rw [Maps.has_put_same h.tidy.isMap (keyL_lit x), setF, if_pos rfl]
      rfl
    · rw [Maps.has_put_other (keyL_ne e), h.has, setF, if_neg e]
  · by_cases e : x = s
    · subst e
      rw [setF, if_pos rfl] at hy
      injection hy with hy
      rw [Maps.atKey_put_same h.tidy.isMap (keyL_lit x), hy]
    · rw [setF, if_neg e] at hy
      rw [Maps.atKey_put_other (keyL_ne e)]
      exact h.at_ x y z hy
  · rw [Maps.size_put h.tidy, h.has, h.size]
theorem MapIs.del {D : DataW Value} {f : ByteArray → Option TabV} {n : Nat} (h : MapIs D f n) (s : ByteArray) : MapIs (D.del (keyL s)) (delF f s) (if (f s).isSome then n - 1 else n) := by
  refine ⟨h.tidy.del _, fun x => ?_, fun x y z hy => ?_, ?_⟩
  · by_cases e : x = s
    · subst e
      rw [Maps.has_del_same, delF, if_pos rfl]
      rfl
    · rw [Maps.has_del_other (keyL_ne e), h.has, delF, if_neg e]
  · by_cases e : x = s
    · rw [delF, if_pos e] at hy; cases hy
    · rw [delF, if_neg e] at hy
      rw [Maps.atKey_del_other (keyL_ne e)]
      exact h.at_ x y z hy
  · have := Maps.size_del h.tidy (k := keyL s)
    rw [h.has, h.size] at this
    split at this <;> rename_i q <;> simp only [q] <;> simp <;> omega
theorem MapIs.eq {D : DataW Value} {f g : ByteArray → Option TabV} {n m : Nat} (h : MapIs D f n) (e : f = g) (e2 : n = m) : MapIs D g m := e ▸ e2 ▸ h

/-- The tables of a list, each with its cells. -/
def HeldT (w : World) (S : Nat → Prop) (a : Option Addr) (l : List T3) (ts : List TabV) : Prop :=
  ts.length = l.length ∧ ∀ k (h : k < l.length) (h' : k < ts.length), ts[k].nm = l[k].1 ∧ (∃ b off, a = some ⟨b, off, none⟩ ∧ b < w.heap.size ∧ Cd.At w b (off + k * 3) ts[k].us) ∧ tabC.rd w S ts[k].us l[k]
theorem HeldT.later {w w' : World} {S : Nat → Prop} {a : Option Addr} {l : List T3} {ts : List TabV} (h : HeldT w S a l ts) (hb : Below w.heap.size w w') : HeldT w' S a l ts := by
  refine ⟨h.1, fun k hk hk' => ?_⟩
  obtain ⟨h0, ⟨b, off, e, hl, hat⟩, hr⟩ := h.2 k hk hk'
  exact ⟨h0, ⟨b, off, e, Nat.lt_of_lt_of_le hl hb.size, fun j hj => (hb.cell (p := ⟨b, off + k * 3 + j, none⟩) hl).trans (hat j hj)⟩, Cd.later hr hb⟩
theorem mk_list {α : Type} {P : Nat → α → Prop} : ∀ (n : Nat), (∀ k, k < n → ∃ x, P k x) → ∃ xs : List α, xs.length = n ∧ ∀ k (h : k < xs.length), P k xs[k]
  | 0, _ => ⟨[], rfl, fun k h => by simp at h⟩
  | n + 1, h => by
    obtain ⟨xs, hl, hp⟩ := mk_list n (fun k hk => h k (by omega))
    obtain ⟨x, hx⟩ := h n (by omega)
    refine ⟨xs ++ [x], by simp [hl], fun k hk => ?_⟩
    by_cases e : k < xs.length
    · rw [List.getElem_append_left e]; exact hp k e
    · have hk' : k < xs.length + 1 := by simpa using hk
      obtain rfl : k = n := by omega
      rw [List.getElem_append_right (by omega)]
      simpa [hl] using hx
theorem held_of {w : World} {S : Nat → Prop} {a : Option Addr} {l : List T3} {n cap : Nat} (h : tabsC.rd w S [.slice a n cap] l) : ∃ ts, HeldT w S a l ts := by
  obtain ⟨ts, hl, hp⟩ := mk_list (P := fun k (t : TabV) => ∀ (h : k < l.length), t.nm = l[k].1 ∧ (∃ b off, a = some ⟨b, off, none⟩ ∧ b < w.heap.size ∧ Cd.At w b (off + k * 3) t.us) ∧ tabC.rd w S t.us l[k]) l.length (fun k hk => by
    obtain ⟨b, off, cap', us, e, _, hb, hat, hu⟩ := Cd.sl_at h hk
    obtain ⟨a2, c2, rfl⟩ := elem_form hu
    injection e with e _ _
    exact ⟨⟨(l[k]).1, (l[k]).2.1, a2, (l[k]).2.2.length, c2⟩, fun _ => ⟨rfl, ⟨b, off, e, hb, hat⟩, hu⟩⟩)
  exact ⟨ts, hl, fun k hk hk' => hp k hk' hk⟩
/-- The entry of a name. -/
def entF (ts : List TabV) : ByteArray → Option TabV := fun s => ts.find? (fun t => decide (t.nm = s))
theorem entF_nil : entF [] = fun _ => none := rfl
theorem entF_more {ts : List TabV} {t : TabV} (h : ∀ u ∈ ts, u.nm ≠ t.nm) : entF (ts ++ [t]) = setF (entF ts) t.nm t := by
  funext s
  unfold entF setF
  rw [List.find?_append]
  by_cases e : s = t.nm
  · subst e
    rw [if_pos rfl, List.find?_eq_none.2 (fun u hu => by simpa using h u hu)]
    simp
  · rw [if_neg e]
    have : List.find? (fun u => decide (u.nm = s)) [t] = none := by simp; exact fun q => e q.symm
    rw [this]
    simp
theorem entF_none {ts : List TabV} {t : TabV} (h : ∀ u ∈ ts, u.nm ≠ t.nm) : (entF ts t.nm).isSome = false := by
  unfold entF
  rw [List.find?_eq_none.2 (fun u hu => by simpa using h u hu)]
  rfl
theorem entF_find {w : World} {S : Nat → Prop} {a : Option Addr} {l : List T3} {ts : List TabV} (h : HeldT w S a l ts) (s : ByteArray) :
    (findN l s = none ∧ entF ts s = none) ∨ ∃ T t, findN l s = some T ∧ entF ts s = some t ∧ tabC.rd w S t.us T := by
  obtain ⟨hl, h⟩ := h
  unfold findN entF
  induction ts generalizing l a with
  | nil =>
    obtain rfl : l = [] := List.length_eq_zero_iff.1 hl.symm
    exact .inl ⟨rfl, rfl⟩
  | cons t ts ih =>
    cases l with
    | nil => simp at hl
    | cons T l =>
      have h0 := h 0 (by simp) (by simp)
      simp only [List.getElem_cons_zero] at h0
      by_cases e : t.nm = s
      · refine .inr ⟨T, t, ?_, ?_, h0.2.2⟩
        · rw [List.find?_cons_of_pos (by simpa [h0.1] using e)]
        · rw [List.find?_cons_of_pos (by simpa using e)]
      · rw [List.find?_cons_of_neg (by simpa [h0.1] using e), List.find?_cons_of_neg (by simpa using e)]
        refine ih (a := a.map fun p => ⟨p.block, p.off + 3, none⟩) (by simpa using hl) fun k hk hk' => ?_
        obtain ⟨g0, ⟨b, off, rfl, g1, g2⟩, g3⟩ := h (k + 1) (by simpa using hk) (by simpa using hk')
        simp only [List.getElem_cons_succ] at g0 g2 g3
        exact ⟨g0, ⟨b, off + 3, rfl, g1, fun j hj => by have := g2 j hj; rw [show off + 3 + k * 3 = off + (k + 1) * 3 by omega]; exact this⟩, g3⟩
end Go.Proofs.YteihnbnlfocgmaaGreatDoor.DbMap

namespace Go.Proofs.YteihnbnlfocgmaaGreatDoor.TabImp
open Go Go.RowKit Byt Ints IntsLaw Cd Rows2 Tab TabSpec

set_option maxRecDepth 100000 in
theorem copy_cells_int (a : Option Addr) (n c : Nat) (us : List Value) (w : World) (hn : us.length = n) (hl : n ≤ 1048577) (hc : 0 < n → ∃ b off, a = some ⟨b, off, none⟩ ∧ b < w.heap.size ∧ ∀ j v, us[j]? = some v → w.cell? ⟨b, off + j, none⟩ = some v) (h1 : ∀ v ∈ us, v.oneCell' = true) :
    Calls Tryz.prog 62 #[.slice a n c] w fun e w' => e = .returned (.slice (some ⟨w.heap.size, 0, none⟩) n n) ∧ w'.ownsRow w.heap.size 3 1 (.slice (some ⟨w.heap.size, 0, none⟩) n n) n us ∧ Below w.heap.size w w' := by
  obtain ⟨i0, hi, hz0, hz1, hz2⟩ := info_parts info_i64
  have HC := Lib.hid hc
  have HU := Lib.hid h1
  clear hc h1
  go_enter Tryz.func62, Tryz.ntmps62
  go_wp2_with (at_make; refine wpList_make_full _ rfl _ _ 70 rfl w.heap.size 3 i0 (.int .i64 0) 1 Tryz.underlying70 hi hz0 hz1 _ _ _ _ n rfl rfl rfl rfl (by rw [hz2]; omega) (by unfold maxLen; omega) (Nat.le_refl _) ?_)
  intro w1 hown0 hg0
  have hb1 : Below w.heap.size w w1 := (Below.refl _ _).grown hg0 (Nat.le_refl _) (by simp)
  obtain ⟨cur, hcur, hlen⟩ : ∃ cur : List Value, w1.heap[w.heap.size]? = some (.cells cur.toArray 3 (0, 0)) ∧ cur.length = n := by
    rcases hown0.2 with ⟨e1, _⟩ | ⟨g, cap, cur, e1, _, hg, _, _, hcs, _⟩
    · cases e1
    · simp only [Value.slice.injEq, Option.some.injEq, Addr.mk.injEq, and_true, true_and] at e1
      obtain ⟨rfl, rfl⟩ := e1
      exact ⟨cur.toList, by simpa using hg, by simpa using hcs⟩
  have HCUR := Lib.hid hcur
  have HLEN := Lib.hid hlen
  have HN := Lib.hid hn
  have HB := Lib.hid hb1
  clear hown0 hg0 hcur hlen hn hb1
  go_wp2_with (with_reducible refine wpList_copy_splice rfl (.tmp 7) (.tmp 8) 70 70 rfl 3 Tryz.underlying70 (by rw [hi]; simp [hz1]) (some ⟨w.heap.size, 0, none⟩) a n n n c rfl rfl w.heap.size 0 cur 3 HCUR.out us (by rw [HN.out]; exact (Nat.min_self n).symm) ?_ (by rw [HN.out, HLEN.out]; omega) HU.out w.heap.size w HB.out (Nat.le_refl _) ?_)
  · intro hp
    obtain ⟨b, off, rfl, hb, hcell⟩ := HC.out (by rw [HN.out] at hp; exact hp)
    first | refine ⟨rfl, ⟨b, off, none⟩, rfl, fun j v hj => ?_⟩ | refine ⟨⟨b, off, none⟩, rfl, fun j v hj => ?_⟩
    have ha : (⟨b, off, none⟩ : Addr).add j = ⟨b, off + j, none⟩ := by unfold Addr.add; split <;> simp_all
    rw [ha]
    exact (HB.out.cell (p := ⟨b, off + j, none⟩) hb).trans (hcell j v hj)
  intro w2 hg2 hb2
  go_wp2_with fail
  go_ret
  refine ⟨rfl, ⟨by rw [HN.out]; omega, .inr ⟨w.heap.size, n, (splice cur 0 us).toArray, rfl, Nat.le_refl _, hg2.out, Nat.le_refl _, by unfold maxLen; omega, ?_, ?_⟩⟩, hb2⟩
  · rw [List.size_toArray, length_splice _ _ _ (by rw [HN.out, HLEN.out]; omega), HLEN.out, Nat.mul_one]
  · have : (splice cur 0 us) = us := by
      unfold splice
      rw [List.take_zero, List.drop_eq_nil_of_le (by rw [HN.out, HLEN.out]; omega)]
      simp
    simp only [this, Nat.mul_one]
    exact List.take_of_length_le (by rw [HN.out]; omega)


theorem copy_ints (v : Value) (l : List Int) (S : Nat → Prop) (w : World) (hr : rowC.rd w S [v] l) (hl : l.length ≤ 1048577) :
    Calls Tryz.prog 62 #[v] w fun e w' => ∃ g c, e = .returned (.slice (some ⟨g, 0, none⟩) l.length c) ∧ rowC.ow w' w.heap.size [.slice (some ⟨g, 0, none⟩) l.length c] l [g] ∧ Below w.heap.size w w' := by
  obtain ⟨⟨a, cap, rfl, hlm, hc⟩, hin⟩ := row_ri hr
  refine (copy_cells_int a l.length cap (l.map iv) w (by simp) hl ?_ ?_).mono ?_
  · intro h0
    rcases hc with h | ⟨b, off, rfl, hb, hcell⟩
    · rw [h] at h0; simp at h0
    · refine ⟨b, off, rfl, hb, fun j v hj => ?_⟩
      have hj' : j < l.length := by
        have := (List.getElem?_eq_some_iff.1 hj).1
        simpa using this
      rw [hcell j hj']
      rw [List.getElem?_map, List.getElem?_eq_getElem hj'] at hj
      exact hj
  · intro v hv
    obtain ⟨x, _, rfl⟩ := List.mem_map.1 hv
    rfl
  · rintro e w' ⟨rfl, hown, hb⟩
    exact ⟨_, _, rfl, Cd.ow_of_own hown hin, hb⟩
end Go.Proofs.YteihnbnlfocgmaaGreatDoor.TabImp

namespace Go.Proofs.YteihnbnlfocgmaaGreatDoor.TabImp
open Go Go.RowKit Byt Ints IntsLaw Cd Rows2 Tab TabSpec

set_option maxRecDepth 100000 in
set_option maxHeartbeats 1600000 in
theorem map_copy (v : Value) (l : List (List Int)) (S : Nat → Prop) (w : World) (hr : rowsC.rd w S [v] l) (hl : rowsWt l ≤ 1048577) :
    Calls Tryz.prog 61 #[v, .func (.func 62) #[] #[]] w fun e w' => ∃ g fp, e = .returned (.slice (some ⟨g, 0, none⟩) l.length l.length) ∧ rowsC.ow w' w.heap.size [.slice (some ⟨g, 0, none⟩) l.length l.length] l fp ∧ fp.Nodup ∧ Below w.heap.size w w' := by
  obtain ⟨i0, hi, hz0, hz1, hz2⟩ := info_parts info_ints
  have HR := Lib.hid (fun w' (hb : Below w.heap.size w w') => Cd.later hr hb)
  have HW := Lib.hid hl
  obtain ⟨a, cap, rfl, hlm⟩ := rows_form hr
  have hll : l.length ≤ 1048577 := by unfold rowsWt at hl; omega
  clear hr hl
  go_enter Tryz.func61, Tryz.ntmps61
  go_wp2_with (at_make; refine wpList_make_own _ rfl _ _ 27 rfl w.heap.size 70 i0 (.slice none 0 0) 1 Tryz.underlying27 hi hz0 hz1 _ _ _ l.length rfl rfl rfl (by rw [hz2]; omega) (by unfold maxLen; omega) (Nat.le_refl _) ?_)
  intro w1 hown0 hg0
  have how1 : rowsC.ow w1 w.heap.size [.slice (some ⟨w.heap.size, 0, none⟩) 0 l.length] [] [w.heap.size] := ⟨_, [], [], rfl, hown0, trivial, rfl⟩
  have hb1 : Below w.heap.size w w1 := (Below.refl _ _).grown hg0 (Nat.le_refl _) (by simp)
  clear hown0 hg0
  go_wp2_with fail
  go_loopw [5, 13] (fun o i wr => ∃ (k : Nat) (fp : List Nat), k ≤ l.length ∧ i = .int .i64 k ∧ o = .slice (some ⟨w.heap.size, 0, none⟩) k l.length ∧ rowsC.ow wr w.heap.size [.slice (some ⟨w.heap.size, 0, none⟩) k l.length] (l.take k) fp ∧ fp.Nodup ∧ Below w.heap.size w wr) (fun _ i _ => l.length - (intOf i).toNat)
  case atStart => exact ⟨0, _, Nat.zero_le _, rfl, rfl, how1, by simp, hb1⟩
  case round =>
    obtain ⟨k, fp, hk, rfl, rfl, how, hnd, hb⟩ := hrel
    by_cases hlt : k < l.length
    · obtain ⟨b, off, cap', u, e1, hbB, hc, hu⟩ := rows_at (HR.out wr hb) hlt
      injection e1 with e1 e2 e3
      subst e1 e3
      have HC := Lib.hid (copy_ints u l[k] S wr hu (by have := row_len hlt; have := HW.out; unfold rowsWt at this; omega))
      have HOW := Lib.hid how
      have HND := Lib.hid hnd
      have HB := Lib.hid hb
      have HT := Lib.hid (show l.take (k + 1) = l.take k ++ [l[k]] from List.take_succ_eq_append_getElem hlt)
      clear hu how hnd hb how1 hb1
      generalize l[k] = r at *
      go_wp2_with fail
      refine HC.out.mono ?_
      rintro e w2 ⟨g2, c2, rfl, ho2, hb2⟩
      have hsz2 := (rowC.ow_lt ho2 g2 (List.mem_singleton.2 rfl))
      have hbA : Below w2.heap.size w2 (w2.alloc (.cells #[.slice (some ⟨g2, 0, none⟩) r.length c2] 70 (0, 0))) := below_alloc _ _
      have HOW2 := Lib.hid (Cd.ow_later (Cd.ow_later HOW.out hb2) hbA)
      have HO2 := Lib.hid (rowC.ow_base (Cd.ow_later ho2 hbA) HB.out.size)
      have HB2 := Lib.hid (below_then (below_then HB.out hb2) hbA)
      have HDIS := Lib.hid (show ∀ b ∈ [g2], b ∉ fp from fun b hb q => by
        rw [List.mem_singleton.1 hb] at q
        have := (rowsC.ow_lt HOW.out _ q).2
        omega)
      have HBS := Lib.hid (show w.heap.size ≤ (w2.alloc (.cells #[.slice (some ⟨g2, 0, none⟩) r.length c2] 70 (0, 0))).heap.size by rw [size_alloc]; have := HB.out.size; have := hb2.size; omega)
      have HL := Lib.hid (show k = (l.take k).length by rw [List.length_take]; omega)
      have HCELL := Lib.hid (show (w2.alloc (.cells #[.slice (some ⟨g2, 0, none⟩) r.length c2] 70 (0, 0))).cell? ⟨w2.heap.size, 0, none⟩ = some (.slice (some ⟨g2, 0, none⟩) r.length c2) from World.cell?_alloc_mark _ _ _ _ 0)
      clear hsz2 hbA ho2 hb2
      go_wp2_with (at_builtin; refine Cd.wpList_appendR (c := rowC) rfl rfl (.tmp 17) (.tmp 21) 27 rfl w.heap.size 70 (.slice none 0 0) 24 Tryz.underlying27 info_ints rfl (by decide) w.heap.size l.length k (l.take k) fp rfl HL.out HOW2.out HND.out (by omega) w2.heap.size (.slice (some ⟨g2, 0, none⟩) r.length c2) rfl HCELL.out r [g2] HO2.out (by simp) HDIS.out (by omega) HBS.out ?_)
      intro w3 fp3 ho3 hn3 hsub3 ht3
      have HB3 := Lib.hid (ht3.below HB2.out (fun b hb => (rowsC.ow_lt HOW.out b hb).1))
      rw [← HT.out] at ho3
      clear ht3 hsub3
      go_wp2_with fail
      go_roundw
      case rel => exact ⟨k + 1, fp3, by omega, by go_num, rfl, ho3, hn3, HB3.out⟩
      case measure => simp [intOf]; omega
    · have ek : k = l.length := by omega
      subst ek
      rw [List.take_length] at how
      go_wp2_with fail
      go_ret
      exact ⟨_, fp, rfl, how, hnd, hb⟩
end Go.Proofs.YteihnbnlfocgmaaGreatDoor.TabImp

namespace Go.Proofs.YteihnbnlfocgmaaGreatDoor.TabImp
open Go Go.RowKit Byt Ints IntsLaw Cd Rows2 Tab TabSpec Exact

theorem str_clone (s : ByteArray) (w : World) (hs : s.size ≤ 1048577) :
    Calls Tryz.prog 60 #[.string s] w fun e w' => e = .returned (.string s) ∧ Below w.heap.size w w' := by
  have HC := Lib.hid (Tryz.stringslite_Clone s w (by omega))
  clear hs
  go_enter Tryz.func60, Tryz.ntmps60
  go_wp2_with (go_at_call 84; refine HC.out.mono ?_; rintro e w1 ⟨rfl, hb⟩)
  go_ret
  exact ⟨rfl, hb⟩

set_option maxRecDepth 100000 in
set_option maxHeartbeats 3200000 in
theorem copy_table (nm : ByteArray) (ar : Int) (u : Value) (rows : List (List Int)) (S : Nat → Prop) (w : World) (hr : rowsC.rd w S [u] rows) (hrw : rowsWt rows ≤ 1048577) (hnm : nm.size ≤ 1048577) :
    Calls Tryz.prog 33 #[.agg #[.string nm, .int .i64 ar, u]] w fun e w' => ∃ g fp, e = .returned (.agg #[.string nm, .int .i64 ar, .slice (some ⟨g, 0, none⟩) rows.length rows.length]) ∧ rowsC.ow w' w.heap.size [.slice (some ⟨g, 0, none⟩) rows.length rows.length] rows fp ∧ fp.Nodup ∧ Below w.heap.size w w' := by
  have HR := Lib.hid (fun w' (hb : Below w.heap.size w w') => Cd.later hr hb)
  have HWT := Lib.hid hrw
  have HNM := Lib.hid hnm
  obtain ⟨a, cap, rfl, hlm⟩ := rows_form hr
  clear hr hrw hnm
  go_enter Tryz.func33, Tryz.ntmps33
  go_wp2_with fail
  generalize hW : (w.alloc _).alloc _ = W
  obtain ⟨r0, r1, hz, hb0⟩ := start2g w _ _ hW
  clear hW
  have HT := Lib.hid (Loc3.of r0)
  have HX := Lib.hid (Loc3.of r1)
  have HB := Lib.hid hb0
  have HZ := Lib.hid hz
  have HCL := Lib.hid (str_clone nm W.drew HNM.out)
  have HMAP := Lib.hid (fun w' (hb : Below W.heap.size W w') => map_copy (.slice a rows.length cap) rows S w' (Cd.later (HR.out W HB.out) hb) HWT.out)
  clear r0 r1 hb0 hz
  have y0 := HT.out.c0
  have y1 := HT.out.c1
  have y2 := HT.out.c2
  go_region_law (first | (go_simp; go_at_call 60; refine HCL.out.mono ?_; rintro e wq ⟨rfl, hbq⟩; (have hq := undrew hbq); (have HQ := Lib.hid hq); (have hqz := hq.size); (have k0 := (HT.out.later hq).c0); (have k1 := (HT.out.later hq).c1); (have k2 := (HT.out.later hq).c2); clear hbq hq) | (go_simp; go_at_call 61; refine (HMAP.out wq HQ.out).mono ?_; rintro e wp ⟨g, fp, rfl, how, hnd, hbp⟩; (have HP := Lib.hid (below_then HQ.out hbp)); (have hpz := hbp.size); (have HOW := Lib.hid how); (have HND := Lib.hid hnd); (have j0 := (HT.out.later HP.out).c0); (have j1 := (HT.out.later HP.out).c1); (have j2 := (HT.out.later HP.out).c2); (have i0 := (HX.out.later HP.out).c0); (have i1 := (HX.out.later HP.out).c1); (have i2 := (HX.out.later HP.out).c2); (have f0 := (HX.out.later HP.out).f0); (have f1 := (HX.out.later HP.out).f1); (have f2 := (HX.out.later HP.out).f2); clear hbp how hnd))
  all_goals
    obtain ⟨k0, k1, k2⟩ := set3 (w := wp) (k := w.heap.size + 1) (x := .string nm) (y := .int .i64 ar) (z := .slice (some ⟨g, 0, none⟩) rows.length rows.length) i0 i1 i2
    clear y0 y1 y2 j0 j1 j2 i0 i1 i2 f0 f1 f2
    go_wp2_with fail
    refine bodyPost_ret (v := .agg #[.string nm, .int .i64 ar, .slice (some ⟨g, 0, none⟩) rows.length rows.length]) (by simp [results, Tryz.results33, go_sem, k0, k1, k2]) rfl ⟨g, fp, rfl, ?_, HND.out, ?_⟩
    · have hn : w.heap.size + 1 ∉ fp := fun q => by
        have h1 := (rowsC.ow_lt HOW.out _ q).1
        have h2 := HZ.out
        omega
      exact ow_setCell (ow_setCell (ow_setCell (rowsC.ow_base HOW.out (by have := HZ.out; omega)) hn _) hn _) hn _
    · have hb := below_then HB.out HP.out
      exact ((hb.setCell (by show _ ≤ w.heap.size + 1; omega) _).setCell (by show _ ≤ w.heap.size + 1; omega) _).setCell (by show _ ≤ w.heap.size + 1; omega) _
end Go.Proofs.YteihnbnlfocgmaaGreatDoor.TabImp

namespace Go.Proofs.YteihnbnlfocgmaaGreatDoor.DbImp
open Go Go.RowKit Byt Ints IntsLaw Cd Rows2 Tab SlMath TabOpen TabElem SlTable Db TabSpec DbMath TabImp DbMap DbExact
open Go.Maps (Keyed string_keyed IsMap Tidy)
open DbSpec (LaterD drewD row1 rows_cell name_cell lkT lk_none lk_some LookAns zeroT)

theorem law : Keyed Tryz.prog 9 := string_keyed Tryz.underlying9
theorem zeroE (w : World) : (zeroValue 29).run Tryz.prog w = .ok (.agg #[.string ⟨#[]⟩, .int .i64 0, .slice none 0 0]) w := by kernel_rfl
theorem key_of {s : ByteArray} (h : s.size ≤ maxLen) : keyOf Tryz.prog 9 (.string s) = some (keyL s) := WideMaps.keyOf_string_mk Tryz.underlying9 h
abbrev Owns (w : World) (B n : Nat) (D : DataW Value) : Prop := w.ownsMap Tryz.prog 9 tabR B n D
theorem grown_of {w w' : World} (h : Below w.heap.size w w') (row : Option Nat) : w.grownBy w' row := ⟨h.os, h.tape, h.output, h.size, fun i hi _ => h.block i hi⟩
theorem touch_grown {w w' : World} {b : Nat} (h : w.grownBy w' (some b)) : Cd.Touch [b] w w' := ⟨h.os, h.tape, h.output, h.size, fun k hk hn => h.block k hk (by simpa using hn)⟩
theorem Owns.later {w w' : World} {B n : Nat} {D : DataW Value} (h : Owns w B n D) (hb : Below w.heap.size w w') : Owns w' B n D := World.ownsMap.kept h (grown_of hb none) (by simp)
/-- The tables by their names; none of an invalid database. -/
def NamesAns (l : List T3) (ts : List TabV) (w : World) (e : Ending) (w' : World) : Prop :=
  ∃ B D n, e = .returned (.map (some B)) ∧ w.heap.size ≤ B ∧ Owns w' B n D ∧ n ≤ 6 ∧ MapIs D (entF (if dbOk l then ts else [])) (if dbOk l then l.length else 0) ∧ Below w.heap.size w w'
theorem names_ne {w : World} {S : Nat → Prop} {a : Option Addr} {l : List T3} {ts : List TabV} (h : HeldT w S a l ts) (ha : AscP l) {k : Nat} (hk : k < l.length) (hk' : k < ts.length) : ∀ u ∈ ts.take k, u.nm ≠ ts[k].nm := by
  intro u hu e
  obtain ⟨i, hi, rfl⟩ := List.getElem_of_mem hu
  rw [List.length_take] at hi
  rw [List.getElem_take, (h.2 i (by omega) (by omega)).1, (h.2 k hk hk').1] at e
  exact ltB_ne (List.pairwise_iff_getElem.1 ha i k (by omega) hk (by omega)) e

set_option maxRecDepth 100000 in
set_option maxHeartbeats 1600000 in
theorem impl_byname (a1 : Option Addr) (cap1 : Nat) (l : List T3) (ts : List TabV) (S : Nat → Prop) (w : World) (h1 : tabsC.rd w S [.slice a1 l.length cap1] l) (ht : HeldT w S a1 l ts) :
    Calls Tryz.prog 26 #[.agg #[.slice a1 l.length cap1]] w fun e w' => NamesAns l ts w e w' := by
  have HT := Lib.hid (fun w' (hb : Below w.heap.size w w') => HeldT.later ht hb)
  have HV := Lib.hid (fun w' (hb : Below w.heap.size w w') => impl_dbok _ l S w' (Cd.later h1 hb))
  have HL := Lib.hid ht.1
  have hmm := @run_makeMap Tryz.prog
  clear h1 ht
  go_enter Tryz.func26, Tryz.ntmps26
  go_wp2_with fail
  have hM0 := World.ownsMap_made (w.alloc (.cells #[.slice a1 l.length cap1] 26 (0, 0))) Tryz.prog 9 tabR
  rw [size_alloc] at hM0
  generalize hW : (w.alloc _).alloc _ = W at *
  have HM0 := Lib.hid (show Owns W (w.heap.size + 1) 0 (.map []) from hM0)
  clear hM0
  obtain ⟨r0, r1, hz, hb0⟩ := start2g w _ _ hW
  have HC0 := Lib.hid (Loc1.of r0)
  have HB0 := Lib.hid hb0
  have HZ := Lib.hid hz
  clear hW r0 r1 hz
  refine (HV.out _ hb0).mono ?_
  rintro e w1 ⟨rfl, hb1⟩
  have HM1 := Lib.hid (Owns.later HM0.out hb1)
  have HB1 := Lib.hid (below_then HB0.out hb1)
  have c0 := (HC0.out.later hb1).c0
  have HS1 := Lib.hid (show w.heap.size + 2 ≤ w1.heap.size by have := hb1.size; have := HZ.out; omega)
  clear hb0 hb1 hmm
  cases hv : dbOk l
  · have HVV := Lib.hid hv
    go_wp2_with fail
    go_ret
    exact ⟨_, _, _, rfl, Nat.le_succ _, HM1.out, by omega, by rw [HVV.out]; exact MapIs.start, HB1.out⟩
  have HVV := Lib.hid hv
  have H6 := Lib.hid (dbOk_iff.1 hv)
  have hl6 : l.length ≤ 6 := H6.out.1
  clear hv
  go_wp2_with fail
  go_loopw [14] (fun i wr => ∃ (k : Nat) (D : DataW Value), k ≤ l.length ∧ i = .int .i64 k ∧ Owns wr (w.heap.size + 1) k D ∧ MapIs D (entF (ts.take k)) k ∧ Cd.Touch [w.heap.size + 1] w1 wr) (fun i _ => l.length - (intOf i).toNat)
  case atStart => exact ⟨0, .map [], Nat.zero_le _, rfl, HM1.out, MapIs.start, Cd.Touch.refl _ _⟩
  case round =>
    obtain ⟨k, D, hk, rfl, hown, hm, hto⟩ := hrel
    have HBW := Lib.hid (Cd.Touch.below HB1.out hto (fun b hb => by rw [List.mem_singleton.1 hb]; exact Nat.le_succ _))
    have HTO := Lib.hid hto
    have HM := Lib.hid hm
    have HSR := Lib.hid (Nat.le_trans HS1.out hto.size)
    clear c0 hto hm
    by_cases hlt : k < l.length
    · have hlt' : k < ts.length := by rw [HL.out]; exact hlt
      obtain ⟨hnm, ⟨b, off, rfl, hbB, hat⟩, hu⟩ := (HT.out wr HBW.out).2 k hlt hlt'
      have HNE := Lib.hid (names_ne (HT.out wr HBW.out) H6.out.2.2 hlt hlt')
      have HTK := Lib.hid (show ts.take (k + 1) = ts.take k ++ [ts[k]] from List.take_succ_eq_append_getElem hlt')
      have hns : (ts[k]).nm.size ≤ maxLen := by rw [hnm]; obtain ⟨u, _, h, _⟩ := tab_cells hu; exact h
      have p0 := hat 0 (by simp [TabV.us])
      have p1 := hat 1 (by simp [TabV.us])
      have p2 := hat 2 (by simp [TabV.us])
      simp only [TabV.us, List.getElem_cons_zero, List.getElem_cons_succ, Nat.add_zero] at p0 p1 p2
      have i1 : (0 : Int) ≤ (k : Int) := by omega
      have i2 : (k : Int) < (l.length : Int) := by omega
      have i3 := HSR.out
      have hn6 : k < maxLen := by have := H6.out.1; unfold maxLen; omega
      clear hu hat hnm
      generalize ts[k] = t at *
      have hownA := World.ownsMap.alloc hown (.cells #[.string t.nm, .int .i64 t.ar, .slice t.a t.n t.c] 29 (0, 0))
      go_wp2_with (first
        | (at_mapUpdate; refine wpList_mapUpdate_own _ rfl _ _ _ 51 rfl 9 29 law Tryz.underlying51 tabR (w.heap.size + 1) k D rfl hownA hn6 _ _ (keyL t.nm) rfl rfl (key_of hns) _ [] (tabR_mk t) ?_; intro w2 hown2 hg2; go_frame)
        | go_in)
      have HT2 := Lib.hid (HTO.out.trans ((Cd.Touch.of_below (below_alloc wr _)).trans (touch_grown hg2)))
      have HO2 := Lib.hid hown2
      have HM2 := Lib.hid (show MapIs (D.put (keyL t.nm) (.held t.val)) (entF (ts.take (k + 1))) (k + 1) from by
        have h := HM.out.put t.nm t
        rw [HTK.out, entF_more HNE.out]
        exact h.eq rfl (by rw [entF_none HNE.out]; rfl))
      clear hg2 hown2 hown hownA
      go_wp2_with fail
      go_roundw
      case rel => exact ⟨k + 1, _, by omega, by go_num, HO2.out, HM2.out, HT2.out⟩
      case measure => simp [intOf]; omega
    · have ek : k = l.length := by omega
      subst ek
      have HO := Lib.hid hown
      clear hown
      go_wp2_with fail
      go_ret
      refine ⟨_, _, _, rfl, Nat.le_succ _, HO.out, H6.out.1, ?_, HBW.out⟩
      rw [HVV.out]
      have h := HM.out
      rw [← HL.out, List.take_length] at h
      exact h.eq rfl HL.out

theorem copy_rows_i (us : List Value) (T : T3) (S : Nat → Prop) (w : World) (hu : tabC.rd w S us T) (hw : wtT T ≤ 1048577) :
    Calls Tryz.prog 33 #[.agg us.toArray] w fun e w' => ∃ a c fp, e = .returned (.agg #[.string T.1, .int .i64 T.2.1, .slice a T.2.2.length c]) ∧ rowsC.ow w' w.heap.size [.slice a T.2.2.length c] T.2.2 fp ∧ fp.Nodup ∧ Below w.heap.size w w' := by
  obtain ⟨u, rfl, h1, h2, h3⟩ := tab_cells hu
  refine (copy_table T.1 T.2.1 u T.2.2 S w h3 (by unfold wtT tabWt at hw; omega) (by unfold wtT tabWt at hw; omega)).mono ?_
  rintro e w' ⟨g, fp, rfl, how, hnd, hb⟩
  exact ⟨_, _, fp, rfl, how, hnd, hb⟩
theorem find_wt {l : List T3} {s : ByteArray} {T : T3} (h : findN l s = some T) : wtT T ≤ wtS l := by
  obtain ⟨k, hk, rfl⟩ := List.getElem_of_mem (findN_some h).1
  have := sumN_mem wtT hk
  unfold wtS
  omega
set_option maxRecDepth 100000 in
set_option maxHeartbeats 1600000 in
theorem impl_look (u : Value) (l : List T3) (nm : ByteArray) (S : Nat → Prop) (w : World) (h1 : tabsC.rd w S [u] l) (hw : wtS l ≤ 1048577) (hs : nm.size ≤ 1048576) :
    Calls Tryz.prog 8 #[.agg #[u], .string nm] w fun e w' => LookAns l nm w e w' := by
  obtain ⟨a1, cap1, rfl, hl1⟩ := Cd.sl_form h1
  obtain ⟨ts, ht⟩ := held_of h1
  have HT := Lib.hid (fun w' (hb : Below w.heap.size w w') => HeldT.later ht hb)
  have HNA := Lib.hid (fun w' (hb : Below w.heap.size w w') => impl_byname a1 cap1 l ts S w' (Cd.later h1 hb) (HeldT.later ht hb))
  have HK := Lib.hid (key_of (s := nm) (by unfold maxLen; omega))
  have HWT := Lib.hid hw
  clear h1 ht hw hs
  go_enter Tryz.func8, Tryz.ntmps8
  go_wp2_with fail
  generalize hW : (w.alloc _).alloc _ = W
  obtain ⟨r0, r1, hz, hb0⟩ := start2g w _ _ hW
  have HC1 := Lib.hid r1
  have HB0 := Lib.hid hb0
  have HZ := Lib.hid hz
  clear hW r0 r1 hz hb0
  refine (HNA.out _ HB0.out).mono ?_
  rintro e w1 ⟨B, D, n, rfl, hBl, hown, _, hm, hb1⟩
  have HC2 := Lib.hid ((hb1.block (w.heap.size + 1) (by have := HZ.out; omega)).trans HC1.out)
  have HB1 := Lib.hid (below_then HB0.out hb1)
  have HS1 := Lib.hid (show w.heap.size + 1 < w1.heap.size by have := hb1.size; have := HZ.out; omega)
  have HM := Lib.hid hm
  clear hb1 hm hBl
  have hcase : (lookL l nm = none ∧ entF (if dbOk l then ts else []) nm = none) ∨ ∃ T t, lookL l nm = some T ∧ entF (if dbOk l then ts else []) nm = some t ∧ findN l nm = some T ∧ ∀ w', Below w.heap.size w w' → tabC.rd w' S t.us T := by
    unfold lookL
    cases hv : dbOk l
    · exact .inl ⟨rfl, rfl⟩
    · rcases entF_find (HT.out w (Below.refl _ _)) nm with ⟨q1, q2⟩ | ⟨T, t, q1, q2, q3⟩
      · exact .inl ⟨q1, q2⟩
      · exact .inr ⟨T, t, q1, q2, q1, fun w' hb => Cd.later q3 hb⟩
  rcases hcase with ⟨hl, he⟩ | ⟨T, t, hl, he, hf, hr⟩
  · have hh : Maps.has D (keyL nm) = false := by rw [HM.out.has, he]; rfl
    have HLK := Lib.hid hl
    clear hl he
    obtain ⟨n0, n1, n2, g0, g1, g2⟩ := row3 HC2.out
    have hs1 := HS1.out
    go_wp2_with (first
      | (at_lookup; refine wpList_lookup_own_ok _ rfl _ _ 51 rfl 9 29 law Tryz.underlying51 tabR (zeroE _) (.held (.agg #[.string ⟨#[]⟩, .int .i64 0, .slice none 0 0])) [] rfl B n D rfl hown _ (keyL nm) rfl HK.out ?_; intro v ps hv; obtain ⟨t, rfl, _⟩ := tabR_inv hv; unfold TabV.val; rw [hh]; clear hv))
    have G := set3 (w := w1) (k := w.heap.size + 1) (x := .string ⟨#[]⟩) (y := .int .i64 0) (z := .slice none 0 0) n0 n1 n2
    have HB4 : Below w.heap.size w (((w1.setCell ⟨w.heap.size + 1, 0, none⟩ (.string ⟨#[]⟩)).setCell ⟨w.heap.size + 1, 1, none⟩ (.int .i64 0)).setCell ⟨w.heap.size + 1, 2, none⟩ (.slice none 0 0)) := ((HB1.out.setCell (by show _ ≤ w.heap.size + 1; omega) _).setCell (by show _ ≤ w.heap.size + 1; omega) _).setCell (by show _ ≤ w.heap.size + 1; omega) _
    have hx : w.heap.size + 1 < (((w1.setCell ⟨w.heap.size + 1, 0, none⟩ (.string ⟨#[]⟩)).setCell ⟨w.heap.size + 1, 1, none⟩ (.int .i64 0)).setCell ⟨w.heap.size + 1, 2, none⟩ (.slice none 0 0)).heap.size := by simpa using hs1
    generalize (((w1.setCell ⟨w.heap.size + 1, 0, none⟩ (.string ⟨#[]⟩)).setCell ⟨w.heap.size + 1, 1, none⟩ (.int .i64 0)).setCell ⟨w.heap.size + 1, 2, none⟩ (.slice none 0 0)) = w4 at *
    have hbA := below_alloc w4 (.cells #[.string t.nm, .int .i64 t.ar, .slice t.a t.n t.c] 29 (0, 0))
    have k0 := (hbA.cell (p := ⟨w.heap.size + 1, 0, none⟩) hx).trans G.1
    have k1 := (hbA.cell (p := ⟨w.heap.size + 1, 1, none⟩) hx).trans G.2.1
    have k2 := (hbA.cell (p := ⟨w.heap.size + 1, 2, none⟩) hx).trans G.2.2
    have HBA := Lib.hid (below_then HB4 hbA)
    clear hbA
    refine bodyPost_ret (v := .tuple #[.agg #[.string ⟨#[]⟩, .int .i64 0, .slice none 0 0], .bool false]) (by simp [results, Tryz.results8, go_sem, k0, k1, k2]) rfl (LookAns.none HLK.out HBA.out)
  · have hh : Maps.has D (keyL nm) = true := by rw [HM.out.has, he]; rfl
    have hat := HM.out.at_ nm t (.held (.agg #[.string ⟨#[]⟩, .int .i64 0, .slice none 0 0])) he
    have HLK := Lib.hid hl
    have HCP := Lib.hid (fun w' (hb : Below w.heap.size w w') => copy_rows_i t.us T S w' (hr w' hb) (by have := find_wt hf; have := HWT.out; omega))
    clear hl he hf hr
    go_wp2_with (first
      | (at_lookup; refine wpList_lookup_own_ok _ rfl _ _ 51 rfl 9 29 law Tryz.underlying51 tabR (zeroE _) (.held (.agg #[.string ⟨#[]⟩, .int .i64 0, .slice none 0 0])) [] rfl B n D rfl hown _ (keyL nm) rfl HK.out ?_; intro v ps hv; rw [hat] at hv; obtain ⟨t', rfl, ht'⟩ := tabR_inv hv; (have ht' : t.val = t'.val := by injection ht' with q _; injection q); rw [← ht', hh]; unfold TabV.val; clear hv ht'))
    have hbA := below_alloc w1 (.cells #[.string t.nm, .int .i64 t.ar, .slice t.a t.n t.c] 29 (0, 0))
    have HB2 := Lib.hid (below_then HB1.out hbA)
    have HC3 := Lib.hid (hbA.block (w.heap.size + 1) HS1.out |>.trans HC2.out)
    have HS2 := Lib.hid (Nat.lt_of_lt_of_le HS1.out hbA.size)
    refine (HCP.out _ HB2.out).mono ?_
    rintro e w3 ⟨a3, c3, fp, rfl, ho, hn, hb3⟩
    have HB4 := Lib.hid (below_then HB2.out hb3)
    obtain ⟨m0, m1, m2, f0, f1, f2⟩ := row3 ((hb3.block (w.heap.size + 1) HS2.out).trans HC3.out)
    have HO := Lib.hid ho
    have HN := Lib.hid hn
    clear ho hn hb3 hbA
    go_wp2_with fail
    have G0 := set3 (w := w3) (k := w.heap.size + 1) (x := .string T.1) (y := .int .i64 T.2.1) (z := .slice a3 T.2.2.length c3) m0 m1 m2
    have hfar : w.heap.size + 1 ∉ fp := fun q => by have := (rowsC.ow_lt HO.out _ q).1; have := HS2.out; omega
    refine bodyPost_ret (v := .tuple #[.agg #[.string T.1, .int .i64 T.2.1, .slice a3 T.2.2.length c3], .bool true]) (by simp [results, Tryz.results8, go_sem, G0.1, G0.2.1, G0.2.2]) rfl (LookAns.some HLK.out ?_ HN.out ?_)
    · exact ow_setCell (ow_setCell (ow_setCell (rowsC.ow_base HO.out (by have := HS2.out; omega)) hfar _) hfar _) hfar _
    · exact ((HB4.out.setCell (by show _ ≤ w.heap.size + 1; omega) _).setCell (by show _ ≤ w.heap.size + 1; omega) _).setCell (by show _ ≤ w.heap.size + 1; omega) _
end Go.Proofs.YteihnbnlfocgmaaGreatDoor.DbImp

namespace Go.Proofs.YteihnbnlfocgmaaGreatDoor.Cd
open Go Go.RowKit Byt Ints
namespace Cd
variable {α β : Type}

/-- What owns a slice at block g, its cells laid bare. -/
theorem ow_bare {e : TypeId} {c : Cd α} (hn : c.n = 1) {w : World} {base g n cap : Nat} {l : List α} {fp : List Nat} (h : (sl e c).ow w base [.slice (some ⟨g, 0, none⟩) n cap] l fp) :
    ∃ (cur : Array Value) (xss : List (List Value)) (fps : List (List Nat)), w.heap[g]? = some (.cells cur e (0, 0)) ∧ cur.size = cap ∧ n = l.length ∧ n ≤ cap ∧ cap ≤ maxLen ∧ base ≤ g ∧ cur.toList.take n = xss.flatten ∧ Each c w base xss l fps ∧ fp = g :: fps.flatten := by
  obtain ⟨v', xss, fps, e1, hown, hE, rfl⟩ := h
  injection e1 with e1 _
  subst e1
  rcases hown.2 with ⟨e1, _⟩ | ⟨g', cap', cur, e1, hb, hg, hnc, hcm, hcs, ht⟩
  · cases e1
  · simp only [Value.slice.injEq, Option.some.injEq, Addr.mk.injEq, and_true] at e1
    obtain ⟨rfl, rfl, rfl⟩ := e1
    rw [hn, Nat.mul_one] at hcs ht
    exact ⟨cur, xss, fps, hg, hcs, rfl, hnc, hcm, hb, ht, hE, rfl⟩
theorem ow_bared {e : TypeId} {c : Cd α} (hn : c.n = 1) {w : World} {base g n cap : Nat} {l : List α} {cur : Array Value} {xss : List (List Value)} {fps : List (List Nat)}
    (hg : w.heap[g]? = some (.cells cur e (0, 0))) (hcs : cur.size = cap) (hnl : n = l.length) (hnc : n ≤ cap) (hcm : cap ≤ maxLen) (hb : base ≤ g) (ht : cur.toList.take n = xss.flatten) (hE : Each c w base xss l fps) :
    (sl e c).ow w base [.slice (some ⟨g, 0, none⟩) n cap] l (g :: fps.flatten) := by
  subst hnl
  refine ⟨_, xss, fps, rfl, ⟨hE.flatten_len, .inr ⟨g, cap, cur, rfl, hb, hg, hnc, hcm, by rw [hn, Nat.mul_one]; exact hcs, by rw [hn, Nat.mul_one]; exact ht⟩⟩, hE, rfl⟩
theorem Each.one {c : Cd α} {w : World} {base : Nat} : ∀ {xss : List (List Value)} {l : List α} {fps : List (List Nat)}, Each c w base xss l fps → ∀ u ∈ xss.flatten, u.oneCell' = true
  | [], [], [], _, u, hu => by simp at hu
  | x :: xs, _ :: az, _ :: fs, h, u, hu => by
    rw [List.flatten_cons] at hu
    rcases List.mem_append.1 hu with q | q
    · exact c.one (c.ow_rd h.1) u q
    · exact Each.one (xss := xs) (l := az) (fps := fs) h.2 u q
theorem Each.erase {c : Cd α} {w : World} {base : Nat} : ∀ {xss : List (List Value)} {l : List α} {fps : List (List Nat)}, Each c w base xss l fps → ∀ i, Each c w base (xss.eraseIdx i) (l.eraseIdx i) (fps.eraseIdx i)
  | [], [], [], _, i => by cases i <;> exact trivial
  | _ :: xs, _ :: az, _ :: fs, h, 0 => h.2
  | _ :: xs, _ :: az, _ :: fs, h, i + 1 => ⟨h.1, Each.erase (xss := xs) (l := az) (fps := fs) h.2 i⟩
theorem flatten_erase_one {c : Cd α} (hn : c.n = 1) {w : World} {base : Nat} : ∀ {xss : List (List Value)} {l : List α} {fps : List (List Nat)}, Each c w base xss l fps → ∀ i, (xss.eraseIdx i).flatten = xss.flatten.eraseIdx i
  | [], [], [], _, i => by simp
  | x :: xs, a :: az, f :: fs, h, 0 => by
    have hl := (c.len (c.ow_rd h.1)).trans hn
    match x, hl with
    | [y], _ => rfl
  | x :: xs, a :: az, f :: fs, h, i + 1 => by
    have hl := (c.len (c.ow_rd h.1)).trans hn
    have := flatten_erase_one hn (xss := xs) (l := az) (fps := fs) h.2 i
    match x, hl with
    | [y], _ =>
      show [y] ++ (xs.eraseIdx i).flatten = ([y] ++ xs.flatten).eraseIdx (i + 1)
      rw [this]
      rfl
/-- One element in, at place i. -/
def ins {α : Type} (l : List α) (i : Nat) (x : α) : List α := l.take i ++ x :: l.drop i
theorem Each.ins {c : Cd α} {w : World} {base : Nat} {x : List Value} {a : α} {f : List Nat} : ∀ {xss : List (List Value)} {l : List α} {fps : List (List Nat)}, Each c w base xss l fps → c.ow w base x a f → ∀ i, Each c w base (ins xss i x) (ins l i a) (ins fps i f)
  | [], [], [], _, k, i => by cases i <;> exact ⟨k, trivial⟩
  | _ :: xs, _ :: az, _ :: fs, h, k, 0 => ⟨k, h⟩
  | _ :: xs, _ :: az, _ :: fs, h, k, i + 1 => ⟨h.1, Each.ins (xss := xs) (l := az) (fps := fs) h.2 k i⟩
theorem flatten_ins_one {c : Cd α} (hn : c.n = 1) {w : World} {base : Nat} {u : Value} : ∀ {xss : List (List Value)} {l : List α} {fps : List (List Nat)}, Each c w base xss l fps → ∀ i, (ins xss i [u]).flatten = ins xss.flatten i u
  | [], [], [], _, i => by cases i <;> rfl
  | x :: xs, a :: az, f :: fs, h, 0 => rfl
  | x :: xs, a :: az, f :: fs, h, i + 1 => by
    have hl := (c.len (c.ow_rd h.1)).trans hn
    have := flatten_ins_one hn (u := u) (xss := xs) (l := az) (fps := fs) h.2 i
    match x, hl with
    | [y], _ =>
      show [y] ++ (ins xs i [u]).flatten = [y] ++ (ins xs.flatten i u)
      rw [this]
theorem ins_length {α : Type} (l : List α) (i : Nat) (x : α) : (ins l i x).length = l.length + 1 := by
  unfold ins
  rw [List.length_append, List.length_cons, List.length_take, List.length_drop]
  omega
theorem mem_ins {fps : List (List Nat)} {f : List Nat} {i b : Nat} (h : b ∈ (ins fps i f).flatten) : b ∈ fps.flatten ∨ b ∈ f := by
  obtain ⟨g, hg, hb⟩ := List.mem_flatten.1 h
  rcases List.mem_append.1 hg with q | q
  · exact .inl (List.mem_flatten.2 ⟨g, List.mem_of_mem_take q, hb⟩)
  · rcases List.mem_cons.1 q with rfl | q
    · exact .inr hb
    · exact .inl (List.mem_flatten.2 ⟨g, List.mem_of_mem_drop q, hb⟩)
theorem nodup_ins : ∀ {fps : List (List Nat)} {f : List Nat}, fps.flatten.Nodup → f.Nodup → (∀ b ∈ f, b ∉ fps.flatten) → ∀ i, (ins fps i f).flatten.Nodup
  | [], f, _, hf, _, i => by cases i <;> simpa [ins] using hf
  | f0 :: fps, f, h, hf, hd, 0 => by
    show (f :: f0 :: fps).flatten.Nodup
    rw [List.flatten_cons, List.nodup_append]
    exact ⟨hf, h, fun a ha b hb q => hd a ha (q ▸ hb)⟩
  | f0 :: fps, f, h, hf, hd, i + 1 => by
    rw [List.flatten_cons, List.nodup_append] at h
    show (f0 :: ins fps i f).flatten.Nodup
    rw [List.flatten_cons, List.nodup_append]
    refine ⟨h.1, nodup_ins h.2.1 hf (fun b hb q => hd b hb (by rw [List.flatten_cons]; exact List.mem_append_right _ q)) i, fun a ha b hb q => ?_⟩
    subst q
    rcases mem_ins hb with q | q
    · exact h.2.2 a ha a q rfl
    · exact hd a q (by rw [List.flatten_cons]; exact List.mem_append_left _ ha)

/-! Rows of the library's contracts ('putRow'). -/
section
variable {γ : Type} [Inhabited γ]
theorem heap_putRow (enc : γ → Value) (w : World) (g : Nat) (d : Array γ) {c : Array Value} {e : TypeId} {fr : Nat × Nat} (h : w.heap[g]? = some (.cells c e fr)) : (Sort.putRow enc w g 0 d).heap[g]? = some (.cells (Sort.putCells enc 0 d c) e fr) := by
  simp [Sort.putRow, Sort.mapBlock, Array.getElem?_modify, h, Sort.onCells]
theorem heap_putRow_other (enc : γ → Value) (w : World) (g : Nat) (d : Array γ) {k : Nat} (h : k ≠ g) : (Sort.putRow enc w g 0 d).heap[k]? = w.heap[k]? := by
  simp [Sort.putRow, Sort.mapBlock, Array.getElem?_modify, Ne.symm h]
theorem putCells_size (enc : γ → Value) (d : Array γ) (c : Array Value) : (Sort.putCells enc 0 d c).size = c.size := by simp [Sort.putCells]
theorem putCells_take (enc : γ → Value) (d : Array γ) (c : Array Value) {m : Nat} (hm : m ≤ d.size) (hd : d.size ≤ c.size) : (Sort.putCells enc 0 d c).toList.take m = (d.toList.map enc).take m := by
  apply List.ext_getElem?
  intro k
  rw [List.getElem?_take, List.getElem?_take]
  by_cases hk : k < m
  · rw [if_pos hk, if_pos hk, Array.getElem?_toList, List.getElem?_map, Array.getElem?_toList]
    have h1 : k < c.size := by omega
    have h2 : k < d.size := by omega
    simp only [Sort.putCells, Array.getElem?_mapIdx]
    rw [Array.getElem?_eq_getElem h1, Array.getElem?_eq_getElem h2, Option.map_some, Option.map_some, if_pos ⟨Nat.zero_le _, by omega⟩, Nat.sub_zero, getElem!_pos d k h2]
  · rw [if_neg hk, if_neg hk]
theorem touch_putRow (enc : γ → Value) (w : World) (g : Nat) (d : Array γ) : Touch [g] w (Sort.putRow enc w g 0 d) :=
  ⟨rfl, rfl, rfl, by rw [Sort.size_putRow]; exact Nat.le_refl _, fun k _ hn => heap_putRow_other enc w g d fun q => hn (by rw [q]; exact List.mem_singleton.2 rfl)⟩
end
theorem touch_ahead (fp : List Nat) (w : World) (n : Nat) : Touch fp w (Sort.ahead w n) := ⟨rfl, rfl, rfl, Nat.le_refl _, fun _ _ _ => rfl⟩

/-- A value of one cell. -/
structure One where
  v : Value
  one : v.oneCell' = true
instance : Inhabited One := ⟨⟨.slice none 0 0, rfl⟩⟩
def ones (us : List Value) (h : ∀ u ∈ us, u.oneCell' = true) : List One := us.attach.map fun x => ⟨x.1, h x.1 x.2⟩
theorem ones_val (us : List Value) (h : ∀ u ∈ us, u.oneCell' = true) : (ones us h).map One.v = us := by
  unfold ones
  rw [List.map_map]
  exact List.attach_map_subtype_val us
theorem ones_length (us : List Value) (h : ∀ u ∈ us, u.oneCell' = true) : (ones us h).length = us.length := by simp [ones]
theorem holds_ones {w : World} {g n : Nat} {cur : Array Value} {e : TypeId} {us : List Value} (h : ∀ u ∈ us, u.oneCell' = true) (hg : w.heap[g]? = some (.cells cur e (0, 0))) (ht : cur.toList.take n = us) :
    Sort.Holds (α := One) One.v w g 0 (ones us h).toArray := by
  intro j hj
  have hj' : j < us.length := by rw [← ones_length us h]; simpa using hj
  have hv : (ones us h)[j]?.map One.v = us[j]? := by
    rw [← List.getElem?_map, ones_val]
  have hj2 : j < (ones us h).length := by rw [ones_length]; exact hj'
  refine ⟨?_, by simp [World.frozen?, hg]⟩
  have e1 : ((ones us h).toArray[j]!) = (ones us h)[j] := by
    rw [getElem!_pos _ j hj]
    simp
  rw [e1]
  rw [List.getElem?_eq_getElem hj2, List.getElem?_eq_getElem hj', Option.map_some] at hv
  injection hv with hv
  rw [hv]
  have hjn : j < n := by
    have := congrArg List.length ht
    rw [List.length_take] at this
    omega
  have hc : cur[j]? = some us[j] := by
    have : (cur.toList.take n)[j]? = us[j]? := by rw [ht]
    rw [List.getElem?_take, if_pos hjn, Array.getElem?_toList, List.getElem?_eq_getElem hj'] at this
    exact this
  simp [World.cell?, hg, hc]
end Cd
end Go.Proofs.YteihnbnlfocgmaaGreatDoor.Cd
