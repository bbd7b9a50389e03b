/- Answers, plain: the model's way through all values, the program's way through the rows, and that they come to the same rows. -/
import Derived.Test.YtdkhgeknjekkoaaGreatTabSpec
namespace Go.Proofs.YtdkhgeknjekkoaaGreat.AnsMath
open Go Go.RowKit TabSpec

abbrev Rel := List Int × List (List Int)

/-- A row of a table agrees with the values so far. -/
def fitRow (vs row avs tr : List Int) : Bool :=
  (List.range avs.length).all fun k => (List.range row.length).all fun j => decide (vs.getD j 0 ≠ avs.getD k 0) || decide (row.getD j 0 = tr.getD k 0)
def fitR (vs row : List Int) (R : Rel) : Bool := R.2.any fun tr => fitRow vs row R.1 tr
def fitAll (vs row : List Int) (l : List Rel) : Bool := l.all (fitR vs row)
def walkL (vs : List Int) (l : List Rel) : Nat → List Int → List (List Int)
  | 0, row => if fitAll vs row l then [row] else []
  | n + 1, row => if fitAll vs row l then (List.range 10).flatMap fun v : Nat => walkL vs l n (row ++ [(v : Int)]) else []

theorem fitRow_iff {vs row avs tr : List Int} : fitRow vs row avs tr = true ↔ ∀ k < avs.length, ∀ j < row.length, vs.getD j 0 = avs.getD k 0 → row.getD j 0 = tr.getD k 0 := by
  unfold fitRow
  simp only [List.all_eq_true, List.mem_range, Bool.or_eq_true, decide_eq_true_eq]
  constructor
  · intro h k hk j hj e
    rcases h k hk j hj with q | q
    · exact absurd e q
    · exact q
  · intro h k hk j hj
    by_cases e : vs.getD j 0 = avs.getD k 0
    · exact .inr (h k hk j hj e)
    · exact .inl e
theorem fitRow_pre {vs row s avs tr : List Int} (h : fitRow vs (row ++ s) avs tr = true) : fitRow vs row avs tr = true := by
  rw [fitRow_iff] at *
  intro k hk j hj e
  have := h k hk j (by rw [List.length_append]; omega) e
  simp only [List.getD, List.getElem?_append_left hj] at this ⊢
  exact this
theorem fitAll_pre {vs row s : List Int} {l : List Rel} (h : fitAll vs (row ++ s) l = true) : fitAll vs row l = true := by
  unfold fitAll fitR at *
  simp only [List.all_eq_true, List.any_eq_true] at *
  intro R hR
  obtain ⟨tr, h1, h2⟩ := h R hR
  exact ⟨tr, h1, fitRow_pre h2⟩
theorem mem_walkL {vs : List Int} {l : List Rel} : ∀ (n : Nat) (row r : List Int), r ∈ walkL vs l n row ↔ ∃ s : List Int, s.length = n ∧ (∀ x ∈ s, 0 ≤ x ∧ x ≤ 9) ∧ r = row ++ s ∧ fitAll vs r l = true
  | 0, row, r => by
    unfold walkL
    constructor
    · intro h
      split at h
      · have := List.mem_singleton.1 h
        subst this
        exact ⟨[], rfl, by simp, by simp, by assumption⟩
      · cases h
    · rintro ⟨s, hs, _, rfl, h⟩
      have : s = [] := List.eq_nil_of_length_eq_zero hs
      subst this
      simp only [List.append_nil] at h ⊢
      rw [if_pos h]
      exact List.mem_singleton.2 rfl
  | n + 1, row, r => by
    unfold walkL
    constructor
    · intro h
      split at h
      · obtain ⟨v, hv, h1⟩ := List.mem_flatMap.1 h
        obtain ⟨s, h2, h3, h4, h5⟩ := (mem_walkL n _ _).1 h1
        have hv := List.mem_range.1 hv
        refine ⟨(v : Int) :: s, by simp [h2], fun x hx => ?_, by rw [h4, List.append_assoc]; rfl, h5⟩
        rcases List.mem_cons.1 hx with rfl | q
        · omega
        · exact h3 x q
      · cases h
    · rintro ⟨s, hs, hin, rfl, h⟩
      rw [if_pos (fitAll_pre h)]
      match s, hs with
      | x :: s, hs =>
        have hx := hin x (List.mem_cons.2 (.inl rfl))
        refine List.mem_flatMap.2 ⟨x.toNat, List.mem_range.2 (by omega), (mem_walkL n _ _).2 ⟨s, by simpa using hs, fun y hy => hin y (List.mem_cons.2 (.inr hy)), ?_, h⟩⟩
        rw [List.append_assoc, show ((x.toNat : Nat) : Int) = x by omega]
        rfl
theorem cmpR_pre : ∀ (p a b : List Int), cmpR (p ++ a) (p ++ b) = cmpR a b
  | [], _, _ => rfl
  | x :: p, a, b => by
    have e : cmpR (x :: (p ++ a)) (x :: (p ++ b)) = cmpR (p ++ a) (p ++ b) := by
      show (if x < x then -1 else if x < x then 1 else cmpR (p ++ a) (p ++ b)) = _
      rw [if_neg (Int.lt_irrefl x), if_neg (Int.lt_irrefl x)]
    exact e.trans (cmpR_pre p a b)
theorem asc_walkL {vs : List Int} {l : List Rel} : ∀ (n : Nat) (row : List Int), (walkL vs l n row).Pairwise fun a b => cmpR a b < 0
  | 0, row => by
    unfold walkL
    split
    · exact List.pairwise_singleton ..
    · exact List.Pairwise.nil
  | n + 1, row => by
    unfold walkL
    split
    · refine List.pairwise_flatMap.2 ⟨fun v _ => asc_walkL n _, ?_⟩
      refine List.Pairwise.imp ?_ List.pairwise_lt_range
      intro a b hab x hx y hy
      obtain ⟨s, _, _, rfl, _⟩ := (mem_walkL n _ _).1 hx
      obtain ⟨t, _, _, rfl, _⟩ := (mem_walkL n _ _).1 hy
      rw [List.append_assoc, List.append_assoc, cmpR_pre]
      show cmpR ((a : Int) :: s) ((b : Int) :: t) < 0
      unfold cmpR
      rw [if_pos (by omega)]
      decide
    · exact List.Pairwise.nil
theorem len_flatMap_le {α β : Type} (f : α → List β) (c : Nat) : ∀ (l : List α), (∀ a ∈ l, (f a).length ≤ c) → (l.flatMap f).length ≤ l.length * c
  | [], _ => by simp
  | a :: l, h => by
    have h1 := len_flatMap_le f c l fun b hb => h b (List.mem_cons.2 (.inr hb))
    have h2 := h a (List.mem_cons.2 (.inl rfl))
    rw [List.flatMap_cons, List.length_append, List.length_cons, Nat.add_mul]
    omega
theorem len_walkL {vs : List Int} {l : List Rel} : ∀ (n : Nat) (row : List Int), (walkL vs l n row).length ≤ 10 ^ n
  | 0, row => by
    unfold walkL
    split <;> simp
  | n + 1, row => by
    unfold walkL
    split
    · have := len_flatMap_le (fun v : Nat => walkL vs l n (row ++ [(v : Int)])) (10 ^ n) (List.range 10) fun v _ => len_walkL n _
      rw [List.length_range] at this
      rw [Nat.pow_succ, Nat.mul_comm]
      exact this
    · simp

/-! The program's way: an assignment, extended row by row. -/
def upd (f : Nat → Int) (v : Nat) (x : Int) : Nat → Int := fun u => if u = v then x else f u
def extF : (Nat → Int) → List (Int × Int) → Option (Nat → Int)
  | f, [] => some f
  | f, p :: ps => if f p.1.toNat ≠ -1 ∧ f p.1.toNat ≠ p.2 then none else extF (upd f p.1.toNat p.2) ps
def matF (f : Nat → Int) : List Rel → List (Nat → Int)
  | [] => [f]
  | R :: rs => R.2.flatMap fun row => match extF f (R.1.zip row) with | none => [] | some g => matF g rs
def emp : Nat → Int := fun _ => -1
def selF (vs : List Int) (f : Nat → Int) : List Int := vs.map fun v => f v.toNat
def ansM (vs : List Int) (l : List Rel) : List (List Int) := (matF emp l).map (selF vs)

def Agr (t f : Nat → Int) : Prop := ∀ v, f v ≠ -1 → t v = f v
theorem Agr.trans {a b c : Nat → Int} (h : Agr a b) (k : Agr b c) : Agr a c := fun v hv => by
  have := k v hv
  rw [h v (by rw [this]; exact hv), this]
def Sat (t : Nat → Int) (R : Rel) : Prop := ∃ row ∈ R.2, ∀ p ∈ R.1.zip row, t p.1.toNat = p.2
/-- The values of a relation's rows are values. -/
def RelOk (R : Rel) : Prop := R.2.length ≤ 8 ∧ R.2.Nodup ∧ (∀ v ∈ R.1, 0 ≤ v) ∧ ∀ row ∈ R.2, row.length = R.1.length ∧ ∀ x ∈ row, 0 ≤ x ∧ x ≤ 9
theorem zip_snd {a b : List Int} {p : Int × Int} (h : p ∈ a.zip b) : p.2 ∈ b := (List.of_mem_zip h).2
theorem RelOk.ne {R : Rel} (h : RelOk R) {row : List Int} (hr : row ∈ R.2) : ∀ p ∈ R.1.zip row, p.2 ≠ -1 := fun p hp => by
  have := (h.2.2.2 row hr).2 p.2 (zip_snd hp)
  omega
theorem ext_some : ∀ {zs : List (Int × Int)} {f g : Nat → Int}, extF f zs = some g → (∀ p ∈ zs, p.2 ≠ -1) → Agr g f ∧ ∀ p ∈ zs, g p.1.toNat = p.2
  | [], f, g, h, _ => by
    injection h with h
    subst h
    exact ⟨fun _ _ => rfl, fun p hp => by cases hp⟩
  | p :: ps, f, g, h, hn => by
    unfold extF at h
    split at h
    · cases h
    · rename_i hc
      obtain ⟨h1, h2⟩ := ext_some h fun q hq => hn q (List.mem_cons.2 (.inr hq))
      have hp := hn p (List.mem_cons.2 (.inl rfl))
      have hg : g p.1.toNat = p.2 := by
        have := h1 p.1.toNat (by unfold upd; rw [if_pos rfl]; exact hp)
        rw [this]
        unfold upd
        rw [if_pos rfl]
      refine ⟨fun v hv => ?_, fun q hq => ?_⟩
      · by_cases e : v = p.1.toNat
        · subst e
          rw [hg]
          by_cases e2 : f p.1.toNat = p.2
          · exact e2.symm
          · exact absurd ⟨hv, e2⟩ hc
        · have := h1 v (by unfold upd; rw [if_neg e]; exact hv)
          rw [this]
          unfold upd
          rw [if_neg e]
      · rcases List.mem_cons.1 hq with rfl | hq
        · exact hg
        · exact h2 q hq
theorem ext_of {t : Nat → Int} : ∀ {zs : List (Int × Int)} {f : Nat → Int}, (∀ p ∈ zs, p.2 ≠ -1) → Agr t f → (∀ p ∈ zs, t p.1.toNat = p.2) → ∃ g, extF f zs = some g ∧ Agr t g
  | [], f, _, h, _ => ⟨f, rfl, h⟩
  | p :: ps, f, hn, h, hz => by
    have hp := hz p (List.mem_cons.2 (.inl rfl))
    unfold extF
    rw [if_neg (fun q => q.2 (by rw [← hp]; exact (h _ q.1).symm))]
    refine ext_of (fun q hq => hn q (List.mem_cons.2 (.inr hq))) (fun v hv => ?_) fun q hq => hz q (List.mem_cons.2 (.inr hq))
    unfold upd at hv ⊢
    by_cases e : v = p.1.toNat
    · rw [if_pos e, e]; exact hp
    · rw [if_neg e] at hv ⊢
      exact h v hv
theorem mem_mat {f g : Nat → Int} {R : Rel} {rs : List Rel} : g ∈ matF f (R :: rs) ↔ ∃ row ∈ R.2, ∃ h, extF f (R.1.zip row) = some h ∧ g ∈ matF h rs := by
  show g ∈ R.2.flatMap _ ↔ _
  rw [List.mem_flatMap]
  constructor
  · rintro ⟨row, hr, h⟩
    refine ⟨row, hr, ?_⟩
    cases hx : extF f (R.1.zip row) with
    | none => rw [hx] at h; cases h
    | some k => rw [hx] at h; exact ⟨k, rfl, h⟩
  · rintro ⟨row, hr, h, hx, hg⟩
    exact ⟨row, hr, by rw [hx]; exact hg⟩
theorem mat_mem : ∀ {l : List Rel} {f g : Nat → Int}, (∀ R ∈ l, RelOk R) → g ∈ matF f l → Agr g f ∧ ∀ R ∈ l, Sat g R
  | [], f, g, _, h => by
    have := List.mem_singleton.1 h
    subst this
    exact ⟨fun _ _ => rfl, fun R hR => by cases hR⟩
  | R :: rs, f, g, hok, h => by
    obtain ⟨row, hr, k, hx, hg⟩ := mem_mat.1 h
    have hR := hok R (List.mem_cons.2 (.inl rfl))
    obtain ⟨h1, h2⟩ := ext_some hx (hR.ne hr)
    obtain ⟨h3, h4⟩ := mat_mem (fun R hR => hok R (List.mem_cons.2 (.inr hR))) hg
    refine ⟨h3.trans h1, fun Q hQ => ?_⟩
    rcases List.mem_cons.1 hQ with rfl | hQ
    · exact ⟨row, hr, fun p hp => by rw [h3 _ (by rw [h2 p hp]; exact hR.ne hr p hp), h2 p hp]⟩
    · exact h4 Q hQ
theorem mat_of {t : Nat → Int} : ∀ {l : List Rel} {f : Nat → Int}, (∀ R ∈ l, RelOk R) → Agr t f → (∀ R ∈ l, Sat t R) → ∃ g ∈ matF f l, Agr t g
  | [], f, _, h, _ => ⟨f, List.mem_singleton.2 rfl, h⟩
  | R :: rs, f, hok, h, hs => by
    have hR := hok R (List.mem_cons.2 (.inl rfl))
    obtain ⟨row, hr, hz⟩ := hs R (List.mem_cons.2 (.inl rfl))
    obtain ⟨k, hx, hk⟩ := ext_of (hR.ne hr) h hz
    obtain ⟨g, hg, ha⟩ := mat_of (l := rs) (fun R hR => hok R (List.mem_cons.2 (.inr hR))) hk fun Q hQ => hs Q (List.mem_cons.2 (.inr hQ))
    exact ⟨g, mem_mat.2 ⟨row, hr, k, hx, hg⟩, ha⟩
theorem zip_at {a b : List Int} (hl : b.length = a.length) {k : Nat} (hk : k < a.length) : (a[k], b[k]'(by omega)) ∈ a.zip b := by
  have h : k < (a.zip b).length := by rw [List.length_zip]; omega
  have := List.getElem_mem h
  rw [List.getElem_zip] at this
  exact this
theorem mat_pw : ∀ {l : List Rel} {f : Nat → Int}, (∀ R ∈ l, RelOk R) → (matF f l).Pairwise fun g h => ∃ R ∈ l, ∃ v ∈ R.1, g v.toNat ≠ h v.toNat
  | [], f, _ => List.pairwise_singleton ..
  | R :: rs, f, hok => by
    have hR := hok R (List.mem_cons.2 (.inl rfl))
    have hrs : ∀ R ∈ rs, RelOk R := fun Q hQ => hok Q (List.mem_cons.2 (.inr hQ))
    show (R.2.flatMap _).Pairwise _
    refine List.pairwise_flatMap.2 ⟨fun row _ => ?_, ?_⟩
    · split
      · exact List.Pairwise.nil
      · refine List.Pairwise.imp ?_ (mat_pw hrs)
        rintro g h ⟨Q, hQ, v, hv, hne⟩
        exact ⟨Q, List.mem_cons.2 (.inr hQ), v, hv, hne⟩
    · refine List.Pairwise.imp_of_mem ?_ hR.2.1
      intro a b ha hb hab x hx y hy
      have hla := (hR.2.2.2 a ha).1
      have hlb := (hR.2.2.2 b hb).1
      cases hxa : extF f (R.1.zip a) with
      | none => rw [hxa] at hx; cases hx
      | some g =>
      cases hxb : extF f (R.1.zip b) with
      | none => rw [hxb] at hy; cases hy
      | some h =>
      rw [hxa] at hx
      rw [hxb] at hy
      have h1 := (ext_some hxa (hR.ne ha)).2
      have h2 := (ext_some hxb (hR.ne hb)).2
      have h3 := (mat_mem hrs hx).1
      have h4 := (mat_mem hrs hy).1
      refine Classical.byContradiction fun hno => hab (List.ext_getElem (by omega) fun k hk hk' => ?_)
      have p1 := zip_at hla (k := k) (by omega)
      have p2 := zip_at hlb (k := k) (by omega)
      have e1 := h3 _ (by rw [h1 _ p1]; exact hR.ne ha _ p1)
      have e2 := h4 _ (by rw [h2 _ p2]; exact hR.ne hb _ p2)
      rw [h1 _ p1] at e1
      rw [h2 _ p2] at e2
      refine Classical.byContradiction fun hne => hno ⟨R, List.mem_cons.2 (.inl rfl), R.1[k], List.getElem_mem _, ?_⟩
      rw [e1, e2]
      exact hne
theorem len_mat : ∀ {l : List Rel} {f : Nat → Int}, (∀ R ∈ l, RelOk R) → (matF f l).length ≤ 8 ^ l.length
  | [], f, _ => by simp [matF]
  | R :: rs, f, hok => by
    have hR := (hok R (List.mem_cons.2 (.inl rfl))).1
    have hrs : ∀ R ∈ rs, RelOk R := fun Q hQ => hok Q (List.mem_cons.2 (.inr hQ))
    have := len_flatMap_le (fun row => match extF f (R.1.zip row) with | none => [] | some g => matF g rs) (8 ^ rs.length) R.2 fun row _ => by
      split
      · simp
      · exact len_mat hrs
    show (R.2.flatMap _).length ≤ _
    rw [List.length_cons, Nat.pow_succ, Nat.mul_comm]
    exact Nat.le_trans this (Nat.mul_le_mul_right _ hR)

/-- The variables are those of the relations. -/
structure Cover (vs : List Int) (l : List Rel) : Prop where
  ok : ∀ R ∈ l, RelOk R
  nd : vs.Nodup
  pos : ∀ v ∈ vs, 0 ≤ v
  sub : ∀ R ∈ l, ∀ v ∈ R.1, v ∈ vs
  all : ∀ v ∈ vs, ∃ R ∈ l, v ∈ R.1
theorem nodup_ansM {vs : List Int} {l : List Rel} (h : Cover vs l) : (ansM vs l).Nodup := by
  unfold ansM
  rw [List.nodup_iff_pairwise_ne, List.pairwise_map]
  refine List.Pairwise.imp ?_ (mat_pw (f := emp) h.ok)
  rintro a b ⟨R, hR, v, hv, hne⟩ e
  refine hne ?_
  unfold selF at e
  have := List.map_inj_left.1 e v (h.sub R hR v hv)
  exact this
theorem getD_at {l : List Int} {k : Nat} (h : k < l.length) : l.getD k 0 = l[k] := by simp [List.getD, h]
theorem mem_ansM {vs : List Int} {l : List Rel} (h : Cover vs l) (r : List Int) : r ∈ ansM vs l ↔ r ∈ walkL vs l vs.length [] := by
  rw [mem_walkL]
  unfold ansM
  rw [List.mem_map]
  constructor
  · rintro ⟨g, hg, rfl⟩
    obtain ⟨_, hs⟩ := mat_mem h.ok hg
    refine ⟨_, by unfold selF; rw [List.length_map], fun x hx => ?_, (List.nil_append _).symm, ?_⟩
    · unfold selF at hx
      obtain ⟨v, hv, rfl⟩ := List.mem_map.1 hx
      obtain ⟨R, hR, hvR⟩ := h.all v hv
      obtain ⟨row, hrow, hz⟩ := hs R hR
      obtain ⟨k, hk, rfl⟩ := List.getElem_of_mem hvR
      have hl := ((h.ok R hR).2.2.2 row hrow)
      have := hz _ (zip_at hl.1 hk)
      simp only at this
      rw [this]
      exact hl.2 _ (List.getElem_mem _)
    · unfold fitAll fitR
      simp only [List.all_eq_true, List.any_eq_true]
      intro R hR
      obtain ⟨row, hrow, hz⟩ := hs R hR
      refine ⟨row, hrow, fitRow_iff.2 fun k hk j hj e => ?_⟩
      have hl := ((h.ok R hR).2.2.2 row hrow)
      have hj' : j < vs.length := by unfold selF at hj; rwa [List.length_map] at hj
      rw [getD_at hj', getD_at hk] at e
      rw [getD_at hj, getD_at (by omega)]
      have := hz _ (zip_at hl.1 hk)
      simp only at this
      rw [show (selF vs g)[j] = g (vs[j]).toNat from List.getElem_map .., e, this]
  · rintro ⟨s, hs, hin, e, hf⟩
    rw [List.nil_append] at e
    subst e
    have hidx : ∀ v ∈ vs, ∃ j, ∃ hj : j < vs.length, vs[j] = v := fun v hv => by
      obtain ⟨j, hj, e⟩ := List.getElem_of_mem hv
      exact ⟨j, hj, e⟩
    let t : Nat → Int := fun u => r.getD (vs.idxOf (u : Int)) (-1)
    have ht : ∀ j (hj : j < vs.length), t vs[j].toNat = r[j]'(by omega) := fun j hj => by
      have h0 := h.pos _ (List.getElem_mem hj)
      have e1 : vs.idxOf ((vs[j].toNat : Nat) : Int) = j := by
        rw [show ((vs[j].toNat : Nat) : Int) = vs[j] by omega]
        exact h.nd.idxOf_getElem j hj
      show r.getD _ _ = _
      rw [e1]
      simp [List.getD, show j < r.length by omega]
    have hsat : ∀ R ∈ l, Sat t R := fun R hR => by
      unfold fitAll fitR at hf
      simp only [List.all_eq_true, List.any_eq_true] at hf
      obtain ⟨row, hrow, hfr⟩ := hf R hR
      have hl := ((h.ok R hR).2.2.2 row hrow)
      rw [fitRow_iff] at hfr
      refine ⟨row, hrow, fun p hp => ?_⟩
      obtain ⟨k, hk, rfl⟩ := List.getElem_of_mem hp
      rw [List.getElem_zip]
      rw [List.length_zip] at hk
      have hk' : k < R.1.length := by omega
      obtain ⟨j, hj, ej⟩ := hidx _ (h.sub R hR _ (List.getElem_mem hk'))
      show t (R.1[k]).toNat = row[k]
      rw [← ej, ht j hj]
      have := hfr k hk' j (by omega) (by rw [getD_at hj, getD_at hk']; exact ej)
      rw [getD_at (by omega), getD_at (by omega)] at this
      exact this
    obtain ⟨g, hg, ha⟩ := mat_of (f := emp) h.ok (fun v hv => absurd rfl hv) hsat
    refine ⟨g, hg, ?_⟩
    obtain ⟨_, hsg⟩ := mat_mem h.ok hg
    unfold selF
    refine List.ext_getElem (by rw [List.length_map]; omega) fun j hj hj' => ?_
    rw [List.length_map] at hj
    rw [List.getElem_map, ← ht j hj]
    obtain ⟨R, hR, hvR⟩ := h.all _ (List.getElem_mem hj)
    obtain ⟨row, hrow, hz⟩ := hsg R hR
    obtain ⟨k, hk, ek⟩ := List.getElem_of_mem hvR
    have hl := ((h.ok R hR).2.2.2 row hrow)
    have p1 := zip_at hl.1 hk
    have := hz _ p1
    simp only [ek] at this
    exact (ha _ (by rw [this]; exact (h.ok R hR).ne hrow _ p1)).symm
theorem len_ansM {vs : List Int} {l : List Rel} (h : ∀ R ∈ l, RelOk R) (hl : l.length ≤ 4) : (ansM vs l).length ≤ 4096 := by
  unfold ansM
  rw [List.length_map]
  exact Nat.le_trans (len_mat h) (Nat.le_trans (Nat.pow_le_pow_right (by decide) hl) (by decide))
/-- Two strictly ascending lists of the same rows are one. -/
theorem asc_same : ∀ {a b : List (List Int)}, a.Pairwise (fun x y => cmpR x y < 0) → b.Pairwise (fun x y => cmpR x y < 0) → (∀ r, r ∈ a ↔ r ∈ b) → a = b
  | [], [], _, _, _ => rfl
  | [], y :: _, _, _, h => by have := (h y).2 (List.mem_cons.2 (.inl rfl)); cases this
  | x :: _, [], _, _, h => by have := (h x).1 (List.mem_cons.2 (.inl rfl)); cases this
  | x :: xs, y :: ys, ha, hb, h => by
    have ha' := List.pairwise_cons.1 ha
    have hb' := List.pairwise_cons.1 hb
    have hxy : x = y := by
      rcases List.mem_cons.1 ((h x).1 (List.mem_cons.2 (.inl rfl))) with e | e
      · exact e
      · rcases List.mem_cons.1 ((h y).2 (List.mem_cons.2 (.inl rfl))) with e2 | e2
        · exact e2.symm
        · have h1 := hb'.1 x e
          have h2 := ha'.1 y e2
          rw [cmpR_anti] at h1
          omega
    subst hxy
    rw [asc_same ha'.2 hb'.2 fun r => ?_]
    have hr := h r
    constructor
    · intro q
      rcases List.mem_cons.1 (hr.1 (List.mem_cons.2 (.inr q))) with e | e
      · subst e
        have := ha'.1 r q
        rw [cmpR_self] at this
        omega
      · exact e
    · intro q
      rcases List.mem_cons.1 (hr.2 (List.mem_cons.2 (.inr q))) with e | e
      · subst e
        have := hb'.1 r q
        rw [cmpR_self] at this
        omega
      · exact e
/-- The program's rows, sorted, are the model's. -/
theorem sorted_ansM {vs : List Int} {l : List Rel} (h : Cover vs l) {m : List (List Int)} (hp : m.Perm (ansM vs l)) (hs : m.Pairwise fun a b => cmpR a b ≤ 0) : m = walkL vs l vs.length [] := by
  have hn : m.Nodup := hp.nodup_iff.2 (nodup_ansM h)
  refine asc_same ?_ (asc_walkL _ _) fun r => by rw [hp.mem_iff, mem_ansM h]
  refine List.Pairwise.imp ?_ (List.pairwise_and_iff.2 ⟨hs, hn⟩)
  rintro a b ⟨h1, h2⟩
  have : cmpR a b ≠ 0 := fun q => h2 (cmpR_eq q)
  omega
end Go.Proofs.YtdkhgeknjekkoaaGreat.AnsMath
