/- Updates: read: the model's function and the program's. -/
import Derived.Test.YtlngbdokgcdeeaaUpdFmt2
import Derived.Test.YtlngbdokgcdeeaaTabParse
import Derived.Test.YtlngbdokgcdeeaaTabImp5
import Derived.Deep.DeepCutAuto
namespace Go.Proofs.Ytlngbdokgcdeeaa.UpdParse
open Go Go.RowKit Byt Ints IntsLaw Cd Rows2 Tab TabSpec Exact Upd TabFmt UpdFmt TabParse

theorem len_s (s : ByteArray) : s.data.toList.length = s.size := Array.length_toList
def uN (s : ByteArray) : ByteArray := s.extract 1 2
def uB (s : ByteArray) : Bool := decide (s.data.toList.headD 0 = 43)
def uR (s : ByteArray) : List Int := vals (s.extract 2 s.size).data.toList
def uOk (s : ByteArray) : Bool := decide (0 < s.size ∧ fmtU (uN s) (uB s) (uR s) = s)
/-- What is read of a string. -/
def UAns (s : ByteArray) (w : World) (e : Ending) (w' : World) : Prop :=
  ∃ u fp, e = .returned (.tuple #[.agg #[.string (if uOk s then uN s else ⟨#[]⟩), .bool (if uOk s then uB s else false), u], .bool (uOk s)]) ∧ rowC.ow w' w.heap.size [u] (if uOk s then uR s else []) fp ∧ fp.Nodup ∧ Below w.heap.size w w'
theorem uOk_len {s : ByteArray} (h : uOk s = true) : 3 ≤ s.size ∧ s.size ≤ 5 := by
  obtain ⟨h0, h1⟩ := of_decide_eq_true h
  by_cases hk : updOk (uN s) (uR s) = true
  · rw [fmtU_yes hk] at h1
    have h2 := congrArg ByteArray.size h1
    have h3 : (updB (uN s) (uB s) (uR s)).length = s.size := by rw [← h2]; simp [ByteArray.size]
    unfold updOk at hk
    simp only [Bool.and_eq_true, decide_eq_true_eq] at hk
    have h4 : (uN s).data.toList.length = 1 := by rw [len_s]; exact (of_decide_eq_true hk.1.1).1
    unfold updB at h3
    rw [List.length_cons, List.length_append, h4, digB_len] at h3
    omega
  · rw [fmtU_no (by simpa using hk)] at h1
    rw [← h1] at h0
    exact absurd h0 (by decide)
theorem UAns.no {s : ByteArray} {w w' : World} (h : uOk s = false) (hb : Below w.heap.size w w') : UAns s w (.returned (.tuple #[.agg #[.string ⟨#[]⟩, .bool false, .slice none 0 0], .bool false])) w' :=
  ⟨.slice none 0 0, [], by simp [h], by rw [h]; exact Cd.ow_nil _ _, by simp, hb⟩
theorem UAns.yes {s : ByteArray} {w w' : World} {u : Value} {fp : List Nat} (h : uOk s = true) (ho : rowC.ow w' w.heap.size [u] (uR s) fp) (hn : fp.Nodup) (hb : Below w.heap.size w w') : UAns s w (.returned (.tuple #[.agg #[.string (uN s), .bool (uB s), u], .bool true])) w' :=
  ⟨u, fp, by simp [h], by rw [h]; exact ho, hn, hb⟩

/-- A local update, made behind W1. -/
def MadeU (W1 : World) (nm : ByteArray) (b : Bool) (row : List Int) (s4 : Value) (wx : World) : Prop :=
  ∃ k a c fp, s4 = .pointer (some ⟨k, 0, none⟩) ∧ W1.heap.size ≤ k ∧ Loc3 wx k (.string nm) (.bool b) (.slice a row.length c) ∧ rowC.ow wx W1.heap.size [.slice a row.length c] row fp ∧ fp.Nodup ∧ Below W1.heap.size W1 wx
theorem madeU {W1 wq : World} {k : Nat} {a : Option Addr} {c n : Nat} {x0 x1 x2 : Value} {nm : ByteArray} {b : Bool} {row : List Int} {fp : List Nat} (kk : LaterU W1 wq) (hb : W1.heap.size ≤ k) (GL : Loc3 wq k x0 x1 x2)
    (HO : rowC.ow wq W1.heap.size [.slice a n c] row fp) (hn : n = row.length) (hnd : fp.Nodup) (hbn : k ∉ fp) :
    MadeU W1 nm b row (.pointer (some ⟨k, 0, none⟩)) (((wq.setCell ⟨k, 0, none⟩ (.string nm)).setCell ⟨k, 1, none⟩ (.bool b)).setCell ⟨k, 2, none⟩ (.slice a n c)) := by
  subst hn
  obtain ⟨c0, c1, c2, f0, f1, f2⟩ := GL
  obtain ⟨k0, k1, k2⟩ := set3 (w := wq) (k := k) (x := .string nm) (y := .bool b) (z := .slice a row.length c) c0 c1 c2
  exact ⟨k, a, c, fp, rfl, hb, ⟨k0, k1, k2, by simpa using f0, by simpa using f1, by simpa using f2⟩, ow_setCell (ow_setCell (ow_setCell HO hbn _) hbn _) hbn _, hnd, ((Below.setCell kk hb _).setCell hb _).setCell hb _⟩
theorem madeU2 {W1 wq : World} {a : Option Addr} {c n : Nat} {T : TypeId} {nm : ByteArray} {b : Bool} {row : List Int} {fp : List Nat} (kk : LaterU W1 wq)
    (HO : rowC.ow wq W1.heap.size [.slice a n c] row fp) (hn : n = row.length) (hnd : fp.Nodup) :
    MadeU W1 nm b row (.pointer (some ⟨wq.heap.size, 0, none⟩)) (wq.alloc (.cells #[.string nm, .bool b, .slice a n c] T (0, 0))) := by
  subst hn
  exact ⟨wq.heap.size, a, c, fp, rfl, Below.size kk, Loc3.of (start1 wq _ rfl).1, Cd.ow_later HO (below_alloc _ _), hnd, below_then kk (below_alloc _ _)⟩

theorem laterU_alloc {a w : World} (h : LaterU a w) (o : Obj) : LaterU a (w.alloc o) := below_then h (below_alloc w o)
theorem laterU_set3 {a w : World} {k : Nat} {x y z : Value} (h : LaterU a w) (hk : a.heap.size ≤ k) : LaterU a (((w.setCell ⟨k, 0, none⟩ x).setCell ⟨k, 1, none⟩ y).setCell ⟨k, 2, none⟩ z) :=
  ((Below.setCell h hk _).setCell hk _).setCell hk _
theorem laterU_size {a w : World} (h : LaterU a w) : a.heap.size ≤ w.heap.size := Below.size h
theorem locU_new {W wq : World} {x0 x1 x2 : Value} {T : TypeId} (hb : Below (W.alloc (.cells #[x0, x1, x2] T (0, 0))).heap.size (W.alloc (.cells #[x0, x1, x2] T (0, 0))) wq) : Loc3 wq W.heap.size x0 x1 x2 :=
  (Loc3.of (start1 W _ rfl).1).later hb
theorem locU_new' {W wq : World} {x0 x1 x2 : Value} {T : TypeId} (hb : Below (W.drew.alloc (.cells #[x0, x1, x2] T (0, 0))).heap.size (W.drew.alloc (.cells #[x0, x1, x2] T (0, 0))) wq) : Loc3 wq W.heap.size x0 x1 x2 := locU_new (W := W.drew) hb
theorem newU_lt {W wq : World} {x0 x1 x2 : Value} {T : TypeId} (_ : Below (W.alloc (.cells #[x0, x1, x2] T (0, 0))).heap.size (W.alloc (.cells #[x0, x1, x2] T (0, 0))) wq) : W.heap.size < (W.alloc (.cells #[x0, x1, x2] T (0, 0))).heap.size := by rw [size_alloc]; omega

theorem locU_new3 {W wq : World} {x0 x1 x2 : Value} {T : TypeId} (hb : Below (W.alloc (.cells #[x0, x1, x2] T (0, 0))).drew.heap.size (W.alloc (.cells #[x0, x1, x2] T (0, 0))).drew wq) : Loc3 wq W.heap.size x0 x1 x2 :=
  (loc_drew (Loc3.of (start1 W _ rfl).1)).later hb
theorem newU_lt3 {W wq : World} {x0 x1 x2 : Value} {T : TypeId} (_ : Below (W.alloc (.cells #[x0, x1, x2] T (0, 0))).drew.heap.size (W.alloc (.cells #[x0, x1, x2] T (0, 0))).drew wq) : W.heap.size < (W.alloc (.cells #[x0, x1, x2] T (0, 0))).drew.heap.size := by
  show W.heap.size < (W.alloc (.cells #[x0, x1, x2] T (0, 0))).heap.size
  rw [size_alloc]; omega
theorem u_byte {s : ByteArray} (h : 0 < s.size) : (((s[0]'h).toNat : Int) == 43) = uB s := by
  have hl : 0 < s.data.toList.length := by rw [len_s]; exact h
  have e : s.data.toList.headD 0 = s[0] := by
    rw [List.headD_eq_head?_getD, List.head?_eq_getElem?, List.getElem?_eq_getElem hl]
    rfl
  unfold uB
  rw [e]
  by_cases q : s[0] = 43
  · rw [q, decide_eq_true rfl]; rfl
  · rw [decide_eq_false q, beq_eq_false_iff_ne]
    intro c
    exact q (UInt8.toNat_inj.1 (by show s[0].toNat = 43; omega))

set_option maxRecDepth 100000 in
set_option maxHeartbeats 6400000 in
theorem spec_parseu (s : ByteArray) (w : World) (hs : s.size ≤ 1048576) :
    Calls Try.prog 24 #[.string s] w fun e w' => UAns s w e w' := by
  by_cases h3 : s.size < 3
  · have HF := Lib.hid (show uOk s = false by
      cases h : uOk s
      · rfl
      · have := uOk_len h; omega)
    have t1 : (s.size : Int) < 3 := by omega
    clear h3
    go_enter Try.func24, Try.ntmps24
    go_wp2_with fail
    refine bodyPost_ret (v := .tuple #[.agg #[.string ⟨#[]⟩, .bool false, .slice none 0 0], .bool false]) (by simp [results, Try.results24, go_sem]) rfl (UAns.no HF.out ?_)
    first
      | exact below_alloc w _
      | (refine Below.setCell (Below.setCell (Below.setCell (below_alloc w _) ?_ _) ?_ _) ?_ _ <;> exact Nat.le_refl _)
  have t1 : ¬ (s.size : Int) < 3 := by omega
  by_cases h8 : 8 < s.size
  · have HF := Lib.hid (show uOk s = false by
      cases h : uOk s
      · rfl
      · have := uOk_len h; omega)
    have t2 : (8 : Int) < (s.size : Int) := by omega
    clear h3 h8
    go_enter Try.func24, Try.ntmps24
    go_wp2_with fail
    refine bodyPost_ret (v := .tuple #[.agg #[.string ⟨#[]⟩, .bool false, .slice none 0 0], .bool false]) (by simp [results, Try.results24, go_sem]) rfl (UAns.no HF.out ?_)
    first
      | exact below_alloc w _
      | (refine Below.setCell (Below.setCell (Below.setCell (below_alloc w _) ?_ _) ?_ _) ?_ _ <;> exact Nat.le_refl _)
  have t2 : ¬ (8 : Int) < (s.size : Int) := by omega
  have hp0 : 0 < s.size := by omega
  have i0 : (0 : Int) < (s.size : Int) := by omega
  have i1 : (1 : Int) ≤ (s.size : Int) := by omega
  have i2 : (2 : Int) ≤ (s.size : Int) := by omega
  have HP := Lib.hid hp0
  have HVL := Lib.hid (fun w' => spec_vals (s.extract 2 s.size) w' (by rw [ByteArray.size_extract]; omega))
  have HRR := Lib.hid (show uR s = vals (s.extract 2 s.size).data.toList from rfl)
  generalize vals (s.extract 2 s.size).data.toList = rr at *
  have HRES := Lib.hid (Loc3.of (row_alloc w (.cells #[.string ⟨#[]⟩, .bool false, .slice none 0 0] 35)))
  have HB1 := Lib.hid (below_alloc w (.cells #[.string ⟨#[]⟩, .bool false, .slice none 0 0] 35))
  have HZ1 := Lib.hid (size_alloc w (.cells #[.string ⟨#[]⟩, .bool false, .slice none 0 0] 35))
  clear h3 h8
  go_enter Try.func24, Try.ntmps24
  go_upto_region 3 with fail
  generalize w.alloc _ = W1 at *
  have kk : LaterU W1 W1.drew := (Below.refl _ W1).drew
  go_cut [4] (fun s4 wx => MadeU W1 (uN s) (uB s) rr s4 wx)
  case first =>
    go_region_held3 (fun wx => LaterU W1 wx)
      ((first | assumption | exact Below.drew (Below.refl _ W1) | exact laterU_alloc (by assumption) _ | exact laterU_set3 (by first | assumption | exact laterU_alloc (by assumption) _) (laterU_size (by first | assumption | exact Below.refl _ _))))
      (first | (go_at_call 49; refine (HVL.out _).mono ?_; rintro e wq ⟨v1, f1, rfl, how, hnd, hbq⟩; obtain ⟨a1, c1, rfl⟩ := Cd.ow_slice how; (have kk0 : LaterU W1 _ := (by first | assumption | exact laterU_alloc (by assumption) _)); (have HO := Lib.hid (rowC.ow_base how (laterU_size kk0))); (have HLT := Lib.hid (rowC.ow_lt how)); (have HND := Lib.hid hnd); (have kk : LaterU W1 wq := below_then kk0 hbq); (first | (have GB := Lib.hid GL.out.lt; have GL := Lib.hid (GL.out.later hbq)) | (have GB := Lib.hid (newU_lt hbq); have GL := Lib.hid (locU_new' hbq)) | (have GB := Lib.hid (newU_lt hbq); have GL := Lib.hid (locU_new hbq)) | (have GB := Lib.hid (newU_lt3 hbq); have GL := Lib.hid (locU_new3 hbq)) | skip); (first | (have x0 := GL.out.c0; have x1 := GL.out.c1; have x2 := GL.out.c2; have f0 := GL.out.f0; have f1 := GL.out.f1; have f2 := GL.out.f2) | skip); clear hbq how hnd kk0))
    all_goals
      go_wp2_with fail
      go_meet
      rw [← u_byte HP.out]
      change MadeU W1 (s.extract 1 2) _ rr _ _
      first
        | (have GG := GL.out; exact madeU (by assumption) (laterU_size (by first | assumption | exact Below.refl _ _)) GG HO.out rfl HND.out (fun q => by have h1 := (HLT.out _ q).1; have h2 := GB.out; omega))
        | (with_reducible exact madeU2 (by assumption) HO.out rfl HND.out)
  case rest =>
    obtain ⟨k, ao, co, fp, rfl, hk, hx, how, hnd, hl⟩ := hcut
    have hrr := HRR.out
    clear HRR HVL
    subst hrr
    clear i0 i1 i2 kk hp0
    have HX := Lib.hid hx
    have HOW := Lib.hid how
    have HND := Lib.hid hnd
    have HK := Lib.hid hk
    have HBC := Lib.hid (below_then HB1.out hl)
    have HRC := Lib.hid (HRES.out.later hl)
    have HNR := Lib.hid (show w.heap.size ∉ fp from fun q => by have h1 := (rowC.ow_lt how _ q).1; have h2 := HZ1.out; omega)
    have HBS := Lib.hid (show w.heap.size ≤ W1.heap.size by have := HZ1.out; omega)
    have HFM := Lib.hid (spec_fmtu (uN s) (uB s) _ (uR s) _ wc (rowC.ow_rd how))
    clear hx how hnd hk hl
    obtain ⟨x0, x1, x2, _, _, _⟩ := HX.out
    by_cases hfs : fmtU (uN s) (uB s) (uR s) = s
    · have HWHY := Lib.hid (show uOk s = true from decide_eq_true ⟨HP.out, hfs⟩)
      rw [hfs] at HFM
      clear hfs
      go_wp2_with fail
      refine HFM.out.mono ?_
      rintro e w9 ⟨rfl, hb9⟩
      obtain ⟨x0, x1, x2, _, _, _⟩ := HX.out.later hb9
      obtain ⟨p0, p1, p2, q0, q1, q2⟩ := HRC.out.later hb9
      have HB9 := Lib.hid (below_then HBC.out hb9)
      have HO9 := Lib.hid (Cd.ow_later HOW.out hb9)
      clear hb9
      go_wp2_with fail
      obtain ⟨k0, k1, k2⟩ := set3 (w := w9) (k := w.heap.size) (x := .string (uN s)) (y := .bool (uB s)) (z := .slice ao (uR s).length co) p0 p1 p2
      refine bodyPost_ret (v := .tuple #[.agg #[.string (uN s), .bool (uB s), .slice ao (uR s).length co], .bool true]) (by simp [results, Try.results24, go_sem, k0, k1, k2]) rfl (UAns.yes HWHY.out ?_ HND.out ?_)
      · have hn : w.heap.size ∉ fp := HNR.out
        exact rowC.ow_base (ow_setCell (ow_setCell (ow_setCell HO9.out hn _) hn _) hn _) HBS.out
      · exact ((HB9.out.setCell (Nat.le_refl _) _).setCell (Nat.le_refl _) _).setCell (Nat.le_refl _) _
    · have HF := Lib.hid (show uOk s = false from decide_eq_false fun q => hfs q.2)
      have hne := str_ne hfs
      clear hfs
      generalize fmtU (uN s) (uB s) (uR s) = fs at *
      go_wp2_with fail
      refine HFM.out.mono ?_
      rintro e w9 ⟨rfl, hb9⟩
      obtain ⟨p0, p1, p2, q0, q1, q2⟩ := HRC.out.later hb9
      have HB9 := Lib.hid (below_then HBC.out hb9)
      clear hb9
      go_wp2_with fail
      obtain ⟨k0, k1, k2⟩ := set3 (w := w9) (k := w.heap.size) (x := .string ⟨#[]⟩) (y := .bool false) (z := .slice none 0 0) p0 p1 p2
      refine bodyPost_ret (v := .tuple #[.agg #[.string ⟨#[]⟩, .bool false, .slice none 0 0], .bool false]) (by simp [results, Try.results24, go_sem, k0, k1, k2]) rfl (UAns.no HF.out ?_)
      exact ((HB9.out.setCell (Nat.le_refl _) _).setCell (Nat.le_refl _) _).setCell (Nat.le_refl _) _
end Go.Proofs.Ytlngbdokgcdeeaa.UpdParse
