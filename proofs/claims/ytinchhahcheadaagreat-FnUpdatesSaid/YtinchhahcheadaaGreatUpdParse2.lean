/- Updates: read: the program's function. -/
import Derived.Test.YtinchhahcheadaaGreatUpdParse
namespace Go.Proofs.YtinchhahcheadaaGreat.UpdParse
open Go Go.RowKit Byt Ints IntsLaw Cd Rows2 Tab TabSpec Exact Upd TabFmt UpdFmt TabParse

theorem inr_vals (l : List UInt8) : InR (vals l) := by
  intro x hx
  obtain ⟨b, _, rfl⟩ := List.mem_map.1 hx
  have := b.toNat_lt
  omega
theorem digits_row (s : ByteArray) (w : World) (h : s.size ≤ 1048577) :
    Calls Tryz.prog 41 #[.string s] w fun e w' => ∃ v' fp, e = .returned v' ∧ rowC.ow w' w.heap.size [v'] (vals s.data.toList) fp ∧ fp.Nodup ∧ Below w.heap.size w w' :=
  (Dig.parse_digits s w h).mono fun _ _ ⟨v', h1, h2, h3⟩ => ⟨v', _, h1, Cd.ow_of_own (l := vals s.data.toList) h2 (inr_vals _), Cd.own_nodup, h3⟩
theorem u_byte2 {s : ByteArray} (h : 0 < s.size) : ((s.extract 0 1).toList == [43]) = uB s := by
  have hl : 0 < s.data.toList.length := by rw [len_s]; exact h
  rw [ByteArray.toList_eq, ByteArray.data_extract, Array.toList_extract]
  unfold uB
  cases hs : s.data.toList with
  | nil => rw [hs] at hl; simp at hl
  | cons x r =>
    by_cases q : x = 43 <;> simp [q]

set_option maxRecDepth 100000 in
set_option maxHeartbeats 6400000 in
theorem impl_parseu (s : ByteArray) (w : World) (hs : s.size ≤ 1048576) :
    Calls Tryz.prog 15 #[.string s] w fun e w' => UAns s w e w' := by
  by_cases h3 : s.size < 2
  · have HF := Lib.hid (show uOk s = false by
      cases h : uOk s
      · rfl
      · have := uOk_len h; omega)
    have t1 : (s.size : Int) < 2 := by omega
    clear h3
    go_enter Tryz.func15, Tryz.ntmps15
    go_wp2_with fail
    refine bodyPost_ret (v := .tuple #[.agg #[.string ⟨#[]⟩, .bool false, .slice none 0 0], .bool false]) (by simp [results, Tryz.results15, go_sem]) rfl (UAns.no HF.out ?_)
    first
      | exact below_alloc w _
      | (refine Below.setCell (Below.setCell (Below.setCell (below_alloc w _) ?_ _) ?_ _) ?_ _ <;> exact Nat.le_refl _)
  have t1 : ¬ (s.size : Int) < 2 := by omega
  by_cases h8 : 5 < s.size
  · have HF := Lib.hid (show uOk s = false by
      cases h : uOk s
      · rfl
      · have := uOk_len h; omega)
    have t2 : (5 : Int) < (s.size : Int) := by omega
    clear h3 h8
    go_enter Tryz.func15, Tryz.ntmps15
    go_wp2_with fail
    refine bodyPost_ret (v := .tuple #[.agg #[.string ⟨#[]⟩, .bool false, .slice none 0 0], .bool false]) (by simp [results, Tryz.results15, go_sem]) rfl (UAns.no HF.out ?_)
    first
      | exact below_alloc w _
      | (refine Below.setCell (Below.setCell (Below.setCell (below_alloc w _) ?_ _) ?_ _) ?_ _ <;> exact Nat.le_refl _)
  have t2 : ¬ (5 : Int) < (s.size : Int) := by omega
  have hp0 : 0 < s.size := by omega
  have i0 : (0 : Int) < (s.size : Int) := by omega
  have i1 : (1 : Int) ≤ (s.size : Int) := by omega
  have i2 : (2 : Int) ≤ (s.size : Int) := by omega
  have HP := Lib.hid hp0
  have HVL := Lib.hid (fun w' => digits_row (s.extract 2 s.size) w' (by rw [ByteArray.size_extract]; omega))
  have HCL := Lib.hid (fun w' => TabImp.str_clone (s.extract 1 2) w' (by rw [ByteArray.size_extract]; omega))
  have HSG := Lib.hid sign_ins
  have HRR := Lib.hid (show uR s = vals (s.extract 2 s.size).data.toList from rfl)
  generalize vals (s.extract 2 s.size).data.toList = rr at *
  have HRES := Lib.hid (Loc3.of (row_alloc w (.cells #[.string ⟨#[]⟩, .bool false, .slice none 0 0] 29)))
  have HB1 := Lib.hid (below_alloc w (.cells #[.string ⟨#[]⟩, .bool false, .slice none 0 0] 29))
  have HZ1 := Lib.hid (size_alloc w (.cells #[.string ⟨#[]⟩, .bool false, .slice none 0 0] 29))
  clear h3 h8
  go_enter Tryz.func15, Tryz.ntmps15
  go_upto_region 3 with fail
  generalize w.alloc _ = W1 at *
  have kk : LaterU W1 W1.drew := (Below.refl _ W1).drew
  go_cut [4] (fun s4 wx => MadeU W1 (uN s) (uB s) rr s4 wx)
  case first =>
    go_region_held3 (fun wx => LaterU W1 wx)
      ((first | assumption | exact Below.drew (Below.refl _ W1) | exact laterU_alloc (by assumption) _ | exact laterU_set3 (by first | assumption | exact laterU_alloc (by assumption) _) (laterU_size (by first | assumption | exact Below.refl _ _))))
      (first | (go_at_call 29; refine (HCL.out _).mono ?_; rintro e wq ⟨rfl, hbq⟩; (have kk0 : LaterU W1 _ := (by first | assumption | exact laterU_alloc (by assumption) _)); (have kk : LaterU W1 wq := below_then kk0 hbq); (first | (have GL := Lib.hid (GL.out.later hbq)) | (have GL := Lib.hid (locU_new' hbq)) | (have GL := Lib.hid (locU_new hbq)) | (have GL := Lib.hid (locU_new3 hbq)) | skip); clear kk0; clear hbq) | (go_at_call 40; refine (HSG.out _).mono ?_; rintro e wq ⟨rfl, hbq⟩; (have kk0 : LaterU W1 _ := (by first | assumption | exact laterU_alloc (by assumption) _)); (have kk : LaterU W1 wq := below_then kk0 hbq); (first | (have GL := Lib.hid (GL.out.later hbq)) | (have GL := Lib.hid (locU_new' hbq)) | (have GL := Lib.hid (locU_new hbq)) | (have GL := Lib.hid (locU_new3 hbq)) | skip); clear kk0; clear hbq) | (go_at_call 41; refine (HVL.out _).mono ?_; rintro e wq ⟨v1, f1, rfl, how, hnd, hbq⟩; obtain ⟨a1, c1, rfl⟩ := Cd.ow_slice how; (have kk0 : LaterU W1 _ := (by first | assumption | exact laterU_alloc (by assumption) _)); (have HO := Lib.hid (rowC.ow_base how (laterU_size kk0))); (have HLT := Lib.hid (rowC.ow_lt how)); (have HND := Lib.hid hnd); (have kk : LaterU W1 wq := below_then kk0 hbq); (first | (have GB := Lib.hid GL.out.lt; have GL := Lib.hid (GL.out.later hbq)) | (have GB := Lib.hid (newU_lt hbq); have GL := Lib.hid (locU_new' hbq)) | (have GB := Lib.hid (newU_lt hbq); have GL := Lib.hid (locU_new hbq)) | (have GB := Lib.hid (newU_lt3 hbq); have GL := Lib.hid (locU_new3 hbq)) | skip); (first | (have x0 := GL.out.c0; have x1 := GL.out.c1; have x2 := GL.out.c2; have f0 := GL.out.f0; have f1 := GL.out.f1; have f2 := GL.out.f2) | skip); clear hbq how hnd kk0))
    all_goals
      go_wp2_with fail
      go_meet
      rw [← u_byte2 HP.out]
      change MadeU W1 (s.extract 1 2) _ rr _ _
      first
        | (have GG := GL.out; exact madeU (by assumption) (laterU_size (by first | assumption | exact Below.refl _ _)) GG HO.out rfl HND.out (fun q => by have h1 := (HLT.out _ q).1; have h2 := GB.out; omega))
        | (with_reducible exact madeU2 (by assumption) HO.out rfl HND.out)
  case rest =>
    obtain ⟨k, ao, co, fp, rfl, hk, hx, how, hnd, hl⟩ := hcut
    have hrr := HRR.out
    clear HRR HVL
    subst hrr
    clear i0 i1 i2 kk hp0
    have HX := Lib.hid hx
    have HOW := Lib.hid how
    have HND := Lib.hid hnd
    have HK := Lib.hid hk
    have HBC := Lib.hid (below_then HB1.out hl)
    have HRC := Lib.hid (HRES.out.later hl)
    have HNR := Lib.hid (show w.heap.size ∉ fp from fun q => by have h1 := (rowC.ow_lt how _ q).1; have h2 := HZ1.out; omega)
    have HBS := Lib.hid (show w.heap.size ≤ W1.heap.size by have := HZ1.out; omega)
    have HFM := Lib.hid (impl_fmtu (uN s) (uB s) _ (uR s) _ wc (rowC.ow_rd how))
    clear hx how hnd hk hl
    obtain ⟨x0, x1, x2, _, _, _⟩ := HX.out
    by_cases hfs : fmtU (uN s) (uB s) (uR s) = s
    · have HWHY := Lib.hid (show uOk s = true from decide_eq_true ⟨HP.out, hfs⟩)
      rw [hfs] at HFM
      clear hfs
      go_wp2_with fail
      refine HFM.out.mono ?_
      rintro e w9 ⟨rfl, hb9⟩
      obtain ⟨x0, x1, x2, _, _, _⟩ := HX.out.later hb9
      obtain ⟨p0, p1, p2, q0, q1, q2⟩ := HRC.out.later hb9
      have HB9 := Lib.hid (below_then HBC.out hb9)
      have HO9 := Lib.hid (Cd.ow_later HOW.out hb9)
      clear hb9
      go_wp2_with fail
      obtain ⟨k0, k1, k2⟩ := set3 (w := w9) (k := w.heap.size) (x := .string (uN s)) (y := .bool (uB s)) (z := .slice ao (uR s).length co) p0 p1 p2
      refine bodyPost_ret (v := .tuple #[.agg #[.string (uN s), .bool (uB s), .slice ao (uR s).length co], .bool true]) (by simp [results, Tryz.results15, go_sem, k0, k1, k2]) rfl (UAns.yes HWHY.out ?_ HND.out ?_)
      · have hn : w.heap.size ∉ fp := HNR.out
        exact rowC.ow_base (ow_setCell (ow_setCell (ow_setCell HO9.out hn _) hn _) hn _) HBS.out
      · exact ((HB9.out.setCell (Nat.le_refl _) _).setCell (Nat.le_refl _) _).setCell (Nat.le_refl _) _
    · have HF := Lib.hid (show uOk s = false from decide_eq_false fun q => hfs q.2)
      have hne := str_ne hfs
      clear hfs
      generalize fmtU (uN s) (uB s) (uR s) = fs at *
      go_wp2_with fail
      refine HFM.out.mono ?_
      rintro e w9 ⟨rfl, hb9⟩
      obtain ⟨p0, p1, p2, q0, q1, q2⟩ := HRC.out.later hb9
      have HB9 := Lib.hid (below_then HBC.out hb9)
      clear hb9
      go_wp2_with fail
      obtain ⟨k0, k1, k2⟩ := set3 (w := w9) (k := w.heap.size) (x := .string ⟨#[]⟩) (y := .bool false) (z := .slice none 0 0) p0 p1 p2
      refine bodyPost_ret (v := .tuple #[.agg #[.string ⟨#[]⟩, .bool false, .slice none 0 0], .bool false]) (by simp [results, Tryz.results15, go_sem, k0, k1, k2]) rfl (UAns.no HF.out ?_)
      exact ((HB9.out.setCell (Nat.le_refl _) _).setCell (Nat.le_refl _) _).setCell (Nat.le_refl _) _
end Go.Proofs.YtinchhahcheadaaGreat.UpdParse
