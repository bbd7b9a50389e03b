/- The walk of the law on integer encodings. -/
import Derived.Test.YtlmaaiffmomflaaDoorEncPlain
import Derived.Test.YtlmaaiffmomflaaDoorDraw
namespace Go.Proofs.YtlmaaiffmomflaaDoor.EncLaw
open Go Go.RowKit Byt Draw
open Format (Tab tab_later)
open Varint (leb)

theorem fixed_dec (s : ByteArray) (width : Int) (w : World) (hs : s.size ≤ 9223372036854775807) :
    Calls Tryd.prog 13 #[.string s, .int .i64 width] w fun e w' => ∃ (y : Int) (ok : Bool), e = .returned (.tuple #[.int .i64 y, .bool ok]) ∧ w = w' ∧
      ((1 ≤ width ∧ width ≤ 7 ∧ width ≤ s.size) → y = (DecFixed.de (s.data.toList.take width.toNat) : Nat) ∧ ok = true) := by
  by_cases h : 1 ≤ width ∧ width ≤ 7 ∧ width ≤ s.size
  · obtain ⟨k, rfl⟩ := Int.eq_ofNat_of_zero_le (show 0 ≤ width by omega)
    exact (DecFixed.impl_yes s k w hs (by omega) (by omega) (by omega)).mono fun e w' ⟨he, hw⟩ => ⟨_, true, he, hw, fun _ => ⟨by rw [Int.toNat_natCast], rfl⟩⟩
  · exact (DecFixed.impl_no s width w hs h).mono fun e w' ⟨he, hw⟩ => ⟨0, false, he, hw, fun q => absurd q h⟩

theorem fixed_size (m width : Int) : (Fixed.out m width).size ≤ 7 := by
  unfold Fixed.out
  split
  · rename_i h
    unfold Fixed.enc
    split
    · show (Fixed.be m.toNat width.toNat).toArray.size ≤ 7
      rw [List.size_toArray, Fixed.be_length]
      omega
    · decide
  · decide

theorem fixed_cases (m width : Int) (tail : ByteArray) {y : Int} {ok : Bool}
    (hd : (1 ≤ width ∧ width ≤ 7 ∧ width ≤ ((Fixed.out m width ++ tail).size : Int)) → y = (DecFixed.de ((Fixed.out m width ++ tail).data.toList.take width.toNat) : Nat) ∧ ok = true) :
    ((Fixed.out m width).toList.isEmpty = false ∧ y = m ∧ ok = true ∧ (((Fixed.out m width).size : Int) != width) = false) ∨ Fixed.out m width = .empty := by
  by_cases h : 1 ≤ width ∧ width ≤ 7 ∧ 0 ≤ m
  · by_cases h2 : m.toNat < 256 ^ width.toNat
    · have e : Fixed.out m width = ⟨(Fixed.be m.toNat width.toNat).toArray⟩ := by rw [Fixed.out, if_pos h, Fixed.enc, if_pos h2]
      rw [e] at hd ⊢
      have hsz : (⟨(Fixed.be m.toNat width.toNat).toArray⟩ : ByteArray).size = width.toNat := by
        show (Fixed.be m.toNat width.toNat).toArray.size = _
        rw [List.size_toArray, Fixed.be_length]
      have hd := hd ⟨h.1, h.2.1, by rw [ByteArray.size_append, hsz]; omega⟩
      have e2 : ((⟨(Fixed.be m.toNat width.toNat).toArray⟩ : ByteArray) ++ tail).data.toList = Fixed.be m.toNat width.toNat ++ tail.data.toList := by simp
      rw [e2, EncPlain.fixed_back h2] at hd
      refine .inl ⟨?_, by omega, hd.2, by rw [hsz, bne_eq_false_iff_eq]; omega⟩
      rw [ByteArray.toList_mk]
      have := Fixed.be_length m.toNat width.toNat
      cases hl : Fixed.be m.toNat width.toNat with
      | nil => rw [hl] at this; simp at this; omega
      | cons a r => rfl
    · exact .inr (by rw [Fixed.out, if_pos h, Fixed.enc, if_neg h2])
  · exact .inr (by rw [Fixed.out, if_neg h])

theorem hex_same {s o : ByteArray} {ok : Bool} (h : HexPlain.Decoded (Hex.hexL s.data.toList) o ok) : s = o ∧ ok = true := by
  obtain ⟨h1, h2⟩ := EncPlain.hex_back h
  refine ⟨?_, h2⟩
  rw [h1]

theorem hex_size (s : ByteArray) (hs : s.size ≤ 40) : (⟨(Hex.hexL s.data.toList).toArray⟩ : ByteArray).size ≤ 70368744177663 := by
  show (Hex.hexL s.data.toList).toArray.size ≤ _
  rw [List.size_toArray, Hex.hexL_length, Array.length_toList]
  have : s.data.size = s.size := rfl
  omega

theorem hex_len (s : ByteArray) : (((Hex.hexL s.data.toList).length : Int) == 2 * (s.size : Int)) = true := by
  rw [beq_iff_eq, Hex.hexL_length, Array.length_toList]
  have : s.data.size = s.size := rfl
  omega

theorem itoa_size (m : Int) (hm : -9223372036854775808 ≤ m ∧ m ≤ 9223372036854775807) : (⟨(Go.Lib.itoa m).toArray⟩ : ByteArray).size ≤ 9223372036854775807 := by
  show (Go.Lib.itoa m).toArray.size ≤ _
  rw [List.size_toArray]
  have h1 := EncPlain.itoa_length m
  have h2 := Format.nDigits_le 18 m.natAbs (by omega)
  omega

/-- What the first test sees of the varint's encoding. -/
theorem varint_cases (n : Int) (tail : ByteArray) {x k : Nat} (hd : VarintPlain.Decoded (Varint.out n ++ tail).data.toList x k) :
    ((0 ≤ n ∧ n ≤ 562949953421311) ∧ (Varint.out n).toList.isEmpty = false ∧ (x : Int) = n ∧ k = (Varint.out n).size) ∨
    (¬ (0 ≤ n ∧ n ≤ 562949953421311) ∧ Varint.out n = .empty) := by
  by_cases h : 0 ≤ n ∧ n ≤ 562949953421311
  · refine .inl ⟨h, ?_⟩
    have e : Varint.out n = ⟨(leb n.toNat).toArray⟩ := by rw [Varint.out, if_pos h]
    rw [e] at hd ⊢
    have e2 : ((⟨(leb n.toNat).toArray⟩ : ByteArray) ++ tail).data.toList = leb n.toNat ++ tail.data.toList := by simp
    rw [e2] at hd
    obtain ⟨hx, hk⟩ := EncPlain.varint_back (by omega) _ hd
    refine ⟨?_, by omega, by rw [hk]; simp [ByteArray.size]⟩
    have := EncPlain.leb_pos n.toNat
    rw [ByteArray.toList_mk]
    cases hl : leb n.toNat with
    | nil => rw [hl] at this; simp at this
    | cons a r => rfl
  · exact .inr ⟨h, by rw [Varint.out, if_neg h]⟩

set_option maxRecDepth 100000 in
set_option maxHeartbeats 1600000 in
theorem walk (v : Value) (l : List UInt8) (w : World) (hr : Reads w v l w.heap.size) (ht : Tab w) :
    Calls Tryd.prog 3 #[v] w fun e w' => e = .returned (.bool true) ∧ Below w.heap.size w w' := by
  have Ht := Lib.hid ht
  clear ht
  by_cases hbig : 1048576 < l.length
  · have h0 := big_any v l _ w hr
    have e : decide (1048576 < l.length) = true := by simpa using hbig
    rw [e] at h0
    have H0 := Lib.hid h0
    clear h0 e hbig
    go_enter Tryd.func3, Tryd.ntmps3
    go_wp2_with fail
    refine H0.out.mono ?_
    rintro e w1 ⟨rfl, rfl⟩
    go_wp2_with fail
    go_ret
    exact ⟨rfl, Below.refl _ _⟩
  · have h0 := big_any v l _ w hr
    have e : decide (1048576 < l.length) = false := by simpa using hbig
    rw [e] at h0
    have H0 := Lib.hid h0
    clear h0 e hbig
    go_enter Tryd.func3, Tryd.ntmps3
    go_wp2_with fail
    refine H0.out.mono ?_
    rintro e w1 ⟨rfl, rfl⟩
    go_wp2_with fail
    refine (draw_int v l _ _ hr (Nat.le_refl _)).mono ?_
    rintro e w2 ⟨n, rfl, hn, hb2⟩
    go_wp2_with fail
    refine (draw_text v l _ _ (hr.later hb2) hb2.size).mono ?_
    rintro e w3 ⟨s, rfl, hs, hb3⟩
    have HB3 := Lib.hid (hb2.trans hb3)
    have HR0 := Lib.hid hr
    have hsz : (Varint.out n).size ≤ 7 := by
      unfold Varint.out
      split
      · show (leb n.toNat).toArray.size ≤ 7
        rw [List.size_toArray]
        exact Varint.leb_seven (by omega)
      · decide
    have HN := Lib.hid hn
    clear hb2 hb3 hn
    go_wp2_with fail
    refine (Varint.impl_any n _).mono ?_
    rintro e w4 ⟨rfl, hb4⟩
    have HB4 := Lib.hid (HB3.out.trans (hb4.mono HB3.out.size))
    clear hb4
    go_wp2_with fail
    refine (DecVarint.impl_any _ _ (by rw [ByteArray.size_append]; omega)).mono ?_
    rintro e w5 ⟨x, k, rfl, hd, hb5⟩
    have HB5 := Lib.hid (HB4.out.trans (hb5.mono HB4.out.size))
    rcases varint_cases n s hd with ⟨⟨h0, h1⟩, hE, hx, hk⟩ | ⟨hno, hE⟩
    · subst hx
      subst hk
      clear hb5 hd
      (have hr5 := HR0.out.later HB5.out
       go_wp2_with fail
       refine (draw_fixed v l _ _ hr5 HB5.out.size).mono ?_
       rintro e w6 ⟨m, width, rfl, hm, hwd, hb6⟩
       have HB6 := Lib.hid (HB5.out.trans hb6)
       have HM := Lib.hid hm
       have HW := Lib.hid hwd
       clear hr5 hb6 hm hwd
       go_wp2_with fail
       refine (Fixed.impl_any m width _ HM.out.2).mono ?_
       rintro e w7 ⟨rfl, hb7⟩
       have HB7 := Lib.hid (HB6.out.trans (hb7.mono HB6.out.size))
       have hfs := fixed_size m width
       clear hb7
       go_wp2_with fail
       refine (fixed_dec _ width _ (by rw [ByteArray.size_append]; omega)).mono ?_
       rintro e w8 ⟨y, ok, rfl, rfl, hy⟩
       have HF := Lib.hid (fixed_cases m width s hy)
       have HSF := Lib.hid (Fixed.spec_any m width w7 HM.out.2)
       clear hy
       have HF2 := Lib.hid (Or.elim HF.out (fun q => Or.inl ⟨q.1, q.2.1.symm, q.2.2.1, q.2.2.2⟩) (fun q => Or.inr q) : ((Fixed.out m width).toList.isEmpty = false ∧ m = y ∧ ok = true ∧ (((Fixed.out m width).size : Int) != width) = false) ∨ Fixed.out m width = .empty)
       rcases HF2.out with ⟨hF, rfl, rfl, hsz⟩ | hF
       all_goals
         clear hfs
         go_wp2_with (go_at_call 14; refine HSF.out.mono ?_; rintro e w9 ⟨rfl, hb9⟩)
         have HB9 := Lib.hid (HB7.out.trans (hb9.mono HB7.out.size))
         clear hb9
         refine (Hex.impl_any s _ (by omega)).mono ?_
         rintro e w10 ⟨rfl, hb10⟩
         have HB10 := Lib.hid (HB9.out.trans (hb10.mono HB9.out.size))
         clear hb10
         go_wp2_with fail
         refine (DecHex.impl_any _ _ (hex_size s hs)).mono ?_
         rintro e w11 ⟨o, fine, rfl, hd2, hb11⟩
         have HB11 := Lib.hid (HB10.out.trans (hb11.mono HB10.out.size))
         obtain ⟨rfl, rfl⟩ := hex_same hd2
         clear hb11 hd2
         go_wp2_with fail
         refine (Format.impl_any m _ HM.out (tab_later HB11.out Ht.out)).mono ?_
         rintro e w12 ⟨rfl, hb12⟩
         have HB12 := Lib.hid (HB11.out.trans (hb12.mono HB11.out.size))
         clear hb12
         go_wp2_with fail
         refine (Parse.impl_any _ _ (itoa_size m HM.out) (tab_later HB12.out Ht.out)).mono ?_
         rintro e w13 ⟨z, good, rfl, hp, hb13⟩
         have HB13 := Lib.hid (HB12.out.trans (hb13.mono HB12.out.size))
         have hib := EncPlain.int_back hp
         have HFI := Lib.hid (Format.spec_any m w13 HM.out)
         clear hb13 hp
         obtain ⟨hz, hgood⟩ := hib
         have hlen2 := hex_len s
         by_cases r1 : -1000000000 < m
         · by_cases r2 : m < 1000000000
           · have hg1 : good = true := by rw [hgood]; simp [r1, r2]
             obtain rfl := (hz hg1).symm
             subst hg1
             clear hgood hz
             go_wp2_with (go_at_call 19; refine HFI.out.mono ?_; rintro e w14 ⟨rfl, hb14⟩)
             go_ret
             exact ⟨rfl, HB13.out.trans (hb14.mono HB13.out.size)⟩
           · have r2' : decide (m < 1000000000) = false := by simpa using r2
             have hg1 : good = false := by rw [hgood]; simp [r2]
             subst hg1
             clear hgood hz
             go_wp2_with (go_at_call 19; refine HFI.out.mono ?_; rintro e w14 ⟨rfl, hb14⟩)
             go_ret
             exact ⟨rfl, HB13.out.trans (hb14.mono HB13.out.size)⟩
         · have r1' : decide (-1000000000 < m) = false := by simpa using r1
           have hg1 : good = false := by rw [hgood]; simp [r1]
           subst hg1
           clear hgood hz
           go_wp2_with (go_at_call 19; refine HFI.out.mono ?_; rintro e w14 ⟨rfl, hb14⟩)
           go_ret
           exact ⟨rfl, HB13.out.trans (hb14.mono HB13.out.size)⟩)
    · clear hb5 hd
      rcases (show n < 0 ∨ 562949953421311 < n by omega) with h0 | h0
      · clear hno
        (have hr5 := HR0.out.later HB5.out
         go_wp2_with fail
         refine (draw_fixed v l _ _ hr5 HB5.out.size).mono ?_
         rintro e w6 ⟨m, width, rfl, hm, hwd, hb6⟩
         have HB6 := Lib.hid (HB5.out.trans hb6)
         have HM := Lib.hid hm
         have HW := Lib.hid hwd
         clear hr5 hb6 hm hwd
         go_wp2_with fail
         refine (Fixed.impl_any m width _ HM.out.2).mono ?_
         rintro e w7 ⟨rfl, hb7⟩
         have HB7 := Lib.hid (HB6.out.trans (hb7.mono HB6.out.size))
         have hfs := fixed_size m width
         clear hb7
         go_wp2_with fail
         refine (fixed_dec _ width _ (by rw [ByteArray.size_append]; omega)).mono ?_
         rintro e w8 ⟨y, ok, rfl, rfl, hy⟩
         have HF := Lib.hid (fixed_cases m width s hy)
         have HSF := Lib.hid (Fixed.spec_any m width w7 HM.out.2)
         clear hy
         have HF2 := Lib.hid (Or.elim HF.out (fun q => Or.inl ⟨q.1, q.2.1.symm, q.2.2.1, q.2.2.2⟩) (fun q => Or.inr q) : ((Fixed.out m width).toList.isEmpty = false ∧ m = y ∧ ok = true ∧ (((Fixed.out m width).size : Int) != width) = false) ∨ Fixed.out m width = .empty)
         rcases HF2.out with ⟨hF, rfl, rfl, hsz⟩ | hF
         all_goals
           clear hfs
           go_wp2_with (go_at_call 14; refine HSF.out.mono ?_; rintro e w9 ⟨rfl, hb9⟩)
           have HB9 := Lib.hid (HB7.out.trans (hb9.mono HB7.out.size))
           clear hb9
           refine (Hex.impl_any s _ (by omega)).mono ?_
           rintro e w10 ⟨rfl, hb10⟩
           have HB10 := Lib.hid (HB9.out.trans (hb10.mono HB9.out.size))
           clear hb10
           go_wp2_with fail
           refine (DecHex.impl_any _ _ (hex_size s hs)).mono ?_
           rintro e w11 ⟨o, fine, rfl, hd2, hb11⟩
           have HB11 := Lib.hid (HB10.out.trans (hb11.mono HB10.out.size))
           obtain ⟨rfl, rfl⟩ := hex_same hd2
           clear hb11 hd2
           go_wp2_with fail
           refine (Format.impl_any m _ HM.out (tab_later HB11.out Ht.out)).mono ?_
           rintro e w12 ⟨rfl, hb12⟩
           have HB12 := Lib.hid (HB11.out.trans (hb12.mono HB11.out.size))
           clear hb12
           go_wp2_with fail
           refine (Parse.impl_any _ _ (itoa_size m HM.out) (tab_later HB12.out Ht.out)).mono ?_
           rintro e w13 ⟨z, good, rfl, hp, hb13⟩
           have HB13 := Lib.hid (HB12.out.trans (hb13.mono HB12.out.size))
           have hib := EncPlain.int_back hp
           have HFI := Lib.hid (Format.spec_any m w13 HM.out)
           clear hb13 hp
           obtain ⟨hz, hgood⟩ := hib
           have hlen2 := hex_len s
           by_cases r1 : -1000000000 < m
           · by_cases r2 : m < 1000000000
             · have hg1 : good = true := by rw [hgood]; simp [r1, r2]
               obtain rfl := (hz hg1).symm
               subst hg1
               clear hgood hz
               go_wp2_with (go_at_call 19; refine HFI.out.mono ?_; rintro e w14 ⟨rfl, hb14⟩)
               go_ret
               exact ⟨rfl, HB13.out.trans (hb14.mono HB13.out.size)⟩
             · have r2' : decide (m < 1000000000) = false := by simpa using r2
               have hg1 : good = false := by rw [hgood]; simp [r2]
               subst hg1
               clear hgood hz
               go_wp2_with (go_at_call 19; refine HFI.out.mono ?_; rintro e w14 ⟨rfl, hb14⟩)
               go_ret
               exact ⟨rfl, HB13.out.trans (hb14.mono HB13.out.size)⟩
           · have r1' : decide (-1000000000 < m) = false := by simpa using r1
             have hg1 : good = false := by rw [hgood]; simp [r1]
             subst hg1
             clear hgood hz
             go_wp2_with (go_at_call 19; refine HFI.out.mono ?_; rintro e w14 ⟨rfl, hb14⟩)
             go_ret
             exact ⟨rfl, HB13.out.trans (hb14.mono HB13.out.size)⟩)
      · clear hno
        (have hr5 := HR0.out.later HB5.out
         go_wp2_with fail
         refine (draw_fixed v l _ _ hr5 HB5.out.size).mono ?_
         rintro e w6 ⟨m, width, rfl, hm, hwd, hb6⟩
         have HB6 := Lib.hid (HB5.out.trans hb6)
         have HM := Lib.hid hm
         have HW := Lib.hid hwd
         clear hr5 hb6 hm hwd
         go_wp2_with fail
         refine (Fixed.impl_any m width _ HM.out.2).mono ?_
         rintro e w7 ⟨rfl, hb7⟩
         have HB7 := Lib.hid (HB6.out.trans (hb7.mono HB6.out.size))
         have hfs := fixed_size m width
         clear hb7
         go_wp2_with fail
         refine (fixed_dec _ width _ (by rw [ByteArray.size_append]; omega)).mono ?_
         rintro e w8 ⟨y, ok, rfl, rfl, hy⟩
         have HF := Lib.hid (fixed_cases m width s hy)
         have HSF := Lib.hid (Fixed.spec_any m width w7 HM.out.2)
         clear hy
         have HF2 := Lib.hid (Or.elim HF.out (fun q => Or.inl ⟨q.1, q.2.1.symm, q.2.2.1, q.2.2.2⟩) (fun q => Or.inr q) : ((Fixed.out m width).toList.isEmpty = false ∧ m = y ∧ ok = true ∧ (((Fixed.out m width).size : Int) != width) = false) ∨ Fixed.out m width = .empty)
         rcases HF2.out with ⟨hF, rfl, rfl, hsz⟩ | hF
         all_goals
           clear hfs
           go_wp2_with (go_at_call 14; refine HSF.out.mono ?_; rintro e w9 ⟨rfl, hb9⟩)
           have HB9 := Lib.hid (HB7.out.trans (hb9.mono HB7.out.size))
           clear hb9
           refine (Hex.impl_any s _ (by omega)).mono ?_
           rintro e w10 ⟨rfl, hb10⟩
           have HB10 := Lib.hid (HB9.out.trans (hb10.mono HB9.out.size))
           clear hb10
           go_wp2_with fail
           refine (DecHex.impl_any _ _ (hex_size s hs)).mono ?_
           rintro e w11 ⟨o, fine, rfl, hd2, hb11⟩
           have HB11 := Lib.hid (HB10.out.trans (hb11.mono HB10.out.size))
           obtain ⟨rfl, rfl⟩ := hex_same hd2
           clear hb11 hd2
           go_wp2_with fail
           refine (Format.impl_any m _ HM.out (tab_later HB11.out Ht.out)).mono ?_
           rintro e w12 ⟨rfl, hb12⟩
           have HB12 := Lib.hid (HB11.out.trans (hb12.mono HB11.out.size))
           clear hb12
           go_wp2_with fail
           refine (Parse.impl_any _ _ (itoa_size m HM.out) (tab_later HB12.out Ht.out)).mono ?_
           rintro e w13 ⟨z, good, rfl, hp, hb13⟩
           have HB13 := Lib.hid (HB12.out.trans (hb13.mono HB12.out.size))
           have hib := EncPlain.int_back hp
           have HFI := Lib.hid (Format.spec_any m w13 HM.out)
           clear hb13 hp
           obtain ⟨hz, hgood⟩ := hib
           have hlen2 := hex_len s
           by_cases r1 : -1000000000 < m
           · by_cases r2 : m < 1000000000
             · have hg1 : good = true := by rw [hgood]; simp [r1, r2]
               obtain rfl := (hz hg1).symm
               subst hg1
               clear hgood hz
               go_wp2_with (go_at_call 19; refine HFI.out.mono ?_; rintro e w14 ⟨rfl, hb14⟩)
               go_ret
               exact ⟨rfl, HB13.out.trans (hb14.mono HB13.out.size)⟩
             · have r2' : decide (m < 1000000000) = false := by simpa using r2
               have hg1 : good = false := by rw [hgood]; simp [r2]
               subst hg1
               clear hgood hz
               go_wp2_with (go_at_call 19; refine HFI.out.mono ?_; rintro e w14 ⟨rfl, hb14⟩)
               go_ret
               exact ⟨rfl, HB13.out.trans (hb14.mono HB13.out.size)⟩
           · have r1' : decide (-1000000000 < m) = false := by simpa using r1
             have hg1 : good = false := by rw [hgood]; simp [r1]
             subst hg1
             clear hgood hz
             go_wp2_with (go_at_call 19; refine HFI.out.mono ?_; rintro e w14 ⟨rfl, hb14⟩)
             go_ret
             exact ⟨rfl, HB13.out.trans (hb14.mono HB13.out.size)⟩)
end Go.Proofs.YtlmaaiffmomflaaDoor.EncLaw
