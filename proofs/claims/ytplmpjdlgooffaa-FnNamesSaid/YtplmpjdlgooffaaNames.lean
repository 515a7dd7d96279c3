/-
  What is proved: the walk of the law FnNames. No condition beside what each theorem states.
-/
import Derived.Test.YtplmpjdlgooffaaMixes
import Derived.Test.YtplmpjdlgooffaaDrawStr
import Derived.Test.YtplmpjdlgooffaaReadName2
namespace Go.Proofs.Ytplmpjdlgooffaa
open Go.ChangeShapes Go.WideShapes Go.ChangeAt Go.RowKit

theorem ext_app (x s : ByteArray) : (x ++ s).extract x.size (x.size + s.size) = s := by
  apply ByteArray.ext
  rw [ByteArray.data_extract, ByteArray.data_append]
  show (x.data ++ s.data).extract x.data.size (x.data.size + s.data.size) = s.data
  rw [Array.extract_append, Array.extract_eq_empty_of_le (Nat.min_le_right _ _), Nat.sub_self, Nat.add_sub_cancel_left, Array.extract_size, Array.empty_append]

theorem byteAt_list (s : ByteArray) (k : Nat) : byteAt s k = (s.data.toList[k]?.map fun c => (c.toNat : Int)).getD 0 := by
  unfold byteAt
  by_cases h : k < s.size
  · rw [dif_pos h, List.getElem?_eq_getElem (by simpa using h)]
    rfl
  · rw [dif_neg h, List.getElem?_eq_none (by simpa using h)]
    rfl

theorem byteAt_app (x s : ByteArray) (i : Nat) : byteAt (x ++ s) (x.size + i) = byteAt s i := by
  rw [byteAt_list, byteAt_list, ByteArray.data_append, Array.toList_append, List.getElem?_append_right (by simp)]
  simp

/-- The bytes of a name behind one byte. -/
def zName (s : ByteArray) : ByteArray := ⟨#[122]⟩ ++ nbytes s

theorem zName_is {s : ByteArray} (h : nameP s) : isNameAt (zName s) 1 s (s.size + 2) ∧ (zName s).size ≤ 3000 ∧ (zName s).size = s.size + 2 := by
  have hz : (zName s).size = s.size + 2 := by unfold zName; rw [ByteArray.size_append, nbytes_size]; show 1 + _ = _; omega
  have h10 := h.2.1
  refine ⟨⟨s.size, by omega, ?_, by omega, ?_, h, by omega⟩, by omega, hz⟩
  · have := byteAt_app ⟨#[122]⟩ (nbytes s) 0
    rw [show (ByteArray.mk #[122]).size + 0 = 1 from rfl] at this
    show byteAt (⟨#[122]⟩ ++ nbytes s) 1 = _
    rw [this, byteAt_list]
    unfold nbytes
    rw [ByteArray.data_append, Array.toList_append, strOfNums_data]
    simp
    omega
  · have e : zName s = (⟨#[122]⟩ ++ strOfNums [(s.size : Int)]) ++ s := by
      apply ByteArray.ext
      unfold zName nbytes
      simp [ByteArray.data_append]
    have hx : (⟨#[122]⟩ ++ strOfNums [(s.size : Int)] : ByteArray).size = 2 := by rw [ByteArray.size_append, strOfNums_size]; rfl
    have := ext_app (⟨#[122]⟩ ++ strOfNums [(s.size : Int)]) s
    rw [hx] at this
    rw [e, show 1 + 1 = 2 from rfl]
    exact this.symm

-- shell: FnNames
set_option maxRecDepth 100000 in
set_option maxHeartbeats 4000000 in
theorem law_FnNames (a : Option Addr) (len cap : Nat) (zs : List Int) (a' : Option Addr) (len' cap' : Nat) (zs' : List Int) (w : World) (h : RowIn .u8 w a len cap zs) (h' : RowIn .u8 w a' len' cap' zs') :
    Calls Try.prog 4 #[.slice a len cap, .slice a' len' cap'] w fun e w' => e = .returned (.bool true) ∧ Below w.heap.size w w' := by
  by_cases hbig : 1048576 < len + len'
  · have l1 := h.len
    clear h h'
    go_enter Try.func4, Try.ntmps4
    go_wp2_with (go_at_call 15; refine (lBig_yes _ _ _ _ _ _ _ hbig l1).mono ?_; rintro e w' ⟨rfl, rfl⟩)
    go_ret
    exact ⟨rfl, Below.refl _ _⟩
  · have H := Lib.hid (h.code (by omega))
    have Hcode0 := Lib.hid (h'.code (by omega))
    clear h h'
    go_enter Try.func4, Try.ntmps4
    go_wp2_with (go_at_call 15; refine (lBig_no _ _ _ _ _ _ _ (by omega)).mono ?_; rintro e w' ⟨rfl, rfl⟩)
    refine (dNameBytes a len cap _ H.out).mono ?_
    rintro e w1 ⟨s, hs, rfl, hb1⟩
    have Hb1 := Lib.hid hb1
    have hs2 : s.size ≤ maxLen := by unfold maxLen; omega
    clear hb1 H
    by_cases hn : nameP s
    · obtain ⟨hz1, hz2, hz3⟩ := zName_is hn
      obtain ⟨n, q1, q2, q3, q4, q5, q6⟩ := hz1
      have Hz := Lib.hid (fun W => iReadName_yes (zName s) 1 n W hz2 q1 q2 q3 (q4 ▸ q5))
      rw [← q4, ← q6] at Hz
      have hnb := nameB_true hn
      have hcs : ¬ 9223372036854775807 < (ByteArray.mk #[122]).size + (nbytes s).size := by rw [nbytes_size]; show ¬ _ < 1 + _; omega
      have Hs2 := Lib.hid (nbytes_size s)
      clear q1 q2 q3 q4 q5 q6 hz2 hz3
      go_wp2_with fail
      refine (iNameBytes_yes _ _ hs2 hn).mono ?_
      rintro e w2 ⟨rfl, hb2⟩
      have Hb2 := Lib.hid (Hb1.out.trans (hb2.mono Hb1.out.size))
      clear hb2
      go_wp2_with fail
      refine (sNameBytes_yes _ _ hs2 hn).mono ?_
      rintro e w3 ⟨rfl, hb3⟩
      have Hb3 := Lib.hid (Hb2.out.trans (hb3.mono Hb2.out.size))
      clear hb3
      go_wp2_with fail
      refine (iGoodName _ _ hs2).mono ?_
      rintro e w' ⟨rfl, rfl⟩
      go_wp2_with fail
      refine (Hz.out _).mono ?_
      rintro e w35 ⟨rfl, hb35⟩
      have Hb35 := Lib.hid (Hb3.out.trans (hb35.mono Hb3.out.size))
      clear hb35 Hb3
      have Hb3 := Hb35
      clear Hb35
      have Hcode := Lib.hid (Hcode0.out.below Hb3.out)
      have hnb2 : (nbytes s).size ≤ 12 := by rw [Hs2.out]; omega
      have heq : ((s.size : Int) + 2 != ((nbytes s).size : Int) + 1) = false := by rw [Hs2.out, bne_eq_false_iff_eq]; omega
      go_wp2_with fail
      refine (dReadName a' len' cap' _ Hcode.out).mono ?_
      rintro e w4 ⟨c, p, hcs, rfl, hb4⟩
      obtain ⟨x, m, ok, hS, hI⟩ := readName_both c p
      have HS := Lib.hid hS
      have HI := Lib.hid hI
      have Hb4 := Lib.hid (Hb3.out.trans (hb4.mono Hb3.out.size))
      clear hS hI hb4
      go_wp2_with fail
      refine (HI.out _).mono ?_
      rintro e w5 ⟨rfl, hb5⟩
      have Hb5 := Lib.hid (Hb4.out.trans (hb5.mono Hb4.out.size))
      clear hb5
      go_wp2_with fail
      refine (HS.out _).mono ?_
      rintro e w6 ⟨rfl, hb6⟩
      have Hb6 := Lib.hid (Hb5.out.trans (hb6.mono Hb5.out.size))
      clear hb6
      have Hcode6 := Lib.hid (Hcode0.out.below Hb6.out)
      go_wp2_with fail
      refine (dGoodName a' len' cap' _ Hcode6.out).mono ?_
      rintro e w7 ⟨q, hq, rfl, hb7⟩
      have Hb7 := Lib.hid (Hb6.out.trans (hb7.mono Hb6.out.size))
      have hq2 : q.size ≤ maxLen := by unfold maxLen; omega
      clear hb7
      go_wp2_with (first | (go_at_call 31; refine (iGoodName _ _ hq2).mono ?_; rintro e w' ⟨rfl, rfl⟩) | (go_at_call 36; refine (sGoodName _ _ hq2).mono ?_; rintro e w' ⟨rfl, rfl⟩))
      go_ret
      exact ⟨by simp, Hb7.out⟩
    · have hnb := nameB_false hn
      go_wp2_with fail
      refine (iNameBytes_no _ _ hs2 hnb).mono ?_
      rintro e w2 ⟨rfl, rfl⟩
      go_wp2_with fail
      refine (sNameBytes_no _ _ hs2 hnb).mono ?_
      rintro e w2 ⟨rfl, rfl⟩
      go_wp2_with fail
      refine (iGoodName _ _ hs2).mono ?_
      rintro e w' ⟨rfl, rfl⟩
      have Hb3 := Hb1
      have Hcode := Lib.hid (Hcode0.out.below Hb3.out)
      go_wp2_with fail
      refine (dReadName a' len' cap' _ Hcode.out).mono ?_
      rintro e w4 ⟨c, p, hcs, rfl, hb4⟩
      obtain ⟨x, m, ok, hS, hI⟩ := readName_both c p
      have HS := Lib.hid hS
      have HI := Lib.hid hI
      have Hb4 := Lib.hid (Hb3.out.trans (hb4.mono Hb3.out.size))
      clear hS hI hb4
      go_wp2_with fail
      refine (HI.out _).mono ?_
      rintro e w5 ⟨rfl, hb5⟩
      have Hb5 := Lib.hid (Hb4.out.trans (hb5.mono Hb4.out.size))
      clear hb5
      go_wp2_with fail
      refine (HS.out _).mono ?_
      rintro e w6 ⟨rfl, hb6⟩
      have Hb6 := Lib.hid (Hb5.out.trans (hb6.mono Hb5.out.size))
      clear hb6
      have Hcode6 := Lib.hid (Hcode0.out.below Hb6.out)
      go_wp2_with fail
      refine (dGoodName a' len' cap' _ Hcode6.out).mono ?_
      rintro e w7 ⟨q, hq, rfl, hb7⟩
      have Hb7 := Lib.hid (Hb6.out.trans (hb7.mono Hb6.out.size))
      have hq2 : q.size ≤ maxLen := by unfold maxLen; omega
      clear hb7
      go_wp2_with (first | (go_at_call 31; refine (iGoodName _ _ hq2).mono ?_; rintro e w' ⟨rfl, rfl⟩) | (go_at_call 36; refine (sGoodName _ _ hq2).mono ?_; rintro e w' ⟨rfl, rfl⟩))
      go_ret
      exact ⟨by simp, Hb7.out⟩

end Go.Proofs.Ytplmpjdlgooffaa
