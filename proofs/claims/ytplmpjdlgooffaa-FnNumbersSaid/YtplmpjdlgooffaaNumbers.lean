/-
  What is proved: the walk of the law FnNumbers. No condition beside what each theorem states.
-/
import Derived.Test.YtplmpjdlgooffaaNames
import Derived.Test.YtplmpjdlgooffaaSNum2
namespace Go.Proofs.Ytplmpjdlgooffaa
open Go.ChangeShapes Go.WideShapes Go.ChangeAt Go.RowKit

theorem byteAt_nums (l : List Int) (i : Nat) (hl : ∀ c ∈ l, 0 ≤ c ∧ c < 256) : byteAt (strOfNums l) i = l.getD i 0 := by
  rw [byteAt_list, strOfNums_data]
  simp only [List.getElem?_map, List.getD]
  cases h : l[i]? with
  | none => rfl
  | some c =>
    have := hl c (List.mem_of_getElem? h)
    simp
    omega

theorem byteAt_left (x s : ByteArray) (i : Nat) (hi : i < x.size) : byteAt (x ++ s) i = byteAt x i := by
  rw [byteAt_list, byteAt_list, ByteArray.data_append, Array.toList_append, List.getElem?_append_left (by simpa using hi)]

theorem term_get : ∀ (l : List Int), Term l → (∀ i, i + 1 < l.length → 128 ≤ l.getD i 0) ∧ l.getD (l.length - 1) 0 < 128
  | [], h => h.elim
  | c :: l, h => by
    rcases h with ⟨rfl, h1, h2⟩ | ⟨h1, h2, h3⟩
    · exact ⟨fun i hi => by simp at hi, h2⟩
    · obtain ⟨a1, a2⟩ := term_get l h3
      have hpos : 0 < l.length := by
        cases l with
        | nil => exact h3.elim
        | cons => simp
      refine ⟨fun i hi => ?_, ?_⟩
      · cases i with
        | zero => exact h1
        | succ i => simp only [List.getD_cons_succ]; exact a1 i (by simpa using hi)
      · rw [show (c :: l).length - 1 = (l.length - 1) + 1 by simp; omega, List.getD_cons_succ]
        exact a2

/-- A number's bytes between two others. -/
def zNum (l : List Int) : ByteArray := ⟨#[122]⟩ ++ strOfNums l ++ ⟨#[121]⟩

theorem zNum_size (l : List Int) : (zNum l).size = l.length + 2 := by unfold zNum; rw [ByteArray.size_append, ByteArray.size_append, strOfNums_size]; show 1 + _ + 1 = _; omega

theorem zNum_at (l : List Int) (hl : ∀ c ∈ l, 0 ≤ c ∧ c < 256) (i : Nat) (hi : i < l.length) : byteAt (zNum l) (1 + i) = l.getD i 0 := by
  unfold zNum
  rw [byteAt_left _ _ _ (by rw [ByteArray.size_append, strOfNums_size]; show _ < 1 + _; omega)]
  have := byteAt_app ⟨#[122]⟩ (strOfNums l) i
  rw [show (ByteArray.mk #[122]).size = 1 from rfl] at this
  rw [this, byteAt_nums l i hl]

theorem zNum_stops (n : Nat) (h : n ≤ 2000000000) : ∃ j, stops (zNum (vb n)) 1 j ∧ taken (zNum (vb n)) 1 (j + 1) = vb n ∧ j + 1 = (vb n).length := by
  have ht := vb_term n
  have hb := term_bd ht
  have hlen := vb_len 4 n (by omega)
  have hpos : 0 < (vb n).length := by
    generalize vb n = l at *
    cases l with
    | nil => exact ht.elim
    | cons => simp
  obtain ⟨g1, g2⟩ := term_get _ ht
  refine ⟨(vb n).length - 1, ⟨by rw [zNum_size]; omega, by omega, fun i hi => ?_, ?_⟩, ?_, by omega⟩
  · rw [zNum_at _ hb i (by omega)]; exact g1 i (by omega)
  · rw [zNum_at _ hb _ (by omega)]; exact g2
  · rw [show (vb n).length - 1 + 1 = (vb n).length by omega]
    apply List.ext_getElem?
    intro i
    by_cases hi : i < (vb n).length
    · unfold taken
      rw [List.getElem?_map, List.getElem?_range hi]
      simp only [Option.map_some]
      rw [zNum_at _ hb i hi]
      simp [List.getD, hi]
    · rw [List.getElem?_eq_none (by rw [taken_len]; omega), List.getElem?_eq_none (by omega)]

theorem fold_both (f : Int) : ∃ (x : Int) (ok : Bool),
    (∀ w : World, Calls Try.prog 24 #[.int .i64 f] w fun e w' => e = .returned (.tuple #[.int .i64 x, .bool ok]) ∧ w = w') ∧
    (∀ w : World, Calls Try.prog 23 #[.int .i64 f] w fun e w' => e = .returned (.tuple #[.int .i64 x, .bool ok]) ∧ w = w') ∧ (ok = true → 0 ≤ x ∧ x ≤ 2000000000 ∧ openZ x = f) := by
  by_cases h : -1000000000 ≤ f ∧ f ≤ 1000000000
  · exact ⟨foldZ f, true, fun w => sFold_in f w h.1 h.2, fun w => iFold_in f w h.1 h.2, fun _ => ⟨(foldZ_bd h.1 h.2).1, (foldZ_bd h.1 h.2).2, openZ_foldZ f⟩⟩
  · exact ⟨0, false, fun w => sFold_out f w (by omega), fun w => iFold_out f w (by omega), (fun h => by cases h)⟩

theorem open_both (f : Int) : ∃ (x : Int) (ok : Bool),
    (∀ w : World, Calls Try.prog 27 #[.int .i64 f] w fun e w' => e = .returned (.tuple #[.int .i64 x, .bool ok]) ∧ w = w') ∧
    (∀ w : World, Calls Try.prog 26 #[.int .i64 f] w fun e w' => e = .returned (.tuple #[.int .i64 x, .bool ok]) ∧ w = w') := by
  by_cases h : 0 ≤ f ∧ f ≤ 2000000000
  · exact ⟨openZ f, true, fun w => sOpen_in f w h.1 h.2, fun w => iOpen_in f w h.1 h.2⟩
  · exact ⟨0, false, fun w => sOpen_out f w (by omega), fun w => iOpen_out f w (by omega)⟩

-- shell: FnNumbers
set_option maxRecDepth 100000 in
set_option maxHeartbeats 4000000 in
theorem law_FnNumbers (a : Option Addr) (len cap : Nat) (zs : List Int) (a' : Option Addr) (len' cap' : Nat) (zs' : List Int) (w : World) (h : RowIn .u8 w a len cap zs) (h' : RowIn .u8 w a' len' cap' zs') :
    Calls Try.prog 3 #[.slice a len cap, .slice a' len' cap'] w fun e w' => e = .returned (.bool true) ∧ Below w.heap.size w w' := by
  by_cases hbig : 1048576 < len + len'
  · have l1 := h.len
    clear h h'
    go_enter Try.func3, Try.ntmps3
    go_wp2_with (go_at_call 15; refine (lBig_yes _ _ _ _ _ _ _ hbig l1).mono ?_; rintro e w' ⟨rfl, rfl⟩)
    go_ret
    exact ⟨rfl, Below.refl _ _⟩
  · have H := Lib.hid (h.code (by omega))
    have Hcode0 := Lib.hid (h'.code (by omega))
    clear h h'
    go_enter Try.func3, Try.ntmps3
    go_wp2_with (go_at_call 15; refine (lBig_no _ _ _ _ _ _ _ (by omega)).mono ?_; rintro e w' ⟨rfl, rfl⟩)
    refine (dNumBytes a len cap _ H.out).mono ?_
    rintro e w1 ⟨n, hn0, rfl, hb1⟩
    have Hb1 := Lib.hid hb1
    clear hb1 H hn0
    by_cases hn : -1000000000 ≤ n ∧ n ≤ 1000000000
    · obtain ⟨N, hN⟩ := Int.eq_ofNat_of_zero_le (foldZ_bd hn.1 hn.2).1
      have hN2 : N ≤ 2000000000 := by have := foldZ_bd hn.1 hn.2; omega
      obtain ⟨j, q1, q2, q3⟩ := zNum_stops N hN2
      have Hz := Lib.hid (fun W => iReadNum_in (zNum (vb N)) 1 j N W (by rw [zNum_size]; have := vb_len 4 N (by omega); omega) (by rw [zNum_size]; omega) q1 (by rw [q2, val_vb]) hN2 true ⟨fun _ => q2, fun _ => rfl⟩)
      have HN := Lib.hid hN
      have hop : openZ N = n := by have := openZ_foldZ n; rwa [hN] at this
      have hss := strOfNums_size (vb N)
      have hln := vb_len 4 N (by omega)
      simp only [if_true] at Hz
      rw [hop, q3, ← hss] at Hz
      have hz1 : ¬ 9223372036854775807 < (ByteArray.mk #[122]).size + (strOfNums (vb N)).size := by show ¬ _ < 1 + _; omega
      have hz2 : ¬ 9223372036854775807 < (⟨#[122]⟩ ++ strOfNums (vb N) : ByteArray).size + (ByteArray.mk #[121]).size := by rw [ByteArray.size_append]; show ¬ _ < 1 + _ + 1; omega
      have hs5 : (strOfNums (vb N)).size ≤ 5 := by omega
      unfold zNum at Hz
      have HI0 := Lib.hid (fun W => iNumBytes_in n N W hn.1 hn.2 HN.out)
      have HS0 := Lib.hid (fun W => sNumBytes_in n N W hn.1 hn.2 HN.out)
      generalize strOfNums (vb N) = t at *
      have heq : ((1 : Int) + (t.size : Int) != (t.size : Int) + 1) = false := by rw [bne_eq_false_iff_eq]; omega
      clear q1 q2 q3 hN hop hss hln
      go_wp2_with fail
      refine (HI0.out _).mono ?_
      rintro e w2 ⟨rfl, hb2⟩
      have Hb2 := Lib.hid (Hb1.out.trans (hb2.mono Hb1.out.size))
      clear hb2
      go_wp2_with fail
      refine (HS0.out _).mono ?_
      rintro e w25 ⟨rfl, hb25⟩
      have Hb25 := Lib.hid (Hb2.out.trans (hb25.mono Hb2.out.size))
      clear hb25
      go_wp2_with fail
      refine (Hz.out _).mono ?_
      rintro e w3 ⟨rfl, hb3⟩
      have Hb3 := Lib.hid (Hb25.out.trans (hb3.mono Hb25.out.size))
      clear hb3
      have Hcode := Lib.hid (Hcode0.out.below Hb3.out)
      go_wp2_with fail
      refine (dReadNum a' len' cap' _ Hcode.out).mono ?_
      rintro e w4 ⟨c, p, hcs, rfl, hb4⟩
      obtain ⟨x, m, ok, hS, hI⟩ := readNum_both c p
      have HS := Lib.hid hS
      have HI := Lib.hid hI
      have Hb4 := Lib.hid (Hb3.out.trans (hb4.mono Hb3.out.size))
      clear hS hI hb4
      go_wp2_with fail
      refine (HI.out _).mono ?_
      rintro e w5 ⟨rfl, hb5⟩
      have Hb5 := Lib.hid (Hb4.out.trans (hb5.mono Hb4.out.size))
      clear hb5
      go_wp2_with fail
      refine (HS.out _).mono ?_
      rintro e w6 ⟨rfl, hb6⟩
      have Hb6 := Lib.hid (Hb5.out.trans (hb6.mono Hb5.out.size))
      clear hb6
      have Hcode6 := Lib.hid (Hcode0.out.below Hb6.out)
      go_wp2_with fail
      refine (dFoldSign a' len' cap' _ Hcode6.out).mono ?_
      rintro e w7 ⟨f, hf, rfl, hb7⟩
      have Hb7 := Lib.hid (Hb6.out.trans (hb7.mono Hb6.out.size))
      obtain ⟨y, ok2, hS2, hI2, hy⟩ := fold_both f
      have HS2 := Lib.hid hS2
      have HI2 := Lib.hid hI2
      have Hy := Lib.hid hy
      clear hb7 hS2 hI2 hy
      go_wp2_with fail
      refine (HI2.out _).mono ?_
      rintro e w' ⟨rfl, rfl⟩
      go_wp2_with fail
      refine (HS2.out _).mono ?_
      rintro e w' ⟨rfl, rfl⟩
      have Hcode7 := Lib.hid (Hcode0.out.below Hb7.out)
      go_wp2_with fail
      refine (dOpenSign a' len' cap' _ Hcode7.out).mono ?_
      rintro e w8 ⟨o, ho, rfl, hb8⟩
      have Hb8 := Lib.hid (Hb7.out.trans (hb8.mono Hb7.out.size))
      obtain ⟨z, ok3, hS3, hI3⟩ := open_both o
      have HS3 := Lib.hid hS3
      have HI3 := Lib.hid hI3
      clear hb8 hS3 hI3
      go_wp2_with fail
      refine (HI3.out _).mono ?_
      rintro e w' ⟨rfl, rfl⟩
      go_wp2_with fail
      refine (HS3.out _).mono ?_
      rintro e w' ⟨rfl, rfl⟩
      cases ok2
      · go_wp2_with fail
        go_ret
        exact ⟨rfl, Hb8.out⟩
      · obtain ⟨y0, y1, rfl⟩ := Hy.out rfl
        have d0 : decide (0 ≤ y) = true := by simpa using y0
        go_wp2_with (go_at_call 26; refine (iOpen_in _ _ y0 y1).mono ?_; rintro e w' ⟨rfl, rfl⟩)
        go_ret
        exact ⟨by simp, Hb8.out⟩
    · have hn' : n < -1000000000 ∨ 1000000000 < n := by omega
      go_wp2_with fail
      refine (iNumBytes_out n _ hn').mono ?_
      rintro e w2 ⟨rfl, hb2⟩
      have Hb2 := Lib.hid (Hb1.out.trans (hb2.mono Hb1.out.size))
      clear hb2
      go_wp2_with fail
      refine (sNumBytes_out n _ hn').mono ?_
      rintro e w3 ⟨rfl, hb3⟩
      have Hb3 := Lib.hid (Hb2.out.trans (hb3.mono Hb2.out.size))
      clear hb3
      have Hcode := Lib.hid (Hcode0.out.below Hb3.out)
      go_wp2_with fail
      refine (dReadNum a' len' cap' _ Hcode.out).mono ?_
      rintro e w4 ⟨c, p, hcs, rfl, hb4⟩
      obtain ⟨x, m, ok, hS, hI⟩ := readNum_both c p
      have HS := Lib.hid hS
      have HI := Lib.hid hI
      have Hb4 := Lib.hid (Hb3.out.trans (hb4.mono Hb3.out.size))
      clear hS hI hb4
      go_wp2_with fail
      refine (HI.out _).mono ?_
      rintro e w5 ⟨rfl, hb5⟩
      have Hb5 := Lib.hid (Hb4.out.trans (hb5.mono Hb4.out.size))
      clear hb5
      go_wp2_with fail
      refine (HS.out _).mono ?_
      rintro e w6 ⟨rfl, hb6⟩
      have Hb6 := Lib.hid (Hb5.out.trans (hb6.mono Hb5.out.size))
      clear hb6
      have Hcode6 := Lib.hid (Hcode0.out.below Hb6.out)
      go_wp2_with fail
      refine (dFoldSign a' len' cap' _ Hcode6.out).mono ?_
      rintro e w7 ⟨f, hf, rfl, hb7⟩
      have Hb7 := Lib.hid (Hb6.out.trans (hb7.mono Hb6.out.size))
      obtain ⟨y, ok2, hS2, hI2, hy⟩ := fold_both f
      have HS2 := Lib.hid hS2
      have HI2 := Lib.hid hI2
      have Hy := Lib.hid hy
      clear hb7 hS2 hI2 hy
      go_wp2_with fail
      refine (HI2.out _).mono ?_
      rintro e w' ⟨rfl, rfl⟩
      go_wp2_with fail
      refine (HS2.out _).mono ?_
      rintro e w' ⟨rfl, rfl⟩
      have Hcode7 := Lib.hid (Hcode0.out.below Hb7.out)
      go_wp2_with fail
      refine (dOpenSign a' len' cap' _ Hcode7.out).mono ?_
      rintro e w8 ⟨o, ho, rfl, hb8⟩
      have Hb8 := Lib.hid (Hb7.out.trans (hb8.mono Hb7.out.size))
      obtain ⟨z, ok3, hS3, hI3⟩ := open_both o
      have HS3 := Lib.hid hS3
      have HI3 := Lib.hid hI3
      clear hb8 hS3 hI3
      go_wp2_with fail
      refine (HI3.out _).mono ?_
      rintro e w' ⟨rfl, rfl⟩
      go_wp2_with fail
      refine (HS3.out _).mono ?_
      rintro e w' ⟨rfl, rfl⟩
      cases ok2
      · go_wp2_with fail
        go_ret
        exact ⟨rfl, Hb8.out⟩
      · obtain ⟨y0, y1, rfl⟩ := Hy.out rfl
        have d0 : decide (0 ≤ y) = true := by simpa using y0
        go_wp2_with (go_at_call 26; refine (iOpen_in _ _ y0 y1).mono ?_; rintro e w' ⟨rfl, rfl⟩)
        go_ret
        exact ⟨by simp, Hb8.out⟩

end Go.Proofs.Ytplmpjdlgooffaa
