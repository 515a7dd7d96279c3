
/-
  What is proved: the walk of the law FnExactReachedOf. No condition beside what each theorem states.
-/
import Derived.Test.YtjkcbeehjgikgaaReached
import Derived.Test.YtjkcbeehjgikgaaLaws3
import Derived.Test.YtjkcbeehjgikgaaLsType
import Derived.Test.YtjkcbeehjgikgaaIntRow
namespace Go.Proofs.Ytjkcbeehjgikgaa
open Go.ChangeShapes Go.WideShapes Go.ChangeAt Go.RowKit

theorem cntField_sum : ∀ l : List FieldD, (l.map cntField).sum = 3 * l.length
  | [] => rfl
  | x :: l => by rw [List.map_cons, List.sum_cons, cntField_sum l, List.length_cons]; unfold cntField; omega
theorem cntType_le : ∀ l : List TypeD, (l.map cntType).sum ≤ 5 * wtL TypeD.wt l
  | [] => by simp [wtL]
  | x :: l => by
    have h1 := cntType_le l
    have h2 : x.fFields.length ≤ x.wt := by unfold TypeD.wt wtL; omega
    unfold wtL at h1 ⊢
    rw [List.map_cons, List.sum_cons, List.map_cons, List.sum_cons, List.length_cons]
    unfold cntType at h1 ⊢
    rw [cntField_sum]
    omega
theorem fields_len {l : List TypeD} (h : ∀ t ∈ l, t.wt ≤ 1048576) : ∀ t ∈ l, t.fFields.length ≤ 1048576 := fun t ht => by
  have := h t ht
  unfold TypeD.wt wtL at this
  omega

theorem cntInt_sum : ∀ l : List Int, (l.map cntInt).sum = l.length
  | [] => rfl
  | x :: l => by rw [List.map_cons, List.sum_cons, cntInt_sum l, List.length_cons]; unfold cntInt; omega
theorem Like.above {B : Nat} {w0 w w' : World} (h : Like B w0 w) {E : Nat} (ha : Above E w w') (hE : E ≤ B) : Like B w0 w' := ⟨Nat.le_trans h.size ha.size, fun b h1 h2 => by
  obtain ⟨t, cs, hx, hc⟩ := h.box b h1 h2
  exact ⟨t, cs, hx.above ha (Nat.le_trans hE h1), hc⟩⟩

-- shell: FnExactReachedOf
set_option maxHeartbeats 4000000 in
theorem law_FnExactReachedOf (a : Option Addr) (len cap : Nat) (l : List TypeD) (a' : Option Addr) (len' cap' : Nat) (zs : List Int) (w : World) (hin : CameIn typeS TypeD.came w a len l) (hrow : RowI .i64 w a' len' cap' zs) :
    Calls Try.prog 5 #[.slice a len cap, .slice a' len' cap'] w fun e w' => e = .returned (.bool true) ∧ Below w.heap.size w w' := by
  obtain ⟨st, rfl, hst, hnums⟩ := hrow.nums
  obtain ⟨rfl, hl, hr, hc⟩ := hin
  have Hr := Lib.hid hr
  have Hc := Lib.hid hc
  have Hn := Lib.hid hnums
  clear hr hc hnums hrow
  go_enter Try.func5, Try.ntmps5
  by_cases hN : (1048576 : Int) < (st.length : Int)
  · go_wp2_with fail
    go_ret
    exact ⟨rfl, Below.refl _ _⟩
  have hN2 : st.length ≤ 1048576 := by omega
  go_wp2_with fail
  refine (lSzTypeS a cap l _ 1048576 (by omega) (by omega) hl Hc.out Hr.out).mono ?_
  rintro e w1 ⟨r, rfl, hs, hb1⟩
  have B1 := Lib.hid hb1
  clear hb1
  rcases hs with rfl | ⟨h0, h1⟩
  · go_wp2_with fail
    go_ret
    exact ⟨rfl, B1.out⟩
  have Hcnt := Lib.hid (show (l.map cntType).sum ≤ 5242880 by have := cntType_le l; omega)
  obtain ⟨hl2, hs, hm⟩ := type_wt (l := l) (by omega)
  have Hs := Lib.hid hs
  have Hm := Lib.hid hm
  have Hf := Lib.hid (fields_len hs)
  clear h1 hs hm
  go_wp2_with fail
  refine (lToTypeS a cap l _ hl2 Hs.out (Hr.out.below B1.out)).mono ?_
  rintro e w2 ⟨rfl, hr2, hb2⟩
  have R2 := Lib.hid hr2.any
  have B2 := Lib.hid (B1.out.trans (hb2.mono B1.out.size))
  clear hr2 hb2
  go_wp2_with fail
  refine (lToIntS a' cap' st _ hN2 (Hn.out.below B2.out).ints).mono ?_
  rintro e w3 ⟨rfl, hx3, hb3⟩
  have R3 := Lib.hid (R2.out.below hb3)
  have N3 := Lib.hid (Ints.ofBox hx3 (Nat.le_refl _)).nums
  have B3 := Lib.hid (B2.out.trans (hb3.mono B2.out.size))
  clear hx3 hb3
  go_wp2_with fail
  refine (sReachedOf _ _ l _ _ st _ hl2 (Nat.le_refl _) hl Hm.out hN2 R3.out N3.out).mono ?_
  rintro e w4 ⟨v0, m, rfl, hown0, hm0, hb4⟩
  obtain ⟨a0, c0, rfl, _, hn0⟩ := hown0.nums
  have N0 := Lib.hid hn0
  have M0 := Lib.hid hm0
  have hml : m.length ≤ 24 := hm0.2.2
  have B4 := Lib.hid (B3.out.trans (hb4.mono B3.out.size))
  clear hown0 hn0 hm0 hb4
  go_wp2_with fail
  refine (lToTypeSB a cap l _ hl2 Hs.out (Hr.out.below B4.out)).mono ?_
  rintro e w5 ⟨rfl, hr5, _, hcl5, hb5⟩
  have R5 := Lib.hid hr5
  have L5 := Lib.hid (Like.refl hcl5)
  have B45 := Lib.hid hb5
  have B5 := Lib.hid (B4.out.trans (hb5.mono B4.out.size))
  clear hr5 hcl5 hb5
  go_wp2_with fail
  refine (lToIntSB a' cap' st _ hN2 (Hn.out.below B5.out).ints).mono ?_
  rintro e w6 ⟨rfl, hx6, hcl6, hb6⟩
  have R6 := Lib.hid (R5.out.any.below hb6)
  have X6 := Lib.hid hx6
  have L6 := Lib.hid (Like.refl hcl6)
  have B56 := Lib.hid hb6
  have B6 := Lib.hid (B5.out.trans (hb6.mono B5.out.size))
  clear hx6 hcl6 hb6
  go_wp2_with fail
  refine (iReachedOf _ _ l _ _ st _ hl2 (Nat.le_refl _) hl Hm.out hN2 R6.out (Ints.ofBox X6.out (Nat.le_refl _)).nums).mono ?_
  rintro e w7 ⟨v1, m1, rfl, hown1, hm1, hb7⟩
  rw [hm1.eq M0.out] at hown1
  obtain ⟨a1, c1, rfl, _, _, hC1⟩ := ownC_of_row hown1
  have C1 := Lib.hid hC1
  have B67 := Lib.hid hb7
  have B7 := Lib.hid (B6.out.trans (hb7.mono B6.out.size))
  clear hown1 hm1 hC1 hb7
  have N07 := Lib.hid (N0.out.below ((B45.out.trans (B56.out.mono B45.out.size)).trans (B67.out.mono (Nat.le_trans B45.out.size B56.out.size))))
  generalize hq : reachB l st = q
  have Hq := Lib.hid hq
  clear hq
  cases q
  all_goals
    go_wp2_with fail
    refine (lEqNums _ _ _ _ m _ (by omega) (Nums.ofOwnC C1.out) N07.out).mono ?_
    rintro e w8 ⟨rfl, hb8⟩
    have B68 := Lib.hid (B67.out.trans (hb8.mono B67.out.size))
    have C8 := Lib.hid (C1.out.below hb8)
    have N08 := Lib.hid (N07.out.below hb8)
    clear hb8
    go_wp2_with fail
    refine (lToTypeS a cap l _ hl2 Hs.out (Hr.out.below (B6.out.trans (B68.out.mono B6.out.size)))).mono ?_
    rintro e w9 ⟨rfl, hr9, hb9⟩
    have R9 := Lib.hid hr9.any
    have B69 := Lib.hid (B68.out.trans (hb9.mono B68.out.size))
    have C9 := Lib.hid (C8.out.below hb9)
    have N09 := Lib.hid (N08.out.below hb9)
    clear hr9 hb9
    go_wp2_with fail
    refine (lEqTypeS _ _ _ _ l _ hl2 Hs.out (R6.out.below B69.out) R9.out).mono ?_
    rintro e w10 ⟨rfl, hb10⟩
    have B610 := Lib.hid (B69.out.trans (hb10.mono B69.out.size))
    have C10 := Lib.hid (C9.out.below hb10)
    have N010 := Lib.hid (N09.out.below hb10)
    clear hb10
    go_wp2_with fail
    refine (lToIntS a' cap' st _ hN2 (Hn.out.below (B6.out.trans (B610.out.mono B6.out.size))).ints).mono ?_
    rintro e w11 ⟨rfl, hx11, hb11⟩
    have X11 := Lib.hid (Ints.ofBox hx11 (Nat.le_refl _)).nums
    have B611 := Lib.hid (B610.out.trans (hb11.mono B610.out.size))
    have C11 := Lib.hid (C10.out.below hb11)
    have N011 := Lib.hid (N010.out.below hb11)
    clear hx11 hb11
    go_wp2_with fail
    refine (lEqNums _ _ _ _ st _ hN2 ((Ints.ofBox X6.out (Nat.le_refl _)).nums.below B611.out) X11.out).mono ?_
    rintro e w12 ⟨rfl, hb12⟩
    have B612 := Lib.hid (B611.out.trans (hb12.mono B611.out.size))
    have C12 := Lib.hid (C11.out.below hb12)
    have N012 := Lib.hid (N011.out.below hb12)
    clear hb12
    go_wp2_with fail
    refine (lLooseTypeS w4.heap.size w5 _ _ l 1 _ hl2 R5.out (by omega) (by have := Hcnt.out; omega) Hf.out (L5.out.below (B56.out.trans (B612.out.mono B56.out.size)) (Nat.le_refl _)) B45.out.size).mono ?_
    rintro e w13 ⟨k1, rfl, hk1, hm13⟩
    have hk1a : 1 ≤ k1 := by omega
    have hk1b : k1 ≤ 5242881 := by have := Hcnt.out; omega
    have M13 := Lib.hid hm13
    clear hk1 hm13
    go_wp2_with fail
    refine (lLooseIntS w5.heap.size w6 _ _ st k1 _ hN2 (rows_of_box X6.out (Nat.le_refl _) (Nat.le_refl _)) (by omega) (by rw [cntInt_sum]; omega) ?_ B56.out.size).mono ?_
    · exact (L6.out.below B612.out (Nat.le_refl _)).above M13.out.above (Nat.le_refl _)
    rintro e w14 ⟨k2, rfl, hk2, hm14⟩
    rw [cntInt_sum] at hk2
    have hk2a : 1 ≤ k2 := by omega
    have hk2b : k2 ≤ 10000000 := by omega
    have M14 := Lib.hid hm14
    clear hk2 hm14
    have C14 := Lib.hid ((C12.out.above M13.out.above B56.out.size).above M14.out.above (Nat.le_refl _))
    have D0 := Lib.hid ((B45.out.trans (B56.out.mono B45.out.size)).trans ((B612.out.mono (Nat.le_trans B45.out.size B56.out.size)).trans (M13.out.below.trans (M14.out.below.mono B45.out.size))))
    have N014 := Lib.hid (N0.out.below D0.out)
    go_wp2_with fail
    refine (lEqNums _ _ _ _ m _ (by omega) (Nums.ofOwnC C14.out) N014.out).mono ?_
    rintro e w15 ⟨rfl, hb15⟩
    have C15 := Lib.hid (C14.out.below hb15)
    have D1 := Lib.hid (D0.out.trans (hb15.mono D0.out.size))
    have h615 : w6.heap.size ≤ w15.heap.size := Nat.le_trans B612.out.size (Nat.le_trans M13.out.below.size (Nat.le_trans M14.out.below.size hb15.size))
    clear hb15
    go_wp2_with fail
    refine (lMarkInts w6.heap.size _ _ m 1 _ C15.out h615 (by omega) (by omega) (by omega)).mono ?_
    rintro e w16 ⟨rfl, hr16, hb16⟩
    have Q16 := Lib.hid hr16
    have D2 := Lib.hid (D1.out.trans (hb16.mono (Nat.le_trans B45.out.size B56.out.size)))
    clear hr16 hb16
    go_wp2_with fail
    refine (lHeldIntS _ _ m.length 1 _ (by omega) (by omega) (by omega) Q16.out).mono ?_
    rintro e w17 ⟨rfl, hb17⟩
    have Q17 := Lib.hid (Q16.out.below hb17)
    have D3 := Lib.hid (D2.out.trans (hb17.mono D2.out.size))
    clear hb17
    have hp : ¬ (1 + (m.length : Int) < 0) := by omega
    go_wp2_with fail
    refine (lToTypeS a cap l _ hl2 Hs.out (Hr.out.below (B4.out.trans (D3.out.mono B4.out.size)))).mono ?_
    rintro e w18 ⟨rfl, hr18, hb18⟩
    have R18 := Lib.hid hr18.any
    have Q18 := Lib.hid (Q17.out.below hb18)
    have D4 := Lib.hid (D3.out.trans (hb18.mono D3.out.size))
    clear hr18 hb18
    go_wp2_with fail
    refine (lToIntS a' cap' st _ hN2 (Hn.out.below (B4.out.trans (D4.out.mono B4.out.size))).ints).mono ?_
    rintro e w19 ⟨rfl, hx19, hb19⟩
    have X19 := Lib.hid (Ints.ofBox hx19 (Nat.le_refl _)).nums
    have R19 := Lib.hid (R18.out.below hb19)
    have Q19 := Lib.hid (Q18.out.below hb19)
    have D5 := Lib.hid (D4.out.trans (hb19.mono D4.out.size))
    clear hx19 hb19
    go_wp2_with fail
    refine (iReachedOf _ _ l _ _ st _ hl2 (Nat.le_refl _) hl Hm.out hN2 R19.out X19.out).mono ?_
    rintro e w20 ⟨v2, m2, rfl, hown2, hm2, hb20⟩
    rw [hm2.eq M0.out] at hown2
    rw [Hq.out]
    obtain ⟨a2, c2, rfl, _, hn2⟩ := hown2.nums
    have N2 := Lib.hid hn2
    have Q20 := Lib.hid (Q19.out.below hb20)
    have D6 := Lib.hid (D5.out.trans (hb20.mono D5.out.size))
    clear hown2 hm2 hn2 hb20
    go_wp2_with fail
    refine (lEqNums _ _ _ _ m _ (by omega) N2.out (N0.out.below D6.out)).mono ?_
    rintro e w21 ⟨rfl, hb21⟩
    have Q21 := Lib.hid (Q20.out.below hb21)
    have D7 := Lib.hid (D6.out.trans (hb21.mono D6.out.size))
    clear hb21
    go_wp2_with fail
    refine (lHeldIntS _ _ m.length 1 _ (by omega) (by omega) (by omega) Q21.out).mono ?_
    rintro e w22 ⟨rfl, hb22⟩
    have D8 := Lib.hid (D7.out.trans (hb22.mono D7.out.size))
    clear hb22
    go_wp2_with fail
    go_ret
    exact ⟨rfl, B4.out.trans (D8.out.mono B4.out.size)⟩
end Go.Proofs.Ytjkcbeehjgikgaa
