
/-
  What is proved: the walk of the law FnExactRoundFingers. No condition beside what each theorem states.
-/
import Derived.Test.YtfkfhflkcdhhmaaRounds
import Derived.Test.YtfkfhflkcdhhmaaLaws3
import Derived.Test.YtfkfhflkcdhhmaaLsType
import Derived.Test.YtfkfhflkcdhhmaaIntRow
namespace Go.Proofs.Ytfkfhflkcdhhmaa
open Go.ChangeShapes Go.WideShapes Go.ChangeAt Go.RowKit

-- shell: FnExactRoundFingers
set_option maxHeartbeats 4000000 in
theorem law_FnExactRoundFingers (a : Option Addr) (len cap : Nat) (l : List TypeD) (x : Int) (w : World) (hin : CameIn typeS TypeD.came w a len l) (_ : (Lit.int .i64 x).wf = true) :
    Calls Try.prog 9 #[.slice a len cap, .int .i64 x] w fun e w' => e = .returned (.bool true) ∧ Below w.heap.size w w' := by
  obtain ⟨rfl, hl, hr, hc⟩ := hin
  have Hr := Lib.hid hr
  have Hc := Lib.hid hc
  obtain ⟨m, q, ha⟩ := rfAns_ex l x
  have hml := rfAns_len ha
  have Ha := Lib.hid ha
  clear hr hc ha
  go_enter Try.func9, Try.ntmps9
  go_wp2_with fail
  refine (lSzTypeS a cap l _ 1048576 (by omega) (by omega) hl Hc.out Hr.out).mono ?_
  rintro e w1 ⟨r, rfl, hs, hb1⟩
  have B1 := Lib.hid hb1
  clear hb1
  rcases hs with rfl | ⟨h0, h1⟩
  · go_wp2_with fail
    go_ret
    exact ⟨rfl, B1.out⟩
  have Hcnt := Lib.hid (show (l.map cntType).sum ≤ 5242880 by have := cntType_le l; omega)
  obtain ⟨hl2, hs, hm⟩ := type_wt (l := l) (by omega)
  have Hs := Lib.hid hs
  have Hm := Lib.hid hm
  have Hf := Lib.hid (fields_len hs)
  clear h1 hs hm
  go_wp2_with fail
  refine (lToTypeS a cap l _ hl2 Hs.out (Hr.out.below B1.out)).mono ?_
  rintro e w2 ⟨rfl, hr2, hb2⟩
  have R2 := Lib.hid hr2.any
  have B2 := Lib.hid (B1.out.trans (hb2.mono B1.out.size))
  clear hr2 hb2
  go_wp2_with fail
  refine (sRoundFingers _ _ l x m q _ Ha.out hl2 (Nat.le_refl _) hl Hm.out R2.out).mono ?_
  rintro e w4 ⟨v0, rfl, hown0, hb4⟩
  obtain ⟨a0, c0, rfl, _, hn0⟩ := hown0.nums
  have N0 := Lib.hid hn0
  have B4 := Lib.hid (B2.out.trans (hb4.mono B2.out.size))
  clear hown0 hn0 hb4
  go_wp2_with fail
  refine (lToTypeSB a cap l _ hl2 Hs.out (Hr.out.below B4.out)).mono ?_
  rintro e w5 ⟨rfl, hr5, _, hcl5, hb5⟩
  have R5 := Lib.hid hr5
  have L5 := Lib.hid (Like.refl hcl5)
  have B45 := Lib.hid hb5
  have B5 := Lib.hid (B4.out.trans (hb5.mono B4.out.size))
  clear hr5 hcl5 hb5
  go_wp2_with fail
  refine (iRoundFingers _ _ l x m q _ Ha.out hl2 (Nat.le_refl _) hl Hm.out R5.out.any).mono ?_
  rintro e w7 ⟨v1, rfl, hown1, hb7⟩
  obtain ⟨a1, c1, rfl, _, _, hC1⟩ := ownC_of_row hown1
  have C1 := Lib.hid hC1
  have B57 := Lib.hid hb7
  have B7 := Lib.hid (B5.out.trans (hb7.mono B5.out.size))
  clear hown1 hC1 hb7
  have N07 := Lib.hid (N0.out.below (B45.out.trans (B57.out.mono B45.out.size)))
  have Ha2 := Ha
  clear Ha
  cases q
  all_goals
    go_wp2_with fail
    refine (lEqNums _ _ _ _ m _ (by omega) (Nums.ofOwnC C1.out) N07.out).mono ?_
    rintro e w8 ⟨rfl, hb8⟩
    have B58 := Lib.hid (B57.out.trans (hb8.mono B57.out.size))
    have C8 := Lib.hid (C1.out.below hb8)
    have N08 := Lib.hid (N07.out.below hb8)
    clear hb8
    go_wp2_with fail
    refine (lToTypeS a cap l _ hl2 Hs.out (Hr.out.below (B5.out.trans (B58.out.mono B5.out.size)))).mono ?_
    rintro e w9 ⟨rfl, hr9, hb9⟩
    have R9 := Lib.hid hr9.any
    have B59 := Lib.hid (B58.out.trans (hb9.mono B58.out.size))
    have C9 := Lib.hid (C8.out.below hb9)
    have N09 := Lib.hid (N08.out.below hb9)
    clear hr9 hb9
    go_wp2_with fail
    refine (lEqTypeS _ _ _ _ l _ hl2 Hs.out (R5.out.any.below B59.out) R9.out).mono ?_
    rintro e w10 ⟨rfl, hb10⟩
    have B510 := Lib.hid (B59.out.trans (hb10.mono B59.out.size))
    have C10 := Lib.hid (C9.out.below hb10)
    have N010 := Lib.hid (N09.out.below hb10)
    clear hb10
    go_wp2_with fail
    refine (lLooseTypeS w4.heap.size w5 _ _ l 1 _ hl2 R5.out (by omega) (by have := Hcnt.out; omega) Hf.out (L5.out.below B510.out (Nat.le_refl _)) B45.out.size).mono ?_
    rintro e w13 ⟨k1, rfl, hk1, hm13⟩
    have hk1a : 1 ≤ k1 := by omega
    have hk1b : k1 ≤ 5242881 := by have := Hcnt.out; omega
    have M13 := Lib.hid hm13
    clear hk1 hm13
    have C14 := Lib.hid (C10.out.above M13.out.above (Nat.le_refl _))
    have D0 := Lib.hid (B45.out.trans ((B510.out.mono B45.out.size).trans M13.out.below))
    have N014 := Lib.hid (N0.out.below D0.out)
    go_wp2_with fail
    refine (lEqNums _ _ _ _ m _ (by omega) (Nums.ofOwnC C14.out) N014.out).mono ?_
    rintro e w15 ⟨rfl, hb15⟩
    have C15 := Lib.hid (C14.out.below hb15)
    have D1 := Lib.hid (D0.out.trans (hb15.mono D0.out.size))
    have h615 : w5.heap.size ≤ w15.heap.size := Nat.le_trans B510.out.size (Nat.le_trans M13.out.below.size hb15.size)
    clear hb15
    go_wp2_with fail
    refine (lMarkInts w5.heap.size _ _ m 1 _ C15.out h615 (by omega) (by omega) (by omega)).mono ?_
    rintro e w16 ⟨rfl, hr16, hb16⟩
    have Q16 := Lib.hid hr16
    have D2 := Lib.hid (D1.out.trans (hb16.mono B45.out.size))
    clear hr16 hb16
    go_wp2_with fail
    refine (lHeldIntS _ _ m.length 1 _ (by omega) (by omega) (by omega) Q16.out).mono ?_
    rintro e w17 ⟨rfl, hb17⟩
    have Q17 := Lib.hid (Q16.out.below hb17)
    have D3 := Lib.hid (D2.out.trans (hb17.mono D2.out.size))
    clear hb17
    have hp : ¬ (1 + (m.length : Int) < 0) := by omega
    go_wp2_with fail
    refine (lToTypeS a cap l _ hl2 Hs.out (Hr.out.below (B4.out.trans (D3.out.mono B4.out.size)))).mono ?_
    rintro e w18 ⟨rfl, hr18, hb18⟩
    have R18 := Lib.hid hr18.any
    have Q18 := Lib.hid (Q17.out.below hb18)
    have D4 := Lib.hid (D3.out.trans (hb18.mono D3.out.size))
    clear hr18 hb18
    go_wp2_with fail
    refine (iRoundFingers _ _ l x m _ _ Ha2.out hl2 (Nat.le_refl _) hl Hm.out R18.out).mono ?_
    rintro e w20 ⟨v2, rfl, hown2, hb20⟩
    obtain ⟨a2, c2, rfl, _, hn2⟩ := hown2.nums
    have N2 := Lib.hid hn2
    have Q20 := Lib.hid (Q18.out.below hb20)
    have D6 := Lib.hid (D4.out.trans (hb20.mono D4.out.size))
    clear hown2 hn2 hb20
    go_wp2_with fail
    refine (lEqNums _ _ _ _ m _ (by omega) N2.out (N0.out.below D6.out)).mono ?_
    rintro e w21 ⟨rfl, hb21⟩
    have Q21 := Lib.hid (Q20.out.below hb21)
    have D7 := Lib.hid (D6.out.trans (hb21.mono D6.out.size))
    clear hb21
    go_wp2_with fail
    refine (lHeldIntS _ _ m.length 1 _ (by omega) (by omega) (by omega) Q21.out).mono ?_
    rintro e w22 ⟨rfl, hb22⟩
    have D8 := Lib.hid (D7.out.trans (hb22.mono D7.out.size))
    clear hb22
    go_wp2_with fail
    go_ret
    exact ⟨rfl, B4.out.trans (D8.out.mono B4.out.size)⟩
end Go.Proofs.Ytfkfhflkcdhhmaa
