
/-
  What is proved: the walk of the law FnExactLayoutOf. No condition beside what each theorem states.
-/
import Derived.Test.YtmfpijakpmjmdaaLayJ
import Derived.Test.YtmfpijakpmjmdaaLaws3
import Derived.Test.YtmfpijakpmjmdaaLsType
import Derived.Test.YtmfpijakpmjmdaaMkPlace
namespace Go.Proofs.Ytmfpijakpmjmdaa
open Go.ChangeShapes Go.WideShapes Go.ChangeAt Go.RowKit

theorem lMarkPs (B : Nat) (a : Option Addr) (c : Nat) (l : List PlaceD) (k : Int) (w : World) (hown : OwnC w B a (l.flatMap plcCells)) (hB : B ≤ w.heap.size) (hl : l.length ≤ 1048576) (hk : 0 < k) (hk2 : k ≤ 1000000000) :
    Calls Try.prog 32 #[.slice a l.length c, .int .i64 k] w fun e w' => e = .returned (.int .i64 (k + 3 * (l.length : Int))) ∧ Rows placeS Any w' a (mkPlaceL l.length k) ∧ Below B w w' := by
  have hln := flatN_len plcCells 3 plc_len l
  rcases hown with h | ⟨g, t, cur, rfl, h2, h3, h4, _⟩
  · have : l = [] := by
      rw [h, List.length_nil] at hln
      exact List.eq_nil_of_length_eq_zero (by omega)
    subst this
    refine (lMarkPlaceS0 a c k w).mono ?_
    rintro e w' ⟨rfl, rfl⟩
    exact ⟨by simp, Rows.nil, Below.refl _ _⟩
  · exact lMarkPlaceS B g 0 c l.length t cur k w h2 hB hl hk hk2 h3 (by rw [hln] at h4; omega)

-- shell: FnExactLayoutOf
set_option maxHeartbeats 4000000 in
theorem law_FnExactLayoutOf (a : Option Addr) (len cap : Nat) (l : List TypeD) (x : Int) (w : World) (hin : CameIn typeS TypeD.came w a len l) (_ : (Lit.int .i64 x).wf = true) :
    Calls Try.prog 8 #[.slice a len cap, .int .i64 x] w fun e w' => e = .returned (.bool true) ∧ Below w.heap.size w w' := by
  obtain ⟨rfl, hl, hr, hc⟩ := hin
  have Hr := Lib.hid hr
  have Hc := Lib.hid hc
  clear hr hc
  have hml : (layA l x).length ≤ 144 := layA_len
  obtain ⟨m, hm⟩ : ∃ m, layA l x = m := ⟨_, rfl⟩
  rw [hm] at hml
  have HM := Lib.hid hm
  clear hm
  obtain ⟨q, hq⟩ : ∃ q, layB l x = q := ⟨_, rfl⟩
  have HQ := Lib.hid hq
  clear hq
  go_enter Try.func8, Try.ntmps8
  go_wp2_with fail
  refine (lSzTypeS a cap l _ 1048576 (by omega) (by omega) hl Hc.out Hr.out).mono ?_
  rintro e w1 ⟨r, rfl, hs, hb1⟩
  have B1 := Lib.hid hb1
  clear hb1
  rcases hs with rfl | ⟨h0, h1⟩
  · go_wp2_with fail
    go_ret
    exact ⟨rfl, B1.out⟩
  have Hcnt := Lib.hid (show (l.map cntType).sum ≤ 5242880 by have := cntType_le l; omega)
  obtain ⟨hl2, hs, hm⟩ := type_wt (l := l) (by omega)
  have Hs := Lib.hid hs
  have Hm := Lib.hid hm
  have Hf := Lib.hid (fields_len hs)
  clear h1 hs hm
  go_wp2_with fail
  refine (lToTypeS a cap l _ hl2 Hs.out (Hr.out.below B1.out)).mono ?_
  rintro e w2 ⟨rfl, hr2, hb2⟩
  have R2 := Lib.hid hr2.any
  have B2 := Lib.hid (B1.out.trans (hb2.mono B1.out.size))
  clear hr2 hb2
  go_wp2_with fail
  refine (sLayoutOf _ _ l x _ hl2 (Nat.le_refl _) hl Hm.out R2.out).mono ?_
  rintro e w3 ⟨v0, rfl, hown0, hb3⟩
  rw [HM.out] at hown0
  rw [HQ.out]
  obtain ⟨a0, c0, rfl, _, _, _, hr0⟩ := hown0.rows
  have N0 := Lib.hid hr0.any
  have B3 := Lib.hid (B2.out.trans (hb3.mono B2.out.size))
  clear hown0 hr0 hb3
  go_wp2_with fail
  refine (lToTypeSB a cap l _ hl2 Hs.out (Hr.out.below B3.out)).mono ?_
  rintro e w4 ⟨rfl, hr4, _, hcl4, hb4⟩
  have R4 := Lib.hid hr4
  have L4 := Lib.hid (Like.refl hcl4)
  have B34 := Lib.hid hb4
  have B4 := Lib.hid (B3.out.trans (hb4.mono B3.out.size))
  clear hr4 hcl4 hb4
  go_wp2_with fail
  refine (iLayoutOf _ _ l x _ hl2 (Nat.le_refl _) hl Hm.out R4.out.any).mono ?_
  rintro e w5 ⟨v1, rfl, hown1, hb5⟩
  rw [HM.out] at hown1
  rw [HQ.out]
  obtain ⟨a1, c1, rfl, _, _, hC1, _⟩ := hown1.rows
  have C5 := Lib.hid hC1
  have B45 := Lib.hid hb5
  have B5 := Lib.hid (B4.out.trans (hb5.mono B4.out.size))
  clear hown1 hC1 hb5
  have N05 := Lib.hid (N0.out.below (B34.out.trans (B45.out.mono B34.out.size)))
  cases q
  all_goals
    go_wp2_with fail
    refine (lEqPlaceS _ _ _ _ m _ (by omega) (plcRows_of C5.out).any N05.out).mono ?_
    rintro e w6 ⟨rfl, hb6⟩
    have B46 := Lib.hid (B45.out.trans (hb6.mono B45.out.size))
    have C6 := Lib.hid (C5.out.below hb6)
    have N06 := Lib.hid (N05.out.below hb6)
    clear hb6
    go_wp2_with fail
    refine (lToTypeS a cap l _ hl2 Hs.out (Hr.out.below (B4.out.trans (B46.out.mono B4.out.size)))).mono ?_
    rintro e w7 ⟨rfl, hr7, hb7⟩
    have R7 := Lib.hid hr7.any
    have B47 := Lib.hid (B46.out.trans (hb7.mono B46.out.size))
    have C7 := Lib.hid (C6.out.below hb7)
    have N07 := Lib.hid (N06.out.below hb7)
    clear hr7 hb7
    go_wp2_with fail
    refine (lEqTypeS _ _ _ _ l _ hl2 Hs.out (R4.out.any.below B47.out) R7.out).mono ?_
    rintro e w8 ⟨rfl, hb8⟩
    have B48 := Lib.hid (B47.out.trans (hb8.mono B47.out.size))
    have C8 := Lib.hid (C7.out.below hb8)
    have N08 := Lib.hid (N07.out.below hb8)
    clear hb8
    go_wp2_with fail
    refine (lLooseTypeS w3.heap.size w4 _ _ l 1 _ hl2 R4.out (by omega) (by have := Hcnt.out; omega) Hf.out (L4.out.below B48.out (Nat.le_refl _)) B34.out.size).mono ?_
    rintro e w9 ⟨k1, rfl, hk1, hm9⟩
    have hk1a : 1 ≤ k1 := by omega
    have hk1b : k1 ≤ 5242881 := by have := Hcnt.out; omega
    have M9 := Lib.hid hm9
    clear hk1 hm9
    have C9 := Lib.hid (C8.out.above M9.out.above (Nat.le_refl _))
    have D0 := Lib.hid (B34.out.trans ((B48.out.mono B34.out.size).trans M9.out.below))
    have N09 := Lib.hid (N0.out.below D0.out)
    go_wp2_with fail
    refine (lEqPlaceS _ _ _ _ m _ (by omega) (plcRows_of C9.out).any N09.out).mono ?_
    rintro e w10 ⟨rfl, hb10⟩
    have C10 := Lib.hid (C9.out.below hb10)
    have D1 := Lib.hid (D0.out.trans (hb10.mono D0.out.size))
    have h410 : w4.heap.size ≤ w10.heap.size := Nat.le_trans B48.out.size (Nat.le_trans M9.out.below.size hb10.size)
    clear hb10
    go_wp2_with fail
    refine (lMarkPs w4.heap.size _ _ m 1 _ C10.out h410 (by omega) (by omega) (by omega)).mono ?_
    rintro e w11 ⟨rfl, hr11, hb11⟩
    have Q11 := Lib.hid hr11
    have D2 := Lib.hid (D1.out.trans (hb11.mono B34.out.size))
    clear hr11 hb11
    go_wp2_with fail
    refine (lHeldPlaceS _ _ m.length 1 _ (by omega) (by omega) (by omega) Q11.out).mono ?_
    rintro e w12 ⟨rfl, hb12⟩
    have Q12 := Lib.hid (Q11.out.below hb12)
    have D3 := Lib.hid (D2.out.trans (hb12.mono D2.out.size))
    clear hb12
    have hp : ¬ (1 + 3 * (m.length : Int) < 0) := by omega
    go_wp2_with fail
    refine (lToTypeS a cap l _ hl2 Hs.out (Hr.out.below (B3.out.trans (D3.out.mono B3.out.size)))).mono ?_
    rintro e w13 ⟨rfl, hr13, hb13⟩
    have R13 := Lib.hid hr13.any
    have Q13 := Lib.hid (Q12.out.below hb13)
    have D4 := Lib.hid (D3.out.trans (hb13.mono D3.out.size))
    clear hr13 hb13
    go_wp2_with fail
    refine (iLayoutOf _ _ l x _ hl2 (Nat.le_refl _) hl Hm.out R13.out).mono ?_
    rintro e w14 ⟨v2, rfl, hown2, hb14⟩
    rw [HM.out] at hown2
    rw [HQ.out]
    obtain ⟨a2, c2, rfl, _, _, _, hr2⟩ := hown2.rows
    have N2 := Lib.hid hr2.any
    have Q14 := Lib.hid (Q13.out.below hb14)
    have D5 := Lib.hid (D4.out.trans (hb14.mono D4.out.size))
    clear hown2 hr2 hb14
    go_wp2_with fail
    refine (lEqPlaceS _ _ _ _ m _ (by omega) N2.out (N0.out.below D5.out)).mono ?_
    rintro e w15 ⟨rfl, hb15⟩
    have Q15 := Lib.hid (Q14.out.below hb15)
    have D6 := Lib.hid (D5.out.trans (hb15.mono D5.out.size))
    clear hb15
    go_wp2_with fail
    refine (lHeldPlaceS _ _ m.length 1 _ (by omega) (by omega) (by omega) Q15.out).mono ?_
    rintro e w16 ⟨rfl, hb16⟩
    have D7 := Lib.hid (D6.out.trans (hb16.mono D6.out.size))
    clear hb16
    go_wp2_with fail
    go_ret
    exact ⟨rfl, B3.out.trans (D7.out.mono B3.out.size)⟩
end Go.Proofs.Ytmfpijakpmjmdaa
