
/-
  What is proved: the walk of the law FnExactTurnDiff. No condition beside what each theorem states.
-/
import Derived.Test.YtkhlekpkggglpaaChgT
import Derived.Test.YtkhlekpkggglpaaLsChange
namespace Go.Proofs.Ytkhlekpkggglpaa
open Go.ChangeShapes Go.WideShapes Go.ChangeAt Go.RowKit

theorem cntChange_sum : ∀ l : List ChangeD, (l.map cntChange).sum = 2 * l.length
  | [] => rfl
  | x :: l => by rw [List.map_cons, List.sum_cons, cntChange_sum l, List.length_cons]; unfold cntChange; omega
theorem change_wt {l : List ChangeD} (h : wtL ChangeD.wt l ≤ 1048576) : l.length ≤ 1048576 ∧ ∀ t ∈ l, t.fName.size ≤ maxLen := by
  unfold wtL at h
  refine ⟨by omega, fun t ht => ?_⟩
  have := wt_mem ChangeD.wt ht
  unfold ChangeD.wt at this h
  unfold maxLen
  omega
/-- Both tell the same. -/
theorem turn_same {l r r' : List ChangeD} {ok ok' : Bool} (h : turnA l r ok) (h' : turnA l r' ok') : r = r' ∧ ok = ok' := by
  rcases h with ⟨h0, rfl, rfl⟩ | ⟨h0, rfl, rfl⟩ <;> rcases h' with ⟨h1, rfl, rfl⟩ | ⟨h1, rfl, rfl⟩
  · exact ⟨rfl, rfl⟩
  · exact absurd h0 h1
  · exact absurd h1 h0
  · exact ⟨rfl, rfl⟩
theorem turn_small {l r : List ChangeD} {ok : Bool} (h : turnA l r ok) : r.length ≤ 40 := by
  rcases h with ⟨h0, rfl, rfl⟩ | ⟨h0, rfl, rfl⟩
  · have := h0.1
    simp
    omega
  · simp

-- shell: FnExactTurnDiff
set_option maxRecDepth 100000 in
set_option maxHeartbeats 8000000 in
theorem law_FnExactTurnDiff (a : Option Addr) (len cap : Nat) (l : List ChangeD) (w : World) (hin : CameIn changeS ChangeD.came w a len l) :
    Calls Try.prog 5 #[.slice a len cap] w fun e w' => e = .returned (.bool true) ∧ Below w.heap.size w w' := by
  obtain ⟨rfl, hl, hr, hc⟩ := hin
  have Hr := Lib.hid hr
  have Hc := Lib.hid hc
  clear hr hc
  go_enter Try.func5, Try.ntmps5
  go_wp2_with fail
  refine (lSzChangeS a cap l _ 1048576 (by omega) (by omega) hl Hc.out Hr.out).mono ?_
  rintro e w1 ⟨r, rfl, hs, hb1⟩
  have B1 := Lib.hid hb1
  clear hb1
  rcases hs with rfl | ⟨h0, h1⟩
  · go_wp2_with fail
    go_ret
    exact ⟨rfl, B1.out⟩
  obtain ⟨hl2, hs⟩ := change_wt (l := l) (by omega)
  have Hs := Lib.hid hs
  clear h1 hs
  go_wp2_with fail
  refine (lToChangeS a cap l _ hl2 (Hr.out.below B1.out)).mono ?_
  rintro e w2 ⟨rfl, hr2, hb2⟩
  have R2 := Lib.hid hr2.any
  have B2 := Lib.hid (B1.out.trans (hb2.mono B1.out.size))
  clear hr2 hb2
  go_wp2_with fail
  refine (sTurnDiff _ _ l _ hl2 (Nat.le_refl _) hl Hs.out R2.out).mono ?_
  unfold PostTD
  rintro e w3 ⟨a0, c0, us, ok, rfl, hown0, hd0, hb3⟩
  have hll := turn_small hd0
  have hrw0 := chgRows_of hown0
  have D0 := Lib.hid hd0
  have N3 := Lib.hid hrw0.any
  have B3 := Lib.hid (B2.out.trans (hb3.mono B2.out.size))
  clear hb3 hown0 hd0 hrw0
  go_wp2_with fail
  refine (lToChangeSB a cap l _ hl2 (Hr.out.below B3.out)).mono ?_
  rintro e w4 ⟨rfl, hr4, _, hcl4, hb4⟩
  have S4 := Lib.hid hr4
  have L4 := Lib.hid (Like.refl hcl4)
  have E4 := Lib.hid hb4
  have s34 := hb4.size
  have B4 := Lib.hid (B3.out.trans (hb4.mono B3.out.size))
  clear hr4 hcl4 hb4
  go_wp2_with fail
  refine (iTurnDiff _ _ l _ hl2 Hs.out S4.out.any).mono ?_
  unfold PostTD
  rintro e w5 ⟨a1, c1, us1, ok1, rfl, hown1, hd1, hb5⟩
  obtain ⟨rfl, rfl⟩ := turn_same D0.out hd1
  have s45 := hb5.size
  have hoc1 := hown1
  have C5 := Lib.hid hoc1
  have F5 := Lib.hid hb5
  have E5 := Lib.hid (E4.out.trans (hb5.mono E4.out.size))
  have B5 := Lib.hid (B4.out.trans (hb5.mono B4.out.size))
  have N5 := Lib.hid (N3.out.below E5.out)
  have L5 := Lib.hid (L4.out.below hb5 (Nat.le_refl _))
  clear hb5 hown1 hd1 hoc1
  obtain ⟨okk, hokk⟩ : ∃ b : Bool, b = ok := ⟨_, rfl⟩
  have D1 := Lib.hid (hokk ▸ D0.out)
  have Hokk := Lib.hid hokk
  clear hokk D0
  cases ok
  all_goals
    go_wp2_with fail
    refine (lEqChangeS _ _ _ _ us _ (by omega) (chgRows_of C5.out).any N5.out).mono ?_
    rintro e w6 ⟨rfl, hb6⟩
    have C6 := Lib.hid (C5.out.below hb6)
    have F6 := Lib.hid (F5.out.trans (hb6.mono s45))
    clear hb6
    go_wp2_with fail
    refine (lToChangeS a cap l _ hl2 (Hr.out.below (B4.out.trans (F6.out.mono B4.out.size)))).mono ?_
    rintro e w7 ⟨rfl, hr7, hb7⟩
    have R7 := Lib.hid hr7.any
    have C7 := Lib.hid (C6.out.below hb7)
    have F7 := Lib.hid (F6.out.trans (hb7.mono F6.out.size))
    clear hr7 hb7
    go_wp2_with fail
    refine (lEqChangeS _ _ _ _ l _ hl2 (S4.out.any.below F7.out) R7.out).mono ?_
    rintro e w8 ⟨rfl, hb8⟩
    have C8 := Lib.hid (C7.out.below hb8)
    have F8 := Lib.hid (F7.out.trans (hb8.mono F7.out.size))
    clear hb8
    go_wp2_with fail
    refine (lLooseChangeS w3.heap.size w4 _ _ l 1 _ hl2 S4.out (by omega) (by rw [cntChange_sum]; omega) (L4.out.below F8.out (Nat.le_refl _)) s34).mono ?_
    rintro e w9 ⟨k1, rfl, hk1, hm9⟩
    rw [cntChange_sum] at hk1
    have hk1a : 1 ≤ k1 := by omega
    have hk1b : k1 ≤ 10000000 := by omega
    have M9 := Lib.hid hm9
    have C9 := Lib.hid (C8.out.above hm9.above (Nat.le_refl _))
    have G9 := Lib.hid (E4.out.trans ((F8.out.mono s34).trans hm9.below))
    have s49 : w4.heap.size ≤ w9.heap.size := Nat.le_trans F8.out.size hm9.below.size
    have N9 := Lib.hid (N3.out.below G9.out)
    clear hm9 hk1
    have hkn : ¬ (k1 < 0) := by omega
    go_wp2_with fail
    refine (lEqChangeS _ _ _ _ us _ (by omega) (chgRows_of C9.out).any N9.out).mono ?_
    rintro e w10 ⟨rfl, hb10⟩
    have C10 := Lib.hid (C9.out.below hb10)
    have G10 := Lib.hid (G9.out.trans (hb10.mono G9.out.size))
    have s410 : w4.heap.size ≤ w10.heap.size := Nat.le_trans s49 hb10.size
    clear hb10
    go_wp2_with fail
    refine (lMarkChgs w4.heap.size _ _ us 1 _ C10.out s410 (by omega) (by omega) (by omega)).mono ?_
    rintro e w11 ⟨rfl, hr11, hb11⟩
    have Q11 := Lib.hid hr11
    have G11 := Lib.hid (G10.out.trans (hb11.mono s34))
    clear hr11 hb11
    go_wp2_with fail
    refine (lHeldChangeS _ _ us.length 1 _ (by omega) (by omega) (by omega) Q11.out).mono ?_
    rintro e w12 ⟨rfl, hb12⟩
    have Q12 := Lib.hid (Q11.out.below hb12)
    have G12 := Lib.hid (G11.out.trans (hb12.mono G11.out.size))
    clear hb12
    have hp : ¬ (1 + 2 * (us.length : Int) < 0) := by omega
    go_wp2_with fail
    refine (lToChangeS a cap l _ hl2 (Hr.out.below (B3.out.trans (G12.out.mono B3.out.size)))).mono ?_
    rintro e w13 ⟨rfl, hr13, hb13⟩
    have R13 := Lib.hid hr13.any
    have Q13 := Lib.hid (Q12.out.below hb13)
    have G13 := Lib.hid (G12.out.trans (hb13.mono G12.out.size))
    clear hr13 hb13
    go_wp2_with fail
    refine (iTurnDiff _ _ l _ hl2 Hs.out R13.out).mono ?_
    unfold PostTD
    rintro e w14 ⟨a6, c6, us2, ok2, rfl, hown2, hd2, hb14⟩
    obtain ⟨rfl, hok2⟩ := turn_same D1.out hd2
    rw [Hokk.out] at hok2
    subst hok2
    have hrw2 := chgRows_of hown2
    have N2 := Lib.hid hrw2.any
    have Q14 := Lib.hid (Q13.out.below hb14)
    have G14 := Lib.hid (G13.out.trans (hb14.mono G13.out.size))
    clear hown2 hd2 hb14 hrw2
    go_wp2_with fail
    refine (lEqChangeS _ _ _ _ us _ (by omega) N2.out (N3.out.below G14.out)).mono ?_
    rintro e w15 ⟨rfl, hb15⟩
    have Q15 := Lib.hid (Q14.out.below hb15)
    have G15 := Lib.hid (G14.out.trans (hb15.mono G14.out.size))
    clear hb15
    go_wp2_with fail
    refine (lHeldChangeS _ _ us.length 1 _ (by omega) (by omega) (by omega) Q15.out).mono ?_
    rintro e w16 ⟨rfl, hb16⟩
    have G16 := Lib.hid (G15.out.trans (hb16.mono G15.out.size))
    clear hb16
    go_wp2_with fail
    go_ret
    exact ⟨rfl, B3.out.trans (G16.out.mono B3.out.size)⟩
end Go.Proofs.Ytkhlekpkggglpaa
