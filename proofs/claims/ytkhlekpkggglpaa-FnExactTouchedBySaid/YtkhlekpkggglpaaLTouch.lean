
/-
  What is proved: the walk of the law FnExactTouchedBy. No condition beside what each theorem states.
-/
import Derived.Test.YtkhlekpkggglpaaTouch
import Derived.Test.YtkhlekpkggglpaaLsSeen
import Derived.Test.YtkhlekpkggglpaaLsChange
import Derived.Test.YtkhlekpkggglpaaMkString
namespace Go.Proofs.Ytkhlekpkggglpaa
open Go.ChangeShapes Go.WideShapes Go.ChangeAt Go.RowKit

theorem cntSeenT_sum : ∀ l : List SeenD, (l.map cntSeen).sum = 3 * l.length
  | [] => rfl
  | x :: l => by rw [List.map_cons, List.sum_cons, cntSeenT_sum l, List.length_cons]; unfold cntSeen; omega
theorem cntChangeT_sum : ∀ l : List ChangeD, (l.map cntChange).sum = 2 * l.length
  | [] => rfl
  | x :: l => by rw [List.map_cons, List.sum_cons, cntChangeT_sum l, List.length_cons]; unfold cntChange; omega
theorem changeT_wt {l : List ChangeD} (h : wtL ChangeD.wt l ≤ 1048576) : l.length ≤ 1048576 := by unfold wtL at h; omega
theorem changeT_came {l : List ChangeD} (h : ∀ t ∈ l, t.came) : ∀ t ∈ l, t.fName.size ≤ maxLen := fun t ht => (h t ht).1
theorem lMarkStrsT (B : Nat) (a : Option Addr) (c : Nat) (l : List ByteArray) (k : Int) (w : World) (hown : OwnC w B a (l.map Value.string)) (hB : B ≤ w.heap.size) (hl : l.length ≤ 1048576) (hk : 0 < k) (hk2 : k ≤ 1000000000) :
    Calls Try.prog 17 #[.slice a l.length c, .int .i64 k] w fun e w' => e = .returned (.int .i64 (k + (l.length : Int))) ∧ Rows strS Any w' a (mkStringL l.length k) ∧ Below B w w' := by
  rcases hown with h | ⟨g, t, cur, rfl, h2, h3, h4, _⟩
  · have : l = [] := by simpa using h
    subst this
    refine (lMarkStringS0 a c k w).mono ?_
    rintro e w' ⟨rfl, rfl⟩
    exact ⟨by simp, Rows.nil, Below.refl _ _⟩
  · exact lMarkStringS B g 0 c l.length t cur k w h2 hB hl hk hk2 h3 (by simpa using h4)
theorem rowsT_of {w : World} {B : Nat} {a : Option Addr} {l : List ByteArray} (h : OwnC w B a (l.map Value.string)) : Rows strS Any w a l := fun i hi => by
  rcases h with h | ⟨g, t, cur, rfl, h2, h3, h4, h5⟩
  · have : l = [] := by simpa using h
    subst this
    exact absurd hi (by simp)
  · refine ⟨g, 0, [.string l[i]], rfl, trivial, h3.lt, fun j hj => ?_, rfl⟩
    have hn : strS.n = 1 := rfl
    obtain rfl : j = 0 := by omega
    rw [hn, Nat.mul_one, Nat.zero_add, Nat.add_zero, h3.cell, h5 i (by simpa using hi)]
    simp [hi]
/-- Both tell the same. -/
theorem touch_same {l : List SeenD} {md : ByteArray} {cs : List ChangeD} {r r' : List ByteArray} {ok ok' : Bool} (h : (touchP l md cs ∧ r = touchL md cs l ∧ ok = true) ∨ (¬ touchP l md cs ∧ r = [] ∧ ok = false)) (h' : (touchP l md cs ∧ r' = touchL md cs l ∧ ok' = true) ∨ (¬ touchP l md cs ∧ r' = [] ∧ ok' = false)) : r = r' ∧ ok = ok' := by
  rcases h with ⟨h0, rfl, rfl⟩ | ⟨h0, rfl, rfl⟩ <;> rcases h' with ⟨h1, rfl, rfl⟩ | ⟨h1, rfl, rfl⟩
  · exact ⟨rfl, rfl⟩
  · exact absurd h0 h1
  · exact absurd h1 h0
  · exact ⟨rfl, rfl⟩
theorem touch_small {l : List SeenD} {md : ByteArray} {cs : List ChangeD} {r : List ByteArray} {ok : Bool} (h : (touchP l md cs ∧ r = touchL md cs l ∧ ok = true) ∨ (¬ touchP l md cs ∧ r = [] ∧ ok = false)) : r.length ≤ 40 := by
  rcases h with ⟨h0, rfl, rfl⟩ | ⟨h0, rfl, rfl⟩
  · have h1 := touch_len (md := md) (cs := cs) (l := l) (k := l.length)
    rw [List.take_length] at h1
    have := h0.1.1
    omega
  · simp

-- shell: FnExactTouchedBy
set_option maxRecDepth 100000 in
set_option maxHeartbeats 16000000 in
theorem law_FnExactTouchedBy (a : Option Addr) (len cap : Nat) (l : List SeenD) (md : ByteArray) (a' : Option Addr) (len' cap' : Nat) (ks : List ChangeD) (w : World) (hin : CameIn seenS SeenD.came w a len l) (hmd : md.size ≤ maxLen) (hin' : CameIn changeS ChangeD.came w a' len' ks) :
    Calls Try.prog 3 #[.slice a len cap, .string md, .slice a' len' cap'] w fun e w' => e = .returned (.bool true) ∧ Below w.heap.size w w' := by
  obtain ⟨rfl, hl, hr, hc⟩ := hin
  obtain ⟨rfl, hl', hr', hc'⟩ := hin'
  have Hr := Lib.hid hr
  have Hc := Lib.hid hc
  have Hr' := Lib.hid hr'
  have Hc' := Lib.hid hc'
  clear hr hc hr' hc'
  have hmd2 := hmd
  unfold maxLen at hmd2
  by_cases hbig : 1048576 < md.size
  · go_enter Try.func3, Try.ntmps3
    go_wp2_with fail
    go_ret
    exact ⟨rfl, Below.refl _ _⟩
  go_enter Try.func3, Try.ntmps3
  go_wp2_with fail
  refine (lSzSeenS a cap l _ 1048576 (by omega) (by omega) hl Hc.out Hr.out).mono ?_
  rintro e w1 ⟨r, rfl, hs, hb1⟩
  have B1 := Lib.hid hb1
  clear hb1
  rcases hs with rfl | ⟨h0, h1⟩
  · go_wp2_with fail
    go_ret
    exact ⟨rfl, B1.out⟩
  have hl2 := seen_wt (l := l) (by omega)
  have Hs := Lib.hid (seen_came Hc.out)
  have hr0 : r ≤ 1048576 := by omega
  clear h1
  go_wp2_with fail
  refine (lSzChangeS a' cap' ks _ r (by omega) (by omega) hl' Hc'.out (Hr'.out.below B1.out)).mono ?_
  rintro e w2 ⟨r2, rfl, hs, hb2⟩
  have B2 := Lib.hid (B1.out.trans (hb2.mono B1.out.size))
  clear hb2
  rcases hs with rfl | ⟨h2, h3⟩
  · go_wp2_with fail
    go_ret
    exact ⟨rfl, B2.out⟩
  have hk2 := changeT_wt (l := ks) (by omega)
  have Hs2 := Lib.hid (changeT_came Hc'.out)
  clear h3
  go_wp2_with fail
  refine (lToSeenS a cap l _ hl2 (Hr.out.below B2.out)).mono ?_
  rintro e w3 ⟨rfl, hr3, hb3⟩
  have R3 := Lib.hid hr3.any
  have B3 := Lib.hid (B2.out.trans (hb3.mono B2.out.size))
  clear hr3 hb3
  go_wp2_with fail
  refine (lToChangeS a' cap' ks _ hk2 (Hr'.out.below B3.out)).mono ?_
  rintro e w4 ⟨rfl, hr4, hb4⟩
  have R4 := Lib.hid (R3.out.below hb4)
  have K4 := Lib.hid hr4.any
  have B4 := Lib.hid (B3.out.trans (hb4.mono B3.out.size))
  clear hr4 hb4
  go_wp2_with fail
  refine (sTouch _ _ l md _ _ ks _ hl2 (Nat.le_refl _) hl Hs.out R4.out hmd hk2 (Nat.le_refl _) hl' Hs2.out K4.out).mono ?_
  unfold PostTB
  rintro e w5 ⟨v0, fl, ok, rfl, hown0, hd0, hb5⟩
  obtain ⟨a0, c0, rfl, _, _, hoc0, _⟩ := hown0.rows
  have hll := touch_small hd0
  have D0 := Lib.hid hd0
  have N5 := Lib.hid (rowsT_of hoc0)
  have B5 := Lib.hid (B4.out.trans (hb5.mono B4.out.size))
  clear hb5 hd0 hoc0 hown0
  go_wp2_with fail
  refine (lToSeenSB a cap l _ hl2 (Hr.out.below B5.out)).mono ?_
  rintro e w6 ⟨rfl, hr6, _, hcl6, hb6⟩
  have S6 := Lib.hid hr6
  have C6 := Lib.hid hcl6
  have E6 := Lib.hid hb6
  have s56 := hb6.size
  have B6 := Lib.hid (B5.out.trans (hb6.mono B5.out.size))
  clear hr6 hcl6 hb6
  go_wp2_with fail
  refine (lToChangeSB a' cap' ks _ hk2 (Hr'.out.below B6.out)).mono ?_
  rintro e w7 ⟨rfl, hr7, _, hcl7, hb7⟩
  have T7 := Lib.hid (hr7.mono (fun b h _ => Nat.le_trans s56 h))
  have S7 := Lib.hid (S6.out.below hb7)
  have L7 := Lib.hid (Like.refl (C6.out.join hb7 hcl7))
  have s67 := hb7.size
  have s57 : w5.heap.size ≤ w7.heap.size := Nat.le_trans s56 s67
  have E7 := Lib.hid (E6.out.trans (hb7.mono s56))
  have B7 := Lib.hid (B6.out.trans (hb7.mono B6.out.size))
  clear hr7 hcl7 hb7
  go_wp2_with fail
  refine (iTouch _ _ l md _ _ ks _ hl2 Hs.out S7.out.any hmd hk2 Hs2.out T7.out.any).mono ?_
  unfold PostTB
  rintro e w8 ⟨v1, fl1, ok1, rfl, hown1, hd1, hb8⟩
  obtain ⟨rfl, rfl⟩ := touch_same D0.out hd1
  obtain ⟨a1, c1, rfl, _, _, hoc1, _⟩ := hown1.rows
  have s78 := hb8.size
  have C8 := Lib.hid hoc1
  have F8 := Lib.hid hb8
  have E8 := Lib.hid (E7.out.trans (hb8.mono s57))
  have B8 := Lib.hid (B7.out.trans (hb8.mono B7.out.size))
  have N8 := Lib.hid (N5.out.below E8.out)
  have L8 := Lib.hid (L7.out.below hb8 (Nat.le_refl _))
  clear hb8 hd1 hoc1 hown1
  obtain ⟨okk, hokk⟩ : ∃ b : Bool, b = ok := ⟨_, rfl⟩
  have D1 := Lib.hid (hokk ▸ D0.out)
  have Hokk := Lib.hid hokk
  clear hokk D0
  cases ok
  all_goals
    go_wp2_with fail
    refine (lEqStringS _ _ _ _ fl _ (by omega) (rowsT_of C8.out) N8.out).mono ?_
    rintro e w9 ⟨rfl, hb9⟩
    have C9 := Lib.hid (C8.out.below hb9)
    have F9 := Lib.hid (F8.out.trans (hb9.mono s78))
    clear hb9
    go_wp2_with fail
    refine (lToSeenS a cap l _ hl2 (Hr.out.below (B7.out.trans (F9.out.mono B7.out.size)))).mono ?_
    rintro e w10 ⟨rfl, hr10, hb10⟩
    have R10 := Lib.hid hr10.any
    have C10 := Lib.hid (C9.out.below hb10)
    have F10 := Lib.hid (F9.out.trans (hb10.mono F9.out.size))
    clear hr10 hb10
    go_wp2_with fail
    refine (lEqSeenS _ _ _ _ l _ hl2 (S7.out.any.below F10.out) R10.out).mono ?_
    rintro e w11 ⟨rfl, hb11⟩
    have C11 := Lib.hid (C10.out.below hb11)
    have F11 := Lib.hid (F10.out.trans (hb11.mono F10.out.size))
    clear hb11
    go_wp2_with fail
    refine (lToChangeS a' cap' ks _ hk2 (Hr'.out.below (B7.out.trans (F11.out.mono B7.out.size)))).mono ?_
    rintro e w12 ⟨rfl, hr12, hb12⟩
    have K12 := Lib.hid hr12.any
    have C12 := Lib.hid (C11.out.below hb12)
    have F12 := Lib.hid (F11.out.trans (hb12.mono F11.out.size))
    clear hr12 hb12
    go_wp2_with fail
    refine (lEqChangeS _ _ _ _ ks _ hk2 (T7.out.any.below F12.out) K12.out).mono ?_
    rintro e w13 ⟨rfl, hb13⟩
    have C13 := Lib.hid (C12.out.below hb13)
    have F13 := Lib.hid (F12.out.trans (hb13.mono F12.out.size))
    clear hb13
    go_wp2_with fail
    refine (lLooseSeenS w5.heap.size w7 _ _ l 1 _ hl2 S7.out (by omega) (by rw [cntSeenT_sum]; omega) (L7.out.below F13.out (Nat.le_refl _)) s57).mono ?_
    rintro e w14 ⟨k1, rfl, hk1, hm14⟩
    rw [cntSeenT_sum] at hk1
    have hk1a : 1 ≤ k1 := by omega
    have hk1b : k1 ≤ 10000000 := by omega
    have L14 := Lib.hid hm14.like
    have C14 := Lib.hid (C13.out.above hm14.above (Nat.le_refl _))
    have G14 := Lib.hid (E7.out.trans ((F13.out.mono s57).trans hm14.below))
    have s714 : w7.heap.size ≤ w14.heap.size := Nat.le_trans F13.out.size hm14.below.size
    clear hm14 hk1
    go_wp2_with fail
    refine (lLooseChangeS w5.heap.size w7 _ _ ks k1 _ hk2 T7.out (by omega) (by rw [cntChangeT_sum]; omega) L14.out s57).mono ?_
    rintro e w15 ⟨k2, rfl, hk2e, hm15⟩
    rw [cntChangeT_sum] at hk2e
    have hk2n : ¬ (k2 < 0) := by omega
    have C15 := Lib.hid (C14.out.above hm15.above (Nat.le_refl _))
    have G15 := Lib.hid (G14.out.trans hm15.below)
    have s715 : w7.heap.size ≤ w15.heap.size := Nat.le_trans s714 hm15.below.size
    have N15 := Lib.hid (N5.out.below G15.out)
    clear hm15 hk2e
    go_wp2_with fail
    refine (lEqStringS _ _ _ _ fl _ (by omega) (rowsT_of C15.out) N15.out).mono ?_
    rintro e w16 ⟨rfl, hb16⟩
    have C16 := Lib.hid (C15.out.below hb16)
    have G16 := Lib.hid (G15.out.trans (hb16.mono G15.out.size))
    have s716 : w7.heap.size ≤ w16.heap.size := Nat.le_trans s715 hb16.size
    clear hb16
    go_wp2_with fail
    refine (lMarkStrsT w7.heap.size _ _ fl 1 _ C16.out s716 (by omega) (by omega) (by omega)).mono ?_
    rintro e w17 ⟨rfl, hr17, hb17⟩
    have Q17 := Lib.hid hr17
    have G17 := Lib.hid (G16.out.trans (hb17.mono s57))
    clear hr17 hb17
    go_wp2_with fail
    refine (lHeldStringS _ _ fl.length 1 _ (by omega) (by omega) (by omega) Q17.out).mono ?_
    rintro e w18 ⟨rfl, hb18⟩
    have Q18 := Lib.hid (Q17.out.below hb18)
    have G18 := Lib.hid (G17.out.trans (hb18.mono G17.out.size))
    clear hb18
    have hp : ¬ (1 + (fl.length : Int) < 0) := by omega
    go_wp2_with fail
    refine (lToSeenS a cap l _ hl2 (Hr.out.below (B5.out.trans (G18.out.mono B5.out.size)))).mono ?_
    rintro e w19 ⟨rfl, hr19, hb19⟩
    have R19 := Lib.hid hr19.any
    have Q19 := Lib.hid (Q18.out.below hb19)
    have G19 := Lib.hid (G18.out.trans (hb19.mono G18.out.size))
    clear hr19 hb19
    go_wp2_with fail
    refine (lToChangeS a' cap' ks _ hk2 (Hr'.out.below (B5.out.trans (G19.out.mono B5.out.size)))).mono ?_
    rintro e w20 ⟨rfl, hr20, hb20⟩
    have K20 := Lib.hid hr20.any
    have R20 := Lib.hid (R19.out.below hb20)
    have Q20 := Lib.hid (Q19.out.below hb20)
    have G20 := Lib.hid (G19.out.trans (hb20.mono G19.out.size))
    clear hr20 hb20
    go_wp2_with fail
    refine (iTouch _ _ l md _ _ ks _ hl2 Hs.out R20.out hmd hk2 Hs2.out K20.out).mono ?_
    unfold PostTB
    rintro e w21 ⟨v2, fl2, ok2, rfl, hown2, hd2, hb21⟩
    obtain ⟨rfl, hok2⟩ := touch_same D1.out hd2
    obtain ⟨a2, c2, rfl, _, _, hoc2, _⟩ := hown2.rows
    rw [Hokk.out] at hok2
    subst hok2
    have N21 := Lib.hid (rowsT_of hoc2)
    have Q21 := Lib.hid (Q20.out.below hb21)
    have G21 := Lib.hid (G20.out.trans (hb21.mono G20.out.size))
    clear hoc2 hd2 hb21 hown2
    go_wp2_with fail
    refine (lEqStringS _ _ _ _ fl _ (by omega) N21.out (N5.out.below G21.out)).mono ?_
    rintro e w22 ⟨rfl, hb22⟩
    have Q22 := Lib.hid (Q21.out.below hb22)
    have G22 := Lib.hid (G21.out.trans (hb22.mono G21.out.size))
    clear hb22
    go_wp2_with fail
    refine (lHeldStringS _ _ fl.length 1 _ (by omega) (by omega) (by omega) Q22.out).mono ?_
    rintro e w23 ⟨rfl, hb23⟩
    have G23 := Lib.hid (G22.out.trans (hb23.mono G22.out.size))
    clear hb23
    go_wp2_with fail
    go_ret
    exact ⟨rfl, B5.out.trans (G23.out.mono B5.out.size)⟩
end Go.Proofs.Ytkhlekpkggglpaa
