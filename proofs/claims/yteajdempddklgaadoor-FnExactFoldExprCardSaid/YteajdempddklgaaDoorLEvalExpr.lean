
/-
  What is proved: the contract of the model's EvalExpr and the walk of the law FnExactEvalExpr. No condition beside what each theorem states.
-/
import Derived.Test.YteajdempddklgaaDoorEvH
import Derived.Test.YteajdempddklgaaDoorOpersE
import Derived.Test.YteajdempddklgaaDoorLGoodExpr
namespace Go.Proofs.YteajdempddklgaaDoor
open Go.ChangeShapes Go.WideShapes Go.ChangeAt Go.RowKit
set_option maxRecDepth 100000

set_option maxHeartbeats 4000000 in
theorem sEvalExpr (a : Option Addr) (c : Nat) (l : List StepD) (a' : Option Addr) (c' : Nat) (ks : List KnownD) (w : World) (hl : l.length ≤ 1048576) (hcm : ∀ t ∈ l, t.fName.size ≤ maxLen ∧ t.fMod.size ≤ maxLen) (hr : Rows stepS Any w a l) (hkl : ks.length ≤ 1048576) (hr' : Rows knownS Any w a' ks) :
    Calls Tryd.prog 11 #[.slice a l.length c, .slice a' ks.length c'] w (PostEv l ks w) := by
  have Hr := Lib.hid hr
  have Hr' := Lib.hid hr'
  have Hg := Lib.hid (fun W (h : Rows stepS Any W a l) => sl5Good a c l W hl hcm h)
  clear hr hr' hcm
  go_enter Tryd.func11, Tryd.ntmps11
  go_wp2_with fail
  refine (Hg.out _ Hr.out).mono ?_
  rintro e w1 ⟨rfl, hb1⟩
  have B1 := Lib.hid hb1
  have R1 := Lib.hid (Hr.out.below hb1)
  have R1' := Lib.hid (Hr'.out.below hb1)
  clear hb1
  by_cases hg : ∃ xs, GoodE l xs
  · obtain ⟨xs, hg⟩ := hg
    rw [goodEB_true hg]
    have HG := Lib.hid hg
    clear hg
    go_wp2_with fail
    refine (sl5Known a' c' ks _ hkl R1'.out).mono ?_
    rintro e w2 ⟨rfl, hb2⟩
    have B2 := Lib.hid (B1.out.trans (hb2.mono B1.out.size))
    have R2 := Lib.hid (R1.out.below hb2)
    have R2' := Lib.hid (R1'.out.below hb2)
    clear hb2
    by_cases hks : knownsP ks
    · rw [knownsB_true hks]
      have Hks := Lib.hid hks
      clear hks
      go_wp2_with fail
      refine (sl5Eval a c l a' c' ks xs _ HG.out Hks.out R2.out R2'.out).mono ?_
      rintro e w3 ⟨⟨v, cd, rfl, hv⟩, hb3⟩
      have HA := Lib.hid (show EvP l ks v cd true from .inl ⟨xs, HG.out, Hks.out, hv, rfl⟩)
      have B3 := Lib.hid (B2.out.trans (hb3.mono B2.out.size))
      clear hb3 hv
      go_wp2_with fail
      go_ret3
      exact ⟨_, _, _, rfl, HA.out, B3.out⟩
    · rw [knownsB_false hks]
      go_wp2_with fail
      go_ret3
      exact ⟨_, _, _, rfl, .inr ⟨.inr hks, rfl, rfl, rfl⟩, B2.out⟩
  · rw [goodEB_false (fun xs h => hg ⟨xs, h⟩)]
    go_wp2_with fail
    go_ret3
    exact ⟨_, _, _, rfl, .inr ⟨.inl hg, rfl, rfl, rfl⟩, B1.out⟩

theorem ev_same {l : List StepD} {ks : List KnownD} {v cd v' cd' : Int} {ok ok' : Bool} (h : EvP l ks v cd ok) (h' : EvP l ks v' cd' ok') : v = v' ∧ cd = cd' ∧ ok = ok' := by
  rcases h with ⟨xs, h1, h2, h3, rfl⟩ | ⟨h1, rfl, rfl, rfl⟩ <;> rcases h' with ⟨ys, k1, k2, k3, rfl⟩ | ⟨k1, rfl, rfl, rfl⟩
  · rw [h1.unique k1] at h3
    have := h3.trans k3.symm
    injection this with e1 e2
    exact ⟨e1, e2, rfl⟩
  · rcases k1 with k1 | k1
    · exact absurd ⟨xs, h1⟩ k1
    · exact absurd h2 k1
  · rcases h1 with h1 | h1
    · exact absurd ⟨ys, k1⟩ h1
    · exact absurd k2 h1
  · exact ⟨rfl, rfl, rfl⟩
theorem known_wt {l : List KnownD} (h : wtL KnownD.wt l ≤ 1048576) : l.length ≤ 1048576 := by
  unfold wtL at h
  omega

-- shell: FnExactEvalExpr
set_option maxHeartbeats 8000000 in
theorem law_FnExactEvalExpr (a : Option Addr) (len cap : Nat) (l : List StepD) (a' : Option Addr) (len' cap' : Nat) (ks : List KnownD) (w : World) (hin : CameIn stepS StepD.came w a len l) (hin' : CameIn knownS KnownD.came w a' len' ks) (hk : Kept2 w) :
    Calls Tryd.prog 3 #[.slice a len cap, .slice a' len' cap'] w fun e w' => e = .returned (.bool true) ∧ Below w.heap.size w w' := by
  obtain ⟨rfl, hl, hr, hc⟩ := hin
  obtain ⟨rfl, hl', hr', hc'⟩ := hin'
  have Hr := Lib.hid hr
  have Hc := Lib.hid hc
  have Hr' := Lib.hid hr'
  have Hc' := Lib.hid hc'
  have HK := Lib.hid hk.1
  have HE := Lib.hid hk.2
  clear hr hc hr' hc' hk
  go_enter Tryd.func3, Tryd.ntmps3
  go_wp2_with fail
  refine (lSzStepS a cap l _ 1048576 (by omega) (by omega) hl Hc.out Hr.out).mono ?_
  rintro e w1 ⟨r, rfl, hs, hb1⟩
  have B1 := Lib.hid hb1
  clear hb1
  rcases hs with rfl | ⟨h0, h1⟩
  · go_wp2_with fail
    go_ret
    exact ⟨rfl, B1.out⟩
  obtain ⟨hl2, hs⟩ := step_wt (l := l) (by omega)
  have Hs := Lib.hid hs
  clear hs
  have hr0 : r ≤ 1048576 := by omega
  clear h1
  go_wp2_with fail
  refine (lSzKnownS a' cap' ks _ r (by omega) (by omega) hl' Hc'.out (Hr'.out.below B1.out)).mono ?_
  rintro e w2 ⟨r2, rfl, hs, hb2⟩
  have B2 := Lib.hid (B1.out.trans (hb2.mono B1.out.size))
  clear hb2
  rcases hs with rfl | ⟨h2, h3⟩
  · go_wp2_with fail
    go_ret
    exact ⟨rfl, B2.out⟩
  have hk2 := known_wt (l := ks) (by omega)
  clear h3
  go_wp2_with fail
  refine (lToStepS a cap l _ hl2 (Hr.out.below B2.out)).mono ?_
  rintro e w3 ⟨rfl, hr3, hb3⟩
  have R3 := Lib.hid hr3.any
  have B3 := Lib.hid (B2.out.trans (hb3.mono B2.out.size))
  clear hr3 hb3
  go_wp2_with fail
  refine (lToKnownS a' cap' ks _ hk2 (Hr'.out.below B3.out)).mono ?_
  rintro e w4 ⟨rfl, hr4, hb4⟩
  have R4 := Lib.hid (R3.out.below hb4)
  have K4 := Lib.hid hr4.any
  have B4 := Lib.hid (B3.out.trans (hb4.mono B3.out.size))
  clear hr4 hb4
  go_wp2_with fail
  refine (sEvalExpr _ _ l _ _ ks _ hl2 Hs.out R4.out hk2 K4.out).mono ?_
  unfold PostEv
  rintro e w5 ⟨v, cd, ok, rfl, hv, hb5⟩
  have HV := Lib.hid hv
  have B5 := Lib.hid (B4.out.trans (hb5.mono B4.out.size))
  clear hb5 hv
  go_wp2_with fail
  refine (lToStepS a cap l _ hl2 (Hr.out.below B5.out)).mono ?_
  rintro e w6 ⟨rfl, hr6, hb6⟩
  have R6 := Lib.hid hr6.any
  have B6 := Lib.hid (B5.out.trans (hb6.mono B5.out.size))
  clear hr6 hb6
  go_wp2_with fail
  refine (lToKnownS a' cap' ks _ hk2 (Hr'.out.below B6.out)).mono ?_
  rintro e w7 ⟨rfl, hr7, hb7⟩
  have R7 := Lib.hid (R6.out.below hb7)
  have K7 := Lib.hid hr7.any
  have B7 := Lib.hid (B6.out.trans (hb7.mono B6.out.size))
  clear hr7 hb7
  go_wp2_with fail
  refine (iEvalExpr _ _ l _ _ ks _ (HK.out.below B7.out) (HE.out.below B7.out) Hs.out R7.out hk2 K7.out).mono ?_
  unfold PostEv
  rintro e w8 ⟨v', cd', ok', rfl, hv', hb8⟩
  obtain ⟨rfl, rfl, rfl⟩ := ev_same HV.out hv'
  have R8 := Lib.hid (R7.out.below hb8)
  have K8 := Lib.hid (K7.out.below hb8)
  have B8 := Lib.hid (B7.out.trans (hb8.mono B7.out.size))
  clear hb8 hv'
  have hvv : (v == v) = true := beq_self_eq_true v
  have hcc : (cd == cd) = true := beq_self_eq_true cd
  cases ok
  all_goals
    go_wp2_with fail
    refine (lToStepS a cap l _ hl2 (Hr.out.below B8.out)).mono ?_
    rintro e w9 ⟨rfl, hr9, hb9⟩
    have R9 := Lib.hid hr9.any
    have R9' := Lib.hid (R8.out.below hb9)
    have K9 := Lib.hid (K8.out.below hb9)
    have B9 := Lib.hid (B8.out.trans (hb9.mono B8.out.size))
    clear hr9 hb9
    go_wp2_with fail
    refine (lEqStepS _ _ _ _ l _ hl2 R9'.out R9.out).mono ?_
    rintro e w10 ⟨rfl, hb10⟩
    have K10 := Lib.hid (K9.out.below hb10)
    have B10 := Lib.hid (B9.out.trans (hb10.mono B9.out.size))
    clear hb10
    go_wp2_with fail
    refine (lToKnownS a' cap' ks _ hk2 (Hr'.out.below B10.out)).mono ?_
    rintro e w11 ⟨rfl, hr11, hb11⟩
    have K11 := Lib.hid hr11.any
    have K11' := Lib.hid (K10.out.below hb11)
    have B11 := Lib.hid (B10.out.trans (hb11.mono B10.out.size))
    clear hr11 hb11
    go_wp2_with fail
    refine (lEqKnownS _ _ _ _ ks _ hk2 K11'.out K11.out).mono ?_
    rintro e w12 ⟨rfl, hb12⟩
    have B12 := Lib.hid (B11.out.trans (hb12.mono B11.out.size))
    clear hb12
    go_wp2_with fail
    go_ret
    exact ⟨rfl, B12.out⟩
end Go.Proofs.YteajdempddklgaaDoor
