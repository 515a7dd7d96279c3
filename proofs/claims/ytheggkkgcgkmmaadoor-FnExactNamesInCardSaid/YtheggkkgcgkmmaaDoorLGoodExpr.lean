
/-
  What is proved: the walk of the law FnExactGoodExpr. No condition beside what each theorem states.
-/
import Derived.Test.YtheggkkgcgkmmaaDoorSExpr
namespace Go.Proofs.YtheggkkgcgkmmaaDoor
open Go.ChangeShapes Go.WideShapes Go.ChangeAt Go.RowKit

theorem step_wt {l : List StepD} (h : wtL StepD.wt l ≤ 1048576) : l.length ≤ 1048576 ∧ ∀ t ∈ l, t.fName.size ≤ maxLen ∧ t.fMod.size ≤ maxLen := by
  unfold wtL at h
  refine ⟨by omega, fun t ht => ?_⟩
  have := wt_mem StepD.wt ht
  unfold StepD.wt at this h
  unfold maxLen
  omega

-- shell: FnExactGoodExpr
set_option maxHeartbeats 2000000 in
theorem law_FnExactGoodExpr (a : Option Addr) (len cap : Nat) (l : List StepD) (w : World) (hin : CameIn stepS StepD.came w a len l) (hk : Kept w) :
    Calls Tryd.prog 3 #[.slice a len cap] w fun e w' => e = .returned (.bool true) ∧ Below w.heap.size w w' := by
  obtain ⟨rfl, hl, hr, hc⟩ := hin
  have Hr := Lib.hid hr
  have Hc := Lib.hid hc
  have HK := Lib.hid hk
  clear hr hc hk
  go_enter Tryd.func3, Tryd.ntmps3
  go_wp2_with fail
  refine (lSzStepS a cap l _ 1048576 (by omega) (by omega) hl Hc.out Hr.out).mono ?_
  rintro e w1 ⟨r, rfl, hs, hb1⟩
  have B1 := Lib.hid hb1
  clear hb1
  rcases hs with rfl | ⟨h0, h1⟩
  · go_wp2_with fail
    go_ret
    exact ⟨rfl, B1.out⟩
  obtain ⟨hl2, hs⟩ := step_wt (l := l) (by omega)
  have Hs := Lib.hid hs
  clear h1 hs
  go_wp2_with fail
  refine (lToStepS a cap l _ hl2 (Hr.out.below B1.out)).mono ?_
  rintro e w2 ⟨rfl, hr2, hb2⟩
  have R2 := Lib.hid hr2.any
  have B2 := Lib.hid (B1.out.trans (hb2.mono B1.out.size))
  clear hr2 hb2
  go_wp2_with fail
  refine (sGoodExpr _ _ l _ hl2 Hs.out R2.out).mono ?_
  rintro e w3 ⟨rfl, hb3⟩
  have B3 := Lib.hid (B2.out.trans (hb3.mono B2.out.size))
  clear hb3
  go_wp2_with fail
  refine (lToStepS a cap l _ hl2 (Hr.out.below B3.out)).mono ?_
  rintro e w4 ⟨rfl, hr4, hb4⟩
  have R4 := Lib.hid hr4.any
  have B4 := Lib.hid (B3.out.trans (hb4.mono B3.out.size))
  clear hr4 hb4
  go_wp2_with fail
  refine (iGoodExpr _ _ l _ (HK.out.below B4.out) Hs.out R4.out).mono ?_
  rintro e w5 ⟨rfl, hb5⟩
  have R5 := Lib.hid (R4.out.below hb5)
  have B5 := Lib.hid (B4.out.trans (hb5.mono B4.out.size))
  clear hb5
  generalize goodEB l = q at *
  cases q
  all_goals
    go_wp2_with fail
    refine (lToStepS a cap l _ hl2 (Hr.out.below B5.out)).mono ?_
    rintro e w6 ⟨rfl, hr6, hb6⟩
    have R6 := Lib.hid hr6.any
    have R5' := Lib.hid (R5.out.below hb6)
    have B6 := Lib.hid (B5.out.trans (hb6.mono B5.out.size))
    clear hr6 hb6
    go_wp2_with fail
    refine (lEqStepS _ _ _ _ l _ hl2 R5'.out R6.out).mono ?_
    rintro e w7 ⟨rfl, hb7⟩
    go_wp2_with fail
    go_ret
    exact ⟨rfl, B6.out.trans (hb7.mono B6.out.size)⟩

end Go.Proofs.YtheggkkgcgkmmaaDoor
