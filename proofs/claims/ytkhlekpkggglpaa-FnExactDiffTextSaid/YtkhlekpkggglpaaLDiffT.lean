
/-
  What is proved: the walk of the law FnExactDiffText. No condition beside what each theorem states.
-/
import Derived.Test.YtkhlekpkggglpaaChgX
namespace Go.Proofs.Ytkhlekpkggglpaa
open Go.ChangeShapes Go.WideShapes Go.ChangeAt Go.RowKit

theorem chg_wt {l : List ChangeD} (h : wtL ChangeD.wt l ≤ 1048576) : l.length ≤ 1048576 := by unfold wtL at h; omega
theorem chg_came {l : List ChangeD} (h : ∀ t ∈ l, t.came) : ∀ t ∈ l, t.fName.size ≤ maxLen := fun t ht => (h t ht).1

-- shell: FnExactDiffText
set_option maxHeartbeats 2000000 in
theorem law_FnExactDiffText (a : Option Addr) (len cap : Nat) (l : List ChangeD) (w : World) (hin : CameIn changeS ChangeD.came w a len l) :
    Calls Try.prog 4 #[.slice a len cap] w fun e w' => e = .returned (.bool true) ∧ Below w.heap.size w w' := by
  obtain ⟨rfl, hl, hr, hc⟩ := hin
  have Hr := Lib.hid hr
  have Hc := Lib.hid hc
  have Hs := Lib.hid (chg_came hc)
  clear hr hc
  go_enter Try.func4, Try.ntmps4
  go_wp2_with fail
  refine (lSzChangeS a cap l _ 1048576 (by omega) (by omega) hl Hc.out Hr.out).mono ?_
  rintro e w1 ⟨r, rfl, hs, hb1⟩
  have B1 := Lib.hid hb1
  clear hb1
  rcases hs with rfl | ⟨h0, h1⟩
  · go_wp2_with fail
    go_ret
    exact ⟨rfl, B1.out⟩
  have hl2 := chg_wt (l := l) (by omega)
  clear h1
  go_wp2_with fail
  refine (lToChangeS a cap l _ hl2 (Hr.out.below B1.out)).mono ?_
  rintro e w2 ⟨rfl, hr2, hb2⟩
  have R2 := Lib.hid hr2.any
  have B2 := Lib.hid (B1.out.trans (hb2.mono B1.out.size))
  clear hr2 hb2
  go_wp2_with fail
  refine (sDiffText _ _ l _ hl2 (Nat.le_refl _) hl Hs.out R2.out).mono ?_
  rintro e w3 ⟨rfl, hb3⟩
  have B3 := Lib.hid (B2.out.trans (hb3.mono B2.out.size))
  clear hb3
  go_wp2_with fail
  refine (lToChangeS a cap l _ hl2 (Hr.out.below B3.out)).mono ?_
  rintro e w4 ⟨rfl, hr4, hb4⟩
  have R4 := Lib.hid hr4.any
  have B4 := Lib.hid (B3.out.trans (hb4.mono B3.out.size))
  clear hr4 hb4
  go_wp2_with fail
  refine (iDiffText _ _ l _ hl2 Hs.out R4.out).mono ?_
  rintro e w5 ⟨rfl, hb5⟩
  have R5 := Lib.hid (R4.out.below hb5)
  have B5 := Lib.hid (B4.out.trans (hb5.mono B4.out.size))
  clear hb5
  generalize chgB l = q at *
  generalize diffT l = z at *
  have hzz : (z.toList == z.toList) = true := by simp
  cases q
  all_goals
    go_wp2_with fail
    refine (lToChangeS a cap l _ hl2 (Hr.out.below B5.out)).mono ?_
    rintro e w6 ⟨rfl, hr6, hb6⟩
    have R6 := Lib.hid hr6.any
    have R5' := Lib.hid (R5.out.below hb6)
    have B6 := Lib.hid (B5.out.trans (hb6.mono B5.out.size))
    clear hr6 hb6
    go_wp2_with fail
    refine (lEqChangeS _ _ _ _ l _ hl2 R5'.out R6.out).mono ?_
    rintro e w7 ⟨rfl, hb7⟩
    go_wp2_with fail
    go_ret
    exact ⟨rfl, B6.out.trans (hb7.mono B6.out.size)⟩
end Go.Proofs.Ytkhlekpkggglpaa
