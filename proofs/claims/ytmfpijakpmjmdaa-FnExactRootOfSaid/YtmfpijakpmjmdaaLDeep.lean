
/-
  What is proved: the walks of the laws FnExactDeepOf and FnExactRootOf. No condition beside what each theorem states.
-/
import Derived.Test.YtmfpijakpmjmdaaLaws3
import Derived.Test.YtmfpijakpmjmdaaDeep
namespace Go.Proofs.Ytmfpijakpmjmdaa
open Go.ChangeShapes Go.WideShapes Go.ChangeAt Go.RowKit

-- shell: FnExactDeepOf
set_option maxHeartbeats 2000000 in
theorem law_FnExactDeepOf (a : Option Addr) (len cap : Nat) (l : List TypeD) (x : Int) (w : World) (hin : CameIn typeS TypeD.came w a len l) (_ : (Lit.int .i64 x).wf = true) :
    Calls Try.prog 6 #[.slice a len cap, .int .i64 x] w fun e w' => e = .returned (.bool true) ∧ Below w.heap.size w w' := by
  obtain ⟨rfl, hl, hr, hc⟩ := hin
  have Hr := Lib.hid hr
  have Hc := Lib.hid hc
  clear hr hc
  go_enter Try.func6, Try.ntmps6
  go_wp2_with fail
  refine (lSzTypeS a cap l _ 1048576 (by omega) (by omega) hl Hc.out Hr.out).mono ?_
  rintro e w1 ⟨r, rfl, hs, hb1⟩
  have B1 := Lib.hid hb1
  clear hb1
  rcases hs with rfl | ⟨h0, h1⟩
  · go_wp2_with fail
    go_ret
    exact ⟨rfl, B1.out⟩
  obtain ⟨hl2, hs, hm⟩ := type_wt (l := l) (by omega)
  have Hs := Lib.hid hs
  have Hm := Lib.hid hm
  clear h1 hs hm
  go_wp2_with fail
  refine (lToTypeS a cap l _ hl2 Hs.out (Hr.out.below B1.out)).mono ?_
  rintro e w2 ⟨rfl, hr2, hb2⟩
  have R2 := Lib.hid hr2.any
  have B2 := Lib.hid (B1.out.trans (hb2.mono B1.out.size))
  clear hr2 hb2
  go_wp2_with fail
  refine (sDeepOf _ _ l x _ hl2 (Nat.le_refl _) hl Hm.out R2.out).mono ?_
  rintro e w3 ⟨rfl, hb3⟩
  have B3 := Lib.hid (B2.out.trans (hb3.mono B2.out.size))
  clear hb3
  go_wp2_with fail
  refine (lToTypeS a cap l _ hl2 Hs.out (Hr.out.below B3.out)).mono ?_
  rintro e w4 ⟨rfl, hr4, hb4⟩
  have R4 := Lib.hid hr4.any
  have B4 := Lib.hid (B3.out.trans (hb4.mono B3.out.size))
  clear hr4 hb4
  go_wp2_with fail
  refine (iDeepOf _ _ l x _ hl2 (Nat.le_refl _) hl Hm.out R4.out).mono ?_
  rintro e w5 ⟨rfl, hb5⟩
  have R5 := Lib.hid (R4.out.below hb5)
  have B5 := Lib.hid (B4.out.trans (hb5.mono B4.out.size))
  clear hb5
  generalize deepA l x = q at *
  generalize recB l x = q' at *
  cases q'
  all_goals
    go_wp2_with fail
    refine (lToTypeS a cap l _ hl2 Hs.out (Hr.out.below B5.out)).mono ?_
    rintro e w6 ⟨rfl, hr6, hb6⟩
    have R6 := Lib.hid hr6.any
    have R5' := Lib.hid (R5.out.below hb6)
    have B6 := Lib.hid (B5.out.trans (hb6.mono B5.out.size))
    clear hr6 hb6
    go_wp2_with fail
    refine (lEqTypeS _ _ _ _ l _ hl2 Hs.out R5'.out R6.out).mono ?_
    rintro e w7 ⟨rfl, hb7⟩
    go_wp2_with fail
    go_ret
    exact ⟨rfl, B6.out.trans (hb7.mono B6.out.size)⟩

-- shell: FnExactRootOf
set_option maxHeartbeats 2000000 in
theorem law_FnExactRootOf (a : Option Addr) (len cap : Nat) (l : List TypeD) (x : Int) (w : World) (hin : CameIn typeS TypeD.came w a len l) (_ : (Lit.int .i64 x).wf = true) :
    Calls Try.prog 7 #[.slice a len cap, .int .i64 x] w fun e w' => e = .returned (.bool true) ∧ Below w.heap.size w w' := by
  obtain ⟨rfl, hl, hr, hc⟩ := hin
  have Hr := Lib.hid hr
  have Hc := Lib.hid hc
  clear hr hc
  go_enter Try.func7, Try.ntmps7
  go_wp2_with fail
  refine (lSzTypeS a cap l _ 1048576 (by omega) (by omega) hl Hc.out Hr.out).mono ?_
  rintro e w1 ⟨r, rfl, hs, hb1⟩
  have B1 := Lib.hid hb1
  clear hb1
  rcases hs with rfl | ⟨h0, h1⟩
  · go_wp2_with fail
    go_ret
    exact ⟨rfl, B1.out⟩
  obtain ⟨hl2, hs, hm⟩ := type_wt (l := l) (by omega)
  have Hs := Lib.hid hs
  have Hm := Lib.hid hm
  clear h1 hs hm
  go_wp2_with fail
  refine (lToTypeS a cap l _ hl2 Hs.out (Hr.out.below B1.out)).mono ?_
  rintro e w2 ⟨rfl, hr2, hb2⟩
  have R2 := Lib.hid hr2.any
  have B2 := Lib.hid (B1.out.trans (hb2.mono B1.out.size))
  clear hr2 hb2
  go_wp2_with fail
  refine (sRootOf _ _ l x _ hl2 (Nat.le_refl _) hl Hm.out R2.out).mono ?_
  rintro e w3 ⟨rfl, hb3⟩
  have B3 := Lib.hid (B2.out.trans (hb3.mono B2.out.size))
  clear hb3
  go_wp2_with fail
  refine (lToTypeS a cap l _ hl2 Hs.out (Hr.out.below B3.out)).mono ?_
  rintro e w4 ⟨rfl, hr4, hb4⟩
  have R4 := Lib.hid hr4.any
  have B4 := Lib.hid (B3.out.trans (hb4.mono B3.out.size))
  clear hr4 hb4
  go_wp2_with fail
  refine (iRootOf _ _ l x _ hl2 (Nat.le_refl _) hl Hm.out R4.out).mono ?_
  rintro e w5 ⟨rfl, hb5⟩
  have R5 := Lib.hid (R4.out.below hb5)
  have B5 := Lib.hid (B4.out.trans (hb5.mono B4.out.size))
  clear hb5
  generalize rootA l x = q at *
  generalize recB l x = q' at *
  cases q'
  all_goals
    go_wp2_with fail
    refine (lToTypeS a cap l _ hl2 Hs.out (Hr.out.below B5.out)).mono ?_
    rintro e w6 ⟨rfl, hr6, hb6⟩
    have R6 := Lib.hid hr6.any
    have R5' := Lib.hid (R5.out.below hb6)
    have B6 := Lib.hid (B5.out.trans (hb6.mono B5.out.size))
    clear hr6 hb6
    go_wp2_with fail
    refine (lEqTypeS _ _ _ _ l _ hl2 Hs.out R5'.out R6.out).mono ?_
    rintro e w7 ⟨rfl, hb7⟩
    go_wp2_with fail
    go_ret
    exact ⟨rfl, B6.out.trans (hb7.mono B6.out.size)⟩
end Go.Proofs.Ytmfpijakpmjmdaa
