
/-
  What is proved: the walk of the law FnExactSameTypes. No condition beside what each theorem states.
-/
import Derived.Test.YtkbgkfmflieidaaLaws3
import Derived.Test.YtkbgkfmflieidaaSame
namespace Go.Proofs.Ytkbgkfmflieidaa
open Go.ChangeShapes Go.WideShapes Go.ChangeAt Go.RowKit

-- shell: FnExactSameTypes
set_option maxHeartbeats 4000000 in
theorem law_FnExactSameTypes (a : Option Addr) (len cap : Nat) (A : List TypeD) (x : Int) (b : Option Addr) (len' cap' : Nat) (B : List TypeD) (y : Int) (w : World) (hin : CameIn typeS TypeD.came w a len A) (_ : (Lit.int .i64 x).wf = true) (hin' : CameIn typeS TypeD.came w b len' B) (_ : (Lit.int .i64 y).wf = true) :
    Calls Try.prog 9 #[.slice a len cap, .int .i64 x, .slice b len' cap', .int .i64 y] w fun e w' => e = .returned (.bool true) ∧ Below w.heap.size w w' := by
  obtain ⟨rfl, hl, hr, hc⟩ := hin
  obtain ⟨rfl, hl', hr', hc'⟩ := hin'
  have Hr := Lib.hid hr
  have Hc := Lib.hid hc
  have Hr' := Lib.hid hr'
  have Hc' := Lib.hid hc'
  clear hr hc hr' hc'
  go_enter Try.func9, Try.ntmps9
  go_wp2_with fail
  refine (lSzTypeS a cap A _ 1048576 (by omega) (by omega) hl Hc.out Hr.out).mono ?_
  rintro e w1 ⟨r, rfl, hs, hb1⟩
  have B1 := Lib.hid hb1
  clear hb1
  rcases hs with rfl | ⟨h0, h1⟩
  · go_wp2_with fail
    go_ret
    exact ⟨rfl, B1.out⟩
  have hr1 : r ≤ 1048576 := by omega
  obtain ⟨hl2, hs, hm⟩ := type_wt (l := A) (by omega)
  have Hs := Lib.hid hs
  have Hm := Lib.hid hm
  clear h1 hs hm
  go_wp2_with fail
  refine (lSzTypeS b cap' B _ r h0 hr1 hl' Hc'.out (Hr'.out.below B1.out)).mono ?_
  rintro e w2 ⟨r', rfl, hs, hb2⟩
  have B2 := Lib.hid (B1.out.trans (hb2.mono B1.out.size))
  clear hb2
  rcases hs with rfl | ⟨h0', h1'⟩
  · go_wp2_with fail
    go_ret
    exact ⟨rfl, B2.out⟩
  obtain ⟨hl2', hs, hm⟩ := type_wt (l := B) (by omega)
  have Hs' := Lib.hid hs
  have Hm' := Lib.hid hm
  clear h1' hs hm
  go_wp2_with fail
  refine (lToTypeS a cap A _ hl2 Hs.out (Hr.out.below B2.out)).mono ?_
  rintro e w3 ⟨rfl, hr3, hb3⟩
  have RA3 := Lib.hid hr3.any
  have B3 := Lib.hid (B2.out.trans (hb3.mono B2.out.size))
  clear hr3 hb3
  go_wp2_with fail
  refine (lToTypeS b cap' B _ hl2' Hs'.out (Hr'.out.below B3.out)).mono ?_
  rintro e w4 ⟨rfl, hr4, hb4⟩
  have RB4 := Lib.hid hr4.any
  have RA4 := Lib.hid (RA3.out.below hb4)
  have B4 := Lib.hid (B3.out.trans (hb4.mono B3.out.size))
  clear hr4 hb4
  go_wp2_with fail
  refine (sSameTypes _ _ _ _ A B x y _ hl2 (Nat.le_refl _) hl Hm.out RA4.out hl2' (Nat.le_refl _) hl' Hm'.out RB4.out).mono ?_
  rintro e w5 ⟨rfl, hb5⟩
  have B5 := Lib.hid (B4.out.trans (hb5.mono B4.out.size))
  clear hb5
  go_wp2_with fail
  refine (lToTypeS a cap A _ hl2 Hs.out (Hr.out.below B5.out)).mono ?_
  rintro e w6 ⟨rfl, hr6, hb6⟩
  have RA6 := Lib.hid hr6.any
  have B6 := Lib.hid (B5.out.trans (hb6.mono B5.out.size))
  clear hr6 hb6
  go_wp2_with fail
  refine (lToTypeS b cap' B _ hl2' Hs'.out (Hr'.out.below B6.out)).mono ?_
  rintro e w7 ⟨rfl, hr7, hb7⟩
  have RB7 := Lib.hid hr7.any
  have RA7 := Lib.hid (RA6.out.below hb7)
  have B7 := Lib.hid (B6.out.trans (hb7.mono B6.out.size))
  clear hr7 hb7
  go_wp2_with fail
  refine (iSameTypes _ _ _ _ A B x y _ hl2 (Nat.le_refl _) hl Hm.out RA7.out hl2' (Nat.le_refl _) hl' Hm'.out RB7.out).mono ?_
  rintro e w8 ⟨rfl, hb8⟩
  have RA8 := Lib.hid (RA7.out.below hb8)
  have RB8 := Lib.hid (RB7.out.below hb8)
  have B8 := Lib.hid (B7.out.trans (hb8.mono B7.out.size))
  clear hb8
  generalize sameA A B x y = q at *
  generalize sameOk A B x y = q' at *
  cases q <;> cases q'
  all_goals
    go_wp2_with fail
    refine (lToTypeS a cap A _ hl2 Hs.out (Hr.out.below B8.out)).mono ?_
    rintro e w9 ⟨rfl, hr9, hb9⟩
    have RA9 := Lib.hid hr9.any
    have RA9' := Lib.hid (RA8.out.below hb9)
    have RB9 := Lib.hid (RB8.out.below hb9)
    have B9 := Lib.hid (B8.out.trans (hb9.mono B8.out.size))
    clear hr9 hb9
    go_wp2_with fail
    refine (lEqTypeS _ _ _ _ A _ hl2 Hs.out RA9'.out RA9.out).mono ?_
    rintro e w10 ⟨rfl, hb10⟩
    have RB10 := Lib.hid (RB9.out.below hb10)
    have B10 := Lib.hid (B9.out.trans (hb10.mono B9.out.size))
    clear hb10
    go_wp2_with fail
    refine (lToTypeS b cap' B _ hl2' Hs'.out (Hr'.out.below B10.out)).mono ?_
    rintro e w11 ⟨rfl, hr11, hb11⟩
    have RB11 := Lib.hid hr11.any
    have RB11' := Lib.hid (RB10.out.below hb11)
    have B11 := Lib.hid (B10.out.trans (hb11.mono B10.out.size))
    clear hr11 hb11
    go_wp2_with fail
    refine (lEqTypeS _ _ _ _ B _ hl2' Hs'.out RB11'.out RB11.out).mono ?_
    rintro e w12 ⟨rfl, hb12⟩
    go_wp2_with fail
    go_ret
    exact ⟨rfl, B11.out.trans (hb12.mono B11.out.size)⟩
end Go.Proofs.Ytkbgkfmflieidaa
