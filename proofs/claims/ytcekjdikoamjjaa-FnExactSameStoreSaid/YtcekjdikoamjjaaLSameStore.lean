
/-
  What is proved: the walk of the law FnExactSameStore. No condition beside what each theorem states.
-/
import Derived.Test.YtcekjdikoamjjaaSameMods
namespace Go.Proofs.Ytcekjdikoamjjaa
open Go.ChangeShapes Go.WideShapes Go.ChangeAt Go.RowKit

theorem modules_wt {l : List ModuleD} (h : wtL ModuleD.wt l ≤ 1048576) : l.length ≤ 1048576 ∧ ∀ x ∈ l, x.wt ≤ 1048576 :=
  ⟨by unfold wtL at h; omega, fun x hx => by have := wt_mem ModuleD.wt hx; unfold wtL at h; omega⟩

-- shell: FnExactSameStore
set_option maxRecDepth 100000 in
set_option maxHeartbeats 16000000 in
theorem law_FnExactSameStore (a : Option Addr) (len cap : Nat) (l : List ModuleD) (a' : Option Addr) (len' cap' : Nat) (m : List ModuleD) (w : World) (hin : CameIn moduleS ModuleD.came w a len l) (hin' : CameIn moduleS ModuleD.came w a' len' m) :
    Calls Try.prog 3 #[.slice a len cap, .slice a' len' cap'] w fun e w' => e = .returned (.bool true) ∧ Below w.heap.size w w' := by
  obtain ⟨rfl, hl, hr, hc⟩ := hin
  obtain ⟨rfl, hl', hr', hc'⟩ := hin'
  have Hr := Lib.hid hr
  have Hc := Lib.hid hc
  have Hr' := Lib.hid hr'
  have Hc' := Lib.hid hc'
  clear hr hc hr' hc'
  go_enter Try.func3, Try.ntmps3
  go_wp2_with fail
  refine (lSzModuleS a cap l _ 1048576 (by omega) (by omega) hl Hc.out Hr.out).mono ?_
  rintro e w1 ⟨r, rfl, hs, hb1⟩
  have B1 := Lib.hid hb1
  clear hb1
  rcases hs with rfl | ⟨h0, h1⟩
  · go_wp2_with fail
    go_ret
    exact ⟨rfl, B1.out⟩
  obtain ⟨hl2, hwt⟩ := modules_wt (l := l) (by omega)
  have HW := Lib.hid hwt
  have HK := Lib.hid (fun t ht => modK_of (hwt t ht))
  have hr0 : r ≤ 1048576 := by omega
  clear h1 hwt
  go_wp2_with fail
  refine (lSzModuleS a' cap' m _ r (by omega) (by omega) hl' Hc'.out (Hr'.out.below B1.out)).mono ?_
  rintro e w2 ⟨r2, rfl, hs, hb2⟩
  have B2 := Lib.hid (B1.out.trans (hb2.mono B1.out.size))
  clear hb2
  rcases hs with rfl | ⟨h2, h3⟩
  · go_wp2_with fail
    go_ret
    exact ⟨rfl, B2.out⟩
  obtain ⟨hm2, hwt⟩ := modules_wt (l := m) (by omega)
  have HW' := Lib.hid hwt
  clear h3 hwt
  go_wp2_with fail
  refine (lToModuleSB a cap l _ hl2 HW.out (Hr.out.below B2.out)).mono ?_
  rintro e w3 ⟨rfl, hr3, _, _, hb3⟩
  have R3 := Lib.hid (modE_S hr3.any)
  have B3 := Lib.hid (B2.out.trans (hb3.mono B2.out.size))
  clear hr3 hb3
  go_wp2_with fail
  refine (lToModuleSB a' cap' m _ hm2 HW'.out (Hr'.out.below B3.out)).mono ?_
  rintro e w4 ⟨rfl, hr4, _, _, hb4⟩
  have R4 := Lib.hid (R3.out.below hb4)
  have K4 := Lib.hid (modE_S hr4.any)
  have B4 := Lib.hid (B3.out.trans (hb4.mono B3.out.size))
  clear hr4 hb4
  go_wp2_with fail
  refine (sSameStore _ _ _ _ l m _ hl2 HK.out R4.out K4.out).mono ?_
  rintro e w5 ⟨rfl, hb5⟩
  have B5 := Lib.hid (B4.out.trans (hb5.mono B4.out.size))
  clear hb5
  go_wp2_with fail
  refine (lToModuleSB a cap l _ hl2 HW.out (Hr.out.below B5.out)).mono ?_
  rintro e w6 ⟨rfl, hr6, _, _, hb6⟩
  have S6 := Lib.hid hr6.any
  have B6 := Lib.hid (B5.out.trans (hb6.mono B5.out.size))
  clear hr6 hb6
  go_wp2_with fail
  refine (lToModuleSB a' cap' m _ hm2 HW'.out (Hr'.out.below B6.out)).mono ?_
  rintro e w7 ⟨rfl, hr7, _, _, hb7⟩
  have S7 := Lib.hid (S6.out.below hb7)
  have T7 := Lib.hid hr7.any
  have B7 := Lib.hid (B6.out.trans (hb7.mono B6.out.size))
  clear hr7 hb7
  go_wp2_with fail
  refine (iSameStore _ _ _ _ l m _ hl2 HK.out (modE_S S7.out) (modE_S T7.out)).mono ?_
  rintro e w8 ⟨rfl, hb8⟩
  have S8 := Lib.hid (S7.out.below hb8)
  have T8 := Lib.hid (T7.out.below hb8)
  have B8 := Lib.hid (B7.out.trans (hb8.mono B7.out.size))
  clear hb8
  generalize sameB l m = v at *
  cases v
  all_goals
    go_wp2_with fail
    refine (lToModuleSB a cap l _ hl2 HW.out (Hr.out.below B8.out)).mono ?_
    rintro e w9 ⟨rfl, hr9, _, _, hb9⟩
    have S9 := Lib.hid (S8.out.below hb9)
    have T9 := Lib.hid (T8.out.below hb9)
    have U9 := Lib.hid hr9.any
    have B9 := Lib.hid (B8.out.trans (hb9.mono B8.out.size))
    clear hr9 hb9
    go_wp2_with fail
    refine (lEqModuleS _ _ _ _ l _ hl2 HW.out S9.out U9.out).mono ?_
    rintro e w10 ⟨rfl, hb10⟩
    have T10 := Lib.hid (T9.out.below hb10)
    have B10 := Lib.hid (B9.out.trans (hb10.mono B9.out.size))
    clear hb10
    go_wp2_with fail
    refine (lToModuleSB a' cap' m _ hm2 HW'.out (Hr'.out.below B10.out)).mono ?_
    rintro e w11 ⟨rfl, hr11, _, _, hb11⟩
    have T11 := Lib.hid (T10.out.below hb11)
    have U11 := Lib.hid hr11.any
    have B11 := Lib.hid (B10.out.trans (hb11.mono B10.out.size))
    clear hr11 hb11
    go_wp2_with fail
    refine (lEqModuleS _ _ _ _ m _ hm2 HW'.out T11.out U11.out).mono ?_
    rintro e w12 ⟨rfl, hb12⟩
    have B12 := Lib.hid (B11.out.trans (hb12.mono B11.out.size))
    clear hb12
    go_wp2_with fail
    go_ret
    exact ⟨rfl, B12.out⟩
end Go.Proofs.Ytcekjdikoamjjaa
