
/-
  What is proved: the walk of the law FnExactGoodMods. No condition beside what each theorem states.
-/
import Derived.Test.YtbpbebhnledgnaaGreatMods
namespace Go.Proofs.YtbpbebhnledgnaaGreat
open Go.ChangeShapes Go.WideShapes Go.ChangeAt Go.RowKit
set_option maxRecDepth 100000

theorem sGoodMods (a : Option Addr) (c : Nat) (l : List ScopeD) (w : World) (hl : l.length ≤ 1048576) (hc : l.length ≤ c) (hc2 : c ≤ maxLen) (hK : ∀ s ∈ l, ScopeK s) (hr : Rows scopeE Any w a l) :
    Calls Tryz.prog 17 #[.slice a l.length c] w fun e w' => e = .returned (.bool (modsB l)) ∧ Below w.heap.size w w' := by
  have H := Lib.hid (sl6Mods a c l w hl hc hc2 hK hr)
  clear hK hr
  go_enter Tryz.func17, Tryz.ntmps17
  go_wp2_with fail
  refine H.out.mono ?_
  rintro e w1 ⟨rfl, hb1⟩
  go_wp2_with fail
  go_ret
  exact ⟨rfl, hb1⟩
theorem scopes_wt {l : List ScopeD} (h : wtL ScopeD.wt l ≤ 1048576) : l.length ≤ 1048576 ∧ ∀ x ∈ l, x.wt ≤ 1048576 :=
  ⟨by unfold wtL at h; omega, fun x hx => by have := wt_mem ScopeD.wt hx; unfold wtL at h; omega⟩

-- shell: FnExactGoodMods
set_option maxHeartbeats 2000000 in
theorem law_FnExactGoodMods (a : Option Addr) (len cap : Nat) (l : List ScopeD) (w : World) (hin : CameIn scopeS ScopeD.came w a len l) :
    Calls Tryz.prog 5 #[.slice a len cap] w fun e w' => e = .returned (.bool true) ∧ Below w.heap.size w w' := by
  obtain ⟨rfl, hl, hr, hc⟩ := hin
  have Hr := Lib.hid hr
  have Hc := Lib.hid hc
  clear hr hc
  go_enter Tryz.func5, Tryz.ntmps5
  go_wp2_with fail
  refine (lSzScopeS a cap l _ 1048576 (by omega) (by omega) hl Hc.out Hr.out).mono ?_
  rintro e w1 ⟨r, rfl, hs, hb1⟩
  have B1 := Lib.hid hb1
  clear hb1
  rcases hs with rfl | ⟨h0, h1⟩
  · go_wp2_with fail
    go_ret
    exact ⟨rfl, B1.out⟩
  obtain ⟨hl2, ht⟩ := scopes_wt (l := l) (by omega)
  have Ht := Lib.hid ht
  have HK := Lib.hid (show ∀ s ∈ l, ScopeK s from fun s hs => ScopeK.of (ht s hs))
  clear h1 ht
  go_wp2_with fail
  refine (lToScopeSB a cap l _ hl2 Ht.out (Hr.out.below B1.out)).mono ?_
  rintro e w2 ⟨rfl, hr2, _, _, hb2⟩
  have R2 := Lib.hid hr2.any
  have B2 := Lib.hid (B1.out.trans (hb2.mono B1.out.size))
  clear hr2 hb2
  go_wp2_with fail
  refine (sGoodMods _ _ l _ hl2 (Nat.le_refl _) hl HK.out R2.out).mono ?_
  rintro e w3 ⟨rfl, hb3⟩
  have B3 := Lib.hid (B2.out.trans (hb3.mono B2.out.size))
  clear hb3
  go_wp2_with fail
  refine (lToScopeSB a cap l _ hl2 Ht.out (Hr.out.below B3.out)).mono ?_
  rintro e w4 ⟨rfl, hr4, _, _, hb4⟩
  have R4 := Lib.hid hr4.any
  have B4 := Lib.hid (B3.out.trans (hb4.mono B3.out.size))
  clear hr4 hb4
  go_wp2_with fail
  refine (iGoodMods _ _ l _ hl2 HK.out R4.out).mono ?_
  rintro e w5 ⟨rfl, hb5⟩
  have R5 := Lib.hid (R4.out.below hb5)
  have B5 := Lib.hid (B4.out.trans (hb5.mono B4.out.size))
  clear hb5
  generalize modsB l = q at *
  cases q
  all_goals
    go_wp2_with fail
    refine (lToScopeSB a cap l _ hl2 Ht.out (Hr.out.below B5.out)).mono ?_
    rintro e w6 ⟨rfl, hr6, _, _, hb6⟩
    have R6 := Lib.hid hr6.any
    have R5' := Lib.hid (R5.out.below hb6)
    have B6 := Lib.hid (B5.out.trans (hb6.mono B5.out.size))
    clear hr6 hb6
    go_wp2_with fail
    refine (lEqScopeS _ _ _ _ l _ hl2 Ht.out R5'.out R6.out).mono ?_
    rintro e w7 ⟨rfl, hb7⟩
    go_wp2_with fail
    go_ret
    exact ⟨rfl, B6.out.trans (hb7.mono B6.out.size)⟩
end Go.Proofs.YtbpbebhnledgnaaGreat
