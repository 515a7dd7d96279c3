
/-
  What is proved: the walk of the law FnExactGoodSeen. No condition beside what each theorem states.
-/
import Derived.Test.YtjbnabjfeepbeaaSeenG
namespace Go.Proofs.Ytjbnabjfeepbeaa
open Go.ChangeShapes Go.WideShapes Go.ChangeAt Go.RowKit

theorem sGoodSeen (a : Option Addr) (c : Nat) (l : List SeenD) (w : World) (hl : l.length ≤ 1048576) (hc : l.length ≤ c) (hc2 : c ≤ maxLen) (hs : ∀ t ∈ l, t.fMod.size ≤ maxLen ∧ t.fName.size ≤ maxLen) (hr : Rows seenS Any w a l) :
    Calls Try.prog 30 #[.slice a l.length c] w fun e w' => e = .returned (.bool (seenB l)) ∧ Below w.heap.size w w' := by
  have H := Lib.hid (sl9Good a c l w hl hc hc2 hs hr)
  clear hs hr
  go_enter Try.func30, Try.ntmps30
  go_wp2_with fail
  refine H.out.mono ?_
  rintro e w1 ⟨rfl, hb1⟩
  go_wp2_with fail
  go_ret
  exact ⟨rfl, hb1⟩
theorem seen_wt {l : List SeenD} (h : wtL SeenD.wt l ≤ 1048576) : l.length ≤ 1048576 := by unfold wtL at h; omega
theorem seen_came {l : List SeenD} (h : ∀ t ∈ l, t.came) : ∀ t ∈ l, t.fMod.size ≤ maxLen ∧ t.fName.size ≤ maxLen := fun t ht => ⟨(h t ht).1, (h t ht).2.1⟩

-- shell: FnExactGoodSeen
set_option maxHeartbeats 2000000 in
theorem law_FnExactGoodSeen (a : Option Addr) (len cap : Nat) (l : List SeenD) (w : World) (hin : CameIn seenS SeenD.came w a len l) :
    Calls Try.prog 5 #[.slice a len cap] w fun e w' => e = .returned (.bool true) ∧ Below w.heap.size w w' := by
  obtain ⟨rfl, hl, hr, hc⟩ := hin
  have Hr := Lib.hid hr
  have Hc := Lib.hid hc
  have Hs := Lib.hid (seen_came hc)
  clear hr hc
  go_enter Try.func5, Try.ntmps5
  go_wp2_with fail
  refine (lSzSeenS a cap l _ 1048576 (by omega) (by omega) hl Hc.out Hr.out).mono ?_
  rintro e w1 ⟨r, rfl, hs, hb1⟩
  have B1 := Lib.hid hb1
  clear hb1
  rcases hs with rfl | ⟨h0, h1⟩
  · go_wp2_with fail
    go_ret
    exact ⟨rfl, B1.out⟩
  have hl2 := seen_wt (l := l) (by omega)
  clear h1
  go_wp2_with fail
  refine (lToSeenS a cap l _ hl2 (Hr.out.below B1.out)).mono ?_
  rintro e w2 ⟨rfl, hr2, hb2⟩
  have R2 := Lib.hid hr2.any
  have B2 := Lib.hid (B1.out.trans (hb2.mono B1.out.size))
  clear hr2 hb2
  go_wp2_with fail
  refine (sGoodSeen _ _ l _ hl2 (Nat.le_refl _) hl Hs.out R2.out).mono ?_
  rintro e w3 ⟨rfl, hb3⟩
  have B3 := Lib.hid (B2.out.trans (hb3.mono B2.out.size))
  clear hb3
  go_wp2_with fail
  refine (lToSeenS a cap l _ hl2 (Hr.out.below B3.out)).mono ?_
  rintro e w4 ⟨rfl, hr4, hb4⟩
  have R4 := Lib.hid hr4.any
  have B4 := Lib.hid (B3.out.trans (hb4.mono B3.out.size))
  clear hr4 hb4
  go_wp2_with fail
  refine (iGoodSeen _ _ l _ hl2 Hs.out R4.out).mono ?_
  rintro e w5 ⟨rfl, hb5⟩
  have R5 := Lib.hid (R4.out.below hb5)
  have B5 := Lib.hid (B4.out.trans (hb5.mono B4.out.size))
  clear hb5
  generalize seenB l = q at *
  cases q
  all_goals
    go_wp2_with fail
    refine (lToSeenS a cap l _ hl2 (Hr.out.below B5.out)).mono ?_
    rintro e w6 ⟨rfl, hr6, hb6⟩
    have R6 := Lib.hid hr6.any
    have R5' := Lib.hid (R5.out.below hb6)
    have B6 := Lib.hid (B5.out.trans (hb6.mono B5.out.size))
    clear hr6 hb6
    go_wp2_with fail
    refine (lEqSeenS _ _ _ _ l _ hl2 R5'.out R6.out).mono ?_
    rintro e w7 ⟨rfl, hb7⟩
    go_wp2_with fail
    go_ret
    exact ⟨rfl, B6.out.trans (hb7.mono B6.out.size)⟩
end Go.Proofs.Ytjbnabjfeepbeaa
