
/-
  What is proved: contracts of IsRound, the program's and the model's; the walks of the laws FnExactGoodTypes and FnExactIsRound. No condition beside what each theorem states.
-/
import Derived.Test.YtkbgkfmflieidaaAt
namespace Go.Proofs.Ytkbgkfmflieidaa
open Go.ChangeShapes Go.WideShapes Go.ChangeAt Go.RowKit

open Classical in
noncomputable def isRoundOk (l : List TypeD) (n : Int) : Bool := decide (near l ∧ 0 ≤ n ∧ n < (l.length : Int))
open Classical in
noncomputable def isRoundA (l : List TypeD) (n : Int) : Bool := decide ((near l ∧ 0 ≤ n ∧ n < (l.length : Int)) ∧ roundP l n.toNat)
theorem isRound_out {l : List TypeD} {n : Int} (h : ¬ (near l ∧ 0 ≤ n ∧ n < (l.length : Int))) : isRoundOk l n = false ∧ isRoundA l n = false := by
  unfold isRoundOk isRoundA
  simp only [decide_eq_false_iff_not]
  exact ⟨h, fun g => h g.1⟩
theorem isRound_in {l : List TypeD} {n : Nat} (h : near l) (hn : n < l.length) : isRoundOk l n = true ∧ isRoundA l n = roundB l n := by
  unfold isRoundOk isRoundA roundB
  have h0 : near l ∧ 0 ≤ (n : Int) ∧ (n : Int) < (l.length : Int) := ⟨h, by omega, by omega⟩
  rw [Int.toNat_natCast]
  exact ⟨by simp only [decide_eq_true_eq]; exact h0, by simp only [decide_eq_decide]; exact ⟨fun g => g.2, fun g => ⟨h0, g⟩⟩⟩
theorem ix_parts {l : List TypeD} {n : Int} (h : 0 ≤ n ∧ n < (l.length : Int)) : ∃ k : Nat, n = (k : Int) ∧ k < l.length := by
  obtain ⟨k, rfl⟩ := Int.eq_ofNat_of_zero_le h.1
  exact ⟨k, rfl, by omega⟩

set_option maxRecDepth 100000 in
set_option maxHeartbeats 4000000 in
theorem iIsRound (a : Option Addr) (c : Nat) (l : List TypeD) (n : Int) (w : World) (hl : l.length ≤ 1048576) (hc : l.length ≤ c) (hc2 : c ≤ maxLen) (hm : ∀ t ∈ l, t.mod) (hr : Rows typeS Any w a l) :
    Calls Try.prog 25 #[.slice a l.length c, .int .i64 n] w fun e w' => e = .returned (.tuple #[.bool (isRoundA l n), .bool (isRoundOk l n)]) ∧ Below w.heap.size w w' := by
  have Hr := Lib.hid hr
  have Hm := Lib.hid hm
  clear hr hm
  go_enter Try.func25, Try.ntmps25
  go_wp2_with fail
  refine (iAreShaped a c l w hl hc hc2 Hm.out Hr.out).mono ?_
  rintro e w1 ⟨rfl, hb1⟩
  have B1 := Lib.hid hb1
  have R1 := Lib.hid (Hr.out.below hb1)
  clear hb1
  by_cases hne : near l
  · have hq := nearB_true hne
    have Hne := Lib.hid hne
    clear hne
    generalize nearB l = q at *
    subst hq
    by_cases hin : 0 ≤ n ∧ n < (l.length : Int)
    · obtain ⟨k, rfl, hk⟩ := ix_parts hin
      have Hv := Lib.hid (isRound_in Hne.out hk)
      go_wp2_with fail
      refine (iTypeNumber a c l.length _ _).mono ?_
      rintro e w2 ⟨rfl, rfl⟩
      rw [show decide (0 ≤ (k : Int) ∧ (k : Int) < (l.length : Int)) = true from decide_eq_true hin]
      go_wp2_with fail
      refine (iComesBack a c l k w1 hk Hne.out R1.out).mono ?_
      rintro e w3 ⟨rfl, hb2⟩
      have B2 := Lib.hid (B1.out.trans (hb2.mono B1.out.size))
      clear hb2
      go_wp2_with fail
      go_ret2
      exact ⟨by rw [Hv.out.1, Hv.out.2]; rfl, B2.out⟩
    · have Hv := Lib.hid (isRound_out (l := l) (n := n) (fun h => hin h.2))
      go_wp2_with fail
      refine (iTypeNumber a c l.length _ _).mono ?_
      rintro e w2 ⟨rfl, rfl⟩
      rw [show decide (0 ≤ n ∧ n < (l.length : Int)) = false from decide_eq_false hin]
      go_wp2_with fail
      go_ret2
      exact ⟨by rw [Hv.out.1, Hv.out.2]; rfl, B1.out⟩
  · have hq := nearB_false hne
    have Hv := Lib.hid (isRound_out (l := l) (n := n) (fun h => hne h.1))
    clear hne
    generalize nearB l = q at *
    subst hq
    go_wp2_with fail
    go_ret2
    exact ⟨by rw [Hv.out.1, Hv.out.2]; rfl, B1.out⟩

set_option maxRecDepth 100000 in
set_option maxHeartbeats 4000000 in
theorem sIsRound (a : Option Addr) (c : Nat) (l : List TypeD) (n : Int) (w : World) (hl : l.length ≤ 1048576) (hc : l.length ≤ c) (hc2 : c ≤ maxLen) (hm : ∀ t ∈ l, t.mod) (hr : Rows typeS Any w a l) :
    Calls Try.prog 24 #[.slice a l.length c, .int .i64 n] w fun e w' => e = .returned (.tuple #[.bool (isRoundA l n), .bool (isRoundOk l n)]) ∧ Below w.heap.size w w' := by
  have Hr := Lib.hid hr
  have Hm := Lib.hid hm
  clear hr hm
  go_enter Try.func24, Try.ntmps24
  go_wp2_with fail
  refine (sl3Nearly a c l w hl hc hc2 Hm.out Hr.out).mono ?_
  rintro e w1 ⟨rfl, hb1⟩
  have B1 := Lib.hid hb1
  have R1 := Lib.hid (Hr.out.below hb1)
  clear hb1
  by_cases hne : near l
  · have hq := nearB_true hne
    have Hne := Lib.hid hne
    clear hne
    generalize nearB l = q at *
    subst hq
    by_cases hin : 0 ≤ n ∧ n < (l.length : Int)
    · obtain ⟨k, rfl, hk⟩ := ix_parts hin
      have Hv := Lib.hid (isRound_in Hne.out hk)
      go_wp2_with fail
      refine (sIn_yes _ _ _ _ (by omega) (by omega)).mono ?_
      rintro e w2 ⟨rfl, rfl⟩
      go_wp2_with fail
      refine (sl3Round a c l k w1 hk Hne.out R1.out).mono ?_
      rintro e w3 ⟨rfl, hb2⟩
      have B2 := Lib.hid (B1.out.trans (hb2.mono B1.out.size))
      clear hb2
      go_wp2_with fail
      go_ret2
      exact ⟨by rw [Hv.out.1, Hv.out.2]; rfl, B2.out⟩
    · have Hv := Lib.hid (isRound_out (l := l) (n := n) (fun h => hin h.2))
      go_wp2_with fail
      refine (sIn_no _ _ _ _ (by omega)).mono ?_
      rintro e w2 ⟨rfl, rfl⟩
      go_wp2_with fail
      go_ret2
      exact ⟨by rw [Hv.out.1, Hv.out.2]; rfl, B1.out⟩
  · have hq := nearB_false hne
    have Hv := Lib.hid (isRound_out (l := l) (n := n) (fun h => hne h.1))
    clear hne
    generalize nearB l = q at *
    subst hq
    go_wp2_with fail
    go_ret2
    exact ⟨by rw [Hv.out.1, Hv.out.2]; rfl, B1.out⟩
end Go.Proofs.Ytkbgkfmflieidaa

namespace Go.Proofs.Ytkbgkfmflieidaa
open Go.ChangeShapes Go.WideShapes Go.ChangeAt Go.RowKit

theorem type_wt {l : List TypeD} (h : wtL TypeD.wt l ≤ 1048576) : l.length ≤ 1048576 ∧ (∀ t ∈ l, t.wt ≤ 1048576) ∧ ∀ t ∈ l, t.mod := by
  unfold wtL at h
  have h1 : ∀ t ∈ l, t.wt ≤ 1048576 := fun t ht => by have := wt_mem TypeD.wt ht; omega
  refine ⟨by omega, h1, fun t ht => ?_⟩
  have h2 := h1 t ht
  unfold TypeD.wt wtL at h2
  refine ⟨by unfold maxLen; omega, by unfold maxLen; omega, by omega, fun f hf => ?_⟩
  have h4 := wt_mem FieldD.wt hf
  unfold FieldD.wt at h4 h2
  unfold maxLen
  omega

-- shell: FnExactGoodTypes
set_option maxHeartbeats 2000000 in
theorem law_FnExactGoodTypes (a : Option Addr) (len cap : Nat) (l : List TypeD) (w : World) (hin : CameIn typeS TypeD.came w a len l) :
    Calls Try.prog 4 #[.slice a len cap] w fun e w' => e = .returned (.bool true) ∧ Below w.heap.size w w' := by
  obtain ⟨rfl, hl, hr, hc⟩ := hin
  have Hr := Lib.hid hr
  have Hc := Lib.hid hc
  clear hr hc
  go_enter Try.func4, Try.ntmps4
  go_wp2_with fail
  refine (lSzTypeS a cap l _ 1048576 (by omega) (by omega) hl Hc.out Hr.out).mono ?_
  rintro e w1 ⟨r, rfl, hs, hb1⟩
  have B1 := Lib.hid hb1
  clear hb1
  rcases hs with rfl | ⟨h0, h1⟩
  · go_wp2_with fail
    go_ret
    exact ⟨rfl, B1.out⟩
  obtain ⟨hl2, hs, hm⟩ := type_wt (l := l) (by omega)
  have Hs := Lib.hid hs
  have Hm := Lib.hid hm
  clear h1 hs hm
  go_wp2_with fail
  refine (lToTypeS a cap l _ hl2 Hs.out (Hr.out.below B1.out)).mono ?_
  rintro e w2 ⟨rfl, hr2, hb2⟩
  have R2 := Lib.hid hr2.any
  have B2 := Lib.hid (B1.out.trans (hb2.mono B1.out.size))
  clear hr2 hb2
  go_wp2_with fail
  refine (sGoodTypes _ _ l _ hl2 (Nat.le_refl _) hl Hm.out R2.out).mono ?_
  rintro e w3 ⟨rfl, hb3⟩
  have B3 := Lib.hid (B2.out.trans (hb3.mono B2.out.size))
  clear hb3
  go_wp2_with fail
  refine (lToTypeS a cap l _ hl2 Hs.out (Hr.out.below B3.out)).mono ?_
  rintro e w4 ⟨rfl, hr4, hb4⟩
  have R4 := Lib.hid hr4.any
  have B4 := Lib.hid (B3.out.trans (hb4.mono B3.out.size))
  clear hr4 hb4
  go_wp2_with fail
  refine (iGoodTypes _ _ l _ hl2 (Nat.le_refl _) hl Hm.out R4.out).mono ?_
  rintro e w5 ⟨rfl, hb5⟩
  have R5 := Lib.hid (R4.out.below hb5)
  have B5 := Lib.hid (B4.out.trans (hb5.mono B4.out.size))
  clear hb5
  generalize goodB l = q at *
  cases q
  all_goals
    go_wp2_with fail
    refine (lToTypeS a cap l _ hl2 Hs.out (Hr.out.below B5.out)).mono ?_
    rintro e w6 ⟨rfl, hr6, hb6⟩
    have R6 := Lib.hid hr6.any
    have R5' := Lib.hid (R5.out.below hb6)
    have B6 := Lib.hid (B5.out.trans (hb6.mono B5.out.size))
    clear hr6 hb6
    go_wp2_with fail
    refine (lEqTypeS _ _ _ _ l _ hl2 Hs.out R5'.out R6.out).mono ?_
    rintro e w7 ⟨rfl, hb7⟩
    go_wp2_with fail
    go_ret
    exact ⟨rfl, B6.out.trans (hb7.mono B6.out.size)⟩

-- shell: FnExactIsRound
set_option maxHeartbeats 2000000 in
theorem law_FnExactIsRound (a : Option Addr) (len cap : Nat) (l : List TypeD) (n : Int) (w : World) (hin : CameIn typeS TypeD.came w a len l) (_ : (Lit.int .i64 n).wf = true) :
    Calls Try.prog 6 #[.slice a len cap, .int .i64 n] w fun e w' => e = .returned (.bool true) ∧ Below w.heap.size w w' := by
  obtain ⟨rfl, hl, hr, hc⟩ := hin
  have Hr := Lib.hid hr
  have Hc := Lib.hid hc
  clear hr hc
  go_enter Try.func6, Try.ntmps6
  go_wp2_with fail
  refine (lSzTypeS a cap l _ 1048576 (by omega) (by omega) hl Hc.out Hr.out).mono ?_
  rintro e w1 ⟨r, rfl, hs, hb1⟩
  have B1 := Lib.hid hb1
  clear hb1
  rcases hs with rfl | ⟨h0, h1⟩
  · go_wp2_with fail
    go_ret
    exact ⟨rfl, B1.out⟩
  obtain ⟨hl2, hs, hm⟩ := type_wt (l := l) (by omega)
  have Hs := Lib.hid hs
  have Hm := Lib.hid hm
  clear h1 hs hm
  go_wp2_with fail
  refine (lToTypeS a cap l _ hl2 Hs.out (Hr.out.below B1.out)).mono ?_
  rintro e w2 ⟨rfl, hr2, hb2⟩
  have R2 := Lib.hid hr2.any
  have B2 := Lib.hid (B1.out.trans (hb2.mono B1.out.size))
  clear hr2 hb2
  go_wp2_with fail
  refine (sIsRound _ _ l n _ hl2 (Nat.le_refl _) hl Hm.out R2.out).mono ?_
  rintro e w3 ⟨rfl, hb3⟩
  have B3 := Lib.hid (B2.out.trans (hb3.mono B2.out.size))
  clear hb3
  go_wp2_with fail
  refine (lToTypeS a cap l _ hl2 Hs.out (Hr.out.below B3.out)).mono ?_
  rintro e w4 ⟨rfl, hr4, hb4⟩
  have R4 := Lib.hid hr4.any
  have B4 := Lib.hid (B3.out.trans (hb4.mono B3.out.size))
  clear hr4 hb4
  go_wp2_with fail
  refine (iIsRound _ _ l n _ hl2 (Nat.le_refl _) hl Hm.out R4.out).mono ?_
  rintro e w5 ⟨rfl, hb5⟩
  have R5 := Lib.hid (R4.out.below hb5)
  have B5 := Lib.hid (B4.out.trans (hb5.mono B4.out.size))
  clear hb5
  generalize isRoundA l n = q at *
  generalize isRoundOk l n = q' at *
  cases q <;> cases q'
  all_goals
    go_wp2_with fail
    refine (lToTypeS a cap l _ hl2 Hs.out (Hr.out.below B5.out)).mono ?_
    rintro e w6 ⟨rfl, hr6, hb6⟩
    have R6 := Lib.hid hr6.any
    have R5' := Lib.hid (R5.out.below hb6)
    have B6 := Lib.hid (B5.out.trans (hb6.mono B5.out.size))
    clear hr6 hb6
    go_wp2_with fail
    refine (lEqTypeS _ _ _ _ l _ hl2 Hs.out R5'.out R6.out).mono ?_
    rintro e w7 ⟨rfl, hb7⟩
    go_wp2_with fail
    go_ret
    exact ⟨rfl, B6.out.trans (hb7.mono B6.out.size)⟩
end Go.Proofs.Ytkbgkfmflieidaa
