
/-
  What is proved: the walk of the law FnSame. No condition beside what each theorem states.
-/
import Derived.Test.YtkbgkfmflieidaaDrawT8
import Derived.Test.YtkbgkfmflieidaaDrawT9
import Derived.Test.YtkbgkfmflieidaaSameP
import Derived.Test.YtkbgkfmflieidaaDrawMixAll
namespace Go.Proofs.Ytkbgkfmflieidaa
open Go.ChangeShapes Go.WideShapes Go.ChangeAt Go.RowKit
set_option maxRecDepth 100000

theorem shortT.modS {t : TypeD} (h : shortT t) : t.mod := by
  obtain ⟨h1, h2, h3, h4⟩ := h
  unfold TypeD.mod maxLen
  exact ⟨by omega, by omega, by omega, fun f hf => by have := h4 f hf; omega⟩
theorem sameOk_at {A B : List TypeD} {x y : Int} (h : sameOk A B x y = true) : atP A x ∧ atP B y := by
  unfold sameOk at h
  simpa using h
theorem sameA_sim {A B : List TypeD} {x y : Int} (h : sameA A B x y = true) : Sim A B x y := by
  unfold sameA at h
  simp only [decide_eq_true_eq] at h
  exact h.2
/-- What the law asks of two types. -/
theorem same_told {A B : List TypeD} {x y : Int} (h : sameOk A B x y = true) :
    sameOk B A y x = true ∧ sameA B A y x = sameA A B x y ∧ sameOk A A x x = true ∧ sameA A A x x = true ∧ tfB A x = true ∧ tfB B y = true ∧ (sameA A B x y = true → sizeA A x = sizeA B y ∧ sizeB A x = sizeB B y ∧ tfA A x = tfA B y) := by
  obtain ⟨hx, hy⟩ := sameOk_at h
  have hs := sim_self hx.1 hx.2
  have haa := same_in (A := A) (B := A) (x := x) (y := x) ⟨hx, hx⟩
  have hba := same_in (A := B) (B := A) (x := y) (y := x) ⟨hy, hx⟩
  have hab := same_in (A := A) (B := B) (x := x) (y := y) ⟨hx, hy⟩
  refine ⟨hba.1, ?_, haa.1, by rw [haa.2]; exact simB_true hs, (tf_in hx).1, (tf_in hy).1, fun hq => ?_⟩
  · rw [hba.2, hab.2]
    by_cases h : Sim A B x y
    · rw [simB_true h, simB_true (sim_symm h)]
    · rw [simB_false h, simB_false (fun g => h (sim_symm g))]
  · have hsim := sameA_sim hq
    obtain ⟨e1, e2⟩ := sim_sizeA hx hy hsim
    exact ⟨e1, e2, sim_finger hx hy hsim⟩

theorem dTypeFinger (a : Option Addr) (len cap : Nat) (w : World) (h : Code w a len) : Calls Try.prog 16 #[.slice a len cap] w fun e w' => ∃ a n c m, e = .returned (.tuple #[.slice a n c, .int .i64 m]) ∧ -1 ≤ m ∧ m ≤ (n : Int) ∧ TDrawn w a n c w' := by
  have H := Lib.hid (dSizeOf a len cap w h)
  clear h
  go_enter Try.func16, Try.ntmps16
  go_wp2_with fail
  refine H.out.mono ?_
  rintro e w1 ⟨a1, n, c, m, rfl, m0, m1, hd⟩
  have D := Lib.hid hd
  clear hd
  go_wp2_with fail
  go_ret2
  exact ⟨a1, n, c, m, rfl, m0, m1, D.out⟩

-- shell: FnSame
set_option maxHeartbeats 16000000 in
theorem law_FnSame (a : Option Addr) (len cap : Nat) (zs : List Int) (a' : Option Addr) (len' cap' : Nat) (zs' : List Int) (w : World) (h : RowIn .u8 w a len cap zs) (h' : RowIn .u8 w a' len' cap' zs') :
    Calls Try.prog 3 #[.slice a len cap, .slice a' len' cap'] w fun e w' => e = .returned (.bool true) ∧ Below w.heap.size w w' := by
  by_cases hbig : 1048576 < len + len'
  · have l1 := h.len
    clear h h'
    go_enter Try.func3, Try.ntmps3
    go_wp2_with (go_at_call 10; refine (lBig_yes _ _ _ _ _ _ _ hbig l1).mono ?_; rintro e w' ⟨rfl, rfl⟩)
    go_ret
    exact ⟨rfl, Below.refl _ _⟩
  have H := Lib.hid (h.code (by omega))
  have Hcode0 := Lib.hid (h'.code (by omega))
  clear h h'
  go_enter Try.func3, Try.ntmps3
  go_wp2_with (go_at_call 10; refine (lBig_no _ _ _ _ _ _ _ (by omega)).mono ?_; rintro e w' ⟨rfl, rfl⟩)
  refine (dSameTypes a len cap _ H.out).mono ?_
  rintro e w1 ⟨a1, n1, c1, x, b1, n2, c2, y, rfl, ⟨A, hA, hcA, hcmA, hA9, hrA, hsA, hbw⟩, ⟨B, hB, hcB, hcmB, hB9, hrB, hsB, _⟩⟩
  subst hA
  subst hB
  have HmA := Lib.hid (show ∀ t ∈ A, t.mod from fun t ht => (hsA t ht).modS)
  have HmB := Lib.hid (show ∀ t ∈ B, t.mod from fun t ht => (hsB t ht).modS)
  have RA := Lib.hid hrA.any
  have RB := Lib.hid hrB.any
  have B1 := Lib.hid hbw
  clear hrA hrB hsA hsB hbw H
  go_wp2_with fail
  refine (iSameTypes a1 b1 c1 c2 A B x y _ (by omega) hcA hcmA HmA.out RA.out (by omega) hcB hcmB HmB.out RB.out).mono ?_
  rintro e w2 ⟨rfl, hb⟩
  have RA2 := Lib.hid (RA.out.below hb)
  have RB2 := Lib.hid (RB.out.below hb)
  have B2 := Lib.hid (B1.out.trans (hb.mono B1.out.size))
  clear hb RA RB B1
  go_wp2_with fail
  refine (sSameTypes a1 b1 c1 c2 A B x y _ (by omega) hcA hcmA HmA.out RA2.out (by omega) hcB hcmB HmB.out RB2.out).mono ?_
  rintro e w3 ⟨rfl, hb⟩
  have RA3 := Lib.hid (RA2.out.below hb)
  have RB3 := Lib.hid (RB2.out.below hb)
  have B3 := Lib.hid (B2.out.trans (hb.mono B2.out.size))
  clear hb RA2 RB2 B2
  obtain ⟨S, hS⟩ : ∃ S, sameA A B x y = S := ⟨_, rfl⟩
  obtain ⟨Q, hQ⟩ : ∃ Q, sameOk A B x y = Q := ⟨_, rfl⟩
  have Told := @same_told A B x y
  rw [hS, hQ] at Told
  rw [hS, hQ]
  clear hS hQ
  cases Q
  · clear Told
    have BX := Lib.hid B3.out
    cases S
    all_goals
      go_wp2_with fail
      refine (dTypeFinger a' len' cap' _ (Hcode0.out.below BX.out)).mono ?_
      rintro e v1 ⟨a2, n2, c2, m2, rfl, _, _, l2, hl2, hcc2, hcm2, h92, hr2, hs2, hbv1⟩
      subst hl2
      have Hm2 := Lib.hid (show ∀ t ∈ l2, t.mod from fun t ht => (hs2 t ht).modS)
      have RV := Lib.hid hr2.any
      have BV := Lib.hid (BX.out.trans (hbv1.mono BX.out.size))
      clear hr2 hs2 hbv1
      go_wp2_with fail
      refine (iTypeFinger a2 c2 l2 m2 _ (by omega) hcc2 hcm2 Hm2.out RV.out).mono ?_
      rintro e v2 ⟨rfl, hbv2⟩
      have RV2 := Lib.hid (RV.out.below hbv2)
      have BV2 := Lib.hid (BV.out.trans (hbv2.mono BV.out.size))
      clear hbv2
      go_wp2_with fail
      refine (sTypeFinger a2 c2 l2 m2 _ (by omega) hcc2 hcm2 Hm2.out RV2.out).mono ?_
      rintro e v3 ⟨rfl, hbv3⟩
      have BV3 := Lib.hid (BV2.out.trans (hbv3.mono BV2.out.size))
      clear hbv3
      generalize tfA l2 m2 = fz
      generalize tfB l2 m2 = fb
      have fzz : (fz == fz) = true := beq_self_eq_true fz
      cases fb
      all_goals
        go_wp2_with fail
        go_ret
        exact ⟨rfl, BV3.out⟩
  obtain ⟨t1, t2, t3, t4, t5, t6, t7⟩ := Told rfl
  clear Told
  cases S
  · have T1 := Lib.hid t1
    have T2 := Lib.hid t2
    have T3 := Lib.hid t3
    have T4 := Lib.hid t4
    have T5 := Lib.hid t5
    have T6 := Lib.hid t6
    clear t1 t2 t3 t4 t5 t6 t7
    go_wp2_with fail
    refine (iSameTypes b1 a1 c2 c1 B A y x _ (by omega) hcB hcmB HmB.out RB3.out (by omega) hcA hcmA HmA.out RA3.out).mono ?_
    rw [T1.out, T2.out]
    rintro e w4 ⟨rfl, hb⟩
    have RA4 := Lib.hid (RA3.out.below hb)
    have RB4 := Lib.hid (RB3.out.below hb)
    have B4 := Lib.hid (B3.out.trans (hb.mono B3.out.size))
    clear hb
    go_wp2_with fail
    refine (iSameTypes a1 a1 c1 c1 A A x x _ (by omega) hcA hcmA HmA.out RA4.out (by omega) hcA hcmA HmA.out RA4.out).mono ?_
    rw [T3.out, T4.out]
    rintro e w5 ⟨rfl, hb⟩
    have RA5 := Lib.hid (RA4.out.below hb)
    have RB5 := Lib.hid (RB4.out.below hb)
    have B5 := Lib.hid (B4.out.trans (hb.mono B4.out.size))
    clear hb
    go_wp2_with fail
    refine (iSizeOf a1 c1 A x _ (by omega) hcA hcmA HmA.out RA5.out).mono ?_
    rintro e w6 ⟨rfl, hb⟩
    have RA6 := Lib.hid (RA5.out.below hb)
    have RB6 := Lib.hid (RB5.out.below hb)
    have B6 := Lib.hid (B5.out.trans (hb.mono B5.out.size))
    clear hb
    go_wp2_with fail
    refine (iSizeOf b1 c2 B y _ (by omega) hcB hcmB HmB.out RB6.out).mono ?_
    rintro e w7 ⟨rfl, hb⟩
    have RA7 := Lib.hid (RA6.out.below hb)
    have RB7 := Lib.hid (RB6.out.below hb)
    have B7 := Lib.hid (B6.out.trans (hb.mono B6.out.size))
    clear hb
    generalize sizeA A x = ua
    generalize sizeB A x = va
    generalize sizeA B y = ub
    generalize sizeB B y = vb
    go_wp2_with fail
    refine (iTypeFinger a1 c1 A x _ (by omega) hcA hcmA HmA.out RA7.out).mono ?_
    rw [T5.out]
    rintro e w8 ⟨rfl, hb⟩
    have RB8 := Lib.hid (RB7.out.below hb)
    have B8 := Lib.hid (B7.out.trans (hb.mono B7.out.size))
    clear hb
    go_wp2_with fail
    refine (iTypeFinger b1 c2 B y _ (by omega) hcB hcmB HmB.out RB8.out).mono ?_
    rw [T6.out]
    rintro e w9 ⟨rfl, hb⟩
    have BX := Lib.hid (B8.out.trans (hb.mono B8.out.size))
    clear hb
    generalize tfA A x = fa
    generalize tfA B y = fb
    go_wp2_with fail
    refine (dTypeFinger a' len' cap' _ (Hcode0.out.below BX.out)).mono ?_
    rintro e v1 ⟨a2, n2, c2, m2, rfl, _, _, l2, hl2, hcc2, hcm2, h92, hr2, hs2, hbv1⟩
    subst hl2
    have Hm2 := Lib.hid (show ∀ t ∈ l2, t.mod from fun t ht => (hs2 t ht).modS)
    have RV := Lib.hid hr2.any
    have BV := Lib.hid (BX.out.trans (hbv1.mono BX.out.size))
    clear hr2 hs2 hbv1
    go_wp2_with fail
    refine (iTypeFinger a2 c2 l2 m2 _ (by omega) hcc2 hcm2 Hm2.out RV.out).mono ?_
    rintro e v2 ⟨rfl, hbv2⟩
    have RV2 := Lib.hid (RV.out.below hbv2)
    have BV2 := Lib.hid (BV.out.trans (hbv2.mono BV.out.size))
    clear hbv2
    go_wp2_with fail
    refine (sTypeFinger a2 c2 l2 m2 _ (by omega) hcc2 hcm2 Hm2.out RV2.out).mono ?_
    rintro e v3 ⟨rfl, hbv3⟩
    have BV3 := Lib.hid (BV2.out.trans (hbv3.mono BV2.out.size))
    clear hbv3
    generalize tfA l2 m2 = fz
    generalize tfB l2 m2 = fb
    have fzz : (fz == fz) = true := beq_self_eq_true fz
    cases fb
    all_goals
      go_wp2_with fail
      go_ret
      exact ⟨rfl, BV3.out⟩
  · obtain ⟨e1, e2, e3⟩ := t7 rfl
    have T1 := Lib.hid t1
    have T2 := Lib.hid t2
    have T3 := Lib.hid t3
    have T4 := Lib.hid t4
    have T5 := Lib.hid t5
    have T6 := Lib.hid t6
    have E1 := Lib.hid e1
    have E2 := Lib.hid e2
    have E3 := Lib.hid e3
    clear t1 t2 t3 t4 t5 t6 t7 e1 e2 e3
    go_wp2_with fail
    refine (iSameTypes b1 a1 c2 c1 B A y x _ (by omega) hcB hcmB HmB.out RB3.out (by omega) hcA hcmA HmA.out RA3.out).mono ?_
    rw [T1.out, T2.out]
    rintro e w4 ⟨rfl, hb⟩
    have RA4 := Lib.hid (RA3.out.below hb)
    have RB4 := Lib.hid (RB3.out.below hb)
    have B4 := Lib.hid (B3.out.trans (hb.mono B3.out.size))
    clear hb
    go_wp2_with fail
    refine (iSameTypes a1 a1 c1 c1 A A x x _ (by omega) hcA hcmA HmA.out RA4.out (by omega) hcA hcmA HmA.out RA4.out).mono ?_
    rw [T3.out, T4.out]
    rintro e w5 ⟨rfl, hb⟩
    have RA5 := Lib.hid (RA4.out.below hb)
    have RB5 := Lib.hid (RB4.out.below hb)
    have B5 := Lib.hid (B4.out.trans (hb.mono B4.out.size))
    clear hb
    go_wp2_with fail
    refine (iSizeOf a1 c1 A x _ (by omega) hcA hcmA HmA.out RA5.out).mono ?_
    rw [E1.out, E2.out]
    rintro e w6 ⟨rfl, hb⟩
    have RA6 := Lib.hid (RA5.out.below hb)
    have RB6 := Lib.hid (RB5.out.below hb)
    have B6 := Lib.hid (B5.out.trans (hb.mono B5.out.size))
    clear hb
    go_wp2_with fail
    refine (iSizeOf b1 c2 B y _ (by omega) hcB hcmB HmB.out RB6.out).mono ?_
    rintro e w7 ⟨rfl, hb⟩
    have RA7 := Lib.hid (RA6.out.below hb)
    have RB7 := Lib.hid (RB6.out.below hb)
    have B7 := Lib.hid (B6.out.trans (hb.mono B6.out.size))
    clear hb
    generalize sizeA B y = ub
    generalize sizeB B y = vb
    have hub : (ub != ub) = false := by simp
    have hvb : (vb != vb) = false := by simp
    go_wp2_with fail
    refine (iTypeFinger a1 c1 A x _ (by omega) hcA hcmA HmA.out RA7.out).mono ?_
    rw [T5.out]
    rw [E3.out]
    rintro e w8 ⟨rfl, hb⟩
    have RB8 := Lib.hid (RB7.out.below hb)
    have B8 := Lib.hid (B7.out.trans (hb.mono B7.out.size))
    clear hb
    go_wp2_with fail
    refine (iTypeFinger b1 c2 B y _ (by omega) hcB hcmB HmB.out RB8.out).mono ?_
    rw [T6.out]
    rintro e w9 ⟨rfl, hb⟩
    have BX := Lib.hid (B8.out.trans (hb.mono B8.out.size))
    clear hb
    generalize tfA B y = fb
    have hfb : (fb != fb) = false := by simp
    go_wp2_with fail
    refine (dTypeFinger a' len' cap' _ (Hcode0.out.below BX.out)).mono ?_
    rintro e v1 ⟨a2, n2, c2, m2, rfl, _, _, l2, hl2, hcc2, hcm2, h92, hr2, hs2, hbv1⟩
    subst hl2
    have Hm2 := Lib.hid (show ∀ t ∈ l2, t.mod from fun t ht => (hs2 t ht).modS)
    have RV := Lib.hid hr2.any
    have BV := Lib.hid (BX.out.trans (hbv1.mono BX.out.size))
    clear hr2 hs2 hbv1
    go_wp2_with fail
    refine (iTypeFinger a2 c2 l2 m2 _ (by omega) hcc2 hcm2 Hm2.out RV.out).mono ?_
    rintro e v2 ⟨rfl, hbv2⟩
    have RV2 := Lib.hid (RV.out.below hbv2)
    have BV2 := Lib.hid (BV.out.trans (hbv2.mono BV.out.size))
    clear hbv2
    go_wp2_with fail
    refine (sTypeFinger a2 c2 l2 m2 _ (by omega) hcc2 hcm2 Hm2.out RV2.out).mono ?_
    rintro e v3 ⟨rfl, hbv3⟩
    have BV3 := Lib.hid (BV2.out.trans (hbv3.mono BV2.out.size))
    clear hbv3
    generalize tfA l2 m2 = fz
    generalize tfB l2 m2 = fb
    have fzz : (fz == fz) = true := beq_self_eq_true fz
    cases fb
    all_goals
      go_wp2_with fail
      go_ret
      exact ⟨rfl, BV3.out⟩
end Go.Proofs.Ytkbgkfmflieidaa
