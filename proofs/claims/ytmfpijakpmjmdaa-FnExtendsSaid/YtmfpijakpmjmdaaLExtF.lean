
/-
  What is proved: the walk of the law FnExtends. No condition beside what each theorem states.
-/
import Derived.Test.YtmfpijakpmjmdaaExtP
import Derived.Test.YtmfpijakpmjmdaaDrawX
namespace Go.Proofs.Ytmfpijakpmjmdaa
open Go.ChangeShapes Go.WideShapes Go.ChangeAt Go.RowKit
set_option maxRecDepth 100000

theorem shortT.modX {t : TypeD} (h : shortT t) : t.mod := by
  obtain ⟨h1, h2, h3, h4⟩ := h
  unfold TypeD.mod maxLen
  exact ⟨by omega, by omega, by omega, fun f hf => by have := h4 f hf; omega⟩

-- shell: FnExtends
set_option maxHeartbeats 32000000 in
theorem law_FnExtends (a : Option Addr) (len cap : Nat) (zs : List Int) (a' : Option Addr) (len' cap' : Nat) (zs' : List Int) (w : World) (h : RowIn .u8 w a len cap zs) (h' : RowIn .u8 w a' len' cap' zs') :
    Calls Try.prog 10 #[.slice a len cap, .slice a' len' cap'] w fun e w' => e = .returned (.bool true) ∧ Below w.heap.size w w' := by
  by_cases hbig : 1048576 < len + len'
  · have l1 := h.len
    clear h h'
    go_enter Try.func10, Try.ntmps10
    go_wp2_with (go_at_call 37; refine (lBig_yes _ _ _ _ _ _ _ hbig l1).mono ?_; rintro e w' ⟨rfl, rfl⟩)
    go_ret
    exact ⟨rfl, Below.refl _ _⟩
  have H := Lib.hid (h.code (by omega))
  have Hcode0 := Lib.hid (h'.code (by omega))
  clear h h'
  go_enter Try.func10, Try.ntmps10
  go_wp2_with (go_at_call 37; refine (lBig_no _ _ _ _ _ _ _ (by omega)).mono ?_; rintro e w' ⟨rfl, rfl⟩)
  refine (dExtends a len cap _ H.out).mono ?_
  rintro e w1 ⟨a1, n1, c1, x, y, rfl, ⟨l, hA, hcA, hcmA, hA9, hrA, hsA, hbw⟩⟩
  subst hA
  have Hm := Lib.hid (show ∀ t ∈ l, t.mod from fun t ht => (hsA t ht).modX)
  have R1 := Lib.hid hrA.any
  have B1 := Lib.hid hbw
  clear hrA hsA hbw H
  go_wp2_with fail
  refine (iExtends a1 c1 l x y _ (by omega) hcA hcmA Hm.out R1.out).mono ?_
  rintro e w2 ⟨rfl, hb⟩
  have R2 := Lib.hid (R1.out.below hb)
  have B2 := Lib.hid (B1.out.trans (hb.mono B1.out.size))
  clear hb R1 B1
  go_wp2_with fail
  refine (sExtends a1 c1 l x y _ (by omega) hcA hcmA Hm.out R2.out).mono ?_
  rintro e w3 ⟨rfl, hb⟩
  have R3 := Lib.hid (R2.out.below hb)
  have B3 := Lib.hid (B2.out.trans (hb.mono B2.out.size))
  clear hb R2 B2
  obtain ⟨S, hS⟩ : ∃ S, extA l x y = S := ⟨_, rfl⟩
  obtain ⟨Q, hQ⟩ : ∃ Q, extOk l x y = Q := ⟨_, rfl⟩
  have Told := @ext_told l x y
  rw [hS, hQ] at Told
  rw [hS, hQ]
  have HS := Lib.hid hS
  clear hS hQ
  cases Q
  · clear Told
    have BX := Lib.hid B3.out
    cases S
    all_goals
      go_wp2_with fail
      refine (dDeepOf a' len' cap' _ (Hcode0.out.below BX.out)).mono ?_
      rintro e v1 ⟨a2, n2, c2, m2, rfl, _, _, l2, hl2, hcc2, hcm2, h92, hr2, hs2, hbv1⟩
      subst hl2
      have Hm2 := Lib.hid (show ∀ t ∈ l2, t.mod from fun t ht => (hs2 t ht).modX)
      have RV1 := Lib.hid hr2.any
      have BV1 := Lib.hid (BX.out.trans (hbv1.mono BX.out.size))
      clear hr2 hs2 hbv1
      go_wp2_with fail
      refine (iDeepOf a2 c2 l2 m2 _ (by omega) hcc2 hcm2 Hm2.out RV1.out).mono ?_
      rintro e v2 ⟨rfl, hbv⟩
      have RV2 := Lib.hid (RV1.out.below hbv)
      have BV2 := Lib.hid (BV1.out.trans (hbv.mono BV1.out.size))
      clear hbv
      go_wp2_with fail
      refine (sDeepOf a2 c2 l2 m2 _ (by omega) hcc2 hcm2 Hm2.out RV2.out).mono ?_
      rintro e v3 ⟨rfl, hbv⟩
      have RV3 := Lib.hid (RV2.out.below hbv)
      have BV3 := Lib.hid (BV2.out.trans (hbv.mono BV2.out.size))
      clear hbv
      go_wp2_with fail
      refine (iRootOf a2 c2 l2 m2 _ (by omega) hcc2 hcm2 Hm2.out RV3.out).mono ?_
      rintro e v4 ⟨rfl, hbv⟩
      have RV4 := Lib.hid (RV3.out.below hbv)
      have BV4 := Lib.hid (BV3.out.trans (hbv.mono BV3.out.size))
      clear hbv
      go_wp2_with fail
      refine (sRootOf a2 c2 l2 m2 _ (by omega) hcc2 hcm2 Hm2.out RV4.out).mono ?_
      rintro e v5 ⟨rfl, hbv⟩
      have BV5 := Lib.hid (BV4.out.trans (hbv.mono BV4.out.size))
      clear hbv
      generalize deepA l2 m2 = dz
      generalize rootA l2 m2 = rz
      generalize recB l2 m2 = rb
      have dzz : (dz == dz) = true := beq_self_eq_true dz
      have rzz : (rz == rz) = true := beq_self_eq_true rz
      cases rb
      all_goals
        go_wp2_with fail
        go_ret
        exact ⟨rfl, BV5.out⟩
  obtain ⟨t1, t2, t3, t4, t5, t6, t7⟩ := Told rfl
  have T1 := Lib.hid t1
  have T2 := Lib.hid t2
  have T3 := Lib.hid t3
  have T4 := Lib.hid t4
  have T5 := Lib.hid t5
  have T6 := Lib.hid t6
  have T7 := Lib.hid t7
  clear t1 t2 t3 t4 t5 t6 t7 Told
  have Ext2 := Lib.hid (fun u v W hW => iExtends a1 c1 l u v W (by omega) hcA hcmA Hm.out hW)
  cases S
  · clear T6 T7
    go_wp2_with fail
    refine (iExtends a1 c1 l x x _ (by omega) hcA hcmA Hm.out R3.out).mono ?_
    rintro e w4 ⟨rfl, hb⟩
    rw [T3.out, T4.out]
    have R4 := Lib.hid (R3.out.below hb)
    have B4 := Lib.hid (B3.out.trans (hb.mono B3.out.size))
    clear hb
    go_wp2_with fail
    refine (iExtends a1 c1 l y x _ (by omega) hcA hcmA Hm.out R4.out).mono ?_
    rintro e w5 ⟨rfl, hb⟩
    rw [T5.out]
    have R5 := Lib.hid (R4.out.below hb)
    have B5 := Lib.hid (B4.out.trans (hb.mono B4.out.size))
    clear hb
    generalize extA l y x = q5 at *
    go_wp2_with fail
    refine (iDeepOf a1 c1 l x _ (by omega) hcA hcmA Hm.out R5.out).mono ?_
    rintro e w6 ⟨rfl, hb⟩
    rw [recB_true T1.out]
    have R6 := Lib.hid (R5.out.below hb)
    have B6 := Lib.hid (B5.out.trans (hb.mono B5.out.size))
    clear hb
    go_wp2_with fail
    refine (iDeepOf a1 c1 l y _ (by omega) hcA hcmA Hm.out R6.out).mono ?_
    rintro e w7 ⟨rfl, hb⟩
    rw [recB_true T2.out]
    have R7 := Lib.hid (R6.out.below hb)
    have B7 := Lib.hid (B6.out.trans (hb.mono B6.out.size))
    clear hb
    go_wp2_with fail
    refine (iRootOf a1 c1 l x _ (by omega) hcA hcmA Hm.out R7.out).mono ?_
    rintro e w8 ⟨rfl, hb⟩
    rw [recB_true T1.out]
    have R8 := Lib.hid (R7.out.below hb)
    have B8 := Lib.hid (B7.out.trans (hb.mono B7.out.size))
    clear hb
    go_wp2_with fail
    refine (iRootOf a1 c1 l y _ (by omega) hcA hcmA Hm.out R8.out).mono ?_
    rintro e w9 ⟨rfl, hb⟩
    rw [recB_true T2.out]
    have R9 := Lib.hid (R8.out.below hb)
    have B9 := Lib.hid (B8.out.trans (hb.mono B8.out.size))
    clear hb
    clear T1 T2 T3 T4 T5 Hm Ext2 R3 R4 R5 R6 R7 R8 B3 B4 B5 B6 B7 B8
    have BX := Lib.hid B9.out
    cases q5
    all_goals
      go_wp2_with fail
      refine (dDeepOf a' len' cap' _ (Hcode0.out.below BX.out)).mono ?_
      rintro e v1 ⟨a2, n2, c2, m2, rfl, _, _, l2, hl2, hcc2, hcm2, h92, hr2, hs2, hbv1⟩
      subst hl2
      have Hm2 := Lib.hid (show ∀ t ∈ l2, t.mod from fun t ht => (hs2 t ht).modX)
      have RV1 := Lib.hid hr2.any
      have BV1 := Lib.hid (BX.out.trans (hbv1.mono BX.out.size))
      clear hr2 hs2 hbv1
      go_wp2_with fail
      refine (iDeepOf a2 c2 l2 m2 _ (by omega) hcc2 hcm2 Hm2.out RV1.out).mono ?_
      rintro e v2 ⟨rfl, hbv⟩
      have RV2 := Lib.hid (RV1.out.below hbv)
      have BV2 := Lib.hid (BV1.out.trans (hbv.mono BV1.out.size))
      clear hbv
      go_wp2_with fail
      refine (sDeepOf a2 c2 l2 m2 _ (by omega) hcc2 hcm2 Hm2.out RV2.out).mono ?_
      rintro e v3 ⟨rfl, hbv⟩
      have RV3 := Lib.hid (RV2.out.below hbv)
      have BV3 := Lib.hid (BV2.out.trans (hbv.mono BV2.out.size))
      clear hbv
      go_wp2_with fail
      refine (iRootOf a2 c2 l2 m2 _ (by omega) hcc2 hcm2 Hm2.out RV3.out).mono ?_
      rintro e v4 ⟨rfl, hbv⟩
      have RV4 := Lib.hid (RV3.out.below hbv)
      have BV4 := Lib.hid (BV3.out.trans (hbv.mono BV3.out.size))
      clear hbv
      go_wp2_with fail
      refine (sRootOf a2 c2 l2 m2 _ (by omega) hcc2 hcm2 Hm2.out RV4.out).mono ?_
      rintro e v5 ⟨rfl, hbv⟩
      have BV5 := Lib.hid (BV4.out.trans (hbv.mono BV4.out.size))
      clear hbv
      generalize deepA l2 m2 = dz
      generalize rootA l2 m2 = rz
      generalize recB l2 m2 = rb
      have dzz : (dz == dz) = true := beq_self_eq_true dz
      have rzz : (rz == rz) = true := beq_self_eq_true rz
      cases rb
      all_goals
        go_wp2_with fail
        go_ret
        exact ⟨rfl, BV5.out⟩
  · obtain ⟨u1, u2, rest, u3⟩ := T7.out rfl
    have U2 := Lib.hid u2
    have U3 := Lib.hid u3
    have dlt : decide (deepA l x < deepA l y) = false := decide_eq_false (by omega)
    clear u1 u2 u3 T7
    go_wp2_with fail
    refine (iExtends a1 c1 l x x _ (by omega) hcA hcmA Hm.out R3.out).mono ?_
    rintro e w4 ⟨rfl, hb⟩
    rw [T3.out, T4.out]
    have R4 := Lib.hid (R3.out.below hb)
    have B4 := Lib.hid (B3.out.trans (hb.mono B3.out.size))
    clear hb
    go_wp2_with fail
    refine (iExtends a1 c1 l y x _ (by omega) hcA hcmA Hm.out R4.out).mono ?_
    rintro e w5 ⟨rfl, hb⟩
    rw [T5.out]
    have R5 := Lib.hid (R4.out.below hb)
    have B5 := Lib.hid (B4.out.trans (hb.mono B4.out.size))
    clear hb
    have hxy : extA l y x = true → (x != y) = false := fun h => by rw [bne_eq_false_iff_eq]; exact T6.out (by first | rfl | trivial) h
    generalize extA l y x = q5 at *
    go_wp2_with fail
    refine (iDeepOf a1 c1 l x _ (by omega) hcA hcmA Hm.out R5.out).mono ?_
    rintro e w6 ⟨rfl, hb⟩
    rw [recB_true T1.out]
    have R6 := Lib.hid (R5.out.below hb)
    have B6 := Lib.hid (B5.out.trans (hb.mono B5.out.size))
    clear hb
    go_wp2_with fail
    refine (iDeepOf a1 c1 l y _ (by omega) hcA hcmA Hm.out R6.out).mono ?_
    rintro e w7 ⟨rfl, hb⟩
    rw [recB_true T2.out]
    have R7 := Lib.hid (R6.out.below hb)
    have B7 := Lib.hid (B6.out.trans (hb.mono B6.out.size))
    clear hb
    go_wp2_with fail
    refine (iRootOf a1 c1 l x _ (by omega) hcA hcmA Hm.out R7.out).mono ?_
    rintro e w8 ⟨rfl, hb⟩
    rw [recB_true T1.out]
    have R8 := Lib.hid (R7.out.below hb)
    have B8 := Lib.hid (B7.out.trans (hb.mono B7.out.size))
    clear hb
    go_wp2_with fail
    refine (iRootOf a1 c1 l y _ (by omega) hcA hcmA Hm.out R8.out).mono ?_
    rintro e w9 ⟨rfl, hb⟩
    rw [recB_true T2.out]
    have R9 := Lib.hid (R8.out.below hb)
    have B9 := Lib.hid (B8.out.trans (hb.mono B8.out.size))
    clear hb
    rw [U2.out]
    have rrr : (rootA l y != rootA l y) = false := bne_self_eq_false _
    generalize rootA l y = rz at *
    generalize deepA l x = dx at *
    generalize deepA l y = dy at *
    obtain ⟨f, hf⟩ : ∃ f, allA l x = f := ⟨_, rfl⟩
    obtain ⟨g, hg⟩ : ∃ g, allA l y = g := ⟨_, rfl⟩
    have hfl : f.length ≤ 144 := hf ▸ allA_most
    have hpre : g.length ≤ f.length ∧ ∀ k (hk : k < g.length) (hk' : k < f.length), f[k] = g[k] := by
      have h := U3.out
      rw [hf, hg] at h
      subst h
      exact ⟨by simp, fun k hk hk' => List.getElem_append_left hk⟩
    obtain ⟨hlen, hpre⟩ := hpre
    have Hpre := Lib.hid hpre
    have AX := Lib.hid (fun W hW => iAllFields a1 c1 l x W (by omega) hcA hcmA Hm.out hW)
    have AY := Lib.hid (fun W hW => iAllFields a1 c1 l y W (by omega) hcA hcmA Hm.out hW)
    rw [hf, recB_true T1.out] at AX
    rw [hg, recB_true T2.out] at AY
    have dlen : decide ((f.length : Int) < (g.length : Int)) = false := decide_eq_false (by omega)
    clear hpre hf hg U3 T1 T2 T3 T4 T5 T6 Ext2
    cases q5
    · clear hxy
      go_wp2_with fail
      refine (AX.out _ R9.out).mono ?_
      rintro e w10 ⟨v1, rfl, hown, hb⟩
      obtain ⟨f1, d1, rfl, _, _, _, hr1⟩ := hown.rows
      have F1 := Lib.hid hr1.any
      have R10 := Lib.hid (R9.out.below hb)
      have B10 := Lib.hid (B9.out.trans (hb.mono B9.out.size))
      clear hown hr1 hb
      go_wp2_with fail
      refine (AY.out _ R10.out).mono ?_
      rintro e w11 ⟨v2, rfl, hown, hb⟩
      obtain ⟨f2, d2, rfl, _, _, _, hr2⟩ := hown.rows
      have G1 := Lib.hid hr2.any
      have F2 := Lib.hid (F1.out.below hb)
      have B11 := Lib.hid (B10.out.trans (hb.mono B10.out.size))
      clear hown hr2 hb
      go_wp2_with fail
      go_loopw [190] (fun i wr => ∃ k : Nat, i = .int .i64 k ∧ k ≤ g.length ∧ Below w11.heap.size w11 wr) (fun i _ => g.length - (intOf i).toNat)
      case atStart => exact ⟨0, rfl, by omega, Below.refl _ _⟩
      case round =>
        obtain ⟨k, rfl, hk, hbel⟩ := hrel
        have Hbel := Lib.hid hbel
        by_cases hlt : k < g.length
        · have heq := Hpre.out k hlt (by omega)
          obtain ⟨bg, og, cs, rfl, _, hbg1, hcg, hat⟩ := G1.out k hlt
          obtain rfl : cs = [.string g[k].fName, .int .i64 g[k].fMark, .int .i64 g[k].fType] := hat
          obtain ⟨bf, of, cs, rfl, _, hbf1, hcf, hat⟩ := F2.out k (by omega)
          obtain rfl : cs = [.string f[k].fName, .int .i64 f[k].fMark, .int .i64 f[k].fType] := hat
          rw [heq] at hcf
          have hn3 : fieldS.n = 3 := rfl
          have k0 := (hbel.cell (p := ⟨bg, og + k * 3 + 0, none⟩) hbg1).trans (hcg 0 (by decide))
          have k1 := (hbel.cell (p := ⟨bg, og + k * 3 + 1, none⟩) hbg1).trans (hcg 1 (by decide))
          have k2 := (hbel.cell (p := ⟨bg, og + k * 3 + 2, none⟩) hbg1).trans (hcg 2 (by decide))
          have j0 := (hbel.cell (p := ⟨bf, of + k * 3 + 0, none⟩) hbf1).trans (hcf 0 (by decide))
          have j1 := (hbel.cell (p := ⟨bf, of + k * 3 + 1, none⟩) hbf1).trans (hcf 1 (by decide))
          have j2 := (hbel.cell (p := ⟨bf, of + k * 3 + 2, none⟩) hbf1).trans (hcf 2 (by decide))
          simp at k0 k1 k2 j0 j1 j2
          have hqq := eqFld g[k]
          clear hcf hcg hbel heq
          generalize g[k] = t at *
          go_wp2_with fail
          go_region
          all_goals
            go_wp2_with fail
            exact ⟨⟨k + 1, by congr 1, by omega, Hbel.out.drew⟩, by simp [intOf]; omega⟩
        · clear hbel
          have BX := Lib.hid (B11.out.trans (Hbel.out.mono B11.out.size))
          go_wp2_with fail
          refine (dDeepOf a' len' cap' _ (Hcode0.out.below BX.out)).mono ?_
          rintro e v1 ⟨a2, n2, c2, m2, rfl, _, _, l2, hl2, hcc2, hcm2, h92, hr2, hs2, hbv1⟩
          subst hl2
          have Hm2 := Lib.hid (show ∀ t ∈ l2, t.mod from fun t ht => (hs2 t ht).modX)
          have RV1 := Lib.hid hr2.any
          have BV1 := Lib.hid (BX.out.trans (hbv1.mono BX.out.size))
          clear hr2 hs2 hbv1
          go_wp2_with fail
          refine (iDeepOf a2 c2 l2 m2 _ (by omega) hcc2 hcm2 Hm2.out RV1.out).mono ?_
          rintro e v2 ⟨rfl, hbv⟩
          have RV2 := Lib.hid (RV1.out.below hbv)
          have BV2 := Lib.hid (BV1.out.trans (hbv.mono BV1.out.size))
          clear hbv
          go_wp2_with fail
          refine (sDeepOf a2 c2 l2 m2 _ (by omega) hcc2 hcm2 Hm2.out RV2.out).mono ?_
          rintro e v3 ⟨rfl, hbv⟩
          have RV3 := Lib.hid (RV2.out.below hbv)
          have BV3 := Lib.hid (BV2.out.trans (hbv.mono BV2.out.size))
          clear hbv
          go_wp2_with fail
          refine (iRootOf a2 c2 l2 m2 _ (by omega) hcc2 hcm2 Hm2.out RV3.out).mono ?_
          rintro e v4 ⟨rfl, hbv⟩
          have RV4 := Lib.hid (RV3.out.below hbv)
          have BV4 := Lib.hid (BV3.out.trans (hbv.mono BV3.out.size))
          clear hbv
          go_wp2_with fail
          refine (sRootOf a2 c2 l2 m2 _ (by omega) hcc2 hcm2 Hm2.out RV4.out).mono ?_
          rintro e v5 ⟨rfl, hbv⟩
          have BV5 := Lib.hid (BV4.out.trans (hbv.mono BV4.out.size))
          clear hbv
          generalize deepA l2 m2 = dz
          generalize rootA l2 m2 = rz
          generalize recB l2 m2 = rb
          have dzz : (dz == dz) = true := beq_self_eq_true dz
          have rzz : (rz == rz) = true := beq_self_eq_true rz
          cases rb
          all_goals
            go_wp2_with fail
            go_ret
            exact ⟨rfl, BV5.out⟩
    · have hxy2 := hxy rfl
      clear hxy
      go_wp2_with fail
      refine (AX.out _ R9.out).mono ?_
      rintro e w10 ⟨v1, rfl, hown, hb⟩
      obtain ⟨f1, d1, rfl, _, _, _, hr1⟩ := hown.rows
      have F1 := Lib.hid hr1.any
      have R10 := Lib.hid (R9.out.below hb)
      have B10 := Lib.hid (B9.out.trans (hb.mono B9.out.size))
      clear hown hr1 hb
      go_wp2_with fail
      refine (AY.out _ R10.out).mono ?_
      rintro e w11 ⟨v2, rfl, hown, hb⟩
      obtain ⟨f2, d2, rfl, _, _, _, hr2⟩ := hown.rows
      have G1 := Lib.hid hr2.any
      have F2 := Lib.hid (F1.out.below hb)
      have B11 := Lib.hid (B10.out.trans (hb.mono B10.out.size))
      clear hown hr2 hb
      go_wp2_with fail
      go_loopw [190] (fun i wr => ∃ k : Nat, i = .int .i64 k ∧ k ≤ g.length ∧ Below w11.heap.size w11 wr) (fun i _ => g.length - (intOf i).toNat)
      case atStart => exact ⟨0, rfl, by omega, Below.refl _ _⟩
      case round =>
        obtain ⟨k, rfl, hk, hbel⟩ := hrel
        have Hbel := Lib.hid hbel
        by_cases hlt : k < g.length
        · have heq := Hpre.out k hlt (by omega)
          obtain ⟨bg, og, cs, rfl, _, hbg1, hcg, hat⟩ := G1.out k hlt
          obtain rfl : cs = [.string g[k].fName, .int .i64 g[k].fMark, .int .i64 g[k].fType] := hat
          obtain ⟨bf, of, cs, rfl, _, hbf1, hcf, hat⟩ := F2.out k (by omega)
          obtain rfl : cs = [.string f[k].fName, .int .i64 f[k].fMark, .int .i64 f[k].fType] := hat
          rw [heq] at hcf
          have hn3 : fieldS.n = 3 := rfl
          have k0 := (hbel.cell (p := ⟨bg, og + k * 3 + 0, none⟩) hbg1).trans (hcg 0 (by decide))
          have k1 := (hbel.cell (p := ⟨bg, og + k * 3 + 1, none⟩) hbg1).trans (hcg 1 (by decide))
          have k2 := (hbel.cell (p := ⟨bg, og + k * 3 + 2, none⟩) hbg1).trans (hcg 2 (by decide))
          have j0 := (hbel.cell (p := ⟨bf, of + k * 3 + 0, none⟩) hbf1).trans (hcf 0 (by decide))
          have j1 := (hbel.cell (p := ⟨bf, of + k * 3 + 1, none⟩) hbf1).trans (hcf 1 (by decide))
          have j2 := (hbel.cell (p := ⟨bf, of + k * 3 + 2, none⟩) hbf1).trans (hcf 2 (by decide))
          simp at k0 k1 k2 j0 j1 j2
          have hqq := eqFld g[k]
          clear hcf hcg hbel heq
          generalize g[k] = t at *
          go_wp2_with fail
          go_region
          all_goals
            go_wp2_with fail
            exact ⟨⟨k + 1, by congr 1, by omega, Hbel.out.drew⟩, by simp [intOf]; omega⟩
        · clear hbel
          have BX := Lib.hid (B11.out.trans (Hbel.out.mono B11.out.size))
          go_wp2_with fail
          refine (dDeepOf a' len' cap' _ (Hcode0.out.below BX.out)).mono ?_
          rintro e v1 ⟨a2, n2, c2, m2, rfl, _, _, l2, hl2, hcc2, hcm2, h92, hr2, hs2, hbv1⟩
          subst hl2
          have Hm2 := Lib.hid (show ∀ t ∈ l2, t.mod from fun t ht => (hs2 t ht).modX)
          have RV1 := Lib.hid hr2.any
          have BV1 := Lib.hid (BX.out.trans (hbv1.mono BX.out.size))
          clear hr2 hs2 hbv1
          go_wp2_with fail
          refine (iDeepOf a2 c2 l2 m2 _ (by omega) hcc2 hcm2 Hm2.out RV1.out).mono ?_
          rintro e v2 ⟨rfl, hbv⟩
          have RV2 := Lib.hid (RV1.out.below hbv)
          have BV2 := Lib.hid (BV1.out.trans (hbv.mono BV1.out.size))
          clear hbv
          go_wp2_with fail
          refine (sDeepOf a2 c2 l2 m2 _ (by omega) hcc2 hcm2 Hm2.out RV2.out).mono ?_
          rintro e v3 ⟨rfl, hbv⟩
          have RV3 := Lib.hid (RV2.out.below hbv)
          have BV3 := Lib.hid (BV2.out.trans (hbv.mono BV2.out.size))
          clear hbv
          go_wp2_with fail
          refine (iRootOf a2 c2 l2 m2 _ (by omega) hcc2 hcm2 Hm2.out RV3.out).mono ?_
          rintro e v4 ⟨rfl, hbv⟩
          have RV4 := Lib.hid (RV3.out.below hbv)
          have BV4 := Lib.hid (BV3.out.trans (hbv.mono BV3.out.size))
          clear hbv
          go_wp2_with fail
          refine (sRootOf a2 c2 l2 m2 _ (by omega) hcc2 hcm2 Hm2.out RV4.out).mono ?_
          rintro e v5 ⟨rfl, hbv⟩
          have BV5 := Lib.hid (BV4.out.trans (hbv.mono BV4.out.size))
          clear hbv
          generalize deepA l2 m2 = dz
          generalize rootA l2 m2 = rz
          generalize recB l2 m2 = rb
          have dzz : (dz == dz) = true := beq_self_eq_true dz
          have rzz : (rz == rz) = true := beq_self_eq_true rz
          cases rb
          all_goals
            go_wp2_with fail
            go_ret
            exact ⟨rfl, BV5.out⟩
end Go.Proofs.Ytmfpijakpmjmdaa
