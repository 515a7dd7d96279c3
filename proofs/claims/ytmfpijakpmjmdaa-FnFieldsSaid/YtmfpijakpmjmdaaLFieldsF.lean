
/-
  What is proved: the walk of the law FnFields. No condition beside what each theorem states.
-/
import Derived.Test.YtmfpijakpmjmdaaExtP
import Derived.Test.YtmfpijakpmjmdaaDrawX
namespace Go.Proofs.Ytmfpijakpmjmdaa
open Go.ChangeShapes Go.WideShapes Go.ChangeAt Go.RowKit
set_option maxRecDepth 100000

theorem shortT.modY {t : TypeD} (h : shortT t) : t.mod := by
  obtain ⟨h1, h2, h3, h4⟩ := h
  unfold TypeD.mod maxLen
  exact ⟨by omega, by omega, by omega, fun f hf => by have := h4 f hf; omega⟩
theorem fields_told {l : List TypeD} {n : Int} (h : recB l n = true) : ∃ k : Nat, n = (k : Int) ∧ ∃ hk : k < l.length, (l[k].fBase = -1 ∧ (allA l n).length = l[k].fFields.length) ∨ (0 ≤ l[k].fBase ∧ recB l l[k].fBase = true ∧ (allA l n).length = l[k].fFields.length + (allA l l[k].fBase).length) := by
  have hp := recB_iff.1 h
  obtain ⟨hg, h5⟩ := hp
  have hd := down_cons hg h5
  rw [allA_in ⟨hg, h5⟩]
  obtain ⟨k, rfl, hk, h5'⟩ := kind5 h5
  refine ⟨k, rfl, hk, ?_⟩
  rw [fieldsZ_in hk, baseZ_in hk] at hd
  rcases hg.1.base hk h5' with hb | hb
  · refine .inl ⟨hb, ?_⟩
    rw [hd, hb, down_end (x := -1) (by rw [kindZ_out (by omega)]; decide), List.nil_append]
  · have hr := kindZ_range (l := l) (x := l[k].fBase) (by omega)
    refine .inr ⟨hr.1, recB_true ⟨hg, hb⟩, ?_⟩
    rw [hd, List.length_append, allA_in ⟨hg, hb⟩]
    omega

-- shell: FnFields
set_option maxHeartbeats 32000000 in
theorem law_FnFields (a : Option Addr) (len cap : Nat) (zs : List Int) (a' : Option Addr) (len' cap' : Nat) (zs' : List Int) (w : World) (h : RowIn .u8 w a len cap zs) (h' : RowIn .u8 w a' len' cap' zs') :
    Calls Try.prog 11 #[.slice a len cap, .slice a' len' cap'] w fun e w' => e = .returned (.bool true) ∧ Below w.heap.size w w' := by
  by_cases hbig : 1048576 < len + len'
  · have l1 := h.len
    clear h h'
    go_enter Try.func11, Try.ntmps11
    go_wp2_with (go_at_call 37; refine (lBig_yes _ _ _ _ _ _ _ hbig l1).mono ?_; rintro e w' ⟨rfl, rfl⟩)
    go_ret
    exact ⟨rfl, Below.refl _ _⟩
  have H := Lib.hid (h.code (by omega))
  have Hcode0 := Lib.hid (h'.code (by omega))
  clear h h'
  go_enter Try.func11, Try.ntmps11
  go_wp2_with (go_at_call 37; refine (lBig_no _ _ _ _ _ _ _ (by omega)).mono ?_; rintro e w' ⟨rfl, rfl⟩)
  refine (dAllFields a len cap _ H.out).mono ?_
  rintro e w1 ⟨a1, n1, c1, n, rfl, n0, n9, ⟨l, hA, hcA, hcmA, hA9, hrA, hsA, hbw⟩⟩
  subst hA
  have Hm := Lib.hid (show ∀ t ∈ l, t.mod from fun t ht => (hsA t ht).modY)
  have R1 := Lib.hid hrA.any
  have B1 := Lib.hid hbw
  clear hrA hsA hbw H
  have hfl : (allA l n).length ≤ 144 := allA_most
  have Told := Lib.hid (@fields_told l n)
  have AX := Lib.hid (fun W hW => iAllFields a1 c1 l n W (by omega) hcA hcmA Hm.out hW)
  have AS := Lib.hid (fun W hW => sAllFields a1 c1 l n W (by omega) hcA hcmA Hm.out hW)
  have AB := Lib.hid (fun x W hW => iAllFields a1 c1 l x W (by omega) hcA hcmA Hm.out hW)
  obtain ⟨f, hf⟩ : ∃ f, allA l n = f := ⟨_, rfl⟩
  obtain ⟨q, hq⟩ : ∃ q, recB l n = q := ⟨_, rfl⟩
  rw [hf, hq] at AX AS Told
  rw [hf] at hfl
  clear hf hq
  go_wp2_with fail
  refine (AX.out _ R1.out).mono ?_
  rintro e w2 ⟨v1, rfl, hown, hb⟩
  obtain ⟨f1, d1, rfl, _, _, _, hr1⟩ := hown.rows
  have F1 := Lib.hid hr1.any
  have R2 := Lib.hid (R1.out.below hb)
  have B2 := Lib.hid (B1.out.trans (hb.mono B1.out.size))
  clear hown hr1 hb
  go_wp2_with fail
  refine (AS.out _ R2.out).mono ?_
  rintro e w3 ⟨v2, rfl, hown, hb⟩
  obtain ⟨f2, d2, rfl, _, _, _, hr2⟩ := hown.rows
  have G1 := Lib.hid hr2.any
  have F2 := Lib.hid (F1.out.below hb)
  have R3 := Lib.hid (R2.out.below hb)
  have B3 := Lib.hid (B2.out.trans (hb.mono B2.out.size))
  clear hown hr2 hb AX AS F1 R1 R2 B1 B2
  cases q
  · clear Told
    go_wp2_with fail
    go_loopw [55] (fun i wr => ∃ k : Nat, i = .int .i64 k ∧ k ≤ f.length ∧ Below w3.heap.size w3 wr) (fun i _ => f.length - (intOf i).toNat)
    case atStart => exact ⟨0, rfl, by omega, Below.refl _ _⟩
    case round =>
      obtain ⟨k, rfl, hk, hbel⟩ := hrel
      have Hbel := Lib.hid hbel
      by_cases hlt : k < f.length
      · obtain ⟨bg, og, cs, rfl, _, hbg1, hcg, hat⟩ := G1.out k hlt
        obtain rfl : cs = [.string f[k].fName, .int .i64 f[k].fMark, .int .i64 f[k].fType] := hat
        obtain ⟨bf, of, cs, rfl, _, hbf1, hcf, hat⟩ := F2.out k hlt
        obtain rfl : cs = [.string f[k].fName, .int .i64 f[k].fMark, .int .i64 f[k].fType] := hat
        have hn3 : fieldS.n = 3 := rfl
        have k0 := (hbel.cell (p := ⟨bg, og + k * 3 + 0, none⟩) hbg1).trans (hcg 0 (by decide))
        have k1 := (hbel.cell (p := ⟨bg, og + k * 3 + 1, none⟩) hbg1).trans (hcg 1 (by decide))
        have k2 := (hbel.cell (p := ⟨bg, og + k * 3 + 2, none⟩) hbg1).trans (hcg 2 (by decide))
        have j0 := (hbel.cell (p := ⟨bf, of + k * 3 + 0, none⟩) hbf1).trans (hcf 0 (by decide))
        have j1 := (hbel.cell (p := ⟨bf, of + k * 3 + 1, none⟩) hbf1).trans (hcf 1 (by decide))
        have j2 := (hbel.cell (p := ⟨bf, of + k * 3 + 2, none⟩) hbf1).trans (hcf 2 (by decide))
        simp at k0 k1 k2 j0 j1 j2
        have hqq := eqFld f[k]
        clear hcf hcg hbel
        generalize f[k] = t at *
        go_wp2_with fail
        go_region
        all_goals
          go_wp2_with fail
          exact ⟨⟨k + 1, by congr 1, by omega, Hbel.out.drew⟩, by simp [intOf]; omega⟩
      · have hkf : k = f.length := by omega
        clear hbel
        have B4 := Lib.hid (B3.out.trans (Hbel.out.mono B3.out.size))
        have R4 := Lib.hid (R3.out.below Hbel.out)
        obtain ⟨wo, hwo⟩ : ∃ x, x = wr := ⟨_, rfl⟩
        subst hwo
        have BX := Lib.hid B4.out
        go_wp2_with fail
        refine (dRootOf a' len' cap' _ (Hcode0.out.below BX.out)).mono ?_
        rintro e v1 ⟨a2, n2, c2, m2, rfl, _, _, l2, hl2, hcc2, hcm2, h92, hr2, hs2, hbv1⟩
        subst hl2
        have Hm2 := Lib.hid (show ∀ t ∈ l2, t.mod from fun t ht => (hs2 t ht).modY)
        have RV1 := Lib.hid hr2.any
        have BV1 := Lib.hid (BX.out.trans (hbv1.mono BX.out.size))
        have RT := Lib.hid (@root_told l2 m2)
        clear hr2 hs2 hbv1
        go_wp2_with fail
        refine (iRootOf a2 c2 l2 m2 _ (by omega) hcc2 hcm2 Hm2.out RV1.out).mono ?_
        rintro e v2 ⟨rfl, hbv⟩
        have RV2 := Lib.hid (RV1.out.below hbv)
        have BV2 := Lib.hid (BV1.out.trans (hbv.mono BV1.out.size))
        clear hbv
        go_wp2_with fail
        refine (sRootOf a2 c2 l2 m2 _ (by omega) hcc2 hcm2 Hm2.out RV2.out).mono ?_
        rintro e v3 ⟨rfl, hbv⟩
        have RV3 := Lib.hid (RV2.out.below hbv)
        have BV3 := Lib.hid (BV2.out.trans (hbv.mono BV2.out.size))
        clear hbv
        generalize rootA l2 m2 = rz at *
        generalize recB l2 m2 = rb at *
        have rzz : (rz != rz) = false := bne_self_eq_false _
        cases rb
        · go_wp2_with fail
          go_ret
          exact ⟨rfl, BV3.out⟩
        · obtain ⟨e1, e2⟩ := RT.out (by first | rfl | trivial)
          have E1 := Lib.hid e1
          have E2 := Lib.hid e2
          clear e1 e2
          go_wp2_with fail
          refine (iDeepOf a2 c2 l2 rz _ (by omega) hcc2 hcm2 Hm2.out RV3.out).mono ?_
          rintro e v4 ⟨rfl, hbv⟩
          rw [E1.out, E2.out]
          have BV4 := Lib.hid (BV3.out.trans (hbv.mono BV3.out.size))
          clear hbv
          go_wp2_with fail
          go_ret
          exact ⟨rfl, BV4.out⟩
  · obtain ⟨n', rfl, hn', Told2⟩ := Told.out (by first | rfl | trivial)
    have Told2 := Lib.hid Told2
    go_wp2_with fail
    go_loopw [55] (fun i wr => ∃ k : Nat, i = .int .i64 k ∧ k ≤ f.length ∧ Below w3.heap.size w3 wr) (fun i _ => f.length - (intOf i).toNat)
    case atStart => exact ⟨0, rfl, by omega, Below.refl _ _⟩
    case round =>
      obtain ⟨k, rfl, hk, hbel⟩ := hrel
      have Hbel := Lib.hid hbel
      by_cases hlt : k < f.length
      · obtain ⟨bg, og, cs, rfl, _, hbg1, hcg, hat⟩ := G1.out k hlt
        obtain rfl : cs = [.string f[k].fName, .int .i64 f[k].fMark, .int .i64 f[k].fType] := hat
        obtain ⟨bf, of, cs, rfl, _, hbf1, hcf, hat⟩ := F2.out k hlt
        obtain rfl : cs = [.string f[k].fName, .int .i64 f[k].fMark, .int .i64 f[k].fType] := hat
        have hn3 : fieldS.n = 3 := rfl
        have k0 := (hbel.cell (p := ⟨bg, og + k * 3 + 0, none⟩) hbg1).trans (hcg 0 (by decide))
        have k1 := (hbel.cell (p := ⟨bg, og + k * 3 + 1, none⟩) hbg1).trans (hcg 1 (by decide))
        have k2 := (hbel.cell (p := ⟨bg, og + k * 3 + 2, none⟩) hbg1).trans (hcg 2 (by decide))
        have j0 := (hbel.cell (p := ⟨bf, of + k * 3 + 0, none⟩) hbf1).trans (hcf 0 (by decide))
        have j1 := (hbel.cell (p := ⟨bf, of + k * 3 + 1, none⟩) hbf1).trans (hcf 1 (by decide))
        have j2 := (hbel.cell (p := ⟨bf, of + k * 3 + 2, none⟩) hbf1).trans (hcf 2 (by decide))
        simp at k0 k1 k2 j0 j1 j2
        have hqq := eqFld f[k]
        clear hcf hcg hbel
        generalize f[k] = t at *
        go_wp2_with fail
        go_region
        all_goals
          go_wp2_with fail
          exact ⟨⟨k + 1, by congr 1, by omega, Hbel.out.drew⟩, by simp [intOf]; omega⟩
      · have hkf : k = f.length := by omega
        clear hbel
        have B4 := Lib.hid (B3.out.trans (Hbel.out.mono B3.out.size))
        have R4 := Lib.hid (R3.out.below Hbel.out)
        obtain ⟨wo, hwo⟩ : ∃ x, x = wr := ⟨_, rfl⟩
        subst hwo
        have BX := Lib.hid B4.out
        obtain ⟨b, o, a3, c3, rfl, hb1, e0, e1, e2, e3, e4, e5, hrf, _⟩ := type_cells R4.out hn' (Below.refl _ _)
        have hft : l[n'].fFields.length ≤ 1048576 := (Hm.out _ (List.getElem_mem hn')).2.2.1
        have i1 : (0 : Int) ≤ (n' : Int) := by omega
        have i2 : (n' : Int) < (l.length : Int) := by omega
        clear hrf
        rcases Told2.out with ⟨hb, he⟩ | ⟨hb, hrb, he⟩
        · have hge : ¬ (0 ≤ l[n'].fBase) := by omega
          have hne : ((l[n'].fFields.length : Int) != (f.length : Int)) = false := by rw [bne_eq_false_iff_eq]; omega
          clear he hb Told Told2
          generalize l[n'] = t at *
          go_wp2_with fail
          refine (dRootOf a' len' cap' _ (Hcode0.out.below BX.out)).mono ?_
          rintro e v1 ⟨a2, n2, c2, m2, rfl, _, _, l2, hl2, hcc2, hcm2, h92, hr2, hs2, hbv1⟩
          subst hl2
          have Hm2 := Lib.hid (show ∀ t ∈ l2, t.mod from fun t ht => (hs2 t ht).modY)
          have RV1 := Lib.hid hr2.any
          have BV1 := Lib.hid (BX.out.trans (hbv1.mono BX.out.size))
          have RT := Lib.hid (@root_told l2 m2)
          clear hr2 hs2 hbv1
          go_wp2_with fail
          refine (iRootOf a2 c2 l2 m2 _ (by omega) hcc2 hcm2 Hm2.out RV1.out).mono ?_
          rintro e v2 ⟨rfl, hbv⟩
          have RV2 := Lib.hid (RV1.out.below hbv)
          have BV2 := Lib.hid (BV1.out.trans (hbv.mono BV1.out.size))
          clear hbv
          go_wp2_with fail
          refine (sRootOf a2 c2 l2 m2 _ (by omega) hcc2 hcm2 Hm2.out RV2.out).mono ?_
          rintro e v3 ⟨rfl, hbv⟩
          have RV3 := Lib.hid (RV2.out.below hbv)
          have BV3 := Lib.hid (BV2.out.trans (hbv.mono BV2.out.size))
          clear hbv
          generalize rootA l2 m2 = rz at *
          generalize recB l2 m2 = rb at *
          have rzz : (rz != rz) = false := bne_self_eq_false _
          cases rb
          · go_wp2_with fail
            go_ret
            exact ⟨rfl, BV3.out⟩
          · obtain ⟨e1, e2⟩ := RT.out (by first | rfl | trivial)
            have E1 := Lib.hid e1
            have E2 := Lib.hid e2
            clear e1 e2
            go_wp2_with fail
            refine (iDeepOf a2 c2 l2 rz _ (by omega) hcc2 hcm2 Hm2.out RV3.out).mono ?_
            rintro e v4 ⟨rfl, hbv⟩
            rw [E1.out, E2.out]
            have BV4 := Lib.hid (BV3.out.trans (hbv.mono BV3.out.size))
            clear hbv
            go_wp2_with fail
            go_ret
            exact ⟨rfl, BV4.out⟩
        · have hgl : (allA l l[n'].fBase).length ≤ 144 := allA_most
          have hne : ((l[n'].fFields.length : Int) + ((allA l l[n'].fBase).length : Int) != (f.length : Int)) = false := by rw [bne_eq_false_iff_eq]; omega
          have AB2 := Lib.hid (fun W hW => AB.out l[n'].fBase W hW)
          rw [hrb] at AB2
          clear he hrb Told Told2 AB
          generalize l[n'] = t at *
          generalize allA l t.fBase = g at *
          go_wp2_with fail
          refine (AB2.out _ R4.out).mono ?_
          rintro e w5 ⟨v5, rfl, hown, hb5⟩
          obtain ⟨f5, d5, rfl, _, _, _, _⟩ := hown.rows
          have BX := Lib.hid (B4.out.trans (hb5.mono B4.out.size))
          clear hown hb5
          go_wp2_with fail
          refine (dRootOf a' len' cap' _ (Hcode0.out.below BX.out)).mono ?_
          rintro e v1 ⟨a2, n2, c2, m2, rfl, _, _, l2, hl2, hcc2, hcm2, h92, hr2, hs2, hbv1⟩
          subst hl2
          have Hm2 := Lib.hid (show ∀ t ∈ l2, t.mod from fun t ht => (hs2 t ht).modY)
          have RV1 := Lib.hid hr2.any
          have BV1 := Lib.hid (BX.out.trans (hbv1.mono BX.out.size))
          have RT := Lib.hid (@root_told l2 m2)
          clear hr2 hs2 hbv1
          go_wp2_with fail
          refine (iRootOf a2 c2 l2 m2 _ (by omega) hcc2 hcm2 Hm2.out RV1.out).mono ?_
          rintro e v2 ⟨rfl, hbv⟩
          have RV2 := Lib.hid (RV1.out.below hbv)
          have BV2 := Lib.hid (BV1.out.trans (hbv.mono BV1.out.size))
          clear hbv
          go_wp2_with fail
          refine (sRootOf a2 c2 l2 m2 _ (by omega) hcc2 hcm2 Hm2.out RV2.out).mono ?_
          rintro e v3 ⟨rfl, hbv⟩
          have RV3 := Lib.hid (RV2.out.below hbv)
          have BV3 := Lib.hid (BV2.out.trans (hbv.mono BV2.out.size))
          clear hbv
          generalize rootA l2 m2 = rz at *
          generalize recB l2 m2 = rb at *
          have rzz : (rz != rz) = false := bne_self_eq_false _
          cases rb
          · go_wp2_with fail
            go_ret
            exact ⟨rfl, BV3.out⟩
          · obtain ⟨e1, e2⟩ := RT.out (by first | rfl | trivial)
            have E1 := Lib.hid e1
            have E2 := Lib.hid e2
            clear e1 e2
            go_wp2_with fail
            refine (iDeepOf a2 c2 l2 rz _ (by omega) hcc2 hcm2 Hm2.out RV3.out).mono ?_
            rintro e v4 ⟨rfl, hbv⟩
            rw [E1.out, E2.out]
            have BV4 := Lib.hid (BV3.out.trans (hbv.mono BV3.out.size))
            clear hbv
            go_wp2_with fail
            go_ret
            exact ⟨rfl, BV4.out⟩
end Go.Proofs.Ytmfpijakpmjmdaa
