
/-
  What is proved: the walk of the law FnLarger. No condition beside what each theorem states.
-/
import Derived.Test.YtlfigpdjhljdnaaLayQ
import Derived.Test.YtlfigpdjhljdnaaDrawX
import Derived.Test.YtlfigpdjhljdnaaPutB
namespace Go.Proofs.Ytlfigpdjhljdnaa
open Go.ChangeShapes Go.WideShapes Go.ChangeAt Go.RowKit
set_option maxRecDepth 100000

theorem shortT.modL {t : TypeD} (h : shortT t) : t.mod := by
  obtain ⟨h1, h2, h3, h4⟩ := h
  unfold TypeD.mod maxLen
  exact ⟨by omega, by omega, by omega, fun f hf => by have := h4 f hf; omega⟩
theorem sizeB_got {l : List TypeD} {x : Int} (h : sizeB l x = true) : sizeP l x := by
  by_cases hp : sizeP l x
  · exact hp
  · rw [(size_out hp).1] at h; cases h
theorem larger_told {l : List TypeD} {x y : Int} (h : extOk l x y = true) (hs : extA l x y = true) :
    (sizeB l x = true → sizeB l y = true ∧ sizeA l y ≤ sizeA l x) ∧ (layB l x = true → layB l y = true ∧ ∃ rest, layA l x = layA l y ++ rest) ∧ mayOk l y x = true ∧ mayA l y x = true := by
  have hP : good l ∧ kindZ l x = 5 ∧ kindZ l y = 5 := by unfold extOk at h; simpa using h
  obtain ⟨hg, kx, ky⟩ := hP
  obtain ⟨_, q2⟩ := ext_in (l := l) (x := x) (y := y) ⟨hg, kx, ky⟩
  rw [q2] at hs
  have hm := of_decide_eq_true hs
  obtain ⟨pre, hp⟩ := chain_tail hg _ x (Nat.le_refl _) hm
  have hd : ∃ rest, downZ l x = downZ l y ++ rest := by
    unfold downZ
    rw [hp, List.reverse_append, allF_app]
    exact ⟨_, rfl⟩
  have hsz := size_chain hg _ x (Nat.le_refl _) hm
  have ry := kindZ_range (l := l) (x := y) (by omega)
  refine ⟨fun h1 => ?_, fun h1 => lay_pre h1 ky hd, ?_⟩
  · have hp1 := sizeB_got h1
    have hp2 : sizeP l y := ⟨⟨hg, ry.1, ry.2⟩, Int.le_trans hsz hp1.2⟩
    rw [(size_in hp1).2, (size_in hp2).2]
    exact ⟨(size_in hp2).1, hsz⟩
  · obtain ⟨i, rfl, hi, _⟩ := kind5 kx
    obtain ⟨j, rfl, hj, _⟩ := kind5 ky
    obtain ⟨m1, m2⟩ := may_in hg hj hi
    exact ⟨m1, by rw [m2]; exact putB_true (.inr (.inl hm))⟩

-- shell: FnLarger
set_option maxHeartbeats 32000000 in
theorem law_FnLarger (a : Option Addr) (len cap : Nat) (zs : List Int) (a' : Option Addr) (len' cap' : Nat) (zs' : List Int) (w : World) (h : RowIn .u8 w a len cap zs) (h' : RowIn .u8 w a' len' cap' zs') :
    Calls Try.prog 4 #[.slice a len cap, .slice a' len' cap'] w fun e w' => e = .returned (.bool true) ∧ Below w.heap.size w w' := by
  by_cases hbig : 1048576 < len + len'
  · have l1 := h.len
    clear h h'
    go_enter Try.func4, Try.ntmps4
    go_wp2_with (go_at_call 8; refine (lBig_yes _ _ _ _ _ _ _ hbig l1).mono ?_; rintro e w' ⟨rfl, rfl⟩)
    go_ret
    exact ⟨rfl, Below.refl _ _⟩
  have H := Lib.hid (h.code (by omega))
  have Hcode0 := Lib.hid (h'.code (by omega))
  clear h h'
  go_enter Try.func4, Try.ntmps4
  go_wp2_with (go_at_call 8; refine (lBig_no _ _ _ _ _ _ _ (by omega)).mono ?_; rintro e w' ⟨rfl, rfl⟩)
  refine (dExtends a len cap _ H.out).mono ?_
  rintro e w1 ⟨a1, n1, c1, x, y, rfl, ⟨l, hA, hcA, hcmA, hA9, hrA, hsA, hbw⟩⟩
  subst hA
  have Hm := Lib.hid (show ∀ t ∈ l, t.mod from fun t ht => (hsA t ht).modL)
  have R1 := Lib.hid hrA.any
  have B1 := Lib.hid hbw
  clear hrA hsA hbw H
  go_wp2_with fail
  refine (iExtends a1 c1 l x y _ (by omega) hcA hcmA Hm.out R1.out).mono ?_
  rintro e w2 ⟨rfl, hb⟩
  have R2 := Lib.hid (R1.out.below hb)
  have B2 := Lib.hid (B1.out.trans (hb.mono B1.out.size))
  clear hb R1 B1
  go_wp2_with fail
  refine (sExtends a1 c1 l x y _ (by omega) hcA hcmA Hm.out R2.out).mono ?_
  rintro e w3 ⟨rfl, hb⟩
  have R3 := Lib.hid (R2.out.below hb)
  have B3 := Lib.hid (B2.out.trans (hb.mono B2.out.size))
  clear hb R2 B2
  have SX := Lib.hid (fun W hW => iSizeOf a1 c1 l x W (by omega) hcA hcmA Hm.out hW)
  have SY := Lib.hid (fun W hW => iSizeOf a1 c1 l y W (by omega) hcA hcmA Hm.out hW)
  have LX := Lib.hid (fun W hW => iLayoutOf a1 c1 l x W (by omega) hcA hcmA Hm.out hW)
  have LY := Lib.hid (fun W hW => iLayoutOf a1 c1 l y W (by omega) hcA hcmA Hm.out hW)
  have MP := Lib.hid (fun W hW => iMayPut a1 c1 l y x W (by omega) hcA hcmA Hm.out hW)
  have hlx : (layA l x).length ≤ 144 := layA_len
  have hly : (layA l y).length ≤ 144 := layA_len
  have Hnil := Lib.hid (show layB l x = false → layA l x = [] from fun h => (lay_out (fun hp => by rw [(lay_in hp).1] at h; cases h)).2)
  obtain ⟨S, hS⟩ : ∃ S, extA l x y = S := ⟨_, rfl⟩
  obtain ⟨Q, hQ⟩ : ∃ Q, extOk l x y = Q := ⟨_, rfl⟩
  have Told := @larger_told l x y
  rw [hS, hQ] at Told
  rw [hS, hQ]
  clear hS hQ
  generalize sizeA l x = sx at *
  generalize sizeA l y = sy at *
  generalize sizeB l x = bx at *
  generalize sizeB l y = by' at *
  generalize layA l x = px at *
  generalize layA l y = py at *
  generalize layB l x = qx at *
  generalize layB l y = qy at *
  generalize mayA l y x = ma at *
  generalize mayOk l y x = mo at *
  cases Q
  · have BX := Lib.hid B3.out
    clear Told SX SY LX LY MP
    cases S
    all_goals
      go_wp2_with fail
      refine (dLayoutOf a' len' cap' _ (Hcode0.out.below BX.out)).mono ?_
      rintro e v1 ⟨a2, n2, c2, m2, rfl, _, _, l2, hl2, hcc2, hcm2, h92, hr2, hs2, hbv1⟩
      subst hl2
      have Hm2 := Lib.hid (show ∀ t ∈ l2, t.mod from fun t ht => (hs2 t ht).modL)
      have RV1 := Lib.hid hr2.any
      have BV1 := Lib.hid (BX.out.trans (hbv1.mono BX.out.size))
      have hl3 : (layA l2 m2).length ≤ 144 := layA_len
      have LI := Lib.hid (fun W hW => iLayoutOf a2 c2 l2 m2 W (by omega) hcc2 hcm2 Hm2.out hW)
      have LS := Lib.hid (fun W hW => sLayoutOf a2 c2 l2 m2 W (by omega) hcc2 hcm2 Hm2.out hW)
      generalize layA l2 m2 = p2 at *
      generalize layB l2 m2 = q2 at *
      clear hr2 hs2 hbv1
      go_wp2_with fail
      refine (LI.out _ RV1.out).mono ?_
      rintro e v2 ⟨x2, rfl, hown, hbv⟩
      obtain ⟨f2, d2, rfl, _, _, _, _⟩ := hown.rows
      have RV2 := Lib.hid (RV1.out.below hbv)
      have BV2 := Lib.hid (BV1.out.trans (hbv.mono BV1.out.size))
      clear hown hbv
      go_wp2_with fail
      refine (LS.out _ RV2.out).mono ?_
      rintro e v3 ⟨x3, rfl, hown, hbv⟩
      obtain ⟨f3, d3, rfl, _, _, _, _⟩ := hown.rows
      have BV3 := Lib.hid (BV2.out.trans (hbv.mono BV2.out.size))
      clear hown hbv
      have l22 : ((p2.length : Int) == (p2.length : Int)) = true := beq_self_eq_true _
      cases q2
      all_goals
        go_wp2_with fail
        go_ret
        exact ⟨rfl, BV3.out⟩
  cases S
  · have BX := Lib.hid B3.out
    clear Told SX SY LX LY MP
    go_wp2_with fail
    refine (dLayoutOf a' len' cap' _ (Hcode0.out.below BX.out)).mono ?_
    rintro e v1 ⟨a2, n2, c2, m2, rfl, _, _, l2, hl2, hcc2, hcm2, h92, hr2, hs2, hbv1⟩
    subst hl2
    have Hm2 := Lib.hid (show ∀ t ∈ l2, t.mod from fun t ht => (hs2 t ht).modL)
    have RV1 := Lib.hid hr2.any
    have BV1 := Lib.hid (BX.out.trans (hbv1.mono BX.out.size))
    have hl3 : (layA l2 m2).length ≤ 144 := layA_len
    have LI := Lib.hid (fun W hW => iLayoutOf a2 c2 l2 m2 W (by omega) hcc2 hcm2 Hm2.out hW)
    have LS := Lib.hid (fun W hW => sLayoutOf a2 c2 l2 m2 W (by omega) hcc2 hcm2 Hm2.out hW)
    generalize layA l2 m2 = p2 at *
    generalize layB l2 m2 = q2 at *
    clear hr2 hs2 hbv1
    go_wp2_with fail
    refine (LI.out _ RV1.out).mono ?_
    rintro e v2 ⟨x2, rfl, hown, hbv⟩
    obtain ⟨f2, d2, rfl, _, _, _, _⟩ := hown.rows
    have RV2 := Lib.hid (RV1.out.below hbv)
    have BV2 := Lib.hid (BV1.out.trans (hbv.mono BV1.out.size))
    clear hown hbv
    go_wp2_with fail
    refine (LS.out _ RV2.out).mono ?_
    rintro e v3 ⟨x3, rfl, hown, hbv⟩
    obtain ⟨f3, d3, rfl, _, _, _, _⟩ := hown.rows
    have BV3 := Lib.hid (BV2.out.trans (hbv.mono BV2.out.size))
    clear hown hbv
    have l22 : ((p2.length : Int) == (p2.length : Int)) = true := beq_self_eq_true _
    cases q2
    all_goals
      go_wp2_with fail
      go_ret
      exact ⟨rfl, BV3.out⟩
  · obtain ⟨t1, t2, t3, t4⟩ := Told (by first | rfl | trivial) (by first | rfl | trivial)
    subst t3 t4
    have T1 := Lib.hid t1
    have T2 := Lib.hid t2
    clear t1 t2 Told
    go_wp2_with fail
    refine (SX.out _ R3.out).mono ?_
    rintro e w4 ⟨rfl, hb⟩
    have R4 := Lib.hid (R3.out.below hb)
    have B4 := Lib.hid (B3.out.trans (hb.mono B3.out.size))
    clear hb
    go_wp2_with fail
    refine (SY.out _ R4.out).mono ?_
    rintro e w5 ⟨rfl, hb⟩
    have R5 := Lib.hid (R4.out.below hb)
    have B5 := Lib.hid (B4.out.trans (hb.mono B4.out.size))
    clear hb
    have hsz : bx = true → by' = true ∧ decide (sx < sy) = false := fun h => ⟨(T1.out h).1, decide_eq_false (by have := (T1.out h).2; omega)⟩
    clear T1 SX SY
    cases bx
    · clear hsz
      cases by'
      all_goals
        go_wp2_with fail
        refine (LX.out _ R5.out).mono ?_
        rintro e w6 ⟨v6, rfl, hown, hb⟩
        obtain ⟨f1, d1, rfl, _, _, _, hr1⟩ := hown.rows
        have F1 := Lib.hid hr1.any
        have R6 := Lib.hid (R5.out.below hb)
        have B6 := Lib.hid (B5.out.trans (hb.mono B5.out.size))
        clear hown hr1 hb
        go_wp2_with fail
        refine (LY.out _ R6.out).mono ?_
        rintro e w7 ⟨v7, rfl, hown, hb⟩
        obtain ⟨f2, d2, rfl, _, _, _, hr2⟩ := hown.rows
        have G1 := Lib.hid hr2.any
        have F2 := Lib.hid (F1.out.below hb)
        have R7 := Lib.hid (R6.out.below hb)
        have B7 := Lib.hid (B6.out.trans (hb.mono B6.out.size))
        clear hown hr2 hb
        cases qx
        · have hx0 := Hnil.out (by first | rfl | trivial)
          subst hx0
          cases qy
          all_goals
            go_wp2_with fail
            go_loopw [20] (fun i wr => i = .int .i64 0 ∧ wr = w7) (fun _ _ => 0)
            case atStart => exact ⟨rfl, rfl⟩
            case round =>
              obtain ⟨rfl, rfl⟩ := hrel
              go_wp2_with fail
              refine (MP.out _ R7.out).mono ?_
              rintro e w8 ⟨rfl, hb⟩
              have BX := Lib.hid (B7.out.trans (hb.mono B7.out.size))
              clear hb
              go_wp2_with fail
              refine (dLayoutOf a' len' cap' _ (Hcode0.out.below BX.out)).mono ?_
              rintro e v1 ⟨a2, n2, c2, m2, rfl, _, _, l2, hl2, hcc2, hcm2, h92, hr2, hs2, hbv1⟩
              subst hl2
              have Hm2 := Lib.hid (show ∀ t ∈ l2, t.mod from fun t ht => (hs2 t ht).modL)
              have RV1 := Lib.hid hr2.any
              have BV1 := Lib.hid (BX.out.trans (hbv1.mono BX.out.size))
              have hl3 : (layA l2 m2).length ≤ 144 := layA_len
              have LI := Lib.hid (fun W hW => iLayoutOf a2 c2 l2 m2 W (by omega) hcc2 hcm2 Hm2.out hW)
              have LS := Lib.hid (fun W hW => sLayoutOf a2 c2 l2 m2 W (by omega) hcc2 hcm2 Hm2.out hW)
              generalize layA l2 m2 = p2 at *
              generalize layB l2 m2 = q2 at *
              clear hr2 hs2 hbv1
              go_wp2_with fail
              refine (LI.out _ RV1.out).mono ?_
              rintro e v2 ⟨x2, rfl, hown, hbv⟩
              obtain ⟨f2, d2, rfl, _, _, _, _⟩ := hown.rows
              have RV2 := Lib.hid (RV1.out.below hbv)
              have BV2 := Lib.hid (BV1.out.trans (hbv.mono BV1.out.size))
              clear hown hbv
              go_wp2_with fail
              refine (LS.out _ RV2.out).mono ?_
              rintro e v3 ⟨x3, rfl, hown, hbv⟩
              obtain ⟨f3, d3, rfl, _, _, _, _⟩ := hown.rows
              have BV3 := Lib.hid (BV2.out.trans (hbv.mono BV2.out.size))
              clear hown hbv
              have l22 : ((p2.length : Int) == (p2.length : Int)) = true := beq_self_eq_true _
              cases q2
              all_goals
                go_wp2_with fail
                go_ret
                exact ⟨rfl, BV3.out⟩
        · obtain ⟨u3, rest, u4⟩ := T2.out (by first | rfl | trivial)
          subst u3
          have hpre : py.length ≤ px.length ∧ ∀ k (hk : k < py.length) (hk' : k < px.length), px[k] = py[k] := by
            subst u4
            exact ⟨by simp, fun k hk hk' => List.getElem_append_left hk⟩
          obtain ⟨hlen, hpre⟩ := hpre
          have Hpre := Lib.hid hpre
          have dlen : decide ((px.length : Int) < (py.length : Int)) = false := decide_eq_false (by omega)
          clear u4 hpre
          go_wp2_with fail
          go_loopw [20] (fun i wr => ∃ k : Nat, i = .int .i64 k ∧ k ≤ py.length ∧ Below w7.heap.size w7 wr) (fun i _ => py.length - (intOf i).toNat)
          case atStart => exact ⟨0, rfl, by omega, Below.refl _ _⟩
          case round =>
            obtain ⟨k, rfl, hk, hbel⟩ := hrel
            have Hbel := Lib.hid hbel
            by_cases hlt : k < py.length
            · have heq := Hpre.out k hlt (by omega)
              obtain ⟨bg, og, cs, rfl, _, hbg1, hcg, hat⟩ := G1.out k hlt
              obtain rfl : cs = [.string py[k].fName, .int .i64 py[k].fAt, .int .i64 py[k].fSize] := hat
              obtain ⟨bf, of, cs, rfl, _, hbf1, hcf, hat⟩ := F2.out k (by omega)
              obtain rfl : cs = [.string px[k].fName, .int .i64 px[k].fAt, .int .i64 px[k].fSize] := hat
              rw [heq] at hcf
              have hn3 : placeS.n = 3 := rfl
              have k0 := (hbel.cell (p := ⟨bg, og + k * 3 + 0, none⟩) hbg1).trans (hcg 0 (by decide))
              have k1 := (hbel.cell (p := ⟨bg, og + k * 3 + 1, none⟩) hbg1).trans (hcg 1 (by decide))
              have k2 := (hbel.cell (p := ⟨bg, og + k * 3 + 2, none⟩) hbg1).trans (hcg 2 (by decide))
              have j0 := (hbel.cell (p := ⟨bf, of + k * 3 + 0, none⟩) hbf1).trans (hcf 0 (by decide))
              have j1 := (hbel.cell (p := ⟨bf, of + k * 3 + 1, none⟩) hbf1).trans (hcf 1 (by decide))
              have j2 := (hbel.cell (p := ⟨bf, of + k * 3 + 2, none⟩) hbf1).trans (hcf 2 (by decide))
              simp at k0 k1 k2 j0 j1 j2
              have hqq := eqPlc py[k]
              have kpx : (k : Int) < (px.length : Int) := by omega
              clear hcf hcg hbel heq
              generalize py[k] = t at *
              go_wp2_with fail
              go_region
              all_goals
                go_wp2_with fail
                exact ⟨⟨k + 1, by congr 1, by omega, Hbel.out.drew⟩, by simp [intOf]; omega⟩
            · clear hbel
              have R7' := Lib.hid (R7.out.below Hbel.out)
              have B7' := Lib.hid (B7.out.trans (Hbel.out.mono B7.out.size))
              obtain ⟨wo, hwo⟩ : ∃ x, x = wr := ⟨_, rfl⟩
              subst hwo
              go_wp2_with fail
              refine (MP.out _ R7'.out).mono ?_
              rintro e w8 ⟨rfl, hb⟩
              have BX := Lib.hid (B7'.out.trans (hb.mono B7'.out.size))
              clear hb
              go_wp2_with fail
              refine (dLayoutOf a' len' cap' _ (Hcode0.out.below BX.out)).mono ?_
              rintro e v1 ⟨a2, n2, c2, m2, rfl, _, _, l2, hl2, hcc2, hcm2, h92, hr2, hs2, hbv1⟩
              subst hl2
              have Hm2 := Lib.hid (show ∀ t ∈ l2, t.mod from fun t ht => (hs2 t ht).modL)
              have RV1 := Lib.hid hr2.any
              have BV1 := Lib.hid (BX.out.trans (hbv1.mono BX.out.size))
              have hl3 : (layA l2 m2).length ≤ 144 := layA_len
              have LI := Lib.hid (fun W hW => iLayoutOf a2 c2 l2 m2 W (by omega) hcc2 hcm2 Hm2.out hW)
              have LS := Lib.hid (fun W hW => sLayoutOf a2 c2 l2 m2 W (by omega) hcc2 hcm2 Hm2.out hW)
              generalize layA l2 m2 = p2 at *
              generalize layB l2 m2 = q2 at *
              clear hr2 hs2 hbv1
              go_wp2_with fail
              refine (LI.out _ RV1.out).mono ?_
              rintro e v2 ⟨x2, rfl, hown, hbv⟩
              obtain ⟨f2, d2, rfl, _, _, _, _⟩ := hown.rows
              have RV2 := Lib.hid (RV1.out.below hbv)
              have BV2 := Lib.hid (BV1.out.trans (hbv.mono BV1.out.size))
              clear hown hbv
              go_wp2_with fail
              refine (LS.out _ RV2.out).mono ?_
              rintro e v3 ⟨x3, rfl, hown, hbv⟩
              obtain ⟨f3, d3, rfl, _, _, _, _⟩ := hown.rows
              have BV3 := Lib.hid (BV2.out.trans (hbv.mono BV2.out.size))
              clear hown hbv
              have l22 : ((p2.length : Int) == (p2.length : Int)) = true := beq_self_eq_true _
              cases q2
              all_goals
                go_wp2_with fail
                go_ret
                exact ⟨rfl, BV3.out⟩
    · obtain ⟨u1, u2⟩ := hsz rfl
      subst u1
      clear hsz
      go_wp2_with fail
      refine (LX.out _ R5.out).mono ?_
      rintro e w6 ⟨v6, rfl, hown, hb⟩
      obtain ⟨f1, d1, rfl, _, _, _, hr1⟩ := hown.rows
      have F1 := Lib.hid hr1.any
      have R6 := Lib.hid (R5.out.below hb)
      have B6 := Lib.hid (B5.out.trans (hb.mono B5.out.size))
      clear hown hr1 hb
      go_wp2_with fail
      refine (LY.out _ R6.out).mono ?_
      rintro e w7 ⟨v7, rfl, hown, hb⟩
      obtain ⟨f2, d2, rfl, _, _, _, hr2⟩ := hown.rows
      have G1 := Lib.hid hr2.any
      have F2 := Lib.hid (F1.out.below hb)
      have R7 := Lib.hid (R6.out.below hb)
      have B7 := Lib.hid (B6.out.trans (hb.mono B6.out.size))
      clear hown hr2 hb
      cases qx
      · have hx0 := Hnil.out (by first | rfl | trivial)
        subst hx0
        cases qy
        all_goals
          go_wp2_with fail
          go_loopw [20] (fun i wr => i = .int .i64 0 ∧ wr = w7) (fun _ _ => 0)
          case atStart => exact ⟨rfl, rfl⟩
          case round =>
            obtain ⟨rfl, rfl⟩ := hrel
            go_wp2_with fail
            refine (MP.out _ R7.out).mono ?_
            rintro e w8 ⟨rfl, hb⟩
            have BX := Lib.hid (B7.out.trans (hb.mono B7.out.size))
            clear hb
            go_wp2_with fail
            refine (dLayoutOf a' len' cap' _ (Hcode0.out.below BX.out)).mono ?_
            rintro e v1 ⟨a2, n2, c2, m2, rfl, _, _, l2, hl2, hcc2, hcm2, h92, hr2, hs2, hbv1⟩
            subst hl2
            have Hm2 := Lib.hid (show ∀ t ∈ l2, t.mod from fun t ht => (hs2 t ht).modL)
            have RV1 := Lib.hid hr2.any
            have BV1 := Lib.hid (BX.out.trans (hbv1.mono BX.out.size))
            have hl3 : (layA l2 m2).length ≤ 144 := layA_len
            have LI := Lib.hid (fun W hW => iLayoutOf a2 c2 l2 m2 W (by omega) hcc2 hcm2 Hm2.out hW)
            have LS := Lib.hid (fun W hW => sLayoutOf a2 c2 l2 m2 W (by omega) hcc2 hcm2 Hm2.out hW)
            generalize layA l2 m2 = p2 at *
            generalize layB l2 m2 = q2 at *
            clear hr2 hs2 hbv1
            go_wp2_with fail
            refine (LI.out _ RV1.out).mono ?_
            rintro e v2 ⟨x2, rfl, hown, hbv⟩
            obtain ⟨f2, d2, rfl, _, _, _, _⟩ := hown.rows
            have RV2 := Lib.hid (RV1.out.below hbv)
            have BV2 := Lib.hid (BV1.out.trans (hbv.mono BV1.out.size))
            clear hown hbv
            go_wp2_with fail
            refine (LS.out _ RV2.out).mono ?_
            rintro e v3 ⟨x3, rfl, hown, hbv⟩
            obtain ⟨f3, d3, rfl, _, _, _, _⟩ := hown.rows
            have BV3 := Lib.hid (BV2.out.trans (hbv.mono BV2.out.size))
            clear hown hbv
            have l22 : ((p2.length : Int) == (p2.length : Int)) = true := beq_self_eq_true _
            cases q2
            all_goals
              go_wp2_with fail
              go_ret
              exact ⟨rfl, BV3.out⟩
      · obtain ⟨u3, rest, u4⟩ := T2.out (by first | rfl | trivial)
        subst u3
        have hpre : py.length ≤ px.length ∧ ∀ k (hk : k < py.length) (hk' : k < px.length), px[k] = py[k] := by
          subst u4
          exact ⟨by simp, fun k hk hk' => List.getElem_append_left hk⟩
        obtain ⟨hlen, hpre⟩ := hpre
        have Hpre := Lib.hid hpre
        have dlen : decide ((px.length : Int) < (py.length : Int)) = false := decide_eq_false (by omega)
        clear u4 hpre
        go_wp2_with fail
        go_loopw [20] (fun i wr => ∃ k : Nat, i = .int .i64 k ∧ k ≤ py.length ∧ Below w7.heap.size w7 wr) (fun i _ => py.length - (intOf i).toNat)
        case atStart => exact ⟨0, rfl, by omega, Below.refl _ _⟩
        case round =>
          obtain ⟨k, rfl, hk, hbel⟩ := hrel
          have Hbel := Lib.hid hbel
          by_cases hlt : k < py.length
          · have heq := Hpre.out k hlt (by omega)
            obtain ⟨bg, og, cs, rfl, _, hbg1, hcg, hat⟩ := G1.out k hlt
            obtain rfl : cs = [.string py[k].fName, .int .i64 py[k].fAt, .int .i64 py[k].fSize] := hat
            obtain ⟨bf, of, cs, rfl, _, hbf1, hcf, hat⟩ := F2.out k (by omega)
            obtain rfl : cs = [.string px[k].fName, .int .i64 px[k].fAt, .int .i64 px[k].fSize] := hat
            rw [heq] at hcf
            have hn3 : placeS.n = 3 := rfl
            have k0 := (hbel.cell (p := ⟨bg, og + k * 3 + 0, none⟩) hbg1).trans (hcg 0 (by decide))
            have k1 := (hbel.cell (p := ⟨bg, og + k * 3 + 1, none⟩) hbg1).trans (hcg 1 (by decide))
            have k2 := (hbel.cell (p := ⟨bg, og + k * 3 + 2, none⟩) hbg1).trans (hcg 2 (by decide))
            have j0 := (hbel.cell (p := ⟨bf, of + k * 3 + 0, none⟩) hbf1).trans (hcf 0 (by decide))
            have j1 := (hbel.cell (p := ⟨bf, of + k * 3 + 1, none⟩) hbf1).trans (hcf 1 (by decide))
            have j2 := (hbel.cell (p := ⟨bf, of + k * 3 + 2, none⟩) hbf1).trans (hcf 2 (by decide))
            simp at k0 k1 k2 j0 j1 j2
            have hqq := eqPlc py[k]
            have kpx : (k : Int) < (px.length : Int) := by omega
            clear hcf hcg hbel heq
            generalize py[k] = t at *
            go_wp2_with fail
            go_region
            all_goals
              go_wp2_with fail
              exact ⟨⟨k + 1, by congr 1, by omega, Hbel.out.drew⟩, by simp [intOf]; omega⟩
          · clear hbel
            have R7' := Lib.hid (R7.out.below Hbel.out)
            have B7' := Lib.hid (B7.out.trans (Hbel.out.mono B7.out.size))
            obtain ⟨wo, hwo⟩ : ∃ x, x = wr := ⟨_, rfl⟩
            subst hwo
            go_wp2_with fail
            refine (MP.out _ R7'.out).mono ?_
            rintro e w8 ⟨rfl, hb⟩
            have BX := Lib.hid (B7'.out.trans (hb.mono B7'.out.size))
            clear hb
            go_wp2_with fail
            refine (dLayoutOf a' len' cap' _ (Hcode0.out.below BX.out)).mono ?_
            rintro e v1 ⟨a2, n2, c2, m2, rfl, _, _, l2, hl2, hcc2, hcm2, h92, hr2, hs2, hbv1⟩
            subst hl2
            have Hm2 := Lib.hid (show ∀ t ∈ l2, t.mod from fun t ht => (hs2 t ht).modL)
            have RV1 := Lib.hid hr2.any
            have BV1 := Lib.hid (BX.out.trans (hbv1.mono BX.out.size))
            have hl3 : (layA l2 m2).length ≤ 144 := layA_len
            have LI := Lib.hid (fun W hW => iLayoutOf a2 c2 l2 m2 W (by omega) hcc2 hcm2 Hm2.out hW)
            have LS := Lib.hid (fun W hW => sLayoutOf a2 c2 l2 m2 W (by omega) hcc2 hcm2 Hm2.out hW)
            generalize layA l2 m2 = p2 at *
            generalize layB l2 m2 = q2 at *
            clear hr2 hs2 hbv1
            go_wp2_with fail
            refine (LI.out _ RV1.out).mono ?_
            rintro e v2 ⟨x2, rfl, hown, hbv⟩
            obtain ⟨f2, d2, rfl, _, _, _, _⟩ := hown.rows
            have RV2 := Lib.hid (RV1.out.below hbv)
            have BV2 := Lib.hid (BV1.out.trans (hbv.mono BV1.out.size))
            clear hown hbv
            go_wp2_with fail
            refine (LS.out _ RV2.out).mono ?_
            rintro e v3 ⟨x3, rfl, hown, hbv⟩
            obtain ⟨f3, d3, rfl, _, _, _, _⟩ := hown.rows
            have BV3 := Lib.hid (BV2.out.trans (hbv.mono BV2.out.size))
            clear hown hbv
            have l22 : ((p2.length : Int) == (p2.length : Int)) = true := beq_self_eq_true _
            cases q2
            all_goals
              go_wp2_with fail
              go_ret
              exact ⟨rfl, BV3.out⟩
end Go.Proofs.Ytlfigpdjhljdnaa
