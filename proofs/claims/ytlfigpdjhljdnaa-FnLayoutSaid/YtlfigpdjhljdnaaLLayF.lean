
/-
  What is proved: the walk of the law FnLayout. No condition beside what each theorem states.
-/
import Derived.Test.YtlfigpdjhljdnaaLayQ
import Derived.Test.YtlfigpdjhljdnaaPlcOg
import Derived.Test.YtlfigpdjhljdnaaDrawX
namespace Go.Proofs.Ytlfigpdjhljdnaa
open Go.ChangeShapes Go.WideShapes Go.ChangeAt Go.RowKit
set_option maxRecDepth 100000

theorem shortT.modF {t : TypeD} (h : shortT t) : t.mod := by
  obtain ⟨h1, h2, h3, h4⟩ := h
  unfold TypeD.mod maxLen
  exact ⟨by omega, by omega, by omega, fun f hf => by have := h4 f hf; omega⟩
theorem dPlaceOf (a : Option Addr) (len cap : Nat) (w : World) (h : Code w a len) : Calls Try.prog 12 #[.slice a len cap] w fun e w' => ∃ a n c m s, e = .returned (.tuple #[.slice a n c, .int .i64 m, .string s]) ∧ 0 ≤ m ∧ m ≤ 9 ∧ s.size ≤ 20 ∧ TDrawn w a n c w' := by
  have H := Lib.hid (dFieldOf a len cap w h)
  clear h
  go_enter Try.func12, Try.ntmps12
  go_wp2_with fail
  refine H.out.mono ?_
  rintro e w1 ⟨a1, n, c, m, s, rfl, m0, m1, hs, hd⟩
  have D := Lib.hid hd
  clear hd
  go_wp2_with fail
  go_ret3
  exact ⟨a1, n, c, m, s, rfl, m0, m1, hs, D.out⟩
theorem dLineUp (a : Option Addr) (len cap : Nat) (w : World) (h : Code w a len) : Calls Try.prog 15 #[.slice a len cap] w (TwoDrawn w) := by
  have H := Lib.hid h
  clear h
  go_enter Try.func15, Try.ntmps15
  go_wp2_with fail
  refine (cAmong _ 0 _ _ [0, 1, 7, 8, 9, 1000000000, 1000000001, -1] _ (by decide) (by decide) (by decide) (H.out.cur.below ((Below.refl _ _).alloc (Nat.le_refl _) _) (by simp)) (Ints.litAt _ _ _ _ (by simp)) (fun b o e => by injection e with e; injection e with e; omega)).mono ?_
  rintro e w1 ⟨x, hx, rfl, hc1, ho1⟩
  have Hc1 := Lib.hid hc1
  have Ho1 := Lib.hid ho1
  clear hc1 ho1
  go_wp2_with fail
  refine (cPick _ _ 10 _ (by omega) (by omega) (by omega) Hc1.out).mono ?_
  rintro e w2 ⟨y, hy, rfl, hc2, ho2⟩
  have Ho2 := Lib.hid ho2
  clear hc2 ho2
  go_wp2_with fail
  go_ret2
  exact ⟨x, y, rfl, freshOnly (((Only.refl _ _).alloc _).trans (Ho1.out.trans Ho2.out))⟩
theorem goodL_at {ps : List PlaceD} {e : Int} {k : Nat} (hk : k < ps.length) (h : goodL e (ps.drop k)) : (e ≤ ps[k].fAt ∧ ps[k].fAt ≤ 1000000000 ∧ 0 ≤ ps[k].fSize ∧ ps[k].fSize ≤ 1000000000 ∧ (0 < ps[k].fSize → ps[k].fSize ≤ 8 → ps[k].fAt % ps[k].fSize = 0) ∧ (8 < ps[k].fSize → ps[k].fAt % 8 = 0)) ∧ goodL (ps[k].fAt + ps[k].fSize) (ps.drop (k + 1)) := by
  rw [List.drop_eq_getElem_cons hk] at h
  exact h

-- shell: FnLayout
set_option maxHeartbeats 32000000 in
theorem law_FnLayout (a : Option Addr) (len cap : Nat) (zs : List Int) (a' : Option Addr) (len' cap' : Nat) (zs' : List Int) (w : World) (h : RowIn .u8 w a len cap zs) (h' : RowIn .u8 w a' len' cap' zs') :
    Calls Try.prog 3 #[.slice a len cap, .slice a' len' cap'] w fun e w' => e = .returned (.bool true) ∧ Below w.heap.size w w' := by
  by_cases hbig : 1048576 < len + len'
  · have l1 := h.len
    clear h h'
    go_enter Try.func3, Try.ntmps3
    go_wp2_with (go_at_call 8; refine (lBig_yes _ _ _ _ _ _ _ hbig l1).mono ?_; rintro e w' ⟨rfl, rfl⟩)
    go_ret
    exact ⟨rfl, Below.refl _ _⟩
  have H := Lib.hid (h.code (by omega))
  have Hcode0 := Lib.hid (h'.code (by omega))
  clear h h'
  go_enter Try.func3, Try.ntmps3
  go_wp2_with (go_at_call 8; refine (lBig_no _ _ _ _ _ _ _ (by omega)).mono ?_; rintro e w' ⟨rfl, rfl⟩)
  refine (dLayoutOf a len cap _ H.out).mono ?_
  rintro e w1 ⟨a1, n1, c1, n, rfl, n0, n9, ⟨l, hA, hcA, hcmA, hA9, hrA, hsA, hbw⟩⟩
  subst hA
  have Hm := Lib.hid (show ∀ t ∈ l, t.mod from fun t ht => (hsA t ht).modF)
  have R1 := Lib.hid hrA.any
  have B1 := Lib.hid hbw
  clear hrA hsA hbw H
  have hfl : (layA l n).length ≤ 144 := layA_len
  have Gd := Lib.hid (lay_good (l := l) (x := n))
  have Told := Lib.hid (@lay_base l n)
  have AX := Lib.hid (fun W hW => iLayoutOf a1 c1 l n W (by omega) hcA hcmA Hm.out hW)
  have AS := Lib.hid (fun W hW => sLayoutOf a1 c1 l n W (by omega) hcA hcmA Hm.out hW)
  have AB := Lib.hid (fun x W hW => iLayoutOf a1 c1 l x W (by omega) hcA hcmA Hm.out hW)
  obtain ⟨f, hf⟩ : ∃ f, layA l n = f := ⟨_, rfl⟩
  obtain ⟨q, hq⟩ : ∃ q, layB l n = q := ⟨_, rfl⟩
  rw [hf, hq] at AX AS Told
  rw [hf] at hfl Gd
  clear hf hq
  go_wp2_with fail
  refine (AX.out _ R1.out).mono ?_
  rintro e w2 ⟨v1, rfl, hown, hb⟩
  obtain ⟨f1, d1, rfl, _, _, _, hr1⟩ := hown.rows
  have F1 := Lib.hid hr1.any
  have R2 := Lib.hid (R1.out.below hb)
  have B2 := Lib.hid (B1.out.trans (hb.mono B1.out.size))
  clear hown hr1 hb
  go_wp2_with fail
  refine (AS.out _ R2.out).mono ?_
  rintro e w3 ⟨v2, rfl, hown, hb⟩
  obtain ⟨f2, d2, rfl, _, _, _, hr2⟩ := hown.rows
  have G1 := Lib.hid hr2.any
  have F2 := Lib.hid (F1.out.below hb)
  have R3 := Lib.hid (R2.out.below hb)
  have B3 := Lib.hid (B2.out.trans (hb.mono B2.out.size))
  clear hown hr2 hb AX AS F1 R1 R2 B1 B2
  cases q
  · clear Told
    go_wp2_with fail
    go_loopw [62, 11] (fun i z wr => ∃ (k : Nat) (e : Int), i = .int .i64 k ∧ z = .int .i64 e ∧ k ≤ f.length ∧ goodL e (f.drop k) ∧ 0 ≤ e ∧ e ≤ 2000000000 ∧ Below w3.heap.size w3 wr) (fun i _ _ => f.length - (intOf i).toNat)
    case atStart => exact ⟨0, 0, rfl, rfl, by omega, by rw [List.drop_zero]; exact Gd.out, by omega, by omega, Below.refl _ _⟩
    case round =>
      obtain ⟨k, e, rfl, rfl, hk, hgd, he0, he1, hbel⟩ := hrel
      have Hbel := Lib.hid hbel
      have Hgd := Lib.hid hgd
      clear hgd
      by_cases hlt : k < f.length
      · obtain ⟨⟨g1, g2, g3, g4, g5, g6⟩, g7⟩ := goodL_at hlt Hgd.out
        have G7 := Lib.hid g7
        obtain ⟨bg, og, cs, rfl, _, hbg1, hcg, hat⟩ := G1.out k hlt
        obtain rfl : cs = [.string f[k].fName, .int .i64 f[k].fAt, .int .i64 f[k].fSize] := hat
        obtain ⟨bf, of, cs, rfl, _, hbf1, hcf, hat⟩ := F2.out k hlt
        obtain rfl : cs = [.string f[k].fName, .int .i64 f[k].fAt, .int .i64 f[k].fSize] := hat
        have hn3 : placeS.n = 3 := rfl
        have k0 := (hbel.cell (p := ⟨bg, og + k * 3 + 0, none⟩) hbg1).trans (hcg 0 (by decide))
        have k1 := (hbel.cell (p := ⟨bg, og + k * 3 + 1, none⟩) hbg1).trans (hcg 1 (by decide))
        have k2 := (hbel.cell (p := ⟨bg, og + k * 3 + 2, none⟩) hbg1).trans (hcg 2 (by decide))
        have j0 := (hbel.cell (p := ⟨bf, of + k * 3 + 0, none⟩) hbf1).trans (hcf 0 (by decide))
        have j1 := (hbel.cell (p := ⟨bf, of + k * 3 + 1, none⟩) hbf1).trans (hcf 1 (by decide))
        have j2 := (hbel.cell (p := ⟨bf, of + k * 3 + 2, none⟩) hbf1).trans (hcf 2 (by decide))
        simp at k0 k1 k2 j0 j1 j2
        have hqq := eqPlc f[k]
        clear hcf hcg hbel g7
        generalize f[k] = t at *
        have d1 : decide (t.fAt < e) = false := decide_eq_false (by omega)
        have d2 : decide (t.fSize < 0) = false := decide_eq_false (by omega)
        by_cases hs8 : 8 < t.fSize
        · have hmod := g6 hs8
          have hmodb : (t.fAt % 8 != 0) = false := by rw [bne_eq_false_iff_eq]; exact hmod
          clear g5 g6
          go_wp2_with fail
          go_region
          all_goals
            go_wp2_with fail
            first | go_region | skip
            go_wp2_with fail
            exact ⟨⟨k + 1, t.fAt + t.fSize, by congr 1, rfl, by omega, G7.out, by omega, by omega, by first | exact Hbel.out.drew.drew | exact Hbel.out.drew⟩, by simp [intOf]; omega⟩
        · by_cases hs0 : 0 < t.fSize
          · have hmod := g5 hs0 (by omega)
            have hmodb : (t.fAt % t.fSize != 0) = false := by rw [bne_eq_false_iff_eq]; exact hmod
            clear g5 g6
            go_wp2_with fail
            go_region
            all_goals
              go_wp2_with fail
              first | go_region | skip
              go_wp2_with fail
              exact ⟨⟨k + 1, t.fAt + t.fSize, by congr 1, rfl, by omega, G7.out, by omega, by omega, by first | exact Hbel.out.drew.drew | exact Hbel.out.drew⟩, by simp [intOf]; omega⟩
          · clear g5 g6
            go_wp2_with fail
            go_region
            all_goals
              go_wp2_with fail
              first | go_region | skip
              go_wp2_with fail
              exact ⟨⟨k + 1, t.fAt + t.fSize, by congr 1, rfl, by omega, G7.out, by omega, by omega, by first | exact Hbel.out.drew.drew | exact Hbel.out.drew⟩, by simp [intOf]; omega⟩
      · have hkf : k = f.length := by omega
        clear hbel
        have B4 := Lib.hid (B3.out.trans (Hbel.out.mono B3.out.size))
        have R4 := Lib.hid (R3.out.below Hbel.out)
        have BX := Lib.hid B4.out
        obtain ⟨wo, hwo⟩ : ∃ x, x = wr := ⟨_, rfl⟩
        subst hwo
        go_wp2_with fail
        refine (dPlaceOf a' len' cap' _ (Hcode0.out.below BX.out)).mono ?_
        rintro e v1 ⟨a2, n2, c2, m2, nm, rfl, _, _, hnm, l2, hl2, hcc2, hcm2, h92, hr2, hs2, hbv1⟩
        subst hl2
        have Hm2 := Lib.hid (show ∀ t ∈ l2, t.mod from fun t ht => (hs2 t ht).modF)
        have RV1 := Lib.hid hr2.any
        have BV1 := Lib.hid (BX.out.trans (hbv1.mono BX.out.size))
        have hnm2 : nm.size ≤ maxLen := by unfold maxLen; omega
        have LI := Lib.hid (fun W hW => iPlaceOf a2 c2 l2 m2 nm W (by omega) hcc2 hcm2 Hm2.out hnm2 hW)
        have LS := Lib.hid (fun W hW => sPlaceOf a2 c2 l2 m2 nm W (by omega) hcc2 hcm2 Hm2.out hnm2 hW)
        unfold PostPO at LI LS
        generalize plcA l2 m2 nm = op at *
        obtain ⟨p, hp⟩ : ∃ p, op.getD zeroP = p := ⟨_, rfl⟩
        obtain ⟨qp, hqp⟩ : ∃ q, op.isSome = q := ⟨_, rfl⟩
        rw [hp, hqp] at LI LS
        clear hp hqp hr2 hs2 hbv1 hnm2
        unfold plcV at LI LS
        go_wp2_with fail
        refine (LI.out _ RV1.out).mono ?_
        rintro e v2 ⟨rfl, hbv⟩
        have BA := (Below.refl v2.heap.size v2).alloc (Nat.le_refl _) (.cells #[.string p.fName, .int .i64 p.fAt, .int .i64 p.fSize] 31)
        have XP := Lib.hid (Box.new v2 31 #[.string p.fName, .int .i64 p.fAt, .int .i64 p.fSize])
        have RV2 := Lib.hid ((RV1.out.below hbv).below BA)
        have BV2 := Lib.hid ((BV1.out.trans (hbv.mono BV1.out.size)).trans (BA.mono (BV1.out.trans (hbv.mono BV1.out.size)).size))
        clear hbv BA
        go_wp2_with fail
        generalize v2.alloc (.cells #[.string p.fName, .int .i64 p.fAt, .int .i64 p.fSize] 31) = u2 at *
        refine (LS.out _ RV2.out).mono ?_
        rintro e v3 ⟨rfl, hbv⟩
        have BA := (Below.refl v3.heap.size v3).alloc (Nat.le_refl _) (.cells #[.string p.fName, .int .i64 p.fAt, .int .i64 p.fSize] 31)
        have XP3 := Lib.hid ((XP.out.below hbv XP.out.lt).below BA (XP.out.below hbv XP.out.lt).lt)
        have XQ := Lib.hid (Box.new v3 31 #[.string p.fName, .int .i64 p.fAt, .int .i64 p.fSize])
        have BV3 := Lib.hid ((BV2.out.trans (hbv.mono BV2.out.size)).trans (BA.mono (BV2.out.trans (hbv.mono BV2.out.size)).size))
        clear hbv BA
        go_wp2_with fail
        obtain ⟨gq, hgq⟩ : ∃ n, n = v3.heap.size := ⟨_, rfl⟩
        rw [← hgq] at XQ
        rw [← hgq]
        clear hgq
        generalize v3.alloc (.cells #[.string p.fName, .int .i64 p.fAt, .int .i64 p.fSize] 31) = u3 at *
        refine (dLineUp a' len' cap' _ (Hcode0.out.below BV3.out)).mono ?_
        rintro e v4 ⟨ln, lb, rfl, hbv⟩
        have XP4 := Lib.hid (XP3.out.below hbv XP3.out.lt)
        have XQ4 := Lib.hid (XQ.out.below hbv XQ.out.lt)
        have BV4 := Lib.hid (BV3.out.trans (hbv.mono BV3.out.size))
        have p0 : _ = some (Value.string p.fName) := XP4.out.cell 0
        have p1 : _ = some (Value.int .i64 p.fAt) := XP4.out.cell 1
        have p2 : _ = some (Value.int .i64 p.fSize) := XP4.out.cell 2
        have q0 : _ = some (Value.string p.fName) := XQ4.out.cell 0
        have q1 : _ = some (Value.int .i64 p.fAt) := XQ4.out.cell 1
        have q2 : _ = some (Value.int .i64 p.fSize) := XQ4.out.cell 2
        have hqp2 := eqPlc p
        clear hbv
        have Li := Lib.hid (fun W => iLineUp ln lb W)
        have Ls := Lib.hid (fun W => sLineUp ln lb W)
        by_cases hlp : lineP ln lb
        · obtain ⟨la, lb2⟩ := line_in hlp
          rw [la, lb2] at Li Ls
          have hbd := line_bd hlp.1.1 hlp.2.1
          have hbp := hlp.2
          have hnp := hlp.1
          generalize lineZ ln lb = uz at *
          have z1 : decide (ln ≤ uz) = true := decide_eq_true hbd.1
          have z2 : decide (uz < ln + lb) = true := decide_eq_true hbd.2.1
          have z3 : (uz % lb == 0) = true := beq_iff_eq.2 hbd.2.2
          have z4 : (uz == uz) = true := beq_self_eq_true _
          clear la lb2 hlp
          cases qp
          all_goals
            go_wp2_with (first | (go_at_call 16; refine (Li.out _).mono ?_; rintro e w' ⟨rfl, rfl⟩) | (go_at_call 17; refine (Ls.out _).mono ?_; rintro e w' ⟨rfl, rfl⟩))
            first | go_region | skip
            all_goals
              go_wp2_with fail
              go_ret
              exact ⟨rfl, by first | exact BV4.out | exact BV4.out.drew⟩
        · obtain ⟨la, lb2⟩ := line_out hlp
          rw [la, lb2] at Li Ls
          clear la lb2 hlp
          cases qp
          all_goals
            go_wp2_with (first | (go_at_call 16; refine (Li.out _).mono ?_; rintro e w' ⟨rfl, rfl⟩) | (go_at_call 17; refine (Ls.out _).mono ?_; rintro e w' ⟨rfl, rfl⟩))
            first | go_region | skip
            all_goals
              go_wp2_with fail
              go_ret
              exact ⟨rfl, by first | exact BV4.out | exact BV4.out.drew⟩
  · obtain ⟨n', rfl, hn', Told2⟩ := Told.out (by first | rfl | trivial)
    have Told2 := Lib.hid Told2
    clear Told
    go_wp2_with fail
    go_loopw [62, 11] (fun i z wr => ∃ (k : Nat) (e : Int), i = .int .i64 k ∧ z = .int .i64 e ∧ k ≤ f.length ∧ goodL e (f.drop k) ∧ 0 ≤ e ∧ e ≤ 2000000000 ∧ Below w3.heap.size w3 wr) (fun i _ _ => f.length - (intOf i).toNat)
    case atStart => exact ⟨0, 0, rfl, rfl, by omega, by rw [List.drop_zero]; exact Gd.out, by omega, by omega, Below.refl _ _⟩
    case round =>
      obtain ⟨k, e, rfl, rfl, hk, hgd, he0, he1, hbel⟩ := hrel
      have Hbel := Lib.hid hbel
      have Hgd := Lib.hid hgd
      clear hgd
      by_cases hlt : k < f.length
      · obtain ⟨⟨g1, g2, g3, g4, g5, g6⟩, g7⟩ := goodL_at hlt Hgd.out
        have G7 := Lib.hid g7
        obtain ⟨bg, og, cs, rfl, _, hbg1, hcg, hat⟩ := G1.out k hlt
        obtain rfl : cs = [.string f[k].fName, .int .i64 f[k].fAt, .int .i64 f[k].fSize] := hat
        obtain ⟨bf, of, cs, rfl, _, hbf1, hcf, hat⟩ := F2.out k hlt
        obtain rfl : cs = [.string f[k].fName, .int .i64 f[k].fAt, .int .i64 f[k].fSize] := hat
        have hn3 : placeS.n = 3 := rfl
        have k0 := (hbel.cell (p := ⟨bg, og + k * 3 + 0, none⟩) hbg1).trans (hcg 0 (by decide))
        have k1 := (hbel.cell (p := ⟨bg, og + k * 3 + 1, none⟩) hbg1).trans (hcg 1 (by decide))
        have k2 := (hbel.cell (p := ⟨bg, og + k * 3 + 2, none⟩) hbg1).trans (hcg 2 (by decide))
        have j0 := (hbel.cell (p := ⟨bf, of + k * 3 + 0, none⟩) hbf1).trans (hcf 0 (by decide))
        have j1 := (hbel.cell (p := ⟨bf, of + k * 3 + 1, none⟩) hbf1).trans (hcf 1 (by decide))
        have j2 := (hbel.cell (p := ⟨bf, of + k * 3 + 2, none⟩) hbf1).trans (hcf 2 (by decide))
        simp at k0 k1 k2 j0 j1 j2
        have hqq := eqPlc f[k]
        clear hcf hcg hbel g7
        generalize f[k] = t at *
        have d1 : decide (t.fAt < e) = false := decide_eq_false (by omega)
        have d2 : decide (t.fSize < 0) = false := decide_eq_false (by omega)
        by_cases hs8 : 8 < t.fSize
        · have hmod := g6 hs8
          have hmodb : (t.fAt % 8 != 0) = false := by rw [bne_eq_false_iff_eq]; exact hmod
          clear g5 g6
          go_wp2_with fail
          go_region
          all_goals
            go_wp2_with fail
            first | go_region | skip
            go_wp2_with fail
            exact ⟨⟨k + 1, t.fAt + t.fSize, by congr 1, rfl, by omega, G7.out, by omega, by omega, by first | exact Hbel.out.drew.drew | exact Hbel.out.drew⟩, by simp [intOf]; omega⟩
        · by_cases hs0 : 0 < t.fSize
          · have hmod := g5 hs0 (by omega)
            have hmodb : (t.fAt % t.fSize != 0) = false := by rw [bne_eq_false_iff_eq]; exact hmod
            clear g5 g6
            go_wp2_with fail
            go_region
            all_goals
              go_wp2_with fail
              first | go_region | skip
              go_wp2_with fail
              exact ⟨⟨k + 1, t.fAt + t.fSize, by congr 1, rfl, by omega, G7.out, by omega, by omega, by first | exact Hbel.out.drew.drew | exact Hbel.out.drew⟩, by simp [intOf]; omega⟩
          · clear g5 g6
            go_wp2_with fail
            go_region
            all_goals
              go_wp2_with fail
              first | go_region | skip
              go_wp2_with fail
              exact ⟨⟨k + 1, t.fAt + t.fSize, by congr 1, rfl, by omega, G7.out, by omega, by omega, by first | exact Hbel.out.drew.drew | exact Hbel.out.drew⟩, by simp [intOf]; omega⟩
      · have hkf : k = f.length := by omega
        clear hbel
        have B4 := Lib.hid (B3.out.trans (Hbel.out.mono B3.out.size))
        have R4 := Lib.hid (R3.out.below Hbel.out)
        have BX := Lib.hid B4.out
        obtain ⟨wo, hwo⟩ : ∃ x, x = wr := ⟨_, rfl⟩
        subst hwo
        obtain ⟨b, o, a3, c3, rfl, hb1, e0, e1, e2, e3, e4, e5, hrf, _⟩ := type_cells R4.out hn' (Below.refl _ _)
        have i1 : (0 : Int) ≤ (n' : Int) := by omega
        have i2 : (n' : Int) < (l.length : Int) := by omega
        clear hrf
        rcases Told2.out with hb | ⟨hb, hrb, rest, he⟩
        · have hge : ¬ (0 ≤ l[n'].fBase) := by omega
          clear hb Told2
          generalize l[n'] = t at *
          go_wp2_with fail
          refine (dPlaceOf a' len' cap' _ (Hcode0.out.below BX.out)).mono ?_
          rintro e v1 ⟨a2, n2, c2, m2, nm, rfl, _, _, hnm, l2, hl2, hcc2, hcm2, h92, hr2, hs2, hbv1⟩
          subst hl2
          have Hm2 := Lib.hid (show ∀ t ∈ l2, t.mod from fun t ht => (hs2 t ht).modF)
          have RV1 := Lib.hid hr2.any
          have BV1 := Lib.hid (BX.out.trans (hbv1.mono BX.out.size))
          have hnm2 : nm.size ≤ maxLen := by unfold maxLen; omega
          have LI := Lib.hid (fun W hW => iPlaceOf a2 c2 l2 m2 nm W (by omega) hcc2 hcm2 Hm2.out hnm2 hW)
          have LS := Lib.hid (fun W hW => sPlaceOf a2 c2 l2 m2 nm W (by omega) hcc2 hcm2 Hm2.out hnm2 hW)
          unfold PostPO at LI LS
          generalize plcA l2 m2 nm = op at *
          obtain ⟨p, hp⟩ : ∃ p, op.getD zeroP = p := ⟨_, rfl⟩
          obtain ⟨qp, hqp⟩ : ∃ q, op.isSome = q := ⟨_, rfl⟩
          rw [hp, hqp] at LI LS
          clear hp hqp hr2 hs2 hbv1 hnm2
          unfold plcV at LI LS
          go_wp2_with fail
          refine (LI.out _ RV1.out).mono ?_
          rintro e v2 ⟨rfl, hbv⟩
          have BA := (Below.refl v2.heap.size v2).alloc (Nat.le_refl _) (.cells #[.string p.fName, .int .i64 p.fAt, .int .i64 p.fSize] 31)
          have XP := Lib.hid (Box.new v2 31 #[.string p.fName, .int .i64 p.fAt, .int .i64 p.fSize])
          have RV2 := Lib.hid ((RV1.out.below hbv).below BA)
          have BV2 := Lib.hid ((BV1.out.trans (hbv.mono BV1.out.size)).trans (BA.mono (BV1.out.trans (hbv.mono BV1.out.size)).size))
          clear hbv BA
          go_wp2_with fail
          generalize v2.alloc (.cells #[.string p.fName, .int .i64 p.fAt, .int .i64 p.fSize] 31) = u2 at *
          refine (LS.out _ RV2.out).mono ?_
          rintro e v3 ⟨rfl, hbv⟩
          have BA := (Below.refl v3.heap.size v3).alloc (Nat.le_refl _) (.cells #[.string p.fName, .int .i64 p.fAt, .int .i64 p.fSize] 31)
          have XP3 := Lib.hid ((XP.out.below hbv XP.out.lt).below BA (XP.out.below hbv XP.out.lt).lt)
          have XQ := Lib.hid (Box.new v3 31 #[.string p.fName, .int .i64 p.fAt, .int .i64 p.fSize])
          have BV3 := Lib.hid ((BV2.out.trans (hbv.mono BV2.out.size)).trans (BA.mono (BV2.out.trans (hbv.mono BV2.out.size)).size))
          clear hbv BA
          go_wp2_with fail
          obtain ⟨gq, hgq⟩ : ∃ n, n = v3.heap.size := ⟨_, rfl⟩
          rw [← hgq] at XQ
          rw [← hgq]
          clear hgq
          generalize v3.alloc (.cells #[.string p.fName, .int .i64 p.fAt, .int .i64 p.fSize] 31) = u3 at *
          refine (dLineUp a' len' cap' _ (Hcode0.out.below BV3.out)).mono ?_
          rintro e v4 ⟨ln, lb, rfl, hbv⟩
          have XP4 := Lib.hid (XP3.out.below hbv XP3.out.lt)
          have XQ4 := Lib.hid (XQ.out.below hbv XQ.out.lt)
          have BV4 := Lib.hid (BV3.out.trans (hbv.mono BV3.out.size))
          have p0 : _ = some (Value.string p.fName) := XP4.out.cell 0
          have p1 : _ = some (Value.int .i64 p.fAt) := XP4.out.cell 1
          have p2 : _ = some (Value.int .i64 p.fSize) := XP4.out.cell 2
          have q0 : _ = some (Value.string p.fName) := XQ4.out.cell 0
          have q1 : _ = some (Value.int .i64 p.fAt) := XQ4.out.cell 1
          have q2 : _ = some (Value.int .i64 p.fSize) := XQ4.out.cell 2
          have hqp2 := eqPlc p
          clear hbv
          have Li := Lib.hid (fun W => iLineUp ln lb W)
          have Ls := Lib.hid (fun W => sLineUp ln lb W)
          by_cases hlp : lineP ln lb
          · obtain ⟨la, lb2⟩ := line_in hlp
            rw [la, lb2] at Li Ls
            have hbd := line_bd hlp.1.1 hlp.2.1
            have hbp := hlp.2
            have hnp := hlp.1
            generalize lineZ ln lb = uz at *
            have z1 : decide (ln ≤ uz) = true := decide_eq_true hbd.1
            have z2 : decide (uz < ln + lb) = true := decide_eq_true hbd.2.1
            have z3 : (uz % lb == 0) = true := beq_iff_eq.2 hbd.2.2
            have z4 : (uz == uz) = true := beq_self_eq_true _
            clear la lb2 hlp
            cases qp
            all_goals
              go_wp2_with (first | (go_at_call 16; refine (Li.out _).mono ?_; rintro e w' ⟨rfl, rfl⟩) | (go_at_call 17; refine (Ls.out _).mono ?_; rintro e w' ⟨rfl, rfl⟩))
              first | go_region | skip
              all_goals
                go_wp2_with fail
                go_ret
                exact ⟨rfl, by first | exact BV4.out | exact BV4.out.drew⟩
          · obtain ⟨la, lb2⟩ := line_out hlp
            rw [la, lb2] at Li Ls
            clear la lb2 hlp
            cases qp
            all_goals
              go_wp2_with (first | (go_at_call 16; refine (Li.out _).mono ?_; rintro e w' ⟨rfl, rfl⟩) | (go_at_call 17; refine (Ls.out _).mono ?_; rintro e w' ⟨rfl, rfl⟩))
              first | go_region | skip
              all_goals
                go_wp2_with fail
                go_ret
                exact ⟨rfl, by first | exact BV4.out | exact BV4.out.drew⟩
        · have hpre : (layA l l[n'].fBase).length ≤ f.length ∧ ∀ k (hk : k < (layA l l[n'].fBase).length) (hk' : k < f.length), f[k] = (layA l l[n'].fBase)[k] := by
            subst he
            exact ⟨by simp, fun k hk hk' => List.getElem_append_left hk⟩
          obtain ⟨hlen, hpre⟩ := hpre
          have Hpre := Lib.hid hpre
          have AB2 := Lib.hid (fun W hW => AB.out l[n'].fBase W hW)
          rw [hrb] at AB2
          have F4 := Lib.hid (F2.out.below Hbel.out)
          clear he hrb hpre Told2 AB
          generalize l[n'] = t at *
          generalize layA l t.fBase = g at *
          have dlen : decide ((f.length : Int) < (g.length : Int)) = false := decide_eq_false (by omega)
          go_wp2_with fail
          refine (AB2.out _ R4.out).mono ?_
          rintro e w5 ⟨v5, rfl, hown, hb5⟩
          obtain ⟨f5, d5, rfl, _, _, _, hr5⟩ := hown.rows
          have G5 := Lib.hid hr5.any
          have F5 := Lib.hid (F4.out.below hb5)
          have B5 := Lib.hid (B4.out.trans (hb5.mono B4.out.size))
          clear hown hb5 hr5 e0 e1 e2 e3 e4 e5
          go_wp2_with fail
          go_loopw [162] (fun i wr => ∃ k : Nat, i = .int .i64 k ∧ k ≤ g.length ∧ Below w5.heap.size w5 wr) (fun i _ => g.length - (intOf i).toNat)
          case atStart => exact ⟨0, rfl, by omega, Below.refl _ _⟩
          case round =>
            obtain ⟨j, rfl, hj, hbel5⟩ := hrel
            have Hbel5 := Lib.hid hbel5
            by_cases hlt5 : j < g.length
            · have heq := Hpre.out j hlt5 (by omega)
              obtain ⟨bg, og, cs, rfl, _, hbg1, hcg, hat⟩ := G5.out j hlt5
              obtain rfl : cs = [.string g[j].fName, .int .i64 g[j].fAt, .int .i64 g[j].fSize] := hat
              obtain ⟨bf, of, cs, rfl, _, hbf1, hcf, hat⟩ := F5.out j (by omega)
              obtain rfl : cs = [.string f[j].fName, .int .i64 f[j].fAt, .int .i64 f[j].fSize] := hat
              rw [heq] at hcf
              have hn3 : placeS.n = 3 := rfl
              have k0 := (hbel5.cell (p := ⟨bg, og + j * 3 + 0, none⟩) hbg1).trans (hcg 0 (by decide))
              have k1 := (hbel5.cell (p := ⟨bg, og + j * 3 + 1, none⟩) hbg1).trans (hcg 1 (by decide))
              have k2 := (hbel5.cell (p := ⟨bg, og + j * 3 + 2, none⟩) hbg1).trans (hcg 2 (by decide))
              have j0 := (hbel5.cell (p := ⟨bf, of + j * 3 + 0, none⟩) hbf1).trans (hcf 0 (by decide))
              have j1 := (hbel5.cell (p := ⟨bf, of + j * 3 + 1, none⟩) hbf1).trans (hcf 1 (by decide))
              have j2 := (hbel5.cell (p := ⟨bf, of + j * 3 + 2, none⟩) hbf1).trans (hcf 2 (by decide))
              simp at k0 k1 k2 j0 j1 j2
              have hqq := eqPlc g[j]
              clear hcf hcg hbel5 heq
              generalize g[j] = u at *
              go_wp2_with fail
              go_region
              all_goals
                go_wp2_with fail
                exact ⟨⟨j + 1, by congr 1, by omega, Hbel5.out.drew⟩, by simp [intOf]; omega⟩
            · clear hbel5
              have BX := Lib.hid (B5.out.trans (Hbel5.out.mono B5.out.size))
              obtain ⟨wo5, hwo5⟩ : ∃ x, x = wr := ⟨_, rfl⟩
              subst hwo5
              go_wp2_with fail
              refine (dPlaceOf a' len' cap' _ (Hcode0.out.below BX.out)).mono ?_
              rintro e v1 ⟨a2, n2, c2, m2, nm, rfl, _, _, hnm, l2, hl2, hcc2, hcm2, h92, hr2, hs2, hbv1⟩
              subst hl2
              have Hm2 := Lib.hid (show ∀ t ∈ l2, t.mod from fun t ht => (hs2 t ht).modF)
              have RV1 := Lib.hid hr2.any
              have BV1 := Lib.hid (BX.out.trans (hbv1.mono BX.out.size))
              have hnm2 : nm.size ≤ maxLen := by unfold maxLen; omega
              have LI := Lib.hid (fun W hW => iPlaceOf a2 c2 l2 m2 nm W (by omega) hcc2 hcm2 Hm2.out hnm2 hW)
              have LS := Lib.hid (fun W hW => sPlaceOf a2 c2 l2 m2 nm W (by omega) hcc2 hcm2 Hm2.out hnm2 hW)
              unfold PostPO at LI LS
              generalize plcA l2 m2 nm = op at *
              obtain ⟨p, hp⟩ : ∃ p, op.getD zeroP = p := ⟨_, rfl⟩
              obtain ⟨qp, hqp⟩ : ∃ q, op.isSome = q := ⟨_, rfl⟩
              rw [hp, hqp] at LI LS
              clear hp hqp hr2 hs2 hbv1 hnm2
              unfold plcV at LI LS
              go_wp2_with fail
              refine (LI.out _ RV1.out).mono ?_
              rintro e v2 ⟨rfl, hbv⟩
              have BA := (Below.refl v2.heap.size v2).alloc (Nat.le_refl _) (.cells #[.string p.fName, .int .i64 p.fAt, .int .i64 p.fSize] 31)
              have XP := Lib.hid (Box.new v2 31 #[.string p.fName, .int .i64 p.fAt, .int .i64 p.fSize])
              have RV2 := Lib.hid ((RV1.out.below hbv).below BA)
              have BV2 := Lib.hid ((BV1.out.trans (hbv.mono BV1.out.size)).trans (BA.mono (BV1.out.trans (hbv.mono BV1.out.size)).size))
              clear hbv BA
              go_wp2_with fail
              generalize v2.alloc (.cells #[.string p.fName, .int .i64 p.fAt, .int .i64 p.fSize] 31) = u2 at *
              refine (LS.out _ RV2.out).mono ?_
              rintro e v3 ⟨rfl, hbv⟩
              have BA := (Below.refl v3.heap.size v3).alloc (Nat.le_refl _) (.cells #[.string p.fName, .int .i64 p.fAt, .int .i64 p.fSize] 31)
              have XP3 := Lib.hid ((XP.out.below hbv XP.out.lt).below BA (XP.out.below hbv XP.out.lt).lt)
              have XQ := Lib.hid (Box.new v3 31 #[.string p.fName, .int .i64 p.fAt, .int .i64 p.fSize])
              have BV3 := Lib.hid ((BV2.out.trans (hbv.mono BV2.out.size)).trans (BA.mono (BV2.out.trans (hbv.mono BV2.out.size)).size))
              clear hbv BA
              go_wp2_with fail
              obtain ⟨gq, hgq⟩ : ∃ n, n = v3.heap.size := ⟨_, rfl⟩
              rw [← hgq] at XQ
              rw [← hgq]
              clear hgq
              generalize v3.alloc (.cells #[.string p.fName, .int .i64 p.fAt, .int .i64 p.fSize] 31) = u3 at *
              refine (dLineUp a' len' cap' _ (Hcode0.out.below BV3.out)).mono ?_
              rintro e v4 ⟨ln, lb, rfl, hbv⟩
              have XP4 := Lib.hid (XP3.out.below hbv XP3.out.lt)
              have XQ4 := Lib.hid (XQ.out.below hbv XQ.out.lt)
              have BV4 := Lib.hid (BV3.out.trans (hbv.mono BV3.out.size))
              have p0 : _ = some (Value.string p.fName) := XP4.out.cell 0
              have p1 : _ = some (Value.int .i64 p.fAt) := XP4.out.cell 1
              have p2 : _ = some (Value.int .i64 p.fSize) := XP4.out.cell 2
              have q0 : _ = some (Value.string p.fName) := XQ4.out.cell 0
              have q1 : _ = some (Value.int .i64 p.fAt) := XQ4.out.cell 1
              have q2 : _ = some (Value.int .i64 p.fSize) := XQ4.out.cell 2
              have hqp2 := eqPlc p
              clear hbv
              have Li := Lib.hid (fun W => iLineUp ln lb W)
              have Ls := Lib.hid (fun W => sLineUp ln lb W)
              by_cases hlp : lineP ln lb
              · obtain ⟨la, lb2⟩ := line_in hlp
                rw [la, lb2] at Li Ls
                have hbd := line_bd hlp.1.1 hlp.2.1
                have hbp := hlp.2
                have hnp := hlp.1
                generalize lineZ ln lb = uz at *
                have z1 : decide (ln ≤ uz) = true := decide_eq_true hbd.1
                have z2 : decide (uz < ln + lb) = true := decide_eq_true hbd.2.1
                have z3 : (uz % lb == 0) = true := beq_iff_eq.2 hbd.2.2
                have z4 : (uz == uz) = true := beq_self_eq_true _
                clear la lb2 hlp
                cases qp
                all_goals
                  go_wp2_with (first | (go_at_call 16; refine (Li.out _).mono ?_; rintro e w' ⟨rfl, rfl⟩) | (go_at_call 17; refine (Ls.out _).mono ?_; rintro e w' ⟨rfl, rfl⟩))
                  first | go_region | skip
                  all_goals
                    go_wp2_with fail
                    go_ret
                    exact ⟨rfl, by first | exact BV4.out | exact BV4.out.drew⟩
              · obtain ⟨la, lb2⟩ := line_out hlp
                rw [la, lb2] at Li Ls
                clear la lb2 hlp
                cases qp
                all_goals
                  go_wp2_with (first | (go_at_call 16; refine (Li.out _).mono ?_; rintro e w' ⟨rfl, rfl⟩) | (go_at_call 17; refine (Ls.out _).mono ?_; rintro e w' ⟨rfl, rfl⟩))
                  first | go_region | skip
                  all_goals
                    go_wp2_with fail
                    go_ret
                    exact ⟨rfl, by first | exact BV4.out | exact BV4.out.drew⟩
end Go.Proofs.Ytlfigpdjhljdnaa
