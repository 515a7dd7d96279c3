
/-
  What is proved: the walk of the law FnSizes. No condition beside what each theorem states.
-/
import Derived.Test.YtjbnabjfeepbeaaDrawT7
import Derived.Test.YtjbnabjfeepbeaaLaws3
import Derived.Test.YtjbnabjfeepbeaaSizeOf
import Derived.Test.YtjbnabjfeepbeaaBaseTypes
import Derived.Test.YtjbnabjfeepbeaaMixes
namespace Go.Proofs.Ytjbnabjfeepbeaa
open Go.ChangeShapes Go.WideShapes Go.ChangeAt Go.RowKit
set_option maxRecDepth 100000

theorem take_nxt {T : Type} {l : List T} {k : Nat} (hk : k < l.length) : l.take (k + 1) = l.take k ++ [l[k]] := by
  rw [List.take_add_one, List.getElem?_eq_getElem hk]
  rfl
theorem fold_from (S : Int → Int) : ∀ (ps : List Int) (a : Int), (ps.map S).foldl (· + ·) a = a + sumZ S ps
  | [], a => by simp [sumZ]
  | x :: ps, a => by
    have h1 := fold_from S ps (a + S x)
    have h2 := fold_from S ps (0 + S x)
    unfold sumZ
    simp only [List.map_cons, List.foldl_cons]
    rw [h1, h2]
    omega
theorem sumZ_cons (S : Int → Int) (x : Int) (ps : List Int) : sumZ S (x :: ps) = S x + sumZ S ps := by
  have h := fold_from S ps (0 + S x)
  unfold sumZ
  simp only [List.map_cons, List.foldl_cons]
  rw [h]
  unfold sumZ
  omega
theorem mem_sumZ {S : Int → Int} (hS : ∀ x, 0 ≤ S x) : ∀ (ps : List Int) (x : Int), x ∈ ps → S x ≤ sumZ S ps
  | [], _, h => by cases h
  | y :: ps, x, h => by
    rw [sumZ_cons]
    have hn : 0 ≤ sumZ S ps := by
      clear h
      induction ps with
      | nil => simp [sumZ]
      | cons z ps ih => rw [sumZ_cons]; have := hS z; omega
    rcases List.mem_cons.1 h with rfl | h
    · omega
    · have := mem_sumZ hS ps x h
      have := hS y
      omega
/-- Of a type that is not too great all parts are so, and their sizes are its own. -/
theorem size_parts {l : List TypeD} {n : Nat} (h : sizeP l (n : Int)) (hn : n < l.length) (hk : l[n].fKind = 5 ∨ l[n].fKind = 4) :
    (∀ x ∈ partsD l[n], sizeP l x) ∧ sizeS l (n : Int) = sumZ (sizeS l) (partsD l[n]) * (if l[n].fKind = 4 then l[n].fLong else 1) := by
  obtain ⟨⟨hg, _, _⟩, hs⟩ := h
  have e := sizeS_eq hg hn
  unfold oneS at e
  rw [if_neg (by omega), if_neg (by omega), if_neg (by omega)] at e
  have hin : insideD l[n] = partsD l[n] := by unfold insideD; rw [if_neg (by omega)]
  rw [hin] at e
  have hb := fun x => sizeS_bounds hg.1 x
  have h0 : 0 ≤ sumZ (sizeS l) (partsD l[n]) := (sumZ_bounds hb _).1
  have hle : sumZ (sizeS l) (partsD l[n]) ≤ 1000000000 ∧ sizeS l (n : Int) = sumZ (sizeS l) (partsD l[n]) * (if l[n].fKind = 4 then l[n].fLong else 1) := by
    rcases hk with hk | hk
    · rw [if_neg (by omega), Int.mul_one] at e ⊢
      omega
    · rw [if_pos hk] at e ⊢
      have hl1 : 1 ≤ l[n].fLong := by
        rcases hg.1.ok n hn with ⟨h3, hb⟩ | ⟨_, ho⟩
        · have := hb.1; omega
        · rcases ho.2 with ⟨_, q, _⟩ | ⟨q, _⟩ | ⟨q, _⟩ <;> omega
      have := Int.mul_le_mul_of_nonneg_left hl1 h0
      omega
  refine ⟨fun x hx => ⟨⟨hg, hg.1.parts n hn x hx⟩, ?_⟩, hle.2⟩
  have := mem_sumZ (fun x => (hb x).1) _ x hx
  omega
theorem sumA_eq {l : List TypeD} : ∀ ps : List Int, (∀ x ∈ ps, sizeP l x) → sumZ (sizeA l) ps = sumZ (sizeS l) ps
  | [], _ => rfl
  | x :: ps, h => by rw [sumZ_cons, sumZ_cons, sumA_eq ps (fun y hy => h y (List.mem_cons_of_mem _ hy)), (size_in (h x List.mem_cons_self)).2]
/-- What the law asks of a record. -/
theorem rec_told {l : List TypeD} {n : Nat} (h : sizeP l (n : Int)) (hn : n < l.length) (hk : l[n].fKind = 5) :
    (∀ f ∈ l[n].fFields, sizeB l f.fType = true) ∧ ((l[n].fBase = -1 ∧ sizeA l (n : Int) = sumZ (sizeA l) (l[n].fFields.map FieldD.fType)) ∨ (0 ≤ l[n].fBase ∧ sizeB l l[n].fBase = true ∧ sizeA l (n : Int) = sumZ (sizeA l) (l[n].fFields.map FieldD.fType) + sizeA l l[n].fBase)) := by
  obtain ⟨hp, hs⟩ := size_parts h hn (.inl hk)
  rw [if_neg (by omega), Int.mul_one] at hs
  have e := (size_in h).2
  have hf : ∀ x ∈ l[n].fFields.map FieldD.fType, sizeP l x := fun x hx => hp x (by unfold partsD; exact List.mem_append_right _ hx)
  refine ⟨fun f hf' => (size_in (hf _ (List.mem_map_of_mem hf'))).1, ?_⟩
  by_cases hb : l[n].fBase = -1
  · refine .inl ⟨hb, ?_⟩
    rw [e, hs, sumA_eq _ hf]
    unfold partsD
    rw [if_pos hb, List.nil_append]
  · have hpb : sizeP l l[n].fBase := hp _ (by unfold partsD; rw [if_neg hb]; exact List.mem_append_left _ (List.mem_singleton.2 rfl))
    refine .inr ⟨hpb.1.2.1, (size_in hpb).1, ?_⟩
    rw [e, hs, sumA_eq _ hf, (size_in hpb).2]
    unfold partsD
    rw [if_neg hb, List.singleton_append, sumZ_cons]
    omega
/-- What the law asks of an array. -/
theorem arr_told {l : List TypeD} {n : Nat} (h : sizeP l (n : Int)) (hn : n < l.length) (hk : l[n].fKind = 4) :
    sizeB l l[n].fBase = true ∧ sizeA l (n : Int) = l[n].fLong * sizeA l l[n].fBase := by
  obtain ⟨hp, hs⟩ := size_parts h hn (.inr hk)
  rw [if_pos hk] at hs
  have hok : 0 ≤ l[n].fBase ∧ l[n].fFields.length = 0 := by
    rcases h.1.1.1.ok n hn with ⟨h3, hb⟩ | ⟨_, ho⟩
    · have := hb.1; omega
    · rcases ho.2 with ⟨_, _, q, q2⟩ | ⟨q, _⟩ | ⟨q, _⟩
      · exact ⟨q.1, q2⟩
      · omega
      · omega
  have hpd : partsD l[n] = [l[n].fBase] := by
    unfold partsD
    rw [if_neg (by omega), List.eq_nil_of_length_eq_zero hok.2]
    rfl
  have hpb : sizeP l l[n].fBase := hp _ (by rw [hpd]; exact List.mem_singleton.2 rfl)
  refine ⟨(size_in hpb).1, ?_⟩
  rw [(size_in h).2, hs, (size_in hpb).2, hpd, sumZ_cons, show sumZ (sizeS l) [] = 0 from rfl, Int.add_zero, Int.mul_comm]
theorem sizeA_bounds {l : List TypeD} (x : Int) : 0 ≤ sizeA l x ∧ sizeA l x ≤ 1000000000 := by
  by_cases h : sizeP l x
  · rw [(size_in h).2]
    exact ⟨(sizeS_bounds h.1.1.1 x).1, h.2⟩
  · rw [(size_out h).2]
    omega
theorem sizeB_p {l : List TypeD} {x : Int} (h : sizeB l x = true) : sizeP l x := by
  unfold sizeB at h
  simpa using h
theorem shortT.mod {t : TypeD} (h : shortT t) : t.mod := by
  obtain ⟨h1, h2, h3, h4⟩ := h
  unfold TypeD.mod maxLen
  exact ⟨by omega, by omega, by omega, fun f hf => by have := h4 f hf; omega⟩
theorem base_mod : ∀ t ∈ baseD, t.mod := by
  intro x hx
  simp only [baseD, List.mem_cons, List.not_mem_nil, or_false] at hx
  unfold TypeD.mod maxLen
  rcases hx with rfl | rfl | rfl <;> exact ⟨by decide, by decide, by decide, fun f hf => by cases hf⟩
theorem good_base : good baseD := by
  refine ⟨⟨⟨by decide, fun i hi h3 => ?_⟩, by decide, nearTo_three⟩, fun n hn hr => ?_⟩
  · match i, h3 with
    | 0, _ | 1, _ | 2, _ => exact ⟨rfl, rfl, rfl, rfl, rfl, rfl⟩
  · obtain ⟨h, hr⟩ := hr
    have hnil : ∀ m (hm : m < baseD.length), insideD baseD[m] = [] := fun m hm => by
      have h3 : m < 3 := hm
      match m, h3 with
      | 0, _ | 1, _ | 2, _ => rfl
    have key : ∀ st k, st = [] → ¬ Reach baseD insideD st k := fun st k hst hr => by
      induction hr with
      | start h => rw [hst] at h; cases h
      | step h hr hm ih => exact ih
    exact key _ _ (hnil n h) hr

-- shell: FnSizes
set_option maxHeartbeats 16000000 in
theorem law_FnSizes (a : Option Addr) (len cap : Nat) (zs : List Int) (a' : Option Addr) (len' cap' : Nat) (zs' : List Int) (w : World) (h : RowIn .u8 w a len cap zs) (h' : RowIn .u8 w a' len' cap' zs') :
    Calls Try.prog 3 #[.slice a len cap, .slice a' len' cap'] w fun e w' => e = .returned (.bool true) ∧ Below w.heap.size w w' := by
  by_cases hbig : 1048576 < len + len'
  · have l1 := h.len
    clear h h'
    go_enter Try.func3, Try.ntmps3
    go_wp2_with (go_at_call 10; refine (lBig_yes _ _ _ _ _ _ _ hbig l1).mono ?_; rintro e w' ⟨rfl, rfl⟩)
    go_ret
    exact ⟨rfl, Below.refl _ _⟩
  have H := Lib.hid (h.code (by omega))
  have Hcode0 := Lib.hid (h'.code (by omega))
  clear h h'
  go_enter Try.func3, Try.ntmps3
  go_wp2_with (go_at_call 10; refine (lBig_no _ _ _ _ _ _ _ (by omega)).mono ?_; rintro e w' ⟨rfl, rfl⟩)
  refine (dSizeOf a len cap _ H.out).mono ?_
  rintro e w1 ⟨a1, n1, c1, m, rfl, m0, m1, l, hl, hcc, hcm, h9, hr, hs, hb1⟩
  subst hl
  have Hm := Lib.hid (show ∀ t ∈ l, t.mod from fun t ht => (hs t ht).mod)
  have Hsh := Lib.hid hs
  have R1 := Lib.hid hr.any
  have B1 := Lib.hid hb1
  clear hr hs hb1 H
  go_wp2_with fail
  refine (iSizeOf a1 c1 l m _ (by omega) hcc hcm Hm.out R1.out).mono ?_
  rintro e w2 ⟨rfl, hb2⟩
  have R2 := Lib.hid (R1.out.below hb2)
  have B2 := Lib.hid (B1.out.trans (hb2.mono B1.out.size))
  clear hb2 R1 B1
  go_wp2_with fail
  refine (sSizeOf a1 c1 l m _ (by omega) hcc hcm Hm.out R2.out).mono ?_
  rintro e w3 ⟨rfl, hb3⟩
  have R3 := Lib.hid (R2.out.below hb3)
  have B3 := Lib.hid (B2.out.trans (hb3.mono B2.out.size))
  clear hb3 R2 B2
  have HP := Lib.hid (@sizeB_p l m)
  obtain ⟨S, hS⟩ : ∃ S, sizeA l m = S := ⟨_, rfl⟩
  obtain ⟨Q, hQ⟩ : ∃ Q, sizeB l m = Q := ⟨_, rfl⟩
  obtain ⟨G, hG⟩ : ∃ G, goodB l = G := ⟨_, rfl⟩
  have HS := Lib.hid hS
  have HG := Lib.hid hG
  rw [hQ] at HP
  rw [hS, hQ]
  clear hS hQ hG
  cases Q
  · go_wp2_with fail
    refine (iGoodTypes a1 c1 l _ (by omega) hcc hcm Hm.out R3.out).mono ?_
    rw [HG.out]
    rintro e w4 ⟨rfl, hb4⟩
    have R4 := Lib.hid (R3.out.below hb4)
    have B4 := Lib.hid (B3.out.trans (hb4.mono B3.out.size))
    clear hb4
    go_wp2_with fail
    refine (sGoodTypes a1 c1 l _ (by omega) hcc hcm Hm.out R4.out).mono ?_
    rw [HG.out]
    rintro e w5 ⟨rfl, hb5⟩
    have BX := Lib.hid (B4.out.trans (hb5.mono B4.out.size))
    clear hb5
    cases G
    all_goals
      go_wp2_with fail
      refine (dIsRound a' len' cap' _ (Hcode0.out.below BX.out)).mono ?_
      rintro e v1 ⟨a2, n2, c2, m2, rfl, _, _, l2, hl2, hcc2, hcm2, h92, hr2, hs2, hbv1⟩
      subst hl2
      have Hm2 := Lib.hid (show ∀ t ∈ l2, t.mod from fun t ht => (hs2 t ht).mod)
      have RV := Lib.hid hr2.any
      have BV := Lib.hid (BX.out.trans (hbv1.mono BX.out.size))
      clear hr2 hs2 hbv1
      go_wp2_with fail
      refine (iIsRound a2 c2 l2 m2 _ (by omega) hcc2 hcm2 Hm2.out RV.out).mono ?_
      rintro e v2 ⟨rfl, hbv2⟩
      have RV2 := Lib.hid (RV.out.below hbv2)
      have BV2 := Lib.hid (BV.out.trans (hbv2.mono BV.out.size))
      clear hbv2
      go_wp2_with fail
      refine (sIsRound a2 c2 l2 m2 _ (by omega) hcc2 hcm2 Hm2.out RV2.out).mono ?_
      rintro e v3 ⟨rfl, hbv3⟩
      have BV3 := Lib.hid (BV2.out.trans (hbv3.mono BV2.out.size))
      clear hbv3
      generalize isRoundA l2 m2 = ra
      generalize isRoundOk l2 m2 = rb
      cases ra <;> cases rb
      all_goals
        go_wp2_with fail
        refine (iBaseTypes v3).mono ?_
        rintro e v4 ⟨rfl, e4⟩
        have X4 := Lib.hid (show Box v4 v3.heap.size 32 baseA by rw [e4]; exact Box.new v3 _ _)
        have BV4 := Lib.hid (BV3.out.trans (show Below w.heap.size v3 v4 by rw [e4]; exact (Below.refl _ _).alloc BV3.out.size _))
        clear e4
        go_wp2_with fail
        refine (iGoodTypes (some ⟨v3.heap.size, 0, none⟩) 3 baseD v4 (by decide) (by decide) (by decide) base_mod (base_rows X4.out)).mono ?_
        rintro e v5 ⟨rfl, hbv5⟩
        rw [goodB_true good_base]
        have BV5 := Lib.hid (BV4.out.trans (hbv5.mono BV4.out.size))
        clear hbv5
        go_wp2_with fail
        go_ret
        exact ⟨rfl, BV5.out⟩
  have hP := HP.out rfl
  obtain ⟨n, rfl⟩ := Int.eq_ofNat_of_zero_le hP.1.2.1
  have hn : n < l.length := by have := hP.1.2.2; omega
  obtain rfl : G = true := by rw [← HG.out]; exact goodB_true hP.1.1
  have Hrec := Lib.hid (rec_told hP hn)
  have Harr := Lib.hid (arr_told hP hn)
  have HSb := Lib.hid (@sizeA_bounds l (n : Int))
  rw [HS.out] at Hrec Harr HSb
  clear hP HP
  go_wp2_with fail
  refine (iGoodTypes a1 c1 l _ (by omega) hcc hcm Hm.out R3.out).mono ?_
  rw [HG.out]
  rintro e w4 ⟨rfl, hb4⟩
  have R4 := Lib.hid (R3.out.below hb4)
  have B4 := Lib.hid (B3.out.trans (hb4.mono B3.out.size))
  clear hb4
  go_wp2_with fail
  refine (sGoodTypes a1 c1 l _ (by omega) hcc hcm Hm.out R4.out).mono ?_
  rw [HG.out]
  rintro e w5 ⟨rfl, hb5⟩
  have R5 := Lib.hid (R4.out.below hb5)
  have B5 := Lib.hid (B4.out.trans (hb5.mono B4.out.size))
  clear hb5 R3 B3 R4 B4 HG HS
  obtain ⟨b, o, a3, c3, rfl, hb1', e0, e1, e2, e3, e4, e5, hrf, hfc⟩ := type_cells R5.out hn (Below.refl _ _)
  have hnl : (n : Int) < (l.length : Int) := by omega
  have hn0 : (0 : Int) ≤ (n : Int) := by omega
  have hf3 : l[n].fFields.length ≤ 3 := (Hsh.out l[n] (List.getElem_mem hn)).1
  have RF := Lib.hid hrf
  clear hrf Hsh
  generalize l[n] = t at *
  have hbx := Box.new w5 32 #[.int .i64 t.fKind, .int .i64 t.fLong, .int .i64 t.fBase, .slice a3 t.fFields.length c3, .string t.fOwner, .string t.fName]
  have BA := Lib.hid (B5.out.alloc B5.out.size (.cells #[.int .i64 t.fKind, .int .i64 t.fLong, .int .i64 t.fBase, .slice a3 t.fFields.length c3, .string t.fOwner, .string t.fName] 32))
  have X0 := Lib.hid hbx
  clear hbx
  go_wp2_with fail
  go_loopw [82, 12, 13] (fun i s q wr => ∃ k : Nat, i = .int .i64 k ∧ k ≤ t.fFields.length ∧ s = .int .i64 (sumZ (sizeA l) ((t.fFields.take k).map FieldD.fType)) ∧ q = .bool ((t.fFields.take k).all fun f => sizeB l f.fType) ∧ Box wr w5.heap.size 32 #[.int .i64 t.fKind, .int .i64 t.fLong, .int .i64 t.fBase, .slice a3 t.fFields.length c3, .string t.fOwner, .string t.fName] ∧ Rows typeS Any wr (some ⟨b, o, none⟩) l ∧ Rows fieldS Any wr a3 t.fFields ∧ Below w.heap.size w wr) (fun i _ _ _ => t.fFields.length - (intOf i).toNat)
  case atStart => exact ⟨0, rfl, by omega, rfl, rfl, X0.out, R5.out.below ((Below.refl _ _).alloc (Nat.le_refl _) _), RF.out.below ((Below.refl _ _).alloc (Nat.le_refl _) _), BA.out⟩

  case round =>
    obtain ⟨k, rfl, hk, rfl, rfl, hX, hR, hF, hB⟩ := hrel
    have X := Lib.hid hX
    have R := Lib.hid hR
    have F := Lib.hid hF
    have Bl := Lib.hid hB
    have hszr := hB.size
    clear hX hR hF hB
    have hzb := sumZ_bounds (S := sizeA l) (b := 1000000000) (fun x => sizeA_bounds x) ((t.fFields.take k).map FieldD.fType)
    rw [List.length_map, List.length_take] at hzb
    have hzb2 : sumZ (sizeA l) ((t.fFields.take k).map FieldD.fType) ≤ 3000000000 := Int.le_trans hzb.2 (by have hmn : min k t.fFields.length ≤ 3 := (by omega); omega)
    have hzb1 := hzb.1
    obtain ⟨z, hz⟩ : ∃ z, sumZ (sizeA l) ((t.fFields.take k).map FieldD.fType) = z := ⟨_, rfl⟩
    obtain ⟨qa, hqa⟩ : ∃ qa, ((t.fFields.take k).all fun f => sizeB l f.fType) = qa := ⟨_, rfl⟩
    rw [hz] at hzb1 hzb2
    rw [hz, hqa]
    have Hz := Lib.hid hz
    have Hqa := Lib.hid hqa
    clear hzb hz hqa
    by_cases hlt : k < t.fFields.length
    · obtain ⟨fb, fo, cs, rfl, _, hfb, hc1', hat⟩ := F.out k hlt
      obtain rfl : cs = [.string t.fFields[k].fName, .int .i64 t.fFields[k].fMark, .int .i64 t.fFields[k].fType] := hat
      have g0 := hc1' 0 (by decide)
      have g1 := hc1' 1 (by decide)
      have g2 := hc1' 2 (by decide)
      have hn3 : fieldS.n = 3 := rfl
      rw [hn3] at g0 g1 g2
      simp at g0 g1 g2
      have Hz2 := Lib.hid (show sumZ (sizeA l) ((t.fFields.take (k + 1)).map FieldD.fType) = z + sizeA l t.fFields[k].fType by rw [take_nxt hlt, List.map_append, List.map_singleton, sumZ_append, Hz.out])
      have Hq2 := Lib.hid (show ((t.fFields.take (k + 1)).all fun f => sizeB l f.fType) = (qa && sizeB l t.fFields[k].fType) by rw [take_nxt hlt, List.all_append, Hqa.out]; simp)
      have hkl : (k : Int) < (t.fFields.length : Int) := by omega
      have hk0 : (0 : Int) ≤ (k : Int) := by omega
      clear hc1'
      generalize t.fFields[k] = f at *
      have BF := Lib.hid (show Below wr.heap.size wr (wr.alloc (.cells #[.string f.fName, .int .i64 f.fMark, .int .i64 f.fType] 34)) from (Below.refl _ _).alloc (Nat.le_refl _) _)
      go_wp2_with fail
      refine (iSizeOf (some ⟨b, o, none⟩) c1 l f.fType _ (by omega) hcc hcm Hm.out (R.out.below BF.out)).mono ?_
      rintro e w6 ⟨rfl, hb6⟩
      have B6 := Lib.hid (BF.out.trans (hb6.mono BF.out.size))
      clear hb6
      have hA := @sizeA_bounds l f.fType
      generalize sizeA l f.fType = x at *
      generalize sizeB l f.fType = y at *
      have hw : IntKind.i64.wrap (z + x) = z + x := IntWalk.i64_in _ (by omega)
      cases qa
      all_goals
        go_wp2_with fail
        exact ⟨⟨k + 1, by congr 1, by omega, by rw [Hz2.out], by rw [Hq2.out]; rfl, X.out.below B6.out X.out.lt, R.out.below B6.out, F.out.below B6.out, Bl.out.trans (B6.out.mono Bl.out.size)⟩, by simp [intOf]; omega⟩
    · obtain rfl : k = t.fFields.length := by omega
      have hz := Hz.out
      have hqa := Hqa.out
      rw [List.take_length] at hz hqa
      have x0 : _ = some (Value.int .i64 t.fKind) := X.out.cell 0
      have x1 : _ = some (Value.int .i64 t.fLong) := X.out.cell 1
      have x2 : _ = some (Value.int .i64 t.fBase) := X.out.cell 2
      clear Hz Hqa
      by_cases hk5 : t.fKind = 5
      · obtain ⟨ha, hrest⟩ := Hrec.out hk5
        obtain rfl : qa = true := by rw [← hqa, List.all_eq_true]; exact ha
        rw [hk5] at x0
        clear hk5 hqa ha e0
        rcases hrest with ⟨hb1, hs⟩ | ⟨hb0, hbB, hs⟩
        · obtain rfl : S = z := by rw [hs, hz]
          rw [hb1] at x2
          clear hb1 hs hz e2
          have hzz : (S != S) = false := by simp
          have BX := Lib.hid Bl.out
          go_wp2_with fail
          refine (dIsRound a' len' cap' _ (Hcode0.out.below BX.out)).mono ?_
          rintro e v1 ⟨a2, n2, c2, m2, rfl, _, _, l2, hl2, hcc2, hcm2, h92, hr2, hs2, hbv1⟩
          subst hl2
          have Hm2 := Lib.hid (show ∀ t ∈ l2, t.mod from fun t ht => (hs2 t ht).mod)
          have RV := Lib.hid hr2.any
          have BV := Lib.hid (BX.out.trans (hbv1.mono BX.out.size))
          clear hr2 hs2 hbv1
          go_wp2_with fail
          refine (iIsRound a2 c2 l2 m2 _ (by omega) hcc2 hcm2 Hm2.out RV.out).mono ?_
          rintro e v2 ⟨rfl, hbv2⟩
          have RV2 := Lib.hid (RV.out.below hbv2)
          have BV2 := Lib.hid (BV.out.trans (hbv2.mono BV.out.size))
          clear hbv2
          go_wp2_with fail
          refine (sIsRound a2 c2 l2 m2 _ (by omega) hcc2 hcm2 Hm2.out RV2.out).mono ?_
          rintro e v3 ⟨rfl, hbv3⟩
          have BV3 := Lib.hid (BV2.out.trans (hbv3.mono BV2.out.size))
          clear hbv3
          generalize isRoundA l2 m2 = ra
          generalize isRoundOk l2 m2 = rb
          cases ra <;> cases rb
          all_goals
            go_wp2_with fail
            refine (iBaseTypes v3).mono ?_
            rintro e v4 ⟨rfl, e4⟩
            have X4 := Lib.hid (show Box v4 v3.heap.size 32 baseA by rw [e4]; exact Box.new v3 _ _)
            have BV4 := Lib.hid (BV3.out.trans (show Below w.heap.size v3 v4 by rw [e4]; exact (Below.refl _ _).alloc BV3.out.size _))
            clear e4
            go_wp2_with fail
            refine (iGoodTypes (some ⟨v3.heap.size, 0, none⟩) 3 baseD v4 (by decide) (by decide) (by decide) base_mod (base_rows X4.out)).mono ?_
            rintro e v5 ⟨rfl, hbv5⟩
            rw [goodB_true good_base]
            have BV5 := Lib.hid (BV4.out.trans (hbv5.mono BV4.out.size))
            clear hbv5
            go_wp2_with fail
            go_ret
            exact ⟨rfl, BV5.out⟩
        · rw [hz] at hs
          have hA := @sizeA_bounds l t.fBase
          clear hz
          go_wp2_with fail
          refine (iSizeOf (some ⟨b, o, none⟩) c1 l t.fBase _ (by omega) hcc hcm Hm.out R.out).mono ?_
          rw [hbB]
          rintro e w6 ⟨rfl, hb6⟩
          have BX := Lib.hid (Bl.out.trans (hb6.mono Bl.out.size))
          clear hb6 hbB
          generalize sizeA l t.fBase = x at *
          have hw : IntKind.i64.wrap (z + x) = z + x := IntWalk.i64_in _ (by omega)
          subst hs
          have hzz : (z + x != z + x) = false := by simp
          go_wp2_with fail
          refine (dIsRound a' len' cap' _ (Hcode0.out.below BX.out)).mono ?_
          rintro e v1 ⟨a2, n2, c2, m2, rfl, _, _, l2, hl2, hcc2, hcm2, h92, hr2, hs2, hbv1⟩
          subst hl2
          have Hm2 := Lib.hid (show ∀ t ∈ l2, t.mod from fun t ht => (hs2 t ht).mod)
          have RV := Lib.hid hr2.any
          have BV := Lib.hid (BX.out.trans (hbv1.mono BX.out.size))
          clear hr2 hs2 hbv1
          go_wp2_with fail
          refine (iIsRound a2 c2 l2 m2 _ (by omega) hcc2 hcm2 Hm2.out RV.out).mono ?_
          rintro e v2 ⟨rfl, hbv2⟩
          have RV2 := Lib.hid (RV.out.below hbv2)
          have BV2 := Lib.hid (BV.out.trans (hbv2.mono BV.out.size))
          clear hbv2
          go_wp2_with fail
          refine (sIsRound a2 c2 l2 m2 _ (by omega) hcc2 hcm2 Hm2.out RV2.out).mono ?_
          rintro e v3 ⟨rfl, hbv3⟩
          have BV3 := Lib.hid (BV2.out.trans (hbv3.mono BV2.out.size))
          clear hbv3
          generalize isRoundA l2 m2 = ra
          generalize isRoundOk l2 m2 = rb
          cases ra <;> cases rb
          all_goals
            go_wp2_with fail
            refine (iBaseTypes v3).mono ?_
            rintro e v4 ⟨rfl, e4⟩
            have X4 := Lib.hid (show Box v4 v3.heap.size 32 baseA by rw [e4]; exact Box.new v3 _ _)
            have BV4 := Lib.hid (BV3.out.trans (show Below w.heap.size v3 v4 by rw [e4]; exact (Below.refl _ _).alloc BV3.out.size _))
            clear e4
            go_wp2_with fail
            refine (iGoodTypes (some ⟨v3.heap.size, 0, none⟩) 3 baseD v4 (by decide) (by decide) (by decide) base_mod (base_rows X4.out)).mono ?_
            rintro e v5 ⟨rfl, hbv5⟩
            rw [goodB_true good_base]
            have BV5 := Lib.hid (BV4.out.trans (hbv5.mono BV4.out.size))
            clear hbv5
            go_wp2_with fail
            go_ret
            exact ⟨rfl, BV5.out⟩
      · by_cases hk4 : t.fKind = 4
        · obtain ⟨hbB, hs⟩ := Harr.out hk4
          rw [hk4] at x0
          have hSb := HSb.out
          clear hk4 hk5 hz hqa e0
          go_wp2_with fail
          refine (iSizeOf (some ⟨b, o, none⟩) c1 l t.fBase _ (by omega) hcc hcm Hm.out R.out).mono ?_
          rw [hbB]
          rintro e w6 ⟨rfl, hb6⟩
          have BX := Lib.hid (Bl.out.trans (hb6.mono Bl.out.size))
          have x1 : _ = some (Value.int .i64 t.fLong) := (X.out.below hb6 X.out.lt).cell 1
          clear hb6 hbB
          generalize sizeA l t.fBase = x at *
          have hw : IntKind.i64.wrap (t.fLong * x) = t.fLong * x := IntWalk.i64_in _ (by omega)
          subst hs
          have hzz : (t.fLong * x != t.fLong * x) = false := by simp
          go_wp2_with fail
          refine (dIsRound a' len' cap' _ (Hcode0.out.below BX.out)).mono ?_
          rintro e v1 ⟨a2, n2, c2, m2, rfl, _, _, l2, hl2, hcc2, hcm2, h92, hr2, hs2, hbv1⟩
          subst hl2
          have Hm2 := Lib.hid (show ∀ t ∈ l2, t.mod from fun t ht => (hs2 t ht).mod)
          have RV := Lib.hid hr2.any
          have BV := Lib.hid (BX.out.trans (hbv1.mono BX.out.size))
          clear hr2 hs2 hbv1
          go_wp2_with fail
          refine (iIsRound a2 c2 l2 m2 _ (by omega) hcc2 hcm2 Hm2.out RV.out).mono ?_
          rintro e v2 ⟨rfl, hbv2⟩
          have RV2 := Lib.hid (RV.out.below hbv2)
          have BV2 := Lib.hid (BV.out.trans (hbv2.mono BV.out.size))
          clear hbv2
          go_wp2_with fail
          refine (sIsRound a2 c2 l2 m2 _ (by omega) hcc2 hcm2 Hm2.out RV2.out).mono ?_
          rintro e v3 ⟨rfl, hbv3⟩
          have BV3 := Lib.hid (BV2.out.trans (hbv3.mono BV2.out.size))
          clear hbv3
          generalize isRoundA l2 m2 = ra
          generalize isRoundOk l2 m2 = rb
          cases ra <;> cases rb
          all_goals
            go_wp2_with fail
            refine (iBaseTypes v3).mono ?_
            rintro e v4 ⟨rfl, e4⟩
            have X4 := Lib.hid (show Box v4 v3.heap.size 32 baseA by rw [e4]; exact Box.new v3 _ _)
            have BV4 := Lib.hid (BV3.out.trans (show Below w.heap.size v3 v4 by rw [e4]; exact (Below.refl _ _).alloc BV3.out.size _))
            clear e4
            go_wp2_with fail
            refine (iGoodTypes (some ⟨v3.heap.size, 0, none⟩) 3 baseD v4 (by decide) (by decide) (by decide) base_mod (base_rows X4.out)).mono ?_
            rintro e v5 ⟨rfl, hbv5⟩
            rw [goodB_true good_base]
            have BV5 := Lib.hid (BV4.out.trans (hbv5.mono BV4.out.size))
            clear hbv5
            go_wp2_with fail
            go_ret
            exact ⟨rfl, BV5.out⟩
        · have y5 : (t.fKind == 5) = false := beq_eq_false_iff_ne.2 hk5
          have y4 : (t.fKind == 4) = false := beq_eq_false_iff_ne.2 hk4
          have BX := Lib.hid Bl.out
          clear hz hqa
          go_wp2_with fail
          refine (dIsRound a' len' cap' _ (Hcode0.out.below BX.out)).mono ?_
          rintro e v1 ⟨a2, n2, c2, m2, rfl, _, _, l2, hl2, hcc2, hcm2, h92, hr2, hs2, hbv1⟩
          subst hl2
          have Hm2 := Lib.hid (show ∀ t ∈ l2, t.mod from fun t ht => (hs2 t ht).mod)
          have RV := Lib.hid hr2.any
          have BV := Lib.hid (BX.out.trans (hbv1.mono BX.out.size))
          clear hr2 hs2 hbv1
          go_wp2_with fail
          refine (iIsRound a2 c2 l2 m2 _ (by omega) hcc2 hcm2 Hm2.out RV.out).mono ?_
          rintro e v2 ⟨rfl, hbv2⟩
          have RV2 := Lib.hid (RV.out.below hbv2)
          have BV2 := Lib.hid (BV.out.trans (hbv2.mono BV.out.size))
          clear hbv2
          go_wp2_with fail
          refine (sIsRound a2 c2 l2 m2 _ (by omega) hcc2 hcm2 Hm2.out RV2.out).mono ?_
          rintro e v3 ⟨rfl, hbv3⟩
          have BV3 := Lib.hid (BV2.out.trans (hbv3.mono BV2.out.size))
          clear hbv3
          generalize isRoundA l2 m2 = ra
          generalize isRoundOk l2 m2 = rb
          cases ra <;> cases rb
          all_goals
            go_wp2_with fail
            refine (iBaseTypes v3).mono ?_
            rintro e v4 ⟨rfl, e4⟩
            have X4 := Lib.hid (show Box v4 v3.heap.size 32 baseA by rw [e4]; exact Box.new v3 _ _)
            have BV4 := Lib.hid (BV3.out.trans (show Below w.heap.size v3 v4 by rw [e4]; exact (Below.refl _ _).alloc BV3.out.size _))
            clear e4
            go_wp2_with fail
            refine (iGoodTypes (some ⟨v3.heap.size, 0, none⟩) 3 baseD v4 (by decide) (by decide) (by decide) base_mod (base_rows X4.out)).mono ?_
            rintro e v5 ⟨rfl, hbv5⟩
            rw [goodB_true good_base]
            have BV5 := Lib.hid (BV4.out.trans (hbv5.mono BV4.out.size))
            clear hbv5
            go_wp2_with fail
            go_ret
            exact ⟨rfl, BV5.out⟩
end Go.Proofs.Ytjbnabjfeepbeaa
