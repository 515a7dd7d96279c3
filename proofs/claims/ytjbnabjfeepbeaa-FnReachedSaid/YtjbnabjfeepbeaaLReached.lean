
/-
  What is proved: the walk of the law FnReached. No condition beside what each theorem states.
-/
import Derived.Test.YtjbnabjfeepbeaaDrawT8
import Derived.Test.YtjbnabjfeepbeaaMixes
import Derived.Test.YtjbnabjfeepbeaaReached
import Derived.Test.YtjbnabjfeepbeaaFieldOf
import Derived.Test.YtjbnabjfeepbeaaInts
namespace Go.Proofs.Ytjbnabjfeepbeaa
open Go.ChangeShapes Go.WideShapes Go.ChangeAt Go.RowKit
set_option maxRecDepth 100000

theorem shortT.modR {t : TypeD} (h : shortT t) : t.mod := by
  obtain ⟨h1, h2, h3, h4⟩ := h
  unfold TypeD.mod maxLen
  exact ⟨by omega, by omega, by omega, fun f hf => by have := h4 f hf; omega⟩
theorem ints_nums {w : World} {a : Option Addr} {l : List Int} (h : Ints w a l) : Nums w a l := fun i hi => by
  obtain ⟨b, o, e, h1, h2⟩ := h i hi
  exact ⟨b, o, e, h1, by rw [h2]; simp [List.getD, hi]⟩
theorem reach_lt {l : List TypeD} {st : List Int} {n : Nat} (hne : near l) (hst : ∀ x ∈ st, 0 ≤ x ∧ x < (l.length : Int)) (h : Reach l partsD st n) : n < l.length := by
  induction h with
  | start h => have := hst _ h; omega
  | step h _ hx _ => have := hne.parts _ h _ hx; omega
/-- What is reached is closed. -/
theorem reach_again {l : List TypeD} {st m : List Int} (hp : reachP l st) (hm : isReached l st m) : reachP l m ∧ isReached l m m ∧ (∀ x ∈ st, x ∈ m) ∧ ∀ x ∈ m, ∃ k : Nat, x = (k : Int) ∧ ∃ h : k < l.length, ∀ y ∈ partsD l[k], y ∈ m := by
  obtain ⟨hg, hri⟩ := hp
  obtain ⟨hmem, hris⟩ := hm.1 ⟨hg, hri⟩
  have hlt : ∀ x ∈ m, ∃ k : Nat, x = (k : Int) ∧ k < l.length ∧ Reach l partsD st k := fun x hx => by
    obtain ⟨k, e, hr⟩ := (hmem x).1 hx
    exact ⟨k, e, reach_lt hg.1 hri.1 hr, hr⟩
  have hcl : ∀ x ∈ m, ∃ k : Nat, x = (k : Int) ∧ ∃ h : k < l.length, ∀ y ∈ partsD l[k], y ∈ m := fun x hx => by
    obtain ⟨k, e, hk, hr⟩ := hlt x hx
    refine ⟨k, e, hk, fun y hy => ?_⟩
    have hb := hg.1.parts k hk y hy
    obtain ⟨j, rfl⟩ := Int.eq_ofNat_of_zero_le hb.1
    exact (hmem _).2 ⟨j, rfl, .step hk hr hy⟩
  have hpm : reachP l m := ⟨hg, fun x hx => by
    obtain ⟨k, e, hk, _⟩ := hlt x hx
    omega, hris⟩
  have hin : ∀ n : Nat, Reach l partsD m n → (n : Int) ∈ m := fun n h => by
    induction h with
    | start h => exact h
    | step h _ hx ih =>
      obtain ⟨k, e, hk, hc⟩ := hcl _ ih
      obtain rfl := Int.ofNat.inj e
      exact hc _ hx
  refine ⟨hpm, ⟨fun _ => ⟨fun y => ⟨fun hy => ?_, fun ⟨n, e, hr⟩ => e ▸ hin n hr⟩, hris⟩, fun h => absurd hpm h, hm.2.2⟩, fun x hx => ?_, hcl⟩
  · obtain ⟨k, e, _⟩ := hlt y hy
    exact ⟨k, e, .start (e ▸ hy)⟩
  · have hb := hri.1 x hx
    obtain ⟨j, rfl⟩ := Int.eq_ofNat_of_zero_le hb.1
    exact (hmem _).2 ⟨j, rfl, .start hx⟩

set_option maxHeartbeats 1000000 in
theorem lSameInts (a a' : Option Addr) (c c' : Nat) (l : List Int) (w : World) (hl : l.length ≤ 1048576) (hr : Nums w a l) (hr' : Nums w a' l) :
    Calls Try.prog 23 #[.slice a l.length c, .slice a' l.length c'] w fun e w' => e = .returned (.bool true) ∧ Below w.heap.size w w' := by
  have Hr := Lib.hid hr
  have Hr' := Lib.hid hr'
  clear hr hr'
  have hll : ((l.length : Int) != (l.length : Int)) = false := by simp
  go_enter Try.func23, Try.ntmps23
  go_wp2_with fail
  go_loopw [13] (fun i wr => ∃ k : Nat, i = .int .i64 k ∧ k ≤ l.length ∧ Below w.heap.size w wr) (fun i _ => l.length - (intOf i).toNat)
  case atStart => exact ⟨0, rfl, by omega, Below.refl _ _⟩
  case round =>
    obtain ⟨k, rfl, hk, hbel⟩ := hrel
    by_cases hlt : k < l.length
    · obtain ⟨b, o, rfl, hb1, hc1⟩ := Hr.out k hlt
      obtain ⟨b', o', rfl, hb1', hc1'⟩ := Hr'.out k hlt
      have e1 := (hbel.cell (p := ⟨b, o + k, none⟩) hb1).trans hc1
      have e2 := (hbel.cell (p := ⟨b', o' + k, none⟩) hb1').trans hc1'
      have i1 : (0 : Int) ≤ (k : Int) := by omega
      have i2 : (k : Int) < (l.length : Int) := by omega
      have Hbel := Lib.hid hbel
      clear hbel hc1 hc1' Hr Hr'
      generalize l[k] = x at *
      go_wp2_with fail
      go_quiet (fail)
      go_wp2_with fail
      exact ⟨⟨k + 1, by congr 1, by omega, belowN Hbel.out _⟩, by simp [intOf]; omega⟩
    · go_wp2_with fail
      go_ret
      exact ⟨rfl, hbel⟩
set_option maxHeartbeats 1000000 in
theorem lHas (a : Option Addr) (c : Nat) (l : List Int) (x : Int) (w : World) (hl : l.length ≤ 1048576) (hr : Nums w a l) (hx : x ∈ l) :
    Calls Try.prog 25 #[.slice a l.length c, .int .i64 x] w fun e w' => e = .returned (.bool true) ∧ w' = w := by
  have Hr := Lib.hid hr
  have Hx := Lib.hid hx
  clear hr hx
  go_enter Try.func25, Try.ntmps25
  go_wp2_with fail
  go_loopw [9] (fun i wr => ∃ k : Nat, i = .int .i64 k ∧ k ≤ l.length ∧ (∀ j (h : j < l.length), j < k → l[j] ≠ x) ∧ wr = w) (fun i _ => l.length - (intOf i).toNat)
  case atStart => exact ⟨0, rfl, by omega, fun _ _ h => absurd h (by omega), rfl⟩
  case round =>
    obtain ⟨k, rfl, hk, hno, rfl⟩ := hrel
    have Hno := Lib.hid hno
    clear hno
    by_cases hlt : k < l.length
    · obtain ⟨b, o, rfl, hb1, hc1⟩ := Hr.out k hlt
      have i1 : (0 : Int) ≤ (k : Int) := by omega
      have i2 : (k : Int) < (l.length : Int) := by omega
      have Hn := Lib.hid (show l[k] ≠ x → ∀ j (h : j < l.length), j < k + 1 → l[j] ≠ x from fun h j hj hjk => by
        by_cases e : j = k
        · subst e; exact h
        · exact Hno.out j hj (by omega))
      generalize l[k] = y at *
      by_cases e : y = x
      · have ye : (y == x) = true := beq_iff_eq.2 e
        clear e
        go_wp2_with fail
        go_ret
        exact ⟨rfl, rfl⟩
      · have ye : (y == x) = false := beq_eq_false_iff_ne.2 e
        have Hn2 := Lib.hid (Hn.out e)
        clear e
        go_wp2_with fail
        exact ⟨⟨k + 1, by congr 1, by omega, Hn2.out, trivial⟩, by simp [intOf]; omega⟩
    · obtain ⟨j, hj, e⟩ := List.getElem_of_mem Hx.out
      exact absurd e (Hno.out j hj (by omega))
set_option maxHeartbeats 1000000 in
theorem lWithin (a a' : Option Addr) (c c' : Nat) (l m : List Int) (w : World) (hl : l.length ≤ 1048576) (hm : m.length ≤ 1048576) (hr : Nums w a l) (hr' : Nums w a' m) (hin : ∀ x ∈ l, x ∈ m) :
    Calls Try.prog 24 #[.slice a l.length c, .slice a' m.length c'] w fun e w' => e = .returned (.bool true) ∧ w' = w := by
  have Hr := Lib.hid hr
  have Hr' := Lib.hid hr'
  have Hin := Lib.hid hin
  clear hr hr' hin
  go_enter Try.func24, Try.ntmps24
  go_wp2_with fail
  go_loopw [9] (fun i wr => ∃ k : Nat, i = .int .i64 k ∧ k ≤ l.length ∧ wr = w) (fun i _ => l.length - (intOf i).toNat)
  case atStart => exact ⟨0, rfl, by omega, rfl⟩
  case round =>
    obtain ⟨k, rfl, hk, rfl⟩ := hrel
    by_cases hlt : k < l.length
    · obtain ⟨b, o, rfl, hb1, hc1⟩ := Hr.out k hlt
      have i1 : (0 : Int) ≤ (k : Int) := by omega
      have i2 : (k : Int) < (l.length : Int) := by omega
      have Hx := Lib.hid (Hin.out l[k] (List.getElem_mem hlt))
      generalize l[k] = x at *
      go_wp2_with fail
      refine (lHas a' c' m x wr hm Hr'.out Hx.out).mono ?_
      rintro e _ ⟨rfl, rfl⟩
      go_wp2_with fail
      exact ⟨⟨k + 1, by congr 1, by omega, trivial⟩, by simp [intOf]; omega⟩
    · go_wp2_with fail
      go_ret
      exact ⟨rfl, rfl⟩

-- shell: FnReached
set_option maxHeartbeats 16000000 in
theorem law_FnReached (a : Option Addr) (len cap : Nat) (zs : List Int) (a' : Option Addr) (len' cap' : Nat) (zs' : List Int) (w : World) (h : RowIn .u8 w a len cap zs) (h' : RowIn .u8 w a' len' cap' zs') :
    Calls Try.prog 4 #[.slice a len cap, .slice a' len' cap'] w fun e w' => e = .returned (.bool true) ∧ Below w.heap.size w w' := by
  by_cases hbig : 1048576 < len + len'
  · have l1 := h.len
    clear h h'
    go_enter Try.func4, Try.ntmps4
    go_wp2_with (go_at_call 10; refine (lBig_yes _ _ _ _ _ _ _ hbig l1).mono ?_; rintro e w' ⟨rfl, rfl⟩)
    go_ret
    exact ⟨rfl, Below.refl _ _⟩
  have H := Lib.hid (h.code (by omega))
  have Hcode0 := Lib.hid (h'.code (by omega))
  clear h h'
  go_enter Try.func4, Try.ntmps4
  go_wp2_with (go_at_call 10; refine (lBig_no _ _ _ _ _ _ _ (by omega)).mono ?_; rintro e w' ⟨rfl, rfl⟩)
  refine (dReachedOf a len cap _ H.out).mono ?_
  rintro e w1 ⟨a1, n1, c1, bs, ns, rfl, hns, hnb, hn1, hn2, l, hl, hcc, hcm, h9, hr, hs, hb1⟩
  subst hl
  have Hm := Lib.hid (show ∀ t ∈ l, t.mod from fun t ht => (hs t ht).modR)
  have R1 := Lib.hid hr.any
  have B1 := Lib.hid hb1
  have N1 := Lib.hid (ints_nums hns)
  clear hr hs hb1 H hns hnb
  go_wp2_with fail
  refine (iReachedOf a1 c1 l _ _ ns _ (by omega) hcc hcm Hm.out (by omega) R1.out N1.out).mono ?_
  rintro e w2 ⟨v, m, rfl, hown, hm, hb2⟩
  obtain ⟨am, cm, rfl, _, hnm⟩ := hown.nums
  have hml : m.length ≤ 24 := hm.2.2
  have HM := Lib.hid hm
  have M2 := Lib.hid hnm
  have R2 := Lib.hid (R1.out.below hb2)
  have N2 := Lib.hid (N1.out.below hb2)
  have B2 := Lib.hid (B1.out.trans (hb2.mono B1.out.size))
  clear hb2 R1 B1 N1 hown hnm hm
  go_wp2_with fail
  refine (sReachedOf a1 c1 l _ _ ns _ (by omega) hcc hcm Hm.out (by omega) R2.out N2.out).mono ?_
  rintro e w3 ⟨v0, m0, rfl, hown0, hm0, hb3⟩
  rw [hm0.eq HM.out] at hown0
  obtain ⟨a0, c0, rfl, _, hn0⟩ := hown0.nums
  have O3 := Lib.hid hn0
  have R3 := Lib.hid (R2.out.below hb3)
  have N3 := Lib.hid (N2.out.below hb3)
  have M3 := Lib.hid (M2.out.below hb3)
  have B3 := Lib.hid (B2.out.trans (hb3.mono B2.out.size))
  clear hb3 R2 B2 N2 M2 hown0 hm0 hn0
  obtain ⟨q, hq⟩ : ∃ q, reachB l ns = q := ⟨_, rfl⟩
  have HQ := Lib.hid hq
  rw [hq]
  clear hq
  cases q
  · go_wp2_with fail
    refine (lSameInts _ _ _ _ m _ (by omega) M3.out O3.out).mono ?_
    rintro e w4 ⟨rfl, hb4⟩
    have BX := Lib.hid (B3.out.trans (hb4.mono B3.out.size))
    clear hb4
    go_wp2_with fail
    refine (dFieldOf a' len' cap' _ (Hcode0.out.below BX.out)).mono ?_
    rintro e v1 ⟨a2, n2, c2, x2, nm, rfl, _, _, hnm, l2, hl2, hcc2, hcm2, h92, hr2, hs2, hbv1⟩
    subst hl2
    have Hm2 := Lib.hid (show ∀ t ∈ l2, t.mod from fun t ht => (hs2 t ht).modR)
    have RV := Lib.hid hr2.any
    have BV := Lib.hid (BX.out.trans (hbv1.mono BX.out.size))
    clear hr2 hs2 hbv1
    go_wp2_with fail
    refine (iFieldOf a2 c2 l2 x2 nm _ (by omega) hcc2 hcm2 Hm2.out RV.out).mono ?_
    rintro e v2 ⟨rfl, hbv2⟩
    have RV2 := Lib.hid (RV.out.below hbv2)
    have BV2 := Lib.hid (BV.out.trans (hbv2.mono BV.out.size))
    clear hbv2
    go_wp2_with fail
    refine (sFieldOf a2 c2 l2 x2 nm _ (by omega) hcc2 hcm2 Hm2.out RV2.out).mono ?_
    rintro e v3 ⟨rfl, hbv3⟩
    have BV3 := Lib.hid (BV2.out.trans (hbv3.mono BV2.out.size))
    clear hbv3
    generalize fieldZ l2 x2 nm = fo
    unfold intV isV
    generalize fo.getD 0 = fz
    generalize fo.isSome = fb
    have fzz : (fz == fz) = true := beq_self_eq_true fz
    cases fb
    all_goals
      go_wp2_with fail
      go_ret
      exact ⟨rfl, BV3.out⟩
  have hp : reachP l ns := by
    have := HQ.out
    unfold reachB at this
    simpa using this
  obtain ⟨hpm, hmm, hin, hcl⟩ := reach_again hp HM.out
  have hqm := Lib.hid (reachB_true hpm)
  have Hmm := Lib.hid hmm
  have Hin := Lib.hid hin
  have Hcl := Lib.hid hcl
  have Hok := Lib.hid (hp.1.1.ok)
  clear hp hpm hmm hin hcl HQ
  go_wp2_with fail
  refine (lSameInts _ _ _ _ m _ (by omega) M3.out O3.out).mono ?_
  rintro e w4 ⟨rfl, hb4⟩
  have R4 := Lib.hid (R3.out.below hb4)
  have N4 := Lib.hid (N3.out.below hb4)
  have M4 := Lib.hid (M3.out.below hb4)
  have B4 := Lib.hid (B3.out.trans (hb4.mono B3.out.size))
  clear hb4 R3 B3 N3 M3 O3
  go_wp2_with fail
  refine (iReachedOf a1 c1 l _ _ m _ (by omega) hcc hcm Hm.out (by omega) R4.out M4.out).mono ?_
  rintro e w5 ⟨v5, m5, rfl, hown5, hm5, hb5⟩
  rw [hqm.out]
  rw [hm5.eq Hmm.out] at hown5
  obtain ⟨a5, c5, rfl, _, hn5⟩ := hown5.nums
  have O5 := Lib.hid hn5
  have R5 := Lib.hid (R4.out.below hb5)
  have N5 := Lib.hid (N4.out.below hb5)
  have M5 := Lib.hid (M4.out.below hb5)
  have B5 := Lib.hid (B4.out.trans (hb5.mono B4.out.size))
  clear hb5 R4 B4 N4 M4 hown5 hn5 hm5
  go_wp2_with fail
  refine (lSameInts _ _ _ _ m _ (by omega) O5.out M5.out).mono ?_
  rintro e w6 ⟨rfl, hb6⟩
  have R6 := Lib.hid (R5.out.below hb6)
  have N6 := Lib.hid (N5.out.below hb6)
  have M6 := Lib.hid (M5.out.below hb6)
  have B6 := Lib.hid (B5.out.trans (hb6.mono B5.out.size))
  clear hb6 R5 B5 N5 M5 O5
  go_wp2_with fail
  refine (lWithin _ _ _ _ ns m _ (by omega) (by omega) N6.out M6.out Hin.out).mono ?_
  rintro e _ ⟨rfl, rfl⟩
  go_wp2_with fail
  go_loopw [76] (fun i wr => ∃ k : Nat, i = .int .i64 k ∧ k ≤ m.length ∧ Rows typeS Any wr a1 l ∧ Nums wr am m ∧ Below w.heap.size w wr) (fun i _ => m.length - (intOf i).toNat)
  case atStart => exact ⟨0, rfl, by omega, R6.out, M6.out, B6.out⟩
  case round =>
    obtain ⟨k, rfl, hk, hR, hM, hB⟩ := hrel
    obtain ⟨wo, hwo⟩ : ∃ x, x = wr := ⟨_, rfl⟩
    subst hwo
    have R := Lib.hid hR
    have M := Lib.hid hM
    have Bl := Lib.hid hB
    clear hR hM hB
    by_cases hlt : k < m.length
    · obtain ⟨bm, om, rfl, hbm, em⟩ := M.out k hlt
      obtain ⟨n, hn, hnl, hpart⟩ := Hcl.out m[k] (List.getElem_mem hlt)
      rw [hn] at em
      clear hn
      have i1 : (0 : Int) ≤ (k : Int) := by omega
      have i2 : (k : Int) < (m.length : Int) := by omega
      have j1 : ¬ (n : Int) < 0 := by omega
      have j2 : (n : Int) < (l.length : Int) := by omega
      have j3 : (0 : Int) ≤ (n : Int) := by omega
      have j5 : decide ((l.length : Int) ≤ (n : Int)) = false := decide_eq_false (by omega)
      have j6 : decide (l.length ≤ n) = false := decide_eq_false (by omega)
      obtain ⟨b, o, a3, c3, rfl, hb1', e0, e1, e2, e3, e4, e5, hrf, hfc⟩ := type_cells R.out hnl (Below.refl _ _)
      have RF := Lib.hid hrf
      have hfl : l[n].fFields.length ≤ 6 := by
        rcases Hok.out n hnl with ⟨_, hb⟩ | ⟨_, ho⟩
        · have := hb.2.2.2.1; omega
        · rcases ho.2 with ⟨_, _, _, f⟩ | ⟨_, _, _, f⟩ | ⟨_, _, _, f⟩
          · omega
          · exact f.1
          · omega
      have Hbase := Lib.hid (show 0 ≤ l[n].fBase → l[n].fBase ∈ m from fun h => hpart _ (by unfold partsD; rw [if_neg (by omega)]; exact List.mem_append_left _ (List.mem_singleton.2 rfl)))
      have Hfld := Lib.hid (show ∀ f ∈ l[n].fFields, f.fType ∈ m from fun f hf => hpart _ (by unfold partsD; exact List.mem_append_right _ (List.mem_map_of_mem hf)))
      clear hrf hpart
      generalize l[n] = t at *
      by_cases hb0 : 0 ≤ t.fBase
      · go_wp2_with fail
        refine (lHas _ _ m t.fBase wo (by omega) M.out (Hbase.out hb0)).mono ?_
        rintro e w9 ⟨rfl, rfl⟩
        go_wp2_with fail
        go_loopw [112] (fun i wr => ∃ k : Nat, i = .int .i64 k ∧ k ≤ t.fFields.length ∧ Below w9.heap.size w9 wr) (fun i _ => t.fFields.length - (intOf i).toNat)
        case atStart => exact ⟨0, rfl, by omega, Below.refl _ _⟩
        case round =>
          obtain ⟨q, rfl, hq, hbq⟩ := hrel
          by_cases hqlt : q < t.fFields.length
          · obtain ⟨fb, fo, cs, rfl, _, hfb, hc1', hat⟩ := RF.out q hqlt
            obtain rfl : cs = [.string t.fFields[q].fName, .int .i64 t.fFields[q].fMark, .int .i64 t.fFields[q].fType] := hat
            have hn3 : fieldS.n = 3 := rfl
            have g0 := (hbq.cell (p := ⟨fb, fo + q * 3 + 0, none⟩) hfb).trans (hc1' 0 (by decide))
            have g1 := (hbq.cell (p := ⟨fb, fo + q * 3 + 1, none⟩) hfb).trans (hc1' 1 (by decide))
            have g2 := (hbq.cell (p := ⟨fb, fo + q * 3 + 2, none⟩) hfb).trans (hc1' 2 (by decide))
            simp at g0 g1 g2
            have hkl : (q : Int) < (t.fFields.length : Int) := by omega
            have hk0 : (0 : Int) ≤ (q : Int) := by omega
            have Hf := Lib.hid (Hfld.out _ (List.getElem_mem hqlt))
            have BQ := Lib.hid hbq
            clear hc1' hbq
            generalize t.fFields[q] = f at *
            go_wp2_with fail
            refine (lHas _ _ m f.fType _ (by omega) ((M.out.below BQ.out).below ((Below.refl _ _).alloc (Nat.le_refl _) _)) Hf.out).mono ?_
            rintro e _ ⟨rfl, rfl⟩
            go_wp2_with fail
            first
              | exact ⟨⟨q + 1, by congr 1, by omega, BQ.out.alloc BQ.out.size _⟩, by simp [intOf]; omega⟩
              | (go_round
                 case rel =>
                   repeat apply Exists.intro
                   refine ⟨⟨q + 1, ?_, by omega, BQ.out.alloc BQ.out.size _⟩, ?_⟩
                   rotate_left
                   · rfl
                   · rfl
                 case measure => simp [intOf]; omega)
          · have BQ := Lib.hid hbq
            clear hbq
            go_wp2_with fail
            exact ⟨⟨k + 1, by congr 1, by omega, R.out.below BQ.out, M.out.below BQ.out, Bl.out.trans (BQ.out.mono Bl.out.size)⟩, by simp [intOf]; omega⟩
      · go_wp2_with fail
        go_loopw [112] (fun i wr => ∃ k : Nat, i = .int .i64 k ∧ k ≤ t.fFields.length ∧ Below wo.heap.size wo wr) (fun i _ => t.fFields.length - (intOf i).toNat)
        case atStart => exact ⟨0, rfl, by omega, Below.refl _ _⟩
        case round =>
          obtain ⟨q, rfl, hq, hbq⟩ := hrel
          by_cases hqlt : q < t.fFields.length
          · obtain ⟨fb, fo, cs, rfl, _, hfb, hc1', hat⟩ := RF.out q hqlt
            obtain rfl : cs = [.string t.fFields[q].fName, .int .i64 t.fFields[q].fMark, .int .i64 t.fFields[q].fType] := hat
            have hn3 : fieldS.n = 3 := rfl
            have g0 := (hbq.cell (p := ⟨fb, fo + q * 3 + 0, none⟩) hfb).trans (hc1' 0 (by decide))
            have g1 := (hbq.cell (p := ⟨fb, fo + q * 3 + 1, none⟩) hfb).trans (hc1' 1 (by decide))
            have g2 := (hbq.cell (p := ⟨fb, fo + q * 3 + 2, none⟩) hfb).trans (hc1' 2 (by decide))
            simp at g0 g1 g2
            have hkl : (q : Int) < (t.fFields.length : Int) := by omega
            have hk0 : (0 : Int) ≤ (q : Int) := by omega
            have Hf := Lib.hid (Hfld.out _ (List.getElem_mem hqlt))
            have BQ := Lib.hid hbq
            clear hc1' hbq
            generalize t.fFields[q] = f at *
            go_wp2_with fail
            refine (lHas _ _ m f.fType _ (by omega) ((M.out.below BQ.out).below ((Below.refl _ _).alloc (Nat.le_refl _) _)) Hf.out).mono ?_
            rintro e _ ⟨rfl, rfl⟩
            go_wp2_with fail
            first
              | exact ⟨⟨q + 1, by congr 1, by omega, BQ.out.alloc BQ.out.size _⟩, by simp [intOf]; omega⟩
              | (go_round
                 case rel =>
                   repeat apply Exists.intro
                   refine ⟨⟨q + 1, ?_, by omega, BQ.out.alloc BQ.out.size _⟩, ?_⟩
                   rotate_left
                   · rfl
                   · rfl
                 case measure => simp [intOf]; omega)
          · have BQ := Lib.hid hbq
            clear hbq
            go_wp2_with fail
            exact ⟨⟨k + 1, by congr 1, by omega, R.out.below BQ.out, M.out.below BQ.out, Bl.out.trans (BQ.out.mono Bl.out.size)⟩, by simp [intOf]; omega⟩
    · obtain rfl : k = m.length := by omega
      have BX := Lib.hid Bl.out
      go_wp2_with fail
      refine (dFieldOf a' len' cap' _ (Hcode0.out.below BX.out)).mono ?_
      rintro e v1 ⟨a2, n2, c2, x2, nm, rfl, _, _, hnm, l2, hl2, hcc2, hcm2, h92, hr2, hs2, hbv1⟩
      subst hl2
      have Hm2 := Lib.hid (show ∀ t ∈ l2, t.mod from fun t ht => (hs2 t ht).modR)
      have RV := Lib.hid hr2.any
      have BV := Lib.hid (BX.out.trans (hbv1.mono BX.out.size))
      clear hr2 hs2 hbv1
      go_wp2_with fail
      refine (iFieldOf a2 c2 l2 x2 nm _ (by omega) hcc2 hcm2 Hm2.out RV.out).mono ?_
      rintro e v2 ⟨rfl, hbv2⟩
      have RV2 := Lib.hid (RV.out.below hbv2)
      have BV2 := Lib.hid (BV.out.trans (hbv2.mono BV.out.size))
      clear hbv2
      go_wp2_with fail
      refine (sFieldOf a2 c2 l2 x2 nm _ (by omega) hcc2 hcm2 Hm2.out RV2.out).mono ?_
      rintro e v3 ⟨rfl, hbv3⟩
      have BV3 := Lib.hid (BV2.out.trans (hbv3.mono BV2.out.size))
      clear hbv3
      generalize fieldZ l2 x2 nm = fo
      unfold intV isV
      generalize fo.getD 0 = fz
      generalize fo.isSome = fb
      have fzz : (fz == fz) = true := beq_self_eq_true fz
      cases fb
      all_goals
        go_wp2_with fail
        go_ret
        exact ⟨rfl, BV3.out⟩
end Go.Proofs.Ytjbnabjfeepbeaa
