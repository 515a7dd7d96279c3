
/-
  What is proved: contracts of MayPut, the program's and the model's. No condition beside what each theorem states.
-/
import Derived.Test.YtnhdijkaakjdgaaPut
namespace Go.Proofs.Ytnhdijkaakjdgaa
open Go.ChangeShapes Go.WideShapes Go.ChangeAt Go.RowKit
set_option maxRecDepth 100000

abbrev waysC : Array Value := #[.func (.func 47) #[] #[], .func (.func 48) #[] #[], .func (.func 49) #[] #[], .func (.func 50) #[] #[]]
open Classical in
noncomputable def putB (l : List TypeD) (i j : Nat) (hi : i < l.length) (hj : j < l.length) : Bool := decide (putQ l i j hi hj)
theorem putB_true {l : List TypeD} {i j : Nat} {hi : i < l.length} {hj : j < l.length} (h : putQ l i j hi hj) : putB l i j hi hj = true := by unfold putB; simp only [decide_eq_true_eq]; exact h
theorem putB_false {l : List TypeD} {i j : Nat} {hi : i < l.length} {hj : j < l.length} (h : ¬ putQ l i j hi hj) : putB l i j hi hj = false := by unfold putB; simp only [decide_eq_false_iff_not]; exact h

set_option maxHeartbeats 8000000 in
theorem iPutF (a : Option Addr) (c : Nat) (l : List TypeD) (i j : Nat) (hi : i < l.length) (hj : j < l.length) (w : World) (hg : good l) (hr : Rows typeS Any w a l) :
    Calls Try.prog 22 #[.slice a l.length c, .int .i64 (i : Int), .int .i64 (j : Int)] w fun e w' => e = .returned (.bool (putB l i j hi hj)) ∧ Below w.heap.size w w' := by
  have h24 := hg.1.most
  have Hr := Lib.hid hr
  have Hg := Lib.hid hg
  clear hr hg
  obtain ⟨d, hd⟩ : ∃ d, putB l i j hi hj = d := ⟨_, rfl⟩
  rw [hd]
  have Hd := Lib.hid hd
  clear hd
  have X0 := Lib.hid (Box.new w 97 waysC)
  have B0 := Lib.hid ((Below.refl w.heap.size w).alloc (Nat.le_refl _) (.cells waysC 97))
  go_enter Try.func22, Try.ntmps22
  go_wp2_with fail
  go_loopw [13] (fun x wr => ∃ k : Nat, x = .int .i64 k ∧ k ≤ 4 ∧ (1 ≤ k → ¬ i = j) ∧ (2 ≤ k → ¬ (i : Int) ∈ chain l (j : Int)) ∧ (3 ≤ k → ¬ ptrQ l l[i] l[j]) ∧ (4 ≤ k → ¬ arrQ l[i] l[j]) ∧ Box wr w.heap.size 97 waysC ∧ Below w.heap.size w wr) (fun x _ => 4 - (intOf x).toNat)
  case atStart => exact ⟨0, rfl, by omega, fun h => absurd h (by omega), fun h => absurd h (by omega), fun h => absurd h (by omega), fun h => absurd h (by omega), X0.out, B0.out⟩
  case round =>
    obtain ⟨k, rfl, hk, n1, n2, n3, n4, hx, hbel⟩ := hrel
    have N1 := Lib.hid n1
    have N2 := Lib.hid n2
    have N3 := Lib.hid n3
    have N4 := Lib.hid n4
    have X := Lib.hid hx
    have Bl := Lib.hid hbel
    have R := Lib.hid (Hr.out.below hbel)
    clear n1 n2 n3 n4 hx hbel
    obtain ⟨wo, hwo⟩ : ∃ x, x = wr := ⟨_, rfl⟩
    subst hwo
    rcases (show k = 0 ∨ k = 1 ∨ k = 2 ∨ k = 3 ∨ k = 4 by omega) with rfl | rfl | rfl | rfl | rfl
    · have c0 := X.out.cell 0
      simp at c0
      go_wp2_with fail
      refine (iAreSame _ _ _ _).mono ?_
      rintro e w1 ⟨rfl, rfl⟩
      by_cases h : i = j
      · have Hv := Lib.hid (show d = true by rw [← Hd.out]; exact putB_true (.inl h))
        rw [decide_eq_true (show (i : Int) = (j : Int) by omega)]
        clear h
        go_wp2_with fail
        go_ret
        exact ⟨by rw [Hv.out]; rfl, Bl.out⟩
      · rw [decide_eq_false (show ¬ (i : Int) = (j : Int) by omega)]
        have H1 := Lib.hid h
        clear h
        go_wp2_with fail
        exact ⟨⟨1, rfl, by omega, fun _ => H1.out, fun h => absurd h (by omega), fun h => absurd h (by omega), fun h => absurd h (by omega), X.out, Bl.out⟩, by simp [intOf]⟩
    · have c0 := X.out.cell 1
      simp at c0
      have H1 := Lib.hid (N1.out (by omega))
      go_wp2_with fail
      refine (iAreRecords a c l i j hi hj _ Hg.out R.out).mono ?_
      rintro e w1 ⟨rfl, hb1⟩
      have X1 := Lib.hid (X.out.below hb1 X.out.lt)
      have B1 := Lib.hid (Bl.out.trans (hb1.mono Bl.out.size))
      clear hb1
      by_cases h : (i : Int) ∈ chain l (j : Int)
      · have Hv := Lib.hid (show d = true by rw [← Hd.out]; exact putB_true (.inr (.inl h)))
        rw [decide_eq_true h]
        clear h
        go_wp2_with fail
        go_ret
        exact ⟨by rw [Hv.out]; rfl, B1.out⟩
      · rw [decide_eq_false h]
        have H2 := Lib.hid h
        clear h
        go_wp2_with fail
        exact ⟨⟨2, rfl, by omega, fun _ => H1.out, fun _ => H2.out, fun h => absurd h (by omega), fun h => absurd h (by omega), X1.out, B1.out⟩, by simp [intOf]⟩
    · have c0 := X.out.cell 2
      simp at c0
      have H1 := Lib.hid (N1.out (by omega))
      have H2 := Lib.hid (N2.out (by omega))
      go_wp2_with fail
      refine (iArePointers a c l i j hi hj _ Hg.out R.out).mono ?_
      rintro e w1 ⟨q, rfl, hq, hb1⟩
      have X1 := Lib.hid (X.out.below hb1 X.out.lt)
      have B1 := Lib.hid (Bl.out.trans (hb1.mono Bl.out.size))
      clear hb1
      cases q
      · have H3 := Lib.hid (show ¬ ptrQ l l[i] l[j] from fun h => by have := hq.2 h; cases this)
        clear hq
        go_wp2_with fail
        exact ⟨⟨3, rfl, by omega, fun _ => H1.out, fun _ => H2.out, fun _ => H3.out, fun h => absurd h (by omega), X1.out, B1.out⟩, by simp [intOf]⟩
      · have Hv := Lib.hid (show d = true by rw [← Hd.out]; exact putB_true (.inr (.inr (.inl (hq.1 rfl)))))
        clear hq
        go_wp2_with fail
        go_ret
        exact ⟨by rw [Hv.out]; rfl, B1.out⟩
    · have c0 := X.out.cell 3
      simp at c0
      have H1 := Lib.hid (N1.out (by omega))
      have H2 := Lib.hid (N2.out (by omega))
      have H3 := Lib.hid (N3.out (by omega))
      go_wp2_with fail
      refine (iAreArrays a c l i j hi hj _ R.out).mono ?_
      rintro e w1 ⟨q, rfl, hq, hb1⟩
      have X1 := Lib.hid (X.out.below hb1 X.out.lt)
      have B1 := Lib.hid (Bl.out.trans (hb1.mono Bl.out.size))
      clear hb1
      cases q
      · have H4 := Lib.hid (show ¬ arrQ l[i] l[j] from fun h => by have := hq.2 h; cases this)
        clear hq
        go_wp2_with fail
        exact ⟨⟨4, rfl, by omega, fun _ => H1.out, fun _ => H2.out, fun _ => H3.out, fun _ => H4.out, X1.out, B1.out⟩, by simp [intOf]⟩
      · have Hv := Lib.hid (show d = true by rw [← Hd.out]; exact putB_true (.inr (.inr (.inr (hq.1 rfl)))))
        clear hq
        go_wp2_with fail
        go_ret
        exact ⟨by rw [Hv.out]; rfl, B1.out⟩
    · have Hv := Lib.hid (show d = false by
        rw [← Hd.out]
        refine putB_false (fun h => ?_)
        rcases h with h | h | h | h
        · exact N1.out (by omega) h
        · exact N2.out (by omega) h
        · exact N3.out (by omega) h
        · exact N4.out (by omega) h)
      go_wp2_with fail
      go_ret
      exact ⟨by rw [Hv.out]; rfl, Bl.out⟩

def mayP (l : List TypeD) (x y : Int) : Prop := good l ∧ (0 ≤ x ∧ x < (l.length : Int)) ∧ 0 ≤ y ∧ y < (l.length : Int)
open Classical in
noncomputable def mayOk (l : List TypeD) (x y : Int) : Bool := decide (mayP l x y)
open Classical in
noncomputable def mayA (l : List TypeD) (x y : Int) : Bool := decide (good l ∧ ∃ (i j : Nat) (hi : i < l.length) (hj : j < l.length), x = (i : Int) ∧ y = (j : Int) ∧ putQ l i j hi hj)
theorem may_in {l : List TypeD} {i j : Nat} (hg : good l) (hi : i < l.length) (hj : j < l.length) : mayOk l (i : Int) (j : Int) = true ∧ mayA l (i : Int) (j : Int) = putB l i j hi hj := by
  refine ⟨by unfold mayOk; simp only [decide_eq_true_eq]; exact ⟨hg, by omega, by omega⟩, ?_⟩
  by_cases h : putQ l i j hi hj
  · rw [putB_true h]
    unfold mayA
    simp only [decide_eq_true_eq]
    exact ⟨hg, i, j, hi, hj, rfl, rfl, h⟩
  · rw [putB_false h]
    unfold mayA
    simp only [decide_eq_false_iff_not]
    rintro ⟨_, i', j', hi', hj', e1, e2, hq⟩
    have e1 : i = i' := by omega
    have e2 : j = j' := by omega
    subst e1 e2
    exact h hq
theorem may_out {l : List TypeD} {x y : Int} (h : ¬ mayP l x y) : mayOk l x y = false ∧ mayA l x y = false := by
  refine ⟨by unfold mayOk; simp only [decide_eq_false_iff_not]; exact h, ?_⟩
  unfold mayA
  simp only [decide_eq_false_iff_not]
  rintro ⟨hg, i', j', hi', hj', e1, e2, hq⟩
  exact h ⟨hg, by omega, by omega⟩

set_option maxHeartbeats 8000000 in
theorem iMayPut (a : Option Addr) (c : Nat) (l : List TypeD) (x y : Int) (w : World) (hl : l.length ≤ 1048576) (hc : l.length ≤ c) (hc2 : c ≤ maxLen) (hm : ∀ t ∈ l, t.mod) (hr : Rows typeS Any w a l) :
    Calls Try.prog 8 #[.slice a l.length c, .int .i64 x, .int .i64 y] w fun e w' => e = .returned (.tuple #[.bool (mayA l x y), .bool (mayOk l x y)]) ∧ Below w.heap.size w w' := by
  have Hr := Lib.hid hr
  have Hm := Lib.hid hm
  clear hr hm
  go_enter Try.func8, Try.ntmps8
  go_wp2_with fail
  refine (iGoodTypes a c l w hl hc hc2 Hm.out Hr.out).mono ?_
  rintro e w1 ⟨rfl, hb1⟩
  have B1 := Lib.hid hb1
  have R1 := Lib.hid (Hr.out.below hb1)
  clear hb1
  by_cases hg : good l
  · have hq := goodB_true hg
    have Hg := Lib.hid hg
    clear hg
    generalize goodB l = q at *
    subst hq
    by_cases hx : 0 ≤ x ∧ x < (l.length : Int)
    · by_cases hy : 0 ≤ y ∧ y < (l.length : Int)
      · obtain ⟨i, rfl⟩ := Int.eq_ofNat_of_zero_le hx.1
        obtain ⟨j, rfl⟩ := Int.eq_ofNat_of_zero_le hy.1
        have hi : i < l.length := by omega
        have hj : j < l.length := by omega
        have Hv := Lib.hid (may_in Hg.out hi hj)
        have dx := decide_eq_true hx
        have dy := decide_eq_true hy
        clear hx hy
        go_wp2_with fail
        refine (iTypeNumber _ _ _ _ _).mono ?_
        rintro e w2 ⟨rfl, rfl⟩
        rw [dx]
        go_wp2_with fail
        refine (iTypeNumber _ _ _ _ _).mono ?_
        rintro e w2 ⟨rfl, rfl⟩
        rw [dy]
        clear dx dy
        go_wp2_with fail
        refine (iPutF a c l i j hi hj _ Hg.out R1.out).mono ?_
        rintro e w2 ⟨rfl, hb2⟩
        have B2 := Lib.hid (B1.out.trans (hb2.mono B1.out.size))
        clear hb2
        rw [← Hv.out.2]
        go_wp2_with fail
        go_ret2
        exact ⟨by rw [Hv.out.1]; rfl, B2.out⟩
      · have Hv := Lib.hid (may_out (l := l) (x := x) (y := y) (fun h => hy h.2.2))
        have dx := decide_eq_true hx
        have dy := decide_eq_false hy
        clear hx hy
        go_wp2_with fail
        refine (iTypeNumber _ _ _ _ _).mono ?_
        rintro e w2 ⟨rfl, rfl⟩
        rw [dx]
        go_wp2_with fail
        refine (iTypeNumber _ _ _ _ _).mono ?_
        rintro e w2 ⟨rfl, rfl⟩
        rw [dy]
        clear dx dy
        go_wp2_with fail
        go_ret2
        exact ⟨by rw [Hv.out.1, Hv.out.2]; rfl, B1.out⟩
    · have Hv := Lib.hid (may_out (l := l) (x := x) (y := y) (fun h => hx h.2.1))
      have dx := decide_eq_false hx
      clear hx
      go_wp2_with fail
      refine (iTypeNumber _ _ _ _ _).mono ?_
      rintro e w2 ⟨rfl, rfl⟩
      rw [dx]
      clear dx
      go_wp2_with fail
      go_ret2
      exact ⟨by rw [Hv.out.1, Hv.out.2]; rfl, B1.out⟩
  · have hq := goodB_false hg
    have Hv := Lib.hid (may_out (l := l) (x := x) (y := y) (fun h => hg h.1))
    clear hg
    generalize goodB l = q at *
    subst hq
    go_wp2_with fail
    go_ret2
    exact ⟨by rw [Hv.out.1, Hv.out.2]; rfl, B1.out⟩

abbrev typeV (t : TypeD) (a : Option Addr) (c : Nat) : Array Value := #[.int .i64 t.fKind, .int .i64 t.fLong, .int .i64 t.fBase, .slice a t.fFields.length c, .string t.fOwner, .string t.fName]

set_option maxHeartbeats 16000000 in
theorem sl10Put (a : Option Addr) (c : Nat) (l : List TypeD) (i j : Nat) (hi : i < l.length) (hj : j < l.length) (w : World) (hg : good l) (hr : Rows typeS Any w a l) :
    Calls Try.prog 25 #[.slice a l.length c, .int .i64 (i : Int), .int .i64 (j : Int)] w fun e w' => e = .returned (.bool (putB l i j hi hj)) ∧ Below w.heap.size w w' := by
  have h24 := hg.1.most
  have Hr := Lib.hid hr
  have Hg := Lib.hid hg
  obtain ⟨d, hd⟩ : ∃ d, putB l i j hi hj = d := ⟨_, rfl⟩
  rw [hd]
  have Hd := Lib.hid hd
  clear hd
  obtain ⟨ab, ao, ta3, tc3, rfl, al, _, ea0, ea1, ea2, ea3, ea4, ea5, _⟩ := type_at hr hi
  obtain ⟨bb, bo, ub3, uc3, e, bl, _, eb0, eb1, eb2, eb3, eb4, eb5, _⟩ := type_at hr hj
  cases e
  have Ho := Lib.hid (fun (h6 : l[i].fKind = 6) => hg.1.lead hi h6)
  have Hp := Lib.hid (fun (h6 : l[j].fKind = 6) => hg.1.lead hj h6)
  have Hki := Lib.hid (kindZ_in hi)
  have Hkj := Lib.hid (kindZ_in hj)
  have Hc := Lib.hid (fun (h : (i : Int) ∈ chain l (j : Int)) => show l[i].fKind = 5 ∧ l[j].fKind = 5 by have := chain_mem h; rw [kindZ_in hi, kindZ_in hj] at this; exact this)
  have Hq := Lib.hid (show d = true ↔ (i = j ∨ (i : Int) ∈ chain l (j : Int) ∨ ptrQ l l[i] l[j] ∨ arrQ l[i] l[j]) by
    rw [← Hd.out]
    by_cases h : putQ l i j hi hj
    · rw [putB_true h]; exact ⟨fun _ => h, fun _ => rfl⟩
    · rw [putB_false h]; exact ⟨fun e => (by cases e), fun e => absurd e h⟩)
  have Hin := Lib.hid (fun (x : Nat) (hx : x < l.length) (W : World) (hW : Below w.heap.size w W) => type_cells hr hx hW)
  clear hr hg Hd
  generalize l[i] = t at *
  generalize l[j] = u at *
  have T1 := Lib.hid (((Box.new w 31 (typeV t ta3 tc3)).alloc (.cells (typeV u ub3 uc3) 31)).drew)
  have U1 := Lib.hid ((Box.new' (w.alloc (.cells (typeV t ta3 tc3) 31)) 31 (typeV u ub3 uc3) (g := w.heap.size + 1) (by simp)).drew)
  have U2 := Lib.hid (((Box.new w 31 (typeV u ub3 uc3)).alloc (.cells (typeV t ta3 tc3) 31)).drew)
  have T2 := Lib.hid ((Box.new' (w.alloc (.cells (typeV u ub3 uc3) 31)) 31 (typeV t ta3 tc3) (g := w.heap.size + 1) (by simp)).drew)
  have D1 := Lib.hid ((((Below.refl w.heap.size w).alloc (Nat.le_refl _) (.cells (typeV t ta3 tc3) 31)).alloc (by simp) (.cells (typeV u ub3 uc3) 31)).drew)
  have D2 := Lib.hid ((((Below.refl w.heap.size w).alloc (Nat.le_refl _) (.cells (typeV u ub3 uc3) 31)).alloc (by simp) (.cells (typeV t ta3 tc3) 31)).drew)
  have HR := Lib.hid (fun W (hW : Below w.heap.size w W) => Hr.out.below hW)
  go_enter Try.func25, Try.ntmps25
  go_wp2_with fail
  apply once
  case rest =>
    intro key
    go_region
    all_goals
      first
        | (generalize hw5 : World.drew (World.alloc (World.alloc w (.cells #[.int .i64 t.fKind, .int .i64 t.fLong, .int .i64 t.fBase, .slice ta3 t.fFields.length tc3, .string t.fOwner, .string t.fName] 31)) (.cells #[.int .i64 u.fKind, .int .i64 u.fLong, .int .i64 u.fBase, .slice ub3 u.fFields.length uc3, .string u.fOwner, .string u.fName] 31)) = w5
           refine (show Exit.then _ _ _ _ w5 from ?_)
           have D5 : Hid (Below w.heap.size w w5) := Lib.hid (hw5 ▸ D1.out)
           obtain ⟨gu, hgu⟩ : ∃ n, n = w.heap.size + 1 := ⟨_, rfl⟩
           rw [← hgu]
           obtain ⟨gt, hgt⟩ : ∃ n, n = w.heap.size := ⟨_, rfl⟩
           rw [show Value.pointer (some (⟨w.heap.size, 0, none⟩ : Addr)) = .pointer (some ⟨gt, 0, none⟩) by rw [hgt]]
           have T5 : Hid (Box w5 gt 31 (typeV t ta3 tc3)) := Lib.hid (by rw [hgt]; exact hw5 ▸ T1.out)
           have U5 : Hid (Box w5 gu 31 (typeV u ub3 uc3)) := Lib.hid (by rw [hgu]; exact hw5 ▸ U1.out)
           clear hw5 hgt hgu)
        | (generalize hw5 : World.drew (World.alloc (World.alloc w (.cells #[.int .i64 u.fKind, .int .i64 u.fLong, .int .i64 u.fBase, .slice ub3 u.fFields.length uc3, .string u.fOwner, .string u.fName] 31)) (.cells #[.int .i64 t.fKind, .int .i64 t.fLong, .int .i64 t.fBase, .slice ta3 t.fFields.length tc3, .string t.fOwner, .string t.fName] 31)) = w5
           have D5 : Hid (Below w.heap.size w w5) := Lib.hid (hw5 ▸ D2.out)
           obtain ⟨gt, hgt⟩ : ∃ n, n = w.heap.size + 1 := ⟨_, rfl⟩
           rw [← hgt]
           obtain ⟨gu, hgu⟩ : ∃ n, n = w.heap.size := ⟨_, rfl⟩
           rw [show Value.pointer (some (⟨w.heap.size, 0, none⟩ : Addr)) = .pointer (some ⟨gu, 0, none⟩) by rw [hgu]]
           have T5 : Hid (Box w5 gt 31 (typeV t ta3 tc3)) := Lib.hid (by rw [hgt]; exact hw5 ▸ T2.out)
           have U5 : Hid (Box w5 gu 31 (typeV u ub3 uc3)) := Lib.hid (by rw [hgu]; exact hw5 ▸ U2.out)
           clear hw5 hgt hgu)
      revert U5
      revert T5
      revert D5
      revert w5
      revert gu
      revert gt
      exact key
  case heavy =>
    intro gt gu w5 D5 T5 U5
    as_aux_lemma =>
      have t0 := T5.out.cell 0
      have t1 := T5.out.cell 1
      have t2 := T5.out.cell 2
      have u0 := U5.out.cell 0
      have u1 := U5.out.cell 1
      have u2 := U5.out.cell 2
      have R5 := Lib.hid (HR.out w5 D5.out)
      simp at t0 t1 t2 u0 u1 u2
      clear ea0 ea1 ea2 ea3 ea4 ea5 eb0 eb1 eb2 eb3 eb4 eb5 T1 T2 U1 U2 D1 D2
      by_cases hij : i = j
      · have Hv := Lib.hid (Hq.out.2 (.inl hij))
        have k1 : ((i : Int) == (j : Int)) = true := beq_iff_eq.2 (by omega)
        clear hij
        go_wp2_with fail
        go_ret
        exact ⟨by rw [Hv.out]; rfl, D5.out⟩
      have k1 : ((i : Int) == (j : Int)) = false := beq_eq_false_iff_ne.2 (by omega)
      have Hij := Lib.hid hij
      clear hij
      by_cases hk : t.fKind = u.fKind
      · have k2 : (t.fKind != u.fKind) = false := by rw [bne_eq_false_iff_eq]; exact hk
        by_cases h5 : t.fKind = 5
        · have k3 : (t.fKind == 5) = true := beq_iff_eq.2 h5
          have Hx := Lib.hid (show kindZ l (j : Int) = 5 by rw [Hkj.out, ← hk]; exact h5)
          have Hv := Lib.hid (show decide ((i : Int) ∈ chain l (j : Int)) = d by
            rw [Bool.eq_iff_iff, decide_eq_true_eq, Hq.out]
            refine ⟨fun h => .inr (.inl h), fun h => ?_⟩
            rcases h with h | h | h | h
            · exact absurd h Hij.out
            · exact h
            · have := h.1; omega
            · have := h.1; omega)
          clear hk h5
          go_wp2_with fail
          refine (sl3Extends _ c l j i w5 Hg.out Hx.out R5.out).mono ?_
          rintro e w6 ⟨rfl, rfl⟩
          rw [Hv.out]
          go_wp2_with fail
          go_ret
          exact ⟨rfl, D5.out⟩
        have k3 : (t.fKind == 5) = false := beq_eq_false_iff_ne.2 h5
        have Hnc := Lib.hid (show ¬ (i : Int) ∈ chain l (j : Int) from fun h => h5 (Hc.out h).1)
        by_cases h6 : t.fKind = 6
        · have k4 : (t.fKind == 6) = true := beq_iff_eq.2 h6
          have ht := Ho.out h6
          have hu := Hp.out (by omega)
          have hrt := kindZ_range (l := l) (x := t.fBase) (by omega)
          have hru := kindZ_range (l := l) (x := u.fBase) (by omega)
          have Hqd := Lib.hid (show d = true ↔ (t.fBase = u.fBase ∨ t.fBase ∈ chain l u.fBase) by
            rw [Hq.out]
            refine ⟨fun h => ?_, fun h => .inr (.inr (.inl ⟨h6, by omega, h⟩))⟩
            rcases h with h | h | h | h
            · exact absurd h Hij.out
            · exact absurd h Hnc.out
            · exact h.2.2
            · have := h.1; omega)
          clear hk h5 h6 ht hu
          by_cases hb : t.fBase = u.fBase
          · have k5 : (t.fBase == u.fBase) = true := beq_iff_eq.2 hb
            have Hv := Lib.hid (Hqd.out.2 (.inl hb))
            clear hb
            go_wp2_with fail
            go_ret
            exact ⟨by rw [Hv.out]; rfl, D5.out⟩
          have k5 : (t.fBase == u.fBase) = false := beq_eq_false_iff_ne.2 hb
          obtain ⟨x, hx⟩ : ∃ x : Nat, t.fBase = (x : Int) := Int.eq_ofNat_of_zero_le hrt.1
          obtain ⟨y, hy⟩ : ∃ y : Nat, u.fBase = (y : Int) := Int.eq_ofNat_of_zero_le hru.1
          have hxl : x < l.length := by omega
          have hyl : y < l.length := by omega
          obtain ⟨_, _, _, _, ex, _, x0, _⟩ := Hin.out x hxl w5 D5.out
          cases ex
          obtain ⟨_, _, _, _, ey, _, y0, _⟩ := Hin.out y hyl w5 D5.out
          cases ey
          have Hb := Lib.hid hb
          have Hkx := Lib.hid (kindZ_in hxl)
          have Hky := Lib.hid (kindZ_in hyl)
          rw [hx, hy] at Hqd Hb k5
          rw [hx] at t2
          rw [hy] at u2
          have Ht2 := Lib.hid t2
          clear hrt hru hb
          generalize l[x] = tx at *
          generalize l[y] = ty at *
          by_cases hx5 : tx.fKind = 5
          · have k6 : (tx.fKind == 5) = true := beq_iff_eq.2 hx5
            by_cases hy5 : ty.fKind = 5
            · have k7 : (ty.fKind == 5) = true := beq_iff_eq.2 hy5
              have Hx := Lib.hid (show kindZ l (y : Int) = 5 by rw [Hky.out]; exact hy5)
              have Hv := Lib.hid (show decide ((x : Int) ∈ chain l (y : Int)) = d by
                rw [Bool.eq_iff_iff, decide_eq_true_eq, Hqd.out]
                exact ⟨.inr, fun h => h.resolve_left Hb.out⟩)
              clear hx5 hy5 hx hy
              go_wp2_with fail
              refine (sl3Extends _ c l y x w5 Hg.out Hx.out R5.out).mono ?_
              rintro e w6 ⟨rfl, rfl⟩
              rw [Hv.out]
              go_wp2_with fail
              go_ret
              exact ⟨rfl, D5.out⟩
            · have k7 : (ty.fKind == 5) = false := beq_eq_false_iff_ne.2 hy5
              have Hv := Lib.hid (show d = false by
                rw [Bool.eq_false_iff, ne_eq, Hqd.out]
                rintro (h | h)
                · exact Hb.out h
                · exact hy5 (by rw [← Hky.out]; exact (chain_mem h).2))
              clear hx5 hy5 hx hy
              go_wp2_with fail
              go_ret
              exact ⟨by rw [Hv.out]; rfl, D5.out⟩
          · have k6 : (tx.fKind == 5) = false := beq_eq_false_iff_ne.2 hx5
            have Hv := Lib.hid (show d = false by
              rw [Bool.eq_false_iff, ne_eq, Hqd.out]
              rintro (h | h)
              · exact Hb.out h
              · exact hx5 (by rw [← Hkx.out]; exact (chain_mem h).1))
            clear hx5 hx hy
            go_wp2_with fail
            go_ret
            exact ⟨by rw [Hv.out]; rfl, D5.out⟩
        have k4 : (t.fKind == 6) = false := beq_eq_false_iff_ne.2 h6
        by_cases h4 : t.fKind = 4
        · have k8 : (t.fKind == 4) = true := beq_iff_eq.2 h4
          have Hqd := Lib.hid (show d = true ↔ (t.fLong = u.fLong ∧ t.fBase = u.fBase) by
            rw [Hq.out]
            refine ⟨fun h => ?_, fun h => .inr (.inr (.inr ⟨h4, by omega, h⟩))⟩
            rcases h with h | h | h | h
            · exact absurd h Hij.out
            · exact absurd h Hnc.out
            · have := h.1; omega
            · exact h.2.2)
          clear hk h5 h6 h4
          by_cases hl : t.fLong = u.fLong
          · have k9 : (t.fLong == u.fLong) = true := beq_iff_eq.2 hl
            by_cases hb : t.fBase = u.fBase
            · have k10 : (t.fBase == u.fBase) = true := beq_iff_eq.2 hb
              have Hv := Lib.hid (Hqd.out.2 ⟨hl, hb⟩)
              clear hl hb
              go_wp2_with fail
              go_ret
              exact ⟨by rw [Hv.out]; rfl, D5.out⟩
            · have k10 : (t.fBase == u.fBase) = false := beq_eq_false_iff_ne.2 hb
              have Hv := Lib.hid (show d = false by rw [Bool.eq_false_iff, ne_eq, Hqd.out]; exact fun h => hb h.2)
              clear hl hb
              go_wp2_with fail
              go_ret
              exact ⟨by rw [Hv.out]; rfl, D5.out⟩
          · have k9 : (t.fLong == u.fLong) = false := beq_eq_false_iff_ne.2 hl
            have Hv := Lib.hid (show d = false by rw [Bool.eq_false_iff, ne_eq, Hqd.out]; exact fun h => hl h.1)
            clear hl
            go_wp2_with fail
            go_ret
            exact ⟨by rw [Hv.out]; rfl, D5.out⟩
        have k8 : (t.fKind == 4) = false := beq_eq_false_iff_ne.2 h4
        have Hv := Lib.hid (show d = false by
          rw [Bool.eq_false_iff, ne_eq, Hq.out]
          rintro (h | h | h | h)
          · exact Hij.out h
          · exact Hnc.out h
          · exact h6 h.1
          · exact h4 h.1)
        clear hk h5 h6 h4
        go_wp2_with fail
        go_ret
        exact ⟨by rw [Hv.out]; rfl, D5.out⟩
      · have k2 : (t.fKind != u.fKind) = true := by rw [bne_iff_ne]; exact hk
        have Hv := Lib.hid (show d = false by
          rw [Bool.eq_false_iff, ne_eq, Hq.out]
          rintro (h | h | h | h)
          · exact Hij.out h
          · have := Hc.out h; omega
          · have h1 := h.1; have h2 := h.2.1; omega
          · have h1 := h.1; have h2 := h.2.1; omega)
        clear hk
        go_wp2_with fail
        go_ret
        exact ⟨by rw [Hv.out]; rfl, D5.out⟩

set_option maxHeartbeats 8000000 in
theorem sMayPut (a : Option Addr) (c : Nat) (l : List TypeD) (x y : Int) (w : World) (hl : l.length ≤ 1048576) (hc : l.length ≤ c) (hc2 : c ≤ maxLen) (hm : ∀ t ∈ l, t.mod) (hr : Rows typeS Any w a l) :
    Calls Try.prog 9 #[.slice a l.length c, .int .i64 x, .int .i64 y] w fun e w' => e = .returned (.tuple #[.bool (mayA l x y), .bool (mayOk l x y)]) ∧ Below w.heap.size w w' := by
  have Hr := Lib.hid hr
  have Hm := Lib.hid hm
  clear hr hm
  go_enter Try.func9, Try.ntmps9
  go_wp2_with fail
  refine (sl3At a c l x w hl hc hc2 Hm.out Hr.out).mono ?_
  rintro e w1 ⟨rfl, hb1⟩
  have B1 := Lib.hid hb1
  have R1 := Lib.hid (Hr.out.below hb1)
  clear hb1
  by_cases hx : atP l x
  · rw [atB_true hx]
    have Hg := Lib.hid hx.1
    by_cases hy : 0 ≤ y ∧ y < (l.length : Int)
    · obtain ⟨i, rfl⟩ := Int.eq_ofNat_of_zero_le hx.2.1
      obtain ⟨j, rfl⟩ := Int.eq_ofNat_of_zero_le hy.1
      have hi : i < l.length := by have := hx.2.2; omega
      have hj : j < l.length := by omega
      have Hv := Lib.hid (may_in Hg.out hi hj)
      clear hx
      go_wp2_with fail
      refine (sIn_yes _ _ _ _ (by omega) (by omega)).mono ?_
      rintro e w2 ⟨rfl, rfl⟩
      clear hy
      go_wp2_with fail
      refine (sl10Put a c l i j hi hj _ Hg.out R1.out).mono ?_
      rintro e w2 ⟨rfl, hb2⟩
      have B2 := Lib.hid (B1.out.trans (hb2.mono B1.out.size))
      clear hb2
      rw [← Hv.out.2]
      go_wp2_with fail
      go_ret2
      exact ⟨by rw [Hv.out.1]; rfl, B2.out⟩
    · have Hv := Lib.hid (may_out (l := l) (x := x) (y := y) (fun h => hy h.2.2))
      clear hx
      go_wp2_with fail
      refine (sIn_no _ _ _ _ (by omega)).mono ?_
      rintro e w2 ⟨rfl, rfl⟩
      go_wp2_with fail
      go_ret2
      exact ⟨by rw [Hv.out.1, Hv.out.2]; rfl, B1.out⟩
  · rw [atB_false hx]
    have Hv := Lib.hid (may_out (l := l) (x := x) (y := y) (fun h => hx ⟨h.1, h.2.1⟩))
    clear hx
    go_wp2_with fail
    go_ret2
    exact ⟨by rw [Hv.out.1, Hv.out.2]; rfl, B1.out⟩
end Go.Proofs.Ytnhdijkaakjdgaa
