
/-
  What is proved: contracts of SameTypes, the program's and the model's. No condition beside what each theorem states.
-/
import Derived.Test.YtkbgkfmflieidaaSSame
import Derived.Test.YtkbgkfmflieidaaLaws3
import Derived.Test.YtkbgkfmflieidaaAt
namespace Go.Proofs.Ytkbgkfmflieidaa
open Go.ChangeShapes Go.WideShapes Go.ChangeAt Go.RowKit Go.Maps Go.WideMaps

open Classical in
noncomputable def simB (A B : List TypeD) (x y : Int) : Bool := decide (Sim A B x y)
theorem simB_true {A B : List TypeD} {x y : Int} (h : Sim A B x y) : simB A B x y = true := by unfold simB; simpa using h
theorem simB_false {A B : List TypeD} {x y : Int} (h : ¬ Sim A B x y) : simB A B x y = false := by unfold simB; simpa using h
theorem held_nil {A B : List TypeD} : Held A B [] := ⟨fun _ h => (by cases h), List.nodup_nil⟩

set_option maxHeartbeats 2000000 in
theorem sl3Same (A B : List TypeD) (hA : near A) (hB : near B) (a b : Option Addr) (ca cb : Nat) (x y : Int) (w : World) (hx : inTables A B (x, y)) (hra : Rows typeS Any w a A) (hrb : Rows typeS Any w b B) :
    Calls Try.prog 37 #[.slice a A.length ca, .int .i64 x, .slice b B.length cb, .int .i64 y] w fun e w' => e = .returned (.bool (simB A B x y)) ∧ Below w.heap.size w w' := by
  have Hx := Lib.hid hx
  have Ha := Lib.hid hra
  have Hb := Lib.hid hrb
  clear hx hra hrb
  go_enter Try.func37, Try.ntmps37
  go_wp2_with fail
  have hX := Box.new w 93 (boxS A B a b ca cb (.slice none 0 0))
  have hB0 : Below w.heap.size w (w.alloc (.cells (boxS A B a b ca cb (.slice none 0 0)) 93)) := (Below.refl _ _).alloc (Nat.le_refl _) _
  have conv : ∀ {c : Option Addr} {l : List TypeD}, Rows typeS Any w c l → Rows typeS (fun k => k ≠ w.heap.size ∧ k < w.heap.size + 1) (w.alloc (.cells (boxS A B a b ca cb (.slice none 0 0)) 93)) c l := fun h =>
    (Rows.mono (Q' := fun k => k ≠ w.heap.size ∧ k < w.heap.size + 1) h (fun k _ hk => ⟨by omega, by omega⟩)).keep (fun k _ hk => Below.heap_alloc w _ k hk) (by simp)
  refine (sSame A B hA hB a b ca cb w.heap.size (w.heap.size + 1) (by omega) 577 [] (.slice none 0 0) x y _ (by simp) held_nil Hx.out hX HeldV.nil (by simp) (conv Ha.out) (conv Hb.out)).mono ?_
  rintro e w1 hs
  have hov : ∀ {w1 : World}, OnlyH w.heap.size (.slice none 0 0) (w.alloc (.cells (boxS A B a b ca cb (.slice none 0 0)) 93)) w1 → Below w.heap.size w w1 := fun h => hB0.trans (h.below (Nat.le_refl _) (fun k hk => by cases hk) (by simp))
  rcases hs with ⟨rfl, L', v', h1, h2, _, _, _, h3⟩ | ⟨rfl, h1, h3⟩
  · have Hv := Lib.hid (simB_true (h1.sim h2))
    have B1 := Lib.hid (hov h3)
    clear h1 h2 h3 hov conv hX hB0
    go_wp2_with fail
    go_ret
    exact ⟨by rw [Hv.out]; rfl, B1.out⟩
  · have Hv := Lib.hid (simB_false h1)
    have B1 := Lib.hid (hov h3)
    clear h1 h3 hov conv hX hB0
    go_wp2_with fail
    go_ret
    exact ⟨by rw [Hv.out]; rfl, B1.out⟩

open Classical in
noncomputable def sameOk (A B : List TypeD) (x y : Int) : Bool := decide (atP A x ∧ atP B y)
open Classical in
noncomputable def sameA (A B : List TypeD) (x y : Int) : Bool := decide ((atP A x ∧ atP B y) ∧ Sim A B x y)
theorem same_out {A B : List TypeD} {x y : Int} (h : ¬ (atP A x ∧ atP B y)) : sameOk A B x y = false ∧ sameA A B x y = false := by
  unfold sameOk sameA
  simp only [decide_eq_false_iff_not]
  exact ⟨h, fun g => h g.1⟩
theorem same_in {A B : List TypeD} {x y : Int} (h : atP A x ∧ atP B y) : sameOk A B x y = true ∧ sameA A B x y = simB A B x y := by
  unfold sameOk sameA simB
  exact ⟨by simp only [decide_eq_true_eq]; exact h, by simp only [decide_eq_decide]; exact ⟨fun g => g.2, fun g => ⟨h, g⟩⟩⟩

set_option maxHeartbeats 4000000 in
theorem sSameTypes (a b : Option Addr) (ca cb : Nat) (A B : List TypeD) (x y : Int) (w : World) (hlA : A.length ≤ 1048576) (hcA : A.length ≤ ca) (hcA2 : ca ≤ maxLen) (hmA : ∀ t ∈ A, t.mod) (hra : Rows typeS Any w a A) (hlB : B.length ≤ 1048576) (hcB : B.length ≤ cb) (hcB2 : cb ≤ maxLen) (hmB : ∀ t ∈ B, t.mod) (hrb : Rows typeS Any w b B) :
    Calls Try.prog 13 #[.slice a A.length ca, .int .i64 x, .slice b B.length cb, .int .i64 y] w fun e w' => e = .returned (.tuple #[.bool (sameA A B x y), .bool (sameOk A B x y)]) ∧ Below w.heap.size w w' := by
  have Ha := Lib.hid hra
  have Hb := Lib.hid hrb
  have HmA := Lib.hid hmA
  have HmB := Lib.hid hmB
  clear hra hrb hmA hmB
  go_enter Try.func13, Try.ntmps13
  go_wp2_with fail
  refine (sl3At a ca A x w hlA hcA hcA2 HmA.out Ha.out).mono ?_
  rintro e w1 ⟨rfl, hb1⟩
  have B1 := Lib.hid hb1
  clear hb1
  by_cases hA : atP A x
  · have hq := atB_true hA
    have HA := Lib.hid hA
    clear hA
    generalize atB A x = q at *
    subst hq
    go_wp2_with fail
    refine (sl3At b cb B y w1 hlB hcB hcB2 HmB.out (Hb.out.below B1.out)).mono ?_
    rintro e w2 ⟨rfl, hb2⟩
    have B2 := Lib.hid (B1.out.trans (hb2.mono B1.out.size))
    clear hb2
    by_cases hB : atP B y
    · have hq := atB_true hB
      have HB := Lib.hid hB
      have Hv := Lib.hid (same_in ⟨HA.out, hB⟩)
      clear hB
      generalize atB B y = q at *
      subst hq
      go_wp2_with fail
      refine (sl3Same A B HA.out.1.1 HB.out.1.1 a b ca cb x y w2 ⟨HA.out.2, HB.out.2⟩ (Ha.out.below B2.out) (Hb.out.below B2.out)).mono ?_
      rintro e w3 ⟨rfl, hb3⟩
      have B3 := Lib.hid (B2.out.trans (hb3.mono B2.out.size))
      clear hb3
      rw [← Hv.out.2]
      go_wp2_with fail
      go_ret2
      exact ⟨by rw [Hv.out.1]; rfl, B3.out⟩
    · have hq := atB_false hB
      have Hv := Lib.hid (same_out (A := A) (B := B) (x := x) (y := y) (fun h => hB h.2))
      clear hB
      generalize atB B y = q at *
      subst hq
      go_wp2_with fail
      go_ret2
      exact ⟨by rw [Hv.out.1, Hv.out.2]; rfl, B2.out⟩
  · have hq := atB_false hA
    have Hv := Lib.hid (same_out (A := A) (B := B) (x := x) (y := y) (fun h => hA h.1))
    clear hA
    generalize atB A x = q at *
    subst hq
    go_wp2_with fail
    go_ret2
    exact ⟨by rw [Hv.out.1, Hv.out.2]; rfl, B1.out⟩

set_option maxHeartbeats 4000000 in
theorem iSameTypes (a b : Option Addr) (ca cb : Nat) (A B : List TypeD) (x y : Int) (w : World) (hlA : A.length ≤ 1048576) (hcA : A.length ≤ ca) (hcA2 : ca ≤ maxLen) (hmA : ∀ t ∈ A, t.mod) (hra : Rows typeS Any w a A) (hlB : B.length ≤ 1048576) (hcB : B.length ≤ cb) (hcB2 : cb ≤ maxLen) (hmB : ∀ t ∈ B, t.mod) (hrb : Rows typeS Any w b B) :
    Calls Try.prog 12 #[.slice a A.length ca, .int .i64 x, .slice b B.length cb, .int .i64 y] w fun e w' => e = .returned (.tuple #[.bool (sameA A B x y), .bool (sameOk A B x y)]) ∧ Below w.heap.size w w' := by
  have Ha := Lib.hid hra
  have Hb := Lib.hid hrb
  have HmA := Lib.hid hmA
  have HmB := Lib.hid hmB
  clear hra hrb hmA hmB
  go_enter Try.func12, Try.ntmps12
  go_wp2_with fail
  refine (iGoodTypes a ca A w hlA hcA hcA2 HmA.out Ha.out).mono ?_
  rintro e w1 ⟨rfl, hb1⟩
  have B1 := Lib.hid hb1
  clear hb1
  by_cases hgA : good A
  · have hq := goodB_true hgA
    have HgA := Lib.hid hgA
    clear hgA
    generalize goodB A = q at *
    subst hq
    go_wp2_with fail
    refine (iTypeNumber a ca A.length x _).mono ?_
    rintro e w2 ⟨rfl, rfl⟩
    by_cases hx : 0 ≤ x ∧ x < (A.length : Int)
    · have Hx := Lib.hid hx
      rw [decide_eq_true hx]
      clear hx
      go_wp2_with fail
      refine (iGoodTypes b cb B w1 hlB hcB hcB2 HmB.out (Hb.out.below B1.out)).mono ?_
      rintro e w2 ⟨rfl, hb2⟩
      have B2 := Lib.hid (B1.out.trans (hb2.mono B1.out.size))
      clear hb2
      by_cases hgB : good B
      · have hq := goodB_true hgB
        have HgB := Lib.hid hgB
        clear hgB
        generalize goodB B = q at *
        subst hq
        go_wp2_with fail
        refine (iTypeNumber b cb B.length y _).mono ?_
        rintro e w3 ⟨rfl, rfl⟩
        by_cases hy : 0 ≤ y ∧ y < (B.length : Int)
        · have Hv := Lib.hid (same_in (A := A) (B := B) (x := x) (y := y) ⟨⟨HgA.out, Hx.out⟩, HgB.out, hy⟩)
          have Hy := Lib.hid hy
          rw [decide_eq_true hy]
          clear hy
          have hM := BMap.made (k := 84) w2
          have hBM : Below w2.heap.size w2 ((w2.alloc (.map #[] 0)).alloc (.cells #[.slice a A.length ca, .slice b B.length cb, .map (some w2.heap.size)] 62)) := ((Below.refl _ _).alloc (Nat.le_refl _) _).alloc (by simp) _
          have conv : ∀ {c : Option Addr} {l : List TypeD}, Rows typeS Any w2 c l → Rows typeS (fun k => k ≠ w2.heap.size) ((w2.alloc (.map #[] 0)).alloc (.cells #[.slice a A.length ca, .slice b B.length cb, .map (some w2.heap.size)] 62)) c l := fun h =>
            (Rows.mono (Q' := fun k => k ≠ w2.heap.size) h (fun k _ hk => by omega)).keep (fun k _ hk => hBM.block k hk) hBM.size
          have hal := iAlike A B HgA.out.1 HgB.out.1 a b ca cb w2.heap.size 577 [] (fun _ => false) 0 x y _ (by simp) held_nil ⟨Hx.out, Hy.out⟩ (hM.alloc _) (Nat.zero_le _) (fun p q _ => ⟨fun h => (by cases h), fun h => (by cases h)⟩) (conv (Ha.out.below B2.out)) (conv (Hb.out.below B2.out))
          have hmm := @run_makeMap Try.prog
          have Hal := Lib.hid hal
          have HBM := Lib.hid hBM
          clear hM hBM conv hal
          go_wp2_with fail
          refine Hal.out.mono ?_
          rintro e w4 hs
          rcases hs with ⟨rfl, L', f', n', h1, h2, _, _, _, h3⟩ | ⟨rfl, h1, h3⟩
          · have Hs := Lib.hid (simB_true (h1.sim h2))
            have B4 := Lib.hid (B2.out.trans ((HBM.out.trans (h3.below (Nat.le_refl _) (by simp; omega))).mono B2.out.size))
            clear h1 h2 h3
            go_wp2_with fail
            go_ret2
            exact ⟨by rw [Hv.out.1, Hv.out.2, Hs.out]; rfl, B4.out⟩
          · have Hs := Lib.hid (simB_false h1)
            have B4 := Lib.hid (B2.out.trans ((HBM.out.trans (h3.below (Nat.le_refl _) (by simp; omega))).mono B2.out.size))
            clear h1 h3
            go_wp2_with fail
            go_ret2
            exact ⟨by rw [Hv.out.1, Hv.out.2, Hs.out]; rfl, B4.out⟩
        · have Hv := Lib.hid (same_out (A := A) (B := B) (x := x) (y := y) (fun h => hy h.2.2))
          rw [decide_eq_false hy]
          go_wp2_with fail
          go_ret2
          exact ⟨by rw [Hv.out.1, Hv.out.2]; rfl, B2.out⟩
      · have hq := goodB_false hgB
        have Hv := Lib.hid (same_out (A := A) (B := B) (x := x) (y := y) (fun h => hgB h.2.1))
        clear hgB
        generalize goodB B = q at *
        subst hq
        go_wp2_with fail
        go_ret2
        exact ⟨by rw [Hv.out.1, Hv.out.2]; rfl, B2.out⟩
    · have Hv := Lib.hid (same_out (A := A) (B := B) (x := x) (y := y) (fun h => hx h.1.2))
      rw [decide_eq_false hx]
      go_wp2_with fail
      go_ret2
      exact ⟨by rw [Hv.out.1, Hv.out.2]; rfl, B1.out⟩
  · have hq := goodB_false hgA
    have Hv := Lib.hid (same_out (A := A) (B := B) (x := x) (y := y) (fun h => hgA h.1.1))
    clear hgA
    generalize goodB A = q at *
    subst hq
    go_wp2_with fail
    go_ret2
    exact ⟨by rw [Hv.out.1, Hv.out.2]; rfl, B1.out⟩
end Go.Proofs.Ytkbgkfmflieidaa
