
/-
  What is proved: contracts of SizeOf, the program's and the model's. No condition beside what each theorem states.
-/
import Derived.Test.YtjbnabjfeepbeaaSSize
import Derived.Test.YtjbnabjfeepbeaaAt
namespace Go.Proofs.Ytjbnabjfeepbeaa
open Go.ChangeShapes Go.WideShapes Go.ChangeAt Go.RowKit Go.Maps Go.WideMaps

def sizeP (l : List TypeD) (x : Int) : Prop := atP l x ∧ sizeS l x ≤ 1000000000
open Classical in
noncomputable def sizeB (l : List TypeD) (x : Int) : Bool := decide (sizeP l x)
open Classical in
noncomputable def sizeA (l : List TypeD) (x : Int) : Int := if sizeP l x then sizeS l x else 0
theorem size_in {l : List TypeD} {x : Int} (h : sizeP l x) : sizeB l x = true ∧ sizeA l x = sizeS l x := ⟨by unfold sizeB; simpa using h, if_pos h⟩
theorem size_out {l : List TypeD} {x : Int} (h : ¬ sizeP l x) : sizeB l x = false ∧ sizeA l x = 0 := ⟨by unfold sizeB; simpa using h, if_neg h⟩

set_option maxHeartbeats 4000000 in
theorem sSizeOf (a : Option Addr) (c : Nat) (l : List TypeD) (x : Int) (w : World) (hl : l.length ≤ 1048576) (hc : l.length ≤ c) (hc2 : c ≤ maxLen) (hm : ∀ t ∈ l, t.mod) (hr : Rows typeS Any w a l) :
    Calls Try.prog 13 #[.slice a l.length c, .int .i64 x] w fun e w' => e = .returned (.tuple #[.int .i64 (sizeA l x), .bool (sizeB l x)]) ∧ Below w.heap.size w w' := by
  have Hr := Lib.hid hr
  have Hm := Lib.hid hm
  clear hr hm
  go_enter Try.func13, Try.ntmps13
  go_wp2_with fail
  refine (sl3At a c l x w hl hc hc2 Hm.out Hr.out).mono ?_
  rintro e w1 ⟨rfl, hb1⟩
  have B1 := Lib.hid hb1
  clear hb1
  by_cases hA : atP l x
  · have hq := atB_true hA
    obtain ⟨n, rfl⟩ := Int.eq_ofNat_of_zero_le hA.2.1
    have HA := Lib.hid hA
    have hn : n < l.length := by have := hA.2.2; omega
    clear hA
    generalize atB l (n : Int) = q at *
    subst hq
    go_wp2_with fail
    refine (sl3Size l HA.out.1 a c n hn w1 (Hr.out.below B1.out)).mono ?_
    rintro e w2 ⟨rfl, hb2⟩
    have B2 := Lib.hid (B1.out.trans (hb2.mono B1.out.size))
    clear hb2
    by_cases hs : sizeS l (n : Int) ≤ 1000000000
    · have Hv := Lib.hid (size_in ⟨HA.out, hs⟩)
      obtain ⟨S, hS⟩ : ∃ S, sizeS l (n : Int) = S := ⟨_, rfl⟩
      have HS := Lib.hid hS
      rw [hS] at hs
      rw [hS]
      clear hS
      go_wp2_with fail
      refine (sl3Size l HA.out.1 a c n hn w2 (Hr.out.below B2.out)).mono ?_
      rintro e w3 ⟨rfl, hb3⟩
      have B3 := Lib.hid (B2.out.trans (hb3.mono B2.out.size))
      clear hb3
      go_wp2_with fail
      go_ret2
      exact ⟨by rw [Hv.out.1, Hv.out.2]; rfl, B3.out⟩
    · have Hv := Lib.hid (size_out (l := l) (x := (n : Int)) (fun h => hs h.2))
      obtain ⟨S, hS⟩ : ∃ S, sizeS l (n : Int) = S := ⟨_, rfl⟩
      rw [hS] at hs
      rw [hS]
      clear hS
      go_wp2_with fail
      go_ret2
      exact ⟨by rw [Hv.out.1, Hv.out.2]; rfl, B2.out⟩
  · have hq := atB_false hA
    have Hv := Lib.hid (size_out (l := l) (x := x) (fun h => hA h.1))
    clear hA
    generalize atB l x = q at *
    subst hq
    go_wp2_with fail
    go_ret2
    exact ⟨by rw [Hv.out.1, Hv.out.2]; rfl, B1.out⟩

set_option maxHeartbeats 4000000 in
theorem iSizeOf (a : Option Addr) (c : Nat) (l : List TypeD) (x : Int) (w : World) (hl : l.length ≤ 1048576) (hc : l.length ≤ c) (hc2 : c ≤ maxLen) (hm : ∀ t ∈ l, t.mod) (hr : Rows typeS Any w a l) :
    Calls Try.prog 12 #[.slice a l.length c, .int .i64 x] w fun e w' => e = .returned (.tuple #[.int .i64 (sizeA l x), .bool (sizeB l x)]) ∧ Below w.heap.size w w' := by
  have Hr := Lib.hid hr
  have Hm := Lib.hid hm
  have hmm := @run_makeMap Try.prog
  clear hr hm
  go_enter Try.func12, Try.ntmps12
  go_wp2_with fail
  refine (iGoodTypes a c l w hl hc hc2 Hm.out Hr.out).mono ?_
  rintro e w1 ⟨rfl, hb1⟩
  have B1 := Lib.hid hb1
  clear hb1
  by_cases hg : good l
  · have hq := goodB_true hg
    have Hg := Lib.hid hg
    clear hg
    generalize goodB l = q at *
    subst hq
    go_wp2_with fail
    refine (iTypeNumber a c l.length x _).mono ?_
    rintro e w2 ⟨rfl, rfl⟩
    by_cases hx : 0 ≤ x ∧ x < (l.length : Int)
    · obtain ⟨n, rfl⟩ := Int.eq_ofNat_of_zero_le hx.1
      have hn : n < l.length := by omega
      have HA := Lib.hid (show atP l (n : Int) from ⟨Hg.out, hx⟩)
      rw [decide_eq_true hx]
      clear hx
      go_wp2_with fail
      have hr1 := Hr.out.below B1.out
      have hr2 : Rows typeS (fun k => k ≠ w1.heap.size) (w1.alloc (.map #[] 0)) a l := (Rows.mono (Q' := fun k => k ≠ w1.heap.size) hr1 (fun k _ hk => by omega)).keep (fun k _ hk => Below.heap_alloc w1 _ k hk) (by simp)
      refine (iSizeWithin l Hg.out a c w1.heap.size l.length n [] _ (rk_all Hg.out hn) ⟨List.nodup_nil, fun _ h => by cases h⟩ (KMap.made (sizeS l) w1) hr2).mono ?_
      rintro e w3 ⟨rfl, _, ho3⟩
      have B3 := Lib.hid (B1.out.trans ((((Below.refl w1.heap.size w1).alloc (Nat.le_refl _) (.map #[] 0)).trans (ho3.below (Nat.le_refl _) (by simp))).mono B1.out.size))
      clear ho3 hr1 hr2
      by_cases hs : sizeS l (n : Int) ≤ 1000000000
      · have Hv := Lib.hid (size_in ⟨HA.out, hs⟩)
        obtain ⟨S, hS⟩ : ∃ S, sizeS l (n : Int) = S := ⟨_, rfl⟩
        have HS := Lib.hid hS
        rw [hS] at hs
        rw [hS]
        clear hS
        go_wp2_with fail
        go_ret2
        exact ⟨by rw [Hv.out.1, Hv.out.2, HS.out]; rfl, B3.out⟩
      · have Hv := Lib.hid (size_out (l := l) (x := (n : Int)) (fun h => hs h.2))
        obtain ⟨S, hS⟩ : ∃ S, sizeS l (n : Int) = S := ⟨_, rfl⟩
        rw [hS] at hs
        rw [hS]
        clear hS
        go_wp2_with fail
        go_ret2
        exact ⟨by rw [Hv.out.1, Hv.out.2]; rfl, B3.out⟩
    · have Hv := Lib.hid (size_out (l := l) (x := x) (fun h => hx h.1.2))
      rw [decide_eq_false hx]
      go_wp2_with fail
      go_ret2
      exact ⟨by rw [Hv.out.1, Hv.out.2]; rfl, B1.out⟩
  · have hq := goodB_false hg
    have Hv := Lib.hid (size_out (l := l) (x := x) (fun h => hg h.1.1))
    clear hg
    generalize goodB l = q at *
    subst hq
    go_wp2_with fail
    go_ret2
    exact ⟨by rw [Hv.out.1, Hv.out.2]; rfl, B1.out⟩
end Go.Proofs.Ytjbnabjfeepbeaa
