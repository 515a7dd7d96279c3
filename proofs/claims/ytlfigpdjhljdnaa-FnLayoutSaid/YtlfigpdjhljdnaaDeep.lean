
/-
  What is proved: contracts of DeepOf and RootOf, the program's and the model's: how many records lie behind a record, and the last one of these. No condition beside what each theorem states.
-/
import Derived.Test.YtlfigpdjhljdnaaExtends
namespace Go.Proofs.Ytlfigpdjhljdnaa
open Go.ChangeShapes Go.WideShapes Go.ChangeAt Go.RowKit

def recP (l : List TypeD) (x : Int) : Prop := good l ∧ kindZ l x = 5
open Classical in
noncomputable def recB (l : List TypeD) (x : Int) : Bool := decide (recP l x)
theorem recB_true {l : List TypeD} {x : Int} (h : recP l x) : recB l x = true := by unfold recB; simp only [decide_eq_true_eq]; exact h
theorem recB_false {l : List TypeD} {x : Int} (h : ¬ recP l x) : recB l x = false := by unfold recB; simp only [decide_eq_false_iff_not]; exact h
theorem recB_iff {l : List TypeD} {x : Int} : recB l x = true ↔ recP l x := by
  by_cases h : recP l x
  · simp [recB_true h, h]
  · simp [recB_false h, h]

def deepZ (l : List TypeD) (x : Int) : Int := ((chain l x).length : Int) - 1
def rootZ (l : List TypeD) (x : Int) : Int := (chain l x).getLast?.getD 0
theorem root_up {l : List TypeD} (hg : good l) {x : Int} (h : kindZ l x = 5) (hb : kindZ l (baseZ l x) = 5) : rootZ l x = rootZ l (baseZ l x) := by
  unfold rootZ
  rw [chain_cons hg h, chain_cons hg hb, List.getLast?_cons_cons]
theorem root_end {l : List TypeD} (hg : good l) {x : Int} (h : kindZ l x = 5) (hb : baseZ l x = -1) : rootZ l x = x := by
  unfold rootZ
  rw [chain_cons hg h, chain_end (x := baseZ l x) (by rw [hb, kindZ_out (by omega)]; decide)]
  rfl
theorem deep_end {l : List TypeD} (hg : good l) {x : Int} (h : kindZ l x = 5) (hb : baseZ l x = -1) : (chain l x).length = 1 := by
  rw [chain_cons hg h, chain_end (x := baseZ l x) (by rw [hb, kindZ_out (by omega)]; decide)]
  rfl
open Classical in
noncomputable def deepA (l : List TypeD) (x : Int) : Int := if recP l x then deepZ l x else 0
open Classical in
noncomputable def rootA (l : List TypeD) (x : Int) : Int := if recP l x then rootZ l x else 0
theorem deepA_in {l : List TypeD} {x : Int} (h : recP l x) : deepA l x = deepZ l x := by unfold deepA; rw [if_pos h]
theorem deepA_out {l : List TypeD} {x : Int} (h : ¬ recP l x) : deepA l x = 0 := by unfold deepA; rw [if_neg h]
theorem rootA_in {l : List TypeD} {x : Int} (h : recP l x) : rootA l x = rootZ l x := by unfold rootA; rw [if_pos h]
theorem rootA_out {l : List TypeD} {x : Int} (h : ¬ recP l x) : rootA l x = 0 := by unfold rootA; rw [if_neg h]

set_option maxHeartbeats 4000000 in
theorem iIsGoodRecord (a : Option Addr) (c : Nat) (l : List TypeD) (x : Int) (w : World) (hl : l.length ≤ 1048576) (hc : l.length ≤ c) (hc2 : c ≤ maxLen) (hm : ∀ t ∈ l, t.mod) (hr : Rows typeS Any w a l) :
    Calls Try.prog 34 #[.slice a l.length c, .int .i64 x] w fun e w' => e = .returned (.bool (recB l x)) ∧ Below w.heap.size w w' := by
  have Hr := Lib.hid hr
  have Hm := Lib.hid hm
  clear hr hm
  go_enter Try.func34, Try.ntmps34
  go_wp2_with fail
  refine (iGoodTypes a c l w hl hc hc2 Hm.out Hr.out).mono ?_
  rintro e w1 ⟨rfl, hb1⟩
  have B1 := Lib.hid hb1
  have R1 := Lib.hid (Hr.out.below hb1)
  clear hb1
  by_cases hg : good l
  · have hq := goodB_true hg
    have Hg := Lib.hid hg
    clear hg
    generalize goodB l = q at *
    subst hq
    go_wp2_with fail
    refine (iKindAt a c l x w1 R1.out).mono ?_
    rintro e w2 ⟨rfl, rfl⟩
    by_cases hx : kindZ l x = 5
    · have Hv := Lib.hid (recB_true ⟨Hg.out, hx⟩)
      have h2 : (kindZ l x == 5) = true := beq_iff_eq.2 hx
      clear hx
      go_wp2_with fail
      go_ret
      exact ⟨by rw [Hv.out]; rfl, B1.out⟩
    · have Hv := Lib.hid (recB_false (l := l) (x := x) (fun h => hx h.2))
      have h2 : (kindZ l x == 5) = false := beq_eq_false_iff_ne.2 hx
      clear hx
      go_wp2_with fail
      go_ret
      exact ⟨by rw [Hv.out]; rfl, B1.out⟩
  · have hq := goodB_false hg
    have Hv := Lib.hid (recB_false (l := l) (x := x) (fun h => hg h.1))
    clear hg
    generalize goodB l = q at *
    subst hq
    go_wp2_with fail
    go_ret
    exact ⟨by rw [Hv.out]; rfl, B1.out⟩

set_option maxHeartbeats 4000000 in
theorem sl10Record (a : Option Addr) (c : Nat) (l : List TypeD) (x : Int) (w : World) (hl : l.length ≤ 1048576) (hc : l.length ≤ c) (hc2 : c ≤ maxLen) (hm : ∀ t ∈ l, t.mod) (hr : Rows typeS Any w a l) :
    Calls Try.prog 38 #[.slice a l.length c, .int .i64 x] w fun e w' => e = .returned (.bool (recB l x)) ∧ Below w.heap.size w w' := by
  have Hr := Lib.hid hr
  have Hm := Lib.hid hm
  clear hr hm
  go_enter Try.func38, Try.ntmps38
  go_wp2_with fail
  refine (sl3Good a c l w hl hc hc2 Hm.out Hr.out).mono ?_
  rintro e w1 ⟨rfl, hb1⟩
  have B1 := Lib.hid hb1
  have R1 := Lib.hid (Hr.out.below hb1)
  clear hb1
  by_cases hg : good l
  · have hq := goodB_true hg
    have Hg := Lib.hid hg
    clear hg
    generalize goodB l = q at *
    subst hq
    go_wp2_with fail
    refine (sl3Kind a c l x 5 5 w1 hl (by decide) (by decide) R1.out).mono ?_
    rintro e w2 ⟨rfl, rfl⟩
    have Hv := Lib.hid (show decide (kindZ l x = 5 ∨ kindZ l x = 5) = recB l x by
      by_cases hx : kindZ l x = 5
      · rw [recB_true ⟨Hg.out, hx⟩]; exact decide_eq_true (.inl hx)
      · rw [recB_false (fun h => hx h.2)]; exact decide_eq_false (fun h => hx (h.elim id id)))
    rw [Hv.out]
    go_wp2_with fail
    go_ret
    exact ⟨rfl, B1.out⟩
  · have hq := goodB_false hg
    have Hv := Lib.hid (recB_false (l := l) (x := x) (fun h => hg h.1))
    clear hg
    generalize goodB l = q at *
    subst hq
    go_wp2_with fail
    go_ret
    exact ⟨by rw [Hv.out]; rfl, B1.out⟩

end Go.Proofs.Ytlfigpdjhljdnaa
