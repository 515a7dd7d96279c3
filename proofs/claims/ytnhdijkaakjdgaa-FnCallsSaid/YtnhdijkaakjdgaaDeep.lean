
/-
  What is proved: contracts of DeepOf and RootOf, the program's and the model's: how many records lie behind a record, and the last one of these. No condition beside what each theorem states.
-/
import Derived.Test.YtnhdijkaakjdgaaExtends
namespace Go.Proofs.Ytnhdijkaakjdgaa
open Go.ChangeShapes Go.WideShapes Go.ChangeAt Go.RowKit

def recP (l : List TypeD) (x : Int) : Prop := good l ∧ kindZ l x = 5
open Classical in
noncomputable def recB (l : List TypeD) (x : Int) : Bool := decide (recP l x)
theorem recB_true {l : List TypeD} {x : Int} (h : recP l x) : recB l x = true := by unfold recB; simp only [decide_eq_true_eq]; exact h
theorem recB_false {l : List TypeD} {x : Int} (h : ¬ recP l x) : recB l x = false := by unfold recB; simp only [decide_eq_false_iff_not]; exact h
theorem recB_iff {l : List TypeD} {x : Int} : recB l x = true ↔ recP l x := by
  by_cases h : recP l x
  · simp [recB_true h, h]
  · simp [recB_false h, h]

def deepZ (l : List TypeD) (x : Int) : Int := ((chain l x).length : Int) - 1
def rootZ (l : List TypeD) (x : Int) : Int := (chain l x).getLast?.getD 0
theorem root_up {l : List TypeD} (hg : good l) {x : Int} (h : kindZ l x = 5) (hb : kindZ l (baseZ l x) = 5) : rootZ l x = rootZ l (baseZ l x) := by
  unfold rootZ
  rw [chain_cons hg h, chain_cons hg hb, List.getLast?_cons_cons]
theorem root_end {l : List TypeD} (hg : good l) {x : Int} (h : kindZ l x = 5) (hb : baseZ l x = -1) : rootZ l x = x := by
  unfold rootZ
  rw [chain_cons hg h, chain_end (x := baseZ l x) (by rw [hb, kindZ_out (by omega)]; decide)]
  rfl
theorem deep_end {l : List TypeD} (hg : good l) {x : Int} (h : kindZ l x = 5) (hb : baseZ l x = -1) : (chain l x).length = 1 := by
  rw [chain_cons hg h, chain_end (x := baseZ l x) (by rw [hb, kindZ_out (by omega)]; decide)]
  rfl
open Classical in
noncomputable def deepA (l : List TypeD) (x : Int) : Int := if recP l x then deepZ l x else 0
open Classical in
noncomputable def rootA (l : List TypeD) (x : Int) : Int := if recP l x then rootZ l x else 0
theorem deepA_in {l : List TypeD} {x : Int} (h : recP l x) : deepA l x = deepZ l x := by unfold deepA; rw [if_pos h]
theorem deepA_out {l : List TypeD} {x : Int} (h : ¬ recP l x) : deepA l x = 0 := by unfold deepA; rw [if_neg h]
theorem rootA_in {l : List TypeD} {x : Int} (h : recP l x) : rootA l x = rootZ l x := by unfold rootA; rw [if_pos h]
theorem rootA_out {l : List TypeD} {x : Int} (h : ¬ recP l x) : rootA l x = 0 := by unfold rootA; rw [if_neg h]

end Go.Proofs.Ytnhdijkaakjdgaa
