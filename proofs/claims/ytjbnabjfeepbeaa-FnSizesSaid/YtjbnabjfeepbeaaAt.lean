
/-
  What is proved: a contract of the model's l3At. No condition beside what each theorem states.
-/
import Derived.Test.YtjbnabjfeepbeaaSGood
namespace Go.Proofs.Ytjbnabjfeepbeaa
open Go.ChangeShapes Go.WideShapes Go.ChangeAt Go.RowKit

def atP (l : List TypeD) (x : Int) : Prop := good l ∧ 0 ≤ x ∧ x < (l.length : Int)
open Classical in
noncomputable def atB (l : List TypeD) (x : Int) : Bool := decide (atP l x)
theorem atB_true {l : List TypeD} {x : Int} (h : atP l x) : atB l x = true := by unfold atB; simpa using h
theorem atB_false {l : List TypeD} {x : Int} (h : ¬ atP l x) : atB l x = false := by unfold atB; simpa using h

set_option maxHeartbeats 2000000 in
theorem sl3At (a : Option Addr) (c : Nat) (l : List TypeD) (x : Int) (w : World) (hl : l.length ≤ 1048576) (hc : l.length ≤ c) (hc2 : c ≤ maxLen) (hm : ∀ t ∈ l, t.mod) (hr : Rows typeS Any w a l) :
    Calls Try.prog 58 #[.slice a l.length c, .int .i64 x] w fun e w' => e = .returned (.bool (atB l x)) ∧ Below w.heap.size w w' := by
  have Hr := Lib.hid hr
  have Hm := Lib.hid hm
  clear hr hm
  go_enter Try.func58, Try.ntmps58
  go_wp2_with fail
  refine (sl3Good a c l w hl hc hc2 Hm.out Hr.out).mono ?_
  rintro e w1 ⟨rfl, hb1⟩
  have B1 := Lib.hid hb1
  clear hb1
  by_cases hg : good l
  · have hq := goodB_true hg
    have Hg := Lib.hid hg
    clear hg
    generalize goodB l = q at *
    subst hq
    by_cases hin : 0 ≤ x ∧ x < (l.length : Int)
    · have Hv := Lib.hid (atB_true ⟨Hg.out, hin⟩)
      go_wp2_with fail
      refine (sIn_yes _ _ _ _ (by omega) (by omega)).mono ?_
      rintro e w2 ⟨rfl, rfl⟩
      go_wp2_with fail
      go_ret
      exact ⟨by rw [Hv.out]; rfl, B1.out⟩
    · have Hv := Lib.hid (atB_false (l := l) (x := x) (fun h => hin h.2))
      go_wp2_with fail
      refine (sIn_no _ _ _ _ (by omega)).mono ?_
      rintro e w2 ⟨rfl, rfl⟩
      go_wp2_with fail
      go_ret
      exact ⟨by rw [Hv.out]; rfl, B1.out⟩
  · have hq := goodB_false hg
    have Hv := Lib.hid (atB_false (l := l) (x := x) (fun h => hg h.1))
    clear hg
    generalize goodB l = q at *
    subst hq
    go_wp2_with fail
    go_ret
    exact ⟨by rw [Hv.out]; rfl, B1.out⟩

end Go.Proofs.Ytjbnabjfeepbeaa
