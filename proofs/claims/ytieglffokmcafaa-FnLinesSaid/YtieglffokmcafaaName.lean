/-
  What is proved: contracts of chapter 1's functions on names (isLetter, isDigit, GoodName, NameBytes of the program; l1Name, l1NameBytes and what is over them of its model), and from them the walks of two laws. No condition beside what each theorem states.
-/
import Derived.Test.YtieglffokmcafaaNum
namespace Go.Proofs.Ytieglffokmcafaa
open Go.ChangeShapes Go.WideShapes Go.ChangeAt Go.RowKit

def lett (c : Int) : Bool := (decide (65 ≤ c) && decide (c ≤ 90)) || (decide (97 ≤ c) && decide (c ≤ 122))
def digt (c : Int) : Bool := decide (48 ≤ c) && decide (c ≤ 57)

/-- The byte at a place, 0 where there is none. -/
def byteAt (s : ByteArray) (k : Nat) : Int := if h : k < s.size then (s[k].toNat : Int) else 0
theorem byteAt_get (s : ByteArray) (k : Nat) (h : k < s.size) : (s[k].toNat : Int) = byteAt s k := by unfold byteAt; rw [dif_pos h]

def okAt (s : ByteArray) (k : Nat) : Prop := lett (byteAt s k) = true ∨ (k ≠ 0 ∧ digt (byteAt s k) = true)
def nameP (s : ByteArray) : Prop := 1 ≤ s.size ∧ s.size ≤ 10 ∧ ∀ j, j < s.size → okAt s j
open Classical in
noncomputable def nameB (s : ByteArray) : Bool := decide (nameP s)
theorem nameB_true {s : ByteArray} (h : nameP s) : nameB s = true := by unfold nameB; simpa using h
theorem nameB_false {s : ByteArray} (h : ¬ nameP s) : nameB s = false := by unfold nameB; simpa using h

def okTo (s : ByteArray) (k : Nat) : Prop := ∀ j, j < k → okAt s j
theorem okTo_snoc {s : ByteArray} {k : Nat} (h : okTo s k) (h1 : okAt s k) : okTo s (k + 1) := fun j hj => by
  by_cases e : j = k
  · rw [e]; exact h1
  · exact h j (by omega)
theorem okTo_one {s : ByteArray} (h : okAt s 0) : okTo s 1 := fun j hj => by rw [show j = 0 by omega]; exact h

theorem iDigit (c : Int) (w : World) : Calls Try.prog 28 #[.int .u8 c] w fun e w' => e = .returned (.bool (digt c)) ∧ w = w' := by
  have key : digt c = (decide (48 ≤ c) && decide (c ≤ 57)) := rfl
  have H := Lib.hid key
  clear key
  cases a1 : decide (48 ≤ c) <;> cases a2 : decide (c ≤ 57)
  all_goals first
    | (exfalso; simp at a1 a2; omega)
    | (go_enter Try.func28, Try.ntmps28
       go_wp2
       go_ret
       exact ⟨by rw [H.out, a1, a2]; rfl, rfl⟩)

theorem slett (c : Int) : lett c = ((decide (65 ≤ c) && decide (c ≤ 90)) || (decide (97 ≤ c) && decide (c ≤ 122))) := rfl

theorem bad_of {s : ByteArray} {k : Nat} {c : Int} (e : byteAt s k = c) (h : ¬ (65 ≤ c ∧ c ≤ 90) ∧ ¬ (97 ≤ c ∧ c ≤ 122)) (h2 : k = 0 ∨ ¬ (48 ≤ c ∧ c ≤ 57)) : ¬ okAt s k := by
  unfold okAt
  rw [e, slett]
  unfold digt
  simp
  omega

end Go.Proofs.Ytieglffokmcafaa
