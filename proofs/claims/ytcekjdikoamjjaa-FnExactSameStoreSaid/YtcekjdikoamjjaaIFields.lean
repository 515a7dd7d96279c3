
/-
  What is proved: contracts of the program's isTypeNumber, kindAt and areFields. No condition beside what each theorem states.
-/
import Derived.Test.YtcekjdikoamjjaaSNearly
import Derived.Test.YtcekjdikoamjjaaBMap
namespace Go.Proofs.Ytcekjdikoamjjaa
open Go.ChangeShapes Go.WideShapes Go.ChangeAt Go.RowKit Go.WideMaps

/-- What the program's table of names tells behind k fields. -/
def toldF (fs : List FieldD) (k : Nat) (f : Lit → Bool) : Prop := ∀ s : ByteArray, f (.string s.data.toList) = true ↔ ∃ i, ∃ h : i < fs.length, i < k ∧ fs[i].fName.size ≠ 0 ∧ fs[i].fName = s
theorem toldF_zero {fs : List FieldD} : toldF fs 0 (fun _ => false) := fun s => ⟨fun h => (by cases h), fun ⟨_, _, h, _⟩ => absurd h (by omega)⟩
theorem toldF_skip {fs : List FieldD} {k : Nat} {f : Lit → Bool} (hk : k < fs.length) (h : toldF fs k f) (h0 : fs[k].fName.size = 0) : toldF fs (k + 1) f := fun s => by
  rw [h s]
  constructor
  · rintro ⟨i, hi, h1, h2⟩
    exact ⟨i, hi, by omega, h2⟩
  · rintro ⟨i, hi, h1, h2, h3⟩
    refine ⟨i, hi, ?_, h2, h3⟩
    by_cases e : i = k
    · subst e; exact absurd h0 h2
    · omega
theorem toldF_put {fs : List FieldD} {k : Nat} {f : Lit → Bool} (hk : k < fs.length) (h : toldF fs k f) (h0 : fs[k].fName.size ≠ 0) : toldF fs (k + 1) (updB f (.string fs[k].fName.data.toList) true) := fun s => by
  by_cases e : s = fs[k].fName
  · subst e
    rw [updB_same]
    exact ⟨fun _ => ⟨k, hk, by omega, h0, rfl⟩, fun _ => rfl⟩
  · rw [updB_other _ _ (fun e2 => e (by injection e2 with e2; exact ByteArray.ext (Array.ext' e2))), h s]
    constructor
    · rintro ⟨i, hi, h1, h2⟩
      exact ⟨i, hi, by omega, h2⟩
    · rintro ⟨i, hi, h1, h2, h3⟩
      refine ⟨i, hi, ?_, h2, h3⟩
      by_cases e3 : i = k
      · subst e3; exact absurd h3.symm e
      · omega

end Go.Proofs.Ytcekjdikoamjjaa
