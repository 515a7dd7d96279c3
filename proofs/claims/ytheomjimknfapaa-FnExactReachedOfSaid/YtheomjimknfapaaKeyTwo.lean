
/-
  What is proved: maps whose keys are structs of two texts. No condition beside what each theorem states.
-/
import Derived.Test.YtheomjimknfapaaBMap
namespace Go.Proofs.Ytheomjimknfapaa
open Go.RowKit Go.Maps Go.WideMaps

theorem keyOf_two {P : Program} {k s : TypeId} {f0 f1 : Field} (hk : P.underlying k = some (.struct #[f0, f1])) (h0 : f0.type = s) (h1 : f1.type = s) (o0 : f0.offset = 0) (o1 : f1.offset = 1) (n0 : (f0.name != "_") = true) (n1 : (f1.name != "_") = true)
    (hs : P.underlying s = some .string) (hc : P.cellsOf k = 2) (hcs : P.cellsOf s = 1) (hkt : P.keyType k = true) (hsz : 0 < P.types.size) {a b : ByteArray} (ha : a.size ≤ maxLen) (hb : b.size ≤ maxLen) :
    keyOf P k (.agg #[.string a, .string b]) = some (.string (keyBytes [.string a.data.toList, .string b.data.toList])) := by
  obtain ⟨m, hm⟩ : ∃ m, P.types.size = m + 1 := ⟨P.types.size - 1, by omega⟩
  have key : ∀ c : ByteArray, c.size ≤ maxLen → P.keyLits (m + 1) s [.string c] = some [.string c.data.toList] := fun c h => by
    unfold Program.keyLits
    rw [hs]
    simp [h]
  have hl : P.keyLits (P.types.size + 1) k [.string a, .string b] = some [.string a.data.toList, .string b.data.toList] := by
    rw [hm]
    unfold Program.keyLits
    rw [hk]
    simp [hc, n0, n1, h0, h1, o0, o1, hcs, key a ha, key b hb]
  unfold keyOf
  rw [hk]
  simp only [hkt, Value.formed, hk, hc, Bool.true_and]
  rw [if_pos (by rfl)]
  show (P.keyLits (P.types.size + 1) k [.string a, .string b]).map _ = _
  rw [hl]
  rfl

theorem laidOutP : laidOutB Try.prog = true := by kernel_rfl
theorem fullKeyed : Keyed Try.prog 147 := Keyed.of_law (deep_law_laid laidOutP (m := 2) (by omega) (of_decide_eq_true (by kernel_rfl)) (by kernel_rfl) (by kernel_rfl))
/-- The key of a type's full name. -/
def fullK (a b : ByteArray) : Lit := .string (keyBytes [.string a.data.toList, .string b.data.toList])
theorem fullKey {a b : ByteArray} (ha : a.size ≤ maxLen) (hb : b.size ≤ maxLen) : keyOf Try.prog 147 (.agg #[.string a, .string b]) = some (fullK a b) :=
  keyOf_two Try.underlying147 rfl rfl rfl rfl (by decide) (by decide) Try.underlying9 (by kernel_rfl) (by kernel_rfl) (by kernel_rfl) (of_decide_eq_true (by kernel_rfl)) ha hb
theorem fullK_inj {a b a' b' : ByteArray} (ha : a.size ≤ maxLen) (hb : b.size ≤ maxLen) (ha' : a'.size ≤ maxLen) (hb' : b'.size ≤ maxLen) (h : fullK a b = fullK a' b') : a = a' ∧ b = b' := by
  have h1 := fullKey ha hb
  have h2 := fullKey ha' hb'
  rw [h] at h1
  have h3 := fullKeyed.inj h1 h2
  simpa using h3

end Go.Proofs.Ytheomjimknfapaa
