
/-
  What is proved: contracts of the model's l4Params, l4Object, l4At; a contract of the model's l4Object. No condition beside what each theorem states.
-/
import Derived.Test.YtcekjdikoamjjaaIObjects
import Derived.Test.YtcekjdikoamjjaaAt
namespace Go.Proofs.Ytcekjdikoamjjaa
open Go.ChangeShapes Go.WideShapes Go.ChangeAt Go.RowKit

def parOk (n : Nat) (p : ParamD) : Prop := nameP p.fName ∧ parTyped n p
/-- Params up to place k. -/
def paramsTo (n : Nat) (ps : List ParamD) (k : Nat) : Prop := (∀ i (hi : i < ps.length), i < k → parOk n ps[i]) ∧ ∀ i j (hi : i < ps.length) (hj : j < ps.length), i < j → j < k → ps[i].fName ≠ ps[j].fName
theorem paramsTo_zero {n : Nat} {ps : List ParamD} : paramsTo n ps 0 := ⟨fun _ _ h => absurd h (by omega), fun _ _ _ _ _ h => absurd h (by omega)⟩
theorem paramsTo_next {n : Nat} {ps : List ParamD} {k : Nat} (hk : k < ps.length) (h : paramsTo n ps k) (h1 : parOk n ps[k]) (h2 : ∀ i (hi : i < ps.length), i < k → ps[i].fName ≠ ps[k].fName) : paramsTo n ps (k + 1) :=
  ⟨fun i hi hik => by
    by_cases e : i = k
    · subst e; exact h1
    · exact h.1 i hi (by omega), fun i j hi hj hij hjk => by
    by_cases e : j = k
    · subst e; exact h2 i hi hij
    · exact h.2 i j hi hj hij (by omega)⟩
theorem params_of {n : Nat} {ps : List ParamD} (h4 : ps.length ≤ 4) (h : paramsTo n ps ps.length) : paramsOk n ps :=
  ⟨h4, typed_all (fun i hi _ => (h.1 i hi hi).2), fun i hi _ => by
    have hi' : i < ps.length := by simpa using hi
    simpa using (h.1 i hi' hi').1, fun i j hi hj hij _ => by
    have hi' : i < ps.length := by simpa using hi
    have hj' : j < ps.length := by simpa using hj
    simpa using h.2 i j hi' hj' hij hj'⟩
theorem params_bad {n : Nat} {ps : List ParamD} {k : Nat} (hk : k < ps.length) (h : ¬ parOk n ps[k]) : ¬ paramsOk n ps := fun g => h ⟨by
    have := g.2.2.1 k (by simpa using hk) (by simpa using hk)
    simpa using this, g.2.1 _ (List.getElem_mem hk)⟩
theorem params_twice {n : Nat} {ps : List ParamD} {i k : Nat} (hik : i < k) (hk : k < ps.length) (he : (ps[i]'(by omega)).fName = ps[k].fName) : ¬ paramsOk n ps := fun g => by
  have := g.2.2.2 i k (by simp; omega) (by simpa using hk) hik (by simpa using hk)
  simp at this
  exact this he
theorem param_at {w w' : World} {a : Option Addr} {l : List ParamD} {k : Nat} (hr : Rows paramS Any w a l) (hk : k < l.length) (hb : Below w.heap.size w w') : ∃ b o, a = some ⟨b, o, none⟩ ∧ b < w.heap.size ∧ w'.cell? ⟨b, o + k * 3, none⟩ = some (.string l[k].fName) ∧ w'.cell? ⟨b, o + k * 3 + 1, none⟩ = some (.bool l[k].fByVar) ∧ w'.cell? ⟨b, o + k * 3 + 2, none⟩ = some (.int .i64 l[k].fType) := by
  obtain ⟨b, o, cs, rfl, _, hb1, hc1, hat⟩ := hr k hk
  obtain rfl : cs = [.string l[k].fName, .bool l[k].fByVar, .int .i64 l[k].fType] := hat
  have e0 := (hb.cell (p := ⟨b, o + k * 3 + 0, none⟩) hb1).trans (hc1 0 (by decide))
  have e1 := (hb.cell (p := ⟨b, o + k * 3 + 1, none⟩) hb1).trans (hc1 1 (by decide))
  have e2 := (hb.cell (p := ⟨b, o + k * 3 + 2, none⟩) hb1).trans (hc1 2 (by decide))
  simp at e0 e1 e2
  exact ⟨b, o, rfl, hb1, e0, e1, e2⟩
abbrev parC (t : ParamD) : Array Value := #[.string t.fName, .bool t.fByVar, .int .i64 t.fType]

/-- The first object of a name. -/
def isAt (os : List ObjectD) (nm : ByteArray) (r : Int) : Prop := (r = -1 ∧ ∀ i (hi : i < os.length), os[i].fName ≠ nm) ∨ ∃ k : Nat, r = k ∧ ∃ h : k < os.length, os[k].fName = nm ∧ ∀ i (hi : i < os.length), i < k → os[i].fName ≠ nm
theorem isAt.eq {os : List ObjectD} {nm : ByteArray} {r r' : Int} (h : isAt os nm r) (h' : isAt os nm r') : r = r' := by
  rcases h with ⟨rfl, h⟩ | ⟨k, rfl, hk, he, h⟩ <;> rcases h' with ⟨rfl, h'⟩ | ⟨k', rfl, hk', he', h'⟩
  · rfl
  · exact absurd he' (h k' hk')
  · exact absurd he (h' k hk)
  · rcases Nat.lt_trichotomy k k' with c | c | c
    · exact absurd he (h' k hk c)
    · rw [c]
    · exact absurd he' (h k' hk' c)

end Go.Proofs.Ytcekjdikoamjjaa

namespace Go.Proofs.Ytcekjdikoamjjaa
open Go.ChangeShapes Go.WideShapes Go.ChangeAt Go.RowKit

end Go.Proofs.Ytcekjdikoamjjaa
