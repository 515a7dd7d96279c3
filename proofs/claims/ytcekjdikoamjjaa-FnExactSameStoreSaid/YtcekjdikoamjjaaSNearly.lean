
/-
  What is proved: contracts of the model's l3Base and l3Nearly. No condition beside what each theorem states.
-/
import Derived.Test.YtcekjdikoamjjaaSType
namespace Go.Proofs.Ytcekjdikoamjjaa
open Go.ChangeShapes Go.WideShapes Go.ChangeAt Go.RowKit

def baseN (k : Nat) : ByteArray := if k = 0 then bINT else if k = 1 then bBOOL else bCHAR
/-- A type like the k-th of the first three. -/
def baseLike (k : Nat) (t : TypeD) : Prop := t.fKind = (k : Int) + 1 ∧ t.fLong = 0 ∧ t.fBase = -1 ∧ t.fFields.length = 0 ∧ t.fOwner.size = 0 ∧ t.fName = baseN k
def baseTo (l : List TypeD) (k : Nat) : Prop := ∀ i (hi : i < l.length), i < k → baseLike i l[i]
def baseOk (l : List TypeD) : Prop := 3 ≤ l.length ∧ baseTo l 3
open Classical in
noncomputable def baseB (l : List TypeD) : Bool := decide (baseOk l)
theorem baseB_true {l : List TypeD} (h : baseOk l) : baseB l = true := by unfold baseB; simpa using h
theorem baseB_false {l : List TypeD} (h : ¬ baseOk l) : baseB l = false := by unfold baseB; simpa using h
theorem base_bad {l : List TypeD} {k : Nat} (hk : k < 3) (h : k < l.length) (hn : ¬ baseLike k l[k]) : baseB l = false := baseB_false fun g => hn (g.2 k h hk)
theorem baseTo_next {l : List TypeD} {k : Nat} (hk : k < l.length) (h : baseTo l k) (h1 : baseLike k l[k]) : baseTo l (k + 1) := fun i hi hik => by
  by_cases e : i = k
  · subst e; exact h1
  · exact h i hi (by omega)
theorem baseA_at {w : World} {g : Nat} {t : TypeId} (h : Box w g t baseA) {k : Nat} (hk : k < 3) :
    w.cell? ⟨g, k * 6, none⟩ = some (.int .i64 ((k : Int) + 1)) ∧ w.cell? ⟨g, k * 6 + 1, none⟩ = some (.int .i64 0) ∧ w.cell? ⟨g, k * 6 + 2, none⟩ = some (.int .i64 (-1)) ∧ w.cell? ⟨g, k * 6 + 3, none⟩ = some (.slice none 0 0) ∧ w.cell? ⟨g, k * 6 + 4, none⟩ = some (.string ⟨#[]⟩) ∧ w.cell? ⟨g, k * 6 + 5, none⟩ = some (.string (baseN k)) := by
  rw [h.cell, h.cell, h.cell, h.cell, h.cell, h.cell]
  match k, hk with
  | 0, _ | 1, _ | 2, _ => exact ⟨rfl, rfl, rfl, rfl, rfl, rfl⟩

/-- Named types from the fourth on are called unlike. -/
def unlike (t u : TypeD) : Prop := ¬ (t.fName.size ≠ 0 ∧ t.fName = u.fName ∧ t.fOwner = u.fOwner)
def nearTo (l : List TypeD) (k : Nat) : Prop := (∀ i (hi : i < l.length), 3 ≤ i → i < k → typeOk l l[i]) ∧ ∀ i j (hi : i < l.length) (hj : j < l.length), 3 ≤ i → i < j → j < k → unlike l[j] l[i]
def near (l : List TypeD) : Prop := baseOk l ∧ l.length ≤ 24 ∧ nearTo l l.length
open Classical in
noncomputable def nearB (l : List TypeD) : Bool := decide (near l)
theorem nearB_true {l : List TypeD} (h : near l) : nearB l = true := by unfold nearB; simpa using h
theorem nearB_false {l : List TypeD} (h : ¬ near l) : nearB l = false := by unfold nearB; simpa using h
theorem near_bad {l : List TypeD} {k : Nat} (h3 : 3 ≤ k) (h : k < l.length) (hn : ¬ typeOk l l[k]) : nearB l = false := nearB_false fun g => hn (g.2.2.1 k h h3 h)
theorem near_twice {l : List TypeD} {i k : Nat} (h3 : 3 ≤ i) (hik : i < k) (h : k < l.length) (hn : ¬ unlike l[k] l[i]) : nearB l = false := nearB_false fun g => hn (g.2.2.2 i k (by omega) h h3 hik h)
theorem nearTo_three {l : List TypeD} : nearTo l 3 := ⟨fun _ _ h h' => absurd h (by omega), fun _ _ _ _ h h' h'' => absurd h (by omega)⟩
theorem nearTo_next {l : List TypeD} {k : Nat} (hk : k < l.length) (h : nearTo l k) (h1 : typeOk l l[k]) (h2 : ∀ i (hi : i < l.length), 3 ≤ i → i < k → unlike l[k] l[i]) : nearTo l (k + 1) :=
  ⟨fun i hi h3 hik => by
    by_cases e : i = k
    · subst e; exact h1
    · exact h.1 i hi h3 (by omega), fun i j hi hj h3 hij hjk => by
    by_cases e : j = k
    · subst e; exact h2 i hi h3 hij
    · exact h.2 i j hi hj h3 hij (by omega)⟩

end Go.Proofs.Ytcekjdikoamjjaa
