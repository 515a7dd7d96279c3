
/-
  What is proved: plain facts on tables of types, and contracts of the model's l3Kind, l3Fields, l3Type; What is said: the parts of a type, what is reached from numbers by steps, and what a walk keeps that holds a set of the reached and a list of those ahead; the walk may take its next number at either end; the contract of the model's l3Fields. No condition beside what each theorem states.
-/
import Derived.Test.YtcekjdikoamjjaaMkType
import Derived.Test.YtcekjdikoamjjaaName
namespace Go.Proofs.Ytcekjdikoamjjaa
open Go.ChangeShapes Go.WideShapes Go.ChangeAt Go.RowKit

/-- The Kind of a type by its number. -/
def kindZ (l : List TypeD) (x : Int) : Int := if h : 0 ≤ x ∧ x.toNat < l.length then l[x.toNat].fKind else 0
theorem kindZ_in {l : List TypeD} {k : Nat} (h : k < l.length) : kindZ l (k : Int) = l[k].fKind := by
  unfold kindZ
  rw [dif_pos ⟨by omega, by omega⟩]
  simp
theorem kindZ_out {l : List TypeD} {x : Int} (h : x < 0 ∨ (l.length : Int) ≤ x) : kindZ l x = 0 := by
  unfold kindZ
  rw [dif_neg (by omega)]

def fieldOk (n : Nat) (f : FieldD) : Prop := (nameP f.fName ∨ (f.fName.size = 0 ∧ f.fMark = 0)) ∧ (0 ≤ f.fMark ∧ f.fMark ≤ 2) ∧ (0 ≤ f.fType ∧ f.fType < (n : Int))
/-- No two with one name. -/
def apartF (fs : List FieldD) (k : Nat) : Prop := ∀ i j (hi : i < fs.length) (hj : j < fs.length), i < j → j < k → fs[j].fName.size ≠ 0 → fs[j].fName ≠ fs[i].fName
def fieldsTo (n : Nat) (fs : List FieldD) (k : Nat) : Prop := (∀ i (hi : i < fs.length), i < k → fieldOk n fs[i]) ∧ apartF fs k
def fieldsOk (n : Nat) (fs : List FieldD) : Prop := fs.length ≤ 6 ∧ fieldsTo n fs fs.length
open Classical in
noncomputable def fieldsB (n : Nat) (fs : List FieldD) : Bool := decide (fieldsOk n fs)
theorem fieldsB_true {n : Nat} {fs : List FieldD} (h : fieldsOk n fs) : fieldsB n fs = true := by unfold fieldsB; simpa using h
theorem fieldsB_false {n : Nat} {fs : List FieldD} (h : ¬ fieldsOk n fs) : fieldsB n fs = false := by unfold fieldsB; simpa using h
theorem fields_bad {n : Nat} {fs : List FieldD} {k : Nat} (h : k < fs.length) (hn : ¬ fieldOk n fs[k]) : fieldsB n fs = false := fieldsB_false fun g => hn (g.2.1 k h h)
theorem fields_twice {n : Nat} {fs : List FieldD} {i k : Nat} (hik : i < k) (h : k < fs.length) (h0 : fs[k].fName.size ≠ 0) (he : fs[k].fName = fs[i].fName) : fieldsB n fs = false :=
  fieldsB_false fun g => g.2.2 i k (by omega) h hik h h0 he
theorem fieldsTo_zero {n : Nat} {fs : List FieldD} : fieldsTo n fs 0 := ⟨fun _ _ h => absurd h (by omega), fun _ _ _ _ _ h => absurd h (by omega)⟩
theorem fieldsTo_next {n : Nat} {fs : List FieldD} {k : Nat} (hk : k < fs.length) (h : fieldsTo n fs k) (h1 : fieldOk n fs[k]) (h2 : fs[k].fName.size ≠ 0 → ∀ i (hi : i < fs.length), i < k → fs[k].fName ≠ fs[i].fName) : fieldsTo n fs (k + 1) :=
  ⟨fun i hi hik => by
    by_cases e : i = k
    · subst e; exact h1
    · exact h.1 i hi (by omega), fun i j hi hj hij hjk h0 => by
    by_cases e : j = k
    · subst e; exact h2 h0 i hi hij
    · exact h.2 i j hi hj hij (by omega) h0⟩

def calledOk (o n : ByteArray) : Prop := (nameP o ∧ nameP n) ∨ (o.size = 0 ∧ n.size = 0)
def typeOk (l : List TypeD) (t : TypeD) : Prop := calledOk t.fOwner t.fName ∧
  ((t.fKind = 4 ∧ (1 ≤ t.fLong ∧ t.fLong ≤ 1000) ∧ (0 ≤ t.fBase ∧ t.fBase < (l.length : Int)) ∧ t.fFields.length = 0) ∨
   (t.fKind = 5 ∧ t.fLong = 0 ∧ (t.fBase = -1 ∨ kindZ l t.fBase = 5) ∧ fieldsOk l.length t.fFields) ∨
   (t.fKind = 6 ∧ t.fLong = 0 ∧ (kindZ l t.fBase = 5 ∨ kindZ l t.fBase = 4) ∧ t.fFields.length = 0))
open Classical in
noncomputable def typeB (l : List TypeD) (t : TypeD) : Bool := decide (typeOk l t)
theorem typeB_true {l : List TypeD} {t : TypeD} (h : typeOk l t) : typeB l t = true := by unfold typeB; simpa using h
theorem typeB_false {l : List TypeD} {t : TypeD} (h : ¬ typeOk l t) : typeB l t = false := by unfold typeB; simpa using h

/-- The Kind of an element, read. -/
theorem kind_cell {w : World} {a : Option Addr} {l : List TypeD} {k : Nat} (hr : Rows typeS Any w a l) (h : k < l.length) : ∃ b o, a = some ⟨b, o, none⟩ ∧ w.cell? ⟨b, o + k * 6, none⟩ = some (.int .i64 l[k].fKind) := by
  obtain ⟨b, o, cs, rfl, _, hb1, hc1, hat⟩ := hr k h
  obtain ⟨a3, c3, rfl, _⟩ := hat
  exact ⟨b, o, rfl, hc1 0 (by decide)⟩

end Go.Proofs.Ytcekjdikoamjjaa

namespace Go.Proofs.Ytcekjdikoamjjaa

def partsD (t : TypeD) : List Int := (if t.fBase = -1 then [] else [t.fBase]) ++ t.fFields.map FieldD.fType
def insideD (t : TypeD) : List Int := if t.fKind = 6 then [] else partsD t

inductive Reach (l : List TypeD) (steps : TypeD → List Int) (st : List Int) : Nat → Prop
  | start {n : Nat} : (n : Int) ∈ st → Reach l steps st n
  | step {n m : Nat} (h : n < l.length) : Reach l steps st n → (m : Int) ∈ steps l[n] → Reach l steps st m

def StepsIn (l : List TypeD) (steps : TypeD → List Int) : Prop := ∀ n (h : n < l.length), ∀ x ∈ steps l[n], 0 ≤ x ∧ x < (l.length : Int)
def Got (R : List Bool) (x : Int) : Prop := ∃ n : Nat, x = (n : Int) ∧ R[n]? = some true

structure Walk (l : List TypeD) (steps : TypeD → List Int) (st : List Int) (R : List Bool) (S : List Int) : Prop where
  long : l.length ≤ R.length
  got : ∀ n : Nat, R[n]? = some true → n < l.length ∧ Reach l steps st n
  ahead : ∀ x ∈ S, ∃ n : Nat, x = (n : Int) ∧ n < l.length ∧ Reach l steps st n
  first : ∀ x ∈ st, x ∈ S ∨ Got R x
  next : ∀ n (h : n < l.length), R[n]? = some true → ∀ x ∈ steps l[n], x ∈ S ∨ Got R x

variable {l : List TypeD} {steps : TypeD → List Int} {st : List Int} {R : List Bool} {S S' : List Int}

theorem Walk.start {k : Nat} (hk : l.length ≤ k) (h : ∀ x ∈ st, 0 ≤ x ∧ x < (l.length : Int)) : Walk l steps st (List.replicate k false) st where
  long := by simpa using hk
  got := fun n h => by
    rw [List.getElem?_replicate] at h
    split at h <;> simp at h
  ahead := fun x hx => by
    obtain ⟨h0, h1⟩ := h x hx
    obtain ⟨n, rfl⟩ := Int.eq_ofNat_of_zero_le h0
    exact ⟨n, rfl, by omega, .start hx⟩
  first := fun x hx => .inl hx
  next := fun n _ h => by
    rw [List.getElem?_replicate] at h
    split at h <;> simp at h

theorem Walk.skip {n : Nat} (w : Walk l steps st R S) (hS : ∀ y, y ∈ S ↔ y = (n : Int) ∨ y ∈ S') (hn : R[n]? = some true) : Walk l steps st R S' where
  long := w.long
  got := w.got
  ahead := fun x hx => w.ahead x ((hS x).2 (.inr hx))
  first := fun x hx => by
    rcases w.first x hx with h | h
    · rcases (hS x).1 h with rfl | h
      · exact .inr ⟨n, rfl, hn⟩
      · exact .inl h
    · exact .inr h
  next := fun m hm hr x hx => by
    rcases w.next m hm hr x hx with h | h
    · rcases (hS x).1 h with rfl | h
      · exact .inr ⟨n, rfl, hn⟩
      · exact .inl h
    · exact .inr h

theorem Got.set {x : Int} {n : Nat} (h : Got R x) : Got (R.set n true) x := by
  obtain ⟨m, rfl, hm⟩ := h
  refine ⟨m, rfl, ?_⟩
  have hlt : m < R.length := (List.getElem?_eq_some_iff.1 hm).1
  rw [List.getElem?_set]
  split
  · simp; omega
  · exact hm

theorem Got.new {n : Nat} (h : n < R.length) : Got (R.set n true) (n : Int) := ⟨n, rfl, by rw [List.getElem?_set]; simp [h]⟩

theorem Walk.take {n : Nat} (hn : n < l.length) (w : Walk l steps st R S) (hi : StepsIn l steps) (hS : ∀ y, y ∈ S → y = (n : Int) ∨ y ∈ S') (hS' : ∀ y, y ∈ S' → y ∈ S ∨ y ∈ steps l[n]) (hN : ∀ y ∈ steps l[n], y ∈ S') (hin : (n : Int) ∈ S) : Walk l steps st (R.set n true) S' where
  long := by rw [List.length_set]; exact w.long
  got := fun m h => by
    rw [List.getElem?_set] at h
    split at h
    · rename_i e
      subst e
      obtain ⟨k, e, hk, hr⟩ := w.ahead _ hin
      have : n = k := by omega
      subst this
      exact ⟨hk, hr⟩
    · exact w.got m h
  ahead := fun x hx => by
    rcases hS' x hx with h | h
    · exact w.ahead x h
    · obtain ⟨h0, h1⟩ := hi n hn x h
      obtain ⟨m, rfl⟩ := Int.eq_ofNat_of_zero_le h0
      obtain ⟨k, e, hk, hr⟩ := w.ahead _ hin
      have : n = k := by omega
      subst this
      exact ⟨m, rfl, by omega, .step hn hr h⟩
  first := fun x hx => by
    rcases w.first x hx with h | h
    · rcases hS x h with rfl | h
      · exact .inr (Got.new (Nat.lt_of_lt_of_le hn w.long))
      · exact .inl h
    · exact .inr h.set
  next := fun m hm hr x hx => by
    rw [List.getElem?_set] at hr
    split at hr
    · rename_i e
      subst e
      exact .inl (hN x hx)
    · rcases w.next m hm hr x hx with h | h
      · rcases hS x h with rfl | h
        · exact .inr (Got.new (Nat.lt_of_lt_of_le hn w.long))
        · exact .inl h
      · exact .inr h.set

/-- Where nothing is ahead, the set is what is reached. -/
theorem Walk.done (w : Walk l steps st R []) (n : Nat) : R[n]? = some true ↔ Reach l steps st n := by
  refine ⟨fun h => (w.got n h).2, fun h => ?_⟩
  have key : ∀ {x : Int} {m : Nat}, x = (m : Int) → (x ∈ ([] : List Int) ∨ Got R x) → R[m]? = some true := fun e h => by
    rcases h with h | ⟨k, e', hk⟩
    · simp at h
    · have : _ = k := Int.ofNat_inj.1 (e.symm.trans e')
      exact this ▸ hk
  induction h with
  | start h => exact key rfl (w.first _ h)
  | step hl _ hm ih => exact key rfl (w.next _ hl ih _ hm)

theorem count_set {n : Nat} : ∀ {R : List Bool}, R[n]? = some false → (R.set n true).count false + 1 = R.count false := by
  induction n with
  | zero =>
    intro R h
    cases R with
    | nil => simp at h
    | cons a R => simp at h; subst h; simp
  | succ n ih =>
    intro R h
    cases R with
    | nil => simp at h
    | cons a R =>
      have := ih (R := R) (by simpa using h)
      cases a <;> simp <;> omega
/-- The measure of the walk where a type has at most 7 parts. -/
theorem walk_less {n k k' : Nat} (h : R[n]? = some false) (hk : k' + 1 ≤ k + 7) : (R.set n true).count false * 8 + k' < R.count false * 8 + k := by
  have := count_set h
  omega

theorem parts_len {t : TypeD} (h : t.fFields.length ≤ 6) : (partsD t).length ≤ 7 := by
  unfold partsD
  split <;> simp <;> omega
theorem inside_len {t : TypeD} (h : t.fFields.length ≤ 6) : (insideD t).length ≤ 7 := by
  unfold insideD
  split
  · simp
  · exact parts_len h
end Go.Proofs.Ytcekjdikoamjjaa

namespace Go.Proofs.Ytcekjdikoamjjaa
open Go.ChangeShapes Go.WideShapes Go.ChangeAt Go.RowKit

theorem isEmpty_of {s : ByteArray} (h : s.size = 0) : s.toList.isEmpty = true := by
  rw [ByteArray.toList_eq]
  have h2 : s.data.toList.length = 0 := by simpa using h
  exact List.isEmpty_iff.2 (List.length_eq_zero_iff.1 h2)
theorem isEmpty_not {s : ByteArray} (h : s.size ≠ 0) : s.toList.isEmpty = false := by
  rw [ByteArray.toList_eq]
  cases hh : s.data.toList.isEmpty
  · rfl
  · exact absurd (show s.size = 0 by have h2 := congrArg List.length (List.isEmpty_iff.1 hh); simpa using h2) h
theorem bytes_same (a b : ByteArray) (ok : Bool) (h : ok = true ↔ a = b) : (a.toList == b.toList) = ok := by
  rw [Bool.eq_iff_iff, h, beq_iff_eq, ByteArray.toList_eq, ByteArray.toList_eq]
  constructor
  · intro e
    exact ByteArray.ext (Array.ext' e)
  · intro e
    rw [e]

end Go.Proofs.Ytcekjdikoamjjaa
