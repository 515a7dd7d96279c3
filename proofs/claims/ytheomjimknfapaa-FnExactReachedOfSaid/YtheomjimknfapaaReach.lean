
/-
  What is said: the parts of a type, what is reached from numbers by steps, and what a walk keeps that holds a set of the reached and a list of those ahead; the walk may take its next number at either end. No condition beside what each theorem states.
-/
import Derived.Test.YtheomjimknfapaaTypesP
namespace Go.Proofs.Ytheomjimknfapaa

def partsD (t : TypeD) : List Int := (if t.fBase = -1 then [] else [t.fBase]) ++ t.fFields.map FieldD.fType
def insideD (t : TypeD) : List Int := if t.fKind = 6 then [] else partsD t

inductive Reach (l : List TypeD) (steps : TypeD → List Int) (st : List Int) : Nat → Prop
  | start {n : Nat} : (n : Int) ∈ st → Reach l steps st n
  | step {n m : Nat} (h : n < l.length) : Reach l steps st n → (m : Int) ∈ steps l[n] → Reach l steps st m

def StepsIn (l : List TypeD) (steps : TypeD → List Int) : Prop := ∀ n (h : n < l.length), ∀ x ∈ steps l[n], 0 ≤ x ∧ x < (l.length : Int)
def Got (R : List Bool) (x : Int) : Prop := ∃ n : Nat, x = (n : Int) ∧ R[n]? = some true

structure Walk (l : List TypeD) (steps : TypeD → List Int) (st : List Int) (R : List Bool) (S : List Int) : Prop where
  long : l.length ≤ R.length
  got : ∀ n : Nat, R[n]? = some true → n < l.length ∧ Reach l steps st n
  ahead : ∀ x ∈ S, ∃ n : Nat, x = (n : Int) ∧ n < l.length ∧ Reach l steps st n
  first : ∀ x ∈ st, x ∈ S ∨ Got R x
  next : ∀ n (h : n < l.length), R[n]? = some true → ∀ x ∈ steps l[n], x ∈ S ∨ Got R x

variable {l : List TypeD} {steps : TypeD → List Int} {st : List Int} {R : List Bool} {S S' : List Int}

theorem Walk.start {k : Nat} (hk : l.length ≤ k) (h : ∀ x ∈ st, 0 ≤ x ∧ x < (l.length : Int)) : Walk l steps st (List.replicate k false) st where
  long := by simpa using hk
  got := fun n h => by
    rw [List.getElem?_replicate] at h
    split at h <;> simp at h
  ahead := fun x hx => by
    obtain ⟨h0, h1⟩ := h x hx
    obtain ⟨n, rfl⟩ := Int.eq_ofNat_of_zero_le h0
    exact ⟨n, rfl, by omega, .start hx⟩
  first := fun x hx => .inl hx
  next := fun n _ h => by
    rw [List.getElem?_replicate] at h
    split at h <;> simp at h

theorem Walk.skip {n : Nat} (w : Walk l steps st R S) (hS : ∀ y, y ∈ S ↔ y = (n : Int) ∨ y ∈ S') (hn : R[n]? = some true) : Walk l steps st R S' where
  long := w.long
  got := w.got
  ahead := fun x hx => w.ahead x ((hS x).2 (.inr hx))
  first := fun x hx => by
    rcases w.first x hx with h | h
    · rcases (hS x).1 h with rfl | h
      · exact .inr ⟨n, rfl, hn⟩
      · exact .inl h
    · exact .inr h
  next := fun m hm hr x hx => by
    rcases w.next m hm hr x hx with h | h
    · rcases (hS x).1 h with rfl | h
      · exact .inr ⟨n, rfl, hn⟩
      · exact .inl h
    · exact .inr h

theorem Got.set {x : Int} {n : Nat} (h : Got R x) : Got (R.set n true) x := by
  obtain ⟨m, rfl, hm⟩ := h
  refine ⟨m, rfl, ?_⟩
  have hlt : m < R.length := (List.getElem?_eq_some_iff.1 hm).1
  rw [List.getElem?_set]
  split
  · simp; omega
  · exact hm

theorem Got.new {n : Nat} (h : n < R.length) : Got (R.set n true) (n : Int) := ⟨n, rfl, by rw [List.getElem?_set]; simp [h]⟩

theorem Walk.take {n : Nat} (hn : n < l.length) (w : Walk l steps st R S) (hi : StepsIn l steps) (hS : ∀ y, y ∈ S → y = (n : Int) ∨ y ∈ S') (hS' : ∀ y, y ∈ S' → y ∈ S ∨ y ∈ steps l[n]) (hN : ∀ y ∈ steps l[n], y ∈ S') (hin : (n : Int) ∈ S) : Walk l steps st (R.set n true) S' where
  long := by rw [List.length_set]; exact w.long
  got := fun m h => by
    rw [List.getElem?_set] at h
    split at h
    · rename_i e
      subst e
      obtain ⟨k, e, hk, hr⟩ := w.ahead _ hin
      have : n = k := by omega
      subst this
      exact ⟨hk, hr⟩
    · exact w.got m h
  ahead := fun x hx => by
    rcases hS' x hx with h | h
    · exact w.ahead x h
    · obtain ⟨h0, h1⟩ := hi n hn x h
      obtain ⟨m, rfl⟩ := Int.eq_ofNat_of_zero_le h0
      obtain ⟨k, e, hk, hr⟩ := w.ahead _ hin
      have : n = k := by omega
      subst this
      exact ⟨m, rfl, by omega, .step hn hr h⟩
  first := fun x hx => by
    rcases w.first x hx with h | h
    · rcases hS x h with rfl | h
      · exact .inr (Got.new (Nat.lt_of_lt_of_le hn w.long))
      · exact .inl h
    · exact .inr h.set
  next := fun m hm hr x hx => by
    rw [List.getElem?_set] at hr
    split at hr
    · rename_i e
      subst e
      exact .inl (hN x hx)
    · rcases w.next m hm hr x hx with h | h
      · rcases hS x h with rfl | h
        · exact .inr (Got.new (Nat.lt_of_lt_of_le hn w.long))
        · exact .inl h
      · exact .inr h.set

/-- Where nothing is ahead, the set is what is reached. -/
theorem Walk.done (w : Walk l steps st R []) (n : Nat) : R[n]? = some true ↔ Reach l steps st n := by
  refine ⟨fun h => (w.got n h).2, fun h => ?_⟩
  have key : ∀ {x : Int} {m : Nat}, x = (m : Int) → (x ∈ ([] : List Int) ∨ Got R x) → R[m]? = some true := fun e h => by
    rcases h with h | ⟨k, e', hk⟩
    · simp at h
    · have : _ = k := Int.ofNat_inj.1 (e.symm.trans e')
      exact this ▸ hk
  induction h with
  | start h => exact key rfl (w.first _ h)
  | step hl _ hm ih => exact key rfl (w.next _ hl ih _ hm)

theorem count_set {n : Nat} : ∀ {R : List Bool}, R[n]? = some false → (R.set n true).count false + 1 = R.count false := by
  induction n with
  | zero =>
    intro R h
    cases R with
    | nil => simp at h
    | cons a R => simp at h; subst h; simp
  | succ n ih =>
    intro R h
    cases R with
    | nil => simp at h
    | cons a R =>
      have := ih (R := R) (by simpa using h)
      cases a <;> simp <;> omega
/-- The measure of the walk where a type has at most 7 parts. -/
theorem walk_less {n k k' : Nat} (h : R[n]? = some false) (hk : k' + 1 ≤ k + 7) : (R.set n true).count false * 8 + k' < R.count false * 8 + k := by
  have := count_set h
  omega

theorem parts_len {t : TypeD} (h : t.fFields.length ≤ 6) : (partsD t).length ≤ 7 := by
  unfold partsD
  split <;> simp <;> omega
theorem inside_len {t : TypeD} (h : t.fFields.length ≤ 6) : (insideD t).length ≤ 7 := by
  unfold insideD
  split
  · simp
  · exact parts_len h
end Go.Proofs.Ytheomjimknfapaa
