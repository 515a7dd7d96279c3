
/-
  What is proved: plain facts on tables of types, and contracts of the model's l3Kind, l3Fields, l3Type; What is said: the parts of a type, what is reached from numbers by steps, and what a walk keeps that holds a set of the reached and a list of those ahead; the walk may take its next number at either end; the contract of the model's l3Fields. No condition beside what each theorem states.
-/
import Derived.Test.YtllddjmcemcdhaaGreatMkType
import Derived.Test.YtllddjmcemcdhaaGreatName
namespace Go.Proofs.YtllddjmcemcdhaaGreat
open Go.ChangeShapes Go.WideShapes Go.ChangeAt Go.RowKit

/-- The Kind of a type by its number. -/
def kindZ (l : List TypeD) (x : Int) : Int := if h : 0 ≤ x ∧ x.toNat < l.length then l[x.toNat].fKind else 0
theorem kindZ_in {l : List TypeD} {k : Nat} (h : k < l.length) : kindZ l (k : Int) = l[k].fKind := by
  unfold kindZ
  rw [dif_pos ⟨by omega, by omega⟩]
  simp
theorem kindZ_out {l : List TypeD} {x : Int} (h : x < 0 ∨ (l.length : Int) ≤ x) : kindZ l x = 0 := by
  unfold kindZ
  rw [dif_neg (by omega)]

def fieldOk (n : Nat) (f : FieldD) : Prop := (nameP f.fName ∨ (f.fName.size = 0 ∧ f.fMark = 0)) ∧ (0 ≤ f.fMark ∧ f.fMark ≤ 2) ∧ (0 ≤ f.fType ∧ f.fType < (n : Int))
/-- No two with one name. -/
def apartF (fs : List FieldD) (k : Nat) : Prop := ∀ i j (hi : i < fs.length) (hj : j < fs.length), i < j → j < k → fs[j].fName.size ≠ 0 → fs[j].fName ≠ fs[i].fName
def fieldsTo (n : Nat) (fs : List FieldD) (k : Nat) : Prop := (∀ i (hi : i < fs.length), i < k → fieldOk n fs[i]) ∧ apartF fs k
def fieldsOk (n : Nat) (fs : List FieldD) : Prop := fs.length ≤ 6 ∧ fieldsTo n fs fs.length
open Classical in
noncomputable def fieldsB (n : Nat) (fs : List FieldD) : Bool := decide (fieldsOk n fs)
theorem fieldsB_true {n : Nat} {fs : List FieldD} (h : fieldsOk n fs) : fieldsB n fs = true := by unfold fieldsB; simpa using h
theorem fieldsB_false {n : Nat} {fs : List FieldD} (h : ¬ fieldsOk n fs) : fieldsB n fs = false := by unfold fieldsB; simpa using h
theorem fields_bad {n : Nat} {fs : List FieldD} {k : Nat} (h : k < fs.length) (hn : ¬ fieldOk n fs[k]) : fieldsB n fs = false := fieldsB_false fun g => hn (g.2.1 k h h)
theorem fields_twice {n : Nat} {fs : List FieldD} {i k : Nat} (hik : i < k) (h : k < fs.length) (h0 : fs[k].fName.size ≠ 0) (he : fs[k].fName = fs[i].fName) : fieldsB n fs = false :=
  fieldsB_false fun g => g.2.2 i k (by omega) h hik h h0 he
theorem fieldsTo_zero {n : Nat} {fs : List FieldD} : fieldsTo n fs 0 := ⟨fun _ _ h => absurd h (by omega), fun _ _ _ _ _ h => absurd h (by omega)⟩
theorem fieldsTo_next {n : Nat} {fs : List FieldD} {k : Nat} (hk : k < fs.length) (h : fieldsTo n fs k) (h1 : fieldOk n fs[k]) (h2 : fs[k].fName.size ≠ 0 → ∀ i (hi : i < fs.length), i < k → fs[k].fName ≠ fs[i].fName) : fieldsTo n fs (k + 1) :=
  ⟨fun i hi hik => by
    by_cases e : i = k
    · subst e; exact h1
    · exact h.1 i hi (by omega), fun i j hi hj hij hjk h0 => by
    by_cases e : j = k
    · subst e; exact h2 h0 i hi hij
    · exact h.2 i j hi hj hij (by omega) h0⟩

def calledOk (o n : ByteArray) : Prop := (nameP o ∧ nameP n) ∨ (o.size = 0 ∧ n.size = 0)
def typeOk (l : List TypeD) (t : TypeD) : Prop := calledOk t.fOwner t.fName ∧
  ((t.fKind = 4 ∧ (1 ≤ t.fLong ∧ t.fLong ≤ 1000) ∧ (0 ≤ t.fBase ∧ t.fBase < (l.length : Int)) ∧ t.fFields.length = 0) ∨
   (t.fKind = 5 ∧ t.fLong = 0 ∧ (t.fBase = -1 ∨ kindZ l t.fBase = 5) ∧ fieldsOk l.length t.fFields) ∨
   (t.fKind = 6 ∧ t.fLong = 0 ∧ (kindZ l t.fBase = 5 ∨ kindZ l t.fBase = 4) ∧ t.fFields.length = 0))
open Classical in
noncomputable def typeB (l : List TypeD) (t : TypeD) : Bool := decide (typeOk l t)
theorem typeB_true {l : List TypeD} {t : TypeD} (h : typeOk l t) : typeB l t = true := by unfold typeB; simpa using h
theorem typeB_false {l : List TypeD} {t : TypeD} (h : ¬ typeOk l t) : typeB l t = false := by unfold typeB; simpa using h

/-- The Kind of an element, read. -/
theorem kind_cell {w : World} {a : Option Addr} {l : List TypeD} {k : Nat} (hr : Rows typeS Any w a l) (h : k < l.length) : ∃ b o, a = some ⟨b, o, none⟩ ∧ w.cell? ⟨b, o + k * 6, none⟩ = some (.int .i64 l[k].fKind) := by
  obtain ⟨b, o, cs, rfl, _, hb1, hc1, hat⟩ := hr k h
  obtain ⟨a3, c3, rfl, _⟩ := hat
  exact ⟨b, o, rfl, hc1 0 (by decide)⟩

set_option maxHeartbeats 2000000 in
theorem sl3Kind (a : Option Addr) (c : Nat) (l : List TypeD) (n x y : Int) (w : World) (hl : l.length ≤ 1048576) (hx : x ≠ 0) (hy : y ≠ 0) (hr : Rows typeS Any w a l) :
    Calls Tryz.prog 116 #[.slice a l.length c, .int .i64 n, .int .i64 x, .int .i64 y] w fun e w' => e = .returned (.bool (decide (kindZ l n = x ∨ kindZ l n = y))) ∧ w = w' := by
  by_cases hin : 0 ≤ n ∧ n < (l.length : Int)
  · obtain ⟨k, rfl⟩ := Int.eq_ofNat_of_zero_le hin.1
    have hk : k < l.length := by omega
    obtain ⟨b, o, rfl, e0⟩ := kind_cell hr hk
    have hz := kindZ_in hk
    clear hr
    generalize l[k].fKind = z at *
    by_cases h1 : z = x
    · have Hv := Lib.hid (show decide (kindZ l (k : Int) = x ∨ kindZ l (k : Int) = y) = true from decide_eq_true (.inl (hz.trans h1)))
      clear hz
      go_enter Tryz.func116, Tryz.ntmps116
      go_wp2_with (go_at_call 17; refine (sIn_yes _ _ _ _ (by omega) (by omega)).mono ?_; rintro e w' ⟨rfl, rfl⟩)
      go_ret
      exact ⟨by rw [Hv.out]; rfl, rfl⟩
    by_cases h2 : z = y
    · have Hv := Lib.hid (show decide (kindZ l (k : Int) = x ∨ kindZ l (k : Int) = y) = true from decide_eq_true (.inr (hz.trans h2)))
      clear hz
      go_enter Tryz.func116, Tryz.ntmps116
      go_wp2_with (go_at_call 17; refine (sIn_yes _ _ _ _ (by omega) (by omega)).mono ?_; rintro e w' ⟨rfl, rfl⟩)
      go_ret
      exact ⟨by rw [Hv.out]; rfl, rfl⟩
    · have Hv := Lib.hid (show decide (kindZ l (k : Int) = x ∨ kindZ l (k : Int) = y) = false from decide_eq_false (by rw [hz]; rintro (h | h); exact h1 h; exact h2 h))
      have d1 : (z == x) = false := beq_eq_false_iff_ne.2 h1
      have d2 : (z == y) = false := beq_eq_false_iff_ne.2 h2
      clear hz
      go_enter Tryz.func116, Tryz.ntmps116
      go_wp2_with (go_at_call 17; refine (sIn_yes _ _ _ _ (by omega) (by omega)).mono ?_; rintro e w' ⟨rfl, rfl⟩)
      go_ret
      exact ⟨by rw [Hv.out]; rfl, rfl⟩
  · have Hv := Lib.hid (show decide (kindZ l n = x ∨ kindZ l n = y) = false from decide_eq_false (by rw [kindZ_out (by omega)]; rintro (h | h); exact hx h.symm; exact hy h.symm))
    clear hr
    go_enter Tryz.func116, Tryz.ntmps116
    go_wp2_with (go_at_call 17; refine (sIn_no _ _ _ _ (by omega)).mono ?_; rintro e w' ⟨rfl, rfl⟩)
    go_ret
    exact ⟨by rw [Hv.out]; rfl, rfl⟩

end Go.Proofs.YtllddjmcemcdhaaGreat

namespace Go.Proofs.YtllddjmcemcdhaaGreat

def partsD (t : TypeD) : List Int := (if t.fBase = -1 then [] else [t.fBase]) ++ t.fFields.map FieldD.fType
def insideD (t : TypeD) : List Int := if t.fKind = 6 then [] else partsD t

inductive Reach (l : List TypeD) (steps : TypeD → List Int) (st : List Int) : Nat → Prop
  | start {n : Nat} : (n : Int) ∈ st → Reach l steps st n
  | step {n m : Nat} (h : n < l.length) : Reach l steps st n → (m : Int) ∈ steps l[n] → Reach l steps st m

def StepsIn (l : List TypeD) (steps : TypeD → List Int) : Prop := ∀ n (h : n < l.length), ∀ x ∈ steps l[n], 0 ≤ x ∧ x < (l.length : Int)
def Got (R : List Bool) (x : Int) : Prop := ∃ n : Nat, x = (n : Int) ∧ R[n]? = some true

structure Walk (l : List TypeD) (steps : TypeD → List Int) (st : List Int) (R : List Bool) (S : List Int) : Prop where
  long : l.length ≤ R.length
  got : ∀ n : Nat, R[n]? = some true → n < l.length ∧ Reach l steps st n
  ahead : ∀ x ∈ S, ∃ n : Nat, x = (n : Int) ∧ n < l.length ∧ Reach l steps st n
  first : ∀ x ∈ st, x ∈ S ∨ Got R x
  next : ∀ n (h : n < l.length), R[n]? = some true → ∀ x ∈ steps l[n], x ∈ S ∨ Got R x

variable {l : List TypeD} {steps : TypeD → List Int} {st : List Int} {R : List Bool} {S S' : List Int}

theorem Walk.start {k : Nat} (hk : l.length ≤ k) (h : ∀ x ∈ st, 0 ≤ x ∧ x < (l.length : Int)) : Walk l steps st (List.replicate k false) st where
  long := by simpa using hk
  got := fun n h => by
    rw [List.getElem?_replicate] at h
    split at h <;> simp at h
  ahead := fun x hx => by
    obtain ⟨h0, h1⟩ := h x hx
    obtain ⟨n, rfl⟩ := Int.eq_ofNat_of_zero_le h0
    exact ⟨n, rfl, by omega, .start hx⟩
  first := fun x hx => .inl hx
  next := fun n _ h => by
    rw [List.getElem?_replicate] at h
    split at h <;> simp at h

theorem Walk.skip {n : Nat} (w : Walk l steps st R S) (hS : ∀ y, y ∈ S ↔ y = (n : Int) ∨ y ∈ S') (hn : R[n]? = some true) : Walk l steps st R S' where
  long := w.long
  got := w.got
  ahead := fun x hx => w.ahead x ((hS x).2 (.inr hx))
  first := fun x hx => by
    rcases w.first x hx with h | h
    · rcases (hS x).1 h with rfl | h
      · exact .inr ⟨n, rfl, hn⟩
      · exact .inl h
    · exact .inr h
  next := fun m hm hr x hx => by
    rcases w.next m hm hr x hx with h | h
    · rcases (hS x).1 h with rfl | h
      · exact .inr ⟨n, rfl, hn⟩
      · exact .inl h
    · exact .inr h

theorem Got.set {x : Int} {n : Nat} (h : Got R x) : Got (R.set n true) x := by
  obtain ⟨m, rfl, hm⟩ := h
  refine ⟨m, rfl, ?_⟩
  have hlt : m < R.length := (List.getElem?_eq_some_iff.1 hm).1
  rw [List.getElem?_set]
  split
  · simp; omega
  · exact hm

theorem Got.new {n : Nat} (h : n < R.length) : Got (R.set n true) (n : Int) := ⟨n, rfl, by rw [List.getElem?_set]; simp [h]⟩

theorem Walk.take {n : Nat} (hn : n < l.length) (w : Walk l steps st R S) (hi : StepsIn l steps) (hS : ∀ y, y ∈ S → y = (n : Int) ∨ y ∈ S') (hS' : ∀ y, y ∈ S' → y ∈ S ∨ y ∈ steps l[n]) (hN : ∀ y ∈ steps l[n], y ∈ S') (hin : (n : Int) ∈ S) : Walk l steps st (R.set n true) S' where
  long := by rw [List.length_set]; exact w.long
  got := fun m h => by
    rw [List.getElem?_set] at h
    split at h
    · rename_i e
      subst e
      obtain ⟨k, e, hk, hr⟩ := w.ahead _ hin
      have : n = k := by omega
      subst this
      exact ⟨hk, hr⟩
    · exact w.got m h
  ahead := fun x hx => by
    rcases hS' x hx with h | h
    · exact w.ahead x h
    · obtain ⟨h0, h1⟩ := hi n hn x h
      obtain ⟨m, rfl⟩ := Int.eq_ofNat_of_zero_le h0
      obtain ⟨k, e, hk, hr⟩ := w.ahead _ hin
      have : n = k := by omega
      subst this
      exact ⟨m, rfl, by omega, .step hn hr h⟩
  first := fun x hx => by
    rcases w.first x hx with h | h
    · rcases hS x h with rfl | h
      · exact .inr (Got.new (Nat.lt_of_lt_of_le hn w.long))
      · exact .inl h
    · exact .inr h.set
  next := fun m hm hr x hx => by
    rw [List.getElem?_set] at hr
    split at hr
    · rename_i e
      subst e
      exact .inl (hN x hx)
    · rcases w.next m hm hr x hx with h | h
      · rcases hS x h with rfl | h
        · exact .inr (Got.new (Nat.lt_of_lt_of_le hn w.long))
        · exact .inl h
      · exact .inr h.set

/-- Where nothing is ahead, the set is what is reached. -/
theorem Walk.done (w : Walk l steps st R []) (n : Nat) : R[n]? = some true ↔ Reach l steps st n := by
  refine ⟨fun h => (w.got n h).2, fun h => ?_⟩
  have key : ∀ {x : Int} {m : Nat}, x = (m : Int) → (x ∈ ([] : List Int) ∨ Got R x) → R[m]? = some true := fun e h => by
    rcases h with h | ⟨k, e', hk⟩
    · simp at h
    · have : _ = k := Int.ofNat_inj.1 (e.symm.trans e')
      exact this ▸ hk
  induction h with
  | start h => exact key rfl (w.first _ h)
  | step hl _ hm ih => exact key rfl (w.next _ hl ih _ hm)

theorem count_set {n : Nat} : ∀ {R : List Bool}, R[n]? = some false → (R.set n true).count false + 1 = R.count false := by
  induction n with
  | zero =>
    intro R h
    cases R with
    | nil => simp at h
    | cons a R => simp at h; subst h; simp
  | succ n ih =>
    intro R h
    cases R with
    | nil => simp at h
    | cons a R =>
      have := ih (R := R) (by simpa using h)
      cases a <;> simp <;> omega
/-- The measure of the walk where a type has at most 7 parts. -/
theorem walk_less {n k k' : Nat} (h : R[n]? = some false) (hk : k' + 1 ≤ k + 7) : (R.set n true).count false * 8 + k' < R.count false * 8 + k := by
  have := count_set h
  omega

theorem parts_len {t : TypeD} (h : t.fFields.length ≤ 6) : (partsD t).length ≤ 7 := by
  unfold partsD
  split <;> simp <;> omega
theorem inside_len {t : TypeD} (h : t.fFields.length ≤ 6) : (insideD t).length ≤ 7 := by
  unfold insideD
  split
  · simp
  · exact parts_len h
end Go.Proofs.YtllddjmcemcdhaaGreat

namespace Go.Proofs.YtllddjmcemcdhaaGreat
open Go.ChangeShapes Go.WideShapes Go.ChangeAt Go.RowKit

theorem isEmpty_of {s : ByteArray} (h : s.size = 0) : s.toList.isEmpty = true := by
  rw [ByteArray.toList_eq]
  have h2 : s.data.toList.length = 0 := by simpa using h
  exact List.isEmpty_iff.2 (List.length_eq_zero_iff.1 h2)
theorem isEmpty_not {s : ByteArray} (h : s.size ≠ 0) : s.toList.isEmpty = false := by
  rw [ByteArray.toList_eq]
  cases hh : s.data.toList.isEmpty
  · rfl
  · exact absurd (show s.size = 0 by have h2 := congrArg List.length (List.isEmpty_iff.1 hh); simpa using h2) h
theorem bytes_same (a b : ByteArray) (ok : Bool) (h : ok = true ↔ a = b) : (a.toList == b.toList) = ok := by
  rw [Bool.eq_iff_iff, h, beq_iff_eq, ByteArray.toList_eq, ByteArray.toList_eq]
  constructor
  · intro e
    exact ByteArray.ext (Array.ext' e)
  · intro e
    rw [e]

set_option maxRecDepth 100000 in
set_option maxHeartbeats 8000000 in
theorem sl3Fields (a fa : Option Addr) (c fc n : Nat) (fs : List FieldD) (w : World) (hl : n ≤ 1048576) (hf : fs.length ≤ 1048576) (hfc : fs.length ≤ fc) (hs : ∀ f ∈ fs, f.fName.size ≤ maxLen) (hr : Rows fieldS Any w fa fs) :
    Calls Tryz.prog 117 #[.slice a n c, .slice fa fs.length fc] w fun e w' => e = .returned (.bool (fieldsB n fs)) ∧ Below w.heap.size w w' := by
  have Hr := Lib.hid hr
  have Hs := Lib.hid hs
  clear hr hs
  go_enter Tryz.func117, Tryz.ntmps117
  go_wp2_with fail
  go_loopw [11] (fun i wr => ∃ k : Nat, i = .int .i64 k ∧ k ≤ fs.length ∧ fieldsTo n fs k ∧ Below w.heap.size w wr) (fun i _ => fs.length - (intOf i).toNat)
  case atStart => exact ⟨0, rfl, by omega, fieldsTo_zero, Below.refl _ _⟩
  case round =>
    obtain ⟨k, rfl, hk, hto, hbel⟩ := hrel
    have Hto := Lib.hid hto
    clear hto
    obtain ⟨wo, hwo⟩ : ∃ x, x = wr := ⟨_, rfl⟩
    subst hwo
    by_cases hlt : k < fs.length
    · obtain ⟨b, o, cs, rfl, _, hb1, hc1, hat⟩ := Hr.out k hlt
      obtain rfl : cs = [.string fs[k].fName, .int .i64 fs[k].fMark, .int .i64 fs[k].fType] := hat
      have hn : fieldS.n = 3 := rfl
      have e0 := (hbel.cell (p := ⟨b, o + k * 3 + 0, none⟩) hb1).trans (hc1 0 (by decide))
      have e1 := (hbel.cell (p := ⟨b, o + k * 3 + 1, none⟩) hb1).trans (hc1 1 (by decide))
      have e2 := (hbel.cell (p := ⟨b, o + k * 3 + 2, none⟩) hb1).trans (hc1 2 (by decide))
      simp at e0 e1 e2
      have Hbel := Lib.hid hbel
      have Hbad := Lib.hid (fields_bad (n := n) hlt)
      have Htw := Lib.hid (fun i (hik : i < k) => fields_twice (n := n) hik hlt)
      have Hnx := Lib.hid (fieldsTo_next (n := n) hlt Hto.out)
      have hsz := Hs.out fs[k] (List.getElem_mem hlt)
      clear hbel hc1
      generalize hfk : fs[k] = f at *
      have Hfk := Lib.hid hfk
      clear hfk
      by_cases hP1 : nameP f.fName ∨ (f.fName.size = 0 ∧ f.fMark = 0)
      · by_cases hP2 : 0 ≤ f.fMark ∧ f.fMark ≤ 2
        · by_cases hP3 : 0 ≤ f.fType ∧ f.fType ≤ (n : Int) - 1
          · have Hok := Lib.hid (show fieldOk n f from ⟨hP1, hP2, hP3.1, by omega⟩)
            by_cases hnn : nameP f.fName
            · have hq := nameB_true hnn
              have hz : f.fName.size ≠ 0 := by have := hnn.1; omega
              have he := isEmpty_not hz
              clear hP1 hnn
              go_wp2_with (first | (go_at_call 39; refine (sl1Name _ _ hsz).mono ?_; rintro e w' ⟨rfl, rfl⟩) | (go_at_call 17; refine (sIn_yes _ _ _ _ (by omega) (by omega)).mono ?_; rintro e w' ⟨rfl, rfl⟩) | (go_at_call 17; refine (sIn_no _ _ _ _ (by omega)).mono ?_; rintro e w' ⟨rfl, rfl⟩))
              go_loopw [49] (fun i wr => ∃ q : Nat, i = .int .i64 q ∧ q ≤ k ∧ (f.fName.size ≠ 0 → ∀ i (hi : i < fs.length), i < q → f.fName ≠ fs[i].fName) ∧ Below (wo.alloc (.cells #[.string f.fName, .int .i64 f.fMark, .int .i64 f.fType] 113)).heap.size (wo.alloc (.cells #[.string f.fName, .int .i64 f.fMark, .int .i64 f.fType] 113)) wr) (fun i _ => k - (intOf i).toNat)
              case atStart => exact ⟨0, rfl, by omega, fun _ _ _ h => absurd h (by omega), Below.refl _ _⟩
              case round =>
                obtain ⟨q, rfl, hqk, hno, hbj⟩ := hrel
                have Hno := Lib.hid hno
                have hB := (Box.new wo 113 #[.string f.fName, .int .i64 f.fMark, .int .i64 f.fType]).below hbj (by simp)
                have y0 := hB.cell 0
                have l1 := hB.lt
                simp at y0
                have Bj := Lib.hid ((Hbel.out.alloc Hbel.out.size (.cells #[.string f.fName, .int .i64 f.fMark, .int .i64 f.fType] 113)).trans (hbj.mono (Hbel.out.alloc Hbel.out.size _).size))
                have Hbj := Lib.hid hbj
                clear hno hB hbj
                by_cases hqlt : q < k
                · have hql : q < fs.length := by omega
                  obtain ⟨b', o', cs', hbo, _, hb1', hc1', hat'⟩ := Hr.out q hql
                  injection hbo with hbo
                  injection hbo with hbo1 hbo2
                  subst hbo1
                  subst hbo2
                  obtain rfl : cs' = [.string fs[q].fName, .int .i64 fs[q].fMark, .int .i64 fs[q].fType] := hat'
                  have g0 := (Bj.out.cell (p := ⟨b, o + q * 3 + 0, none⟩) hb1).trans (hc1' 0 (by decide))
                  have g1 := (Bj.out.cell (p := ⟨b, o + q * 3 + 1, none⟩) hb1).trans (hc1' 1 (by decide))
                  have g2 := (Bj.out.cell (p := ⟨b, o + q * 3 + 2, none⟩) hb1).trans (hc1' 2 (by decide))
                  simp at g0 g1 g2
                  have Hsame := Lib.hid (fun h0 (h : f.fName = fs[q].fName) => Htw.out q hqlt h0 h)
                  have Hno2 := Lib.hid (show ∀ (h : f.fName.size ≠ 0 → f.fName ≠ fs[q].fName), f.fName.size ≠ 0 → ∀ i (hi : i < fs.length), i < q + 1 → f.fName ≠ fs[i].fName from fun h h0 i hi hiq => by
                    by_cases e : i = q
                    · subst e; exact h h0
                    · exact Hno.out h0 i hi (by omega))
                  have l2 : wo.heap.size ≠ wr.heap.size := by omega
                  clear hc1'
                  generalize fs[q] = g at *
                  by_cases hsm : f.fName = g.fName
                  · have Hv := Lib.hid (Hsame.out hz hsm)
                    have hb := bytes_same f.fName g.fName true (by simp [hsm])
                    clear hsm
                    go_wp2_with fail
                    go_ret
                    exact ⟨by rw [Hv.out]; rfl, Bj.out.alloc Bj.out.size _⟩
                  · have Hn := Lib.hid (Hno2.out (fun _ => hsm))
                    have hb := bytes_same f.fName g.fName false (by simp [hsm])
                    clear hsm
                    go_wp2_with fail
                    exact ⟨⟨q + 1, by congr 1, by omega, Hn.out, Hbj.out.alloc Hbj.out.size _⟩, by simp [intOf]; omega⟩
                · obtain rfl : q = k := by omega
                  have Hn := Lib.hid (Hnx.out Hok.out Hno.out)
                  go_wp2_with fail
                  exact ⟨⟨q + 1, by congr 1, by omega, Hn.out, Bj.out⟩, by simp [intOf]; omega⟩
            · have hq := nameB_false hnn
              have hz := (hP1.resolve_left hnn).1
              have he := isEmpty_of hz
              have hm : f.fMark = 0 := (hP1.resolve_left hnn).2
              clear hP1 hnn
              go_wp2_with (first | (go_at_call 39; refine (sl1Name _ _ hsz).mono ?_; rintro e w' ⟨rfl, rfl⟩) | (go_at_call 17; refine (sIn_yes _ _ _ _ (by omega) (by omega)).mono ?_; rintro e w' ⟨rfl, rfl⟩) | (go_at_call 17; refine (sIn_no _ _ _ _ (by omega)).mono ?_; rintro e w' ⟨rfl, rfl⟩))
              go_loopw [49] (fun i wr => ∃ q : Nat, i = .int .i64 q ∧ q ≤ k ∧ (f.fName.size ≠ 0 → ∀ i (hi : i < fs.length), i < q → f.fName ≠ fs[i].fName) ∧ Below (wo.alloc (.cells #[.string f.fName, .int .i64 0, .int .i64 f.fType] 113)).heap.size (wo.alloc (.cells #[.string f.fName, .int .i64 0, .int .i64 f.fType] 113)) wr) (fun i _ => k - (intOf i).toNat)
              case atStart => exact ⟨0, rfl, by omega, fun _ _ _ h => absurd h (by omega), Below.refl _ _⟩
              case round =>
                obtain ⟨q, rfl, hqk, hno, hbj⟩ := hrel
                have Hno := Lib.hid hno
                have hB := (Box.new wo 113 #[.string f.fName, .int .i64 0, .int .i64 f.fType]).below hbj (by simp)
                have y0 := hB.cell 0
                have l1 := hB.lt
                simp at y0
                have Bj := Lib.hid ((Hbel.out.alloc Hbel.out.size (.cells #[.string f.fName, .int .i64 0, .int .i64 f.fType] 113)).trans (hbj.mono (Hbel.out.alloc Hbel.out.size _).size))
                have Hbj := Lib.hid hbj
                clear hno hB hbj
                by_cases hqlt : q < k
                · have hql : q < fs.length := by omega
                  obtain ⟨b', o', cs', hbo, _, hb1', hc1', hat'⟩ := Hr.out q hql
                  injection hbo with hbo
                  injection hbo with hbo1 hbo2
                  subst hbo1
                  subst hbo2
                  obtain rfl : cs' = [.string fs[q].fName, .int .i64 fs[q].fMark, .int .i64 fs[q].fType] := hat'
                  have g0 := (Bj.out.cell (p := ⟨b, o + q * 3 + 0, none⟩) hb1).trans (hc1' 0 (by decide))
                  have g1 := (Bj.out.cell (p := ⟨b, o + q * 3 + 1, none⟩) hb1).trans (hc1' 1 (by decide))
                  have g2 := (Bj.out.cell (p := ⟨b, o + q * 3 + 2, none⟩) hb1).trans (hc1' 2 (by decide))
                  simp at g0 g1 g2
                  have Hsame := Lib.hid (fun h0 (h : f.fName = fs[q].fName) => Htw.out q hqlt h0 h)
                  have Hno2 := Lib.hid (show ∀ (h : f.fName.size ≠ 0 → f.fName ≠ fs[q].fName), f.fName.size ≠ 0 → ∀ i (hi : i < fs.length), i < q + 1 → f.fName ≠ fs[i].fName from fun h h0 i hi hiq => by
                    by_cases e : i = q
                    · subst e; exact h h0
                    · exact Hno.out h0 i hi (by omega))
                  have l2 : wo.heap.size ≠ wr.heap.size := by omega
                  clear hc1'
                  generalize fs[q] = g at *
                  have Hn := Lib.hid (Hno2.out (fun h => absurd hz h))
                  go_wp2_with fail
                  exact ⟨⟨q + 1, by congr 1, by omega, Hn.out, Hbj.out.alloc Hbj.out.size _⟩, by simp [intOf]; omega⟩
                · obtain rfl : q = k := by omega
                  have Hn := Lib.hid (Hnx.out Hok.out Hno.out)
                  go_wp2_with fail
                  exact ⟨⟨q + 1, by congr 1, by omega, Hn.out, Bj.out⟩, by simp [intOf]; omega⟩
          · have Hv := Lib.hid (Hbad.out (fun h => hP3 ⟨h.2.2.1, by have := h.2.2.2; omega⟩))
            by_cases hnn : nameP f.fName
            · have hq := nameB_true hnn
              clear hP1
              go_wp2_with (first | (go_at_call 39; refine (sl1Name _ _ hsz).mono ?_; rintro e w' ⟨rfl, rfl⟩) | (go_at_call 17; refine (sIn_yes _ _ _ _ (by omega) (by omega)).mono ?_; rintro e w' ⟨rfl, rfl⟩) | (go_at_call 17; refine (sIn_no _ _ _ _ (by omega)).mono ?_; rintro e w' ⟨rfl, rfl⟩))
              go_ret
              exact ⟨by rw [Hv.out]; rfl, Hbel.out.alloc Hbel.out.size _⟩
            · have hq := nameB_false hnn
              have hz := (hP1.resolve_left hnn).1
              have he := isEmpty_of hz
              have hm : f.fMark = 0 := (hP1.resolve_left hnn).2
              clear hP1
              go_wp2_with (first | (go_at_call 39; refine (sl1Name _ _ hsz).mono ?_; rintro e w' ⟨rfl, rfl⟩) | (go_at_call 17; refine (sIn_yes _ _ _ _ (by omega) (by omega)).mono ?_; rintro e w' ⟨rfl, rfl⟩) | (go_at_call 17; refine (sIn_no _ _ _ _ (by omega)).mono ?_; rintro e w' ⟨rfl, rfl⟩))
              go_ret
              exact ⟨by rw [Hv.out]; rfl, Hbel.out.alloc Hbel.out.size _⟩
        · have Hv := Lib.hid (Hbad.out (fun h => hP2 h.2.1))
          by_cases hnn : nameP f.fName
          · have hq := nameB_true hnn
            clear hP1
            go_wp2_with (first | (go_at_call 39; refine (sl1Name _ _ hsz).mono ?_; rintro e w' ⟨rfl, rfl⟩) | (go_at_call 17; refine (sIn_yes _ _ _ _ (by omega) (by omega)).mono ?_; rintro e w' ⟨rfl, rfl⟩) | (go_at_call 17; refine (sIn_no _ _ _ _ (by omega)).mono ?_; rintro e w' ⟨rfl, rfl⟩))
            go_ret
            exact ⟨by rw [Hv.out]; rfl, Hbel.out.alloc Hbel.out.size _⟩
          · exact absurd (show 0 ≤ f.fMark ∧ f.fMark ≤ 2 by have := (hP1.resolve_left hnn).2; omega) hP2
      · have Hv := Lib.hid (Hbad.out (fun h => hP1 h.1))
        have hnn : ¬ nameP f.fName := fun h => hP1 (.inl h)
        have hq := nameB_false hnn
        by_cases hz : f.fName.size = 0
        · have he := isEmpty_of hz
          have hm : ¬ f.fMark = 0 := fun h => hP1 (.inr ⟨hz, h⟩)
          have d1 : (f.fMark == 0) = false := beq_eq_false_iff_ne.2 hm
          clear hP1 hnn
          go_wp2_with (go_at_call 39; refine (sl1Name _ _ hsz).mono ?_; rintro e w' ⟨rfl, rfl⟩)
          go_ret
          exact ⟨by rw [Hv.out]; rfl, Hbel.out.alloc Hbel.out.size _⟩
        · have he := isEmpty_not hz
          clear hP1 hnn
          go_wp2_with (go_at_call 39; refine (sl1Name _ _ hsz).mono ?_; rintro e w' ⟨rfl, rfl⟩)
          go_ret
          exact ⟨by rw [Hv.out]; rfl, Hbel.out.alloc Hbel.out.size _⟩
    · obtain rfl : k = fs.length := by omega
      have Hbel := Lib.hid hbel
      clear hbel
      by_cases h6 : fs.length ≤ 6
      · have Ht := Lib.hid (fieldsB_true (n := n) ⟨h6, Hto.out⟩)
        have d : decide ((fs.length : Int) ≤ 6) = true := decide_eq_true (by omega)
        go_wp2_with fail
        go_ret
        exact ⟨by rw [Ht.out]; rfl, Hbel.out⟩
      · have Ht := Lib.hid (fieldsB_false (n := n) (fs := fs) (fun h => h6 h.1))
        have d : decide ((fs.length : Int) ≤ 6) = false := decide_eq_false (by omega)
        go_wp2_with fail
        go_ret
        exact ⟨by rw [Ht.out]; rfl, Hbel.out⟩

end Go.Proofs.YtllddjmcemcdhaaGreat
