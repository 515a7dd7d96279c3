
/-
  What is proved: small facts on slices of structs in memory: how an element lies there (Shape), a slice of such (Rows), a block that is being filled (Filled). No program is named here; no condition beside what each theorem states.
-/
import Derived.Test.YtheomjimknfapaaMem
import Derived.Lib.Hide
namespace Go.Proofs.Ytheomjimknfapaa
open Go.RowKit

/-- How a value of n cells lies in memory, what it leads to in blocks of Q. -/
structure Shape (T : Type) where
  n : Nat
  At : (Nat → Prop) → World → List Value → T → Prop
  len : ∀ {Q w cs t}, At Q w cs t → cs.length = n
  keep : ∀ {Q w w' cs t}, At Q w cs t → (∀ b, Q b → b < w.heap.size → w'.heap[b]? = w.heap[b]?) → w.heap.size ≤ w'.heap.size → At Q w' cs t
  mono : ∀ {Q Q' : Nat → Prop} {w cs t}, At Q w cs t → (∀ b, Q b → b < w.heap.size → Q' b) → At Q' w cs t

/-- All blocks. -/
def Any (_ : Nat) : Prop := True

/-- The slice at a holds the elements l. -/
def Rows {T : Type} (S : Shape T) (Q : Nat → Prop) (w : World) (a : Option Addr) (l : List T) : Prop :=
  ∀ i (h : i < l.length), ∃ b o cs, a = some ⟨b, o, none⟩ ∧ Q b ∧ b < w.heap.size ∧ (∀ j, j < S.n → w.cell? ⟨b, o + i * S.n + j, none⟩ = cs[j]?) ∧ S.At Q w cs l[i]

section
variable {T : Type} {S : Shape T} {Q Q' : Nat → Prop} {w w' : World} {a : Option Addr} {l : List T}

theorem Rows.keep (h : Rows S Q w a l) (hb : ∀ b, Q b → b < w.heap.size → w'.heap[b]? = w.heap[b]?) (hs : w.heap.size ≤ w'.heap.size) : Rows S Q w' a l := fun i hi => by
  obtain ⟨b, o, cs, e, h1, h2, h3, h4⟩ := h i hi
  exact ⟨b, o, cs, e, h1, Nat.lt_of_lt_of_le h2 hs, fun j hj => (World.cell?_of_block (hb b h1 h2)).trans (h3 j hj), S.keep h4 hb hs⟩
theorem Rows.mono (h : Rows S Q w a l) (hq : ∀ b, Q b → b < w.heap.size → Q' b) : Rows S Q' w a l := fun i hi => by
  obtain ⟨b, o, cs, e, h1, h2, h3, h4⟩ := h i hi
  exact ⟨b, o, cs, e, hq b h1 h2, h2, h3, S.mono h4 hq⟩
theorem Rows.below (h : Rows S Q w a l) (hb : Below w.heap.size w w') : Rows S Q w' a l := h.keep (fun b _ hl => hb.block b hl) hb.size
theorem Shape.below {cs : List Value} {t : T} (h : S.At Q w cs t) (hb : Below w.heap.size w w') : S.At Q w' cs t := S.keep h (fun b _ hl => hb.block b hl) hb.size
theorem Rows.drew (h : Rows S Q w a l) : Rows S Q w.drew a l := h.keep (fun _ _ _ => rfl) (Nat.le_refl _)
theorem Rows.any (h : Rows S Q w a l) : Rows S Any w a l := h.mono fun _ _ _ => trivial
theorem Rows.nil : Rows S Q w a [] := fun i hi => absurd hi (by simp)

/-- The first k elements lie in the block's cells. -/
def Filled (S : Shape T) (Q : Nat → Prop) (w : World) (arr : Array Value) (l : List T) (k : Nat) : Prop :=
  ∀ i (h : i < l.length), i < k → ∃ cs, S.At Q w cs l[i] ∧ ∀ j, j < S.n → arr[i * S.n + j]? = cs[j]?

theorem Filled.zero {arr : Array Value} : Filled S Q w arr l 0 := fun i _ h => absurd h (by omega)
theorem Filled.keep {arr : Array Value} {k : Nat} (h : Filled S Q w arr l k) (hb : ∀ b, Q b → b < w.heap.size → w'.heap[b]? = w.heap[b]?) (hs : w.heap.size ≤ w'.heap.size) : Filled S Q w' arr l k := fun i hi hk => by
  obtain ⟨cs, h1, h2⟩ := h i hi hk
  exact ⟨cs, S.keep h1 hb hs, h2⟩
theorem Filled.mono {arr : Array Value} {k : Nat} (h : Filled S Q w arr l k) (hq : ∀ b, Q b → b < w.heap.size → Q' b) : Filled S Q' w arr l k := fun i hi hk => by
  obtain ⟨cs, h1, h2⟩ := h i hi hk
  exact ⟨cs, S.mono h1 hq, h2⟩
theorem Filled.step {arr arr' : Array Value} {k : Nat} {cs : List Value} (hk : k < l.length) (h : Filled S Q w arr l k) (hc : S.At Q w cs l[k]) (hold : ∀ x, x < k * S.n → arr'[x]? = arr[x]?) (hnew : ∀ j, j < S.n → arr'[k * S.n + j]? = cs[j]?) : Filled S Q w arr' l (k + 1) := fun i hi hik => by
  by_cases e : i = k
  · subst e
    exact ⟨cs, hc, hnew⟩
  · obtain ⟨cs', h1, h2⟩ := h i hi (by omega)
    refine ⟨cs', h1, fun j hj => (hold _ ?_).trans (h2 j hj)⟩
    have : (i + 1) * S.n ≤ k * S.n := Nat.mul_le_mul_right _ (by omega)
    rw [Nat.add_mul] at this
    omega
theorem Filled.rows {arr : Array Value} {g : Nat} {t : TypeId} (h : Filled S Q w arr l l.length) (hb : Box w g t arr) (hq : Q g) : Rows S Q w (some ⟨g, 0, none⟩) l := fun i hi => by
  obtain ⟨cs, h1, h2⟩ := h i hi hi
  exact ⟨g, 0, cs, rfl, hq, hb.lt, fun j hj => by rw [Nat.zero_add, hb.cell, h2 j hj], h1⟩
end

/-- Stores one behind the other. -/
def putL (arr : Array Value) (p : Nat) : List Value → Array Value
  | [] => arr
  | c :: cs => putL (arr.setIfInBounds p c) (p + 1) cs
theorem putL_size : ∀ (cs : List Value) (arr : Array Value) (p : Nat), (putL arr p cs).size = arr.size
  | [], _, _ => rfl
  | c :: cs, arr, p => by rw [putL, putL_size cs]; simp
theorem putL_old : ∀ (cs : List Value) (arr : Array Value) (p x : Nat), x < p → (putL arr p cs)[x]? = arr[x]?
  | [], _, _, _, _ => rfl
  | c :: cs, arr, p, x, h => by
    rw [putL, putL_old cs _ _ _ (by omega), Array.getElem?_setIfInBounds, if_neg (by omega)]
theorem putL_new : ∀ (cs : List Value) (arr : Array Value) (p j : Nat), j < cs.length → p + cs.length ≤ arr.size → (putL arr p cs)[p + j]? = cs[j]?
  | [], _, _, _, h, _ => absurd h (by simp)
  | c :: cs, arr, p, j, h, hs => by
    rw [putL]
    cases j with
    | zero =>
      rw [putL_old cs _ _ _ (by omega), Array.getElem?_setIfInBounds, if_pos (show p = p + 0 from rfl), if_pos (by simp at hs; omega)]
      rfl
    | succ j =>
      have := putL_new cs (arr.setIfInBounds p c) (p + 1) j (by simpa using h) (by simp at hs ⊢; omega)
      rw [show p + (j + 1) = p + 1 + j by omega, this]
      rfl

/-- A slice that came in reads so. -/
theorem filled_put {T : Type} {S : Shape T} {Q : Nat → Prop} {w : World} {l : List T} {arr : Array Value} {k : Nat} {cs : List Value} (hk : k < l.length) (h : Filled S Q w arr l k) (hc : S.At Q w cs l[k]) (hs : arr.size = l.length * S.n) : Filled S Q w (putL arr (k * S.n) cs) l (k + 1) := by
  have hl := S.len hc
  refine h.step hk hc (fun x hx => putL_old _ _ _ _ hx) (fun j hj => putL_new _ _ _ _ (by omega) ?_)
  rw [hl, hs]
  have : (k + 1) * S.n ≤ l.length * S.n := Nat.mul_le_mul_right _ (by omega)
  rw [Nat.add_mul] at this
  omega

/-- How much a list holds. -/
def wtL {T : Type} (f : T → Nat) (l : List T) : Nat := l.length + (l.map f).sum
def wtK {T : Type} (f : T → Nat) (l : List T) (k : Nat) : Nat := ((l.take k).map f).sum
theorem wtK_succ {T : Type} (f : T → Nat) {l : List T} {k : Nat} (h : k < l.length) : wtK f l (k + 1) = wtK f l k + f l[k] := by
  unfold wtK
  rw [List.take_succ_eq_append_getElem h, List.map_append, List.sum_append]
  simp only [List.map_cons, List.map_nil, List.sum_cons, List.sum_nil, Nat.add_zero]
theorem wtK_all {T : Type} (f : T → Nat) (l : List T) : wtK f l l.length = (l.map f).sum := by unfold wtK; rw [List.take_length]
theorem wt_mem {T : Type} (f : T → Nat) : ∀ {l : List T} {x : T}, x ∈ l → f x ≤ (l.map f).sum
  | [], _, h => by cases h
  | y :: l, x, h => by
    rcases List.mem_cons.1 h with rfl | h
    · simp
    · have := wt_mem f h
      simp
      omega

/-- Blocks from B on are as they were. -/
structure Above (B : Nat) (w w' : World) : Prop where
  size : w.heap.size ≤ w'.heap.size
  block : ∀ b, B ≤ b → b < w.heap.size → w'.heap[b]? = w.heap[b]?
theorem Above.refl (B : Nat) (w : World) : Above B w w := ⟨Nat.le_refl _, fun _ _ _ => rfl⟩
theorem Above.set {B g : Nat} {w w' : World} (h : Above B w w') (hg : g < B) (i : Nat) (u : Value) : Above B w (w'.setCell ⟨g, i, none⟩ u) :=
  ⟨by simpa [World.setCell] using h.size, fun k hk hl => (Below.heap_setCell w' ⟨g, i, none⟩ u k (fun e => by have : k = g := e; omega)).trans (h.block k hk hl)⟩
theorem Above.keep {B : Nat} {w w' : World} (h : Above B w w') : ∀ b, B ≤ b → b < w.heap.size → w'.heap[b]? = w.heap[b]? := h.block

end Go.Proofs.Ytheomjimknfapaa
