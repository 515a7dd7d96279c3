
/-
  What is proved: small facts on memory that the walks of this seat use: a block that is known whole, and a call that turns one block alone; small facts on slices of structs in memory: how an element lies there (Shape), a slice of such (Rows), a block that is being filled (Filled); small facts on structs that are results, on arrays that are stored whole; a slice of structs that came in, opened at every element; numbers and texts as elements. No condition beside what each theorem states.
-/
import Derived.Below
import Derived.Laws.OwnMore
import Derived.Deep.Draws
import Derived.Laws.Rows
import Derived.Lib.Hide
import Derived.Test.YtllddjmcemcdhaaGreatRows
import Derived.Laws.MakeOwn
import Derived.Laws.ResultCell
import Derived.Deep.Slices
import Derived.ChangeMaps
import Derived.OpenShut
namespace Go.Proofs.YtllddjmcemcdhaaGreat
open Go.RowKit

/-- Block g holds just the cells cs. -/
def Box (w : World) (g : Nat) (t : TypeId) (cs : Array Value) : Prop := w.heap[g]? = some (.cells cs t (0, 0))
/-- Of what was there only block g has turned. -/
def Only (g : Nat) (w w' : World) : Prop := w.grownBy w' (some g)

section
variable {w w' w'' : World} {g : Nat} {t : TypeId} {cs : Array Value}
theorem Box.lt (h : Box w g t cs) : g < w.heap.size := by
  unfold Box at h
  by_cases hg : g < w.heap.size
  · exact hg
  · rw [Array.getElem?_eq_none (by omega)] at h; cases h
theorem Box.cell (h : Box w g t cs) (i : Nat) : w.cell? ⟨g, i, none⟩ = cs[i]? := cell_of_row w g i cs t (0, 0) h
theorem Box.free (h : Box w g t cs) (i : Nat) : w.frozen? ⟨g, i, none⟩ = false := by
  unfold Box at h; simp [World.frozen?, h]
theorem Box.some (h : Box w g t cs) {i : Nat} (hi : i < cs.size) : ∃ x, w.cell? ⟨g, i, none⟩ = some x := ⟨cs[i], by rw [h.cell, Array.getElem?_eq_getElem hi]⟩
theorem Box.drew (h : Box w g t cs) : Box w.drew g t cs := h
theorem Box.drewN (h : Box w g t cs) (n : Nat) : Box (w.drewN n) g t cs := h
theorem Box.new (w : World) (t : TypeId) (cs : Array Value) : Box (w.alloc (.cells cs t)) w.heap.size t cs := by
  show (w.heap.push _)[w.heap.size]? = _
  simp
theorem Box.new' (w : World) (t : TypeId) (cs : Array Value) (h : w.heap.size = g) : Box (w.alloc (.cells cs t)) g t cs := by subst h; exact Box.new w t cs
theorem Box.alloc (h : Box w g t cs) (o : Obj) : Box (w.alloc o) g t cs := (Below.heap_alloc w o g h.lt).trans h
theorem Box.set (h : Box w g t cs) (i : Nat) (u : Value) : Box (w.setCell ⟨g, i, none⟩ u) g t (cs.setIfInBounds i u) := by
  unfold Box at h ⊢
  simp [World.setCell, Array.getElem?_modify, h]
theorem Box.below {B : Nat} (h : Box w g t cs) (hb : Below B w w') (hg : g < B) : Box w' g t cs := (hb.block g hg).trans h
theorem Box.only {g' : Nat} (h : Box w g t cs) (hb : Only g' w w') (hg : g ≠ g') : Box w' g t cs := (hb.block g h.lt (fun e => hg (by injection e))).trans h

theorem Only.refl (g : Nat) (w : World) : Only g w w := ⟨rfl, rfl, rfl, Nat.le_refl _, fun _ _ _ => rfl⟩
theorem Only.drew (h : Only g w w') : Only g w w'.drew := ⟨h.os, h.tape, h.output, h.size, h.block⟩
theorem Only.drewN (h : Only g w w') (n : Nat) : Only g w (w'.drewN n) := ⟨h.os, h.tape, h.output, h.size, h.block⟩
theorem Only.alloc (h : Only g w w') (o : Obj) : Only g w (w'.alloc o) :=
  ⟨h.os, h.tape, h.output, Nat.le_trans h.size (by simp), fun i hi hn => (Below.heap_alloc w' o i (Nat.lt_of_lt_of_le hi h.size)).trans (h.block i hi hn)⟩
theorem Only.set (h : Only g w w') (i : Nat) (u : Value) : Only g w (w'.setCell ⟨g, i, none⟩ u) :=
  ⟨h.os, h.tape, h.output, by simpa [World.setCell] using h.size, fun k hk hn => (Below.heap_setCell w' ⟨g, i, none⟩ u k (fun e => hn (by rw [e]))).trans (h.block k hk hn)⟩
theorem Only.trans (h : Only g w w') (h' : Only g w' w'') : Only g w w'' :=
  ⟨h'.os.trans h.os, h'.tape.trans h.tape, h'.output.trans h.output, Nat.le_trans h.size h'.size, fun k hk hn => (h'.block k (Nat.lt_of_lt_of_le hk h.size) hn).trans (h.block k hk hn)⟩
theorem belowN {B : Nat} (h : Below B w w') (n : Nat) : Below B w (w'.drewN n) := ⟨h.os, h.tape, h.output, h.size, h.block⟩
theorem Only.ofBelow (h : Below w.heap.size w w') : Only g w w' := ⟨h.os, h.tape, h.output, h.size, fun k hk _ => h.block k hk⟩
theorem Only.below {B : Nat} (h : Only g w w') (hB : B ≤ g) (hs : g < w.heap.size) : Below B w w' := ⟨h.os, h.tape, h.output, h.size, fun k hk => h.block k (by omega) (fun e => by injection e with e; omega)⟩
end

end Go.Proofs.YtllddjmcemcdhaaGreat

namespace Go.Proofs.YtllddjmcemcdhaaGreat
open Go.RowKit

/-- How a value of n cells lies in memory, what it leads to in blocks of Q. -/
structure Shape (T : Type) where
  n : Nat
  At : (Nat → Prop) → World → List Value → T → Prop
  len : ∀ {Q w cs t}, At Q w cs t → cs.length = n
  keep : ∀ {Q w w' cs t}, At Q w cs t → (∀ b, Q b → b < w.heap.size → w'.heap[b]? = w.heap[b]?) → w.heap.size ≤ w'.heap.size → At Q w' cs t
  mono : ∀ {Q Q' : Nat → Prop} {w cs t}, At Q w cs t → (∀ b, Q b → b < w.heap.size → Q' b) → At Q' w cs t

/-- All blocks. -/
def Any (_ : Nat) : Prop := True

/-- The slice at a holds the elements l. -/
def Rows {T : Type} (S : Shape T) (Q : Nat → Prop) (w : World) (a : Option Addr) (l : List T) : Prop :=
  ∀ i (h : i < l.length), ∃ b o cs, a = some ⟨b, o, none⟩ ∧ Q b ∧ b < w.heap.size ∧ (∀ j, j < S.n → w.cell? ⟨b, o + i * S.n + j, none⟩ = cs[j]?) ∧ S.At Q w cs l[i]

section
variable {T : Type} {S : Shape T} {Q Q' : Nat → Prop} {w w' : World} {a : Option Addr} {l : List T}

theorem Rows.keep (h : Rows S Q w a l) (hb : ∀ b, Q b → b < w.heap.size → w'.heap[b]? = w.heap[b]?) (hs : w.heap.size ≤ w'.heap.size) : Rows S Q w' a l := fun i hi => by
  obtain ⟨b, o, cs, e, h1, h2, h3, h4⟩ := h i hi
  exact ⟨b, o, cs, e, h1, Nat.lt_of_lt_of_le h2 hs, fun j hj => (World.cell?_of_block (hb b h1 h2)).trans (h3 j hj), S.keep h4 hb hs⟩
theorem Rows.mono (h : Rows S Q w a l) (hq : ∀ b, Q b → b < w.heap.size → Q' b) : Rows S Q' w a l := fun i hi => by
  obtain ⟨b, o, cs, e, h1, h2, h3, h4⟩ := h i hi
  exact ⟨b, o, cs, e, hq b h1 h2, h2, h3, S.mono h4 hq⟩
theorem Rows.below (h : Rows S Q w a l) (hb : Below w.heap.size w w') : Rows S Q w' a l := h.keep (fun b _ hl => hb.block b hl) hb.size
theorem Shape.below {cs : List Value} {t : T} (h : S.At Q w cs t) (hb : Below w.heap.size w w') : S.At Q w' cs t := S.keep h (fun b _ hl => hb.block b hl) hb.size
theorem Rows.drew (h : Rows S Q w a l) : Rows S Q w.drew a l := h.keep (fun _ _ _ => rfl) (Nat.le_refl _)
theorem Rows.any (h : Rows S Q w a l) : Rows S Any w a l := h.mono fun _ _ _ => trivial
theorem Rows.nil : Rows S Q w a [] := fun i hi => absurd hi (by simp)

/-- The first k elements lie in the block's cells. -/
def Filled (S : Shape T) (Q : Nat → Prop) (w : World) (arr : Array Value) (l : List T) (k : Nat) : Prop :=
  ∀ i (h : i < l.length), i < k → ∃ cs, S.At Q w cs l[i] ∧ ∀ j, j < S.n → arr[i * S.n + j]? = cs[j]?

theorem Filled.zero {arr : Array Value} : Filled S Q w arr l 0 := fun i _ h => absurd h (by omega)
theorem Filled.keep {arr : Array Value} {k : Nat} (h : Filled S Q w arr l k) (hb : ∀ b, Q b → b < w.heap.size → w'.heap[b]? = w.heap[b]?) (hs : w.heap.size ≤ w'.heap.size) : Filled S Q w' arr l k := fun i hi hk => by
  obtain ⟨cs, h1, h2⟩ := h i hi hk
  exact ⟨cs, S.keep h1 hb hs, h2⟩
theorem Filled.mono {arr : Array Value} {k : Nat} (h : Filled S Q w arr l k) (hq : ∀ b, Q b → b < w.heap.size → Q' b) : Filled S Q' w arr l k := fun i hi hk => by
  obtain ⟨cs, h1, h2⟩ := h i hi hk
  exact ⟨cs, S.mono h1 hq, h2⟩
theorem Filled.step {arr arr' : Array Value} {k : Nat} {cs : List Value} (hk : k < l.length) (h : Filled S Q w arr l k) (hc : S.At Q w cs l[k]) (hold : ∀ x, x < k * S.n → arr'[x]? = arr[x]?) (hnew : ∀ j, j < S.n → arr'[k * S.n + j]? = cs[j]?) : Filled S Q w arr' l (k + 1) := fun i hi hik => by
  by_cases e : i = k
  · subst e
    exact ⟨cs, hc, hnew⟩
  · obtain ⟨cs', h1, h2⟩ := h i hi (by omega)
    refine ⟨cs', h1, fun j hj => (hold _ ?_).trans (h2 j hj)⟩
    have : (i + 1) * S.n ≤ k * S.n := Nat.mul_le_mul_right _ (by omega)
    rw [Nat.add_mul] at this
    omega
theorem Filled.rows {arr : Array Value} {g : Nat} {t : TypeId} (h : Filled S Q w arr l l.length) (hb : Box w g t arr) (hq : Q g) : Rows S Q w (some ⟨g, 0, none⟩) l := fun i hi => by
  obtain ⟨cs, h1, h2⟩ := h i hi hi
  exact ⟨g, 0, cs, rfl, hq, hb.lt, fun j hj => by rw [Nat.zero_add, hb.cell, h2 j hj], h1⟩
end

/-- Stores one behind the other. -/
def putL (arr : Array Value) (p : Nat) : List Value → Array Value
  | [] => arr
  | c :: cs => putL (arr.setIfInBounds p c) (p + 1) cs
theorem putL_size : ∀ (cs : List Value) (arr : Array Value) (p : Nat), (putL arr p cs).size = arr.size
  | [], _, _ => rfl
  | c :: cs, arr, p => by rw [putL, putL_size cs]; simp
theorem putL_old : ∀ (cs : List Value) (arr : Array Value) (p x : Nat), x < p → (putL arr p cs)[x]? = arr[x]?
  | [], _, _, _, _ => rfl
  | c :: cs, arr, p, x, h => by
    rw [putL, putL_old cs _ _ _ (by omega), Array.getElem?_setIfInBounds, if_neg (by omega)]
theorem putL_new : ∀ (cs : List Value) (arr : Array Value) (p j : Nat), j < cs.length → p + cs.length ≤ arr.size → (putL arr p cs)[p + j]? = cs[j]?
  | [], _, _, _, h, _ => absurd h (by simp)
  | c :: cs, arr, p, j, h, hs => by
    rw [putL]
    cases j with
    | zero =>
      rw [putL_old cs _ _ _ (by omega), Array.getElem?_setIfInBounds, if_pos (show p = p + 0 from rfl), if_pos (by simp at hs; omega)]
      rfl
    | succ j =>
      have := putL_new cs (arr.setIfInBounds p c) (p + 1) j (by simpa using h) (by simp at hs ⊢; omega)
      rw [show p + (j + 1) = p + 1 + j by omega, this]
      rfl

/-- A slice that came in reads so. -/
theorem filled_put {T : Type} {S : Shape T} {Q : Nat → Prop} {w : World} {l : List T} {arr : Array Value} {k : Nat} {cs : List Value} (hk : k < l.length) (h : Filled S Q w arr l k) (hc : S.At Q w cs l[k]) (hs : arr.size = l.length * S.n) : Filled S Q w (putL arr (k * S.n) cs) l (k + 1) := by
  have hl := S.len hc
  refine h.step hk hc (fun x hx => putL_old _ _ _ _ hx) (fun j hj => putL_new _ _ _ _ (by omega) ?_)
  rw [hl, hs]
  have : (k + 1) * S.n ≤ l.length * S.n := Nat.mul_le_mul_right _ (by omega)
  rw [Nat.add_mul] at this
  omega

/-- How much a list holds. -/
def wtL {T : Type} (f : T → Nat) (l : List T) : Nat := l.length + (l.map f).sum
def wtK {T : Type} (f : T → Nat) (l : List T) (k : Nat) : Nat := ((l.take k).map f).sum
theorem wtK_succ {T : Type} (f : T → Nat) {l : List T} {k : Nat} (h : k < l.length) : wtK f l (k + 1) = wtK f l k + f l[k] := by
  unfold wtK
  rw [List.take_succ_eq_append_getElem h, List.map_append, List.sum_append]
  simp only [List.map_cons, List.map_nil, List.sum_cons, List.sum_nil, Nat.add_zero]
theorem wtK_all {T : Type} (f : T → Nat) (l : List T) : wtK f l l.length = (l.map f).sum := by unfold wtK; rw [List.take_length]
theorem wt_mem {T : Type} (f : T → Nat) : ∀ {l : List T} {x : T}, x ∈ l → f x ≤ (l.map f).sum
  | [], _, h => by cases h
  | y :: l, x, h => by
    rcases List.mem_cons.1 h with rfl | h
    · simp
    · have := wt_mem f h
      simp
      omega

/-- Blocks from B on are as they were. -/
structure Above (B : Nat) (w w' : World) : Prop where
  size : w.heap.size ≤ w'.heap.size
  block : ∀ b, B ≤ b → b < w.heap.size → w'.heap[b]? = w.heap[b]?
theorem Above.refl (B : Nat) (w : World) : Above B w w := ⟨Nat.le_refl _, fun _ _ _ => rfl⟩
theorem Above.set {B g : Nat} {w w' : World} (h : Above B w w') (hg : g < B) (i : Nat) (u : Value) : Above B w (w'.setCell ⟨g, i, none⟩ u) :=
  ⟨by simpa [World.setCell] using h.size, fun k hk hl => (Below.heap_setCell w' ⟨g, i, none⟩ u k (fun e => by have : k = g := e; omega)).trans (h.block k hk hl)⟩
theorem Above.keep {B : Nat} {w w' : World} (h : Above B w w') : ∀ b, B ≤ b → b < w.heap.size → w'.heap[b]? = w.heap[b]? := h.block

end Go.Proofs.YtllddjmcemcdhaaGreat

namespace Go.Proofs.YtllddjmcemcdhaaGreat
open Go.RowKit

theorem results_one {P : Program} {fn : Func} {p : Tmp} {ty : TypeId} {d : TypeDesc} (h : fn.results = #[.cell p ty]) (hu : P.underlying ty = some d) (hd : (match d with | .struct _ | .array _ _ => true | _ => false) = true)
    (tmps : Array Value) (w : World) (g : Nat) (cs : Array Value) (hp : tmps.getD p undef = .pointer (some ⟨g, 0, none⟩)) (t : TypeId) (hb : Box w g t cs) (n : Nat) (hi : (P.info? ty).map (·.size) = some n) (hn : cs.size = n) :
    (results fn tmps).run P w = .ok (.agg cs) w := by
  have hl : (loadVar ty ⟨g, 0, none⟩).run P w = .ok (.agg cs) w := run_loadVar_row w g _ _ cs (0, 0) d hb hu hd (by rw [hi, hn])
  rw [Array.getD_eq_getD_getElem?] at hp
  simp only [results, h]
  simp [hp, asAddr, hl]

/-- Stores one behind the other. -/
def setL (w : World) (g p : Nat) : List Value → World
  | [] => w
  | c :: cs => setL (w.setCell ⟨g, p, none⟩ c) g (p + 1) cs
theorem Box.setL {g : Nat} {t : TypeId} : ∀ (cs : List Value) {w : World} {arr : Array Value} (p : Nat), Box w g t arr → Box (setL w g p cs) g t (putL arr p cs)
  | [], _, _, _, h => h
  | c :: cs, _, _, p, h => Box.setL cs (p + 1) (h.set p c)
theorem Only.setL {g : Nat} : ∀ (cs : List Value) {w w' : World} (p : Nat), Only g w w' → Only g w (setL w' g p cs)
  | [], _, _, _, h => h
  | c :: cs, _, _, p, h => Only.setL cs (p + 1) (h.set p c)

theorem Only.keepQ {T : Type} {S : Shape T} {Q : Nat → Prop} {w w' : World} {arr : Array Value} {l : List T} {k g : Nat} (h : Filled S Q w arr l k) (ho : Only g w w') (hq : ¬ Q g) : Filled S Q w' arr l k :=
  h.keep (fun b hb hl => ho.block b hl (fun e => hq (by injection e with e; rw [← e]; exact hb))) ho.size

/-- An element is stored behind the first k ones. -/
theorem filled_store {T : Type} {S : Shape T} {Q : Nat → Prop} {w : World} {g : Nat} {t : TypeId} {arr : Array Value} {l : List T} {k : Nat} {cs : List Value} (hk : k < l.length) (hb : Box w g t arr) (hs : arr.size = l.length * S.n) (h : Filled S Q w arr l k) (hc : S.At Q w cs l[k]) (hq : ¬ Q g) :
    ∃ arr', Box (setL w g (k * S.n) cs) g t arr' ∧ arr'.size = l.length * S.n ∧ Filled S Q (setL w g (k * S.n) cs) arr' l (k + 1) ∧ Only g w (setL w g (k * S.n) cs) :=
  have ho := Only.setL cs (k * S.n) (Only.refl g w)
  ⟨_, Box.setL cs _ hb, by rw [putL_size, hs], Only.keepQ (filled_put hk h hc hs) ho hq, ho⟩

end Go.Proofs.YtllddjmcemcdhaaGreat

namespace Go.Proofs.YtllddjmcemcdhaaGreat
open Go.RowKit Go.ChangeShapes Go.WideShapes Go.Deep

section
variable {H : Type} {enc : TypeId × Value → H} {P : Program} {w : World} {base : Nat} {spare : Nat → Bool} {held : Bool}

theorem open_rows {T : Type} (S : Shape T) (ok : T → Prop) {t e : TypeId} {fuel : Nat} {cs : List Value} {x : DataW H × List MemPlace} (ht : P.underlying t = some (.slice e)) (hn : P.cellsOf e = S.n) (hpos : 0 < S.n)
    (hel : ∀ m cs x, DataW.trod enc P w base spare held m e cs = some x → ∃ t, S.At Any w cs t ∧ ok t)
    (h : DataW.trod enc P w base spare held fuel t cs = some x) : ∃ (a : Option Addr) (cap : Nat) (l : List T), cs = [.slice a l.length cap] ∧ l.length ≤ cap ∧ l.length ≤ maxLen ∧ Rows S Any w a l ∧ ∀ t ∈ l, ok t := by
  rcases open_slice ht h with ⟨rfl, _⟩ | ⟨a, len, cap, m, n, D, Pl, rfl, _, hl, hm, hmm, _, hx⟩
  · exact ⟨none, 0, [], rfl, Nat.le_refl _, Nat.zero_le _, Rows.nil, fun t h => by cases h⟩
  have hlm : len ≤ m := by rw [hmm]; split <;> omega
  have key : ∀ i, i < len → ∃ t : T, (∃ cs', w.cells? base (a.add (i * S.n)) S.n = some cs' ∧ S.At Any w cs' t) ∧ ok t := fun i hi => by
    obtain ⟨cs', h1, h2⟩ := hx i (by omega)
    rw [hn] at h1
    obtain ⟨t, h3, h4⟩ := hel _ _ _ h2
    exact ⟨t, ⟨cs', h1, h3⟩, h4⟩
  have build : ∀ k, k ≤ len → ∃ l : List T, l.length = k ∧ (∀ i (h : i < l.length), ∃ cs', w.cells? base (a.add (i * S.n)) S.n = some cs' ∧ S.At Any w cs' l[i]) ∧ ∀ t ∈ l, ok t := by
    intro k
    induction k with
    | zero => exact fun _ => ⟨[], rfl, fun i h => absurd h (by simp), fun t h => by cases h⟩
    | succ k ih =>
      intro hk
      obtain ⟨l, h1, h2, h3⟩ := ih (by omega)
      obtain ⟨t, h4, h5⟩ := key k (by omega)
      refine ⟨l ++ [t], by simp [h1], fun i hi => ?_, fun u hu => ?_⟩
      · by_cases e : i < l.length
        · rw [List.getElem_append_left e]
          exact h2 i e
        · have : i = l.length := by simp at hi; omega
          subst this
          rw [List.getElem_append_right (Nat.le_refl _)]
          simp only [Nat.sub_self, List.getElem_cons_zero]
          rw [h1]
          exact h4
      · rcases List.mem_append.1 hu with h | h
        · exact h3 u h
        · obtain rfl : u = t := by simpa using h
          exact h5
  obtain ⟨l, h1, h2, h3⟩ := build len (Nat.le_refl _)
  refine ⟨some a, cap, l, by rw [h1], by omega, by omega, fun i hi => ?_, h3⟩
  obtain ⟨cs', h4, h5⟩ := h2 i hi
  obtain ⟨_, hlen, hc⟩ := World.cells?_some h4
  obtain ⟨b, off, spot⟩ := a
  have h0 := hc 0 hpos
  have hsome : ∃ v, cs'[0]? = some v := ⟨cs'[0], List.getElem?_eq_getElem (by omega)⟩
  obtain ⟨v, hv⟩ := hsome
  rw [hv] at h0
  by_cases hi0 : i = 0
  · subst hi0
    have hspot : spot = none := by simpa [Addr.add] using World.cell?_spot h0
    subst hspot
    have hb := World.block_lt_of_cell? w _ h0
    refine ⟨b, off, cs', rfl, trivial, by simpa [Addr.add] using hb, fun j hj => ?_, h5⟩
    rw [← hc j hj]
    simp [Addr.add]
    split <;> simp_all
  · obtain ⟨cs0, h6, _⟩ := h2 0 (by omega)
    obtain ⟨_, hlen0, hc0⟩ := World.cells?_some h6
    have h7 := hc0 0 hpos
    obtain ⟨v0, hv0⟩ : ∃ v, cs0[0]? = some v := ⟨cs0[0], List.getElem?_eq_getElem (by omega)⟩
    rw [hv0] at h7
    have hspot : spot = none := by simpa [Addr.add] using World.cell?_spot h7
    subst hspot
    have hb := World.block_lt_of_cell? w _ h7
    refine ⟨b, off, cs', rfl, trivial, by simpa [Addr.add] using hb, fun j hj => ?_, h5⟩
    rw [← hc j hj]
    rw [WideShapes.add_plain, WideShapes.add_plain]

theorem open_whole {T : Type} (S : Shape T) (ok : T → Prop) {t e : TypeId} {a : Option Addr} {len cap : Nat} {d : DataW H} {p : List MemPlace} (ht : P.underlying t = some (.slice e)) (hn : P.cellsOf e = S.n) (hpos : 0 < S.n)
    (hel : ∀ m cs x, DataW.trod enc P w base spare held m e cs = some x → ∃ t, S.At Any w cs t ∧ ok t)
    (h : ∃ fuel, DataW.trod enc P w base spare held fuel t (Value.slice a len cap).cells.toList = some (d, p)) : ∃ l : List T, l.length = len ∧ len ≤ maxLen ∧ Rows S Any w a l ∧ ∀ t ∈ l, ok t := by
  obtain ⟨fuel, h⟩ := h
  obtain ⟨a', cap', l, e1, _, h1, h2, h3⟩ := open_rows S ok ht hn hpos hel h
  simp [Value.cells] at e1
  obtain ⟨rfl, rfl, rfl⟩ := e1
  exact ⟨l, rfl, h1, h2, h3⟩
end

/-- A slice of structs that came in. -/
def CameIn {T : Type} (S : Shape T) (ok : T → Prop) (w : World) (a : Option Addr) (len : Nat) (l : List T) : Prop := l.length = len ∧ len ≤ maxLen ∧ Rows S Any w a l ∧ ∀ t ∈ l, ok t

/-- Numbers and texts as elements. -/
def intS : Shape Int where
  n := 1
  At _ _ cs t := cs = [.int .i64 t]
  len h := by rw [h]; rfl
  keep h _ _ := h
  mono h _ := h
def strS : Shape ByteArray where
  n := 1
  At _ _ cs t := cs = [.string t]
  len h := by rw [h]; rfl
  keep h _ _ := h
  mono h _ := h

end Go.Proofs.YtllddjmcemcdhaaGreat
