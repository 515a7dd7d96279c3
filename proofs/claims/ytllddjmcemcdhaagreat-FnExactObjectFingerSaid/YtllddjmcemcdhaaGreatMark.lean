
/-
  What is proved: the contract of markText of the laws: a text that hangs on the number alone; small facts on rows of structs that are filled from a place on; small facts on memory that marks are written into: new blocks are not frozen (Clean), cells keep their kinds (Like); rows of structs that the call owns, whatever these lead to: append on them, one of them set. No condition beside what each theorem states.
-/
import Derived.Test.YtllddjmcemcdhaaGreatName
import Derived.Test.YtllddjmcemcdhaaGreatMem
import Derived.Laws.AppendOwn
import Derived.Maps.AppendAt
namespace Go.Proofs.YtllddjmcemcdhaaGreat
open Go.ChangeShapes Go.WideShapes Go.ChangeAt Go.RowKit

/-- The digit of a number that stands last, as a byte. -/
def digX (n : Nat) : Int := 48 + (n : Int) % 10
/-- The digits of a number ahead of a text. -/
def mkZ (n : Nat) (z : ByteArray) : ByteArray := if n = 0 then z else mkZ (n / 10) (strOfNums [digX n] ++ z)
termination_by n
decreasing_by omega
theorem mkZ_zero (z : ByteArray) : mkZ 0 z = z := by rw [mkZ]; simp
theorem mkZ_step {n : Nat} (h : n ≠ 0) (z : ByteArray) : mkZ n z = mkZ (n / 10) (strOfNums [digX n] ++ z) := by rw [mkZ]; simp [h]

/-- How large a number may be, so many digits of which are told already. -/
def lim (c : Nat) : Nat := 10 ^ (19 - c)
theorem lim_zero : lim 0 = 10000000000000000000 := by decide
theorem lim_end {c : Nat} (h : 19 ≤ c) : lim c = 1 := by unfold lim; rw [show 19 - c = 0 by omega]
theorem lim_step {c : Nat} (h : c ≤ 18) : lim c = 10 * lim (c + 1) := by
  unfold lim
  rw [show 19 - c = (19 - (c + 1)) + 1 by omega, Nat.pow_succ, Nat.mul_comm]
theorem lim_le : ∀ c : Nat, lim c ≤ 10000000000000000000
  | 0 => by rw [lim_zero]; exact Nat.le_refl _
  | c + 1 => by
    have := lim_le c
    by_cases h : c ≤ 18
    · have := lim_step h
      omega
    · rw [lim_end (by omega)]
      omega

theorem less_mark (x : Int) (m : Nat) (h : x = ((m / 10 : Nat) : Int)) (h0 : m ≠ 0) : (intOf (.int .i64 x)).toNat < (intOf (.int .i64 (m : Int))).toNat := by
  subst h
  show ((m / 10 : Nat) : Int).toNat < ((m : Nat) : Int).toNat
  omega

/-- The text of a mark. -/
def mkT (k : Int) : ByteArray := ⟨#[109]⟩ ++ mkZ k.toNat ByteArray.empty
end Go.Proofs.YtllddjmcemcdhaaGreat

namespace Go.Proofs.YtllddjmcemcdhaaGreat
open Go.RowKit

/-- No block. -/
def Nowhere (_ : Nat) : Prop := False

/-- The first k elements lie in the block's cells, from o on. -/
def FilledO {T : Type} (S : Shape T) (Q : Nat → Prop) (w : World) (arr : Array Value) (o : Nat) (l : List T) (k : Nat) : Prop :=
  ∀ i (h : i < l.length), i < k → ∃ cs, S.At Q w cs l[i] ∧ ∀ j, j < S.n → arr[o + i * S.n + j]? = cs[j]?

section
variable {T : Type} {S : Shape T} {Q Q' : Nat → Prop} {w w' : World} {l : List T} {arr arr' : Array Value} {o k : Nat}
theorem FilledO.zero : FilledO S Q w arr o l 0 := fun i _ h => absurd h (by omega)
theorem FilledO.keep (h : FilledO S Q w arr o l k) (hb : ∀ b, Q b → b < w.heap.size → w'.heap[b]? = w.heap[b]?) (hs : w.heap.size ≤ w'.heap.size) : FilledO S Q w' arr o l k := fun i hi hk => by
  obtain ⟨cs, h1, h2⟩ := h i hi hk
  exact ⟨cs, S.keep h1 hb hs, h2⟩
theorem FilledO.step {cs : List Value} (hk : k < l.length) (h : FilledO S Q w arr o l k) (hc : S.At Q w cs l[k]) (hold : ∀ x, x < o + k * S.n → arr'[x]? = arr[x]?) (hnew : ∀ j, j < S.n → arr'[o + k * S.n + j]? = cs[j]?) : FilledO S Q w arr' o l (k + 1) := fun i hi hik => by
  by_cases e : i = k
  · subst e
    exact ⟨cs, hc, hnew⟩
  · obtain ⟨cs', h1, h2⟩ := h i hi (by omega)
    refine ⟨cs', h1, fun j hj => (hold _ ?_).trans (h2 j hj)⟩
    have : (i + 1) * S.n ≤ k * S.n := Nat.mul_le_mul_right _ (by omega)
    rw [Nat.add_mul] at this
    omega
theorem FilledO.rows {g : Nat} {t : TypeId} (h : FilledO S Q w arr o l l.length) (hb : Box w g t arr) (hq : Q g) : Rows S Q w (some ⟨g, o, none⟩) l := fun i hi => by
  obtain ⟨cs, h1, h2⟩ := h i hi hi
  exact ⟨g, o, cs, rfl, hq, hb.lt, fun j hj => by rw [hb.cell, h2 j hj], h1⟩
end

theorem set_there {arr : Array Value} {i : Nat} {v : Value} (h : i < arr.size) : (arr.setIfInBounds i v)[i]? = some v := by
  rw [Array.getElem?_setIfInBounds, if_pos rfl, if_pos h]
theorem set_else {arr : Array Value} {i j : Nat} {v : Value} (h : i ≠ j) : (arr.setIfInBounds i v)[j]? = arr[j]? := by
  rw [Array.getElem?_setIfInBounds, if_neg h]

end Go.Proofs.YtllddjmcemcdhaaGreat

namespace Go.Proofs.YtllddjmcemcdhaaGreat
open Go.RowKit

/-- From B on all blocks are plain cells, none frozen. -/
def Clean (B : Nat) (w : World) : Prop := ∀ b, B ≤ b → b < w.heap.size → ∃ t cs, Box w b t cs
section
variable {B : Nat} {w w' : World}
theorem Clean.refl (w : World) : Clean w.heap.size w := fun b h1 h2 => absurd h2 (by omega)
theorem Clean.alloc (h : Clean B w) (cs : Array Value) (t : TypeId) : Clean B (w.alloc (.cells cs t)) := fun b h1 h2 => by
  by_cases e : b < w.heap.size
  · obtain ⟨t', cs', hb⟩ := h b h1 e
    exact ⟨t', cs', hb.alloc _⟩
  · have : b = w.heap.size := by simp at h2; omega
    subst this
    exact ⟨t, cs, Box.new w t cs⟩
theorem Clean.set (h : Clean B w) (g i : Nat) (u : Value) : Clean B (w.setCell ⟨g, i, none⟩ u) := fun b h1 h2 => by
  obtain ⟨t', cs', hb⟩ := h b h1 (by simpa [World.setCell] using h2)
  by_cases e : b = g
  · subst e
    exact ⟨t', _, hb.set i u⟩
  · exact ⟨t', cs', (Below.heap_setCell w ⟨g, i, none⟩ u b (fun q => e q)).trans hb⟩
theorem Clean.setL {g : Nat} : ∀ (cs : List Value) {w : World} (p : Nat), Clean B w → Clean B (setL w g p cs)
  | [], _, _, h => h
  | c :: cs, _, p, h => Clean.setL cs (p + 1) (h.set g p c)
theorem Clean.join (h : Clean B w) (hb : Below w.heap.size w w') (h' : Clean w.heap.size w') : Clean B w' := fun b h1 h2 => by
  by_cases e : b < w.heap.size
  · obtain ⟨t', cs', hx⟩ := h b h1 e
    exact ⟨t', cs', hx.below hb e⟩
  · exact h' b (by omega) h2
theorem Clean.up {B' : Nat} (h : Clean B w) (hB : B ≤ B') : Clean B' w := fun b h1 h2 => h b (by omega) h2
theorem Clean.drew (h : Clean B w) : Clean B w.drew := h
end

/-- One value may be stored where another one was: of the same kind; slices alone stay the very same. -/
def kin : Value → Value → Prop
  | .int k _, v => ∃ z, v = .int k z
  | .string _, v => ∃ s, v = .string s
  | .bool _, v => ∃ b, v = .bool b
  | u, v => v = u
theorem kin.refl (v : Value) : kin v v := by
  unfold kin
  split
  · exact ⟨_, rfl⟩
  · exact ⟨_, rfl⟩
  · exact ⟨_, rfl⟩
  · rfl
theorem kin.int (k : IntKind) (x y : Int) : kin (.int k x) (.int k y) := ⟨y, rfl⟩
theorem kin.str (x y : ByteArray) : kin (.string x) (.string y) := ⟨y, rfl⟩
theorem kin.bool (x y : Bool) : kin (.bool x) (.bool y) := ⟨y, rfl⟩
theorem wtK_le {T : Type} (f : T → Nat) (l : List T) (k : Nat) : wtK f l k ≤ (l.map f).sum := by
  induction l generalizing k with
  | nil => simp [wtK]
  | cons x l ih =>
    cases k with
    | zero => simp [wtK]
    | succ k =>
      have := ih k
      simp only [wtK, List.take_succ_cons, List.map_cons, List.sum_cons] at this ⊢
      omega
/-- From B on the blocks of w0 are still there in w, each cell of its kind. -/
structure Like (B : Nat) (w0 w : World) : Prop where
  size : w0.heap.size ≤ w.heap.size
  box : ∀ b, B ≤ b → b < w0.heap.size → ∃ t cs, Box w b t cs ∧ ∀ i v, w0.cell? ⟨b, i, none⟩ = some v → ∃ v', cs[i]? = some v' ∧ kin v v'
section
variable {B : Nat} {w0 w w' : World}
theorem Like.refl (h : Clean B w0) : Like B w0 w0 := ⟨Nat.le_refl _, fun b h1 h2 => by
  obtain ⟨t, cs, hb⟩ := h b h1 h2
  exact ⟨t, cs, hb, fun i v hv => ⟨v, by rw [← hb.cell]; exact hv, kin.refl v⟩⟩⟩
theorem Like.below {E : Nat} (h : Like B w0 w) (hb : Below E w w') (hE : w0.heap.size ≤ E) : Like B w0 w' := ⟨Nat.le_trans h.size hb.size, fun b h1 h2 => by
  obtain ⟨t, cs, hx, hc⟩ := h.box b h1 h2
  exact ⟨t, cs, hx.below hb (by omega), hc⟩⟩
theorem Like.set (h : Like B w0 w) {b i : Nat} {v u : Value} (h0 : w0.cell? ⟨b, i, none⟩ = some v) (hk : kin v u) : Like B w0 (w.setCell ⟨b, i, none⟩ u) := ⟨by simpa [World.setCell] using h.size, fun b' h1 h2 => by
  obtain ⟨t, cs, hx, hc⟩ := h.box b' h1 h2
  by_cases e : b' = b
  · subst e
    refine ⟨t, _, hx.set i u, fun j v' hv => ?_⟩
    obtain ⟨v2, h3, h4⟩ := hc j v' hv
    by_cases ej : i = j
    · subst ej
      rw [h0] at hv
      cases hv
      have hlt : i < cs.size := by
        by_cases hl : i < cs.size
        · exact hl
        · rw [Array.getElem?_eq_none (by omega)] at h3; cases h3
      exact ⟨u, by rw [Array.getElem?_setIfInBounds, if_pos rfl, if_pos hlt], hk⟩
    · exact ⟨v2, by rw [Array.getElem?_setIfInBounds, if_neg ej]; exact h3, h4⟩
  · exact ⟨t, cs, (Below.heap_setCell w ⟨b, i, none⟩ u b' (fun q => e q)).trans hx, hc⟩⟩
theorem Like.cell (h : Like B w0 w) {b i : Nat} {v : Value} (hB : B ≤ b) (h0 : w0.cell? ⟨b, i, none⟩ = some v) : ∃ v', w.cell? ⟨b, i, none⟩ = some v' ∧ kin v v' ∧ w.frozen? ⟨b, i, none⟩ = false := by
  obtain ⟨t, cs, hx, hc⟩ := h.box b hB (World.block_lt_of_cell? w0 _ h0)
  obtain ⟨v', h1, h2⟩ := hc i v h0
  exact ⟨v', by rw [hx.cell]; exact h1, h2, hx.free i⟩
theorem Like.cellI (h : Like B w0 w) {b i : Nat} {k : IntKind} {z : Int} (hB : B ≤ b) (h0 : w0.cell? ⟨b, i, none⟩ = some (.int k z)) : ∃ z', w.cell? ⟨b, i, none⟩ = some (.int k z') ∧ w.frozen? ⟨b, i, none⟩ = false := by
  obtain ⟨v', h1, ⟨z', rfl⟩, h3⟩ := h.cell hB h0
  exact ⟨z', h1, h3⟩
theorem Like.cellS (h : Like B w0 w) {b i : Nat} {s : ByteArray} (hB : B ≤ b) (h0 : w0.cell? ⟨b, i, none⟩ = some (.string s)) : ∃ s', w.cell? ⟨b, i, none⟩ = some (.string s') ∧ w.frozen? ⟨b, i, none⟩ = false := by
  obtain ⟨v', h1, ⟨z', rfl⟩, h3⟩ := h.cell hB h0
  exact ⟨z', h1, h3⟩
theorem Like.cellB (h : Like B w0 w) {b i : Nat} {s : Bool} (hB : B ≤ b) (h0 : w0.cell? ⟨b, i, none⟩ = some (.bool s)) : ∃ s', w.cell? ⟨b, i, none⟩ = some (.bool s') ∧ w.frozen? ⟨b, i, none⟩ = false := by
  obtain ⟨v', h1, ⟨z', rfl⟩, h3⟩ := h.cell hB h0
  exact ⟨z', h1, h3⟩
theorem Like.cellL (h : Like B w0 w) {b i : Nat} {a : Option Addr} {l c : Nat} (hB : B ≤ b) (h0 : w0.cell? ⟨b, i, none⟩ = some (.slice a l c)) : w.cell? ⟨b, i, none⟩ = some (.slice a l c) := by
  obtain ⟨v', h1, h2, h3⟩ := h.cell hB h0
  rw [show v' = .slice a l c from h2] at h1
  exact h1
end

/-- Marks were written between B and the end of w0, from w on, and nowhere else. -/
structure Marked (B : Nat) (w0 w w' : World) : Prop where
  like : Like B w0 w'
  below : Below B w w'
  above : Above w0.heap.size w w'
section
variable {B : Nat} {w0 w w' w'' : World}
theorem Marked.refl (h : Like B w0 w) : Marked B w0 w w := ⟨h, Below.refl _ _, Above.refl _ _⟩
theorem Marked.set (h : Marked B w0 w w') {b i : Nat} {v u : Value} (hB : B ≤ b) (h0 : w0.cell? ⟨b, i, none⟩ = some v) (hk : kin v u) : Marked B w0 w (w'.setCell ⟨b, i, none⟩ u) :=
  ⟨h.like.set h0 hk, h.below.setCell (p := ⟨b, i, none⟩) hB u, h.above.set (World.block_lt_of_cell? w0 _ h0) i u⟩
theorem Marked.trans (h : Marked B w0 w w') (h' : Marked B w0 w' w'') : Marked B w0 w w'' :=
  ⟨h'.like, h.below.trans h'.below, ⟨Nat.le_trans h.above.size h'.above.size, fun b h1 h2 => (h'.above.block b h1 (Nat.lt_of_lt_of_le h2 h.above.size)).trans (h.above.block b h1 h2)⟩⟩
theorem Marked.call (h : Marked B w0 w w') (hB0 : B ≤ w0.heap.size) (hb : Below w'.heap.size w' w'') : Marked B w0 w w'' :=
  h.trans ⟨h.like.below hb h.like.size, hb.mono (Nat.le_trans hB0 h.like.size), ⟨hb.size, fun b _ h2 => hb.block b h2⟩⟩
end

theorem Box.above {w w' : World} {g E : Nat} {t : TypeId} {cs : Array Value} (h : Box w g t cs) (ha : Above E w w') (hg : E ≤ g) : Box w' g t cs := (ha.block g hg h.lt).trans h
/-- The values lie in a block from B on, which is not frozen. -/
def OwnC (w : World) (B : Nat) (a : Option Addr) (vs : List Value) : Prop := vs = [] ∨ ∃ g t cur, a = some ⟨g, 0, none⟩ ∧ B ≤ g ∧ Box w g t cur ∧ vs.length ≤ cur.size ∧ ∀ i, i < vs.length → cur[i]? = vs[i]?
section
variable {B : Nat} {w w' : World} {a : Option Addr} {vs : List Value}
theorem OwnC.below (h : OwnC w B a vs) (hb : Below w.heap.size w w') : OwnC w' B a vs := h.imp id fun ⟨g, t, cur, h1, h2, h3, h4⟩ => ⟨g, t, cur, h1, h2, h3.below hb h3.lt, h4⟩
theorem OwnC.above {E : Nat} (h : OwnC w B a vs) (hb : Above E w w') (hE : E ≤ B) : OwnC w' B a vs := h.imp id fun ⟨g, t, cur, h1, h2, h3, h4⟩ => ⟨g, t, cur, h1, h2, h3.above hb (Nat.le_trans hE h2), h4⟩
theorem OwnC.lower {B' : Nat} (h : OwnC w B a vs) (hB : B' ≤ B) : OwnC w B' a vs := h.imp id fun ⟨g, t, cur, h1, h2, h3⟩ => ⟨g, t, cur, h1, Nat.le_trans hB h2, h3⟩
end
/-- A list that the call owns. -/
theorem ownC_of_row {w : World} {B : Nat} {e : TypeId} {size n : Nat} {v : Value} {vs : List Value} (h : w.ownsRow B e size v n vs) : ∃ a c, v = .slice a n c ∧ n ≤ c ∧ c ≤ maxLen ∧ OwnC w B a vs := by
  rcases h.2 with ⟨rfl, h0⟩ | ⟨g, cap, cur, rfl, hb, hg, hc, hm, hs, ht⟩
  · subst h0
    exact ⟨none, 0, rfl, Nat.le_refl _, Nat.zero_le _, .inl (List.eq_nil_of_length_eq_zero (by have := h.1; simpa using this))⟩
  · refine ⟨_, cap, rfl, hc, hm, .inr ⟨g, e, cur, rfl, hb, hg, ?_, fun i hi => ?_⟩⟩
    · rw [h.1, hs]
      exact Nat.mul_le_mul_right _ hc
    · rw [← ht, List.getElem?_take, if_pos (by rw [← h.1]; exact hi)]
      simp
end Go.Proofs.YtllddjmcemcdhaaGreat

namespace Go.Proofs.YtllddjmcemcdhaaGreat
open Go.RowKit Go.ChangeShapes Go.WideShapes Go.ChangeAt

/-- Elements in a row that the call owns; what they lead to lies in blocks of P, not in the row's own one. -/
def OwnG {T : Type} (S : Shape T) (e : TypeId) (B : Nat) (P : Nat → Prop) (w : World) (v : Value) (l : List T) : Prop :=
  (v = .slice none 0 0 ∧ l = []) ∨ ∃ b cap cur, v = .slice (some ⟨b, 0, none⟩) l.length cap ∧ B ≤ b ∧ Box w b e cur ∧ l.length ≤ cap ∧ cap ≤ maxLen ∧ cur.size = cap * S.n ∧ FilledO S (fun q => P q ∧ q ≠ b) w cur 0 l l.length
theorem ownBlock_slice (b n c : Nat) : (Value.slice (some ⟨b, 0, none⟩) n c).ownBlock = some b := by simp [Value.ownBlock]
theorem putL_far : ∀ (cs : List Value) (arr : Array Value) (p x : Nat), p + cs.length ≤ x → (putL arr p cs)[x]? = arr[x]?
  | [], _, _, _, _ => rfl
  | c :: cs, arr, p, x, h => by
    simp only [List.length_cons] at h
    rw [putL, putL_far cs _ _ _ (by omega), Array.getElem?_setIfInBounds, if_neg (by omega)]
section
variable {T : Type} {S : Shape T} {e : TypeId} {B : Nat} {P : Nat → Prop} {w w' : World} {v : Value} {l : List T}
theorem OwnG.nil : OwnG S e B P w (.slice none 0 0) [] := .inl ⟨rfl, rfl⟩
theorem OwnG.lt (h : OwnG S e B P w v l) : ∀ k, v.ownBlock = some k → B ≤ k ∧ k < w.heap.size := fun k hk => by
  rcases h with ⟨rfl, _⟩ | ⟨b, cap, cur, rfl, h1, h2, _⟩
  · simp [Value.ownBlock] at hk
  · rw [ownBlock_slice] at hk
    injection hk with hk
    subst hk
    exact ⟨h1, h2.lt⟩
theorem OwnG.keep (h : OwnG S e B P w v l) (hk : ∀ q, P q ∨ v.ownBlock = some q → q < w.heap.size → w'.heap[q]? = w.heap[q]?) (hs : w.heap.size ≤ w'.heap.size) : OwnG S e B P w' v l :=
  h.imp id fun ⟨b, cap, cur, h1, h2, h3, h4, h5, h6, h7⟩ => ⟨b, cap, cur, h1, h2, (hk b (.inr (by rw [h1, ownBlock_slice])) h3.lt).trans h3, h4, h5, h6, h7.keep (fun q hq hl => hk q (.inl hq.1) hl) hs⟩
theorem OwnG.below (h : OwnG S e B P w v l) (hb : Below w.heap.size w w') : OwnG S e B P w' v l := h.keep (fun q _ hl => hb.block q hl) hb.size
theorem OwnG.alloc (h : OwnG S e B P w v l) (o : Obj) : OwnG S e B P (w.alloc o) v l := h.below ((Below.refl _ _).alloc (Nat.le_refl _) o)
theorem OwnG.lower {B' : Nat} (h : OwnG S e B P w v l) (hB : B' ≤ B) : OwnG S e B' P w v l :=
  h.imp id fun ⟨b, cap, cur, h1, h2, h3⟩ => ⟨b, cap, cur, h1, Nat.le_trans hB h2, h3⟩
theorem FilledO.mono {Q Q' : Nat → Prop} {arr : Array Value} {o k : Nat} (h : FilledO S Q w arr o l k) (hq : ∀ b, Q b → b < w.heap.size → Q' b) : FilledO S Q' w arr o l k := fun i hi hk => by
  obtain ⟨cs, h1, h2⟩ := h i hi hk
  exact ⟨cs, S.mono h1 hq, h2⟩
theorem OwnG.mono {P' : Nat → Prop} (h : OwnG S e B P w v l) (hp : ∀ q, P q → q < w.heap.size → P' q) : OwnG S e B P' w v l :=
  h.imp id fun ⟨b, cap, cur, h1, h2, h3, h4, h5, h6, h7⟩ => ⟨b, cap, cur, h1, h2, h3, h4, h5, h6, h7.mono (fun q hq hl => ⟨hp q hq.1 hl, hq.2⟩)⟩
theorem OwnG.rows {Q : Nat → Prop} (h : OwnG S e B P w v l) (hp : ∀ q, P q → q < w.heap.size → Q q) (hv : ∀ q, v.ownBlock = some q → Q q) : ∃ a c, v = .slice a l.length c ∧ l.length ≤ c ∧ c ≤ maxLen ∧ Rows S Q w a l := by
  rcases h with ⟨rfl, rfl⟩ | ⟨b, cap, cur, rfl, h2, h3, h4, h5, h6, h7⟩
  · exact ⟨none, 0, rfl, Nat.le_refl _, Nat.zero_le _, Rows.nil⟩
  · exact ⟨_, cap, rfl, h4, h5, (h7.mono (fun q hq hl => hp q hq.1 hl)).rows h3 (hv b (ownBlock_slice _ _ _))⟩
/-- Its cells, as append takes them. -/
theorem OwnG.row (h : OwnG S e B P w v l) : ∃ xs, w.ownsRow B e S.n v l.length xs ∧ ∀ i (hi : i < l.length), ∃ cs, S.At (fun q => P q ∧ v.ownBlock ≠ some q) w cs l[i] ∧ ∀ j, j < S.n → xs[i * S.n + j]? = cs[j]? := by
  rcases h with ⟨rfl, rfl⟩ | ⟨b, cap, cur, rfl, h2, h3, h4, h5, h6, h7⟩
  · exact ⟨[], World.ownsRow_nil _ _ _ _, fun i hi => absurd hi (by simp)⟩
  · have hle : l.length * S.n ≤ cur.size := by rw [h6]; exact Nat.mul_le_mul_right _ h4
    refine ⟨cur.toList.take (l.length * S.n), ⟨by simp; omega, .inr ⟨b, cap, cur, rfl, h2, h3, h4, h5, h6, rfl⟩⟩, fun i hi => ?_⟩
    obtain ⟨cs, c1, c2⟩ := h7 i hi hi
    refine ⟨cs, S.mono c1 (fun q hq _ => ⟨hq.1, fun hh => hq.2 (by rw [ownBlock_slice] at hh; injection hh with hh; exact hh.symm)⟩), fun j hj => ?_⟩
    have hlt : i * S.n + j < l.length * S.n := by
      have := Nat.mul_le_mul_right S.n (show i + 1 ≤ l.length by omega)
      rw [Nat.add_mul] at this
      omega
    rw [List.getElem?_take, if_pos hlt, ← c2 j hj]
    simp
theorem OwnG.of_row {xs : List Value} (h : w.ownsRow B e S.n v l.length xs) (hx : ∀ i (hi : i < l.length), ∃ cs, S.At (fun q => P q ∧ v.ownBlock ≠ some q) w cs l[i] ∧ ∀ j, j < S.n → xs[i * S.n + j]? = cs[j]?) : OwnG S e B P w v l := by
  rcases h.2 with ⟨rfl, h0⟩ | ⟨b, cap, cur, rfl, hb, hg, hc, hm, hs, ht⟩
  · exact .inl ⟨rfl, List.eq_nil_of_length_eq_zero h0⟩
  · refine .inr ⟨b, cap, cur, rfl, hb, hg, hc, hm, hs, fun i hi _ => ?_⟩
    obtain ⟨cs, c1, c2⟩ := hx i hi
    refine ⟨cs, S.mono c1 (fun q hq _ => ⟨hq.1, fun hh => hq.2 (by rw [ownBlock_slice, hh])⟩), fun j hj => ?_⟩
    have hlt : i * S.n + j < l.length * S.n := by
      have := Nat.mul_le_mul_right S.n (show i + 1 ≤ l.length by omega)
      rw [Nat.add_mul] at this
      omega
    rw [← c2 j hj, ← ht, List.getElem?_take, if_pos hlt]
    simp
/-- One more behind them. -/
theorem OwnG.pushed {v' : Value} {xs cs : List Value} {u : T} (h : w.ownsRow B e S.n v l.length xs) (hx : ∀ i (hi : i < l.length), ∃ cs, S.At (fun q => P q ∧ v.ownBlock ≠ some q) w cs l[i] ∧ ∀ j, j < S.n → xs[i * S.n + j]? = cs[j]?)
    (hu : S.At (fun q => P q ∧ v.ownBlock ≠ some q) w cs u) (h' : w'.ownsRow B e S.n v' (l.length + 1) (xs ++ cs)) (hg : w.grownBy w' v.ownBlock) (hv : v'.ownBlock = v.ownBlock ∨ v'.ownBlock = some w.heap.size) : OwnG S e B P w' v' (l ++ [u]) := by
  have kp : ∀ {c : List Value} {t : T}, S.At (fun q => P q ∧ v.ownBlock ≠ some q) w c t → S.At (fun q => P q ∧ v'.ownBlock ≠ some q) w' c t := fun hc =>
    S.mono (S.keep (S.mono hc (Q' := fun q => (P q ∧ v'.ownBlock ≠ some q) ∧ v.ownBlock ≠ some q) (fun q hq hl => ⟨⟨hq.1, fun hh => by
      rcases hv with hv | hv
      · exact hq.2 (hv ▸ hh)
      · rw [hv] at hh; injection hh with hh; omega⟩, hq.2⟩)) (fun q hq hl => hg.block q hl (fun e => hq.2 e.symm)) hg.size) (fun q hq _ => hq.1)
  have hxl : xs.length = l.length * S.n := h.1
  refine OwnG.of_row (xs := xs ++ cs) (by rw [List.length_append]; exact h') (fun i hi => ?_)
  by_cases hlt : i < l.length
  · obtain ⟨c0, c1, c2⟩ := hx i hlt
    refine ⟨c0, by rw [List.getElem_append_left hlt]; exact kp c1, fun j hj => ?_⟩
    have := Nat.mul_le_mul_right S.n (show i + 1 ≤ l.length by omega)
    rw [Nat.add_mul] at this
    rw [List.getElem?_append_left (by omega), c2 j hj]
  · have hi2 : i = l.length := by simp at hi; omega
    subst hi2
    refine ⟨cs, by simpa using kp hu, fun j hj => ?_⟩
    rw [List.getElem?_append_right (by omega), hxl]
    congr 1
    omega
/-- One of them set anew. -/
theorem OwnG.store {b n c k : Nat} {cs : List Value} {u : T} (h : OwnG S e B P w (.slice (some ⟨b, 0, none⟩) n c) l) (hk : k < l.length) (hu : S.At (fun q => P q ∧ q ≠ b) w cs u) :
    OwnG S e B P (setL w b (k * S.n) cs) (.slice (some ⟨b, 0, none⟩) n c) (l.set k u) := by
  rcases h with ⟨h, _⟩ | ⟨b', cap, cur, hv, h2, h3, h4, h5, h6, h7⟩
  · cases h
  injection hv with hv hn hc
  injection hv with hv
  injection hv with hv
  subst hv hn hc
  have hl := S.len hu
  have hb' := Box.setL cs (k * S.n) h3
  have ho := Only.setL cs (k * S.n) (Only.refl b w)
  have hkn := Nat.mul_le_mul_right S.n (show k + 1 ≤ c by omega)
  rw [Nat.add_mul] at hkn
  have kp : ∀ {c : List Value} {t : T}, S.At (fun q => P q ∧ q ≠ b) w c t → S.At (fun q => P q ∧ q ≠ b) (setL w b (k * S.n) cs) c t := fun hc =>
    S.keep hc (fun q hq hl => ho.block q hl (fun e => by injection e with e; exact hq.2 e)) ho.size
  refine .inr ⟨b, c, putL cur (k * S.n) cs, by rw [List.length_set], h2, hb', by rw [List.length_set]; exact h4, h5, by rw [putL_size]; exact h6, fun i hi _ => ?_⟩
  rw [List.length_set] at hi
  by_cases hik : i = k
  · subst hik
    refine ⟨cs, by rw [List.getElem_set_self]; exact kp hu, fun j hj => ?_⟩
    rw [Nat.zero_add]
    exact putL_new cs cur _ j (by omega) (by omega)
  · obtain ⟨c0, c1, c2⟩ := h7 i hi hi
    refine ⟨c0, by rw [List.getElem_set_ne (by omega)]; exact kp c1, fun j hj => ?_⟩
    rw [← c2 j hj, Nat.zero_add]
    rcases Nat.lt_or_ge i k with h | h
    · have := Nat.mul_le_mul_right S.n (show i + 1 ≤ k by omega)
      rw [Nat.add_mul] at this
      exact putL_old cs cur _ _ (by omega)
    · have := Nat.mul_le_mul_right S.n (show k + 1 ≤ i by omega)
      rw [Nat.add_mul] at this
      exact putL_far cs cur _ _ (by omega)
end

/-- append of one element to a row that the call owns. -/
theorem wpList_pushG {Pr : Program} {T : Type} {ops : Array Oper} {rest : List Oper} {o : Oper} {a : Act} {Q : Exit → Act → World → Prop} (hgd : o.guard = none) (s x : Operand) (t : TypeId)
    (ho : o.op = .call { callee := .builtin .append, args := #[s, x], argTypes := #[t, t] }) (S : Shape T) (e : TypeId) (i : TypeInfo) (z : Value) (bytes : Nat) (ht : Pr.underlying t = some (.slice e)) (hi : Pr.info? e = some i) (hz : i.zero = some z) (hsize : i.size = S.n) (hby : i.bytes = bytes) (hzs : z.cells.size = S.n) (hsz : 0 < S.n) (hb1 : bytes ≤ 1000)
    (B : Nat) (P : Nat → Prop) (w : World) (v : Value) (l : List T) (hs : a.eval s = v) (hown : OwnG S e B P w v l) (u : T) (cs : List Value) (g c : Nat) (hx : a.eval x = .slice (some ⟨g, 0, none⟩) 1 c) (hg : ∀ j, j < S.n → w.cell? ⟨g, j, none⟩ = cs[j]?) (hu : S.At (fun q => P q ∧ v.ownBlock ≠ some q) w cs u) (h1 : ∀ y ∈ cs, y.oneCell' = true)
    (h63 : l.length ≤ 1048577) (hbase : B ≤ w.heap.size)
    (h : ∀ v' w', OwnG S e B P w' v' (l ++ [u]) → w.grownBy w' v.ownBlock → (v'.ownBlock = v.ownBlock ∨ v'.ownBlock = some w.heap.size) → wpList Pr ops Q rest (a.put o.dst v') w') : wpList Pr ops Q (o :: rest) a w := by
  obtain ⟨xs, r1, r2⟩ := hown.row
  have hl := S.len hu
  refine wpList_append_own_at _ hgd s x t ho B e i z S.n bytes ht hi hz hsize hby hzs hsz v l.length xs hs r1 ⟨g, 0, none⟩ 1 c cs hx (by rw [hl, Nat.one_mul]) (fun j y hj => ?_) h1 (by unfold maxLen; omega) ?_ hbase (fun v' w' k1 k2 _ k4 => h v' w' (OwnG.pushed r1 r2 hu k1 k2 k4) k2 k4)
  · have e : (⟨g, 0, none⟩ : Addr).add j = ⟨g, j, none⟩ := by unfold Addr.add; split <;> simp_all
    have hj2 : j < cs.length := by
      by_cases h : j < cs.length
      · exact h
      · rw [List.getElem?_eq_none (by omega)] at hj; cases hj
    rw [e, hg j (by omega)]
    exact hj
  · exact Nat.le_trans (Nat.mul_le_mul (show l.length + 1 ≤ 1048578 by omega) hb1) (by decide)
end Go.Proofs.YtllddjmcemcdhaaGreat
