
/-
  What is proved: small facts on memory that marks are written into: new blocks are not frozen (Clean), cells keep their kinds (Like). No program is named here; no condition beside what each theorem states.
-/
import Derived.Test.YtjbnabjfeepbeaaMem
import Derived.Laws.AppendOwn
namespace Go.Proofs.Ytjbnabjfeepbeaa
open Go.RowKit

/-- From B on all blocks are plain cells, none frozen. -/
def Clean (B : Nat) (w : World) : Prop := ∀ b, B ≤ b → b < w.heap.size → ∃ t cs, Box w b t cs
section
variable {B : Nat} {w w' : World}
theorem Clean.refl (w : World) : Clean w.heap.size w := fun b h1 h2 => absurd h2 (by omega)
theorem Clean.alloc (h : Clean B w) (cs : Array Value) (t : TypeId) : Clean B (w.alloc (.cells cs t)) := fun b h1 h2 => by
  by_cases e : b < w.heap.size
  · obtain ⟨t', cs', hb⟩ := h b h1 e
    exact ⟨t', cs', hb.alloc _⟩
  · have : b = w.heap.size := by simp at h2; omega
    subst this
    exact ⟨t, cs, Box.new w t cs⟩
theorem Clean.set (h : Clean B w) (g i : Nat) (u : Value) : Clean B (w.setCell ⟨g, i, none⟩ u) := fun b h1 h2 => by
  obtain ⟨t', cs', hb⟩ := h b h1 (by simpa [World.setCell] using h2)
  by_cases e : b = g
  · subst e
    exact ⟨t', _, hb.set i u⟩
  · exact ⟨t', cs', (Below.heap_setCell w ⟨g, i, none⟩ u b (fun q => e q)).trans hb⟩
theorem Clean.setL {g : Nat} : ∀ (cs : List Value) {w : World} (p : Nat), Clean B w → Clean B (setL w g p cs)
  | [], _, _, h => h
  | c :: cs, _, p, h => Clean.setL cs (p + 1) (h.set g p c)
theorem Clean.join (h : Clean B w) (hb : Below w.heap.size w w') (h' : Clean w.heap.size w') : Clean B w' := fun b h1 h2 => by
  by_cases e : b < w.heap.size
  · obtain ⟨t', cs', hx⟩ := h b h1 e
    exact ⟨t', cs', hx.below hb e⟩
  · exact h' b (by omega) h2
theorem Clean.up {B' : Nat} (h : Clean B w) (hB : B ≤ B') : Clean B' w := fun b h1 h2 => h b (by omega) h2
theorem Clean.drew (h : Clean B w) : Clean B w.drew := h
end

/-- One value may be stored where another one was: of the same kind; slices alone stay the very same. -/
def kin : Value → Value → Prop
  | .int k _, v => ∃ z, v = .int k z
  | .string _, v => ∃ s, v = .string s
  | .bool _, v => ∃ b, v = .bool b
  | u, v => v = u
theorem kin.refl (v : Value) : kin v v := by
  unfold kin
  split
  · exact ⟨_, rfl⟩
  · exact ⟨_, rfl⟩
  · exact ⟨_, rfl⟩
  · rfl
theorem kin.int (k : IntKind) (x y : Int) : kin (.int k x) (.int k y) := ⟨y, rfl⟩
theorem kin.str (x y : ByteArray) : kin (.string x) (.string y) := ⟨y, rfl⟩
theorem kin.bool (x y : Bool) : kin (.bool x) (.bool y) := ⟨y, rfl⟩
theorem wtK_le {T : Type} (f : T → Nat) (l : List T) (k : Nat) : wtK f l k ≤ (l.map f).sum := by
  induction l generalizing k with
  | nil => simp [wtK]
  | cons x l ih =>
    cases k with
    | zero => simp [wtK]
    | succ k =>
      have := ih k
      simp only [wtK, List.take_succ_cons, List.map_cons, List.sum_cons] at this ⊢
      omega
/-- From B on the blocks of w0 are still there in w, each cell of its kind. -/
structure Like (B : Nat) (w0 w : World) : Prop where
  size : w0.heap.size ≤ w.heap.size
  box : ∀ b, B ≤ b → b < w0.heap.size → ∃ t cs, Box w b t cs ∧ ∀ i v, w0.cell? ⟨b, i, none⟩ = some v → ∃ v', cs[i]? = some v' ∧ kin v v'
section
variable {B : Nat} {w0 w w' : World}
theorem Like.refl (h : Clean B w0) : Like B w0 w0 := ⟨Nat.le_refl _, fun b h1 h2 => by
  obtain ⟨t, cs, hb⟩ := h b h1 h2
  exact ⟨t, cs, hb, fun i v hv => ⟨v, by rw [← hb.cell]; exact hv, kin.refl v⟩⟩⟩
theorem Like.below {E : Nat} (h : Like B w0 w) (hb : Below E w w') (hE : w0.heap.size ≤ E) : Like B w0 w' := ⟨Nat.le_trans h.size hb.size, fun b h1 h2 => by
  obtain ⟨t, cs, hx, hc⟩ := h.box b h1 h2
  exact ⟨t, cs, hx.below hb (by omega), hc⟩⟩
theorem Like.set (h : Like B w0 w) {b i : Nat} {v u : Value} (h0 : w0.cell? ⟨b, i, none⟩ = some v) (hk : kin v u) : Like B w0 (w.setCell ⟨b, i, none⟩ u) := ⟨by simpa [World.setCell] using h.size, fun b' h1 h2 => by
  obtain ⟨t, cs, hx, hc⟩ := h.box b' h1 h2
  by_cases e : b' = b
  · subst e
    refine ⟨t, _, hx.set i u, fun j v' hv => ?_⟩
    obtain ⟨v2, h3, h4⟩ := hc j v' hv
    by_cases ej : i = j
    · subst ej
      rw [h0] at hv
      cases hv
      have hlt : i < cs.size := by
        by_cases hl : i < cs.size
        · exact hl
        · rw [Array.getElem?_eq_none (by omega)] at h3; cases h3
      exact ⟨u, by rw [Array.getElem?_setIfInBounds, if_pos rfl, if_pos hlt], hk⟩
    · exact ⟨v2, by rw [Array.getElem?_setIfInBounds, if_neg ej]; exact h3, h4⟩
  · exact ⟨t, cs, (Below.heap_setCell w ⟨b, i, none⟩ u b' (fun q => e q)).trans hx, hc⟩⟩
theorem Like.cell (h : Like B w0 w) {b i : Nat} {v : Value} (hB : B ≤ b) (h0 : w0.cell? ⟨b, i, none⟩ = some v) : ∃ v', w.cell? ⟨b, i, none⟩ = some v' ∧ kin v v' ∧ w.frozen? ⟨b, i, none⟩ = false := by
  obtain ⟨t, cs, hx, hc⟩ := h.box b hB (World.block_lt_of_cell? w0 _ h0)
  obtain ⟨v', h1, h2⟩ := hc i v h0
  exact ⟨v', by rw [hx.cell]; exact h1, h2, hx.free i⟩
theorem Like.cellI (h : Like B w0 w) {b i : Nat} {k : IntKind} {z : Int} (hB : B ≤ b) (h0 : w0.cell? ⟨b, i, none⟩ = some (.int k z)) : ∃ z', w.cell? ⟨b, i, none⟩ = some (.int k z') ∧ w.frozen? ⟨b, i, none⟩ = false := by
  obtain ⟨v', h1, ⟨z', rfl⟩, h3⟩ := h.cell hB h0
  exact ⟨z', h1, h3⟩
theorem Like.cellS (h : Like B w0 w) {b i : Nat} {s : ByteArray} (hB : B ≤ b) (h0 : w0.cell? ⟨b, i, none⟩ = some (.string s)) : ∃ s', w.cell? ⟨b, i, none⟩ = some (.string s') ∧ w.frozen? ⟨b, i, none⟩ = false := by
  obtain ⟨v', h1, ⟨z', rfl⟩, h3⟩ := h.cell hB h0
  exact ⟨z', h1, h3⟩
theorem Like.cellB (h : Like B w0 w) {b i : Nat} {s : Bool} (hB : B ≤ b) (h0 : w0.cell? ⟨b, i, none⟩ = some (.bool s)) : ∃ s', w.cell? ⟨b, i, none⟩ = some (.bool s') ∧ w.frozen? ⟨b, i, none⟩ = false := by
  obtain ⟨v', h1, ⟨z', rfl⟩, h3⟩ := h.cell hB h0
  exact ⟨z', h1, h3⟩
theorem Like.cellL (h : Like B w0 w) {b i : Nat} {a : Option Addr} {l c : Nat} (hB : B ≤ b) (h0 : w0.cell? ⟨b, i, none⟩ = some (.slice a l c)) : w.cell? ⟨b, i, none⟩ = some (.slice a l c) := by
  obtain ⟨v', h1, h2, h3⟩ := h.cell hB h0
  rw [show v' = .slice a l c from h2] at h1
  exact h1
end

/-- Marks were written between B and the end of w0, from w on, and nowhere else. -/
structure Marked (B : Nat) (w0 w w' : World) : Prop where
  like : Like B w0 w'
  below : Below B w w'
  above : Above w0.heap.size w w'
section
variable {B : Nat} {w0 w w' w'' : World}
theorem Marked.refl (h : Like B w0 w) : Marked B w0 w w := ⟨h, Below.refl _ _, Above.refl _ _⟩
theorem Marked.set (h : Marked B w0 w w') {b i : Nat} {v u : Value} (hB : B ≤ b) (h0 : w0.cell? ⟨b, i, none⟩ = some v) (hk : kin v u) : Marked B w0 w (w'.setCell ⟨b, i, none⟩ u) :=
  ⟨h.like.set h0 hk, h.below.setCell (p := ⟨b, i, none⟩) hB u, h.above.set (World.block_lt_of_cell? w0 _ h0) i u⟩
theorem Marked.trans (h : Marked B w0 w w') (h' : Marked B w0 w' w'') : Marked B w0 w w'' :=
  ⟨h'.like, h.below.trans h'.below, ⟨Nat.le_trans h.above.size h'.above.size, fun b h1 h2 => (h'.above.block b h1 (Nat.lt_of_lt_of_le h2 h.above.size)).trans (h.above.block b h1 h2)⟩⟩
theorem Marked.call (h : Marked B w0 w w') (hB0 : B ≤ w0.heap.size) (hb : Below w'.heap.size w' w'') : Marked B w0 w w'' :=
  h.trans ⟨h.like.below hb h.like.size, hb.mono (Nat.le_trans hB0 h.like.size), ⟨hb.size, fun b _ h2 => hb.block b h2⟩⟩
end

theorem Box.above {w w' : World} {g E : Nat} {t : TypeId} {cs : Array Value} (h : Box w g t cs) (ha : Above E w w') (hg : E ≤ g) : Box w' g t cs := (ha.block g hg h.lt).trans h
/-- The values lie in a block from B on, which is not frozen. -/
def OwnC (w : World) (B : Nat) (a : Option Addr) (vs : List Value) : Prop := vs = [] ∨ ∃ g t cur, a = some ⟨g, 0, none⟩ ∧ B ≤ g ∧ Box w g t cur ∧ vs.length ≤ cur.size ∧ ∀ i, i < vs.length → cur[i]? = vs[i]?
section
variable {B : Nat} {w w' : World} {a : Option Addr} {vs : List Value}
theorem OwnC.below (h : OwnC w B a vs) (hb : Below w.heap.size w w') : OwnC w' B a vs := h.imp id fun ⟨g, t, cur, h1, h2, h3, h4⟩ => ⟨g, t, cur, h1, h2, h3.below hb h3.lt, h4⟩
theorem OwnC.above {E : Nat} (h : OwnC w B a vs) (hb : Above E w w') (hE : E ≤ B) : OwnC w' B a vs := h.imp id fun ⟨g, t, cur, h1, h2, h3, h4⟩ => ⟨g, t, cur, h1, h2, h3.above hb (Nat.le_trans hE h2), h4⟩
theorem OwnC.lower {B' : Nat} (h : OwnC w B a vs) (hB : B' ≤ B) : OwnC w B' a vs := h.imp id fun ⟨g, t, cur, h1, h2, h3⟩ => ⟨g, t, cur, h1, Nat.le_trans hB h2, h3⟩
end
/-- A list that the call owns. -/
theorem ownC_of_row {w : World} {B : Nat} {e : TypeId} {size n : Nat} {v : Value} {vs : List Value} (h : w.ownsRow B e size v n vs) : ∃ a c, v = .slice a n c ∧ n ≤ c ∧ c ≤ maxLen ∧ OwnC w B a vs := by
  rcases h.2 with ⟨rfl, h0⟩ | ⟨g, cap, cur, rfl, hb, hg, hc, hm, hs, ht⟩
  · subst h0
    exact ⟨none, 0, rfl, Nat.le_refl _, Nat.zero_le _, .inl (List.eq_nil_of_length_eq_zero (by have := h.1; simpa using this))⟩
  · refine ⟨_, cap, rfl, hc, hm, .inr ⟨g, e, cur, rfl, hb, hg, ?_, fun i hi => ?_⟩⟩
    · rw [h.1, hs]
      exact Nat.mul_le_mul_right _ hc
    · rw [← ht, List.getElem?_take, if_pos (by rw [← h.1]; exact hi)]
      simp
end Go.Proofs.Ytjbnabjfeepbeaa
