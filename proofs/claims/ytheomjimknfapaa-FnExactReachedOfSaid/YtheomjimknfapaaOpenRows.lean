
/-
  What is proved: a slice of structs that came in, opened at every element; numbers and texts as elements. No program is named here; no condition beside what each theorem states.
-/
import Derived.Test.YtheomjimknfapaaShape
import Derived.Deep.Slices
import Derived.ChangeMaps
import Derived.OpenShut
namespace Go.Proofs.Ytheomjimknfapaa
open Go.RowKit Go.ChangeShapes Go.WideShapes Go.Deep

section
variable {H : Type} {enc : TypeId × Value → H} {P : Program} {w : World} {base : Nat} {spare : Nat → Bool} {held : Bool}

theorem open_rows {T : Type} (S : Shape T) (ok : T → Prop) {t e : TypeId} {fuel : Nat} {cs : List Value} {x : DataW H × List MemPlace} (ht : P.underlying t = some (.slice e)) (hn : P.cellsOf e = S.n) (hpos : 0 < S.n)
    (hel : ∀ m cs x, DataW.trod enc P w base spare held m e cs = some x → ∃ t, S.At Any w cs t ∧ ok t)
    (h : DataW.trod enc P w base spare held fuel t cs = some x) : ∃ (a : Option Addr) (cap : Nat) (l : List T), cs = [.slice a l.length cap] ∧ l.length ≤ cap ∧ l.length ≤ maxLen ∧ Rows S Any w a l ∧ ∀ t ∈ l, ok t := by
  rcases open_slice ht h with ⟨rfl, _⟩ | ⟨a, len, cap, m, n, D, Pl, rfl, _, hl, hm, hmm, _, hx⟩
  · exact ⟨none, 0, [], rfl, Nat.le_refl _, Nat.zero_le _, Rows.nil, fun t h => by cases h⟩
  have hlm : len ≤ m := by rw [hmm]; split <;> omega
  have key : ∀ i, i < len → ∃ t : T, (∃ cs', w.cells? base (a.add (i * S.n)) S.n = some cs' ∧ S.At Any w cs' t) ∧ ok t := fun i hi => by
    obtain ⟨cs', h1, h2⟩ := hx i (by omega)
    rw [hn] at h1
    obtain ⟨t, h3, h4⟩ := hel _ _ _ h2
    exact ⟨t, ⟨cs', h1, h3⟩, h4⟩
  have build : ∀ k, k ≤ len → ∃ l : List T, l.length = k ∧ (∀ i (h : i < l.length), ∃ cs', w.cells? base (a.add (i * S.n)) S.n = some cs' ∧ S.At Any w cs' l[i]) ∧ ∀ t ∈ l, ok t := by
    intro k
    induction k with
    | zero => exact fun _ => ⟨[], rfl, fun i h => absurd h (by simp), fun t h => by cases h⟩
    | succ k ih =>
      intro hk
      obtain ⟨l, h1, h2, h3⟩ := ih (by omega)
      obtain ⟨t, h4, h5⟩ := key k (by omega)
      refine ⟨l ++ [t], by simp [h1], fun i hi => ?_, fun u hu => ?_⟩
      · by_cases e : i < l.length
        · rw [List.getElem_append_left e]
          exact h2 i e
        · have : i = l.length := by simp at hi; omega
          subst this
          rw [List.getElem_append_right (Nat.le_refl _)]
          simp only [Nat.sub_self, List.getElem_cons_zero]
          rw [h1]
          exact h4
      · rcases List.mem_append.1 hu with h | h
        · exact h3 u h
        · obtain rfl : u = t := by simpa using h
          exact h5
  obtain ⟨l, h1, h2, h3⟩ := build len (Nat.le_refl _)
  refine ⟨some a, cap, l, by rw [h1], by omega, by omega, fun i hi => ?_, h3⟩
  obtain ⟨cs', h4, h5⟩ := h2 i hi
  obtain ⟨_, hlen, hc⟩ := World.cells?_some h4
  obtain ⟨b, off, spot⟩ := a
  have h0 := hc 0 hpos
  have hsome : ∃ v, cs'[0]? = some v := ⟨cs'[0], List.getElem?_eq_getElem (by omega)⟩
  obtain ⟨v, hv⟩ := hsome
  rw [hv] at h0
  by_cases hi0 : i = 0
  · subst hi0
    have hspot : spot = none := by simpa [Addr.add] using World.cell?_spot h0
    subst hspot
    have hb := World.block_lt_of_cell? w _ h0
    refine ⟨b, off, cs', rfl, trivial, by simpa [Addr.add] using hb, fun j hj => ?_, h5⟩
    rw [← hc j hj]
    simp [Addr.add]
    split <;> simp_all
  · obtain ⟨cs0, h6, _⟩ := h2 0 (by omega)
    obtain ⟨_, hlen0, hc0⟩ := World.cells?_some h6
    have h7 := hc0 0 hpos
    obtain ⟨v0, hv0⟩ : ∃ v, cs0[0]? = some v := ⟨cs0[0], List.getElem?_eq_getElem (by omega)⟩
    rw [hv0] at h7
    have hspot : spot = none := by simpa [Addr.add] using World.cell?_spot h7
    subst hspot
    have hb := World.block_lt_of_cell? w _ h7
    refine ⟨b, off, cs', rfl, trivial, by simpa [Addr.add] using hb, fun j hj => ?_, h5⟩
    rw [← hc j hj]
    rw [WideShapes.add_plain, WideShapes.add_plain]

theorem open_whole {T : Type} (S : Shape T) (ok : T → Prop) {t e : TypeId} {a : Option Addr} {len cap : Nat} {d : DataW H} {p : List MemPlace} (ht : P.underlying t = some (.slice e)) (hn : P.cellsOf e = S.n) (hpos : 0 < S.n)
    (hel : ∀ m cs x, DataW.trod enc P w base spare held m e cs = some x → ∃ t, S.At Any w cs t ∧ ok t)
    (h : ∃ fuel, DataW.trod enc P w base spare held fuel t (Value.slice a len cap).cells.toList = some (d, p)) : ∃ l : List T, l.length = len ∧ len ≤ maxLen ∧ Rows S Any w a l ∧ ∀ t ∈ l, ok t := by
  obtain ⟨fuel, h⟩ := h
  obtain ⟨a', cap', l, e1, _, h1, h2, h3⟩ := open_rows S ok ht hn hpos hel h
  simp [Value.cells] at e1
  obtain ⟨rfl, rfl, rfl⟩ := e1
  exact ⟨l, rfl, h1, h2, h3⟩
end

/-- A slice of structs that came in. -/
def CameIn {T : Type} (S : Shape T) (ok : T → Prop) (w : World) (a : Option Addr) (len : Nat) (l : List T) : Prop := l.length = len ∧ len ≤ maxLen ∧ Rows S Any w a l ∧ ∀ t ∈ l, ok t

/-- Numbers and texts as elements. -/
def intS : Shape Int where
  n := 1
  At _ _ cs t := cs = [.int .i64 t]
  len h := by rw [h]; rfl
  keep h _ _ := h
  mono h _ := h
def strS : Shape ByteArray where
  n := 1
  At _ _ cs t := cs = [.string t]
  len h := by rw [h]; rfl
  keep h _ _ := h
  mono h _ := h

end Go.Proofs.Ytheomjimknfapaa
