
/-
  What is proved: rows of drawn types stay such where a number is stored over one, or a short text over one. No condition beside what each theorem states.
-/
import Derived.Test.YtjbnabjfeepbeaaDrawT2
namespace Go.Proofs.Ytjbnabjfeepbeaa
open Go.ChangeShapes Go.WideShapes Go.ChangeAt Go.RowKit
set_option maxRecDepth 100000

theorem list_pick {T : Type} (R : Nat → T → Prop) : ∀ n, (∀ i, i < n → ∃ t, R i t) → ∃ l : List T, l.length = n ∧ ∀ i (hi : i < l.length), R i l[i]
  | 0, _ => ⟨[], rfl, fun i hi => absurd hi (by simp)⟩
  | n + 1, h => by
    obtain ⟨l, hl, hr⟩ := list_pick R n (fun i hi => h i (by omega))
    obtain ⟨t, ht⟩ := h n (by omega)
    refine ⟨l ++ [t], by simp [hl], fun i hi => ?_⟩
    by_cases hin : i < l.length
    · rw [List.getElem_append_left hin]; exact hr i hin
    · have : i = n := by simp at hi; omega
      subst this
      rw [List.getElem_append_right (by omega)]
      simpa using ht
/-- A number over a number, or a short text over a text. -/
def over (u0 u : Value) : Prop := (∃ x y, u0 = .int .i64 x ∧ u = .int .i64 y) ∨ ∃ s s' : ByteArray, u0 = .string s ∧ u = .string s' ∧ s'.size ≤ 20
section
variable {w : World} {p q : Addr} {u0 u : Value}
theorem over_int (hp : w.cell? p = some u0) (hk : over u0 u) {x : Int} (hq : w.cell? q = some (.int .i64 x)) : ∃ y, (w.setCell p u).cell? q = some (.int .i64 y) := by
  by_cases e : q = p
  · subst e
    rw [hp] at hq
    rcases hk with ⟨x0, y, h1, h2⟩ | ⟨s, s', h1, h2, _⟩
    · exact ⟨y, by rw [World.cell?_setCell_same _ _ _ hp, h2]⟩
    · rw [h1] at hq; cases hq
  · exact ⟨x, (World.cell?_setCell_other _ _ _ _ (Ne.symm e)).trans hq⟩
theorem over_str (hp : w.cell? p = some u0) (hk : over u0 u) {s : ByteArray} (hq : w.cell? q = some (.string s)) (hs : s.size ≤ 20) : ∃ s', (w.setCell p u).cell? q = some (.string s') ∧ s'.size ≤ 20 := by
  by_cases e : q = p
  · subst e
    rw [hp] at hq
    rcases hk with ⟨x0, y, h1, h2⟩ | ⟨s0, s', h1, h2, h3⟩
    · rw [h1] at hq; cases hq
    · exact ⟨s', by rw [World.cell?_setCell_same _ _ _ hp, h2], h3⟩
  · exact ⟨s, (World.cell?_setCell_other _ _ _ _ (Ne.symm e)).trans hq, hs⟩
theorem over_sl (hp : w.cell? p = some u0) (hk : over u0 u) {a : Option Addr} {n c : Nat} (hq : w.cell? q = some (.slice a n c)) : (w.setCell p u).cell? q = some (.slice a n c) := by
  by_cases e : q = p
  · subst e
    rw [hp] at hq
    rcases hk with ⟨x0, y, h1, h2⟩ | ⟨s0, s', h1, h2, h3⟩
    · rw [h1] at hq; cases hq
    · rw [h1] at hq; cases hq
  · exact (World.cell?_setCell_other _ _ _ _ (Ne.symm e)).trans hq
theorem rowsF_over {Q : Nat → Prop} {a : Option Addr} {l : List FieldD} (hp : w.cell? p = some u0) (hk : over u0 u) (hr : Rows fieldS Q w a l) (hok : ∀ f ∈ l, f.fName.size ≤ 20) : ∃ l' : List FieldD, l'.length = l.length ∧ Rows fieldS Q (w.setCell p u) a l' ∧ ∀ f ∈ l', f.fName.size ≤ 20 := by
  obtain ⟨l', hl, hR⟩ := list_pick (fun i (t : FieldD) => (∃ b o cs, a = some ⟨b, o, none⟩ ∧ Q b ∧ b < (w.setCell p u).heap.size ∧ (∀ j, j < fieldS.n → (w.setCell p u).cell? ⟨b, o + i * fieldS.n + j, none⟩ = cs[j]?) ∧ fieldS.At Q (w.setCell p u) cs t) ∧ t.fName.size ≤ 20) l.length (fun i hi => by
    obtain ⟨b, o, cs, e, h1, h2, h3, h4⟩ := hr i hi
    obtain rfl : cs = [.string l[i].fName, .int .i64 l[i].fMark, .int .i64 l[i].fType] := h4
    have hn : fieldS.n = 3 := rfl
    rw [hn] at h3
    obtain ⟨s', k0, k1⟩ := over_str hp hk (h3 0 (by omega)) (hok _ (List.getElem_mem hi))
    obtain ⟨y1, k2⟩ := over_int hp hk (h3 1 (by omega))
    obtain ⟨y2, k3⟩ := over_int hp hk (h3 2 (by omega))
    refine ⟨⟨s', y1, y2⟩, ⟨b, o, [.string s', .int .i64 y1, .int .i64 y2], e, h1, by simpa [World.setCell] using h2, fun j hj => ?_, rfl⟩, k1⟩
    rw [hn] at hj ⊢
    match j, hj with
    | 0, _ => exact k0
    | 1, _ => exact k2
    | 2, _ => exact k3)
  exact ⟨l', hl, fun i hi => (hR i hi).1, fun f hf => by
    obtain ⟨i, hi, rfl⟩ := List.getElem_of_mem hf
    exact (hR i hi).2⟩
/-- What stays of drawn types. -/
def shortT (t : TypeD) : Prop := t.fFields.length ≤ 3 ∧ t.fOwner.size ≤ 20 ∧ t.fName.size ≤ 20 ∧ ∀ f ∈ t.fFields, f.fName.size ≤ 20
theorem rowsT_over {Q : Nat → Prop} {a : Option Addr} {l : List TypeD} (hp : w.cell? p = some u0) (hk : over u0 u) (hr : Rows typeZ Q w a l) (hok : ∀ t ∈ l, shortT t) : ∃ l' : List TypeD, l'.length = l.length ∧ Rows typeZ Q (w.setCell p u) a l' ∧ ∀ t ∈ l', shortT t := by
  obtain ⟨l', hl, hR⟩ := list_pick (fun i (t : TypeD) => (∃ b o cs, a = some ⟨b, o, none⟩ ∧ Q b ∧ b < (w.setCell p u).heap.size ∧ (∀ j, j < typeZ.n → (w.setCell p u).cell? ⟨b, o + i * typeZ.n + j, none⟩ = cs[j]?) ∧ typeZ.At Q (w.setCell p u) cs t) ∧ shortT t) l.length (fun i hi => by
    obtain ⟨b, o, cs, e, h1, h2, h3, h4⟩ := hr i hi
    obtain ⟨a3, c3, rfl, h5, h6, h7⟩ := h4
    have hs := hok _ (List.getElem_mem hi)
    have hn : typeZ.n = 6 := rfl
    rw [hn] at h3
    obtain ⟨y0, k0⟩ := over_int hp hk (h3 0 (by omega))
    obtain ⟨y1, k1⟩ := over_int hp hk (h3 1 (by omega))
    obtain ⟨y2, k2⟩ := over_int hp hk (h3 2 (by omega))
    have k3 := over_sl hp hk (h3 3 (by omega))
    obtain ⟨s4, k4, q4⟩ := over_str hp hk (h3 4 (by omega)) hs.2.1
    obtain ⟨s5, k5, q5⟩ := over_str hp hk (h3 5 (by omega)) hs.2.2.1
    obtain ⟨fl, f1, f2, f3⟩ := rowsF_over hp hk h5 hs.2.2.2
    refine ⟨⟨y0, y1, y2, fl, s4, s5⟩, ⟨b, o, [.int .i64 y0, .int .i64 y1, .int .i64 y2, .slice a3 fl.length c3, .string s4, .string s5], e, h1, by simpa [World.setCell] using h2, fun j hj => ?_, a3, c3, rfl, f2, by rw [f1]; exact h6, fun h0 b' o' i' e' => by rw [World.frozen?_setCell]; exact h7 (by rw [← f1]; exact h0) b' o' i' e'⟩, by rw [f1]; exact hs.1, q4, q5, f3⟩
    rw [hn] at hj ⊢
    match j, hj with
    | 0, _ => exact k0
    | 1, _ => exact k1
    | 2, _ => exact k2
    | 3, _ => rw [f1]; exact k3
    | 4, _ => exact k4
    | 5, _ => exact k5)
  exact ⟨l', hl, fun i hi => (hR i hi).1, fun f hf => by
    obtain ⟨i, hi, rfl⟩ := List.getElem_of_mem hf
    exact (hR i hi).2⟩
end
/-- What a draw of any types leaves. -/
def AnyT (g k B : Nat) (w0 : World) (a : Option Addr) (n c : Nat) (w' : World) : Prop := ∃ l : List TypeD, l.length = n ∧ n ≤ c ∧ c ≤ maxLen ∧ n ≤ 9 ∧ Rows typeZ (fun q => B ≤ q) w' a l ∧ (∀ t ∈ l, shortT t) ∧ Cur w' g k ∧ Only g w0 w'
theorem drawn_short {n : Nat} {t : TypeD} (h : drawnT n t) : shortT t := ⟨h.1, h.2.1, h.2.2.1, h.2.2.2.1⟩
theorem AnyT.over {g k B n c b j : Nat} {w0 w : World} {a : Option Addr} {u0 u : Value} (h : AnyT g k B w0 a n c w) (hp : w.cell? ⟨b, j, none⟩ = some u0) (hk : over u0 u) (hb : w0.heap.size ≤ b) (hg : g < b) : AnyT g k B w0 a n c (w.setCell ⟨b, j, none⟩ u) := by
  obtain ⟨l, h1, h2, h3, h4, h5, h6, h7, h8⟩ := h
  obtain ⟨l', d1, d2, d3⟩ := rowsT_over hp hk h5 h6
  have ho : Only b w (w.setCell ⟨b, j, none⟩ u) := (Only.refl b w).set j u
  exact ⟨l', d1.trans h1, h2, h3, h4, d2, d3, h7.far ho hg, h8.far ho hb⟩
theorem AnyT.pick {g k k' B n c : Nat} {w0 w w' : World} {a : Option Addr} (h : AnyT g k B w0 a n c w) (hg : g < B) (hc : Cur w' g k') (ho : Only g w w') : AnyT g k' B w0 a n c w' := by
  obtain ⟨l, h1, h2, h3, h4, h5, h6, _, h8⟩ := h
  exact ⟨l, h1, h2, h3, h4, h5.keep (fun b hb hl => ho.block b hl (fun e => by injection e with e; omega)) ho.size, h6, hc, h8.trans ho⟩
theorem AnyT.take {g k B n c m : Nat} {w0 w : World} {a : Option Addr} (h : AnyT g k B w0 a n c w) (hm : m ≤ n) : AnyT g k B w0 a m c w := by
  obtain ⟨l, h1, h2, h3, h4, h5, h6, h7, h8⟩ := h
  refine ⟨l.take m, by rw [List.length_take]; omega, by omega, h3, by omega, fun i hi => ?_, fun t ht => h6 t (List.mem_of_mem_take ht), h7, h8⟩
  have hi' : i < l.length := by rw [List.length_take] at hi; omega
  have := h5 i hi'
  rwa [show (l.take m)[i] = l[i] from List.getElem_take]
end Go.Proofs.Ytjbnabjfeepbeaa
