
/-
  What is proved: What is said: how great types are, cut where it is too much; that good types have ranks; a map of numbers to sizes that a call makes itself; a contract of the program's sizeWithin. No condition beside what each theorem states.
-/
import Derived.Test.YtaccifjkeblhpaaGreatSim
import Derived.Test.YtaccifjkeblhpaaGreatEqHeads
import Derived.Test.YtaccifjkeblhpaaGreatPushAll
namespace Go.Proofs.YtaccifjkeblhpaaGreat
open Go.ChangeShapes Go.WideShapes Go.ChangeAt Go.RowKit

/-- All ways inside from a type are shorter. -/
def Rk (l : List TypeD) : Nat → Nat → Prop
  | 0, _ => False
  | f + 1, n => ∃ h : n < l.length, ∀ x ∈ insideD l[n], ∃ m : Nat, x = (m : Int) ∧ Rk l f m
theorem Rk.lt {l : List TypeD} {f n : Nat} (h : Rk l f n) : n < l.length := by
  cases f with
  | zero => cases h
  | succ f => exact h.1

end Go.Proofs.YtaccifjkeblhpaaGreat

namespace Go.Proofs.YtaccifjkeblhpaaGreat
open Go.ChangeShapes Go.WideShapes Go.ChangeAt Go.RowKit Go.Maps Go.WideMaps

theorem intKeyed : Keyed Tryz.prog 3 := int_keyed Tryz.underlying3
theorem zeroInt (w : World) : (zeroValue 3).run Tryz.prog w = .ok (.int .i64 0) w := by kernel_rfl
theorem intKey {x : Int} (h : (Lit.int .i64 x).wf = true) : keyOf Tryz.prog 3 (.int .i64 x) = some (.int .i64 x) := keyOf_int_mk Tryz.underlying3 h
/-- Block b is a map that tells S of the numbers in K. -/
def KMap (S : Int → Int) (w : World) (b : Nat) (K : List Int) : Prop :=
  ∃ D : DataW Unit, w.ownsMap Tryz.prog 3 (plainElem Tryz.prog 3) b K.length D ∧ IsMap D ∧ ∀ x, (Lit.int .i64 x).wf = true → has D (.int .i64 x) = decide (x ∈ K) ∧ (x ∈ K → D.atKey (.int .i64 x) (.lit (.int .i64 0)) = .lit (.int .i64 (S x)))
theorem KMap.lt {S : Int → Int} {w : World} {b : Nat} {K : List Int} (h : KMap S w b K) : b < w.heap.size := by obtain ⟨D, h, _⟩ := h; exact h.lt
theorem KMap.made (S : Int → Int) (w : World) : KMap S (w.alloc (.map #[] 0)) w.heap.size [] := ⟨.map [], World.ownsMap_made w Tryz.prog _ _, isMap_empty, fun _ _ => ⟨rfl, fun h => by cases h⟩⟩
theorem KMap.block {S : Int → Int} {w w' : World} {b : Nat} {K : List Int} (h : KMap S w b K) (hb : w'.heap[b]? = w.heap[b]?) : KMap S w' b K := by
  obtain ⟨D, ⟨es, clock, h1, h2⟩, h3⟩ := h
  exact ⟨D, ⟨es, clock, hb.trans h1, h2⟩, h3⟩
theorem KMap.below {S : Int → Int} {w w' : World} {b : Nat} {K : List Int} (h : KMap S w b K) (hb : Below w.heap.size w w') : KMap S w' b K := h.block (hb.block b h.lt)
theorem KMap.look {S : Int → Int} {w : World} {b : Nat} {K : List Int} (h : KMap S w b K) {t : TypeId} (ht : Tryz.prog.underlying t = some (.map 3 3)) {x : Int} (hx : (Lit.int .i64 x).wf = true) :
    ∃ z, (Instr.lookup t (.map (some b)) (.int .i64 x) true).run Tryz.prog w = .ok (.tuple #[.int .i64 z, .bool (decide (x ∈ K))]) w ∧ (x ∈ K → z = S x) := by
  obtain ⟨D, h1, _, h3⟩ := h
  obtain ⟨v, ps, hrun, hv⟩ := h1.look_ok intKeyed ht (zeroInt w) (plainElem_int Tryz.underlying3 (by decide)) (intKey hx)
  obtain ⟨c, rfl, hc, _⟩ := plainElem_int_inv Tryz.underlying3 hv
  obtain ⟨h4, h5⟩ := h3 x hx
  simp only [Prod.mk.injEq] at hc
  refine ⟨c, by rw [hrun, h4], fun hm => ?_⟩
  have := (h5 hm).symm.trans hc.1
  simpa using this.symm
theorem KMap.put {S : Int → Int} {w : World} {b : Nat} {K : List Int} (h : KMap S w b K) {t : TypeId} (ht : Tryz.prog.underlying t = some (.map 3 3)) (hn : K.length < maxLen) {x : Int} (hx : (Lit.int .i64 x).wf = true) (hs : (Lit.int .i64 (S x)).wf = true) :
    ∃ w', (Instr.mapUpdate t (.map (some b)) (.int .i64 x) (.int .i64 (S x))).run Tryz.prog w = .ok () w' ∧ KMap S w' b (K ++ [x]) ∧ w.grownBy w' (some b) := by
  obtain ⟨D, h1, h2, h3⟩ := h
  obtain ⟨w', hrun, r1, r2⟩ := h1.update intKeyed ht hn (intKey hx) (plainElem_int Tryz.underlying3 hs)
  refine ⟨w', hrun, ⟨_, by rw [List.length_append]; exact r1, h2.put _ _, fun y hy => ?_⟩, r2⟩
  by_cases e : y = x
  · subst e
    have hk := intKeyed.key (intKey hx)
    exact ⟨by rw [has_put_same h2 hk]; simp, fun _ => atKey_put_same h2 hk _ _⟩
  · have hne : (Lit.int .i64 y) ≠ Lit.int .i64 x := fun h => e (by injection h)
    obtain ⟨h4, h5⟩ := h3 y hy
    refine ⟨by rw [has_put_other hne, h4]; simp [e], fun hm => ?_⟩
    rw [atKey_put_other hne]
    exact h5 (by simpa [e] using hm)
/-- The numbers whose sizes are known. -/
structure Known (l : List TypeD) (K : List Int) : Prop where
  once : K.Nodup
  here : ∀ x ∈ K, 0 ≤ x ∧ x < (l.length : Int)
theorem Known.len {l : List TypeD} {K : List Int} (h : Known l K) (h24 : l.length ≤ 24) : K.length ≤ 24 := by
  have := nodup_most l.length K h.once h.here
  omega
theorem Known.put {l : List TypeD} {K : List Int} (h : Known l K) {x : Int} (hx : 0 ≤ x ∧ x < (l.length : Int)) (hn : x ∉ K) : Known l (K ++ [x]) :=
  ⟨by rw [List.nodup_append]; exact ⟨h.once, by simp, fun a ha b hb e => by rw [List.mem_singleton.1 hb] at e; exact hn (e ▸ ha)⟩, fun y hy => by
    rcases List.mem_append.1 hy with h1 | h1
    · exact h.here y h1
    · rw [List.mem_singleton.1 h1]; exact hx⟩
end Go.Proofs.YtaccifjkeblhpaaGreat
