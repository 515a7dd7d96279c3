
/-
  What is proved: What is said: how great types are, cut where it is too much; that good types have ranks; a map of numbers to sizes that a call makes itself; a contract of the program's sizeWithin. No condition beside what each theorem states.
-/
import Derived.Test.YtbpbebhnledgnaaGreatSim
import Derived.Test.YtbpbebhnledgnaaGreatEqHeads
import Derived.Test.YtbpbebhnledgnaaGreatIParts
namespace Go.Proofs.YtbpbebhnledgnaaGreat
open Go.ChangeShapes Go.WideShapes Go.ChangeAt Go.RowKit

def sumZ (S : Int → Int) (ps : List Int) : Int := (ps.map S).foldl (· + ·) 0
def oneS (S : Int → Int) (t : TypeD) : Int :=
  if t.fKind = 1 then 4 else if t.fKind = 2 ∨ t.fKind = 3 then 1 else if t.fKind = 6 then 8 else min 1000000001 (sumZ S (insideD t) * (if t.fKind = 4 then t.fLong else 1))
def sizeF (l : List TypeD) : Nat → Int → Int
  | 0, _ => 0
  | f + 1, x => if h : 0 ≤ x ∧ x.toNat < l.length then oneS (sizeF l f) l[x.toNat] else 0
/-- All ways inside from a type are shorter. -/
def Rk (l : List TypeD) : Nat → Nat → Prop
  | 0, _ => False
  | f + 1, n => ∃ h : n < l.length, ∀ x ∈ insideD l[n], ∃ m : Nat, x = (m : Int) ∧ Rk l f m
theorem Rk.lt {l : List TypeD} {f n : Nat} (h : Rk l f n) : n < l.length := by
  cases f with
  | zero => cases h
  | succ f => exact h.1

theorem rk_met {l : List TypeD} (hg : good l) : ∀ (k : Nat) (V : List Int) (n : Nat), V.Nodup → (∀ v ∈ V, ∃ i : Nat, v = (i : Int) ∧ ∃ hi : i < l.length, Reach l insideD (insideD l[i]) n) → V.length + k = l.length → n < l.length → Rk l k n := by
  intro k
  induction k with
  | zero =>
    intro V n hV hr hlen hn
    have hnV : (n : Int) ∉ V := fun h => by
      obtain ⟨i, e, hi, hri⟩ := hr _ h
      have : n = i := by omega
      subst this
      exact hg.2 n hn ⟨hi, hri⟩
    have := nodup_most l.length ((n : Int) :: V) (List.nodup_cons.2 ⟨hnV, hV⟩) (fun x hx => by
      rcases List.mem_cons.1 hx with rfl | hx
      · omega
      · obtain ⟨i, rfl, hi, _⟩ := hr x hx; omega)
    simp at this
    omega
  | succ k ih =>
    intro V n hV hr hlen hn
    have hnV : (n : Int) ∉ V := fun h => by
      obtain ⟨i, e, hi, hri⟩ := hr _ h
      have : n = i := by omega
      subst this
      exact hg.2 n hn ⟨hi, hri⟩
    refine ⟨hn, fun x hx => ?_⟩
    obtain ⟨h0, h1⟩ := hg.1.inside n hn x hx
    obtain ⟨m, rfl⟩ := Int.eq_ofNat_of_zero_le h0
    refine ⟨m, rfl, ih ((n : Int) :: V) m (List.nodup_cons.2 ⟨hnV, hV⟩) (fun v hv => ?_) (by simp; omega) (by omega)⟩
    rcases List.mem_cons.1 hv with rfl | hv
    · exact ⟨n, rfl, hn, .start hx⟩
    · obtain ⟨i, e, hi, hri⟩ := hr v hv
      exact ⟨i, e, hi, .step hn hri hx⟩
theorem rk_all {l : List TypeD} (hg : good l) {n : Nat} (hn : n < l.length) : Rk l l.length n := rk_met hg l.length [] n List.nodup_nil (fun _ h => by cases h) (by simp) hn

theorem sumZ_congr {S S' : Int → Int} {ps : List Int} (h : ∀ x ∈ ps, S x = S' x) : sumZ S ps = sumZ S' ps := by unfold sumZ; rw [List.map_congr_left h]
theorem oneS_congr {S S' : Int → Int} {t : TypeD} (h : ∀ x ∈ insideD t, S x = S' x) : oneS S t = oneS S' t := by unfold oneS; rw [sumZ_congr h]
theorem sizeF_in {l : List TypeD} (f : Nat) {n : Nat} (hn : n < l.length) : sizeF l (f + 1) (n : Int) = oneS (sizeF l f) l[n] := by
  unfold sizeF
  rw [dif_pos ⟨by omega, by omega⟩]
  simp
theorem sizeF_more {l : List TypeD} : ∀ (f n : Nat), Rk l f n → ∀ g, f ≤ g → sizeF l g (n : Int) = sizeF l f (n : Int) := by
  intro f
  induction f with
  | zero => intro n h; cases h
  | succ f ih =>
    intro n h g hg
    obtain ⟨hn, hp⟩ := h
    obtain ⟨g', rfl⟩ : ∃ g', g = g' + 1 := ⟨g - 1, by omega⟩
    rw [sizeF_in g' hn, sizeF_in f hn]
    exact oneS_congr (fun x hx => by
      obtain ⟨m, rfl, hm⟩ := hp x hx
      exact ih m hm g' (by omega))
/-- The size of a type. -/
def sizeS (l : List TypeD) (x : Int) : Int := sizeF l 24 x
theorem sizeS_eq {l : List TypeD} (hg : good l) {n : Nat} (hn : n < l.length) : sizeS l (n : Int) = oneS (sizeS l) l[n] := by
  have h := rk_all hg hn
  have h24 := hg.1.most
  unfold sizeS
  rw [sizeF_more _ n h 24 h24, ← sizeF_more _ n h 25 (by omega), sizeF_in 24 hn]
theorem sumZ_append (S : Int → Int) (ps : List Int) (x : Int) : sumZ S (ps ++ [x]) = sumZ S ps + S x := by simp [sumZ]
theorem fold_bounds {S : Int → Int} {b : Int} (hS : ∀ x, 0 ≤ S x ∧ S x ≤ b) : ∀ (ps : List Int) (a : Int), a ≤ (ps.map S).foldl (· + ·) a ∧ (ps.map S).foldl (· + ·) a ≤ a + ps.length * b
  | [], a => by simp
  | x :: ps, a => by
    have h := fold_bounds hS ps (a + S x)
    have := hS x
    simp only [List.map_cons, List.foldl_cons, List.length_cons]
    push_cast
    rw [Int.add_mul]
    omega
theorem sumZ_bounds {S : Int → Int} {b : Int} (hS : ∀ x, 0 ≤ S x ∧ S x ≤ b) (ps : List Int) : 0 ≤ sumZ S ps ∧ sumZ S ps ≤ ps.length * b := by
  have := fold_bounds hS ps 0
  unfold sumZ
  omega
theorem sizeF_bounds {l : List TypeD} (hne : near l) : ∀ (f : Nat) (x : Int), 0 ≤ sizeF l f x ∧ sizeF l f x ≤ 1000000001 := by
  intro f
  induction f with
  | zero => intro x; exact ⟨Int.le_refl _, by show (0 : Int) ≤ _; decide⟩
  | succ f ih =>
    intro x
    unfold sizeF
    split
    · rename_i h
      unfold oneS
      have hs := (sumZ_bounds ih (insideD l[x.toNat])).1
      split
      · decide
      split
      · decide
      split
      · decide
      split
      · rename_i h4
        have hlong : 0 ≤ l[x.toNat].fLong := by
          rcases hne.ok x.toNat h.2 with ⟨h3, hb⟩ | ⟨_, ho⟩
          · have := hb.2.1; omega
          · rcases ho.2 with ⟨_, q, _⟩ | ⟨_, q, _⟩ | ⟨_, q, _⟩ <;> omega
        have := Int.mul_nonneg hs hlong
        omega
      · omega
    · decide
theorem sizeS_bounds {l : List TypeD} (hne : near l) (x : Int) : 0 ≤ sizeS l x ∧ sizeS l x ≤ 1000000001 := sizeF_bounds hne 24 x
end Go.Proofs.YtbpbebhnledgnaaGreat

namespace Go.Proofs.YtbpbebhnledgnaaGreat
open Go.ChangeShapes Go.WideShapes Go.ChangeAt Go.RowKit Go.Maps Go.WideMaps

theorem intKeyed : Keyed Tryz.prog 3 := int_keyed Tryz.underlying3
theorem zeroInt (w : World) : (zeroValue 3).run Tryz.prog w = .ok (.int .i64 0) w := by kernel_rfl
theorem intKey {x : Int} (h : (Lit.int .i64 x).wf = true) : keyOf Tryz.prog 3 (.int .i64 x) = some (.int .i64 x) := keyOf_int_mk Tryz.underlying3 h
/-- Block b is a map that tells S of the numbers in K. -/
def KMap (S : Int → Int) (w : World) (b : Nat) (K : List Int) : Prop :=
  ∃ D : DataW Unit, w.ownsMap Tryz.prog 3 (plainElem Tryz.prog 3) b K.length D ∧ IsMap D ∧ ∀ x, (Lit.int .i64 x).wf = true → has D (.int .i64 x) = decide (x ∈ K) ∧ (x ∈ K → D.atKey (.int .i64 x) (.lit (.int .i64 0)) = .lit (.int .i64 (S x)))
theorem KMap.lt {S : Int → Int} {w : World} {b : Nat} {K : List Int} (h : KMap S w b K) : b < w.heap.size := by obtain ⟨D, h, _⟩ := h; exact h.lt
theorem KMap.made (S : Int → Int) (w : World) : KMap S (w.alloc (.map #[] 0)) w.heap.size [] := ⟨.map [], World.ownsMap_made w Tryz.prog _ _, isMap_empty, fun _ _ => ⟨rfl, fun h => by cases h⟩⟩
theorem KMap.block {S : Int → Int} {w w' : World} {b : Nat} {K : List Int} (h : KMap S w b K) (hb : w'.heap[b]? = w.heap[b]?) : KMap S w' b K := by
  obtain ⟨D, ⟨es, clock, h1, h2⟩, h3⟩ := h
  exact ⟨D, ⟨es, clock, hb.trans h1, h2⟩, h3⟩
theorem KMap.below {S : Int → Int} {w w' : World} {b : Nat} {K : List Int} (h : KMap S w b K) (hb : Below w.heap.size w w') : KMap S w' b K := h.block (hb.block b h.lt)
theorem KMap.look {S : Int → Int} {w : World} {b : Nat} {K : List Int} (h : KMap S w b K) {t : TypeId} (ht : Tryz.prog.underlying t = some (.map 3 3)) {x : Int} (hx : (Lit.int .i64 x).wf = true) :
    ∃ z, (Instr.lookup t (.map (some b)) (.int .i64 x) true).run Tryz.prog w = .ok (.tuple #[.int .i64 z, .bool (decide (x ∈ K))]) w ∧ (x ∈ K → z = S x) := by
  obtain ⟨D, h1, _, h3⟩ := h
  obtain ⟨v, ps, hrun, hv⟩ := h1.look_ok intKeyed ht (zeroInt w) (plainElem_int Tryz.underlying3 (by decide)) (intKey hx)
  obtain ⟨c, rfl, hc, _⟩ := plainElem_int_inv Tryz.underlying3 hv
  obtain ⟨h4, h5⟩ := h3 x hx
  simp only [Prod.mk.injEq] at hc
  refine ⟨c, by rw [hrun, h4], fun hm => ?_⟩
  have := (h5 hm).symm.trans hc.1
  simpa using this.symm
theorem KMap.put {S : Int → Int} {w : World} {b : Nat} {K : List Int} (h : KMap S w b K) {t : TypeId} (ht : Tryz.prog.underlying t = some (.map 3 3)) (hn : K.length < maxLen) {x : Int} (hx : (Lit.int .i64 x).wf = true) (hs : (Lit.int .i64 (S x)).wf = true) :
    ∃ w', (Instr.mapUpdate t (.map (some b)) (.int .i64 x) (.int .i64 (S x))).run Tryz.prog w = .ok () w' ∧ KMap S w' b (K ++ [x]) ∧ w.grownBy w' (some b) := by
  obtain ⟨D, h1, h2, h3⟩ := h
  obtain ⟨w', hrun, r1, r2⟩ := h1.update intKeyed ht hn (intKey hx) (plainElem_int Tryz.underlying3 hs)
  refine ⟨w', hrun, ⟨_, by rw [List.length_append]; exact r1, h2.put _ _, fun y hy => ?_⟩, r2⟩
  by_cases e : y = x
  · subst e
    have hk := intKeyed.key (intKey hx)
    exact ⟨by rw [has_put_same h2 hk]; simp, fun _ => atKey_put_same h2 hk _ _⟩
  · have hne : (Lit.int .i64 y) ≠ Lit.int .i64 x := fun h => e (by injection h)
    obtain ⟨h4, h5⟩ := h3 y hy
    refine ⟨by rw [has_put_other hne, h4]; simp [e], fun hm => ?_⟩
    rw [atKey_put_other hne]
    exact h5 (by simpa [e] using hm)
theorem wfBig {a : Int} (h : 0 ≤ a) (h1 : a ≤ 1000000001) : (Lit.int .i64 a).wf = true := by
  simp [Lit.wf]
  have : IntKind.i64.min = -9223372036854775808 := rfl
  omega

/-- The numbers whose sizes are known. -/
structure Known (l : List TypeD) (K : List Int) : Prop where
  once : K.Nodup
  here : ∀ x ∈ K, 0 ≤ x ∧ x < (l.length : Int)
theorem Known.len {l : List TypeD} {K : List Int} (h : Known l K) (h24 : l.length ≤ 24) : K.length ≤ 24 := by
  have := nodup_most l.length K h.once h.here
  omega
theorem Known.put {l : List TypeD} {K : List Int} (h : Known l K) {x : Int} (hx : 0 ≤ x ∧ x < (l.length : Int)) (hn : x ∉ K) : Known l (K ++ [x]) :=
  ⟨by rw [List.nodup_append]; exact ⟨h.once, by simp, fun a ha b hb e => by rw [List.mem_singleton.1 hb] at e; exact hn (e ▸ ha)⟩, fun y hy => by
    rcases List.mem_append.1 hy with h1 | h1
    · exact h.here y h1
    · rw [List.mem_singleton.1 h1]; exact hx⟩
/-- What is new came of this type or of what lies within it. -/
def NewIn (l : List TypeD) (n : Nat) (K K' : List Int) : Prop := ∀ k ∈ K', k ∈ K ∨ ∃ m : Nat, k = (m : Int) ∧ (m = n ∨ ∃ h : n < l.length, Reach l insideD (insideD l[n]) m)

end Go.Proofs.YtbpbebhnledgnaaGreat
