
/-
  What is said: how great types are, cut where it is too much; that good types have ranks. No condition beside what each theorem states.
-/
import Derived.Test.YtjbnabjfeepbeaaSim
namespace Go.Proofs.Ytjbnabjfeepbeaa
open Go.ChangeShapes Go.WideShapes Go.ChangeAt Go.RowKit

def sumZ (S : Int → Int) (ps : List Int) : Int := (ps.map S).foldl (· + ·) 0
def oneS (S : Int → Int) (t : TypeD) : Int :=
  if t.fKind = 1 then 4 else if t.fKind = 2 ∨ t.fKind = 3 then 1 else if t.fKind = 6 then 8 else min 1000000001 (sumZ S (insideD t) * (if t.fKind = 4 then t.fLong else 1))
def sizeF (l : List TypeD) : Nat → Int → Int
  | 0, _ => 0
  | f + 1, x => if h : 0 ≤ x ∧ x.toNat < l.length then oneS (sizeF l f) l[x.toNat] else 0
/-- All ways inside from a type are shorter. -/
def Rk (l : List TypeD) : Nat → Nat → Prop
  | 0, _ => False
  | f + 1, n => ∃ h : n < l.length, ∀ x ∈ insideD l[n], ∃ m : Nat, x = (m : Int) ∧ Rk l f m
theorem Rk.lt {l : List TypeD} {f n : Nat} (h : Rk l f n) : n < l.length := by
  cases f with
  | zero => cases h
  | succ f => exact h.1

theorem rk_met {l : List TypeD} (hg : good l) : ∀ (k : Nat) (V : List Int) (n : Nat), V.Nodup → (∀ v ∈ V, ∃ i : Nat, v = (i : Int) ∧ ∃ hi : i < l.length, Reach l insideD (insideD l[i]) n) → V.length + k = l.length → n < l.length → Rk l k n := by
  intro k
  induction k with
  | zero =>
    intro V n hV hr hlen hn
    have hnV : (n : Int) ∉ V := fun h => by
      obtain ⟨i, e, hi, hri⟩ := hr _ h
      have : n = i := by omega
      subst this
      exact hg.2 n hn ⟨hi, hri⟩
    have := nodup_most l.length ((n : Int) :: V) (List.nodup_cons.2 ⟨hnV, hV⟩) (fun x hx => by
      rcases List.mem_cons.1 hx with rfl | hx
      · omega
      · obtain ⟨i, rfl, hi, _⟩ := hr x hx; omega)
    simp at this
    omega
  | succ k ih =>
    intro V n hV hr hlen hn
    have hnV : (n : Int) ∉ V := fun h => by
      obtain ⟨i, e, hi, hri⟩ := hr _ h
      have : n = i := by omega
      subst this
      exact hg.2 n hn ⟨hi, hri⟩
    refine ⟨hn, fun x hx => ?_⟩
    obtain ⟨h0, h1⟩ := hg.1.inside n hn x hx
    obtain ⟨m, rfl⟩ := Int.eq_ofNat_of_zero_le h0
    refine ⟨m, rfl, ih ((n : Int) :: V) m (List.nodup_cons.2 ⟨hnV, hV⟩) (fun v hv => ?_) (by simp; omega) (by omega)⟩
    rcases List.mem_cons.1 hv with rfl | hv
    · exact ⟨n, rfl, hn, .start hx⟩
    · obtain ⟨i, e, hi, hri⟩ := hr v hv
      exact ⟨i, e, hi, .step hn hri hx⟩
theorem rk_all {l : List TypeD} (hg : good l) {n : Nat} (hn : n < l.length) : Rk l l.length n := rk_met hg l.length [] n List.nodup_nil (fun _ h => by cases h) (by simp) hn

theorem sumZ_congr {S S' : Int → Int} {ps : List Int} (h : ∀ x ∈ ps, S x = S' x) : sumZ S ps = sumZ S' ps := by unfold sumZ; rw [List.map_congr_left h]
theorem oneS_congr {S S' : Int → Int} {t : TypeD} (h : ∀ x ∈ insideD t, S x = S' x) : oneS S t = oneS S' t := by unfold oneS; rw [sumZ_congr h]
theorem sizeF_in {l : List TypeD} (f : Nat) {n : Nat} (hn : n < l.length) : sizeF l (f + 1) (n : Int) = oneS (sizeF l f) l[n] := by
  unfold sizeF
  rw [dif_pos ⟨by omega, by omega⟩]
  simp
theorem sizeF_more {l : List TypeD} : ∀ (f n : Nat), Rk l f n → ∀ g, f ≤ g → sizeF l g (n : Int) = sizeF l f (n : Int) := by
  intro f
  induction f with
  | zero => intro n h; cases h
  | succ f ih =>
    intro n h g hg
    obtain ⟨hn, hp⟩ := h
    obtain ⟨g', rfl⟩ : ∃ g', g = g' + 1 := ⟨g - 1, by omega⟩
    rw [sizeF_in g' hn, sizeF_in f hn]
    exact oneS_congr (fun x hx => by
      obtain ⟨m, rfl, hm⟩ := hp x hx
      exact ih m hm g' (by omega))
/-- The size of a type. -/
def sizeS (l : List TypeD) (x : Int) : Int := sizeF l 24 x
theorem sizeS_eq {l : List TypeD} (hg : good l) {n : Nat} (hn : n < l.length) : sizeS l (n : Int) = oneS (sizeS l) l[n] := by
  have h := rk_all hg hn
  have h24 := hg.1.most
  unfold sizeS
  rw [sizeF_more _ n h 24 h24, ← sizeF_more _ n h 25 (by omega), sizeF_in 24 hn]
theorem sumZ_append (S : Int → Int) (ps : List Int) (x : Int) : sumZ S (ps ++ [x]) = sumZ S ps + S x := by simp [sumZ]
theorem fold_bounds {S : Int → Int} {b : Int} (hS : ∀ x, 0 ≤ S x ∧ S x ≤ b) : ∀ (ps : List Int) (a : Int), a ≤ (ps.map S).foldl (· + ·) a ∧ (ps.map S).foldl (· + ·) a ≤ a + ps.length * b
  | [], a => by simp
  | x :: ps, a => by
    have h := fold_bounds hS ps (a + S x)
    have := hS x
    simp only [List.map_cons, List.foldl_cons, List.length_cons]
    push_cast
    rw [Int.add_mul]
    omega
theorem sumZ_bounds {S : Int → Int} {b : Int} (hS : ∀ x, 0 ≤ S x ∧ S x ≤ b) (ps : List Int) : 0 ≤ sumZ S ps ∧ sumZ S ps ≤ ps.length * b := by
  have := fold_bounds hS ps 0
  unfold sumZ
  omega
theorem sizeF_bounds {l : List TypeD} (hne : near l) : ∀ (f : Nat) (x : Int), 0 ≤ sizeF l f x ∧ sizeF l f x ≤ 1000000001 := by
  intro f
  induction f with
  | zero => intro x; exact ⟨Int.le_refl _, by show (0 : Int) ≤ _; decide⟩
  | succ f ih =>
    intro x
    unfold sizeF
    split
    · rename_i h
      unfold oneS
      have hs := (sumZ_bounds ih (insideD l[x.toNat])).1
      split
      · decide
      split
      · decide
      split
      · decide
      split
      · rename_i h4
        have hlong : 0 ≤ l[x.toNat].fLong := by
          rcases hne.ok x.toNat h.2 with ⟨h3, hb⟩ | ⟨_, ho⟩
          · have := hb.2.1; omega
          · rcases ho.2 with ⟨_, q, _⟩ | ⟨_, q, _⟩ | ⟨_, q, _⟩ <;> omega
        have := Int.mul_nonneg hs hlong
        omega
      · omega
    · decide
theorem sizeS_bounds {l : List TypeD} (hne : near l) (x : Int) : 0 ≤ sizeS l x ∧ sizeS l x ≤ 1000000001 := sizeF_bounds hne 24 x
end Go.Proofs.Ytjbnabjfeepbeaa
