
/-
  What is said: a record, its Base, the Base of that, and so on: of types that are good this comes to an end. No condition beside what each theorem states.
-/
import Derived.Test.YtheomjimknfapaaIGood
namespace Go.Proofs.Ytheomjimknfapaa
open Go.ChangeShapes Go.WideShapes Go.ChangeAt Go.RowKit

def baseZ (l : List TypeD) (x : Int) : Int := if h : 0 ≤ x ∧ x.toNat < l.length then l[x.toNat].fBase else -1
theorem baseZ_in {l : List TypeD} {k : Nat} (h : k < l.length) : baseZ l (k : Int) = l[k].fBase := by
  unfold baseZ
  rw [dif_pos ⟨by omega, by omega⟩]
  simp
theorem kind5 {l : List TypeD} {x : Int} (h : kindZ l x = 5) : ∃ k : Nat, x = (k : Int) ∧ ∃ hk : k < l.length, l[k].fKind = 5 := by
  have hr := kindZ_range (l := l) (x := x) (by omega)
  obtain ⟨k, rfl⟩ := Int.eq_ofNat_of_zero_le hr.1
  have hk : k < l.length := by omega
  exact ⟨k, rfl, hk, by rw [← kindZ_in hk]; exact h⟩
/-- The Base of a record is none or a record. -/
theorem near.base {l : List TypeD} (h : near l) {k : Nat} (hk : k < l.length) (h5 : l[k].fKind = 5) : l[k].fBase = -1 ∨ kindZ l l[k].fBase = 5 := by
  rcases h.ok k hk with ⟨h3, hb⟩ | ⟨_, ho⟩
  · have := hb.1; omega
  · rcases ho.2 with ⟨q, _⟩ | ⟨_, _, b, _⟩ | ⟨q, _⟩
    · omega
    · exact b
    · omega

def ups (l : List TypeD) : Nat → Int → List Int
  | 0, _ => []
  | f + 1, x => if kindZ l x = 5 then x :: ups l f (baseZ l x) else []
def chain (l : List TypeD) (x : Int) : List Int := ups l 25 x

theorem Reach.trans {l : List TypeD} {steps : TypeD → List Int} {st : List Int} {n : Nat} (hn : n < l.length) (h : Reach l steps st n) {m : Nat} (h2 : Reach l steps (steps l[n]) m) : Reach l steps st m := by
  induction h2 with
  | start hm => exact .step hn h hm
  | step hl _ hm ih => exact .step hl ih hm

theorem ups_reach {l : List TypeD} : ∀ (f : Nat) (k : Nat) (hk : k < l.length) (_ : l[k].fKind = 5), ∀ y ∈ ups l f (baseZ l (k : Int)), ∃ j : Nat, y = (j : Int) ∧ Reach l insideD (insideD l[k]) j := by
  intro f
  induction f with
  | zero => intro k hk _ y hy; cases hy
  | succ f ih =>
    intro k hk h5 y hy
    unfold ups at hy
    split at hy
    · rename_i h
      obtain ⟨j, e, hj, hj5⟩ := kind5 h
      have hb : (j : Int) ∈ insideD l[k] := by
        rw [baseZ_in hk] at e
        unfold insideD partsD
        rw [if_neg (by omega), if_neg (by omega), e]
        simp
      have h0 : Reach l insideD (insideD l[k]) j := .start hb
      rcases List.mem_cons.1 hy with h' | h'
      · exact ⟨j, h'.trans e, h0⟩
      · rw [e] at h'
        obtain ⟨i, e', hi⟩ := ih j hj hj5 y h'
        exact ⟨i, e', Reach.trans hj h0 hi⟩
    · cases hy
theorem ups_kind {l : List TypeD} : ∀ (f : Nat) (x : Int), ∀ y ∈ ups l f x, kindZ l y = 5 := by
  intro f
  induction f with
  | zero => intro x y hy; cases hy
  | succ f ih =>
    intro x y hy
    unfold ups at hy
    split at hy
    · rename_i h
      rcases List.mem_cons.1 hy with h' | h'
      · rw [h']; exact h
      · exact ih _ y h'
    · cases hy
theorem ups_nodup {l : List TypeD} (hg : good l) : ∀ (f : Nat) (x : Int), (ups l f x).Nodup := by
  intro f
  induction f with
  | zero => intro x; exact List.nodup_nil
  | succ f ih =>
    intro x
    unfold ups
    split
    · rename_i h
      refine List.nodup_cons.2 ⟨fun hx => ?_, ih _⟩
      obtain ⟨k, rfl, hk, h5⟩ := kind5 h
      obtain ⟨j, e, hj⟩ := ups_reach f k hk h5 _ hx
      have : k = j := by omega
      subst this
      exact hg.2 k hk ⟨hk, hj⟩
    · exact List.nodup_nil
theorem nodup_most : ∀ (n : Nat) (L : List Int), L.Nodup → (∀ x ∈ L, 0 ≤ x ∧ x < (n : Int)) → L.length ≤ n := by
  intro n
  induction n with
  | zero =>
    intro L _ h
    cases L with
    | nil => simp
    | cons x L => have := h x (by simp); omega
  | succ n ih =>
    intro L hL h
    by_cases hm : (n : Int) ∈ L
    · have := ih (L.erase (n : Int)) (hL.erase _) (fun x hx => by
        have h1 := (List.Nodup.mem_erase_iff hL).1 hx
        have h2 := h x h1.2
        have h3 := h1.1
        omega)
      rw [List.length_erase_of_mem hm] at this
      omega
    · have := ih L hL (fun x hx => by
        have h2 := h x hx
        have h3 : x ≠ (n : Int) := fun e => hm (e ▸ hx)
        omega)
      omega
theorem ups_len {l : List TypeD} (hg : good l) (f : Nat) (x : Int) : (ups l f x).length ≤ 24 := by
  have := nodup_most l.length _ (ups_nodup hg f x) (fun y hy => kindZ_range (by rw [ups_kind f x y hy]; decide))
  have := hg.1.most
  omega
theorem ups_succ (l : List TypeD) (f : Nat) (x : Int) : ups l (f + 1) x = if kindZ l x = 5 then x :: ups l f (baseZ l x) else [] := rfl
theorem ups_more {l : List TypeD} : ∀ (f : Nat) (x : Int), (ups l f x).length < f → ups l (f + 1) x = ups l f x := by
  intro f
  induction f with
  | zero => intro x h; omega
  | succ f ih =>
    intro x h
    rw [ups_succ l f x] at h
    rw [ups_succ l (f + 1) x, ups_succ l f x]
    split
    · rename_i h5
      rw [if_pos h5] at h
      rw [ih _ (by simp only [List.length_cons] at h; omega)]
    · rfl
theorem chain_cons {l : List TypeD} (hg : good l) {x : Int} (h : kindZ l x = 5) : chain l x = x :: chain l (baseZ l x) := by
  have h1 : ups l 25 x = x :: ups l 24 (baseZ l x) := by rw [ups, if_pos h]
  have h2 := ups_len hg 25 x
  rw [h1, List.length_cons] at h2
  unfold chain
  rw [h1, ups_more 24 _ (by omega)]
theorem chain_end {l : List TypeD} {x : Int} (h : kindZ l x ≠ 5) : chain l x = [] := by
  unfold chain ups
  rw [if_neg h]
theorem chain_less {l : List TypeD} (hg : good l) {x : Int} (h : kindZ l x = 5) : (chain l (baseZ l x)).length < (chain l x).length := by
  rw [chain_cons hg h]; simp
theorem chain_len {l : List TypeD} (hg : good l) (x : Int) : (chain l x).length ≤ 24 := ups_len hg 25 x
theorem chain_kind {l : List TypeD} {x y : Int} (h : y ∈ chain l x) : kindZ l y = 5 := ups_kind 25 x y h
end Go.Proofs.Ytheomjimknfapaa
