
/-
  What is proved: contracts of the program's spread, with each of its two steps; a row of numbers of the call's own that is taken from in front and appended to behind: what it is, and append on it. No condition beside what each theorem states.
-/
import Derived.Test.YtcekjdikoamjjaaPushAll
import Derived.Deep.MidRow
namespace Go.Proofs.Ytcekjdikoamjjaa
open Go.ChangeShapes Go.WideShapes Go.ChangeAt Go.RowKit

theorem OwnInts.pop {w : World} {B : Nat} {v : Value} {S : List Int} {x : Int} (h : OwnInts w B v (S ++ [x])) : ∃ g cap, v = .slice (some ⟨g, 0, none⟩) (S.length + 1) cap ∧ S.length + 1 ≤ cap ∧ B ≤ g ∧ g < w.heap.size ∧ cap ≤ maxLen ∧ w.cell? ⟨g, S.length, none⟩ = some (.int .i64 x) ∧ OwnInts w B (.slice (some ⟨g, 0, none⟩) S.length cap) S := by
  obtain ⟨h1, h2⟩ := h
  rcases h2 with ⟨_, h0⟩ | ⟨g, cap, cur, rfl, hb, hg, hc, hm, hs, ht⟩
  · simp at h0
  · have hlen : (S ++ [x]).length = S.length + 1 := by simp
    rw [hlen] at hc ht
    refine ⟨g, cap, by rw [hlen], hc, hb, (Array.getElem?_eq_some_iff.1 hg).1, hm, ?_, ⟨by simp, .inr ⟨g, cap, cur, rfl, hb, hg, by omega, hm, hs, ?_⟩⟩⟩
    · rw [cell_of_row w g _ cur _ _ hg]
      have e := congrArg (·[S.length]?) ht
      simp only [List.getElem?_take, List.map_append, List.getElem?_append_right (show (S.map (Value.int .i64)).length ≤ S.length by simp)] at e
      simpa using e
    · have e := congrArg (List.take S.length) ht
      rw [List.take_take] at e
      simp only [List.map_append] at e
      rw [List.take_left' (by simp)] at e
      simpa [Nat.min_eq_left (show S.length ≤ S.length + 1 by omega)] using e

def boolA (R : List Bool) : Array Value := (R.map Value.bool).toArray
theorem boolA_size (R : List Bool) : (boolA R).size = R.length := by simp [boolA]
theorem boolA_at {R : List Bool} {n : Nat} {b : Bool} (h : R[n]? = some b) : (boolA R)[n]? = some (.bool b) := by simp [boolA, h]
theorem boolA_set (R : List Bool) (n : Nat) (b : Bool) : (boolA R).setIfInBounds n (.bool b) = boolA (R.set n b) := by
  simp [boolA, List.map_set]

theorem OwnInts.keep {w w' : World} {B : Nat} {v : Value} {l : List Int} (h : OwnInts w B v l) (hk : ∀ k, v.ownBlock = some k → w'.heap[k]? = w.heap[k]?) : OwnInts w' B v l :=
  ⟨h.1, h.2.imp id (fun ⟨g, cap, cur, h1, h2, h3, h4⟩ => ⟨g, cap, cur, h1, h2, by rw [hk g (by rw [h1]; rfl)]; exact h3, h4⟩)⟩
theorem OwnInts.below {w w' : World} {B : Nat} {v : Value} {l : List Int} (h : OwnInts w B v l) (hb : Below w.heap.size w w') : OwnInts w' B v l :=
  h.keep (fun k hk => hb.block k (World.ownsRow.lt h k hk).2)

def isNo : Value → Bool
  | .bool false => true
  | _ => false
/-- How many are not yet in the set that lies in block g. -/
def cntW (w : World) (g : Nat) : Nat := match w.heap[g]? with
  | some (.cells cs _ _) => cs.toList.countP isNo
  | _ => 0
def lenV : Value → Nat
  | .slice _ n _ => n
  | _ => 0
theorem cntW_box {w : World} {g : Nat} {t : TypeId} {R : List Bool} (h : Box w g t (boolA R)) : cntW w g = R.count false := by
  unfold Box at h
  unfold cntW
  rw [h]
  simp only [boolA]
  rw [List.countP_map, List.count]
  congr 1
  funext b
  cases b <;> rfl
def zeroB : Array Value := boolA (List.replicate 24 false)

theorem bools_one (R : List Bool) : (boolA R).all (·.oneCell') = true := by
  simp [boolA, Value.oneCell']
theorem Below.setCells {B : Nat} {a : World} {g : Nat} (hg : B ≤ g) : ∀ (vs : List Value) (o : Nat) {w : World}, Below B a w → Below B a (w.setCells g o vs)
  | [], _, _, h => h
  | v :: vs, o, _, h => Below.setCells hg vs (o + 1) (h.setCell hg v)
theorem results_mid {P : Program} {fn : Func} {p : Tmp} {ty : TypeId} {d : TypeDesc} (h : fn.results = #[.cell p ty]) (hu : P.underlying ty = some d) (hd : d.isRow = true)
    (tmps : Array Value) (w : World) (b o : Nat) (cs : List Value) (hp : tmps.getD p undef = .pointer (some ⟨b, o, none⟩)) (hc : w.rangeAt b o cs) (hi : (P.info? ty).map (·.size) = some cs.length) :
    (results fn tmps).run P w = .ok (.agg cs.toArray) w := by
  have hl := run_loadVar_mid (P := P) w b o ty cs d hc hu hd hi
  rw [Array.getD_eq_getD_getElem?] at hp
  simp only [results, h]
  simp [hp, asAddr, hl]

end Go.Proofs.Ytcekjdikoamjjaa

namespace Go.Proofs.Ytcekjdikoamjjaa
open Go.ChangeShapes Go.WideShapes Go.ChangeAt Go.RowKit

structure QueAt (w : World) (g off cap : Nat) (S : List Int) : Prop where
  le : S.length ≤ cap
  max : cap ≤ maxLen
  holds : ∀ i (h : i < S.length), w.cell? ⟨g, off + i, none⟩ = some (.int .i64 S[i])
  there : ∀ j, j < cap → (w.cell? ⟨g, off + j, none⟩).isSome = true ∧ w.frozen? ⟨g, off + j, none⟩ = false
def Que (w : World) (B : Nat) (v : Value) (S : List Int) : Prop := (v = .slice none 0 0 ∧ S = []) ∨ ∃ g off cap, v = .slice (some ⟨g, off, none⟩) S.length cap ∧ B ≤ g ∧ g < w.heap.size ∧ QueAt w g off cap S

theorem OwnInts.que {w : World} {B : Nat} {v : Value} {S : List Int} (h : OwnInts w B v S) : Que w B v S := by
  rcases h.2 with ⟨rfl, h0⟩ | ⟨g, cap, cur, rfl, hb, hg, hc, hm, hs, ht⟩
  · exact .inl ⟨rfl, List.eq_nil_of_length_eq_zero h0⟩
  · have hlt : g < w.heap.size := (Array.getElem?_eq_some_iff.1 hg).1
    refine .inr ⟨g, 0, cap, rfl, hb, hlt, ⟨hc, hm, fun i hi => ?_, fun j hj => ?_⟩⟩
    · have := World.ownsRow.cells h (g := g) rfl i (.int .i64 S[i]) (by simp [hi])
      rwa [add_off] at this
    · rw [Nat.zero_add, cell_of_row w g j cur _ _ hg, Array.getElem?_eq_getElem (by omega)]
      exact ⟨rfl, by simp [World.frozen?, hg]⟩
theorem QueAt.keep {w w' : World} {g off cap : Nat} {S : List Int} (h : QueAt w g off cap S) (hk : w'.heap[g]? = w.heap[g]?) : QueAt w' g off cap S :=
  ⟨h.le, h.max, fun i hi => (World.cell?_of_block (a := ⟨g, off + i, none⟩) hk).trans (h.holds i hi), fun j hj => ⟨by rw [World.cell?_of_block (a := ⟨g, off + j, none⟩) hk]; exact (h.there j hj).1, (World.frozen?_of_block (a := ⟨g, off + j, none⟩) hk).trans (h.there j hj).2⟩⟩
theorem Que.keep {w w' : World} {B : Nat} {v : Value} {S : List Int} (h : Que w B v S) (hk : ∀ k, v.ownBlock = some k → w'.heap[k]? = w.heap[k]?) (hs : w.heap.size ≤ w'.heap.size) : Que w' B v S :=
  h.imp id fun ⟨g, off, cap, e, h1, h2, h3⟩ => ⟨g, off, cap, e, h1, Nat.lt_of_lt_of_le h2 hs, h3.keep (hk g (by rw [e]; rfl))⟩
theorem Que.lt {w : World} {B : Nat} {v : Value} {S : List Int} (h : Que w B v S) : ∀ k, v.ownBlock = some k → B ≤ k ∧ k < w.heap.size := by
  rcases h with ⟨rfl, _⟩ | ⟨g, off, cap, rfl, h1, h2, _⟩
  · intro k hk; cases hk
  · intro k hk
    have : g = k := by simpa [Value.ownBlock] using hk
    omega
theorem Que.below {w w' : World} {B : Nat} {v : Value} {S : List Int} (h : Que w B v S) (hb : Below w.heap.size w w') : Que w' B v S :=
  h.keep (fun k hk => hb.block k (h.lt k hk).2) hb.size
theorem Que.lower {w : World} {B B' : Nat} {v : Value} {S : List Int} (h : Que w B v S) (hB : B' ≤ B) : Que w B' v S :=
  h.imp id fun ⟨g, off, cap, e, h1, h2⟩ => ⟨g, off, cap, e, Nat.le_trans hB h1, h2⟩
theorem Que.slice {w : World} {B : Nat} {v : Value} {S : List Int} (h : Que w B v S) : ∃ a c, v = .slice a S.length c ∧ S.length ≤ c := by
  rcases h with ⟨rfl, rfl⟩ | ⟨g, off, cap, rfl, _, _, h⟩
  · exact ⟨none, 0, rfl, Nat.le_refl _⟩
  · exact ⟨_, cap, rfl, h.le⟩
/-- The first is taken. -/
theorem Que.tail {w : World} {B : Nat} {v : Value} {S : List Int} {x : Int} (h : Que w B v (x :: S)) : ∃ g off cap, v = .slice (some ⟨g, off, none⟩) (S.length + 1) cap ∧ S.length + 1 ≤ cap ∧ cap ≤ maxLen ∧ B ≤ g ∧ g < w.heap.size ∧ w.cell? ⟨g, off, none⟩ = some (.int .i64 x) ∧
    (cap ≠ 1 → Que w B (.slice (some ⟨g, off + 1, none⟩) S.length (cap - 1)) S) ∧ (cap = 1 → S = [] ∧ Que w B (.slice (some ⟨g, off, none⟩) 0 0) S) := by
  rcases h with ⟨_, h⟩ | ⟨g, off, cap, rfl, h1, h2, h⟩
  · cases h
  · have hle := h.le
    simp only [List.length_cons] at hle
    have h0 := h.holds 0 (by simp)
    refine ⟨g, off, cap, rfl, hle, h.max, h1, h2, h0, fun hc => .inr ⟨g, off + 1, cap - 1, rfl, h1, h2, ⟨by omega, by have := h.max; omega, fun i hi => ?_, fun j hj => ?_⟩⟩, fun hc => ?_⟩
    · have := h.holds (i + 1) (by simp only [List.length_cons]; omega)
      rw [Nat.add_assoc, Nat.add_comm 1 i]
      simpa using this
    · have := h.there (j + 1) (by omega)
      rwa [Nat.add_assoc, Nat.add_comm 1 j]
    · have hS : S = [] := List.eq_nil_of_length_eq_zero (by omega)
      subst hS
      exact ⟨rfl, .inr ⟨g, off, 0, rfl, h1, h2, ⟨by simp, by unfold maxLen; omega, fun i hi => absurd hi (by simp), fun j hj => absurd hj (by omega)⟩⟩⟩

theorem setCells_other (g o : Nat) (vs : List Value) : ∀ (w : World) (k : Nat), k ≠ g → (w.setCells g o vs).heap[k]? = w.heap[k]? := by
  induction vs generalizing o with
  | nil => intro w k _; rfl
  | cons v vs ih => intro w k hk; exact (ih (o + 1) _ k hk).trans (Below.heap_setCell w ⟨g, o, none⟩ v k hk)
theorem setCells_size (g o : Nat) (vs : List Value) : ∀ (w : World), (w.setCells g o vs).heap.size = w.heap.size := by
  induction vs generalizing o with
  | nil => intro w; rfl
  | cons v vs ih => intro w; exact (ih (o + 1) _).trans (by simp [World.setCell])
theorem setCells_rest (g o : Nat) (vs : List Value) : ∀ (w : World), (w.setCells g o vs).os = w.os ∧ (w.setCells g o vs).tape = w.tape ∧ (w.setCells g o vs).output = w.output := by
  induction vs generalizing o with
  | nil => intro w; exact ⟨rfl, rfl, rfl⟩
  | cons v vs ih => intro w; exact ih (o + 1) (w.setCell ⟨g, o, none⟩ v)

theorem Nums.none_nil {w : World} {m : List Int} (h : Nums w none m) : m = [] := by
  cases m with
  | nil => rfl
  | cons y m =>
    obtain ⟨b, o', e, _⟩ := h 0 (by simp)
    cases e

end Go.Proofs.Ytcekjdikoamjjaa
