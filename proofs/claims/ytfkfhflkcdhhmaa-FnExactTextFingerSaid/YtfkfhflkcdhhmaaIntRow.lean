
/-
  What is proved: rows of numbers: what came in, what the call owns, compared, marked. No condition beside what each theorem states.
-/
import Derived.Test.YtfkfhflkcdhhmaaInts
import Derived.Test.YtfkfhflkcdhhmaaPushAll
import Derived.Test.YtfkfhflkcdhhmaaMkInt
import Derived.Test.YtfkfhflkcdhhmaaLsInt
namespace Go.Proofs.Ytfkfhflkcdhhmaa
open Go.ChangeShapes Go.WideShapes Go.ChangeAt Go.RowKit

theorem Nums.ints {w : World} {a : Option Addr} {l : List Int} (h : Nums w a l) : Ints w a l := fun i hi => by
  obtain ⟨b, o, e, h1, h2⟩ := h i hi
  exact ⟨b, o, e, h1, by rw [h2]; simp [List.getD, hi]⟩
theorem Ints.nums {w : World} {a : Option Addr} {l : List Int} (h : Ints w a l) : Nums w a l := fun i hi => by
  obtain ⟨b, o, e, h1, h2⟩ := h i hi
  exact ⟨b, o, e, h1, by rw [h2]; simp [List.getD, hi]⟩
theorem Nums.ofOwnC {w : World} {B : Nat} {a : Option Addr} {l : List Int} (h : OwnC w B a (l.map (Value.int .i64))) : Nums w a l := fun i hi => by
  rcases h with h | ⟨g, t, cur, h1, h2, h3, h4, h5⟩
  · have : l = [] := by simpa using h
    subst this
    exact absurd hi (by simp)
  · refine ⟨g, 0, h1, h3.lt, ?_⟩
    rw [Nat.zero_add, h3.cell, h5 i (by simpa using hi)]
    simp [hi]
theorem Nums.upto {w w' : World} {E : Nat} {a : Option Addr} {l : List Int} (h : Nums w a l) (hb : Below E w w') (hE : w.heap.size ≤ E) : Nums w' a l := h.below (hb.mono hE)
theorem rows_of_box {w : World} {g n B : Nat} {l : List Int} {t : TypeId} (h : Box w g t (rowOf .i64 l n)) (hl : l.length ≤ n) (hB : B ≤ g) : Rows intS (fun b => B ≤ b) w (some ⟨g, 0, none⟩) l := fun i hi => by
  refine ⟨g, 0, [.int .i64 l[i]], rfl, hB, h.lt, fun j hj => ?_, rfl⟩
  have hn : intS.n = 1 := rfl
  obtain rfl : j = 0 := by omega
  rw [hn, Nat.mul_one, Nat.zero_add, Nat.add_zero, h.cell, rowOf_get (by omega)]
  simp [List.getD, hi]

def RowI (k : IntKind) (w : World) (a : Option Addr) (len cap : Nat) (zs : List Int) : Prop :=
  (a = none ∧ len = 0 ∧ cap = 0 ∧ zs = []) ∨
  ∃ x, a = some x ∧ len ≤ cap ∧ cap ≤ maxLen ∧ zs.length = cap ∧ (∀ i, i < zs.length → w.cell? (x.add i) = some (.int k (zs.getD i 0))) ∧ ∀ n ∈ zs, (Lit.int k n).wf = true
theorem RowI.nums {w : World} {a : Option Addr} {len cap : Nat} {zs : List Int} (h : RowI .i64 w a len cap zs) : ∃ l : List Int, l.length = len ∧ len ≤ maxLen ∧ Nums w a l := by
  rcases h with ⟨rfl, rfl, rfl, rfl⟩ | ⟨x, rfl, h1, h2, h3, h4, _⟩
  · exact ⟨[], rfl, Nat.zero_le _, fun i hi => absurd hi (by simp)⟩
  · refine ⟨zs.take len, by simp; omega, by omega, fun i hi => ?_⟩
    have hi' : i < len := by simp at hi; omega
    obtain ⟨b, o, rfl, hc⟩ := ints_at h4 (by omega)
    have hci := hc i (by omega)
    refine ⟨b, o, rfl, World.block_lt_of_cell? w _ hci, ?_⟩
    rw [hci]
    simp [List.getD]
    rw [List.getElem?_eq_getElem (by omega)]
    rfl

set_option maxHeartbeats 1000000 in
theorem lEqNums (a a' : Option Addr) (c c' : Nat) (l : List Int) (w : World) (hl : l.length ≤ 1048576) (hr0 : Nums w a l) (hr0' : Nums w a' l) :
    Calls Try.prog 48 #[.slice a l.length c, .slice a' l.length c'] w fun e w' => e = .returned (.bool true) ∧ Below w.heap.size w w' := by
  have Hr := Lib.hid hr0.ints
  have Hr' := Lib.hid hr0'.ints
  clear hr0 hr0'
  go_enter Try.func48, Try.ntmps48
  go_wp2_with fail
  go_loopw [5] (fun i wr => ∃ k : Nat, i = .int .i64 k ∧ k ≤ l.length ∧ Below w.heap.size w wr) (fun i _ => l.length - (intOf i).toNat)
  case atStart => exact ⟨0, rfl, by omega, Below.refl _ _⟩
  case round =>
    obtain ⟨k, rfl, hk, hbel⟩ := hrel
    by_cases hlt : k < l.length
    · obtain ⟨b, o, rfl, hb1, hc1⟩ := Hr.out k hlt
      obtain ⟨b', o', rfl, hb1', hc1'⟩ := Hr'.out k hlt
      have e1 := (hbel.cell (p := ⟨b, o + k, none⟩) hb1).trans hc1
      have e2 := (hbel.cell (p := ⟨b', o' + k, none⟩) hb1').trans hc1'
      have i1 : (0 : Int) ≤ (k : Int) := by omega
      have i2 : (k : Int) < (l.length : Int) := by omega
      have Hbel := Lib.hid hbel
      clear hbel hc1 hc1' Hr Hr'
      generalize l.getD k 0 = x at *
      go_wp2_with fail
      go_quiet (fail)
      go_wp2_with fail
      exact ⟨⟨k + 1, by congr 1, by omega, belowN Hbel.out _⟩, by simp [intOf]; omega⟩
    · go_wp2_with fail
      go_ret
      exact ⟨rfl, hbel⟩

theorem lMarkInts (B : Nat) (a : Option Addr) (c : Nat) (l : List Int) (k : Int) (w : World) (hown : OwnC w B a (l.map (Value.int .i64))) (hB : B ≤ w.heap.size) (hl : l.length ≤ 1048576) (hk : 0 < k) (hk2 : k ≤ 1000000000) :
    Calls Try.prog 51 #[.slice a l.length c, .int .i64 k] w fun e w' => e = .returned (.int .i64 (k + (l.length : Int))) ∧ Rows intS Any w' a (mkIntL l.length k) ∧ Below B w w' := by
  rcases hown with h | ⟨g, t, cur, rfl, h2, h3, h4, _⟩
  · have : l = [] := by simpa using h
    subst this
    refine (lMarkIntS0 a c k w).mono ?_
    rintro e w' ⟨rfl, rfl⟩
    exact ⟨by simp, Rows.nil, Below.refl _ _⟩
  · exact lMarkIntS B g 0 c l.length t cur k w h2 hB hl hk hk2 h3 (by simpa using h4)
end Go.Proofs.Ytfkfhflkcdhhmaa
