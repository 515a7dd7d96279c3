
/-
  What is proved: contracts of the model's drawing of choices from bytes (pick, one, among, of, whole, name). No condition beside what each theorem states.
-/
import Derived.Test.YtjbnabjfeepbeaaCur
namespace Go.Proofs.Ytjbnabjfeepbeaa
open Go.ChangeShapes Go.WideShapes Go.ChangeAt Go.RowKit

theorem Drawn.mono {R R' : Int → Prop} {g k k' : Nat} {w w' : World} {e : Ending} (h : Drawn R g k w e w') (hR : ∀ n, R n → R' n) (hk : k ≤ k') : Drawn R' g k' w e w' := by
  obtain ⟨n, h1, h2, h3, h4⟩ := h
  exact ⟨n, hR n h1, h2, h3.more hk, h4⟩

set_option maxHeartbeats 1000000 in
theorem cPick (g k : Nat) (n : Int) (w : World) (hk : k ≤ 999990) (hn : 1 ≤ n) (hn2 : n ≤ 1048576) (hc : Cur w g k) :
    Calls Try.prog 63 #[.pointer (some ⟨g, 0, none⟩), .int .i64 n] w (Drawn (fun r => 0 ≤ r ∧ r < n) g (k + 2) w) := by
  have Hc := Lib.hid hc
  clear hc
  by_cases h1 : n ≤ 1
  · go_enter Try.func63, Try.ntmps63
    go_wp2_with fail
    go_ret
    exact ⟨0, ⟨by omega, by omega⟩, rfl, Hc.out.more (by omega), Only.refl _ _⟩
  · by_cases h2 : 200 < n
    · go_enter Try.func63, Try.ntmps63
      go_wp2_with fail
      refine (cNext g k _ (by omega) Hc.out).mono ?_
      rintro e w1 ⟨x, ⟨hx0, hx1⟩, rfl, hc1, ho1⟩
      have Hc1 := Lib.hid hc1
      have Ho1 := Lib.hid ho1
      clear hc1 ho1
      go_wp2_with fail
      refine (cNext g (k + 1) _ (by omega) Hc1.out).mono ?_
      rintro e w2 ⟨y, ⟨hy0, hy1⟩, rfl, hc2, ho2⟩
      have Hc2 := Lib.hid hc2
      have Ho2 := Lib.hid ho2
      clear hc2 ho2
      go_wp2_with fail
      go_ret
      exact ⟨_, ⟨Int.emod_nonneg _ (by omega), Int.emod_lt_of_pos _ (by omega)⟩, rfl, Hc2.out, Ho1.out.trans Ho2.out⟩
    · go_enter Try.func63, Try.ntmps63
      go_wp2_with fail
      refine (cNext g k _ (by omega) Hc.out).mono ?_
      rintro e w1 ⟨x, ⟨hx0, hx1⟩, rfl, hc1, ho1⟩
      have Hc1 := Lib.hid hc1
      have Ho1 := Lib.hid ho1
      clear hc1 ho1
      go_wp2_with fail
      go_ret
      exact ⟨_, ⟨Int.emod_nonneg _ (by omega), Int.emod_lt_of_pos _ (by omega)⟩, rfl, Hc1.out.more (by omega), Ho1.out⟩

/-- What a draw of a yes or no leaves. -/
def DrawnB (g k : Nat) (w : World) (e : Ending) (w' : World) : Prop := ∃ b : Bool, e = .returned (.bool b) ∧ Cur w' g k ∧ Only g w w'

theorem cOne (g k : Nat) (n : Int) (w : World) (hk : k ≤ 999990) (hn : 1 ≤ n) (hn2 : n ≤ 1048576) (hc : Cur w g k) :
    Calls Try.prog 65 #[.pointer (some ⟨g, 0, none⟩), .int .i64 n] w (DrawnB g (k + 2) w) := by
  have Hc := Lib.hid hc
  clear hc
  go_enter Try.func65, Try.ntmps65
  go_wp2_with fail
  refine (cPick g k n _ hk hn hn2 Hc.out).mono ?_
  rintro e w1 ⟨x, ⟨hx0, hx1⟩, rfl, hc1, ho1⟩
  have Hc1 := Lib.hid hc1
  have Ho1 := Lib.hid ho1
  clear hc1 ho1
  go_wp2_with fail
  go_ret
  exact ⟨_, rfl, Hc1.out, Ho1.out⟩

theorem Ints.lit (w : World) (l : List Int) (t : TypeId) : Ints (w.alloc (.cells ((l.map (Value.int .i64)).toArray) t)) (some ⟨w.heap.size, 0, none⟩) l := fun i hi =>
  ⟨w.heap.size, 0, rfl, by simp, by rw [Nat.zero_add, (Box.new w t _).cell]; simp [hi]⟩

end Go.Proofs.Ytjbnabjfeepbeaa
