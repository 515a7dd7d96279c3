/-
  What is proved: contracts of the model's drawing of choices from bytes (pick, one, among, of, whole, name). No condition beside what each theorem states.
-/
import Derived.Test.YtplmpjdlgooffaaCur
namespace Go.Proofs.Ytplmpjdlgooffaa
open Go.ChangeShapes Go.WideShapes Go.ChangeAt Go.RowKit

theorem Drawn.mono {R R' : Int → Prop} {g k k' : Nat} {w w' : World} {e : Ending} (h : Drawn R g k w e w') (hR : ∀ n, R n → R' n) (hk : k ≤ k') : Drawn R' g k' w e w' := by
  obtain ⟨n, h1, h2, h3, h4⟩ := h
  exact ⟨n, hR n h1, h2, h3.more hk, h4⟩

set_option maxHeartbeats 1000000 in
theorem cPick (g k : Nat) (n : Int) (w : World) (hk : k ≤ 999990) (hn : 1 ≤ n) (hn2 : n ≤ 1048576) (hc : Cur w g k) :
    Calls Try.prog 46 #[.pointer (some ⟨g, 0, none⟩), .int .i64 n] w (Drawn (fun r => 0 ≤ r ∧ r < n) g (k + 2) w) := by
  have Hc := Lib.hid hc
  clear hc
  by_cases h1 : n ≤ 1
  · go_enter Try.func46, Try.ntmps46
    go_wp2_with fail
    go_ret
    exact ⟨0, ⟨by omega, by omega⟩, rfl, Hc.out.more (by omega), Only.refl _ _⟩
  · by_cases h2 : 200 < n
    · go_enter Try.func46, Try.ntmps46
      go_wp2_with fail
      refine (cNext g k _ (by omega) Hc.out).mono ?_
      rintro e w1 ⟨x, ⟨hx0, hx1⟩, rfl, hc1, ho1⟩
      have Hc1 := Lib.hid hc1
      have Ho1 := Lib.hid ho1
      clear hc1 ho1
      go_wp2_with fail
      refine (cNext g (k + 1) _ (by omega) Hc1.out).mono ?_
      rintro e w2 ⟨y, ⟨hy0, hy1⟩, rfl, hc2, ho2⟩
      have Hc2 := Lib.hid hc2
      have Ho2 := Lib.hid ho2
      clear hc2 ho2
      go_wp2_with fail
      go_ret
      exact ⟨_, ⟨Int.emod_nonneg _ (by omega), Int.emod_lt_of_pos _ (by omega)⟩, rfl, Hc2.out, Ho1.out.trans Ho2.out⟩
    · go_enter Try.func46, Try.ntmps46
      go_wp2_with fail
      refine (cNext g k _ (by omega) Hc.out).mono ?_
      rintro e w1 ⟨x, ⟨hx0, hx1⟩, rfl, hc1, ho1⟩
      have Hc1 := Lib.hid hc1
      have Ho1 := Lib.hid ho1
      clear hc1 ho1
      go_wp2_with fail
      go_ret
      exact ⟨_, ⟨Int.emod_nonneg _ (by omega), Int.emod_lt_of_pos _ (by omega)⟩, rfl, Hc1.out.more (by omega), Ho1.out⟩

/-- What a draw of a yes or no leaves. -/
def DrawnB (g k : Nat) (w : World) (e : Ending) (w' : World) : Prop := ∃ b : Bool, e = .returned (.bool b) ∧ Cur w' g k ∧ Only g w w'

theorem cOne (g k : Nat) (n : Int) (w : World) (hk : k ≤ 999990) (hn : 1 ≤ n) (hn2 : n ≤ 1048576) (hc : Cur w g k) :
    Calls Try.prog 53 #[.pointer (some ⟨g, 0, none⟩), .int .i64 n] w (DrawnB g (k + 2) w) := by
  have Hc := Lib.hid hc
  clear hc
  go_enter Try.func53, Try.ntmps53
  go_wp2_with fail
  refine (cPick g k n _ hk hn hn2 Hc.out).mono ?_
  rintro e w1 ⟨x, ⟨hx0, hx1⟩, rfl, hc1, ho1⟩
  have Hc1 := Lib.hid hc1
  have Ho1 := Lib.hid ho1
  clear hc1 ho1
  go_wp2_with fail
  go_ret
  exact ⟨_, rfl, Hc1.out, Ho1.out⟩

set_option maxHeartbeats 1000000 in
theorem cAmong (g k : Nat) (a : Option Addr) (c : Nat) (l : List Int) (w : World) (hk : k ≤ 999990) (hl : 1 ≤ l.length) (hl2 : l.length ≤ 1000) (hc : Cur w g k) (hr : Ints w a l) (hne : ∀ b o, a = some ⟨b, o, none⟩ → b ≠ g) :
    Calls Try.prog 59 #[.pointer (some ⟨g, 0, none⟩), .slice a l.length c] w (Drawn (fun n => n ∈ l) g (k + 2) w) := by
  have Hc := Lib.hid hc
  have Hr := Lib.hid hr
  have Hne := Lib.hid hne
  clear hc hr hne
  go_enter Try.func59, Try.ntmps59
  go_wp2_with fail
  refine (cPick g k (l.length : Int) _ hk (by omega) (by omega) Hc.out).mono ?_
  rintro e w1 ⟨x, ⟨hx0, hx1⟩, rfl, hc1, ho1⟩
  obtain ⟨i, rfl⟩ := Int.eq_ofNat_of_zero_le hx0
  have hi : i < l.length := by omega
  obtain ⟨b, o, rfl, hb1, hc2⟩ := Hr.out i hi
  have e1 : w1.cell? ⟨b, o + i, none⟩ = some (.int .i64 (l.getD i 0)) := (World.cell?_of_block (a := ⟨b, o + i, none⟩) (ho1.block b hb1 (fun e => by injection e with e; exact Hne.out b o rfl e))).trans hc2
  have Hm : Hid (l.getD i 0 ∈ l) := by show _ ∈ _; simp [List.getD, hi]
  have Hc1 := Lib.hid hc1
  have Ho1 := Lib.hid ho1
  clear hc1 ho1 hc2 Hr Hne
  generalize l.getD i 0 = y at *
  go_wp2_with fail
  go_ret
  exact ⟨y, Hm.out, rfl, Hc1.out, Ho1.out⟩

theorem Ints.lit (w : World) (l : List Int) (t : TypeId) : Ints (w.alloc (.cells ((l.map (Value.int .i64)).toArray) t)) (some ⟨w.heap.size, 0, none⟩) l := fun i hi =>
  ⟨w.heap.size, 0, rfl, by simp, by rw [Nat.zero_add, (Box.new w t _).cell]; simp [hi]⟩

set_option maxHeartbeats 1000000 in
theorem cWhole (g k : Nat) (w : World) (hk : k ≤ 999990) (hc : Cur w g k) :
    Calls Try.prog 45 #[.pointer (some ⟨g, 0, none⟩)] w (Drawn (fun n => -1000000000 ≤ n ∧ n ≤ 1000000000) g (k + 2) w) := by
  have Hc := Lib.hid hc
  have Hg := Lib.hid hc.lt
  clear hc
  go_enter Try.func45, Try.ntmps45
  go_wp2_with fail
  refine (cAmong g k _ _ [0, 1, -1, 63, -64, 64, 127, 128, -300, 8191, 8192, 1000000, 1000000000, -1000000000] _ hk (by decide) (by decide) (Hc.out.below ((Below.refl w.heap.size w).alloc (Nat.le_refl _) _) Hg.out) (Ints.lit w _ _) (fun b o e => by injection e with e; injection e with e; have := Hg.out; omega)).mono ?_
  rintro e w1 ⟨x, hx, rfl, hc1, ho1⟩
  have hx2 : -1000000000 ≤ x ∧ x ≤ 1000000000 := by
    simp at hx
    omega
  have Hx := Lib.hid hx2
  have Hc1 := Lib.hid hc1
  have Ho1 := Lib.hid ho1
  clear hc1 ho1 hx hx2
  go_wp2_with fail
  go_ret
  exact ⟨x, Hx.out, rfl, Hc1.out, ((Only.refl g w).alloc _).trans Ho1.out⟩

end Go.Proofs.Ytplmpjdlgooffaa
