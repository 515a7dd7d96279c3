
/-
  What is proved: contracts of the model's drawing of choices from bytes (next, pick, one, among, of); contracts of the model's drawing of choices from bytes (pick, one, among, of, whole, name); contracts of the model's draws of numbers. No condition beside what each theorem states.
-/
import Derived.Test.YtnhdijkaakjdgaaInts
import Derived.RegionTactic
import Derived.Lib.EndianBits
namespace Go.Proofs.Ytnhdijkaakjdgaa
open Go.ChangeShapes Go.WideShapes Go.ChangeAt Go.RowKit

/-- The cells of the cursor. -/
abbrev curCells (a : Option Addr) (len cap : Nat) (k : Nat) (seed : Int) : Array Value := #[.slice a len cap, .int .i64 k, .int .u64 seed]

/-- Bytes that came in, below block B. -/
def Bytes8 (w : World) (B : Nat) (a : Option Addr) (len : Nat) : Prop := ∀ i, i < len → ∃ b o z, a = some ⟨b, o, none⟩ ∧ b < B ∧ w.cell? ⟨b, o + i, none⟩ = some (.int .u8 z) ∧ 0 ≤ z ∧ z ≤ 255

/-- A cursor in block g, at most k places read. -/
def Cur (w : World) (g k : Nat) : Prop := ∃ a len cap j seed, Box w g 55 (curCells a len cap j seed) ∧ len ≤ 1048576 ∧ j ≤ k ∧ 0 ≤ seed ∧ Bytes8 w g a len

/-- What a draw answers, and what it leaves. -/
def Drawn (R : Int → Prop) (g k : Nat) (w : World) (e : Ending) (w' : World) : Prop := ∃ n : Int, R n ∧ e = .returned (.int .i64 n) ∧ Cur w' g k ∧ Only g w w'

theorem Bytes8.only {w w' : World} {g len : Nat} {a : Option Addr} (h : Bytes8 w g a len) (ho : Only g w w') (hg : g < w.heap.size) : Bytes8 w' g a len := fun i hi => by
  obtain ⟨b, o, z, e, h1, h2, h3⟩ := h i hi
  exact ⟨b, o, z, e, h1, (World.cell?_of_block (ho.block b (by omega) (fun e => by injection e with e; omega))).trans h2, h3⟩

theorem Bytes8.below {w w' : World} {g B len : Nat} {a : Option Addr} (h : Bytes8 w g a len) (hb : Below B w w') (hg : g ≤ B) : Bytes8 w' g a len := fun i hi => by
  obtain ⟨b, o, z, e, h1, h2, h3⟩ := h i hi
  exact ⟨b, o, z, e, h1, (hb.cell (p := ⟨b, o + i, none⟩) (show b < B by omega)).trans h2, h3⟩

theorem Cur.below {w w' : World} {g k B : Nat} (h : Cur w g k) (hb : Below B w w') (hg : g < B) : Cur w' g k := by
  obtain ⟨a, len, cap, j, seed, h1, h2, h3, h4, h5⟩ := h
  exact ⟨a, len, cap, j, seed, h1.below hb hg, h2, h3, h4, h5.below hb (by omega)⟩

theorem Cur.more {w : World} {g k k' : Nat} (h : Cur w g k) (hk : k ≤ k') : Cur w g k' := by
  obtain ⟨a, len, cap, j, seed, h1, h2, h3, h4, h5⟩ := h
  exact ⟨a, len, cap, j, seed, h1, h2, by omega, h4, h5⟩

theorem Cur.lt {w : World} {g k : Nat} (h : Cur w g k) : g < w.heap.size := by
  obtain ⟨a, len, cap, j, seed, h1, _⟩ := h
  exact h1.lt

theorem u64_nn (s : Int) : 0 ≤ IntKind.u64.wrap s := by rw [IntKind.wrap_u64]; exact Int.emod_nonneg _ (by decide)

theorem low8 (s : Int) : wrap64 (bits BinOp.and IntKind.u64 (IntKind.u64.wrap s / 1099511627776) 255) = IntKind.u64.wrap s / 1099511627776 % 256 := by
  have h0 := Int.emod_nonneg s (show (18446744073709551616 : Int) ≠ 0 by decide)
  have h1 := Int.emod_lt_of_pos s (show (0 : Int) < 18446744073709551616 by decide)
  rw [IntKind.wrap_u64]
  have hm := bits_mask .u64 64 (by decide) (fun n h0 h1 => by rw [IntKind.wrap_u64]; omega) 8 (by decide) (s % 18446744073709551616 / 1099511627776) (by omega) (by omega)
  rw [show ((2 : Int) ^ 8 - 1) = 255 from rfl, show ((2 : Int) ^ 8) = 256 from rfl] at hm
  rw [hm, IntWalk.wrap64_in _ (by omega)]

theorem cur_close {w : World} {g k j len cap : Nat} {a : Option Addr} {seed : Int} {R : Int → Prop} (hb : Box w g 55 (curCells a len cap j seed)) (hy : Bytes8 w g a len) (hlen : len ≤ 1048576) (hj : j ≤ k) (q q' : Nat) (v n : Int) (hv : 0 ≤ v) (hn : R n) :
    Drawn R g (k + 1) w (.returned (.int .i64 n)) ((((w.drewN q).setCell ⟨g, 1, none⟩ (.int .i64 ((j : Int) + 1))).setCell ⟨g, 2, none⟩ (.int .u64 v)).drewN q') := by
  have ho := ((((Only.refl g w).drewN q).set 1 (.int .i64 ((j : Int) + 1))).set 2 (.int .u64 v)).drewN q'
  exact ⟨n, hn, rfl, ⟨a, len, cap, j + 1, v, (((hb.drewN q).set 1 _).set 2 _).drewN q', hlen, by omega, hv, hy.only ho hb.lt⟩, ho⟩

set_option maxHeartbeats 2000000 in
theorem cNext (g k : Nat) (w : World) (hk : k ≤ 1000000) (hc : Cur w g k) :
    Calls Try.prog 44 #[.pointer (some ⟨g, 0, none⟩)] w (Drawn (fun n => 0 ≤ n ∧ n ≤ 255) g (k + 1) w) := by
  obtain ⟨a, len, cap, j, seed, hb, hlen, hj, hs, hy⟩ := hc
  have c0 := hb.cell 0
  have c1 := hb.cell 1
  have c2 := hb.cell 2
  have f1 := hb.free 1
  have f2 := hb.free 2
  simp at c0 c1 c2
  have Hb := Lib.hid hb
  have Hy := Lib.hid hy
  clear hb hy
  by_cases h : j < len
  · obtain ⟨b, o, z, rfl, hbg, hz, hz0, hz1⟩ := Hy.out j h
    have hne : b ≠ g := by omega
    have i1 : (0 : Int) ≤ (j : Int) := by omega
    have i2 : (j : Int) < (len : Int) := by omega
    have d1 : decide (j < len) = true := by simpa using h
    have d2 : decide (j + 1 ≤ len) = true := by simp; omega
    have s1 : IntKind.i64.wrap z = z := IntWalk.i64_in _ (by omega)
    go_enter Try.func44, Try.ntmps44
    go_wp2_with fail
    go_quiet (fail)
    go_wp2_with fail
    go_quiet (fail)
    go_wp2_with fail
    go_quiet (fail)
    go_wp2_with fail
    go_ret
    exact cur_close Hb.out Hy.out hlen hj _ _ _ z (u64_nn _) ⟨hz0, hz1⟩
  · have d1 : decide (j < len) = false := by simpa using h
    have d2 : decide (j + 1 ≤ len) = false := by simp; omega
    go_enter Try.func44, Try.ntmps44
    go_wp2_with fail
    go_quiet (fail)
    go_wp2_with fail
    go_quiet (fail)
    go_wp2_with fail
    go_ret
    refine cur_close Hb.out Hy.out hlen hj _ _ _ _ (u64_nn _) ?_
    rw [low8]
    have h1 := Int.emod_nonneg (IntKind.u64.wrap (IntKind.u64.wrap (IntKind.u64.wrap (seed * 6364136223846793005)) + 1442695040888963407) / 1099511627776) (show (256 : Int) ≠ 0 by decide)
    have h2 := Int.emod_lt_of_pos (IntKind.u64.wrap (IntKind.u64.wrap (IntKind.u64.wrap (seed * 6364136223846793005)) + 1442695040888963407) / 1099511627776) (show (0 : Int) < 256 by decide)
    omega

end Go.Proofs.Ytnhdijkaakjdgaa

namespace Go.Proofs.Ytnhdijkaakjdgaa
open Go.ChangeShapes Go.WideShapes Go.ChangeAt Go.RowKit

theorem Drawn.mono {R R' : Int → Prop} {g k k' : Nat} {w w' : World} {e : Ending} (h : Drawn R g k w e w') (hR : ∀ n, R n → R' n) (hk : k ≤ k') : Drawn R' g k' w e w' := by
  obtain ⟨n, h1, h2, h3, h4⟩ := h
  exact ⟨n, hR n h1, h2, h3.more hk, h4⟩

set_option maxHeartbeats 1000000 in
theorem cPick (g k : Nat) (n : Int) (w : World) (hk : k ≤ 999990) (hn : 1 ≤ n) (hn2 : n ≤ 1048576) (hc : Cur w g k) :
    Calls Try.prog 19 #[.pointer (some ⟨g, 0, none⟩), .int .i64 n] w (Drawn (fun r => 0 ≤ r ∧ r < n) g (k + 2) w) := by
  have Hc := Lib.hid hc
  clear hc
  by_cases h1 : n ≤ 1
  · go_enter Try.func19, Try.ntmps19
    go_wp2_with fail
    go_ret
    exact ⟨0, ⟨by omega, by omega⟩, rfl, Hc.out.more (by omega), Only.refl _ _⟩
  · by_cases h2 : 200 < n
    · go_enter Try.func19, Try.ntmps19
      go_wp2_with fail
      refine (cNext g k _ (by omega) Hc.out).mono ?_
      rintro e w1 ⟨x, ⟨hx0, hx1⟩, rfl, hc1, ho1⟩
      have Hc1 := Lib.hid hc1
      have Ho1 := Lib.hid ho1
      clear hc1 ho1
      go_wp2_with fail
      refine (cNext g (k + 1) _ (by omega) Hc1.out).mono ?_
      rintro e w2 ⟨y, ⟨hy0, hy1⟩, rfl, hc2, ho2⟩
      have Hc2 := Lib.hid hc2
      have Ho2 := Lib.hid ho2
      clear hc2 ho2
      go_wp2_with fail
      go_ret
      exact ⟨_, ⟨Int.emod_nonneg _ (by omega), Int.emod_lt_of_pos _ (by omega)⟩, rfl, Hc2.out, Ho1.out.trans Ho2.out⟩
    · go_enter Try.func19, Try.ntmps19
      go_wp2_with fail
      refine (cNext g k _ (by omega) Hc.out).mono ?_
      rintro e w1 ⟨x, ⟨hx0, hx1⟩, rfl, hc1, ho1⟩
      have Hc1 := Lib.hid hc1
      have Ho1 := Lib.hid ho1
      clear hc1 ho1
      go_wp2_with fail
      go_ret
      exact ⟨_, ⟨Int.emod_nonneg _ (by omega), Int.emod_lt_of_pos _ (by omega)⟩, rfl, Hc1.out.more (by omega), Ho1.out⟩

/-- What a draw of a yes or no leaves. -/
def DrawnB (g k : Nat) (w : World) (e : Ending) (w' : World) : Prop := ∃ b : Bool, e = .returned (.bool b) ∧ Cur w' g k ∧ Only g w w'

theorem cOne (g k : Nat) (n : Int) (w : World) (hk : k ≤ 999990) (hn : 1 ≤ n) (hn2 : n ≤ 1048576) (hc : Cur w g k) :
    Calls Try.prog 28 #[.pointer (some ⟨g, 0, none⟩), .int .i64 n] w (DrawnB g (k + 2) w) := by
  have Hc := Lib.hid hc
  clear hc
  go_enter Try.func28, Try.ntmps28
  go_wp2_with fail
  refine (cPick g k n _ hk hn hn2 Hc.out).mono ?_
  rintro e w1 ⟨x, ⟨hx0, hx1⟩, rfl, hc1, ho1⟩
  have Hc1 := Lib.hid hc1
  have Ho1 := Lib.hid ho1
  clear hc1 ho1
  go_wp2_with fail
  go_ret
  exact ⟨_, rfl, Hc1.out, Ho1.out⟩

set_option maxHeartbeats 1000000 in
theorem cAmong (g k : Nat) (a : Option Addr) (c : Nat) (l : List Int) (w : World) (hk : k ≤ 999990) (hl : 1 ≤ l.length) (hl2 : l.length ≤ 1000) (hc : Cur w g k) (hr : Ints w a l) (hne : ∀ b o, a = some ⟨b, o, none⟩ → b ≠ g) :
    Calls Try.prog 54 #[.pointer (some ⟨g, 0, none⟩), .slice a l.length c] w (Drawn (fun n => n ∈ l) g (k + 2) w) := by
  have Hc := Lib.hid hc
  have Hr := Lib.hid hr
  have Hne := Lib.hid hne
  clear hc hr hne
  go_enter Try.func54, Try.ntmps54
  go_wp2_with fail
  refine (cPick g k (l.length : Int) _ hk (by omega) (by omega) Hc.out).mono ?_
  rintro e w1 ⟨x, ⟨hx0, hx1⟩, rfl, hc1, ho1⟩
  obtain ⟨i, rfl⟩ := Int.eq_ofNat_of_zero_le hx0
  have hi : i < l.length := by omega
  obtain ⟨b, o, rfl, hb1, hc2⟩ := Hr.out i hi
  have e1 : w1.cell? ⟨b, o + i, none⟩ = some (.int .i64 (l.getD i 0)) := (World.cell?_of_block (a := ⟨b, o + i, none⟩) (ho1.block b hb1 (fun e => by injection e with e; exact Hne.out b o rfl e))).trans hc2
  have Hm : Hid (l.getD i 0 ∈ l) := by show _ ∈ _; simp [List.getD, hi]
  have Hc1 := Lib.hid hc1
  have Ho1 := Lib.hid ho1
  clear hc1 ho1 hc2 Hr Hne
  generalize l.getD i 0 = y at *
  go_wp2_with fail
  go_ret
  exact ⟨y, Hm.out, rfl, Hc1.out, Ho1.out⟩

theorem Ints.lit (w : World) (l : List Int) (t : TypeId) : Ints (w.alloc (.cells ((l.map (Value.int .i64)).toArray) t)) (some ⟨w.heap.size, 0, none⟩) l := fun i hi =>
  ⟨w.heap.size, 0, rfl, by simp, by rw [Nat.zero_add, (Box.new w t _).cell]; simp [hi]⟩

set_option maxHeartbeats 1000000 in
theorem cWhole (g k : Nat) (w : World) (hk : k ≤ 999990) (hc : Cur w g k) :
    Calls Try.prog 90 #[.pointer (some ⟨g, 0, none⟩)] w (Drawn (fun n => -1000000000 ≤ n ∧ n ≤ 1000000000) g (k + 2) w) := by
  have Hc := Lib.hid hc
  have Hg := Lib.hid hc.lt
  clear hc
  go_enter Try.func90, Try.ntmps90
  go_wp2_with fail
  refine (cAmong g k _ _ [0, 1, -1, 63, -64, 64, 127, 128, -300, 8191, 8192, 1000000, 1000000000, -1000000000] _ hk (by decide) (by decide) (Hc.out.below ((Below.refl w.heap.size w).alloc (Nat.le_refl _) _) Hg.out) (Ints.lit w _ _) (fun b o e => by injection e with e; injection e with e; have := Hg.out; omega)).mono ?_
  rintro e w1 ⟨x, hx, rfl, hc1, ho1⟩
  have hx2 : -1000000000 ≤ x ∧ x ≤ 1000000000 := by
    simp at hx
    omega
  have Hx := Lib.hid hx2
  have Hc1 := Lib.hid hc1
  have Ho1 := Lib.hid ho1
  clear hc1 ho1 hx hx2
  go_wp2_with fail
  go_ret
  exact ⟨x, Hx.out, rfl, Hc1.out, ((Only.refl g w).alloc _).trans Ho1.out⟩

end Go.Proofs.Ytnhdijkaakjdgaa

namespace Go.Proofs.Ytnhdijkaakjdgaa
open Go.ChangeShapes Go.WideShapes Go.ChangeAt Go.RowKit

/-- A slice of bytes that came in. -/
def Code (w : World) (a : Option Addr) (len : Nat) : Prop := len ≤ 1048576 ∧ Bytes8 w w.heap.size a len

theorem Code.below {w w' : World} {a : Option Addr} {len : Nat} (h : Code w a len) (hb : Below w.heap.size w w') : Code w' a len :=
  ⟨h.1, fun i hi => by
    obtain ⟨b, o, z, e, h1, h2, h3⟩ := h.2 i hi
    exact ⟨b, o, z, e, Nat.lt_of_lt_of_le h1 hb.size, (hb.cell (p := ⟨b, o + i, none⟩) h1).trans h2, h3⟩⟩

theorem Code.cur {w : World} {a : Option Addr} {len cap : Nat} (h : Code w a len) : Cur (w.alloc (.cells #[.slice a len cap, .int .i64 0, .int .u64 0] 55)) w.heap.size 0 :=
  ⟨a, len, cap, 0, 0, Box.new w _ _, h.1, Nat.le_refl _, Int.le_refl _, h.2.below ((Below.refl w.heap.size w).alloc (Nat.le_refl _) _) (Nat.le_refl _)⟩

theorem freshOnly {w w' : World} {o : Obj} (h : Only w.heap.size (w.alloc o) w') : Below w.heap.size w w' :=
  ((Below.refl w.heap.size w).alloc (Nat.le_refl _) o).trans (h.below (Nat.le_refl _) (by simp))

theorem Ints.litAt (w : World) (g : Nat) (l : List Int) (t : TypeId) (hg : g = w.heap.size) : Ints (w.alloc (.cells ((l.map (Value.int .i64)).toArray) t)) (some ⟨g, 0, none⟩) l := by
  subst hg; exact Ints.lit w l t

/-- What a draw of a number answers. -/
def IntDrawn (w : World) (e : Ending) (w' : World) : Prop := ∃ n : Int, (-2000000002 ≤ n ∧ n ≤ 2000000002) ∧ e = .returned (.int .i64 n) ∧ Below w.heap.size w w'

/-- What a draw of two numbers answers. -/
def TwoDrawn (w : World) (e : Ending) (w' : World) : Prop := ∃ n m : Int, e = .returned (.tuple #[.int .i64 n, .int .i64 m]) ∧ Below w.heap.size w w'

end Go.Proofs.Ytnhdijkaakjdgaa
