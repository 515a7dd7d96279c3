
/-
  What is proved: slices of texts in memory: opened where they came in, counted, copied, compared. No condition beside what each theorem states.
-/
import Derived.Test.YtkhlekpkggglpaaNum
import Derived.Test.YtkhlekpkggglpaaMem
import Derived.Test.YtkhlekpkggglpaaMark
import Derived.Deep.QuietTactic
import Derived.BigQuiet
import Derived.StillTailTactics
namespace Go.Proofs.Ytkhlekpkggglpaa
open Go.ChangeShapes Go.WideShapes Go.ChangeAt Go.RowKit

theorem cellsStrL : Try.prog.cellsOf 9 = 1 := by kernel_rfl
theorem openStr {H : Type} {enc : TypeId × Value → H} {w : World} {base : Nat} {spare : Nat → Bool} {held : Bool} (m : Nat) (cs : List Value) (x : DataW H × List MemPlace) (h : DataW.trod enc Try.prog w base spare held m 9 cs = some x) : ∃ t, strS.At Any w cs t ∧ t.size ≤ maxLen := by
  obtain ⟨v, q, _, k⟩ := DataW.trod_string Try.underlying9 h
  exact ⟨v, q, k⟩
theorem openStringS {H : Type} {enc : TypeId × Value → H} {w : World} {base : Nat} {spare : Nat → Bool} {held : Bool} {a : Option Addr} {len cap : Nat} {d : DataW H} {p : List MemPlace}
    (h : ∃ fuel, DataW.trod enc Try.prog w base spare held fuel 26 (Value.slice a len cap).cells.toList = some (d, p)) : ∃ l : List ByteArray, l.length = len ∧ len ≤ maxLen ∧ Rows strS Any w a l ∧ ∀ t ∈ l, t.size ≤ maxLen :=
  open_whole strS (fun t => t.size ≤ maxLen) Try.underlying26 cellsStrL (by decide) openStr h

theorem infoStr : (Try.prog.info? 9).map (fun i => (i.zero, i.size, i.bytes)) = some (some (.string ByteArray.empty), 1, 16) := by kernel_rfl
def strsA (l : List ByteArray) : Array Value := (l.map Value.string).toArray
theorem strsA_at {l : List ByteArray} {k : Nat} (h : k < l.length) : (strsA l)[k]? = some (.string l[k]) := by simp [strsA, h]
theorem strsA_set (l : List ByteArray) (k : Nat) (z : ByteArray) : (strsA l).setIfInBounds k (.string z) = strsA (l.set k z) := by simp [strsA, List.map_set]
theorem makeStrs (n : Nat) (W : World) (hn : n ≤ 1048576) : (Instr.makeSlice 26 (.int .i64 (n : Int)) (.int .i64 (n : Int))).run Try.prog W = .ok (.slice (some ⟨W.heap.size, 0, none⟩) n n) (W.alloc (.cells (strsA (List.replicate n ByteArray.empty)) 9)) := by
  obtain ⟨i0, hi0, hz0, hz1, hz2⟩ := info_parts infoStr
  have := run_make (P := Try.prog) W 26 9 i0 _ Try.underlying26 hi0 hz0 .i64 .i64 (n : Int) (n : Int) (by omega) (by omega) (by rw [hz2]; omega) (by omega)
  rw [this, hz1, Nat.mul_one, show (Value.string ByteArray.empty).cells = #[.string ByteArray.empty] from rfl]
  have : madeCells #[.string ByteArray.empty] n = strsA (List.replicate n ByteArray.empty) := by
    apply Array.ext
    · simp [size_madeCells, strsA]
    · intro i h1 h2
      simp [madeCells, strsA, Nat.mod_one]
  rw [← this]
  simp
theorem str_at {Q : Nat → Prop} {w w' : World} {a : Option Addr} {l : List ByteArray} {k : Nat} (hr : Rows strS Q w a l) (hk : k < l.length) (hb : Below w.heap.size w w') : ∃ b o, a = some ⟨b, o, none⟩ ∧ b < w.heap.size ∧ w'.cell? ⟨b, o + k, none⟩ = some (.string l[k]) := by
  obtain ⟨b, o, cs, rfl, _, hb1, hc1, hat⟩ := hr k hk
  obtain rfl : cs = [.string l[k]] := hat
  have e0 := (hb.cell (p := ⟨b, o + k * 1 + 0, none⟩) hb1).trans (hc1 0 (by decide))
  simp at e0
  exact ⟨b, o, rfl, hb1, e0⟩
theorem strs_rows {w : World} {g : Nat} {t : TypeId} {l : List ByteArray} (h : Box w g t (strsA l)) (Q : Nat → Prop) (hq : Q g) : Rows strS Q w (Option.some ⟨g, 0, none⟩) l := fun k hk =>
  ⟨g, 0, [.string l[k]], rfl, hq, h.lt, fun j hj => by
    have : j = 0 := by have : strS.n = 1 := rfl; omega
    subst this
    have : strS.n = 1 := rfl
    rw [this, Nat.zero_add, Nat.mul_one, Nat.add_zero, h.cell, strsA_at hk]
    rfl, rfl⟩

set_option maxHeartbeats 2000000 in
theorem lEqStringS (a a' : Option Addr) (c c' : Nat) (l : List ByteArray) (w : World) (hl : l.length ≤ 1048576) (hr : Rows strS Any w a l) (hr' : Rows strS Any w a' l) :
    Calls Try.prog 12 #[.slice a l.length c, .slice a' l.length c'] w fun e w' => e = .returned (.bool true) ∧ Below w.heap.size w w' := by
  have Hr := Lib.hid hr
  have Hr' := Lib.hid hr'
  clear hr hr'
  go_enter Try.func12, Try.ntmps12
  go_wp2_with fail
  go_loopw [5] (fun i wr => ∃ k : Nat, i = .int .i64 k ∧ k ≤ l.length ∧ Below w.heap.size w wr) (fun i _ => l.length - (intOf i).toNat)
  case atStart => exact ⟨0, rfl, by omega, Below.refl _ _⟩
  case round =>
    obtain ⟨k, rfl, hk, hbel⟩ := hrel
    by_cases hlt : k < l.length
    · obtain ⟨b, o, rfl, hb1, e1⟩ := str_at Hr.out hlt hbel
      obtain ⟨b', o', rfl, hb1', e2⟩ := str_at Hr'.out hlt hbel
      have i1 : (0 : Int) ≤ (k : Int) := by omega
      have i2 : (k : Int) < (l.length : Int) := by omega
      have Hbel := Lib.hid hbel
      clear hbel Hr Hr'
      generalize l[k] = x at *
      go_wp2_with fail
      go_quiet (fail)
      go_wp2_with fail
      exact ⟨⟨k + 1, by congr 1, by omega, belowN Hbel.out _⟩, by simp [intOf]; omega⟩
    · go_wp2_with fail
      go_ret
      exact ⟨rfl, hbel⟩

end Go.Proofs.Ytkhlekpkggglpaa
