
/-
  What is proved: slices of texts in memory: opened where they came in, counted, copied, compared. No condition beside what each theorem states.
-/
import Derived.Test.YtllddjmcemcdhaaGreatNum
import Derived.Test.YtllddjmcemcdhaaGreatMem
import Derived.Test.YtllddjmcemcdhaaGreatMark
import Derived.Deep.QuietTactic
import Derived.BigQuiet
import Derived.StillTailTactics
namespace Go.Proofs.YtllddjmcemcdhaaGreat
open Go.ChangeShapes Go.WideShapes Go.ChangeAt Go.RowKit

theorem cellsStrL : Tryz.prog.cellsOf 9 = 1 := by kernel_rfl
theorem openStr {H : Type} {enc : TypeId × Value → H} {w : World} {base : Nat} {spare : Nat → Bool} {held : Bool} (m : Nat) (cs : List Value) (x : DataW H × List MemPlace) (h : DataW.trod enc Tryz.prog w base spare held m 9 cs = some x) : ∃ t, strS.At Any w cs t ∧ t.size ≤ maxLen := by
  obtain ⟨v, q, _, k⟩ := DataW.trod_string Tryz.underlying9 h
  exact ⟨v, q, k⟩
theorem openStringS {H : Type} {enc : TypeId × Value → H} {w : World} {base : Nat} {spare : Nat → Bool} {held : Bool} {a : Option Addr} {len cap : Nat} {d : DataW H} {p : List MemPlace}
    (h : ∃ fuel, DataW.trod enc Tryz.prog w base spare held fuel 22 (Value.slice a len cap).cells.toList = some (d, p)) : ∃ l : List ByteArray, l.length = len ∧ len ≤ maxLen ∧ Rows strS Any w a l ∧ ∀ t ∈ l, t.size ≤ maxLen :=
  open_whole strS (fun t => t.size ≤ maxLen) Tryz.underlying22 cellsStrL (by decide) openStr h

theorem infoStr : (Tryz.prog.info? 9).map (fun i => (i.zero, i.size, i.bytes)) = some (some (.string ByteArray.empty), 1, 16) := by kernel_rfl
def strsA (l : List ByteArray) : Array Value := (l.map Value.string).toArray
theorem strsA_at {l : List ByteArray} {k : Nat} (h : k < l.length) : (strsA l)[k]? = some (.string l[k]) := by simp [strsA, h]
theorem strsA_set (l : List ByteArray) (k : Nat) (z : ByteArray) : (strsA l).setIfInBounds k (.string z) = strsA (l.set k z) := by simp [strsA, List.map_set]
theorem makeStrs (n : Nat) (W : World) (hn : n ≤ 1048576) : (Instr.makeSlice 22 (.int .i64 (n : Int)) (.int .i64 (n : Int))).run Tryz.prog W = .ok (.slice (some ⟨W.heap.size, 0, none⟩) n n) (W.alloc (.cells (strsA (List.replicate n ByteArray.empty)) 9)) := by
  obtain ⟨i0, hi0, hz0, hz1, hz2⟩ := info_parts infoStr
  have := run_make (P := Tryz.prog) W 22 9 i0 _ Tryz.underlying22 hi0 hz0 .i64 .i64 (n : Int) (n : Int) (by omega) (by omega) (by rw [hz2]; omega) (by omega)
  rw [this, hz1, Nat.mul_one, show (Value.string ByteArray.empty).cells = #[.string ByteArray.empty] from rfl]
  have : madeCells #[.string ByteArray.empty] n = strsA (List.replicate n ByteArray.empty) := by
    apply Array.ext
    · simp [size_madeCells, strsA]
    · intro i h1 h2
      simp [madeCells, strsA, Nat.mod_one]
  rw [← this]
  simp
theorem str_at {Q : Nat → Prop} {w w' : World} {a : Option Addr} {l : List ByteArray} {k : Nat} (hr : Rows strS Q w a l) (hk : k < l.length) (hb : Below w.heap.size w w') : ∃ b o, a = some ⟨b, o, none⟩ ∧ b < w.heap.size ∧ w'.cell? ⟨b, o + k, none⟩ = some (.string l[k]) := by
  obtain ⟨b, o, cs, rfl, _, hb1, hc1, hat⟩ := hr k hk
  obtain rfl : cs = [.string l[k]] := hat
  have e0 := (hb.cell (p := ⟨b, o + k * 1 + 0, none⟩) hb1).trans (hc1 0 (by decide))
  simp at e0
  exact ⟨b, o, rfl, hb1, e0⟩
theorem strs_rows {w : World} {g : Nat} {t : TypeId} {l : List ByteArray} (h : Box w g t (strsA l)) (Q : Nat → Prop) (hq : Q g) : Rows strS Q w (Option.some ⟨g, 0, none⟩) l := fun k hk =>
  ⟨g, 0, [.string l[k]], rfl, hq, h.lt, fun j hj => by
    have : j = 0 := by have : strS.n = 1 := rfl; omega
    subst this
    have : strS.n = 1 := rfl
    rw [this, Nat.zero_add, Nat.mul_one, Nat.add_zero, h.cell, strsA_at hk]
    rfl, rfl⟩

set_option maxHeartbeats 2000000 in
theorem lToStringSB (a : Option Addr) (c : Nat) (l : List ByteArray) (w : World) (hl : l.length ≤ 1048576) (hr : Rows strS Any w a l) :
    Calls Tryz.prog 20 #[.slice a l.length c] w fun e w' => e = .returned (.slice (some ⟨w.heap.size, 0, none⟩) l.length l.length) ∧ Rows strS (fun b => w.heap.size ≤ b) w' (some ⟨w.heap.size, 0, none⟩) l ∧ Clean w.heap.size w' ∧ Below w.heap.size w w' := by
  have km := fun W => makeStrs l.length W hl
  have Hr := Lib.hid hr
  clear hr
  go_enter Tryz.func20, Tryz.ntmps20
  go_wp2_with fail
  go_loopw [4] (fun i wr => ∃ (k : Nat) (zs : List ByteArray), i = .int .i64 k ∧ k ≤ l.length ∧ zs.length = l.length ∧ zs.take k = l.take k ∧ Box wr w.heap.size 9 (strsA zs) ∧ Clean w.heap.size wr ∧ Below w.heap.size w wr) (fun i _ => l.length - (intOf i).toNat)
  case atStart => exact ⟨0, _, rfl, by omega, by simp, by simp, Box.new w _ _, (Clean.refl w).alloc _ _, (Below.refl _ _).alloc (Nat.le_refl _) _⟩
  case round =>
    clear km
    obtain ⟨k, zs, rfl, hk, hzl, hz, hx, hcl, hbel⟩ := hrel
    have Hcl := Lib.hid hcl
    clear hcl
    have hsz := hbel.size
    by_cases hlt : k < l.length
    · obtain ⟨b, o, rfl, hb1, e0⟩ := str_at Hr.out hlt hbel
      have hkz : k < zs.length := by omega
      have x0 := hx.cell k
      rw [strsA_at hkz] at x0
      have xf := hx.free k
      have Hz2 := Lib.hid (show (zs.set k l[k]).take (k + 1) = l.take (k + 1) by
        rw [List.take_succ_eq_append_getElem (by rw [List.length_set]; exact hkz), List.take_succ_eq_append_getElem hlt, List.getElem_set_self, List.take_set_of_le (Nat.le_refl _), hz])
      have Hx2 := Lib.hid (show Box _ _ _ (strsA (zs.set k l[k])) from strsA_set zs k l[k] ▸ hx.set k (.string l[k]))
      have Hb2 := Lib.hid (hbel.setCell (p := ⟨w.heap.size, k, none⟩) (Nat.le_refl _) (.string l[k]))
      have hzl2 : (zs.set k l[k]).length = l.length := by rw [List.length_set, hzl]
      clear hz hx hbel
      generalize zs[k] = z0 at *
      generalize zs.set k l[k] = zs2 at *
      generalize l[k] = s at *
      go_wp2_with fail
      exact ⟨⟨k + 1, zs2, by congr 1, by omega, hzl2, Hz2.out, Hx2.out, Hcl.out.set _ _ _, Hb2.out⟩, by simp [intOf]; omega⟩
    · have hzz : zs = l := by
        rw [← List.take_length (l := zs), ← List.take_length (l := l), hzl, ← show k = l.length by omega]
        exact hz
      subst hzz
      have Hx := Lib.hid (strs_rows hx (fun b => w.heap.size ≤ b) (Nat.le_refl _))
      have Hb := Lib.hid hbel
      clear hz hx hbel
      go_wp2_with fail
      go_ret
      exact ⟨rfl, Hx.out, Hcl.out, Hb.out⟩

theorem lToStringS (a : Option Addr) (c : Nat) (l : List ByteArray) (w : World) (hl : l.length ≤ 1048576) (hr : Rows strS Any w a l) :
    Calls Tryz.prog 20 #[.slice a l.length c] w fun e w' => e = .returned (.slice (some ⟨w.heap.size, 0, none⟩) l.length l.length) ∧ Rows strS (fun b => w.heap.size ≤ b) w' (some ⟨w.heap.size, 0, none⟩) l ∧ Below w.heap.size w w' :=
  (lToStringSB a c l w hl hr).mono fun _ _ ⟨h1, h2, _, h4⟩ => ⟨h1, h2, h4⟩

set_option maxHeartbeats 2000000 in
theorem lEqStringS (a a' : Option Addr) (c c' : Nat) (l : List ByteArray) (w : World) (hl : l.length ≤ 1048576) (hr : Rows strS Any w a l) (hr' : Rows strS Any w a' l) :
    Calls Tryz.prog 27 #[.slice a l.length c, .slice a' l.length c'] w fun e w' => e = .returned (.bool true) ∧ Below w.heap.size w w' := by
  have Hr := Lib.hid hr
  have Hr' := Lib.hid hr'
  clear hr hr'
  go_enter Tryz.func27, Tryz.ntmps27
  go_wp2_with fail
  go_loopw [5] (fun i wr => ∃ k : Nat, i = .int .i64 k ∧ k ≤ l.length ∧ Below w.heap.size w wr) (fun i _ => l.length - (intOf i).toNat)
  case atStart => exact ⟨0, rfl, by omega, Below.refl _ _⟩
  case round =>
    obtain ⟨k, rfl, hk, hbel⟩ := hrel
    by_cases hlt : k < l.length
    · obtain ⟨b, o, rfl, hb1, e1⟩ := str_at Hr.out hlt hbel
      obtain ⟨b', o', rfl, hb1', e2⟩ := str_at Hr'.out hlt hbel
      have i1 : (0 : Int) ≤ (k : Int) := by omega
      have i2 : (k : Int) < (l.length : Int) := by omega
      have Hbel := Lib.hid hbel
      clear hbel Hr Hr'
      generalize l[k] = x at *
      go_wp2_with fail
      go_quiet (fail)
      go_wp2_with fail
      exact ⟨⟨k + 1, by congr 1, by omega, belowN Hbel.out _⟩, by simp [intOf]; omega⟩
    · go_wp2_with fail
      go_ret
      exact ⟨rfl, hbel⟩

set_option maxHeartbeats 2000000 in
theorem lSzStringS (a : Option Addr) (c : Nat) (l : List ByteArray) (w : World) (left : Int) (h0 : 0 ≤ left) (h1 : left ≤ 1048576) (hl : l.length ≤ maxLen) (hcm : ∀ t ∈ l, t.size ≤ maxLen) (hr : Rows strS Any w a l) :
    Calls Tryz.prog 12 #[.slice a l.length c, .int .i64 left] w fun e w' => ∃ r : Int, e = .returned (.int .i64 r) ∧ (r = -1 ∨ (0 ≤ r ∧ r = left - ((wtL ByteArray.size l : Nat) : Int))) ∧ Below w.heap.size w w' := by
  have Hr := Lib.hid hr
  have Hcm := Lib.hid hcm
  clear hr hcm
  unfold maxLen at hl
  go_enter Tryz.func12, Tryz.ntmps12
  by_cases hn0 : left - (l.length : Int) < 0
  · go_wp2_with fail
    go_ret
    exact ⟨-1, rfl, .inl rfl, Below.refl _ _⟩
  go_wp2_with fail
  go_loopw [1, 5] (fun r i wr => ∃ k : Nat, i = .int .i64 k ∧ k ≤ l.length ∧ (∃ z : Int, r = .int .i64 z ∧ 0 ≤ z ∧ z = left - (l.length : Int) - ((wtK ByteArray.size l k : Nat) : Int)) ∧ Below w.heap.size w wr) (fun _ i _ => l.length - (intOf i).toNat)
  case atStart => exact ⟨0, rfl, by omega, ⟨_, rfl, by omega, by simp [wtK]⟩, Below.refl _ _⟩
  case round =>
    obtain ⟨k, rfl, hk, ⟨z, rfl, hz0, hz⟩, hbel⟩ := hrel
    by_cases hlt : k < l.length
    · obtain ⟨b, o, rfl, hb1, e0⟩ := str_at Hr.out hlt hbel
      have Hbel := Lib.hid hbel
      have hcs := Hcm.out l[k] (List.getElem_mem hlt)
      unfold maxLen at hcs
      have Hk := Lib.hid (wtK_succ ByteArray.size hlt)
      have Hz := Lib.hid hz
      have hz1 : z ≤ 1048576 := by omega
      clear hbel hz
      generalize l[k] = s at *
      by_cases hneg : z - (s.size : Int) < 0
      · go_wp2_with fail
        go_ret
        exact ⟨-1, rfl, .inl rfl, Hbel.out⟩
      · go_wp2_with fail
        exact ⟨⟨k + 1, by congr 1, by omega, ⟨_, rfl, by omega, by rw [Hk.out, Hz.out]; push_cast; omega⟩, Hbel.out⟩, by simp [intOf]; omega⟩
    · obtain rfl : k = l.length := by omega
      have Hz := Lib.hid hz
      have Hbel := Lib.hid hbel
      clear hz hbel
      go_wp2_with fail
      go_ret
      exact ⟨z, rfl, .inr ⟨hz0, by rw [Hz.out, wtK_all, wtL]; push_cast; omega⟩, Hbel.out⟩
end Go.Proofs.YtllddjmcemcdhaaGreat
