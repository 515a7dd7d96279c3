
/-
  What is proved: contracts of markChangeS and heldChangeS of the laws: marks are written into a row of the call's own, and are found there. No condition beside what each theorem states.
-/
import Derived.Test.YtkhlekpkggglpaaMark
import Derived.Test.YtkhlekpkggglpaaStChange
import Derived.Deep.QuietTactic
import Derived.BigQuiet
import Derived.StillTailTactics
import Derived.Deep.RegionHeld3
namespace Go.Proofs.Ytkhlekpkggglpaa
open Go.ChangeShapes Go.WideShapes Go.ChangeAt Go.RowKit

/-- A marked one. -/
def mkChange (k : Int) : ChangeD := ⟨mkT (k), k + 1⟩
def mkChangeL (len : Nat) (k : Int) : List ChangeD := (List.range len).map fun (i : Nat) => mkChange (k + 2 * (i : Int))
theorem mkChangeL_len (len : Nat) (k : Int) : (mkChangeL len k).length = len := by simp [mkChangeL]
theorem mkChangeL_at {len : Nat} {k : Int} {i : Nat} (h : i < (mkChangeL len k).length) : (mkChangeL len k)[i] = mkChange (k + 2 * (i : Int)) := by simp [mkChangeL]

theorem lMarkChangeS0 (a : Option Addr) (c : Nat) (k : Int) (w : World) : Calls Try.prog 16 #[.slice a 0 c, .int .i64 k] w fun e w' => e = .returned (.int .i64 k) ∧ w' = w := by
  go_enter Try.func16, Try.ntmps16
  go_wp2_with fail
  go_loopw [1, 5] (fun z i wr => z = .int .i64 k ∧ i = .int .i64 0 ∧ wr = w) (fun _ _ _ => 0)
  case atStart => exact ⟨rfl, rfl, rfl⟩
  case round =>
    obtain ⟨rfl, rfl, rfl⟩ := hrel
    go_wp2_with fail
    go_ret
    exact ⟨rfl, rfl⟩

set_option maxRecDepth 100000 in
set_option maxHeartbeats 4000000 in
theorem lMarkChangeS (B g o c len : Nat) (t : TypeId) (arr : Array Value) (k : Int) (w : World) (hB : B ≤ g) (hBw : B ≤ w.heap.size) (hlen : len ≤ 1048576) (hk : 0 < k) (hk2 : k ≤ 1000000000) (hb : Box w g t arr) (hs : o + len * 2 ≤ arr.size) :
    Calls Try.prog 16 #[.slice (some ⟨g, o, none⟩) len c, .int .i64 k] w fun e w' => e = .returned (.int .i64 (k + 2 * (len : Int))) ∧ Rows changeS Any w' (some ⟨g, o, none⟩) (mkChangeL len k) ∧ Below B w w' := by
  have hL := mkChangeL_len len k
  have HL := Lib.hid (fun i (h : i < (mkChangeL len k).length) => mkChangeL_at h)
  have Hst := Lib.hid (fun W arr arr' i cs => FilledO.step (S := changeS) (Q := Nowhere) (w := W) (arr := arr) (arr' := arr') (o := o) (l := mkChangeL len k) (k := i) (cs := cs))
  have hn : changeS.n = 2 := rfl
  have Hb := Lib.hid hb
  clear hb
  generalize mkChangeL len k = ml at *
  go_enter Try.func16, Try.ntmps16
  go_wp2_with fail
  go_loopw [1, 5] (fun z i wr => ∃ (q : Nat) (arr' : Array Value), i = .int .i64 q ∧ z = .int .i64 (k + 2 * (q : Int)) ∧ q ≤ len ∧ Box wr g t arr' ∧ arr'.size = arr.size ∧ FilledO changeS Nowhere wr arr' o ml q ∧ Below B w wr) (fun _ i _ => len - (intOf i).toNat)
  case atStart => exact ⟨0, arr, rfl, by simp, by omega, Hb.out, rfl, FilledO.zero, Below.refl _ _⟩
  case round =>
    obtain ⟨q, arr1, rfl, rfl, hq, hb, hsz, hf, hbel⟩ := hrel
    by_cases hlt : q < len
    · have Hbb := Lib.hid hb
      have Hf := Lib.hid hf
      have Hbel := Lib.hid hbel
      have hq1 : q * 2 + 2 ≤ len * 2 := by omega
      have fr := hb.free
      obtain ⟨x0, c0⟩ := hb.some (i := o + q * 2) (by omega)
      obtain ⟨x1, c1⟩ := hb.some (i := o + q * 2 + 1) (by omega)
      have e0 := HL.out q (by omega)
      clear hb hf hbel
      have hBr : B ≤ wr.heap.size := Nat.le_trans hBw Hbel.out.size
      go_wp2_with fail
      refine (lMarkText _ _ (by omega) (by omega)).mono ?_
      rintro e w1 ⟨rfl, hw1⟩
      have hb1 := (Hbb.out).below hw1 (Box.lt (Hbb.out))
      have Bel1 := Lib.hid (((Below.refl B wr)).trans (hw1.mono (Nat.le_trans hBr ((Below.refl B wr)).size)))
      have fr1 := hb1.free
      obtain ⟨x0_1, c0_1⟩ := hb1.some (i := o + q * 2) (by first | omega | (simp; omega))
      obtain ⟨x1_1, c1_1⟩ := hb1.some (i := o + q * 2 + 1) (by first | omega | (simp; omega))
      have Hb1 := Lib.hid hb1
      clear hb1 hw1
      go_wp2_with fail
      have hbx := ((Hb1.out).set (o + q * 2) (.string (mkT (k + 2 * (q : Int))))).set (o + q * 2 + 1) (.int .i64 (k + 2 * (q : Int) + 1))
      have hbe := ((Bel1.out).setCell (p := ⟨g, (o + q * 2), none⟩) hB (.string (mkT (k + 2 * (q : Int))))).setCell (p := ⟨g, (o + q * 2 + 1), none⟩) hB (.int .i64 (k + 2 * (q : Int) + 1))
      have hs2 : (((((arr1).setIfInBounds (o + q * 2) (.string (mkT (k + 2 * (q : Int)))))).setIfInBounds (o + q * 2 + 1) (.int .i64 (k + 2 * (q : Int) + 1)))).size = arr1.size := by simp
      have hn0 : (((((arr1).setIfInBounds (o + q * 2) (.string (mkT (k + 2 * (q : Int)))))).setIfInBounds (o + q * 2 + 1) (.int .i64 (k + 2 * (q : Int) + 1))))[o + q * 2]? = some (.string (mkT (k + 2 * (q : Int)))) := by
        rw [set_else (by omega), set_there (by first | omega | (simp; omega))]
      have hn1 : (((((arr1).setIfInBounds (o + q * 2) (.string (mkT (k + 2 * (q : Int)))))).setIfInBounds (o + q * 2 + 1) (.int .i64 (k + 2 * (q : Int) + 1))))[o + q * 2 + 1]? = some (.int .i64 (k + 2 * (q : Int) + 1)) := by
        rw [set_there (by first | omega | (simp; omega))]
      have ho : ∀ x, x < o + q * 2 → (((((arr1).setIfInBounds (o + q * 2) (.string (mkT (k + 2 * (q : Int)))))).setIfInBounds (o + q * 2 + 1) (.int .i64 (k + 2 * (q : Int) + 1))))[x]? = arr1[x]? := fun x hx => by
        rw [set_else (by omega), set_else (by omega)]
      have hfin := Hst.out _ arr1 (((((arr1).setIfInBounds (o + q * 2) (.string (mkT (k + 2 * (q : Int)))))).setIfInBounds (o + q * 2 + 1) (.int .i64 (k + 2 * (q : Int) + 1)))) q [.string (mkT (k + 2 * (q : Int))), .int .i64 (k + 2 * (q : Int) + 1)] (by omega) (Hf.out.keep (fun _ h _ => h.elim) hbe.size) (by rw [e0]; rfl) ho (fun j hj => by
        match j, hj with
        | 0, _ => exact hn0
        | 1, _ => exact hn1
        | j + 2, hj => exact absurd hj (by rw [hn]; omega))
      exact ⟨⟨q + 1, _, congrArg (Value.int IntKind.i64) (by omega), congrArg (Value.int IntKind.i64) (by omega), by omega, hbx, by rw [hs2]; exact hsz, hfin, Hbel.out.trans hbe⟩, by simp [intOf]; omega⟩
    · obtain rfl : q = len := by omega
      have Hb2 := Lib.hid hb
      have Hf2 := Lib.hid hf
      have Hbel := Lib.hid hbel
      clear hb hf hbel
      go_wp2_with fail
      go_ret
      refine ⟨rfl, FilledO.rows (t := t) (arr := arr1) ?_ Hb2.out trivial, Hbel.out⟩
      intro i hi _
      obtain ⟨cs, h1, h2⟩ := Hf2.out i hi (by omega)
      exact ⟨cs, Shape.mono _ h1 (fun _ h _ => h.elim), h2⟩

theorem lHeldChangeS0 (a : Option Addr) (c : Nat) (k : Int) (w : World) : Calls Try.prog 23 #[.slice a 0 c, .int .i64 k] w fun e w' => e = .returned (.int .i64 k) ∧ w' = w := by
  go_enter Try.func23, Try.ntmps23
  go_wp2_with fail
  go_loopw [1, 5] (fun z i wr => z = .int .i64 k ∧ i = .int .i64 0 ∧ wr = w) (fun _ _ _ => 0)
  case atStart => exact ⟨rfl, rfl, rfl⟩
  case round =>
    obtain ⟨rfl, rfl, rfl⟩ := hrel
    go_wp2_with fail
    go_ret
    exact ⟨rfl, rfl⟩

set_option maxRecDepth 100000 in
set_option maxHeartbeats 4000000 in
theorem lHeldChangeS (a : Option Addr) (c len : Nat) (k : Int) (w : World) (hlen : len ≤ 1048576) (hk : 0 < k) (hk2 : k ≤ 1000000000) (hr : Rows changeS Any w a (mkChangeL len k)) :
    Calls Try.prog 23 #[.slice a len c, .int .i64 k] w fun e w' => e = .returned (.int .i64 (k + 2 * (len : Int))) ∧ Below w.heap.size w w' := by
  have hL := mkChangeL_len len k
  have HL := Lib.hid (fun i (h : i < (mkChangeL len k).length) => mkChangeL_at h)
  have Hr := Lib.hid hr
  clear hr
  generalize mkChangeL len k = ml at *
  go_enter Try.func23, Try.ntmps23
  go_wp2_with fail
  go_loopw [1, 5] (fun z i wr => ∃ q : Nat, i = .int .i64 q ∧ z = .int .i64 (k + 2 * (q : Int)) ∧ q ≤ len ∧ Below w.heap.size w wr) (fun _ i _ => len - (intOf i).toNat)
  case atStart => exact ⟨0, rfl, by simp, by omega, Below.refl _ _⟩
  case round =>
    obtain ⟨q, rfl, rfl, hq, hbel⟩ := hrel
    by_cases hlt : q < len
    · obtain ⟨b, o, cs, rfl, _, hb1, hc1, hat⟩ := Hr.out q (by omega)
      rw [HL.out q (by omega)] at hat
      obtain rfl : cs = [.string (mkT (k + 2 * (q : Int))), .int .i64 (k + 2 * (q : Int) + 1)] := hat
      have hn : changeS.n = 2 := rfl
      have Hbel0 := Lib.hid hbel
      have Hc := Lib.hid hc1
      have i1 : (0 : Int) ≤ (q : Int) := by omega
      have i2 : (q : Int) < (len : Int) := by omega
      have e0_0 : wr.cell? ⟨b, o + q * 2, none⟩ = some (.string (mkT (k + 2 * (q : Int)))) := (Hbel0.out.cell (p := ⟨b, o + q * 2 + 0, none⟩) hb1).trans (Hc.out 0 (by decide))
      have e1_0 : wr.cell? ⟨b, o + q * 2 + 1, none⟩ = some (.int .i64 (k + 2 * (q : Int) + 1)) := (Hbel0.out.cell (p := ⟨b, o + q * 2 + 1, none⟩) hb1).trans (Hc.out 1 (by decide))
      clear hbel hc1
      have hbl : b < wr.heap.size := Nat.lt_of_lt_of_le hb1 Hbel0.out.size
      go_wp2_with fail
      go_region_held3 (fun w' => w'.cell? ⟨b, o + q * 2, none⟩ = some (.string (mkT (k + 2 * (q : Int)))))
        (first
          | go_keep
          | (rw [hw1.cell (by simp; omega)]; assumption))
        (first
          | (go_at_call 40; refine (lMarkText _ _ (by omega) (by omega)).mono ?_; rintro e w1 ⟨rfl, hw1⟩))
      clear hbl
      have Hbel1 := Lib.hid ((belowN Hbel0.out 1).trans (hw1.mono Hbel0.out.size))
      clear hw1 e0_0 e1_0
      have e0_1 : w1.cell? ⟨b, o + q * 2, none⟩ = some (.string (mkT (k + 2 * (q : Int)))) := (Hbel1.out.cell (p := ⟨b, o + q * 2 + 0, none⟩) hb1).trans (Hc.out 0 (by decide))
      have e1_1 : w1.cell? ⟨b, o + q * 2 + 1, none⟩ = some (.int .i64 (k + 2 * (q : Int) + 1)) := (Hbel1.out.cell (p := ⟨b, o + q * 2 + 1, none⟩) hb1).trans (Hc.out 1 (by decide))
      go_wp2_with fail
      exact ⟨⟨q + 1, congrArg (Value.int IntKind.i64) (by omega), congrArg (Value.int IntKind.i64) (by omega), by omega, Hbel1.out⟩, by simp [intOf]; omega⟩
    · obtain rfl : q = len := by omega
      go_wp2_with fail
      go_ret
      exact ⟨rfl, hbel⟩

end Go.Proofs.Ytkhlekpkggglpaa
