
/-
  What is proved: contracts of markFieldS and heldFieldS of the laws: marks are written into a row of the call's own, and are found there; contracts of markTypeS and heldTypeS of the laws: marks are written into a row of the call's own, and are found there; contracts of BaseTypes of the program and of its model, and the walk of its law. No condition beside what each theorem states.
-/
import Derived.Test.YtbpbebhnledgnaaGreatMark
import Derived.Test.YtbpbebhnledgnaaGreatStField
import Derived.Deep.QuietTactic
import Derived.BigQuiet
import Derived.StillTailTactics
import Derived.Deep.RegionHeld3
import Derived.Test.YtbpbebhnledgnaaGreatStType
namespace Go.Proofs.YtbpbebhnledgnaaGreat
open Go.ChangeShapes Go.WideShapes Go.ChangeAt Go.RowKit

/-- A marked one. -/
def mkField (k : Int) : FieldD := ⟨mkT (k), k + 1, k + 1 + 1⟩
def mkFieldL (len : Nat) (k : Int) : List FieldD := (List.range len).map fun (i : Nat) => mkField (k + 3 * (i : Int))
theorem mkFieldL_len (len : Nat) (k : Int) : (mkFieldL len k).length = len := by simp [mkFieldL]
theorem mkFieldL_at {len : Nat} {k : Int} {i : Nat} (h : i < (mkFieldL len k).length) : (mkFieldL len k)[i] = mkField (k + 3 * (i : Int)) := by simp [mkFieldL]

theorem lMarkFieldS0 (a : Option Addr) (c : Nat) (k : Int) (w : World) : Calls Tryz.prog 83 #[.slice a 0 c, .int .i64 k] w fun e w' => e = .returned (.int .i64 k) ∧ w' = w := by
  go_enter Tryz.func83, Tryz.ntmps83
  go_wp2_with fail
  go_loopw [1, 5] (fun z i wr => z = .int .i64 k ∧ i = .int .i64 0 ∧ wr = w) (fun _ _ _ => 0)
  case atStart => exact ⟨rfl, rfl, rfl⟩
  case round =>
    obtain ⟨rfl, rfl, rfl⟩ := hrel
    go_wp2_with fail
    go_ret
    exact ⟨rfl, rfl⟩

set_option maxRecDepth 100000 in
set_option maxHeartbeats 4000000 in
theorem lMarkFieldS (B g o c len : Nat) (t : TypeId) (arr : Array Value) (k : Int) (w : World) (hB : B ≤ g) (hBw : B ≤ w.heap.size) (hlen : len ≤ 1048576) (hk : 0 < k) (hk2 : k ≤ 1000000000) (hb : Box w g t arr) (hs : o + len * 3 ≤ arr.size) :
    Calls Tryz.prog 83 #[.slice (some ⟨g, o, none⟩) len c, .int .i64 k] w fun e w' => e = .returned (.int .i64 (k + 3 * (len : Int))) ∧ Rows fieldS Any w' (some ⟨g, o, none⟩) (mkFieldL len k) ∧ Below B w w' := by
  have hL := mkFieldL_len len k
  have HL := Lib.hid (fun i (h : i < (mkFieldL len k).length) => mkFieldL_at h)
  have Hst := Lib.hid (fun W arr arr' i cs => FilledO.step (S := fieldS) (Q := Nowhere) (w := W) (arr := arr) (arr' := arr') (o := o) (l := mkFieldL len k) (k := i) (cs := cs))
  have hn : fieldS.n = 3 := rfl
  have Hb := Lib.hid hb
  clear hb
  generalize mkFieldL len k = ml at *
  go_enter Tryz.func83, Tryz.ntmps83
  go_wp2_with fail
  go_loopw [1, 5] (fun z i wr => ∃ (q : Nat) (arr' : Array Value), i = .int .i64 q ∧ z = .int .i64 (k + 3 * (q : Int)) ∧ q ≤ len ∧ Box wr g t arr' ∧ arr'.size = arr.size ∧ FilledO fieldS Nowhere wr arr' o ml q ∧ Below B w wr) (fun _ i _ => len - (intOf i).toNat)
  case atStart => exact ⟨0, arr, rfl, by simp, by omega, Hb.out, rfl, FilledO.zero, Below.refl _ _⟩
  case round =>
    obtain ⟨q, arr1, rfl, rfl, hq, hb, hsz, hf, hbel⟩ := hrel
    by_cases hlt : q < len
    · have Hbb := Lib.hid hb
      have Hf := Lib.hid hf
      have Hbel := Lib.hid hbel
      have hq1 : q * 3 + 3 ≤ len * 3 := by omega
      have fr := hb.free
      obtain ⟨x0, c0⟩ := hb.some (i := o + q * 3) (by omega)
      obtain ⟨x1, c1⟩ := hb.some (i := o + q * 3 + 1) (by omega)
      obtain ⟨x2, c2⟩ := hb.some (i := o + q * 3 + 2) (by omega)
      have e0 := HL.out q (by omega)
      clear hb hf hbel
      have hBr : B ≤ wr.heap.size := Nat.le_trans hBw Hbel.out.size
      go_wp2_with fail
      refine (lMarkText _ _ (by omega) (by omega)).mono ?_
      rintro e w1 ⟨rfl, hw1⟩
      have hb1 := (Hbb.out).below hw1 (Box.lt (Hbb.out))
      have Bel1 := Lib.hid (((Below.refl B wr)).trans (hw1.mono (Nat.le_trans hBr ((Below.refl B wr)).size)))
      have fr1 := hb1.free
      obtain ⟨x0_1, c0_1⟩ := hb1.some (i := o + q * 3) (by first | omega | (simp; omega))
      obtain ⟨x1_1, c1_1⟩ := hb1.some (i := o + q * 3 + 1) (by first | omega | (simp; omega))
      obtain ⟨x2_1, c2_1⟩ := hb1.some (i := o + q * 3 + 2) (by first | omega | (simp; omega))
      have Hb1 := Lib.hid hb1
      clear hb1 hw1
      go_wp2_with fail
      have hbx := (((Hb1.out).set (o + q * 3) (.string (mkT (k + 3 * (q : Int))))).set (o + q * 3 + 1) (.int .i64 (k + 3 * (q : Int) + 1))).set (o + q * 3 + 2) (.int .i64 (k + 3 * (q : Int) + 1 + 1))
      have hbe := (((Bel1.out).setCell (p := ⟨g, (o + q * 3), none⟩) hB (.string (mkT (k + 3 * (q : Int))))).setCell (p := ⟨g, (o + q * 3 + 1), none⟩) hB (.int .i64 (k + 3 * (q : Int) + 1))).setCell (p := ⟨g, (o + q * 3 + 2), none⟩) hB (.int .i64 (k + 3 * (q : Int) + 1 + 1))
      have hs2 : (((((((arr1).setIfInBounds (o + q * 3) (.string (mkT (k + 3 * (q : Int)))))).setIfInBounds (o + q * 3 + 1) (.int .i64 (k + 3 * (q : Int) + 1)))).setIfInBounds (o + q * 3 + 2) (.int .i64 (k + 3 * (q : Int) + 1 + 1)))).size = arr1.size := by simp
      have hn0 : (((((((arr1).setIfInBounds (o + q * 3) (.string (mkT (k + 3 * (q : Int)))))).setIfInBounds (o + q * 3 + 1) (.int .i64 (k + 3 * (q : Int) + 1)))).setIfInBounds (o + q * 3 + 2) (.int .i64 (k + 3 * (q : Int) + 1 + 1))))[o + q * 3]? = some (.string (mkT (k + 3 * (q : Int)))) := by
        rw [set_else (by omega), set_else (by omega), set_there (by first | omega | (simp; omega))]
      have hn1 : (((((((arr1).setIfInBounds (o + q * 3) (.string (mkT (k + 3 * (q : Int)))))).setIfInBounds (o + q * 3 + 1) (.int .i64 (k + 3 * (q : Int) + 1)))).setIfInBounds (o + q * 3 + 2) (.int .i64 (k + 3 * (q : Int) + 1 + 1))))[o + q * 3 + 1]? = some (.int .i64 (k + 3 * (q : Int) + 1)) := by
        rw [set_else (by omega), set_there (by first | omega | (simp; omega))]
      have hn2 : (((((((arr1).setIfInBounds (o + q * 3) (.string (mkT (k + 3 * (q : Int)))))).setIfInBounds (o + q * 3 + 1) (.int .i64 (k + 3 * (q : Int) + 1)))).setIfInBounds (o + q * 3 + 2) (.int .i64 (k + 3 * (q : Int) + 1 + 1))))[o + q * 3 + 2]? = some (.int .i64 (k + 3 * (q : Int) + 1 + 1)) := by
        rw [set_there (by first | omega | (simp; omega))]
      have ho : ∀ x, x < o + q * 3 → (((((((arr1).setIfInBounds (o + q * 3) (.string (mkT (k + 3 * (q : Int)))))).setIfInBounds (o + q * 3 + 1) (.int .i64 (k + 3 * (q : Int) + 1)))).setIfInBounds (o + q * 3 + 2) (.int .i64 (k + 3 * (q : Int) + 1 + 1))))[x]? = arr1[x]? := fun x hx => by
        rw [set_else (by omega), set_else (by omega), set_else (by omega)]
      have hfin := Hst.out _ arr1 (((((((arr1).setIfInBounds (o + q * 3) (.string (mkT (k + 3 * (q : Int)))))).setIfInBounds (o + q * 3 + 1) (.int .i64 (k + 3 * (q : Int) + 1)))).setIfInBounds (o + q * 3 + 2) (.int .i64 (k + 3 * (q : Int) + 1 + 1)))) q [.string (mkT (k + 3 * (q : Int))), .int .i64 (k + 3 * (q : Int) + 1), .int .i64 (k + 3 * (q : Int) + 1 + 1)] (by omega) (Hf.out.keep (fun _ h _ => h.elim) hbe.size) (by rw [e0]; rfl) ho (fun j hj => by
        match j, hj with
        | 0, _ => exact hn0
        | 1, _ => exact hn1
        | 2, _ => exact hn2
        | j + 3, hj => exact absurd hj (by rw [hn]; omega))
      exact ⟨⟨q + 1, _, congrArg (Value.int IntKind.i64) (by omega), congrArg (Value.int IntKind.i64) (by omega), by omega, hbx, by rw [hs2]; exact hsz, hfin, Hbel.out.trans hbe⟩, by simp [intOf]; omega⟩
    · obtain rfl : q = len := by omega
      have Hb2 := Lib.hid hb
      have Hf2 := Lib.hid hf
      have Hbel := Lib.hid hbel
      clear hb hf hbel
      go_wp2_with fail
      go_ret
      refine ⟨rfl, FilledO.rows (t := t) (arr := arr1) ?_ Hb2.out trivial, Hbel.out⟩
      intro i hi _
      obtain ⟨cs, h1, h2⟩ := Hf2.out i hi (by omega)
      exact ⟨cs, Shape.mono _ h1 (fun _ h _ => h.elim), h2⟩

theorem lHeldFieldS0 (a : Option Addr) (c : Nat) (k : Int) (w : World) : Calls Tryz.prog 85 #[.slice a 0 c, .int .i64 k] w fun e w' => e = .returned (.int .i64 k) ∧ w' = w := by
  go_enter Tryz.func85, Tryz.ntmps85
  go_wp2_with fail
  go_loopw [1, 5] (fun z i wr => z = .int .i64 k ∧ i = .int .i64 0 ∧ wr = w) (fun _ _ _ => 0)
  case atStart => exact ⟨rfl, rfl, rfl⟩
  case round =>
    obtain ⟨rfl, rfl, rfl⟩ := hrel
    go_wp2_with fail
    go_ret
    exact ⟨rfl, rfl⟩

set_option maxRecDepth 100000 in
set_option maxHeartbeats 4000000 in
theorem lHeldFieldS (a : Option Addr) (c len : Nat) (k : Int) (w : World) (hlen : len ≤ 1048576) (hk : 0 < k) (hk2 : k ≤ 1000000000) (hr : Rows fieldS Any w a (mkFieldL len k)) :
    Calls Tryz.prog 85 #[.slice a len c, .int .i64 k] w fun e w' => e = .returned (.int .i64 (k + 3 * (len : Int))) ∧ Below w.heap.size w w' := by
  have hL := mkFieldL_len len k
  have HL := Lib.hid (fun i (h : i < (mkFieldL len k).length) => mkFieldL_at h)
  have Hr := Lib.hid hr
  clear hr
  generalize mkFieldL len k = ml at *
  go_enter Tryz.func85, Tryz.ntmps85
  go_wp2_with fail
  go_loopw [1, 5] (fun z i wr => ∃ q : Nat, i = .int .i64 q ∧ z = .int .i64 (k + 3 * (q : Int)) ∧ q ≤ len ∧ Below w.heap.size w wr) (fun _ i _ => len - (intOf i).toNat)
  case atStart => exact ⟨0, rfl, by simp, by omega, Below.refl _ _⟩
  case round =>
    obtain ⟨q, rfl, rfl, hq, hbel⟩ := hrel
    by_cases hlt : q < len
    · obtain ⟨b, o, cs, rfl, _, hb1, hc1, hat⟩ := Hr.out q (by omega)
      rw [HL.out q (by omega)] at hat
      obtain rfl : cs = [.string (mkT (k + 3 * (q : Int))), .int .i64 (k + 3 * (q : Int) + 1), .int .i64 (k + 3 * (q : Int) + 1 + 1)] := hat
      have hn : fieldS.n = 3 := rfl
      have Hbel0 := Lib.hid hbel
      have Hc := Lib.hid hc1
      have i1 : (0 : Int) ≤ (q : Int) := by omega
      have i2 : (q : Int) < (len : Int) := by omega
      have e0_0 : wr.cell? ⟨b, o + q * 3, none⟩ = some (.string (mkT (k + 3 * (q : Int)))) := (Hbel0.out.cell (p := ⟨b, o + q * 3 + 0, none⟩) hb1).trans (Hc.out 0 (by decide))
      have e1_0 : wr.cell? ⟨b, o + q * 3 + 1, none⟩ = some (.int .i64 (k + 3 * (q : Int) + 1)) := (Hbel0.out.cell (p := ⟨b, o + q * 3 + 1, none⟩) hb1).trans (Hc.out 1 (by decide))
      have e2_0 : wr.cell? ⟨b, o + q * 3 + 2, none⟩ = some (.int .i64 (k + 3 * (q : Int) + 1 + 1)) := (Hbel0.out.cell (p := ⟨b, o + q * 3 + 2, none⟩) hb1).trans (Hc.out 2 (by decide))
      clear hbel hc1
      have hbl : b < wr.heap.size := Nat.lt_of_lt_of_le hb1 Hbel0.out.size
      go_wp2_with fail
      go_region_held3 (fun w' => w'.cell? ⟨b, o + q * 3, none⟩ = some (.string (mkT (k + 3 * (q : Int)))))
        (first
          | go_keep
          | (rw [hw1.cell (by simp; omega)]; assumption))
        (first
          | (go_at_call 82; refine (lMarkText _ _ (by omega) (by omega)).mono ?_; rintro e w1 ⟨rfl, hw1⟩))
      clear hbl
      have Hbel1 := Lib.hid ((belowN Hbel0.out 1).trans (hw1.mono Hbel0.out.size))
      clear hw1 e0_0 e1_0 e2_0
      have e0_1 : w1.cell? ⟨b, o + q * 3, none⟩ = some (.string (mkT (k + 3 * (q : Int)))) := (Hbel1.out.cell (p := ⟨b, o + q * 3 + 0, none⟩) hb1).trans (Hc.out 0 (by decide))
      have e1_1 : w1.cell? ⟨b, o + q * 3 + 1, none⟩ = some (.int .i64 (k + 3 * (q : Int) + 1)) := (Hbel1.out.cell (p := ⟨b, o + q * 3 + 1, none⟩) hb1).trans (Hc.out 1 (by decide))
      have e2_1 : w1.cell? ⟨b, o + q * 3 + 2, none⟩ = some (.int .i64 (k + 3 * (q : Int) + 1 + 1)) := (Hbel1.out.cell (p := ⟨b, o + q * 3 + 2, none⟩) hb1).trans (Hc.out 2 (by decide))
      go_wp2_with fail
      exact ⟨⟨q + 1, congrArg (Value.int IntKind.i64) (by omega), congrArg (Value.int IntKind.i64) (by omega), by omega, Hbel1.out⟩, by simp [intOf]; omega⟩
    · obtain rfl : q = len := by omega
      go_wp2_with fail
      go_ret
      exact ⟨rfl, hbel⟩

end Go.Proofs.YtbpbebhnledgnaaGreat

namespace Go.Proofs.YtbpbebhnledgnaaGreat
open Go.ChangeShapes Go.WideShapes Go.ChangeAt Go.RowKit

/-- A marked one. -/
def mkType (k : Int) : TypeD := ⟨k, k + 1, k + 1 + 1, [], mkT (k + 1 + 1 + 1), mkT (k + 1 + 1 + 1 + 1)⟩
def mkTypeL (len : Nat) (k : Int) : List TypeD := (List.range len).map fun (i : Nat) => mkType (k + 5 * (i : Int))
theorem mkTypeL_len (len : Nat) (k : Int) : (mkTypeL len k).length = len := by simp [mkTypeL]
theorem mkTypeL_at {len : Nat} {k : Int} {i : Nat} (h : i < (mkTypeL len k).length) : (mkTypeL len k)[i] = mkType (k + 5 * (i : Int)) := by simp [mkTypeL]

theorem mkType_at (w : World) (k : Int) (a3 : Option Addr) (c3 : Nat) : typeS.At Nowhere w [.int .i64 (k), .int .i64 (k + 1), .int .i64 (k + 1 + 1), .slice a3 0 c3, .string (mkT (k + 1 + 1 + 1)), .string (mkT (k + 1 + 1 + 1 + 1))] (mkType k) := ⟨a3, c3, rfl, ⟨Rows.nil, Nat.zero_le _⟩⟩
theorem lMarkTypeS0 (a : Option Addr) (c : Nat) (k : Int) (w : World) : Calls Tryz.prog 40 #[.slice a 0 c, .int .i64 k] w fun e w' => e = .returned (.int .i64 k) ∧ w' = w := by
  go_enter Tryz.func40, Tryz.ntmps40
  go_wp2_with fail
  go_loopw [1, 5] (fun z i wr => z = .int .i64 k ∧ i = .int .i64 0 ∧ wr = w) (fun _ _ _ => 0)
  case atStart => exact ⟨rfl, rfl, rfl⟩
  case round =>
    obtain ⟨rfl, rfl, rfl⟩ := hrel
    go_wp2_with fail
    go_ret
    exact ⟨rfl, rfl⟩

set_option maxRecDepth 100000 in
set_option maxHeartbeats 4000000 in
theorem lMarkTypeS (B g o c len : Nat) (t : TypeId) (arr : Array Value) (k : Int) (w : World) (hB : B ≤ g) (hBw : B ≤ w.heap.size) (hlen : len ≤ 1048576) (hk : 0 < k) (hk2 : k ≤ 1000000000) (hb : Box w g t arr) (hs : o + len * 6 ≤ arr.size) (hz3 : ∀ i, i < len → ∃ (a : Option Addr) (c : Nat), arr[o + i * 6 + 3]? = some (.slice a 0 c)) :
    Calls Tryz.prog 40 #[.slice (some ⟨g, o, none⟩) len c, .int .i64 k] w fun e w' => e = .returned (.int .i64 (k + 5 * (len : Int))) ∧ Rows typeS Any w' (some ⟨g, o, none⟩) (mkTypeL len k) ∧ Below B w w' := by
  have hL := mkTypeL_len len k
  have HL := Lib.hid (fun i (h : i < (mkTypeL len k).length) => mkTypeL_at h)
  have Hst := Lib.hid (fun W arr arr' i cs => FilledO.step (S := typeS) (Q := Nowhere) (w := W) (arr := arr) (arr' := arr') (o := o) (l := mkTypeL len k) (k := i) (cs := cs))
  have hn : typeS.n = 6 := rfl
  have Hb := Lib.hid hb
  clear hb
  have Hz3 := Lib.hid hz3
  clear hz3
  generalize mkTypeL len k = ml at *
  go_enter Tryz.func40, Tryz.ntmps40
  go_wp2_with fail
  go_loopw [1, 5] (fun z i wr => ∃ (q : Nat) (arr' : Array Value), i = .int .i64 q ∧ z = .int .i64 (k + 5 * (q : Int)) ∧ q ≤ len ∧ Box wr g t arr' ∧ arr'.size = arr.size ∧ FilledO typeS Nowhere wr arr' o ml q ∧ (∀ i, i < len → arr'[o + i * 6 + 3]? = arr[o + i * 6 + 3]?) ∧ Below B w wr) (fun _ i _ => len - (intOf i).toNat)
  case atStart => exact ⟨0, arr, rfl, by simp, by omega, Hb.out, rfl, FilledO.zero, fun _ _ => rfl, Below.refl _ _⟩
  case round =>
    obtain ⟨q, arr1, rfl, rfl, hq, hb, hsz, hf, hy3, hbel⟩ := hrel
    by_cases hlt : q < len
    · have Hbb := Lib.hid hb
      have Hf := Lib.hid hf
      have Hbel := Lib.hid hbel
      have hq1 : q * 6 + 6 ≤ len * 6 := by omega
      have fr := hb.free
      obtain ⟨az3, cz3, hz3⟩ := Hz3.out q hlt
      have Hy3 := Lib.hid hy3
      have hzz3 := (hb.cell (o + q * 6 + 3)).trans ((hy3 q hlt).trans hz3)
      clear hy3
      obtain ⟨x0, c0⟩ := hb.some (i := o + q * 6) (by omega)
      obtain ⟨x1, c1⟩ := hb.some (i := o + q * 6 + 1) (by omega)
      obtain ⟨x2, c2⟩ := hb.some (i := o + q * 6 + 2) (by omega)
      obtain ⟨x4, c4⟩ := hb.some (i := o + q * 6 + 4) (by omega)
      obtain ⟨x5, c5⟩ := hb.some (i := o + q * 6 + 5) (by omega)
      have e0 := HL.out q (by omega)
      clear hb hf hbel
      have hBr : B ≤ wr.heap.size := Nat.le_trans hBw Hbel.out.size
      go_wp2_with fail
      refine (lMarkFieldS0 _ _ _ _).mono ?_
      rintro e w53 ⟨rfl, hww⟩
      rw [hww]
      clear hww w53
      go_wp2_with fail
      refine (lMarkText _ _ (by omega) (by omega)).mono ?_
      rintro e w1 ⟨rfl, hw1⟩
      have hb1 := ((((Hbb.out).set (o + q * 6) (.int .i64 (k + 5 * (q : Int)))).set (o + q * 6 + 1) (.int .i64 (k + 5 * (q : Int) + 1))).set (o + q * 6 + 2) (.int .i64 (k + 5 * (q : Int) + 1 + 1))).below hw1 (Box.lt ((((Hbb.out).set (o + q * 6) (.int .i64 (k + 5 * (q : Int)))).set (o + q * 6 + 1) (.int .i64 (k + 5 * (q : Int) + 1))).set (o + q * 6 + 2) (.int .i64 (k + 5 * (q : Int) + 1 + 1))))
      have Bel1 := Lib.hid ((((((Below.refl B wr)).setCell (p := ⟨g, (o + q * 6), none⟩) hB (.int .i64 (k + 5 * (q : Int)))).setCell (p := ⟨g, (o + q * 6 + 1), none⟩) hB (.int .i64 (k + 5 * (q : Int) + 1))).setCell (p := ⟨g, (o + q * 6 + 2), none⟩) hB (.int .i64 (k + 5 * (q : Int) + 1 + 1))).trans (hw1.mono (Nat.le_trans hBr (((((Below.refl B wr)).setCell (p := ⟨g, (o + q * 6), none⟩) hB (.int .i64 (k + 5 * (q : Int)))).setCell (p := ⟨g, (o + q * 6 + 1), none⟩) hB (.int .i64 (k + 5 * (q : Int) + 1))).setCell (p := ⟨g, (o + q * 6 + 2), none⟩) hB (.int .i64 (k + 5 * (q : Int) + 1 + 1))).size)))
      have fr1 := hb1.free
      obtain ⟨x0_1, c0_1⟩ := hb1.some (i := o + q * 6) (by first | omega | (simp; omega))
      obtain ⟨x1_1, c1_1⟩ := hb1.some (i := o + q * 6 + 1) (by first | omega | (simp; omega))
      obtain ⟨x2_1, c2_1⟩ := hb1.some (i := o + q * 6 + 2) (by first | omega | (simp; omega))
      have hzz3_1 := hb1.cell (o + q * 6 + 3)
      rw [set_else (by omega), set_else (by omega), set_else (by omega), Hy3.out q hlt, hz3] at hzz3_1
      obtain ⟨x4_1, c4_1⟩ := hb1.some (i := o + q * 6 + 4) (by first | omega | (simp; omega))
      obtain ⟨x5_1, c5_1⟩ := hb1.some (i := o + q * 6 + 5) (by first | omega | (simp; omega))
      have Hb1 := Lib.hid hb1
      clear hb1 hw1
      go_wp2_with fail
      refine (lMarkText _ _ (by omega) (by omega)).mono ?_
      rintro e w2 ⟨rfl, hw2⟩
      have hb2 := ((Hb1.out).set (o + q * 6 + 4) (.string (mkT (k + 5 * (q : Int) + 1 + 1 + 1)))).below hw2 (Box.lt ((Hb1.out).set (o + q * 6 + 4) (.string (mkT (k + 5 * (q : Int) + 1 + 1 + 1)))))
      have Bel2 := Lib.hid (((Bel1.out).setCell (p := ⟨g, (o + q * 6 + 4), none⟩) hB (.string (mkT (k + 5 * (q : Int) + 1 + 1 + 1)))).trans (hw2.mono (Nat.le_trans hBr ((Bel1.out).setCell (p := ⟨g, (o + q * 6 + 4), none⟩) hB (.string (mkT (k + 5 * (q : Int) + 1 + 1 + 1)))).size)))
      have fr2 := hb2.free
      obtain ⟨x0_2, c0_2⟩ := hb2.some (i := o + q * 6) (by first | omega | (simp; omega))
      obtain ⟨x1_2, c1_2⟩ := hb2.some (i := o + q * 6 + 1) (by first | omega | (simp; omega))
      obtain ⟨x2_2, c2_2⟩ := hb2.some (i := o + q * 6 + 2) (by first | omega | (simp; omega))
      have hzz3_2 := hb2.cell (o + q * 6 + 3)
      rw [set_else (by omega), set_else (by omega), set_else (by omega), set_else (by omega), Hy3.out q hlt, hz3] at hzz3_2
      obtain ⟨x4_2, c4_2⟩ := hb2.some (i := o + q * 6 + 4) (by first | omega | (simp; omega))
      obtain ⟨x5_2, c5_2⟩ := hb2.some (i := o + q * 6 + 5) (by first | omega | (simp; omega))
      have Hb2 := Lib.hid hb2
      clear hb2 hw2
      go_wp2_with fail
      have hbx := (Hb2.out).set (o + q * 6 + 5) (.string (mkT (k + 5 * (q : Int) + 1 + 1 + 1 + 1)))
      have hbe := (Bel2.out).setCell (p := ⟨g, (o + q * 6 + 5), none⟩) hB (.string (mkT (k + 5 * (q : Int) + 1 + 1 + 1 + 1)))
      have hs2 : (((((((((((arr1).setIfInBounds (o + q * 6) (.int .i64 (k + 5 * (q : Int))))).setIfInBounds (o + q * 6 + 1) (.int .i64 (k + 5 * (q : Int) + 1)))).setIfInBounds (o + q * 6 + 2) (.int .i64 (k + 5 * (q : Int) + 1 + 1)))).setIfInBounds (o + q * 6 + 4) (.string (mkT (k + 5 * (q : Int) + 1 + 1 + 1))))).setIfInBounds (o + q * 6 + 5) (.string (mkT (k + 5 * (q : Int) + 1 + 1 + 1 + 1))))).size = arr1.size := by simp
      have hn0 : (((((((((((arr1).setIfInBounds (o + q * 6) (.int .i64 (k + 5 * (q : Int))))).setIfInBounds (o + q * 6 + 1) (.int .i64 (k + 5 * (q : Int) + 1)))).setIfInBounds (o + q * 6 + 2) (.int .i64 (k + 5 * (q : Int) + 1 + 1)))).setIfInBounds (o + q * 6 + 4) (.string (mkT (k + 5 * (q : Int) + 1 + 1 + 1))))).setIfInBounds (o + q * 6 + 5) (.string (mkT (k + 5 * (q : Int) + 1 + 1 + 1 + 1)))))[o + q * 6]? = some (.int .i64 (k + 5 * (q : Int))) := by
        rw [set_else (by omega), set_else (by omega), set_else (by omega), set_else (by omega), set_there (by first | omega | (simp; omega))]
      have hn1 : (((((((((((arr1).setIfInBounds (o + q * 6) (.int .i64 (k + 5 * (q : Int))))).setIfInBounds (o + q * 6 + 1) (.int .i64 (k + 5 * (q : Int) + 1)))).setIfInBounds (o + q * 6 + 2) (.int .i64 (k + 5 * (q : Int) + 1 + 1)))).setIfInBounds (o + q * 6 + 4) (.string (mkT (k + 5 * (q : Int) + 1 + 1 + 1))))).setIfInBounds (o + q * 6 + 5) (.string (mkT (k + 5 * (q : Int) + 1 + 1 + 1 + 1)))))[o + q * 6 + 1]? = some (.int .i64 (k + 5 * (q : Int) + 1)) := by
        rw [set_else (by omega), set_else (by omega), set_else (by omega), set_there (by first | omega | (simp; omega))]
      have hn2 : (((((((((((arr1).setIfInBounds (o + q * 6) (.int .i64 (k + 5 * (q : Int))))).setIfInBounds (o + q * 6 + 1) (.int .i64 (k + 5 * (q : Int) + 1)))).setIfInBounds (o + q * 6 + 2) (.int .i64 (k + 5 * (q : Int) + 1 + 1)))).setIfInBounds (o + q * 6 + 4) (.string (mkT (k + 5 * (q : Int) + 1 + 1 + 1))))).setIfInBounds (o + q * 6 + 5) (.string (mkT (k + 5 * (q : Int) + 1 + 1 + 1 + 1)))))[o + q * 6 + 2]? = some (.int .i64 (k + 5 * (q : Int) + 1 + 1)) := by
        rw [set_else (by omega), set_else (by omega), set_there (by first | omega | (simp; omega))]
      have hn4 : (((((((((((arr1).setIfInBounds (o + q * 6) (.int .i64 (k + 5 * (q : Int))))).setIfInBounds (o + q * 6 + 1) (.int .i64 (k + 5 * (q : Int) + 1)))).setIfInBounds (o + q * 6 + 2) (.int .i64 (k + 5 * (q : Int) + 1 + 1)))).setIfInBounds (o + q * 6 + 4) (.string (mkT (k + 5 * (q : Int) + 1 + 1 + 1))))).setIfInBounds (o + q * 6 + 5) (.string (mkT (k + 5 * (q : Int) + 1 + 1 + 1 + 1)))))[o + q * 6 + 4]? = some (.string (mkT (k + 5 * (q : Int) + 1 + 1 + 1))) := by
        rw [set_else (by omega), set_there (by first | omega | (simp; omega))]
      have hn5 : (((((((((((arr1).setIfInBounds (o + q * 6) (.int .i64 (k + 5 * (q : Int))))).setIfInBounds (o + q * 6 + 1) (.int .i64 (k + 5 * (q : Int) + 1)))).setIfInBounds (o + q * 6 + 2) (.int .i64 (k + 5 * (q : Int) + 1 + 1)))).setIfInBounds (o + q * 6 + 4) (.string (mkT (k + 5 * (q : Int) + 1 + 1 + 1))))).setIfInBounds (o + q * 6 + 5) (.string (mkT (k + 5 * (q : Int) + 1 + 1 + 1 + 1)))))[o + q * 6 + 5]? = some (.string (mkT (k + 5 * (q : Int) + 1 + 1 + 1 + 1))) := by
        rw [set_there (by first | omega | (simp; omega))]
      have hn3 : (((((((((((arr1).setIfInBounds (o + q * 6) (.int .i64 (k + 5 * (q : Int))))).setIfInBounds (o + q * 6 + 1) (.int .i64 (k + 5 * (q : Int) + 1)))).setIfInBounds (o + q * 6 + 2) (.int .i64 (k + 5 * (q : Int) + 1 + 1)))).setIfInBounds (o + q * 6 + 4) (.string (mkT (k + 5 * (q : Int) + 1 + 1 + 1))))).setIfInBounds (o + q * 6 + 5) (.string (mkT (k + 5 * (q : Int) + 1 + 1 + 1 + 1)))))[o + q * 6 + 3]? = some (.slice az3 0 cz3) := by
        rw [set_else (by omega), set_else (by omega), set_else (by omega), set_else (by omega), set_else (by omega), Hy3.out q hlt, hz3]
      have ho : ∀ x, x < o + q * 6 → (((((((((((arr1).setIfInBounds (o + q * 6) (.int .i64 (k + 5 * (q : Int))))).setIfInBounds (o + q * 6 + 1) (.int .i64 (k + 5 * (q : Int) + 1)))).setIfInBounds (o + q * 6 + 2) (.int .i64 (k + 5 * (q : Int) + 1 + 1)))).setIfInBounds (o + q * 6 + 4) (.string (mkT (k + 5 * (q : Int) + 1 + 1 + 1))))).setIfInBounds (o + q * 6 + 5) (.string (mkT (k + 5 * (q : Int) + 1 + 1 + 1 + 1)))))[x]? = arr1[x]? := fun x hx => by
        rw [set_else (by omega), set_else (by omega), set_else (by omega), set_else (by omega), set_else (by omega)]
      have hfin := Hst.out _ arr1 (((((((((((arr1).setIfInBounds (o + q * 6) (.int .i64 (k + 5 * (q : Int))))).setIfInBounds (o + q * 6 + 1) (.int .i64 (k + 5 * (q : Int) + 1)))).setIfInBounds (o + q * 6 + 2) (.int .i64 (k + 5 * (q : Int) + 1 + 1)))).setIfInBounds (o + q * 6 + 4) (.string (mkT (k + 5 * (q : Int) + 1 + 1 + 1))))).setIfInBounds (o + q * 6 + 5) (.string (mkT (k + 5 * (q : Int) + 1 + 1 + 1 + 1))))) q [.int .i64 (k + 5 * (q : Int)), .int .i64 (k + 5 * (q : Int) + 1), .int .i64 (k + 5 * (q : Int) + 1 + 1), .slice az3 0 cz3, .string (mkT (k + 5 * (q : Int) + 1 + 1 + 1)), .string (mkT (k + 5 * (q : Int) + 1 + 1 + 1 + 1))] (by omega) (Hf.out.keep (fun _ h _ => h.elim) hbe.size) (by rw [e0]; exact mkType_at _ _ az3 cz3) ho (fun j hj => by
        match j, hj with
        | 0, _ => exact hn0
        | 1, _ => exact hn1
        | 2, _ => exact hn2
        | 3, _ => exact hn3
        | 4, _ => exact hn4
        | 5, _ => exact hn5
        | j + 6, hj => exact absurd hj (by rw [hn]; omega))
      exact ⟨⟨q + 1, _, congrArg (Value.int IntKind.i64) (by omega), congrArg (Value.int IntKind.i64) (by omega), by omega, hbx, by rw [hs2]; exact hsz, hfin, fun i hi => by rw [set_else (by omega), set_else (by omega), set_else (by omega), set_else (by omega), set_else (by omega)]; exact Hy3.out i hi, Hbel.out.trans hbe⟩, by simp [intOf]; omega⟩
    · obtain rfl : q = len := by omega
      have Hb2 := Lib.hid hb
      have Hf2 := Lib.hid hf
      have Hbel := Lib.hid hbel
      clear hb hf hbel hy3
      go_wp2_with fail
      go_ret
      refine ⟨rfl, FilledO.rows (t := t) (arr := arr1) ?_ Hb2.out trivial, Hbel.out⟩
      intro i hi _
      obtain ⟨cs, h1, h2⟩ := Hf2.out i hi (by omega)
      exact ⟨cs, Shape.mono _ h1 (fun _ h _ => h.elim), h2⟩

theorem lHeldTypeS0 (a : Option Addr) (c : Nat) (k : Int) (w : World) : Calls Tryz.prog 44 #[.slice a 0 c, .int .i64 k] w fun e w' => e = .returned (.int .i64 k) ∧ w' = w := by
  go_enter Tryz.func44, Tryz.ntmps44
  go_wp2_with fail
  go_loopw [1, 5] (fun z i wr => z = .int .i64 k ∧ i = .int .i64 0 ∧ wr = w) (fun _ _ _ => 0)
  case atStart => exact ⟨rfl, rfl, rfl⟩
  case round =>
    obtain ⟨rfl, rfl, rfl⟩ := hrel
    go_wp2_with fail
    go_ret
    exact ⟨rfl, rfl⟩

set_option maxRecDepth 100000 in
set_option maxHeartbeats 4000000 in
theorem lHeldTypeS (a : Option Addr) (c len : Nat) (k : Int) (w : World) (hlen : len ≤ 1048576) (hk : 0 < k) (hk2 : k ≤ 1000000000) (hr : Rows typeS Any w a (mkTypeL len k)) :
    Calls Tryz.prog 44 #[.slice a len c, .int .i64 k] w fun e w' => e = .returned (.int .i64 (k + 5 * (len : Int))) ∧ Below w.heap.size w w' := by
  have hL := mkTypeL_len len k
  have HL := Lib.hid (fun i (h : i < (mkTypeL len k).length) => mkTypeL_at h)
  have Hr := Lib.hid hr
  clear hr
  generalize mkTypeL len k = ml at *
  go_enter Tryz.func44, Tryz.ntmps44
  go_wp2_with fail
  go_loopw [1, 5] (fun z i wr => ∃ q : Nat, i = .int .i64 q ∧ z = .int .i64 (k + 5 * (q : Int)) ∧ q ≤ len ∧ Below w.heap.size w wr) (fun _ i _ => len - (intOf i).toNat)
  case atStart => exact ⟨0, rfl, by simp, by omega, Below.refl _ _⟩
  case round =>
    obtain ⟨q, rfl, rfl, hq, hbel⟩ := hrel
    by_cases hlt : q < len
    · obtain ⟨b, o, cs, rfl, _, hb1, hc1, hat⟩ := Hr.out q (by omega)
      rw [HL.out q (by omega)] at hat
      obtain ⟨a3, c3, rfl, _⟩ := hat
      have hn : typeS.n = 6 := rfl
      have Hbel0 := Lib.hid hbel
      have Hc := Lib.hid hc1
      have i1 : (0 : Int) ≤ (q : Int) := by omega
      have i2 : (q : Int) < (len : Int) := by omega
      have e0_0 : wr.cell? ⟨b, o + q * 6, none⟩ = some (.int .i64 (k + 5 * (q : Int))) := (Hbel0.out.cell (p := ⟨b, o + q * 6 + 0, none⟩) hb1).trans (Hc.out 0 (by decide))
      have e1_0 : wr.cell? ⟨b, o + q * 6 + 1, none⟩ = some (.int .i64 (k + 5 * (q : Int) + 1)) := (Hbel0.out.cell (p := ⟨b, o + q * 6 + 1, none⟩) hb1).trans (Hc.out 1 (by decide))
      have e2_0 : wr.cell? ⟨b, o + q * 6 + 2, none⟩ = some (.int .i64 (k + 5 * (q : Int) + 1 + 1)) := (Hbel0.out.cell (p := ⟨b, o + q * 6 + 2, none⟩) hb1).trans (Hc.out 2 (by decide))
      have e3_0 : wr.cell? ⟨b, o + q * 6 + 3, none⟩ = some (.slice a3 0 c3) := (Hbel0.out.cell (p := ⟨b, o + q * 6 + 3, none⟩) hb1).trans (Hc.out 3 (by decide))
      have e4_0 : wr.cell? ⟨b, o + q * 6 + 4, none⟩ = some (.string (mkT (k + 5 * (q : Int) + 1 + 1 + 1))) := (Hbel0.out.cell (p := ⟨b, o + q * 6 + 4, none⟩) hb1).trans (Hc.out 4 (by decide))
      have e5_0 : wr.cell? ⟨b, o + q * 6 + 5, none⟩ = some (.string (mkT (k + 5 * (q : Int) + 1 + 1 + 1 + 1))) := (Hbel0.out.cell (p := ⟨b, o + q * 6 + 5, none⟩) hb1).trans (Hc.out 5 (by decide))
      clear hbel hc1
      go_wp2_with fail
      refine (lHeldFieldS0 _ _ _ _).mono ?_
      rintro e w53 ⟨rfl, hww⟩
      rw [hww]
      clear hww w53
      have hbl : b < wr.heap.size := Nat.lt_of_lt_of_le hb1 Hbel0.out.size
      go_wp2_with fail
      go_region_held3 (fun w' => w'.cell? ⟨b, o + q * 6 + 4, none⟩ = some (.string (mkT (k + 5 * (q : Int) + 1 + 1 + 1))))
        (first
          | go_keep
          | (rw [hw1.cell (by simp; omega)]; assumption))
        (first
          | (go_at_call 82; refine (lMarkText _ _ (by omega) (by omega)).mono ?_; rintro e w1 ⟨rfl, hw1⟩))
      clear hbl
      have Hbel1 := Lib.hid ((belowN Hbel0.out 1).trans (hw1.mono Hbel0.out.size))
      clear hw1 e0_0 e1_0 e2_0 e3_0 e4_0 e5_0
      have e0_1 : w1.cell? ⟨b, o + q * 6, none⟩ = some (.int .i64 (k + 5 * (q : Int))) := (Hbel1.out.cell (p := ⟨b, o + q * 6 + 0, none⟩) hb1).trans (Hc.out 0 (by decide))
      have e1_1 : w1.cell? ⟨b, o + q * 6 + 1, none⟩ = some (.int .i64 (k + 5 * (q : Int) + 1)) := (Hbel1.out.cell (p := ⟨b, o + q * 6 + 1, none⟩) hb1).trans (Hc.out 1 (by decide))
      have e2_1 : w1.cell? ⟨b, o + q * 6 + 2, none⟩ = some (.int .i64 (k + 5 * (q : Int) + 1 + 1)) := (Hbel1.out.cell (p := ⟨b, o + q * 6 + 2, none⟩) hb1).trans (Hc.out 2 (by decide))
      have e3_1 : w1.cell? ⟨b, o + q * 6 + 3, none⟩ = some (.slice a3 0 c3) := (Hbel1.out.cell (p := ⟨b, o + q * 6 + 3, none⟩) hb1).trans (Hc.out 3 (by decide))
      have e4_1 : w1.cell? ⟨b, o + q * 6 + 4, none⟩ = some (.string (mkT (k + 5 * (q : Int) + 1 + 1 + 1))) := (Hbel1.out.cell (p := ⟨b, o + q * 6 + 4, none⟩) hb1).trans (Hc.out 4 (by decide))
      have e5_1 : w1.cell? ⟨b, o + q * 6 + 5, none⟩ = some (.string (mkT (k + 5 * (q : Int) + 1 + 1 + 1 + 1))) := (Hbel1.out.cell (p := ⟨b, o + q * 6 + 5, none⟩) hb1).trans (Hc.out 5 (by decide))
      have hbl : b < w1.heap.size := Nat.lt_of_lt_of_le hb1 Hbel1.out.size
      go_wp2_with fail
      go_region_held3 (fun w' => w'.cell? ⟨b, o + q * 6 + 5, none⟩ = some (.string (mkT (k + 5 * (q : Int) + 1 + 1 + 1 + 1))))
        (first
          | go_keep
          | (rw [hw2.cell (by simp; omega)]; assumption))
        (first
          | (go_at_call 82; refine (lMarkText _ _ (by omega) (by omega)).mono ?_; rintro e w2 ⟨rfl, hw2⟩))
      clear hbl
      have Hbel2 := Lib.hid ((belowN Hbel1.out 1).trans (hw2.mono Hbel1.out.size))
      clear hw2 e0_1 e1_1 e2_1 e3_1 e4_1 e5_1
      have e0_2 : w2.cell? ⟨b, o + q * 6, none⟩ = some (.int .i64 (k + 5 * (q : Int))) := (Hbel2.out.cell (p := ⟨b, o + q * 6 + 0, none⟩) hb1).trans (Hc.out 0 (by decide))
      have e1_2 : w2.cell? ⟨b, o + q * 6 + 1, none⟩ = some (.int .i64 (k + 5 * (q : Int) + 1)) := (Hbel2.out.cell (p := ⟨b, o + q * 6 + 1, none⟩) hb1).trans (Hc.out 1 (by decide))
      have e2_2 : w2.cell? ⟨b, o + q * 6 + 2, none⟩ = some (.int .i64 (k + 5 * (q : Int) + 1 + 1)) := (Hbel2.out.cell (p := ⟨b, o + q * 6 + 2, none⟩) hb1).trans (Hc.out 2 (by decide))
      have e3_2 : w2.cell? ⟨b, o + q * 6 + 3, none⟩ = some (.slice a3 0 c3) := (Hbel2.out.cell (p := ⟨b, o + q * 6 + 3, none⟩) hb1).trans (Hc.out 3 (by decide))
      have e4_2 : w2.cell? ⟨b, o + q * 6 + 4, none⟩ = some (.string (mkT (k + 5 * (q : Int) + 1 + 1 + 1))) := (Hbel2.out.cell (p := ⟨b, o + q * 6 + 4, none⟩) hb1).trans (Hc.out 4 (by decide))
      have e5_2 : w2.cell? ⟨b, o + q * 6 + 5, none⟩ = some (.string (mkT (k + 5 * (q : Int) + 1 + 1 + 1 + 1))) := (Hbel2.out.cell (p := ⟨b, o + q * 6 + 5, none⟩) hb1).trans (Hc.out 5 (by decide))
      go_wp2_with fail
      exact ⟨⟨q + 1, congrArg (Value.int IntKind.i64) (by omega), congrArg (Value.int IntKind.i64) (by omega), by omega, Hbel2.out⟩, by simp [intOf]; omega⟩
    · obtain rfl : q = len := by omega
      go_wp2_with fail
      go_ret
      exact ⟨rfl, hbel⟩

end Go.Proofs.YtbpbebhnledgnaaGreat

namespace Go.Proofs.YtbpbebhnledgnaaGreat
open Go.ChangeShapes Go.WideShapes Go.ChangeAt Go.RowKit

def bINT : ByteArray := ⟨#[73, 78, 84]⟩
def bBOOL : ByteArray := ⟨#[66, 79, 79, 76]⟩
def bCHAR : ByteArray := ⟨#[67, 72, 65, 82]⟩
def baseA : Array Value := #[.int .i64 1, .int .i64 0, .int .i64 (-1), .slice none 0 0, .string ⟨#[]⟩, .string bINT, .int .i64 2, .int .i64 0, .int .i64 (-1), .slice none 0 0, .string ⟨#[]⟩, .string bBOOL, .int .i64 3, .int .i64 0, .int .i64 (-1), .slice none 0 0, .string ⟨#[]⟩, .string bCHAR]
/-- The three types with which every table begins. -/
def baseD : List TypeD := [⟨1, 0, -1, [], ⟨#[]⟩, bINT⟩, ⟨2, 0, -1, [], ⟨#[]⟩, bBOOL⟩, ⟨3, 0, -1, [], ⟨#[]⟩, bCHAR⟩]

theorem base_rows {w : World} {g : Nat} {t : TypeId} (h : Box w g t baseA) : Rows typeS Any w (some ⟨g, 0, none⟩) baseD := fun i hi => by
  have hi3 : i < 3 := hi
  have hn : typeS.n = 6 := rfl
  have key : ∀ (cs : List Value) (d : TypeD), typeAt Any w cs d → (∀ j, j < 6 → baseA[i * 6 + j]? = cs[j]?) → d = baseD[i] → ∃ b o cs, (some ⟨g, 0, none⟩ : Option Addr) = some ⟨b, o, none⟩ ∧ Any b ∧ b < w.heap.size ∧ (∀ j, j < typeS.n → w.cell? ⟨b, o + i * typeS.n + j, none⟩ = cs[j]?) ∧ typeS.At Any w cs baseD[i] := fun cs d h1 h2 h3 =>
    ⟨g, 0, cs, rfl, trivial, h.lt, fun j hj => by rw [hn, Nat.zero_add, h.cell]; exact h2 j hj, h3 ▸ h1⟩
  rcases (show i = 0 ∨ i = 1 ∨ i = 2 by omega) with rfl | rfl | rfl
  · exact key [.int .i64 1, .int .i64 0, .int .i64 (-1), .slice none 0 0, .string ⟨#[]⟩, .string bINT] ⟨1, 0, -1, [], ⟨#[]⟩, bINT⟩ ⟨none, 0, rfl, Rows.nil, Nat.le_refl _⟩ (fun j hj => by match j, hj with | 0, _ | 1, _ | 2, _ | 3, _ | 4, _ | 5, _ => rfl) rfl
  · exact key [.int .i64 2, .int .i64 0, .int .i64 (-1), .slice none 0 0, .string ⟨#[]⟩, .string bBOOL] ⟨2, 0, -1, [], ⟨#[]⟩, bBOOL⟩ ⟨none, 0, rfl, Rows.nil, Nat.le_refl _⟩ (fun j hj => by match j, hj with | 0, _ | 1, _ | 2, _ | 3, _ | 4, _ | 5, _ => rfl) rfl
  · exact key [.int .i64 3, .int .i64 0, .int .i64 (-1), .slice none 0 0, .string ⟨#[]⟩, .string bCHAR] ⟨3, 0, -1, [], ⟨#[]⟩, bCHAR⟩ ⟨none, 0, rfl, Rows.nil, Nat.le_refl _⟩ (fun j hj => by match j, hj with | 0, _ | 1, _ | 2, _ | 3, _ | 4, _ | 5, _ => rfl) rfl

theorem base_wt : ∀ x ∈ baseD, x.wt ≤ 1048576 := by
  intro x hx
  simp only [baseD, List.mem_cons, List.not_mem_nil, or_false] at hx
  rcases hx with rfl | rfl | rfl <;> decide
theorem base_nil : ∀ i, i < 3 → ∃ (a : Option Addr) (c : Nat), baseA[0 + i * 6 + 3]? = some (.slice a 0 c) := by
  intro i hi
  match i, hi with
  | 0, _ | 1, _ | 2, _ => exact ⟨none, 0, rfl⟩

theorem iBaseTypes (w : World) : Calls Tryz.prog 74 #[] w fun e w' => e = .returned (.slice (some ⟨w.heap.size, 0, none⟩) 3 3) ∧ w' = w.alloc (.cells baseA 101) := by
  go_enter Tryz.func74, Tryz.ntmps74
  go_wp2_with fail
  go_ret
  exact ⟨rfl, rfl⟩
theorem sBaseTypes (w : World) : Calls Tryz.prog 142 #[] w fun e w' => e = .returned (.slice (some ⟨w.heap.size, 0, none⟩) 3 3) ∧ w' = w.alloc (.cells baseA 101) := by
  go_enter Tryz.func142, Tryz.ntmps142
  go_wp2_with fail
  go_ret
  exact ⟨rfl, rfl⟩

end Go.Proofs.YtbpbebhnledgnaaGreat
