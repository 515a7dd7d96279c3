
/-
  What is proved: contracts of markStringS and heldStringS of the laws: marks are written into a row of the call's own, and are found there. No condition beside what each theorem states.
-/
import Derived.Test.YtkhlekpkggglpaaMark
import Derived.Test.YtkhlekpkggglpaaMem
import Derived.Deep.QuietTactic
import Derived.BigQuiet
import Derived.StillTailTactics
import Derived.Deep.RegionHeld3
namespace Go.Proofs.Ytkhlekpkggglpaa
open Go.ChangeShapes Go.WideShapes Go.ChangeAt Go.RowKit

/-- A marked one. -/
def mkString (k : Int) : ByteArray := mkT (k)
def mkStringL (len : Nat) (k : Int) : List ByteArray := (List.range len).map fun (i : Nat) => mkString (k + (i : Int))
theorem mkStringL_len (len : Nat) (k : Int) : (mkStringL len k).length = len := by simp [mkStringL]
theorem mkStringL_at {len : Nat} {k : Int} {i : Nat} (h : i < (mkStringL len k).length) : (mkStringL len k)[i] = mkString (k + (i : Int)) := by simp [mkStringL]

theorem lMarkStringS0 (a : Option Addr) (c : Nat) (k : Int) (w : World) : Calls Try.prog 17 #[.slice a 0 c, .int .i64 k] w fun e w' => e = .returned (.int .i64 k) ∧ w' = w := by
  go_enter Try.func17, Try.ntmps17
  go_wp2_with fail
  go_loopw [1, 5] (fun z i wr => z = .int .i64 k ∧ i = .int .i64 0 ∧ wr = w) (fun _ _ _ => 0)
  case atStart => exact ⟨rfl, rfl, rfl⟩
  case round =>
    obtain ⟨rfl, rfl, rfl⟩ := hrel
    go_wp2_with fail
    go_ret
    exact ⟨rfl, rfl⟩

set_option maxRecDepth 100000 in
set_option maxHeartbeats 4000000 in
theorem lMarkStringS (B g o c len : Nat) (t : TypeId) (arr : Array Value) (k : Int) (w : World) (hB : B ≤ g) (hBw : B ≤ w.heap.size) (hlen : len ≤ 1048576) (hk : 0 < k) (hk2 : k ≤ 1000000000) (hb : Box w g t arr) (hs : o + len * 1 ≤ arr.size) :
    Calls Try.prog 17 #[.slice (some ⟨g, o, none⟩) len c, .int .i64 k] w fun e w' => e = .returned (.int .i64 (k + (len : Int))) ∧ Rows strS Any w' (some ⟨g, o, none⟩) (mkStringL len k) ∧ Below B w w' := by
  have hL := mkStringL_len len k
  have HL := Lib.hid (fun i (h : i < (mkStringL len k).length) => mkStringL_at h)
  have Hst := Lib.hid (fun W arr arr' i cs => FilledO.step (S := strS) (Q := Nowhere) (w := W) (arr := arr) (arr' := arr') (o := o) (l := mkStringL len k) (k := i) (cs := cs))
  have hn : strS.n = 1 := rfl
  have Hb := Lib.hid hb
  clear hb
  generalize mkStringL len k = ml at *
  go_enter Try.func17, Try.ntmps17
  go_wp2_with fail
  go_loopw [1, 5] (fun z i wr => ∃ (q : Nat) (arr' : Array Value), i = .int .i64 q ∧ z = .int .i64 (k + (q : Int)) ∧ q ≤ len ∧ Box wr g t arr' ∧ arr'.size = arr.size ∧ FilledO strS Nowhere wr arr' o ml q ∧ Below B w wr) (fun _ i _ => len - (intOf i).toNat)
  case atStart => exact ⟨0, arr, rfl, by simp, by omega, Hb.out, rfl, FilledO.zero, Below.refl _ _⟩
  case round =>
    obtain ⟨q, arr1, rfl, rfl, hq, hb, hsz, hf, hbel⟩ := hrel
    by_cases hlt : q < len
    · have Hbb := Lib.hid hb
      have Hf := Lib.hid hf
      have Hbel := Lib.hid hbel
      have hq1 : q * 1 + 1 ≤ len * 1 := by omega
      have fr := hb.free
      obtain ⟨x0, c0⟩ := hb.some (i := o + q) (by omega)
      have e0 := HL.out q (by omega)
      clear hb hf hbel
      have hBr : B ≤ wr.heap.size := Nat.le_trans hBw Hbel.out.size
      go_wp2_with fail
      refine (lMarkText _ _ (by omega) (by omega)).mono ?_
      rintro e w1 ⟨rfl, hw1⟩
      have hb1 := (Hbb.out).below hw1 (Box.lt (Hbb.out))
      have Bel1 := Lib.hid (((Below.refl B wr)).trans (hw1.mono (Nat.le_trans hBr ((Below.refl B wr)).size)))
      have fr1 := hb1.free
      obtain ⟨x0_1, c0_1⟩ := hb1.some (i := o + q) (by first | omega | (simp; omega))
      have Hb1 := Lib.hid hb1
      clear hb1 hw1
      go_wp2_with fail
      have hbx := (Hb1.out).set (o + q) (.string (mkT (k + (q : Int))))
      have hbe := (Bel1.out).setCell (p := ⟨g, (o + q), none⟩) hB (.string (mkT (k + (q : Int))))
      have hs2 : (((arr1).setIfInBounds (o + q) (.string (mkT (k + (q : Int)))))).size = arr1.size := by simp
      have hn0 : (((arr1).setIfInBounds (o + q) (.string (mkT (k + (q : Int))))))[o + q]? = some (.string (mkT (k + (q : Int)))) := by
        rw [set_there (by first | omega | (simp; omega))]
      have ho : ∀ x, x < o + q → (((arr1).setIfInBounds (o + q) (.string (mkT (k + (q : Int))))))[x]? = arr1[x]? := fun x hx => by
        rw [set_else (by omega)]
      have hfin := Hst.out _ arr1 (((arr1).setIfInBounds (o + q) (.string (mkT (k + (q : Int)))))) q [.string (mkT (k + (q : Int)))] (by omega) (Hf.out.keep (fun _ h _ => h.elim) hbe.size) (by rw [e0]; rfl) (fun x hx => ho x (by rw [hn, Nat.mul_one] at hx; exact hx)) (fun j hj => by
        match j, hj with
        | 0, _ => rw [hn, Nat.mul_one]; exact hn0
        | j + 1, hj => exact absurd hj (by rw [hn]; omega))
      exact ⟨⟨q + 1, _, congrArg (Value.int IntKind.i64) (by omega), congrArg (Value.int IntKind.i64) (by omega), by omega, hbx, by rw [hs2]; exact hsz, hfin, Hbel.out.trans hbe⟩, by simp [intOf]; omega⟩
    · obtain rfl : q = len := by omega
      have Hb2 := Lib.hid hb
      have Hf2 := Lib.hid hf
      have Hbel := Lib.hid hbel
      clear hb hf hbel
      go_wp2_with fail
      go_ret
      refine ⟨rfl, FilledO.rows (t := t) (arr := arr1) ?_ Hb2.out trivial, Hbel.out⟩
      intro i hi _
      obtain ⟨cs, h1, h2⟩ := Hf2.out i hi (by omega)
      exact ⟨cs, Shape.mono _ h1 (fun _ h _ => h.elim), h2⟩

theorem lHeldStringS0 (a : Option Addr) (c : Nat) (k : Int) (w : World) : Calls Try.prog 18 #[.slice a 0 c, .int .i64 k] w fun e w' => e = .returned (.int .i64 k) ∧ w' = w := by
  go_enter Try.func18, Try.ntmps18
  go_wp2_with fail
  go_loopw [1, 5] (fun z i wr => z = .int .i64 k ∧ i = .int .i64 0 ∧ wr = w) (fun _ _ _ => 0)
  case atStart => exact ⟨rfl, rfl, rfl⟩
  case round =>
    obtain ⟨rfl, rfl, rfl⟩ := hrel
    go_wp2_with fail
    go_ret
    exact ⟨rfl, rfl⟩

set_option maxRecDepth 100000 in
set_option maxHeartbeats 4000000 in
theorem lHeldStringS (a : Option Addr) (c len : Nat) (k : Int) (w : World) (hlen : len ≤ 1048576) (hk : 0 < k) (hk2 : k ≤ 1000000000) (hr : Rows strS Any w a (mkStringL len k)) :
    Calls Try.prog 18 #[.slice a len c, .int .i64 k] w fun e w' => e = .returned (.int .i64 (k + (len : Int))) ∧ Below w.heap.size w w' := by
  have hL := mkStringL_len len k
  have HL := Lib.hid (fun i (h : i < (mkStringL len k).length) => mkStringL_at h)
  have Hr := Lib.hid hr
  clear hr
  generalize mkStringL len k = ml at *
  go_enter Try.func18, Try.ntmps18
  go_wp2_with fail
  go_loopw [1, 5] (fun z i wr => ∃ q : Nat, i = .int .i64 q ∧ z = .int .i64 (k + (q : Int)) ∧ q ≤ len ∧ Below w.heap.size w wr) (fun _ i _ => len - (intOf i).toNat)
  case atStart => exact ⟨0, rfl, by simp, by omega, Below.refl _ _⟩
  case round =>
    obtain ⟨q, rfl, rfl, hq, hbel⟩ := hrel
    by_cases hlt : q < len
    · obtain ⟨b, o, cs, rfl, _, hb1, hc1, hat⟩ := Hr.out q (by omega)
      rw [HL.out q (by omega)] at hat
      obtain rfl : cs = [.string (mkT (k + (q : Int)))] := hat
      have hn : strS.n = 1 := rfl
      have Hbel0 := Lib.hid hbel
      have Hc := Lib.hid hc1
      have i1 : (0 : Int) ≤ (q : Int) := by omega
      have i2 : (q : Int) < (len : Int) := by omega
      have e0_0 : wr.cell? ⟨b, o + q, none⟩ = some (.string (mkT (k + (q : Int)))) := by have h := (Hbel0.out.cell (p := ⟨b, o + q * 1 + 0, none⟩) hb1).trans (Hc.out 0 (by decide)); rwa [Nat.mul_one, Nat.add_zero] at h
      clear hbel hc1
      have hbl : b < wr.heap.size := Nat.lt_of_lt_of_le hb1 Hbel0.out.size
      go_wp2_with fail
      go_region_held3 (fun w' => w'.cell? ⟨b, o + q, none⟩ = some (.string (mkT (k + (q : Int)))))
        (first
          | go_keep
          | (rw [hw1.cell (by simp; omega)]; assumption))
        (first
          | (go_at_call 40; refine (lMarkText _ _ (by omega) (by omega)).mono ?_; rintro e w1 ⟨rfl, hw1⟩))
      clear hbl
      have Hbel1 := Lib.hid ((belowN Hbel0.out 1).trans (hw1.mono Hbel0.out.size))
      clear hw1 e0_0
      have e0_1 : w1.cell? ⟨b, o + q, none⟩ = some (.string (mkT (k + (q : Int)))) := by have h := (Hbel1.out.cell (p := ⟨b, o + q * 1 + 0, none⟩) hb1).trans (Hc.out 0 (by decide)); rwa [Nat.mul_one, Nat.add_zero] at h
      go_wp2_with fail
      exact ⟨⟨q + 1, congrArg (Value.int IntKind.i64) (by omega), congrArg (Value.int IntKind.i64) (by omega), by omega, Hbel1.out⟩, by simp [intOf]; omega⟩
    · obtain rfl : q = len := by omega
      go_wp2_with fail
      go_ret
      exact ⟨rfl, hbel⟩

end Go.Proofs.Ytkhlekpkggglpaa
