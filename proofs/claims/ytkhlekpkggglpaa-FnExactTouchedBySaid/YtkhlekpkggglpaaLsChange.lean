
/-
  What is proved: markChangeS of the laws on slices of Change, loosely: it comes back with so much more, and cells keep their kinds. No condition beside what each theorem states.
-/
import Derived.Test.YtkhlekpkggglpaaMark
import Derived.Test.YtkhlekpkggglpaaStChange
import Derived.Deep.QuietTactic
import Derived.BigQuiet
import Derived.StillTailTactics
namespace Go.Proofs.Ytkhlekpkggglpaa
open Go.ChangeShapes Go.WideShapes Go.ChangeAt Go.RowKit

/-- How many marks one takes. -/
def cntChange (_ : ChangeD) : Nat := 2
set_option maxRecDepth 100000 in
set_option maxHeartbeats 4000000 in
theorem lLooseChangeS (B : Nat) (w0 : World) (a : Option Addr) (c : Nat) (l : List ChangeD) (k : Int) (w : World) (hl : l.length ≤ 1048576) (hr : Rows changeS (fun b => B ≤ b) w0 a l) (hk : 0 < k) (hk2 : k + ((l.map cntChange).sum : Int) ≤ 1000000000) (hlk : Like B w0 w) (hB0 : B ≤ w0.heap.size) :
    Calls Try.prog 16 #[.slice a l.length c, .int .i64 k] w fun e w' => ∃ k', e = .returned (.int .i64 k') ∧ k' = k + ((l.map cntChange).sum : Int) ∧ Marked B w0 w w' := by
  have Hr := Lib.hid hr
  have Hlk := Lib.hid hlk
  clear hr hlk
  have hn : changeS.n = 2 := rfl
  go_enter Try.func16, Try.ntmps16
  go_wp2_with fail
  go_loopw [1, 5] (fun z i wr => ∃ (q : Nat) (zz : Int), i = .int .i64 q ∧ z = .int .i64 zz ∧ zz = k + ((wtK cntChange l q : Nat) : Int) ∧ q ≤ l.length ∧ Marked B w0 w wr) (fun _ i _ => l.length - (intOf i).toNat)
  case atStart => exact ⟨0, k, rfl, rfl, by simp [wtK], by omega, Marked.refl Hlk.out⟩
  case round =>
    obtain ⟨q, zz, rfl, rfl, hzz, hq, hm⟩ := hrel
    have Hzz := Lib.hid hzz
    have M0 := Lib.hid hm
    clear hzz hm
    by_cases hlt : q < l.length
    · obtain ⟨b, o, cs, rfl, hB, hb1, hc1, hat⟩ := Hr.out q hlt
      have Hs := Lib.hid (wtK_succ cntChange hlt)
      have hz0 : 0 < zz := by have := Hzz.out; omega
      have hz1 : zz + (cntChange l[q] : Int) ≤ 1000000000 := by have h1 := Hzz.out; have h2 := Hs.out; have h3 := wtK_le cntChange l (q + 1); omega
      rw [show cntChange l[q] = 2 from rfl] at hz1
      obtain rfl : cs = [.string l[q].fName, .int .i64 l[q].fKind] := hat
      have z0 : w0.cell? ⟨b, o + q * 2, none⟩ = some (.string l[q].fName) := hc1 0 (by decide)
      have z1 : w0.cell? ⟨b, o + q * 2 + 1, none⟩ = some (.int .i64 l[q].fKind) := hc1 1 (by decide)
      have Z0 := Lib.hid z0
      clear z0
      have Z1 := Lib.hid z1
      clear z1
      clear hc1
      generalize l[q] = t at *
      obtain ⟨x0_0, c0_0, f0_0⟩ := M0.out.like.cellS hB Z0.out
      obtain ⟨x1_0, c1_0, f1_0⟩ := M0.out.like.cellI hB Z1.out
      go_wp2_with fail
      refine (lMarkText _ _ (by omega) (by omega)).mono ?_
      rintro e w1 ⟨rfl, hw1⟩
      have M1 := Lib.hid (M0.out.call hB0 hw1)
      clear hw1
      obtain ⟨x0_1, c0_1, f0_1⟩ := M1.out.like.cellS hB Z0.out
      obtain ⟨x1_1, c1_1, f1_1⟩ := M1.out.like.cellI hB Z1.out
      go_wp2_with fail
      have Me := ((M1.out.set (u := .string (mkT (zz))) hB Z0.out (kin.str _ _)).set (u := .int .i64 (zz + 1)) hB Z1.out (kin.int _ _ _))
      exact ⟨⟨q + 1, zz + 1 + 1, congrArg (Value.int IntKind.i64) (by omega), rfl, by have h1 := Hzz.out; have h2 := Hs.out; rw [h2, show cntChange t = 2 from rfl]; push_cast; omega, by omega, Me⟩, by simp [intOf]; omega⟩
    · obtain rfl : q = l.length := by omega
      have hfin := Hzz.out
      rw [wtK_all] at hfin
      have Hfin := Lib.hid hfin
      clear hfin
      go_wp2_with fail
      go_ret
      exact ⟨zz, rfl, Hfin.out, M0.out⟩

end Go.Proofs.Ytkhlekpkggglpaa
