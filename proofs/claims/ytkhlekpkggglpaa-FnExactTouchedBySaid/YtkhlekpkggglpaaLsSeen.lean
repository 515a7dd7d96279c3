
/-
  What is proved: markSeenS of the laws on slices of Seen, loosely: it comes back with so much more, and cells keep their kinds. No condition beside what each theorem states.
-/
import Derived.Test.YtkhlekpkggglpaaMark
import Derived.Test.YtkhlekpkggglpaaStSeen
import Derived.Deep.QuietTactic
import Derived.BigQuiet
import Derived.StillTailTactics
namespace Go.Proofs.Ytkhlekpkggglpaa
open Go.ChangeShapes Go.WideShapes Go.ChangeAt Go.RowKit

/-- How many marks one takes. -/
def cntSeen (_ : SeenD) : Nat := 3
set_option maxRecDepth 100000 in
set_option maxHeartbeats 4000000 in
theorem lLooseSeenS (B : Nat) (w0 : World) (a : Option Addr) (c : Nat) (l : List SeenD) (k : Int) (w : World) (hl : l.length ≤ 1048576) (hr : Rows seenS (fun b => B ≤ b) w0 a l) (hk : 0 < k) (hk2 : k + ((l.map cntSeen).sum : Int) ≤ 1000000000) (hlk : Like B w0 w) (hB0 : B ≤ w0.heap.size) :
    Calls Try.prog 15 #[.slice a l.length c, .int .i64 k] w fun e w' => ∃ k', e = .returned (.int .i64 k') ∧ k' = k + ((l.map cntSeen).sum : Int) ∧ Marked B w0 w w' := by
  have Hr := Lib.hid hr
  have Hlk := Lib.hid hlk
  clear hr hlk
  have hn : seenS.n = 3 := rfl
  go_enter Try.func15, Try.ntmps15
  go_wp2_with fail
  go_loopw [1, 5] (fun z i wr => ∃ (q : Nat) (zz : Int), i = .int .i64 q ∧ z = .int .i64 zz ∧ zz = k + ((wtK cntSeen l q : Nat) : Int) ∧ q ≤ l.length ∧ Marked B w0 w wr) (fun _ i _ => l.length - (intOf i).toNat)
  case atStart => exact ⟨0, k, rfl, rfl, by simp [wtK], by omega, Marked.refl Hlk.out⟩
  case round =>
    obtain ⟨q, zz, rfl, rfl, hzz, hq, hm⟩ := hrel
    have Hzz := Lib.hid hzz
    have M0 := Lib.hid hm
    clear hzz hm
    by_cases hlt : q < l.length
    · obtain ⟨b, o, cs, rfl, hB, hb1, hc1, hat⟩ := Hr.out q hlt
      have Hs := Lib.hid (wtK_succ cntSeen hlt)
      have hz0 : 0 < zz := by have := Hzz.out; omega
      have hz1 : zz + (cntSeen l[q] : Int) ≤ 1000000000 := by have h1 := Hzz.out; have h2 := Hs.out; have h3 := wtK_le cntSeen l (q + 1); omega
      rw [show cntSeen l[q] = 3 from rfl] at hz1
      obtain rfl : cs = [.string l[q].fMod, .string l[q].fName, .int .i64 l[q].fSum] := hat
      have z0 : w0.cell? ⟨b, o + q * 3, none⟩ = some (.string l[q].fMod) := hc1 0 (by decide)
      have z1 : w0.cell? ⟨b, o + q * 3 + 1, none⟩ = some (.string l[q].fName) := hc1 1 (by decide)
      have z2 : w0.cell? ⟨b, o + q * 3 + 2, none⟩ = some (.int .i64 l[q].fSum) := hc1 2 (by decide)
      have Z0 := Lib.hid z0
      clear z0
      have Z1 := Lib.hid z1
      clear z1
      have Z2 := Lib.hid z2
      clear z2
      clear hc1
      generalize l[q] = t at *
      obtain ⟨x0_0, c0_0, f0_0⟩ := M0.out.like.cellS hB Z0.out
      obtain ⟨x1_0, c1_0, f1_0⟩ := M0.out.like.cellS hB Z1.out
      obtain ⟨x2_0, c2_0, f2_0⟩ := M0.out.like.cellI hB Z2.out
      go_wp2_with fail
      refine (lMarkText _ _ (by omega) (by omega)).mono ?_
      rintro e w1 ⟨rfl, hw1⟩
      have M1 := Lib.hid (M0.out.call hB0 hw1)
      clear hw1
      obtain ⟨x0_1, c0_1, f0_1⟩ := M1.out.like.cellS hB Z0.out
      obtain ⟨x1_1, c1_1, f1_1⟩ := M1.out.like.cellS hB Z1.out
      obtain ⟨x2_1, c2_1, f2_1⟩ := M1.out.like.cellI hB Z2.out
      have M101 := Lib.hid (M1.out.set (u := .string (mkT (zz))) hB Z0.out (kin.str _ _))
      go_wp2_with fail
      refine (lMarkText _ _ (by omega) (by omega)).mono ?_
      rintro e w2 ⟨rfl, hw2⟩
      have M2 := Lib.hid (M101.out.call hB0 hw2)
      clear hw2
      obtain ⟨x0_2, c0_2, f0_2⟩ := M2.out.like.cellS hB Z0.out
      obtain ⟨x1_2, c1_2, f1_2⟩ := M2.out.like.cellS hB Z1.out
      obtain ⟨x2_2, c2_2, f2_2⟩ := M2.out.like.cellI hB Z2.out
      go_wp2_with fail
      have Me := ((M2.out.set (u := .string (mkT (zz + 1))) hB Z1.out (kin.str _ _)).set (u := .int .i64 (zz + 1 + 1)) hB Z2.out (kin.int _ _ _))
      exact ⟨⟨q + 1, zz + 1 + 1 + 1, congrArg (Value.int IntKind.i64) (by omega), rfl, by have h1 := Hzz.out; have h2 := Hs.out; rw [h2, show cntSeen t = 3 from rfl]; push_cast; omega, by omega, Me⟩, by simp [intOf]; omega⟩
    · obtain rfl : q = l.length := by omega
      have hfin := Hzz.out
      rw [wtK_all] at hfin
      have Hfin := Lib.hid hfin
      clear hfin
      go_wp2_with fail
      go_ret
      exact ⟨zz, rfl, Hfin.out, M0.out⟩

end Go.Proofs.Ytkhlekpkggglpaa
