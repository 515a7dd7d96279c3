
/-
  What is proved: markObjectS of the laws on slices of Object, loosely: it comes back with so much more, and cells keep their kinds. No condition beside what each theorem states.
-/
import Derived.Test.YtjbnabjfeepbeaaMark
import Derived.Test.YtjbnabjfeepbeaaLike
import Derived.Test.YtjbnabjfeepbeaaStObject
import Derived.Test.YtjbnabjfeepbeaaLsParam
import Derived.Deep.QuietTactic
import Derived.BigQuiet
import Derived.StillTailTactics
namespace Go.Proofs.Ytjbnabjfeepbeaa
open Go.ChangeShapes Go.WideShapes Go.ChangeAt Go.RowKit

/-- How many marks one takes. -/
def cntObject (t : ObjectD) : Nat := 5 + (t.fParams.map cntParam).sum
set_option maxRecDepth 100000 in
set_option maxHeartbeats 4000000 in
theorem lLooseObjectS (B : Nat) (w0 : World) (a : Option Addr) (c : Nat) (l : List ObjectD) (k : Int) (w : World) (hl : l.length ≤ 1048576) (hr : Rows objectS (fun b => B ≤ b) w0 a l) (hk : 0 < k) (hk2 : k + ((l.map cntObject).sum : Int) ≤ 1000000000) (hln5 : ∀ x ∈ l, x.fParams.length ≤ 1048576) (hlk : Like B w0 w) (hB0 : B ≤ w0.heap.size) :
    Calls Try.prog 111 #[.slice a l.length c, .int .i64 k] w fun e w' => ∃ k', e = .returned (.int .i64 k') ∧ k' = k + ((l.map cntObject).sum : Int) ∧ Marked B w0 w w' := by
  have Hr := Lib.hid hr
  have Hln5 := Lib.hid hln5
  clear hln5
  have Hlk := Lib.hid hlk
  clear hr hlk
  have hn : objectS.n = 6 := rfl
  go_enter Try.func111, Try.ntmps111
  go_wp2_with fail
  go_loopw [1, 5] (fun z i wr => ∃ (q : Nat) (zz : Int), i = .int .i64 q ∧ z = .int .i64 zz ∧ zz = k + ((wtK cntObject l q : Nat) : Int) ∧ q ≤ l.length ∧ Marked B w0 w wr) (fun _ i _ => l.length - (intOf i).toNat)
  case atStart => exact ⟨0, k, rfl, rfl, by simp [wtK], by omega, Marked.refl Hlk.out⟩
  case round =>
    obtain ⟨q, zz, rfl, rfl, hzz, hq, hm⟩ := hrel
    have Hzz := Lib.hid hzz
    have M0 := Lib.hid hm
    clear hzz hm
    by_cases hlt : q < l.length
    · obtain ⟨b, o, cs, rfl, hB, hb1, hc1, hat⟩ := Hr.out q hlt
      have Hs := Lib.hid (wtK_succ cntObject hlt)
      have hz0 : 0 < zz := by have := Hzz.out; omega
      have hz1 : zz + (cntObject l[q] : Int) ≤ 1000000000 := by have h1 := Hzz.out; have h2 := Hs.out; have h3 := wtK_le cntObject l (q + 1); omega
      rw [show cntObject l[q] = 5 + (l[q].fParams.map cntParam).sum from rfl] at hz1
      obtain ⟨a5, c5, rfl, ⟨r5, hc5⟩⟩ := hat
      have z0 : w0.cell? ⟨b, o + q * 6, none⟩ = some (.string l[q].fName) := hc1 0 (by decide)
      have z1 : w0.cell? ⟨b, o + q * 6 + 1, none⟩ = some (.int .i64 l[q].fKind) := hc1 1 (by decide)
      have z2 : w0.cell? ⟨b, o + q * 6 + 2, none⟩ = some (.int .i64 l[q].fMark) := hc1 2 (by decide)
      have z3 : w0.cell? ⟨b, o + q * 6 + 3, none⟩ = some (.int .i64 l[q].fType) := hc1 3 (by decide)
      have z4 : w0.cell? ⟨b, o + q * 6 + 4, none⟩ = some (.int .i64 l[q].fValue) := hc1 4 (by decide)
      have z5 : w0.cell? ⟨b, o + q * 6 + 5, none⟩ = some (.slice a5 l[q].fParams.length c5) := hc1 5 (by decide)
      have R5 := Lib.hid r5
      have hn5 : l[q].fParams.length ≤ 1048576 := Hln5.out l[q] (List.getElem_mem hlt)
      have Z0 := Lib.hid z0
      clear z0
      have Z1 := Lib.hid z1
      clear z1
      have Z2 := Lib.hid z2
      clear z2
      have Z3 := Lib.hid z3
      clear z3
      have Z4 := Lib.hid z4
      clear z4
      have Z5 := Lib.hid z5
      clear z5
      clear hc1 r5 hc5
      generalize l[q] = t at *
      obtain ⟨x0_0, c0_0, f0_0⟩ := M0.out.like.cellS hB Z0.out
      obtain ⟨x1_0, c1_0, f1_0⟩ := M0.out.like.cellI hB Z1.out
      obtain ⟨x2_0, c2_0, f2_0⟩ := M0.out.like.cellI hB Z2.out
      obtain ⟨x3_0, c3_0, f3_0⟩ := M0.out.like.cellI hB Z3.out
      obtain ⟨x4_0, c4_0, f4_0⟩ := M0.out.like.cellI hB Z4.out
      have c5_0 := M0.out.like.cellL hB Z5.out
      go_wp2_with fail
      refine (lMarkText _ _ (by omega) (by omega)).mono ?_
      rintro e w1 ⟨rfl, hw1⟩
      have M1 := Lib.hid (M0.out.call hB0 hw1)
      clear hw1
      obtain ⟨x0_1, c0_1, f0_1⟩ := M1.out.like.cellS hB Z0.out
      obtain ⟨x1_1, c1_1, f1_1⟩ := M1.out.like.cellI hB Z1.out
      obtain ⟨x2_1, c2_1, f2_1⟩ := M1.out.like.cellI hB Z2.out
      obtain ⟨x3_1, c3_1, f3_1⟩ := M1.out.like.cellI hB Z3.out
      obtain ⟨x4_1, c4_1, f4_1⟩ := M1.out.like.cellI hB Z4.out
      have c5_1 := M1.out.like.cellL hB Z5.out
      have M105 := Lib.hid (((((M1.out.set (u := .string (mkT (zz))) hB Z0.out (kin.str _ _)).set (u := .int .i64 (zz + 1)) hB Z1.out (kin.int _ _ _)).set (u := .int .i64 (zz + 1 + 1)) hB Z2.out (kin.int _ _ _)).set (u := .int .i64 (zz + 1 + 1 + 1)) hB Z3.out (kin.int _ _ _)).set (u := .int .i64 (zz + 1 + 1 + 1 + 1)) hB Z4.out (kin.int _ _ _))
      go_wp2_with fail
      refine (lLooseParamS B w0 a5 c5 t.fParams (zz + 1 + 1 + 1 + 1 + 1) _ hn5 R5.out (by omega) (by omega) M105.out.like hB0).mono ?_
      rintro e w2 ⟨k2, rfl, hk2, hm2⟩
      have Hk2 := Lib.hid hk2
      have hk2a : zz + 1 + 1 + 1 + 1 + 1 ≤ k2 := by omega
      have hk2b : k2 + 0 ≤ 1000000000 := by omega
      have M2 := Lib.hid (M105.out.trans hm2)
      clear hk2 hm2
      obtain ⟨x0_2, c0_2, f0_2⟩ := M2.out.like.cellS hB Z0.out
      obtain ⟨x1_2, c1_2, f1_2⟩ := M2.out.like.cellI hB Z1.out
      obtain ⟨x2_2, c2_2, f2_2⟩ := M2.out.like.cellI hB Z2.out
      obtain ⟨x3_2, c3_2, f3_2⟩ := M2.out.like.cellI hB Z3.out
      obtain ⟨x4_2, c4_2, f4_2⟩ := M2.out.like.cellI hB Z4.out
      have c5_2 := M2.out.like.cellL hB Z5.out
      go_wp2_with fail
      have Me := M2.out
      exact ⟨⟨q + 1, k2, congrArg (Value.int IntKind.i64) (by omega), rfl, by have h1 := Hzz.out; have h2 := Hs.out; have eHk2 := Hk2.out; rw [h2, show cntObject t = 5 + (t.fParams.map cntParam).sum from rfl]; push_cast; omega, by omega, Me⟩, by simp [intOf]; omega⟩
    · obtain rfl : q = l.length := by omega
      have hfin := Hzz.out
      rw [wtK_all] at hfin
      have Hfin := Lib.hid hfin
      clear hfin
      go_wp2_with fail
      go_ret
      exact ⟨zz, rfl, Hfin.out, M0.out⟩

end Go.Proofs.Ytjbnabjfeepbeaa
