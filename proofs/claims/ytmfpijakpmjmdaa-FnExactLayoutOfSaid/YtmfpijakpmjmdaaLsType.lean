
/-
  What is proved: markTypeS of the laws on slices of Type, loosely: it comes back with so much more, and cells keep their kinds. No condition beside what each theorem states.
-/
import Derived.Test.YtmfpijakpmjmdaaMark
import Derived.Test.YtmfpijakpmjmdaaStType
import Derived.Test.YtmfpijakpmjmdaaLsField
import Derived.Deep.QuietTactic
import Derived.BigQuiet
import Derived.StillTailTactics
namespace Go.Proofs.Ytmfpijakpmjmdaa
open Go.ChangeShapes Go.WideShapes Go.ChangeAt Go.RowKit

/-- How many marks one takes. -/
def cntType (t : TypeD) : Nat := 5 + (t.fFields.map cntField).sum
set_option maxRecDepth 100000 in
set_option maxHeartbeats 4000000 in
theorem lLooseTypeS (B : Nat) (w0 : World) (a : Option Addr) (c : Nat) (l : List TypeD) (k : Int) (w : World) (hl : l.length ≤ 1048576) (hr : Rows typeS (fun b => B ≤ b) w0 a l) (hk : 0 < k) (hk2 : k + ((l.map cntType).sum : Int) ≤ 1000000000) (hln3 : ∀ x ∈ l, x.fFields.length ≤ 1048576) (hlk : Like B w0 w) (hB0 : B ≤ w0.heap.size) :
    Calls Try.prog 22 #[.slice a l.length c, .int .i64 k] w fun e w' => ∃ k', e = .returned (.int .i64 k') ∧ k' = k + ((l.map cntType).sum : Int) ∧ Marked B w0 w w' := by
  have Hr := Lib.hid hr
  have Hln3 := Lib.hid hln3
  clear hln3
  have Hlk := Lib.hid hlk
  clear hr hlk
  have hn : typeS.n = 6 := rfl
  go_enter Try.func22, Try.ntmps22
  go_wp2_with fail
  go_loopw [1, 5] (fun z i wr => ∃ (q : Nat) (zz : Int), i = .int .i64 q ∧ z = .int .i64 zz ∧ zz = k + ((wtK cntType l q : Nat) : Int) ∧ q ≤ l.length ∧ Marked B w0 w wr) (fun _ i _ => l.length - (intOf i).toNat)
  case atStart => exact ⟨0, k, rfl, rfl, by simp [wtK], by omega, Marked.refl Hlk.out⟩
  case round =>
    obtain ⟨q, zz, rfl, rfl, hzz, hq, hm⟩ := hrel
    have Hzz := Lib.hid hzz
    have M0 := Lib.hid hm
    clear hzz hm
    by_cases hlt : q < l.length
    · obtain ⟨b, o, cs, rfl, hB, hb1, hc1, hat⟩ := Hr.out q hlt
      have Hs := Lib.hid (wtK_succ cntType hlt)
      have hz0 : 0 < zz := by have := Hzz.out; omega
      have hz1 : zz + (cntType l[q] : Int) ≤ 1000000000 := by have h1 := Hzz.out; have h2 := Hs.out; have h3 := wtK_le cntType l (q + 1); omega
      rw [show cntType l[q] = 5 + (l[q].fFields.map cntField).sum from rfl] at hz1
      obtain ⟨a3, c3, rfl, ⟨r3, hc3⟩⟩ := hat
      have z0 : w0.cell? ⟨b, o + q * 6, none⟩ = some (.int .i64 l[q].fKind) := hc1 0 (by decide)
      have z1 : w0.cell? ⟨b, o + q * 6 + 1, none⟩ = some (.int .i64 l[q].fLong) := hc1 1 (by decide)
      have z2 : w0.cell? ⟨b, o + q * 6 + 2, none⟩ = some (.int .i64 l[q].fBase) := hc1 2 (by decide)
      have z3 : w0.cell? ⟨b, o + q * 6 + 3, none⟩ = some (.slice a3 l[q].fFields.length c3) := hc1 3 (by decide)
      have z4 : w0.cell? ⟨b, o + q * 6 + 4, none⟩ = some (.string l[q].fOwner) := hc1 4 (by decide)
      have z5 : w0.cell? ⟨b, o + q * 6 + 5, none⟩ = some (.string l[q].fName) := hc1 5 (by decide)
      have R3 := Lib.hid r3
      have hn3 : l[q].fFields.length ≤ 1048576 := Hln3.out l[q] (List.getElem_mem hlt)
      have Z0 := Lib.hid z0
      clear z0
      have Z1 := Lib.hid z1
      clear z1
      have Z2 := Lib.hid z2
      clear z2
      have Z3 := Lib.hid z3
      clear z3
      have Z4 := Lib.hid z4
      clear z4
      have Z5 := Lib.hid z5
      clear z5
      clear hc1 r3 hc3
      generalize l[q] = t at *
      obtain ⟨x0_0, c0_0, f0_0⟩ := M0.out.like.cellI hB Z0.out
      obtain ⟨x1_0, c1_0, f1_0⟩ := M0.out.like.cellI hB Z1.out
      obtain ⟨x2_0, c2_0, f2_0⟩ := M0.out.like.cellI hB Z2.out
      have c3_0 := M0.out.like.cellL hB Z3.out
      obtain ⟨x4_0, c4_0, f4_0⟩ := M0.out.like.cellS hB Z4.out
      obtain ⟨x5_0, c5_0, f5_0⟩ := M0.out.like.cellS hB Z5.out
      have M103 := Lib.hid (((M0.out.set (u := .int .i64 (zz)) hB Z0.out (kin.int _ _ _)).set (u := .int .i64 (zz + 1)) hB Z1.out (kin.int _ _ _)).set (u := .int .i64 (zz + 1 + 1)) hB Z2.out (kin.int _ _ _))
      go_wp2_with fail
      refine (lLooseFieldS B w0 a3 c3 t.fFields (zz + 1 + 1 + 1) _ hn3 R3.out (by omega) (by omega) M103.out.like hB0).mono ?_
      rintro e w1 ⟨k1, rfl, hk1, hm1⟩
      have Hk1 := Lib.hid hk1
      have hk1a : zz + 1 + 1 + 1 ≤ k1 := by omega
      have hk1b : k1 + 2 ≤ 1000000000 := by omega
      have M1 := Lib.hid (M103.out.trans hm1)
      clear hk1 hm1
      obtain ⟨x0_1, c0_1, f0_1⟩ := M1.out.like.cellI hB Z0.out
      obtain ⟨x1_1, c1_1, f1_1⟩ := M1.out.like.cellI hB Z1.out
      obtain ⟨x2_1, c2_1, f2_1⟩ := M1.out.like.cellI hB Z2.out
      have c3_1 := M1.out.like.cellL hB Z3.out
      obtain ⟨x4_1, c4_1, f4_1⟩ := M1.out.like.cellS hB Z4.out
      obtain ⟨x5_1, c5_1, f5_1⟩ := M1.out.like.cellS hB Z5.out
      go_wp2_with fail
      refine (lMarkText _ _ (by omega) (by omega)).mono ?_
      rintro e w2 ⟨rfl, hw2⟩
      have M2 := Lib.hid (M1.out.call hB0 hw2)
      clear hw2
      obtain ⟨x0_2, c0_2, f0_2⟩ := M2.out.like.cellI hB Z0.out
      obtain ⟨x1_2, c1_2, f1_2⟩ := M2.out.like.cellI hB Z1.out
      obtain ⟨x2_2, c2_2, f2_2⟩ := M2.out.like.cellI hB Z2.out
      have c3_2 := M2.out.like.cellL hB Z3.out
      obtain ⟨x4_2, c4_2, f4_2⟩ := M2.out.like.cellS hB Z4.out
      obtain ⟨x5_2, c5_2, f5_2⟩ := M2.out.like.cellS hB Z5.out
      have M105 := Lib.hid (M2.out.set (u := .string (mkT (k1))) hB Z4.out (kin.str _ _))
      go_wp2_with fail
      refine (lMarkText _ _ (by omega) (by omega)).mono ?_
      rintro e w3 ⟨rfl, hw3⟩
      have M3 := Lib.hid (M105.out.call hB0 hw3)
      clear hw3
      obtain ⟨x0_3, c0_3, f0_3⟩ := M3.out.like.cellI hB Z0.out
      obtain ⟨x1_3, c1_3, f1_3⟩ := M3.out.like.cellI hB Z1.out
      obtain ⟨x2_3, c2_3, f2_3⟩ := M3.out.like.cellI hB Z2.out
      have c3_3 := M3.out.like.cellL hB Z3.out
      obtain ⟨x4_3, c4_3, f4_3⟩ := M3.out.like.cellS hB Z4.out
      obtain ⟨x5_3, c5_3, f5_3⟩ := M3.out.like.cellS hB Z5.out
      go_wp2_with fail
      have Me := (M3.out.set (u := .string (mkT (k1 + 1))) hB Z5.out (kin.str _ _))
      exact ⟨⟨q + 1, k1 + 1 + 1, congrArg (Value.int IntKind.i64) (by omega), rfl, by have h1 := Hzz.out; have h2 := Hs.out; have eHk1 := Hk1.out; rw [h2, show cntType t = 5 + (t.fFields.map cntField).sum from rfl]; push_cast; omega, by omega, Me⟩, by simp [intOf]; omega⟩
    · obtain rfl : q = l.length := by omega
      have hfin := Hzz.out
      rw [wtK_all] at hfin
      have Hfin := Lib.hid hfin
      clear hfin
      go_wp2_with fail
      go_ret
      exact ⟨zz, rfl, Hfin.out, M0.out⟩

theorem cntField_sum : ∀ l : List FieldD, (l.map cntField).sum = 3 * l.length
  | [] => rfl
  | x :: l => by rw [List.map_cons, List.sum_cons, cntField_sum l, List.length_cons]; unfold cntField; omega
theorem cntType_le : ∀ l : List TypeD, (l.map cntType).sum ≤ 5 * wtL TypeD.wt l
  | [] => by simp [wtL]
  | x :: l => by
    have h1 := cntType_le l
    have h2 : x.fFields.length ≤ x.wt := by unfold TypeD.wt wtL; omega
    unfold wtL at h1 ⊢
    rw [List.map_cons, List.sum_cons, List.map_cons, List.sum_cons, List.length_cons]
    unfold cntType at h1 ⊢
    rw [cntField_sum]
    omega
theorem fields_len {l : List TypeD} (h : ∀ t ∈ l, t.wt ≤ 1048576) : ∀ t ∈ l, t.fFields.length ≤ 1048576 := fun t ht => by
  have := h t ht
  unfold TypeD.wt wtL at this
  omega
end Go.Proofs.Ytmfpijakpmjmdaa
