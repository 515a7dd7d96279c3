
/-
  What is proved: markIntS of the laws on slices of Int, loosely: it comes back with so much more, and cells keep their kinds. No condition beside what each theorem states.
-/
import Derived.Test.YtfkfhflkcdhhmaaMark
import Derived.Test.YtfkfhflkcdhhmaaLike
import Derived.Test.YtfkfhflkcdhhmaaMem
import Derived.Deep.QuietTactic
import Derived.BigQuiet
import Derived.StillTailTactics
namespace Go.Proofs.Ytfkfhflkcdhhmaa
open Go.ChangeShapes Go.WideShapes Go.ChangeAt Go.RowKit

/-- How many marks one takes. -/
def cntInt (_ : Int) : Nat := 1
set_option maxRecDepth 100000 in
set_option maxHeartbeats 4000000 in
theorem lLooseIntS (B : Nat) (w0 : World) (a : Option Addr) (c : Nat) (l : List Int) (k : Int) (w : World) (hl : l.length ≤ 1048576) (hr : Rows intS (fun b => B ≤ b) w0 a l) (hk : 0 < k) (hk2 : k + ((l.map cntInt).sum : Int) ≤ 1000000000) (hlk : Like B w0 w) (_ : B ≤ w0.heap.size) :
    Calls Try.prog 51 #[.slice a l.length c, .int .i64 k] w fun e w' => ∃ k', e = .returned (.int .i64 k') ∧ k' = k + ((l.map cntInt).sum : Int) ∧ Marked B w0 w w' := by
  have Hr := Lib.hid hr
  have Hlk := Lib.hid hlk
  clear hr hlk
  have hn : intS.n = 1 := rfl
  go_enter Try.func51, Try.ntmps51
  go_wp2_with fail
  go_loopw [1, 5] (fun z i wr => ∃ (q : Nat) (zz : Int), i = .int .i64 q ∧ z = .int .i64 zz ∧ zz = k + ((wtK cntInt l q : Nat) : Int) ∧ q ≤ l.length ∧ Marked B w0 w wr) (fun _ i _ => l.length - (intOf i).toNat)
  case atStart => exact ⟨0, k, rfl, rfl, by simp [wtK], by omega, Marked.refl Hlk.out⟩
  case round =>
    obtain ⟨q, zz, rfl, rfl, hzz, hq, hm⟩ := hrel
    have Hzz := Lib.hid hzz
    have M0 := Lib.hid hm
    clear hzz hm
    by_cases hlt : q < l.length
    · obtain ⟨b, o, cs, rfl, hB, hb1, hc1, hat⟩ := Hr.out q hlt
      have Hs := Lib.hid (wtK_succ cntInt hlt)
      have hz0 : 0 < zz := by have := Hzz.out; omega
      have hz1 : zz + (cntInt l[q] : Int) ≤ 1000000000 := by have h1 := Hzz.out; have h2 := Hs.out; have h3 := wtK_le cntInt l (q + 1); omega
      rw [show cntInt l[q] = 1 from rfl] at hz1
      obtain rfl : cs = [.int .i64 l[q]] := hat
      have z0 : w0.cell? ⟨b, o + q, none⟩ = some (.int .i64 l[q]) := by have := hc1 0 (by decide); rwa [hn, Nat.mul_one, Nat.add_zero] at this
      have Z0 := Lib.hid z0
      clear z0
      clear hc1
      generalize l[q] = t at *
      obtain ⟨x0_0, c0_0, f0_0⟩ := M0.out.like.cellI hB Z0.out
      go_wp2_with fail
      have Me := (M0.out.set (u := .int .i64 (zz)) hB Z0.out (kin.int _ _ _))
      exact ⟨⟨q + 1, zz + 1, congrArg (Value.int IntKind.i64) (by omega), rfl, by have h1 := Hzz.out; have h2 := Hs.out; rw [h2, show cntInt t = 1 from rfl]; push_cast; omega, by omega, Me⟩, by simp [intOf]; omega⟩
    · obtain rfl : q = l.length := by omega
      have hfin := Hzz.out
      rw [wtK_all] at hfin
      have Hfin := Lib.hid hfin
      clear hfin
      go_wp2_with fail
      go_ret
      exact ⟨zz, rfl, Hfin.out, M0.out⟩

end Go.Proofs.Ytfkfhflkcdhhmaa
