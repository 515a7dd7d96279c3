
/-
  What is proved: markScope of the laws on a Scope that toScope made, loosely: it comes back with some more, and cells keep their kinds; marks in a row of texts of the call's own. No condition beside what each theorem states.
-/
import Derived.Test.YtjbnabjfeepbeaaOpenScope
import Derived.Test.YtjbnabjfeepbeaaLsString
import Derived.Test.YtjbnabjfeepbeaaLsType
import Derived.Test.YtjbnabjfeepbeaaLsObject
import Derived.Test.YtjbnabjfeepbeaaLsUse
import Derived.Test.YtjbnabjfeepbeaaMkString
namespace Go.Proofs.Ytjbnabjfeepbeaa
open Go.ChangeShapes Go.WideShapes Go.ChangeAt Go.RowKit

theorem cntScStr : ∀ l : List ByteArray, (l.map cntString).sum = l.length
  | [] => rfl
  | x :: l => by rw [List.map_cons, List.sum_cons, cntScStr l, List.length_cons]; unfold cntString; omega
theorem cntScField : ∀ l : List FieldD, (l.map cntField).sum = 3 * l.length
  | [] => rfl
  | x :: l => by rw [List.map_cons, List.sum_cons, cntScField l, List.length_cons]; unfold cntField; omega
theorem cntScParam : ∀ l : List ParamD, (l.map cntParam).sum = 3 * l.length
  | [] => rfl
  | x :: l => by rw [List.map_cons, List.sum_cons, cntScParam l, List.length_cons]; unfold cntParam; omega
theorem cntScUse : ∀ l : List UseD, (l.map cntUse).sum = 2 * l.length
  | [] => rfl
  | x :: l => by rw [List.map_cons, List.sum_cons, cntScUse l, List.length_cons]; unfold cntUse; omega
theorem cntScType : ∀ l : List TypeD, (l.map cntType).sum ≤ 5 * wtL TypeD.wt l
  | [] => by simp [wtL]
  | x :: l => by
    have h1 := cntScType l
    have h2 : x.fFields.length ≤ x.wt := by unfold TypeD.wt wtL; omega
    unfold wtL at h1 ⊢
    rw [List.map_cons, List.sum_cons, List.map_cons, List.sum_cons, List.length_cons]
    unfold cntType at h1 ⊢
    rw [cntScField]
    omega
theorem cntScObject : ∀ l : List ObjectD, (l.map cntObject).sum ≤ 5 * wtL ObjectD.wt l
  | [] => by simp [wtL]
  | x :: l => by
    have h1 := cntScObject l
    have h2 : x.fParams.length ≤ x.wt := by unfold ObjectD.wt wtL; omega
    unfold wtL at h1 ⊢
    rw [List.map_cons, List.sum_cons, List.map_cons, List.sum_cons, List.length_cons]
    unfold cntObject at h1 ⊢
    rw [cntScParam]
    omega
/-- So many marks a Scope takes at most. -/
structure ScopeCnt (s : ScopeD) : Prop where
  sum : (s.fImports.map cntString).sum + (s.fTypes.map cntType).sum + (s.fObjects.map cntObject).sum + (s.fUses.map cntUse).sum ≤ 5242880
  tf : ∀ x ∈ s.fTypes, x.fFields.length ≤ 1048576
  op : ∀ x ∈ s.fObjects, x.fParams.length ≤ 1048576
theorem ScopeCnt.of {s : ScopeD} (h : s.wt ≤ 1048576) : ScopeCnt s := by
  have K := ScopeK.of h
  unfold ScopeD.wt at h
  have h2 := cntScType s.fTypes
  have h3 := cntScObject s.fObjects
  refine ⟨?_, fun x hx => ?_, fun x hx => ?_⟩
  · rw [cntScStr, cntScUse]
    have h1 : s.fImports.length ≤ wtL ByteArray.size s.fImports := by unfold wtL; omega
    have h4 : s.fUses.length ≤ wtL UseD.wt s.fUses := by unfold wtL; omega
    omega
  · have := K.tw x hx
    unfold TypeD.wt wtL at this
    omega
  · have := K.ow x hx
    unfold ObjectD.wt wtL at this
    omega

theorem Like.aboveM {B : Nat} {w0 w w' : World} (h : Like B w0 w) {E : Nat} (ha : Above E w w') (hE : E ≤ B) : Like B w0 w' := ⟨Nat.le_trans h.size ha.size, fun b h1 h2 => by
  obtain ⟨t, cs, hx, hc⟩ := h.box b h1 h2
  exact ⟨t, cs, hx.above ha (Nat.le_trans hE h1), hc⟩⟩

set_option maxRecDepth 100000 in
set_option maxHeartbeats 4000000 in
theorem lLooseScope (B : Nat) (w0 : World) (s : ScopeD) (a1 a2 a3 a4 : Option Addr) (c1 c2 c3 c4 : Nat) (k : Int) (w : World) (K : ScopeK s) (hc : ScopeCnt s) (hr : ScopeR (fun b => B ≤ b) w0 a1 a2 a3 a4 s) (hk : 0 < k) (hk2 : k ≤ 100000000) (hlk : Like B w0 w) (hB0 : B ≤ w0.heap.size) :
    Calls Try.prog 42 #[.agg (scopeC s a1 a2 a3 a4 c1 c2 c3 c4), .int .i64 k] w fun e w' => ∃ k', e = .returned (.int .i64 k') ∧ k ≤ k' ∧ k' ≤ k + 5242880 ∧ Marked B w0 w w' := by
  have hle : w0.heap.size ≤ w.heap.size := hlk.size
  have X0 := Lib.hid (Box.new w 69 (scopeC s a1 a2 a3 a4 c1 c2 c3 c4))
  have M0 := Lib.hid ((Marked.refl hlk).call hB0 ((Below.refl w.heap.size w).alloc (Nat.le_refl _) (.cells (scopeC s a1 a2 a3 a4 c1 c2 c3 c4) 69)))
  have hS := hc.sum
  obtain ⟨n1, hn1⟩ : ∃ n, (s.fImports.map cntString).sum = n := ⟨_, rfl⟩
  obtain ⟨n2, hn2⟩ : ∃ n, (s.fTypes.map cntType).sum = n := ⟨_, rfl⟩
  obtain ⟨n3, hn3⟩ : ∃ n, (s.fObjects.map cntObject).sum = n := ⟨_, rfl⟩
  obtain ⟨n4, hn4⟩ : ∃ n, (s.fUses.map cntUse).sum = n := ⟨_, rfl⟩
  rw [hn1, hn2, hn3, hn4] at hS
  have N1 := Lib.hid hn1
  have N2 := Lib.hid hn2
  have N3 := Lib.hid hn3
  have N4 := Lib.hid hn4
  clear hn1 hn2 hn3 hn4
  have hT := Lib.hid hc.tf
  have hO := Lib.hid hc.op
  have H := Lib.hid hr
  have K0 := Lib.hid K
  clear hlk hc hr K
  go_enter Try.func42, Try.ntmps42
  obtain ⟨x0, x1, x2, x3, x4⟩ := box5 X0.out
  go_wp2_with fail
  clear x0 x1 x2 x3 x4
  refine (lLooseStringS B w0 a1 c1 s.fImports k _ K0.out.li H.out.imports hk (by rw [N1.out]; omega) M0.out.like hB0).mono ?_
  rintro e w1 ⟨k1, rfl, hk1, hm1⟩
  rw [N1.out] at hk1
  have K1 := Lib.hid hk1
  have k1a : 0 < k1 := by omega
  have k1b : k1 ≤ 105242880 := by omega
  clear hk1
  have M1 := Lib.hid (M0.out.trans hm1)
  have X1 := Lib.hid (X0.out.above hm1.above hle)
  clear hm1
  obtain ⟨x0, x1, x2, x3, x4⟩ := box5 X1.out
  go_wp2_with fail
  clear x0 x1 x2 x3 x4
  refine (lLooseTypeS B w0 a2 c2 s.fTypes k1 _ K0.out.lt H.out.types (by omega) (by rw [N2.out]; omega) hT.out M1.out.like hB0).mono ?_
  rintro e w2 ⟨k2, rfl, hk2', hm2⟩
  rw [N2.out] at hk2'
  have K2 := Lib.hid hk2'
  have k2a : 0 < k2 := by omega
  have k2b : k2 ≤ 110485760 := by omega
  clear hk2'
  have M2 := Lib.hid (M1.out.trans hm2)
  have X2 := Lib.hid (X1.out.above hm2.above hle)
  clear hm2
  obtain ⟨x0, x1, x2, x3, x4⟩ := box5 X2.out
  go_wp2_with fail
  clear x0 x1 x2 x3 x4
  refine (lLooseObjectS B w0 a3 c3 s.fObjects k2 _ K0.out.lo H.out.objects (by omega) (by rw [N3.out]; omega) hO.out M2.out.like hB0).mono ?_
  rintro e w3 ⟨k3, rfl, hk3, hm3⟩
  rw [N3.out] at hk3
  have K3 := Lib.hid hk3
  have k3a : 0 < k3 := by omega
  have k3b : k3 ≤ 115728640 := by omega
  clear hk3
  have M3 := Lib.hid (M2.out.trans hm3)
  have X3 := Lib.hid (X2.out.above hm3.above hle)
  clear hm3
  obtain ⟨x0, x1, x2, x3, x4⟩ := box5 X3.out
  go_wp2_with fail
  clear x0 x1 x2 x3 x4
  refine (lLooseUseS B w0 a4 c4 s.fUses k3 _ K0.out.lu H.out.uses (by omega) (by rw [N4.out]; omega) M3.out.like hB0).mono ?_
  rintro e w4 ⟨k4, rfl, hk4, hm4⟩
  rw [N4.out] at hk4
  have K4 := Lib.hid hk4
  clear hk4
  have M4 := Lib.hid (M3.out.trans hm4)
  clear hm4
  go_wp2_with fail
  go_ret
  have e1 := K1.out
  have e2 := K2.out
  have e3 := K3.out
  have e4 := K4.out
  exact ⟨k4, rfl, by omega, by omega, M4.out⟩

theorem lMarkStrs (B : Nat) (a : Option Addr) (c : Nat) (l : List ByteArray) (k : Int) (w : World) (hown : OwnC w B a (l.map Value.string)) (hB : B ≤ w.heap.size) (hl : l.length ≤ 1048576) (hk : 0 < k) (hk2 : k ≤ 1000000000) :
    Calls Try.prog 43 #[.slice a l.length c, .int .i64 k] w fun e w' => e = .returned (.int .i64 (k + (l.length : Int))) ∧ Rows strS Any w' a (mkStringL l.length k) ∧ Below B w w' := by
  rcases hown with h | ⟨g, t, cur, rfl, h2, h3, h4, _⟩
  · have : l = [] := by simpa using h
    subst this
    refine (lMarkStringS0 a c k w).mono ?_
    rintro e w' ⟨rfl, rfl⟩
    exact ⟨by simp, Rows.nil, Below.refl _ _⟩
  · exact lMarkStringS B g 0 c l.length t cur k w h2 hB hl hk hk2 h3 (by simpa using h4)
theorem rows_of_ownC {w : World} {B : Nat} {a : Option Addr} {l : List ByteArray} (h : OwnC w B a (l.map Value.string)) : Rows strS Any w a l := fun i hi => by
  rcases h with h | ⟨g, t, cur, rfl, h2, h3, h4, h5⟩
  · have : l = [] := by simpa using h
    subst this
    exact absurd hi (by simp)
  · refine ⟨g, 0, [.string l[i]], rfl, trivial, h3.lt, fun j hj => ?_, rfl⟩
    have hn : strS.n = 1 := rfl
    obtain rfl : j = 0 := by omega
    rw [hn, Nat.mul_one, Nat.zero_add, Nat.add_zero, h3.cell, h5 i (by simpa using hi)]
    simp [hi]
end Go.Proofs.Ytjbnabjfeepbeaa
