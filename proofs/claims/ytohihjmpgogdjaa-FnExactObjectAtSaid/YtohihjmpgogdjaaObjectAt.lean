
/-
  What is proved: contracts of both ObjectAt. No condition beside what each theorem states.
-/
import Derived.Test.YtohihjmpgogdjaaOpenScope
namespace Go.Proofs.Ytohihjmpgogdjaa
open Go.ChangeShapes Go.WideShapes Go.ChangeAt Go.RowKit

/-- What ObjectAt tells. -/
def atAns (s : ScopeD) (nm : ByteArray) (r : Int) (b : Bool) : Prop := (¬ scopeP s ∧ r = 0 ∧ b = false) ∨ (scopeP s ∧ ∃ q : Int, isAt s.fObjects nm q ∧ ((q < 0 ∧ r = 0 ∧ b = false) ∨ (¬ q < 0 ∧ r = q ∧ b = true)))
theorem atAns.eq {s : ScopeD} {nm : ByteArray} {r r' : Int} {b b' : Bool} (h : atAns s nm r b) (h' : atAns s nm r' b') : r = r' ∧ b = b' := by
  rcases h with ⟨h, rfl, rfl⟩ | ⟨h, q, hq, h2⟩ <;> rcases h' with ⟨h', rfl, rfl⟩ | ⟨h', q', hq', h2'⟩
  · exact ⟨rfl, rfl⟩
  · exact absurd h' h
  · exact absurd h h'
  · have e := hq.eq hq'
    subst e
    rcases h2 with ⟨g, rfl, rfl⟩ | ⟨g, rfl, rfl⟩ <;> rcases h2' with ⟨g', rfl, rfl⟩ | ⟨g', rfl, rfl⟩
    · exact ⟨rfl, rfl⟩
    · exact absurd g g'
    · exact absurd g' g
    · exact ⟨rfl, rfl⟩

set_option maxRecDepth 100000 in
set_option maxHeartbeats 8000000 in
theorem sObjectAt (s : ScopeD) (nm : ByteArray) (a1 a2 a3 a4 : Option Addr) (c1 c2 c3 c4 : Nat) (w : World) (hm : ScopeM w a1 a2 a3 a4 c1 c2 c3 c4 s) :
    Calls Try.prog 44 #[.agg (scopeC s a1 a2 a3 a4 c1 c2 c3 c4), .string nm] w fun e w' => ∃ (r : Int) (b : Bool), e = .returned (.tuple #[.int .i64 r, .bool b]) ∧ atAns s nm r b ∧ Below w.heap.size w w' := by
  have B0 := Lib.hid ((Below.refl w.heap.size w).alloc (Nat.le_refl _) (.cells (scopeC s a1 a2 a3 a4 c1 c2 c3 c4) 66))
  have X0 := Lib.hid (scope_box w s a1 a2 a3 a4 c1 c2 c3 c4)
  have H := Lib.hid hm
  have hg := sl4Good s a1 a2 a3 a4 c1 c2 c3 c4 _ (hm.below B0.out)
  clear hm
  go_enter Try.func44, Try.ntmps44
  by_cases p1 : scopeP s
  · rw [scopeB_true p1] at hg
    have Hg := Lib.hid hg
    have P1 := Lib.hid p1
    clear hg p1
    go_wp2_with fail
    refine Hg.out.mono ?_
    rintro e w1 ⟨rfl, hb1⟩
    have B1 := Lib.hid (B0.out.trans (hb1.mono B0.out.size))
    have X1 := Lib.hid (X0.out.below hb1 X0.out.lt)
    clear hb1 Hg
    obtain ⟨x0, x1, x2, x3, x4⟩ := box5 X1.out
    go_wp2_with fail
    clear x0 x1 x2 x3 x4
    refine (sl4At s nm a1 a2 a3 a4 c1 c2 c3 c4 w1 H.out.lo (H.out.r.objects.below B1.out)).mono ?_
    rintro e w2 ⟨q, rfl, hat, hb2⟩
    have B2 := Lib.hid (B1.out.trans (hb2.mono B1.out.size))
    have X2 := Lib.hid (X1.out.below hb2 X1.out.lt)
    have Hat := Lib.hid hat
    clear hb2 hat
    obtain ⟨x0, x1, x2, x3, x4⟩ := box5 X2.out
    by_cases p2 : q < 0
    · have Hv := Lib.hid (show atAns s nm 0 false from .inr ⟨P1.out, q, Hat.out, .inl ⟨p2, rfl, rfl⟩⟩)
      go_wp2_with fail
      go_ret2
      exact ⟨_, _, rfl, Hv.out, B2.out⟩
    · have Hv := Lib.hid (show atAns s nm q true from .inr ⟨P1.out, q, Hat.out, .inr ⟨p2, rfl, rfl⟩⟩)
      go_wp2_with fail
      clear x0 x1 x2 x3 x4
      refine (sl4At s nm a1 a2 a3 a4 c1 c2 c3 c4 w2 H.out.lo (H.out.r.objects.below B2.out)).mono ?_
      rintro e w3 ⟨q', rfl, hat, hb3⟩
      obtain rfl := Hat.out.eq hat
      have B3 := Lib.hid (B2.out.trans (hb3.mono B2.out.size))
      clear hb3 hat
      go_wp2_with fail
      go_ret2
      exact ⟨_, _, rfl, Hv.out, B3.out⟩
  · have Hv := Lib.hid (show atAns s nm 0 false from .inl ⟨p1, rfl, rfl⟩)
    rw [scopeB_false p1] at hg
    have Hg := Lib.hid hg
    clear hg p1
    go_wp2_with fail
    refine Hg.out.mono ?_
    rintro e w1 ⟨rfl, hb1⟩
    have B1 := Lib.hid (B0.out.trans (hb1.mono B0.out.size))
    clear hb1
    go_wp2_with fail
    go_ret2
    exact ⟨_, _, rfl, Hv.out, B1.out⟩

set_option maxRecDepth 100000 in
set_option maxHeartbeats 8000000 in
theorem iObjectAt (s : ScopeD) (nm : ByteArray) (a1 a2 a3 a4 : Option Addr) (c1 c2 c3 c4 : Nat) (w : World) (hm : ScopeM w a1 a2 a3 a4 c1 c2 c3 c4 s) :
    Calls Try.prog 45 #[.agg (scopeC s a1 a2 a3 a4 c1 c2 c3 c4), .string nm] w fun e w' => ∃ (r : Int) (b : Bool), e = .returned (.tuple #[.int .i64 r, .bool b]) ∧ atAns s nm r b ∧ Below w.heap.size w w' := by
  have B0 := Lib.hid ((Below.refl w.heap.size w).alloc (Nat.le_refl _) (.cells (scopeC s a1 a2 a3 a4 c1 c2 c3 c4) 66))
  have X0 := Lib.hid (scope_box w s a1 a2 a3 a4 c1 c2 c3 c4)
  have H := Lib.hid hm
  have hlo := hm.lo
  have hg := iGoodScope s a1 a2 a3 a4 c1 c2 c3 c4 _ (hm.below B0.out)
  clear hm
  go_enter Try.func45, Try.ntmps45
  by_cases p1 : scopeP s
  · rw [scopeB_true p1] at hg
    have Hg := Lib.hid hg
    have P1 := Lib.hid p1
    clear hg p1
    go_wp2_with fail
    refine Hg.out.mono ?_
    rintro e w1 ⟨rfl, hb1⟩
    have B1 := Lib.hid (B0.out.trans (hb1.mono B0.out.size))
    have X1 := Lib.hid (X0.out.below hb1 X0.out.lt)
    clear hb1 Hg
    obtain ⟨x0, x1, x2, x3, x4⟩ := box5 X1.out
    go_wp2_with fail
    clear x0 x1 x2 x3 x4
    go_loopw [14] (fun i wr => ∃ k : Nat, i = .int .i64 k ∧ k ≤ s.fObjects.length ∧ (∀ i (hi : i < s.fObjects.length), i < k → s.fObjects[i].fName ≠ nm) ∧ Below w.heap.size w wr) (fun i _ => s.fObjects.length - (intOf i).toNat)
    case atStart => exact ⟨0, rfl, by omega, fun _ _ h => absurd h (by omega), B1.out⟩
    case round =>
      obtain ⟨k, rfl, hk, hno, hbel⟩ := hrel
      have Hno := Lib.hid hno
      clear hno
      by_cases hlt : k < s.fObjects.length
      · obtain ⟨b, o, pa, pc, hba, hb1, _, e0, e1, e2, e3, e4, e5⟩ := object_at H.out.r.objects hlt hbel
        subst hba
        have Hbel := Lib.hid (hbel.alloc hbel.size (.cells (objC s.fObjects[k] pa pc) 124))
        clear hbel
        have Hy := Lib.hid (show s.fObjects[k].fName = nm → atAns s nm (k : Int) true from fun h => .inr ⟨P1.out, k, .inr ⟨k, rfl, hlt, h, Hno.out⟩, .inr ⟨by omega, rfl, rfl⟩⟩)
        have Hn := Lib.hid (show s.fObjects[k].fName ≠ nm → ∀ i (hi : i < s.fObjects.length), i < k + 1 → s.fObjects[i].fName ≠ nm from fun h i hi hik => by
          by_cases e : i = k
          · subst e; exact h
          · exact Hno.out i hi (by omega))
        generalize s.fObjects[k] = t at *
        by_cases hsm : t.fName = nm
        · have Hv := Lib.hid (Hy.out hsm)
          have hb := bytes_same t.fName nm true (by simp [hsm])
          clear hsm
          go_wp2_with fail
          go_ret2
          exact ⟨_, _, rfl, Hv.out, Hbel.out⟩
        · have Hv := Lib.hid (Hn.out hsm)
          have hb := bytes_same t.fName nm false (by simp [hsm])
          clear hsm
          go_wp2_with fail
          exact ⟨⟨k + 1, by congr 1, by omega, Hv.out, Hbel.out⟩, by simp [intOf]; omega⟩
      · have Hv := Lib.hid (show atAns s nm 0 false from .inr ⟨P1.out, -1, .inl ⟨rfl, fun i hi => Hno.out i hi (by omega)⟩, .inl ⟨by omega, rfl, rfl⟩⟩)
        have Hbel := Lib.hid hbel
        clear hbel
        go_wp2_with fail
        go_ret2
        exact ⟨_, _, rfl, Hv.out, Hbel.out⟩
  · have Hv := Lib.hid (show atAns s nm 0 false from .inl ⟨p1, rfl, rfl⟩)
    rw [scopeB_false p1] at hg
    have Hg := Lib.hid hg
    clear hg p1
    go_wp2_with fail
    refine Hg.out.mono ?_
    rintro e w1 ⟨rfl, hb1⟩
    have B1 := Lib.hid (B0.out.trans (hb1.mono B0.out.size))
    clear hb1
    go_wp2_with fail
    go_ret2
    exact ⟨_, _, rfl, Hv.out, B1.out⟩
end Go.Proofs.Ytohihjmpgogdjaa
