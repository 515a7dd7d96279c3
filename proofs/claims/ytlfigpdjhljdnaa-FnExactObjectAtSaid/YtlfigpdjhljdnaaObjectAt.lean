
/-
  What is proved: contracts of both ObjectAt. No condition beside what each theorem states.
-/
import Derived.Test.YtlfigpdjhljdnaaOpenScope
namespace Go.Proofs.Ytlfigpdjhljdnaa
open Go.ChangeShapes Go.WideShapes Go.ChangeAt Go.RowKit

/-- What ObjectAt tells. -/
def atAns (s : ScopeD) (nm : ByteArray) (r : Int) (b : Bool) : Prop := (¬ scopeP s ∧ r = 0 ∧ b = false) ∨ (scopeP s ∧ ∃ q : Int, isAt s.fObjects nm q ∧ ((q < 0 ∧ r = 0 ∧ b = false) ∨ (¬ q < 0 ∧ r = q ∧ b = true)))
theorem atAns.eq {s : ScopeD} {nm : ByteArray} {r r' : Int} {b b' : Bool} (h : atAns s nm r b) (h' : atAns s nm r' b') : r = r' ∧ b = b' := by
  rcases h with ⟨h, rfl, rfl⟩ | ⟨h, q, hq, h2⟩ <;> rcases h' with ⟨h', rfl, rfl⟩ | ⟨h', q', hq', h2'⟩
  · exact ⟨rfl, rfl⟩
  · exact absurd h' h
  · exact absurd h h'
  · have e := hq.eq hq'
    subst e
    rcases h2 with ⟨g, rfl, rfl⟩ | ⟨g, rfl, rfl⟩ <;> rcases h2' with ⟨g', rfl, rfl⟩ | ⟨g', rfl, rfl⟩
    · exact ⟨rfl, rfl⟩
    · exact absurd g g'
    · exact absurd g' g
    · exact ⟨rfl, rfl⟩

set_option maxRecDepth 100000 in
set_option maxHeartbeats 8000000 in
theorem sObjectAt (s : ScopeD) (nm : ByteArray) (a1 a2 a3 a4 : Option Addr) (c1 c2 c3 c4 : Nat) (w : World) (hm : ScopeM w a1 a2 a3 a4 c1 c2 c3 c4 s) :
    Calls Try.prog 24 #[.agg (scopeC s a1 a2 a3 a4 c1 c2 c3 c4), .string nm] w fun e w' => ∃ (r : Int) (b : Bool), e = .returned (.tuple #[.int .i64 r, .bool b]) ∧ atAns s nm r b ∧ Below w.heap.size w w' := by
  have B0 := Lib.hid ((Below.refl w.heap.size w).alloc (Nat.le_refl _) (.cells (scopeC s a1 a2 a3 a4 c1 c2 c3 c4) 59))
  have X0 := Lib.hid (scope_box w s a1 a2 a3 a4 c1 c2 c3 c4)
  have H := Lib.hid hm
  have hg := sl4Good s a1 a2 a3 a4 c1 c2 c3 c4 _ (hm.below B0.out)
  clear hm
  go_enter Try.func24, Try.ntmps24
  by_cases p1 : scopeP s
  · rw [scopeB_true p1] at hg
    have Hg := Lib.hid hg
    have P1 := Lib.hid p1
    clear hg p1
    go_wp2_with fail
    refine Hg.out.mono ?_
    rintro e w1 ⟨rfl, hb1⟩
    have B1 := Lib.hid (B0.out.trans (hb1.mono B0.out.size))
    have X1 := Lib.hid (X0.out.below hb1 X0.out.lt)
    clear hb1 Hg
    obtain ⟨x0, x1, x2, x3, x4⟩ := box5 X1.out
    go_wp2_with fail
    clear x0 x1 x2 x3 x4
    refine (sl4At s nm a1 a2 a3 a4 c1 c2 c3 c4 w1 H.out.lo (H.out.r.objects.below B1.out)).mono ?_
    rintro e w2 ⟨q, rfl, hat, hb2⟩
    have B2 := Lib.hid (B1.out.trans (hb2.mono B1.out.size))
    have X2 := Lib.hid (X1.out.below hb2 X1.out.lt)
    have Hat := Lib.hid hat
    clear hb2 hat
    obtain ⟨x0, x1, x2, x3, x4⟩ := box5 X2.out
    by_cases p2 : q < 0
    · have Hv := Lib.hid (show atAns s nm 0 false from .inr ⟨P1.out, q, Hat.out, .inl ⟨p2, rfl, rfl⟩⟩)
      go_wp2_with fail
      go_ret2
      exact ⟨_, _, rfl, Hv.out, B2.out⟩
    · have Hv := Lib.hid (show atAns s nm q true from .inr ⟨P1.out, q, Hat.out, .inr ⟨p2, rfl, rfl⟩⟩)
      go_wp2_with fail
      clear x0 x1 x2 x3 x4
      refine (sl4At s nm a1 a2 a3 a4 c1 c2 c3 c4 w2 H.out.lo (H.out.r.objects.below B2.out)).mono ?_
      rintro e w3 ⟨q', rfl, hat, hb3⟩
      obtain rfl := Hat.out.eq hat
      have B3 := Lib.hid (B2.out.trans (hb3.mono B2.out.size))
      clear hb3 hat
      go_wp2_with fail
      go_ret2
      exact ⟨_, _, rfl, Hv.out, B3.out⟩
  · have Hv := Lib.hid (show atAns s nm 0 false from .inl ⟨p1, rfl, rfl⟩)
    rw [scopeB_false p1] at hg
    have Hg := Lib.hid hg
    clear hg p1
    go_wp2_with fail
    refine Hg.out.mono ?_
    rintro e w1 ⟨rfl, hb1⟩
    have B1 := Lib.hid (B0.out.trans (hb1.mono B0.out.size))
    clear hb1
    go_wp2_with fail
    go_ret2
    exact ⟨_, _, rfl, Hv.out, B1.out⟩

set_option maxRecDepth 100000 in
set_option maxHeartbeats 4000000 in
theorem iObjClo (t : ObjectD) (pa : Option Addr) (pc : Nat) (nm : ByteArray) (g : Nat) (q : Bool) (w : World) (hg : Box w g 9 #[.string nm]) (hq : (t.fName.toList == nm.toList) = q) :
    Calls Try.prog 122 #[.agg (objC t pa pc), .pointer (some ⟨g, 0, none⟩)] w fun e w' => e = .returned (.bool q) ∧ Below w.heap.size w w' := by
  have B0 := Lib.hid ((Below.refl w.heap.size w).alloc (Nat.le_refl _) (.cells (objC t pa pc) 69))
  have x0 : _ = some (Value.string t.fName) := (Box.new w 69 (objC t pa pc)).cell 0
  have g0 : _ = some (Value.string nm) := (hg.below B0.out hg.lt).cell 0
  clear hg
  go_enter Try.func122, Try.ntmps122
  go_wp2_with fail
  go_ret
  exact ⟨rfl, B0.out⟩

set_option maxRecDepth 100000 in
set_option maxHeartbeats 8000000 in
theorem iIndexObj (a : Option Addr) (c : Nat) (l : List ObjectD) (nm : ByteArray) (g : Nat) (w : World) (hl : l.length ≤ 1048576) (hr : Rows objectS Any w a l) (hg : Box w g 9 #[.string nm]) :
    Calls Try.prog 121 #[.slice a l.length c, .func (.func 122) #[] #[.pointer (some ⟨g, 0, none⟩)]] w fun e w' => ∃ r : Int, e = .returned (.int .i64 r) ∧ isAt l nm r ∧ Below w.heap.size w w' := by
  have Hr := Lib.hid hr
  have G := Lib.hid hg
  clear hr hg
  go_enter Try.func121, Try.ntmps121
  go_wp2_with fail
  go_loopw [8] (fun i wr => ∃ k : Nat, i = .int .i64 k ∧ k ≤ l.length ∧ (∀ i (hi : i < l.length), i < k → l[i].fName ≠ nm) ∧ Below w.heap.size w wr) (fun i _ => l.length - (intOf i).toNat)
  case atStart => exact ⟨0, rfl, by omega, fun _ _ h => absurd h (by omega), Below.refl _ _⟩
  case round =>
    obtain ⟨k, rfl, hk, hno, hbel⟩ := hrel
    have Hno := Lib.hid hno
    have Hbel := Lib.hid hbel
    clear hno
    obtain ⟨wo, hwo⟩ : ∃ x, x = wr := ⟨_, rfl⟩
    subst hwo
    by_cases hlt : k < l.length
    · obtain ⟨b, o, pa, pc, hba, hb1, _, e0, e1, e2, e3, e4, e5⟩ := object_at Hr.out hlt hbel
      subst hba
      have G2 := Lib.hid (G.out.below hbel G.out.lt)
      have Hyes := Lib.hid (show l[k].fName = nm → isAt l nm (k : Int) from fun h => .inr ⟨k, rfl, hlt, h, Hno.out⟩)
      have Hnx := Lib.hid (show l[k].fName ≠ nm → ∀ i (hi : i < l.length), i < k + 1 → l[i].fName ≠ nm from fun h i hi hik => by
        by_cases e : i = k
        · subst e; exact h
        · exact Hno.out i hi (by omega))
      clear hbel
      generalize l[k] = t at *
      by_cases hnm : t.fName = nm
      · have hq := bytes_same t.fName nm true (by simp [hnm])
        have Hv := Lib.hid (Hyes.out hnm)
        have Hq := Lib.hid hq
        clear hnm hq
        go_wp2_with fail
        refine (iObjClo t pa pc nm g true _ G2.out Hq.out).mono ?_
        rintro e w1 ⟨rfl, hb⟩
        have B1 := Lib.hid (Hbel.out.trans (hb.mono Hbel.out.size))
        clear hb
        go_wp2_with fail
        go_ret
        exact ⟨_, rfl, Hv.out, B1.out⟩
      · have hq := bytes_same t.fName nm false (by simp [hnm])
        have Hv := Lib.hid (Hnx.out hnm)
        have Hq := Lib.hid hq
        clear hnm hq
        go_wp2_with fail
        refine (iObjClo t pa pc nm g false _ G2.out Hq.out).mono ?_
        rintro e w1 ⟨rfl, hb⟩
        have B1 := Lib.hid (Hbel.out.trans (hb.mono Hbel.out.size))
        clear hb
        go_wp2_with fail
        exact ⟨⟨k + 1, by congr 1, by omega, Hv.out, B1.out⟩, by simp [intOf]; omega⟩
    · have hkf : k = l.length := by omega
      clear hbel
      go_wp2_with fail
      go_ret
      exact ⟨_, rfl, .inl ⟨rfl, fun i hi => Hno.out i hi (by omega)⟩, Hbel.out⟩

set_option maxRecDepth 100000 in
set_option maxHeartbeats 4000000 in
theorem iObjNumOf (s : ScopeD) (nm : ByteArray) (a1 a2 a3 a4 : Option Addr) (c1 c2 c3 c4 : Nat) (w : World) (hl : s.fObjects.length ≤ 1048576) (hr : Rows objectS Any w a3 s.fObjects) :
    Calls Try.prog 73 #[.agg (scopeC s a1 a2 a3 a4 c1 c2 c3 c4), .string nm] w fun e w' => ∃ r : Int, e = .returned (.int .i64 r) ∧ isAt s.fObjects nm r ∧ Below w.heap.size w w' := by
  have B0 := Lib.hid (((Below.refl w.heap.size w).alloc (Nat.le_refl _) (.cells (scopeC s a1 a2 a3 a4 c1 c2 c3 c4) 59)).alloc (by simp) (.cells #[.string nm] 9))
  have Hi := Lib.hid (iIndexObj a3 c3 s.fObjects nm (w.heap.size + 1) _ hl (hr.below B0.out) (Box.new' _ _ _ (by simp)))
  clear hr
  go_enter Try.func73, Try.ntmps73
  go_wp2_with fail
  refine Hi.out.mono ?_
  rintro e w1 ⟨r, rfl, hat, hb1⟩
  have B1 := Lib.hid (B0.out.trans (hb1.mono B0.out.size))
  have Hat := Lib.hid hat
  clear hat hb1
  go_wp2_with fail
  go_ret
  exact ⟨_, rfl, Hat.out, B1.out⟩

set_option maxRecDepth 100000 in
set_option maxHeartbeats 8000000 in
theorem iObjectAt (s : ScopeD) (nm : ByteArray) (a1 a2 a3 a4 : Option Addr) (c1 c2 c3 c4 : Nat) (w : World) (hm : ScopeM w a1 a2 a3 a4 c1 c2 c3 c4 s) :
    Calls Try.prog 26 #[.agg (scopeC s a1 a2 a3 a4 c1 c2 c3 c4), .string nm] w fun e w' => ∃ (r : Int) (b : Bool), e = .returned (.tuple #[.int .i64 r, .bool b]) ∧ atAns s nm r b ∧ Below w.heap.size w w' := by
  have B0 := Lib.hid ((Below.refl w.heap.size w).alloc (Nat.le_refl _) (.cells (scopeC s a1 a2 a3 a4 c1 c2 c3 c4) 59))
  have X0 := Lib.hid (scope_box w s a1 a2 a3 a4 c1 c2 c3 c4)
  have H := Lib.hid hm
  have hlo := hm.lo
  have hg := iGoodScope s a1 a2 a3 a4 c1 c2 c3 c4 _ (hm.below B0.out)
  clear hm
  go_enter Try.func26, Try.ntmps26
  by_cases p1 : scopeP s
  · rw [scopeB_true p1] at hg
    have Hg := Lib.hid hg
    have P1 := Lib.hid p1
    clear hg p1
    go_wp2_with fail
    refine Hg.out.mono ?_
    rintro e w1 ⟨rfl, hb1⟩
    have B1 := Lib.hid (B0.out.trans (hb1.mono B0.out.size))
    have X1 := Lib.hid (X0.out.below hb1 X0.out.lt)
    clear hb1 Hg
    obtain ⟨x0, x1, x2, x3, x4⟩ := box5 X1.out
    go_wp2_with fail
    clear x0 x1 x2 x3 x4
    refine (iObjNumOf s nm a1 a2 a3 a4 c1 c2 c3 c4 w1 hlo (H.out.r.objects.below B1.out)).mono ?_
    rintro e w2 ⟨q, rfl, hat, hb2⟩
    have B2 := Lib.hid (B1.out.trans (hb2.mono B1.out.size))
    have Hat := Lib.hid hat
    clear hb2 hat
    by_cases p2 : q < 0
    · have Hv := Lib.hid (show atAns s nm 0 false from .inr ⟨P1.out, q, Hat.out, .inl ⟨p2, rfl, rfl⟩⟩)
      go_wp2_with fail
      go_ret2
      exact ⟨_, _, rfl, Hv.out, B2.out⟩
    · have Hv := Lib.hid (show atAns s nm q true from .inr ⟨P1.out, q, Hat.out, .inr ⟨p2, rfl, rfl⟩⟩)
      go_wp2_with fail
      go_ret2
      exact ⟨_, _, rfl, Hv.out, B2.out⟩
  · have Hv := Lib.hid (show atAns s nm 0 false from .inl ⟨p1, rfl, rfl⟩)
    rw [scopeB_false p1] at hg
    have Hg := Lib.hid hg
    clear hg p1
    go_wp2_with fail
    refine Hg.out.mono ?_
    rintro e w1 ⟨rfl, hb1⟩
    have B1 := Lib.hid (B0.out.trans (hb1.mono B0.out.size))
    clear hb1
    go_wp2_with fail
    go_ret2
    exact ⟨_, _, rfl, Hv.out, B1.out⟩
end Go.Proofs.Ytlfigpdjhljdnaa
