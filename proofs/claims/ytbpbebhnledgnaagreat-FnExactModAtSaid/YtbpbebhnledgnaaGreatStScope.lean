
/-
  What is proved: structs Scope in memory: counted, copied, compared. No condition beside what each theorem states.
-/
import Derived.Test.YtbpbebhnledgnaaGreatStrs
import Derived.Test.YtbpbebhnledgnaaGreatStType
import Derived.Test.YtbpbebhnledgnaaGreatStParam
import Derived.Test.YtbpbebhnledgnaaGreatStObject
namespace Go.Proofs.YtbpbebhnledgnaaGreat
open Go.ChangeShapes Go.WideShapes Go.ChangeAt Go.RowKit

/-- Scope as data. -/
structure ScopeD where
  fName : ByteArray
  fImports : List ByteArray
  fTypes : List TypeD
  fObjects : List ObjectD
  fUses : List UseD
def ScopeD.came (s : ScopeD) : Prop := s.fName.size ≤ maxLen ∧ (s.fImports.length ≤ maxLen ∧ ∀ x ∈ s.fImports, x.size ≤ maxLen) ∧ (s.fTypes.length ≤ maxLen ∧ ∀ x ∈ s.fTypes, x.came) ∧ (s.fObjects.length ≤ maxLen ∧ ∀ x ∈ s.fObjects, x.came) ∧ (s.fUses.length ≤ maxLen ∧ ∀ x ∈ s.fUses, x.came)
def ScopeD.wt (s : ScopeD) : Nat := s.fName.size + wtL ByteArray.size s.fImports + wtL TypeD.wt s.fTypes + wtL ObjectD.wt s.fObjects + wtL UseD.wt s.fUses
/-- The lists of a scope lie at their places. -/
structure ScopeR (Q : Nat → Prop) (w : World) (a1 a2 a3 a4 : Option Addr) (s : ScopeD) : Prop where
  imports : Rows strS Q w a1 s.fImports
  types : Rows typeS Q w a2 s.fTypes
  objects : Rows objectS Q w a3 s.fObjects
  uses : Rows useS Q w a4 s.fUses
theorem ScopeR.below {w w' : World} {a1 a2 a3 a4 : Option Addr} {s : ScopeD} (h : ScopeR Any w a1 a2 a3 a4 s) (hb : Below w.heap.size w w') : ScopeR Any w' a1 a2 a3 a4 s := ⟨h.imports.below hb, h.types.below hb, h.objects.below hb, h.uses.below hb⟩
abbrev scopeC (s : ScopeD) (a1 a2 a3 a4 : Option Addr) (c1 c2 c3 c4 : Nat) : Array Value := #[.string s.fName, .slice a1 s.fImports.length c1, .slice a2 s.fTypes.length c2, .slice a3 s.fObjects.length c3, .slice a4 s.fUses.length c4]

set_option maxRecDepth 100000 in
set_option maxHeartbeats 4000000 in
theorem lSzScope (s : ScopeD) (a1 a2 a3 a4 : Option Addr) (c1 c2 c3 c4 : Nat) (w : World) (left : Int) (h0 : 0 ≤ left) (h1 : left ≤ 1048576) (hcm : s.came) (hr : ScopeR Any w a1 a2 a3 a4 s) :
    Calls Tryz.prog 7 #[.agg #[.string s.fName, .slice a1 s.fImports.length c1, .slice a2 s.fTypes.length c2, .slice a3 s.fObjects.length c3, .slice a4 s.fUses.length c4], .int .i64 left] w fun e w' => ∃ r : Int, e = .returned (.int .i64 r) ∧ (r = -1 ∨ (0 ≤ r ∧ r = left - (s.wt : Int))) ∧ Below w.heap.size w w' := by
  obtain ⟨b0, ⟨b1, bb1⟩, ⟨b2, bb2⟩, ⟨b3, bb3⟩, ⟨b4, bb4⟩⟩ := hcm
  unfold maxLen at b0
  have BB1 := Lib.hid bb1
  have BB2 := Lib.hid bb2
  have BB3 := Lib.hid bb3
  have BB4 := Lib.hid bb4
  have Hr := Lib.hid hr
  clear bb1 bb2 bb3 bb4 hr
  have Hw : Hid (∀ r : Int, r = left - (s.fName.size : Int) - ((wtL ByteArray.size s.fImports : Nat) : Int) - ((wtL TypeD.wt s.fTypes : Nat) : Int) - ((wtL ObjectD.wt s.fObjects : Nat) : Int) - ((wtL UseD.wt s.fUses : Nat) : Int) → r = left - (s.wt : Int)) := Lib.hid (by unfold ScopeD.wt; intro r; push_cast; omega)
  have B0 := Lib.hid (show Below w.heap.size w (w.alloc (.cells #[.string s.fName, .slice a1 s.fImports.length c1, .slice a2 s.fTypes.length c2, .slice a3 s.fObjects.length c3, .slice a4 s.fUses.length c4] 27)) from (Below.refl w.heap.size w).alloc (Nat.le_refl _) _)
  have X0 := Lib.hid (Box.new w 27 #[.string s.fName, .slice a1 s.fImports.length c1, .slice a2 s.fTypes.length c2, .slice a3 s.fObjects.length c3, .slice a4 s.fUses.length c4])
  go_enter Tryz.func7, Tryz.ntmps7
  by_cases g0 : left - (s.fName.size : Int) < 0
  · go_wp2_with fail
    go_ret
    exact ⟨-1, rfl, .inl rfl, B0.out⟩
  go_wp2_with fail
  refine (lSzStringS a1 c1 s.fImports _ (left - (s.fName.size : Int)) (by omega) (by omega) b1 BB1.out (Hr.out.imports.below B0.out)).mono ?_
  rintro e w1 ⟨r1, rfl, hs1, hb1⟩
  have X1 := Lib.hid (X0.out.below hb1 X0.out.lt)
  have B1 := Lib.hid (B0.out.trans (hb1.mono B0.out.size))
  clear hb1
  rcases hs1 with rfl | ⟨hp1, hq1⟩
  · go_wp2_with fail
    go_ret
    exact ⟨-1, rfl, .inl rfl, B1.out⟩
  have hle1 : r1 ≤ 1048576 := by omega
  have Hq1 := Lib.hid hq1
  clear hq1
  have x1 := X1.out.cell 2
  simp at x1
  go_wp2_with fail
  refine (lSzTypeS a2 c2 s.fTypes _ (r1) (by omega) (by omega) b2 BB2.out (Hr.out.types.below B1.out)).mono ?_
  rintro e w2 ⟨r2, rfl, hs2, hb2⟩
  have X2 := Lib.hid (X1.out.below hb2 X1.out.lt)
  have B2 := Lib.hid (B1.out.trans (hb2.mono B1.out.size))
  clear hb2
  rcases hs2 with rfl | ⟨hp2, hq2⟩
  · go_wp2_with fail
    go_ret
    exact ⟨-1, rfl, .inl rfl, B2.out⟩
  have hle2 : r2 ≤ 1048576 := by omega
  have Hq2 := Lib.hid hq2
  clear hq2
  have x2 := X2.out.cell 3
  simp at x2
  go_wp2_with fail
  refine (lSzObjectS a3 c3 s.fObjects _ (r2) (by omega) (by omega) b3 BB3.out (Hr.out.objects.below B2.out)).mono ?_
  rintro e w3 ⟨r3, rfl, hs3, hb3⟩
  have X3 := Lib.hid (X2.out.below hb3 X2.out.lt)
  have B3 := Lib.hid (B2.out.trans (hb3.mono B2.out.size))
  clear hb3
  rcases hs3 with rfl | ⟨hp3, hq3⟩
  · go_wp2_with fail
    go_ret
    exact ⟨-1, rfl, .inl rfl, B3.out⟩
  have hle3 : r3 ≤ 1048576 := by omega
  have Hq3 := Lib.hid hq3
  clear hq3
  have x3 := X3.out.cell 4
  simp at x3
  go_wp2_with fail
  refine (lSzUseS a4 c4 s.fUses _ (r3) (by omega) (by omega) b4 BB4.out (Hr.out.uses.below B3.out)).mono ?_
  rintro e w4 ⟨r4, rfl, hs4, hb4⟩
  have X4 := Lib.hid (X3.out.below hb4 X3.out.lt)
  have B4 := Lib.hid (B3.out.trans (hb4.mono B3.out.size))
  clear hb4
  rcases hs4 with rfl | ⟨hp4, hq4⟩
  · go_wp2_with fail
    go_ret
    exact ⟨-1, rfl, .inl rfl, B4.out⟩
  have hle4 : r4 ≤ 1048576 := by omega
  have Hq4 := Lib.hid hq4
  clear hq4
  go_wp2_with fail
  go_ret
  exact ⟨_, rfl, .inr ⟨hp4, Hw.out _ (by rw [Hq4.out, Hq3.out, Hq2.out, Hq1.out])⟩, B4.out⟩


theorem sizeScope : (Tryz.prog.info? 33).map (·.size) = some 5 := by kernel_rfl
set_option maxHeartbeats 4000000 in
theorem lEqScope (s : ScopeD) (a1 a2 a3 a4 a1' a2' a3' a4' : Option Addr) (c1 c2 c3 c4 c1' c2' c3' c4' : Nat) (w : World) (hn : s.fImports.length ≤ 1048576) (hm : s.fTypes.length ≤ 1048576) (hmt : ∀ x ∈ s.fTypes, x.wt ≤ 1048576) (ho : s.fObjects.length ≤ 1048576) (hot : ∀ x ∈ s.fObjects, x.wt ≤ 1048576) (hu : s.fUses.length ≤ 1048576) (hr : ScopeR Any w a1 a2 a3 a4 s) (hr' : ScopeR Any w a1' a2' a3' a4' s) :
    Calls Tryz.prog 11 #[.agg #[.string s.fName, .slice a1 s.fImports.length c1, .slice a2 s.fTypes.length c2, .slice a3 s.fObjects.length c3, .slice a4 s.fUses.length c4], .agg #[.string s.fName, .slice a1' s.fImports.length c1', .slice a2' s.fTypes.length c2', .slice a3' s.fObjects.length c3', .slice a4' s.fUses.length c4']] w fun e w' => e = .returned (.bool true) ∧ Below w.heap.size w w' := by
  have Hr := Lib.hid hr
  have Hr' := Lib.hid hr'
  have Hmt := Lib.hid hmt
  have Hot := Lib.hid hot
  clear hr hr' hmt hot
  have B0 := Lib.hid (show Below w.heap.size w ((w.alloc (.cells #[.string s.fName, .slice a1 s.fImports.length c1, .slice a2 s.fTypes.length c2, .slice a3 s.fObjects.length c3, .slice a4 s.fUses.length c4] 33)).alloc (.cells #[.string s.fName, .slice a1' s.fImports.length c1', .slice a2' s.fTypes.length c2', .slice a3' s.fObjects.length c3', .slice a4' s.fUses.length c4'] 33)) from ((Below.refl w.heap.size w).alloc (Nat.le_refl _) _).alloc (by simp) _)
  have X0 := Lib.hid ((Box.new w 33 #[.string s.fName, .slice a1 s.fImports.length c1, .slice a2 s.fTypes.length c2, .slice a3 s.fObjects.length c3, .slice a4 s.fUses.length c4]).alloc (.cells #[.string s.fName, .slice a1' s.fImports.length c1', .slice a2' s.fTypes.length c2', .slice a3' s.fObjects.length c3', .slice a4' s.fUses.length c4'] 33))
  have Y0 := Lib.hid (Box.new' (w.alloc (.cells #[.string s.fName, .slice a1 s.fImports.length c1, .slice a2 s.fTypes.length c2, .slice a3 s.fObjects.length c3, .slice a4 s.fUses.length c4] 33)) 33 #[.string s.fName, .slice a1' s.fImports.length c1', .slice a2' s.fTypes.length c2', .slice a3' s.fObjects.length c3', .slice a4' s.fUses.length c4'] (g := w.heap.size + 1) (by simp))
  go_enter Tryz.func11, Tryz.ntmps11
  go_wp2_with fail
  refine (lEqStringS a1 a1' c1 c1' s.fImports _ hn (Hr.out.imports.below B0.out) (Hr'.out.imports.below B0.out)).mono ?_
  rintro e w1 ⟨rfl, hb1⟩
  have X1 := Lib.hid (X0.out.below hb1 X0.out.lt)
  have Y1 := Lib.hid (Y0.out.below hb1 Y0.out.lt)
  have B1 := Lib.hid (B0.out.trans (hb1.mono B0.out.size))
  clear hb1
  have x1 := X1.out.cell 2
  have y1 := Y1.out.cell 2
  simp at x1 y1
  go_wp2_with fail
  refine (lEqTypeS a2 a2' c2 c2' s.fTypes _ hm Hmt.out (Hr.out.types.below B1.out) (Hr'.out.types.below B1.out)).mono ?_
  rintro e w2 ⟨rfl, hb2⟩
  have X2 := Lib.hid (X1.out.below hb2 X1.out.lt)
  have Y2 := Lib.hid (Y1.out.below hb2 Y1.out.lt)
  have B2 := Lib.hid (B1.out.trans (hb2.mono B1.out.size))
  clear hb2
  have x2 := X2.out.cell 3
  have y2 := Y2.out.cell 3
  simp at x2 y2
  go_wp2_with fail
  refine (lEqObjectS a3 a3' c3 c3' s.fObjects _ ho Hot.out (Hr.out.objects.below B2.out) (Hr'.out.objects.below B2.out)).mono ?_
  rintro e w3 ⟨rfl, hb3⟩
  have X3 := Lib.hid (X2.out.below hb3 X2.out.lt)
  have Y3 := Lib.hid (Y2.out.below hb3 Y2.out.lt)
  have B3 := Lib.hid (B2.out.trans (hb3.mono B2.out.size))
  clear hb3
  have x3 := X3.out.cell 4
  have y3 := Y3.out.cell 4
  simp at x3 y3
  go_wp2_with fail
  refine (lEqUseS a4 a4' c4 c4' s.fUses _ hu (Hr.out.uses.below B3.out) (Hr'.out.uses.below B3.out)).mono ?_
  rintro e w4 ⟨rfl, hb4⟩
  have X4 := Lib.hid (X3.out.below hb4 X3.out.lt)
  have Y4 := Lib.hid (Y3.out.below hb4 Y3.out.lt)
  have B4 := Lib.hid (B3.out.trans (hb4.mono B3.out.size))
  clear hb4
  go_wp2_with fail
  go_ret
  exact ⟨rfl, B4.out⟩
end Go.Proofs.YtbpbebhnledgnaaGreat
