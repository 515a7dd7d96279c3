
/-
  What is proved: structs Scope in memory: counted, copied, compared; a Scope copied. No condition beside what each theorem states.
-/
import Derived.Test.YtllddjmcemcdhaaGreatStrs
import Derived.Test.YtllddjmcemcdhaaGreatStType
import Derived.Test.YtllddjmcemcdhaaGreatStParam
import Derived.Test.YtllddjmcemcdhaaGreatStObject
namespace Go.Proofs.YtllddjmcemcdhaaGreat
open Go.ChangeShapes Go.WideShapes Go.ChangeAt Go.RowKit

/-- Scope as data. -/
structure ScopeD where
  fName : ByteArray
  fImports : List ByteArray
  fTypes : List TypeD
  fObjects : List ObjectD
  fUses : List UseD
def ScopeD.came (s : ScopeD) : Prop := s.fName.size ≤ maxLen ∧ (s.fImports.length ≤ maxLen ∧ ∀ x ∈ s.fImports, x.size ≤ maxLen) ∧ (s.fTypes.length ≤ maxLen ∧ ∀ x ∈ s.fTypes, x.came) ∧ (s.fObjects.length ≤ maxLen ∧ ∀ x ∈ s.fObjects, x.came) ∧ (s.fUses.length ≤ maxLen ∧ ∀ x ∈ s.fUses, x.came)
def ScopeD.wt (s : ScopeD) : Nat := s.fName.size + wtL ByteArray.size s.fImports + wtL TypeD.wt s.fTypes + wtL ObjectD.wt s.fObjects + wtL UseD.wt s.fUses
/-- The lists of a scope lie at their places. -/
structure ScopeR (Q : Nat → Prop) (w : World) (a1 a2 a3 a4 : Option Addr) (s : ScopeD) : Prop where
  imports : Rows strS Q w a1 s.fImports
  types : Rows typeS Q w a2 s.fTypes
  objects : Rows objectS Q w a3 s.fObjects
  uses : Rows useS Q w a4 s.fUses
theorem ScopeR.below {w w' : World} {a1 a2 a3 a4 : Option Addr} {s : ScopeD} (h : ScopeR Any w a1 a2 a3 a4 s) (hb : Below w.heap.size w w') : ScopeR Any w' a1 a2 a3 a4 s := ⟨h.imports.below hb, h.types.below hb, h.objects.below hb, h.uses.below hb⟩
abbrev scopeC (s : ScopeD) (a1 a2 a3 a4 : Option Addr) (c1 c2 c3 c4 : Nat) : Array Value := #[.string s.fName, .slice a1 s.fImports.length c1, .slice a2 s.fTypes.length c2, .slice a3 s.fObjects.length c3, .slice a4 s.fUses.length c4]

set_option maxRecDepth 100000 in
set_option maxHeartbeats 4000000 in
theorem lSzScope (s : ScopeD) (a1 a2 a3 a4 : Option Addr) (c1 c2 c3 c4 : Nat) (w : World) (left : Int) (h0 : 0 ≤ left) (h1 : left ≤ 1048576) (hcm : s.came) (hr : ScopeR Any w a1 a2 a3 a4 s) :
    Calls Tryz.prog 5 #[.agg #[.string s.fName, .slice a1 s.fImports.length c1, .slice a2 s.fTypes.length c2, .slice a3 s.fObjects.length c3, .slice a4 s.fUses.length c4], .int .i64 left] w fun e w' => ∃ r : Int, e = .returned (.int .i64 r) ∧ (r = -1 ∨ (0 ≤ r ∧ r = left - (s.wt : Int))) ∧ Below w.heap.size w w' := by
  obtain ⟨b0, ⟨b1, bb1⟩, ⟨b2, bb2⟩, ⟨b3, bb3⟩, ⟨b4, bb4⟩⟩ := hcm
  unfold maxLen at b0
  have BB1 := Lib.hid bb1
  have BB2 := Lib.hid bb2
  have BB3 := Lib.hid bb3
  have BB4 := Lib.hid bb4
  have Hr := Lib.hid hr
  clear bb1 bb2 bb3 bb4 hr
  have Hw : Hid (∀ r : Int, r = left - (s.fName.size : Int) - ((wtL ByteArray.size s.fImports : Nat) : Int) - ((wtL TypeD.wt s.fTypes : Nat) : Int) - ((wtL ObjectD.wt s.fObjects : Nat) : Int) - ((wtL UseD.wt s.fUses : Nat) : Int) → r = left - (s.wt : Int)) := Lib.hid (by unfold ScopeD.wt; intro r; push_cast; omega)
  have B0 := Lib.hid (show Below w.heap.size w (w.alloc (.cells #[.string s.fName, .slice a1 s.fImports.length c1, .slice a2 s.fTypes.length c2, .slice a3 s.fObjects.length c3, .slice a4 s.fUses.length c4] 27)) from (Below.refl w.heap.size w).alloc (Nat.le_refl _) _)
  have X0 := Lib.hid (Box.new w 27 #[.string s.fName, .slice a1 s.fImports.length c1, .slice a2 s.fTypes.length c2, .slice a3 s.fObjects.length c3, .slice a4 s.fUses.length c4])
  go_enter Tryz.func5, Tryz.ntmps5
  by_cases g0 : left - (s.fName.size : Int) < 0
  · go_wp2_with fail
    go_ret
    exact ⟨-1, rfl, .inl rfl, B0.out⟩
  go_wp2_with fail
  refine (lSzStringS a1 c1 s.fImports _ (left - (s.fName.size : Int)) (by omega) (by omega) b1 BB1.out (Hr.out.imports.below B0.out)).mono ?_
  rintro e w1 ⟨r1, rfl, hs1, hb1⟩
  have X1 := Lib.hid (X0.out.below hb1 X0.out.lt)
  have B1 := Lib.hid (B0.out.trans (hb1.mono B0.out.size))
  clear hb1
  rcases hs1 with rfl | ⟨hp1, hq1⟩
  · go_wp2_with fail
    go_ret
    exact ⟨-1, rfl, .inl rfl, B1.out⟩
  have hle1 : r1 ≤ 1048576 := by omega
  have Hq1 := Lib.hid hq1
  clear hq1
  have x1 := X1.out.cell 2
  simp at x1
  go_wp2_with fail
  refine (lSzTypeS a2 c2 s.fTypes _ (r1) (by omega) (by omega) b2 BB2.out (Hr.out.types.below B1.out)).mono ?_
  rintro e w2 ⟨r2, rfl, hs2, hb2⟩
  have X2 := Lib.hid (X1.out.below hb2 X1.out.lt)
  have B2 := Lib.hid (B1.out.trans (hb2.mono B1.out.size))
  clear hb2
  rcases hs2 with rfl | ⟨hp2, hq2⟩
  · go_wp2_with fail
    go_ret
    exact ⟨-1, rfl, .inl rfl, B2.out⟩
  have hle2 : r2 ≤ 1048576 := by omega
  have Hq2 := Lib.hid hq2
  clear hq2
  have x2 := X2.out.cell 3
  simp at x2
  go_wp2_with fail
  refine (lSzObjectS a3 c3 s.fObjects _ (r2) (by omega) (by omega) b3 BB3.out (Hr.out.objects.below B2.out)).mono ?_
  rintro e w3 ⟨r3, rfl, hs3, hb3⟩
  have X3 := Lib.hid (X2.out.below hb3 X2.out.lt)
  have B3 := Lib.hid (B2.out.trans (hb3.mono B2.out.size))
  clear hb3
  rcases hs3 with rfl | ⟨hp3, hq3⟩
  · go_wp2_with fail
    go_ret
    exact ⟨-1, rfl, .inl rfl, B3.out⟩
  have hle3 : r3 ≤ 1048576 := by omega
  have Hq3 := Lib.hid hq3
  clear hq3
  have x3 := X3.out.cell 4
  simp at x3
  go_wp2_with fail
  refine (lSzUseS a4 c4 s.fUses _ (r3) (by omega) (by omega) b4 BB4.out (Hr.out.uses.below B3.out)).mono ?_
  rintro e w4 ⟨r4, rfl, hs4, hb4⟩
  have X4 := Lib.hid (X3.out.below hb4 X3.out.lt)
  have B4 := Lib.hid (B3.out.trans (hb4.mono B3.out.size))
  clear hb4
  rcases hs4 with rfl | ⟨hp4, hq4⟩
  · go_wp2_with fail
    go_ret
    exact ⟨-1, rfl, .inl rfl, B4.out⟩
  have hle4 : r4 ≤ 1048576 := by omega
  have Hq4 := Lib.hid hq4
  clear hq4
  go_wp2_with fail
  go_ret
  exact ⟨_, rfl, .inr ⟨hp4, Hw.out _ (by rw [Hq4.out, Hq3.out, Hq2.out, Hq1.out])⟩, B4.out⟩


theorem sizeScope : (Tryz.prog.info? 35).map (·.size) = some 5 := by kernel_rfl
set_option maxHeartbeats 4000000 in
theorem lEqScope (s : ScopeD) (a1 a2 a3 a4 a1' a2' a3' a4' : Option Addr) (c1 c2 c3 c4 c1' c2' c3' c4' : Nat) (w : World) (hn : s.fImports.length ≤ 1048576) (hm : s.fTypes.length ≤ 1048576) (hmt : ∀ x ∈ s.fTypes, x.wt ≤ 1048576) (ho : s.fObjects.length ≤ 1048576) (hot : ∀ x ∈ s.fObjects, x.wt ≤ 1048576) (hu : s.fUses.length ≤ 1048576) (hr : ScopeR Any w a1 a2 a3 a4 s) (hr' : ScopeR Any w a1' a2' a3' a4' s) :
    Calls Tryz.prog 9 #[.agg #[.string s.fName, .slice a1 s.fImports.length c1, .slice a2 s.fTypes.length c2, .slice a3 s.fObjects.length c3, .slice a4 s.fUses.length c4], .agg #[.string s.fName, .slice a1' s.fImports.length c1', .slice a2' s.fTypes.length c2', .slice a3' s.fObjects.length c3', .slice a4' s.fUses.length c4']] w fun e w' => e = .returned (.bool true) ∧ Below w.heap.size w w' := by
  have Hr := Lib.hid hr
  have Hr' := Lib.hid hr'
  have Hmt := Lib.hid hmt
  have Hot := Lib.hid hot
  clear hr hr' hmt hot
  have B0 := Lib.hid (show Below w.heap.size w ((w.alloc (.cells #[.string s.fName, .slice a1 s.fImports.length c1, .slice a2 s.fTypes.length c2, .slice a3 s.fObjects.length c3, .slice a4 s.fUses.length c4] 35)).alloc (.cells #[.string s.fName, .slice a1' s.fImports.length c1', .slice a2' s.fTypes.length c2', .slice a3' s.fObjects.length c3', .slice a4' s.fUses.length c4'] 35)) from ((Below.refl w.heap.size w).alloc (Nat.le_refl _) _).alloc (by simp) _)
  have X0 := Lib.hid ((Box.new w 35 #[.string s.fName, .slice a1 s.fImports.length c1, .slice a2 s.fTypes.length c2, .slice a3 s.fObjects.length c3, .slice a4 s.fUses.length c4]).alloc (.cells #[.string s.fName, .slice a1' s.fImports.length c1', .slice a2' s.fTypes.length c2', .slice a3' s.fObjects.length c3', .slice a4' s.fUses.length c4'] 35))
  have Y0 := Lib.hid (Box.new' (w.alloc (.cells #[.string s.fName, .slice a1 s.fImports.length c1, .slice a2 s.fTypes.length c2, .slice a3 s.fObjects.length c3, .slice a4 s.fUses.length c4] 35)) 35 #[.string s.fName, .slice a1' s.fImports.length c1', .slice a2' s.fTypes.length c2', .slice a3' s.fObjects.length c3', .slice a4' s.fUses.length c4'] (g := w.heap.size + 1) (by simp))
  go_enter Tryz.func9, Tryz.ntmps9
  go_wp2_with fail
  refine (lEqStringS a1 a1' c1 c1' s.fImports _ hn (Hr.out.imports.below B0.out) (Hr'.out.imports.below B0.out)).mono ?_
  rintro e w1 ⟨rfl, hb1⟩
  have X1 := Lib.hid (X0.out.below hb1 X0.out.lt)
  have Y1 := Lib.hid (Y0.out.below hb1 Y0.out.lt)
  have B1 := Lib.hid (B0.out.trans (hb1.mono B0.out.size))
  clear hb1
  have x1 := X1.out.cell 2
  have y1 := Y1.out.cell 2
  simp at x1 y1
  go_wp2_with fail
  refine (lEqTypeS a2 a2' c2 c2' s.fTypes _ hm Hmt.out (Hr.out.types.below B1.out) (Hr'.out.types.below B1.out)).mono ?_
  rintro e w2 ⟨rfl, hb2⟩
  have X2 := Lib.hid (X1.out.below hb2 X1.out.lt)
  have Y2 := Lib.hid (Y1.out.below hb2 Y1.out.lt)
  have B2 := Lib.hid (B1.out.trans (hb2.mono B1.out.size))
  clear hb2
  have x2 := X2.out.cell 3
  have y2 := Y2.out.cell 3
  simp at x2 y2
  go_wp2_with fail
  refine (lEqObjectS a3 a3' c3 c3' s.fObjects _ ho Hot.out (Hr.out.objects.below B2.out) (Hr'.out.objects.below B2.out)).mono ?_
  rintro e w3 ⟨rfl, hb3⟩
  have X3 := Lib.hid (X2.out.below hb3 X2.out.lt)
  have Y3 := Lib.hid (Y2.out.below hb3 Y2.out.lt)
  have B3 := Lib.hid (B2.out.trans (hb3.mono B2.out.size))
  clear hb3
  have x3 := X3.out.cell 4
  have y3 := Y3.out.cell 4
  simp at x3 y3
  go_wp2_with fail
  refine (lEqUseS a4 a4' c4 c4' s.fUses _ hu (Hr.out.uses.below B3.out) (Hr'.out.uses.below B3.out)).mono ?_
  rintro e w4 ⟨rfl, hb4⟩
  have X4 := Lib.hid (X3.out.below hb4 X3.out.lt)
  have Y4 := Lib.hid (Y3.out.below hb4 Y3.out.lt)
  have B4 := Lib.hid (B3.out.trans (hb4.mono B3.out.size))
  clear hb4
  go_wp2_with fail
  go_ret
  exact ⟨rfl, B4.out⟩
end Go.Proofs.YtllddjmcemcdhaaGreat

namespace Go.Proofs.YtllddjmcemcdhaaGreat
open Go.ChangeShapes Go.WideShapes Go.ChangeAt Go.RowKit

theorem five_keep (W : World) (g : Nat) (u0 u1 u2 u3 u4 : Value) (k : Nat) (h : k ≠ g) : (((((W.setCell ⟨g, 0, none⟩ u0).setCell ⟨g, 1, none⟩ u1).setCell ⟨g, 2, none⟩ u2).setCell ⟨g, 3, none⟩ u3).setCell ⟨g, 4, none⟩ u4).heap[k]? = W.heap[k]? :=
  (Below.heap_setCell _ ⟨g, 4, none⟩ _ k h).trans ((Below.heap_setCell _ ⟨g, 3, none⟩ _ k h).trans ((Below.heap_setCell _ ⟨g, 2, none⟩ _ k h).trans ((Below.heap_setCell _ ⟨g, 1, none⟩ _ k h).trans (Below.heap_setCell _ ⟨g, 0, none⟩ _ k h))))
theorem five_size (W : World) (g : Nat) (u0 u1 u2 u3 u4 : Value) : (((((W.setCell ⟨g, 0, none⟩ u0).setCell ⟨g, 1, none⟩ u1).setCell ⟨g, 2, none⟩ u2).setCell ⟨g, 3, none⟩ u3).setCell ⟨g, 4, none⟩ u4).heap.size = W.heap.size := by simp [World.setCell]
set_option maxRecDepth 100000 in
set_option maxHeartbeats 4000000 in
theorem lToScopeB (s : ScopeD) (a1 a2 a3 a4 : Option Addr) (c1 c2 c3 c4 : Nat) (w : World) (hn : s.fImports.length ≤ 1048576) (hm : s.fTypes.length ≤ 1048576) (hmt : ∀ x ∈ s.fTypes, x.wt ≤ 1048576) (ho : s.fObjects.length ≤ 1048576) (hot : ∀ x ∈ s.fObjects, x.wt ≤ 1048576) (hu : s.fUses.length ≤ 1048576) (hr : ScopeR Any w a1 a2 a3 a4 s) :
    Calls Tryz.prog 7 #[.agg #[.string s.fName, .slice a1 s.fImports.length c1, .slice a2 s.fTypes.length c2, .slice a3 s.fObjects.length c3, .slice a4 s.fUses.length c4]] w fun e w' => ∃ b1 b2 b3 b4, e = .returned (.agg (scopeC s b1 b2 b3 b4 s.fImports.length s.fTypes.length s.fObjects.length s.fUses.length)) ∧ ScopeR (fun b => w.heap.size ≤ b) w' b1 b2 b3 b4 s ∧ Clean w.heap.size w' ∧ Below w.heap.size w w' := by
  have Hr := Lib.hid hr
  have Hmt := Lib.hid hmt
  have Hot := Lib.hid hot
  clear hr hmt hot
  have B0 := Lib.hid (show Below w.heap.size w (((w.alloc (.cells #[.string s.fName, .slice a1 s.fImports.length c1, .slice a2 s.fTypes.length c2, .slice a3 s.fObjects.length c3, .slice a4 s.fUses.length c4] 27)).alloc (.cells #[.string ⟨#[]⟩, .slice none 0 0, .slice none 0 0, .slice none 0 0, .slice none 0 0] 35)).alloc (.cells #[.string s.fName, .slice none 0 0, .slice none 0 0, .slice none 0 0, .slice none 0 0] 35)) from (((Below.refl w.heap.size w).alloc (Nat.le_refl _) _).alloc (by simp) _).alloc (by simp; omega) _)
  have C0 := Lib.hid (show Clean w.heap.size (((w.alloc (.cells #[.string s.fName, .slice a1 s.fImports.length c1, .slice a2 s.fTypes.length c2, .slice a3 s.fObjects.length c3, .slice a4 s.fUses.length c4] 27)).alloc (.cells #[.string ⟨#[]⟩, .slice none 0 0, .slice none 0 0, .slice none 0 0, .slice none 0 0] 35)).alloc (.cells #[.string s.fName, .slice none 0 0, .slice none 0 0, .slice none 0 0, .slice none 0 0] 35)) from (((Clean.refl w).alloc _ _).alloc _ _).alloc _ _)
  have A0 := Lib.hid (((Box.new w 27 #[.string s.fName, .slice a1 s.fImports.length c1, .slice a2 s.fTypes.length c2, .slice a3 s.fObjects.length c3, .slice a4 s.fUses.length c4]).alloc (.cells #[.string ⟨#[]⟩, .slice none 0 0, .slice none 0 0, .slice none 0 0, .slice none 0 0] 35)).alloc (.cells #[.string s.fName, .slice none 0 0, .slice none 0 0, .slice none 0 0, .slice none 0 0] 35))
  have Z0 := Lib.hid ((Box.new' (w.alloc (.cells #[.string s.fName, .slice a1 s.fImports.length c1, .slice a2 s.fTypes.length c2, .slice a3 s.fObjects.length c3, .slice a4 s.fUses.length c4] 27)) 35 #[.string ⟨#[]⟩, .slice none 0 0, .slice none 0 0, .slice none 0 0, .slice none 0 0] (g := w.heap.size + 1) (by simp)).alloc (.cells #[.string s.fName, .slice none 0 0, .slice none 0 0, .slice none 0 0, .slice none 0 0] 35))
  have O0 := Lib.hid (Box.new' ((w.alloc (.cells #[.string s.fName, .slice a1 s.fImports.length c1, .slice a2 s.fTypes.length c2, .slice a3 s.fObjects.length c3, .slice a4 s.fUses.length c4] 27)).alloc (.cells #[.string ⟨#[]⟩, .slice none 0 0, .slice none 0 0, .slice none 0 0, .slice none 0 0] 35)) 35 #[.string s.fName, .slice none 0 0, .slice none 0 0, .slice none 0 0, .slice none 0 0] (g := w.heap.size + 1 + 1) (by simp))
  go_enter Tryz.func7, Tryz.ntmps7
  go_wp2_with fail
  have hsz0 : ((((w.alloc (.cells #[.string s.fName, .slice a1 s.fImports.length c1, .slice a2 s.fTypes.length c2, .slice a3 s.fObjects.length c3, .slice a4 s.fUses.length c4] 27)).alloc (.cells #[.string ⟨#[]⟩, .slice none 0 0, .slice none 0 0, .slice none 0 0, .slice none 0 0] 35)).alloc (.cells #[.string s.fName, .slice none 0 0, .slice none 0 0, .slice none 0 0, .slice none 0 0] 35))).heap.size = w.heap.size + 3 := by simp
  generalize hv : (((w.alloc (.cells #[.string s.fName, .slice a1 s.fImports.length c1, .slice a2 s.fTypes.length c2, .slice a3 s.fObjects.length c3, .slice a4 s.fUses.length c4] 27)).alloc (.cells #[.string ⟨#[]⟩, .slice none 0 0, .slice none 0 0, .slice none 0 0, .slice none 0 0] 35)).alloc (.cells #[.string s.fName, .slice none 0 0, .slice none 0 0, .slice none 0 0, .slice none 0 0] 35)) = v0 at *
  clear hv
  have hz0 : w.heap.size + 3 ≤ v0.heap.size := by omega
  clear hsz0
  refine (lToStringSB a1 c1 s.fImports _ hn (Hr.out.imports.below B0.out)).mono ?_
  rintro e w1 ⟨rfl, hr1, hcl1, hb1⟩
  have hA := A0.out.below hb1 (by omega)
  have hZ := Z0.out.below hb1 (by omega)
  have hO := O0.out.below hb1 (by omega)
  have ca := hA.cell 2
  have co := hO.cell 1
  have fo := hO.free 1
  simp at ca co
  have hszv : (w1.setCell ⟨w.heap.size + 1 + 1, 1, none⟩ (.slice (some ⟨v0.heap.size, 0, none⟩) s.fImports.length s.fImports.length)).heap.size = w1.heap.size := by simp [World.setCell]
  have A1 := Lib.hid (show Box (w1.setCell ⟨w.heap.size + 1 + 1, 1, none⟩ (.slice (some ⟨v0.heap.size, 0, none⟩) s.fImports.length s.fImports.length)) w.heap.size 27 _ from (Below.heap_setCell w1 _ _ _ (by show w.heap.size ≠ w.heap.size + 1 + 1; omega)).trans hA)
  have Z1 := Lib.hid (show Box (w1.setCell ⟨w.heap.size + 1 + 1, 1, none⟩ (.slice (some ⟨v0.heap.size, 0, none⟩) s.fImports.length s.fImports.length)) (w.heap.size + 1) 35 _ from (Below.heap_setCell w1 _ _ _ (by simp)).trans hZ)
  have O1 := Lib.hid (show Box (w1.setCell ⟨w.heap.size + 1 + 1, 1, none⟩ (.slice (some ⟨v0.heap.size, 0, none⟩) s.fImports.length s.fImports.length)) (w.heap.size + 1 + 1) 35 #[.string s.fName, .slice (some ⟨v0.heap.size, 0, none⟩) s.fImports.length s.fImports.length, .slice none 0 0, .slice none 0 0, .slice none 0 0] from hO.set 1 (.slice (some ⟨v0.heap.size, 0, none⟩) s.fImports.length s.fImports.length))
  have B1 := Lib.hid ((B0.out.trans (hb1.mono (by omega))).setCell (p := ⟨w.heap.size + 1 + 1, 1, none⟩) (by show w.heap.size ≤ w.heap.size + 1 + 1; omega) (.slice (some ⟨v0.heap.size, 0, none⟩) s.fImports.length s.fImports.length))
  have C1 := Lib.hid (show Clean w.heap.size (w1.setCell ⟨w.heap.size + 1 + 1, 1, none⟩ (.slice (some ⟨v0.heap.size, 0, none⟩) s.fImports.length s.fImports.length)) from (C0.out.join hb1 hcl1).set _ _ _)
  have R1 := Lib.hid (show Rows strS (fun b => w.heap.size + 3 ≤ b) (w1.setCell ⟨w.heap.size + 1 + 1, 1, none⟩ (.slice (some ⟨v0.heap.size, 0, none⟩) s.fImports.length s.fImports.length)) (some ⟨v0.heap.size, 0, none⟩) s.fImports from (Rows.mono (Q' := fun b => w.heap.size + 3 ≤ b) hr1 (fun b h _ => by omega)).keep (fun b hq _ => Below.heap_setCell w1 _ _ _ (by show b ≠ w.heap.size + 1 + 1; omega)) (by rw [hszv]; exact Nat.le_refl _))
  have hsk := hb1.size
  clear hA hZ hO hr1 hb1 hcl1
  go_wp2_with fail
  clear ca co fo
  generalize hv : w1.setCell ⟨w.heap.size + 1 + 1, 1, none⟩ (.slice (some ⟨v0.heap.size, 0, none⟩) s.fImports.length s.fImports.length) = v1 at *
  clear hv
  have hz1 : w.heap.size + 3 ≤ v1.heap.size := by omega
  clear hszv hsk
  refine (lToTypeSB a2 c2 s.fTypes _ hm Hmt.out (Hr.out.types.below B1.out)).mono ?_
  rintro e w2 ⟨rfl, hr2, _, hcl2, hb2⟩
  have hA := A1.out.below hb2 (by omega)
  have hZ := Z1.out.below hb2 (by omega)
  have hO := O1.out.below hb2 (by omega)
  have ca := hA.cell 3
  have co := hO.cell 2
  have fo := hO.free 2
  simp at ca co
  have hszv : (w2.setCell ⟨w.heap.size + 1 + 1, 2, none⟩ (.slice (some ⟨v1.heap.size, 0, none⟩) s.fTypes.length s.fTypes.length)).heap.size = w2.heap.size := by simp [World.setCell]
  have A2 := Lib.hid (show Box (w2.setCell ⟨w.heap.size + 1 + 1, 2, none⟩ (.slice (some ⟨v1.heap.size, 0, none⟩) s.fTypes.length s.fTypes.length)) w.heap.size 27 _ from (Below.heap_setCell w2 _ _ _ (by show w.heap.size ≠ w.heap.size + 1 + 1; omega)).trans hA)
  have Z2 := Lib.hid (show Box (w2.setCell ⟨w.heap.size + 1 + 1, 2, none⟩ (.slice (some ⟨v1.heap.size, 0, none⟩) s.fTypes.length s.fTypes.length)) (w.heap.size + 1) 35 _ from (Below.heap_setCell w2 _ _ _ (by simp)).trans hZ)
  have O2 := Lib.hid (show Box (w2.setCell ⟨w.heap.size + 1 + 1, 2, none⟩ (.slice (some ⟨v1.heap.size, 0, none⟩) s.fTypes.length s.fTypes.length)) (w.heap.size + 1 + 1) 35 #[.string s.fName, .slice (some ⟨v0.heap.size, 0, none⟩) s.fImports.length s.fImports.length, .slice (some ⟨v1.heap.size, 0, none⟩) s.fTypes.length s.fTypes.length, .slice none 0 0, .slice none 0 0] from hO.set 2 (.slice (some ⟨v1.heap.size, 0, none⟩) s.fTypes.length s.fTypes.length))
  have B2 := Lib.hid ((B1.out.trans (hb2.mono (by omega))).setCell (p := ⟨w.heap.size + 1 + 1, 2, none⟩) (by show w.heap.size ≤ w.heap.size + 1 + 1; omega) (.slice (some ⟨v1.heap.size, 0, none⟩) s.fTypes.length s.fTypes.length))
  have C2 := Lib.hid (show Clean w.heap.size (w2.setCell ⟨w.heap.size + 1 + 1, 2, none⟩ (.slice (some ⟨v1.heap.size, 0, none⟩) s.fTypes.length s.fTypes.length)) from (C1.out.join hb2 hcl2).set _ _ _)
  have R2 := Lib.hid (show Rows typeS (fun b => w.heap.size + 3 ≤ b) (w2.setCell ⟨w.heap.size + 1 + 1, 2, none⟩ (.slice (some ⟨v1.heap.size, 0, none⟩) s.fTypes.length s.fTypes.length)) (some ⟨v1.heap.size, 0, none⟩) s.fTypes from (Rows.mono (Q' := fun b => w.heap.size + 3 ≤ b) hr2 (fun b h _ => by omega)).keep (fun b hq _ => Below.heap_setCell w2 _ _ _ (by show b ≠ w.heap.size + 1 + 1; omega)) (by rw [hszv]; exact Nat.le_refl _))
  have R1 := Lib.hid (show Rows strS (fun b => w.heap.size + 3 ≤ b) (w2.setCell ⟨w.heap.size + 1 + 1, 2, none⟩ (.slice (some ⟨v1.heap.size, 0, none⟩) s.fTypes.length s.fTypes.length)) (some ⟨v0.heap.size, 0, none⟩) s.fImports from (R1.out.keep (fun b _ hl => hb2.block b hl) hb2.size).keep (fun b hq _ => Below.heap_setCell w2 _ _ _ (by show b ≠ w.heap.size + 1 + 1; omega)) (by rw [hszv]; exact Nat.le_refl _))
  have hsk := hb2.size
  clear hA hZ hO hr2 hb2 hcl2
  go_wp2_with fail
  clear ca co fo
  generalize hv : w2.setCell ⟨w.heap.size + 1 + 1, 2, none⟩ (.slice (some ⟨v1.heap.size, 0, none⟩) s.fTypes.length s.fTypes.length) = v2 at *
  clear hv
  have hz2 : w.heap.size + 3 ≤ v2.heap.size := by omega
  clear hszv hsk
  refine (lToObjectSB a3 c3 s.fObjects _ ho Hot.out (Hr.out.objects.below B2.out)).mono ?_
  rintro e w3 ⟨rfl, hr3, _, hcl3, hb3⟩
  have hA := A2.out.below hb3 (by omega)
  have hZ := Z2.out.below hb3 (by omega)
  have hO := O2.out.below hb3 (by omega)
  have ca := hA.cell 4
  have co := hO.cell 3
  have fo := hO.free 3
  simp at ca co
  have hszv : (w3.setCell ⟨w.heap.size + 1 + 1, 3, none⟩ (.slice (some ⟨v2.heap.size, 0, none⟩) s.fObjects.length s.fObjects.length)).heap.size = w3.heap.size := by simp [World.setCell]
  have A3 := Lib.hid (show Box (w3.setCell ⟨w.heap.size + 1 + 1, 3, none⟩ (.slice (some ⟨v2.heap.size, 0, none⟩) s.fObjects.length s.fObjects.length)) w.heap.size 27 _ from (Below.heap_setCell w3 _ _ _ (by show w.heap.size ≠ w.heap.size + 1 + 1; omega)).trans hA)
  have Z3 := Lib.hid (show Box (w3.setCell ⟨w.heap.size + 1 + 1, 3, none⟩ (.slice (some ⟨v2.heap.size, 0, none⟩) s.fObjects.length s.fObjects.length)) (w.heap.size + 1) 35 _ from (Below.heap_setCell w3 _ _ _ (by simp)).trans hZ)
  have O3 := Lib.hid (show Box (w3.setCell ⟨w.heap.size + 1 + 1, 3, none⟩ (.slice (some ⟨v2.heap.size, 0, none⟩) s.fObjects.length s.fObjects.length)) (w.heap.size + 1 + 1) 35 #[.string s.fName, .slice (some ⟨v0.heap.size, 0, none⟩) s.fImports.length s.fImports.length, .slice (some ⟨v1.heap.size, 0, none⟩) s.fTypes.length s.fTypes.length, .slice (some ⟨v2.heap.size, 0, none⟩) s.fObjects.length s.fObjects.length, .slice none 0 0] from hO.set 3 (.slice (some ⟨v2.heap.size, 0, none⟩) s.fObjects.length s.fObjects.length))
  have B3 := Lib.hid ((B2.out.trans (hb3.mono (by omega))).setCell (p := ⟨w.heap.size + 1 + 1, 3, none⟩) (by show w.heap.size ≤ w.heap.size + 1 + 1; omega) (.slice (some ⟨v2.heap.size, 0, none⟩) s.fObjects.length s.fObjects.length))
  have C3 := Lib.hid (show Clean w.heap.size (w3.setCell ⟨w.heap.size + 1 + 1, 3, none⟩ (.slice (some ⟨v2.heap.size, 0, none⟩) s.fObjects.length s.fObjects.length)) from (C2.out.join hb3 hcl3).set _ _ _)
  have R3 := Lib.hid (show Rows objectS (fun b => w.heap.size + 3 ≤ b) (w3.setCell ⟨w.heap.size + 1 + 1, 3, none⟩ (.slice (some ⟨v2.heap.size, 0, none⟩) s.fObjects.length s.fObjects.length)) (some ⟨v2.heap.size, 0, none⟩) s.fObjects from (Rows.mono (Q' := fun b => w.heap.size + 3 ≤ b) hr3 (fun b h _ => by omega)).keep (fun b hq _ => Below.heap_setCell w3 _ _ _ (by show b ≠ w.heap.size + 1 + 1; omega)) (by rw [hszv]; exact Nat.le_refl _))
  have R1 := Lib.hid (show Rows strS (fun b => w.heap.size + 3 ≤ b) (w3.setCell ⟨w.heap.size + 1 + 1, 3, none⟩ (.slice (some ⟨v2.heap.size, 0, none⟩) s.fObjects.length s.fObjects.length)) (some ⟨v0.heap.size, 0, none⟩) s.fImports from (R1.out.keep (fun b _ hl => hb3.block b hl) hb3.size).keep (fun b hq _ => Below.heap_setCell w3 _ _ _ (by show b ≠ w.heap.size + 1 + 1; omega)) (by rw [hszv]; exact Nat.le_refl _))
  have R2 := Lib.hid (show Rows typeS (fun b => w.heap.size + 3 ≤ b) (w3.setCell ⟨w.heap.size + 1 + 1, 3, none⟩ (.slice (some ⟨v2.heap.size, 0, none⟩) s.fObjects.length s.fObjects.length)) (some ⟨v1.heap.size, 0, none⟩) s.fTypes from (R2.out.keep (fun b _ hl => hb3.block b hl) hb3.size).keep (fun b hq _ => Below.heap_setCell w3 _ _ _ (by show b ≠ w.heap.size + 1 + 1; omega)) (by rw [hszv]; exact Nat.le_refl _))
  have hsk := hb3.size
  clear hA hZ hO hr3 hb3 hcl3
  go_wp2_with fail
  clear ca co fo
  generalize hv : w3.setCell ⟨w.heap.size + 1 + 1, 3, none⟩ (.slice (some ⟨v2.heap.size, 0, none⟩) s.fObjects.length s.fObjects.length) = v3 at *
  clear hv
  have hz3 : w.heap.size + 3 ≤ v3.heap.size := by omega
  clear hszv hsk
  refine (lToUseSB a4 c4 s.fUses _ hu (Hr.out.uses.below B3.out)).mono ?_
  rintro e w4 ⟨rfl, hr4, _, hcl4, hb4⟩
  have hA := A3.out.below hb4 (by omega)
  have hZ := Z3.out.below hb4 (by omega)
  have hO := O3.out.below hb4 (by omega)
  have ca := hA.cell 4
  have co := hO.cell 4
  have fo := hO.free 4
  simp at ca co
  have hszv : (w4.setCell ⟨w.heap.size + 1 + 1, 4, none⟩ (.slice (some ⟨v3.heap.size, 0, none⟩) s.fUses.length s.fUses.length)).heap.size = w4.heap.size := by simp [World.setCell]
  have A4 := Lib.hid (show Box (w4.setCell ⟨w.heap.size + 1 + 1, 4, none⟩ (.slice (some ⟨v3.heap.size, 0, none⟩) s.fUses.length s.fUses.length)) w.heap.size 27 _ from (Below.heap_setCell w4 _ _ _ (by show w.heap.size ≠ w.heap.size + 1 + 1; omega)).trans hA)
  have Z4 := Lib.hid (show Box (w4.setCell ⟨w.heap.size + 1 + 1, 4, none⟩ (.slice (some ⟨v3.heap.size, 0, none⟩) s.fUses.length s.fUses.length)) (w.heap.size + 1) 35 _ from (Below.heap_setCell w4 _ _ _ (by simp)).trans hZ)
  have O4 := Lib.hid (show Box (w4.setCell ⟨w.heap.size + 1 + 1, 4, none⟩ (.slice (some ⟨v3.heap.size, 0, none⟩) s.fUses.length s.fUses.length)) (w.heap.size + 1 + 1) 35 #[.string s.fName, .slice (some ⟨v0.heap.size, 0, none⟩) s.fImports.length s.fImports.length, .slice (some ⟨v1.heap.size, 0, none⟩) s.fTypes.length s.fTypes.length, .slice (some ⟨v2.heap.size, 0, none⟩) s.fObjects.length s.fObjects.length, .slice (some ⟨v3.heap.size, 0, none⟩) s.fUses.length s.fUses.length] from hO.set 4 (.slice (some ⟨v3.heap.size, 0, none⟩) s.fUses.length s.fUses.length))
  have B4 := Lib.hid ((B3.out.trans (hb4.mono (by omega))).setCell (p := ⟨w.heap.size + 1 + 1, 4, none⟩) (by show w.heap.size ≤ w.heap.size + 1 + 1; omega) (.slice (some ⟨v3.heap.size, 0, none⟩) s.fUses.length s.fUses.length))
  have C4 := Lib.hid (show Clean w.heap.size (w4.setCell ⟨w.heap.size + 1 + 1, 4, none⟩ (.slice (some ⟨v3.heap.size, 0, none⟩) s.fUses.length s.fUses.length)) from (C3.out.join hb4 hcl4).set _ _ _)
  have R4 := Lib.hid (show Rows useS (fun b => w.heap.size + 3 ≤ b) (w4.setCell ⟨w.heap.size + 1 + 1, 4, none⟩ (.slice (some ⟨v3.heap.size, 0, none⟩) s.fUses.length s.fUses.length)) (some ⟨v3.heap.size, 0, none⟩) s.fUses from (Rows.mono (Q' := fun b => w.heap.size + 3 ≤ b) hr4 (fun b h _ => by omega)).keep (fun b hq _ => Below.heap_setCell w4 _ _ _ (by show b ≠ w.heap.size + 1 + 1; omega)) (by rw [hszv]; exact Nat.le_refl _))
  have R1 := Lib.hid (show Rows strS (fun b => w.heap.size + 3 ≤ b) (w4.setCell ⟨w.heap.size + 1 + 1, 4, none⟩ (.slice (some ⟨v3.heap.size, 0, none⟩) s.fUses.length s.fUses.length)) (some ⟨v0.heap.size, 0, none⟩) s.fImports from (R1.out.keep (fun b _ hl => hb4.block b hl) hb4.size).keep (fun b hq _ => Below.heap_setCell w4 _ _ _ (by show b ≠ w.heap.size + 1 + 1; omega)) (by rw [hszv]; exact Nat.le_refl _))
  have R2 := Lib.hid (show Rows typeS (fun b => w.heap.size + 3 ≤ b) (w4.setCell ⟨w.heap.size + 1 + 1, 4, none⟩ (.slice (some ⟨v3.heap.size, 0, none⟩) s.fUses.length s.fUses.length)) (some ⟨v1.heap.size, 0, none⟩) s.fTypes from (R2.out.keep (fun b _ hl => hb4.block b hl) hb4.size).keep (fun b hq _ => Below.heap_setCell w4 _ _ _ (by show b ≠ w.heap.size + 1 + 1; omega)) (by rw [hszv]; exact Nat.le_refl _))
  have R3 := Lib.hid (show Rows objectS (fun b => w.heap.size + 3 ≤ b) (w4.setCell ⟨w.heap.size + 1 + 1, 4, none⟩ (.slice (some ⟨v3.heap.size, 0, none⟩) s.fUses.length s.fUses.length)) (some ⟨v2.heap.size, 0, none⟩) s.fObjects from (R3.out.keep (fun b _ hl => hb4.block b hl) hb4.size).keep (fun b hq _ => Below.heap_setCell w4 _ _ _ (by show b ≠ w.heap.size + 1 + 1; omega)) (by rw [hszv]; exact Nat.le_refl _))
  have co0 := hO.cell 0
  have co1 := hO.cell 1
  have co2 := hO.cell 2
  have co3 := hO.cell 3
  have cz0 := hZ.cell 0
  have cz1 := hZ.cell 1
  have cz2 := hZ.cell 2
  have cz3 := hZ.cell 3
  have cz4 := hZ.cell 4
  have fz := hZ.free
  simp at co0 co1 co2 co3 cz0 cz1 cz2 cz3 cz4
  have hsk := hb4.size
  clear hA hZ hO hr4 hb4 hcl4
  go_wp2_with fail
  refine bodyPost_ret (results_one rfl Tryz.underlying35 rfl _ _ (w.heap.size + 1) #[.string s.fName, .slice (some ⟨v0.heap.size, 0, none⟩) s.fImports.length s.fImports.length, .slice (some ⟨v1.heap.size, 0, none⟩) s.fTypes.length s.fTypes.length, .slice (some ⟨v2.heap.size, 0, none⟩) s.fObjects.length s.fObjects.length, .slice (some ⟨v3.heap.size, 0, none⟩) s.fUses.length s.fUses.length] rfl 35 ?qbox 5 sizeScope rfl) rfl ?_
  case qbox => exact ((((Z4.out.set 0 _).set 1 _).set 2 _).set 3 _).set 4 _
  have hk := fun (k : Nat) (h : k ≠ w.heap.size + 1) => five_keep (w4.setCell ⟨w.heap.size + 1 + 1, 4, none⟩ (.slice (some ⟨v3.heap.size, 0, none⟩) s.fUses.length s.fUses.length)) (w.heap.size + 1) (.string s.fName) (.slice (some ⟨v0.heap.size, 0, none⟩) s.fImports.length s.fImports.length) (.slice (some ⟨v1.heap.size, 0, none⟩) s.fTypes.length s.fTypes.length) (.slice (some ⟨v2.heap.size, 0, none⟩) s.fObjects.length s.fObjects.length) (.slice (some ⟨v3.heap.size, 0, none⟩) s.fUses.length s.fUses.length) k h
  have hks := five_size (w4.setCell ⟨w.heap.size + 1 + 1, 4, none⟩ (.slice (some ⟨v3.heap.size, 0, none⟩) s.fUses.length s.fUses.length)) (w.heap.size + 1) (.string s.fName) (.slice (some ⟨v0.heap.size, 0, none⟩) s.fImports.length s.fImports.length) (.slice (some ⟨v1.heap.size, 0, none⟩) s.fTypes.length s.fTypes.length) (.slice (some ⟨v2.heap.size, 0, none⟩) s.fObjects.length s.fObjects.length) (.slice (some ⟨v3.heap.size, 0, none⟩) s.fUses.length s.fUses.length)
  have kr : ∀ {T : Type} {S : Shape T} {a : Option Addr} {l : List T}, Rows S (fun b => w.heap.size + 3 ≤ b) (w4.setCell ⟨w.heap.size + 1 + 1, 4, none⟩ (.slice (some ⟨v3.heap.size, 0, none⟩) s.fUses.length s.fUses.length)) a l → Rows S (fun b => w.heap.size ≤ b) _ a l := fun h =>
    (Rows.mono (Q' := fun b => w.heap.size ≤ b) (h.keep (fun b hq _ => hk b (by omega)) (Nat.le_of_eq hks.symm)) (fun b h _ => by omega))
  have hbe := B4.out
  exact ⟨_, _, _, _, rfl, ⟨kr R1.out, kr R2.out, kr R3.out, kr R4.out⟩, ((((C4.out.set _ _ _).set _ _ _).set _ _ _).set _ _ _).set _ _ _, ((((hbe.setCell (by show w.heap.size ≤ w.heap.size + 1; omega) _).setCell (by show w.heap.size ≤ w.heap.size + 1; omega) _).setCell (by show w.heap.size ≤ w.heap.size + 1; omega) _).setCell (by show w.heap.size ≤ w.heap.size + 1; omega) _).setCell (by show w.heap.size ≤ w.heap.size + 1; omega) _⟩
theorem lToScope (s : ScopeD) (a1 a2 a3 a4 : Option Addr) (c1 c2 c3 c4 : Nat) (w : World) (hn : s.fImports.length ≤ 1048576) (hm : s.fTypes.length ≤ 1048576) (hmt : ∀ x ∈ s.fTypes, x.wt ≤ 1048576) (ho : s.fObjects.length ≤ 1048576) (hot : ∀ x ∈ s.fObjects, x.wt ≤ 1048576) (hu : s.fUses.length ≤ 1048576) (hr : ScopeR Any w a1 a2 a3 a4 s) :
    Calls Tryz.prog 7 #[.agg #[.string s.fName, .slice a1 s.fImports.length c1, .slice a2 s.fTypes.length c2, .slice a3 s.fObjects.length c3, .slice a4 s.fUses.length c4]] w fun e w' => ∃ b1 b2 b3 b4, e = .returned (.agg (scopeC s b1 b2 b3 b4 s.fImports.length s.fTypes.length s.fObjects.length s.fUses.length)) ∧ ScopeR (fun b => w.heap.size ≤ b) w' b1 b2 b3 b4 s ∧ Below w.heap.size w w' :=
  (lToScopeB s a1 a2 a3 a4 c1 c2 c3 c4 w hn hm hmt ho hot hu hr).mono fun _ _ ⟨b1, b2, b3, b4, h1, h2, _, h4⟩ => ⟨b1, b2, b3, b4, h1, h2, h4⟩
end Go.Proofs.YtllddjmcemcdhaaGreat
