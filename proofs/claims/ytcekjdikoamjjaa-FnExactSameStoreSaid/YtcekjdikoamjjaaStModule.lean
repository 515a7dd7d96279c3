
/-
  What is proved: a Module (a Scope and a row of Seen) in memory: opened where it came in, counted, copied, compared. No condition beside what each theorem states.
-/
import Derived.Test.YtcekjdikoamjjaaOpenScope
import Derived.Test.YtcekjdikoamjjaaStSeen
import Derived.Deep.QuietTactic
import Derived.BigQuiet
import Derived.StillTailTactics
namespace Go.Proofs.Ytcekjdikoamjjaa
open Go.ChangeShapes Go.WideShapes Go.ChangeAt Go.RowKit
set_option maxRecDepth 100000

structure ModuleD where
  fScope : ScopeD
  fSeen : List SeenD
def ModuleD.came (t : ModuleD) : Prop := t.fScope.came ∧ (t.fSeen.length ≤ maxLen ∧ ∀ x ∈ t.fSeen, x.came)
def ModuleD.wt (t : ModuleD) : Nat := t.fScope.wt + wtL SeenD.wt t.fSeen
/-- The lists of a module lie at their places. -/
structure ModuleR (Q : Nat → Prop) (w : World) (a1 a2 a3 a4 a5 : Option Addr) (t : ModuleD) : Prop where
  scope : ScopeR Q w a1 a2 a3 a4 t.fScope
  seen : Rows seenS Q w a5 t.fSeen
theorem ModuleR.below {w w' : World} {a1 a2 a3 a4 a5 : Option Addr} {t : ModuleD} (h : ModuleR Any w a1 a2 a3 a4 a5 t) (hb : Below w.heap.size w w') : ModuleR Any w' a1 a2 a3 a4 a5 t := ⟨h.scope.below hb, h.seen.below hb⟩
abbrev moduleC (t : ModuleD) (a1 a2 a3 a4 a5 : Option Addr) (c1 c2 c3 c4 c5 : Nat) : Array Value := #[.string t.fScope.fName, .slice a1 t.fScope.fImports.length c1, .slice a2 t.fScope.fTypes.length c2, .slice a3 t.fScope.fObjects.length c3, .slice a4 t.fScope.fUses.length c4, .slice a5 t.fSeen.length c5]

theorem cellsModuleL : Try.prog.cellsOf 37 = 6 := by kernel_rfl
theorem c5ModuleSc : Try.prog.cellsOf 34 = 5 := by kernel_rfl
theorem c1ModuleSe : Try.prog.cellsOf 35 = 1 := by kernel_rfl
theorem lenModule {l : List Value} (h : l.length = 6) : ∃ e0 e1 e2 e3 e4 e5, l = [e0, e1, e2, e3, e4, e5] := by
  match l, h with
  | [e0, e1, e2, e3, e4, e5], _ => exact ⟨e0, e1, e2, e3, e4, e5, rfl⟩
theorem openModule {H : Type} {enc : TypeId × Value → H} {w : World} {base : Nat} {spare : Nat → Bool} {held : Bool} (m : Nat) (cs : List Value) (x : DataW H × List MemPlace) (h : DataW.trod enc Try.prog w base spare held m 37 cs = some x) : ∃ (t : ModuleD) (a1 a2 a3 a4 a5 : Option Addr) (c1 c2 c3 c4 c5 : Nat), cs = (moduleC t a1 a2 a3 a4 a5 c1 c2 c3 c4 c5).toList ∧ ModuleR Any w a1 a2 a3 a4 a5 t ∧ t.came := by
  obtain ⟨xs, n, rfl, _, hlen, hxs, hf⟩ := DataW.trod_struct Try.underlying37 h
  rw [cellsModuleL] at hlen
  obtain ⟨e0, e1, e2, e3, e4, e5, rfl⟩ := lenModule hlen
  replace hxs : xs.length = 2 := hxs
  have h0 := hf 0 _ rfl
  change DataW.trod enc Try.prog w base spare held n 34 (List.take (Try.prog.cellsOf 34) [e0, e1, e2, e3, e4, e5]) = xs[0]? at h0
  rw [c5ModuleSc, List.getElem?_eq_getElem (by omega)] at h0
  replace h0 : DataW.trod enc Try.prog w base spare held n 34 [e0, e1, e2, e3, e4] = _ := h0
  obtain ⟨s, a1, a2, a3, a4, c1, c2, c3, c4, q0, r0, k0⟩ := openScopeL n _ _ h0
  have h1 := hf 1 _ rfl
  change DataW.trod enc Try.prog w base spare held n 35 (List.take (Try.prog.cellsOf 35) (List.drop 5 [e0, e1, e2, e3, e4, e5])) = xs[1]? at h1
  rw [c1ModuleSe, List.getElem?_eq_getElem (by omega)] at h1
  replace h1 : DataW.trod enc Try.prog w base spare held n 35 [e5] = _ := h1
  obtain ⟨a5, c5, v5, q5, z5, k5, r5, s5⟩ := open_rows seenS _ Try.underlying35 cellsSeenL (by decide) openSeen h1
  injection q5 with q5 _
  subst q5
  injection q0 with q00 q0
  injection q0 with q01 q0
  injection q0 with q02 q0
  injection q0 with q03 q0
  injection q0 with q04 q0
  subst q00 q01 q02 q03 q04
  exact ⟨⟨s, v5⟩, a1, a2, a3, a4, a5, c1, c2, c3, c4, c5, rfl, ⟨r0, r5⟩, k0, k5, s5⟩

set_option maxHeartbeats 4000000 in
theorem lSzModule (t : ModuleD) (a1 a2 a3 a4 a5 : Option Addr) (c1 c2 c3 c4 c5 : Nat) (w : World) (left : Int) (h0 : 0 ≤ left) (h1 : left ≤ 1048576) (hcm : t.came) (hr : ModuleR Any w a1 a2 a3 a4 a5 t) :
    Calls Try.prog 9 #[.agg (moduleC t a1 a2 a3 a4 a5 c1 c2 c3 c4 c5), .int .i64 left] w fun e w' => ∃ r : Int, e = .returned (.int .i64 r) ∧ (r = -1 ∨ (0 ≤ r ∧ r = left - (t.wt : Int))) ∧ Below w.heap.size w w' := by
  obtain ⟨k0, k5, s5⟩ := hcm
  obtain ⟨s, se⟩ := t
  obtain ⟨hs, hse⟩ := hr
  have K0 := Lib.hid k0
  have S5 := Lib.hid s5
  have Hs := Lib.hid hs
  have Hse := Lib.hid hse
  clear k0 s5 hs hse
  have Hw : Hid (∀ r : Int, r = left - (s.wt : Int) - ((wtL SeenD.wt se : Nat) : Int) → r = left - ((ModuleD.mk s se).wt : Int)) := Lib.hid (by unfold ModuleD.wt; intro r; push_cast; omega)
  have B0 := Lib.hid (show Below w.heap.size w (w.alloc (.cells (moduleC ⟨s, se⟩ a1 a2 a3 a4 a5 c1 c2 c3 c4 c5) 37)) from (Below.refl w.heap.size w).alloc (Nat.le_refl _) _)
  have X0 := Lib.hid (Box.new w 37 (moduleC ⟨s, se⟩ a1 a2 a3 a4 a5 c1 c2 c3 c4 c5))
  go_enter Try.func9, Try.ntmps9
  go_wp2_with fail
  refine (lSzScope s a1 a2 a3 a4 c1 c2 c3 c4 _ left h0 h1 K0.out (Hs.out.below B0.out)).mono ?_
  rintro e w1 ⟨r1, rfl, hs1, hb1⟩
  have X1 := Lib.hid (X0.out.below hb1 X0.out.lt)
  have B1 := Lib.hid (B0.out.trans (hb1.mono B0.out.size))
  clear hb1
  rcases hs1 with rfl | ⟨hp1, hq1⟩
  · go_wp2_with fail
    go_ret
    exact ⟨-1, rfl, .inl rfl, B1.out⟩
  have hle1 : r1 ≤ 1048576 := by omega
  have Hq1 := Lib.hid hq1
  clear hq1
  have x1 := X1.out.cell 5
  simp at x1
  go_wp2_with fail
  refine (lSzSeenS a5 c5 se _ r1 (by omega) (by omega) k5 S5.out (Hse.out.below B1.out)).mono ?_
  rintro e w2 ⟨r2, rfl, hs2, hb2⟩
  have B2 := Lib.hid (B1.out.trans (hb2.mono B1.out.size))
  clear hb2
  rcases hs2 with rfl | ⟨hp2, hq2⟩
  · go_wp2_with fail
    go_ret
    exact ⟨-1, rfl, .inl rfl, B2.out⟩
  have hle2 : r2 ≤ 1048576 := by omega
  have Hq2 := Lib.hid hq2
  clear hq2
  go_wp2_with fail
  go_ret
  exact ⟨_, rfl, .inr ⟨hp2, Hw.out _ (by rw [Hq2.out, Hq1.out])⟩, B2.out⟩

theorem infoModule : (Try.prog.info? 45).map (fun i => (i.zero, i.size, i.bytes)) = some (some (.agg #[.string ByteArray.empty, .slice none 0 0, .slice none 0 0, .slice none 0 0, .slice none 0 0, .slice none 0 0]), 6, 136) := by kernel_rfl
theorem sizeModule : (Try.prog.info? 45).map (·.size) = some 6 := by kernel_rfl
theorem six_keep (W : World) (g : Nat) (u0 u1 u2 u3 u4 u5 : Value) (k : Nat) (h : k ≠ g) : ((((((W.setCell ⟨g, 0, none⟩ u0).setCell ⟨g, 1, none⟩ u1).setCell ⟨g, 2, none⟩ u2).setCell ⟨g, 3, none⟩ u3).setCell ⟨g, 4, none⟩ u4).setCell ⟨g, 5, none⟩ u5).heap[k]? = W.heap[k]? :=
  (Below.heap_setCell _ _ _ _ h).trans (five_keep W g u0 u1 u2 u3 u4 k h)
theorem six_size (W : World) (g : Nat) (u0 u1 u2 u3 u4 u5 : Value) : ((((((W.setCell ⟨g, 0, none⟩ u0).setCell ⟨g, 1, none⟩ u1).setCell ⟨g, 2, none⟩ u2).setCell ⟨g, 3, none⟩ u3).setCell ⟨g, 4, none⟩ u4).setCell ⟨g, 5, none⟩ u5).heap.size = W.heap.size := by simp [World.setCell]

set_option maxHeartbeats 8000000 in
theorem lToModuleB (t : ModuleD) (a1 a2 a3 a4 a5 : Option Addr) (c1 c2 c3 c4 c5 : Nat) (w : World) (K : ScopeK t.fScope) (hse : t.fSeen.length ≤ 1048576) (hr : ModuleR Any w a1 a2 a3 a4 a5 t) :
    Calls Try.prog 11 #[.agg (moduleC t a1 a2 a3 a4 a5 c1 c2 c3 c4 c5)] w fun e w' => ∃ b1 b2 b3 b4 b5, e = .returned (.agg (moduleC t b1 b2 b3 b4 b5 t.fScope.fImports.length t.fScope.fTypes.length t.fScope.fObjects.length t.fScope.fUses.length t.fSeen.length)) ∧ ModuleR (fun b => w.heap.size ≤ b) w' b1 b2 b3 b4 b5 t ∧ Clean w.heap.size w' ∧ Below w.heap.size w w' := by
  obtain ⟨s, se⟩ := t
  obtain ⟨hs, hss⟩ := hr
  have Hs := Lib.hid hs
  have Hss := Lib.hid hss
  have HK := Lib.hid (show ScopeK s from K)
  clear hs hss K
  have B0 := Lib.hid (show Below w.heap.size w (((w.alloc (.cells (moduleC ⟨s, se⟩ a1 a2 a3 a4 a5 c1 c2 c3 c4 c5) 37)).alloc (.cells #[.string ⟨#[]⟩, .slice none 0 0, .slice none 0 0, .slice none 0 0, .slice none 0 0, .slice none 0 0] 45)).alloc (.cells #[.string ⟨#[]⟩, .slice none 0 0, .slice none 0 0, .slice none 0 0, .slice none 0 0, .slice none 0 0] 45)) from (((Below.refl w.heap.size w).alloc (Nat.le_refl _) _).alloc (by simp) _).alloc (by simp; omega) _)
  have C0 := Lib.hid (show Clean w.heap.size (((w.alloc (.cells (moduleC ⟨s, se⟩ a1 a2 a3 a4 a5 c1 c2 c3 c4 c5) 37)).alloc (.cells #[.string ⟨#[]⟩, .slice none 0 0, .slice none 0 0, .slice none 0 0, .slice none 0 0, .slice none 0 0] 45)).alloc (.cells #[.string ⟨#[]⟩, .slice none 0 0, .slice none 0 0, .slice none 0 0, .slice none 0 0, .slice none 0 0] 45)) from (((Clean.refl w).alloc _ _).alloc _ _).alloc _ _)
  have A0 := Lib.hid (((Box.new w 37 (moduleC ⟨s, se⟩ a1 a2 a3 a4 a5 c1 c2 c3 c4 c5)).alloc (.cells #[.string ⟨#[]⟩, .slice none 0 0, .slice none 0 0, .slice none 0 0, .slice none 0 0, .slice none 0 0] 45)).alloc (.cells #[.string ⟨#[]⟩, .slice none 0 0, .slice none 0 0, .slice none 0 0, .slice none 0 0, .slice none 0 0] 45))
  have Z0 := Lib.hid ((Box.new' (w.alloc (.cells (moduleC ⟨s, se⟩ a1 a2 a3 a4 a5 c1 c2 c3 c4 c5) 37)) 45 #[.string ⟨#[]⟩, .slice none 0 0, .slice none 0 0, .slice none 0 0, .slice none 0 0, .slice none 0 0] (g := w.heap.size + 1) (by simp)).alloc (.cells #[.string ⟨#[]⟩, .slice none 0 0, .slice none 0 0, .slice none 0 0, .slice none 0 0, .slice none 0 0] 45))
  have O0 := Lib.hid (Box.new' ((w.alloc (.cells (moduleC ⟨s, se⟩ a1 a2 a3 a4 a5 c1 c2 c3 c4 c5) 37)).alloc (.cells #[.string ⟨#[]⟩, .slice none 0 0, .slice none 0 0, .slice none 0 0, .slice none 0 0, .slice none 0 0] 45)) 45 #[.string ⟨#[]⟩, .slice none 0 0, .slice none 0 0, .slice none 0 0, .slice none 0 0, .slice none 0 0] (g := w.heap.size + 1 + 1) (by simp))
  go_enter Try.func11, Try.ntmps11
  go_wp2_with fail
  have hsz0 : (((w.alloc (.cells (moduleC ⟨s, se⟩ a1 a2 a3 a4 a5 c1 c2 c3 c4 c5) 37)).alloc (.cells #[.string ⟨#[]⟩, .slice none 0 0, .slice none 0 0, .slice none 0 0, .slice none 0 0, .slice none 0 0] 45)).alloc (.cells #[.string ⟨#[]⟩, .slice none 0 0, .slice none 0 0, .slice none 0 0, .slice none 0 0, .slice none 0 0] 45)).heap.size = w.heap.size + 3 := by simp
  generalize hv : ((w.alloc (.cells (moduleC ⟨s, se⟩ a1 a2 a3 a4 a5 c1 c2 c3 c4 c5) 37)).alloc (.cells #[.string ⟨#[]⟩, .slice none 0 0, .slice none 0 0, .slice none 0 0, .slice none 0 0, .slice none 0 0] 45)).alloc (.cells #[.string ⟨#[]⟩, .slice none 0 0, .slice none 0 0, .slice none 0 0, .slice none 0 0, .slice none 0 0] 45) = v0 at *
  clear hv
  have hz0 : w.heap.size + 3 ≤ v0.heap.size := by omega
  clear hsz0
  refine (lToScopeB s a1 a2 a3 a4 c1 c2 c3 c4 v0 HK.out.li HK.out.lt HK.out.tw HK.out.lo HK.out.ow HK.out.lu (Hs.out.below B0.out)).mono ?_
  rintro e w1 ⟨b1, b2, b3, b4, rfl, hr1, hcl1, hb1⟩
  have hA := A0.out.below hb1 (by omega)
  have hZ := Z0.out.below hb1 (by omega)
  have hO := O0.out.below hb1 (by omega)
  have ca := hA.cell 5
  have co0 := hO.cell 0
  have co1 := hO.cell 1
  have co2 := hO.cell 2
  have co3 := hO.cell 3
  have co4 := hO.cell 4
  have fo := hO.free
  simp at ca co0 co1 co2 co3 co4
  have hk := fun (k : Nat) (h : k ≠ w.heap.size + 1 + 1) => five_keep w1 (w.heap.size + 1 + 1) (.string s.fName) (.slice b1 s.fImports.length s.fImports.length) (.slice b2 s.fTypes.length s.fTypes.length) (.slice b3 s.fObjects.length s.fObjects.length) (.slice b4 s.fUses.length s.fUses.length) k h
  have hszv := five_size w1 (w.heap.size + 1 + 1) (.string s.fName) (.slice b1 s.fImports.length s.fImports.length) (.slice b2 s.fTypes.length s.fTypes.length) (.slice b3 s.fObjects.length s.fObjects.length) (.slice b4 s.fUses.length s.fUses.length)
  have A1 := Lib.hid (show Box (((((w1.setCell ⟨w.heap.size + 1 + 1, 0, none⟩ (.string s.fName)).setCell ⟨w.heap.size + 1 + 1, 1, none⟩ (.slice b1 s.fImports.length s.fImports.length)).setCell ⟨w.heap.size + 1 + 1, 2, none⟩ (.slice b2 s.fTypes.length s.fTypes.length)).setCell ⟨w.heap.size + 1 + 1, 3, none⟩ (.slice b3 s.fObjects.length s.fObjects.length)).setCell ⟨w.heap.size + 1 + 1, 4, none⟩ (.slice b4 s.fUses.length s.fUses.length)) w.heap.size 37 _ from (hk _ (by omega)).trans hA)
  have Z1 := Lib.hid (show Box (((((w1.setCell ⟨w.heap.size + 1 + 1, 0, none⟩ (.string s.fName)).setCell ⟨w.heap.size + 1 + 1, 1, none⟩ (.slice b1 s.fImports.length s.fImports.length)).setCell ⟨w.heap.size + 1 + 1, 2, none⟩ (.slice b2 s.fTypes.length s.fTypes.length)).setCell ⟨w.heap.size + 1 + 1, 3, none⟩ (.slice b3 s.fObjects.length s.fObjects.length)).setCell ⟨w.heap.size + 1 + 1, 4, none⟩ (.slice b4 s.fUses.length s.fUses.length)) (w.heap.size + 1) 45 _ from (hk _ (by omega)).trans hZ)
  have O1 := Lib.hid (show Box (((((w1.setCell ⟨w.heap.size + 1 + 1, 0, none⟩ (.string s.fName)).setCell ⟨w.heap.size + 1 + 1, 1, none⟩ (.slice b1 s.fImports.length s.fImports.length)).setCell ⟨w.heap.size + 1 + 1, 2, none⟩ (.slice b2 s.fTypes.length s.fTypes.length)).setCell ⟨w.heap.size + 1 + 1, 3, none⟩ (.slice b3 s.fObjects.length s.fObjects.length)).setCell ⟨w.heap.size + 1 + 1, 4, none⟩ (.slice b4 s.fUses.length s.fUses.length)) (w.heap.size + 1 + 1) 45 #[.string s.fName, .slice b1 s.fImports.length s.fImports.length, .slice b2 s.fTypes.length s.fTypes.length, .slice b3 s.fObjects.length s.fObjects.length, .slice b4 s.fUses.length s.fUses.length, .slice none 0 0] from ((((hO.set 0 _).set 1 _).set 2 _).set 3 _).set 4 _)
  have B1 := Lib.hid (show Below w.heap.size w (((((w1.setCell ⟨w.heap.size + 1 + 1, 0, none⟩ (.string s.fName)).setCell ⟨w.heap.size + 1 + 1, 1, none⟩ (.slice b1 s.fImports.length s.fImports.length)).setCell ⟨w.heap.size + 1 + 1, 2, none⟩ (.slice b2 s.fTypes.length s.fTypes.length)).setCell ⟨w.heap.size + 1 + 1, 3, none⟩ (.slice b3 s.fObjects.length s.fObjects.length)).setCell ⟨w.heap.size + 1 + 1, 4, none⟩ (.slice b4 s.fUses.length s.fUses.length)) from (((((B0.out.trans (hb1.mono (by omega))).setCell (by show w.heap.size ≤ w.heap.size + 1 + 1; omega) _).setCell (by show w.heap.size ≤ w.heap.size + 1 + 1; omega) _).setCell (by show w.heap.size ≤ w.heap.size + 1 + 1; omega) _).setCell (by show w.heap.size ≤ w.heap.size + 1 + 1; omega) _).setCell (by show w.heap.size ≤ w.heap.size + 1 + 1; omega) _)
  have C1 := Lib.hid (show Clean w.heap.size (((((w1.setCell ⟨w.heap.size + 1 + 1, 0, none⟩ (.string s.fName)).setCell ⟨w.heap.size + 1 + 1, 1, none⟩ (.slice b1 s.fImports.length s.fImports.length)).setCell ⟨w.heap.size + 1 + 1, 2, none⟩ (.slice b2 s.fTypes.length s.fTypes.length)).setCell ⟨w.heap.size + 1 + 1, 3, none⟩ (.slice b3 s.fObjects.length s.fObjects.length)).setCell ⟨w.heap.size + 1 + 1, 4, none⟩ (.slice b4 s.fUses.length s.fUses.length)) from (((((C0.out.join hb1 hcl1).set _ _ _).set _ _ _).set _ _ _).set _ _ _).set _ _ _)
  have hq1 : ScopeR (fun b => w.heap.size + 3 ≤ b) w1 b1 b2 b3 b4 s := ⟨hr1.imports.mono (fun b h _ => by omega), hr1.types.mono (fun b h _ => by omega), hr1.objects.mono (fun b h _ => by omega), hr1.uses.mono (fun b h _ => by omega)⟩
  have R1 := Lib.hid (show ScopeR (fun b => w.heap.size + 3 ≤ b) (((((w1.setCell ⟨w.heap.size + 1 + 1, 0, none⟩ (.string s.fName)).setCell ⟨w.heap.size + 1 + 1, 1, none⟩ (.slice b1 s.fImports.length s.fImports.length)).setCell ⟨w.heap.size + 1 + 1, 2, none⟩ (.slice b2 s.fTypes.length s.fTypes.length)).setCell ⟨w.heap.size + 1 + 1, 3, none⟩ (.slice b3 s.fObjects.length s.fObjects.length)).setCell ⟨w.heap.size + 1 + 1, 4, none⟩ (.slice b4 s.fUses.length s.fUses.length)) b1 b2 b3 b4 s from ⟨hq1.imports.keep (fun b hq _ => hk b (by omega)) (Nat.le_of_eq hszv.symm), hq1.types.keep (fun b hq _ => hk b (by omega)) (Nat.le_of_eq hszv.symm), hq1.objects.keep (fun b hq _ => hk b (by omega)) (Nat.le_of_eq hszv.symm), hq1.uses.keep (fun b hq _ => hk b (by omega)) (Nat.le_of_eq hszv.symm)⟩)
  have hsk := hb1.size
  clear hA hZ hO hr1 hb1 hcl1 hq1 hk
  go_wp2_with fail
  clear ca co0 co1 co2 co3 co4 fo
  generalize hv : (((((w1.setCell ⟨w.heap.size + 1 + 1, 0, none⟩ (.string s.fName)).setCell ⟨w.heap.size + 1 + 1, 1, none⟩ (.slice b1 s.fImports.length s.fImports.length)).setCell ⟨w.heap.size + 1 + 1, 2, none⟩ (.slice b2 s.fTypes.length s.fTypes.length)).setCell ⟨w.heap.size + 1 + 1, 3, none⟩ (.slice b3 s.fObjects.length s.fObjects.length)).setCell ⟨w.heap.size + 1 + 1, 4, none⟩ (.slice b4 s.fUses.length s.fUses.length)) = v1 at *
  clear hv
  have hz1 : w.heap.size + 3 ≤ v1.heap.size := by omega
  clear hszv hsk
  refine (lToSeenSB a5 c5 se v1 hse (Hss.out.below B1.out)).mono ?_
  rintro e w2 ⟨rfl, hr2, _, hcl2, hb2⟩
  have hZ := Z1.out.below hb2 (by omega)
  have hO := O1.out.below hb2 (by omega)
  have hk2 := fun (k : Nat) (h : k ≠ w.heap.size + 1 + 1) => Below.heap_setCell w2 ⟨w.heap.size + 1 + 1, 5, none⟩ (.slice (some ⟨v1.heap.size, 0, none⟩) se.length se.length) k h
  have hszv : (w2.setCell ⟨w.heap.size + 1 + 1, 5, none⟩ (.slice (some ⟨v1.heap.size, 0, none⟩) se.length se.length)).heap.size = w2.heap.size := by simp [World.setCell]
  have Z2 := Lib.hid (show Box (w2.setCell ⟨w.heap.size + 1 + 1, 5, none⟩ (.slice (some ⟨v1.heap.size, 0, none⟩) se.length se.length)) (w.heap.size + 1) 45 _ from (hk2 _ (by omega)).trans hZ)
  have O2 := Lib.hid (show Box (w2.setCell ⟨w.heap.size + 1 + 1, 5, none⟩ (.slice (some ⟨v1.heap.size, 0, none⟩) se.length se.length)) (w.heap.size + 1 + 1) 45 #[.string s.fName, .slice b1 s.fImports.length s.fImports.length, .slice b2 s.fTypes.length s.fTypes.length, .slice b3 s.fObjects.length s.fObjects.length, .slice b4 s.fUses.length s.fUses.length, .slice (some ⟨v1.heap.size, 0, none⟩) se.length se.length] from hO.set 5 _)
  have B2 := Lib.hid (show Below w.heap.size w (w2.setCell ⟨w.heap.size + 1 + 1, 5, none⟩ (.slice (some ⟨v1.heap.size, 0, none⟩) se.length se.length)) from (B1.out.trans (hb2.mono (by omega))).setCell (by show w.heap.size ≤ w.heap.size + 1 + 1; omega) _)
  have C2 := Lib.hid (show Clean w.heap.size (w2.setCell ⟨w.heap.size + 1 + 1, 5, none⟩ (.slice (some ⟨v1.heap.size, 0, none⟩) se.length se.length)) from (C1.out.join hb2 hcl2).set _ _ _)
  have R2 := Lib.hid (show ScopeR (fun b => w.heap.size + 3 ≤ b) (w2.setCell ⟨w.heap.size + 1 + 1, 5, none⟩ (.slice (some ⟨v1.heap.size, 0, none⟩) se.length se.length)) b1 b2 b3 b4 s from ⟨(R1.out.imports.keep (fun b _ hl => hb2.block b hl) hb2.size).keep (fun b hq _ => hk2 b (by omega)) (Nat.le_of_eq hszv.symm), (R1.out.types.keep (fun b _ hl => hb2.block b hl) hb2.size).keep (fun b hq _ => hk2 b (by omega)) (Nat.le_of_eq hszv.symm), (R1.out.objects.keep (fun b _ hl => hb2.block b hl) hb2.size).keep (fun b hq _ => hk2 b (by omega)) (Nat.le_of_eq hszv.symm), (R1.out.uses.keep (fun b _ hl => hb2.block b hl) hb2.size).keep (fun b hq _ => hk2 b (by omega)) (Nat.le_of_eq hszv.symm)⟩)
  have S2 := Lib.hid (show Rows seenS (fun b => w.heap.size + 3 ≤ b) (w2.setCell ⟨w.heap.size + 1 + 1, 5, none⟩ (.slice (some ⟨v1.heap.size, 0, none⟩) se.length se.length)) (some ⟨v1.heap.size, 0, none⟩) se from (Rows.mono (Q' := fun b => w.heap.size + 3 ≤ b) hr2 (fun b h _ => by omega)).keep (fun b hq _ => hk2 b (by omega)) (Nat.le_of_eq hszv.symm))
  have co0 := hO.cell 0
  have co1 := hO.cell 1
  have co2 := hO.cell 2
  have co3 := hO.cell 3
  have co4 := hO.cell 4
  have co5 := hO.cell 5
  have cz0 := hZ.cell 0
  have cz1 := hZ.cell 1
  have cz2 := hZ.cell 2
  have cz3 := hZ.cell 3
  have cz4 := hZ.cell 4
  have cz5 := hZ.cell 5
  have fo := hO.free
  have fz := hZ.free
  simp at co0 co1 co2 co3 co4 co5 cz0 cz1 cz2 cz3 cz4 cz5
  have hsk := hb2.size
  clear hO hZ hr2 hb2 hcl2 hk2 hszv
  go_wp2_with fail
  refine bodyPost_ret (results_one rfl Try.underlying45 rfl _ _ (w.heap.size + 1) #[.string s.fName, .slice b1 s.fImports.length s.fImports.length, .slice b2 s.fTypes.length s.fTypes.length, .slice b3 s.fObjects.length s.fObjects.length, .slice b4 s.fUses.length s.fUses.length, .slice (some ⟨v1.heap.size, 0, none⟩) se.length se.length] rfl 45 ?qbox 6 sizeModule rfl) rfl ?_
  case qbox => exact (((((Z2.out.set 0 _).set 1 _).set 2 _).set 3 _).set 4 _).set 5 _
  have hk := fun (k : Nat) (h : k ≠ w.heap.size + 1) => six_keep (w2.setCell ⟨w.heap.size + 1 + 1, 5, none⟩ (.slice (some ⟨v1.heap.size, 0, none⟩) se.length se.length)) (w.heap.size + 1) (.string s.fName) (.slice b1 s.fImports.length s.fImports.length) (.slice b2 s.fTypes.length s.fTypes.length) (.slice b3 s.fObjects.length s.fObjects.length) (.slice b4 s.fUses.length s.fUses.length) (.slice (some ⟨v1.heap.size, 0, none⟩) se.length se.length) k h
  have hks := six_size (w2.setCell ⟨w.heap.size + 1 + 1, 5, none⟩ (.slice (some ⟨v1.heap.size, 0, none⟩) se.length se.length)) (w.heap.size + 1) (.string s.fName) (.slice b1 s.fImports.length s.fImports.length) (.slice b2 s.fTypes.length s.fTypes.length) (.slice b3 s.fObjects.length s.fObjects.length) (.slice b4 s.fUses.length s.fUses.length) (.slice (some ⟨v1.heap.size, 0, none⟩) se.length se.length)
  have kr : ∀ {T : Type} {S : Shape T} {a : Option Addr} {l : List T}, Rows S (fun b => w.heap.size + 3 ≤ b) (w2.setCell ⟨w.heap.size + 1 + 1, 5, none⟩ (.slice (some ⟨v1.heap.size, 0, none⟩) se.length se.length)) a l → Rows S (fun b => w.heap.size ≤ b) _ a l := fun h =>
    (Rows.mono (Q' := fun b => w.heap.size ≤ b) (h.keep (fun b hq _ => hk b (by omega)) (Nat.le_of_eq hks.symm)) (fun b h _ => by omega))
  have hbe := B2.out
  have hle : w.heap.size ≤ w.heap.size + 1 := by omega
  exact ⟨_, _, _, _, _, rfl, ⟨⟨kr R2.out.imports, kr R2.out.types, kr R2.out.objects, kr R2.out.uses⟩, kr S2.out⟩, (((((C2.out.set _ _ _).set _ _ _).set _ _ _).set _ _ _).set _ _ _).set _ _ _, (((((hbe.setCell hle _).setCell hle _).setCell hle _).setCell hle _).setCell hle _).setCell hle _⟩

set_option maxHeartbeats 4000000 in
theorem lEqModule (t : ModuleD) (a1 a2 a3 a4 a5 b1 b2 b3 b4 b5 : Option Addr) (c1 c2 c3 c4 c5 d1 d2 d3 d4 d5 : Nat) (w : World) (K : ScopeK t.fScope) (hse : t.fSeen.length ≤ 1048576) (hr : ModuleR Any w a1 a2 a3 a4 a5 t) (hr' : ModuleR Any w b1 b2 b3 b4 b5 t) :
    Calls Try.prog 14 #[.agg (moduleC t a1 a2 a3 a4 a5 c1 c2 c3 c4 c5), .agg (moduleC t b1 b2 b3 b4 b5 d1 d2 d3 d4 d5)] w fun e w' => e = .returned (.bool true) ∧ Below w.heap.size w w' := by
  obtain ⟨s, se⟩ := t
  have HK := Lib.hid (show ScopeK s from K)
  have B0 := Lib.hid (((Below.refl w.heap.size w).alloc (Nat.le_refl _) (.cells (moduleC ⟨s, se⟩ a1 a2 a3 a4 a5 c1 c2 c3 c4 c5) 45)).alloc (by simp) (.cells (moduleC ⟨s, se⟩ b1 b2 b3 b4 b5 d1 d2 d3 d4 d5) 45))
  have A0 := Lib.hid ((Box.new w 45 (moduleC ⟨s, se⟩ a1 a2 a3 a4 a5 c1 c2 c3 c4 c5)).alloc (.cells (moduleC ⟨s, se⟩ b1 b2 b3 b4 b5 d1 d2 d3 d4 d5) 45))
  have D0 := Lib.hid (Box.new' (w.alloc (.cells (moduleC ⟨s, se⟩ a1 a2 a3 a4 a5 c1 c2 c3 c4 c5) 45)) 45 (moduleC ⟨s, se⟩ b1 b2 b3 b4 b5 d1 d2 d3 d4 d5) (g := w.heap.size + 1) (by simp))
  have Hr := Lib.hid (hr.below B0.out)
  have Hr' := Lib.hid (hr'.below B0.out)
  clear hr hr' K
  go_enter Try.func14, Try.ntmps14
  go_wp2_with fail
  refine (lEqScope s a1 a2 a3 a4 b1 b2 b3 b4 c1 c2 c3 c4 d1 d2 d3 d4 _ HK.out.li HK.out.lt HK.out.tw HK.out.lo HK.out.ow HK.out.lu Hr.out.scope Hr'.out.scope).mono ?_
  rintro e w1 ⟨rfl, hb1⟩
  have B1 := Lib.hid (B0.out.trans (hb1.mono B0.out.size))
  have ca := (A0.out.below hb1 (by first | (simp; done) | (simp; omega))).cell 5
  have cd := (D0.out.below hb1 (by first | (simp; done) | (simp; omega))).cell 5
  have R1 := Lib.hid (Hr.out.seen.below hb1)
  have R1' := Lib.hid (Hr'.out.seen.below hb1)
  simp at ca cd
  clear hb1
  go_wp2_with fail
  refine (lEqSeenS a5 b5 c5 d5 se _ hse R1.out R1'.out).mono ?_
  rintro e w2 ⟨rfl, hb2⟩
  have B2 := Lib.hid (B1.out.trans (hb2.mono B1.out.size))
  clear hb2
  go_wp2_with fail
  go_ret
  exact ⟨rfl, B2.out⟩
end Go.Proofs.Ytcekjdikoamjjaa
