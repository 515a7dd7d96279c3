
/-
  What is proved: rows of Modules in memory: opened where they came in, counted, copied, compared. No condition beside what each theorem states.
-/
import Derived.Test.YtcekjdikoamjjaaStModule
namespace Go.Proofs.Ytcekjdikoamjjaa
open Go.ChangeShapes Go.WideShapes Go.ChangeAt Go.RowKit
set_option maxRecDepth 100000

theorem ModuleR.keepQ {Q : Nat → Prop} {w w' : World} {a1 a2 a3 a4 a5 : Option Addr} {s : ModuleD} (h : ModuleR Q w a1 a2 a3 a4 a5 s) (hb : ∀ b, Q b → b < w.heap.size → w'.heap[b]? = w.heap[b]?) (hs : w.heap.size ≤ w'.heap.size) : ModuleR Q w' a1 a2 a3 a4 a5 s := ⟨⟨h.scope.imports.keep hb hs, h.scope.types.keep hb hs, h.scope.objects.keep hb hs, h.scope.uses.keep hb hs⟩, h.seen.keep hb hs⟩
theorem ModuleR.monoQ {Q Q' : Nat → Prop} {w : World} {a1 a2 a3 a4 a5 : Option Addr} {s : ModuleD} (h : ModuleR Q w a1 a2 a3 a4 a5 s) (hq : ∀ b, Q b → b < w.heap.size → Q' b) : ModuleR Q' w a1 a2 a3 a4 a5 s := ⟨⟨h.scope.imports.mono hq, h.scope.types.mono hq, h.scope.objects.mono hq, h.scope.uses.mono hq⟩, h.seen.mono hq⟩
theorem ModuleR.any {Q : Nat → Prop} {w : World} {a1 a2 a3 a4 a5 : Option Addr} {s : ModuleD} (h : ModuleR Q w a1 a2 a3 a4 a5 s) : ModuleR Any w a1 a2 a3 a4 a5 s := h.monoQ (fun _ _ _ => trivial)
def moduleAt (Q : Nat → Prop) (w : World) (cs : List Value) (t : ModuleD) : Prop := ∃ (a1 a2 a3 a4 a5 : Option Addr) (c1 c2 c3 c4 c5 : Nat), cs = (moduleC t a1 a2 a3 a4 a5 c1 c2 c3 c4 c5).toList ∧ ModuleR Q w a1 a2 a3 a4 a5 t
/-- How one that came in lies in memory. -/
def moduleS : Shape ModuleD where
  n := 6
  At := moduleAt
  len h := by obtain ⟨_, _, _, _, _, _, _, _, _, _, rfl, _⟩ := h; rfl
  keep h hb hs := by obtain ⟨a1, a2, a3, a4, a5, c1, c2, c3, c4, c5, rfl, h1⟩ := h; exact ⟨a1, a2, a3, a4, a5, c1, c2, c3, c4, c5, rfl, h1.keepQ hb hs⟩
  mono h hq := by obtain ⟨a1, a2, a3, a4, a5, c1, c2, c3, c4, c5, rfl, h1⟩ := h; exact ⟨a1, a2, a3, a4, a5, c1, c2, c3, c4, c5, rfl, h1.monoQ hq⟩
def moduleEAt (Q : Nat → Prop) (w : World) (cs : List Value) (t : ModuleD) : Prop := ∃ (a1 a2 a3 a4 a5 : Option Addr), cs = (moduleC t a1 a2 a3 a4 a5 t.fScope.fImports.length t.fScope.fTypes.length t.fScope.fObjects.length t.fScope.fUses.length t.fSeen.length).toList ∧ ModuleR Q w a1 a2 a3 a4 a5 t
/-- How one that was copied lies in memory: no row is wider than it is long. -/
def moduleE : Shape ModuleD where
  n := 6
  At := moduleEAt
  len h := by obtain ⟨_, _, _, _, _, rfl, _⟩ := h; rfl
  keep h hb hs := by obtain ⟨a1, a2, a3, a4, a5, rfl, h1⟩ := h; exact ⟨a1, a2, a3, a4, a5, rfl, h1.keepQ hb hs⟩
  mono h hq := by obtain ⟨a1, a2, a3, a4, a5, rfl, h1⟩ := h; exact ⟨a1, a2, a3, a4, a5, rfl, h1.monoQ hq⟩
theorem openModuleS {H : Type} {enc : TypeId × Value → H} {w : World} {base : Nat} {spare : Nat → Bool} {held : Bool} {a : Option Addr} {len cap : Nat} {d : DataW H} {p : List MemPlace}
    (h : ∃ fuel, DataW.trod enc Try.prog w base spare held fuel 22 (Value.slice a len cap).cells.toList = some (d, p)) : ∃ l : List ModuleD, l.length = len ∧ len ≤ maxLen ∧ Rows moduleS Any w a l ∧ ∀ t ∈ l, t.came :=
  open_whole moduleS _ Try.underlying22 cellsModuleL (by decide) (fun m cs x h => by
    obtain ⟨s, a1, a2, a3, a4, a5, c1, c2, c3, c4, c5, h1, h2, h3⟩ := openModule m cs x h
    exact ⟨s, ⟨a1, a2, a3, a4, a5, c1, c2, c3, c4, c5, h1, h2⟩, h3⟩) h
theorem makeModule (n : Nat) (W : World) (hn : n ≤ 1048576) : (Instr.makeSlice 25 (.int .i64 (n : Int)) (.int .i64 (n : Int))).run Try.prog W = .ok (.slice (some ⟨W.heap.size, 0, none⟩) n n) (W.alloc (.cells (madeCells #[.string ByteArray.empty, .slice none 0 0, .slice none 0 0, .slice none 0 0, .slice none 0 0, .slice none 0 0] (n * 6)) 45)) := by
  obtain ⟨i0, hi0, hz0, hz1, hz2⟩ := info_parts infoModule
  have := run_make (P := Try.prog) W 25 45 i0 _ Try.underlying25 hi0 hz0 .i64 .i64 (n : Int) (n : Int) (by omega) (by omega) (by rw [hz2]; omega) (by omega)
  rw [this, hz1]
  rfl
theorem ModuleD.wtS (t : ModuleD) : t.fScope.wt ≤ t.wt := by unfold ModuleD.wt; omega
theorem ModuleD.wtN (t : ModuleD) : t.fSeen.length ≤ t.wt := by unfold ModuleD.wt wtL; omega
theorem ModuleR.drew {Q : Nat → Prop} {w : World} {a1 a2 a3 a4 a5 : Option Addr} {s : ModuleD} (h : ModuleR Q w a1 a2 a3 a4 a5 s) : ModuleR Q w.drew a1 a2 a3 a4 a5 s := ⟨h.scope.drew, h.seen.drew⟩
set_option maxHeartbeats 2000000 in
theorem lToModuleSB (a : Option Addr) (c : Nat) (l : List ModuleD) (w : World) (hl : l.length ≤ 1048576) (ht : ∀ x ∈ l, x.wt ≤ 1048576) (hr : Rows moduleS Any w a l) :
    Calls Try.prog 6 #[.slice a l.length c] w fun e w' => e = .returned (.slice (some ⟨w.heap.size, 0, none⟩) l.length l.length) ∧ Rows moduleE (fun b => w.heap.size ≤ b) w' (some ⟨w.heap.size, 0, none⟩) l ∧ (∃ arr, Box w' w.heap.size 45 arr ∧ arr.size = l.length * 6) ∧ Clean w.heap.size w' ∧ Below w.heap.size w w' := by
  have km := fun W => makeModule l.length W hl
  have Hr := Lib.hid hr
  have Ht := Lib.hid ht
  clear ht
  clear hr
  go_enter Try.func6, Try.ntmps6
  go_wp2_with fail
  go_loopw [4] (fun i wr => ∃ (k : Nat) (arr : Array Value), i = .int .i64 k ∧ k ≤ l.length ∧ Box wr w.heap.size 45 arr ∧ arr.size = l.length * 6 ∧ Filled moduleE (fun b => w.heap.size < b) wr arr l k ∧ Clean w.heap.size wr ∧ Below w.heap.size w wr) (fun i _ => l.length - (intOf i).toNat)
  case atStart => exact ⟨0, _, rfl, by omega, Box.new w _ _, size_madeCells _ _, Filled.zero, (Clean.refl w).alloc _ _, (Below.refl _ _).alloc (Nat.le_refl _) _⟩
  case round =>
    clear km
    obtain ⟨k, arr, rfl, hk, hb, hsz, hf, hcl, hbel⟩ := hrel
    have Hcl := Lib.hid hcl
    clear hcl
    by_cases hlt : k < l.length
    · obtain ⟨b, o, cs, rfl, _, hb1, hc1, hat⟩ := Hr.out k hlt
      obtain ⟨a1, a2, a3, a4, a5, c1, c2, c3, c4, c5, rfl, r5⟩ := hat
      have hn : moduleS.n = 6 := rfl
      have e0 := (hbel.cell (p := ⟨b, o + k * 6 + 0, none⟩) hb1).trans (hc1 0 (by decide))
      have e1 := (hbel.cell (p := ⟨b, o + k * 6 + 1, none⟩) hb1).trans (hc1 1 (by decide))
      have e2 := (hbel.cell (p := ⟨b, o + k * 6 + 2, none⟩) hb1).trans (hc1 2 (by decide))
      have e3 := (hbel.cell (p := ⟨b, o + k * 6 + 3, none⟩) hb1).trans (hc1 3 (by decide))
      have e4 := (hbel.cell (p := ⟨b, o + k * 6 + 4, none⟩) hb1).trans (hc1 4 (by decide))
      have e5 := (hbel.cell (p := ⟨b, o + k * 6 + 5, none⟩) hb1).trans (hc1 5 (by decide))
      simp at e0 e1 e2 e3 e4 e5
      have R5 := Lib.hid (r5.below hbel)
      have Hb := Lib.hid hb
      have Hf := Lib.hid hf
      have Hbel := Lib.hid hbel
      have Hst := Lib.hid (fun W arr cs => filled_store (S := moduleE) (Q := fun b => w.heap.size < b) (w := W) (g := w.heap.size) (t := 45) (arr := arr) (cs := cs) hlt)
      have hwt := Ht.out l[k] (List.getElem_mem hlt)
      clear hb hf hbel hc1 r5
      generalize l[k] = t at *
      go_wp2_with fail
      have Kt := ScopeK.of (Nat.le_trans (ModuleD.wtS t) hwt)
      refine (lToModuleB t a1 a2 a3 a4 a5 c1 c2 c3 c4 c5 wr Kt (Nat.le_trans (ModuleD.wtN t) hwt) R5.out).mono ?_
      rintro e w1 ⟨b1, b2, b3, b4, b5, rfl, hat', hcl1, hw1⟩
      have HC1 := Lib.hid (Hcl.out.join hw1 hcl1)
      clear hcl1
      have HAT := Lib.hid (show moduleE.At (fun b => w.heap.size < b) w1 [.string t.fScope.fName, .slice b1 t.fScope.fImports.length t.fScope.fImports.length, .slice b2 t.fScope.fTypes.length t.fScope.fTypes.length, .slice b3 t.fScope.fObjects.length t.fScope.fObjects.length, .slice b4 t.fScope.fUses.length t.fScope.fUses.length, .slice b5 t.fSeen.length t.fSeen.length] t from ⟨b1, b2, b3, b4, b5, rfl, hat'.monoQ (fun b h _ => Nat.lt_of_lt_of_le Hb.out.lt h)⟩)
      clear hat'
      have hb2 := Hb.out.below hw1 Hb.out.lt
      have HB := Lib.hid hb2
      have f0 := hb2.free
      obtain ⟨x0, y0⟩ := hb2.some (i := k * 6) (by omega)
      obtain ⟨x1, y1⟩ := hb2.some (i := k * 6 + 1) (by omega)
      obtain ⟨x2, y2⟩ := hb2.some (i := k * 6 + 2) (by omega)
      obtain ⟨x3, y3⟩ := hb2.some (i := k * 6 + 3) (by omega)
      obtain ⟨x4, y4⟩ := hb2.some (i := k * 6 + 4) (by omega)
      obtain ⟨x5, y5⟩ := hb2.some (i := k * 6 + 5) (by omega)
      have HF := Lib.hid (Hf.out.keep (fun b _ hl => hw1.block b hl) hw1.size)
      have HBel := Lib.hid (Hbel.out.trans (hw1.mono Hbel.out.size))
      clear hw1 hb2 Hb Hf Hbel
      go_wp2_with fail
      obtain ⟨arr', hB', hs', hF', hO'⟩ := Hst.out w1 arr [.string t.fScope.fName, .slice b1 t.fScope.fImports.length t.fScope.fImports.length, .slice b2 t.fScope.fTypes.length t.fScope.fTypes.length, .slice b3 t.fScope.fObjects.length t.fScope.fObjects.length, .slice b4 t.fScope.fUses.length t.fScope.fUses.length, .slice b5 t.fSeen.length t.fSeen.length] HB.out hsz HF.out HAT.out (Nat.lt_irrefl _)
      exact ⟨⟨k + 1, arr', by congr 1, by omega, hB', hs', hF', Clean.setL (g := w.heap.size) [.string t.fScope.fName, .slice b1 t.fScope.fImports.length t.fScope.fImports.length, .slice b2 t.fScope.fTypes.length t.fScope.fTypes.length, .slice b3 t.fScope.fObjects.length t.fScope.fObjects.length, .slice b4 t.fScope.fUses.length t.fScope.fUses.length, .slice b5 t.fSeen.length t.fSeen.length] _ HC1.out, HBel.out.trans (hO'.below (Nat.le_refl _) HB.out.lt)⟩, by simp [intOf]; omega⟩
    · obtain rfl : k = l.length := by omega
      have Hb := Lib.hid hb
      have Hf := Lib.hid hf
      have Hbel := Lib.hid hbel
      clear hb hf hbel
      go_wp2_with fail
      go_ret
      exact ⟨rfl, (Hf.out.mono (fun _ h _ => Nat.le_of_lt h)).rows Hb.out (Nat.le_refl _), ⟨arr, Hb.out, hsz⟩, Hcl.out, Hbel.out⟩

set_option maxRecDepth 100000 in
set_option maxHeartbeats 2000000 in
theorem lEqModuleS (a a' : Option Addr) (c c' : Nat) (l : List ModuleD) (w : World) (hl : l.length ≤ 1048576) (ht : ∀ x ∈ l, x.wt ≤ 1048576) (hr : Rows moduleE Any w a l) (hr' : Rows moduleE Any w a' l) :
    Calls Try.prog 8 #[.slice a l.length c, .slice a' l.length c'] w fun e w' => e = .returned (.bool true) ∧ Below w.heap.size w w' := by
  have Hr := Lib.hid hr
  have Hr' := Lib.hid hr'
  have Ht := Lib.hid ht
  clear ht
  clear hr hr'
  go_enter Try.func8, Try.ntmps8
  go_wp2_with fail
  go_loopw [5] (fun i wr => ∃ k : Nat, i = .int .i64 k ∧ k ≤ l.length ∧ Below w.heap.size w wr) (fun i _ => l.length - (intOf i).toNat)
  case atStart => exact ⟨0, rfl, by omega, Below.refl _ _⟩
  case round =>
    obtain ⟨k, rfl, hk, hbel⟩ := hrel
    by_cases hlt : k < l.length
    · obtain ⟨b, o, cs, rfl, _, hb1, hc1, hat⟩ := Hr.out k hlt
      obtain ⟨b', o', cs', rfl, _, hb1', hc1', hat'⟩ := Hr'.out k hlt
      obtain ⟨a1, a2, a3, a4, a5, rfl, r5⟩ := hat
      obtain ⟨d1, d2, d3, d4, d5, rfl, r5'⟩ := hat'
      have hn : moduleE.n = 6 := rfl
      have e0 := (hbel.cell (p := ⟨b, o + k * 6 + 0, none⟩) hb1).trans (hc1 0 (by decide))
      have q0 := (hbel.cell (p := ⟨b', o' + k * 6 + 0, none⟩) hb1').trans (hc1' 0 (by decide))
      have e1 := (hbel.cell (p := ⟨b, o + k * 6 + 1, none⟩) hb1).trans (hc1 1 (by decide))
      have q1 := (hbel.cell (p := ⟨b', o' + k * 6 + 1, none⟩) hb1').trans (hc1' 1 (by decide))
      have e2 := (hbel.cell (p := ⟨b, o + k * 6 + 2, none⟩) hb1).trans (hc1 2 (by decide))
      have q2 := (hbel.cell (p := ⟨b', o' + k * 6 + 2, none⟩) hb1').trans (hc1' 2 (by decide))
      have e3 := (hbel.cell (p := ⟨b, o + k * 6 + 3, none⟩) hb1).trans (hc1 3 (by decide))
      have q3 := (hbel.cell (p := ⟨b', o' + k * 6 + 3, none⟩) hb1').trans (hc1' 3 (by decide))
      have e4 := (hbel.cell (p := ⟨b, o + k * 6 + 4, none⟩) hb1).trans (hc1 4 (by decide))
      have e5 := (hbel.cell (p := ⟨b, o + k * 6 + 5, none⟩) hb1).trans (hc1 5 (by decide))
      have q4 := (hbel.cell (p := ⟨b', o' + k * 6 + 4, none⟩) hb1').trans (hc1' 4 (by decide))
      have q5 := (hbel.cell (p := ⟨b', o' + k * 6 + 5, none⟩) hb1').trans (hc1' 5 (by decide))
      simp at e0 q0 e1 q1 e2 q2 e3 q3 e4 q4 e5 q5
      have R5 := Lib.hid (r5.below hbel)
      have R5' := Lib.hid (r5'.below hbel)
      have hwt := Ht.out l[k] (List.getElem_mem hlt)
      have i1 : (0 : Int) ≤ (k : Int) := by omega
      have i2 : (k : Int) < (l.length : Int) := by omega
      have Hbel := Lib.hid hbel
      clear hbel hc1 hc1' Hr Hr' r5 r5'
      generalize l[k] = t at *
      go_wp2_with fail
      go_still_tail 8, (by kernel_rfl)
      go_wp2_with fail
      have Kt := ScopeK.of (Nat.le_trans (ModuleD.wtS t) hwt)
      refine (lEqModule t a1 a2 a3 a4 a5 d1 d2 d3 d4 d5 _ _ _ _ _ _ _ _ _ _ _ Kt (Nat.le_trans (ModuleD.wtN t) hwt) R5.out.drew R5'.out.drew).mono ?_
      rintro e w1 ⟨rfl, hw1⟩
      go_wp2_with fail
      exact ⟨⟨k + 1, by congr 1, by omega, (belowN Hbel.out 1).trans (hw1.mono (Hbel.out.size))⟩, by simp [intOf]; omega⟩
    · go_wp2_with fail
      go_ret
      exact ⟨rfl, hbel⟩

set_option maxHeartbeats 2000000 in
theorem lSzModuleS (a : Option Addr) (c : Nat) (l : List ModuleD) (w : World) (left : Int) (h0 : 0 ≤ left) (h1 : left ≤ 1048576) (hl : l.length ≤ maxLen) (hcm : ∀ t ∈ l, t.came) (hr : Rows moduleS Any w a l) :
    Calls Try.prog 4 #[.slice a l.length c, .int .i64 left] w fun e w' => ∃ r : Int, e = .returned (.int .i64 r) ∧ (r = -1 ∨ (0 ≤ r ∧ r = left - ((wtL ModuleD.wt l : Nat) : Int))) ∧ Below w.heap.size w w' := by
  have Hr := Lib.hid hr
  have Hcm := Lib.hid hcm
  clear hr hcm
  unfold maxLen at hl
  go_enter Try.func4, Try.ntmps4
  by_cases hn0 : left - (l.length : Int) < 0
  · go_wp2_with fail
    go_ret
    exact ⟨-1, rfl, .inl rfl, Below.refl _ _⟩
  go_wp2_with fail
  go_loopw [1, 5] (fun r i wr => ∃ k : Nat, i = .int .i64 k ∧ k ≤ l.length ∧ (∃ z : Int, r = .int .i64 z ∧ 0 ≤ z ∧ z = left - (l.length : Int) - ((wtK ModuleD.wt l k : Nat) : Int)) ∧ Below w.heap.size w wr) (fun _ i _ => l.length - (intOf i).toNat)
  case atStart => exact ⟨0, rfl, by omega, ⟨_, rfl, by omega, by simp [wtK]⟩, Below.refl _ _⟩
  case round =>
    obtain ⟨k, rfl, hk, ⟨z, rfl, hz0, hz⟩, hbel⟩ := hrel
    by_cases hlt : k < l.length
    · obtain ⟨b, o, cs, rfl, _, hb1, hc1, hat⟩ := Hr.out k hlt
      obtain ⟨a1, a2, a3, a4, a5, c1, c2, c3, c4, c5, rfl, r5⟩ := hat
      have hn : moduleS.n = 6 := rfl
      have e0 := (hbel.cell (p := ⟨b, o + k * 6 + 0, none⟩) hb1).trans (hc1 0 (by decide))
      have e1 := (hbel.cell (p := ⟨b, o + k * 6 + 1, none⟩) hb1).trans (hc1 1 (by decide))
      have e2 := (hbel.cell (p := ⟨b, o + k * 6 + 2, none⟩) hb1).trans (hc1 2 (by decide))
      have e3 := (hbel.cell (p := ⟨b, o + k * 6 + 3, none⟩) hb1).trans (hc1 3 (by decide))
      have e4 := (hbel.cell (p := ⟨b, o + k * 6 + 4, none⟩) hb1).trans (hc1 4 (by decide))
      have e5 := (hbel.cell (p := ⟨b, o + k * 6 + 5, none⟩) hb1).trans (hc1 5 (by decide))
      simp at e0 e1 e2 e3 e4 e5
      have R5 := Lib.hid (r5.below hbel)
      have Hbel := Lib.hid hbel
      have Hc := Lib.hid (Hcm.out l[k] (List.getElem_mem hlt))
      have Hk := Lib.hid (wtK_succ ModuleD.wt hlt)
      have Hz := Lib.hid hz
      have hz1 : z ≤ 1048576 := by omega
      clear hbel hc1 hz r5
      generalize l[k] = t at *
      go_wp2_with fail
      refine (lSzModule t a1 a2 a3 a4 a5 c1 c2 c3 c4 c5 wr z hz0 hz1 Hc.out R5.out).mono ?_
      rintro e w1 ⟨r, rfl, hr, hw1⟩
      have HBel := Lib.hid (Hbel.out.trans (hw1.mono Hbel.out.size))
      clear hw1
      rcases hr with rfl | ⟨hr0, hr1⟩
      · go_wp2_with fail
        go_ret
        exact ⟨-1, rfl, .inl rfl, HBel.out⟩
      · have Hr1 := Lib.hid hr1
        clear hr1
        go_wp2_with fail
        exact ⟨⟨k + 1, by congr 1, by omega, ⟨r, rfl, hr0, by rw [Hk.out, Hr1.out, Hz.out]; push_cast; omega⟩, HBel.out⟩, by simp [intOf]; omega⟩
    · obtain rfl : k = l.length := by omega
      have Hz := Lib.hid hz
      have Hbel := Lib.hid hbel
      clear hz hbel
      go_wp2_with fail
      go_ret
      exact ⟨z, rfl, .inr ⟨hz0, by rw [Hz.out, wtK_all, wtL]; push_cast; omega⟩, Hbel.out⟩

end Go.Proofs.Ytcekjdikoamjjaa
