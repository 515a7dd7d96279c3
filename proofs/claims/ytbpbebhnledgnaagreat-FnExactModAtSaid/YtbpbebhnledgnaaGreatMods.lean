
/-
  What is proved: rows of scopes in memory: opened where they came in, counted, copied, compared; what good modules are; contracts of the model's l6Mods and of the program's GoodMods. No condition beside what each theorem states.
-/
import Derived.Test.YtbpbebhnledgnaaGreatOpenScope
import Derived.Test.YtbpbebhnledgnaaGreatToScope
import Derived.Deep.QuietTactic
import Derived.BigQuiet
import Derived.StillTailTactics
import Derived.Test.YtbpbebhnledgnaaGreatLIsExp
namespace Go.Proofs.YtbpbebhnledgnaaGreat
open Go.ChangeShapes Go.WideShapes Go.ChangeAt Go.RowKit

theorem ScopeR.keepQ {Q : Nat → Prop} {w w' : World} {a1 a2 a3 a4 : Option Addr} {s : ScopeD} (h : ScopeR Q w a1 a2 a3 a4 s) (hb : ∀ b, Q b → b < w.heap.size → w'.heap[b]? = w.heap[b]?) (hs : w.heap.size ≤ w'.heap.size) : ScopeR Q w' a1 a2 a3 a4 s := ⟨h.imports.keep hb hs, h.types.keep hb hs, h.objects.keep hb hs, h.uses.keep hb hs⟩
theorem ScopeR.monoQ {Q Q' : Nat → Prop} {w : World} {a1 a2 a3 a4 : Option Addr} {s : ScopeD} (h : ScopeR Q w a1 a2 a3 a4 s) (hq : ∀ b, Q b → b < w.heap.size → Q' b) : ScopeR Q' w a1 a2 a3 a4 s := ⟨h.imports.mono hq, h.types.mono hq, h.objects.mono hq, h.uses.mono hq⟩
def scopeAt (Q : Nat → Prop) (w : World) (cs : List Value) (t : ScopeD) : Prop := ∃ (a1 a2 a3 a4 : Option Addr) (c1 c2 c3 c4 : Nat), cs = [.string t.fName, .slice a1 t.fImports.length c1, .slice a2 t.fTypes.length c2, .slice a3 t.fObjects.length c3, .slice a4 t.fUses.length c4] ∧ ScopeR Q w a1 a2 a3 a4 t
/-- How one that came in lies in memory. -/
def scopeS : Shape ScopeD where
  n := 5
  At := scopeAt
  len h := by obtain ⟨_, _, _, _, _, _, _, _, rfl, _⟩ := h; rfl
  keep h hb hs := by obtain ⟨a1, a2, a3, a4, c1, c2, c3, c4, rfl, h1⟩ := h; exact ⟨a1, a2, a3, a4, c1, c2, c3, c4, rfl, h1.keepQ hb hs⟩
  mono h hq := by obtain ⟨a1, a2, a3, a4, c1, c2, c3, c4, rfl, h1⟩ := h; exact ⟨a1, a2, a3, a4, c1, c2, c3, c4, rfl, h1.monoQ hq⟩
def scopeEAt (Q : Nat → Prop) (w : World) (cs : List Value) (t : ScopeD) : Prop := ∃ (a1 a2 a3 a4 : Option Addr), cs = [.string t.fName, .slice a1 t.fImports.length t.fImports.length, .slice a2 t.fTypes.length t.fTypes.length, .slice a3 t.fObjects.length t.fObjects.length, .slice a4 t.fUses.length t.fUses.length] ∧ ScopeR Q w a1 a2 a3 a4 t
/-- How one that was copied lies in memory: no row is wider than it is long. -/
def scopeE : Shape ScopeD where
  n := 5
  At := scopeEAt
  len h := by obtain ⟨_, _, _, _, rfl, _⟩ := h; rfl
  keep h hb hs := by obtain ⟨a1, a2, a3, a4, rfl, h1⟩ := h; exact ⟨a1, a2, a3, a4, rfl, h1.keepQ hb hs⟩
  mono h hq := by obtain ⟨a1, a2, a3, a4, rfl, h1⟩ := h; exact ⟨a1, a2, a3, a4, rfl, h1.monoQ hq⟩
theorem openScopeS {H : Type} {enc : TypeId × Value → H} {w : World} {base : Nat} {spare : Nat → Bool} {held : Bool} {a : Option Addr} {len cap : Nat} {d : DataW H} {p : List MemPlace}
    (h : ∃ fuel, DataW.trod enc Tryz.prog w base spare held fuel 42 (Value.slice a len cap).cells.toList = some (d, p)) : ∃ l : List ScopeD, l.length = len ∧ len ≤ maxLen ∧ Rows scopeS Any w a l ∧ ∀ t ∈ l, t.came :=
  open_whole scopeS _ Tryz.underlying42 cellsScopeL (by decide) (fun m cs x h => by
    obtain ⟨s, a1, a2, a3, a4, c1, c2, c3, c4, h1, h2, h3⟩ := openScopeL m cs x h
    exact ⟨s, ⟨a1, a2, a3, a4, c1, c2, c3, c4, h1, h2⟩, h3⟩) h
theorem infoScope : (Tryz.prog.info? 33).map (fun i => (i.zero, i.size, i.bytes)) = some (some (.agg #[.string ByteArray.empty, .slice none 0 0, .slice none 0 0, .slice none 0 0, .slice none 0 0]), 5, 112) := by kernel_rfl
theorem makeScope (n : Nat) (W : World) (hn : n ≤ 1048576) : (Instr.makeSlice 45 (.int .i64 (n : Int)) (.int .i64 (n : Int))).run Tryz.prog W = .ok (.slice (some ⟨W.heap.size, 0, none⟩) n n) (W.alloc (.cells (madeCells #[.string ByteArray.empty, .slice none 0 0, .slice none 0 0, .slice none 0 0, .slice none 0 0] (n * 5)) 33)) := by
  obtain ⟨i0, hi0, hz0, hz1, hz2⟩ := info_parts infoScope
  have := run_make (P := Tryz.prog) W 45 33 i0 _ Tryz.underlying45 hi0 hz0 .i64 .i64 (n : Int) (n : Int) (by omega) (by omega) (by rw [hz2]; omega) (by omega)
  rw [this, hz1]
  rfl
set_option maxHeartbeats 2000000 in
theorem lToScopeSB (a : Option Addr) (c : Nat) (l : List ScopeD) (w : World) (hl : l.length ≤ 1048576) (ht : ∀ x ∈ l, x.wt ≤ 1048576) (hr : Rows scopeS Any w a l) :
    Calls Tryz.prog 18 #[.slice a l.length c] w fun e w' => e = .returned (.slice (some ⟨w.heap.size, 0, none⟩) l.length l.length) ∧ Rows scopeE (fun b => w.heap.size ≤ b) w' (some ⟨w.heap.size, 0, none⟩) l ∧ (∃ arr, Box w' w.heap.size 33 arr ∧ arr.size = l.length * 5) ∧ Clean w.heap.size w' ∧ Below w.heap.size w w' := by
  have km := fun W => makeScope l.length W hl
  have Hr := Lib.hid hr
  have Ht := Lib.hid ht
  clear ht
  clear hr
  go_enter Tryz.func18, Tryz.ntmps18
  go_wp2_with fail
  go_loopw [4] (fun i wr => ∃ (k : Nat) (arr : Array Value), i = .int .i64 k ∧ k ≤ l.length ∧ Box wr w.heap.size 33 arr ∧ arr.size = l.length * 5 ∧ Filled scopeE (fun b => w.heap.size < b) wr arr l k ∧ Clean w.heap.size wr ∧ Below w.heap.size w wr) (fun i _ => l.length - (intOf i).toNat)
  case atStart => exact ⟨0, _, rfl, by omega, Box.new w _ _, size_madeCells _ _, Filled.zero, (Clean.refl w).alloc _ _, (Below.refl _ _).alloc (Nat.le_refl _) _⟩
  case round =>
    clear km
    obtain ⟨k, arr, rfl, hk, hb, hsz, hf, hcl, hbel⟩ := hrel
    have Hcl := Lib.hid hcl
    clear hcl
    by_cases hlt : k < l.length
    · obtain ⟨b, o, cs, rfl, _, hb1, hc1, hat⟩ := Hr.out k hlt
      obtain ⟨a1, a2, a3, a4, c1, c2, c3, c4, rfl, r5⟩ := hat
      have hn : scopeS.n = 5 := rfl
      have e0 := (hbel.cell (p := ⟨b, o + k * 5 + 0, none⟩) hb1).trans (hc1 0 (by decide))
      have e1 := (hbel.cell (p := ⟨b, o + k * 5 + 1, none⟩) hb1).trans (hc1 1 (by decide))
      have e2 := (hbel.cell (p := ⟨b, o + k * 5 + 2, none⟩) hb1).trans (hc1 2 (by decide))
      have e3 := (hbel.cell (p := ⟨b, o + k * 5 + 3, none⟩) hb1).trans (hc1 3 (by decide))
      have e4 := (hbel.cell (p := ⟨b, o + k * 5 + 4, none⟩) hb1).trans (hc1 4 (by decide))
      simp at e0 e1 e2 e3 e4
      have R5 := Lib.hid (r5.below hbel)
      have Hb := Lib.hid hb
      have Hf := Lib.hid hf
      have Hbel := Lib.hid hbel
      have Hst := Lib.hid (fun W arr cs => filled_store (S := scopeE) (Q := fun b => w.heap.size < b) (w := W) (g := w.heap.size) (t := 33) (arr := arr) (cs := cs) hlt)
      have hwt := Ht.out l[k] (List.getElem_mem hlt)
      clear hb hf hbel hc1 r5
      generalize l[k] = t at *
      go_wp2_with fail
      have Kt := ScopeK.of hwt
      refine (lToScopeB t a1 a2 a3 a4 c1 c2 c3 c4 wr Kt.li Kt.lt Kt.tw Kt.lo Kt.ow Kt.lu R5.out).mono ?_
      rintro e w1 ⟨b1, b2, b3, b4, rfl, hat', hcl1, hw1⟩
      have HC1 := Lib.hid (Hcl.out.join hw1 hcl1)
      clear hcl1
      have HAT := Lib.hid (show scopeE.At (fun b => w.heap.size < b) w1 [.string t.fName, .slice b1 t.fImports.length t.fImports.length, .slice b2 t.fTypes.length t.fTypes.length, .slice b3 t.fObjects.length t.fObjects.length, .slice b4 t.fUses.length t.fUses.length] t from ⟨b1, b2, b3, b4, rfl, hat'.monoQ (fun b h _ => Nat.lt_of_lt_of_le Hb.out.lt h)⟩)
      clear hat'
      have hb2 := Hb.out.below hw1 Hb.out.lt
      have HB := Lib.hid hb2
      have f0 := hb2.free
      obtain ⟨x0, y0⟩ := hb2.some (i := k * 5) (by omega)
      obtain ⟨x1, y1⟩ := hb2.some (i := k * 5 + 1) (by omega)
      obtain ⟨x2, y2⟩ := hb2.some (i := k * 5 + 2) (by omega)
      obtain ⟨x3, y3⟩ := hb2.some (i := k * 5 + 3) (by omega)
      obtain ⟨x4, y4⟩ := hb2.some (i := k * 5 + 4) (by omega)
      have HF := Lib.hid (Hf.out.keep (fun b _ hl => hw1.block b hl) hw1.size)
      have HBel := Lib.hid (Hbel.out.trans (hw1.mono Hbel.out.size))
      clear hw1 hb2 Hb Hf Hbel
      go_wp2_with fail
      obtain ⟨arr', hB', hs', hF', hO'⟩ := Hst.out w1 arr [.string t.fName, .slice b1 t.fImports.length t.fImports.length, .slice b2 t.fTypes.length t.fTypes.length, .slice b3 t.fObjects.length t.fObjects.length, .slice b4 t.fUses.length t.fUses.length] HB.out hsz HF.out HAT.out (Nat.lt_irrefl _)
      exact ⟨⟨k + 1, arr', by congr 1, by omega, hB', hs', hF', Clean.setL (g := w.heap.size) [.string t.fName, .slice b1 t.fImports.length t.fImports.length, .slice b2 t.fTypes.length t.fTypes.length, .slice b3 t.fObjects.length t.fObjects.length, .slice b4 t.fUses.length t.fUses.length] _ HC1.out, HBel.out.trans (hO'.below (Nat.le_refl _) HB.out.lt)⟩, by simp [intOf]; omega⟩
    · obtain rfl : k = l.length := by omega
      have Hb := Lib.hid hb
      have Hf := Lib.hid hf
      have Hbel := Lib.hid hbel
      clear hb hf hbel
      go_wp2_with fail
      go_ret
      exact ⟨rfl, (Hf.out.mono (fun _ h _ => Nat.le_of_lt h)).rows Hb.out (Nat.le_refl _), ⟨arr, Hb.out, hsz⟩, Hcl.out, Hbel.out⟩

set_option maxRecDepth 100000 in
set_option maxHeartbeats 2000000 in
theorem lEqScopeS (a a' : Option Addr) (c c' : Nat) (l : List ScopeD) (w : World) (hl : l.length ≤ 1048576) (ht : ∀ x ∈ l, x.wt ≤ 1048576) (hr : Rows scopeE Any w a l) (hr' : Rows scopeE Any w a' l) :
    Calls Tryz.prog 20 #[.slice a l.length c, .slice a' l.length c'] w fun e w' => e = .returned (.bool true) ∧ Below w.heap.size w w' := by
  have Hr := Lib.hid hr
  have Hr' := Lib.hid hr'
  have Ht := Lib.hid ht
  clear ht
  clear hr hr'
  go_enter Tryz.func20, Tryz.ntmps20
  go_wp2_with fail
  go_loopw [5] (fun i wr => ∃ k : Nat, i = .int .i64 k ∧ k ≤ l.length ∧ Below w.heap.size w wr) (fun i _ => l.length - (intOf i).toNat)
  case atStart => exact ⟨0, rfl, by omega, Below.refl _ _⟩
  case round =>
    obtain ⟨k, rfl, hk, hbel⟩ := hrel
    by_cases hlt : k < l.length
    · obtain ⟨b, o, cs, rfl, _, hb1, hc1, hat⟩ := Hr.out k hlt
      obtain ⟨b', o', cs', rfl, _, hb1', hc1', hat'⟩ := Hr'.out k hlt
      obtain ⟨a1, a2, a3, a4, rfl, r5⟩ := hat
      obtain ⟨d1, d2, d3, d4, rfl, r5'⟩ := hat'
      have hn : scopeE.n = 5 := rfl
      have e0 := (hbel.cell (p := ⟨b, o + k * 5 + 0, none⟩) hb1).trans (hc1 0 (by decide))
      have q0 := (hbel.cell (p := ⟨b', o' + k * 5 + 0, none⟩) hb1').trans (hc1' 0 (by decide))
      have e1 := (hbel.cell (p := ⟨b, o + k * 5 + 1, none⟩) hb1).trans (hc1 1 (by decide))
      have q1 := (hbel.cell (p := ⟨b', o' + k * 5 + 1, none⟩) hb1').trans (hc1' 1 (by decide))
      have e2 := (hbel.cell (p := ⟨b, o + k * 5 + 2, none⟩) hb1).trans (hc1 2 (by decide))
      have q2 := (hbel.cell (p := ⟨b', o' + k * 5 + 2, none⟩) hb1').trans (hc1' 2 (by decide))
      have e3 := (hbel.cell (p := ⟨b, o + k * 5 + 3, none⟩) hb1).trans (hc1 3 (by decide))
      have q3 := (hbel.cell (p := ⟨b', o' + k * 5 + 3, none⟩) hb1').trans (hc1' 3 (by decide))
      have e4 := (hbel.cell (p := ⟨b, o + k * 5 + 4, none⟩) hb1).trans (hc1 4 (by decide))
      have q4 := (hbel.cell (p := ⟨b', o' + k * 5 + 4, none⟩) hb1').trans (hc1' 4 (by decide))
      simp at e0 q0 e1 q1 e2 q2 e3 q3 e4 q4
      have R5 := Lib.hid (r5.below hbel)
      have R5' := Lib.hid (r5'.below hbel)
      have hwt := Ht.out l[k] (List.getElem_mem hlt)
      have i1 : (0 : Int) ≤ (k : Int) := by omega
      have i2 : (k : Int) < (l.length : Int) := by omega
      have Hbel := Lib.hid hbel
      clear hbel hc1 hc1' Hr Hr' r5 r5'
      generalize l[k] = t at *
      go_wp2_with fail
      go_still_tail 8, (by kernel_rfl)
      go_wp2_with fail
      have Kt := ScopeK.of hwt
      refine (lEqScope t a1 a2 a3 a4 d1 d2 d3 d4 _ _ _ _ _ _ _ _ _ Kt.li Kt.lt Kt.tw Kt.lo Kt.ow Kt.lu R5.out.drew R5'.out.drew).mono ?_
      rintro e w1 ⟨rfl, hw1⟩
      go_wp2_with fail
      exact ⟨⟨k + 1, by congr 1, by omega, (belowN Hbel.out 1).trans (hw1.mono (Hbel.out.size))⟩, by simp [intOf]; omega⟩
    · go_wp2_with fail
      go_ret
      exact ⟨rfl, hbel⟩

set_option maxHeartbeats 2000000 in
theorem lSzScopeS (a : Option Addr) (c : Nat) (l : List ScopeD) (w : World) (left : Int) (h0 : 0 ≤ left) (h1 : left ≤ 1048576) (hl : l.length ≤ maxLen) (hcm : ∀ t ∈ l, t.came) (hr : Rows scopeS Any w a l) :
    Calls Tryz.prog 16 #[.slice a l.length c, .int .i64 left] w fun e w' => ∃ r : Int, e = .returned (.int .i64 r) ∧ (r = -1 ∨ (0 ≤ r ∧ r = left - ((wtL ScopeD.wt l : Nat) : Int))) ∧ Below w.heap.size w w' := by
  have Hr := Lib.hid hr
  have Hcm := Lib.hid hcm
  clear hr hcm
  unfold maxLen at hl
  go_enter Tryz.func16, Tryz.ntmps16
  by_cases hn0 : left - (l.length : Int) < 0
  · go_wp2_with fail
    go_ret
    exact ⟨-1, rfl, .inl rfl, Below.refl _ _⟩
  go_wp2_with fail
  go_loopw [1, 5] (fun r i wr => ∃ k : Nat, i = .int .i64 k ∧ k ≤ l.length ∧ (∃ z : Int, r = .int .i64 z ∧ 0 ≤ z ∧ z = left - (l.length : Int) - ((wtK ScopeD.wt l k : Nat) : Int)) ∧ Below w.heap.size w wr) (fun _ i _ => l.length - (intOf i).toNat)
  case atStart => exact ⟨0, rfl, by omega, ⟨_, rfl, by omega, by simp [wtK]⟩, Below.refl _ _⟩
  case round =>
    obtain ⟨k, rfl, hk, ⟨z, rfl, hz0, hz⟩, hbel⟩ := hrel
    by_cases hlt : k < l.length
    · obtain ⟨b, o, cs, rfl, _, hb1, hc1, hat⟩ := Hr.out k hlt
      obtain ⟨a1, a2, a3, a4, c1, c2, c3, c4, rfl, r5⟩ := hat
      have hn : scopeS.n = 5 := rfl
      have e0 := (hbel.cell (p := ⟨b, o + k * 5 + 0, none⟩) hb1).trans (hc1 0 (by decide))
      have e1 := (hbel.cell (p := ⟨b, o + k * 5 + 1, none⟩) hb1).trans (hc1 1 (by decide))
      have e2 := (hbel.cell (p := ⟨b, o + k * 5 + 2, none⟩) hb1).trans (hc1 2 (by decide))
      have e3 := (hbel.cell (p := ⟨b, o + k * 5 + 3, none⟩) hb1).trans (hc1 3 (by decide))
      have e4 := (hbel.cell (p := ⟨b, o + k * 5 + 4, none⟩) hb1).trans (hc1 4 (by decide))
      simp at e0 e1 e2 e3 e4
      have R5 := Lib.hid (r5.below hbel)
      have Hbel := Lib.hid hbel
      have Hc := Lib.hid (Hcm.out l[k] (List.getElem_mem hlt))
      have Hk := Lib.hid (wtK_succ ScopeD.wt hlt)
      have Hz := Lib.hid hz
      have hz1 : z ≤ 1048576 := by omega
      clear hbel hc1 hz r5
      generalize l[k] = t at *
      go_wp2_with fail
      refine (lSzScope t a1 a2 a3 a4 c1 c2 c3 c4 wr z hz0 hz1 Hc.out R5.out).mono ?_
      rintro e w1 ⟨r, rfl, hr, hw1⟩
      have HBel := Lib.hid (Hbel.out.trans (hw1.mono Hbel.out.size))
      clear hw1
      rcases hr with rfl | ⟨hr0, hr1⟩
      · go_wp2_with fail
        go_ret
        exact ⟨-1, rfl, .inl rfl, HBel.out⟩
      · have Hr1 := Lib.hid hr1
        clear hr1
        go_wp2_with fail
        exact ⟨⟨k + 1, by congr 1, by omega, ⟨r, rfl, hr0, by rw [Hk.out, Hr1.out, Hz.out]; push_cast; omega⟩, HBel.out⟩, by simp [intOf]; omega⟩
    · obtain rfl : k = l.length := by omega
      have Hz := Lib.hid hz
      have Hbel := Lib.hid hbel
      clear hz hbel
      go_wp2_with fail
      go_ret
      exact ⟨z, rfl, .inr ⟨hz0, by rw [Hz.out, wtK_all, wtL]; push_cast; omega⟩, Hbel.out⟩

end Go.Proofs.YtbpbebhnledgnaaGreat

namespace Go.Proofs.YtbpbebhnledgnaaGreat
open Go.ChangeShapes Go.WideShapes Go.ChangeAt Go.RowKit
set_option maxRecDepth 100000

def modsTo (l : List ScopeD) (k : Nat) : Prop := (∀ i (hi : i < l.length), i < k → isExpB l[i] = true) ∧ ∀ i j (hi : i < l.length) (hj : j < l.length), i < j → j < k → l[i].fName ≠ l[j].fName
/-- Modules that a module may import from. -/
def modsP (l : List ScopeD) : Prop := l.length ≤ 8 ∧ modsTo l l.length
open Classical in
noncomputable def modsB (l : List ScopeD) : Bool := decide (modsP l)
theorem modsB_true {l : List ScopeD} (h : modsP l) : modsB l = true := by unfold modsB; simpa using h
theorem modsB_false {l : List ScopeD} (h : ¬ modsP l) : modsB l = false := by unfold modsB; simpa using h
theorem mods_bad {l : List ScopeD} {k : Nat} (h : k < l.length) (hn : isExpB l[k] = false) : modsB l = false := modsB_false fun g => by have := g.2.1 k h h; rw [hn] at this; cases this
theorem mods_twice {l : List ScopeD} {i k : Nat} (hik : i < k) (h : k < l.length) (hn : (l[i]'(by omega)).fName = l[k].fName) : modsB l = false := modsB_false fun g => g.2.2 i k (by omega) h hik h hn
theorem mods_zero {l : List ScopeD} : modsTo l 0 := ⟨fun _ _ h => absurd h (by omega), fun _ _ _ _ _ h => absurd h (by omega)⟩
theorem mods_next {l : List ScopeD} {k : Nat} (hk : k < l.length) (h : modsTo l k) (h1 : isExpB l[k] = true) (h2 : ∀ i (hi : i < l.length), i < k → l[i].fName ≠ l[k].fName) : modsTo l (k + 1) :=
  ⟨fun i hi hik => by
    by_cases e : i = k
    · subst e; exact h1
    · exact h.1 i hi (by omega), fun i j hi hj hij hjk => by
    by_cases e : j = k
    · subst e; exact h2 i hi hij
    · exact h.2 i j hi hj hij (by omega)⟩
/-- The number of the module of a name. -/
def isMod (l : List ScopeD) (n : ByteArray) (r : Int) : Prop := (∃ i, ∃ h : i < l.length, r = (i : Int) ∧ l[i].fName = n ∧ ∀ j (hj : j < l.length), j < i → l[j].fName ≠ n) ∨ (r = -1 ∧ ∀ i (h : i < l.length), l[i].fName ≠ n)
theorem scopeE_at {Q : Nat → Prop} {w w' : World} {a : Option Addr} {l : List ScopeD} {k : Nat} (hr : Rows scopeE Q w a l) (hk : k < l.length) (hb : Below w.heap.size w w') :
    ∃ b o a1 a2 a3 a4, a = some ⟨b, o, none⟩ ∧ b < w.heap.size ∧ w'.cell? ⟨b, o + k * 5, none⟩ = some (.string l[k].fName) ∧ w'.cell? ⟨b, o + k * 5 + 1, none⟩ = some (.slice a1 l[k].fImports.length l[k].fImports.length) ∧ w'.cell? ⟨b, o + k * 5 + 2, none⟩ = some (.slice a2 l[k].fTypes.length l[k].fTypes.length) ∧ w'.cell? ⟨b, o + k * 5 + 3, none⟩ = some (.slice a3 l[k].fObjects.length l[k].fObjects.length) ∧ w'.cell? ⟨b, o + k * 5 + 4, none⟩ = some (.slice a4 l[k].fUses.length l[k].fUses.length) ∧ ScopeR Any w' a1 a2 a3 a4 l[k] := by
  obtain ⟨b, o, cs, rfl, _, hb1, hc1, hat⟩ := hr k hk
  obtain ⟨a1, a2, a3, a4, rfl, hs⟩ := hat
  have e0 := (hb.cell (p := ⟨b, o + k * 5 + 0, none⟩) hb1).trans (hc1 0 (by decide))
  have e1 := (hb.cell (p := ⟨b, o + k * 5 + 1, none⟩) hb1).trans (hc1 1 (by decide))
  have e2 := (hb.cell (p := ⟨b, o + k * 5 + 2, none⟩) hb1).trans (hc1 2 (by decide))
  have e3 := (hb.cell (p := ⟨b, o + k * 5 + 3, none⟩) hb1).trans (hc1 3 (by decide))
  have e4 := (hb.cell (p := ⟨b, o + k * 5 + 4, none⟩) hb1).trans (hc1 4 (by decide))
  exact ⟨b, o, a1, a2, a3, a4, rfl, hb1, e0, e1, e2, e3, e4, hs.any.below hb⟩
theorem scopeE_take {Q : Nat → Prop} {w : World} {a : Option Addr} {l : List ScopeD} (hr : Rows scopeE Q w a l) (k : Nat) : Rows scopeE Q w a (l.take k) := fun i hi => by
  have hl : i < l.length := by simp at hi; omega
  obtain ⟨b, o, cs, h1, h2, h3, h4, h5⟩ := hr i hl
  exact ⟨b, o, cs, h1, h2, h3, h4, by rw [List.getElem_take]; exact h5⟩

set_option maxHeartbeats 8000000 in
theorem sl6Mod (a : Option Addr) (c : Nat) (l : List ScopeD) (n : ByteArray) (w : World) (hl : l.length ≤ 1048576) (hr : Rows scopeE Any w a l) :
    Calls Tryz.prog 51 #[.slice a l.length c, .string n] w fun e w' => ∃ r : Int, e = .returned (.int .i64 r) ∧ isMod l n r ∧ Below w.heap.size w w' := by
  have Hr := Lib.hid hr
  clear hr
  go_enter Tryz.func51, Tryz.ntmps51
  go_wp2_with fail
  go_loopw [9] (fun i wr => ∃ k : Nat, i = .int .i64 k ∧ k ≤ l.length ∧ (∀ j (hj : j < l.length), j < k → l[j].fName ≠ n) ∧ Below w.heap.size w wr) (fun i _ => l.length - (intOf i).toNat)
  case atStart => exact ⟨0, rfl, by omega, fun _ _ h => absurd h (by omega), Below.refl _ _⟩
  case round =>
    obtain ⟨k, rfl, hk, hno, hbel⟩ := hrel
    have Hno := Lib.hid hno
    clear hno
    by_cases hlt : k < l.length
    · obtain ⟨b, o, a1, a2, a3, a4, hba, hb1, e0, e1, e2, e3, e4, _⟩ := scopeE_at Hr.out hlt hbel
      subst hba
      have hsz := hbel.size
      have B0 := Lib.hid (hbel.alloc hsz (.cells (scopeC l[k] a1 a2 a3 a4 l[k].fImports.length l[k].fTypes.length l[k].fObjects.length l[k].fUses.length) 33))
      have Hy := Lib.hid (show l[k].fName = n → isMod l n (k : Int) from fun h => .inl ⟨k, hlt, rfl, h, Hno.out⟩)
      have Hn := Lib.hid (show l[k].fName ≠ n → ∀ j (hj : j < l.length), j < k + 1 → l[j].fName ≠ n from fun h j hj hjk => by
        by_cases e : j = k
        · subst e; exact h
        · exact Hno.out j hj (by omega))
      clear hbel
      generalize l[k] = t at *
      by_cases he : t.fName = n
      · have Hv := Lib.hid (Hy.out he)
        have hb := bytes_same t.fName n true (by simp [he])
        clear he
        go_wp2_with fail
        go_ret
        exact ⟨_, rfl, Hv.out, B0.out⟩
      · have Hv := Lib.hid (Hn.out he)
        have hb := bytes_same t.fName n false (by simp [he])
        clear he
        go_wp2_with fail
        exact ⟨⟨k + 1, by congr 1, by omega, Hv.out, B0.out⟩, by simp [intOf]; omega⟩
    · have Hv := Lib.hid (show isMod l n (-1) from .inr ⟨rfl, fun i hi => Hno.out i hi (by omega)⟩)
      have Hbel := Lib.hid hbel
      clear hbel
      go_wp2_with fail
      go_ret
      exact ⟨_, rfl, Hv.out, Hbel.out⟩

set_option maxHeartbeats 16000000 in
theorem iGoodMods (a : Option Addr) (c : Nat) (l : List ScopeD) (w : World) (hl : l.length ≤ 1048576) (hK : ∀ s ∈ l, ScopeK s) (hr : Rows scopeE Any w a l) :
    Calls Tryz.prog 19 #[.slice a l.length c] w fun e w' => e = .returned (.bool (modsB l)) ∧ Below w.heap.size w w' := by
  have Hr := Lib.hid hr
  have HK := Lib.hid hK
  clear hr hK
  go_enter Tryz.func19, Tryz.ntmps19
  by_cases h8 : 8 < l.length
  · have Hv := Lib.hid (modsB_false (l := l) (fun h => by have := h.1; omega))
    have h8' : (8 : Int) < (l.length : Int) := by omega
    go_wp2_with fail
    go_ret
    exact ⟨by rw [Hv.out]; rfl, Below.refl _ _⟩
  have h8' : ¬ (8 : Int) < (l.length : Int) := by omega
  go_wp2_with fail
  go_loopw [13, 3] (fun i x wr => ∃ (k : Nat) (v : Value), i = .int .i64 k ∧ v = x ∧ k ≤ l.length ∧ (∀ j (hj : j < l.length), j < k → isExpB l[j] = true) ∧ OwnStrs wr w.heap.size v ((l.take k).map ScopeD.fName) ∧ Below w.heap.size w wr) (fun i _ _ => l.length - (intOf i).toNat)
  case atStart => exact ⟨0, _, rfl, rfl, by omega, fun _ _ h => absurd h (by omega), by rw [List.take_zero]; exact OwnStrs.nil, Below.refl _ _⟩
  case round =>
    obtain ⟨k, v, rfl, rfl, hk, hex, hown, hbel⟩ := hrel
    have Hex := Lib.hid hex
    have Hown := Lib.hid hown
    clear hex hown
    by_cases hlt : k < l.length
    · obtain ⟨b, o, a1, a2, a3, a4, hba, hb1, e0, e1, e2, e3, e4, hsr⟩ := scopeE_at Hr.out hlt hbel
      subst hba
      have hsz := hbel.size
      have B0 := Lib.hid (hbel.alloc hsz (.cells (scopeC l[k] a1 a2 a3 a4 l[k].fImports.length l[k].fTypes.length l[k].fObjects.length l[k].fUses.length) 33))
      have X0 := Lib.hid (Box.new wr 33 (scopeC l[k] a1 a2 a3 a4 l[k].fImports.length l[k].fTypes.length l[k].fObjects.length l[k].fUses.length))
      have O0 := Lib.hid (Hown.out.alloc (.cells (scopeC l[k] a1 a2 a3 a4 l[k].fImports.length l[k].fTypes.length l[k].fObjects.length l[k].fUses.length) 33))
      have HI := Lib.hid (iIsExport l[k] a1 a2 a3 a4 _ (HK.out _ (List.getElem_mem hlt)) (hsr.below ((Below.refl wr.heap.size wr).alloc (Nat.le_refl _) (.cells (scopeC l[k] a1 a2 a3 a4 l[k].fImports.length l[k].fTypes.length l[k].fObjects.length l[k].fUses.length) 33))))
      have Hbad := Lib.hid (mods_bad hlt)
      have Hnx := Lib.hid (show isExpB l[k] = true → ∀ j (hj : j < l.length), j < k + 1 → isExpB l[j] = true from fun h j hj hjk => by
        by_cases e : j = k
        · subst e; exact h
        · exact Hex.out j hj (by omega))
      have Htk := Lib.hid (show (l.take (k + 1)).map ScopeD.fName = (l.take k).map ScopeD.fName ++ [l[k].fName] by rw [List.take_succ_eq_append_getElem hlt, List.map_append]; rfl)
      have hlen : ((l.take k).map ScopeD.fName).length ≤ k := by simp; omega
      clear hbel hsr
      generalize l[k] = t at *
      generalize (l.take k).map ScopeD.fName = ns at *
      cases hq : isExpB t
      · have Hv := Lib.hid (Hbad.out hq)
        rw [hq] at HI
        go_wp2_with fail
        refine HI.out.mono ?_
        rintro e w2 ⟨rfl, hb2⟩
        have B2 := Lib.hid (B0.out.trans (hb2.mono B0.out.size))
        clear hb2 HI
        go_wp2_with fail
        go_ret
        exact ⟨by rw [Hv.out]; rfl, B2.out⟩
      · have Hv := Lib.hid (Hnx.out hq)
        rw [hq] at HI
        go_wp2_with fail
        refine HI.out.mono ?_
        rintro e w2 ⟨rfl, hb2⟩
        have B2 := Lib.hid (B0.out.trans (hb2.mono B0.out.size))
        have O2 := Lib.hid (O0.out.below hb2)
        have x0 : _ = some (Value.string t.fName) := (X0.out.below hb2 X0.out.lt).cell 0
        have s2 := B2.out.size
        clear hb2 HI
        go_wp2_with (at_builtin; refine wpList_pushStr rfl (.tmp 24) (.tmp 27) rfl w.heap.size _ _ ns rfl O2.out _ _ rfl (by simp) (by omega) (by first | omega | (simp; omega)) ?_)
        intro v' w4 hown4 hg4 hlt4
        have B4 := Lib.hid (B2.out.grown hg4 (by omega) (fun k hk => (hlt4 k hk).1))
        rw [← Htk.out] at hown4
        have O4 := Lib.hid hown4
        clear hown4 hg4 hlt4 x0
        go_wp2_with fail
        exact ⟨⟨k + 1, _, by congr 1, rfl, by omega, Hv.out, O4.out, B4.out⟩, by simp [intOf]; omega⟩
    · have hown2 := Hown.out
      rw [show k = l.length by omega, List.take_length] at hown2
      obtain ⟨na, nc, rfl, hn1, _, _, hnr⟩ := hown2.rows
      have hll : (l.map ScopeD.fName).length = l.length := by simp
      have HA := Lib.hid (iAreUnlike na nc (l.map ScopeD.fName) wr (by omega) (fun x hx => by
        obtain ⟨s, hs, rfl⟩ := List.mem_map.1 hx
        exact (HK.out s hs).nm) hnr.any)
      have Hv := Lib.hid (show modsB l = namesB (l.map ScopeD.fName) from by
        by_cases h : namesOk (l.map ScopeD.fName)
        · rw [namesB_true h]
          refine modsB_true ⟨by omega, fun i hi _ => Hex.out i hi (by omega), fun i j hi hj hij _ e => ?_⟩
          exact h.2 i j (by simpa using hi) (by simpa using hj) hij (by simpa using hj) (by simpa using e)
        · rw [namesB_false h]
          refine modsB_false (fun g => h ⟨fun i hi _ => ?_, fun i j hi hj hij _ e => ?_⟩)
          · have hi' : i < l.length := by simpa using hi
            have h1 := Hex.out i hi' (by omega)
            unfold isExpB at h1
            rw [Bool.and_eq_true] at h1
            have h2 : scopeP l[i] := by
              have := h1.1
              unfold scopeB at this
              simpa using this
            rw [List.getElem_map]
            exact h2.1
          · exact g.2.2 i j (by simpa using hi) (by simpa using hj) hij (by simpa using hj) (by simpa using e))
      rw [hll] at HA
      have Hbel := Lib.hid hbel
      clear hbel hown2 hnr hll
      rw [List.length_map]
      go_wp2_with fail
      refine HA.out.mono ?_
      rintro e w5 ⟨rfl, hb5⟩
      go_wp2_with fail
      go_ret
      exact ⟨by rw [Hv.out]; rfl, Hbel.out.trans (hb5.mono Hbel.out.size)⟩

set_option maxHeartbeats 32000000 in
theorem sl6Mods (a : Option Addr) (c : Nat) (l : List ScopeD) (w : World) (hl : l.length ≤ 1048576) (hc : l.length ≤ c) (hc2 : c ≤ maxLen) (hK : ∀ s ∈ l, ScopeK s) (hr : Rows scopeE Any w a l) :
    Calls Tryz.prog 49 #[.slice a l.length c] w fun e w' => e = .returned (.bool (modsB l)) ∧ Below w.heap.size w w' := by
  have Hr := Lib.hid hr
  have HK := Lib.hid hK
  unfold maxLen at hc2
  clear hr hK
  go_enter Tryz.func49, Tryz.ntmps49
  go_wp2_with fail
  go_loopw [7] (fun i wr => ∃ k : Nat, i = .int .i64 k ∧ k ≤ l.length ∧ modsTo l k ∧ Below w.heap.size w wr) (fun i _ => l.length - (intOf i).toNat)
  case atStart => exact ⟨0, rfl, by omega, mods_zero, Below.refl _ _⟩
  case round =>
    obtain ⟨k, rfl, hk, hto, hbel⟩ := hrel
    have Hto := Lib.hid hto
    clear hto
    by_cases hlt : k < l.length
    · obtain ⟨b, o, a1, a2, a3, a4, hba, hb1, e0, e1, e2, e3, e4, hsr⟩ := scopeE_at Hr.out hlt hbel
      subst hba
      have hsz := hbel.size
      have K := Lib.hid (HK.out _ (List.getElem_mem hlt))
      have Hbad := Lib.hid (mods_bad hlt)
      have Htw := Lib.hid (fun i (hik : i < k) => mods_twice hik hlt)
      have Hnx := Lib.hid (mods_next hlt Hto.out)
      have Y00 := Lib.hid (Box.new wr 33 (scopeC l[k] a1 a2 a3 a4 l[k].fImports.length l[k].fTypes.length l[k].fObjects.length l[k].fUses.length))
      have B00 := Lib.hid (hbel.alloc hsz (.cells (scopeC l[k] a1 a2 a3 a4 l[k].fImports.length l[k].fTypes.length l[k].fObjects.length l[k].fUses.length) 33))
      have R00 := Lib.hid (hsr.below ((Below.refl wr.heap.size wr).alloc (Nat.le_refl _) (.cells (scopeC l[k] a1 a2 a3 a4 l[k].fImports.length l[k].fTypes.length l[k].fObjects.length l[k].fUses.length) 33)))
      have HM := Lib.hid (show ∀ W, Below w.heap.size w W → Calls Tryz.prog 51 #[.slice (some ⟨b, o, none⟩) k c, .string l[k].fName] W fun e w' => ∃ r : Int, e = .returned (.int .i64 r) ∧ isMod (l.take k) l[k].fName r ∧ Below W.heap.size W w' from fun W hW => by
        have h := sl6Mod (some ⟨b, o, none⟩) c (l.take k) l[k].fName W (by simp; omega) (scopeE_take (Hr.out.below hW) k)
        rw [List.length_take, Nat.min_eq_left (Nat.le_of_lt hlt)] at h
        exact h)
      have Hnone := Lib.hid (show ∀ r : Int, isMod (l.take k) l[k].fName r → ¬ 0 ≤ r → ∀ i (hi : i < l.length), i < k → l[i].fName ≠ l[k].fName from fun r hr h0 i hi hik e => by
        rcases hr with ⟨j, hj, rfl, _⟩ | ⟨_, h1⟩
        · exact h0 (by omega)
        · exact h1 i (by simp; omega) (by rw [List.getElem_take]; exact e))
      have Hsome := Lib.hid (show ∀ r : Int, isMod (l.take k) l[k].fName r → 0 ≤ r → ∃ i, ∃ hik : i < k, (l[i]'(by omega)).fName = l[k].fName from fun r hr h0 => by
        rcases hr with ⟨j, hj, rfl, h1, _⟩ | ⟨h1, _⟩
        · have hj' : j < k := by simp at hj; omega
          exact ⟨j, hj', by rw [List.getElem_take] at h1; exact h1⟩
        · omega)
      clear hbel hsr
      have hc0 : ¬ c = 0 := by omega
      have hkc : k ≤ c := by omega
      have iw : IntKind.i64.wrap (k : Int) = (k : Int) := IntWalk.i64_in _ (by omega)
      by_cases hp : scopeP l[k]
      · have HG := Lib.hid (fun W (hW : ScopeR Any W a1 a2 a3 a4 l[k]) => by
          have h := sl4Good l[k] a1 a2 a3 a4 l[k].fImports.length l[k].fTypes.length l[k].fObjects.length l[k].fUses.length W (K.out.m hW)
          rw [scopeB_true hp] at h
          exact h)
        obtain ⟨n2, hn2⟩ : ∃ n, n = (tableZ l[k].fTypes (orderZ l[k].fTypes l[k].fObjects)).length := ⟨_, rfl⟩
        obtain ⟨n3, hn3⟩ : ∃ n, n = ((shownO l[k].fObjects).map (transO (orderZ l[k].fTypes l[k].fObjects))).length := ⟨_, rfl⟩
        have HE := Lib.hid (fun W (hW : ScopeR Any W a1 a2 a3 a4 l[k]) => by
          have h := sExport l[k].fName l[k].fTypes l[k].fObjects a1 a2 a3 a4 l[k].fImports.length l[k].fUses.length l[k].fImports.length l[k].fTypes.length l[k].fObjects.length l[k].fUses.length W hp.2.2.1.1 K.out.lo (obs_ok hp) hW.types hW.objects
          unfold PostExp at h
          rw [← hn2, ← hn3] at h
          exact h)
        have HS := Lib.hid (fun (W : World) (b2 b3 : Option Addr) (d2 d3 : Nat) (hA : ScopeR Any W none b2 b3 none (expD l[k])) (hW : ScopeR Any W a1 a2 a3 a4 l[k]) => by
          have h : Calls Tryz.prog 47 #[.agg #[.string l[k].fName, .slice none 0 0, .slice b2 (tableZ l[k].fTypes (orderZ l[k].fTypes l[k].fObjects)).length d2, .slice b3 ((shownO l[k].fObjects).map (transO (orderZ l[k].fTypes l[k].fObjects))).length d3, .slice none 0 0], .agg (scopeC l[k] a1 a2 a3 a4 l[k].fImports.length l[k].fTypes.length l[k].fObjects.length l[k].fUses.length)] W (fun e w' => e = .returned (.bool (eqB (expD l[k]) l[k])) ∧ Below W.heap.size W w') := sSameScope (expD l[k]) l[k] none b2 b3 none a1 a2 a3 a4 0 d2 d3 0 l[k].fImports.length l[k].fTypes.length l[k].fObjects.length l[k].fUses.length W (exp_k hp K.out) hA hW
          rw [← hn2, ← hn3] at h
          exact h)
        have HQ := Lib.hid (isExp_yes hp).2
        clear hn2 hn3 hp
        generalize eqB (expD l[k]) l[k] = qe at *
        generalize l[k] = t at *
        cases qe
        · have Hv := Lib.hid (Hbad.out HQ.out)
          go_wp2_with fail
          generalize hyy : wr.heap.size = y at *
          generalize wr.alloc (.cells (scopeC t a1 a2 a3 a4 t.fImports.length t.fTypes.length t.fObjects.length t.fUses.length) 33) = wq at *
          have Y0 := Lib.hid (show Box wq.drew y 33 (scopeC t a1 a2 a3 a4 t.fImports.length t.fTypes.length t.fObjects.length t.fUses.length) from Y00.out.drewN 1)
          have R0 := Lib.hid R00.out.drew
          have B0 := Lib.hid (show Below w.heap.size w wq.drew from belowN B00.out 1)
          clear hyy
          --MB<
          refine wp_region_held_drew (S := fun w' => w'.cell? ⟨y, 0, none⟩ = some (.string t.fName) ∧ w'.cell? ⟨y, 1, none⟩ = some (.slice a1 t.fImports.length t.fImports.length) ∧ w'.cell? ⟨y, 2, none⟩ = some (.slice a2 t.fTypes.length t.fTypes.length) ∧ w'.cell? ⟨y, 3, none⟩ = some (.slice a3 t.fObjects.length t.fObjects.length) ∧ w'.cell? ⟨y, 4, none⟩ = some (.slice a4 t.fUses.length t.fUses.length)) (by kernel_rfl) ?_ (fun hHeld => ?_)
          · try dsimp only
            exact box5 Y0.out
          refine wpAnyH_take (i := 0) (oi := { dst := some 12, op := Op.load 33 (Operand.tmp 4), type := 33, pos := "l6_front.go:7", after := #[], guard := none }) (v := .agg (scopeC t a1 a2 a3 a4 t.fImports.length t.fTypes.length t.fObjects.length t.fUses.length)) rfl (by kernel_rfl) (by kernel_rfl) (by kernel_rfl) (fun _ _ _ h => h) (Or.inl ⟨by rfl, ?_⟩) (by assumption) ?_
          · intro wS hSw
            try dsimp only at hSw
            go_simp
          try simp only [Act.put, List.setIfInBounds_toArray, List.set_cons_zero, List.set_cons_succ]
          refine wpAnyH_ready (rs := [1]) (by kernel_rfl) (by simp) ?_
          refine AllReadyH.cons (o := { dst := some 13, op := Op.call { callee := Callee.value (Operand.func 27), args := #[Operand.tmp 12], argTypes := #[33] }, type := 4, pos := "l6_front.go:7", after := #[{ on := 0, ground := Ground.data }], guard := none }) rfl (fun K hK => ?_) AllReadyH.nil
          go_simp
          go_at_call 27
          refine (HG.out _ R0.out).mono ?_
          rintro e w1 ⟨rfl, hb1⟩
          have Y1 := Lib.hid (Y0.out.below hb1 Y0.out.lt)
          have R1 := Lib.hid (R0.out.below hb1)
          have B1 := Lib.hid (B0.out.trans (hb1.mono B0.out.size))
          clear hb1
          refine hK.out _ _ ?_ (fun hHeld2 => ?_)
          · try dsimp only
            exact box5 Y1.out
          clear hK K hHeld
          have hHeld := hHeld2
          clear hHeld2
          try simp only [Act.put, List.setIfInBounds_toArray, List.set_cons_zero, List.set_cons_succ]
          refine wpAnyH_take (i := 2) (oi := { dst := some 14, op := Op.unOp UnOp.not 4 (Operand.tmp 13), type := 4, pos := "l6_front.go:7", after := #[{ on := 1, ground := Ground.data }], guard := none }) (v := .bool false) rfl (by kernel_rfl) (by kernel_rfl) (by kernel_rfl) (fun _ _ _ h => h) (Or.inl ⟨by rfl, ?_⟩) (by assumption) ?_
          · intro wS hSw
            try dsimp only at hSw
            go_simp
          try simp only [Act.put, List.setIfInBounds_toArray, List.set_cons_zero, List.set_cons_succ]
          refine wpAnyH_take (i := 3) (oi := { dst := some 15, op := Op.move (Operand.tmp 14), type := 4, pos := "l6_front.go:7", after := #[{ on := 2, ground := Ground.data }, { on := 1, ground := Ground.chain }], guard := none }) (v := .bool false) rfl (by kernel_rfl) (by kernel_rfl) (by kernel_rfl) (fun _ _ _ h => h) (Or.inl ⟨by rfl, ?_⟩) (by assumption) ?_
          · intro wS hSw
            try dsimp only at hSw
            go_simp
          try simp only [Act.put, List.setIfInBounds_toArray, List.set_cons_zero, List.set_cons_succ]
          refine wpAnyH_take (i := 4) (oi := { dst := some 16, op := Op.load 33 (Operand.tmp 4), type := 33, pos := "l6_front.go:7", after := #[{ on := 3, ground := Ground.guard }], guard := some (3, false) }) (v := .agg (scopeC t a1 a2 a3 a4 t.fImports.length t.fTypes.length t.fObjects.length t.fUses.length)) rfl (by kernel_rfl) (by kernel_rfl) (by kernel_rfl) (fun _ _ _ h => h) (Or.inl ⟨by rfl, ?_⟩) (by assumption) ?_
          · intro wS hSw
            try dsimp only at hSw
            go_simp
          try simp only [Act.put, List.setIfInBounds_toArray, List.set_cons_zero, List.set_cons_succ]
          refine wpAnyH_take (i := 6) (oi := { dst := some 18, op := Op.load 33 (Operand.tmp 4), type := 33, pos := "l6_front.go:7", after := #[{ on := 3, ground := Ground.guard }], guard := some (3, false) }) (v := .agg (scopeC t a1 a2 a3 a4 t.fImports.length t.fTypes.length t.fObjects.length t.fUses.length)) rfl (by kernel_rfl) (by kernel_rfl) (by kernel_rfl) (fun _ _ _ h => h) (Or.inl ⟨by rfl, ?_⟩) (by assumption) ?_
          · intro wS hSw
            try dsimp only at hSw
            go_simp
          try simp only [Act.put, List.setIfInBounds_toArray, List.set_cons_zero, List.set_cons_succ]
          refine wpAnyH_ready (rs := [5]) (by kernel_rfl) (by simp) ?_
          refine AllReadyH.cons (o := { dst := some 17, op := Op.call { callee := Callee.value (Operand.func 28), args := #[Operand.tmp 16], argTypes := #[33] }, type := 33, pos := "l6_front.go:7", after := #[{ on := 4, ground := Ground.data }, { on := 3, ground := Ground.chain }, { on := 3, ground := Ground.guard }], guard := some (3, false) }) rfl (fun K hK => ?_) AllReadyH.nil
          go_simp
          go_at_call 28
          refine (HE.out _ R1.out).mono ?_
          rintro e w2 ⟨b2, d2, b3, d3, rfl, _, _, ht, hob, hb2⟩
          have Y2 := Lib.hid (Y1.out.below hb2 Y1.out.lt)
          have R2 := Lib.hid (R1.out.below hb2)
          have B2 := Lib.hid (B1.out.trans (hb2.mono B1.out.size))
          have HT := Lib.hid ht
          have HO := Lib.hid hob
          clear hb2 ht hob
          refine hK.out _ _ ?_ (fun hHeld2 => ?_)
          · try dsimp only
            exact box5 Y2.out
          clear hK K hHeld
          have hHeld := hHeld2
          clear hHeld2
          try simp only [Act.put, List.setIfInBounds_toArray, List.set_cons_zero, List.set_cons_succ]
          refine wpAnyH_ready (rs := [7]) (by kernel_rfl) (by simp) ?_
          refine AllReadyH.cons (o := { dst := some 19, op := Op.call { callee := Callee.value (Operand.func 47), args := #[Operand.tmp 17, Operand.tmp 18], argTypes := #[33, 33] }, type := 4, pos := "l6_front.go:7", after := #[{ on := 5, ground := Ground.data }, { on := 6, ground := Ground.data }, { on := 5, ground := Ground.chain }, { on := 3, ground := Ground.guard }], guard := some (3, false) }) rfl (fun K hK => ?_) AllReadyH.nil
          go_simp
          go_at_call 47
          refine (HS.out _ b2 b3 d2 d3 ⟨Rows.nil, HT.out.any, HO.out.any, Rows.nil⟩ R2.out).mono ?_
          rintro e w3 ⟨rfl, hb3⟩
          have Y3 := Lib.hid (Y2.out.below hb3 Y2.out.lt)
          have R3 := Lib.hid (R2.out.below hb3)
          have B3 := Lib.hid (B2.out.trans (hb3.mono B2.out.size))
          clear hb3
          refine hK.out _ _ ?_ (fun hHeld2 => ?_)
          · try dsimp only
            exact box5 Y3.out
          clear hK K hHeld
          have hHeld := hHeld2
          clear hHeld2
          try simp only [Act.put, List.setIfInBounds_toArray, List.set_cons_zero, List.set_cons_succ]
          refine wpAnyH_take (i := 8) (oi := { dst := some 20, op := Op.unOp UnOp.not 4 (Operand.tmp 19), type := 4, pos := "l6_front.go:7", after := #[{ on := 7, ground := Ground.data }, { on := 3, ground := Ground.guard }], guard := some (3, false) }) (v := .bool true) rfl (by kernel_rfl) (by kernel_rfl) (by kernel_rfl) (fun _ _ _ h => h) (Or.inl ⟨by rfl, ?_⟩) (by assumption) ?_
          · intro wS hSw
            try dsimp only at hSw
            go_simp
          try simp only [Act.put, List.setIfInBounds_toArray, List.set_cons_zero, List.set_cons_succ]
          refine wpAnyH_take (i := 9) (oi := { dst := some 21, op := Op.pick (Operand.tmp 15) (Operand.const (Value.bool true)) (Operand.tmp 20), type := 4, pos := "l6_front.go:7", after := #[{ on := 3, ground := Ground.data }, { on := 8, ground := Ground.data }], guard := none }) (v := .bool true) rfl (by kernel_rfl) (by kernel_rfl) (by kernel_rfl) (fun _ _ _ h => h) (Or.inl ⟨by rfl, ?_⟩) (by assumption) ?_
          · intro wS hSw
            try dsimp only at hSw
            go_simp
          try simp only [Act.put, List.setIfInBounds_toArray, List.set_cons_zero, List.set_cons_succ]
          refine wpAnyH_take (i := 10) (oi := { dst := some 22, op := Op.move (Operand.tmp 21), type := 4, pos := "l6_front.go:7", after := #[{ on := 9, ground := Ground.data }, { on := 7, ground := Ground.chain }], guard := none }) (v := .bool true) rfl (by kernel_rfl) (by kernel_rfl) (by kernel_rfl) (fun _ _ _ h => h) (Or.inl ⟨by rfl, ?_⟩) (by assumption) ?_
          · intro wS hSw
            try dsimp only at hSw
            go_simp
          try simp only [Act.put, List.setIfInBounds_toArray, List.set_cons_zero, List.set_cons_succ]
          refine wpAnyH_take (i := 11) (oi := { dst := some 23, op := Op.move (Operand.tmp 0), type := 45, pos := "l6_front.go:7", after := #[{ on := 10, ground := Ground.guard }], guard := some (10, false) }) (v := undef) rfl (by kernel_rfl) (by kernel_rfl) (by kernel_rfl) (fun _ _ _ h => h) (Or.inr ⟨by rfl, rfl⟩) (by assumption) ?_
          try simp only [Act.put, List.setIfInBounds_toArray, List.set_cons_zero, List.set_cons_succ]
          refine wpAnyH_take (i := 12) (oi := { dst := some 24, op := Op.move (Operand.tmp 3), type := 3, pos := "l6_front.go:7", after := #[{ on := 10, ground := Ground.guard }], guard := some (10, false) }) (v := undef) rfl (by kernel_rfl) (by kernel_rfl) (by kernel_rfl) (fun _ _ _ h => h) (Or.inr ⟨by rfl, rfl⟩) (by assumption) ?_
          try simp only [Act.put, List.setIfInBounds_toArray, List.set_cons_zero, List.set_cons_succ]
          refine wpAnyH_take (i := 13) (oi := { dst := some 25, op := Op.slice 45 (Operand.tmp 23) none (some (Operand.tmp 24)) none, type := 45, pos := "l6_front.go:7", after := #[{ on := 11, ground := Ground.data }, { on := 12, ground := Ground.data }, { on := 10, ground := Ground.guard }], guard := some (10, false) }) (v := undef) rfl (by kernel_rfl) (by kernel_rfl) (by kernel_rfl) (fun _ _ _ h => h) (Or.inr ⟨by rfl, rfl⟩) (by assumption) ?_
          try simp only [Act.put, List.setIfInBounds_toArray, List.set_cons_zero, List.set_cons_succ]
          refine wpAnyH_take (i := 14) (oi := { dst := some 26, op := Op.fieldAddr 33 (Operand.tmp 4) 0, type := 0, pos := "l6_front.go:7", after := #[{ on := 10, ground := Ground.guard }], guard := some (10, false) }) (v := undef) rfl (by kernel_rfl) (by kernel_rfl) (by kernel_rfl) (fun _ _ _ h => h) (Or.inr ⟨by rfl, rfl⟩) (by assumption) ?_
          try simp only [Act.put, List.setIfInBounds_toArray, List.set_cons_zero, List.set_cons_succ]
          refine wpAnyH_take (i := 15) (oi := { dst := some 27, op := Op.load 9 (Operand.tmp 26), type := 9, pos := "l6_front.go:7", after := #[{ on := 14, ground := Ground.data }, { on := 10, ground := Ground.guard }], guard := some (10, false) }) (v := undef) rfl (by kernel_rfl) (by kernel_rfl) (by kernel_rfl) (fun _ _ _ h => h) (Or.inr ⟨by rfl, rfl⟩) (by assumption) ?_
          try simp only [Act.put, List.setIfInBounds_toArray, List.set_cons_zero, List.set_cons_succ]
          refine wpAnyH_take (i := 16) (oi := { dst := some 28, op := Op.call { callee := Callee.value (Operand.func 51), args := #[Operand.tmp 25, Operand.tmp 27], argTypes := #[45, 9] }, type := 3, pos := "l6_front.go:7", after := #[{ on := 13, ground := Ground.data }, { on := 15, ground := Ground.data }, { on := 10, ground := Ground.chain }, { on := 10, ground := Ground.guard }], guard := some (10, false) }) (v := undef) rfl (by kernel_rfl) (by kernel_rfl) (by kernel_rfl) (fun _ _ _ h => h) (Or.inr ⟨by rfl, rfl⟩) (by assumption) ?_
          try simp only [Act.put, List.setIfInBounds_toArray, List.set_cons_zero, List.set_cons_succ]
          refine wpAnyH_take (i := 17) (oi := { dst := some 29, op := Op.binOp BinOp.geq 3 (Operand.tmp 28) (Operand.const (Value.int IntKind.i64 0)) 3, type := 4, pos := "l6_front.go:7", after := #[{ on := 16, ground := Ground.data }, { on := 10, ground := Ground.guard }], guard := some (10, false) }) (v := undef) rfl (by kernel_rfl) (by kernel_rfl) (by kernel_rfl) (fun _ _ _ h => h) (Or.inr ⟨by rfl, rfl⟩) (by assumption) ?_
          try simp only [Act.put, List.setIfInBounds_toArray, List.set_cons_zero, List.set_cons_succ]
          refine wpAnyH_take (i := 18) (oi := { dst := some 30, op := Op.pick (Operand.tmp 22) (Operand.const (Value.bool true)) (Operand.tmp 29), type := 4, pos := "l6_front.go:7", after := #[{ on := 10, ground := Ground.data }, { on := 17, ground := Ground.data }], guard := none }) (v := .bool true) rfl (by kernel_rfl) (by kernel_rfl) (by kernel_rfl) (fun _ _ _ h => h) (Or.inl ⟨by rfl, ?_⟩) (by assumption) ?_
          · intro wS hSw
            try dsimp only at hSw
            go_simp
          try simp only [Act.put, List.setIfInBounds_toArray, List.set_cons_zero, List.set_cons_succ]
          refine wpAnyH_done (by kernel_rfl) ?_ _
          --MB>
          go_wp2_with fail
          go_ret
          exact ⟨by rw [Hv.out]; rfl, B3.out⟩
        · go_wp2_with fail
          generalize hyy : wr.heap.size = y at *
          generalize wr.alloc (.cells (scopeC t a1 a2 a3 a4 t.fImports.length t.fTypes.length t.fObjects.length t.fUses.length) 33) = wq at *
          have Y0 := Lib.hid (show Box wq.drew y 33 (scopeC t a1 a2 a3 a4 t.fImports.length t.fTypes.length t.fObjects.length t.fUses.length) from Y00.out.drewN 1)
          have R0 := Lib.hid R00.out.drew
          have B0 := Lib.hid (show Below w.heap.size w wq.drew from belowN B00.out 1)
          clear hyy
          --MC<
          refine wp_region_held_drew (S := fun w' => w'.cell? ⟨y, 0, none⟩ = some (.string t.fName) ∧ w'.cell? ⟨y, 1, none⟩ = some (.slice a1 t.fImports.length t.fImports.length) ∧ w'.cell? ⟨y, 2, none⟩ = some (.slice a2 t.fTypes.length t.fTypes.length) ∧ w'.cell? ⟨y, 3, none⟩ = some (.slice a3 t.fObjects.length t.fObjects.length) ∧ w'.cell? ⟨y, 4, none⟩ = some (.slice a4 t.fUses.length t.fUses.length)) (by kernel_rfl) ?_ (fun hHeld => ?_)
          · try dsimp only
            exact box5 Y0.out
          refine wpAnyH_take (i := 0) (oi := { dst := some 12, op := Op.load 33 (Operand.tmp 4), type := 33, pos := "l6_front.go:7", after := #[], guard := none }) (v := .agg (scopeC t a1 a2 a3 a4 t.fImports.length t.fTypes.length t.fObjects.length t.fUses.length)) rfl (by kernel_rfl) (by kernel_rfl) (by kernel_rfl) (fun _ _ _ h => h) (Or.inl ⟨by rfl, ?_⟩) (by assumption) ?_
          · intro wS hSw
            try dsimp only at hSw
            go_simp
          try simp only [Act.put, List.setIfInBounds_toArray, List.set_cons_zero, List.set_cons_succ]
          refine wpAnyH_ready (rs := [1]) (by kernel_rfl) (by simp) ?_
          refine AllReadyH.cons (o := { dst := some 13, op := Op.call { callee := Callee.value (Operand.func 27), args := #[Operand.tmp 12], argTypes := #[33] }, type := 4, pos := "l6_front.go:7", after := #[{ on := 0, ground := Ground.data }], guard := none }) rfl (fun K hK => ?_) AllReadyH.nil
          go_simp
          go_at_call 27
          refine (HG.out _ R0.out).mono ?_
          rintro e w1 ⟨rfl, hb1⟩
          have Y1 := Lib.hid (Y0.out.below hb1 Y0.out.lt)
          have R1 := Lib.hid (R0.out.below hb1)
          have B1 := Lib.hid (B0.out.trans (hb1.mono B0.out.size))
          clear hb1
          refine hK.out _ _ ?_ (fun hHeld2 => ?_)
          · try dsimp only
            exact box5 Y1.out
          clear hK K hHeld
          have hHeld := hHeld2
          clear hHeld2
          try simp only [Act.put, List.setIfInBounds_toArray, List.set_cons_zero, List.set_cons_succ]
          refine wpAnyH_take (i := 2) (oi := { dst := some 14, op := Op.unOp UnOp.not 4 (Operand.tmp 13), type := 4, pos := "l6_front.go:7", after := #[{ on := 1, ground := Ground.data }], guard := none }) (v := .bool false) rfl (by kernel_rfl) (by kernel_rfl) (by kernel_rfl) (fun _ _ _ h => h) (Or.inl ⟨by rfl, ?_⟩) (by assumption) ?_
          · intro wS hSw
            try dsimp only at hSw
            go_simp
          try simp only [Act.put, List.setIfInBounds_toArray, List.set_cons_zero, List.set_cons_succ]
          refine wpAnyH_take (i := 3) (oi := { dst := some 15, op := Op.move (Operand.tmp 14), type := 4, pos := "l6_front.go:7", after := #[{ on := 2, ground := Ground.data }, { on := 1, ground := Ground.chain }], guard := none }) (v := .bool false) rfl (by kernel_rfl) (by kernel_rfl) (by kernel_rfl) (fun _ _ _ h => h) (Or.inl ⟨by rfl, ?_⟩) (by assumption) ?_
          · intro wS hSw
            try dsimp only at hSw
            go_simp
          try simp only [Act.put, List.setIfInBounds_toArray, List.set_cons_zero, List.set_cons_succ]
          refine wpAnyH_take (i := 4) (oi := { dst := some 16, op := Op.load 33 (Operand.tmp 4), type := 33, pos := "l6_front.go:7", after := #[{ on := 3, ground := Ground.guard }], guard := some (3, false) }) (v := .agg (scopeC t a1 a2 a3 a4 t.fImports.length t.fTypes.length t.fObjects.length t.fUses.length)) rfl (by kernel_rfl) (by kernel_rfl) (by kernel_rfl) (fun _ _ _ h => h) (Or.inl ⟨by rfl, ?_⟩) (by assumption) ?_
          · intro wS hSw
            try dsimp only at hSw
            go_simp
          try simp only [Act.put, List.setIfInBounds_toArray, List.set_cons_zero, List.set_cons_succ]
          refine wpAnyH_take (i := 6) (oi := { dst := some 18, op := Op.load 33 (Operand.tmp 4), type := 33, pos := "l6_front.go:7", after := #[{ on := 3, ground := Ground.guard }], guard := some (3, false) }) (v := .agg (scopeC t a1 a2 a3 a4 t.fImports.length t.fTypes.length t.fObjects.length t.fUses.length)) rfl (by kernel_rfl) (by kernel_rfl) (by kernel_rfl) (fun _ _ _ h => h) (Or.inl ⟨by rfl, ?_⟩) (by assumption) ?_
          · intro wS hSw
            try dsimp only at hSw
            go_simp
          try simp only [Act.put, List.setIfInBounds_toArray, List.set_cons_zero, List.set_cons_succ]
          refine wpAnyH_ready (rs := [5]) (by kernel_rfl) (by simp) ?_
          refine AllReadyH.cons (o := { dst := some 17, op := Op.call { callee := Callee.value (Operand.func 28), args := #[Operand.tmp 16], argTypes := #[33] }, type := 33, pos := "l6_front.go:7", after := #[{ on := 4, ground := Ground.data }, { on := 3, ground := Ground.chain }, { on := 3, ground := Ground.guard }], guard := some (3, false) }) rfl (fun K hK => ?_) AllReadyH.nil
          go_simp
          go_at_call 28
          refine (HE.out _ R1.out).mono ?_
          rintro e w2 ⟨b2, d2, b3, d3, rfl, _, _, ht, hob, hb2⟩
          have Y2 := Lib.hid (Y1.out.below hb2 Y1.out.lt)
          have R2 := Lib.hid (R1.out.below hb2)
          have B2 := Lib.hid (B1.out.trans (hb2.mono B1.out.size))
          have HT := Lib.hid ht
          have HO := Lib.hid hob
          clear hb2 ht hob
          refine hK.out _ _ ?_ (fun hHeld2 => ?_)
          · try dsimp only
            exact box5 Y2.out
          clear hK K hHeld
          have hHeld := hHeld2
          clear hHeld2
          try simp only [Act.put, List.setIfInBounds_toArray, List.set_cons_zero, List.set_cons_succ]
          refine wpAnyH_ready (rs := [7]) (by kernel_rfl) (by simp) ?_
          refine AllReadyH.cons (o := { dst := some 19, op := Op.call { callee := Callee.value (Operand.func 47), args := #[Operand.tmp 17, Operand.tmp 18], argTypes := #[33, 33] }, type := 4, pos := "l6_front.go:7", after := #[{ on := 5, ground := Ground.data }, { on := 6, ground := Ground.data }, { on := 5, ground := Ground.chain }, { on := 3, ground := Ground.guard }], guard := some (3, false) }) rfl (fun K hK => ?_) AllReadyH.nil
          go_simp
          go_at_call 47
          refine (HS.out _ b2 b3 d2 d3 ⟨Rows.nil, HT.out.any, HO.out.any, Rows.nil⟩ R2.out).mono ?_
          rintro e w3 ⟨rfl, hb3⟩
          have Y3 := Lib.hid (Y2.out.below hb3 Y2.out.lt)
          have R3 := Lib.hid (R2.out.below hb3)
          have B3 := Lib.hid (B2.out.trans (hb3.mono B2.out.size))
          clear hb3
          refine hK.out _ _ ?_ (fun hHeld2 => ?_)
          · try dsimp only
            exact box5 Y3.out
          clear hK K hHeld
          have hHeld := hHeld2
          clear hHeld2
          try simp only [Act.put, List.setIfInBounds_toArray, List.set_cons_zero, List.set_cons_succ]
          refine wpAnyH_take (i := 8) (oi := { dst := some 20, op := Op.unOp UnOp.not 4 (Operand.tmp 19), type := 4, pos := "l6_front.go:7", after := #[{ on := 7, ground := Ground.data }, { on := 3, ground := Ground.guard }], guard := some (3, false) }) (v := .bool false) rfl (by kernel_rfl) (by kernel_rfl) (by kernel_rfl) (fun _ _ _ h => h) (Or.inl ⟨by rfl, ?_⟩) (by assumption) ?_
          · intro wS hSw
            try dsimp only at hSw
            go_simp
          try simp only [Act.put, List.setIfInBounds_toArray, List.set_cons_zero, List.set_cons_succ]
          refine wpAnyH_take (i := 9) (oi := { dst := some 21, op := Op.pick (Operand.tmp 15) (Operand.const (Value.bool true)) (Operand.tmp 20), type := 4, pos := "l6_front.go:7", after := #[{ on := 3, ground := Ground.data }, { on := 8, ground := Ground.data }], guard := none }) (v := .bool false) rfl (by kernel_rfl) (by kernel_rfl) (by kernel_rfl) (fun _ _ _ h => h) (Or.inl ⟨by rfl, ?_⟩) (by assumption) ?_
          · intro wS hSw
            try dsimp only at hSw
            go_simp
          try simp only [Act.put, List.setIfInBounds_toArray, List.set_cons_zero, List.set_cons_succ]
          refine wpAnyH_take (i := 10) (oi := { dst := some 22, op := Op.move (Operand.tmp 21), type := 4, pos := "l6_front.go:7", after := #[{ on := 9, ground := Ground.data }, { on := 7, ground := Ground.chain }], guard := none }) (v := .bool false) rfl (by kernel_rfl) (by kernel_rfl) (by kernel_rfl) (fun _ _ _ h => h) (Or.inl ⟨by rfl, ?_⟩) (by assumption) ?_
          · intro wS hSw
            try dsimp only at hSw
            go_simp
          try simp only [Act.put, List.setIfInBounds_toArray, List.set_cons_zero, List.set_cons_succ]
          refine wpAnyH_take (i := 11) (oi := { dst := some 23, op := Op.move (Operand.tmp 0), type := 45, pos := "l6_front.go:7", after := #[{ on := 10, ground := Ground.guard }], guard := some (10, false) }) (v := .slice (some ⟨b, o, none⟩) l.length c) rfl (by kernel_rfl) (by kernel_rfl) (by kernel_rfl) (fun _ _ _ h => h) (Or.inl ⟨by rfl, ?_⟩) (by assumption) ?_
          · intro wS hSw
            try dsimp only at hSw
            go_simp
          try simp only [Act.put, List.setIfInBounds_toArray, List.set_cons_zero, List.set_cons_succ]
          refine wpAnyH_take (i := 12) (oi := { dst := some 24, op := Op.move (Operand.tmp 3), type := 3, pos := "l6_front.go:7", after := #[{ on := 10, ground := Ground.guard }], guard := some (10, false) }) (v := .int .i64 (k : Int)) rfl (by kernel_rfl) (by kernel_rfl) (by kernel_rfl) (fun _ _ _ h => h) (Or.inl ⟨by rfl, ?_⟩) (by assumption) ?_
          · intro wS hSw
            try dsimp only at hSw
            go_simp
          try simp only [Act.put, List.setIfInBounds_toArray, List.set_cons_zero, List.set_cons_succ]
          refine wpAnyH_take (i := 13) (oi := { dst := some 25, op := Op.slice 45 (Operand.tmp 23) none (some (Operand.tmp 24)) none, type := 45, pos := "l6_front.go:7", after := #[{ on := 11, ground := Ground.data }, { on := 12, ground := Ground.data }, { on := 10, ground := Ground.guard }], guard := some (10, false) }) (v := .slice (some ⟨b, o, none⟩) k c) rfl (by kernel_rfl) (by kernel_rfl) (by kernel_rfl) (fun _ _ _ h => h) (Or.inl ⟨by rfl, ?_⟩) (by assumption) ?_
          · intro wS hSw
            try dsimp only at hSw
            go_simp
          try simp only [Act.put, List.setIfInBounds_toArray, List.set_cons_zero, List.set_cons_succ]
          refine wpAnyH_take (i := 14) (oi := { dst := some 26, op := Op.fieldAddr 33 (Operand.tmp 4) 0, type := 0, pos := "l6_front.go:7", after := #[{ on := 10, ground := Ground.guard }], guard := some (10, false) }) (v := .pointer (some ⟨y, 0, none⟩)) rfl (by kernel_rfl) (by kernel_rfl) (by kernel_rfl) (fun _ _ _ h => h) (Or.inl ⟨by rfl, ?_⟩) (by assumption) ?_
          · intro wS hSw
            try dsimp only at hSw
            go_simp
          try simp only [Act.put, List.setIfInBounds_toArray, List.set_cons_zero, List.set_cons_succ]
          refine wpAnyH_take (i := 15) (oi := { dst := some 27, op := Op.load 9 (Operand.tmp 26), type := 9, pos := "l6_front.go:7", after := #[{ on := 14, ground := Ground.data }, { on := 10, ground := Ground.guard }], guard := some (10, false) }) (v := .string t.fName) rfl (by kernel_rfl) (by kernel_rfl) (by kernel_rfl) (fun _ _ _ h => h) (Or.inl ⟨by rfl, ?_⟩) (by assumption) ?_
          · intro wS hSw
            try dsimp only at hSw
            go_simp
          try simp only [Act.put, List.setIfInBounds_toArray, List.set_cons_zero, List.set_cons_succ]
          refine wpAnyH_ready (rs := [16]) (by kernel_rfl) (by simp) ?_
          refine AllReadyH.cons (o := { dst := some 28, op := Op.call { callee := Callee.value (Operand.func 51), args := #[Operand.tmp 25, Operand.tmp 27], argTypes := #[45, 9] }, type := 3, pos := "l6_front.go:7", after := #[{ on := 13, ground := Ground.data }, { on := 15, ground := Ground.data }, { on := 10, ground := Ground.chain }, { on := 10, ground := Ground.guard }], guard := some (10, false) }) rfl (fun K hK => ?_) AllReadyH.nil
          go_simp
          go_at_call 51
          refine (HM.out _ (B3.out)).mono ?_
          rintro e w4 ⟨r, rfl, hr, hb4⟩
          have Y4 := Lib.hid (Y3.out.below hb4 Y3.out.lt)
          have R4 := Lib.hid (R3.out.below hb4)
          have B4 := Lib.hid (B3.out.trans (hb4.mono B3.out.size))
          have HR4 := Lib.hid hr
          clear hr hb4
          refine hK.out _ _ ?_ (fun hHeld2 => ?_)
          · try dsimp only
            exact box5 Y4.out
          clear hK K hHeld
          have hHeld := hHeld2
          clear hHeld2
          try simp only [Act.put, List.setIfInBounds_toArray, List.set_cons_zero, List.set_cons_succ]
          refine wpAnyH_take (i := 17) (oi := { dst := some 29, op := Op.binOp BinOp.geq 3 (Operand.tmp 28) (Operand.const (Value.int IntKind.i64 0)) 3, type := 4, pos := "l6_front.go:7", after := #[{ on := 16, ground := Ground.data }, { on := 10, ground := Ground.guard }], guard := some (10, false) }) (v := .bool (decide (0 ≤ r))) rfl (by kernel_rfl) (by kernel_rfl) (by kernel_rfl) (fun _ _ _ h => h) (Or.inl ⟨by rfl, ?_⟩) (by assumption) ?_
          · intro wS hSw
            try dsimp only at hSw
            go_simp
          try simp only [Act.put, List.setIfInBounds_toArray, List.set_cons_zero, List.set_cons_succ]
          refine wpAnyH_take (i := 18) (oi := { dst := some 30, op := Op.pick (Operand.tmp 22) (Operand.const (Value.bool true)) (Operand.tmp 29), type := 4, pos := "l6_front.go:7", after := #[{ on := 10, ground := Ground.data }, { on := 17, ground := Ground.data }], guard := none }) (v := .bool (decide (0 ≤ r))) rfl (by kernel_rfl) (by kernel_rfl) (by kernel_rfl) (fun _ _ _ h => h) (Or.inl ⟨by rfl, ?_⟩) (by assumption) ?_
          · intro wS hSw
            try dsimp only at hSw
            go_simp
          try simp only [Act.put, List.setIfInBounds_toArray, List.set_cons_zero, List.set_cons_succ]
          refine wpAnyH_done (by kernel_rfl) ?_ _
          --MC>
          by_cases h0 : 0 ≤ r
          · obtain ⟨i, hik, he⟩ := Hsome.out r HR4.out h0
            have Hv := Lib.hid (Htw.out i hik he)
            have hd : decide (0 ≤ r) = true := decide_eq_true h0
            clear he
            go_wp2_with fail
            go_ret
            exact ⟨by rw [Hv.out]; rfl, B4.out⟩
          · have Hv := Lib.hid (Hnx.out HQ.out (Hnone.out r HR4.out (by omega)))
            have hd : decide (0 ≤ r) = false := decide_eq_false h0
            go_wp2_with fail
            exact ⟨⟨k + 1, by congr 1, by omega, Hv.out, B4.out⟩, by simp [intOf]; omega⟩
      · have HG := Lib.hid (fun W (hW : ScopeR Any W a1 a2 a3 a4 l[k]) => by
          have h := sl4Good l[k] a1 a2 a3 a4 l[k].fImports.length l[k].fTypes.length l[k].fObjects.length l[k].fUses.length W (K.out.m hW)
          rw [scopeB_false hp] at h
          exact h)
        have Hv := Lib.hid (Hbad.out (isExp_no hp).2)
        clear hp
        generalize l[k] = t at *
        go_wp2_with fail
        generalize hyy : wr.heap.size = y at *
        generalize wr.alloc (.cells (scopeC t a1 a2 a3 a4 t.fImports.length t.fTypes.length t.fObjects.length t.fUses.length) 33) = wq at *
        have Y0 := Lib.hid (show Box wq.drew y 33 (scopeC t a1 a2 a3 a4 t.fImports.length t.fTypes.length t.fObjects.length t.fUses.length) from Y00.out.drewN 1)
        have R0 := Lib.hid R00.out.drew
        have B0 := Lib.hid (show Below w.heap.size w wq.drew from belowN B00.out 1)
        clear hyy
        --MA<
        refine wp_region_held_drew (S := fun w' => w'.cell? ⟨y, 0, none⟩ = some (.string t.fName) ∧ w'.cell? ⟨y, 1, none⟩ = some (.slice a1 t.fImports.length t.fImports.length) ∧ w'.cell? ⟨y, 2, none⟩ = some (.slice a2 t.fTypes.length t.fTypes.length) ∧ w'.cell? ⟨y, 3, none⟩ = some (.slice a3 t.fObjects.length t.fObjects.length) ∧ w'.cell? ⟨y, 4, none⟩ = some (.slice a4 t.fUses.length t.fUses.length)) (by kernel_rfl) ?_ (fun hHeld => ?_)
        · try dsimp only
          exact box5 Y0.out
        refine wpAnyH_take (i := 0) (oi := { dst := some 12, op := Op.load 33 (Operand.tmp 4), type := 33, pos := "l6_front.go:7", after := #[], guard := none }) (v := .agg (scopeC t a1 a2 a3 a4 t.fImports.length t.fTypes.length t.fObjects.length t.fUses.length)) rfl (by kernel_rfl) (by kernel_rfl) (by kernel_rfl) (fun _ _ _ h => h) (Or.inl ⟨by rfl, ?_⟩) (by assumption) ?_
        · intro wS hSw
          try dsimp only at hSw
          go_simp
        try simp only [Act.put, List.setIfInBounds_toArray, List.set_cons_zero, List.set_cons_succ]
        refine wpAnyH_ready (rs := [1]) (by kernel_rfl) (by simp) ?_
        refine AllReadyH.cons (o := { dst := some 13, op := Op.call { callee := Callee.value (Operand.func 27), args := #[Operand.tmp 12], argTypes := #[33] }, type := 4, pos := "l6_front.go:7", after := #[{ on := 0, ground := Ground.data }], guard := none }) rfl (fun K hK => ?_) AllReadyH.nil
        go_simp
        go_at_call 27
        refine (HG.out _ R0.out).mono ?_
        rintro e w1 ⟨rfl, hb1⟩
        have Y1 := Lib.hid (Y0.out.below hb1 Y0.out.lt)
        have R1 := Lib.hid (R0.out.below hb1)
        have B1 := Lib.hid (B0.out.trans (hb1.mono B0.out.size))
        clear hb1
        refine hK.out _ _ ?_ (fun hHeld2 => ?_)
        · try dsimp only
          exact box5 Y1.out
        clear hK K hHeld
        have hHeld := hHeld2
        clear hHeld2
        try simp only [Act.put, List.setIfInBounds_toArray, List.set_cons_zero, List.set_cons_succ]
        refine wpAnyH_take (i := 2) (oi := { dst := some 14, op := Op.unOp UnOp.not 4 (Operand.tmp 13), type := 4, pos := "l6_front.go:7", after := #[{ on := 1, ground := Ground.data }], guard := none }) (v := .bool true) rfl (by kernel_rfl) (by kernel_rfl) (by kernel_rfl) (fun _ _ _ h => h) (Or.inl ⟨by rfl, ?_⟩) (by assumption) ?_
        · intro wS hSw
          try dsimp only at hSw
          go_simp
        try simp only [Act.put, List.setIfInBounds_toArray, List.set_cons_zero, List.set_cons_succ]
        refine wpAnyH_take (i := 3) (oi := { dst := some 15, op := Op.move (Operand.tmp 14), type := 4, pos := "l6_front.go:7", after := #[{ on := 2, ground := Ground.data }, { on := 1, ground := Ground.chain }], guard := none }) (v := .bool true) rfl (by kernel_rfl) (by kernel_rfl) (by kernel_rfl) (fun _ _ _ h => h) (Or.inl ⟨by rfl, ?_⟩) (by assumption) ?_
        · intro wS hSw
          try dsimp only at hSw
          go_simp
        try simp only [Act.put, List.setIfInBounds_toArray, List.set_cons_zero, List.set_cons_succ]
        refine wpAnyH_take (i := 4) (oi := { dst := some 16, op := Op.load 33 (Operand.tmp 4), type := 33, pos := "l6_front.go:7", after := #[{ on := 3, ground := Ground.guard }], guard := some (3, false) }) (v := undef) rfl (by kernel_rfl) (by kernel_rfl) (by kernel_rfl) (fun _ _ _ h => h) (Or.inr ⟨by rfl, rfl⟩) (by assumption) ?_
        try simp only [Act.put, List.setIfInBounds_toArray, List.set_cons_zero, List.set_cons_succ]
        refine wpAnyH_take (i := 5) (oi := { dst := some 17, op := Op.call { callee := Callee.value (Operand.func 28), args := #[Operand.tmp 16], argTypes := #[33] }, type := 33, pos := "l6_front.go:7", after := #[{ on := 4, ground := Ground.data }, { on := 3, ground := Ground.chain }, { on := 3, ground := Ground.guard }], guard := some (3, false) }) (v := undef) rfl (by kernel_rfl) (by kernel_rfl) (by kernel_rfl) (fun _ _ _ h => h) (Or.inr ⟨by rfl, rfl⟩) (by assumption) ?_
        try simp only [Act.put, List.setIfInBounds_toArray, List.set_cons_zero, List.set_cons_succ]
        refine wpAnyH_take (i := 6) (oi := { dst := some 18, op := Op.load 33 (Operand.tmp 4), type := 33, pos := "l6_front.go:7", after := #[{ on := 3, ground := Ground.guard }], guard := some (3, false) }) (v := undef) rfl (by kernel_rfl) (by kernel_rfl) (by kernel_rfl) (fun _ _ _ h => h) (Or.inr ⟨by rfl, rfl⟩) (by assumption) ?_
        try simp only [Act.put, List.setIfInBounds_toArray, List.set_cons_zero, List.set_cons_succ]
        refine wpAnyH_take (i := 7) (oi := { dst := some 19, op := Op.call { callee := Callee.value (Operand.func 47), args := #[Operand.tmp 17, Operand.tmp 18], argTypes := #[33, 33] }, type := 4, pos := "l6_front.go:7", after := #[{ on := 5, ground := Ground.data }, { on := 6, ground := Ground.data }, { on := 5, ground := Ground.chain }, { on := 3, ground := Ground.guard }], guard := some (3, false) }) (v := undef) rfl (by kernel_rfl) (by kernel_rfl) (by kernel_rfl) (fun _ _ _ h => h) (Or.inr ⟨by rfl, rfl⟩) (by assumption) ?_
        try simp only [Act.put, List.setIfInBounds_toArray, List.set_cons_zero, List.set_cons_succ]
        refine wpAnyH_take (i := 8) (oi := { dst := some 20, op := Op.unOp UnOp.not 4 (Operand.tmp 19), type := 4, pos := "l6_front.go:7", after := #[{ on := 7, ground := Ground.data }, { on := 3, ground := Ground.guard }], guard := some (3, false) }) (v := undef) rfl (by kernel_rfl) (by kernel_rfl) (by kernel_rfl) (fun _ _ _ h => h) (Or.inr ⟨by rfl, rfl⟩) (by assumption) ?_
        try simp only [Act.put, List.setIfInBounds_toArray, List.set_cons_zero, List.set_cons_succ]
        refine wpAnyH_take (i := 9) (oi := { dst := some 21, op := Op.pick (Operand.tmp 15) (Operand.const (Value.bool true)) (Operand.tmp 20), type := 4, pos := "l6_front.go:7", after := #[{ on := 3, ground := Ground.data }, { on := 8, ground := Ground.data }], guard := none }) (v := .bool true) rfl (by kernel_rfl) (by kernel_rfl) (by kernel_rfl) (fun _ _ _ h => h) (Or.inl ⟨by rfl, ?_⟩) (by assumption) ?_
        · intro wS hSw
          try dsimp only at hSw
          go_simp
        try simp only [Act.put, List.setIfInBounds_toArray, List.set_cons_zero, List.set_cons_succ]
        refine wpAnyH_take (i := 10) (oi := { dst := some 22, op := Op.move (Operand.tmp 21), type := 4, pos := "l6_front.go:7", after := #[{ on := 9, ground := Ground.data }, { on := 7, ground := Ground.chain }], guard := none }) (v := .bool true) rfl (by kernel_rfl) (by kernel_rfl) (by kernel_rfl) (fun _ _ _ h => h) (Or.inl ⟨by rfl, ?_⟩) (by assumption) ?_
        · intro wS hSw
          try dsimp only at hSw
          go_simp
        try simp only [Act.put, List.setIfInBounds_toArray, List.set_cons_zero, List.set_cons_succ]
        refine wpAnyH_take (i := 11) (oi := { dst := some 23, op := Op.move (Operand.tmp 0), type := 45, pos := "l6_front.go:7", after := #[{ on := 10, ground := Ground.guard }], guard := some (10, false) }) (v := undef) rfl (by kernel_rfl) (by kernel_rfl) (by kernel_rfl) (fun _ _ _ h => h) (Or.inr ⟨by rfl, rfl⟩) (by assumption) ?_
        try simp only [Act.put, List.setIfInBounds_toArray, List.set_cons_zero, List.set_cons_succ]
        refine wpAnyH_take (i := 12) (oi := { dst := some 24, op := Op.move (Operand.tmp 3), type := 3, pos := "l6_front.go:7", after := #[{ on := 10, ground := Ground.guard }], guard := some (10, false) }) (v := undef) rfl (by kernel_rfl) (by kernel_rfl) (by kernel_rfl) (fun _ _ _ h => h) (Or.inr ⟨by rfl, rfl⟩) (by assumption) ?_
        try simp only [Act.put, List.setIfInBounds_toArray, List.set_cons_zero, List.set_cons_succ]
        refine wpAnyH_take (i := 13) (oi := { dst := some 25, op := Op.slice 45 (Operand.tmp 23) none (some (Operand.tmp 24)) none, type := 45, pos := "l6_front.go:7", after := #[{ on := 11, ground := Ground.data }, { on := 12, ground := Ground.data }, { on := 10, ground := Ground.guard }], guard := some (10, false) }) (v := undef) rfl (by kernel_rfl) (by kernel_rfl) (by kernel_rfl) (fun _ _ _ h => h) (Or.inr ⟨by rfl, rfl⟩) (by assumption) ?_
        try simp only [Act.put, List.setIfInBounds_toArray, List.set_cons_zero, List.set_cons_succ]
        refine wpAnyH_take (i := 14) (oi := { dst := some 26, op := Op.fieldAddr 33 (Operand.tmp 4) 0, type := 0, pos := "l6_front.go:7", after := #[{ on := 10, ground := Ground.guard }], guard := some (10, false) }) (v := undef) rfl (by kernel_rfl) (by kernel_rfl) (by kernel_rfl) (fun _ _ _ h => h) (Or.inr ⟨by rfl, rfl⟩) (by assumption) ?_
        try simp only [Act.put, List.setIfInBounds_toArray, List.set_cons_zero, List.set_cons_succ]
        refine wpAnyH_take (i := 15) (oi := { dst := some 27, op := Op.load 9 (Operand.tmp 26), type := 9, pos := "l6_front.go:7", after := #[{ on := 14, ground := Ground.data }, { on := 10, ground := Ground.guard }], guard := some (10, false) }) (v := undef) rfl (by kernel_rfl) (by kernel_rfl) (by kernel_rfl) (fun _ _ _ h => h) (Or.inr ⟨by rfl, rfl⟩) (by assumption) ?_
        try simp only [Act.put, List.setIfInBounds_toArray, List.set_cons_zero, List.set_cons_succ]
        refine wpAnyH_take (i := 16) (oi := { dst := some 28, op := Op.call { callee := Callee.value (Operand.func 51), args := #[Operand.tmp 25, Operand.tmp 27], argTypes := #[45, 9] }, type := 3, pos := "l6_front.go:7", after := #[{ on := 13, ground := Ground.data }, { on := 15, ground := Ground.data }, { on := 10, ground := Ground.chain }, { on := 10, ground := Ground.guard }], guard := some (10, false) }) (v := undef) rfl (by kernel_rfl) (by kernel_rfl) (by kernel_rfl) (fun _ _ _ h => h) (Or.inr ⟨by rfl, rfl⟩) (by assumption) ?_
        try simp only [Act.put, List.setIfInBounds_toArray, List.set_cons_zero, List.set_cons_succ]
        refine wpAnyH_take (i := 17) (oi := { dst := some 29, op := Op.binOp BinOp.geq 3 (Operand.tmp 28) (Operand.const (Value.int IntKind.i64 0)) 3, type := 4, pos := "l6_front.go:7", after := #[{ on := 16, ground := Ground.data }, { on := 10, ground := Ground.guard }], guard := some (10, false) }) (v := undef) rfl (by kernel_rfl) (by kernel_rfl) (by kernel_rfl) (fun _ _ _ h => h) (Or.inr ⟨by rfl, rfl⟩) (by assumption) ?_
        try simp only [Act.put, List.setIfInBounds_toArray, List.set_cons_zero, List.set_cons_succ]
        refine wpAnyH_take (i := 18) (oi := { dst := some 30, op := Op.pick (Operand.tmp 22) (Operand.const (Value.bool true)) (Operand.tmp 29), type := 4, pos := "l6_front.go:7", after := #[{ on := 10, ground := Ground.data }, { on := 17, ground := Ground.data }], guard := none }) (v := .bool true) rfl (by kernel_rfl) (by kernel_rfl) (by kernel_rfl) (fun _ _ _ h => h) (Or.inl ⟨by rfl, ?_⟩) (by assumption) ?_
        · intro wS hSw
          try dsimp only at hSw
          go_simp
        try simp only [Act.put, List.setIfInBounds_toArray, List.set_cons_zero, List.set_cons_succ]
        refine wpAnyH_done (by kernel_rfl) ?_ _
        --MA>
        go_wp2_with fail
        go_ret
        exact ⟨by rw [Hv.out]; rfl, B1.out⟩
    · obtain rfl : k = l.length := by omega
      have Hv := Lib.hid (show modsB l = decide ((l.length : Int) ≤ 8) from by
        by_cases h8 : l.length ≤ 8
        · rw [decide_eq_true (by omega)]
          exact modsB_true ⟨h8, Hto.out⟩
        · rw [decide_eq_false (by omega)]
          exact modsB_false (fun h => h8 h.1))
      have Hbel := Lib.hid hbel
      clear hbel
      go_wp2_with fail
      go_ret
      exact ⟨by rw [Hv.out]; rfl, Hbel.out⟩
end Go.Proofs.YtbpbebhnledgnaaGreat
