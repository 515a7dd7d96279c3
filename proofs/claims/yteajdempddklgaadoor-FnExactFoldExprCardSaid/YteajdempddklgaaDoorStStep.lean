
/-
  What is proved: structs Step in memory: opened where they came in, counted, copied, compared, alone and in slices. No condition beside what each theorem states.
-/
import Derived.Test.YteajdempddklgaaDoorNum
import Derived.Test.YteajdempddklgaaDoorMem
import Derived.Test.YteajdempddklgaaDoorLike
import Derived.Deep.QuietTactic
import Derived.BigQuiet
import Derived.StillTailTactics
namespace Go.Proofs.YteajdempddklgaaDoor
open Go.ChangeShapes Go.WideShapes Go.ChangeAt Go.RowKit

/-- Step as data. -/
structure StepD where
  fKind : Int
  fValue : Int
  fMod : ByteArray
  fName : ByteArray

def stepAt (_ : Nat → Prop) (_ : World) (cs : List Value) (t : StepD) : Prop := cs = [.int .i64 t.fKind, .int .i64 t.fValue, .string t.fMod, .string t.fName]
/-- How one lies in memory. -/
def stepS : Shape StepD where
  n := 4
  At := stepAt
  len h := by rw [show _ = _ from h]; rfl
  keep h _ _ := h
  mono h _ := h

/-- What is known of one that came in. -/
def StepD.came (t : StepD) : Prop := (Lit.int .i64 t.fKind).wf = true ∧ (Lit.int .i64 t.fValue).wf = true ∧ t.fMod.size ≤ maxLen ∧ t.fName.size ≤ maxLen
/-- How much it holds. -/
def StepD.wt (t : StepD) : Nat := t.fMod.size + t.fName.size

theorem cellsStepL : Tryd.prog.cellsOf 66 = 4 := by kernel_rfl
theorem c1StepInt : Tryd.prog.cellsOf 3 = 1 := by kernel_rfl
theorem c1StepStr : Tryd.prog.cellsOf 9 = 1 := by kernel_rfl
theorem lenStep {l : List Value} (h : l.length = 4) : ∃ e0 e1 e2 e3, l = [e0, e1, e2, e3] := by
  match l, h with
  | [e0, e1, e2, e3], _ => exact ⟨e0, e1, e2, e3, rfl⟩
theorem openStep {H : Type} {enc : TypeId × Value → H} {w : World} {base : Nat} {spare : Nat → Bool} {held : Bool} (m : Nat) (cs : List Value) (x : DataW H × List MemPlace) (h : DataW.trod enc Tryd.prog w base spare held m 66 cs = some x) : ∃ t, stepS.At Any w cs t ∧ t.came := by
  obtain ⟨xs, n, rfl, _, hlen, hxs, hf⟩ := DataW.trod_struct Tryd.underlying66 h
  rw [cellsStepL] at hlen
  obtain ⟨e0, e1, e2, e3, rfl⟩ := lenStep hlen
  replace hxs : xs.length = 4 := hxs
  have h0 := hf 0 _ rfl
  change DataW.trod enc Tryd.prog w base spare held n 3 (List.take (Tryd.prog.cellsOf 3) [e0, e1, e2, e3]) = xs[0]? at h0
  rw [c1StepInt, List.getElem?_eq_getElem (by omega)] at h0
  replace h0 : DataW.trod enc Tryd.prog w base spare held n 3 [e0] = _ := h0
  obtain ⟨v0, q0, _, k0⟩ := DataW.trod_int Tryd.underlying3 h0
  injection q0 with q0 _
  have h1 := hf 1 _ rfl
  change DataW.trod enc Tryd.prog w base spare held n 3 (List.take (Tryd.prog.cellsOf 3) [e1, e2, e3]) = xs[1]? at h1
  rw [c1StepInt, List.getElem?_eq_getElem (by omega)] at h1
  replace h1 : DataW.trod enc Tryd.prog w base spare held n 3 [e1] = _ := h1
  obtain ⟨v1, q1, _, k1⟩ := DataW.trod_int Tryd.underlying3 h1
  injection q1 with q1 _
  have h2 := hf 2 _ rfl
  change DataW.trod enc Tryd.prog w base spare held n 9 (List.take (Tryd.prog.cellsOf 9) [e2, e3]) = xs[2]? at h2
  rw [c1StepStr, List.getElem?_eq_getElem (by omega)] at h2
  replace h2 : DataW.trod enc Tryd.prog w base spare held n 9 [e2] = _ := h2
  obtain ⟨v2, q2, _, k2⟩ := DataW.trod_string Tryd.underlying9 h2
  injection q2 with q2 _
  have h3 := hf 3 _ rfl
  change DataW.trod enc Tryd.prog w base spare held n 9 (List.take (Tryd.prog.cellsOf 9) [e3]) = xs[3]? at h3
  rw [c1StepStr, List.getElem?_eq_getElem (by omega)] at h3
  replace h3 : DataW.trod enc Tryd.prog w base spare held n 9 [e3] = _ := h3
  obtain ⟨v3, q3, _, k3⟩ := DataW.trod_string Tryd.underlying9 h3
  injection q3 with q3 _
  subst q0 q1 q2 q3
  exact ⟨⟨v0, v1, v2, v3⟩, rfl, k0, k1, k2, k3⟩

theorem openStepS {H : Type} {enc : TypeId × Value → H} {w : World} {base : Nat} {spare : Nat → Bool} {held : Bool} {a : Option Addr} {len cap : Nat} {d : DataW H} {p : List MemPlace}
    (h : ∃ fuel, DataW.trod enc Tryd.prog w base spare held fuel 22 (Value.slice a len cap).cells.toList = some (d, p)) : ∃ l : List StepD, l.length = len ∧ len ≤ maxLen ∧ Rows stepS Any w a l ∧ ∀ t ∈ l, t.came :=
  open_whole stepS _ Tryd.underlying22 cellsStepL (by decide) openStep h

theorem infoStep : (Tryd.prog.info? 72).map (fun i => (i.zero, i.size, i.bytes)) = some (some (.agg #[.int .i64 0, .int .i64 0, .string ByteArray.empty, .string ByteArray.empty]), 4, 48) := by kernel_rfl
theorem sizeStep : (Tryd.prog.info? 72).map (·.size) = some 4 := by kernel_rfl
theorem makeStep (n : Nat) (W : World) (hn : n ≤ 1048576) : (Instr.makeSlice 28 (.int .i64 (n : Int)) (.int .i64 (n : Int))).run Tryd.prog W = .ok (.slice (some ⟨W.heap.size, 0, none⟩) n n) (W.alloc (.cells (madeCells #[.int .i64 0, .int .i64 0, .string ByteArray.empty, .string ByteArray.empty] (n * 4)) 72)) := by
  obtain ⟨i0, hi0, hz0, hz1, hz2⟩ := info_parts infoStep
  have := run_make (P := Tryd.prog) W 28 72 i0 _ Tryd.underlying28 hi0 hz0 .i64 .i64 (n : Int) (n : Int) (by omega) (by omega) (by rw [hz2]; omega) (by omega)
  rw [this, hz1]
  rfl

set_option maxHeartbeats 2000000 in
theorem lToStepB (t : StepD) (w : World) : Calls Tryd.prog 43 #[.agg #[.int .i64 t.fKind, .int .i64 t.fValue, .string t.fMod, .string t.fName]] w fun e w' =>
    ∃ cs' : List Value, e = .returned (.agg cs'.toArray) ∧ stepS.At (fun b => w.heap.size ≤ b) w' cs' t ∧ Clean w.heap.size w' ∧ Below w.heap.size w w' := by
  go_enter Tryd.func43, Tryd.ntmps43
  go_wp2_with fail
  refine bodyPost_ret (results_one rfl Tryd.underlying72 rfl _ _ (w.heap.size + 1) #[.int .i64 t.fKind, .int .i64 t.fValue, .string t.fMod, .string t.fName] rfl 72 (Box.alloc (Box.new' _ _ _ (by simp)) _) 4 sizeStep rfl) rfl ?_
  exact ⟨[.int .i64 t.fKind, .int .i64 t.fValue, .string t.fMod, .string t.fName], rfl, rfl, (((Clean.refl w).alloc _ _).alloc _ _).alloc _ _, (((Below.refl w.heap.size w).alloc (Nat.le_refl _) _).alloc (by simp) _).alloc (by simp; omega) _⟩

theorem lToStep (t : StepD) (w : World) : Calls Tryd.prog 43 #[.agg #[.int .i64 t.fKind, .int .i64 t.fValue, .string t.fMod, .string t.fName]] w fun e w' =>
    ∃ cs' : List Value, e = .returned (.agg cs'.toArray) ∧ stepS.At (fun b => w.heap.size ≤ b) w' cs' t ∧ Below w.heap.size w w' :=
  (lToStepB t w).mono fun _ _ ⟨cs, h1, h2, _, h4⟩ => ⟨cs, h1, h2, h4⟩

set_option maxHeartbeats 2000000 in
theorem lToStepSB (a : Option Addr) (c : Nat) (l : List StepD) (w : World) (hl : l.length ≤ 1048576) (hr : Rows stepS Any w a l) :
    Calls Tryd.prog 12 #[.slice a l.length c] w fun e w' => e = .returned (.slice (some ⟨w.heap.size, 0, none⟩) l.length l.length) ∧ Rows stepS (fun b => w.heap.size ≤ b) w' (some ⟨w.heap.size, 0, none⟩) l ∧ (∃ arr, Box w' w.heap.size 72 arr ∧ arr.size = l.length * 4) ∧ Clean w.heap.size w' ∧ Below w.heap.size w w' := by
  have km := fun W => makeStep l.length W hl
  have Hr := Lib.hid hr
  clear hr
  go_enter Tryd.func12, Tryd.ntmps12
  go_wp2_with fail
  go_loopw [4] (fun i wr => ∃ (k : Nat) (arr : Array Value), i = .int .i64 k ∧ k ≤ l.length ∧ Box wr w.heap.size 72 arr ∧ arr.size = l.length * 4 ∧ Filled stepS (fun b => w.heap.size < b) wr arr l k ∧ Clean w.heap.size wr ∧ Below w.heap.size w wr) (fun i _ => l.length - (intOf i).toNat)
  case atStart => exact ⟨0, _, rfl, by omega, Box.new w _ _, size_madeCells _ _, Filled.zero, (Clean.refl w).alloc _ _, (Below.refl _ _).alloc (Nat.le_refl _) _⟩
  case round =>
    clear km
    obtain ⟨k, arr, rfl, hk, hb, hsz, hf, hcl, hbel⟩ := hrel
    have Hcl := Lib.hid hcl
    clear hcl
    by_cases hlt : k < l.length
    · obtain ⟨b, o, cs, rfl, _, hb1, hc1, hat⟩ := Hr.out k hlt
      obtain rfl : cs = [.int .i64 l[k].fKind, .int .i64 l[k].fValue, .string l[k].fMod, .string l[k].fName] := hat
      have hn : stepS.n = 4 := rfl
      have e0 := (hbel.cell (p := ⟨b, o + k * 4 + 0, none⟩) hb1).trans (hc1 0 (by decide))
      have e1 := (hbel.cell (p := ⟨b, o + k * 4 + 1, none⟩) hb1).trans (hc1 1 (by decide))
      have e2 := (hbel.cell (p := ⟨b, o + k * 4 + 2, none⟩) hb1).trans (hc1 2 (by decide))
      have e3 := (hbel.cell (p := ⟨b, o + k * 4 + 3, none⟩) hb1).trans (hc1 3 (by decide))
      simp at e0 e1 e2 e3
      have Hb := Lib.hid hb
      have Hf := Lib.hid hf
      have Hbel := Lib.hid hbel
      have Hst := Lib.hid (fun W arr cs => filled_store (S := stepS) (Q := fun b => w.heap.size < b) (w := W) (g := w.heap.size) (t := 72) (arr := arr) (cs := cs) hlt)
      clear hb hf hbel hc1
      generalize l[k] = t at *
      go_wp2_with fail
      refine (lToStepB t wr).mono ?_
      rintro e w1 ⟨cs', rfl, hat', hcl1, hw1⟩
      have HC1 := Lib.hid (Hcl.out.join hw1 hcl1)
      clear hcl1
      obtain rfl : cs' = [.int .i64 t.fKind, .int .i64 t.fValue, .string t.fMod, .string t.fName] := hat'
      have hb2 := Hb.out.below hw1 Hb.out.lt
      have HB := Lib.hid hb2
      have f0 := hb2.free
      obtain ⟨x0, c0⟩ := hb2.some (i := k * 4) (by omega)
      obtain ⟨x1, c1⟩ := hb2.some (i := k * 4 + 1) (by omega)
      obtain ⟨x2, c2⟩ := hb2.some (i := k * 4 + 2) (by omega)
      obtain ⟨x3, c3⟩ := hb2.some (i := k * 4 + 3) (by omega)
      have HF := Lib.hid (Hf.out.keep (fun b _ hl => hw1.block b hl) hw1.size)
      have HBel := Lib.hid (Hbel.out.trans (hw1.mono Hbel.out.size))
      clear hw1 hb2 Hb Hf Hbel
      go_wp2_with fail
      obtain ⟨arr', hB', hs', hF', hO'⟩ := Hst.out w1 arr [.int .i64 t.fKind, .int .i64 t.fValue, .string t.fMod, .string t.fName] HB.out hsz HF.out rfl (Nat.lt_irrefl _)
      exact ⟨⟨k + 1, arr', by congr 1, by omega, hB', hs', hF', Clean.setL (g := w.heap.size) [.int .i64 t.fKind, .int .i64 t.fValue, .string t.fMod, .string t.fName] _ HC1.out, HBel.out.trans (hO'.below (Nat.le_refl _) HB.out.lt)⟩, by simp [intOf]; omega⟩
    · obtain rfl : k = l.length := by omega
      have Hb := Lib.hid hb
      have Hf := Lib.hid hf
      have Hbel := Lib.hid hbel
      clear hb hf hbel
      go_wp2_with fail
      go_ret
      exact ⟨rfl, (Hf.out.mono (fun _ h _ => Nat.le_of_lt h)).rows Hb.out (Nat.le_refl _), ⟨arr, Hb.out, hsz⟩, Hcl.out, Hbel.out⟩

theorem lToStepS (a : Option Addr) (c : Nat) (l : List StepD) (w : World) (hl : l.length ≤ 1048576) (hr : Rows stepS Any w a l) :
    Calls Tryd.prog 12 #[.slice a l.length c] w fun e w' => e = .returned (.slice (some ⟨w.heap.size, 0, none⟩) l.length l.length) ∧ Rows stepS (fun b => w.heap.size ≤ b) w' (some ⟨w.heap.size, 0, none⟩) l ∧ Below w.heap.size w w' :=
  (lToStepSB a c l w hl hr).mono fun _ _ ⟨h1, h2, _, _, h4⟩ => ⟨h1, h2, h4⟩

set_option maxHeartbeats 2000000 in
theorem lEqStep (t : StepD) (w : World) : Calls Tryd.prog 49 #[.agg #[.int .i64 t.fKind, .int .i64 t.fValue, .string t.fMod, .string t.fName], .agg #[.int .i64 t.fKind, .int .i64 t.fValue, .string t.fMod, .string t.fName]] w fun e w' => e = .returned (.bool true) ∧ Below w.heap.size w w' := by
  go_enter Tryd.func49, Tryd.ntmps49
  go_wp2_with fail
  go_ret
  exact ⟨rfl, ((Below.refl w.heap.size w).alloc (Nat.le_refl _) _).alloc (by simp) _⟩

set_option maxRecDepth 100000 in
set_option maxHeartbeats 2000000 in
theorem lEqStepS (a a' : Option Addr) (c c' : Nat) (l : List StepD) (w : World) (hl : l.length ≤ 1048576) (hr : Rows stepS Any w a l) (hr' : Rows stepS Any w a' l) :
    Calls Tryd.prog 15 #[.slice a l.length c, .slice a' l.length c'] w fun e w' => e = .returned (.bool true) ∧ Below w.heap.size w w' := by
  have Hr := Lib.hid hr
  have Hr' := Lib.hid hr'
  clear hr hr'
  go_enter Tryd.func15, Tryd.ntmps15
  go_wp2_with fail
  go_loopw [5] (fun i wr => ∃ k : Nat, i = .int .i64 k ∧ k ≤ l.length ∧ Below w.heap.size w wr) (fun i _ => l.length - (intOf i).toNat)
  case atStart => exact ⟨0, rfl, by omega, Below.refl _ _⟩
  case round =>
    obtain ⟨k, rfl, hk, hbel⟩ := hrel
    by_cases hlt : k < l.length
    · obtain ⟨b, o, cs, rfl, _, hb1, hc1, hat⟩ := Hr.out k hlt
      obtain ⟨b', o', cs', rfl, _, hb1', hc1', hat'⟩ := Hr'.out k hlt
      obtain rfl : cs = [.int .i64 l[k].fKind, .int .i64 l[k].fValue, .string l[k].fMod, .string l[k].fName] := hat
      obtain rfl : cs' = [.int .i64 l[k].fKind, .int .i64 l[k].fValue, .string l[k].fMod, .string l[k].fName] := hat'
      have hn : stepS.n = 4 := rfl
      have e0 := (hbel.cell (p := ⟨b, o + k * 4 + 0, none⟩) hb1).trans (hc1 0 (by decide))
      have q0 := (hbel.cell (p := ⟨b', o' + k * 4 + 0, none⟩) hb1').trans (hc1' 0 (by decide))
      have e1 := (hbel.cell (p := ⟨b, o + k * 4 + 1, none⟩) hb1).trans (hc1 1 (by decide))
      have q1 := (hbel.cell (p := ⟨b', o' + k * 4 + 1, none⟩) hb1').trans (hc1' 1 (by decide))
      have e2 := (hbel.cell (p := ⟨b, o + k * 4 + 2, none⟩) hb1).trans (hc1 2 (by decide))
      have q2 := (hbel.cell (p := ⟨b', o' + k * 4 + 2, none⟩) hb1').trans (hc1' 2 (by decide))
      have e3 := (hbel.cell (p := ⟨b, o + k * 4 + 3, none⟩) hb1).trans (hc1 3 (by decide))
      have q3 := (hbel.cell (p := ⟨b', o' + k * 4 + 3, none⟩) hb1').trans (hc1' 3 (by decide))
      simp at e0 q0 e1 q1 e2 q2 e3 q3
      have i1 : (0 : Int) ≤ (k : Int) := by omega
      have i2 : (k : Int) < (l.length : Int) := by omega
      have Hbel := Lib.hid hbel
      clear hbel hc1 hc1' Hr Hr'
      generalize l[k] = t at *
      go_wp2_with fail
      go_still_tail 8, (by kernel_rfl)
      go_wp2_with fail
      refine (lEqStep t _).mono ?_
      rintro e w1 ⟨rfl, hw1⟩
      go_wp2_with fail
      exact ⟨⟨k + 1, by congr 1, by omega, (belowN Hbel.out 1).trans (hw1.mono (Hbel.out.size))⟩, by simp [intOf]; omega⟩
    · go_wp2_with fail
      go_ret
      exact ⟨rfl, hbel⟩

set_option maxHeartbeats 2000000 in
theorem lSzStep (t : StepD) (w : World) (left : Int) (h0 : 0 ≤ left) (h1 : left ≤ 1048576) (hcm : t.came) : Calls Tryd.prog 38 #[.agg #[.int .i64 t.fKind, .int .i64 t.fValue, .string t.fMod, .string t.fName], .int .i64 left] w fun e w' =>
    ∃ r : Int, e = .returned (.int .i64 r) ∧ (r = -1 ∨ (0 ≤ r ∧ r = left - t.wt)) ∧ Below w.heap.size w w' := by
  unfold StepD.came at hcm
  unfold maxLen at hcm
  obtain ⟨b0, b1, b2, b3⟩ := hcm
  clear b0 b1
  have Hw : Hid (∀ r : Int, r = left - ((t.fMod.size : Int) + (t.fName.size : Int) : Int) → r = left - (t.wt : Int)) := Lib.hid (by unfold StepD.wt; intro r; push_cast; omega)
  have HB0 := Lib.hid (show Below w.heap.size w (w.alloc (.cells #[.int .i64 t.fKind, .int .i64 t.fValue, .string t.fMod, .string t.fName] 66)) from (Below.refl w.heap.size w).alloc (Nat.le_refl _) _)
  go_enter Tryd.func38, Tryd.ntmps38
  by_cases g2 : left - (t.fMod.size : Int) < 0
  · go_wp2_with fail
    go_ret
    exact ⟨-1, rfl, .inl rfl, HB0.out⟩
  by_cases g3 : left - (t.fMod.size : Int) - (t.fName.size : Int) < 0
  · go_wp2_with fail
    go_ret
    exact ⟨-1, rfl, .inl rfl, HB0.out⟩
  go_wp2_with fail
  go_ret
  exact ⟨_, rfl, .inr ⟨by omega, Hw.out _ (by omega)⟩, HB0.out⟩

set_option maxHeartbeats 2000000 in
theorem lSzStepS (a : Option Addr) (c : Nat) (l : List StepD) (w : World) (left : Int) (h0 : 0 ≤ left) (h1 : left ≤ 1048576) (hl : l.length ≤ maxLen) (hcm : ∀ t ∈ l, t.came) (hr : Rows stepS Any w a l) :
    Calls Tryd.prog 9 #[.slice a l.length c, .int .i64 left] w fun e w' => ∃ r : Int, e = .returned (.int .i64 r) ∧ (r = -1 ∨ (0 ≤ r ∧ r = left - ((wtL StepD.wt l : Nat) : Int))) ∧ Below w.heap.size w w' := by
  have Hr := Lib.hid hr
  have Hcm := Lib.hid hcm
  clear hr hcm
  unfold maxLen at hl
  go_enter Tryd.func9, Tryd.ntmps9
  by_cases hn0 : left - (l.length : Int) < 0
  · go_wp2_with fail
    go_ret
    exact ⟨-1, rfl, .inl rfl, Below.refl _ _⟩
  go_wp2_with fail
  go_loopw [1, 5] (fun r i wr => ∃ k : Nat, i = .int .i64 k ∧ k ≤ l.length ∧ (∃ z : Int, r = .int .i64 z ∧ 0 ≤ z ∧ z = left - (l.length : Int) - ((wtK StepD.wt l k : Nat) : Int)) ∧ Below w.heap.size w wr) (fun _ i _ => l.length - (intOf i).toNat)
  case atStart => exact ⟨0, rfl, by omega, ⟨_, rfl, by omega, by simp [wtK]⟩, Below.refl _ _⟩
  case round =>
    obtain ⟨k, rfl, hk, ⟨z, rfl, hz0, hz⟩, hbel⟩ := hrel
    by_cases hlt : k < l.length
    · obtain ⟨b, o, cs, rfl, _, hb1, hc1, hat⟩ := Hr.out k hlt
      obtain rfl : cs = [.int .i64 l[k].fKind, .int .i64 l[k].fValue, .string l[k].fMod, .string l[k].fName] := hat
      have hn : stepS.n = 4 := rfl
      have e0 := (hbel.cell (p := ⟨b, o + k * 4 + 0, none⟩) hb1).trans (hc1 0 (by decide))
      have e1 := (hbel.cell (p := ⟨b, o + k * 4 + 1, none⟩) hb1).trans (hc1 1 (by decide))
      have e2 := (hbel.cell (p := ⟨b, o + k * 4 + 2, none⟩) hb1).trans (hc1 2 (by decide))
      have e3 := (hbel.cell (p := ⟨b, o + k * 4 + 3, none⟩) hb1).trans (hc1 3 (by decide))
      simp at e0 e1 e2 e3
      have Hbel := Lib.hid hbel
      have Hc := Lib.hid (Hcm.out l[k] (List.getElem_mem hlt))
      have Hk := Lib.hid (wtK_succ StepD.wt hlt)
      have Hz := Lib.hid hz
      have hz1 : z ≤ 1048576 := by omega
      clear hbel hc1 hz
      generalize l[k] = t at *
      go_wp2_with fail
      refine (lSzStep t wr z hz0 hz1 Hc.out).mono ?_
      rintro e w1 ⟨r, rfl, hr, hw1⟩
      have HBel := Lib.hid (Hbel.out.trans (hw1.mono Hbel.out.size))
      clear hw1
      rcases hr with rfl | ⟨hr0, hr1⟩
      · go_wp2_with fail
        go_ret
        exact ⟨-1, rfl, .inl rfl, HBel.out⟩
      · have Hr1 := Lib.hid hr1
        clear hr1
        go_wp2_with fail
        exact ⟨⟨k + 1, by congr 1, by omega, ⟨r, rfl, hr0, by rw [Hk.out, Hr1.out, Hz.out]; push_cast; omega⟩, HBel.out⟩, by simp [intOf]; omega⟩
    · obtain rfl : k = l.length := by omega
      have Hz := Lib.hid hz
      have Hbel := Lib.hid hbel
      clear hz hbel
      go_wp2_with fail
      go_ret
      exact ⟨z, rfl, .inr ⟨hz0, by rw [Hz.out, wtK_all, wtL]; push_cast; omega⟩, Hbel.out⟩

end Go.Proofs.YteajdempddklgaaDoor
