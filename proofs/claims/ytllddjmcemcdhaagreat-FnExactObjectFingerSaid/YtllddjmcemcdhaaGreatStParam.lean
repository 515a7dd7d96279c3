
/-
  What is proved: structs Use in memory: opened where they came in, counted, copied, compared, alone and in slices; structs Param in memory: opened where they came in, counted, copied, compared, alone and in slices. No condition beside what each theorem states.
-/
import Derived.Test.YtllddjmcemcdhaaGreatNum
import Derived.Test.YtllddjmcemcdhaaGreatMem
import Derived.Test.YtllddjmcemcdhaaGreatMark
import Derived.Deep.QuietTactic
import Derived.BigQuiet
import Derived.StillTailTactics
namespace Go.Proofs.YtllddjmcemcdhaaGreat
open Go.ChangeShapes Go.WideShapes Go.ChangeAt Go.RowKit

/-- Use as data. -/
structure UseD where
  fMod : ByteArray
  fName : ByteArray

def useAt (_ : Nat → Prop) (_ : World) (cs : List Value) (t : UseD) : Prop := cs = [.string t.fMod, .string t.fName]
/-- How one lies in memory. -/
def useS : Shape UseD where
  n := 2
  At := useAt
  len h := by rw [show _ = _ from h]; rfl
  keep h _ _ := h
  mono h _ := h

/-- What is known of one that came in. -/
def UseD.came (t : UseD) : Prop := t.fMod.size ≤ maxLen ∧ t.fName.size ≤ maxLen
/-- How much it holds. -/
def UseD.wt (t : UseD) : Nat := t.fMod.size + t.fName.size

theorem cellsUseL : Tryz.prog.cellsOf 97 = 2 := by kernel_rfl
theorem c1UseStr : Tryz.prog.cellsOf 9 = 1 := by kernel_rfl
theorem lenUse {l : List Value} (h : l.length = 2) : ∃ e0 e1, l = [e0, e1] := by
  match l, h with
  | [e0, e1], _ => exact ⟨e0, e1, rfl⟩
theorem openUse {H : Type} {enc : TypeId × Value → H} {w : World} {base : Nat} {spare : Nat → Bool} {held : Bool} (m : Nat) (cs : List Value) (x : DataW H × List MemPlace) (h : DataW.trod enc Tryz.prog w base spare held m 97 cs = some x) : ∃ t, useS.At Any w cs t ∧ t.came := by
  obtain ⟨xs, n, rfl, _, hlen, hxs, hf⟩ := DataW.trod_struct Tryz.underlying97 h
  rw [cellsUseL] at hlen
  obtain ⟨e0, e1, rfl⟩ := lenUse hlen
  replace hxs : xs.length = 2 := hxs
  have h0 := hf 0 _ rfl
  change DataW.trod enc Tryz.prog w base spare held n 9 (List.take (Tryz.prog.cellsOf 9) [e0, e1]) = xs[0]? at h0
  rw [c1UseStr, List.getElem?_eq_getElem (by omega)] at h0
  replace h0 : DataW.trod enc Tryz.prog w base spare held n 9 [e0] = _ := h0
  obtain ⟨v0, q0, _, k0⟩ := DataW.trod_string Tryz.underlying9 h0
  injection q0 with q0 _
  have h1 := hf 1 _ rfl
  change DataW.trod enc Tryz.prog w base spare held n 9 (List.take (Tryz.prog.cellsOf 9) [e1]) = xs[1]? at h1
  rw [c1UseStr, List.getElem?_eq_getElem (by omega)] at h1
  replace h1 : DataW.trod enc Tryz.prog w base spare held n 9 [e1] = _ := h1
  obtain ⟨v1, q1, _, k1⟩ := DataW.trod_string Tryz.underlying9 h1
  injection q1 with q1 _
  subst q0 q1
  exact ⟨⟨v0, v1⟩, rfl, k0, k1⟩

theorem openUseS {H : Type} {enc : TypeId × Value → H} {w : World} {base : Nat} {spare : Nat → Bool} {held : Bool} {a : Option Addr} {len cap : Nat} {d : DataW H} {p : List MemPlace}
    (h : ∃ fuel, DataW.trod enc Tryz.prog w base spare held fuel 25 (Value.slice a len cap).cells.toList = some (d, p)) : ∃ l : List UseD, l.length = len ∧ len ≤ maxLen ∧ Rows useS Any w a l ∧ ∀ t ∈ l, t.came :=
  open_whole useS _ Tryz.underlying25 cellsUseL (by decide) openUse h

theorem infoUse : (Tryz.prog.info? 102).map (fun i => (i.zero, i.size, i.bytes)) = some (some (.agg #[.string ByteArray.empty, .string ByteArray.empty]), 2, 32) := by kernel_rfl
theorem sizeUse : (Tryz.prog.info? 102).map (·.size) = some 2 := by kernel_rfl
theorem makeUse (n : Nat) (W : World) (hn : n ≤ 1048576) : (Instr.makeSlice 33 (.int .i64 (n : Int)) (.int .i64 (n : Int))).run Tryz.prog W = .ok (.slice (some ⟨W.heap.size, 0, none⟩) n n) (W.alloc (.cells (madeCells #[.string ByteArray.empty, .string ByteArray.empty] (n * 2)) 102)) := by
  obtain ⟨i0, hi0, hz0, hz1, hz2⟩ := info_parts infoUse
  have := run_make (P := Tryz.prog) W 33 102 i0 _ Tryz.underlying33 hi0 hz0 .i64 .i64 (n : Int) (n : Int) (by omega) (by omega) (by rw [hz2]; omega) (by omega)
  rw [this, hz1]
  rfl

set_option maxHeartbeats 2000000 in
theorem lToUseB (t : UseD) (w : World) : Calls Tryz.prog 49 #[.agg #[.string t.fMod, .string t.fName]] w fun e w' =>
    ∃ cs' : List Value, e = .returned (.agg cs'.toArray) ∧ useS.At (fun b => w.heap.size ≤ b) w' cs' t ∧ Clean w.heap.size w' ∧ Below w.heap.size w w' := by
  go_enter Tryz.func49, Tryz.ntmps49
  go_wp2_with fail
  refine bodyPost_ret (results_one rfl Tryz.underlying102 rfl _ _ (w.heap.size + 1) #[.string t.fMod, .string t.fName] rfl 102 (Box.alloc (Box.new' _ _ _ (by simp)) _) 2 sizeUse rfl) rfl ?_
  exact ⟨[.string t.fMod, .string t.fName], rfl, rfl, (((Clean.refl w).alloc _ _).alloc _ _).alloc _ _, (((Below.refl w.heap.size w).alloc (Nat.le_refl _) _).alloc (by simp) _).alloc (by simp; omega) _⟩

theorem lToUse (t : UseD) (w : World) : Calls Tryz.prog 49 #[.agg #[.string t.fMod, .string t.fName]] w fun e w' =>
    ∃ cs' : List Value, e = .returned (.agg cs'.toArray) ∧ useS.At (fun b => w.heap.size ≤ b) w' cs' t ∧ Below w.heap.size w w' :=
  (lToUseB t w).mono fun _ _ ⟨cs, h1, h2, _, h4⟩ => ⟨cs, h1, h2, h4⟩

set_option maxHeartbeats 2000000 in
theorem lToUseSB (a : Option Addr) (c : Nat) (l : List UseD) (w : World) (hl : l.length ≤ 1048576) (hr : Rows useS Any w a l) :
    Calls Tryz.prog 23 #[.slice a l.length c] w fun e w' => e = .returned (.slice (some ⟨w.heap.size, 0, none⟩) l.length l.length) ∧ Rows useS (fun b => w.heap.size ≤ b) w' (some ⟨w.heap.size, 0, none⟩) l ∧ (∃ arr, Box w' w.heap.size 102 arr ∧ arr.size = l.length * 2) ∧ Clean w.heap.size w' ∧ Below w.heap.size w w' := by
  have km := fun W => makeUse l.length W hl
  have Hr := Lib.hid hr
  clear hr
  go_enter Tryz.func23, Tryz.ntmps23
  go_wp2_with fail
  go_loopw [4] (fun i wr => ∃ (k : Nat) (arr : Array Value), i = .int .i64 k ∧ k ≤ l.length ∧ Box wr w.heap.size 102 arr ∧ arr.size = l.length * 2 ∧ Filled useS (fun b => w.heap.size < b) wr arr l k ∧ Clean w.heap.size wr ∧ Below w.heap.size w wr) (fun i _ => l.length - (intOf i).toNat)
  case atStart => exact ⟨0, _, rfl, by omega, Box.new w _ _, size_madeCells _ _, Filled.zero, (Clean.refl w).alloc _ _, (Below.refl _ _).alloc (Nat.le_refl _) _⟩
  case round =>
    clear km
    obtain ⟨k, arr, rfl, hk, hb, hsz, hf, hcl, hbel⟩ := hrel
    have Hcl := Lib.hid hcl
    clear hcl
    by_cases hlt : k < l.length
    · obtain ⟨b, o, cs, rfl, _, hb1, hc1, hat⟩ := Hr.out k hlt
      obtain rfl : cs = [.string l[k].fMod, .string l[k].fName] := hat
      have hn : useS.n = 2 := rfl
      have e0 := (hbel.cell (p := ⟨b, o + k * 2 + 0, none⟩) hb1).trans (hc1 0 (by decide))
      have e1 := (hbel.cell (p := ⟨b, o + k * 2 + 1, none⟩) hb1).trans (hc1 1 (by decide))
      simp at e0 e1
      have Hb := Lib.hid hb
      have Hf := Lib.hid hf
      have Hbel := Lib.hid hbel
      have Hst := Lib.hid (fun W arr cs => filled_store (S := useS) (Q := fun b => w.heap.size < b) (w := W) (g := w.heap.size) (t := 102) (arr := arr) (cs := cs) hlt)
      clear hb hf hbel hc1
      generalize l[k] = t at *
      go_wp2_with fail
      refine (lToUseB t wr).mono ?_
      rintro e w1 ⟨cs', rfl, hat', hcl1, hw1⟩
      have HC1 := Lib.hid (Hcl.out.join hw1 hcl1)
      clear hcl1
      obtain rfl : cs' = [.string t.fMod, .string t.fName] := hat'
      have hb2 := Hb.out.below hw1 Hb.out.lt
      have HB := Lib.hid hb2
      have f0 := hb2.free
      obtain ⟨x0, c0⟩ := hb2.some (i := k * 2) (by omega)
      obtain ⟨x1, c1⟩ := hb2.some (i := k * 2 + 1) (by omega)
      have HF := Lib.hid (Hf.out.keep (fun b _ hl => hw1.block b hl) hw1.size)
      have HBel := Lib.hid (Hbel.out.trans (hw1.mono Hbel.out.size))
      clear hw1 hb2 Hb Hf Hbel
      go_wp2_with fail
      obtain ⟨arr', hB', hs', hF', hO'⟩ := Hst.out w1 arr [.string t.fMod, .string t.fName] HB.out hsz HF.out rfl (Nat.lt_irrefl _)
      exact ⟨⟨k + 1, arr', by congr 1, by omega, hB', hs', hF', Clean.setL (g := w.heap.size) [.string t.fMod, .string t.fName] _ HC1.out, HBel.out.trans (hO'.below (Nat.le_refl _) HB.out.lt)⟩, by simp [intOf]; omega⟩
    · obtain rfl : k = l.length := by omega
      have Hb := Lib.hid hb
      have Hf := Lib.hid hf
      have Hbel := Lib.hid hbel
      clear hb hf hbel
      go_wp2_with fail
      go_ret
      exact ⟨rfl, (Hf.out.mono (fun _ h _ => Nat.le_of_lt h)).rows Hb.out (Nat.le_refl _), ⟨arr, Hb.out, hsz⟩, Hcl.out, Hbel.out⟩

theorem lToUseS (a : Option Addr) (c : Nat) (l : List UseD) (w : World) (hl : l.length ≤ 1048576) (hr : Rows useS Any w a l) :
    Calls Tryz.prog 23 #[.slice a l.length c] w fun e w' => e = .returned (.slice (some ⟨w.heap.size, 0, none⟩) l.length l.length) ∧ Rows useS (fun b => w.heap.size ≤ b) w' (some ⟨w.heap.size, 0, none⟩) l ∧ Below w.heap.size w w' :=
  (lToUseSB a c l w hl hr).mono fun _ _ ⟨h1, h2, _, _, h4⟩ => ⟨h1, h2, h4⟩

set_option maxHeartbeats 2000000 in
theorem lEqUse (t : UseD) (w : World) : Calls Tryz.prog 61 #[.agg #[.string t.fMod, .string t.fName], .agg #[.string t.fMod, .string t.fName]] w fun e w' => e = .returned (.bool true) ∧ Below w.heap.size w w' := by
  go_enter Tryz.func61, Tryz.ntmps61
  go_wp2_with fail
  go_ret
  exact ⟨rfl, ((Below.refl w.heap.size w).alloc (Nat.le_refl _) _).alloc (by simp) _⟩

set_option maxRecDepth 100000 in
set_option maxHeartbeats 2000000 in
theorem lEqUseS (a a' : Option Addr) (c c' : Nat) (l : List UseD) (w : World) (hl : l.length ≤ 1048576) (hr : Rows useS Any w a l) (hr' : Rows useS Any w a' l) :
    Calls Tryz.prog 30 #[.slice a l.length c, .slice a' l.length c'] w fun e w' => e = .returned (.bool true) ∧ Below w.heap.size w w' := by
  have Hr := Lib.hid hr
  have Hr' := Lib.hid hr'
  clear hr hr'
  go_enter Tryz.func30, Tryz.ntmps30
  go_wp2_with fail
  go_loopw [5] (fun i wr => ∃ k : Nat, i = .int .i64 k ∧ k ≤ l.length ∧ Below w.heap.size w wr) (fun i _ => l.length - (intOf i).toNat)
  case atStart => exact ⟨0, rfl, by omega, Below.refl _ _⟩
  case round =>
    obtain ⟨k, rfl, hk, hbel⟩ := hrel
    by_cases hlt : k < l.length
    · obtain ⟨b, o, cs, rfl, _, hb1, hc1, hat⟩ := Hr.out k hlt
      obtain ⟨b', o', cs', rfl, _, hb1', hc1', hat'⟩ := Hr'.out k hlt
      obtain rfl : cs = [.string l[k].fMod, .string l[k].fName] := hat
      obtain rfl : cs' = [.string l[k].fMod, .string l[k].fName] := hat'
      have hn : useS.n = 2 := rfl
      have e0 := (hbel.cell (p := ⟨b, o + k * 2 + 0, none⟩) hb1).trans (hc1 0 (by decide))
      have q0 := (hbel.cell (p := ⟨b', o' + k * 2 + 0, none⟩) hb1').trans (hc1' 0 (by decide))
      have e1 := (hbel.cell (p := ⟨b, o + k * 2 + 1, none⟩) hb1).trans (hc1 1 (by decide))
      have q1 := (hbel.cell (p := ⟨b', o' + k * 2 + 1, none⟩) hb1').trans (hc1' 1 (by decide))
      simp at e0 q0 e1 q1
      have i1 : (0 : Int) ≤ (k : Int) := by omega
      have i2 : (k : Int) < (l.length : Int) := by omega
      have Hbel := Lib.hid hbel
      clear hbel hc1 hc1' Hr Hr'
      generalize l[k] = t at *
      go_wp2_with fail
      go_still_tail 8, (by kernel_rfl)
      go_wp2_with fail
      refine (lEqUse t _).mono ?_
      rintro e w1 ⟨rfl, hw1⟩
      go_wp2_with fail
      exact ⟨⟨k + 1, by congr 1, by omega, (belowN Hbel.out 1).trans (hw1.mono (Hbel.out.size))⟩, by simp [intOf]; omega⟩
    · go_wp2_with fail
      go_ret
      exact ⟨rfl, hbel⟩

set_option maxHeartbeats 2000000 in
theorem lSzUse (t : UseD) (w : World) (left : Int) (h0 : 0 ≤ left) (h1 : left ≤ 1048576) (hcm : t.came) : Calls Tryz.prog 38 #[.agg #[.string t.fMod, .string t.fName], .int .i64 left] w fun e w' =>
    ∃ r : Int, e = .returned (.int .i64 r) ∧ (r = -1 ∨ (0 ≤ r ∧ r = left - t.wt)) ∧ Below w.heap.size w w' := by
  unfold UseD.came at hcm
  unfold maxLen at hcm
  obtain ⟨b0, b1⟩ := hcm
  have Hw : Hid (∀ r : Int, r = left - ((t.fMod.size : Int) + (t.fName.size : Int) : Int) → r = left - (t.wt : Int)) := Lib.hid (by unfold UseD.wt; intro r; push_cast; omega)
  have HB0 := Lib.hid (show Below w.heap.size w (w.alloc (.cells #[.string t.fMod, .string t.fName] 97)) from (Below.refl w.heap.size w).alloc (Nat.le_refl _) _)
  go_enter Tryz.func38, Tryz.ntmps38
  by_cases g0 : left - (t.fMod.size : Int) < 0
  · go_wp2_with fail
    go_ret
    exact ⟨-1, rfl, .inl rfl, HB0.out⟩
  by_cases g1 : left - (t.fMod.size : Int) - (t.fName.size : Int) < 0
  · go_wp2_with fail
    go_ret
    exact ⟨-1, rfl, .inl rfl, HB0.out⟩
  go_wp2_with fail
  go_ret
  exact ⟨_, rfl, .inr ⟨by omega, Hw.out _ (by omega)⟩, HB0.out⟩

set_option maxHeartbeats 2000000 in
theorem lSzUseS (a : Option Addr) (c : Nat) (l : List UseD) (w : World) (left : Int) (h0 : 0 ≤ left) (h1 : left ≤ 1048576) (hl : l.length ≤ maxLen) (hcm : ∀ t ∈ l, t.came) (hr : Rows useS Any w a l) :
    Calls Tryz.prog 15 #[.slice a l.length c, .int .i64 left] w fun e w' => ∃ r : Int, e = .returned (.int .i64 r) ∧ (r = -1 ∨ (0 ≤ r ∧ r = left - ((wtL UseD.wt l : Nat) : Int))) ∧ Below w.heap.size w w' := by
  have Hr := Lib.hid hr
  have Hcm := Lib.hid hcm
  clear hr hcm
  unfold maxLen at hl
  go_enter Tryz.func15, Tryz.ntmps15
  by_cases hn0 : left - (l.length : Int) < 0
  · go_wp2_with fail
    go_ret
    exact ⟨-1, rfl, .inl rfl, Below.refl _ _⟩
  go_wp2_with fail
  go_loopw [1, 5] (fun r i wr => ∃ k : Nat, i = .int .i64 k ∧ k ≤ l.length ∧ (∃ z : Int, r = .int .i64 z ∧ 0 ≤ z ∧ z = left - (l.length : Int) - ((wtK UseD.wt l k : Nat) : Int)) ∧ Below w.heap.size w wr) (fun _ i _ => l.length - (intOf i).toNat)
  case atStart => exact ⟨0, rfl, by omega, ⟨_, rfl, by omega, by simp [wtK]⟩, Below.refl _ _⟩
  case round =>
    obtain ⟨k, rfl, hk, ⟨z, rfl, hz0, hz⟩, hbel⟩ := hrel
    by_cases hlt : k < l.length
    · obtain ⟨b, o, cs, rfl, _, hb1, hc1, hat⟩ := Hr.out k hlt
      obtain rfl : cs = [.string l[k].fMod, .string l[k].fName] := hat
      have hn : useS.n = 2 := rfl
      have e0 := (hbel.cell (p := ⟨b, o + k * 2 + 0, none⟩) hb1).trans (hc1 0 (by decide))
      have e1 := (hbel.cell (p := ⟨b, o + k * 2 + 1, none⟩) hb1).trans (hc1 1 (by decide))
      simp at e0 e1
      have Hbel := Lib.hid hbel
      have Hc := Lib.hid (Hcm.out l[k] (List.getElem_mem hlt))
      have Hk := Lib.hid (wtK_succ UseD.wt hlt)
      have Hz := Lib.hid hz
      have hz1 : z ≤ 1048576 := by omega
      clear hbel hc1 hz
      generalize l[k] = t at *
      go_wp2_with fail
      refine (lSzUse t wr z hz0 hz1 Hc.out).mono ?_
      rintro e w1 ⟨r, rfl, hr, hw1⟩
      have HBel := Lib.hid (Hbel.out.trans (hw1.mono Hbel.out.size))
      clear hw1
      rcases hr with rfl | ⟨hr0, hr1⟩
      · go_wp2_with fail
        go_ret
        exact ⟨-1, rfl, .inl rfl, HBel.out⟩
      · have Hr1 := Lib.hid hr1
        clear hr1
        go_wp2_with fail
        exact ⟨⟨k + 1, by congr 1, by omega, ⟨r, rfl, hr0, by rw [Hk.out, Hr1.out, Hz.out]; push_cast; omega⟩, HBel.out⟩, by simp [intOf]; omega⟩
    · obtain rfl : k = l.length := by omega
      have Hz := Lib.hid hz
      have Hbel := Lib.hid hbel
      clear hz hbel
      go_wp2_with fail
      go_ret
      exact ⟨z, rfl, .inr ⟨hz0, by rw [Hz.out, wtK_all, wtL]; push_cast; omega⟩, Hbel.out⟩

end Go.Proofs.YtllddjmcemcdhaaGreat

namespace Go.Proofs.YtllddjmcemcdhaaGreat
open Go.ChangeShapes Go.WideShapes Go.ChangeAt Go.RowKit

/-- Param as data. -/
structure ParamD where
  fName : ByteArray
  fByVar : Bool
  fType : Int

def paramAt (_ : Nat → Prop) (_ : World) (cs : List Value) (t : ParamD) : Prop := cs = [.string t.fName, .bool t.fByVar, .int .i64 t.fType]
/-- How one lies in memory. -/
def paramS : Shape ParamD where
  n := 3
  At := paramAt
  len h := by rw [show _ = _ from h]; rfl
  keep h _ _ := h
  mono h _ := h

/-- What is known of one that came in. -/
def ParamD.came (t : ParamD) : Prop := t.fName.size ≤ maxLen ∧ True ∧ (Lit.int .i64 t.fType).wf = true
/-- How much it holds. -/
def ParamD.wt (t : ParamD) : Nat := t.fName.size

theorem cellsParamL : Tryz.prog.cellsOf 145 = 3 := by kernel_rfl
theorem c1ParamBool : Tryz.prog.cellsOf 4 = 1 := by kernel_rfl
theorem c1ParamInt : Tryz.prog.cellsOf 3 = 1 := by kernel_rfl
theorem c1ParamStr : Tryz.prog.cellsOf 9 = 1 := by kernel_rfl
theorem lenParam {l : List Value} (h : l.length = 3) : ∃ e0 e1 e2, l = [e0, e1, e2] := by
  match l, h with
  | [e0, e1, e2], _ => exact ⟨e0, e1, e2, rfl⟩
theorem openParam {H : Type} {enc : TypeId × Value → H} {w : World} {base : Nat} {spare : Nat → Bool} {held : Bool} (m : Nat) (cs : List Value) (x : DataW H × List MemPlace) (h : DataW.trod enc Tryz.prog w base spare held m 145 cs = some x) : ∃ t, paramS.At Any w cs t ∧ t.came := by
  obtain ⟨xs, n, rfl, _, hlen, hxs, hf⟩ := DataW.trod_struct Tryz.underlying145 h
  rw [cellsParamL] at hlen
  obtain ⟨e0, e1, e2, rfl⟩ := lenParam hlen
  replace hxs : xs.length = 3 := hxs
  have h0 := hf 0 _ rfl
  change DataW.trod enc Tryz.prog w base spare held n 9 (List.take (Tryz.prog.cellsOf 9) [e0, e1, e2]) = xs[0]? at h0
  rw [c1ParamStr, List.getElem?_eq_getElem (by omega)] at h0
  replace h0 : DataW.trod enc Tryz.prog w base spare held n 9 [e0] = _ := h0
  obtain ⟨v0, q0, _, k0⟩ := DataW.trod_string Tryz.underlying9 h0
  injection q0 with q0 _
  have h1 := hf 1 _ rfl
  change DataW.trod enc Tryz.prog w base spare held n 4 (List.take (Tryz.prog.cellsOf 4) [e1, e2]) = xs[1]? at h1
  rw [c1ParamBool, List.getElem?_eq_getElem (by omega)] at h1
  replace h1 : DataW.trod enc Tryz.prog w base spare held n 4 [e1] = _ := h1
  obtain ⟨v1, q1, _⟩ := DataW.trod_bool Tryz.underlying4 h1
  injection q1 with q1 _
  have h2 := hf 2 _ rfl
  change DataW.trod enc Tryz.prog w base spare held n 3 (List.take (Tryz.prog.cellsOf 3) [e2]) = xs[2]? at h2
  rw [c1ParamInt, List.getElem?_eq_getElem (by omega)] at h2
  replace h2 : DataW.trod enc Tryz.prog w base spare held n 3 [e2] = _ := h2
  obtain ⟨v2, q2, _, k2⟩ := DataW.trod_int Tryz.underlying3 h2
  injection q2 with q2 _
  subst q0 q1 q2
  exact ⟨⟨v0, v1, v2⟩, rfl, k0, trivial, k2⟩

theorem openParamS {H : Type} {enc : TypeId × Value → H} {w : World} {base : Nat} {spare : Nat → Bool} {held : Bool} {a : Option Addr} {len cap : Nat} {d : DataW H} {p : List MemPlace}
    (h : ∃ fuel, DataW.trod enc Tryz.prog w base spare held fuel 92 (Value.slice a len cap).cells.toList = some (d, p)) : ∃ l : List ParamD, l.length = len ∧ len ≤ maxLen ∧ Rows paramS Any w a l ∧ ∀ t ∈ l, t.came :=
  open_whole paramS _ Tryz.underlying92 cellsParamL (by decide) openParam h

theorem infoParam : (Tryz.prog.info? 106).map (fun i => (i.zero, i.size, i.bytes)) = some (some (.agg #[.string ByteArray.empty, .bool false, .int .i64 0]), 3, 32) := by kernel_rfl
theorem sizeParam : (Tryz.prog.info? 106).map (·.size) = some 3 := by kernel_rfl
theorem makeParam (n : Nat) (W : World) (hn : n ≤ 1048576) : (Instr.makeSlice 50 (.int .i64 (n : Int)) (.int .i64 (n : Int))).run Tryz.prog W = .ok (.slice (some ⟨W.heap.size, 0, none⟩) n n) (W.alloc (.cells (madeCells #[.string ByteArray.empty, .bool false, .int .i64 0] (n * 3)) 106)) := by
  obtain ⟨i0, hi0, hz0, hz1, hz2⟩ := info_parts infoParam
  have := run_make (P := Tryz.prog) W 50 106 i0 _ Tryz.underlying50 hi0 hz0 .i64 .i64 (n : Int) (n : Int) (by omega) (by omega) (by rw [hz2]; omega) (by omega)
  rw [this, hz1]
  rfl

set_option maxHeartbeats 2000000 in
theorem lToParamB (t : ParamD) (w : World) : Calls Tryz.prog 96 #[.agg #[.string t.fName, .bool t.fByVar, .int .i64 t.fType]] w fun e w' =>
    ∃ cs' : List Value, e = .returned (.agg cs'.toArray) ∧ paramS.At (fun b => w.heap.size ≤ b) w' cs' t ∧ Clean w.heap.size w' ∧ Below w.heap.size w w' := by
  go_enter Tryz.func96, Tryz.ntmps96
  go_wp2_with fail
  refine bodyPost_ret (results_one rfl Tryz.underlying106 rfl _ _ (w.heap.size + 1) #[.string t.fName, .bool t.fByVar, .int .i64 t.fType] rfl 106 (Box.alloc (Box.new' _ _ _ (by simp)) _) 3 sizeParam rfl) rfl ?_
  exact ⟨[.string t.fName, .bool t.fByVar, .int .i64 t.fType], rfl, rfl, (((Clean.refl w).alloc _ _).alloc _ _).alloc _ _, (((Below.refl w.heap.size w).alloc (Nat.le_refl _) _).alloc (by simp) _).alloc (by simp; omega) _⟩

theorem lToParam (t : ParamD) (w : World) : Calls Tryz.prog 96 #[.agg #[.string t.fName, .bool t.fByVar, .int .i64 t.fType]] w fun e w' =>
    ∃ cs' : List Value, e = .returned (.agg cs'.toArray) ∧ paramS.At (fun b => w.heap.size ≤ b) w' cs' t ∧ Below w.heap.size w w' :=
  (lToParamB t w).mono fun _ _ ⟨cs, h1, h2, _, h4⟩ => ⟨cs, h1, h2, h4⟩

set_option maxHeartbeats 2000000 in
theorem lToParamSB (a : Option Addr) (c : Nat) (l : List ParamD) (w : World) (hl : l.length ≤ 1048576) (hr : Rows paramS Any w a l) :
    Calls Tryz.prog 70 #[.slice a l.length c] w fun e w' => e = .returned (.slice (some ⟨w.heap.size, 0, none⟩) l.length l.length) ∧ Rows paramS (fun b => w.heap.size ≤ b) w' (some ⟨w.heap.size, 0, none⟩) l ∧ (∃ arr, Box w' w.heap.size 106 arr ∧ arr.size = l.length * 3) ∧ Clean w.heap.size w' ∧ Below w.heap.size w w' := by
  have km := fun W => makeParam l.length W hl
  have Hr := Lib.hid hr
  clear hr
  go_enter Tryz.func70, Tryz.ntmps70
  go_wp2_with fail
  go_loopw [4] (fun i wr => ∃ (k : Nat) (arr : Array Value), i = .int .i64 k ∧ k ≤ l.length ∧ Box wr w.heap.size 106 arr ∧ arr.size = l.length * 3 ∧ Filled paramS (fun b => w.heap.size < b) wr arr l k ∧ Clean w.heap.size wr ∧ Below w.heap.size w wr) (fun i _ => l.length - (intOf i).toNat)
  case atStart => exact ⟨0, _, rfl, by omega, Box.new w _ _, size_madeCells _ _, Filled.zero, (Clean.refl w).alloc _ _, (Below.refl _ _).alloc (Nat.le_refl _) _⟩
  case round =>
    clear km
    obtain ⟨k, arr, rfl, hk, hb, hsz, hf, hcl, hbel⟩ := hrel
    have Hcl := Lib.hid hcl
    clear hcl
    by_cases hlt : k < l.length
    · obtain ⟨b, o, cs, rfl, _, hb1, hc1, hat⟩ := Hr.out k hlt
      obtain rfl : cs = [.string l[k].fName, .bool l[k].fByVar, .int .i64 l[k].fType] := hat
      have hn : paramS.n = 3 := rfl
      have e0 := (hbel.cell (p := ⟨b, o + k * 3 + 0, none⟩) hb1).trans (hc1 0 (by decide))
      have e1 := (hbel.cell (p := ⟨b, o + k * 3 + 1, none⟩) hb1).trans (hc1 1 (by decide))
      have e2 := (hbel.cell (p := ⟨b, o + k * 3 + 2, none⟩) hb1).trans (hc1 2 (by decide))
      simp at e0 e1 e2
      have Hb := Lib.hid hb
      have Hf := Lib.hid hf
      have Hbel := Lib.hid hbel
      have Hst := Lib.hid (fun W arr cs => filled_store (S := paramS) (Q := fun b => w.heap.size < b) (w := W) (g := w.heap.size) (t := 106) (arr := arr) (cs := cs) hlt)
      clear hb hf hbel hc1
      generalize l[k] = t at *
      go_wp2_with fail
      refine (lToParamB t wr).mono ?_
      rintro e w1 ⟨cs', rfl, hat', hcl1, hw1⟩
      have HC1 := Lib.hid (Hcl.out.join hw1 hcl1)
      clear hcl1
      obtain rfl : cs' = [.string t.fName, .bool t.fByVar, .int .i64 t.fType] := hat'
      have hb2 := Hb.out.below hw1 Hb.out.lt
      have HB := Lib.hid hb2
      have f0 := hb2.free
      obtain ⟨x0, c0⟩ := hb2.some (i := k * 3) (by omega)
      obtain ⟨x1, c1⟩ := hb2.some (i := k * 3 + 1) (by omega)
      obtain ⟨x2, c2⟩ := hb2.some (i := k * 3 + 2) (by omega)
      have HF := Lib.hid (Hf.out.keep (fun b _ hl => hw1.block b hl) hw1.size)
      have HBel := Lib.hid (Hbel.out.trans (hw1.mono Hbel.out.size))
      clear hw1 hb2 Hb Hf Hbel
      go_wp2_with fail
      obtain ⟨arr', hB', hs', hF', hO'⟩ := Hst.out w1 arr [.string t.fName, .bool t.fByVar, .int .i64 t.fType] HB.out hsz HF.out rfl (Nat.lt_irrefl _)
      exact ⟨⟨k + 1, arr', by congr 1, by omega, hB', hs', hF', Clean.setL (g := w.heap.size) [.string t.fName, .bool t.fByVar, .int .i64 t.fType] _ HC1.out, HBel.out.trans (hO'.below (Nat.le_refl _) HB.out.lt)⟩, by simp [intOf]; omega⟩
    · obtain rfl : k = l.length := by omega
      have Hb := Lib.hid hb
      have Hf := Lib.hid hf
      have Hbel := Lib.hid hbel
      clear hb hf hbel
      go_wp2_with fail
      go_ret
      exact ⟨rfl, (Hf.out.mono (fun _ h _ => Nat.le_of_lt h)).rows Hb.out (Nat.le_refl _), ⟨arr, Hb.out, hsz⟩, Hcl.out, Hbel.out⟩

theorem lToParamS (a : Option Addr) (c : Nat) (l : List ParamD) (w : World) (hl : l.length ≤ 1048576) (hr : Rows paramS Any w a l) :
    Calls Tryz.prog 70 #[.slice a l.length c] w fun e w' => e = .returned (.slice (some ⟨w.heap.size, 0, none⟩) l.length l.length) ∧ Rows paramS (fun b => w.heap.size ≤ b) w' (some ⟨w.heap.size, 0, none⟩) l ∧ Below w.heap.size w w' :=
  (lToParamSB a c l w hl hr).mono fun _ _ ⟨h1, h2, _, _, h4⟩ => ⟨h1, h2, h4⟩

set_option maxHeartbeats 2000000 in
theorem lEqParam (t : ParamD) (w : World) : Calls Tryz.prog 114 #[.agg #[.string t.fName, .bool t.fByVar, .int .i64 t.fType], .agg #[.string t.fName, .bool t.fByVar, .int .i64 t.fType]] w fun e w' => e = .returned (.bool true) ∧ Below w.heap.size w w' := by
  go_enter Tryz.func114, Tryz.ntmps114
  go_wp2_with fail
  go_ret
  exact ⟨rfl, ((Below.refl w.heap.size w).alloc (Nat.le_refl _) _).alloc (by simp) _⟩

set_option maxRecDepth 100000 in
set_option maxHeartbeats 2000000 in
theorem lEqParamS (a a' : Option Addr) (c c' : Nat) (l : List ParamD) (w : World) (hl : l.length ≤ 1048576) (hr : Rows paramS Any w a l) (hr' : Rows paramS Any w a' l) :
    Calls Tryz.prog 85 #[.slice a l.length c, .slice a' l.length c'] w fun e w' => e = .returned (.bool true) ∧ Below w.heap.size w w' := by
  have Hr := Lib.hid hr
  have Hr' := Lib.hid hr'
  clear hr hr'
  go_enter Tryz.func85, Tryz.ntmps85
  go_wp2_with fail
  go_loopw [5] (fun i wr => ∃ k : Nat, i = .int .i64 k ∧ k ≤ l.length ∧ Below w.heap.size w wr) (fun i _ => l.length - (intOf i).toNat)
  case atStart => exact ⟨0, rfl, by omega, Below.refl _ _⟩
  case round =>
    obtain ⟨k, rfl, hk, hbel⟩ := hrel
    by_cases hlt : k < l.length
    · obtain ⟨b, o, cs, rfl, _, hb1, hc1, hat⟩ := Hr.out k hlt
      obtain ⟨b', o', cs', rfl, _, hb1', hc1', hat'⟩ := Hr'.out k hlt
      obtain rfl : cs = [.string l[k].fName, .bool l[k].fByVar, .int .i64 l[k].fType] := hat
      obtain rfl : cs' = [.string l[k].fName, .bool l[k].fByVar, .int .i64 l[k].fType] := hat'
      have hn : paramS.n = 3 := rfl
      have e0 := (hbel.cell (p := ⟨b, o + k * 3 + 0, none⟩) hb1).trans (hc1 0 (by decide))
      have q0 := (hbel.cell (p := ⟨b', o' + k * 3 + 0, none⟩) hb1').trans (hc1' 0 (by decide))
      have e1 := (hbel.cell (p := ⟨b, o + k * 3 + 1, none⟩) hb1).trans (hc1 1 (by decide))
      have q1 := (hbel.cell (p := ⟨b', o' + k * 3 + 1, none⟩) hb1').trans (hc1' 1 (by decide))
      have e2 := (hbel.cell (p := ⟨b, o + k * 3 + 2, none⟩) hb1).trans (hc1 2 (by decide))
      have q2 := (hbel.cell (p := ⟨b', o' + k * 3 + 2, none⟩) hb1').trans (hc1' 2 (by decide))
      simp at e0 q0 e1 q1 e2 q2
      have i1 : (0 : Int) ≤ (k : Int) := by omega
      have i2 : (k : Int) < (l.length : Int) := by omega
      have Hbel := Lib.hid hbel
      clear hbel hc1 hc1' Hr Hr'
      generalize l[k] = t at *
      go_wp2_with fail
      go_still_tail 8, (by kernel_rfl)
      go_wp2_with fail
      refine (lEqParam t _).mono ?_
      rintro e w1 ⟨rfl, hw1⟩
      go_wp2_with fail
      exact ⟨⟨k + 1, by congr 1, by omega, (belowN Hbel.out 1).trans (hw1.mono (Hbel.out.size))⟩, by simp [intOf]; omega⟩
    · go_wp2_with fail
      go_ret
      exact ⟨rfl, hbel⟩

set_option maxHeartbeats 2000000 in
theorem lSzParam (t : ParamD) (w : World) (left : Int) (h0 : 0 ≤ left) (h1 : left ≤ 1048576) (hcm : t.came) : Calls Tryz.prog 89 #[.agg #[.string t.fName, .bool t.fByVar, .int .i64 t.fType], .int .i64 left] w fun e w' =>
    ∃ r : Int, e = .returned (.int .i64 r) ∧ (r = -1 ∨ (0 ≤ r ∧ r = left - t.wt)) ∧ Below w.heap.size w w' := by
  unfold ParamD.came at hcm
  unfold maxLen at hcm
  obtain ⟨b0, b1, b2⟩ := hcm
  clear b1 b2
  have Hw : Hid (∀ r : Int, r = left - ((t.fName.size : Int) : Int) → r = left - (t.wt : Int)) := Lib.hid (by unfold ParamD.wt; intro r; push_cast; omega)
  have HB0 := Lib.hid (show Below w.heap.size w (w.alloc (.cells #[.string t.fName, .bool t.fByVar, .int .i64 t.fType] 145)) from (Below.refl w.heap.size w).alloc (Nat.le_refl _) _)
  go_enter Tryz.func89, Tryz.ntmps89
  by_cases g0 : left - (t.fName.size : Int) < 0
  · go_wp2_with fail
    go_ret
    exact ⟨-1, rfl, .inl rfl, HB0.out⟩
  go_wp2_with fail
  go_ret
  exact ⟨_, rfl, .inr ⟨by omega, Hw.out _ (by omega)⟩, HB0.out⟩

set_option maxHeartbeats 2000000 in
theorem lSzParamS (a : Option Addr) (c : Nat) (l : List ParamD) (w : World) (left : Int) (h0 : 0 ≤ left) (h1 : left ≤ 1048576) (hl : l.length ≤ maxLen) (hcm : ∀ t ∈ l, t.came) (hr : Rows paramS Any w a l) :
    Calls Tryz.prog 64 #[.slice a l.length c, .int .i64 left] w fun e w' => ∃ r : Int, e = .returned (.int .i64 r) ∧ (r = -1 ∨ (0 ≤ r ∧ r = left - ((wtL ParamD.wt l : Nat) : Int))) ∧ Below w.heap.size w w' := by
  have Hr := Lib.hid hr
  have Hcm := Lib.hid hcm
  clear hr hcm
  unfold maxLen at hl
  go_enter Tryz.func64, Tryz.ntmps64
  by_cases hn0 : left - (l.length : Int) < 0
  · go_wp2_with fail
    go_ret
    exact ⟨-1, rfl, .inl rfl, Below.refl _ _⟩
  go_wp2_with fail
  go_loopw [1, 5] (fun r i wr => ∃ k : Nat, i = .int .i64 k ∧ k ≤ l.length ∧ (∃ z : Int, r = .int .i64 z ∧ 0 ≤ z ∧ z = left - (l.length : Int) - ((wtK ParamD.wt l k : Nat) : Int)) ∧ Below w.heap.size w wr) (fun _ i _ => l.length - (intOf i).toNat)
  case atStart => exact ⟨0, rfl, by omega, ⟨_, rfl, by omega, by simp [wtK]⟩, Below.refl _ _⟩
  case round =>
    obtain ⟨k, rfl, hk, ⟨z, rfl, hz0, hz⟩, hbel⟩ := hrel
    by_cases hlt : k < l.length
    · obtain ⟨b, o, cs, rfl, _, hb1, hc1, hat⟩ := Hr.out k hlt
      obtain rfl : cs = [.string l[k].fName, .bool l[k].fByVar, .int .i64 l[k].fType] := hat
      have hn : paramS.n = 3 := rfl
      have e0 := (hbel.cell (p := ⟨b, o + k * 3 + 0, none⟩) hb1).trans (hc1 0 (by decide))
      have e1 := (hbel.cell (p := ⟨b, o + k * 3 + 1, none⟩) hb1).trans (hc1 1 (by decide))
      have e2 := (hbel.cell (p := ⟨b, o + k * 3 + 2, none⟩) hb1).trans (hc1 2 (by decide))
      simp at e0 e1 e2
      have Hbel := Lib.hid hbel
      have Hc := Lib.hid (Hcm.out l[k] (List.getElem_mem hlt))
      have Hk := Lib.hid (wtK_succ ParamD.wt hlt)
      have Hz := Lib.hid hz
      have hz1 : z ≤ 1048576 := by omega
      clear hbel hc1 hz
      generalize l[k] = t at *
      go_wp2_with fail
      refine (lSzParam t wr z hz0 hz1 Hc.out).mono ?_
      rintro e w1 ⟨r, rfl, hr, hw1⟩
      have HBel := Lib.hid (Hbel.out.trans (hw1.mono Hbel.out.size))
      clear hw1
      rcases hr with rfl | ⟨hr0, hr1⟩
      · go_wp2_with fail
        go_ret
        exact ⟨-1, rfl, .inl rfl, HBel.out⟩
      · have Hr1 := Lib.hid hr1
        clear hr1
        go_wp2_with fail
        exact ⟨⟨k + 1, by congr 1, by omega, ⟨r, rfl, hr0, by rw [Hk.out, Hr1.out, Hz.out]; push_cast; omega⟩, HBel.out⟩, by simp [intOf]; omega⟩
    · obtain rfl : k = l.length := by omega
      have Hz := Lib.hid hz
      have Hbel := Lib.hid hbel
      clear hz hbel
      go_wp2_with fail
      go_ret
      exact ⟨z, rfl, .inr ⟨hz0, by rw [Hz.out, wtK_all, wtL]; push_cast; omega⟩, Hbel.out⟩

end Go.Proofs.YtllddjmcemcdhaaGreat
