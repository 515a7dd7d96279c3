
/-
  What is proved: structs Field in memory: opened where they came in, counted, copied, compared, alone and in slices. No condition beside what each theorem states.
-/
import Derived.Test.YtllddjmcemcdhaaGreatNum
import Derived.Test.YtllddjmcemcdhaaGreatMem
import Derived.Test.YtllddjmcemcdhaaGreatMark
import Derived.Deep.QuietTactic
import Derived.BigQuiet
import Derived.StillTailTactics
namespace Go.Proofs.YtllddjmcemcdhaaGreat
open Go.ChangeShapes Go.WideShapes Go.ChangeAt Go.RowKit

/-- Field as data. -/
structure FieldD where
  fName : ByteArray
  fMark : Int
  fType : Int

def fieldAt (_ : Nat → Prop) (_ : World) (cs : List Value) (t : FieldD) : Prop := cs = [.string t.fName, .int .i64 t.fMark, .int .i64 t.fType]
/-- How one lies in memory. -/
def fieldS : Shape FieldD where
  n := 3
  At := fieldAt
  len h := by rw [show _ = _ from h]; rfl
  keep h _ _ := h
  mono h _ := h

/-- What is known of one that came in. -/
def FieldD.came (t : FieldD) : Prop := t.fName.size ≤ maxLen ∧ (Lit.int .i64 t.fMark).wf = true ∧ (Lit.int .i64 t.fType).wf = true
/-- How much it holds. -/
def FieldD.wt (t : FieldD) : Nat := t.fName.size

theorem cellsFieldL : Tryz.prog.cellsOf 143 = 3 := by kernel_rfl
theorem c1FieldInt : Tryz.prog.cellsOf 3 = 1 := by kernel_rfl
theorem c1FieldStr : Tryz.prog.cellsOf 9 = 1 := by kernel_rfl
theorem lenField {l : List Value} (h : l.length = 3) : ∃ e0 e1 e2, l = [e0, e1, e2] := by
  match l, h with
  | [e0, e1, e2], _ => exact ⟨e0, e1, e2, rfl⟩
theorem openField {H : Type} {enc : TypeId × Value → H} {w : World} {base : Nat} {spare : Nat → Bool} {held : Bool} (m : Nat) (cs : List Value) (x : DataW H × List MemPlace) (h : DataW.trod enc Tryz.prog w base spare held m 143 cs = some x) : ∃ t, fieldS.At Any w cs t ∧ t.came := by
  obtain ⟨xs, n, rfl, _, hlen, hxs, hf⟩ := DataW.trod_struct Tryz.underlying143 h
  rw [cellsFieldL] at hlen
  obtain ⟨e0, e1, e2, rfl⟩ := lenField hlen
  replace hxs : xs.length = 3 := hxs
  have h0 := hf 0 _ rfl
  change DataW.trod enc Tryz.prog w base spare held n 9 (List.take (Tryz.prog.cellsOf 9) [e0, e1, e2]) = xs[0]? at h0
  rw [c1FieldStr, List.getElem?_eq_getElem (by omega)] at h0
  replace h0 : DataW.trod enc Tryz.prog w base spare held n 9 [e0] = _ := h0
  obtain ⟨v0, q0, _, k0⟩ := DataW.trod_string Tryz.underlying9 h0
  injection q0 with q0 _
  have h1 := hf 1 _ rfl
  change DataW.trod enc Tryz.prog w base spare held n 3 (List.take (Tryz.prog.cellsOf 3) [e1, e2]) = xs[1]? at h1
  rw [c1FieldInt, List.getElem?_eq_getElem (by omega)] at h1
  replace h1 : DataW.trod enc Tryz.prog w base spare held n 3 [e1] = _ := h1
  obtain ⟨v1, q1, _, k1⟩ := DataW.trod_int Tryz.underlying3 h1
  injection q1 with q1 _
  have h2 := hf 2 _ rfl
  change DataW.trod enc Tryz.prog w base spare held n 3 (List.take (Tryz.prog.cellsOf 3) [e2]) = xs[2]? at h2
  rw [c1FieldInt, List.getElem?_eq_getElem (by omega)] at h2
  replace h2 : DataW.trod enc Tryz.prog w base spare held n 3 [e2] = _ := h2
  obtain ⟨v2, q2, _, k2⟩ := DataW.trod_int Tryz.underlying3 h2
  injection q2 with q2 _
  subst q0 q1 q2
  exact ⟨⟨v0, v1, v2⟩, rfl, k0, k1, k2⟩

theorem openFieldS {H : Type} {enc : TypeId × Value → H} {w : World} {base : Nat} {spare : Nat → Bool} {held : Bool} {a : Option Addr} {len cap : Nat} {d : DataW H} {p : List MemPlace}
    (h : ∃ fuel, DataW.trod enc Tryz.prog w base spare held fuel 88 (Value.slice a len cap).cells.toList = some (d, p)) : ∃ l : List FieldD, l.length = len ∧ len ≤ maxLen ∧ Rows fieldS Any w a l ∧ ∀ t ∈ l, t.came :=
  open_whole fieldS _ Tryz.underlying88 cellsFieldL (by decide) openField h

theorem infoField : (Tryz.prog.info? 113).map (fun i => (i.zero, i.size, i.bytes)) = some (some (.agg #[.string ByteArray.empty, .int .i64 0, .int .i64 0]), 3, 32) := by kernel_rfl
theorem sizeField : (Tryz.prog.info? 113).map (·.size) = some 3 := by kernel_rfl
theorem makeField (n : Nat) (W : World) (hn : n ≤ 1048576) : (Instr.makeSlice 108 (.int .i64 (n : Int)) (.int .i64 (n : Int))).run Tryz.prog W = .ok (.slice (some ⟨W.heap.size, 0, none⟩) n n) (W.alloc (.cells (madeCells #[.string ByteArray.empty, .int .i64 0, .int .i64 0] (n * 3)) 113)) := by
  obtain ⟨i0, hi0, hz0, hz1, hz2⟩ := info_parts infoField
  have := run_make (P := Tryz.prog) W 108 113 i0 _ Tryz.underlying108 hi0 hz0 .i64 .i64 (n : Int) (n : Int) (by omega) (by omega) (by rw [hz2]; omega) (by omega)
  rw [this, hz1]
  rfl

set_option maxHeartbeats 2000000 in
theorem lToFieldB (t : FieldD) (w : World) : Calls Tryz.prog 95 #[.agg #[.string t.fName, .int .i64 t.fMark, .int .i64 t.fType]] w fun e w' =>
    ∃ cs' : List Value, e = .returned (.agg cs'.toArray) ∧ fieldS.At (fun b => w.heap.size ≤ b) w' cs' t ∧ Clean w.heap.size w' ∧ Below w.heap.size w w' := by
  go_enter Tryz.func95, Tryz.ntmps95
  go_wp2_with fail
  refine bodyPost_ret (results_one rfl Tryz.underlying113 rfl _ _ (w.heap.size + 1) #[.string t.fName, .int .i64 t.fMark, .int .i64 t.fType] rfl 113 (Box.alloc (Box.new' _ _ _ (by simp)) _) 3 sizeField rfl) rfl ?_
  exact ⟨[.string t.fName, .int .i64 t.fMark, .int .i64 t.fType], rfl, rfl, (((Clean.refl w).alloc _ _).alloc _ _).alloc _ _, (((Below.refl w.heap.size w).alloc (Nat.le_refl _) _).alloc (by simp) _).alloc (by simp; omega) _⟩

theorem lToField (t : FieldD) (w : World) : Calls Tryz.prog 95 #[.agg #[.string t.fName, .int .i64 t.fMark, .int .i64 t.fType]] w fun e w' =>
    ∃ cs' : List Value, e = .returned (.agg cs'.toArray) ∧ fieldS.At (fun b => w.heap.size ≤ b) w' cs' t ∧ Below w.heap.size w w' :=
  (lToFieldB t w).mono fun _ _ ⟨cs, h1, h2, _, h4⟩ => ⟨cs, h1, h2, h4⟩

set_option maxHeartbeats 2000000 in
theorem lToFieldSB (a : Option Addr) (c : Nat) (l : List FieldD) (w : World) (hl : l.length ≤ 1048576) (hr : Rows fieldS Any w a l) :
    Calls Tryz.prog 69 #[.slice a l.length c] w fun e w' => e = .returned (.slice (some ⟨w.heap.size, 0, none⟩) l.length l.length) ∧ Rows fieldS (fun b => w.heap.size ≤ b) w' (some ⟨w.heap.size, 0, none⟩) l ∧ (∃ arr, Box w' w.heap.size 113 arr ∧ arr.size = l.length * 3) ∧ Clean w.heap.size w' ∧ Below w.heap.size w w' := by
  have km := fun W => makeField l.length W hl
  have Hr := Lib.hid hr
  clear hr
  go_enter Tryz.func69, Tryz.ntmps69
  go_wp2_with fail
  go_loopw [4] (fun i wr => ∃ (k : Nat) (arr : Array Value), i = .int .i64 k ∧ k ≤ l.length ∧ Box wr w.heap.size 113 arr ∧ arr.size = l.length * 3 ∧ Filled fieldS (fun b => w.heap.size < b) wr arr l k ∧ Clean w.heap.size wr ∧ Below w.heap.size w wr) (fun i _ => l.length - (intOf i).toNat)
  case atStart => exact ⟨0, _, rfl, by omega, Box.new w _ _, size_madeCells _ _, Filled.zero, (Clean.refl w).alloc _ _, (Below.refl _ _).alloc (Nat.le_refl _) _⟩
  case round =>
    clear km
    obtain ⟨k, arr, rfl, hk, hb, hsz, hf, hcl, hbel⟩ := hrel
    have Hcl := Lib.hid hcl
    clear hcl
    by_cases hlt : k < l.length
    · obtain ⟨b, o, cs, rfl, _, hb1, hc1, hat⟩ := Hr.out k hlt
      obtain rfl : cs = [.string l[k].fName, .int .i64 l[k].fMark, .int .i64 l[k].fType] := hat
      have hn : fieldS.n = 3 := rfl
      have e0 := (hbel.cell (p := ⟨b, o + k * 3 + 0, none⟩) hb1).trans (hc1 0 (by decide))
      have e1 := (hbel.cell (p := ⟨b, o + k * 3 + 1, none⟩) hb1).trans (hc1 1 (by decide))
      have e2 := (hbel.cell (p := ⟨b, o + k * 3 + 2, none⟩) hb1).trans (hc1 2 (by decide))
      simp at e0 e1 e2
      have Hb := Lib.hid hb
      have Hf := Lib.hid hf
      have Hbel := Lib.hid hbel
      have Hst := Lib.hid (fun W arr cs => filled_store (S := fieldS) (Q := fun b => w.heap.size < b) (w := W) (g := w.heap.size) (t := 113) (arr := arr) (cs := cs) hlt)
      clear hb hf hbel hc1
      generalize l[k] = t at *
      go_wp2_with fail
      refine (lToFieldB t wr).mono ?_
      rintro e w1 ⟨cs', rfl, hat', hcl1, hw1⟩
      have HC1 := Lib.hid (Hcl.out.join hw1 hcl1)
      clear hcl1
      obtain rfl : cs' = [.string t.fName, .int .i64 t.fMark, .int .i64 t.fType] := hat'
      have hb2 := Hb.out.below hw1 Hb.out.lt
      have HB := Lib.hid hb2
      have f0 := hb2.free
      obtain ⟨x0, c0⟩ := hb2.some (i := k * 3) (by omega)
      obtain ⟨x1, c1⟩ := hb2.some (i := k * 3 + 1) (by omega)
      obtain ⟨x2, c2⟩ := hb2.some (i := k * 3 + 2) (by omega)
      have HF := Lib.hid (Hf.out.keep (fun b _ hl => hw1.block b hl) hw1.size)
      have HBel := Lib.hid (Hbel.out.trans (hw1.mono Hbel.out.size))
      clear hw1 hb2 Hb Hf Hbel
      go_wp2_with fail
      obtain ⟨arr', hB', hs', hF', hO'⟩ := Hst.out w1 arr [.string t.fName, .int .i64 t.fMark, .int .i64 t.fType] HB.out hsz HF.out rfl (Nat.lt_irrefl _)
      exact ⟨⟨k + 1, arr', by congr 1, by omega, hB', hs', hF', Clean.setL (g := w.heap.size) [.string t.fName, .int .i64 t.fMark, .int .i64 t.fType] _ HC1.out, HBel.out.trans (hO'.below (Nat.le_refl _) HB.out.lt)⟩, by simp [intOf]; omega⟩
    · obtain rfl : k = l.length := by omega
      have Hb := Lib.hid hb
      have Hf := Lib.hid hf
      have Hbel := Lib.hid hbel
      clear hb hf hbel
      go_wp2_with fail
      go_ret
      exact ⟨rfl, (Hf.out.mono (fun _ h _ => Nat.le_of_lt h)).rows Hb.out (Nat.le_refl _), ⟨arr, Hb.out, hsz⟩, Hcl.out, Hbel.out⟩

theorem lToFieldS (a : Option Addr) (c : Nat) (l : List FieldD) (w : World) (hl : l.length ≤ 1048576) (hr : Rows fieldS Any w a l) :
    Calls Tryz.prog 69 #[.slice a l.length c] w fun e w' => e = .returned (.slice (some ⟨w.heap.size, 0, none⟩) l.length l.length) ∧ Rows fieldS (fun b => w.heap.size ≤ b) w' (some ⟨w.heap.size, 0, none⟩) l ∧ Below w.heap.size w w' :=
  (lToFieldSB a c l w hl hr).mono fun _ _ ⟨h1, h2, _, _, h4⟩ => ⟨h1, h2, h4⟩

set_option maxHeartbeats 2000000 in
theorem lEqField (t : FieldD) (w : World) : Calls Tryz.prog 113 #[.agg #[.string t.fName, .int .i64 t.fMark, .int .i64 t.fType], .agg #[.string t.fName, .int .i64 t.fMark, .int .i64 t.fType]] w fun e w' => e = .returned (.bool true) ∧ Below w.heap.size w w' := by
  go_enter Tryz.func113, Tryz.ntmps113
  go_wp2_with fail
  go_ret
  exact ⟨rfl, ((Below.refl w.heap.size w).alloc (Nat.le_refl _) _).alloc (by simp) _⟩

set_option maxRecDepth 100000 in
set_option maxHeartbeats 2000000 in
theorem lEqFieldS (a a' : Option Addr) (c c' : Nat) (l : List FieldD) (w : World) (hl : l.length ≤ 1048576) (hr : Rows fieldS Any w a l) (hr' : Rows fieldS Any w a' l) :
    Calls Tryz.prog 84 #[.slice a l.length c, .slice a' l.length c'] w fun e w' => e = .returned (.bool true) ∧ Below w.heap.size w w' := by
  have Hr := Lib.hid hr
  have Hr' := Lib.hid hr'
  clear hr hr'
  go_enter Tryz.func84, Tryz.ntmps84
  go_wp2_with fail
  go_loopw [5] (fun i wr => ∃ k : Nat, i = .int .i64 k ∧ k ≤ l.length ∧ Below w.heap.size w wr) (fun i _ => l.length - (intOf i).toNat)
  case atStart => exact ⟨0, rfl, by omega, Below.refl _ _⟩
  case round =>
    obtain ⟨k, rfl, hk, hbel⟩ := hrel
    by_cases hlt : k < l.length
    · obtain ⟨b, o, cs, rfl, _, hb1, hc1, hat⟩ := Hr.out k hlt
      obtain ⟨b', o', cs', rfl, _, hb1', hc1', hat'⟩ := Hr'.out k hlt
      obtain rfl : cs = [.string l[k].fName, .int .i64 l[k].fMark, .int .i64 l[k].fType] := hat
      obtain rfl : cs' = [.string l[k].fName, .int .i64 l[k].fMark, .int .i64 l[k].fType] := hat'
      have hn : fieldS.n = 3 := rfl
      have e0 := (hbel.cell (p := ⟨b, o + k * 3 + 0, none⟩) hb1).trans (hc1 0 (by decide))
      have q0 := (hbel.cell (p := ⟨b', o' + k * 3 + 0, none⟩) hb1').trans (hc1' 0 (by decide))
      have e1 := (hbel.cell (p := ⟨b, o + k * 3 + 1, none⟩) hb1).trans (hc1 1 (by decide))
      have q1 := (hbel.cell (p := ⟨b', o' + k * 3 + 1, none⟩) hb1').trans (hc1' 1 (by decide))
      have e2 := (hbel.cell (p := ⟨b, o + k * 3 + 2, none⟩) hb1).trans (hc1 2 (by decide))
      have q2 := (hbel.cell (p := ⟨b', o' + k * 3 + 2, none⟩) hb1').trans (hc1' 2 (by decide))
      simp at e0 q0 e1 q1 e2 q2
      have i1 : (0 : Int) ≤ (k : Int) := by omega
      have i2 : (k : Int) < (l.length : Int) := by omega
      have Hbel := Lib.hid hbel
      clear hbel hc1 hc1' Hr Hr'
      generalize l[k] = t at *
      go_wp2_with fail
      go_still_tail 8, (by kernel_rfl)
      go_wp2_with fail
      refine (lEqField t _).mono ?_
      rintro e w1 ⟨rfl, hw1⟩
      go_wp2_with fail
      exact ⟨⟨k + 1, by congr 1, by omega, (belowN Hbel.out 1).trans (hw1.mono (Hbel.out.size))⟩, by simp [intOf]; omega⟩
    · go_wp2_with fail
      go_ret
      exact ⟨rfl, hbel⟩

set_option maxHeartbeats 2000000 in
theorem lSzField (t : FieldD) (w : World) (left : Int) (h0 : 0 ≤ left) (h1 : left ≤ 1048576) (hcm : t.came) : Calls Tryz.prog 88 #[.agg #[.string t.fName, .int .i64 t.fMark, .int .i64 t.fType], .int .i64 left] w fun e w' =>
    ∃ r : Int, e = .returned (.int .i64 r) ∧ (r = -1 ∨ (0 ≤ r ∧ r = left - t.wt)) ∧ Below w.heap.size w w' := by
  unfold FieldD.came at hcm
  unfold maxLen at hcm
  obtain ⟨b0, b1, b2⟩ := hcm
  clear b1 b2
  have Hw : Hid (∀ r : Int, r = left - ((t.fName.size : Int) : Int) → r = left - (t.wt : Int)) := Lib.hid (by unfold FieldD.wt; intro r; push_cast; omega)
  have HB0 := Lib.hid (show Below w.heap.size w (w.alloc (.cells #[.string t.fName, .int .i64 t.fMark, .int .i64 t.fType] 143)) from (Below.refl w.heap.size w).alloc (Nat.le_refl _) _)
  go_enter Tryz.func88, Tryz.ntmps88
  by_cases g0 : left - (t.fName.size : Int) < 0
  · go_wp2_with fail
    go_ret
    exact ⟨-1, rfl, .inl rfl, HB0.out⟩
  go_wp2_with fail
  go_ret
  exact ⟨_, rfl, .inr ⟨by omega, Hw.out _ (by omega)⟩, HB0.out⟩

set_option maxHeartbeats 2000000 in
theorem lSzFieldS (a : Option Addr) (c : Nat) (l : List FieldD) (w : World) (left : Int) (h0 : 0 ≤ left) (h1 : left ≤ 1048576) (hl : l.length ≤ maxLen) (hcm : ∀ t ∈ l, t.came) (hr : Rows fieldS Any w a l) :
    Calls Tryz.prog 63 #[.slice a l.length c, .int .i64 left] w fun e w' => ∃ r : Int, e = .returned (.int .i64 r) ∧ (r = -1 ∨ (0 ≤ r ∧ r = left - ((wtL FieldD.wt l : Nat) : Int))) ∧ Below w.heap.size w w' := by
  have Hr := Lib.hid hr
  have Hcm := Lib.hid hcm
  clear hr hcm
  unfold maxLen at hl
  go_enter Tryz.func63, Tryz.ntmps63
  by_cases hn0 : left - (l.length : Int) < 0
  · go_wp2_with fail
    go_ret
    exact ⟨-1, rfl, .inl rfl, Below.refl _ _⟩
  go_wp2_with fail
  go_loopw [1, 5] (fun r i wr => ∃ k : Nat, i = .int .i64 k ∧ k ≤ l.length ∧ (∃ z : Int, r = .int .i64 z ∧ 0 ≤ z ∧ z = left - (l.length : Int) - ((wtK FieldD.wt l k : Nat) : Int)) ∧ Below w.heap.size w wr) (fun _ i _ => l.length - (intOf i).toNat)
  case atStart => exact ⟨0, rfl, by omega, ⟨_, rfl, by omega, by simp [wtK]⟩, Below.refl _ _⟩
  case round =>
    obtain ⟨k, rfl, hk, ⟨z, rfl, hz0, hz⟩, hbel⟩ := hrel
    by_cases hlt : k < l.length
    · obtain ⟨b, o, cs, rfl, _, hb1, hc1, hat⟩ := Hr.out k hlt
      obtain rfl : cs = [.string l[k].fName, .int .i64 l[k].fMark, .int .i64 l[k].fType] := hat
      have hn : fieldS.n = 3 := rfl
      have e0 := (hbel.cell (p := ⟨b, o + k * 3 + 0, none⟩) hb1).trans (hc1 0 (by decide))
      have e1 := (hbel.cell (p := ⟨b, o + k * 3 + 1, none⟩) hb1).trans (hc1 1 (by decide))
      have e2 := (hbel.cell (p := ⟨b, o + k * 3 + 2, none⟩) hb1).trans (hc1 2 (by decide))
      simp at e0 e1 e2
      have Hbel := Lib.hid hbel
      have Hc := Lib.hid (Hcm.out l[k] (List.getElem_mem hlt))
      have Hk := Lib.hid (wtK_succ FieldD.wt hlt)
      have Hz := Lib.hid hz
      have hz1 : z ≤ 1048576 := by omega
      clear hbel hc1 hz
      generalize l[k] = t at *
      go_wp2_with fail
      refine (lSzField t wr z hz0 hz1 Hc.out).mono ?_
      rintro e w1 ⟨r, rfl, hr, hw1⟩
      have HBel := Lib.hid (Hbel.out.trans (hw1.mono Hbel.out.size))
      clear hw1
      rcases hr with rfl | ⟨hr0, hr1⟩
      · go_wp2_with fail
        go_ret
        exact ⟨-1, rfl, .inl rfl, HBel.out⟩
      · have Hr1 := Lib.hid hr1
        clear hr1
        go_wp2_with fail
        exact ⟨⟨k + 1, by congr 1, by omega, ⟨r, rfl, hr0, by rw [Hk.out, Hr1.out, Hz.out]; push_cast; omega⟩, HBel.out⟩, by simp [intOf]; omega⟩
    · obtain rfl : k = l.length := by omega
      have Hz := Lib.hid hz
      have Hbel := Lib.hid hbel
      clear hz hbel
      go_wp2_with fail
      go_ret
      exact ⟨z, rfl, .inr ⟨hz0, by rw [Hz.out, wtK_all, wtL]; push_cast; omega⟩, Hbel.out⟩

end Go.Proofs.YtllddjmcemcdhaaGreat
