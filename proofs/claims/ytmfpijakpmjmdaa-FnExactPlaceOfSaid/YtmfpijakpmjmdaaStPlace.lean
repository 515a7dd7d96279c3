
/-
  What is proved: structs Place in memory: opened where they came in, counted, copied, compared, alone and in slices. No condition beside what each theorem states.
-/
import Derived.Test.YtmfpijakpmjmdaaNum
import Derived.Test.YtmfpijakpmjmdaaMem
import Derived.Test.YtmfpijakpmjmdaaMark
import Derived.Deep.QuietTactic
import Derived.BigQuiet
import Derived.StillTailTactics
namespace Go.Proofs.Ytmfpijakpmjmdaa
open Go.ChangeShapes Go.WideShapes Go.ChangeAt Go.RowKit

/-- Place as data. -/
structure PlaceD where
  fName : ByteArray
  fAt : Int
  fSize : Int

def placeAt (_ : Nat → Prop) (_ : World) (cs : List Value) (t : PlaceD) : Prop := cs = [.string t.fName, .int .i64 t.fAt, .int .i64 t.fSize]
/-- How one lies in memory. -/
def placeS : Shape PlaceD where
  n := 3
  At := placeAt
  len h := by rw [show _ = _ from h]; rfl
  keep h _ _ := h
  mono h _ := h

/-- What is known of one that came in. -/
def PlaceD.came (t : PlaceD) : Prop := t.fName.size ≤ maxLen ∧ (Lit.int .i64 t.fAt).wf = true ∧ (Lit.int .i64 t.fSize).wf = true
/-- How much it holds. -/
def PlaceD.wt (t : PlaceD) : Nat := t.fName.size

theorem c1PlaceInt : Try.prog.cellsOf 3 = 1 := by kernel_rfl
theorem c1PlaceStr : Try.prog.cellsOf 9 = 1 := by kernel_rfl
theorem lenPlace {l : List Value} (h : l.length = 3) : ∃ e0 e1 e2, l = [e0, e1, e2] := by
  match l, h with
  | [e0, e1, e2], _ => exact ⟨e0, e1, e2, rfl⟩
theorem infoPlace : (Try.prog.info? 47).map (fun i => (i.zero, i.size, i.bytes)) = some (some (.agg #[.string ByteArray.empty, .int .i64 0, .int .i64 0]), 3, 32) := by kernel_rfl
theorem sizePlace : (Try.prog.info? 47).map (·.size) = some 3 := by kernel_rfl
theorem makePlace (n : Nat) (W : World) (hn : n ≤ 1048576) : (Instr.makeSlice 41 (.int .i64 (n : Int)) (.int .i64 (n : Int))).run Try.prog W = .ok (.slice (some ⟨W.heap.size, 0, none⟩) n n) (W.alloc (.cells (madeCells #[.string ByteArray.empty, .int .i64 0, .int .i64 0] (n * 3)) 47)) := by
  obtain ⟨i0, hi0, hz0, hz1, hz2⟩ := info_parts infoPlace
  have := run_make (P := Try.prog) W 41 47 i0 _ Try.underlying41 hi0 hz0 .i64 .i64 (n : Int) (n : Int) (by omega) (by omega) (by rw [hz2]; omega) (by omega)
  rw [this, hz1]
  rfl

set_option maxHeartbeats 2000000 in
theorem lEqPlace (t : PlaceD) (w : World) : Calls Try.prog 36 #[.agg #[.string t.fName, .int .i64 t.fAt, .int .i64 t.fSize], .agg #[.string t.fName, .int .i64 t.fAt, .int .i64 t.fSize]] w fun e w' => e = .returned (.bool true) ∧ Below w.heap.size w w' := by
  go_enter Try.func36, Try.ntmps36
  go_wp2_with fail
  go_ret
  exact ⟨rfl, ((Below.refl w.heap.size w).alloc (Nat.le_refl _) _).alloc (by simp) _⟩

set_option maxRecDepth 100000 in
set_option maxHeartbeats 2000000 in
theorem lEqPlaceS (a a' : Option Addr) (c c' : Nat) (l : List PlaceD) (w : World) (hl : l.length ≤ 1048576) (hr : Rows placeS Any w a l) (hr' : Rows placeS Any w a' l) :
    Calls Try.prog 31 #[.slice a l.length c, .slice a' l.length c'] w fun e w' => e = .returned (.bool true) ∧ Below w.heap.size w w' := by
  have Hr := Lib.hid hr
  have Hr' := Lib.hid hr'
  clear hr hr'
  go_enter Try.func31, Try.ntmps31
  go_wp2_with fail
  go_loopw [5] (fun i wr => ∃ k : Nat, i = .int .i64 k ∧ k ≤ l.length ∧ Below w.heap.size w wr) (fun i _ => l.length - (intOf i).toNat)
  case atStart => exact ⟨0, rfl, by omega, Below.refl _ _⟩
  case round =>
    obtain ⟨k, rfl, hk, hbel⟩ := hrel
    by_cases hlt : k < l.length
    · obtain ⟨b, o, cs, rfl, _, hb1, hc1, hat⟩ := Hr.out k hlt
      obtain ⟨b', o', cs', rfl, _, hb1', hc1', hat'⟩ := Hr'.out k hlt
      obtain rfl : cs = [.string l[k].fName, .int .i64 l[k].fAt, .int .i64 l[k].fSize] := hat
      obtain rfl : cs' = [.string l[k].fName, .int .i64 l[k].fAt, .int .i64 l[k].fSize] := hat'
      have hn : placeS.n = 3 := rfl
      have e0 := (hbel.cell (p := ⟨b, o + k * 3 + 0, none⟩) hb1).trans (hc1 0 (by decide))
      have q0 := (hbel.cell (p := ⟨b', o' + k * 3 + 0, none⟩) hb1').trans (hc1' 0 (by decide))
      have e1 := (hbel.cell (p := ⟨b, o + k * 3 + 1, none⟩) hb1).trans (hc1 1 (by decide))
      have q1 := (hbel.cell (p := ⟨b', o' + k * 3 + 1, none⟩) hb1').trans (hc1' 1 (by decide))
      have e2 := (hbel.cell (p := ⟨b, o + k * 3 + 2, none⟩) hb1).trans (hc1 2 (by decide))
      have q2 := (hbel.cell (p := ⟨b', o' + k * 3 + 2, none⟩) hb1').trans (hc1' 2 (by decide))
      simp at e0 q0 e1 q1 e2 q2
      have i1 : (0 : Int) ≤ (k : Int) := by omega
      have i2 : (k : Int) < (l.length : Int) := by omega
      have Hbel := Lib.hid hbel
      clear hbel hc1 hc1' Hr Hr'
      generalize l[k] = t at *
      go_wp2_with fail
      go_still_tail 8, (by kernel_rfl)
      go_wp2_with fail
      refine (lEqPlace t _).mono ?_
      rintro e w1 ⟨rfl, hw1⟩
      go_wp2_with fail
      exact ⟨⟨k + 1, by congr 1, by omega, (belowN Hbel.out 1).trans (hw1.mono (Hbel.out.size))⟩, by simp [intOf]; omega⟩
    · go_wp2_with fail
      go_ret
      exact ⟨rfl, hbel⟩

end Go.Proofs.Ytmfpijakpmjmdaa
