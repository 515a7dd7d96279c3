
/-
  What is proved: what the laid table of kept words gives the walks, contracts of IsWord of the program and of its model, and the walk of its law. No condition beside what each theorem states.
-/
import Derived.Test.YtggpecddhileoaaDoorName
import Derived.Test.YtggpecddhileoaaDoorMem
import Derived.ChangeVars
import Derived.LaidMore
import Derived.OpenShut
import Derived.ProofKit
import Derived.Stop.Joined
namespace Go.Proofs.YtggpecddhileoaaDoor
open Go.ChangeShapes Go.WideShapes Go.ChangeAt Go.RowKit

/-- The kept words. -/
def wordL : List (List UInt8) := [[77, 79, 68, 85, 76, 69], [73, 77, 80, 79, 82, 84], [67, 79, 78, 83, 84], [84, 89, 80, 69], [86, 65, 82], [80, 82, 79, 67], [85, 83, 69], [69, 78, 68], [65, 82, 82, 65, 89], [79, 70], [82, 69, 67, 79, 82, 68], [80, 79, 73, 78, 84, 69, 82], [84, 79], [68, 73, 86], [77, 79, 68]]
def wordZ (k : Nat) : ByteArray := ⟨(wordL.getD k []).toArray⟩
def wordsA : Array Value := (wordL.map fun l => Value.string ⟨l.toArray⟩).toArray
theorem wordsA_size : wordsA.size = 15 := rfl
theorem wordsA_at (k : Nat) (h : k < 15) : wordsA[k]? = some (.string (wordZ k)) := by
  match k, h with
  | 0, _ | 1, _ | 2, _ | 3, _ | 4, _ | 5, _ | 6, _ | 7, _ | 8, _ | 9, _ | 10, _ | 11, _ | 12, _ | 13, _ | 14, _ => rfl
  | n + 15, h => omega

/-- The table of the program holds the kept words. -/
def Kept (w : World) : Prop := ∃ t, w.heap[0]? = some (.cells wordsA t (0, 0))
theorem Kept.below {w w' : World} (h : Kept w) (hb : Below w.heap.size w w') : Kept w' := by
  obtain ⟨t, h⟩ := h
  exact ⟨t, (hb.block _ (by by_cases hg : 0 < w.heap.size; exact hg; rw [Array.getElem?_eq_none (by omega)] at h; cases h)).trans h⟩
theorem Kept.pos {w : World} (h : Kept w) : 0 < w.heap.size := by
  obtain ⟨t, h⟩ := h
  by_cases hg : 0 < w.heap.size
  · omega
  · rw [Array.getElem?_eq_none (by omega)] at h; cases h

theorem gKept : Tryd.prog.globalNamed "loop.example/g00837/impl.keptWords" = some 0 := by kernel_rfl
theorem tKept : (Tryd.prog.globals[0]?).map (·.type) = some 68 := by kernel_rfl
theorem cKept : Tryd.prog.cellsOf 68 = 15 := by kernel_rfl
theorem cStr : Tryd.prog.cellsOf 9 = 1 := by kernel_rfl

abbrev laidK : List (String × DataW Unit) := [("loop.example/g00837/impl.keptWords", Rows.laid_loop_example_g00837_impl_keptWords)]

theorem door_met (os : Os) (args : Array Value) : laidMetH Tryd.prog laidK ((World.doorLaid Tryd.prog 400 os).forCall (fun _ _ => 0) ⟨#[], args, []⟩).memory :=
  laidMetH_of_parts3 (fuel := 8) (laidMet_of_run' 8 (by kernel_rfl) (by kernel_rfl)) (by kernel_rfl) (by kernel_rfl)

theorem var_of_laid {W : World} (h : laidMetH Tryd.prog laidK W) : W.var? Tryd.prog "loop.example/g00837/impl.keptWords" = some wordsA := by
  rw [MakeChecks.laidMetH_plain _ _ _ (by kernel_rfl)] at h
  obtain ⟨ps, ⟨g, t, cs, fuel, p, q, hg, ht, hvar, hd, _, _⟩, _⟩ := h
  obtain rfl := Option.some.inj (gKept.symm.trans hg)
  obtain rfl := Option.some.inj (tKept.symm.trans ht)
  rw [hvar]
  congr 1
  obtain ⟨l⟩ := cs
  obtain ⟨xs, m, rfl, hx, hlen, hn, hel⟩ := DataW.trod_array Tryd.underlying68 hd
  rw [cKept] at hlen
  simp only [Prod.mk.injEq] at hx
  have hx1 : Rows.laid_loop_example_g00837_impl_keptWords (H := Unit) = .agg (xs.map (·.1)) := hx.1
  have hmap : xs.map (·.1) = wordL.map (fun b => DataW.lit (.string b)) := by
    have : DataW.agg (H := Unit) (wordL.map (fun b => DataW.lit (.string b))) = .agg (xs.map (·.1)) := hx1
    injection this with this
    exact this.symm
  apply Array.ext'
  show l = wordL.map fun l => Value.string ⟨l.toArray⟩
  apply List.ext_getElem?
  intro i
  by_cases hi : i < 15
  · have h0 := hel i hi
    rw [cStr, Nat.mul_one] at h0
    obtain ⟨x, hxi⟩ : ∃ x, xs[i]? = some x := ⟨xs[i]'(by omega), List.getElem?_eq_getElem (by omega)⟩
    rw [hxi] at h0
    obtain ⟨s, e1, e2, _⟩ := DataW.trod_string Tryd.underlying9 h0
    have e3 : l[i]? = some (.string s) := by
      have := congrArg (fun z => z[0]?) e1
      simpa using this
    have e4 : (wordL.map (fun b => DataW.lit (H := Unit) (.string b)))[i]? = some (.lit (.string s.data.toList)) := by
      rw [← hmap, List.getElem?_map, hxi, e2]
      rfl
    rw [e3]
    rw [List.getElem?_map] at e4 ⊢
    cases hw : wordL[i]? with
    | none => rw [hw] at e4; cases e4
    | some b =>
      rw [hw] at e4
      simp only [Option.map_some, Option.some.injEq, DataW.lit.injEq, Lit.string.injEq] at e4
      simp [e4]
  · have h1 : l[i]? = none := List.getElem?_eq_none (by have : l.length = 15 := hlen; omega)
    rw [h1]
    exact (List.getElem?_eq_none (by simp [wordL]; omega)).symm

theorem kept_of_laid {W : World} (h : laidMetH Tryd.prog laidK W) : Kept W := by
  have hv := var_of_laid h
  rw [MakeChecks.laidMetH_plain _ _ _ (by kernel_rfl)] at h
  obtain ⟨ps, ⟨g, t, cs, fuel, p, q, hg, ht, hvar, hd, hq, hps⟩, hnd, hfr⟩ := h
  obtain rfl := Option.some.inj (gKept.symm.trans hg)
  have hcs : cs = wordsA := Option.some.inj (hvar.symm.trans hv)
  subst hcs
  have hmem : MemPlace.cell 0 0 ∈ ps := by
    rw [hps]
    simp [MemPlace.row, wordsA_size]
  obtain ⟨⟨c, t', hb⟩, _⟩ := hfr _ _ hmem
  simp only [World.var?, gKept, Option.bind_some, hb, Option.some.injEq] at hv
  exact ⟨t', by rw [hb, hv]⟩

theorem reads_kept {H : Type} (enc : TypeId × Value → H) (W : World) (sp : Nat → Bool) : DataW.trod enc Tryd.prog W 0 sp true 3 68 wordsA.toList = some (Rows.laid_loop_example_g00837_impl_keptWords, []) := by kernel_rfl

theorem vars_kept {H : Type} (enc : TypeId × Value → H) {W : World} (h : Kept W) (sp : Nat → Bool) : DataW.TrodVars enc Tryd.prog W sp ["loop.example/g00837/impl.keptWords"] [Rows.laid_loop_example_g00837_impl_keptWords] (MemPlace.row ⟨0, 0, none⟩ wordsA.size ++ [] ++ []) := by
  obtain ⟨t, h⟩ := h
  exact ⟨_, _, wordsA, 3, [], [], gKept, tKept, by simp only [World.var?, gKept, Option.bind_some, h], reads_kept enc W sp, rfl, rfl⟩

def isWP (s : ByteArray) : Prop := ∃ k, k < 15 ∧ s = wordZ k
open Classical in
noncomputable def isWB (s : ByteArray) : Bool := decide (isWP s)
theorem isWB_true {s : ByteArray} (h : isWP s) : isWB s = true := by unfold isWB; simpa using h
theorem isWB_false {s : ByteArray} (h : ¬ isWP s) : isWB s = false := by unfold isWB; simpa using h

theorem bytes_beq (a b : ByteArray) (ok : Bool) (h : ok = true ↔ a = b) : (a.toList == b.toList) = ok := by
  rw [Bool.eq_iff_iff, h, beq_iff_eq, ByteArray.toList_eq, ByteArray.toList_eq]
  constructor
  · intro e
    exact ByteArray.ext (Array.ext' e)
  · intro e
    rw [e]

set_option maxRecDepth 100000 in
set_option maxHeartbeats 2000000 in
theorem iIsWord (s : ByteArray) (w : World) (hk : Kept w) : Calls Tryd.prog 15 #[.string s] w fun e w' => e = .returned (.bool (isWB s)) ∧ w = w' := by
  obtain ⟨t, hk⟩ := hk
  have c0 : w.cell? ⟨0, 0, none⟩ = some (.string (wordZ 0)) := (cell_of_row w _ 0 wordsA t (0, 0) hk).trans (wordsA_at 0 (by decide))
  have c1 : w.cell? ⟨0, 1, none⟩ = some (.string (wordZ 1)) := (cell_of_row w _ 1 wordsA t (0, 0) hk).trans (wordsA_at 1 (by decide))
  have c2 : w.cell? ⟨0, 2, none⟩ = some (.string (wordZ 2)) := (cell_of_row w _ 2 wordsA t (0, 0) hk).trans (wordsA_at 2 (by decide))
  have c3 : w.cell? ⟨0, 3, none⟩ = some (.string (wordZ 3)) := (cell_of_row w _ 3 wordsA t (0, 0) hk).trans (wordsA_at 3 (by decide))
  have c4 : w.cell? ⟨0, 4, none⟩ = some (.string (wordZ 4)) := (cell_of_row w _ 4 wordsA t (0, 0) hk).trans (wordsA_at 4 (by decide))
  have c5 : w.cell? ⟨0, 5, none⟩ = some (.string (wordZ 5)) := (cell_of_row w _ 5 wordsA t (0, 0) hk).trans (wordsA_at 5 (by decide))
  have c6 : w.cell? ⟨0, 6, none⟩ = some (.string (wordZ 6)) := (cell_of_row w _ 6 wordsA t (0, 0) hk).trans (wordsA_at 6 (by decide))
  have c7 : w.cell? ⟨0, 7, none⟩ = some (.string (wordZ 7)) := (cell_of_row w _ 7 wordsA t (0, 0) hk).trans (wordsA_at 7 (by decide))
  have c8 : w.cell? ⟨0, 8, none⟩ = some (.string (wordZ 8)) := (cell_of_row w _ 8 wordsA t (0, 0) hk).trans (wordsA_at 8 (by decide))
  have c9 : w.cell? ⟨0, 9, none⟩ = some (.string (wordZ 9)) := (cell_of_row w _ 9 wordsA t (0, 0) hk).trans (wordsA_at 9 (by decide))
  have c10 : w.cell? ⟨0, 10, none⟩ = some (.string (wordZ 10)) := (cell_of_row w _ 10 wordsA t (0, 0) hk).trans (wordsA_at 10 (by decide))
  have c11 : w.cell? ⟨0, 11, none⟩ = some (.string (wordZ 11)) := (cell_of_row w _ 11 wordsA t (0, 0) hk).trans (wordsA_at 11 (by decide))
  have c12 : w.cell? ⟨0, 12, none⟩ = some (.string (wordZ 12)) := (cell_of_row w _ 12 wordsA t (0, 0) hk).trans (wordsA_at 12 (by decide))
  have c13 : w.cell? ⟨0, 13, none⟩ = some (.string (wordZ 13)) := (cell_of_row w _ 13 wordsA t (0, 0) hk).trans (wordsA_at 13 (by decide))
  have c14 : w.cell? ⟨0, 14, none⟩ = some (.string (wordZ 14)) := (cell_of_row w _ 14 wordsA t (0, 0) hk).trans (wordsA_at 14 (by decide))
  have hidx : ∀ (k : Nat) (W : World), k < 15 → (Instr.index 68 (.agg #[.string (wordZ 0), .string (wordZ 1), .string (wordZ 2), .string (wordZ 3), .string (wordZ 4), .string (wordZ 5), .string (wordZ 6), .string (wordZ 7), .string (wordZ 8), .string (wordZ 9), .string (wordZ 10), .string (wordZ 11), .string (wordZ 12), .string (wordZ 13), .string (wordZ 14)]) (.int .i64 (k : Int))).run Tryd.prog W = .ok (.string (wordZ k)) W := by
    intro k W h
    match k, h with
    | 0, _ | 1, _ | 2, _ | 3, _ | 4, _ | 5, _ | 6, _ | 7, _ | 8, _ | 9, _ | 10, _ | 11, _ | 12, _ | 13, _ | 14, _ =>
      show (Instr.index _ _ _).run _ _ = _
      kernel_rfl
    | n + 15, h => omega
  clear hk
  have Hi := Lib.hid hidx
  clear hidx
  go_enter Tryd.func15, Tryd.ntmps15
  go_wp2_with fail
  go_loop [6] (fun i => ∃ k : Nat, k ≤ 15 ∧ i = .int .i64 k ∧ ∀ j, j < k → s ≠ wordZ j) (fun i => 15 - (intOf i).toNat)
  case atStart => exact ⟨0, by omega, rfl, fun j hj => absurd hj (by omega)⟩
  case round =>
    obtain ⟨k, hk15, rfl, hno⟩ := hrel
    have Hno := Lib.hid hno
    clear hno
    by_cases hlt : k < 15
    · have hx := fun W => Hi.out k W hlt
      by_cases he : s = wordZ k
      · have Hw := Lib.hid (isWB_true ⟨k, hlt, he⟩)
        have hb := bytes_beq s (wordZ k) true (by simp [he])
        clear he
        generalize wordZ k = z at *
        go_wp2_with fail
        go_ret
        exact ⟨by rw [Hw.out]; rfl, rfl⟩
      · have Hno' := Lib.hid (show ∀ j, j < k + 1 → s ≠ wordZ j from fun j hj => by
          by_cases e : j = k
          · rw [e]; exact he
          · exact Hno.out j (by omega))
        have hb := bytes_beq s (wordZ k) false (by simp [he])
        clear he
        generalize wordZ k = z at *
        go_wp2_with fail
        go_round
        case rel => exact ⟨k + 1, by omega, by go_num, Hno'.out⟩
        case measure => simp [intOf]; omega
    · have Hw := Lib.hid (isWB_false (s := s) (fun ⟨j, h1, h2⟩ => Hno.out j (by omega) h2))
      go_wp2_with fail
      go_ret
      exact ⟨by rw [Hw.out]; rfl, rfl⟩

end Go.Proofs.YtggpecddhileoaaDoor
