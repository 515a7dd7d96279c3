
/-
  What is proved: what the laid table of operators gives the walks. No condition beside what each theorem states.
-/
import Derived.Test.YteajdempddklgaaDoorName
import Derived.Test.YteajdempddklgaaDoorMem
import Derived.ChangeVars
import Derived.LaidMore
import Derived.OpenShut
import Derived.ProofKit
import Derived.Stop.Joined
namespace Go.Proofs.YteajdempddklgaaDoor
open Go.ChangeShapes Go.WideShapes Go.ChangeAt Go.RowKit
set_option maxRecDepth 100000

/-- The operators: kind, text, strength. -/
def opL : List (Int × List UInt8 × Int) := [(3, [43], 1), (4, [45], 1), (5, [42], 2), (6, [68, 73, 86], 2), (7, [77, 79, 68], 2)]
def opK (k : Nat) : Int := (opL.getD k (0, [], 0)).1
def opT (k : Nat) : ByteArray := ⟨(opL.getD k (0, [], 0)).2.1.toArray⟩
def opS (k : Nat) : Int := (opL.getD k (0, [], 0)).2.2
def opCells (x : Int × List UInt8 × Int) : List Value := [.int .i64 x.1, .string ⟨x.2.1.toArray⟩, .int .i64 x.2.2]
def wordsA : Array Value := (opL.flatMap opCells).toArray
theorem wordsA_size : wordsA.size = 15 := rfl

/-- The table of the program holds the operators. -/
def Kept (w : World) : Prop := ∃ t, w.heap[1]? = some (.cells wordsA t (0, 0))
theorem Kept.below {w w' : World} (h : Kept w) (hb : Below w.heap.size w w') : Kept w' := by
  obtain ⟨t, h⟩ := h
  exact ⟨t, (hb.block _ (by by_cases hg : 1 < w.heap.size; exact hg; rw [Array.getElem?_eq_none (by omega)] at h; cases h)).trans h⟩
theorem Kept.alloc {w : World} (h : Kept w) (o : Obj) : Kept (w.alloc o) := h.below ((Below.refl _ _).alloc (Nat.le_refl _) o)

theorem gKept : Tryd.prog.globalNamed "loop.example/g00837/impl.operators" = some 1 := by kernel_rfl
theorem tKept : (Tryd.prog.globals[1]?).map (·.type) = some 216 := by kernel_rfl
theorem cKept : Tryd.prog.cellsOf 216 = 15 := by kernel_rfl
theorem cOper : Tryd.prog.cellsOf 183 = 3 := by kernel_rfl
theorem cOpInt : Tryd.prog.cellsOf 3 = 1 := by kernel_rfl
theorem cOpStr : Tryd.prog.cellsOf 9 = 1 := by kernel_rfl

abbrev laidK : List (String × DataW Unit) := [("loop.example/g00837/impl.operators", Rows.laid_loop_example_g00837_impl_operators)]

theorem door_met (os : Os) (args : Array Value) : laidMetH Tryd.prog laidK ((World.doorLaid Tryd.prog 400 os).forCall (fun _ _ => 0) ⟨#[], args, []⟩).memory :=
  laidMetH_of_parts3 (fuel := 8) (laidMet_of_run' 8 (by kernel_rfl) (by kernel_rfl)) (by kernel_rfl) (by kernel_rfl)

theorem len3 {l : List Value} (h : l.length = 3) : ∃ e0 e1 e2, l = [e0, e1, e2] := by
  match l, h with
  | [e0, e1, e2], _ => exact ⟨e0, e1, e2, rfl⟩
theorem oper_elem {H : Type} {enc : TypeId × Value → H} {w : World} {base : Nat} {spare : Nat → Bool} {held : Bool} (m : Nat) (cs : List Value) (x : DataW H × List MemPlace) (h : DataW.trod enc Tryd.prog w base spare held m 183 cs = some x) (y : Int × List UInt8 × Int)
    (hx : x.1 = .agg [.lit (.int .i64 y.1), .lit (.string y.2.1), .lit (.int .i64 y.2.2)]) : cs = opCells y := by
  obtain ⟨xs, n, rfl, hq, hlen, hxs, hf⟩ := DataW.trod_struct Tryd.underlying183 h
  rw [cOper] at hlen
  obtain ⟨e0, e1, e2, rfl⟩ := len3 hlen
  replace hxs : xs.length = 3 := hxs
  have h0 := hf 0 _ rfl
  change DataW.trod enc Tryd.prog w base spare held n 3 (List.take (Tryd.prog.cellsOf 3) [e0, e1, e2]) = xs[0]? at h0
  rw [cOpInt, List.getElem?_eq_getElem (by omega)] at h0
  replace h0 : DataW.trod enc Tryd.prog w base spare held n 3 [e0] = _ := h0
  obtain ⟨v0, q0, r0, _⟩ := DataW.trod_int Tryd.underlying3 h0
  injection q0 with q0 _
  have h1 := hf 1 _ rfl
  change DataW.trod enc Tryd.prog w base spare held n 9 (List.take (Tryd.prog.cellsOf 9) [e1, e2]) = xs[1]? at h1
  rw [cOpStr, List.getElem?_eq_getElem (by omega)] at h1
  replace h1 : DataW.trod enc Tryd.prog w base spare held n 9 [e1] = _ := h1
  obtain ⟨v1, q1, r1, _⟩ := DataW.trod_string Tryd.underlying9 h1
  injection q1 with q1 _
  have h2 := hf 2 _ rfl
  change DataW.trod enc Tryd.prog w base spare held n 3 (List.take (Tryd.prog.cellsOf 3) [e2]) = xs[2]? at h2
  rw [cOpInt, List.getElem?_eq_getElem (by omega)] at h2
  replace h2 : DataW.trod enc Tryd.prog w base spare held n 3 [e2] = _ := h2
  obtain ⟨v2, q2, r2, _⟩ := DataW.trod_int Tryd.underlying3 h2
  injection q2 with q2 _
  subst q0 q1 q2
  have hq1 : (DataW.agg (H := H) (xs.map (·.1))) = .agg [.lit (.int .i64 y.1), .lit (.string y.2.1), .lit (.int .i64 y.2.2)] := by
    rw [← hx]
    have := congrArg Prod.fst hq
    exact this.symm
  match xs, hxs, r0, r1, r2, hq1 with
  | [x0, x1, x2], _, r0, r1, r2, hq1 =>
    have r0 : x0 = _ := r0
    have r1 : x1 = _ := r1
    have r2 : x2 = _ := r2
    subst r0 r1 r2
    simp only [List.map_cons, List.map_nil, DataW.agg.injEq, List.cons.injEq, DataW.lit.injEq, Lit.int.injEq, Lit.string.injEq, and_true, true_and] at hq1
    obtain ⟨g0, g1, g2⟩ := hq1
    unfold opCells
    rw [← g0, ← g1, ← g2]

theorem var_of_laid {W : World} (h : laidMetH Tryd.prog laidK W) : W.var? Tryd.prog "loop.example/g00837/impl.operators" = some wordsA := by
  rw [MakeChecks.laidMetH_plain _ _ _ (by kernel_rfl)] at h
  obtain ⟨ps, ⟨g, t, cs, fuel, p, q, hg, ht, hvar, hd, _, _⟩, _⟩ := h
  obtain rfl := Option.some.inj (gKept.symm.trans hg)
  obtain rfl := Option.some.inj (tKept.symm.trans ht)
  rw [hvar]
  congr 1
  obtain ⟨l⟩ := cs
  obtain ⟨xs, m, rfl, hx, hlen, hn, hel⟩ := DataW.trod_array Tryd.underlying216 hd
  rw [cKept] at hlen
  simp only [Prod.mk.injEq] at hx
  have hx1 : Rows.laid_loop_example_g00837_impl_operators (H := Unit) = .agg (xs.map (·.1)) := hx.1
  have hmap : xs.map (·.1) = opL.map (fun y => DataW.agg (H := Unit) [.lit (.int .i64 y.1), .lit (.string y.2.1), .lit (.int .i64 y.2.2)]) := by
    have : DataW.agg (H := Unit) (opL.map (fun y => DataW.agg [.lit (.int .i64 y.1), .lit (.string y.2.1), .lit (.int .i64 y.2.2)])) = .agg (xs.map (·.1)) := hx1
    injection this with this
    exact this.symm
  apply Array.ext'
  show l = opL.flatMap opCells
  have hl : l.length = 15 := hlen
  have key : ∀ i (hi : i < 5), (l.drop (i * 3)).take 3 = opCells (opL[i]'hi) := by
    intro i hi
    have h0 := hel i hi
    rw [cOper] at h0
    obtain ⟨x, hxi⟩ : ∃ x, xs[i]? = some x := ⟨xs[i]'(by omega), List.getElem?_eq_getElem (by omega)⟩
    rw [hxi] at h0
    refine oper_elem _ _ _ h0 _ ?_
    have e := congrArg (fun z => z[i]?) hmap
    simp only [List.getElem?_map, hxi, Option.map_some] at e
    rw [List.getElem?_eq_getElem hi] at e
    simpa using e
  have k0 := key 0 (by decide)
  have k1 := key 1 (by decide)
  have k2 := key 2 (by decide)
  have k3 := key 3 (by decide)
  have k4 := key 4 (by decide)
  match l, hl with
  | [a0, a1, a2, a3, a4, a5, a6, a7, a8, a9, a10, a11, a12, a13, a14], _ =>
    have k0 : [a0, a1, a2] = _ := k0
    have k1 : [a3, a4, a5] = _ := k1
    have k2 : [a6, a7, a8] = _ := k2
    have k3 : [a9, a10, a11] = _ := k3
    have k4 : [a12, a13, a14] = _ := k4
    show [a0, a1, a2] ++ ([a3, a4, a5] ++ ([a6, a7, a8] ++ ([a9, a10, a11] ++ [a12, a13, a14]))) = _
    rw [k0, k1, k2, k3, k4]
    rfl

theorem kept_of_laid {W : World} (h : laidMetH Tryd.prog laidK W) : Kept W := by
  have hv := var_of_laid h
  rw [MakeChecks.laidMetH_plain _ _ _ (by kernel_rfl)] at h
  obtain ⟨ps, ⟨g, t, cs, fuel, p, q, hg, ht, hvar, hd, hq, hps⟩, hnd, hfr⟩ := h
  obtain rfl := Option.some.inj (gKept.symm.trans hg)
  have hcs : cs = wordsA := Option.some.inj (hvar.symm.trans hv)
  subst hcs
  have hmem : MemPlace.cell 1 0 ∈ ps := by
    rw [hps]
    simp [MemPlace.row, wordsA_size]
  obtain ⟨⟨c, t', hb⟩, _⟩ := hfr _ _ hmem
  simp only [World.var?, gKept, Option.bind_some, hb, Option.some.injEq] at hv
  exact ⟨t', by rw [hb, hv]⟩

theorem reads_kept {H : Type} (enc : TypeId × Value → H) (W : World) (sp : Nat → Bool) : DataW.trod enc Tryd.prog W 0 sp true 5 216 wordsA.toList = some (Rows.laid_loop_example_g00837_impl_operators, []) := by kernel_rfl

theorem vars_kept {H : Type} (enc : TypeId × Value → H) {W : World} (h : Kept W) (sp : Nat → Bool) : DataW.TrodVars enc Tryd.prog W sp ["loop.example/g00837/impl.operators"] [Rows.laid_loop_example_g00837_impl_operators] (MemPlace.row ⟨1, 0, none⟩ wordsA.size ++ [] ++ []) := by
  obtain ⟨t, h⟩ := h
  exact ⟨_, _, wordsA, 5, [], [], gKept, tKept, by simp only [World.var?, gKept, Option.bind_some, h], reads_kept enc W sp, rfl, rfl⟩
end Go.Proofs.YteajdempddklgaaDoor
