
/-
  What is proved: what the laid table of operators and the laid handle of error give the walks. No condition beside what each theorem states.
-/
import Derived.Test.YteajdempddklgaaDoorEvF
import Derived.LaidHandle
namespace Go.Proofs.YteajdempddklgaaDoor
open Go.ChangeShapes Go.WideShapes Go.ChangeAt Go.RowKit
set_option maxRecDepth 100000

/-- Both. -/
def Kept2 (w : World) : Prop := Kept w ∧ ErrK w

abbrev laidK2 : List (String × DataW Unit) := [("errors.errorType", Rows.laid_errors_errorType), ("loop.example/g00837/impl.operators", Rows.laid_loop_example_g00837_impl_operators)]

theorem door_met2 (os : Os) (args : Array Value) : laidMetH Tryd.prog laidK2 ((World.doorLaid Tryd.prog 400 os).forCall (fun _ _ => 0) ⟨#[], args, []⟩).memory :=
  laidMetH_of_parts3 (fuel := 8) (laidMet_of_run' 8 (by kernel_rfl) (by kernel_rfl)) (by kernel_rfl) (by kernel_rfl)

theorem laid2_parts {W : World} : laidMetH Tryd.prog laidK2 W = (laidMet Tryd.prog laidK W ∧ handlesMet Tryd.prog [("errors.errorType", Rows.laid_errors_errorType)] W) := by kernel_rfl
theorem laid2_one {W : World} (h : laidMetH Tryd.prog laidK2 W) : laidMetH Tryd.prog laidK W := by
  rw [laid2_parts] at h
  rw [MakeChecks.laidMetH_plain _ _ _ (by kernel_rfl)]
  exact h.1
theorem var_of_laid2 {W : World} (h : laidMetH Tryd.prog laidK2 W) : W.var? Tryd.prog "loop.example/g00837/impl.operators" = some wordsA := var_of_laid (laid2_one h)
theorem gErr : Tryd.prog.globalNamed "errors.errorType" = some 0 := by kernel_rfl
theorem err_of_laid2 {W : World} (h : laidMetH Tryd.prog laidK2 W) : ErrK W := by
  rw [laid2_parts] at h
  have h1 := h.2 _ (List.mem_singleton.2 rfl)
  have e : (Rows.laid_errors_errorType (H := Unit)).funcsIn? = none := by kernel_rfl
  dsimp only at h1
  rw [e] at h1
  obtain ⟨name, u, ty, hn, hu, hty, hr, hv⟩ := h1
  obtain rfl : name = [101, 114, 114, 111, 114] := Option.some.inj (hn.symm.trans (by kernel_rfl))
  obtain rfl : u = 191 := Option.some.inj (hu.symm.trans (by kernel_rfl))
  have hall : (List.range Tryd.prog.types.size).all (fun k => !Tryd.prog.rowNamed k [101, 114, 114, 111, 114] || k == 79) = true := by kernel_rfl
  have h2 := List.all_eq_true.1 hall ty (List.mem_range.2 hty)
  rw [hr] at h2
  obtain rfl : ty = 79 := by simpa using h2
  have hb : ∃ t m, W.heap[0]? = some (.cells #[.iface 191 (.agg #[typeHandle Tryd.prog 79])] t m) := by
    unfold World.var? at hv
    rw [gErr] at hv
    simp only [Option.bind_some] at hv
    split at hv
    · rename_i cs t m hq
      injection hv with hv
      subst hv
      exact ⟨t, m, hq⟩
    · cases hv
  obtain ⟨t, m, hb⟩ := hb
  have hz : typeHandle Tryd.prog 79 = .pointer (some ⟨7, 79, none⟩) := by kernel_rfl
  rw [hz] at hb
  show W.cell? ⟨0, 0, none⟩ = _
  simp [World.cell?, hb]
theorem kept_of_laid2 {W : World} (h : laidMetH Tryd.prog laidK2 W) : Kept2 W := ⟨kept_of_laid (laid2_one h), err_of_laid2 h⟩
end Go.Proofs.YteajdempddklgaaDoor
