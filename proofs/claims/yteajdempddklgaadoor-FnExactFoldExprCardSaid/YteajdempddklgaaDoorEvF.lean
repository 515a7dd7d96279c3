
/-
  What is proved: the contract of the program's EvalExpr. No condition beside what the theorem states.
-/
import Derived.Test.YteajdempddklgaaDoorAsFault
namespace Go.Proofs.YteajdempddklgaaDoor
open Go.ChangeShapes Go.WideShapes Go.ChangeAt Go.RowKit
set_option maxRecDepth 100000

/-- The variable that errors.As asks holds the handle of error. -/
def ErrK (w : World) : Prop := w.cell? ⟨0, 0, none⟩ = some (.iface 191 (.agg #[.pointer (some ⟨7, 79, none⟩)]))
theorem ErrK.below {w w' : World} (h : ErrK w) (hb : Below w.heap.size w w') : ErrK w' := (hb.cell (p := ⟨0, 0, none⟩) (World.block_lt_of_cell? w _ h)).trans h
def EvP (l : List StepD) (ks : List KnownD) (v cd : Int) (ok : Bool) : Prop :=
  (∃ xs, GoodE l xs ∧ knownsP ks ∧ (v, cd) = ansV (runV ks xs) ∧ ok = true) ∨ ((¬ (∃ xs, GoodE l xs) ∨ ¬ knownsP ks) ∧ v = 0 ∧ cd = 0 ∧ ok = false)
def PostEv (l : List StepD) (ks : List KnownD) (w : World) (e : Ending) (w' : World) : Prop :=
  ∃ v cd ok, e = .returned (.tuple #[.int .i64 v, .int .i64 cd, .bool ok]) ∧ EvP l ks v cd ok ∧ Below w.heap.size w w'

theorem OwnActs.cells {w : World} {B : Nat} {v : Value} {xs : List ActD} (h : OwnActs w B v xs) : ∃ a c, v = .slice a xs.length c ∧ CellsA w a xs := by
  obtain ⟨a, c, rfl, hrow⟩ := h.at
  refine ⟨a, c, rfl, fun k hk => ?_⟩
  rcases hrow with h3 | ⟨g, t, cur, rfl, hb, hx, hs, hc⟩
  · have : xs.length = 0 := by simpa using congrArg List.length h3
    omega
  · refine ⟨g, rfl, hx.lt, ?_⟩
    rw [hx.cell, hc k (by simpa using hk)]
    simp [hk]
theorem CellsA.below {w w' : World} {a : Option Addr} {xs : List ActD} (h : CellsA w a xs) (hb : Below w.heap.size w w') : CellsA w' a xs := fun k hk => by
  obtain ⟨g, h1, h2, h3⟩ := h k hk
  exact ⟨g, h1, Nat.lt_of_lt_of_le h2 hb.size, (hb.cell (p := ⟨g, k, none⟩) h2).trans h3⟩

set_option maxHeartbeats 8000000 in
theorem iEvalExpr (a : Option Addr) (c : Nat) (l : List StepD) (a' : Option Addr) (c' : Nat) (ks : List KnownD) (w : World) (hk : Kept w) (he : ErrK w) (hcm : ∀ t ∈ l, t.fName.size ≤ maxLen ∧ t.fMod.size ≤ maxLen) (hr : Rows stepS Any w a l) (hkl : ks.length ≤ 1048576) (hr' : Rows knownS Any w a' ks) :
    Calls Tryd.prog 14 #[.slice a l.length c, .slice a' ks.length c'] w (PostEv l ks w) := by
  have Hg := Lib.hid (iActionsOf a c l w hk hcm hr)
  have HE := Lib.hid he
  have Hr' := Lib.hid hr'
  clear hk he hcm hr hr'
  go_enter Tryd.func14, Tryd.ntmps14
  go_wp2_with fail
  refine Hg.out.mono ?_
  rintro e w1 ⟨⟨v, ok, rfl, hd⟩, hb⟩
  have B1 := Lib.hid hb
  have R1 := Lib.hid (Hr'.out.below hb)
  have E1 := Lib.hid (HE.out.below hb)
  clear hb Hg Hr' HE
  rcases hd with ⟨xs, hg, hown, rfl⟩ | ⟨hno, rfl⟩
  · obtain ⟨a2, c2, rfl, hcells⟩ := hown.cells
    have HC := Lib.hid hcells
    have HG := Lib.hid hg
    have hx40 : xs.length ≤ 40 := by have := hg.2.len.1; have := hg.1; omega
    have Hfine := Lib.hid (show ∀ k (h : k < xs.length), (xs[k]).fine from fun k h => (hg.2.each k (by have := hg.2.len.1; omega) h).fine)
    have Hbal := Lib.hid hg.2.bal
    clear hown hcells hg
    go_wp2_with fail
    refine (iAreKnown a' c' ks _ hkl R1.out).mono ?_
    rintro e w2 ⟨rfl, hb2⟩
    have B2 := Lib.hid (B1.out.trans (hb2.mono B1.out.size))
    have R2 := Lib.hid (R1.out.below hb2)
    have E2 := Lib.hid (E1.out.below hb2)
    have C2 := Lib.hid (HC.out.below hb2)
    clear hb2
    by_cases hks : knownsP ks
    · rw [knownsB_true hks]
      have Hks := Lib.hid hks
      clear hks
      have Hv := Lib.hid (iValueOf a2 c2 xs a' c' ks w2 C2.out Hbal.out Hfine.out hx40 Hks.out R2.out)
      generalize hrv : runV ks xs = rv at Hv
      have Hrv := Lib.hid hrv
      clear hrv
      go_wp2_with fail
      refine Hv.out.mono ?_
      rintro e w3 ⟨rfl, hb3⟩
      have B3 := Lib.hid (B2.out.trans (hb3.mono B2.out.size))
      have E3 := Lib.hid (E2.out.below hb3)
      have hs3 := B3.out.size
      clear hb3 Hv
      cases rv with
      | run st =>
        have HA := Lib.hid (show EvP l ks (st.getD 0 0) 0 true from .inl ⟨xs, HG.out, Hks.out, by rw [Hrv.out]; rfl, rfl⟩)
        dsimp only [resS]
        generalize st.getD 0 0 = p at *
        go_wp2_with fail
        refine (as_nil _ _).mono ?_
        rintro e w4 ⟨rfl, rfl⟩
        go_wp2_with fail
        go_ret3
        exact ⟨_, _, _, rfl, HA.out, B3.out.alloc hs3 _⟩
      | off cd =>
        have HA := Lib.hid (show EvP l ks 0 cd true from .inl ⟨xs, HG.out, Hks.out, by rw [Hrv.out]; rfl, rfl⟩)
        dsimp only [resS, faultV]
        go_wp2_with fail
        refine (as_hit w3.heap.size 0 cd _ (E3.out.below ((Below.refl _ _).alloc (Nat.le_refl _) _)) (Box.new w3 _ _)).mono ?_
        rintro e w4 ⟨rfl, w5, rfl, hx5, hb5⟩
        have B5 := Lib.hid ((B3.out.alloc hs3 _).trans (hb5.mono (by simp; omega)))
        have hx6 := hx5.set 0 (.int .i64 cd)
        have x0 : _ = some (Value.int .i64 cd) := hx6.cell 0
        have hx7 := hx6.lt
        have B6 := Lib.hid (B5.out.setCell (p := ⟨w3.heap.size, 0, none⟩) hs3 (.int .i64 cd))
        clear hb5 hx5 hx6 B5
        generalize w5.setCell ⟨w3.heap.size, 0, none⟩ (.int .i64 cd) = w6 at *
        go_wp2_with fail
        go_quiet (fail)
        go_wp2_with fail
        go_ret3
        exact ⟨_, _, _, rfl, HA.out, belowN B6.out nq⟩
    · rw [knownsB_false hks]
      go_wp2_with fail
      go_ret3
      exact ⟨_, _, _, rfl, .inr ⟨.inr hks, rfl, rfl, rfl⟩, B2.out⟩
  · have Hno := Lib.hid hno
    clear hno
    go_wp2_with fail
    go_ret3
    exact ⟨_, _, _, rfl, .inr ⟨.inl (fun ⟨xs, h⟩ => Hno.out xs h), rfl, rfl, rfl⟩, B1.out⟩
end Go.Proofs.YteajdempddklgaaDoor
