
/-
  What is proved: a contract of the model's ShownNames. No condition beside what each theorem states.
-/
import Derived.Test.YtjkcbeehjgikgaaOpenScope
namespace Go.Proofs.Ytjkcbeehjgikgaa
open Go.ChangeShapes Go.WideShapes Go.ChangeAt Go.RowKit

/-- The names of those that others see. -/
def shownL (os : List ObjectD) : List ByteArray := (os.filter (fun o => decide (0 < o.fMark))).map ObjectD.fName
theorem shown_yes {os : List ObjectD} {k : Nat} (hk : k < os.length) (h : 0 < os[k].fMark) : shownL (os.take (k + 1)) = shownL (os.take k) ++ [os[k].fName] := by
  unfold shownL
  rw [List.take_succ_eq_append_getElem hk, List.filter_append, List.map_append]
  simp [h]
theorem shown_no {os : List ObjectD} {k : Nat} (hk : k < os.length) (h : ¬ 0 < os[k].fMark) : shownL (os.take (k + 1)) = shownL (os.take k) := by
  unfold shownL
  rw [List.take_succ_eq_append_getElem hk, List.filter_append, List.map_append]
  simp [h]
theorem shown_len {os : List ObjectD} {k : Nat} : (shownL (os.take k)).length ≤ k := by
  unfold shownL
  rw [List.length_map]
  have h := List.length_filter_le (fun o : ObjectD => decide (0 < o.fMark)) (os.take k)
  have h2 : (os.take k).length ≤ k := by simp; omega
  omega
/-- What is told of a call of ShownNames. -/
def PostSN (s : ScopeD) (w : World) (e : Ending) (w' : World) : Prop := ∃ (v : Value) (l : List ByteArray) (ok : Bool), e = .returned (.tuple #[v, .bool ok]) ∧ OwnStrs w' w.heap.size v l ∧ ((scopeP s ∧ l = shownL s.fObjects ∧ ok = true) ∨ (¬ scopeP s ∧ l = [] ∧ ok = false)) ∧ Below w.heap.size w w'

set_option maxRecDepth 100000 in
set_option maxHeartbeats 8000000 in
theorem sShownNames (s : ScopeD) (a1 a2 a3 a4 : Option Addr) (c1 c2 c3 c4 : Nat) (w : World) (hm : ScopeM w a1 a2 a3 a4 c1 c2 c3 c4 s) :
    Calls Try.prog 52 #[.agg (scopeC s a1 a2 a3 a4 c1 c2 c3 c4)] w (PostSN s w) := by
  have B0 := Lib.hid ((Below.refl w.heap.size w).alloc (Nat.le_refl _) (.cells (scopeC s a1 a2 a3 a4 c1 c2 c3 c4) 66))
  have X0 := Lib.hid (scope_box w s a1 a2 a3 a4 c1 c2 c3 c4)
  have H := Lib.hid hm
  have hlo := hm.lo
  have hg := sl4Good s a1 a2 a3 a4 c1 c2 c3 c4 _ (hm.below B0.out)
  clear hm
  go_enter Try.func52, Try.ntmps52
  by_cases p1 : scopeP s
  · rw [scopeB_true p1] at hg
    have Hg := Lib.hid hg
    have P1 := Lib.hid p1
    clear hg p1
    go_wp2_with fail
    refine Hg.out.mono ?_
    rintro e w1 ⟨rfl, hb1⟩
    have B1 := Lib.hid (B0.out.trans (hb1.mono B0.out.size))
    have X1 := Lib.hid (X0.out.below hb1 X0.out.lt)
    clear hb1 Hg
    have x3 := X1.out.cell 3
    simp at x3
    go_wp2_with fail
    clear x3
    go_loopw [13, 4] (fun i x wr => ∃ (k : Nat) (v : Value), i = .int .i64 k ∧ x = v ∧ k ≤ s.fObjects.length ∧ OwnStrs wr w.heap.size v (shownL (s.fObjects.take k)) ∧ Below w.heap.size w wr) (fun i _ _ => s.fObjects.length - (intOf i).toNat)
    case atStart => exact ⟨0, _, rfl, rfl, by omega, by rw [List.take_zero]; exact OwnStrs.nil, B1.out⟩
    case round =>
      obtain ⟨k, v, rfl, rfl, hk, hown, hbel⟩ := hrel
      have Hown := Lib.hid hown
      clear hown
      by_cases hlt : k < s.fObjects.length
      · obtain ⟨b, o, pa, pc, hba, hb1, _, e0, e1, e2, e3, e4, e5⟩ := object_at H.out.r.objects hlt hbel
        subst hba
        have hsz := hbel.size
        have Hbel := Lib.hid (hbel.alloc hbel.size (.cells (objC s.fObjects[k] pa pc) 125))
        have Hown2 := Lib.hid (Hown.out.alloc (.cells (objC s.fObjects[k] pa pc) 125))
        have Hy := Lib.hid (shown_yes hlt)
        have Hn := Lib.hid (shown_no hlt)
        have hlen : (shownL (s.fObjects.take k)).length ≤ k := shown_len
        clear hbel
        generalize s.fObjects[k] = t at *
        by_cases hmk : 0 < t.fMark
        · have Hy2 := Lib.hid (Hy.out hmk)
          go_wp2_with (at_builtin; refine wpList_pushStr rfl _ _ rfl w.heap.size _ _ (shownL (s.fObjects.take k)) rfl Hown2.out _ _ rfl (by simp) (by omega) (by simp; omega) ?_)
          intro v' w4 hown4 hg4 hlt4
          have B4 := Lib.hid (Hbel.out.grown hg4 (by simp; omega) (fun k hk => (hlt4 k hk).1))
          rw [← Hy2.out] at hown4
          have O4 := Lib.hid hown4
          clear hown4 hg4 hlt4
          go_wp2_with fail
          exact ⟨⟨k + 1, _, by congr 1, rfl, by omega, O4.out, B4.out⟩, by simp [intOf]; omega⟩
        · have Hn2 := Lib.hid (Hn.out hmk)
          have O4 := Lib.hid (show OwnStrs _ w.heap.size _ (shownL (s.fObjects.take (k + 1))) by rw [Hn2.out]; exact Hown2.out)
          go_wp2_with fail
          exact ⟨⟨k + 1, _, by congr 1, rfl, by omega, O4.out, Hbel.out⟩, by simp [intOf]; omega⟩
      · have hown2 := Hown.out
        rw [show k = s.fObjects.length by omega, List.take_length] at hown2
        have O2 := Lib.hid hown2
        have Hbel := Lib.hid hbel
        clear hbel hown2
        go_wp2_with fail
        go_ret2
        unfold PostSN
        exact ⟨_, _, true, rfl, O2.out, .inl ⟨P1.out, rfl, rfl⟩, Hbel.out⟩
  · have P1 := Lib.hid p1
    rw [scopeB_false p1] at hg
    have Hg := Lib.hid hg
    clear hg p1
    go_wp2_with fail
    refine Hg.out.mono ?_
    rintro e w1 ⟨rfl, hb1⟩
    have B1 := Lib.hid (B0.out.trans (hb1.mono B0.out.size))
    clear hb1
    go_wp2_with fail
    go_ret2
    unfold PostSN
    exact ⟨_, [], false, rfl, OwnStrs.nil, .inr ⟨P1.out, rfl, rfl⟩, B1.out⟩
end Go.Proofs.Ytjkcbeehjgikgaa
