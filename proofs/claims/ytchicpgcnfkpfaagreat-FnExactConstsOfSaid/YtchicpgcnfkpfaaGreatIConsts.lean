
/-
  What is proved: a contract of the program's ConstsOf. No condition beside what each theorem states.
-/
import Derived.Test.YtchicpgcnfkpfaaGreatSConsts
import Derived.Test.YtchicpgcnfkpfaaGreatStrClone
import Derived.Deep.RegionHeld3
namespace Go.Proofs.YtchicpgcnfkpfaaGreat
open Go.ChangeShapes Go.WideShapes Go.ChangeAt Go.RowKit

set_option maxRecDepth 100000 in
set_option maxHeartbeats 8000000 in
theorem iConstsOf (s : ScopeD) (a1 a2 a3 a4 : Option Addr) (c1 c2 c3 c4 : Nat) (w : World) (hm : ScopeM w a1 a2 a3 a4 c1 c2 c3 c4 s) :
    Calls Tryz.prog 7 #[.agg (scopeC s a1 a2 a3 a4 c1 c2 c3 c4)] w (PostCO s w) := by
  have B0 := Lib.hid ((Below.refl w.heap.size w).alloc (Nat.le_refl _) (.cells (scopeC s a1 a2 a3 a4 c1 c2 c3 c4) 36))
  have X0 := Lib.hid (scope_box w s a1 a2 a3 a4 c1 c2 c3 c4)
  have H := Lib.hid hm
  have hlo := hm.lo
  have hg := iGoodScope s a1 a2 a3 a4 c1 c2 c3 c4 _ (hm.below B0.out)
  clear hm
  go_enter Tryz.func7, Tryz.ntmps7
  by_cases p1 : scopeP s
  · rw [scopeB_true p1] at hg
    have Hg := Lib.hid hg
    have P1 := Lib.hid p1
    clear hg p1
    go_wp2_with fail
    refine Hg.out.mono ?_
    rintro e w1 ⟨rfl, hb1⟩
    have B1 := Lib.hid (B0.out.trans (hb1.mono B0.out.size))
    have X1 := Lib.hid (X0.out.below hb1 X0.out.lt)
    clear hb1 Hg
    have x3 := X1.out.cell 3
    simp at x3
    go_wp2_with fail
    clear x3
    go_loopw [4, 13] (fun x i wr => ∃ (k : Nat) (v : Value), i = .int .i64 k ∧ x = v ∧ k ≤ s.fObjects.length ∧ OwnKns wr w.heap.size v (constL (s.fObjects.take k)) ∧ Below w.heap.size w wr) (fun _ i _ => s.fObjects.length - (intOf i).toNat)
    case atStart => exact ⟨0, _, rfl, rfl, by omega, by rw [List.take_zero]; exact OwnKns.nil, B1.out⟩
    case round =>
      obtain ⟨k, v, rfl, rfl, hk, hown, hbel⟩ := hrel
      have Hown := Lib.hid hown
      clear hown
      by_cases hlt : k < s.fObjects.length
      · obtain ⟨b, o, pa, pc, hba, hb1, _, e0, e1, e2, e3, e4, e5⟩ := object_at H.out.r.objects hlt hbel
        subst hba
        have hsz := hbel.size
        have Hbel := Lib.hid (hbel.alloc hbel.size (.cells (objC s.fObjects[k] pa pc) 55))
        have Hown2 := Lib.hid (Hown.out.alloc (.cells (objC s.fObjects[k] pa pc) 55))
        have Hy := Lib.hid (const_yes hlt)
        have Hn := Lib.hid (const_no hlt)
        have hlen : (constL (s.fObjects.take k)).length ≤ k := const_len
        have hnz : s.fObjects[k].fName.size ≤ 1048576 := by have h := (scope_obj_at P1.out hlt).1.1; unfold nameP at h; omega
        clear hbel
        generalize s.fObjects[k] = t at *
        by_cases hmk : t.fKind = 1
        · have Hy2 := Lib.hid (Hy.out hmk)
          have hmk2 : (t.fKind == 1) = true := beq_iff_eq.2 hmk
          have hvl := World.ownsRow.lt Hown.out
          clear hmk
          have BQ := Lib.hid (show Below w.heap.size w (wr.alloc (.cells #[.string t.fName, .int .i64 t.fKind, .int .i64 t.fMark, .int .i64 t.fType, .int .i64 t.fValue, .slice pa t.fParams.length pc] 55)) from Hbel.out)
          have OQ := Lib.hid (show OwnKns (wr.alloc (.cells #[.string t.fName, .int .i64 t.fKind, .int .i64 t.fMark, .int .i64 t.fType, .int .i64 t.fValue, .slice pa t.fParams.length pc] 55)) w.heap.size _ (constL (s.fObjects.take k)) from Hown2.out)
          have q0 : (wr.alloc (.cells #[.string t.fName, .int .i64 t.fKind, .int .i64 t.fMark, .int .i64 t.fType, .int .i64 t.fValue, .slice pa t.fParams.length pc] 55)).cell? ⟨wr.heap.size, 0, none⟩ = some (.string t.fName) := (Box.new wr 55 _).cell 0
          have q4 : (wr.alloc (.cells #[.string t.fName, .int .i64 t.fKind, .int .i64 t.fMark, .int .i64 t.fType, .int .i64 t.fValue, .slice pa t.fParams.length pc] 55)).cell? ⟨wr.heap.size, 4, none⟩ = some (.int .i64 t.fValue) := (Box.new wr 55 _).cell 4
          clear Hbel Hown2
          go_wp2_with fail
          have hgq : wr.heap.size < (wr.alloc (.cells #[.string t.fName, .int .i64 t.fKind, .int .i64 t.fMark, .int .i64 t.fType, .int .i64 t.fValue, .slice pa t.fParams.length pc] 55)).heap.size := by simp
          generalize wr.alloc (.cells #[.string t.fName, .int .i64 t.fKind, .int .i64 t.fMark, .int .i64 t.fType, .int .i64 t.fValue, .slice pa t.fParams.length pc] 55) = wq at *
          have hbq := BQ.out.size
          go_region_held3 (fun w' => w'.cell? ⟨wr.heap.size, 0, none⟩ = some (.string t.fName) ∧ w'.cell? ⟨wr.heap.size, 4, none⟩ = some (.int .i64 t.fValue))
            (first
              | exact ⟨q0, q4⟩
              | exact ⟨r0, r4⟩
              | exact ⟨z0, z4⟩
              | go_keep)
            (first
              | (go_at_call 24; refine (iStrClone _ _ hnz).mono ?_; rintro e wc ⟨rfl, hbc⟩; have hbd : Below wq.heap.size wq wc := ⟨hbc.os, hbc.tape, hbc.output, hbc.size, hbc.block⟩; have r0 := (hbd.cell (p := ⟨wr.heap.size, 0, none⟩) hgq).trans q0; have r4 := (hbd.cell (p := ⟨wr.heap.size, 4, none⟩) hgq).trans q4; have OC := Lib.hid (OQ.out.below hbd); have BC := Lib.hid (BQ.out.trans (hbd.mono hbq)); have hsc := BC.out.size; have hgc := World.block_lt_of_cell? _ _ r0; clear hbd hbc)
              | (refine step_pushKn rfl _ _ rfl w.heap.size _ _ (constL (s.fObjects.take k)) rfl _ (OC.out.alloc _) (knownOf t) rfl (Box.new' _ _ _ (by simp)) (by first | omega | (simp; done) | (simp; omega)) (by first | omega | (simp; done) | (simp; omega)) ?_; intro v' w4 hown4 hg4; have O4 := Lib.hid hown4; have z0 := hg4.cell (a := ⟨wr.heap.size, 0, none⟩) ((World.cell?_alloc_lt _ _ ⟨wr.heap.size, 0, none⟩ hgc).trans r0) (fun e => absurd (hvl _ e.symm).2 (Nat.lt_irrefl _)); have z4 := hg4.cell (a := ⟨wr.heap.size, 4, none⟩) ((World.cell?_alloc_lt _ _ ⟨wr.heap.size, 4, none⟩ hgc).trans r4) (fun e => absurd (hvl _ e.symm).2 (Nat.lt_irrefl _)); have B4 := Lib.hid ((BC.out.alloc hsc _).grown hg4 (by first | omega | (simp; done) | (simp; omega)) (fun k hk => (hvl k hk).1)); clear hown4 hg4)
              | fail)
          have O5 := Lib.hid (show OwnKns w4 w.heap.size v' (constL (s.fObjects.take (k + 1))) by rw [Hy2.out]; exact O4.out)
          go_wp2_with fail
          exact ⟨⟨k + 1, _, by congr 1, rfl, by omega, O5.out, B4.out⟩, by simp [intOf]; omega⟩
        · have hmk2 : (t.fKind == 1) = false := beq_eq_false_iff_ne.2 hmk
          have Hn2 := Lib.hid (Hn.out hmk)
          clear hmk
          have O4 := Lib.hid (show OwnKns _ w.heap.size _ (constL (s.fObjects.take (k + 1))) by rw [Hn2.out]; exact Hown2.out)
          go_wp2_with fail
          exact ⟨⟨k + 1, _, by congr 1, rfl, by omega, O4.out, Hbel.out⟩, by simp [intOf]; omega⟩
      · have hown2 := Hown.out
        rw [show k = s.fObjects.length by omega, List.take_length] at hown2
        have O2 := Lib.hid hown2
        have Hbel := Lib.hid hbel
        clear hbel hown2
        go_wp2_with fail
        go_ret2
        unfold PostCO
        exact ⟨_, _, true, rfl, O2.out, .inl ⟨P1.out, rfl, rfl⟩, Hbel.out⟩
  · have P1 := Lib.hid p1
    rw [scopeB_false p1] at hg
    have Hg := Lib.hid hg
    clear hg p1
    go_wp2_with fail
    refine Hg.out.mono ?_
    rintro e w1 ⟨rfl, hb1⟩
    have B1 := Lib.hid (B0.out.trans (hb1.mono B0.out.size))
    clear hb1
    go_wp2_with fail
    go_ret2
    unfold PostCO
    exact ⟨_, [], false, rfl, OwnKns.nil, .inr ⟨P1.out, rfl, rfl⟩, B1.out⟩
end Go.Proofs.YtchicpgcnfkpfaaGreat
