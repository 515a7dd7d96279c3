
/-
  What is proved: contracts of the program's isShown, of strings.Clone and of the program's ShownNames. No condition beside what each theorem states.
-/
import Derived.Test.YtjkcbeehjgikgaaSShown
import Derived.Test.YtjkcbeehjgikgaaHeadObj
import Derived.Test.YtjkcbeehjgikgaaShelf
namespace Go.Proofs.Ytjkcbeehjgikgaa
open Go.ChangeShapes Go.WideShapes Go.ChangeAt Go.RowKit

theorem iStrClone (s : ByteArray) (w : World) (hs : s.size ≤ 1048576) : Calls Try.prog 119 #[.string s] w fun e w' => e = .returned (.string s) ∧ Below w.heap.size w w' := by
  have hc := Try.stringslite_Clone s w (by omega)
  have Hc := Lib.hid hc
  clear hc
  go_enter Try.func119, Try.ntmps119
  go_wp2_with fail
  refine Hc.out.mono ?_
  rintro e w1 ⟨rfl, hb1⟩
  have B1 := Lib.hid hb1
  clear hb1
  go_wp2_with fail
  go_ret
  exact ⟨rfl, B1.out⟩
theorem iIsShown (nm : ByteArray) (mk : Int) (w : World) : Calls Try.prog 118 #[.agg #[.string nm, .int .i64 mk]] w fun e w' => e = .returned (.bool (decide (0 < mk))) ∧ Below w.heap.size w w' := by
  have HB := Lib.hid ((Below.refl w.heap.size w).alloc (Nat.le_refl _) (.cells #[.string nm, .int .i64 mk] 137))
  obtain ⟨v, hv⟩ : ∃ v, decide (0 < mk) = v := ⟨_, rfl⟩
  rw [hv]
  by_cases h : 0 < mk
  · have Hv := Lib.hid (show v = true by rw [← hv]; exact decide_eq_true h)
    clear hv
    go_enter Try.func118, Try.ntmps118
    go_wp2_with fail
    go_ret
    exact ⟨by rw [Hv.out]; rfl, HB.out⟩
  · have Hv := Lib.hid (show v = false by rw [← hv]; exact decide_eq_false h)
    clear hv
    go_enter Try.func118, Try.ntmps118
    go_wp2_with fail
    go_ret
    exact ⟨by rw [Hv.out]; rfl, HB.out⟩

set_option maxRecDepth 100000 in
set_option maxHeartbeats 8000000 in
theorem iShownNames (s : ScopeD) (a1 a2 a3 a4 : Option Addr) (c1 c2 c3 c4 : Nat) (w : World) (hm : ScopeM w a1 a2 a3 a4 c1 c2 c3 c4 s) :
    Calls Try.prog 53 #[.agg (scopeC s a1 a2 a3 a4 c1 c2 c3 c4)] w (PostSN s w) := by
  have B0 := Lib.hid ((Below.refl w.heap.size w).alloc (Nat.le_refl _) (.cells (scopeC s a1 a2 a3 a4 c1 c2 c3 c4) 66))
  have X0 := Lib.hid (scope_box w s a1 a2 a3 a4 c1 c2 c3 c4)
  have H := Lib.hid hm
  have hlo := hm.lo
  have hg := iGoodScope s a1 a2 a3 a4 c1 c2 c3 c4 _ (hm.below B0.out)
  clear hm
  go_enter Try.func53, Try.ntmps53
  by_cases p1 : scopeP s
  · rw [scopeB_true p1] at hg
    have Hg := Lib.hid hg
    have P1 := Lib.hid p1
    clear hg p1
    go_wp2_with fail
    refine Hg.out.mono ?_
    rintro e w1 ⟨rfl, hb1⟩
    have B1 := Lib.hid (B0.out.trans (hb1.mono B0.out.size))
    have X1 := Lib.hid (X0.out.below hb1 X0.out.lt)
    clear hb1 Hg
    have x3 := X1.out.cell 3
    simp at x3
    go_wp2_with fail
    clear x3
    go_loopw [14, 4] (fun i x wr => ∃ (k : Nat) (v : Value), i = .int .i64 k ∧ x = v ∧ k ≤ s.fObjects.length ∧ OwnStrs wr w.heap.size v (shownL (s.fObjects.take k)) ∧ Below w.heap.size w wr) (fun i _ _ => s.fObjects.length - (intOf i).toNat)
    case atStart => exact ⟨0, _, rfl, rfl, by omega, by rw [List.take_zero]; exact OwnStrs.nil, B1.out⟩
    case round =>
      obtain ⟨k, v, rfl, rfl, hk, hown, hbel⟩ := hrel
      have Hown := Lib.hid hown
      clear hown
      by_cases hlt : k < s.fObjects.length
      · obtain ⟨b, o, pa, pc, hba, hb1, _, e0, e1, e2, e3, e4, e5⟩ := object_at H.out.r.objects hlt hbel
        subst hba
        have hsz := hbel.size
        have Hbel := Lib.hid (hbel.alloc hbel.size (.cells (objC s.fObjects[k] pa pc) 125))
        have Hown2 := Lib.hid (Hown.out.alloc (.cells (objC s.fObjects[k] pa pc) 125))
        have Hy := Lib.hid (shown_yes hlt)
        have Hn := Lib.hid (shown_no hlt)
        have hlen : (shownL (s.fObjects.take k)).length ≤ k := shown_len
        have hnz : s.fObjects[k].fName.size ≤ 1048576 := by have h := (scope_obj_at P1.out hlt).1.1; unfold nameP at h; omega
        clear hbel
        generalize s.fObjects[k] = t at *
        go_wp2_with fail
        refine (iHeadObj t.fName t.fKind t.fMark t.fType t.fValue pa t.fParams.length pc _).mono ?_
        rintro e w2 ⟨rfl, hb2⟩
        have hal := (Below.refl w2.heap.size w2).alloc (Nat.le_refl _) (.cells #[.string t.fName, .int .i64 t.fMark, .int .i64 t.fKind, .int .i64 t.fValue, .int .i64 (t.fParams.length : Int)] 139)
        have B2 := Lib.hid (Hbel.out.trans (hb2.mono Hbel.out.size))
        have B2a := Lib.hid (B2.out.trans (hal.mono B2.out.size))
        have Y2 := Lib.hid (Box.new w2 139 #[.string t.fName, .int .i64 t.fMark, .int .i64 t.fKind, .int .i64 t.fValue, .int .i64 (t.fParams.length : Int)])
        have Own2 := Lib.hid ((Hown2.out.below hb2).below hal)
        clear hb2 hal
        go_wp2_with fail
        refine (iIsShown t.fName t.fMark _).mono ?_
        rintro e w3 ⟨rfl, hb3⟩
        have B3 := Lib.hid (B2a.out.trans (hb3.mono B2a.out.size))
        have Y3 := Lib.hid (Y2.out.below hb3 Y2.out.lt)
        have Own3 := Lib.hid (Own2.out.below hb3)
        clear hb3
        by_cases hmk : 0 < t.fMark
        · have Hy2 := Lib.hid (Hy.out hmk)
          rw [decide_eq_true hmk]
          have y0 := Y3.out.cell 0
          simp at y0
          clear hmk
          go_wp2_with fail
          clear y0
          refine (iStrClone t.fName w3 hnz).mono ?_
          rintro e w5 ⟨rfl, hb5⟩
          have B5 := Lib.hid (B3.out.trans (hb5.mono B3.out.size))
          have Own5 := Lib.hid (Own3.out.below hb5)
          have s5 := B5.out.size
          clear hb5
          go_wp2_with (at_builtin; refine wpList_pushStr rfl _ _ rfl w.heap.size _ _ (shownL (s.fObjects.take k)) rfl Own5.out _ _ rfl (by simp) (by omega) (by omega) ?_)
          intro v' w4 hown4 hg4 hlt4
          have B4 := Lib.hid (B5.out.grown hg4 (by omega) (fun k hk => (hlt4 k hk).1))
          rw [← Hy2.out] at hown4
          have O4 := Lib.hid hown4
          clear hown4 hg4 hlt4
          go_wp2_with fail
          exact ⟨⟨k + 1, _, by congr 1, rfl, by omega, O4.out, B4.out⟩, by simp [intOf]; omega⟩
        · have Hn2 := Lib.hid (Hn.out (by omega))
          rw [decide_eq_false hmk]
          have O4 := Lib.hid (show OwnStrs w3 w.heap.size _ (shownL (s.fObjects.take (k + 1))) by rw [Hn2.out]; exact Own3.out)
          clear hmk
          go_wp2_with fail
          exact ⟨⟨k + 1, _, by congr 1, rfl, by omega, O4.out, B3.out⟩, by simp [intOf]; omega⟩
      · have hown2 := Hown.out
        rw [show k = s.fObjects.length by omega, List.take_length] at hown2
        have O2 := Lib.hid hown2
        have Hbel := Lib.hid hbel
        clear hbel hown2
        go_wp2_with fail
        go_ret2
        unfold PostSN
        exact ⟨_, _, true, rfl, O2.out, .inl ⟨P1.out, rfl, rfl⟩, Hbel.out⟩
  · have P1 := Lib.hid p1
    rw [scopeB_false p1] at hg
    have Hg := Lib.hid hg
    clear hg p1
    go_wp2_with fail
    refine Hg.out.mono ?_
    rintro e w1 ⟨rfl, hb1⟩
    have B1 := Lib.hid (B0.out.trans (hb1.mono B0.out.size))
    clear hb1
    go_wp2_with fail
    go_ret2
    unfold PostSN
    exact ⟨_, [], false, rfl, OwnStrs.nil, .inr ⟨P1.out, rfl, rfl⟩, B1.out⟩
end Go.Proofs.Ytjkcbeehjgikgaa
