
/-
  What is proved: the walk of the law FnExactObjectFinger. No condition beside what each theorem states.
-/
import Derived.Test.YtllddjmcemcdhaaGreatObjS
import Derived.Deep.RegionHeld3
namespace Go.Proofs.YtllddjmcemcdhaaGreat
open Go.ChangeShapes Go.WideShapes Go.ChangeAt Go.RowKit
set_option maxRecDepth 100000

-- shell: FnExactObjectFinger
set_option maxRecDepth 100000 in
set_option maxHeartbeats 8000000 in
theorem law_FnExactObjectFinger (s : ScopeD) (a1 a2 a3 a4 : Option Addr) (c1 c2 c3 c4 : Nat) (n : Int) (w : World) (hin : ScopeR Any w a1 a2 a3 a4 s ∧ s.came) (_ : (Lit.int .i64 n).wf = true) :
    Calls Tryz.prog 3 #[.agg (scopeC s a1 a2 a3 a4 c1 c2 c3 c4), .int .i64 n] w fun e w' => e = .returned (.bool true) ∧ Below w.heap.size w w' := by
  obtain ⟨hr, hc⟩ := hin
  have B0 := Lib.hid ((Below.refl w.heap.size w).alloc (Nat.le_refl _) (.cells (scopeC s a1 a2 a3 a4 c1 c2 c3 c4) 27))
  have X0 := Lib.hid (Box.new w 27 (scopeC s a1 a2 a3 a4 c1 c2 c3 c4))
  have R0 := Lib.hid (hr.below B0.out)
  have Hsz := Lib.hid (lSzScope s a1 a2 a3 a4 c1 c2 c3 c4 _ 1048576 (by omega) (by omega) hc R0.out)
  clear hr hc
  go_enter Tryz.func3, Tryz.ntmps3
  go_wp2_with fail
  refine Hsz.out.mono ?_
  rintro e w1 ⟨r, rfl, hs, hb1⟩
  have B1 := Lib.hid (B0.out.trans (hb1.mono B0.out.size))
  have X1 := Lib.hid (X0.out.below hb1 X0.out.lt)
  have R1 := Lib.hid (R0.out.below hb1)
  clear hb1 Hsz
  rcases hs with rfl | ⟨h0, h1⟩
  · go_wp2_with fail
    go_ret
    exact ⟨rfl, B1.out⟩
  have K := Lib.hid (ScopeK.of (s := s) (by omega))
  clear h1
  obtain ⟨x0, x1, x2, x3, x4⟩ := box5 X1.out
  go_wp2_with fail
  clear x0 x1 x2 x3 x4
  refine (lToScope s a1 a2 a3 a4 c1 c2 c3 c4 w1 K.out.li K.out.lt K.out.tw K.out.lo K.out.ow K.out.lu R1.out).mono ?_
  rintro e w2 ⟨p1, p2, p3, p4, rfl, hp, hb2⟩
  have B2 := Lib.hid (B1.out.trans (hb2.mono B1.out.size))
  have X2 := Lib.hid (X1.out.below hb2 X1.out.lt)
  have R2 := Lib.hid (R1.out.below hb2)
  have P2 := Lib.hid hp.any
  clear hb2 hp
  go_wp2_with fail
  refine (sObjectFinger s p1 p2 p3 p4 n w2 K.out P2.out).mono ?_
  rintro e w3 ⟨rfl, hb3⟩
  have B3 := Lib.hid (B2.out.trans (hb3.mono B2.out.size))
  have X3 := Lib.hid (X2.out.below hb3 X2.out.lt)
  have R3 := Lib.hid (R2.out.below hb3)
  clear hb3 P2
  obtain ⟨x0, x1, x2, x3, x4⟩ := box5 X3.out
  go_wp2_with fail
  clear x0 x1 x2 x3 x4
  refine (lToScope s a1 a2 a3 a4 c1 c2 c3 c4 w3 K.out.li K.out.lt K.out.tw K.out.lo K.out.ow K.out.lu R3.out).mono ?_
  rintro e w4 ⟨q1, q2, q3, q4, rfl, hq, hb4⟩
  have B4 := Lib.hid ((B3.out.trans (hb4.mono B3.out.size)).alloc (B3.out.trans (hb4.mono B3.out.size)).size (.cells (scopeC s q1 q2 q3 q4 s.fImports.length s.fTypes.length s.fObjects.length s.fUses.length) 35))
  have X4 := Lib.hid ((X3.out.below hb4 X3.out.lt).alloc (.cells (scopeC s q1 q2 q3 q4 s.fImports.length s.fTypes.length s.fObjects.length s.fUses.length) 35))
  have Y4 := Lib.hid (Box.new w4 35 (scopeC s q1 q2 q3 q4 s.fImports.length s.fTypes.length s.fObjects.length s.fUses.length))
  have hal := (Below.refl w4.heap.size w4).alloc (Nat.le_refl _) (.cells (scopeC s q1 q2 q3 q4 s.fImports.length s.fTypes.length s.fObjects.length s.fUses.length) 35)
  have R4 := Lib.hid ((R3.out.below hb4).below hal)
  have Q4 := Lib.hid (hq.any.below hal)
  have hgo := iObjectFinger s q1 q2 q3 q4 n _ K.out Q4.out
  have Hgo := Lib.hid hgo
  clear hb4 hq hal hgo
  go_wp2_with fail
  refine Hgo.out.mono ?_
  rintro e w5 ⟨rfl, hb5⟩
  have B5 := Lib.hid (B4.out.trans (hb5.mono B4.out.size))
  have X5 := Lib.hid (X4.out.below hb5 X4.out.lt)
  have Y5 := Lib.hid (Y4.out.below hb5 Y4.out.lt)
  have R5 := Lib.hid (R4.out.below hb5).drew
  have Q5 := Lib.hid (Q4.out.below hb5).drew
  have g5 := Nat.lt_of_lt_of_le Y4.out.lt hb5.size
  have l5 := Nat.lt_of_lt_of_le X4.out.lt hb5.size
  clear hb5 Hgo
  generalize hgg : w4.heap.size = g at *
  have Hgg := Lib.hid hgg
  clear hgg
  generalize ofA s n = vs at *
  generalize ofB s n = v at *
  cases v
  all_goals
    obtain ⟨x0, x1, x2, x3, x4⟩ := box5 X5.out
    obtain ⟨y0, y1, y2, y3, y4⟩ := box5 Y5.out
    go_wp2_with fail
    go_region_held3 (fun w' => w'.cell? ⟨w.heap.size, 0, none⟩ = some (.string s.fName) ∧ w'.cell? ⟨w.heap.size, 1, none⟩ = some (.slice a1 s.fImports.length c1) ∧ w'.cell? ⟨w.heap.size, 2, none⟩ = some (.slice a2 s.fTypes.length c2) ∧ w'.cell? ⟨w.heap.size, 3, none⟩ = some (.slice a3 s.fObjects.length c3) ∧ w'.cell? ⟨w.heap.size, 4, none⟩ = some (.slice a4 s.fUses.length c4) ∧ w'.cell? ⟨g, 0, none⟩ = some (.string s.fName) ∧ w'.cell? ⟨g, 1, none⟩ = some (.slice q1 s.fImports.length s.fImports.length) ∧ w'.cell? ⟨g, 2, none⟩ = some (.slice q2 s.fTypes.length s.fTypes.length) ∧ w'.cell? ⟨g, 3, none⟩ = some (.slice q3 s.fObjects.length s.fObjects.length) ∧ w'.cell? ⟨g, 4, none⟩ = some (.slice q4 s.fUses.length s.fUses.length))
      (first
        | exact ⟨x0, x1, x2, x3, x4, y0, y1, y2, y3, y4⟩
        | go_keep
        | (go_split_ands
           refine ⟨?_, ?_, ?_, ?_, ?_, ?_, ?_, ?_, ?_, ?_⟩ <;> (rw [hbu.cell (by simp at *; omega)]; assumption))
        | (go_split_ands
           refine ⟨?_, ?_, ?_, ?_, ?_, ?_, ?_, ?_, ?_, ?_⟩ <;> (rw [hbt.cell (by simp at *; omega)]; assumption)))
      (first
        | (go_at_call 7; refine (lToScope s a1 a2 a3 a4 c1 c2 c3 c4 _ K.out.li K.out.lt K.out.tw K.out.lo K.out.ow K.out.lu R5.out).mono ?_; rintro e wt ⟨t1, t2, t3, t4, rfl, ht, hbt⟩; have hsz := hbt.size)
        | (go_at_call 9; refine (lEqScope s q1 q2 q3 q4 t1 t2 t3 t4 _ _ _ _ _ _ _ _ _ K.out.li K.out.lt K.out.tw K.out.lo K.out.ow K.out.lu (Q5.out.below hbt) ht.any).mono ?_; rintro e wu ⟨rfl, hbu⟩))
    have B6 := Lib.hid ((belowN B5.out 1).trans ((hbt.trans (hbu.mono hbt.size)).mono (belowN B5.out 1).size))
    clear x0 x1 x2 x3 x4 y0 y1 y2 y3 y4
    go_wp2_with fail
    go_ret
    exact ⟨rfl, B6.out⟩
end Go.Proofs.YtllddjmcemcdhaaGreat
