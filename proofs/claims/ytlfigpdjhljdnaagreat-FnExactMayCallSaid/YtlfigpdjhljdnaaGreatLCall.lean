
/-
  What is proved: the walk of the law FnExactMayCall. No condition beside what each theorem states.
-/
import Derived.Test.YtlfigpdjhljdnaaGreatCallS
import Derived.Test.YtlfigpdjhljdnaaGreatIntRow
import Derived.Deep.RegionHeld3
namespace Go.Proofs.YtlfigpdjhljdnaaGreat
open Go.ChangeShapes Go.WideShapes Go.ChangeAt Go.RowKit

-- shell: FnExactMayCall
set_option maxRecDepth 100000 in
set_option maxHeartbeats 8000000 in
theorem law_FnExactMayCall (s : ScopeD) (a1 a2 a3 a4 : Option Addr) (c1 c2 c3 c4 : Nat) (n : Int) (a' : Option Addr) (len' cap' : Nat) (zs : List Int) (w : World) (hin : ScopeR Any w a1 a2 a3 a4 s ∧ s.came) (_ : (Lit.int .i64 n).wf = true) (hrow : RowI .i64 w a' len' cap' zs) :
    Calls Tryz.prog 3 #[.agg (scopeC s a1 a2 a3 a4 c1 c2 c3 c4), .int .i64 n, .slice a' len' cap'] w fun e w' => e = .returned (.bool true) ∧ Below w.heap.size w w' := by
  obtain ⟨st, rfl, hst, hnums⟩ := hrow.nums
  obtain ⟨hr, hc⟩ := hin
  have B0 := Lib.hid ((Below.refl w.heap.size w).alloc (Nat.le_refl _) (.cells (scopeC s a1 a2 a3 a4 c1 c2 c3 c4) 27))
  have X0 := Lib.hid (Box.new w 27 (scopeC s a1 a2 a3 a4 c1 c2 c3 c4))
  have R0 := Lib.hid (hr.below B0.out)
  have N0 := Lib.hid (hnums.below B0.out)
  have Hsz := Lib.hid (lSzScope s a1 a2 a3 a4 c1 c2 c3 c4 _ 1048576 (by omega) (by omega) hc R0.out)
  clear hr hc hnums hrow
  go_enter Tryz.func3, Tryz.ntmps3
  by_cases hbig : 1048576 < st.length
  · have hbig2 : (1048576 : Int) < (st.length : Int) := by omega
    go_wp2_with fail
    go_ret
    exact ⟨rfl, B0.out⟩
  have hbig2 : ¬ (1048576 : Int) < (st.length : Int) := by omega
  have hN2 : st.length ≤ 1048576 := by omega
  go_wp2_with fail
  clear hbig hbig2
  refine Hsz.out.mono ?_
  rintro e w1 ⟨r, rfl, hs, hb1⟩
  have B1 := Lib.hid (B0.out.trans (hb1.mono B0.out.size))
  have X1 := Lib.hid (X0.out.below hb1 X0.out.lt)
  have R1 := Lib.hid (R0.out.below hb1)
  have N1 := Lib.hid (N0.out.below hb1)
  clear hb1 Hsz
  rcases hs with rfl | ⟨h0, h1⟩
  · go_wp2_with fail
    go_ret
    exact ⟨rfl, B1.out⟩
  have K := Lib.hid (ScopeK.of (s := s) (by omega))
  clear h1
  obtain ⟨x0, x1, x2, x3, x4⟩ := box5 X1.out
  go_wp2_with fail
  clear x0 x1 x2 x3 x4
  refine (lToScope s a1 a2 a3 a4 c1 c2 c3 c4 w1 K.out.li K.out.lt K.out.tw K.out.lo K.out.ow K.out.lu R1.out).mono ?_
  rintro e w2 ⟨p1, p2, p3, p4, rfl, hp, hb2⟩
  have B2 := Lib.hid (B1.out.trans (hb2.mono B1.out.size))
  have X2 := Lib.hid (X1.out.below hb2 X1.out.lt)
  have R2 := Lib.hid (R1.out.below hb2)
  have N2 := Lib.hid (N1.out.below hb2)
  have P2 := Lib.hid hp.any
  clear hb2 hp
  go_wp2_with fail
  refine (lToIntS a' cap' st _ hN2 N2.out.ints).mono ?_
  rintro e w3 ⟨rfl, hx3, hb3⟩
  have B3 := Lib.hid (B2.out.trans (hb3.mono B2.out.size))
  have X3 := Lib.hid (X2.out.below hb3 X2.out.lt)
  have R3 := Lib.hid (R2.out.below hb3)
  have N3 := Lib.hid (N2.out.below hb3)
  have P3 := Lib.hid (P2.out.below hb3)
  have I3 := Lib.hid (Ints.ofBox hx3 (Nat.le_refl _)).nums
  clear hb3 hx3
  have Si := Lib.hid (fun (p1 p2 p3 p4 ya : Option Addr) W (hW : ScopeR Any W p1 p2 p3 p4 s) (hY : Nums W ya st) => iMayCall s n p1 p2 p3 p4 _ _ _ _ ya st.length st W (K.out.m hW) hN2 hY)
  have Ss := Lib.hid (fun (p1 p2 p3 p4 ya : Option Addr) W (hW : ScopeR Any W p1 p2 p3 p4 s) (hY : Nums W ya st) => sMayCall s n p1 p2 p3 p4 _ _ _ _ ya st.length st W (K.out.m hW) hN2 hY)
  generalize callA s n st = qa at *
  generalize callOk s n st = qo at *
  go_wp2_with fail
  refine (Ss.out p1 p2 p3 p4 _ w3 P3.out I3.out).mono ?_
  rintro e w4 ⟨rfl, hb4⟩
  have B4 := Lib.hid (B3.out.trans (hb4.mono B3.out.size))
  have X4 := Lib.hid (X3.out.below hb4 X3.out.lt)
  have R4 := Lib.hid (R3.out.below hb4)
  have N4 := Lib.hid (N3.out.below hb4)
  clear hb4 P2 P3 I3 Ss
  obtain ⟨x0, x1, x2, x3, x4⟩ := box5 X4.out
  go_wp2_with fail
  clear x0 x1 x2 x3 x4
  refine (lToScope s a1 a2 a3 a4 c1 c2 c3 c4 w4 K.out.li K.out.lt K.out.tw K.out.lo K.out.ow K.out.lu R4.out).mono ?_
  rintro e w5 ⟨q1, q2, q3, q4, rfl, hq, hb5⟩
  have hb45 := B4.out.trans (hb5.mono B4.out.size)
  have B5 := Lib.hid (hb45.alloc hb45.size (.cells (scopeC s q1 q2 q3 q4 s.fImports.length s.fTypes.length s.fObjects.length s.fUses.length) 36))
  have hal := (Below.refl w5.heap.size w5).alloc (Nat.le_refl _) (.cells (scopeC s q1 q2 q3 q4 s.fImports.length s.fTypes.length s.fObjects.length s.fUses.length) 36)
  have X5 := Lib.hid ((X4.out.below hb5 X4.out.lt).below hal (X4.out.below hb5 X4.out.lt).lt)
  have Y5 := Lib.hid (Box.new w5 36 (scopeC s q1 q2 q3 q4 s.fImports.length s.fTypes.length s.fObjects.length s.fUses.length))
  have R5 := Lib.hid ((R4.out.below hb5).below hal)
  have N5 := Lib.hid ((N4.out.below hb5).below hal)
  have Q5 := Lib.hid (hq.any.below hal)
  clear hb5 hq hal hb45
  go_wp2_with fail
  obtain ⟨g, hgg⟩ : ∃ n, n = w5.heap.size := ⟨_, rfl⟩
  rw [← hgg] at Y5
  rw [← hgg]
  clear hgg
  generalize w5.alloc (.cells (scopeC s q1 q2 q3 q4 s.fImports.length s.fTypes.length s.fObjects.length s.fUses.length) 36) = v5 at *
  refine (lToIntS a' cap' st _ hN2 N5.out.ints).mono ?_
  rintro e w6 ⟨rfl, hx6, hb6⟩
  have B6 := Lib.hid (B5.out.trans (hb6.mono B5.out.size))
  have X6 := Lib.hid (X5.out.below hb6 X5.out.lt)
  have Y6 := Lib.hid (Y5.out.below hb6 Y5.out.lt)
  have R6 := Lib.hid (R5.out.below hb6)
  have N6 := Lib.hid (N5.out.below hb6)
  have Q6 := Lib.hid (Q5.out.below hb6)
  have I6 := Lib.hid (Ints.ofBox hx6 (Nat.le_refl _)).nums
  clear hb6 hx6
  obtain ⟨gi, hgi⟩ : ∃ n, n = v5.heap.size := ⟨_, rfl⟩
  rw [← hgi] at I6
  rw [← hgi]
  clear hgi
  obtain ⟨y0, y1, y2, y3, y4⟩ := box5 Y6.out
  go_wp2_with fail
  clear y0 y1 y2 y3 y4
  refine (Si.out q1 q2 q3 q4 _ w6 Q6.out I6.out).mono ?_
  rintro e w7 ⟨rfl, hb7⟩
  have B7 := Lib.hid (B6.out.trans (hb7.mono B6.out.size))
  have X7 := Lib.hid (X6.out.below hb7 X6.out.lt)
  have Y7 := Lib.hid (Y6.out.below hb7 Y6.out.lt)
  have R7 := Lib.hid (R6.out.below hb7).drew
  have Q7 := Lib.hid (Q6.out.below hb7).drew
  have N7 := Lib.hid (N6.out.below hb7)
  have I7 := Lib.hid (I6.out.below hb7)
  have g7 := Y7.out.lt
  have l7 := X7.out.lt
  clear hb7 Si
  cases qa <;> cases qo
  all_goals
    obtain ⟨x0, x1, x2, x3, x4⟩ := box5 X7.out
    obtain ⟨y0, y1, y2, y3, y4⟩ := box5 Y7.out
    go_wp2_with fail
    go_region_held3 (fun w' => w'.cell? ⟨w.heap.size, 0, none⟩ = some (.string s.fName) ∧ w'.cell? ⟨w.heap.size, 1, none⟩ = some (.slice a1 s.fImports.length c1) ∧ w'.cell? ⟨w.heap.size, 2, none⟩ = some (.slice a2 s.fTypes.length c2) ∧ w'.cell? ⟨w.heap.size, 3, none⟩ = some (.slice a3 s.fObjects.length c3) ∧ w'.cell? ⟨w.heap.size, 4, none⟩ = some (.slice a4 s.fUses.length c4) ∧ w'.cell? ⟨g, 0, none⟩ = some (.string s.fName) ∧ w'.cell? ⟨g, 1, none⟩ = some (.slice q1 s.fImports.length s.fImports.length) ∧ w'.cell? ⟨g, 2, none⟩ = some (.slice q2 s.fTypes.length s.fTypes.length) ∧ w'.cell? ⟨g, 3, none⟩ = some (.slice q3 s.fObjects.length s.fObjects.length) ∧ w'.cell? ⟨g, 4, none⟩ = some (.slice q4 s.fUses.length s.fUses.length))
      (first
        | exact ⟨x0, x1, x2, x3, x4, y0, y1, y2, y3, y4⟩
        | go_keep
        | (go_split_ands
           refine ⟨?_, ?_, ?_, ?_, ?_, ?_, ?_, ?_, ?_, ?_⟩ <;> (rw [hbu.cell (by simp at *; omega)]; assumption))
        | (go_split_ands
           refine ⟨?_, ?_, ?_, ?_, ?_, ?_, ?_, ?_, ?_, ?_⟩ <;> (rw [hbt.cell (by simp at *; omega)]; assumption)))
      (first
        | (go_at_call 6; refine (lToScope s a1 a2 a3 a4 c1 c2 c3 c4 _ K.out.li K.out.lt K.out.tw K.out.lo K.out.ow K.out.lu R7.out).mono ?_; rintro e wt ⟨t1, t2, t3, t4, rfl, ht, hbt⟩; have hsz := hbt.size)
        | (go_at_call 9; refine (lEqScope s q1 q2 q3 q4 t1 t2 t3 t4 _ _ _ _ _ _ _ _ _ K.out.li K.out.lt K.out.tw K.out.lo K.out.ow K.out.lu (Q7.out.below hbt) ht.any).mono ?_; rintro e wu ⟨rfl, hbu⟩))
    have hbx := (Below.refl w7.heap.size w7).drew.trans (hbt.trans (hbu.mono hbt.size))
    have B8 := Lib.hid (B7.out.trans (hbx.mono B7.out.size))
    have N8 := Lib.hid (N7.out.below hbx)
    have I8 := Lib.hid (I7.out.below hbx)
    clear x0 x1 x2 x3 x4 y0 y1 y2 y3 y4 hbx
    go_wp2_with fail
    refine (lToIntS a' cap' st _ hN2 N8.out.ints).mono ?_
    rintro e w9 ⟨rfl, hx9, hb9⟩
    have X9 := Lib.hid (Ints.ofBox hx9 (Nat.le_refl _)).nums
    have B9 := Lib.hid (B8.out.trans (hb9.mono B8.out.size))
    have I9 := Lib.hid (I8.out.below hb9)
    clear hx9 hb9
    go_wp2_with fail
    refine (lEqNums _ _ _ _ st _ hN2 I9.out X9.out).mono ?_
    rintro e w10 ⟨rfl, hb10⟩
    go_wp2_with fail
    go_ret
    exact ⟨rfl, B9.out.trans (hb10.mono B9.out.size)⟩
end Go.Proofs.YtlfigpdjhljdnaaGreat
