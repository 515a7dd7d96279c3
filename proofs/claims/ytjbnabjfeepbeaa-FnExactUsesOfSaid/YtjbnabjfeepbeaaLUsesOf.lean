
/-
  What is proved: the walk of the law FnExactUsesOf. No condition beside what each theorem states.
-/
import Derived.Test.YtjbnabjfeepbeaaOpenScope
import Derived.Test.YtjbnabjfeepbeaaLsScope
import Derived.Test.YtjbnabjfeepbeaaUsesP
import Derived.Deep.RegionHeld3
namespace Go.Proofs.Ytjbnabjfeepbeaa
open Go.ChangeShapes Go.WideShapes Go.ChangeAt Go.RowKit

/-- Both tell the same. -/
theorem uses_same {s : ScopeD} {md : ByteArray} {l l' : List ByteArray} {ok ok' : Bool} (h : (usesP s md ∧ l = usesL md s.fUses ∧ ok = true) ∨ (¬ usesP s md ∧ l = [] ∧ ok = false)) (h' : (usesP s md ∧ l' = usesL md s.fUses ∧ ok' = true) ∨ (¬ usesP s md ∧ l' = [] ∧ ok' = false)) : l = l' ∧ ok = ok' := by
  rcases h with ⟨h0, rfl, rfl⟩ | ⟨h0, rfl, rfl⟩ <;> rcases h' with ⟨h1, rfl, rfl⟩ | ⟨h1, rfl, rfl⟩
  · exact ⟨rfl, rfl⟩
  · exact absurd h0 h1
  · exact absurd h1 h0
  · exact ⟨rfl, rfl⟩
theorem uses_small {s : ScopeD} {md : ByteArray} {l : List ByteArray} {ok : Bool} (h : (usesP s md ∧ l = usesL md s.fUses ∧ ok = true) ∨ (¬ usesP s md ∧ l = [] ∧ ok = false)) : l.length ≤ s.fUses.length := by
  rcases h with ⟨h0, rfl, rfl⟩ | ⟨h0, rfl, rfl⟩
  · have := uses_len (md := md) (us := s.fUses) (k := s.fUses.length)
    rwa [List.take_length] at this
  · simp

-- shell: FnExactUsesOf
set_option maxRecDepth 100000 in
set_option maxHeartbeats 16000000 in
theorem law_FnExactUsesOf (s : ScopeD) (a1 a2 a3 a4 : Option Addr) (c1 c2 c3 c4 : Nat) (md : ByteArray) (w : World) (hin : ScopeR Any w a1 a2 a3 a4 s ∧ s.came) (hmd : md.size ≤ maxLen) :
    Calls Try.prog 7 #[.agg (scopeC s a1 a2 a3 a4 c1 c2 c3 c4), .string md] w fun e w' => e = .returned (.bool true) ∧ Below w.heap.size w w' := by
  obtain ⟨hr, hc⟩ := hin
  have B0 := Lib.hid ((Below.refl w.heap.size w).alloc (Nat.le_refl _) (.cells (scopeC s a1 a2 a3 a4 c1 c2 c3 c4) 62))
  have X0 := Lib.hid (Box.new w 62 (scopeC s a1 a2 a3 a4 c1 c2 c3 c4))
  have R0 := Lib.hid (hr.below B0.out)
  have Hsz := Lib.hid (lSzScope s a1 a2 a3 a4 c1 c2 c3 c4 _ 1048576 (by omega) (by omega) hc R0.out)
  clear hr hc
  go_enter Try.func7, Try.ntmps7
  by_cases hbig : (1048576 : Int) < (md.size : Int)
  · go_wp2_with fail
    go_ret
    exact ⟨rfl, B0.out⟩
  go_wp2_with fail
  refine Hsz.out.mono ?_
  rintro e w1 ⟨r, rfl, hs, hb1⟩
  have B1 := Lib.hid (B0.out.trans (hb1.mono B0.out.size))
  have X1 := Lib.hid (X0.out.below hb1 X0.out.lt)
  have R1 := Lib.hid (R0.out.below hb1)
  clear hb1 Hsz
  rcases hs with rfl | ⟨h0, h1⟩
  · go_wp2_with fail
    go_ret
    exact ⟨rfl, B1.out⟩
  have K := Lib.hid (ScopeK.of (s := s) (by omega))
  have Cn := Lib.hid (ScopeCnt.of (s := s) (by omega))
  clear h1
  obtain ⟨x0, x1, x2, x3, x4⟩ := box5 X1.out
  go_wp2_with fail
  clear x0 x1 x2 x3 x4
  refine (lToScope s a1 a2 a3 a4 c1 c2 c3 c4 w1 K.out.li K.out.lt K.out.tw K.out.lo K.out.ow K.out.lu R1.out).mono ?_
  rintro e w2 ⟨p1, p2, p3, p4, rfl, hp, hb2⟩
  have B2 := Lib.hid (B1.out.trans (hb2.mono B1.out.size))
  have X2 := Lib.hid (X1.out.below hb2 X1.out.lt)
  have R2 := Lib.hid (R1.out.below hb2)
  have P2 := Lib.hid hp.any
  clear hb2 hp
  go_wp2_with fail
  refine (sUsesOf s md p1 p2 p3 p4 _ _ _ _ w2 hmd (K.out.m P2.out)).mono ?_
  unfold PostUO
  rintro e w3 ⟨v0, l, ok, rfl, hown0, hd0, hb3⟩
  have hll : l.length ≤ 1048576 := Nat.le_trans (uses_small hd0) K.out.lu
  obtain ⟨a0, c0, rfl, _, _, _, hrw0⟩ := hown0.rows
  have D0 := Lib.hid hd0
  have N3 := Lib.hid hrw0.any
  have B3 := Lib.hid (B2.out.trans (hb3.mono B2.out.size))
  have X3 := Lib.hid (X2.out.below hb3 X2.out.lt)
  have R3 := Lib.hid (R2.out.below hb3)
  clear hb3 P2 hown0 hd0 hrw0
  obtain ⟨x0, x1, x2, x3, x4⟩ := box5 X3.out
  go_wp2_with fail
  clear x0 x1 x2 x3 x4
  refine (lToScopeB s a1 a2 a3 a4 c1 c2 c3 c4 w3 K.out.li K.out.lt K.out.tw K.out.lo K.out.ow K.out.lu R3.out).mono ?_
  rintro e w4 ⟨q1, q2, q3, q4, rfl, hq, hcl4, hb4⟩
  have hal := (Below.refl w4.heap.size w4).alloc (Nat.le_refl _) (.cells (scopeC s q1 q2 q3 q4 s.fImports.length s.fTypes.length s.fObjects.length s.fUses.length) 69)
  have E4 := Lib.hid (hb4.trans (hal.mono hb4.size))
  have s34 : w3.heap.size ≤ w4.heap.size := hb4.size
  have B4 := Lib.hid (B3.out.trans (E4.out.mono B3.out.size))
  have X4 := Lib.hid (X3.out.below E4.out X3.out.lt)
  have Y4 := Lib.hid (Box.new w4 69 (scopeC s q1 q2 q3 q4 s.fImports.length s.fTypes.length s.fObjects.length s.fUses.length))
  have R4 := Lib.hid (R3.out.below E4.out)
  have S4 := Lib.hid hq
  have L4 := Lib.hid ((Like.refl hcl4).below hal (Nat.le_refl _))
  have Q4 := Lib.hid (hq.any.below hal)
  have N4 := Lib.hid (N3.out.below E4.out)
  have hgo := iUsesOf s md q1 q2 q3 q4 _ _ _ _ _ hmd (K.out.m Q4.out)
  have Hgo := Lib.hid hgo
  clear hb4 hq hal hgo hcl4
  go_wp2_with fail
  refine Hgo.out.mono ?_
  unfold PostUO
  rintro e w5 ⟨v1, l1, ok1, rfl, hown1, hd1, hb5⟩
  obtain ⟨rfl, rfl⟩ := uses_same D0.out hd1
  have s45 : w4.heap.size + 1 ≤ w5.heap.size := by have := hb5.size; simp at this; omega
  have hown1b := hown1.lower (show w4.heap.size ≤ _ by simp)
  obtain ⟨a5, c5, rfl, _, _, hoc1, _⟩ := hown1b.rows
  have C5 := Lib.hid hoc1
  have E5 := Lib.hid (E4.out.trans (hb5.mono E4.out.size))
  have B5 := Lib.hid (B4.out.trans (hb5.mono B4.out.size))
  have X5 := Lib.hid (X4.out.below hb5 X4.out.lt)
  have Y5 := Lib.hid (Y4.out.below hb5 Y4.out.lt)
  have R5 := Lib.hid (R4.out.below hb5)
  have Q5 := Lib.hid (Q4.out.below hb5)
  have N5 := Lib.hid (N4.out.below hb5)
  have L5 := Lib.hid (L4.out.below hb5 (by simp))
  clear hb5 Hgo hown1 hown1b hd1 hoc1
  obtain ⟨okk, hokk⟩ : ∃ b : Bool, b = ok := ⟨_, rfl⟩
  have D1 := Lib.hid (hokk ▸ D0.out)
  have Hokk := Lib.hid hokk
  clear hokk D0
  cases ok
  all_goals
    go_wp2_with fail
    refine (lEqStringS _ _ _ _ l _ hll (rows_of_ownC C5.out) N5.out).mono ?_
    rintro e w6 ⟨rfl, hb6⟩
    have s46 : w4.heap.size + 1 ≤ w6.heap.size := Nat.le_trans s45 hb6.size
    have C6 := Lib.hid (C5.out.below hb6)
    have E6 := Lib.hid (E5.out.trans (hb6.mono E5.out.size))
    have B6 := Lib.hid (B5.out.trans (hb6.mono B5.out.size))
    have X6 := Lib.hid (X5.out.below hb6 X5.out.lt)
    have Y6 := Lib.hid (Y5.out.below hb6 Y5.out.lt)
    have R6 := Lib.hid (R5.out.below hb6).drew
    have Q6 := Lib.hid (Q5.out.below hb6).drew
    have N6 := Lib.hid (N5.out.below hb6)
    have L6 := Lib.hid (L5.out.below hb6 (by omega))
    have g6 := Y6.out.lt
    have l6 := X6.out.lt
    clear hb6
    generalize hgg : w4.heap.size = g at *
    have Hgg := Lib.hid hgg
    clear hgg
    obtain ⟨x0, x1, x2, x3, x4⟩ := box5 X6.out
    obtain ⟨y0, y1, y2, y3, y4⟩ := box5 Y6.out
    go_wp2_with fail
    go_region_held3 (fun w' => w'.cell? ⟨w.heap.size, 0, none⟩ = some (.string s.fName) ∧ w'.cell? ⟨w.heap.size, 1, none⟩ = some (.slice a1 s.fImports.length c1) ∧ w'.cell? ⟨w.heap.size, 2, none⟩ = some (.slice a2 s.fTypes.length c2) ∧ w'.cell? ⟨w.heap.size, 3, none⟩ = some (.slice a3 s.fObjects.length c3) ∧ w'.cell? ⟨w.heap.size, 4, none⟩ = some (.slice a4 s.fUses.length c4) ∧ w'.cell? ⟨g, 0, none⟩ = some (.string s.fName) ∧ w'.cell? ⟨g, 1, none⟩ = some (.slice q1 s.fImports.length s.fImports.length) ∧ w'.cell? ⟨g, 2, none⟩ = some (.slice q2 s.fTypes.length s.fTypes.length) ∧ w'.cell? ⟨g, 3, none⟩ = some (.slice q3 s.fObjects.length s.fObjects.length) ∧ w'.cell? ⟨g, 4, none⟩ = some (.slice q4 s.fUses.length s.fUses.length))
      (first
        | exact ⟨x0, x1, x2, x3, x4, y0, y1, y2, y3, y4⟩
        | go_keep
        | (go_split_ands
           refine ⟨?_, ?_, ?_, ?_, ?_, ?_, ?_, ?_, ?_, ?_⟩ <;> (rw [hbu.cell (by simp at *; omega)]; assumption))
        | (go_split_ands
           refine ⟨?_, ?_, ?_, ?_, ?_, ?_, ?_, ?_, ?_, ?_⟩ <;> (rw [hbt.cell (by simp at *; omega)]; assumption)))
      (first
        | (go_at_call 38; refine (lToScope s a1 a2 a3 a4 c1 c2 c3 c4 _ K.out.li K.out.lt K.out.tw K.out.lo K.out.ow K.out.lu R6.out).mono ?_; rintro e wt ⟨t1, t2, t3, t4, rfl, ht, hbt⟩; have hsz := hbt.size)
        | (go_at_call 41; refine (lEqScope s q1 q2 q3 q4 t1 t2 t3 t4 _ _ _ _ _ _ _ _ _ K.out.li K.out.lt K.out.tw K.out.lo K.out.ow K.out.lu (Q6.out.below hbt) ht.any).mono ?_; rintro e wu ⟨rfl, hbu⟩))
    have D7 := Lib.hid (show Below w6.heap.size w6 wu from (belowN (Below.refl w6.heap.size w6) 1).trans (hbt.trans (hbu.mono hbt.size)))
    subst Hgg
    clear x0 x1 x2 x3 x4 y0 y1 y2 y3 y4 hbt hbu ht
    have C7 := Lib.hid (C6.out.below D7.out)
    have E7 := Lib.hid (E6.out.trans (D7.out.mono E6.out.size))
    have B7 := Lib.hid (B6.out.trans (D7.out.mono B6.out.size))
    have X7 := Lib.hid (X6.out.below D7.out l6)
    have Y7 := Lib.hid (Y6.out.below D7.out g6)
    have N7 := Lib.hid (N6.out.below D7.out)
    have L7 := Lib.hid (L6.out.below D7.out (by omega))
    have s47 : w4.heap.size + 1 ≤ wu.heap.size := Nat.le_trans s46 D7.out.size
    obtain ⟨y0, y1, y2, y3, y4⟩ := box5 Y7.out
    go_wp2_with fail
    clear y0 y1 y2 y3 y4
    refine (lLooseScope w3.heap.size w4 s q1 q2 q3 q4 _ _ _ _ 1 _ K.out Cn.out S4.out (by omega) (by omega) L7.out s34).mono ?_
    rintro e w8 ⟨k1, rfl, hk1, hk1b, hm8⟩
    have M8 := Lib.hid hm8
    have C8 := Lib.hid (C7.out.above hm8.above (Nat.le_refl _))
    have E8 := Lib.hid (E7.out.trans hm8.below)
    have s48 : w4.heap.size + 1 ≤ w8.heap.size := Nat.le_trans s47 hm8.below.size
    have N8 := Lib.hid (N3.out.below E8.out)
    clear hm8
    go_wp2_with fail
    refine (lEqStringS _ _ _ _ l _ hll (rows_of_ownC C8.out) N8.out).mono ?_
    rintro e w9 ⟨rfl, hb9⟩
    have C9 := Lib.hid (C8.out.below hb9)
    have E9 := Lib.hid (E8.out.trans (hb9.mono E8.out.size))
    have s49 : w4.heap.size + 1 ≤ w9.heap.size := Nat.le_trans s48 hb9.size
    clear hb9
    go_wp2_with fail
    refine (lMarkStrs w4.heap.size _ _ l 1 _ C9.out (by omega) (by omega) (by omega) (by omega)).mono ?_
    rintro e w10 ⟨rfl, hr10, hb10⟩
    have Q10 := Lib.hid hr10
    have E10 := Lib.hid (E9.out.trans (hb10.mono s34))
    clear hr10 hb10
    go_wp2_with fail
    refine (lHeldStringS _ _ l.length 1 _ (by omega) (by omega) (by omega) Q10.out).mono ?_
    rintro e w11 ⟨rfl, hb11⟩
    have Q11 := Lib.hid (Q10.out.below hb11)
    have E11 := Lib.hid (E10.out.trans (hb11.mono E10.out.size))
    have X11 := Lib.hid (X3.out.below E11.out X3.out.lt)
    have R11 := Lib.hid (R3.out.below E11.out)
    clear hb11
    have hp : ¬ (1 + (l.length : Int) < 0) := by omega
    obtain ⟨x0, x1, x2, x3, x4⟩ := box5 X11.out
    go_wp2_with fail
    clear x0 x1 x2 x3 x4
    refine (lToScope s a1 a2 a3 a4 c1 c2 c3 c4 w11 K.out.li K.out.lt K.out.tw K.out.lo K.out.ow K.out.lu R11.out).mono ?_
    rintro e w12 ⟨u1, u2, u3, u4, rfl, hu, hb12⟩
    have Q12 := Lib.hid (Q11.out.below hb12)
    have E12 := Lib.hid (E11.out.trans (hb12.mono E11.out.size))
    have U12 := Lib.hid hu.any
    clear hb12 hu
    go_wp2_with fail
    refine (iUsesOf s md u1 u2 u3 u4 _ _ _ _ w12 hmd (K.out.m U12.out)).mono ?_
    unfold PostUO
    rintro e w13 ⟨v2, l2, ok2, rfl, hown2, hd2, hb13⟩
    obtain ⟨rfl, hok2⟩ := uses_same D1.out hd2
    rw [Hokk.out] at hok2
    subst hok2
    obtain ⟨a6, c6, rfl, _, _, _, hrw2⟩ := hown2.rows
    have N2 := Lib.hid hrw2.any
    have Q13 := Lib.hid (Q12.out.below hb13)
    have E13 := Lib.hid (E12.out.trans (hb13.mono E12.out.size))
    clear hown2 hd2 hb13 hrw2
    go_wp2_with fail
    refine (lEqStringS _ _ _ _ l _ hll N2.out (N3.out.below E13.out)).mono ?_
    rintro e w14 ⟨rfl, hb14⟩
    have Q14 := Lib.hid (Q13.out.below hb14)
    have E14 := Lib.hid (E13.out.trans (hb14.mono E13.out.size))
    clear hb14
    go_wp2_with fail
    refine (lHeldStringS _ _ l.length 1 _ (by omega) (by omega) (by omega) Q14.out).mono ?_
    rintro e w15 ⟨rfl, hb15⟩
    have E15 := Lib.hid (E14.out.trans (hb15.mono E14.out.size))
    clear hb15
    go_wp2_with fail
    go_ret
    exact ⟨rfl, B3.out.trans (E15.out.mono B3.out.size)⟩
end Go.Proofs.Ytjbnabjfeepbeaa
