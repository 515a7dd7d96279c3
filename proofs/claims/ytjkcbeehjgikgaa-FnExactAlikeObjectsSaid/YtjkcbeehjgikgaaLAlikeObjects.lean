
/-
  What is proved: the walk of the law FnExactAlikeObjects. No condition beside what each theorem states.
-/
import Derived.Test.YtjkcbeehjgikgaaAlikeObjs
import Derived.Deep.RegionHeld3
namespace Go.Proofs.Ytjkcbeehjgikgaa
open Go.ChangeShapes Go.WideShapes Go.ChangeAt Go.RowKit

-- shell: FnExactAlikeObjects
set_option maxRecDepth 100000 in
set_option maxHeartbeats 16000000 in
theorem law_FnExactAlikeObjects (A : ScopeD) (a1 a2 a3 a4 : Option Addr) (c1 c2 c3 c4 : Nat) (x : Int) (B : ScopeD) (b1 b2 b3 b4 : Option Addr) (d1 d2 d3 d4 : Nat) (y : Int) (w : World) (hin : ScopeR Any w a1 a2 a3 a4 A ∧ A.came) (_ : (Lit.int .i64 x).wf = true) (hin2 : ScopeR Any w b1 b2 b3 b4 B ∧ B.came) (_ : (Lit.int .i64 y).wf = true) :
    Calls Try.prog 10 #[.agg (scopeC A a1 a2 a3 a4 c1 c2 c3 c4), .int .i64 x, .agg (scopeC B b1 b2 b3 b4 d1 d2 d3 d4), .int .i64 y] w fun e w' => e = .returned (.bool true) ∧ Below w.heap.size w w' := by
  obtain ⟨hr, hc⟩ := hin
  obtain ⟨hr2, hc2⟩ := hin2
  have HB := Lib.hid (((Below.refl w.heap.size w).alloc (Nat.le_refl _) (.cells (scopeC A a1 a2 a3 a4 c1 c2 c3 c4) 60)).alloc (by simp) (.cells (scopeC B b1 b2 b3 b4 d1 d2 d3 d4) 60))
  have HX := Lib.hid ((Box.new w 60 (scopeC A a1 a2 a3 a4 c1 c2 c3 c4)).alloc (.cells (scopeC B b1 b2 b3 b4 d1 d2 d3 d4) 60))
  have HY := Lib.hid (Box.new' (w.alloc (.cells (scopeC A a1 a2 a3 a4 c1 c2 c3 c4) 60)) 60 (scopeC B b1 b2 b3 b4 d1 d2 d3 d4) (g := w.heap.size + 1) (by simp))
  have HR := Lib.hid (hr.below HB.out)
  have HS := Lib.hid (hr2.below HB.out)
  have Hsz := Lib.hid (lSzScope A a1 a2 a3 a4 c1 c2 c3 c4 _ 1048576 (by omega) (by omega) hc HR.out)
  have Hc2 := Lib.hid hc2
  clear hr hc hr2 hc2
  go_enter Try.func10, Try.ntmps10
  go_wp2_with fail
  refine Hsz.out.mono ?_
  rintro e w1 ⟨r, rfl, hs, hb⟩
  replace HB := Lib.hid (HB.out.trans (hb.mono HB.out.size))
  replace HR := Lib.hid (HR.out.below hb)
  replace HS := Lib.hid (HS.out.below hb)
  replace HX := Lib.hid (HX.out.below hb HX.out.lt)
  replace HY := Lib.hid (HY.out.below hb HY.out.lt)
  clear hb Hsz
  rcases hs with rfl | ⟨h0, h1⟩
  · go_wp2_with fail
    go_ret
    exact ⟨rfl, HB.out⟩
  have KA := Lib.hid (ScopeK.of (s := A) (by omega))
  have hr1 : r ≤ 1048576 := by omega
  clear h1
  obtain ⟨y0, y1, y2, y3, y4⟩ := box5 HY.out
  go_wp2_with fail
  clear y0 y1 y2 y3 y4
  refine (lSzScope B b1 b2 b3 b4 d1 d2 d3 d4 w1 r h0 hr1 Hc2.out HS.out).mono ?_
  rintro e w2 ⟨r', rfl, hs, hb⟩
  replace HB := Lib.hid (HB.out.trans (hb.mono HB.out.size))
  replace HR := Lib.hid (HR.out.below hb)
  replace HS := Lib.hid (HS.out.below hb)
  replace HX := Lib.hid (HX.out.below hb HX.out.lt)
  replace HY := Lib.hid (HY.out.below hb HY.out.lt)
  clear hb
  rcases hs with rfl | ⟨h0', h1'⟩
  · go_wp2_with fail
    go_ret
    exact ⟨rfl, HB.out⟩
  have KB := Lib.hid (ScopeK.of (s := B) (by omega))
  clear h1'
  obtain ⟨x0, x1, x2, x3, x4⟩ := box5 HX.out
  obtain ⟨y0, y1, y2, y3, y4⟩ := box5 HY.out
  have lx := HX.out.lt
  have ly := HY.out.lt
  go_wp2_with fail
  replace HB := Lib.hid (belowN HB.out 1)
  replace HR := Lib.hid HR.out.drew
  replace HS := Lib.hid HS.out.drew
  replace HX := Lib.hid HX.out.drew
  replace HY := Lib.hid HY.out.drew
  have M1 := Lib.hid True.intro
  go_region_held3 (fun w' => w'.cell? ⟨w.heap.size, 0, none⟩ = some (.string A.fName) ∧ w'.cell? ⟨w.heap.size, 1, none⟩ = some (.slice a1 A.fImports.length c1) ∧ w'.cell? ⟨w.heap.size, 2, none⟩ = some (.slice a2 A.fTypes.length c2) ∧ w'.cell? ⟨w.heap.size, 3, none⟩ = some (.slice a3 A.fObjects.length c3) ∧ w'.cell? ⟨w.heap.size, 4, none⟩ = some (.slice a4 A.fUses.length c4) ∧ w'.cell? ⟨(w.heap.size + 1), 0, none⟩ = some (.string B.fName) ∧ w'.cell? ⟨(w.heap.size + 1), 1, none⟩ = some (.slice b1 B.fImports.length d1) ∧ w'.cell? ⟨(w.heap.size + 1), 2, none⟩ = some (.slice b2 B.fTypes.length d2) ∧ w'.cell? ⟨(w.heap.size + 1), 3, none⟩ = some (.slice b3 B.fObjects.length d3) ∧ w'.cell? ⟨(w.heap.size + 1), 4, none⟩ = some (.slice b4 B.fUses.length d4))
    (first
      | exact ⟨x0, x1, x2, x3, x4, y0, y1, y2, y3, y4⟩
      | go_keep
      | (go_split_ands
         refine ⟨?_, ?_, ?_, ?_, ?_, ?_, ?_, ?_, ?_, ?_⟩ <;> (rw [hbt.cell (by first | (simp at *; omega) | (simp at *; done) | omega)]; assumption)))
    (first
      | (go_at_call 41; have hm := M1; clear M1 hm; refine (lToScope A a1 a2 a3 a4 c1 c2 c3 c4 _ KA.out.li KA.out.lt KA.out.tw KA.out.lo KA.out.ow KA.out.lu HR.out).mono ?_; rintro e wt ⟨p1, p2, p3, p4, rfl, hp, hbt⟩; have hsz := hbt.size; replace HB := Lib.hid (HB.out.trans (hbt.mono HB.out.size)); replace HR := Lib.hid (HR.out.below hbt); replace HS := Lib.hid (HS.out.below hbt); replace HX := Lib.hid (HX.out.below hbt HX.out.lt); replace HY := Lib.hid (HY.out.below hbt HY.out.lt); have HP := Lib.hid hp.any)
      | (go_at_call 41; refine (lToScope B b1 b2 b3 b4 d1 d2 d3 d4 _ KB.out.li KB.out.lt KB.out.tw KB.out.lo KB.out.ow KB.out.lu HS.out).mono ?_; rintro e wt ⟨q1, q2, q3, q4, rfl, hq, hbt⟩; have hsz := hbt.size; replace HB := Lib.hid (HB.out.trans (hbt.mono HB.out.size)); replace HR := Lib.hid (HR.out.below hbt); replace HS := Lib.hid (HS.out.below hbt); replace HP := Lib.hid (HP.out.below hbt); replace HX := Lib.hid (HX.out.below hbt HX.out.lt); replace HY := Lib.hid (HY.out.below hbt HY.out.lt); have HQ := Lib.hid hq.any)
      | (go_at_call 50; refine (sAlikeObjects A B x y p1 p2 p3 p4 q1 q2 q3 q4 _ _ _ _ _ _ _ _ _ (KA.out.m HP.out) (KB.out.m HQ.out)).mono ?_; rintro e wt ⟨v, ok, rfl, hans, hbt⟩; have AN := Lib.hid hans; clear hans; have hsz := hbt.size; replace HB := Lib.hid (HB.out.trans (hbt.mono HB.out.size)); replace HR := Lib.hid (HR.out.below hbt); replace HS := Lib.hid (HS.out.below hbt); replace HX := Lib.hid (HX.out.below hbt HX.out.lt); replace HY := Lib.hid (HY.out.below hbt HY.out.lt)))
  clear HP HQ hbt x0 x1 x2 x3 x4 y0 y1 y2 y3 y4
  obtain ⟨x0, x1, x2, x3, x4⟩ := box5 HX.out
  go_wp2_with fail
  clear x0 x1 x2 x3 x4
  refine (lToScope A a1 a2 a3 a4 c1 c2 c3 c4 _ KA.out.li KA.out.lt KA.out.tw KA.out.lo KA.out.ow KA.out.lu HR.out).mono ?_
  rintro e w4 ⟨p1, p2, p3, p4, rfl, hp, hb⟩
  replace HB := Lib.hid (HB.out.trans (hb.mono HB.out.size))
  replace HR := Lib.hid (HR.out.below hb)
  replace HS := Lib.hid (HS.out.below hb)
  replace HX := Lib.hid (HX.out.below hb HX.out.lt)
  replace HY := Lib.hid (HY.out.below hb HY.out.lt)
  have hal := (Below.refl w4.heap.size w4).alloc (Nat.le_refl _) (.cells (scopeC A p1 p2 p3 p4 A.fImports.length A.fTypes.length A.fObjects.length A.fUses.length) 66)
  have HZ := Lib.hid (Box.new w4 66 (scopeC A p1 p2 p3 p4 A.fImports.length A.fTypes.length A.fObjects.length A.fUses.length))
  have HP := Lib.hid (hp.any.below hal)
  clear hb hp
  replace HB := Lib.hid (HB.out.trans (hal.mono HB.out.size))
  replace HR := Lib.hid (HR.out.below hal)
  replace HS := Lib.hid (HS.out.below hal)
  replace HX := Lib.hid (HX.out.below hal HX.out.lt)
  replace HY := Lib.hid (HY.out.below hal HY.out.lt)
  clear hal
  obtain ⟨y0, y1, y2, y3, y4⟩ := box5 HY.out
  go_wp2_with fail
  clear y0 y1 y2 y3 y4
  obtain ⟨g, hgg⟩ : ∃ g, w4.heap.size = g := ⟨_, rfl⟩
  rw [hgg] at HZ
  rw [hgg]
  have Hgg := Lib.hid hgg
  clear hgg
  refine (lToScope B b1 b2 b3 b4 d1 d2 d3 d4 _ KB.out.li KB.out.lt KB.out.tw KB.out.lo KB.out.ow KB.out.lu HS.out).mono ?_
  rintro e w5 ⟨q1, q2, q3, q4, rfl, hq, hb⟩
  replace HB := Lib.hid (HB.out.trans (hb.mono HB.out.size))
  replace HR := Lib.hid (HR.out.below hb)
  replace HS := Lib.hid (HS.out.below hb)
  replace HP := Lib.hid (HP.out.below hb)
  replace HX := Lib.hid (HX.out.below hb HX.out.lt)
  replace HY := Lib.hid (HY.out.below hb HY.out.lt)
  replace HZ := Lib.hid (HZ.out.below hb HZ.out.lt)
  have hal := (Below.refl w5.heap.size w5).alloc (Nat.le_refl _) (.cells (scopeC B q1 q2 q3 q4 B.fImports.length B.fTypes.length B.fObjects.length B.fUses.length) 66)
  have HV := Lib.hid (Box.new w5 66 (scopeC B q1 q2 q3 q4 B.fImports.length B.fTypes.length B.fObjects.length B.fUses.length))
  have HQ := Lib.hid (hq.any.below hal)
  clear hb hq
  replace HB := Lib.hid (HB.out.trans (hal.mono HB.out.size))
  replace HR := Lib.hid (HR.out.below hal)
  replace HS := Lib.hid (HS.out.below hal)
  replace HP := Lib.hid (HP.out.below hal)
  replace HX := Lib.hid (HX.out.below hal HX.out.lt)
  replace HY := Lib.hid (HY.out.below hal HY.out.lt)
  replace HZ := Lib.hid (HZ.out.below hal HZ.out.lt)
  clear hal
  obtain ⟨z0, z1, z2, z3, z4⟩ := box5 HZ.out
  obtain ⟨v0, v1, v2, v3, v4⟩ := box5 HV.out
  go_wp2_with fail
  clear z0 z1 z2 z3 z4 v0 v1 v2 v3 v4
  obtain ⟨k, hkk⟩ : ∃ k, w5.heap.size = k := ⟨_, rfl⟩
  rw [hkk] at HV
  rw [hkk]
  have Hkk := Lib.hid hkk
  clear hkk
  refine (iAlikeObjects A B x y p1 p2 p3 p4 q1 q2 q3 q4 _ _ _ _ _ _ _ _ _ (KA.out.m HP.out) (KB.out.m HQ.out)).mono ?_
  rintro e w6 ⟨v', ok', rfl, hans, hb⟩
  obtain ⟨rfl, rfl⟩ := AN.out.eq hans
  clear hans AN
  replace HB := Lib.hid (HB.out.trans (hb.mono HB.out.size))
  replace HR := Lib.hid (HR.out.below hb)
  replace HS := Lib.hid (HS.out.below hb)
  replace HP := Lib.hid (HP.out.below hb)
  replace HQ := Lib.hid (HQ.out.below hb)
  replace HX := Lib.hid (HX.out.below hb HX.out.lt)
  replace HY := Lib.hid (HY.out.below hb HY.out.lt)
  replace HZ := Lib.hid (HZ.out.below hb HZ.out.lt)
  replace HV := Lib.hid (HV.out.below hb HV.out.lt)
  clear hb
  cases v <;> cases ok
  all_goals
    obtain ⟨x0, x1, x2, x3, x4⟩ := box5 HX.out
    obtain ⟨y0, y1, y2, y3, y4⟩ := box5 HZ.out
    have lx := HX.out.lt
    have ly := HZ.out.lt
    go_wp2_with fail
    replace HB := Lib.hid (belowN HB.out 1)
    replace HR := Lib.hid HR.out.drew
    replace HS := Lib.hid HS.out.drew
    replace HP := Lib.hid HP.out.drew
    replace HQ := Lib.hid HQ.out.drew
    replace HX := Lib.hid HX.out.drew
    replace HY := Lib.hid HY.out.drew
    replace HZ := Lib.hid HZ.out.drew
    replace HV := Lib.hid HV.out.drew
    go_region_held3 (fun w' => w'.cell? ⟨w.heap.size, 0, none⟩ = some (.string A.fName) ∧ w'.cell? ⟨w.heap.size, 1, none⟩ = some (.slice a1 A.fImports.length c1) ∧ w'.cell? ⟨w.heap.size, 2, none⟩ = some (.slice a2 A.fTypes.length c2) ∧ w'.cell? ⟨w.heap.size, 3, none⟩ = some (.slice a3 A.fObjects.length c3) ∧ w'.cell? ⟨w.heap.size, 4, none⟩ = some (.slice a4 A.fUses.length c4) ∧ w'.cell? ⟨g, 0, none⟩ = some (.string A.fName) ∧ w'.cell? ⟨g, 1, none⟩ = some (.slice p1 A.fImports.length A.fImports.length) ∧ w'.cell? ⟨g, 2, none⟩ = some (.slice p2 A.fTypes.length A.fTypes.length) ∧ w'.cell? ⟨g, 3, none⟩ = some (.slice p3 A.fObjects.length A.fObjects.length) ∧ w'.cell? ⟨g, 4, none⟩ = some (.slice p4 A.fUses.length A.fUses.length))
      (first
        | exact ⟨x0, x1, x2, x3, x4, y0, y1, y2, y3, y4⟩
        | go_keep
        | (go_split_ands
           refine ⟨?_, ?_, ?_, ?_, ?_, ?_, ?_, ?_, ?_, ?_⟩ <;> (rw [hbt.cell (by first | (simp at *; omega) | (simp at *; done) | omega)]; assumption)))
      (first
        | (go_at_call 41; refine (lToScope A a1 a2 a3 a4 c1 c2 c3 c4 _ KA.out.li KA.out.lt KA.out.tw KA.out.lo KA.out.ow KA.out.lu HR.out).mono ?_; rintro e wt ⟨t1, t2, t3, t4, rfl, ht, hbt⟩; have hsz := hbt.size; replace HB := Lib.hid (HB.out.trans (hbt.mono HB.out.size)); replace HR := Lib.hid (HR.out.below hbt); replace HS := Lib.hid (HS.out.below hbt); replace HP := Lib.hid (HP.out.below hbt); replace HQ := Lib.hid (HQ.out.below hbt); replace HX := Lib.hid (HX.out.below hbt HX.out.lt); replace HY := Lib.hid (HY.out.below hbt HY.out.lt); replace HZ := Lib.hid (HZ.out.below hbt HZ.out.lt); replace HV := Lib.hid (HV.out.below hbt HV.out.lt); have HT := Lib.hid ht.any)
        | (go_at_call 43; refine (lEqScope A p1 p2 p3 p4 t1 t2 t3 t4 _ _ _ _ _ _ _ _ _ KA.out.li KA.out.lt KA.out.tw KA.out.lo KA.out.ow KA.out.lu HP.out HT.out).mono ?_; rintro e wt ⟨rfl, hbt⟩; have hsz := hbt.size; replace HB := Lib.hid (HB.out.trans (hbt.mono HB.out.size)); replace HR := Lib.hid (HR.out.below hbt); replace HS := Lib.hid (HS.out.below hbt); replace HP := Lib.hid (HP.out.below hbt); replace HQ := Lib.hid (HQ.out.below hbt); replace HX := Lib.hid (HX.out.below hbt HX.out.lt); replace HY := Lib.hid (HY.out.below hbt HY.out.lt); replace HZ := Lib.hid (HZ.out.below hbt HZ.out.lt); replace HV := Lib.hid (HV.out.below hbt HV.out.lt)))
    clear HT hbt x0 x1 x2 x3 x4 y0 y1 y2 y3 y4
    obtain ⟨x0, x1, x2, x3, x4⟩ := box5 HY.out
    obtain ⟨y0, y1, y2, y3, y4⟩ := box5 HV.out
    have lx := HY.out.lt
    have ly := HV.out.lt
    go_wp2_with fail
    replace HB := Lib.hid (belowN HB.out 1)
    replace HR := Lib.hid HR.out.drew
    replace HS := Lib.hid HS.out.drew
    replace HP := Lib.hid HP.out.drew
    replace HQ := Lib.hid HQ.out.drew
    replace HX := Lib.hid HX.out.drew
    replace HY := Lib.hid HY.out.drew
    replace HZ := Lib.hid HZ.out.drew
    replace HV := Lib.hid HV.out.drew
    go_region_held3 (fun w' => w'.cell? ⟨(w.heap.size + 1), 0, none⟩ = some (.string B.fName) ∧ w'.cell? ⟨(w.heap.size + 1), 1, none⟩ = some (.slice b1 B.fImports.length d1) ∧ w'.cell? ⟨(w.heap.size + 1), 2, none⟩ = some (.slice b2 B.fTypes.length d2) ∧ w'.cell? ⟨(w.heap.size + 1), 3, none⟩ = some (.slice b3 B.fObjects.length d3) ∧ w'.cell? ⟨(w.heap.size + 1), 4, none⟩ = some (.slice b4 B.fUses.length d4) ∧ w'.cell? ⟨k, 0, none⟩ = some (.string B.fName) ∧ w'.cell? ⟨k, 1, none⟩ = some (.slice q1 B.fImports.length B.fImports.length) ∧ w'.cell? ⟨k, 2, none⟩ = some (.slice q2 B.fTypes.length B.fTypes.length) ∧ w'.cell? ⟨k, 3, none⟩ = some (.slice q3 B.fObjects.length B.fObjects.length) ∧ w'.cell? ⟨k, 4, none⟩ = some (.slice q4 B.fUses.length B.fUses.length))
      (first
        | exact ⟨x0, x1, x2, x3, x4, y0, y1, y2, y3, y4⟩
        | go_keep
        | (go_split_ands
           refine ⟨?_, ?_, ?_, ?_, ?_, ?_, ?_, ?_, ?_, ?_⟩ <;> (rw [hbt.cell (by first | (simp at *; omega) | (simp at *; done) | omega)]; assumption)))
      (first
        | (go_at_call 41; refine (lToScope B b1 b2 b3 b4 d1 d2 d3 d4 _ KB.out.li KB.out.lt KB.out.tw KB.out.lo KB.out.ow KB.out.lu HS.out).mono ?_; rintro e wt ⟨t1, t2, t3, t4, rfl, ht, hbt⟩; have hsz := hbt.size; replace HB := Lib.hid (HB.out.trans (hbt.mono HB.out.size)); replace HR := Lib.hid (HR.out.below hbt); replace HS := Lib.hid (HS.out.below hbt); replace HP := Lib.hid (HP.out.below hbt); replace HQ := Lib.hid (HQ.out.below hbt); replace HX := Lib.hid (HX.out.below hbt HX.out.lt); replace HY := Lib.hid (HY.out.below hbt HY.out.lt); replace HZ := Lib.hid (HZ.out.below hbt HZ.out.lt); replace HV := Lib.hid (HV.out.below hbt HV.out.lt); have HT := Lib.hid ht.any)
        | (go_at_call 43; refine (lEqScope B q1 q2 q3 q4 t1 t2 t3 t4 _ _ _ _ _ _ _ _ _ KB.out.li KB.out.lt KB.out.tw KB.out.lo KB.out.ow KB.out.lu HQ.out HT.out).mono ?_; rintro e wt ⟨rfl, hbt⟩; have hsz := hbt.size; replace HB := Lib.hid (HB.out.trans (hbt.mono HB.out.size)); replace HR := Lib.hid (HR.out.below hbt); replace HS := Lib.hid (HS.out.below hbt); replace HP := Lib.hid (HP.out.below hbt); replace HQ := Lib.hid (HQ.out.below hbt); replace HX := Lib.hid (HX.out.below hbt HX.out.lt); replace HY := Lib.hid (HY.out.below hbt HY.out.lt); replace HZ := Lib.hid (HZ.out.below hbt HZ.out.lt); replace HV := Lib.hid (HV.out.below hbt HV.out.lt)))
    clear HT hbt x0 x1 x2 x3 x4 y0 y1 y2 y3 y4
    go_wp2_with fail
    go_ret
    exact ⟨rfl, HB.out⟩
end Go.Proofs.Ytjkcbeehjgikgaa
