
/-
  What is proved: contracts of both ModAt, and the walk of the law FnExactModAt. No condition beside what each theorem states.
-/
import Derived.Test.YtbpbebhnledgnaaGreatMods
namespace Go.Proofs.YtbpbebhnledgnaaGreat
open Go.ChangeShapes Go.WideShapes Go.ChangeAt Go.RowKit
set_option maxRecDepth 100000

theorem isMod.eq {l : List ScopeD} {n : ByteArray} {r r' : Int} (h : isMod l n r) (h' : isMod l n r') : r = r' := by
  rcases h with ⟨i, hi, rfl, e, hn⟩ | ⟨rfl, hn⟩ <;> rcases h' with ⟨i', hi', rfl, e', hn'⟩ | ⟨rfl, hn'⟩
  · rcases Nat.lt_trichotomy i i' with h | h | h
    · exact absurd e (hn' i hi h)
    · rw [h]
    · exact absurd e' (hn i' hi' h)
  · exact absurd e (hn' i hi)
  · exact absurd e' (hn i' hi')
  · rfl
/-- What ModAt tells. -/
def modAns (l : List ScopeD) (nm : ByteArray) (r : Int) (b : Bool) : Prop := (¬ modsP l ∧ r = 0 ∧ b = false) ∨ (modsP l ∧ ∃ q : Int, isMod l nm q ∧ ((q < 0 ∧ r = 0 ∧ b = false) ∨ (¬ q < 0 ∧ r = q ∧ b = true)))
theorem modAns.eq {l : List ScopeD} {nm : ByteArray} {r r' : Int} {b b' : Bool} (h : modAns l nm r b) (h' : modAns l nm r' b') : r = r' ∧ b = b' := by
  rcases h with ⟨h, rfl, rfl⟩ | ⟨h, q, hq, h2⟩ <;> rcases h' with ⟨h', rfl, rfl⟩ | ⟨h', q', hq', h2'⟩
  · exact ⟨rfl, rfl⟩
  · exact absurd h' h
  · exact absurd h h'
  · have e := hq.eq hq'
    subst e
    rcases h2 with ⟨g, rfl, rfl⟩ | ⟨g, rfl, rfl⟩ <;> rcases h2' with ⟨g', rfl, rfl⟩ | ⟨g', rfl, rfl⟩
    · exact ⟨rfl, rfl⟩
    · exact absurd g g'
    · exact absurd g' g
    · exact ⟨rfl, rfl⟩
theorem modAns.size {l : List ScopeD} {nm : ByteArray} {r : Int} {b : Bool} (h : modAns l nm r b) : 0 ≤ r ∧ r ≤ l.length := by
  rcases h with ⟨h, rfl, rfl⟩ | ⟨h, q, hq, ⟨_, rfl, _⟩ | ⟨h2, rfl, _⟩⟩
  · omega
  · omega
  · rcases hq with ⟨i, hi, rfl, _⟩ | ⟨rfl, _⟩ <;> omega

set_option maxHeartbeats 8000000 in
theorem sModAt (a : Option Addr) (c : Nat) (l : List ScopeD) (nm : ByteArray) (w : World) (hl : l.length ≤ 1048576) (hc : l.length ≤ c) (hc2 : c ≤ maxLen) (hK : ∀ s ∈ l, ScopeK s) (hr : Rows scopeE Any w a l) :
    Calls Tryz.prog 21 #[.slice a l.length c, .string nm] w fun e w' => ∃ (r : Int) (b : Bool), e = .returned (.tuple #[.int .i64 r, .bool b]) ∧ modAns l nm r b ∧ Below w.heap.size w w' := by
  have hg := sl6Mods a c l w hl hc hc2 hK hr
  have Hr := Lib.hid hr
  clear hr hK
  go_enter Tryz.func21, Tryz.ntmps21
  by_cases p1 : modsP l
  · rw [modsB_true p1] at hg
    have Hg := Lib.hid hg
    have P1 := Lib.hid p1
    clear hg p1
    go_wp2_with fail
    refine Hg.out.mono ?_
    rintro e w1 ⟨rfl, hb1⟩
    have B1 := Lib.hid hb1
    clear hb1 Hg
    go_wp2_with fail
    refine (sl6Mod a c l nm w1 hl (Hr.out.below B1.out)).mono ?_
    rintro e w2 ⟨q, rfl, hat, hb2⟩
    have B2 := Lib.hid (B1.out.trans (hb2.mono B1.out.size))
    have Hat := Lib.hid hat
    clear hb2 hat
    by_cases p2 : q < 0
    · have Hv := Lib.hid (show modAns l nm 0 false from .inr ⟨P1.out, q, Hat.out, .inl ⟨p2, rfl, rfl⟩⟩)
      go_wp2_with fail
      go_ret2
      exact ⟨_, _, rfl, Hv.out, B2.out⟩
    · have Hv := Lib.hid (show modAns l nm q true from .inr ⟨P1.out, q, Hat.out, .inr ⟨p2, rfl, rfl⟩⟩)
      go_wp2_with fail
      refine (sl6Mod a c l nm w2 hl (Hr.out.below B2.out)).mono ?_
      rintro e w3 ⟨q', rfl, hat, hb3⟩
      obtain rfl := Hat.out.eq hat
      have B3 := Lib.hid (B2.out.trans (hb3.mono B2.out.size))
      clear hb3 hat
      go_wp2_with fail
      go_ret2
      exact ⟨_, _, rfl, Hv.out, B3.out⟩
  · have Hv := Lib.hid (show modAns l nm 0 false from .inl ⟨p1, rfl, rfl⟩)
    rw [modsB_false p1] at hg
    have Hg := Lib.hid hg
    clear hg p1
    go_wp2_with fail
    refine Hg.out.mono ?_
    rintro e w1 ⟨rfl, hb1⟩
    have B1 := Lib.hid hb1
    clear hb1
    go_wp2_with fail
    go_ret2
    exact ⟨_, _, rfl, Hv.out, B1.out⟩

set_option maxHeartbeats 4000000 in
theorem iModClo (t : ScopeD) (a1 a2 a3 a4 : Option Addr) (c1 c2 c3 c4 : Nat) (nm : ByteArray) (g : Nat) (q : Bool) (w : World) (hg : Box w g 9 #[.string nm]) (hq : (t.fName.toList == nm.toList) = q) :
    Calls Tryz.prog 97 #[.agg (scopeC t a1 a2 a3 a4 c1 c2 c3 c4), .pointer (some ⟨g, 0, none⟩)] w fun e w' => e = .returned (.bool q) ∧ Below w.heap.size w w' := by
  have B0 := Lib.hid ((Below.refl w.heap.size w).alloc (Nat.le_refl _) (.cells (scopeC t a1 a2 a3 a4 c1 c2 c3 c4) 33))
  have x0 : _ = some (Value.string t.fName) := (Box.new w 33 (scopeC t a1 a2 a3 a4 c1 c2 c3 c4)).cell 0
  have g0 : _ = some (Value.string nm) := (hg.below B0.out hg.lt).cell 0
  clear hg
  go_enter Tryz.func97, Tryz.ntmps97
  go_wp2_with fail
  go_ret
  exact ⟨rfl, B0.out⟩

set_option maxHeartbeats 8000000 in
theorem iIndexMod (a : Option Addr) (c : Nat) (l : List ScopeD) (nm : ByteArray) (g : Nat) (w : World) (hl : l.length ≤ 1048576) (hr : Rows scopeE Any w a l) (hg : Box w g 9 #[.string nm]) :
    Calls Tryz.prog 96 #[.slice a l.length c, .func (.func 97) #[] #[.pointer (some ⟨g, 0, none⟩)]] w fun e w' => ∃ r : Int, e = .returned (.int .i64 r) ∧ isMod l nm r ∧ Below w.heap.size w w' := by
  have Hr := Lib.hid hr
  have G := Lib.hid hg
  clear hr hg
  go_enter Tryz.func96, Tryz.ntmps96
  go_wp2_with fail
  go_loopw [8] (fun i wr => ∃ k : Nat, i = .int .i64 k ∧ k ≤ l.length ∧ (∀ i (hi : i < l.length), i < k → l[i].fName ≠ nm) ∧ Below w.heap.size w wr) (fun i _ => l.length - (intOf i).toNat)
  case atStart => exact ⟨0, rfl, by omega, fun _ _ h => absurd h (by omega), Below.refl _ _⟩
  case round =>
    obtain ⟨k, rfl, hk, hno, hbel⟩ := hrel
    have Hno := Lib.hid hno
    have Hbel := Lib.hid hbel
    clear hno
    by_cases hlt : k < l.length
    · obtain ⟨b, o, a1, a2, a3, a4, hba, hb1, e0, e1, e2, e3, e4, _⟩ := scopeE_at Hr.out hlt hbel
      subst hba
      have G2 := Lib.hid (G.out.below hbel G.out.lt)
      have Hyes := Lib.hid (show l[k].fName = nm → isMod l nm (k : Int) from fun h => .inl ⟨k, hlt, rfl, h, Hno.out⟩)
      have Hnx := Lib.hid (show l[k].fName ≠ nm → ∀ i (hi : i < l.length), i < k + 1 → l[i].fName ≠ nm from fun h i hi hik => by
        by_cases e : i = k
        · subst e; exact h
        · exact Hno.out i hi (by omega))
      clear hbel
      generalize l[k] = t at *
      by_cases hnm : t.fName = nm
      · have hq := bytes_same t.fName nm true (by simp [hnm])
        have Hv := Lib.hid (Hyes.out hnm)
        have Hq := Lib.hid hq
        clear hnm hq
        go_wp2_with fail
        refine (iModClo t a1 a2 a3 a4 _ _ _ _ nm g true _ G2.out Hq.out).mono ?_
        rintro e w1 ⟨rfl, hb⟩
        have B1 := Lib.hid (Hbel.out.trans (hb.mono Hbel.out.size))
        clear hb
        go_wp2_with fail
        go_ret
        exact ⟨_, rfl, Hv.out, B1.out⟩
      · have hq := bytes_same t.fName nm false (by simp [hnm])
        have Hv := Lib.hid (Hnx.out hnm)
        have Hq := Lib.hid hq
        clear hnm hq
        go_wp2_with fail
        refine (iModClo t a1 a2 a3 a4 _ _ _ _ nm g false _ G2.out Hq.out).mono ?_
        rintro e w1 ⟨rfl, hb⟩
        have B1 := Lib.hid (Hbel.out.trans (hb.mono Hbel.out.size))
        clear hb
        go_wp2_with fail
        exact ⟨⟨k + 1, by congr 1, by omega, Hv.out, B1.out⟩, by simp [intOf]; omega⟩
    · have hkf : k = l.length := by omega
      clear hbel
      go_wp2_with fail
      go_ret
      exact ⟨_, rfl, .inr ⟨rfl, fun i hi => Hno.out i hi (by omega)⟩, Hbel.out⟩

set_option maxHeartbeats 4000000 in
theorem iModNumber (a : Option Addr) (c : Nat) (l : List ScopeD) (nm : ByteArray) (w : World) (hl : l.length ≤ 1048576) (hr : Rows scopeE Any w a l) :
    Calls Tryz.prog 52 #[.slice a l.length c, .string nm] w fun e w' => ∃ r : Int, e = .returned (.int .i64 r) ∧ isMod l nm r ∧ Below w.heap.size w w' := by
  have B0 := Lib.hid ((Below.refl w.heap.size w).alloc (Nat.le_refl _) (.cells #[.string nm] 9))
  have Hi := Lib.hid (iIndexMod a c l nm w.heap.size _ hl (hr.below B0.out) (Box.new _ _ _))
  clear hr
  go_enter Tryz.func52, Tryz.ntmps52
  go_wp2_with fail
  refine Hi.out.mono ?_
  rintro e w1 ⟨r, rfl, hat, hb1⟩
  have B1 := Lib.hid (B0.out.trans (hb1.mono B0.out.size))
  have Hat := Lib.hid hat
  clear hat hb1
  go_wp2_with fail
  go_ret
  exact ⟨_, rfl, Hat.out, B1.out⟩

set_option maxHeartbeats 8000000 in
theorem iModAt (a : Option Addr) (c : Nat) (l : List ScopeD) (nm : ByteArray) (w : World) (hl : l.length ≤ 1048576) (hK : ∀ s ∈ l, ScopeK s) (hr : Rows scopeE Any w a l) :
    Calls Tryz.prog 22 #[.slice a l.length c, .string nm] w fun e w' => ∃ (r : Int) (b : Bool), e = .returned (.tuple #[.int .i64 r, .bool b]) ∧ modAns l nm r b ∧ Below w.heap.size w w' := by
  have hg := iGoodMods a c l w hl hK hr
  have Hr := Lib.hid hr
  clear hr hK
  go_enter Tryz.func22, Tryz.ntmps22
  by_cases p1 : modsP l
  · rw [modsB_true p1] at hg
    have Hg := Lib.hid hg
    have P1 := Lib.hid p1
    clear hg p1
    go_wp2_with fail
    refine Hg.out.mono ?_
    rintro e w1 ⟨rfl, hb1⟩
    have B1 := Lib.hid hb1
    clear hb1 Hg
    go_wp2_with fail
    refine (iModNumber a c l nm w1 hl (Hr.out.below B1.out)).mono ?_
    rintro e w2 ⟨q, rfl, hat, hb2⟩
    have B2 := Lib.hid (B1.out.trans (hb2.mono B1.out.size))
    have Hat := Lib.hid hat
    clear hb2 hat
    by_cases p2 : q < 0
    · have Hv := Lib.hid (show modAns l nm 0 false from .inr ⟨P1.out, q, Hat.out, .inl ⟨p2, rfl, rfl⟩⟩)
      go_wp2_with fail
      go_ret2
      exact ⟨_, _, rfl, Hv.out, B2.out⟩
    · have Hv := Lib.hid (show modAns l nm q true from .inr ⟨P1.out, q, Hat.out, .inr ⟨p2, rfl, rfl⟩⟩)
      go_wp2_with fail
      go_ret2
      exact ⟨_, _, rfl, Hv.out, B2.out⟩
  · have Hv := Lib.hid (show modAns l nm 0 false from .inl ⟨p1, rfl, rfl⟩)
    rw [modsB_false p1] at hg
    have Hg := Lib.hid hg
    clear hg p1
    go_wp2_with fail
    refine Hg.out.mono ?_
    rintro e w1 ⟨rfl, hb1⟩
    have B1 := Lib.hid hb1
    clear hb1
    go_wp2_with fail
    go_ret2
    exact ⟨_, _, rfl, Hv.out, B1.out⟩
theorem scopesA_wt {l : List ScopeD} (h : wtL ScopeD.wt l ≤ 1048576) : l.length ≤ 1048576 ∧ ∀ x ∈ l, x.wt ≤ 1048576 :=
  ⟨by unfold wtL at h; omega, fun x hx => by have := wt_mem ScopeD.wt hx; unfold wtL at h; omega⟩

-- shell: FnExactModAt
set_option maxHeartbeats 2000000 in
theorem law_FnExactModAt (a : Option Addr) (len cap : Nat) (l : List ScopeD) (nm : ByteArray) (w : World) (hin : CameIn scopeS ScopeD.came w a len l) (hnz : nm.size ≤ maxLen) :
    Calls Tryz.prog 6 #[.slice a len cap, .string nm] w fun e w' => e = .returned (.bool true) ∧ Below w.heap.size w w' := by
  obtain ⟨rfl, hl, hr, hc⟩ := hin
  have Hr := Lib.hid hr
  have Hc := Lib.hid hc
  clear hr hc
  unfold maxLen at hnz
  go_enter Tryz.func6, Tryz.ntmps6
  by_cases hbig : 1048576 < nm.size
  · have hbig2 : (1048576 : Int) < (nm.size : Int) := by omega
    go_wp2_with fail
    go_ret
    exact ⟨rfl, Below.refl _ _⟩
  have hbig2 : ¬ (1048576 : Int) < (nm.size : Int) := by omega
  go_wp2_with fail
  clear hbig hbig2
  refine (lSzScopeS a cap l _ 1048576 (by omega) (by omega) hl Hc.out Hr.out).mono ?_
  rintro e w1 ⟨r, rfl, hs, hb1⟩
  have B1 := Lib.hid hb1
  clear hb1
  rcases hs with rfl | ⟨h0, h1⟩
  · go_wp2_with fail
    go_ret
    exact ⟨rfl, B1.out⟩
  obtain ⟨hl2, ht⟩ := scopesA_wt (l := l) (by omega)
  have Ht := Lib.hid ht
  have HK := Lib.hid (show ∀ s ∈ l, ScopeK s from fun s hs => ScopeK.of (ht s hs))
  clear h1 ht
  go_wp2_with fail
  refine (lToScopeSB a cap l _ hl2 Ht.out (Hr.out.below B1.out)).mono ?_
  rintro e w2 ⟨rfl, hr2, _, _, hb2⟩
  have R2 := Lib.hid hr2.any
  have B2 := Lib.hid (B1.out.trans (hb2.mono B1.out.size))
  clear hr2 hb2
  go_wp2_with fail
  refine (sModAt _ _ l nm _ hl2 (Nat.le_refl _) hl HK.out R2.out).mono ?_
  rintro e w3 ⟨v, bo, rfl, hans, hb3⟩
  have An := Lib.hid hans
  have B3 := Lib.hid (B2.out.trans (hb3.mono B2.out.size))
  clear hb3 hans
  go_wp2_with fail
  refine (lToScopeSB a cap l _ hl2 Ht.out (Hr.out.below B3.out)).mono ?_
  rintro e w4 ⟨rfl, hr4, _, _, hb4⟩
  have R4 := Lib.hid hr4.any
  have B4 := Lib.hid (B3.out.trans (hb4.mono B3.out.size))
  clear hr4 hb4
  go_wp2_with fail
  refine (iModAt _ _ l nm _ hl2 HK.out R4.out).mono ?_
  rintro e w5 ⟨v', bo', rfl, hans, hb5⟩
  obtain ⟨rfl, rfl⟩ := An.out.eq hans
  have R5 := Lib.hid (R4.out.below hb5)
  have B5 := Lib.hid (B4.out.trans (hb5.mono B4.out.size))
  clear hb5 hans
  cases bo
  all_goals
    go_wp2_with fail
    refine (lToScopeSB a cap l _ hl2 Ht.out (Hr.out.below B5.out)).mono ?_
    rintro e w6 ⟨rfl, hr6, _, _, hb6⟩
    have R6 := Lib.hid hr6.any
    have R5' := Lib.hid (R5.out.below hb6)
    have B6 := Lib.hid (B5.out.trans (hb6.mono B5.out.size))
    clear hr6 hb6
    go_wp2_with fail
    refine (lEqScopeS _ _ _ _ l _ hl2 Ht.out R5'.out R6.out).mono ?_
    rintro e w7 ⟨rfl, hb7⟩
    go_wp2_with fail
    go_ret
    exact ⟨rfl, B6.out.trans (hb7.mono B6.out.size)⟩
end Go.Proofs.YtbpbebhnledgnaaGreat
