
/-
  What is proved: contracts of GoodTokens of the program and of its model. No condition beside what each theorem states.
-/
import Derived.Test.YtggpecddhileoaaDoorOne3
import Derived.Test.YtggpecddhileoaaDoorStToken
namespace Go.Proofs.YtggpecddhileoaaDoor
open Go.ChangeShapes Go.WideShapes Go.ChangeAt Go.RowKit

def goodTok (t : TokenD) : Prop := tokF t.fText = some (t.fKind, t.fValue)
def goodToks (l : List TokenD) : Prop := l.length ≤ 300 ∧ ∀ t ∈ l, goodTok t
open Classical in
noncomputable def goodToksB (l : List TokenD) : Bool := decide (goodToks l)
theorem goodToksB_true {l : List TokenD} (h : goodToks l) : goodToksB l = true := by unfold goodToksB; simpa using h
theorem goodToksB_false {l : List TokenD} (h : ¬ goodToks l) : goodToksB l = false := by unfold goodToksB; simpa using h
theorem goodToks_not {l : List TokenD} {k : Nat} (h : k < l.length) (hn : ¬ goodTok l[k]) : goodToksB l = false := goodToksB_false fun hg => hn (hg.2 _ (List.getElem_mem h))
theorem tokF_empty {s : ByteArray} (h : s.size = 0) : tokF s = none := by
  cases ht : tokF s with
  | none => rfl
  | some x =>
    have := (tokF_piece ht).1
    omega
theorem goodToks_all {l : List TokenD} (h : l.length ≤ 300) (ha : ∀ j (hj : j < l.length), goodTok l[j]) : goodToksB l = true := goodToksB_true ⟨h, fun t ht => by
  obtain ⟨j, hj, rfl⟩ := List.mem_iff_getElem.1 ht
  exact ha j hj⟩
theorem isEmpty_of {s : ByteArray} (h : s.size = 0) : s.toList.isEmpty = true := by
  rw [ByteArray.toList_eq]
  have h2 : s.data.toList.length = 0 := by simpa using h
  exact List.isEmpty_iff.2 (List.length_eq_zero_iff.1 h2)
theorem isEmpty_not {s : ByteArray} (h : s.size ≠ 0) : s.toList.isEmpty = false := by
  rw [ByteArray.toList_eq]
  cases hh : s.data.toList.isEmpty
  · rfl
  · exact absurd (show s.size = 0 by have h2 := congrArg List.length (List.isEmpty_iff.1 hh); simpa using h2) h

set_option maxRecDepth 100000 in
set_option maxHeartbeats 4000000 in
theorem sl2Good (a : Option Addr) (c : Nat) (l : List TokenD) (w : World) (hl : l.length ≤ 1048576) (hs : ∀ t ∈ l, t.fText.size ≤ 2000000) (hr : Rows tokenS Any w a l) :
    Calls Tryd.prog 41 #[.slice a l.length c] w fun e w' => e = .returned (.bool (goodToksB l)) ∧ Below w.heap.size w w' := by
  have Hr := Lib.hid hr
  have Hs := Lib.hid hs
  clear hr hs
  go_enter Tryd.func41, Tryd.ntmps41
  go_wp2_with fail
  go_loopw [9] (fun i wr => ∃ k : Nat, i = .int .i64 k ∧ k ≤ l.length ∧ (∀ j (hj : j < l.length), j < k → goodTok l[j]) ∧ Below w.heap.size w wr) (fun i _ => l.length - (intOf i).toNat)
  case atStart => exact ⟨0, rfl, by omega, fun j _ h => absurd h (by omega), Below.refl _ _⟩
  case round =>
    obtain ⟨k, rfl, hk, hall, hbel⟩ := hrel
    have Hall := Lib.hid hall
    clear hall
    by_cases hlt : k < l.length
    · obtain ⟨b, o, cs, rfl, _, hb1, hc1, hat⟩ := Hr.out k hlt
      obtain rfl : cs = [.int .i64 l[k].fKind, .string l[k].fText, .int .i64 l[k].fValue, .int .i64 l[k].fAt] := hat
      have hn : tokenS.n = 4 := rfl
      have e0 := (hbel.cell (p := ⟨b, o + k * 4 + 0, none⟩) hb1).trans (hc1 0 (by decide))
      have e1 := (hbel.cell (p := ⟨b, o + k * 4 + 1, none⟩) hb1).trans (hc1 1 (by decide))
      have e2 := (hbel.cell (p := ⟨b, o + k * 4 + 2, none⟩) hb1).trans (hc1 2 (by decide))
      have e3 := (hbel.cell (p := ⟨b, o + k * 4 + 3, none⟩) hb1).trans (hc1 3 (by decide))
      simp at e0 e1 e2 e3
      have Hbel := Lib.hid hbel
      have Hnot := Lib.hid (goodToks_not hlt)
      have hsz := Hs.out l[k] (List.getElem_mem hlt)
      have Hnext := Lib.hid (show goodTok l[k] → ∀ j (hj : j < l.length), j < k + 1 → goodTok l[j] from fun h j hj hjk => by
        by_cases e : j = k
        · subst e; exact h
        · exact Hall.out j hj (by omega))
      clear hbel hc1
      have Hgd : Hid (goodTok l[k] ↔ tokF l[k].fText = some (l[k].fKind, l[k].fValue)) := Lib.hid Iff.rfl
      generalize goodTok l[k] = gd at *
      generalize l[k] = t at *
      by_cases hz : t.fText.size = 0
      · have he := isEmpty_of hz
        have Hf := Lib.hid (Hnot.out (fun h => by rw [Hgd.out, tokF_empty hz] at h; cases h))
        go_wp2_with fail
        go_ret
        exact ⟨by rw [Hf.out]; rfl, Hbel.out.alloc Hbel.out.size _⟩
      · have he := isEmpty_not hz
        go_wp2_with fail
        refine (sOne_whole t.fText _ hsz (by omega)).mono ?_
        rintro e w1 ⟨hw1, hans⟩
        have hB := (Box.new wr 33 #[.int .i64 t.fKind, .string t.fText, .int .i64 t.fValue, .int .i64 t.fAt]).below hw1 (by simp)
        have HBel := Lib.hid ((Hbel.out.alloc Hbel.out.size _).trans (hw1.mono (Hbel.out.alloc Hbel.out.size _).size))
        have c0 := hB.cell 0
        have c1 := hB.cell 1
        have c2 := hB.cell 2
        have l1 : wr.heap.size < w1.heap.size := hB.lt
        have l2 : wr.heap.size ≠ w1.heap.size := by omega
        simp at c0 c1 c2
        clear hw1 hB
        rcases hans with ⟨x, v, ht, rfl⟩ | ⟨ht, ⟨x, p, v, hne, rfl⟩ | ⟨a1, a2, a3, a4, y, hy, rfl⟩⟩
        · have hb := bytes_beq t.fText t.fText true (by simp)
          have Ht := Lib.hid ht
          clear ht
          by_cases hx : x = t.fKind
          · by_cases hv : v = t.fValue
            · have Hn := Lib.hid (Hnext.out (Hgd.out.2 (by rw [Ht.out, hx, hv])))
              have d1 : (x == t.fKind) = true := by simpa using hx
              have d2 : (v == t.fValue) = true := by simpa using hv
              go_wp2_with fail
              exact ⟨⟨k + 1, by congr 1, by omega, Hn.out, HBel.out.alloc HBel.out.size _⟩, by simp [intOf]; omega⟩
            · have Hf := Lib.hid (Hnot.out (fun h => by rw [Hgd.out, Ht.out] at h; injection h with h; injection h with h1 h2; exact hv h2))
              have d1 : (x == t.fKind) = true := by simpa using hx
              have d2 : (v == t.fValue) = false := by simpa using hv
              go_wp2_with fail
              go_ret
              exact ⟨by rw [Hf.out]; rfl, HBel.out.alloc HBel.out.size _⟩
          · have Hf := Lib.hid (Hnot.out (fun h => by rw [Hgd.out, Ht.out] at h; injection h with h; injection h with h1 h2; exact hx h1))
            have d1 : (x == t.fKind) = false := by simpa using hx
            go_wp2_with fail
            go_ret
            exact ⟨by rw [Hf.out]; rfl, HBel.out.alloc HBel.out.size _⟩
        · have Hf := Lib.hid (Hnot.out (fun h => by rw [Hgd.out, ht] at h; cases h))
          have hb := bytes_beq p t.fText false (by simp [hne])
          clear ht hne
          go_wp2_with fail
          go_ret
          exact ⟨by rw [Hf.out]; rfl, HBel.out.alloc HBel.out.size _⟩
        · have Hf := Lib.hid (Hnot.out (fun h => by rw [Hgd.out, ht] at h; cases h))
          clear ht
          go_wp2_with fail
          go_ret
          exact ⟨by rw [Hf.out]; rfl, HBel.out.alloc HBel.out.size _⟩
    · obtain rfl : k = l.length := by omega
      have Hbel := Lib.hid hbel
      clear hbel
      by_cases h3 : l.length ≤ 300
      · have Ht := Lib.hid (goodToks_all h3 (fun j hj => Hall.out j hj hj))
        have d : decide ((l.length : Int) ≤ 300) = true := decide_eq_true (by omega)
        go_wp2_with fail
        go_ret
        exact ⟨by rw [Ht.out]; rfl, Hbel.out⟩
      · have Ht := Lib.hid (goodToksB_false (l := l) (fun h => h3 h.1))
        have d : decide ((l.length : Int) ≤ 300) = false := decide_eq_false (by omega)
        go_wp2_with fail
        go_ret
        exact ⟨by rw [Ht.out]; rfl, Hbel.out⟩

theorem sGoodToks (a : Option Addr) (c : Nat) (l : List TokenD) (w : World) (hl : l.length ≤ 1048576) (hs : ∀ t ∈ l, t.fText.size ≤ 2000000) (hr : Rows tokenS Any w a l) :
    Calls Tryd.prog 19 #[.slice a l.length c] w fun e w' => e = .returned (.bool (goodToksB l)) ∧ Below w.heap.size w w' := by
  have Hr := Lib.hid hr
  have Hs := Lib.hid hs
  clear hr hs
  go_enter Tryd.func19, Tryd.ntmps19
  go_wp2_with fail
  refine (sl2Good a c l _ hl Hs.out Hr.out).mono ?_
  rintro e w1 ⟨rfl, hw1⟩
  go_wp2_with fail
  go_ret
  exact ⟨rfl, hw1⟩

set_option maxRecDepth 100000 in
set_option maxHeartbeats 4000000 in
theorem iGoodToks (a : Option Addr) (c : Nat) (l : List TokenD) (w : World) (hl : l.length ≤ 1048576) (hs : ∀ t ∈ l, t.fText.size ≤ 2000000) (hr : Rows tokenS Any w a l) (hk : Kept w) :
    Calls Tryd.prog 13 #[.slice a l.length c] w fun e w' => e = .returned (.bool (goodToksB l)) ∧ Below w.heap.size w w' := by
  have Hr := Lib.hid hr
  have Hs := Lib.hid hs
  have HK := Lib.hid hk
  clear hr hs hk
  go_enter Tryd.func13, Tryd.ntmps13
  by_cases h3 : 300 < l.length
  · have Ht := Lib.hid (goodToksB_false (l := l) (fun h => by have := h.1; omega))
    go_wp2_with fail
    go_ret
    exact ⟨by rw [Ht.out]; rfl, Below.refl _ _⟩
  go_wp2_with fail
  go_loopw [12] (fun i wr => ∃ k : Nat, i = .int .i64 k ∧ k ≤ l.length ∧ (∀ j (hj : j < l.length), j < k → goodTok l[j]) ∧ Below w.heap.size w wr) (fun i _ => l.length - (intOf i).toNat)
  case atStart => exact ⟨0, rfl, by omega, fun j _ h => absurd h (by omega), Below.refl _ _⟩
  case round =>
    obtain ⟨k, rfl, hk, hall, hbel⟩ := hrel
    have Hall := Lib.hid hall
    clear hall
    by_cases hlt : k < l.length
    · obtain ⟨b, o, cs, rfl, _, hb1, hc1, hat⟩ := Hr.out k hlt
      obtain rfl : cs = [.int .i64 l[k].fKind, .string l[k].fText, .int .i64 l[k].fValue, .int .i64 l[k].fAt] := hat
      have hn : tokenS.n = 4 := rfl
      have e0 := (hbel.cell (p := ⟨b, o + k * 4 + 0, none⟩) hb1).trans (hc1 0 (by decide))
      have e1 := (hbel.cell (p := ⟨b, o + k * 4 + 1, none⟩) hb1).trans (hc1 1 (by decide))
      have e2 := (hbel.cell (p := ⟨b, o + k * 4 + 2, none⟩) hb1).trans (hc1 2 (by decide))
      have e3 := (hbel.cell (p := ⟨b, o + k * 4 + 3, none⟩) hb1).trans (hc1 3 (by decide))
      simp at e0 e1 e2 e3
      have Hbel := Lib.hid hbel
      have Hnot := Lib.hid (goodToks_not hlt)
      have hsz := Hs.out l[k] (List.getElem_mem hlt)
      have Hnext := Lib.hid (show goodTok l[k] → ∀ j (hj : j < l.length), j < k + 1 → goodTok l[j] from fun h j hj hjk => by
        by_cases e : j = k
        · subst e; exact h
        · exact Hall.out j hj (by omega))
      clear hbel hc1
      have Hgd : Hid (goodTok l[k] ↔ tokF l[k].fText = some (l[k].fKind, l[k].fValue)) := Lib.hid Iff.rfl
      generalize goodTok l[k] = gd at *
      generalize l[k] = t at *
      go_wp2_with fail
      refine (iTokenOf t.fText _ (by unfold maxLen; omega) ?_).mono ?_
      · exact (HK.out.below Hbel.out).below ((Below.refl _ _).alloc (Nat.le_refl _) _)
      rintro e w1 ⟨hans, hw1⟩
      have hB := (Box.new wr 33 #[.int .i64 t.fKind, .string t.fText, .int .i64 t.fValue, .int .i64 0]).below hw1 (by simp)
      have HBel := Lib.hid ((Hbel.out.alloc Hbel.out.size _).trans (hw1.mono (Hbel.out.alloc Hbel.out.size _).size))
      have c0 := hB.cell 0
      have c1 := hB.cell 1
      have c2 := hB.cell 2
      have c3 := hB.cell 3
      have l1 : wr.heap.size < w1.heap.size := hB.lt
      have l2 : wr.heap.size ≠ w1.heap.size := by omega
      simp at c0 c1 c2 c3
      clear hw1 hB
      rcases hans with ⟨x, v, ht, rfl⟩ | ⟨ht, rfl⟩
      · have Ht := Lib.hid ht
        clear ht
        by_cases hx : x = t.fKind
        · by_cases hv : v = t.fValue
          · have Hn := Lib.hid (Hnext.out (Hgd.out.2 (by rw [Ht.out, hx, hv])))
            go_wp2_with fail
            exact ⟨⟨k + 1, by congr 1, by omega, Hn.out, HBel.out.alloc HBel.out.size _⟩, by simp [intOf]; omega⟩
          · have Hf := Lib.hid (Hnot.out (fun h => by rw [Hgd.out, Ht.out] at h; injection h with h; injection h with h1 h2; exact hv h2))
            go_wp2_with fail
            go_ret
            exact ⟨by rw [Hf.out]; rfl, HBel.out.alloc HBel.out.size _⟩
        · have Hf := Lib.hid (Hnot.out (fun h => by rw [Hgd.out, Ht.out] at h; injection h with h; injection h with h1 h2; exact hx h1))
          go_wp2_with fail
          go_ret
          exact ⟨by rw [Hf.out]; rfl, HBel.out.alloc HBel.out.size _⟩
      · have Hf := Lib.hid (Hnot.out (fun h => by rw [Hgd.out, ht] at h; cases h))
        clear ht
        go_wp2_with fail
        go_ret
        exact ⟨by rw [Hf.out]; rfl, HBel.out.alloc HBel.out.size _⟩
    · obtain rfl : k = l.length := by omega
      have Hbel := Lib.hid hbel
      have Ht := Lib.hid (goodToks_all (by omega) (fun j hj => Hall.out j hj hj))
      clear hbel
      go_wp2_with fail
      go_ret
      exact ⟨by rw [Ht.out]; rfl, Hbel.out⟩

theorem token_wt {l : List TokenD} (h : wtL TokenD.wt l ≤ 1048576) : l.length ≤ 1048576 ∧ ∀ t ∈ l, t.fText.size ≤ 2000000 := by
  unfold wtL at h
  refine ⟨by omega, fun t ht => ?_⟩
  have := wt_mem TokenD.wt ht
  unfold TokenD.wt at this h
  omega

-- shell: FnExactGoodTokens
set_option maxHeartbeats 2000000 in
theorem law_FnExactGoodTokens (a : Option Addr) (len cap : Nat) (l : List TokenD) (w : World) (hin : CameIn tokenS TokenD.came w a len l) (hk : Kept w) :
    Calls Tryd.prog 6 #[.slice a len cap] w fun e w' => e = .returned (.bool true) ∧ Below w.heap.size w w' := by
  obtain ⟨rfl, hl, hr, hc⟩ := hin
  have Hr := Lib.hid hr
  have Hc := Lib.hid hc
  have HK := Lib.hid hk
  clear hr hc hk
  go_enter Tryd.func6, Tryd.ntmps6
  go_wp2_with fail
  refine (lSzTokenS a cap l _ 1048576 (by omega) (by omega) hl Hc.out Hr.out).mono ?_
  rintro e w1 ⟨r, rfl, hs, hb1⟩
  have B1 := Lib.hid hb1
  clear hb1
  rcases hs with rfl | ⟨h0, h1⟩
  · go_wp2_with fail
    go_ret
    exact ⟨rfl, B1.out⟩
  obtain ⟨hl2, hs⟩ := token_wt (l := l) (by omega)
  have Hs := Lib.hid hs
  clear h1 hs
  go_wp2_with fail
  refine (lToTokenS a cap l _ hl2 (Hr.out.below B1.out)).mono ?_
  rintro e w2 ⟨rfl, hr2, hb2⟩
  have R2 := Lib.hid hr2.any
  have B2 := Lib.hid (B1.out.trans (hb2.mono B1.out.size))
  clear hr2 hb2
  go_wp2_with fail
  refine (sGoodToks _ _ l _ hl2 Hs.out R2.out).mono ?_
  rintro e w3 ⟨rfl, hb3⟩
  have B3 := Lib.hid (B2.out.trans (hb3.mono B2.out.size))
  clear hb3
  go_wp2_with fail
  refine (lToTokenS a cap l _ hl2 (Hr.out.below B3.out)).mono ?_
  rintro e w4 ⟨rfl, hr4, hb4⟩
  have R4 := Lib.hid hr4.any
  have B4 := Lib.hid (B3.out.trans (hb4.mono B3.out.size))
  clear hr4 hb4
  go_wp2_with fail
  refine (iGoodToks _ _ l _ hl2 Hs.out R4.out (HK.out.below B4.out)).mono ?_
  rintro e w5 ⟨rfl, hb5⟩
  have R5 := Lib.hid (R4.out.below hb5)
  have B5 := Lib.hid (B4.out.trans (hb5.mono B4.out.size))
  clear hb5
  generalize goodToksB l = q at *
  cases q
  all_goals
    go_wp2_with fail
    refine (lToTokenS a cap l _ hl2 (Hr.out.below B5.out)).mono ?_
    rintro e w6 ⟨rfl, hr6, hb6⟩
    have R6 := Lib.hid hr6.any
    have R5' := Lib.hid (R5.out.below hb6)
    have B6 := Lib.hid (B5.out.trans (hb6.mono B5.out.size))
    clear hr6 hb6
    go_wp2_with fail
    refine (lEqTokenS _ _ _ _ l _ hl2 R5'.out R6.out).mono ?_
    rintro e w7 ⟨rfl, hb7⟩
    go_wp2_with fail
    go_ret
    exact ⟨rfl, B6.out.trans (hb7.mono B6.out.size)⟩

end Go.Proofs.YtggpecddhileoaaDoor
