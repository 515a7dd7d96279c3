
/-
  What is proved: contracts of UsesOf, the model's and the program's. No condition beside what each theorem states.
-/
import Derived.Test.YtjbnabjfeepbeaaOpenScope
import Derived.Test.YtjbnabjfeepbeaaStrClone
import Derived.Deep.RegionHeld3
namespace Go.Proofs.Ytjbnabjfeepbeaa
open Go.ChangeShapes Go.WideShapes Go.ChangeAt Go.RowKit
set_option maxRecDepth 100000

/-- The names that are used of one module. -/
def usesL (md : ByteArray) (us : List UseD) : List ByteArray := (us.filter (fun u => decide (u.fMod = md))).map UseD.fName
theorem uses_yes {md : ByteArray} {us : List UseD} {k : Nat} (hk : k < us.length) (h : us[k].fMod = md) : usesL md (us.take (k + 1)) = usesL md (us.take k) ++ [us[k].fName] := by
  unfold usesL
  rw [List.take_succ_eq_append_getElem hk, List.filter_append, List.map_append]
  simp [h]
theorem uses_no {md : ByteArray} {us : List UseD} {k : Nat} (hk : k < us.length) (h : ¬ us[k].fMod = md) : usesL md (us.take (k + 1)) = usesL md (us.take k) := by
  unfold usesL
  rw [List.take_succ_eq_append_getElem hk, List.filter_append, List.map_append]
  simp [h]
theorem uses_len {md : ByteArray} {us : List UseD} {k : Nat} : (usesL md (us.take k)).length ≤ k := by
  unfold usesL
  rw [List.length_map]
  have h := List.length_filter_le (fun u : UseD => decide (u.fMod = md)) (us.take k)
  have h2 : (us.take k).length ≤ k := by simp; omega
  exact Nat.le_trans h h2
def usesP (s : ScopeD) (md : ByteArray) : Prop := scopeP s ∧ nameP md
/-- What is told of a call of UsesOf. -/
def PostUO (s : ScopeD) (md : ByteArray) (w : World) (e : Ending) (w' : World) : Prop := ∃ (v : Value) (l : List ByteArray) (ok : Bool), e = .returned (.tuple #[v, .bool ok]) ∧ OwnStrs w' w.heap.size v l ∧ ((usesP s md ∧ l = usesL md s.fUses ∧ ok = true) ∨ (¬ usesP s md ∧ l = [] ∧ ok = false)) ∧ Below w.heap.size w w'

set_option maxHeartbeats 8000000 in
theorem sUsesOf (s : ScopeD) (md : ByteArray) (a1 a2 a3 a4 : Option Addr) (c1 c2 c3 c4 : Nat) (w : World) (hmd : md.size ≤ maxLen) (hm : ScopeM w a1 a2 a3 a4 c1 c2 c3 c4 s) :
    Calls Try.prog 37 #[.agg (scopeC s a1 a2 a3 a4 c1 c2 c3 c4), .string md] w (PostUO s md w) := by
  have B0 := Lib.hid ((Below.refl w.heap.size w).alloc (Nat.le_refl _) (.cells (scopeC s a1 a2 a3 a4 c1 c2 c3 c4) 69))
  have X0 := Lib.hid (scope_box w s a1 a2 a3 a4 c1 c2 c3 c4)
  have H := Lib.hid hm
  have hlo := hm.lu
  have hg := sl4Good s a1 a2 a3 a4 c1 c2 c3 c4 _ (hm.below B0.out)
  clear hm
  go_enter Try.func37, Try.ntmps37
  by_cases p1 : scopeP s
  · rw [scopeB_true p1] at hg
    have Hg := Lib.hid hg
    clear hg
    go_wp2_with fail
    refine Hg.out.mono ?_
    rintro e w1 ⟨rfl, hb1⟩
    have B1 := Lib.hid (B0.out.trans (hb1.mono B0.out.size))
    have X1 := Lib.hid (X0.out.below hb1 X0.out.lt)
    clear hb1 Hg
    by_cases p2 : nameP md
    · have P1 := Lib.hid (show usesP s md from ⟨p1, p2⟩)
      have hq := nameB_true p2
      clear p1 p2
      have x4 := X1.out.cell 4
      simp at x4
      go_wp2_with (go_at_call 97; refine (sl1Name _ _ hmd).mono ?_; rintro e w' ⟨rfl, rfl⟩)
      clear x4
      go_loopw [20, 6] (fun i x wr => ∃ (k : Nat) (v : Value), i = .int .i64 k ∧ x = v ∧ k ≤ s.fUses.length ∧ OwnStrs wr w.heap.size v (usesL md (s.fUses.take k)) ∧ Below w.heap.size w wr) (fun i _ _ => s.fUses.length - (intOf i).toNat)
      case atStart => exact ⟨0, _, rfl, rfl, by omega, by rw [List.take_zero]; exact OwnStrs.nil, B1.out⟩
      case round =>
        obtain ⟨k, v, rfl, rfl, hk, hown, hbel⟩ := hrel
        have Hown := Lib.hid hown
        clear hown
        by_cases hlt : k < s.fUses.length
        · obtain ⟨b, o, hba, hb1, e0, e1⟩ := use_at H.out.r.uses hlt hbel
          subst hba
          have hsz := hbel.size
          have Hbel := Lib.hid (hbel.alloc hbel.size (.cells #[.string s.fUses[k].fMod, .string s.fUses[k].fName] 130))
          have Hown2 := Lib.hid (Hown.out.alloc (.cells #[.string s.fUses[k].fMod, .string s.fUses[k].fName] 130))
          have Hy := Lib.hid (uses_yes (md := md) hlt)
          have Hn := Lib.hid (uses_no (md := md) hlt)
          have hlen : (usesL md (s.fUses.take k)).length ≤ k := uses_len
          clear hbel
          generalize s.fUses[k] = t at *
          by_cases hmk : t.fMod = md
          · have Hy2 := Lib.hid (Hy.out hmk)
            have q1 := bytes_same t.fMod md true (by simp [hmk])
            clear hmk
            go_wp2_with (at_builtin; refine wpList_pushStr rfl _ _ rfl w.heap.size _ _ (usesL md (s.fUses.take k)) rfl Hown2.out _ _ rfl (by simp) (by omega) (by simp; omega) ?_)
            intro v' w4 hown4 hg4 hlt4
            have B4 := Lib.hid (Hbel.out.grown hg4 (by simp; omega) (fun k hk => (hlt4 k hk).1))
            rw [← Hy2.out] at hown4
            have O4 := Lib.hid hown4
            clear hown4 hg4 hlt4
            go_wp2_with fail
            exact ⟨⟨k + 1, _, by congr 1, rfl, by omega, O4.out, B4.out⟩, by simp [intOf]; omega⟩
          · have Hn2 := Lib.hid (Hn.out hmk)
            have q1 := bytes_same t.fMod md false (by simp [hmk])
            clear hmk
            have O4 := Lib.hid (show OwnStrs _ w.heap.size _ (usesL md (s.fUses.take (k + 1))) by rw [Hn2.out]; exact Hown2.out)
            go_wp2_with fail
            exact ⟨⟨k + 1, _, by congr 1, rfl, by omega, O4.out, Hbel.out⟩, by simp [intOf]; omega⟩
        · have hown2 := Hown.out
          rw [show k = s.fUses.length by omega, List.take_length] at hown2
          have O2 := Lib.hid hown2
          have Hbel := Lib.hid hbel
          clear hbel hown2
          go_wp2_with fail
          go_ret2
          unfold PostUO
          exact ⟨_, _, true, rfl, O2.out, .inl ⟨P1.out, rfl, rfl⟩, Hbel.out⟩
    · have P1 := Lib.hid (show ¬ usesP s md from fun h => p2 h.2)
      have hq := nameB_false p2
      clear p1 p2
      go_wp2_with (go_at_call 97; refine (sl1Name _ _ hmd).mono ?_; rintro e w' ⟨rfl, rfl⟩)
      go_ret2
      unfold PostUO
      exact ⟨_, [], false, rfl, OwnStrs.nil, .inr ⟨P1.out, rfl, rfl⟩, B1.out⟩
  · have P1 := Lib.hid (show ¬ usesP s md from fun h => p1 h.1)
    rw [scopeB_false p1] at hg
    have Hg := Lib.hid hg
    clear hg p1
    go_wp2_with fail
    refine Hg.out.mono ?_
    rintro e w1 ⟨rfl, hb1⟩
    have B1 := Lib.hid (B0.out.trans (hb1.mono B0.out.size))
    clear hb1
    go_wp2_with fail
    go_ret2
    unfold PostUO
    exact ⟨_, [], false, rfl, OwnStrs.nil, .inr ⟨P1.out, rfl, rfl⟩, B1.out⟩

set_option maxHeartbeats 8000000 in
theorem iUsesClo (t : UseD) (md : ByteArray) (g : Nat) (q : Bool) (w : World) (hn : t.fName.size ≤ 1048576) (hg : Box w g 9 #[.string md]) (hq : (t.fMod.toList == md.toList) = q) :
    Calls Try.prog 105 #[.agg #[.string t.fMod, .string t.fName], .pointer (some ⟨g, 0, none⟩)] w fun e w' => e = .returned (.tuple #[.string t.fName, .bool q]) ∧ Below w.heap.size w w' := by
  have B0 := Lib.hid ((Below.refl w.heap.size w).alloc (Nat.le_refl _) (.cells #[.string t.fMod, .string t.fName] 130))
  have X0 := (Box.new w 130 #[.string t.fMod, .string t.fName])
  have G0 := hg.below ((Below.refl w.heap.size w).alloc (Nat.le_refl _) (.cells #[.string t.fMod, .string t.fName] 130)) hg.lt
  have x0 : _ = some (Value.string t.fMod) := X0.cell 0
  have x1 : _ = some (Value.string t.fName) := X0.cell 1
  have g0 : _ = some (Value.string md) := G0.cell 0
  have hgl := G0.lt
  have hbq := B0.out.size
  have hxl := X0.lt
  clear X0 G0 hg
  go_enter Try.func105, Try.ntmps105
  go_wp2_with fail
  generalize w.alloc (.cells #[.string t.fMod, .string t.fName] 130) = wq at *
  go_region_held3 (fun w' => w'.cell? ⟨w.heap.size, 0, none⟩ = some (.string t.fMod) ∧ w'.cell? ⟨w.heap.size, 1, none⟩ = some (.string t.fName) ∧ w'.cell? ⟨g, 0, none⟩ = some (.string md))
    (first
      | exact ⟨y0, y1, k0⟩
      | exact ⟨x0, x1, g0⟩
      | go_keep)
    (first
      | (go_at_call 106; refine (iStrClone _ _ hn).mono ?_; rintro e wc ⟨rfl, hbc⟩; have hbd : Below wq.heap.size wq wc := ⟨hbc.os, hbc.tape, hbc.output, hbc.size, hbc.block⟩; have y0 := (hbd.cell (p := ⟨w.heap.size, 0, none⟩) hxl).trans x0; have y1 := (hbd.cell (p := ⟨w.heap.size, 1, none⟩) hxl).trans x1; have k0 := (hbd.cell (p := ⟨g, 0, none⟩) hgl).trans g0; have BC := Lib.hid (B0.out.trans (hbd.mono hbq)); clear hbd hbc)
      | fail)
  go_wp2_with fail
  go_ret2
  exact ⟨rfl, BC.out⟩

set_option maxHeartbeats 8000000 in
theorem iGatherUses (us : List UseD) (md : ByteArray) (a : Option Addr) (c g : Nat) (w : World) (hl : us.length ≤ 1048576) (hn : ∀ u ∈ us, u.fName.size ≤ 1048576) (hr : Rows useS Any w a us) (hg : Box w g 9 #[.string md]) :
    Calls Try.prog 104 #[.slice a us.length c, .func (.func 105) #[] #[.pointer (some ⟨g, 0, none⟩)]] w fun e w' => ∃ v, e = .returned v ∧ OwnStrs w' w.heap.size v (usesL md us) ∧ Below w.heap.size w w' := by
  have Hr := Lib.hid hr
  have Hn := Lib.hid hn
  have G := Lib.hid hg
  clear hr hn hg
  go_enter Try.func104, Try.ntmps104
  go_wp2_with fail
  go_loopw [12, 5] (fun i x wr => ∃ (k : Nat) (v : Value), i = .int .i64 k ∧ x = v ∧ k ≤ us.length ∧ OwnStrs wr w.heap.size v (usesL md (us.take k)) ∧ Below w.heap.size w wr) (fun i _ _ => us.length - (intOf i).toNat)
  case atStart => exact ⟨0, _, rfl, rfl, by omega, by rw [List.take_zero]; exact OwnStrs.nil, Below.refl _ _⟩
  case round =>
    obtain ⟨k, v, rfl, rfl, hk, hown, hbel⟩ := hrel
    have Hown := Lib.hid hown
    clear hown
    by_cases hlt : k < us.length
    · obtain ⟨b, o, hba, hb1, e0, e1⟩ := use_at Hr.out hlt hbel
      subst hba
      have hsz := hbel.size
      have hnk := Hn.out _ (List.getElem_mem hlt)
      have Hbel := Lib.hid (hbel.alloc hbel.size (.cells #[.string us[k].fMod, .string us[k].fName] 130))
      have Hown2 := Lib.hid (Hown.out.alloc (.cells #[.string us[k].fMod, .string us[k].fName] 130))
      have G2 := Lib.hid ((G.out.below hbel G.out.lt).alloc (.cells #[.string us[k].fMod, .string us[k].fName] 130))
      have Hy := Lib.hid (uses_yes (md := md) hlt)
      have Hno := Lib.hid (uses_no (md := md) hlt)
      have hlen : (usesL md (us.take k)).length ≤ k := uses_len
      clear hbel
      generalize us[k] = t at *
      by_cases hmk : t.fMod = md
      · have Hy2 := Lib.hid (Hy.out hmk)
        have Q1 := Lib.hid (bytes_same t.fMod md true (by simp [hmk]))
        clear hmk
        go_wp2_with fail
        refine (iUsesClo t md g true _ hnk G2.out Q1.out).mono ?_
        rintro e w3 ⟨rfl, hb3⟩
        have B3 := Lib.hid (Hbel.out.trans (hb3.mono Hbel.out.size))
        have O3 := Lib.hid (Hown2.out.below hb3)
        have s3 := B3.out.size
        clear hb3
        go_wp2_with (at_builtin; refine wpList_pushStr rfl _ _ rfl w.heap.size _ _ (usesL md (us.take k)) rfl O3.out _ _ rfl (by simp) (by omega) (by omega) ?_)
        intro v' w4 hown4 hg4 hlt4
        have B4 := Lib.hid (B3.out.grown hg4 (by omega) (fun k hk => (hlt4 k hk).1))
        rw [← Hy2.out] at hown4
        have O4 := Lib.hid hown4
        clear hown4 hg4 hlt4
        go_wp2_with fail
        exact ⟨⟨k + 1, _, by congr 1, rfl, by omega, O4.out, B4.out⟩, by simp [intOf]; omega⟩
      · have Hn2 := Lib.hid (Hno.out hmk)
        have Q1 := Lib.hid (bytes_same t.fMod md false (by simp [hmk]))
        clear hmk
        go_wp2_with fail
        refine (iUsesClo t md g false _ hnk G2.out Q1.out).mono ?_
        rintro e w3 ⟨rfl, hb3⟩
        have B3 := Lib.hid (Hbel.out.trans (hb3.mono Hbel.out.size))
        have O4 := Lib.hid (show OwnStrs w3 w.heap.size _ (usesL md (us.take (k + 1))) by rw [Hn2.out]; exact Hown2.out.below hb3)
        clear hb3
        go_wp2_with fail
        exact ⟨⟨k + 1, _, by congr 1, rfl, by omega, O4.out, B3.out⟩, by simp [intOf]; omega⟩
    · have hown2 := Hown.out
      rw [show k = us.length by omega, List.take_length] at hown2
      have O2 := Lib.hid hown2
      have Hbel := Lib.hid hbel
      clear hbel hown2
      go_wp2_with fail
      go_ret
      exact ⟨_, rfl, O2.out, Hbel.out⟩

theorem scope_use {s : ScopeD} (h : scopeP s) : ∀ u ∈ s.fUses, u.fName.size ≤ 1048576 := by
  intro u hu
  obtain ⟨k, hk, rfl⟩ := List.getElem_of_mem hu
  have h10 := (h.2.2.2.2.2.1 k hk hk).1.2.1
  omega
set_option maxHeartbeats 8000000 in
theorem iUsesOf (s : ScopeD) (md : ByteArray) (a1 a2 a3 a4 : Option Addr) (c1 c2 c3 c4 : Nat) (w : World) (hmd : md.size ≤ maxLen) (hm : ScopeM w a1 a2 a3 a4 c1 c2 c3 c4 s) :
    Calls Try.prog 39 #[.agg (scopeC s a1 a2 a3 a4 c1 c2 c3 c4), .string md] w (PostUO s md w) := by
  have B0 := Lib.hid (((Below.refl w.heap.size w).alloc (Nat.le_refl _) (.cells (scopeC s a1 a2 a3 a4 c1 c2 c3 c4) 69)).alloc (by simp) (.cells #[.string md] 9))
  have X0 := Lib.hid ((scope_box w s a1 a2 a3 a4 c1 c2 c3 c4).alloc (.cells #[.string md] 9))
  have G0 := Lib.hid (Box.new' (w.alloc (.cells (scopeC s a1 a2 a3 a4 c1 c2 c3 c4) 69)) 9 #[.string md] (g := w.heap.size + 1) (by simp))
  have H := Lib.hid hm
  have hlo := hm.lu
  have hg := iGoodScope s a1 a2 a3 a4 c1 c2 c3 c4 _ (hm.below B0.out)
  have g0 : _ = some (Value.string md) := G0.out.cell 0
  clear hm
  go_enter Try.func39, Try.ntmps39
  by_cases p1 : scopeP s
  · rw [scopeB_true p1] at hg
    have Hg := Lib.hid hg
    clear hg
    go_wp2_with fail
    refine Hg.out.mono ?_
    rintro e w1 ⟨rfl, hb1⟩
    have B1 := Lib.hid (B0.out.trans (hb1.mono B0.out.size))
    have X1 := Lib.hid (X0.out.below hb1 X0.out.lt)
    have G1 := Lib.hid (G0.out.below hb1 G0.out.lt)
    clear hb1 Hg
    have k0 : _ = some (Value.string md) := G1.out.cell 0
    by_cases p2 : nameP md
    · have P1 := Lib.hid (show usesP s md from ⟨p1, p2⟩)
      have hq := nameB_true p2
      clear p1 p2
      have x4 := X1.out.cell 4
      simp at x4
      go_wp2_with (go_at_call 103; refine (iGoodName _ _ hmd).mono ?_; rintro e w' ⟨rfl, rfl⟩)
      refine (iGatherUses s.fUses md a4 c4 (w.heap.size + 1) _ hlo (scope_use P1.out.1) (H.out.r.uses.below B1.out) G1.out).mono ?_
      rintro e w2 ⟨v, rfl, hown, hb2⟩
      have O2 := Lib.hid (hown.lower B1.out.size)
      have B2 := Lib.hid (B1.out.trans (hb2.mono B1.out.size))
      clear hown hb2
      go_wp2_with fail
      go_ret2
      unfold PostUO
      exact ⟨_, _, true, rfl, O2.out, .inl ⟨P1.out, rfl, rfl⟩, B2.out⟩
    · have P1 := Lib.hid (show ¬ usesP s md from fun h => p2 h.2)
      have hq := nameB_false p2
      clear p1 p2
      go_wp2_with (go_at_call 103; refine (iGoodName _ _ hmd).mono ?_; rintro e w' ⟨rfl, rfl⟩)
      go_ret2
      unfold PostUO
      exact ⟨_, [], false, rfl, OwnStrs.nil, .inr ⟨P1.out, rfl, rfl⟩, B1.out⟩
  · have P1 := Lib.hid (show ¬ usesP s md from fun h => p1 h.1)
    rw [scopeB_false p1] at hg
    have Hg := Lib.hid hg
    clear hg p1
    go_wp2_with fail
    refine Hg.out.mono ?_
    rintro e w1 ⟨rfl, hb1⟩
    have B1 := Lib.hid (B0.out.trans (hb1.mono B0.out.size))
    clear hb1
    go_wp2_with fail
    go_ret2
    unfold PostUO
    exact ⟨_, [], false, rfl, OwnStrs.nil, .inr ⟨P1.out, rfl, rfl⟩, B1.out⟩
end Go.Proofs.Ytjbnabjfeepbeaa
