
/-
  What is proved: the contract of the model's NamesIn. No condition beside what each theorem states.
-/
import Derived.Test.YtheggkkgcgkmmaaDoorSExpr
import Derived.Test.YtheggkkgcgkmmaaDoorNames5
namespace Go.Proofs.YtheggkkgcgkmmaaDoor
open Go.ChangeShapes Go.WideShapes Go.ChangeAt Go.RowKit
set_option maxRecDepth 100000

theorem hasU_snoc (l : List UseD) (k : Nat) (u : UseD) (h : k < l.length) : hasU (l.take (k + 1)) u = (hasU (l.take k) u || hasU [l[k]] u) := by
  rw [Bool.eq_iff_iff, Bool.or_eq_true, hasU_iff, hasU_iff, hasU_iff, take_snoc h, List.mem_append]
theorem hasU_nil (u : UseD) : hasU [] u = false := hasU_false (by simp)
theorem hasU_one (u v : UseD) : hasU [u] v = ((u.fMod.toList == v.fMod.toList) && (u.fName.toList == v.fName.toList)) := by
  refine (use_eq u v _ ?_).symm
  rw [hasU_iff]
  simp [eq_comm]

set_option maxHeartbeats 8000000 in
theorem sNamesIn (a : Option Addr) (c : Nat) (l : List StepD) (w : World) (hl : l.length ≤ 1048576) (hcm : ∀ t ∈ l, t.fName.size ≤ maxLen ∧ t.fMod.size ≤ maxLen) (hr : Rows stepS Any w a l) : Calls Tryd.prog 17 #[.slice a l.length c] w (PostNI l w) := by
  have Hg := Lib.hid (sl5Good a c l w hl hcm hr)
  have Hr := Lib.hid hr
  have He := Lib.hid eqUse
  clear hcm hr
  go_enter Tryd.func17, Tryd.ntmps17
  go_wp2_with fail
  refine Hg.out.mono ?_
  rintro e w1 ⟨rfl, hb⟩
  have B1 := Lib.hid hb
  have R1 := Lib.hid (Hr.out.below hb)
  clear hb Hg Hr
  by_cases hex : ∃ xs, GoodE l xs
  · obtain ⟨xs, hg⟩ := hex
    rw [goodEB_true hg]
    have Hact := Lib.hid hg.2.each
    have Hlen := Lib.hid hg.2.len.1
    have hl40 : l.length ≤ 40 := hg.1
    have Hg := Lib.hid hg
    clear hg
    go_wp2_with fail
    go_loopw [4, 16] (fun v i wr => ∃ k : Nat, i = .int .i64 k ∧ k ≤ l.length ∧ OwnUses wr w1.heap.size v (namesOf (xs.take k)) ∧ Below w1.heap.size w1 wr) (fun _ i _ => l.length - (intOf i).toNat)
    case atStart => exact ⟨0, rfl, by omega, OwnUses.nil, Below.refl _ _⟩
    case round =>
      obtain ⟨wo, hwo⟩ : ∃ x, x = wr := ⟨_, rfl⟩
      subst hwo
      obtain ⟨k, rfl, hk, hown, hbel⟩ := hrel
      have hnl : (namesOf (xs.take k)).length ≤ k := Nat.le_trans (namesOf_len _) (by simp; omega)
      have Hown := Lib.hid hown
      have hs1 := hbel.size
      by_cases hlt : k < l.length
      · obtain ⟨b, o, cs, rfl, _, hb1, hc1, hat⟩ := R1.out k hlt
        obtain rfl : cs = [.int .i64 l[k].fKind, .int .i64 l[k].fValue, .string l[k].fMod, .string l[k].fName] := hat
        have e0 := (hbel.cell (p := ⟨b, o + k * 4 + 0, none⟩) hb1).trans (hc1 0 (by decide))
        have e1 := (hbel.cell (p := ⟨b, o + k * 4 + 1, none⟩) hb1).trans (hc1 1 (by decide))
        have e2 := (hbel.cell (p := ⟨b, o + k * 4 + 2, none⟩) hb1).trans (hc1 2 (by decide))
        have e3 := (hbel.cell (p := ⟨b, o + k * 4 + 3, none⟩) hb1).trans (hc1 3 (by decide))
        simp at e0 e1 e2 e3
        have hxk : k < xs.length := by have := Hlen.out; omega
        have hact := Hact.out k hlt hxk
        have Hsn := Lib.hid (show namesOf (xs.take (k + 1)) = addUse (namesOf (xs.take k)) xs[k] by rw [take_snoc hxk, namesOf_snoc])
        have Hbel := Lib.hid hbel
        clear hc1 hbel hown
        generalize xs[k] = z at *
        generalize l[k] = t at *
        obtain ⟨kd, vl, md, nm⟩ := t
        dsimp only at e0 e1 e2 e3
        obtain ⟨a3, c3, rfl, _, _, _, hrw⟩ := Hown.out.rows
        have Hrw := Lib.hid hrw
        clear hrw
        have B2 := Lib.hid ((Hbel.out.alloc hs1 (.cells #[.int .i64 kd, .int .i64 vl, .string md, .string nm] 49)).alloc (by simp; omega) (.cells #[.string md, .string nm] 73))
        have B2' := Lib.hid (((Below.refl wo.heap.size wo).alloc (Nat.le_refl _) (.cells #[.int .i64 kd, .int .i64 vl, .string md, .string nm] 49)).alloc (by simp) (.cells #[.string md, .string nm] 73))
        have X2 := Lib.hid (Box.new' (wo.alloc (.cells #[.int .i64 kd, .int .i64 vl, .string md, .string nm] 49)) 73 #[.string md, .string nm] (g := wo.heap.size + 1) (by simp))
        by_cases h2 : kd = 2
        · subst h2
          have hz : z = .name md nm := by
            rcases hact with ⟨h, _⟩ | ⟨_, _, _, _, h⟩ | ⟨h, _⟩ | ⟨j, _, h, _⟩
            · cases h
            · exact h
            · cases h
            · have h : (2 : Int) = 3 + (j : Int) := h
              omega
          subst hz
          clear hact
          have Hrq := Lib.hid (Hrw.out.any.below B2'.out)
          have Oq := Lib.hid (Hown.out.below B2'.out)
          clear Hrw Hown
          go_wp2_with fail
          generalize (wo.alloc (.cells #[.int .i64 2, .int .i64 vl, .string md, .string nm] 49)).alloc (.cells #[.string md, .string nm] 73) = wq at *
          generalize namesOf (xs.take k) = us at *
          have hsq := B2.out.size
          go_loopw [8, 30] (fun q i wi => ∃ j : Nat, i = .int .i64 j ∧ j ≤ us.length ∧ q = .bool (hasU (us.take j) ⟨md, nm⟩) ∧ Below wq.heap.size wq wi) (fun _ i _ => us.length - (intOf i).toNat)
          case atStart => exact ⟨0, rfl, by omega, by rw [List.take_zero, hasU_nil], Below.refl _ _⟩
          case round =>
            obtain ⟨wi, hwi⟩ : ∃ x, x = wr := ⟨_, rfl⟩
            subst hwi
            obtain ⟨j, rfl, hj, rfl, hbi⟩ := hrel
            by_cases hlt2 : j < us.length
            · obtain ⟨b2, o2, cs, rfl, _, hb3, hc3, hat⟩ := Hrq.out j hlt2
              obtain rfl : cs = [.string us[j].fMod, .string us[j].fName] := hat
              have d0 := (hbi.cell (p := ⟨b2, o2 + j * 2 + 0, none⟩) hb3).trans (hc3 0 (by decide))
              have d1 := (hbi.cell (p := ⟨b2, o2 + j * 2 + 1, none⟩) hb3).trans (hc3 1 (by decide))
              simp at d0 d1
              have X3 := X2.out.below hbi X2.out.lt
              have x0 : _ = some (Value.string md) := X3.cell 0
              have x1 : _ = some (Value.string nm) := X3.cell 1
              have hx3 := X3.lt
              have hsi := hbi.size
              have Hbi := Lib.hid hbi
              clear hc3 hbi X3
              have Hn := Lib.hid ((hasU_snoc us j ⟨md, nm⟩ hlt2).trans (by rw [hasU_one]))
              have r1 := fun W => He.out us[j].fMod us[j].fName md nm W
              generalize us[j] = x at *
              cases hq : hasU (us.take j) ⟨md, nm⟩
              · rw [hq, Bool.false_or] at Hn
                clear hq
                generalize hy : ((x.fMod.toList == md.toList) && (x.fName.toList == nm.toList)) = y at *
                clear hy
                go_wp2_with fail
                exact ⟨⟨j + 1, by congr 1, by omega, by rw [Hn.out], Hbi.out.alloc hsi _⟩, by simp [intOf]; omega⟩
              · rw [hq, Bool.true_or] at Hn
                clear hq
                go_wp2_with fail
                exact ⟨⟨j + 1, by congr 1, by omega, by rw [Hn.out], Hbi.out.alloc hsi _⟩, by simp [intOf]; omega⟩
            · obtain rfl : j = us.length := by omega
              rw [List.take_length]
              have Hbi := Lib.hid hbi
              have hsi := hbi.size
              have X3 := X2.out.below hbi X2.out.lt
              have x0 : _ = some (Value.string md) := X3.cell 0
              have x1 : _ = some (Value.string nm) := X3.cell 1
              have hx3 := X3.lt
              have Oi := Lib.hid (Oq.out.below hbi)
              have Bi := Lib.hid (B2.out.trans (hbi.mono B2.out.size))
              clear hbi X3
              by_cases hmem : (⟨md, nm⟩ : UseD) ∈ us
              · rw [hasU_true hmem]
                have Hs2 := Lib.hid (Hsn.out.trans (addUse_in hmem))
                clear hmem
                go_wp2_with fail
                exact ⟨⟨k + 1, by congr 1, by omega, by rw [Hs2.out]; exact Oi.out, Bi.out⟩, by simp [intOf]; omega⟩
              · rw [hasU_false hmem]
                have Hs2 := Lib.hid (Hsn.out.trans (addUse_out hmem))
                clear hmem
                go_wp2_with (at_builtin; refine wpList_pushUse rfl _ _ rfl w1.heap.size _ _ us rfl _ (Oi.out.alloc _) ⟨md, nm⟩ rfl (Box.new' _ _ _ (by simp)) (by omega) (by simp; omega) ?_; intro v' w4 hown4 hg4 hlt4)
                have B5 := Lib.hid ((Bi.out.alloc (by omega) _).grown hg4 (by simp; omega) (fun k hk => (hlt4 k hk).1))
                exact ⟨⟨k + 1, by congr 1, by omega, by rw [Hs2.out]; exact hown4, B5.out⟩, by simp [intOf]; omega⟩
        · have H2 := Lib.hid h2
          have Hz := Lib.hid (show addUse (namesOf (xs.take k)) z = namesOf (xs.take k) by
            rcases hact with ⟨_, _, _, _, _, h⟩ | ⟨h, _⟩ | ⟨_, _, h⟩ | ⟨j, _, _, _, h⟩
            · rw [h]; rfl
            · exact absurd h h2
            · rw [h]; rfl
            · rw [h]; rfl)
          clear hact
          have Hrq := Lib.hid (Hrw.out.any.below B2'.out)
          have Oq := Lib.hid (Hown.out.below B2'.out)
          clear Hrw Hown
          go_wp2_with fail
          generalize (wo.alloc (.cells #[.int .i64 kd, .int .i64 vl, .string md, .string nm] 49)).alloc (.cells #[.string md, .string nm] 73) = wq at *
          generalize namesOf (xs.take k) = us at *
          have hsq := B2.out.size
          go_loopw [8, 30] (fun q i wi => ∃ j : Nat, i = .int .i64 j ∧ j ≤ us.length ∧ q = .bool (true) ∧ Below wq.heap.size wq wi) (fun _ i _ => us.length - (intOf i).toNat)
          case atStart => exact ⟨0, rfl, by omega, congrArg Value.bool (bne_iff_ne.2 H2.out), Below.refl _ _⟩
          case round =>
            obtain ⟨wi, hwi⟩ : ∃ x, x = wr := ⟨_, rfl⟩
            subst hwi
            obtain ⟨j, rfl, hj, rfl, hbi⟩ := hrel
            by_cases hlt2 : j < us.length
            · obtain ⟨b2, o2, cs, rfl, _, hb3, hc3, hat⟩ := Hrq.out j hlt2
              obtain rfl : cs = [.string us[j].fMod, .string us[j].fName] := hat
              have d0 := (hbi.cell (p := ⟨b2, o2 + j * 2 + 0, none⟩) hb3).trans (hc3 0 (by decide))
              have d1 := (hbi.cell (p := ⟨b2, o2 + j * 2 + 1, none⟩) hb3).trans (hc3 1 (by decide))
              simp at d0 d1
              have X3 := X2.out.below hbi X2.out.lt
              have x0 : _ = some (Value.string md) := X3.cell 0
              have x1 : _ = some (Value.string nm) := X3.cell 1
              have hx3 := X3.lt
              have hsi := hbi.size
              have Hbi := Lib.hid hbi
              clear hc3 hbi X3
              generalize us[j] = x at *
              go_wp2_with fail
              exact ⟨⟨j + 1, by congr 1, by omega, rfl, Hbi.out.alloc hsi _⟩, by simp [intOf]; omega⟩
            · obtain rfl : j = us.length := by omega
              have Hbi := Lib.hid hbi
              have Oi := Lib.hid (Oq.out.below hbi)
              have Bi := Lib.hid (B2.out.trans (hbi.mono B2.out.size))
              clear hbi
              have Hs2 := Lib.hid (Hsn.out.trans Hz.out)
              go_wp2_with fail
              exact ⟨⟨k + 1, by congr 1, by omega, by rw [Hs2.out]; exact Oi.out, Bi.out⟩, by simp [intOf]; omega⟩
      · obtain rfl : k = l.length := by omega
        have O2 := Lib.hid (show OwnUses wo w1.heap.size _ (namesOf xs) from (by have h := Hown.out; rwa [List.take_of_length_le (by have := Hlen.out; omega)] at h))
        have Hbel := Lib.hid hbel
        clear hbel hown Hown
        go_wp2_with fail
        go_ret2
        unfold PostNI
        exact ⟨_, _, true, rfl, O2.out.lower B1.out.size, .inl ⟨xs, Hg.out, rfl, rfl⟩, B1.out.trans (Hbel.out.mono B1.out.size)⟩
  · rw [goodEB_false (fun xs h => hex ⟨xs, h⟩)]
    go_wp2_with fail
    go_ret2
    unfold PostNI
    exact ⟨_, [], false, rfl, OwnUses.nil, .inr ⟨fun xs h => hex ⟨xs, h⟩, rfl, rfl⟩, B1.out⟩
end Go.Proofs.YtheggkkgcgkmmaaDoor
