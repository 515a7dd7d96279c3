
/-
  What is proved: a contract of the model's l4Good. No condition beside what the theorem states.
-/
import Derived.Test.YtllddjmcemcdhaaGreatSObject
import Derived.Test.YtllddjmcemcdhaaGreatSameLists
namespace Go.Proofs.YtllddjmcemcdhaaGreat
open Go.ChangeShapes Go.WideShapes Go.ChangeAt Go.RowKit

theorem rows_take {T : Type} {S : Shape T} {Q : Nat → Prop} {w : World} {a : Option Addr} {l : List T} (h : Rows S Q w a l) (k : Nat) : Rows S Q w a (l.take k) := fun i hi => by
  have hi2 : i < l.length := by simp at hi; omega
  obtain ⟨b, o, cs, e, h1, h2, h3, h4⟩ := h i hi2
  exact ⟨b, o, cs, e, h1, h2, h3, by rw [List.getElem_take]; exact h4⟩

/-- Imports up to place k. -/
def impTo (s : ScopeD) (k : Nat) : Prop := namesTo s.fImports k ∧ ∀ i (hi : i < s.fImports.length), i < k → s.fImports[i] ≠ s.fName
def impOk (s : ScopeD) (k : Nat) (x : ByteArray) : Prop := nameP x ∧ x ≠ s.fName ∧ x ∉ s.fImports.take k
theorem impTo_zero {s : ScopeD} : impTo s 0 := ⟨names_zero, fun _ _ h => absurd h (by omega)⟩
theorem impTo_next {s : ScopeD} {k : Nat} (hk : k < s.fImports.length) (h : impTo s k) (h1 : impOk s k s.fImports[k]) : impTo s (k + 1) :=
  ⟨names_next hk h.1 h1.1 (fun i hi hik e => h1.2.2 (by
    rw [← e, List.mem_iff_getElem]
    exact ⟨i, by simp; omega, by rw [List.getElem_take]⟩)), fun i hi hik => by
    by_cases e : i = k
    · subst e; exact h1.2.1
    · exact h.2 i hi (by omega)⟩
theorem scope_imp_bad {s : ScopeD} {k : Nat} (hk : k < s.fImports.length) (h : ¬ impOk s k s.fImports[k]) : scopeB s = false := scopeB_false fun g => h
  ⟨g.2.1.2.1.1 k hk hk, fun e => g.2.1.2.2 (by rw [← e]; exact List.getElem_mem hk), fun hm => by
    obtain ⟨i, hi, e⟩ := List.getElem_of_mem hm
    rw [List.getElem_take] at e
    have hi2 : i < k ∧ i < s.fImports.length := by simp at hi; omega
    exact g.2.1.2.1.2 i k hi2.2 hk hi2.1 hk e⟩
theorem app_at {l m : List ByteArray} {k : Nat} (hk : k < m.length) : (l ++ m)[l.length + k]'(by simp; omega) = m[k] := by
  rw [List.getElem_append_right (by omega)]
  simp
/-- Objects up to place k. -/
def objsOk (s : ScopeD) (o : ObjectD) : Prop := objAll s.fTypes.length o ∧ o.fName ∉ s.fImports
def objsTo (s : ScopeD) (k : Nat) : Prop := (∀ i (hi : i < s.fObjects.length), i < k → objsOk s s.fObjects[i]) ∧ ∀ i j (hi : i < s.fObjects.length) (hj : j < s.fObjects.length), i < j → j < k → s.fObjects[i].fName ≠ s.fObjects[j].fName
theorem objsTo_zero {s : ScopeD} : objsTo s 0 := ⟨fun _ _ h => absurd h (by omega), fun _ _ _ _ _ h => absurd h (by omega)⟩
theorem objsTo_next {s : ScopeD} {k : Nat} (hk : k < s.fObjects.length) (h : objsTo s k) (h1 : objsOk s s.fObjects[k]) (h2 : ∀ i (hi : i < s.fObjects.length), i < k → s.fObjects[i].fName ≠ s.fObjects[k].fName) : objsTo s (k + 1) :=
  ⟨fun i hi hik => by
    by_cases e : i = k
    · subst e; exact h1
    · exact h.1 i hi (by omega), fun i j hi hj hij hjk => by
    by_cases e : j = k
    · subst e; exact h2 i hi hij
    · exact h.2 i j hi hj hij (by omega)⟩
theorem scope_obj_at {s : ScopeD} (g : scopeP s) {k : Nat} (hk : k < s.fObjects.length) : objsOk s s.fObjects[k] := by
  have hn : k < (s.fObjects.map ObjectD.fName).length := by simpa using hk
  have hl : s.fImports.length + k < (s.fImports ++ s.fObjects.map ObjectD.fName).length := by simp; omega
  have e := app_at (l := s.fImports) hn
  refine ⟨⟨?_, g.2.2.2.1.2.1 _ (List.getElem_mem hk)⟩, fun hm => ?_⟩
  · have h := g.2.2.2.1.2.2.1 (s.fImports.length + k) hl hl
    rw [e] at h
    simpa using h
  · obtain ⟨i, hi, ei⟩ := List.getElem_of_mem hm
    have h := g.2.2.2.1.2.2.2 i (s.fImports.length + k) (by simp; omega) hl (by omega) hl
    rw [e, List.getElem_append_left hi] at h
    exact h (by simpa using ei)
theorem scope_obj_bad {s : ScopeD} {k : Nat} (hk : k < s.fObjects.length) (h : ¬ objsOk s s.fObjects[k]) : scopeB s = false := scopeB_false fun g => h (scope_obj_at g hk)
theorem scope_obj_twice {s : ScopeD} {i k : Nat} (hik : i < k) (hk : k < s.fObjects.length) (he : (s.fObjects[i]'(by omega)).fName = s.fObjects[k].fName) : scopeB s = false := scopeB_false fun g => by
  have hn : k < (s.fObjects.map ObjectD.fName).length := by simpa using hk
  have hn' : i < (s.fObjects.map ObjectD.fName).length := by simp; omega
  have h := g.2.2.2.1.2.2.2 (s.fImports.length + i) (s.fImports.length + k) (by simp; omega) (by simp; omega) (by omega) (by simp; omega)
  rw [app_at hn, app_at hn'] at h
  exact h (by simpa using he)
theorem at_next {os : List ObjectD} {nm : ByteArray} {r : Int} {k : Nat} (h : isAt os nm r) (hk : k < os.length) (he : os[k].fName = nm) : (r < k → ∃ i, ∃ hi : i < os.length, i < k ∧ os[i].fName = nm) ∧ (¬ r < k → ∀ i (hi : i < os.length), i < k → os[i].fName ≠ nm) := by
  rcases h with ⟨rfl, h⟩ | ⟨j, rfl, hj, hje, h⟩
  · exact absurd he (h k hk)
  · exact ⟨fun g => ⟨j, hj, by omega, hje⟩, fun g i hi hik => h i hi (by omega)⟩
theorem scope_use_bad {s : ScopeD} {k : Nat} (hk : k < s.fUses.length) (h : ¬ useOk s.fImports s.fUses[k]) : scopeB s = false := scopeB_false fun g => uses_bad hk h g.2.2.2.2.2
theorem scope_use_twice {s : ScopeD} {i k : Nat} (hik : i < k) (hk : k < s.fUses.length) (he : s.fUses[i]'(by omega) = s.fUses[k]) : scopeB s = false := scopeB_false fun g => uses_twice hik hk he g.2.2.2.2.2
theorem scope_of {s : ScopeD} (h1 : impTo s s.fImports.length) (h2 : objsTo s s.fObjects.length) (h3 : usesTo s.fImports s.fUses s.fUses.length) (h4 : nameP s.fName) (h5 : good s.fTypes) (h6 : s.fImports.length ≤ 4) (h7 : s.fObjects.length ≤ 16) (h8 : s.fUses.length ≤ 40) : scopeP s := by
  refine ⟨h4, ⟨h6, h1.1, fun hm => ?_⟩, h5, ⟨h7, fun o ho => ?_, fun i hi _ => ?_, fun i j hi hj hij _ => ?_⟩, h8, h3⟩
  · obtain ⟨i, hi, e⟩ := List.getElem_of_mem hm
    exact h1.2 i hi hi e
  · obtain ⟨i, hi, rfl⟩ := List.getElem_of_mem ho
    exact (h2.1 i hi hi).1.2
  · by_cases hl : i < s.fImports.length
    · rw [List.getElem_append_left hl]
      exact h1.1.1 i hl hl
    · rw [List.getElem_append_right (by omega)]
      have hi2 : i - s.fImports.length < s.fObjects.length := by simp at hi; omega
      simpa using (h2.1 _ hi2 hi2).1.1
  · have hj2 : j < s.fImports.length + s.fObjects.length := by simpa using hj
    by_cases hl : i < s.fImports.length
    · rw [List.getElem_append_left hl]
      by_cases hl' : j < s.fImports.length
      · rw [List.getElem_append_left hl']
        exact h1.1.2 i j hl hl' hij hl'
      · rw [List.getElem_append_right (by omega)]
        have hjo : j - s.fImports.length < s.fObjects.length := by omega
        intro e
        refine (h2.1 _ hjo hjo).2 ?_
        rw [List.getElem_map] at e
        rw [← e]
        exact List.getElem_mem hl
    · rw [List.getElem_append_right (by omega), List.getElem_append_right (by omega)]
      simpa using h2.2 (i - s.fImports.length) (j - s.fImports.length) (by omega) (by omega) (by omega) (by omega)

theorem object_at2 {w w' : World} {a : Option Addr} {l : List ObjectD} {k : Nat} (hr : Rows objectS Any w a l) (hk : k < l.length) (hb : Below w.heap.size w w') : ∃ b o pa pc, a = some ⟨b, o, none⟩ ∧ b < w.heap.size ∧ l[k].fParams.length ≤ pc ∧ Rows paramS Any w pa l[k].fParams ∧ w'.cell? ⟨b, o + k * 6, none⟩ = some (.string l[k].fName) ∧ w'.cell? ⟨b, o + k * 6 + 1, none⟩ = some (.int .i64 l[k].fKind) ∧ w'.cell? ⟨b, o + k * 6 + 2, none⟩ = some (.int .i64 l[k].fMark) ∧ w'.cell? ⟨b, o + k * 6 + 3, none⟩ = some (.int .i64 l[k].fType) ∧ w'.cell? ⟨b, o + k * 6 + 4, none⟩ = some (.int .i64 l[k].fValue) ∧ w'.cell? ⟨b, o + k * 6 + 5, none⟩ = some (.slice pa l[k].fParams.length pc) := by
  obtain ⟨b, o, cs, rfl, _, hb1, hc1, hat⟩ := hr k hk
  obtain ⟨pa, pc, rfl, hpr, hpc⟩ := hat
  have e0 := (hb.cell (p := ⟨b, o + k * 6 + 0, none⟩) hb1).trans (hc1 0 (by decide))
  have e1 := (hb.cell (p := ⟨b, o + k * 6 + 1, none⟩) hb1).trans (hc1 1 (by decide))
  have e2 := (hb.cell (p := ⟨b, o + k * 6 + 2, none⟩) hb1).trans (hc1 2 (by decide))
  have e3 := (hb.cell (p := ⟨b, o + k * 6 + 3, none⟩) hb1).trans (hc1 3 (by decide))
  have e4 := (hb.cell (p := ⟨b, o + k * 6 + 4, none⟩) hb1).trans (hc1 4 (by decide))
  have e5 := (hb.cell (p := ⟨b, o + k * 6 + 5, none⟩) hb1).trans (hc1 5 (by decide))
  simp at e0 e1 e2 e3 e4 e5
  exact ⟨b, o, pa, pc, rfl, hb1, hpc, hpr, e0, e1, e2, e3, e4, e5⟩

set_option maxRecDepth 100000 in
set_option maxHeartbeats 16000000 in
theorem sl4Good (s : ScopeD) (a1 a2 a3 a4 : Option Addr) (c1 c2 c3 c4 : Nat) (w : World) (hm : ScopeM w a1 a2 a3 a4 c1 c2 c3 c4 s) :
    Calls Tryz.prog 16 #[.agg (scopeC s a1 a2 a3 a4 c1 c2 c3 c4)] w fun e w' => e = .returned (.bool (scopeB s)) ∧ Below w.heap.size w w' := by
  have H := Lib.hid hm
  have hnm := hm.nm
  have hli := hm.li
  have hlo := hm.lo
  have hlu := hm.lu
  have hki := hm.ki
  have hku := hm.ku
  clear hm
  have X0 := Lib.hid (scope_box w s a1 a2 a3 a4 c1 c2 c3 c4)
  have B0 := Lib.hid ((Below.refl w.heap.size w).alloc (Nat.le_refl _) (.cells (scopeC s a1 a2 a3 a4 c1 c2 c3 c4) 35))
  go_enter Tryz.func16, Tryz.ntmps16
  go_wp2_with fail
  go_loop [14] (fun i => ∃ k : Nat, i = .int .i64 k ∧ k ≤ s.fImports.length ∧ impTo s k) (fun i => s.fImports.length - (intOf i).toNat)
  case atStart => exact ⟨0, rfl, by omega, impTo_zero⟩
  case round =>
    obtain ⟨k, rfl, hk, hto⟩ := hrel
    have Hto := Lib.hid hto
    clear hto
    by_cases hlt : k < s.fImports.length
    · obtain ⟨b, o, hba, _, e0⟩ := str_here (H.out.r.imports.below B0.out) hlt
      have hh := sl4Has a1 c1 (s.fImports.take k) s.fImports[k] (w.alloc (.cells (scopeC s a1 a2 a3 a4 c1 c2 c3 c4) 35)) (by simp; omega) (rows_take (H.out.r.imports.below B0.out) k)
      rw [show (s.fImports.take k).length = k by simp; omega] at hh
      have Hh := Lib.hid hh
      have hsz := H.out.mi _ (List.getElem_mem hlt)
      have Hbad := Lib.hid (fun h => scope_imp_bad (s := s) hlt h)
      have Hnx := Lib.hid (impTo_next hlt Hto.out)
      subst hba
      clear hh
      generalize s.fImports[k] = t at *
      by_cases p1 : nameP t
      · have hq := nameB_true p1
        by_cases p2 : t = s.fName
        · have hb := bytes_same t s.fName true (by simp [p2])
          have Hv := Lib.hid (Hbad.out (fun h => h.2.1 p2))
          clear p1 p2
          go_wp2_with (go_at_call 39; refine (sl1Name _ _ hsz).mono ?_; rw [hq]; rintro e w' ⟨rfl, rfl⟩)
          go_ret
          exact ⟨by rw [Hv.out]; rfl, B0.out⟩
        · have hb := bytes_same t s.fName false (by simp [p2])
          by_cases p3 : t ∈ s.fImports.take k
          · have hhas := hasB_true p3
            have Hv := Lib.hid (Hbad.out (fun h => h.2.2 p3))
            clear p1 p2 p3
            go_wp2_with (first | (go_at_call 39; refine (sl1Name _ _ hsz).mono ?_; rw [hq]; rintro e w' ⟨rfl, rfl⟩) | (go_at_call 40; refine Hh.out.mono ?_; rw [hhas]; rintro e w' ⟨rfl, rfl⟩))
            go_ret
            exact ⟨by rw [Hv.out]; rfl, B0.out⟩
          · have hhas := hasB_false p3
            have Hv := Lib.hid (Hnx.out ⟨p1, p2, p3⟩)
            clear p1 p2 p3
            go_wp2_with (first | (go_at_call 39; refine (sl1Name _ _ hsz).mono ?_; rw [hq]; rintro e w' ⟨rfl, rfl⟩) | (go_at_call 40; refine Hh.out.mono ?_; rw [hhas]; rintro e w' ⟨rfl, rfl⟩))
            go_round
            case rel => exact ⟨k + 1, by go_num, by omega, Hv.out⟩
            case measure => simp [intOf]; omega
      · have hq := nameB_false p1
        have Hv := Lib.hid (Hbad.out (fun h => p1 h.1))
        clear p1
        go_wp2_with (go_at_call 39; refine (sl1Name _ _ hsz).mono ?_; rw [hq]; rintro e w' ⟨rfl, rfl⟩)
        go_ret
        exact ⟨by rw [Hv.out]; rfl, B0.out⟩
    · have Him := Lib.hid (show impTo s s.fImports.length by rw [← show k = s.fImports.length by omega]; exact Hto.out)
      clear Hto
      go_wp2_with fail
      go_loopw [40] (fun i wr => ∃ k : Nat, i = .int .i64 k ∧ k ≤ s.fObjects.length ∧ objsTo s k ∧ Box wr w.heap.size 35 (scopeC s a1 a2 a3 a4 c1 c2 c3 c4) ∧ Below w.heap.size w wr) (fun i _ => s.fObjects.length - (intOf i).toNat)
      case atStart => exact ⟨0, rfl, by omega, objsTo_zero, X0.out, B0.out⟩
      case round =>
        clear hlt hk
        obtain ⟨k, rfl, hk, hto, hX, hbel⟩ := hrel
        have Hto := Lib.hid hto
        have HX := Lib.hid hX
        clear hto hX
        by_cases hlt : k < s.fObjects.length
        · obtain ⟨b, o, pa, pc, hba, hb1, hpc, hpr, e0, e1, e2, e3, e4, e5⟩ := object_at2 H.out.r.objects hlt hbel
          have Hbad := Lib.hid (fun h => scope_obj_bad (s := s) hlt h)
          have Htw := Lib.hid (fun i (hik : i < k) h => scope_obj_twice (s := s) hik hlt h)
          have Hnx := Lib.hid (objsTo_next hlt Hto.out)
          have Hat := Lib.hid (fun r (h : isAt s.fObjects s.fObjects[k].fName r) => at_next h hlt rfl)
          obtain ⟨s1, s2, s3⟩ := H.out.mo _ (List.getElem_mem hlt)
          have hbel2 := hbel.alloc hbel.size (.cells (objC s.fObjects[k] pa pc) 52)
          have hX2 := HX.out.alloc (.cells (objC s.fObjects[k] pa pc) 52)
          have x2 := hX2.cell 2
          simp at x2
          have hsz := hbel.size
          have lt0 := HX.out.lt
          have hob := sl4Object a2 c2 s.fTypes.length s.fObjects[k] pa pc (wr.alloc (.cells (objC s.fObjects[k] pa pc) 52)) H.out.lt s1 s2 hpc s3 (hpr.below hbel2)
          have Y2 := Lib.hid (Box.new wr 52 (objC s.fObjects[k] pa pc))
          have Hbel2 := Lib.hid hbel2
          have HX2 := Lib.hid hX2
          clear hbel hX2 hbel2 hpr s3 hpc
          subst hba
          generalize s.fObjects[k] = t at *
          by_cases p1 : objAll s.fTypes.length t
          · rw [objAllB_true p1] at hob
            have Hob := Lib.hid hob
            have P1 := Lib.hid p1
            clear hob p1
            go_wp2_with fail
            refine Hob.out.mono ?_
            rintro e w3 ⟨rfl, hb3⟩
            have B3 := Lib.hid (Hbel2.out.trans (hb3.mono Hbel2.out.size))
            have X3 := Lib.hid (HX2.out.below hb3 HX2.out.lt)
            have Y3 := Lib.hid (Y2.out.below hb3 Y2.out.lt)
            have y0 := Y3.out.cell 0
            have z0 := X3.out.cell 0
            have z1 := X3.out.cell 1
            have z2 := X3.out.cell 2
            have z3 := X3.out.cell 3
            have z4 := X3.out.cell 4
            simp at y0 z0 z1 z2 z3 z4
            clear hb3 Hob x2
            have Hh := Lib.hid (sl4Has a1 c1 s.fImports t.fName w3 hli (H.out.r.imports.below B3.out))
            go_wp2_with fail
            refine Hh.out.mono ?_
            rintro e w' ⟨rfl, rfl⟩
            by_cases p2 : t.fName ∈ s.fImports
            · rw [hasB_true p2]
              have Hv := Lib.hid (Hbad.out (fun h => h.2 p2))
              clear p2
              go_wp2_with fail
              go_ret
              exact ⟨by rw [Hv.out]; rfl, B3.out⟩
            · rw [hasB_false p2]
              have P2 := Lib.hid p2
              clear p2
              go_wp2_with fail
              refine (sl4At s t.fName a1 _ _ a4 c1 c2 c3 c4 w3 hlo (H.out.r.objects.below B3.out)).mono ?_
              rintro e w4 ⟨r, rfl, hat, hb4⟩
              have B4 := Lib.hid (B3.out.trans (hb4.mono B3.out.size))
              have X4 := Lib.hid (X3.out.below hb4 X3.out.lt)
              have Hr := Lib.hid (Hat.out r hat)
              clear hat hb4
              by_cases p3 : r < (k : Int)
              · obtain ⟨i, hi, hik, h1⟩ := Hr.out.1 p3
                have Hv := Lib.hid (Htw.out i hik h1)
                clear h1
                go_wp2_with fail
                go_ret
                exact ⟨by rw [Hv.out]; rfl, B4.out⟩
              · have Hv := Lib.hid (Hnx.out ⟨P1.out, P2.out⟩ (Hr.out.2 (by omega)))
                go_wp2_with fail
                go_round
                case rel => exact ⟨k + 1, by go_num, by omega, Hv.out, X4.out, B4.out⟩
                case measure => simp [intOf]; omega
          · rw [objAllB_false p1] at hob
            have Hob := Lib.hid hob
            have Hv := Lib.hid (Hbad.out (fun h => p1 h.1))
            clear hob p1
            go_wp2_with fail
            refine Hob.out.mono ?_
            rintro e w3 ⟨rfl, hb3⟩
            have B3 := Lib.hid (Hbel2.out.trans (hb3.mono Hbel2.out.size))
            clear hb3
            go_wp2_with fail
            go_ret
            exact ⟨by rw [Hv.out]; rfl, B3.out⟩
        · have Hos := Lib.hid (show objsTo s s.fObjects.length by rw [← show k = s.fObjects.length by omega]; exact Hto.out)
          have Hbel := Lib.hid hbel
          have x4 := HX.out.cell 4
          simp at x4
          clear Hto hbel
          go_wp2_with fail
          clear x4
          go_loopw [69] (fun i wr => ∃ k : Nat, i = .int .i64 k ∧ k ≤ s.fUses.length ∧ usesTo s.fImports s.fUses k ∧ Box wr w.heap.size 35 (scopeC s a1 a2 a3 a4 c1 c2 c3 c4) ∧ Below w.heap.size w wr) (fun i _ => s.fUses.length - (intOf i).toNat)
          case atStart => exact ⟨0, rfl, by omega, uses_zero, HX.out, Hbel.out⟩
          case round =>
            clear hlt hk HX Hbel
            obtain ⟨k, rfl, hk, hto, hX, hbel⟩ := hrel
            have Hto := Lib.hid hto
            have HX := Lib.hid hX
            clear hto hX
            obtain ⟨wo, hwo⟩ : ∃ x, x = wr := ⟨_, rfl⟩
            subst hwo
            by_cases hlt : k < s.fUses.length
            · obtain ⟨b, o, hba, hb1, e0, e1⟩ := use_at H.out.r.uses hlt hbel
              have Hbad := Lib.hid (fun h => scope_use_bad (s := s) hlt h)
              have Htw := Lib.hid (fun i (hik : i < k) h => scope_use_twice (s := s) hik hlt h)
              have Hnx := Lib.hid (uses_next hlt Hto.out)
              obtain ⟨s1, s2⟩ := H.out.mu _ (List.getElem_mem hlt)
              have hbel2 := hbel.alloc hbel.size (.cells #[.string s.fUses[k].fMod, .string s.fUses[k].fName] 102)
              have hX2 := HX.out.alloc (.cells #[.string s.fUses[k].fMod, .string s.fUses[k].fName] 102)
              have x1 := hX2.cell 1
              have x4 := hX2.cell 4
              simp at x1 x4
              have hsz := hbel.size
              have lt0 := HX.out.lt
              have Y2 := Lib.hid (Box.new wo 102 #[.string s.fUses[k].fMod, .string s.fUses[k].fName])
              have Hbel2 := Lib.hid hbel2
              have HX2 := Lib.hid hX2
              have Hh := Lib.hid (sl4Has a1 c1 s.fImports s.fUses[k].fMod (wo.alloc (.cells #[.string s.fUses[k].fMod, .string s.fUses[k].fName] 102)) hli (H.out.r.imports.below hbel2))
              clear hbel hX2 hbel2
              subst hba
              generalize hz : s.fUses[k] = t at *
              have Hz := Lib.hid hz
              clear hz
              by_cases p1 : t.fMod ∈ s.fImports
              · have hhas := hasB_true p1
                by_cases p2 : nameP t.fName
                · have hq := nameB_true p2
                  have Hok := Lib.hid (show useOk s.fImports t from ⟨p2, p1⟩)
                  clear p1 p2
                  go_wp2_with (first | (go_at_call 39; refine (sl1Name _ _ s2).mono ?_; rw [hq]; rintro e w' ⟨rfl, rfl⟩) | (go_at_call 40; refine Hh.out.mono ?_; rw [hhas]; rintro e w' ⟨rfl, rfl⟩))
                  clear x1 x4
                  go_loopw [91] (fun i wr => ∃ q : Nat, i = .int .i64 q ∧ q ≤ k ∧ (∀ i (hi : i < s.fUses.length), i < q → s.fUses[i] ≠ t) ∧ Below (wo.alloc (.cells #[.string t.fMod, .string t.fName] 102)).heap.size (wo.alloc (.cells #[.string t.fMod, .string t.fName] 102)) wr) (fun i _ => k - (intOf i).toNat)
                  case atStart => exact ⟨0, rfl, by omega, fun _ _ h => absurd h (by omega), Below.refl _ _⟩
                  case round =>
                    obtain ⟨q, rfl, hqk, hno, hbj⟩ := hrel
                    have Hno := Lib.hid hno
                    have hB := Y2.out.below hbj (by simp)
                    have y0 := hB.cell 0
                    have y1 := hB.cell 1
                    have l1 := hB.lt
                    simp at y0 y1
                    have Bj := Lib.hid (Hbel2.out.trans (hbj.mono Hbel2.out.size))
                    have Xj := Lib.hid (HX2.out.below hbj HX2.out.lt)
                    have Hbj := Lib.hid hbj
                    clear hno hB hbj
                    by_cases hqlt : q < k
                    · have hql : q < s.fUses.length := by omega
                      obtain ⟨b', o', hbo, hb1', g0, g1⟩ := use_at H.out.r.uses hql Bj.out
                      injection hbo with hbo
                      injection hbo with hbo1 hbo2
                      subst hbo1
                      subst hbo2
                      have Hsame := Lib.hid (fun (h : s.fUses[q] = t) => Htw.out q hqlt h)
                      have Hno2 := Lib.hid (show ∀ (h : s.fUses[q] ≠ t), ∀ i (hi : i < s.fUses.length), i < q + 1 → s.fUses[i] ≠ t from fun h i hi hiq => by
                        by_cases e : i = q
                        · subst e; exact h
                        · exact Hno.out i hi (by omega))
                      have l2 : wo.heap.size ≠ wr.heap.size := by omega
                      have Bj2 := Lib.hid (Bj.out.alloc Bj.out.size (.cells #[.string s.fUses[q].fMod, .string s.fUses[q].fName] 102))
                      have Hbj2 := Lib.hid (Hbj.out.alloc Hbj.out.size (.cells #[.string s.fUses[q].fMod, .string s.fUses[q].fName] 102))
                      generalize s.fUses[q] = g at *
                      have heq := eqUse t.fMod t.fName g.fMod g.fName
                      by_cases hsm : g = t
                      · have Hv := Lib.hid (Hsame.out hsm)
                        rw [(use_bool (u := t) (v := g)).2 hsm.symm] at heq
                        clear hsm
                        go_wp2_with fail
                        go_ret
                        exact ⟨by rw [Hv.out]; rfl, Bj2.out⟩
                      · have Hn := Lib.hid (Hno2.out hsm)
                        rw [Bool.eq_false_iff.2 (fun h => hsm ((use_bool (u := t) (v := g)).1 h).symm)] at heq
                        clear hsm
                        go_wp2_with fail
                        go_round
                        case rel => exact ⟨q + 1, by go_num, by omega, Hn.out, Hbj2.out⟩
                        case measure => simp [intOf]; omega
                    · obtain rfl : q = k := by omega
                      have Hn := Lib.hid (Hnx.out Hok.out Hno.out)
                      go_wp2_with fail
                      go_round
                      case rel => exact ⟨q + 1, by go_num, by omega, Hn.out, Xj.out, Bj.out⟩
                      case measure => simp [intOf]; omega
                · have hq := nameB_false p2
                  have Hv := Lib.hid (Hbad.out (fun h => p2 h.1))
                  clear p1 p2
                  go_wp2_with (first | (go_at_call 39; refine (sl1Name _ _ s2).mono ?_; rw [hq]; rintro e w' ⟨rfl, rfl⟩) | (go_at_call 40; refine Hh.out.mono ?_; rw [hhas]; rintro e w' ⟨rfl, rfl⟩))
                  go_ret
                  exact ⟨by rw [Hv.out]; rfl, Hbel2.out⟩
              · have hhas := hasB_false p1
                have Hv := Lib.hid (Hbad.out (fun h => p1 h.2))
                clear p1
                go_wp2_with (go_at_call 40; refine Hh.out.mono ?_; rw [hhas]; rintro e w' ⟨rfl, rfl⟩)
                go_ret
                exact ⟨by rw [Hv.out]; rfl, Hbel2.out⟩
            · have Hus := Lib.hid (show usesTo s.fImports s.fUses s.fUses.length by rw [← show k = s.fUses.length by omega]; exact Hto.out)
              have Hbel := Lib.hid hbel
              have x0 := HX.out.cell 0
              have x2 := HX.out.cell 2
              simp at x0 x2
              clear Hto hbel
              by_cases p1 : nameP s.fName
              · have hq := nameB_true p1
                have P1 := Lib.hid p1
                clear p1
                have hgood := sl3Good a2 c2 s.fTypes wo H.out.lt H.out.kt.1 H.out.kt.2 H.out.mt (H.out.r.types.below Hbel.out)
                by_cases p2 : good s.fTypes
                · rw [goodB_true p2] at hgood
                  have P2 := Lib.hid p2
                  have Hgood := Lib.hid hgood
                  clear p2 hgood
                  go_wp2_with (go_at_call 39; refine (sl1Name _ _ hnm).mono ?_; rw [hq]; rintro e w' ⟨rfl, rfl⟩)
                  refine Hgood.out.mono ?_
                  rintro e w3 ⟨rfl, hb3⟩
                  have B3 := Lib.hid (Hbel.out.trans (hb3.mono Hbel.out.size))
                  have X3 := Lib.hid (HX.out.below hb3 HX.out.lt)
                  have z1 := X3.out.cell 1
                  have z3 := X3.out.cell 3
                  have z4 := X3.out.cell 4
                  simp at z1 z3 z4
                  clear hb3 Hgood x0 x2
                  by_cases h4 : s.fImports.length ≤ 4
                  · have d4 : decide ((s.fImports.length : Int) ≤ 4) = true := decide_eq_true (by omega)
                    by_cases h16 : s.fObjects.length ≤ 16
                    · have d16 : decide ((s.fObjects.length : Int) ≤ 16) = true := decide_eq_true (by omega)
                      by_cases h40 : s.fUses.length ≤ 40
                      · have d40 : decide ((s.fUses.length : Int) ≤ 40) = true := decide_eq_true (by omega)
                        have Hv := Lib.hid (scopeB_true (scope_of Him.out Hos.out Hus.out P1.out P2.out h4 h16 h40))
                        go_wp2_with fail
                        go_ret
                        exact ⟨by rw [Hv.out]; rfl, B3.out⟩
                      · have d40 : decide ((s.fUses.length : Int) ≤ 40) = false := decide_eq_false (by omega)
                        have Hv := Lib.hid (show scopeB s = false from scopeB_false (fun h => h40 h.2.2.2.2.1))
                        go_wp2_with fail
                        go_ret
                        exact ⟨by rw [Hv.out]; rfl, B3.out⟩
                    · have d16 : decide ((s.fObjects.length : Int) ≤ 16) = false := decide_eq_false (by omega)
                      have Hv := Lib.hid (show scopeB s = false from scopeB_false (fun h => h16 h.2.2.2.1.1))
                      go_wp2_with fail
                      go_ret
                      exact ⟨by rw [Hv.out]; rfl, B3.out⟩
                  · have d4 : decide ((s.fImports.length : Int) ≤ 4) = false := decide_eq_false (by omega)
                    have Hv := Lib.hid (show scopeB s = false from scopeB_false (fun h => h4 h.2.1.1))
                    go_wp2_with fail
                    go_ret
                    exact ⟨by rw [Hv.out]; rfl, B3.out⟩
                · rw [goodB_false p2] at hgood
                  have Hv := Lib.hid (show scopeB s = false from scopeB_false (fun h => p2 h.2.2.1))
                  have Hgood := Lib.hid hgood
                  clear p2 hgood
                  go_wp2_with (go_at_call 39; refine (sl1Name _ _ hnm).mono ?_; rw [hq]; rintro e w' ⟨rfl, rfl⟩)
                  refine Hgood.out.mono ?_
                  rintro e w3 ⟨rfl, hb3⟩
                  have B3 := Lib.hid (Hbel.out.trans (hb3.mono Hbel.out.size))
                  clear hb3 Hgood
                  go_wp2_with fail
                  go_ret
                  exact ⟨by rw [Hv.out]; rfl, B3.out⟩
              · have hq := nameB_false p1
                have Hv := Lib.hid (show scopeB s = false from scopeB_false (fun h => p1 h.1))
                clear p1
                go_wp2_with (go_at_call 39; refine (sl1Name _ _ hnm).mono ?_; rw [hq]; rintro e w' ⟨rfl, rfl⟩)
                go_ret
                exact ⟨by rw [Hv.out]; rfl, Hbel.out⟩
end Go.Proofs.YtllddjmcemcdhaaGreat
