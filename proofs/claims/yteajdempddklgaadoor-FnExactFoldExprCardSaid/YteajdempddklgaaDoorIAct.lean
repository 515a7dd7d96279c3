
/-
  What is proved: the contracts of the program's operatorOfKind and actionOf. No condition beside what each theorem states.
-/
import Derived.Test.YteajdempddklgaaDoorAct
import Derived.Deep.QuietTactic
import Derived.BigQuiet
import Derived.StillTailTactics
namespace Go.Proofs.YteajdempddklgaaDoor
open Go.ChangeShapes Go.WideShapes Go.ChangeAt Go.RowKit
set_option maxRecDepth 100000

theorem results_oper {fn : Func} {p u : Tmp} (h : fn.results = #[.cell p 183, .tmp u]) (tmps : Array Value) (w : World) (g : Nat) (cs : Array Value) (hp : tmps.getD p undef = .pointer (some ⟨g, 0, none⟩)) (hb : Box w g 183 cs) (hc : cs.size = 3) :
    (results fn tmps).run Tryd.prog w = .ok (.tuple #[.agg cs, tmps.getD u undef]) w := by
  have hl : (loadVar 183 ⟨g, 0, none⟩).run Tryd.prog w = .ok (.agg cs) w := run_loadVar_row w g _ _ cs (0, 0) _ hb Tryd.underlying183 rfl (by rw [hc]; kernel_rfl)
  rw [results_cell_tmp h, hp]
  simp [asAddr, hl]

def PostOp (kd : Int) (w : World) (e : Ending) (w' : World) : Prop :=
  ((∃ j : Nat, j < 5 ∧ kd = 3 + (j : Int) ∧ e = .returned (.tuple #[.agg #[.int .i64 (opK j), .string (opT j), .int .i64 (opS j)], .bool true])) ∨
   ((¬ ∃ j : Nat, j < 5 ∧ kd = 3 + (j : Int)) ∧ e = .returned (.tuple #[.agg #[.int .i64 0, .string ByteArray.empty, .int .i64 0], .bool false]))) ∧ Below w.heap.size w w'

theorem operIdx (k : Nat) (W : World) (h : k < 5) : (Instr.index 216 (.agg #[.int .i64 3, .string ⟨#[43]⟩, .int .i64 1, .int .i64 4, .string ⟨#[45]⟩, .int .i64 1, .int .i64 5, .string ⟨#[42]⟩, .int .i64 2, .int .i64 6, .string ⟨#[68, 73, 86]⟩, .int .i64 2, .int .i64 7, .string ⟨#[77, 79, 68]⟩, .int .i64 2]) (.int .i64 (k : Int))).run Tryd.prog W = .ok (.agg #[.int .i64 (opK k), .string (opT k), .int .i64 (opS k)]) W := by
  match k, h with
  | 0, _ | 1, _ | 2, _ | 3, _ | 4, _ =>
    show (Instr.index _ _ _).run _ _ = _
    kernel_rfl
  | n + 5, h => omega

theorem cellK {w : World} {t : TypeId} (hk : w.heap[1]? = some (.cells wordsA t (0, 0))) (i : Nat) : w.cell? ⟨1, i, none⟩ = wordsA[i]? := cell_of_row w _ i wordsA t (0, 0) hk

set_option maxHeartbeats 2000000 in
theorem iOperOf (kd : Int) (w : World) (hk : Kept w) : Calls Tryd.prog 110 #[.int .i64 kd] w (PostOp kd w) := by
  obtain ⟨t, hk⟩ := hk.alloc (.cells #[.int .i64 0, .string ⟨#[]⟩, .int .i64 0] 183)
  have c0 := cellK hk 0
  have c1 := cellK hk 1
  have c2 := cellK hk 2
  have c3 := cellK hk 3
  have c4 := cellK hk 4
  have c5 := cellK hk 5
  have c6 := cellK hk 6
  have c7 := cellK hk 7
  have c8 := cellK hk 8
  have c9 := cellK hk 9
  have c10 := cellK hk 10
  have c11 := cellK hk 11
  have c12 := cellK hk 12
  have c13 := cellK hk 13
  have c14 := cellK hk 14
  simp only [show wordsA = #[.int .i64 3, .string ⟨#[43]⟩, .int .i64 1, .int .i64 4, .string ⟨#[45]⟩, .int .i64 1, .int .i64 5, .string ⟨#[42]⟩, .int .i64 2, .int .i64 6, .string ⟨#[68, 73, 86]⟩, .int .i64 2, .int .i64 7, .string ⟨#[77, 79, 68]⟩, .int .i64 2] from rfl] at c0 c1 c2 c3 c4 c5 c6 c7 c8 c9 c10 c11 c12 c13 c14
  simp at c0 c1 c2 c3 c4 c5 c6 c7 c8 c9 c10 c11 c12 c13 c14
  have Hi := Lib.hid operIdx
  clear hk
  go_enter Tryd.func110, Tryd.ntmps110
  go_wp2_with fail
  go_loopw [7] (fun i wr => ∃ k : Nat, i = .int .i64 k ∧ k ≤ 5 ∧ (∀ j : Nat, j < k → kd ≠ 3 + (j : Int)) ∧ Box wr w.heap.size 183 #[.int .i64 0, .string ⟨#[]⟩, .int .i64 0] ∧ Below w.heap.size w wr) (fun i _ => 5 - (intOf i).toNat)
  case atStart => exact ⟨0, rfl, by omega, fun j hj => absurd hj (by omega), Box.new _ _ _, (Below.refl _ _).alloc (Nat.le_refl _) _⟩
  case round =>
    clear c0 c1 c2 c3 c4 c5 c6 c7 c8 c9 c10 c11 c12 c13 c14
    obtain ⟨k, rfl, hk5, hno, hb, hbel⟩ := hrel
    have Hno := Lib.hid hno
    have g0 := hb.cell 0
    have g1 := hb.cell 1
    have g2 := hb.cell 2
    have f0 := hb.free 0
    have f1 := hb.free 1
    have f2 := hb.free 2
    have hsz := hbel.size
    have hlx := hb.lt
    simp at g0 g1 g2
    have Hb := Lib.hid hb
    have Hbel := Lib.hid hbel
    clear hno hb hbel
    by_cases hlt : k < 5
    · have hx := fun W => Hi.out k W hlt
      have Hk := Lib.hid (opK_eq hlt)
      by_cases he : kd = opK k
      · have Hw := Lib.hid (show ∃ j : Nat, j < 5 ∧ kd = 3 + (j : Int) from ⟨k, hlt, by rw [← Hk.out]; exact he⟩)
        have hb := beq_iff_eq.2 he.symm
        have He := Lib.hid he
        clear he
        generalize hq0 : opK k = z0 at *
        generalize hq1 : opT k = z1 at *
        generalize hq2 : opS k = z2 at *
        go_wp2_with fail
        refine bodyPost_ret (results_oper rfl _ _ w.heap.size #[.int .i64 z0, .string z1, .int .i64 z2] rfl ((((Hb.out.set 0 _).set 1 _).set 2 _).alloc _) rfl) rfl ?_
        refine ⟨.inl ⟨k, hlt, by rw [← Hk.out]; exact He.out, ?_⟩, (((Hbel.out.setCell (Nat.le_refl _) _).setCell (Nat.le_refl _) _).setCell (Nat.le_refl _) _).alloc (by simp; omega) _⟩
        rw [hq0, hq1, hq2]
        rfl
      · have Hno' := Lib.hid (show ∀ j : Nat, j < k + 1 → kd ≠ 3 + (j : Int) from fun j hj => by
          by_cases e : j = k
          · rw [e, ← Hk.out]; exact he
          · exact Hno.out j (by omega))
        have hb : (opK k == kd) = false := beq_eq_false_iff_ne.2 (fun e => he e.symm)
        clear he
        generalize opK k = z0 at *
        generalize opT k = z1 at *
        generalize opS k = z2 at *
        go_wp2_with fail
        exact ⟨⟨k + 1, by congr 1, by omega, Hno'.out, Hb.out.alloc _, Hbel.out.alloc hsz _⟩, by simp [intOf]; omega⟩
    · have Hw := Lib.hid (show ¬ ∃ j : Nat, j < 5 ∧ kd = 3 + (j : Int) from fun ⟨j, h1, h2⟩ => Hno.out j (by omega) h2)
      go_wp2_with fail
      refine bodyPost_ret (results_oper rfl _ _ w.heap.size #[.int .i64 0, .string ⟨#[]⟩, .int .i64 0] rfl (((Hb.out.set 0 _).set 1 _).set 2 _) rfl) rfl ?_
      exact ⟨.inr ⟨Hw.out, rfl⟩, ((Hbel.out.setCell (Nat.le_refl _) _).setCell (Nat.le_refl _) _).setCell (Nat.le_refl _) _⟩

theorem four_false {a b c d : Bool} (h : ¬ (a = true ∧ b = true ∧ c = true ∧ d = true)) : (a && (b && (c && d))) = false := by
  cases a <;> cases b <;> cases c <;> cases d <;> simp_all
theorem empty_beq (s : ByteArray) : (s.toList == ByteArray.empty.toList) = true ↔ s = ByteArray.empty := by
  rw [beq_iff_eq]
  exact ⟨fun h => ByteArray.ext (Array.ext' (by simpa [ByteArray.toList_eq] using h)), fun h => by rw [h]⟩

theorem empty_not {s : ByteArray} (h : s ≠ ByteArray.empty) : s.toList.isEmpty = false := by
  rw [ByteArray.toList_eq]
  cases hh : s.data.toList.isEmpty
  · rfl
  · exact absurd (ByteArray.ext (Array.ext' (List.isEmpty_iff.1 hh))) h

theorem quietL {P : Program} {f : FuncId} {args : Array Value} {w : World} {n : Nat} {v : Value} (h : Calls P f args (w.drewN n) fun e w' => e = .returned v ∧ w.drewN n = w') :
    Calls P f args (w.drewN n) fun e w'' => e = .returned v ∧ ∃ m, w'' = w.drewN m :=
  Calls.quiet_of_same (h.mono fun _ _ ⟨h1, h2⟩ => ⟨h1, h2.symm⟩)

theorem goodAs {s : ByteArray} {b : Bool} {w : World} {n : Nat} (h : nameB s = b) (hs : s.size ≤ maxLen) : Calls Tryd.prog 109 #[.string s] (w.drewN n) fun e w'' => e = .returned (.bool b) ∧ ∃ m, w'' = w.drewN m :=
  quietL (h ▸ iGoodName s _ hs)

def PostAct (s : StepD) (w : World) (e : Ending) (w' : World) : Prop :=
  (∃ v ok, e = .returned (.tuple #[v, .bool ok]) ∧ ((∃ a, IsAct s a ∧ v = a.val ∧ ok = true) ∨ ((∀ a, ¬ IsAct s a) ∧ ok = false))) ∧ Below w.heap.size w w'

set_option maxHeartbeats 4000000 in
theorem iActionOf (s : StepD) (w : World) (hk : Kept w) (hn : s.fName.size ≤ maxLen) (hm : s.fMod.size ≤ maxLen) : Calls Tryd.prog 76 #[.agg #[.int .i64 s.fKind, .int .i64 s.fValue, .string s.fMod, .string s.fName]] w (PostAct s w) := by
  obtain ⟨kd, vl, md, nm⟩ := s
  dsimp only at hn hm ⊢
  have He := Lib.hid eqStep
  have B0 := Lib.hid ((Below.refl w.heap.size w).alloc (Nat.le_refl _) (.cells #[.int .i64 kd, .int .i64 vl, .string md, .string nm] 72))
  have X0 := Lib.hid (Box.new w 72 #[.int .i64 kd, .int .i64 vl, .string md, .string nm])
  have HK := Lib.hid (hk.alloc (.cells #[.int .i64 kd, .int .i64 vl, .string md, .string nm] 72))
  clear hk
  go_enter Tryd.func76, Tryd.ntmps76
  have r1 := fun W => He.out kd vl 1 vl md nm ⟨#[]⟩ ⟨#[]⟩ W
  by_cases h1 : kd = 1 ∧ md = ByteArray.empty ∧ nm = ByteArray.empty
  · obtain ⟨rfl, rfl, rfl⟩ := h1
    replace r1 := fun W => (r1 W).trans (show _ = Result.ok true W by simp)
    by_cases g1 : 0 ≤ vl
    · by_cases g2 : vl ≤ 1000000000
      · go_wp2_with fail
        go_region
        go_wp2_with fail
        go_ret2
        exact ⟨⟨_, _, rfl, .inl ⟨_, .inl ⟨rfl, rfl, rfl, g1, g2, rfl⟩, rfl, rfl⟩⟩, B0.out.drew⟩
      · have g2b : decide (vl ≤ 1000000000) = false := decide_eq_false g2
        go_wp2_with fail
        go_region
        go_wp2_with fail
        go_ret2
        refine ⟨⟨_, _, rfl, .inr ⟨?_, rfl⟩⟩, B0.out.drew⟩
        rintro a (⟨_, _, _, _, h, _⟩ | ⟨h, _⟩ | ⟨h, _⟩ | ⟨j, _, h, _⟩)
        · have h : vl ≤ 1000000000 := h
          omega
        · cases h
        · cases h
        · simp at h; omega
    · have g1b : decide (0 ≤ vl) = false := decide_eq_false g1
      go_wp2_with fail
      go_region
      go_wp2_with fail
      go_ret2
      refine ⟨⟨_, _, rfl, .inr ⟨?_, rfl⟩⟩, B0.out.drew⟩
      rintro a (⟨_, _, _, h, _⟩ | ⟨h, _⟩ | ⟨h, _⟩ | ⟨j, _, h, _⟩)
      · have h : 0 ≤ vl := h
        omega
      · cases h
      · cases h
      · simp at h; omega
  have q1 : ((kd == 1) && ((vl == vl) && ((md.toList == ByteArray.empty.toList) && (nm.toList == ByteArray.empty.toList)))) = false := four_false (by
    rintro ⟨g1, g2, g3, g4⟩
    exact h1 ⟨beq_iff_eq.1 g1, (empty_beq _).1 g3, (empty_beq _).1 g4⟩)
  replace r1 := fun W => (r1 W).trans (congrArg (fun b => Result.ok b W) q1)
  have H1 := Lib.hid h1
  clear h1 q1
  have r2 := fun W => He.out kd vl 2 0 md nm md nm W
  by_cases h2 : kd = 2 ∧ vl = 0
  · obtain ⟨rfl, rfl⟩ := h2
    replace r2 := fun W => (r2 W).trans (show _ = Result.ok true W by simp)
    have kOther : ∀ a, IsAct ⟨2, 0, md, nm⟩ a → nameP nm ∧ (md = ByteArray.empty ∨ nameP md) := by
      rintro a (⟨h, _⟩ | ⟨_, _, h1, h2, _⟩ | ⟨h, _⟩ | ⟨j, _, h, _⟩)
      · cases h
      · exact ⟨h1, h2⟩
      · cases h
      · simp at h; omega
    have KO := Lib.hid kOther
    clear kOther r2 r1
    by_cases g1 : nameP nm
    · have d1 := nameB_true g1
      by_cases g2 : md = ByteArray.empty
      · have b2 : (md.toList == ByteArray.empty.toList) = true := (empty_beq md).2 g2
        have b3 : md.toList.isEmpty = true := by rw [g2, ByteArray.toList_eq]; rfl
        have G2 := Lib.hid g2
        clear g2
        go_wp2_with fail
        have X := X0.out
        have x2 : _ = some (Value.string md) := X.cell 2
        have x3 : _ = some (Value.string nm) := X.cell 3
        have hwd := B0.out
        clear X X0 B0 HK
        generalize w.alloc (.cells #[.int .i64 2, .int .i64 0, .string md, .string nm] 72) = wq at *
        go_quiet ((go_at_call 109; exact goodAs d1 (by assumption)))
        replace hwd := belowN hwd nq
        go_wp2_with fail
        go_ret2
        exact ⟨⟨_, _, rfl, .inl ⟨_, .inr (.inl ⟨rfl, rfl, g1, .inl G2.out, rfl⟩), rfl, rfl⟩⟩, hwd⟩
      · have b2 : (md.toList == ByteArray.empty.toList) = false := by
          cases hq : (md.toList == ByteArray.empty.toList)
          · rfl
          · exact absurd ((empty_beq md).1 hq) g2
        have b3 : md.toList.isEmpty = false := empty_not g2
        have G2 := Lib.hid g2
        clear g2
        by_cases g3 : nameP md
        · have d2 := nameB_true g3
          go_wp2_with fail
          have X := X0.out
          have x2 : _ = some (Value.string md) := X.cell 2
          have x3 : _ = some (Value.string nm) := X.cell 3
          have hwd := B0.out
          clear X X0 B0 HK
          generalize w.alloc (.cells #[.int .i64 2, .int .i64 0, .string md, .string nm] 72) = wq at *
          go_quiet ((go_at_call 109; exact goodAs (by first | exact d1 | exact d2) (by assumption)))
          replace hwd := belowN hwd nq
          go_wp2_with fail
          go_ret2
          exact ⟨⟨_, _, rfl, .inl ⟨_, .inr (.inl ⟨rfl, rfl, g1, .inr g3, rfl⟩), rfl, rfl⟩⟩, hwd⟩
        · have d2 := nameB_false g3
          go_wp2_with fail
          have X := X0.out
          have x2 : _ = some (Value.string md) := X.cell 2
          have x3 : _ = some (Value.string nm) := X.cell 3
          have hwd := B0.out
          clear X X0 B0 HK
          generalize w.alloc (.cells #[.int .i64 2, .int .i64 0, .string md, .string nm] 72) = wq at *
          go_quiet ((go_at_call 109; exact goodAs (by first | exact d1 | exact d2) (by assumption)))
          replace hwd := belowN hwd nq
          go_wp2_with fail
          go_ret2
          exact ⟨⟨_, _, rfl, .inr ⟨fun a ha => ((KO.out a ha).2.elim G2.out g3).elim, rfl⟩⟩, hwd⟩
    · have d1 := nameB_false g1
      go_wp2_with fail
      have X := X0.out
      have x2 : _ = some (Value.string md) := X.cell 2
      have x3 : _ = some (Value.string nm) := X.cell 3
      have hwd := B0.out
      clear X X0 B0 HK
      generalize w.alloc (.cells #[.int .i64 2, .int .i64 0, .string md, .string nm] 72) = wq at *
      go_quiet ((go_at_call 109; exact goodAs d1 (by assumption)))
      replace hwd := belowN hwd nq
      go_wp2_with fail
      go_ret2
      exact ⟨⟨_, _, rfl, .inr ⟨fun a ha => (g1 (KO.out a ha).1).elim, rfl⟩⟩, hwd⟩
  have q2 : ((kd == 2) && ((vl == 0) && ((md.toList == md.toList) && (nm.toList == nm.toList)))) = false := four_false (by
    rintro ⟨g1, g2, g3, g4⟩
    exact h2 ⟨beq_iff_eq.1 g1, beq_iff_eq.1 g2⟩)
  replace r2 := fun W => (r2 W).trans (congrArg (fun b => Result.ok b W) q2)
  have H2 := Lib.hid h2
  clear h2 q2
  have r3 := fun W => He.out kd vl 8 0 md nm ⟨#[]⟩ ⟨#[]⟩ W
  have r4 := fun W => He.out kd vl kd 0 md nm ⟨#[]⟩ ⟨#[]⟩ W
  by_cases h4 : vl = 0 ∧ md = ByteArray.empty ∧ nm = ByteArray.empty
  · obtain ⟨rfl, rfl, rfl⟩ := h4
    replace r4 := fun W => (r4 W).trans (show _ = Result.ok true W by simp)
    by_cases h3 : kd = 8
    · subst h3
      replace r3 := fun W => (r3 W).trans (show _ = Result.ok true W by simp)
      go_wp2_with fail
      go_ret2
      exact ⟨⟨_, _, rfl, .inl ⟨.minus, .inr (.inr (.inl ⟨rfl, ⟨rfl, rfl, rfl⟩, rfl⟩)), rfl, rfl⟩⟩, B0.out⟩
    have q3 : ((kd == 8) && (((0 : Int) == 0) && ((ByteArray.empty.toList == ByteArray.empty.toList) && (ByteArray.empty.toList == ByteArray.empty.toList)))) = false := four_false (by
      rintro ⟨g1, g2, g3, g4⟩
      exact h3 (beq_iff_eq.1 g1))
    replace r3 := fun W => (r3 W).trans (congrArg (fun b => Result.ok b W) q3)
    have H3 := Lib.hid h3
    clear h3 q3
    go_wp2_with fail
    refine (iOperOf kd _ HK.out).mono ?_
    rintro e w1 ⟨⟨j, hj, hkj, rfl⟩ | ⟨hno, rfl⟩, hb1⟩
    · have HJ := Lib.hid hkj
      have B1 := Lib.hid (B0.out.trans (hb1.mono B0.out.size))
      clear hkj hb1
      go_wp2_with fail
      go_ret2
      exact ⟨⟨_, _, rfl, .inl ⟨.pair j, .inr (.inr (.inr ⟨j, hj, HJ.out, ⟨rfl, rfl, rfl⟩, rfl⟩)), rfl, rfl⟩⟩, B1.out.alloc B1.out.size _⟩
    · have HN := Lib.hid hno
      have B1 := Lib.hid (B0.out.trans (hb1.mono B0.out.size))
      clear hno hb1
      go_wp2_with fail
      go_ret2
      refine ⟨⟨_, _, rfl, .inr ⟨?_, rfl⟩⟩, B1.out.alloc B1.out.size _⟩
      rintro a (⟨h, h2, h3, _⟩ | ⟨h, h2, _⟩ | ⟨h, _⟩ | ⟨j, hj, h, _⟩)
      · exact H1.out ⟨h, by simp, by simp⟩
      · exact H2.out ⟨h, by simp⟩
      · exact H3.out h
      · exact HN.out ⟨j, hj, h⟩
  have q3 : ((kd == 8) && ((vl == 0) && ((md.toList == ByteArray.empty.toList) && (nm.toList == ByteArray.empty.toList)))) = false := four_false (by
    rintro ⟨g1, g2, g3, g4⟩
    exact h4 ⟨beq_iff_eq.1 g2, (empty_beq _).1 g3, (empty_beq _).1 g4⟩)
  have q4 : ((kd == kd) && ((vl == 0) && ((md.toList == ByteArray.empty.toList) && (nm.toList == ByteArray.empty.toList)))) = false := four_false (by
    rintro ⟨g1, g2, g3, g4⟩
    exact h4 ⟨beq_iff_eq.1 g2, (empty_beq _).1 g3, (empty_beq _).1 g4⟩)
  replace r3 := fun W => (r3 W).trans (congrArg (fun b => Result.ok b W) q3)
  replace r4 := fun W => (r4 W).trans (congrArg (fun b => Result.ok b W) q4)
  have H4 := Lib.hid h4
  clear h4 q3 q4
  go_wp2_with fail
  go_ret2
  refine ⟨⟨_, _, rfl, .inr ⟨?_, rfl⟩⟩, B0.out⟩
  rintro a (⟨h, h2, h3, _⟩ | ⟨h, h2, _⟩ | ⟨_, h, _⟩ | ⟨j, hj, _, h, _⟩)
  · exact H1.out ⟨h, h2, h3⟩
  · exact H2.out ⟨h, h2⟩
  · exact H4.out h
  · exact H4.out h
end Go.Proofs.YteajdempddklgaaDoor
