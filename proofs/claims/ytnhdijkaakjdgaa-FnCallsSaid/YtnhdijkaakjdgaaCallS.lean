
/-
  What is proved: the contract of the model's MayCall. No condition beside what each theorem states.
-/
import Derived.Test.YtnhdijkaakjdgaaCall
namespace Go.Proofs.Ytnhdijkaakjdgaa
open Go.ChangeShapes Go.WideShapes Go.ChangeAt Go.RowKit
set_option maxRecDepth 100000

def PostAll (ys : List Int) (lo hi : Int) (w : World) (e : Ending) (w' : World) : Prop := ∃ q : Bool, e = .returned (.bool q) ∧ (q = true ↔ ∀ y ∈ ys, lo ≤ y ∧ y ≤ hi) ∧ w = w'
set_option maxHeartbeats 4000000 in
theorem sl1All (ya : Option Addr) (yc : Nat) (ys : List Int) (lo hi : Int) (w : World) (hl : ys.length ≤ 1048576) (hr : Nums w ya ys) :
    Calls Try.prog 35 #[.slice ya ys.length yc, .int .i64 lo, .int .i64 hi] w (PostAll ys lo hi w) := by
  have Hr := Lib.hid hr
  clear hr
  go_enter Try.func35, Try.ntmps35
  go_wp2_with fail
  go_loop [11] (fun i => ∃ k : Nat, i = .int .i64 k ∧ k ≤ ys.length ∧ ∀ j (hj : j < ys.length), j < k → lo ≤ ys[j] ∧ ys[j] ≤ hi) (fun i => ys.length - (intOf i).toNat)
  case atStart => exact ⟨0, rfl, by omega, fun j _ h => absurd h (by omega)⟩
  case round =>
    obtain ⟨k, rfl, hk, hyes⟩ := hrel
    have Hyes := Lib.hid hyes
    clear hyes
    by_cases hlt : k < ys.length
    · obtain ⟨b, o, rfl, _, g0⟩ := Hr.out k hlt
      have Hno := Lib.hid (show ¬ (lo ≤ ys[k] ∧ ys[k] ≤ hi) → ¬ ∀ y ∈ ys, lo ≤ y ∧ y ≤ hi from fun h g => h (g _ (List.getElem_mem hlt)))
      have Hnx := Lib.hid (show (lo ≤ ys[k] ∧ ys[k] ≤ hi) → ∀ j (hj : j < ys.length), j < k + 1 → lo ≤ ys[j] ∧ ys[j] ≤ hi from fun g j hj hjk => by
        by_cases e : j = k
        · subst e; exact g
        · exact Hyes.out j hj (by omega))
      generalize ys[k] = y at *
      by_cases hy : lo ≤ y ∧ y ≤ hi
      · have Hv := Lib.hid (Hnx.out hy)
        obtain ⟨y1, y2⟩ := hy
        go_wp2_with fail
        refine (sIn_yes _ _ _ _ y1 y2).mono ?_
        rintro e w1 ⟨rfl, rfl⟩
        clear y1 y2
        go_wp2_with fail
        go_round
        case rel => exact ⟨k + 1, by go_num, by omega, Hv.out⟩
        case measure => simp [intOf]; omega
      · have Hv := Lib.hid (Hno.out hy)
        go_wp2_with fail
        refine (sIn_no _ _ _ _ (by omega)).mono ?_
        rintro e w1 ⟨rfl, rfl⟩
        clear hy
        go_wp2_with fail
        go_ret
        exact ⟨false, rfl, ⟨fun h => (by cases h), fun h => absurd h Hv.out⟩, rfl⟩
    · have Hv := Lib.hid (show ∀ y ∈ ys, lo ≤ y ∧ y ≤ hi from fun y hy => by
        obtain ⟨j, hj, rfl⟩ := List.getElem_of_mem hy
        exact Hyes.out j hj (by omega))
      go_wp2_with fail
      go_ret
      exact ⟨true, rfl, ⟨fun _ => Hv.out, fun _ => rfl⟩, rfl⟩

set_option maxHeartbeats 32000000 in
theorem sMayCall (s : ScopeD) (n : Int) (a1 a2 a3 a4 : Option Addr) (c1 c2 c3 c4 : Nat) (ya : Option Addr) (yc : Nat) (ys : List Int) (w : World) (hm : ScopeM w a1 a2 a3 a4 c1 c2 c3 c4 s) (hyl : ys.length ≤ 1048576) (hy : Nums w ya ys) :
    Calls Try.prog 12 #[.agg (scopeC s a1 a2 a3 a4 c1 c2 c3 c4), .int .i64 n, .slice ya ys.length yc] w fun e w' => e = .returned (.tuple #[.bool (callA s n ys), .bool (callOk s n ys)]) ∧ Below w.heap.size w w' := by
  have B0 := Lib.hid ((Below.refl w.heap.size w).alloc (Nat.le_refl _) (.cells (scopeC s a1 a2 a3 a4 c1 c2 c3 c4) 36))
  have X0 := Lib.hid (scope_box w s a1 a2 a3 a4 c1 c2 c3 c4)
  have H := Lib.hid hm
  have hlt := hm.lt
  have hlo := hm.lo
  have Hy := Lib.hid hy
  have hg := sl4Good s a1 a2 a3 a4 c1 c2 c3 c4 _ (hm.below B0.out)
  have Hno := Lib.hid (@call_out s n ys)
  clear hm hy
  go_enter Try.func12, Try.ntmps12
  by_cases p1 : scopeP s
  · rw [scopeB_true p1] at hg
    have Hg := Lib.hid hg
    have P1 := Lib.hid p1
    clear hg p1
    go_wp2_with fail
    refine Hg.out.mono ?_
    rintro e w1 ⟨rfl, hb1⟩
    have B1 := Lib.hid (B0.out.trans (hb1.mono B0.out.size))
    have X1 := Lib.hid (X0.out.below hb1 X0.out.lt)
    clear hb1 Hg
    obtain ⟨x0, x1, x2, x3, x4⟩ := box5 X1.out
    by_cases hin : 0 ≤ n ∧ n < (s.fObjects.length : Int)
    · obtain ⟨k, rfl⟩ := Int.eq_ofNat_of_zero_le hin.1
      have hk : k < s.fObjects.length := by omega
      obtain ⟨b, o, pa, pc, hba, hb1, hrp, e0, e1, e2, e3, e4, e5⟩ := object_at H.out.r.objects hk B1.out
      subst hba
      have Hrp := Lib.hid hrp
      have Hcin := Lib.hid (fun (h : callP s (k : Int) ys) => call_in h hk)
      have Hpar := Lib.hid (fun (h4 : s.fObjects[k].fKind = 4) => call_params P1.out hk h4)
      have Hk4 := Lib.hid (show ¬ s.fObjects[k].fKind = 4 → ¬ callP s (k : Int) ys from fun h g => by
        obtain ⟨k', hk', e, h4⟩ := g.2.1
        have e : k = k' := by omega
        subst e
        exact h h4)
      have Hyes := Lib.hid (fun (h4 : s.fObjects[k].fKind = 4) (h5 : ys.length ≤ 4) (h6 : ∀ y ∈ ys, 0 ≤ y ∧ y < (s.fTypes.length : Int)) => show callP s (k : Int) ys from ⟨P1.out, ⟨k, hk, rfl, h4⟩, h5, h6⟩)
      clear hrp hin
      generalize s.fObjects[k] = t at *
      go_wp2_with fail
      refine (sIn_yes _ _ _ _ (by omega) (by omega)).mono ?_
      rintro e w2 ⟨rfl, rfl⟩
      by_cases h4 : t.fKind = 4
      · have hne : (t.fKind != 4) = false := by rw [bne_eq_false_iff_eq]; exact h4
        obtain ⟨hpl, hpt⟩ := Hpar.out h4
        have Hpt := Lib.hid hpt
        have H4 := Lib.hid h4
        clear hpt Hk4 Hpar h4
        by_cases h5 : ys.length ≤ 4
        · have hgt : ¬ (4 : Int) < (ys.length : Int) := by omega
          go_wp2_with fail
          refine (sl1All ya yc ys 0 ((s.fTypes.length : Int) - 1) w1 hyl (Hy.out.below B1.out)).mono ?_
          rintro e w3 ⟨q, rfl, hq, rfl⟩
          cases q
          · obtain ⟨u1, u2⟩ := Hno.out (fun g => by have := hq.2 (fun y hy => by have := g.2.2.2 y hy; omega); cases this)
            have U1 := Lib.hid u1
            have U2 := Lib.hid u2
            clear u1 u2 hq
            go_wp2_with fail
            go_ret2
            exact ⟨by rw [U1.out, U2.out]; rfl, B1.out⟩
          · have Hq := Lib.hid (show ∀ y ∈ ys, 0 ≤ y ∧ y < (s.fTypes.length : Int) from fun y hy => by have := hq.1 rfl y hy; omega)
            obtain ⟨u1, u2⟩ := Hcin.out (Hyes.out H4.out h5 Hq.out)
            have U1 := Lib.hid u1
            have U2 := Lib.hid u2
            clear u1 u2 hq
            by_cases hlen : t.fParams.length = ys.length
            · have hnl : ((t.fParams.length : Int) != (ys.length : Int)) = false := by rw [bne_eq_false_iff_eq]; omega
              have Hlen := Lib.hid hlen
              clear hlen
              go_wp2_with fail
              go_loopw [59] (fun x wr => ∃ i : Nat, x = .int .i64 i ∧ i ≤ t.fParams.length ∧ (∀ j (h : j < t.fParams.length) (h' : j < ys.length), j < i → passQ s.fTypes t.fParams[j] ys[j]) ∧ Below w1.heap.size w1 wr) (fun x _ => t.fParams.length - (intOf x).toNat)
              case atStart => exact ⟨0, rfl, by omega, fun j _ _ h => absurd h (by omega), Below.refl _ _⟩
              case round =>
                obtain ⟨i, rfl, hi, hyes, hbel⟩ := hrel
                have Hyes2 := Lib.hid hyes
                have Hbel := Lib.hid hbel
                clear hyes
                obtain ⟨wo, hwo⟩ : ∃ x, x = wr := ⟨_, rfl⟩
                subst hwo
                by_cases hlt2 : i < t.fParams.length
                · have hly : i < ys.length := by have := Hlen.out; omega
                  have Bo := Lib.hid (B1.out.trans (hbel.mono B1.out.size))
                  obtain ⟨bp, op, rfl, hbp, p0, p1, p2⟩ := param_at Hrp.out hlt2 Bo.out
                  obtain ⟨bq, oq, rfl, hbq, g0⟩ := Hy.out i hly
                  replace g0 := (Bo.out.cell (p := ⟨bq, oq + i, none⟩) hbq).trans g0
                  have hpk := Hpt.out _ (List.getElem_mem hlt2)
                  have hyk := Hq.out _ (List.getElem_mem hly)
                  have Hnp := Lib.hid (show ¬ passQ s.fTypes t.fParams[i] ys[i] → ¬ passAll s.fTypes t.fParams ys from fun h g => h (g.2 i hlt2 hly))
                  have Hnx := Lib.hid (show passQ s.fTypes t.fParams[i] ys[i] → ∀ j (h : j < t.fParams.length) (h' : j < ys.length), j < i + 1 → passQ s.fTypes t.fParams[j] ys[j] from fun g j h h' hjk => by
                    by_cases e : j = i
                    · subst e; exact g
                    · exact Hyes2.out j h h' (by omega))
                  generalize t.fParams[i] = p at *
                  generalize ys[i] = y at *
                  obtain ⟨nm, bv, ty⟩ := p
                  dsimp only at *
                  obtain ⟨ti, rfl⟩ := Int.eq_ofNat_of_zero_le hpk.1
                  obtain ⟨yj, rfl⟩ := Int.eq_ofNat_of_zero_le hyk.1
                  have hti : ti < s.fTypes.length := by omega
                  have hyj : yj < s.fTypes.length := by omega
                  have Hpi := Lib.hid (pass_iff (p := ⟨nm, bv, (ti : Int)⟩) hti hyj rfl)
                  have BA := (Below.refl wo.heap.size wo).alloc (Nat.le_refl _) (.cells #[.string nm, .bool bv, .int .i64 (ti : Int)] 45)
                  have B2 := Lib.hid (Bo.out.trans (BA.mono Bo.out.size))
                  have C2 := Lib.hid (Hbel.out.trans (BA.mono hbel.size))
                  have XP := Lib.hid (Box.new wo 45 #[.string nm, .bool bv, .int .i64 (ti : Int)])
                  have g1 := (BA.cell (p := ⟨bq, oq + i, none⟩) (Nat.lt_of_lt_of_le hbq Bo.out.size)).trans g0
                  have m2 : (wo.alloc (.cells #[.string nm, .bool bv, .int .i64 (ti : Int)] 45)).cell? ⟨w.heap.size, 2, none⟩ = some (.slice a2 s.fTypes.length c2) := ((Hbel.out.trans (BA.mono hbel.size)).cell (p := ⟨w.heap.size, 2, none⟩) X1.out.lt).trans x2
                  have R2 := Lib.hid (H.out.r.types.below B2.out)
                  have xp1 : _ = some (Value.bool bv) := XP.out.cell 1
                  have xp2 : _ = some (Value.int .i64 (ti : Int)) := XP.out.cell 2
                  have hgp := XP.out.lt
                  clear BA hbel g0
                  go_wp2_with fail
                  obtain ⟨gp, hgp2⟩ : ∃ n, n = wo.heap.size := ⟨_, rfl⟩
                  rw [← hgp2] at xp1 xp2 hgp
                  rw [← hgp2]
                  generalize wo.alloc (.cells #[.string nm, .bool bv, .int .i64 (ti : Int)] 45) = wp at *
                  clear XP
                  have hqs := X1.out.lt
                  have hbq2 : bq < wp.heap.size := Nat.lt_of_lt_of_le hbq B2.out.size
                  have hws : w.heap.size < wp.heap.size := Nat.lt_of_lt_of_le hqs C2.out.size
                  clear hgp2
                  cases bv
                  · have Hc := Lib.hid (sl10Put a2 c2 s.fTypes ti yj hti hyj wp.drew P1.out.2.2.1 R2.out.drew)
                    by_cases hput : putQ s.fTypes ti yj hti hyj
                    · rw [putB_true hput] at Hc
                      have Hv := Lib.hid (Hnx.out (Hpi.out.2 ⟨fun e => (by cases e), fun _ => hput⟩))
                      clear hput
                      --C3T<
                      refine wp_region_held_drew (S := fun w' => w'.cell? ⟨gp, 1, none⟩ = some (.bool false) ∧ w'.cell? ⟨gp, 2, none⟩ = some (.int .i64 (ti : Int)) ∧ w'.cell? ⟨bq, oq + i, none⟩ = some (.int .i64 (yj : Int)) ∧ w'.cell? ⟨w.heap.size, 2, none⟩ = some (.slice a2 s.fTypes.length c2)) (by kernel_rfl) ?_ (fun hHeld => ?_)
                      · try dsimp only
                        exact ⟨xp1, xp2, g1, m2⟩
                      refine wpAnyH_take (i := 0) (oi := { dst := some 64, op := Op.fieldAddr 45 (Operand.tmp 10) 1, type := 0, pos := "l10_fit.go:125", after := #[], guard := none }) (v := .pointer (some ⟨gp, 1, none⟩)) rfl (by kernel_rfl) (by kernel_rfl) (by kernel_rfl) (fun _ _ _ h => h) (Or.inl ⟨by rfl, ?_⟩) (by assumption) ?_
                      · intro wS hSw
                        try dsimp only at hSw
                        go_simp
                      try simp only [Act.put, List.setIfInBounds_toArray, List.set_cons_zero, List.set_cons_succ]
                      refine wpAnyH_take (i := 1) (oi := { dst := some 65, op := Op.load 4 (Operand.tmp 64), type := 4, pos := "l10_fit.go:125", after := #[{ on := 0, ground := Ground.data }], guard := none }) (v := .bool false) rfl (by kernel_rfl) (by kernel_rfl) (by kernel_rfl) (fun _ _ _ h => h) (Or.inl ⟨by rfl, ?_⟩) (by assumption) ?_
                      · intro wS hSw
                        try dsimp only at hSw
                        go_simp
                      try simp only [Act.put, List.setIfInBounds_toArray, List.set_cons_zero, List.set_cons_succ]
                      refine wpAnyH_take (i := 2) (oi := { dst := some 66, op := Op.move (Operand.tmp 65), type := 4, pos := "l10_fit.go:125", after := #[{ on := 1, ground := Ground.data }], guard := none }) (v := .bool false) rfl (by kernel_rfl) (by kernel_rfl) (by kernel_rfl) (fun _ _ _ h => h) (Or.inl ⟨by rfl, ?_⟩) (by assumption) ?_
                      · intro wS hSw
                        try dsimp only at hSw
                        go_simp
                      try simp only [Act.put, List.setIfInBounds_toArray, List.set_cons_zero, List.set_cons_succ]
                      refine wpAnyH_take (i := 3) (oi := { dst := some 67, op := Op.fieldAddr 45 (Operand.tmp 10) 2, type := 0, pos := "l10_fit.go:125", after := #[{ on := 2, ground := Ground.guard }], guard := some (2, true) }) (v := undef) rfl (by kernel_rfl) (by kernel_rfl) (by kernel_rfl) (fun _ _ _ h => h) (Or.inr ⟨by rfl, rfl⟩) (by assumption) ?_
                      try simp only [Act.put, List.setIfInBounds_toArray, List.set_cons_zero, List.set_cons_succ]
                      refine wpAnyH_take (i := 4) (oi := { dst := some 68, op := Op.load 3 (Operand.tmp 67), type := 3, pos := "l10_fit.go:125", after := #[{ on := 3, ground := Ground.data }, { on := 2, ground := Ground.guard }], guard := some (2, true) }) (v := undef) rfl (by kernel_rfl) (by kernel_rfl) (by kernel_rfl) (fun _ _ _ h => h) (Or.inr ⟨by rfl, rfl⟩) (by assumption) ?_
                      try simp only [Act.put, List.setIfInBounds_toArray, List.set_cons_zero, List.set_cons_succ]
                      refine wpAnyH_take (i := 5) (oi := { dst := some 69, op := Op.move (Operand.tmp 2), type := 37, pos := "l10_fit.go:125", after := #[{ on := 2, ground := Ground.guard }], guard := some (2, true) }) (v := undef) rfl (by kernel_rfl) (by kernel_rfl) (by kernel_rfl) (fun _ _ _ h => h) (Or.inr ⟨by rfl, rfl⟩) (by assumption) ?_
                      try simp only [Act.put, List.setIfInBounds_toArray, List.set_cons_zero, List.set_cons_succ]
                      refine wpAnyH_take (i := 6) (oi := { dst := some 70, op := Op.move (Operand.tmp 9), type := 3, pos := "l10_fit.go:125", after := #[{ on := 2, ground := Ground.guard }], guard := some (2, true) }) (v := undef) rfl (by kernel_rfl) (by kernel_rfl) (by kernel_rfl) (fun _ _ _ h => h) (Or.inr ⟨by rfl, rfl⟩) (by assumption) ?_
                      try simp only [Act.put, List.setIfInBounds_toArray, List.set_cons_zero, List.set_cons_succ]
                      refine wpAnyH_take (i := 7) (oi := { dst := some 71, op := Op.indexAddr 37 (Operand.tmp 69) (Operand.tmp 70), type := 0, pos := "l10_fit.go:125", after := #[{ on := 5, ground := Ground.data }, { on := 6, ground := Ground.data }, { on := 2, ground := Ground.guard }], guard := some (2, true) }) (v := undef) rfl (by kernel_rfl) (by kernel_rfl) (by kernel_rfl) (fun _ _ _ h => h) (Or.inr ⟨by rfl, rfl⟩) (by assumption) ?_
                      try simp only [Act.put, List.setIfInBounds_toArray, List.set_cons_zero, List.set_cons_succ]
                      refine wpAnyH_take (i := 8) (oi := { dst := some 72, op := Op.load 3 (Operand.tmp 71), type := 3, pos := "l10_fit.go:125", after := #[{ on := 7, ground := Ground.data }, { on := 2, ground := Ground.guard }], guard := some (2, true) }) (v := undef) rfl (by kernel_rfl) (by kernel_rfl) (by kernel_rfl) (fun _ _ _ h => h) (Or.inr ⟨by rfl, rfl⟩) (by assumption) ?_
                      try simp only [Act.put, List.setIfInBounds_toArray, List.set_cons_zero, List.set_cons_succ]
                      refine wpAnyH_take (i := 9) (oi := { dst := some 73, op := Op.binOp BinOp.neq 3 (Operand.tmp 68) (Operand.tmp 72) 3, type := 4, pos := "l10_fit.go:125", after := #[{ on := 4, ground := Ground.data }, { on := 8, ground := Ground.data }, { on := 2, ground := Ground.guard }], guard := some (2, true) }) (v := undef) rfl (by kernel_rfl) (by kernel_rfl) (by kernel_rfl) (fun _ _ _ h => h) (Or.inr ⟨by rfl, rfl⟩) (by assumption) ?_
                      try simp only [Act.put, List.setIfInBounds_toArray, List.set_cons_zero, List.set_cons_succ]
                      refine wpAnyH_take (i := 10) (oi := { dst := some 74, op := Op.pick (Operand.tmp 66) (Operand.tmp 73) (Operand.const (Value.bool false)), type := 4, pos := "l10_fit.go:125", after := #[{ on := 2, ground := Ground.data }, { on := 9, ground := Ground.data }], guard := none }) (v := .bool false) rfl (by kernel_rfl) (by kernel_rfl) (by kernel_rfl) (fun _ _ _ h => h) (Or.inl ⟨by rfl, ?_⟩) (by assumption) ?_
                      · intro wS hSw
                        try dsimp only at hSw
                        go_simp
                      try simp only [Act.put, List.setIfInBounds_toArray, List.set_cons_zero, List.set_cons_succ]
                      refine wpAnyH_take (i := 11) (oi := { dst := some 75, op := Op.move (Operand.tmp 74), type := 4, pos := "l10_fit.go:125", after := #[{ on := 10, ground := Ground.data }, { on := 2, ground := Ground.chain }], guard := none }) (v := .bool false) rfl (by kernel_rfl) (by kernel_rfl) (by kernel_rfl) (fun _ _ _ h => h) (Or.inl ⟨by rfl, ?_⟩) (by assumption) ?_
                      · intro wS hSw
                        try dsimp only at hSw
                        go_simp
                      try simp only [Act.put, List.setIfInBounds_toArray, List.set_cons_zero, List.set_cons_succ]
                      refine wpAnyH_take (i := 12) (oi := { dst := some 76, op := Op.fieldAddr 45 (Operand.tmp 10) 1, type := 0, pos := "l10_fit.go:125", after := #[{ on := 11, ground := Ground.guard }], guard := some (11, false) }) (v := .pointer (some ⟨gp, 1, none⟩)) rfl (by kernel_rfl) (by kernel_rfl) (by kernel_rfl) (fun _ _ _ h => h) (Or.inl ⟨by rfl, ?_⟩) (by assumption) ?_
                      · intro wS hSw
                        try dsimp only at hSw
                        go_simp
                      try simp only [Act.put, List.setIfInBounds_toArray, List.set_cons_zero, List.set_cons_succ]
                      refine wpAnyH_take (i := 13) (oi := { dst := some 77, op := Op.load 4 (Operand.tmp 76), type := 4, pos := "l10_fit.go:125", after := #[{ on := 12, ground := Ground.data }, { on := 11, ground := Ground.guard }], guard := some (11, false) }) (v := .bool false) rfl (by kernel_rfl) (by kernel_rfl) (by kernel_rfl) (fun _ _ _ h => h) (Or.inl ⟨by rfl, ?_⟩) (by assumption) ?_
                      · intro wS hSw
                        try dsimp only at hSw
                        go_simp
                      try simp only [Act.put, List.setIfInBounds_toArray, List.set_cons_zero, List.set_cons_succ]
                      refine wpAnyH_take (i := 14) (oi := { dst := some 78, op := Op.unOp UnOp.not 4 (Operand.tmp 77), type := 4, pos := "l10_fit.go:125", after := #[{ on := 13, ground := Ground.data }, { on := 11, ground := Ground.guard }], guard := some (11, false) }) (v := .bool true) rfl (by kernel_rfl) (by kernel_rfl) (by kernel_rfl) (fun _ _ _ h => h) (Or.inl ⟨by rfl, ?_⟩) (by assumption) ?_
                      · intro wS hSw
                        try dsimp only at hSw
                        go_simp
                      try simp only [Act.put, List.setIfInBounds_toArray, List.set_cons_zero, List.set_cons_succ]
                      refine wpAnyH_take (i := 15) (oi := { dst := some 79, op := Op.move (Operand.tmp 78), type := 4, pos := "l10_fit.go:125", after := #[{ on := 14, ground := Ground.data }, { on := 11, ground := Ground.chain }, { on := 11, ground := Ground.guard }], guard := some (11, false) }) (v := .bool true) rfl (by kernel_rfl) (by kernel_rfl) (by kernel_rfl) (fun _ _ _ h => h) (Or.inl ⟨by rfl, ?_⟩) (by assumption) ?_
                      · intro wS hSw
                        try dsimp only at hSw
                        go_simp
                      try simp only [Act.put, List.setIfInBounds_toArray, List.set_cons_zero, List.set_cons_succ]
                      refine wpAnyH_take (i := 16) (oi := { dst := some 80, op := Op.fieldAddr 36 (Operand.tmp 3) 2, type := 0, pos := "l10_fit.go:125", after := #[{ on := 15, ground := Ground.guard }], guard := some (15, true) }) (v := .pointer (some ⟨w.heap.size, 2, none⟩)) rfl (by kernel_rfl) (by kernel_rfl) (by kernel_rfl) (fun _ _ _ h => h) (Or.inl ⟨by rfl, ?_⟩) (by assumption) ?_
                      · intro wS hSw
                        try dsimp only at hSw
                        go_simp
                      try simp only [Act.put, List.setIfInBounds_toArray, List.set_cons_zero, List.set_cons_succ]
                      refine wpAnyH_take (i := 17) (oi := { dst := some 81, op := Op.load 24 (Operand.tmp 80), type := 24, pos := "l10_fit.go:125", after := #[{ on := 16, ground := Ground.data }, { on := 15, ground := Ground.guard }], guard := some (15, true) }) (v := .slice a2 s.fTypes.length c2) rfl (by kernel_rfl) (by kernel_rfl) (by kernel_rfl) (fun _ _ _ h => h) (Or.inl ⟨by rfl, ?_⟩) (by assumption) ?_
                      · intro wS hSw
                        try dsimp only at hSw
                        go_simp
                      try simp only [Act.put, List.setIfInBounds_toArray, List.set_cons_zero, List.set_cons_succ]
                      refine wpAnyH_take (i := 18) (oi := { dst := some 82, op := Op.fieldAddr 45 (Operand.tmp 10) 2, type := 0, pos := "l10_fit.go:125", after := #[{ on := 15, ground := Ground.guard }], guard := some (15, true) }) (v := .pointer (some ⟨gp, 2, none⟩)) rfl (by kernel_rfl) (by kernel_rfl) (by kernel_rfl) (fun _ _ _ h => h) (Or.inl ⟨by rfl, ?_⟩) (by assumption) ?_
                      · intro wS hSw
                        try dsimp only at hSw
                        go_simp
                      try simp only [Act.put, List.setIfInBounds_toArray, List.set_cons_zero, List.set_cons_succ]
                      refine wpAnyH_take (i := 19) (oi := { dst := some 83, op := Op.load 3 (Operand.tmp 82), type := 3, pos := "l10_fit.go:125", after := #[{ on := 18, ground := Ground.data }, { on := 15, ground := Ground.guard }], guard := some (15, true) }) (v := .int .i64 (ti : Int)) rfl (by kernel_rfl) (by kernel_rfl) (by kernel_rfl) (fun _ _ _ h => h) (Or.inl ⟨by rfl, ?_⟩) (by assumption) ?_
                      · intro wS hSw
                        try dsimp only at hSw
                        go_simp
                      try simp only [Act.put, List.setIfInBounds_toArray, List.set_cons_zero, List.set_cons_succ]
                      refine wpAnyH_take (i := 20) (oi := { dst := some 84, op := Op.move (Operand.tmp 2), type := 37, pos := "l10_fit.go:125", after := #[{ on := 15, ground := Ground.guard }], guard := some (15, true) }) (v := .slice (some ⟨bq, oq, none⟩) ys.length yc) rfl (by kernel_rfl) (by kernel_rfl) (by kernel_rfl) (fun _ _ _ h => h) (Or.inl ⟨by rfl, ?_⟩) (by assumption) ?_
                      · intro wS hSw
                        try dsimp only at hSw
                        go_simp
                      try simp only [Act.put, List.setIfInBounds_toArray, List.set_cons_zero, List.set_cons_succ]
                      refine wpAnyH_take (i := 21) (oi := { dst := some 85, op := Op.move (Operand.tmp 9), type := 3, pos := "l10_fit.go:125", after := #[{ on := 15, ground := Ground.guard }], guard := some (15, true) }) (v := .int .i64 (i : Int)) rfl (by kernel_rfl) (by kernel_rfl) (by kernel_rfl) (fun _ _ _ h => h) (Or.inl ⟨by rfl, ?_⟩) (by assumption) ?_
                      · intro wS hSw
                        try dsimp only at hSw
                        go_simp
                      try simp only [Act.put, List.setIfInBounds_toArray, List.set_cons_zero, List.set_cons_succ]
                      refine wpAnyH_take (i := 22) (oi := { dst := some 86, op := Op.indexAddr 37 (Operand.tmp 84) (Operand.tmp 85), type := 0, pos := "l10_fit.go:125", after := #[{ on := 20, ground := Ground.data }, { on := 21, ground := Ground.data }, { on := 15, ground := Ground.guard }], guard := some (15, true) }) (v := .pointer (some ⟨bq, oq + i, none⟩)) rfl (by kernel_rfl) (by kernel_rfl) (by kernel_rfl) (fun _ _ _ h => h) (Or.inl ⟨by rfl, ?_⟩) (by assumption) ?_
                      · intro wS hSw
                        try dsimp only at hSw
                        go_simp
                      try simp only [Act.put, List.setIfInBounds_toArray, List.set_cons_zero, List.set_cons_succ]
                      refine wpAnyH_take (i := 23) (oi := { dst := some 87, op := Op.load 3 (Operand.tmp 86), type := 3, pos := "l10_fit.go:125", after := #[{ on := 22, ground := Ground.data }, { on := 15, ground := Ground.guard }], guard := some (15, true) }) (v := .int .i64 (yj : Int)) rfl (by kernel_rfl) (by kernel_rfl) (by kernel_rfl) (fun _ _ _ h => h) (Or.inl ⟨by rfl, ?_⟩) (by assumption) ?_
                      · intro wS hSw
                        try dsimp only at hSw
                        go_simp
                      try simp only [Act.put, List.setIfInBounds_toArray, List.set_cons_zero, List.set_cons_succ]
                      refine wpAnyH_ready (rs := [24]) (by kernel_rfl) (by simp) ?_
                      refine AllReadyH.cons (o := { dst := some 88, op := Op.call { callee := Callee.value (Operand.func 25), args := #[Operand.tmp 81, Operand.tmp 83, Operand.tmp 87], argTypes := #[24, 3, 3] }, type := 4, pos := "l10_fit.go:125", after := #[{ on := 17, ground := Ground.data }, { on := 19, ground := Ground.data }, { on := 23, ground := Ground.data }, { on := 15, ground := Ground.chain }, { on := 15, ground := Ground.guard }], guard := some (15, true) }) rfl (fun K hK => ?_) AllReadyH.nil
                      go_simp
                      go_at_call 25
                      refine Hc.out.mono ?_
                      rintro e wh ⟨rfl, hbh⟩
                      refine hK.out _ _ ?_ (fun hHeld2 => ?_)
                      · try dsimp only
                        exact ⟨(hbh.cell (p := ⟨gp, 1, none⟩) hgp).trans xp1, (hbh.cell (p := ⟨gp, 2, none⟩) hgp).trans xp2, (hbh.cell (p := ⟨bq, oq + i, none⟩) hbq2).trans g1, (hbh.cell (p := ⟨w.heap.size, 2, none⟩) hws).trans m2⟩
                      clear hK K hHeld
                      have hHeld := hHeld2
                      clear hHeld2
                      try simp only [Act.put, List.setIfInBounds_toArray, List.set_cons_zero, List.set_cons_succ]
                      refine wpAnyH_take (i := 25) (oi := { dst := some 89, op := Op.unOp UnOp.not 4 (Operand.tmp 88), type := 4, pos := "l10_fit.go:125", after := #[{ on := 24, ground := Ground.data }, { on := 15, ground := Ground.guard }], guard := some (15, true) }) (v := .bool false) rfl (by kernel_rfl) (by kernel_rfl) (by kernel_rfl) (fun _ _ _ h => h) (Or.inl ⟨by rfl, ?_⟩) (by assumption) ?_
                      · intro wS hSw
                        try dsimp only at hSw
                        go_simp
                      try simp only [Act.put, List.setIfInBounds_toArray, List.set_cons_zero, List.set_cons_succ]
                      refine wpAnyH_take (i := 26) (oi := { dst := some 90, op := Op.pick (Operand.tmp 79) (Operand.tmp 89) (Operand.const (Value.bool false)), type := 4, pos := "l10_fit.go:125", after := #[{ on := 15, ground := Ground.data }, { on := 25, ground := Ground.data }, { on := 11, ground := Ground.guard }], guard := some (11, false) }) (v := .bool false) rfl (by kernel_rfl) (by kernel_rfl) (by kernel_rfl) (fun _ _ _ h => h) (Or.inl ⟨by rfl, ?_⟩) (by assumption) ?_
                      · intro wS hSw
                        try dsimp only at hSw
                        go_simp
                      try simp only [Act.put, List.setIfInBounds_toArray, List.set_cons_zero, List.set_cons_succ]
                      refine wpAnyH_take (i := 27) (oi := { dst := some 91, op := Op.pick (Operand.tmp 75) (Operand.const (Value.bool true)) (Operand.tmp 90), type := 4, pos := "l10_fit.go:125", after := #[{ on := 11, ground := Ground.data }, { on := 26, ground := Ground.data }], guard := none }) (v := .bool false) rfl (by kernel_rfl) (by kernel_rfl) (by kernel_rfl) (fun _ _ _ h => h) (Or.inl ⟨by rfl, ?_⟩) (by assumption) ?_
                      · intro wS hSw
                        try dsimp only at hSw
                        go_simp
                      try simp only [Act.put, List.setIfInBounds_toArray, List.set_cons_zero, List.set_cons_succ]
                      refine wpAnyH_done (by kernel_rfl) ?_ _
                      --C3T>
                      have C4 := Lib.hid ((belowN C2.out 1).trans (hbh.mono (belowN C2.out 1).size))
                      go_wp2_with fail
                      exact ⟨⟨i + 1, by congr 1, by omega, Hv.out, C4.out⟩, by simp [intOf]; omega⟩
                    · rw [putB_false hput] at Hc
                      have Hv := Lib.hid (Hnp.out (fun g => hput ((Hpi.out.1 g).2 rfl)))
                      clear hput
                      --C3F<
                      refine wp_region_held_drew (S := fun w' => w'.cell? ⟨gp, 1, none⟩ = some (.bool false) ∧ w'.cell? ⟨gp, 2, none⟩ = some (.int .i64 (ti : Int)) ∧ w'.cell? ⟨bq, oq + i, none⟩ = some (.int .i64 (yj : Int)) ∧ w'.cell? ⟨w.heap.size, 2, none⟩ = some (.slice a2 s.fTypes.length c2)) (by kernel_rfl) ?_ (fun hHeld => ?_)
                      · try dsimp only
                        exact ⟨xp1, xp2, g1, m2⟩
                      refine wpAnyH_take (i := 0) (oi := { dst := some 64, op := Op.fieldAddr 45 (Operand.tmp 10) 1, type := 0, pos := "l10_fit.go:125", after := #[], guard := none }) (v := .pointer (some ⟨gp, 1, none⟩)) rfl (by kernel_rfl) (by kernel_rfl) (by kernel_rfl) (fun _ _ _ h => h) (Or.inl ⟨by rfl, ?_⟩) (by assumption) ?_
                      · intro wS hSw
                        try dsimp only at hSw
                        go_simp
                      try simp only [Act.put, List.setIfInBounds_toArray, List.set_cons_zero, List.set_cons_succ]
                      refine wpAnyH_take (i := 1) (oi := { dst := some 65, op := Op.load 4 (Operand.tmp 64), type := 4, pos := "l10_fit.go:125", after := #[{ on := 0, ground := Ground.data }], guard := none }) (v := .bool false) rfl (by kernel_rfl) (by kernel_rfl) (by kernel_rfl) (fun _ _ _ h => h) (Or.inl ⟨by rfl, ?_⟩) (by assumption) ?_
                      · intro wS hSw
                        try dsimp only at hSw
                        go_simp
                      try simp only [Act.put, List.setIfInBounds_toArray, List.set_cons_zero, List.set_cons_succ]
                      refine wpAnyH_take (i := 2) (oi := { dst := some 66, op := Op.move (Operand.tmp 65), type := 4, pos := "l10_fit.go:125", after := #[{ on := 1, ground := Ground.data }], guard := none }) (v := .bool false) rfl (by kernel_rfl) (by kernel_rfl) (by kernel_rfl) (fun _ _ _ h => h) (Or.inl ⟨by rfl, ?_⟩) (by assumption) ?_
                      · intro wS hSw
                        try dsimp only at hSw
                        go_simp
                      try simp only [Act.put, List.setIfInBounds_toArray, List.set_cons_zero, List.set_cons_succ]
                      refine wpAnyH_take (i := 3) (oi := { dst := some 67, op := Op.fieldAddr 45 (Operand.tmp 10) 2, type := 0, pos := "l10_fit.go:125", after := #[{ on := 2, ground := Ground.guard }], guard := some (2, true) }) (v := undef) rfl (by kernel_rfl) (by kernel_rfl) (by kernel_rfl) (fun _ _ _ h => h) (Or.inr ⟨by rfl, rfl⟩) (by assumption) ?_
                      try simp only [Act.put, List.setIfInBounds_toArray, List.set_cons_zero, List.set_cons_succ]
                      refine wpAnyH_take (i := 4) (oi := { dst := some 68, op := Op.load 3 (Operand.tmp 67), type := 3, pos := "l10_fit.go:125", after := #[{ on := 3, ground := Ground.data }, { on := 2, ground := Ground.guard }], guard := some (2, true) }) (v := undef) rfl (by kernel_rfl) (by kernel_rfl) (by kernel_rfl) (fun _ _ _ h => h) (Or.inr ⟨by rfl, rfl⟩) (by assumption) ?_
                      try simp only [Act.put, List.setIfInBounds_toArray, List.set_cons_zero, List.set_cons_succ]
                      refine wpAnyH_take (i := 5) (oi := { dst := some 69, op := Op.move (Operand.tmp 2), type := 37, pos := "l10_fit.go:125", after := #[{ on := 2, ground := Ground.guard }], guard := some (2, true) }) (v := undef) rfl (by kernel_rfl) (by kernel_rfl) (by kernel_rfl) (fun _ _ _ h => h) (Or.inr ⟨by rfl, rfl⟩) (by assumption) ?_
                      try simp only [Act.put, List.setIfInBounds_toArray, List.set_cons_zero, List.set_cons_succ]
                      refine wpAnyH_take (i := 6) (oi := { dst := some 70, op := Op.move (Operand.tmp 9), type := 3, pos := "l10_fit.go:125", after := #[{ on := 2, ground := Ground.guard }], guard := some (2, true) }) (v := undef) rfl (by kernel_rfl) (by kernel_rfl) (by kernel_rfl) (fun _ _ _ h => h) (Or.inr ⟨by rfl, rfl⟩) (by assumption) ?_
                      try simp only [Act.put, List.setIfInBounds_toArray, List.set_cons_zero, List.set_cons_succ]
                      refine wpAnyH_take (i := 7) (oi := { dst := some 71, op := Op.indexAddr 37 (Operand.tmp 69) (Operand.tmp 70), type := 0, pos := "l10_fit.go:125", after := #[{ on := 5, ground := Ground.data }, { on := 6, ground := Ground.data }, { on := 2, ground := Ground.guard }], guard := some (2, true) }) (v := undef) rfl (by kernel_rfl) (by kernel_rfl) (by kernel_rfl) (fun _ _ _ h => h) (Or.inr ⟨by rfl, rfl⟩) (by assumption) ?_
                      try simp only [Act.put, List.setIfInBounds_toArray, List.set_cons_zero, List.set_cons_succ]
                      refine wpAnyH_take (i := 8) (oi := { dst := some 72, op := Op.load 3 (Operand.tmp 71), type := 3, pos := "l10_fit.go:125", after := #[{ on := 7, ground := Ground.data }, { on := 2, ground := Ground.guard }], guard := some (2, true) }) (v := undef) rfl (by kernel_rfl) (by kernel_rfl) (by kernel_rfl) (fun _ _ _ h => h) (Or.inr ⟨by rfl, rfl⟩) (by assumption) ?_
                      try simp only [Act.put, List.setIfInBounds_toArray, List.set_cons_zero, List.set_cons_succ]
                      refine wpAnyH_take (i := 9) (oi := { dst := some 73, op := Op.binOp BinOp.neq 3 (Operand.tmp 68) (Operand.tmp 72) 3, type := 4, pos := "l10_fit.go:125", after := #[{ on := 4, ground := Ground.data }, { on := 8, ground := Ground.data }, { on := 2, ground := Ground.guard }], guard := some (2, true) }) (v := undef) rfl (by kernel_rfl) (by kernel_rfl) (by kernel_rfl) (fun _ _ _ h => h) (Or.inr ⟨by rfl, rfl⟩) (by assumption) ?_
                      try simp only [Act.put, List.setIfInBounds_toArray, List.set_cons_zero, List.set_cons_succ]
                      refine wpAnyH_take (i := 10) (oi := { dst := some 74, op := Op.pick (Operand.tmp 66) (Operand.tmp 73) (Operand.const (Value.bool false)), type := 4, pos := "l10_fit.go:125", after := #[{ on := 2, ground := Ground.data }, { on := 9, ground := Ground.data }], guard := none }) (v := .bool false) rfl (by kernel_rfl) (by kernel_rfl) (by kernel_rfl) (fun _ _ _ h => h) (Or.inl ⟨by rfl, ?_⟩) (by assumption) ?_
                      · intro wS hSw
                        try dsimp only at hSw
                        go_simp
                      try simp only [Act.put, List.setIfInBounds_toArray, List.set_cons_zero, List.set_cons_succ]
                      refine wpAnyH_take (i := 11) (oi := { dst := some 75, op := Op.move (Operand.tmp 74), type := 4, pos := "l10_fit.go:125", after := #[{ on := 10, ground := Ground.data }, { on := 2, ground := Ground.chain }], guard := none }) (v := .bool false) rfl (by kernel_rfl) (by kernel_rfl) (by kernel_rfl) (fun _ _ _ h => h) (Or.inl ⟨by rfl, ?_⟩) (by assumption) ?_
                      · intro wS hSw
                        try dsimp only at hSw
                        go_simp
                      try simp only [Act.put, List.setIfInBounds_toArray, List.set_cons_zero, List.set_cons_succ]
                      refine wpAnyH_take (i := 12) (oi := { dst := some 76, op := Op.fieldAddr 45 (Operand.tmp 10) 1, type := 0, pos := "l10_fit.go:125", after := #[{ on := 11, ground := Ground.guard }], guard := some (11, false) }) (v := .pointer (some ⟨gp, 1, none⟩)) rfl (by kernel_rfl) (by kernel_rfl) (by kernel_rfl) (fun _ _ _ h => h) (Or.inl ⟨by rfl, ?_⟩) (by assumption) ?_
                      · intro wS hSw
                        try dsimp only at hSw
                        go_simp
                      try simp only [Act.put, List.setIfInBounds_toArray, List.set_cons_zero, List.set_cons_succ]
                      refine wpAnyH_take (i := 13) (oi := { dst := some 77, op := Op.load 4 (Operand.tmp 76), type := 4, pos := "l10_fit.go:125", after := #[{ on := 12, ground := Ground.data }, { on := 11, ground := Ground.guard }], guard := some (11, false) }) (v := .bool false) rfl (by kernel_rfl) (by kernel_rfl) (by kernel_rfl) (fun _ _ _ h => h) (Or.inl ⟨by rfl, ?_⟩) (by assumption) ?_
                      · intro wS hSw
                        try dsimp only at hSw
                        go_simp
                      try simp only [Act.put, List.setIfInBounds_toArray, List.set_cons_zero, List.set_cons_succ]
                      refine wpAnyH_take (i := 14) (oi := { dst := some 78, op := Op.unOp UnOp.not 4 (Operand.tmp 77), type := 4, pos := "l10_fit.go:125", after := #[{ on := 13, ground := Ground.data }, { on := 11, ground := Ground.guard }], guard := some (11, false) }) (v := .bool true) rfl (by kernel_rfl) (by kernel_rfl) (by kernel_rfl) (fun _ _ _ h => h) (Or.inl ⟨by rfl, ?_⟩) (by assumption) ?_
                      · intro wS hSw
                        try dsimp only at hSw
                        go_simp
                      try simp only [Act.put, List.setIfInBounds_toArray, List.set_cons_zero, List.set_cons_succ]
                      refine wpAnyH_take (i := 15) (oi := { dst := some 79, op := Op.move (Operand.tmp 78), type := 4, pos := "l10_fit.go:125", after := #[{ on := 14, ground := Ground.data }, { on := 11, ground := Ground.chain }, { on := 11, ground := Ground.guard }], guard := some (11, false) }) (v := .bool true) rfl (by kernel_rfl) (by kernel_rfl) (by kernel_rfl) (fun _ _ _ h => h) (Or.inl ⟨by rfl, ?_⟩) (by assumption) ?_
                      · intro wS hSw
                        try dsimp only at hSw
                        go_simp
                      try simp only [Act.put, List.setIfInBounds_toArray, List.set_cons_zero, List.set_cons_succ]
                      refine wpAnyH_take (i := 16) (oi := { dst := some 80, op := Op.fieldAddr 36 (Operand.tmp 3) 2, type := 0, pos := "l10_fit.go:125", after := #[{ on := 15, ground := Ground.guard }], guard := some (15, true) }) (v := .pointer (some ⟨w.heap.size, 2, none⟩)) rfl (by kernel_rfl) (by kernel_rfl) (by kernel_rfl) (fun _ _ _ h => h) (Or.inl ⟨by rfl, ?_⟩) (by assumption) ?_
                      · intro wS hSw
                        try dsimp only at hSw
                        go_simp
                      try simp only [Act.put, List.setIfInBounds_toArray, List.set_cons_zero, List.set_cons_succ]
                      refine wpAnyH_take (i := 17) (oi := { dst := some 81, op := Op.load 24 (Operand.tmp 80), type := 24, pos := "l10_fit.go:125", after := #[{ on := 16, ground := Ground.data }, { on := 15, ground := Ground.guard }], guard := some (15, true) }) (v := .slice a2 s.fTypes.length c2) rfl (by kernel_rfl) (by kernel_rfl) (by kernel_rfl) (fun _ _ _ h => h) (Or.inl ⟨by rfl, ?_⟩) (by assumption) ?_
                      · intro wS hSw
                        try dsimp only at hSw
                        go_simp
                      try simp only [Act.put, List.setIfInBounds_toArray, List.set_cons_zero, List.set_cons_succ]
                      refine wpAnyH_take (i := 18) (oi := { dst := some 82, op := Op.fieldAddr 45 (Operand.tmp 10) 2, type := 0, pos := "l10_fit.go:125", after := #[{ on := 15, ground := Ground.guard }], guard := some (15, true) }) (v := .pointer (some ⟨gp, 2, none⟩)) rfl (by kernel_rfl) (by kernel_rfl) (by kernel_rfl) (fun _ _ _ h => h) (Or.inl ⟨by rfl, ?_⟩) (by assumption) ?_
                      · intro wS hSw
                        try dsimp only at hSw
                        go_simp
                      try simp only [Act.put, List.setIfInBounds_toArray, List.set_cons_zero, List.set_cons_succ]
                      refine wpAnyH_take (i := 19) (oi := { dst := some 83, op := Op.load 3 (Operand.tmp 82), type := 3, pos := "l10_fit.go:125", after := #[{ on := 18, ground := Ground.data }, { on := 15, ground := Ground.guard }], guard := some (15, true) }) (v := .int .i64 (ti : Int)) rfl (by kernel_rfl) (by kernel_rfl) (by kernel_rfl) (fun _ _ _ h => h) (Or.inl ⟨by rfl, ?_⟩) (by assumption) ?_
                      · intro wS hSw
                        try dsimp only at hSw
                        go_simp
                      try simp only [Act.put, List.setIfInBounds_toArray, List.set_cons_zero, List.set_cons_succ]
                      refine wpAnyH_take (i := 20) (oi := { dst := some 84, op := Op.move (Operand.tmp 2), type := 37, pos := "l10_fit.go:125", after := #[{ on := 15, ground := Ground.guard }], guard := some (15, true) }) (v := .slice (some ⟨bq, oq, none⟩) ys.length yc) rfl (by kernel_rfl) (by kernel_rfl) (by kernel_rfl) (fun _ _ _ h => h) (Or.inl ⟨by rfl, ?_⟩) (by assumption) ?_
                      · intro wS hSw
                        try dsimp only at hSw
                        go_simp
                      try simp only [Act.put, List.setIfInBounds_toArray, List.set_cons_zero, List.set_cons_succ]
                      refine wpAnyH_take (i := 21) (oi := { dst := some 85, op := Op.move (Operand.tmp 9), type := 3, pos := "l10_fit.go:125", after := #[{ on := 15, ground := Ground.guard }], guard := some (15, true) }) (v := .int .i64 (i : Int)) rfl (by kernel_rfl) (by kernel_rfl) (by kernel_rfl) (fun _ _ _ h => h) (Or.inl ⟨by rfl, ?_⟩) (by assumption) ?_
                      · intro wS hSw
                        try dsimp only at hSw
                        go_simp
                      try simp only [Act.put, List.setIfInBounds_toArray, List.set_cons_zero, List.set_cons_succ]
                      refine wpAnyH_take (i := 22) (oi := { dst := some 86, op := Op.indexAddr 37 (Operand.tmp 84) (Operand.tmp 85), type := 0, pos := "l10_fit.go:125", after := #[{ on := 20, ground := Ground.data }, { on := 21, ground := Ground.data }, { on := 15, ground := Ground.guard }], guard := some (15, true) }) (v := .pointer (some ⟨bq, oq + i, none⟩)) rfl (by kernel_rfl) (by kernel_rfl) (by kernel_rfl) (fun _ _ _ h => h) (Or.inl ⟨by rfl, ?_⟩) (by assumption) ?_
                      · intro wS hSw
                        try dsimp only at hSw
                        go_simp
                      try simp only [Act.put, List.setIfInBounds_toArray, List.set_cons_zero, List.set_cons_succ]
                      refine wpAnyH_take (i := 23) (oi := { dst := some 87, op := Op.load 3 (Operand.tmp 86), type := 3, pos := "l10_fit.go:125", after := #[{ on := 22, ground := Ground.data }, { on := 15, ground := Ground.guard }], guard := some (15, true) }) (v := .int .i64 (yj : Int)) rfl (by kernel_rfl) (by kernel_rfl) (by kernel_rfl) (fun _ _ _ h => h) (Or.inl ⟨by rfl, ?_⟩) (by assumption) ?_
                      · intro wS hSw
                        try dsimp only at hSw
                        go_simp
                      try simp only [Act.put, List.setIfInBounds_toArray, List.set_cons_zero, List.set_cons_succ]
                      refine wpAnyH_ready (rs := [24]) (by kernel_rfl) (by simp) ?_
                      refine AllReadyH.cons (o := { dst := some 88, op := Op.call { callee := Callee.value (Operand.func 25), args := #[Operand.tmp 81, Operand.tmp 83, Operand.tmp 87], argTypes := #[24, 3, 3] }, type := 4, pos := "l10_fit.go:125", after := #[{ on := 17, ground := Ground.data }, { on := 19, ground := Ground.data }, { on := 23, ground := Ground.data }, { on := 15, ground := Ground.chain }, { on := 15, ground := Ground.guard }], guard := some (15, true) }) rfl (fun K hK => ?_) AllReadyH.nil
                      go_simp
                      go_at_call 25
                      refine Hc.out.mono ?_
                      rintro e wh ⟨rfl, hbh⟩
                      refine hK.out _ _ ?_ (fun hHeld2 => ?_)
                      · try dsimp only
                        exact ⟨(hbh.cell (p := ⟨gp, 1, none⟩) hgp).trans xp1, (hbh.cell (p := ⟨gp, 2, none⟩) hgp).trans xp2, (hbh.cell (p := ⟨bq, oq + i, none⟩) hbq2).trans g1, (hbh.cell (p := ⟨w.heap.size, 2, none⟩) hws).trans m2⟩
                      clear hK K hHeld
                      have hHeld := hHeld2
                      clear hHeld2
                      try simp only [Act.put, List.setIfInBounds_toArray, List.set_cons_zero, List.set_cons_succ]
                      refine wpAnyH_take (i := 25) (oi := { dst := some 89, op := Op.unOp UnOp.not 4 (Operand.tmp 88), type := 4, pos := "l10_fit.go:125", after := #[{ on := 24, ground := Ground.data }, { on := 15, ground := Ground.guard }], guard := some (15, true) }) (v := .bool true) rfl (by kernel_rfl) (by kernel_rfl) (by kernel_rfl) (fun _ _ _ h => h) (Or.inl ⟨by rfl, ?_⟩) (by assumption) ?_
                      · intro wS hSw
                        try dsimp only at hSw
                        go_simp
                      try simp only [Act.put, List.setIfInBounds_toArray, List.set_cons_zero, List.set_cons_succ]
                      refine wpAnyH_take (i := 26) (oi := { dst := some 90, op := Op.pick (Operand.tmp 79) (Operand.tmp 89) (Operand.const (Value.bool false)), type := 4, pos := "l10_fit.go:125", after := #[{ on := 15, ground := Ground.data }, { on := 25, ground := Ground.data }, { on := 11, ground := Ground.guard }], guard := some (11, false) }) (v := .bool true) rfl (by kernel_rfl) (by kernel_rfl) (by kernel_rfl) (fun _ _ _ h => h) (Or.inl ⟨by rfl, ?_⟩) (by assumption) ?_
                      · intro wS hSw
                        try dsimp only at hSw
                        go_simp
                      try simp only [Act.put, List.setIfInBounds_toArray, List.set_cons_zero, List.set_cons_succ]
                      refine wpAnyH_take (i := 27) (oi := { dst := some 91, op := Op.pick (Operand.tmp 75) (Operand.const (Value.bool true)) (Operand.tmp 90), type := 4, pos := "l10_fit.go:125", after := #[{ on := 11, ground := Ground.data }, { on := 26, ground := Ground.data }], guard := none }) (v := .bool true) rfl (by kernel_rfl) (by kernel_rfl) (by kernel_rfl) (fun _ _ _ h => h) (Or.inl ⟨by rfl, ?_⟩) (by assumption) ?_
                      · intro wS hSw
                        try dsimp only at hSw
                        go_simp
                      try simp only [Act.put, List.setIfInBounds_toArray, List.set_cons_zero, List.set_cons_succ]
                      refine wpAnyH_done (by kernel_rfl) ?_ _
                      --C3F>
                      have Hq2 := Lib.hid (show callA s (k : Int) ys = false by rw [Bool.eq_false_iff]; exact fun e => Hv.out (U2.out.1 e))
                      have B4 := Lib.hid ((belowN B2.out 1).trans (hbh.mono (belowN B2.out 1).size))
                      go_wp2_with fail
                      go_ret2
                      exact ⟨by rw [U1.out, Hq2.out]; rfl, B4.out⟩
                  · by_cases heq : ti = yj
                    · have knq : ((ti : Int) != (yj : Int)) = false := by rw [bne_eq_false_iff_eq]; omega
                      have Hv := Lib.hid (Hnx.out (Hpi.out.2 ⟨fun _ => heq, fun e => (by cases e)⟩))
                      clear heq
                      --C2<
                      refine wp_region_held_drew (S := fun w' => w'.cell? ⟨gp, 1, none⟩ = some (.bool true) ∧ w'.cell? ⟨gp, 2, none⟩ = some (.int .i64 (ti : Int)) ∧ w'.cell? ⟨bq, oq + i, none⟩ = some (.int .i64 (yj : Int)) ∧ w'.cell? ⟨w.heap.size, 2, none⟩ = some (.slice a2 s.fTypes.length c2)) (by kernel_rfl) ?_ (fun hHeld => ?_)
                      · try dsimp only
                        exact ⟨xp1, xp2, g1, m2⟩
                      refine wpAnyH_take (i := 0) (oi := { dst := some 64, op := Op.fieldAddr 45 (Operand.tmp 10) 1, type := 0, pos := "l10_fit.go:125", after := #[], guard := none }) (v := .pointer (some ⟨gp, 1, none⟩)) rfl (by kernel_rfl) (by kernel_rfl) (by kernel_rfl) (fun _ _ _ h => h) (Or.inl ⟨by rfl, ?_⟩) (by assumption) ?_
                      · intro wS hSw
                        try dsimp only at hSw
                        go_simp
                      try simp only [Act.put, List.setIfInBounds_toArray, List.set_cons_zero, List.set_cons_succ]
                      refine wpAnyH_take (i := 1) (oi := { dst := some 65, op := Op.load 4 (Operand.tmp 64), type := 4, pos := "l10_fit.go:125", after := #[{ on := 0, ground := Ground.data }], guard := none }) (v := .bool true) rfl (by kernel_rfl) (by kernel_rfl) (by kernel_rfl) (fun _ _ _ h => h) (Or.inl ⟨by rfl, ?_⟩) (by assumption) ?_
                      · intro wS hSw
                        try dsimp only at hSw
                        go_simp
                      try simp only [Act.put, List.setIfInBounds_toArray, List.set_cons_zero, List.set_cons_succ]
                      refine wpAnyH_take (i := 2) (oi := { dst := some 66, op := Op.move (Operand.tmp 65), type := 4, pos := "l10_fit.go:125", after := #[{ on := 1, ground := Ground.data }], guard := none }) (v := .bool true) rfl (by kernel_rfl) (by kernel_rfl) (by kernel_rfl) (fun _ _ _ h => h) (Or.inl ⟨by rfl, ?_⟩) (by assumption) ?_
                      · intro wS hSw
                        try dsimp only at hSw
                        go_simp
                      try simp only [Act.put, List.setIfInBounds_toArray, List.set_cons_zero, List.set_cons_succ]
                      refine wpAnyH_take (i := 3) (oi := { dst := some 67, op := Op.fieldAddr 45 (Operand.tmp 10) 2, type := 0, pos := "l10_fit.go:125", after := #[{ on := 2, ground := Ground.guard }], guard := some (2, true) }) (v := .pointer (some ⟨gp, 2, none⟩)) rfl (by kernel_rfl) (by kernel_rfl) (by kernel_rfl) (fun _ _ _ h => h) (Or.inl ⟨by rfl, ?_⟩) (by assumption) ?_
                      · intro wS hSw
                        try dsimp only at hSw
                        go_simp
                      try simp only [Act.put, List.setIfInBounds_toArray, List.set_cons_zero, List.set_cons_succ]
                      refine wpAnyH_take (i := 4) (oi := { dst := some 68, op := Op.load 3 (Operand.tmp 67), type := 3, pos := "l10_fit.go:125", after := #[{ on := 3, ground := Ground.data }, { on := 2, ground := Ground.guard }], guard := some (2, true) }) (v := .int .i64 (ti : Int)) rfl (by kernel_rfl) (by kernel_rfl) (by kernel_rfl) (fun _ _ _ h => h) (Or.inl ⟨by rfl, ?_⟩) (by assumption) ?_
                      · intro wS hSw
                        try dsimp only at hSw
                        go_simp
                      try simp only [Act.put, List.setIfInBounds_toArray, List.set_cons_zero, List.set_cons_succ]
                      refine wpAnyH_take (i := 5) (oi := { dst := some 69, op := Op.move (Operand.tmp 2), type := 37, pos := "l10_fit.go:125", after := #[{ on := 2, ground := Ground.guard }], guard := some (2, true) }) (v := .slice (some ⟨bq, oq, none⟩) ys.length yc) rfl (by kernel_rfl) (by kernel_rfl) (by kernel_rfl) (fun _ _ _ h => h) (Or.inl ⟨by rfl, ?_⟩) (by assumption) ?_
                      · intro wS hSw
                        try dsimp only at hSw
                        go_simp
                      try simp only [Act.put, List.setIfInBounds_toArray, List.set_cons_zero, List.set_cons_succ]
                      refine wpAnyH_take (i := 6) (oi := { dst := some 70, op := Op.move (Operand.tmp 9), type := 3, pos := "l10_fit.go:125", after := #[{ on := 2, ground := Ground.guard }], guard := some (2, true) }) (v := .int .i64 (i : Int)) rfl (by kernel_rfl) (by kernel_rfl) (by kernel_rfl) (fun _ _ _ h => h) (Or.inl ⟨by rfl, ?_⟩) (by assumption) ?_
                      · intro wS hSw
                        try dsimp only at hSw
                        go_simp
                      try simp only [Act.put, List.setIfInBounds_toArray, List.set_cons_zero, List.set_cons_succ]
                      refine wpAnyH_take (i := 7) (oi := { dst := some 71, op := Op.indexAddr 37 (Operand.tmp 69) (Operand.tmp 70), type := 0, pos := "l10_fit.go:125", after := #[{ on := 5, ground := Ground.data }, { on := 6, ground := Ground.data }, { on := 2, ground := Ground.guard }], guard := some (2, true) }) (v := .pointer (some ⟨bq, oq + i, none⟩)) rfl (by kernel_rfl) (by kernel_rfl) (by kernel_rfl) (fun _ _ _ h => h) (Or.inl ⟨by rfl, ?_⟩) (by assumption) ?_
                      · intro wS hSw
                        try dsimp only at hSw
                        go_simp
                      try simp only [Act.put, List.setIfInBounds_toArray, List.set_cons_zero, List.set_cons_succ]
                      refine wpAnyH_take (i := 8) (oi := { dst := some 72, op := Op.load 3 (Operand.tmp 71), type := 3, pos := "l10_fit.go:125", after := #[{ on := 7, ground := Ground.data }, { on := 2, ground := Ground.guard }], guard := some (2, true) }) (v := .int .i64 (yj : Int)) rfl (by kernel_rfl) (by kernel_rfl) (by kernel_rfl) (fun _ _ _ h => h) (Or.inl ⟨by rfl, ?_⟩) (by assumption) ?_
                      · intro wS hSw
                        try dsimp only at hSw
                        go_simp
                      try simp only [Act.put, List.setIfInBounds_toArray, List.set_cons_zero, List.set_cons_succ]
                      refine wpAnyH_take (i := 9) (oi := { dst := some 73, op := Op.binOp BinOp.neq 3 (Operand.tmp 68) (Operand.tmp 72) 3, type := 4, pos := "l10_fit.go:125", after := #[{ on := 4, ground := Ground.data }, { on := 8, ground := Ground.data }, { on := 2, ground := Ground.guard }], guard := some (2, true) }) (v := .bool false) rfl (by kernel_rfl) (by kernel_rfl) (by kernel_rfl) (fun _ _ _ h => h) (Or.inl ⟨by rfl, ?_⟩) (by assumption) ?_
                      · intro wS hSw
                        try dsimp only at hSw
                        go_simp
                      try simp only [Act.put, List.setIfInBounds_toArray, List.set_cons_zero, List.set_cons_succ]
                      refine wpAnyH_take (i := 10) (oi := { dst := some 74, op := Op.pick (Operand.tmp 66) (Operand.tmp 73) (Operand.const (Value.bool false)), type := 4, pos := "l10_fit.go:125", after := #[{ on := 2, ground := Ground.data }, { on := 9, ground := Ground.data }], guard := none }) (v := .bool false) rfl (by kernel_rfl) (by kernel_rfl) (by kernel_rfl) (fun _ _ _ h => h) (Or.inl ⟨by rfl, ?_⟩) (by assumption) ?_
                      · intro wS hSw
                        try dsimp only at hSw
                        go_simp
                      try simp only [Act.put, List.setIfInBounds_toArray, List.set_cons_zero, List.set_cons_succ]
                      refine wpAnyH_take (i := 11) (oi := { dst := some 75, op := Op.move (Operand.tmp 74), type := 4, pos := "l10_fit.go:125", after := #[{ on := 10, ground := Ground.data }, { on := 2, ground := Ground.chain }], guard := none }) (v := .bool false) rfl (by kernel_rfl) (by kernel_rfl) (by kernel_rfl) (fun _ _ _ h => h) (Or.inl ⟨by rfl, ?_⟩) (by assumption) ?_
                      · intro wS hSw
                        try dsimp only at hSw
                        go_simp
                      try simp only [Act.put, List.setIfInBounds_toArray, List.set_cons_zero, List.set_cons_succ]
                      refine wpAnyH_take (i := 12) (oi := { dst := some 76, op := Op.fieldAddr 45 (Operand.tmp 10) 1, type := 0, pos := "l10_fit.go:125", after := #[{ on := 11, ground := Ground.guard }], guard := some (11, false) }) (v := .pointer (some ⟨gp, 1, none⟩)) rfl (by kernel_rfl) (by kernel_rfl) (by kernel_rfl) (fun _ _ _ h => h) (Or.inl ⟨by rfl, ?_⟩) (by assumption) ?_
                      · intro wS hSw
                        try dsimp only at hSw
                        go_simp
                      try simp only [Act.put, List.setIfInBounds_toArray, List.set_cons_zero, List.set_cons_succ]
                      refine wpAnyH_take (i := 13) (oi := { dst := some 77, op := Op.load 4 (Operand.tmp 76), type := 4, pos := "l10_fit.go:125", after := #[{ on := 12, ground := Ground.data }, { on := 11, ground := Ground.guard }], guard := some (11, false) }) (v := .bool true) rfl (by kernel_rfl) (by kernel_rfl) (by kernel_rfl) (fun _ _ _ h => h) (Or.inl ⟨by rfl, ?_⟩) (by assumption) ?_
                      · intro wS hSw
                        try dsimp only at hSw
                        go_simp
                      try simp only [Act.put, List.setIfInBounds_toArray, List.set_cons_zero, List.set_cons_succ]
                      refine wpAnyH_take (i := 14) (oi := { dst := some 78, op := Op.unOp UnOp.not 4 (Operand.tmp 77), type := 4, pos := "l10_fit.go:125", after := #[{ on := 13, ground := Ground.data }, { on := 11, ground := Ground.guard }], guard := some (11, false) }) (v := .bool false) rfl (by kernel_rfl) (by kernel_rfl) (by kernel_rfl) (fun _ _ _ h => h) (Or.inl ⟨by rfl, ?_⟩) (by assumption) ?_
                      · intro wS hSw
                        try dsimp only at hSw
                        go_simp
                      try simp only [Act.put, List.setIfInBounds_toArray, List.set_cons_zero, List.set_cons_succ]
                      refine wpAnyH_take (i := 15) (oi := { dst := some 79, op := Op.move (Operand.tmp 78), type := 4, pos := "l10_fit.go:125", after := #[{ on := 14, ground := Ground.data }, { on := 11, ground := Ground.chain }, { on := 11, ground := Ground.guard }], guard := some (11, false) }) (v := .bool false) rfl (by kernel_rfl) (by kernel_rfl) (by kernel_rfl) (fun _ _ _ h => h) (Or.inl ⟨by rfl, ?_⟩) (by assumption) ?_
                      · intro wS hSw
                        try dsimp only at hSw
                        go_simp
                      try simp only [Act.put, List.setIfInBounds_toArray, List.set_cons_zero, List.set_cons_succ]
                      refine wpAnyH_take (i := 16) (oi := { dst := some 80, op := Op.fieldAddr 36 (Operand.tmp 3) 2, type := 0, pos := "l10_fit.go:125", after := #[{ on := 15, ground := Ground.guard }], guard := some (15, true) }) (v := undef) rfl (by kernel_rfl) (by kernel_rfl) (by kernel_rfl) (fun _ _ _ h => h) (Or.inr ⟨by rfl, rfl⟩) (by assumption) ?_
                      try simp only [Act.put, List.setIfInBounds_toArray, List.set_cons_zero, List.set_cons_succ]
                      refine wpAnyH_take (i := 17) (oi := { dst := some 81, op := Op.load 24 (Operand.tmp 80), type := 24, pos := "l10_fit.go:125", after := #[{ on := 16, ground := Ground.data }, { on := 15, ground := Ground.guard }], guard := some (15, true) }) (v := undef) rfl (by kernel_rfl) (by kernel_rfl) (by kernel_rfl) (fun _ _ _ h => h) (Or.inr ⟨by rfl, rfl⟩) (by assumption) ?_
                      try simp only [Act.put, List.setIfInBounds_toArray, List.set_cons_zero, List.set_cons_succ]
                      refine wpAnyH_take (i := 18) (oi := { dst := some 82, op := Op.fieldAddr 45 (Operand.tmp 10) 2, type := 0, pos := "l10_fit.go:125", after := #[{ on := 15, ground := Ground.guard }], guard := some (15, true) }) (v := undef) rfl (by kernel_rfl) (by kernel_rfl) (by kernel_rfl) (fun _ _ _ h => h) (Or.inr ⟨by rfl, rfl⟩) (by assumption) ?_
                      try simp only [Act.put, List.setIfInBounds_toArray, List.set_cons_zero, List.set_cons_succ]
                      refine wpAnyH_take (i := 19) (oi := { dst := some 83, op := Op.load 3 (Operand.tmp 82), type := 3, pos := "l10_fit.go:125", after := #[{ on := 18, ground := Ground.data }, { on := 15, ground := Ground.guard }], guard := some (15, true) }) (v := undef) rfl (by kernel_rfl) (by kernel_rfl) (by kernel_rfl) (fun _ _ _ h => h) (Or.inr ⟨by rfl, rfl⟩) (by assumption) ?_
                      try simp only [Act.put, List.setIfInBounds_toArray, List.set_cons_zero, List.set_cons_succ]
                      refine wpAnyH_take (i := 20) (oi := { dst := some 84, op := Op.move (Operand.tmp 2), type := 37, pos := "l10_fit.go:125", after := #[{ on := 15, ground := Ground.guard }], guard := some (15, true) }) (v := undef) rfl (by kernel_rfl) (by kernel_rfl) (by kernel_rfl) (fun _ _ _ h => h) (Or.inr ⟨by rfl, rfl⟩) (by assumption) ?_
                      try simp only [Act.put, List.setIfInBounds_toArray, List.set_cons_zero, List.set_cons_succ]
                      refine wpAnyH_take (i := 21) (oi := { dst := some 85, op := Op.move (Operand.tmp 9), type := 3, pos := "l10_fit.go:125", after := #[{ on := 15, ground := Ground.guard }], guard := some (15, true) }) (v := undef) rfl (by kernel_rfl) (by kernel_rfl) (by kernel_rfl) (fun _ _ _ h => h) (Or.inr ⟨by rfl, rfl⟩) (by assumption) ?_
                      try simp only [Act.put, List.setIfInBounds_toArray, List.set_cons_zero, List.set_cons_succ]
                      refine wpAnyH_take (i := 22) (oi := { dst := some 86, op := Op.indexAddr 37 (Operand.tmp 84) (Operand.tmp 85), type := 0, pos := "l10_fit.go:125", after := #[{ on := 20, ground := Ground.data }, { on := 21, ground := Ground.data }, { on := 15, ground := Ground.guard }], guard := some (15, true) }) (v := undef) rfl (by kernel_rfl) (by kernel_rfl) (by kernel_rfl) (fun _ _ _ h => h) (Or.inr ⟨by rfl, rfl⟩) (by assumption) ?_
                      try simp only [Act.put, List.setIfInBounds_toArray, List.set_cons_zero, List.set_cons_succ]
                      refine wpAnyH_take (i := 23) (oi := { dst := some 87, op := Op.load 3 (Operand.tmp 86), type := 3, pos := "l10_fit.go:125", after := #[{ on := 22, ground := Ground.data }, { on := 15, ground := Ground.guard }], guard := some (15, true) }) (v := undef) rfl (by kernel_rfl) (by kernel_rfl) (by kernel_rfl) (fun _ _ _ h => h) (Or.inr ⟨by rfl, rfl⟩) (by assumption) ?_
                      try simp only [Act.put, List.setIfInBounds_toArray, List.set_cons_zero, List.set_cons_succ]
                      refine wpAnyH_take (i := 24) (oi := { dst := some 88, op := Op.call { callee := Callee.value (Operand.func 25), args := #[Operand.tmp 81, Operand.tmp 83, Operand.tmp 87], argTypes := #[24, 3, 3] }, type := 4, pos := "l10_fit.go:125", after := #[{ on := 17, ground := Ground.data }, { on := 19, ground := Ground.data }, { on := 23, ground := Ground.data }, { on := 15, ground := Ground.chain }, { on := 15, ground := Ground.guard }], guard := some (15, true) }) (v := undef) rfl (by kernel_rfl) (by kernel_rfl) (by kernel_rfl) (fun _ _ _ h => h) (Or.inr ⟨by rfl, rfl⟩) (by assumption) ?_
                      try simp only [Act.put, List.setIfInBounds_toArray, List.set_cons_zero, List.set_cons_succ]
                      refine wpAnyH_take (i := 25) (oi := { dst := some 89, op := Op.unOp UnOp.not 4 (Operand.tmp 88), type := 4, pos := "l10_fit.go:125", after := #[{ on := 24, ground := Ground.data }, { on := 15, ground := Ground.guard }], guard := some (15, true) }) (v := undef) rfl (by kernel_rfl) (by kernel_rfl) (by kernel_rfl) (fun _ _ _ h => h) (Or.inr ⟨by rfl, rfl⟩) (by assumption) ?_
                      try simp only [Act.put, List.setIfInBounds_toArray, List.set_cons_zero, List.set_cons_succ]
                      refine wpAnyH_take (i := 26) (oi := { dst := some 90, op := Op.pick (Operand.tmp 79) (Operand.tmp 89) (Operand.const (Value.bool false)), type := 4, pos := "l10_fit.go:125", after := #[{ on := 15, ground := Ground.data }, { on := 25, ground := Ground.data }, { on := 11, ground := Ground.guard }], guard := some (11, false) }) (v := .bool false) rfl (by kernel_rfl) (by kernel_rfl) (by kernel_rfl) (fun _ _ _ h => h) (Or.inl ⟨by rfl, ?_⟩) (by assumption) ?_
                      · intro wS hSw
                        try dsimp only at hSw
                        go_simp
                      try simp only [Act.put, List.setIfInBounds_toArray, List.set_cons_zero, List.set_cons_succ]
                      refine wpAnyH_take (i := 27) (oi := { dst := some 91, op := Op.pick (Operand.tmp 75) (Operand.const (Value.bool true)) (Operand.tmp 90), type := 4, pos := "l10_fit.go:125", after := #[{ on := 11, ground := Ground.data }, { on := 26, ground := Ground.data }], guard := none }) (v := .bool false) rfl (by kernel_rfl) (by kernel_rfl) (by kernel_rfl) (fun _ _ _ h => h) (Or.inl ⟨by rfl, ?_⟩) (by assumption) ?_
                      · intro wS hSw
                        try dsimp only at hSw
                        go_simp
                      try simp only [Act.put, List.setIfInBounds_toArray, List.set_cons_zero, List.set_cons_succ]
                      refine wpAnyH_done (by kernel_rfl) ?_ _
                      --C2>
                      go_wp2_with fail
                      exact ⟨⟨i + 1, by congr 1, by omega, Hv.out, belowN C2.out 1⟩, by simp [intOf]; omega⟩
                    · have knq : ((ti : Int) != (yj : Int)) = true := by rw [bne_iff_ne]; omega
                      have Hv := Lib.hid (Hnp.out (fun g => heq ((Hpi.out.1 g).1 rfl)))
                      clear heq
                      --C1<
                      refine wp_region_held_drew (S := fun w' => w'.cell? ⟨gp, 1, none⟩ = some (.bool true) ∧ w'.cell? ⟨gp, 2, none⟩ = some (.int .i64 (ti : Int)) ∧ w'.cell? ⟨bq, oq + i, none⟩ = some (.int .i64 (yj : Int)) ∧ w'.cell? ⟨w.heap.size, 2, none⟩ = some (.slice a2 s.fTypes.length c2)) (by kernel_rfl) ?_ (fun hHeld => ?_)
                      · try dsimp only
                        exact ⟨xp1, xp2, g1, m2⟩
                      refine wpAnyH_take (i := 0) (oi := { dst := some 64, op := Op.fieldAddr 45 (Operand.tmp 10) 1, type := 0, pos := "l10_fit.go:125", after := #[], guard := none }) (v := .pointer (some ⟨gp, 1, none⟩)) rfl (by kernel_rfl) (by kernel_rfl) (by kernel_rfl) (fun _ _ _ h => h) (Or.inl ⟨by rfl, ?_⟩) (by assumption) ?_
                      · intro wS hSw
                        try dsimp only at hSw
                        go_simp
                      try simp only [Act.put, List.setIfInBounds_toArray, List.set_cons_zero, List.set_cons_succ]
                      refine wpAnyH_take (i := 1) (oi := { dst := some 65, op := Op.load 4 (Operand.tmp 64), type := 4, pos := "l10_fit.go:125", after := #[{ on := 0, ground := Ground.data }], guard := none }) (v := .bool true) rfl (by kernel_rfl) (by kernel_rfl) (by kernel_rfl) (fun _ _ _ h => h) (Or.inl ⟨by rfl, ?_⟩) (by assumption) ?_
                      · intro wS hSw
                        try dsimp only at hSw
                        go_simp
                      try simp only [Act.put, List.setIfInBounds_toArray, List.set_cons_zero, List.set_cons_succ]
                      refine wpAnyH_take (i := 2) (oi := { dst := some 66, op := Op.move (Operand.tmp 65), type := 4, pos := "l10_fit.go:125", after := #[{ on := 1, ground := Ground.data }], guard := none }) (v := .bool true) rfl (by kernel_rfl) (by kernel_rfl) (by kernel_rfl) (fun _ _ _ h => h) (Or.inl ⟨by rfl, ?_⟩) (by assumption) ?_
                      · intro wS hSw
                        try dsimp only at hSw
                        go_simp
                      try simp only [Act.put, List.setIfInBounds_toArray, List.set_cons_zero, List.set_cons_succ]
                      refine wpAnyH_take (i := 3) (oi := { dst := some 67, op := Op.fieldAddr 45 (Operand.tmp 10) 2, type := 0, pos := "l10_fit.go:125", after := #[{ on := 2, ground := Ground.guard }], guard := some (2, true) }) (v := .pointer (some ⟨gp, 2, none⟩)) rfl (by kernel_rfl) (by kernel_rfl) (by kernel_rfl) (fun _ _ _ h => h) (Or.inl ⟨by rfl, ?_⟩) (by assumption) ?_
                      · intro wS hSw
                        try dsimp only at hSw
                        go_simp
                      try simp only [Act.put, List.setIfInBounds_toArray, List.set_cons_zero, List.set_cons_succ]
                      refine wpAnyH_take (i := 4) (oi := { dst := some 68, op := Op.load 3 (Operand.tmp 67), type := 3, pos := "l10_fit.go:125", after := #[{ on := 3, ground := Ground.data }, { on := 2, ground := Ground.guard }], guard := some (2, true) }) (v := .int .i64 (ti : Int)) rfl (by kernel_rfl) (by kernel_rfl) (by kernel_rfl) (fun _ _ _ h => h) (Or.inl ⟨by rfl, ?_⟩) (by assumption) ?_
                      · intro wS hSw
                        try dsimp only at hSw
                        go_simp
                      try simp only [Act.put, List.setIfInBounds_toArray, List.set_cons_zero, List.set_cons_succ]
                      refine wpAnyH_take (i := 5) (oi := { dst := some 69, op := Op.move (Operand.tmp 2), type := 37, pos := "l10_fit.go:125", after := #[{ on := 2, ground := Ground.guard }], guard := some (2, true) }) (v := .slice (some ⟨bq, oq, none⟩) ys.length yc) rfl (by kernel_rfl) (by kernel_rfl) (by kernel_rfl) (fun _ _ _ h => h) (Or.inl ⟨by rfl, ?_⟩) (by assumption) ?_
                      · intro wS hSw
                        try dsimp only at hSw
                        go_simp
                      try simp only [Act.put, List.setIfInBounds_toArray, List.set_cons_zero, List.set_cons_succ]
                      refine wpAnyH_take (i := 6) (oi := { dst := some 70, op := Op.move (Operand.tmp 9), type := 3, pos := "l10_fit.go:125", after := #[{ on := 2, ground := Ground.guard }], guard := some (2, true) }) (v := .int .i64 (i : Int)) rfl (by kernel_rfl) (by kernel_rfl) (by kernel_rfl) (fun _ _ _ h => h) (Or.inl ⟨by rfl, ?_⟩) (by assumption) ?_
                      · intro wS hSw
                        try dsimp only at hSw
                        go_simp
                      try simp only [Act.put, List.setIfInBounds_toArray, List.set_cons_zero, List.set_cons_succ]
                      refine wpAnyH_take (i := 7) (oi := { dst := some 71, op := Op.indexAddr 37 (Operand.tmp 69) (Operand.tmp 70), type := 0, pos := "l10_fit.go:125", after := #[{ on := 5, ground := Ground.data }, { on := 6, ground := Ground.data }, { on := 2, ground := Ground.guard }], guard := some (2, true) }) (v := .pointer (some ⟨bq, oq + i, none⟩)) rfl (by kernel_rfl) (by kernel_rfl) (by kernel_rfl) (fun _ _ _ h => h) (Or.inl ⟨by rfl, ?_⟩) (by assumption) ?_
                      · intro wS hSw
                        try dsimp only at hSw
                        go_simp
                      try simp only [Act.put, List.setIfInBounds_toArray, List.set_cons_zero, List.set_cons_succ]
                      refine wpAnyH_take (i := 8) (oi := { dst := some 72, op := Op.load 3 (Operand.tmp 71), type := 3, pos := "l10_fit.go:125", after := #[{ on := 7, ground := Ground.data }, { on := 2, ground := Ground.guard }], guard := some (2, true) }) (v := .int .i64 (yj : Int)) rfl (by kernel_rfl) (by kernel_rfl) (by kernel_rfl) (fun _ _ _ h => h) (Or.inl ⟨by rfl, ?_⟩) (by assumption) ?_
                      · intro wS hSw
                        try dsimp only at hSw
                        go_simp
                      try simp only [Act.put, List.setIfInBounds_toArray, List.set_cons_zero, List.set_cons_succ]
                      refine wpAnyH_take (i := 9) (oi := { dst := some 73, op := Op.binOp BinOp.neq 3 (Operand.tmp 68) (Operand.tmp 72) 3, type := 4, pos := "l10_fit.go:125", after := #[{ on := 4, ground := Ground.data }, { on := 8, ground := Ground.data }, { on := 2, ground := Ground.guard }], guard := some (2, true) }) (v := .bool true) rfl (by kernel_rfl) (by kernel_rfl) (by kernel_rfl) (fun _ _ _ h => h) (Or.inl ⟨by rfl, ?_⟩) (by assumption) ?_
                      · intro wS hSw
                        try dsimp only at hSw
                        go_simp
                      try simp only [Act.put, List.setIfInBounds_toArray, List.set_cons_zero, List.set_cons_succ]
                      refine wpAnyH_take (i := 10) (oi := { dst := some 74, op := Op.pick (Operand.tmp 66) (Operand.tmp 73) (Operand.const (Value.bool false)), type := 4, pos := "l10_fit.go:125", after := #[{ on := 2, ground := Ground.data }, { on := 9, ground := Ground.data }], guard := none }) (v := .bool true) rfl (by kernel_rfl) (by kernel_rfl) (by kernel_rfl) (fun _ _ _ h => h) (Or.inl ⟨by rfl, ?_⟩) (by assumption) ?_
                      · intro wS hSw
                        try dsimp only at hSw
                        go_simp
                      try simp only [Act.put, List.setIfInBounds_toArray, List.set_cons_zero, List.set_cons_succ]
                      refine wpAnyH_take (i := 11) (oi := { dst := some 75, op := Op.move (Operand.tmp 74), type := 4, pos := "l10_fit.go:125", after := #[{ on := 10, ground := Ground.data }, { on := 2, ground := Ground.chain }], guard := none }) (v := .bool true) rfl (by kernel_rfl) (by kernel_rfl) (by kernel_rfl) (fun _ _ _ h => h) (Or.inl ⟨by rfl, ?_⟩) (by assumption) ?_
                      · intro wS hSw
                        try dsimp only at hSw
                        go_simp
                      try simp only [Act.put, List.setIfInBounds_toArray, List.set_cons_zero, List.set_cons_succ]
                      refine wpAnyH_take (i := 12) (oi := { dst := some 76, op := Op.fieldAddr 45 (Operand.tmp 10) 1, type := 0, pos := "l10_fit.go:125", after := #[{ on := 11, ground := Ground.guard }], guard := some (11, false) }) (v := undef) rfl (by kernel_rfl) (by kernel_rfl) (by kernel_rfl) (fun _ _ _ h => h) (Or.inr ⟨by rfl, rfl⟩) (by assumption) ?_
                      try simp only [Act.put, List.setIfInBounds_toArray, List.set_cons_zero, List.set_cons_succ]
                      refine wpAnyH_take (i := 13) (oi := { dst := some 77, op := Op.load 4 (Operand.tmp 76), type := 4, pos := "l10_fit.go:125", after := #[{ on := 12, ground := Ground.data }, { on := 11, ground := Ground.guard }], guard := some (11, false) }) (v := undef) rfl (by kernel_rfl) (by kernel_rfl) (by kernel_rfl) (fun _ _ _ h => h) (Or.inr ⟨by rfl, rfl⟩) (by assumption) ?_
                      try simp only [Act.put, List.setIfInBounds_toArray, List.set_cons_zero, List.set_cons_succ]
                      refine wpAnyH_take (i := 14) (oi := { dst := some 78, op := Op.unOp UnOp.not 4 (Operand.tmp 77), type := 4, pos := "l10_fit.go:125", after := #[{ on := 13, ground := Ground.data }, { on := 11, ground := Ground.guard }], guard := some (11, false) }) (v := undef) rfl (by kernel_rfl) (by kernel_rfl) (by kernel_rfl) (fun _ _ _ h => h) (Or.inr ⟨by rfl, rfl⟩) (by assumption) ?_
                      try simp only [Act.put, List.setIfInBounds_toArray, List.set_cons_zero, List.set_cons_succ]
                      refine wpAnyH_take (i := 15) (oi := { dst := some 79, op := Op.move (Operand.tmp 78), type := 4, pos := "l10_fit.go:125", after := #[{ on := 14, ground := Ground.data }, { on := 11, ground := Ground.chain }, { on := 11, ground := Ground.guard }], guard := some (11, false) }) (v := undef) rfl (by kernel_rfl) (by kernel_rfl) (by kernel_rfl) (fun _ _ _ h => h) (Or.inr ⟨by rfl, rfl⟩) (by assumption) ?_
                      try simp only [Act.put, List.setIfInBounds_toArray, List.set_cons_zero, List.set_cons_succ]
                      refine wpAnyH_take (i := 16) (oi := { dst := some 80, op := Op.fieldAddr 36 (Operand.tmp 3) 2, type := 0, pos := "l10_fit.go:125", after := #[{ on := 15, ground := Ground.guard }], guard := some (15, true) }) (v := undef) rfl (by kernel_rfl) (by kernel_rfl) (by kernel_rfl) (fun _ _ _ h => h) (Or.inr ⟨by rfl, rfl⟩) (by assumption) ?_
                      try simp only [Act.put, List.setIfInBounds_toArray, List.set_cons_zero, List.set_cons_succ]
                      refine wpAnyH_take (i := 17) (oi := { dst := some 81, op := Op.load 24 (Operand.tmp 80), type := 24, pos := "l10_fit.go:125", after := #[{ on := 16, ground := Ground.data }, { on := 15, ground := Ground.guard }], guard := some (15, true) }) (v := undef) rfl (by kernel_rfl) (by kernel_rfl) (by kernel_rfl) (fun _ _ _ h => h) (Or.inr ⟨by rfl, rfl⟩) (by assumption) ?_
                      try simp only [Act.put, List.setIfInBounds_toArray, List.set_cons_zero, List.set_cons_succ]
                      refine wpAnyH_take (i := 18) (oi := { dst := some 82, op := Op.fieldAddr 45 (Operand.tmp 10) 2, type := 0, pos := "l10_fit.go:125", after := #[{ on := 15, ground := Ground.guard }], guard := some (15, true) }) (v := undef) rfl (by kernel_rfl) (by kernel_rfl) (by kernel_rfl) (fun _ _ _ h => h) (Or.inr ⟨by rfl, rfl⟩) (by assumption) ?_
                      try simp only [Act.put, List.setIfInBounds_toArray, List.set_cons_zero, List.set_cons_succ]
                      refine wpAnyH_take (i := 19) (oi := { dst := some 83, op := Op.load 3 (Operand.tmp 82), type := 3, pos := "l10_fit.go:125", after := #[{ on := 18, ground := Ground.data }, { on := 15, ground := Ground.guard }], guard := some (15, true) }) (v := undef) rfl (by kernel_rfl) (by kernel_rfl) (by kernel_rfl) (fun _ _ _ h => h) (Or.inr ⟨by rfl, rfl⟩) (by assumption) ?_
                      try simp only [Act.put, List.setIfInBounds_toArray, List.set_cons_zero, List.set_cons_succ]
                      refine wpAnyH_take (i := 20) (oi := { dst := some 84, op := Op.move (Operand.tmp 2), type := 37, pos := "l10_fit.go:125", after := #[{ on := 15, ground := Ground.guard }], guard := some (15, true) }) (v := undef) rfl (by kernel_rfl) (by kernel_rfl) (by kernel_rfl) (fun _ _ _ h => h) (Or.inr ⟨by rfl, rfl⟩) (by assumption) ?_
                      try simp only [Act.put, List.setIfInBounds_toArray, List.set_cons_zero, List.set_cons_succ]
                      refine wpAnyH_take (i := 21) (oi := { dst := some 85, op := Op.move (Operand.tmp 9), type := 3, pos := "l10_fit.go:125", after := #[{ on := 15, ground := Ground.guard }], guard := some (15, true) }) (v := undef) rfl (by kernel_rfl) (by kernel_rfl) (by kernel_rfl) (fun _ _ _ h => h) (Or.inr ⟨by rfl, rfl⟩) (by assumption) ?_
                      try simp only [Act.put, List.setIfInBounds_toArray, List.set_cons_zero, List.set_cons_succ]
                      refine wpAnyH_take (i := 22) (oi := { dst := some 86, op := Op.indexAddr 37 (Operand.tmp 84) (Operand.tmp 85), type := 0, pos := "l10_fit.go:125", after := #[{ on := 20, ground := Ground.data }, { on := 21, ground := Ground.data }, { on := 15, ground := Ground.guard }], guard := some (15, true) }) (v := undef) rfl (by kernel_rfl) (by kernel_rfl) (by kernel_rfl) (fun _ _ _ h => h) (Or.inr ⟨by rfl, rfl⟩) (by assumption) ?_
                      try simp only [Act.put, List.setIfInBounds_toArray, List.set_cons_zero, List.set_cons_succ]
                      refine wpAnyH_take (i := 23) (oi := { dst := some 87, op := Op.load 3 (Operand.tmp 86), type := 3, pos := "l10_fit.go:125", after := #[{ on := 22, ground := Ground.data }, { on := 15, ground := Ground.guard }], guard := some (15, true) }) (v := undef) rfl (by kernel_rfl) (by kernel_rfl) (by kernel_rfl) (fun _ _ _ h => h) (Or.inr ⟨by rfl, rfl⟩) (by assumption) ?_
                      try simp only [Act.put, List.setIfInBounds_toArray, List.set_cons_zero, List.set_cons_succ]
                      refine wpAnyH_take (i := 24) (oi := { dst := some 88, op := Op.call { callee := Callee.value (Operand.func 25), args := #[Operand.tmp 81, Operand.tmp 83, Operand.tmp 87], argTypes := #[24, 3, 3] }, type := 4, pos := "l10_fit.go:125", after := #[{ on := 17, ground := Ground.data }, { on := 19, ground := Ground.data }, { on := 23, ground := Ground.data }, { on := 15, ground := Ground.chain }, { on := 15, ground := Ground.guard }], guard := some (15, true) }) (v := undef) rfl (by kernel_rfl) (by kernel_rfl) (by kernel_rfl) (fun _ _ _ h => h) (Or.inr ⟨by rfl, rfl⟩) (by assumption) ?_
                      try simp only [Act.put, List.setIfInBounds_toArray, List.set_cons_zero, List.set_cons_succ]
                      refine wpAnyH_take (i := 25) (oi := { dst := some 89, op := Op.unOp UnOp.not 4 (Operand.tmp 88), type := 4, pos := "l10_fit.go:125", after := #[{ on := 24, ground := Ground.data }, { on := 15, ground := Ground.guard }], guard := some (15, true) }) (v := undef) rfl (by kernel_rfl) (by kernel_rfl) (by kernel_rfl) (fun _ _ _ h => h) (Or.inr ⟨by rfl, rfl⟩) (by assumption) ?_
                      try simp only [Act.put, List.setIfInBounds_toArray, List.set_cons_zero, List.set_cons_succ]
                      refine wpAnyH_take (i := 26) (oi := { dst := some 90, op := Op.pick (Operand.tmp 79) (Operand.tmp 89) (Operand.const (Value.bool false)), type := 4, pos := "l10_fit.go:125", after := #[{ on := 15, ground := Ground.data }, { on := 25, ground := Ground.data }, { on := 11, ground := Ground.guard }], guard := some (11, false) }) (v := undef) rfl (by kernel_rfl) (by kernel_rfl) (by kernel_rfl) (fun _ _ _ h => h) (Or.inr ⟨by rfl, rfl⟩) (by assumption) ?_
                      try simp only [Act.put, List.setIfInBounds_toArray, List.set_cons_zero, List.set_cons_succ]
                      refine wpAnyH_take (i := 27) (oi := { dst := some 91, op := Op.pick (Operand.tmp 75) (Operand.const (Value.bool true)) (Operand.tmp 90), type := 4, pos := "l10_fit.go:125", after := #[{ on := 11, ground := Ground.data }, { on := 26, ground := Ground.data }], guard := none }) (v := .bool true) rfl (by kernel_rfl) (by kernel_rfl) (by kernel_rfl) (fun _ _ _ h => h) (Or.inl ⟨by rfl, ?_⟩) (by assumption) ?_
                      · intro wS hSw
                        try dsimp only at hSw
                        go_simp
                      try simp only [Act.put, List.setIfInBounds_toArray, List.set_cons_zero, List.set_cons_succ]
                      refine wpAnyH_done (by kernel_rfl) ?_ _
                      --C1>
                      have Hq2 := Lib.hid (show callA s (k : Int) ys = false by rw [Bool.eq_false_iff]; exact fun e => Hv.out (U2.out.1 e))
                      go_wp2_with fail
                      go_ret2
                      exact ⟨by rw [U1.out, Hq2.out]; rfl, belowN B2.out 1⟩
                · have Hv := Lib.hid (show callA s (k : Int) ys = true from U2.out.2 ⟨Hlen.out, fun j h h' => Hyes2.out j h h' (by omega)⟩)
                  clear hbel
                  go_wp2_with fail
                  go_ret2
                  exact ⟨by rw [U1.out, Hv.out]; rfl, B1.out.trans (Hbel.out.mono B1.out.size)⟩
            · have hnl : ((t.fParams.length : Int) != (ys.length : Int)) = true := by rw [bne_iff_ne]; omega
              have Hv := Lib.hid (show callA s (k : Int) ys = false by rw [Bool.eq_false_iff]; exact fun e => hlen (U2.out.1 e).1)
              clear hlen
              go_wp2_with fail
              go_ret2
              exact ⟨by rw [U1.out, Hv.out]; rfl, B1.out⟩
        · have hgt : (4 : Int) < (ys.length : Int) := by omega
          obtain ⟨u1, u2⟩ := Hno.out (fun g => h5 g.2.2.1)
          have U1 := Lib.hid u1
          have U2 := Lib.hid u2
          clear u1 u2
          go_wp2_with fail
          go_ret2
          exact ⟨by rw [U1.out, U2.out]; rfl, B1.out⟩
      · have hne : (t.fKind != 4) = true := by rw [bne_iff_ne]; exact h4
        obtain ⟨u1, u2⟩ := Hno.out (Hk4.out h4)
        have U1 := Lib.hid u1
        have U2 := Lib.hid u2
        clear u1 u2 h4
        go_wp2_with fail
        go_ret2
        exact ⟨by rw [U1.out, U2.out]; rfl, B1.out⟩
    · obtain ⟨u1, u2⟩ := Hno.out (fun g => by obtain ⟨k', hk', e, _⟩ := g.2.1; exact hin (by omega))
      have U1 := Lib.hid u1
      have U2 := Lib.hid u2
      clear u1 u2
      go_wp2_with fail
      refine (sIn_no _ _ _ _ (by omega)).mono ?_
      rintro e w2 ⟨rfl, rfl⟩
      clear hin
      go_wp2_with fail
      go_ret2
      exact ⟨by rw [U1.out, U2.out]; rfl, B1.out⟩
  · rw [scopeB_false p1] at hg
    obtain ⟨u1, u2⟩ := Hno.out (fun g => p1 g.1)
    have U1 := Lib.hid u1
    have U2 := Lib.hid u2
    have Hg := Lib.hid hg
    clear u1 u2 p1 hg
    go_wp2_with fail
    refine Hg.out.mono ?_
    rintro e w1 ⟨rfl, hb1⟩
    have B1 := Lib.hid (B0.out.trans (hb1.mono B0.out.size))
    clear hb1
    go_wp2_with fail
    go_ret2
    exact ⟨by rw [U1.out, U2.out]; rfl, B1.out⟩
end Go.Proofs.Ytnhdijkaakjdgaa
