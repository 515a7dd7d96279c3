
/-
  What is proved: the contracts of the model's l1Most and of its draw of types and a number for IsRound. No condition beside what each theorem states.
-/
import Derived.Test.YtjbnabjfeepbeaaDrawT6
namespace Go.Proofs.Ytjbnabjfeepbeaa
open Go.ChangeShapes Go.WideShapes Go.ChangeAt Go.RowKit
set_option maxRecDepth 100000

theorem sl1Most (x y : Int) (w : World) : Calls Try.prog 64 #[.int .i64 x, .int .i64 y] w fun e w' => ∃ z : Int, e = .returned (.int .i64 z) ∧ w' = w ∧ x ≤ z ∧ y ≤ z ∧ (z = x ∨ z = y) := by
  go_enter Try.func64, Try.ntmps64
  by_cases h : y < x
  · go_wp2_with fail
    go_ret
    exact ⟨x, rfl, rfl, by omega, by omega, .inl rfl⟩
  · go_wp2_with fail
    go_ret
    exact ⟨y, rfl, rfl, by omega, by omega, .inr rfl⟩
set_option maxHeartbeats 8000000 in
theorem dIsRound (a : Option Addr) (len cap : Nat) (w : World) (h : Code w a len) : Calls Try.prog 16 #[.slice a len cap] w fun e w' => ∃ a n c m, e = .returned (.tuple #[.slice a n c, .int .i64 m]) ∧ -1 ≤ m ∧ m ≤ (n : Int) ∧ TDrawn w a n c w' := by
  have H := Lib.hid h
  clear h
  go_enter Try.func16, Try.ntmps16
  go_wp2_with fail
  refine (cTyped _ 0 _ (by decide) H.out.cur).mono ?_
  rintro e w1 ⟨a1, n, c, m, rfl, m0, m1, hat⟩
  have A1 := Lib.hid hat
  obtain ⟨_, _, _, _, hn9, _, _, hcu, _⟩ := hat
  have C1 := Lib.hid hcu
  clear hcu
  go_wp2_with fail
  refine (sl1Most 1 (n : Int) w1).mono ?_
  rintro e _ ⟨z, rfl, rfl, hz1, hz2, hz3⟩
  go_wp2_with fail
  refine (cPick _ _ z _ (by omega) (by omega) (by omega) C1.out).mono ?_
  rintro e w2 ⟨q0, ⟨q00, q01⟩, rfl, hc2, ho2⟩
  obtain ⟨q, rfl⟩ := Int.eq_ofNat_of_zero_le q00
  have A2 := Lib.hid (A1.out.pick (by simp) hc2 ho2)
  have C2 := Lib.hid hc2
  clear hc2 ho2 A1 C1
  by_cases hqn : (q : Int) < (n : Int)
  · obtain ⟨l3, d1, _, _, _, d5, d6, _, _⟩ := A2.out
    have hq3 : q < l3.length := by omega
    obtain ⟨b, o, cs, rfl, hbB, hb1, hcc, a3, c3, rfl, hrf, hfc, hfz⟩ := d5 q hq3
    have hS : typeZ.n = 6 := rfl
    rw [hS] at hcc
    have e3 := hcc 3 (by decide)
    simp at e3
    by_cases hf0 : 0 < l3[q].fFields.length
    · obtain ⟨b3, o3, cs3, rfl, f1, f2, f3, f4⟩ := hrf 0 hf0
      obtain rfl : cs3 = [.string l3[q].fFields[0].fName, .int .i64 l3[q].fFields[0].fMark, .int .i64 l3[q].fFields[0].fType] := f4
      have k2 := f3 2 (by decide)
      have hnf : fieldS.n = 3 := rfl
      rw [hnf] at k2
      simp at k2
      have fz := hfz hf0 b3 o3 (o3 + 2) rfl
      have j1 : (0 : Int) < (l3[q].fFields.length : Int) := by omega
      clear hcc d5 hrf f3
      go_wp2_with fail
      refine (cOne _ _ 3 _ (by omega) (by omega) (by omega) C2.out).mono ?_
      rintro e w3 ⟨o1, rfl, hc4, ho4⟩
      have f1' : w.heap.size < b3 := by simp at f1; omega
      have A3 := Lib.hid (A2.out.pick (by simp) hc4 ho4)
      have g3 := (World.cell?_of_block (a := ⟨b, o + q * 6 + 3, none⟩) (ho4.block b hb1 (fun e => by injection e with e; simp at hbB; omega))).trans e3
      have m2 := (World.cell?_of_block (a := ⟨b3, o3 + 2, none⟩) (ho4.block b3 f2 (fun e => by injection e with e; omega))).trans k2
      have mz : w3.frozen? ⟨b3, o3 + 2, none⟩ = false := by unfold World.frozen? at fz ⊢; rw [ho4.block b3 f2 (fun e => by injection e with e; omega)]; exact fz
      have AE := Lib.hid (fun u hu => A3.out.over (u := u) m2 hu f1 f1')
      have j3 : (0 : Int) ≤ 0 := Int.le_refl 0
      clear hc4 ho4 A2 C2
      cases o1
      · go_wp2_with fail
        go_ret2
        exact ⟨_, n, c, m, rfl, m0, m1, A3.out.drawn⟩
      · have AF := Lib.hid (AE.out (.int .i64 q) (.inl ⟨_, _, rfl, rfl⟩)).drawn
        go_wp2_with fail
        go_ret2
        exact ⟨_, n, c, m, rfl, m0, m1, AF.out⟩
    · have j2 : ¬ (0 : Int) < (l3[q].fFields.length : Int) := by omega
      clear hcc d5 hrf
      go_wp2_with fail
      go_ret2
      exact ⟨_, n, c, m, rfl, m0, m1, A2.out.drawn⟩
  · go_wp2_with fail
    go_ret2
    exact ⟨_, n, c, m, rfl, m0, m1, A2.out.drawn⟩
end Go.Proofs.Ytjbnabjfeepbeaa
