
/-
  What is proved: the contract of the model's anyTypes. No condition beside what the theorem states.
-/
import Derived.Test.YtjbnabjfeepbeaaDrawT3
namespace Go.Proofs.Ytjbnabjfeepbeaa
open Go.ChangeShapes Go.WideShapes Go.ChangeAt Go.RowKit
set_option maxRecDepth 100000

set_option maxHeartbeats 16000000 in
theorem cAnyTypes (g k : Nat) (w : World) (hk : k ≤ 800000) (hc : Cur w g k) :
    Calls Try.prog 74 #[.pointer (some ⟨g, 0, none⟩)] w fun e w' => ∃ a n c, e = .returned (.slice a n c) ∧ AnyT g (k + 1100) w.heap.size w a n c w' := by
  have hgw := hc.lt
  have Hc := Lib.hid hc
  clear hc
  go_enter Try.func74, Try.ntmps74
  go_wp2_with fail
  refine (cTypes g k _ (by omega) Hc.out).mono ?_
  rintro e w1 ⟨v, l, rfl, htr, hl3, hl9, hdr, hcu, hon⟩
  obtain ⟨la, lc, rfl, hlc, hlc2, hrr⟩ := OwnG.rows (Q := fun q => w.heap.size ≤ q) htr (fun q hq _ => hq) (fun q hq => (OwnG.lt htr q hq).1)
  obtain ⟨rb, ro, rcs, hra, hz1, hz2, hz3, hz4⟩ := hrr 0 (by omega)
  clear hz1 hz2 hz3 hz4
  subst hra
  have hrb : ro = 0 := by
    rcases htr with ⟨h, _⟩ | ⟨b', cap, cur, hv, _⟩
    · cases h
    · injection hv with hv
      injection hv with hv
      injection hv
  subst hrb
  obtain ⟨cur, hbox, hrB⟩ := OwnG.boxOf htr
  have A1 := Lib.hid (show AnyT g (k + 1000) w.heap.size w (some ⟨rb, 0, none⟩) l.length lc w1 from ⟨l, rfl, hlc, hlc2, hl9, hrr, fun t ht => drawn_short (hdr t ht), hcu, hon⟩)
  have X1 := Lib.hid hbox
  have C1 := Lib.hid hcu
  clear htr hrr hdr hcu hon hbox
  generalize l.length = n at A1 hl3 hl9 hlc hlc2 ⊢
  have hrg : rb ≠ g := by omega
  go_wp2_with fail
  refine (cPick g _ (n : Int) _ (by omega) (by omega) (by omega) C1.out).mono ?_
  rintro e w2 ⟨q0, ⟨q00, q01⟩, rfl, hc2, ho2⟩
  obtain ⟨q, rfl⟩ := Int.eq_ofNat_of_zero_le q00
  have A2 := Lib.hid (A1.out.pick hgw hc2 ho2)
  have X2 := Lib.hid (X1.out.only ho2 hrg)
  have C2 := Lib.hid hc2
  clear hc2 ho2 A1 X1 C1
  go_wp2_with fail
  refine (cPick g _ 30 _ (by omega) (by omega) (by omega) C2.out).mono ?_
  rintro e w3 ⟨x, ⟨x0, x1⟩, rfl, hc3, ho3⟩
  have A3 := Lib.hid (A2.out.pick hgw hc3 ho3)
  have X3 := Lib.hid (X2.out.only ho3 hrg)
  have C3 := Lib.hid hc3
  clear hc3 ho3 A2 X2 C2
  obtain ⟨l3, d1, _, _, _, d5, d6, _, _⟩ := A3.out
  have hq3 : q < l3.length := by omega
  obtain ⟨b, o, cs, hba, _, hb1, hc1, hat⟩ := d5 q hq3
  obtain ⟨a3, c3, rfl, hrf, hfc, hfz⟩ := hat
  cases hba
  have hS : typeZ.n = 6 := rfl
  rw [hS] at hc1
  have e0 := hc1 0 (by decide)
  have e1 := hc1 1 (by decide)
  have e3 := hc1 3 (by decide)
  have e5 := hc1 5 (by decide)
  simp at e0 e1 e3 e5
  have fr := X3.out.free
  have i1 : (0 : Int) ≤ (q : Int) := by omega
  have i2 : (q : Int) < (n : Int) := by omega
  have HF := Lib.hid hrf
  clear hc1 d5 hrf
  by_cases h0 : x = 0
  · subst h0
    have AE := Lib.hid (fun u hu => A3.out.over (u := u) e1 hu hrB (by omega))
    go_wp2_with fail
    go_ret
    exact ⟨_, n, lc, rfl, (by
      obtain ⟨m, m1, m2, m3, m4, m5, m6, m7, m8⟩ := AE.out _ (.inl ⟨_, _, rfl, rfl⟩)
      exact ⟨m, m1, m2, m3, m4, m5, m6, m7.more (by omega), m8⟩)⟩
  have b0 : (x == 0) = false := beq_eq_false_iff_ne.2 h0
  by_cases h1 : x = 1
  · subst h1
    clear b0 h0
    go_wp2_with fail
    refine (cOfLit g _ [⟨#[]⟩, ⟨#[73, 78, 84]⟩, ⟨#[84, 51]⟩] 20 _ _ (by omega) (by decide) (by decide) C3.out (by decide) rfl).mono ?_
    rintro e w4 ⟨s1, hs1, rfl, hc4, ho4⟩
    have A4 := Lib.hid (A3.out.pick hgw hc4 ho4)
    have X4 := Lib.hid (X3.out.only ho4 hrg)
    have g5 := (World.cell?_of_block (a := ⟨rb, q * 6 + 5, none⟩) (ho4.block rb X3.out.lt (fun e => by injection e with e; omega))).trans e5
    have fr4 := X4.out.free
    have AE := Lib.hid (fun u hu => A4.out.over (u := u) g5 hu hrB (by omega))
    clear hc4 ho4
    go_wp2_with fail
    go_ret
    exact ⟨_, n, lc, rfl, (by
      obtain ⟨m, m1, m2, m3, m4, m5, m6, m7, m8⟩ := AE.out _ (.inr ⟨_, _, rfl, rfl, hs1⟩)
      exact ⟨m, m1, m2, m3, m4, m5, m6, m7.more (by omega), m8⟩)⟩
  have b1 : (x == 1) = false := beq_eq_false_iff_ne.2 h1
  by_cases h2 : x = 2
  · subst h2
    clear b0 b1 h0 h1
    by_cases hf0 : 0 < l3[q].fFields.length
    · obtain ⟨b3, o3, cs3, rfl, f1, f2, f3, f4⟩ := HF.out 0 hf0
      obtain rfl : cs3 = [.string l3[q].fFields[0].fName, .int .i64 l3[q].fFields[0].fMark, .int .i64 l3[q].fFields[0].fType] := f4
      have k2 := f3 2 (by decide)
      have hnf : fieldS.n = 3 := rfl
      rw [hnf] at k2
      simp at k2
      have fz := hfz hf0 b3 o3 (o3 + 2) rfl
      have hb3 : b3 ≠ g := by omega
      have j1 : (0 : Int) < (l3[q].fFields.length : Int) := by omega
      have hw1 : IntKind.i64.wrap ((n : Int) + 1) = (n : Int) + 1 := IntWalk.i64_in _ (by omega)
      have j3 : (0 : Int) ≤ 0 := Int.le_refl 0
      have CD := Lib.hid (C3.out.below (⟨rfl, rfl, rfl, Nat.le_refl _, fun _ _ => rfl⟩ : Below w3.heap.size w3 w3.drew) C3.out.lt)
      go_wp2_with fail
      go_region_law (go_simp; go_at_call 63; refine (cPick g _ ((n : Int) + 1) _ (by omega) (by omega) (by omega) CD.out).mono ?_; rintro e w4 ⟨y, ⟨y0, y1⟩, rfl, hc4, ho4'⟩; have ho4 : Only g w3 w4 := ⟨ho4'.os, ho4'.tape, ho4'.output, ho4'.size, ho4'.block⟩; clear ho4'; have A4 := Lib.hid (A3.out.pick hgw hc4 ho4); have X4 := Lib.hid (X3.out.only ho4 hrg); have g3 := (World.cell?_of_block (a := ⟨rb, q * 6 + 3, none⟩) (ho4.block rb X3.out.lt (fun e => by injection e with e; omega))).trans e3; have m2 := (World.cell?_of_block (a := ⟨b3, o3 + 2, none⟩) (ho4.block b3 f2 (fun e => by injection e with e; omega))).trans k2; have mz : w4.frozen? ⟨b3, o3 + 2, none⟩ = false := (by unfold World.frozen? at fz ⊢; rw [ho4.block b3 f2 (fun e => by injection e with e; omega)]; exact fz); have AE := Lib.hid (fun u hu => A4.out.over (u := u) m2 hu f1 (by omega)); clear hc4 ho4)
      all_goals
        have AF := Lib.hid (AE.out (.int .i64 y) (.inl ⟨_, _, rfl, rfl⟩))
        clear AE m2 mz g3 X4 A4
        go_wp2_with fail
        go_ret
        exact ⟨_, n, lc, rfl, (by
          obtain ⟨m, m1, m2, m3, m4, m5, m6, m7, m8⟩ := AF.out
          exact ⟨m, m1, m2, m3, m4, m5, m6, m7.more (by omega), m8⟩)⟩
    · have j2 : ¬ (0 : Int) < (l3[q].fFields.length : Int) := by omega
      go_wp2_with fail
      go_ret
      exact ⟨_, n, lc, rfl, (by
        obtain ⟨m, m1, m2, m3, m4, m5, m6, m7, m8⟩ := A3.out
        exact ⟨m, m1, m2, m3, m4, m5, m6, m7.more (by omega), m8⟩)⟩
  have b2 : (x == 2) = false := beq_eq_false_iff_ne.2 h2
  by_cases h3 : x = 3
  · subst h3
    clear b0 b1 b2 h0 h1 h2
    go_wp2_with fail
    refine (cPick g _ 8 _ (by omega) (by omega) (by omega) C3.out).mono ?_
    rintro e w4 ⟨y, ⟨y0, y1⟩, rfl, hc4, ho4⟩
    have A4 := Lib.hid (A3.out.pick hgw hc4 ho4)
    have X4 := Lib.hid (X3.out.only ho4 hrg)
    have g0 := (World.cell?_of_block (a := ⟨rb, q * 6, none⟩) (ho4.block rb X3.out.lt (fun e => by injection e with e; omega))).trans e0
    have fr4 := X4.out.free
    have AE := Lib.hid (fun u hu => A4.out.over (u := u) g0 hu hrB (by omega))
    clear hc4 ho4
    go_wp2_with fail
    go_ret
    exact ⟨_, n, lc, rfl, (by
      obtain ⟨m, m1, m2, m3, m4, m5, m6, m7, m8⟩ := AE.out _ (.inl ⟨_, _, rfl, rfl⟩)
      exact ⟨m, m1, m2, m3, m4, m5, m6, m7.more (by omega), m8⟩)⟩
  have b3 : (x == 3) = false := beq_eq_false_iff_ne.2 h3
  by_cases h4 : x = 4
  · subst h4
    clear b0 b1 b2 b3 h0 h1 h2 h3
    go_wp2_with fail
    refine (cPick g _ 4 _ (by omega) (by omega) (by omega) C3.out).mono ?_
    rintro e w4 ⟨y, ⟨y0, y1⟩, rfl, hc4, ho4⟩
    obtain ⟨m0, rfl⟩ := Int.eq_ofNat_of_zero_le y0
    have A4 := Lib.hid (A3.out.pick hgw hc4 ho4)
    have hc0 : ¬ (lc = 0) := by omega
    have hwm : IntKind.i64.wrap (m0 : Int) = (m0 : Int) := IntWalk.i64_in _ (by omega)
    have j1 : (m0 : Int) ≤ (lc : Int) := by omega
    clear hc4 ho4
    go_wp2_with fail
    go_ret
    exact ⟨_, m0, lc, rfl, (by
      obtain ⟨m, m1, m2, m3, m4, m5, m6, m7, m8⟩ := A4.out.take (m := m0) (by omega)
      exact ⟨m, m1, m2, m3, m4, m5, m6, m7.more (by omega), m8⟩)⟩
  have b4 : (x == 4) = false := beq_eq_false_iff_ne.2 h4
  go_wp2_with fail
  go_ret
  exact ⟨_, n, lc, rfl, (by
    obtain ⟨m, m1, m2, m3, m4, m5, m6, m7, m8⟩ := A3.out
    exact ⟨m, m1, m2, m3, m4, m5, m6, m7.more (by omega), m8⟩)⟩
end Go.Proofs.Ytjbnabjfeepbeaa
