
/-
  What is proved: rows of drawn types stay such where a number is stored over one, or a short text over one; the contract of the model's anyTypes; the contract of the model's typed; the contract of the model's draw of types and numbers for ReachedOf; the contracts of the model's l1Most and of its draw of types and a number for IsRound. No condition beside what each theorem states.
-/
import Derived.Test.YtnhdijkaakjdgaaDrawT2
namespace Go.Proofs.Ytnhdijkaakjdgaa
open Go.ChangeShapes Go.WideShapes Go.ChangeAt Go.RowKit
set_option maxRecDepth 100000

theorem list_pick {T : Type} (R : Nat → T → Prop) : ∀ n, (∀ i, i < n → ∃ t, R i t) → ∃ l : List T, l.length = n ∧ ∀ i (hi : i < l.length), R i l[i]
  | 0, _ => ⟨[], rfl, fun i hi => absurd hi (by simp)⟩
  | n + 1, h => by
    obtain ⟨l, hl, hr⟩ := list_pick R n (fun i hi => h i (by omega))
    obtain ⟨t, ht⟩ := h n (by omega)
    refine ⟨l ++ [t], by simp [hl], fun i hi => ?_⟩
    by_cases hin : i < l.length
    · rw [List.getElem_append_left hin]; exact hr i hin
    · have : i = n := by simp at hi; omega
      subst this
      rw [List.getElem_append_right (by omega)]
      simpa using ht
/-- A number over a number, or a short text over a text. -/
def over (u0 u : Value) : Prop := (∃ x y, u0 = .int .i64 x ∧ u = .int .i64 y) ∨ ∃ s s' : ByteArray, u0 = .string s ∧ u = .string s' ∧ s'.size ≤ 20
section
variable {w : World} {p q : Addr} {u0 u : Value}
theorem over_int (hp : w.cell? p = some u0) (hk : over u0 u) {x : Int} (hq : w.cell? q = some (.int .i64 x)) : ∃ y, (w.setCell p u).cell? q = some (.int .i64 y) := by
  by_cases e : q = p
  · subst e
    rw [hp] at hq
    rcases hk with ⟨x0, y, h1, h2⟩ | ⟨s, s', h1, h2, _⟩
    · exact ⟨y, by rw [World.cell?_setCell_same _ _ _ hp, h2]⟩
    · rw [h1] at hq; cases hq
  · exact ⟨x, (World.cell?_setCell_other _ _ _ _ (Ne.symm e)).trans hq⟩
theorem over_str (hp : w.cell? p = some u0) (hk : over u0 u) {s : ByteArray} (hq : w.cell? q = some (.string s)) (hs : s.size ≤ 20) : ∃ s', (w.setCell p u).cell? q = some (.string s') ∧ s'.size ≤ 20 := by
  by_cases e : q = p
  · subst e
    rw [hp] at hq
    rcases hk with ⟨x0, y, h1, h2⟩ | ⟨s0, s', h1, h2, h3⟩
    · rw [h1] at hq; cases hq
    · exact ⟨s', by rw [World.cell?_setCell_same _ _ _ hp, h2], h3⟩
  · exact ⟨s, (World.cell?_setCell_other _ _ _ _ (Ne.symm e)).trans hq, hs⟩
theorem over_sl (hp : w.cell? p = some u0) (hk : over u0 u) {a : Option Addr} {n c : Nat} (hq : w.cell? q = some (.slice a n c)) : (w.setCell p u).cell? q = some (.slice a n c) := by
  by_cases e : q = p
  · subst e
    rw [hp] at hq
    rcases hk with ⟨x0, y, h1, h2⟩ | ⟨s0, s', h1, h2, h3⟩
    · rw [h1] at hq; cases hq
    · rw [h1] at hq; cases hq
  · exact (World.cell?_setCell_other _ _ _ _ (Ne.symm e)).trans hq
theorem rowsF_over {Q : Nat → Prop} {a : Option Addr} {l : List FieldD} (hp : w.cell? p = some u0) (hk : over u0 u) (hr : Rows fieldS Q w a l) (hok : ∀ f ∈ l, f.fName.size ≤ 20) : ∃ l' : List FieldD, l'.length = l.length ∧ Rows fieldS Q (w.setCell p u) a l' ∧ ∀ f ∈ l', f.fName.size ≤ 20 := by
  obtain ⟨l', hl, hR⟩ := list_pick (fun i (t : FieldD) => (∃ b o cs, a = some ⟨b, o, none⟩ ∧ Q b ∧ b < (w.setCell p u).heap.size ∧ (∀ j, j < fieldS.n → (w.setCell p u).cell? ⟨b, o + i * fieldS.n + j, none⟩ = cs[j]?) ∧ fieldS.At Q (w.setCell p u) cs t) ∧ t.fName.size ≤ 20) l.length (fun i hi => by
    obtain ⟨b, o, cs, e, h1, h2, h3, h4⟩ := hr i hi
    obtain rfl : cs = [.string l[i].fName, .int .i64 l[i].fMark, .int .i64 l[i].fType] := h4
    have hn : fieldS.n = 3 := rfl
    rw [hn] at h3
    obtain ⟨s', k0, k1⟩ := over_str hp hk (h3 0 (by omega)) (hok _ (List.getElem_mem hi))
    obtain ⟨y1, k2⟩ := over_int hp hk (h3 1 (by omega))
    obtain ⟨y2, k3⟩ := over_int hp hk (h3 2 (by omega))
    refine ⟨⟨s', y1, y2⟩, ⟨b, o, [.string s', .int .i64 y1, .int .i64 y2], e, h1, by simpa [World.setCell] using h2, fun j hj => ?_, rfl⟩, k1⟩
    rw [hn] at hj ⊢
    match j, hj with
    | 0, _ => exact k0
    | 1, _ => exact k2
    | 2, _ => exact k3)
  exact ⟨l', hl, fun i hi => (hR i hi).1, fun f hf => by
    obtain ⟨i, hi, rfl⟩ := List.getElem_of_mem hf
    exact (hR i hi).2⟩
/-- What stays of drawn types. -/
def shortT (t : TypeD) : Prop := t.fFields.length ≤ 3 ∧ t.fOwner.size ≤ 20 ∧ t.fName.size ≤ 20 ∧ ∀ f ∈ t.fFields, f.fName.size ≤ 20
theorem rowsT_over {Q : Nat → Prop} {a : Option Addr} {l : List TypeD} (hp : w.cell? p = some u0) (hk : over u0 u) (hr : Rows typeZ Q w a l) (hok : ∀ t ∈ l, shortT t) : ∃ l' : List TypeD, l'.length = l.length ∧ Rows typeZ Q (w.setCell p u) a l' ∧ ∀ t ∈ l', shortT t := by
  obtain ⟨l', hl, hR⟩ := list_pick (fun i (t : TypeD) => (∃ b o cs, a = some ⟨b, o, none⟩ ∧ Q b ∧ b < (w.setCell p u).heap.size ∧ (∀ j, j < typeZ.n → (w.setCell p u).cell? ⟨b, o + i * typeZ.n + j, none⟩ = cs[j]?) ∧ typeZ.At Q (w.setCell p u) cs t) ∧ shortT t) l.length (fun i hi => by
    obtain ⟨b, o, cs, e, h1, h2, h3, h4⟩ := hr i hi
    obtain ⟨a3, c3, rfl, h5, h6, h7⟩ := h4
    have hs := hok _ (List.getElem_mem hi)
    have hn : typeZ.n = 6 := rfl
    rw [hn] at h3
    obtain ⟨y0, k0⟩ := over_int hp hk (h3 0 (by omega))
    obtain ⟨y1, k1⟩ := over_int hp hk (h3 1 (by omega))
    obtain ⟨y2, k2⟩ := over_int hp hk (h3 2 (by omega))
    have k3 := over_sl hp hk (h3 3 (by omega))
    obtain ⟨s4, k4, q4⟩ := over_str hp hk (h3 4 (by omega)) hs.2.1
    obtain ⟨s5, k5, q5⟩ := over_str hp hk (h3 5 (by omega)) hs.2.2.1
    obtain ⟨fl, f1, f2, f3⟩ := rowsF_over hp hk h5 hs.2.2.2
    refine ⟨⟨y0, y1, y2, fl, s4, s5⟩, ⟨b, o, [.int .i64 y0, .int .i64 y1, .int .i64 y2, .slice a3 fl.length c3, .string s4, .string s5], e, h1, by simpa [World.setCell] using h2, fun j hj => ?_, a3, c3, rfl, f2, by rw [f1]; exact h6, fun h0 b' o' i' e' => by rw [World.frozen?_setCell]; exact h7 (by rw [← f1]; exact h0) b' o' i' e'⟩, by rw [f1]; exact hs.1, q4, q5, f3⟩
    rw [hn] at hj ⊢
    match j, hj with
    | 0, _ => exact k0
    | 1, _ => exact k1
    | 2, _ => exact k2
    | 3, _ => rw [f1]; exact k3
    | 4, _ => exact k4
    | 5, _ => exact k5)
  exact ⟨l', hl, fun i hi => (hR i hi).1, fun f hf => by
    obtain ⟨i, hi, rfl⟩ := List.getElem_of_mem hf
    exact (hR i hi).2⟩
end
/-- What a draw of any types leaves. -/
def AnyT (g k B : Nat) (w0 : World) (a : Option Addr) (n c : Nat) (w' : World) : Prop := ∃ l : List TypeD, l.length = n ∧ n ≤ c ∧ c ≤ maxLen ∧ n ≤ 9 ∧ Rows typeZ (fun q => B ≤ q) w' a l ∧ (∀ t ∈ l, shortT t) ∧ Cur w' g k ∧ Only g w0 w'
theorem drawn_short {n : Nat} {t : TypeD} (h : drawnT n t) : shortT t := ⟨h.1, h.2.1, h.2.2.1, h.2.2.2.1⟩
theorem AnyT.over {g k B n c b j : Nat} {w0 w : World} {a : Option Addr} {u0 u : Value} (h : AnyT g k B w0 a n c w) (hp : w.cell? ⟨b, j, none⟩ = some u0) (hk : over u0 u) (hb : w0.heap.size ≤ b) (hg : g < b) : AnyT g k B w0 a n c (w.setCell ⟨b, j, none⟩ u) := by
  obtain ⟨l, h1, h2, h3, h4, h5, h6, h7, h8⟩ := h
  obtain ⟨l', d1, d2, d3⟩ := rowsT_over hp hk h5 h6
  have ho : Only b w (w.setCell ⟨b, j, none⟩ u) := (Only.refl b w).set j u
  exact ⟨l', d1.trans h1, h2, h3, h4, d2, d3, h7.far ho hg, h8.far ho hb⟩
theorem AnyT.pick {g k k' B n c : Nat} {w0 w w' : World} {a : Option Addr} (h : AnyT g k B w0 a n c w) (hg : g < B) (hc : Cur w' g k') (ho : Only g w w') : AnyT g k' B w0 a n c w' := by
  obtain ⟨l, h1, h2, h3, h4, h5, h6, _, h8⟩ := h
  exact ⟨l, h1, h2, h3, h4, h5.keep (fun b hb hl => ho.block b hl (fun e => by injection e with e; omega)) ho.size, h6, hc, h8.trans ho⟩
theorem AnyT.take {g k B n c m : Nat} {w0 w : World} {a : Option Addr} (h : AnyT g k B w0 a n c w) (hm : m ≤ n) : AnyT g k B w0 a m c w := by
  obtain ⟨l, h1, h2, h3, h4, h5, h6, h7, h8⟩ := h
  refine ⟨l.take m, by rw [List.length_take]; omega, by omega, h3, by omega, fun i hi => ?_, fun t ht => h6 t (List.mem_of_mem_take ht), h7, h8⟩
  have hi' : i < l.length := by rw [List.length_take] at hi; omega
  have := h5 i hi'
  rwa [show (l.take m)[i] = l[i] from List.getElem_take]
end Go.Proofs.Ytnhdijkaakjdgaa

namespace Go.Proofs.Ytnhdijkaakjdgaa
open Go.ChangeShapes Go.WideShapes Go.ChangeAt Go.RowKit
set_option maxRecDepth 100000

set_option maxHeartbeats 16000000 in
theorem cAnyTypes (g k : Nat) (w : World) (hk : k ≤ 800000) (hc : Cur w g k) :
    Calls Try.prog 18 #[.pointer (some ⟨g, 0, none⟩)] w fun e w' => ∃ a n c, e = .returned (.slice a n c) ∧ AnyT g (k + 1100) w.heap.size w a n c w' := by
  have hgw := hc.lt
  have Hc := Lib.hid hc
  clear hc
  go_enter Try.func18, Try.ntmps18
  go_wp2_with fail
  refine (cTypes g k _ (by omega) Hc.out).mono ?_
  rintro e w1 ⟨v, l, rfl, htr, hl3, hl9, hdr, hcu, hon⟩
  obtain ⟨la, lc, rfl, hlc, hlc2, hrr⟩ := OwnG.rows (Q := fun q => w.heap.size ≤ q) htr (fun q hq _ => hq) (fun q hq => (OwnG.lt htr q hq).1)
  obtain ⟨rb, ro, rcs, hra, hz1, hz2, hz3, hz4⟩ := hrr 0 (by omega)
  clear hz1 hz2 hz3 hz4
  subst hra
  have hrb : ro = 0 := by
    rcases htr with ⟨h, _⟩ | ⟨b', cap, cur, hv, _⟩
    · cases h
    · injection hv with hv
      injection hv with hv
      injection hv
  subst hrb
  obtain ⟨cur, hbox, hrB⟩ := OwnG.boxOf htr
  have A1 := Lib.hid (show AnyT g (k + 1000) w.heap.size w (some ⟨rb, 0, none⟩) l.length lc w1 from ⟨l, rfl, hlc, hlc2, hl9, hrr, fun t ht => drawn_short (hdr t ht), hcu, hon⟩)
  have X1 := Lib.hid hbox
  have C1 := Lib.hid hcu
  clear htr hrr hdr hcu hon hbox
  generalize l.length = n at A1 hl3 hl9 hlc hlc2 ⊢
  have hrg : rb ≠ g := by omega
  go_wp2_with fail
  refine (cPick g _ (n : Int) _ (by omega) (by omega) (by omega) C1.out).mono ?_
  rintro e w2 ⟨q0, ⟨q00, q01⟩, rfl, hc2, ho2⟩
  obtain ⟨q, rfl⟩ := Int.eq_ofNat_of_zero_le q00
  have A2 := Lib.hid (A1.out.pick hgw hc2 ho2)
  have X2 := Lib.hid (X1.out.only ho2 hrg)
  have C2 := Lib.hid hc2
  clear hc2 ho2 A1 X1 C1
  go_wp2_with fail
  refine (cPick g _ 30 _ (by omega) (by omega) (by omega) C2.out).mono ?_
  rintro e w3 ⟨x, ⟨x0, x1⟩, rfl, hc3, ho3⟩
  have A3 := Lib.hid (A2.out.pick hgw hc3 ho3)
  have X3 := Lib.hid (X2.out.only ho3 hrg)
  have C3 := Lib.hid hc3
  clear hc3 ho3 A2 X2 C2
  obtain ⟨l3, d1, _, _, _, d5, d6, _, _⟩ := A3.out
  have hq3 : q < l3.length := by omega
  obtain ⟨b, o, cs, hba, _, hb1, hc1, hat⟩ := d5 q hq3
  obtain ⟨a3, c3, rfl, hrf, hfc, hfz⟩ := hat
  cases hba
  have hS : typeZ.n = 6 := rfl
  rw [hS] at hc1
  have e0 := hc1 0 (by decide)
  have e1 := hc1 1 (by decide)
  have e3 := hc1 3 (by decide)
  have e5 := hc1 5 (by decide)
  simp at e0 e1 e3 e5
  have fr := X3.out.free
  have i1 : (0 : Int) ≤ (q : Int) := by omega
  have i2 : (q : Int) < (n : Int) := by omega
  have HF := Lib.hid hrf
  clear hc1 d5 hrf
  by_cases h0 : x = 0
  · subst h0
    have AE := Lib.hid (fun u hu => A3.out.over (u := u) e1 hu hrB (by omega))
    go_wp2_with fail
    go_ret
    exact ⟨_, n, lc, rfl, (by
      obtain ⟨m, m1, m2, m3, m4, m5, m6, m7, m8⟩ := AE.out _ (.inl ⟨_, _, rfl, rfl⟩)
      exact ⟨m, m1, m2, m3, m4, m5, m6, m7.more (by omega), m8⟩)⟩
  have b0 : (x == 0) = false := beq_eq_false_iff_ne.2 h0
  by_cases h1 : x = 1
  · subst h1
    clear b0 h0
    go_wp2_with fail
    refine (cOfLit g _ [⟨#[]⟩, ⟨#[73, 78, 84]⟩, ⟨#[84, 51]⟩] 20 _ _ (by omega) (by decide) (by decide) C3.out (by decide) rfl).mono ?_
    rintro e w4 ⟨s1, hs1, rfl, hc4, ho4⟩
    have A4 := Lib.hid (A3.out.pick hgw hc4 ho4)
    have X4 := Lib.hid (X3.out.only ho4 hrg)
    have g5 := (World.cell?_of_block (a := ⟨rb, q * 6 + 5, none⟩) (ho4.block rb X3.out.lt (fun e => by injection e with e; omega))).trans e5
    have fr4 := X4.out.free
    have AE := Lib.hid (fun u hu => A4.out.over (u := u) g5 hu hrB (by omega))
    clear hc4 ho4
    go_wp2_with fail
    go_ret
    exact ⟨_, n, lc, rfl, (by
      obtain ⟨m, m1, m2, m3, m4, m5, m6, m7, m8⟩ := AE.out _ (.inr ⟨_, _, rfl, rfl, hs1⟩)
      exact ⟨m, m1, m2, m3, m4, m5, m6, m7.more (by omega), m8⟩)⟩
  have b1 : (x == 1) = false := beq_eq_false_iff_ne.2 h1
  by_cases h2 : x = 2
  · subst h2
    clear b0 b1 h0 h1
    by_cases hf0 : 0 < l3[q].fFields.length
    · obtain ⟨b3, o3, cs3, rfl, f1, f2, f3, f4⟩ := HF.out 0 hf0
      obtain rfl : cs3 = [.string l3[q].fFields[0].fName, .int .i64 l3[q].fFields[0].fMark, .int .i64 l3[q].fFields[0].fType] := f4
      have k2 := f3 2 (by decide)
      have hnf : fieldS.n = 3 := rfl
      rw [hnf] at k2
      simp at k2
      have fz := hfz hf0 b3 o3 (o3 + 2) rfl
      have hb3 : b3 ≠ g := by omega
      have j1 : (0 : Int) < (l3[q].fFields.length : Int) := by omega
      have hw1 : IntKind.i64.wrap ((n : Int) + 1) = (n : Int) + 1 := IntWalk.i64_in _ (by omega)
      have j3 : (0 : Int) ≤ 0 := Int.le_refl 0
      have CD := Lib.hid (C3.out.below (⟨rfl, rfl, rfl, Nat.le_refl _, fun _ _ => rfl⟩ : Below w3.heap.size w3 w3.drew) C3.out.lt)
      go_wp2_with fail
      go_region_law (go_simp; go_at_call 19; refine (cPick g _ ((n : Int) + 1) _ (by omega) (by omega) (by omega) CD.out).mono ?_; rintro e w4 ⟨y, ⟨y0, y1⟩, rfl, hc4, ho4'⟩; have ho4 : Only g w3 w4 := ⟨ho4'.os, ho4'.tape, ho4'.output, ho4'.size, ho4'.block⟩; clear ho4'; have A4 := Lib.hid (A3.out.pick hgw hc4 ho4); have X4 := Lib.hid (X3.out.only ho4 hrg); have g3 := (World.cell?_of_block (a := ⟨rb, q * 6 + 3, none⟩) (ho4.block rb X3.out.lt (fun e => by injection e with e; omega))).trans e3; have m2 := (World.cell?_of_block (a := ⟨b3, o3 + 2, none⟩) (ho4.block b3 f2 (fun e => by injection e with e; omega))).trans k2; have mz : w4.frozen? ⟨b3, o3 + 2, none⟩ = false := (by unfold World.frozen? at fz ⊢; rw [ho4.block b3 f2 (fun e => by injection e with e; omega)]; exact fz); have AE := Lib.hid (fun u hu => A4.out.over (u := u) m2 hu f1 (by omega)); clear hc4 ho4)
      all_goals
        have AF := Lib.hid (AE.out (.int .i64 y) (.inl ⟨_, _, rfl, rfl⟩))
        clear AE m2 mz g3 X4 A4
        go_wp2_with fail
        go_ret
        exact ⟨_, n, lc, rfl, (by
          obtain ⟨m, m1, m2, m3, m4, m5, m6, m7, m8⟩ := AF.out
          exact ⟨m, m1, m2, m3, m4, m5, m6, m7.more (by omega), m8⟩)⟩
    · have j2 : ¬ (0 : Int) < (l3[q].fFields.length : Int) := by omega
      go_wp2_with fail
      go_ret
      exact ⟨_, n, lc, rfl, (by
        obtain ⟨m, m1, m2, m3, m4, m5, m6, m7, m8⟩ := A3.out
        exact ⟨m, m1, m2, m3, m4, m5, m6, m7.more (by omega), m8⟩)⟩
  have b2 : (x == 2) = false := beq_eq_false_iff_ne.2 h2
  by_cases h3 : x = 3
  · subst h3
    clear b0 b1 b2 h0 h1 h2
    go_wp2_with fail
    refine (cPick g _ 8 _ (by omega) (by omega) (by omega) C3.out).mono ?_
    rintro e w4 ⟨y, ⟨y0, y1⟩, rfl, hc4, ho4⟩
    have A4 := Lib.hid (A3.out.pick hgw hc4 ho4)
    have X4 := Lib.hid (X3.out.only ho4 hrg)
    have g0 := (World.cell?_of_block (a := ⟨rb, q * 6, none⟩) (ho4.block rb X3.out.lt (fun e => by injection e with e; omega))).trans e0
    have fr4 := X4.out.free
    have AE := Lib.hid (fun u hu => A4.out.over (u := u) g0 hu hrB (by omega))
    clear hc4 ho4
    go_wp2_with fail
    go_ret
    exact ⟨_, n, lc, rfl, (by
      obtain ⟨m, m1, m2, m3, m4, m5, m6, m7, m8⟩ := AE.out _ (.inl ⟨_, _, rfl, rfl⟩)
      exact ⟨m, m1, m2, m3, m4, m5, m6, m7.more (by omega), m8⟩)⟩
  have b3 : (x == 3) = false := beq_eq_false_iff_ne.2 h3
  by_cases h4 : x = 4
  · subst h4
    clear b0 b1 b2 b3 h0 h1 h2 h3
    go_wp2_with fail
    refine (cPick g _ 4 _ (by omega) (by omega) (by omega) C3.out).mono ?_
    rintro e w4 ⟨y, ⟨y0, y1⟩, rfl, hc4, ho4⟩
    obtain ⟨m0, rfl⟩ := Int.eq_ofNat_of_zero_le y0
    have A4 := Lib.hid (A3.out.pick hgw hc4 ho4)
    have hc0 : ¬ (lc = 0) := by omega
    have hwm : IntKind.i64.wrap (m0 : Int) = (m0 : Int) := IntWalk.i64_in _ (by omega)
    have j1 : (m0 : Int) ≤ (lc : Int) := by omega
    clear hc4 ho4
    go_wp2_with fail
    go_ret
    exact ⟨_, m0, lc, rfl, (by
      obtain ⟨m, m1, m2, m3, m4, m5, m6, m7, m8⟩ := A4.out.take (m := m0) (by omega)
      exact ⟨m, m1, m2, m3, m4, m5, m6, m7.more (by omega), m8⟩)⟩
  have b4 : (x == 4) = false := beq_eq_false_iff_ne.2 h4
  go_wp2_with fail
  go_ret
  exact ⟨_, n, lc, rfl, (by
    obtain ⟨m, m1, m2, m3, m4, m5, m6, m7, m8⟩ := A3.out
    exact ⟨m, m1, m2, m3, m4, m5, m6, m7.more (by omega), m8⟩)⟩
end Go.Proofs.Ytnhdijkaakjdgaa

namespace Go.Proofs.Ytnhdijkaakjdgaa
open Go.ChangeShapes Go.WideShapes Go.ChangeAt Go.RowKit
set_option maxRecDepth 100000

theorem AnyT.more {g k k' B n c : Nat} {w0 w : World} {a : Option Addr} (h : AnyT g k B w0 a n c w) (hk : k ≤ k') : AnyT g k' B w0 a n c w := by
  obtain ⟨m, m1, m2, m3, m4, m5, m6, m7, m8⟩ := h
  exact ⟨m, m1, m2, m3, m4, m5, m6, m7.more hk, m8⟩
/-- Types that a draw has made of what came in. -/
def TDrawn (w : World) (a : Option Addr) (n c : Nat) (w' : World) : Prop := ∃ l : List TypeD, l.length = n ∧ n ≤ c ∧ c ≤ maxLen ∧ n ≤ 9 ∧ Rows typeS (fun q => w.heap.size ≤ q) w' a l ∧ (∀ t ∈ l, shortT t) ∧ Below w.heap.size w w'
theorem rowsZ {Q : Nat → Prop} {w : World} {a : Option Addr} {l : List TypeD} (h : Rows typeZ Q w a l) : Rows typeS Q w a l := fun i hi => by
  obtain ⟨b, o, cs, e, h1, h2, h3, a3, c3, e3, h4, h5, _⟩ := h i hi
  exact ⟨b, o, cs, e, h1, h2, h3, a3, c3, e3, h4, h5⟩
theorem AnyT.drawn {k n c : Nat} {w w' : World} {o : Obj} {a : Option Addr} (h : AnyT w.heap.size k (w.alloc o).heap.size (w.alloc o) a n c w') : TDrawn w a n c w' := by
  obtain ⟨l, h1, h2, h3, h4, h5, h6, _, h8⟩ := h
  exact ⟨l, h1, h2, h3, h4, (rowsZ h5).mono (fun q hq _ => by simp at hq; omega), h6, freshOnly h8⟩
end Go.Proofs.Ytnhdijkaakjdgaa

namespace Go.Proofs.Ytnhdijkaakjdgaa
open Go.ChangeShapes Go.WideShapes Go.ChangeAt Go.RowKit
set_option maxRecDepth 100000

theorem TDrawn.below {n c : Nat} {w w' w'' : World} {a : Option Addr} (h : TDrawn w a n c w') (hb : Below w'.heap.size w' w'') : TDrawn w a n c w'' := by
  obtain ⟨l, h1, h2, h3, h4, h5, h6, h7⟩ := h
  exact ⟨l, h1, h2, h3, h4, h5.keep (fun q _ hl => hb.block q hl) hb.size, h6, h7.trans ⟨hb.os, hb.tape, hb.output, hb.size, fun b hl => hb.block b (Nat.lt_of_lt_of_le hl h7.size)⟩⟩
end Go.Proofs.Ytnhdijkaakjdgaa

namespace Go.Proofs.Ytnhdijkaakjdgaa
open Go.ChangeShapes Go.WideShapes Go.ChangeAt Go.RowKit
set_option maxRecDepth 100000

theorem sl1Most (x y : Int) (w : World) : Calls Try.prog 27 #[.int .i64 x, .int .i64 y] w fun e w' => ∃ z : Int, e = .returned (.int .i64 z) ∧ w' = w ∧ x ≤ z ∧ y ≤ z ∧ (z = x ∨ z = y) := by
  go_enter Try.func27, Try.ntmps27
  by_cases h : y < x
  · go_wp2_with fail
    go_ret
    exact ⟨x, rfl, rfl, by omega, by omega, .inl rfl⟩
  · go_wp2_with fail
    go_ret
    exact ⟨y, rfl, rfl, by omega, by omega, .inr rfl⟩
end Go.Proofs.Ytnhdijkaakjdgaa
