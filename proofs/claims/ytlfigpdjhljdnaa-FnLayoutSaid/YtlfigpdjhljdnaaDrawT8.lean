
/-
  What is proved: the contracts of the model's record and of its draw of types, a record and a name for FieldOf. No condition beside what each theorem states.
-/
import Derived.Test.YtlfigpdjhljdnaaDrawU
import Derived.Test.YtlfigpdjhljdnaaPushAll
namespace Go.Proofs.Ytlfigpdjhljdnaa
open Go.ChangeShapes Go.WideShapes Go.ChangeAt Go.RowKit
set_option maxRecDepth 100000

theorem AnyT.below {g k B n c : Nat} {w0 w w' : World} {a : Option Addr} (h : AnyT g k B w0 a n c w) (hb : Below w.heap.size w w') : AnyT g k B w0 a n c w' := by
  obtain ⟨l, h1, h2, h3, h4, h5, h6, h7, h8⟩ := h
  exact ⟨l, h1, h2, h3, h4, h5.keep (fun b _ hl => hb.block b hl) hb.size, h6, h7.below hb h7.lt, h8.trans (Only.ofBelow hb)⟩
theorem AnyT.cur {g k B n c : Nat} {w0 w : World} {a : Option Addr} (h : AnyT g k B w0 a n c w) : Cur w g k := by
  obtain ⟨l, h1, h2, h3, h4, h5, h6, h7, h8⟩ := h
  exact h7
set_option maxHeartbeats 8000000 in
theorem cRecord (g k B n c : Nat) (w0 w : World) (a : Option Addr) (hk : k ≤ 800000) (hgB : g < B) (h : AnyT g k B w0 a n c w) :
    Calls Try.prog 51 #[.pointer (some ⟨g, 0, none⟩), .slice a n c] w fun e w' => ∃ r, e = .returned (.int .i64 r) ∧ 0 ≤ r ∧ r ≤ 9 ∧ AnyT g (k + 6) B w0 a n c w' := by
  have A0 := Lib.hid h
  obtain ⟨l, hl, _, _, hn9, hr, _, hcu, _⟩ := h
  subst hl
  have Hr := Lib.hid hr
  have hgw := hcu.lt
  clear hr hcu
  go_enter Try.func51, Try.ntmps51
  go_wp2_with fail
  go_loopw [10, 5] (fun i v wr => ∃ (q : Nat) (m : List Int), i = .int .i64 q ∧ q ≤ l.length ∧ OwnInts wr w.heap.size v m ∧ (∀ y ∈ m, 0 ≤ y ∧ y < (l.length : Int)) ∧ m.length ≤ q ∧ Below w.heap.size w wr) (fun i _ _ => l.length - (intOf i).toNat)
  case atStart => exact ⟨0, [], rfl, by omega, OwnInts.nil, fun y hy => (by cases hy), by simp, Below.refl _ _⟩
  case round =>
    obtain ⟨q, m, rfl, hq, hown, hmem, hml, hbel⟩ := hrel
    have Ho := Lib.hid hown
    have Hmem := Lib.hid hmem
    have Hbel := Lib.hid hbel
    have hs := hbel.size
    clear hown hmem
    by_cases hlt : q < l.length
    · obtain ⟨b, o, cs, rfl, _, hb1, hc1, hat⟩ := Hr.out q hlt
      obtain ⟨a3, c3, rfl, _⟩ := hat
      have e0 := (hbel.cell (p := ⟨b, o + q * 6 + 0, none⟩) hb1).trans (hc1 0 (by decide))
      have e1 := (hbel.cell (p := ⟨b, o + q * 6 + 1, none⟩) hb1).trans (hc1 1 (by decide))
      have e2 := (hbel.cell (p := ⟨b, o + q * 6 + 2, none⟩) hb1).trans (hc1 2 (by decide))
      have e3 := (hbel.cell (p := ⟨b, o + q * 6 + 3, none⟩) hb1).trans (hc1 3 (by decide))
      have e4 := (hbel.cell (p := ⟨b, o + q * 6 + 4, none⟩) hb1).trans (hc1 4 (by decide))
      have e5 := (hbel.cell (p := ⟨b, o + q * 6 + 5, none⟩) hb1).trans (hc1 5 (by decide))
      simp at e0 e1 e2 e3 e4 e5
      have i1 : (0 : Int) ≤ (q : Int) := by omega
      have i2 : (q : Int) < (l.length : Int) := by omega
      have Hm2 := Lib.hid (show ∀ y ∈ m ++ [(q : Int)], 0 ≤ y ∧ y < (l.length : Int) from fun y hy => by
        rcases List.mem_append.1 hy with hy | hy
        · exact Hmem.out y hy
        · rw [List.mem_singleton.1 hy]; exact ⟨i1, i2⟩)
      clear hc1 hbel
      generalize l[q] = t at *
      have OA := Lib.hid (Ho.out.alloc (.cells #[.int .i64 t.fKind, .int .i64 t.fLong, .int .i64 t.fBase, .slice a3 t.fFields.length c3, .string t.fOwner, .string t.fName] 34))
      have BA := Lib.hid (Hbel.out.alloc hs (.cells #[.int .i64 t.fKind, .int .i64 t.fLong, .int .i64 t.fBase, .slice a3 t.fFields.length c3, .string t.fOwner, .string t.fName] 34))
      have hs2 : w.heap.size ≤ (wr.alloc (.cells #[.int .i64 t.fKind, .int .i64 t.fLong, .int .i64 t.fBase, .slice a3 t.fFields.length c3, .string t.fOwner, .string t.fName] 34)).heap.size := BA.out.size
      cases hk5 : decide (t.fKind = 5)
      · have y5 : (t.fKind == 5) = false := by rw [beq_eq_false_iff_ne]; simpa using hk5
        clear hk5
        go_wp2_with fail
        exact ⟨⟨q + 1, m, by congr 1, by omega, OA.out, Hmem.out, by omega, BA.out⟩, by simp [intOf]; omega⟩
      · have y5 : (t.fKind == 5) = true := by rw [beq_iff_eq]; simpa using hk5
        clear hk5
        go_wp2_with (at_builtin; refine wpList_pushInt rfl _ _ rfl w.heap.size _ _ m rfl OA.out _ _ rfl (by simp) (by omega) hs2 ?_)
        intro v' w4 hown4 hg4 hlt4
        have B4 := Lib.hid (BA.out.grown hg4 hs2 (fun k hk => (hlt4 k hk).1))
        have O4 := Lib.hid hown4
        clear hown4 hg4 hlt4
        go_wp2_with fail
        exact ⟨⟨q + 1, m ++ [(q : Int)], by congr 1, by omega, O4.out, Hm2.out, by simp; omega, B4.out⟩, by simp [intOf]; omega⟩
    · obtain rfl : q = l.length := by omega
      obtain ⟨am, cm, rfl, hcm, hnm⟩ := Ho.out.nums
      have Hn := Lib.hid hnm
      have A1 := Lib.hid (A0.out.below hbel)
      have C1 := Lib.hid A1.out.cur
      clear hbel hnm
      by_cases hm0 : m.length = 0
      · have z0 : ((m.length : Int) == 0) = true := by rw [hm0]; rfl
        go_wp2_with fail
        refine (sl1Most 1 (l.length : Int) wr).mono ?_
        rintro e _ ⟨z, rfl, rfl, hz1, hz2, hz3⟩
        go_wp2_with fail
        refine (cPick g _ z _ (by omega) (by omega) (by omega) C1.out).mono ?_
        rintro e w5 ⟨x, ⟨x0, x1⟩, rfl, hc5, ho5⟩
        have A5 := Lib.hid (A1.out.pick hgB hc5 ho5)
        clear hc5 ho5
        go_wp2_with fail
        go_ret
        exact ⟨x, rfl, x0, by omega, A5.out.more (by omega)⟩
      · have z0 : ((m.length : Int) == 0) = false := by rw [beq_eq_false_iff_ne]; omega
        go_wp2_with fail
        refine (cOne g _ 10 _ (by omega) (by omega) (by omega) C1.out).mono ?_
        rintro e w5 ⟨o1, rfl, hc5, ho5⟩
        have A5 := Lib.hid (A1.out.pick hgB hc5 ho5)
        have C5 := Lib.hid hc5
        have O5 := Lib.hid ho5
        clear hc5 ho5
        cases o1
        · go_wp2_with fail
          refine (cPick g _ (m.length : Int) _ (by omega) (by omega) (by omega) C5.out).mono ?_
          rintro e w6 ⟨x, ⟨x0, x1⟩, rfl, hc6, ho6⟩
          have A6 := Lib.hid (A5.out.pick hgB hc6 ho6)
          obtain ⟨j, rfl⟩ := Int.eq_ofNat_of_zero_le x0
          have hj : j < m.length := by omega
          obtain ⟨bm, om, rfl, hbm, hcm2⟩ := Hn.out j hj
          have hne : bm ≠ g := by
            rcases Ho.out.2 with ⟨h1, _⟩ | ⟨g', cap, cur, h1, h2, _⟩
            · cases h1
            · injection h1 with h1
              injection h1 with h1
              injection h1 with h1
              omega
          have hcell := (World.cell?_of_block (a := ⟨bm, om + j, none⟩) (ho6.block bm (Nat.lt_of_lt_of_le hbm O5.out.size) (fun e => by injection e with e; exact hne e))).trans ((World.cell?_of_block (a := ⟨bm, om + j, none⟩) (O5.out.block bm hbm (fun e => by injection e with e; exact hne e))).trans hcm2)
          clear hc6 ho6 hcm2
          have hmj : 0 ≤ m[j] ∧ m[j] < (l.length : Int) := Hmem.out _ (List.getElem_mem hj)
          generalize m[j] = r at *
          go_wp2_with fail
          go_ret
          exact ⟨r, rfl, hmj.1, by omega, A6.out.more (by omega)⟩
        · go_wp2_with fail
          refine (sl1Most 1 (l.length : Int) w5).mono ?_
          rintro e _ ⟨z, rfl, rfl, hz1, hz2, hz3⟩
          go_wp2_with fail
          refine (cPick g _ z _ (by omega) (by omega) (by omega) C5.out).mono ?_
          rintro e w6 ⟨x, ⟨x0, x1⟩, rfl, hc6, ho6⟩
          have A6 := Lib.hid (A5.out.pick hgB hc6 ho6)
          clear hc6 ho6
          go_wp2_with fail
          go_ret
          exact ⟨x, rfl, x0, by omega, A6.out.more (by omega)⟩
set_option maxHeartbeats 8000000 in
theorem dFieldOf (a : Option Addr) (len cap : Nat) (w : World) (h : Code w a len) : Calls Try.prog 40 #[.slice a len cap] w fun e w' => ∃ a n c m s, e = .returned (.tuple #[.slice a n c, .int .i64 m, .string s]) ∧ 0 ≤ m ∧ m ≤ 9 ∧ s.size ≤ 20 ∧ TDrawn w a n c w' := by
  have H := Lib.hid h
  clear h
  go_enter Try.func40, Try.ntmps40
  go_wp2_with fail
  refine (cAnyTypes _ 0 _ (by decide) H.out.cur).mono ?_
  rintro e w1 ⟨a1, n, c, rfl, hat⟩
  have A1 := Lib.hid hat
  clear hat
  go_wp2_with fail
  refine (cRecord w.heap.size (0 + 1100) _ n c _ w1 a1 (by omega) (by simp) A1.out).mono ?_
  rintro e w2 ⟨m, rfl, m0, m1, hat⟩
  have A2 := Lib.hid hat
  have C2 := Lib.hid hat.cur
  clear hat A1
  go_wp2_with fail
  refine (cOfLit _ _ [⟨#[102, 49]⟩, ⟨#[102, 50]⟩, ⟨#[102, 51]⟩, ⟨#[103]⟩, ⟨#[]⟩] 20 _ _ (by omega) (by decide) (by decide) C2.out (by decide) rfl).mono ?_
  rintro e w4 ⟨s1, hs1, rfl, hc4, ho4⟩
  have T4 := Lib.hid (A2.out.pick (by simp) hc4 ho4).drawn
  clear hc4 ho4
  go_wp2_with fail
  go_ret3
  exact ⟨a1, n, c, m, s1, rfl, m0, m1, hs1, T4.out⟩
end Go.Proofs.Ytlfigpdjhljdnaa
