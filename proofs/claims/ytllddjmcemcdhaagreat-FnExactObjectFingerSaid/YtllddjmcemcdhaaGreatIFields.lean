
/-
  What is proved: contracts of the program's isTypeNumber, kindAt and areFields. No condition beside what each theorem states.
-/
import Derived.Test.YtllddjmcemcdhaaGreatSNearly
import Derived.Test.YtllddjmcemcdhaaGreatBMap
namespace Go.Proofs.YtllddjmcemcdhaaGreat
open Go.ChangeShapes Go.WideShapes Go.ChangeAt Go.RowKit Go.WideMaps

theorem iTypeNumber (a : Option Addr) (c n : Nat) (x : Int) (w : World) :
    Calls Tryz.prog 105 #[.slice a n c, .int .i64 x] w fun e w' => e = .returned (.bool (decide (0 ≤ x ∧ x < (n : Int)))) ∧ w = w' := by
  by_cases h1 : 0 ≤ x
  · by_cases h2 : x < (n : Int)
    · have Hv := Lib.hid (show decide (0 ≤ x ∧ x < (n : Int)) = true from decide_eq_true ⟨h1, h2⟩)
      have d1 : decide (0 ≤ x) = true := decide_eq_true h1
      have d2 : decide (x < (n : Int)) = true := decide_eq_true h2
      go_enter Tryz.func105, Tryz.ntmps105
      go_wp2_with fail
      go_ret
      first | exact ⟨rfl, rfl⟩ | exact ⟨by rw [Hv.out]; rfl, rfl⟩
    · have Hv := Lib.hid (show decide (0 ≤ x ∧ x < (n : Int)) = false from decide_eq_false (fun h => h2 h.2))
      have d1 : decide (0 ≤ x) = true := decide_eq_true h1
      have d2 : decide (x < (n : Int)) = false := decide_eq_false h2
      go_enter Tryz.func105, Tryz.ntmps105
      go_wp2_with fail
      go_ret
      first | exact ⟨rfl, rfl⟩ | exact ⟨by rw [Hv.out]; rfl, rfl⟩
  · have Hv := Lib.hid (show decide (0 ≤ x ∧ x < (n : Int)) = false from decide_eq_false (fun h => h1 h.1))
    have d1 : decide (0 ≤ x) = false := decide_eq_false h1
    go_enter Tryz.func105, Tryz.ntmps105
    go_wp2_with fail
    go_ret
    first | exact ⟨rfl, rfl⟩ | exact ⟨by rw [Hv.out]; rfl, rfl⟩

theorem iKindAt (a : Option Addr) (c : Nat) (l : List TypeD) (x : Int) (w : World) (hr : Rows typeS Any w a l) :
    Calls Tryz.prog 119 #[.slice a l.length c, .int .i64 x] w fun e w' => e = .returned (.int .i64 (kindZ l x)) ∧ w = w' := by
  by_cases h : 0 ≤ x ∧ x < (l.length : Int)
  · have hd := decide_eq_true h
    obtain ⟨k, rfl⟩ := Int.eq_ofNat_of_zero_le h.1
    have hk : k < l.length := by omega
    obtain ⟨b, o, rfl, e0⟩ := kind_cell hr hk
    have Hz := Lib.hid (kindZ_in hk)
    clear hr
    generalize l[k].fKind = z at *
    go_enter Tryz.func119, Tryz.ntmps119
    go_wp2_with fail
    refine (iTypeNumber _ _ _ _ _).mono ?_
    rintro e w' ⟨rfl, rfl⟩
    rw [hd]
    go_wp2_with fail
    go_ret
    exact ⟨by rw [Hz.out]; rfl, rfl⟩
  · have hd := decide_eq_false h
    have Hz := Lib.hid (kindZ_out (l := l) (x := x) (by omega))
    clear hr
    go_enter Tryz.func119, Tryz.ntmps119
    go_wp2_with fail
    refine (iTypeNumber _ _ _ _ _).mono ?_
    rintro e w' ⟨rfl, rfl⟩
    rw [hd]
    go_wp2_with fail
    go_ret
    exact ⟨by rw [Hz.out]; rfl, rfl⟩

/-- What the program's table of names tells behind k fields. -/
def toldF (fs : List FieldD) (k : Nat) (f : Lit → Bool) : Prop := ∀ s : ByteArray, f (.string s.data.toList) = true ↔ ∃ i, ∃ h : i < fs.length, i < k ∧ fs[i].fName.size ≠ 0 ∧ fs[i].fName = s
theorem toldF_zero {fs : List FieldD} : toldF fs 0 (fun _ => false) := fun s => ⟨fun h => (by cases h), fun ⟨_, _, h, _⟩ => absurd h (by omega)⟩
theorem toldF_skip {fs : List FieldD} {k : Nat} {f : Lit → Bool} (hk : k < fs.length) (h : toldF fs k f) (h0 : fs[k].fName.size = 0) : toldF fs (k + 1) f := fun s => by
  rw [h s]
  constructor
  · rintro ⟨i, hi, h1, h2⟩
    exact ⟨i, hi, by omega, h2⟩
  · rintro ⟨i, hi, h1, h2, h3⟩
    refine ⟨i, hi, ?_, h2, h3⟩
    by_cases e : i = k
    · subst e; exact absurd h0 h2
    · omega
theorem toldF_put {fs : List FieldD} {k : Nat} {f : Lit → Bool} (hk : k < fs.length) (h : toldF fs k f) (h0 : fs[k].fName.size ≠ 0) : toldF fs (k + 1) (updB f (.string fs[k].fName.data.toList) true) := fun s => by
  by_cases e : s = fs[k].fName
  · subst e
    rw [updB_same]
    exact ⟨fun _ => ⟨k, hk, by omega, h0, rfl⟩, fun _ => rfl⟩
  · rw [updB_other _ _ (fun e2 => e (by injection e2 with e2; exact ByteArray.ext (Array.ext' e2))), h s]
    constructor
    · rintro ⟨i, hi, h1, h2⟩
      exact ⟨i, hi, by omega, h2⟩
    · rintro ⟨i, hi, h1, h2, h3⟩
      refine ⟨i, hi, ?_, h2, h3⟩
      by_cases e3 : i = k
      · subst e3; exact absurd h3.symm e
      · omega

set_option maxRecDepth 100000 in
set_option maxHeartbeats 8000000 in
theorem iAreFields (a fa : Option Addr) (c fc n : Nat) (fs : List FieldD) (w : World) (hf : fs.length ≤ 1048576) (hs : ∀ f ∈ fs, f.fName.size ≤ maxLen) (hr : Rows fieldS Any w fa fs) :
    Calls Tryz.prog 120 #[.slice a n c, .slice fa fs.length fc] w fun e w' => e = .returned (.bool (fieldsB n fs)) ∧ Below w.heap.size w w' := by
  have Hr := Lib.hid hr
  have Hs := Lib.hid hs
  clear hr hs
  have hmm := @run_makeMap Tryz.prog
  go_enter Tryz.func120, Tryz.ntmps120
  by_cases h6 : 6 < fs.length
  · have Hv := Lib.hid (fieldsB_false (n := n) (fs := fs) (fun h => by have := h.1; omega))
    have h6' : (6 : Int) < (fs.length : Int) := by omega
    go_wp2_with fail
    go_ret
    exact ⟨by rw [Hv.out]; rfl, Below.refl _ _⟩
  have h6' : ¬ (6 : Int) < (fs.length : Int) := by omega
  go_wp2_with fail
  go_loopw [14] (fun i wr => ∃ (k : Nat) (f : Lit → Bool), i = .int .i64 k ∧ k ≤ fs.length ∧ fieldsTo n fs k ∧ BMap 9 wr w.heap.size k f ∧ toldF fs k f ∧ Below w.heap.size w wr) (fun i _ => fs.length - (intOf i).toNat)
  case atStart => exact ⟨0, _, rfl, by omega, fieldsTo_zero, BMap.made w, toldF_zero, (Below.refl _ _).alloc (Nat.le_refl _) _⟩
  case round =>
    clear hmm
    obtain ⟨k, f, rfl, hk, hto, hmap, htold, hbel⟩ := hrel
    have Hto := Lib.hid hto
    have Hmap := Lib.hid hmap
    have Htold := Lib.hid htold
    clear hto hmap htold
    by_cases hlt : k < fs.length
    · obtain ⟨b, o, cs, rfl, _, hb1, hc1, hat⟩ := Hr.out k hlt
      obtain rfl : cs = [.string fs[k].fName, .int .i64 fs[k].fMark, .int .i64 fs[k].fType] := hat
      have hn : fieldS.n = 3 := rfl
      have e0 := (hbel.cell (p := ⟨b, o + k * 3 + 0, none⟩) hb1).trans (hc1 0 (by decide))
      have e1 := (hbel.cell (p := ⟨b, o + k * 3 + 1, none⟩) hb1).trans (hc1 1 (by decide))
      have e2 := (hbel.cell (p := ⟨b, o + k * 3 + 2, none⟩) hb1).trans (hc1 2 (by decide))
      simp at e0 e1 e2
      have Hbel := Lib.hid hbel
      have Hbad := Lib.hid (fields_bad (n := n) hlt)
      have Htw := Lib.hid (fun i (hik : i < k) => fields_twice (n := n) hik hlt)
      have Hnx := Lib.hid (fieldsTo_next (n := n) hlt Hto.out)
      have Hskip := Lib.hid (toldF_skip hlt Htold.out)
      have Hput := Lib.hid (toldF_put hlt Htold.out)
      have hsz := Hs.out fs[k] (List.getElem_mem hlt)
      clear hbel hc1
      generalize fs[k] = t at *
      have hkey := keyOf_string_mk Tryz.underlying9 hsz
      have hlook := (Hmap.out.alloc (.cells #[.string t.fName, .int .i64 t.fMark, .int .i64 t.fType] 113)).look strKeyed Tryz.underlying154 hkey
      obtain ⟨wp, hputr, hmap2, hgrow⟩ := (Hmap.out.alloc (.cells #[.string t.fName, .int .i64 t.fMark, .int .i64 t.fType] 113)).put strKeyed Tryz.underlying154 (by unfold maxLen; omega) hkey true
      have Hmap2 := Lib.hid hmap2
      have Hgrow := Lib.hid hgrow
      have Hkey := Lib.hid hkey
      clear hmap2 hgrow hkey
      by_cases m1 : t.fMark < 0
      · have Hv := Lib.hid (Hbad.out (fun h => by have := h.2.1.1; omega))
        go_wp2_with fail
        go_ret
        exact ⟨by rw [Hv.out]; rfl, Hbel.out.alloc Hbel.out.size _⟩
      by_cases m2 : 2 < t.fMark
      · have Hv := Lib.hid (Hbad.out (fun h => by have := h.2.1.2; omega))
        go_wp2_with fail
        go_ret
        exact ⟨by rw [Hv.out]; rfl, Hbel.out.alloc Hbel.out.size _⟩
      by_cases m3 : 0 ≤ t.fType ∧ t.fType < (n : Int)
      · have hd := decide_eq_true m3
        by_cases z0 : t.fName.size = 0
        · have he := isEmpty_of z0
          by_cases z1 : t.fMark = 0
          · have Hn := Lib.hid (Hnx.out ⟨.inr ⟨z0, z1⟩, ⟨by omega, by omega⟩, m3.1, m3.2⟩ (fun h => absurd z0 h))
            have Ht := Lib.hid (Hskip.out z0)
            clear m3
            go_wp2_with (go_at_call 105; refine (iTypeNumber _ _ _ _ _).mono ?_; rw [hd]; rintro e w' ⟨rfl, rfl⟩)
            exact ⟨⟨k + 1, f, by congr 1, by omega, Hn.out, (Hmap.out.alloc _).more (by omega), Ht.out, Hbel.out.alloc Hbel.out.size _⟩, by simp [intOf]; omega⟩
          · have hnn : ¬ nameP t.fName := fun h => by have := h.1; omega
            have hq := nameB_false hnn
            have Hv := Lib.hid (Hbad.out (fun h => h.1.elim hnn (fun h => z1 h.2)))
            clear m3 hnn
            have z11 : (t.fMark == 0) = false := beq_eq_false_iff_ne.2 z1
            go_wp2_with (first | (go_at_call 105; refine (iTypeNumber _ _ _ _ _).mono ?_; rw [hd]; rintro e w' ⟨rfl, rfl⟩) | (go_at_call 50; refine (iGoodName _ _ hsz).mono ?_; rintro e w' ⟨rfl, rfl⟩))
            go_ret
            exact ⟨by rw [Hv.out]; rfl, Hbel.out.alloc Hbel.out.size _⟩
        · have he := isEmpty_not z0
          by_cases hnn : nameP t.fName
          · have hq := nameB_true hnn
            have Hok := Lib.hid (show fieldOk n t from ⟨.inl hnn, ⟨by omega, by omega⟩, m3.1, m3.2⟩)
            have Hd := Lib.hid (Htold.out t.fName)
            have Hput2 := Lib.hid (Hput.out z0)
            clear m3 hnn
            generalize hfv : f (.string t.fName.data.toList) = v at hlook
            have Hfv := Lib.hid hfv
            clear hfv
            cases v
            · have Hn := Lib.hid (Hnx.out Hok.out (fun _ i hi hik h => by
                have h2 := Hd.out.2 ⟨i, hi, hik, by rw [← h]; exact z0, h.symm⟩
                rw [Hfv.out] at h2
                cases h2))
              go_wp2_with (first | (go_at_call 105; refine (iTypeNumber _ _ _ _ _).mono ?_; rw [hd]; rintro e w' ⟨rfl, rfl⟩) | (go_at_call 50; refine (iGoodName _ _ hsz).mono ?_; rintro e w' ⟨rfl, rfl⟩))
              exact ⟨⟨k + 1, _, by congr 1, by omega, Hn.out, Hmap2.out, Hput2.out, (Hbel.out.alloc Hbel.out.size _).grown Hgrow.out (by have := Hbel.out.size; simp; omega) (fun q hq => by injection hq with hq; omega)⟩, by simp [intOf]; omega⟩
            · obtain ⟨i, hi, hik, h0, h1⟩ := Hd.out.1 Hfv.out
              have Hv := Lib.hid (Htw.out i hik z0 h1.symm)
              go_wp2_with (first | (go_at_call 105; refine (iTypeNumber _ _ _ _ _).mono ?_; rw [hd]; rintro e w' ⟨rfl, rfl⟩) | (go_at_call 50; refine (iGoodName _ _ hsz).mono ?_; rintro e w' ⟨rfl, rfl⟩))
              go_ret
              exact ⟨by rw [Hv.out]; rfl, Hbel.out.alloc Hbel.out.size _⟩
          · have hq := nameB_false hnn
            have Hv := Lib.hid (Hbad.out (fun h => h.1.elim hnn (fun h => z0 h.1)))
            clear m3 hnn
            go_wp2_with (first | (go_at_call 105; refine (iTypeNumber _ _ _ _ _).mono ?_; rw [hd]; rintro e w' ⟨rfl, rfl⟩) | (go_at_call 50; refine (iGoodName _ _ hsz).mono ?_; rintro e w' ⟨rfl, rfl⟩))
            go_ret
            exact ⟨by rw [Hv.out]; rfl, Hbel.out.alloc Hbel.out.size _⟩
      · have hd := decide_eq_false m3
        have Hv := Lib.hid (Hbad.out (fun h => m3 ⟨h.2.2.1, h.2.2.2⟩))
        clear m3
        go_wp2_with (go_at_call 105; refine (iTypeNumber _ _ _ _ _).mono ?_; rw [hd]; rintro e w' ⟨rfl, rfl⟩)
        go_ret
        exact ⟨by rw [Hv.out]; rfl, Hbel.out.alloc Hbel.out.size _⟩
    · obtain rfl : k = fs.length := by omega
      have Hv := Lib.hid (fieldsB_true (n := n) ⟨by omega, Hto.out⟩)
      have Hbel := Lib.hid hbel
      clear hbel
      go_wp2_with fail
      go_ret
      exact ⟨by rw [Hv.out]; rfl, Hbel.out⟩

end Go.Proofs.YtllddjmcemcdhaaGreat
