
/-
  What is proved: the contract of the model's l3Fields. No condition beside what each theorem states.
-/
import Derived.Test.YtjbnabjfeepbeaaTypesP
namespace Go.Proofs.Ytjbnabjfeepbeaa
open Go.ChangeShapes Go.WideShapes Go.ChangeAt Go.RowKit

theorem isEmpty_of {s : ByteArray} (h : s.size = 0) : s.toList.isEmpty = true := by
  rw [ByteArray.toList_eq]
  have h2 : s.data.toList.length = 0 := by simpa using h
  exact List.isEmpty_iff.2 (List.length_eq_zero_iff.1 h2)
theorem isEmpty_not {s : ByteArray} (h : s.size ≠ 0) : s.toList.isEmpty = false := by
  rw [ByteArray.toList_eq]
  cases hh : s.data.toList.isEmpty
  · rfl
  · exact absurd (show s.size = 0 by have h2 := congrArg List.length (List.isEmpty_iff.1 hh); simpa using h2) h
theorem bytes_same (a b : ByteArray) (ok : Bool) (h : ok = true ↔ a = b) : (a.toList == b.toList) = ok := by
  rw [Bool.eq_iff_iff, h, beq_iff_eq, ByteArray.toList_eq, ByteArray.toList_eq]
  constructor
  · intro e
    exact ByteArray.ext (Array.ext' e)
  · intro e
    rw [e]

set_option maxRecDepth 100000 in
set_option maxHeartbeats 8000000 in
theorem sl3Fields (a fa : Option Addr) (c fc n : Nat) (fs : List FieldD) (w : World) (hl : n ≤ 1048576) (hf : fs.length ≤ 1048576) (hfc : fs.length ≤ fc) (hs : ∀ f ∈ fs, f.fName.size ≤ maxLen) (hr : Rows fieldS Any w fa fs) :
    Calls Try.prog 180 #[.slice a n c, .slice fa fs.length fc] w fun e w' => e = .returned (.bool (fieldsB n fs)) ∧ Below w.heap.size w w' := by
  have Hr := Lib.hid hr
  have Hs := Lib.hid hs
  clear hr hs
  go_enter Try.func180, Try.ntmps180
  go_wp2_with fail
  go_loopw [11] (fun i wr => ∃ k : Nat, i = .int .i64 k ∧ k ≤ fs.length ∧ fieldsTo n fs k ∧ Below w.heap.size w wr) (fun i _ => fs.length - (intOf i).toNat)
  case atStart => exact ⟨0, rfl, by omega, fieldsTo_zero, Below.refl _ _⟩
  case round =>
    obtain ⟨k, rfl, hk, hto, hbel⟩ := hrel
    have Hto := Lib.hid hto
    clear hto
    obtain ⟨wo, hwo⟩ : ∃ x, x = wr := ⟨_, rfl⟩
    subst hwo
    by_cases hlt : k < fs.length
    · obtain ⟨b, o, cs, rfl, _, hb1, hc1, hat⟩ := Hr.out k hlt
      obtain rfl : cs = [.string fs[k].fName, .int .i64 fs[k].fMark, .int .i64 fs[k].fType] := hat
      have hn : fieldS.n = 3 := rfl
      have e0 := (hbel.cell (p := ⟨b, o + k * 3 + 0, none⟩) hb1).trans (hc1 0 (by decide))
      have e1 := (hbel.cell (p := ⟨b, o + k * 3 + 1, none⟩) hb1).trans (hc1 1 (by decide))
      have e2 := (hbel.cell (p := ⟨b, o + k * 3 + 2, none⟩) hb1).trans (hc1 2 (by decide))
      simp at e0 e1 e2
      have Hbel := Lib.hid hbel
      have Hbad := Lib.hid (fields_bad (n := n) hlt)
      have Htw := Lib.hid (fun i (hik : i < k) => fields_twice (n := n) hik hlt)
      have Hnx := Lib.hid (fieldsTo_next (n := n) hlt Hto.out)
      have hsz := Hs.out fs[k] (List.getElem_mem hlt)
      clear hbel hc1
      generalize hfk : fs[k] = f at *
      have Hfk := Lib.hid hfk
      clear hfk
      by_cases hP1 : nameP f.fName ∨ (f.fName.size = 0 ∧ f.fMark = 0)
      · by_cases hP2 : 0 ≤ f.fMark ∧ f.fMark ≤ 2
        · by_cases hP3 : 0 ≤ f.fType ∧ f.fType ≤ (n : Int) - 1
          · have Hok := Lib.hid (show fieldOk n f from ⟨hP1, hP2, hP3.1, by omega⟩)
            by_cases hnn : nameP f.fName
            · have hq := nameB_true hnn
              have hz : f.fName.size ≠ 0 := by have := hnn.1; omega
              have he := isEmpty_not hz
              clear hP1 hnn
              go_wp2_with (first | (go_at_call 97; refine (sl1Name _ _ hsz).mono ?_; rintro e w' ⟨rfl, rfl⟩) | (go_at_call 67; refine (sIn_yes _ _ _ _ (by omega) (by omega)).mono ?_; rintro e w' ⟨rfl, rfl⟩) | (go_at_call 67; refine (sIn_no _ _ _ _ (by omega)).mono ?_; rintro e w' ⟨rfl, rfl⟩))
              go_loopw [49] (fun i wr => ∃ q : Nat, i = .int .i64 q ∧ q ≤ k ∧ (f.fName.size ≠ 0 → ∀ i (hi : i < fs.length), i < q → f.fName ≠ fs[i].fName) ∧ Below (wo.alloc (.cells #[.string f.fName, .int .i64 f.fMark, .int .i64 f.fType] 34)).heap.size (wo.alloc (.cells #[.string f.fName, .int .i64 f.fMark, .int .i64 f.fType] 34)) wr) (fun i _ => k - (intOf i).toNat)
              case atStart => exact ⟨0, rfl, by omega, fun _ _ _ h => absurd h (by omega), Below.refl _ _⟩
              case round =>
                obtain ⟨q, rfl, hqk, hno, hbj⟩ := hrel
                have Hno := Lib.hid hno
                have hB := (Box.new wo 34 #[.string f.fName, .int .i64 f.fMark, .int .i64 f.fType]).below hbj (by simp)
                have y0 := hB.cell 0
                have l1 := hB.lt
                simp at y0
                have Bj := Lib.hid ((Hbel.out.alloc Hbel.out.size (.cells #[.string f.fName, .int .i64 f.fMark, .int .i64 f.fType] 34)).trans (hbj.mono (Hbel.out.alloc Hbel.out.size _).size))
                have Hbj := Lib.hid hbj
                clear hno hB hbj
                by_cases hqlt : q < k
                · have hql : q < fs.length := by omega
                  obtain ⟨b', o', cs', hbo, _, hb1', hc1', hat'⟩ := Hr.out q hql
                  injection hbo with hbo
                  injection hbo with hbo1 hbo2
                  subst hbo1
                  subst hbo2
                  obtain rfl : cs' = [.string fs[q].fName, .int .i64 fs[q].fMark, .int .i64 fs[q].fType] := hat'
                  have g0 := (Bj.out.cell (p := ⟨b, o + q * 3 + 0, none⟩) hb1).trans (hc1' 0 (by decide))
                  have g1 := (Bj.out.cell (p := ⟨b, o + q * 3 + 1, none⟩) hb1).trans (hc1' 1 (by decide))
                  have g2 := (Bj.out.cell (p := ⟨b, o + q * 3 + 2, none⟩) hb1).trans (hc1' 2 (by decide))
                  simp at g0 g1 g2
                  have Hsame := Lib.hid (fun h0 (h : f.fName = fs[q].fName) => Htw.out q hqlt h0 h)
                  have Hno2 := Lib.hid (show ∀ (h : f.fName.size ≠ 0 → f.fName ≠ fs[q].fName), f.fName.size ≠ 0 → ∀ i (hi : i < fs.length), i < q + 1 → f.fName ≠ fs[i].fName from fun h h0 i hi hiq => by
                    by_cases e : i = q
                    · subst e; exact h h0
                    · exact Hno.out h0 i hi (by omega))
                  have l2 : wo.heap.size ≠ wr.heap.size := by omega
                  clear hc1'
                  generalize fs[q] = g at *
                  by_cases hsm : f.fName = g.fName
                  · have Hv := Lib.hid (Hsame.out hz hsm)
                    have hb := bytes_same f.fName g.fName true (by simp [hsm])
                    clear hsm
                    go_wp2_with fail
                    go_ret
                    exact ⟨by rw [Hv.out]; rfl, Bj.out.alloc Bj.out.size _⟩
                  · have Hn := Lib.hid (Hno2.out (fun _ => hsm))
                    have hb := bytes_same f.fName g.fName false (by simp [hsm])
                    clear hsm
                    go_wp2_with fail
                    exact ⟨⟨q + 1, by congr 1, by omega, Hn.out, Hbj.out.alloc Hbj.out.size _⟩, by simp [intOf]; omega⟩
                · obtain rfl : q = k := by omega
                  have Hn := Lib.hid (Hnx.out Hok.out Hno.out)
                  go_wp2_with fail
                  exact ⟨⟨q + 1, by congr 1, by omega, Hn.out, Bj.out⟩, by simp [intOf]; omega⟩
            · have hq := nameB_false hnn
              have hz := (hP1.resolve_left hnn).1
              have he := isEmpty_of hz
              have hm : f.fMark = 0 := (hP1.resolve_left hnn).2
              clear hP1 hnn
              go_wp2_with (first | (go_at_call 97; refine (sl1Name _ _ hsz).mono ?_; rintro e w' ⟨rfl, rfl⟩) | (go_at_call 67; refine (sIn_yes _ _ _ _ (by omega) (by omega)).mono ?_; rintro e w' ⟨rfl, rfl⟩) | (go_at_call 67; refine (sIn_no _ _ _ _ (by omega)).mono ?_; rintro e w' ⟨rfl, rfl⟩))
              go_loopw [49] (fun i wr => ∃ q : Nat, i = .int .i64 q ∧ q ≤ k ∧ (f.fName.size ≠ 0 → ∀ i (hi : i < fs.length), i < q → f.fName ≠ fs[i].fName) ∧ Below (wo.alloc (.cells #[.string f.fName, .int .i64 0, .int .i64 f.fType] 34)).heap.size (wo.alloc (.cells #[.string f.fName, .int .i64 0, .int .i64 f.fType] 34)) wr) (fun i _ => k - (intOf i).toNat)
              case atStart => exact ⟨0, rfl, by omega, fun _ _ _ h => absurd h (by omega), Below.refl _ _⟩
              case round =>
                obtain ⟨q, rfl, hqk, hno, hbj⟩ := hrel
                have Hno := Lib.hid hno
                have hB := (Box.new wo 34 #[.string f.fName, .int .i64 0, .int .i64 f.fType]).below hbj (by simp)
                have y0 := hB.cell 0
                have l1 := hB.lt
                simp at y0
                have Bj := Lib.hid ((Hbel.out.alloc Hbel.out.size (.cells #[.string f.fName, .int .i64 0, .int .i64 f.fType] 34)).trans (hbj.mono (Hbel.out.alloc Hbel.out.size _).size))
                have Hbj := Lib.hid hbj
                clear hno hB hbj
                by_cases hqlt : q < k
                · have hql : q < fs.length := by omega
                  obtain ⟨b', o', cs', hbo, _, hb1', hc1', hat'⟩ := Hr.out q hql
                  injection hbo with hbo
                  injection hbo with hbo1 hbo2
                  subst hbo1
                  subst hbo2
                  obtain rfl : cs' = [.string fs[q].fName, .int .i64 fs[q].fMark, .int .i64 fs[q].fType] := hat'
                  have g0 := (Bj.out.cell (p := ⟨b, o + q * 3 + 0, none⟩) hb1).trans (hc1' 0 (by decide))
                  have g1 := (Bj.out.cell (p := ⟨b, o + q * 3 + 1, none⟩) hb1).trans (hc1' 1 (by decide))
                  have g2 := (Bj.out.cell (p := ⟨b, o + q * 3 + 2, none⟩) hb1).trans (hc1' 2 (by decide))
                  simp at g0 g1 g2
                  have Hsame := Lib.hid (fun h0 (h : f.fName = fs[q].fName) => Htw.out q hqlt h0 h)
                  have Hno2 := Lib.hid (show ∀ (h : f.fName.size ≠ 0 → f.fName ≠ fs[q].fName), f.fName.size ≠ 0 → ∀ i (hi : i < fs.length), i < q + 1 → f.fName ≠ fs[i].fName from fun h h0 i hi hiq => by
                    by_cases e : i = q
                    · subst e; exact h h0
                    · exact Hno.out h0 i hi (by omega))
                  have l2 : wo.heap.size ≠ wr.heap.size := by omega
                  clear hc1'
                  generalize fs[q] = g at *
                  have Hn := Lib.hid (Hno2.out (fun h => absurd hz h))
                  go_wp2_with fail
                  exact ⟨⟨q + 1, by congr 1, by omega, Hn.out, Hbj.out.alloc Hbj.out.size _⟩, by simp [intOf]; omega⟩
                · obtain rfl : q = k := by omega
                  have Hn := Lib.hid (Hnx.out Hok.out Hno.out)
                  go_wp2_with fail
                  exact ⟨⟨q + 1, by congr 1, by omega, Hn.out, Bj.out⟩, by simp [intOf]; omega⟩
          · have Hv := Lib.hid (Hbad.out (fun h => hP3 ⟨h.2.2.1, by have := h.2.2.2; omega⟩))
            by_cases hnn : nameP f.fName
            · have hq := nameB_true hnn
              clear hP1
              go_wp2_with (first | (go_at_call 97; refine (sl1Name _ _ hsz).mono ?_; rintro e w' ⟨rfl, rfl⟩) | (go_at_call 67; refine (sIn_yes _ _ _ _ (by omega) (by omega)).mono ?_; rintro e w' ⟨rfl, rfl⟩) | (go_at_call 67; refine (sIn_no _ _ _ _ (by omega)).mono ?_; rintro e w' ⟨rfl, rfl⟩))
              go_ret
              exact ⟨by rw [Hv.out]; rfl, Hbel.out.alloc Hbel.out.size _⟩
            · have hq := nameB_false hnn
              have hz := (hP1.resolve_left hnn).1
              have he := isEmpty_of hz
              have hm : f.fMark = 0 := (hP1.resolve_left hnn).2
              clear hP1
              go_wp2_with (first | (go_at_call 97; refine (sl1Name _ _ hsz).mono ?_; rintro e w' ⟨rfl, rfl⟩) | (go_at_call 67; refine (sIn_yes _ _ _ _ (by omega) (by omega)).mono ?_; rintro e w' ⟨rfl, rfl⟩) | (go_at_call 67; refine (sIn_no _ _ _ _ (by omega)).mono ?_; rintro e w' ⟨rfl, rfl⟩))
              go_ret
              exact ⟨by rw [Hv.out]; rfl, Hbel.out.alloc Hbel.out.size _⟩
        · have Hv := Lib.hid (Hbad.out (fun h => hP2 h.2.1))
          by_cases hnn : nameP f.fName
          · have hq := nameB_true hnn
            clear hP1
            go_wp2_with (first | (go_at_call 97; refine (sl1Name _ _ hsz).mono ?_; rintro e w' ⟨rfl, rfl⟩) | (go_at_call 67; refine (sIn_yes _ _ _ _ (by omega) (by omega)).mono ?_; rintro e w' ⟨rfl, rfl⟩) | (go_at_call 67; refine (sIn_no _ _ _ _ (by omega)).mono ?_; rintro e w' ⟨rfl, rfl⟩))
            go_ret
            exact ⟨by rw [Hv.out]; rfl, Hbel.out.alloc Hbel.out.size _⟩
          · exact absurd (show 0 ≤ f.fMark ∧ f.fMark ≤ 2 by have := (hP1.resolve_left hnn).2; omega) hP2
      · have Hv := Lib.hid (Hbad.out (fun h => hP1 h.1))
        have hnn : ¬ nameP f.fName := fun h => hP1 (.inl h)
        have hq := nameB_false hnn
        by_cases hz : f.fName.size = 0
        · have he := isEmpty_of hz
          have hm : ¬ f.fMark = 0 := fun h => hP1 (.inr ⟨hz, h⟩)
          have d1 : (f.fMark == 0) = false := beq_eq_false_iff_ne.2 hm
          clear hP1 hnn
          go_wp2_with (go_at_call 97; refine (sl1Name _ _ hsz).mono ?_; rintro e w' ⟨rfl, rfl⟩)
          go_ret
          exact ⟨by rw [Hv.out]; rfl, Hbel.out.alloc Hbel.out.size _⟩
        · have he := isEmpty_not hz
          clear hP1 hnn
          go_wp2_with (go_at_call 97; refine (sl1Name _ _ hsz).mono ?_; rintro e w' ⟨rfl, rfl⟩)
          go_ret
          exact ⟨by rw [Hv.out]; rfl, Hbel.out.alloc Hbel.out.size _⟩
    · obtain rfl : k = fs.length := by omega
      have Hbel := Lib.hid hbel
      clear hbel
      by_cases h6 : fs.length ≤ 6
      · have Ht := Lib.hid (fieldsB_true (n := n) ⟨h6, Hto.out⟩)
        have d : decide ((fs.length : Int) ≤ 6) = true := decide_eq_true (by omega)
        go_wp2_with fail
        go_ret
        exact ⟨by rw [Ht.out]; rfl, Hbel.out⟩
      · have Ht := Lib.hid (fieldsB_false (n := n) (fs := fs) (fun h => h6 h.1))
        have d : decide ((fs.length : Int) ≤ 6) = false := decide_eq_false (by omega)
        go_wp2_with fail
        go_ret
        exact ⟨by rw [Ht.out]; rfl, Hbel.out⟩

end Go.Proofs.Ytjbnabjfeepbeaa
