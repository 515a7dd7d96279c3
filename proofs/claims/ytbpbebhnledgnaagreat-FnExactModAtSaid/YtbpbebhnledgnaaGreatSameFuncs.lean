
/-
  What is proved: contracts of slices.EqualFunc on types and objects, of the model's l4SameType, l4SameObject. No condition beside what each theorem states.
-/
import Derived.Test.YtbpbebhnledgnaaGreatSameParts
import Derived.Test.YtbpbebhnledgnaaGreatOpenScope
namespace Go.Proofs.YtbpbebhnledgnaaGreat
open Go.ChangeShapes Go.WideShapes Go.ChangeAt Go.RowKit

set_option maxRecDepth 100000 in
set_option maxHeartbeats 8000000 in
theorem iEqualTypes (a a' : Option Addr) (c c' : Nat) (l m : List TypeD) (w : World) (hl : l.length ≤ 1048576) (hs : ∀ t ∈ l, t.fFields.length ≤ 1048576) (hr : Rows typeS Any w a l) (hr' : Rows typeS Any w a' m) :
    Calls Tryz.prog 91 #[.slice a l.length c, .slice a' m.length c', .func (.func 92) #[] #[]] w fun e w' => e = .returned (.bool (sameB l m)) ∧ Below w.heap.size w w' := by
  have Hr := Lib.hid hr
  have Hr' := Lib.hid hr'
  have Hs := Lib.hid hs
  clear hr hr' hs
  by_cases hlen : m.length = l.length
  · rw [hlen]
    have Hlen := Lib.hid hlen
    clear hlen
    go_enter Tryz.func91, Tryz.ntmps91
    go_wp2_with fail
    go_loopw [17] (fun i wr => ∃ k : Nat, i = .int .i64 k ∧ k ≤ l.length ∧ agreeTo l m k ∧ Below w.heap.size w wr) (fun i _ => l.length - (intOf i).toNat)
    case atStart => exact ⟨0, rfl, by omega, agree_zero, Below.refl _ _⟩
    case round =>
      obtain ⟨k, rfl, hk, hto, hbel⟩ := hrel
      have Hto := Lib.hid hto
      clear hto
      by_cases hlt : k < l.length
      · have hlt' : k < m.length := by rw [Hlen.out]; exact hlt
        obtain ⟨b, o, cse, rfl, _, hbe, hce, hate⟩ := Hr.out k hlt
        obtain ⟨a3, c3, rfl, hfe, _⟩ := hate
        have e0 := (hbel.cell (p := ⟨b, o + k * 6 + 0, none⟩) hbe).trans (hce 0 (by decide))
        have e1 := (hbel.cell (p := ⟨b, o + k * 6 + 1, none⟩) hbe).trans (hce 1 (by decide))
        have e2 := (hbel.cell (p := ⟨b, o + k * 6 + 2, none⟩) hbe).trans (hce 2 (by decide))
        have e3 := (hbel.cell (p := ⟨b, o + k * 6 + 3, none⟩) hbe).trans (hce 3 (by decide))
        have e4 := (hbel.cell (p := ⟨b, o + k * 6 + 4, none⟩) hbe).trans (hce 4 (by decide))
        have e5 := (hbel.cell (p := ⟨b, o + k * 6 + 5, none⟩) hbe).trans (hce 5 (by decide))
        have hbel1 := hbel.alloc hbel.size (.cells #[.int .i64 l[k].fKind, .int .i64 l[k].fLong, .int .i64 l[k].fBase, .slice a3 l[k].fFields.length c3, .string l[k].fOwner, .string l[k].fName] 101)
        obtain ⟨b', o', csq, rfl, _, hbq, hcq, hatq⟩ := Hr'.out k hlt'
        obtain ⟨b3, d3, rfl, hfq, _⟩ := hatq
        have q0 := (hbel1.cell (p := ⟨b', o' + k * 6 + 0, none⟩) hbq).trans (hcq 0 (by decide))
        have q1 := (hbel1.cell (p := ⟨b', o' + k * 6 + 1, none⟩) hbq).trans (hcq 1 (by decide))
        have q2 := (hbel1.cell (p := ⟨b', o' + k * 6 + 2, none⟩) hbq).trans (hcq 2 (by decide))
        have q3 := (hbel1.cell (p := ⟨b', o' + k * 6 + 3, none⟩) hbq).trans (hcq 3 (by decide))
        have q4 := (hbel1.cell (p := ⟨b', o' + k * 6 + 4, none⟩) hbq).trans (hcq 4 (by decide))
        have q5 := (hbel1.cell (p := ⟨b', o' + k * 6 + 5, none⟩) hbq).trans (hcq 5 (by decide))
        have hn : typeS.n = 6 := rfl
        simp only [Nat.add_zero, List.getElem?_cons_zero, List.getElem?_cons_succ] at e0 q0 e1 q1 e2 q2 e3 q3 e4 q4 e5 q5
        have Hbad := Lib.hid (fun h => agree_bad hlt hlt' h)
        have Hnx := Lib.hid (fun h => agree_next hlt hlt' Hto.out h)
        have hft := Hs.out l[k] (List.getElem_mem hlt)
        have i1 : (0 : Int) ≤ (k : Int) := by omega
        have i2 : (k : Int) < (l.length : Int) := by omega
        have hB := (hbel.alloc hbel.size (.cells #[.int .i64 l[k].fKind, .int .i64 l[k].fLong, .int .i64 l[k].fBase, .slice a3 l[k].fFields.length c3, .string l[k].fOwner, .string l[k].fName] 101)).alloc (hbel.alloc hbel.size (.cells #[.int .i64 l[k].fKind, .int .i64 l[k].fLong, .int .i64 l[k].fBase, .slice a3 l[k].fFields.length c3, .string l[k].fOwner, .string l[k].fName] 101)).size (.cells #[.int .i64 m[k].fKind, .int .i64 m[k].fLong, .int .i64 m[k].fBase, .slice b3 m[k].fFields.length d3, .string m[k].fOwner, .string m[k].fName] 101)
        have hcall := iSameType l[k] m[k] a3 b3 c3 d3 ((wr.alloc (.cells #[.int .i64 l[k].fKind, .int .i64 l[k].fLong, .int .i64 l[k].fBase, .slice a3 l[k].fFields.length c3, .string l[k].fOwner, .string l[k].fName] 101)).alloc (.cells #[.int .i64 m[k].fKind, .int .i64 m[k].fLong, .int .i64 m[k].fBase, .slice b3 m[k].fFields.length d3, .string m[k].fOwner, .string m[k].fName] 101)) hft (hfe.below hB) (hfq.below hB)
        have HB := Lib.hid hB
        have Hcall := Lib.hid hcall
        have hsz := hbel.size
        clear hbel hbel1 hB hcall hce hcq hfe hfq hft
        generalize l[k] = t at *
        generalize m[k] = u at *
        clear hlt'
        by_cases he : t = u
        · have Hn := Lib.hid (Hnx.out he)
          have Hq := Lib.hid (eqB_true he)
          clear he
          go_wp2_with fail
          refine Hcall.out.mono ?_
          rw [Hq.out]
          rintro e w2 ⟨rfl, hb2⟩
          have B2 := Lib.hid (HB.out.trans (hb2.mono HB.out.size))
          clear hb2
          go_wp2_with fail
          exact ⟨⟨k + 1, by congr 1, by omega, Hn.out, B2.out⟩, by simp [intOf]; omega⟩
        · have Hv := Lib.hid (Hbad.out he)
          have Hq := Lib.hid (eqB_false he)
          clear he
          go_wp2_with fail
          refine Hcall.out.mono ?_
          rw [Hq.out]
          rintro e w2 ⟨rfl, hb2⟩
          have B2 := Lib.hid (HB.out.trans (hb2.mono HB.out.size))
          clear hb2
          go_wp2_with fail
          go_ret
          exact ⟨by rw [Hv.out]; rfl, B2.out⟩
      · have Hv := Lib.hid (agree_all Hlen.out.symm (show agreeTo l m l.length by rw [← show k = l.length by omega]; exact Hto.out))
        have Hbel := Lib.hid hbel
        clear hbel
        go_wp2_with fail
        go_ret
        exact ⟨by rw [Hv.out]; rfl, Hbel.out⟩
  · have Hv := Lib.hid (agree_len (l := l) (m := m) (fun e => hlen e.symm))
    have h1 : ¬ (l.length : Int) = (m.length : Int) := by omega
    go_enter Tryz.func91, Tryz.ntmps91
    go_wp2_with fail
    go_ret
    exact ⟨by rw [Hv.out]; rfl, Below.refl _ _⟩

set_option maxRecDepth 100000 in
set_option maxHeartbeats 8000000 in
theorem iEqualObjects (a a' : Option Addr) (c c' : Nat) (l m : List ObjectD) (w : World) (hl : l.length ≤ 1048576) (hs : ∀ t ∈ l, t.fParams.length ≤ 1048576) (hr : Rows objectS Any w a l) (hr' : Rows objectS Any w a' m) :
    Calls Tryz.prog 93 #[.slice a l.length c, .slice a' m.length c', .func (.func 94) #[] #[]] w fun e w' => e = .returned (.bool (sameB l m)) ∧ Below w.heap.size w w' := by
  have Hr := Lib.hid hr
  have Hr' := Lib.hid hr'
  have Hs := Lib.hid hs
  clear hr hr' hs
  by_cases hlen : m.length = l.length
  · rw [hlen]
    have Hlen := Lib.hid hlen
    clear hlen
    go_enter Tryz.func93, Tryz.ntmps93
    go_wp2_with fail
    go_loopw [17] (fun i wr => ∃ k : Nat, i = .int .i64 k ∧ k ≤ l.length ∧ agreeTo l m k ∧ Below w.heap.size w wr) (fun i _ => l.length - (intOf i).toNat)
    case atStart => exact ⟨0, rfl, by omega, agree_zero, Below.refl _ _⟩
    case round =>
      obtain ⟨k, rfl, hk, hto, hbel⟩ := hrel
      have Hto := Lib.hid hto
      clear hto
      by_cases hlt : k < l.length
      · have hlt' : k < m.length := by rw [Hlen.out]; exact hlt
        obtain ⟨b, o, cse, rfl, _, hbe, hce, hate⟩ := Hr.out k hlt
        obtain ⟨a3, c3, rfl, hfe, _⟩ := hate
        have e0 := (hbel.cell (p := ⟨b, o + k * 6 + 0, none⟩) hbe).trans (hce 0 (by decide))
        have e1 := (hbel.cell (p := ⟨b, o + k * 6 + 1, none⟩) hbe).trans (hce 1 (by decide))
        have e2 := (hbel.cell (p := ⟨b, o + k * 6 + 2, none⟩) hbe).trans (hce 2 (by decide))
        have e3 := (hbel.cell (p := ⟨b, o + k * 6 + 3, none⟩) hbe).trans (hce 3 (by decide))
        have e4 := (hbel.cell (p := ⟨b, o + k * 6 + 4, none⟩) hbe).trans (hce 4 (by decide))
        have e5 := (hbel.cell (p := ⟨b, o + k * 6 + 5, none⟩) hbe).trans (hce 5 (by decide))
        have hbel1 := hbel.alloc hbel.size (.cells #[.string l[k].fName, .int .i64 l[k].fKind, .int .i64 l[k].fMark, .int .i64 l[k].fType, .int .i64 l[k].fValue, .slice a3 l[k].fParams.length c3] 86)
        obtain ⟨b', o', csq, rfl, _, hbq, hcq, hatq⟩ := Hr'.out k hlt'
        obtain ⟨b3, d3, rfl, hfq, _⟩ := hatq
        have q0 := (hbel1.cell (p := ⟨b', o' + k * 6 + 0, none⟩) hbq).trans (hcq 0 (by decide))
        have q1 := (hbel1.cell (p := ⟨b', o' + k * 6 + 1, none⟩) hbq).trans (hcq 1 (by decide))
        have q2 := (hbel1.cell (p := ⟨b', o' + k * 6 + 2, none⟩) hbq).trans (hcq 2 (by decide))
        have q3 := (hbel1.cell (p := ⟨b', o' + k * 6 + 3, none⟩) hbq).trans (hcq 3 (by decide))
        have q4 := (hbel1.cell (p := ⟨b', o' + k * 6 + 4, none⟩) hbq).trans (hcq 4 (by decide))
        have q5 := (hbel1.cell (p := ⟨b', o' + k * 6 + 5, none⟩) hbq).trans (hcq 5 (by decide))
        have hn : objectS.n = 6 := rfl
        simp only [Nat.add_zero, List.getElem?_cons_zero, List.getElem?_cons_succ] at e0 q0 e1 q1 e2 q2 e3 q3 e4 q4 e5 q5
        have Hbad := Lib.hid (fun h => agree_bad hlt hlt' h)
        have Hnx := Lib.hid (fun h => agree_next hlt hlt' Hto.out h)
        have hft := Hs.out l[k] (List.getElem_mem hlt)
        have i1 : (0 : Int) ≤ (k : Int) := by omega
        have i2 : (k : Int) < (l.length : Int) := by omega
        have hB := (hbel.alloc hbel.size (.cells #[.string l[k].fName, .int .i64 l[k].fKind, .int .i64 l[k].fMark, .int .i64 l[k].fType, .int .i64 l[k].fValue, .slice a3 l[k].fParams.length c3] 86)).alloc (hbel.alloc hbel.size (.cells #[.string l[k].fName, .int .i64 l[k].fKind, .int .i64 l[k].fMark, .int .i64 l[k].fType, .int .i64 l[k].fValue, .slice a3 l[k].fParams.length c3] 86)).size (.cells #[.string m[k].fName, .int .i64 m[k].fKind, .int .i64 m[k].fMark, .int .i64 m[k].fType, .int .i64 m[k].fValue, .slice b3 m[k].fParams.length d3] 86)
        have hcall := iSameObject l[k] m[k] a3 b3 c3 d3 ((wr.alloc (.cells #[.string l[k].fName, .int .i64 l[k].fKind, .int .i64 l[k].fMark, .int .i64 l[k].fType, .int .i64 l[k].fValue, .slice a3 l[k].fParams.length c3] 86)).alloc (.cells #[.string m[k].fName, .int .i64 m[k].fKind, .int .i64 m[k].fMark, .int .i64 m[k].fType, .int .i64 m[k].fValue, .slice b3 m[k].fParams.length d3] 86)) hft (hfe.below hB) (hfq.below hB)
        have HB := Lib.hid hB
        have Hcall := Lib.hid hcall
        have hsz := hbel.size
        clear hbel hbel1 hB hcall hce hcq hfe hfq hft
        generalize l[k] = t at *
        generalize m[k] = u at *
        clear hlt'
        by_cases he : t = u
        · have Hn := Lib.hid (Hnx.out he)
          have Hq := Lib.hid (eqB_true he)
          clear he
          go_wp2_with fail
          refine Hcall.out.mono ?_
          rw [Hq.out]
          rintro e w2 ⟨rfl, hb2⟩
          have B2 := Lib.hid (HB.out.trans (hb2.mono HB.out.size))
          clear hb2
          go_wp2_with fail
          exact ⟨⟨k + 1, by congr 1, by omega, Hn.out, B2.out⟩, by simp [intOf]; omega⟩
        · have Hv := Lib.hid (Hbad.out he)
          have Hq := Lib.hid (eqB_false he)
          clear he
          go_wp2_with fail
          refine Hcall.out.mono ?_
          rw [Hq.out]
          rintro e w2 ⟨rfl, hb2⟩
          have B2 := Lib.hid (HB.out.trans (hb2.mono HB.out.size))
          clear hb2
          go_wp2_with fail
          go_ret
          exact ⟨by rw [Hv.out]; rfl, B2.out⟩
      · have Hv := Lib.hid (agree_all Hlen.out.symm (show agreeTo l m l.length by rw [← show k = l.length by omega]; exact Hto.out))
        have Hbel := Lib.hid hbel
        clear hbel
        go_wp2_with fail
        go_ret
        exact ⟨by rw [Hv.out]; rfl, Hbel.out⟩
  · have Hv := Lib.hid (agree_len (l := l) (m := m) (fun e => hlen e.symm))
    have h1 : ¬ (l.length : Int) = (m.length : Int) := by omega
    go_enter Tryz.func93, Tryz.ntmps93
    go_wp2_with fail
    go_ret
    exact ⟨by rw [Hv.out]; rfl, Below.refl _ _⟩
end Go.Proofs.YtbpbebhnledgnaaGreat
