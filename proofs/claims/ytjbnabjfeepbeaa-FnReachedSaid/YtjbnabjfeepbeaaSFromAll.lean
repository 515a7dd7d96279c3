
/-
  What is proved: a contract of the model's l3From with pointers, for types that are shaped. No condition beside what each theorem states.
-/
import Derived.Test.YtjbnabjfeepbeaaSFrom
namespace Go.Proofs.Ytjbnabjfeepbeaa
open Go.ChangeShapes Go.WideShapes Go.ChangeAt Go.RowKit

set_option maxRecDepth 100000 in
set_option maxHeartbeats 8000000 in
theorem sl3FromAll (a : Option Addr) (c : Nat) (l : List TypeD) (sa : Option Addr) (sc : Nat) (st : List Int) (w : World) (hr : Rows typeS Any w a l) (hs : Nums w sa st) (hst : st.length ≤ 24) (h0 : ∀ x ∈ st, 0 ≤ x ∧ x < (l.length : Int)) (hne : near l) :
    Calls Try.prog 73 #[.slice a l.length c, .slice sa st.length sc, .bool true] w fun e w' => ∃ v m, e = .returned v ∧ OwnInts w' w.heap.size v m ∧ (∀ y, y ∈ m ↔ ∃ n : Nat, y = (n : Int) ∧ Reach l partsD st n) ∧ Rises m ∧ m.length ≤ 24 ∧ Below w.heap.size w w' := by
  have hl := hne.most
  have Hne := Lib.hid hne
  have Hw0 := Lib.hid (Walk.start (steps := partsD) hl h0)
  have Hr := Lib.hid hr
  have Hs := Lib.hid hs
  clear hr hs h0 hne
  go_enter Try.func73, Try.ntmps73
  go_wp2_with fail
  refine (sl1Own sa sc st _ (by omega) Hs.out).mono ?_
  rintro e w1 ⟨v1, rfl, hown1, hb1⟩
  have Ho1 := Lib.hid hown1.que
  have B1 := Lib.hid hb1
  clear hown1 hb1
  go_wp2_with fail
  go_loopw [7, 8] (fun vo vq wr => ∃ R S m, Que wr w.heap.size vq S ∧ OwnInts wr w.heap.size vo m ∧ apart vo vq ∧ Walk l partsD st R S ∧ R.length = 24 ∧ laid R m ∧ S.length + 7 * R.count false ≤ 192 ∧ Below w.heap.size w wr) (fun vo vq wr => (24 - lenV vo) * 8 + lenV vq)
  case atStart => exact ⟨List.replicate 24 false, st, [], Ho1.out, OwnInts.nil, fun k hk => (by cases hk), Hw0.out, by simp, laid_start 24, by simp; omega, B1.out⟩
  case round =>
    rename_i wr vo vq
    obtain ⟨R, S, m, hque, hown, hap, hw, hR, hlaid, hlen, hbel⟩ := hrel
    have hml := hlaid.2.2
    have Hq := Lib.hid hque
    have Ho := Lib.hid hown
    have Hap := Lib.hid hap
    have Hw := Lib.hid hw
    have Hla := Lib.hid hlaid
    have Hbel := Lib.hid hbel
    clear hque hown hap hw hlaid hbel
    obtain ⟨oa, oc, rfl, hoc, hon⟩ := Ho.out.nums
    have Hon := Lib.hid hon
    clear hon
    cases S with
    | nil =>
      obtain ⟨qa, qc, rfl, _⟩ := Hq.out.slice
      go_wp2_with fail
      go_ret
      exact ⟨_, m, rfl, Ho.out, fun y => ((Hla.out.1 y).trans ⟨fun ⟨n, e, h⟩ => ⟨n, e, (Hw.out.done n).1 h⟩, fun ⟨n, e, h⟩ => ⟨n, e, (Hw.out.done n).2 h⟩⟩), Hla.out.2.1, by omega, Hbel.out⟩
    | cons x S' =>
      obtain ⟨n, rfl, hn, _⟩ := Hw.out.ahead x (by simp)
      simp only [List.length_cons] at hlen
      obtain ⟨g, off, cap, rfl, hcap, hmx, hgB, hgl, e0, hq1, hq2⟩ := Hq.out.tail
      have hR24 : n < R.length := by omega
      have hS : S'.length ≤ 191 := by omega
      have Hq1 := Lib.hid hq1
      have Hq2 := Lib.hid hq2
      have Hsl := Lib.hid (show S'.length = S'.length from rfl)
      clear hq1 hq2
      have hasC := Lib.hid (fun c => sl1Has oa c m n wr (by omega) Hon.out)
      have putC := Lib.hid (fun hno => sl1Put (.slice oa m.length oc) w.heap.size m n wr (by omega) Ho.out hno)
      generalize hsl : S'.length = sl at *
      have Hnl := Lib.hid hml
      clear hml
      generalize hmm : m.length = ml at *
      cases hb : R[n] with
      | true =>
        have hin : decide ((n : Int) ∈ m) = true := decide_eq_true ((Hla.out.1 _).2 ⟨n, rfl, by rw [List.getElem?_eq_getElem hR24, hb]⟩)
        have Hw' := Lib.hid (Hw.out.skip (S' := S') (n := n) (fun y => by simp) (by rw [List.getElem?_eq_getElem hR24, hb]))
        go_wp2_with fail
        all_goals
          first
            | (obtain ⟨vq, hvq, Hq'⟩ : ∃ vq, Value.slice (some ⟨g, off + 1, none⟩) sl (cap - 1) = vq ∧ Hid (Que wr w.heap.size vq S') := ⟨_, rfl, Lib.hid (Hq1.out (by assumption))⟩; have hvg : vq.ownBlock = some g := (by rw [← hvq]; rfl); rw [hvq])
            | (obtain ⟨vq, hvq, Hq'⟩ : ∃ vq, Value.slice (some ⟨g, off, none⟩) sl 0 = vq ∧ Hid (Que wr w.heap.size vq S') := ⟨_, rfl, Lib.hid (by have h9 := Hq2.out (by first | assumption | rfl); have e9 : sl = 0 := (by rw [← hsl, h9.1]; rfl); rw [e9]; exact h9.2)⟩; have hvg : vq.ownBlock = some g := (by rw [← hvq]; rfl); rw [hvq])
          refine (hasC.out _).mono ?_
          rintro e w2 ⟨rfl, rfl⟩
          rw [hin]
          go_wp2_with fail
          obtain ⟨qa, qc, rfl, _⟩ := Hq'.out.slice
          exact ⟨⟨R, S', m, Hq'.out, Ho.out, fun k hk => by rw [hvg]; exact Hap.out k hk, Hw'.out, hR, Hla.out, by omega, Hbel.out⟩, by simp only [lenV]; omega⟩
      | false =>
        have hbf : R[n]? = some false := by rw [List.getElem?_eq_getElem hR24, hb]
        have hno : ¬ (n : Int) ∈ m := fun h => by
          obtain ⟨k, e, hk⟩ := (Hla.out.1 _).1 h
          have : n = k := by omega
          rw [this, hk] at hbf
          cases hbf
        have hin : decide ((n : Int) ∈ m) = false := decide_eq_false hno
        have Pc := Lib.hid (putC.out hno)
        have Hput := Lib.hid (fun m' => laid.put (m' := m') Hla.out hbf)
        have hcs := count_set hbf
        have hft := Hne.out.six l[n] (List.getElem_mem hn)
        have Hlen := Lib.hid (inside_len hft)
        have Hpp := Lib.hid (Hne.out.ptr n hn)
        have Hmp := Lib.hid (Hne.out.mParts n hn)
        have Htake := Lib.hid (Walk.take (S' := S' ++ partsD l[n]) hn Hw.out Hne.out.parts (fun y hy => by
          rcases List.mem_cons.1 hy with h | h
          · exact .inl h
          · exact .inr (by simp [h])) (fun y hy => by
          rcases List.mem_append.1 hy with h | h
          · exact .inl (by simp [h])
          · exact .inr h) (fun y hy => by simp [hy]) (by simp))
        clear hno
        go_wp2_with fail
        all_goals
          first
            | (obtain ⟨vq, hvq, Hq'⟩ : ∃ vq, Value.slice (some ⟨g, off + 1, none⟩) sl (cap - 1) = vq ∧ Hid (Que wr w.heap.size vq S') := ⟨_, rfl, Lib.hid (Hq1.out (by assumption))⟩; have hvg : vq.ownBlock = some g := (by rw [← hvq]; rfl); rw [hvq])
            | (obtain ⟨vq, hvq, Hq'⟩ : ∃ vq, Value.slice (some ⟨g, off, none⟩) sl 0 = vq ∧ Hid (Que wr w.heap.size vq S') := ⟨_, rfl, Lib.hid (by have h9 := Hq2.out (by first | assumption | rfl); have e9 : sl = 0 := (by rw [← hsl, h9.1]; rfl); rw [e9]; exact h9.2)⟩; have hvg : vq.ownBlock = some g := (by rw [← hvq]; rfl); rw [hvq])
          clear hvq
          refine (hasC.out _).mono ?_
          rintro e w2 ⟨rfl, rfl⟩
          rw [hin]
          go_wp2_with fail
          refine Pc.out.mono ?_
          rintro e w3 ⟨v3, m3, rfl, hown3, hmem3, hri3, hl3, hb3⟩
          have B3 := Lib.hid (Hbel.out.trans (hb3.mono Hbel.out.size))
          have O3 := Lib.hid hown3
          have La := Lib.hid (Hput.out m3 hmem3 hri3 (by rw [hl3, hmm]))
          have Q3 := Lib.hid (Hq'.out.below hb3)
          obtain ⟨b, o, a3, c3, rfl, hb1, e0, e1, e2, e3, e4, e5, hrf, _⟩ := type_cells Hr.out hn B3.out
          have Hrf := Lib.hid hrf
          clear hown3 hmem3 hri3 hb3 hrf
          generalize l[n] = t at *
          go_wp2_with fail
          refine (sl3Parts t a3 c3 _ (by omega) Hrf.out).mono ?_
          rintro e w4 ⟨v4, rfl, hown4, hb4⟩
          rw [Hmp.out] at hown4
          obtain ⟨a4, c4, rfl, hc4, hn4⟩ := hown4.nums
          have N4 := Lib.hid hn4
          have Q4 := Lib.hid (Q3.out.below hb4)
          have O4 := Lib.hid (O3.out.below hb4)
          have B4 := Lib.hid (B3.out.trans (hb4.mono B3.out.size))
          have hs34 := hb4.size
          have hsw := Hbel.out.size
          clear hown4 hn4 hb4
          have hlt3 := World.ownsRow.lt O3.out
          have hltq := Q4.out.lt
          have hpa : S'.length + (insideD t).length ≤ 1048577 + 1048576 := by have := Hlen.out; omega
          have hpb := B4.out.size
          go_wp2_with (at_builtin; refine wpList_pushQue rfl (.tmp 26) (.tmp 31) rfl w.heap.size w4 vq S' rfl Q4.out (insideD t) a4 c4 rfl N4.out hpa hpb ?_)
          intro v5 w5 hq5 hg5 hk5
          have O5 := Lib.hid (O4.out.keep (w' := w5) (fun k hk => hg5.block k (by have := hlt3 k hk; omega) (fun e => by
            have := hlt3 k hk
            try rw [hvg] at e
            injection e with e
            omega)))
          have B5 := Lib.hid (B4.out.grown hg5 B4.out.size (fun k hk => by
            try rw [hvg] at hk
            injection hk with hk
            omega))
          have Hap5 := Lib.hid (show apart v3 v5 from fun k hk e => by
            have := hlt3 k hk
            rcases hk5 k e with h | h
            · try rw [hvg] at h
              first | injection h with h | skip
              omega
            · omega)
          have Q5 := Lib.hid hq5
          clear hq5 hg5 hk5
          obtain ⟨qa, qc, rfl, _⟩ := Q5.out.slice
          obtain ⟨oa', oc', rfl, _, _⟩ := O5.out.nums
          have hl5 := Hlen.out
          have hl6 := Hnl.out
          have hl7 := La.out.2.2
          rw [List.length_set] at hl7
          have c0 := (B5.out.cell (p := ⟨b, o + n * 6, none⟩) hb1).trans ((B3.out.cell (p := ⟨b, o + n * 6, none⟩) hb1).symm.trans e0)
          have c2 := (B5.out.cell (p := ⟨b, o + n * 6 + 2, none⟩) hb1).trans ((B3.out.cell (p := ⟨b, o + n * 6 + 2, none⟩) hb1).symm.trans e2)
          by_cases h6 : t.fKind = 6
          · have q6 : (t.fKind == 6) = true := beq_iff_eq.2 h6
            obtain ⟨p1, p2⟩ := Hpp.out h6
            have P1 := Lib.hid p1
            have P2 := Lib.hid p2
            have hlt5 := Q5.out.lt
            have hlo5 := World.ownsRow.lt O5.out
            have hsz5 := B5.out.size
            have N5 : Nums (w5.alloc (.cells #[.int .i64 t.fBase] 3)) (some ⟨w5.heap.size, 0, none⟩) [t.fBase] := fun i hi => by
              have : i = 0 := by simp at hi; omega
              subst this
              exact ⟨w5.heap.size, 0, rfl, by simp, (Box.new w5 3 #[.int .i64 t.fBase]).cell 0⟩
            have Q5a := Lib.hid (Q5.out.below ((Below.refl w5.heap.size w5).alloc (Nat.le_refl _) (.cells #[.int .i64 t.fBase] 3)))
            have hpc : (S' ++ insideD t).length + [t.fBase].length ≤ 1048577 + 1048576 := by rw [List.length_append, List.length_singleton]; omega
            have hpd : w.heap.size ≤ (w5.alloc (.cells #[.int .i64 t.fBase] 3)).heap.size := by simp; omega
            have hqo : ∀ n m, (Value.slice qa n qc).ownBlock = (Value.slice qa m qc).ownBlock := fun n m => by cases qa <;> rfl
            clear h6 p1 p2
            go_wp2_with (at_builtin; refine wpList_pushQue rfl (.tmp 42) (.tmp 48) rfl w.heap.size _ _ (S' ++ insideD t) rfl Q5a.out [t.fBase] _ 1 rfl N5 hpc hpd ?_)
            intro v7 w7 hq7 hg7 hk7
            have Q7 := Lib.hid (show Que w7 w.heap.size v7 (S' ++ partsD t) by rw [P2.out]; have h9 := hq7; rw [P1.out] at h9; simpa using h9)
            have O7 := Lib.hid ((O5.out.alloc (.cells #[.int .i64 t.fBase] 3)).keep (w' := w7) (fun k hk => hg7.block k (by have := hlo5 k hk; simp; omega) (fun e => Hap5.out k hk ((hqo _ _).trans e.symm))))
            have B7 := Lib.hid ((B5.out.alloc hsz5 (.cells #[.int .i64 t.fBase] 3)).grown hg7 hpd (fun k hk => (hlt5 k ((hqo _ _).trans hk)).1))
            have Hap7 := Lib.hid (show apart (Value.slice oa' m3.length oc') v7 from fun k hk e => by
              have h8 := hlo5 k hk
              rcases hk7 k e with h | h
              · exact Hap5.out k hk ((hqo _ _).trans h)
              · omega)
            have hpl : (partsD t).length = 1 := by rw [P2.out]; rfl
            clear hq7 hg7 hk7 N5
            obtain ⟨qa7, qc7, rfl, _⟩ := Q7.out.slice
            rw [hl3] at O7 Hap7
            go_wp2_with fail
            refine ⟨⟨R.set n true, S' ++ partsD t, m3, Q7.out, O7.out.lower (by omega), Hap7.out, Htake.out, by rw [List.length_set, hR], La.out, by rw [List.length_append]; omega, B7.out⟩, ?_⟩
            simp only [lenV, List.length_append]
            omega
          · have q6 : (t.fKind == 6) = false := beq_eq_false_iff_ne.2 h6
            have q6' : decide (t.fKind = 6) = false := decide_eq_false h6
            have hip := noptr h6
            generalize insideD t = it at *
            subst hip
            have hl5 := Hlen.out
            clear h6
            go_wp2_with fail
            refine ⟨⟨R.set n true, S' ++ partsD t, m3, Q5.out, O5.out.lower (by omega), Hap5.out, Htake.out, by rw [List.length_set, hR], La.out, by rw [List.length_append]; omega, B5.out⟩, ?_⟩
            simp only [lenV, List.length_append]
            omega
end Go.Proofs.Ytjbnabjfeepbeaa
