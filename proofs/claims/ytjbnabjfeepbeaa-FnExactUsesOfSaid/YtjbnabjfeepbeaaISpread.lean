
/-
  What is proved: contracts of the program's spread, with each of its two steps. No condition beside what each theorem states.
-/
import Derived.Test.YtjbnabjfeepbeaaPushAll
import Derived.Deep.MidRow
namespace Go.Proofs.Ytjbnabjfeepbeaa
open Go.ChangeShapes Go.WideShapes Go.ChangeAt Go.RowKit

theorem OwnInts.pop {w : World} {B : Nat} {v : Value} {S : List Int} {x : Int} (h : OwnInts w B v (S ++ [x])) : ∃ g cap, v = .slice (some ⟨g, 0, none⟩) (S.length + 1) cap ∧ S.length + 1 ≤ cap ∧ B ≤ g ∧ g < w.heap.size ∧ cap ≤ maxLen ∧ w.cell? ⟨g, S.length, none⟩ = some (.int .i64 x) ∧ OwnInts w B (.slice (some ⟨g, 0, none⟩) S.length cap) S := by
  obtain ⟨h1, h2⟩ := h
  rcases h2 with ⟨_, h0⟩ | ⟨g, cap, cur, rfl, hb, hg, hc, hm, hs, ht⟩
  · simp at h0
  · have hlen : (S ++ [x]).length = S.length + 1 := by simp
    rw [hlen] at hc ht
    refine ⟨g, cap, by rw [hlen], hc, hb, (Array.getElem?_eq_some_iff.1 hg).1, hm, ?_, ⟨by simp, .inr ⟨g, cap, cur, rfl, hb, hg, by omega, hm, hs, ?_⟩⟩⟩
    · rw [cell_of_row w g _ cur _ _ hg]
      have e := congrArg (·[S.length]?) ht
      simp only [List.getElem?_take, List.map_append, List.getElem?_append_right (show (S.map (Value.int .i64)).length ≤ S.length by simp)] at e
      simpa using e
    · have e := congrArg (List.take S.length) ht
      rw [List.take_take] at e
      simp only [List.map_append] at e
      rw [List.take_left' (by simp)] at e
      simpa [Nat.min_eq_left (show S.length ≤ S.length + 1 by omega)] using e

def boolA (R : List Bool) : Array Value := (R.map Value.bool).toArray
theorem boolA_size (R : List Bool) : (boolA R).size = R.length := by simp [boolA]
theorem boolA_at {R : List Bool} {n : Nat} {b : Bool} (h : R[n]? = some b) : (boolA R)[n]? = some (.bool b) := by simp [boolA, h]
theorem boolA_set (R : List Bool) (n : Nat) (b : Bool) : (boolA R).setIfInBounds n (.bool b) = boolA (R.set n b) := by
  simp [boolA, List.map_set]

theorem OwnInts.keep {w w' : World} {B : Nat} {v : Value} {l : List Int} (h : OwnInts w B v l) (hk : ∀ k, v.ownBlock = some k → w'.heap[k]? = w.heap[k]?) : OwnInts w' B v l :=
  ⟨h.1, h.2.imp id (fun ⟨g, cap, cur, h1, h2, h3, h4⟩ => ⟨g, cap, cur, h1, h2, by rw [hk g (by rw [h1]; rfl)]; exact h3, h4⟩)⟩
theorem OwnInts.below {w w' : World} {B : Nat} {v : Value} {l : List Int} (h : OwnInts w B v l) (hb : Below w.heap.size w w') : OwnInts w' B v l :=
  h.keep (fun k hk => hb.block k (World.ownsRow.lt h k hk).2)

def isNo : Value → Bool
  | .bool false => true
  | _ => false
/-- How many are not yet in the set that lies in block g. -/
def cntW (w : World) (g : Nat) : Nat := match w.heap[g]? with
  | some (.cells cs _ _) => cs.toList.countP isNo
  | _ => 0
def lenV : Value → Nat
  | .slice _ n _ => n
  | _ => 0
theorem cntW_box {w : World} {g : Nat} {t : TypeId} {R : List Bool} (h : Box w g t (boolA R)) : cntW w g = R.count false := by
  unfold Box at h
  unfold cntW
  rw [h]
  simp only [boolA]
  rw [List.countP_map, List.count]
  congr 1
  funext b
  cases b <;> rfl
def zeroB : Array Value := boolA (List.replicate 24 false)

theorem info24 : (Try.prog.info? 110).map (·.size) = some 24 := by kernel_rfl
theorem bools_one (R : List Bool) : (boolA R).all (·.oneCell') = true := by
  simp [boolA, Value.oneCell']
theorem Below.setCells {B : Nat} {a : World} {g : Nat} (hg : B ≤ g) : ∀ (vs : List Value) (o : Nat) {w : World}, Below B a w → Below B a (w.setCells g o vs)
  | [], _, _, h => h
  | v :: vs, o, _, h => Below.setCells hg vs (o + 1) (h.setCell hg v)
theorem results_mid {P : Program} {fn : Func} {p : Tmp} {ty : TypeId} {d : TypeDesc} (h : fn.results = #[.cell p ty]) (hu : P.underlying ty = some d) (hd : d.isRow = true)
    (tmps : Array Value) (w : World) (b o : Nat) (cs : List Value) (hp : tmps.getD p undef = .pointer (some ⟨b, o, none⟩)) (hc : w.rangeAt b o cs) (hi : (P.info? ty).map (·.size) = some cs.length) :
    (results fn tmps).run P w = .ok (.agg cs.toArray) w := by
  have hl := run_loadVar_mid (P := P) w b o ty cs d hc hu hd hi
  rw [Array.getD_eq_getD_getElem?] at hp
  simp only [results, h]
  simp [hp, asAddr, hl]

set_option maxRecDepth 100000 in
set_option maxHeartbeats 8000000 in
theorem iSpreadIn (a : Option Addr) (c : Nat) (l : List TypeD) (sa : Option Addr) (sc : Nat) (st : List Int) (w : World) (hl : l.length ≤ 24) (hr : Rows typeS Any w a l) (hs : Nums w sa st) (hst : st.length ≤ 24) (h0 : ∀ x ∈ st, 0 ≤ x ∧ x < (l.length : Int)) (hf : ∀ t ∈ l, t.fFields.length ≤ 6) (hin : StepsIn l insideD) :
    Calls Try.prog 70 #[.slice a l.length c, .slice sa st.length sc, .func (.func 126) #[] #[]] w fun e w' => ∃ R : List Bool, e = .returned (.agg (boolA R)) ∧ R.length = 24 ∧ (∀ n, R[n]? = some true ↔ Reach l insideD st n) ∧ Below w.heap.size w w' := by
  have Hf := Lib.hid hf
  have Hin := Lib.hid hin
  have Hw0 := Lib.hid (Walk.start (steps := insideD) hl h0)
  have HB := Lib.hid (((Below.refl w.heap.size w).alloc (Nat.le_refl _) (.cells zeroB 110)).alloc (by simp) (.cells zeroB 110))
  have Hr := Lib.hid hr
  have Hs := Lib.hid hs
  clear hr hs hf hin h0
  go_enter Try.func70, Try.ntmps70
  go_wp2_with fail
  refine (iClone sa sc st _ (by omega) (Hs.out.below HB.out)).mono ?_
  rintro e w1 ⟨v1, rfl, hown1, hb1⟩
  have X0 := Lib.hid (((Box.new w 110 zeroB).alloc (.cells zeroB 110)).below hb1 (by simp; omega))
  have X1 := Lib.hid ((Box.new' (w.alloc (.cells zeroB 110)) 110 zeroB (g := w.heap.size + 1) (by simp)).below hb1 (by simp))
  have Ho1 := Lib.hid (hown1.lower (B' := w.heap.size + 2) (by simp))
  have B1 := Lib.hid (HB.out.trans (hb1.mono (by simp; omega)))
  clear hown1 hb1 HB
  go_wp2_with fail
  go_loopw [8] (fun v wr => ∃ R S, OwnInts wr (w.heap.size + 2) v S ∧ Box wr (w.heap.size + 1) 110 (boolA R) ∧ Box wr w.heap.size 110 zeroB ∧ Walk l insideD st R S ∧ R.length = 24 ∧ S.length + 7 * R.count false ≤ 192 ∧ Below w.heap.size w wr) (fun v wr => cntW wr (w.heap.size + 1) * 8 + lenV v)
  case atStart => exact ⟨List.replicate 24 false, st, Ho1.out, X1.out, X0.out, Hw0.out, by simp, by simp; omega, B1.out⟩
  case round =>
    obtain ⟨R, S, hown, hx1, hx0, hw, hR, hlen, hbel⟩ := hrel
    have hcnt := cntW_box hx1
    have Hw := Lib.hid hw
    have Hx0 := Lib.hid hx0
    have Hx1 := Lib.hid hx1
    have Hbel := Lib.hid hbel
    have Ho := Lib.hid hown
    clear hown hx1 hx0 hw hbel
    rcases List.eq_nil_or_concat S with rfl | ⟨S', x, rfl⟩
    · obtain ⟨ba, cc, rfl, _, _⟩ := Ho.out.nums
      have hrange : wr.rangeAt (w.heap.size + 1) 0 (boolA R).toList := fun j v hv => by
        rw [Nat.zero_add, Hx1.out.cell]
        simpa using hv
      have hthere : wr.there w.heap.size 0 (boolA R).toList.toArray.size := fun j hj => by
        rw [Nat.zero_add, Hx0.out.cell]
        simp only [Array.toArray_toList, boolA_size, hR] at hj
        exact ⟨by rw [Array.getElem?_eq_getElem (by simp [zeroB, boolA]; omega)]; rfl, Hx0.out.free j⟩
      have hsz : Option.map (fun x => x.size) (Try.prog.info? 110) = some (boolA R).toList.length := by
        rw [Array.length_toList, boolA_size, hR]; exact info24
      have hsz' : Option.map (fun x => x.size) (Try.prog.info? 110) = some (boolA R).toList.toArray.size := by
        rw [Array.toArray_toList, boolA_size, hR]; exact info24
      have hone : (boolA R).toList.toArray.all (·.oneCell') = true := by rw [Array.toArray_toList]; exact bools_one R
      go_wp2_with (first
        | (refine wpList_load_mid rfl 110 (.tmp 7) rfl (w.heap.size + 1) 0 rfl _ _ hrange Try.underlying110 rfl hsz ?_)
        | (refine wpList_store_mid rfl 110 (.tmp 6) (.tmp 40) rfl w.heap.size 0 _ rfl rfl hthere hsz' hone ?_))
      refine bodyPost_ret (v := .agg (boolA R)) ?_ rfl ⟨R, rfl, hR, Hw.out.done, ?_⟩
      · refine (results_mid rfl Try.underlying110 rfl _ _ w.heap.size 0 (boolA R).toList rfl ?_ hsz).trans ?_
        · have := World.rangeAt_setCells_same wr w.heap.size 0 (boolA R).toList (by simpa using hthere)
          simpa using this
        · simp
      · exact Below.setCells (Nat.le_refl _) _ _ Hbel.out
    · rw [List.concat_eq_append] at *
      obtain ⟨n, rfl, hn, _⟩ := Hw.out.ahead x (by simp)
      obtain ⟨g, cap, rfl, hcap, hgB, hgl, hmx, e0, hpop⟩ := Ho.out.pop
      have Hpop := Lib.hid hpop
      simp only [List.length_append, List.length_singleton] at hlen
      have hS : S'.length ≤ 191 := by omega
      clear hpop
      have hR24 : n < R.length := by omega
      have x1 := Hx1.out.cell n
      rw [boolA_at (List.getElem?_eq_getElem hR24)] at x1
      have f1 := Hx1.out.free n
      have l1 := Hx1.out.lt
      cases hb : R[n] with
      | true =>
        rw [hb] at x1
        have Hw' := Lib.hid (Hw.out.skip (S' := S') (n := n) (fun y => by simp [or_comm]) (by rw [List.getElem?_eq_getElem hR24, hb]))
        generalize hm : S'.length = m at *
        go_wp2_with fail
        exact ⟨⟨R, S', hm ▸ Hpop.out, Hx1.out, Hx0.out, Hw'.out, hR, by omega, Hbel.out⟩, by simp [lenV]⟩
      | false =>
        rw [hb] at x1
        have hbf : R[n]? = some false := by rw [List.getElem?_eq_getElem hR24, hb]
        have hcs := count_set hbf
        have B3 := Hbel.out.setCell (p := ⟨w.heap.size + 1, n, none⟩) (show w.heap.size ≤ w.heap.size + 1 by omega) (.bool true)
        have X1 := Lib.hid (show Box _ _ _ (boolA (R.set n true)) from boolA_set R n true ▸ Hx1.out.set n (.bool true))
        have X0 := Lib.hid (show Box (wr.setCell ⟨w.heap.size + 1, n, none⟩ (.bool true)) w.heap.size 110 zeroB from (Below.heap_setCell wr _ _ _ (by simp)).trans Hx0.out)
        have hs3 : (wr.setCell ⟨w.heap.size + 1, n, none⟩ (.bool true)).heap.size = wr.heap.size := by simp [World.setCell]
        have O3 := Lib.hid (Hpop.out.keep (w' := wr.setCell ⟨w.heap.size + 1, n, none⟩ (.bool true)) (fun k hk => Below.heap_setCell wr _ _ _ (by
          have : g = k := by simpa [Value.ownBlock] using hk
          show k ≠ w.heap.size + 1
          omega)))
        obtain ⟨b, o, cs, rfl, _, hb1, hc1, hat⟩ := Hr.out n hn
        obtain ⟨a3, c3, rfl, hrf, hfc⟩ := hat
        have e0 := (B3.cell (p := ⟨b, o + n * 6 + 0, none⟩) hb1).trans (hc1 0 (by decide))
        have e1 := (B3.cell (p := ⟨b, o + n * 6 + 1, none⟩) hb1).trans (hc1 1 (by decide))
        have e2 := (B3.cell (p := ⟨b, o + n * 6 + 2, none⟩) hb1).trans (hc1 2 (by decide))
        have e3 := (B3.cell (p := ⟨b, o + n * 6 + 3, none⟩) hb1).trans (hc1 3 (by decide))
        have e4 := (B3.cell (p := ⟨b, o + n * 6 + 4, none⟩) hb1).trans (hc1 4 (by decide))
        have e5 := (B3.cell (p := ⟨b, o + n * 6 + 5, none⟩) hb1).trans (hc1 5 (by decide))
        simp at e0 e1 e2 e3 e4 e5
        have Hrf := Lib.hid (hrf.below B3)
        have BB := Lib.hid B3
        have hft := Hf.out l[n] (List.getElem_mem hn)
        have Hlen := Lib.hid (inside_len hft)
        have Htake := Lib.hid (Walk.take (S' := S' ++ insideD l[n]) hn Hw.out Hin.out (fun y hy => by
          simp at hy
          rcases hy with h | h
          · exact .inr (by simp [h])
          · exact .inl h) (fun y hy => by
          simp at hy
          rcases hy with h | h
          · exact .inl (by simp [h])
          · exact .inr h) (fun y hy => by simp [hy]) (by simp))
        clear hc1 hrf B3
        generalize l[n] = t at *
        generalize hm : S'.length = m at *
        go_wp2_with fail
        refine (iInsideOf t a3 c3 _ (by omega) Hrf.out).mono ?_
        rintro e w4 ⟨v4, rfl, hown4, hb4⟩
        obtain ⟨a4, c4, rfl, hc4, hn4⟩ := hown4.nums
        have O4 := Lib.hid (O3.out.below hb4)
        have Y0 := Lib.hid (X0.out.below hb4 X0.out.lt)
        have Y1 := Lib.hid (X1.out.below hb4 X1.out.lt)
        have B4 := Lib.hid (BB.out.trans (hb4.mono BB.out.size))
        have hs4 := hb4.size
        have N4 := Lib.hid hn4
        clear hown4 hb4 hn4
        go_wp2_with (at_builtin; refine wpList_pushAll rfl (.tmp 32) (.tmp 38) rfl (w.heap.size + 2) w4 _ S' ?g1 O4.out (insideD t) a4 c4 rfl N4.out ?g2 ?g3 ?_)
        case g1 => rfl
        case g2 => have := Hlen.out; omega
        case g3 => omega
        intro v5 w5 hown5 hg5 hlt5
        obtain ⟨a5, c5, rfl, hc5, _⟩ := hown5.nums
        have O5 := Lib.hid hown5
        have B5 := Lib.hid (((Below.refl (w.heap.size + 2) w4).grown hg5 (by omega) (fun k hk => (hlt5 k hk).1)))
        have Z0 := Lib.hid (Y0.out.below B5.out (by omega))
        have Z1 := Lib.hid (Y1.out.below B5.out (by omega))
        have B6 := Lib.hid (B4.out.trans (B5.out.mono (by omega)))
        clear hown5 hg5 hlt5
        go_wp2_with fail
        have hl5 := Hlen.out
        refine ⟨⟨R.set n true, S' ++ insideD t, O5.out, Z1.out, Z0.out, Htake.out, by rw [List.length_set, hR], by rw [List.length_append]; omega, B6.out⟩, ?_⟩
        rw [cntW_box Z1.out, hcnt]
        simp only [lenV, List.length_append]
        omega

set_option maxRecDepth 100000 in
set_option maxHeartbeats 8000000 in
theorem iSpreadAll (a : Option Addr) (c : Nat) (l : List TypeD) (sa : Option Addr) (sc : Nat) (st : List Int) (w : World) (hl : l.length ≤ 24) (hr : Rows typeS Any w a l) (hs : Nums w sa st) (hst : st.length ≤ 24) (h0 : ∀ x ∈ st, 0 ≤ x ∧ x < (l.length : Int)) (hf : ∀ t ∈ l, t.fFields.length ≤ 6) (hin : StepsIn l partsD) :
    Calls Try.prog 70 #[.slice a l.length c, .slice sa st.length sc, .func (.func 71) #[] #[]] w fun e w' => ∃ R : List Bool, e = .returned (.agg (boolA R)) ∧ R.length = 24 ∧ (∀ n, R[n]? = some true ↔ Reach l partsD st n) ∧ Below w.heap.size w w' := by
  have Hf := Lib.hid hf
  have Hin := Lib.hid hin
  have Hw0 := Lib.hid (Walk.start (steps := partsD) hl h0)
  have HB := Lib.hid (((Below.refl w.heap.size w).alloc (Nat.le_refl _) (.cells zeroB 110)).alloc (by simp) (.cells zeroB 110))
  have Hr := Lib.hid hr
  have Hs := Lib.hid hs
  clear hr hs hf hin h0
  go_enter Try.func70, Try.ntmps70
  go_wp2_with fail
  refine (iClone sa sc st _ (by omega) (Hs.out.below HB.out)).mono ?_
  rintro e w1 ⟨v1, rfl, hown1, hb1⟩
  have X0 := Lib.hid (((Box.new w 110 zeroB).alloc (.cells zeroB 110)).below hb1 (by simp; omega))
  have X1 := Lib.hid ((Box.new' (w.alloc (.cells zeroB 110)) 110 zeroB (g := w.heap.size + 1) (by simp)).below hb1 (by simp))
  have Ho1 := Lib.hid (hown1.lower (B' := w.heap.size + 2) (by simp))
  have B1 := Lib.hid (HB.out.trans (hb1.mono (by simp; omega)))
  clear hown1 hb1 HB
  go_wp2_with fail
  go_loopw [8] (fun v wr => ∃ R S, OwnInts wr (w.heap.size + 2) v S ∧ Box wr (w.heap.size + 1) 110 (boolA R) ∧ Box wr w.heap.size 110 zeroB ∧ Walk l partsD st R S ∧ R.length = 24 ∧ S.length + 7 * R.count false ≤ 192 ∧ Below w.heap.size w wr) (fun v wr => cntW wr (w.heap.size + 1) * 8 + lenV v)
  case atStart => exact ⟨List.replicate 24 false, st, Ho1.out, X1.out, X0.out, Hw0.out, by simp, by simp; omega, B1.out⟩
  case round =>
    obtain ⟨R, S, hown, hx1, hx0, hw, hR, hlen, hbel⟩ := hrel
    have hcnt := cntW_box hx1
    have Hw := Lib.hid hw
    have Hx0 := Lib.hid hx0
    have Hx1 := Lib.hid hx1
    have Hbel := Lib.hid hbel
    have Ho := Lib.hid hown
    clear hown hx1 hx0 hw hbel
    rcases List.eq_nil_or_concat S with rfl | ⟨S', x, rfl⟩
    · obtain ⟨ba, cc, rfl, _, _⟩ := Ho.out.nums
      have hrange : wr.rangeAt (w.heap.size + 1) 0 (boolA R).toList := fun j v hv => by
        rw [Nat.zero_add, Hx1.out.cell]
        simpa using hv
      have hthere : wr.there w.heap.size 0 (boolA R).toList.toArray.size := fun j hj => by
        rw [Nat.zero_add, Hx0.out.cell]
        simp only [Array.toArray_toList, boolA_size, hR] at hj
        exact ⟨by rw [Array.getElem?_eq_getElem (by simp [zeroB, boolA]; omega)]; rfl, Hx0.out.free j⟩
      have hsz : Option.map (fun x => x.size) (Try.prog.info? 110) = some (boolA R).toList.length := by
        rw [Array.length_toList, boolA_size, hR]; exact info24
      have hsz' : Option.map (fun x => x.size) (Try.prog.info? 110) = some (boolA R).toList.toArray.size := by
        rw [Array.toArray_toList, boolA_size, hR]; exact info24
      have hone : (boolA R).toList.toArray.all (·.oneCell') = true := by rw [Array.toArray_toList]; exact bools_one R
      go_wp2_with (first
        | (refine wpList_load_mid rfl 110 (.tmp 7) rfl (w.heap.size + 1) 0 rfl _ _ hrange Try.underlying110 rfl hsz ?_)
        | (refine wpList_store_mid rfl 110 (.tmp 6) (.tmp 40) rfl w.heap.size 0 _ rfl rfl hthere hsz' hone ?_))
      refine bodyPost_ret (v := .agg (boolA R)) ?_ rfl ⟨R, rfl, hR, Hw.out.done, ?_⟩
      · refine (results_mid rfl Try.underlying110 rfl _ _ w.heap.size 0 (boolA R).toList rfl ?_ hsz).trans ?_
        · have := World.rangeAt_setCells_same wr w.heap.size 0 (boolA R).toList (by simpa using hthere)
          simpa using this
        · simp
      · exact Below.setCells (Nat.le_refl _) _ _ Hbel.out
    · rw [List.concat_eq_append] at *
      obtain ⟨n, rfl, hn, _⟩ := Hw.out.ahead x (by simp)
      obtain ⟨g, cap, rfl, hcap, hgB, hgl, hmx, e0, hpop⟩ := Ho.out.pop
      have Hpop := Lib.hid hpop
      simp only [List.length_append, List.length_singleton] at hlen
      have hS : S'.length ≤ 191 := by omega
      clear hpop
      have hR24 : n < R.length := by omega
      have x1 := Hx1.out.cell n
      rw [boolA_at (List.getElem?_eq_getElem hR24)] at x1
      have f1 := Hx1.out.free n
      have l1 := Hx1.out.lt
      cases hb : R[n] with
      | true =>
        rw [hb] at x1
        have Hw' := Lib.hid (Hw.out.skip (S' := S') (n := n) (fun y => by simp [or_comm]) (by rw [List.getElem?_eq_getElem hR24, hb]))
        generalize hm : S'.length = m at *
        go_wp2_with fail
        exact ⟨⟨R, S', hm ▸ Hpop.out, Hx1.out, Hx0.out, Hw'.out, hR, by omega, Hbel.out⟩, by simp [lenV]⟩
      | false =>
        rw [hb] at x1
        have hbf : R[n]? = some false := by rw [List.getElem?_eq_getElem hR24, hb]
        have hcs := count_set hbf
        have B3 := Hbel.out.setCell (p := ⟨w.heap.size + 1, n, none⟩) (show w.heap.size ≤ w.heap.size + 1 by omega) (.bool true)
        have X1 := Lib.hid (show Box _ _ _ (boolA (R.set n true)) from boolA_set R n true ▸ Hx1.out.set n (.bool true))
        have X0 := Lib.hid (show Box (wr.setCell ⟨w.heap.size + 1, n, none⟩ (.bool true)) w.heap.size 110 zeroB from (Below.heap_setCell wr _ _ _ (by simp)).trans Hx0.out)
        have hs3 : (wr.setCell ⟨w.heap.size + 1, n, none⟩ (.bool true)).heap.size = wr.heap.size := by simp [World.setCell]
        have O3 := Lib.hid (Hpop.out.keep (w' := wr.setCell ⟨w.heap.size + 1, n, none⟩ (.bool true)) (fun k hk => Below.heap_setCell wr _ _ _ (by
          have : g = k := by simpa [Value.ownBlock] using hk
          show k ≠ w.heap.size + 1
          omega)))
        obtain ⟨b, o, cs, rfl, _, hb1, hc1, hat⟩ := Hr.out n hn
        obtain ⟨a3, c3, rfl, hrf, hfc⟩ := hat
        have e0 := (B3.cell (p := ⟨b, o + n * 6 + 0, none⟩) hb1).trans (hc1 0 (by decide))
        have e1 := (B3.cell (p := ⟨b, o + n * 6 + 1, none⟩) hb1).trans (hc1 1 (by decide))
        have e2 := (B3.cell (p := ⟨b, o + n * 6 + 2, none⟩) hb1).trans (hc1 2 (by decide))
        have e3 := (B3.cell (p := ⟨b, o + n * 6 + 3, none⟩) hb1).trans (hc1 3 (by decide))
        have e4 := (B3.cell (p := ⟨b, o + n * 6 + 4, none⟩) hb1).trans (hc1 4 (by decide))
        have e5 := (B3.cell (p := ⟨b, o + n * 6 + 5, none⟩) hb1).trans (hc1 5 (by decide))
        simp at e0 e1 e2 e3 e4 e5
        have Hrf := Lib.hid (hrf.below B3)
        have BB := Lib.hid B3
        have hft := Hf.out l[n] (List.getElem_mem hn)
        have Hlen := Lib.hid (parts_len hft)
        have Htake := Lib.hid (Walk.take (S' := S' ++ partsD l[n]) hn Hw.out Hin.out (fun y hy => by
          simp at hy
          rcases hy with h | h
          · exact .inr (by simp [h])
          · exact .inl h) (fun y hy => by
          simp at hy
          rcases hy with h | h
          · exact .inl (by simp [h])
          · exact .inr h) (fun y hy => by simp [hy]) (by simp))
        clear hc1 hrf B3
        generalize l[n] = t at *
        generalize hm : S'.length = m at *
        go_wp2_with fail
        refine (iPartsOf t a3 c3 _ (by omega) Hrf.out).mono ?_
        rintro e w4 ⟨v4, rfl, hown4, hb4⟩
        obtain ⟨a4, c4, rfl, hc4, hn4⟩ := hown4.nums
        have O4 := Lib.hid (O3.out.below hb4)
        have Y0 := Lib.hid (X0.out.below hb4 X0.out.lt)
        have Y1 := Lib.hid (X1.out.below hb4 X1.out.lt)
        have B4 := Lib.hid (BB.out.trans (hb4.mono BB.out.size))
        have hs4 := hb4.size
        have N4 := Lib.hid hn4
        clear hown4 hb4 hn4
        go_wp2_with (at_builtin; refine wpList_pushAll rfl (.tmp 32) (.tmp 38) rfl (w.heap.size + 2) w4 _ S' ?g1 O4.out (partsD t) a4 c4 rfl N4.out ?g2 ?g3 ?_)
        case g1 => rfl
        case g2 => have := Hlen.out; omega
        case g3 => omega
        intro v5 w5 hown5 hg5 hlt5
        obtain ⟨a5, c5, rfl, hc5, _⟩ := hown5.nums
        have O5 := Lib.hid hown5
        have B5 := Lib.hid (((Below.refl (w.heap.size + 2) w4).grown hg5 (by omega) (fun k hk => (hlt5 k hk).1)))
        have Z0 := Lib.hid (Y0.out.below B5.out (by omega))
        have Z1 := Lib.hid (Y1.out.below B5.out (by omega))
        have B6 := Lib.hid (B4.out.trans (B5.out.mono (by omega)))
        clear hown5 hg5 hlt5
        go_wp2_with fail
        have hl5 := Hlen.out
        refine ⟨⟨R.set n true, S' ++ partsD t, O5.out, Z1.out, Z0.out, Htake.out, by rw [List.length_set, hR], by rw [List.length_append]; omega, B6.out⟩, ?_⟩
        rw [cntW_box Z1.out, hcnt]
        simp only [lenV, List.length_append]
        omega
end Go.Proofs.Ytjbnabjfeepbeaa
