
/-
  What is proved: contracts of the program's spread, with each of its two steps; a row of numbers of the call's own that is taken from in front and appended to behind: what it is, and append on it. No condition beside what each theorem states.
-/
import Derived.Test.YtllddjmcemcdhaaGreatPushAll
import Derived.Deep.MidRow
namespace Go.Proofs.YtllddjmcemcdhaaGreat
open Go.ChangeShapes Go.WideShapes Go.ChangeAt Go.RowKit

theorem OwnInts.pop {w : World} {B : Nat} {v : Value} {S : List Int} {x : Int} (h : OwnInts w B v (S ++ [x])) : ∃ g cap, v = .slice (some ⟨g, 0, none⟩) (S.length + 1) cap ∧ S.length + 1 ≤ cap ∧ B ≤ g ∧ g < w.heap.size ∧ cap ≤ maxLen ∧ w.cell? ⟨g, S.length, none⟩ = some (.int .i64 x) ∧ OwnInts w B (.slice (some ⟨g, 0, none⟩) S.length cap) S := by
  obtain ⟨h1, h2⟩ := h
  rcases h2 with ⟨_, h0⟩ | ⟨g, cap, cur, rfl, hb, hg, hc, hm, hs, ht⟩
  · simp at h0
  · have hlen : (S ++ [x]).length = S.length + 1 := by simp
    rw [hlen] at hc ht
    refine ⟨g, cap, by rw [hlen], hc, hb, (Array.getElem?_eq_some_iff.1 hg).1, hm, ?_, ⟨by simp, .inr ⟨g, cap, cur, rfl, hb, hg, by omega, hm, hs, ?_⟩⟩⟩
    · rw [cell_of_row w g _ cur _ _ hg]
      have e := congrArg (·[S.length]?) ht
      simp only [List.getElem?_take, List.map_append, List.getElem?_append_right (show (S.map (Value.int .i64)).length ≤ S.length by simp)] at e
      simpa using e
    · have e := congrArg (List.take S.length) ht
      rw [List.take_take] at e
      simp only [List.map_append] at e
      rw [List.take_left' (by simp)] at e
      simpa [Nat.min_eq_left (show S.length ≤ S.length + 1 by omega)] using e

def boolA (R : List Bool) : Array Value := (R.map Value.bool).toArray
theorem boolA_size (R : List Bool) : (boolA R).size = R.length := by simp [boolA]
theorem boolA_at {R : List Bool} {n : Nat} {b : Bool} (h : R[n]? = some b) : (boolA R)[n]? = some (.bool b) := by simp [boolA, h]
theorem boolA_set (R : List Bool) (n : Nat) (b : Bool) : (boolA R).setIfInBounds n (.bool b) = boolA (R.set n b) := by
  simp [boolA, List.map_set]

theorem OwnInts.keep {w w' : World} {B : Nat} {v : Value} {l : List Int} (h : OwnInts w B v l) (hk : ∀ k, v.ownBlock = some k → w'.heap[k]? = w.heap[k]?) : OwnInts w' B v l :=
  ⟨h.1, h.2.imp id (fun ⟨g, cap, cur, h1, h2, h3, h4⟩ => ⟨g, cap, cur, h1, h2, by rw [hk g (by rw [h1]; rfl)]; exact h3, h4⟩)⟩
theorem OwnInts.below {w w' : World} {B : Nat} {v : Value} {l : List Int} (h : OwnInts w B v l) (hb : Below w.heap.size w w') : OwnInts w' B v l :=
  h.keep (fun k hk => hb.block k (World.ownsRow.lt h k hk).2)

def isNo : Value → Bool
  | .bool false => true
  | _ => false
/-- How many are not yet in the set that lies in block g. -/
def cntW (w : World) (g : Nat) : Nat := match w.heap[g]? with
  | some (.cells cs _ _) => cs.toList.countP isNo
  | _ => 0
def lenV : Value → Nat
  | .slice _ n _ => n
  | _ => 0
theorem cntW_box {w : World} {g : Nat} {t : TypeId} {R : List Bool} (h : Box w g t (boolA R)) : cntW w g = R.count false := by
  unfold Box at h
  unfold cntW
  rw [h]
  simp only [boolA]
  rw [List.countP_map, List.count]
  congr 1
  funext b
  cases b <;> rfl
def zeroB : Array Value := boolA (List.replicate 24 false)

theorem info24 : (Tryz.prog.info? 166).map (·.size) = some 24 := by kernel_rfl
theorem bools_one (R : List Bool) : (boolA R).all (·.oneCell') = true := by
  simp [boolA, Value.oneCell']
theorem Below.setCells {B : Nat} {a : World} {g : Nat} (hg : B ≤ g) : ∀ (vs : List Value) (o : Nat) {w : World}, Below B a w → Below B a (w.setCells g o vs)
  | [], _, _, h => h
  | v :: vs, o, _, h => Below.setCells hg vs (o + 1) (h.setCell hg v)
theorem results_mid {P : Program} {fn : Func} {p : Tmp} {ty : TypeId} {d : TypeDesc} (h : fn.results = #[.cell p ty]) (hu : P.underlying ty = some d) (hd : d.isRow = true)
    (tmps : Array Value) (w : World) (b o : Nat) (cs : List Value) (hp : tmps.getD p undef = .pointer (some ⟨b, o, none⟩)) (hc : w.rangeAt b o cs) (hi : (P.info? ty).map (·.size) = some cs.length) :
    (results fn tmps).run P w = .ok (.agg cs.toArray) w := by
  have hl := run_loadVar_mid (P := P) w b o ty cs d hc hu hd hi
  rw [Array.getD_eq_getD_getElem?] at hp
  simp only [results, h]
  simp [hp, asAddr, hl]

set_option maxRecDepth 100000 in
set_option maxHeartbeats 8000000 in
theorem iSpreadIn (a : Option Addr) (c : Nat) (l : List TypeD) (sa : Option Addr) (sc : Nat) (st : List Int) (w : World) (hl : l.length ≤ 24) (hr : Rows typeS Any w a l) (hs : Nums w sa st) (hst : st.length ≤ 24) (h0 : ∀ x ∈ st, 0 ≤ x ∧ x < (l.length : Int)) (hf : ∀ t ∈ l, t.fFields.length ≤ 6) (hin : StepsIn l insideD) :
    Calls Tryz.prog 103 #[.slice a l.length c, .slice sa st.length sc, .func (.func 104) #[] #[]] w fun e w' => ∃ R : List Bool, e = .returned (.agg (boolA R)) ∧ R.length = 24 ∧ (∀ n, R[n]? = some true ↔ Reach l insideD st n) ∧ Below w.heap.size w w' := by
  have Hf := Lib.hid hf
  have Hin := Lib.hid hin
  have Hw0 := Lib.hid (Walk.start (steps := insideD) hl h0)
  have HB := Lib.hid (((Below.refl w.heap.size w).alloc (Nat.le_refl _) (.cells zeroB 166)).alloc (by simp) (.cells zeroB 166))
  have Hr := Lib.hid hr
  have Hs := Lib.hid hs
  clear hr hs hf hin h0
  go_enter Tryz.func103, Tryz.ntmps103
  go_wp2_with fail
  refine (iClone sa sc st _ (by omega) (Hs.out.below HB.out)).mono ?_
  rintro e w1 ⟨v1, rfl, hown1, hb1⟩
  have X0 := Lib.hid (((Box.new w 166 zeroB).alloc (.cells zeroB 166)).below hb1 (by simp; omega))
  have X1 := Lib.hid ((Box.new' (w.alloc (.cells zeroB 166)) 166 zeroB (g := w.heap.size + 1) (by simp)).below hb1 (by simp))
  have Ho1 := Lib.hid (hown1.lower (B' := w.heap.size + 2) (by simp))
  have B1 := Lib.hid (HB.out.trans (hb1.mono (by simp; omega)))
  clear hown1 hb1 HB
  go_wp2_with fail
  go_loopw [8] (fun v wr => ∃ R S, OwnInts wr (w.heap.size + 2) v S ∧ Box wr (w.heap.size + 1) 166 (boolA R) ∧ Box wr w.heap.size 166 zeroB ∧ Walk l insideD st R S ∧ R.length = 24 ∧ S.length + 7 * R.count false ≤ 192 ∧ Below w.heap.size w wr) (fun v wr => cntW wr (w.heap.size + 1) * 8 + lenV v)
  case atStart => exact ⟨List.replicate 24 false, st, Ho1.out, X1.out, X0.out, Hw0.out, by simp, by simp; omega, B1.out⟩
  case round =>
    obtain ⟨R, S, hown, hx1, hx0, hw, hR, hlen, hbel⟩ := hrel
    have hcnt := cntW_box hx1
    have Hw := Lib.hid hw
    have Hx0 := Lib.hid hx0
    have Hx1 := Lib.hid hx1
    have Hbel := Lib.hid hbel
    have Ho := Lib.hid hown
    clear hown hx1 hx0 hw hbel
    rcases List.eq_nil_or_concat S with rfl | ⟨S', x, rfl⟩
    · obtain ⟨ba, cc, rfl, _, _⟩ := Ho.out.nums
      have hrange : wr.rangeAt (w.heap.size + 1) 0 (boolA R).toList := fun j v hv => by
        rw [Nat.zero_add, Hx1.out.cell]
        simpa using hv
      have hthere : wr.there w.heap.size 0 (boolA R).toList.toArray.size := fun j hj => by
        rw [Nat.zero_add, Hx0.out.cell]
        simp only [Array.toArray_toList, boolA_size, hR] at hj
        exact ⟨by rw [Array.getElem?_eq_getElem (by simp [zeroB, boolA]; omega)]; rfl, Hx0.out.free j⟩
      have hsz : Option.map (fun x => x.size) (Tryz.prog.info? 166) = some (boolA R).toList.length := by
        rw [Array.length_toList, boolA_size, hR]; exact info24
      have hsz' : Option.map (fun x => x.size) (Tryz.prog.info? 166) = some (boolA R).toList.toArray.size := by
        rw [Array.toArray_toList, boolA_size, hR]; exact info24
      have hone : (boolA R).toList.toArray.all (·.oneCell') = true := by rw [Array.toArray_toList]; exact bools_one R
      go_wp2_with (first
        | (refine wpList_load_mid rfl 166 (.tmp 7) rfl (w.heap.size + 1) 0 rfl _ _ hrange Tryz.underlying166 rfl hsz ?_)
        | (refine wpList_store_mid rfl 166 (.tmp 6) (.tmp 40) rfl w.heap.size 0 _ rfl rfl hthere hsz' hone ?_))
      refine bodyPost_ret (v := .agg (boolA R)) ?_ rfl ⟨R, rfl, hR, Hw.out.done, ?_⟩
      · refine (results_mid rfl Tryz.underlying166 rfl _ _ w.heap.size 0 (boolA R).toList rfl ?_ hsz).trans ?_
        · have := World.rangeAt_setCells_same wr w.heap.size 0 (boolA R).toList (by simpa using hthere)
          simpa using this
        · simp
      · exact Below.setCells (Nat.le_refl _) _ _ Hbel.out
    · rw [List.concat_eq_append] at *
      obtain ⟨n, rfl, hn, _⟩ := Hw.out.ahead x (by simp)
      obtain ⟨g, cap, rfl, hcap, hgB, hgl, hmx, e0, hpop⟩ := Ho.out.pop
      have Hpop := Lib.hid hpop
      simp only [List.length_append, List.length_singleton] at hlen
      have hS : S'.length ≤ 191 := by omega
      clear hpop
      have hR24 : n < R.length := by omega
      have x1 := Hx1.out.cell n
      rw [boolA_at (List.getElem?_eq_getElem hR24)] at x1
      have f1 := Hx1.out.free n
      have l1 := Hx1.out.lt
      cases hb : R[n] with
      | true =>
        rw [hb] at x1
        have Hw' := Lib.hid (Hw.out.skip (S' := S') (n := n) (fun y => by simp [or_comm]) (by rw [List.getElem?_eq_getElem hR24, hb]))
        generalize hm : S'.length = m at *
        go_wp2_with fail
        exact ⟨⟨R, S', hm ▸ Hpop.out, Hx1.out, Hx0.out, Hw'.out, hR, by omega, Hbel.out⟩, by simp [lenV]⟩
      | false =>
        rw [hb] at x1
        have hbf : R[n]? = some false := by rw [List.getElem?_eq_getElem hR24, hb]
        have hcs := count_set hbf
        have B3 := Hbel.out.setCell (p := ⟨w.heap.size + 1, n, none⟩) (show w.heap.size ≤ w.heap.size + 1 by omega) (.bool true)
        have X1 := Lib.hid (show Box _ _ _ (boolA (R.set n true)) from boolA_set R n true ▸ Hx1.out.set n (.bool true))
        have X0 := Lib.hid (show Box (wr.setCell ⟨w.heap.size + 1, n, none⟩ (.bool true)) w.heap.size 166 zeroB from (Below.heap_setCell wr _ _ _ (by simp)).trans Hx0.out)
        have hs3 : (wr.setCell ⟨w.heap.size + 1, n, none⟩ (.bool true)).heap.size = wr.heap.size := by simp [World.setCell]
        have O3 := Lib.hid (Hpop.out.keep (w' := wr.setCell ⟨w.heap.size + 1, n, none⟩ (.bool true)) (fun k hk => Below.heap_setCell wr _ _ _ (by
          have : g = k := by simpa [Value.ownBlock] using hk
          show k ≠ w.heap.size + 1
          omega)))
        obtain ⟨b, o, cs, rfl, _, hb1, hc1, hat⟩ := Hr.out n hn
        obtain ⟨a3, c3, rfl, hrf, hfc⟩ := hat
        have e0 := (B3.cell (p := ⟨b, o + n * 6 + 0, none⟩) hb1).trans (hc1 0 (by decide))
        have e1 := (B3.cell (p := ⟨b, o + n * 6 + 1, none⟩) hb1).trans (hc1 1 (by decide))
        have e2 := (B3.cell (p := ⟨b, o + n * 6 + 2, none⟩) hb1).trans (hc1 2 (by decide))
        have e3 := (B3.cell (p := ⟨b, o + n * 6 + 3, none⟩) hb1).trans (hc1 3 (by decide))
        have e4 := (B3.cell (p := ⟨b, o + n * 6 + 4, none⟩) hb1).trans (hc1 4 (by decide))
        have e5 := (B3.cell (p := ⟨b, o + n * 6 + 5, none⟩) hb1).trans (hc1 5 (by decide))
        simp at e0 e1 e2 e3 e4 e5
        have Hrf := Lib.hid (hrf.below B3)
        have BB := Lib.hid B3
        have hft := Hf.out l[n] (List.getElem_mem hn)
        have Hlen := Lib.hid (inside_len hft)
        have Htake := Lib.hid (Walk.take (S' := S' ++ insideD l[n]) hn Hw.out Hin.out (fun y hy => by
          simp at hy
          rcases hy with h | h
          · exact .inr (by simp [h])
          · exact .inl h) (fun y hy => by
          simp at hy
          rcases hy with h | h
          · exact .inl (by simp [h])
          · exact .inr h) (fun y hy => by simp [hy]) (by simp))
        clear hc1 hrf B3
        generalize l[n] = t at *
        generalize hm : S'.length = m at *
        go_wp2_with fail
        refine (iInsideOf t a3 c3 _ (by omega) Hrf.out).mono ?_
        rintro e w4 ⟨v4, rfl, hown4, hb4⟩
        obtain ⟨a4, c4, rfl, hc4, hn4⟩ := hown4.nums
        have O4 := Lib.hid (O3.out.below hb4)
        have Y0 := Lib.hid (X0.out.below hb4 X0.out.lt)
        have Y1 := Lib.hid (X1.out.below hb4 X1.out.lt)
        have B4 := Lib.hid (BB.out.trans (hb4.mono BB.out.size))
        have hs4 := hb4.size
        have N4 := Lib.hid hn4
        clear hown4 hb4 hn4
        go_wp2_with (at_builtin; refine wpList_pushAll rfl (.tmp 32) (.tmp 38) rfl (w.heap.size + 2) w4 _ S' ?g1 O4.out (insideD t) a4 c4 rfl N4.out ?g2 ?g3 ?_)
        case g1 => rfl
        case g2 => have := Hlen.out; omega
        case g3 => omega
        intro v5 w5 hown5 hg5 hlt5
        obtain ⟨a5, c5, rfl, hc5, _⟩ := hown5.nums
        have O5 := Lib.hid hown5
        have B5 := Lib.hid (((Below.refl (w.heap.size + 2) w4).grown hg5 (by omega) (fun k hk => (hlt5 k hk).1)))
        have Z0 := Lib.hid (Y0.out.below B5.out (by omega))
        have Z1 := Lib.hid (Y1.out.below B5.out (by omega))
        have B6 := Lib.hid (B4.out.trans (B5.out.mono (by omega)))
        clear hown5 hg5 hlt5
        go_wp2_with fail
        have hl5 := Hlen.out
        refine ⟨⟨R.set n true, S' ++ insideD t, O5.out, Z1.out, Z0.out, Htake.out, by rw [List.length_set, hR], by rw [List.length_append]; omega, B6.out⟩, ?_⟩
        rw [cntW_box Z1.out, hcnt]
        simp only [lenV, List.length_append]
        omega

set_option maxRecDepth 100000 in
set_option maxHeartbeats 8000000 in
theorem iSpreadAll (a : Option Addr) (c : Nat) (l : List TypeD) (sa : Option Addr) (sc : Nat) (st : List Int) (w : World) (hl : l.length ≤ 24) (hr : Rows typeS Any w a l) (hs : Nums w sa st) (hst : st.length ≤ 24) (h0 : ∀ x ∈ st, 0 ≤ x ∧ x < (l.length : Int)) (hf : ∀ t ∈ l, t.fFields.length ≤ 6) (hin : StepsIn l partsD) :
    Calls Tryz.prog 103 #[.slice a l.length c, .slice sa st.length sc, .func (.func 122) #[] #[]] w fun e w' => ∃ R : List Bool, e = .returned (.agg (boolA R)) ∧ R.length = 24 ∧ (∀ n, R[n]? = some true ↔ Reach l partsD st n) ∧ Below w.heap.size w w' := by
  have Hf := Lib.hid hf
  have Hin := Lib.hid hin
  have Hw0 := Lib.hid (Walk.start (steps := partsD) hl h0)
  have HB := Lib.hid (((Below.refl w.heap.size w).alloc (Nat.le_refl _) (.cells zeroB 166)).alloc (by simp) (.cells zeroB 166))
  have Hr := Lib.hid hr
  have Hs := Lib.hid hs
  clear hr hs hf hin h0
  go_enter Tryz.func103, Tryz.ntmps103
  go_wp2_with fail
  refine (iClone sa sc st _ (by omega) (Hs.out.below HB.out)).mono ?_
  rintro e w1 ⟨v1, rfl, hown1, hb1⟩
  have X0 := Lib.hid (((Box.new w 166 zeroB).alloc (.cells zeroB 166)).below hb1 (by simp; omega))
  have X1 := Lib.hid ((Box.new' (w.alloc (.cells zeroB 166)) 166 zeroB (g := w.heap.size + 1) (by simp)).below hb1 (by simp))
  have Ho1 := Lib.hid (hown1.lower (B' := w.heap.size + 2) (by simp))
  have B1 := Lib.hid (HB.out.trans (hb1.mono (by simp; omega)))
  clear hown1 hb1 HB
  go_wp2_with fail
  go_loopw [8] (fun v wr => ∃ R S, OwnInts wr (w.heap.size + 2) v S ∧ Box wr (w.heap.size + 1) 166 (boolA R) ∧ Box wr w.heap.size 166 zeroB ∧ Walk l partsD st R S ∧ R.length = 24 ∧ S.length + 7 * R.count false ≤ 192 ∧ Below w.heap.size w wr) (fun v wr => cntW wr (w.heap.size + 1) * 8 + lenV v)
  case atStart => exact ⟨List.replicate 24 false, st, Ho1.out, X1.out, X0.out, Hw0.out, by simp, by simp; omega, B1.out⟩
  case round =>
    obtain ⟨R, S, hown, hx1, hx0, hw, hR, hlen, hbel⟩ := hrel
    have hcnt := cntW_box hx1
    have Hw := Lib.hid hw
    have Hx0 := Lib.hid hx0
    have Hx1 := Lib.hid hx1
    have Hbel := Lib.hid hbel
    have Ho := Lib.hid hown
    clear hown hx1 hx0 hw hbel
    rcases List.eq_nil_or_concat S with rfl | ⟨S', x, rfl⟩
    · obtain ⟨ba, cc, rfl, _, _⟩ := Ho.out.nums
      have hrange : wr.rangeAt (w.heap.size + 1) 0 (boolA R).toList := fun j v hv => by
        rw [Nat.zero_add, Hx1.out.cell]
        simpa using hv
      have hthere : wr.there w.heap.size 0 (boolA R).toList.toArray.size := fun j hj => by
        rw [Nat.zero_add, Hx0.out.cell]
        simp only [Array.toArray_toList, boolA_size, hR] at hj
        exact ⟨by rw [Array.getElem?_eq_getElem (by simp [zeroB, boolA]; omega)]; rfl, Hx0.out.free j⟩
      have hsz : Option.map (fun x => x.size) (Tryz.prog.info? 166) = some (boolA R).toList.length := by
        rw [Array.length_toList, boolA_size, hR]; exact info24
      have hsz' : Option.map (fun x => x.size) (Tryz.prog.info? 166) = some (boolA R).toList.toArray.size := by
        rw [Array.toArray_toList, boolA_size, hR]; exact info24
      have hone : (boolA R).toList.toArray.all (·.oneCell') = true := by rw [Array.toArray_toList]; exact bools_one R
      go_wp2_with (first
        | (refine wpList_load_mid rfl 166 (.tmp 7) rfl (w.heap.size + 1) 0 rfl _ _ hrange Tryz.underlying166 rfl hsz ?_)
        | (refine wpList_store_mid rfl 166 (.tmp 6) (.tmp 40) rfl w.heap.size 0 _ rfl rfl hthere hsz' hone ?_))
      refine bodyPost_ret (v := .agg (boolA R)) ?_ rfl ⟨R, rfl, hR, Hw.out.done, ?_⟩
      · refine (results_mid rfl Tryz.underlying166 rfl _ _ w.heap.size 0 (boolA R).toList rfl ?_ hsz).trans ?_
        · have := World.rangeAt_setCells_same wr w.heap.size 0 (boolA R).toList (by simpa using hthere)
          simpa using this
        · simp
      · exact Below.setCells (Nat.le_refl _) _ _ Hbel.out
    · rw [List.concat_eq_append] at *
      obtain ⟨n, rfl, hn, _⟩ := Hw.out.ahead x (by simp)
      obtain ⟨g, cap, rfl, hcap, hgB, hgl, hmx, e0, hpop⟩ := Ho.out.pop
      have Hpop := Lib.hid hpop
      simp only [List.length_append, List.length_singleton] at hlen
      have hS : S'.length ≤ 191 := by omega
      clear hpop
      have hR24 : n < R.length := by omega
      have x1 := Hx1.out.cell n
      rw [boolA_at (List.getElem?_eq_getElem hR24)] at x1
      have f1 := Hx1.out.free n
      have l1 := Hx1.out.lt
      cases hb : R[n] with
      | true =>
        rw [hb] at x1
        have Hw' := Lib.hid (Hw.out.skip (S' := S') (n := n) (fun y => by simp [or_comm]) (by rw [List.getElem?_eq_getElem hR24, hb]))
        generalize hm : S'.length = m at *
        go_wp2_with fail
        exact ⟨⟨R, S', hm ▸ Hpop.out, Hx1.out, Hx0.out, Hw'.out, hR, by omega, Hbel.out⟩, by simp [lenV]⟩
      | false =>
        rw [hb] at x1
        have hbf : R[n]? = some false := by rw [List.getElem?_eq_getElem hR24, hb]
        have hcs := count_set hbf
        have B3 := Hbel.out.setCell (p := ⟨w.heap.size + 1, n, none⟩) (show w.heap.size ≤ w.heap.size + 1 by omega) (.bool true)
        have X1 := Lib.hid (show Box _ _ _ (boolA (R.set n true)) from boolA_set R n true ▸ Hx1.out.set n (.bool true))
        have X0 := Lib.hid (show Box (wr.setCell ⟨w.heap.size + 1, n, none⟩ (.bool true)) w.heap.size 166 zeroB from (Below.heap_setCell wr _ _ _ (by simp)).trans Hx0.out)
        have hs3 : (wr.setCell ⟨w.heap.size + 1, n, none⟩ (.bool true)).heap.size = wr.heap.size := by simp [World.setCell]
        have O3 := Lib.hid (Hpop.out.keep (w' := wr.setCell ⟨w.heap.size + 1, n, none⟩ (.bool true)) (fun k hk => Below.heap_setCell wr _ _ _ (by
          have : g = k := by simpa [Value.ownBlock] using hk
          show k ≠ w.heap.size + 1
          omega)))
        obtain ⟨b, o, cs, rfl, _, hb1, hc1, hat⟩ := Hr.out n hn
        obtain ⟨a3, c3, rfl, hrf, hfc⟩ := hat
        have e0 := (B3.cell (p := ⟨b, o + n * 6 + 0, none⟩) hb1).trans (hc1 0 (by decide))
        have e1 := (B3.cell (p := ⟨b, o + n * 6 + 1, none⟩) hb1).trans (hc1 1 (by decide))
        have e2 := (B3.cell (p := ⟨b, o + n * 6 + 2, none⟩) hb1).trans (hc1 2 (by decide))
        have e3 := (B3.cell (p := ⟨b, o + n * 6 + 3, none⟩) hb1).trans (hc1 3 (by decide))
        have e4 := (B3.cell (p := ⟨b, o + n * 6 + 4, none⟩) hb1).trans (hc1 4 (by decide))
        have e5 := (B3.cell (p := ⟨b, o + n * 6 + 5, none⟩) hb1).trans (hc1 5 (by decide))
        simp at e0 e1 e2 e3 e4 e5
        have Hrf := Lib.hid (hrf.below B3)
        have BB := Lib.hid B3
        have hft := Hf.out l[n] (List.getElem_mem hn)
        have Hlen := Lib.hid (parts_len hft)
        have Htake := Lib.hid (Walk.take (S' := S' ++ partsD l[n]) hn Hw.out Hin.out (fun y hy => by
          simp at hy
          rcases hy with h | h
          · exact .inr (by simp [h])
          · exact .inl h) (fun y hy => by
          simp at hy
          rcases hy with h | h
          · exact .inl (by simp [h])
          · exact .inr h) (fun y hy => by simp [hy]) (by simp))
        clear hc1 hrf B3
        generalize l[n] = t at *
        generalize hm : S'.length = m at *
        go_wp2_with fail
        refine (iPartsOf t a3 c3 _ (by omega) Hrf.out).mono ?_
        rintro e w4 ⟨v4, rfl, hown4, hb4⟩
        obtain ⟨a4, c4, rfl, hc4, hn4⟩ := hown4.nums
        have O4 := Lib.hid (O3.out.below hb4)
        have Y0 := Lib.hid (X0.out.below hb4 X0.out.lt)
        have Y1 := Lib.hid (X1.out.below hb4 X1.out.lt)
        have B4 := Lib.hid (BB.out.trans (hb4.mono BB.out.size))
        have hs4 := hb4.size
        have N4 := Lib.hid hn4
        clear hown4 hb4 hn4
        go_wp2_with (at_builtin; refine wpList_pushAll rfl (.tmp 32) (.tmp 38) rfl (w.heap.size + 2) w4 _ S' ?g1 O4.out (partsD t) a4 c4 rfl N4.out ?g2 ?g3 ?_)
        case g1 => rfl
        case g2 => have := Hlen.out; omega
        case g3 => omega
        intro v5 w5 hown5 hg5 hlt5
        obtain ⟨a5, c5, rfl, hc5, _⟩ := hown5.nums
        have O5 := Lib.hid hown5
        have B5 := Lib.hid (((Below.refl (w.heap.size + 2) w4).grown hg5 (by omega) (fun k hk => (hlt5 k hk).1)))
        have Z0 := Lib.hid (Y0.out.below B5.out (by omega))
        have Z1 := Lib.hid (Y1.out.below B5.out (by omega))
        have B6 := Lib.hid (B4.out.trans (B5.out.mono (by omega)))
        clear hown5 hg5 hlt5
        go_wp2_with fail
        have hl5 := Hlen.out
        refine ⟨⟨R.set n true, S' ++ partsD t, O5.out, Z1.out, Z0.out, Htake.out, by rw [List.length_set, hR], by rw [List.length_append]; omega, B6.out⟩, ?_⟩
        rw [cntW_box Z1.out, hcnt]
        simp only [lenV, List.length_append]
        omega
end Go.Proofs.YtllddjmcemcdhaaGreat

namespace Go.Proofs.YtllddjmcemcdhaaGreat
open Go.ChangeShapes Go.WideShapes Go.ChangeAt Go.RowKit

structure QueAt (w : World) (g off cap : Nat) (S : List Int) : Prop where
  le : S.length ≤ cap
  max : cap ≤ maxLen
  holds : ∀ i (h : i < S.length), w.cell? ⟨g, off + i, none⟩ = some (.int .i64 S[i])
  there : ∀ j, j < cap → (w.cell? ⟨g, off + j, none⟩).isSome = true ∧ w.frozen? ⟨g, off + j, none⟩ = false
def Que (w : World) (B : Nat) (v : Value) (S : List Int) : Prop := (v = .slice none 0 0 ∧ S = []) ∨ ∃ g off cap, v = .slice (some ⟨g, off, none⟩) S.length cap ∧ B ≤ g ∧ g < w.heap.size ∧ QueAt w g off cap S

theorem OwnInts.que {w : World} {B : Nat} {v : Value} {S : List Int} (h : OwnInts w B v S) : Que w B v S := by
  rcases h.2 with ⟨rfl, h0⟩ | ⟨g, cap, cur, rfl, hb, hg, hc, hm, hs, ht⟩
  · exact .inl ⟨rfl, List.eq_nil_of_length_eq_zero h0⟩
  · have hlt : g < w.heap.size := (Array.getElem?_eq_some_iff.1 hg).1
    refine .inr ⟨g, 0, cap, rfl, hb, hlt, ⟨hc, hm, fun i hi => ?_, fun j hj => ?_⟩⟩
    · have := World.ownsRow.cells h (g := g) rfl i (.int .i64 S[i]) (by simp [hi])
      rwa [add_off] at this
    · rw [Nat.zero_add, cell_of_row w g j cur _ _ hg, Array.getElem?_eq_getElem (by omega)]
      exact ⟨rfl, by simp [World.frozen?, hg]⟩
theorem QueAt.keep {w w' : World} {g off cap : Nat} {S : List Int} (h : QueAt w g off cap S) (hk : w'.heap[g]? = w.heap[g]?) : QueAt w' g off cap S :=
  ⟨h.le, h.max, fun i hi => (World.cell?_of_block (a := ⟨g, off + i, none⟩) hk).trans (h.holds i hi), fun j hj => ⟨by rw [World.cell?_of_block (a := ⟨g, off + j, none⟩) hk]; exact (h.there j hj).1, (World.frozen?_of_block (a := ⟨g, off + j, none⟩) hk).trans (h.there j hj).2⟩⟩
theorem Que.keep {w w' : World} {B : Nat} {v : Value} {S : List Int} (h : Que w B v S) (hk : ∀ k, v.ownBlock = some k → w'.heap[k]? = w.heap[k]?) (hs : w.heap.size ≤ w'.heap.size) : Que w' B v S :=
  h.imp id fun ⟨g, off, cap, e, h1, h2, h3⟩ => ⟨g, off, cap, e, h1, Nat.lt_of_lt_of_le h2 hs, h3.keep (hk g (by rw [e]; rfl))⟩
theorem Que.lt {w : World} {B : Nat} {v : Value} {S : List Int} (h : Que w B v S) : ∀ k, v.ownBlock = some k → B ≤ k ∧ k < w.heap.size := by
  rcases h with ⟨rfl, _⟩ | ⟨g, off, cap, rfl, h1, h2, _⟩
  · intro k hk; cases hk
  · intro k hk
    have : g = k := by simpa [Value.ownBlock] using hk
    omega
theorem Que.below {w w' : World} {B : Nat} {v : Value} {S : List Int} (h : Que w B v S) (hb : Below w.heap.size w w') : Que w' B v S :=
  h.keep (fun k hk => hb.block k (h.lt k hk).2) hb.size
theorem Que.lower {w : World} {B B' : Nat} {v : Value} {S : List Int} (h : Que w B v S) (hB : B' ≤ B) : Que w B' v S :=
  h.imp id fun ⟨g, off, cap, e, h1, h2⟩ => ⟨g, off, cap, e, Nat.le_trans hB h1, h2⟩
theorem Que.slice {w : World} {B : Nat} {v : Value} {S : List Int} (h : Que w B v S) : ∃ a c, v = .slice a S.length c ∧ S.length ≤ c := by
  rcases h with ⟨rfl, rfl⟩ | ⟨g, off, cap, rfl, _, _, h⟩
  · exact ⟨none, 0, rfl, Nat.le_refl _⟩
  · exact ⟨_, cap, rfl, h.le⟩
/-- The first is taken. -/
theorem Que.tail {w : World} {B : Nat} {v : Value} {S : List Int} {x : Int} (h : Que w B v (x :: S)) : ∃ g off cap, v = .slice (some ⟨g, off, none⟩) (S.length + 1) cap ∧ S.length + 1 ≤ cap ∧ cap ≤ maxLen ∧ B ≤ g ∧ g < w.heap.size ∧ w.cell? ⟨g, off, none⟩ = some (.int .i64 x) ∧
    (cap ≠ 1 → Que w B (.slice (some ⟨g, off + 1, none⟩) S.length (cap - 1)) S) ∧ (cap = 1 → S = [] ∧ Que w B (.slice (some ⟨g, off, none⟩) 0 0) S) := by
  rcases h with ⟨_, h⟩ | ⟨g, off, cap, rfl, h1, h2, h⟩
  · cases h
  · have hle := h.le
    simp only [List.length_cons] at hle
    have h0 := h.holds 0 (by simp)
    refine ⟨g, off, cap, rfl, hle, h.max, h1, h2, h0, fun hc => .inr ⟨g, off + 1, cap - 1, rfl, h1, h2, ⟨by omega, by have := h.max; omega, fun i hi => ?_, fun j hj => ?_⟩⟩, fun hc => ?_⟩
    · have := h.holds (i + 1) (by simp only [List.length_cons]; omega)
      rw [Nat.add_assoc, Nat.add_comm 1 i]
      simpa using this
    · have := h.there (j + 1) (by omega)
      rwa [Nat.add_assoc, Nat.add_comm 1 j]
    · have hS : S = [] := List.eq_nil_of_length_eq_zero (by omega)
      subst hS
      exact ⟨rfl, .inr ⟨g, off, 0, rfl, h1, h2, ⟨by simp, by unfold maxLen; omega, fun i hi => absurd hi (by simp), fun j hj => absurd hj (by omega)⟩⟩⟩

theorem setCells_other (g o : Nat) (vs : List Value) : ∀ (w : World) (k : Nat), k ≠ g → (w.setCells g o vs).heap[k]? = w.heap[k]? := by
  induction vs generalizing o with
  | nil => intro w k _; rfl
  | cons v vs ih => intro w k hk; exact (ih (o + 1) _ k hk).trans (Below.heap_setCell w ⟨g, o, none⟩ v k hk)
theorem setCells_size (g o : Nat) (vs : List Value) : ∀ (w : World), (w.setCells g o vs).heap.size = w.heap.size := by
  induction vs generalizing o with
  | nil => intro w; rfl
  | cons v vs ih => intro w; exact (ih (o + 1) _).trans (by simp [World.setCell])
theorem setCells_rest (g o : Nat) (vs : List Value) : ∀ (w : World), (w.setCells g o vs).os = w.os ∧ (w.setCells g o vs).tape = w.tape ∧ (w.setCells g o vs).output = w.output := by
  induction vs generalizing o with
  | nil => intro w; exact ⟨rfl, rfl, rfl⟩
  | cons v vs ih => intro w; exact ih (o + 1) (w.setCell ⟨g, o, none⟩ v)

theorem src_nums {w : World} {ao : Option Addr} {m : List Int} (c : Nat) (hN : Nums w ao m) (h0 : ao = none → m = []) : Src Tryz.prog 1 48 (.slice ao m.length c) m.length (m.map (Value.int .i64)) w := by
  cases ao with
  | none => rw [h0 rfl]; exact Src.ofNil w Tryz.underlying48 c
  | some ad =>
    refine Src.ofSlice w Tryz.underlying48 ad m.length c _ (by simp) (fun j u hu => ?_) (fun u hu => by obtain ⟨z, _, rfl⟩ := List.mem_map.1 hu; rfl)
    rw [List.getElem?_map] at hu
    by_cases hj : j < m.length
    · obtain ⟨b, o', e, _, e2⟩ := hN j hj
      cases e
      rw [List.getElem?_eq_getElem hj] at hu
      cases hu
      rw [add_off]
      exact e2
    · rw [List.getElem?_eq_none (by omega)] at hu
      cases hu
theorem Nums.none_nil {w : World} {m : List Int} (h : Nums w none m) : m = [] := by
  cases m with
  | nil => rfl
  | cons y m =>
    obtain ⟨b, o', e, _⟩ := h 0 (by simp)
    cases e

/-- append of a row of numbers behind such a row. -/
theorem wpList_pushQue {ops : Array Oper} {rest : List Oper} {o : Oper} {a : Act} {Q : Exit → Act → World → Prop} (hgd : o.guard = none) (s x : Operand)
    (ho : o.op = .call { callee := .builtin .append, args := #[s, x], argTypes := #[48, 48] })
    (B : Nat) (w : World) (v : Value) (l : List Int) (hs : a.eval s = v) (hown : Que w B v l) (m : List Int) (ao : Option Addr) (c : Nat) (hx : a.eval x = .slice ao m.length c) (hN : Nums w ao m)
    (h63 : l.length + m.length ≤ 1048577 + 1048576) (hbase : B ≤ w.heap.size)
    (h : ∀ v' w', Que w' B v' (l ++ m) → w.grownBy w' v.ownBlock → (∀ k, v'.ownBlock = some k → v.ownBlock = some k ∨ w.heap.size ≤ k) → wpList Tryz.prog ops Q rest (a.put o.dst v') w') : wpList Tryz.prog ops Q (o :: rest) a w := by
  obtain ⟨i0, hi, hz0, hz1, hz2⟩ := info_parts infoInt
  have hsrc := src_nums (w := w) c hN (fun e => by subst e; exact hN.none_nil)
  suffices hsuf : ∃ v' w', (Builtin.append_ #[48, 48] o.type #[v, .slice ao m.length c]).run Tryz.prog w = .ok v' w' ∧ Que w' B v' (l ++ m) ∧ w.grownBy w' v.ownBlock ∧ (∀ k, v'.ownBlock = some k → v.ownBlock = some k ∨ w.heap.size ≤ k) by
    obtain ⟨v', w', hr, h1, h2, h3⟩ := hsuf
    refine wpList_plain hgd fun _ hK => ?_
    unfold Oper.wp execOp
    simp only [ho, resolve, invoke, builtin, Sem.run_bind, Sem.run_pure, Result.andThen_ok, List.map_toArray, List.map_cons, List.map_nil, hs, hx, hr]
    exact hK _ _ (h v' w' h1 h2 h3)
  -- the arm that grows
  have grow : ∀ (bs : Option Addr) (sc : Nat), v = .slice bs l.length sc → sc < l.length + m.length → (Builtin.firstCells i0.size l.length (.slice bs l.length sc)).run Tryz.prog w.drew = .ok (l.map (Value.int .i64)).toArray w.drew → ∃ v' w', (Builtin.append_ #[48, 48] o.type #[v, .slice ao m.length c]).run Tryz.prog w = .ok v' w' ∧ Que w' B v' (l ++ m) ∧ w.grownBy w' v.ownBlock ∧ (∀ k, v'.ownBlock = some k → v.ownBlock = some k ∨ w.heap.size ≤ k) := fun bs sc hv hsc hold => by
    subst hv
    have hr := run_append_grow_src (P := Tryz.prog) w 48 48 o.type 3 i0 (.int .i64 0) Tryz.underlying48 hi hz0 bs l.length sc (l.map (Value.int .i64)) hold (.slice ao m.length c) m.length (m.map (Value.int .i64)) (by rw [hz1]; exact hsrc) hsc (by omega) (growslice_fits hsc (by rw [hz2]; omega))
    have hge := grownCap_ge w (l.length + m.length) sc 3
    have hcm := grownCap_le_maxLen w (l.length + m.length) sc 3 (by unfold maxLen; omega)
    refine ⟨_, _, hr, OwnInts.que (B := B) ⟨by simp, .inr ⟨w.heap.size, _, _, by rw [List.length_append], hbase, heap_alloc_new w.drew _, by rw [List.length_append]; exact hge, hcm, ?_, ?_⟩⟩, ⟨rfl, rfl, rfl, by simp, fun k hk _ => Below.heap_alloc w.drew _ k hk⟩, fun k hk => .inr (by
      have : w.heap.size = k := by simpa [Value.ownBlock] using hk
      omega)⟩
    · simp only [Array.size_append, List.size_toArray, size_zeroCells, List.length_append, List.length_map, Value.cells]
      simp
      omega
    · simp only [Array.toList_append, List.map_append]
      rw [List.take_left' (by simp)]
  rcases hown with ⟨rfl, rfl⟩ | ⟨g, off, cap, rfl, hb, hg, hq⟩
  · by_cases hm : m.length = 0
    · have hm0 : m = [] := List.eq_nil_of_length_eq_zero hm
      subst hm0
      have hr := run_append_nothing (P := Tryz.prog) w 48 48 o.type 3 i0 Tryz.underlying48 hi none 0 0 (Nat.le_refl _) (.slice ao 0 c) (by rw [hz1]; exact hsrc)
      exact ⟨_, _, hr, .inl ⟨rfl, rfl⟩, grownBy_same _ _, fun k hk => by cases hk⟩
    · exact grow none 0 rfl (by simp; omega) (by simpa using run_firstCells_none w.drew i0.size 0 0 0)
  · have hle := hq.le
    by_cases hfit : l.length + m.length ≤ cap
    · have hr := run_append_room_src (P := Tryz.prog) w 48 48 o.type 3 i0 Tryz.underlying48 hi g off l.length cap (.slice ao m.length c) m.length (m.map (Value.int .i64)) (by rw [hz1]; exact hsrc) hfit
        (fun j hj => by rw [hz1, Nat.mul_one, Nat.add_assoc]; exact (hq.there _ (by simp at hj; omega)).1) (fun j hj => by rw [hz1, Nat.mul_one, Nat.add_assoc]; exact (hq.there _ (by simp at hj; omega)).2)
      rw [hz1, Nat.mul_one] at hr
      have hr3 := setCells_rest g (off + l.length) (m.map (Value.int .i64)) w
      have hsz := setCells_size g (off + l.length) (m.map (Value.int .i64)) w
      refine ⟨_, _, hr, .inr ⟨g, off, cap, by rw [List.length_append], hb, by rw [hsz]; exact hg, ⟨by rw [List.length_append]; exact hfit, hq.max, fun i hi' => ?_, fun j hj => ⟨?_, ?_⟩⟩⟩, ⟨hr3.1, hr3.2.1, hr3.2.2, by rw [hsz]; exact Nat.le_refl _, fun k _ hk => setCells_other g _ _ w k (fun e => hk (by rw [e]; rfl))⟩, fun k hk => .inl hk⟩
      · by_cases hil : i < l.length
        · rw [World.cell?_setCells_out g _ _ _ _ (fun _ _ => Or.inl (by show off + i < off + l.length; omega)), List.getElem_append_left hil]
          exact hq.holds i hil
        · rw [List.length_append] at hi'
          have ht : i - l.length < (m.map (Value.int .i64)).length := by simp; omega
          have := World.cell?_setCells_in g (m.map (Value.int .i64)) (off + l.length) w (fun j hj => by rw [Nat.add_assoc]; exact (hq.there _ (by simp at hj; omega)).1) (i - l.length) ht
          rw [Nat.add_assoc, show l.length + (i - l.length) = i by omega] at this
          rw [this, List.getElem_append_right (by omega)]
          simp
      · by_cases hjm : l.length ≤ j ∧ j < l.length + m.length
        · have ht : j - l.length < (m.map (Value.int .i64)).length := by simp; omega
          have := World.cell?_setCells_in g (m.map (Value.int .i64)) (off + l.length) w (fun j hj => by rw [Nat.add_assoc]; exact (hq.there _ (by simp at hj; omega)).1) (j - l.length) ht
          rw [Nat.add_assoc, show l.length + (j - l.length) = j by omega] at this
          rw [this]
          rfl
        · rw [World.cell?_setCells_out g _ _ _ _ (fun _ _ => by show off + j < off + l.length ∨ off + l.length + (m.map (Value.int .i64)).length ≤ off + j; simp; omega)]
          exact (hq.there j hj).1
      · rw [World.frozen?_setCells]; exact (hq.there j hj).2
    · refine grow _ cap rfl (by omega) ?_
      have hnums : Nums w (some ⟨g, off, none⟩) l := fun i hi => ⟨g, off, rfl, hg, hq.holds i hi⟩
      have := (src_nums (w := w) cap hnums (fun e => by cases e)).cellsD
      rwa [hz1]
end Go.Proofs.YtllddjmcemcdhaaGreat
