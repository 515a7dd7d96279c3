
/-
  What is proved: append of a whole row of changes to one that the call owns; the contract of the model's TurnDiff. No condition beside what each theorem states.
-/
import Derived.Test.YtkhlekpkggglpaaChgR
import Derived.Laws.CopyOwn
import Derived.Deep.Upon
import Derived.Maps.AppendAt
namespace Go.Proofs.Ytkhlekpkggglpaa
open Go.ChangeShapes Go.WideShapes Go.ChangeAt Go.RowKit
set_option maxRecDepth 100000

theorem chg_none {w : World} {l : List ChangeD} (hr : Rows changeS Any w none l) : l = [] := by
  cases l with
  | nil => rfl
  | cons y m =>
    obtain ⟨b, o', cs, e, _⟩ := hr 0 (by simp)
    cases e

/-- append of a whole row to one that the call owns. -/
theorem wp_pushCs {o : Oper} {a : Act} {K : Act → World → Prop} {Q : Exit → Act → World → Prop} (s x : Operand)
    (ho : o.op = .call { callee := .builtin .append, args := #[s, x], argTypes := #[31, 31] })
    (B : Nat) (w : World) (v : Value) (l : List ChangeD) (hs : a.eval s = v) (hown : OwnChgs w B v l) (m : List ChangeD) (ao : Option Addr) (c : Nat) (hx : a.eval x = .slice ao m.length c) (hN : Rows changeS Any w ao m)
    (h63 : l.length + m.length ≤ 100000) (hbase : B ≤ w.heap.size)
    (h : ∀ v' w', OwnChgs w' B v' (l ++ m) → w.grownBy w' v.ownBlock → (∀ k, v.ownBlock = some k → B ≤ k ∧ k < w.heap.size) → K (a.put o.dst v') w') : Oper.wp Try.prog o a w K Q := by
  obtain ⟨i0, hi, hz0, hz1, hz2⟩ := info_parts infoChange
  cases ao with
  | some ad =>
    have hsrc : ∀ j u, (m.flatMap chgCells)[j]? = some u → w.cell? (ad.add j) = some u := by
      by_cases hm : m.length = 0
      · have hm : m = [] := List.eq_nil_of_length_eq_zero hm
        subst hm
        exact fun j u hu => by simp at hu
      · obtain ⟨b, o0, cs, e, _⟩ := hN 0 (by omega)
        cases e
        exact chg_src hN
    obtain ⟨v', w', hr, k1, k2, _, _⟩ := run_append_own_at (P := Try.prog) w B 31 o.type 55 i0 (.agg #[.string ByteArray.empty, .int .i64 0]) 2 24 Try.underlying31 hi hz0 hz1 hz2 rfl (by decide) v l.length (l.flatMap chgCells) hown ad m.length c (m.flatMap chgCells) (flatC_len chgCells 2 chg_len m) hsrc chg_one (by unfold maxLen; omega) (by omega) hbase
    unfold Oper.wp execOp
    simp only [ho, resolve, invoke, builtin, Sem.run_bind, Sem.run_pure, Result.andThen_ok, List.map_toArray, List.map_cons, List.map_nil, hs, hx, hr]
    exact h v' w' (by unfold OwnChgs; rw [List.flatMap_append, List.length_append]; exact k1) k2 (World.ownsRow.lt hown)
  | none =>
    have hm := chg_none hN
    subst hm
    obtain ⟨ba, cc, hv, hc, _, _, _⟩ := hown.rows
    have hr := run_append_nothing (P := Try.prog) w 31 31 o.type 55 i0 Try.underlying31 hi ba l.length cc hc (.slice none 0 c) (Src.ofNil _ Try.underlying31 c)
    unfold Oper.wp execOp
    simp only [ho, resolve, invoke, builtin, Sem.run_bind, Sem.run_pure, Result.andThen_ok, List.map_toArray, List.map_cons, List.map_nil, hs, hv, hx, List.length_nil, hr]
    exact h _ w (by rw [show Value.slice ba l.length cc = v from hv.symm, List.append_nil]; exact hown) ⟨rfl, rfl, rfl, Nat.le_refl _, fun _ _ _ => rfl⟩ (World.ownsRow.lt hown)
theorem wpList_pushCs {ops : Array Oper} {rest : List Oper} {o : Oper} {a : Act} {Q : Exit → Act → World → Prop} (hgd : o.guard = none) (s x : Operand)
    (ho : o.op = .call { callee := .builtin .append, args := #[s, x], argTypes := #[31, 31] })
    (B : Nat) (w : World) (v : Value) (l : List ChangeD) (hs : a.eval s = v) (hown : OwnChgs w B v l) (m : List ChangeD) (ao : Option Addr) (c : Nat) (hx : a.eval x = .slice ao m.length c) (hN : Rows changeS Any w ao m)
    (h63 : l.length + m.length ≤ 100000) (hbase : B ≤ w.heap.size)
    (h : ∀ v' w', OwnChgs w' B v' (l ++ m) → w.grownBy w' v.ownBlock → (∀ k, v.ownBlock = some k → B ≤ k ∧ k < w.heap.size) → wpList Try.prog ops Q rest (a.put o.dst v') w') : wpList Try.prog ops Q (o :: rest) a w :=
  wpList_plain hgd fun _ hK => wp_pushCs s x ho B w v l hs hown m ao c hx hN h63 hbase (fun v' w' k1 k2 k3 => hK _ _ (h v' w' k1 k2 k3))

theorem OwnChgs.made (w : World) {B : Nat} (hB : B ≤ w.heap.size) : OwnChgs (w.alloc (.cells #[] 55)) B (.slice (some ⟨w.heap.size, 0, none⟩) 0 0) [] := World.ownsRow_made (base := B) w #[] 0 hB (by decide) (by simp)

theorem set_sameC {arr : Array Value} {i : Nat} {v : Value} (h : arr[i]? = some v) : arr.setIfInBounds i v = arr := by
  apply Array.ext_getElem?
  intro j
  rw [Array.getElem?_setIfInBounds]
  split
  · rename_i e
    subst e
    rw [h]
    split
    · rfl
    · rename_i h2
      rw [Array.getElem?_eq_none (by omega)] at h
      cases h
  · rfl
/-- A row of which the first k are turned. -/
def HalfAt (cur : Array Value) (l : List ChangeD) (k : Nat) : Prop := l.length * 2 ≤ cur.size ∧ ∀ i, i < l.length * 2 → cur[i]? = ((halfZ l k).flatMap chgCells).toArray[i]?
theorem HalfAt.get {cur : Array Value} {l : List ChangeD} {k : Nat} (h : HalfAt cur l k) (hk : k < l.length) : cur[k * 2]? = some (.string l[k].fName) ∧ cur[k * 2 + 1]? = some (.int .i64 l[k].fKind) := by
  obtain ⟨a0, a1⟩ := flat_get (L := halfZ l k) (k := k) (by rw [half_len (by omega)]; exact hk)
  rw [half_at hk] at a0 a1
  exact ⟨(h.2 _ (by omega)).trans a0, (h.2 _ (by omega)).trans a1⟩
theorem HalfAt.next {cur : Array Value} {l : List ChangeD} {k : Nat} (h : HalfAt cur l k) (hk : k < l.length) : HalfAt (cur.setIfInBounds (k * 2 + 1) (.int .i64 (turnK l[k].fKind))) l (k + 1) := by
  have hlk : k < (halfZ l k).length := by rw [half_len (by omega)]; exact hk
  obtain ⟨a0, a1⟩ := flat_get hlk
  rw [half_at hk] at a0 a1
  refine ⟨by rw [Array.size_setIfInBounds]; exact h.1, fun i hi => ?_⟩
  rw [half_next hk, flat_set _ hlk]
  show _ = ((((halfZ l k).flatMap chgCells).toArray.setIfInBounds (k * 2) (.string l[k].fName)).setIfInBounds (k * 2 + 1) (.int .i64 (turnK l[k].fKind)))[i]?
  rw [set_sameC a0, Array.getElem?_setIfInBounds, Array.getElem?_setIfInBounds, h.2 i hi]
  have hs := h.1
  have hfl := flatC_len chgCells 2 chg_len (halfZ l k)
  rw [half_len (by omega)] at hfl
  split
  · rename_i e
    subst e
    rw [if_pos (by omega), if_pos (by rw [List.size_toArray]; omega)]
  · rfl
theorem HalfAt.same {cur : Array Value} {l : List ChangeD} {k : Nat} (h : HalfAt cur l k) (hk : k < l.length) (he : turnK l[k].fKind = l[k].fKind) : HalfAt cur l (k + 1) := by
  have h2 := h.next hk
  rw [he, set_sameC (h.get hk).2] at h2
  exact h2

set_option maxHeartbeats 8000000 in
theorem sTurnDiff (a : Option Addr) (c : Nat) (l : List ChangeD) (w : World) (hl : l.length ≤ 1048576) (hc : l.length ≤ c) (hc2 : c ≤ maxLen) (hs : ∀ t ∈ l, t.fName.size ≤ maxLen) (hr : Rows changeS Any w a l) :
    Calls Try.prog 21 #[.slice a l.length c] w (PostTD l w) := by
  have H := Lib.hid (sl12Good a c l w hl hc hc2 hs hr)
  have Hr := Lib.hid hr
  clear hs hr
  go_enter Try.func21, Try.ntmps21
  go_wp2_with fail
  refine H.out.mono ?_
  rintro e w1 ⟨rfl, hb1⟩
  have B1 := Lib.hid hb1
  have R1 := Lib.hid (Hr.out.below hb1)
  clear hb1 H
  by_cases hp : chgP l
  · have hq := chgB_true hp
    have h32 := hp.1
    have P := Lib.hid hp
    clear hp
    have Bm := Lib.hid (B1.out.alloc B1.out.size (.cells #[] 55))
    have Om := Lib.hid (OwnChgs.made w1 B1.out.size)
    have Rm := Lib.hid (R1.out.below ((Below.refl w1.heap.size w1).alloc (Nat.le_refl _) (.cells #[] 55)))
    have hsm := Bm.out.size
    go_wp2_with (at_builtin; refine wpList_pushCs rfl (.tmp 10) (.tmp 11) rfl w.heap.size _ _ [] rfl Om.out l _ _ rfl Rm.out (by first | omega | (simp; omega)) hsm ?_)
    intro v' w2 hown hg2 hv2
    have B2 := Lib.hid (Bm.out.grown hg2 hsm (fun k hk => (hv2 k hk).1))
    replace hown : OwnChgs w2 w.heap.size v' l := hown
    obtain ⟨a2, c2, rfl, hc2', hc3, hoc, _⟩ := OwnChgs.rows hown
    clear hown hg2 hv2 hsm
    rcases hoc with hnil | ⟨g, t, cur, rfl, hgB, hbx, hcs, hci⟩
    · have h0 : l.length = 0 := by
        have := flatC_len chgCells 2 chg_len l
        rw [hnil] at this
        simp at this
        omega
      have hl0 : l = [] := List.eq_nil_of_length_eq_zero h0
      subst hl0
      go_wp2_with fail
      go_loopw [15] (fun i wr => i = .int .i64 0 ∧ wr = w2) (fun _ _ => 0)
      case atStart => exact ⟨rfl, rfl⟩
      case round =>
        obtain ⟨rfl, rfl⟩ := hrel
        go_wp2_with fail
        go_ret2
        unfold PostTD
        exact ⟨_, _, [], true, rfl, .inl rfl, .inl ⟨P.out, rfl, rfl⟩, B2.out⟩
    · have hfl := flatC_len chgCells 2 chg_len l
      have H0 := Lib.hid (show HalfAt cur l 0 from ⟨by omega, fun i hi => by rw [half_zero, hci i (by omega), List.getElem?_toArray]⟩)
      have X2 := Lib.hid hbx
      clear hci hcs hbx
      go_wp2_with fail
      go_loopw [15] (fun i wr => ∃ (k : Nat) (cu : Array Value), i = .int .i64 k ∧ k ≤ l.length ∧ Box wr g t cu ∧ HalfAt cu l k ∧ Below w.heap.size w wr) (fun i _ => l.length - (intOf i).toNat)
      case atStart => exact ⟨0, cur, rfl, by omega, X2.out, H0.out, B2.out⟩
      case round =>
        obtain ⟨k, cu, rfl, hk, hx, hh, hbel⟩ := hrel
        have X := Lib.hid hx
        have Hh := Lib.hid hh
        have Hbel := Lib.hid hbel
        have hsz := hbel.size
        by_cases hlt : k < l.length
        · obtain ⟨e0, e1⟩ := hh.get hlt
          have c0 := (hx.cell (k * 2)).trans e0
          have c1 := (hx.cell (k * 2 + 1)).trans e1
          have Hn := Lib.hid (hh.next hlt)
          have Hs := Lib.hid (hh.same hlt)
          have hgl := hx.lt
          have B3 := Lib.hid (hbel.alloc hsz (.cells #[.string l[k].fName, .int .i64 l[k].fKind] 55))
          have X3 := Lib.hid (hx.alloc (.cells #[.string l[k].fName, .int .i64 l[k].fKind] 55))
          have Y3 := Lib.hid (Box.new wr 55 #[.string l[k].fName, .int .i64 l[k].fKind])
          have hf := X3.out.free (k * 2 + 1)
          have hf2 := X.out.free (k * 2 + 1)
          have hgne : ¬ g = wr.heap.size := by omega
          have d1 := (X3.out.cell (k * 2 + 1)).trans e1
          clear hx hh hbel e0 e1
          generalize l[k] = f at *
          have y1 : _ = some (Value.int .i64 f.fKind) := Y3.out.cell 1
          by_cases k1 : f.fKind = 1
          · have hk1 : turnK f.fKind = 2 := by unfold turnK; rw [if_pos k1]
            rw [hk1] at Hn
            have X4 := Lib.hid ((X.out.set (k * 2 + 1) (.int .i64 2)).alloc (.cells #[.string f.fName, .int .i64 1] 55))
            have B4 := Lib.hid ((Hbel.out.setCell (p := ⟨g, k * 2 + 1, none⟩) hgB (.int .i64 2)).alloc (by simp; omega) (.cells #[.string f.fName, .int .i64 1] 55))
            clear hk1
            go_wp2_with fail
            exact ⟨⟨k + 1, _, by congr 1, by omega, X4.out, Hn.out, B4.out⟩, by simp [intOf]; omega⟩
          · by_cases k2 : f.fKind = 2
            · have hk1 : turnK f.fKind = 1 := by unfold turnK; rw [if_neg k1, if_pos k2]
              rw [hk1] at Hn
              have X4 := Lib.hid ((X.out.set (k * 2 + 1) (.int .i64 1)).alloc (.cells #[.string f.fName, .int .i64 2] 55))
              have B4 := Lib.hid ((Hbel.out.setCell (p := ⟨g, k * 2 + 1, none⟩) hgB (.int .i64 1)).alloc (by simp; omega) (.cells #[.string f.fName, .int .i64 2] 55))
              clear hk1 k1
              go_wp2_with fail
              exact ⟨⟨k + 1, _, by congr 1, by omega, X4.out, Hn.out, B4.out⟩, by simp [intOf]; omega⟩
            · have hk1 : turnK f.fKind = f.fKind := by unfold turnK; rw [if_neg k1, if_neg k2]
              have H4 := Lib.hid (Hs.out hk1)
              clear hk1
              go_wp2_with fail
              exact ⟨⟨k + 1, _, by congr 1, by omega, X3.out, H4.out, B3.out⟩, by simp [intOf]; omega⟩
        · obtain rfl : k = l.length := by omega
          have hlm : (l.map turnZ).length = l.length := by simp
          have HO := Lib.hid (show OwnC wr w.heap.size (some ⟨g, 0, none⟩) ((l.map turnZ).flatMap chgCells) from .inr ⟨g, t, cu, rfl, hgB, X.out, by rw [flatC_len chgCells 2 chg_len, hlm]; exact hh.1, fun i hi => by
            rw [flatC_len chgCells 2 chg_len, hlm] at hi
            rw [hh.2 i hi, half_all, List.getElem?_toArray]⟩)
          clear hx hh hbel
          go_wp2_with fail
          go_ret2
          unfold PostTD
          exact ⟨some ⟨g, 0, none⟩, c2, l.map turnZ, true, by rw [hlm]; rfl, HO.out, .inl ⟨P.out, rfl, rfl⟩, Hbel.out⟩
  · have hq := chgB_false hp
    have P := Lib.hid hp
    clear hp
    go_wp2_with fail
    go_ret2
    unfold PostTD
    exact ⟨none, 0, [], false, rfl, .inl rfl, .inr ⟨P.out, rfl, rfl⟩, B1.out⟩
end Go.Proofs.Ytkhlekpkggglpaa
