
/-
  What is proved: rows of steps that the call owns, copied and cloned: contracts of the program's clonedStep, copied and clonedEach on steps; copy of rows of structs. No condition beside what each theorem states.
-/
import Derived.Test.YteajdempddklgaaDoorUseRow
import Derived.Test.YteajdempddklgaaDoorMkStep
import Derived.Laws.CopyRow
namespace Go.Proofs.YteajdempddklgaaDoor
open Go.ChangeShapes Go.WideShapes Go.ChangeAt Go.RowKit
set_option maxRecDepth 100000

def stepCells (t : StepD) : List Value := [.int .i64 t.fKind, .int .i64 t.fValue, .string t.fMod, .string t.fName]
theorem step_len (t : StepD) : (stepCells t).length = 4 := rfl
theorem stepRows_of {w : World} {B : Nat} {a : Option Addr} {l : List StepD} (h : OwnC w B a (l.flatMap stepCells)) : Rows stepS (fun b => B ≤ b) w a l := fun i hi => by
  rcases h with h3 | ⟨g, t, cur, rfl, hb, hx, hs, hc⟩
  · have := flat_len stepCells 4 step_len l
    rw [h3] at this
    simp at this
    omega
  · have hn : stepS.n = 4 := rfl
    refine ⟨g, 0, stepCells l[i], rfl, hb, hx.lt, fun j hj => ?_, rfl⟩
    have hl := flat_len stepCells 4 step_len l
    rw [hn] at hj ⊢
    rw [Nat.zero_add, hx.cell, hc (i * 4 + j) (by rw [hl]; omega), flat_at stepCells 4 step_len l i hi j hj]
theorem lMarkSteps (B : Nat) (a : Option Addr) (c : Nat) (l : List StepD) (k : Int) (w : World) (hown : OwnC w B a (l.flatMap stepCells)) (hB : B ≤ w.heap.size) (hl : l.length ≤ 1048576) (hk : 0 < k) (hk2 : k ≤ 1000000000) :
    Calls Tryd.prog 19 #[.slice a l.length c, .int .i64 k] w fun e w' => e = .returned (.int .i64 (k + 4 * (l.length : Int))) ∧ Rows stepS Any w' a (mkStepL l.length k) ∧ Below B w w' := by
  have hln := flat_len stepCells 4 step_len l
  rcases hown with h | ⟨g, t, cur, rfl, h2, h3, h4, _⟩
  · have : l = [] := by
      rw [h, List.length_nil] at hln
      exact List.eq_nil_of_length_eq_zero (by omega)
    subst this
    refine (lMarkStepS0 a c k w).mono ?_
    rintro e w' ⟨rfl, rfl⟩
    exact ⟨by simp, Rows.nil, Below.refl _ _⟩
  · exact lMarkStepS B g 0 c l.length t cur k w h2 hB hl hk hk2 h3 (by rw [hln] at h4; omega)

/-- copy of a row of structs. -/
theorem run_copy_rows {P : Program} (w : World) (dT sT ty elem : TypeId) (z g dLen dCap : Nat) (a : Addr) (sLen sCap : Nat) (cur : Array Value) (t : TypeId) (cs : List Value)
    (hu : P.underlying dT = some (.slice elem)) (hs : (P.info? elem).map (·.size) = some z)
    (hg : w.heap[g]? = some (.cells cur t (0, 0))) (hn : cs.length = Nat.min sLen dLen * z)
    (hsrc : ∀ j v, cs[j]? = some v → w.cell? (a.add j) = some v) (hfit : 0 + cs.length ≤ cur.size) (h1 : ∀ v ∈ cs, v.oneCell' = true) :
    (Builtin.copy_ #[dT, sT] ty #[.slice (some ⟨g, 0, none⟩) dLen dCap, .slice (some a) sLen sCap]).run P w =
      .ok (goInt (Nat.min sLen dLen)) (w.setRow g (cur.toList.take 0 ++ cs ++ cur.toList.drop (0 + cs.length)).toArray) := by
  have hl := run_loadCells_list (P := P) w a cs hsrc
  have hst := run_storeCells_at P g 0 t cs 0 cur w hg (by simpa using hfit) h1
  cases hq : P.info? elem with
  | none => simp [hq] at hs
  | some i =>
    have hi : i.size = z := by simpa [hq] using hs
    rw [hn] at hl
    simp [Builtin.copy_, run_underlying hu, Builtin.lenOf, Builtin.firstCells, sizeOf, typeInfo, hq, hi, hl] at hst ⊢
    simp [hst]

theorem step_one {l : List StepD} : ∀ v ∈ l.flatMap stepCells, v.oneCell' = true := by
  intro v hv
  obtain ⟨t, _, h⟩ := List.mem_flatMap.1 hv
  simp [stepCells] at h
  rcases h with rfl | rfl | rfl | rfl <;> rfl
theorem step_src {w : World} {b o : Nat} {l : List StepD} (hr : Rows stepS Any w (some ⟨b, o, none⟩) l) : ∀ j v, (l.flatMap stepCells)[j]? = some v → w.cell? ((⟨b, o, none⟩ : Addr).add j) = some v := by
  intro j v hv
  have hl := flat_len stepCells 4 step_len l
  by_cases hj : j < l.length * 4
  · have hk : j / 4 < l.length := by omega
    obtain ⟨b', o', cs, e, _, _, hc, hat⟩ := hr (j / 4) hk
    cases e
    obtain rfl : cs = stepCells l[j / 4] := hat
    have h2 := flat_at stepCells 4 step_len l (j / 4) hk (j % 4) (Nat.mod_lt _ (by decide))
    rw [show j / 4 * 4 + j % 4 = j by omega, hv] at h2
    have h3 := hc (j % 4) (Nat.mod_lt _ (by decide))
    rw [show stepS.n = 4 from rfl, ← h2] at h3
    rw [addr_add, ← h3]
    congr 2
    omega
  · rw [List.getElem?_eq_none (by omega)] at hv
    cases hv

set_option maxHeartbeats 4000000 in
theorem iCopiedStep (b o c : Nat) (l : List StepD) (w : World) (h0 : 0 < l.length) (hl : l.length ≤ 1048576) (hr : Rows stepS Any w (some ⟨b, o, none⟩) l) :
    Calls Tryd.prog 83 #[.slice (some ⟨b, o, none⟩) l.length c] w fun e w' => e = .returned (.slice (some ⟨w.heap.size, 0, none⟩) l.length l.length) ∧ Box w' w.heap.size 72 (l.flatMap stepCells).toArray ∧ Below w.heap.size w w' := by
  have km := fun W => makeStep l.length W hl
  have h1 : ¬ (l.length : Int) = 0 := by omega
  have hfl := flat_len stepCells 4 step_len l
  have hsz := size_madeCells #[.int .i64 0, .int .i64 0, .string ByteArray.empty, .string ByteArray.empty] (l.length * 4)
  have B0 := Lib.hid ((Below.refl w.heap.size w).alloc (Nat.le_refl _) (.cells (madeCells #[.int .i64 0, .int .i64 0, .string ByteArray.empty, .string ByteArray.empty] (l.length * 4)) 72))
  have X0 := Lib.hid (Box.new w 72 (madeCells #[.int .i64 0, .int .i64 0, .string ByteArray.empty, .string ByteArray.empty] (l.length * 4)))
  have Hsrc := Lib.hid (step_src (hr.below B0.out))
  clear hr
  generalize madeCells #[.int .i64 0, .int .i64 0, .string ByteArray.empty, .string ByteArray.empty] (l.length * 4) = cur at *
  obtain ⟨w2, hrun, hx2, hb2⟩ : ∃ w2, (Builtin.copy_ #[28, 28] 3 #[.slice (some ⟨w.heap.size, 0, none⟩) l.length l.length, .slice (some ⟨b, o, none⟩) l.length c]).run Tryd.prog (w.alloc (.cells cur 72)) = .ok (.int .i64 (l.length : Int)) w2 ∧ Hid (Box w2 w.heap.size 72 (l.flatMap stepCells).toArray) ∧ Hid (Below w.heap.size w w2) := by
    have h := run_copy_rows (P := Tryd.prog) (w.alloc (.cells cur 72)) 28 28 3 72 4 w.heap.size l.length l.length ⟨b, o, none⟩ l.length c cur 72 (l.flatMap stepCells) Tryd.underlying28 sizeStep X0.out (by rw [hfl, show Nat.min l.length l.length = l.length from Nat.min_self _]) Hsrc.out (by omega) step_one
    rw [show Nat.min l.length l.length = l.length from Nat.min_self _] at h
    have e : (cur.toList.take 0 ++ l.flatMap stepCells ++ cur.toList.drop (0 + (l.flatMap stepCells).length)) = l.flatMap stepCells := by
      rw [List.drop_of_length_le (by rw [Array.length_toList]; omega)]
      simp
    rw [e] at h
    exact ⟨_, h, Lib.hid (setRow_heap _ w.heap.size _ _ 72 _ X0.out), Lib.hid (below_setRow B0.out (Nat.le_refl _) _)⟩
  go_enter Tryd.func83, Tryd.ntmps83
  go_wp2_with fail
  go_ret
  exact ⟨rfl, hx2.out, hb2.out⟩

set_option maxHeartbeats 4000000 in
theorem iClonedStep (k v : Int) (m n : ByteArray) (w : World) (hm : m.size ≤ 1048576) (hn : n.size ≤ 1048576) : Calls Tryd.prog 52 #[.agg #[.int .i64 k, .int .i64 v, .string m, .string n]] w fun e w' => e = .returned (.agg #[.int .i64 k, .int .i64 v, .string m, .string n]) ∧ Below w.heap.size w w' := by
  have B0 := Lib.hid (((Below.refl w.heap.size w).alloc (Nat.le_refl _) (.cells #[.int .i64 k, .int .i64 v, .string m, .string n] 72)).alloc (by simp) (.cells #[.int .i64 0, .int .i64 0, .string ⟨#[]⟩, .string ⟨#[]⟩] 72))
  have X0 := Lib.hid ((Box.new w 72 #[.int .i64 k, .int .i64 v, .string m, .string n]).alloc (.cells #[.int .i64 0, .int .i64 0, .string ⟨#[]⟩, .string ⟨#[]⟩] 72))
  have Y0 := Lib.hid (Box.new' (w.alloc (.cells #[.int .i64 k, .int .i64 v, .string m, .string n] 72)) 72 #[.int .i64 0, .int .i64 0, .string ⟨#[]⟩, .string ⟨#[]⟩] (g := w.heap.size + 1) (by simp))
  go_enter Tryd.func52, Tryd.ntmps52
  go_wp2_with fail
  generalize (w.alloc (.cells #[.int .i64 k, .int .i64 v, .string m, .string n] 72)).alloc (.cells #[.int .i64 0, .int .i64 0, .string ⟨#[]⟩, .string ⟨#[]⟩] 72) = wq at *
  have x0 : _ = some (Value.int .i64 k) := X0.out.cell 0
  have x1 : _ = some (Value.int .i64 v) := X0.out.cell 1
  have x2 : _ = some (Value.string m) := X0.out.cell 2
  have x3 : _ = some (Value.string n) := X0.out.cell 3
  go_region_with (go_at_call 84; refine (iStrClone _ _ (by assumption)).mono ?_; rintro e wc ⟨rfl, hbc⟩; replace X0 := Lib.hid (box_next X0.out (by rfl) hbc); replace Y0 := Lib.hid (box_next Y0.out (by rfl) hbc); replace B0 := Lib.hid (below_next B0.out (by rfl) (by rfl) (by rfl) (by rfl) hbc); clear hbc x0 x1 x2 x3; have x0 : _ = some (Value.int .i64 k) := X0.out.cell 0; have x1 : _ = some (Value.int .i64 v) := X0.out.cell 1; have x2 : _ = some (Value.string m) := X0.out.cell 2; have x3 : _ = some (Value.string n) := X0.out.cell 3; have y0 : _ = some (Value.int .i64 0) := Y0.out.cell 0; have y1 : _ = some (Value.int .i64 0) := Y0.out.cell 1; have y2 : _ = some (Value.string ⟨#[]⟩) := Y0.out.cell 2; have y3 : _ = some (Value.string ⟨#[]⟩) := Y0.out.cell 3; have f0 := Y0.out.free 0; have f1 := Y0.out.free 1; have f2 := Y0.out.free 2; have f3 := Y0.out.free 3; have q2 := X0.out.free 2; have q3 := X0.out.free 3)
  all_goals
    go_wp2_with fail
    refine bodyPost_ret (results_one rfl Tryd.underlying72 rfl _ _ (w.heap.size + 1) #[.int .i64 k, .int .i64 v, .string m, .string n] rfl 72 (((((Y0.out.only (((Only.refl w.heap.size wc).set 2 _).set 3 _) (by omega)).set 0 _).set 1 _).set 2 _).set 3 _) 4 sizeStep rfl) rfl ?_
    exact ⟨rfl, (((((B0.out.setCell (by simp) _).setCell (by simp) _).setCell (by simp) _).setCell (by simp) _).setCell (by simp) _).setCell (by simp) _⟩

theorem set_same {arr : Array Value} {i : Nat} {v : Value} (h : arr[i]? = some v) : arr.setIfInBounds i v = arr := by
  apply Array.ext_getElem?
  intro j
  rw [Array.getElem?_setIfInBounds]
  split
  · rename_i e
    subst e
    rw [h]
    split
    · rfl
    · rename_i h2
      rw [Array.getElem?_eq_none (by omega)] at h
      cases h
  · rfl
set_option maxHeartbeats 8000000 in
theorem iClonedSteps (b o c : Nat) (l : List StepD) (w : World) (h0 : 0 < l.length) (hl : l.length ≤ 1048576) (hs : ∀ t ∈ l, t.fName.size ≤ 1048576 ∧ t.fMod.size ≤ 1048576) (hr : Rows stepS Any w (some ⟨b, o, none⟩) l) :
    Calls Tryd.prog 51 #[.slice (some ⟨b, o, none⟩) l.length c, .func (.func 52) #[] #[]] w fun e w' => e = .returned (.slice (some ⟨w.heap.size, 0, none⟩) l.length l.length) ∧ Box w' w.heap.size 72 (l.flatMap stepCells).toArray ∧ Below w.heap.size w w' := by
  have Hcp := Lib.hid (iCopiedStep b o c l w h0 hl hr)
  have Hs := Lib.hid hs
  have Hat := Lib.hid (fun k (hk : k < l.length) j (hj : j < 4) => (show (l.flatMap stepCells).toArray[k * 4 + j]? = (stepCells l[k])[j]? by rw [List.getElem?_toArray]; exact flat_at stepCells 4 step_len l k hk j hj))
  clear hs hr
  generalize (l.flatMap stepCells).toArray = arr at *
  go_enter Tryd.func51, Tryd.ntmps51
  go_wp2_with fail
  refine Hcp.out.mono ?_
  rintro e w1 ⟨rfl, hx1, hb1⟩
  have X1 := Lib.hid hx1
  have B1 := Lib.hid hb1
  have hs1 := hb1.size
  clear hx1 hb1 Hcp
  go_wp2_with fail
  go_loopw [11] (fun i wr => ∃ k : Nat, i = .int .i64 k ∧ k ≤ l.length ∧ Box wr w.heap.size 72 arr ∧ Below w.heap.size w wr) (fun i _ => l.length - (intOf i).toNat)
  case atStart => exact ⟨0, rfl, by omega, X1.out, B1.out⟩
  case round =>
    obtain ⟨k, rfl, hk, hx, hbel⟩ := hrel
    have X := Lib.hid hx
    have Bl := Lib.hid hbel
    have hsz := hbel.size
    have hlx := hx.lt
    by_cases hlt : k < l.length
    · have a0 := Hat.out k hlt 0 (by decide)
      have a1 := Hat.out k hlt 1 (by decide)
      have a2 := Hat.out k hlt 2 (by decide)
      have a3 := Hat.out k hlt 3 (by decide)
      have hsk := Hs.out _ (List.getElem_mem hlt)
      generalize l[k] = t at *
      obtain ⟨kd, vl, md, nm⟩ := t
      change arr[k * 4 + 0]? = some (.int .i64 kd) at a0
      change arr[k * 4 + 1]? = some (.int .i64 vl) at a1
      change arr[k * 4 + 2]? = some (.string md) at a2
      change arr[k * 4 + 3]? = some (.string nm) at a3
      dsimp only at hsk
      have c0 := (hx.cell (k * 4 + 0)).trans a0
      have c1 := (hx.cell (k * 4 + 1)).trans a1
      have c2 := (hx.cell (k * 4 + 2)).trans a2
      have c3 := (hx.cell (k * 4 + 3)).trans a3
      simp only [Nat.add_zero] at c0
      have Hn := Lib.hid hsk
      have A0 := Lib.hid a0
      have A1 := Lib.hid a1
      have A2 := Lib.hid a2
      have A3 := Lib.hid a3
      clear a0 a1 a2 a3 hx hbel hsk
      go_wp2_with fail
      refine (iClonedStep kd vl md nm _ Hn.out.2 Hn.out.1).mono ?_
      rintro e w2 ⟨rfl, hb2⟩
      have X2 := Lib.hid ((X.out.alloc (.cells #[.int .i64 kd, .int .i64 vl, .string md, .string nm] 72)).below hb2 (by simp; omega))
      have Bl2 := Lib.hid ((Bl.out.alloc hsz (.cells #[.int .i64 kd, .int .i64 vl, .string md, .string nm] 72)).trans (hb2.mono (by simp; omega)))
      clear hb2 c0 c1 c2 c3
      have d0 := (X2.out.cell (k * 4 + 0)).trans A0.out
      have d1 := (X2.out.cell (k * 4 + 1)).trans A1.out
      have d2 := (X2.out.cell (k * 4 + 2)).trans A2.out
      have d3 := (X2.out.cell (k * 4 + 3)).trans A3.out
      simp only [Nat.add_zero] at d0
      have f0 := X2.out.free
      have X3 := Lib.hid ((((X2.out.set (k * 4) (.int .i64 kd)).set (k * 4 + 1) (.int .i64 vl)).set (k * 4 + 2) (.string md)).set (k * 4 + 3) (.string nm))
      rw [set_same (show arr[k * 4]? = some (Value.int .i64 kd) from A0.out), set_same A1.out, set_same A2.out, set_same A3.out] at X3
      have Bl3 := Lib.hid ((((Bl2.out.setCell (p := ⟨w.heap.size, k * 4, none⟩) (Nat.le_refl _) (.int .i64 kd)).setCell (p := ⟨w.heap.size, k * 4 + 1, none⟩) (Nat.le_refl _) (.int .i64 vl)).setCell (p := ⟨w.heap.size, k * 4 + 2, none⟩) (Nat.le_refl _) (.string md)).setCell (p := ⟨w.heap.size, k * 4 + 3, none⟩) (Nat.le_refl _) (.string nm))
      clear A0 A1 A2 A3 X2
      go_wp2_with fail
      exact ⟨⟨k + 1, by congr 1, by omega, X3.out, Bl3.out⟩, by simp [intOf]; omega⟩
    · obtain rfl : k = l.length := by omega
      clear hx hbel
      go_wp2_with fail
      go_ret
      exact ⟨rfl, X.out, Bl.out⟩
end Go.Proofs.YteajdempddklgaaDoor
