
/-
  What is proved: rows of fields that the call owns: append of a whole row to one; copied and cloned: contracts of the program's clonedField, copied and clonedEach on fields. No condition beside what each theorem states.
-/
import Derived.Test.YtlfigpdjhljdnaaStrClone
import Derived.Test.YtlfigpdjhljdnaaStType
import Derived.Test.YtlfigpdjhljdnaaPushAll
import Derived.Laws.CopyRow
import Derived.Laws.CopyOwn
import Derived.Maps.AppendAt
namespace Go.Proofs.Ytlfigpdjhljdnaa
open Go.ChangeShapes Go.WideShapes Go.ChangeAt Go.RowKit
set_option maxRecDepth 100000

theorem flatN_len {T : Type} (f : T → List Value) (n : Nat) (hf : ∀ x, (f x).length = n) : ∀ l : List T, (l.flatMap f).length = l.length * n
  | [] => by simp
  | x :: l => by
    rw [List.flatMap_cons, List.length_append, hf, flatN_len f n hf l, List.length_cons, Nat.add_mul]
    omega
theorem flatN_at {T : Type} (f : T → List Value) (n : Nat) (hf : ∀ x, (f x).length = n) : ∀ (l : List T) (k : Nat) (h : k < l.length) (j : Nat), j < n → (l.flatMap f)[k * n + j]? = (f l[k])[j]?
  | [], k, h, _, _ => absurd h (by simp)
  | x :: l, k, h, j, hj => by
    rw [List.flatMap_cons]
    cases k with
    | zero => rw [Nat.zero_mul, Nat.zero_add, List.getElem?_append_left (by rw [hf]; exact hj)]; rfl
    | succ k =>
      rw [List.getElem?_append_right (by rw [hf, Nat.add_mul]; omega), hf, show (k + 1) * n + j - n = k * n + j by rw [Nat.add_mul]; omega, flatN_at f n hf l k (by simpa using h) j hj]
      rfl
def fldCells (f : FieldD) : List Value := [.string f.fName, .int .i64 f.fMark, .int .i64 f.fType]
theorem fld_len (f : FieldD) : (fldCells f).length = 3 := rfl
theorem fld_one {l : List FieldD} : ∀ v ∈ l.flatMap fldCells, v.oneCell' = true := by
  intro v hv
  obtain ⟨t, _, h⟩ := List.mem_flatMap.1 hv
  simp [fldCells] at h
  rcases h with rfl | rfl | rfl <;> rfl
theorem fld_src {w : World} {b o : Nat} {l : List FieldD} (hr : Rows fieldS Any w (some ⟨b, o, none⟩) l) : ∀ j v, (l.flatMap fldCells)[j]? = some v → w.cell? ((⟨b, o, none⟩ : Addr).add j) = some v := by
  intro j v hv
  have hl := flatN_len fldCells 3 fld_len l
  by_cases hj : j < l.length * 3
  · have hk : j / 3 < l.length := by omega
    obtain ⟨b', o', cs, e, _, _, hc, hat⟩ := hr (j / 3) hk
    cases e
    obtain rfl : cs = fldCells l[j / 3] := hat
    have h2 := flatN_at fldCells 3 fld_len l (j / 3) hk (j % 3) (Nat.mod_lt _ (by decide))
    rw [show j / 3 * 3 + j % 3 = j by omega, hv] at h2
    have h3 := hc (j % 3) (Nat.mod_lt _ (by decide))
    rw [show fieldS.n = 3 from rfl, ← h2] at h3
    rw [add_off, ← h3]
    congr 2
    omega
  · rw [List.getElem?_eq_none (by omega)] at hv
    cases hv
def OwnF (w : World) (B : Nat) (v : Value) (l : List FieldD) : Prop := w.ownsRow B 79 3 v l.length (l.flatMap fldCells)
theorem OwnF.nil {w : World} {B : Nat} : OwnF w B (.slice none 0 0) [] := World.ownsRow_nil _ _ _ _
theorem OwnF.alloc {w : World} {B : Nat} {v : Value} {l : List FieldD} (h : OwnF w B v l) (o : Obj) : OwnF (w.alloc o) B v l := World.ownsRow.alloc h o
theorem OwnF.lower {w : World} {B B' : Nat} {v : Value} {l : List FieldD} (h : OwnF w B v l) (hB : B' ≤ B) : OwnF w B' v l :=
  ⟨h.1, h.2.imp id (fun ⟨g, cap, cur, h1, h2, h3⟩ => ⟨g, cap, cur, h1, Nat.le_trans hB h2, h3⟩)⟩
theorem OwnF.below {w w' : World} {B : Nat} {v : Value} {l : List FieldD} (h : OwnF w B v l) (hb : Below w.heap.size w w') : OwnF w' B v l :=
  ⟨h.1, h.2.imp id (fun ⟨g, cap, cur, h1, h2, h3, h4⟩ => ⟨g, cap, cur, h1, h2, (hb.block g (Array.getElem?_eq_some_iff.1 h3).1).trans h3, h4⟩)⟩
theorem fldRows_of {w : World} {B : Nat} {a : Option Addr} {l : List FieldD} (h : OwnC w B a (l.flatMap fldCells)) : Rows fieldS (fun b => B ≤ b) w a l := fun i hi => by
  have hl := flatN_len fldCells 3 fld_len l
  rcases h with h3 | ⟨g, t, cur, rfl, hb, hx, hs, hc⟩
  · rw [h3] at hl
    simp at hl
    omega
  · have hn : fieldS.n = 3 := rfl
    refine ⟨g, 0, fldCells l[i], rfl, hb, hx.lt, fun j hj => ?_, rfl⟩
    rw [hn] at hj ⊢
    rw [Nat.zero_add, hx.cell, hc (i * 3 + j) (by rw [hl]; omega), flatN_at fldCells 3 fld_len l i hi j hj]
theorem OwnF.rows {w : World} {B : Nat} {v : Value} {l : List FieldD} (h : OwnF w B v l) : ∃ a c, v = .slice a l.length c ∧ l.length ≤ c ∧ c ≤ maxLen ∧ OwnC w B a (l.flatMap fldCells) ∧ Rows fieldS (fun b => B ≤ b) w a l := by
  obtain ⟨a, c, rfl, h1, h2, h3⟩ := ownC_of_row h
  exact ⟨a, c, rfl, h1, h2, h3, fldRows_of h3⟩
theorem fld_none {w : World} {l : List FieldD} (hr : Rows fieldS Any w none l) : l = [] := by
  cases l with
  | nil => rfl
  | cons y m =>
    obtain ⟨b, o', cs, e, _⟩ := hr 0 (by simp)
    cases e

/-- append of a whole row to one that the call owns. -/
theorem wp_pushFs {o : Oper} {a : Act} {K : Act → World → Prop} {Q : Exit → Act → World → Prop} (s x : Operand)
    (ho : o.op = .call { callee := .builtin .append, args := #[s, x], argTypes := #[32, 32] })
    (B : Nat) (w : World) (v : Value) (l : List FieldD) (hs : a.eval s = v) (hown : OwnF w B v l) (m : List FieldD) (ao : Option Addr) (c : Nat) (hx : a.eval x = .slice ao m.length c) (hN : Rows fieldS Any w ao m)
    (h63 : l.length + m.length ≤ 100000) (hbase : B ≤ w.heap.size)
    (h : ∀ v' w', OwnF w' B v' (l ++ m) → w.grownBy w' v.ownBlock → (∀ k, v.ownBlock = some k → B ≤ k ∧ k < w.heap.size) → K (a.put o.dst v') w') : Oper.wp Try.prog o a w K Q := by
  obtain ⟨i0, hi, hz0, hz1, hz2⟩ := info_parts infoField
  cases ao with
  | some ad =>
    have hsrc : ∀ j u, (m.flatMap fldCells)[j]? = some u → w.cell? (ad.add j) = some u := by
      by_cases hm : m.length = 0
      · have hm : m = [] := List.eq_nil_of_length_eq_zero hm
        subst hm
        exact fun j u hu => by simp at hu
      · obtain ⟨b, o0, cs, e, _⟩ := hN 0 (by omega)
        cases e
        exact fld_src hN
    obtain ⟨v', w', hr, k1, k2, _, _⟩ := run_append_own_at (P := Try.prog) w B 32 o.type 79 i0 (.agg #[.string ByteArray.empty, .int .i64 0, .int .i64 0]) 3 32 Try.underlying32 hi hz0 hz1 hz2 rfl (by decide) v l.length (l.flatMap fldCells) hown ad m.length c (m.flatMap fldCells) (flatN_len fldCells 3 fld_len m) hsrc fld_one (by unfold maxLen; omega) (by omega) hbase
    unfold Oper.wp execOp
    simp only [ho, resolve, invoke, builtin, Sem.run_bind, Sem.run_pure, Result.andThen_ok, List.map_toArray, List.map_cons, List.map_nil, hs, hx, hr]
    exact h v' w' (by unfold OwnF; rw [List.flatMap_append, List.length_append]; exact k1) k2 (World.ownsRow.lt hown)
  | none =>
    have hm := fld_none hN
    subst hm
    obtain ⟨ba, cc, hv, hc, _, _, _⟩ := hown.rows
    have hr := run_append_nothing (P := Try.prog) w 32 32 o.type 79 i0 Try.underlying32 hi ba l.length cc hc (.slice none 0 c) (Src.ofNil _ Try.underlying32 c)
    unfold Oper.wp execOp
    simp only [ho, resolve, invoke, builtin, Sem.run_bind, Sem.run_pure, Result.andThen_ok, List.map_toArray, List.map_cons, List.map_nil, hs, hv, hx, List.length_nil, hr]
    exact h _ w (by rw [show Value.slice ba l.length cc = v from hv.symm, List.append_nil]; exact hown) ⟨rfl, rfl, rfl, Nat.le_refl _, fun _ _ _ => rfl⟩ (World.ownsRow.lt hown)
theorem wpList_pushFs {ops : Array Oper} {rest : List Oper} {o : Oper} {a : Act} {Q : Exit → Act → World → Prop} (hgd : o.guard = none) (s x : Operand)
    (ho : o.op = .call { callee := .builtin .append, args := #[s, x], argTypes := #[32, 32] })
    (B : Nat) (w : World) (v : Value) (l : List FieldD) (hs : a.eval s = v) (hown : OwnF w B v l) (m : List FieldD) (ao : Option Addr) (c : Nat) (hx : a.eval x = .slice ao m.length c) (hN : Rows fieldS Any w ao m)
    (h63 : l.length + m.length ≤ 100000) (hbase : B ≤ w.heap.size)
    (h : ∀ v' w', OwnF w' B v' (l ++ m) → w.grownBy w' v.ownBlock → (∀ k, v.ownBlock = some k → B ≤ k ∧ k < w.heap.size) → wpList Try.prog ops Q rest (a.put o.dst v') w') : wpList Try.prog ops Q (o :: rest) a w :=
  wpList_plain hgd fun _ hK => wp_pushFs s x ho B w v l hs hown m ao c hx hN h63 hbase (fun v' w' k1 k2 k3 => hK _ _ (h v' w' k1 k2 k3))
theorem step_pushFs {ops : Array Oper} {o : Oper} {a : Act} {K : Act → World → Prop} {Q : Exit → Act → World → Prop} {E : Prop} (hgd : o.guard = none) (s x : Operand)
    (ho : o.op = .call { callee := .builtin .append, args := #[s, x], argTypes := #[32, 32] })
    (B : Nat) (w : World) (v : Value) (l : List FieldD) (hs : a.eval s = v) (hown : OwnF w B v l) (m : List FieldD) (ao : Option Addr) (c : Nat) (hx : a.eval x = .slice ao m.length c) (hN : Rows fieldS Any w ao m)
    (h63 : l.length + m.length ≤ 100000) (hbase : B ≤ w.heap.size)
    (h : ∀ v' w', OwnF w' B v' (l ++ m) → w.grownBy w' v.ownBlock → (∀ k, v.ownBlock = some k → B ≤ k ∧ k < w.heap.size) → K (a.put o.dst v') w') : if Region.wanted o (yielded ops a.tmps) = true then Oper.wp Try.prog o a w K Q else E := by
  have hw : Region.wanted o (yielded ops a.tmps) = true := by simp [Region.wanted, hgd]
  rw [if_pos hw]
  exact wp_pushFs s x ho B w v l hs hown m ao c hx hN h63 hbase h

set_option maxHeartbeats 4000000 in
theorem iClonedField (n : ByteArray) (k t : Int) (w : World) (hn : n.size ≤ 1048576) : Calls Try.prog 90 #[.agg #[.string n, .int .i64 k, .int .i64 t]] w fun e w' => e = .returned (.agg #[.string n, .int .i64 k, .int .i64 t]) ∧ Below w.heap.size w w' := by
  have B0 := Lib.hid (((Below.refl w.heap.size w).alloc (Nat.le_refl _) (.cells #[.string n, .int .i64 k, .int .i64 t] 79)).alloc (by simp) (.cells #[.string ⟨#[]⟩, .int .i64 0, .int .i64 0] 79))
  have X0 := Lib.hid ((Box.new w 79 #[.string n, .int .i64 k, .int .i64 t]).alloc (.cells #[.string ⟨#[]⟩, .int .i64 0, .int .i64 0] 79))
  have Y0 := Lib.hid (Box.new' (w.alloc (.cells #[.string n, .int .i64 k, .int .i64 t] 79)) 79 #[.string ⟨#[]⟩, .int .i64 0, .int .i64 0] (g := w.heap.size + 1) (by simp))
  go_enter Try.func90, Try.ntmps90
  go_wp2_with fail
  generalize (w.alloc (.cells #[.string n, .int .i64 k, .int .i64 t] 79)).alloc (.cells #[.string ⟨#[]⟩, .int .i64 0, .int .i64 0] 79) = wq at *
  have x0 : _ = some (Value.string n) := X0.out.cell 0
  go_wp2_with fail
  refine (iStrClone _ _ hn).mono ?_
  rintro e wc ⟨rfl, hbc⟩
  have X1 := Lib.hid (X0.out.below hbc X0.out.lt)
  have Y1 := Lib.hid (Y0.out.below hbc Y0.out.lt)
  have B1 := Lib.hid (B0.out.trans (hbc.mono B0.out.size))
  clear hbc x0
  have x0 : _ = some (Value.string n) := X1.out.cell 0
  have x1 : _ = some (Value.int .i64 k) := X1.out.cell 1
  have x2 : _ = some (Value.int .i64 t) := X1.out.cell 2
  have f0 := X1.out.free 0
  have y0 : _ = some (Value.string ⟨#[]⟩) := Y1.out.cell 0
  have y1 : _ = some (Value.int .i64 0) := Y1.out.cell 1
  have y2 : _ = some (Value.int .i64 0) := Y1.out.cell 2
  have q0 := Y1.out.free 0
  have q1 := Y1.out.free 1
  have q2 := Y1.out.free 2
  go_wp2_with fail
  refine bodyPost_ret (results_one rfl Try.underlying79 rfl _ _ (w.heap.size + 1) #[.string n, .int .i64 k, .int .i64 t] rfl 79 ((((Y1.out.only ((Only.refl w.heap.size wc).set 0 _) (by omega)).set 0 _).set 1 _).set 2 _) 3 sizeField rfl) rfl ?_
  exact ⟨rfl, (((B1.out.setCell (by simp) _).setCell (by simp) _).setCell (by simp) _).setCell (by simp) _⟩

/-- copy of a row of structs. -/
theorem run_copy_rowsF {P : Program} (w : World) (dT sT ty elem : TypeId) (z g dLen dCap : Nat) (a : Addr) (sLen sCap : Nat) (cur : Array Value) (t : TypeId) (cs : List Value)
    (hu : P.underlying dT = some (.slice elem)) (hs : (P.info? elem).map (·.size) = some z)
    (hg : w.heap[g]? = some (.cells cur t (0, 0))) (hn : cs.length = Nat.min sLen dLen * z)
    (hsrc : ∀ j v, cs[j]? = some v → w.cell? (a.add j) = some v) (hfit : 0 + cs.length ≤ cur.size) (h1 : ∀ v ∈ cs, v.oneCell' = true) :
    (Builtin.copy_ #[dT, sT] ty #[.slice (some ⟨g, 0, none⟩) dLen dCap, .slice (some a) sLen sCap]).run P w =
      .ok (goInt (Nat.min sLen dLen)) (w.setRow g (cur.toList.take 0 ++ cs ++ cur.toList.drop (0 + cs.length)).toArray) := by
  have hl := run_loadCells_list (P := P) w a cs hsrc
  have hst := run_storeCells_at P g 0 t cs 0 cur w hg (by simpa using hfit) h1
  cases hq : P.info? elem with
  | none => simp [hq] at hs
  | some i =>
    have hi : i.size = z := by simpa [hq] using hs
    rw [hn] at hl
    simp [Builtin.copy_, run_underlying hu, Builtin.lenOf, Builtin.firstCells, sizeOf, typeInfo, hq, hi, hl] at hst ⊢
    simp [hst]

set_option maxHeartbeats 4000000 in
theorem iCopiedField (b o c : Nat) (l : List FieldD) (w : World) (h0 : 0 < l.length) (hl : l.length ≤ 1048576) (hr : Rows fieldS Any w (some ⟨b, o, none⟩) l) :
    Calls Try.prog 129 #[.slice (some ⟨b, o, none⟩) l.length c] w fun e w' => e = .returned (.slice (some ⟨w.heap.size, 0, none⟩) l.length l.length) ∧ Box w' w.heap.size 79 (l.flatMap fldCells).toArray ∧ Below w.heap.size w w' := by
  have km := fun W => makeField l.length W hl
  have h1 : ¬ (l.length : Int) = 0 := by omega
  have hfl := flatN_len fldCells 3 fld_len l
  have hsz := size_madeCells #[.string ByteArray.empty, .int .i64 0, .int .i64 0] (l.length * 3)
  have B0 := Lib.hid ((Below.refl w.heap.size w).alloc (Nat.le_refl _) (.cells (madeCells #[.string ByteArray.empty, .int .i64 0, .int .i64 0] (l.length * 3)) 79))
  have X0 := Lib.hid (Box.new w 79 (madeCells #[.string ByteArray.empty, .int .i64 0, .int .i64 0] (l.length * 3)))
  have Hsrc := Lib.hid (fld_src (hr.below B0.out))
  clear hr
  generalize madeCells #[.string ByteArray.empty, .int .i64 0, .int .i64 0] (l.length * 3) = cur at *
  obtain ⟨w2, hrun, hx2, hb2⟩ : ∃ w2, (Builtin.copy_ #[32, 32] 3 #[.slice (some ⟨w.heap.size, 0, none⟩) l.length l.length, .slice (some ⟨b, o, none⟩) l.length c]).run Try.prog (w.alloc (.cells cur 79)) = .ok (.int .i64 (l.length : Int)) w2 ∧ Hid (Box w2 w.heap.size 79 (l.flatMap fldCells).toArray) ∧ Hid (Below w.heap.size w w2) := by
    have h := run_copy_rowsF (P := Try.prog) (w.alloc (.cells cur 79)) 32 32 3 79 3 w.heap.size l.length l.length ⟨b, o, none⟩ l.length c cur 79 (l.flatMap fldCells) Try.underlying32 sizeField X0.out (by rw [hfl, show Nat.min l.length l.length = l.length from Nat.min_self _]) Hsrc.out (by omega) fld_one
    rw [show Nat.min l.length l.length = l.length from Nat.min_self _] at h
    have e : (cur.toList.take 0 ++ l.flatMap fldCells ++ cur.toList.drop (0 + (l.flatMap fldCells).length)) = l.flatMap fldCells := by
      rw [List.drop_of_length_le (by rw [Array.length_toList]; omega)]
      simp
    rw [e] at h
    exact ⟨_, h, Lib.hid (setRow_heap _ w.heap.size _ _ 79 _ X0.out), Lib.hid (below_setRow B0.out (Nat.le_refl _) _)⟩
  go_enter Try.func129, Try.ntmps129
  go_wp2_with fail
  go_ret
  exact ⟨rfl, hx2.out, hb2.out⟩

theorem iCopiedField0 (a : Option Addr) (c : Nat) (w : World) : Calls Try.prog 129 #[.slice a 0 c] w fun e w' => e = .returned (.slice none 0 0) ∧ w = w' := by
  go_enter Try.func129, Try.ntmps129
  go_wp2_with fail
  go_ret
  exact ⟨rfl, rfl⟩

theorem setF_same {arr : Array Value} {i : Nat} {v : Value} (h : arr[i]? = some v) : arr.setIfInBounds i v = arr := by
  apply Array.ext_getElem?
  intro j
  rw [Array.getElem?_setIfInBounds]
  split
  · rename_i e
    subst e
    rw [h]
    split
    · rfl
    · rename_i h2
      rw [Array.getElem?_eq_none (by omega)] at h
      cases h
  · rfl

set_option maxHeartbeats 8000000 in
theorem iClonedFields1 (b o c : Nat) (l : List FieldD) (w : World) (h0 : 0 < l.length) (hl : l.length ≤ 1048576) (hs : ∀ t ∈ l, t.fName.size ≤ 1048576) (hr : Rows fieldS Any w (some ⟨b, o, none⟩) l) :
    Calls Try.prog 89 #[.slice (some ⟨b, o, none⟩) l.length c, .func (.func 90) #[] #[]] w fun e w' => e = .returned (.slice (some ⟨w.heap.size, 0, none⟩) l.length l.length) ∧ Box w' w.heap.size 79 (l.flatMap fldCells).toArray ∧ Below w.heap.size w w' := by
  have Hcp := Lib.hid (iCopiedField b o c l w h0 hl hr)
  have Hs := Lib.hid hs
  have Hat := Lib.hid (fun k (hk : k < l.length) j (hj : j < 3) => (show (l.flatMap fldCells).toArray[k * 3 + j]? = (fldCells l[k])[j]? by rw [List.getElem?_toArray]; exact flatN_at fldCells 3 fld_len l k hk j hj))
  clear hs hr
  generalize (l.flatMap fldCells).toArray = arr at *
  go_enter Try.func89, Try.ntmps89
  go_wp2_with fail
  refine Hcp.out.mono ?_
  rintro e w1 ⟨rfl, hx1, hb1⟩
  have X1 := Lib.hid hx1
  have B1 := Lib.hid hb1
  have hs1 := hb1.size
  clear hx1 hb1 Hcp
  go_wp2_with fail
  go_loopw [11] (fun i wr => ∃ k : Nat, i = .int .i64 k ∧ k ≤ l.length ∧ Box wr w.heap.size 79 arr ∧ Below w.heap.size w wr) (fun i _ => l.length - (intOf i).toNat)
  case atStart => exact ⟨0, rfl, by omega, X1.out, B1.out⟩
  case round =>
    obtain ⟨k, rfl, hk, hx, hbel⟩ := hrel
    have X := Lib.hid hx
    have Bl := Lib.hid hbel
    have hsz := hbel.size
    have hlx := hx.lt
    by_cases hlt : k < l.length
    · have a0 := Hat.out k hlt 0 (by decide)
      have a1 := Hat.out k hlt 1 (by decide)
      have a2 := Hat.out k hlt 2 (by decide)
      have hsk := Hs.out _ (List.getElem_mem hlt)
      generalize l[k] = t at *
      obtain ⟨nm, mk, ty⟩ := t
      change arr[k * 3 + 0]? = some (.string nm) at a0
      change arr[k * 3 + 1]? = some (.int .i64 mk) at a1
      change arr[k * 3 + 2]? = some (.int .i64 ty) at a2
      dsimp only at hsk
      have c0 := (hx.cell (k * 3 + 0)).trans a0
      have c1 := (hx.cell (k * 3 + 1)).trans a1
      have c2 := (hx.cell (k * 3 + 2)).trans a2
      simp only [Nat.add_zero] at c0
      have Hn := Lib.hid hsk
      have A0 := Lib.hid a0
      have A1 := Lib.hid a1
      have A2 := Lib.hid a2
      clear a0 a1 a2 hx hbel hsk
      go_wp2_with fail
      refine (iClonedField nm mk ty _ Hn.out).mono ?_
      rintro e w2 ⟨rfl, hb2⟩
      have X2 := Lib.hid ((X.out.alloc (.cells #[.string nm, .int .i64 mk, .int .i64 ty] 79)).below hb2 (by simp; omega))
      have Bl2 := Lib.hid ((Bl.out.alloc hsz (.cells #[.string nm, .int .i64 mk, .int .i64 ty] 79)).trans (hb2.mono (by simp; omega)))
      clear hb2 c0 c1 c2
      have d0 := (X2.out.cell (k * 3 + 0)).trans A0.out
      have d1 := (X2.out.cell (k * 3 + 1)).trans A1.out
      have d2 := (X2.out.cell (k * 3 + 2)).trans A2.out
      simp only [Nat.add_zero] at d0
      have f0 := X2.out.free
      have X3 := Lib.hid (((X2.out.set (k * 3) (.string nm)).set (k * 3 + 1) (.int .i64 mk)).set (k * 3 + 2) (.int .i64 ty))
      rw [setF_same (show arr[k * 3]? = some (Value.string nm) from A0.out), setF_same A1.out, setF_same A2.out] at X3
      have Bl3 := Lib.hid (((Bl2.out.setCell (p := ⟨w.heap.size, k * 3, none⟩) (Nat.le_refl _) (.string nm)).setCell (p := ⟨w.heap.size, k * 3 + 1, none⟩) (Nat.le_refl _) (.int .i64 mk)).setCell (p := ⟨w.heap.size, k * 3 + 2, none⟩) (Nat.le_refl _) (.int .i64 ty))
      clear A0 A1 A2 X2
      go_wp2_with fail
      exact ⟨⟨k + 1, by congr 1, by omega, X3.out, Bl3.out⟩, by simp [intOf]; omega⟩
    · obtain rfl : k = l.length := by omega
      clear hx hbel
      go_wp2_with fail
      go_ret
      exact ⟨rfl, X.out, Bl.out⟩

theorem iClonedFields0 (a : Option Addr) (c : Nat) (w : World) : Calls Try.prog 89 #[.slice a 0 c, .func (.func 90) #[] #[]] w fun e w' => e = .returned (.slice none 0 0) ∧ w = w' := by
  go_enter Try.func89, Try.ntmps89
  go_wp2_with fail
  refine (iCopiedField0 a c w).mono ?_
  rintro e w1 ⟨rfl, rfl⟩
  go_wp2_with fail
  go_loopw [11] (fun i wr => i = .int .i64 0 ∧ wr = w) (fun _ _ => 0)
  case atStart => exact ⟨rfl, rfl⟩
  case round =>
    obtain ⟨rfl, rfl⟩ := hrel
    go_wp2_with fail
    go_ret
    exact ⟨rfl, rfl⟩

theorem iClonedFields (a : Option Addr) (c : Nat) (l : List FieldD) (w : World) (hl : l.length ≤ 1048576) (hs : ∀ t ∈ l, t.fName.size ≤ 1048576) (hr : Rows fieldS Any w a l) :
    Calls Try.prog 89 #[.slice a l.length c, .func (.func 90) #[] #[]] w fun e w' => ∃ a' c', e = .returned (.slice a' l.length c') ∧ Rows fieldS Any w' a' l ∧ Below w.heap.size w w' := by
  by_cases h0 : l.length = 0
  · obtain rfl : l = [] := List.eq_nil_of_length_eq_zero h0
    refine (iClonedFields0 a c w).mono ?_
    rintro e w1 ⟨rfl, rfl⟩
    exact ⟨none, 0, rfl, Rows.nil, Below.refl _ _⟩
  · obtain ⟨b, o, cs, e, _⟩ := hr 0 (by omega)
    subst e
    refine (iClonedFields1 b o c l w (by omega) hl hs hr).mono ?_
    rintro e w1 ⟨rfl, hx, hb⟩
    refine ⟨_, _, rfl, (fldRows_of (.inr ⟨w.heap.size, _, _, rfl, Nat.le_refl _, hx, by simp, fun i _ => by simp⟩)).any, hb⟩
end Go.Proofs.Ytlfigpdjhljdnaa
