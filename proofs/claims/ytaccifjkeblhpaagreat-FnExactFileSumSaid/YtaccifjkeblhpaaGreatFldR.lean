
/-
  What is proved: the contract of strings.Clone; rows of fields that the call owns: append of a whole row to one; copied and cloned: contracts of the program's clonedField, copied and clonedEach on fields; rows of params: copied; contracts of the program's copied on params. No condition beside what each theorem states.
-/
import Derived.Test.YtaccifjkeblhpaaGreatStrs
import Derived.Test.YtaccifjkeblhpaaGreatShelf
import Derived.Test.YtaccifjkeblhpaaGreatStType
import Derived.Test.YtaccifjkeblhpaaGreatPushAll
import Derived.Laws.CopyRow
import Derived.Laws.CopyOwn
import Derived.Maps.AppendAt
import Derived.Test.YtaccifjkeblhpaaGreatStParam
namespace Go.Proofs.YtaccifjkeblhpaaGreat
open Go.ChangeShapes Go.WideShapes Go.ChangeAt Go.RowKit

theorem iStrClone (s : ByteArray) (w : World) (hs : s.size ≤ 1048576) : Calls Tryz.prog 80 #[.string s] w fun e w' => e = .returned (.string s) ∧ Below w.heap.size w w' := by
  have hc := Tryz.stringslite_Clone s w (by omega)
  have Hc := Lib.hid hc
  clear hc
  go_enter Tryz.func80, Tryz.ntmps80
  go_wp2_with fail
  refine Hc.out.mono ?_
  rintro e w1 ⟨rfl, hb1⟩
  have B1 := Lib.hid hb1
  clear hb1
  go_wp2_with fail
  go_ret
  exact ⟨rfl, B1.out⟩
end Go.Proofs.YtaccifjkeblhpaaGreat

namespace Go.Proofs.YtaccifjkeblhpaaGreat
open Go.ChangeShapes Go.WideShapes Go.ChangeAt Go.RowKit
set_option maxRecDepth 100000

theorem flatN_len {T : Type} (f : T → List Value) (n : Nat) (hf : ∀ x, (f x).length = n) : ∀ l : List T, (l.flatMap f).length = l.length * n
  | [] => by simp
  | x :: l => by
    rw [List.flatMap_cons, List.length_append, hf, flatN_len f n hf l, List.length_cons, Nat.add_mul]
    omega
theorem flatN_at {T : Type} (f : T → List Value) (n : Nat) (hf : ∀ x, (f x).length = n) : ∀ (l : List T) (k : Nat) (h : k < l.length) (j : Nat), j < n → (l.flatMap f)[k * n + j]? = (f l[k])[j]?
  | [], k, h, _, _ => absurd h (by simp)
  | x :: l, k, h, j, hj => by
    rw [List.flatMap_cons]
    cases k with
    | zero => rw [Nat.zero_mul, Nat.zero_add, List.getElem?_append_left (by rw [hf]; exact hj)]; rfl
    | succ k =>
      rw [List.getElem?_append_right (by rw [hf, Nat.add_mul]; omega), hf, show (k + 1) * n + j - n = k * n + j by rw [Nat.add_mul]; omega, flatN_at f n hf l k (by simpa using h) j hj]
      rfl
def fldCells (f : FieldD) : List Value := [.string f.fName, .int .i64 f.fMark, .int .i64 f.fType]
theorem fld_len (f : FieldD) : (fldCells f).length = 3 := rfl
theorem fld_one {l : List FieldD} : ∀ v ∈ l.flatMap fldCells, v.oneCell' = true := by
  intro v hv
  obtain ⟨t, _, h⟩ := List.mem_flatMap.1 hv
  simp [fldCells] at h
  rcases h with rfl | rfl | rfl <;> rfl
theorem fld_src {w : World} {b o : Nat} {l : List FieldD} (hr : Rows fieldS Any w (some ⟨b, o, none⟩) l) : ∀ j v, (l.flatMap fldCells)[j]? = some v → w.cell? ((⟨b, o, none⟩ : Addr).add j) = some v := by
  intro j v hv
  have hl := flatN_len fldCells 3 fld_len l
  by_cases hj : j < l.length * 3
  · have hk : j / 3 < l.length := by omega
    obtain ⟨b', o', cs, e, _, _, hc, hat⟩ := hr (j / 3) hk
    cases e
    obtain rfl : cs = fldCells l[j / 3] := hat
    have h2 := flatN_at fldCells 3 fld_len l (j / 3) hk (j % 3) (Nat.mod_lt _ (by decide))
    rw [show j / 3 * 3 + j % 3 = j by omega, hv] at h2
    have h3 := hc (j % 3) (Nat.mod_lt _ (by decide))
    rw [show fieldS.n = 3 from rfl, ← h2] at h3
    rw [add_off, ← h3]
    congr 2
    omega
  · rw [List.getElem?_eq_none (by omega)] at hv
    cases hv
def OwnF (w : World) (B : Nat) (v : Value) (l : List FieldD) : Prop := w.ownsRow B 135 3 v l.length (l.flatMap fldCells)
theorem OwnF.nil {w : World} {B : Nat} : OwnF w B (.slice none 0 0) [] := World.ownsRow_nil _ _ _ _
theorem OwnF.alloc {w : World} {B : Nat} {v : Value} {l : List FieldD} (h : OwnF w B v l) (o : Obj) : OwnF (w.alloc o) B v l := World.ownsRow.alloc h o
theorem OwnF.lower {w : World} {B B' : Nat} {v : Value} {l : List FieldD} (h : OwnF w B v l) (hB : B' ≤ B) : OwnF w B' v l :=
  ⟨h.1, h.2.imp id (fun ⟨g, cap, cur, h1, h2, h3⟩ => ⟨g, cap, cur, h1, Nat.le_trans hB h2, h3⟩)⟩
theorem OwnF.below {w w' : World} {B : Nat} {v : Value} {l : List FieldD} (h : OwnF w B v l) (hb : Below w.heap.size w w') : OwnF w' B v l :=
  ⟨h.1, h.2.imp id (fun ⟨g, cap, cur, h1, h2, h3, h4⟩ => ⟨g, cap, cur, h1, h2, (hb.block g (Array.getElem?_eq_some_iff.1 h3).1).trans h3, h4⟩)⟩
theorem fldRows_of {w : World} {B : Nat} {a : Option Addr} {l : List FieldD} (h : OwnC w B a (l.flatMap fldCells)) : Rows fieldS (fun b => B ≤ b) w a l := fun i hi => by
  have hl := flatN_len fldCells 3 fld_len l
  rcases h with h3 | ⟨g, t, cur, rfl, hb, hx, hs, hc⟩
  · rw [h3] at hl
    simp at hl
    omega
  · have hn : fieldS.n = 3 := rfl
    refine ⟨g, 0, fldCells l[i], rfl, hb, hx.lt, fun j hj => ?_, rfl⟩
    rw [hn] at hj ⊢
    rw [Nat.zero_add, hx.cell, hc (i * 3 + j) (by rw [hl]; omega), flatN_at fldCells 3 fld_len l i hi j hj]
theorem OwnF.rows {w : World} {B : Nat} {v : Value} {l : List FieldD} (h : OwnF w B v l) : ∃ a c, v = .slice a l.length c ∧ l.length ≤ c ∧ c ≤ maxLen ∧ OwnC w B a (l.flatMap fldCells) ∧ Rows fieldS (fun b => B ≤ b) w a l := by
  obtain ⟨a, c, rfl, h1, h2, h3⟩ := ownC_of_row h
  exact ⟨a, c, rfl, h1, h2, h3, fldRows_of h3⟩
/-- copy of a row of structs. -/
theorem run_copy_rowsF {P : Program} (w : World) (dT sT ty elem : TypeId) (z g dLen dCap : Nat) (a : Addr) (sLen sCap : Nat) (cur : Array Value) (t : TypeId) (cs : List Value)
    (hu : P.underlying dT = some (.slice elem)) (hs : (P.info? elem).map (·.size) = some z)
    (hg : w.heap[g]? = some (.cells cur t (0, 0))) (hn : cs.length = Nat.min sLen dLen * z)
    (hsrc : ∀ j v, cs[j]? = some v → w.cell? (a.add j) = some v) (hfit : 0 + cs.length ≤ cur.size) (h1 : ∀ v ∈ cs, v.oneCell' = true) :
    (Builtin.copy_ #[dT, sT] ty #[.slice (some ⟨g, 0, none⟩) dLen dCap, .slice (some a) sLen sCap]).run P w =
      .ok (goInt (Nat.min sLen dLen)) (w.setRow g (cur.toList.take 0 ++ cs ++ cur.toList.drop (0 + cs.length)).toArray) := by
  have hl := run_loadCells_list (P := P) w a cs hsrc
  have hst := run_storeCells_at P g 0 t cs 0 cur w hg (by simpa using hfit) h1
  cases hq : P.info? elem with
  | none => simp [hq] at hs
  | some i =>
    have hi : i.size = z := by simpa [hq] using hs
    rw [hn] at hl
    simp [Builtin.copy_, run_underlying hu, Builtin.lenOf, Builtin.firstCells, sizeOf, typeInfo, hq, hi, hl] at hst ⊢
    simp [hst]

set_option maxHeartbeats 4000000 in
theorem iCopiedField (b o c : Nat) (l : List FieldD) (w : World) (h0 : 0 < l.length) (hl : l.length ≤ 1048576) (hr : Rows fieldS Any w (some ⟨b, o, none⟩) l) :
    Calls Tryz.prog 159 #[.slice (some ⟨b, o, none⟩) l.length c] w fun e w' => e = .returned (.slice (some ⟨w.heap.size, 0, none⟩) l.length l.length) ∧ Box w' w.heap.size 135 (l.flatMap fldCells).toArray ∧ Below w.heap.size w w' := by
  have km := fun W => makeField l.length W hl
  have h1 : ¬ (l.length : Int) = 0 := by omega
  have hfl := flatN_len fldCells 3 fld_len l
  have hsz := size_madeCells #[.string ByteArray.empty, .int .i64 0, .int .i64 0] (l.length * 3)
  have B0 := Lib.hid ((Below.refl w.heap.size w).alloc (Nat.le_refl _) (.cells (madeCells #[.string ByteArray.empty, .int .i64 0, .int .i64 0] (l.length * 3)) 135))
  have X0 := Lib.hid (Box.new w 135 (madeCells #[.string ByteArray.empty, .int .i64 0, .int .i64 0] (l.length * 3)))
  have Hsrc := Lib.hid (fld_src (hr.below B0.out))
  clear hr
  generalize madeCells #[.string ByteArray.empty, .int .i64 0, .int .i64 0] (l.length * 3) = cur at *
  obtain ⟨w2, hrun, hx2, hb2⟩ : ∃ w2, (Builtin.copy_ #[70, 70] 3 #[.slice (some ⟨w.heap.size, 0, none⟩) l.length l.length, .slice (some ⟨b, o, none⟩) l.length c]).run Tryz.prog (w.alloc (.cells cur 135)) = .ok (.int .i64 (l.length : Int)) w2 ∧ Hid (Box w2 w.heap.size 135 (l.flatMap fldCells).toArray) ∧ Hid (Below w.heap.size w w2) := by
    have h := run_copy_rowsF (P := Tryz.prog) (w.alloc (.cells cur 135)) 70 70 3 135 3 w.heap.size l.length l.length ⟨b, o, none⟩ l.length c cur 135 (l.flatMap fldCells) Tryz.underlying70 sizeField X0.out (by rw [hfl, show Nat.min l.length l.length = l.length from Nat.min_self _]) Hsrc.out (by omega) fld_one
    rw [show Nat.min l.length l.length = l.length from Nat.min_self _] at h
    have e : (cur.toList.take 0 ++ l.flatMap fldCells ++ cur.toList.drop (0 + (l.flatMap fldCells).length)) = l.flatMap fldCells := by
      rw [List.drop_of_length_le (by rw [Array.length_toList]; omega)]
      simp
    rw [e] at h
    exact ⟨_, h, Lib.hid (setRow_heap _ w.heap.size _ _ 135 _ X0.out), Lib.hid (below_setRow B0.out (Nat.le_refl _) _)⟩
  go_enter Tryz.func159, Tryz.ntmps159
  go_wp2_with fail
  go_ret
  exact ⟨rfl, hx2.out, hb2.out⟩

theorem iCopiedField0 (a : Option Addr) (c : Nat) (w : World) : Calls Tryz.prog 159 #[.slice a 0 c] w fun e w' => e = .returned (.slice none 0 0) ∧ w = w' := by
  go_enter Tryz.func159, Tryz.ntmps159
  go_wp2_with fail
  go_ret
  exact ⟨rfl, rfl⟩

theorem setF_same {arr : Array Value} {i : Nat} {v : Value} (h : arr[i]? = some v) : arr.setIfInBounds i v = arr := by
  apply Array.ext_getElem?
  intro j
  rw [Array.getElem?_setIfInBounds]
  split
  · rename_i e
    subst e
    rw [h]
    split
    · rfl
    · rename_i h2
      rw [Array.getElem?_eq_none (by omega)] at h
      cases h
  · rfl

end Go.Proofs.YtaccifjkeblhpaaGreat

namespace Go.Proofs.YtaccifjkeblhpaaGreat
open Go.ChangeShapes Go.WideShapes Go.ChangeAt Go.RowKit
set_option maxRecDepth 100000

def parCells (f : ParamD) : List Value := [.string f.fName, .bool f.fByVar, .int .i64 f.fType]
theorem par_len (f : ParamD) : (parCells f).length = 3 := rfl
theorem par_one {l : List ParamD} : ∀ v ∈ l.flatMap parCells, v.oneCell' = true := by
  intro v hv
  obtain ⟨t, _, h⟩ := List.mem_flatMap.1 hv
  simp [parCells] at h
  rcases h with rfl | rfl | rfl <;> rfl
theorem par_src {w : World} {b o : Nat} {l : List ParamD} (hr : Rows paramS Any w (some ⟨b, o, none⟩) l) : ∀ j v, (l.flatMap parCells)[j]? = some v → w.cell? ((⟨b, o, none⟩ : Addr).add j) = some v := by
  intro j v hv
  have hl := flatN_len parCells 3 par_len l
  by_cases hj : j < l.length * 3
  · have hk : j / 3 < l.length := by omega
    obtain ⟨b', o', cs, e, _, _, hc, hat⟩ := hr (j / 3) hk
    cases e
    obtain rfl : cs = parCells l[j / 3] := hat
    have h2 := flatN_at parCells 3 par_len l (j / 3) hk (j % 3) (Nat.mod_lt _ (by decide))
    rw [show j / 3 * 3 + j % 3 = j by omega, hv] at h2
    have h3 := hc (j % 3) (Nat.mod_lt _ (by decide))
    rw [show paramS.n = 3 from rfl, ← h2] at h3
    rw [add_off, ← h3]
    congr 2
    omega
  · rw [List.getElem?_eq_none (by omega)] at hv
    cases hv
set_option maxHeartbeats 4000000 in
theorem iCopiedParam (b o c : Nat) (l : List ParamD) (w : World) (h0 : 0 < l.length) (hl : l.length ≤ 1048576) (hr : Rows paramS Any w (some ⟨b, o, none⟩) l) :
    Calls Tryz.prog 123 #[.slice (some ⟨b, o, none⟩) l.length c] w fun e w' => e = .returned (.slice (some ⟨w.heap.size, 0, none⟩) l.length l.length) ∧ Box w' w.heap.size 107 (l.flatMap parCells).toArray ∧ Below w.heap.size w w' := by
  have km := fun W => makeParam l.length W hl
  have h1 : ¬ (l.length : Int) = 0 := by omega
  have hfl := flatN_len parCells 3 par_len l
  have hsz := size_madeCells #[.string ByteArray.empty, .bool false, .int .i64 0] (l.length * 3)
  have B0 := Lib.hid ((Below.refl w.heap.size w).alloc (Nat.le_refl _) (.cells (madeCells #[.string ByteArray.empty, .bool false, .int .i64 0] (l.length * 3)) 107))
  have X0 := Lib.hid (Box.new w 107 (madeCells #[.string ByteArray.empty, .bool false, .int .i64 0] (l.length * 3)))
  have Hsrc := Lib.hid (par_src (hr.below B0.out))
  clear hr
  generalize madeCells #[.string ByteArray.empty, .bool false, .int .i64 0] (l.length * 3) = cur at *
  obtain ⟨w2, hrun, hx2, hb2⟩ : ∃ w2, (Builtin.copy_ #[76, 76] 3 #[.slice (some ⟨w.heap.size, 0, none⟩) l.length l.length, .slice (some ⟨b, o, none⟩) l.length c]).run Tryz.prog (w.alloc (.cells cur 107)) = .ok (.int .i64 (l.length : Int)) w2 ∧ Hid (Box w2 w.heap.size 107 (l.flatMap parCells).toArray) ∧ Hid (Below w.heap.size w w2) := by
    have h := run_copy_rowsF (P := Tryz.prog) (w.alloc (.cells cur 107)) 76 76 3 107 3 w.heap.size l.length l.length ⟨b, o, none⟩ l.length c cur 107 (l.flatMap parCells) Tryz.underlying76 sizeParam X0.out (by rw [hfl, show Nat.min l.length l.length = l.length from Nat.min_self _]) Hsrc.out (by omega) par_one
    rw [show Nat.min l.length l.length = l.length from Nat.min_self _] at h
    have e : (cur.toList.take 0 ++ l.flatMap parCells ++ cur.toList.drop (0 + (l.flatMap parCells).length)) = l.flatMap parCells := by
      rw [List.drop_of_length_le (by rw [Array.length_toList]; omega)]
      simp
    rw [e] at h
    exact ⟨_, h, Lib.hid (setRow_heap _ w.heap.size _ _ 107 _ X0.out), Lib.hid (below_setRow B0.out (Nat.le_refl _) _)⟩
  go_enter Tryz.func123, Tryz.ntmps123
  go_wp2_with fail
  go_ret
  exact ⟨rfl, hx2.out, hb2.out⟩

theorem iCopiedParam0 (a : Option Addr) (c : Nat) (w : World) : Calls Tryz.prog 123 #[.slice a 0 c] w fun e w' => e = .returned (.slice none 0 0) ∧ w = w' := by
  go_enter Tryz.func123, Tryz.ntmps123
  go_wp2_with fail
  go_ret
  exact ⟨rfl, rfl⟩

/-- Params copied, however many. -/
def CopP (w' : World) (B : Nat) (fa : Option Addr) (cf : Nat) (fs : List ParamD) : Prop := (fs = [] ∧ fa = none ∧ cf = 0) ∨ (fs ≠ [] ∧ ∃ fb, fa = some ⟨fb, 0, none⟩ ∧ B ≤ fb ∧ cf = fs.length ∧ Box w' fb 107 (fs.flatMap parCells).toArray)
theorem iCopiedPs (a : Option Addr) (c : Nat) (fs : List ParamD) (w : World) (hl : fs.length ≤ 1048576) (hr : Rows paramS Any w a fs) :
    Calls Tryz.prog 123 #[.slice a fs.length c] w fun e w' => ∃ fa cf, e = .returned (.slice fa fs.length cf) ∧ CopP w' w.heap.size fa cf fs ∧ Below w.heap.size w w' := by
  by_cases h0 : fs.length = 0
  · obtain rfl : fs = [] := List.eq_nil_of_length_eq_zero h0
    refine (iCopiedParam0 a c w).mono ?_
    rintro e w1 ⟨rfl, rfl⟩
    exact ⟨none, 0, rfl, .inl ⟨rfl, rfl, rfl⟩, Below.refl _ _⟩
  · obtain ⟨b, o, cs, e, _⟩ := hr 0 (by omega)
    subst e
    refine (iCopiedParam b o c fs w (by omega) hl hr).mono ?_
    rintro e w1 ⟨rfl, hx, hb⟩
    exact ⟨_, _, rfl, .inr ⟨fun e => h0 (by rw [e]; rfl), _, rfl, Nat.le_refl _, rfl, hx⟩, hb⟩

theorem par_rowsQ {w : World} {fb : Nat} {t : TypeId} {L : List ParamD} {Q : Nat → Prop} (hx : Box w fb t (L.flatMap parCells).toArray) (hQ : Q fb) : Rows paramS Q w (some ⟨fb, 0, none⟩) L := fun i hi => by
  have hn : paramS.n = 3 := rfl
  refine ⟨fb, 0, parCells L[i], rfl, hQ, hx.lt, fun j hj => ?_, rfl⟩
  rw [hn] at hj ⊢
  rw [Nat.zero_add, hx.cell, List.getElem?_toArray, flatN_at parCells 3 par_len L i hi j hj]
theorem parA_set {L : List ParamD} {k : Nat} (x : ParamD) (h : k < L.length) : ((L.set k x).flatMap parCells).toArray = (((L.flatMap parCells).toArray.setIfInBounds (k * 3) (.string x.fName)).setIfInBounds (k * 3 + 1) (.bool x.fByVar)).setIfInBounds (k * 3 + 2) (.int .i64 x.fType) := by
  have key : ∀ (L : List ParamD) (k : Nat) (x : ParamD), k < L.length → (L.set k x).flatMap parCells = (((L.flatMap parCells).set (k * 3) (.string x.fName)).set (k * 3 + 1) (.bool x.fByVar)).set (k * 3 + 2) (.int .i64 x.fType) := by
    intro L
    induction L with
    | nil => intro k x h; exact absurd h (by simp)
    | cons y L ih =>
      intro k x h
      cases k with
      | zero => simp [parCells]
      | succ k =>
        rw [List.set_cons_succ, List.flatMap_cons, List.flatMap_cons, ih k x (by simpa using h), show (k + 1) * 3 = k * 3 + 1 + 1 + 1 by omega]
        rfl
  rw [key L k x h]
  simp
theorem parA_get {L : List ParamD} {k : Nat} {f : ParamD} (h : L[k]? = some f) : (L.flatMap parCells).toArray[k * 3]? = some (.string f.fName) ∧ (L.flatMap parCells).toArray[k * 3 + 1]? = some (.bool f.fByVar) ∧ (L.flatMap parCells).toArray[k * 3 + 2]? = some (.int .i64 f.fType) := by
  obtain ⟨hk, rfl⟩ := List.getElem?_eq_some_iff.1 h
  have h0 := flatN_at parCells 3 par_len L k hk 0 (by decide)
  have h1 := flatN_at parCells 3 par_len L k hk 1 (by decide)
  have h2 := flatN_at parCells 3 par_len L k hk 2 (by decide)
  rw [List.getElem?_toArray, List.getElem?_toArray, List.getElem?_toArray]
  exact ⟨h0, h1, h2⟩

end Go.Proofs.YtaccifjkeblhpaaGreat
