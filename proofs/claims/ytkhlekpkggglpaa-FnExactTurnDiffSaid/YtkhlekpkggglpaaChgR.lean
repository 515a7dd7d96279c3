
/-
  What is proved: rows of changes that the call owns: append on them, marks in them; copied and turned: contracts of the program's turnedChange, copied and clonedEach on changes, and of both TurnDiff. No condition beside what each theorem states.
-/
import Derived.Test.YtkhlekpkggglpaaUnlike
import Derived.Test.YtkhlekpkggglpaaStrClone
import Derived.Test.YtkhlekpkggglpaaMkChange
import Derived.Test.YtkhlekpkggglpaaChgG
import Derived.Laws.CopyRow
import Derived.Deep.AppendLies
import Derived.Deep.RegionWith
namespace Go.Proofs.Ytkhlekpkggglpaa
open Go.ChangeShapes Go.WideShapes Go.ChangeAt Go.RowKit
set_option maxRecDepth 100000

theorem flatC_len {T : Type} (f : T → List Value) (n : Nat) (hf : ∀ x, (f x).length = n) : ∀ l : List T, (l.flatMap f).length = l.length * n
  | [] => by simp
  | x :: l => by
    rw [List.flatMap_cons, List.length_append, hf, flatC_len f n hf l, List.length_cons, Nat.add_mul]
    omega
theorem flatC_at {T : Type} (f : T → List Value) (n : Nat) (hf : ∀ x, (f x).length = n) : ∀ (l : List T) (k : Nat) (h : k < l.length) (j : Nat), j < n → (l.flatMap f)[k * n + j]? = (f l[k])[j]?
  | [], k, h, _, _ => absurd h (by simp)
  | x :: l, k, h, j, hj => by
    rw [List.flatMap_cons]
    cases k with
    | zero => rw [Nat.zero_mul, Nat.zero_add, List.getElem?_append_left (by rw [hf]; exact hj)]; rfl
    | succ k =>
      rw [List.getElem?_append_right (by rw [hf, Nat.add_mul]; omega), hf, show (k + 1) * n + j - n = k * n + j by rw [Nat.add_mul]; omega, flatC_at f n hf l k (by simpa using h) j hj]
      rfl
def chgCells (t : ChangeD) : List Value := [.string t.fName, .int .i64 t.fKind]
theorem chg_len (t : ChangeD) : (chgCells t).length = 2 := rfl
theorem chgRows_of {w : World} {B : Nat} {a : Option Addr} {l : List ChangeD} (h : OwnC w B a (l.flatMap chgCells)) : Rows changeS (fun b => B ≤ b) w a l := fun i hi => by
  rcases h with h3 | ⟨g, t, cur, rfl, hb, hx, hs, hc⟩
  · have := flatC_len chgCells 2 chg_len l
    rw [h3] at this
    simp at this
    omega
  · have hn : changeS.n = 2 := rfl
    refine ⟨g, 0, chgCells l[i], rfl, hb, hx.lt, fun j hj => ?_, rfl⟩
    have hl := flatC_len chgCells 2 chg_len l
    rw [hn] at hj ⊢
    rw [Nat.zero_add, hx.cell, hc (i * 2 + j) (by rw [hl]; omega), flatC_at chgCells 2 chg_len l i hi j hj]
theorem lMarkChgs (B : Nat) (a : Option Addr) (c : Nat) (l : List ChangeD) (k : Int) (w : World) (hown : OwnC w B a (l.flatMap chgCells)) (hB : B ≤ w.heap.size) (hl : l.length ≤ 1048576) (hk : 0 < k) (hk2 : k ≤ 1000000000) :
    Calls Try.prog 16 #[.slice a l.length c, .int .i64 k] w fun e w' => e = .returned (.int .i64 (k + 2 * (l.length : Int))) ∧ Rows changeS Any w' a (mkChangeL l.length k) ∧ Below B w w' := by
  have hln := flatC_len chgCells 2 chg_len l
  rcases hown with h | ⟨g, t, cur, rfl, h2, h3, h4, _⟩
  · have : l = [] := by
      rw [h, List.length_nil] at hln
      exact List.eq_nil_of_length_eq_zero (by omega)
    subst this
    refine (lMarkChangeS0 a c k w).mono ?_
    rintro e w' ⟨rfl, rfl⟩
    exact ⟨by simp, Rows.nil, Below.refl _ _⟩
  · exact lMarkChangeS B g 0 c l.length t cur k w h2 hB hl hk hk2 h3 (by rw [hln] at h4; omega)

def OwnChgs (w : World) (B : Nat) (v : Value) (l : List ChangeD) : Prop := w.ownsRow B 55 2 v l.length (l.flatMap chgCells)
theorem OwnChgs.nil {w : World} {B : Nat} : OwnChgs w B (.slice none 0 0) [] := World.ownsRow_nil _ _ _ _
theorem OwnChgs.alloc {w : World} {B : Nat} {v : Value} {l : List ChangeD} (h : OwnChgs w B v l) (o : Obj) : OwnChgs (w.alloc o) B v l := World.ownsRow.alloc h o
theorem OwnChgs.lower {w : World} {B B' : Nat} {v : Value} {l : List ChangeD} (h : OwnChgs w B v l) (hB : B' ≤ B) : OwnChgs w B' v l :=
  ⟨h.1, h.2.imp id (fun ⟨g, cap, cur, h1, h2, h3⟩ => ⟨g, cap, cur, h1, Nat.le_trans hB h2, h3⟩)⟩
theorem OwnChgs.below {w w' : World} {B : Nat} {v : Value} {l : List ChangeD} (h : OwnChgs w B v l) (hb : Below w.heap.size w w') : OwnChgs w' B v l :=
  ⟨h.1, h.2.imp id (fun ⟨g, cap, cur, h1, h2, h3, h4⟩ => ⟨g, cap, cur, h1, h2, (hb.block g (Array.getElem?_eq_some_iff.1 h3).1).trans h3, h4⟩)⟩
theorem OwnChgs.rows {w : World} {B : Nat} {v : Value} {l : List ChangeD} (h : OwnChgs w B v l) : ∃ a c, v = .slice a l.length c ∧ l.length ≤ c ∧ c ≤ maxLen ∧ OwnC w B a (l.flatMap chgCells) ∧ Rows changeS (fun b => B ≤ b) w a l := by
  obtain ⟨a, c, rfl, h1, h2, h3⟩ := ownC_of_row h
  exact ⟨a, c, rfl, h1, h2, h3, chgRows_of h3⟩

/-- append of one change to a row of these that the call owns. -/
theorem wpList_pushChg {ops : Array Oper} {rest : List Oper} {o : Oper} {a : Act} {Q : Exit → Act → World → Prop} (hgd : o.guard = none) (s x : Operand)
    (ho : o.op = .call { callee := .builtin .append, args := #[s, x], argTypes := #[31, 31] })
    (B : Nat) (w : World) (v : Value) (l : List ChangeD) (hs : a.eval s = v) (g : Nat) (hown : OwnChgs w B v l) (u : ChangeD) (hx : a.eval x = .slice (some ⟨g, 0, none⟩) 1 1) (hg : Box w g 55 #[.string u.fName, .int .i64 u.fKind])
    (h63 : l.length + 1 ≤ 1048577 + 1048576) (hbase : B ≤ w.heap.size)
    (h : ∀ v' w', OwnChgs w' B v' (l ++ [u]) → w.grownBy w' v.ownBlock → (∀ k, v.ownBlock = some k → B ≤ k ∧ k < w.heap.size) → wpList Try.prog ops Q rest (a.put o.dst v') w') : wpList Try.prog ops Q (o :: rest) a w := by
  obtain ⟨i0, hi, hz0, hz1, hz2⟩ := info_parts infoChange
  refine wpList_append_own _ hgd s x 31 ho B 55 i0 _ 2 24 Try.underlying31 hi hz0 hz1 hz2 rfl (by decide) v l.length (l.flatMap chgCells) hs hown ⟨g, 0, none⟩ 1 1 (chgCells u) hx rfl ?_
    (fun y hy => by
      rcases List.mem_cons.1 hy with rfl | hy
      · rfl
      rw [List.mem_singleton.1 hy]
      rfl) (by unfold maxLen; omega) (by omega) (by omega) (fun v' w' h1 h2 _ => h v' w' (by unfold OwnChgs; rw [List.flatMap_append, List.length_append]; simpa using h1) h2 (World.ownsRow.lt hown))
  intro j u' hu
  have e : (⟨g, 0, none⟩ : Addr).add j = ⟨g, j, none⟩ := by unfold Addr.add; split <;> simp_all
  rw [e, hg.cell]
  simpa [chgCells] using hu

/-- copy of a row of structs. -/
theorem run_copy_rowsC {P : Program} (w : World) (dT sT ty elem : TypeId) (z g dLen dCap : Nat) (a : Addr) (sLen sCap : Nat) (cur : Array Value) (t : TypeId) (cs : List Value)
    (hu : P.underlying dT = some (.slice elem)) (hs : (P.info? elem).map (·.size) = some z)
    (hg : w.heap[g]? = some (.cells cur t (0, 0))) (hn : cs.length = Nat.min sLen dLen * z)
    (hsrc : ∀ j v, cs[j]? = some v → w.cell? (a.add j) = some v) (hfit : 0 + cs.length ≤ cur.size) (h1 : ∀ v ∈ cs, v.oneCell' = true) :
    (Builtin.copy_ #[dT, sT] ty #[.slice (some ⟨g, 0, none⟩) dLen dCap, .slice (some a) sLen sCap]).run P w =
      .ok (goInt (Nat.min sLen dLen)) (w.setRow g (cur.toList.take 0 ++ cs ++ cur.toList.drop (0 + cs.length)).toArray) := by
  have hl := run_loadCells_list (P := P) w a cs hsrc
  have hst := run_storeCells_at P g 0 t cs 0 cur w hg (by simpa using hfit) h1
  cases hq : P.info? elem with
  | none => simp [hq] at hs
  | some i =>
    have hi : i.size = z := by simpa [hq] using hs
    rw [hn] at hl
    simp [Builtin.copy_, run_underlying hu, Builtin.lenOf, Builtin.firstCells, sizeOf, typeInfo, hq, hi, hl] at hst ⊢
    simp [hst]

theorem chg_one {l : List ChangeD} : ∀ v ∈ l.flatMap chgCells, v.oneCell' = true := by
  intro v hv
  obtain ⟨t, _, h⟩ := List.mem_flatMap.1 hv
  simp [chgCells] at h
  rcases h with rfl | rfl <;> rfl
theorem chg_src {w : World} {b o : Nat} {l : List ChangeD} (hr : Rows changeS Any w (some ⟨b, o, none⟩) l) : ∀ j v, (l.flatMap chgCells)[j]? = some v → w.cell? ((⟨b, o, none⟩ : Addr).add j) = some v := by
  intro j v hv
  have hl := flatC_len chgCells 2 chg_len l
  by_cases hj : j < l.length * 2
  · have hk : j / 2 < l.length := by omega
    obtain ⟨b', o', cs, e, _, _, hc, hat⟩ := hr (j / 2) hk
    cases e
    obtain rfl : cs = chgCells l[j / 2] := hat
    have h2 := flatC_at chgCells 2 chg_len l (j / 2) hk (j % 2) (Nat.mod_lt _ (by decide))
    rw [show j / 2 * 2 + j % 2 = j by omega, hv] at h2
    have h3 := hc (j % 2) (Nat.mod_lt _ (by decide))
    rw [show changeS.n = 2 from rfl, ← h2] at h3
    rw [addr_add, ← h3]
    congr 2
    omega
  · rw [List.getElem?_eq_none (by omega)] at hv
    cases hv

set_option maxHeartbeats 4000000 in
theorem iCopiedChange (b o c : Nat) (l : List ChangeD) (w : World) (h0 : 0 < l.length) (hl : l.length ≤ 1048576) (hr : Rows changeS Any w (some ⟨b, o, none⟩) l) :
    Calls Try.prog 59 #[.slice (some ⟨b, o, none⟩) l.length c] w fun e w' => e = .returned (.slice (some ⟨w.heap.size, 0, none⟩) l.length l.length) ∧ Box w' w.heap.size 55 (l.flatMap chgCells).toArray ∧ Below w.heap.size w w' := by
  have km := fun W => makeChange l.length W hl
  have h1 : ¬ (l.length : Int) = 0 := by omega
  have hfl := flatC_len chgCells 2 chg_len l
  have hsz := size_madeCells #[.string ByteArray.empty, .int .i64 0] (l.length * 2)
  have B0 := Lib.hid ((Below.refl w.heap.size w).alloc (Nat.le_refl _) (.cells (madeCells #[.string ByteArray.empty, .int .i64 0] (l.length * 2)) 55))
  have X0 := Lib.hid (Box.new w 55 (madeCells #[.string ByteArray.empty, .int .i64 0] (l.length * 2)))
  have Hsrc := Lib.hid (chg_src (hr.below B0.out))
  clear hr
  generalize madeCells #[.string ByteArray.empty, .int .i64 0] (l.length * 2) = cur at *
  obtain ⟨w2, hrun, hx2, hb2⟩ : ∃ w2, (Builtin.copy_ #[31, 31] 3 #[.slice (some ⟨w.heap.size, 0, none⟩) l.length l.length, .slice (some ⟨b, o, none⟩) l.length c]).run Try.prog (w.alloc (.cells cur 55)) = .ok (.int .i64 (l.length : Int)) w2 ∧ Hid (Box w2 w.heap.size 55 (l.flatMap chgCells).toArray) ∧ Hid (Below w.heap.size w w2) := by
    have h := run_copy_rowsC (P := Try.prog) (w.alloc (.cells cur 55)) 31 31 3 55 2 w.heap.size l.length l.length ⟨b, o, none⟩ l.length c cur 55 (l.flatMap chgCells) Try.underlying31 sizeChange X0.out (by rw [hfl, show Nat.min l.length l.length = l.length from Nat.min_self _]) Hsrc.out (by omega) chg_one
    rw [show Nat.min l.length l.length = l.length from Nat.min_self _] at h
    have e : (cur.toList.take 0 ++ l.flatMap chgCells ++ cur.toList.drop (0 + (l.flatMap chgCells).length)) = l.flatMap chgCells := by
      rw [List.drop_of_length_le (by rw [Array.length_toList]; omega)]
      simp
    rw [e] at h
    exact ⟨_, h, Lib.hid (setRow_heap _ w.heap.size _ _ 55 _ X0.out), Lib.hid (below_setRow B0.out (Nat.le_refl _) _)⟩
  go_enter Try.func59, Try.ntmps59
  go_wp2_with fail
  go_ret
  exact ⟨rfl, hx2.out, hb2.out⟩


/-- A change the other way round. -/
def turnK (k : Int) : Int := if k = 1 then 2 else if k = 2 then 1 else k
def turnZ (t : ChangeD) : ChangeD := ⟨t.fName, turnK t.fKind⟩
/-- The first k turned, the others as they were. -/
def halfZ (l : List ChangeD) (k : Nat) : List ChangeD := (l.take k).map turnZ ++ l.drop k
theorem half_zero {l : List ChangeD} : halfZ l 0 = l := by simp [halfZ]
theorem half_all {l : List ChangeD} : halfZ l l.length = l.map turnZ := by simp [halfZ]
theorem half_len {l : List ChangeD} {k : Nat} (h : k ≤ l.length) : (halfZ l k).length = l.length := by simp [halfZ]; omega
theorem half_at {l : List ChangeD} {k : Nat} (h : k < l.length) : (halfZ l k)[k]'(by rw [half_len (by omega)]; exact h) = l[k] := by
  have e : (halfZ l k)[k]? = some l[k] := by
    unfold halfZ
    rw [List.getElem?_append_right (by simp; omega)]
    simp [Nat.min_eq_left (Nat.le_of_lt h), h]
  exact (List.getElem?_eq_some_iff.1 e).2
theorem half_next {l : List ChangeD} {k : Nat} (h : k < l.length) : halfZ l (k + 1) = (halfZ l k).set k (turnZ l[k]) := by
  unfold halfZ
  rw [List.take_succ_eq_append_getElem h, List.map_append, List.set_append_right _ _ (by simp; omega)]
  simp [Nat.min_eq_left (Nat.le_of_lt h)]
  rw [List.drop_eq_getElem_cons h]
  rfl
theorem flat_setL : ∀ (L : List ChangeD) (k : Nat) (x : ChangeD), (L.set k x).flatMap chgCells = if k < L.length then ((L.flatMap chgCells).set (k * 2) (.string x.fName)).set (k * 2 + 1) (.int .i64 x.fKind) else L.flatMap chgCells
  | [], _, _ => by simp
  | y :: L, 0, x => by simp [chgCells]
  | y :: L, k + 1, x => by
    have ih := flat_setL L k x
    rw [List.set_cons_succ, List.flatMap_cons, List.flatMap_cons, ih, show (k + 1) * 2 = k * 2 + 1 + 1 by omega]
    by_cases h : k < L.length
    · rw [if_pos h, if_pos (by simpa using h)]
      rfl
    · rw [if_neg h, if_neg (by simpa using h)]
theorem flat_set {L : List ChangeD} {k : Nat} (x : ChangeD) (h : k < L.length) : ((L.set k x).flatMap chgCells).toArray = ((L.flatMap chgCells).toArray.setIfInBounds (k * 2) (.string x.fName)).setIfInBounds (k * 2 + 1) (.int .i64 x.fKind) := by
  rw [flat_setL, if_pos h]
  simp
theorem flat_get {L : List ChangeD} {k : Nat} (h : k < L.length) : (L.flatMap chgCells).toArray[k * 2]? = some (.string L[k].fName) ∧ (L.flatMap chgCells).toArray[k * 2 + 1]? = some (.int .i64 L[k].fKind) := by
  have h0 := flatC_at chgCells 2 chg_len L k h 0 (by decide)
  have h1 := flatC_at chgCells 2 chg_len L k h 1 (by decide)
  rw [List.getElem?_toArray, List.getElem?_toArray]
  exact ⟨h0, h1⟩

set_option maxHeartbeats 4000000 in
theorem iTurnedChange (n : ByteArray) (k : Int) (w : World) (hn : n.size ≤ 1048576) : Calls Try.prog 46 #[.agg #[.string n, .int .i64 k]] w fun e w' => e = .returned (.agg #[.string n, .int .i64 (turnK k)]) ∧ Below w.heap.size w w' := by
  have B0 := Lib.hid (((Below.refl w.heap.size w).alloc (Nat.le_refl _) (.cells #[.string n, .int .i64 k] 55)).alloc (by simp) (.cells #[.string ⟨#[]⟩, .int .i64 0] 55))
  have X0 := Lib.hid ((Box.new w 55 #[.string n, .int .i64 k]).alloc (.cells #[.string ⟨#[]⟩, .int .i64 0] 55))
  have Y0 := Lib.hid (Box.new' (w.alloc (.cells #[.string n, .int .i64 k] 55)) 55 #[.string ⟨#[]⟩, .int .i64 0] (g := w.heap.size + 1) (by simp))
  go_enter Try.func46, Try.ntmps46
  go_wp2_with fail
  generalize (w.alloc (.cells #[.string n, .int .i64 k] 55)).alloc (.cells #[.string ⟨#[]⟩, .int .i64 0] 55) = wq at *
  have x0 : _ = some (Value.string n) := X0.out.cell 0
  go_wp2_with fail
  refine (iStrClone _ _ hn).mono ?_
  rintro e wc ⟨rfl, hbc⟩
  have X1 := Lib.hid (X0.out.below hbc X0.out.lt)
  have Y1 := Lib.hid (Y0.out.below hbc Y0.out.lt)
  have B1 := Lib.hid (B0.out.trans (hbc.mono B0.out.size))
  clear hbc x0
  have x0 : _ = some (Value.string n) := X1.out.cell 0
  have x1 : _ = some (Value.int .i64 k) := X1.out.cell 1
  have f0 := X1.out.free 0
  have f1 := X1.out.free 1
  have y0 : _ = some (Value.string ⟨#[]⟩) := Y1.out.cell 0
  have y1 : _ = some (Value.int .i64 0) := Y1.out.cell 1
  have q0 := Y1.out.free 0
  have q1 := Y1.out.free 1
  by_cases k1 : k = 1
  · have hk : turnK k = 2 := by unfold turnK; rw [if_pos k1]
    have Hk := Lib.hid hk
    clear hk
    subst k1
    go_wp2_with fail
    refine bodyPost_ret (results_one rfl Try.underlying55 rfl _ _ (w.heap.size + 1) #[.string n, .int .i64 2] rfl 55 (((Y1.out.only (((Only.refl w.heap.size wc).set 0 _).set 1 _) (by omega)).set 0 _).set 1 _) 2 sizeChange rfl) rfl ?_
    exact ⟨by rw [Hk.out], (((B1.out.setCell (by simp) _).setCell (by simp) _).setCell (by simp) _).setCell (by simp) _⟩
  · by_cases k2 : k = 2
    · have hk : turnK k = 1 := by unfold turnK; rw [if_neg k1, if_pos k2]
      have Hk := Lib.hid hk
      clear hk
      subst k2
      clear k1
      go_wp2_with fail
      refine bodyPost_ret (results_one rfl Try.underlying55 rfl _ _ (w.heap.size + 1) #[.string n, .int .i64 1] rfl 55 (((Y1.out.only (((Only.refl w.heap.size wc).set 0 _).set 1 _) (by omega)).set 0 _).set 1 _) 2 sizeChange rfl) rfl ?_
      exact ⟨by rw [Hk.out], (((B1.out.setCell (by simp) _).setCell (by simp) _).setCell (by simp) _).setCell (by simp) _⟩
    · have hk : turnK k = k := by unfold turnK; rw [if_neg k1, if_neg k2]
      have Hk := Lib.hid hk
      clear hk
      go_wp2_with fail
      refine bodyPost_ret (results_one rfl Try.underlying55 rfl _ _ (w.heap.size + 1) #[.string n, .int .i64 k] rfl 55 (((Y1.out.only ((Only.refl w.heap.size wc).set 0 _) (by omega)).set 0 _).set 1 _) 2 sizeChange rfl) rfl ?_
      exact ⟨by rw [Hk.out], ((B1.out.setCell (by simp) _).setCell (by simp) _).setCell (by simp) _⟩
set_option maxHeartbeats 8000000 in
theorem iTurned1 (b o c : Nat) (l : List ChangeD) (w : World) (h0 : 0 < l.length) (hl : l.length ≤ 1048576) (hs : ∀ t ∈ l, t.fName.size ≤ 1048576) (hr : Rows changeS Any w (some ⟨b, o, none⟩) l) :
    Calls Try.prog 45 #[.slice (some ⟨b, o, none⟩) l.length c, .func (.func 46) #[] #[]] w fun e w' => e = .returned (.slice (some ⟨w.heap.size, 0, none⟩) l.length l.length) ∧ Box w' w.heap.size 55 ((l.map turnZ).flatMap chgCells).toArray ∧ Below w.heap.size w w' := by
  have Hcp := Lib.hid (iCopiedChange b o c l w h0 hl hr)
  have Hs := Lib.hid hs
  clear hs hr
  go_enter Try.func45, Try.ntmps45
  go_wp2_with fail
  refine Hcp.out.mono ?_
  rintro e w1 ⟨rfl, hx1, hb1⟩
  have X1 := Lib.hid hx1
  have B1 := Lib.hid hb1
  have hs1 := hb1.size
  clear hx1 hb1 Hcp
  go_wp2_with fail
  go_loopw [11] (fun i wr => ∃ k : Nat, i = .int .i64 k ∧ k ≤ l.length ∧ Box wr w.heap.size 55 ((halfZ l k).flatMap chgCells).toArray ∧ Below w.heap.size w wr) (fun i _ => l.length - (intOf i).toNat)
  case atStart => exact ⟨0, rfl, by omega, by rw [half_zero]; exact X1.out, B1.out⟩
  case round =>
    obtain ⟨k, rfl, hk, hx, hbel⟩ := hrel
    have Bl := Lib.hid hbel
    have hsz := hbel.size
    have hlx := hx.lt
    by_cases hlt : k < l.length
    · have hlk : k < (halfZ l k).length := by rw [half_len hk]; exact hlt
      obtain ⟨a0, a1⟩ := flat_get hlk
      rw [half_at hlt] at a0 a1
      have hsk := Hs.out _ (List.getElem_mem hlt)
      have Hnx := Lib.hid (show ((halfZ l (k + 1)).flatMap chgCells).toArray = _ by rw [half_next hlt, flat_set _ hlk])
      have X := Lib.hid hx
      have c0 := (hx.cell (k * 2)).trans a0
      have c1 := (hx.cell (k * 2 + 1)).trans a1
      have Hn := Lib.hid hsk
      have A0 := Lib.hid a0
      have A1 := Lib.hid a1
      clear a0 a1 hx hbel hsk hlk
      unfold turnZ at Hnx
      dsimp only at Hnx
      generalize l[k] = t at *
      generalize ((halfZ l k).flatMap chgCells).toArray = arr at *
      go_wp2_with fail
      refine (iTurnedChange t.fName t.fKind _ Hn.out).mono ?_
      rintro e w2 ⟨rfl, hb2⟩
      have X2 := Lib.hid ((X.out.alloc (.cells #[.string t.fName, .int .i64 t.fKind] 55)).below hb2 (by simp; omega))
      have Bl2 := Lib.hid ((Bl.out.alloc hsz (.cells #[.string t.fName, .int .i64 t.fKind] 55)).trans (hb2.mono (by simp; omega)))
      clear hb2 c0 c1
      have d0 := (X2.out.cell (k * 2)).trans A0.out
      have d1 := (X2.out.cell (k * 2 + 1)).trans A1.out
      have f0 := X2.out.free
      have X3 := Lib.hid ((X2.out.set (k * 2) (.string t.fName)).set (k * 2 + 1) (.int .i64 (turnK t.fKind)))
      rw [← Hnx.out] at X3
      have Bl3 := Lib.hid ((Bl2.out.setCell (p := ⟨w.heap.size, k * 2, none⟩) (Nat.le_refl _) (.string t.fName)).setCell (p := ⟨w.heap.size, k * 2 + 1, none⟩) (Nat.le_refl _) (.int .i64 (turnK t.fKind)))
      clear A0 A1 X2
      go_wp2_with fail
      exact ⟨⟨k + 1, by congr 1, by omega, X3.out, Bl3.out⟩, by simp [intOf]; omega⟩
    · obtain rfl : k = l.length := by omega
      rw [half_all] at hx
      have X := Lib.hid hx
      clear hx hbel
      go_wp2_with fail
      go_ret
      exact ⟨rfl, X.out, Bl.out⟩

theorem iCopiedChange0 (a : Option Addr) (c : Nat) (w : World) : Calls Try.prog 59 #[.slice a 0 c] w fun e w' => e = .returned (.slice none 0 0) ∧ w = w' := by
  go_enter Try.func59, Try.ntmps59
  go_wp2_with fail
  go_ret
  exact ⟨rfl, rfl⟩
theorem iTurned0 (a : Option Addr) (c : Nat) (w : World) : Calls Try.prog 45 #[.slice a 0 c, .func (.func 46) #[] #[]] w fun e w' => e = .returned (.slice none 0 0) ∧ w = w' := by
  go_enter Try.func45, Try.ntmps45
  go_wp2_with fail
  refine (iCopiedChange0 a c w).mono ?_
  rintro e w1 ⟨rfl, rfl⟩
  go_wp2_with fail
  go_loopw [11] (fun i wr => i = .int .i64 0 ∧ wr = w) (fun _ _ => 0)
  case atStart => exact ⟨rfl, rfl⟩
  case round =>
    obtain ⟨rfl, rfl⟩ := hrel
    go_wp2_with fail
    go_ret
    exact ⟨rfl, rfl⟩
/-- The answer's row, however it came. -/
theorem OwnChgs.whole {w : World} {B g : Nat} {l : List ChangeD} (hx : Box w g 55 (l.flatMap chgCells).toArray) (hg : B ≤ g) : OwnC w B (some ⟨g, 0, none⟩) (l.flatMap chgCells) :=
  .inr ⟨g, _, _, rfl, hg, hx, by simp, fun i _ => by simp⟩

def turnA (l : List ChangeD) (r : List ChangeD) (ok : Bool) : Prop := (chgP l ∧ r = l.map turnZ ∧ ok = true) ∨ (¬ chgP l ∧ r = [] ∧ ok = false)
/-- What is told of a call of TurnDiff. -/
def PostTD (l : List ChangeD) (w : World) (e : Ending) (w' : World) : Prop := ∃ (a : Option Addr) (c : Nat) (r : List ChangeD) (ok : Bool), e = .returned (.tuple #[.slice a r.length c, .bool ok]) ∧ OwnC w' w.heap.size a (r.flatMap chgCells) ∧ turnA l r ok ∧ Below w.heap.size w w'
set_option maxHeartbeats 4000000 in
theorem iTurnDiff (a : Option Addr) (c : Nat) (l : List ChangeD) (w : World) (hl : l.length ≤ 1048576) (hs : ∀ t ∈ l, t.fName.size ≤ maxLen) (hr : Rows changeS Any w a l) :
    Calls Try.prog 22 #[.slice a l.length c] w (PostTD l w) := by
  have H := Lib.hid (iAreChanges a c l w hl hs hr)
  have Hr := Lib.hid hr
  clear hs hr
  go_enter Try.func22, Try.ntmps22
  go_wp2_with fail
  refine H.out.mono ?_
  rintro e w1 ⟨rfl, hb1⟩
  have B1 := Lib.hid hb1
  have R1 := Lib.hid (Hr.out.below hb1)
  clear hb1 H
  by_cases hp : chgP l
  · have hq := chgB_true hp
    have P := Lib.hid hp
    have Hs2 := Lib.hid (show ∀ t ∈ l, t.fName.size ≤ 1048576 from fun t ht => by
      obtain ⟨i, hi, rfl⟩ := List.getElem_of_mem ht
      have := (hp.2 i hi hi).1.1.2.1
      omega)
    clear hp
    by_cases h0 : l.length = 0
    · have Hm := Lib.hid (show l.map turnZ = [] by rw [List.eq_nil_of_length_eq_zero h0]; rfl)
      have HC := Lib.hid (iTurned0 a c w1)
      rw [h0]
      go_wp2_with fail
      refine HC.out.mono ?_
      rintro e w2 ⟨rfl, rfl⟩
      go_wp2_with fail
      go_ret2
      unfold PostTD
      exact ⟨none, 0, [], true, rfl, .inl rfl, .inl ⟨P.out, Hm.out.symm, rfl⟩, B1.out⟩
    · obtain ⟨b, o, cs, e, _⟩ := R1.out 0 (by omega)
      subst e
      have HC := Lib.hid (iTurned1 b o c l w1 (by omega) hl Hs2.out R1.out)
      have hlm : (l.map turnZ).length = l.length := by simp
      go_wp2_with fail
      refine HC.out.mono ?_
      rintro e w2 ⟨rfl, hx, hb2⟩
      have X2 := Lib.hid hx
      have B2 := Lib.hid (B1.out.trans (hb2.mono B1.out.size))
      clear hx hb2
      go_wp2_with fail
      go_ret2
      unfold PostTD
      exact ⟨some ⟨w1.heap.size, 0, none⟩, l.length, l.map turnZ, true, by rw [hlm]; rfl, OwnChgs.whole X2.out B1.out.size, .inl ⟨P.out, rfl, rfl⟩, B2.out⟩
  · have hq := chgB_false hp
    have P := Lib.hid hp
    clear hp
    go_wp2_with fail
    go_ret2
    unfold PostTD
    exact ⟨none, 0, [], false, rfl, .inl rfl, .inr ⟨P.out, rfl, rfl⟩, B1.out⟩
end Go.Proofs.Ytkhlekpkggglpaa
