
/-
  What is proved: what comes of actions, as data; rows of numbers that the call owns, cut and pushed. No condition beside what each theorem states.
-/
import Derived.Test.YteajdempddklgaaDoorEach5
import Derived.Test.YteajdempddklgaaDoorStKnown
import Derived.IntWalk
namespace Go.Proofs.YteajdempddklgaaDoor
open Go.ChangeShapes Go.WideShapes Go.ChangeAt Go.RowKit
set_option maxRecDepth 100000

def wholeP (v : Int) : Prop := -1000000000 ≤ v ∧ v ≤ 1000000000
instance (v : Int) : Decidable (wholeP v) := by unfold wholeP; infer_instance
/-- The floor of a quotient. -/
def floorZ (a b : Int) : Int := if (a.tmod b != 0 && (decide (a < 0) != decide (b < 0))) = true then a.tdiv b - 1 else a.tdiv b
def valZ (j : Nat) (a b : Int) : Int := match j with | 0 => a + b | 1 => a - b | 2 => a * b | 3 => floorZ a b | _ => a - b * floorZ a b
def knownHit (k : KnownD) (m n : ByteArray) : Bool := (k.fMod.toList == m.toList) && (k.fName.toList == n.toList)
def knownV (ks : List KnownD) (m n : ByteArray) : Option Int := (ks.find? (fun k => knownHit k m n)).map KnownD.fValue

/-- What a step brings: a value, or a code. -/
inductive VR where
  | good (v : Int)
  | bad (c : Int)
def pairR (j : Nat) (a b : Int) : VR := if 3 ≤ j ∧ b = 0 then .bad 2 else if wholeP (valZ j a b) then .good (valZ j a b) else .bad 3
def nameR (ks : List KnownD) (m n : ByteArray) : VR := match knownV ks m n with | some v => .good v | none => .bad 1
def ActD.takesN : ActD → Nat
  | .num _ => 0
  | .name _ _ => 0
  | .pair _ => 2
  | .minus => 1
theorem ActD.takes_eq (a : ActD) : a.takes = (a.takesN : Int) := by cases a <;> rfl
def doA (ks : List KnownD) (st : List Int) : ActD → VR
  | .num v => .good v
  | .name m n => nameR ks m n
  | .pair j => pairR j (st.getD (st.length - 2) 0) (st.getD (st.length - 1) 0)
  | .minus => .good (-(st.getD (st.length - 1) 0))
/-- The values behind some actions, or a code. -/
inductive VS where
  | run (st : List Int)
  | off (c : Int)
def stepV (ks : List KnownD) : VS → ActD → VS
  | .off c, _ => .off c
  | .run st, a => match doA ks st a with | .good v => .run (st.take (st.length - a.takesN) ++ [v]) | .bad c => .off c
def runV (ks : List KnownD) (xs : List ActD) : VS := xs.foldl (stepV ks) (.run [])
theorem runV_snoc (ks : List KnownD) (xs : List ActD) (a : ActD) : runV ks (xs ++ [a]) = stepV ks (runV ks xs) a := by simp [runV]
theorem fold_off (ks : List KnownD) (c : Int) : ∀ xs : List ActD, xs.foldl (stepV ks) (.off c) = .off c
  | [] => rfl
  | _ :: xs => fold_off ks c xs
theorem runV_off {ks : List KnownD} {xs : List ActD} {k : Nat} {c : Int} (h : runV ks (xs.take k) = .off c) : runV ks xs = .off c := by
  have e : xs = xs.take k ++ xs.drop k := (List.take_append_drop k xs).symm
  rw [e]
  unfold runV at h ⊢
  rw [List.foldl_append, h, fold_off]
theorem runV_good {ks : List KnownD} {xs : List ActD} {st : List Int} {v : Int} {k : Nat} (hk : k < xs.length) (h : runV ks (xs.take k) = .run st) (hd : doA ks st xs[k] = .good v) : runV ks (xs.take (k + 1)) = .run (st.take (st.length - (xs[k]).takesN) ++ [v]) := by
  rw [take_snoc hk, runV_snoc, h]
  simp only [stepV, hd]
theorem runV_bad {ks : List KnownD} {xs : List ActD} {st : List Int} {c : Int} {k : Nat} (hk : k < xs.length) (h : runV ks (xs.take k) = .run st) (hd : doA ks st xs[k] = .bad c) : runV ks xs = .off c := by
  refine runV_off (k := k + 1) ?_
  rw [take_snoc hk, runV_snoc, h]
  simp only [stepV, hd]
/-- The answer: a value and a code. -/
def ansV : VS → Int × Int
  | .run st => (st.getD 0 0, 0)
  | .off c => (0, c)

/-- How many values stand behind actions that find what they take. -/
inductive Bal : List ActD → Int → Prop
  | nil : Bal [] 0
  | snoc {xs : List ActD} {n : Int} {a : ActD} : Bal xs n → a.takes ≤ n → Bal (xs ++ [a]) (n + (1 - a.takes))
theorem ActsTo.bal {l : List StepD} {n : Int} {xs : List ActD} (h : ActsTo l n xs) : Bal xs n := by
  induction h with
  | nil => exact .nil
  | snoc _ _ h3 ih => exact .snoc ih h3
theorem Bal.inv {xs : List ActD} {a : ActD} {m : Int} (h : Bal (xs ++ [a]) m) : ∃ n, Bal xs n ∧ a.takes ≤ n ∧ m = n + (1 - a.takes) := by
  generalize hq : xs ++ [a] = q at h
  cases h with
  | nil => simp at hq
  | snoc h1 h2 =>
    obtain ⟨e1, e2⟩ := List.append_inj' hq rfl
    subst e1
    injection e2 with e2 _
    subst e2
    exact ⟨_, h1, h2, rfl⟩
theorem Bal.take {xs : List ActD} : ∀ {k : Nat}, k ≤ xs.length → (∃ n, Bal xs n) → ∃ n, Bal (xs.take k) n := by
  intro k hk h
  induction hd : xs.length - k generalizing k with
  | zero => rw [show k = xs.length by omega, List.take_length]; exact h
  | succ d ih =>
    obtain ⟨n, h1⟩ := ih (k := k + 1) (by omega) (by omega)
    rw [take_snoc (by omega)] at h1
    obtain ⟨n', g1, _⟩ := h1.inv
    exact ⟨n', g1⟩
theorem Bal.unique {xs : List ActD} {n m : Int} (h : Bal xs n) (h' : Bal xs m) : n = m := by
  induction h generalizing m with
  | nil => generalize hq : ([] : List ActD) = q at h'; cases h' with | nil => rfl | snoc => simp at hq
  | snoc h1 h2 ih =>
    obtain ⟨n', g1, g2, rfl⟩ := h'.inv
    rw [ih g1]
theorem Bal.need {xs : List ActD} {m n : Int} {k : Nat} (hk : k < xs.length) (h : Bal xs m) (hn : Bal (xs.take k) n) : (xs[k]).takes ≤ n ∧ Bal (xs.take (k + 1)) (n + (1 - (xs[k]).takes)) := by
  obtain ⟨m', h1⟩ := Bal.take (k := k + 1) (by omega) ⟨m, h⟩
  rw [take_snoc hk] at h1 ⊢
  obtain ⟨n', g1, g2, rfl⟩ := h1.inv
  obtain rfl := g1.unique hn
  exact ⟨g2, .snoc g1 g2⟩

/-- What is known of an action of a good step. -/
def ActD.fine : ActD → Prop
  | .num v => 0 ≤ v ∧ v ≤ 1000000000
  | .pair j => j < 5
  | _ => True
theorem IsAct.fine {s : StepD} {a : ActD} (h : IsAct s a) : a.fine := by
  rcases h with ⟨_, _, _, h3, h4, rfl⟩ | ⟨_, _, _, _, rfl⟩ | ⟨_, _, rfl⟩ | ⟨j, hj, _, _, rfl⟩
  · exact ⟨h3, h4⟩
  · exact trivial
  · exact trivial
  · exact hj
theorem knownV_some {ks : List KnownD} {m n : ByteArray} {v : Int} (h : knownV ks m n = some v) : ∃ k ∈ ks, k.fValue = v := by
  unfold knownV at h
  cases hf : ks.find? (fun k => knownHit k m n) with
  | none => rw [hf] at h; cases h
  | some k =>
    rw [hf] at h
    injection h with h
    exact ⟨k, List.mem_of_find?_eq_some hf, h⟩
theorem getD_whole {st : List Int} (h : ∀ x ∈ st, wholeP x) (k : Nat) : wholeP (st.getD k 0) := by
  rw [List.getD_eq_getElem?_getD]
  cases he : st[k]? with
  | none => show wholeP 0; unfold wholeP; omega
  | some x => exact h x (List.mem_of_getElem? he)
theorem doA_whole {ks : List KnownD} {st : List Int} {a : ActD} {v : Int} (hk : ∀ k ∈ ks, wholeP k.fValue) (hs : ∀ x ∈ st, wholeP x) (hf : a.fine) (h : doA ks st a = .good v) : wholeP v := by
  cases a with
  | num x =>
    injection h with h
    subst h
    have hf : 0 ≤ x ∧ x ≤ 1000000000 := hf
    unfold wholeP
    omega
  | name m n =>
    change nameR ks m n = _ at h
    unfold nameR at h
    cases hq : knownV ks m n with
    | none => rw [hq] at h; cases h
    | some x =>
      rw [hq] at h
      injection h with h
      subst h
      obtain ⟨k, h1, rfl⟩ := knownV_some hq
      exact hk k h1
  | pair j =>
    change pairR j _ _ = _ at h
    unfold pairR at h
    split at h
    · cases h
    · split at h
      · rename_i h2
        injection h with h
        subst h
        exact h2
      · cases h
  | minus =>
    injection h with h
    subst h
    have := getD_whole hs (st.length - 1)
    unfold wholeP at this ⊢
    omega
theorem stack_whole {st : List Int} {v : Int} (k : Nat) (hs : ∀ x ∈ st, wholeP x) (hv : wholeP v) : ∀ x ∈ st.take k ++ [v], wholeP x := by
  intro x hx
  rcases List.mem_append.1 hx with h | h
  · exact hs x (List.mem_of_mem_take h)
  · rw [List.mem_singleton.1 h]; exact hv

/-! Rows of numbers. -/
theorem infoI : (Tryd.prog.info? 3).map (fun i => (i.zero, i.size, i.bytes)) = some (some (.int .i64 0), 1, 8) := by kernel_rfl
def OwnIs (w : World) (B : Nat) (v : Value) (l : List Int) : Prop := w.ownsRow B 3 1 v l.length (l.map (Value.int .i64))
theorem OwnIs.nil {w : World} {B : Nat} : OwnIs w B (.slice none 0 0) [] := World.ownsRow_nil _ _ _ _
theorem OwnIs.alloc {w : World} {B : Nat} {v : Value} {l : List Int} (h : OwnIs w B v l) (o : Obj) : OwnIs (w.alloc o) B v l := World.ownsRow.alloc h o
theorem OwnIs.below {w w' : World} {B : Nat} {v : Value} {l : List Int} (h : OwnIs w B v l) (hb : Below w.heap.size w w') : OwnIs w' B v l :=
  ⟨h.1, h.2.imp id (fun ⟨g, cap, cur, h1, h2, h3, h4⟩ => ⟨g, cap, cur, h1, h2, (hb.block g (Array.getElem?_eq_some_iff.1 h3).1).trans h3, h4⟩)⟩
/-- How it lies. -/
theorem OwnIs.at {w : World} {B : Nat} {v : Value} {l : List Int} (h : OwnIs w B v l) : (v = .slice none 0 0 ∧ l = []) ∨ ∃ g c, v = .slice (some ⟨g, 0, none⟩) l.length c ∧ l.length ≤ c ∧ c ≤ maxLen ∧ B ≤ g ∧ g < w.heap.size ∧ (∃ cur, Box w g 3 cur ∧ cur.size = c ∧ cur.toList.take l.length = l.map (Value.int .i64)) := by
  rcases h.2 with ⟨h1, h2⟩ | ⟨g, cap, cur, h1, h2, h3, h4, h5, h6, h7⟩
  · exact .inl ⟨h1, List.eq_nil_of_length_eq_zero h2⟩
  · exact .inr ⟨g, cap, h1, h4, h5, h2, (Array.getElem?_eq_some_iff.1 h3).1, cur, h3, by omega, by simpa using h7⟩
theorem take_cell {cur : Array Value} {l : List Int} (h : cur.toList.take l.length = l.map (Value.int .i64)) {k : Nat} (hk : k < l.length) : cur[k]? = some (.int .i64 (l.getD k 0)) := by
  have h1 := congrArg (fun z => z[k]?) h
  simp only [List.getElem?_take, if_pos hk, List.getElem?_map] at h1
  rw [← Array.getElem?_toList, h1, List.getD_eq_getElem?_getD, List.getElem?_eq_getElem hk]
  rfl
/-- Cut. -/
theorem OwnIs.shrink {w : World} {B g c : Nat} {l : List Int} (h : OwnIs w B (.slice (some ⟨g, 0, none⟩) l.length c) l) {k : Nat} (hk : k ≤ l.length) : OwnIs w B (.slice (some ⟨g, 0, none⟩) k c) (l.take k) := by
  have hl : (l.take k).length = k := by simp; omega
  rcases h.2 with ⟨h1, h2⟩ | ⟨g', cap, cur, h1, h2, h3, h4, h5, h6, h7⟩
  · cases h1
  · injection h1 with e1 e2 e3
    injection e1 with e1
    injection e1 with e1
    subst e1 e3
    refine ⟨by simp, .inr ⟨g, c, cur, by rw [hl], h2, h3, by omega, h5, h6, ?_⟩⟩
    rw [hl, Nat.mul_one]
    rw [Nat.mul_one] at h7
    rw [List.map_take, ← h7, List.take_take, Nat.min_eq_left hk]
/-- One of them set anew. -/
theorem OwnIs.set {w : World} {B g c : Nat} {l : List Int} (h : OwnIs w B (.slice (some ⟨g, 0, none⟩) l.length c) l) {k : Nat} (hk : k < l.length) (x : Int) : OwnIs (w.setCell ⟨g, k, none⟩ (.int .i64 x)) B (.slice (some ⟨g, 0, none⟩) l.length c) (l.set k x) := by
  rcases h.2 with ⟨h1, h2⟩ | ⟨g', cap, cur, h1, h2, h3, h4, h5, h6, h7⟩
  · cases h1
  · injection h1 with e1 e2 e3
    injection e1 with e1
    injection e1 with e1
    subst e1 e3
    have hb : Box (w.setCell ⟨g, k, none⟩ (.int .i64 x)) g 3 (cur.setIfInBounds k (.int .i64 x)) := Box.set h3 k _
    refine ⟨by simp, .inr ⟨g, c, cur.setIfInBounds k (.int .i64 x), by rw [List.length_set], h2, hb, by rw [List.length_set]; exact h4, h5, by simp [h6], ?_⟩⟩
    rw [List.length_set, Nat.mul_one]
    rw [Nat.mul_one] at h7
    apply List.ext_getElem?
    intro i
    rw [List.map_set, ← h7]
    simp only [List.getElem?_take, List.getElem?_set, Array.toList_setIfInBounds, List.length_take, Array.length_toList]
    by_cases hi : i < l.length
    · by_cases hki : k = i
      · subst hki
        simp [hi]
        rw [if_pos (by omega), if_pos (by omega)]
      · simp [hi, hki]
    · simp [hi]
      omega
/-- append of one number. -/
theorem wpList_pushI {ops : Array Oper} {rest : List Oper} {o : Oper} {a : Act} {Q : Exit → Act → World → Prop} (hgd : o.guard = none) (s x : Operand)
    (ho : o.op = .call { callee := .builtin .append, args := #[s, x], argTypes := #[131, 131] })
    (B : Nat) (w : World) (v : Value) (l : List Int) (hs : a.eval s = v) (g : Nat) (hown : OwnIs w B v l) (u : Int) (hx : a.eval x = .slice (some ⟨g, 0, none⟩) 1 1) (hg : Box w g 3 #[.int .i64 u])
    (h63 : l.length + 1 ≤ 1048577 + 1048576) (hbase : B ≤ w.heap.size)
    (h : ∀ v' w', OwnIs w' B v' (l ++ [u]) → w.grownBy w' v.ownBlock → (∀ k, v.ownBlock = some k → B ≤ k ∧ k < w.heap.size) → wpList Tryd.prog ops Q rest (a.put o.dst v') w') : wpList Tryd.prog ops Q (o :: rest) a w := by
  obtain ⟨i0, hi, hz0, hz1, hz2⟩ := info_parts infoI
  refine wpList_append_own _ hgd s x 131 ho B 3 i0 _ 1 8 Tryd.underlying131 hi hz0 hz1 hz2 rfl (by decide) v l.length (l.map (Value.int .i64)) hs hown ⟨g, 0, none⟩ 1 1 [.int .i64 u] hx rfl ?_
    (fun y hy => by
      rw [List.mem_singleton.1 hy]
      rfl) (by unfold maxLen; omega) (by omega) (by omega) (fun v' w' h1 h2 _ => h v' w' (by unfold OwnIs; rw [List.map_append, List.length_append]; simpa using h1) h2 (World.ownsRow.lt hown))
  intro j u' hu
  have e : (⟨g, 0, none⟩ : Addr).add j = ⟨g, j, none⟩ := by unfold Addr.add; split <;> simp_all
  rw [e, hg.cell]
  simpa using hu
end Go.Proofs.YteajdempddklgaaDoor
