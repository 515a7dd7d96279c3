
/-
  What is proved: What is said: types numbered as they are met, the ways ahead first; what stays where two blocks and a row of one's own turn; an array of numbers that tells at which place of an order each type stands; What is said: what is met leads to what is met; types told anew by an order; What is said: the order behind the first three types, and behind objects. No condition beside what each theorem states.
-/
import Derived.Test.YtaccifjkeblhpaaGreatSFields
import Derived.Test.YtaccifjkeblhpaaGreatPushAll
import Derived.Test.YtaccifjkeblhpaaGreatIGood
import Derived.Test.YtaccifjkeblhpaaGreatStObject
namespace Go.Proofs.YtaccifjkeblhpaaGreat
open Go.ChangeShapes Go.WideShapes Go.ChangeAt Go.RowKit

/-- What a type leads to, in order. -/
def kidsD (t : TypeD) : List Int := t.fBase :: t.fFields.map FieldD.fType
def dfs (l : List TypeD) : Nat → List Int → Int → List Int
  | 0, o, _ => o
  | f + 1, o, n => if h : 0 ≤ n ∧ n.toNat < l.length then (if n ∈ o then o else (kidsD l[n.toNat]).foldl (dfs l f) (o ++ [n])) else o
/-- An order of types that were met. -/
structure Met (l : List TypeD) (o : List Int) : Prop where
  once : o.Nodup
  here : ∀ x ∈ o, 0 ≤ x ∧ x < (l.length : Int)
theorem met_most {n : Nat} : ∀ {L : List Int}, L.Nodup → (∀ x ∈ L, 0 ≤ x ∧ x < (n : Int)) → L.length ≤ n := by
  induction n with
  | zero =>
    intro L _ h
    cases L with
    | nil => simp
    | cons x L => have := h x (by simp); omega
  | succ n ih =>
    intro L hn h
    have h1 : (L.erase (n : Int)).length ≤ n := ih (hn.erase _) (fun x hx => by
      have h2 := h x (List.mem_of_mem_erase hx)
      have h3 : x ≠ (n : Int) := fun e => by
        subst e
        exact (List.Nodup.not_mem_erase hn) hx
      omega)
    have h2 := List.length_erase (a := (n : Int)) (l := L)
    split at h2 <;> omega
theorem Met.len {l : List TypeD} {o : List Int} (h : Met l o) : o.length ≤ l.length := met_most h.once h.here
theorem Met.put {l : List TypeD} {o : List Int} (h : Met l o) {n : Int} (hn : 0 ≤ n ∧ n.toNat < l.length) (hno : n ∉ o) : Met l (o ++ [n]) :=
  ⟨by rw [List.nodup_append]; exact ⟨h.once, by simp, fun a ha b hb e => by rw [List.mem_singleton.1 hb] at e; exact hno (e ▸ ha)⟩, fun x hx => by
    rcases List.mem_append.1 hx with hx | hx
    · exact h.here x hx
    · rw [List.mem_singleton.1 hx]; omega⟩
/-- One order goes on in another one. -/
def Goes (o o' : List Int) : Prop := ∃ e, o' = o ++ e
theorem Goes.refl (o : List Int) : Goes o o := ⟨[], by simp⟩
theorem Goes.trans {o o' o'' : List Int} (h : Goes o o') (h' : Goes o' o'') : Goes o o'' := by
  obtain ⟨e, rfl⟩ := h
  obtain ⟨e', rfl⟩ := h'
  exact ⟨e ++ e', by simp⟩
theorem Goes.mem {o o' : List Int} (h : Goes o o') {x : Int} (hx : x ∈ o) : x ∈ o' := by
  obtain ⟨e, rfl⟩ := h
  exact List.mem_append_left _ hx
theorem Goes.len {o o' : List Int} (h : Goes o o') : o.length ≤ o'.length := by
  obtain ⟨e, rfl⟩ := h
  simp
theorem Goes.idx {o o' : List Int} (h : Goes o o') {x : Int} (hx : x ∈ o) : o'.idxOf x = o.idxOf x := by
  obtain ⟨e, rfl⟩ := h
  rw [List.idxOf_append, if_pos hx]
theorem fold_goes {F : List Int → Int → List Int} {l : List TypeD} (hF : ∀ o n, Met l o → Met l (F o n) ∧ Goes o (F o n)) : ∀ (ks : List Int) (o : List Int), Met l o → Met l (ks.foldl F o) ∧ Goes o (ks.foldl F o)
  | [], o, h => ⟨h, Goes.refl o⟩
  | k :: ks, o, h => by
    obtain ⟨h1, h2⟩ := hF o k h
    obtain ⟨h3, h4⟩ := fold_goes hF ks (F o k) h1
    exact ⟨h3, h2.trans h4⟩
theorem dfs_goes {l : List TypeD} : ∀ (f : Nat) (o : List Int) (n : Int), Met l o → Met l (dfs l f o n) ∧ Goes o (dfs l f o n) := by
  intro f
  induction f with
  | zero => intro o n h; exact ⟨h, Goes.refl o⟩
  | succ f ih =>
    intro o n h
    unfold dfs
    split
    · rename_i hn
      split
      · exact ⟨h, Goes.refl o⟩
      · rename_i hno
        obtain ⟨h1, h2⟩ := fold_goes ih (kidsD l[n.toNat]) (o ++ [n]) (h.put hn hno)
        exact ⟨h1, Goes.trans ⟨[n], rfl⟩ h2⟩
    · exact ⟨h, Goes.refl o⟩
theorem fold_same {F G : List Int → Int → List Int} {l : List TypeD} {m : Nat} (hF : ∀ o n, Met l o → Met l (F o n) ∧ Goes o (F o n)) (he : ∀ o n, Met l o → l.length - o.length < m → F o n = G o n) : ∀ (ks : List Int) (o : List Int), Met l o → l.length - o.length < m → ks.foldl F o = ks.foldl G o
  | [], _, _, _ => rfl
  | k :: ks, o, h, hm => by
    obtain ⟨h1, h2⟩ := hF o k h
    have h3 := h2.len
    rw [List.foldl_cons, List.foldl_cons, ← he o k h hm]
    exact fold_same hF he ks (F o k) h1 (by omega)
theorem dfs_fuel {l : List TypeD} : ∀ (f f' : Nat) (o : List Int) (n : Int), Met l o → l.length - o.length < f → l.length - o.length < f' → dfs l f o n = dfs l f' o n := by
  intro f
  induction f with
  | zero => intro f' o n _ h; omega
  | succ f ih =>
    intro f' o n h h1 h2
    obtain ⟨f', rfl⟩ : ∃ k, f' = k + 1 := ⟨f' - 1, by omega⟩
    unfold dfs
    split
    · rename_i hn
      split
      · rfl
      · rename_i hno
        have hp := h.put hn hno
        have hl := hp.len
        simp only [List.length_append, List.length_singleton] at hl
        exact fold_same (m := min f f') (dfs_goes f) (fun o n ho hm => ih f' o n ho (by omega) (by omega)) _ _ hp (by simp; omega)
    · rfl
/-- The order behind the meeting of a type. -/
def visitZ (l : List TypeD) (o : List Int) (n : Int) : List Int := dfs l (l.length + 1) o n
theorem visit_goes {l : List TypeD} {o : List Int} (n : Int) (h : Met l o) : Met l (visitZ l o n) ∧ Goes o (visitZ l o n) := dfs_goes _ o n h
theorem visit_out {l : List TypeD} {o : List Int} {n : Int} (h : ¬ (0 ≤ n ∧ n.toNat < l.length)) : visitZ l o n = o := by
  unfold visitZ dfs
  rw [dif_neg h]
theorem visit_old {l : List TypeD} {o : List Int} {n : Int} (h : n ∈ o) : visitZ l o n = o := by
  unfold visitZ dfs
  simp [h]
theorem visit_new {l : List TypeD} {o : List Int} {n : Nat} (hm : Met l o) (hn : n < l.length) (h : (n : Int) ∉ o) : visitZ l o (n : Int) = (kidsD l[n]).foldl (visitZ l) (o ++ [(n : Int)]) := by
  have hp := hm.put (n := (n : Int)) (by omega) h
  have hl := hp.len
  simp only [List.length_append, List.length_singleton] at hl
  unfold visitZ
  rw [dfs]
  rw [dif_pos (by omega : 0 ≤ (n : Int) ∧ (n : Int).toNat < l.length), if_neg h]
  simp only [Int.toNat_natCast]
  exact fold_same (m := l.length) (dfs_goes _) (fun o k ho hlt => dfs_fuel _ _ o k ho (by omega) (by omega)) _ _ hp (by simp; omega)
theorem visit_mem {l : List TypeD} {o : List Int} {n : Nat} (hm : Met l o) (hn : n < l.length) : (n : Int) ∈ visitZ l o (n : Int) := by
  by_cases h : (n : Int) ∈ o
  · rw [visit_old h]; exact h
  · rw [visit_new hm hn h]
    exact (fold_goes (fun o k ho => visit_goes k ho) _ _ (hm.put (by omega) h)).2.mem (by simp)
/-- The number that a type has in the new table. -/
def numZ (o : List Int) (n : Int) : Int := if n < 0 then n else (o.idxOf n : Int)
theorem Goes.num {o o' : List Int} (h : Goes o o') {x : Int} (hx : x < 0 ∨ x ∈ o) : numZ o' x = numZ o x := by
  unfold numZ
  split
  · rfl
  · rcases hx with hx | hx
    · omega
    · rw [h.idx hx]
end Go.Proofs.YtaccifjkeblhpaaGreat

namespace Go.Proofs.YtaccifjkeblhpaaGreat
open Go.ChangeShapes Go.WideShapes Go.ChangeAt Go.RowKit

/-- Of what was there only blocks p and q and the row's own block have turned. -/
def OnlyP (p q : Nat) (v : Value) (w w' : World) : Prop := w'.os = w.os ∧ w'.tape = w.tape ∧ w'.output = w.output ∧ w.heap.size ≤ w'.heap.size ∧ ∀ k, k < w.heap.size → k ≠ p → k ≠ q → v.ownBlock ≠ some k → w'.heap[k]? = w.heap[k]?
section
variable {p q : Nat} {v v' : Value} {w w' w'' : World}
theorem OnlyP.size (h : OnlyP p q v w w') : w.heap.size ≤ w'.heap.size := h.2.2.2.1
theorem OnlyP.block (h : OnlyP p q v w w') {k : Nat} (h1 : k < w.heap.size) (h2 : k ≠ p) (h3 : k ≠ q) (h4 : v.ownBlock ≠ some k) : w'.heap[k]? = w.heap[k]? := h.2.2.2.2 k h1 h2 h3 h4
theorem OnlyP.refl (p q : Nat) (v : Value) (w : World) : OnlyP p q v w w := ⟨rfl, rfl, rfl, Nat.le_refl _, fun _ _ _ _ _ => rfl⟩
theorem OnlyP.ofBelow (h : Below w.heap.size w w') : OnlyP p q v w w' := ⟨h.os, h.tape, h.output, h.size, fun k hk _ _ _ => h.block k hk⟩
theorem OnlyP.ofGrown (h : w.grownBy w' v.ownBlock) : OnlyP p q v w w' := ⟨h.os, h.tape, h.output, h.size, fun k hk _ _ hn => h.block k hk (fun e => hn e.symm)⟩
theorem OnlyP.ofOnly (h : Only p w w') : OnlyP p q v w w' := ⟨h.os, h.tape, h.output, h.size, fun k hk hp _ _ => h.block k hk (fun e => by injection e with e; exact hp e)⟩
theorem OnlyP.ofOnly' (h : Only q w w') : OnlyP p q v w w' := ⟨h.os, h.tape, h.output, h.size, fun k hk _ hq _ => h.block k hk (fun e => by injection e with e; exact hq e)⟩
theorem OnlyP.trans (h : OnlyP p q v w w') (h' : OnlyP p q v' w' w'') (hv : ∀ k, v'.ownBlock = some k → v.ownBlock = some k ∨ w.heap.size ≤ k) : OnlyP p q v w w'' :=
  ⟨h'.1.trans h.1, h'.2.1.trans h.2.1, h'.2.2.1.trans h.2.2.1, Nat.le_trans h.size h'.size, fun k h1 h2 h3 h4 => (h'.block (Nat.lt_of_lt_of_le h1 h.size) h2 h3 (fun e => by
    rcases hv k e with h5 | h5
    · exact h4 h5
    · omega)).trans (h.block h1 h2 h3 h4)⟩
theorem OnlyP.set (h : OnlyP p q v w w') (i : Nat) (u : Value) : OnlyP p q v w (w'.setCell ⟨p, i, none⟩ u) := h.trans (v' := v) (.ofOnly ((Only.refl p w').set i u)) (fun _ e => .inl e)
theorem OnlyP.set' (h : OnlyP p q v w w') (i : Nat) (u : Value) : OnlyP p q v w (w'.setCell ⟨q, i, none⟩ u) := h.trans (v' := v) (.ofOnly' ((Only.refl q w').set i u)) (fun _ e => .inl e)
theorem OnlyP.alloc (h : OnlyP p q v w w') (o : Obj) : OnlyP p q v w (w'.alloc o) := h.trans (v' := v) (.ofBelow ((Below.refl w'.heap.size w').alloc (Nat.le_refl _) o)) (fun _ e => .inl e)
theorem OnlyP.below {B : Nat} (h : OnlyP p q v w w') (hp : B ≤ p) (hq : B ≤ q) (hv : ∀ k, v.ownBlock = some k → B ≤ k) (hB : B ≤ w.heap.size) : Below B w w' := ⟨h.1, h.2.1, h.2.2.1, h.size, fun k hk => h.block (by omega) (by omega) (by omega) (fun e => by have := hv k e; omega)⟩
theorem OnlyP.rows {T : Type} {S : Shape T} {B : Nat} {a : Option Addr} {l : List T} (h : OnlyP p q v w w') (hr : Rows S (fun b => b < B ∧ b ≠ p ∧ b ≠ q) w a l) (hv : ∀ k, v.ownBlock = some k → B ≤ k) : Rows S (fun b => b < B ∧ b ≠ p ∧ b ≠ q) w' a l :=
  hr.keep (fun b hb hl => h.block hl hb.2.1 hb.2.2 (fun e => by have := hv b e; omega)) h.size
theorem OnlyP.box {g : Nat} {t : TypeId} {cs : Array Value} (h : OnlyP p q v w w') (hx : Box w g t cs) (hp : g ≠ p) (hq : g ≠ q) (hv : v.ownBlock ≠ some g) : Box w' g t cs := (h.block hx.lt hp hq hv).trans hx
end

/-! At which place each stands. -/
def toZ (o : List Int) (k : Nat) : Int := if (k : Int) ∈ o then (o.idxOf (k : Int) : Int) else -1
def toA (n : Nat) (o : List Int) : Array Value := ((List.range n).map (fun k => Value.int .i64 (toZ o k))).toArray
theorem toA_size (n : Nat) (o : List Int) : (toA n o).size = n := by simp [toA]
theorem toA_get {n k : Nat} (o : List Int) (hk : k < n) : (toA n o)[k]? = some (.int .i64 (toZ o k)) := by simp [toA, hk]
theorem toZ_new {o : List Int} {k : Nat} (h : (k : Int) ∉ o) : toZ (o ++ [(k : Int)]) k = (o.length : Int) := by
  unfold toZ
  rw [if_pos (by simp), List.idxOf_append, if_neg h]
  simp
theorem toZ_other {o : List Int} {k j : Nat} (h : j ≠ k) : toZ (o ++ [(k : Int)]) j = toZ o j := by
  unfold toZ
  by_cases hj : (j : Int) ∈ o
  · rw [if_pos hj, if_pos (List.mem_append_left _ hj), List.idxOf_append, if_pos hj]
  · rw [if_neg hj, if_neg (by simp [hj]; omega)]
theorem toA_put {n k : Nat} {o : List Int} (hk : k < n) (h : (k : Int) ∉ o) : (toA n o).setIfInBounds k (.int .i64 (o.length : Int)) = toA n (o ++ [(k : Int)]) := by
  apply Array.ext
  · simp [toA]
  · intro j h1 h2
    have hj : j < n := by simpa [toA] using h2
    by_cases e : j = k
    · subst e
      simp [toA, toZ_new h]
    · rw [Array.getElem_setIfInBounds_ne (by simpa [toA] using hj) (by omega)]
      simp [toA, toZ_other e]
theorem toZ_in {o : List Int} {k : Nat} (h : (k : Int) ∈ o) : 0 ≤ toZ o k := by unfold toZ; rw [if_pos h]; omega
theorem toZ_out {o : List Int} {k : Nat} (h : (k : Int) ∉ o) : toZ o k = -1 := by unfold toZ; rw [if_neg h]
end Go.Proofs.YtaccifjkeblhpaaGreat

namespace Go.Proofs.YtaccifjkeblhpaaGreat
open Go.ChangeShapes Go.WideShapes Go.ChangeAt Go.RowKit

/-- A number of a type, or below 0. -/
def TypeOr (l : List TypeD) (n : Int) : Prop := n < 0 ∨ ∃ k : Nat, n = (k : Int) ∧ k < l.length
/-- Types that lead to types alone. -/
def Leads (l : List TypeD) : Prop := ∀ k (h : k < l.length), ∀ y ∈ kidsD l[k], TypeOr l y
theorem near.leads {l : List TypeD} (h : near l) : Leads l := fun k hk y hy => by
  unfold kidsD at hy
  have hp := h.parts k hk
  rcases List.mem_cons.1 hy with rfl | hy
  · by_cases hb : l[k].fBase = -1
    · exact .inl (by omega)
    · have h2 := hp l[k].fBase (by unfold partsD; rw [if_neg hb]; exact List.mem_append_left _ (List.mem_singleton.2 rfl))
      obtain ⟨j, e⟩ := Int.eq_ofNat_of_zero_le h2.1
      exact .inr ⟨j, e, by omega⟩
  · have h2 := hp y (by unfold partsD; exact List.mem_append_right _ hy)
    obtain ⟨j, e⟩ := Int.eq_ofNat_of_zero_le h2.1
    exact .inr ⟨j, e, by omega⟩
theorem visit_has {l : List TypeD} {o : List Int} {n : Int} (hm : Met l o) (hn : TypeOr l n) : n < 0 ∨ n ∈ visitZ l o n := by
  rcases hn with hn | ⟨k, rfl, hk⟩
  · exact .inl hn
  · exact .inr (visit_mem hm hk)
theorem fold_has {l : List TypeD} : ∀ (ks : List Int) (o : List Int), Met l o → (∀ y ∈ ks, TypeOr l y) → ∀ y ∈ ks, y < 0 ∨ y ∈ ks.foldl (visitZ l) o
  | [], _, _, _, _, h => by cases h
  | k :: ks, o, hm, hk, y, hy => by
    rw [List.foldl_cons]
    have h1 := visit_goes k hm
    have h2 := fold_goes (fun _ n ho => visit_goes n ho) ks _ h1.1
    rcases List.mem_cons.1 hy with rfl | hy
    · rcases visit_has hm (hk y (by simp)) with h | h
      · exact .inl h
      · exact .inr (h2.2.mem h)
    · exact fold_has ks _ h1.1 (fun z hz => hk z (List.mem_cons_of_mem _ hz)) y hy
/-- What is new in one order behind another one leads to what is in it. -/
def Closes (l : List TypeD) (o o' : List Int) : Prop := ∀ k (h : k < l.length), (k : Int) ∈ o' → (k : Int) ∉ o → ∀ y ∈ kidsD l[k], y < 0 ∨ y ∈ o'
theorem Closes.refl (l : List TypeD) (o : List Int) : Closes l o o := fun _ _ h h' => absurd h h'
theorem Closes.trans {l : List TypeD} {o o' o'' : List Int} (h : Closes l o o') (h' : Closes l o' o'') (hg : Goes o' o'') : Closes l o o'' := fun k hk h1 h2 y hy => by
  by_cases hk' : (k : Int) ∈ o'
  · rcases h k hk hk' h2 y hy with h3 | h3
    · exact .inl h3
    · exact .inr (hg.mem h3)
  · exact h' k hk h1 hk' y hy
theorem fold_closes {l : List TypeD} {m : Nat} (hF : ∀ o n, Met l o → l.length - o.length < m → TypeOr l n → Closes l o (visitZ l o n)) : ∀ (ks : List Int) (o : List Int), Met l o → l.length - o.length < m → (∀ y ∈ ks, TypeOr l y) → Closes l o (ks.foldl (visitZ l) o)
  | [], o, _, _, _ => Closes.refl l o
  | k :: ks, o, hm, hlt, hk => by
    have h1 := visit_goes k hm
    have h2 := fold_goes (fun _ n ho => visit_goes n ho) ks _ h1.1
    have h3 := h1.2.len
    exact (hF o k hm hlt (hk k (by simp))).trans (fold_closes hF ks _ h1.1 (by omega) (fun z hz => hk z (List.mem_cons_of_mem _ hz))) h2.2
theorem visit_closes {l : List TypeD} (hl : Leads l) : ∀ (m : Nat) (o : List Int) (n : Int), Met l o → l.length - o.length < m → TypeOr l n → Closes l o (visitZ l o n) := by
  intro m
  induction m with
  | zero => intro o n _ h; omega
  | succ m ih =>
    intro o n hm hlt hn
    rcases hn with hn | ⟨k, rfl, hk⟩
    · rw [visit_out (by omega)]
      exact Closes.refl l o
    · by_cases ho : (k : Int) ∈ o
      · rw [visit_old ho]
        exact Closes.refl l o
      · rw [visit_new hm hk ho]
        have hp := hm.put (n := (k : Int)) (by omega) ho
        have hpl := hp.len
        simp only [List.length_append, List.length_singleton] at hpl
        have hf := fold_closes ih (kidsD l[k]) (o ++ [(k : Int)]) hp (by simp; omega) (hl k hk)
        intro j hj h1 h2 y hy
        by_cases e : j = k
        · subst e
          exact fold_has _ _ hp (hl j hj) y hy
        · exact hf j hj h1 (by simp [h2]; omega) y hy

/-! Told anew. -/
def transF (o : List Int) (f : FieldD) : FieldD := ⟨if f.fMark = 0 then ⟨#[]⟩ else f.fName, f.fMark, numZ o f.fType⟩
def transT (o : List Int) (t : TypeD) : TypeD := ⟨t.fKind, t.fLong, numZ o t.fBase, t.fFields.map (transF o), t.fOwner, t.fName⟩
def typeZat (l : List TypeD) (n : Int) : TypeD := l.getD n.toNat ⟨0, 0, 0, [], ⟨#[]⟩, ⟨#[]⟩⟩
theorem typeZat_in {l : List TypeD} {k : Nat} (h : k < l.length) : typeZat l (k : Int) = l[k] := by
  unfold typeZat
  simp [List.getD, h]
def tableZ (l : List TypeD) (o : List Int) : List TypeD := o.map (fun n => transT o (typeZat l n))
theorem transT_goes {o o' : List Int} (h : Goes o o') {t : TypeD} (hk : ∀ y ∈ kidsD t, y < 0 ∨ y ∈ o) : transT o' t = transT o t := by
  unfold transT
  have h1 : numZ o' t.fBase = numZ o t.fBase := h.num (hk _ (by unfold kidsD; simp))
  have h2 : t.fFields.map (transF o') = t.fFields.map (transF o) := by
    apply List.map_congr_left
    intro f hf
    unfold transF
    rw [h.num (hk f.fType (by unfold kidsD; exact List.mem_cons_of_mem _ (List.mem_map_of_mem hf)))]
  rw [h1, h2]
end Go.Proofs.YtaccifjkeblhpaaGreat

namespace Go.Proofs.YtaccifjkeblhpaaGreat
open Go.ChangeShapes Go.WideShapes Go.ChangeAt Go.RowKit

theorem visit_base {l : List TypeD} (hb : baseOk l) {o : List Int} {k : Nat} (hm : Met l o) (hk : k < 3) (ho : (k : Int) ∉ o) : visitZ l o (k : Int) = o ++ [(k : Int)] := by
  have hkl : k < l.length := by have := hb.1; omega
  obtain ⟨_, _, h3, h4, _⟩ := hb.2 k hkl hk
  rw [visit_new hm hkl ho]
  unfold kidsD
  rw [List.eq_nil_of_length_eq_zero h4, h3]
  simp only [List.map_nil, List.foldl_cons, List.foldl_nil]
  exact visit_out (by omega)
theorem met_nil (l : List TypeD) : Met l [] := ⟨List.nodup_nil, fun _ h => by cases h⟩
/-- The first three are met first. -/
theorem base_order {l : List TypeD} (hb : baseOk l) : visitZ l (visitZ l (visitZ l [] 0) 1) 2 = [0, 1, 2] ∧ Met l [0, 1, 2] := by
  have h3 := hb.1
  have m1 : Met l [0] := ⟨by simp, fun x hx => by simp at hx; omega⟩
  have m2 : Met l [0, 1] := ⟨by simp, fun x hx => by simp at hx; omega⟩
  have m3 : Met l [0, 1, 2] := ⟨by simp, fun x hx => by simp at hx; omega⟩
  have e0 : visitZ l [] 0 = [0] := visit_base hb (k := 0) (met_nil l) (by omega) (by simp)
  have e1 : visitZ l [0] 1 = [0, 1] := visit_base hb (k := 1) m1 (by omega) (by simp)
  have e2 : visitZ l [0, 1] 2 = [0, 1, 2] := visit_base hb (k := 2) m2 (by omega) (by simp)
  rw [e0, e1, e2]
  exact ⟨rfl, m3⟩
/-- The types that an object names, in order. -/
def namesO (o : ObjectD) : List Int := o.fType :: o.fParams.map ParamD.fType
def visitO (l : List TypeD) (o : List Int) (ob : ObjectD) : List Int := (namesO ob).foldl (visitZ l) o
def shownO (os : List ObjectD) : List ObjectD := os.filter (fun o => decide (o.fMark ≠ 0))
def orderZ (l : List TypeD) (os : List ObjectD) : List Int := (shownO os).foldl (visitO l) [0, 1, 2]
def transP (o : List Int) (p : ParamD) : ParamD := ⟨p.fName, p.fByVar, numZ o p.fType⟩
def transO (o : List Int) (ob : ObjectD) : ObjectD := ⟨ob.fName, ob.fKind, ob.fMark, numZ o ob.fType, ob.fValue, ob.fParams.map (transP o)⟩
theorem visitO_goes {l : List TypeD} {o : List Int} (ob : ObjectD) (h : Met l o) : Met l (visitO l o ob) ∧ Goes o (visitO l o ob) := fold_goes (fun _ n ho => visit_goes n ho) _ _ h
theorem order_goes {l : List TypeD} : ∀ (os : List ObjectD) (o : List Int), Met l o → Met l (os.foldl (visitO l) o) ∧ Goes o (os.foldl (visitO l) o)
  | [], o, h => ⟨h, Goes.refl o⟩
  | x :: os, o, h => by
    obtain ⟨h1, h2⟩ := visitO_goes x h
    obtain ⟨h3, h4⟩ := order_goes os _ h1
    exact ⟨h3, h2.trans h4⟩
/-- What an object names is met where it was visited. -/
theorem visitO_has {l : List TypeD} {o : List Int} {ob : ObjectD} (h : Met l o) (hk : ∀ y ∈ namesO ob, TypeOr l y) : ∀ y ∈ namesO ob, y < 0 ∨ y ∈ visitO l o ob := fold_has _ _ h hk
theorem transO_goes {o o' : List Int} (h : Goes o o') {ob : ObjectD} (hk : ∀ y ∈ namesO ob, y < 0 ∨ y ∈ o) : transO o' ob = transO o ob := by
  unfold transO
  have h1 : numZ o' ob.fType = numZ o ob.fType := h.num (hk _ (by unfold namesO; simp))
  have h2 : ob.fParams.map (transP o') = ob.fParams.map (transP o) := by
    apply List.map_congr_left
    intro p hp
    unfold transP
    rw [h.num (hk p.fType (by unfold namesO; exact List.mem_cons_of_mem _ (List.mem_map_of_mem hp)))]
  rw [h1, h2]
theorem shown_next {os : List ObjectD} {k : Nat} (hk : k < os.length) : shownO (os.take (k + 1)) = shownO (os.take k) ++ (if os[k].fMark ≠ 0 then [os[k]] else []) := by
  unfold shownO
  rw [List.take_succ_eq_append_getElem hk, List.filter_append]
  by_cases h : os[k].fMark = 0 <;> simp [h]
theorem order_next {l : List TypeD} {os : List ObjectD} {k : Nat} (hk : k < os.length) : orderZ l (os.take (k + 1)) = if os[k].fMark ≠ 0 then visitO l (orderZ l (os.take k)) os[k] else orderZ l (os.take k) := by
  unfold orderZ
  rw [shown_next hk, List.foldl_append]
  split <;> rfl
end Go.Proofs.YtaccifjkeblhpaaGreat
