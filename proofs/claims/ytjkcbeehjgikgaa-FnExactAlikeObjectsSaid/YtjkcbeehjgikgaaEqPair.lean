
/-
  What is proved: pairs of numbers compared; a row of pairs that the call owns, and append on it; what the model's same tells. No condition beside what each theorem states.
-/
import Derived.Test.YtjkcbeehjgikgaaEqHeads
namespace Go.Proofs.Ytjkcbeehjgikgaa
open Go.ChangeShapes Go.WideShapes Go.ChangeAt Go.RowKit Go.Maps Go.WideMaps

theorem eqItemsI (xs ys : Array Value) (f g : Nat → Int) (w : World) : ∀ (is : List Nat), (∀ i ∈ is, xs[i]? = some (.int .i64 (f i)) ∧ ys[i]? = some (.int .i64 (g i))) →
    (Op.eqItems 9999 3 1 xs ys is).run Try.prog w = .ok (is.all fun i => f i == g i) w
  | [], _ => by simp [Op.eqItems]
  | i :: is, h => by
    have hk : Try.prog.plainKey 3 = true := by kernel_rfl
    have ku : ∀ (a b : Int) (W : World), (Op.equalIn 9999 3 (.int .i64 a) (.int .i64 b)).run Try.prog W = .ok (a == b) W := fun a b W => run_equalIn_int W 9998 3 .i64 .i64 a b Try.underlying3
    obtain ⟨h1, h2⟩ := h i (by simp)
    have ih := eqItemsI xs ys f g w is (fun j hj => h j (by simp [hj]))
    simp only [Op.eqItems, Sem.run_bind, Nat.mul_one, run_part_plain w hk h1, run_part_plain w hk h2, ku, Result.andThen_ok, List.all_cons]
    cases f i == g i
    · simp
    · simp [ih]
theorem info64' : (Try.prog.info? 3).map (fun i => (i.zero, i.size, i.bytes)) = some (some (.int .i64 0), 1, 8) := by kernel_rfl
theorem eqPair (a b c d : Int) (w : World) : (Op.equalIn 10000 204 (.agg #[.int .i64 a, .int .i64 b]) (.agg #[.int .i64 c, .int .i64 d])).run Try.prog w = .ok ((a == c) && (b == d)) w := by
  have hu : Try.prog.underlying 204 = some (.array 2 3) := by kernel_rfl
  have hc : Try.prog.cellsOf 3 = 1 := by kernel_rfl
  obtain ⟨i0, hi0, _, _, _⟩ := info_parts info64'
  rw [show (10000 : Nat) = 9999 + 1 from rfl, run_equalIn_array w 9999 _ _ hu hi0, hc]
  rw [eqItemsI _ _ (fun i => [a, b].getD i 0) (fun i => [c, d].getD i 0) w (List.range 2) (fun i hi => by
    have : i = 0 ∨ i = 1 := by have := List.mem_range.1 hi; omega
    rcases this with rfl | rfl <;> exact ⟨rfl, rfl⟩)]
  simp [show List.range 2 = [0, 1] from rfl]

theorem infoPair : (Try.prog.info? 204).map (fun i => (i.zero, i.size, i.bytes)) = some (some (.agg #[.int .i64 0, .int .i64 0]), 2, 16) := by kernel_rfl
def heldCells (L : List (Int × Int)) : List Value := L.flatMap fun p => [.int .i64 p.1, .int .i64 p.2]
theorem heldCells_len (L : List (Int × Int)) : (heldCells L).length = L.length * 2 := by
  induction L with
  | nil => rfl
  | cons p L ih => simp only [heldCells, List.flatMap_cons, List.length_append, List.length_cons, List.length_nil] at *; omega
theorem heldCells_at {L : List (Int × Int)} {k : Nat} (h : k < L.length) : (heldCells L)[k * 2]? = some (.int .i64 L[k].1) ∧ (heldCells L)[k * 2 + 1]? = some (.int .i64 L[k].2) := by
  induction L generalizing k with
  | nil => simp at h
  | cons p L ih =>
    have e : heldCells (p :: L) = .int .i64 p.1 :: .int .i64 p.2 :: heldCells L := rfl
    rw [e]
    cases k with
    | zero => exact ⟨rfl, rfl⟩
    | succ k =>
      have := ih (k := k) (by simpa using h)
      rw [show (k + 1) * 2 = k * 2 + 1 + 1 by omega]
      simpa using this
theorem heldCells_snoc (L : List (Int × Int)) (p : Int × Int) : heldCells (L ++ [p]) = heldCells L ++ [.int .i64 p.1, .int .i64 p.2] := by simp [heldCells]
def HeldV (w : World) (B : Nat) (v : Value) (L : List (Int × Int)) : Prop := w.ownsRow B 204 2 v L.length (heldCells L)
theorem HeldV.nil {w : World} {B : Nat} : HeldV w B (.slice none 0 0) [] := World.ownsRow_nil _ _ _ _
theorem HeldV.alloc {w : World} {B : Nat} {v : Value} {L : List (Int × Int)} (h : HeldV w B v L) (o : Obj) : HeldV (w.alloc o) B v L := World.ownsRow.alloc h o
theorem HeldV.keep {w w' : World} {B : Nat} {v : Value} {L : List (Int × Int)} (h : HeldV w B v L) (hk : ∀ k, v.ownBlock = some k → w'.heap[k]? = w.heap[k]?) : HeldV w' B v L :=
  ⟨h.1, h.2.imp id (fun ⟨g, cap, cur, h1, h2, h3, h4⟩ => ⟨g, cap, cur, h1, h2, by rw [hk g (by rw [h1]; rfl)]; exact h3, h4⟩)⟩
theorem HeldV.lt {w : World} {B : Nat} {v : Value} {L : List (Int × Int)} (h : HeldV w B v L) : ∀ k, v.ownBlock = some k → B ≤ k ∧ k < w.heap.size := World.ownsRow.lt h
theorem HeldV.slice {w : World} {B : Nat} {v : Value} {L : List (Int × Int)} (h : HeldV w B v L) : ∃ a c, v = .slice a L.length c ∧ ∀ k (hk : k < L.length), ∃ g, a = some ⟨g, 0, none⟩ ∧ g < w.heap.size ∧ w.cell? ⟨g, k * 2, none⟩ = some (.int .i64 L[k].1) ∧ w.cell? ⟨g, k * 2 + 1, none⟩ = some (.int .i64 L[k].2) := by
  rcases h.2 with ⟨rfl, h0⟩ | ⟨g, cap, cur, rfl, hb, hg, hc, hm, hs, ht⟩
  · have : L = [] := List.eq_nil_of_length_eq_zero h0
    subst this
    exact ⟨none, 0, rfl, fun k hk => absurd hk (by simp)⟩
  · refine ⟨_, cap, rfl, fun k hk => ⟨g, rfl, (Array.getElem?_eq_some_iff.1 hg).1, ?_, ?_⟩⟩
    · have := World.ownsRow.cells h (g := g) rfl _ _ (heldCells_at hk).1
      rwa [show (⟨g, 0, none⟩ : Addr).add (k * 2) = ⟨g, 0 + k * 2, none⟩ by unfold Addr.add; split <;> simp_all, Nat.zero_add] at this
    · have := World.ownsRow.cells h (g := g) rfl _ _ (heldCells_at hk).2
      rwa [show (⟨g, 0, none⟩ : Addr).add (k * 2 + 1) = ⟨g, 0 + (k * 2 + 1), none⟩ by unfold Addr.add; split <;> simp_all, Nat.zero_add] at this

/-- append of one pair to a row of pairs that the call owns. -/
theorem wpList_pushPair {ops : Array Oper} {rest : List Oper} {o : Oper} {a : Act} {Q : Exit → Act → World → Prop} (hgd : o.guard = none) (s x : Operand)
    (ho : o.op = .call { callee := .builtin .append, args := #[s, x], argTypes := #[194, 194] })
    (B : Nat) (w : World) (v : Value) (L : List (Int × Int)) (hs : a.eval s = v) (hown : HeldV w B v L) (p q : Int) (g : Nat) (hx : a.eval x = .slice (some ⟨g, 0, none⟩) 1 1) (hg : g = w.heap.size)
    (h63 : L.length ≤ 1048576) (hbase : B ≤ w.heap.size)
    (h : ∀ v' w', HeldV w' B v' (L ++ [(p, q)]) → w.grownBy w' v.ownBlock → (∀ k, v'.ownBlock = some k → v.ownBlock = some k ∨ w.heap.size ≤ k) → wpList Try.prog ops Q rest (a.put o.dst v') w') : wpList Try.prog ops Q (o :: rest) a (w.alloc (.cells #[.int .i64 p, .int .i64 q] 204)) := by
  subst hg
  obtain ⟨i0, hi, hz0, hz1, hz2⟩ := info_parts infoPair
  refine wpList_append_own_at _ hgd s x 194 ho B 204 i0 _ 2 16 Try.underlying194 hi hz0 hz1 hz2 rfl (by decide) v L.length (heldCells L) hs (hown.alloc _) ⟨w.heap.size, 0, none⟩ 1 1 [.int .i64 p, .int .i64 q] hx rfl ?_
    (fun y hy => by rcases List.mem_cons.1 hy with rfl | hy; rfl; rw [List.mem_singleton.1 hy]; rfl) (by unfold maxLen; omega) (by omega) (by simp; omega) (fun v' w' h1 h2 _ h4 => h v' w' (by unfold HeldV; rw [heldCells_snoc, List.length_append]; exact h1) ⟨h2.os, h2.tape, h2.output, by have := h2.size; simp at this; omega, fun k hk hn => (h2.block k (by simp; omega) hn).trans (Below.heap_alloc w _ k hk)⟩ (fun k hk => by
      rcases h4 with h4 | h4
      · exact .inl (h4 ▸ hk)
      · rw [h4] at hk; injection hk with hk; simp at hk; exact .inr (by omega)))
  intro j u hu
  have e : (⟨w.heap.size, 0, none⟩ : Addr).add j = ⟨w.heap.size, j, none⟩ := by unfold Addr.add; split <;> simp_all
  rw [e, (Box.new w 204 #[.int .i64 p, .int .i64 q]).cell]
  simpa using hu

/-- Of what was there only block g and the row's own block have turned. -/
def OnlyH (g : Nat) (v : Value) (w w' : World) : Prop := w'.os = w.os ∧ w'.tape = w.tape ∧ w'.output = w.output ∧ w.heap.size ≤ w'.heap.size ∧ ∀ k, k < w.heap.size → k ≠ g → v.ownBlock ≠ some k → w'.heap[k]? = w.heap[k]?
theorem OnlyH.refl (g : Nat) (v : Value) (w : World) : OnlyH g v w w := ⟨rfl, rfl, rfl, Nat.le_refl _, fun _ _ _ _ => rfl⟩
theorem OnlyH.ofBelow {g : Nat} {v : Value} {w w' : World} (h : Below w.heap.size w w') : OnlyH g v w w' := ⟨h.os, h.tape, h.output, h.size, fun k hk _ _ => h.block k hk⟩
theorem OnlyH.ofGrown {g : Nat} {v : Value} {w w' : World} (h : w.grownBy w' v.ownBlock) : OnlyH g v w w' := ⟨h.os, h.tape, h.output, h.size, fun k hk _ hn => h.block k hk (fun e => hn e.symm)⟩
theorem OnlyH.set {g : Nat} {v : Value} {w w' : World} (h : OnlyH g v w w') (i : Nat) (u : Value) : OnlyH g v w (w'.setCell ⟨g, i, none⟩ u) :=
  ⟨h.1, h.2.1, h.2.2.1, by simpa [World.setCell] using h.2.2.2.1, fun k hk hg hn => (Below.heap_setCell w' ⟨g, i, none⟩ u k hg).trans (h.2.2.2.2 k hk hg hn)⟩
theorem OnlyH.trans {g : Nat} {v v' : Value} {w w' w'' : World} (h : OnlyH g v w w') (h' : OnlyH g v' w' w'') (hv : ∀ k, v'.ownBlock = some k → v.ownBlock = some k ∨ w.heap.size ≤ k) : OnlyH g v w w'' :=
  ⟨h'.1.trans h.1, h'.2.1.trans h.2.1, h'.2.2.1.trans h.2.2.1, Nat.le_trans h.2.2.2.1 h'.2.2.2.1, fun k hk hg hn => (h'.2.2.2.2 k (Nat.lt_of_lt_of_le hk h.2.2.2.1) hg (fun e => (hv k e).elim (fun e => hn e) (fun e => by omega))).trans (h.2.2.2.2 k hk hg hn)⟩
theorem OnlyH.below {g B : Nat} {v : Value} {w w' : World} (h : OnlyH g v w w') (hg : B ≤ g) (hv : ∀ k, v.ownBlock = some k → B ≤ k) (hB : B ≤ w.heap.size) : Below B w w' :=
  ⟨h.1, h.2.1, h.2.2.1, h.2.2.2.1, fun k hk => h.2.2.2.2 k (by omega) (by omega) (fun e => by have := hv k e; omega)⟩
theorem OnlyH.alloc {g : Nat} {v : Value} {w w' : World} (h : OnlyH g v w w') (o : Obj) : OnlyH g v w (w'.alloc o) := h.trans (OnlyH.ofBelow ((Below.refl w'.heap.size w').alloc (Nat.le_refl _) o)) (fun _ hk => .inl hk)
/-- Rows that lie neither in block g nor from B on. -/
theorem Rows.onlyH {T : Type} {S : Shape T} {g B : Nat} {v : Value} {w w' : World} {a : Option Addr} {l : List T} (h : Rows S (fun b => b ≠ g ∧ b < B) w a l) (ho : OnlyH g v w w') (hv : ∀ k, v.ownBlock = some k → B ≤ k) : Rows S (fun b => b ≠ g ∧ b < B) w' a l :=
  h.keep (fun b hb hl => ho.2.2.2.2 b hl hb.1 (fun e => by have := hv b e; omega)) ho.2.2.2.1
theorem Box.onlyH {w w' : World} {g gs : Nat} {v : Value} {t : TypeId} {cs : Array Value} (h : Box w g t cs) (ho : OnlyH gs v w w') (hg : g ≠ gs) (hv : v.ownBlock ≠ Option.some g) : Box w' g t cs := (ho.2.2.2.2 g h.lt hg hv).trans h
end Go.Proofs.Ytjkcbeehjgikgaa
