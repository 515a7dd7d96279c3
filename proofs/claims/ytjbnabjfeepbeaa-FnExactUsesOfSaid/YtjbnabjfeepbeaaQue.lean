
/-
  What is proved: a row of numbers of the call's own that is taken from in front and appended to behind: what it is, and append on it. No condition beside what each theorem states.
-/
import Derived.Test.YtjbnabjfeepbeaaISpread
namespace Go.Proofs.Ytjbnabjfeepbeaa
open Go.ChangeShapes Go.WideShapes Go.ChangeAt Go.RowKit

structure QueAt (w : World) (g off cap : Nat) (S : List Int) : Prop where
  le : S.length ≤ cap
  max : cap ≤ maxLen
  holds : ∀ i (h : i < S.length), w.cell? ⟨g, off + i, none⟩ = some (.int .i64 S[i])
  there : ∀ j, j < cap → (w.cell? ⟨g, off + j, none⟩).isSome = true ∧ w.frozen? ⟨g, off + j, none⟩ = false
def Que (w : World) (B : Nat) (v : Value) (S : List Int) : Prop := (v = .slice none 0 0 ∧ S = []) ∨ ∃ g off cap, v = .slice (some ⟨g, off, none⟩) S.length cap ∧ B ≤ g ∧ g < w.heap.size ∧ QueAt w g off cap S

theorem OwnInts.que {w : World} {B : Nat} {v : Value} {S : List Int} (h : OwnInts w B v S) : Que w B v S := by
  rcases h.2 with ⟨rfl, h0⟩ | ⟨g, cap, cur, rfl, hb, hg, hc, hm, hs, ht⟩
  · exact .inl ⟨rfl, List.eq_nil_of_length_eq_zero h0⟩
  · have hlt : g < w.heap.size := (Array.getElem?_eq_some_iff.1 hg).1
    refine .inr ⟨g, 0, cap, rfl, hb, hlt, ⟨hc, hm, fun i hi => ?_, fun j hj => ?_⟩⟩
    · have := World.ownsRow.cells h (g := g) rfl i (.int .i64 S[i]) (by simp [hi])
      rwa [add_off] at this
    · rw [Nat.zero_add, cell_of_row w g j cur _ _ hg, Array.getElem?_eq_getElem (by omega)]
      exact ⟨rfl, by simp [World.frozen?, hg]⟩
theorem QueAt.keep {w w' : World} {g off cap : Nat} {S : List Int} (h : QueAt w g off cap S) (hk : w'.heap[g]? = w.heap[g]?) : QueAt w' g off cap S :=
  ⟨h.le, h.max, fun i hi => (World.cell?_of_block (a := ⟨g, off + i, none⟩) hk).trans (h.holds i hi), fun j hj => ⟨by rw [World.cell?_of_block (a := ⟨g, off + j, none⟩) hk]; exact (h.there j hj).1, (World.frozen?_of_block (a := ⟨g, off + j, none⟩) hk).trans (h.there j hj).2⟩⟩
theorem Que.keep {w w' : World} {B : Nat} {v : Value} {S : List Int} (h : Que w B v S) (hk : ∀ k, v.ownBlock = some k → w'.heap[k]? = w.heap[k]?) (hs : w.heap.size ≤ w'.heap.size) : Que w' B v S :=
  h.imp id fun ⟨g, off, cap, e, h1, h2, h3⟩ => ⟨g, off, cap, e, h1, Nat.lt_of_lt_of_le h2 hs, h3.keep (hk g (by rw [e]; rfl))⟩
theorem Que.lt {w : World} {B : Nat} {v : Value} {S : List Int} (h : Que w B v S) : ∀ k, v.ownBlock = some k → B ≤ k ∧ k < w.heap.size := by
  rcases h with ⟨rfl, _⟩ | ⟨g, off, cap, rfl, h1, h2, _⟩
  · intro k hk; cases hk
  · intro k hk
    have : g = k := by simpa [Value.ownBlock] using hk
    omega
theorem Que.below {w w' : World} {B : Nat} {v : Value} {S : List Int} (h : Que w B v S) (hb : Below w.heap.size w w') : Que w' B v S :=
  h.keep (fun k hk => hb.block k (h.lt k hk).2) hb.size
theorem Que.lower {w : World} {B B' : Nat} {v : Value} {S : List Int} (h : Que w B v S) (hB : B' ≤ B) : Que w B' v S :=
  h.imp id fun ⟨g, off, cap, e, h1, h2⟩ => ⟨g, off, cap, e, Nat.le_trans hB h1, h2⟩
theorem Que.slice {w : World} {B : Nat} {v : Value} {S : List Int} (h : Que w B v S) : ∃ a c, v = .slice a S.length c ∧ S.length ≤ c := by
  rcases h with ⟨rfl, rfl⟩ | ⟨g, off, cap, rfl, _, _, h⟩
  · exact ⟨none, 0, rfl, Nat.le_refl _⟩
  · exact ⟨_, cap, rfl, h.le⟩
/-- The first is taken. -/
theorem Que.tail {w : World} {B : Nat} {v : Value} {S : List Int} {x : Int} (h : Que w B v (x :: S)) : ∃ g off cap, v = .slice (some ⟨g, off, none⟩) (S.length + 1) cap ∧ S.length + 1 ≤ cap ∧ cap ≤ maxLen ∧ B ≤ g ∧ g < w.heap.size ∧ w.cell? ⟨g, off, none⟩ = some (.int .i64 x) ∧
    (cap ≠ 1 → Que w B (.slice (some ⟨g, off + 1, none⟩) S.length (cap - 1)) S) ∧ (cap = 1 → S = [] ∧ Que w B (.slice (some ⟨g, off, none⟩) 0 0) S) := by
  rcases h with ⟨_, h⟩ | ⟨g, off, cap, rfl, h1, h2, h⟩
  · cases h
  · have hle := h.le
    simp only [List.length_cons] at hle
    have h0 := h.holds 0 (by simp)
    refine ⟨g, off, cap, rfl, hle, h.max, h1, h2, h0, fun hc => .inr ⟨g, off + 1, cap - 1, rfl, h1, h2, ⟨by omega, by have := h.max; omega, fun i hi => ?_, fun j hj => ?_⟩⟩, fun hc => ?_⟩
    · have := h.holds (i + 1) (by simp only [List.length_cons]; omega)
      rw [Nat.add_assoc, Nat.add_comm 1 i]
      simpa using this
    · have := h.there (j + 1) (by omega)
      rwa [Nat.add_assoc, Nat.add_comm 1 j]
    · have hS : S = [] := List.eq_nil_of_length_eq_zero (by omega)
      subst hS
      exact ⟨rfl, .inr ⟨g, off, 0, rfl, h1, h2, ⟨by simp, by unfold maxLen; omega, fun i hi => absurd hi (by simp), fun j hj => absurd hj (by omega)⟩⟩⟩

theorem setCells_other (g o : Nat) (vs : List Value) : ∀ (w : World) (k : Nat), k ≠ g → (w.setCells g o vs).heap[k]? = w.heap[k]? := by
  induction vs generalizing o with
  | nil => intro w k _; rfl
  | cons v vs ih => intro w k hk; exact (ih (o + 1) _ k hk).trans (Below.heap_setCell w ⟨g, o, none⟩ v k hk)
theorem setCells_size (g o : Nat) (vs : List Value) : ∀ (w : World), (w.setCells g o vs).heap.size = w.heap.size := by
  induction vs generalizing o with
  | nil => intro w; rfl
  | cons v vs ih => intro w; exact (ih (o + 1) _).trans (by simp [World.setCell])
theorem setCells_rest (g o : Nat) (vs : List Value) : ∀ (w : World), (w.setCells g o vs).os = w.os ∧ (w.setCells g o vs).tape = w.tape ∧ (w.setCells g o vs).output = w.output := by
  induction vs generalizing o with
  | nil => intro w; exact ⟨rfl, rfl, rfl⟩
  | cons v vs ih => intro w; exact ih (o + 1) (w.setCell ⟨g, o, none⟩ v)

theorem src_nums {w : World} {ao : Option Addr} {m : List Int} (c : Nat) (hN : Nums w ao m) (h0 : ao = none → m = []) : Src Try.prog 1 38 (.slice ao m.length c) m.length (m.map (Value.int .i64)) w := by
  cases ao with
  | none => rw [h0 rfl]; exact Src.ofNil w Try.underlying38 c
  | some ad =>
    refine Src.ofSlice w Try.underlying38 ad m.length c _ (by simp) (fun j u hu => ?_) (fun u hu => by obtain ⟨z, _, rfl⟩ := List.mem_map.1 hu; rfl)
    rw [List.getElem?_map] at hu
    by_cases hj : j < m.length
    · obtain ⟨b, o', e, _, e2⟩ := hN j hj
      cases e
      rw [List.getElem?_eq_getElem hj] at hu
      cases hu
      rw [add_off]
      exact e2
    · rw [List.getElem?_eq_none (by omega)] at hu
      cases hu
theorem Nums.none_nil {w : World} {m : List Int} (h : Nums w none m) : m = [] := by
  cases m with
  | nil => rfl
  | cons y m =>
    obtain ⟨b, o', e, _⟩ := h 0 (by simp)
    cases e

/-- append of a row of numbers behind such a row. -/
theorem wpList_pushQue {ops : Array Oper} {rest : List Oper} {o : Oper} {a : Act} {Q : Exit → Act → World → Prop} (hgd : o.guard = none) (s x : Operand)
    (ho : o.op = .call { callee := .builtin .append, args := #[s, x], argTypes := #[38, 38] })
    (B : Nat) (w : World) (v : Value) (l : List Int) (hs : a.eval s = v) (hown : Que w B v l) (m : List Int) (ao : Option Addr) (c : Nat) (hx : a.eval x = .slice ao m.length c) (hN : Nums w ao m)
    (h63 : l.length + m.length ≤ 1048577 + 1048576) (hbase : B ≤ w.heap.size)
    (h : ∀ v' w', Que w' B v' (l ++ m) → w.grownBy w' v.ownBlock → (∀ k, v'.ownBlock = some k → v.ownBlock = some k ∨ w.heap.size ≤ k) → wpList Try.prog ops Q rest (a.put o.dst v') w') : wpList Try.prog ops Q (o :: rest) a w := by
  obtain ⟨i0, hi, hz0, hz1, hz2⟩ := info_parts infoInt
  have hsrc := src_nums (w := w) c hN (fun e => by subst e; exact hN.none_nil)
  suffices hsuf : ∃ v' w', (Builtin.append_ #[38, 38] o.type #[v, .slice ao m.length c]).run Try.prog w = .ok v' w' ∧ Que w' B v' (l ++ m) ∧ w.grownBy w' v.ownBlock ∧ (∀ k, v'.ownBlock = some k → v.ownBlock = some k ∨ w.heap.size ≤ k) by
    obtain ⟨v', w', hr, h1, h2, h3⟩ := hsuf
    refine wpList_plain hgd fun _ hK => ?_
    unfold Oper.wp execOp
    simp only [ho, resolve, invoke, builtin, Sem.run_bind, Sem.run_pure, Result.andThen_ok, List.map_toArray, List.map_cons, List.map_nil, hs, hx, hr]
    exact hK _ _ (h v' w' h1 h2 h3)
  -- the arm that grows
  have grow : ∀ (bs : Option Addr) (sc : Nat), v = .slice bs l.length sc → sc < l.length + m.length → (Builtin.firstCells i0.size l.length (.slice bs l.length sc)).run Try.prog w.drew = .ok (l.map (Value.int .i64)).toArray w.drew → ∃ v' w', (Builtin.append_ #[38, 38] o.type #[v, .slice ao m.length c]).run Try.prog w = .ok v' w' ∧ Que w' B v' (l ++ m) ∧ w.grownBy w' v.ownBlock ∧ (∀ k, v'.ownBlock = some k → v.ownBlock = some k ∨ w.heap.size ≤ k) := fun bs sc hv hsc hold => by
    subst hv
    have hr := run_append_grow_src (P := Try.prog) w 38 38 o.type 3 i0 (.int .i64 0) Try.underlying38 hi hz0 bs l.length sc (l.map (Value.int .i64)) hold (.slice ao m.length c) m.length (m.map (Value.int .i64)) (by rw [hz1]; exact hsrc) hsc (by omega) (growslice_fits hsc (by rw [hz2]; omega))
    have hge := grownCap_ge w (l.length + m.length) sc 3
    have hcm := grownCap_le_maxLen w (l.length + m.length) sc 3 (by unfold maxLen; omega)
    refine ⟨_, _, hr, OwnInts.que (B := B) ⟨by simp, .inr ⟨w.heap.size, _, _, by rw [List.length_append], hbase, heap_alloc_new w.drew _, by rw [List.length_append]; exact hge, hcm, ?_, ?_⟩⟩, ⟨rfl, rfl, rfl, by simp, fun k hk _ => Below.heap_alloc w.drew _ k hk⟩, fun k hk => .inr (by
      have : w.heap.size = k := by simpa [Value.ownBlock] using hk
      omega)⟩
    · simp only [Array.size_append, List.size_toArray, size_zeroCells, List.length_append, List.length_map, Value.cells]
      simp
      omega
    · simp only [Array.toList_append, List.map_append]
      rw [List.take_left' (by simp)]
  rcases hown with ⟨rfl, rfl⟩ | ⟨g, off, cap, rfl, hb, hg, hq⟩
  · by_cases hm : m.length = 0
    · have hm0 : m = [] := List.eq_nil_of_length_eq_zero hm
      subst hm0
      have hr := run_append_nothing (P := Try.prog) w 38 38 o.type 3 i0 Try.underlying38 hi none 0 0 (Nat.le_refl _) (.slice ao 0 c) (by rw [hz1]; exact hsrc)
      exact ⟨_, _, hr, .inl ⟨rfl, rfl⟩, grownBy_same _ _, fun k hk => by cases hk⟩
    · exact grow none 0 rfl (by simp; omega) (by simpa using run_firstCells_none w.drew i0.size 0 0 0)
  · have hle := hq.le
    by_cases hfit : l.length + m.length ≤ cap
    · have hr := run_append_room_src (P := Try.prog) w 38 38 o.type 3 i0 Try.underlying38 hi g off l.length cap (.slice ao m.length c) m.length (m.map (Value.int .i64)) (by rw [hz1]; exact hsrc) hfit
        (fun j hj => by rw [hz1, Nat.mul_one, Nat.add_assoc]; exact (hq.there _ (by simp at hj; omega)).1) (fun j hj => by rw [hz1, Nat.mul_one, Nat.add_assoc]; exact (hq.there _ (by simp at hj; omega)).2)
      rw [hz1, Nat.mul_one] at hr
      have hr3 := setCells_rest g (off + l.length) (m.map (Value.int .i64)) w
      have hsz := setCells_size g (off + l.length) (m.map (Value.int .i64)) w
      refine ⟨_, _, hr, .inr ⟨g, off, cap, by rw [List.length_append], hb, by rw [hsz]; exact hg, ⟨by rw [List.length_append]; exact hfit, hq.max, fun i hi' => ?_, fun j hj => ⟨?_, ?_⟩⟩⟩, ⟨hr3.1, hr3.2.1, hr3.2.2, by rw [hsz]; exact Nat.le_refl _, fun k _ hk => setCells_other g _ _ w k (fun e => hk (by rw [e]; rfl))⟩, fun k hk => .inl hk⟩
      · by_cases hil : i < l.length
        · rw [World.cell?_setCells_out g _ _ _ _ (fun _ _ => Or.inl (by show off + i < off + l.length; omega)), List.getElem_append_left hil]
          exact hq.holds i hil
        · rw [List.length_append] at hi'
          have ht : i - l.length < (m.map (Value.int .i64)).length := by simp; omega
          have := World.cell?_setCells_in g (m.map (Value.int .i64)) (off + l.length) w (fun j hj => by rw [Nat.add_assoc]; exact (hq.there _ (by simp at hj; omega)).1) (i - l.length) ht
          rw [Nat.add_assoc, show l.length + (i - l.length) = i by omega] at this
          rw [this, List.getElem_append_right (by omega)]
          simp
      · by_cases hjm : l.length ≤ j ∧ j < l.length + m.length
        · have ht : j - l.length < (m.map (Value.int .i64)).length := by simp; omega
          have := World.cell?_setCells_in g (m.map (Value.int .i64)) (off + l.length) w (fun j hj => by rw [Nat.add_assoc]; exact (hq.there _ (by simp at hj; omega)).1) (j - l.length) ht
          rw [Nat.add_assoc, show l.length + (j - l.length) = j by omega] at this
          rw [this]
          rfl
        · rw [World.cell?_setCells_out g _ _ _ _ (fun _ _ => by show off + j < off + l.length ∨ off + l.length + (m.map (Value.int .i64)).length ≤ off + j; simp; omega)]
          exact (hq.there j hj).1
      · rw [World.frozen?_setCells]; exact (hq.there j hj).2
    · refine grow _ cap rfl (by omega) ?_
      have hnums : Nums w (some ⟨g, off, none⟩) l := fun i hi => ⟨g, off, rfl, hg, hq.holds i hi⟩
      have := (src_nums (w := w) cap hnums (fun e => by cases e)).cellsD
      rwa [hz1]
end Go.Proofs.Ytjbnabjfeepbeaa
