
/-
  What is proved: append of a whole row of fields to an empty row of the call's own. No condition beside what each theorem states.
-/
import Derived.Test.YtkbgkfmflieidaaDrawU
import Derived.Deep.Upon
namespace Go.Proofs.Ytkbgkfmflieidaa
open Go.ChangeShapes Go.WideShapes Go.ChangeAt Go.RowKit
set_option maxRecDepth 100000

def fieldCells (f : FieldD) : List Value := [.string f.fName, .int .i64 f.fMark, .int .i64 f.fType]
theorem flatF_len : ∀ l : List FieldD, (l.flatMap fieldCells).length = l.length * 3
  | [] => rfl
  | x :: l => by rw [List.flatMap_cons, List.length_append, flatF_len l, List.length_cons]; show 3 + _ = _; omega
theorem flatF_at : ∀ (l : List FieldD) (k : Nat) (h : k < l.length) (j : Nat), j < 3 → (l.flatMap fieldCells)[k * 3 + j]? = (fieldCells l[k])[j]?
  | x :: l, 0, _, j, hj => by
    rw [List.flatMap_cons, List.getElem?_append_left (by show 0 * 3 + j < 3; omega)]
    simp
  | x :: l, k + 1, h, j, hj => by
    rw [List.flatMap_cons, List.getElem?_append_right (by show 3 ≤ _; omega)]
    have := flatF_at l k (by simpa using h) j hj
    rw [List.getElem_cons_succ, ← this]
    congr 1
    show (k + 1) * 3 + j - 3 = k * 3 + j
    omega
theorem wpList_pushFields {ops : Array Oper} {rest : List Oper} {o : Oper} {a : Act} {Q : Exit → Act → World → Prop} (hgd : o.guard = none) (s x : Operand)
    (ho : o.op = .call { callee := .builtin .append, args := #[s, x], argTypes := #[54, 54] })
    (B : Nat) (w : World) (v : Value) (hs : a.eval s = v) (hown : OwnG fieldS 58 B Nowhere w v []) (m : List FieldD) (ao : Option Addr) (c : Nat) (hx : a.eval x = .slice ao m.length c) (hN : Rows fieldS Any w ao m)
    (h63 : m.length ≤ 1000) (hbase : B ≤ w.heap.size)
    (h : ∀ v' w', OwnG fieldS 58 B Nowhere w' v' m → w.grownBy w' v.ownBlock → (v'.ownBlock = v.ownBlock ∨ v'.ownBlock = some w.heap.size) → wpList Try.prog ops Q rest (a.put o.dst v') w') : wpList Try.prog ops Q (o :: rest) a w := by
  obtain ⟨i0, hi, hz0, hz1, hz2⟩ := info_parts infoFieldR
  obtain ⟨xs, r1, r2⟩ := hown.row
  have hxs : xs = [] := List.eq_nil_of_length_eq_zero (by have := r1.1; simpa using this)
  subst hxs
  cases ao with
  | some ad =>
    refine wpList_append_own_at _ hgd s x 54 ho B 58 i0 (.agg #[.string ByteArray.empty, .int .i64 0, .int .i64 0]) 3 32 Try.underlying54 hi hz0 hz1 hz2 rfl (by decide) v 0 [] hs r1 ad m.length c (m.flatMap fieldCells) hx (flatF_len m) ?_ ?_ (by unfold maxLen; omega) (by omega) hbase (fun v' w' k1 k2 _ k4 => h v' w' (OwnG.of_row (xs := m.flatMap fieldCells) (by have k5 := k1; simp only [Nat.zero_add, List.nil_append] at k5; exact k5) (fun i hi => ⟨fieldCells m[i], rfl, fun j hj => flatF_at m i hi j hj⟩)) k2 k4)
    · intro j u hu
      by_cases hj : j < m.length * 3
      · have hk : j / 3 < m.length := by omega
        obtain ⟨b', o', cs, e, _, _, hc, hat⟩ := hN (j / 3) hk
        cases e
        obtain rfl : cs = fieldCells m[j / 3] := hat
        have h2 := flatF_at m (j / 3) hk (j % 3) (Nat.mod_lt _ (by decide))
        rw [show j / 3 * 3 + j % 3 = j by omega, hu] at h2
        have h3 := hc (j % 3) (Nat.mod_lt _ (by decide))
        rw [show fieldS.n = 3 from rfl, ← h2] at h3
        rw [show (⟨b', o', none⟩ : Addr).add j = ⟨b', o' + j, none⟩ by unfold Addr.add; split <;> simp_all, ← h3]
        congr 2
        omega
      · rw [List.getElem?_eq_none (by rw [flatF_len]; omega)] at hu
        cases hu
    · intro y hy
      obtain ⟨f, _, hf⟩ := List.mem_flatMap.1 hy
      simp only [fieldCells, List.mem_cons, List.not_mem_nil, or_false] at hf
      rcases hf with rfl | rfl | rfl <;> rfl
  | none =>
    have hm : m = [] := by
      cases m with
      | nil => rfl
      | cons y m =>
        obtain ⟨b, o', cs, e, _⟩ := hN 0 (by simp)
        cases e
    subst hm
    obtain ⟨ba, cc, hv, hc, _, _⟩ := hown.rows (Q := Any) (fun _ _ _ => trivial) (fun _ _ => trivial)
    refine wpList_plain hgd fun _ hK => ?_
    have hr := run_append_nothing (P := Try.prog) w 54 54 o.type 58 i0 Try.underlying54 hi ba 0 cc hc (.slice none 0 c) (Src.ofNil _ Try.underlying54 c)
    unfold Oper.wp execOp
    simp only [ho, resolve, invoke, builtin, Sem.run_bind, Sem.run_pure, Result.andThen_ok, List.map_toArray, List.map_cons, List.map_nil, hs, hv, hx, List.length_nil, hr]
    exact hK _ _ (h _ w (by rw [show Value.slice ba 0 cc = v from hv.symm]; exact hown) ⟨rfl, rfl, rfl, Nat.le_refl _, fun _ _ _ => rfl⟩ (.inl (by rw [hv]; rfl)))
end Go.Proofs.Ytkbgkfmflieidaa
