
/-
  What is proved: append of a row of numbers to one that the call owns, also where there is nothing to append; a contract of the model's l1Own. No condition beside what each theorem states.
-/
import Derived.Test.YtheomjimknfapaaSHas
import Derived.Deep.Upon
namespace Go.Proofs.Ytheomjimknfapaa
open Go.ChangeShapes Go.WideShapes Go.ChangeAt Go.RowKit

theorem add_off (b o i : Nat) : (⟨b, o, none⟩ : Addr).add i = ⟨b, o + i, none⟩ := by unfold Addr.add; split <;> simp_all
theorem grownBy_same (w : World) (row : Option Nat) : w.grownBy w row := ⟨rfl, rfl, rfl, Nat.le_refl _, fun _ _ _ => rfl⟩

theorem wpList_pushAll {ops : Array Oper} {rest : List Oper} {o : Oper} {a : Act} {Q : Exit → Act → World → Prop} (hgd : o.guard = none) (s x : Operand)
    (ho : o.op = .call { callee := .builtin .append, args := #[s, x], argTypes := #[38, 38] })
    (B : Nat) (w : World) (v : Value) (l : List Int) (hs : a.eval s = v) (hown : OwnInts w B v l) (m : List Int) (ao : Option Addr) (c : Nat) (hx : a.eval x = .slice ao m.length c) (hN : Nums w ao m)
    (h63 : l.length + m.length ≤ 1048577 + 1048576) (hbase : B ≤ w.heap.size)
    (h : ∀ v' w', OwnInts w' B v' (l ++ m) → w.grownBy w' v.ownBlock → (∀ k, v.ownBlock = some k → B ≤ k ∧ k < w.heap.size) → wpList Try.prog ops Q rest (a.put o.dst v') w') : wpList Try.prog ops Q (o :: rest) a w := by
  obtain ⟨i0, hi, hz0, hz1, hz2⟩ := info_parts infoInt
  have hlt := World.ownsRow.lt hown
  cases ao with
  | some ad =>
    refine wpList_append_own _ hgd s x 38 ho B 3 i0 (.int .i64 0) 1 8 Try.underlying38 hi hz0 hz1 hz2 rfl (by decide) v l.length (l.map (Value.int .i64)) hs hown ad m.length c (m.map (Value.int .i64)) hx (by simp) ?_
      (fun y hy => by obtain ⟨z, _, rfl⟩ := List.mem_map.1 hy; rfl) (by unfold maxLen; omega) (by omega) hbase (fun v' w' h1 h2 _ => h v' w' (by unfold OwnInts; simpa using h1) h2 hlt)
    intro j u hu
    rw [List.getElem?_map] at hu
    by_cases hj : j < m.length
    · obtain ⟨b, o', e, _, e2⟩ := hN j hj
      cases e
      rw [List.getElem?_eq_getElem hj] at hu
      cases hu
      rw [add_off]
      exact e2
    · rw [List.getElem?_eq_none (by omega)] at hu
      cases hu
  | none =>
    have hm : m = [] := by
      cases m with
      | nil => rfl
      | cons y m =>
        obtain ⟨b, o', e, _⟩ := hN 0 (by simp)
        cases e
    subst hm
    obtain ⟨ba, cc, hv, hc, _⟩ := hown.nums
    refine wpList_plain hgd fun _ hK => ?_
    have hr := run_append_nothing (P := Try.prog) w 38 38 o.type 3 i0 Try.underlying38 hi ba l.length cc hc (.slice none 0 c) (Src.ofNil _ Try.underlying38 c)
    unfold Oper.wp execOp
    simp only [ho, resolve, invoke, builtin, Sem.run_bind, Sem.run_pure, Result.andThen_ok, List.map_toArray, List.map_cons, List.map_nil, hs, hv, hx, List.length_nil, hr]
    exact hK _ _ (h _ w (by rw [List.append_nil, ← hv]; exact hown) (grownBy_same _ _) hlt)

theorem OwnInts.made (w : World) {B : Nat} (hB : B ≤ w.heap.size) : OwnInts (w.alloc (.cells #[] 3)) B (.slice (some ⟨w.heap.size, 0, none⟩) 0 0) [] := World.ownsRow_made (base := B) w #[] 0 hB (by decide) (by simp)

theorem sl1Own (a : Option Addr) (c : Nat) (l : List Int) (w : World) (hl : l.length ≤ 1048576) (hr : Nums w a l) :
    Calls Try.prog 132 #[.slice a l.length c] w fun e w' => ∃ v, e = .returned v ∧ OwnInts w' w.heap.size v l ∧ Below w.heap.size w w' := by
  have Hr := Lib.hid (hr.below ((Below.refl w.heap.size w).alloc (Nat.le_refl _) (.cells #[] 3)))
  clear hr
  go_enter Try.func132, Try.ntmps132
  go_wp2_with (at_builtin; refine wpList_pushAll rfl (.tmp 3) (.tmp 4) rfl w.heap.size _ _ [] rfl (OwnInts.made w (Nat.le_refl _)) l _ _ rfl Hr.out (by simp; omega) (by simp) ?_)
  intro v1 w1 hown1 hg1 hlt1
  have Ho1 := Lib.hid hown1
  have Hb1 := Lib.hid (((Below.refl w.heap.size w).alloc (Nat.le_refl _) _).grown hg1 (by simp) (fun k hk => (hlt1 k hk).1))
  clear hown1 hg1 hlt1
  go_wp2_with fail
  go_ret
  exact ⟨_, rfl, Ho1.out, Hb1.out⟩
end Go.Proofs.Ytheomjimknfapaa
