
/-
  What is proved: rows of numbers, read; a contract of the model's l1Has; append of a row of numbers to one that the call owns, also where there is nothing to append; a contract of the model's l1Own; a contract of slices.Clone for numbers. No condition beside what each theorem states.
-/
import Derived.Test.YtbpbebhnledgnaaGreatIParts
import Derived.Deep.Upon
import Derived.Lib.LazyBuf
namespace Go.Proofs.YtbpbebhnledgnaaGreat
open Go.ChangeShapes Go.WideShapes Go.ChangeAt Go.RowKit

/-- The numbers of a slice lie at an address. -/
def Nums (w : World) (a : Option Addr) (l : List Int) : Prop := ∀ i (h : i < l.length), ∃ b o, a = some ⟨b, o, none⟩ ∧ b < w.heap.size ∧ w.cell? ⟨b, o + i, none⟩ = some (.int .i64 l[i])
theorem Nums.below {w w' : World} {a : Option Addr} {l : List Int} (h : Nums w a l) (hb : Below w.heap.size w w') : Nums w' a l := fun i hi => by
  obtain ⟨b, o, e, h1, h2⟩ := h i hi
  exact ⟨b, o, e, Nat.lt_of_lt_of_le h1 hb.size, (hb.cell h1).trans h2⟩
theorem OwnInts.nums {w : World} {B : Nat} {v : Value} {l : List Int} (h : OwnInts w B v l) : ∃ a c, v = .slice a l.length c ∧ l.length ≤ c ∧ Nums w a l := by
  rcases h.2 with ⟨rfl, h0⟩ | ⟨g, cap, cur, rfl, hb, hg, hc, hm, hs, ht⟩
  · have : l = [] := List.eq_nil_of_length_eq_zero h0
    subst this
    exact ⟨none, 0, rfl, Nat.le_refl _, fun i hi => absurd hi (by simp)⟩
  · refine ⟨some ⟨g, 0, none⟩, cap, rfl, hc, fun i hi => ⟨g, 0, rfl, (Array.getElem?_eq_some_iff.1 hg).1, ?_⟩⟩
    have := World.ownsRow.cells h (g := g) rfl i (.int .i64 l[i]) (by simp [hi])
    have hadd : (⟨g, 0, none⟩ : Addr).add i = ⟨g, 0 + i, none⟩ := by unfold Addr.add; split <;> simp_all
    rw [← hadd]
    exact this

theorem has_yes {l : List Int} {k : Nat} (h : k < l.length) : decide (l[k] ∈ l) = true := by simp
theorem has_no {l : List Int} {n : Int} (h : ∀ j (hj : j < l.length), l[j] ≠ n) : decide (n ∈ l) = false := by
  refine decide_eq_false (fun hm => ?_)
  obtain ⟨j, hj, e⟩ := List.getElem_of_mem hm
  exact h j hj e

set_option maxHeartbeats 2000000 in
theorem sl1Has (a : Option Addr) (c : Nat) (l : List Int) (n : Int) (w : World) (hl : l.length ≤ 1048576) (hr : Nums w a l) :
    Calls Tryz.prog 125 #[.slice a l.length c, .int .i64 n] w fun e w' => e = .returned (.bool (decide (n ∈ l))) ∧ w = w' := by
  have Hr := Lib.hid hr
  clear hr
  generalize hd : decide (n ∈ l) = d
  have Hd := Lib.hid hd
  clear hd
  go_enter Tryz.func125, Tryz.ntmps125
  go_wp2_with fail
  go_loop [9] (fun i => ∃ k : Nat, i = .int .i64 k ∧ k ≤ l.length ∧ ∀ j (hj : j < l.length), j < k → l[j] ≠ n) (fun i => l.length - (intOf i).toNat)
  case atStart => exact ⟨0, rfl, by omega, fun j _ hj => absurd hj (by omega)⟩
  case round =>
    obtain ⟨k, rfl, hk, hno⟩ := hrel
    have Hno := Lib.hid hno
    clear hno
    by_cases hlt : k < l.length
    · obtain ⟨b, o, rfl, _, e0⟩ := Hr.out k hlt
      by_cases he : l[k] = n
      · have Hy := Lib.hid (has_yes hlt)
        rw [he] at e0 Hy
        clear he
        go_wp2_with fail
        go_ret
        exact ⟨by rw [← Hd.out, Hy.out]; rfl, rfl⟩
      · have Hno' := Lib.hid (show ∀ j (hj : j < l.length), j < k + 1 → l[j] ≠ n from fun j hj hjk => by
          by_cases e : j = k
          · subst e; exact he
          · exact Hno.out j hj (by omega))
        have h2 : (l[k] == n) = false := beq_eq_false_iff_ne.2 he
        clear he
        generalize l[k] = z at *
        go_wp2_with fail
        go_round
        case rel => exact ⟨k + 1, by go_num, by omega, Hno'.out⟩
        case measure => simp [intOf]; omega
    · have Hn := Lib.hid (has_no (n := n) (fun j hj => Hno.out j hj (by omega)))
      go_wp2_with fail
      go_ret
      exact ⟨by rw [← Hd.out, Hn.out]; rfl, rfl⟩
end Go.Proofs.YtbpbebhnledgnaaGreat

namespace Go.Proofs.YtbpbebhnledgnaaGreat
open Go.ChangeShapes Go.WideShapes Go.ChangeAt Go.RowKit

theorem add_off (b o i : Nat) : (⟨b, o, none⟩ : Addr).add i = ⟨b, o + i, none⟩ := by unfold Addr.add; split <;> simp_all
theorem grownBy_same (w : World) (row : Option Nat) : w.grownBy w row := ⟨rfl, rfl, rfl, Nat.le_refl _, fun _ _ _ => rfl⟩

theorem wpList_pushAll {ops : Array Oper} {rest : List Oper} {o : Oper} {a : Act} {Q : Exit → Act → World → Prop} (hgd : o.guard = none) (s x : Operand)
    (ho : o.op = .call { callee := .builtin .append, args := #[s, x], argTypes := #[130, 130] })
    (B : Nat) (w : World) (v : Value) (l : List Int) (hs : a.eval s = v) (hown : OwnInts w B v l) (m : List Int) (ao : Option Addr) (c : Nat) (hx : a.eval x = .slice ao m.length c) (hN : Nums w ao m)
    (h63 : l.length + m.length ≤ 1048577 + 1048576) (hbase : B ≤ w.heap.size)
    (h : ∀ v' w', OwnInts w' B v' (l ++ m) → w.grownBy w' v.ownBlock → (∀ k, v.ownBlock = some k → B ≤ k ∧ k < w.heap.size) → wpList Tryz.prog ops Q rest (a.put o.dst v') w') : wpList Tryz.prog ops Q (o :: rest) a w := by
  obtain ⟨i0, hi, hz0, hz1, hz2⟩ := info_parts infoInt
  have hlt := World.ownsRow.lt hown
  cases ao with
  | some ad =>
    refine wpList_append_own _ hgd s x 130 ho B 3 i0 (.int .i64 0) 1 8 Tryz.underlying130 hi hz0 hz1 hz2 rfl (by decide) v l.length (l.map (Value.int .i64)) hs hown ad m.length c (m.map (Value.int .i64)) hx (by simp) ?_
      (fun y hy => by obtain ⟨z, _, rfl⟩ := List.mem_map.1 hy; rfl) (by unfold maxLen; omega) (by omega) hbase (fun v' w' h1 h2 _ => h v' w' (by unfold OwnInts; simpa using h1) h2 hlt)
    intro j u hu
    rw [List.getElem?_map] at hu
    by_cases hj : j < m.length
    · obtain ⟨b, o', e, _, e2⟩ := hN j hj
      cases e
      rw [List.getElem?_eq_getElem hj] at hu
      cases hu
      rw [add_off]
      exact e2
    · rw [List.getElem?_eq_none (by omega)] at hu
      cases hu
  | none =>
    have hm : m = [] := by
      cases m with
      | nil => rfl
      | cons y m =>
        obtain ⟨b, o', e, _⟩ := hN 0 (by simp)
        cases e
    subst hm
    obtain ⟨ba, cc, hv, hc, _⟩ := hown.nums
    refine wpList_plain hgd fun _ hK => ?_
    have hr := run_append_nothing (P := Tryz.prog) w 130 130 o.type 3 i0 Tryz.underlying130 hi ba l.length cc hc (.slice none 0 c) (Src.ofNil _ Tryz.underlying130 c)
    unfold Oper.wp execOp
    simp only [ho, resolve, invoke, builtin, Sem.run_bind, Sem.run_pure, Result.andThen_ok, List.map_toArray, List.map_cons, List.map_nil, hs, hv, hx, List.length_nil, hr]
    exact hK _ _ (h _ w (by rw [List.append_nil, ← hv]; exact hown) (grownBy_same _ _) hlt)

theorem OwnInts.made (w : World) {B : Nat} (hB : B ≤ w.heap.size) : OwnInts (w.alloc (.cells #[] 3)) B (.slice (some ⟨w.heap.size, 0, none⟩) 0 0) [] := World.ownsRow_made (base := B) w #[] 0 hB (by decide) (by simp)

theorem sl1Own (a : Option Addr) (c : Nat) (l : List Int) (w : World) (hl : l.length ≤ 1048576) (hr : Nums w a l) :
    Calls Tryz.prog 145 #[.slice a l.length c] w fun e w' => ∃ v, e = .returned v ∧ OwnInts w' w.heap.size v l ∧ Below w.heap.size w w' := by
  have Hr := Lib.hid (hr.below ((Below.refl w.heap.size w).alloc (Nat.le_refl _) (.cells #[] 3)))
  clear hr
  go_enter Tryz.func145, Tryz.ntmps145
  go_wp2_with (at_builtin; refine wpList_pushAll rfl (.tmp 3) (.tmp 4) rfl w.heap.size _ _ [] rfl (OwnInts.made w (Nat.le_refl _)) l _ _ rfl Hr.out (by simp; omega) (by simp) ?_)
  intro v1 w1 hown1 hg1 hlt1
  have Ho1 := Lib.hid hown1
  have Hb1 := Lib.hid (((Below.refl w.heap.size w).alloc (Nat.le_refl _) _).grown hg1 (by simp) (fun k hk => (hlt1 k hk).1))
  clear hown1 hg1 hlt1
  go_wp2_with fail
  go_ret
  exact ⟨_, rfl, Ho1.out, Hb1.out⟩
end Go.Proofs.YtbpbebhnledgnaaGreat

namespace Go.Proofs.YtbpbebhnledgnaaGreat
open Go.ChangeShapes Go.WideShapes Go.ChangeAt Go.RowKit

theorem eqlSlNil (w : World) (a : Option Addr) (n c : Nat) : (binOp .eql 130 (.slice a n c) (.slice none 0 0)).run Tryz.prog w = .ok (.bool a.isNone) w := run_eql_slice_nil w 130 3 a n c Tryz.underlying130

set_option maxRecDepth 100000 in
set_option maxHeartbeats 2000000 in
theorem iClone (a : Option Addr) (c : Nat) (l : List Int) (w : World) (hl : l.length ≤ 1048576) (hr : Nums w a l) :
    Calls Tryz.prog 149 #[.slice a l.length c] w fun e w' => ∃ v, e = .returned v ∧ OwnInts w' w.heap.size v l ∧ Below w.heap.size w w' := by
  have Hr := Lib.hid (hr.below ((Below.refl w.heap.size w).alloc (Nat.le_refl _) (.cells #[] 3)))
  cases a with
  | none =>
    have hm : l = [] := by
      cases l with
      | nil => rfl
      | cons y m =>
        obtain ⟨b, o', e, _⟩ := hr 0 (by simp)
        cases e
    subst hm
    clear hr
    go_enter Tryz.func149, Tryz.ntmps149
    go_wp2_with fail
    rw [eqlSlNil]
    simp only [Result.andThen]
    rw [Oper.upon_value]
    go_wp2_with fail
    go_ret
    exact ⟨_, rfl, OwnInts.nil, Below.refl _ _⟩
  | some ad =>
    clear hr
    go_enter Tryz.func149, Tryz.ntmps149
    go_wp2_with fail
    rw [eqlSlNil]
    simp only [Result.andThen]
    rw [Oper.upon_value]
    go_wp2_with (at_builtin; refine wpList_pushAll rfl (.tmp 5) (.tmp 6) rfl w.heap.size _ _ [] rfl (OwnInts.made w (Nat.le_refl _)) l _ _ rfl Hr.out (by simp; omega) (by simp) ?_)
    intro v1 w1 hown1 hg1 hlt1
    have Ho1 := Lib.hid hown1
    have Hb1 := Lib.hid (((Below.refl w.heap.size w).alloc (Nat.le_refl _) _).grown hg1 (by simp) (fun k hk => (hlt1 k hk).1))
    clear hown1 hg1 hlt1
    go_wp2_with fail
    go_ret
    exact ⟨_, rfl, Ho1.out, Hb1.out⟩
end Go.Proofs.YtbpbebhnledgnaaGreat
