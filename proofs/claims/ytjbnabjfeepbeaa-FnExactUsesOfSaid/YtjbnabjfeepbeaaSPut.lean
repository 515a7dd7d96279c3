
/-
  What is proved: a contract of the model's l1Put, where the number is not yet there. No condition beside what each theorem states.
-/
import Derived.Test.YtjbnabjfeepbeaaPushAll
namespace Go.Proofs.Ytjbnabjfeepbeaa
open Go.ChangeShapes Go.WideShapes Go.ChangeAt Go.RowKit

theorem Nums.head {w : World} {a : Option Addr} {l : List Int} (h : Nums w a l) (k : Nat) : Nums w a (l.take k) := fun i hi => by
  have : i < l.length := by simp at hi; omega
  obtain ⟨b, o, e, h1, h2⟩ := h i this
  exact ⟨b, o, e, h1, by rw [h2, List.getElem_take]⟩
theorem Nums.tail {w : World} {b o : Nat} {l : List Int} (h : Nums w (some ⟨b, o, none⟩) l) (k : Nat) : Nums w (some ⟨b, o + k, none⟩) (l.drop k) := fun i hi => by
  have : k + i < l.length := by simp at hi; omega
  obtain ⟨b', o', e, h1, h2⟩ := h (k + i) this
  cases e
  exact ⟨b, o + k, rfl, h1, by rw [List.getElem_drop, ← h2, Nat.add_assoc]⟩
theorem put_mem {l : List Int} {n : Int} (k : Nat) (y : Int) : y ∈ l.take k ++ [n] ++ l.drop k ↔ y = n ∨ y ∈ l := by
  have h : y ∈ l ↔ y ∈ l.take k ∨ y ∈ l.drop k := by rw [← List.mem_append, List.take_append_drop]
  rw [h]
  simp only [List.mem_append, List.mem_singleton]
  constructor
  · rintro ((h | h) | h)
    · exact .inr (.inl h)
    · exact .inl h
    · exact .inr (.inr h)
  · rintro (h | h | h)
    · exact .inl (.inr h)
    · exact .inl (.inl h)
    · exact .inr h

/-- Rising. -/
def Rises (l : List Int) : Prop := l.Pairwise (· < ·)
theorem put_rises {l : List Int} {n : Int} {k : Nat} (h : Rises l) (h1 : ∀ j (hj : j < l.length), j < k → l[j] < n) (h2 : ∀ (hk : k < l.length), ¬ l[k] < n) (hno : n ∉ l) : Rises (l.take k ++ [n] ++ l.drop k) := by
  unfold Rises at *
  rw [List.pairwise_iff_getElem] at h
  have ht : ∀ y ∈ l.take k, ∃ j, ∃ hj : j < l.length, j < k ∧ l[j] = y := fun y hy => by
    obtain ⟨j, hj, e⟩ := List.getElem_of_mem hy
    rw [List.getElem_take] at e
    rw [List.length_take] at hj
    exact ⟨j, by omega, by omega, e⟩
  have hd : ∀ y ∈ l.drop k, ∃ j, ∃ hj : j < l.length, k ≤ j ∧ l[j] = y := fun y hy => by
    obtain ⟨j, hj, e⟩ := List.getElem_of_mem hy
    rw [List.getElem_drop] at e
    rw [List.length_drop] at hj
    exact ⟨k + j, by omega, by omega, e⟩
  have hgt : ∀ y ∈ l.drop k, n < y := fun y hy => by
    obtain ⟨j, hj, hkj, rfl⟩ := hd y hy
    have hk : k < l.length := by omega
    have h3 := h2 hk
    have h4 : l[k] ≠ n := fun e => hno (e ▸ List.getElem_mem hk)
    by_cases e : j = k
    · subst e; omega
    · have := h k j hk hj (by omega); omega
  have hlt : ∀ y ∈ l.take k, y < n := fun y hy => by
    obtain ⟨j, hj, hjk, rfl⟩ := ht y hy
    exact h1 j hj hjk
  have hp : (l.take k).Pairwise (· < ·) := by
    have := List.pairwise_iff_getElem.2 h
    rw [← List.take_append_drop k l, List.pairwise_append] at this
    exact this.1
  have hq : (l.drop k).Pairwise (· < ·) := by
    have := List.pairwise_iff_getElem.2 h
    rw [← List.take_append_drop k l, List.pairwise_append] at this
    exact this.2.1
  rw [List.pairwise_append, List.pairwise_append]
  refine ⟨⟨hp, List.pairwise_singleton _ _, fun a ha b hb => ?_⟩, hq, fun a ha b hb => ?_⟩
  · rw [List.mem_singleton.1 hb]; exact hlt a ha
  · rcases List.mem_append.1 ha with h | h
    · have := hlt a h; have := hgt b hb; omega
    · rw [List.mem_singleton.1 h]; exact hgt b hb

set_option maxRecDepth 100000 in
set_option maxHeartbeats 4000000 in
theorem sl1Put_nil (n : Int) (w : World) :
    Calls Try.prog 139 #[.slice none 0 0, .int .i64 n] w fun e w' => ∃ v, e = .returned v ∧ OwnInts w' w.heap.size v [n] ∧ Below w.heap.size w w' := by
  have hn0 : ∀ w, Nums w none [] := fun w i hi => absurd hi (by simp)
  go_enter Try.func139, Try.ntmps139
  go_wp2_with fail
  go_loop [5] (fun i => i = .int .i64 0) (fun i => 0)
  case atStart => exact rfl
  case round =>
    obtain rfl := hrel
    go_wp2_with (at_builtin; refine wpList_pushAll rfl (.tmp 34) (.tmp 37) rfl w.heap.size _ _ [] rfl (OwnInts.made w (Nat.le_refl _)) [] none 0 rfl (hn0 _) (by simp) (by simp) ?_)
    intro v1 w1 hown1 hg1 hlt1
    have Ho1 := Lib.hid hown1
    have Hb1 := Lib.hid (((Below.refl w.heap.size w).alloc (Nat.le_refl _) _).grown hg1 (by simp) (fun k hk => (hlt1 k hk).1))
    clear hown1 hg1 hlt1
    have hs1 := Hb1.out.size
    go_wp2_with (at_builtin; refine wpList_pushInt rfl (.tmp 39) (.tmp 41) rfl w.heap.size w1 v1 [] rfl Ho1.out n _ rfl rfl (by simp) hs1 ?_)
    intro v2 w2 hown2 hg2 hlt2
    have Ho2 := Lib.hid hown2
    have Hb2 := Lib.hid (Hb1.out.grown hg2 hs1 (fun k hk => (hlt2 k hk).1))
    clear hown2 hg2 hlt2
    have hs2 := Hb2.out.size
    go_wp2_with (at_builtin; refine wpList_pushAll rfl (.tmp 43) (.tmp 46) rfl w.heap.size w2 v2 [n] rfl Ho2.out [] none 0 rfl (hn0 _) (by simp) hs2 ?_)
    intro v3 w3 hown3 hg3 hlt3
    have Ho3 := Lib.hid hown3
    have Hb3 := Lib.hid (Hb2.out.grown hg3 hs2 (fun k hk => (hlt3 k hk).1))
    clear hown3 hg3 hlt3
    go_wp2_with fail
    go_ret
    exact ⟨_, rfl, Ho3.out, Hb3.out⟩

theorem wpList_pushAll' {ops : Array Oper} {rest : List Oper} {o : Oper} {a : Act} {Q : Exit → Act → World → Prop} (hgd : o.guard = none) (s x : Operand)
    (ho : o.op = .call { callee := .builtin .append, args := #[s, x], argTypes := #[38, 38] })
    (B : Nat) (w : World) (v : Value) (l : List Int) (hs : a.eval s = v) (hown : OwnInts w B v l) (m : List Int) (ao : Option Addr) (k c : Nat) (hx : a.eval x = .slice ao k c) (hk : k = m.length) (hN : Nums w ao m)
    (h63 : l.length + m.length ≤ 1048577 + 1048576) (hbase : B ≤ w.heap.size)
    (h : ∀ v' w', OwnInts w' B v' (l ++ m) → w.grownBy w' v.ownBlock → (∀ k, v.ownBlock = some k → B ≤ k ∧ k < w.heap.size) → wpList Try.prog ops Q rest (a.put o.dst v') w') : wpList Try.prog ops Q (o :: rest) a w := by
  subst hk
  exact wpList_pushAll hgd s x ho B w v l hs hown m ao c hx hN h63 hbase h

set_option maxRecDepth 100000 in
set_option maxHeartbeats 4000000 in
theorem sl1Put_some (g cap : Nat) (l : List Int) (n : Int) (w : World) (hl : l.length ≤ 1048576) (hc : l.length ≤ cap) (hr : Nums w (some ⟨g, 0, none⟩) l) (hno : n ∉ l) :
    Calls Try.prog 139 #[.slice (some ⟨g, 0, none⟩) l.length cap, .int .i64 n] w fun e w' => ∃ v m, e = .returned v ∧ OwnInts w' w.heap.size v m ∧ (∀ y, y ∈ m ↔ y = n ∨ y ∈ l) ∧ (Rises l → Rises m) ∧ m.length = l.length + 1 ∧ Below w.heap.size w w' := by
  have Hr := Lib.hid hr
  have Hr1 := Lib.hid (hr.below ((Below.refl w.heap.size w).alloc (Nat.le_refl _) (.cells #[] 3)))
  have Hno := Lib.hid hno
  clear hr hno
  go_enter Try.func139, Try.ntmps139
  go_wp2_with fail
  go_loop [5] (fun i => ∃ k : Nat, i = .int .i64 k ∧ k ≤ l.length ∧ ∀ j (hj : j < l.length), j < k → l[j] < n) (fun i => l.length - (intOf i).toNat)
  case atStart => exact ⟨0, rfl, by omega, fun j _ h => absurd h (by omega)⟩
  case round =>
    obtain ⟨k, rfl, hk, hup⟩ := hrel
    have Hup := Lib.hid hup
    clear hup
    have hkc : (k : Int) ≤ (cap : Int) := by omega
    have hkl : (k : Int) ≤ (l.length : Int) := by omega
    by_cases hlt : k < l.length
    · obtain ⟨b, o, hbo, _, e0⟩ := Hr.out k hlt
      cases hbo
      have hne : l[k] ≠ n := fun h => Hno.out (h ▸ List.getElem_mem hlt)
      have h2 : (l[k] == n) = false := beq_eq_false_iff_ne.2 hne
      rw [Nat.zero_add] at e0
      have hltI : (k : Int) < (l.length : Int) := by omega
      clear hne
      have Hnx := Lib.hid (show l[k] < n → ∀ j (hj : j < l.length), j < k + 1 → l[j] < n from fun h j hj hjk => by
        by_cases e : j = k
        · subst e; exact h
        · exact Hup.out j hj (by omega))
      have Hri := Lib.hid (show ¬ l[k] < n → Rises l → Rises (l.take k ++ [n] ++ l.drop k) from fun h hr => put_rises hr Hup.out (fun _ => h) Hno.out)
      generalize l[k] = z at *
      by_cases hz : z < n
      · have Hnx' := Lib.hid (Hnx.out hz)
        go_wp2_with fail
        go_round
        case rel => exact ⟨k + 1, by go_num, by omega, Hnx'.out⟩
        case measure => simp [intOf]; omega
      · have Hrn := Lib.hid (Hri.out hz)
        go_wp2_with (at_builtin; refine wpList_pushAll' rfl (.tmp 34) (.tmp 37) rfl w.heap.size _ _ [] rfl (OwnInts.made w (Nat.le_refl _)) (l.take k) _ _ _ rfl (by rw [List.length_take]; omega) (Hr1.out.head k) (by simp; omega) (by simp) ?_)
        intro v1 w1 hown1 hg1 hlt1
        have Ho1 := Lib.hid hown1
        have Hb1 := Lib.hid (((Below.refl w.heap.size w).alloc (Nat.le_refl _) _).grown hg1 (by simp) (fun k hk => (hlt1 k hk).1))
        clear hown1 hg1 hlt1
        have hs1 := Hb1.out.size
        go_wp2_with (at_builtin; refine wpList_pushInt rfl (.tmp 39) (.tmp 41) rfl w.heap.size w1 v1 _ rfl Ho1.out n _ rfl rfl (by simp; omega) hs1 ?_)
        intro v2 w2 hown2 hg2 hlt2
        have Ho2 := Lib.hid hown2
        have Hb2 := Lib.hid (Hb1.out.grown hg2 hs1 (fun k hk => (hlt2 k hk).1))
        clear hown2 hg2 hlt2
        have hs2 := Hb2.out.size
        have Hr2 := Lib.hid (show Nums w2 (some ⟨g, k, none⟩) (l.drop k) by have := (Hr.out.below Hb2.out).tail k; rwa [Nat.zero_add] at this)
        go_wp2_with (at_builtin; refine wpList_pushAll' rfl (.tmp 43) (.tmp 46) rfl w.heap.size w2 v2 _ rfl Ho2.out (l.drop k) _ _ _ rfl (by simp) Hr2.out (by simp; omega) hs2 ?_)
        intro v3 w3 hown3 hg3 hlt3
        have Ho3 := Lib.hid hown3
        have Hb3 := Lib.hid (Hb2.out.grown hg3 hs2 (fun k hk => (hlt3 k hk).1))
        clear hown3 hg3 hlt3
        go_wp2_with fail
        go_ret
        exact ⟨_, _, rfl, by simpa using Ho3.out, fun y => put_mem k y, Hrn.out, by simp; omega, Hb3.out⟩
    · have hge : ¬ (k : Int) < (l.length : Int) := by omega
      have Hrn := Lib.hid (show Rises l → Rises (l.take k ++ [n] ++ l.drop k) from fun hr => put_rises hr Hup.out (fun h => absurd h hlt) Hno.out)
      go_wp2_with (at_builtin; refine wpList_pushAll' rfl (.tmp 34) (.tmp 37) rfl w.heap.size _ _ [] rfl (OwnInts.made w (Nat.le_refl _)) (l.take k) _ _ _ rfl (by rw [List.length_take]; omega) (Hr1.out.head k) (by simp; omega) (by simp) ?_)
      intro v1 w1 hown1 hg1 hlt1
      have Ho1 := Lib.hid hown1
      have Hb1 := Lib.hid (((Below.refl w.heap.size w).alloc (Nat.le_refl _) _).grown hg1 (by simp) (fun k hk => (hlt1 k hk).1))
      clear hown1 hg1 hlt1
      have hs1 := Hb1.out.size
      go_wp2_with (at_builtin; refine wpList_pushInt rfl (.tmp 39) (.tmp 41) rfl w.heap.size w1 v1 _ rfl Ho1.out n _ rfl rfl (by simp; omega) hs1 ?_)
      intro v2 w2 hown2 hg2 hlt2
      have Ho2 := Lib.hid hown2
      have Hb2 := Lib.hid (Hb1.out.grown hg2 hs1 (fun k hk => (hlt2 k hk).1))
      clear hown2 hg2 hlt2
      have hs2 := Hb2.out.size
      have Hr2 := Lib.hid (show ∀ a, Nums w2 a (l.drop k) from fun a i hi => absurd hi (by simp; omega))
      go_wp2_with (at_builtin; refine wpList_pushAll' rfl (.tmp 43) (.tmp 46) rfl w.heap.size w2 v2 _ rfl Ho2.out (l.drop k) _ _ _ rfl (by simp) (Hr2.out _) (by simp; omega) hs2 ?_)
      all_goals
        intro v3 w3 hown3 hg3 hlt3
        have Ho3 := Lib.hid hown3
        have Hb3 := Lib.hid (Hb2.out.grown hg3 hs2 (fun k hk => (hlt3 k hk).1))
        clear hown3 hg3 hlt3
        go_wp2_with fail
        go_ret
        exact ⟨_, _, rfl, by simpa using Ho3.out, fun y => put_mem k y, Hrn.out, by simp; omega, Hb3.out⟩
end Go.Proofs.Ytjbnabjfeepbeaa
