
/-
  What is proved: a contract of the model's l1Put, where the number is not yet there; contracts of the model's l3From without pointers and with them, for types that are shaped. No condition beside what each theorem states.
-/
import Derived.Test.YtllddjmcemcdhaaGreatPushAll
import Derived.Test.YtllddjmcemcdhaaGreatISpread
import Derived.Test.YtllddjmcemcdhaaGreatIGood
namespace Go.Proofs.YtllddjmcemcdhaaGreat
open Go.ChangeShapes Go.WideShapes Go.ChangeAt Go.RowKit

theorem Nums.head {w : World} {a : Option Addr} {l : List Int} (h : Nums w a l) (k : Nat) : Nums w a (l.take k) := fun i hi => by
  have : i < l.length := by simp at hi; omega
  obtain ⟨b, o, e, h1, h2⟩ := h i this
  exact ⟨b, o, e, h1, by rw [h2, List.getElem_take]⟩
theorem Nums.tail {w : World} {b o : Nat} {l : List Int} (h : Nums w (some ⟨b, o, none⟩) l) (k : Nat) : Nums w (some ⟨b, o + k, none⟩) (l.drop k) := fun i hi => by
  have : k + i < l.length := by simp at hi; omega
  obtain ⟨b', o', e, h1, h2⟩ := h (k + i) this
  cases e
  exact ⟨b, o + k, rfl, h1, by rw [List.getElem_drop, ← h2, Nat.add_assoc]⟩
theorem put_mem {l : List Int} {n : Int} (k : Nat) (y : Int) : y ∈ l.take k ++ [n] ++ l.drop k ↔ y = n ∨ y ∈ l := by
  have h : y ∈ l ↔ y ∈ l.take k ∨ y ∈ l.drop k := by rw [← List.mem_append, List.take_append_drop]
  rw [h]
  simp only [List.mem_append, List.mem_singleton]
  constructor
  · rintro ((h | h) | h)
    · exact .inr (.inl h)
    · exact .inl h
    · exact .inr (.inr h)
  · rintro (h | h | h)
    · exact .inl (.inr h)
    · exact .inl (.inl h)
    · exact .inr h

/-- Rising. -/
def Rises (l : List Int) : Prop := l.Pairwise (· < ·)
theorem put_rises {l : List Int} {n : Int} {k : Nat} (h : Rises l) (h1 : ∀ j (hj : j < l.length), j < k → l[j] < n) (h2 : ∀ (hk : k < l.length), ¬ l[k] < n) (hno : n ∉ l) : Rises (l.take k ++ [n] ++ l.drop k) := by
  unfold Rises at *
  rw [List.pairwise_iff_getElem] at h
  have ht : ∀ y ∈ l.take k, ∃ j, ∃ hj : j < l.length, j < k ∧ l[j] = y := fun y hy => by
    obtain ⟨j, hj, e⟩ := List.getElem_of_mem hy
    rw [List.getElem_take] at e
    rw [List.length_take] at hj
    exact ⟨j, by omega, by omega, e⟩
  have hd : ∀ y ∈ l.drop k, ∃ j, ∃ hj : j < l.length, k ≤ j ∧ l[j] = y := fun y hy => by
    obtain ⟨j, hj, e⟩ := List.getElem_of_mem hy
    rw [List.getElem_drop] at e
    rw [List.length_drop] at hj
    exact ⟨k + j, by omega, by omega, e⟩
  have hgt : ∀ y ∈ l.drop k, n < y := fun y hy => by
    obtain ⟨j, hj, hkj, rfl⟩ := hd y hy
    have hk : k < l.length := by omega
    have h3 := h2 hk
    have h4 : l[k] ≠ n := fun e => hno (e ▸ List.getElem_mem hk)
    by_cases e : j = k
    · subst e; omega
    · have := h k j hk hj (by omega); omega
  have hlt : ∀ y ∈ l.take k, y < n := fun y hy => by
    obtain ⟨j, hj, hjk, rfl⟩ := ht y hy
    exact h1 j hj hjk
  have hp : (l.take k).Pairwise (· < ·) := by
    have := List.pairwise_iff_getElem.2 h
    rw [← List.take_append_drop k l, List.pairwise_append] at this
    exact this.1
  have hq : (l.drop k).Pairwise (· < ·) := by
    have := List.pairwise_iff_getElem.2 h
    rw [← List.take_append_drop k l, List.pairwise_append] at this
    exact this.2.1
  rw [List.pairwise_append, List.pairwise_append]
  refine ⟨⟨hp, List.pairwise_singleton _ _, fun a ha b hb => ?_⟩, hq, fun a ha b hb => ?_⟩
  · rw [List.mem_singleton.1 hb]; exact hlt a ha
  · rcases List.mem_append.1 ha with h | h
    · have := hlt a h; have := hgt b hb; omega
    · rw [List.mem_singleton.1 h]; exact hgt b hb

set_option maxRecDepth 100000 in
set_option maxHeartbeats 4000000 in
theorem sl1Put_nil (n : Int) (w : World) :
    Calls Tryz.prog 118 #[.slice none 0 0, .int .i64 n] w fun e w' => ∃ v, e = .returned v ∧ OwnInts w' w.heap.size v [n] ∧ Below w.heap.size w w' := by
  have hn0 : ∀ w, Nums w none [] := fun w i hi => absurd hi (by simp)
  go_enter Tryz.func118, Tryz.ntmps118
  go_wp2_with fail
  go_loop [5] (fun i => i = .int .i64 0) (fun i => 0)
  case atStart => exact rfl
  case round =>
    obtain rfl := hrel
    go_wp2_with (at_builtin; refine wpList_pushAll rfl (.tmp 34) (.tmp 37) rfl w.heap.size _ _ [] rfl (OwnInts.made w (Nat.le_refl _)) [] none 0 rfl (hn0 _) (by simp) (by simp) ?_)
    intro v1 w1 hown1 hg1 hlt1
    have Ho1 := Lib.hid hown1
    have Hb1 := Lib.hid (((Below.refl w.heap.size w).alloc (Nat.le_refl _) _).grown hg1 (by simp) (fun k hk => (hlt1 k hk).1))
    clear hown1 hg1 hlt1
    have hs1 := Hb1.out.size
    go_wp2_with (at_builtin; refine wpList_pushInt rfl (.tmp 39) (.tmp 41) rfl w.heap.size w1 v1 [] rfl Ho1.out n _ rfl rfl (by simp) hs1 ?_)
    intro v2 w2 hown2 hg2 hlt2
    have Ho2 := Lib.hid hown2
    have Hb2 := Lib.hid (Hb1.out.grown hg2 hs1 (fun k hk => (hlt2 k hk).1))
    clear hown2 hg2 hlt2
    have hs2 := Hb2.out.size
    go_wp2_with (at_builtin; refine wpList_pushAll rfl (.tmp 43) (.tmp 46) rfl w.heap.size w2 v2 [n] rfl Ho2.out [] none 0 rfl (hn0 _) (by simp) hs2 ?_)
    intro v3 w3 hown3 hg3 hlt3
    have Ho3 := Lib.hid hown3
    have Hb3 := Lib.hid (Hb2.out.grown hg3 hs2 (fun k hk => (hlt3 k hk).1))
    clear hown3 hg3 hlt3
    go_wp2_with fail
    go_ret
    exact ⟨_, rfl, Ho3.out, Hb3.out⟩

theorem wpList_pushAll' {ops : Array Oper} {rest : List Oper} {o : Oper} {a : Act} {Q : Exit → Act → World → Prop} (hgd : o.guard = none) (s x : Operand)
    (ho : o.op = .call { callee := .builtin .append, args := #[s, x], argTypes := #[48, 48] })
    (B : Nat) (w : World) (v : Value) (l : List Int) (hs : a.eval s = v) (hown : OwnInts w B v l) (m : List Int) (ao : Option Addr) (k c : Nat) (hx : a.eval x = .slice ao k c) (hk : k = m.length) (hN : Nums w ao m)
    (h63 : l.length + m.length ≤ 1048577 + 1048576) (hbase : B ≤ w.heap.size)
    (h : ∀ v' w', OwnInts w' B v' (l ++ m) → w.grownBy w' v.ownBlock → (∀ k, v.ownBlock = some k → B ≤ k ∧ k < w.heap.size) → wpList Tryz.prog ops Q rest (a.put o.dst v') w') : wpList Tryz.prog ops Q (o :: rest) a w := by
  subst hk
  exact wpList_pushAll hgd s x ho B w v l hs hown m ao c hx hN h63 hbase h

set_option maxRecDepth 100000 in
set_option maxHeartbeats 4000000 in
theorem sl1Put_some (g cap : Nat) (l : List Int) (n : Int) (w : World) (hl : l.length ≤ 1048576) (hc : l.length ≤ cap) (hr : Nums w (some ⟨g, 0, none⟩) l) (hno : n ∉ l) :
    Calls Tryz.prog 118 #[.slice (some ⟨g, 0, none⟩) l.length cap, .int .i64 n] w fun e w' => ∃ v m, e = .returned v ∧ OwnInts w' w.heap.size v m ∧ (∀ y, y ∈ m ↔ y = n ∨ y ∈ l) ∧ (Rises l → Rises m) ∧ m.length = l.length + 1 ∧ Below w.heap.size w w' := by
  have Hr := Lib.hid hr
  have Hr1 := Lib.hid (hr.below ((Below.refl w.heap.size w).alloc (Nat.le_refl _) (.cells #[] 3)))
  have Hno := Lib.hid hno
  clear hr hno
  go_enter Tryz.func118, Tryz.ntmps118
  go_wp2_with fail
  go_loop [5] (fun i => ∃ k : Nat, i = .int .i64 k ∧ k ≤ l.length ∧ ∀ j (hj : j < l.length), j < k → l[j] < n) (fun i => l.length - (intOf i).toNat)
  case atStart => exact ⟨0, rfl, by omega, fun j _ h => absurd h (by omega)⟩
  case round =>
    obtain ⟨k, rfl, hk, hup⟩ := hrel
    have Hup := Lib.hid hup
    clear hup
    have hkc : (k : Int) ≤ (cap : Int) := by omega
    have hkl : (k : Int) ≤ (l.length : Int) := by omega
    by_cases hlt : k < l.length
    · obtain ⟨b, o, hbo, _, e0⟩ := Hr.out k hlt
      cases hbo
      have hne : l[k] ≠ n := fun h => Hno.out (h ▸ List.getElem_mem hlt)
      have h2 : (l[k] == n) = false := beq_eq_false_iff_ne.2 hne
      rw [Nat.zero_add] at e0
      have hltI : (k : Int) < (l.length : Int) := by omega
      clear hne
      have Hnx := Lib.hid (show l[k] < n → ∀ j (hj : j < l.length), j < k + 1 → l[j] < n from fun h j hj hjk => by
        by_cases e : j = k
        · subst e; exact h
        · exact Hup.out j hj (by omega))
      have Hri := Lib.hid (show ¬ l[k] < n → Rises l → Rises (l.take k ++ [n] ++ l.drop k) from fun h hr => put_rises hr Hup.out (fun _ => h) Hno.out)
      generalize l[k] = z at *
      by_cases hz : z < n
      · have Hnx' := Lib.hid (Hnx.out hz)
        go_wp2_with fail
        go_round
        case rel => exact ⟨k + 1, by go_num, by omega, Hnx'.out⟩
        case measure => simp [intOf]; omega
      · have Hrn := Lib.hid (Hri.out hz)
        go_wp2_with (at_builtin; refine wpList_pushAll' rfl (.tmp 34) (.tmp 37) rfl w.heap.size _ _ [] rfl (OwnInts.made w (Nat.le_refl _)) (l.take k) _ _ _ rfl (by rw [List.length_take]; omega) (Hr1.out.head k) (by simp; omega) (by simp) ?_)
        intro v1 w1 hown1 hg1 hlt1
        have Ho1 := Lib.hid hown1
        have Hb1 := Lib.hid (((Below.refl w.heap.size w).alloc (Nat.le_refl _) _).grown hg1 (by simp) (fun k hk => (hlt1 k hk).1))
        clear hown1 hg1 hlt1
        have hs1 := Hb1.out.size
        go_wp2_with (at_builtin; refine wpList_pushInt rfl (.tmp 39) (.tmp 41) rfl w.heap.size w1 v1 _ rfl Ho1.out n _ rfl rfl (by simp; omega) hs1 ?_)
        intro v2 w2 hown2 hg2 hlt2
        have Ho2 := Lib.hid hown2
        have Hb2 := Lib.hid (Hb1.out.grown hg2 hs1 (fun k hk => (hlt2 k hk).1))
        clear hown2 hg2 hlt2
        have hs2 := Hb2.out.size
        have Hr2 := Lib.hid (show Nums w2 (some ⟨g, k, none⟩) (l.drop k) by have := (Hr.out.below Hb2.out).tail k; rwa [Nat.zero_add] at this)
        go_wp2_with (at_builtin; refine wpList_pushAll' rfl (.tmp 43) (.tmp 46) rfl w.heap.size w2 v2 _ rfl Ho2.out (l.drop k) _ _ _ rfl (by simp) Hr2.out (by simp; omega) hs2 ?_)
        intro v3 w3 hown3 hg3 hlt3
        have Ho3 := Lib.hid hown3
        have Hb3 := Lib.hid (Hb2.out.grown hg3 hs2 (fun k hk => (hlt3 k hk).1))
        clear hown3 hg3 hlt3
        go_wp2_with fail
        go_ret
        exact ⟨_, _, rfl, by simpa using Ho3.out, fun y => put_mem k y, Hrn.out, by simp; omega, Hb3.out⟩
    · have hge : ¬ (k : Int) < (l.length : Int) := by omega
      have Hrn := Lib.hid (show Rises l → Rises (l.take k ++ [n] ++ l.drop k) from fun hr => put_rises hr Hup.out (fun h => absurd h hlt) Hno.out)
      go_wp2_with (at_builtin; refine wpList_pushAll' rfl (.tmp 34) (.tmp 37) rfl w.heap.size _ _ [] rfl (OwnInts.made w (Nat.le_refl _)) (l.take k) _ _ _ rfl (by rw [List.length_take]; omega) (Hr1.out.head k) (by simp; omega) (by simp) ?_)
      intro v1 w1 hown1 hg1 hlt1
      have Ho1 := Lib.hid hown1
      have Hb1 := Lib.hid (((Below.refl w.heap.size w).alloc (Nat.le_refl _) _).grown hg1 (by simp) (fun k hk => (hlt1 k hk).1))
      clear hown1 hg1 hlt1
      have hs1 := Hb1.out.size
      go_wp2_with (at_builtin; refine wpList_pushInt rfl (.tmp 39) (.tmp 41) rfl w.heap.size w1 v1 _ rfl Ho1.out n _ rfl rfl (by simp; omega) hs1 ?_)
      intro v2 w2 hown2 hg2 hlt2
      have Ho2 := Lib.hid hown2
      have Hb2 := Lib.hid (Hb1.out.grown hg2 hs1 (fun k hk => (hlt2 k hk).1))
      clear hown2 hg2 hlt2
      have hs2 := Hb2.out.size
      have Hr2 := Lib.hid (show ∀ a, Nums w2 a (l.drop k) from fun a i hi => absurd hi (by simp; omega))
      go_wp2_with (at_builtin; refine wpList_pushAll' rfl (.tmp 43) (.tmp 46) rfl w.heap.size w2 v2 _ rfl Ho2.out (l.drop k) _ _ _ rfl (by simp) (Hr2.out _) (by simp; omega) hs2 ?_)
      all_goals
        intro v3 w3 hown3 hg3 hlt3
        have Ho3 := Lib.hid hown3
        have Hb3 := Lib.hid (Hb2.out.grown hg3 hs2 (fun k hk => (hlt3 k hk).1))
        clear hown3 hg3 hlt3
        go_wp2_with fail
        go_ret
        exact ⟨_, _, rfl, by simpa using Ho3.out, fun y => put_mem k y, Hrn.out, by simp; omega, Hb3.out⟩
end Go.Proofs.YtllddjmcemcdhaaGreat

namespace Go.Proofs.YtllddjmcemcdhaaGreat
open Go.ChangeShapes Go.WideShapes Go.ChangeAt Go.RowKit

theorem near.mParts {l : List TypeD} (h : near l) (n : Nat) (hn : n < l.length) : mPartsD l[n] = insideD l[n] := by
  rcases h.ok n hn with ⟨h3, hb⟩ | ⟨_, ho⟩
  · exact mParts_base h3 hb
  · exact mParts_typeOk ho
theorem near.ptr {l : List TypeD} (h : near l) (n : Nat) (hn : n < l.length) (h6 : l[n].fKind = 6) : insideD l[n] = [] ∧ partsD l[n] = [l[n].fBase] := by
  refine ⟨if_pos h6, ?_⟩
  rcases h.ok n hn with ⟨h3, hb⟩ | ⟨_, ho⟩
  · have := hb.1; omega
  · rcases ho.2 with ⟨k, _⟩ | ⟨k, _⟩ | ⟨_, _, b, f⟩
    · omega
    · omega
    · have := kindZ_range (l := l) (x := l[n].fBase) (by omega)
      unfold partsD
      rw [if_neg (by omega), List.eq_nil_of_length_eq_zero f]
      rfl
theorem noptr {t : TypeD} (h6 : t.fKind ≠ 6) : insideD t = partsD t := if_neg h6

theorem sl1Put (v : Value) (B : Nat) (l : List Int) (n : Int) (w : World) (hl : l.length ≤ 1048576) (ho : OwnInts w B v l) (hno : n ∉ l) :
    Calls Tryz.prog 118 #[v, .int .i64 n] w fun e w' => ∃ v m, e = .returned v ∧ OwnInts w' w.heap.size v m ∧ (∀ y, y ∈ m ↔ y = n ∨ y ∈ l) ∧ (Rises l → Rises m) ∧ m.length = l.length + 1 ∧ Below w.heap.size w w' := by
  rcases ho.2 with ⟨rfl, h0⟩ | ⟨g, cap, cur, rfl, hb, hg, hc, hm, hs, ht⟩
  · have : l = [] := List.eq_nil_of_length_eq_zero h0
    subst this
    refine (sl1Put_nil n w).mono ?_
    rintro e w' ⟨v, rfl, h1, h2⟩
    exact ⟨v, [n], rfl, h1, fun y => by simp, fun _ => List.pairwise_singleton _ _, rfl, h2⟩
  · obtain ⟨a, c, hv, _, hN⟩ := ho.nums
    injection hv with hv1 _ hv2
    subst hv1
    exact sl1Put_some g cap l n w hl hc hN hno

/-- The numbers of a set. -/
def laid (R : List Bool) (m : List Int) : Prop := (∀ y, y ∈ m ↔ Got R y) ∧ Rises m ∧ m.length + R.count false = R.length
theorem laid_start (k : Nat) : laid (List.replicate k false) [] := by
  refine ⟨fun y => ⟨fun h => absurd h (by simp), fun ⟨n, _, h⟩ => ?_⟩, List.Pairwise.nil, by simp⟩
  rw [List.getElem?_replicate] at h
  split at h <;> simp at h
theorem laid.put {R : List Bool} {m m' : List Int} {n : Nat} (h : laid R m) (hn : R[n]? = some false) (h1 : ∀ y, y ∈ m' ↔ y = (n : Int) ∨ y ∈ m) (h2 : Rises m → Rises m') (h3 : m'.length = m.length + 1) : laid (R.set n true) m' := by
  have hlt : n < R.length := (List.getElem?_eq_some_iff.1 hn).1
  refine ⟨fun y => ?_, h2 h.2.1, by have := count_set hn; have := h.2.2; rw [List.length_set]; omega⟩
  rw [h1 y, h.1 y]
  constructor
  · rintro (rfl | h)
    · exact Got.new hlt
    · exact h.set
  · rintro ⟨k, rfl, hk⟩
    rw [List.getElem?_set] at hk
    split at hk
    · rename_i e; exact .inl (by rw [e])
    · exact .inr ⟨k, rfl, hk⟩

def apart (vo vq : Value) : Prop := ∀ k, vo.ownBlock = some k → vq.ownBlock ≠ some k

set_option maxRecDepth 100000 in
set_option maxHeartbeats 8000000 in
theorem sl3FromIn (a : Option Addr) (c : Nat) (l : List TypeD) (sa : Option Addr) (sc : Nat) (st : List Int) (w : World) (hr : Rows typeS Any w a l) (hs : Nums w sa st) (hst : st.length ≤ 24) (h0 : ∀ x ∈ st, 0 ≤ x ∧ x < (l.length : Int)) (hne : near l) :
    Calls Tryz.prog 93 #[.slice a l.length c, .slice sa st.length sc, .bool false] w fun e w' => ∃ v m, e = .returned v ∧ OwnInts w' w.heap.size v m ∧ (∀ y, y ∈ m ↔ ∃ n : Nat, y = (n : Int) ∧ Reach l insideD st n) ∧ Rises m ∧ m.length ≤ 24 ∧ Below w.heap.size w w' := by
  have hl := hne.most
  have Hne := Lib.hid hne
  have Hw0 := Lib.hid (Walk.start (steps := insideD) hl h0)
  have Hr := Lib.hid hr
  have Hs := Lib.hid hs
  clear hr hs h0 hne
  go_enter Tryz.func93, Tryz.ntmps93
  go_wp2_with fail
  refine (sl1Own sa sc st _ (by omega) Hs.out).mono ?_
  rintro e w1 ⟨v1, rfl, hown1, hb1⟩
  have Ho1 := Lib.hid hown1.que
  have B1 := Lib.hid hb1
  clear hown1 hb1
  go_wp2_with fail
  go_loopw [7, 8] (fun vo vq wr => ∃ R S m, Que wr w.heap.size vq S ∧ OwnInts wr w.heap.size vo m ∧ apart vo vq ∧ Walk l insideD st R S ∧ R.length = 24 ∧ laid R m ∧ S.length + 7 * R.count false ≤ 192 ∧ Below w.heap.size w wr) (fun vo vq wr => (24 - lenV vo) * 8 + lenV vq)
  case atStart => exact ⟨List.replicate 24 false, st, [], Ho1.out, OwnInts.nil, fun k hk => (by cases hk), Hw0.out, by simp, laid_start 24, by simp; omega, B1.out⟩
  case round =>
    rename_i wr vo vq
    obtain ⟨R, S, m, hque, hown, hap, hw, hR, hlaid, hlen, hbel⟩ := hrel
    have hml := hlaid.2.2
    have Hq := Lib.hid hque
    have Ho := Lib.hid hown
    have Hap := Lib.hid hap
    have Hw := Lib.hid hw
    have Hla := Lib.hid hlaid
    have Hbel := Lib.hid hbel
    clear hque hown hap hw hlaid hbel
    obtain ⟨oa, oc, rfl, hoc, hon⟩ := Ho.out.nums
    have Hon := Lib.hid hon
    clear hon
    cases S with
    | nil =>
      obtain ⟨qa, qc, rfl, _⟩ := Hq.out.slice
      go_wp2_with fail
      go_ret
      exact ⟨_, m, rfl, Ho.out, fun y => ((Hla.out.1 y).trans ⟨fun ⟨n, e, h⟩ => ⟨n, e, (Hw.out.done n).1 h⟩, fun ⟨n, e, h⟩ => ⟨n, e, (Hw.out.done n).2 h⟩⟩), Hla.out.2.1, by omega, Hbel.out⟩
    | cons x S' =>
      obtain ⟨n, rfl, hn, _⟩ := Hw.out.ahead x (by simp)
      simp only [List.length_cons] at hlen
      obtain ⟨g, off, cap, rfl, hcap, hmx, hgB, hgl, e0, hq1, hq2⟩ := Hq.out.tail
      have hR24 : n < R.length := by omega
      have hS : S'.length ≤ 191 := by omega
      have Hq1 := Lib.hid hq1
      have Hq2 := Lib.hid hq2
      have Hsl := Lib.hid (show S'.length = S'.length from rfl)
      clear hq1 hq2
      have hasC := Lib.hid (fun c => sl1Has oa c m n wr (by omega) Hon.out)
      have putC := Lib.hid (fun hno => sl1Put (.slice oa m.length oc) w.heap.size m n wr (by omega) Ho.out hno)
      generalize hsl : S'.length = sl at *
      have Hnl := Lib.hid hml
      clear hml
      generalize hmm : m.length = ml at *
      cases hb : R[n] with
      | true =>
        have hin : decide ((n : Int) ∈ m) = true := decide_eq_true ((Hla.out.1 _).2 ⟨n, rfl, by rw [List.getElem?_eq_getElem hR24, hb]⟩)
        have Hw' := Lib.hid (Hw.out.skip (S' := S') (n := n) (fun y => by simp) (by rw [List.getElem?_eq_getElem hR24, hb]))
        go_wp2_with fail
        all_goals
          first
            | (obtain ⟨vq, hvq, Hq'⟩ : ∃ vq, Value.slice (some ⟨g, off + 1, none⟩) sl (cap - 1) = vq ∧ Hid (Que wr w.heap.size vq S') := ⟨_, rfl, Lib.hid (Hq1.out (by assumption))⟩; have hvg : vq.ownBlock = some g := (by rw [← hvq]; rfl); rw [hvq])
            | (obtain ⟨vq, hvq, Hq'⟩ : ∃ vq, Value.slice (some ⟨g, off, none⟩) sl 0 = vq ∧ Hid (Que wr w.heap.size vq S') := ⟨_, rfl, Lib.hid (by have h9 := Hq2.out (by first | assumption | rfl); have e9 : sl = 0 := (by rw [← hsl, h9.1]; rfl); rw [e9]; exact h9.2)⟩; have hvg : vq.ownBlock = some g := (by rw [← hvq]; rfl); rw [hvq])
          refine (hasC.out _).mono ?_
          rintro e w2 ⟨rfl, rfl⟩
          rw [hin]
          go_wp2_with fail
          obtain ⟨qa, qc, rfl, _⟩ := Hq'.out.slice
          exact ⟨⟨R, S', m, Hq'.out, Ho.out, fun k hk => by rw [hvg]; exact Hap.out k hk, Hw'.out, hR, Hla.out, by omega, Hbel.out⟩, by simp only [lenV]; omega⟩
      | false =>
        have hbf : R[n]? = some false := by rw [List.getElem?_eq_getElem hR24, hb]
        have hno : ¬ (n : Int) ∈ m := fun h => by
          obtain ⟨k, e, hk⟩ := (Hla.out.1 _).1 h
          have : n = k := by omega
          rw [this, hk] at hbf
          cases hbf
        have hin : decide ((n : Int) ∈ m) = false := decide_eq_false hno
        have Pc := Lib.hid (putC.out hno)
        have Hput := Lib.hid (fun m' => laid.put (m' := m') Hla.out hbf)
        have hcs := count_set hbf
        have hft := Hne.out.six l[n] (List.getElem_mem hn)
        have Hlen := Lib.hid (inside_len hft)
        have Hmp := Lib.hid (Hne.out.mParts n hn)
        have Htake := Lib.hid (Walk.take (S' := S' ++ insideD l[n]) hn Hw.out Hne.out.inside (fun y hy => by
          rcases List.mem_cons.1 hy with h | h
          · exact .inl h
          · exact .inr (by simp [h])) (fun y hy => by
          rcases List.mem_append.1 hy with h | h
          · exact .inl (by simp [h])
          · exact .inr h) (fun y hy => by simp [hy]) (by simp))
        clear hno
        go_wp2_with fail
        all_goals
          first
            | (obtain ⟨vq, hvq, Hq'⟩ : ∃ vq, Value.slice (some ⟨g, off + 1, none⟩) sl (cap - 1) = vq ∧ Hid (Que wr w.heap.size vq S') := ⟨_, rfl, Lib.hid (Hq1.out (by assumption))⟩; have hvg : vq.ownBlock = some g := (by rw [← hvq]; rfl); rw [hvq])
            | (obtain ⟨vq, hvq, Hq'⟩ : ∃ vq, Value.slice (some ⟨g, off, none⟩) sl 0 = vq ∧ Hid (Que wr w.heap.size vq S') := ⟨_, rfl, Lib.hid (by have h9 := Hq2.out (by first | assumption | rfl); have e9 : sl = 0 := (by rw [← hsl, h9.1]; rfl); rw [e9]; exact h9.2)⟩; have hvg : vq.ownBlock = some g := (by rw [← hvq]; rfl); rw [hvq])
          clear hvq
          refine (hasC.out _).mono ?_
          rintro e w2 ⟨rfl, rfl⟩
          rw [hin]
          go_wp2_with fail
          refine Pc.out.mono ?_
          rintro e w3 ⟨v3, m3, rfl, hown3, hmem3, hri3, hl3, hb3⟩
          have B3 := Lib.hid (Hbel.out.trans (hb3.mono Hbel.out.size))
          have O3 := Lib.hid hown3
          have La := Lib.hid (Hput.out m3 hmem3 hri3 (by rw [hl3, hmm]))
          have Q3 := Lib.hid (Hq'.out.below hb3)
          obtain ⟨b, o, a3, c3, rfl, hb1, e0, e1, e2, e3, e4, e5, hrf, _⟩ := type_cells Hr.out hn B3.out
          have Hrf := Lib.hid hrf
          clear hown3 hmem3 hri3 hb3 hrf
          generalize l[n] = t at *
          go_wp2_with fail
          refine (sl3Parts t a3 c3 _ (by omega) Hrf.out).mono ?_
          rintro e w4 ⟨v4, rfl, hown4, hb4⟩
          rw [Hmp.out] at hown4
          obtain ⟨a4, c4, rfl, hc4, hn4⟩ := hown4.nums
          have N4 := Lib.hid hn4
          have Q4 := Lib.hid (Q3.out.below hb4)
          have O4 := Lib.hid (O3.out.below hb4)
          have B4 := Lib.hid (B3.out.trans (hb4.mono B3.out.size))
          have hs34 := hb4.size
          have hsw := Hbel.out.size
          clear hown4 hn4 hb4
          have hlt3 := World.ownsRow.lt O3.out
          have hltq := Q4.out.lt
          have hpa : S'.length + (insideD t).length ≤ 1048577 + 1048576 := by have := Hlen.out; omega
          have hpb := B4.out.size
          go_wp2_with (at_builtin; refine wpList_pushQue rfl (.tmp 26) (.tmp 31) rfl w.heap.size w4 vq S' rfl Q4.out (insideD t) a4 c4 rfl N4.out hpa hpb ?_)
          intro v5 w5 hq5 hg5 hk5
          have O5 := Lib.hid (O4.out.keep (w' := w5) (fun k hk => hg5.block k (by have := hlt3 k hk; omega) (fun e => by
            have := hlt3 k hk
            try rw [hvg] at e
            injection e with e
            omega)))
          have B5 := Lib.hid (B4.out.grown hg5 B4.out.size (fun k hk => by
            try rw [hvg] at hk
            injection hk with hk
            omega))
          have Hap5 := Lib.hid (show apart v3 v5 from fun k hk e => by
            have := hlt3 k hk
            rcases hk5 k e with h | h
            · try rw [hvg] at h
              first | injection h with h | skip
              omega
            · omega)
          have Q5 := Lib.hid hq5
          clear hq5 hg5 hk5
          obtain ⟨qa, qc, rfl, _⟩ := Q5.out.slice
          obtain ⟨oa', oc', rfl, _, _⟩ := O5.out.nums
          go_wp2_with fail
          have hl5 := Hlen.out
          have hl6 := Hnl.out
          have hl7 := La.out.2.2
          rw [List.length_set] at hl7
          refine ⟨⟨R.set n true, S' ++ insideD t, m3, Q5.out, O5.out.lower (by omega), Hap5.out, Htake.out, by rw [List.length_set, hR], La.out, by rw [List.length_append]; omega, B5.out⟩, ?_⟩
          simp only [lenV, List.length_append]
          omega
end Go.Proofs.YtllddjmcemcdhaaGreat
