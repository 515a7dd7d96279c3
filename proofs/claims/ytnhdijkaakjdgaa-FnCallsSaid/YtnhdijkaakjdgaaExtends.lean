
/-
  What is proved: contracts of basesFrom, slices.Contains for numbers, and Extends of the program and of the model. No condition beside what each theorem states.
-/
import Derived.Test.YtnhdijkaakjdgaaSim
import Derived.Test.YtnhdijkaakjdgaaAt
namespace Go.Proofs.Ytnhdijkaakjdgaa
open Go.ChangeShapes Go.WideShapes Go.ChangeAt Go.RowKit

set_option maxRecDepth 100000 in
set_option maxHeartbeats 4000000 in
theorem iBasesFrom (a : Option Addr) (c : Nat) (l : List TypeD) (x : Int) (w : World) (hg : good l) (hx : kindZ l x = 5) (hr : Rows typeS Any w a l) :
    Calls Try.prog 87 #[.slice a l.length c, .int .i64 x] w fun e w' => ∃ v, e = .returned v ∧ OwnInts w' w.heap.size v (chain l x) ∧ Below w.heap.size w w' := by
  have Hr := Lib.hid hr
  have Hg := Lib.hid hg
  have Hx := Lib.hid hx
  clear hr hg hx
  go_enter Try.func87, Try.ntmps87
  go_wp2_with fail
  go_loopw [1, 5] (fun i v wr => ∃ y recs, i = .int .i64 y ∧ OwnInts wr w.heap.size v recs ∧ recs ++ chain l y = chain l x ∧ (y = -1 ∨ kindZ l y = 5) ∧ Below w.heap.size w wr) (fun i _ _ => (chain l (intOf i)).length)
  case atStart => exact ⟨x, [], rfl, OwnInts.nil, rfl, .inr Hx.out, Below.refl _ _⟩
  case round =>
    rename_i wr v
    obtain ⟨y, recs, rfl, hown, hch, hy, hbel⟩ := hrel
    have Ho := Lib.hid hown
    have Hch := Lib.hid hch
    have Hbel := Lib.hid hbel
    clear hown hch hbel
    rcases hy with rfl | h5
    · have hz := chain_end (l := l) (x := -1) (by rw [kindZ_out (by omega)]; decide)
      go_wp2_with fail
      go_ret
      have := Hch.out
      rw [hz, List.append_nil] at this
      exact ⟨_, rfl, this ▸ Ho.out, Hbel.out⟩
    · have Hcons := Lib.hid (chain_cons Hg.out h5)
      have hless := chain_less Hg.out h5
      obtain ⟨k, rfl, hk, h5'⟩ := kind5 h5
      have hbz := baseZ_in hk
      have Hnb := Lib.hid (Hg.out.1.base hk h5')
      have hrl : recs.length ≤ 24 := by have h1 := congrArg List.length Hch.out; rw [List.length_append] at h1; have := chain_len Hg.out x; omega
      have hne1 : ((k : Int) == -1) = false := beq_eq_false_iff_ne.2 (by omega)
      have hne2 : ((k : Int) != -1) = true := bne_iff_ne.2 (by omega)
      have hs := Hbel.out.size
      go_wp2_with (at_builtin; refine wpList_pushInt rfl _ _ rfl w.heap.size _ _ recs rfl Ho.out _ _ rfl rfl (by omega) hs ?_)
      intro v' w1 hown1 hg1 hlt1
      have Hb1 := Lib.hid (Hbel.out.grown hg1 hs (fun k hk => (hlt1 k hk).1))
      have Ho1 := Lib.hid hown1
      clear hown1 hg1 hlt1
      obtain ⟨b, o, a3, c3, rfl, hb1, e0, e1, e2, e3, e4, e5, hrf, _⟩ := type_cells Hr.out hk Hb1.out
      clear hrf
      have Hnx := Lib.hid (show (recs ++ [(k : Int)]) ++ chain l (baseZ l (k : Int)) = chain l x by rw [List.append_assoc, List.singleton_append, ← Hcons.out]; exact Hch.out)
      rw [hbz] at hless Hnx
      go_wp2_with fail
      exact ⟨⟨_, recs ++ [(k : Int)], rfl, Ho1.out, Hnx.out, Hnb.out, Hb1.out⟩, hless⟩

set_option maxHeartbeats 2000000 in
theorem iIndexInt (a : Option Addr) (c : Nat) (l : List Int) (n : Int) (w : World) (hl : l.length ≤ 1048576) (hr : Nums w a l) :
    Calls Try.prog 124 #[.slice a l.length c, .int .i64 n] w fun e w' => ∃ r : Int, e = .returned (.int .i64 r) ∧ (0 ≤ r ↔ n ∈ l) ∧ w = w' := by
  have Hr := Lib.hid hr
  clear hr
  go_enter Try.func124, Try.ntmps124
  go_wp2_with fail
  go_loop [8] (fun i => ∃ k : Nat, i = .int .i64 k ∧ k ≤ l.length ∧ ∀ j (hj : j < l.length), j < k → l[j] ≠ n) (fun i => l.length - (intOf i).toNat)
  case atStart => exact ⟨0, rfl, by omega, fun j _ hj => absurd hj (by omega)⟩
  case round =>
    obtain ⟨k, rfl, hk, hno⟩ := hrel
    have Hno := Lib.hid hno
    clear hno
    by_cases hlt : k < l.length
    · obtain ⟨b, o, rfl, _, e0⟩ := Hr.out k hlt
      by_cases he : l[k] = n
      · have Hy := Lib.hid (show n ∈ l from he ▸ List.getElem_mem hlt)
        have h2 : (n == l[k]) = true := beq_iff_eq.2 he.symm
        clear he
        generalize l[k] = z at *
        go_wp2_with fail
        go_ret
        exact ⟨_, rfl, ⟨fun _ => Hy.out, fun _ => by omega⟩, rfl⟩
      · have Hno' := Lib.hid (show ∀ j (hj : j < l.length), j < k + 1 → l[j] ≠ n from fun j hj hjk => by
          by_cases e : j = k
          · subst e; exact he
          · exact Hno.out j hj (by omega))
        have h2 : (n == l[k]) = false := beq_eq_false_iff_ne.2 (fun e => he e.symm)
        clear he
        generalize l[k] = z at *
        go_wp2_with fail
        go_round
        case rel => exact ⟨k + 1, by go_num, by omega, Hno'.out⟩
        case measure => simp [intOf]; omega
    · have Hn := Lib.hid (show n ∉ l from fun hm => by
        obtain ⟨j, hj, e⟩ := List.getElem_of_mem hm
        exact Hno.out j hj (by omega) e)
      go_wp2_with fail
      go_ret
      exact ⟨_, rfl, ⟨fun h => absurd h (by omega), fun h => absurd h Hn.out⟩, rfl⟩

theorem iContains (a : Option Addr) (c : Nat) (l : List Int) (n : Int) (w : World) (hl : l.length ≤ 1048576) (hr : Nums w a l) :
    Calls Try.prog 86 #[.slice a l.length c, .int .i64 n] w fun e w' => e = .returned (.bool (decide (n ∈ l))) ∧ w = w' := by
  go_enter Try.func86, Try.ntmps86
  go_wp2_with fail
  refine (iIndexInt a c l n _ hl hr).mono ?_
  rintro e w1 ⟨r, rfl, hiff, rfl⟩
  have H := Lib.hid (show decide (n ∈ l) = decide (0 ≤ r) by simp only [hiff])
  clear hiff
  go_wp2_with fail
  go_ret
  exact ⟨by rw [H.out]; rfl, rfl⟩

set_option maxRecDepth 100000 in
set_option maxHeartbeats 4000000 in
theorem sl3Extends (a : Option Addr) (c : Nat) (l : List TypeD) (x y : Int) (w : World) (hg : good l) (hx : kindZ l x = 5) (hr : Rows typeS Any w a l) :
    Calls Try.prog 52 #[.slice a l.length c, .int .i64 x, .int .i64 y] w fun e w' => e = .returned (.bool (decide (y ∈ chain l x))) ∧ w = w' := by
  have Hr := Lib.hid hr
  have Hg := Lib.hid hg
  have Hx := Lib.hid hx
  have h24 := hg.1.most
  clear hr hg hx
  generalize hd : decide (y ∈ chain l x) = d
  have Hd := Lib.hid hd
  clear hd
  go_enter Try.func52, Try.ntmps52
  go_wp2_with fail
  go_loop [1] (fun i => ∃ z, i = .int .i64 z ∧ (y ∈ chain l x ↔ y ∈ chain l z) ∧ (z = -1 ∨ kindZ l z = 5)) (fun i => (chain l (intOf i)).length)
  case atStart => exact ⟨x, rfl, Iff.rfl, .inr Hx.out⟩
  case round =>
    obtain ⟨z, rfl, hch, hz⟩ := hrel
    have Hch := Lib.hid hch
    clear hch
    rcases hz with rfl | h5
    · have hz := chain_end (l := l) (x := -1) (by rw [kindZ_out (by omega)]; decide)
      have Hv := Lib.hid (show d = false by rw [← Hd.out]; exact decide_eq_false (fun h => by have := Hch.out.1 h; rw [hz] at this; cases this))
      clear hz
      go_wp2_with fail
      go_ret
      exact ⟨by rw [Hv.out]; rfl, rfl⟩
    · have Hcons := Lib.hid (chain_cons Hg.out h5)
      have hless := chain_less Hg.out h5
      obtain ⟨k, rfl, hk, h5'⟩ := kind5 h5
      have hbz := baseZ_in hk
      have Hnb := Lib.hid (Hg.out.1.base hk h5')
      obtain ⟨b, o, a3, c3, rfl, hb1, e0, e1, e2, e3, e4, e5, hrf, _⟩ := type_cells Hr.out hk (Below.refl _ _)
      clear hrf
      by_cases hy : (k : Int) = y
      · have Hv := Lib.hid (show d = true by rw [← Hd.out]; exact decide_eq_true (Hch.out.2 (by rw [Hcons.out, hy]; simp)))
        have h2 : ((k : Int) == y) = true := beq_iff_eq.2 hy
        go_wp2_with fail
        go_ret
        exact ⟨by rw [Hv.out]; rfl, rfl⟩
      · have h2 : ((k : Int) == y) = false := beq_eq_false_iff_ne.2 hy
        have Hnx := Lib.hid (show y ∈ chain l x ↔ y ∈ chain l (baseZ l (k : Int)) by rw [Hch.out, Hcons.out, List.mem_cons]; exact ⟨fun h => h.resolve_left (fun e => hy e.symm), .inr⟩)
        rw [hbz] at hless Hnx
        clear hy
        go_wp2_with fail
        go_round
        case rel => exact ⟨_, rfl, Hnx.out, Hnb.out⟩
        case measure => simpa [intOf] using hless

open Classical in
noncomputable def extOk (l : List TypeD) (x y : Int) : Bool := decide (good l ∧ kindZ l x = 5 ∧ kindZ l y = 5)
open Classical in
noncomputable def extA (l : List TypeD) (x y : Int) : Bool := decide ((good l ∧ kindZ l x = 5 ∧ kindZ l y = 5) ∧ y ∈ chain l x)
theorem ext_out {l : List TypeD} {x y : Int} (h : ¬ (good l ∧ kindZ l x = 5 ∧ kindZ l y = 5)) : extOk l x y = false ∧ extA l x y = false := by
  unfold extOk extA
  simp only [decide_eq_false_iff_not]
  exact ⟨h, fun g => h g.1⟩
theorem ext_in {l : List TypeD} {x y : Int} (h : good l ∧ kindZ l x = 5 ∧ kindZ l y = 5) : extOk l x y = true ∧ extA l x y = decide (y ∈ chain l x) := by
  unfold extOk extA
  exact ⟨by simp only [decide_eq_true_eq]; exact h, by simp only [decide_eq_decide]; exact ⟨fun g => g.2, fun g => ⟨h, g⟩⟩⟩

end Go.Proofs.Ytnhdijkaakjdgaa
