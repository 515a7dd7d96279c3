
/-
  What is proved: contracts of basesFrom, slices.Contains for numbers, and Extends of the program and of the model. No condition beside what each theorem states.
-/
import Derived.Test.YtjbnabjfeepbeaaSim
import Derived.Test.YtjbnabjfeepbeaaSGood
namespace Go.Proofs.Ytjbnabjfeepbeaa
open Go.ChangeShapes Go.WideShapes Go.ChangeAt Go.RowKit

set_option maxRecDepth 100000 in
set_option maxHeartbeats 4000000 in
theorem iBasesFrom (a : Option Addr) (c : Nat) (l : List TypeD) (x : Int) (w : World) (hg : good l) (hx : kindZ l x = 5) (hr : Rows typeS Any w a l) :
    Calls Try.prog 78 #[.slice a l.length c, .int .i64 x] w fun e w' => ∃ v, e = .returned v ∧ OwnInts w' w.heap.size v (chain l x) ∧ Below w.heap.size w w' := by
  have Hr := Lib.hid hr
  have Hg := Lib.hid hg
  have Hx := Lib.hid hx
  clear hr hg hx
  go_enter Try.func78, Try.ntmps78
  go_wp2_with fail
  go_loopw [1, 5] (fun i v wr => ∃ y recs, i = .int .i64 y ∧ OwnInts wr w.heap.size v recs ∧ recs ++ chain l y = chain l x ∧ (y = -1 ∨ kindZ l y = 5) ∧ Below w.heap.size w wr) (fun i _ _ => (chain l (intOf i)).length)
  case atStart => exact ⟨x, [], rfl, OwnInts.nil, rfl, .inr Hx.out, Below.refl _ _⟩
  case round =>
    rename_i wr v
    obtain ⟨y, recs, rfl, hown, hch, hy, hbel⟩ := hrel
    have Ho := Lib.hid hown
    have Hch := Lib.hid hch
    have Hbel := Lib.hid hbel
    clear hown hch hbel
    rcases hy with rfl | h5
    · have hz := chain_end (l := l) (x := -1) (by rw [kindZ_out (by omega)]; decide)
      go_wp2_with fail
      go_ret
      have := Hch.out
      rw [hz, List.append_nil] at this
      exact ⟨_, rfl, this ▸ Ho.out, Hbel.out⟩
    · have Hcons := Lib.hid (chain_cons Hg.out h5)
      have hless := chain_less Hg.out h5
      obtain ⟨k, rfl, hk, h5'⟩ := kind5 h5
      have hbz := baseZ_in hk
      have Hnb := Lib.hid (Hg.out.1.base hk h5')
      have hrl : recs.length ≤ 24 := by have h1 := congrArg List.length Hch.out; rw [List.length_append] at h1; have := chain_len Hg.out x; omega
      have hne1 : ((k : Int) == -1) = false := beq_eq_false_iff_ne.2 (by omega)
      have hne2 : ((k : Int) != -1) = true := bne_iff_ne.2 (by omega)
      have hs := Hbel.out.size
      go_wp2_with (at_builtin; refine wpList_pushInt rfl _ _ rfl w.heap.size _ _ recs rfl Ho.out _ _ rfl rfl (by omega) hs ?_)
      intro v' w1 hown1 hg1 hlt1
      have Hb1 := Lib.hid (Hbel.out.grown hg1 hs (fun k hk => (hlt1 k hk).1))
      have Ho1 := Lib.hid hown1
      clear hown1 hg1 hlt1
      obtain ⟨b, o, a3, c3, rfl, hb1, e0, e1, e2, e3, e4, e5, hrf, _⟩ := type_cells Hr.out hk Hb1.out
      clear hrf
      have Hnx := Lib.hid (show (recs ++ [(k : Int)]) ++ chain l (baseZ l (k : Int)) = chain l x by rw [List.append_assoc, List.singleton_append, ← Hcons.out]; exact Hch.out)
      rw [hbz] at hless Hnx
      go_wp2_with fail
      exact ⟨⟨_, recs ++ [(k : Int)], rfl, Ho1.out, Hnx.out, Hnb.out, Hb1.out⟩, hless⟩

open Classical in
noncomputable def extOk (l : List TypeD) (x y : Int) : Bool := decide (good l ∧ kindZ l x = 5 ∧ kindZ l y = 5)
open Classical in
noncomputable def extA (l : List TypeD) (x y : Int) : Bool := decide ((good l ∧ kindZ l x = 5 ∧ kindZ l y = 5) ∧ y ∈ chain l x)
theorem ext_out {l : List TypeD} {x y : Int} (h : ¬ (good l ∧ kindZ l x = 5 ∧ kindZ l y = 5)) : extOk l x y = false ∧ extA l x y = false := by
  unfold extOk extA
  simp only [decide_eq_false_iff_not]
  exact ⟨h, fun g => h g.1⟩
theorem ext_in {l : List TypeD} {x y : Int} (h : good l ∧ kindZ l x = 5 ∧ kindZ l y = 5) : extOk l x y = true ∧ extA l x y = decide (y ∈ chain l x) := by
  unfold extOk extA
  exact ⟨by simp only [decide_eq_true_eq]; exact h, by simp only [decide_eq_decide]; exact ⟨fun g => g.2, fun g => ⟨h, g⟩⟩⟩

end Go.Proofs.Ytjbnabjfeepbeaa
