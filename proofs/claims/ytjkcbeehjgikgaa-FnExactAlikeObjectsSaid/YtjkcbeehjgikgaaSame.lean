
/-
  What is proved: contracts of SameTypes, the program's and the model's. No condition beside what each theorem states.
-/
import Derived.Test.YtjkcbeehjgikgaaSSame
import Derived.Test.YtjkcbeehjgikgaaLaws3
import Derived.Test.YtjkcbeehjgikgaaAt
namespace Go.Proofs.Ytjkcbeehjgikgaa
open Go.ChangeShapes Go.WideShapes Go.ChangeAt Go.RowKit Go.Maps Go.WideMaps

open Classical in
noncomputable def simB (A B : List TypeD) (x y : Int) : Bool := decide (Sim A B x y)
theorem simB_true {A B : List TypeD} {x y : Int} (h : Sim A B x y) : simB A B x y = true := by unfold simB; simpa using h
theorem simB_false {A B : List TypeD} {x y : Int} (h : ¬ Sim A B x y) : simB A B x y = false := by unfold simB; simpa using h
theorem held_nil {A B : List TypeD} : Held A B [] := ⟨fun _ h => (by cases h), List.nodup_nil⟩

set_option maxHeartbeats 2000000 in
theorem sl3Same (A B : List TypeD) (hA : near A) (hB : near B) (a b : Option Addr) (ca cb : Nat) (x y : Int) (w : World) (hx : inTables A B (x, y)) (hra : Rows typeS Any w a A) (hrb : Rows typeS Any w b B) :
    Calls Try.prog 159 #[.slice a A.length ca, .int .i64 x, .slice b B.length cb, .int .i64 y] w fun e w' => e = .returned (.bool (simB A B x y)) ∧ Below w.heap.size w w' := by
  have Hx := Lib.hid hx
  have Ha := Lib.hid hra
  have Hb := Lib.hid hrb
  clear hx hra hrb
  go_enter Try.func159, Try.ntmps159
  go_wp2_with fail
  have hX := Box.new w 196 (boxS A B a b ca cb (.slice none 0 0))
  have hB0 : Below w.heap.size w (w.alloc (.cells (boxS A B a b ca cb (.slice none 0 0)) 196)) := (Below.refl _ _).alloc (Nat.le_refl _) _
  have conv : ∀ {c : Option Addr} {l : List TypeD}, Rows typeS Any w c l → Rows typeS (fun k => k ≠ w.heap.size ∧ k < w.heap.size + 1) (w.alloc (.cells (boxS A B a b ca cb (.slice none 0 0)) 196)) c l := fun h =>
    (Rows.mono (Q' := fun k => k ≠ w.heap.size ∧ k < w.heap.size + 1) h (fun k _ hk => ⟨by omega, by omega⟩)).keep (fun k _ hk => Below.heap_alloc w _ k hk) (by simp)
  refine (sSame A B hA hB a b ca cb w.heap.size (w.heap.size + 1) (by omega) 577 [] (.slice none 0 0) x y _ (by simp) held_nil Hx.out hX HeldV.nil (by simp) (conv Ha.out) (conv Hb.out)).mono ?_
  rintro e w1 hs
  have hov : ∀ {w1 : World}, OnlyH w.heap.size (.slice none 0 0) (w.alloc (.cells (boxS A B a b ca cb (.slice none 0 0)) 196)) w1 → Below w.heap.size w w1 := fun h => hB0.trans (h.below (Nat.le_refl _) (fun k hk => by cases hk) (by simp))
  rcases hs with ⟨rfl, L', v', h1, h2, _, _, _, h3⟩ | ⟨rfl, h1, h3⟩
  · have Hv := Lib.hid (simB_true (h1.sim h2))
    have B1 := Lib.hid (hov h3)
    clear h1 h2 h3 hov conv hX hB0
    go_wp2_with fail
    go_ret
    exact ⟨by rw [Hv.out]; rfl, B1.out⟩
  · have Hv := Lib.hid (simB_false h1)
    have B1 := Lib.hid (hov h3)
    clear h1 h3 hov conv hX hB0
    go_wp2_with fail
    go_ret
    exact ⟨by rw [Hv.out]; rfl, B1.out⟩

open Classical in
noncomputable def sameOk (A B : List TypeD) (x y : Int) : Bool := decide (atP A x ∧ atP B y)
open Classical in
noncomputable def sameA (A B : List TypeD) (x y : Int) : Bool := decide ((atP A x ∧ atP B y) ∧ Sim A B x y)
theorem same_out {A B : List TypeD} {x y : Int} (h : ¬ (atP A x ∧ atP B y)) : sameOk A B x y = false ∧ sameA A B x y = false := by
  unfold sameOk sameA
  simp only [decide_eq_false_iff_not]
  exact ⟨h, fun g => h g.1⟩
theorem same_in {A B : List TypeD} {x y : Int} (h : atP A x ∧ atP B y) : sameOk A B x y = true ∧ sameA A B x y = simB A B x y := by
  unfold sameOk sameA simB
  exact ⟨by simp only [decide_eq_true_eq]; exact h, by simp only [decide_eq_decide]; exact ⟨fun g => g.2, fun g => ⟨h, g⟩⟩⟩

end Go.Proofs.Ytjkcbeehjgikgaa
