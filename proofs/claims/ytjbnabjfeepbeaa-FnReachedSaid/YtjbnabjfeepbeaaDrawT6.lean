
/-
  What is proved: the contract of the model's draw of types and numbers for ReachedOf. No condition beside what the theorem states.
-/
import Derived.Test.YtjbnabjfeepbeaaDrawT5
namespace Go.Proofs.Ytjbnabjfeepbeaa
open Go.ChangeShapes Go.WideShapes Go.ChangeAt Go.RowKit
set_option maxRecDepth 100000

theorem TDrawn.below {n c : Nat} {w w' w'' : World} {a : Option Addr} (h : TDrawn w a n c w') (hb : Below w'.heap.size w' w'') : TDrawn w a n c w'' := by
  obtain ⟨l, h1, h2, h3, h4, h5, h6, h7⟩ := h
  exact ⟨l, h1, h2, h3, h4, h5.keep (fun q _ hl => hb.block q hl) hb.size, h6, h7.trans ⟨hb.os, hb.tape, hb.output, hb.size, fun b hl => hb.block b (Nat.lt_of_lt_of_le hl h7.size)⟩⟩
set_option maxHeartbeats 4000000 in
theorem dReachedOf (a : Option Addr) (len cap : Nat) (w : World) (h : Code w a len) : Calls Try.prog 20 #[.slice a len cap] w fun e w' => ∃ a n c b ns, e = .returned (.tuple #[.slice a n c, .slice (some ⟨b, 0, none⟩) ns.length ns.length]) ∧ Ints w' (some ⟨b, 0, none⟩) ns ∧ (∀ m ∈ ns, -1 ≤ m ∧ m ≤ (n : Int) + 2) ∧ 1 ≤ ns.length ∧ ns.length ≤ 2 ∧ TDrawn w a n c w' := by
  have H := Lib.hid h
  clear h
  go_enter Try.func20, Try.ntmps20
  go_wp2_with fail
  refine (cTyped _ 0 _ (by decide) H.out.cur).mono ?_
  rintro e w1 ⟨a1, n, c, m, rfl, m0, m1, hat⟩
  have A1 := Lib.hid hat
  obtain ⟨_, _, _, _, hn9, _, _, hcu, _⟩ := hat
  have C1 := Lib.hid hcu
  clear hcu
  go_wp2_with fail
  refine (cOne _ _ 4 _ (by omega) (by omega) (by omega) C1.out).mono ?_
  rintro e w2 ⟨o1, rfl, hc2, ho2⟩
  have T2 := Lib.hid (A1.out.pick (by simp) hc2 ho2).drawn
  clear hc2 ho2 A1 C1
  cases o1
  · go_wp2_with fail
    go_ret2
    exact ⟨a1, n, c, _, [m], rfl, Ints.litAt w2 _ [m] _ rfl, fun z hz => by rw [List.mem_singleton.1 hz]; omega, by simp, by simp, T2.out.below ((Below.refl _ _).alloc (Nat.le_refl _) _)⟩
  · have hw2 : IntKind.i64.wrap (m + 2) = m + 2 := IntWalk.i64_in _ (by omega)
    go_wp2_with fail
    go_ret2
    exact ⟨a1, n, c, _, [m, m + 2], rfl, Ints.litAt w2 _ [m, m + 2] _ rfl, fun z hz => by
      rcases List.mem_cons.1 hz with rfl | hz
      · omega
      · rw [List.mem_singleton.1 hz]; omega, by simp, by simp, T2.out.below ((Below.refl _ _).alloc (Nat.le_refl _) _)⟩
end Go.Proofs.Ytjbnabjfeepbeaa
