
/-
  What is proved: the contract of the model's typed. No condition beside what the theorem states.
-/
import Derived.Test.YtjbnabjfeepbeaaDrawT4
namespace Go.Proofs.Ytjbnabjfeepbeaa
open Go.ChangeShapes Go.WideShapes Go.ChangeAt Go.RowKit
set_option maxRecDepth 100000

theorem AnyT.more {g k k' B n c : Nat} {w0 w : World} {a : Option Addr} (h : AnyT g k B w0 a n c w) (hk : k ≤ k') : AnyT g k' B w0 a n c w := by
  obtain ⟨m, m1, m2, m3, m4, m5, m6, m7, m8⟩ := h
  exact ⟨m, m1, m2, m3, m4, m5, m6, m7.more hk, m8⟩
set_option maxHeartbeats 4000000 in
theorem cTyped (g k : Nat) (w : World) (hk : k ≤ 800000) (hc : Cur w g k) :
    Calls Try.prog 55 #[.pointer (some ⟨g, 0, none⟩)] w fun e w' => ∃ a n c m, e = .returned (.tuple #[.slice a n c, .int .i64 m]) ∧ -1 ≤ m ∧ m ≤ (n : Int) ∧ AnyT g (k + 1200) w.heap.size w a n c w' := by
  have hgw := hc.lt
  have Hc := Lib.hid hc
  clear hc
  go_enter Try.func55, Try.ntmps55
  go_wp2_with fail
  refine (cAnyTypes g k _ (by omega) Hc.out).mono ?_
  rintro e w1 ⟨a, n, c, rfl, hat⟩
  have A1 := Lib.hid hat
  obtain ⟨l1, _, hn1, hn2, hn9, _, _, hc1, _⟩ := hat
  have C1 := Lib.hid hc1
  clear hc1
  have hw1 : IntKind.i64.wrap ((n : Int) + 1) = (n : Int) + 1 := IntWalk.i64_in _ (by omega)
  go_wp2_with fail
  refine (cPick g _ ((n : Int) + 1) _ (by omega) (by omega) (by omega) C1.out).mono ?_
  rintro e w2 ⟨x, ⟨x0, x1⟩, rfl, hc2, ho2⟩
  have A2 := Lib.hid (A1.out.pick hgw hc2 ho2)
  have C2 := Lib.hid hc2
  clear hc2 ho2 A1 C1
  go_wp2_with fail
  refine (cPick g _ 20 _ (by omega) (by omega) (by omega) C2.out).mono ?_
  rintro e w3 ⟨y, ⟨y0, y1⟩, rfl, hc3, ho3⟩
  have A3 := Lib.hid (A2.out.pick hgw hc3 ho3)
  clear hc3 ho3 A2 C2
  go_wp2_with fail
  go_ret2
  exact ⟨a, n, c, x - y / 19, rfl, by omega, by omega, A3.out.more (by omega)⟩
/-- Types that a draw has made of what came in. -/
def TDrawn (w : World) (a : Option Addr) (n c : Nat) (w' : World) : Prop := ∃ l : List TypeD, l.length = n ∧ n ≤ c ∧ c ≤ maxLen ∧ n ≤ 9 ∧ Rows typeS (fun q => w.heap.size ≤ q) w' a l ∧ (∀ t ∈ l, shortT t) ∧ Below w.heap.size w w'
theorem rowsZ {Q : Nat → Prop} {w : World} {a : Option Addr} {l : List TypeD} (h : Rows typeZ Q w a l) : Rows typeS Q w a l := fun i hi => by
  obtain ⟨b, o, cs, e, h1, h2, h3, a3, c3, e3, h4, h5, _⟩ := h i hi
  exact ⟨b, o, cs, e, h1, h2, h3, a3, c3, e3, h4, h5⟩
theorem AnyT.drawn {k n c : Nat} {w w' : World} {o : Obj} {a : Option Addr} (h : AnyT w.heap.size k (w.alloc o).heap.size (w.alloc o) a n c w') : TDrawn w a n c w' := by
  obtain ⟨l, h1, h2, h3, h4, h5, h6, _, h8⟩ := h
  exact ⟨l, h1, h2, h3, h4, (rowsZ h5).mono (fun q hq _ => by simp at hq; omega), h6, freshOnly h8⟩
set_option maxHeartbeats 4000000 in
theorem dSizeOf (a : Option Addr) (len cap : Nat) (w : World) (h : Code w a len) : Calls Try.prog 11 #[.slice a len cap] w fun e w' => ∃ a n c m, e = .returned (.tuple #[.slice a n c, .int .i64 m]) ∧ -1 ≤ m ∧ m ≤ (n : Int) ∧ TDrawn w a n c w' := by
  have H := Lib.hid h
  clear h
  go_enter Try.func11, Try.ntmps11
  go_wp2_with fail
  refine (cTyped _ 0 _ (by decide) H.out.cur).mono ?_
  rintro e w1 ⟨a1, n, c, m, rfl, m0, m1, hat⟩
  have A1 := Lib.hid hat
  clear hat
  go_wp2_with fail
  go_ret2
  exact ⟨a1, n, c, m, rfl, m0, m1, A1.out.drawn⟩
end Go.Proofs.Ytjbnabjfeepbeaa
