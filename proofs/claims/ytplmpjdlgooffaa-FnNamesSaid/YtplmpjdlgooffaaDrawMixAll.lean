/-
  What is proved: the contract of the model's draw of rows of numbers, and the walk of the law FnMixes. No condition beside what each theorem states.
-/
import Derived.Test.YtplmpjdlgooffaaDraw
import Derived.Test.YtplmpjdlgooffaaNumBytes
import Derived.Test.YtplmpjdlgooffaaMixAll
namespace Go.Proofs.Ytplmpjdlgooffaa
open Go.ChangeShapes Go.WideShapes Go.ChangeAt Go.RowKit

theorem Cur.grown {w w' : World} {g k : Nat} {row : Option Nat} (h : Cur w g k) (hg : w.grownBy w' row) (hr : ∀ r, row = some r → g < r) : Cur w' g k := by
  have hb : ∀ b, b ≤ g → b < w.heap.size → w'.heap[b]? = w.heap[b]? := fun b h1 h2 => hg.block b h2 (fun e => by have := hr b e.symm; omega)
  have hlt := h.lt
  obtain ⟨a, len, cap, j, seed, h1, h2, h3, h4, h5⟩ := h
  refine ⟨a, len, cap, j, seed, (hb g (Nat.le_refl _) hlt).trans h1, h2, h3, h4, fun i hi => ?_⟩
  obtain ⟨b, o, z, e, q1, q2, q3⟩ := h5 i hi
  exact ⟨b, o, z, e, q1, (World.cell?_of_block (a := ⟨b, o + i, none⟩) (hb b (by omega) (by omega))).trans q2, q3⟩

theorem Ints.ofOwn {w : World} {base c : Nat} {a : Option Addr} {l : List Int} (h : w.ownsRow base 3 1 (.slice a l.length c) l.length (l.map (Value.int .i64))) : Ints w a l := fun i hi => by
  rcases h.2 with ⟨h1, h2⟩ | ⟨g, cap, cur, h1, h2, h3, _⟩
  · omega
  · injection h1 with h1 _ h4
    subst h1 h4
    have hlt : g < w.heap.size := (h.lt g rfl).2
    exact ⟨g, 0, rfl, hlt, by rw [Nat.zero_add, h.cellAt i (by omega)]; simp [hi]⟩

/-- What a draw of a row of numbers answers. -/
def RowDrawn (w : World) (e : Ending) (w' : World) : Prop := ∃ (a : Option Addr) (c : Nat) (l : List Int), e = .returned (.slice a l.length c) ∧ l.length ≤ 201 ∧ Ints w' a l ∧ Below w.heap.size w w'

theorem ownsRow_slice {w : World} {base : Nat} {e : TypeId} {v : Value} {n : Nat} {xs : List Value} (h : w.ownsRow base e 1 v n xs) : ∃ a c, v = .slice a n c := by
  rcases h.2 with ⟨rfl, rfl⟩ | ⟨g, cap, cur, rfl, _⟩
  · exact ⟨none, 0, rfl⟩
  · exact ⟨_, _, rfl⟩

theorem make64' (n : Int) (W : World) (h0 : 0 ≤ n) (hn : n ≤ 1048576) : (Instr.makeSlice 41 (.int .i64 n) (.int .i64 n)).run Try.prog W = .ok (.slice (some ⟨W.heap.size, 0, none⟩) n.toNat n.toNat) (W.alloc (.cells (rowOf .i64 (List.replicate n.toNat 0) n.toNat) 3)) := by
  obtain ⟨m, rfl⟩ := Int.eq_ofNat_of_zero_le h0
  have e : rowOf .i64 [] m = rowOf .i64 (List.replicate m 0) m := by simp [rowOf]
  rw [Int.toNat_natCast, ← e]
  exact make64 m W (by omega)

set_option maxRecDepth 100000 in
set_option maxHeartbeats 1000000 in
theorem dMixAll (a : Option Addr) (len cap : Nat) (w : World) (h : Code w a len) : Calls Try.prog 40 #[.slice a len cap] w (RowDrawn w) := by
  obtain ⟨i0, hi0, hz0, hz1, hz2⟩ := info_parts info64
  have H := Lib.hid h
  clear h
  go_enter Try.func40, Try.ntmps40
  go_wp2_with fail
  refine (cPick _ 0 6 _ (by decide) (by decide) (by decide) H.out.cur).mono ?_
  rintro e w1 ⟨x, ⟨hx0, hx1⟩, rfl, hc1, ho1⟩
  obtain ⟨N, rfl⟩ := Int.eq_ofNat_of_zero_le hx0
  have hN : N ≤ 5 := by omega
  have Hc1 := Lib.hid hc1
  have Hw1 := Lib.hid (freshOnly ho1)
  have hlt1 := hc1.lt
  clear hc1 ho1 hx0 hx1
  go_wp2_with fail
  go_loopw [4, 5] (fun v n wr => ∃ (m : Nat) (l : List Int), n = .int .i64 m ∧ l.length + m ≤ 5 ∧ wr.ownsRow (w.heap.size + 1) 3 1 v l.length (l.map (Value.int .i64)) ∧ Cur wr w.heap.size (2 + 2 * l.length) ∧ Below w.heap.size w wr) (fun _ n _ => (intOf n).toNat)
  case atStart => exact ⟨N, [], rfl, by simpa using hN, World.ownsRow_nil _ _ _ _, Hc1.out, Hw1.out⟩
  case round =>
    clear Hc1 Hw1 H hlt1
    obtain ⟨m, l, rfl, hm, hown, hc, hbel⟩ := hrel
    have Hown := Lib.hid hown
    have Hc := Lib.hid hc
    have Hbel := Lib.hid hbel
    have hlt := hc.lt
    have hsz := hbel.size
    clear hown hc hbel
    by_cases hpos : 0 < m
    · go_wp2_with fail
      refine (cWhole _ (2 + 2 * l.length) _ (by omega) Hc.out).mono ?_
      rintro e w2 ⟨y, ⟨hy0, hy1⟩, rfl, hc2, ho2⟩
      have Hc2 := Lib.hid hc2
      have hs2 := ho2.size
      have hown2 := Hown.out.kept ho2 (by
        by_cases e : ∃ r, Value.ownBlock u4 = some r
        · obtain ⟨r, hr⟩ := e
          exact .inr (by rw [hr]; intro e; injection e with e; have := (Hown.out.lt r hr).1; omega)
        · exact .inl (by cases hh : Value.ownBlock u4 with | none => rfl | some r => exact absurd ⟨r, hh⟩ e))
      have Hown2 := Lib.hid hown2
      have Hbel2 := Lib.hid (Hbel.out.trans (ho2.below (Nat.le_refl _) hlt))
      clear hc2 ho2 hown2
      go_wp2_with (at_builtin; refine wpList_push rfl _ _ 41 rfl (w.heap.size + 1) 3 i0 (.int .i64 0) 8 Try.underlying41 hi0 hz0 hz1 hz2 rfl _ _ _ _ rfl Hown2.out _ rfl rfl ?c1 ?c2 ?c3 ?_)
      case c1 => unfold maxLen; omega
      case c2 => omega
      case c3 => omega
      intro v' w3 hown3 hg3
      have hrow : ∀ r, Value.ownBlock u4 = some r → w.heap.size < r := fun r hr => by have := (Hown2.out.lt r hr).1; omega
      have Hb3 := Lib.hid (Hbel2.out.grown hg3 (by omega) (fun r hr => by have := hrow r hr; omega))
      have Hc3 := Lib.hid (Hc2.out.grown hg3 hrow)
      have Ho3 := Lib.hid hown3
      clear hown3 hg3 hrow
      go_wp2_with fail
      exact ⟨⟨m - 1, l ++ [y], by congr 1; omega, by simp; omega, by simpa using Ho3.out, Hc3.out.more (by simp; omega), Hb3.out⟩, by simp [intOf]; omega⟩
    · obtain rfl : m = 0 := by omega
      go_wp2_with fail
      refine (cOne _ (2 + 2 * l.length) 20 _ (by omega) (by decide) (by decide) Hc.out).mono ?_
      rintro e w2 ⟨b, rfl, hc2, ho2⟩
      have Hc2 := Lib.hid hc2
      have hown2 := Hown.out.kept ho2 (by
        by_cases e : ∃ r, Value.ownBlock u4 = some r
        · obtain ⟨r, hr⟩ := e
          exact .inr (by rw [hr]; intro e; injection e with e; have := (Hown.out.lt r hr).1; omega)
        · exact .inl (by cases hh : Value.ownBlock u4 with | none => rfl | some r => exact absurd ⟨r, hh⟩ e))
      have Hbel2 := Lib.hid (Hbel.out.trans (ho2.below (Nat.le_refl _) hlt))
      obtain ⟨a1, c1, rfl⟩ := ownsRow_slice hown2
      have Hi2 := Lib.hid (Ints.ofOwn hown2)
      clear hc2 ho2 hown2
      cases b
      · go_wp2_with fail
        go_ret
        exact ⟨a1, c1, l, rfl, by omega, Hi2.out, Hbel2.out⟩
      · go_wp2_with fail
        refine (cPick _ _ 2 _ ?_ (by decide) (by decide) Hc2.out).mono ?_
        · omega
        rintro e w3 ⟨y, ⟨hy0, hy1⟩, rfl, hc3, ho3⟩
        have km := fun W => make64' (200 + y) W (by omega) (by omega)
        have Hb3 := Lib.hid (Hbel2.out.trans (ho3.below (Nat.le_refl _) Hc2.out.lt))
        clear hc3 ho3
        go_wp2_with fail
        go_ret
        refine ⟨some ⟨w3.heap.size, 0, none⟩, (200 + y).toNat, List.replicate (200 + y).toNat 0, ?_, ?_, Ints.ofBox (Box.new w3 _ _) ?_, Hb3.out.alloc Hb3.out.size _⟩
        · simp
        · simp; omega
        · simp

end Go.Proofs.Ytplmpjdlgooffaa
