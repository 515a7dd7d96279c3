
/-
  What is proved: a contract of the model's l3Size. No condition beside what each theorem states.
-/
import Derived.Test.YtjbnabjfeepbeaaSOne
import Derived.Laws.MakeOwn
namespace Go.Proofs.Ytjbnabjfeepbeaa
open Go.ChangeShapes Go.WideShapes Go.ChangeAt Go.RowKit

def intsA (zs : List Int) : Array Value := (zs.map (Value.int .i64)).toArray
theorem intsA_at {zs : List Int} {k : Nat} (h : k < zs.length) : (intsA zs)[k]? = some (.int .i64 zs[k]) := by simp [intsA, h]
theorem intsA_set (zs : List Int) (k : Nat) (z : Int) : (intsA zs).setIfInBounds k (.int .i64 z) = intsA (zs.set k z) := by simp [intsA, List.map_set]
theorem Box.nums {w : World} {g : Nat} {t : TypeId} {zs : List Int} (h : Box w g t (intsA zs)) : Nums w (Option.some ⟨g, 0, none⟩) zs := fun i hi => ⟨g, 0, rfl, h.lt, by rw [Nat.zero_add, h.cell, intsA_at hi]⟩
theorem makeInts (n : Nat) (W : World) (hn : n ≤ 1048576) : (Instr.makeSlice 38 (.int .i64 (n : Int)) (.int .i64 (n : Int))).run Try.prog W = .ok (.slice (some ⟨W.heap.size, 0, none⟩) n n) (W.alloc (.cells (intsA (List.replicate n 0)) 3)) := by
  obtain ⟨i0, hi0, hz0, hz1, hz2⟩ := info_parts infoInt
  have := run_make (P := Try.prog) W 38 3 i0 _ Try.underlying38 hi0 hz0 .i64 .i64 (n : Int) (n : Int) (by omega) (by omega) (by rw [hz2]; omega) (by omega)
  rw [this, hz1, Nat.mul_one, show (Value.int .i64 0).cells = #[.int .i64 0] from rfl]
  have : madeCells #[.int .i64 0] n = intsA (List.replicate n 0) := by
    apply Array.ext
    · simp [size_madeCells, intsA]
    · intro i h1 h2
      simp [madeCells, intsA, Nat.mod_one]
  rw [← this]
  simp

theorem Rk.more {l : List TypeD} : ∀ {f n : Nat}, Rk l f n → Rk l (f + 1) n
  | 0, _, h => by cases h
  | f + 1, n, h => by
    obtain ⟨hn, hp⟩ := h
    exact ⟨hn, fun x hx => by obtain ⟨m, e, hm⟩ := hp x hx; exact ⟨m, e, hm.more⟩⟩
def State (l : List TypeD) (r k : Nat) (zs : List Int) : Prop := halfKnown l zs ∧ (∀ j, Rk l r j → zs[j]? = some (sizeS l (j : Int))) ∧ ∀ j, j < k → Rk l (r + 1) j → zs[j]? = some (sizeS l (j : Int))
theorem State.put {l : List TypeD} (hg : good l) {r k : Nat} {zs : List Int} (h : State l r k zs) (hk : k < l.length) {z : Int} (hz : OneIs l zs l[k] z) : State l r (k + 1) (zs.set k z) := by
  obtain ⟨⟨h1, h2⟩, h3, h4⟩ := h
  have hkz : k < zs.length := by omega
  have hS : z = sizeS l (k : Int) ∨ (z = -1 ∧ ∃ m : Nat, (m : Int) ∈ insideD l[k] ∧ zs[m]? = some (-1)) := by
    rcases hz with h | h
    · exact .inl (by rw [sizeS_eq hg hk]; exact h)
    · exact .inr h
  have hfull : Rk l (r + 1) k → z = sizeS l (k : Int) := fun hr => by
    rcases hS with h | ⟨_, m, hm, hzm⟩
    · exact h
    · obtain ⟨_, hp⟩ := hr
      obtain ⟨m', e, hm'⟩ := hp _ hm
      obtain rfl : m = m' := by omega
      rw [h3 m hm'] at hzm
      injection hzm with hzm
      have := (sizeS_bounds hg.1 (m : Int)).1
      omega
  refine ⟨⟨by rw [List.length_set, h1], fun j hj => ?_⟩, fun j hj => ?_, fun j hjk hj => ?_⟩
  · rw [List.length_set] at hj
    rw [List.getElem_set]
    split
    · rename_i e
      subst e
      rcases hS with h | ⟨h, _⟩
      · exact .inr h
      · exact .inl h
    · exact h2 j hj
  · rw [List.getElem?_set]
    split
    · rename_i e
      subst e
      rw [hfull hj.more]
    · exact h3 j hj
  · rw [List.getElem?_set]
    split
    · rename_i e
      subst e
      rw [hfull hj]
    · exact h4 j (by omega) hj
theorem State.next {l : List TypeD} {r : Nat} {zs : List Int} (h : State l r l.length zs) : State l (r + 1) 0 zs := ⟨h.1, fun j hj => h.2.2 j hj.lt hj, fun _ h _ => absurd h (by omega)⟩

set_option maxRecDepth 100000 in
set_option maxHeartbeats 4000000 in
theorem sl3Size (l : List TypeD) (hg : good l) (a : Option Addr) (c n : Nat) (hn : n < l.length) (w : World) (hr : Rows typeS Any w a l) :
    Calls Try.prog 59 #[.slice a l.length c, .int .i64 n] w fun e w' => e = .returned (.int .i64 (sizeS l n)) ∧ Below w.heap.size w w' := by
  have h24 := hg.1.most
  have km := fun W => makeInts l.length W (by omega)
  have Hr := Lib.hid hr
  have Hg := Lib.hid hg
  clear hr
  go_enter Try.func59, Try.ntmps59
  go_wp2_with fail
  go_loopw [14] (fun i wr => ∃ (k : Nat) (zs : List Int), i = .int .i64 k ∧ k ≤ l.length ∧ zs.length = l.length ∧ (∀ j (h : j < zs.length), j < k → zs[j] = -1) ∧ Box wr w.heap.size 3 (intsA zs) ∧ Below w.heap.size w wr) (fun i _ => l.length - (intOf i).toNat)
  case atStart => exact ⟨0, List.replicate l.length 0, rfl, by omega, by simp, fun _ _ h => absurd h (by omega), Box.new w _ _, (Below.refl _ _).alloc (Nat.le_refl _) _⟩
  case round =>
    clear km
    obtain ⟨k, zs, rfl, hk, hzl, hz, hx, hbel⟩ := hrel
    have Hx := Lib.hid hx
    have Hbel := Lib.hid hbel
    have hsz := hbel.size
    by_cases hlt : k < l.length
    · have hkz : k < zs.length := by omega
      have x0 := hx.cell k
      rw [intsA_at hkz] at x0
      have xf := hx.free k
      have Hz2 := Lib.hid (show ∀ j (h : j < (zs.set k (-1)).length), j < k + 1 → (zs.set k (-1))[j] = -1 from fun j hj hjk => by
        rw [List.getElem_set]
        split
        · rfl
        · exact hz j (by rw [List.length_set] at hj; exact hj) (by omega))
      have Hx2 := Lib.hid (show Box _ _ _ (intsA (zs.set k (-1))) from intsA_set zs k (-1) ▸ hx.set k (.int .i64 (-1)))
      have Hb2 := Lib.hid (hbel.setCell (p := ⟨w.heap.size, k, none⟩) (Nat.le_refl _) (.int .i64 (-1)))
      clear hz hx hbel
      generalize zs[k] = z0 at *
      go_wp2_with fail
      exact ⟨⟨k + 1, zs.set k (-1), by congr 1, by omega, by rw [List.length_set, hzl], Hz2.out, Hx2.out, Hb2.out⟩, by simp [intOf]; omega⟩
    · have Hst := Lib.hid (show State l 0 0 zs from ⟨⟨hzl, fun j hj => .inl (hz j hj (by omega))⟩, fun j h => (show False from h).elim, fun _ h _ => absurd h (by omega)⟩)
      clear hz hx hbel
      go_wp2_with fail
      go_loopw [23] (fun i wq => ∃ (r : Nat) (zs : List Int), i = .int .i64 r ∧ r ≤ l.length ∧ State l r 0 zs ∧ Box wq w.heap.size 3 (intsA zs) ∧ Below w.heap.size w wq) (fun i _ => l.length - (intOf i).toNat)
      case atStart => exact ⟨0, zs, rfl, by omega, Hst.out, Hx.out, Hbel.out⟩
      case round =>
        obtain ⟨r, zs, rfl, hrl, hst, hx, hbel⟩ := hrel
        have Hst := Lib.hid hst
        have Hx := Lib.hid hx
        have Hbel := Lib.hid hbel
        obtain ⟨wo, hwo⟩ : ∃ x, x = wr := ⟨_, rfl⟩
        subst hwo
        clear hst hbel
        by_cases hrt : r < l.length
        · clear hx
          go_wp2_with fail
          go_loopw [27] (fun i wq => ∃ (k : Nat) (zs : List Int), i = .int .i64 k ∧ k ≤ l.length ∧ State l r k zs ∧ Box wq w.heap.size 3 (intsA zs) ∧ Below w.heap.size w wq) (fun i _ => l.length - (intOf i).toNat)
          case atStart => exact ⟨0, zs, rfl, by omega, Hst.out, Hx.out, Hbel.out⟩
          case round =>
            obtain ⟨k, zs, rfl, hk, hst, hx, hbel⟩ := hrel
            have Hst := Lib.hid hst
            have Hx := Lib.hid hx
            have Hbel := Lib.hid hbel
            have hzl := hst.1.1
            by_cases hlt : k < l.length
            · obtain ⟨b, o, a3, c3, rfl, hb1, e0, e1, e2, e3, e4, e5, hrf, _⟩ := type_cells Hr.out hlt hbel
              have hsz := hbel.size
              have BT := Lib.hid (hbel.alloc hbel.size (.cells #[.int .i64 l[k].fKind, .int .i64 l[k].fLong, .int .i64 l[k].fBase, .slice a3 l[k].fFields.length c3, .string l[k].fOwner, .string l[k].fName] 32))
              have BA := (Below.refl wr.heap.size wr).alloc (Nat.le_refl _) (.cells #[.int .i64 l[k].fKind, .int .i64 l[k].fLong, .int .i64 l[k].fBase, .slice a3 l[k].fFields.length c3, .string l[k].fOwner, .string l[k].fName] 32)
              have Hone := Lib.hid (fun zc => sl3One l Hg.out k hlt a3 c3 (some ⟨w.heap.size, 0, none⟩) zc zs _ hst.1 (hrf.below BA) ((hx.alloc (.cells #[.int .i64 l[k].fKind, .int .i64 l[k].fLong, .int .i64 l[k].fBase, .slice a3 l[k].fFields.length c3, .string l[k].fOwner, .string l[k].fName] 32)).nums))
              have Hput := Lib.hid (fun z => State.put (z := z) Hg.out hst hlt)
              have Hxa := Lib.hid (hx.alloc (.cells #[.int .i64 l[k].fKind, .int .i64 l[k].fLong, .int .i64 l[k].fBase, .slice a3 l[k].fFields.length c3, .string l[k].fOwner, .string l[k].fName] 32))
              have hkz : k < zs.length := by omega
              rw [hzl] at Hone
              clear hst hx hbel hrf BA
              go_wp2_with fail
              refine (Hone.out _).mono ?_
              rintro e w3 ⟨z, rfl, hz, hb3⟩
              have Hx3 := Hxa.out.below hb3 Hxa.out.lt
              have x0 := Hx3.cell k
              rw [intsA_at hkz] at x0
              have xf := Hx3.free k
              have Hs4 := Lib.hid (Hput.out z hz)
              have Hx4 := Lib.hid (show Box _ _ _ (intsA (zs.set k z)) from intsA_set zs k z ▸ Hx3.set k (.int .i64 z))
              have Hb4 := Lib.hid ((BT.out.trans (hb3.mono BT.out.size)).setCell (p := ⟨w.heap.size, k, none⟩) (Nat.le_refl _) (.int .i64 z))
              clear hz hb3 Hx3
              generalize zs[k] = z0 at *
              go_wp2_with fail
              exact ⟨⟨k + 1, zs.set k z, by congr 1, by omega, Hs4.out, Hx4.out, Hb4.out⟩, by simp [intOf]; omega⟩
            · have Hs4 := Lib.hid (State.next (show State l r l.length zs by rw [← show k = l.length by omega]; exact Hst.out))
              clear hst hx hbel
              go_wp2_with fail
              exact ⟨⟨r + 1, zs, by congr 1, by omega, Hs4.out, Hx.out, Hbel.out⟩, by simp [intOf]; omega⟩
        · have hnz : n < zs.length := by have := Hst.out.1.1; omega
          have x0 := hx.cell n
          have hget := Hst.out.2.1 n (by rw [show r = l.length by omega]; exact rk_all Hg.out hn)
          rw [intsA_at hnz, (List.getElem?_eq_some_iff.1 hget).2] at x0
          have hzl := Hst.out.1.1
          clear hx hget
          go_wp2_with fail
          go_ret
          exact ⟨rfl, Hbel.out⟩
end Go.Proofs.Ytjbnabjfeepbeaa
