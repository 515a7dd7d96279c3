
/-
  What is proved: contracts of strings.Builder's writing methods at this program (the shelf's own do not lie down here). No condition beside what each theorem states.
-/
import Derived.Test.YtggpecddhileoaaDoorNum
import Derived.Test.YtggpecddhileoaaDoorMem
import Derived.Lib.Builder
import Derived.Lib.AppendStr
import Derived.Lib.Walk
import Derived.Laws.Externs
import Derived.Laws.IdiomCopy
import Derived.Shelf.Strings.Builder1
namespace Go.Proofs.YtggpecddhileoaaDoor
open Go.ChangeShapes Go.WideShapes Go.ChangeAt Go.RowKit

abbrev tB : TypeId := 61
abbrev t8 : TypeId := 5
theorem infoB : (Tryd.prog.info? tB).map (·.size) = some 2 := by kernel_rfl
theorem liesB : liesAt Tryd.prog Tryd.prog.depth tB (2 / Tryd.prog.cellsOf tB) 0 tB 1 = true := by kernel_rfl
theorem info8 : (Tryd.prog.info? t8).map (fun i => (i.zero, i.size, i.bytes)) = some (some (.int .u8 0), 1, 1) := by kernel_rfl

set_option maxRecDepth 100000 in
set_option maxHeartbeats 2000000 in
theorem bCopyUsed (b : Nat) (w : World) (h0 : w.cell? ⟨b, 0, none⟩ = some (.pointer (some ⟨b, 0, none⟩))) :
    Calls Tryd.prog 62 #[.pointer (some ⟨b, 0, none⟩)] w fun e w' => e = .returned (.tuple #[]) ∧ w' = w := by
  obtain ⟨j, hj, _⟩ := Option.map_eq_some_iff.1 infoB
  go_enter Tryd.func62, Tryd.ntmps62
  go_wp2_with fail
  rw [Lib.run_neq_ptr_same w _ Tryd.underlying59 hj]
  go_wp2_with fail
  go_end0
  exact ⟨rfl, rfl⟩

set_option maxRecDepth 100000 in
set_option maxHeartbeats 2000000 in
theorem bCopyFresh (b : Nat) (w : World) (h0 : w.cell? ⟨b, 0, none⟩ = some (.pointer none)) (hsh : w.shape? b = some (tB, 2)) (hfz : w.frozen? ⟨b, 0, none⟩ = false) :
    Calls Tryd.prog 62 #[.pointer (some ⟨b, 0, none⟩)] w fun e w' => e = .returned (.tuple #[]) ∧ w' = w.setCell ⟨b, 0, none⟩ (.pointer (some ⟨b, 0, none⟩)) := by
  obtain ⟨j, hj, hjs⟩ := Option.map_eq_some_iff.1 infoB
  go_enter Tryd.func62, Tryd.ntmps62
  go_wp2_with fail
  rw [Lib.run_to_unsafe w ⟨b, 0, none⟩ Tryd.underlying59 Tryd.underlying86 hj (by rw [hjs]; decide) hsh (Nat.zero_lt_succ 1)]
  simp only [Result.andThen]
  rw [Oper.upon_value]
  go_wp2_with fail
  rw [run_callFunc_extern Tryd.func69 (by kernel_rfl) (by kernel_rfl) (by kernel_rfl) (e := Extern.AbiNoEscape.same) (by kernel_rfl)]
  rw [Lib.run_noEscape]
  simp only [Result.andThen]
  rw [Oper.upon_value]
  go_wp2_with fail
  rw [Lib.run_from_unsafe w ⟨b, 0, none⟩ Tryd.underlying86 Tryd.underlying59 hj hsh liesB]
  simp only [Result.andThen]
  rw [Oper.upon_value]
  go_wp2_with fail
  go_end0
  exact ⟨rfl, rfl⟩

theorem builder_lt {w : World} {b : Nat} {o : Obj} (h : w.heap[b]? = some o) : b < w.heap.size := by
  by_cases hb : b < w.heap.size
  · exact hb
  · rw [Array.getElem?_eq_none (by omega)] at h; cases h

/-- The builder's bytes lie ahead of block N. -/
def RowUnder (b N : Nat) (w : World) : Prop := ∀ p v, w.heap[b]? = some (.cells #[p, v] tB (0, 0)) → ∀ k, v.ownBlock = some k → k < N

theorem bCopy (B b N : Nat) (bs : List Value) (w : World) (h : Lib.IsBuilder tB t8 B b bs w) (hN : RowUnder b N w) :
    Calls Tryd.prog 62 #[.pointer (some ⟨b, 0, none⟩)] w fun e w' => e = .returned (.tuple #[]) ∧ (Lib.BuilderAt tB t8 B b (.pointer (some ⟨b, 0, none⟩)) bs w' ∧ Below B w w' ∧ RowUnder b N w' ∧ w'.heap.size = w.heap.size ∧ ∀ k, k ≠ b → w'.heap[k]? = w.heap[k]?) := by
  rcases h with h | h
  · refine (bCopyFresh b w h.cell0 h.shape h.frozen0).mono ?_
    rintro e w' ⟨rfl, rfl⟩
    refine ⟨rfl, h.used _, (Below.refl B w).setCell (p := ⟨b, 0, none⟩) h.1 _, fun p v hv k hk => ?_, by simp [World.setCell], fun k hk => Below.heap_setCell w ⟨b, 0, none⟩ _ k hk⟩
    obtain ⟨_, v0, hb0, _⟩ := h
    have h1 := Box.set (w := w) (g := b) (t := tB) (cs := #[.pointer none, v0]) hb0 0 (.pointer (some ⟨b, 0, none⟩))
    unfold Box at h1
    rw [h1] at hv
    simp at hv
    exact hN _ _ hb0 k (by rw [hv.2]; exact hk)
  · refine (bCopyUsed b w h.cell0).mono ?_
    rintro e w' ⟨rfl, rfl⟩
    exact ⟨rfl, h, Below.refl B _, hN, rfl, fun _ _ => rfl⟩

set_option maxRecDepth 100000 in
set_option maxHeartbeats 4000000 in
/-- WriteByte, of a builder that the call has made. -/
theorem bWriteByte (B b N : Nat) (bs : List Value) (c : Int) (w : World) (h : Lib.IsBuilder tB t8 B b bs w) (hlen : bs.length + 1 ≤ 140737488355328) (hBw : B ≤ w.heap.size) (hN : RowUnder b N w) (hbN : b < N) :
    Calls Tryd.prog 37 #[.pointer (some ⟨b, 0, none⟩), .int .u8 c] w fun e w' => e = .returned .nilIface ∧ (Lib.BuilderAt tB t8 B b (.pointer (some ⟨b, 0, none⟩)) (bs ++ [.int .u8 c]) w' ∧ Below B w w' ∧ ∀ k, N ≤ k → k < w.heap.size → w'.heap[k]? = w.heap[k]?) := by
  obtain ⟨i0, hi, hz0, hz1, hz2⟩ := info_parts info8
  go_enter Tryd.func37, Tryd.ntmps37
  go_wp2_with fail
  refine (bCopy B b N bs _ h hN).mono ?_
  rintro e w1 ⟨rfl, h1, hb1, hN1, hs11, hoth⟩
  have HN1 := Lib.hid hN1
  have Hoth := Lib.hid hoth
  have Hs11 := Lib.hid hs11
  clear hN1 hoth hs11
  obtain ⟨hB, v, hbk, hown, hne⟩ := h1
  have c0 : w1.cell? ⟨b, 0, none⟩ = some (.pointer (some ⟨b, 0, none⟩)) := by rw [Lib.cell_of_heap hbk]; rfl
  have c1 : w1.cell? ⟨b, 1, none⟩ = some v := by rw [Lib.cell_of_heap hbk]; rfl
  have hs1 := hb1.size
  go_wp2_with (at_builtin; refine wpList_append_own _ rfl _ _ 22 rfl B t8 i0 (.int .u8 0) 1 1 Tryd.underlying22 hi hz0 hz1 hz2 rfl (by decide) _ _ _ rfl (hown.alloc _) ⟨w1.heap.size, 0, none⟩ 1 1 [.int .u8 c] rfl rfl ?c1 ?c2 ?c3 ?c4 ?c5 ?_)
  case c1 =>
    intro j u hj
    match j, hj with
    | 0, hj => simp at hj; subst hj; simp [Addr.add]
  case c2 => intro u hu; simp at hu; subst hu; rfl
  case c3 => unfold maxLen; omega
  case c4 => omega
  case c5 => simp; omega
  intro v' w2 hown' hgrow _
  have hlt := builder_lt hbk
  have hb2 : w2.heap[b]? = some (.cells #[.pointer (some ⟨b, 0, none⟩), v] tB (0, 0)) := by
    rw [hgrow.block b (by simp; omega) (fun e => hne e.symm), Lib.alloc_old w1 _ b hlt]
    exact hbk
  have d0 : w2.cell? ⟨b, 0, none⟩ = some (.pointer (some ⟨b, 0, none⟩)) := by rw [Lib.cell_of_heap hb2]; rfl
  have d1 : w2.cell? ⟨b, 1, none⟩ = some v := by rw [Lib.cell_of_heap hb2]; rfl
  have f1 : w2.frozen? ⟨b, 1, none⟩ = false := Lib.frozen_of_heap hb2 1
  obtain ⟨g, cap, rfl⟩ : ∃ g cap, v' = .slice (some ⟨g, 0, none⟩) (bs.length + 1) cap := by
    rcases hown'.2 with ⟨_, h0⟩ | ⟨g, cap, cur, hv, _⟩
    · omega
    · exact ⟨g, cap, hv⟩
  go_wp2_with fail
  go_ret
  refine ⟨rfl, ?_, ?_, fun k hk hkl => ?_⟩
  · exact Lib.BuilderAt.put (T := tB) (e := t8) hB hb2 (bs' := bs ++ [.int .u8 c]) (by simpa using hown') (by decide)
  rotate_left
  · have hs11 := Hs11.out
    rw [Below.heap_setCell _ ⟨b, 1, none⟩ _ k (show k ≠ b by omega), hgrow.block k (by simp; omega) (fun e => by have := HN1.out _ _ hbk k e.symm; omega), Lib.alloc_old w1 _ k (by omega)]
    exact Hoth.out k (by omega)
  · exact ((hb1.alloc (by omega) _).grown hgrow (by simp; omega) (fun k hk => (hown.lt k hk).1)).setCell (p := ⟨b, 1, none⟩) hB _

set_option maxRecDepth 100000 in
set_option maxHeartbeats 4000000 in
/-- WriteString, of a builder that the call has made. -/
theorem bWriteString (B b N : Nat) (bs : List Value) (s : ByteArray) (w : World) (h : Lib.IsBuilder tB t8 B b bs w) (hlen : bs.length + s.size ≤ 140737488355328) (hBw : B ≤ w.heap.size) (hN : RowUnder b N w) (hbN : b < N) :
    Calls Tryd.prog 38 #[.pointer (some ⟨b, 0, none⟩), .string s] w fun e w' => e = .returned (.tuple #[.int .i64 s.size, .nilIface]) ∧ (Lib.BuilderAt tB t8 B b (.pointer (some ⟨b, 0, none⟩)) (bs ++ Lib.strCells s) w' ∧ Below B w w' ∧ ∀ k, N ≤ k → k < w.heap.size → w'.heap[k]? = w.heap[k]?) := by
  obtain ⟨i0, hi, hz0, hz1, hz2⟩ := info_parts info8
  go_enter Tryd.func38, Tryd.ntmps38
  go_wp2_with fail
  refine (bCopy B b N bs _ h hN).mono ?_
  rintro e w1 ⟨rfl, h1, hb1, hN1, hs11, hoth⟩
  have HN1 := Lib.hid hN1
  have Hoth := Lib.hid hoth
  have Hs11 := Lib.hid hs11
  clear hN1 hoth hs11
  obtain ⟨hB, v, hbk, hown, hne⟩ := h1
  have c0 : w1.cell? ⟨b, 0, none⟩ = some (.pointer (some ⟨b, 0, none⟩)) := by rw [Lib.cell_of_heap hbk]; rfl
  have c1 : w1.cell? ⟨b, 1, none⟩ = some v := by rw [Lib.cell_of_heap hbk]; rfl
  have hs1 := hb1.size
  go_wp2_with (at_builtin; refine Lib.wpList_append_own_string _ rfl _ _ 22 9 rfl B t8 i0 Tryd.underlying22 Tryd.underlying9 hi hz0 hz1 hz2 _ _ _ rfl hown s rfl ?c3 ?c4 ?c5 ?_)
  case c3 => unfold maxLen; omega
  case c4 => omega
  case c5 => omega
  intro v' w2 hown' hgrow _
  have hlt := builder_lt hbk
  have hb2 : w2.heap[b]? = some (.cells #[.pointer (some ⟨b, 0, none⟩), v] tB (0, 0)) := by
    rw [hgrow.block b hlt (fun e => hne e.symm)]
    exact hbk
  have d0 : w2.cell? ⟨b, 0, none⟩ = some (.pointer (some ⟨b, 0, none⟩)) := by rw [Lib.cell_of_heap hb2]; rfl
  have d1 : w2.cell? ⟨b, 1, none⟩ = some v := by rw [Lib.cell_of_heap hb2]; rfl
  have f1 : w2.frozen? ⟨b, 1, none⟩ = false := Lib.frozen_of_heap hb2 1
  obtain ⟨ao, n', cap, rfl⟩ : ∃ ao n' cap, v' = .slice ao n' cap := by
    rcases hown'.2 with ⟨hv, _⟩ | ⟨g, cap, cur, hv, _⟩
    · exact ⟨_, _, _, hv⟩
    · exact ⟨_, _, _, hv⟩
  go_wp2_with fail
  go_ret2
  refine ⟨rfl, ?_, ?_, fun k hk hkl => ?_⟩
  · exact Lib.BuilderAt.put (T := tB) (e := t8) hB hb2 (bs' := bs ++ Lib.strCells s) (by simpa [Lib.strCells_length] using hown') (by decide)
  rotate_left
  · have hs11 := Hs11.out
    rw [Below.heap_setCell _ ⟨b, 1, none⟩ _ k (show k ≠ b by omega), hgrow.block k (by omega) (fun e => by have := HN1.out _ _ hbk k e.symm; omega)]
    exact Hoth.out k (by omega)
  · exact (hb1.grown hgrow (by omega) (fun k hk => (hown.lt k hk).1)).setCell (p := ⟨b, 1, none⟩) hB _

theorem builder_alloc {T e : TypeId} {B b : Nat} {bs : List Value} {w : World} (h : Lib.IsBuilder T e B b bs w) (o : Obj) : Lib.IsBuilder T e B b bs (w.alloc o) := by
  have one : ∀ p, Lib.BuilderAt T e B b p bs w → Lib.BuilderAt T e B b p bs (w.alloc o) := fun p h => by
    have hl := h.lt
    obtain ⟨hB, v, hb, hown, hne⟩ := h
    exact ⟨hB, v, (Lib.alloc_old w o b hl).trans hb, hown.alloc o, hne⟩
  exact h.imp (one _) (one _)

theorem builder_under {B b : Nat} {bs : List Value} {w : World} (h : Lib.IsBuilder tB t8 B b bs w) : b < w.heap.size ∧ RowUnder b w.heap.size w := by
  have one : ∀ p, Lib.BuilderAt tB t8 B b p bs w → b < w.heap.size ∧ RowUnder b w.heap.size w := fun p h => by
    have hl := h.lt
    obtain ⟨hB, v, hb, hown, hne⟩ := h
    refine ⟨hl, fun p' v' hv k hk => ?_⟩
    rw [hb] at hv
    simp at hv
    obtain ⟨_, rfl⟩ := hv
    exact (hown.lt k hk).2
  exact h.elim (one _) (one _)

theorem under_alloc {b N : Nat} {w : World} (h : RowUnder b N w) (hb : b < w.heap.size) (o : Obj) : RowUnder b N (w.alloc o) := fun p v hv k hk => h p v ((Lib.alloc_old w o b hb).symm.trans hv) k hk

end Go.Proofs.YtggpecddhileoaaDoor
