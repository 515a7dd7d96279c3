
/-
  What is proved: contracts of ReadName of the program and of its model, and from them the walk of its law; plain facts on numbers as bytes of seven bits each; What is said: the numbers of the bytes of a text; contracts of NumBytes of the program and of its model, and from them the walk of its law. No condition beside what each theorem states.
-/
import Derived.Test.YtaccifjkeblhpaaGreatName
import Derived.Test.YtaccifjkeblhpaaGreatMem
import Derived.Laws.IdiomStrings
import Derived.Deep.QuietTactic
import Derived.BigQuiet
import Derived.Below
import Derived.Laws.BytesArg
import Derived.WalkSpells
import Derived.Laws.Bits128
namespace Go.Proofs.YtaccifjkeblhpaaGreat
open Go.ChangeShapes Go.WideShapes Go.ChangeAt Go.RowKit

theorem bytesOf (W : World) (s : ByteArray) : (convert 9 64 (.string s)).run Tryz.prog W = .ok (.slice (some ⟨W.heap.size, 0, none⟩) s.size (grownCap W s.size 0 5))
      (W.drew.alloc (.cells (bytesRow s (grownCap W s.size 0 5)) 5 ((bytesRow s (grownCap W s.size 0 5)).size, (bytesRow s (grownCap W s.size 0 5)).size + 1))) :=
  run_bytes_of_string (P := Tryz.prog) W 9 64 5 s Tryz.underlying9 Tryz.underlying64 Tryz.underlying5

/-! The model's reader: a struct of the bytes, a place, and whether something was bad. -/
end Go.Proofs.YtaccifjkeblhpaaGreat

namespace Go.Proofs.YtaccifjkeblhpaaGreat

/-- The bytes of a number, seven bits each, the lowest first. -/
def vb (n : Nat) : List Int := if n < 128 then [(n : Int)] else ((n % 128 + 128 : Nat) : Int) :: vb (n / 128)
termination_by n
decreasing_by omega

theorem vb_lt {n : Nat} (h : n < 128) : vb n = [(n : Int)] := by rw [vb, if_pos h]
theorem vb_ge {n : Nat} (h : 128 ≤ n) : vb n = ((n % 128 + 128 : Nat) : Int) :: vb (n / 128) := by rw [vb, if_neg (by omega)]

theorem vb_len (k : Nat) : ∀ n, n < 128 ^ (k + 1) → (vb n).length ≤ k + 1 := by
  induction k with
  | zero => intro n h; rw [vb_lt (by simpa using h)]; simp
  | succ k ih =>
    intro n h
    by_cases h1 : n < 128
    · rw [vb_lt h1]; simp
    · rw [vb_ge (by omega)]
      have := ih (n / 128) (by rw [Nat.pow_succ] at h; omega)
      simpa using this

def pad (m : Nat) (l : List Int) : List Int := l ++ List.replicate (m - l.length) 0

/-- What a box of five bytes holds behind the bytes l. -/
def boxOf (l : List Int) : Array Value := ((pad 5 l).map (Value.int .u8)).toArray

theorem boxOf_size {l : List Int} (hl : l.length ≤ 5) : (boxOf l).size = 5 := by simp [boxOf, pad]; omega

theorem boxOf_get {l : List Int} {i : Nat} (hl : l.length ≤ 5) (hi : i < 5) : (boxOf l)[i]? = some (.int .u8 (l.getD i 0)) := by
  simp only [boxOf, List.getElem?_toArray, List.getElem?_map, pad]
  by_cases h : i < l.length
  · rw [List.getElem?_append_left h]; simp [h]
  · rw [List.getElem?_append_right (by omega), List.getElem?_replicate, if_pos (by omega)]
    simp [List.getD, List.getElem?_eq_none (show l.length ≤ i by omega)]

theorem boxOf_snoc {l : List Int} (hl : l.length < 5) (c : Int) : (boxOf l).setIfInBounds l.length (.int .u8 c) = boxOf (l ++ [c]) := by
  apply Array.ext_getElem?
  intro i
  by_cases hi : i < 5
  · rw [boxOf_get (by simp; omega) hi, Array.getElem?_setIfInBounds, boxOf_size (by omega)]
    by_cases e : l.length = i
    · subst e; rw [if_pos rfl, if_pos hi]; simp [List.getD]
    · rw [if_neg e, boxOf_get (by omega) hi]
      congr 2
      simp only [List.getD]
      by_cases h : i < l.length
      · rw [List.getElem?_append_left h]
      · rw [List.getElem?_eq_none (by omega), List.getElem?_eq_none (by simp; omega)]
  · rw [Array.getElem?_eq_none (by simp [boxOf_size (show l.length ≤ 5 by omega)]; omega), Array.getElem?_eq_none (by rw [boxOf_size (by simp; omega)]; omega)]

end Go.Proofs.YtaccifjkeblhpaaGreat

namespace Go.Proofs.YtaccifjkeblhpaaGreat
open Go.RowKit

/-- The numbers of bytes. -/
def numsOf (s : ByteArray) : List Int := s.data.toList.map fun b => (b.toNat : Int)
theorem numsOf_len (s : ByteArray) : (numsOf s).length = s.size := by simp [numsOf]
theorem numsOf_at (s : ByteArray) {k : Nat} (h : k < s.size) (h' : k < (numsOf s).length) : (numsOf s)[k] = (s[k].toNat : Int) := by
  simp only [numsOf, List.getElem_map]
  rfl
theorem numsOf_next (s : ByteArray) (k : Nat) (h : k < s.size) : (numsOf s).take k ++ [(s[k].toNat : Int)] = (numsOf s).take (k + 1) := by
  have h' : k < (numsOf s).length := by rw [numsOf_len]; exact h
  rw [List.take_succ_eq_append_getElem h', numsOf_at s h h']
theorem numsOf_take (s : ByteArray) (k : Nat) (h : ¬ k < s.size) : (numsOf s).take k = numsOf s := List.take_of_length_le (by rw [numsOf_len]; omega)
end Go.Proofs.YtaccifjkeblhpaaGreat

namespace Go.Proofs.YtaccifjkeblhpaaGreat
open Go.ChangeShapes Go.WideShapes Go.ChangeAt Go.RowKit

theorem or128 (m : Nat) (h : m < 128) : bits BinOp.or IntKind.i64 (m : Int) 128 = ((m + 128 : Nat) : Int) := by
  have e : bits BinOp.or IntKind.i64 (m : Int) ((128 : Nat) : Int) = ((m ||| 128 : Nat) : Int) := by
    show IntKind.i64.wrap ((BitVec.ofInt 64 (m : Int) ||| BitVec.ofInt 64 ((128 : Nat) : Int)).toNat : Int) = _
    have hx : m ||| 128 < 2 ^ 8 := Nat.or_lt_two_pow (by omega) (by omega)
    rw [BitVec.toNat_or, BitVec.ofInt_natCast, BitVec.ofInt_natCast, BitVec.toNat_ofNat, BitVec.toNat_ofNat, Nat.mod_eq_of_lt (by omega), Nat.mod_eq_of_lt (by omega), IntKind.wrap_i64]
    omega
  have e2 : m ||| 128 = m + 128 := by
    have := Nat.two_pow_add_eq_or_of_lt (i := 7) (b := m) (by omega) 1
    simp only [Nat.mul_one] at this
    rw [Nat.or_comm, ← this]
    omega
  rw [← e2]
  exact e

theorem byteHi (m : Nat) : bits BinOp.or IntKind.i64 (bits BinOp.and IntKind.i64 (m : Int) 127) 128 % 256 = ((m % 128 + 128 : Nat) : Int) := by
  rw [i64_and127]
  have := or128 (m % 128) (by omega)
  rw [show ((m % 128 : Nat) : Int) = (m : Int) % 128 by omega] at this
  rw [this]; omega

set_option maxHeartbeats 1000000 in
theorem iFillBox (g n : Nat) (t : TypeId) (w : World) (hn : n ≤ 2000000000) (hr : Box w g t (boxOf [])) :
    Calls Tryz.prog 139 #[.pointer (some ⟨g, 0, none⟩), .int .i64 n] w fun e w' => e = .returned (.int .i64 (vb n).length) ∧ Box w' g t (boxOf (vb n)) ∧ Only g w w' := by
  have hlen := vb_len 4 n (by omega)
  go_enter Tryz.func139, Tryz.ntmps139
  go_wp2_with fail
  go_loopw [1, 5] (fun f i wr => ∃ (m : Nat) (l : List Int), f = .int .i64 m ∧ i = .int .i64 l.length ∧ m ≤ 2000000000 ∧ vb n = l ++ vb m ∧ Box wr g t (boxOf l) ∧ Only g w wr) (fun f _ _ => (intOf f).toNat)
  case atStart => exact ⟨n, [], rfl, rfl, hn, rfl, hr, Only.refl _ _⟩
  case round =>
    obtain ⟨m, l, rfl, rfl, hm, hv, hb, ho⟩ := hrel
    have hl5 : l.length + (vb m).length ≤ 5 := by rw [← List.length_append, ← hv]; exact hlen
    have hpos : 0 < (vb m).length := by by_cases h : m < 128
                                        · rw [vb_lt h]; simp
                                        · rw [vb_ge (by omega)]; simp
    have hi : l.length < 5 := by omega
    have c := hb.cell l.length
    rw [boxOf_get (by omega) hi] at c
    have f := hb.free l.length
    by_cases h : m < 128
    · have Hv : Hid (vb n = l ++ [(m : Int)]) := by rw [vb_lt (n := m) h] at hv; exact hv
      clear hv
      go_wp2_with fail
      go_ret
      refine ⟨?_, ?_, ho.set _ _⟩
      · rw [Hv.out]; simp
      · rw [Hv.out, ← boxOf_snoc hi]
        exact hb.set _ _
    · have Hv : Hid (vb n = (l ++ [((m % 128 + 128 : Nat) : Int)]) ++ vb (m / 128)) := by rw [vb_ge (n := m) (by omega)] at hv; show _ = _; rw [hv]; simp
      clear hv
      go_wp2_with fail
      refine ⟨⟨m / 128, l ++ [((m % 128 + 128 : Nat) : Int)], by congr 1, by simp, by omega, Hv.out, ?_, ho.set _ _⟩, by simp [intOf]; omega⟩
      rw [byteHi, ← boxOf_snoc hi]
      exact hb.set _ _

/-- append of one element, which lies in a new block of its own, to a row that the call owns. -/
theorem wpList_push {P : Program} {ops : Array Oper} {rest : List Oper} {o : Oper} {a : Act} {Q : Exit → Act → World → Prop} (hgd : o.guard = none) (s x : Operand) (t : TypeId)
    (ho : o.op = .call { callee := .builtin .append, args := #[s, x], argTypes := #[t, t] })
    (base : Nat) (e : TypeId) (i : TypeInfo) (z : Value) (bytes : Nat) (ht : P.underlying t = some (.slice e)) (hi : P.info? e = some i) (hz : i.zero = some z)
    (hsize : i.size = 1) (hby : i.bytes = bytes) (hzs : z.cells.size = 1) (w : World)
    (v : Value) (n : Nat) (xs : List Value) (hs : a.eval s = v) (hown : w.ownsRow base e 1 v n xs) (u : Value) (hx : a.eval x = .slice (some ⟨w.heap.size, 0, none⟩) 1 1) (hu : u.oneCell' = true)
    (h63 : n + 1 ≤ maxLen) (hbytes : (n + 1) * bytes ≤ 140737488355328) (hbase : base ≤ w.heap.size)
    (h : ∀ v' w', w'.ownsRow base e 1 v' (n + 1) (xs ++ [u]) → w.grownBy w' v.ownBlock → wpList P ops Q rest (a.put o.dst v') w') : wpList P ops Q (o :: rest) a (w.alloc (.cells #[u] e)) :=
  wpList_append_own _ hgd s x t ho base e i z 1 bytes ht hi hz hsize hby hzs (by decide) v n xs hs (hown.alloc _) ⟨w.heap.size, 0, none⟩ 1 1 [u] hx rfl (cell_one_new _ _ _)
    (fun y hy => by rw [List.mem_singleton.1 hy]; exact hu) h63 hbytes (by simp; omega) (fun v' w' h1 h2 _ => h v' w' h1 ⟨h2.os, h2.tape, h2.output, by have := h2.size; simp at this; omega, fun k hk hn => (h2.block k (by simp; omega) hn).trans (Below.heap_alloc w _ k hk)⟩)

theorem info8 : (Tryz.prog.info? 5).map (fun i => (i.zero, i.size, i.bytes)) = some (some (.int .u8 0), 1, 1) := by kernel_rfl

/-- The text of a row of bytes that the call owns. -/
theorem convOwn {w : World} {base n : Nat} {v : Value} {l : List Int} (h : w.ownsRow base 5 1 v n (l.map (Value.int .u8))) : (convert 64 9 v).run Tryz.prog w = .ok (.string (strOfNums l)) w := by
  have hl : l.length = n := by simpa using h.1
  rcases h.2 with ⟨rfl, rfl⟩ | ⟨g, cap, cur, rfl, _⟩
  · have : l = [] := List.eq_nil_of_length_eq_zero hl
    subst this
    exact run_convert_bytes_nil w 64 5 Tryz.underlying64 Tryz.underlying5 0 0 9 Tryz.underlying9
  · refine run_convert_bytes_arg w 64 5 Tryz.underlying64 Tryz.underlying5 g 0 n cap l hl (fun i hi => ?_) 9 Tryz.underlying9
    have := h.cellAt i (by omega)
    rw [Nat.zero_add, this]
    simp [hl, hi]

theorem sl1Fold (n : Int) (N : Nat) (w : World) (h1 : -1000000000 ≤ n) (h2 : n ≤ 1000000000) (hN : foldZ n = N) :
    Calls Tryz.prog 130 #[.int .i64 n] w fun e w' => e = .returned (.int .i64 N) ∧ w = w' := by
  by_cases h : n < 0
  · have Hf := Lib.hid (show (N : Int) = -2 * n - 1 by rw [← hN]; unfold foldZ; rw [if_pos h])
    clear hN
    go_enter Tryz.func130, Tryz.ntmps130
    go_wp2
    go_ret
    exact ⟨by rw [Hf.out]; rfl, rfl⟩
  · have Hf := Lib.hid (show (N : Int) = 2 * n by rw [← hN]; unfold foldZ; rw [if_neg h])
    clear hN
    go_enter Tryz.func130, Tryz.ntmps130
    go_wp2
    go_ret
    exact ⟨by rw [Hf.out]; rfl, rfl⟩

set_option maxRecDepth 100000 in
set_option maxHeartbeats 1000000 in
theorem sl1NumBytes (n : Int) (N : Nat) (w : World) (h1 : -1000000000 ≤ n) (h2 : n ≤ 1000000000) (hN0 : foldZ n = N) :
    Calls Tryz.prog 91 #[.int .i64 n] w fun e w' => e = .returned (.string (strOfNums (vb N))) ∧ Below w.heap.size w w' := by
  obtain ⟨i0, hi0, hz0, hz1, hz2⟩ := info_parts info8
  have hbd := foldZ_bd h1 h2
  have hN : N ≤ 2000000000 := by omega
  have HN := Lib.hid hN0
  clear hN0
  go_enter Tryz.func91, Tryz.ntmps91
  go_wp2_with fail
  refine (sl1Fold n N _ h1 h2 HN.out).mono ?_
  rintro e w' ⟨rfl, rfl⟩
  have hlen := vb_len 4 N (by omega)
  clear hbd h1 h2
  go_wp2_with fail
  go_loopw [0, 3] (fun f v wr => ∃ (m : Nat) (l : List Int), f = .int .i64 m ∧ m ≤ 2000000000 ∧ wr.ownsRow w.heap.size 5 1 v l.length (l.map (Value.int .u8)) ∧ vb N = l ++ vb m ∧ Below w.heap.size w wr) (fun f _ _ => (intOf f).toNat)
  case atStart => exact ⟨N, [], rfl, hN, World.ownsRow_nil _ _ _ _, rfl, Below.refl _ _⟩
  case round =>
    rename_i wr v
    obtain ⟨m, l, rfl, hm, hown, hv, hbel⟩ := hrel
    have hl5 : l.length + (vb m).length ≤ 5 := by rw [← List.length_append, ← hv]; exact hlen
    have Hown := Lib.hid hown
    have Hbel := Lib.hid hbel
    have hsz := hbel.size
    by_cases h : m < 128
    · have Hv : Hid (vb N = l ++ [(m : Int)]) := by rw [vb_lt (n := m) h] at hv; exact hv
      clear hv hown hbel
      go_wp2_with (at_builtin; refine wpList_push rfl _ _ 64 rfl w.heap.size 5 i0 (.int .u8 0) 1 Tryz.underlying64 hi0 hz0 hz1 hz2 rfl _ _ _ _ rfl Hown.out _ rfl rfl ?c1 ?c2 ?c3 ?_)
      case c1 => unfold maxLen; omega
      case c2 => omega
      case c3 => exact hsz
      intro v' w1 hown1 hg1
      have hb1 := Hbel.out.grown hg1 hsz (fun k hk => (Hown.out.lt k hk).1)
      have Hb1 := Lib.hid hb1
      have kc := convOwn (w := w1) (v := v') (l := l ++ [(m : Int)]) (n := l.length + 1) (base := w.heap.size) (by simpa using hown1)
      clear hown1 hg1 hb1
      go_wp2_with fail
      go_ret
      exact ⟨by rw [Hv.out]; rfl, Hb1.out⟩
    · have Hv : Hid (vb N = (l ++ [((m % 128 + 128 : Nat) : Int)]) ++ vb (m / 128)) := by rw [vb_ge (n := m) (by omega)] at hv; show _ = _; rw [hv]; simp
      clear hv hown hbel
      go_wp2_with (at_builtin; refine wpList_push rfl _ _ 64 rfl w.heap.size 5 i0 (.int .u8 0) 1 Tryz.underlying64 hi0 hz0 hz1 hz2 rfl _ _ _ _ rfl Hown.out _ rfl rfl ?c1 ?c2 ?c3 ?_)
      case c1 => unfold maxLen; omega
      case c2 => omega
      case c3 => exact hsz
      intro v' w1 hown1 hg1
      have hb1 := Hbel.out.grown hg1 hsz (fun k hk => (Hown.out.lt k hk).1)
      have Hb1 := Lib.hid hb1
      have Ho1 := Lib.hid hown1
      clear hown1 hg1 hb1
      go_wp2_with fail
      exact ⟨⟨m / 128, l ++ [((m % 128 + 128 : Nat) : Int)], by congr 1, by omega, by simpa using Ho1.out, Hv.out, Hb1.out⟩, by simp [intOf]; omega⟩

set_option maxHeartbeats 400000 in
theorem iNumBytes_out (n : Int) (w : World) (h : n < -1000000000 ∨ 1000000000 < n) :
    Calls Tryz.prog 101 #[.int .i64 n] w fun e w' => e = .returned (.tuple #[.string ByteArray.empty, .bool false]) ∧ Below w.heap.size w w' := by
  go_enter Tryz.func101, Tryz.ntmps101
  go_wp2_with (go_at_call 138; refine (iFold_out _ _ h).mono ?_; rintro e w' ⟨rfl, rfl⟩)
  go_ret2
  exact ⟨rfl, Below.refl _ _⟩

theorem size8 (W : World) : (Go.sizeOf 5).run Tryz.prog W = .ok 1 W := by
  obtain ⟨i0, hi0, _, hz1, _⟩ := info_parts info8
  simp [Go.sizeOf, typeInfo, hi0, hz1]

theorem cutBox5 (g L : Nat) (W : World) (h : L ≤ 5) : (Instr.sliceAt 161 (.pointer (some ⟨g, 0, none⟩)) none (some (.int .i64 (L : Int))) none).run Tryz.prog W = .ok (.slice (some ⟨g, 0, none⟩) L 5) W := by
  have h57 : Tryz.prog.arrayLen 161 = 5 := by kernel_rfl
  have he : Tryz.prog.elem 161 = 5 := by kernel_rfl
  have hu : Tryz.prog.underlying 161 = some (.array (Tryz.prog.arrayLen 161) (Tryz.prog.elem 161)) := by kernel_rfl
  have := run_sliceAt_array_h W 161 ⟨g, 0, none⟩ hu .i64 (L : Int) (by omega) (by rw [h57]; omega)
  rw [this, h57, he, size8]
  simp [slicedAt, Result.andThen]
  rfl

set_option maxHeartbeats 400000 in
theorem iNumBytes_in (n : Int) (N : Nat) (w : World) (h1 : -1000000000 ≤ n) (h2 : n ≤ 1000000000) (hN : foldZ n = N) :
    Calls Tryz.prog 101 #[.int .i64 n] w fun e w' => e = .returned (.tuple #[.string (strOfNums (vb N)), .bool true]) ∧ Below w.heap.size w w' := by
  have HF := Lib.hid (fun W => iFold_in n W h1 h2)
  rw [hN] at HF
  go_enter Tryz.func101, Tryz.ntmps101
  go_wp2_with (go_at_call 138; refine (HF.out _).mono ?_; rintro e w' ⟨rfl, rfl⟩)
  refine (iFillBox _ N _ _ (by have := foldZ_bd h1 h2; omega) (Box.new w _ _)).mono ?_
  rintro e w1 ⟨rfl, hr1, ho1⟩
  have hlen := vb_len 4 N (by have := foldZ_bd h1 h2; omega)
  have kc : (convert 64 9 (.slice (some ⟨w.heap.size, 0, none⟩) (vb N).length 5)).run Tryz.prog w1 = .ok (.string (strOfNums (vb N))) w1 :=
    run_convert_bytes_arg w1 64 5 Tryz.underlying64 Tryz.underlying5 w.heap.size 0 (vb N).length 5 (vb N) rfl (fun i hi => by rw [Nat.zero_add, hr1.cell, boxOf_get (by omega) (by omega)]) 9 Tryz.underlying9
  have Ho := Lib.hid ((((Below.refl w.heap.size w).alloc (Nat.le_refl _) _).trans (ho1.below (Nat.le_refl _) (by simp))))
  clear hr1 ho1 hN HF
  generalize (vb N).length = L at *
  have ks := fun W => cutBox5 w.heap.size L W (by omega)
  go_wp2_with fail
  go_ret2
  exact ⟨rfl, Ho.out⟩

end Go.Proofs.YtaccifjkeblhpaaGreat
