
/-
  What is proved: contracts of ReadName of the program and of its model, and from them the walk of its law; plain facts on numbers as bytes of seven bits each; What is said: the numbers of the bytes of a text; contracts of NumBytes of the program and of its model, and from them the walk of its law. No condition beside what each theorem states.
-/
import Derived.Test.YtllddjmcemcdhaaGreatName
import Derived.Test.YtllddjmcemcdhaaGreatMem
import Derived.Laws.IdiomStrings
import Derived.Deep.QuietTactic
import Derived.BigQuiet
import Derived.Below
import Derived.Laws.BytesArg
import Derived.WalkSpells
import Derived.Laws.Bits128
namespace Go.Proofs.YtllddjmcemcdhaaGreat
open Go.ChangeShapes Go.WideShapes Go.ChangeAt Go.RowKit

/-- A text as bytes and back. -/
theorem bytesBack (W : World) (s : ByteArray) (c : Nat) (m : Nat × Nat) : (convert 169 9 (.slice (some ⟨W.heap.size, 0, none⟩) s.size c)).run Tryz.prog (W.alloc (.cells (bytesRow s c) 5 m)).drew =
    .ok (.string s) (W.alloc (.cells (bytesRow s c) 5 m)).drew := by
  have h := run_convert_bytes_back (P := Tryz.prog) (W.alloc (.cells (bytesRow s c) 5 m)).drew 169 9 5 ⟨W.heap.size, 0, none⟩ c s.data.toList Tryz.underlying169 Tryz.underlying5 Tryz.underlying9
    (fun j hj => by
      have hl : s.data.toList.length = s.size := by simp
      have hplain : (⟨W.heap.size, 0, none⟩ : Addr).add j = ⟨W.heap.size, j, none⟩ := by unfold Addr.add; split <;> simp_all
      rw [hplain]
      have hj' : j < s.data.size := by simpa using hj
      show (W.alloc (.cells (bytesRow s c) 5 m)).cell? ⟨W.heap.size, j, none⟩ = _
      rw [World.cell?_alloc_mark]
      have hj2 : j < (s.data.map (fun b => Value.int .u8 b.toNat)).size := by simpa using hj'
      rw [bytesRow, Array.getElem?_append_left hj2]
      rw [Array.getElem?_map, Array.getElem?_eq_getElem hj']
      rfl)
  have e1 : s.data.toList.length = s.size := by simp
  rw [e1] at h
  rw [h]

theorem bytesOf (W : World) (s : ByteArray) : (convert 9 169 (.string s)).run Tryz.prog W = .ok (.slice (some ⟨W.heap.size, 0, none⟩) s.size (grownCap W s.size 0 5))
      (W.drew.alloc (.cells (bytesRow s (grownCap W s.size 0 5)) 5 ((bytesRow s (grownCap W s.size 0 5)).size, (bytesRow s (grownCap W s.size 0 5)).size + 1))) :=
  run_bytes_of_string (P := Tryz.prog) W 9 169 5 s Tryz.underlying9 Tryz.underlying169 Tryz.underlying5

theorem cutAt (b : ByteArray) (k n : Nat) (hb : k + 1 + n ≤ b.size) (W : World) : (Instr.slice 9 (.string b) (some (.int .i64 ((k : Int) + 1))) (some (.int .i64 ((k : Int) + 1 + (n : Int)))) none).run Tryz.prog W = .ok (.string (b.extract (k + 1) (k + 1 + n))) W := by
  have := run_slice_string (P := Tryz.prog) W 9 b .i64 .i64 ((k : Int) + 1) ((k : Int) + 1 + (n : Int)) Tryz.underlying9 (by omega) (by omega) (by omega)
  rw [this, show ((k : Int) + 1).toNat = k + 1 by omega, show ((k : Int) + 1 + (n : Int)).toNat = k + 1 + n by omega]

theorem quietL {P : Program} {f : FuncId} {args : Array Value} {w : World} {n : Nat} {v : Value} (h : Calls P f args (w.drewN n) fun e w' => e = .returned v ∧ w.drewN n = w') :
    Calls P f args (w.drewN n) fun e w' => e = .returned v ∧ ∃ m, w' = w.drewN m := h.mono fun _ _ ⟨he, hm⟩ => ⟨he, n, hm.symm⟩

/-! The model's reader: a struct of the bytes, a place, and whether something was bad. -/
abbrev rd (b : ByteArray) (k : Int) (bad : Bool) : Array Value := #[.string b, .int .i64 k, .bool bad]

/-- The bytes at place k are the name x, up to place m. -/
def isNameAt (b : ByteArray) (k : Nat) (x : ByteArray) (m : Nat) : Prop := ∃ n : Nat, k < b.size ∧ byteAt b k = n ∧ k + 1 + n ≤ b.size ∧ x = b.extract (k + 1) (k + 1 + n) ∧ nameP x ∧ m = k + 1 + n
theorem nameAt_cases (b : ByteArray) (k : Nat) : (∃ x m, isNameAt b k x m) ∨ b.size ≤ k ∨ (∃ n : Nat, k < b.size ∧ byteAt b k = n ∧ b.size < k + 1 + n) ∨ (∃ n : Nat, k < b.size ∧ byteAt b k = n ∧ k + 1 + n ≤ b.size ∧ ¬ nameP (b.extract (k + 1) (k + 1 + n))) := by
  by_cases hk : k < b.size
  · obtain ⟨n, hn⟩ := Int.eq_ofNat_of_zero_le (byteAt_le b k).1
    by_cases hl : k + 1 + n ≤ b.size
    · by_cases hp : nameP (b.extract (k + 1) (k + 1 + n))
      · exact .inl ⟨_, _, n, hk, hn, hl, rfl, hp, rfl⟩
      · exact .inr (.inr (.inr ⟨n, hk, hn, hl, hp⟩))
    · exact .inr (.inr (.inl ⟨n, hk, hn, by omega⟩))
  · exact .inr (.inl (by omega))

end Go.Proofs.YtllddjmcemcdhaaGreat

namespace Go.Proofs.YtllddjmcemcdhaaGreat

/-- The bytes of a number, seven bits each, the lowest first. -/
def vb (n : Nat) : List Int := if n < 128 then [(n : Int)] else ((n % 128 + 128 : Nat) : Int) :: vb (n / 128)
termination_by n
decreasing_by omega

theorem vb_lt {n : Nat} (h : n < 128) : vb n = [(n : Int)] := by rw [vb, if_pos h]
theorem vb_ge {n : Nat} (h : 128 ≤ n) : vb n = ((n % 128 + 128 : Nat) : Int) :: vb (n / 128) := by rw [vb, if_neg (by omega)]

/-- The number of such bytes. -/
def val : List Int → Nat
  | [] => 0
  | c :: l => c.toNat % 128 + 128 * val l

/-- All but the last have 128 added. -/
def Term : List Int → Prop
  | [] => False
  | c :: l => (l = [] ∧ 0 ≤ c ∧ c < 128) ∨ (128 ≤ c ∧ c < 256 ∧ Term l)

theorem vb_term (n : Nat) : Term (vb n) := by
  induction n using Nat.strongRecOn with
  | ind n ih =>
    by_cases h : n < 128
    · rw [vb_lt h]; exact .inl ⟨rfl, by omega, by omega⟩
    · rw [vb_ge (by omega)]; exact .inr ⟨by omega, by omega, ih _ (by omega)⟩

theorem val_vb (n : Nat) : val (vb n) = n := by
  induction n using Nat.strongRecOn with
  | ind n ih =>
    by_cases h : n < 128
    · rw [vb_lt h]; simp [val]; omega
    · rw [vb_ge (by omega), val, ih _ (by omega)]; omega

theorem vb_len (k : Nat) : ∀ n, n < 128 ^ (k + 1) → (vb n).length ≤ k + 1 := by
  induction k with
  | zero => intro n h; rw [vb_lt (by simpa using h)]; simp
  | succ k ih =>
    intro n h
    by_cases h1 : n < 128
    · rw [vb_lt h1]; simp
    · rw [vb_ge (by omega)]
      have := ih (n / 128) (by rw [Nat.pow_succ] at h; omega)
      simpa using this

theorem term_bd : ∀ {l : List Int}, Term l → ∀ c ∈ l, 0 ≤ c ∧ c < 256
  | [], h, _, _ => h.elim
  | c :: l, h, d, hd => by
    rcases h with ⟨rfl, h1, h2⟩ | ⟨h1, h2, h3⟩
    · simp at hd; omega
    · rcases List.mem_cons.1 hd with rfl | hd
      · omega
      · exact term_bd h3 d hd

def pad (m : Nat) (l : List Int) : List Int := l ++ List.replicate (m - l.length) 0

theorem pad_inj : ∀ (m : Nat) (l l' : List Int), Term l → Term l' → l.length ≤ m → l'.length ≤ m → pad m l = pad m l' → l = l'
  | _, [], _, h, _, _, _, _ => h.elim
  | _, _ :: _, [], _, h, _, _, _ => h.elim
  | 0, _ :: _, _ :: _, _, _, h, _, _ => by simp at h
  | m + 1, c :: t, c' :: t', h, h', hl, hl', e => by
    simp only [List.length_cons] at hl hl'
    simp only [pad, List.cons_append, List.length_cons, Nat.add_sub_add_right, List.cons.injEq] at e
    obtain ⟨rfl, e⟩ := e
    rcases h with ⟨rfl, h1, h2⟩ | ⟨h1, h2, h3⟩
    · rcases h' with ⟨rfl, _, _⟩ | ⟨h4, _, _⟩
      · rfl
      · omega
    · rcases h' with ⟨rfl, _, h5⟩ | ⟨_, _, h6⟩
      · omega
      · rw [pad_inj m t t' h3 h6 (by omega) (by omega) e]

/-- What a box of five bytes holds behind the bytes l. -/
def boxOf (l : List Int) : Array Value := ((pad 5 l).map (Value.int .u8)).toArray

theorem boxOf_inj {l l' : List Int} (h : Term l) (h' : Term l') (hl : l.length ≤ 5) (hl' : l'.length ≤ 5) (e : boxOf l = boxOf l') : l = l' := by
  refine pad_inj 5 l l' h h' hl hl' ?_
  have e1 : (pad 5 l).map (Value.int .u8) = (pad 5 l').map (Value.int .u8) := by
    have := congrArg Array.toList e
    simpa [boxOf] using this
  exact List.map_inj_right (fun a b h => by injection h) |>.1 e1

theorem boxOf_size {l : List Int} (hl : l.length ≤ 5) : (boxOf l).size = 5 := by simp [boxOf, pad]; omega

theorem boxOf_get {l : List Int} {i : Nat} (hl : l.length ≤ 5) (hi : i < 5) : (boxOf l)[i]? = some (.int .u8 (l.getD i 0)) := by
  simp only [boxOf, List.getElem?_toArray, List.getElem?_map, pad]
  by_cases h : i < l.length
  · rw [List.getElem?_append_left h]; simp [h]
  · rw [List.getElem?_append_right (by omega), List.getElem?_replicate, if_pos (by omega)]
    simp [List.getD, List.getElem?_eq_none (show l.length ≤ i by omega)]

theorem boxOf_snoc {l : List Int} (hl : l.length < 5) (c : Int) : (boxOf l).setIfInBounds l.length (.int .u8 c) = boxOf (l ++ [c]) := by
  apply Array.ext_getElem?
  intro i
  by_cases hi : i < 5
  · rw [boxOf_get (by simp; omega) hi, Array.getElem?_setIfInBounds, boxOf_size (by omega)]
    by_cases e : l.length = i
    · subst e; rw [if_pos rfl, if_pos hi]; simp [List.getD]
    · rw [if_neg e, boxOf_get (by omega) hi]
      congr 2
      simp only [List.getD]
      by_cases h : i < l.length
      · rw [List.getElem?_append_left h]
      · rw [List.getElem?_eq_none (by omega), List.getElem?_eq_none (by simp; omega)]
  · rw [Array.getElem?_eq_none (by simp [boxOf_size (show l.length ≤ 5 by omega)]; omega), Array.getElem?_eq_none (by rw [boxOf_size (by simp; omega)]; omega)]

theorem strOfNums_inj {l l' : List Int} (h : ∀ c ∈ l, 0 ≤ c ∧ c < 256) (h' : ∀ c ∈ l', 0 ≤ c ∧ c < 256) (e : strOfNums l = strOfNums l') : l = l' := by
  have e1 : l.map (fun n => UInt8.ofNat n.toNat) = l'.map (fun n => UInt8.ofNat n.toNat) := by
    have := congrArg (fun s : ByteArray => s.data.toList) e
    simpa [strOfNums] using this
  clear e
  induction l generalizing l' with
  | nil => cases l' with
    | nil => rfl
    | cons => simp at e1
  | cons c t ih => cases l' with
    | nil => simp at e1
    | cons c' t' =>
      simp only [List.map_cons, List.cons.injEq] at e1
      have b := h c (by simp)
      have b' := h' c' (by simp)
      have : c.toNat = c'.toNat := by
        have := congrArg UInt8.toNat e1.1
        simp only [UInt8.toNat_ofNat'] at this
        omega
      rw [ih (fun d hd => h d (by simp [hd])) (fun d hd => h' d (by simp [hd])) e1.2, show c = c' by omega]

end Go.Proofs.YtllddjmcemcdhaaGreat

namespace Go.Proofs.YtllddjmcemcdhaaGreat
open Go.RowKit

/-- The numbers of bytes. -/
def numsOf (s : ByteArray) : List Int := s.data.toList.map fun b => (b.toNat : Int)
theorem numsOf_len (s : ByteArray) : (numsOf s).length = s.size := by simp [numsOf]
theorem numsOf_at (s : ByteArray) {k : Nat} (h : k < s.size) (h' : k < (numsOf s).length) : (numsOf s)[k] = (s[k].toNat : Int) := by
  simp only [numsOf, List.getElem_map]
  rfl
theorem numsOf_next (s : ByteArray) (k : Nat) (h : k < s.size) : (numsOf s).take k ++ [(s[k].toNat : Int)] = (numsOf s).take (k + 1) := by
  have h' : k < (numsOf s).length := by rw [numsOf_len]; exact h
  rw [List.take_succ_eq_append_getElem h', numsOf_at s h h']
theorem numsOf_take (s : ByteArray) (k : Nat) (h : ¬ k < s.size) : (numsOf s).take k = numsOf s := List.take_of_length_le (by rw [numsOf_len]; omega)
end Go.Proofs.YtllddjmcemcdhaaGreat

namespace Go.Proofs.YtllddjmcemcdhaaGreat
open Go.ChangeShapes Go.WideShapes Go.ChangeAt Go.RowKit

theorem or128 (m : Nat) (h : m < 128) : bits BinOp.or IntKind.i64 (m : Int) 128 = ((m + 128 : Nat) : Int) := by
  have e : bits BinOp.or IntKind.i64 (m : Int) ((128 : Nat) : Int) = ((m ||| 128 : Nat) : Int) := by
    show IntKind.i64.wrap ((BitVec.ofInt 64 (m : Int) ||| BitVec.ofInt 64 ((128 : Nat) : Int)).toNat : Int) = _
    have hx : m ||| 128 < 2 ^ 8 := Nat.or_lt_two_pow (by omega) (by omega)
    rw [BitVec.toNat_or, BitVec.ofInt_natCast, BitVec.ofInt_natCast, BitVec.toNat_ofNat, BitVec.toNat_ofNat, Nat.mod_eq_of_lt (by omega), Nat.mod_eq_of_lt (by omega), IntKind.wrap_i64]
    omega
  have e2 : m ||| 128 = m + 128 := by
    have := Nat.two_pow_add_eq_or_of_lt (i := 7) (b := m) (by omega) 1
    simp only [Nat.mul_one] at this
    rw [Nat.or_comm, ← this]
    omega
  rw [← e2]
  exact e

theorem byteHi (m : Nat) : bits BinOp.or IntKind.i64 (bits BinOp.and IntKind.i64 (m : Int) 127) 128 % 256 = ((m % 128 + 128 : Nat) : Int) := by
  rw [i64_and127]
  have := or128 (m % 128) (by omega)
  rw [show ((m % 128 : Nat) : Int) = (m : Int) % 128 by omega] at this
  rw [this]; omega

/-- append of one element, which lies in a new block of its own, to a row that the call owns. -/
theorem wpList_push {P : Program} {ops : Array Oper} {rest : List Oper} {o : Oper} {a : Act} {Q : Exit → Act → World → Prop} (hgd : o.guard = none) (s x : Operand) (t : TypeId)
    (ho : o.op = .call { callee := .builtin .append, args := #[s, x], argTypes := #[t, t] })
    (base : Nat) (e : TypeId) (i : TypeInfo) (z : Value) (bytes : Nat) (ht : P.underlying t = some (.slice e)) (hi : P.info? e = some i) (hz : i.zero = some z)
    (hsize : i.size = 1) (hby : i.bytes = bytes) (hzs : z.cells.size = 1) (w : World)
    (v : Value) (n : Nat) (xs : List Value) (hs : a.eval s = v) (hown : w.ownsRow base e 1 v n xs) (u : Value) (hx : a.eval x = .slice (some ⟨w.heap.size, 0, none⟩) 1 1) (hu : u.oneCell' = true)
    (h63 : n + 1 ≤ maxLen) (hbytes : (n + 1) * bytes ≤ 140737488355328) (hbase : base ≤ w.heap.size)
    (h : ∀ v' w', w'.ownsRow base e 1 v' (n + 1) (xs ++ [u]) → w.grownBy w' v.ownBlock → wpList P ops Q rest (a.put o.dst v') w') : wpList P ops Q (o :: rest) a (w.alloc (.cells #[u] e)) :=
  wpList_append_own _ hgd s x t ho base e i z 1 bytes ht hi hz hsize hby hzs (by decide) v n xs hs (hown.alloc _) ⟨w.heap.size, 0, none⟩ 1 1 [u] hx rfl (cell_one_new _ _ _)
    (fun y hy => by rw [List.mem_singleton.1 hy]; exact hu) h63 hbytes (by simp; omega) (fun v' w' h1 h2 _ => h v' w' h1 ⟨h2.os, h2.tape, h2.output, by have := h2.size; simp at this; omega, fun k hk hn => (h2.block k (by simp; omega) hn).trans (Below.heap_alloc w _ k hk)⟩)

theorem boxOf_nil : boxOf [] = #[.int .u8 0, .int .u8 0, .int .u8 0, .int .u8 0, .int .u8 0] := rfl

theorem info8 : (Tryz.prog.info? 5).map (fun i => (i.zero, i.size, i.bytes)) = some (some (.int .u8 0), 1, 1) := by kernel_rfl

/-- The text of a row of bytes that the call owns. -/
theorem convOwn {w : World} {base n : Nat} {v : Value} {l : List Int} (h : w.ownsRow base 5 1 v n (l.map (Value.int .u8))) : (convert 169 9 v).run Tryz.prog w = .ok (.string (strOfNums l)) w := by
  have hl : l.length = n := by simpa using h.1
  rcases h.2 with ⟨rfl, rfl⟩ | ⟨g, cap, cur, rfl, _⟩
  · have : l = [] := List.eq_nil_of_length_eq_zero hl
    subst this
    exact run_convert_bytes_nil w 169 5 Tryz.underlying169 Tryz.underlying5 0 0 9 Tryz.underlying9
  · refine run_convert_bytes_arg w 169 5 Tryz.underlying169 Tryz.underlying5 g 0 n cap l hl (fun i hi => ?_) 9 Tryz.underlying9
    have := h.cellAt i (by omega)
    rw [Nat.zero_add, this]
    simp [hl, hi]

theorem size8 (W : World) : (Go.sizeOf 5).run Tryz.prog W = .ok 1 W := by
  obtain ⟨i0, hi0, _, hz1, _⟩ := info_parts info8
  simp [Go.sizeOf, typeInfo, hi0, hz1]

end Go.Proofs.YtllddjmcemcdhaaGreat
