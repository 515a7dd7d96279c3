
/-
  What is proved: maps from keys to bools that a call makes itself: what is looked up, what is laid in; maps whose keys are structs of two texts. No condition beside what each theorem states.
-/
import Derived.Test.YtllddjmcemcdhaaGreatMem
import Derived.Test.YtllddjmcemcdhaaGreatRows
import Derived.Maps.Own
import Derived.Maps.OwnOps
import Derived.Maps.OwnSet
import Derived.Maps.Views
import Derived.StringKeys
import Derived.DeepKeys4
namespace Go.Proofs.YtllddjmcemcdhaaGreat
open Go.RowKit Go.Maps Go.WideMaps

theorem zeroBool (w : World) : (zeroValue 4).run Tryz.prog w = .ok (.bool false) w := by kernel_rfl
theorem strKeyed : Keyed Tryz.prog 9 := string_keyed Tryz.underlying9

/-- Block b is a map of at most n entries that tells f of the keys. -/
def BMap (k : TypeId) (w : World) (b n : Nat) (f : Lit → Bool) : Prop :=
  ∃ D : DataW Unit, w.ownsMap Tryz.prog k (plainElem Tryz.prog 4) b n D ∧ IsMap D ∧ ∀ kl, KeysOf Tryz.prog k kl → D.atKey kl (.lit (.bool false)) = .lit (.bool (f kl))

theorem plainElem_bool_inv {P : Program} {e : TypeId} (he : P.underlying e = some .bool) {v : Value} {z : DataW Unit × List MemPlace} (h : plainElem P e v = some z) : ∃ x, v = .bool x ∧ z = (.lit (.bool x), []) := by
  unfold plainElem at h
  rw [he] at h
  cases v <;> simp at h
  exact ⟨_, rfl, h.symm⟩

variable {k : TypeId} {w w' : World} {b n : Nat} {f : Lit → Bool}
theorem BMap.made (w : World) : BMap k (w.alloc (.map #[] 0)) w.heap.size 0 (fun _ => false) := ⟨.map [], World.ownsMap_made w Tryz.prog k _, isMap_empty, fun _ _ => rfl⟩
theorem BMap.lt (h : BMap k w b n f) : b < w.heap.size := by obtain ⟨D, h, _⟩ := h; exact h.lt
theorem BMap.alloc (h : BMap k w b n f) (o : Obj) : BMap k (w.alloc o) b n f := by obtain ⟨D, h, h2⟩ := h; exact ⟨D, h.alloc o, h2⟩
theorem BMap.more {n' : Nat} (h : BMap k w b n f) (hn : n ≤ n') : BMap k w b n' f := by obtain ⟨D, h, h2⟩ := h; exact ⟨D, h.mono hn, h2⟩
theorem BMap.block (h : BMap k w b n f) (hb : w'.heap[b]? = w.heap[b]?) : BMap k w' b n f := by
  obtain ⟨D, ⟨es, clock, h1, h2⟩, h3⟩ := h
  exact ⟨D, ⟨es, clock, hb.trans h1, h2⟩, h3⟩

theorem BMap.look (h : BMap k w b n f) (K : Keyed Tryz.prog k) {t : TypeId} (ht : Tryz.prog.underlying t = some (.map k 4)) {key : Value} {kl : Lit} (hkey : keyOf Tryz.prog k key = some kl) :
    (Instr.lookup t (.map (some b)) key false).run Tryz.prog w = .ok (.bool (f kl)) w := by
  obtain ⟨D, h1, _, h3⟩ := h
  obtain ⟨v, ps, hrun, hv⟩ := h1.lookup K ht (zeroBool w) (plainElem_bool Tryz.underlying4 false) hkey
  obtain ⟨x, rfl, hx⟩ := plainElem_bool_inv Tryz.underlying4 hv
  rw [h3 kl ⟨_, hkey⟩] at hx
  simp only [Prod.mk.injEq, DataW.lit.injEq, Lit.bool.injEq] at hx
  rw [hrun, hx.1]

open Classical in
noncomputable def updB (f : Lit → Bool) (kl : Lit) (x : Bool) : Lit → Bool := fun l => if l = kl then x else f l
theorem updB_same (f : Lit → Bool) (kl : Lit) (x : Bool) : updB f kl x kl = x := by unfold updB; rw [if_pos rfl]
theorem updB_other (f : Lit → Bool) {kl l : Lit} (x : Bool) (h : l ≠ kl) : updB f kl x l = f l := by unfold updB; rw [if_neg h]

theorem BMap.put (h : BMap k w b n f) (K : Keyed Tryz.prog k) {t : TypeId} (ht : Tryz.prog.underlying t = some (.map k 4)) (hn : n < maxLen) {key : Value} {kl : Lit} (hkey : keyOf Tryz.prog k key = some kl) (x : Bool) :
    ∃ w', (Instr.mapUpdate t (.map (some b)) key (.bool x)).run Tryz.prog w = .ok () w' ∧ BMap k w' b (n + 1) (updB f kl x) ∧ w.grownBy w' (some b) := by
  obtain ⟨D, h1, h2, h3⟩ := h
  obtain ⟨w', hrun, r1, r2⟩ := h1.update K ht hn hkey (plainElem_bool Tryz.underlying4 x)
  refine ⟨w', hrun, ⟨_, r1, h2.put _ _, fun l hl => ?_⟩, r2⟩
  by_cases e : l = kl
  · subst e
    rw [atKey_put_same h2 (K.key hkey), updB_same]
  · rw [atKey_put_other e, h3 l hl, updB_other _ _ e]

end Go.Proofs.YtllddjmcemcdhaaGreat

namespace Go.Proofs.YtllddjmcemcdhaaGreat
open Go.RowKit Go.Maps Go.WideMaps

theorem keyOf_two {P : Program} {k s : TypeId} {f0 f1 : Field} (hk : P.underlying k = some (.struct #[f0, f1])) (h0 : f0.type = s) (h1 : f1.type = s) (o0 : f0.offset = 0) (o1 : f1.offset = 1) (n0 : (f0.name != "_") = true) (n1 : (f1.name != "_") = true)
    (hs : P.underlying s = some .string) (hc : P.cellsOf k = 2) (hcs : P.cellsOf s = 1) (hkt : P.keyType k = true) (hsz : 0 < P.types.size) {a b : ByteArray} (ha : a.size ≤ maxLen) (hb : b.size ≤ maxLen) :
    keyOf P k (.agg #[.string a, .string b]) = some (.string (keyBytes [.string a.data.toList, .string b.data.toList])) := by
  obtain ⟨m, hm⟩ : ∃ m, P.types.size = m + 1 := ⟨P.types.size - 1, by omega⟩
  have key : ∀ c : ByteArray, c.size ≤ maxLen → P.keyLits (m + 1) s [.string c] = some [.string c.data.toList] := fun c h => by
    unfold Program.keyLits
    rw [hs]
    simp [h]
  have hl : P.keyLits (P.types.size + 1) k [.string a, .string b] = some [.string a.data.toList, .string b.data.toList] := by
    rw [hm]
    unfold Program.keyLits
    rw [hk]
    simp [hc, n0, n1, h0, h1, o0, o1, hcs, key a ha, key b hb]
  unfold keyOf
  rw [hk]
  simp only [hkt, Value.formed, hk, hc, Bool.true_and]
  rw [if_pos (by rfl)]
  show (P.keyLits (P.types.size + 1) k [.string a, .string b]).map _ = _
  rw [hl]
  rfl

theorem laidOutP : laidOutB Tryz.prog = true := by kernel_rfl
theorem fullKeyed : Keyed Tryz.prog 158 := Keyed.of_law (deep_law_laid laidOutP (m := 2) (by omega) (of_decide_eq_true (by kernel_rfl)) (by kernel_rfl) (by kernel_rfl))
/-- The key of a type's full name. -/
def fullK (a b : ByteArray) : Lit := .string (keyBytes [.string a.data.toList, .string b.data.toList])
theorem fullKey {a b : ByteArray} (ha : a.size ≤ maxLen) (hb : b.size ≤ maxLen) : keyOf Tryz.prog 158 (.agg #[.string a, .string b]) = some (fullK a b) :=
  keyOf_two Tryz.underlying158 rfl rfl rfl rfl (by decide) (by decide) Tryz.underlying9 (by kernel_rfl) (by kernel_rfl) (by kernel_rfl) (of_decide_eq_true (by kernel_rfl)) ha hb
theorem fullK_inj {a b a' b' : ByteArray} (ha : a.size ≤ maxLen) (hb : b.size ≤ maxLen) (ha' : a'.size ≤ maxLen) (hb' : b'.size ≤ maxLen) (h : fullK a b = fullK a' b') : a = a' ∧ b = b' := by
  have h1 := fullKey ha hb
  have h2 := fullKey ha' hb'
  rw [h] at h1
  have h3 := fullKeyed.inj h1 h2
  simpa using h3

end Go.Proofs.YtllddjmcemcdhaaGreat
