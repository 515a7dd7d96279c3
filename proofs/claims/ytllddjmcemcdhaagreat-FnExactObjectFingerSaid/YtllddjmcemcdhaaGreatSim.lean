
/-
  What is proved: What is said: a record, its Base, the Base of that, and so on: of types that are good this comes to an end; What is said: types of two tables that are alike, as pairs that are closed; what a walk over pairs keeps; keys of two numbers. No condition beside what each theorem states.
-/
import Derived.Test.YtllddjmcemcdhaaGreatIGood
import Derived.Test.YtllddjmcemcdhaaGreatBMap
namespace Go.Proofs.YtllddjmcemcdhaaGreat
open Go.ChangeShapes Go.WideShapes Go.ChangeAt Go.RowKit

def baseZ (l : List TypeD) (x : Int) : Int := if h : 0 ≤ x ∧ x.toNat < l.length then l[x.toNat].fBase else -1
theorem baseZ_in {l : List TypeD} {k : Nat} (h : k < l.length) : baseZ l (k : Int) = l[k].fBase := by
  unfold baseZ
  rw [dif_pos ⟨by omega, by omega⟩]
  simp
theorem kind5 {l : List TypeD} {x : Int} (h : kindZ l x = 5) : ∃ k : Nat, x = (k : Int) ∧ ∃ hk : k < l.length, l[k].fKind = 5 := by
  have hr := kindZ_range (l := l) (x := x) (by omega)
  obtain ⟨k, rfl⟩ := Int.eq_ofNat_of_zero_le hr.1
  have hk : k < l.length := by omega
  exact ⟨k, rfl, hk, by rw [← kindZ_in hk]; exact h⟩
/-- The Base of a record is none or a record. -/
theorem near.base {l : List TypeD} (h : near l) {k : Nat} (hk : k < l.length) (h5 : l[k].fKind = 5) : l[k].fBase = -1 ∨ kindZ l l[k].fBase = 5 := by
  rcases h.ok k hk with ⟨h3, hb⟩ | ⟨_, ho⟩
  · have := hb.1; omega
  · rcases ho.2 with ⟨q, _⟩ | ⟨_, _, b, _⟩ | ⟨q, _⟩
    · omega
    · exact b
    · omega

def ups (l : List TypeD) : Nat → Int → List Int
  | 0, _ => []
  | f + 1, x => if kindZ l x = 5 then x :: ups l f (baseZ l x) else []
def chain (l : List TypeD) (x : Int) : List Int := ups l 25 x

theorem Reach.trans {l : List TypeD} {steps : TypeD → List Int} {st : List Int} {n : Nat} (hn : n < l.length) (h : Reach l steps st n) {m : Nat} (h2 : Reach l steps (steps l[n]) m) : Reach l steps st m := by
  induction h2 with
  | start hm => exact .step hn h hm
  | step hl _ hm ih => exact .step hl ih hm

theorem ups_reach {l : List TypeD} : ∀ (f : Nat) (k : Nat) (hk : k < l.length) (_ : l[k].fKind = 5), ∀ y ∈ ups l f (baseZ l (k : Int)), ∃ j : Nat, y = (j : Int) ∧ Reach l insideD (insideD l[k]) j := by
  intro f
  induction f with
  | zero => intro k hk _ y hy; cases hy
  | succ f ih =>
    intro k hk h5 y hy
    unfold ups at hy
    split at hy
    · rename_i h
      obtain ⟨j, e, hj, hj5⟩ := kind5 h
      have hb : (j : Int) ∈ insideD l[k] := by
        rw [baseZ_in hk] at e
        unfold insideD partsD
        rw [if_neg (by omega), if_neg (by omega), e]
        simp
      have h0 : Reach l insideD (insideD l[k]) j := .start hb
      rcases List.mem_cons.1 hy with h' | h'
      · exact ⟨j, h'.trans e, h0⟩
      · rw [e] at h'
        obtain ⟨i, e', hi⟩ := ih j hj hj5 y h'
        exact ⟨i, e', Reach.trans hj h0 hi⟩
    · cases hy
theorem ups_kind {l : List TypeD} : ∀ (f : Nat) (x : Int), ∀ y ∈ ups l f x, kindZ l y = 5 := by
  intro f
  induction f with
  | zero => intro x y hy; cases hy
  | succ f ih =>
    intro x y hy
    unfold ups at hy
    split at hy
    · rename_i h
      rcases List.mem_cons.1 hy with h' | h'
      · rw [h']; exact h
      · exact ih _ y h'
    · cases hy
theorem ups_nodup {l : List TypeD} (hg : good l) : ∀ (f : Nat) (x : Int), (ups l f x).Nodup := by
  intro f
  induction f with
  | zero => intro x; exact List.nodup_nil
  | succ f ih =>
    intro x
    unfold ups
    split
    · rename_i h
      refine List.nodup_cons.2 ⟨fun hx => ?_, ih _⟩
      obtain ⟨k, rfl, hk, h5⟩ := kind5 h
      obtain ⟨j, e, hj⟩ := ups_reach f k hk h5 _ hx
      have : k = j := by omega
      subst this
      exact hg.2 k hk ⟨hk, hj⟩
    · exact List.nodup_nil
theorem nodup_most : ∀ (n : Nat) (L : List Int), L.Nodup → (∀ x ∈ L, 0 ≤ x ∧ x < (n : Int)) → L.length ≤ n := by
  intro n
  induction n with
  | zero =>
    intro L _ h
    cases L with
    | nil => simp
    | cons x L => have := h x (by simp); omega
  | succ n ih =>
    intro L hL h
    by_cases hm : (n : Int) ∈ L
    · have := ih (L.erase (n : Int)) (hL.erase _) (fun x hx => by
        have h1 := (List.Nodup.mem_erase_iff hL).1 hx
        have h2 := h x h1.2
        have h3 := h1.1
        omega)
      rw [List.length_erase_of_mem hm] at this
      omega
    · have := ih L hL (fun x hx => by
        have h2 := h x hx
        have h3 : x ≠ (n : Int) := fun e => hm (e ▸ hx)
        omega)
      omega
theorem ups_len {l : List TypeD} (hg : good l) (f : Nat) (x : Int) : (ups l f x).length ≤ 24 := by
  have := nodup_most l.length _ (ups_nodup hg f x) (fun y hy => kindZ_range (by rw [ups_kind f x y hy]; decide))
  have := hg.1.most
  omega
theorem ups_succ (l : List TypeD) (f : Nat) (x : Int) : ups l (f + 1) x = if kindZ l x = 5 then x :: ups l f (baseZ l x) else [] := rfl
theorem ups_more {l : List TypeD} : ∀ (f : Nat) (x : Int), (ups l f x).length < f → ups l (f + 1) x = ups l f x := by
  intro f
  induction f with
  | zero => intro x h; omega
  | succ f ih =>
    intro x h
    rw [ups_succ l f x] at h
    rw [ups_succ l (f + 1) x, ups_succ l f x]
    split
    · rename_i h5
      rw [if_pos h5] at h
      rw [ih _ (by simp only [List.length_cons] at h; omega)]
    · rfl
theorem chain_cons {l : List TypeD} (hg : good l) {x : Int} (h : kindZ l x = 5) : chain l x = x :: chain l (baseZ l x) := by
  have h1 : ups l 25 x = x :: ups l 24 (baseZ l x) := by rw [ups, if_pos h]
  have h2 := ups_len hg 25 x
  rw [h1, List.length_cons] at h2
  unfold chain
  rw [h1, ups_more 24 _ (by omega)]
theorem chain_end {l : List TypeD} {x : Int} (h : kindZ l x ≠ 5) : chain l x = [] := by
  unfold chain ups
  rw [if_neg h]
theorem chain_less {l : List TypeD} (hg : good l) {x : Int} (h : kindZ l x = 5) : (chain l (baseZ l x)).length < (chain l x).length := by
  rw [chain_cons hg h]; simp
theorem chain_len {l : List TypeD} (hg : good l) (x : Int) : (chain l x).length ≤ 24 := ups_len hg 25 x
theorem chain_kind {l : List TypeD} {x y : Int} (h : y ∈ chain l x) : kindZ l y = 5 := ups_kind 25 x y h
end Go.Proofs.YtllddjmcemcdhaaGreat

namespace Go.Proofs.YtllddjmcemcdhaaGreat
open Go.ChangeShapes Go.WideShapes Go.ChangeAt Go.RowKit Go.Maps Go.WideMaps

def headsEq (t u : TypeD) : Prop := t.fOwner = u.fOwner ∧ t.fName = u.fName ∧ t.fKind = u.fKind ∧ t.fLong = u.fLong ∧ t.fFields.length = u.fFields.length ∧ (t.fBase = -1 ↔ u.fBase = -1)
def Parts (t u : TypeD) (H : Int → Int → Prop) : Prop := (∀ i (h : i < t.fFields.length) (h' : i < u.fFields.length), t.fFields[i].fName = u.fFields[i].fName ∧ t.fFields[i].fMark = u.fFields[i].fMark ∧ H t.fFields[i].fType u.fFields[i].fType) ∧ (t.fBase ≠ -1 → H t.fBase u.fBase)
def Closed (A B : List TypeD) (H : Int → Int → Prop) (x y : Int) : Prop := ∃ (m n : Nat) (hm : m < A.length) (hn : n < B.length), x = (m : Int) ∧ y = (n : Int) ∧ headsEq A[m] B[n] ∧ Parts A[m] B[n] H
def Sim (A B : List TypeD) (x y : Int) : Prop := ∃ H : Int → Int → Prop, H x y ∧ ∀ p q, H p q → Closed A B H p q

theorem Closed.mono {A B : List TypeD} {H H' : Int → Int → Prop} {x y : Int} (h : Closed A B H x y) (hh : ∀ p q, H p q → H' p q) : Closed A B H' x y := by
  obtain ⟨m, n, hm, hn, e1, e2, h1, h2, h3⟩ := h
  exact ⟨m, n, hm, hn, e1, e2, h1, fun i h h' => ⟨(h2 i h h').1, (h2 i h h').2.1, hh _ _ (h2 i h h').2.2⟩, fun h => hh _ _ (h3 h)⟩
theorem Sim.closed {A B : List TypeD} {m n : Nat} (hm : m < A.length) (hn : n < B.length) (h : Sim A B (m : Int) (n : Int)) : headsEq A[m] B[n] ∧ Parts A[m] B[n] (Sim A B) := by
  obtain ⟨H, hxy, hc⟩ := h
  obtain ⟨m', n', hm', hn', e1, e2, h1, h2, h3⟩ := hc _ _ hxy
  obtain rfl : m = m' := by omega
  obtain rfl : n = n' := by omega
  exact ⟨h1, fun i h h' => ⟨(h2 i h h').1, (h2 i h h').2.1, H, (h2 i h h').2.2, hc⟩, fun h => ⟨H, h3 h, hc⟩⟩

def inTables (A B : List TypeD) (p : Int × Int) : Prop := (0 ≤ p.1 ∧ p.1 < (A.length : Int)) ∧ 0 ≤ p.2 ∧ p.2 < (B.length : Int)
/-- The pairs that are held. -/
structure Held (A B : List TypeD) (L : List (Int × Int)) : Prop where
  here : ∀ p ∈ L, inTables A B p
  once : L.Nodup
/-- What a walk over pairs makes of those that are held. -/
structure Grew (A B : List TypeD) (L L' : List (Int × Int)) : Prop where
  held : Held A B L'
  old : ∀ p ∈ L, p ∈ L'
  new : ∀ p ∈ L', p ∈ L ∨ Closed A B (fun x y => (x, y) ∈ L') p.1 p.2
  len : L.length ≤ L'.length
theorem Grew.refl {A B : List TypeD} {L : List (Int × Int)} (h : Held A B L) : Grew A B L L := ⟨h, fun _ h => h, fun _ h => .inl h, Nat.le_refl _⟩
theorem Grew.trans {A B : List TypeD} {L L' L'' : List (Int × Int)} (h : Grew A B L L') (h' : Grew A B L' L'') : Grew A B L L'' :=
  ⟨h'.held, fun p hp => h'.old p (h.old p hp), fun p hp => by
    rcases h'.new p hp with h1 | h1
    · rcases h.new p h1 with h2 | h2
      · exact .inl h2
      · exact .inr (h2.mono (fun x y hxy => h'.old _ hxy))
    · exact .inr h1, Nat.le_trans h.len h'.len⟩
/-- A pair was laid in ahead of its parts, and these were walked. -/
theorem Grew.pair {A B : List TypeD} {L L' : List (Int × Int)} {x y : Int} (h : Grew A B (L ++ [(x, y)]) L') (hc : Closed A B (fun p q => (p, q) ∈ L') x y) : Grew A B L L' ∧ (x, y) ∈ L' := by
  refine ⟨⟨h.held, fun p hp => h.old p (by simp [hp]), fun p hp => ?_, by have := h.len; simp at this; omega⟩, h.old _ (by simp)⟩
  rcases h.new p hp with h1 | h1
  · rcases List.mem_append.1 h1 with h2 | h2
    · exact .inl h2
    · rw [List.mem_singleton.1 h2]; exact .inr hc
  · exact .inr h1
theorem Grew.sim {A B : List TypeD} {L : List (Int × Int)} (h : Grew A B [] L) {x y : Int} (hxy : (x, y) ∈ L) : Sim A B x y :=
  ⟨fun p q => (p, q) ∈ L, hxy, fun p q hpq => (h.new (p, q) hpq).elim (fun h => by cases h) id⟩
theorem Held.put {A B : List TypeD} {L : List (Int × Int)} (h : Held A B L) {p : Int × Int} (hp : inTables A B p) (hn : p ∉ L) : Held A B (L ++ [p]) :=
  ⟨fun q hq => by
    rcases List.mem_append.1 hq with h1 | h1
    · exact h.here q h1
    · rw [List.mem_singleton.1 h1]; exact hp, by
    rw [List.nodup_append]
    exact ⟨h.once, by simp, fun a ha b hb e => by rw [List.mem_singleton.1 hb] at e; exact hn (e ▸ ha)⟩⟩

theorem Held.most {A B : List TypeD} {L : List (Int × Int)} (h : Held A B L) (hA : A.length ≤ 24) (hB : B.length ≤ 24) : L.length ≤ 576 := by
  have hinj : ∀ p ∈ L, ∀ q ∈ L, p.1 * 24 + p.2 = q.1 * 24 + q.2 → p = q := fun p hp q hq e => by
    have h1 := h.here p hp
    have h2 := h.here q hq
    unfold inTables at h1 h2
    exact Prod.ext (by omega) (by omega)
  have hnd : (L.map (fun p => p.1 * 24 + p.2)).Nodup := by
    have : ∀ M : List (Int × Int), (∀ p ∈ M, p ∈ L) → M.Nodup → (M.map (fun p => p.1 * 24 + p.2)).Nodup := by
      intro M
      induction M with
      | nil => intro _ _; exact List.nodup_nil
      | cons p M ih =>
        intro hM hn
        rw [List.nodup_cons] at hn
        rw [List.map_cons, List.nodup_cons]
        refine ⟨fun hm => ?_, ih (fun q hq => hM q (by simp [hq])) hn.2⟩
        obtain ⟨q, hq, e⟩ := List.mem_map.1 hm
        have := hinj q (hM q (by simp [hq])) p (hM p (by simp)) e
        exact hn.1 (this ▸ hq)
    exact this L (fun _ h => h) h.once
  have := nodup_most 576 _ hnd (fun z hz => by
    obtain ⟨p, hp, rfl⟩ := List.mem_map.1 hz
    have h1 := h.here p hp
    unfold inTables at h1
    omega)
  simpa using this

theorem wfInt {a : Int} (h : 0 ≤ a) (h1 : a < 24) : (Lit.int .i64 a).wf = true := by
  simp [Lit.wf]
  have : IntKind.i64.min = -9223372036854775808 := rfl
  omega
theorem keyOf_twoI {P : Program} {k s : TypeId} {f0 f1 : Field} (hk : P.underlying k = some (.struct #[f0, f1])) (h0 : f0.type = s) (h1 : f1.type = s) (o0 : f0.offset = 0) (o1 : f1.offset = 1) (n0 : (f0.name != "_") = true) (n1 : (f1.name != "_") = true)
    (hs : P.underlying s = some (.int .i64)) (hc : P.cellsOf k = 2) (hcs : P.cellsOf s = 1) (hkt : P.keyType k = true) (hsz : 0 < P.types.size) {a b : Int} (ha : (Lit.int .i64 a).wf = true) (hb : (Lit.int .i64 b).wf = true) :
    keyOf P k (.agg #[.int .i64 a, .int .i64 b]) = some (.string (keyBytes [.int .i64 a, .int .i64 b])) := by
  obtain ⟨m, hm⟩ : ∃ m, P.types.size = m + 1 := ⟨P.types.size - 1, by omega⟩
  have key : ∀ c : Int, (Lit.int .i64 c).wf = true → P.keyLits (m + 1) s [.int .i64 c] = some [.int .i64 c] := fun c h => by
    unfold Program.keyLits
    rw [hs]
    simp [h]
  have hl : P.keyLits (P.types.size + 1) k [.int .i64 a, .int .i64 b] = some [.int .i64 a, .int .i64 b] := by
    rw [hm]
    unfold Program.keyLits
    rw [hk]
    simp [hc, n0, n1, h0, h1, o0, o1, hcs, key a ha, key b hb]
  unfold keyOf
  rw [hk]
  simp only [hkt, Value.formed, hk, hc, Bool.true_and]
  rw [if_pos (by rfl)]
  show (P.keyLits (P.types.size + 1) k [.int .i64 a, .int .i64 b]).map _ = _
  rw [hl]
  rfl

theorem laidOutQ : laidOutB Tryz.prog = true := by kernel_rfl
def pairK (a b : Int) : Lit := .string (keyBytes [.int .i64 a, .int .i64 b])
/-- The map tells which pairs are held. -/
def toldP (A B : List TypeD) (L : List (Int × Int)) (f : Lit → Bool) : Prop := ∀ p q : Int, inTables A B (p, q) → (f (pairK p q) = true ↔ (p, q) ∈ L)
end Go.Proofs.YtllddjmcemcdhaaGreat
