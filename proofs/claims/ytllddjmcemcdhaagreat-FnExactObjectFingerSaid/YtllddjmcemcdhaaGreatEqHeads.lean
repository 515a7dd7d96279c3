
/-
  What is proved: comparisons of the heads of types; what the program's alike tells; pairs of numbers compared; a row of pairs that the call owns, and append on it; what the model's same tells. No condition beside what each theorem states.
-/
import Derived.Test.YtllddjmcemcdhaaGreatSim
import Derived.Test.YtllddjmcemcdhaaGreatIShaped
import Derived.BigRegion
namespace Go.Proofs.YtllddjmcemcdhaaGreat
open Go.ChangeShapes Go.WideShapes Go.ChangeAt Go.RowKit Go.Maps Go.WideMaps

/-- The cells of a type. -/
theorem type_at {Q : Nat → Prop} {w : World} {a : Option Addr} {l : List TypeD} {n : Nat} (hr : Rows typeS Q w a l) (hn : n < l.length) :
    ∃ b o a3 c3, a = some ⟨b, o, none⟩ ∧ b < w.heap.size ∧ Q b ∧ w.cell? ⟨b, o + n * 6, none⟩ = some (.int .i64 l[n].fKind) ∧ w.cell? ⟨b, o + n * 6 + 1, none⟩ = some (.int .i64 l[n].fLong) ∧ w.cell? ⟨b, o + n * 6 + 2, none⟩ = some (.int .i64 l[n].fBase) ∧
      w.cell? ⟨b, o + n * 6 + 3, none⟩ = some (.slice a3 l[n].fFields.length c3) ∧ w.cell? ⟨b, o + n * 6 + 4, none⟩ = some (.string l[n].fOwner) ∧ w.cell? ⟨b, o + n * 6 + 5, none⟩ = some (.string l[n].fName) ∧ Rows fieldS Q w a3 l[n].fFields := by
  obtain ⟨b, o, cs, rfl, hq, hb1, hc1, hat⟩ := hr n hn
  obtain ⟨a3, c3, rfl, hrf, hfc⟩ := hat
  have e0 := hc1 0 (by decide)
  have e1 := hc1 1 (by decide)
  have e2 := hc1 2 (by decide)
  have e3 := hc1 3 (by decide)
  have e4 := hc1 4 (by decide)
  have e5 := hc1 5 (by decide)
  simp at e0 e1 e2 e3 e4 e5
  exact ⟨b, o, a3, c3, rfl, hb1, hq, e0, e1, e2, e3, e4, e5, hrf⟩
abbrev typeA (t : TypeD) (a3 : Option Addr) (c3 : Nat) : Array Value := #[.int .i64 t.fKind, .int .i64 t.fLong, .int .i64 t.fBase, .slice a3 t.fFields.length c3, .string t.fOwner, .string t.fName]
theorem Rows.only {T : Type} {S : Shape T} {g : Nat} {w w' : World} {a : Option Addr} {l : List T} (h : Rows S (fun b => b ≠ g) w a l) (ho : Only g w w') : Rows S (fun b => b ≠ g) w' a l :=
  h.keep (fun b hb hl => ho.block b hl (fun e => hb (by injection e))) ho.size

theorem part_cell {P : Program} {s : TypeId} (h : (match P.underlying s with | some .string | some (.int _) | some .bool => true | _ => false) = true) (cs : Array Value) (k : Nat) (W : World) : (part s cs k).run P W = (match cs[k]? with | some v => (pure v : Sem Value) | none => stuck "part: no such cell").run P W := by
  cases hu : P.underlying s with
  | none => rw [hu] at h; cases h
  | some d =>
    rw [hu] at h
    cases d <;> first | (cases h; done) | (simp [part, isAgg, run_underlying hu, Result.andThen]; cases cs[k]? <;> rfl)
theorem eqTwo {P : Program} {t s : TypeId} {f0 f1 : Field} (hk : P.underlying t = some (.struct #[f0, f1])) (hp : P.stoodInHeld t = false)
    (n0 : (f0.name != "_") = true) (n1 : (f1.name != "_") = true) (t0 : f0.type = s) (t1 : f1.type = s) (o0 : f0.offset = 0) (o1 : f1.offset = 1) (hs : P.underlying s = some .string)
    (d : Nat) (o n o' n' : ByteArray) (W : World) : (Op.equalIn (d + 1 + 1) t (.agg #[.string o, .string n]) (.agg #[.string o', .string n'])).run P W = .ok ((o.toList == o'.toList) && (n.toList == n'.toList)) W := by
  have hf : P.fieldsOf t = #[f0, f1] := by unfold Program.fieldsOf; rw [hk]
  have ps := part_cell (P := P) (s := s) (by rw [hs])
  rw [bne_iff_ne] at n0 n1
  rw [run_equalIn_struct W (d + 1) t _ _ (by rw [hf]; exact hk) hp, hf]
  simp only [Op.eqFields, n0, n1, ne_eq, not_false_eq_true, if_true, t0, t1, o0, o1]
  cases h0 : (o.toList == o'.toList) <;> cases h1 : (n.toList == n'.toList) <;>
    simp [Sem.run_bind, ps, run_equalIn_string _ d s _ _ hs, Result.andThen, h0, h1]
theorem eqFive {P : Program} {t c i b s : TypeId} {f0 f1 f2 f3 f4 g0 g1 : Field} (hk : P.underlying t = some (.struct #[f0, f1, f2, f3, f4])) (hp : P.stoodInHeld t = false)
    (n0 : (f0.name != "_") = true) (n1 : (f1.name != "_") = true) (n2 : (f2.name != "_") = true) (n3 : (f3.name != "_") = true) (n4 : (f4.name != "_") = true)
    (t0 : f0.type = c) (t1 : f1.type = i) (t2 : f2.type = i) (t3 : f3.type = i) (t4 : f4.type = b)
    (o0 : f0.offset = 0) (o1 : f1.offset = 2) (o2 : f2.offset = 3) (o3 : f3.offset = 4) (o4 : f4.offset = 5)
    (hc : P.underlying c = some (.struct #[g0, g1])) (hcp : P.stoodInHeld c = false) (m0 : (g0.name != "_") = true) (m1 : (g1.name != "_") = true) (u0 : g0.type = s) (u1 : g1.type = s) (q0 : g0.offset = 0) (q1 : g1.offset = 1) (hcs : (P.info? c).map (·.size) = some 2)
    (hs : P.underlying s = some .string) (hi : P.underlying i = some (.int .i64)) (hb : P.underlying b = some .bool)
    (o n o' n' : ByteArray) (kd lg l3 kd' lg' l3' : Int) (q q' : Bool) (W : World) : (Op.equalIn 10000 t (.agg #[.string o, .string n, .int .i64 kd, .int .i64 lg, .int .i64 l3, .bool q]) (.agg #[.string o', .string n', .int .i64 kd', .int .i64 lg', .int .i64 l3', .bool q'])).run P W =
    .ok ((o.toList == o'.toList) && ((n.toList == n'.toList) && ((kd == kd') && ((lg == lg') && ((l3 == l3') && (q == q')))))) W := by
  have hf : P.fieldsOf t = #[f0, f1, f2, f3, f4] := by unfold Program.fieldsOf; rw [hk]
  have pc : ∀ (cs : Array Value) (W : World), (part c cs 0).run P W = .ok (.agg (cs.extract 0 2)) W := fun cs W => by
    cases hq : P.info? c with
    | none => rw [hq] at hcs; cases hcs
    | some i0 =>
      have : i0.size = 2 := by rw [hq] at hcs; simpa using hcs
      simp [part, isAgg, run_underlying hc, Result.andThen, sizeOf, typeInfo, hq, this]
  have pi := part_cell (P := P) (s := i) (by rw [hi])
  have pb := part_cell (P := P) (s := b) (by rw [hb])
  have e2 := eqTwo hc hcp m0 m1 u0 u1 q0 q1 hs 9997
  rw [bne_iff_ne] at n0 n1 n2 n3 n4
  rw [show (10000 : Nat) = 9997 + 1 + 1 + 1 from rfl, run_equalIn_struct W (9997 + 1 + 1) t _ _ (by rw [hf]; exact hk) hp, hf]
  simp only [Op.eqFields, n0, n1, n2, n3, n4, ne_eq, not_false_eq_true, if_true, t0, t1, t2, t3, t4, o0, o1, o2, o3, o4]
  cases h0 : (o.toList == o'.toList) <;> cases h1 : (n.toList == n'.toList) <;> cases h2 : (kd == kd') <;> cases h3 : (lg == lg') <;> cases h4 : (l3 == l3') <;> cases h5 : (q == q') <;>
    simp [Sem.run_bind, pc, pi, pb, e2, run_equalIn_int _ (9997 + 1) i _ _ _ _ hi, run_equalIn_bool' _ (9997 + 1) b _ _ hb, Result.andThen, h0, h1, h2, h3, h4, h5]
theorem eqHeads (o n o' n' : ByteArray) (kd lg n3 kd' lg' n3' : Int) (hb hb' : Bool) (W : World) : (Op.equalIn 10000 160 (.agg #[.string o, .string n, .int .i64 kd, .int .i64 lg, .int .i64 n3, .bool hb]) (.agg #[.string o', .string n', .int .i64 kd', .int .i64 lg', .int .i64 n3', .bool hb'])).run Tryz.prog W =
    .ok ((o.toList == o'.toList) && ((n.toList == n'.toList) && ((kd == kd') && ((lg == lg') && ((n3 == n3') && (hb == hb')))))) W :=
  eqFive Tryz.underlying160 (by kernel_rfl) (by decide) (by decide) (by decide) (by decide) (by decide) rfl rfl rfl rfl rfl rfl rfl rfl rfl rfl Tryz.underlying158 (by kernel_rfl) (by decide) (by decide) rfl rfl rfl rfl (by kernel_rfl) Tryz.underlying9 Tryz.underlying3 Tryz.underlying4 o n o' n' kd lg n3 kd' lg' n3' hb hb' W
theorem heads_bool {t u : TypeD} : ((t.fOwner.toList == u.fOwner.toList) && ((t.fName.toList == u.fName.toList) && ((t.fKind == u.fKind) && ((t.fLong == u.fLong) && (((t.fFields.length : Int) == (u.fFields.length : Int)) && ((t.fBase != -1) == (u.fBase != -1))))))) = true ↔ headsEq t u := by
  have e : ∀ a b : ByteArray, a.toList = b.toList ↔ a = b := fun a b => ⟨fun h => ByteArray.ext (Array.ext' (by simpa [ByteArray.toList_eq] using h)), fun h => by rw [h]⟩
  unfold headsEq
  simp only [Bool.and_eq_true, beq_iff_eq, e]
  have h2 : ((t.fBase != -1) = (u.fBase != -1)) ↔ (t.fBase = -1 ↔ u.fBase = -1) := by
    by_cases h1 : t.fBase = -1 <;> by_cases h2 : u.fBase = -1 <;> simp [h1, h2]
    rw [bne_iff_ne.2 h1, bne_iff_ne.2 h2]
  rw [h2]
  constructor
  · rintro ⟨h0, h1, h2, h3, h4, h5⟩; exact ⟨h0, h1, h2, h3, by omega, h5⟩
  · rintro ⟨h0, h1, h2, h3, h4, h5⟩; exact ⟨h0, h1, h2, h3, by omega, h5⟩
open Classical in
noncomputable def headB (t u : TypeD) : Bool := decide (headsEq t u)

theorem once {S G : Prop} (heavy : S) (rest : S → G) : G := rest heavy
end Go.Proofs.YtllddjmcemcdhaaGreat

namespace Go.Proofs.YtllddjmcemcdhaaGreat
open Go.ChangeShapes Go.WideShapes Go.ChangeAt Go.RowKit Go.Maps Go.WideMaps

theorem eqItemsI (xs ys : Array Value) (f g : Nat → Int) (w : World) : ∀ (is : List Nat), (∀ i ∈ is, xs[i]? = some (.int .i64 (f i)) ∧ ys[i]? = some (.int .i64 (g i))) →
    (Op.eqItems 9999 3 1 xs ys is).run Tryz.prog w = .ok (is.all fun i => f i == g i) w
  | [], _ => by simp [Op.eqItems]
  | i :: is, h => by
    have hk : Tryz.prog.plainKey 3 = true := by kernel_rfl
    have ku : ∀ (a b : Int) (W : World), (Op.equalIn 9999 3 (.int .i64 a) (.int .i64 b)).run Tryz.prog W = .ok (a == b) W := fun a b W => run_equalIn_int W 9998 3 .i64 .i64 a b Tryz.underlying3
    obtain ⟨h1, h2⟩ := h i (by simp)
    have ih := eqItemsI xs ys f g w is (fun j hj => h j (by simp [hj]))
    simp only [Op.eqItems, Sem.run_bind, Nat.mul_one, run_part_plain w hk h1, run_part_plain w hk h2, ku, Result.andThen_ok, List.all_cons]
    cases f i == g i
    · simp
    · simp [ih]
theorem info64' : (Tryz.prog.info? 3).map (fun i => (i.zero, i.size, i.bytes)) = some (some (.int .i64 0), 1, 8) := by kernel_rfl
def heldCells (L : List (Int × Int)) : List Value := L.flatMap fun p => [.int .i64 p.1, .int .i64 p.2]
theorem heldCells_len (L : List (Int × Int)) : (heldCells L).length = L.length * 2 := by
  induction L with
  | nil => rfl
  | cons p L ih => simp only [heldCells, List.flatMap_cons, List.length_append, List.length_cons, List.length_nil] at *; omega
theorem heldCells_at {L : List (Int × Int)} {k : Nat} (h : k < L.length) : (heldCells L)[k * 2]? = some (.int .i64 L[k].1) ∧ (heldCells L)[k * 2 + 1]? = some (.int .i64 L[k].2) := by
  induction L generalizing k with
  | nil => simp at h
  | cons p L ih =>
    have e : heldCells (p :: L) = .int .i64 p.1 :: .int .i64 p.2 :: heldCells L := rfl
    rw [e]
    cases k with
    | zero => exact ⟨rfl, rfl⟩
    | succ k =>
      have := ih (k := k) (by simpa using h)
      rw [show (k + 1) * 2 = k * 2 + 1 + 1 by omega]
      simpa using this
theorem heldCells_snoc (L : List (Int × Int)) (p : Int × Int) : heldCells (L ++ [p]) = heldCells L ++ [.int .i64 p.1, .int .i64 p.2] := by simp [heldCells]
/-- Of what was there only block g and the row's own block have turned. -/
def OnlyH (g : Nat) (v : Value) (w w' : World) : Prop := w'.os = w.os ∧ w'.tape = w.tape ∧ w'.output = w.output ∧ w.heap.size ≤ w'.heap.size ∧ ∀ k, k < w.heap.size → k ≠ g → v.ownBlock ≠ some k → w'.heap[k]? = w.heap[k]?
theorem OnlyH.refl (g : Nat) (v : Value) (w : World) : OnlyH g v w w := ⟨rfl, rfl, rfl, Nat.le_refl _, fun _ _ _ _ => rfl⟩
theorem OnlyH.ofBelow {g : Nat} {v : Value} {w w' : World} (h : Below w.heap.size w w') : OnlyH g v w w' := ⟨h.os, h.tape, h.output, h.size, fun k hk _ _ => h.block k hk⟩
theorem OnlyH.ofGrown {g : Nat} {v : Value} {w w' : World} (h : w.grownBy w' v.ownBlock) : OnlyH g v w w' := ⟨h.os, h.tape, h.output, h.size, fun k hk _ hn => h.block k hk (fun e => hn e.symm)⟩
theorem OnlyH.set {g : Nat} {v : Value} {w w' : World} (h : OnlyH g v w w') (i : Nat) (u : Value) : OnlyH g v w (w'.setCell ⟨g, i, none⟩ u) :=
  ⟨h.1, h.2.1, h.2.2.1, by simpa [World.setCell] using h.2.2.2.1, fun k hk hg hn => (Below.heap_setCell w' ⟨g, i, none⟩ u k hg).trans (h.2.2.2.2 k hk hg hn)⟩
theorem OnlyH.trans {g : Nat} {v v' : Value} {w w' w'' : World} (h : OnlyH g v w w') (h' : OnlyH g v' w' w'') (hv : ∀ k, v'.ownBlock = some k → v.ownBlock = some k ∨ w.heap.size ≤ k) : OnlyH g v w w'' :=
  ⟨h'.1.trans h.1, h'.2.1.trans h.2.1, h'.2.2.1.trans h.2.2.1, Nat.le_trans h.2.2.2.1 h'.2.2.2.1, fun k hk hg hn => (h'.2.2.2.2 k (Nat.lt_of_lt_of_le hk h.2.2.2.1) hg (fun e => (hv k e).elim (fun e => hn e) (fun e => by omega))).trans (h.2.2.2.2 k hk hg hn)⟩
theorem OnlyH.below {g B : Nat} {v : Value} {w w' : World} (h : OnlyH g v w w') (hg : B ≤ g) (hv : ∀ k, v.ownBlock = some k → B ≤ k) (hB : B ≤ w.heap.size) : Below B w w' :=
  ⟨h.1, h.2.1, h.2.2.1, h.2.2.2.1, fun k hk => h.2.2.2.2 k (by omega) (by omega) (fun e => by have := hv k e; omega)⟩
theorem OnlyH.alloc {g : Nat} {v : Value} {w w' : World} (h : OnlyH g v w w') (o : Obj) : OnlyH g v w (w'.alloc o) := h.trans (OnlyH.ofBelow ((Below.refl w'.heap.size w').alloc (Nat.le_refl _) o)) (fun _ hk => .inl hk)
/-- Rows that lie neither in block g nor from B on. -/
theorem Rows.onlyH {T : Type} {S : Shape T} {g B : Nat} {v : Value} {w w' : World} {a : Option Addr} {l : List T} (h : Rows S (fun b => b ≠ g ∧ b < B) w a l) (ho : OnlyH g v w w') (hv : ∀ k, v.ownBlock = some k → B ≤ k) : Rows S (fun b => b ≠ g ∧ b < B) w' a l :=
  h.keep (fun b hb hl => ho.2.2.2.2 b hl hb.1 (fun e => by have := hv b e; omega)) ho.2.2.2.1
theorem Box.onlyH {w w' : World} {g gs : Nat} {v : Value} {t : TypeId} {cs : Array Value} (h : Box w g t cs) (ho : OnlyH gs v w w') (hg : g ≠ gs) (hv : v.ownBlock ≠ Option.some g) : Box w' g t cs := (ho.2.2.2.2 g h.lt hg hv).trans h
end Go.Proofs.YtllddjmcemcdhaaGreat
