
/-
  What is proved: what a draw of types keeps while one type is made; a contract of the model's l1Num for one digit. No condition beside what each theorem states.
-/
import Derived.Test.YtnhdijkaakjdgaaMark
import Derived.Test.YtnhdijkaakjdgaaStType
import Derived.Test.YtnhdijkaakjdgaaSType
import Derived.Test.YtnhdijkaakjdgaaDrawStr
import Derived.Test.YtnhdijkaakjdgaaDrawMixAll
import Derived.Deep.RegionHeld3
import Derived.Deep.AppendLies
namespace Go.Proofs.Ytnhdijkaakjdgaa
open Go.ChangeShapes Go.WideShapes Go.ChangeAt Go.RowKit
set_option maxRecDepth 100000

/-- While a type is made at block bt, its fields in a row of their own: of what was there only the cursor at g has turned. -/
structure St (g bt : Nat) (w0 : World) (cells : Array Value) (fv : Value) (fs : List FieldD) (w : World) (k : Nat) : Prop where
  cur : Cur w g k
  on : Only g w0 w
  box : Box w bt 31 cells
  own : OwnG fieldS 93 w0.heap.size Nowhere w fv fs
  lo : w0.heap.size ≤ bt
  g0 : g < w0.heap.size
  ne : ∀ q, fv.ownBlock = some q → q ≠ bt
section
variable {g bt k : Nat} {w0 w w' : World} {cells : Array Value} {fv : Value} {fs : List FieldD}
theorem St.pick (h : St g bt w0 cells fv fs w k) {k' : Nat} (hc : Cur w' g k') (ho : Only g w w') : St g bt w0 cells fv fs w' k' where
  cur := hc
  on := h.on.trans ho
  box := h.box.only ho (by have := h.lo; have := h.g0; omega)
  own := h.own.keep (fun q hq hl => ho.block q hl (fun e => by
    rcases hq with h1 | h1
    · exact h1.elim
    · have := (h.own.lt q h1).1; have := h.g0; injection e with e; omega)) ho.size
  lo := h.lo
  g0 := h.g0
  ne := h.ne
theorem St.below (h : St g bt w0 cells fv fs w k) (hb : Below w.heap.size w w') : St g bt w0 cells fv fs w' k where
  cur := h.cur.below hb h.cur.lt
  on := h.on.trans (Only.ofBelow hb)
  box := h.box.below hb h.box.lt
  own := h.own.below hb
  lo := h.lo
  g0 := h.g0
  ne := h.ne
theorem St.alloc (h : St g bt w0 cells fv fs w k) (o : Obj) : St g bt w0 cells fv fs (w.alloc o) k := h.below ((Below.refl _ _).alloc (Nat.le_refl _) o)
theorem St.set (h : St g bt w0 cells fv fs w k) (j : Nat) (v : Value) : St g bt w0 (cells.setIfInBounds j v) fv fs (w.setCell ⟨bt, j, none⟩ v) k := by
  have hne : bt ≠ g := by have := h.lo; have := h.g0; omega
  have hon : Only bt w (w.setCell ⟨bt, j, none⟩ v) := (Only.refl bt w).set j v
  refine ⟨?_, ⟨hon.os.trans h.on.os, hon.tape.trans h.on.tape, hon.output.trans h.on.output, Nat.le_trans h.on.size hon.size, fun b hb hn => (hon.block b (Nat.lt_of_lt_of_le hb h.on.size) (fun e => by injection e with e; have := h.lo; omega)).trans (h.on.block b hb hn)⟩, h.box.set j v, ?_, h.lo, h.g0, h.ne⟩
  · obtain ⟨a, len, cap, j', seed, h1, h2, h3, h4, h5⟩ := h.cur
    exact ⟨a, len, cap, j', seed, h1.only hon (Ne.symm hne), h2, h3, h4, fun i hi => by
      obtain ⟨b, o, z, e, hb, hc, hz⟩ := h5 i hi
      exact ⟨b, o, z, e, hb, (World.cell?_of_block (hon.block b (by have := h1.lt; omega) (fun e => by injection e with e; have := h.lo; have := h.g0; omega))).trans hc, hz⟩⟩
  · exact h.own.keep (fun q hq hl => hon.block q hl (fun e => by
      rcases hq with h1 | h1
      · exact h1.elim
      · injection e with e; exact h.ne q h1 e)) hon.size
theorem St.keepG (h : St g bt w0 cells fv fs w k) {S : Type} {s : Shape S} {e : TypeId} {B : Nat} {v : Value} {l : List S} (ho : OwnG s e B (fun q => B ≤ q) w0 v l) (hg : g < B) : OwnG s e B (fun q => B ≤ q ∧ q < w0.heap.size) w v l :=
  (ho.mono (P' := fun q => B ≤ q ∧ q < w0.heap.size) (fun q hq hl => ⟨hq, hl⟩)).keep (fun q hq hl => h.on.block q hl (fun e => by
    injection e with e
    rcases hq with h1 | h1
    · have := h1.1; omega
    · have := (ho.lt q h1).1; omega)) h.on.size
end
theorem infoFieldR : (Try.prog.info? 93).map (fun i => (i.zero, i.size, i.bytes)) = some (some (.agg #[.string ByteArray.empty, .int .i64 0, .int .i64 0]), 3, 32) := by kernel_rfl
theorem sl1Num (n : Int) (w : World) (h0 : 0 ≤ n) (h1 : n < 10) : Calls Try.prog 77 #[.int .i64 n] w fun e w' => ∃ s : ByteArray, s.size = 1 ∧ e = .returned (.string s) ∧ Below w.heap.size w w' := by
  have kc := conv1
  have hs : ∀ z, (strOfNums [z]).size = 1 := fun z => by rw [strOfNums_size]; rfl
  go_enter Try.func77, Try.ntmps77
  go_wp2_with fail
  go_ret
  exact ⟨_, hs _, rfl, (Below.refl _ _).alloc (Nat.le_refl _) _⟩
/-- What drawn types are like. -/
def drawnT (n : Nat) (t : TypeD) : Prop := t.fFields.length ≤ 3 ∧ t.fOwner.size ≤ 20 ∧ t.fName.size ≤ 20 ∧ (∀ f ∈ t.fFields, f.fName.size ≤ 20) ∧ (t.fKind = 6 → 0 ≤ t.fBase ∧ t.fBase < (n : Int))
theorem St.push {g bt k : Nat} {w0 w w' : World} {cells : Array Value} {fv fv' : Value} {fs : List FieldD} {f : FieldD} (h : St g bt w0 cells fv fs w k) (hown : OwnG fieldS 93 w0.heap.size Nowhere w' fv' (fs ++ [f])) (hg : w.grownBy w' fv.ownBlock) (hv : fv'.ownBlock = fv.ownBlock ∨ fv'.ownBlock = some w.heap.size) : St g bt w0 cells fv' (fs ++ [f]) w' k where
  cur := h.cur.grown hg (fun r hr => by have := (h.own.lt r hr).1; have := h.g0; omega)
  on := ⟨hg.os.trans h.on.os, hg.tape.trans h.on.tape, hg.output.trans h.on.output, Nat.le_trans h.on.size hg.size, fun b hb hn => (hg.block b (Nat.lt_of_lt_of_le hb h.on.size) (fun e => by have := (h.own.lt b e.symm).1; omega)).trans (h.on.block b hb hn)⟩
  box := (hg.block bt h.box.lt (fun e => h.ne bt e.symm rfl)).trans h.box
  own := hown
  lo := h.lo
  g0 := h.g0
  ne := fun q hq => by
    rcases hv with e | e
    · exact h.ne q (e ▸ hq)
    · rw [e] at hq
      injection hq with hq
      have := h.box.lt
      omega
/-- append of one element to a row that the call owns, in a region whose order is left open. -/
theorem step_pushG {Pr : Program} {T : Type} {ops : Array Oper} {o : Oper} {a : Act} {K : Act → World → Prop} {Q : Exit → Act → World → Prop} {E : Prop} (hgd : o.guard = none) (s x : Operand) (t : TypeId)
    (ho : o.op = .call { callee := .builtin .append, args := #[s, x], argTypes := #[t, t] }) (S : Shape T) (e : TypeId) (i : TypeInfo) (z : Value) (bytes : Nat) (ht : Pr.underlying t = some (.slice e)) (hi : Pr.info? e = some i) (hz : i.zero = some z) (hsize : i.size = S.n) (hby : i.bytes = bytes) (hzs : z.cells.size = S.n) (hsz : 0 < S.n) (hb1 : bytes ≤ 1000)
    (B : Nat) (P : Nat → Prop) (w : World) (v : Value) (l : List T) (hs : a.eval s = v) (hown : OwnG S e B P w v l) (u : T) (cs : List Value) (g c : Nat) (hx : a.eval x = .slice (some ⟨g, 0, none⟩) 1 c) (hg : ∀ j, j < S.n → w.cell? ⟨g, j, none⟩ = cs[j]?) (hu : S.At (fun q => P q ∧ v.ownBlock ≠ some q) w cs u) (h1 : ∀ y ∈ cs, y.oneCell' = true)
    (h63 : l.length ≤ 1048577) (hbase : B ≤ w.heap.size)
    (h : ∀ va vn vc w', OwnG S e B P w' (.slice va vn vc) (l ++ [u]) → w.grownBy w' v.ownBlock → ((Value.slice va vn vc).ownBlock = v.ownBlock ∨ (Value.slice va vn vc).ownBlock = some w.heap.size) → K (a.put o.dst (.slice va vn vc)) w') : if Region.wanted o (yielded ops a.tmps) = true then Oper.wp Pr o a w K Q else E := by
  obtain ⟨xs, r1, r2⟩ := hown.row
  have hl := S.len hu
  refine step_append_lies w hgd s x t ho B e i z S.n bytes ht hi hz hsize hby hzs hsz v l.length xs hs r1 ⟨g, 0, none⟩ 1 c cs hx (by rw [hl, Nat.one_mul]) (fun j y hj => ?_) h1 (by omega) (by unfold maxLen; omega) ?_ hbase _ rfl (fun g' cap w' k1 k2 k3 _ => ?_)
  · have e : (⟨g, 0, none⟩ : Addr).add j = ⟨g, j, none⟩ := by unfold Addr.add; split <;> simp_all
    have hj2 : j < cs.length := by
      by_cases h : j < cs.length
      · exact h
      · rw [List.getElem?_eq_none (by omega)] at hj; cases hj
    rw [e, hg j (by omega)]
    exact hj
  · exact Nat.le_trans (Nat.mul_le_mul (show l.length + 1 ≤ 1048578 by omega) hb1) (by decide)
  · have hv : (Value.slice (some ⟨g', 0, none⟩) (l.length + 1) cap).ownBlock = v.ownBlock ∨ (Value.slice (some ⟨g', 0, none⟩) (l.length + 1) cap).ownBlock = some w.heap.size := by
      rw [ownBlock_slice]
      rcases k3 with e | e
      · exact .inl e.symm
      · exact .inr (by rw [e])
    exact h _ _ _ w' (OwnG.pushed r1 r2 hu k1 k2 hv) k2 hv
theorem cells6T {w : World} {g : Nat} {t : TypeId} {c0 c1 c2 c3 c4 c5 : Value} (h : Box w g t #[c0, c1, c2, c3, c4, c5]) : w.cell? ⟨g, 0, none⟩ = some c0 ∧ w.cell? ⟨g, 1, none⟩ = some c1 ∧ w.cell? ⟨g, 2, none⟩ = some c2 ∧ w.cell? ⟨g, 3, none⟩ = some c3 ∧ w.cell? ⟨g, 4, none⟩ = some c4 ∧ w.cell? ⟨g, 5, none⟩ = some c5 := ⟨h.cell 0, h.cell 1, h.cell 2, h.cell 3, h.cell 4, h.cell 5⟩
theorem Only.grownB {g : Nat} {w w' w'' : World} {row : Option Nat} (h : Only g w w') (hg : w'.grownBy w'' row) (hr : ∀ r, row = some r → w.heap.size ≤ r) : Only g w w'' :=
  ⟨hg.os.trans h.os, hg.tape.trans h.tape, hg.output.trans h.output, Nat.le_trans h.size hg.size, fun b hb hn => (hg.block b (Nat.lt_of_lt_of_le hb h.size) (fun e => by have := hr b e.symm; omega)).trans (h.block b hb hn)⟩
theorem St.rows {g bt k : Nat} {w0 w : World} {cells : Array Value} {fv : Value} {fs : List FieldD} (h : St g bt w0 cells fv fs w k) : ∃ a c, fv = .slice a fs.length c ∧ fs.length ≤ c ∧ Rows fieldS (fun q => w0.heap.size ≤ q) w a fs := by
  obtain ⟨a, c, e, h1, _, h2⟩ := OwnG.rows (Q := fun q => w0.heap.size ≤ q) h.own (fun q hq _ => hq.elim) (fun q hq => (h.own.lt q hq).1)
  exact ⟨a, c, e, h1, h2⟩
/-- That a block of so many is not frozen. -/
def thawZ (w : World) (a : Option Addr) (n : Nat) : Prop := 0 < n → ∀ b o i, a = some ⟨b, o, none⟩ → w.frozen? ⟨b, i, none⟩ = false
def typeZAt (Q : Nat → Prop) (w : World) (cs : List Value) (t : TypeD) : Prop := ∃ (a3 : Option Addr) (c3 : Nat), cs = [.int .i64 t.fKind, .int .i64 t.fLong, .int .i64 t.fBase, .slice a3 t.fFields.length c3, .string t.fOwner, .string t.fName] ∧ Rows fieldS Q w a3 t.fFields ∧ t.fFields.length ≤ c3 ∧ thawZ w a3 t.fFields.length
theorem thawZ.keep {Q : Nat → Prop} {w w' : World} {a : Option Addr} {l : List FieldD} (h : thawZ w a l.length) (hr : Rows fieldS Q w a l) (hb : ∀ q, Q q → q < w.heap.size → w'.heap[q]? = w.heap[q]?) : thawZ w' a l.length := by
  intro hn b o i e
  obtain ⟨b', o', cs, e', h1, h2, _, _⟩ := hr 0 hn
  rw [e] at e'
  injection e' with e'
  injection e' with e1 e2
  subst e1
  have := h hn b o i e
  unfold World.frozen? at this ⊢
  rw [hb b h1 h2]
  exact this
/-- A drawn type in memory: as it lies, and its fields not frozen. -/
def typeZ : Shape TypeD where
  n := 6
  At := typeZAt
  len h := by obtain ⟨a3, c3, rfl, h3⟩ := h; rfl
  keep h hb hs := by obtain ⟨a3, c3, rfl, h3, h4, h5⟩ := h; exact ⟨a3, c3, rfl, h3.keep hb hs, h4, h5.keep h3 hb⟩
  mono h hq := by obtain ⟨a3, c3, rfl, h3, h4, h5⟩ := h; exact ⟨a3, c3, rfl, h3.mono hq, h4, h5⟩
theorem St.thaw {g bt k : Nat} {w0 w : World} {cells : Array Value} {a : Option Addr} {n c : Nat} {fs : List FieldD} (h : St g bt w0 cells (.slice a n c) fs w k) : thawZ w a fs.length := by
  intro hn b o i e
  rcases h.own with ⟨h1, h2⟩ | ⟨b', cap, cur, hv, _, hb, _⟩
  · subst h2; exact absurd hn (by simp)
  · injection hv with hv
    rw [e] at hv
    injection hv with hv
    injection hv with hv
    subst hv
    exact Box.free hb i
/-- What is to be appended. -/
theorem St.at_ {g bt k B : Nat} {w0 w : World} {cells : Array Value} {fv lv : Value} {fs : List FieldD} {l : List TypeD} (h : St g bt w0 cells fv fs w k) (hl : OwnG typeZ 31 B (fun q => B ≤ q) w0 lv l) (hB : B ≤ w0.heap.size) (kd lg bs : Int) (ow nm : ByteArray) :
    typeZ.At (fun q => B ≤ q ∧ lv.ownBlock ≠ some q) w [.int .i64 kd, .int .i64 lg, .int .i64 bs, fv, .string ow, .string nm] ⟨kd, lg, bs, fs, ow, nm⟩ := by
  obtain ⟨a, c, rfl, h1, h2⟩ := h.rows
  exact ⟨a, c, rfl, h2.mono (fun q hq _ => ⟨by omega, fun e => by have := (hl.lt q e).2; omega⟩), h1, h.thaw⟩
theorem onceT {S G : Prop} (heavy : S) (rest : S → G) : G := rest heavy
/-- One type of a row set anew in its Kind and its Base. -/
theorem row_setKB {B b n c k : Nat} {w : World} {l : List TypeD} (h : OwnG typeZ 31 B (fun q => B ≤ q) w (.slice (some ⟨b, 0, none⟩) n c) l) (hk : k < l.length) (x y : Int) :
    OwnG typeZ 31 B (fun q => B ≤ q) ((w.setCell ⟨b, k * 6, none⟩ (.int .i64 x)).setCell ⟨b, k * 6 + 2, none⟩ (.int .i64 y)) (.slice (some ⟨b, 0, none⟩) n c) (l.set k ⟨x, l[k].fLong, y, l[k].fFields, l[k].fOwner, l[k].fName⟩) := by
  rcases h with ⟨h, _⟩ | ⟨b', cap, cur, hv, h2, h3, h4, h5, h6, h7⟩
  · cases h
  injection hv with hv hn hc
  injection hv with hv
  injection hv with hv
  subst hv hn hc
  have hS : typeZ.n = 6 := rfl
  have hsz : cur.size = c * 6 := h6
  have hkc : k * 6 + 6 ≤ c * 6 := by have := Nat.mul_le_mul_right 6 (show k + 1 ≤ c by omega); omega
  have hon : Only b w ((w.setCell ⟨b, k * 6, none⟩ (.int .i64 x)).setCell ⟨b, k * 6 + 2, none⟩ (.int .i64 y)) := ((Only.refl b w).set _ _).set _ _
  have kp : ∀ {c0 : List Value} {t : TypeD}, typeZ.At (fun q => B ≤ q ∧ q ≠ b) w c0 t → typeZ.At (fun q => B ≤ q ∧ q ≠ b) ((w.setCell ⟨b, k * 6, none⟩ (.int .i64 x)).setCell ⟨b, k * 6 + 2, none⟩ (.int .i64 y)) c0 t := fun hc =>
    typeZ.keep hc (fun q hq hl => hon.block q hl (fun e => by injection e with e; exact hq.2 e)) hon.size
  refine .inr ⟨b, c, (cur.setIfInBounds (k * 6) (.int .i64 x)).setIfInBounds (k * 6 + 2) (.int .i64 y), by rw [List.length_set], h2, (h3.set _ _).set _ _, by rw [List.length_set]; exact h4, h5, by simpa using h6, fun i hi _ => ?_⟩
  rw [List.length_set] at hi
  obtain ⟨c0, d1, d2⟩ := h7 i hi hi
  by_cases hik : i = k
  · subst hik
    obtain ⟨a3, c3, rfl, d3⟩ := d1
    refine ⟨[.int .i64 x, .int .i64 l[i].fLong, .int .i64 y, .slice a3 l[i].fFields.length c3, .string l[i].fOwner, .string l[i].fName], ?_, fun j hj => ?_⟩
    · rw [List.getElem_set_self]
      obtain ⟨a3', c3', e, d3'⟩ := kp (t := l[i]) ⟨a3, c3, rfl, d3⟩
      injection e with _ e
      injection e with _ e
      injection e with _ e
      injection e with e _
      injection e with e1 _ e2
      subst e1 e2
      exact ⟨a3, c3, rfl, d3'⟩
    · rw [hS] at hj d2 ⊢
      have hold := d2 j hj
      rw [Nat.zero_add] at hold ⊢
      match j, hj with
      | 0, _ => rw [Array.getElem?_setIfInBounds, if_neg (by omega), Array.getElem?_setIfInBounds, if_pos (by omega), if_pos (by omega)]; rfl
      | 1, _ => rw [Array.getElem?_setIfInBounds, if_neg (by omega), Array.getElem?_setIfInBounds, if_neg (by omega), hold]; rfl
      | 2, _ => rw [Array.getElem?_setIfInBounds, if_pos (by omega), if_pos (by simp; omega)]; rfl
      | 3, _ => rw [Array.getElem?_setIfInBounds, if_neg (by omega), Array.getElem?_setIfInBounds, if_neg (by omega), hold]; rfl
      | 4, _ => rw [Array.getElem?_setIfInBounds, if_neg (by omega), Array.getElem?_setIfInBounds, if_neg (by omega), hold]; rfl
      | 5, _ => rw [Array.getElem?_setIfInBounds, if_neg (by omega), Array.getElem?_setIfInBounds, if_neg (by omega), hold]; rfl
  · refine ⟨c0, by rw [List.getElem_set_ne (by omega)]; exact kp d1, fun j hj => ?_⟩
    rw [← d2 j hj, Nat.zero_add, hS]
    rw [hS] at hj
    have h8 : ∀ m, m < 6 → i * 6 + j ≠ k * 6 + m := fun m hm e => by
      rcases Nat.lt_or_ge i k with h | h
      · have := Nat.mul_le_mul_right 6 (show i + 1 ≤ k by omega); omega
      · have := Nat.mul_le_mul_right 6 (show k + 1 ≤ i by omega); omega
    rw [Array.getElem?_setIfInBounds, if_neg (fun e => h8 2 (by omega) e.symm), Array.getElem?_setIfInBounds, if_neg (fun e => h8 0 (by omega) (by omega))]
theorem OwnG.boxOf {T : Type} {S : Shape T} {e : TypeId} {B b n c : Nat} {P : Nat → Prop} {w : World} {l : List T} (h : OwnG S e B P w (.slice (some ⟨b, 0, none⟩) n c) l) : ∃ cur, Box w b e cur ∧ B ≤ b := by
  rcases h with ⟨h, _⟩ | ⟨b', cap, cur, hv, h2, h3, _⟩
  · cases h
  · injection hv with hv
    injection hv with hv
    injection hv with hv
    subst hv
    exact ⟨cur, h3, h2⟩
theorem Cur.far {w w' : World} {g b k : Nat} (h : Cur w g k) (ho : Only b w w') (hb : g < b) : Cur w' g k := by
  obtain ⟨a, len, cap, j', seed, h1, h2, h3, h4, h5⟩ := h
  exact ⟨a, len, cap, j', seed, h1.only ho (by omega), h2, h3, h4, fun i hi => by
    obtain ⟨b', o, z, e, hb', hc, hz⟩ := h5 i hi
    exact ⟨b', o, z, e, hb', (World.cell?_of_block (ho.block b' (by have := h1.lt; omega) (fun e => by injection e with e; omega))).trans hc, hz⟩⟩
theorem Only.far {g b : Nat} {w0 w w' : World} (h : Only g w0 w) (ho : Only b w w') (hb : w0.heap.size ≤ b) : Only g w0 w' :=
  ⟨ho.os.trans h.os, ho.tape.trans h.tape, ho.output.trans h.output, Nat.le_trans h.size ho.size, fun q hq hn => (ho.block q (Nat.lt_of_lt_of_le hq h.size) (fun e => by injection e with e; omega)).trans (h.block q hq hn)⟩
end Go.Proofs.Ytnhdijkaakjdgaa
